/- checkSeen of package ops, rest of the document's answer. -/
import Derived.Test.YtefpdcpcjfjblaaBef
import Derived.Test.YtefpdcpcjfjblaaRefOp
namespace Go.Proofs.Ytefpdcpcjfjblaa
open Go.RowKit

/-- All of a row, with their places. -/
def allB (f : Nat → O → Bool) : Nat → List O → Bool
  | _, [] => true
  | k, o :: l => f k o && allB f (k + 1) l
theorem allB_iff (f : Nat → O → Bool) : ∀ (l : List O) (k : Nat), allB f k l = true ↔ ∀ i (h : i < l.length), f (k + i) l[i] = true
  | [], _ => by simp [allB]
  | o :: l, k => by
    rw [allB, Bool.and_eq_true, allB_iff f l (k + 1)]
    constructor
    · rintro ⟨h1, h2⟩ i hi
      match i with
      | 0 => simpa using h1
      | i + 1 =>
        have := h2 i (by simpa using hi)
        simpa [Nat.add_assoc, Nat.add_comm 1 i] using this
    · intro h
      refine ⟨by have h0 := h 0 (by simp); simp only [Nat.add_zero, List.getElem_cons_zero] at h0; exact h0, fun i hi => ?_⟩
      have := h (i + 1) (by simpa using hi)
      simpa [Nat.add_assoc, Nat.add_comm 1 i] using this
/-- An op of a transaction that may be, at its place. -/
def gd (p s : Int) (v : List Int) (i : Nat) (x : O) : Bool := co x.k x.key x.field x.inner x.act x.n x.text x.p x.s x.i && (z3 x.p x.s x.i || bf x.p x.s x.i p s v ((i : Int) + 1))
/-- What checkSeen tells. -/
def sn (p s : Int) (v : List Int) (t : Int) (l : List O) : Bool := chk v && wi t 1 1099511627776 && decide (l.length ≤ 16) && allB (gd p s v) 0 l
section
variable {p s : Int} {v : List Int} {k : Nat} {x : O}
theorem gd_ref (ha : co x.k x.key x.field x.inner x.act x.n x.text x.p x.s x.i = true) (hb : (decide (x.p = 0) && decide (x.s = 0) && decide (x.i = 0)) = true) : gd p s v k x = true := by
  unfold gd z3
  rw [ha, hb]
  rfl
theorem gd_bef (ha : co x.k x.key x.field x.inner x.act x.n x.text x.p x.s x.i = true) (hc : bf x.p x.s x.i p s v ((k : Int) + 1) = true) : gd p s v k x = true := by
  unfold gd
  rw [ha, hc, Bool.or_true]
  rfl
theorem gd_not (ha : co x.k x.key x.field x.inner x.act x.n x.text x.p x.s x.i = false) : gd p s v k x = false := by
  unfold gd
  rw [ha, Bool.false_and]
theorem gd_none (hb : (decide (x.p = 0) && decide (x.s = 0) && decide (x.i = 0)) = false) (hc : bf x.p x.s x.i p s v ((k : Int) + 1) = false) : gd p s v k x = false := by
  unfold gd z3
  rw [hb, hc, Bool.or_false, Bool.and_false]
theorem all_not {l : List O} {z : Bool} (HZ : Hid (allB (gd p s v) 0 l = z)) (hlt : k < l.length) (HX : Hid (l[k] = x)) (h : gd p s v k x = false) : Hid (z = false) := by
  show z = false
  have hz := HZ.out
  cases z
  · rfl
  · exfalso
    have hz2 := (allB_iff _ l 0).1 hz k hlt
    rw [Nat.zero_add, HX.out, h] at hz2
    cases hz2
end
theorem ok_next {p s : Int} {v : List Int} {l : List O} {k : Nat} (H : Hid (∀ i (h : i < l.length), i < k → gd p s v i l[i] = true)) (hlt : k < l.length) (h : gd p s v k l[k] = true) : Hid (∀ i (h : i < l.length), i < k + 1 → gd p s v i l[i] = true) := by
  show ∀ i (h : i < l.length), i < k + 1 → gd p s v i l[i] = true
  intro i hi hik
  by_cases e : i = k
  · subst e; exact h
  · exact H.out i hi (by omega)
theorem op_ref {w : World} {b : Nat} {x : O} (h : Rw w b 46 #[.int .i64 x.k, .string x.key, .string x.field, .int .i64 x.inner, .int .i64 x.act, .int .i64 x.n, .string x.text, .int .i64 x.p, .int .i64 x.s, .int .i64 x.i]) : w.rangeAt b 7 [.int .i64 x.p, .int .i64 x.s, .int .i64 x.i] := h.range 7 _ fun j u hu => by
  match j with
  | 0 => simpa using hu
  | 1 => simpa using hu
  | 2 => simpa using hu
  | j + 3 => simp at hu
set_option maxRecDepth 100000 in
theorem within_l (n lo hi : Int) (w : World) : Calls Try.prog 33 #[.int .i64 n, .int .i64 lo, .int .i64 hi] w (Leaves (.bool (wi n lo hi)) w) := by
  unfold wi
  go_enter Try.func33, Try.ntmps33
  go_wp2
  all_goals
    go_ret
    refine leaves_bool ?_
    first | (simp_all; done) | grind
end Go.Proofs.Ytefpdcpcjfjblaa
