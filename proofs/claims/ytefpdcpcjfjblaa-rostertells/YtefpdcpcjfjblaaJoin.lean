/- The functions Join, Meet and Leq of package vec. -/
import Derived.Test.YtefpdcpcjfjblaaArr
namespace Go.Proofs.Ytefpdcpcjfjblaa
open Go.RowKit

/-- The greater, the lesser one of each; none of a's is above b's. -/
def jn (a b : List Int) : List Int := List.zipWith max a b
def mt (a b : List Int) : List Int := List.zipWith min a b
def lq (a b : List Int) : Bool := jn a b == b

theorem jn_length {a b : List Int} (ha : a.length = 13) (hb : b.length = 13) : (jn a b).length = 13 := by simp [jn, ha, hb]
theorem ext13 {a b : List Int} (ha : a.length = 13) (hb : b.length = 13) (h : ∀ i, i < 13 → a.getD i 0 = b.getD i 0) : a = b := by
  apply List.ext_getElem (by omega)
  intro i h1 h2
  have := h i (by omega)
  simpa [List.getD, List.getElem?_eq_getElem h1, List.getElem?_eq_getElem h2] using this

theorem jn_at {a b : List Int} (ha : a.length = 13) (hb : b.length = 13) (i : Nat) (hi : i < 13) : (jn a b).getD i 0 = max (a.getD i 0) (b.getD i 0) := by
  simp [jn, List.getD, List.getElem?_zipWith, List.getElem?_eq_getElem (show i < a.length by omega), List.getElem?_eq_getElem (show i < b.length by omega)]
theorem set_at (l : List Int) (k : Nat) (z : Int) (hk : k < l.length) (i : Nat) : (l.set k z).getD i 0 = if i = k then z else l.getD i 0 := by
  by_cases h : i = k
  · subst h; simp [List.getD, List.getElem?_set_self hk]
  · simp [List.getD, List.getElem?_set_ne (Ne.symm h), h]

set_option maxHeartbeats 1000000 in
set_option maxRecDepth 100000 in
theorem join_any (a b : List Int) (w : World) (ha : a.length = 13) (hb : b.length = 13) :
    Calls Try.prog 68 #[V a, V b] w fun e w' => e = .returned (V (jn a b)) ∧ Below w.heap.size w w' := by
  have HA : Hid (a.length = 13) := ha
  have HB : Hid (b.length = 13) := hb
  clear ha hb
  go_enter Try.func68, Try.ntmps68
  go_wp2
  go_loopw [6] (fun vi wr => ∃ (k : Nat) (l : List Int), vi = .int .i64 k ∧ k ≤ 13 ∧ Hid (∀ i, i < 13 → l.getD i 0 = if i < k then max (a.getD i 0) (b.getD i 0) else a.getD i 0) ∧ At wr w.heap.size l ∧ At wr (w.heap.size + 1) b ∧ (∃ z, At wr (w.heap.size + 1 + 1) z) ∧ Below w.heap.size w wr) (fun vi _ => 13 - (intOf vi).toNat)
  case atStart =>
    refine ⟨0, a, rfl, by omega, (show ∀ i, i < 13 → _ from fun i _ => by simp), ((at_new w a HA.out).alloc _).alloc _, (at_next _ (by simp) b HB.out).alloc _, ⟨zeros, at_next _ (by simp) zeros rfl⟩, ?_⟩
    exact (((Below.refl _ _).alloc (Nat.le_refl _) _).alloc (by simp) _).alloc (by simp; omega) _
  case round =>
    obtain ⟨k, l, rfl, hk, HV, h1, h2, ⟨z, h3⟩, hbel⟩ := hrel
    by_cases hlt : k < 13
    · have c1 := h1.cell hlt
      have c2 := h2.cell hlt
      have f1 := h1.frozen k
      have hx : Hid (l.getD k 0 = a.getD k 0) := by
        show _ = _
        have := HV.out k hlt
        simpa using this
      obtain ⟨x, HX⟩ : ∃ x, Hid (l.getD k 0 = x) := ⟨_, rfl⟩
      obtain ⟨y, HY⟩ : ∃ y, Hid (b.getD k 0 = y) := ⟨_, rfl⟩
      rw [HX.out] at c1
      rw [HY.out] at c2
      have R1 := h1.set (i := k) (if x < y then y else x)
      have R2 := h2.setOther (c := w.heap.size) (i := k) (by omega) (.int .i64 (if x < y then y else x))
      have R3 := h3.setOther (c := w.heap.size) (i := k) (by omega) (.int .i64 (if x < y then y else x))
      have R4 : Below w.heap.size w (wr.setCell ⟨w.heap.size, k, none⟩ (.int .i64 (if x < y then y else x))) := hbel.setCell (Nat.le_refl _) _
      have HV2 : Hid (∀ i, i < 13 → (l.set k (if x < y then y else x)).getD i 0 = if i < k + 1 then max (a.getD i 0) (b.getD i 0) else a.getD i 0) := by
        show ∀ i, i < 13 → _
        intro i hi
        rw [set_at l k _ (by have := h1.1; omega)]
        have h0 := HV.out i hi
        have h4 := HX.out
        have h5 := HY.out
        have h6 := hx.out
        by_cases hik : i = k
        · subst hik
          rw [if_pos rfl, if_pos (show i < i + 1 by omega), ← h6, h4, h5]
          split <;> omega
        · rw [if_neg hik, h0]
          by_cases h7 : i < k
          · rw [if_pos h7, if_pos (by omega)]
          · rw [if_neg h7, if_neg (by omega)]
      generalize l.set k (if x < y then y else x) = l2 at R1 HV2
      clear h1 h2 h3 hbel HX HY hx HV
      go_wp2
      go_region
      go_wp2
      go_roundw
      case rel => exact ⟨k + 1, l2, by simp, by omega, HV2, R1, R2, ⟨z, R3⟩, R4.drew⟩
      case measure => simp [intOf]; omega
    · have hk13 : k = 13 := by omega
      subst hk13
      have e : Hid (l = jn a b) := by
        show _ = _
        refine ext13 h1.1 (jn_length HA.out HB.out) fun i hi => ?_
        rw [HV.out i hi, if_pos hi, jn_at HA.out HB.out i hi]
      have R := below_setRow hbel (g := w.heap.size + 1 + 1) (by omega) (vals l).toArray
      rw [e.out] at h1 R
      have h13 := h1.1
      clear h2 hbel HV
      go_wp2_with (first | refine load_at rfl _ rfl _ rfl h1 ?_ | refine store_at rfl _ _ rfl _ _ rfl rfl h3 h13 ?_)
      exact bodyPost_ret (results_at rfl rfl (h3.row h13)) rfl ⟨rfl, R⟩

end Go.Proofs.Ytefpdcpcjfjblaa
