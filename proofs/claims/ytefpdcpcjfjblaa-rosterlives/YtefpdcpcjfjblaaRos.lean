/- Lists of numbers; Check of the document's roster. -/
import Derived.Test.YtefpdcpcjfjblaaSl
import Derived.Test.YtefpdcpcjfjblaaRefCheck
import Derived.Test.YtefpdcpcjfjblaaCalmX
namespace Go.Proofs.Ytefpdcpcjfjblaa
open Go.RowKit

/-- A slice of these numbers. -/
abbrev IHas (w : World) (v : Value) (l : List Int) : Prop := SHas 1 w v l.length (vals l)
theorem IHas.at {w : World} {p : Option Addr} {c : Nat} {l : List Int} (h : IHas w (.slice p l.length c) l) (k : Nat) (hk : k < l.length) : ∃ g o, p = some ⟨g, o, none⟩ ∧ ∀ i (hi : i < l.length), w.cell? ⟨g, o + i, none⟩ = some (.int .i64 l[i]) := by
  obtain ⟨g, o, rfl, hd⟩ := SHas.at h (by omega)
  exact ⟨g, o, rfl, fun i hi => hd i _ (by simp [vals, List.getElem?_eq_getElem hi])⟩
/-- They rise, each one of a peer. -/
def ckI : List Int → Bool
  | [] => true
  | [x] => wi x 1 12
  | x :: y :: l => (wi x 1 12 && decide (x < y)) && ckI (y :: l)
theorem ckI_iff : ∀ l : List Int, ckI l = true ↔ (∀ i (h : i < l.length), wi l[i] 1 12 = true) ∧ ∀ i (h : i + 1 < l.length), l[i]'(by omega) < l[i + 1]
  | [] => by simp [ckI]
  | [x] => by simp [ckI]
  | x :: y :: l => by
    rw [ckI, Bool.and_eq_true, ckI_iff (y :: l), Bool.and_eq_true, decide_eq_true_eq]
    constructor
    · rintro ⟨⟨h1, h2⟩, h3, h4⟩
      refine ⟨fun i h => ?_, fun i h => ?_⟩
      · cases i with
        | zero => exact h1
        | succ i => exact h3 i (by simpa using h)
      · cases i with
        | zero => exact h2
        | succ i => exact h4 i (by simpa using h)
    · rintro ⟨h1, h2⟩
      exact ⟨⟨h1 0 (by simp), h2 0 (by simp)⟩, fun i h => h1 (i + 1) (by simpa using h), fun i h => h2 (i + 1) (by simpa using h)⟩
theorem wi_iff {n lo hi : Int} : wi n lo hi = true ↔ lo ≤ n ∧ n ≤ hi := by simp [wi]
set_option maxHeartbeats 4000000 in
set_option maxRecDepth 100000 in
theorem refRoster_any (l : List Int) (sv : Value) (w : World) (h : IHas w sv l) : Calls Try.prog 6 #[sv] w (Tells (.bool (ckI l)) w) := by
  obtain ⟨q, c, rfl⟩ := SHas.slice h
  have hml := maxLen_lt h.1
  obtain ⟨z, HZ⟩ := hid_ex (ckI l)
  rw [HZ.out]
  have H : Hid (IHas w (.slice q l.length c) l) := h
  clear h
  go_enter Try.func6, Try.ntmps6
  go_wp2
  go_loopw [3] (fun vi wr => ∃ k : Nat, vi = .int .i64 k ∧ k ≤ l.length ∧ Hid ((∀ i (h : i < l.length), i < k → wi l[i] 1 12 = true) ∧ ∀ i (h : i + 1 < l.length), i + 1 < k → l[i]'(by omega) < l[i + 1]) ∧ Below w.heap.size w wr) (fun vi _ => l.length - (intOf vi).toNat)
  case atStart => exact ⟨0, rfl, by omega, (show _ ∧ _ from ⟨fun i _ h => by omega, fun i _ h => by omega⟩), Below.refl _ _⟩
  case round =>
    obtain ⟨k, rfl, hk, HV, hbel⟩ := hrel
    by_cases hlt : k < l.length
    · have hlt' : (k : Int) < (l.length : Int) := by omega
      obtain ⟨g, o, rfl, hd0⟩ := H.out.at k hlt
      have hd : ∀ i (hi : i < l.length), wr.cell? ⟨g, o + i, none⟩ = some (.int .i64 l[i]) := fun i hi => cell_later hbel (hd0 i hi)
      clear hd0
      have c1 := hd k hlt
      obtain ⟨x, HX⟩ := hid_ex l[k]
      rw [HX.out] at c1
      obtain ⟨r, HR⟩ := hid_ex (wi x 1 12)
      have C := fun w' => peer_any x w'
      rw [HR.out] at C
      by_cases hk0 : k = 0
      · subst hk0
        rw [Nat.add_zero] at c1
        have ST : Calm.Stays (fun w' : World => w'.cell? ⟨g, o, none⟩ = some (.int .i64 x) ∧ Below wr.heap.size wr w') := fun a b h hb => ⟨cell_later hb h.1, below_on h.2 hb⟩
        cases r
        · obtain rfl : false = z := by
            rw [← HZ.out]
            cases e : ckI l with
            | false => rfl
            | true =>
              have := ((ckI_iff l).1 e).1 0 hlt
              rw [HX.out, HR.out] at this
              cases this
          go_wp2_with fail
          refine Calm.region (by kernel_rfl) (by kernel_rfl) (fun w' : World => w'.cell? ⟨g, o, none⟩ = some (.int .i64 x) ∧ Below wr.heap.size wr w') ⟨c1, (Below.refl _ _).drew⟩ ?_
          iterate 3 (refine Calm.pu ?_)
          refine Calm.ce (fun _ h => h.1) ?_
          refine Calm.k1 ST (fun w' _ => C w') ?_
          iterate 2 (refine Calm.pu ?_)
          iterate 14 (refine Calm.sk ?_)
          refine Calm.pu ?_
          intro w6 hS6
          go_wp2_with fail
          go_ret
          exact ⟨rfl, below_on hbel hS6.2⟩
        · go_wp2_with fail
          refine Calm.region (by kernel_rfl) (by kernel_rfl) (fun w' : World => w'.cell? ⟨g, o, none⟩ = some (.int .i64 x) ∧ Below wr.heap.size wr w') ⟨c1, (Below.refl _ _).drew⟩ ?_
          iterate 3 (refine Calm.pu ?_)
          refine Calm.ce (fun _ h => h.1) ?_
          refine Calm.k1 ST (fun w' _ => C w') ?_
          iterate 5 (refine Calm.pu ?_)
          iterate 10 (refine Calm.sk ?_)
          iterate 2 (refine Calm.pu ?_)
          intro w6 hS6
          have HV2 : Hid ((∀ i (h : i < l.length), i < 0 + 1 → wi l[i] 1 12 = true) ∧ ∀ i (h : i + 1 < l.length), i + 1 < 0 + 1 → l[i]'(by omega) < l[i + 1]) := show _ ∧ _ from ⟨fun i h hi => by
              obtain rfl : i = 0 := by omega
              rw [HX.out]
              exact HR.out, fun i h hi => by omega⟩
          go_wp2_with fail
          go_roundw
          case rel => exact ⟨0 + 1, by simp, by omega, HV2, below_on hbel hS6.2⟩
          case measure => simp [intOf]; omega
      · obtain ⟨j, rfl⟩ : ∃ j, k = j + 1 := ⟨k - 1, by omega⟩
        have c2 := hd j (by omega)
        obtain ⟨y, HY⟩ := hid_ex (l[j]'(by omega))
        rw [HY.out] at c2
        have hk0' : (0 : Int) < (j : Int) + 1 := by omega
        have e1 : IntKind.i64.wrap (j : Int) = (j : Int) := by rw [IntKind.wrap_i64]; omega
        have hj0 : (0 : Int) ≤ (j : Int) + 1 := by omega
        have hj1 : (j : Int) + 1 < (l.length : Int) := by omega
        have hj2 : (j : Int) < (l.length : Int) := by omega
        have ST : Calm.Stays (fun w' : World => w'.cell? ⟨g, o + (j + 1), none⟩ = some (.int .i64 x) ∧ w'.cell? ⟨g, o + j, none⟩ = some (.int .i64 y) ∧ Below wr.heap.size wr w') := fun a b h hb => ⟨cell_later hb h.1, cell_later hb h.2.1, below_on h.2.2 hb⟩
        cases r
        · obtain rfl : false = z := by
            rw [← HZ.out]
            cases e : ckI l with
            | false => rfl
            | true =>
              have := ((ckI_iff l).1 e).1 (j + 1) hlt
              rw [HX.out, HR.out] at this
              cases this
          go_wp2_with fail
          refine Calm.region (by kernel_rfl) (by kernel_rfl) (fun w' : World => w'.cell? ⟨g, o + (j + 1), none⟩ = some (.int .i64 x) ∧ w'.cell? ⟨g, o + j, none⟩ = some (.int .i64 y) ∧ Below wr.heap.size wr w') ⟨c1, c2, (Below.refl _ _).drew⟩ ?_
          iterate 3 (refine Calm.pu ?_)
          refine Calm.ce (fun _ h => h.1) ?_
          refine Calm.k1 ST (fun w' _ => C w') ?_
          iterate 2 (refine Calm.pu ?_)
          iterate 14 (refine Calm.sk ?_)
          refine Calm.pu ?_
          intro w6 hS6
          go_wp2_with fail
          go_ret
          exact ⟨rfl, below_on hbel hS6.2.2⟩
        · by_cases hxy : x ≤ y
          · obtain rfl : false = z := by
              rw [← HZ.out]
              cases e : ckI l with
              | false => rfl
              | true =>
                have := ((ckI_iff l).1 e).2 j hlt
                rw [HX.out, HY.out] at this
                omega
            go_wp2_with fail
            refine Calm.region (by kernel_rfl) (by kernel_rfl) (fun w' : World => w'.cell? ⟨g, o + (j + 1), none⟩ = some (.int .i64 x) ∧ w'.cell? ⟨g, o + j, none⟩ = some (.int .i64 y) ∧ Below wr.heap.size wr w') ⟨c1, c2, (Below.refl _ _).drew⟩ ?_
            iterate 3 (refine Calm.pu ?_)
            refine Calm.ce (fun _ h => h.1) ?_
            refine Calm.k1 ST (fun w' _ => C w') ?_
            iterate 8 (refine Calm.pu ?_)
            refine Calm.ce (fun _ h => h.1) ?_
            iterate 4 (refine Calm.pu ?_)
            refine Calm.ce (fun _ h => h.2.1) ?_
            iterate 3 (refine Calm.pu ?_)
            intro w6 hS6
            go_wp2_with fail
            go_ret
            exact ⟨rfl, below_on hbel hS6.2.2⟩
          · have HV2 : Hid ((∀ i (h : i < l.length), i < j + 1 + 1 → wi l[i] 1 12 = true) ∧ ∀ i (h : i + 1 < l.length), i + 1 < j + 1 + 1 → l[i]'(by omega) < l[i + 1]) := show _ ∧ _ from ⟨fun i h hi => by
                rcases Nat.lt_or_ge i (j + 1) with h3 | h3
                · exact HV.out.1 i h h3
                · obtain rfl : i = j + 1 := by omega
                  rw [HX.out]
                  exact HR.out, fun i h hi => by
                rcases Nat.lt_or_ge (i + 1) (j + 1) with h3 | h3
                · exact HV.out.2 i h h3
                · obtain rfl : i = j := by omega
                  rw [HX.out, HY.out]
                  omega⟩
            go_wp2_with fail
            refine Calm.region (by kernel_rfl) (by kernel_rfl) (fun w' : World => w'.cell? ⟨g, o + (j + 1), none⟩ = some (.int .i64 x) ∧ w'.cell? ⟨g, o + j, none⟩ = some (.int .i64 y) ∧ Below wr.heap.size wr w') ⟨c1, c2, (Below.refl _ _).drew⟩ ?_
            iterate 3 (refine Calm.pu ?_)
            refine Calm.ce (fun _ h => h.1) ?_
            refine Calm.k1 ST (fun w' _ => C w') ?_
            iterate 8 (refine Calm.pu ?_)
            refine Calm.ce (fun _ h => h.1) ?_
            iterate 4 (refine Calm.pu ?_)
            refine Calm.ce (fun _ h => h.2.1) ?_
            iterate 3 (refine Calm.pu ?_)
            intro w6 hS6
            go_wp2_with fail
            go_roundw
            case rel => exact ⟨j + 1 + 1, by simp, by omega, HV2, below_on hbel hS6.2.2⟩
            case measure => simp [intOf]; omega
    · have hlt' : ¬ (k : Int) < (l.length : Int) := by omega
      obtain rfl : true = z := by
        rw [← HZ.out]
        exact ((ckI_iff l).2 ⟨fun i h => HV.out.1 i h (by omega), fun i h => HV.out.2 i h (by omega)⟩).symm
      clear H
      go_wp2_with fail
      go_ret
      exact ⟨rfl, hbel⟩
end Go.Proofs.Ytefpdcpcjfjblaa
