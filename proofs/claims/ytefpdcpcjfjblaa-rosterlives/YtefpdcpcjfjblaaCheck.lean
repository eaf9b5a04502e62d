/- The functions fullest, Check and Total of package vec. -/
import Derived.Test.YtefpdcpcjfjblaaLeq
namespace Go.Proofs.Ytefpdcpcjfjblaa
open Go.RowKit

theorem lq_iff {a b : List Int} (ha : a.length = 13) (hb : b.length = 13) : lq a b = true ↔ ∀ i, i < 13 → a.getD i 0 ≤ b.getD i 0 := by
  unfold lq
  rw [beq_iff_eq]
  constructor
  · intro h i hi
    have := jn_at ha hb i hi
    rw [h] at this
    omega
  · intro h
    refine ext13 (jn_length ha hb) hb fun i hi => ?_
    rw [jn_at ha hb i hi]
    have := h i hi
    omega

abbrev full : List Int := [0, 1048576, 1048576, 1048576, 1048576, 1048576, 1048576, 1048576, 1048576, 1048576, 1048576, 1048576, 1048576]
/-- What Check tells. -/
def chk (v : List Int) : Bool := lq zeros v && lq v full

theorem zeros_at (i : Nat) : zeros.getD i 0 = 0 := by
  match i with
  | 0 | 1 | 2 | 3 | 4 | 5 | 6 | 7 | 8 | 9 | 10 | 11 | 12 => rfl
  | n + 13 => rfl
theorem full_at (i : Nat) (hi : i < 13) : full.getD i 0 = if i = 0 then 0 else 1048576 := by
  match i, hi with
  | 0, _ | 1, _ | 2, _ | 3, _ | 4, _ | 5, _ | 6, _ | 7, _ | 8, _ | 9, _ | 10, _ | 11, _ | 12, _ => rfl

theorem chk_iff {v : List Int} (hv : v.length = 13) : chk v = true ↔ v.getD 0 0 = 0 ∧ ∀ i, 1 ≤ i → i < 13 → 0 ≤ v.getD i 0 ∧ v.getD i 0 ≤ 1048576 := by
  unfold chk
  rw [Bool.and_eq_true, lq_iff rfl hv, lq_iff hv rfl]
  constructor
  · rintro ⟨h1, h2⟩
    refine ⟨?_, fun i hi1 hi2 => ?_⟩
    · have h3 := h1 0 (by omega)
      have h4 := h2 0 (by omega)
      rw [zeros_at] at h3
      rw [full_at 0 (by omega)] at h4
      simp only [if_true] at h4
      omega
    · have h3 := h1 i hi2
      have h4 := h2 i hi2
      rw [zeros_at] at h3
      rw [full_at i hi2, if_neg (by omega)] at h4
      omega
  · rintro ⟨h0, h1⟩
    constructor
    · intro i hi
      rw [zeros_at]
      by_cases h : i = 0
      · subst h; omega
      · exact (h1 i (by omega) hi).1
    · intro i hi
      rw [full_at i hi]
      by_cases h : i = 0
      · subst h; rw [if_pos rfl]; omega
      · rw [if_neg h]; exact (h1 i (by omega) hi).2

theorem chk_at {v : List Int} (hv : v.length = 13) (hc : chk v = true) (i : Nat) (hi : i < 13) : 0 ≤ v.getD i 0 ∧ v.getD i 0 ≤ 1048576 := by
  obtain ⟨h0, h1⟩ := (chk_iff hv).1 hc
  by_cases h : i = 0
  · subst h; omega
  · exact h1 i (by omega) hi

set_option maxHeartbeats 1000000 in
set_option maxRecDepth 100000 in
theorem fullest_any (w : World) : Calls Try.prog 52 #[] w fun e w' => e = .returned (V full) ∧ Below w.heap.size w w' := by
  go_enter Try.func52, Try.ntmps52
  go_wp2
  go_loopw [3] (fun vi wr => ∃ (k : Nat) (l : List Int), vi = .int .i64 k ∧ k ≤ 12 ∧ Hid (∀ i, i < 13 → l.getD i 0 = if 1 ≤ i ∧ i ≤ k then 1048576 else 0) ∧ (∃ z, At wr w.heap.size z) ∧ At wr (w.heap.size + 1) l ∧ Below w.heap.size w wr) (fun vi _ => 12 - (intOf vi).toNat)
  case atStart =>
    refine ⟨0, zeros, rfl, by omega, ?_, ⟨zeros, (at_new w zeros rfl).alloc _⟩, at_next _ (by simp) zeros rfl, ?_⟩
    · show ∀ i, i < 13 → _
      intro i _
      rw [zeros_at, if_neg (by omega)]
    · exact ((Below.refl _ _).alloc (Nat.le_refl _) _).alloc (by simp) _
  case round =>
    obtain ⟨k, l, rfl, hk, HV, ⟨z, h1⟩, h2, hbel⟩ := hrel
    by_cases hlt : k < 12
    · have c1 := h2.cell (show k + 1 < 13 by omega)
      have f1 := h2.frozen (k + 1)
      have R1 := h1.setOther (c := w.heap.size + 1) (i := k + 1) (by omega) (.int .i64 1048576)
      have R2 := h2.set (i := k + 1) 1048576
      have R4 : Below w.heap.size w (wr.setCell ⟨w.heap.size + 1, k + 1, none⟩ (.int .i64 1048576)) := hbel.setCell (by show _ ≤ _ + 1; omega) _
      have HV2 : Hid (∀ i, i < 13 → (l.set (k + 1) 1048576).getD i 0 = if 1 ≤ i ∧ i ≤ k + 1 then 1048576 else 0) := by
        show ∀ i, i < 13 → _
        intro i hi
        rw [set_at l (k + 1) _ (by have := h2.1; omega), HV.out i hi]
        by_cases h : i = k + 1
        · rw [if_pos h, if_pos (by omega)]
        · rw [if_neg h]
          by_cases h' : 1 ≤ i ∧ i ≤ k
          · rw [if_pos h', if_pos (by omega)]
          · rw [if_neg h', if_neg (by omega)]
      generalize l.set (k + 1) 1048576 = l2 at R2 HV2
      generalize l.getD (k + 1) 0 = y at c1
      clear h1 h2 hbel HV
      go_wp2
      go_roundw
      case rel => exact ⟨k + 1, l2, by simp, by omega, HV2, ⟨z, R1⟩, R2, R4⟩
      case measure => simp [intOf]; omega
    · have hk12 : k = 12 := by omega
      subst hk12
      have e : l = full := by
        refine ext13 h2.1 rfl fun i hi => ?_
        rw [HV.out i hi, full_at i hi]
        by_cases h : i = 0
        · rw [if_pos h, if_neg (by omega)]
        · rw [if_neg h, if_pos (by omega)]
      subst e
      have R := below_setRow hbel (g := w.heap.size) (Nat.le_refl _) (vals full).toArray
      have h13 : full.length = 13 := rfl
      clear hbel HV
      go_wp2_with (first | refine load_at rfl _ rfl _ rfl h2 ?_ | refine store_at rfl _ _ rfl _ _ rfl rfl h1 h13 ?_)
      exact bodyPost_ret (results_at rfl rfl (h1.row h13)) rfl ⟨rfl, R⟩

set_option maxHeartbeats 1000000 in
set_option maxRecDepth 100000 in
theorem check_any (v : List Int) (w : World) (hv : v.length = 13) :
    Calls Try.prog 34 #[V v] w fun e w' => e = .returned (.bool (chk v)) ∧ Below w.heap.size w w' := by
  have hC13a := fun w1 => leq_any zeros v w1 rfl hv
  have hC13b := fun w1 => leq_any v full w1 hv rfl
  have hC29 := fullest_any
  have h1 := at_new w v hv
  have hbel : Below w.heap.size w (w.alloc (.cells (vals v).toArray 31)) := (Below.refl _ _).alloc (Nat.le_refl _) _
  unfold chk
  generalize lq zeros v = x at hC13a ⊢
  generalize lq v full = y at hC13b ⊢
  go_enter Try.func34, Try.ntmps34
  go_wp2
  have hs : Calm.Stays (fun w' => At w' w.heap.size v ∧ Below w.heap.size w w') := fun w1 w2 h hb => ⟨h.1.later hb, below_on h.2 hb⟩
  refine Calm.region (by kernel_rfl) (by kernel_rfl) (fun w' => At w' w.heap.size v ∧ Below w.heap.size w w') ⟨h1, hbel.drew⟩ ?_
  clear h1 hbel
  cases x
  all_goals
    refine Calm.pure (v := ?_) (by rfl) ?_ ?_
    rotate_left
    focus (intro w hSw; go_simp <;> rfl)
    simp only [Act.put, List.setIfInBounds_toArray, List.set_cons_zero, List.set_cons_succ]
  all_goals
    refine Calm.load (by rfl) _ rfl rfl (fun _ h => by go_split_ands; assumption) ?_
    simp only [Act.put, List.setIfInBounds_toArray, List.set_cons_zero, List.set_cons_succ]
  all_goals
    refine Calm.call2 (by rfl) rfl rfl rfl (by kernel_rfl) hs hC13a ?_
    simp only [Act.put, List.setIfInBounds_toArray, List.set_cons_zero, List.set_cons_succ]
  all_goals
    refine Calm.pure (v := ?_) (by rfl) ?_ ?_
    rotate_left
    focus (intro w hSw; go_simp <;> rfl)
    simp only [Act.put, List.setIfInBounds_toArray, List.set_cons_zero, List.set_cons_succ]
  all_goals
    first
      | (refine Calm.skip ?_ ?_; focus rfl)
      | (refine Calm.load (by rfl) _ rfl rfl (fun _ h => by go_split_ands; assumption) ?_)
    simp only [Act.put, List.setIfInBounds_toArray, List.set_cons_zero, List.set_cons_succ]
  all_goals
    first
      | (refine Calm.skip ?_ ?_; focus rfl)
      | (refine Calm.call0 (by rfl) rfl (by kernel_rfl) hs hC29 ?_)
    simp only [Act.put, List.setIfInBounds_toArray, List.set_cons_zero, List.set_cons_succ]
  all_goals
    first
      | (refine Calm.skip ?_ ?_; focus rfl)
      | (refine Calm.call2 (by rfl) rfl rfl rfl (by kernel_rfl) hs hC13b ?_)
    simp only [Act.put, List.setIfInBounds_toArray, List.set_cons_zero, List.set_cons_succ]
  all_goals
    refine Calm.pure (v := ?_) (by rfl) ?_ ?_
    rotate_left
    focus (intro w hSw; go_simp <;> rfl)
    simp only [Act.put, List.setIfInBounds_toArray, List.set_cons_zero, List.set_cons_succ]
  all_goals
    refine Calm.pure (v := ?_) (by rfl) ?_ ?_
    rotate_left
    focus (intro w hSw; go_simp <;> rfl)
    simp only [Act.put, List.setIfInBounds_toArray, List.set_cons_zero, List.set_cons_succ]
  all_goals
    rintro w9 ⟨_, hbel9⟩
    go_wp2
    go_ret
    exact ⟨by simp, hbel9⟩

end Go.Proofs.Ytefpdcpcjfjblaa
