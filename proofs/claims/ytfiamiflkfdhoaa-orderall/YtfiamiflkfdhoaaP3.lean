import Derived.Test.YtfiamiflkfdhoaaP2
/- The functions isPeer, Has and Next of package vec. -/
namespace Go.Proofs.Ytfiamiflkfdhoaa
open Go.RowKit

set_option maxRecDepth 100000 in
theorem isPeer_not (p : Int) (w : World) (hp : ¬ (1 ≤ p ∧ p ≤ 12)) :
    Calls Try.prog 35 #[.int .i64 p] w fun e w' => e = .returned (.bool false) ∧ Below w.heap.size w w' := by
  by_cases h : 1 ≤ p
  · have h2 : ¬ p ≤ 12 := by omega
    go_enter Try.func35, Try.ntmps35
    go_wp2
    go_ret
    exact ⟨by simp, Below.refl _ _⟩
  · go_enter Try.func35, Try.ntmps35
    go_wp2
    go_ret
    exact ⟨by simp, Below.refl _ _⟩

set_option maxRecDepth 100000 in
theorem isPeer_yes (n : Nat) (w : World) (h1 : 1 ≤ n) (h2 : n ≤ 12) :
    Calls Try.prog 35 #[.int .i64 n] w fun e w' => e = .returned (.bool true) ∧ Below w.heap.size w w' := by
  have h3 : (1 : Int) ≤ (n : Int) := by omega
  have h4 : (n : Int) ≤ 12 := by omega
  go_enter Try.func35, Try.ntmps35
  go_wp2
  go_ret
  exact ⟨by simp, Below.refl _ _⟩

theorem dot_cell0 (w : World) {b : Nat} (hb : b = w.heap.size) (p s : Int) : (w.alloc (.cells #[.int .i64 p, .int .i64 s] 31)).cell? ⟨b, 0, none⟩ = some (.int .i64 p) := by
  subst hb
  rw [cell_of_row _ _ 0 _ 31 (0, 0) (heap_alloc_last w _)]
  rfl
theorem dot_cell1 (w : World) {b : Nat} (hb : b = w.heap.size) (p s : Int) : (w.alloc (.cells #[.int .i64 p, .int .i64 s] 31)).cell? ⟨b, 1, none⟩ = some (.int .i64 s) := by
  subst hb
  rw [cell_of_row _ _ 1 _ 31 (0, 0) (heap_alloc_last w _)]
  rfl

set_option maxHeartbeats 1000000 in
set_option maxRecDepth 100000 in
theorem has_not (v : List Int) (p s : Int) (w : World) (hp : ¬ (1 ≤ p ∧ p ≤ 12)) :
    Calls Try.prog 19 #[V v, D p s] w fun e w' => e = .returned (.bool false) ∧ Below w.heap.size w w' := by
  have hC28 := fun w1 => isPeer_not p w1 hp
  go_enter Try.func19, Try.ntmps19
  go_wp2
  obtain ⟨w0, hw0⟩ : ∃ w0, w0 = (w.alloc (.cells (vals v).toArray 26)).alloc (.cells #[.int .i64 p, .int .i64 s] 31) := ⟨_, rfl⟩
  have g1 : w0.cell? ⟨w.heap.size + 1, 0, none⟩ = some (.int .i64 p) := by rw [hw0]; exact dot_cell0 _ (by simp) p s
  have g2 : w0.cell? ⟨w.heap.size + 1, 1, none⟩ = some (.int .i64 s) := by rw [hw0]; exact dot_cell1 _ (by simp) p s
  have hbel : Below w.heap.size w w0 := by rw [hw0]; exact ((Below.refl _ _).alloc (Nat.le_refl _) _).alloc (by simp) _
  have hs : Calm.Stays (fun w' => w'.cell? ⟨w.heap.size + 1, 0, none⟩ = some (.int .i64 p) ∧ w'.cell? ⟨w.heap.size + 1, 1, none⟩ = some (.int .i64 s) ∧ Below w.heap.size w w') := fun w1 w2 h hb => ⟨cell_later hb h.1, cell_later hb h.2.1, below_on h.2.2 hb⟩
  rw [← hw0]
  clear hw0
  refine Calm.region (by kernel_rfl) (by kernel_rfl) (fun w' => w'.cell? ⟨w.heap.size + 1, 0, none⟩ = some (.int .i64 p) ∧ w'.cell? ⟨w.heap.size + 1, 1, none⟩ = some (.int .i64 s) ∧ Below w.heap.size w w') ⟨g1, g2, hbel.drew⟩ ?_
  clear g1 g2 hbel
  all_goals
    refine Calm.pure (v := ?_) (by rfl) ?_ ?_
    rotate_left
    focus (intro w hSw; go_simp <;> rfl)
    simp only [Act.put, List.setIfInBounds_toArray, List.set_cons_zero, List.set_cons_succ]
  all_goals
    refine Calm.pure (v := ?_) (by rfl) ?_ ?_
    rotate_left
    focus (intro w hSw; go_simp <;> rfl)
    simp only [Act.put, List.setIfInBounds_toArray, List.set_cons_zero, List.set_cons_succ]
  all_goals
    refine Calm.call1 (by rfl) rfl rfl (by kernel_rfl) hs hC28 ?_
    simp only [Act.put, List.setIfInBounds_toArray, List.set_cons_zero, List.set_cons_succ]
  all_goals
    refine Calm.pure (v := ?_) (by rfl) ?_ ?_
    rotate_left
    focus (intro w hSw; go_simp <;> rfl)
    simp only [Act.put, List.setIfInBounds_toArray, List.set_cons_zero, List.set_cons_succ]
  all_goals
    first
      | (refine Calm.skip ?_ ?_; focus rfl)
      | (refine Calm.pure (v := ?_) (by rfl) ?_ ?_
         rotate_left
         focus (intro w hSw; go_simp <;> rfl))
    simp only [Act.put, List.setIfInBounds_toArray, List.set_cons_zero, List.set_cons_succ]
  all_goals
    first
      | (refine Calm.skip ?_ ?_; focus rfl)
      | (refine Calm.pure (v := ?_) (by rfl) ?_ ?_
         rotate_left
         focus (intro w hSw; go_simp <;> rfl))
    simp only [Act.put, List.setIfInBounds_toArray, List.set_cons_zero, List.set_cons_succ]
  all_goals
    first
      | (refine Calm.skip ?_ ?_; focus rfl)
      | (refine Calm.pure (v := ?_) (by rfl) ?_ ?_
         rotate_left
         focus (intro w hSw; go_simp <;> rfl))
    simp only [Act.put, List.setIfInBounds_toArray, List.set_cons_zero, List.set_cons_succ]
  all_goals
    refine Calm.pure (v := ?_) (by rfl) ?_ ?_
    rotate_left
    focus (intro w hSw; go_simp <;> rfl)
    simp only [Act.put, List.setIfInBounds_toArray, List.set_cons_zero, List.set_cons_succ]
  all_goals
    refine Calm.pure (v := ?_) (by rfl) ?_ ?_
    rotate_left
    focus (intro w hSw; go_simp <;> rfl)
    simp only [Act.put, List.setIfInBounds_toArray, List.set_cons_zero, List.set_cons_succ]
  all_goals
    first
      | (refine Calm.skip ?_ ?_; focus rfl)
      | (refine Calm.pure (v := ?_) (by rfl) ?_ ?_
         rotate_left
         focus (intro w hSw; go_simp <;> rfl))
    simp only [Act.put, List.setIfInBounds_toArray, List.set_cons_zero, List.set_cons_succ]
  all_goals
    first
      | (refine Calm.skip ?_ ?_; focus rfl)
      | (refine Calm.pure (v := ?_) (by rfl) ?_ ?_
         rotate_left
         focus (intro w hSw; go_simp <;> rfl))
    simp only [Act.put, List.setIfInBounds_toArray, List.set_cons_zero, List.set_cons_succ]
  all_goals
    first
      | (refine Calm.skip ?_ ?_; focus rfl)
      | (refine Calm.pure (v := ?_) (by rfl) ?_ ?_
         rotate_left
         focus (intro w hSw; go_simp <;> rfl))
    simp only [Act.put, List.setIfInBounds_toArray, List.set_cons_zero, List.set_cons_succ]
  all_goals
    first
      | (refine Calm.skip ?_ ?_; focus rfl)
      | (refine Calm.pure (v := ?_) (by rfl) ?_ ?_
         rotate_left
         focus (intro w hSw; go_simp <;> rfl))
    simp only [Act.put, List.setIfInBounds_toArray, List.set_cons_zero, List.set_cons_succ]
  all_goals
    first
      | (refine Calm.skip ?_ ?_; focus rfl)
      | (refine Calm.pure (v := ?_) (by rfl) ?_ ?_
         rotate_left
         focus (intro w hSw; go_simp <;> rfl))
    simp only [Act.put, List.setIfInBounds_toArray, List.set_cons_zero, List.set_cons_succ]
  all_goals
    first
      | (refine Calm.skip ?_ ?_; focus rfl)
      | (refine Calm.pure (v := ?_) (by rfl) ?_ ?_
         rotate_left
         focus (intro w hSw; go_simp <;> rfl))
    simp only [Act.put, List.setIfInBounds_toArray, List.set_cons_zero, List.set_cons_succ]
  all_goals
    first
      | (refine Calm.skip ?_ ?_; focus rfl)
      | (refine Calm.pure (v := ?_) (by rfl) ?_ ?_
         rotate_left
         focus (intro w hSw; go_simp <;> rfl))
    simp only [Act.put, List.setIfInBounds_toArray, List.set_cons_zero, List.set_cons_succ]
  all_goals
    refine Calm.pure (v := ?_) (by rfl) ?_ ?_
    rotate_left
    focus (intro w hSw; go_simp <;> rfl)
    simp only [Act.put, List.setIfInBounds_toArray, List.set_cons_zero, List.set_cons_succ]
  all_goals
    refine Calm.pure (v := ?_) (by rfl) ?_ ?_
    rotate_left
    focus (intro w hSw; go_simp <;> rfl)
    simp only [Act.put, List.setIfInBounds_toArray, List.set_cons_zero, List.set_cons_succ]
  rintro w9 ⟨_, _, hbel9⟩
  go_wp2
  go_ret
  exact ⟨rfl, hbel9⟩

set_option maxHeartbeats 1000000 in
set_option maxRecDepth 100000 in
theorem has_peer (v : List Int) (n : Nat) (s : Int) (w : World) (hv : v.length = 13) (hn1 : 1 ≤ n) (hn2 : n ≤ 12) :
    Calls Try.prog 19 #[V v, D n s] w fun e w' => e = .returned (.bool (decide (1 ≤ s) && decide (s ≤ v.getD n 0))) ∧ Below w.heap.size w w' := by
  have hC28 := fun w1 => isPeer_yes n w1 hn1 hn2
  obtain ⟨x, HX⟩ : ∃ x, Hid (v.getD n 0 = x) := ⟨_, rfl⟩
  rw [HX.out]
  have hat := at_new w v hv
  go_enter Try.func19, Try.ntmps19
  go_wp2
  obtain ⟨w0, hw0⟩ : ∃ w0, w0 = (w.alloc (.cells (vals v).toArray 26)).alloc (.cells #[.int .i64 n, .int .i64 s] 31) := ⟨_, rfl⟩
  have g1 : w0.cell? ⟨w.heap.size + 1, 0, none⟩ = some (.int .i64 n) := by rw [hw0]; exact dot_cell0 _ (by simp) n s
  have g2 : w0.cell? ⟨w.heap.size + 1, 1, none⟩ = some (.int .i64 s) := by rw [hw0]; exact dot_cell1 _ (by simp) n s
  have g3 : w0.cell? ⟨w.heap.size, n, none⟩ = some (.int .i64 x) := by
    rw [hw0, ← HX.out]
    exact (hat.alloc _).cell (by omega)
  have hbel : Below w.heap.size w w0 := by rw [hw0]; exact ((Below.refl _ _).alloc (Nat.le_refl _) _).alloc (by simp) _
  have hs : Calm.Stays (fun w' => w'.cell? ⟨w.heap.size + 1, 0, none⟩ = some (.int .i64 n) ∧ w'.cell? ⟨w.heap.size + 1, 1, none⟩ = some (.int .i64 s) ∧ w'.cell? ⟨w.heap.size, n, none⟩ = some (.int .i64 x) ∧ Below w.heap.size w w') := fun w1 w2 h hb => ⟨cell_later hb h.1, cell_later hb h.2.1, cell_later hb h.2.2.1, below_on h.2.2.2 hb⟩
  rw [← hw0]
  clear hw0 hat
  refine Calm.region (by kernel_rfl) (by kernel_rfl) (fun w' => w'.cell? ⟨w.heap.size + 1, 0, none⟩ = some (.int .i64 n) ∧ w'.cell? ⟨w.heap.size + 1, 1, none⟩ = some (.int .i64 s) ∧ w'.cell? ⟨w.heap.size, n, none⟩ = some (.int .i64 x) ∧ Below w.heap.size w w') ⟨g1, g2, g3, hbel.drew⟩ ?_
  clear g1 g2 g3 hbel
  have hi1 : (0 : Int) ≤ (n : Int) := by omega
  have hi2 : (n : Int) < 13 := by omega
  by_cases hs1 : 1 ≤ s <;> by_cases hs2 : s ≤ x
  all_goals
    all_goals
      refine Calm.pure (v := ?_) (by rfl) ?_ ?_
      rotate_left
      focus (intro w hSw; go_simp <;> rfl)
      simp only [Act.put, List.setIfInBounds_toArray, List.set_cons_zero, List.set_cons_succ]
    all_goals
      refine Calm.pure (v := ?_) (by rfl) ?_ ?_
      rotate_left
      focus (intro w hSw; go_simp <;> rfl)
      simp only [Act.put, List.setIfInBounds_toArray, List.set_cons_zero, List.set_cons_succ]
    all_goals
      refine Calm.call1 (by rfl) rfl rfl (by kernel_rfl) hs hC28 ?_
      simp only [Act.put, List.setIfInBounds_toArray, List.set_cons_zero, List.set_cons_succ]
    all_goals
      refine Calm.pure (v := ?_) (by rfl) ?_ ?_
      rotate_left
      focus (intro w hSw; go_simp <;> rfl)
      simp only [Act.put, List.setIfInBounds_toArray, List.set_cons_zero, List.set_cons_succ]
    all_goals
      first
        | (refine Calm.skip ?_ ?_; focus rfl)
        | (refine Calm.pure (v := ?_) (by rfl) ?_ ?_
           rotate_left
           focus (intro w hSw; go_simp <;> rfl))
      simp only [Act.put, List.setIfInBounds_toArray, List.set_cons_zero, List.set_cons_succ]
    all_goals
      first
        | (refine Calm.skip ?_ ?_; focus rfl)
        | (refine Calm.pure (v := ?_) (by rfl) ?_ ?_
           rotate_left
           focus (intro w hSw; go_simp <;> rfl))
      simp only [Act.put, List.setIfInBounds_toArray, List.set_cons_zero, List.set_cons_succ]
    all_goals
      first
        | (refine Calm.skip ?_ ?_; focus rfl)
        | (refine Calm.pure (v := ?_) (by rfl) ?_ ?_
           rotate_left
           focus (intro w hSw; go_simp <;> rfl))
      simp only [Act.put, List.setIfInBounds_toArray, List.set_cons_zero, List.set_cons_succ]
    all_goals
      refine Calm.pure (v := ?_) (by rfl) ?_ ?_
      rotate_left
      focus (intro w hSw; go_simp <;> rfl)
      simp only [Act.put, List.setIfInBounds_toArray, List.set_cons_zero, List.set_cons_succ]
    all_goals
      refine Calm.pure (v := ?_) (by rfl) ?_ ?_
      rotate_left
      focus (intro w hSw; go_simp <;> rfl)
      simp only [Act.put, List.setIfInBounds_toArray, List.set_cons_zero, List.set_cons_succ]
    all_goals
      first
        | (refine Calm.skip ?_ ?_; focus rfl)
        | (refine Calm.pure (v := ?_) (by rfl) ?_ ?_
           rotate_left
           focus (intro w hSw; go_simp <;> rfl))
      simp only [Act.put, List.setIfInBounds_toArray, List.set_cons_zero, List.set_cons_succ]
    all_goals
      first
        | (refine Calm.skip ?_ ?_; focus rfl)
        | (refine Calm.pure (v := ?_) (by rfl) ?_ ?_
           rotate_left
           focus (intro w hSw; go_simp <;> rfl))
      simp only [Act.put, List.setIfInBounds_toArray, List.set_cons_zero, List.set_cons_succ]
    all_goals
      first
        | (refine Calm.skip ?_ ?_; focus rfl)
        | (refine Calm.pure (v := ?_) (by rfl) ?_ ?_
           rotate_left
           focus (intro w hSw; go_simp <;> rfl))
      simp only [Act.put, List.setIfInBounds_toArray, List.set_cons_zero, List.set_cons_succ]
    all_goals
      first
        | (refine Calm.skip ?_ ?_; focus rfl)
        | (refine Calm.pure (v := ?_) (by rfl) ?_ ?_
           rotate_left
           focus (intro w hSw; go_simp <;> rfl))
      simp only [Act.put, List.setIfInBounds_toArray, List.set_cons_zero, List.set_cons_succ]
    all_goals
      first
        | (refine Calm.skip ?_ ?_; focus rfl)
        | (refine Calm.pure (v := ?_) (by rfl) ?_ ?_
           rotate_left
           focus (intro w hSw; go_simp <;> rfl))
      simp only [Act.put, List.setIfInBounds_toArray, List.set_cons_zero, List.set_cons_succ]
    all_goals
      first
        | (refine Calm.skip ?_ ?_; focus rfl)
        | (refine Calm.pure (v := ?_) (by rfl) ?_ ?_
           rotate_left
           focus (intro w hSw; go_simp <;> rfl))
      simp only [Act.put, List.setIfInBounds_toArray, List.set_cons_zero, List.set_cons_succ]
    all_goals
      first
        | (refine Calm.skip ?_ ?_; focus rfl)
        | (refine Calm.pure (v := ?_) (by rfl) ?_ ?_
           rotate_left
           focus (intro w hSw; go_simp <;> rfl))
      simp only [Act.put, List.setIfInBounds_toArray, List.set_cons_zero, List.set_cons_succ]
    all_goals
      refine Calm.pure (v := ?_) (by rfl) ?_ ?_
      rotate_left
      focus (intro w hSw; go_simp <;> rfl)
      simp only [Act.put, List.setIfInBounds_toArray, List.set_cons_zero, List.set_cons_succ]
    all_goals
      refine Calm.pure (v := ?_) (by rfl) ?_ ?_
      rotate_left
      focus (intro w hSw; go_simp <;> rfl)
      simp only [Act.put, List.setIfInBounds_toArray, List.set_cons_zero, List.set_cons_succ]
    rintro w9 ⟨_, _, _, hbel9⟩
    go_wp2
    go_ret
    refine ⟨?_, hbel9⟩
    first
      | (simp [*]; done)
      | (simp [*]; omega)

end Go.Proofs.Ytfiamiflkfdhoaa
/- The functions Peer, Has and Next of the document's answer. -/
namespace Go.Proofs.Ytfiamiflkfdhoaa
open Go.RowKit

set_option maxRecDepth 100000 in
theorem refPeer_not (p : Int) (w : World) (hp : ¬ (1 ≤ p ∧ p ≤ 12)) :
    Calls Try.prog 27 #[.int .i64 p] w fun e w' => e = .returned (.bool false) ∧ Below w.heap.size w w' := by
  by_cases h : 1 ≤ p
  · have h2 : ¬ p ≤ 12 := by omega
    go_enter Try.func27, Try.ntmps27
    go_wp2
    go_ret
    exact ⟨by simp, Below.refl _ _⟩
  · go_enter Try.func27, Try.ntmps27
    go_wp2
    go_ret
    exact ⟨by simp, Below.refl _ _⟩

set_option maxRecDepth 100000 in
theorem refPeer_yes (n : Nat) (w : World) (h1 : 1 ≤ n) (h2 : n ≤ 12) :
    Calls Try.prog 27 #[.int .i64 n] w fun e w' => e = .returned (.bool true) ∧ Below w.heap.size w w' := by
  have h3 : (1 : Int) ≤ (n : Int) := by omega
  have h4 : (n : Int) ≤ 12 := by omega
  go_enter Try.func27, Try.ntmps27
  go_wp2
  go_ret
  exact ⟨by simp, Below.refl _ _⟩

set_option maxHeartbeats 1000000 in
set_option maxRecDepth 100000 in
theorem refHas_not (v : List Int) (p s : Int) (w : World) (hp : ¬ (1 ≤ p ∧ p ≤ 12)) :
    Calls Try.prog 12 #[V v, D p s] w fun e w' => e = .returned (.bool false) ∧ Below w.heap.size w w' := by
  have hC28 := fun w1 => refPeer_not p w1 hp
  go_enter Try.func12, Try.ntmps12
  go_wp2
  obtain ⟨w0, hw0⟩ : ∃ w0, w0 = (w.alloc (.cells (vals v).toArray 26)).alloc (.cells #[.int .i64 p, .int .i64 s] 31) := ⟨_, rfl⟩
  have g1 : w0.cell? ⟨w.heap.size + 1, 0, none⟩ = some (.int .i64 p) := by rw [hw0]; exact dot_cell0 _ (by simp) p s
  have g2 : w0.cell? ⟨w.heap.size + 1, 1, none⟩ = some (.int .i64 s) := by rw [hw0]; exact dot_cell1 _ (by simp) p s
  have hbel : Below w.heap.size w w0 := by rw [hw0]; exact ((Below.refl _ _).alloc (Nat.le_refl _) _).alloc (by simp) _
  have hs : Calm.Stays (fun w' => w'.cell? ⟨w.heap.size + 1, 0, none⟩ = some (.int .i64 p) ∧ w'.cell? ⟨w.heap.size + 1, 1, none⟩ = some (.int .i64 s) ∧ Below w.heap.size w w') := fun w1 w2 h hb => ⟨cell_later hb h.1, cell_later hb h.2.1, below_on h.2.2 hb⟩
  rw [← hw0]
  clear hw0
  refine Calm.region (by kernel_rfl) (by kernel_rfl) (fun w' => w'.cell? ⟨w.heap.size + 1, 0, none⟩ = some (.int .i64 p) ∧ w'.cell? ⟨w.heap.size + 1, 1, none⟩ = some (.int .i64 s) ∧ Below w.heap.size w w') ⟨g1, g2, hbel.drew⟩ ?_
  clear g1 g2 hbel
  all_goals
    refine Calm.pure (v := ?_) (by rfl) ?_ ?_
    rotate_left
    focus (intro w hSw; go_simp <;> rfl)
    simp only [Act.put, List.setIfInBounds_toArray, List.set_cons_zero, List.set_cons_succ]
  all_goals
    refine Calm.pure (v := ?_) (by rfl) ?_ ?_
    rotate_left
    focus (intro w hSw; go_simp <;> rfl)
    simp only [Act.put, List.setIfInBounds_toArray, List.set_cons_zero, List.set_cons_succ]
  all_goals
    refine Calm.call1 (by rfl) rfl rfl (by kernel_rfl) hs hC28 ?_
    simp only [Act.put, List.setIfInBounds_toArray, List.set_cons_zero, List.set_cons_succ]
  all_goals
    refine Calm.pure (v := ?_) (by rfl) ?_ ?_
    rotate_left
    focus (intro w hSw; go_simp <;> rfl)
    simp only [Act.put, List.setIfInBounds_toArray, List.set_cons_zero, List.set_cons_succ]
  all_goals
    first
      | (refine Calm.skip ?_ ?_; focus rfl)
      | (refine Calm.pure (v := ?_) (by rfl) ?_ ?_
         rotate_left
         focus (intro w hSw; go_simp <;> rfl))
    simp only [Act.put, List.setIfInBounds_toArray, List.set_cons_zero, List.set_cons_succ]
  all_goals
    first
      | (refine Calm.skip ?_ ?_; focus rfl)
      | (refine Calm.pure (v := ?_) (by rfl) ?_ ?_
         rotate_left
         focus (intro w hSw; go_simp <;> rfl))
    simp only [Act.put, List.setIfInBounds_toArray, List.set_cons_zero, List.set_cons_succ]
  all_goals
    first
      | (refine Calm.skip ?_ ?_; focus rfl)
      | (refine Calm.pure (v := ?_) (by rfl) ?_ ?_
         rotate_left
         focus (intro w hSw; go_simp <;> rfl))
    simp only [Act.put, List.setIfInBounds_toArray, List.set_cons_zero, List.set_cons_succ]
  all_goals
    refine Calm.pure (v := ?_) (by rfl) ?_ ?_
    rotate_left
    focus (intro w hSw; go_simp <;> rfl)
    simp only [Act.put, List.setIfInBounds_toArray, List.set_cons_zero, List.set_cons_succ]
  all_goals
    refine Calm.pure (v := ?_) (by rfl) ?_ ?_
    rotate_left
    focus (intro w hSw; go_simp <;> rfl)
    simp only [Act.put, List.setIfInBounds_toArray, List.set_cons_zero, List.set_cons_succ]
  all_goals
    first
      | (refine Calm.skip ?_ ?_; focus rfl)
      | (refine Calm.pure (v := ?_) (by rfl) ?_ ?_
         rotate_left
         focus (intro w hSw; go_simp <;> rfl))
    simp only [Act.put, List.setIfInBounds_toArray, List.set_cons_zero, List.set_cons_succ]
  all_goals
    first
      | (refine Calm.skip ?_ ?_; focus rfl)
      | (refine Calm.pure (v := ?_) (by rfl) ?_ ?_
         rotate_left
         focus (intro w hSw; go_simp <;> rfl))
    simp only [Act.put, List.setIfInBounds_toArray, List.set_cons_zero, List.set_cons_succ]
  all_goals
    first
      | (refine Calm.skip ?_ ?_; focus rfl)
      | (refine Calm.pure (v := ?_) (by rfl) ?_ ?_
         rotate_left
         focus (intro w hSw; go_simp <;> rfl))
    simp only [Act.put, List.setIfInBounds_toArray, List.set_cons_zero, List.set_cons_succ]
  all_goals
    first
      | (refine Calm.skip ?_ ?_; focus rfl)
      | (refine Calm.pure (v := ?_) (by rfl) ?_ ?_
         rotate_left
         focus (intro w hSw; go_simp <;> rfl))
    simp only [Act.put, List.setIfInBounds_toArray, List.set_cons_zero, List.set_cons_succ]
  all_goals
    first
      | (refine Calm.skip ?_ ?_; focus rfl)
      | (refine Calm.pure (v := ?_) (by rfl) ?_ ?_
         rotate_left
         focus (intro w hSw; go_simp <;> rfl))
    simp only [Act.put, List.setIfInBounds_toArray, List.set_cons_zero, List.set_cons_succ]
  all_goals
    first
      | (refine Calm.skip ?_ ?_; focus rfl)
      | (refine Calm.pure (v := ?_) (by rfl) ?_ ?_
         rotate_left
         focus (intro w hSw; go_simp <;> rfl))
    simp only [Act.put, List.setIfInBounds_toArray, List.set_cons_zero, List.set_cons_succ]
  all_goals
    first
      | (refine Calm.skip ?_ ?_; focus rfl)
      | (refine Calm.pure (v := ?_) (by rfl) ?_ ?_
         rotate_left
         focus (intro w hSw; go_simp <;> rfl))
    simp only [Act.put, List.setIfInBounds_toArray, List.set_cons_zero, List.set_cons_succ]
  all_goals
    refine Calm.pure (v := ?_) (by rfl) ?_ ?_
    rotate_left
    focus (intro w hSw; go_simp <;> rfl)
    simp only [Act.put, List.setIfInBounds_toArray, List.set_cons_zero, List.set_cons_succ]
  all_goals
    refine Calm.pure (v := ?_) (by rfl) ?_ ?_
    rotate_left
    focus (intro w hSw; go_simp <;> rfl)
    simp only [Act.put, List.setIfInBounds_toArray, List.set_cons_zero, List.set_cons_succ]
  rintro w9 ⟨_, _, hbel9⟩
  go_wp2
  go_ret
  exact ⟨rfl, hbel9⟩

set_option maxHeartbeats 1000000 in
set_option maxRecDepth 100000 in
theorem refHas_peer (v : List Int) (n : Nat) (s : Int) (w : World) (hv : v.length = 13) (hn1 : 1 ≤ n) (hn2 : n ≤ 12) :
    Calls Try.prog 12 #[V v, D n s] w fun e w' => e = .returned (.bool (decide (1 ≤ s) && decide (s ≤ v.getD n 0))) ∧ Below w.heap.size w w' := by
  have hC28 := fun w1 => refPeer_yes n w1 hn1 hn2
  obtain ⟨x, HX⟩ : ∃ x, Hid (v.getD n 0 = x) := ⟨_, rfl⟩
  rw [HX.out]
  have hat := at_new w v hv
  go_enter Try.func12, Try.ntmps12
  go_wp2
  obtain ⟨w0, hw0⟩ : ∃ w0, w0 = (w.alloc (.cells (vals v).toArray 26)).alloc (.cells #[.int .i64 n, .int .i64 s] 31) := ⟨_, rfl⟩
  have g1 : w0.cell? ⟨w.heap.size + 1, 0, none⟩ = some (.int .i64 n) := by rw [hw0]; exact dot_cell0 _ (by simp) n s
  have g2 : w0.cell? ⟨w.heap.size + 1, 1, none⟩ = some (.int .i64 s) := by rw [hw0]; exact dot_cell1 _ (by simp) n s
  have g3 : w0.cell? ⟨w.heap.size, n, none⟩ = some (.int .i64 x) := by
    rw [hw0, ← HX.out]
    exact (hat.alloc _).cell (by omega)
  have hbel : Below w.heap.size w w0 := by rw [hw0]; exact ((Below.refl _ _).alloc (Nat.le_refl _) _).alloc (by simp) _
  have hs : Calm.Stays (fun w' => w'.cell? ⟨w.heap.size + 1, 0, none⟩ = some (.int .i64 n) ∧ w'.cell? ⟨w.heap.size + 1, 1, none⟩ = some (.int .i64 s) ∧ w'.cell? ⟨w.heap.size, n, none⟩ = some (.int .i64 x) ∧ Below w.heap.size w w') := fun w1 w2 h hb => ⟨cell_later hb h.1, cell_later hb h.2.1, cell_later hb h.2.2.1, below_on h.2.2.2 hb⟩
  rw [← hw0]
  clear hw0 hat
  refine Calm.region (by kernel_rfl) (by kernel_rfl) (fun w' => w'.cell? ⟨w.heap.size + 1, 0, none⟩ = some (.int .i64 n) ∧ w'.cell? ⟨w.heap.size + 1, 1, none⟩ = some (.int .i64 s) ∧ w'.cell? ⟨w.heap.size, n, none⟩ = some (.int .i64 x) ∧ Below w.heap.size w w') ⟨g1, g2, g3, hbel.drew⟩ ?_
  clear g1 g2 g3 hbel
  have hi1 : (0 : Int) ≤ (n : Int) := by omega
  have hi2 : (n : Int) < 13 := by omega
  by_cases hs1 : 1 ≤ s <;> by_cases hs2 : s ≤ x
  all_goals
    all_goals
      refine Calm.pure (v := ?_) (by rfl) ?_ ?_
      rotate_left
      focus (intro w hSw; go_simp <;> rfl)
      simp only [Act.put, List.setIfInBounds_toArray, List.set_cons_zero, List.set_cons_succ]
    all_goals
      refine Calm.pure (v := ?_) (by rfl) ?_ ?_
      rotate_left
      focus (intro w hSw; go_simp <;> rfl)
      simp only [Act.put, List.setIfInBounds_toArray, List.set_cons_zero, List.set_cons_succ]
    all_goals
      refine Calm.call1 (by rfl) rfl rfl (by kernel_rfl) hs hC28 ?_
      simp only [Act.put, List.setIfInBounds_toArray, List.set_cons_zero, List.set_cons_succ]
    all_goals
      refine Calm.pure (v := ?_) (by rfl) ?_ ?_
      rotate_left
      focus (intro w hSw; go_simp <;> rfl)
      simp only [Act.put, List.setIfInBounds_toArray, List.set_cons_zero, List.set_cons_succ]
    all_goals
      first
        | (refine Calm.skip ?_ ?_; focus rfl)
        | (refine Calm.pure (v := ?_) (by rfl) ?_ ?_
           rotate_left
           focus (intro w hSw; go_simp <;> rfl))
      simp only [Act.put, List.setIfInBounds_toArray, List.set_cons_zero, List.set_cons_succ]
    all_goals
      first
        | (refine Calm.skip ?_ ?_; focus rfl)
        | (refine Calm.pure (v := ?_) (by rfl) ?_ ?_
           rotate_left
           focus (intro w hSw; go_simp <;> rfl))
      simp only [Act.put, List.setIfInBounds_toArray, List.set_cons_zero, List.set_cons_succ]
    all_goals
      first
        | (refine Calm.skip ?_ ?_; focus rfl)
        | (refine Calm.pure (v := ?_) (by rfl) ?_ ?_
           rotate_left
           focus (intro w hSw; go_simp <;> rfl))
      simp only [Act.put, List.setIfInBounds_toArray, List.set_cons_zero, List.set_cons_succ]
    all_goals
      refine Calm.pure (v := ?_) (by rfl) ?_ ?_
      rotate_left
      focus (intro w hSw; go_simp <;> rfl)
      simp only [Act.put, List.setIfInBounds_toArray, List.set_cons_zero, List.set_cons_succ]
    all_goals
      refine Calm.pure (v := ?_) (by rfl) ?_ ?_
      rotate_left
      focus (intro w hSw; go_simp <;> rfl)
      simp only [Act.put, List.setIfInBounds_toArray, List.set_cons_zero, List.set_cons_succ]
    all_goals
      first
        | (refine Calm.skip ?_ ?_; focus rfl)
        | (refine Calm.pure (v := ?_) (by rfl) ?_ ?_
           rotate_left
           focus (intro w hSw; go_simp <;> rfl))
      simp only [Act.put, List.setIfInBounds_toArray, List.set_cons_zero, List.set_cons_succ]
    all_goals
      first
        | (refine Calm.skip ?_ ?_; focus rfl)
        | (refine Calm.pure (v := ?_) (by rfl) ?_ ?_
           rotate_left
           focus (intro w hSw; go_simp <;> rfl))
      simp only [Act.put, List.setIfInBounds_toArray, List.set_cons_zero, List.set_cons_succ]
    all_goals
      first
        | (refine Calm.skip ?_ ?_; focus rfl)
        | (refine Calm.pure (v := ?_) (by rfl) ?_ ?_
           rotate_left
           focus (intro w hSw; go_simp <;> rfl))
      simp only [Act.put, List.setIfInBounds_toArray, List.set_cons_zero, List.set_cons_succ]
    all_goals
      first
        | (refine Calm.skip ?_ ?_; focus rfl)
        | (refine Calm.pure (v := ?_) (by rfl) ?_ ?_
           rotate_left
           focus (intro w hSw; go_simp <;> rfl))
      simp only [Act.put, List.setIfInBounds_toArray, List.set_cons_zero, List.set_cons_succ]
    all_goals
      first
        | (refine Calm.skip ?_ ?_; focus rfl)
        | (refine Calm.pure (v := ?_) (by rfl) ?_ ?_
           rotate_left
           focus (intro w hSw; go_simp <;> rfl))
      simp only [Act.put, List.setIfInBounds_toArray, List.set_cons_zero, List.set_cons_succ]
    all_goals
      first
        | (refine Calm.skip ?_ ?_; focus rfl)
        | (refine Calm.pure (v := ?_) (by rfl) ?_ ?_
           rotate_left
           focus (intro w hSw; go_simp <;> rfl))
      simp only [Act.put, List.setIfInBounds_toArray, List.set_cons_zero, List.set_cons_succ]
    all_goals
      first
        | (refine Calm.skip ?_ ?_; focus rfl)
        | (refine Calm.pure (v := ?_) (by rfl) ?_ ?_
           rotate_left
           focus (intro w hSw; go_simp <;> rfl))
      simp only [Act.put, List.setIfInBounds_toArray, List.set_cons_zero, List.set_cons_succ]
    all_goals
      refine Calm.pure (v := ?_) (by rfl) ?_ ?_
      rotate_left
      focus (intro w hSw; go_simp <;> rfl)
      simp only [Act.put, List.setIfInBounds_toArray, List.set_cons_zero, List.set_cons_succ]
    all_goals
      refine Calm.pure (v := ?_) (by rfl) ?_ ?_
      rotate_left
      focus (intro w hSw; go_simp <;> rfl)
      simp only [Act.put, List.setIfInBounds_toArray, List.set_cons_zero, List.set_cons_succ]
    rintro w9 ⟨_, _, _, hbel9⟩
    go_wp2
    go_ret
    refine ⟨?_, hbel9⟩
    first
      | (simp [*]; done)
      | (simp [*]; omega)

/-- What Has tells. -/
def hs (v : List Int) (p s : Int) : Bool := wi p 1 12 && (decide (1 ≤ s) && decide (s ≤ v.getD p.toNat 0))
theorem has_any (v : List Int) (p s : Int) (w : World) (hv : v.length = 13) : Calls Try.prog 19 #[V v, D p s] w (Tells (.bool (hs v p s)) w) := by
  by_cases hp : 1 ≤ p ∧ p ≤ 12
  · obtain ⟨n, rfl⟩ : ∃ n : Nat, p = n := ⟨p.toNat, by omega⟩
    refine (has_peer v n s w hv (by omega) (by omega)).mono fun e w' ⟨he, hb⟩ => ⟨?_, hb⟩
    rw [he]
    unfold hs wi
    rw [decide_eq_true hp.1, decide_eq_true hp.2]
    simp
  · refine (has_not v p s w hp).mono fun e w' ⟨he, hb⟩ => ⟨?_, hb⟩
    rw [he]
    have : wi p 1 12 = false := by unfold wi; grind
    unfold hs
    rw [this]
    rfl
theorem refHas_any (v : List Int) (p s : Int) (w : World) (hv : v.length = 13) : Calls Try.prog 12 #[V v, D p s] w (Tells (.bool (hs v p s)) w) := by
  by_cases hp : 1 ≤ p ∧ p ≤ 12
  · obtain ⟨n, rfl⟩ : ∃ n : Nat, p = n := ⟨p.toNat, by omega⟩
    refine (refHas_peer v n s w hv (by omega) (by omega)).mono fun e w' ⟨he, hb⟩ => ⟨?_, hb⟩
    rw [he]
    unfold hs wi
    rw [decide_eq_true hp.1, decide_eq_true hp.2]
    simp
  · refine (refHas_not v p s w hp).mono fun e w' ⟨he, hb⟩ => ⟨?_, hb⟩
    rw [he]
    have : wi p 1 12 = false := by unfold wi; grind
    unfold hs
    rw [this]
    rfl
end Go.Proofs.Ytfiamiflkfdhoaa
/- Before of package ops, and of the document's answer. -/
namespace Go.Proofs.Ytfiamiflkfdhoaa
open Go.RowKit

/-- What Before tells. -/
def bf (p s i : Int) (q u : Int) (v : List Int) (idx : Int) : Bool := decide (1 ≤ i) && (((decide (p = q) && decide (s = u)) && decide (i < idx)) || hs v p s)
theorem info26 {v : List Int} (h : v.length = 13) : (Try.prog.info? 26).map (·.size) = some (vals v).length := by rw [vals_length, h]; exact size26
theorem two_rows (w : World) (c1 : Array Value) (t1 : TypeId) (c2 : Array Value) (t2 : TypeId) : Rw ((w.alloc (.cells c1 t1)).alloc (.cells c2 t2)) w.heap.size t1 c1 ∧ Rw ((w.alloc (.cells c1 t1)).alloc (.cells c2 t2)) (w.heap.size + 1) t2 c2 ∧ Below w.heap.size w ((w.alloc (.cells c1 t1)).alloc (.cells c2 t2)) :=
  ⟨(rw_new w t1 c1).alloc _, rw_next _ (by simp) t2 c2, bel_alloc (bel_alloc (Below.refl _ _) _) _⟩
theorem mk_dot {w : World} {b : Nat} {p s i : Int} (h : Rw w b 43 #[.int .i64 p, .int .i64 s, .int .i64 i]) : w.rangeAt b 0 [.int .i64 p, .int .i64 s] := h.range 0 _ fun j u hu => by
  rw [Nat.zero_add]
  match j with
  | 0 => simpa using hu
  | 1 => simpa using hu
  | j + 2 => simp at hu

set_option maxHeartbeats 2000000 in
set_option maxRecDepth 100000 in
theorem before_any (p s i : Int) (q u : Int) (v : List Int) (t : Int) (sl : Value) (idx : Int) (w : World) (hv : v.length = 13) : Calls Try.prog 58 #[MV p s i, TxV q u v t sl, .int .i64 idx] w (Tells (.bool (bf p s i q u v idx)) w) := by
  unfold bf
  have E := fun w => eq_dot w p s q u
  generalize (decide (p = q) && decide (s = u)) = x at E ⊢
  have C := fun w => has_any v p s w hv
  generalize hs v p s = y at C ⊢
  obtain ⟨R0, R1, hbel⟩ := two_rows w #[.int .i64 p, .int .i64 s, .int .i64 i] 43 (txc q u v t sl).toArray 34
  have z3 := info26 hv
  have c0 : ((w.alloc (.cells #[.int .i64 p, .int .i64 s, .int .i64 i] 43)).alloc (.cells (txc q u v t sl).toArray 34)).cell? ⟨w.heap.size, 0, none⟩ = some (.int .i64 p) := R0.cell 0
  have c1 : ((w.alloc (.cells #[.int .i64 p, .int .i64 s, .int .i64 i] 43)).alloc (.cells (txc q u v t sl).toArray 34)).cell? ⟨w.heap.size, 1, none⟩ = some (.int .i64 s) := R0.cell 1
  have c2 : ((w.alloc (.cells #[.int .i64 p, .int .i64 s, .int .i64 i] 43)).alloc (.cells (txc q u v t sl).toArray 34)).cell? ⟨w.heap.size, 2, none⟩ = some (.int .i64 i) := R0.cell 2
  have d0 := tx_p R1
  have d1 := tx_s R1
  generalize hW : (w.alloc (.cells #[.int .i64 p, .int .i64 s, .int .i64 i] 43)).alloc (.cells (txc q u v t sl).toArray 34) = w0 at R1 hbel c0 c1 c2 d0 d1
  clear R0
  cases x
  · by_cases hi : 1 ≤ i
    · go_enter Try.func58, Try.ntmps58
      go_wp2_with (first | refine load_m 26 _ rfl rfl _ _ rfl (tx_vec R1) Try.underlying26 rfl z3 ?_)
      refine (C _).mono ?_
      rintro e w1 ⟨rfl, hb1⟩
      replace hbel := below_on hbel hb1
      clear hb1
      go_wp2_with fail
      go_ret
      refine tells_bool ?_ hbel
      clear R1 hbel c0 c1 c2 d0 d1 hW C
      first | rfl | (simp_all; done) | grind
    · go_enter Try.func58, Try.ntmps58
      go_wp2_with fail
      go_ret
      refine tells_bool ?_ hbel
      clear R1 hbel c0 c1 c2 d0 d1 hW C
      first | rfl | (simp_all; done) | grind
  · by_cases hj : i < idx
    · by_cases hi : 1 ≤ i
      · go_enter Try.func58, Try.ntmps58
        go_wp2_with fail
        go_ret
        refine tells_bool ?_ hbel
        clear R1 hbel c0 c1 c2 d0 d1 hW C
        first | rfl | (simp_all; done) | grind
      · go_enter Try.func58, Try.ntmps58
        go_wp2_with fail
        go_ret
        refine tells_bool ?_ hbel
        clear R1 hbel c0 c1 c2 d0 d1 hW C
        first | rfl | (simp_all; done) | grind
    · by_cases hi : 1 ≤ i
      · go_enter Try.func58, Try.ntmps58
        go_wp2_with (first | refine load_m 26 _ rfl rfl _ _ rfl (tx_vec R1) Try.underlying26 rfl z3 ?_)
        refine (C _).mono ?_
        rintro e w1 ⟨rfl, hb1⟩
        replace hbel := below_on hbel hb1
        clear hb1
        go_wp2_with fail
        go_ret
        refine tells_bool ?_ hbel
        clear R1 hbel c0 c1 c2 d0 d1 hW C
        first | rfl | (simp_all; done) | grind
      · go_enter Try.func58, Try.ntmps58
        go_wp2_with fail
        go_ret
        refine tells_bool ?_ hbel
        clear R1 hbel c0 c1 c2 d0 d1 hW C
        first | rfl | (simp_all; done) | grind

set_option maxHeartbeats 2000000 in
set_option maxRecDepth 100000 in
theorem refBefore_any (p s i : Int) (q u : Int) (v : List Int) (t : Int) (sl : Value) (idx : Int) (w : World) (hv : v.length = 13) : Calls Try.prog 51 #[MV p s i, TxV q u v t sl, .int .i64 idx] w (Tells (.bool (bf p s i q u v idx)) w) := by
  unfold bf
  have E := fun w => eq_dot w p s q u
  generalize (decide (p = q) && decide (s = u)) = x at E ⊢
  have C := fun w => refHas_any v p s w hv
  generalize hs v p s = y at C ⊢
  obtain ⟨R0, R1, hbel⟩ := two_rows w #[.int .i64 p, .int .i64 s, .int .i64 i] 43 (txc q u v t sl).toArray 34
  have z3 := info26 hv
  have c0 : ((w.alloc (.cells #[.int .i64 p, .int .i64 s, .int .i64 i] 43)).alloc (.cells (txc q u v t sl).toArray 34)).cell? ⟨w.heap.size, 0, none⟩ = some (.int .i64 p) := R0.cell 0
  have c1 : ((w.alloc (.cells #[.int .i64 p, .int .i64 s, .int .i64 i] 43)).alloc (.cells (txc q u v t sl).toArray 34)).cell? ⟨w.heap.size, 1, none⟩ = some (.int .i64 s) := R0.cell 1
  have c2 : ((w.alloc (.cells #[.int .i64 p, .int .i64 s, .int .i64 i] 43)).alloc (.cells (txc q u v t sl).toArray 34)).cell? ⟨w.heap.size, 2, none⟩ = some (.int .i64 i) := R0.cell 2
  have d0 := tx_p R1
  have d1 := tx_s R1
  generalize hW : (w.alloc (.cells #[.int .i64 p, .int .i64 s, .int .i64 i] 43)).alloc (.cells (txc q u v t sl).toArray 34) = w0 at R1 hbel c0 c1 c2 d0 d1
  clear R0
  cases x
  · by_cases hi : 1 ≤ i
    · go_enter Try.func51, Try.ntmps51
      go_wp2_with (first | refine load_m 26 _ rfl rfl _ _ rfl (tx_vec R1) Try.underlying26 rfl z3 ?_)
      refine (C _).mono ?_
      rintro e w1 ⟨rfl, hb1⟩
      replace hbel := below_on hbel hb1
      clear hb1
      go_wp2_with fail
      go_ret
      refine tells_bool ?_ hbel
      clear R1 hbel c0 c1 c2 d0 d1 hW C
      first | rfl | (simp_all; done) | grind
    · go_enter Try.func51, Try.ntmps51
      go_wp2_with fail
      go_ret
      refine tells_bool ?_ hbel
      clear R1 hbel c0 c1 c2 d0 d1 hW C
      first | rfl | (simp_all; done) | grind
  · by_cases hj : i < idx
    · by_cases hi : 1 ≤ i
      · go_enter Try.func51, Try.ntmps51
        go_wp2_with fail
        go_ret
        refine tells_bool ?_ hbel
        clear R1 hbel c0 c1 c2 d0 d1 hW C
        first | rfl | (simp_all; done) | grind
      · go_enter Try.func51, Try.ntmps51
        go_wp2_with fail
        go_ret
        refine tells_bool ?_ hbel
        clear R1 hbel c0 c1 c2 d0 d1 hW C
        first | rfl | (simp_all; done) | grind
    · by_cases hi : 1 ≤ i
      · go_enter Try.func51, Try.ntmps51
        go_wp2_with (first | refine load_m 26 _ rfl rfl _ _ rfl (tx_vec R1) Try.underlying26 rfl z3 ?_)
        refine (C _).mono ?_
        rintro e w1 ⟨rfl, hb1⟩
        replace hbel := below_on hbel hb1
        clear hb1
        go_wp2_with fail
        go_ret
        refine tells_bool ?_ hbel
        clear R1 hbel c0 c1 c2 d0 d1 hW C
        first | rfl | (simp_all; done) | grind
      · go_enter Try.func51, Try.ntmps51
        go_wp2_with fail
        go_ret
        refine tells_bool ?_ hbel
        clear R1 hbel c0 c1 c2 d0 d1 hW C
        first | rfl | (simp_all; done) | grind
end Go.Proofs.Ytfiamiflkfdhoaa
/- withoutUsed and withoutName of package ops. -/
namespace Go.Proofs.Ytfiamiflkfdhoaa
open Go.RowKit
set_option maxHeartbeats 1000000 in
set_option maxRecDepth 100000 in
theorem withoutName_any (k : Int) (key field : ByteArray) (inner act n : Int) (text : ByteArray) (pl : Int) (w : World) : Calls Try.prog 81 #[UV k key field inner act n text pl] w (Tells (.tuple #[UV 0 noS (if k = 6 then noS else field) (if k = 6 then 0 else inner) act n text pl, .bool (wi key.size 1 64 && (!decide (k = 6) || (wi field.size 1 64 && wi inner 1 5)))]) w) := by
  unfold wi
  go_enter Try.func81, Try.ntmps81
  go_wp2
  all_goals
    refine bodyPost_ret (results_rt rfl rfl (rw_next _ (by simp) 90 _) rfl Try.underlying90 size90) rfl (tells_ub ?_ ?_ ?_)
    focus (first | rfl | (simp_all; done) | grind)
    focus (first | rfl | (simp_all; done) | grind)
    repeat refine bel_alloc ?_ _
    exact Below.refl _ _

/-- What withoutUsed tells, and leaves. -/
def uOk (d act n : Int) (text : ByteArray) (pl : Int) : Bool :=
  if d = 1 ∧ act = 1 then wi n (-1073741824) 1073741824
  else if d = 5 ∧ act = 2 then wi pl 0 1048576
  else if d = 5 ∧ act = 4 then wi pl 0 1048576 && decide ((text.size : Int) ≤ 64)
  else if (d = 2 ∧ act = 3) ∨ (d = 3 ∧ act = 3) ∨ (d = 4 ∧ act = 1) ∨ (d = 4 ∧ act = 2) then decide ((text.size : Int) ≤ 64)
  else decide (d = 6 ∧ act = 5)
def uN (d act n : Int) : Int := if d = 1 ∧ act = 1 then 0 else n
def uP (d act pl : Int) : Int := if d = 5 ∧ (act = 2 ∨ act = 4) then 0 else pl
def uT (d act : Int) (text : ByteArray) : ByteArray := if (d = 5 ∧ act = 4) ∨ (d = 2 ∧ act = 3) ∨ (d = 3 ∧ act = 3) ∨ (d = 4 ∧ act = 1) ∨ (d = 4 ∧ act = 2) then noS else text

theorem uv_eq {k : Int} {key field : ByteArray} {inner act n n' : Int} {text t' : ByteArray} {pl p' : Int} (hn : n = n') (ht : text = t') (hp : pl = p') : UV k key field inner act n text pl = UV k key field inner act n' t' p' := by subst hn ht hp; rfl
set_option maxHeartbeats 4000000 in
set_option maxRecDepth 100000 in
theorem withoutUsed_any (k : Int) (key field : ByteArray) (inner act n : Int) (text : ByteArray) (pl : Int) (w : World) : Calls Try.prog 80 #[UV k key field inner act n text pl] w (Tells (.tuple #[UV k key field inner 0 (uN (dk k inner act) act n) (uT (dk k inner act) act text) (uP (dk k inner act) act pl), .bool (uOk (dk k inner act) act n text pl)]) w) := by
  obtain ⟨d, HD⟩ : ∃ d, Hid (dk k inner act = d) := ⟨_, rfl⟩
  rw [HD.out]
  obtain ⟨n', HN⟩ : ∃ z, Hid (uN d act n = z) := ⟨_, rfl⟩
  obtain ⟨t', HT⟩ : ∃ z, Hid (uT d act text = z) := ⟨_, rfl⟩
  obtain ⟨p', HP⟩ : ∃ z, Hid (uP d act pl = z) := ⟨_, rfl⟩
  obtain ⟨o', HO⟩ : ∃ z, Hid (uOk d act n text pl = z) := ⟨_, rfl⟩
  rw [HN.out, HT.out, HP.out, HO.out]
  go_enter Try.func80, Try.ntmps80
  go_wp2_with fail
  refine (deedOf_any _ _ _ _ _ _ _ _ _).mono ?_
  rintro e w1 ⟨rfl, rfl⟩
  rw [HD.out]
  clear HD
  go_wp2
  all_goals
    refine bodyPost_ret (results_rt rfl rfl (((rw_next _ (by simp) 90 _).alloc _).alloc _) rfl Try.underlying90 size90) rfl (tells_ub (uv_eq ?_ ?_ ?_) ?_ ?_)
    focus (rw [← HN.out]; unfold uN; split <;> first | rfl | omega)
    focus (rw [← HT.out]; unfold uT; split <;> first | rfl | omega)
    focus (rw [← HP.out]; unfold uP; split <;> first | rfl | omega)
    focus (rw [← HO.out]; unfold uOk wi; (repeat' split) <;> first | rfl | omega | (simp; omega))
    repeat refine bel_alloc ?_ _
    exact Below.refl _ _
end Go.Proofs.Ytfiamiflkfdhoaa
/- CheckUpdate of package ops. -/
namespace Go.Proofs.Ytfiamiflkfdhoaa
open Go.RowKit

/-- What CheckUpdate tells. -/
def cu (k : Int) (key field : ByteArray) (inner act n : Int) (text : ByteArray) (pl : Int) : Bool :=
  uOk (dk k inner act) act n text pl && (wi key.size 1 64 && (!decide (k = 6) || (wi field.size 1 64 && wi inner 1 5))) &&
  (decide ((if k = 6 then noS else field) = noS) && decide ((if k = 6 then 0 else inner) = 0) && decide (uN (dk k inner act) act n = 0) && decide (uT (dk k inner act) act text = noS) && decide (uP (dk k inner act) act pl = 0))

set_option maxHeartbeats 1000000 in
set_option maxRecDepth 100000 in
theorem checkUpdate_any (k : Int) (key field : ByteArray) (inner act n : Int) (text : ByteArray) (pl : Int) (w : World) : Calls Try.prog 70 #[UV k key field inner act n text pl] w (Tells (.bool (cu k key field inner act n text pl)) w) := by
  unfold cu
  have C1 := fun w => withoutUsed_any k key field inner act n text pl w
  generalize uOk (dk k inner act) act n text pl = x at C1 ⊢
  generalize uN (dk k inner act) act n = n' at C1 ⊢
  generalize uT (dk k inner act) act text = t' at C1 ⊢
  generalize uP (dk k inner act) act pl = p' at C1 ⊢
  have C2 := fun w => withoutName_any k key field inner 0 n' t' p' w
  generalize (wi key.size 1 64 && (!decide (k = 6) || (wi field.size 1 64 && wi inner 1 5))) = y at C2 ⊢
  generalize (if k = 6 then noS else field) = f' at C2 ⊢
  generalize (if k = 6 then 0 else inner) = i' at C2 ⊢
  go_enter Try.func70, Try.ntmps70
  go_wp2_with fail
  refine (C1 _).mono ?_
  rintro e w1 ⟨rfl, hb1⟩
  clear C1
  have R1 := rw_new w1 90 #[.int .i64 k, .string key, .string field, .int .i64 inner, .int .i64 0, .int .i64 n', .string t', .int .i64 p']
  go_wp2_with fail
  refine (C2 _).mono ?_
  rintro e w2 ⟨rfl, hb2⟩
  clear C2
  replace R1 := R1.later hb2
  have R2 := R1.row #[.int .i64 0, .string noS, .string f', .int .i64 i', .int .i64 0, .int .i64 n', .string t', .int .i64 p']
  have hbel : Below w.heap.size w (w2.setRow w1.heap.size #[.int .i64 0, .string noS, .string f', .int .i64 i', .int .i64 0, .int .i64 n', .string t', .int .i64 p']) := by
    have q1 : Below w.heap.size w w1 := below_on (bel_alloc (Below.refl _ _) _) hb1
    exact below_setRow (below_on (bel_alloc q1 _) hb2) q1.size _
  generalize hW : w2.setRow w1.heap.size #[.int .i64 0, .string noS, .string f', .int .i64 i', .int .i64 0, .int .i64 n', .string t', .int .i64 p'] = w3 at R2 hbel
  clear hb1 hb2
  cases x <;> cases y
  all_goals
    go_wp2_with (first | refine store_r rfl 90 _ _ rfl _ _ rfl rfl R1 size90 rfl (by simp [Value.oneCell']) ?_ | refine load_r 90 _ rfl rfl _ rfl R2 Try.underlying90 rfl size90 ?_)
  all_goals
    clear R1 R2 hW
    go_ret
    refine tells_bool ?_ hbel
    clear hbel
    first | rfl | (simp_all [tl_nil]; done) | grind [tl_nil]
end Go.Proofs.Ytfiamiflkfdhoaa
