import Derived.Test.YthekfmodafmlgaaP2
import Derived.Test.YthekfmodafmlgaaP4
import Derived.Test.YthekfmodafmlgaaP1
/- The functions isPeer, Has and Next of package vec. -/
namespace Go.Proofs.Ythekfmodafmlgaa
open Go.RowKit

set_option maxRecDepth 100000 in
theorem isPeer_not (p : Int) (w : World) (hp : ¬ (1 ≤ p ∧ p ≤ 12)) :
    Calls Try.prog 61 #[.int .i64 p] w fun e w' => e = .returned (.bool false) ∧ Below w.heap.size w w' := by
  by_cases h : 1 ≤ p
  · have h2 : ¬ p ≤ 12 := by omega
    go_enter Try.func61, Try.ntmps61
    go_wp2
    go_ret
    exact ⟨by simp, Below.refl _ _⟩
  · go_enter Try.func61, Try.ntmps61
    go_wp2
    go_ret
    exact ⟨by simp, Below.refl _ _⟩

set_option maxRecDepth 100000 in
theorem isPeer_yes (n : Nat) (w : World) (h1 : 1 ≤ n) (h2 : n ≤ 12) :
    Calls Try.prog 61 #[.int .i64 n] w fun e w' => e = .returned (.bool true) ∧ Below w.heap.size w w' := by
  have h3 : (1 : Int) ≤ (n : Int) := by omega
  have h4 : (n : Int) ≤ 12 := by omega
  go_enter Try.func61, Try.ntmps61
  go_wp2
  go_ret
  exact ⟨by simp, Below.refl _ _⟩

theorem dot_cell0 (w : World) {b : Nat} (hb : b = w.heap.size) (p s : Int) : (w.alloc (.cells #[.int .i64 p, .int .i64 s] 29)).cell? ⟨b, 0, none⟩ = some (.int .i64 p) := by
  subst hb
  rw [cell_of_row _ _ 0 _ 29 (0, 0) (heap_alloc_last w _)]
  rfl
theorem dot_cell1 (w : World) {b : Nat} (hb : b = w.heap.size) (p s : Int) : (w.alloc (.cells #[.int .i64 p, .int .i64 s] 29)).cell? ⟨b, 1, none⟩ = some (.int .i64 s) := by
  subst hb
  rw [cell_of_row _ _ 1 _ 29 (0, 0) (heap_alloc_last w _)]
  rfl

set_option maxHeartbeats 1000000 in
set_option maxRecDepth 100000 in
theorem has_not (v : List Int) (p s : Int) (w : World) (hp : ¬ (1 ≤ p ∧ p ≤ 12)) :
    Calls Try.prog 42 #[V v, D p s] w fun e w' => e = .returned (.bool false) ∧ Below w.heap.size w w' := by
  have hC28 := fun w1 => isPeer_not p w1 hp
  go_enter Try.func42, Try.ntmps42
  go_wp2
  obtain ⟨w0, hw0⟩ : ∃ w0, w0 = (w.alloc (.cells (vals v).toArray 31)).alloc (.cells #[.int .i64 p, .int .i64 s] 29) := ⟨_, rfl⟩
  have g1 : w0.cell? ⟨w.heap.size + 1, 0, none⟩ = some (.int .i64 p) := by rw [hw0]; exact dot_cell0 _ (by simp) p s
  have g2 : w0.cell? ⟨w.heap.size + 1, 1, none⟩ = some (.int .i64 s) := by rw [hw0]; exact dot_cell1 _ (by simp) p s
  have hbel : Below w.heap.size w w0 := by rw [hw0]; exact ((Below.refl _ _).alloc (Nat.le_refl _) _).alloc (by simp) _
  have hs : Calm.Stays (fun w' => w'.cell? ⟨w.heap.size + 1, 0, none⟩ = some (.int .i64 p) ∧ w'.cell? ⟨w.heap.size + 1, 1, none⟩ = some (.int .i64 s) ∧ Below w.heap.size w w') := fun w1 w2 h hb => ⟨cell_later hb h.1, cell_later hb h.2.1, below_on h.2.2 hb⟩
  rw [← hw0]
  clear hw0
  refine Calm.region (by kernel_rfl) (by kernel_rfl) (fun w' => w'.cell? ⟨w.heap.size + 1, 0, none⟩ = some (.int .i64 p) ∧ w'.cell? ⟨w.heap.size + 1, 1, none⟩ = some (.int .i64 s) ∧ Below w.heap.size w w') ⟨g1, g2, hbel.drew⟩ ?_
  clear g1 g2 hbel
  all_goals
    refine Calm.pure (v := ?_) (by rfl) ?_ ?_
    rotate_left
    focus (intro w hSw; go_simp <;> rfl)
    simp only [Act.put, List.setIfInBounds_toArray, List.set_cons_zero, List.set_cons_succ]
  all_goals
    refine Calm.pure (v := ?_) (by rfl) ?_ ?_
    rotate_left
    focus (intro w hSw; go_simp <;> rfl)
    simp only [Act.put, List.setIfInBounds_toArray, List.set_cons_zero, List.set_cons_succ]
  all_goals
    refine Calm.call1 (by rfl) rfl rfl (by kernel_rfl) hs hC28 ?_
    simp only [Act.put, List.setIfInBounds_toArray, List.set_cons_zero, List.set_cons_succ]
  all_goals
    refine Calm.pure (v := ?_) (by rfl) ?_ ?_
    rotate_left
    focus (intro w hSw; go_simp <;> rfl)
    simp only [Act.put, List.setIfInBounds_toArray, List.set_cons_zero, List.set_cons_succ]
  all_goals
    first
      | (refine Calm.skip ?_ ?_; focus rfl)
      | (refine Calm.pure (v := ?_) (by rfl) ?_ ?_
         rotate_left
         focus (intro w hSw; go_simp <;> rfl))
    simp only [Act.put, List.setIfInBounds_toArray, List.set_cons_zero, List.set_cons_succ]
  all_goals
    first
      | (refine Calm.skip ?_ ?_; focus rfl)
      | (refine Calm.pure (v := ?_) (by rfl) ?_ ?_
         rotate_left
         focus (intro w hSw; go_simp <;> rfl))
    simp only [Act.put, List.setIfInBounds_toArray, List.set_cons_zero, List.set_cons_succ]
  all_goals
    first
      | (refine Calm.skip ?_ ?_; focus rfl)
      | (refine Calm.pure (v := ?_) (by rfl) ?_ ?_
         rotate_left
         focus (intro w hSw; go_simp <;> rfl))
    simp only [Act.put, List.setIfInBounds_toArray, List.set_cons_zero, List.set_cons_succ]
  all_goals
    refine Calm.pure (v := ?_) (by rfl) ?_ ?_
    rotate_left
    focus (intro w hSw; go_simp <;> rfl)
    simp only [Act.put, List.setIfInBounds_toArray, List.set_cons_zero, List.set_cons_succ]
  all_goals
    refine Calm.pure (v := ?_) (by rfl) ?_ ?_
    rotate_left
    focus (intro w hSw; go_simp <;> rfl)
    simp only [Act.put, List.setIfInBounds_toArray, List.set_cons_zero, List.set_cons_succ]
  all_goals
    first
      | (refine Calm.skip ?_ ?_; focus rfl)
      | (refine Calm.pure (v := ?_) (by rfl) ?_ ?_
         rotate_left
         focus (intro w hSw; go_simp <;> rfl))
    simp only [Act.put, List.setIfInBounds_toArray, List.set_cons_zero, List.set_cons_succ]
  all_goals
    first
      | (refine Calm.skip ?_ ?_; focus rfl)
      | (refine Calm.pure (v := ?_) (by rfl) ?_ ?_
         rotate_left
         focus (intro w hSw; go_simp <;> rfl))
    simp only [Act.put, List.setIfInBounds_toArray, List.set_cons_zero, List.set_cons_succ]
  all_goals
    first
      | (refine Calm.skip ?_ ?_; focus rfl)
      | (refine Calm.pure (v := ?_) (by rfl) ?_ ?_
         rotate_left
         focus (intro w hSw; go_simp <;> rfl))
    simp only [Act.put, List.setIfInBounds_toArray, List.set_cons_zero, List.set_cons_succ]
  all_goals
    first
      | (refine Calm.skip ?_ ?_; focus rfl)
      | (refine Calm.pure (v := ?_) (by rfl) ?_ ?_
         rotate_left
         focus (intro w hSw; go_simp <;> rfl))
    simp only [Act.put, List.setIfInBounds_toArray, List.set_cons_zero, List.set_cons_succ]
  all_goals
    first
      | (refine Calm.skip ?_ ?_; focus rfl)
      | (refine Calm.pure (v := ?_) (by rfl) ?_ ?_
         rotate_left
         focus (intro w hSw; go_simp <;> rfl))
    simp only [Act.put, List.setIfInBounds_toArray, List.set_cons_zero, List.set_cons_succ]
  all_goals
    first
      | (refine Calm.skip ?_ ?_; focus rfl)
      | (refine Calm.pure (v := ?_) (by rfl) ?_ ?_
         rotate_left
         focus (intro w hSw; go_simp <;> rfl))
    simp only [Act.put, List.setIfInBounds_toArray, List.set_cons_zero, List.set_cons_succ]
  all_goals
    first
      | (refine Calm.skip ?_ ?_; focus rfl)
      | (refine Calm.pure (v := ?_) (by rfl) ?_ ?_
         rotate_left
         focus (intro w hSw; go_simp <;> rfl))
    simp only [Act.put, List.setIfInBounds_toArray, List.set_cons_zero, List.set_cons_succ]
  all_goals
    refine Calm.pure (v := ?_) (by rfl) ?_ ?_
    rotate_left
    focus (intro w hSw; go_simp <;> rfl)
    simp only [Act.put, List.setIfInBounds_toArray, List.set_cons_zero, List.set_cons_succ]
  all_goals
    refine Calm.pure (v := ?_) (by rfl) ?_ ?_
    rotate_left
    focus (intro w hSw; go_simp <;> rfl)
    simp only [Act.put, List.setIfInBounds_toArray, List.set_cons_zero, List.set_cons_succ]
  rintro w9 ⟨_, _, hbel9⟩
  go_wp2
  go_ret
  exact ⟨rfl, hbel9⟩

set_option maxHeartbeats 1000000 in
set_option maxRecDepth 100000 in
theorem has_peer (v : List Int) (n : Nat) (s : Int) (w : World) (hv : v.length = 13) (hn1 : 1 ≤ n) (hn2 : n ≤ 12) :
    Calls Try.prog 42 #[V v, D n s] w fun e w' => e = .returned (.bool (decide (1 ≤ s) && decide (s ≤ v.getD n 0))) ∧ Below w.heap.size w w' := by
  have hC28 := fun w1 => isPeer_yes n w1 hn1 hn2
  obtain ⟨x, HX⟩ : ∃ x, Hid (v.getD n 0 = x) := ⟨_, rfl⟩
  rw [HX.out]
  have hat := at_new w v hv
  go_enter Try.func42, Try.ntmps42
  go_wp2
  obtain ⟨w0, hw0⟩ : ∃ w0, w0 = (w.alloc (.cells (vals v).toArray 31)).alloc (.cells #[.int .i64 n, .int .i64 s] 29) := ⟨_, rfl⟩
  have g1 : w0.cell? ⟨w.heap.size + 1, 0, none⟩ = some (.int .i64 n) := by rw [hw0]; exact dot_cell0 _ (by simp) n s
  have g2 : w0.cell? ⟨w.heap.size + 1, 1, none⟩ = some (.int .i64 s) := by rw [hw0]; exact dot_cell1 _ (by simp) n s
  have g3 : w0.cell? ⟨w.heap.size, n, none⟩ = some (.int .i64 x) := by
    rw [hw0, ← HX.out]
    exact (hat.alloc _).cell (by omega)
  have hbel : Below w.heap.size w w0 := by rw [hw0]; exact ((Below.refl _ _).alloc (Nat.le_refl _) _).alloc (by simp) _
  have hs : Calm.Stays (fun w' => w'.cell? ⟨w.heap.size + 1, 0, none⟩ = some (.int .i64 n) ∧ w'.cell? ⟨w.heap.size + 1, 1, none⟩ = some (.int .i64 s) ∧ w'.cell? ⟨w.heap.size, n, none⟩ = some (.int .i64 x) ∧ Below w.heap.size w w') := fun w1 w2 h hb => ⟨cell_later hb h.1, cell_later hb h.2.1, cell_later hb h.2.2.1, below_on h.2.2.2 hb⟩
  rw [← hw0]
  clear hw0 hat
  refine Calm.region (by kernel_rfl) (by kernel_rfl) (fun w' => w'.cell? ⟨w.heap.size + 1, 0, none⟩ = some (.int .i64 n) ∧ w'.cell? ⟨w.heap.size + 1, 1, none⟩ = some (.int .i64 s) ∧ w'.cell? ⟨w.heap.size, n, none⟩ = some (.int .i64 x) ∧ Below w.heap.size w w') ⟨g1, g2, g3, hbel.drew⟩ ?_
  clear g1 g2 g3 hbel
  have hi1 : (0 : Int) ≤ (n : Int) := by omega
  have hi2 : (n : Int) < 13 := by omega
  by_cases hs1 : 1 ≤ s <;> by_cases hs2 : s ≤ x
  all_goals
    all_goals
      refine Calm.pure (v := ?_) (by rfl) ?_ ?_
      rotate_left
      focus (intro w hSw; go_simp <;> rfl)
      simp only [Act.put, List.setIfInBounds_toArray, List.set_cons_zero, List.set_cons_succ]
    all_goals
      refine Calm.pure (v := ?_) (by rfl) ?_ ?_
      rotate_left
      focus (intro w hSw; go_simp <;> rfl)
      simp only [Act.put, List.setIfInBounds_toArray, List.set_cons_zero, List.set_cons_succ]
    all_goals
      refine Calm.call1 (by rfl) rfl rfl (by kernel_rfl) hs hC28 ?_
      simp only [Act.put, List.setIfInBounds_toArray, List.set_cons_zero, List.set_cons_succ]
    all_goals
      refine Calm.pure (v := ?_) (by rfl) ?_ ?_
      rotate_left
      focus (intro w hSw; go_simp <;> rfl)
      simp only [Act.put, List.setIfInBounds_toArray, List.set_cons_zero, List.set_cons_succ]
    all_goals
      first
        | (refine Calm.skip ?_ ?_; focus rfl)
        | (refine Calm.pure (v := ?_) (by rfl) ?_ ?_
           rotate_left
           focus (intro w hSw; go_simp <;> rfl))
      simp only [Act.put, List.setIfInBounds_toArray, List.set_cons_zero, List.set_cons_succ]
    all_goals
      first
        | (refine Calm.skip ?_ ?_; focus rfl)
        | (refine Calm.pure (v := ?_) (by rfl) ?_ ?_
           rotate_left
           focus (intro w hSw; go_simp <;> rfl))
      simp only [Act.put, List.setIfInBounds_toArray, List.set_cons_zero, List.set_cons_succ]
    all_goals
      first
        | (refine Calm.skip ?_ ?_; focus rfl)
        | (refine Calm.pure (v := ?_) (by rfl) ?_ ?_
           rotate_left
           focus (intro w hSw; go_simp <;> rfl))
      simp only [Act.put, List.setIfInBounds_toArray, List.set_cons_zero, List.set_cons_succ]
    all_goals
      refine Calm.pure (v := ?_) (by rfl) ?_ ?_
      rotate_left
      focus (intro w hSw; go_simp <;> rfl)
      simp only [Act.put, List.setIfInBounds_toArray, List.set_cons_zero, List.set_cons_succ]
    all_goals
      refine Calm.pure (v := ?_) (by rfl) ?_ ?_
      rotate_left
      focus (intro w hSw; go_simp <;> rfl)
      simp only [Act.put, List.setIfInBounds_toArray, List.set_cons_zero, List.set_cons_succ]
    all_goals
      first
        | (refine Calm.skip ?_ ?_; focus rfl)
        | (refine Calm.pure (v := ?_) (by rfl) ?_ ?_
           rotate_left
           focus (intro w hSw; go_simp <;> rfl))
      simp only [Act.put, List.setIfInBounds_toArray, List.set_cons_zero, List.set_cons_succ]
    all_goals
      first
        | (refine Calm.skip ?_ ?_; focus rfl)
        | (refine Calm.pure (v := ?_) (by rfl) ?_ ?_
           rotate_left
           focus (intro w hSw; go_simp <;> rfl))
      simp only [Act.put, List.setIfInBounds_toArray, List.set_cons_zero, List.set_cons_succ]
    all_goals
      first
        | (refine Calm.skip ?_ ?_; focus rfl)
        | (refine Calm.pure (v := ?_) (by rfl) ?_ ?_
           rotate_left
           focus (intro w hSw; go_simp <;> rfl))
      simp only [Act.put, List.setIfInBounds_toArray, List.set_cons_zero, List.set_cons_succ]
    all_goals
      first
        | (refine Calm.skip ?_ ?_; focus rfl)
        | (refine Calm.pure (v := ?_) (by rfl) ?_ ?_
           rotate_left
           focus (intro w hSw; go_simp <;> rfl))
      simp only [Act.put, List.setIfInBounds_toArray, List.set_cons_zero, List.set_cons_succ]
    all_goals
      first
        | (refine Calm.skip ?_ ?_; focus rfl)
        | (refine Calm.pure (v := ?_) (by rfl) ?_ ?_
           rotate_left
           focus (intro w hSw; go_simp <;> rfl))
      simp only [Act.put, List.setIfInBounds_toArray, List.set_cons_zero, List.set_cons_succ]
    all_goals
      first
        | (refine Calm.skip ?_ ?_; focus rfl)
        | (refine Calm.pure (v := ?_) (by rfl) ?_ ?_
           rotate_left
           focus (intro w hSw; go_simp <;> rfl))
      simp only [Act.put, List.setIfInBounds_toArray, List.set_cons_zero, List.set_cons_succ]
    all_goals
      first
        | (refine Calm.skip ?_ ?_; focus rfl)
        | (refine Calm.pure (v := ?_) (by rfl) ?_ ?_
           rotate_left
           focus (intro w hSw; go_simp <;> rfl))
      simp only [Act.put, List.setIfInBounds_toArray, List.set_cons_zero, List.set_cons_succ]
    all_goals
      refine Calm.pure (v := ?_) (by rfl) ?_ ?_
      rotate_left
      focus (intro w hSw; go_simp <;> rfl)
      simp only [Act.put, List.setIfInBounds_toArray, List.set_cons_zero, List.set_cons_succ]
    all_goals
      refine Calm.pure (v := ?_) (by rfl) ?_ ?_
      rotate_left
      focus (intro w hSw; go_simp <;> rfl)
      simp only [Act.put, List.setIfInBounds_toArray, List.set_cons_zero, List.set_cons_succ]
    rintro w9 ⟨_, _, _, hbel9⟩
    go_wp2
    go_ret
    refine ⟨?_, hbel9⟩
    first
      | (simp [*]; done)
      | (simp [*]; omega)

end Go.Proofs.Ythekfmodafmlgaa
/- The functions Peer, Has and Next of the document's answer. -/
namespace Go.Proofs.Ythekfmodafmlgaa
open Go.RowKit

set_option maxRecDepth 100000 in
theorem refPeer_not (p : Int) (w : World) (hp : ¬ (1 ≤ p ∧ p ≤ 12)) :
    Calls Try.prog 45 #[.int .i64 p] w fun e w' => e = .returned (.bool false) ∧ Below w.heap.size w w' := by
  by_cases h : 1 ≤ p
  · have h2 : ¬ p ≤ 12 := by omega
    go_enter Try.func45, Try.ntmps45
    go_wp2
    go_ret
    exact ⟨by simp, Below.refl _ _⟩
  · go_enter Try.func45, Try.ntmps45
    go_wp2
    go_ret
    exact ⟨by simp, Below.refl _ _⟩

set_option maxRecDepth 100000 in
theorem refPeer_yes (n : Nat) (w : World) (h1 : 1 ≤ n) (h2 : n ≤ 12) :
    Calls Try.prog 45 #[.int .i64 n] w fun e w' => e = .returned (.bool true) ∧ Below w.heap.size w w' := by
  have h3 : (1 : Int) ≤ (n : Int) := by omega
  have h4 : (n : Int) ≤ 12 := by omega
  go_enter Try.func45, Try.ntmps45
  go_wp2
  go_ret
  exact ⟨by simp, Below.refl _ _⟩

set_option maxHeartbeats 1000000 in
set_option maxRecDepth 100000 in
theorem refHas_not (v : List Int) (p s : Int) (w : World) (hp : ¬ (1 ≤ p ∧ p ≤ 12)) :
    Calls Try.prog 28 #[V v, D p s] w fun e w' => e = .returned (.bool false) ∧ Below w.heap.size w w' := by
  have hC28 := fun w1 => refPeer_not p w1 hp
  go_enter Try.func28, Try.ntmps28
  go_wp2
  obtain ⟨w0, hw0⟩ : ∃ w0, w0 = (w.alloc (.cells (vals v).toArray 31)).alloc (.cells #[.int .i64 p, .int .i64 s] 29) := ⟨_, rfl⟩
  have g1 : w0.cell? ⟨w.heap.size + 1, 0, none⟩ = some (.int .i64 p) := by rw [hw0]; exact dot_cell0 _ (by simp) p s
  have g2 : w0.cell? ⟨w.heap.size + 1, 1, none⟩ = some (.int .i64 s) := by rw [hw0]; exact dot_cell1 _ (by simp) p s
  have hbel : Below w.heap.size w w0 := by rw [hw0]; exact ((Below.refl _ _).alloc (Nat.le_refl _) _).alloc (by simp) _
  have hs : Calm.Stays (fun w' => w'.cell? ⟨w.heap.size + 1, 0, none⟩ = some (.int .i64 p) ∧ w'.cell? ⟨w.heap.size + 1, 1, none⟩ = some (.int .i64 s) ∧ Below w.heap.size w w') := fun w1 w2 h hb => ⟨cell_later hb h.1, cell_later hb h.2.1, below_on h.2.2 hb⟩
  rw [← hw0]
  clear hw0
  refine Calm.region (by kernel_rfl) (by kernel_rfl) (fun w' => w'.cell? ⟨w.heap.size + 1, 0, none⟩ = some (.int .i64 p) ∧ w'.cell? ⟨w.heap.size + 1, 1, none⟩ = some (.int .i64 s) ∧ Below w.heap.size w w') ⟨g1, g2, hbel.drew⟩ ?_
  clear g1 g2 hbel
  all_goals
    refine Calm.pure (v := ?_) (by rfl) ?_ ?_
    rotate_left
    focus (intro w hSw; go_simp <;> rfl)
    simp only [Act.put, List.setIfInBounds_toArray, List.set_cons_zero, List.set_cons_succ]
  all_goals
    refine Calm.pure (v := ?_) (by rfl) ?_ ?_
    rotate_left
    focus (intro w hSw; go_simp <;> rfl)
    simp only [Act.put, List.setIfInBounds_toArray, List.set_cons_zero, List.set_cons_succ]
  all_goals
    refine Calm.call1 (by rfl) rfl rfl (by kernel_rfl) hs hC28 ?_
    simp only [Act.put, List.setIfInBounds_toArray, List.set_cons_zero, List.set_cons_succ]
  all_goals
    refine Calm.pure (v := ?_) (by rfl) ?_ ?_
    rotate_left
    focus (intro w hSw; go_simp <;> rfl)
    simp only [Act.put, List.setIfInBounds_toArray, List.set_cons_zero, List.set_cons_succ]
  all_goals
    first
      | (refine Calm.skip ?_ ?_; focus rfl)
      | (refine Calm.pure (v := ?_) (by rfl) ?_ ?_
         rotate_left
         focus (intro w hSw; go_simp <;> rfl))
    simp only [Act.put, List.setIfInBounds_toArray, List.set_cons_zero, List.set_cons_succ]
  all_goals
    first
      | (refine Calm.skip ?_ ?_; focus rfl)
      | (refine Calm.pure (v := ?_) (by rfl) ?_ ?_
         rotate_left
         focus (intro w hSw; go_simp <;> rfl))
    simp only [Act.put, List.setIfInBounds_toArray, List.set_cons_zero, List.set_cons_succ]
  all_goals
    first
      | (refine Calm.skip ?_ ?_; focus rfl)
      | (refine Calm.pure (v := ?_) (by rfl) ?_ ?_
         rotate_left
         focus (intro w hSw; go_simp <;> rfl))
    simp only [Act.put, List.setIfInBounds_toArray, List.set_cons_zero, List.set_cons_succ]
  all_goals
    refine Calm.pure (v := ?_) (by rfl) ?_ ?_
    rotate_left
    focus (intro w hSw; go_simp <;> rfl)
    simp only [Act.put, List.setIfInBounds_toArray, List.set_cons_zero, List.set_cons_succ]
  all_goals
    refine Calm.pure (v := ?_) (by rfl) ?_ ?_
    rotate_left
    focus (intro w hSw; go_simp <;> rfl)
    simp only [Act.put, List.setIfInBounds_toArray, List.set_cons_zero, List.set_cons_succ]
  all_goals
    first
      | (refine Calm.skip ?_ ?_; focus rfl)
      | (refine Calm.pure (v := ?_) (by rfl) ?_ ?_
         rotate_left
         focus (intro w hSw; go_simp <;> rfl))
    simp only [Act.put, List.setIfInBounds_toArray, List.set_cons_zero, List.set_cons_succ]
  all_goals
    first
      | (refine Calm.skip ?_ ?_; focus rfl)
      | (refine Calm.pure (v := ?_) (by rfl) ?_ ?_
         rotate_left
         focus (intro w hSw; go_simp <;> rfl))
    simp only [Act.put, List.setIfInBounds_toArray, List.set_cons_zero, List.set_cons_succ]
  all_goals
    first
      | (refine Calm.skip ?_ ?_; focus rfl)
      | (refine Calm.pure (v := ?_) (by rfl) ?_ ?_
         rotate_left
         focus (intro w hSw; go_simp <;> rfl))
    simp only [Act.put, List.setIfInBounds_toArray, List.set_cons_zero, List.set_cons_succ]
  all_goals
    first
      | (refine Calm.skip ?_ ?_; focus rfl)
      | (refine Calm.pure (v := ?_) (by rfl) ?_ ?_
         rotate_left
         focus (intro w hSw; go_simp <;> rfl))
    simp only [Act.put, List.setIfInBounds_toArray, List.set_cons_zero, List.set_cons_succ]
  all_goals
    first
      | (refine Calm.skip ?_ ?_; focus rfl)
      | (refine Calm.pure (v := ?_) (by rfl) ?_ ?_
         rotate_left
         focus (intro w hSw; go_simp <;> rfl))
    simp only [Act.put, List.setIfInBounds_toArray, List.set_cons_zero, List.set_cons_succ]
  all_goals
    first
      | (refine Calm.skip ?_ ?_; focus rfl)
      | (refine Calm.pure (v := ?_) (by rfl) ?_ ?_
         rotate_left
         focus (intro w hSw; go_simp <;> rfl))
    simp only [Act.put, List.setIfInBounds_toArray, List.set_cons_zero, List.set_cons_succ]
  all_goals
    first
      | (refine Calm.skip ?_ ?_; focus rfl)
      | (refine Calm.pure (v := ?_) (by rfl) ?_ ?_
         rotate_left
         focus (intro w hSw; go_simp <;> rfl))
    simp only [Act.put, List.setIfInBounds_toArray, List.set_cons_zero, List.set_cons_succ]
  all_goals
    refine Calm.pure (v := ?_) (by rfl) ?_ ?_
    rotate_left
    focus (intro w hSw; go_simp <;> rfl)
    simp only [Act.put, List.setIfInBounds_toArray, List.set_cons_zero, List.set_cons_succ]
  all_goals
    refine Calm.pure (v := ?_) (by rfl) ?_ ?_
    rotate_left
    focus (intro w hSw; go_simp <;> rfl)
    simp only [Act.put, List.setIfInBounds_toArray, List.set_cons_zero, List.set_cons_succ]
  rintro w9 ⟨_, _, hbel9⟩
  go_wp2
  go_ret
  exact ⟨rfl, hbel9⟩

set_option maxHeartbeats 1000000 in
set_option maxRecDepth 100000 in
theorem refHas_peer (v : List Int) (n : Nat) (s : Int) (w : World) (hv : v.length = 13) (hn1 : 1 ≤ n) (hn2 : n ≤ 12) :
    Calls Try.prog 28 #[V v, D n s] w fun e w' => e = .returned (.bool (decide (1 ≤ s) && decide (s ≤ v.getD n 0))) ∧ Below w.heap.size w w' := by
  have hC28 := fun w1 => refPeer_yes n w1 hn1 hn2
  obtain ⟨x, HX⟩ : ∃ x, Hid (v.getD n 0 = x) := ⟨_, rfl⟩
  rw [HX.out]
  have hat := at_new w v hv
  go_enter Try.func28, Try.ntmps28
  go_wp2
  obtain ⟨w0, hw0⟩ : ∃ w0, w0 = (w.alloc (.cells (vals v).toArray 31)).alloc (.cells #[.int .i64 n, .int .i64 s] 29) := ⟨_, rfl⟩
  have g1 : w0.cell? ⟨w.heap.size + 1, 0, none⟩ = some (.int .i64 n) := by rw [hw0]; exact dot_cell0 _ (by simp) n s
  have g2 : w0.cell? ⟨w.heap.size + 1, 1, none⟩ = some (.int .i64 s) := by rw [hw0]; exact dot_cell1 _ (by simp) n s
  have g3 : w0.cell? ⟨w.heap.size, n, none⟩ = some (.int .i64 x) := by
    rw [hw0, ← HX.out]
    exact (hat.alloc _).cell (by omega)
  have hbel : Below w.heap.size w w0 := by rw [hw0]; exact ((Below.refl _ _).alloc (Nat.le_refl _) _).alloc (by simp) _
  have hs : Calm.Stays (fun w' => w'.cell? ⟨w.heap.size + 1, 0, none⟩ = some (.int .i64 n) ∧ w'.cell? ⟨w.heap.size + 1, 1, none⟩ = some (.int .i64 s) ∧ w'.cell? ⟨w.heap.size, n, none⟩ = some (.int .i64 x) ∧ Below w.heap.size w w') := fun w1 w2 h hb => ⟨cell_later hb h.1, cell_later hb h.2.1, cell_later hb h.2.2.1, below_on h.2.2.2 hb⟩
  rw [← hw0]
  clear hw0 hat
  refine Calm.region (by kernel_rfl) (by kernel_rfl) (fun w' => w'.cell? ⟨w.heap.size + 1, 0, none⟩ = some (.int .i64 n) ∧ w'.cell? ⟨w.heap.size + 1, 1, none⟩ = some (.int .i64 s) ∧ w'.cell? ⟨w.heap.size, n, none⟩ = some (.int .i64 x) ∧ Below w.heap.size w w') ⟨g1, g2, g3, hbel.drew⟩ ?_
  clear g1 g2 g3 hbel
  have hi1 : (0 : Int) ≤ (n : Int) := by omega
  have hi2 : (n : Int) < 13 := by omega
  by_cases hs1 : 1 ≤ s <;> by_cases hs2 : s ≤ x
  all_goals
    all_goals
      refine Calm.pure (v := ?_) (by rfl) ?_ ?_
      rotate_left
      focus (intro w hSw; go_simp <;> rfl)
      simp only [Act.put, List.setIfInBounds_toArray, List.set_cons_zero, List.set_cons_succ]
    all_goals
      refine Calm.pure (v := ?_) (by rfl) ?_ ?_
      rotate_left
      focus (intro w hSw; go_simp <;> rfl)
      simp only [Act.put, List.setIfInBounds_toArray, List.set_cons_zero, List.set_cons_succ]
    all_goals
      refine Calm.call1 (by rfl) rfl rfl (by kernel_rfl) hs hC28 ?_
      simp only [Act.put, List.setIfInBounds_toArray, List.set_cons_zero, List.set_cons_succ]
    all_goals
      refine Calm.pure (v := ?_) (by rfl) ?_ ?_
      rotate_left
      focus (intro w hSw; go_simp <;> rfl)
      simp only [Act.put, List.setIfInBounds_toArray, List.set_cons_zero, List.set_cons_succ]
    all_goals
      first
        | (refine Calm.skip ?_ ?_; focus rfl)
        | (refine Calm.pure (v := ?_) (by rfl) ?_ ?_
           rotate_left
           focus (intro w hSw; go_simp <;> rfl))
      simp only [Act.put, List.setIfInBounds_toArray, List.set_cons_zero, List.set_cons_succ]
    all_goals
      first
        | (refine Calm.skip ?_ ?_; focus rfl)
        | (refine Calm.pure (v := ?_) (by rfl) ?_ ?_
           rotate_left
           focus (intro w hSw; go_simp <;> rfl))
      simp only [Act.put, List.setIfInBounds_toArray, List.set_cons_zero, List.set_cons_succ]
    all_goals
      first
        | (refine Calm.skip ?_ ?_; focus rfl)
        | (refine Calm.pure (v := ?_) (by rfl) ?_ ?_
           rotate_left
           focus (intro w hSw; go_simp <;> rfl))
      simp only [Act.put, List.setIfInBounds_toArray, List.set_cons_zero, List.set_cons_succ]
    all_goals
      refine Calm.pure (v := ?_) (by rfl) ?_ ?_
      rotate_left
      focus (intro w hSw; go_simp <;> rfl)
      simp only [Act.put, List.setIfInBounds_toArray, List.set_cons_zero, List.set_cons_succ]
    all_goals
      refine Calm.pure (v := ?_) (by rfl) ?_ ?_
      rotate_left
      focus (intro w hSw; go_simp <;> rfl)
      simp only [Act.put, List.setIfInBounds_toArray, List.set_cons_zero, List.set_cons_succ]
    all_goals
      first
        | (refine Calm.skip ?_ ?_; focus rfl)
        | (refine Calm.pure (v := ?_) (by rfl) ?_ ?_
           rotate_left
           focus (intro w hSw; go_simp <;> rfl))
      simp only [Act.put, List.setIfInBounds_toArray, List.set_cons_zero, List.set_cons_succ]
    all_goals
      first
        | (refine Calm.skip ?_ ?_; focus rfl)
        | (refine Calm.pure (v := ?_) (by rfl) ?_ ?_
           rotate_left
           focus (intro w hSw; go_simp <;> rfl))
      simp only [Act.put, List.setIfInBounds_toArray, List.set_cons_zero, List.set_cons_succ]
    all_goals
      first
        | (refine Calm.skip ?_ ?_; focus rfl)
        | (refine Calm.pure (v := ?_) (by rfl) ?_ ?_
           rotate_left
           focus (intro w hSw; go_simp <;> rfl))
      simp only [Act.put, List.setIfInBounds_toArray, List.set_cons_zero, List.set_cons_succ]
    all_goals
      first
        | (refine Calm.skip ?_ ?_; focus rfl)
        | (refine Calm.pure (v := ?_) (by rfl) ?_ ?_
           rotate_left
           focus (intro w hSw; go_simp <;> rfl))
      simp only [Act.put, List.setIfInBounds_toArray, List.set_cons_zero, List.set_cons_succ]
    all_goals
      first
        | (refine Calm.skip ?_ ?_; focus rfl)
        | (refine Calm.pure (v := ?_) (by rfl) ?_ ?_
           rotate_left
           focus (intro w hSw; go_simp <;> rfl))
      simp only [Act.put, List.setIfInBounds_toArray, List.set_cons_zero, List.set_cons_succ]
    all_goals
      first
        | (refine Calm.skip ?_ ?_; focus rfl)
        | (refine Calm.pure (v := ?_) (by rfl) ?_ ?_
           rotate_left
           focus (intro w hSw; go_simp <;> rfl))
      simp only [Act.put, List.setIfInBounds_toArray, List.set_cons_zero, List.set_cons_succ]
    all_goals
      first
        | (refine Calm.skip ?_ ?_; focus rfl)
        | (refine Calm.pure (v := ?_) (by rfl) ?_ ?_
           rotate_left
           focus (intro w hSw; go_simp <;> rfl))
      simp only [Act.put, List.setIfInBounds_toArray, List.set_cons_zero, List.set_cons_succ]
    all_goals
      refine Calm.pure (v := ?_) (by rfl) ?_ ?_
      rotate_left
      focus (intro w hSw; go_simp <;> rfl)
      simp only [Act.put, List.setIfInBounds_toArray, List.set_cons_zero, List.set_cons_succ]
    all_goals
      refine Calm.pure (v := ?_) (by rfl) ?_ ?_
      rotate_left
      focus (intro w hSw; go_simp <;> rfl)
      simp only [Act.put, List.setIfInBounds_toArray, List.set_cons_zero, List.set_cons_succ]
    rintro w9 ⟨_, _, _, hbel9⟩
    go_wp2
    go_ret
    refine ⟨?_, hbel9⟩
    first
      | (simp [*]; done)
      | (simp [*]; omega)

/-- What Has tells. -/
def hs (v : List Int) (p s : Int) : Bool := wi p 1 12 && (decide (1 ≤ s) && decide (s ≤ v.getD p.toNat 0))
theorem has_any (v : List Int) (p s : Int) (w : World) (hv : v.length = 13) : Calls Try.prog 42 #[V v, D p s] w (Tells (.bool (hs v p s)) w) := by
  by_cases hp : 1 ≤ p ∧ p ≤ 12
  · obtain ⟨n, rfl⟩ : ∃ n : Nat, p = n := ⟨p.toNat, by omega⟩
    refine (has_peer v n s w hv (by omega) (by omega)).mono fun e w' ⟨he, hb⟩ => ⟨?_, hb⟩
    rw [he]
    unfold hs wi
    rw [decide_eq_true hp.1, decide_eq_true hp.2]
    simp
  · refine (has_not v p s w hp).mono fun e w' ⟨he, hb⟩ => ⟨?_, hb⟩
    rw [he]
    have : wi p 1 12 = false := by unfold wi; grind
    unfold hs
    rw [this]
    rfl
theorem refHas_any (v : List Int) (p s : Int) (w : World) (hv : v.length = 13) : Calls Try.prog 28 #[V v, D p s] w (Tells (.bool (hs v p s)) w) := by
  by_cases hp : 1 ≤ p ∧ p ≤ 12
  · obtain ⟨n, rfl⟩ : ∃ n : Nat, p = n := ⟨p.toNat, by omega⟩
    refine (refHas_peer v n s w hv (by omega) (by omega)).mono fun e w' ⟨he, hb⟩ => ⟨?_, hb⟩
    rw [he]
    unfold hs wi
    rw [decide_eq_true hp.1, decide_eq_true hp.2]
    simp
  · refine (refHas_not v p s w hp).mono fun e w' ⟨he, hb⟩ => ⟨?_, hb⟩
    rw [he]
    have : wi p 1 12 = false := by unfold wi; grind
    unfold hs
    rw [this]
    rfl
end Go.Proofs.Ythekfmodafmlgaa
/- Before of package ops, and of the document's answer. -/
namespace Go.Proofs.Ythekfmodafmlgaa
open Go.RowKit

/-- What Before tells. -/
def bf (p s i : Int) (q u : Int) (v : List Int) (idx : Int) : Bool := decide (1 ≤ i) && (((decide (p = q) && decide (s = u)) && decide (i < idx)) || hs v p s)
theorem info31 {v : List Int} (h : v.length = 13) : (Try.prog.info? 31).map (·.size) = some (vals v).length := by rw [vals_length, h]; exact size31
theorem two_rows (w : World) (c1 : Array Value) (t1 : TypeId) (c2 : Array Value) (t2 : TypeId) : Rw ((w.alloc (.cells c1 t1)).alloc (.cells c2 t2)) w.heap.size t1 c1 ∧ Rw ((w.alloc (.cells c1 t1)).alloc (.cells c2 t2)) (w.heap.size + 1) t2 c2 ∧ Below w.heap.size w ((w.alloc (.cells c1 t1)).alloc (.cells c2 t2)) :=
  ⟨(rw_new w t1 c1).alloc _, rw_next _ (by simp) t2 c2, bel_alloc (bel_alloc (Below.refl _ _) _) _⟩
theorem mk_dot {w : World} {b : Nat} {p s i : Int} (h : Rw w b 44 #[.int .i64 p, .int .i64 s, .int .i64 i]) : w.rangeAt b 0 [.int .i64 p, .int .i64 s] := h.range 0 _ fun j u hu => by
  rw [Nat.zero_add]
  match j with
  | 0 => simpa using hu
  | 1 => simpa using hu
  | j + 2 => simp at hu

set_option maxHeartbeats 2000000 in
set_option maxRecDepth 100000 in
theorem before_any (p s i : Int) (q u : Int) (v : List Int) (t : Int) (sl : Value) (idx : Int) (w : World) (hv : v.length = 13) : Calls Try.prog 47 #[MV p s i, TxV q u v t sl, .int .i64 idx] w (Tells (.bool (bf p s i q u v idx)) w) := by
  unfold bf
  have E := fun w => eq_dot w p s q u
  generalize (decide (p = q) && decide (s = u)) = x at E ⊢
  have C := fun w => has_any v p s w hv
  generalize hs v p s = y at C ⊢
  obtain ⟨R0, R1, hbel⟩ := two_rows w #[.int .i64 p, .int .i64 s, .int .i64 i] 44 (txc q u v t sl).toArray 34
  have z3 := info31 hv
  have c0 : ((w.alloc (.cells #[.int .i64 p, .int .i64 s, .int .i64 i] 44)).alloc (.cells (txc q u v t sl).toArray 34)).cell? ⟨w.heap.size, 0, none⟩ = some (.int .i64 p) := R0.cell 0
  have c1 : ((w.alloc (.cells #[.int .i64 p, .int .i64 s, .int .i64 i] 44)).alloc (.cells (txc q u v t sl).toArray 34)).cell? ⟨w.heap.size, 1, none⟩ = some (.int .i64 s) := R0.cell 1
  have c2 : ((w.alloc (.cells #[.int .i64 p, .int .i64 s, .int .i64 i] 44)).alloc (.cells (txc q u v t sl).toArray 34)).cell? ⟨w.heap.size, 2, none⟩ = some (.int .i64 i) := R0.cell 2
  have d0 := tx_p R1
  have d1 := tx_s R1
  generalize hW : (w.alloc (.cells #[.int .i64 p, .int .i64 s, .int .i64 i] 44)).alloc (.cells (txc q u v t sl).toArray 34) = w0 at R1 hbel c0 c1 c2 d0 d1
  clear R0
  cases x
  · by_cases hi : 1 ≤ i
    · go_enter Try.func47, Try.ntmps47
      go_wp2_with (first | refine load_m 31 _ rfl rfl _ _ rfl (tx_vec R1) Try.underlying31 rfl z3 ?_)
      refine (C _).mono ?_
      rintro e w1 ⟨rfl, hb1⟩
      replace hbel := below_on hbel hb1
      clear hb1
      go_wp2_with fail
      go_ret
      refine tells_bool ?_ hbel
      clear R1 hbel c0 c1 c2 d0 d1 hW C
      first | rfl | (simp_all; done) | grind
    · go_enter Try.func47, Try.ntmps47
      go_wp2_with fail
      go_ret
      refine tells_bool ?_ hbel
      clear R1 hbel c0 c1 c2 d0 d1 hW C
      first | rfl | (simp_all; done) | grind
  · by_cases hj : i < idx
    · by_cases hi : 1 ≤ i
      · go_enter Try.func47, Try.ntmps47
        go_wp2_with fail
        go_ret
        refine tells_bool ?_ hbel
        clear R1 hbel c0 c1 c2 d0 d1 hW C
        first | rfl | (simp_all; done) | grind
      · go_enter Try.func47, Try.ntmps47
        go_wp2_with fail
        go_ret
        refine tells_bool ?_ hbel
        clear R1 hbel c0 c1 c2 d0 d1 hW C
        first | rfl | (simp_all; done) | grind
    · by_cases hi : 1 ≤ i
      · go_enter Try.func47, Try.ntmps47
        go_wp2_with (first | refine load_m 31 _ rfl rfl _ _ rfl (tx_vec R1) Try.underlying31 rfl z3 ?_)
        refine (C _).mono ?_
        rintro e w1 ⟨rfl, hb1⟩
        replace hbel := below_on hbel hb1
        clear hb1
        go_wp2_with fail
        go_ret
        refine tells_bool ?_ hbel
        clear R1 hbel c0 c1 c2 d0 d1 hW C
        first | rfl | (simp_all; done) | grind
      · go_enter Try.func47, Try.ntmps47
        go_wp2_with fail
        go_ret
        refine tells_bool ?_ hbel
        clear R1 hbel c0 c1 c2 d0 d1 hW C
        first | rfl | (simp_all; done) | grind

set_option maxHeartbeats 2000000 in
set_option maxRecDepth 100000 in
theorem refBefore_any (p s i : Int) (q u : Int) (v : List Int) (t : Int) (sl : Value) (idx : Int) (w : World) (hv : v.length = 13) : Calls Try.prog 11 #[MV p s i, TxV q u v t sl, .int .i64 idx] w (Tells (.bool (bf p s i q u v idx)) w) := by
  unfold bf
  have E := fun w => eq_dot w p s q u
  generalize (decide (p = q) && decide (s = u)) = x at E ⊢
  have C := fun w => refHas_any v p s w hv
  generalize hs v p s = y at C ⊢
  obtain ⟨R0, R1, hbel⟩ := two_rows w #[.int .i64 p, .int .i64 s, .int .i64 i] 44 (txc q u v t sl).toArray 34
  have z3 := info31 hv
  have c0 : ((w.alloc (.cells #[.int .i64 p, .int .i64 s, .int .i64 i] 44)).alloc (.cells (txc q u v t sl).toArray 34)).cell? ⟨w.heap.size, 0, none⟩ = some (.int .i64 p) := R0.cell 0
  have c1 : ((w.alloc (.cells #[.int .i64 p, .int .i64 s, .int .i64 i] 44)).alloc (.cells (txc q u v t sl).toArray 34)).cell? ⟨w.heap.size, 1, none⟩ = some (.int .i64 s) := R0.cell 1
  have c2 : ((w.alloc (.cells #[.int .i64 p, .int .i64 s, .int .i64 i] 44)).alloc (.cells (txc q u v t sl).toArray 34)).cell? ⟨w.heap.size, 2, none⟩ = some (.int .i64 i) := R0.cell 2
  have d0 := tx_p R1
  have d1 := tx_s R1
  generalize hW : (w.alloc (.cells #[.int .i64 p, .int .i64 s, .int .i64 i] 44)).alloc (.cells (txc q u v t sl).toArray 34) = w0 at R1 hbel c0 c1 c2 d0 d1
  clear R0
  cases x
  · by_cases hi : 1 ≤ i
    · go_enter Try.func11, Try.ntmps11
      go_wp2_with (first | refine load_m 31 _ rfl rfl _ _ rfl (tx_vec R1) Try.underlying31 rfl z3 ?_)
      refine (C _).mono ?_
      rintro e w1 ⟨rfl, hb1⟩
      replace hbel := below_on hbel hb1
      clear hb1
      go_wp2_with fail
      go_ret
      refine tells_bool ?_ hbel
      clear R1 hbel c0 c1 c2 d0 d1 hW C
      first | rfl | (simp_all; done) | grind
    · go_enter Try.func11, Try.ntmps11
      go_wp2_with fail
      go_ret
      refine tells_bool ?_ hbel
      clear R1 hbel c0 c1 c2 d0 d1 hW C
      first | rfl | (simp_all; done) | grind
  · by_cases hj : i < idx
    · by_cases hi : 1 ≤ i
      · go_enter Try.func11, Try.ntmps11
        go_wp2_with fail
        go_ret
        refine tells_bool ?_ hbel
        clear R1 hbel c0 c1 c2 d0 d1 hW C
        first | rfl | (simp_all; done) | grind
      · go_enter Try.func11, Try.ntmps11
        go_wp2_with fail
        go_ret
        refine tells_bool ?_ hbel
        clear R1 hbel c0 c1 c2 d0 d1 hW C
        first | rfl | (simp_all; done) | grind
    · by_cases hi : 1 ≤ i
      · go_enter Try.func11, Try.ntmps11
        go_wp2_with (first | refine load_m 31 _ rfl rfl _ _ rfl (tx_vec R1) Try.underlying31 rfl z3 ?_)
        refine (C _).mono ?_
        rintro e w1 ⟨rfl, hb1⟩
        replace hbel := below_on hbel hb1
        clear hb1
        go_wp2_with fail
        go_ret
        refine tells_bool ?_ hbel
        clear R1 hbel c0 c1 c2 d0 d1 hW C
        first | rfl | (simp_all; done) | grind
      · go_enter Try.func11, Try.ntmps11
        go_wp2_with fail
        go_ret
        refine tells_bool ?_ hbel
        clear R1 hbel c0 c1 c2 d0 d1 hW C
        first | rfl | (simp_all; done) | grind
end Go.Proofs.Ythekfmodafmlgaa
/- isMember, checkMembers, Check of package orset. -/
namespace Go.Proofs.Ythekfmodafmlgaa
open Go.RowKit Go.Sort

theorem own_later {w w' : World} {B e S n : Nat} {v : Value} {xs : List Value} (h : w.ownsRow B e S v n xs) (hb : Below w.heap.size w w') : w'.ownsRow B e S v n xs := by
  obtain ⟨h1, ⟨rfl, h0⟩ | ⟨g, cap, cur, rfl, hbg, hg, h2⟩⟩ := h
  · exact ⟨h1, .inl ⟨rfl, h0⟩⟩
  · exact ⟨h1, .inr ⟨g, cap, cur, rfl, hbg, (hb.block g (Array.getElem?_eq_some_iff.1 hg).1).trans hg, h2⟩⟩
/-- Not great. -/
structure Sm (x : X) : Prop where
  a : x.am.length ≤ 100
  t : x.wr.length ≤ 100
  m : x.mb.length ≤ 100
  e : x.el.length ≤ 100
  mi : ∀ m ∈ x.mb, m.ms.length ≤ 100
  ei : ∀ m ∈ x.el, m.gone.length ≤ 100
/-- May it be? -/
def ck (x : X) : Bool := decide (x.k = 4) && (decide (x.b = 0) && (decide (x.am.length + x.wr.length + x.el.length = 0) && cb x.mb))
theorem Four.slices {w : World} {x : X} {va vw vm ve : Value} (h : Four w x va vw vm ve) : ∃ pa ca pw cw pm cm pe ce, va = .slice pa x.am.length ca ∧ vw = .slice pw x.wr.length cw ∧ vm = .slice pm x.mb.length cm ∧ ve = .slice pe x.el.length ce := by
  obtain ⟨pa, ca, h1⟩ := h.a.slice
  obtain ⟨pw, cw, h2⟩ := h.t.slice
  obtain ⟨pm, cm, h3⟩ := h.m.slice
  obtain ⟨pe, ce, h4⟩ := h.e.slice
  exact ⟨pa, ca, pw, cw, pm, cm, pe, ce, h1, h2, h3, h4⟩
theorem ck_parts {x : X} (h : ck x = true) : x.k = 4 ∧ x.b = 0 ∧ x.am.length = 0 ∧ x.wr.length = 0 ∧ x.el.length = 0 ∧ cb x.mb = true := by
  simp only [ck, Bool.and_eq_true, decide_eq_true_eq] at h
  obtain ⟨h1, h2, h3, h4⟩ := h
  exact ⟨h1, h2, by omega, by omega, by omega, h4⟩
theorem Mb.len (x : Mb × Value) : (Mb.cells x).length = 3 := rfl
theorem Mb.elem {w : World} {l : List (Mb × Value)} {g o : Nat} (h : w.rangeAt g o (rows Mb.cells l)) (k : Nat) (hk : k < l.length) : w.rangeAt g (o + k * 3) (Mb.cells l[k]) :=
  range_sub h (k * 3) fun j u hu => rows_at Mb.len l k hk j u hu
abbrev BV (y : Mb) (v : Value) : Value := .agg #[.string y.x, .bool y.b, v]
set_option maxHeartbeats 1000000 in
set_option maxRecDepth 100000 in
theorem isMember_any (y : Mb) (v : Value) (w : World) (h : MHas w v y.ms) : Calls Try.prog 48 #[BV y v] w (Tells (.bool (ib y)) w) := by
  obtain ⟨z, HZ⟩ := hid_ex (ib y)
  rw [HZ.out]
  obtain ⟨p, c, rfl⟩ := h.slice
  have HM : Hid (MHas w (.slice p y.ms.length c) y.ms) := h
  clear h
  have hz : Hid (z = ((y.b || decide (0 < y.ms.length)) && (decide (y.x.size ≤ 64) && ca y.ms))) := by
    show _ = _
    rw [← HZ.out]
    rfl
  clear HZ
  by_cases h1 : y.b = true ∨ 0 < y.ms.length
  · by_cases h2 : y.x.size ≤ 64
    · obtain rfl : z = ca y.ms := by
        have := hz.out
        rw [decide_eq_true h2] at this
        rcases h1 with h1 | h1
        · simpa [h1] using this
        · simpa [decide_eq_true h1] using this
      clear hz
      have h2' : (y.x.size : Int) ≤ 64 := by omega
      cases hyb : y.b
      · have h1 : 0 < y.ms.length := h1.resolve_left (by rw [hyb]; decide)
        have h1' : (0 : Int) < (y.ms.length : Int) := by omega
        go_enter Try.func48, Try.ntmps48
        go_wp2_with fail
        refine (checkMarks_any _ _ _ (HM.out.later (bel_alloc (Below.refl _ _) _))).mono ?_
        rintro e w2 ⟨rfl, hb2⟩
        go_wp2_with fail
        go_ret
        exact ⟨rfl, below_on (bel_alloc (Below.refl _ _) _) hb2⟩
      · clear h1
        go_enter Try.func48, Try.ntmps48
        go_wp2_with fail
        refine (checkMarks_any _ _ _ (HM.out.later (bel_alloc (Below.refl _ _) _))).mono ?_
        rintro e w2 ⟨rfl, hb2⟩
        go_wp2_with fail
        go_ret
        exact ⟨rfl, below_on (bel_alloc (Below.refl _ _) _) hb2⟩
    · obtain rfl : z = false := by
        have := hz.out
        rw [decide_eq_false h2] at this
        simpa using this
      clear hz
      have h2' : ¬ (y.x.size : Int) ≤ 64 := by omega
      cases hyb : y.b
      · have h1 : 0 < y.ms.length := h1.resolve_left (by rw [hyb]; decide)
        have h1' : (0 : Int) < (y.ms.length : Int) := by omega
        go_enter Try.func48, Try.ntmps48
        go_wp2_with fail
        go_ret
        exact ⟨rfl, bel_alloc (Below.refl _ _) _⟩
      · clear h1
        go_enter Try.func48, Try.ntmps48
        go_wp2_with fail
        go_ret
        exact ⟨rfl, bel_alloc (Below.refl _ _) _⟩
  · have hyb : y.b = false := by
      cases h : y.b
      · rfl
      · exact absurd (.inl h) h1
    have h0 : ¬ 0 < y.ms.length := fun h => h1 (.inr h)
    obtain rfl : z = false := by
      have := hz.out
      rw [hyb, decide_eq_false h0] at this
      simpa using this
    have h0' : ¬ (0 : Int) < (y.ms.length : Int) := by omega
    have hyl : y.ms.length = 0 := by omega
    clear hz h1 h0
    go_enter Try.func48, Try.ntmps48
    go_wp2_with fail
    go_ret
    exact ⟨rfl, bel_alloc (Below.refl _ _) _⟩
end Go.Proofs.Ythekfmodafmlgaa
/- Facts of operations of a region that draws its order: what is known of the value that one comes to, and of the memory, as long as what was there is left alone. -/

namespace Go.Proofs.Ythekfmodafmlgaa
open Go.RowKit

/-- It stays. -/
def Keeps (φ : Value → World → Prop) : Prop := ∀ v w w', φ v w → Below w.heap.size w w' → φ v w'
def pF (i : Nat) (φ : Value → World → Prop) : Facts.Fact := ([i], fun vs w => ∃ v, vs = [v] ∧ φ v w)
abbrev eqP (v : Value) : Value → World → Prop := fun u _ => u = v
def cP (x : X) : Value → World → Prop := fun u w => CHas w u x
/-- A new box. -/
def boxP (N : Nat) (t : TypeId) (cs : Array Value) : Value → World → Prop := fun u w => ∃ q, u = .pointer (some ⟨q, 0, none⟩) ∧ N ≤ q ∧ Rw w q t cs
/-- A row of its own. -/
def ownP (B e S n : Nat) (xs : List Value) : Value → World → Prop := fun u w => w.ownsRow B e S u n xs
theorem eqP_keeps (v : Value) : Keeps (eqP v) := fun _ _ _ h _ => h
theorem cP_keeps (x : X) : Keeps (cP x) := fun _ _ _ h hb => h.later hb
theorem boxP_keeps (N : Nat) (t : TypeId) (cs : Array Value) : Keeps (boxP N t cs) := fun _ _ _ ⟨q, e, hN, h⟩ hb => ⟨q, e, hN, h.later hb⟩
theorem ownP_keeps (B e S n : Nat) (xs : List Value) : Keeps (ownP B e S n xs) := fun _ _ _ h hb => own_later h hb
theorem pF_get {i : Nat} {φ : Value → World → Prop} {x : Nat → Value} {w : World} (h : Facts.holds (pF i φ) x w) : φ (x i) w := by
  obtain ⟨v, e, hv⟩ := h
  simp only [pF, List.map_cons, List.map_nil, List.cons.injEq, and_true] at e
  rw [e]
  exact hv
theorem pF_put {i : Nat} {φ : Value → World → Prop} {x : Nat → Value} {u : Value} {w : World} (h : φ u w) : Facts.holds (pF i φ) (Facts.put x i u) w := ⟨u, by simp [Facts.put, pF], h⟩
theorem stay_of {F : List Facts.Fact} (h : ∀ f ∈ F, ∃ i φ, f = pF i φ ∧ Keeps φ) : Facts.Stay F := fun _ f hj vs w w' hf hb => by
  obtain ⟨i, φ, rfl, hk⟩ := h f (List.mem_of_getElem? hj)
  obtain ⟨v, e, hv⟩ := hf
  exact ⟨v, e, hk v w w' hv hb⟩

section
variable {Q : Exit → Act → World → Prop} {S : World → Prop} {md : Region.Mode} {A : (Nat → Value) → Act} {F : List Facts.Fact} {i : Nat} {o : Oper} {φ : Value → World → Prop}
theorem Facts.pureP {v : Value} (hS : Calm.Stays S) (hF : Facts.Stay F) (hA : ∀ x u, (A x).put o.dst u = A (Facts.put x i u)) (hf : F[i]? = some (pF i (eqP v)))
    (h : ∀ x w, S w → (∀ e ∈ o.after, Region.binds md e = true → ∀ f, F[e.on]? = some f → Facts.holds f x w) → (execOp (A x).eval o).run Try.prog w = .ok (.value v) w) : Facts.StepOk Try.prog md Q S A F i o :=
  Facts.step hS hF hA fun x w hSw hdep => by
    unfold Oper.wp
    rw [h x w hSw hdep]
    refine ⟨v, rfl, Below.refl _ _, fun f hf' => ?_⟩
    rw [hf] at hf'
    obtain rfl := Option.some.inj hf'
    exact pF_put rfl
/-- A value is handed on as it is. -/
theorem Facts.moveP (hS : Calm.Stays S) (hF : Facts.Stay F) (hA : ∀ x u, (A x).put o.dst u = A (Facts.put x i u)) (hf : F[i]? = some (pF i φ)) (v : (Nat → Value) → Value)
    (h : ∀ x w, S w → (∀ e ∈ o.after, Region.binds md e = true → ∀ f, F[e.on]? = some f → Facts.holds f x w) → (execOp (A x).eval o).run Try.prog w = .ok (.value (v x)) w ∧ φ (v x) w) : Facts.StepOk Try.prog md Q S A F i o :=
  Facts.step hS hF hA fun x w hSw hdep => by
    unfold Oper.wp
    rw [(h x w hSw hdep).1]
    refine ⟨v x, rfl, Below.refl _ _, fun f hf' => ?_⟩
    rw [hf] at hf'
    obtain rfl := Option.some.inj hf'
    exact pF_put (h x w hSw hdep).2
/-- A struct is loaded whole. -/
theorem Facts.loadP (hS : Calm.Stays S) (hF : Facts.Stay F) (hA : ∀ x u, (A x).put o.dst u = A (Facts.put x i u)) (t : TypeId) {d : TypeDesc} (hu : Try.prog.underlying t = some d) (hd : d.isRow = true) {b f : Nat} {cs : List Value} (hi : (Try.prog.info? t).map (·.size) = some cs.length) (u : Operand) (ho : o.op = .load t u)
    (hf : F[i]? = some (pF i (eqP (.agg cs.toArray)))) (hx : ∀ x w, S w → (∀ e ∈ o.after, Region.binds md e = true → ∀ f, F[e.on]? = some f → Facts.holds f x w) → (A x).eval u = .pointer (some ⟨b, f, none⟩)) (hc : ∀ w, S w → w.rangeAt b f cs) : Facts.StepOk Try.prog md Q S A F i o :=
  Facts.pureP hS hF hA hf fun x w hSw hdep => by
    have h2 := run_loadVar_mid (P := Try.prog) w b f t cs d (hc w hSw) hu hd hi
    unfold execOp
    simp only [ho, hx x w hSw hdep, Instr.loadAt, Instr.sureAddr, Sem.run_bind, Sem.run_pure, h2, Result.andThen_ok]
/-- A new box. -/
theorem Facts.allocP (hS : Calm.Stays S) (hF : Facts.Stay F) (hA : ∀ x u, (A x).put o.dst u = A (Facts.put x i u)) (t : TypeId) {N : Nat} {cs : Array Value} (hf : F[i]? = some (pF i (boxP N t cs))) (hN : ∀ w, S w → N ≤ w.heap.size)
    (h : ∀ x w, (execOp (A x).eval o).run Try.prog w = .ok (.value (.pointer (some ⟨w.heap.size, 0, none⟩))) (w.alloc (.cells cs t))) : Facts.StepOk Try.prog md Q S A F i o :=
  Facts.step hS hF hA fun x w hSw hdep => by
    unfold Oper.wp
    rw [h x w]
    refine ⟨_, rfl, bel_alloc (Below.refl _ _) _, fun f hf' => ?_⟩
    rw [hf] at hf'
    obtain rfl := Option.some.inj hf'
    exact pF_put ⟨_, rfl, hN w hSw, rw_new w t cs⟩
theorem Facts.call0P (hS : Calm.Stays S) (hF : Facts.Stay F) (hA : ∀ x u, (A x).put o.dst u = A (Facts.put x i u)) {fn : FuncId} {ts : Array TypeId} (ho : o.op = .call { callee := .value (.func fn), args := #[], argTypes := ts }) (hf : Calm.enters Try.prog fn = true) (hz : F[i]? = some (pF i φ))
    (h : ∀ x w, S w → (∀ e ∈ o.after, Region.binds md e = true → ∀ f, F[e.on]? = some f → Facts.holds f x w) → Calls Try.prog fn #[] w fun e w' => ∃ r, e = .returned r ∧ φ r w' ∧ Below w.heap.size w w') : Facts.StepOk Try.prog md Q S A F i o :=
  Facts.call (f := fn) hS hF hA fun x w hSw hdep => ⟨#[], by
    have e : ∀ args, (callFunc fn args).run Try.prog w = .ok (.enter fn args) w := fun args => Calm.enters_run hf args w
    unfold execOp
    simp [ho, go_sem, Act.eval, e], (h x w hSw hdep).mono fun e w' ⟨r, he, hr, hb⟩ => ⟨r, he, hb, fun f hf' => by
      rw [hz] at hf'
      obtain rfl := Option.some.inj hf'
      exact pF_put hr⟩⟩
theorem Facts.call1P (hS : Calm.Stays S) (hF : Facts.Stay F) (hA : ∀ x u, (A x).put o.dst u = A (Facts.put x i u)) {fn : FuncId} {ts : Array TypeId} {u1 : Operand} (ho : o.op = .call { callee := .value (.func fn), args := #[u1], argTypes := ts }) (hf : Calm.enters Try.prog fn = true) (hz : F[i]? = some (pF i φ))
    (h : ∀ x w, S w → (∀ e ∈ o.after, Region.binds md e = true → ∀ f, F[e.on]? = some f → Facts.holds f x w) → Calls Try.prog fn #[(A x).eval u1] w fun e w' => ∃ r, e = .returned r ∧ φ r w' ∧ Below w.heap.size w w') : Facts.StepOk Try.prog md Q S A F i o :=
  Facts.call (f := fn) hS hF hA fun x w hSw hdep => ⟨#[(A x).eval u1], by
    have e : ∀ args, (callFunc fn args).run Try.prog w = .ok (.enter fn args) w := fun args => Calm.enters_run hf args w
    unfold execOp
    simp [ho, go_sem, Act.eval, e], (h x w hSw hdep).mono fun e w' ⟨r, he, hr, hb⟩ => ⟨r, he, hb, fun f hf' => by
      rw [hz] at hf'
      obtain rfl := Option.some.inj hf'
      exact pF_put hr⟩⟩
theorem Facts.call2P (hS : Calm.Stays S) (hF : Facts.Stay F) (hA : ∀ x u, (A x).put o.dst u = A (Facts.put x i u)) {fn : FuncId} {ts : Array TypeId} {u1 u2 : Operand} (ho : o.op = .call { callee := .value (.func fn), args := #[u1, u2], argTypes := ts }) (hf : Calm.enters Try.prog fn = true) (hz : F[i]? = some (pF i φ))
    (h : ∀ x w, S w → (∀ e ∈ o.after, Region.binds md e = true → ∀ f, F[e.on]? = some f → Facts.holds f x w) → Calls Try.prog fn #[(A x).eval u1, (A x).eval u2] w fun e w' => ∃ r, e = .returned r ∧ φ r w' ∧ Below w.heap.size w w') : Facts.StepOk Try.prog md Q S A F i o :=
  Facts.call (f := fn) hS hF hA fun x w hSw hdep => ⟨#[(A x).eval u1, (A x).eval u2], by
    have e : ∀ args, (callFunc fn args).run Try.prog w = .ok (.enter fn args) w := fun args => Calm.enters_run hf args w
    unfold execOp
    simp [ho, go_sem, Act.eval, e], (h x w hSw hdep).mono fun e w' ⟨r, he, hr, hb⟩ => ⟨r, he, hb, fun f hf' => by
      rw [hz] at hf'
      obtain rfl := Option.some.inj hf'
      exact pF_put hr⟩⟩
theorem Facts.call3P (hS : Calm.Stays S) (hF : Facts.Stay F) (hA : ∀ x u, (A x).put o.dst u = A (Facts.put x i u)) {fn : FuncId} {ts : Array TypeId} {u1 u2 u3 : Operand} (ho : o.op = .call { callee := .value (.func fn), args := #[u1, u2, u3], argTypes := ts }) (hf : Calm.enters Try.prog fn = true) (hz : F[i]? = some (pF i φ))
    (h : ∀ x w, S w → (∀ e ∈ o.after, Region.binds md e = true → ∀ f, F[e.on]? = some f → Facts.holds f x w) → Calls Try.prog fn #[(A x).eval u1, (A x).eval u2, (A x).eval u3] w fun e w' => ∃ r, e = .returned r ∧ φ r w' ∧ Below w.heap.size w w') : Facts.StepOk Try.prog md Q S A F i o :=
  Facts.call (f := fn) hS hF hA fun x w hSw hdep => ⟨#[(A x).eval u1, (A x).eval u2, (A x).eval u3], by
    have e : ∀ args, (callFunc fn args).run Try.prog w = .ok (.enter fn args) w := fun args => Calm.enters_run hf args w
    unfold execOp
    simp [ho, go_sem, Act.eval, e], (h x w hSw hdep).mono fun e w' ⟨r, he, hr, hb⟩ => ⟨r, he, hb, fun f hf' => by
      rw [hz] at hf'
      obtain rfl := Option.some.inj hf'
      exact pF_put hr⟩⟩
theorem Facts.call4P (hS : Calm.Stays S) (hF : Facts.Stay F) (hA : ∀ x u, (A x).put o.dst u = A (Facts.put x i u)) {fn : FuncId} {ts : Array TypeId} {u1 u2 u3 u4 : Operand} (ho : o.op = .call { callee := .value (.func fn), args := #[u1, u2, u3, u4], argTypes := ts }) (hf : Calm.enters Try.prog fn = true) (hz : F[i]? = some (pF i φ))
    (h : ∀ x w, S w → (∀ e ∈ o.after, Region.binds md e = true → ∀ f, F[e.on]? = some f → Facts.holds f x w) → Calls Try.prog fn #[(A x).eval u1, (A x).eval u2, (A x).eval u3, (A x).eval u4] w fun e w' => ∃ r, e = .returned r ∧ φ r w' ∧ Below w.heap.size w w') : Facts.StepOk Try.prog md Q S A F i o :=
  Facts.call (f := fn) hS hF hA fun x w hSw hdep => ⟨#[(A x).eval u1, (A x).eval u2, (A x).eval u3, (A x).eval u4], by
    have e : ∀ args, (callFunc fn args).run Try.prog w = .ok (.enter fn args) w := fun args => Calm.enters_run hf args w
    unfold execOp
    simp [ho, go_sem, Act.eval, e], (h x w hSw hdep).mono fun e w' ⟨r, he, hr, hb⟩ => ⟨r, he, hb, fun f hf' => by
      rw [hz] at hf'
      obtain rfl := Option.some.inj hf'
      exact pF_put hr⟩⟩
end
/-- A contract that tells a value, or gives a cell, as a fact. -/
theorem tells_p {v : Value} {w : World} {e : Ending} {w' : World} (h : Tells v w e w') : ∃ r, e = .returned r ∧ eqP v r w' ∧ Below w.heap.size w w' := ⟨v, h.1, rfl, h.2⟩
theorem gives_p {x : X} {w : World} {e : Ending} {w' : World} (h : Gives x w e w') : ∃ r, e = .returned r ∧ cP x r w' ∧ Below w.heap.size w w' := by
  obtain ⟨va, vw, vm, ve, he, hf, hb⟩ := h
  exact ⟨_, he, ⟨va, vw, vm, ve, rfl, hf⟩, hb⟩
end Go.Proofs.Ythekfmodafmlgaa
