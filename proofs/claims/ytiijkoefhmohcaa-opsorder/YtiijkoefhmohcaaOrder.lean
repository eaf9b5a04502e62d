/- OpsOrder: what the statement answers. -/
import Derived.Test.YtiijkoefhmohcaaHeads
namespace Go.Proofs.Ytiijkoefhmohcaa
open Go.RowKit

theorem three_rows (w : World) (c1 : Array Value) (t1 : TypeId) (c2 : Array Value) (t2 : TypeId) (c3 : Array Value) (t3 : TypeId) : Rw (((w.alloc (.cells c1 t1)).alloc (.cells c2 t2)).alloc (.cells c3 t3)) w.heap.size t1 c1 ∧ Rw (((w.alloc (.cells c1 t1)).alloc (.cells c2 t2)).alloc (.cells c3 t3)) (w.heap.size + 1) t2 c2 ∧ Rw (((w.alloc (.cells c1 t1)).alloc (.cells c2 t2)).alloc (.cells c3 t3)) (w.heap.size + 1 + 1) t3 c3 ∧ Below w.heap.size w (((w.alloc (.cells c1 t1)).alloc (.cells c2 t2)).alloc (.cells c3 t3)) :=
  ⟨((rw_new w t1 c1).alloc _).alloc _, (rw_next _ (by simp) t2 c2).alloc _, rw_next _ (by simp) t3 c3, bel_alloc (bel_alloc (bel_alloc (Below.refl _ _) _) _) _⟩
theorem ls_facts (p s i q u j r v k : Int) : ls p s i p s i = false ∧ (ls p s i q u j = true → ls q u j p s i = false) ∧ (ls p s i q u j = true → ls q u j r v k = true → ls p s i r v k = true) ∧ (ls p s i q u j || ls q u j p s i) = !(decide (p = q) && decide (s = u) && decide (i = j)) := by
  unfold ls
  refine ⟨?_, ?_, ?_, ?_⟩
  · grind
  · grind
  · grind
  · grind

set_option maxHeartbeats 4000000 in
set_option maxRecDepth 100000 in
theorem order_any (p s i q u j r v k : Int) (w : World) : Calls Try.prog 6 #[MV p s i, MV q u j, MV r v k] w (Tells (.bool true) w) := by
  obtain ⟨f1, f2, f3, f4⟩ := ls_facts p s i q u j r v k
  have LAA := fun w => less_any p s i p s i w
  have LAB := fun w => less_any p s i q u j w
  have LBA := fun w => less_any q u j p s i w
  have LBC := fun w => less_any q u j r v k w
  have LAC := fun w => less_any p s i r v k w
  have E := fun w => eq_mark w p s i q u j
  rw [f1] at LAA
  clear f1
  generalize (decide (p = q) && decide (s = u) && decide (i = j)) = z at E f4
  generalize ls p s i q u j = x1 at LAB f2 f3 f4
  generalize ls q u j r v k = x2 at LBC f3
  generalize ls p s i r v k = x3 at LAC f3
  generalize ls q u j p s i = y1 at LBA f2 f4
  obtain rfl : z = !(x1 || y1) := by rw [f4]; simp
  clear f4
  obtain ⟨R0, R1, R2, hbel⟩ := three_rows w #[.int .i64 p, .int .i64 s, .int .i64 i] 33 #[.int .i64 q, .int .i64 u, .int .i64 j] 33 #[.int .i64 r, .int .i64 v, .int .i64 k] 33
  have HW : Hid (((w.alloc (.cells #[.int .i64 p, .int .i64 s, .int .i64 i] 33)).alloc (.cells #[.int .i64 q, .int .i64 u, .int .i64 j] 33)).alloc (.cells #[.int .i64 r, .int .i64 v, .int .i64 k] 33) = ((w.alloc (.cells #[.int .i64 p, .int .i64 s, .int .i64 i] 33)).alloc (.cells #[.int .i64 q, .int .i64 u, .int .i64 j] 33)).alloc (.cells #[.int .i64 r, .int .i64 v, .int .i64 k] 33)) := (rfl : _ = _)
  generalize hW : ((w.alloc (.cells #[.int .i64 p, .int .i64 s, .int .i64 i] 33)).alloc (.cells #[.int .i64 q, .int .i64 u, .int .i64 j] 33)).alloc (.cells #[.int .i64 r, .int .i64 v, .int .i64 k] 33) = w0 at R0 R1 R2 hbel
  clear HW
  have HW : Hid (((w.alloc (.cells #[.int .i64 p, .int .i64 s, .int .i64 i] 33)).alloc (.cells #[.int .i64 q, .int .i64 u, .int .i64 j] 33)).alloc (.cells #[.int .i64 r, .int .i64 v, .int .i64 k] 33) = w0) := hW
  clear hW
  go_enter Try.func6, Try.ntmps6
  go_wp2_with (first | rw [HW.out] | refine load_r 33 _ rfl rfl _ rfl R0 Try.underlying33 rfl size33 ?_ | refine load_r 33 _ rfl rfl _ rfl R1 Try.underlying33 rfl size33 ?_ | refine load_r 33 _ rfl rfl _ rfl R2 Try.underlying33 rfl size33 ?_)
  refine (LAB _).mono ?_
  rintro e w1 ⟨rfl, hb1⟩
  clear HW
  replace R0 := R0.later hb1
  replace R1 := R1.later hb1
  replace R2 := R2.later hb1
  replace hbel := below_on hbel hb1
  clear hb1
  cases x1
  focus (go_wp2_with fail)
  cases y1
  rotate_left 2
  obtain rfl : y1 = false := f2 (by trivial)
  focus (go_wp2_with (first | refine load_r 33 _ rfl rfl _ rfl R0 Try.underlying33 rfl size33 ?_ | refine load_r 33 _ rfl rfl _ rfl R1 Try.underlying33 rfl size33 ?_ | refine load_r 33 _ rfl rfl _ rfl R2 Try.underlying33 rfl size33 ?_))
  refine (LBC _).mono ?_
  rintro e w2 ⟨rfl, hb2⟩
  replace R0 := R0.later hb2
  replace R1 := R1.later hb2
  replace R2 := R2.later hb2
  replace hbel := below_on hbel hb2
  clear hb2
  cases x2
  focus (go_wp2_with fail)
  rotate_left 1
  obtain rfl : x3 = true := f3 (by trivial) (by trivial)
  focus (go_wp2_with (first | refine load_r 33 _ rfl rfl _ rfl R0 Try.underlying33 rfl size33 ?_ | refine load_r 33 _ rfl rfl _ rfl R1 Try.underlying33 rfl size33 ?_ | refine load_r 33 _ rfl rfl _ rfl R2 Try.underlying33 rfl size33 ?_))
  refine (LAC _).mono ?_
  rintro e w3 ⟨rfl, hb3⟩
  replace R0 := R0.later hb3
  replace R1 := R1.later hb3
  replace R2 := R2.later hb3
  replace hbel := below_on hbel hb3
  clear hb3
  focus (go_wp2_with fail)
  all_goals
    clear f2 f3 LBC LAC
    have hs : Calm.Stays (fun w' => Rw w' w.heap.size 33 #[.int .i64 p, .int .i64 s, .int .i64 i] ∧ Rw w' (w.heap.size + 1) 33 #[.int .i64 q, .int .i64 u, .int .i64 j] ∧ Rw w' (w.heap.size + 1 + 1) 33 #[.int .i64 r, .int .i64 v, .int .i64 k] ∧ Below w.heap.size w w') := fun wa wb h hb => ⟨h.1.later hb, h.2.1.later hb, h.2.2.1.later hb, below_on h.2.2.2 hb⟩
    refine Calm.region (by kernel_rfl) (by kernel_rfl) (fun w' => Rw w' w.heap.size 33 #[.int .i64 p, .int .i64 s, .int .i64 i] ∧ Rw w' (w.heap.size + 1) 33 #[.int .i64 q, .int .i64 u, .int .i64 j] ∧ Rw w' (w.heap.size + 1 + 1) 33 #[.int .i64 r, .int .i64 v, .int .i64 k] ∧ Below w.heap.size w w') ⟨R0, R1, R2, hbel.drew⟩ ?_
    clear R0 R1 R2 hbel
  all_goals
    refine Calm.loadW (cs := #[.int .i64 p, .int .i64 s, .int .i64 i]) 33 Try.underlying33 rfl size33 (by rfl) _ rfl rfl (fun _ h => h.1) ?_
    simp only [Act.put, List.setIfInBounds_toArray, List.set_cons_zero, List.set_cons_succ]
  all_goals
    refine Calm.loadW (cs := #[.int .i64 p, .int .i64 s, .int .i64 i]) 33 Try.underlying33 rfl size33 (by rfl) _ rfl rfl (fun _ h => h.1) ?_
    simp only [Act.put, List.setIfInBounds_toArray, List.set_cons_zero, List.set_cons_succ]
  all_goals
    refine Calm.call2s (by rfl) rfl rfl rfl (by kernel_rfl) hs (fun w1 h => LAA w1) ?_
    simp only [Act.put, List.setIfInBounds_toArray, List.set_cons_zero, List.set_cons_succ]
  all_goals
    refine Calm.pure (v := ?_) (by rfl) ?_ ?_
    rotate_left
    focus (intro w hSw; go_simp <;> rfl)
    simp only [Act.put, List.setIfInBounds_toArray, List.set_cons_zero, List.set_cons_succ]
  all_goals
    refine Calm.pure (v := ?_) (by rfl) ?_ ?_
    rotate_left
    focus (intro w hSw; go_simp <;> rfl)
    simp only [Act.put, List.setIfInBounds_toArray, List.set_cons_zero, List.set_cons_succ]
  all_goals
    first
      | (refine Calm.skip ?_ ?_; focus rfl)
      | (refine Calm.loadW (cs := #[.int .i64 p, .int .i64 s, .int .i64 i]) 33 Try.underlying33 rfl size33 (by rfl) _ rfl rfl (fun _ h => h.1) ?_)
    simp only [Act.put, List.setIfInBounds_toArray, List.set_cons_zero, List.set_cons_succ]
  all_goals
    first
      | (refine Calm.skip ?_ ?_; focus rfl)
      | (refine Calm.loadW (cs := #[.int .i64 q, .int .i64 u, .int .i64 j]) 33 Try.underlying33 rfl size33 (by rfl) _ rfl rfl (fun _ h => h.2.1) ?_)
    simp only [Act.put, List.setIfInBounds_toArray, List.set_cons_zero, List.set_cons_succ]
  all_goals
    first
      | (refine Calm.skip ?_ ?_; focus rfl)
      | (refine Calm.call2s (by rfl) rfl rfl rfl (by kernel_rfl) hs (fun w1 h => LAB w1) ?_)
    simp only [Act.put, List.setIfInBounds_toArray, List.set_cons_zero, List.set_cons_succ]
  all_goals
    first
      | (refine Calm.skip ?_ ?_; focus rfl)
      | (refine Calm.pure (v := ?_) (by rfl) ?_ ?_
         rotate_left
         focus (intro w hSw; go_simp <;> rfl))
    simp only [Act.put, List.setIfInBounds_toArray, List.set_cons_zero, List.set_cons_succ]
  all_goals
    first
      | (refine Calm.skip ?_ ?_; focus rfl)
      | (refine Calm.loadW (cs := #[.int .i64 q, .int .i64 u, .int .i64 j]) 33 Try.underlying33 rfl size33 (by rfl) _ rfl rfl (fun _ h => h.2.1) ?_)
    simp only [Act.put, List.setIfInBounds_toArray, List.set_cons_zero, List.set_cons_succ]
  all_goals
    first
      | (refine Calm.skip ?_ ?_; focus rfl)
      | (refine Calm.loadW (cs := #[.int .i64 p, .int .i64 s, .int .i64 i]) 33 Try.underlying33 rfl size33 (by rfl) _ rfl rfl (fun _ h => h.1) ?_)
    simp only [Act.put, List.setIfInBounds_toArray, List.set_cons_zero, List.set_cons_succ]
  all_goals
    first
      | (refine Calm.skip ?_ ?_; focus rfl)
      | (refine Calm.call2s (by rfl) rfl rfl rfl (by kernel_rfl) hs (fun w1 h => LBA w1) ?_)
    simp only [Act.put, List.setIfInBounds_toArray, List.set_cons_zero, List.set_cons_succ]
  all_goals
    first
      | (refine Calm.skip ?_ ?_; focus rfl)
      | (refine Calm.pure (v := ?_) (by rfl) ?_ ?_
         rotate_left
         focus (intro w hSw; go_simp <;> rfl))
    simp only [Act.put, List.setIfInBounds_toArray, List.set_cons_zero, List.set_cons_succ]
  all_goals
    first
      | (refine Calm.skip ?_ ?_; focus rfl)
      | (refine Calm.pure (v := ?_) (by rfl) ?_ ?_
         rotate_left
         focus (intro w hSw; go_simp <;> rfl))
    simp only [Act.put, List.setIfInBounds_toArray, List.set_cons_zero, List.set_cons_succ]
  all_goals
    refine Calm.pure (v := ?_) (by rfl) ?_ ?_
    rotate_left
    focus (intro w hSw; go_simp <;> rfl)
    simp only [Act.put, List.setIfInBounds_toArray, List.set_cons_zero, List.set_cons_succ]
  all_goals
    refine Calm.pure (v := ?_) (by rfl) ?_ ?_
    rotate_left
    focus (intro w hSw; go_simp <;> rfl)
    simp only [Act.put, List.setIfInBounds_toArray, List.set_cons_zero, List.set_cons_succ]
  all_goals
    first
      | (refine Calm.skip ?_ ?_; focus rfl)
      | (refine Calm.loadW (cs := #[.int .i64 p, .int .i64 s, .int .i64 i]) 33 Try.underlying33 rfl size33 (by rfl) _ rfl rfl (fun _ h => h.1) ?_)
    simp only [Act.put, List.setIfInBounds_toArray, List.set_cons_zero, List.set_cons_succ]
  all_goals
    first
      | (refine Calm.skip ?_ ?_; focus rfl)
      | (refine Calm.loadW (cs := #[.int .i64 q, .int .i64 u, .int .i64 j]) 33 Try.underlying33 rfl size33 (by rfl) _ rfl rfl (fun _ h => h.2.1) ?_)
    simp only [Act.put, List.setIfInBounds_toArray, List.set_cons_zero, List.set_cons_succ]
  all_goals
    first
      | (refine Calm.skip ?_ ?_; focus rfl)
      | (refine Calm.call2s (by rfl) rfl rfl rfl (by kernel_rfl) hs (fun w1 h => LAB w1) ?_)
    simp only [Act.put, List.setIfInBounds_toArray, List.set_cons_zero, List.set_cons_succ]
  all_goals
    first
      | (refine Calm.skip ?_ ?_; focus rfl)
      | (refine Calm.pure (v := ?_) (by rfl) ?_ ?_
         rotate_left
         focus (intro w hSw; go_simp <;> rfl))
    simp only [Act.put, List.setIfInBounds_toArray, List.set_cons_zero, List.set_cons_succ]
  all_goals
    first
      | (refine Calm.skip ?_ ?_; focus rfl)
      | (refine Calm.loadW (cs := #[.int .i64 q, .int .i64 u, .int .i64 j]) 33 Try.underlying33 rfl size33 (by rfl) _ rfl rfl (fun _ h => h.2.1) ?_)
    simp only [Act.put, List.setIfInBounds_toArray, List.set_cons_zero, List.set_cons_succ]
  all_goals
    first
      | (refine Calm.skip ?_ ?_; focus rfl)
      | (refine Calm.loadW (cs := #[.int .i64 p, .int .i64 s, .int .i64 i]) 33 Try.underlying33 rfl size33 (by rfl) _ rfl rfl (fun _ h => h.1) ?_)
    simp only [Act.put, List.setIfInBounds_toArray, List.set_cons_zero, List.set_cons_succ]
  all_goals
    first
      | (refine Calm.skip ?_ ?_; focus rfl)
      | (refine Calm.call2s (by rfl) rfl rfl rfl (by kernel_rfl) hs (fun w1 h => LBA w1) ?_)
    simp only [Act.put, List.setIfInBounds_toArray, List.set_cons_zero, List.set_cons_succ]
  all_goals
    first
      | (refine Calm.skip ?_ ?_; focus rfl)
      | (refine Calm.pure (v := ?_) (by rfl) ?_ ?_
         rotate_left
         focus (intro w hSw; go_simp <;> rfl))
    simp only [Act.put, List.setIfInBounds_toArray, List.set_cons_zero, List.set_cons_succ]
  all_goals
    first
      | (refine Calm.skip ?_ ?_; focus rfl)
      | (refine Calm.loadW (cs := #[.int .i64 p, .int .i64 s, .int .i64 i]) 33 Try.underlying33 rfl size33 (by rfl) _ rfl rfl (fun _ h => h.1) ?_)
    simp only [Act.put, List.setIfInBounds_toArray, List.set_cons_zero, List.set_cons_succ]
  all_goals
    first
      | (refine Calm.skip ?_ ?_; focus rfl)
      | (refine Calm.loadW (cs := #[.int .i64 q, .int .i64 u, .int .i64 j]) 33 Try.underlying33 rfl size33 (by rfl) _ rfl rfl (fun _ h => h.2.1) ?_)
    simp only [Act.put, List.setIfInBounds_toArray, List.set_cons_zero, List.set_cons_succ]
  all_goals
    first
      | (refine Calm.skip ?_ ?_; focus rfl)
      | (refine Calm.pure (v := ?_) (by rfl) ?_ ?_
         rotate_left
         focus (intro w hSw; go_simp <;> rfl))
    simp only [Act.put, List.setIfInBounds_toArray, List.set_cons_zero, List.set_cons_succ]
  all_goals
    first
      | (refine Calm.skip ?_ ?_; focus rfl)
      | (refine Calm.pure (v := ?_) (by rfl) ?_ ?_
         rotate_left
         focus (intro w hSw; go_simp <;> rfl))
    simp only [Act.put, List.setIfInBounds_toArray, List.set_cons_zero, List.set_cons_succ]
  all_goals
    refine Calm.pure (v := ?_) (by rfl) ?_ ?_
    rotate_left
    focus (intro w hSw; go_simp <;> rfl)
    simp only [Act.put, List.setIfInBounds_toArray, List.set_cons_zero, List.set_cons_succ]
  all_goals
    refine Calm.pure (v := ?_) (by rfl) ?_ ?_
    rotate_left
    focus (intro w hSw; go_simp <;> rfl)
    simp only [Act.put, List.setIfInBounds_toArray, List.set_cons_zero, List.set_cons_succ]
  all_goals
    first
      | (refine Calm.skip ?_ ?_; focus rfl)
      | (refine Calm.call0 (by rfl) rfl (by kernel_rfl) hs heads_any ?_)
    simp only [Act.put, List.setIfInBounds_toArray, List.set_cons_zero, List.set_cons_succ]
  all_goals
    refine Calm.pure (v := ?_) (by rfl) ?_ ?_
    rotate_left
    focus (intro w hSw; go_simp <;> rfl)
    simp only [Act.put, List.setIfInBounds_toArray, List.set_cons_zero, List.set_cons_succ]
  all_goals
    refine Calm.pure (v := ?_) (by rfl) ?_ ?_
    rotate_left
    focus (intro w hSw; go_simp <;> rfl)
    simp only [Act.put, List.setIfInBounds_toArray, List.set_cons_zero, List.set_cons_succ]
  all_goals
    rintro w9 ⟨_, _, _, hbel9⟩
  all_goals
    go_wp2_with fail
    go_ret
    exact ⟨rfl, hbel9⟩
end Go.Proofs.Ytiijkoefhmohcaa
