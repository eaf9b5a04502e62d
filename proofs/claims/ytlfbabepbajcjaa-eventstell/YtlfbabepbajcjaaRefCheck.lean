/- The function Check of the document's answer. -/
import Derived.Test.YtlfbabepbajcjaaRefNorm
namespace Go.Proofs.Ytlfbabepbajcjaa
open Go.RowKit

set_option maxHeartbeats 4000000 in
set_option maxRecDepth 100000 in
theorem refCheck_yes (x : EV) (b : Bool) (hb : eqb (norm x) x = b) (hg : rg x 16 1073741824 = true) (n : Int) (p : Option Addr) (l c : Nat) (w : World) (hi : Is w x (TV n p l c))
    (rR : ∀ w1, Below w.heap.size w w1 → Calls Try.prog 28 #[TV n p l c, .int .i64 16, .int .i64 1073741824] w1 (Tells (.bool true) w1)) :
    Calls Try.prog 15 #[TV n p l c] w (Tells (.bool b) w) := by
  obtain ⟨h1, hbel⟩ := one_box w n p l c _ rfl
  replace hi := hi.later hbel
  go_enter Try.func15, Try.ntmps15
  go_wp2_with fail
  have hS : Calm.Stays (fun w' => Bx w' w.heap.size n p l c ∧ Is w' x (TV n p l c) ∧ Below w.heap.size w w') := fun wa wb h hb => ⟨h.1.later hb, h.2.1.later hb, below_on h.2.2 hb⟩
  have hF : Facts.Stay [eqF 0 (TV n p l c), eqF 1 (.bool true), eqF 2 (.bool true), eqF 3 (TV n p l c), isF 4 (norm x), eqF 5 (TV n p l c), eqF 6 (.bool b), eqF 7 (.bool b), eqF 8 (.bool b)] := stay_of (by simp only [List.forall_mem_cons]; exact ⟨eqF_stays _ _, eqF_stays _ _, eqF_stays _ _, eqF_stays _ _, isF_stays _ _, eqF_stays _ _, eqF_stays _ _, eqF_stays _ _, eqF_stays _ _, fun _ h => by cases h⟩)
  refine FactsG.region (by kernel_rfl) (by kernel_rfl) (fun w' => Bx w' w.heap.size n p l c ∧ Is w' x (TV n p l c) ∧ Below w.heap.size w w') (fun x => { tmps := #[TV n p l c, .pointer (some ⟨w.heap.size, 0, none⟩), x 8, x 0, x 1, x 2, x 3, x 4, x 5, x 6, x 7], defers := [] }) [eqF 0 (TV n p l c), eqF 1 (.bool true), eqF 2 (.bool true), eqF 3 (TV n p l c), isF 4 (norm x), eqF 5 (TV n p l c), eqF 6 (.bool b), eqF 7 (.bool b), eqF 8 (.bool b)] (NotOne []) (notOne_symm _) _ rfl rfl (by kernel_rfl) (fun k => if k = 8 then .bool false else undef) rfl (⟨h1, hi.later (Below.refl _ _).drew, hbel.drew⟩) ⟨?_, ?_, ?_, ?_, ?_, ?_, ?_, ?_, ?_, trivial⟩ ?_
  · exact FactsG.of rfl (fun _ _ _ h => absurd h (by decide)) (fun _ _ _ _ => rfl) (Facts.loadT hS hF (fun _ _ => rfl) _ rfl rfl (fun x wv hSw hd => by rfl) (fun wv hSw => hSw.1.tat))
  · refine FactsG.of rfl (fun _ _ _ h => absurd h (by decide)) (fun _ _ _ _ => rfl) (Facts.call3V hS hF (fun _ _ => rfl) rfl (by kernel_rfl) rfl (fun x wv hSw hd => ?_))
    have d0 := eqF_get (hd ⟨0, .data⟩ (by simp) rfl _ rfl)
    have hc := rR _ hSw.2.2
    rw [← d0] at hc
    exact hc
  · exact FactsG.of rfl (fun _ _ _ h => absurd h (by decide)) (fun _ _ _ _ => rfl) (Facts.pure hS hF (fun _ _ => rfl) rfl (fun x wv hSw hd => by
      have d1 := eqF_get (hd ⟨1, .data⟩ (by simp) rfl _ rfl)
      simp only [d1]
      go_simp))
  · exact FactsG.of rfl (fun _ _ _ h => absurd h (by decide)) (fun x wv hSw hd => by have dg := eqF_get (hd ⟨2, .guard⟩ (by simp) rfl _ rfl); simp only [dg]; rfl) (Facts.loadT hS hF (fun _ _ => rfl) _ rfl rfl (fun x wv hSw hd => by rfl) (fun wv hSw => hSw.1.tat))
  · refine FactsG.of rfl (fun _ _ _ h => absurd h (by decide)) (fun x wv hSw hd => by have dg := eqF_get (hd ⟨2, .guard⟩ (by simp) rfl _ rfl); simp only [dg]; rfl) (Facts.call1T hS hF (fun _ _ => rfl) rfl (by kernel_rfl) rfl (fun x wv hSw hd => ?_))
    have d3 := eqF_get (hd ⟨3, .data⟩ (by simp) rfl _ rfl)
    have hc := refNorm_any _ 16 1073741824 n p l c wv hSw.2.1 hg (by omega)
    rw [← d3] at hc
    exact hc
  · exact FactsG.of rfl (fun _ _ _ h => absurd h (by decide)) (fun x wv hSw hd => by have dg := eqF_get (hd ⟨2, .guard⟩ (by simp) rfl _ rfl); simp only [dg]; rfl) (Facts.loadT hS hF (fun _ _ => rfl) _ rfl rfl (fun x wv hSw hd => by rfl) (fun wv hSw => hSw.1.tat))
  · refine FactsG.of rfl (fun _ _ _ h => absurd h (by decide)) (fun x wv hSw hd => by have dg := eqF_get (hd ⟨2, .guard⟩ (by simp) rfl _ rfl); simp only [dg]; rfl) (Facts.call2V hS hF (fun _ _ => rfl) rfl (by kernel_rfl) rfl (fun x wv hSw hd => ?_))
    obtain ⟨n4i, p4i, l4i, c4i, d4, e4⟩ := isF_get (hd ⟨4, .data⟩ (by simp) rfl _ rfl)
    have d5 := eqF_get (hd ⟨5, .data⟩ (by simp) rfl _ rfl)
    have hc := same_any _ _ n4i p4i l4i c4i n p l c wv e4 hSw.2.1
    rw [← d4, ← d5, hb] at hc
    exact hc
  · exact FactsG.of rfl (fun _ _ _ h => absurd h (by decide)) (fun _ _ _ _ => rfl) (Facts.pure hS hF (fun _ _ => rfl) rfl (fun x wv hSw hd => by
      have d2 := eqF_get (hd ⟨2, .data⟩ (by simp) rfl _ rfl)
      have d6 := eqF_get (hd ⟨6, .data⟩ (by simp) rfl _ rfl)
      simp only [d2, d6]
      go_simp))
  · exact FactsG.of rfl (fun _ _ _ h => absurd h (by decide)) (fun _ _ _ _ => rfl) (Facts.pure hS hF (fun _ _ => rfl) rfl (fun x wv hSw hd => by
      have d7 := eqF_get (hd ⟨7, .data⟩ (by simp) rfl _ rfl)
      simp only [d7]
      go_simp))
  rintro xa w5 ⟨_, _, hbel⟩ hf _
  have d8 := eqF_get (hf 8 _ (by decide) rfl)
  clear hf
  simp only [d8]
  go_wp2
  go_ret
  exact ⟨rfl, hbel⟩

set_option maxHeartbeats 4000000 in
set_option maxRecDepth 100000 in
theorem refCheck_no (n : Int) (p : Option Addr) (l c : Nat) (w : World)
    (rR : ∀ w1, Below w.heap.size w w1 → Calls Try.prog 28 #[TV n p l c, .int .i64 16, .int .i64 1073741824] w1 (Tells (.bool false) w1)) :
    Calls Try.prog 15 #[TV n p l c] w (Tells (.bool false) w) := by
  obtain ⟨h1, hbel⟩ := one_box w n p l c _ rfl
  go_enter Try.func15, Try.ntmps15
  go_wp2_with fail
  have hs : Calm.Stays (fun w' => Tat w' w.heap.size 0 n p l c ∧ Below w.heap.size w w') := fun wa wb h hb => ⟨h.1.later hb, below_on h.2 hb⟩
  refine Calm.region (by kernel_rfl) (by kernel_rfl) (fun w' => Tat w' w.heap.size 0 n p l c ∧ Below w.heap.size w w') ⟨h1.tat, hbel.drew⟩ ?_
  all_goals
    refine Calm.loadT (by rfl) _ rfl rfl (fun _ h => by go_split_ands; assumption) ?_
    simp only [Act.put, List.setIfInBounds_toArray, List.set_cons_zero, List.set_cons_succ]
  all_goals
    refine Calm.call3s (by rfl) rfl rfl rfl rfl (by kernel_rfl) hs (fun w1 h => rR w1 h.2) ?_
    simp only [Act.put, List.setIfInBounds_toArray, List.set_cons_zero, List.set_cons_succ]
  all_goals
    refine Calm.pure (v := ?_) (by rfl) ?_ ?_
    rotate_left
    focus (intro w hSw; go_simp <;> rfl)
    simp only [Act.put, List.setIfInBounds_toArray, List.set_cons_zero, List.set_cons_succ]
  all_goals
    (refine Calm.skip ?_ ?_; focus rfl)
    simp only [Act.put, List.setIfInBounds_toArray, List.set_cons_zero, List.set_cons_succ]
  all_goals
    (refine Calm.skip ?_ ?_; focus rfl)
    simp only [Act.put, List.setIfInBounds_toArray, List.set_cons_zero, List.set_cons_succ]
  all_goals
    (refine Calm.skip ?_ ?_; focus rfl)
    simp only [Act.put, List.setIfInBounds_toArray, List.set_cons_zero, List.set_cons_succ]
  all_goals
    (refine Calm.skip ?_ ?_; focus rfl)
    simp only [Act.put, List.setIfInBounds_toArray, List.set_cons_zero, List.set_cons_succ]
  all_goals
    refine Calm.pure (v := ?_) (by rfl) ?_ ?_
    rotate_left
    focus (intro w hSw; go_simp <;> rfl)
    simp only [Act.put, List.setIfInBounds_toArray, List.set_cons_zero, List.set_cons_succ]
  all_goals
    refine Calm.pure (v := ?_) (by rfl) ?_ ?_
    rotate_left
    focus (intro w hSw; go_simp <;> rfl)
    simp only [Act.put, List.setIfInBounds_toArray, List.set_cons_zero, List.set_cons_succ]
  all_goals
    rintro w9 ⟨_, hbel9⟩
    go_wp2
    go_ret
    exact ⟨rfl, hbel9⟩

theorem refCheck_tr (t : Tr) (n : Int) (p : Option Addr) (l c : Nat) (w : World) (ht : Lies w t (TV n p l c)) : Calls Try.prog 15 #[TV n p l c] w (Tells (.bool (okT t)) w) := by
  have rR := fun w1 (hb : Below w.heap.size w w1) => refRough_any t 16 1073741824 n p l c w1 (ht.later hb) (by omega) (by omega) (by omega)
  unfold okT
  cases hr : rough t 16 1073741824
  · rw [hr] at rR
    exact refCheck_no n p l c w rR
  · rw [hr] at rR
    exact refCheck_yes (evOf t) _ (norm_eq _) (is_of_lies t 16 1073741824 _ hr ht).2 n p l c w (is_of_lies t 16 1073741824 _ hr ht).1 rR
end Go.Proofs.Ytlfbabepbajcjaa
