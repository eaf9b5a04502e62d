/- The walk of EventsNorms. -/
import Derived.Test.YtlfbabepbajcjaaHeads
import Derived.Test.YtlfbabepbajcjaaCalmS
namespace Go.Proofs.Ytlfbabepbajcjaa
open Go.RowKit

set_option maxHeartbeats 8000000 in
set_option maxRecDepth 100000 in
theorem norms_any (t : Tr) (n : Int) (p : Option Addr) (l c : Nat) (w : World) (ht : Lies w t (TV n p l c)) : Calls Try.prog 3 #[TV n p l c] w (Tells (.bool true) w) := by
  obtain ⟨bt, hbel⟩ := one_box w n p l c _ rfl
  have rF := few_any t n p l c _ (ht.later hbel)
  replace ht := ht.later hbel
  go_enter Try.func3, Try.ntmps3
  go_wp2_with (first | refine load_t _ rfl rfl _ _ rfl bt.tat ?_)
  refine rF.mono ?_
  rintro e w1 ⟨few, rfl, hb1⟩
  replace bt := bt.later hb1
  replace ht := ht.later hb1
  replace hbel := below_on hbel hb1
  clear hb1
  clear rF
  cases few
  · clear ht bt
    go_wp2_with fail
    refine (heads_any _).mono ?_
    rintro e w9 ⟨rfl, hb1⟩
    go_wp2
    go_ret
    exact ⟨rfl, below_on hbel hb1⟩
  · have rN := norm_tr t n p l c
    cases hr : rough t 16 1073741824
    · have rC := check_tr t n p l c
      rw [nrmX, nrmE, hr] at rN
      simp only [Bool.false_eq_true, if_false] at rN
      rw [okT, hr, Bool.false_and] at rC
      clear hr
      go_wp2_with (first | refine load_t _ rfl rfl _ _ rfl bt.tat ?_)
      refine (rN _ ht).mono ?_
      rintro e w2 ⟨nN, pN, lN, cN, rfl, iN, hb1⟩
      replace bt := bt.later hb1
      replace ht := ht.later hb1
      replace hbel := below_on hbel hb1
      clear hb1
      have m0 := bx_new w2 0 none 0 0
      have bN := new_box w2 nN pN lN cN
      have hb1 := new_below w2 nN pN lN cN
      generalize hw : (w2.alloc (.cells #[.int .i64 0, .slice none 0 0] 24)).setRow w2.heap.size #[.int .i64 nN, .slice pN lN cN] = v2 at bN hb1
      replace bt := bt.later hb1
      replace ht := ht.later hb1
      replace iN := iN.later hb1
      replace hbel := below_on hbel hb1
      clear hb1
      go_wp2_with (first | rw [hw] | refine store_t rfl _ _ rfl _ nN pN lN cN rfl rfl m0 ?_ | refine load_t _ rfl rfl _ _ rfl bt.tat ?_ | refine load_t _ rfl rfl _ _ rfl bN.tat ?_)
      clear m0 hw
      generalize w2.heap.size = qN at bN ⊢
      clear rN
      refine (rC _ ht).mono ?_
      rintro e w3 ⟨rfl, hb1⟩
      replace bt := bt.later hb1
      replace ht := ht.later hb1
      replace iN := iN.later hb1
      replace bN := bN.later hb1
      replace hbel := below_on hbel hb1
      clear hb1
      clear rC ht bt bN iN
      go_wp2_with fail
      refine (heads_any _).mono ?_
      rintro e w9 ⟨rfl, hb1⟩
      go_wp2
      go_ret
      exact ⟨rfl, below_on hbel hb1⟩
    · have hi := (is_of_lies t 16 1073741824 _ hr ht).1
      have hg := (is_of_lies t 16 1073741824 _ hr ht).2
      rw [nrmX, nrmE, hr] at rN
      simp only [if_true] at rN
      have rC := check_tr t n p l c
      rw [okT, hr, Bool.true_and] at rC
      clear hr
      generalize evOf t = x at hi hg rN rC
      have HG : Hid (rg x 16 1073741824 = true) := hg
      clear hg
      go_wp2_with (first | refine load_t _ rfl rfl _ _ rfl bt.tat ?_)
      refine (rN _ ht).mono ?_
      rintro e w2 ⟨nN, pN, lN, cN, rfl, iN, hb1⟩
      replace bt := bt.later hb1
      replace ht := ht.later hb1
      replace hi := hi.later hb1
      replace hbel := below_on hbel hb1
      clear hb1
      have m0 := bx_new w2 0 none 0 0
      have bN := new_box w2 nN pN lN cN
      have hb1 := new_below w2 nN pN lN cN
      generalize hw : (w2.alloc (.cells #[.int .i64 0, .slice none 0 0] 24)).setRow w2.heap.size #[.int .i64 nN, .slice pN lN cN] = v2 at bN hb1
      replace bt := bt.later hb1
      replace ht := ht.later hb1
      replace hi := hi.later hb1
      replace iN := iN.later hb1
      replace hbel := below_on hbel hb1
      clear hb1
      go_wp2_with (first | rw [hw] | refine store_t rfl _ _ rfl _ nN pN lN cN rfl rfl m0 ?_ | refine load_t _ rfl rfl _ _ rfl bt.tat ?_ | refine load_t _ rfl rfl _ _ rfl bN.tat ?_)
      clear m0 hw
      generalize w2.heap.size = qN at bN ⊢
      clear rN
      have rN2 := fun w1 (h : Is w1 (norm x) (TV nN pN lN cN)) => norm_any (norm x) nN pN lN cN w1 h (rg_norm HG.out)
      rw [norm_norm] at rN2
      have rC2 := fun w1 (h : Is w1 (norm x) (TV nN pN lN cN)) => check_any (norm x) nN pN lN cN w1 h (rg_norm HG.out)
      rw [short_norm] at rC2
      refine (rN2 _ iN).mono ?_
      rintro e w3 ⟨nM, pM, lM, cM, rfl, iM, hb1⟩
      replace bt := bt.later hb1
      replace ht := ht.later hb1
      replace hi := hi.later hb1
      replace iN := iN.later hb1
      replace bN := bN.later hb1
      replace hbel := below_on hbel hb1
      clear hb1
      have m0 := bx_new w3 0 none 0 0
      have bM := new_box w3 nM pM lM cM
      have hb1 := new_below w3 nM pM lM cM
      generalize hw : (w3.alloc (.cells #[.int .i64 0, .slice none 0 0] 24)).setRow w3.heap.size #[.int .i64 nM, .slice pM lM cM] = v3 at bM hb1
      replace bt := bt.later hb1
      replace ht := ht.later hb1
      replace hi := hi.later hb1
      replace iN := iN.later hb1
      replace bN := bN.later hb1
      replace iM := iM.later hb1
      replace hbel := below_on hbel hb1
      clear hb1
      go_wp2_with (first | rw [hw] | refine store_t rfl _ _ rfl _ nM pM lM cM rfl rfl m0 ?_ | refine load_t _ rfl rfl _ _ rfl bt.tat ?_ | refine load_t _ rfl rfl _ _ rfl bN.tat ?_ | refine load_t _ rfl rfl _ _ rfl bM.tat ?_)
      clear m0 hw
      generalize w3.heap.size = qM at bM ⊢
      clear rN2
      have rS1 := fun w1 (h : Is w1 (norm x) (TV nN pN lN cN)) (h' : Is w1 (norm x) (TV nM pM lM cM)) => same_any (norm x) (norm x) nN pN lN cN nM pM lM cM w1 h h'
      rw [eqb_refl] at rS1
      have rS2 := fun w1 (h : Is w1 (norm x) (TV nN pN lN cN)) (h' : Is w1 x (TV n p l c)) => same_any (norm x) x nN pN lN cN n p l c w1 h h'
      rw [norm_eq] at rS2
      clear HG
      generalize short x = bb at rC rS2
      generalize norm x = y at rC2 rS1 rS2 iN iM
      have hs : Calm.Stays (fun w' => Tat w' w.heap.size 0 n p l c ∧ Tat w' qN 0 nN pN lN cN ∧ Tat w' qM 0 nM pM lM cM ∧ Lies w' t (TV n p l c) ∧ Is w' x (TV n p l c) ∧ Is w' y (TV nN pN lN cN) ∧ Is w' y (TV nM pM lM cM) ∧ Below w.heap.size w w') := fun wa wb h hb => ⟨h.1.later hb, h.2.1.later hb, h.2.2.1.later hb, h.2.2.2.1.later hb, h.2.2.2.2.1.later hb, h.2.2.2.2.2.1.later hb, h.2.2.2.2.2.2.1.later hb, below_on h.2.2.2.2.2.2.2 hb⟩
      refine Calm.region (by kernel_rfl) (by kernel_rfl) (fun w' => Tat w' w.heap.size 0 n p l c ∧ Tat w' qN 0 nN pN lN cN ∧ Tat w' qM 0 nM pM lM cM ∧ Lies w' t (TV n p l c) ∧ Is w' x (TV n p l c) ∧ Is w' y (TV nN pN lN cN) ∧ Is w' y (TV nM pM lM cM) ∧ Below w.heap.size w w') ⟨bt.tat, bN.tat, bM.tat, ht.later (Below.refl _ _).drew, hi.later (Below.refl _ _).drew, iN.later (Below.refl _ _).drew, iM.later (Below.refl _ _).drew, hbel.drew⟩ ?_
      clear bt bN bM ht hi iN iM hbel
      cases bb
      all_goals
        refine Calm.pure (v := ?_) (by rfl) ?_ ?_
        rotate_left
        focus (intro w hSw; go_simp <;> rfl)
        simp only [Act.put, List.setIfInBounds_toArray, List.set_cons_zero, List.set_cons_succ]
      all_goals
        refine Calm.pure (v := ?_) (by rfl) ?_ ?_
        rotate_left
        focus (intro w hSw; go_simp <;> rfl)
        simp only [Act.put, List.setIfInBounds_toArray, List.set_cons_zero, List.set_cons_succ]
      all_goals
        refine Calm.pure (v := ?_) (by rfl) ?_ ?_
        rotate_left
        focus (intro w hSw; go_simp <;> rfl)
        simp only [Act.put, List.setIfInBounds_toArray, List.set_cons_zero, List.set_cons_succ]
      all_goals
        first
          | (refine Calm.skip ?_ ?_; focus rfl)
          | (refine Calm.loadT (by rfl) _ rfl rfl (fun _ h => by go_split_ands; assumption) ?_)
        simp only [Act.put, List.setIfInBounds_toArray, List.set_cons_zero, List.set_cons_succ]
      all_goals
        first
          | (refine Calm.skip ?_ ?_; focus rfl)
          | (refine Calm.call1s (by rfl) rfl rfl (by kernel_rfl) hs (fun w1 h => rC2 w1 h.2.2.2.2.2.1) ?_)
        simp only [Act.put, List.setIfInBounds_toArray, List.set_cons_zero, List.set_cons_succ]
      all_goals
        refine Calm.pure (v := ?_) (by rfl) ?_ ?_
        rotate_left
        focus (intro w hSw; go_simp <;> rfl)
        simp only [Act.put, List.setIfInBounds_toArray, List.set_cons_zero, List.set_cons_succ]
      all_goals
        refine Calm.pure (v := ?_) (by rfl) ?_ ?_
        rotate_left
        focus (intro w hSw; go_simp <;> rfl)
        simp only [Act.put, List.setIfInBounds_toArray, List.set_cons_zero, List.set_cons_succ]
      all_goals
        first
          | (refine Calm.skip ?_ ?_; focus rfl)
          | (refine Calm.loadT (by rfl) _ rfl rfl (fun _ h => by go_split_ands; assumption) ?_)
        simp only [Act.put, List.setIfInBounds_toArray, List.set_cons_zero, List.set_cons_succ]
      all_goals
        first
          | (refine Calm.skip ?_ ?_; focus rfl)
          | (refine Calm.loadT (by rfl) _ rfl rfl (fun _ h => by go_split_ands; assumption) ?_)
        simp only [Act.put, List.setIfInBounds_toArray, List.set_cons_zero, List.set_cons_succ]
      all_goals
        first
          | (refine Calm.skip ?_ ?_; focus rfl)
          | (refine Calm.call2s (by rfl) rfl rfl rfl (by kernel_rfl) hs (fun w1 h => rS1 w1 h.2.2.2.2.2.1 h.2.2.2.2.2.2.1) ?_)
        simp only [Act.put, List.setIfInBounds_toArray, List.set_cons_zero, List.set_cons_succ]
      all_goals
        refine Calm.pure (v := ?_) (by rfl) ?_ ?_
        rotate_left
        focus (intro w hSw; go_simp <;> rfl)
        simp only [Act.put, List.setIfInBounds_toArray, List.set_cons_zero, List.set_cons_succ]
      all_goals
        refine Calm.pure (v := ?_) (by rfl) ?_ ?_
        rotate_left
        focus (intro w hSw; go_simp <;> rfl)
        simp only [Act.put, List.setIfInBounds_toArray, List.set_cons_zero, List.set_cons_succ]
      all_goals
        first
          | (refine Calm.skip ?_ ?_; focus rfl)
          | (refine Calm.loadT (by rfl) _ rfl rfl (fun _ h => by go_split_ands; assumption) ?_)
        simp only [Act.put, List.setIfInBounds_toArray, List.set_cons_zero, List.set_cons_succ]
      all_goals
        first
          | (refine Calm.skip ?_ ?_; focus rfl)
          | (refine Calm.call1s (by rfl) rfl rfl (by kernel_rfl) hs (fun w1 h => rC w1 h.2.2.2.1) ?_)
        simp only [Act.put, List.setIfInBounds_toArray, List.set_cons_zero, List.set_cons_succ]
      all_goals
        first
          | (refine Calm.skip ?_ ?_; focus rfl)
          | (refine Calm.loadT (by rfl) _ rfl rfl (fun _ h => by go_split_ands; assumption) ?_)
        simp only [Act.put, List.setIfInBounds_toArray, List.set_cons_zero, List.set_cons_succ]
      all_goals
        first
          | (refine Calm.skip ?_ ?_; focus rfl)
          | (refine Calm.loadT (by rfl) _ rfl rfl (fun _ h => by go_split_ands; assumption) ?_)
        simp only [Act.put, List.setIfInBounds_toArray, List.set_cons_zero, List.set_cons_succ]
      all_goals
        first
          | (refine Calm.skip ?_ ?_; focus rfl)
          | (refine Calm.call2s (by rfl) rfl rfl rfl (by kernel_rfl) hs (fun w1 h => rS2 w1 h.2.2.2.2.2.1 h.2.2.2.2.1) ?_)
        simp only [Act.put, List.setIfInBounds_toArray, List.set_cons_zero, List.set_cons_succ]
      all_goals
        first
          | (refine Calm.skip ?_ ?_; focus rfl)
          | (refine Calm.pure (v := ?_) (by rfl) ?_ ?_
             rotate_left
             focus (intro w hSw; go_simp <;> rfl))
        simp only [Act.put, List.setIfInBounds_toArray, List.set_cons_zero, List.set_cons_succ]
      all_goals
        refine Calm.pure (v := ?_) (by rfl) ?_ ?_
        rotate_left
        focus (intro w hSw; go_simp <;> rfl)
        simp only [Act.put, List.setIfInBounds_toArray, List.set_cons_zero, List.set_cons_succ]
      all_goals
        refine Calm.pure (v := ?_) (by rfl) ?_ ?_
        rotate_left
        focus (intro w hSw; go_simp <;> rfl)
        simp only [Act.put, List.setIfInBounds_toArray, List.set_cons_zero, List.set_cons_succ]
      all_goals
        first
          | (refine Calm.skip ?_ ?_; focus rfl)
          | (refine Calm.call0 (by rfl) rfl (by kernel_rfl) hs heads_any ?_)
        simp only [Act.put, List.setIfInBounds_toArray, List.set_cons_zero, List.set_cons_succ]
      all_goals
        refine Calm.pure (v := ?_) (by rfl) ?_ ?_
        rotate_left
        focus (intro w hSw; go_simp <;> rfl)
        simp only [Act.put, List.setIfInBounds_toArray, List.set_cons_zero, List.set_cons_succ]
      all_goals
        refine Calm.pure (v := ?_) (by rfl) ?_ ?_
        rotate_left
        focus (intro w hSw; go_simp <;> rfl)
        simp only [Act.put, List.setIfInBounds_toArray, List.set_cons_zero, List.set_cons_succ]
      all_goals
        rintro w9 ⟨_, _, _, _, _, _, _, hbel9⟩
        go_wp2
        go_ret
        exact ⟨rfl, hbel9⟩
end Go.Proofs.Ytlfbabepbajcjaa
