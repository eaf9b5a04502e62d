/- The walk of EventsTell. -/
import Derived.Test.YtlfbabepbajcjaaRefBoth
import Derived.Test.YtlfbabepbajcjaaRefAt
import Derived.Test.YtlfbabepbajcjaaRefEnd
namespace Go.Proofs.Ytlfbabepbajcjaa
open Go.RowKit

set_option maxHeartbeats 16000000 in
set_option maxRecDepth 100000 in
theorem tell_any (xa xb : Tr) (m : Int) (na : Int) (pa : Option Addr) (la ca : Nat) (nb : Int) (pb : Option Addr) (lb cb : Nat) (w : World) (ha : Lies w xa (TV na pa la ca)) (hb : Lies w xb (TV nb pb lb cb)) :
    Calls Try.prog 4 #[TV na pa la ca, TV nb pb lb cb, .int .i64 m] w (Tells (.bool true) w) := by
  obtain ⟨b1, b2, hbel⟩ := two_box w na pa la ca nb pb lb cb _ rfl
  replace ha := ha.later hbel
  replace hb := hb.later hbel
  have rN := fun w1 (h : Lies w1 xa (TV na pa la ca)) => norm_tr xa na pa la ca w1 h
  have rN2 := fun w1 (h : Lies w1 xa (TV na pa la ca)) => refNorm_tr xa na pa la ca w1 h
  have rK := fun w1 (h : Lies w1 xa (TV na pa la ca)) => check_tr xa na pa la ca w1 h
  have rK2 := fun w1 (h : Lies w1 xa (TV na pa la ca)) => refCheck_tr xa na pa la ca w1 h
  have rLo := fun w1 (h : Lies w1 xa (TV na pa la ca)) => least_tr xa na pa la ca w1 h
  have rLo2 := fun w1 (h : Lies w1 xa (TV na pa la ca)) => refLeast_tr xa na pa la ca w1 h
  have rHi := fun w1 (h : Lies w1 xa (TV na pa la ca)) => greatest_tr xa na pa la ca w1 h
  have rHi2 := fun w1 (h : Lies w1 xa (TV na pa la ca)) => refGreatest_tr xa na pa la ca w1 h
  have rJ := fun w1 (h : Lies w1 xa (TV na pa la ca)) (h' : Lies w1 xb (TV nb pb lb cb)) => join_tr xa xb na pa la ca nb pb lb cb w1 h h'
  have rJ2 := fun w1 (h : Lies w1 xa (TV na pa la ca)) (h' : Lies w1 xb (TV nb pb lb cb)) => refJoin_tr xa xb na pa la ca nb pb lb cb w1 h h'
  have rQ := fun w1 (h : Lies w1 xa (TV na pa la ca)) (h' : Lies w1 xb (TV nb pb lb cb)) => leq_tr xa xb na pa la ca nb pb lb cb w1 h h'
  have rQ2 := fun w1 (h : Lies w1 xa (TV na pa la ca)) (h' : Lies w1 xb (TV nb pb lb cb)) => refLeq_tr xa xb na pa la ca nb pb lb cb w1 h h'
  have rV := fun w1 (h : Lies w1 xa (TV na pa la ca)) => at_tr xa m na pa la ca w1 h
  have rV2 := fun w1 (h : Lies w1 xa (TV na pa la ca)) => refAt_tr xa m na pa la ca w1 h
  generalize nrmX xa = xN at rN rN2
  generalize nrmE xa = eN at rN rN2
  generalize jnX xa xb = xJ at rJ rJ2
  generalize jnE xa xb = eJ at rJ rJ2
  generalize okT xa = kk at rK rK2
  generalize lqT xa xb = lq at rQ rQ2
  generalize atT xa m = va at rV rV2
  generalize loT xa = lo at rLo rLo2
  generalize hiT xa = hi at rHi rHi2
  go_enter Try.func4, Try.ntmps4
  go_wp2_with (first | refine load_t _ rfl rfl _ _ rfl b1.tat ?_ | refine load_t _ rfl rfl _ _ rfl b2.tat ?_)
  refine (few_any xa na pa la ca _ ha).mono ?_
  rintro e w1 ⟨few, rfl, hb1⟩
  replace b1 := b1.later hb1
  replace b2 := b2.later hb1
  replace ha := ha.later hb1
  replace hb := hb.later hb1
  replace hbel := below_on hbel hb1
  clear hb1
  cases few
  · clear rN rN2 rK rK2 rLo rLo2 rHi rHi2 rJ rJ2 rQ rQ2 rV rV2 b1 b2 ha hb
    go_wp2_with fail
    refine (heads_any _).mono ?_
    rintro e w9 ⟨rfl, hb1⟩
    go_wp2
    go_ret
    exact ⟨rfl, below_on hbel hb1⟩
  go_wp2_with (first | refine load_t _ rfl rfl _ _ rfl b1.tat ?_ | refine load_t _ rfl rfl _ _ rfl b2.tat ?_)
  refine (few_any xb nb pb lb cb _ hb).mono ?_
  rintro e w2 ⟨few, rfl, hb1⟩
  replace b1 := b1.later hb1
  replace b2 := b2.later hb1
  replace ha := ha.later hb1
  replace hb := hb.later hb1
  replace hbel := below_on hbel hb1
  clear hb1
  cases few
  · clear rN rN2 rK rK2 rLo rLo2 rHi rHi2 rJ rJ2 rQ rQ2 rV rV2 b1 b2 ha hb
    go_wp2_with fail
    refine (heads_any _).mono ?_
    rintro e w9 ⟨rfl, hb1⟩
    go_wp2
    go_ret
    exact ⟨rfl, below_on hbel hb1⟩
  go_wp2_with (first | refine load_t _ rfl rfl _ _ rfl b1.tat ?_ | refine load_t _ rfl rfl _ _ rfl b2.tat ?_)
  refine (rN _ ha).mono ?_
  rintro e w3 ⟨nN, pN, lN, cN, rfl, iN, hb1⟩
  replace b1 := b1.later hb1
  replace b2 := b2.later hb1
  replace ha := ha.later hb1
  replace hb := hb.later hb1
  replace hbel := below_on hbel hb1
  clear hb1
  have m0 := bx_new w3 0 none 0 0
  have bN := new_box w3 nN pN lN cN
  have hb1 := new_below w3 nN pN lN cN
  generalize hw : (w3.alloc (.cells #[.int .i64 0, .slice none 0 0] 24)).setRow w3.heap.size #[.int .i64 nN, .slice pN lN cN] = v3 at bN hb1
  replace b1 := b1.later hb1
  replace b2 := b2.later hb1
  replace ha := ha.later hb1
  replace hb := hb.later hb1
  replace iN := iN.later hb1
  replace hbel := below_on hbel hb1
  clear hb1
  go_wp2_with (first | rw [hw] | refine store_t rfl _ _ rfl _ nN pN lN cN rfl rfl m0 ?_ | refine load_t _ rfl rfl _ _ rfl b1.tat ?_ | refine load_t _ rfl rfl _ _ rfl b2.tat ?_ | refine load_t _ rfl rfl _ _ rfl bN.tat ?_)
  clear m0 hw
  generalize w3.heap.size = qN at bN ⊢
  clear rN
  refine (rN2 _ ha).mono ?_
  rintro e w4 ⟨nM, pM, lM, cM, rfl, iM, hb1⟩
  replace b1 := b1.later hb1
  replace b2 := b2.later hb1
  replace ha := ha.later hb1
  replace hb := hb.later hb1
  replace iN := iN.later hb1
  replace bN := bN.later hb1
  replace hbel := below_on hbel hb1
  clear hb1
  have m0 := bx_new w4 0 none 0 0
  have bM := new_box w4 nM pM lM cM
  have hb1 := new_below w4 nM pM lM cM
  generalize hw : (w4.alloc (.cells #[.int .i64 0, .slice none 0 0] 24)).setRow w4.heap.size #[.int .i64 nM, .slice pM lM cM] = v4 at bM hb1
  replace b1 := b1.later hb1
  replace b2 := b2.later hb1
  replace ha := ha.later hb1
  replace hb := hb.later hb1
  replace iN := iN.later hb1
  replace bN := bN.later hb1
  replace iM := iM.later hb1
  replace hbel := below_on hbel hb1
  clear hb1
  go_wp2_with (first | rw [hw] | refine store_t rfl _ _ rfl _ nM pM lM cM rfl rfl m0 ?_ | refine load_t _ rfl rfl _ _ rfl b1.tat ?_ | refine load_t _ rfl rfl _ _ rfl b2.tat ?_ | refine load_t _ rfl rfl _ _ rfl bN.tat ?_ | refine load_t _ rfl rfl _ _ rfl bM.tat ?_)
  clear m0 hw
  generalize w4.heap.size = qM at bM ⊢
  clear rN2
  refine (rJ _ ha hb).mono ?_
  rintro e w5 ⟨nJ, pJ, lJ, cJ, rfl, iJ, hb1⟩
  replace b1 := b1.later hb1
  replace b2 := b2.later hb1
  replace ha := ha.later hb1
  replace hb := hb.later hb1
  replace iN := iN.later hb1
  replace bN := bN.later hb1
  replace iM := iM.later hb1
  replace bM := bM.later hb1
  replace hbel := below_on hbel hb1
  clear hb1
  have m0 := bx_new w5 0 none 0 0
  have bJ := new_box w5 nJ pJ lJ cJ
  have hb1 := new_below w5 nJ pJ lJ cJ
  generalize hw : (w5.alloc (.cells #[.int .i64 0, .slice none 0 0] 24)).setRow w5.heap.size #[.int .i64 nJ, .slice pJ lJ cJ] = v5 at bJ hb1
  replace b1 := b1.later hb1
  replace b2 := b2.later hb1
  replace ha := ha.later hb1
  replace hb := hb.later hb1
  replace iN := iN.later hb1
  replace bN := bN.later hb1
  replace iM := iM.later hb1
  replace bM := bM.later hb1
  replace iJ := iJ.later hb1
  replace hbel := below_on hbel hb1
  clear hb1
  go_wp2_with (first | rw [hw] | refine store_t rfl _ _ rfl _ nJ pJ lJ cJ rfl rfl m0 ?_ | refine load_t _ rfl rfl _ _ rfl b1.tat ?_ | refine load_t _ rfl rfl _ _ rfl b2.tat ?_ | refine load_t _ rfl rfl _ _ rfl bN.tat ?_ | refine load_t _ rfl rfl _ _ rfl bM.tat ?_ | refine load_t _ rfl rfl _ _ rfl bJ.tat ?_)
  clear m0 hw
  generalize w5.heap.size = qJ at bJ ⊢
  clear rJ
  refine (rJ2 _ ha hb).mono ?_
  rintro e w6 ⟨nK, pK, lK, cK, rfl, iK, hb1⟩
  replace b1 := b1.later hb1
  replace b2 := b2.later hb1
  replace ha := ha.later hb1
  replace hb := hb.later hb1
  replace iN := iN.later hb1
  replace bN := bN.later hb1
  replace iM := iM.later hb1
  replace bM := bM.later hb1
  replace iJ := iJ.later hb1
  replace bJ := bJ.later hb1
  replace hbel := below_on hbel hb1
  clear hb1
  have m0 := bx_new w6 0 none 0 0
  have bK := new_box w6 nK pK lK cK
  have hb1 := new_below w6 nK pK lK cK
  generalize hw : (w6.alloc (.cells #[.int .i64 0, .slice none 0 0] 24)).setRow w6.heap.size #[.int .i64 nK, .slice pK lK cK] = v6 at bK hb1
  replace b1 := b1.later hb1
  replace b2 := b2.later hb1
  replace ha := ha.later hb1
  replace hb := hb.later hb1
  replace iN := iN.later hb1
  replace bN := bN.later hb1
  replace iM := iM.later hb1
  replace bM := bM.later hb1
  replace iJ := iJ.later hb1
  replace bJ := bJ.later hb1
  replace iK := iK.later hb1
  replace hbel := below_on hbel hb1
  clear hb1
  go_wp2_with (first | rw [hw] | refine store_t rfl _ _ rfl _ nK pK lK cK rfl rfl m0 ?_ | refine load_t _ rfl rfl _ _ rfl b1.tat ?_ | refine load_t _ rfl rfl _ _ rfl b2.tat ?_ | refine load_t _ rfl rfl _ _ rfl bN.tat ?_ | refine load_t _ rfl rfl _ _ rfl bM.tat ?_ | refine load_t _ rfl rfl _ _ rfl bJ.tat ?_ | refine load_t _ rfl rfl _ _ rfl bK.tat ?_)
  clear m0 hw
  generalize w6.heap.size = qK at bK ⊢
  clear rJ2
  have rSn := fun w1 (h : Is w1 xN (TV nN pN lN cN)) (h' : Is w1 xN (TV nM pM lM cM)) => same_any xN xN nN pN lN cN nM pM lM cM w1 h h'
  rw [eqb_refl] at rSn
  have rSj := fun w1 (h : Is w1 xJ (TV nJ pJ lJ cJ)) (h' : Is w1 xJ (TV nK pK lK cK)) => same_any xJ xJ nJ pJ lJ cJ nK pK lK cK w1 h h'
  rw [eqb_refl] at rSj
  have hs : Calm.Stays (fun w' => Tat w' w.heap.size 0 na pa la ca ∧ Tat w' (w.heap.size + 1) 0 nb pb lb cb ∧ Tat w' qN 0 nN pN lN cN ∧ Tat w' qM 0 nM pM lM cM ∧ Tat w' qJ 0 nJ pJ lJ cJ ∧ Tat w' qK 0 nK pK lK cK ∧ Lies w' xa (TV na pa la ca) ∧ Lies w' xb (TV nb pb lb cb) ∧ Is w' xN (TV nN pN lN cN) ∧ Is w' xN (TV nM pM lM cM) ∧ Is w' xJ (TV nJ pJ lJ cJ) ∧ Is w' xJ (TV nK pK lK cK) ∧ Below w.heap.size w w') := fun wa wb h hb => ⟨h.1.later hb, h.2.1.later hb, h.2.2.1.later hb, h.2.2.2.1.later hb, h.2.2.2.2.1.later hb, h.2.2.2.2.2.1.later hb, h.2.2.2.2.2.2.1.later hb, h.2.2.2.2.2.2.2.1.later hb, h.2.2.2.2.2.2.2.2.1.later hb, h.2.2.2.2.2.2.2.2.2.1.later hb, h.2.2.2.2.2.2.2.2.2.2.1.later hb, h.2.2.2.2.2.2.2.2.2.2.2.1.later hb, below_on h.2.2.2.2.2.2.2.2.2.2.2.2 hb⟩
  refine Calm.region (by kernel_rfl) (by kernel_rfl) (fun w' => Tat w' w.heap.size 0 na pa la ca ∧ Tat w' (w.heap.size + 1) 0 nb pb lb cb ∧ Tat w' qN 0 nN pN lN cN ∧ Tat w' qM 0 nM pM lM cM ∧ Tat w' qJ 0 nJ pJ lJ cJ ∧ Tat w' qK 0 nK pK lK cK ∧ Lies w' xa (TV na pa la ca) ∧ Lies w' xb (TV nb pb lb cb) ∧ Is w' xN (TV nN pN lN cN) ∧ Is w' xN (TV nM pM lM cM) ∧ Is w' xJ (TV nJ pJ lJ cJ) ∧ Is w' xJ (TV nK pK lK cK) ∧ Below w.heap.size w w') ⟨b1.tat, b2.tat, bN.tat, bM.tat, bJ.tat, bK.tat, ha.later (Below.refl _ _).drew, hb.later (Below.refl _ _).drew, iN.later (Below.refl _ _).drew, iM.later (Below.refl _ _).drew, iJ.later (Below.refl _ _).drew, iK.later (Below.refl _ _).drew, hbel.drew⟩ ?_
  clear b1 b2 bN bM bJ bK ha hb iN iM iJ iK hbel
  cases kk
  all_goals
    refine Calm.loadT (by rfl) _ rfl rfl (fun _ h => by go_split_ands; assumption) ?_
    simp only [Act.put, List.setIfInBounds_toArray, List.set_cons_zero, List.set_cons_succ]
  all_goals
    refine Calm.call1s (by rfl) rfl rfl (by kernel_rfl) hs (fun w1 h => rK w1 h.2.2.2.2.2.2.1) ?_
    simp only [Act.put, List.setIfInBounds_toArray, List.set_cons_zero, List.set_cons_succ]
  all_goals
    refine Calm.loadT (by rfl) _ rfl rfl (fun _ h => by go_split_ands; assumption) ?_
    simp only [Act.put, List.setIfInBounds_toArray, List.set_cons_zero, List.set_cons_succ]
  all_goals
    refine Calm.call1s (by rfl) rfl rfl (by kernel_rfl) hs (fun w1 h => rK2 w1 h.2.2.2.2.2.2.1) ?_
    simp only [Act.put, List.setIfInBounds_toArray, List.set_cons_zero, List.set_cons_succ]
  all_goals
    refine Calm.pure (v := ?_) (by rfl) ?_ ?_
    rotate_left
    focus (intro w hSw; go_simp <;> rfl)
    simp only [Act.put, List.setIfInBounds_toArray, List.set_cons_zero, List.set_cons_succ]
  all_goals
    refine Calm.pure (v := ?_) (by rfl) ?_ ?_
    rotate_left
    focus (intro w hSw; go_simp <;> rfl)
    simp only [Act.put, List.setIfInBounds_toArray, List.set_cons_zero, List.set_cons_succ]
  all_goals
    first
      | (refine Calm.skip ?_ ?_; focus rfl)
      | (refine Calm.loadT (by rfl) _ rfl rfl (fun _ h => by go_split_ands; assumption) ?_)
    simp only [Act.put, List.setIfInBounds_toArray, List.set_cons_zero, List.set_cons_succ]
  all_goals
    first
      | (refine Calm.skip ?_ ?_; focus rfl)
      | (refine Calm.loadT (by rfl) _ rfl rfl (fun _ h => by go_split_ands; assumption) ?_)
    simp only [Act.put, List.setIfInBounds_toArray, List.set_cons_zero, List.set_cons_succ]
  all_goals
    first
      | (refine Calm.skip ?_ ?_; focus rfl)
      | (refine Calm.call2s (by rfl) rfl rfl rfl (by kernel_rfl) hs (fun w1 h => rSn w1 h.2.2.2.2.2.2.2.2.1 h.2.2.2.2.2.2.2.2.2.1) ?_)
    simp only [Act.put, List.setIfInBounds_toArray, List.set_cons_zero, List.set_cons_succ]
  all_goals
    refine Calm.pure (v := ?_) (by rfl) ?_ ?_
    rotate_left
    focus (intro w hSw; go_simp <;> rfl)
    simp only [Act.put, List.setIfInBounds_toArray, List.set_cons_zero, List.set_cons_succ]
  all_goals
    refine Calm.pure (v := ?_) (by rfl) ?_ ?_
    rotate_left
    focus (intro w hSw; go_simp <;> rfl)
    simp only [Act.put, List.setIfInBounds_toArray, List.set_cons_zero, List.set_cons_succ]
  all_goals
    first
      | (refine Calm.skip ?_ ?_; focus rfl)
      | (refine Calm.pure (v := ?_) (by rfl) ?_ ?_
         rotate_left
         focus (intro w hSw; go_simp <;> rfl))
    simp only [Act.put, List.setIfInBounds_toArray, List.set_cons_zero, List.set_cons_succ]
  all_goals
    first
      | (refine Calm.skip ?_ ?_; focus rfl)
      | (refine Calm.pure (v := ?_) (by rfl) ?_ ?_
         rotate_left
         focus (intro w hSw; go_simp <;> rfl))
    simp only [Act.put, List.setIfInBounds_toArray, List.set_cons_zero, List.set_cons_succ]
  all_goals
    first
      | (refine Calm.skip ?_ ?_; focus rfl)
      | (refine Calm.pure (v := ?_) (by rfl) ?_ ?_
         rotate_left
         focus (intro w hSw; go_simp <;> rfl))
    simp only [Act.put, List.setIfInBounds_toArray, List.set_cons_zero, List.set_cons_succ]
  all_goals
    refine Calm.pure (v := ?_) (by rfl) ?_ ?_
    rotate_left
    focus (intro w hSw; go_simp <;> rfl)
    simp only [Act.put, List.setIfInBounds_toArray, List.set_cons_zero, List.set_cons_succ]
  all_goals
    refine Calm.pure (v := ?_) (by rfl) ?_ ?_
    rotate_left
    focus (intro w hSw; go_simp <;> rfl)
    simp only [Act.put, List.setIfInBounds_toArray, List.set_cons_zero, List.set_cons_succ]
  all_goals
    first
      | (refine Calm.skip ?_ ?_; focus rfl)
      | (refine Calm.loadT (by rfl) _ rfl rfl (fun _ h => by go_split_ands; assumption) ?_)
    simp only [Act.put, List.setIfInBounds_toArray, List.set_cons_zero, List.set_cons_succ]
  all_goals
    first
      | (refine Calm.skip ?_ ?_; focus rfl)
      | (refine Calm.loadT (by rfl) _ rfl rfl (fun _ h => by go_split_ands; assumption) ?_)
    simp only [Act.put, List.setIfInBounds_toArray, List.set_cons_zero, List.set_cons_succ]
  all_goals
    first
      | (refine Calm.skip ?_ ?_; focus rfl)
      | (refine Calm.call2s (by rfl) rfl rfl rfl (by kernel_rfl) hs (fun w1 h => rSj w1 h.2.2.2.2.2.2.2.2.2.2.1 h.2.2.2.2.2.2.2.2.2.2.2.1) ?_)
    simp only [Act.put, List.setIfInBounds_toArray, List.set_cons_zero, List.set_cons_succ]
  all_goals
    refine Calm.pure (v := ?_) (by rfl) ?_ ?_
    rotate_left
    focus (intro w hSw; go_simp <;> rfl)
    simp only [Act.put, List.setIfInBounds_toArray, List.set_cons_zero, List.set_cons_succ]
  all_goals
    refine Calm.pure (v := ?_) (by rfl) ?_ ?_
    rotate_left
    focus (intro w hSw; go_simp <;> rfl)
    simp only [Act.put, List.setIfInBounds_toArray, List.set_cons_zero, List.set_cons_succ]
  all_goals
    first
      | (refine Calm.skip ?_ ?_; focus rfl)
      | (refine Calm.pure (v := ?_) (by rfl) ?_ ?_
         rotate_left
         focus (intro w hSw; go_simp <;> rfl))
    simp only [Act.put, List.setIfInBounds_toArray, List.set_cons_zero, List.set_cons_succ]
  all_goals
    first
      | (refine Calm.skip ?_ ?_; focus rfl)
      | (refine Calm.pure (v := ?_) (by rfl) ?_ ?_
         rotate_left
         focus (intro w hSw; go_simp <;> rfl))
    simp only [Act.put, List.setIfInBounds_toArray, List.set_cons_zero, List.set_cons_succ]
  all_goals
    first
      | (refine Calm.skip ?_ ?_; focus rfl)
      | (refine Calm.pure (v := ?_) (by rfl) ?_ ?_
         rotate_left
         focus (intro w hSw; go_simp <;> rfl))
    simp only [Act.put, List.setIfInBounds_toArray, List.set_cons_zero, List.set_cons_succ]
  all_goals
    refine Calm.pure (v := ?_) (by rfl) ?_ ?_
    rotate_left
    focus (intro w hSw; go_simp <;> rfl)
    simp only [Act.put, List.setIfInBounds_toArray, List.set_cons_zero, List.set_cons_succ]
  all_goals
    refine Calm.pure (v := ?_) (by rfl) ?_ ?_
    rotate_left
    focus (intro w hSw; go_simp <;> rfl)
    simp only [Act.put, List.setIfInBounds_toArray, List.set_cons_zero, List.set_cons_succ]
  all_goals
    first
      | (refine Calm.skip ?_ ?_; focus rfl)
      | (refine Calm.loadT (by rfl) _ rfl rfl (fun _ h => by go_split_ands; assumption) ?_)
    simp only [Act.put, List.setIfInBounds_toArray, List.set_cons_zero, List.set_cons_succ]
  all_goals
    first
      | (refine Calm.skip ?_ ?_; focus rfl)
      | (refine Calm.loadT (by rfl) _ rfl rfl (fun _ h => by go_split_ands; assumption) ?_)
    simp only [Act.put, List.setIfInBounds_toArray, List.set_cons_zero, List.set_cons_succ]
  all_goals
    first
      | (refine Calm.skip ?_ ?_; focus rfl)
      | (refine Calm.call2s (by rfl) rfl rfl rfl (by kernel_rfl) hs (fun w1 h => rQ w1 h.2.2.2.2.2.2.1 h.2.2.2.2.2.2.2.1) ?_)
    simp only [Act.put, List.setIfInBounds_toArray, List.set_cons_zero, List.set_cons_succ]
  all_goals
    first
      | (refine Calm.skip ?_ ?_; focus rfl)
      | (refine Calm.loadT (by rfl) _ rfl rfl (fun _ h => by go_split_ands; assumption) ?_)
    simp only [Act.put, List.setIfInBounds_toArray, List.set_cons_zero, List.set_cons_succ]
  all_goals
    first
      | (refine Calm.skip ?_ ?_; focus rfl)
      | (refine Calm.loadT (by rfl) _ rfl rfl (fun _ h => by go_split_ands; assumption) ?_)
    simp only [Act.put, List.setIfInBounds_toArray, List.set_cons_zero, List.set_cons_succ]
  all_goals
    first
      | (refine Calm.skip ?_ ?_; focus rfl)
      | (refine Calm.call2s (by rfl) rfl rfl rfl (by kernel_rfl) hs (fun w1 h => rQ2 w1 h.2.2.2.2.2.2.1 h.2.2.2.2.2.2.2.1) ?_)
    simp only [Act.put, List.setIfInBounds_toArray, List.set_cons_zero, List.set_cons_succ]
  all_goals
    first
      | (refine Calm.skip ?_ ?_; focus rfl)
      | (refine Calm.pure (v := ?_) (by rfl) ?_ ?_
         rotate_left
         focus (intro w hSw; go_simp <;> rfl))
    simp only [Act.put, List.setIfInBounds_toArray, List.set_cons_zero, List.set_cons_succ]
  all_goals
    refine Calm.pure (v := ?_) (by rfl) ?_ ?_
    rotate_left
    focus (intro w hSw; go_simp <;> rfl)
    simp only [Act.put, List.setIfInBounds_toArray, List.set_cons_zero, List.set_cons_succ]
  all_goals
    refine Calm.pure (v := ?_) (by rfl) ?_ ?_
    rotate_left
    focus (intro w hSw; go_simp <;> rfl)
    simp only [Act.put, List.setIfInBounds_toArray, List.set_cons_zero, List.set_cons_succ]
  all_goals
    first
      | (refine Calm.skip ?_ ?_; focus rfl)
      | (refine Calm.loadT (by rfl) _ rfl rfl (fun _ h => by go_split_ands; assumption) ?_)
    simp only [Act.put, List.setIfInBounds_toArray, List.set_cons_zero, List.set_cons_succ]
  all_goals
    first
      | (refine Calm.skip ?_ ?_; focus rfl)
      | (refine Calm.pure (v := ?_) (by rfl) ?_ ?_
         rotate_left
         focus (intro w hSw; go_simp <;> rfl))
    simp only [Act.put, List.setIfInBounds_toArray, List.set_cons_zero, List.set_cons_succ]
  all_goals
    first
      | (refine Calm.skip ?_ ?_; focus rfl)
      | (refine Calm.call2s (by rfl) rfl rfl rfl (by kernel_rfl) hs (fun w1 h => rV w1 h.2.2.2.2.2.2.1) ?_)
    simp only [Act.put, List.setIfInBounds_toArray, List.set_cons_zero, List.set_cons_succ]
  all_goals
    first
      | (refine Calm.skip ?_ ?_; focus rfl)
      | (refine Calm.loadT (by rfl) _ rfl rfl (fun _ h => by go_split_ands; assumption) ?_)
    simp only [Act.put, List.setIfInBounds_toArray, List.set_cons_zero, List.set_cons_succ]
  all_goals
    first
      | (refine Calm.skip ?_ ?_; focus rfl)
      | (refine Calm.pure (v := ?_) (by rfl) ?_ ?_
         rotate_left
         focus (intro w hSw; go_simp <;> rfl))
    simp only [Act.put, List.setIfInBounds_toArray, List.set_cons_zero, List.set_cons_succ]
  all_goals
    first
      | (refine Calm.skip ?_ ?_; focus rfl)
      | (refine Calm.call2s (by rfl) rfl rfl rfl (by kernel_rfl) hs (fun w1 h => rV2 w1 h.2.2.2.2.2.2.1) ?_)
    simp only [Act.put, List.setIfInBounds_toArray, List.set_cons_zero, List.set_cons_succ]
  all_goals
    first
      | (refine Calm.skip ?_ ?_; focus rfl)
      | (refine Calm.pure (v := ?_) (by rfl) ?_ ?_
         rotate_left
         focus (intro w hSw; go_simp <;> rfl))
    simp only [Act.put, List.setIfInBounds_toArray, List.set_cons_zero, List.set_cons_succ]
  all_goals
    refine Calm.pure (v := ?_) (by rfl) ?_ ?_
    rotate_left
    focus (intro w hSw; go_simp <;> rfl)
    simp only [Act.put, List.setIfInBounds_toArray, List.set_cons_zero, List.set_cons_succ]
  all_goals
    refine Calm.pure (v := ?_) (by rfl) ?_ ?_
    rotate_left
    focus (intro w hSw; go_simp <;> rfl)
    simp only [Act.put, List.setIfInBounds_toArray, List.set_cons_zero, List.set_cons_succ]
  all_goals
    first
      | (refine Calm.skip ?_ ?_; focus rfl)
      | (refine Calm.loadT (by rfl) _ rfl rfl (fun _ h => by go_split_ands; assumption) ?_)
    simp only [Act.put, List.setIfInBounds_toArray, List.set_cons_zero, List.set_cons_succ]
  all_goals
    first
      | (refine Calm.skip ?_ ?_; focus rfl)
      | (refine Calm.call1s (by rfl) rfl rfl (by kernel_rfl) hs (fun w1 h => rLo w1 h.2.2.2.2.2.2.1) ?_)
    simp only [Act.put, List.setIfInBounds_toArray, List.set_cons_zero, List.set_cons_succ]
  all_goals
    first
      | (refine Calm.skip ?_ ?_; focus rfl)
      | (refine Calm.loadT (by rfl) _ rfl rfl (fun _ h => by go_split_ands; assumption) ?_)
    simp only [Act.put, List.setIfInBounds_toArray, List.set_cons_zero, List.set_cons_succ]
  all_goals
    first
      | (refine Calm.skip ?_ ?_; focus rfl)
      | (refine Calm.call1s (by rfl) rfl rfl (by kernel_rfl) hs (fun w1 h => rLo2 w1 h.2.2.2.2.2.2.1) ?_)
    simp only [Act.put, List.setIfInBounds_toArray, List.set_cons_zero, List.set_cons_succ]
  all_goals
    first
      | (refine Calm.skip ?_ ?_; focus rfl)
      | (refine Calm.pure (v := ?_) (by rfl) ?_ ?_
         rotate_left
         focus (intro w hSw; go_simp <;> rfl))
    simp only [Act.put, List.setIfInBounds_toArray, List.set_cons_zero, List.set_cons_succ]
  all_goals
    refine Calm.pure (v := ?_) (by rfl) ?_ ?_
    rotate_left
    focus (intro w hSw; go_simp <;> rfl)
    simp only [Act.put, List.setIfInBounds_toArray, List.set_cons_zero, List.set_cons_succ]
  all_goals
    refine Calm.pure (v := ?_) (by rfl) ?_ ?_
    rotate_left
    focus (intro w hSw; go_simp <;> rfl)
    simp only [Act.put, List.setIfInBounds_toArray, List.set_cons_zero, List.set_cons_succ]
  all_goals
    first
      | (refine Calm.skip ?_ ?_; focus rfl)
      | (refine Calm.loadT (by rfl) _ rfl rfl (fun _ h => by go_split_ands; assumption) ?_)
    simp only [Act.put, List.setIfInBounds_toArray, List.set_cons_zero, List.set_cons_succ]
  all_goals
    first
      | (refine Calm.skip ?_ ?_; focus rfl)
      | (refine Calm.call1s (by rfl) rfl rfl (by kernel_rfl) hs (fun w1 h => rHi w1 h.2.2.2.2.2.2.1) ?_)
    simp only [Act.put, List.setIfInBounds_toArray, List.set_cons_zero, List.set_cons_succ]
  all_goals
    first
      | (refine Calm.skip ?_ ?_; focus rfl)
      | (refine Calm.loadT (by rfl) _ rfl rfl (fun _ h => by go_split_ands; assumption) ?_)
    simp only [Act.put, List.setIfInBounds_toArray, List.set_cons_zero, List.set_cons_succ]
  all_goals
    first
      | (refine Calm.skip ?_ ?_; focus rfl)
      | (refine Calm.call1s (by rfl) rfl rfl (by kernel_rfl) hs (fun w1 h => rHi2 w1 h.2.2.2.2.2.2.1) ?_)
    simp only [Act.put, List.setIfInBounds_toArray, List.set_cons_zero, List.set_cons_succ]
  all_goals
    first
      | (refine Calm.skip ?_ ?_; focus rfl)
      | (refine Calm.pure (v := ?_) (by rfl) ?_ ?_
         rotate_left
         focus (intro w hSw; go_simp <;> rfl))
    simp only [Act.put, List.setIfInBounds_toArray, List.set_cons_zero, List.set_cons_succ]
  all_goals
    refine Calm.pure (v := ?_) (by rfl) ?_ ?_
    rotate_left
    focus (intro w hSw; go_simp <;> rfl)
    simp only [Act.put, List.setIfInBounds_toArray, List.set_cons_zero, List.set_cons_succ]
  all_goals
    refine Calm.pure (v := ?_) (by rfl) ?_ ?_
    rotate_left
    focus (intro w hSw; go_simp <;> rfl)
    simp only [Act.put, List.setIfInBounds_toArray, List.set_cons_zero, List.set_cons_succ]
  all_goals
    first
      | (refine Calm.skip ?_ ?_; focus rfl)
      | (refine Calm.call0 (by rfl) rfl (by kernel_rfl) hs heads_any ?_)
    simp only [Act.put, List.setIfInBounds_toArray, List.set_cons_zero, List.set_cons_succ]
  all_goals
    refine Calm.pure (v := ?_) (by rfl) ?_ ?_
    rotate_left
    focus (intro w hSw; go_simp <;> rfl)
    simp only [Act.put, List.setIfInBounds_toArray, List.set_cons_zero, List.set_cons_succ]
  all_goals
    refine Calm.pure (v := ?_) (by rfl) ?_ ?_
    rotate_left
    focus (intro w hSw; go_simp <;> rfl)
    simp only [Act.put, List.setIfInBounds_toArray, List.set_cons_zero, List.set_cons_succ]
  all_goals
    rintro w9 ⟨_, _, _, _, _, _, _, _, _, _, _, _, hbel9⟩
    go_wp2
    go_ret
    exact ⟨rfl, hbel9⟩
end Go.Proofs.Ytlfbabepbajcjaa
