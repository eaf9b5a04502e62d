/- The walk of IdtreeSums. -/
import Derived.Test.YtdbkjafjanhhbaaRefCheck
import Derived.Test.YtdbkjafjanhhbaaSplitsBad
namespace Go.Proofs.Ytdbkjafjanhhbaa
open Go.RowKit


/-- Behind the tests: the sum, and what is told of it. -/
structure GoodSum (m : Int) (a b d s : ID) (oa ob os ka kb ks : Bool) : Prop where
  k : ok s = true
  eos : ownsT (toTr s) m = os
  eoa : ownsT (toTr a) m = oa
  eob : ownsT (toTr b) m = ob
  eks : (sumE (toTr s) (toTr d) == 0) = ks
  eka : (sumE (toTr a) (toTr d) == 0) = ka
  ekb : (sumE (toTr b) (toTr d) == 0) = kb
  eor : (oa || ob) = os
  eand : (oa && ob) = false
  eap : (ka && kb) = ks

theorem goodSum (m : Int) (a b d s : ID) (ha : ok a = true) (hb : ok b = true) (hd : ok d = true) (hu : unite a b = some s) :
    GoodSum m a b d s (ownsT (toTr a) m) (ownsT (toTr b) m) (ownsT (toTr s) m) (sumE (toTr a) (toTr d) == 0) (sumE (toTr b) (toTr d) == 0) (sumE (toTr s) (toTr d) == 0) := by
  obtain ⟨da, sa⟩ := ok_parts ha
  obtain ⟨db, sb⟩ := ok_parts hb
  obtain ⟨_, sd⟩ := ok_parts hd
  have hs : ok s = true := ok_of (Nat.le_trans (depth_unite a b s hu) (by omega)) (short_unite a b s sa sb hu)
  have hh := has_unite a b s 16 m.toNat hu
  have e0 : ∀ x, ok x = true → (sumE (toTr x) (toTr d) == 0) = ap x d := fun x hx => by
    rw [sumE_ok hx hd, ap]
    cases unite x d <;> rfl
  refine ⟨hs, rfl, rfl, rfl, rfl, rfl, rfl, ?_, ?_, ?_⟩
  · rw [ownsT_ok ha, ownsT_ok hb, ownsT_ok hs, hh.1]
    cases decide (0 ≤ m ∧ m < 65536) <;> simp
  · rw [ownsT_ok ha, ownsT_ok hb]
    cases decide (0 ≤ m ∧ m < 65536)
    · simp
    · simpa using hh.2
  · rw [e0 a ha, e0 b hb, e0 s hs, ap_unite a b s d sa sb sd hu]

set_option maxHeartbeats 8000000 in
set_option maxRecDepth 100000 in
theorem sums_any (t u v : Tr) (m : Int) (na : Int) (pa : Option Addr) (la ca : Nat) (nb : Int) (pb : Option Addr) (lb cb : Nat) (nc : Int) (pc : Option Addr) (lc cc : Nat) (w : World)
    (ht : Lies w t (TV na pa la ca)) (hu : Lies w u (TV nb pb lb cb)) (hv : Lies w v (TV nc pc lc cc)) :
    Calls Try.prog 5 #[TV na pa la ca, TV nb pb lb cb, TV nc pc lc cc, .int .i64 m] w fun e w' => e = .returned (.bool true) ∧ Below w.heap.size w w' := by
  obtain ⟨h1, h2, h3, hbel⟩ := three_box w na pa la ca nb pb lb cb nc pc lc cc _ rfl
  have rF1 := fun w1 (hb : Below w.heap.size w w1) => few_any t na pa la ca w1 (ht.later hb)
  have rF2 := fun w1 (hb : Below w.heap.size w w1) => few_any u nb pb lb cb w1 (hu.later hb)
  have rF3 := fun w1 (hb : Below w.heap.size w w1) => few_any v nc pc lc cc w1 (hv.later hb)
  have rC1 := fun w1 (hb : Below w.heap.size w w1) => refCheck_tr t na pa la ca w1 (ht.later hb)
  have rC2 := fun w1 (hb : Below w.heap.size w w1) => refCheck_tr u nb pb lb cb w1 (hu.later hb)
  have rC3 := fun w1 (hb : Below w.heap.size w w1) => refCheck_tr v nc pc lc cc w1 (hv.later hb)
  have rS := fun w1 (hb : Below w.heap.size w w1) => sum_tr t u na pa la ca nb pb lb cb w1 (ht.later hb) (hu.later hb)
  have HL : Hid (Lies w t (TV na pa la ca) ∧ Lies w u (TV nb pb lb cb) ∧ Lies w v (TV nc pc lc cc)) := ⟨ht, hu, hv⟩
  clear ht hu hv
  have HT : Hid (okT t = okT t) := rfl
  obtain ⟨k1, HK1⟩ : ∃ k, Hid (okT t = k) := ⟨_, rfl⟩
  obtain ⟨k2, HK2⟩ : ∃ k, Hid (okT u = k) := ⟨_, rfl⟩
  obtain ⟨k3, HK3⟩ : ∃ k, Hid (okT v = k) := ⟨_, rfl⟩
  rw [HK1.out] at rC1
  rw [HK2.out] at rC2
  rw [HK3.out] at rC3
  clear HT
  go_enter Try.func5, Try.ntmps5
  go_wp2_with (refine load_t _ rfl rfl _ _ rfl h1.tat ?_)
  refine (rF1 _ hbel).mono ?_
  rintro e w1 ⟨few1, rfl, hb1⟩
  replace h1 := h1.later hb1
  replace h2 := h2.later hb1
  replace h3 := h3.later hb1
  replace hbel := below_on hbel hb1
  clear hb1
  cases few1
  · clear rF1 rF2 rF3 rC1 rC2 rC3 rS h1 h2 h3
    go_wp2_with fail
    refine (heads_any _).mono ?_
    rintro e w9 ⟨rfl, hb1⟩
    go_wp2
    go_ret
    exact ⟨rfl, below_on hbel hb1⟩
  · go_wp2_with (refine load_t _ rfl rfl _ _ rfl h2.tat ?_)
    refine (rF2 _ hbel).mono ?_
    rintro e w2 ⟨few2, rfl, hb1⟩
    replace h1 := h1.later hb1
    replace h2 := h2.later hb1
    replace h3 := h3.later hb1
    replace hbel := below_on hbel hb1
    clear hb1
    cases few2
    · clear rF1 rF2 rF3 rC1 rC2 rC3 rS h1 h2 h3
      go_wp2_with fail
      refine (heads_any _).mono ?_
      rintro e w9 ⟨rfl, hb1⟩
      go_wp2
      go_ret
      exact ⟨rfl, below_on hbel hb1⟩
    · go_wp2_with (refine load_t _ rfl rfl _ _ rfl h3.tat ?_)
      refine (rF3 _ hbel).mono ?_
      rintro e w3 ⟨few3, rfl, hb1⟩
      replace h1 := h1.later hb1
      replace h2 := h2.later hb1
      replace h3 := h3.later hb1
      replace hbel := below_on hbel hb1
      clear hb1
      cases few3
      · clear rF1 rF2 rF3 rC1 rC2 rC3 rS h1 h2 h3
        go_wp2_with fail
        refine (heads_any _).mono ?_
        rintro e w9 ⟨rfl, hb1⟩
        go_wp2
        go_ret
        exact ⟨rfl, below_on hbel hb1⟩
      · go_wp2_with (refine load_t _ rfl rfl _ _ rfl h1.tat ?_)
        refine (rC1 _ hbel).mono ?_
        rintro e w4 ⟨rfl, hb1⟩
        replace h1 := h1.later hb1
        replace h2 := h2.later hb1
        replace h3 := h3.later hb1
        replace hbel := below_on hbel hb1
        clear hb1
        cases k1
        · clear rF1 rF2 rF3 rC1 rC2 rC3 rS h1 h2 h3
          go_wp2_with fail
          refine (heads_any _).mono ?_
          rintro e w9 ⟨rfl, hb1⟩
          go_wp2
          go_ret
          exact ⟨rfl, below_on hbel hb1⟩
        · go_wp2_with (refine load_t _ rfl rfl _ _ rfl h2.tat ?_)
          refine (rC2 _ hbel).mono ?_
          rintro e w5 ⟨rfl, hb1⟩
          replace h1 := h1.later hb1
          replace h2 := h2.later hb1
          replace h3 := h3.later hb1
          replace hbel := below_on hbel hb1
          clear hb1
          cases k2
          · clear rF1 rF2 rF3 rC1 rC2 rC3 rS h1 h2 h3
            go_wp2_with fail
            refine (heads_any _).mono ?_
            rintro e w9 ⟨rfl, hb1⟩
            go_wp2
            go_ret
            exact ⟨rfl, below_on hbel hb1⟩
          · go_wp2_with (refine load_t _ rfl rfl _ _ rfl h3.tat ?_)
            refine (rC3 _ hbel).mono ?_
            rintro e w6 ⟨rfl, hb1⟩
            replace h1 := h1.later hb1
            replace h2 := h2.later hb1
            replace h3 := h3.later hb1
            replace hbel := below_on hbel hb1
            clear hb1
            cases k3
            · clear rF1 rF2 rF3 rC1 rC2 rC3 rS h1 h2 h3
              go_wp2_with fail
              refine (heads_any _).mono ?_
              rintro e w9 ⟨rfl, hb1⟩
              go_wp2
              go_ret
              exact ⟨rfl, below_on hbel hb1⟩
            · go_wp2_with (first | refine load_t _ rfl rfl _ _ rfl h1.tat ?_ | refine load_t _ rfl rfl _ _ rfl h2.tat ?_)
              clear rF1 rF2 rF3 rC1 rC2 rC3
              obtain ⟨ht, hu, hv⟩ := HL.out
              have ha := okT_ok ht HK1.out
              have hb := okT_ok hu HK2.out
              have hd := okT_ok hv HK3.out
              have eX : sumX t u = uT (unite (idOf t) (idOf u)) := by rw [sumX, HK1.out, HK2.out]; rfl
              have eE : sumE t u = uE (unite (idOf t) (idOf u)) := by rw [sumE, HK1.out, HK2.out]; rfl
              rw [eX, eE] at rS
              have ia := is_ok ht HK1.out
              have ib := is_ok hu HK2.out
              have ic := is_ok hv HK3.out
              clear ht hu hv HL HK1 HK2 HK3 eX eE
              generalize idOf t = a at ha ia rS
              generalize idOf u = b at hb ib rS
              generalize idOf v = d at hd ic
              cases hz : unite a b with
              | none =>
                rw [hz, show uE none = 42 from rfl] at rS
                clear hz ha hb hd ia ib ic
                refine (rS _ hbel).mono ?_
                rintro e w7 ⟨ns, ps, ls, cs, rfl, is, hb1⟩
                replace hbel := below_on (below_on hbel hb1) (new_below w7 ns ps ls cs)
                clear hb1 rS is h1 h2 h3
                go_wp2_with (refine store_t rfl _ _ rfl _ ns ps ls cs rfl rfl (bx_new w7 0 none 0 0) ?_)
                refine (heads_any _).mono ?_
                rintro e w9 ⟨rfl, hb1⟩
                go_wp2
                go_ret
                exact ⟨rfl, below_on hbel hb1⟩
              | some s =>
                rw [hz, show uE (some s) = 0 from rfl, show uT (some s) = s from rfl] at rS
                have HG : Hid (GoodSum m a b d s _ _ _ _ _ _) := goodSum m a b d s ha hb hd hz
                clear hz ha hb hd
                generalize ownsT (toTr a) m = oa at HG
                generalize ownsT (toTr b) m = ob at HG
                generalize ownsT (toTr s) m = os at HG
                generalize (sumE (toTr a) (toTr d) == 0) = ka at HG
                generalize (sumE (toTr b) (toTr d) == 0) = kb at HG
                generalize (sumE (toTr s) (toTr d) == 0) = ks at HG
                refine (rS _ hbel).mono ?_
                rintro e w7 ⟨ns, ps, ls, cs, rfl, is, hb1⟩
                have m0 := bx_new w7 0 none 0 0
                have bs := new_box w7 ns ps ls cs
                have hbn := below_on hb1 (new_below w7 ns ps ls cs)
                replace is := is.later (new_below w7 ns ps ls cs)
                generalize hw : (w7.alloc (.cells #[.int .i64 0, .slice none 0 0] 24)).setRow w7.heap.size #[.int .i64 ns, .slice ps ls cs] = v7 at bs is hbn
                replace h1 := h1.later hbn
                replace h2 := h2.later hbn
                replace h3 := h3.later hbn
                replace hbel := below_on hbel hbn
                replace ia := ia.later hbel
                replace ib := ib.later hbel
                replace ic := ic.later hbel
                clear hb1 hbn rS
                go_wp2_with (first | rw [hw] | refine store_t rfl _ _ rfl _ ns ps ls cs rfl rfl m0 ?_)
                clear hw m0
                generalize w7.heap.size = q at bs ⊢
                have rK := fun w1 (h : Is w1 s (TV ns ps ls cs)) => check_any s ns ps ls cs w1 h
                rw [HG.out.k] at rK
                have rOs := fun w1 (h : Is w1 s (TV ns ps ls cs)) => owns_any s m ns ps ls cs w1 h
                have rOa := fun w1 (h : Is w1 a (TV na pa la ca)) => owns_any a m na pa la ca w1 h
                have rOb := fun w1 (h : Is w1 b (TV nb pb lb cb)) => owns_any b m nb pb lb cb w1 h
                rw [HG.out.eos] at rOs
                rw [HG.out.eoa] at rOa
                rw [HG.out.eob] at rOb
                have rPs := fun w1 (h : Is w1 s (TV ns ps ls cs)) (h' : Is w1 d (TV nc pc lc cc)) => apart_any s d ns ps ls cs nc pc lc cc w1 h h'
                have rPa := fun w1 (h : Is w1 a (TV na pa la ca)) (h' : Is w1 d (TV nc pc lc cc)) => apart_any a d na pa la ca nc pc lc cc w1 h h'
                have rPb := fun w1 (h : Is w1 b (TV nb pb lb cb)) (h' : Is w1 d (TV nc pc lc cc)) => apart_any b d nb pb lb cb nc pc lc cc w1 h h'
                rw [HG.out.eks] at rPs
                rw [HG.out.eka] at rPa
                rw [HG.out.ekb] at rPb
                have hor : (oa || ob) = os := HG.out.eor
                have hand : (oa && ob) = false := HG.out.eand
                have hap : (ka && kb) = ks := HG.out.eap
                clear HG
                have hs : Calm.Stays (fun w' => Tat w' w.heap.size 0 na pa la ca ∧ Tat w' (w.heap.size + 1) 0 nb pb lb cb ∧ Tat w' (w.heap.size + 1 + 1) 0 nc pc lc cc ∧ Tat w' q 0 ns ps ls cs ∧ Is w' a (TV na pa la ca) ∧ Is w' b (TV nb pb lb cb) ∧ Is w' d (TV nc pc lc cc) ∧ Is w' s (TV ns ps ls cs) ∧ Below w.heap.size w w') := fun wa wb h hb => ⟨h.1.later hb, h.2.1.later hb, h.2.2.1.later hb, h.2.2.2.1.later hb, h.2.2.2.2.1.later hb, h.2.2.2.2.2.1.later hb, h.2.2.2.2.2.2.1.later hb, h.2.2.2.2.2.2.2.1.later hb, below_on h.2.2.2.2.2.2.2.2 hb⟩
                refine Calm.region (by kernel_rfl) (by kernel_rfl) (fun w' => Tat w' w.heap.size 0 na pa la ca ∧ Tat w' (w.heap.size + 1) 0 nb pb lb cb ∧ Tat w' (w.heap.size + 1 + 1) 0 nc pc lc cc ∧ Tat w' q 0 ns ps ls cs ∧ Is w' a (TV na pa la ca) ∧ Is w' b (TV nb pb lb cb) ∧ Is w' d (TV nc pc lc cc) ∧ Is w' s (TV ns ps ls cs) ∧ Below w.heap.size w w')
                  ⟨h1.tat, h2.tat, h3.tat, bs.tat, ia.later (Below.refl _ _).drew, ib.later (Below.refl _ _).drew, ic.later (Below.refl _ _).drew, is.later (Below.refl _ _).drew, hbel.drew⟩ ?_
                clear h1 h2 h3 bs ia ib ic is hbel
                subst hor
                subst hap
                cases oa <;> cases ka
                all_goals first | (simp at hand; subst hand) | clear hand
                all_goals (try simp only [Bool.false_or, Bool.false_and, Bool.true_and, Bool.or_false] at rOs rPs)
                all_goals
                  refine Calm.loadT (by rfl) _ rfl rfl (fun _ h => by go_split_ands; assumption) ?_
                  simp only [Act.put, List.setIfInBounds_toArray, List.set_cons_zero, List.set_cons_succ]
                all_goals
                  refine Calm.call1s (by rfl) rfl rfl (by kernel_rfl) hs (fun w1 h => rK w1 h.2.2.2.2.2.2.2.1) ?_
                  simp only [Act.put, List.setIfInBounds_toArray, List.set_cons_zero, List.set_cons_succ]
                all_goals
                  refine Calm.pure (v := ?_) (by rfl) ?_ ?_
                  rotate_left
                  focus (intro w hSw; go_simp <;> rfl)
                  simp only [Act.put, List.setIfInBounds_toArray, List.set_cons_zero, List.set_cons_succ]
                all_goals
                  first
                    | (refine Calm.skip ?_ ?_; focus rfl)
                    | (refine Calm.loadT (by rfl) _ rfl rfl (fun _ h => by go_split_ands; assumption) ?_)
                  simp only [Act.put, List.setIfInBounds_toArray, List.set_cons_zero, List.set_cons_succ]
                all_goals
                  first
                    | (refine Calm.skip ?_ ?_; focus rfl)
                    | (refine Calm.pure (v := ?_) (by rfl) ?_ ?_
                       rotate_left
                       focus (intro w hSw; go_simp <;> rfl))
                  simp only [Act.put, List.setIfInBounds_toArray, List.set_cons_zero, List.set_cons_succ]
                all_goals
                  first
                    | (refine Calm.skip ?_ ?_; focus rfl)
                    | (refine Calm.call2s (by rfl) rfl rfl rfl (by kernel_rfl) hs (fun w1 h => rOs w1 h.2.2.2.2.2.2.2.1) ?_)
                  simp only [Act.put, List.setIfInBounds_toArray, List.set_cons_zero, List.set_cons_succ]
                all_goals
                  first
                    | (refine Calm.skip ?_ ?_; focus rfl)
                    | (refine Calm.loadT (by rfl) _ rfl rfl (fun _ h => by go_split_ands; assumption) ?_)
                  simp only [Act.put, List.setIfInBounds_toArray, List.set_cons_zero, List.set_cons_succ]
                all_goals
                  first
                    | (refine Calm.skip ?_ ?_; focus rfl)
                    | (refine Calm.pure (v := ?_) (by rfl) ?_ ?_
                       rotate_left
                       focus (intro w hSw; go_simp <;> rfl))
                  simp only [Act.put, List.setIfInBounds_toArray, List.set_cons_zero, List.set_cons_succ]
                all_goals
                  first
                    | (refine Calm.skip ?_ ?_; focus rfl)
                    | (refine Calm.call2s (by rfl) rfl rfl rfl (by kernel_rfl) hs (fun w1 h => rOa w1 h.2.2.2.2.1) ?_)
                  simp only [Act.put, List.setIfInBounds_toArray, List.set_cons_zero, List.set_cons_succ]
                all_goals
                  first
                    | (refine Calm.skip ?_ ?_; focus rfl)
                    | (refine Calm.pure (v := ?_) (by rfl) ?_ ?_
                       rotate_left
                       focus (intro w hSw; go_simp <;> rfl))
                  simp only [Act.put, List.setIfInBounds_toArray, List.set_cons_zero, List.set_cons_succ]
                all_goals
                  first
                    | (refine Calm.skip ?_ ?_; focus rfl)
                    | (refine Calm.loadT (by rfl) _ rfl rfl (fun _ h => by go_split_ands; assumption) ?_)
                  simp only [Act.put, List.setIfInBounds_toArray, List.set_cons_zero, List.set_cons_succ]
                all_goals
                  first
                    | (refine Calm.skip ?_ ?_; focus rfl)
                    | (refine Calm.pure (v := ?_) (by rfl) ?_ ?_
                       rotate_left
                       focus (intro w hSw; go_simp <;> rfl))
                  simp only [Act.put, List.setIfInBounds_toArray, List.set_cons_zero, List.set_cons_succ]
                all_goals
                  first
                    | (refine Calm.skip ?_ ?_; focus rfl)
                    | (refine Calm.call2s (by rfl) rfl rfl rfl (by kernel_rfl) hs (fun w1 h => rOb w1 h.2.2.2.2.2.1) ?_)
                  simp only [Act.put, List.setIfInBounds_toArray, List.set_cons_zero, List.set_cons_succ]
                all_goals
                  first
                    | (refine Calm.skip ?_ ?_; focus rfl)
                    | (refine Calm.pure (v := ?_) (by rfl) ?_ ?_
                       rotate_left
                       focus (intro w hSw; go_simp <;> rfl))
                  simp only [Act.put, List.setIfInBounds_toArray, List.set_cons_zero, List.set_cons_succ]
                all_goals
                  first
                    | (refine Calm.skip ?_ ?_; focus rfl)
                    | (refine Calm.pure (v := ?_) (by rfl) ?_ ?_
                       rotate_left
                       focus (intro w hSw; go_simp <;> rfl))
                  simp only [Act.put, List.setIfInBounds_toArray, List.set_cons_zero, List.set_cons_succ]
                all_goals
                  refine Calm.pure (v := ?_) (by rfl) ?_ ?_
                  rotate_left
                  focus (intro w hSw; go_simp <;> rfl)
                  simp only [Act.put, List.setIfInBounds_toArray, List.set_cons_zero, List.set_cons_succ]
                all_goals
                  refine Calm.pure (v := ?_) (by rfl) ?_ ?_
                  rotate_left
                  focus (intro w hSw; go_simp <;> rfl)
                  simp only [Act.put, List.setIfInBounds_toArray, List.set_cons_zero, List.set_cons_succ]
                all_goals
                  first
                    | (refine Calm.skip ?_ ?_; focus rfl)
                    | (refine Calm.loadT (by rfl) _ rfl rfl (fun _ h => by go_split_ands; assumption) ?_)
                  simp only [Act.put, List.setIfInBounds_toArray, List.set_cons_zero, List.set_cons_succ]
                all_goals
                  first
                    | (refine Calm.skip ?_ ?_; focus rfl)
                    | (refine Calm.pure (v := ?_) (by rfl) ?_ ?_
                       rotate_left
                       focus (intro w hSw; go_simp <;> rfl))
                  simp only [Act.put, List.setIfInBounds_toArray, List.set_cons_zero, List.set_cons_succ]
                all_goals
                  first
                    | (refine Calm.skip ?_ ?_; focus rfl)
                    | (refine Calm.call2s (by rfl) rfl rfl rfl (by kernel_rfl) hs (fun w1 h => rOa w1 h.2.2.2.2.1) ?_)
                  simp only [Act.put, List.setIfInBounds_toArray, List.set_cons_zero, List.set_cons_succ]
                all_goals
                  first
                    | (refine Calm.skip ?_ ?_; focus rfl)
                    | (refine Calm.pure (v := ?_) (by rfl) ?_ ?_
                       rotate_left
                       focus (intro w hSw; go_simp <;> rfl))
                  simp only [Act.put, List.setIfInBounds_toArray, List.set_cons_zero, List.set_cons_succ]
                all_goals
                  first
                    | (refine Calm.skip ?_ ?_; focus rfl)
                    | (refine Calm.loadT (by rfl) _ rfl rfl (fun _ h => by go_split_ands; assumption) ?_)
                  simp only [Act.put, List.setIfInBounds_toArray, List.set_cons_zero, List.set_cons_succ]
                all_goals
                  first
                    | (refine Calm.skip ?_ ?_; focus rfl)
                    | (refine Calm.pure (v := ?_) (by rfl) ?_ ?_
                       rotate_left
                       focus (intro w hSw; go_simp <;> rfl))
                  simp only [Act.put, List.setIfInBounds_toArray, List.set_cons_zero, List.set_cons_succ]
                all_goals
                  first
                    | (refine Calm.skip ?_ ?_; focus rfl)
                    | (refine Calm.call2s (by rfl) rfl rfl rfl (by kernel_rfl) hs (fun w1 h => rOb w1 h.2.2.2.2.2.1) ?_)
                  simp only [Act.put, List.setIfInBounds_toArray, List.set_cons_zero, List.set_cons_succ]
                all_goals
                  first
                    | (refine Calm.skip ?_ ?_; focus rfl)
                    | (refine Calm.pure (v := ?_) (by rfl) ?_ ?_
                       rotate_left
                       focus (intro w hSw; go_simp <;> rfl))
                  simp only [Act.put, List.setIfInBounds_toArray, List.set_cons_zero, List.set_cons_succ]
                all_goals
                  first
                    | (refine Calm.skip ?_ ?_; focus rfl)
                    | (refine Calm.pure (v := ?_) (by rfl) ?_ ?_
                       rotate_left
                       focus (intro w hSw; go_simp <;> rfl))
                  simp only [Act.put, List.setIfInBounds_toArray, List.set_cons_zero, List.set_cons_succ]
                all_goals
                  refine Calm.pure (v := ?_) (by rfl) ?_ ?_
                  rotate_left
                  focus (intro w hSw; go_simp <;> rfl)
                  simp only [Act.put, List.setIfInBounds_toArray, List.set_cons_zero, List.set_cons_succ]
                all_goals
                  refine Calm.pure (v := ?_) (by rfl) ?_ ?_
                  rotate_left
                  focus (intro w hSw; go_simp <;> rfl)
                  simp only [Act.put, List.setIfInBounds_toArray, List.set_cons_zero, List.set_cons_succ]
                all_goals
                  first
                    | (refine Calm.skip ?_ ?_; focus rfl)
                    | (refine Calm.loadT (by rfl) _ rfl rfl (fun _ h => by go_split_ands; assumption) ?_)
                  simp only [Act.put, List.setIfInBounds_toArray, List.set_cons_zero, List.set_cons_succ]
                all_goals
                  first
                    | (refine Calm.skip ?_ ?_; focus rfl)
                    | (refine Calm.loadT (by rfl) _ rfl rfl (fun _ h => by go_split_ands; assumption) ?_)
                  simp only [Act.put, List.setIfInBounds_toArray, List.set_cons_zero, List.set_cons_succ]
                all_goals
                  first
                    | (refine Calm.skip ?_ ?_; focus rfl)
                    | (refine Calm.call2s (by rfl) rfl rfl rfl (by kernel_rfl) hs (fun w1 h => rPs w1 h.2.2.2.2.2.2.2.1 h.2.2.2.2.2.2.1) ?_)
                  simp only [Act.put, List.setIfInBounds_toArray, List.set_cons_zero, List.set_cons_succ]
                all_goals
                  first
                    | (refine Calm.skip ?_ ?_; focus rfl)
                    | (refine Calm.loadT (by rfl) _ rfl rfl (fun _ h => by go_split_ands; assumption) ?_)
                  simp only [Act.put, List.setIfInBounds_toArray, List.set_cons_zero, List.set_cons_succ]
                all_goals
                  first
                    | (refine Calm.skip ?_ ?_; focus rfl)
                    | (refine Calm.loadT (by rfl) _ rfl rfl (fun _ h => by go_split_ands; assumption) ?_)
                  simp only [Act.put, List.setIfInBounds_toArray, List.set_cons_zero, List.set_cons_succ]
                all_goals
                  first
                    | (refine Calm.skip ?_ ?_; focus rfl)
                    | (refine Calm.call2s (by rfl) rfl rfl rfl (by kernel_rfl) hs (fun w1 h => rPa w1 h.2.2.2.2.1 h.2.2.2.2.2.2.1) ?_)
                  simp only [Act.put, List.setIfInBounds_toArray, List.set_cons_zero, List.set_cons_succ]
                all_goals
                  first
                    | (refine Calm.skip ?_ ?_; focus rfl)
                    | (refine Calm.pure (v := ?_) (by rfl) ?_ ?_
                       rotate_left
                       focus (intro w hSw; go_simp <;> rfl))
                  simp only [Act.put, List.setIfInBounds_toArray, List.set_cons_zero, List.set_cons_succ]
                all_goals
                  first
                    | (refine Calm.skip ?_ ?_; focus rfl)
                    | (refine Calm.loadT (by rfl) _ rfl rfl (fun _ h => by go_split_ands; assumption) ?_)
                  simp only [Act.put, List.setIfInBounds_toArray, List.set_cons_zero, List.set_cons_succ]
                all_goals
                  first
                    | (refine Calm.skip ?_ ?_; focus rfl)
                    | (refine Calm.loadT (by rfl) _ rfl rfl (fun _ h => by go_split_ands; assumption) ?_)
                  simp only [Act.put, List.setIfInBounds_toArray, List.set_cons_zero, List.set_cons_succ]
                all_goals
                  first
                    | (refine Calm.skip ?_ ?_; focus rfl)
                    | (refine Calm.call2s (by rfl) rfl rfl rfl (by kernel_rfl) hs (fun w1 h => rPb w1 h.2.2.2.2.2.1 h.2.2.2.2.2.2.1) ?_)
                  simp only [Act.put, List.setIfInBounds_toArray, List.set_cons_zero, List.set_cons_succ]
                all_goals
                  first
                    | (refine Calm.skip ?_ ?_; focus rfl)
                    | (refine Calm.pure (v := ?_) (by rfl) ?_ ?_
                       rotate_left
                       focus (intro w hSw; go_simp <;> rfl))
                  simp only [Act.put, List.setIfInBounds_toArray, List.set_cons_zero, List.set_cons_succ]
                all_goals
                  first
                    | (refine Calm.skip ?_ ?_; focus rfl)
                    | (refine Calm.pure (v := ?_) (by rfl) ?_ ?_
                       rotate_left
                       focus (intro w hSw; go_simp <;> rfl))
                  simp only [Act.put, List.setIfInBounds_toArray, List.set_cons_zero, List.set_cons_succ]
                all_goals
                  refine Calm.pure (v := ?_) (by rfl) ?_ ?_
                  rotate_left
                  focus (intro w hSw; go_simp <;> rfl)
                  simp only [Act.put, List.setIfInBounds_toArray, List.set_cons_zero, List.set_cons_succ]
                all_goals
                  refine Calm.pure (v := ?_) (by rfl) ?_ ?_
                  rotate_left
                  focus (intro w hSw; go_simp <;> rfl)
                  simp only [Act.put, List.setIfInBounds_toArray, List.set_cons_zero, List.set_cons_succ]
                all_goals
                  first
                    | (refine Calm.skip ?_ ?_; focus rfl)
                    | (refine Calm.call0 (by rfl) rfl (by kernel_rfl) hs heads_any ?_)
                  simp only [Act.put, List.setIfInBounds_toArray, List.set_cons_zero, List.set_cons_succ]
                all_goals
                  refine Calm.pure (v := ?_) (by rfl) ?_ ?_
                  rotate_left
                  focus (intro w hSw; go_simp <;> rfl)
                  simp only [Act.put, List.setIfInBounds_toArray, List.set_cons_zero, List.set_cons_succ]
                all_goals
                  refine Calm.pure (v := ?_) (by rfl) ?_ ?_
                  rotate_left
                  focus (intro w hSw; go_simp <;> rfl)
                  simp only [Act.put, List.setIfInBounds_toArray, List.set_cons_zero, List.set_cons_succ]
                all_goals
                  rintro w9 h
                  have hbel9 := h.2.2.2.2.2.2.2.2
                  clear h
                  go_wp2
                  go_ret
                  exact ⟨rfl, hbel9⟩

end Go.Proofs.Ytdbkjafjanhhbaa
