/- The walk of EventsJoin. -/
import Derived.Test.YtlfbabepbajcjaaOrder
namespace Go.Proofs.Ytlfbabepbajcjaa
open Go.RowKit

theorem atX_join (a b : EV) (m : Int) : atX (join 16 a b) m = max (atX a m) (atX b m) := by
  unfold atX
  split
  · exact val_join 16 a b _
  · rfl

set_option maxHeartbeats 16000000 in
set_option maxRecDepth 100000 in
theorem joins_any (xa xb xc : Tr) (m : Int) (na : Int) (pa : Option Addr) (la ca : Nat) (nb : Int) (pb : Option Addr) (lb cb : Nat) (nc : Int) (pc : Option Addr) (lc cc : Nat) (w : World) (ta : Lies w xa (TV na pa la ca)) (tb : Lies w xb (TV nb pb lb cb)) (tc : Lies w xc (TV nc pc lc cc)) :
    Calls Try.prog 5 #[TV na pa la ca, TV nb pb lb cb, TV nc pc lc cc, .int .i64 m] w (Tells (.bool true) w) := by
  obtain ⟨b1, b2, b3, hbel⟩ := three_box w na pa la ca nb pb lb cb nc pc lc cc _ rfl
  replace ta := ta.later hbel
  replace tb := tb.later hbel
  replace tc := tc.later hbel
  have HA : Hid (okT xa = okT xa) := rfl
  have rKa := refCheck_tr xa na pa la ca
  have rKb := refCheck_tr xb nb pb lb cb
  have rKc := refCheck_tr xc nc pc lc cc
  clear HA
  obtain ⟨ka, HA⟩ : ∃ k, Hid (okT xa = k) := ⟨_, rfl⟩
  obtain ⟨kb, HB⟩ : ∃ k, Hid (okT xb = k) := ⟨_, rfl⟩
  obtain ⟨kc, HC⟩ : ∃ k, Hid (okT xc = k) := ⟨_, rfl⟩
  rw [HA.out] at rKa
  rw [HB.out] at rKb
  rw [HC.out] at rKc
  go_enter Try.func5, Try.ntmps5
  go_wp2_with (first | refine load_t _ rfl rfl _ _ rfl b1.tat ?_ | refine load_t _ rfl rfl _ _ rfl b2.tat ?_ | refine load_t _ rfl rfl _ _ rfl b3.tat ?_)
  refine (few_any xa na pa la ca _ ta).mono ?_
  rintro e w1 ⟨few, rfl, hb1⟩
  replace b1 := b1.later hb1
  replace b2 := b2.later hb1
  replace b3 := b3.later hb1
  replace ta := ta.later hb1
  replace tb := tb.later hb1
  replace tc := tc.later hb1
  replace hbel := below_on hbel hb1
  clear hb1
  cases few
  · clear rKa rKb rKc b1 b2 b3 ta tb tc HA HB HC
    go_wp2_with fail
    refine (heads_any _).mono ?_
    rintro e w9 ⟨rfl, hb1⟩
    go_wp2
    go_ret
    exact ⟨rfl, below_on hbel hb1⟩
  go_wp2_with (first | refine load_t _ rfl rfl _ _ rfl b1.tat ?_ | refine load_t _ rfl rfl _ _ rfl b2.tat ?_ | refine load_t _ rfl rfl _ _ rfl b3.tat ?_)
  refine (few_any xb nb pb lb cb _ tb).mono ?_
  rintro e w2 ⟨few, rfl, hb1⟩
  replace b1 := b1.later hb1
  replace b2 := b2.later hb1
  replace b3 := b3.later hb1
  replace ta := ta.later hb1
  replace tb := tb.later hb1
  replace tc := tc.later hb1
  replace hbel := below_on hbel hb1
  clear hb1
  cases few
  · clear rKa rKb rKc b1 b2 b3 ta tb tc HA HB HC
    go_wp2_with fail
    refine (heads_any _).mono ?_
    rintro e w9 ⟨rfl, hb1⟩
    go_wp2
    go_ret
    exact ⟨rfl, below_on hbel hb1⟩
  go_wp2_with (first | refine load_t _ rfl rfl _ _ rfl b1.tat ?_ | refine load_t _ rfl rfl _ _ rfl b2.tat ?_ | refine load_t _ rfl rfl _ _ rfl b3.tat ?_)
  refine (few_any xc nc pc lc cc _ tc).mono ?_
  rintro e w3 ⟨few, rfl, hb1⟩
  replace b1 := b1.later hb1
  replace b2 := b2.later hb1
  replace b3 := b3.later hb1
  replace ta := ta.later hb1
  replace tb := tb.later hb1
  replace tc := tc.later hb1
  replace hbel := below_on hbel hb1
  clear hb1
  cases few
  · clear rKa rKb rKc b1 b2 b3 ta tb tc HA HB HC
    go_wp2_with fail
    refine (heads_any _).mono ?_
    rintro e w9 ⟨rfl, hb1⟩
    go_wp2
    go_ret
    exact ⟨rfl, below_on hbel hb1⟩
  go_wp2_with (first | refine load_t _ rfl rfl _ _ rfl b1.tat ?_ | refine load_t _ rfl rfl _ _ rfl b2.tat ?_ | refine load_t _ rfl rfl _ _ rfl b3.tat ?_)
  refine (rKa _ ta).mono ?_
  rintro e w4 ⟨rfl, hb1⟩
  replace b1 := b1.later hb1
  replace b2 := b2.later hb1
  replace b3 := b3.later hb1
  replace ta := ta.later hb1
  replace tb := tb.later hb1
  replace tc := tc.later hb1
  replace hbel := below_on hbel hb1
  clear hb1
  cases ka
  · clear rKa rKb rKc b1 b2 b3 ta tb tc HA HB HC
    go_wp2_with fail
    refine (heads_any _).mono ?_
    rintro e w9 ⟨rfl, hb1⟩
    go_wp2
    go_ret
    exact ⟨rfl, below_on hbel hb1⟩
  go_wp2_with (first | refine load_t _ rfl rfl _ _ rfl b1.tat ?_ | refine load_t _ rfl rfl _ _ rfl b2.tat ?_ | refine load_t _ rfl rfl _ _ rfl b3.tat ?_)
  refine (rKb _ tb).mono ?_
  rintro e w5 ⟨rfl, hb1⟩
  replace b1 := b1.later hb1
  replace b2 := b2.later hb1
  replace b3 := b3.later hb1
  replace ta := ta.later hb1
  replace tb := tb.later hb1
  replace tc := tc.later hb1
  replace hbel := below_on hbel hb1
  clear hb1
  cases kb
  · clear rKa rKb rKc b1 b2 b3 ta tb tc HA HB HC
    go_wp2_with fail
    refine (heads_any _).mono ?_
    rintro e w9 ⟨rfl, hb1⟩
    go_wp2
    go_ret
    exact ⟨rfl, below_on hbel hb1⟩
  go_wp2_with (first | refine load_t _ rfl rfl _ _ rfl b1.tat ?_ | refine load_t _ rfl rfl _ _ rfl b2.tat ?_ | refine load_t _ rfl rfl _ _ rfl b3.tat ?_)
  refine (rKc _ tc).mono ?_
  rintro e w6 ⟨rfl, hb1⟩
  replace b1 := b1.later hb1
  replace b2 := b2.later hb1
  replace b3 := b3.later hb1
  replace ta := ta.later hb1
  replace tb := tb.later hb1
  replace tc := tc.later hb1
  replace hbel := below_on hbel hb1
  clear hb1
  cases kc
  · clear rKa rKb rKc b1 b2 b3 ta tb tc HA HB HC
    go_wp2_with fail
    refine (heads_any _).mono ?_
    rintro e w9 ⟨rfl, hb1⟩
    go_wp2
    go_ret
    exact ⟨rfl, below_on hbel hb1⟩
  obtain ⟨ia, oa⟩ := ok_of ta HA.out
  obtain ⟨ib, ob⟩ := ok_of tb HB.out
  obtain ⟨ic, oc⟩ := ok_of tc HC.out
  generalize evOf xa = a at ia oa
  generalize evOf xb = b at ib ob
  generalize evOf xc = c at ic oc
  have OA : Hid (ok a = true) := oa
  have OB : Hid (ok b = true) := ob
  have OC : Hid (ok c = true) := oc
  clear rKa rKb rKc HA HB HC ta tb tc oa ob oc
  have rJ1 := fun w1 (h : Is w1 a (TV na pa la ca)) (h' : Is w1 b (TV nb pb lb cb)) => join_any a b na pa la ca nb pb lb cb w1 h h' OA.out OB.out
  have rJ2 := fun w1 (h : Is w1 b (TV nb pb lb cb)) (h' : Is w1 a (TV na pa la ca)) => join_any b a nb pb lb cb na pa la ca w1 h h' OB.out OA.out
  rw [join_comm] at rJ2
  have OJ : Hid (ok (join 16 a b) = true) := by
    show _ = _
    rw [ok, rg_join (ok_parts OA.out).1 (ok_parts OB.out).1, short_join]
    rfl
  have rAC := fun w1 (h : Is w1 a (TV na pa la ca)) (h' : Is w1 c (TV nc pc lc cc)) => leq_any a c na pa la ca nc pc lc cc w1 h h' OA.out OC.out
  have rBC := fun w1 (h : Is w1 b (TV nb pb lb cb)) (h' : Is w1 c (TV nc pc lc cc)) => leq_any b c nb pb lb cb nc pc lc cc w1 h h' OB.out OC.out
  have rVa := fun w1 (h : Is w1 a (TV na pa la ca)) => at_any a m na pa la ca w1 h OA.out
  have rVb := fun w1 (h : Is w1 b (TV nb pb lb cb)) => at_any b m nb pb lb cb w1 h OB.out
  have HV : Hid (atX (join 16 a b) m = max (atX a m) (atX b m)) := atX_join a b m
  have HL : Hid (leq 16 (join 16 a b) c = (leq 16 a c && leq 16 b c)) := join_leq 16 a b c
  have HA : Hid (leq 16 a (join 16 a b) = true) := leq_join 16 a b
  have HB : Hid (leq 16 b (join 16 a b) = true) := by show _ = _; rw [join_comm]; exact leq_join 16 b a
  generalize join 16 a b = j at rJ1 rJ2 OJ HV HL HA HB
  go_wp2_with (first | refine load_t _ rfl rfl _ _ rfl b1.tat ?_ | refine load_t _ rfl rfl _ _ rfl b2.tat ?_ | refine load_t _ rfl rfl _ _ rfl b3.tat ?_)
  refine (rJ1 _ ia ib).mono ?_
  rintro e w7 ⟨nJ, pJ, lJ, cJ, rfl, iJ, hb1⟩
  replace b1 := b1.later hb1
  replace b2 := b2.later hb1
  replace b3 := b3.later hb1
  replace ia := ia.later hb1
  replace ib := ib.later hb1
  replace ic := ic.later hb1
  replace hbel := below_on hbel hb1
  clear hb1
  have m0 := bx_new w7 0 none 0 0
  have bJ := new_box w7 nJ pJ lJ cJ
  have hb1 := new_below w7 nJ pJ lJ cJ
  generalize hw : (w7.alloc (.cells #[.int .i64 0, .slice none 0 0] 24)).setRow w7.heap.size #[.int .i64 nJ, .slice pJ lJ cJ] = v7 at bJ hb1
  replace b1 := b1.later hb1
  replace b2 := b2.later hb1
  replace b3 := b3.later hb1
  replace ia := ia.later hb1
  replace ib := ib.later hb1
  replace ic := ic.later hb1
  replace iJ := iJ.later hb1
  replace hbel := below_on hbel hb1
  clear hb1
  go_wp2_with (first | rw [hw] | refine store_t rfl _ _ rfl _ nJ pJ lJ cJ rfl rfl m0 ?_ | refine load_t _ rfl rfl _ _ rfl b1.tat ?_ | refine load_t _ rfl rfl _ _ rfl b2.tat ?_ | refine load_t _ rfl rfl _ _ rfl b3.tat ?_ | refine load_t _ rfl rfl _ _ rfl bJ.tat ?_)
  clear m0 hw
  generalize w7.heap.size = qJ at bJ ⊢
  clear rJ1
  refine (rJ2 _ ib ia).mono ?_
  rintro e w8 ⟨nK, pK, lK, cK, rfl, iK, hb1⟩
  replace b1 := b1.later hb1
  replace b2 := b2.later hb1
  replace b3 := b3.later hb1
  replace ia := ia.later hb1
  replace ib := ib.later hb1
  replace ic := ic.later hb1
  replace iJ := iJ.later hb1
  replace bJ := bJ.later hb1
  replace hbel := below_on hbel hb1
  clear hb1
  have m0 := bx_new w8 0 none 0 0
  have bK := new_box w8 nK pK lK cK
  have hb1 := new_below w8 nK pK lK cK
  generalize hw : (w8.alloc (.cells #[.int .i64 0, .slice none 0 0] 24)).setRow w8.heap.size #[.int .i64 nK, .slice pK lK cK] = v8 at bK hb1
  replace b1 := b1.later hb1
  replace b2 := b2.later hb1
  replace b3 := b3.later hb1
  replace ia := ia.later hb1
  replace ib := ib.later hb1
  replace ic := ic.later hb1
  replace iJ := iJ.later hb1
  replace bJ := bJ.later hb1
  replace iK := iK.later hb1
  replace hbel := below_on hbel hb1
  clear hb1
  go_wp2_with (first | rw [hw] | refine store_t rfl _ _ rfl _ nK pK lK cK rfl rfl m0 ?_ | refine load_t _ rfl rfl _ _ rfl b1.tat ?_ | refine load_t _ rfl rfl _ _ rfl b2.tat ?_ | refine load_t _ rfl rfl _ _ rfl b3.tat ?_ | refine load_t _ rfl rfl _ _ rfl bJ.tat ?_ | refine load_t _ rfl rfl _ _ rfl bK.tat ?_)
  clear m0 hw
  generalize w8.heap.size = qK at bK ⊢
  clear rJ2
  have rS := fun w1 (h : Is w1 j (TV nJ pJ lJ cJ)) (h' : Is w1 j (TV nK pK lK cK)) => same_any j j nJ pJ lJ cJ nK pK lK cK w1 h h'
  rw [eqb_refl] at rS
  have rK := fun w1 (h : Is w1 j (TV nJ pJ lJ cJ)) => check_any j nJ pJ lJ cJ w1 h (ok_parts OJ.out).1
  rw [(ok_parts OJ.out).2] at rK
  have rAJ := fun w1 (h : Is w1 a (TV na pa la ca)) (h' : Is w1 j (TV nJ pJ lJ cJ)) => leq_any a j na pa la ca nJ pJ lJ cJ w1 h h' OA.out OJ.out
  rw [HA.out] at rAJ
  have rBJ := fun w1 (h : Is w1 b (TV nb pb lb cb)) (h' : Is w1 j (TV nJ pJ lJ cJ)) => leq_any b j nb pb lb cb nJ pJ lJ cJ w1 h h' OB.out OJ.out
  rw [HB.out] at rBJ
  have rJC := fun w1 (h : Is w1 j (TV nJ pJ lJ cJ)) (h' : Is w1 c (TV nc pc lc cc)) => leq_any j c nJ pJ lJ cJ nc pc lc cc w1 h h' OJ.out OC.out
  rw [HL.out] at rJC
  have rVj := fun w1 (h : Is w1 j (TV nJ pJ lJ cJ)) => at_any j m nJ pJ lJ cJ w1 h OJ.out
  rw [HV.out] at rVj
  clear OA OB OC OJ HV HL HA HB
  generalize leq 16 a c = lac at rAC rJC
  generalize leq 16 b c = lbc at rBC rJC
  generalize atX a m = va at rVa rVj
  generalize atX b m = vb at rVb rVj
  obtain ⟨vj, HJ⟩ : ∃ v, Hid (max va vb = v) := ⟨_, rfl⟩
  rw [HJ.out] at rVj
  have hs : Calm.Stays (fun w' => Tat w' w.heap.size 0 na pa la ca ∧ Tat w' (w.heap.size + 1) 0 nb pb lb cb ∧ Tat w' (w.heap.size + 1 + 1) 0 nc pc lc cc ∧ Tat w' qJ 0 nJ pJ lJ cJ ∧ Tat w' qK 0 nK pK lK cK ∧ Is w' a (TV na pa la ca) ∧ Is w' b (TV nb pb lb cb) ∧ Is w' c (TV nc pc lc cc) ∧ Is w' j (TV nJ pJ lJ cJ) ∧ Is w' j (TV nK pK lK cK) ∧ Below w.heap.size w w') := fun wa wb h hb => ⟨h.1.later hb, h.2.1.later hb, h.2.2.1.later hb, h.2.2.2.1.later hb, h.2.2.2.2.1.later hb, h.2.2.2.2.2.1.later hb, h.2.2.2.2.2.2.1.later hb, h.2.2.2.2.2.2.2.1.later hb, h.2.2.2.2.2.2.2.2.1.later hb, h.2.2.2.2.2.2.2.2.2.1.later hb, below_on h.2.2.2.2.2.2.2.2.2.2 hb⟩
  refine Calm.region (by kernel_rfl) (by kernel_rfl) (fun w' => Tat w' w.heap.size 0 na pa la ca ∧ Tat w' (w.heap.size + 1) 0 nb pb lb cb ∧ Tat w' (w.heap.size + 1 + 1) 0 nc pc lc cc ∧ Tat w' qJ 0 nJ pJ lJ cJ ∧ Tat w' qK 0 nK pK lK cK ∧ Is w' a (TV na pa la ca) ∧ Is w' b (TV nb pb lb cb) ∧ Is w' c (TV nc pc lc cc) ∧ Is w' j (TV nJ pJ lJ cJ) ∧ Is w' j (TV nK pK lK cK) ∧ Below w.heap.size w w') ⟨b1.tat, b2.tat, b3.tat, bJ.tat, bK.tat, ia.later (Below.refl _ _).drew, ib.later (Below.refl _ _).drew, ic.later (Below.refl _ _).drew, iJ.later (Below.refl _ _).drew, iK.later (Below.refl _ _).drew, hbel.drew⟩ ?_
  clear b1 b2 b3 bJ bK ia ib ic iJ iK hbel
  cases lac
  case' true => cases lbc
  all_goals
    rcases (show (va < vb ∧ vb = vj) ∨ (¬ va < vb ∧ va = vj) by have := HJ.out; omega) with ⟨hlt, rfl⟩ | ⟨hlt, rfl⟩
  all_goals
    refine Calm.pure (v := ?_) (by rfl) ?_ ?_
    rotate_left
    focus (intro w hSw; go_simp <;> rfl)
    simp only [Act.put, List.setIfInBounds_toArray, List.set_cons_zero, List.set_cons_succ]
  all_goals
    refine Calm.pure (v := ?_) (by rfl) ?_ ?_
    rotate_left
    focus (intro w hSw; go_simp <;> rfl)
    simp only [Act.put, List.setIfInBounds_toArray, List.set_cons_zero, List.set_cons_succ]
  all_goals
    refine Calm.pure (v := ?_) (by rfl) ?_ ?_
    rotate_left
    focus (intro w hSw; go_simp <;> rfl)
    simp only [Act.put, List.setIfInBounds_toArray, List.set_cons_zero, List.set_cons_succ]
  all_goals
    first
      | (refine Calm.skip ?_ ?_; focus rfl)
      | (refine Calm.pure (v := ?_) (by rfl) ?_ ?_
         rotate_left
         focus (intro w hSw; go_simp <;> rfl))
    simp only [Act.put, List.setIfInBounds_toArray, List.set_cons_zero, List.set_cons_succ]
  all_goals
    first
      | (refine Calm.skip ?_ ?_; focus rfl)
      | (refine Calm.pure (v := ?_) (by rfl) ?_ ?_
         rotate_left
         focus (intro w hSw; go_simp <;> rfl))
    simp only [Act.put, List.setIfInBounds_toArray, List.set_cons_zero, List.set_cons_succ]
  all_goals
    refine Calm.pure (v := ?_) (by rfl) ?_ ?_
    rotate_left
    focus (intro w hSw; go_simp <;> rfl)
    simp only [Act.put, List.setIfInBounds_toArray, List.set_cons_zero, List.set_cons_succ]
  all_goals
    refine Calm.pure (v := ?_) (by rfl) ?_ ?_
    rotate_left
    focus (intro w hSw; go_simp <;> rfl)
    simp only [Act.put, List.setIfInBounds_toArray, List.set_cons_zero, List.set_cons_succ]
  all_goals
    first
      | (refine Calm.skip ?_ ?_; focus rfl)
      | (refine Calm.loadT (by rfl) _ rfl rfl (fun _ h => by go_split_ands; assumption) ?_)
    simp only [Act.put, List.setIfInBounds_toArray, List.set_cons_zero, List.set_cons_succ]
  all_goals
    first
      | (refine Calm.skip ?_ ?_; focus rfl)
      | (refine Calm.loadT (by rfl) _ rfl rfl (fun _ h => by go_split_ands; assumption) ?_)
    simp only [Act.put, List.setIfInBounds_toArray, List.set_cons_zero, List.set_cons_succ]
  all_goals
    first
      | (refine Calm.skip ?_ ?_; focus rfl)
      | (refine Calm.call2s (by rfl) rfl rfl rfl (by kernel_rfl) hs (fun w1 h => rS w1 h.2.2.2.2.2.2.2.2.1 h.2.2.2.2.2.2.2.2.2.1) ?_)
    simp only [Act.put, List.setIfInBounds_toArray, List.set_cons_zero, List.set_cons_succ]
  all_goals
    refine Calm.pure (v := ?_) (by rfl) ?_ ?_
    rotate_left
    focus (intro w hSw; go_simp <;> rfl)
    simp only [Act.put, List.setIfInBounds_toArray, List.set_cons_zero, List.set_cons_succ]
  all_goals
    refine Calm.pure (v := ?_) (by rfl) ?_ ?_
    rotate_left
    focus (intro w hSw; go_simp <;> rfl)
    simp only [Act.put, List.setIfInBounds_toArray, List.set_cons_zero, List.set_cons_succ]
  all_goals
    first
      | (refine Calm.skip ?_ ?_; focus rfl)
      | (refine Calm.loadT (by rfl) _ rfl rfl (fun _ h => by go_split_ands; assumption) ?_)
    simp only [Act.put, List.setIfInBounds_toArray, List.set_cons_zero, List.set_cons_succ]
  all_goals
    first
      | (refine Calm.skip ?_ ?_; focus rfl)
      | (refine Calm.call1s (by rfl) rfl rfl (by kernel_rfl) hs (fun w1 h => rK w1 h.2.2.2.2.2.2.2.2.1) ?_)
    simp only [Act.put, List.setIfInBounds_toArray, List.set_cons_zero, List.set_cons_succ]
  all_goals
    refine Calm.pure (v := ?_) (by rfl) ?_ ?_
    rotate_left
    focus (intro w hSw; go_simp <;> rfl)
    simp only [Act.put, List.setIfInBounds_toArray, List.set_cons_zero, List.set_cons_succ]
  all_goals
    refine Calm.pure (v := ?_) (by rfl) ?_ ?_
    rotate_left
    focus (intro w hSw; go_simp <;> rfl)
    simp only [Act.put, List.setIfInBounds_toArray, List.set_cons_zero, List.set_cons_succ]
  all_goals
    first
      | (refine Calm.skip ?_ ?_; focus rfl)
      | (refine Calm.loadT (by rfl) _ rfl rfl (fun _ h => by go_split_ands; assumption) ?_)
    simp only [Act.put, List.setIfInBounds_toArray, List.set_cons_zero, List.set_cons_succ]
  all_goals
    first
      | (refine Calm.skip ?_ ?_; focus rfl)
      | (refine Calm.loadT (by rfl) _ rfl rfl (fun _ h => by go_split_ands; assumption) ?_)
    simp only [Act.put, List.setIfInBounds_toArray, List.set_cons_zero, List.set_cons_succ]
  all_goals
    first
      | (refine Calm.skip ?_ ?_; focus rfl)
      | (refine Calm.call2s (by rfl) rfl rfl rfl (by kernel_rfl) hs (fun w1 h => rAJ w1 h.2.2.2.2.2.1 h.2.2.2.2.2.2.2.2.1) ?_)
    simp only [Act.put, List.setIfInBounds_toArray, List.set_cons_zero, List.set_cons_succ]
  all_goals
    refine Calm.pure (v := ?_) (by rfl) ?_ ?_
    rotate_left
    focus (intro w hSw; go_simp <;> rfl)
    simp only [Act.put, List.setIfInBounds_toArray, List.set_cons_zero, List.set_cons_succ]
  all_goals
    refine Calm.pure (v := ?_) (by rfl) ?_ ?_
    rotate_left
    focus (intro w hSw; go_simp <;> rfl)
    simp only [Act.put, List.setIfInBounds_toArray, List.set_cons_zero, List.set_cons_succ]
  all_goals
    first
      | (refine Calm.skip ?_ ?_; focus rfl)
      | (refine Calm.loadT (by rfl) _ rfl rfl (fun _ h => by go_split_ands; assumption) ?_)
    simp only [Act.put, List.setIfInBounds_toArray, List.set_cons_zero, List.set_cons_succ]
  all_goals
    first
      | (refine Calm.skip ?_ ?_; focus rfl)
      | (refine Calm.loadT (by rfl) _ rfl rfl (fun _ h => by go_split_ands; assumption) ?_)
    simp only [Act.put, List.setIfInBounds_toArray, List.set_cons_zero, List.set_cons_succ]
  all_goals
    first
      | (refine Calm.skip ?_ ?_; focus rfl)
      | (refine Calm.call2s (by rfl) rfl rfl rfl (by kernel_rfl) hs (fun w1 h => rBJ w1 h.2.2.2.2.2.2.1 h.2.2.2.2.2.2.2.2.1) ?_)
    simp only [Act.put, List.setIfInBounds_toArray, List.set_cons_zero, List.set_cons_succ]
  all_goals
    refine Calm.pure (v := ?_) (by rfl) ?_ ?_
    rotate_left
    focus (intro w hSw; go_simp <;> rfl)
    simp only [Act.put, List.setIfInBounds_toArray, List.set_cons_zero, List.set_cons_succ]
  all_goals
    refine Calm.pure (v := ?_) (by rfl) ?_ ?_
    rotate_left
    focus (intro w hSw; go_simp <;> rfl)
    simp only [Act.put, List.setIfInBounds_toArray, List.set_cons_zero, List.set_cons_succ]
  all_goals
    first
      | (refine Calm.skip ?_ ?_; focus rfl)
      | (refine Calm.loadT (by rfl) _ rfl rfl (fun _ h => by go_split_ands; assumption) ?_)
    simp only [Act.put, List.setIfInBounds_toArray, List.set_cons_zero, List.set_cons_succ]
  all_goals
    first
      | (refine Calm.skip ?_ ?_; focus rfl)
      | (refine Calm.loadT (by rfl) _ rfl rfl (fun _ h => by go_split_ands; assumption) ?_)
    simp only [Act.put, List.setIfInBounds_toArray, List.set_cons_zero, List.set_cons_succ]
  all_goals
    first
      | (refine Calm.skip ?_ ?_; focus rfl)
      | (refine Calm.call2s (by rfl) rfl rfl rfl (by kernel_rfl) hs (fun w1 h => rJC w1 h.2.2.2.2.2.2.2.2.1 h.2.2.2.2.2.2.2.1) ?_)
    simp only [Act.put, List.setIfInBounds_toArray, List.set_cons_zero, List.set_cons_succ]
  all_goals
    first
      | (refine Calm.skip ?_ ?_; focus rfl)
      | (refine Calm.loadT (by rfl) _ rfl rfl (fun _ h => by go_split_ands; assumption) ?_)
    simp only [Act.put, List.setIfInBounds_toArray, List.set_cons_zero, List.set_cons_succ]
  all_goals
    first
      | (refine Calm.skip ?_ ?_; focus rfl)
      | (refine Calm.loadT (by rfl) _ rfl rfl (fun _ h => by go_split_ands; assumption) ?_)
    simp only [Act.put, List.setIfInBounds_toArray, List.set_cons_zero, List.set_cons_succ]
  all_goals
    first
      | (refine Calm.skip ?_ ?_; focus rfl)
      | (refine Calm.call2s (by rfl) rfl rfl rfl (by kernel_rfl) hs (fun w1 h => rAC w1 h.2.2.2.2.2.1 h.2.2.2.2.2.2.2.1) ?_)
    simp only [Act.put, List.setIfInBounds_toArray, List.set_cons_zero, List.set_cons_succ]
  all_goals
    first
      | (refine Calm.skip ?_ ?_; focus rfl)
      | (refine Calm.pure (v := ?_) (by rfl) ?_ ?_
         rotate_left
         focus (intro w hSw; go_simp <;> rfl))
    simp only [Act.put, List.setIfInBounds_toArray, List.set_cons_zero, List.set_cons_succ]
  all_goals
    first
      | (refine Calm.skip ?_ ?_; focus rfl)
      | (refine Calm.loadT (by rfl) _ rfl rfl (fun _ h => by go_split_ands; assumption) ?_)
    simp only [Act.put, List.setIfInBounds_toArray, List.set_cons_zero, List.set_cons_succ]
  all_goals
    first
      | (refine Calm.skip ?_ ?_; focus rfl)
      | (refine Calm.loadT (by rfl) _ rfl rfl (fun _ h => by go_split_ands; assumption) ?_)
    simp only [Act.put, List.setIfInBounds_toArray, List.set_cons_zero, List.set_cons_succ]
  all_goals
    first
      | (refine Calm.skip ?_ ?_; focus rfl)
      | (refine Calm.call2s (by rfl) rfl rfl rfl (by kernel_rfl) hs (fun w1 h => rBC w1 h.2.2.2.2.2.2.1 h.2.2.2.2.2.2.2.1) ?_)
    simp only [Act.put, List.setIfInBounds_toArray, List.set_cons_zero, List.set_cons_succ]
  all_goals
    first
      | (refine Calm.skip ?_ ?_; focus rfl)
      | (refine Calm.pure (v := ?_) (by rfl) ?_ ?_
         rotate_left
         focus (intro w hSw; go_simp <;> rfl))
    simp only [Act.put, List.setIfInBounds_toArray, List.set_cons_zero, List.set_cons_succ]
  all_goals
    first
      | (refine Calm.skip ?_ ?_; focus rfl)
      | (refine Calm.pure (v := ?_) (by rfl) ?_ ?_
         rotate_left
         focus (intro w hSw; go_simp <;> rfl))
    simp only [Act.put, List.setIfInBounds_toArray, List.set_cons_zero, List.set_cons_succ]
  all_goals
    refine Calm.pure (v := ?_) (by rfl) ?_ ?_
    rotate_left
    focus (intro w hSw; go_simp <;> rfl)
    simp only [Act.put, List.setIfInBounds_toArray, List.set_cons_zero, List.set_cons_succ]
  all_goals
    refine Calm.pure (v := ?_) (by rfl) ?_ ?_
    rotate_left
    focus (intro w hSw; go_simp <;> rfl)
    simp only [Act.put, List.setIfInBounds_toArray, List.set_cons_zero, List.set_cons_succ]
  all_goals
    first
      | (refine Calm.skip ?_ ?_; focus rfl)
      | (refine Calm.loadT (by rfl) _ rfl rfl (fun _ h => by go_split_ands; assumption) ?_)
    simp only [Act.put, List.setIfInBounds_toArray, List.set_cons_zero, List.set_cons_succ]
  all_goals
    first
      | (refine Calm.skip ?_ ?_; focus rfl)
      | (refine Calm.pure (v := ?_) (by rfl) ?_ ?_
         rotate_left
         focus (intro w hSw; go_simp <;> rfl))
    simp only [Act.put, List.setIfInBounds_toArray, List.set_cons_zero, List.set_cons_succ]
  all_goals
    first
      | (refine Calm.skip ?_ ?_; focus rfl)
      | (refine Calm.call2s (by rfl) rfl rfl rfl (by kernel_rfl) hs (fun w1 h => rVj w1 h.2.2.2.2.2.2.2.2.1) ?_)
    simp only [Act.put, List.setIfInBounds_toArray, List.set_cons_zero, List.set_cons_succ]
  all_goals
    first
      | (refine Calm.skip ?_ ?_; focus rfl)
      | (refine Calm.loadT (by rfl) _ rfl rfl (fun _ h => by go_split_ands; assumption) ?_)
    simp only [Act.put, List.setIfInBounds_toArray, List.set_cons_zero, List.set_cons_succ]
  all_goals
    first
      | (refine Calm.skip ?_ ?_; focus rfl)
      | (refine Calm.pure (v := ?_) (by rfl) ?_ ?_
         rotate_left
         focus (intro w hSw; go_simp <;> rfl))
    simp only [Act.put, List.setIfInBounds_toArray, List.set_cons_zero, List.set_cons_succ]
  all_goals
    first
      | (refine Calm.skip ?_ ?_; focus rfl)
      | (refine Calm.call2s (by rfl) rfl rfl rfl (by kernel_rfl) hs (fun w1 h => rVa w1 h.2.2.2.2.2.1) ?_)
    simp only [Act.put, List.setIfInBounds_toArray, List.set_cons_zero, List.set_cons_succ]
  all_goals
    first
      | (refine Calm.skip ?_ ?_; focus rfl)
      | (refine Calm.loadT (by rfl) _ rfl rfl (fun _ h => by go_split_ands; assumption) ?_)
    simp only [Act.put, List.setIfInBounds_toArray, List.set_cons_zero, List.set_cons_succ]
  all_goals
    first
      | (refine Calm.skip ?_ ?_; focus rfl)
      | (refine Calm.pure (v := ?_) (by rfl) ?_ ?_
         rotate_left
         focus (intro w hSw; go_simp <;> rfl))
    simp only [Act.put, List.setIfInBounds_toArray, List.set_cons_zero, List.set_cons_succ]
  all_goals
    first
      | (refine Calm.skip ?_ ?_; focus rfl)
      | (refine Calm.call2s (by rfl) rfl rfl rfl (by kernel_rfl) hs (fun w1 h => rVb w1 h.2.2.2.2.2.2.1) ?_)
    simp only [Act.put, List.setIfInBounds_toArray, List.set_cons_zero, List.set_cons_succ]
  all_goals
    first
      | (refine Calm.skip ?_ ?_; focus rfl)
      | (refine Calm.pure (v := ?_) (by rfl) ?_ ?_
         rotate_left
         focus (intro w hSw; go_simp <;> rfl))
    simp only [Act.put, List.setIfInBounds_toArray, List.set_cons_zero, List.set_cons_succ]
  all_goals
    first
      | (refine Calm.skip ?_ ?_; focus rfl)
      | (refine Calm.pure (v := ?_) (by rfl) ?_ ?_
         rotate_left
         focus (intro w hSw; go_simp <;> rfl))
    simp only [Act.put, List.setIfInBounds_toArray, List.set_cons_zero, List.set_cons_succ]
  all_goals
    refine Calm.pure (v := ?_) (by rfl) ?_ ?_
    rotate_left
    focus (intro w hSw; go_simp <;> rfl)
    simp only [Act.put, List.setIfInBounds_toArray, List.set_cons_zero, List.set_cons_succ]
  all_goals
    refine Calm.pure (v := ?_) (by rfl) ?_ ?_
    rotate_left
    focus (intro w hSw; go_simp <;> rfl)
    simp only [Act.put, List.setIfInBounds_toArray, List.set_cons_zero, List.set_cons_succ]
  all_goals
    first
      | (refine Calm.skip ?_ ?_; focus rfl)
      | (refine Calm.call0 (by rfl) rfl (by kernel_rfl) hs heads_any ?_)
    simp only [Act.put, List.setIfInBounds_toArray, List.set_cons_zero, List.set_cons_succ]
  all_goals
    refine Calm.pure (v := ?_) (by rfl) ?_ ?_
    rotate_left
    focus (intro w hSw; go_simp <;> rfl)
    simp only [Act.put, List.setIfInBounds_toArray, List.set_cons_zero, List.set_cons_succ]
  all_goals
    refine Calm.pure (v := ?_) (by rfl) ?_ ?_
    rotate_left
    focus (intro w hSw; go_simp <;> rfl)
    simp only [Act.put, List.setIfInBounds_toArray, List.set_cons_zero, List.set_cons_succ]
  all_goals
    rintro w9 ⟨_, _, _, _, _, _, _, _, _, _, hbel9⟩
    go_wp2
    go_ret
    exact ⟨rfl, hbel9⟩
end Go.Proofs.Ytlfbabepbajcjaa
