/- The walk of EventsOrder. -/
import Derived.Test.YtlfbabepbajcjaaRefCheck
namespace Go.Proofs.Ytlfbabepbajcjaa
open Go.RowKit

theorem and_place (m : Int) : ∃ r, bits .and .i64 m 65535 = r ∧ (0 ≤ r ∧ r < 65536) := by
  refine ⟨_, rfl, ?_⟩
  have h1 : (BitVec.ofInt 64 (65535 : Int)).toNat = 65535 := by decide
  have h2 : ∀ x : Nat, x &&& 65535 < 65536 := fun x => Nat.lt_of_le_of_lt Nat.and_le_right (by decide)
  show 0 ≤ IntKind.i64.wrap ((BitVec.ofInt 64 m &&& BitVec.ofInt 64 65535).toNat : Int) ∧ IntKind.i64.wrap ((BitVec.ofInt 64 m &&& BitVec.ofInt 64 65535).toNat : Int) < 65536
  rw [BitVec.toNat_and, h1]
  have h3 := h2 (BitVec.ofInt 64 m).toNat
  generalize (BitVec.ofInt 64 m).toNat &&& 65535 = x at h3
  rw [IntKind.wrap_i64]
  omega
theorem atX_leq {a b : EV} (m : Int) (h : leq 16 a b = true) : atX a m ≤ atX b m := by
  unfold atX
  split
  · exact val_leq _ h
  · omega
theorem atX_low {a : EV} {m : Int} (h : depth a ≤ 16) (hm : 0 ≤ m ∧ m < 65536) : low a ≤ atX a m ∧ atX a m ≤ high a := by
  unfold atX
  rw [if_pos hm]
  exact val_low 16 a _ h

set_option maxHeartbeats 16000000 in
set_option maxRecDepth 100000 in
theorem order_any (xa xb xc : Tr) (m : Int) (na : Int) (pa : Option Addr) (la ca : Nat) (nb : Int) (pb : Option Addr) (lb cb : Nat) (nc : Int) (pc : Option Addr) (lc cc : Nat) (w : World) (ta : Lies w xa (TV na pa la ca)) (tb : Lies w xb (TV nb pb lb cb)) (tc : Lies w xc (TV nc pc lc cc)) :
    Calls Try.prog 6 #[TV na pa la ca, TV nb pb lb cb, TV nc pc lc cc, .int .i64 m] w (Tells (.bool true) w) := by
  obtain ⟨b1, b2, b3, hbel⟩ := three_box w na pa la ca nb pb lb cb nc pc lc cc _ rfl
  replace ta := ta.later hbel
  replace tb := tb.later hbel
  replace tc := tc.later hbel
  have HA : Hid (okT xa = okT xa) := rfl
  have rKa := refCheck_tr xa na pa la ca
  have rKb := refCheck_tr xb nb pb lb cb
  have rKc := refCheck_tr xc nc pc lc cc
  clear HA
  obtain ⟨ka, HA⟩ : ∃ k, Hid (okT xa = k) := ⟨_, rfl⟩
  obtain ⟨kb, HB⟩ : ∃ k, Hid (okT xb = k) := ⟨_, rfl⟩
  obtain ⟨kc, HC⟩ : ∃ k, Hid (okT xc = k) := ⟨_, rfl⟩
  rw [HA.out] at rKa
  rw [HB.out] at rKb
  rw [HC.out] at rKc
  go_enter Try.func6, Try.ntmps6
  go_wp2_with (first | refine load_t _ rfl rfl _ _ rfl b1.tat ?_ | refine load_t _ rfl rfl _ _ rfl b2.tat ?_ | refine load_t _ rfl rfl _ _ rfl b3.tat ?_)
  refine (few_any xa na pa la ca _ ta).mono ?_
  rintro e w1 ⟨few, rfl, hb1⟩
  replace b1 := b1.later hb1
  replace b2 := b2.later hb1
  replace b3 := b3.later hb1
  replace ta := ta.later hb1
  replace tb := tb.later hb1
  replace tc := tc.later hb1
  replace hbel := below_on hbel hb1
  clear hb1
  cases few
  · clear rKa rKb rKc b1 b2 b3 ta tb tc HA HB HC
    go_wp2_with fail
    refine (heads_any _).mono ?_
    rintro e w9 ⟨rfl, hb1⟩
    go_wp2
    go_ret
    exact ⟨rfl, below_on hbel hb1⟩
  go_wp2_with (first | refine load_t _ rfl rfl _ _ rfl b1.tat ?_ | refine load_t _ rfl rfl _ _ rfl b2.tat ?_ | refine load_t _ rfl rfl _ _ rfl b3.tat ?_)
  refine (few_any xb nb pb lb cb _ tb).mono ?_
  rintro e w2 ⟨few, rfl, hb1⟩
  replace b1 := b1.later hb1
  replace b2 := b2.later hb1
  replace b3 := b3.later hb1
  replace ta := ta.later hb1
  replace tb := tb.later hb1
  replace tc := tc.later hb1
  replace hbel := below_on hbel hb1
  clear hb1
  cases few
  · clear rKa rKb rKc b1 b2 b3 ta tb tc HA HB HC
    go_wp2_with fail
    refine (heads_any _).mono ?_
    rintro e w9 ⟨rfl, hb1⟩
    go_wp2
    go_ret
    exact ⟨rfl, below_on hbel hb1⟩
  go_wp2_with (first | refine load_t _ rfl rfl _ _ rfl b1.tat ?_ | refine load_t _ rfl rfl _ _ rfl b2.tat ?_ | refine load_t _ rfl rfl _ _ rfl b3.tat ?_)
  refine (few_any xc nc pc lc cc _ tc).mono ?_
  rintro e w3 ⟨few, rfl, hb1⟩
  replace b1 := b1.later hb1
  replace b2 := b2.later hb1
  replace b3 := b3.later hb1
  replace ta := ta.later hb1
  replace tb := tb.later hb1
  replace tc := tc.later hb1
  replace hbel := below_on hbel hb1
  clear hb1
  cases few
  · clear rKa rKb rKc b1 b2 b3 ta tb tc HA HB HC
    go_wp2_with fail
    refine (heads_any _).mono ?_
    rintro e w9 ⟨rfl, hb1⟩
    go_wp2
    go_ret
    exact ⟨rfl, below_on hbel hb1⟩
  go_wp2_with (first | refine load_t _ rfl rfl _ _ rfl b1.tat ?_ | refine load_t _ rfl rfl _ _ rfl b2.tat ?_ | refine load_t _ rfl rfl _ _ rfl b3.tat ?_)
  refine (rKa _ ta).mono ?_
  rintro e w4 ⟨rfl, hb1⟩
  replace b1 := b1.later hb1
  replace b2 := b2.later hb1
  replace b3 := b3.later hb1
  replace ta := ta.later hb1
  replace tb := tb.later hb1
  replace tc := tc.later hb1
  replace hbel := below_on hbel hb1
  clear hb1
  cases ka
  · clear rKa rKb rKc b1 b2 b3 ta tb tc HA HB HC
    go_wp2_with fail
    refine (heads_any _).mono ?_
    rintro e w9 ⟨rfl, hb1⟩
    go_wp2
    go_ret
    exact ⟨rfl, below_on hbel hb1⟩
  go_wp2_with (first | refine load_t _ rfl rfl _ _ rfl b1.tat ?_ | refine load_t _ rfl rfl _ _ rfl b2.tat ?_ | refine load_t _ rfl rfl _ _ rfl b3.tat ?_)
  refine (rKb _ tb).mono ?_
  rintro e w5 ⟨rfl, hb1⟩
  replace b1 := b1.later hb1
  replace b2 := b2.later hb1
  replace b3 := b3.later hb1
  replace ta := ta.later hb1
  replace tb := tb.later hb1
  replace tc := tc.later hb1
  replace hbel := below_on hbel hb1
  clear hb1
  cases kb
  · clear rKa rKb rKc b1 b2 b3 ta tb tc HA HB HC
    go_wp2_with fail
    refine (heads_any _).mono ?_
    rintro e w9 ⟨rfl, hb1⟩
    go_wp2
    go_ret
    exact ⟨rfl, below_on hbel hb1⟩
  go_wp2_with (first | refine load_t _ rfl rfl _ _ rfl b1.tat ?_ | refine load_t _ rfl rfl _ _ rfl b2.tat ?_ | refine load_t _ rfl rfl _ _ rfl b3.tat ?_)
  refine (rKc _ tc).mono ?_
  rintro e w6 ⟨rfl, hb1⟩
  replace b1 := b1.later hb1
  replace b2 := b2.later hb1
  replace b3 := b3.later hb1
  replace ta := ta.later hb1
  replace tb := tb.later hb1
  replace tc := tc.later hb1
  replace hbel := below_on hbel hb1
  clear hb1
  cases kc
  · clear rKa rKb rKc b1 b2 b3 ta tb tc HA HB HC
    go_wp2_with fail
    refine (heads_any _).mono ?_
    rintro e w9 ⟨rfl, hb1⟩
    go_wp2
    go_ret
    exact ⟨rfl, below_on hbel hb1⟩
  obtain ⟨ia, oa⟩ := ok_of ta HA.out
  obtain ⟨ib, ob⟩ := ok_of tb HB.out
  obtain ⟨ic, oc⟩ := ok_of tc HC.out
  generalize evOf xa = a at ia oa
  generalize evOf xb = b at ib ob
  generalize evOf xc = c at ic oc
  have OA : Hid (ok a = true) := oa
  have OB : Hid (ok b = true) := ob
  have OC : Hid (ok c = true) := oc
  clear rKa rKb rKc HA HB HC ta tb tc oa ob oc
  have rAB := fun w1 (h : Is w1 a (TV na pa la ca)) (h' : Is w1 b (TV nb pb lb cb)) => leq_any a b na pa la ca nb pb lb cb w1 h h' OA.out OB.out
  have rBA := fun w1 (h : Is w1 b (TV nb pb lb cb)) (h' : Is w1 a (TV na pa la ca)) => leq_any b a nb pb lb cb na pa la ca w1 h h' OB.out OA.out
  have rAA := fun w1 (h : Is w1 a (TV na pa la ca)) (h' : Is w1 a (TV na pa la ca)) => leq_any a a na pa la ca na pa la ca w1 h h' OA.out OA.out
  have rBC := fun w1 (h : Is w1 b (TV nb pb lb cb)) (h' : Is w1 c (TV nc pc lc cc)) => leq_any b c nb pb lb cb nc pc lc cc w1 h h' OB.out OC.out
  have rAC := fun w1 (h : Is w1 a (TV na pa la ca)) (h' : Is w1 c (TV nc pc lc cc)) => leq_any a c na pa la ca nc pc lc cc w1 h h' OA.out OC.out
  rw [leq_refl] at rAA
  have rS := fun w1 (h : Is w1 a (TV na pa la ca)) (h' : Is w1 b (TV nb pb lb cb)) => same_any a b na pa la ca nb pb lb cb w1 h h'
  have rVa := fun w1 (h : Is w1 a (TV na pa la ca)) => at_any a m na pa la ca w1 h OA.out
  have rVb := fun w1 (h : Is w1 b (TV nb pb lb cb)) => at_any b m nb pb lb cb w1 h OB.out
  obtain ⟨m2, hm2, M2⟩ := and_place m
  have rV2 := fun w1 (h : Is w1 a (TV na pa la ca)) => at_any a m2 na pa la ca w1 h OA.out
  have rLo := fun w1 (h : Is w1 a (TV na pa la ca)) => least_any a na pa la ca w1 h OA.out
  have rHi := fun w1 (h : Is w1 a (TV na pa la ca)) => greatest_any a na pa la ca w1 h OA.out
  have H1 : Hid (leq 16 a b = true → atX a m ≤ atX b m) := show _ → _ from fun h => atX_leq m h
  have H2 : Hid (leq 16 a b = true → leq 16 b c = true → leq 16 a c = true) := show _ → _ → _ from fun h h' => leq_trans h h'
  have H3 : Hid ((leq 16 a b && leq 16 b a) = eqb a b) := leq_both (rg_depth (ok_parts OA.out).1) (rg_depth (ok_parts OB.out).1) (ok_parts OA.out).2 (ok_parts OB.out).2
  have H4 : Hid (low a ≤ atX a m2 ∧ atX a m2 ≤ high a) := atX_low (rg_depth (ok_parts OA.out).1) M2
  clear OA OB OC M2
  generalize leq 16 a b = lab at rAB H1 H2 H3
  generalize leq 16 b a = lba at rBA H3
  generalize leq 16 b c = lbc at rBC H2
  generalize leq 16 a c = lac at rAC H2
  generalize eqb a b = eq at rS H3
  generalize atX a m2 = v2 at rV2 H4
  generalize atX a m = va at rVa H1
  generalize atX b m = vb at rVb H1
  generalize low a = lo at rLo H4
  generalize high a = hi at rHi H4
  go_wp2_with (first | refine load_t _ rfl rfl _ _ rfl b1.tat ?_ | refine load_t _ rfl rfl _ _ rfl b2.tat ?_ | refine load_t _ rfl rfl _ _ rfl b3.tat ?_)
  have hs : Calm.Stays (fun w' => Tat w' w.heap.size 0 na pa la ca ∧ Tat w' (w.heap.size + 1) 0 nb pb lb cb ∧ Tat w' (w.heap.size + 1 + 1) 0 nc pc lc cc ∧ Is w' a (TV na pa la ca) ∧ Is w' b (TV nb pb lb cb) ∧ Is w' c (TV nc pc lc cc) ∧ Below w.heap.size w w') := fun wa wb h hb => ⟨h.1.later hb, h.2.1.later hb, h.2.2.1.later hb, h.2.2.2.1.later hb, h.2.2.2.2.1.later hb, h.2.2.2.2.2.1.later hb, below_on h.2.2.2.2.2.2 hb⟩
  refine Calm.region (by kernel_rfl) (by kernel_rfl) (fun w' => Tat w' w.heap.size 0 na pa la ca ∧ Tat w' (w.heap.size + 1) 0 nb pb lb cb ∧ Tat w' (w.heap.size + 1 + 1) 0 nc pc lc cc ∧ Is w' a (TV na pa la ca) ∧ Is w' b (TV nb pb lb cb) ∧ Is w' c (TV nc pc lc cc) ∧ Below w.heap.size w w') ⟨b1.tat, b2.tat, b3.tat, ia.later (Below.refl _ _).drew, ib.later (Below.refl _ _).drew, ic.later (Below.refl _ _).drew, hbel.drew⟩ ?_
  clear b1 b2 b3 ia ib ic hbel
  cases lab
  case' true =>
    have hle : ¬ vb < va := by have := H1.out rfl; omega
    have hld : decide (vb < va) = false := by simpa using hle
    cases lbc
    case' true => obtain rfl : lac = true := H2.out rfl rfl
  all_goals
    refine Calm.loadT (by rfl) _ rfl rfl (fun _ h => by go_split_ands; assumption) ?_
    simp only [Act.put, List.setIfInBounds_toArray, List.set_cons_zero, List.set_cons_succ]
  all_goals
    refine Calm.loadT (by rfl) _ rfl rfl (fun _ h => by go_split_ands; assumption) ?_
    simp only [Act.put, List.setIfInBounds_toArray, List.set_cons_zero, List.set_cons_succ]
  all_goals
    refine Calm.call2s (by rfl) rfl rfl rfl (by kernel_rfl) hs (fun w1 h => rAB w1 h.2.2.2.1 h.2.2.2.2.1) ?_
    simp only [Act.put, List.setIfInBounds_toArray, List.set_cons_zero, List.set_cons_succ]
  all_goals
    refine Calm.pure (v := ?_) (by rfl) ?_ ?_
    rotate_left
    focus (intro w hSw; go_simp <;> rfl)
    simp only [Act.put, List.setIfInBounds_toArray, List.set_cons_zero, List.set_cons_succ]
  all_goals
    first
      | (refine Calm.skip ?_ ?_; focus rfl)
      | (refine Calm.loadT (by rfl) _ rfl rfl (fun _ h => by go_split_ands; assumption) ?_)
    simp only [Act.put, List.setIfInBounds_toArray, List.set_cons_zero, List.set_cons_succ]
  all_goals
    first
      | (refine Calm.skip ?_ ?_; focus rfl)
      | (refine Calm.pure (v := ?_) (by rfl) ?_ ?_
         rotate_left
         focus (intro w hSw; go_simp <;> rfl))
    simp only [Act.put, List.setIfInBounds_toArray, List.set_cons_zero, List.set_cons_succ]
  all_goals
    first
      | (refine Calm.skip ?_ ?_; focus rfl)
      | (refine Calm.call2s (by rfl) rfl rfl rfl (by kernel_rfl) hs (fun w1 h => rVa w1 h.2.2.2.1) ?_)
    simp only [Act.put, List.setIfInBounds_toArray, List.set_cons_zero, List.set_cons_succ]
  all_goals
    first
      | (refine Calm.skip ?_ ?_; focus rfl)
      | (refine Calm.loadT (by rfl) _ rfl rfl (fun _ h => by go_split_ands; assumption) ?_)
    simp only [Act.put, List.setIfInBounds_toArray, List.set_cons_zero, List.set_cons_succ]
  all_goals
    first
      | (refine Calm.skip ?_ ?_; focus rfl)
      | (refine Calm.pure (v := ?_) (by rfl) ?_ ?_
         rotate_left
         focus (intro w hSw; go_simp <;> rfl))
    simp only [Act.put, List.setIfInBounds_toArray, List.set_cons_zero, List.set_cons_succ]
  all_goals
    first
      | (refine Calm.skip ?_ ?_; focus rfl)
      | (refine Calm.call2s (by rfl) rfl rfl rfl (by kernel_rfl) hs (fun w1 h => rVb w1 h.2.2.2.2.1) ?_)
    simp only [Act.put, List.setIfInBounds_toArray, List.set_cons_zero, List.set_cons_succ]
  all_goals
    first
      | (refine Calm.skip ?_ ?_; focus rfl)
      | (refine Calm.pure (v := ?_) (by rfl) ?_ ?_
         rotate_left
         focus (intro w hSw; go_simp <;> rfl))
    simp only [Act.put, List.setIfInBounds_toArray, List.set_cons_zero, List.set_cons_succ]
  all_goals
    first
      | (refine Calm.skip ?_ ?_; focus rfl)
      | (refine Calm.pure (v := ?_) (by rfl) ?_ ?_
         rotate_left
         focus (intro w hSw; go_simp <;> rfl))
    simp only [Act.put, List.setIfInBounds_toArray, List.set_cons_zero, List.set_cons_succ]
  all_goals
    first
      | (refine Calm.skip ?_ ?_; focus rfl)
      | (refine Calm.loadT (by rfl) _ rfl rfl (fun _ h => by go_split_ands; assumption) ?_)
    simp only [Act.put, List.setIfInBounds_toArray, List.set_cons_zero, List.set_cons_succ]
  all_goals
    first
      | (refine Calm.skip ?_ ?_; focus rfl)
      | (refine Calm.loadT (by rfl) _ rfl rfl (fun _ h => by go_split_ands; assumption) ?_)
    simp only [Act.put, List.setIfInBounds_toArray, List.set_cons_zero, List.set_cons_succ]
  all_goals
    first
      | (refine Calm.skip ?_ ?_; focus rfl)
      | (refine Calm.call2s (by rfl) rfl rfl rfl (by kernel_rfl) hs (fun w1 h => rBC w1 h.2.2.2.2.1 h.2.2.2.2.2.1) ?_)
    simp only [Act.put, List.setIfInBounds_toArray, List.set_cons_zero, List.set_cons_succ]
  all_goals
    first
      | (refine Calm.skip ?_ ?_; focus rfl)
      | (refine Calm.pure (v := ?_) (by rfl) ?_ ?_
         rotate_left
         focus (intro w hSw; go_simp <;> rfl))
    simp only [Act.put, List.setIfInBounds_toArray, List.set_cons_zero, List.set_cons_succ]
  all_goals
    first
      | (refine Calm.skip ?_ ?_; focus rfl)
      | (refine Calm.loadT (by rfl) _ rfl rfl (fun _ h => by go_split_ands; assumption) ?_)
    simp only [Act.put, List.setIfInBounds_toArray, List.set_cons_zero, List.set_cons_succ]
  all_goals
    first
      | (refine Calm.skip ?_ ?_; focus rfl)
      | (refine Calm.loadT (by rfl) _ rfl rfl (fun _ h => by go_split_ands; assumption) ?_)
    simp only [Act.put, List.setIfInBounds_toArray, List.set_cons_zero, List.set_cons_succ]
  all_goals
    first
      | (refine Calm.skip ?_ ?_; focus rfl)
      | (refine Calm.call2s (by rfl) rfl rfl rfl (by kernel_rfl) hs (fun w1 h => rAC w1 h.2.2.2.1 h.2.2.2.2.2.1) ?_)
    simp only [Act.put, List.setIfInBounds_toArray, List.set_cons_zero, List.set_cons_succ]
  all_goals
    first
      | (refine Calm.skip ?_ ?_; focus rfl)
      | (refine Calm.pure (v := ?_) (by rfl) ?_ ?_
         rotate_left
         focus (intro w hSw; go_simp <;> rfl))
    simp only [Act.put, List.setIfInBounds_toArray, List.set_cons_zero, List.set_cons_succ]
  all_goals
    first
      | (refine Calm.skip ?_ ?_; focus rfl)
      | (refine Calm.pure (v := ?_) (by rfl) ?_ ?_
         rotate_left
         focus (intro w hSw; go_simp <;> rfl))
    simp only [Act.put, List.setIfInBounds_toArray, List.set_cons_zero, List.set_cons_succ]
  all_goals
    first
      | (refine Calm.skip ?_ ?_; focus rfl)
      | (refine Calm.pure (v := ?_) (by rfl) ?_ ?_
         rotate_left
         focus (intro w hSw; go_simp <;> rfl))
    simp only [Act.put, List.setIfInBounds_toArray, List.set_cons_zero, List.set_cons_succ]
  all_goals
    refine Calm.pure (v := ?_) (by rfl) ?_ ?_
    rotate_left
    focus (intro w hSw; go_simp <;> rfl)
    simp only [Act.put, List.setIfInBounds_toArray, List.set_cons_zero, List.set_cons_succ]
  all_goals
    rintro w9 hS9
    clear hs H1 H2
    obtain ⟨s1, s2, s3, s4, s5, s6, hbel⟩ := hS9
    go_wp2_with fail
  all_goals
    have hs : Calm.Stays (fun w' => Tat w' w.heap.size 0 na pa la ca ∧ Tat w' (w.heap.size + 1) 0 nb pb lb cb ∧ Tat w' (w.heap.size + 1 + 1) 0 nc pc lc cc ∧ Is w' a (TV na pa la ca) ∧ Is w' b (TV nb pb lb cb) ∧ Is w' c (TV nc pc lc cc) ∧ Below w.heap.size w w') := fun wa wb h hb => ⟨h.1.later hb, h.2.1.later hb, h.2.2.1.later hb, h.2.2.2.1.later hb, h.2.2.2.2.1.later hb, h.2.2.2.2.2.1.later hb, below_on h.2.2.2.2.2.2 hb⟩
    refine Calm.region (by kernel_rfl) (by kernel_rfl) (fun w' => Tat w' w.heap.size 0 na pa la ca ∧ Tat w' (w.heap.size + 1) 0 nb pb lb cb ∧ Tat w' (w.heap.size + 1 + 1) 0 nc pc lc cc ∧ Is w' a (TV na pa la ca) ∧ Is w' b (TV nb pb lb cb) ∧ Is w' c (TV nc pc lc cc) ∧ Below w.heap.size w w') ⟨s1, s2, s3, s4.later (Below.refl _ _).drew, s5.later (Below.refl _ _).drew, s6.later (Below.refl _ _).drew, hbel.drew⟩ ?_
    clear s1 s2 s3 s4 s5 s6 hbel
    cases lba
  all_goals
    obtain rfl := H3.out
    have h4a : lo ≤ v2 := H4.out.1
    have h4b : v2 ≤ hi := H4.out.2
    have h4c : decide (lo ≤ v2) = true := by simpa using h4a
    have h4d : decide (v2 ≤ hi) = true := by simpa using h4b
  all_goals
    refine Calm.loadT (by rfl) _ rfl rfl (fun _ h => by go_split_ands; assumption) ?_
    simp only [Act.put, List.setIfInBounds_toArray, List.set_cons_zero, List.set_cons_succ]
  all_goals
    refine Calm.loadT (by rfl) _ rfl rfl (fun _ h => by go_split_ands; assumption) ?_
    simp only [Act.put, List.setIfInBounds_toArray, List.set_cons_zero, List.set_cons_succ]
  all_goals
    refine Calm.call2s (by rfl) rfl rfl rfl (by kernel_rfl) hs (fun w1 h => rAA w1 h.2.2.2.1 h.2.2.2.1) ?_
    simp only [Act.put, List.setIfInBounds_toArray, List.set_cons_zero, List.set_cons_succ]
  all_goals
    refine Calm.pure (v := ?_) (by rfl) ?_ ?_
    rotate_left
    focus (intro w hSw; go_simp <;> rfl)
    simp only [Act.put, List.setIfInBounds_toArray, List.set_cons_zero, List.set_cons_succ]
  all_goals
    first
      | (refine Calm.skip ?_ ?_; focus rfl)
      | (refine Calm.loadT (by rfl) _ rfl rfl (fun _ h => by go_split_ands; assumption) ?_)
    simp only [Act.put, List.setIfInBounds_toArray, List.set_cons_zero, List.set_cons_succ]
  all_goals
    first
      | (refine Calm.skip ?_ ?_; focus rfl)
      | (refine Calm.loadT (by rfl) _ rfl rfl (fun _ h => by go_split_ands; assumption) ?_)
    simp only [Act.put, List.setIfInBounds_toArray, List.set_cons_zero, List.set_cons_succ]
  all_goals
    first
      | (refine Calm.skip ?_ ?_; focus rfl)
      | (refine Calm.call2s (by rfl) rfl rfl rfl (by kernel_rfl) hs (fun w1 h => rAB w1 h.2.2.2.1 h.2.2.2.2.1) ?_)
    simp only [Act.put, List.setIfInBounds_toArray, List.set_cons_zero, List.set_cons_succ]
  all_goals
    first
      | (refine Calm.skip ?_ ?_; focus rfl)
      | (refine Calm.pure (v := ?_) (by rfl) ?_ ?_
         rotate_left
         focus (intro w hSw; go_simp <;> rfl))
    simp only [Act.put, List.setIfInBounds_toArray, List.set_cons_zero, List.set_cons_succ]
  all_goals
    first
      | (refine Calm.skip ?_ ?_; focus rfl)
      | (refine Calm.loadT (by rfl) _ rfl rfl (fun _ h => by go_split_ands; assumption) ?_)
    simp only [Act.put, List.setIfInBounds_toArray, List.set_cons_zero, List.set_cons_succ]
  all_goals
    first
      | (refine Calm.skip ?_ ?_; focus rfl)
      | (refine Calm.loadT (by rfl) _ rfl rfl (fun _ h => by go_split_ands; assumption) ?_)
    simp only [Act.put, List.setIfInBounds_toArray, List.set_cons_zero, List.set_cons_succ]
  all_goals
    first
      | (refine Calm.skip ?_ ?_; focus rfl)
      | (refine Calm.call2s (by rfl) rfl rfl rfl (by kernel_rfl) hs (fun w1 h => rBA w1 h.2.2.2.2.1 h.2.2.2.1) ?_)
    simp only [Act.put, List.setIfInBounds_toArray, List.set_cons_zero, List.set_cons_succ]
  all_goals
    first
      | (refine Calm.skip ?_ ?_; focus rfl)
      | (refine Calm.pure (v := ?_) (by rfl) ?_ ?_
         rotate_left
         focus (intro w hSw; go_simp <;> rfl))
    simp only [Act.put, List.setIfInBounds_toArray, List.set_cons_zero, List.set_cons_succ]
  all_goals
    first
      | (refine Calm.skip ?_ ?_; focus rfl)
      | (refine Calm.loadT (by rfl) _ rfl rfl (fun _ h => by go_split_ands; assumption) ?_)
    simp only [Act.put, List.setIfInBounds_toArray, List.set_cons_zero, List.set_cons_succ]
  all_goals
    first
      | (refine Calm.skip ?_ ?_; focus rfl)
      | (refine Calm.loadT (by rfl) _ rfl rfl (fun _ h => by go_split_ands; assumption) ?_)
    simp only [Act.put, List.setIfInBounds_toArray, List.set_cons_zero, List.set_cons_succ]
  all_goals
    first
      | (refine Calm.skip ?_ ?_; focus rfl)
      | (refine Calm.call2s (by rfl) rfl rfl rfl (by kernel_rfl) hs (fun w1 h => rS w1 h.2.2.2.1 h.2.2.2.2.1) ?_)
    simp only [Act.put, List.setIfInBounds_toArray, List.set_cons_zero, List.set_cons_succ]
  all_goals
    first
      | (refine Calm.skip ?_ ?_; focus rfl)
      | (refine Calm.pure (v := ?_) (by rfl) ?_ ?_
         rotate_left
         focus (intro w hSw; go_simp <;> rfl))
    simp only [Act.put, List.setIfInBounds_toArray, List.set_cons_zero, List.set_cons_succ]
  all_goals
    refine Calm.pure (v := ?_) (by rfl) ?_ ?_
    rotate_left
    focus (intro w hSw; go_simp <;> rfl)
    simp only [Act.put, List.setIfInBounds_toArray, List.set_cons_zero, List.set_cons_succ]
  all_goals
    refine Calm.pure (v := ?_) (by rfl) ?_ ?_
    rotate_left
    focus (intro w hSw; go_simp <;> rfl)
    simp only [Act.put, List.setIfInBounds_toArray, List.set_cons_zero, List.set_cons_succ]
  all_goals
    first
      | (refine Calm.skip ?_ ?_; focus rfl)
      | (refine Calm.loadT (by rfl) _ rfl rfl (fun _ h => by go_split_ands; assumption) ?_)
    simp only [Act.put, List.setIfInBounds_toArray, List.set_cons_zero, List.set_cons_succ]
  all_goals
    first
      | (refine Calm.skip ?_ ?_; focus rfl)
      | (refine Calm.call1s (by rfl) rfl rfl (by kernel_rfl) hs (fun w1 h => rLo w1 h.2.2.2.1) ?_)
    simp only [Act.put, List.setIfInBounds_toArray, List.set_cons_zero, List.set_cons_succ]
  all_goals
    first
      | (refine Calm.skip ?_ ?_; focus rfl)
      | (refine Calm.loadT (by rfl) _ rfl rfl (fun _ h => by go_split_ands; assumption) ?_)
    simp only [Act.put, List.setIfInBounds_toArray, List.set_cons_zero, List.set_cons_succ]
  all_goals
    first
      | (refine Calm.skip ?_ ?_; focus rfl)
      | (refine Calm.pure (v := ?_) (by rfl) ?_ ?_
         rotate_left
         focus (intro w hSw; go_simp <;> rfl))
    simp only [Act.put, List.setIfInBounds_toArray, List.set_cons_zero, List.set_cons_succ]
  all_goals
    first
      | (refine Calm.skip ?_ ?_; focus rfl)
      | (refine Calm.pure (v := ?_) (by rfl) ?_ ?_
         rotate_left
         focus (intro w hSw; go_simp <;> rfl))
    simp only [Act.put, List.setIfInBounds_toArray, List.set_cons_zero, List.set_cons_succ]
  all_goals
    first
      | (refine Calm.skip ?_ ?_; focus rfl)
      | (refine Calm.call2s (by rfl) rfl rfl rfl (by kernel_rfl) hs (fun w1 h => rV2 w1 h.2.2.2.1) ?_)
    simp only [Act.put, List.setIfInBounds_toArray, List.set_cons_zero, List.set_cons_succ]
  all_goals
    first
      | (refine Calm.skip ?_ ?_; focus rfl)
      | (refine Calm.pure (v := ?_) (by rfl) ?_ ?_
         rotate_left
         focus (intro w hSw; go_simp <;> rfl))
    simp only [Act.put, List.setIfInBounds_toArray, List.set_cons_zero, List.set_cons_succ]
  all_goals
    refine Calm.pure (v := ?_) (by rfl) ?_ ?_
    rotate_left
    focus (intro w hSw; go_simp <;> rfl)
    simp only [Act.put, List.setIfInBounds_toArray, List.set_cons_zero, List.set_cons_succ]
  all_goals
    refine Calm.pure (v := ?_) (by rfl) ?_ ?_
    rotate_left
    focus (intro w hSw; go_simp <;> rfl)
    simp only [Act.put, List.setIfInBounds_toArray, List.set_cons_zero, List.set_cons_succ]
  all_goals
    first
      | (refine Calm.skip ?_ ?_; focus rfl)
      | (refine Calm.loadT (by rfl) _ rfl rfl (fun _ h => by go_split_ands; assumption) ?_)
    simp only [Act.put, List.setIfInBounds_toArray, List.set_cons_zero, List.set_cons_succ]
  all_goals
    first
      | (refine Calm.skip ?_ ?_; focus rfl)
      | (refine Calm.pure (v := ?_) (by rfl) ?_ ?_
         rotate_left
         focus (intro w hSw; go_simp <;> rfl))
    simp only [Act.put, List.setIfInBounds_toArray, List.set_cons_zero, List.set_cons_succ]
  all_goals
    first
      | (refine Calm.skip ?_ ?_; focus rfl)
      | (refine Calm.pure (v := ?_) (by rfl) ?_ ?_
         rotate_left
         focus (intro w hSw; go_simp <;> rfl))
    simp only [Act.put, List.setIfInBounds_toArray, List.set_cons_zero, List.set_cons_succ]
  all_goals
    first
      | (refine Calm.skip ?_ ?_; focus rfl)
      | (refine Calm.call2s (by rfl) rfl rfl rfl (by kernel_rfl) hs (fun w1 h => rV2 w1 h.2.2.2.1) ?_)
    simp only [Act.put, List.setIfInBounds_toArray, List.set_cons_zero, List.set_cons_succ]
  all_goals
    first
      | (refine Calm.skip ?_ ?_; focus rfl)
      | (refine Calm.loadT (by rfl) _ rfl rfl (fun _ h => by go_split_ands; assumption) ?_)
    simp only [Act.put, List.setIfInBounds_toArray, List.set_cons_zero, List.set_cons_succ]
  all_goals
    first
      | (refine Calm.skip ?_ ?_; focus rfl)
      | (refine Calm.call1s (by rfl) rfl rfl (by kernel_rfl) hs (fun w1 h => rHi w1 h.2.2.2.1) ?_)
    simp only [Act.put, List.setIfInBounds_toArray, List.set_cons_zero, List.set_cons_succ]
  all_goals
    first
      | (refine Calm.skip ?_ ?_; focus rfl)
      | (refine Calm.pure (v := ?_) (by rfl) ?_ ?_
         rotate_left
         focus (intro w hSw; go_simp <;> rfl))
    simp only [Act.put, List.setIfInBounds_toArray, List.set_cons_zero, List.set_cons_succ]
  all_goals
    refine Calm.pure (v := ?_) (by rfl) ?_ ?_
    rotate_left
    focus (intro w hSw; go_simp <;> rfl)
    simp only [Act.put, List.setIfInBounds_toArray, List.set_cons_zero, List.set_cons_succ]
  all_goals
    refine Calm.pure (v := ?_) (by rfl) ?_ ?_
    rotate_left
    focus (intro w hSw; go_simp <;> rfl)
    simp only [Act.put, List.setIfInBounds_toArray, List.set_cons_zero, List.set_cons_succ]
  all_goals
    first
      | (refine Calm.skip ?_ ?_; focus rfl)
      | (refine Calm.call0 (by rfl) rfl (by kernel_rfl) hs heads_any ?_)
    simp only [Act.put, List.setIfInBounds_toArray, List.set_cons_zero, List.set_cons_succ]
  all_goals
    refine Calm.pure (v := ?_) (by rfl) ?_ ?_
    rotate_left
    focus (intro w hSw; go_simp <;> rfl)
    simp only [Act.put, List.setIfInBounds_toArray, List.set_cons_zero, List.set_cons_succ]
  all_goals
    refine Calm.pure (v := ?_) (by rfl) ?_ ?_
    rotate_left
    focus (intro w hSw; go_simp <;> rfl)
    simp only [Act.put, List.setIfInBounds_toArray, List.set_cons_zero, List.set_cons_succ]
  all_goals
    rintro w9 ⟨_, _, _, _, _, _, hbel9⟩
    go_wp2
    go_ret
    exact ⟨rfl, hbel9⟩
end Go.Proofs.Ytlfbabepbajcjaa
