import Derived.Test.YtmcajjdijjcpkaaP25
/- The walk of StampApart. -/
namespace Go.Proofs.Ytmcajjdijjcpkaa
open Go.RowKit
open Idn (ID)

set_option maxHeartbeats 16000000 in
set_option maxRecDepth 100000 in
theorem apart_law (Xa Ya : Tr) (na : Int) (pa : Option Addr) (la ca : Nat) (ma : Int) (qa : Option Addr) (ka da : Nat) (w : World) (ta : Lies w Xa (TV na pa la ca)) (ua : Lies w Ya (TV ma qa ka da)) :
    Calls Try.prog 6 #[SV na pa la ca ma qa ka da] w (Tells (.bool true) w) := by
  obtain ⟨ba, hbel⟩ := one_r w 26 #[.int .i64 na, .slice pa la ca, .int .i64 ma, .slice qa ka da] _ rfl
  replace ta := ta.later hbel
  replace ua := ua.later hbel
  have rKa := fun w1 (h : Lies w1 Xa (TV na pa la ca)) (h' : Lies w1 Ya (TV ma qa ka da)) => check_s Xa Ya na pa la ca ma qa ka da w1 h h'
  obtain ⟨oka, HKa⟩ : ∃ k, Hid ((Idn.okT Xa && okT Ya) = k) := ⟨_, rfl⟩
  rw [HKa.out] at rKa
  go_enter Try.func6, Try.ntmps6
  go_wp2_with (first | refine load_s _ rfl rfl _ rfl ba ?_ | refine load_t _ rfl rfl _ _ rfl (Sx.tat0 ba) ?_ | refine load_t _ rfl rfl _ _ rfl (Sx.tat1 ba) ?_)
  refine (few_s Xa Ya na pa la ca ma qa ka da _ ta ua).mono ?_
  rintro e w1 ⟨fw, rfl, hsz, hb1⟩
  have HFa : Hid (fw = true → sz Xa ≤ 120 ∧ sz Ya ≤ 120) := hsz
  clear hsz
  replace ta := ta.later hb1
  replace ua := ua.later hb1
  replace ba := Rw.later ba hb1
  replace hbel := below_on hbel hb1
  clear hb1
  cases fw
  case' false =>
    clear ta ua ba
    go_wp2_with fail
    refine (heads_any _).mono ?_
    rintro e w9 ⟨rfl, hb1⟩
    go_wp2
    go_ret
    exact ⟨rfl, below_on hbel hb1⟩
  go_wp2_with (first | refine load_s _ rfl rfl _ rfl ba ?_ | refine load_t _ rfl rfl _ _ rfl (Sx.tat0 ba) ?_ | refine load_t _ rfl rfl _ _ rfl (Sx.tat1 ba) ?_)
  refine (rKa _ ta ua).mono ?_
  rintro e w2 ⟨rfl, hb1⟩
  replace ta := ta.later hb1
  replace ua := ua.later hb1
  replace ba := Rw.later ba hb1
  replace hbel := below_on hbel hb1
  clear hb1
  cases oka
  case' false =>
    clear ta ua ba
    go_wp2_with fail
    refine (heads_any _).mono ?_
    rintro e w9 ⟨rfl, hb1⟩
    go_wp2
    go_ret
    exact ⟨rfl, below_on hbel hb1⟩
  obtain ⟨hK1, hK2⟩ : Idn.okT Xa = true ∧ okT Ya = true := by simpa using HKa.out
  obtain ⟨ia, oia⟩ := okI_of ta hK1
  obtain ⟨ja, oja⟩ := ok_of ua hK2
  have OIa : Hid (Idn.ok (Idn.idOf Xa) = true) := oia
  have OJa : Hid (ok (evOf Ya) = true) := oja
  have HYa : Hid (okT Ya = true) := hK2
  have HZa : Hid (sz Ya ≤ 120) := (HFa.out (by first | rfl | trivial)).2
  clear hK1 hK2 oia oja HKa HFa ta rKa
  generalize evOf Ya = ea at ja OJa
  generalize Idn.idOf Xa = xa at ia OIa
  clear HZa HYa ua
  have rF := fun w1 (h : Idn.Is w1 xa (TV na pa la ca)) (h' : Is w1 ea (TV ma qa ka da)) => fork_ok xa ea na pa la ca ma qa ka da w1 h h' OIa.out OJa.out
  have HC := fk_cases xa OIa.out
  unfold fkX at rF
  go_wp2_with (first | refine load_s _ rfl rfl _ rfl ba ?_ | refine load_t _ rfl rfl _ _ rfl (Sx.tat0 ba) ?_ | refine load_t _ rfl rfl _ _ rfl (Sx.tat1 ba) ?_)
  refine (rF _ ia ja).mono ?_
  rintro e w3 ⟨nA, pA, lA, cA, mA, qA, kA1, dA, nB, pB, lB, cB, mB, qB, kB1, dB, rfl, iA, jA, iB, jB, hb1⟩
  replace ia := ia.later hb1
  replace ja := ja.later hb1
  replace ba := Rw.later ba hb1
  replace hbel := below_on hbel hb1
  clear hb1
  have zA := s_two0 w3
  have zB := s_two1 w3 #[.int .i64 nA, .slice pA lA cA, .int .i64 mA, .slice qA kA1 dA]
  obtain ⟨bA, bB, hb1⟩ := s_two w3 nA pA lA cA mA qA kA1 dA nB pB lB cB mB qB kB1 dB _ rfl
  generalize hwA : (((w3.alloc (.cells #[.int .i64 0, .slice none 0 0, .int .i64 0, .slice none 0 0] 26)).alloc (.cells #[.int .i64 0, .slice none 0 0, .int .i64 0, .slice none 0 0] 26)).setRow w3.heap.size #[.int .i64 nA, .slice pA lA cA, .int .i64 mA, .slice qA kA1 dA]).setRow (w3.heap.size + 1) #[.int .i64 nB, .slice pB lB cB, .int .i64 mB, .slice qB kB1 dB] = vA at bA bB hb1
  replace ia := ia.later hb1
  replace ja := ja.later hb1
  replace iA := iA.later hb1
  replace jA := jA.later hb1
  replace iB := iB.later hb1
  replace jB := jB.later hb1
  replace ba := Rw.later ba hb1
  replace hbel := below_on hbel hb1
  clear hb1
  clear rF
  rcases HC with ⟨h0, ⟨hn, eA, eB⟩, kA', kB'⟩ | ⟨h0, _⟩
  rotate_left
  · generalize fkE xa = E at h0 jA jB ⊢
    clear iA jA iB jB
    go_wp2_with (first | rw [hwA] | refine store_s rfl _ _ rfl _ nA pA lA cA mA qA kA1 dA rfl rfl zA ?_ | refine store_s rfl _ _ rfl _ nB pB lB cB mB qB kB1 dB rfl rfl zB ?_)
    refine (heads_any _).mono ?_
    rintro e w9 ⟨rfl, hb1⟩
    go_wp2
    go_ret
    exact ⟨rfl, below_on hbel hb1⟩
  rw [h0] at jA jB ⊢
  simp only [if_true] at jA jB
  have HU : Hid (Idn.unite (fkA xa) (fkB xa) = some xa) := by
    show _ = _
    rw [eA, eB]
    exact Idn.halve_sum xa (Idn.ok_parts OIa.out).2 hn
  have HNA : Hid (Idn.nil (fkA xa) = false) := by
    show _ = _
    rw [eA]
    exact (Idn.halve_nil xa (Idn.ok_parts OIa.out).2 hn).1
  have HNB : Hid (Idn.nil (fkB xa) = false) := by
    show _ = _
    rw [eB]
    exact (Idn.halve_nil xa (Idn.ok_parts OIa.out).2 hn).2
  have KA : Hid (Idn.ok (fkA xa) = true) := kA'
  have KB : Hid (Idn.ok (fkB xa) = true) := kB'
  clear h0 hn eA eB kA' kB'
  generalize fkA xa = A at iA HU HNA KA
  generalize fkB xa = B at iB HU HNB KB
  go_wp2_with (first | rw [hwA] | refine store_s rfl _ _ rfl _ nA pA lA cA mA qA kA1 dA rfl rfl zA ?_ | refine store_s rfl _ _ rfl _ nB pB lB cB mB qB kB1 dB rfl rfl zB ?_ | refine load_s _ rfl rfl _ rfl ba ?_ | refine load_s _ rfl rfl _ rfl bA ?_ | refine load_s _ rfl rfl _ rfl bB ?_ | refine load_t _ rfl rfl _ _ rfl (Sx.tat0 ba) ?_ | refine load_t _ rfl rfl _ _ rfl (Sx.tat0 bA) ?_ | refine load_t _ rfl rfl _ _ rfl (Sx.tat0 bB) ?_ | refine load_t _ rfl rfl _ _ rfl (Sx.tat1 ba) ?_ | refine load_t _ rfl rfl _ _ rfl (Sx.tat1 bA) ?_ | refine load_t _ rfl rfl _ _ rfl (Sx.tat1 bB) ?_)
  clear zA zB hwA
  generalize w3.heap.size = rA at bA bB ⊢
  have rE := fun w1 (h : Idn.Is w1 A (TV nA pA lA cA)) (h' : Is w1 ea (TV mA qA kA1 dA)) => event_ok A ea nA pA lA cA mA qA kA1 dA w1 h h' KA.out OJa.out
  unfold esI esX esE at rE
  rw [HNA.out] at rE
  simp only [Bool.not_false, Bool.true_and, Bool.false_eq_true, if_false] at rE
  have HTA : Hid (evE A ea = 0 ∨ evE A ea = 41) := by
    show _ ∨ _
    rcases evE_two A ea with h | h
    · exact .inl h
    · exact .inr h.1
  have HGA : Hid (evE A ea = 0 → Ev A ea (evX A ea)) := show _ → _ from fun h => ev_good A ea KA.out HNA.out OJa.out h
  generalize evE A ea = EA at rE HTA HGA
  generalize evX A ea = XA at rE HGA
  refine (rE _ iA jA).mono ?_
  rintro e w4 ⟨nC, pC, lC, cC, mC, qC, kC, dC, rfl, iC, jC, hb1⟩
  replace ia := ia.later hb1
  replace ja := ja.later hb1
  replace iA := iA.later hb1
  replace jA := jA.later hb1
  replace iB := iB.later hb1
  replace jB := jB.later hb1
  replace ba := Rw.later ba hb1
  replace bA := Rw.later bA hb1
  replace bB := Rw.later bB hb1
  replace hbel := below_on hbel hb1
  clear hb1
  have zC := rw_new w4 26 #[.int .i64 0, .slice none 0 0, .int .i64 0, .slice none 0 0]
  obtain ⟨bC, hb1⟩ := s_new w4 nC pC lC cC mC qC kC dC _ rfl
  generalize hwC : (w4.alloc (.cells #[.int .i64 0, .slice none 0 0, .int .i64 0, .slice none 0 0] 26)).setRow w4.heap.size #[.int .i64 nC, .slice pC lC cC, .int .i64 mC, .slice qC kC dC] = vC at bC hb1
  replace ia := ia.later hb1
  replace ja := ja.later hb1
  replace iA := iA.later hb1
  replace jA := jA.later hb1
  replace iB := iB.later hb1
  replace jB := jB.later hb1
  replace iC := iC.later hb1
  replace jC := jC.later hb1
  replace ba := Rw.later ba hb1
  replace bA := Rw.later bA hb1
  replace bB := Rw.later bB hb1
  replace hbel := below_on hbel hb1
  clear hb1
  clear rE
  go_wp2_with (first | rw [hwC] | refine store_s rfl _ _ rfl _ nC pC lC cC mC qC kC dC rfl rfl zC ?_ | refine load_s _ rfl rfl _ rfl ba ?_ | refine load_s _ rfl rfl _ rfl bA ?_ | refine load_s _ rfl rfl _ rfl bB ?_ | refine load_s _ rfl rfl _ rfl bC ?_ | refine load_t _ rfl rfl _ _ rfl (Sx.tat0 ba) ?_ | refine load_t _ rfl rfl _ _ rfl (Sx.tat0 bA) ?_ | refine load_t _ rfl rfl _ _ rfl (Sx.tat0 bB) ?_ | refine load_t _ rfl rfl _ _ rfl (Sx.tat0 bC) ?_ | refine load_t _ rfl rfl _ _ rfl (Sx.tat1 ba) ?_ | refine load_t _ rfl rfl _ _ rfl (Sx.tat1 bA) ?_ | refine load_t _ rfl rfl _ _ rfl (Sx.tat1 bB) ?_ | refine load_t _ rfl rfl _ _ rfl (Sx.tat1 bC) ?_)
  clear zC hwC
  generalize w4.heap.size = rC at bC ⊢
  have rE := fun w1 (h : Idn.Is w1 B (TV nB pB lB cB)) (h' : Is w1 ea (TV mB qB kB1 dB)) => event_ok B ea nB pB lB cB mB qB kB1 dB w1 h h' KB.out OJa.out
  unfold esI esX esE at rE
  rw [HNB.out] at rE
  simp only [Bool.not_false, Bool.true_and, Bool.false_eq_true, if_false] at rE
  have HTB : Hid (evE B ea = 0 ∨ evE B ea = 41) := by
    show _ ∨ _
    rcases evE_two B ea with h | h
    · exact .inl h
    · exact .inr h.1
  have HGB : Hid (evE B ea = 0 → Ev B ea (evX B ea)) := show _ → _ from fun h => ev_good B ea KB.out HNB.out OJa.out h
  generalize evE B ea = EB at rE HTB HGB
  generalize evX B ea = XB at rE HGB
  refine (rE _ iB jB).mono ?_
  rintro e w5 ⟨nD, pD, lD, cD, mD, qD, kD, dD, rfl, iD, jD, hb1⟩
  replace ia := ia.later hb1
  replace ja := ja.later hb1
  replace iA := iA.later hb1
  replace jA := jA.later hb1
  replace iB := iB.later hb1
  replace jB := jB.later hb1
  replace iC := iC.later hb1
  replace jC := jC.later hb1
  replace ba := Rw.later ba hb1
  replace bA := Rw.later bA hb1
  replace bB := Rw.later bB hb1
  replace bC := Rw.later bC hb1
  replace hbel := below_on hbel hb1
  clear hb1
  have zD := rw_new w5 26 #[.int .i64 0, .slice none 0 0, .int .i64 0, .slice none 0 0]
  obtain ⟨bD, hb1⟩ := s_new w5 nD pD lD cD mD qD kD dD _ rfl
  generalize hwD : (w5.alloc (.cells #[.int .i64 0, .slice none 0 0, .int .i64 0, .slice none 0 0] 26)).setRow w5.heap.size #[.int .i64 nD, .slice pD lD cD, .int .i64 mD, .slice qD kD dD] = vD at bD hb1
  replace ia := ia.later hb1
  replace ja := ja.later hb1
  replace iA := iA.later hb1
  replace jA := jA.later hb1
  replace iB := iB.later hb1
  replace jB := jB.later hb1
  replace iC := iC.later hb1
  replace jC := jC.later hb1
  replace iD := iD.later hb1
  replace jD := jD.later hb1
  replace ba := Rw.later ba hb1
  replace bA := Rw.later bA hb1
  replace bB := Rw.later bB hb1
  replace bC := Rw.later bC hb1
  replace hbel := below_on hbel hb1
  clear hb1
  clear rE
  rcases HTA.out with h0 | h0
  rotate_left
  · subst h0
    clear HTA HTB HGA HGB HU iC jC iD jD
    go_wp2_with (first | rw [hwD] | refine store_s rfl _ _ rfl _ nD pD lD cD mD qD kD dD rfl rfl zD ?_)
    refine (heads_any _).mono ?_
    rintro e w19 ⟨rfl, hb1⟩
    go_wp2
    go_ret
    exact ⟨rfl, below_on hbel hb1⟩
  rcases HTB.out with h0' | h0'
  rotate_left
  · subst h0 h0'
    clear HTA HTB HGA HGB HU iC jC iD jD
    go_wp2_with (first | rw [hwD] | refine store_s rfl _ _ rfl _ nD pD lD cD mD qD kD dD rfl rfl zD ?_)
    refine (heads_any _).mono ?_
    rintro e w19 ⟨rfl, hb1⟩
    go_wp2
    go_ret
    exact ⟨rfl, below_on hbel hb1⟩
  subst h0 h0'
  have GA := HGA.out rfl
  have GB := HGB.out rfl
  simp only [decide_true, if_true] at iC iD
  have KC : Hid (ok XA = true) := GA.ok
  have KD : Hid (ok XB = true) := GB.ok
  have hd : ∀ m, (Idn.has A 16 m && Idn.has B 16 m) = false := fun m => (Idn.has_unite A B xa 16 m HU.out).2
  have L1 : Hid (leq 16 XA XB = false) := apart_leq GA GB hd
  have L2 : Hid (leq 16 XB XA = false) := apart_leq GB GA fun m => by rw [Bool.and_comm]; exact hd m
  have L3 : Hid (leq 16 ea XA = true) := GA.up
  clear hd GA GB HGA HGB HTA HTB HNA HNB
  have rJ := fun w1 (a : Idn.Is w1 A (TV nC pC lC cC)) (b : Is w1 XA (TV mC qC kC dC)) (c : Idn.Is w1 B (TV nD pD lD cD)) (d : Is w1 XB (TV mD qD kD dD)) => join_ok A B XA XB _ _ _ _ _ _ _ _ _ _ _ _ _ _ _ _ w1 a b c d KA.out KC.out KB.out KD.out
  unfold jI jX jE at rJ
  rw [HU.out] at rJ
  simp only [Idn.uT, Idn.uE, Option.getD_some, Option.isSome_some, if_true] at rJ
  have KJ : Hid (ok (join 16 XA XB) = true) := by
    show _ = _
    unfold ok
    rw [rg_join (ok_parts KC.out).1 (ok_parts KD.out).1, short_join]
    rfl
  go_wp2_with (first | rw [hwD] | refine store_s rfl _ _ rfl _ nD pD lD cD mD qD kD dD rfl rfl zD ?_ | refine load_s _ rfl rfl _ rfl ba ?_ | refine load_s _ rfl rfl _ rfl bA ?_ | refine load_s _ rfl rfl _ rfl bB ?_ | refine load_s _ rfl rfl _ rfl bC ?_ | refine load_s _ rfl rfl _ rfl bD ?_ | refine load_t _ rfl rfl _ _ rfl (Sx.tat0 ba) ?_ | refine load_t _ rfl rfl _ _ rfl (Sx.tat0 bA) ?_ | refine load_t _ rfl rfl _ _ rfl (Sx.tat0 bB) ?_ | refine load_t _ rfl rfl _ _ rfl (Sx.tat0 bC) ?_ | refine load_t _ rfl rfl _ _ rfl (Sx.tat0 bD) ?_ | refine load_t _ rfl rfl _ _ rfl (Sx.tat1 ba) ?_ | refine load_t _ rfl rfl _ _ rfl (Sx.tat1 bA) ?_ | refine load_t _ rfl rfl _ _ rfl (Sx.tat1 bB) ?_ | refine load_t _ rfl rfl _ _ rfl (Sx.tat1 bC) ?_ | refine load_t _ rfl rfl _ _ rfl (Sx.tat1 bD) ?_)
  clear zD hwD
  generalize w5.heap.size = rD at bD ⊢
  refine (rJ _ iC jC iD jD).mono ?_
  rintro e w6 ⟨nJ, pJ, lJ, cJ, mJ, qJ, kJ, dJ, rfl, iJ, jJ, hb1⟩
  replace ia := ia.later hb1
  replace ja := ja.later hb1
  replace iA := iA.later hb1
  replace jA := jA.later hb1
  replace iB := iB.later hb1
  replace jB := jB.later hb1
  replace iC := iC.later hb1
  replace jC := jC.later hb1
  replace iD := iD.later hb1
  replace jD := jD.later hb1
  replace ba := Rw.later ba hb1
  replace bA := Rw.later bA hb1
  replace bB := Rw.later bB hb1
  replace bC := Rw.later bC hb1
  replace bD := Rw.later bD hb1
  replace hbel := below_on hbel hb1
  clear hb1
  have zJ := rw_new w6 26 #[.int .i64 0, .slice none 0 0, .int .i64 0, .slice none 0 0]
  obtain ⟨bJ, hb1⟩ := s_new w6 nJ pJ lJ cJ mJ qJ kJ dJ _ rfl
  generalize hwJ : (w6.alloc (.cells #[.int .i64 0, .slice none 0 0, .int .i64 0, .slice none 0 0] 26)).setRow w6.heap.size #[.int .i64 nJ, .slice pJ lJ cJ, .int .i64 mJ, .slice qJ kJ dJ] = vJ at bJ hb1
  replace ia := ia.later hb1
  replace ja := ja.later hb1
  replace iA := iA.later hb1
  replace jA := jA.later hb1
  replace iB := iB.later hb1
  replace jB := jB.later hb1
  replace iC := iC.later hb1
  replace jC := jC.later hb1
  replace iD := iD.later hb1
  replace jD := jD.later hb1
  replace iJ := iJ.later hb1
  replace jJ := jJ.later hb1
  replace ba := Rw.later ba hb1
  replace bA := Rw.later bA hb1
  replace bB := Rw.later bB hb1
  replace bC := Rw.later bC hb1
  replace bD := Rw.later bD hb1
  replace hbel := below_on hbel hb1
  clear hb1
  clear rJ
  have rS := fun w1 (a : Idn.Is w1 xa (TV nJ pJ lJ cJ)) (b : Idn.Is w1 xa (TV na pa la ca)) => Idn.same_any xa xa nJ pJ lJ cJ na pa la ca w1 a b
  rw [Idn.eqb_refl] at rS
  have q1 := fun w1 (a : Idn.Is w1 A (TV nC pC lC cC)) (b : Is w1 XA (TV mC qC kC dC)) (c : Idn.Is w1 B (TV nD pD lD cD)) (d : Is w1 XB (TV mD qD kD dD)) => sLeq_is a b c d KA.out KC.out KB.out KD.out
  rw [L1.out] at q1
  have q2 := fun w1 (a : Idn.Is w1 A (TV nC pC lC cC)) (b : Is w1 XA (TV mC qC kC dC)) (c : Idn.Is w1 B (TV nD pD lD cD)) (d : Is w1 XB (TV mD qD kD dD)) => sLeq_is c d a b KB.out KD.out KA.out KC.out
  rw [L2.out] at q2
  have q3 := fun w1 (a : Idn.Is w1 A (TV nC pC lC cC)) (b : Is w1 XA (TV mC qC kC dC)) (c : Idn.Is w1 xa (TV nJ pJ lJ cJ)) (d : Is w1 (join 16 XA XB) (TV mJ qJ kJ dJ)) => sLeq_is a b c d KA.out KC.out OIa.out KJ.out
  rw [leq_join] at q3
  have q4 := fun w1 (a : Idn.Is w1 B (TV nD pD lD cD)) (b : Is w1 XB (TV mD qD kD dD)) (c : Idn.Is w1 xa (TV nJ pJ lJ cJ)) (d : Is w1 (join 16 XA XB) (TV mJ qJ kJ dJ)) => sLeq_is a b c d KB.out KD.out OIa.out KJ.out
  rw [show leq 16 XB (join 16 XA XB) = true by rw [join_comm]; exact leq_join 16 XB XA] at q4
  have q5 := fun w1 (a : Idn.Is w1 xa (TV na pa la ca)) (b : Is w1 ea (TV ma qa ka da)) (c : Idn.Is w1 A (TV nC pC lC cC)) (d : Is w1 XA (TV mC qC kC dC)) => sLeq_is a b c d OIa.out OJa.out KA.out KC.out
  rw [L3.out] at q5
  clear L1 L2 L3 KA KB KC KD KJ HU OIa OJa iA jA iB jB bA bB
  go_wp2_with (first | rw [hwJ] | refine store_s rfl _ _ rfl _ nJ pJ lJ cJ mJ qJ kJ dJ rfl rfl zJ ?_ | refine load_s _ rfl rfl _ rfl ba ?_ | refine load_s _ rfl rfl _ rfl bC ?_ | refine load_s _ rfl rfl _ rfl bD ?_ | refine load_s _ rfl rfl _ rfl bJ ?_ | refine load_t _ rfl rfl _ _ rfl (Sx.tat0 ba) ?_ | refine load_t _ rfl rfl _ _ rfl (Sx.tat0 bC) ?_ | refine load_t _ rfl rfl _ _ rfl (Sx.tat0 bD) ?_ | refine load_t _ rfl rfl _ _ rfl (Sx.tat0 bJ) ?_ | refine load_t _ rfl rfl _ _ rfl (Sx.tat1 ba) ?_ | refine load_t _ rfl rfl _ _ rfl (Sx.tat1 bC) ?_ | refine load_t _ rfl rfl _ _ rfl (Sx.tat1 bD) ?_ | refine load_t _ rfl rfl _ _ rfl (Sx.tat1 bJ) ?_)
  clear zJ hwJ
  generalize w6.heap.size = rJ at bJ ⊢
  refine (rS _ iJ ia).mono ?_
  rintro e w7 ⟨rfl, hb1⟩
  replace ia := ia.later hb1
  replace ja := ja.later hb1
  replace iC := iC.later hb1
  replace jC := jC.later hb1
  replace iD := iD.later hb1
  replace jD := jD.later hb1
  replace iJ := iJ.later hb1
  replace jJ := jJ.later hb1
  replace ba := Rw.later ba hb1
  replace bC := Rw.later bC hb1
  replace bD := Rw.later bD hb1
  replace bJ := Rw.later bJ hb1
  replace hbel := below_on hbel hb1
  clear hb1
  go_wp2_with (first | refine load_s _ rfl rfl _ rfl ba ?_ | refine load_s _ rfl rfl _ rfl bC ?_ | refine load_s _ rfl rfl _ rfl bD ?_ | refine load_s _ rfl rfl _ rfl bJ ?_ | refine load_t _ rfl rfl _ _ rfl (Sx.tat0 ba) ?_ | refine load_t _ rfl rfl _ _ rfl (Sx.tat0 bC) ?_ | refine load_t _ rfl rfl _ _ rfl (Sx.tat0 bD) ?_ | refine load_t _ rfl rfl _ _ rfl (Sx.tat0 bJ) ?_ | refine load_t _ rfl rfl _ _ rfl (Sx.tat1 ba) ?_ | refine load_t _ rfl rfl _ _ rfl (Sx.tat1 bC) ?_ | refine load_t _ rfl rfl _ _ rfl (Sx.tat1 bD) ?_ | refine load_t _ rfl rfl _ _ rfl (Sx.tat1 bJ) ?_)
  refine (q1 _ iC jC iD jD).mono ?_
  rintro e w8 ⟨rfl, hb1⟩
  replace ia := ia.later hb1
  replace ja := ja.later hb1
  replace iC := iC.later hb1
  replace jC := jC.later hb1
  replace iD := iD.later hb1
  replace jD := jD.later hb1
  replace iJ := iJ.later hb1
  replace jJ := jJ.later hb1
  replace ba := Rw.later ba hb1
  replace bC := Rw.later bC hb1
  replace bD := Rw.later bD hb1
  replace bJ := Rw.later bJ hb1
  replace hbel := below_on hbel hb1
  clear hb1
  go_wp2_with (first | refine load_s _ rfl rfl _ rfl ba ?_ | refine load_s _ rfl rfl _ rfl bC ?_ | refine load_s _ rfl rfl _ rfl bD ?_ | refine load_s _ rfl rfl _ rfl bJ ?_ | refine load_t _ rfl rfl _ _ rfl (Sx.tat0 ba) ?_ | refine load_t _ rfl rfl _ _ rfl (Sx.tat0 bC) ?_ | refine load_t _ rfl rfl _ _ rfl (Sx.tat0 bD) ?_ | refine load_t _ rfl rfl _ _ rfl (Sx.tat0 bJ) ?_ | refine load_t _ rfl rfl _ _ rfl (Sx.tat1 ba) ?_ | refine load_t _ rfl rfl _ _ rfl (Sx.tat1 bC) ?_ | refine load_t _ rfl rfl _ _ rfl (Sx.tat1 bD) ?_ | refine load_t _ rfl rfl _ _ rfl (Sx.tat1 bJ) ?_)
  refine (q2 _ iC jC iD jD).mono ?_
  rintro e w9 ⟨rfl, hb1⟩
  replace ia := ia.later hb1
  replace ja := ja.later hb1
  replace iC := iC.later hb1
  replace jC := jC.later hb1
  replace iD := iD.later hb1
  replace jD := jD.later hb1
  replace iJ := iJ.later hb1
  replace jJ := jJ.later hb1
  replace ba := Rw.later ba hb1
  replace bC := Rw.later bC hb1
  replace bD := Rw.later bD hb1
  replace bJ := Rw.later bJ hb1
  replace hbel := below_on hbel hb1
  clear hb1
  go_wp2_with (first | refine load_s _ rfl rfl _ rfl ba ?_ | refine load_s _ rfl rfl _ rfl bC ?_ | refine load_s _ rfl rfl _ rfl bD ?_ | refine load_s _ rfl rfl _ rfl bJ ?_ | refine load_t _ rfl rfl _ _ rfl (Sx.tat0 ba) ?_ | refine load_t _ rfl rfl _ _ rfl (Sx.tat0 bC) ?_ | refine load_t _ rfl rfl _ _ rfl (Sx.tat0 bD) ?_ | refine load_t _ rfl rfl _ _ rfl (Sx.tat0 bJ) ?_ | refine load_t _ rfl rfl _ _ rfl (Sx.tat1 ba) ?_ | refine load_t _ rfl rfl _ _ rfl (Sx.tat1 bC) ?_ | refine load_t _ rfl rfl _ _ rfl (Sx.tat1 bD) ?_ | refine load_t _ rfl rfl _ _ rfl (Sx.tat1 bJ) ?_)
  refine (q3 _ iC jC iJ jJ).mono ?_
  rintro e w10 ⟨rfl, hb1⟩
  replace ia := ia.later hb1
  replace ja := ja.later hb1
  replace iC := iC.later hb1
  replace jC := jC.later hb1
  replace iD := iD.later hb1
  replace jD := jD.later hb1
  replace iJ := iJ.later hb1
  replace jJ := jJ.later hb1
  replace ba := Rw.later ba hb1
  replace bC := Rw.later bC hb1
  replace bD := Rw.later bD hb1
  replace bJ := Rw.later bJ hb1
  replace hbel := below_on hbel hb1
  clear hb1
  go_wp2_with (first | refine load_s _ rfl rfl _ rfl ba ?_ | refine load_s _ rfl rfl _ rfl bC ?_ | refine load_s _ rfl rfl _ rfl bD ?_ | refine load_s _ rfl rfl _ rfl bJ ?_ | refine load_t _ rfl rfl _ _ rfl (Sx.tat0 ba) ?_ | refine load_t _ rfl rfl _ _ rfl (Sx.tat0 bC) ?_ | refine load_t _ rfl rfl _ _ rfl (Sx.tat0 bD) ?_ | refine load_t _ rfl rfl _ _ rfl (Sx.tat0 bJ) ?_ | refine load_t _ rfl rfl _ _ rfl (Sx.tat1 ba) ?_ | refine load_t _ rfl rfl _ _ rfl (Sx.tat1 bC) ?_ | refine load_t _ rfl rfl _ _ rfl (Sx.tat1 bD) ?_ | refine load_t _ rfl rfl _ _ rfl (Sx.tat1 bJ) ?_)
  refine (q4 _ iD jD iJ jJ).mono ?_
  rintro e w11 ⟨rfl, hb1⟩
  replace ia := ia.later hb1
  replace ja := ja.later hb1
  replace iC := iC.later hb1
  replace jC := jC.later hb1
  replace iD := iD.later hb1
  replace jD := jD.later hb1
  replace iJ := iJ.later hb1
  replace jJ := jJ.later hb1
  replace ba := Rw.later ba hb1
  replace bC := Rw.later bC hb1
  replace bD := Rw.later bD hb1
  replace bJ := Rw.later bJ hb1
  replace hbel := below_on hbel hb1
  clear hb1
  go_wp2_with (first | refine load_s _ rfl rfl _ rfl ba ?_ | refine load_s _ rfl rfl _ rfl bC ?_ | refine load_s _ rfl rfl _ rfl bD ?_ | refine load_s _ rfl rfl _ rfl bJ ?_ | refine load_t _ rfl rfl _ _ rfl (Sx.tat0 ba) ?_ | refine load_t _ rfl rfl _ _ rfl (Sx.tat0 bC) ?_ | refine load_t _ rfl rfl _ _ rfl (Sx.tat0 bD) ?_ | refine load_t _ rfl rfl _ _ rfl (Sx.tat0 bJ) ?_ | refine load_t _ rfl rfl _ _ rfl (Sx.tat1 ba) ?_ | refine load_t _ rfl rfl _ _ rfl (Sx.tat1 bC) ?_ | refine load_t _ rfl rfl _ _ rfl (Sx.tat1 bD) ?_ | refine load_t _ rfl rfl _ _ rfl (Sx.tat1 bJ) ?_)
  refine (q5 _ ia ja iC jC).mono ?_
  rintro e w12 ⟨rfl, hb1⟩
  replace ia := ia.later hb1
  replace ja := ja.later hb1
  replace iC := iC.later hb1
  replace jC := jC.later hb1
  replace iD := iD.later hb1
  replace jD := jD.later hb1
  replace iJ := iJ.later hb1
  replace jJ := jJ.later hb1
  replace ba := Rw.later ba hb1
  replace bC := Rw.later bC hb1
  replace bD := Rw.later bD hb1
  replace bJ := Rw.later bJ hb1
  replace hbel := below_on hbel hb1
  clear hb1
  go_wp2_with (first | refine load_s _ rfl rfl _ rfl ba ?_ | refine load_s _ rfl rfl _ rfl bC ?_ | refine load_s _ rfl rfl _ rfl bD ?_ | refine load_s _ rfl rfl _ rfl bJ ?_ | refine load_t _ rfl rfl _ _ rfl (Sx.tat0 ba) ?_ | refine load_t _ rfl rfl _ _ rfl (Sx.tat0 bC) ?_ | refine load_t _ rfl rfl _ _ rfl (Sx.tat0 bD) ?_ | refine load_t _ rfl rfl _ _ rfl (Sx.tat0 bJ) ?_ | refine load_t _ rfl rfl _ _ rfl (Sx.tat1 ba) ?_ | refine load_t _ rfl rfl _ _ rfl (Sx.tat1 bC) ?_ | refine load_t _ rfl rfl _ _ rfl (Sx.tat1 bD) ?_ | refine load_t _ rfl rfl _ _ rfl (Sx.tat1 bJ) ?_)
  refine (heads_any _).mono ?_
  rintro e w13 ⟨rfl, hb1⟩
  replace ia := ia.later hb1
  replace ja := ja.later hb1
  replace iC := iC.later hb1
  replace jC := jC.later hb1
  replace iD := iD.later hb1
  replace jD := jD.later hb1
  replace iJ := iJ.later hb1
  replace jJ := jJ.later hb1
  replace ba := Rw.later ba hb1
  replace bC := Rw.later bC hb1
  replace bD := Rw.later bD hb1
  replace bJ := Rw.later bJ hb1
  replace hbel := below_on hbel hb1
  clear hb1
  go_wp2
  go_ret
  exact ⟨rfl, hbel⟩
end Go.Proofs.Ytmcajjdijjcpkaa
