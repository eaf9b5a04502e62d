import Derived.Test.YtmcajjdijjcpkaaP25
/- The walk of StampEvent. -/
namespace Go.Proofs.Ytmcajjdijjcpkaa
open Go.RowKit
open Idn (ID)

theorem at_event {i : ID} {e x : EV} (h : Ev i e x) (m : Int) (ki : Idn.ok i = true) : atX e m ≤ atX x m ∧ (Idn.ownsT (Idn.toTr i) m = false → atX x m = atX e m) := by
  unfold atX
  split
  · rename_i hm
    refine ⟨val_leq _ h.up, fun ho => h.same _ ?_⟩
    rw [Idn.ownsT_ok ki] at ho
    simpa [hm] using ho
  · exact ⟨Int.le_refl _, fun _ => rfl⟩
set_option maxHeartbeats 16000000 in
set_option maxRecDepth 100000 in
theorem event_law (Xa Ya : Tr) (m : Int) (na : Int) (pa : Option Addr) (la ca : Nat) (ma : Int) (qa : Option Addr) (ka da : Nat) (w : World) (ta : Lies w Xa (TV na pa la ca)) (ua : Lies w Ya (TV ma qa ka da)) :
    Calls Try.prog 5 #[SV na pa la ca ma qa ka da, .int .i64 m] w (Tells (.bool true) w) := by
  obtain ⟨ba, hbel⟩ := one_r w 26 #[.int .i64 na, .slice pa la ca, .int .i64 ma, .slice qa ka da] _ rfl
  replace ta := ta.later hbel
  replace ua := ua.later hbel
  have rKa := fun w1 (h : Lies w1 Xa (TV na pa la ca)) (h' : Lies w1 Ya (TV ma qa ka da)) => check_s Xa Ya na pa la ca ma qa ka da w1 h h'
  obtain ⟨oka, HKa⟩ : ∃ k, Hid ((Idn.okT Xa && okT Ya) = k) := ⟨_, rfl⟩
  rw [HKa.out] at rKa
  go_enter Try.func5, Try.ntmps5
  go_wp2_with (first | refine load_s _ rfl rfl _ rfl ba ?_ | refine load_t _ rfl rfl _ _ rfl (Sx.tat0 ba) ?_ | refine load_t _ rfl rfl _ _ rfl (Sx.tat1 ba) ?_)
  refine (few_s Xa Ya na pa la ca ma qa ka da _ ta ua).mono ?_
  rintro e w1 ⟨fw, rfl, hsz, hb1⟩
  have HFa : Hid (fw = true → sz Xa ≤ 120 ∧ sz Ya ≤ 120) := hsz
  clear hsz
  replace ta := ta.later hb1
  replace ua := ua.later hb1
  replace ba := Rw.later ba hb1
  replace hbel := below_on hbel hb1
  clear hb1
  cases fw
  case' false =>
    clear ta ua ba
    go_wp2_with fail
    refine (heads_any _).mono ?_
    rintro e w9 ⟨rfl, hb1⟩
    go_wp2
    go_ret
    exact ⟨rfl, below_on hbel hb1⟩
  go_wp2_with (first | refine load_s _ rfl rfl _ rfl ba ?_ | refine load_t _ rfl rfl _ _ rfl (Sx.tat0 ba) ?_ | refine load_t _ rfl rfl _ _ rfl (Sx.tat1 ba) ?_)
  refine (rKa _ ta ua).mono ?_
  rintro e w2 ⟨rfl, hb1⟩
  replace ta := ta.later hb1
  replace ua := ua.later hb1
  replace ba := Rw.later ba hb1
  replace hbel := below_on hbel hb1
  clear hb1
  cases oka
  case' false =>
    clear ta ua ba
    go_wp2_with fail
    refine (heads_any _).mono ?_
    rintro e w9 ⟨rfl, hb1⟩
    go_wp2
    go_ret
    exact ⟨rfl, below_on hbel hb1⟩
  obtain ⟨hK1, hK2⟩ : Idn.okT Xa = true ∧ okT Ya = true := by simpa using HKa.out
  obtain ⟨ia, oia⟩ := okI_of ta hK1
  obtain ⟨ja, oja⟩ := ok_of ua hK2
  have OIa : Hid (Idn.ok (Idn.idOf Xa) = true) := oia
  have OJa : Hid (ok (evOf Ya) = true) := oja
  have HYa : Hid (okT Ya = true) := hK2
  have HZa : Hid (sz Ya ≤ 120) := (HFa.out (by first | rfl | trivial)).2
  clear hK1 hK2 oia oja HKa HFa ta rKa
  generalize evOf Ya = ea at ja OJa
  generalize Idn.idOf Xa = xa at ia OIa
  clear HZa HYa ua
  have rE := fun w1 (h : Idn.Is w1 xa (TV na pa la ca)) (h' : Is w1 ea (TV ma qa ka da)) => event_ok xa ea na pa la ca ma qa ka da w1 h h' OIa.out OJa.out
  unfold esI esX esE at rE
  obtain ⟨bn, HN⟩ : ∃ b, Hid (Idn.nil xa = b) := ⟨_, rfl⟩
  rw [HN.out] at rE
  cases bn
  case' true =>
    simp only [Bool.not_true, Bool.false_and, Bool.false_eq_true, if_false, if_true] at rE
    have sA := fun w1 (a : Idn.Is w1 xa (TV na pa la ca)) => share_is a OIa.out
    rw [Idn.nil_iff.1 HN.out, Idn.own_leaf_false] at sA
    rw [Idn.nil_iff.1 HN.out] at ia rE
    simp only [Int.cast_ofNat_Int] at sA
    go_wp2_with (first | refine load_s _ rfl rfl _ rfl ba ?_ | refine load_t _ rfl rfl _ _ rfl (Sx.tat0 ba) ?_ | refine load_t _ rfl rfl _ _ rfl (Sx.tat1 ba) ?_)
    refine (rE _ ia ja).mono ?_
    rintro e w3 ⟨nT, pT, lT, cT, mT, qT, kT, dT, rfl, iT, jT, hb1⟩
    replace ia := ia.later hb1
    replace ja := ja.later hb1
    replace ba := Rw.later ba hb1
    replace hbel := below_on hbel hb1
    clear hb1
    have zT := rw_new w3 26 #[.int .i64 0, .slice none 0 0, .int .i64 0, .slice none 0 0]
    obtain ⟨bT, hb1⟩ := s_new w3 nT pT lT cT mT qT kT dT _ rfl
    generalize hwT : (w3.alloc (.cells #[.int .i64 0, .slice none 0 0, .int .i64 0, .slice none 0 0] 26)).setRow w3.heap.size #[.int .i64 nT, .slice pT lT cT, .int .i64 mT, .slice qT kT dT] = vT at bT hb1
    replace ia := ia.later hb1
    replace ja := ja.later hb1
    replace iT := iT.later hb1
    replace jT := jT.later hb1
    replace ba := Rw.later ba hb1
    replace hbel := below_on hbel hb1
    clear hb1
    go_wp2_with (first | rw [hwT] | refine store_s rfl _ _ rfl _ nT pT lT cT mT qT kT dT rfl rfl zT ?_ | refine load_s _ rfl rfl _ rfl ba ?_ | refine load_s _ rfl rfl _ rfl bT ?_ | refine load_t _ rfl rfl _ _ rfl (Sx.tat0 ba) ?_ | refine load_t _ rfl rfl _ _ rfl (Sx.tat0 bT) ?_ | refine load_t _ rfl rfl _ _ rfl (Sx.tat1 ba) ?_ | refine load_t _ rfl rfl _ _ rfl (Sx.tat1 bT) ?_)
    clear zT hwT
    generalize w3.heap.size = rT at bT ⊢
    refine (sA _ ia).mono ?_
    rintro e w4 ⟨rfl, hb1⟩
    replace ia := ia.later hb1
    replace ja := ja.later hb1
    replace iT := iT.later hb1
    replace jT := jT.later hb1
    replace ba := Rw.later ba hb1
    replace bT := Rw.later bT hb1
    replace hbel := below_on hbel hb1
    clear hb1
    go_wp2_with fail
    refine (heads_any _).mono ?_
    rintro e w5 ⟨rfl, hb1⟩
    replace ia := ia.later hb1
    replace ja := ja.later hb1
    replace iT := iT.later hb1
    replace jT := jT.later hb1
    replace ba := Rw.later ba hb1
    replace bT := Rw.later bT hb1
    replace hbel := below_on hbel hb1
    clear hb1
    go_wp2
    go_ret
    exact ⟨rfl, hbel⟩
  case' false =>
    simp only [Bool.not_false, Bool.true_and, Bool.false_eq_true, if_false] at rE
    obtain ⟨E, HE⟩ : ∃ E, Hid (evE xa ea = E) := ⟨_, rfl⟩
    have H2 := evE_two xa ea
    rw [HE.out] at rE H2
    rcases H2 with h0 | ⟨h0, h0'⟩
    rotate_left
    · subst h0
      simp only [Int.reduceEq, decide_false, Bool.false_eq_true, if_false] at rE
      go_wp2_with (first | refine load_s _ rfl rfl _ rfl ba ?_ | refine load_t _ rfl rfl _ _ rfl (Sx.tat0 ba) ?_ | refine load_t _ rfl rfl _ _ rfl (Sx.tat1 ba) ?_)
      refine (rE _ ia ja).mono ?_
      rintro e w3 ⟨nT, pT, lT, cT, mT, qT, kT, dT, rfl, iT, jT, hb1⟩
      replace ia := ia.later hb1
      replace ja := ja.later hb1
      replace ba := Rw.later ba hb1
      replace hbel := below_on hbel hb1
      clear hb1
      have zT := rw_new w3 26 #[.int .i64 0, .slice none 0 0, .int .i64 0, .slice none 0 0]
      obtain ⟨bT, hb1⟩ := s_new w3 nT pT lT cT mT qT kT dT _ rfl
      generalize hwT : (w3.alloc (.cells #[.int .i64 0, .slice none 0 0, .int .i64 0, .slice none 0 0] 26)).setRow w3.heap.size #[.int .i64 nT, .slice pT lT cT, .int .i64 mT, .slice qT kT dT] = vT at bT hb1
      replace ia := ia.later hb1
      replace ja := ja.later hb1
      replace iT := iT.later hb1
      replace jT := jT.later hb1
      replace ba := Rw.later ba hb1
      replace hbel := below_on hbel hb1
      clear hb1
      go_wp2_with (first | rw [hwT] | refine store_s rfl _ _ rfl _ nT pT lT cT mT qT kT dT rfl rfl zT ?_ | refine load_s _ rfl rfl _ rfl ba ?_ | refine load_s _ rfl rfl _ rfl bT ?_ | refine load_t _ rfl rfl _ _ rfl (Sx.tat0 ba) ?_ | refine load_t _ rfl rfl _ _ rfl (Sx.tat0 bT) ?_ | refine load_t _ rfl rfl _ _ rfl (Sx.tat1 ba) ?_ | refine load_t _ rfl rfl _ _ rfl (Sx.tat1 bT) ?_)
      clear zT hwT
      generalize w3.heap.size = rT at bT ⊢
      refine (heads_any _).mono ?_
      rintro e w4 ⟨rfl, hb1⟩
      replace ia := ia.later hb1
      replace ja := ja.later hb1
      replace iT := iT.later hb1
      replace jT := jT.later hb1
      replace ba := Rw.later ba hb1
      replace bT := Rw.later bT hb1
      replace hbel := below_on hbel hb1
      clear hb1
      go_wp2
      go_ret
      exact ⟨rfl, hbel⟩
    · subst h0
      simp only [decide_true, if_true] at rE
      have HG := ev_good xa ea OIa.out HN.out OJa.out HE.out
      generalize evX xa ea = X at rE HG
      have OX : Hid (ok X = true) := HG.ok
      have rC := fun w1 (a : Idn.Is w1 xa (TV na pa la ca)) (nT : Int) pT lT cT mT qT kT dT (c : Idn.Is w1 xa (TV nT pT lT cT)) (d : Is w1 X (TV mT qT kT dT)) => sCheck_is c d OIa.out OX.out
      have rS := fun w1 (a : Idn.Is w1 xa (TV na pa la ca)) (nT : Int) pT lT cT (c : Idn.Is w1 xa (TV nT pT lT cT)) => Idn.same_any xa xa nT pT lT cT na pa la ca w1 c a
      rw [Idn.eqb_refl] at rS
      have rL := fun w1 (a : Idn.Is w1 xa (TV na pa la ca)) (b : Is w1 ea (TV ma qa ka da)) (nT : Int) pT lT cT mT qT kT dT (c : Idn.Is w1 xa (TV nT pT lT cT)) (d : Is w1 X (TV mT qT kT dT)) => sLeq_is a b c d OIa.out OJa.out OIa.out OX.out
      have rR := fun w1 (a : Idn.Is w1 xa (TV na pa la ca)) (b : Is w1 ea (TV ma qa ka da)) (nT : Int) pT lT cT mT qT kT dT (c : Idn.Is w1 xa (TV nT pT lT cT)) (d : Is w1 X (TV mT qT kT dT)) => sLeq_is c d a b OIa.out OX.out OIa.out OJa.out
      rw [HG.up] at rL
      rw [HG.not] at rR
      obtain ⟨g1, g2⟩ := at_event HG m OIa.out
      have rA := fun w1 (b : Is w1 ea (TV ma qa ka da)) => at_any ea m ma qa ka da w1 b OJa.out
      have rB := fun w1 (mT : Int) qT kT dT (b : Is w1 X (TV mT qT kT dT)) => at_any X m mT qT kT dT w1 b OX.out
      have rO := fun w1 (a : Idn.Is w1 xa (TV na pa la ca)) => Idn.owns_any xa m na pa la ca w1 a
      clear HG HE HN OX OIa OJa
      have G1 : Hid (atX ea m ≤ atX X m) := g1
      have G2 : Hid (Idn.ownsT (Idn.toTr xa) m = false → atX X m = atX ea m) := g2
      clear g1 g2
      generalize atX ea m = vx at rA G1 G2
      generalize atX X m = vy at rB G1 G2
      generalize Idn.ownsT (Idn.toTr xa) m = ow at rO G2
      go_wp2_with (first | refine load_s _ rfl rfl _ rfl ba ?_ | refine load_t _ rfl rfl _ _ rfl (Sx.tat0 ba) ?_ | refine load_t _ rfl rfl _ _ rfl (Sx.tat1 ba) ?_)
      refine (rE _ ia ja).mono ?_
      rintro e w3 ⟨nT, pT, lT, cT, mT, qT, kT, dT, rfl, iT, jT, hb1⟩
      replace ia := ia.later hb1
      replace ja := ja.later hb1
      replace ba := Rw.later ba hb1
      replace hbel := below_on hbel hb1
      clear hb1
      have zT := rw_new w3 26 #[.int .i64 0, .slice none 0 0, .int .i64 0, .slice none 0 0]
      obtain ⟨bT, hb1⟩ := s_new w3 nT pT lT cT mT qT kT dT _ rfl
      generalize hwT : (w3.alloc (.cells #[.int .i64 0, .slice none 0 0, .int .i64 0, .slice none 0 0] 26)).setRow w3.heap.size #[.int .i64 nT, .slice pT lT cT, .int .i64 mT, .slice qT kT dT] = vT at bT hb1
      replace ia := ia.later hb1
      replace ja := ja.later hb1
      replace iT := iT.later hb1
      replace jT := jT.later hb1
      replace ba := Rw.later ba hb1
      replace hbel := below_on hbel hb1
      clear hb1
      replace rC := fun w1 a c d => rC w1 a nT pT lT cT mT qT kT dT c d
      replace rS := fun w1 a c => rS w1 a nT pT lT cT c
      replace rL := fun w1 a b c d => rL w1 a b nT pT lT cT mT qT kT dT c d
      replace rR := fun w1 a b c d => rR w1 a b nT pT lT cT mT qT kT dT c d
      replace rB := fun w1 d => rB w1 mT qT kT dT d
      go_wp2_with (first | rw [hwT] | refine store_s rfl _ _ rfl _ nT pT lT cT mT qT kT dT rfl rfl zT ?_ | refine load_s _ rfl rfl _ rfl ba ?_ | refine load_s _ rfl rfl _ rfl bT ?_ | refine load_t _ rfl rfl _ _ rfl (Sx.tat0 ba) ?_ | refine load_t _ rfl rfl _ _ rfl (Sx.tat0 bT) ?_ | refine load_t _ rfl rfl _ _ rfl (Sx.tat1 ba) ?_ | refine load_t _ rfl rfl _ _ rfl (Sx.tat1 bT) ?_)
      clear zT hwT
      generalize w3.heap.size = rT at bT ⊢
      refine (rC _ ia iT jT).mono ?_
      rintro e w4 ⟨rfl, hb1⟩
      replace ia := ia.later hb1
      replace ja := ja.later hb1
      replace iT := iT.later hb1
      replace jT := jT.later hb1
      replace ba := Rw.later ba hb1
      replace bT := Rw.later bT hb1
      replace hbel := below_on hbel hb1
      clear hb1
      go_wp2_with (first | refine load_s _ rfl rfl _ rfl ba ?_ | refine load_s _ rfl rfl _ rfl bT ?_ | refine load_t _ rfl rfl _ _ rfl (Sx.tat0 ba) ?_ | refine load_t _ rfl rfl _ _ rfl (Sx.tat0 bT) ?_ | refine load_t _ rfl rfl _ _ rfl (Sx.tat1 ba) ?_ | refine load_t _ rfl rfl _ _ rfl (Sx.tat1 bT) ?_)
      refine (rS _ ia iT).mono ?_
      rintro e w5 ⟨rfl, hb1⟩
      replace ia := ia.later hb1
      replace ja := ja.later hb1
      replace iT := iT.later hb1
      replace jT := jT.later hb1
      replace ba := Rw.later ba hb1
      replace bT := Rw.later bT hb1
      replace hbel := below_on hbel hb1
      clear hb1
      go_wp2_with (first | refine load_s _ rfl rfl _ rfl ba ?_ | refine load_s _ rfl rfl _ rfl bT ?_ | refine load_t _ rfl rfl _ _ rfl (Sx.tat0 ba) ?_ | refine load_t _ rfl rfl _ _ rfl (Sx.tat0 bT) ?_ | refine load_t _ rfl rfl _ _ rfl (Sx.tat1 ba) ?_ | refine load_t _ rfl rfl _ _ rfl (Sx.tat1 bT) ?_)
      refine (rL _ ia ja iT jT).mono ?_
      rintro e w6 ⟨rfl, hb1⟩
      replace ia := ia.later hb1
      replace ja := ja.later hb1
      replace iT := iT.later hb1
      replace jT := jT.later hb1
      replace ba := Rw.later ba hb1
      replace bT := Rw.later bT hb1
      replace hbel := below_on hbel hb1
      clear hb1
      go_wp2_with (first | refine load_s _ rfl rfl _ rfl ba ?_ | refine load_s _ rfl rfl _ rfl bT ?_ | refine load_t _ rfl rfl _ _ rfl (Sx.tat0 ba) ?_ | refine load_t _ rfl rfl _ _ rfl (Sx.tat0 bT) ?_ | refine load_t _ rfl rfl _ _ rfl (Sx.tat1 ba) ?_ | refine load_t _ rfl rfl _ _ rfl (Sx.tat1 bT) ?_)
      refine (rR _ ia ja iT jT).mono ?_
      rintro e w7 ⟨rfl, hb1⟩
      replace ia := ia.later hb1
      replace ja := ja.later hb1
      replace iT := iT.later hb1
      replace jT := jT.later hb1
      replace ba := Rw.later ba hb1
      replace bT := Rw.later bT hb1
      replace hbel := below_on hbel hb1
      clear hb1
      clear rC rS rL rR rE
      go_wp2_with fail
      have hs : Calm.Stays (fun w' => Sx w' w.heap.size na pa la ca ma qa ka da ∧ Sx w' rT nT pT lT cT mT qT kT dT ∧ Idn.Is w' xa (TV na pa la ca) ∧ Is w' ea (TV ma qa ka da) ∧ Is w' X (TV mT qT kT dT) ∧ Below w.heap.size w w') := fun wa wb h hb => ⟨Rw.later h.1 hb, Rw.later h.2.1 hb, h.2.2.1.later hb, h.2.2.2.1.later hb, h.2.2.2.2.1.later hb, below_on h.2.2.2.2.2 hb⟩
      refine Calm.region (by kernel_rfl) (by kernel_rfl) (fun w' => Sx w' w.heap.size na pa la ca ma qa ka da ∧ Sx w' rT nT pT lT cT mT qT kT dT ∧ Idn.Is w' xa (TV na pa la ca) ∧ Is w' ea (TV ma qa ka da) ∧ Is w' X (TV mT qT kT dT) ∧ Below w.heap.size w w') ⟨ba, bT, ia.later (Below.refl _ _).drew, ja.later (Below.refl _ _).drew, jT.later (Below.refl _ _).drew, hbel.drew⟩ ?_
      clear ba bT ia ja iT jT hbel
      all_goals
        refine Calm.pure (v := ?_) (by rfl) ?_ ?_
        rotate_left
        focus (intro w hSw; go_simp <;> rfl)
        simp only [Act.put, List.setIfInBounds_toArray, List.set_cons_zero, List.set_cons_succ]
      all_goals
        refine Calm.loadT (by rfl) _ rfl rfl (fun _ h => by go_split_ands; first | assumption | exact Sx.tat0 (by assumption) | exact Sx.tat1 (by assumption)) ?_
        simp only [Act.put, List.setIfInBounds_toArray, List.set_cons_zero, List.set_cons_succ]
      all_goals
        refine Calm.pure (v := ?_) (by rfl) ?_ ?_
        rotate_left
        focus (intro w hSw; go_simp <;> rfl)
        simp only [Act.put, List.setIfInBounds_toArray, List.set_cons_zero, List.set_cons_succ]
      all_goals
        refine Calm.call2s (by rfl) rfl rfl rfl (by kernel_rfl) hs (fun w1 h => rA w1 h.2.2.2.1) ?_
        simp only [Act.put, List.setIfInBounds_toArray, List.set_cons_zero, List.set_cons_succ]
      all_goals
        refine Calm.pure (v := ?_) (by rfl) ?_ ?_
        rotate_left
        focus (intro w hSw; go_simp <;> rfl)
        simp only [Act.put, List.setIfInBounds_toArray, List.set_cons_zero, List.set_cons_succ]
      all_goals
        refine Calm.loadT (by rfl) _ rfl rfl (fun _ h => by go_split_ands; first | assumption | exact Sx.tat0 (by assumption) | exact Sx.tat1 (by assumption)) ?_
        simp only [Act.put, List.setIfInBounds_toArray, List.set_cons_zero, List.set_cons_succ]
      all_goals
        refine Calm.pure (v := ?_) (by rfl) ?_ ?_
        rotate_left
        focus (intro w hSw; go_simp <;> rfl)
        simp only [Act.put, List.setIfInBounds_toArray, List.set_cons_zero, List.set_cons_succ]
      all_goals
        refine Calm.call2s (by rfl) rfl rfl rfl (by kernel_rfl) hs (fun w1 h => rB w1 h.2.2.2.2.1) ?_
        simp only [Act.put, List.setIfInBounds_toArray, List.set_cons_zero, List.set_cons_succ]
      all_goals
        refine Calm.pure (v := ?_) (by rfl) ?_ ?_
        rotate_left
        focus (intro w hSw; go_simp <;> rfl)
        simp only [Act.put, List.setIfInBounds_toArray, List.set_cons_zero, List.set_cons_succ]
      all_goals
        refine Calm.pure (v := ?_) (by rfl) ?_ ?_
        rotate_left
        focus (intro w hSw; go_simp <;> rfl)
        simp only [Act.put, List.setIfInBounds_toArray, List.set_cons_zero, List.set_cons_succ]
      rintro w9 ⟨ba, bT, ia, ja, jT, hbel⟩
      clear hs rA rB
      by_cases he : vx = vy
      · subst he
        clear rO G1 G2
        go_wp2_with fail
        refine (heads_any _).mono ?_
        rintro e w10 ⟨rfl, hb1⟩
        go_wp2
        go_ret
        exact ⟨rfl, below_on hbel hb1⟩
      · have hlt : vx < vy := by have := G1.out; omega
        obtain rfl : ow = true := by
          cases ow
          · exact absurd (G2.out rfl).symm he
          · rfl
        clear G1 G2
        go_wp2_with (refine load_t _ rfl rfl _ _ rfl (Sx.tat0 ba) ?_)
        refine (rO _ ia).mono ?_
        rintro e w10 ⟨rfl, hb1⟩
        replace hbel := below_on hbel hb1
        clear hb1 rO
        go_wp2_with fail
        refine (heads_any _).mono ?_
        rintro e w11 ⟨rfl, hb1⟩
        go_wp2
        go_ret
        exact ⟨rfl, below_on hbel hb1⟩
end Go.Proofs.Ytmcajjdijjcpkaa
