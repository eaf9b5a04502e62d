import Derived.Test.YtmcajjdijjcpkaaP25
/- The walk of StampJoins. -/
namespace Go.Proofs.Ytmcajjdijjcpkaa
open Go.RowKit
open Idn (ID)

set_option maxHeartbeats 16000000 in
set_option maxRecDepth 100000 in
theorem joins_any (Xa Ya Xb Yb : Tr) (na : Int) (pa : Option Addr) (la ca : Nat) (ma : Int) (qa : Option Addr) (ka da : Nat) (nb : Int) (pb : Option Addr) (lb cb : Nat) (mb : Int) (qb : Option Addr) (kb db : Nat) (w : World) (ta : Lies w Xa (TV na pa la ca)) (ua : Lies w Ya (TV ma qa ka da)) (tb : Lies w Xb (TV nb pb lb cb)) (ub : Lies w Yb (TV mb qb kb db)) :
    Calls Try.prog 3 #[SV na pa la ca ma qa ka da, SV nb pb lb cb mb qb kb db] w (Tells (.bool true) w) := by
  obtain ⟨ba, bb, hbel⟩ := two_r w 26 #[.int .i64 na, .slice pa la ca, .int .i64 ma, .slice qa ka da] 26 #[.int .i64 nb, .slice pb lb cb, .int .i64 mb, .slice qb kb db] _ rfl
  replace ta := ta.later hbel
  replace ua := ua.later hbel
  have rKa := fun w1 (h : Lies w1 Xa (TV na pa la ca)) (h' : Lies w1 Ya (TV ma qa ka da)) => check_s Xa Ya na pa la ca ma qa ka da w1 h h'
  obtain ⟨oka, HKa⟩ : ∃ k, Hid ((Idn.okT Xa && okT Ya) = k) := ⟨_, rfl⟩
  rw [HKa.out] at rKa
  replace tb := tb.later hbel
  replace ub := ub.later hbel
  have rKb := fun w1 (h : Lies w1 Xb (TV nb pb lb cb)) (h' : Lies w1 Yb (TV mb qb kb db)) => check_s Xb Yb nb pb lb cb mb qb kb db w1 h h'
  obtain ⟨okb, HKb⟩ : ∃ k, Hid ((Idn.okT Xb && okT Yb) = k) := ⟨_, rfl⟩
  rw [HKb.out] at rKb
  go_enter Try.func3, Try.ntmps3
  go_wp2_with (first | refine load_s _ rfl rfl _ rfl ba ?_ | refine load_s _ rfl rfl _ rfl bb ?_ | refine load_t _ rfl rfl _ _ rfl (Sx.tat0 ba) ?_ | refine load_t _ rfl rfl _ _ rfl (Sx.tat0 bb) ?_ | refine load_t _ rfl rfl _ _ rfl (Sx.tat1 ba) ?_ | refine load_t _ rfl rfl _ _ rfl (Sx.tat1 bb) ?_)
  refine (few_s Xa Ya na pa la ca ma qa ka da _ ta ua).mono ?_
  rintro e w1 ⟨fw, rfl, hsz, hb1⟩
  have HFa : Hid (fw = true → sz Xa ≤ 120 ∧ sz Ya ≤ 120) := hsz
  clear hsz
  replace ta := ta.later hb1
  replace tb := tb.later hb1
  replace ua := ua.later hb1
  replace ub := ub.later hb1
  replace ba := Rw.later ba hb1
  replace bb := Rw.later bb hb1
  replace hbel := below_on hbel hb1
  clear hb1
  cases fw
  case' false =>
    clear ta tb ua ub ba bb
    go_wp2_with fail
    refine (heads_any _).mono ?_
    rintro e w9 ⟨rfl, hb1⟩
    go_wp2
    go_ret
    exact ⟨rfl, below_on hbel hb1⟩
  go_wp2_with (first | refine load_s _ rfl rfl _ rfl ba ?_ | refine load_s _ rfl rfl _ rfl bb ?_ | refine load_t _ rfl rfl _ _ rfl (Sx.tat0 ba) ?_ | refine load_t _ rfl rfl _ _ rfl (Sx.tat0 bb) ?_ | refine load_t _ rfl rfl _ _ rfl (Sx.tat1 ba) ?_ | refine load_t _ rfl rfl _ _ rfl (Sx.tat1 bb) ?_)
  refine (few_s Xb Yb nb pb lb cb mb qb kb db _ tb ub).mono ?_
  rintro e w2 ⟨fw, rfl, hsz, hb1⟩
  have HFb : Hid (fw = true → sz Xb ≤ 120 ∧ sz Yb ≤ 120) := hsz
  clear hsz
  replace ta := ta.later hb1
  replace tb := tb.later hb1
  replace ua := ua.later hb1
  replace ub := ub.later hb1
  replace ba := Rw.later ba hb1
  replace bb := Rw.later bb hb1
  replace hbel := below_on hbel hb1
  clear hb1
  cases fw
  case' false =>
    clear ta tb ua ub ba bb
    go_wp2_with fail
    refine (heads_any _).mono ?_
    rintro e w9 ⟨rfl, hb1⟩
    go_wp2
    go_ret
    exact ⟨rfl, below_on hbel hb1⟩
  go_wp2_with (first | refine load_s _ rfl rfl _ rfl ba ?_ | refine load_s _ rfl rfl _ rfl bb ?_ | refine load_t _ rfl rfl _ _ rfl (Sx.tat0 ba) ?_ | refine load_t _ rfl rfl _ _ rfl (Sx.tat0 bb) ?_ | refine load_t _ rfl rfl _ _ rfl (Sx.tat1 ba) ?_ | refine load_t _ rfl rfl _ _ rfl (Sx.tat1 bb) ?_)
  refine (rKa _ ta ua).mono ?_
  rintro e w3 ⟨rfl, hb1⟩
  replace ta := ta.later hb1
  replace tb := tb.later hb1
  replace ua := ua.later hb1
  replace ub := ub.later hb1
  replace ba := Rw.later ba hb1
  replace bb := Rw.later bb hb1
  replace hbel := below_on hbel hb1
  clear hb1
  cases oka
  case' false =>
    clear ta tb ua ub ba bb
    go_wp2_with fail
    refine (heads_any _).mono ?_
    rintro e w9 ⟨rfl, hb1⟩
    go_wp2
    go_ret
    exact ⟨rfl, below_on hbel hb1⟩
  go_wp2_with (first | refine load_s _ rfl rfl _ rfl ba ?_ | refine load_s _ rfl rfl _ rfl bb ?_ | refine load_t _ rfl rfl _ _ rfl (Sx.tat0 ba) ?_ | refine load_t _ rfl rfl _ _ rfl (Sx.tat0 bb) ?_ | refine load_t _ rfl rfl _ _ rfl (Sx.tat1 ba) ?_ | refine load_t _ rfl rfl _ _ rfl (Sx.tat1 bb) ?_)
  refine (rKb _ tb ub).mono ?_
  rintro e w4 ⟨rfl, hb1⟩
  replace ta := ta.later hb1
  replace tb := tb.later hb1
  replace ua := ua.later hb1
  replace ub := ub.later hb1
  replace ba := Rw.later ba hb1
  replace bb := Rw.later bb hb1
  replace hbel := below_on hbel hb1
  clear hb1
  cases okb
  case' false =>
    clear ta tb ua ub ba bb
    go_wp2_with fail
    refine (heads_any _).mono ?_
    rintro e w9 ⟨rfl, hb1⟩
    go_wp2
    go_ret
    exact ⟨rfl, below_on hbel hb1⟩
  obtain ⟨hK1, hK2⟩ : Idn.okT Xa = true ∧ okT Ya = true := by simpa using HKa.out
  obtain ⟨ia, oia⟩ := okI_of ta hK1
  obtain ⟨ja, oja⟩ := ok_of ua hK2
  have OIa : Hid (Idn.ok (Idn.idOf Xa) = true) := oia
  have OJa : Hid (ok (evOf Ya) = true) := oja
  have HYa : Hid (okT Ya = true) := hK2
  have HZa : Hid (sz Ya ≤ 120) := (HFa.out (by first | rfl | trivial)).2
  clear hK1 hK2 oia oja HKa HFa ta rKa
  obtain ⟨hK1, hK2⟩ : Idn.okT Xb = true ∧ okT Yb = true := by simpa using HKb.out
  obtain ⟨ib, oib⟩ := okI_of tb hK1
  obtain ⟨jb, ojb⟩ := ok_of ub hK2
  have OIb : Hid (Idn.ok (Idn.idOf Xb) = true) := oib
  have OJb : Hid (ok (evOf Yb) = true) := ojb
  have HYb : Hid (okT Yb = true) := hK2
  have HZb : Hid (sz Yb ≤ 120) := (HFb.out (by first | rfl | trivial)).2
  clear hK1 hK2 oib ojb HKb HFb tb rKb
  have rP := fun w1 (h : Lies w1 Ya (TV ma qa ka da)) => peek_is (n := na) (p := pa) (l := la) (c := ca) h HZa.out HYa.out rfl
  generalize evOf Ya = ea at ja OJa rP
  generalize evOf Yb = eb at jb OJb
  generalize Idn.idOf Xa = xa at ia OIa
  generalize Idn.idOf Xb = xb at ib OIb
  clear HZa HZb HYa HYb ub
  go_wp2_with (first | refine load_s _ rfl rfl _ rfl ba ?_ | refine load_s _ rfl rfl _ rfl bb ?_ | refine load_t _ rfl rfl _ _ rfl (Sx.tat0 ba) ?_ | refine load_t _ rfl rfl _ _ rfl (Sx.tat0 bb) ?_ | refine load_t _ rfl rfl _ _ rfl (Sx.tat1 ba) ?_ | refine load_t _ rfl rfl _ _ rfl (Sx.tat1 bb) ?_)
  refine (rP _ ua).mono ?_
  rintro e w5 ⟨nP, pP, lP, cP, mP, qP, kP, dP, rfl, iP, jP, hb1⟩
  replace ia := ia.later hb1
  replace ib := ib.later hb1
  replace ja := ja.later hb1
  replace jb := jb.later hb1
  replace ua := ua.later hb1
  replace ba := Rw.later ba hb1
  replace bb := Rw.later bb hb1
  replace hbel := below_on hbel hb1
  clear hb1
  have zP := rw_new w5 26 #[.int .i64 0, .slice none 0 0, .int .i64 0, .slice none 0 0]
  obtain ⟨bP, hb1⟩ := s_new w5 nP pP lP cP mP qP kP dP _ rfl
  generalize hwP : (w5.alloc (.cells #[.int .i64 0, .slice none 0 0, .int .i64 0, .slice none 0 0] 26)).setRow w5.heap.size #[.int .i64 nP, .slice pP lP cP, .int .i64 mP, .slice qP kP dP] = vP at bP hb1
  replace ia := ia.later hb1
  replace ib := ib.later hb1
  replace ja := ja.later hb1
  replace jb := jb.later hb1
  replace ua := ua.later hb1
  replace iP := iP.later hb1
  replace jP := jP.later hb1
  replace ba := Rw.later ba hb1
  replace bb := Rw.later bb hb1
  replace hbel := below_on hbel hb1
  clear hb1
  clear ua rP
  go_wp2_with (first | rw [hwP] | refine store_s rfl _ _ rfl _ nP pP lP cP mP qP kP dP rfl rfl zP ?_ | refine load_s _ rfl rfl _ rfl ba ?_ | refine load_s _ rfl rfl _ rfl bb ?_ | refine load_s _ rfl rfl _ rfl bP ?_ | refine load_t _ rfl rfl _ _ rfl (Sx.tat0 ba) ?_ | refine load_t _ rfl rfl _ _ rfl (Sx.tat0 bb) ?_ | refine load_t _ rfl rfl _ _ rfl (Sx.tat0 bP) ?_ | refine load_t _ rfl rfl _ _ rfl (Sx.tat1 ba) ?_ | refine load_t _ rfl rfl _ _ rfl (Sx.tat1 bb) ?_ | refine load_t _ rfl rfl _ _ rfl (Sx.tat1 bP) ?_)
  clear zP hwP
  generalize w5.heap.size = rP at bP ⊢
  refine (join_ok xa xb ea eb _ _ _ _ _ _ _ _ _ _ _ _ _ _ _ _ _ ia ja ib jb OIa.out OJa.out OIb.out OJb.out).mono ?_
  rintro e w6 ⟨nJ, pJ, lJ, cJ, mJ, qJ, kJ, dJ, rfl, iJ, jJ, hb1⟩
  replace ia := ia.later hb1
  replace ib := ib.later hb1
  replace ja := ja.later hb1
  replace jb := jb.later hb1
  replace iP := iP.later hb1
  replace jP := jP.later hb1
  replace ba := Rw.later ba hb1
  replace bb := Rw.later bb hb1
  replace bP := Rw.later bP hb1
  replace hbel := below_on hbel hb1
  clear hb1
  have zJ := rw_new w6 26 #[.int .i64 0, .slice none 0 0, .int .i64 0, .slice none 0 0]
  obtain ⟨bJ, hb1⟩ := s_new w6 nJ pJ lJ cJ mJ qJ kJ dJ _ rfl
  generalize hwJ : (w6.alloc (.cells #[.int .i64 0, .slice none 0 0, .int .i64 0, .slice none 0 0] 26)).setRow w6.heap.size #[.int .i64 nJ, .slice pJ lJ cJ, .int .i64 mJ, .slice qJ kJ dJ] = vJ at bJ hb1
  replace ia := ia.later hb1
  replace ib := ib.later hb1
  replace ja := ja.later hb1
  replace jb := jb.later hb1
  replace iP := iP.later hb1
  replace jP := jP.later hb1
  replace iJ := iJ.later hb1
  replace jJ := jJ.later hb1
  replace ba := Rw.later ba hb1
  replace bb := Rw.later bb hb1
  replace bP := Rw.later bP hb1
  replace hbel := below_on hbel hb1
  clear hb1
  have rA := fun w1 (h : Idn.Is w1 xa (TV na pa la ca)) (h' : Idn.Is w1 xb (TV nb pb lb cb)) => Idn.apart_any xa xb na pa la ca nb pb lb cb w1 h h'
  rw [Idn.sumE_ok OIa.out OIb.out] at rA
  obtain ⟨U, HU⟩ : ∃ U, Hid (Idn.unite xa xb = U) := ⟨_, rfl⟩
  unfold jI at iJ
  unfold jX at jJ
  unfold jE
  rw [HU.out] at iJ jJ rA ⊢
  cases U
  case' none =>
    simp only [Idn.uT, Idn.uE, Option.getD_none, Option.isSome_none, Bool.false_eq_true, if_false] at iJ jJ rA ⊢
    simp only [Int.reduceBEq] at rA
    go_wp2_with (first | rw [hwJ] | refine store_s rfl _ _ rfl _ nJ pJ lJ cJ mJ qJ kJ dJ rfl rfl zJ ?_ | refine load_s _ rfl rfl _ rfl ba ?_ | refine load_s _ rfl rfl _ rfl bb ?_ | refine load_s _ rfl rfl _ rfl bP ?_ | refine load_s _ rfl rfl _ rfl bJ ?_ | refine load_t _ rfl rfl _ _ rfl (Sx.tat0 ba) ?_ | refine load_t _ rfl rfl _ _ rfl (Sx.tat0 bb) ?_ | refine load_t _ rfl rfl _ _ rfl (Sx.tat0 bP) ?_ | refine load_t _ rfl rfl _ _ rfl (Sx.tat0 bJ) ?_ | refine load_t _ rfl rfl _ _ rfl (Sx.tat1 ba) ?_ | refine load_t _ rfl rfl _ _ rfl (Sx.tat1 bb) ?_ | refine load_t _ rfl rfl _ _ rfl (Sx.tat1 bP) ?_ | refine load_t _ rfl rfl _ _ rfl (Sx.tat1 bJ) ?_)
    refine (rA _ ia ib).mono ?_
    rintro e w7 ⟨rfl, hb1⟩
    replace ia := ia.later hb1
    replace ib := ib.later hb1
    replace ja := ja.later hb1
    replace jb := jb.later hb1
    replace iP := iP.later hb1
    replace jP := jP.later hb1
    replace iJ := iJ.later hb1
    replace jJ := jJ.later hb1
    replace ba := Rw.later ba hb1
    replace bb := Rw.later bb hb1
    replace bP := Rw.later bP hb1
    replace bJ := Rw.later bJ hb1
    replace hbel := below_on hbel hb1
    clear hb1
    go_wp2_with fail
    refine (heads_any _).mono ?_
    rintro e w8 ⟨rfl, hb1⟩
    replace ia := ia.later hb1
    replace ib := ib.later hb1
    replace ja := ja.later hb1
    replace jb := jb.later hb1
    replace iP := iP.later hb1
    replace jP := jP.later hb1
    replace iJ := iJ.later hb1
    replace jJ := jJ.later hb1
    replace ba := Rw.later ba hb1
    replace bb := Rw.later bb hb1
    replace bP := Rw.later bP hb1
    replace bJ := Rw.later bJ hb1
    replace hbel := below_on hbel hb1
    clear hb1
    go_wp2
    go_ret
    exact ⟨rfl, hbel⟩
  case' some z =>
    simp only [Idn.uT, Idn.uE, Option.getD_some, Option.isSome_some, if_true] at iJ jJ ⊢
    clear rA
    have OZ : Hid (Idn.ok z = true) := Idn.ok_of (Nat.le_trans (Idn.depth_unite xa xb z HU.out) (by have := (Idn.ok_parts OIa.out).1; have := (Idn.ok_parts OIb.out).1; omega)) (Idn.short_unite xa xb z (Idn.ok_parts OIa.out).2 (Idn.ok_parts OIb.out).2 HU.out)
    have OJ : Hid (ok (join 16 ea eb) = true) := by
      show _ = _
      unfold ok
      rw [rg_join (ok_parts OJa.out).1 (ok_parts OJb.out).1, short_join]
      rfl
    have qAJ := fun w1 (a : Idn.Is w1 xa (TV na pa la ca)) (b : Is w1 ea (TV ma qa ka da)) (c : Idn.Is w1 z (TV nJ pJ lJ cJ)) (d : Is w1 (join 16 ea eb) (TV mJ qJ kJ dJ)) => sLeq_is a b c d OIa.out OJa.out OZ.out OJ.out
    rw [leq_join] at qAJ
    have qBJ := fun w1 (a : Idn.Is w1 xb (TV nb pb lb cb)) (b : Is w1 eb (TV mb qb kb db)) (c : Idn.Is w1 z (TV nJ pJ lJ cJ)) (d : Is w1 (join 16 ea eb) (TV mJ qJ kJ dJ)) => sLeq_is a b c d OIb.out OJb.out OZ.out OJ.out
    rw [show leq 16 eb (join 16 ea eb) = true by rw [join_comm]; exact leq_join 16 eb ea] at qBJ
    have qPA := fun w1 (a : Idn.Is w1 zI (TV nP pP lP cP)) (b : Is w1 ea (TV mP qP kP dP)) (c : Idn.Is w1 xa (TV na pa la ca)) (d : Is w1 ea (TV ma qa ka da)) => sLeq_is a b c d kZ OJa.out OIa.out OJa.out
    rw [leq_refl] at qPA
    have qAP := fun w1 (a : Idn.Is w1 zI (TV nP pP lP cP)) (b : Is w1 ea (TV mP qP kP dP)) (c : Idn.Is w1 xa (TV na pa la ca)) (d : Is w1 ea (TV ma qa ka da)) => sLeq_is c d a b OIa.out OJa.out kZ OJa.out
    rw [leq_refl] at qAP
    have sJ := fun w1 (a : Idn.Is w1 z (TV nJ pJ lJ cJ)) => share_is a OZ.out
    have sA := fun w1 (a : Idn.Is w1 xa (TV na pa la ca)) => share_is a OIa.out
    have sB := fun w1 (a : Idn.Is w1 xb (TV nb pb lb cb)) => share_is a OIb.out
    have sP := fun w1 (a : Idn.Is w1 zI (TV nP pP lP cP)) => share_is a kZ
    rw [Idn.own_leaf_false] at sP
    have HO := Idn.own_unite xa xb z 16 (Idn.ok_parts OIa.out).1 (Idn.ok_parts OIb.out).1 HU.out
    have HA := Idn.own_le xa 65536
    have HB := Idn.own_le xb 65536
    rw [show (2 : Nat) ^ 16 = 65536 by decide] at HO
    rw [HO] at sJ
    clear HO HU OZ OJ OIa OJa OIb OJb
    generalize Idn.own xa 65536 = A at sA sJ HA
    generalize Idn.own xb 65536 = B at sB sJ HB
    have hwr : IntKind.i64.wrap ((A : Int) + (B : Int)) = ((A + B : Nat) : Int) := by rw [IntKind.wrap_i64]; omega
    simp only [Int.cast_ofNat_Int] at sP
    go_wp2_with (first | rw [hwJ] | refine store_s rfl _ _ rfl _ nJ pJ lJ cJ mJ qJ kJ dJ rfl rfl zJ ?_ | refine load_s _ rfl rfl _ rfl ba ?_ | refine load_s _ rfl rfl _ rfl bb ?_ | refine load_s _ rfl rfl _ rfl bP ?_ | refine load_s _ rfl rfl _ rfl bJ ?_ | refine load_t _ rfl rfl _ _ rfl (Sx.tat0 ba) ?_ | refine load_t _ rfl rfl _ _ rfl (Sx.tat0 bb) ?_ | refine load_t _ rfl rfl _ _ rfl (Sx.tat0 bP) ?_ | refine load_t _ rfl rfl _ _ rfl (Sx.tat0 bJ) ?_ | refine load_t _ rfl rfl _ _ rfl (Sx.tat1 ba) ?_ | refine load_t _ rfl rfl _ _ rfl (Sx.tat1 bb) ?_ | refine load_t _ rfl rfl _ _ rfl (Sx.tat1 bP) ?_ | refine load_t _ rfl rfl _ _ rfl (Sx.tat1 bJ) ?_)
    clear zJ hwJ
    generalize w6.heap.size = rJ at bJ ⊢
    have hs : Calm.Stays (fun w' => Sx w' w.heap.size na pa la ca ma qa ka da ∧ Sx w' (w.heap.size + 1) nb pb lb cb mb qb kb db ∧ Sx w' rP nP pP lP cP mP qP kP dP ∧ Sx w' rJ nJ pJ lJ cJ mJ qJ kJ dJ ∧ Idn.Is w' xa (TV na pa la ca) ∧ Is w' ea (TV ma qa ka da) ∧ Idn.Is w' xb (TV nb pb lb cb) ∧ Is w' eb (TV mb qb kb db) ∧ Idn.Is w' zI (TV nP pP lP cP) ∧ Is w' ea (TV mP qP kP dP) ∧ Idn.Is w' z (TV nJ pJ lJ cJ) ∧ Is w' (join 16 ea eb) (TV mJ qJ kJ dJ) ∧ Below w.heap.size w w') := fun wa wb h hb => ⟨Rw.later h.1 hb, Rw.later h.2.1 hb, Rw.later h.2.2.1 hb, Rw.later h.2.2.2.1 hb, h.2.2.2.2.1.later hb, h.2.2.2.2.2.1.later hb, h.2.2.2.2.2.2.1.later hb, h.2.2.2.2.2.2.2.1.later hb, h.2.2.2.2.2.2.2.2.1.later hb, h.2.2.2.2.2.2.2.2.2.1.later hb, h.2.2.2.2.2.2.2.2.2.2.1.later hb, h.2.2.2.2.2.2.2.2.2.2.2.1.later hb, below_on h.2.2.2.2.2.2.2.2.2.2.2.2 hb⟩
    refine Calm.region (by kernel_rfl) (by kernel_rfl) (fun w' => Sx w' w.heap.size na pa la ca ma qa ka da ∧ Sx w' (w.heap.size + 1) nb pb lb cb mb qb kb db ∧ Sx w' rP nP pP lP cP mP qP kP dP ∧ Sx w' rJ nJ pJ lJ cJ mJ qJ kJ dJ ∧ Idn.Is w' xa (TV na pa la ca) ∧ Is w' ea (TV ma qa ka da) ∧ Idn.Is w' xb (TV nb pb lb cb) ∧ Is w' eb (TV mb qb kb db) ∧ Idn.Is w' zI (TV nP pP lP cP) ∧ Is w' ea (TV mP qP kP dP) ∧ Idn.Is w' z (TV nJ pJ lJ cJ) ∧ Is w' (join 16 ea eb) (TV mJ qJ kJ dJ) ∧ Below w.heap.size w w') ⟨ba, bb, bP, bJ, ia.later (Below.refl _ _).drew, ja.later (Below.refl _ _).drew, ib.later (Below.refl _ _).drew, jb.later (Below.refl _ _).drew, iP.later (Below.refl _ _).drew, jP.later (Below.refl _ _).drew, iJ.later (Below.refl _ _).drew, jJ.later (Below.refl _ _).drew, hbel.drew⟩ ?_
    clear ba bb bP bJ ia ja ib jb iP jP iJ jJ hbel
    all_goals
      refine Calm.loadS (by rfl) _ rfl rfl (fun _ h => by go_split_ands; assumption) ?_
      simp only [Act.put, List.setIfInBounds_toArray, List.set_cons_zero, List.set_cons_succ]
    all_goals
      refine Calm.loadS (by rfl) _ rfl rfl (fun _ h => by go_split_ands; assumption) ?_
      simp only [Act.put, List.setIfInBounds_toArray, List.set_cons_zero, List.set_cons_succ]
    all_goals
      refine Calm.call2s (by rfl) rfl rfl rfl (by kernel_rfl) hs (fun w1 h => qAJ w1 h.2.2.2.2.1 h.2.2.2.2.2.1 h.2.2.2.2.2.2.2.2.2.2.1 h.2.2.2.2.2.2.2.2.2.2.2.1) ?_
      simp only [Act.put, List.setIfInBounds_toArray, List.set_cons_zero, List.set_cons_succ]
    all_goals
      refine Calm.pure (v := ?_) (by rfl) ?_ ?_
      rotate_left
      focus (intro w hSw; go_simp <;> rfl)
      simp only [Act.put, List.setIfInBounds_toArray, List.set_cons_zero, List.set_cons_succ]
    all_goals
      first
        | (refine Calm.skip ?_ ?_; focus rfl)
        | (refine Calm.loadS (by rfl) _ rfl rfl (fun _ h => by go_split_ands; assumption) ?_)
      simp only [Act.put, List.setIfInBounds_toArray, List.set_cons_zero, List.set_cons_succ]
    all_goals
      first
        | (refine Calm.skip ?_ ?_; focus rfl)
        | (refine Calm.loadS (by rfl) _ rfl rfl (fun _ h => by go_split_ands; assumption) ?_)
      simp only [Act.put, List.setIfInBounds_toArray, List.set_cons_zero, List.set_cons_succ]
    all_goals
      first
        | (refine Calm.skip ?_ ?_; focus rfl)
        | (refine Calm.call2s (by rfl) rfl rfl rfl (by kernel_rfl) hs (fun w1 h => qBJ w1 h.2.2.2.2.2.2.1 h.2.2.2.2.2.2.2.1 h.2.2.2.2.2.2.2.2.2.2.1 h.2.2.2.2.2.2.2.2.2.2.2.1) ?_)
      simp only [Act.put, List.setIfInBounds_toArray, List.set_cons_zero, List.set_cons_succ]
    all_goals
      refine Calm.pure (v := ?_) (by rfl) ?_ ?_
      rotate_left
      focus (intro w hSw; go_simp <;> rfl)
      simp only [Act.put, List.setIfInBounds_toArray, List.set_cons_zero, List.set_cons_succ]
    all_goals
      refine Calm.pure (v := ?_) (by rfl) ?_ ?_
      rotate_left
      focus (intro w hSw; go_simp <;> rfl)
      simp only [Act.put, List.setIfInBounds_toArray, List.set_cons_zero, List.set_cons_succ]
    all_goals
      first
        | (refine Calm.skip ?_ ?_; focus rfl)
        | (refine Calm.pure (v := ?_) (by rfl) ?_ ?_
           rotate_left
           focus (intro w hSw; go_simp <;> rfl))
      simp only [Act.put, List.setIfInBounds_toArray, List.set_cons_zero, List.set_cons_succ]
    all_goals
      first
        | (refine Calm.skip ?_ ?_; focus rfl)
        | (refine Calm.loadT (by rfl) _ rfl rfl (fun _ h => by go_split_ands; first | assumption | exact Sx.tat0 (by assumption) | exact Sx.tat1 (by assumption)) ?_)
      simp only [Act.put, List.setIfInBounds_toArray, List.set_cons_zero, List.set_cons_succ]
    all_goals
      first
        | (refine Calm.skip ?_ ?_; focus rfl)
        | (refine Calm.call1s (by rfl) rfl rfl (by kernel_rfl) hs (fun w1 h => sJ w1 h.2.2.2.2.2.2.2.2.2.2.1) ?_)
      simp only [Act.put, List.setIfInBounds_toArray, List.set_cons_zero, List.set_cons_succ]
    all_goals
      first
        | (refine Calm.skip ?_ ?_; focus rfl)
        | (refine Calm.pure (v := ?_) (by rfl) ?_ ?_
           rotate_left
           focus (intro w hSw; go_simp <;> rfl))
      simp only [Act.put, List.setIfInBounds_toArray, List.set_cons_zero, List.set_cons_succ]
    all_goals
      first
        | (refine Calm.skip ?_ ?_; focus rfl)
        | (refine Calm.loadT (by rfl) _ rfl rfl (fun _ h => by go_split_ands; first | assumption | exact Sx.tat0 (by assumption) | exact Sx.tat1 (by assumption)) ?_)
      simp only [Act.put, List.setIfInBounds_toArray, List.set_cons_zero, List.set_cons_succ]
    all_goals
      first
        | (refine Calm.skip ?_ ?_; focus rfl)
        | (refine Calm.call1s (by rfl) rfl rfl (by kernel_rfl) hs (fun w1 h => sA w1 h.2.2.2.2.1) ?_)
      simp only [Act.put, List.setIfInBounds_toArray, List.set_cons_zero, List.set_cons_succ]
    all_goals
      first
        | (refine Calm.skip ?_ ?_; focus rfl)
        | (refine Calm.pure (v := ?_) (by rfl) ?_ ?_
           rotate_left
           focus (intro w hSw; go_simp <;> rfl))
      simp only [Act.put, List.setIfInBounds_toArray, List.set_cons_zero, List.set_cons_succ]
    all_goals
      first
        | (refine Calm.skip ?_ ?_; focus rfl)
        | (refine Calm.loadT (by rfl) _ rfl rfl (fun _ h => by go_split_ands; first | assumption | exact Sx.tat0 (by assumption) | exact Sx.tat1 (by assumption)) ?_)
      simp only [Act.put, List.setIfInBounds_toArray, List.set_cons_zero, List.set_cons_succ]
    all_goals
      first
        | (refine Calm.skip ?_ ?_; focus rfl)
        | (refine Calm.call1s (by rfl) rfl rfl (by kernel_rfl) hs (fun w1 h => sB w1 h.2.2.2.2.2.2.1) ?_)
      simp only [Act.put, List.setIfInBounds_toArray, List.set_cons_zero, List.set_cons_succ]
    all_goals
      first
        | (refine Calm.skip ?_ ?_; focus rfl)
        | (refine Calm.pure (v := ?_) (by rfl) ?_ ?_
           rotate_left
           focus (intro w hSw; go_simp <;> rfl))
      simp only [Act.put, List.setIfInBounds_toArray, List.set_cons_zero, List.set_cons_succ]
    all_goals
      first
        | (refine Calm.skip ?_ ?_; focus rfl)
        | (refine Calm.pure (v := ?_) (by rfl) ?_ ?_
           rotate_left
           focus (intro w hSw; go_simp <;> rfl))
      simp only [Act.put, List.setIfInBounds_toArray, List.set_cons_zero, List.set_cons_succ]
    all_goals
      refine Calm.pure (v := ?_) (by rfl) ?_ ?_
      rotate_left
      focus (intro w hSw; go_simp <;> rfl)
      simp only [Act.put, List.setIfInBounds_toArray, List.set_cons_zero, List.set_cons_succ]
    all_goals
      refine Calm.pure (v := ?_) (by rfl) ?_ ?_
      rotate_left
      focus (intro w hSw; go_simp <;> rfl)
      simp only [Act.put, List.setIfInBounds_toArray, List.set_cons_zero, List.set_cons_succ]
    all_goals
      first
        | (refine Calm.skip ?_ ?_; focus rfl)
        | (refine Calm.loadS (by rfl) _ rfl rfl (fun _ h => by go_split_ands; assumption) ?_)
      simp only [Act.put, List.setIfInBounds_toArray, List.set_cons_zero, List.set_cons_succ]
    all_goals
      first
        | (refine Calm.skip ?_ ?_; focus rfl)
        | (refine Calm.loadS (by rfl) _ rfl rfl (fun _ h => by go_split_ands; assumption) ?_)
      simp only [Act.put, List.setIfInBounds_toArray, List.set_cons_zero, List.set_cons_succ]
    all_goals
      first
        | (refine Calm.skip ?_ ?_; focus rfl)
        | (refine Calm.call2s (by rfl) rfl rfl rfl (by kernel_rfl) hs (fun w1 h => qPA w1 h.2.2.2.2.2.2.2.2.1 h.2.2.2.2.2.2.2.2.2.1 h.2.2.2.2.1 h.2.2.2.2.2.1) ?_)
      simp only [Act.put, List.setIfInBounds_toArray, List.set_cons_zero, List.set_cons_succ]
    all_goals
      refine Calm.pure (v := ?_) (by rfl) ?_ ?_
      rotate_left
      focus (intro w hSw; go_simp <;> rfl)
      simp only [Act.put, List.setIfInBounds_toArray, List.set_cons_zero, List.set_cons_succ]
    all_goals
      refine Calm.pure (v := ?_) (by rfl) ?_ ?_
      rotate_left
      focus (intro w hSw; go_simp <;> rfl)
      simp only [Act.put, List.setIfInBounds_toArray, List.set_cons_zero, List.set_cons_succ]
    all_goals
      first
        | (refine Calm.skip ?_ ?_; focus rfl)
        | (refine Calm.loadS (by rfl) _ rfl rfl (fun _ h => by go_split_ands; assumption) ?_)
      simp only [Act.put, List.setIfInBounds_toArray, List.set_cons_zero, List.set_cons_succ]
    all_goals
      first
        | (refine Calm.skip ?_ ?_; focus rfl)
        | (refine Calm.loadS (by rfl) _ rfl rfl (fun _ h => by go_split_ands; assumption) ?_)
      simp only [Act.put, List.setIfInBounds_toArray, List.set_cons_zero, List.set_cons_succ]
    all_goals
      first
        | (refine Calm.skip ?_ ?_; focus rfl)
        | (refine Calm.call2s (by rfl) rfl rfl rfl (by kernel_rfl) hs (fun w1 h => qAP w1 h.2.2.2.2.2.2.2.2.1 h.2.2.2.2.2.2.2.2.2.1 h.2.2.2.2.1 h.2.2.2.2.2.1) ?_)
      simp only [Act.put, List.setIfInBounds_toArray, List.set_cons_zero, List.set_cons_succ]
    all_goals
      refine Calm.pure (v := ?_) (by rfl) ?_ ?_
      rotate_left
      focus (intro w hSw; go_simp <;> rfl)
      simp only [Act.put, List.setIfInBounds_toArray, List.set_cons_zero, List.set_cons_succ]
    all_goals
      refine Calm.pure (v := ?_) (by rfl) ?_ ?_
      rotate_left
      focus (intro w hSw; go_simp <;> rfl)
      simp only [Act.put, List.setIfInBounds_toArray, List.set_cons_zero, List.set_cons_succ]
    all_goals
      first
        | (refine Calm.skip ?_ ?_; focus rfl)
        | (refine Calm.pure (v := ?_) (by rfl) ?_ ?_
           rotate_left
           focus (intro w hSw; go_simp <;> rfl))
      simp only [Act.put, List.setIfInBounds_toArray, List.set_cons_zero, List.set_cons_succ]
    all_goals
      first
        | (refine Calm.skip ?_ ?_; focus rfl)
        | (refine Calm.loadT (by rfl) _ rfl rfl (fun _ h => by go_split_ands; first | assumption | exact Sx.tat0 (by assumption) | exact Sx.tat1 (by assumption)) ?_)
      simp only [Act.put, List.setIfInBounds_toArray, List.set_cons_zero, List.set_cons_succ]
    all_goals
      first
        | (refine Calm.skip ?_ ?_; focus rfl)
        | (refine Calm.call1s (by rfl) rfl rfl (by kernel_rfl) hs (fun w1 h => sP w1 h.2.2.2.2.2.2.2.2.1) ?_)
      simp only [Act.put, List.setIfInBounds_toArray, List.set_cons_zero, List.set_cons_succ]
    all_goals
      first
        | (refine Calm.skip ?_ ?_; focus rfl)
        | (refine Calm.pure (v := ?_) (by rfl) ?_ ?_
           rotate_left
           focus (intro w hSw; go_simp <;> rfl))
      simp only [Act.put, List.setIfInBounds_toArray, List.set_cons_zero, List.set_cons_succ]
    all_goals
      refine Calm.pure (v := ?_) (by rfl) ?_ ?_
      rotate_left
      focus (intro w hSw; go_simp <;> rfl)
      simp only [Act.put, List.setIfInBounds_toArray, List.set_cons_zero, List.set_cons_succ]
    all_goals
      refine Calm.pure (v := ?_) (by rfl) ?_ ?_
      rotate_left
      focus (intro w hSw; go_simp <;> rfl)
      simp only [Act.put, List.setIfInBounds_toArray, List.set_cons_zero, List.set_cons_succ]
    all_goals
      first
        | (refine Calm.skip ?_ ?_; focus rfl)
        | (refine Calm.call0 (by rfl) rfl (by kernel_rfl) hs heads_any ?_)
      simp only [Act.put, List.setIfInBounds_toArray, List.set_cons_zero, List.set_cons_succ]
    all_goals
      refine Calm.pure (v := ?_) (by rfl) ?_ ?_
      rotate_left
      focus (intro w hSw; go_simp <;> rfl)
      simp only [Act.put, List.setIfInBounds_toArray, List.set_cons_zero, List.set_cons_succ]
    all_goals
      refine Calm.pure (v := ?_) (by rfl) ?_ ?_
      rotate_left
      focus (intro w hSw; go_simp <;> rfl)
      simp only [Act.put, List.setIfInBounds_toArray, List.set_cons_zero, List.set_cons_succ]
    all_goals
      rintro w9 ⟨_, _, _, _, _, _, _, _, _, _, _, _, hbel9⟩
      go_wp2
      go_ret
      exact ⟨rfl, hbel9⟩
end Go.Proofs.Ytmcajjdijjcpkaa
