import Derived.Test.YtmcajjdijjcpkaaQStampTells4
import Derived.Test.YtmcajjdijjcpkaaQStampTells7
/- Event of the document's answer for stamps. -/
namespace Go.Proofs.Ytmcajjdijjcpkaa
open Go.RowKit
open Idn (ID)

set_option maxHeartbeats 16000000 in
set_option maxRecDepth 100000 in
theorem revent_ok (i : ID) (e : EV) (n : Int) (p : Option Addr) (l c : Nat) (n' : Int) (p' : Option Addr) (l' c' : Nat) (w : World) (hi : Idn.Is w i (TV n p l c)) (he : Is w e (TV n' p' l' c')) (ki : Idn.ok i = true) (ke : ok e = true) :
    Calls Try.prog 19 #[SV n p l c n' p' l' c'] w (GivesSE (esI i e) (esX i e) (esE i e) w) := by
  obtain ⟨d, s⟩ := Idn.ok_parts ki
  obtain ⟨r, t⟩ := ok_parts ke
  obtain ⟨h1, h2, hbel⟩ := two_r w 26 #[.int .i64 n, .slice p l c, .int .i64 n', .slice p' l' c'] 26 #[.int .i64 0, .slice none 0 0, .int .i64 0, .slice none 0 0] _ rfl
  have r0 := fun w1 (hb : Below w.heap.size w w1) => rCheck_is (hi.later hb) (he.later hb) ki ke
  have r1 := fun w1 => rIsNil_is hi w1
  have r2 := fun w1 (hb : Below w.heap.size w w1) => rfill_any i e 16 1073741824 n p l c n' p' l' c' w1 (hi.later hb) (he.later hb) t r (by omega) (by omega)
  have r4 := fun (hn : Idn.nil i = false) (hq : eqb (fl i e) e = true) w1 (hb : Below w.heap.size w w1) => rgrow_any i e 16 1073741824 n p l c n' p' l' c' w1 (hi.later hb) (he.later hb) s hn d t (eq_of_eqb hq) r (by omega) (by omega)
  have HF : Hid (rg (fl i e) 16 1073741824 = true ∧ short (fl i e) = true) := ⟨fl_rg i e 16 _ r, fl_short i e t⟩
  have HG : Hid (Idn.nil i = false → eqb (fl i e) e = true → rg (gr i e).ev 16 1073741825 = true ∧ short (gr i e).ev = true ∧ (high (gr i e).ev ≤ 1073741824 ↔ ¬ 1073741824 < (gr i e).count)) := show _ → _ → _ from fun hn hq => by
    have hf := eq_of_eqb hq
    have g := gr_good i e 16 1073741825 s hn d t (rg_mono r (by omega) (by omega)) hf
    have hh := rg_high r
    have := g.top
    have := g.hgt
    exact ⟨g.fits (by omega), (gr_short i e s hn t hf).1, by omega⟩
  have HE : Hid (Is w e (TV n' p' l' c')) := he
  have HI : Hid (Idn.Is w i (TV n p l c)) := hi
  unfold esI esX esE
  obtain ⟨bn, HN⟩ : ∃ b, Hid (Idn.nil i = b) := ⟨_, rfl⟩
  rw [HN.out] at r1 r4 HG ⊢
  obtain ⟨zi, H1⟩ : ∃ z, Hid ((if (!bn && decide (evE i e = 0)) = true then i else .leaf false) = z) := ⟨_, rfl⟩
  obtain ⟨zx, H2⟩ : ∃ z, Hid ((if bn = true then .leaf 0 else evX i e) = z) := ⟨_, rfl⟩
  obtain ⟨ze, H3⟩ : ∃ z : Int, Hid ((if bn = true then 7 else evE i e) = z) := ⟨_, rfl⟩
  rw [H1.out, H2.out, H3.out]
  unfold evX at H2
  unfold evE at H1 H3
  generalize fl i e = F at r2 r4 HF HG H1 H2 H3
  generalize gr i e = G at r4 HG H1 H2 H3
  clear hi he ki ke d s r t HN
  go_enter Try.func19, Try.ntmps19
  go_wp2_with (refine load_s _ rfl rfl _ rfl h1 ?_)
  refine (r0 _ hbel).mono ?_
  rintro e1 w1 ⟨rfl, hb1⟩
  replace h1 := h1.later hb1
  replace h2 := h2.later hb1
  replace hbel := below_on hbel hb1
  clear hb1 r0
  go_wp2_with (refine load_t _ rfl rfl _ _ rfl (Sx.tat0 h1) ?_)
  refine (r1 _).mono ?_
  rintro e1 w2 ⟨rfl, hb1⟩
  replace h1 := h1.later hb1
  replace h2 := h2.later hb1
  replace hbel := below_on hbel hb1
  clear hb1 r1
  cases bn
  case' true =>
    obtain rfl : zi = .leaf false := H1.out.symm
    obtain rfl : zx = .leaf 0 := H2.out.symm
    obtain rfl : ze = 7 := H3.out.symm
    have R := below_setRow hbel (g := w.heap.size + 1) (by omega) #[.int .i64 0, .slice none 0 0, .int .i64 0, .slice none 0 0]
    clear r2 r4 HF HG H1 H2 H3
    go_wp2_with (refine store_s rfl _ _ rfl _ 0 none 0 0 0 none 0 0 rfl rfl h2 ?_)
    exact bodyPost_ret (results_se rfl rfl (h2.row _)) rfl ⟨_, _, _, _, _, _, _, _, rfl, zI_is _, zE_is _, R⟩
  case' false =>
    replace r4 := r4 (by first | rfl | trivial)
    simp only [Bool.not_false, Bool.true_and, Bool.false_eq_true, if_false] at H1 H2 H3
    go_wp2_with (first | refine load_t _ rfl rfl _ _ rfl (Sx.tat0 h1) ?_ | refine load_t _ rfl rfl _ _ rfl (Sx.tat1 h1) ?_)
    refine (r2 _ hbel).mono ?_
    rintro e1 w3 ⟨nF, pF, lF, cF, rfl, iF, hb1⟩
    replace h1 := h1.later hb1
    replace h2 := h2.later hb1
    replace hbel := below_on hbel hb1
    clear hb1 r2
    have m0 := bx_new w3 0 none 0 0
    have bF := new_box w3 nF pF lF cF
    have hb1 := new_below w3 nF pF lF cF
    generalize hw : (w3.alloc (.cells #[.int .i64 0, .slice none 0 0] 24)).setRow w3.heap.size #[.int .i64 nF, .slice pF lF cF] = v at bF hb1
    have hlt := h2.lt
    replace h1 := h1.later hb1
    replace h2 := h2.later hb1
    replace iF := iF.later hb1
    replace hbel := below_on hbel hb1
    clear hb1
    go_wp2_with (first | rw [hw] | refine store_t rfl _ _ rfl _ nF pF lF cF rfl rfl m0 ?_ | refine load_t _ rfl rfl _ _ rfl bF.tat ?_ | refine load_t _ rfl rfl _ _ rfl (Sx.tat1 h1) ?_)
    clear m0 hw
    refine (same_any F e nF pF lF cF n' p' l' c' _ iF (HE.out.later hbel)).mono ?_
    rintro e1 w4 ⟨rfl, hb1⟩
    replace h1 := h1.later hb1
    replace h2 := h2.later hb1
    replace bF := bF.later hb1
    replace iF := iF.later hb1
    replace hbel := below_on hbel hb1
    clear hb1 HE
    generalize w3.heap.size = q at bF hlt ⊢
    generalize eqb F e = b at r4 HG H1 H2 H3 ⊢
    cases b
    case' false =>
      simp only [Bool.false_eq_true, if_false, decide_true, if_true] at H1 H2 H3
      obtain rfl := H1.out
      obtain rfl := H2.out
      obtain rfl := H3.out
      have hF := rg_high HF.out.1
      have hD := rg_depth HF.out.1
      have rT := top_any F 16 1073741824 nF pF lF cF w4 iF HF.out.1 (by omega)
      have rD := fun w1 (h : Is w1 F (TV nF pF lF cF)) => rdepth_any F 40 nF pF lF cF w1 h (by omega) (by omega)
      have hsF : Hid (short F = true) := HF.out.2
      have hc1 : ¬ 1073741824 < high F := by omega
      have hc2 : ¬ (16 : Int) < (depth F : Nat) := by omega
      simp only [Int.cast_ofNat_Int] at rD
      clear r4 HG H1 H2 H3 HF hF hD
      generalize high F = hf at rT hc1
      generalize ((depth F : Nat) : Int) = df at rD hc2
      go_wp2_with (refine load_t _ rfl rfl _ _ rfl bF.tat ?_)
      refine rT.mono ?_
      rintro e1 w5 ⟨rfl, hb1⟩
      replace h1 := h1.later hb1
      replace h2 := h2.later hb1
      replace bF := bF.later hb1
      replace iF := iF.later hb1
      replace hbel := below_on hbel hb1
      clear hb1 rT
      go_wp2_with (refine load_t _ rfl rfl _ _ rfl bF.tat ?_)
      refine (rD _ iF).mono ?_
      rintro e1 w6 ⟨rfl, hb1⟩
      replace h1 := h1.later hb1
      replace h2 := h2.later hb1
      replace bF := bF.later hb1
      replace iF := iF.later hb1
      replace hbel := below_on hbel hb1
      clear hb1 rD
      have R := below_setRow hbel (g := w.heap.size + 1) (by omega) #[.int .i64 n, .slice p l c, .int .i64 nF, .slice pF lF cF]
      have iI := HI.out.later R
      have iE := Is.zrow h2 hsF.out iF #[.int .i64 n, .slice p l c, .int .i64 nF, .slice pF lF cF]
      go_wp2_with (first | refine load_t _ rfl rfl _ _ rfl (Sx.tat0 h1) ?_ | refine load_t _ rfl rfl _ _ rfl bF.tat ?_ | refine store_s rfl _ _ rfl _ n p l c nF pF lF cF rfl rfl h2 ?_)
      exact bodyPost_ret (results_se rfl rfl (h2.row _)) rfl ⟨_, _, _, _, _, _, _, _, rfl, iI, iE, R⟩
    case' true =>
      simp only [if_true] at H1 H2 H3
      replace r4 := r4 (by first | rfl | trivial)
      obtain ⟨gr1, gs, gh⟩ := HG.out (by first | rfl | trivial) (by first | rfl | trivial)
      have GS : Hid (short G.ev = true) := gs
      have hGh := rg_high gr1
      have hGd := rg_depth gr1
      have rT := fun w1 nk pk lk ck (h : Is w1 G.ev (TV nk pk lk ck)) => top_any G.ev 16 1073741825 nk pk lk ck w1 h gr1 (by omega)
      have rD := fun w1 nk pk lk ck (h : Is w1 G.ev (TV nk pk lk ck)) => rdepth_any G.ev 40 nk pk lk ck w1 h (by omega) (by omega)
      have hc2 : ¬ (16 : Int) < (depth G.ev : Nat) := by omega
      simp only [Int.cast_ofNat_Int] at rD
      clear iF HG HF gs gr1 hGd
      generalize ((depth G.ev : Nat) : Int) = df at rD hc2
      generalize high G.ev = hg at rT gh hGh
      go_wp2_with (first | refine load_t _ rfl rfl _ _ rfl (Sx.tat0 h1) ?_ | refine load_t _ rfl rfl _ _ rfl (Sx.tat1 h1) ?_)
      refine (r4 _ hbel).mono ?_
      rintro e1 w5 ⟨nk, pk, lk, ck, rfl, iK, hb1⟩
      replace h1 := h1.later hb1
      replace h2 := h2.later hb1
      replace bF := bF.later hb1
      replace hbel := below_on hbel hb1
      clear hb1 r4
      have bK := bF.row nk pk lk ck
      replace iK := iK.box bF #[.int .i64 nk, .slice pk lk ck]
      replace h1 := Rw.rowOther h1 (q := q) (by omega) #[.int .i64 nk, .slice pk lk ck]
      replace h2 := Rw.rowOther h2 (q := q) (by omega) #[.int .i64 nk, .slice pk lk ck]
      replace hbel := below_setRow hbel (g := q) (by omega) #[.int .i64 nk, .slice pk lk ck]
      generalize hw : w5.setRow q #[.int .i64 nk, .slice pk lk ck] = v5 at bK iK h1 h2 hbel
      go_wp2_with (first | rw [hw] | refine store_t rfl _ _ rfl _ nk pk lk ck rfl rfl bF ?_ | refine load_t _ rfl rfl _ _ rfl bK.tat ?_)
      clear bF hw
      refine (rT _ _ _ _ _ iK).mono ?_
      rintro e1 w6 ⟨rfl, hb1⟩
      replace h1 := h1.later hb1
      replace h2 := h2.later hb1
      replace bK := bK.later hb1
      replace iK := iK.later hb1
      replace hbel := below_on hbel hb1
      clear hb1 rT
      by_cases hc : 1073741824 < G.count
      · have hc1 : 1073741824 < hg := by
          have : ¬ hg ≤ 1073741824 := fun h => by have := gh.1 h; omega
          omega
        rw [if_pos hc] at H1 H2 H3
        simp only [Int.reduceEq, decide_false, Bool.false_eq_true, if_false] at H1
        obtain rfl := H1.out
        obtain rfl := H2.out
        obtain rfl := H3.out
        have R := below_setRow hbel (g := w.heap.size + 1) (by omega) #[.int .i64 0, .slice none 0 0, .int .i64 0, .slice none 0 0]
        clear H1 H2 H3 gh rD hGh
        go_wp2_with (refine store_s rfl _ _ rfl _ 0 none 0 0 0 none 0 0 rfl rfl h2 ?_)
        exact bodyPost_ret (results_se rfl rfl (h2.row _)) rfl ⟨_, _, _, _, _, _, _, _, rfl, zI_is _, zE_is _, R⟩
      · have hc1 : ¬ 1073741824 < hg := by
          have := gh.2 (by omega)
          omega
        rw [if_neg hc] at H1 H2 H3
        simp only [decide_true, if_true] at H1
        obtain rfl := H1.out
        obtain rfl := H2.out
        obtain rfl := H3.out
        clear H1 H2 H3 gh hGh
        go_wp2_with (refine load_t _ rfl rfl _ _ rfl bK.tat ?_)
        refine (rD _ _ _ _ _ iK).mono ?_
        rintro e1 w7 ⟨rfl, hb1⟩
        replace h1 := h1.later hb1
        replace h2 := h2.later hb1
        replace bK := bK.later hb1
        replace iK := iK.later hb1
        replace hbel := below_on hbel hb1
        clear hb1 rD
        have R := below_setRow hbel (g := w.heap.size + 1) (by omega) #[.int .i64 n, .slice p l c, .int .i64 nk, .slice pk lk ck]
        have iI := HI.out.later R
        have iE := Is.zrow h2 GS.out iK #[.int .i64 n, .slice p l c, .int .i64 nk, .slice pk lk ck]
        go_wp2_with (first | refine load_t _ rfl rfl _ _ rfl (Sx.tat0 h1) ?_ | refine load_t _ rfl rfl _ _ rfl bK.tat ?_ | refine store_s rfl _ _ rfl _ n p l c nk pk lk ck rfl rfl h2 ?_)
        exact bodyPost_ret (results_se rfl rfl (h2.row _)) rfl ⟨_, _, _, _, _, _, _, _, rfl, iI, iE, R⟩
end Go.Proofs.Ytmcajjdijjcpkaa
