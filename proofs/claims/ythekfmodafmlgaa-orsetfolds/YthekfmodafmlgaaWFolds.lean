/- OrsetFolds is proved of every cell, transaction, text and cut: the call returns true, and the arguments read afterwards as they read before; no condition. -/
import Derived.Test.YthekfmodafmlgaaQ1
import Derived.Test.YthekfmodafmlgaaP21
import Derived.ShutString
import Derived.ChangeOld
import Derived.SizedLaws
/- What OrsetFolds says, of every cell, transaction, text and cut. -/
namespace Go.Proofs.Ythekfmodafmlgaa
open Go.RowKit
open Go.Sort

theorem vec_at {w : World} {b : Nat} {v : List Int} (h : Rw w b 31 (vals v).toArray) (hv : v.length = 13) (i : Nat) (hi : i < 13) : w.cell? ⟨b, i, none⟩ = some (.int .i64 (v.getD i 0)) := by
  rw [h.cell]
  simp [vals, List.getElem?_eq_getElem (show i < v.length by omega)]
/-- What a cut that is seen changes in what is read: nothing. -/
theorem folds_eq {x : X} {c v : List Int} (hk : ck x = true) (h : ∀ i, c.getD i 0 ≤ v.getD i 0) (p s : Int) (t : ByteArray) (ht : t.size ≤ 64) : rdT (fdX x c) = rdT x ∧ rdT (delX (fdX x c) p s v 1 t) = rdT (delX x p s v 1 t) ∧ rdT (addX (fdX x c) ⟨p, s, 1⟩ t) = rdT (addX x ⟨p, s, 1⟩ t) ∧ rdT (clX (fdX x c) p s v 1) = rdT (clX x p s v 1) ∧ fdX (fdX x c) c = fdX x c := by
  have hm1 : im (1 : Int) = true := by decide
  have kf := ck_fdX hk c
  have hb := bf_seen h (ck_cb hk) p s 1
  have mf : (fdX x c).mb = fdL (hsP c) x.mb := by rw [fdX_ck hk]
  refine ⟨?_, ?_, ?_, ?_, ?_⟩
  · rw [rdT_ck kf, rdT_ck hk, mf, fd_txL]
  · unfold delX
    rw [rdT_ck (ck_woX kf _ _ _), rdT_ck (ck_woX hk _ _ _), woX_ck kf hm1, woX_ck hk hm1]
    show txL (wo _ _ (fdX x c).mb) = _
    rw [mf, fd_wo hb]
  · rw [rdT_ck (ck_addX kf _ _), rdT_ck (ck_addX hk _ _), addX_ck kf hm1 ht, addX_ck hk hm1 ht]
    show txL (addL (fdX x c).mb _ _) = _
    rw [mf, fd_add]
  · unfold clX
    rw [rdT_ck (ck_woX kf _ _ _), rdT_ck (ck_woX hk _ _ _), woX_ck kf hm1, woX_ck hk hm1]
    show txL (wo _ _ (fdX x c).mb) = _
    rw [mf, fd_cl hb]
  · rw [fdX_ck kf, mf, fd_fd, fdX_ck hk]
set_option maxHeartbeats 16000000 in
set_option maxRecDepth 100000 in
theorem folds_law (x : X) (va vw vm ve : Value) (tp ts : Int) (tv : List Int) (tt : Int) (tl : Value) (lo : List O) (sa : ByteArray) (c : List Int) (w : World) (hv : tv.length = 13) (hc : c.length = 13) (ho : OHas w tl lo) (h : Four w x va vw vm ve) (hl : Lk x) : Calls Try.prog 6 #[CV x.k x.b va vw vm ve, TxV tp ts tv tt tl, .string sa, V c] w (Tells (.bool true) w) := by
  obtain ⟨pa, ca', pw, cw, pm, cm, pe, ce, rfl, rfl, rfl, rfl⟩ := h.slices
  obtain ⟨R0, R1, R2, hbel⟩ := three_rows w (cvc x.k x.b (.slice pa x.am.length ca') (.slice pw x.wr.length cw) (.slice pm x.mb.length cm) (.slice pe x.el.length ce)) 27 (txc tp ts tv tt tl).toArray 34 (vals c).toArray 31
  replace h := h.later hbel
  replace ho := ho.later hbel
  generalize hW : ((w.alloc (.cells (cvc x.k x.b (.slice pa x.am.length ca') (.slice pw x.wr.length cw) (.slice pm x.mb.length cm) (.slice pe x.el.length ce)) 27)).alloc (.cells (txc tp ts tv tt tl).toArray 34)).alloc (.cells (vals c).toArray 31) = w0 at R0 R1 R2 hbel h ho
  have zt := size_tx (p := tp) (s := ts) (t := tt) (sl := tl) hv
  have zv0 : (Try.prog.info? 31).map (·.size) = some (vals c).toArray.size := by rw [List.size_toArray]; exact info_vals hc
  go_enter Try.func6, Try.ntmps6
  go_wp2_with (first | rw [hW] | refine load_r 27 _ rfl rfl _ rfl R0 Try.underlying27 rfl size27 ?_)
  clear hW
  refine (few_any x _ _ _ _ w0 h hl).mono ?_
  rintro e w1 ⟨bf1, rfl, hfw, hb1⟩
  have HFW : Hid (bf1 = true → Fw x) := hfw
  replace R0 := R0.later hb1
  replace R1 := R1.later hb1
  replace R2 := R2.later hb1
  replace h := h.later hb1
  replace ho := ho.later hb1
  replace hbel := below_on hbel hb1
  clear hb1 hfw hl
  cases bf1
  case' false =>
    clear HFW
    go_wp2_with fail
    refine (heads_any _).mono ?_
    rintro e w9 ⟨rfl, hb9⟩
    go_wp2_with fail
    go_ret
    exact ⟨rfl, below_on hbel hb9⟩
  case' true =>
    have hz := (HFW.out rfl).sz
    have hs := hz.sm (by decide) (by decide)
    clear HFW
    go_wp2_with (first | refine load_r 27 _ rfl rfl _ rfl R0 Try.underlying27 rfl size27 ?_)
    refine (refCheck_any x _ _ _ _ w1 h hs).mono ?_
    rintro e w2 ⟨rfl, hb1⟩
    replace R0 := R0.later hb1
    replace R1 := R1.later hb1
    replace R2 := R2.later hb1
    replace h := h.later hb1
    replace ho := ho.later hb1
    replace hbel := below_on hbel hb1
    clear hb1
    obtain ⟨y1, HY1⟩ := hid_ex (ck x)
    rw [HY1.out]
    cases y1
    case' false =>
      go_wp2_with fail
      refine (heads_any _).mono ?_
      rintro e w9 ⟨rfl, hb9⟩
      go_wp2_with fail
      go_ret
      exact ⟨rfl, below_on hbel hb9⟩
    case' true =>
      by_cases ha : 64 < sa.size
      case' pos =>
        have ha' : decide ((64 : Int) < (sa.size : Int)) = true := decide_eq_true (by omega)
        go_wp2_with fail
        refine (heads_any _).mono ?_
        rintro e w9 ⟨rfl, hb9⟩
        go_wp2_with fail
        go_ret
        exact ⟨rfl, below_on hbel hb9⟩
      case' neg =>
        have ha' : decide ((64 : Int) < (sa.size : Int)) = false := decide_eq_false (by omega)
        have h64 : sa.size ≤ 64 := by omega
        have h1000 : sa.size ≤ 1000 := by omega
        go_wp2_with (first | refine load_r 34 _ rfl rfl _ rfl R1 Try.underlying34 rfl zt ?_)
        clear ha
        refine (small_any tp ts tv tt tl lo w2 hv ho).mono ?_
        rintro e w3 ⟨b1, rfl, _, hb1⟩
        replace R0 := R0.later hb1
        replace R1 := R1.later hb1
        replace R2 := R2.later hb1
        replace h := h.later hb1
        replace hbel := below_on hbel hb1
        clear hb1 ho
        cases b1
        case' false =>
          go_wp2_with fail
          refine (heads_any _).mono ?_
          rintro e w9 ⟨rfl, hb9⟩
          go_wp2_with fail
          go_ret
          exact ⟨rfl, below_on hbel hb9⟩
        case' true =>
          have HH : Hid (Four w3 x (.slice pa x.am.length ca') (.slice pw x.wr.length cw) (.slice pm x.mb.length cm) (.slice pe x.el.length ce)) := h
          have HB3 : Hid (Below w.heap.size w w3) := hbel
          clear h
          go_wp2_with fail
          go_loopw [9] (fun vi wr => ∃ k : Nat, vi = .int .i64 k ∧ k ≤ 13 ∧ Hid (∀ j, j < k → c.getD j 0 ≤ tv.getD j 0) ∧ Rw wr w.heap.size 27 (cvc x.k x.b (.slice pa x.am.length ca') (.slice pw x.wr.length cw) (.slice pm x.mb.length cm) (.slice pe x.el.length ce)) ∧ Rw wr (w.heap.size + 1) 34 (txc tp ts tv tt tl).toArray ∧ Rw wr (w.heap.size + 2) 31 (vals c).toArray ∧ Below w3.heap.size w3 wr) (fun vi _ => 13 - (intOf vi).toNat)
          case atStart => exact ⟨0, rfl, by omega, (show ∀ j, j < 0 → _ from fun j h => by omega), R0, R1, R2, Below.refl _ _⟩
          case round =>
            clear R0 R1 R2 hbel
            obtain ⟨k, rfl, hk, HV, R0, R1, R2, hb3⟩ := hrel
            have hbel := below_on HB3.out hb3
            by_cases hlt : k < 13
            case' pos =>
              have hlt' : (k : Int) ≤ 12 := by omega
              have hlt2 : (k : Int) < 13 := by omega
              have hk0 : (0 : Int) ≤ (k : Int) := by omega
              have c1 := vec_at R2 hc k hlt
              have c2 := tx_at R1 hv k hlt
              obtain ⟨n1, HN1⟩ := hid_ex (c.getD k 0)
              obtain ⟨n2, HN2⟩ := hid_ex (tv.getD k 0)
              rw [HN1.out] at c1
              rw [HN2.out] at c2
              go_wp2_with fail
              by_cases hgt : n2 < n1
              case' pos =>
                have hgt' : decide (n2 < n1) = true := decide_eq_true hgt
                have hs : Calm.Stays (fun w' => Rw w' w.heap.size 27 (cvc x.k x.b (.slice pa x.am.length ca') (.slice pw x.wr.length cw) (.slice pm x.mb.length cm) (.slice pe x.el.length ce)) ∧ Rw w' (w.heap.size + 1) 34 (txc tp ts tv tt tl).toArray ∧ Rw w' (w.heap.size + 2) 31 (vals c).toArray ∧ w'.cell? ⟨w.heap.size + 2, k, none⟩ = some (.int .i64 n1) ∧ w'.cell? ⟨w.heap.size + 1, 2 + k, none⟩ = some (.int .i64 n2) ∧ Below w3.heap.size w3 w' ∧ Below w.heap.size w w') := fun wa wb h hb => ⟨h.1.later hb, h.2.1.later hb, h.2.2.1.later hb, cell_later hb h.2.2.2.1, cell_later hb h.2.2.2.2.1, below_on h.2.2.2.2.2.1 hb, below_on h.2.2.2.2.2.2 hb⟩
                refine Calm.region (by kernel_rfl) (by kernel_rfl) (fun w' => Rw w' w.heap.size 27 (cvc x.k x.b (.slice pa x.am.length ca') (.slice pw x.wr.length cw) (.slice pm x.mb.length cm) (.slice pe x.el.length ce)) ∧ Rw w' (w.heap.size + 1) 34 (txc tp ts tv tt tl).toArray ∧ Rw w' (w.heap.size + 2) 31 (vals c).toArray ∧ w'.cell? ⟨w.heap.size + 2, k, none⟩ = some (.int .i64 n1) ∧ w'.cell? ⟨w.heap.size + 1, 2 + k, none⟩ = some (.int .i64 n2) ∧ Below w3.heap.size w3 w' ∧ Below w.heap.size w w') ⟨R0, R1, R2, c1, c2, hb3.drew, hbel.drew⟩ ?_
                all_goals
                  refine Calm.pure (v := ?_) (by rfl) ?_ ?_
                  rotate_left
                  focus (intro w hSw; go_simp <;> rfl)
                  simp only [Act.put, List.setIfInBounds_toArray, List.set_cons_zero, List.set_cons_succ]
                all_goals
                  refine Calm.pure (v := ?_) (by rfl) ?_ ?_
                  rotate_left
                  focus (intro w hSw; go_simp <;> rfl)
                  simp only [Act.put, List.setIfInBounds_toArray, List.set_cons_zero, List.set_cons_succ]
                all_goals
                  refine Calm.pure (v := ?_) (by rfl) ?_ ?_
                  rotate_left
                  focus (intro w hSw; go_simp <;> rfl)
                  simp only [Act.put, List.setIfInBounds_toArray, List.set_cons_zero, List.set_cons_succ]
                all_goals
                  refine Calm.pure (v := ?_) (by rfl) ?_ ?_
                  rotate_left
                  focus (intro w hSw; go_simp <;> rfl)
                  simp only [Act.put, List.setIfInBounds_toArray, List.set_cons_zero, List.set_cons_succ]
                all_goals
                  refine Calm.pure (v := ?_) (by rfl) ?_ ?_
                  rotate_left
                  focus (intro w hSw; go_simp <;> rfl)
                  simp only [Act.put, List.setIfInBounds_toArray, List.set_cons_zero, List.set_cons_succ]
                all_goals
                  refine Calm.pure (v := ?_) (by rfl) ?_ ?_
                  rotate_left
                  focus (intro w hSw; go_simp <;> rfl)
                  simp only [Act.put, List.setIfInBounds_toArray, List.set_cons_zero, List.set_cons_succ]
                all_goals
                  refine Calm.pure (v := ?_) (by rfl) ?_ ?_
                  rotate_left
                  focus (intro w hSw; go_simp <;> rfl)
                  simp only [Act.put, List.setIfInBounds_toArray, List.set_cons_zero, List.set_cons_succ]
                all_goals
                  refine Calm.pure (v := ?_) (by rfl) ?_ ?_
                  rotate_left
                  focus (intro w hSw; go_simp <;> rfl)
                  simp only [Act.put, List.setIfInBounds_toArray, List.set_cons_zero, List.set_cons_succ]
                all_goals
                  rintro w9 ⟨_, _, _, _, _, _, hbel9⟩
                go_wp2_with fail
                refine (heads_any _).mono ?_
                rintro e w10 ⟨rfl, hb9⟩
                go_wp2_with fail
                go_ret
                exact ⟨rfl, below_on hbel9 hb9⟩
              case' neg =>
                have hgt' : decide (n2 < n1) = false := decide_eq_false hgt
                have HV2 : Hid (∀ j, j < k + 1 → c.getD j 0 ≤ tv.getD j 0) := fun j hj => by
                  rcases Nat.lt_or_ge j k with h' | h'
                  · exact HV.out j h'
                  · obtain rfl : j = k := by omega
                    rw [HN1.out, HN2.out]
                    omega
                clear HV
                have hs : Calm.Stays (fun w' => Rw w' w.heap.size 27 (cvc x.k x.b (.slice pa x.am.length ca') (.slice pw x.wr.length cw) (.slice pm x.mb.length cm) (.slice pe x.el.length ce)) ∧ Rw w' (w.heap.size + 1) 34 (txc tp ts tv tt tl).toArray ∧ Rw w' (w.heap.size + 2) 31 (vals c).toArray ∧ w'.cell? ⟨w.heap.size + 2, k, none⟩ = some (.int .i64 n1) ∧ w'.cell? ⟨w.heap.size + 1, 2 + k, none⟩ = some (.int .i64 n2) ∧ Below w3.heap.size w3 w' ∧ Below w.heap.size w w') := fun wa wb h hb => ⟨h.1.later hb, h.2.1.later hb, h.2.2.1.later hb, cell_later hb h.2.2.2.1, cell_later hb h.2.2.2.2.1, below_on h.2.2.2.2.2.1 hb, below_on h.2.2.2.2.2.2 hb⟩
                refine Calm.region (by kernel_rfl) (by kernel_rfl) (fun w' => Rw w' w.heap.size 27 (cvc x.k x.b (.slice pa x.am.length ca') (.slice pw x.wr.length cw) (.slice pm x.mb.length cm) (.slice pe x.el.length ce)) ∧ Rw w' (w.heap.size + 1) 34 (txc tp ts tv tt tl).toArray ∧ Rw w' (w.heap.size + 2) 31 (vals c).toArray ∧ w'.cell? ⟨w.heap.size + 2, k, none⟩ = some (.int .i64 n1) ∧ w'.cell? ⟨w.heap.size + 1, 2 + k, none⟩ = some (.int .i64 n2) ∧ Below w3.heap.size w3 w' ∧ Below w.heap.size w w') ⟨R0, R1, R2, c1, c2, hb3.drew, hbel.drew⟩ ?_
                all_goals
                  refine Calm.pure (v := ?_) (by rfl) ?_ ?_
                  rotate_left
                  focus (intro w hSw; go_simp <;> rfl)
                  simp only [Act.put, List.setIfInBounds_toArray, List.set_cons_zero, List.set_cons_succ]
                all_goals
                  refine Calm.pure (v := ?_) (by rfl) ?_ ?_
                  rotate_left
                  focus (intro w hSw; go_simp <;> rfl)
                  simp only [Act.put, List.setIfInBounds_toArray, List.set_cons_zero, List.set_cons_succ]
                all_goals
                  refine Calm.pure (v := ?_) (by rfl) ?_ ?_
                  rotate_left
                  focus (intro w hSw; go_simp <;> rfl)
                  simp only [Act.put, List.setIfInBounds_toArray, List.set_cons_zero, List.set_cons_succ]
                all_goals
                  refine Calm.pure (v := ?_) (by rfl) ?_ ?_
                  rotate_left
                  focus (intro w hSw; go_simp <;> rfl)
                  simp only [Act.put, List.setIfInBounds_toArray, List.set_cons_zero, List.set_cons_succ]
                all_goals
                  refine Calm.pure (v := ?_) (by rfl) ?_ ?_
                  rotate_left
                  focus (intro w hSw; go_simp <;> rfl)
                  simp only [Act.put, List.setIfInBounds_toArray, List.set_cons_zero, List.set_cons_succ]
                all_goals
                  refine Calm.pure (v := ?_) (by rfl) ?_ ?_
                  rotate_left
                  focus (intro w hSw; go_simp <;> rfl)
                  simp only [Act.put, List.setIfInBounds_toArray, List.set_cons_zero, List.set_cons_succ]
                all_goals
                  refine Calm.pure (v := ?_) (by rfl) ?_ ?_
                  rotate_left
                  focus (intro w hSw; go_simp <;> rfl)
                  simp only [Act.put, List.setIfInBounds_toArray, List.set_cons_zero, List.set_cons_succ]
                all_goals
                  refine Calm.pure (v := ?_) (by rfl) ?_ ?_
                  rotate_left
                  focus (intro w hSw; go_simp <;> rfl)
                  simp only [Act.put, List.setIfInBounds_toArray, List.set_cons_zero, List.set_cons_succ]
                all_goals
                  rintro w9 ⟨R09, R19, R29, _, _, b69, _⟩
                go_wp2_with fail
                go_roundw
                case rel => exact ⟨k + 1, by simp, by omega, HV2, R09, R19, R29, b69⟩
                case measure => simp [intOf]; omega
            case' neg =>
              obtain rfl : k = 13 := by omega
              have hall : ∀ j, c.getD j 0 ≤ tv.getD j 0 := fun j => by
                rcases Nat.lt_or_ge j 13 with h' | h'
                · exact HV.out j h'
                · rw [show c.getD j 0 = 0 by simp [List.getD, List.getElem?_eq_none (show c.length ≤ j by omega)], show tv.getD j 0 = 0 by simp [List.getD, List.getElem?_eq_none (show tv.length ≤ j by omega)]]
                  exact Int.le_refl _
              obtain ⟨g1, g2, g3, g4, g5⟩ := folds_eq HY1.out hall tp ts sa h64
              have h := HH.out.later hb3
              have C0 := fold_any x _ _ _ _ c wr hc h hs
              obtain ⟨xf, HXF⟩ := hid_ex (fdX x c)
              have ZF : Sz 60 30 xf := by rw [← HXF.out]; exact sz_fd hz c
              have kf : ck xf = true := by rw [← HXF.out]; exact ck_fdX HY1.out c
              rw [HXF.out] at C0 g1 g2 g3 g4 g5
              obtain ⟨xd1, HD1⟩ := hid_ex (delX xf tp ts tv 1 sa)
              obtain ⟨xd2, HD2⟩ := hid_ex (delX x tp ts tv 1 sa)
              obtain ⟨xa1, HA1⟩ := hid_ex (addX xf ⟨tp, ts, 1⟩ sa)
              obtain ⟨xa2, HA2⟩ := hid_ex (addX x ⟨tp, ts, 1⟩ sa)
              obtain ⟨xc1, HC1⟩ := hid_ex (clX xf tp ts tv 1)
              obtain ⟨xc2, HC2⟩ := hid_ex (clX x tp ts tv 1)
              have KD1 : Hid (rdK xd1 = 4) := by show _ = _; rw [← HD1.out]; exact rdK_ck (ck_woX kf _ _ _)
              have KD2 : Hid (rdK xd2 = 4) := by show _ = _; rw [← HD2.out]; exact rdK_ck (ck_woX HY1.out _ _ _)
              have KA1 : Hid (rdK xa1 = 4) := by show _ = _; rw [← HA1.out]; exact rdK_ck (ck_addX kf _ _)
              have KA2 : Hid (rdK xa2 = 4) := by show _ = _; rw [← HA2.out]; exact rdK_ck (ck_addX HY1.out _ _)
              have KC1 : Hid (rdK xc1 = 4) := by show _ = _; rw [← HC1.out]; exact rdK_ck (ck_woX kf _ _ _)
              have KC2 : Hid (rdK xc2 = 4) := by show _ = _; rw [← HC2.out]; exact rdK_ck (ck_woX HY1.out _ _ _)
              have KF : Hid (rdK xf = 4) := rdK_ck kf
              have KX : Hid (rdK x = 4) := rdK_ck HY1.out
              have SD1 : Sm xd1 := by rw [← HD1.out]; exact (sz_wo ZF _ _ _).sm (by decide) (by decide)
              have SD2 : Sm xd2 := by rw [← HD2.out]; exact (sz_wo hz _ _ _).sm (by decide) (by decide)
              have SA1 : Sm xa1 := by rw [← HA1.out]; exact (sz_add ZF _ _).sm (by decide) (by decide)
              have SA2 : Sm xa2 := by rw [← HA2.out]; exact (sz_add hz _ _).sm (by decide) (by decide)
              have SC1 : Sm xc1 := by rw [← HC1.out]; exact (sz_wo ZF _ _ _).sm (by decide) (by decide)
              have SC2 : Sm xc2 := by rw [← HC2.out]; exact (sz_wo hz _ _ _).sm (by decide) (by decide)
              have sf := ZF.sm (by decide) (by decide)
              rw [HD1.out, HD2.out] at g2
              rw [HA1.out, HA2.out] at g3
              rw [HC1.out, HC2.out] at g4
              obtain ⟨rx, HX⟩ := hid_ex (rdT x)
              obtain ⟨rd, HRD⟩ := hid_ex (rdT xd2)
              obtain ⟨ra, HRA⟩ := hid_ex (rdT xa2)
              obtain ⟨rc, HRC⟩ := hid_ex (rdT xc2)
              have HF1 : Hid (rdT xf = rx) := by show _ = _; rw [g1, HX.out]
              have HRD1 : Hid (rdT xd1 = rd) := by show _ = _; rw [g2, HRD.out]
              have HRA1 : Hid (rdT xa1 = ra) := by show _ = _; rw [g3, HRA.out]
              have HRC1 : Hid (rdT xc1 = rc) := by show _ = _; rw [g4, HRC.out]
              have HFF : Hid (fdX xf c = xf) := g5
              clear g1 g2 g3 g4 g5 hall HV HH HB3 h64 kf ZF hz
              go_wp2_with (first | refine load_r 27 _ rfl rfl _ rfl R0 Try.underlying27 rfl size27 ?_ | refine load_r 31 _ rfl rfl _ rfl R2 Try.underlying31 rfl zv0 ?_)
              refine C0.mono ?_
              clear C0
              rintro e w4 ⟨va, vw, vm, ve, rfl, Ff, hb1⟩
              obtain ⟨qa, da, qw, dw, qm, dm', qe, de, rfl, rfl, rfl, rfl⟩ := Ff.slices
              replace R0 := R0.later hb1
              replace R1 := R1.later hb1
              replace R2 := R2.later hb1
              replace h := h.later hb1
              replace hbel := below_on hbel hb1
              clear hb1 hb3
              have hba := bel_alloc (Below.refl w4.heap.size w4) (.cells (cvc xf.k xf.b (.slice qa xf.am.length da) (.slice qw xf.wr.length dw) (.slice qm xf.mb.length dm') (.slice qe xf.el.length de)) 27)
              have Rp := rw_new w4 27 (cvc xf.k xf.b (.slice qa xf.am.length da) (.slice qw xf.wr.length dw) (.slice qm xf.mb.length dm') (.slice qe xf.el.length de))
              generalize hW : w4.alloc (.cells (cvc xf.k xf.b (.slice qa xf.am.length da) (.slice qw xf.wr.length dw) (.slice qm xf.mb.length dm') (.slice qe xf.el.length de)) 27) = w5 at hba Rp
              go_wp2_with (first | rw [hW])
              clear hW
              replace R0 := R0.later hba
              replace R1 := R1.later hba
              replace R2 := R2.later hba
              replace h := h.later hba
              replace Ff := Ff.later hba
              replace hbel := below_on hbel hba
              clear hba
              generalize w4.heap.size = p at Rp ⊢
              have zx : (Try.prog.info? 27).map (·.size) = some ([Value.int .i64 x.k, .int .i64 x.b, .slice pa x.am.length ca', .slice pw x.wr.length cw, .slice pm x.mb.length cm, .slice pe x.el.length ce] : List Value).length := size27
              have zf : (Try.prog.info? 27).map (·.size) = some ([Value.int .i64 xf.k, .int .i64 xf.b, .slice qa xf.am.length da, .slice qw xf.wr.length dw, .slice qm xf.mb.length dm', .slice qe xf.el.length de] : List Value).length := size27
              have ztx : (Try.prog.info? 34).map (·.size) = some (txc tp ts tv tt tl).length := by rw [txc_length hv]; exact size34
              have zv := info_vals hc
              have hS : Calm.Stays (fun w' => Below w5.heap.size w5 w') := fun wa wb h hb => below_on h hb
              have hF : Facts.Stay [pF 0 (eqP (.agg ([Value.int .i64 xf.k, .int .i64 xf.b, .slice qa xf.am.length da, .slice qw xf.wr.length dw, .slice qm xf.mb.length dm', .slice qe xf.el.length de] : List Value).toArray)), pF 1 (vP 4 rx), pF 2 (eqP (.agg ([Value.int .i64 x.k, .int .i64 x.b, .slice pa x.am.length ca', .slice pw x.wr.length cw, .slice pm x.mb.length cm, .slice pe x.el.length ce] : List Value).toArray)), pF 3 (vP 4 rx), pF 4 (eqP (.bool true)), pF 5 (eqP (.bool true)), pF 6 (eqP (.agg ([Value.int .i64 xf.k, .int .i64 xf.b, .slice qa xf.am.length da, .slice qw xf.wr.length dw, .slice qm xf.mb.length dm', .slice qe xf.el.length de] : List Value).toArray)), pF 7 (eqP (.agg (txc tp ts tv tt tl).toArray)), pF 8 (eqP (.string sa)), pF 9 (cP xd1), pF 10 (vP 4 rd), pF 11 (eqP (.agg ([Value.int .i64 x.k, .int .i64 x.b, .slice pa x.am.length ca', .slice pw x.wr.length cw, .slice pm x.mb.length cm, .slice pe x.el.length ce] : List Value).toArray)), pF 12 (eqP (.agg (txc tp ts tv tt tl).toArray)), pF 13 (eqP (.string sa)), pF 14 (cP xd2), pF 15 (vP 4 rd), pF 16 (eqP (.bool true)), pF 17 (eqP (.bool true)), pF 18 (eqP (.bool true)), pF 19 (eqP (.agg ([Value.int .i64 xf.k, .int .i64 xf.b, .slice qa xf.am.length da, .slice qw xf.wr.length dw, .slice qm xf.mb.length dm', .slice qe xf.el.length de] : List Value).toArray)), pF 20 (eqP (.agg (txc tp ts tv tt tl).toArray)), pF 21 (eqP (.string sa)), pF 22 (cP xa1), pF 23 (vP 4 ra), pF 24 (eqP (.agg ([Value.int .i64 x.k, .int .i64 x.b, .slice pa x.am.length ca', .slice pw x.wr.length cw, .slice pm x.mb.length cm, .slice pe x.el.length ce] : List Value).toArray)), pF 25 (eqP (.agg (txc tp ts tv tt tl).toArray)), pF 26 (eqP (.string sa)), pF 27 (cP xa2), pF 28 (vP 4 ra), pF 29 (eqP (.bool true)), pF 30 (eqP (.bool true)), pF 31 (eqP (.bool true)), pF 32 (eqP (.agg ([Value.int .i64 xf.k, .int .i64 xf.b, .slice qa xf.am.length da, .slice qw xf.wr.length dw, .slice qm xf.mb.length dm', .slice qe xf.el.length de] : List Value).toArray)), pF 33 (eqP (.agg (txc tp ts tv tt tl).toArray)), pF 34 (cP xc1), pF 35 (vP 4 rc), pF 36 (eqP (.agg ([Value.int .i64 x.k, .int .i64 x.b, .slice pa x.am.length ca', .slice pw x.wr.length cw, .slice pm x.mb.length cm, .slice pe x.el.length ce] : List Value).toArray)), pF 37 (eqP (.agg (txc tp ts tv tt tl).toArray)), pF 38 (cP xc2), pF 39 (vP 4 rc), pF 40 (eqP (.bool true)), pF 41 (eqP (.bool true)), pF 42 (eqP (.bool true)), pF 43 (eqP (.agg ([Value.int .i64 xf.k, .int .i64 xf.b, .slice qa xf.am.length da, .slice qw xf.wr.length dw, .slice qm xf.mb.length dm', .slice qe xf.el.length de] : List Value).toArray)), pF 44 (eqP (.agg (vals c).toArray)), pF 45 (cP xf), pF 46 (eqP (.agg ([Value.int .i64 xf.k, .int .i64 xf.b, .slice qa xf.am.length da, .slice qw xf.wr.length dw, .slice qm xf.mb.length dm', .slice qe xf.el.length de] : List Value).toArray)), pF 47 (eqP (.bool true)), pF 48 (eqP (.bool true)), pF 49 (eqP (.bool true)), pF 50 (eqP (.bool true)), pF 51 (eqP (.bool true)), pF 52 (eqP (.bool true))] := stay_of (by simp only [List.forall_mem_cons]; exact ⟨⟨_, _, rfl, eqP_keeps _⟩, ⟨_, _, rfl, vP_keeps _ _⟩, ⟨_, _, rfl, eqP_keeps _⟩, ⟨_, _, rfl, vP_keeps _ _⟩, ⟨_, _, rfl, eqP_keeps _⟩, ⟨_, _, rfl, eqP_keeps _⟩, ⟨_, _, rfl, eqP_keeps _⟩, ⟨_, _, rfl, eqP_keeps _⟩, ⟨_, _, rfl, eqP_keeps _⟩, ⟨_, _, rfl, cP_keeps _⟩, ⟨_, _, rfl, vP_keeps _ _⟩, ⟨_, _, rfl, eqP_keeps _⟩, ⟨_, _, rfl, eqP_keeps _⟩, ⟨_, _, rfl, eqP_keeps _⟩, ⟨_, _, rfl, cP_keeps _⟩, ⟨_, _, rfl, vP_keeps _ _⟩, ⟨_, _, rfl, eqP_keeps _⟩, ⟨_, _, rfl, eqP_keeps _⟩, ⟨_, _, rfl, eqP_keeps _⟩, ⟨_, _, rfl, eqP_keeps _⟩, ⟨_, _, rfl, eqP_keeps _⟩, ⟨_, _, rfl, eqP_keeps _⟩, ⟨_, _, rfl, cP_keeps _⟩, ⟨_, _, rfl, vP_keeps _ _⟩, ⟨_, _, rfl, eqP_keeps _⟩, ⟨_, _, rfl, eqP_keeps _⟩, ⟨_, _, rfl, eqP_keeps _⟩, ⟨_, _, rfl, cP_keeps _⟩, ⟨_, _, rfl, vP_keeps _ _⟩, ⟨_, _, rfl, eqP_keeps _⟩, ⟨_, _, rfl, eqP_keeps _⟩, ⟨_, _, rfl, eqP_keeps _⟩, ⟨_, _, rfl, eqP_keeps _⟩, ⟨_, _, rfl, eqP_keeps _⟩, ⟨_, _, rfl, cP_keeps _⟩, ⟨_, _, rfl, vP_keeps _ _⟩, ⟨_, _, rfl, eqP_keeps _⟩, ⟨_, _, rfl, eqP_keeps _⟩, ⟨_, _, rfl, cP_keeps _⟩, ⟨_, _, rfl, vP_keeps _ _⟩, ⟨_, _, rfl, eqP_keeps _⟩, ⟨_, _, rfl, eqP_keeps _⟩, ⟨_, _, rfl, eqP_keeps _⟩, ⟨_, _, rfl, eqP_keeps _⟩, ⟨_, _, rfl, eqP_keeps _⟩, ⟨_, _, rfl, cP_keeps _⟩, ⟨_, _, rfl, eqP_keeps _⟩, ⟨_, _, rfl, eqP_keeps _⟩, ⟨_, _, rfl, eqP_keeps _⟩, ⟨_, _, rfl, eqP_keeps _⟩, ⟨_, _, rfl, eqP_keeps _⟩, ⟨_, _, rfl, eqP_keeps _⟩, ⟨_, _, rfl, eqP_keeps _⟩, fun _ h => by cases h⟩)
              refine FactsG.region (by kernel_rfl) (by kernel_rfl) (fun w' => Below w5.heap.size w5 w') (fun xv => { tmps := #[CV x.k x.b (Value.slice pa x.am.length ca') (Value.slice pw x.wr.length cw) (Value.slice pm x.mb.length cm) (Value.slice pe x.el.length ce), TxV tp ts tv tt tl, Value.string sa, V c, Value.pointer (some { block := w.heap.size, off := 0 }), Value.pointer (some { block := w.heap.size + 1, off := 0 }), undef, Value.pointer (some { block := w.heap.size + 1 + 1, off := 0 }), xv 52, Value.int IntKind.i64 13, Value.pointer (some { block := p, off := 0 }), Value.agg (cvc x.k x.b (Value.slice pa x.am.length ca') (Value.slice pw x.wr.length cw) (Value.slice pm x.mb.length cm) (Value.slice pe x.el.length ce)), Value.bool true, Value.bool false, Value.bool false, Value.agg (cvc x.k x.b (Value.slice pa x.am.length ca') (Value.slice pw x.wr.length cw) (Value.slice pm x.mb.length cm) (Value.slice pe x.el.length ce)), Value.bool true, Value.bool false, Value.bool false, Value.bool false, Value.string sa, Value.int IntKind.i64 ↑sa.size, Value.bool false, Value.bool false, Value.bool false, Value.agg (txc tp ts tv tt tl).toArray, Value.bool true, Value.bool false, Value.bool false, undef, Value.int IntKind.i64 13, Value.bool false, u32, u33, u34, u35, u36, u37, u38, u39, u40, u41, u42, Value.agg (cvc x.k x.b (Value.slice pa x.am.length ca') (Value.slice pw x.wr.length cw) (Value.slice pm x.mb.length cm) (Value.slice pe x.el.length ce)), Value.agg (vals c).toArray, CV xf.k xf.b (Value.slice qa xf.am.length da) (Value.slice qw xf.wr.length dw) (Value.slice qm xf.mb.length dm') (Value.slice qe xf.el.length de), xv 0, xv 1, xv 2, xv 3, xv 4, xv 5, xv 6, xv 7, xv 8, xv 9, xv 10, xv 11, xv 12, xv 13, xv 14, xv 15, xv 16, xv 17, xv 18, xv 19, xv 20, xv 21, xv 22, xv 23, xv 24, xv 25, xv 26, xv 27, xv 28, xv 29, xv 30, xv 31, xv 32, xv 33, xv 34, xv 35, xv 36, xv 37, xv 38, xv 39, xv 40, xv 41, xv 42, xv 43, xv 44, xv 45, xv 46, xv 47, xv 48, xv 49, xv 50, xv 51], defers := [] }) [pF 0 (eqP (.agg ([Value.int .i64 xf.k, .int .i64 xf.b, .slice qa xf.am.length da, .slice qw xf.wr.length dw, .slice qm xf.mb.length dm', .slice qe xf.el.length de] : List Value).toArray)), pF 1 (vP 4 rx), pF 2 (eqP (.agg ([Value.int .i64 x.k, .int .i64 x.b, .slice pa x.am.length ca', .slice pw x.wr.length cw, .slice pm x.mb.length cm, .slice pe x.el.length ce] : List Value).toArray)), pF 3 (vP 4 rx), pF 4 (eqP (.bool true)), pF 5 (eqP (.bool true)), pF 6 (eqP (.agg ([Value.int .i64 xf.k, .int .i64 xf.b, .slice qa xf.am.length da, .slice qw xf.wr.length dw, .slice qm xf.mb.length dm', .slice qe xf.el.length de] : List Value).toArray)), pF 7 (eqP (.agg (txc tp ts tv tt tl).toArray)), pF 8 (eqP (.string sa)), pF 9 (cP xd1), pF 10 (vP 4 rd), pF 11 (eqP (.agg ([Value.int .i64 x.k, .int .i64 x.b, .slice pa x.am.length ca', .slice pw x.wr.length cw, .slice pm x.mb.length cm, .slice pe x.el.length ce] : List Value).toArray)), pF 12 (eqP (.agg (txc tp ts tv tt tl).toArray)), pF 13 (eqP (.string sa)), pF 14 (cP xd2), pF 15 (vP 4 rd), pF 16 (eqP (.bool true)), pF 17 (eqP (.bool true)), pF 18 (eqP (.bool true)), pF 19 (eqP (.agg ([Value.int .i64 xf.k, .int .i64 xf.b, .slice qa xf.am.length da, .slice qw xf.wr.length dw, .slice qm xf.mb.length dm', .slice qe xf.el.length de] : List Value).toArray)), pF 20 (eqP (.agg (txc tp ts tv tt tl).toArray)), pF 21 (eqP (.string sa)), pF 22 (cP xa1), pF 23 (vP 4 ra), pF 24 (eqP (.agg ([Value.int .i64 x.k, .int .i64 x.b, .slice pa x.am.length ca', .slice pw x.wr.length cw, .slice pm x.mb.length cm, .slice pe x.el.length ce] : List Value).toArray)), pF 25 (eqP (.agg (txc tp ts tv tt tl).toArray)), pF 26 (eqP (.string sa)), pF 27 (cP xa2), pF 28 (vP 4 ra), pF 29 (eqP (.bool true)), pF 30 (eqP (.bool true)), pF 31 (eqP (.bool true)), pF 32 (eqP (.agg ([Value.int .i64 xf.k, .int .i64 xf.b, .slice qa xf.am.length da, .slice qw xf.wr.length dw, .slice qm xf.mb.length dm', .slice qe xf.el.length de] : List Value).toArray)), pF 33 (eqP (.agg (txc tp ts tv tt tl).toArray)), pF 34 (cP xc1), pF 35 (vP 4 rc), pF 36 (eqP (.agg ([Value.int .i64 x.k, .int .i64 x.b, .slice pa x.am.length ca', .slice pw x.wr.length cw, .slice pm x.mb.length cm, .slice pe x.el.length ce] : List Value).toArray)), pF 37 (eqP (.agg (txc tp ts tv tt tl).toArray)), pF 38 (cP xc2), pF 39 (vP 4 rc), pF 40 (eqP (.bool true)), pF 41 (eqP (.bool true)), pF 42 (eqP (.bool true)), pF 43 (eqP (.agg ([Value.int .i64 xf.k, .int .i64 xf.b, .slice qa xf.am.length da, .slice qw xf.wr.length dw, .slice qm xf.mb.length dm', .slice qe xf.el.length de] : List Value).toArray)), pF 44 (eqP (.agg (vals c).toArray)), pF 45 (cP xf), pF 46 (eqP (.agg ([Value.int .i64 xf.k, .int .i64 xf.b, .slice qa xf.am.length da, .slice qw xf.wr.length dw, .slice qm xf.mb.length dm', .slice qe xf.el.length de] : List Value).toArray)), pF 47 (eqP (.bool true)), pF 48 (eqP (.bool true)), pF 49 (eqP (.bool true)), pF 50 (eqP (.bool true)), pF 51 (eqP (.bool true)), pF 52 (eqP (.bool true))] (fun _ _ _ _ => True) (fun _ _ _ _ _ => trivial) _ rfl rfl (by kernel_rfl) (fun j => [undef, undef, undef, undef, undef, undef, undef, undef, undef, undef, undef, undef, undef, undef, undef, undef, undef, undef, undef, undef, undef, undef, undef, undef, undef, undef, undef, undef, undef, undef, undef, undef, undef, undef, undef, undef, undef, undef, undef, undef, undef, undef, undef, undef, undef, undef, undef, undef, undef, undef, undef, undef, u8].getD j undef) rfl (Below.refl _ w5).drew ⟨?_, ?_, ?_, ?_, ?_, ?_, ?_, ?_, ?_, ?_, ?_, ?_, ?_, ?_, ?_, ?_, ?_, ?_, ?_, ?_, ?_, ?_, ?_, ?_, ?_, ?_, ?_, ?_, ?_, ?_, ?_, ?_, ?_, ?_, ?_, ?_, ?_, ?_, ?_, ?_, ?_, ?_, ?_, ?_, ?_, ?_, ?_, ?_, ?_, ?_, ?_, ?_, ?_, trivial⟩ ?_
              · exact FactsG.of rfl (fun _ _ _ => trivial) (fun _ _ _ _ => rfl) (Facts.loadP hS hF (fun _ _ => rfl) 27 Try.underlying27 rfl zf _ rfl rfl (fun xv wv hSw hd => by rfl) (fun wv hSw => Rw.whole (cs := [Value.int .i64 xf.k, .int .i64 xf.b, .slice qa xf.am.length da, .slice qw xf.wr.length dw, .slice qm xf.mb.length dm', .slice qe xf.el.length de]) (Rp.later hSw)))
              · refine FactsG.of rfl (fun _ _ _ => trivial) (fun _ _ _ _ => rfl) (Facts.call1P hS hF (fun _ _ => rfl) rfl (by kernel_rfl) rfl (fun xv wv hSw hd => ?_))
                have d0 : xv 0 = _ := pF_get (hd ⟨0, .data⟩ (by simp) rfl _ rfl)
                show Calls Try.prog 13 #[xv 0] wv _
                rw [d0]
                have hc' := read_any _ _ _ _ _ wv (Ff.later hSw) sf
                unfold RdPost at hc'
                rw [KF.out, HF1.out] at hc'
                refine hc'.mono ?_
                rintro e w' ⟨u, he, ht, hb⟩
                exact ⟨_, he, ⟨u, rfl, ht⟩, hb⟩
              · exact FactsG.of rfl (fun _ _ _ => trivial) (fun _ _ _ _ => rfl) (Facts.loadP hS hF (fun _ _ => rfl) 27 Try.underlying27 rfl zx _ rfl rfl (fun xv wv hSw hd => by rfl) (fun wv hSw => Rw.whole (cs := [Value.int .i64 x.k, .int .i64 x.b, .slice pa x.am.length ca', .slice pw x.wr.length cw, .slice pm x.mb.length cm, .slice pe x.el.length ce]) (R0.later hSw)))
              · refine FactsG.of rfl (fun _ _ _ => trivial) (fun _ _ _ _ => rfl) (Facts.call1P hS hF (fun _ _ => rfl) rfl (by kernel_rfl) rfl (fun xv wv hSw hd => ?_))
                have d2 : xv 2 = _ := pF_get (hd ⟨2, .data⟩ (by simp) rfl _ rfl)
                show Calls Try.prog 13 #[xv 2] wv _
                rw [d2]
                have hc' := read_any _ _ _ _ _ wv (h.later hSw) hs
                unfold RdPost at hc'
                rw [KX.out, HX.out] at hc'
                refine hc'.mono ?_
                rintro e w' ⟨u, he, ht, hb⟩
                exact ⟨_, he, ⟨u, rfl, ht⟩, hb⟩
              · refine FactsG.of rfl (fun _ _ _ => trivial) (fun _ _ _ _ => rfl) (Facts.call2P hS hF (fun _ _ => rfl) rfl (by kernel_rfl) rfl (fun xv wv hSw hd => ?_))
                have d1 := pF_get (hd ⟨1, .data⟩ (by simp) rfl _ rfl)
                have d3 := pF_get (hd ⟨3, .data⟩ (by simp) rfl _ rfl)
                show Calls Try.prog 24 #[xv 1, xv 3] wv _
                obtain ⟨u1, e1, f1⟩ := d1
                obtain ⟨u2, e2, f2⟩ := d3
                rw [e1, e2]
                exact (values_any 4 u1 u2 rx wv f1 f2).mono fun e w' h => tells_p h
              · exact FactsG.of rfl (fun _ _ _ => trivial) (fun _ _ _ _ => rfl) (Facts.pureP hS hF (fun _ _ => rfl) rfl (fun xv wv hSw hd => by
                  have d4 : xv 4 = _ := pF_get (hd ⟨4, .data⟩ (by simp) rfl _ rfl)
                  simp only [d4]
                  go_simp))
              · exact FactsG.of rfl (fun _ _ _ => trivial) (fun xv wv hSw hd => by have dg : xv 5 = _ := pF_get (hd ⟨5, .guard⟩ (by simp) rfl _ rfl); simp only [dg]; rfl) (Facts.loadP hS hF (fun _ _ => rfl) 27 Try.underlying27 rfl zf _ rfl rfl (fun xv wv hSw hd => by rfl) (fun wv hSw => Rw.whole (cs := [Value.int .i64 xf.k, .int .i64 xf.b, .slice qa xf.am.length da, .slice qw xf.wr.length dw, .slice qm xf.mb.length dm', .slice qe xf.el.length de]) (Rp.later hSw)))
              · exact FactsG.of rfl (fun _ _ _ => trivial) (fun xv wv hSw hd => by have dg : xv 5 = _ := pF_get (hd ⟨5, .guard⟩ (by simp) rfl _ rfl); simp only [dg]; rfl) (Facts.loadP hS hF (fun _ _ => rfl) 34 Try.underlying34 rfl ztx _ rfl rfl (fun xv wv hSw hd => by rfl) (fun wv hSw => Rw.whole (cs := (txc tp ts tv tt tl)) (R1.later hSw)))
              · exact FactsG.of rfl (fun _ _ _ => trivial) (fun xv wv hSw hd => by have dg : xv 5 = _ := pF_get (hd ⟨5, .guard⟩ (by simp) rfl _ rfl); simp only [dg]; rfl) (Facts.pureP hS hF (fun _ _ => rfl) rfl (fun xv wv hSw hd => by
                  go_simp))
              · refine FactsG.of rfl (fun _ _ _ => trivial) (fun xv wv hSw hd => by have dg : xv 5 = _ := pF_get (hd ⟨5, .guard⟩ (by simp) rfl _ rfl); simp only [dg]; rfl) (Facts.call4P hS hF (fun _ _ => rfl) rfl (by kernel_rfl) rfl (fun xv wv hSw hd => ?_))
                have d6 : xv 6 = _ := pF_get (hd ⟨6, .data⟩ (by simp) rfl _ rfl)
                have d7 : xv 7 = _ := pF_get (hd ⟨7, .data⟩ (by simp) rfl _ rfl)
                have d8 : xv 8 = _ := pF_get (hd ⟨8, .data⟩ (by simp) rfl _ rfl)
                show Calls Try.prog 14 #[xv 6, xv 7, .int .i64 1, xv 8] wv _
                rw [d6, d7, d8]
                have hc' := del_any _ _ _ _ _ tp ts tv tt tl 1 sa wv hv (Ff.later hSw) sf h1000
                rw [HD1.out] at hc'
                exact hc'.mono fun e w' h => gives_p h
              · refine FactsG.of rfl (fun _ _ _ => trivial) (fun xv wv hSw hd => by have dg : xv 5 = _ := pF_get (hd ⟨5, .guard⟩ (by simp) rfl _ rfl); simp only [dg]; rfl) (Facts.call1P hS hF (fun _ _ => rfl) rfl (by kernel_rfl) rfl (fun xv wv hSw hd => ?_))
                have d9 := pF_get (hd ⟨9, .data⟩ (by simp) rfl _ rfl)
                show Calls Try.prog 13 #[xv 9] wv _
                obtain ⟨va, vw, vm, ve, e1, f1⟩ := d9
                rw [e1]
                have hc' := read_any _ _ _ _ _ wv f1 SD1
                unfold RdPost at hc'
                rw [KD1.out, HRD1.out] at hc'
                refine hc'.mono ?_
                rintro e w' ⟨u, he, ht, hb⟩
                exact ⟨_, he, ⟨u, rfl, ht⟩, hb⟩
              · exact FactsG.of rfl (fun _ _ _ => trivial) (fun xv wv hSw hd => by have dg : xv 5 = _ := pF_get (hd ⟨5, .guard⟩ (by simp) rfl _ rfl); simp only [dg]; rfl) (Facts.loadP hS hF (fun _ _ => rfl) 27 Try.underlying27 rfl zx _ rfl rfl (fun xv wv hSw hd => by rfl) (fun wv hSw => Rw.whole (cs := [Value.int .i64 x.k, .int .i64 x.b, .slice pa x.am.length ca', .slice pw x.wr.length cw, .slice pm x.mb.length cm, .slice pe x.el.length ce]) (R0.later hSw)))
              · exact FactsG.of rfl (fun _ _ _ => trivial) (fun xv wv hSw hd => by have dg : xv 5 = _ := pF_get (hd ⟨5, .guard⟩ (by simp) rfl _ rfl); simp only [dg]; rfl) (Facts.loadP hS hF (fun _ _ => rfl) 34 Try.underlying34 rfl ztx _ rfl rfl (fun xv wv hSw hd => by rfl) (fun wv hSw => Rw.whole (cs := (txc tp ts tv tt tl)) (R1.later hSw)))
              · exact FactsG.of rfl (fun _ _ _ => trivial) (fun xv wv hSw hd => by have dg : xv 5 = _ := pF_get (hd ⟨5, .guard⟩ (by simp) rfl _ rfl); simp only [dg]; rfl) (Facts.pureP hS hF (fun _ _ => rfl) rfl (fun xv wv hSw hd => by
                  go_simp))
              · refine FactsG.of rfl (fun _ _ _ => trivial) (fun xv wv hSw hd => by have dg : xv 5 = _ := pF_get (hd ⟨5, .guard⟩ (by simp) rfl _ rfl); simp only [dg]; rfl) (Facts.call4P hS hF (fun _ _ => rfl) rfl (by kernel_rfl) rfl (fun xv wv hSw hd => ?_))
                have d11 : xv 11 = _ := pF_get (hd ⟨11, .data⟩ (by simp) rfl _ rfl)
                have d12 : xv 12 = _ := pF_get (hd ⟨12, .data⟩ (by simp) rfl _ rfl)
                have d13 : xv 13 = _ := pF_get (hd ⟨13, .data⟩ (by simp) rfl _ rfl)
                show Calls Try.prog 14 #[xv 11, xv 12, .int .i64 1, xv 13] wv _
                rw [d11, d12, d13]
                have hc' := del_any _ _ _ _ _ tp ts tv tt tl 1 sa wv hv (h.later hSw) hs h1000
                rw [HD2.out] at hc'
                exact hc'.mono fun e w' h => gives_p h
              · refine FactsG.of rfl (fun _ _ _ => trivial) (fun xv wv hSw hd => by have dg : xv 5 = _ := pF_get (hd ⟨5, .guard⟩ (by simp) rfl _ rfl); simp only [dg]; rfl) (Facts.call1P hS hF (fun _ _ => rfl) rfl (by kernel_rfl) rfl (fun xv wv hSw hd => ?_))
                have d14 := pF_get (hd ⟨14, .data⟩ (by simp) rfl _ rfl)
                show Calls Try.prog 13 #[xv 14] wv _
                obtain ⟨va, vw, vm, ve, e1, f1⟩ := d14
                rw [e1]
                have hc' := read_any _ _ _ _ _ wv f1 SD2
                unfold RdPost at hc'
                rw [KD2.out, HRD.out] at hc'
                refine hc'.mono ?_
                rintro e w' ⟨u, he, ht, hb⟩
                exact ⟨_, he, ⟨u, rfl, ht⟩, hb⟩
              · refine FactsG.of rfl (fun _ _ _ => trivial) (fun xv wv hSw hd => by have dg : xv 5 = _ := pF_get (hd ⟨5, .guard⟩ (by simp) rfl _ rfl); simp only [dg]; rfl) (Facts.call2P hS hF (fun _ _ => rfl) rfl (by kernel_rfl) rfl (fun xv wv hSw hd => ?_))
                have d10 := pF_get (hd ⟨10, .data⟩ (by simp) rfl _ rfl)
                have d15 := pF_get (hd ⟨15, .data⟩ (by simp) rfl _ rfl)
                show Calls Try.prog 24 #[xv 10, xv 15] wv _
                obtain ⟨u1, e1, f1⟩ := d10
                obtain ⟨u2, e2, f2⟩ := d15
                rw [e1, e2]
                exact (values_any 4 u1 u2 rd wv f1 f2).mono fun e w' h => tells_p h
              · exact FactsG.of rfl (fun _ _ _ => trivial) (fun _ _ _ _ => rfl) (Facts.pureP hS hF (fun _ _ => rfl) rfl (fun xv wv hSw hd => by
                  have d5 : xv 5 = _ := pF_get (hd ⟨5, .data⟩ (by simp) rfl _ rfl)
                  have d16 : xv 16 = _ := pF_get (hd ⟨16, .data⟩ (by simp) rfl _ rfl)
                  simp only [d5, d16]
                  go_simp))
              · exact FactsG.of rfl (fun _ _ _ => trivial) (fun _ _ _ _ => rfl) (Facts.pureP hS hF (fun _ _ => rfl) rfl (fun xv wv hSw hd => by
                  have d17 : xv 17 = _ := pF_get (hd ⟨17, .data⟩ (by simp) rfl _ rfl)
                  simp only [d17]
                  go_simp))
              · exact FactsG.of rfl (fun _ _ _ => trivial) (fun xv wv hSw hd => by have dg : xv 18 = _ := pF_get (hd ⟨18, .guard⟩ (by simp) rfl _ rfl); simp only [dg]; rfl) (Facts.loadP hS hF (fun _ _ => rfl) 27 Try.underlying27 rfl zf _ rfl rfl (fun xv wv hSw hd => by rfl) (fun wv hSw => Rw.whole (cs := [Value.int .i64 xf.k, .int .i64 xf.b, .slice qa xf.am.length da, .slice qw xf.wr.length dw, .slice qm xf.mb.length dm', .slice qe xf.el.length de]) (Rp.later hSw)))
              · exact FactsG.of rfl (fun _ _ _ => trivial) (fun xv wv hSw hd => by have dg : xv 18 = _ := pF_get (hd ⟨18, .guard⟩ (by simp) rfl _ rfl); simp only [dg]; rfl) (Facts.loadP hS hF (fun _ _ => rfl) 34 Try.underlying34 rfl ztx _ rfl rfl (fun xv wv hSw hd => by rfl) (fun wv hSw => Rw.whole (cs := (txc tp ts tv tt tl)) (R1.later hSw)))
              · exact FactsG.of rfl (fun _ _ _ => trivial) (fun xv wv hSw hd => by have dg : xv 18 = _ := pF_get (hd ⟨18, .guard⟩ (by simp) rfl _ rfl); simp only [dg]; rfl) (Facts.pureP hS hF (fun _ _ => rfl) rfl (fun xv wv hSw hd => by
                  go_simp))
              · refine FactsG.of rfl (fun _ _ _ => trivial) (fun xv wv hSw hd => by have dg : xv 18 = _ := pF_get (hd ⟨18, .guard⟩ (by simp) rfl _ rfl); simp only [dg]; rfl) (Facts.call4P hS hF (fun _ _ => rfl) rfl (by kernel_rfl) rfl (fun xv wv hSw hd => ?_))
                have d19 : xv 19 = _ := pF_get (hd ⟨19, .data⟩ (by simp) rfl _ rfl)
                have d20 : xv 20 = _ := pF_get (hd ⟨20, .data⟩ (by simp) rfl _ rfl)
                have d21 : xv 21 = _ := pF_get (hd ⟨21, .data⟩ (by simp) rfl _ rfl)
                show Calls Try.prog 17 #[xv 19, xv 20, .int .i64 1, xv 21] wv _
                rw [d19, d20, d21]
                have hc' := add_any _ _ _ _ _ tp ts tv tt tl 1 sa wv hv (Ff.later hSw) sf
                rw [HA1.out] at hc'
                exact hc'.mono fun e w' h => gives_p h
              · refine FactsG.of rfl (fun _ _ _ => trivial) (fun xv wv hSw hd => by have dg : xv 18 = _ := pF_get (hd ⟨18, .guard⟩ (by simp) rfl _ rfl); simp only [dg]; rfl) (Facts.call1P hS hF (fun _ _ => rfl) rfl (by kernel_rfl) rfl (fun xv wv hSw hd => ?_))
                have d22 := pF_get (hd ⟨22, .data⟩ (by simp) rfl _ rfl)
                show Calls Try.prog 13 #[xv 22] wv _
                obtain ⟨va, vw, vm, ve, e1, f1⟩ := d22
                rw [e1]
                have hc' := read_any _ _ _ _ _ wv f1 SA1
                unfold RdPost at hc'
                rw [KA1.out, HRA1.out] at hc'
                refine hc'.mono ?_
                rintro e w' ⟨u, he, ht, hb⟩
                exact ⟨_, he, ⟨u, rfl, ht⟩, hb⟩
              · exact FactsG.of rfl (fun _ _ _ => trivial) (fun xv wv hSw hd => by have dg : xv 18 = _ := pF_get (hd ⟨18, .guard⟩ (by simp) rfl _ rfl); simp only [dg]; rfl) (Facts.loadP hS hF (fun _ _ => rfl) 27 Try.underlying27 rfl zx _ rfl rfl (fun xv wv hSw hd => by rfl) (fun wv hSw => Rw.whole (cs := [Value.int .i64 x.k, .int .i64 x.b, .slice pa x.am.length ca', .slice pw x.wr.length cw, .slice pm x.mb.length cm, .slice pe x.el.length ce]) (R0.later hSw)))
              · exact FactsG.of rfl (fun _ _ _ => trivial) (fun xv wv hSw hd => by have dg : xv 18 = _ := pF_get (hd ⟨18, .guard⟩ (by simp) rfl _ rfl); simp only [dg]; rfl) (Facts.loadP hS hF (fun _ _ => rfl) 34 Try.underlying34 rfl ztx _ rfl rfl (fun xv wv hSw hd => by rfl) (fun wv hSw => Rw.whole (cs := (txc tp ts tv tt tl)) (R1.later hSw)))
              · exact FactsG.of rfl (fun _ _ _ => trivial) (fun xv wv hSw hd => by have dg : xv 18 = _ := pF_get (hd ⟨18, .guard⟩ (by simp) rfl _ rfl); simp only [dg]; rfl) (Facts.pureP hS hF (fun _ _ => rfl) rfl (fun xv wv hSw hd => by
                  go_simp))
              · refine FactsG.of rfl (fun _ _ _ => trivial) (fun xv wv hSw hd => by have dg : xv 18 = _ := pF_get (hd ⟨18, .guard⟩ (by simp) rfl _ rfl); simp only [dg]; rfl) (Facts.call4P hS hF (fun _ _ => rfl) rfl (by kernel_rfl) rfl (fun xv wv hSw hd => ?_))
                have d24 : xv 24 = _ := pF_get (hd ⟨24, .data⟩ (by simp) rfl _ rfl)
                have d25 : xv 25 = _ := pF_get (hd ⟨25, .data⟩ (by simp) rfl _ rfl)
                have d26 : xv 26 = _ := pF_get (hd ⟨26, .data⟩ (by simp) rfl _ rfl)
                show Calls Try.prog 17 #[xv 24, xv 25, .int .i64 1, xv 26] wv _
                rw [d24, d25, d26]
                have hc' := add_any _ _ _ _ _ tp ts tv tt tl 1 sa wv hv (h.later hSw) hs
                rw [HA2.out] at hc'
                exact hc'.mono fun e w' h => gives_p h
              · refine FactsG.of rfl (fun _ _ _ => trivial) (fun xv wv hSw hd => by have dg : xv 18 = _ := pF_get (hd ⟨18, .guard⟩ (by simp) rfl _ rfl); simp only [dg]; rfl) (Facts.call1P hS hF (fun _ _ => rfl) rfl (by kernel_rfl) rfl (fun xv wv hSw hd => ?_))
                have d27 := pF_get (hd ⟨27, .data⟩ (by simp) rfl _ rfl)
                show Calls Try.prog 13 #[xv 27] wv _
                obtain ⟨va, vw, vm, ve, e1, f1⟩ := d27
                rw [e1]
                have hc' := read_any _ _ _ _ _ wv f1 SA2
                unfold RdPost at hc'
                rw [KA2.out, HRA.out] at hc'
                refine hc'.mono ?_
                rintro e w' ⟨u, he, ht, hb⟩
                exact ⟨_, he, ⟨u, rfl, ht⟩, hb⟩
              · refine FactsG.of rfl (fun _ _ _ => trivial) (fun xv wv hSw hd => by have dg : xv 18 = _ := pF_get (hd ⟨18, .guard⟩ (by simp) rfl _ rfl); simp only [dg]; rfl) (Facts.call2P hS hF (fun _ _ => rfl) rfl (by kernel_rfl) rfl (fun xv wv hSw hd => ?_))
                have d23 := pF_get (hd ⟨23, .data⟩ (by simp) rfl _ rfl)
                have d28 := pF_get (hd ⟨28, .data⟩ (by simp) rfl _ rfl)
                show Calls Try.prog 24 #[xv 23, xv 28] wv _
                obtain ⟨u1, e1, f1⟩ := d23
                obtain ⟨u2, e2, f2⟩ := d28
                rw [e1, e2]
                exact (values_any 4 u1 u2 ra wv f1 f2).mono fun e w' h => tells_p h
              · exact FactsG.of rfl (fun _ _ _ => trivial) (fun _ _ _ _ => rfl) (Facts.pureP hS hF (fun _ _ => rfl) rfl (fun xv wv hSw hd => by
                  have d18 : xv 18 = _ := pF_get (hd ⟨18, .data⟩ (by simp) rfl _ rfl)
                  have d29 : xv 29 = _ := pF_get (hd ⟨29, .data⟩ (by simp) rfl _ rfl)
                  simp only [d18, d29]
                  go_simp))
              · exact FactsG.of rfl (fun _ _ _ => trivial) (fun _ _ _ _ => rfl) (Facts.pureP hS hF (fun _ _ => rfl) rfl (fun xv wv hSw hd => by
                  have d30 : xv 30 = _ := pF_get (hd ⟨30, .data⟩ (by simp) rfl _ rfl)
                  simp only [d30]
                  go_simp))
              · exact FactsG.of rfl (fun _ _ _ => trivial) (fun xv wv hSw hd => by have dg : xv 31 = _ := pF_get (hd ⟨31, .guard⟩ (by simp) rfl _ rfl); simp only [dg]; rfl) (Facts.loadP hS hF (fun _ _ => rfl) 27 Try.underlying27 rfl zf _ rfl rfl (fun xv wv hSw hd => by rfl) (fun wv hSw => Rw.whole (cs := [Value.int .i64 xf.k, .int .i64 xf.b, .slice qa xf.am.length da, .slice qw xf.wr.length dw, .slice qm xf.mb.length dm', .slice qe xf.el.length de]) (Rp.later hSw)))
              · exact FactsG.of rfl (fun _ _ _ => trivial) (fun xv wv hSw hd => by have dg : xv 31 = _ := pF_get (hd ⟨31, .guard⟩ (by simp) rfl _ rfl); simp only [dg]; rfl) (Facts.loadP hS hF (fun _ _ => rfl) 34 Try.underlying34 rfl ztx _ rfl rfl (fun xv wv hSw hd => by rfl) (fun wv hSw => Rw.whole (cs := (txc tp ts tv tt tl)) (R1.later hSw)))
              · refine FactsG.of rfl (fun _ _ _ => trivial) (fun xv wv hSw hd => by have dg : xv 31 = _ := pF_get (hd ⟨31, .guard⟩ (by simp) rfl _ rfl); simp only [dg]; rfl) (Facts.call3P hS hF (fun _ _ => rfl) rfl (by kernel_rfl) rfl (fun xv wv hSw hd => ?_))
                have d32 : xv 32 = _ := pF_get (hd ⟨32, .data⟩ (by simp) rfl _ rfl)
                have d33 : xv 33 = _ := pF_get (hd ⟨33, .data⟩ (by simp) rfl _ rfl)
                show Calls Try.prog 20 #[xv 32, xv 33, .int .i64 1] wv _
                rw [d32, d33]
                have hc' := clear_any _ _ _ _ _ tp ts tv tt tl 1 wv hv (Ff.later hSw) sf
                rw [HC1.out] at hc'
                exact hc'.mono fun e w' h => gives_p h
              · refine FactsG.of rfl (fun _ _ _ => trivial) (fun xv wv hSw hd => by have dg : xv 31 = _ := pF_get (hd ⟨31, .guard⟩ (by simp) rfl _ rfl); simp only [dg]; rfl) (Facts.call1P hS hF (fun _ _ => rfl) rfl (by kernel_rfl) rfl (fun xv wv hSw hd => ?_))
                have d34 := pF_get (hd ⟨34, .data⟩ (by simp) rfl _ rfl)
                show Calls Try.prog 13 #[xv 34] wv _
                obtain ⟨va, vw, vm, ve, e1, f1⟩ := d34
                rw [e1]
                have hc' := read_any _ _ _ _ _ wv f1 SC1
                unfold RdPost at hc'
                rw [KC1.out, HRC1.out] at hc'
                refine hc'.mono ?_
                rintro e w' ⟨u, he, ht, hb⟩
                exact ⟨_, he, ⟨u, rfl, ht⟩, hb⟩
              · exact FactsG.of rfl (fun _ _ _ => trivial) (fun xv wv hSw hd => by have dg : xv 31 = _ := pF_get (hd ⟨31, .guard⟩ (by simp) rfl _ rfl); simp only [dg]; rfl) (Facts.loadP hS hF (fun _ _ => rfl) 27 Try.underlying27 rfl zx _ rfl rfl (fun xv wv hSw hd => by rfl) (fun wv hSw => Rw.whole (cs := [Value.int .i64 x.k, .int .i64 x.b, .slice pa x.am.length ca', .slice pw x.wr.length cw, .slice pm x.mb.length cm, .slice pe x.el.length ce]) (R0.later hSw)))
              · exact FactsG.of rfl (fun _ _ _ => trivial) (fun xv wv hSw hd => by have dg : xv 31 = _ := pF_get (hd ⟨31, .guard⟩ (by simp) rfl _ rfl); simp only [dg]; rfl) (Facts.loadP hS hF (fun _ _ => rfl) 34 Try.underlying34 rfl ztx _ rfl rfl (fun xv wv hSw hd => by rfl) (fun wv hSw => Rw.whole (cs := (txc tp ts tv tt tl)) (R1.later hSw)))
              · refine FactsG.of rfl (fun _ _ _ => trivial) (fun xv wv hSw hd => by have dg : xv 31 = _ := pF_get (hd ⟨31, .guard⟩ (by simp) rfl _ rfl); simp only [dg]; rfl) (Facts.call3P hS hF (fun _ _ => rfl) rfl (by kernel_rfl) rfl (fun xv wv hSw hd => ?_))
                have d36 : xv 36 = _ := pF_get (hd ⟨36, .data⟩ (by simp) rfl _ rfl)
                have d37 : xv 37 = _ := pF_get (hd ⟨37, .data⟩ (by simp) rfl _ rfl)
                show Calls Try.prog 20 #[xv 36, xv 37, .int .i64 1] wv _
                rw [d36, d37]
                have hc' := clear_any _ _ _ _ _ tp ts tv tt tl 1 wv hv (h.later hSw) hs
                rw [HC2.out] at hc'
                exact hc'.mono fun e w' h => gives_p h
              · refine FactsG.of rfl (fun _ _ _ => trivial) (fun xv wv hSw hd => by have dg : xv 31 = _ := pF_get (hd ⟨31, .guard⟩ (by simp) rfl _ rfl); simp only [dg]; rfl) (Facts.call1P hS hF (fun _ _ => rfl) rfl (by kernel_rfl) rfl (fun xv wv hSw hd => ?_))
                have d38 := pF_get (hd ⟨38, .data⟩ (by simp) rfl _ rfl)
                show Calls Try.prog 13 #[xv 38] wv _
                obtain ⟨va, vw, vm, ve, e1, f1⟩ := d38
                rw [e1]
                have hc' := read_any _ _ _ _ _ wv f1 SC2
                unfold RdPost at hc'
                rw [KC2.out, HRC.out] at hc'
                refine hc'.mono ?_
                rintro e w' ⟨u, he, ht, hb⟩
                exact ⟨_, he, ⟨u, rfl, ht⟩, hb⟩
              · refine FactsG.of rfl (fun _ _ _ => trivial) (fun xv wv hSw hd => by have dg : xv 31 = _ := pF_get (hd ⟨31, .guard⟩ (by simp) rfl _ rfl); simp only [dg]; rfl) (Facts.call2P hS hF (fun _ _ => rfl) rfl (by kernel_rfl) rfl (fun xv wv hSw hd => ?_))
                have d35 := pF_get (hd ⟨35, .data⟩ (by simp) rfl _ rfl)
                have d39 := pF_get (hd ⟨39, .data⟩ (by simp) rfl _ rfl)
                show Calls Try.prog 24 #[xv 35, xv 39] wv _
                obtain ⟨u1, e1, f1⟩ := d35
                obtain ⟨u2, e2, f2⟩ := d39
                rw [e1, e2]
                exact (values_any 4 u1 u2 rc wv f1 f2).mono fun e w' h => tells_p h
              · exact FactsG.of rfl (fun _ _ _ => trivial) (fun _ _ _ _ => rfl) (Facts.pureP hS hF (fun _ _ => rfl) rfl (fun xv wv hSw hd => by
                  have d31 : xv 31 = _ := pF_get (hd ⟨31, .data⟩ (by simp) rfl _ rfl)
                  have d40 : xv 40 = _ := pF_get (hd ⟨40, .data⟩ (by simp) rfl _ rfl)
                  simp only [d31, d40]
                  go_simp))
              · exact FactsG.of rfl (fun _ _ _ => trivial) (fun _ _ _ _ => rfl) (Facts.pureP hS hF (fun _ _ => rfl) rfl (fun xv wv hSw hd => by
                  have d41 : xv 41 = _ := pF_get (hd ⟨41, .data⟩ (by simp) rfl _ rfl)
                  simp only [d41]
                  go_simp))
              · exact FactsG.of rfl (fun _ _ _ => trivial) (fun xv wv hSw hd => by have dg : xv 42 = _ := pF_get (hd ⟨42, .guard⟩ (by simp) rfl _ rfl); simp only [dg]; rfl) (Facts.loadP hS hF (fun _ _ => rfl) 27 Try.underlying27 rfl zf _ rfl rfl (fun xv wv hSw hd => by rfl) (fun wv hSw => Rw.whole (cs := [Value.int .i64 xf.k, .int .i64 xf.b, .slice qa xf.am.length da, .slice qw xf.wr.length dw, .slice qm xf.mb.length dm', .slice qe xf.el.length de]) (Rp.later hSw)))
              · exact FactsG.of rfl (fun _ _ _ => trivial) (fun xv wv hSw hd => by have dg : xv 42 = _ := pF_get (hd ⟨42, .guard⟩ (by simp) rfl _ rfl); simp only [dg]; rfl) (Facts.loadP hS hF (fun _ _ => rfl) 31 Try.underlying31 rfl zv _ rfl rfl (fun xv wv hSw hd => by rfl) (fun wv hSw => Rw.whole (cs := vals c) (R2.later hSw)))
              · refine FactsG.of rfl (fun _ _ _ => trivial) (fun xv wv hSw hd => by have dg : xv 42 = _ := pF_get (hd ⟨42, .guard⟩ (by simp) rfl _ rfl); simp only [dg]; rfl) (Facts.call2P hS hF (fun _ _ => rfl) rfl (by kernel_rfl) rfl (fun xv wv hSw hd => ?_))
                have d43 : xv 43 = _ := pF_get (hd ⟨43, .data⟩ (by simp) rfl _ rfl)
                have d44 : xv 44 = _ := pF_get (hd ⟨44, .data⟩ (by simp) rfl _ rfl)
                show Calls Try.prog 22 #[xv 43, xv 44] wv _
                rw [d43, d44]
                have hc' := fold_any _ _ _ _ _ c wv hc (Ff.later hSw) sf
                rw [HFF.out] at hc'
                exact hc'.mono fun e w' h => gives_p h
              · exact FactsG.of rfl (fun _ _ _ => trivial) (fun xv wv hSw hd => by have dg : xv 42 = _ := pF_get (hd ⟨42, .guard⟩ (by simp) rfl _ rfl); simp only [dg]; rfl) (Facts.loadP hS hF (fun _ _ => rfl) 27 Try.underlying27 rfl zf _ rfl rfl (fun xv wv hSw hd => by rfl) (fun wv hSw => Rw.whole (cs := [Value.int .i64 xf.k, .int .i64 xf.b, .slice qa xf.am.length da, .slice qw xf.wr.length dw, .slice qm xf.mb.length dm', .slice qe xf.el.length de]) (Rp.later hSw)))
              · refine FactsG.of rfl (fun _ _ _ => trivial) (fun xv wv hSw hd => by have dg : xv 42 = _ := pF_get (hd ⟨42, .guard⟩ (by simp) rfl _ rfl); simp only [dg]; rfl) (Facts.call2P hS hF (fun _ _ => rfl) rfl (by kernel_rfl) rfl (fun xv wv hSw hd => ?_))
                have d45 := pF_get (hd ⟨45, .data⟩ (by simp) rfl _ rfl)
                have d46 : xv 46 = _ := pF_get (hd ⟨46, .data⟩ (by simp) rfl _ rfl)
                show Calls Try.prog 16 #[xv 45, xv 46] wv _
                obtain ⟨va, vw, vm, ve, e1, f1⟩ := d45
                rw [e1, d46]
                exact (same_any _ _ _ _ _ _ _ _ _ wv f1 (Ff.later hSw) sf).mono fun e w' h => tells_p h
              · exact FactsG.of rfl (fun _ _ _ => trivial) (fun _ _ _ _ => rfl) (Facts.pureP hS hF (fun _ _ => rfl) rfl (fun xv wv hSw hd => by
                  have d42 : xv 42 = _ := pF_get (hd ⟨42, .data⟩ (by simp) rfl _ rfl)
                  have d47 : xv 47 = _ := pF_get (hd ⟨47, .data⟩ (by simp) rfl _ rfl)
                  simp only [d42, d47]
                  go_simp))
              · exact FactsG.of rfl (fun _ _ _ => trivial) (fun _ _ _ _ => rfl) (Facts.pureP hS hF (fun _ _ => rfl) rfl (fun xv wv hSw hd => by
                  have d48 : xv 48 = _ := pF_get (hd ⟨48, .data⟩ (by simp) rfl _ rfl)
                  simp only [d48]
                  go_simp))
              · refine FactsG.of rfl (fun _ _ _ => trivial) (fun xv wv hSw hd => by have dg : xv 49 = _ := pF_get (hd ⟨49, .guard⟩ (by simp) rfl _ rfl); simp only [dg]; rfl) (Facts.call0P hS hF (fun _ _ => rfl) rfl (by kernel_rfl) rfl (fun xv wv hSw hd => ?_))
                exact (heads_any wv).mono fun e w' h => tells_p h
              · exact FactsG.of rfl (fun _ _ _ => trivial) (fun _ _ _ _ => rfl) (Facts.pureP hS hF (fun _ _ => rfl) rfl (fun xv wv hSw hd => by
                  have d49 : xv 49 = _ := pF_get (hd ⟨49, .data⟩ (by simp) rfl _ rfl)
                  have d50 : xv 50 = _ := pF_get (hd ⟨50, .data⟩ (by simp) rfl _ rfl)
                  simp only [d49, d50]
                  go_simp))
              · exact FactsG.of rfl (fun _ _ _ => trivial) (fun _ _ _ _ => rfl) (Facts.pureP hS hF (fun _ _ => rfl) rfl (fun xv wv hSw hd => by
                  have d51 : xv 51 = _ := pF_get (hd ⟨51, .data⟩ (by simp) rfl _ rfl)
                  simp only [d51]
                  go_simp))
              rintro xv w19 hb9 hf _
              have e52 : xv 52 = _ := pF_get (hf 52 _ (by decide) rfl)
              simp only [e52]
              go_wp2_with fail
              go_ret
              exact ⟨rfl, below_on hbel hb9⟩
end Go.Proofs.Ythekfmodafmlgaa
namespace Go.Proofs.Ythekfmodafmlgaa
open Go.ChangeShapes Go.WideShapes Go.ChangeAt Go.RowKit
open Go.ChangeMaps (open_string shut_string)

theorem orsetFolds_own : ownKnob Try.prog.godebug = none := by kernel_rfl
theorem orsetFolds_laidOut : laidOutB Try.prog = true := by kernel_rfl

set_option maxRecDepth 100000 in
theorem orsetFolds_lifted (os : Os) (started : os.Started) (H : Type) (enc : TypeId × Value → H) :
    ReturnsInHanded {} Try.checked os 6 .any (Rows.orsetFoldsSpec.pre6 enc Try.prog Try.f6 Rows.orsetFoldsRow.domain false) (Rows.orsetFoldsSpec.post enc Try.prog Try.f6 false true false false) := by
  refine returnsInHanded_of_change_sized (C := Try.checked) orsetFolds_own started (by kernel_rfl) Try.func6
    (ChangeSpec.witness6 (enc := enc) (C := Try.checked) false ⟨#[], #[.agg #[.int .i64 0, .int .i64 0, .slice none 0 0, .slice none 0 0, .slice none 0 0, .slice none 0 0], .agg #[.int .i64 0, .int .i64 0, .int .i64 0, .int .i64 0, .int .i64 0, .int .i64 0, .int .i64 0, .int .i64 0, .int .i64 0, .int .i64 0, .int .i64 0, .int .i64 0, .int .i64 0, .int .i64 0, .int .i64 0, .int .i64 0, .slice none 0 0], .string ByteArray.empty, .agg #[.int .i64 0, .int .i64 0, .int .i64 0, .int .i64 0, .int .i64 0, .int .i64 0, .int .i64 0, .int .i64 0, .int .i64 0, .int .i64 0, .int .i64 0, .int .i64 0, .int .i64 0]], []⟩ 8 (by kernel_rfl) (by kernel_rfl) (by kernel_rfl) (by kernel_rfl)) ?_
  intro W base args ds gs before hval0 hW hcnd hsz0 _
  have hsz : (DataW.weightsEach Try.prog (Try.f6.params.toList ++ Rows.orsetFoldsSpec.plain.varTypes Try.prog) (ds ++ gs)).all (· ≤ reachBytes) = true := hsz0
  clear hsz0
  have hval : ∀ (j : Nat) t v, Try.f6.params[j]? = some t → args[j]? = some v → Value.okWide Try.prog W .any base t v := hval0
  have hW' := hW
  obtain ⟨p, q, hA0, hV, rfl, hfz, hnd⟩ := hW
  have hA : DataW.TrodAll enc Try.prog W 0 (fun _ => true) true Try.f6.params.toList args.toList ds p := hA0
  rw [Try.params6] at hA hval hsz
  obtain ⟨v0, vs0, d0, ds0, p0, q0, hargs, rfl, rfl, h0, r0⟩ := trodAll_cons hA
  obtain ⟨v1, vs1, d1, ds1, p1, q1, rfl, rfl, rfl, h1, r1⟩ := trodAll_cons r0
  obtain ⟨v2, vs2, d2, ds2, p2, q2, rfl, rfl, rfl, h2, r2⟩ := trodAll_cons r1
  obtain ⟨v3, vs3, d3, ds3, p3, q3, rfl, rfl, rfl, h3, r3⟩ := trodAll_cons r2
  obtain ⟨rfl, rfl, rfl⟩ := trodAll_nil r3
  obtain rfl : args = #[v0, v1, v2, v3] := by cases args; simp_all
  obtain ⟨rfl, rfl⟩ := trodVars_none hV
  obtain ⟨x0_, va0, vw0, vm0, ve0, rfl, hf0, hk0⟩ := open_cell (hval 0 27 v0 rfl rfl) h0
  have lk0 : Lk x0_ := hk0 (by simp only [List.cons_append, DataW.weightsEach, List.all_append, Bool.and_eq_true] at hsz; exact hsz.1)
  clear hk0
  obtain ⟨p1_, s1_, u1_, t1_, sl1_, l1_, rfl, hu1_, ho1_⟩ := open_tx (hval 1 34 v1 rfl rfl) h1
  obtain ⟨a2, rfl, rfl, rfl, w2⟩ := open_string Try.underlying9 (hval 2 9 v2 rfl rfl) h2
  obtain ⟨l3, rfl, hl3⟩ := open_vec (hval 3 31 v3 rfl rfl) h3
  clear hA0 hval0 hval hA hsz
  have k0 := h0
  have lt0 : ∀ x ∈ p0, x.block < W.heap.size := by obtain ⟨m, hm⟩ := k0; exact DataW.trod_lt m _ _ _ hm
  have k1 := h1
  have lt1 : ∀ x ∈ p1, x.block < W.heap.size := by obtain ⟨m, hm⟩ := k1; exact DataW.trod_lt m _ _ _ hm
  have k3 := h3
  have lt3 : ∀ x ∈ p3, x.block < W.heap.size := by obtain ⟨m, hm⟩ := k3; exact DataW.trod_lt m _ _ _ hm
  refine (folds_law x0_ va0 vw0 vm0 ve0 p1_ s1_ u1_ t1_ sl1_ l1_ a2 l3 W hu1_ hl3 ho1_.has hf0 lk0).mono fun e W' ⟨he, bel⟩ => ?_
  subst he
  exact ⟨_, rfl, _, _, _, [], _, [], hW', trodAll_mk1 (shut_bool Try.underlying4 _), (trodAll_cons_mk (Below.trod orsetFolds_laidOut (by kernel_rfl) (of_decide_eq_true (by kernel_rfl)) k0 bel lt0) (trodAll_cons_mk (Below.trod orsetFolds_laidOut (by kernel_rfl) (of_decide_eq_true (by kernel_rfl)) k1 bel lt1) (trodAll_cons_mk (shut_string Try.underlying9 w2) (trodAll_cons_mk (Below.trod orsetFolds_laidOut (by kernel_rfl) (of_decide_eq_true (by kernel_rfl)) k3 bel lt3) trodAll_mk0)))), rfl, bel.frame _, fun h => by cases h⟩

theorem orsetFolds_holds : Rows.OrsetFoldsSaid :=
  OpenClaim.holds_of_wide 6 Try.f6 rfl rfl rfl rfl rfl rfl rfl ⟨rfl, rfl, rfl, rfl, rfl⟩ rfl rfl rfl rfl rfl (by kernel_rfl) Try.func6 (by kernel_rfl)
    (of_decide_eq_true (by kernel_rfl)) (by unfold Func.isWrapper; first | (rw [if_pos (by decide +kernel)]; kernel_rfl) | (rw [if_neg (by decide +kernel)]; exact ⟨rfl, rfl⟩))
    (fun os started H enc _ => orsetFolds_lifted os started H enc)

#print axioms orsetFolds_holds
end Go.Proofs.Ythekfmodafmlgaa
