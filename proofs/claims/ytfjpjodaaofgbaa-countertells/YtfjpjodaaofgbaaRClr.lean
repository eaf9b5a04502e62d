/- Read and Clear of the document's answer. -/
import Derived.Test.YtfjpjodaaofgbaaHeads
namespace Go.Proofs.Ytfjpjodaaofgbaa
open Go.RowKit

theorem four_as {w w' : World} {x : X} {va vw vm ve : Value} (h : Four w x va vw vm ve) (h1 : x.wr.length = 0) (h2 : x.mb.length = 0) (h3 : x.el.length = 0) {va' : Value} {l : List A} (ha : AHas w' va' l) (k b : Int) : Four w' ⟨k, b, l, [], [], []⟩ va' vw vm ve := by
  obtain ⟨_, _, _, wr, mb, el⟩ := x
  obtain rfl := List.eq_nil_of_length_eq_zero h1
  obtain rfl := List.eq_nil_of_length_eq_zero h2
  obtain rfl := List.eq_nil_of_length_eq_zero h3
  have := four_zero h rfl rfl rfl ha
  exact ⟨this.a, this.t, this.m, this.e⟩
set_option maxHeartbeats 4000000 in
set_option maxRecDepth 100000 in
theorem refRead_any (x : X) (va vw vm ve : Value) (w : World) (h : Four w x va vw vm ve) (hs : Sm x) : Calls Try.prog 22 #[CV x.k x.b va vw vm ve] w (Tells (VV (rdK x) (rdN x)) w) := by
  obtain ⟨pa, ca', pw, cw, pm, cm, pe, ce, rfl, rfl, rfl, rfl⟩ := h.slices
  have HF : Hid (Four w x (.slice pa x.am.length ca') (.slice pw x.wr.length cw) (.slice pm x.mb.length cm) (.slice pe x.el.length ce)) := h
  clear h
  obtain ⟨R0, R1, hbel⟩ := two_rows w (cvc x.k x.b (.slice pa x.am.length ca') (.slice pw x.wr.length cw) (.slice pm x.mb.length cm) (.slice pe x.el.length ce)) 27 #[.int .i64 0, .int .i64 0, .slice none 0 0, .slice none 0 0] 47
  generalize hW : (w.alloc (.cells (cvc x.k x.b (.slice pa x.am.length ca') (.slice pw x.wr.length cw) (.slice pm x.mb.length cm) (.slice pe x.el.length ce)) 27)).alloc (.cells #[.int .i64 0, .int .i64 0, .slice none 0 0, .slice none 0 0] 47) = w0 at R0 R1 hbel
  have HK : Hid (∀ z, ck x = z → rdK x = (if z = true then 1 else 0) ∧ rdN x = (if z = true then x.b + sm x.am else 0)) := fun z hz => by
    unfold rdK rdN
    rw [hz]
    exact ⟨rfl, rfl⟩
  obtain ⟨kk, HKK⟩ := hid_ex (rdK x)
  obtain ⟨nn, HNN⟩ := hid_ex (rdN x)
  rw [HKK.out, HNN.out]
  rw [HKK.out, HNN.out] at HK
  go_enter Try.func22, Try.ntmps22
  go_wp2_with (first | rw [hW] | refine load_r 27 _ rfl rfl _ rfl R0 Try.underlying27 rfl size27 ?_)
  clear hW
  refine (refCheck_any x _ _ _ _ w0 (HF.out.later hbel) hs).mono ?_
  rintro e w1 ⟨rfl, hb1⟩
  replace R0 := R0.later hb1
  replace R1 := R1.later hb1
  replace hbel := below_on hbel hb1
  clear hb1
  obtain ⟨y1, HY1⟩ := hid_ex (ck x)
  rw [HY1.out]
  obtain ⟨hk1, hk2⟩ := HK.out _ HY1.out
  clear HK HKK HNN
  cases y1
  · rw [if_neg (by simp)] at hk1 hk2
    subst hk1
    subst hk2
    go_wp2_with (first | refine store_r rfl 47 _ _ rfl _ #[.int .i64 0, .int .i64 0, .slice none 0 0, .slice none 0 0] rfl rfl R1 size47 rfl (by simp [Value.oneCell']) ?_)
    exact bodyPost_ret (v := VV 0 0) (results_r rfl rfl (R1.row #[.int .i64 0, .int .i64 0, .slice none 0 0, .slice none 0 0]) rfl Try.underlying47 size47) rfl ⟨rfl, below_setRow hbel (by omega) _⟩
  · rw [if_pos rfl] at hk1 hk2
    subst hk1
    have HNB : Hid (nb x.am) := ca_nb (ck_parts HY1.out).2.2.2.2.2
    have HN : Hid (nn = x.b + sm x.am) := hk2
    obtain ⟨hb1, hb2⟩ : -1152921504606846976 ≤ x.b ∧ x.b ≤ 1152921504606846976 := by have := (ck_parts HY1.out).2.2.2.2.1; simpa [wi] using this
    have hsa := hs.a
    have c1 : w1.cell? ⟨w.heap.size, 1, none⟩ = some (.int .i64 x.b) := R0.cell 1
    clear hk2
    go_wp2_with fail
    clear c1
    go_loopw [3, 4] (fun vn vi wr => ∃ k : Nat, vi = .int .i64 k ∧ k ≤ x.am.length ∧ vn = .int .i64 (x.b + sm (x.am.take k)) ∧ Rw wr w.heap.size 27 (cvc x.k x.b (.slice pa x.am.length ca') (.slice pw x.wr.length cw) (.slice pm x.mb.length cm) (.slice pe x.el.length ce)) ∧ Rw wr (w.heap.size + 1) 47 #[.int .i64 0, .int .i64 0, .slice none 0 0, .slice none 0 0] ∧ Below w.heap.size w wr) (fun _ vi _ => x.am.length - (intOf vi).toNat)
    case atStart => exact ⟨0, rfl, by omega, by simp [sm], R0, R1, hbel⟩
    case round =>
      clear R0 R1 hbel
      obtain ⟨k, rfl, hk, rfl, R0, R1, hbel⟩ := hrel
      have c2 : wr.cell? ⟨w.heap.size, 2, none⟩ = some (.slice pa x.am.length ca') := R0.cell 2
      by_cases hlt : k < x.am.length
      · have hlt' : (k : Int) < (x.am.length : Int) := by omega
        obtain ⟨g, o, rfl, hd0⟩ := HF.out.a.at (by omega)
        have d := AHas.elem (range_later hd0 hbel) k hlt
        obtain ⟨y, HY⟩ := hid_ex x.am[k]
        have hx := HNB.out x.am[k] (List.getElem_mem _)
        rw [HY.out] at d hx
        have d3 : wr.cell? ⟨g, o + k * 4 + 3, none⟩ = some (.int .i64 y.n) := d 3 _ rfl
        have hsb := sm_bound _ (nb_take HNB.out k)
        have hlk : ((x.am.take k).length : Int) = k := by rw [List.length_take]; omega
        have hst : Hid (sm (x.am.take (k + 1)) = sm (x.am.take k) + y.n) := by
          show _ = _
          rw [List.take_succ_eq_append_getElem hlt, sm_append, HY.out]
          simp [sm]
        obtain ⟨z, HZ⟩ := hid_ex (sm (x.am.take k))
        rw [HZ.out] at hsb ⊢
        rw [hlk] at hsb
        clear hlk hd0
        go_wp2_with fail
        go_roundw
        case rel =>
          refine ⟨k + 1, by simp, by omega, ?_, R0, R1, hbel⟩
          rw [hst.out, HZ.out]
          simp
          omega
        case measure => simp [intOf]; omega
      · obtain rfl : k = x.am.length := by omega
        have hlt' : ¬ (x.am.length : Int) < (x.am.length : Int) := by omega
        rw [List.take_length]
        have e := HN.out
        rw [← e]
        clear HF HNB HN e
        go_wp2_with (first | refine store_r rfl 47 _ _ rfl _ #[.int .i64 1, .int .i64 nn, .slice none 0 0, .slice none 0 0] rfl rfl R1 size47 rfl (by simp [Value.oneCell']) ?_)
        exact bodyPost_ret (v := VV 1 nn) (results_r rfl rfl (R1.row #[.int .i64 1, .int .i64 nn, .slice none 0 0, .slice none 0 0]) rfl Try.underlying47 size47) rfl ⟨rfl, below_setRow hbel (by omega) _⟩
set_option maxHeartbeats 4000000 in
set_option maxRecDepth 100000 in
theorem refClear_any (x : X) (va vw vm ve : Value) (q u : Int) (v : List Int) (t : Int) (sl : Value) (idx : Int) (w : World) (hv : v.length = 13) (h : Four w x va vw vm ve) (hs : Sm x) :
    Calls Try.prog 18 #[CV x.k x.b va vw vm ve, TxV q u v t sl, .int .i64 idx] w (Gives (clX x q u v idx) w) := by
  obtain ⟨i0, hi, hz0, hz1, hz2⟩ := info_parts info42
  obtain ⟨pa, ca', pw, cw, pm, cm, pe, ce, rfl, rfl, rfl, rfl⟩ := h.slices
  have HF : Hid (Four w x (.slice pa x.am.length ca') (.slice pw x.wr.length cw) (.slice pm x.mb.length cm) (.slice pe x.el.length ce)) := h
  clear h
  obtain ⟨z, HZ⟩ := hid_ex (clX x q u v idx)
  rw [HZ.out]
  obtain ⟨R0, R1, R2, hbel⟩ := three_rows w (cvc x.k x.b (.slice pa x.am.length ca') (.slice pw x.wr.length cw) (.slice pm x.mb.length cm) (.slice pe x.el.length ce)) 27 (txc q u v t sl).toArray 34 (cvc 0 0 (.slice none 0 0) (.slice none 0 0) (.slice none 0 0) (.slice none 0 0)) 27
  have hB : w.heap.size + 3 ≤ (((w.alloc (.cells (cvc x.k x.b (.slice pa x.am.length ca') (.slice pw x.wr.length cw) (.slice pm x.mb.length cm) (.slice pe x.el.length ce)) 27)).alloc (.cells (txc q u v t sl).toArray 34)).alloc (.cells (cvc 0 0 (.slice none 0 0) (.slice none 0 0) (.slice none 0 0) (.slice none 0 0)) 27)).heap.size := by simp
  generalize hW : ((w.alloc (.cells (cvc x.k x.b (.slice pa x.am.length ca') (.slice pw x.wr.length cw) (.slice pm x.mb.length cm) (.slice pe x.el.length ce)) 27)).alloc (.cells (txc q u v t sl).toArray 34)).alloc (.cells (cvc 0 0 (.slice none 0 0) (.slice none 0 0) (.slice none 0 0) (.slice none 0 0)) 27) = w0 at R0 R1 R2 hbel hB
  go_enter Try.func18, Try.ntmps18
  go_wp2_with (first | rw [hW] | refine load_r 27 _ rfl rfl _ rfl R0 Try.underlying27 rfl size27 ?_)
  clear hW
  refine (refCheck_any x _ _ _ _ w0 (HF.out.later hbel) hs).mono ?_
  rintro e w1 ⟨rfl, hb1⟩
  replace R0 := R0.later hb1
  replace R1 := R1.later hb1
  replace R2 := R2.later hb1
  replace hbel := below_on hbel hb1
  replace hB := Nat.le_trans hB hb1.size
  clear hb1
  obtain ⟨y1, HY1⟩ := hid_ex (ck x)
  rw [HY1.out]
  cases y1
  · have HD : Hid (clX x q u v idx = x) := by
      show _ = _
      unfold clX
      rw [HY1.out]
      rfl
    rw [HD.out] at HZ
    go_wp2_with (first | refine load_r 27 _ rfl rfl _ rfl R0 Try.underlying27 rfl size27 ?_ | refine store_r rfl 27 _ _ rfl _ (cvc x.k x.b (.slice pa x.am.length ca') (.slice pw x.wr.length cw) (.slice pm x.mb.length cm) (.slice pe x.el.length ce)) rfl rfl R2 size27 rfl (by simp [Value.oneCell']) ?_)
    refine bodyPost_ret (results_r rfl rfl (R2.row _) rfl Try.underlying27 size27) rfl ?_
    have e := HZ.out
    subst e
    replace hbel := below_setRow hbel (g := w.heap.size + 2) (by omega) (cvc x.k x.b (.slice pa x.am.length ca') (.slice pw x.wr.length cw) (.slice pm x.mb.length cm) (.slice pe x.el.length ce))
    exact ⟨_, _, _, _, rfl, HF.out.later hbel, hbel⟩
  · have HD : Hid (clX x q u v idx = ⟨1, 0, lef x q u v idx, [], [], []⟩) := by
      show _ = _
      unfold clX
      rw [HY1.out]
      rfl
    have hsa := hs.a
    have zm0 := size40
    have ztx : (Try.prog.info? 34).map (·.size) = some (txc q u v t sl).length := by rw [txc_length hv]; exact size34
    go_wp2_with fail
    go_loopw [7, 8] (fun vn vi wr => ∃ k : Nat, vi = .int .i64 k ∧ k ≤ x.am.length ∧ wr.ownsRow (w.heap.size + 3) 42 4 vn ((x.am.take k).filter (fun a => !bf a.p a.s a.i q u v idx)).length (rows A.cells ((x.am.take k).filter (fun a => !bf a.p a.s a.i q u v idx))) ∧ Rw wr w.heap.size 27 (cvc x.k x.b (.slice pa x.am.length ca') (.slice pw x.wr.length cw) (.slice pm x.mb.length cm) (.slice pe x.el.length ce)) ∧ Rw wr (w.heap.size + 1) 34 (txc q u v t sl).toArray ∧ Rw wr (w.heap.size + 2) 27 (cvc 0 0 (.slice none 0 0) (.slice none 0 0) (.slice none 0 0) (.slice none 0 0)) ∧ Below w.heap.size w wr ∧ w.heap.size + 3 ≤ wr.heap.size) (fun _ vi _ => x.am.length - (intOf vi).toNat)
    case atStart => exact ⟨0, rfl, by omega, World.ownsRow_nil _ _ _ _, R0, R1, R2, hbel, hB⟩
    case round =>
      clear R0 R1 R2 hbel hB
      obtain ⟨k, rfl, hk, hown, R0, R1, R2, hbel, hB⟩ := hrel
      obtain ⟨P, cc, rfl⟩ := own_sl hown
      have c2 : wr.cell? ⟨w.heap.size, 2, none⟩ = some (.slice pa x.am.length ca') := R0.cell 2
      by_cases hlt : k < x.am.length
      · have hlt' : (k : Int) < (x.am.length : Int) := by omega
        obtain ⟨g, o, rfl, hd0⟩ := HF.out.a.at (by omega)
        have d := AHas.elem (range_later hd0 hbel) k hlt
        obtain ⟨y, HY⟩ := hid_ex x.am[k]
        rw [HY.out] at d
        clear hd0
        have hf100 : ((x.am.take k).filter (fun a => !bf a.p a.s a.i q u v idx)).length ≤ 100 := by
          have h1 := List.length_filter_le (fun a => !bf a.p a.s a.i q u v idx) (x.am.take k)
          rw [List.length_take] at h1
          omega
        have HT : Hid ((x.am.take (k + 1)).filter (fun a => !bf a.p a.s a.i q u v idx) = ((x.am.take k).filter (fun a => !bf a.p a.s a.i q u v idx)) ++ [y].filter (fun a => !bf a.p a.s a.i q u v idx)) := by
          show _ = _
          rw [List.take_succ_eq_append_getElem hlt, List.filter_append, HY.out]
        obtain ⟨m, HM⟩ := hid_ex ((x.am.take k).filter (fun a => !bf a.p a.s a.i q u v idx))
        rw [HM.out] at hown hf100 HT
        rw [HM.out]
        have C1 := fun w => refBefore_any y.p y.s y.i q u v t sl idx w hv
        obtain ⟨zz, HZZ⟩ := hid_ex (bf y.p y.s y.i q u v idx)
        rw [HZZ.out] at C1
        have zm : (Try.prog.info? 40).map (·.size) = some [Value.int .i64 y.p, .int .i64 y.s, .int .i64 y.i].length := size40
        have z42 : (Try.prog.info? 42).map (·.size) = some y.cells.length := size42
        have hbw := Below.refl wr.heap.size wr
        go_wp2_with fail
        clear c2
        cases zz
        · have HT2 : Hid ((x.am.take (k + 1)).filter (fun a => !bf a.p a.s a.i q u v idx) = m ++ [y]) := by
            show _ = _
            rw [HT.out, List.filter_cons_of_pos (by rw [HZZ.out]; rfl), List.filter_nil]
          have hs : Calm.Stays (fun w' => Rw w' w.heap.size 27 (cvc x.k x.b (.slice (some ⟨g, o, none⟩) x.am.length ca') (.slice pw x.wr.length cw) (.slice pm x.mb.length cm) (.slice pe x.el.length ce)) ∧ Rw w' (w.heap.size + 1) 34 (txc q u v t sl).toArray ∧ w'.rangeAt g (o + k * 4) y.cells ∧ Rw w' (w.heap.size + 2) 27 (cvc 0 0 (.slice none 0 0) (.slice none 0 0) (.slice none 0 0) (.slice none 0 0)) ∧ w'.ownsRow (w.heap.size + 3) 42 4 (.slice P m.length cc) m.length (rows A.cells m) ∧ Below wr.heap.size wr w' ∧ Below w.heap.size w w') := fun wa wb h hb => ⟨h.1.later hb, h.2.1.later hb, range_later h.2.2.1 hb, h.2.2.2.1.later hb, own_later h.2.2.2.2.1 hb, below_on h.2.2.2.2.2.1 hb, below_on h.2.2.2.2.2.2 hb⟩
          refine Calm.region (by kernel_rfl) (by kernel_rfl) (fun w' => Rw w' w.heap.size 27 (cvc x.k x.b (.slice (some ⟨g, o, none⟩) x.am.length ca') (.slice pw x.wr.length cw) (.slice pm x.mb.length cm) (.slice pe x.el.length ce)) ∧ Rw w' (w.heap.size + 1) 34 (txc q u v t sl).toArray ∧ w'.rangeAt g (o + k * 4) y.cells ∧ Rw w' (w.heap.size + 2) 27 (cvc 0 0 (.slice none 0 0) (.slice none 0 0) (.slice none 0 0) (.slice none 0 0)) ∧ w'.ownsRow (w.heap.size + 3) 42 4 (.slice P m.length cc) m.length (rows A.cells m) ∧ Below wr.heap.size wr w' ∧ Below w.heap.size w w') ⟨R0, R1, d, R2, hown, hbw.drew, hbel.drew⟩ ?_
          all_goals
            refine Calm.pure (v := ?_) (by rfl) ?_ ?_
            rotate_left
            focus (intro w hSw; go_simp <;> rfl)
            simp only [Act.put, List.setIfInBounds_toArray, List.set_cons_zero, List.set_cons_succ]
          all_goals
            refine Calm.pure (v := ?_) (by rfl) ?_ ?_
            rotate_left
            focus (intro w hSw; have g1 := hSw.1.cell 2; simp at g1; go_simp <;> rfl)
            simp only [Act.put, List.setIfInBounds_toArray, List.set_cons_zero, List.set_cons_succ]
          all_goals
            refine Calm.pure (v := ?_) (by rfl) ?_ ?_
            rotate_left
            focus (intro w hSw; go_simp <;> rfl)
            simp only [Act.put, List.setIfInBounds_toArray, List.set_cons_zero, List.set_cons_succ]
          all_goals
            refine Calm.pure (v := ?_) (by rfl) ?_ ?_
            rotate_left
            focus (intro w hSw; go_simp <;> rfl)
            simp only [Act.put, List.setIfInBounds_toArray, List.set_cons_zero, List.set_cons_succ]
          all_goals
            refine Calm.pure (v := ?_) (by rfl) ?_ ?_
            rotate_left
            focus (intro w hSw; go_simp <;> rfl)
            simp only [Act.put, List.setIfInBounds_toArray, List.set_cons_zero, List.set_cons_succ]
          all_goals
            refine Calm.loadM 40 Try.underlying40 rfl zm (by rfl) _ rfl rfl (fun _ h => A.mark h.2.2.1) ?_
            simp only [Act.put, List.setIfInBounds_toArray, List.set_cons_zero, List.set_cons_succ]
          all_goals
            refine Calm.loadM 34 Try.underlying34 rfl ztx (by rfl) _ rfl rfl (fun _ h => Rw.whole h.2.1) ?_
            simp only [Act.put, List.setIfInBounds_toArray, List.set_cons_zero, List.set_cons_succ]
          all_goals
            refine Calm.pure (v := ?_) (by rfl) ?_ ?_
            rotate_left
            focus (intro w hSw; go_simp <;> rfl)
            simp only [Act.put, List.setIfInBounds_toArray, List.set_cons_zero, List.set_cons_succ]
          all_goals
            refine Calm.call3s (by rfl) rfl rfl rfl rfl (by kernel_rfl) hs (fun w1 h => C1 w1) ?_
            simp only [Act.put, List.setIfInBounds_toArray, List.set_cons_zero, List.set_cons_succ]
          all_goals
            refine Calm.pure (v := ?_) (by rfl) ?_ ?_
            rotate_left
            focus (intro w hSw; go_simp <;> rfl)
            simp only [Act.put, List.setIfInBounds_toArray, List.set_cons_zero, List.set_cons_succ]
          all_goals
            rintro w9 ⟨R09, R19, d9, R29, hown9, hbw9, hbel9⟩
          have hB9 := Nat.le_trans hB hbw9.size
          have c29 : w9.cell? ⟨w.heap.size, 2, none⟩ = some (.slice (some ⟨g, o, none⟩) x.am.length ca') := R09.cell 2
          go_wp2_with (first | refine load_m 42 _ rfl rfl _ _ rfl d9 Try.underlying42 rfl z42 ?_ | (at_builtin; refine wpList_append_own _ rfl _ _ 22 rfl (w.heap.size + 3) 42 i0 (AV 0 0 0 0) 4 32 Try.underlying22 hi hz0 hz1 hz2 rfl (by decide) _ _ _ rfl (hown9.alloc _) ⟨w9.heap.size, 0, none⟩ 1 1 y.cells rfl rfl ?c1 ?c2 ?c3 ?c4 ?c5 ?_))
          case c1 => exact fun q u hq => (cells_next _ (by simp) _ _ _).trans hq
          case c2 => exact y.one
          case c3 => unfold maxLen; omega
          case c4 => omega
          case c5 => simp; omega
          intro v2 w2 hown6 hg6 _
          have hlt6 := hown9.lt
          have hBg : ∀ q', (Value.slice P m.length cc).ownBlock = some q' → w.heap.size + 3 ≤ q' := fun q' hq => (hlt6 q' hq).1
          clear c29
          go_wp2_with fail
          go_roundw
          case rel =>
            refine ⟨k + 1, by simp, by omega, ?_, (R09.alloc _).grown hg6 (fun q' hq => by have := hBg q' hq; omega), (R19.alloc _).grown hg6 (fun q' hq => by have := hBg q' hq; omega), (R29.alloc _).grown hg6 (fun q' hq => by have := hBg q' hq; omega), (bel_alloc hbel9 _).grown hg6 (by simp; omega) (fun q' hq => by have := hBg q' hq; omega), by have := hg6.size; simp at this; omega⟩
            rw [HT2.out, rows_append, List.length_append, rows_one]
            simpa using hown6
          case measure => simp [intOf]; omega
        · have HT2 : Hid ((x.am.take (k + 1)).filter (fun a => !bf a.p a.s a.i q u v idx) = m) := by
            show _ = _
            rw [HT.out, List.filter_cons_of_neg (by rw [HZZ.out]; simp), List.filter_nil, List.append_nil]
          have hs : Calm.Stays (fun w' => Rw w' w.heap.size 27 (cvc x.k x.b (.slice (some ⟨g, o, none⟩) x.am.length ca') (.slice pw x.wr.length cw) (.slice pm x.mb.length cm) (.slice pe x.el.length ce)) ∧ Rw w' (w.heap.size + 1) 34 (txc q u v t sl).toArray ∧ w'.rangeAt g (o + k * 4) y.cells ∧ Rw w' (w.heap.size + 2) 27 (cvc 0 0 (.slice none 0 0) (.slice none 0 0) (.slice none 0 0) (.slice none 0 0)) ∧ w'.ownsRow (w.heap.size + 3) 42 4 (.slice P m.length cc) m.length (rows A.cells m) ∧ Below wr.heap.size wr w' ∧ Below w.heap.size w w') := fun wa wb h hb => ⟨h.1.later hb, h.2.1.later hb, range_later h.2.2.1 hb, h.2.2.2.1.later hb, own_later h.2.2.2.2.1 hb, below_on h.2.2.2.2.2.1 hb, below_on h.2.2.2.2.2.2 hb⟩
          refine Calm.region (by kernel_rfl) (by kernel_rfl) (fun w' => Rw w' w.heap.size 27 (cvc x.k x.b (.slice (some ⟨g, o, none⟩) x.am.length ca') (.slice pw x.wr.length cw) (.slice pm x.mb.length cm) (.slice pe x.el.length ce)) ∧ Rw w' (w.heap.size + 1) 34 (txc q u v t sl).toArray ∧ w'.rangeAt g (o + k * 4) y.cells ∧ Rw w' (w.heap.size + 2) 27 (cvc 0 0 (.slice none 0 0) (.slice none 0 0) (.slice none 0 0) (.slice none 0 0)) ∧ w'.ownsRow (w.heap.size + 3) 42 4 (.slice P m.length cc) m.length (rows A.cells m) ∧ Below wr.heap.size wr w' ∧ Below w.heap.size w w') ⟨R0, R1, d, R2, hown, hbw.drew, hbel.drew⟩ ?_
          all_goals
            refine Calm.pure (v := ?_) (by rfl) ?_ ?_
            rotate_left
            focus (intro w hSw; go_simp <;> rfl)
            simp only [Act.put, List.setIfInBounds_toArray, List.set_cons_zero, List.set_cons_succ]
          all_goals
            refine Calm.pure (v := ?_) (by rfl) ?_ ?_
            rotate_left
            focus (intro w hSw; have g1 := hSw.1.cell 2; simp at g1; go_simp <;> rfl)
            simp only [Act.put, List.setIfInBounds_toArray, List.set_cons_zero, List.set_cons_succ]
          all_goals
            refine Calm.pure (v := ?_) (by rfl) ?_ ?_
            rotate_left
            focus (intro w hSw; go_simp <;> rfl)
            simp only [Act.put, List.setIfInBounds_toArray, List.set_cons_zero, List.set_cons_succ]
          all_goals
            refine Calm.pure (v := ?_) (by rfl) ?_ ?_
            rotate_left
            focus (intro w hSw; go_simp <;> rfl)
            simp only [Act.put, List.setIfInBounds_toArray, List.set_cons_zero, List.set_cons_succ]
          all_goals
            refine Calm.pure (v := ?_) (by rfl) ?_ ?_
            rotate_left
            focus (intro w hSw; go_simp <;> rfl)
            simp only [Act.put, List.setIfInBounds_toArray, List.set_cons_zero, List.set_cons_succ]
          all_goals
            refine Calm.loadM 40 Try.underlying40 rfl zm (by rfl) _ rfl rfl (fun _ h => A.mark h.2.2.1) ?_
            simp only [Act.put, List.setIfInBounds_toArray, List.set_cons_zero, List.set_cons_succ]
          all_goals
            refine Calm.loadM 34 Try.underlying34 rfl ztx (by rfl) _ rfl rfl (fun _ h => Rw.whole h.2.1) ?_
            simp only [Act.put, List.setIfInBounds_toArray, List.set_cons_zero, List.set_cons_succ]
          all_goals
            refine Calm.pure (v := ?_) (by rfl) ?_ ?_
            rotate_left
            focus (intro w hSw; go_simp <;> rfl)
            simp only [Act.put, List.setIfInBounds_toArray, List.set_cons_zero, List.set_cons_succ]
          all_goals
            refine Calm.call3s (by rfl) rfl rfl rfl rfl (by kernel_rfl) hs (fun w1 h => C1 w1) ?_
            simp only [Act.put, List.setIfInBounds_toArray, List.set_cons_zero, List.set_cons_succ]
          all_goals
            refine Calm.pure (v := ?_) (by rfl) ?_ ?_
            rotate_left
            focus (intro w hSw; go_simp <;> rfl)
            simp only [Act.put, List.setIfInBounds_toArray, List.set_cons_zero, List.set_cons_succ]
          all_goals
            rintro w9 ⟨R09, R19, d9, R29, hown9, hbw9, hbel9⟩
          have hB9 := Nat.le_trans hB hbw9.size
          go_wp2_with fail
          go_roundw
          case rel =>
            refine ⟨k + 1, by simp, by omega, ?_, R09, R19, R29, hbel9, hB9⟩
            rw [HT2.out]
            exact hown9
          case measure => simp [intOf]; omega
      · obtain rfl : k = x.am.length := by omega
        have hlt' : ¬ (x.am.length : Int) < (x.am.length : Int) := by omega
        rw [List.take_length] at hown ⊢
        replace hown : wr.ownsRow (w.heap.size + 3) 42 4 _ (lef x q u v idx).length (rows A.cells (lef x q u v idx)) := hown
        have HFA : Hid (∀ w' : World, AHas w' (.slice P (lef x q u v idx).length cc) (lef x q u v idx) → Four w' ⟨1, 0, lef x q u v idx, [], [], []⟩ (.slice P (lef x q u v idx).length cc) (.slice pw x.wr.length cw) (.slice pm x.mb.length cm) (.slice pe x.el.length ce)) := fun w' ha => four_as HF.out (ck_parts HY1.out).2.1 (ck_parts HY1.out).2.2.1 (ck_parts HY1.out).2.2.2.1 ha 1 0
        have HK1 : Hid (x.k = 1) := (ck_parts HY1.out).1
        obtain ⟨lf, HLF⟩ := hid_ex (lef x q u v idx)
        have e0 : (x.am.filter (fun a => !bf a.p a.s a.i q u v idx)).length = lf.length := by rw [← HLF.out]; rfl
        rw [e0]
        rw [e0] at hown
        rw [HLF.out] at hown HFA HD
        clear e0
        have f2 : wr.frozen? ⟨w.heap.size, 2, none⟩ = false := R0.frozen 2
        have R0a : Rw (wr.setCell ⟨w.heap.size, 2, none⟩ (.slice P lf.length cc)) w.heap.size 27 (cvc x.k x.b (.slice P lf.length cc) (.slice pw x.wr.length cw) (.slice pm x.mb.length cm) (.slice pe x.el.length ce)) := R0.set 2 _
        replace R2 := R2.setOther (q := w.heap.size) (by omega) 2 (.slice P lf.length cc)
        replace hown := own_over hown (b := w.heap.size) (fun q' hq => by have := (World.ownsRow.lt hown q' hq).1; omega) 2 (.slice P lf.length cc)
        replace hbel := hbel.setCell (p := ⟨w.heap.size, 2, none⟩) (Nat.le_refl _) (.slice P lf.length cc)
        generalize hW1 : wr.setCell ⟨w.heap.size, 2, none⟩ (.slice P lf.length cc) = wa at R0a R2 hown hbel
        have g1 : wa.cell? ⟨w.heap.size, 1, none⟩ = some (.int .i64 x.b) := R0a.cell 1
        have f1 : wa.frozen? ⟨w.heap.size, 1, none⟩ = false := R0a.frozen 1
        replace R0a : Rw (wa.setCell ⟨w.heap.size, 1, none⟩ (.int .i64 0)) w.heap.size 27 (cvc x.k 0 (.slice P lf.length cc) (.slice pw x.wr.length cw) (.slice pm x.mb.length cm) (.slice pe x.el.length ce)) := R0a.set 1 _
        replace R2 := R2.setOther (q := w.heap.size) (by omega) 1 (.int .i64 0)
        replace hown := own_over hown (b := w.heap.size) (fun q' hq => by have := (World.ownsRow.lt hown q' hq).1; omega) 1 (.int .i64 0)
        replace hbel := hbel.setCell (p := ⟨w.heap.size, 1, none⟩) (Nat.le_refl _) (.int .i64 0)
        generalize hW2 : wa.setCell ⟨w.heap.size, 1, none⟩ (.int .i64 0) = wb at R0a R2 hown hbel
        go_wp2_with (first | rw [hW1] | rw [hW2] | refine load_r 27 _ rfl rfl _ rfl R0a Try.underlying27 rfl size27 ?_ | refine store_r rfl 27 _ _ rfl _ (cvc x.k 0 (.slice P lf.length cc) (.slice pw x.wr.length cw) (.slice pm x.mb.length cm) (.slice pe x.el.length ce)) rfl rfl R2 size27 rfl (by simp [Value.oneCell']) ?_)
        refine bodyPost_ret (results_r rfl rfl (R2.row _) rfl Try.underlying27 size27) rfl ?_
        rw [HD.out] at HZ
        have e := HZ.out
        subst e
        exact ⟨_, _, _, _, by rw [HK1.out], HFA.out _ (own_sh (own_row hown (b := w.heap.size + 2) (by omega) _)), below_setRow hbel (by omega) _⟩
end Go.Proofs.Ytfjpjodaaofgbaa
