/- Clear of the document's answer. -/
import Derived.Test.YtknpnjhedfdggaaRChk
import Derived.Test.YtknpnjhedfdggaaDo
namespace Go.Proofs.Ytknpnjhedfdggaa
open Go.RowKit

theorem three_rows (w : World) (c1 : Array Value) (t1 : TypeId) (c2 : Array Value) (t2 : TypeId) (c3 : Array Value) (t3 : TypeId) : Rw (((w.alloc (.cells c1 t1)).alloc (.cells c2 t2)).alloc (.cells c3 t3)) w.heap.size t1 c1 ∧ Rw (((w.alloc (.cells c1 t1)).alloc (.cells c2 t2)).alloc (.cells c3 t3)) (w.heap.size + 1) t2 c2 ∧ Rw (((w.alloc (.cells c1 t1)).alloc (.cells c2 t2)).alloc (.cells c3 t3)) (w.heap.size + 2) t3 c3 ∧ Below w.heap.size w (((w.alloc (.cells c1 t1)).alloc (.cells c2 t2)).alloc (.cells c3 t3)) := by
  obtain ⟨r1, r2, hb⟩ := two_rows w c1 t1 c2 t2
  have r3 := rw_new ((w.alloc (.cells c1 t1)).alloc (.cells c2 t2)) t3 c3
  simp only [World.size_alloc, Nat.add_assoc, Nat.reduceAdd] at r3
  exact ⟨r1.alloc _, r2.alloc _, r3, bel_alloc hb _⟩
set_option maxHeartbeats 4000000 in
set_option maxRecDepth 100000 in
theorem refClear_any (x : X) (va vw vm ve : Value) (q u : Int) (v : List Int) (t : Int) (sl : Value) (idx : Int) (w : World) (hv : v.length = 13) (h : Four w x va vw vm ve) (hs : Sm x) :
    Calls Try.prog 18 #[CV x.k x.b va vw vm ve, TxV q u v t sl, .int .i64 idx] w (Gives (clX x q u v idx) w) := by
  obtain ⟨i0, hi, hz0, hz1, hz2⟩ := info_parts info42
  obtain ⟨pa, ca', pw, cw, pm, cm, pe, ce, rfl, rfl, rfl, rfl⟩ := h.slices
  have HF : Hid (Four w x (.slice pa x.am.length ca') (.slice pw x.wr.length cw) (.slice pm x.mb.length cm) (.slice pe x.el.length ce)) := h
  clear h
  obtain ⟨z, HZ⟩ := hid_ex (clX x q u v idx)
  rw [HZ.out]
  obtain ⟨R0, R1, R2, hbel⟩ := three_rows w (cvc x.k x.b (.slice pa x.am.length ca') (.slice pw x.wr.length cw) (.slice pm x.mb.length cm) (.slice pe x.el.length ce)) 27 (txc q u v t sl).toArray 34 (cvc 0 0 (.slice none 0 0) (.slice none 0 0) (.slice none 0 0) (.slice none 0 0)) 27
  have hB : w.heap.size + 3 ≤ (((w.alloc (.cells (cvc x.k x.b (.slice pa x.am.length ca') (.slice pw x.wr.length cw) (.slice pm x.mb.length cm) (.slice pe x.el.length ce)) 27)).alloc (.cells (txc q u v t sl).toArray 34)).alloc (.cells (cvc 0 0 (.slice none 0 0) (.slice none 0 0) (.slice none 0 0) (.slice none 0 0)) 27)).heap.size := by simp
  generalize hW : ((w.alloc (.cells (cvc x.k x.b (.slice pa x.am.length ca') (.slice pw x.wr.length cw) (.slice pm x.mb.length cm) (.slice pe x.el.length ce)) 27)).alloc (.cells (txc q u v t sl).toArray 34)).alloc (.cells (cvc 0 0 (.slice none 0 0) (.slice none 0 0) (.slice none 0 0) (.slice none 0 0)) 27) = w0 at R0 R1 R2 hbel hB
  go_enter Try.func18, Try.ntmps18
  go_wp2_with (first | rw [hW] | refine load_r 27 _ rfl rfl _ rfl R0 Try.underlying27 rfl size27 ?_)
  clear hW
  refine (refCheck_any x _ _ _ _ w0 (HF.out.later hbel) hs).mono ?_
  rintro e w1 ⟨rfl, hb1⟩
  replace R0 := R0.later hb1
  replace R1 := R1.later hb1
  replace R2 := R2.later hb1
  replace hbel := below_on hbel hb1
  replace hB := Nat.le_trans hB hb1.size
  clear hb1
  obtain ⟨y1, HY1⟩ := hid_ex (ck x)
  rw [HY1.out]
  cases y1
  · have HD : Hid (clX x q u v idx = x) := by
      show _ = _
      unfold clX
      rw [HY1.out]
      rfl
    rw [HD.out] at HZ
    go_wp2_with (first | refine load_r 27 _ rfl rfl _ rfl R0 Try.underlying27 rfl size27 ?_ | refine store_r rfl 27 _ _ rfl _ (cvc x.k x.b (.slice pa x.am.length ca') (.slice pw x.wr.length cw) (.slice pm x.mb.length cm) (.slice pe x.el.length ce)) rfl rfl R2 size27 rfl (by simp [Value.oneCell']) ?_)
    refine bodyPost_ret (results_r rfl rfl (R2.row (cvc x.k x.b (.slice pa x.am.length ca') (.slice pw x.wr.length cw) (.slice pm x.mb.length cm) (.slice pe x.el.length ce))) rfl Try.underlying27 size27) rfl ?_
    have e := HZ.out
    subst e
    replace hbel := below_setRow hbel (g := w.heap.size + 2) (by omega) (cvc x.k x.b (.slice pa x.am.length ca') (.slice pw x.wr.length cw) (.slice pm x.mb.length cm) (.slice pe x.el.length ce))
    exact ⟨_, _, _, _, rfl, HF.out.later hbel, hbel⟩
  · have HD : Hid (clX x q u v idx = { x with wr := lef x.wr q u v idx }) := by
      show _ = _
      unfold clX
      rw [HY1.out]
      rfl
    have hsa := hs.t
    have zm0 := size39
    have ztx : (Try.prog.info? 34).map (·.size) = some (txc q u v t sl).length := by rw [txc_length hv]; exact size34
    go_wp2_with fail
    go_loopw [7, 8] (fun vn vi wr => ∃ k : Nat, vi = .int .i64 k ∧ k ≤ x.wr.length ∧ wr.ownsRow (w.heap.size + 3) 42 5 vn ((x.wr.take k).filter (fun y => !bf y.p y.s y.i q u v idx)).length (rows Wt.cells ((x.wr.take k).filter (fun y => !bf y.p y.s y.i q u v idx))) ∧ Rw wr w.heap.size 27 (cvc x.k x.b (.slice pa x.am.length ca') (.slice pw x.wr.length cw) (.slice pm x.mb.length cm) (.slice pe x.el.length ce)) ∧ Rw wr (w.heap.size + 1) 34 (txc q u v t sl).toArray ∧ Rw wr (w.heap.size + 2) 27 (cvc 0 0 (.slice none 0 0) (.slice none 0 0) (.slice none 0 0) (.slice none 0 0)) ∧ Below w.heap.size w wr ∧ w.heap.size + 3 ≤ wr.heap.size) (fun _ vi _ => x.wr.length - (intOf vi).toNat)
    case atStart => exact ⟨0, rfl, by omega, World.ownsRow_nil _ _ _ _, R0, R1, R2, hbel, hB⟩
    case round =>
      clear R0 R1 R2 hbel hB
      obtain ⟨k, rfl, hk, hown, R0, R1, R2, hbel, hB⟩ := hrel
      obtain ⟨P, cc, rfl⟩ := own_sl hown
      have c3 : wr.cell? ⟨w.heap.size, 3, none⟩ = some (.slice pw x.wr.length cw) := R0.cell 3
      by_cases hlt : k < x.wr.length
      · have hlt' : (k : Int) < (x.wr.length : Int) := by omega
        obtain ⟨g, o, rfl, hd0⟩ := HF.out.t.at (by omega)
        have d := Wt.elem (range_later hd0 hbel) k hlt
        obtain ⟨y, HY⟩ := hid_ex x.wr[k]
        rw [HY.out] at d
        clear hd0
        have hf100 : ((x.wr.take k).filter (fun y => !bf y.p y.s y.i q u v idx)).length ≤ 100 := by
          have h1 := List.length_filter_le (fun y => !bf y.p y.s y.i q u v idx) (x.wr.take k)
          rw [List.length_take] at h1
          omega
        have HT : Hid ((x.wr.take (k + 1)).filter (fun y => !bf y.p y.s y.i q u v idx) = ((x.wr.take k).filter (fun y => !bf y.p y.s y.i q u v idx)) ++ [y].filter (fun y => !bf y.p y.s y.i q u v idx)) := by
          show _ = _
          rw [List.take_succ_eq_append_getElem hlt, List.filter_append, HY.out]
        obtain ⟨m, HM⟩ := hid_ex ((x.wr.take k).filter (fun y => !bf y.p y.s y.i q u v idx))
        rw [HM.out] at hown hf100 HT
        rw [HM.out]
        have C1 := fun w => refBefore_any y.p y.s y.i q u v t sl idx w hv
        obtain ⟨zz, HZZ⟩ := hid_ex (bf y.p y.s y.i q u v idx)
        rw [HZZ.out] at C1
        have zm : (Try.prog.info? 39).map (·.size) = some [Value.int .i64 y.p, .int .i64 y.s, .int .i64 y.i].length := size39
        have z42 : (Try.prog.info? 42).map (·.size) = some y.cells.length := size42
        have hbw := Below.refl wr.heap.size wr
        go_wp2_with fail
        clear c3
        cases zz
        · have HT2 : Hid ((x.wr.take (k + 1)).filter (fun y => !bf y.p y.s y.i q u v idx) = m ++ [y]) := by
            show _ = _
            rw [HT.out, List.filter_cons_of_pos (by rw [HZZ.out]; rfl), List.filter_nil]
          have hs : Calm.Stays (fun w' => Rw w' w.heap.size 27 (cvc x.k x.b (.slice pa x.am.length ca') (.slice (some ⟨g, o, none⟩) x.wr.length cw) (.slice pm x.mb.length cm) (.slice pe x.el.length ce)) ∧ Rw w' (w.heap.size + 1) 34 (txc q u v t sl).toArray ∧ w'.rangeAt g (o + k * 5) y.cells ∧ Rw w' (w.heap.size + 2) 27 (cvc 0 0 (.slice none 0 0) (.slice none 0 0) (.slice none 0 0) (.slice none 0 0)) ∧ w'.ownsRow (w.heap.size + 3) 42 5 (.slice P m.length cc) m.length (rows Wt.cells m) ∧ Below wr.heap.size wr w' ∧ Below w.heap.size w w') := fun wa wb h hb => ⟨h.1.later hb, h.2.1.later hb, range_later h.2.2.1 hb, h.2.2.2.1.later hb, own_later h.2.2.2.2.1 hb, below_on h.2.2.2.2.2.1 hb, below_on h.2.2.2.2.2.2 hb⟩
          refine Calm.region (by kernel_rfl) (by kernel_rfl) (fun w' => Rw w' w.heap.size 27 (cvc x.k x.b (.slice pa x.am.length ca') (.slice (some ⟨g, o, none⟩) x.wr.length cw) (.slice pm x.mb.length cm) (.slice pe x.el.length ce)) ∧ Rw w' (w.heap.size + 1) 34 (txc q u v t sl).toArray ∧ w'.rangeAt g (o + k * 5) y.cells ∧ Rw w' (w.heap.size + 2) 27 (cvc 0 0 (.slice none 0 0) (.slice none 0 0) (.slice none 0 0) (.slice none 0 0)) ∧ w'.ownsRow (w.heap.size + 3) 42 5 (.slice P m.length cc) m.length (rows Wt.cells m) ∧ Below wr.heap.size wr w' ∧ Below w.heap.size w w') ⟨R0, R1, d, R2, hown, hbw.drew, hbel.drew⟩ ?_
          all_goals
            refine Calm.pure (v := ?_) (by rfl) ?_ ?_
            rotate_left
            focus (intro w hSw; go_simp <;> rfl)
            simp only [Act.put, List.setIfInBounds_toArray, List.set_cons_zero, List.set_cons_succ]
          all_goals
            refine Calm.pure (v := ?_) (by rfl) ?_ ?_
            rotate_left
            focus (intro w hSw; have g1 := hSw.1.cell 3; simp at g1; go_simp <;> rfl)
            simp only [Act.put, List.setIfInBounds_toArray, List.set_cons_zero, List.set_cons_succ]
          all_goals
            refine Calm.pure (v := ?_) (by rfl) ?_ ?_
            rotate_left
            focus (intro w hSw; go_simp <;> rfl)
            simp only [Act.put, List.setIfInBounds_toArray, List.set_cons_zero, List.set_cons_succ]
          all_goals
            refine Calm.pure (v := ?_) (by rfl) ?_ ?_
            rotate_left
            focus (intro w hSw; go_simp <;> rfl)
            simp only [Act.put, List.setIfInBounds_toArray, List.set_cons_zero, List.set_cons_succ]
          all_goals
            refine Calm.pure (v := ?_) (by rfl) ?_ ?_
            rotate_left
            focus (intro w hSw; go_simp <;> rfl)
            simp only [Act.put, List.setIfInBounds_toArray, List.set_cons_zero, List.set_cons_succ]
          all_goals
            refine Calm.loadM 39 Try.underlying39 rfl zm (by rfl) _ rfl rfl (fun _ h => Wt.mark h.2.2.1) ?_
            simp only [Act.put, List.setIfInBounds_toArray, List.set_cons_zero, List.set_cons_succ]
          all_goals
            refine Calm.loadM 34 Try.underlying34 rfl ztx (by rfl) _ rfl rfl (fun _ h => Rw.whole h.2.1) ?_
            simp only [Act.put, List.setIfInBounds_toArray, List.set_cons_zero, List.set_cons_succ]
          all_goals
            refine Calm.pure (v := ?_) (by rfl) ?_ ?_
            rotate_left
            focus (intro w hSw; go_simp <;> rfl)
            simp only [Act.put, List.setIfInBounds_toArray, List.set_cons_zero, List.set_cons_succ]
          all_goals
            refine Calm.call3s (by rfl) rfl rfl rfl rfl (by kernel_rfl) hs (fun w1 h => C1 w1) ?_
            simp only [Act.put, List.setIfInBounds_toArray, List.set_cons_zero, List.set_cons_succ]
          all_goals
            refine Calm.pure (v := ?_) (by rfl) ?_ ?_
            rotate_left
            focus (intro w hSw; go_simp <;> rfl)
            simp only [Act.put, List.setIfInBounds_toArray, List.set_cons_zero, List.set_cons_succ]
          all_goals
            rintro w9 ⟨R09, R19, d9, R29, hown9, hbw9, hbel9⟩
          have hB9 := Nat.le_trans hB hbw9.size
          have c29 : w9.cell? ⟨w.heap.size, 3, none⟩ = some (.slice (some ⟨g, o, none⟩) x.wr.length cw) := R09.cell 3
          go_wp2_with (first | refine load_m 42 _ rfl rfl _ _ rfl d9 Try.underlying42 rfl z42 ?_ | (at_builtin; refine wpList_append_own _ rfl _ _ 23 rfl (w.heap.size + 3) 42 i0 (WV 0 0 0 0 noS) 5 48 Try.underlying23 hi hz0 hz1 hz2 rfl (by decide) _ _ _ rfl (hown9.alloc _) ⟨w9.heap.size, 0, none⟩ 1 1 y.cells rfl rfl ?c1 ?c2 ?c3 ?c4 ?c5 ?_))
          case c1 => exact fun q u hq => (cells_next _ (by simp) _ _ _).trans hq
          case c2 => exact y.one
          case c3 => unfold maxLen; omega
          case c4 => omega
          case c5 => simp; omega
          intro v2 w2 hown6 hg6 _
          have hlt6 := hown9.lt
          have hBg : ∀ q', (Value.slice P m.length cc).ownBlock = some q' → w.heap.size + 3 ≤ q' := fun q' hq => (hlt6 q' hq).1
          clear c29
          go_wp2_with fail
          go_roundw
          case rel =>
            refine ⟨k + 1, by simp, by omega, ?_, (R09.alloc _).grown hg6 (fun q' hq => by have := hBg q' hq; omega), (R19.alloc _).grown hg6 (fun q' hq => by have := hBg q' hq; omega), (R29.alloc _).grown hg6 (fun q' hq => by have := hBg q' hq; omega), (bel_alloc hbel9 _).grown hg6 (by simp; omega) (fun q' hq => by have := hBg q' hq; omega), by have := hg6.size; simp at this; omega⟩
            rw [HT2.out, rows_append, List.length_append, rows_one]
            simpa using hown6
          case measure => simp [intOf]; omega
        · have HT2 : Hid ((x.wr.take (k + 1)).filter (fun y => !bf y.p y.s y.i q u v idx) = m) := by
            show _ = _
            rw [HT.out, List.filter_cons_of_neg (by rw [HZZ.out]; simp), List.filter_nil, List.append_nil]
          have hs : Calm.Stays (fun w' => Rw w' w.heap.size 27 (cvc x.k x.b (.slice pa x.am.length ca') (.slice (some ⟨g, o, none⟩) x.wr.length cw) (.slice pm x.mb.length cm) (.slice pe x.el.length ce)) ∧ Rw w' (w.heap.size + 1) 34 (txc q u v t sl).toArray ∧ w'.rangeAt g (o + k * 5) y.cells ∧ Rw w' (w.heap.size + 2) 27 (cvc 0 0 (.slice none 0 0) (.slice none 0 0) (.slice none 0 0) (.slice none 0 0)) ∧ w'.ownsRow (w.heap.size + 3) 42 5 (.slice P m.length cc) m.length (rows Wt.cells m) ∧ Below wr.heap.size wr w' ∧ Below w.heap.size w w') := fun wa wb h hb => ⟨h.1.later hb, h.2.1.later hb, range_later h.2.2.1 hb, h.2.2.2.1.later hb, own_later h.2.2.2.2.1 hb, below_on h.2.2.2.2.2.1 hb, below_on h.2.2.2.2.2.2 hb⟩
          refine Calm.region (by kernel_rfl) (by kernel_rfl) (fun w' => Rw w' w.heap.size 27 (cvc x.k x.b (.slice pa x.am.length ca') (.slice (some ⟨g, o, none⟩) x.wr.length cw) (.slice pm x.mb.length cm) (.slice pe x.el.length ce)) ∧ Rw w' (w.heap.size + 1) 34 (txc q u v t sl).toArray ∧ w'.rangeAt g (o + k * 5) y.cells ∧ Rw w' (w.heap.size + 2) 27 (cvc 0 0 (.slice none 0 0) (.slice none 0 0) (.slice none 0 0) (.slice none 0 0)) ∧ w'.ownsRow (w.heap.size + 3) 42 5 (.slice P m.length cc) m.length (rows Wt.cells m) ∧ Below wr.heap.size wr w' ∧ Below w.heap.size w w') ⟨R0, R1, d, R2, hown, hbw.drew, hbel.drew⟩ ?_
          all_goals
            refine Calm.pure (v := ?_) (by rfl) ?_ ?_
            rotate_left
            focus (intro w hSw; go_simp <;> rfl)
            simp only [Act.put, List.setIfInBounds_toArray, List.set_cons_zero, List.set_cons_succ]
          all_goals
            refine Calm.pure (v := ?_) (by rfl) ?_ ?_
            rotate_left
            focus (intro w hSw; have g1 := hSw.1.cell 3; simp at g1; go_simp <;> rfl)
            simp only [Act.put, List.setIfInBounds_toArray, List.set_cons_zero, List.set_cons_succ]
          all_goals
            refine Calm.pure (v := ?_) (by rfl) ?_ ?_
            rotate_left
            focus (intro w hSw; go_simp <;> rfl)
            simp only [Act.put, List.setIfInBounds_toArray, List.set_cons_zero, List.set_cons_succ]
          all_goals
            refine Calm.pure (v := ?_) (by rfl) ?_ ?_
            rotate_left
            focus (intro w hSw; go_simp <;> rfl)
            simp only [Act.put, List.setIfInBounds_toArray, List.set_cons_zero, List.set_cons_succ]
          all_goals
            refine Calm.pure (v := ?_) (by rfl) ?_ ?_
            rotate_left
            focus (intro w hSw; go_simp <;> rfl)
            simp only [Act.put, List.setIfInBounds_toArray, List.set_cons_zero, List.set_cons_succ]
          all_goals
            refine Calm.loadM 39 Try.underlying39 rfl zm (by rfl) _ rfl rfl (fun _ h => Wt.mark h.2.2.1) ?_
            simp only [Act.put, List.setIfInBounds_toArray, List.set_cons_zero, List.set_cons_succ]
          all_goals
            refine Calm.loadM 34 Try.underlying34 rfl ztx (by rfl) _ rfl rfl (fun _ h => Rw.whole h.2.1) ?_
            simp only [Act.put, List.setIfInBounds_toArray, List.set_cons_zero, List.set_cons_succ]
          all_goals
            refine Calm.pure (v := ?_) (by rfl) ?_ ?_
            rotate_left
            focus (intro w hSw; go_simp <;> rfl)
            simp only [Act.put, List.setIfInBounds_toArray, List.set_cons_zero, List.set_cons_succ]
          all_goals
            refine Calm.call3s (by rfl) rfl rfl rfl rfl (by kernel_rfl) hs (fun w1 h => C1 w1) ?_
            simp only [Act.put, List.setIfInBounds_toArray, List.set_cons_zero, List.set_cons_succ]
          all_goals
            refine Calm.pure (v := ?_) (by rfl) ?_ ?_
            rotate_left
            focus (intro w hSw; go_simp <;> rfl)
            simp only [Act.put, List.setIfInBounds_toArray, List.set_cons_zero, List.set_cons_succ]
          all_goals
            rintro w9 ⟨R09, R19, d9, R29, hown9, hbw9, hbel9⟩
          have hB9 := Nat.le_trans hB hbw9.size
          go_wp2_with fail
          go_roundw
          case rel =>
            refine ⟨k + 1, by simp, by omega, ?_, R09, R19, R29, hbel9, hB9⟩
            rw [HT2.out]
            exact hown9
          case measure => simp [intOf]; omega
      · obtain rfl : k = x.wr.length := by omega
        have hlt' : ¬ (x.wr.length : Int) < (x.wr.length : Int) := by omega
        rw [List.take_length] at hown ⊢
        have HFA : Hid (∀ w' : World, WHas w' (.slice P (lef x.wr q u v idx).length cc) (lef x.wr q u v idx) → Four w' { x with wr := lef x.wr q u v idx } (.slice pa x.am.length ca') (.slice P (lef x.wr q u v idx).length cc) (.slice pm x.mb.length cm) (.slice pe x.el.length ce)) := fun w' ha => four_zero HF.out (ck_parts HY1.out).2.2.1 (ck_parts HY1.out).2.2.2.1 (ck_parts HY1.out).2.2.2.2.1 ha
        replace hown : wr.ownsRow (w.heap.size + 3) 42 5 (.slice P (lef x.wr q u v idx).length cc) (lef x.wr q u v idx).length (rows Wt.cells (lef x.wr q u v idx)) := hown
        rw [show x.wr.filter (fun y => !bf y.p y.s y.i q u v idx) = lef x.wr q u v idx from rfl]
        obtain ⟨lf, HLF⟩ := hid_ex (lef x.wr q u v idx)
        rw [HLF.out] at hown HFA HD ⊢
        have f3 : wr.frozen? ⟨w.heap.size, 3, none⟩ = false := R0.frozen 3
        have R0a : Rw (wr.setCell ⟨w.heap.size, 3, none⟩ (.slice P lf.length cc)) w.heap.size 27 (cvc x.k x.b (.slice pa x.am.length ca') (.slice P lf.length cc) (.slice pm x.mb.length cm) (.slice pe x.el.length ce)) := R0.set 3 _
        replace R2 := R2.setOther (q := w.heap.size) (by omega) 3 (.slice P lf.length cc)
        replace hown := own_over hown (b := w.heap.size) (fun q' hq => by have := (World.ownsRow.lt hown q' hq).1; omega) 3 (.slice P lf.length cc)
        replace hbel := hbel.setCell (p := ⟨w.heap.size, 3, none⟩) (Nat.le_refl _) (.slice P lf.length cc)
        generalize hW1 : wr.setCell ⟨w.heap.size, 3, none⟩ (.slice P lf.length cc) = wa at R0a R2 hown hbel
        go_wp2_with (first | rw [hW1] | refine load_r 27 _ rfl rfl _ rfl R0a Try.underlying27 rfl size27 ?_ | refine store_r rfl 27 _ _ rfl _ (cvc x.k x.b (.slice pa x.am.length ca') (.slice P lf.length cc) (.slice pm x.mb.length cm) (.slice pe x.el.length ce)) rfl rfl R2 size27 rfl (by simp [Value.oneCell']) ?_)
        refine bodyPost_ret (results_r rfl rfl (R2.row (cvc x.k x.b (.slice pa x.am.length ca') (.slice P lf.length cc) (.slice pm x.mb.length cm) (.slice pe x.el.length ce))) rfl Try.underlying27 size27) rfl ?_
        rw [HD.out] at HZ
        have e := HZ.out
        subst e
        exact ⟨_, _, _, _, rfl, HFA.out _ (own_sh (own_row hown (b := w.heap.size + 2) (by omega) _)), below_setRow hbel (by omega) _⟩
end Go.Proofs.Ytknpnjhedfdggaa
