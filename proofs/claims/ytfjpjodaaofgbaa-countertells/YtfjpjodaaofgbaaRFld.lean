/- Fold of the document's answer. -/
import Derived.Test.YtfjpjodaaofgbaaRClr
import Derived.Test.YtfjpjodaaofgbaaFlds
namespace Go.Proofs.Ytfjpjodaaofgbaa
open Go.RowKit

theorem take_split {l : List A} {f : A → Bool} {k : Nat} (h : k < l.length) : sm ((l.take (k + 1)).filter f) = sm ((l.take k).filter f) + (if f l[k] = true then l[k].n else 0) := by
  rw [List.take_succ_eq_append_getElem h, List.filter_append, sm_append]
  congr 1
  cases e : f l[k]
  · rw [List.filter_cons_of_neg (by rw [e]; simp)]
    simp [sm]
  · rw [List.filter_cons_of_pos e]
    simp [sm]
set_option maxHeartbeats 4000000 in
set_option maxRecDepth 100000 in
theorem refFold_any (x : X) (va vw vm ve : Value) (v : List Int) (w : World) (hv : v.length = 13) (h : Four w x va vw vm ve) (hs' : Sm x) :
    Calls Try.prog 20 #[CV x.k x.b va vw vm ve, V v] w (Gives (foX x v) w) := by
  obtain ⟨i0, hi, hz0, hz1, hz2⟩ := info_parts info42
  obtain ⟨pa, ca', pw, cw, pm, cm, pe, ce, rfl, rfl, rfl, rfl⟩ := h.slices
  have HF : Hid (Four w x (.slice pa x.am.length ca') (.slice pw x.wr.length cw) (.slice pm x.mb.length cm) (.slice pe x.el.length ce)) := h
  clear h
  obtain ⟨z, HZ⟩ := hid_ex (foX x v)
  rw [HZ.out]
  obtain ⟨R0, R1, R2, hbel⟩ := three_rows w (cvc x.k x.b (.slice pa x.am.length ca') (.slice pw x.wr.length cw) (.slice pm x.mb.length cm) (.slice pe x.el.length ce)) 27 (vals v).toArray 31 (cvc 0 0 (.slice none 0 0) (.slice none 0 0) (.slice none 0 0) (.slice none 0 0)) 27
  have hB : w.heap.size + 3 ≤ (((w.alloc (.cells (cvc x.k x.b (.slice pa x.am.length ca') (.slice pw x.wr.length cw) (.slice pm x.mb.length cm) (.slice pe x.el.length ce)) 27)).alloc (.cells (vals v).toArray 31)).alloc (.cells (cvc 0 0 (.slice none 0 0) (.slice none 0 0) (.slice none 0 0) (.slice none 0 0)) 27)).heap.size := by simp
  generalize hW : ((w.alloc (.cells (cvc x.k x.b (.slice pa x.am.length ca') (.slice pw x.wr.length cw) (.slice pm x.mb.length cm) (.slice pe x.el.length ce)) 27)).alloc (.cells (vals v).toArray 31)).alloc (.cells (cvc 0 0 (.slice none 0 0) (.slice none 0 0) (.slice none 0 0) (.slice none 0 0)) 27) = w0 at R0 R1 R2 hbel hB
  go_enter Try.func20, Try.ntmps20
  go_wp2_with (first | rw [hW] | refine load_r 27 _ rfl rfl _ rfl R0 Try.underlying27 rfl size27 ?_)
  clear hW
  refine (refCheck_any x _ _ _ _ w0 (HF.out.later hbel) hs').mono ?_
  rintro e w1 ⟨rfl, hb1⟩
  replace R0 := R0.later hb1
  replace R1 := R1.later hb1
  replace R2 := R2.later hb1
  replace hbel := below_on hbel hb1
  replace hB := Nat.le_trans hB hb1.size
  clear hb1
  obtain ⟨y1, HY1⟩ := hid_ex (ck x)
  rw [HY1.out]
  cases y1
  · have HD : Hid (foX x v = x) := by
      show _ = _
      unfold foX
      rw [HY1.out]
      rfl
    rw [HD.out] at HZ
    go_wp2_with (first | refine load_r 27 _ rfl rfl _ rfl R0 Try.underlying27 rfl size27 ?_ | refine store_r rfl 27 _ _ rfl _ (cvc x.k x.b (.slice pa x.am.length ca') (.slice pw x.wr.length cw) (.slice pm x.mb.length cm) (.slice pe x.el.length ce)) rfl rfl R2 size27 rfl (by simp [Value.oneCell']) ?_)
    refine bodyPost_ret (results_r rfl rfl (R2.row _) rfl Try.underlying27 size27) rfl ?_
    have e := HZ.out
    subst e
    replace hbel := below_setRow hbel (g := w.heap.size + 2) (by omega) (cvc x.k x.b (.slice pa x.am.length ca') (.slice pw x.wr.length cw) (.slice pm x.mb.length cm) (.slice pe x.el.length ce))
    exact ⟨_, _, _, _, rfl, HF.out.later hbel, hbel⟩
  · have hsa := hs'.a
    have HNB : Hid (nb x.am) := ca_nb (ck_parts HY1.out).2.2.2.2.2
    obtain ⟨hb1, hb2⟩ : -1152921504606846976 ≤ x.b ∧ x.b ≤ 1152921504606846976 := by have := (ck_parts HY1.out).2.2.2.2.1; simpa [wi] using this
    have zvc : (Try.prog.info? 31).map (·.size) = some (vals v).length := info31 hv
    have c1 : w1.cell? ⟨w.heap.size, 1, none⟩ = some (.int .i64 x.b) := R0.cell 1
    go_wp2_with fail
    clear c1
    go_loopw [5, 6, 7] (fun vs vn vi wr => ∃ k : Nat, vi = .int .i64 k ∧ k ≤ x.am.length ∧ vs = .int .i64 (x.b + sm ((x.am.take k).filter (fun a => hs v a.p a.s))) ∧ wr.ownsRow (w.heap.size + 3) 42 4 vn ((x.am.take k).filter (fun a => !hs v a.p a.s)).length (rows A.cells ((x.am.take k).filter (fun a => !hs v a.p a.s))) ∧ Rw wr w.heap.size 27 (cvc x.k x.b (.slice pa x.am.length ca') (.slice pw x.wr.length cw) (.slice pm x.mb.length cm) (.slice pe x.el.length ce)) ∧ Rw wr (w.heap.size + 1) 31 (vals v).toArray ∧ Rw wr (w.heap.size + 2) 27 (cvc 0 0 (.slice none 0 0) (.slice none 0 0) (.slice none 0 0) (.slice none 0 0)) ∧ Below w.heap.size w wr ∧ w.heap.size + 3 ≤ wr.heap.size) (fun _ _ vi _ => x.am.length - (intOf vi).toNat)
    case atStart => exact ⟨0, rfl, by omega, by simp [sm], World.ownsRow_nil _ _ _ _, R0, R1, R2, hbel, hB⟩
    case round =>
      clear R0 R1 R2 hbel hB
      obtain ⟨k, rfl, hk, rfl, hown, R0, R1, R2, hbel, hB⟩ := hrel
      obtain ⟨P, cc, rfl⟩ := own_sl hown
      have c2 : wr.cell? ⟨w.heap.size, 2, none⟩ = some (.slice pa x.am.length ca') := R0.cell 2
      by_cases hlt : k < x.am.length
      · have hlt' : (k : Int) < (x.am.length : Int) := by omega
        obtain ⟨g, o, rfl, hd0⟩ := HF.out.a.at (by omega)
        have d := AHas.elem (range_later hd0 hbel) k hlt
        have hst := take_split (f := (fun a => hs v a.p a.s)) hlt
        have hyn := HNB.out x.am[k] (List.getElem_mem _)
        obtain ⟨y, HY⟩ := hid_ex x.am[k]
        rw [HY.out] at d hst hyn
        clear hd0
        have hsb := sm_bound _ (nb_filter (nb_take HNB.out k) (fun a => hs v a.p a.s))
        have hlk : ((x.am.take k).filter (fun a => hs v a.p a.s)).length ≤ 100 := by
          have h1 := List.length_filter_le (fun a => hs v a.p a.s) (x.am.take k)
          rw [List.length_take] at h1
          omega
        have hf100 : ((x.am.take k).filter (fun a => !hs v a.p a.s)).length ≤ 100 := by
          have h1 := List.length_filter_le (fun a => !hs v a.p a.s) (x.am.take k)
          rw [List.length_take] at h1
          omega
        have HT : Hid ((x.am.take (k + 1)).filter (fun a => !hs v a.p a.s) = ((x.am.take k).filter (fun a => !hs v a.p a.s)) ++ [y].filter (fun a => !hs v a.p a.s)) := by
          show _ = _
          rw [List.take_succ_eq_append_getElem hlt, List.filter_append, HY.out]
        obtain ⟨m, HM⟩ := hid_ex ((x.am.take k).filter (fun a => !hs v a.p a.s))
        rw [HM.out] at hown hf100 HT
        rw [HM.out]
        obtain ⟨n, HN⟩ := hid_ex (sm ((x.am.take k).filter (fun a => hs v a.p a.s)))
        rw [HN.out] at hst hsb
        rw [HN.out]
        have hnb : -107374182400 ≤ n ∧ n ≤ 107374182400 := by omega
        obtain ⟨hn1, hn2⟩ := hnb
        obtain ⟨hy1, hy2⟩ := hyn
        clear hsb hlk
        have C1 := fun w => refHas_any v y.p y.s w hv
        obtain ⟨zz, HZZ⟩ := hid_ex (hs v y.p y.s)
        rw [HZZ.out] at C1 hst
        have HST : Hid (sm ((x.am.take (k + 1)).filter (fun a => hs v a.p a.s)) = n + (if zz = true then y.n else 0)) := hst
        clear hst
        have zd : (Try.prog.info? 29).map (·.size) = some [Value.int .i64 y.p, .int .i64 y.s].length := size29
        have z42 : (Try.prog.info? 42).map (·.size) = some y.cells.length := size42
        have hbw := Below.refl wr.heap.size wr
        go_wp2_with fail
        clear c2
        cases zz
        · have HT2 : Hid ((x.am.take (k + 1)).filter (fun a => !hs v a.p a.s) = m ++ [y]) := by
            show _ = _
            rw [HT.out, List.filter_cons_of_pos (by rw [HZZ.out]; rfl), List.filter_nil]
          have hs : Calm.Stays (fun w' => Rw w' w.heap.size 27 (cvc x.k x.b (.slice (some ⟨g, o, none⟩) x.am.length ca') (.slice pw x.wr.length cw) (.slice pm x.mb.length cm) (.slice pe x.el.length ce)) ∧ Rw w' (w.heap.size + 1) 31 (vals v).toArray ∧ w'.rangeAt g (o + k * 4) y.cells ∧ Rw w' (w.heap.size + 2) 27 (cvc 0 0 (.slice none 0 0) (.slice none 0 0) (.slice none 0 0) (.slice none 0 0)) ∧ w'.ownsRow (w.heap.size + 3) 42 4 (.slice P m.length cc) m.length (rows A.cells m) ∧ Below wr.heap.size wr w' ∧ Below w.heap.size w w') := fun wa wb h hb => ⟨h.1.later hb, h.2.1.later hb, range_later h.2.2.1 hb, h.2.2.2.1.later hb, own_later h.2.2.2.2.1 hb, below_on h.2.2.2.2.2.1 hb, below_on h.2.2.2.2.2.2 hb⟩
          refine Calm.region (by kernel_rfl) (by kernel_rfl) (fun w' => Rw w' w.heap.size 27 (cvc x.k x.b (.slice (some ⟨g, o, none⟩) x.am.length ca') (.slice pw x.wr.length cw) (.slice pm x.mb.length cm) (.slice pe x.el.length ce)) ∧ Rw w' (w.heap.size + 1) 31 (vals v).toArray ∧ w'.rangeAt g (o + k * 4) y.cells ∧ Rw w' (w.heap.size + 2) 27 (cvc 0 0 (.slice none 0 0) (.slice none 0 0) (.slice none 0 0) (.slice none 0 0)) ∧ w'.ownsRow (w.heap.size + 3) 42 4 (.slice P m.length cc) m.length (rows A.cells m) ∧ Below wr.heap.size wr w' ∧ Below w.heap.size w w') ⟨R0, R1, d, R2, hown, hbw.drew, hbel.drew⟩ ?_
          all_goals
            refine Calm.loadM 31 Try.underlying31 rfl zvc (by rfl) _ rfl rfl (fun _ h => Rw.whole h.2.1) ?_
            simp only [Act.put, List.setIfInBounds_toArray, List.set_cons_zero, List.set_cons_succ]
          all_goals
            refine Calm.pure (v := ?_) (by rfl) ?_ ?_
            rotate_left
            focus (intro w hSw; go_simp <;> rfl)
            simp only [Act.put, List.setIfInBounds_toArray, List.set_cons_zero, List.set_cons_succ]
          all_goals
            refine Calm.pure (v := ?_) (by rfl) ?_ ?_
            rotate_left
            focus (intro w hSw; have g1 := hSw.1.cell 2; simp at g1; go_simp <;> rfl)
            simp only [Act.put, List.setIfInBounds_toArray, List.set_cons_zero, List.set_cons_succ]
          all_goals
            refine Calm.pure (v := ?_) (by rfl) ?_ ?_
            rotate_left
            focus (intro w hSw; go_simp <;> rfl)
            simp only [Act.put, List.setIfInBounds_toArray, List.set_cons_zero, List.set_cons_succ]
          all_goals
            refine Calm.pure (v := ?_) (by rfl) ?_ ?_
            rotate_left
            focus (intro w hSw; go_simp <;> rfl)
            simp only [Act.put, List.setIfInBounds_toArray, List.set_cons_zero, List.set_cons_succ]
          all_goals
            refine Calm.pure (v := ?_) (by rfl) ?_ ?_
            rotate_left
            focus (intro w hSw; go_simp <;> rfl)
            simp only [Act.put, List.setIfInBounds_toArray, List.set_cons_zero, List.set_cons_succ]
          all_goals
            refine Calm.pure (v := ?_) (by rfl) ?_ ?_
            rotate_left
            focus (intro w hSw; go_simp <;> rfl)
            simp only [Act.put, List.setIfInBounds_toArray, List.set_cons_zero, List.set_cons_succ]
          all_goals
            refine Calm.loadM 29 Try.underlying29 rfl zd (by rfl) _ rfl rfl (fun _ h => (fun j u hu => h.2.2.1 j u (by match j, hu with | 0, hu => exact hu | 1, hu => exact hu | j + 2, hu => simp at hu))) ?_
            simp only [Act.put, List.setIfInBounds_toArray, List.set_cons_zero, List.set_cons_succ]
          all_goals
            refine Calm.call2s (by rfl) rfl rfl rfl (by kernel_rfl) hs (fun w1 h => C1 w1) ?_
            simp only [Act.put, List.setIfInBounds_toArray, List.set_cons_zero, List.set_cons_succ]
          all_goals
            rintro w9 ⟨R09, R19, d9, R29, hown9, hbw9, hbel9⟩
          have hB9 := Nat.le_trans hB hbw9.size
          have c29 : w9.cell? ⟨w.heap.size, 2, none⟩ = some (.slice (some ⟨g, o, none⟩) x.am.length ca') := R09.cell 2
          go_wp2_with (first | refine load_m 42 _ rfl rfl _ _ rfl d9 Try.underlying42 rfl z42 ?_ | (at_builtin; refine wpList_append_own _ rfl _ _ 22 rfl (w.heap.size + 3) 42 i0 (AV 0 0 0 0) 4 32 Try.underlying22 hi hz0 hz1 hz2 rfl (by decide) _ _ _ rfl (hown9.alloc _) ⟨w9.heap.size, 0, none⟩ 1 1 y.cells rfl rfl ?c1 ?c2 ?c3 ?c4 ?c5 ?_))
          case c1 => exact fun q u hq => (cells_next _ (by simp) _ _ _).trans hq
          case c2 => exact y.one
          case c3 => unfold maxLen; omega
          case c4 => omega
          case c5 => simp; omega
          intro v2 w2 hown6 hg6 _
          have hlt6 := hown9.lt
          have hBg : ∀ q', (Value.slice P m.length cc).ownBlock = some q' → w.heap.size + 3 ≤ q' := fun q' hq => (hlt6 q' hq).1
          clear c29
          go_wp2_with fail
          go_roundw
          case rel =>
            refine ⟨k + 1, by simp, by omega, by rw [HST.out]; simp, ?_, (R09.alloc _).grown hg6 (fun q' hq => by have := hBg q' hq; omega), (R19.alloc _).grown hg6 (fun q' hq => by have := hBg q' hq; omega), (R29.alloc _).grown hg6 (fun q' hq => by have := hBg q' hq; omega), (bel_alloc hbel9 _).grown hg6 (by simp; omega) (fun q' hq => by have := hBg q' hq; omega), by have := hg6.size; simp at this; omega⟩
            rw [HT2.out, rows_append, List.length_append, rows_one]
            simpa using hown6
          case measure => simp [intOf]; omega
        · have HT2 : Hid ((x.am.take (k + 1)).filter (fun a => !hs v a.p a.s) = m) := by
            show _ = _
            rw [HT.out, List.filter_cons_of_neg (by rw [HZZ.out]; simp), List.filter_nil, List.append_nil]
          have hs : Calm.Stays (fun w' => Rw w' w.heap.size 27 (cvc x.k x.b (.slice (some ⟨g, o, none⟩) x.am.length ca') (.slice pw x.wr.length cw) (.slice pm x.mb.length cm) (.slice pe x.el.length ce)) ∧ Rw w' (w.heap.size + 1) 31 (vals v).toArray ∧ w'.rangeAt g (o + k * 4) y.cells ∧ Rw w' (w.heap.size + 2) 27 (cvc 0 0 (.slice none 0 0) (.slice none 0 0) (.slice none 0 0) (.slice none 0 0)) ∧ w'.ownsRow (w.heap.size + 3) 42 4 (.slice P m.length cc) m.length (rows A.cells m) ∧ Below wr.heap.size wr w' ∧ Below w.heap.size w w') := fun wa wb h hb => ⟨h.1.later hb, h.2.1.later hb, range_later h.2.2.1 hb, h.2.2.2.1.later hb, own_later h.2.2.2.2.1 hb, below_on h.2.2.2.2.2.1 hb, below_on h.2.2.2.2.2.2 hb⟩
          refine Calm.region (by kernel_rfl) (by kernel_rfl) (fun w' => Rw w' w.heap.size 27 (cvc x.k x.b (.slice (some ⟨g, o, none⟩) x.am.length ca') (.slice pw x.wr.length cw) (.slice pm x.mb.length cm) (.slice pe x.el.length ce)) ∧ Rw w' (w.heap.size + 1) 31 (vals v).toArray ∧ w'.rangeAt g (o + k * 4) y.cells ∧ Rw w' (w.heap.size + 2) 27 (cvc 0 0 (.slice none 0 0) (.slice none 0 0) (.slice none 0 0) (.slice none 0 0)) ∧ w'.ownsRow (w.heap.size + 3) 42 4 (.slice P m.length cc) m.length (rows A.cells m) ∧ Below wr.heap.size wr w' ∧ Below w.heap.size w w') ⟨R0, R1, d, R2, hown, hbw.drew, hbel.drew⟩ ?_
          all_goals
            refine Calm.loadM 31 Try.underlying31 rfl zvc (by rfl) _ rfl rfl (fun _ h => Rw.whole h.2.1) ?_
            simp only [Act.put, List.setIfInBounds_toArray, List.set_cons_zero, List.set_cons_succ]
          all_goals
            refine Calm.pure (v := ?_) (by rfl) ?_ ?_
            rotate_left
            focus (intro w hSw; go_simp <;> rfl)
            simp only [Act.put, List.setIfInBounds_toArray, List.set_cons_zero, List.set_cons_succ]
          all_goals
            refine Calm.pure (v := ?_) (by rfl) ?_ ?_
            rotate_left
            focus (intro w hSw; have g1 := hSw.1.cell 2; simp at g1; go_simp <;> rfl)
            simp only [Act.put, List.setIfInBounds_toArray, List.set_cons_zero, List.set_cons_succ]
          all_goals
            refine Calm.pure (v := ?_) (by rfl) ?_ ?_
            rotate_left
            focus (intro w hSw; go_simp <;> rfl)
            simp only [Act.put, List.setIfInBounds_toArray, List.set_cons_zero, List.set_cons_succ]
          all_goals
            refine Calm.pure (v := ?_) (by rfl) ?_ ?_
            rotate_left
            focus (intro w hSw; go_simp <;> rfl)
            simp only [Act.put, List.setIfInBounds_toArray, List.set_cons_zero, List.set_cons_succ]
          all_goals
            refine Calm.pure (v := ?_) (by rfl) ?_ ?_
            rotate_left
            focus (intro w hSw; go_simp <;> rfl)
            simp only [Act.put, List.setIfInBounds_toArray, List.set_cons_zero, List.set_cons_succ]
          all_goals
            refine Calm.pure (v := ?_) (by rfl) ?_ ?_
            rotate_left
            focus (intro w hSw; go_simp <;> rfl)
            simp only [Act.put, List.setIfInBounds_toArray, List.set_cons_zero, List.set_cons_succ]
          all_goals
            refine Calm.loadM 29 Try.underlying29 rfl zd (by rfl) _ rfl rfl (fun _ h => (fun j u hu => h.2.2.1 j u (by match j, hu with | 0, hu => exact hu | 1, hu => exact hu | j + 2, hu => simp at hu))) ?_
            simp only [Act.put, List.setIfInBounds_toArray, List.set_cons_zero, List.set_cons_succ]
          all_goals
            refine Calm.call2s (by rfl) rfl rfl rfl (by kernel_rfl) hs (fun w1 h => C1 w1) ?_
            simp only [Act.put, List.setIfInBounds_toArray, List.set_cons_zero, List.set_cons_succ]
          all_goals
            rintro w9 ⟨R09, R19, d9, R29, hown9, hbw9, hbel9⟩
          have hB9 := Nat.le_trans hB hbw9.size
          have c29 : w9.cell? ⟨w.heap.size, 2, none⟩ = some (.slice (some ⟨g, o, none⟩) x.am.length ca') := R09.cell 2
          have d39 : w9.cell? ⟨g, o + k * 4 + 3, none⟩ = some (.int .i64 y.n) := d9 3 _ rfl
          go_wp2_with fail
          go_roundw
          case rel =>
            refine ⟨k + 1, by simp, by omega, ?_, ?_, R09, R19, R29, hbel9, hB9⟩
            · rw [HST.out]
              simp
              omega
            · rw [HT2.out]
              exact hown9
          case measure => simp [intOf]; omega
      · obtain rfl : k = x.am.length := by omega
        have hlt' : ¬ (x.am.length : Int) < (x.am.length : Int) := by omega
        rw [List.take_length] at hown ⊢
        replace hown : wr.ownsRow (w.heap.size + 3) 42 4 _ (rst x v).length (rows A.cells (rst x v)) := hown
        have hbs : x.b + sm (x.am.filter (fun a => hs v a.p a.s)) = bsX x v := by
          have := rst_sm x v
          unfold bsX
          omega
        rw [hbs]
        clear hbs
        have HFA : Hid (∀ w' : World, AHas w' (.slice P (rst x v).length cc) (rst x v) → Four w' ⟨1, bsX x v, rst x v, [], [], []⟩ (.slice P (rst x v).length cc) (.slice pw x.wr.length cw) (.slice pm x.mb.length cm) (.slice pe x.el.length ce)) := fun w' ha => four_as HF.out (ck_parts HY1.out).2.1 (ck_parts HY1.out).2.2.1 (ck_parts HY1.out).2.2.2.1 ha 1 (bsX x v)
        have HK1 : Hid (x.k = 1) := (ck_parts HY1.out).1
        have HD : Hid (∀ z, wi (bsX x v) (-1152921504606846976) 1152921504606846976 = z → foX x v = if z = true then ⟨1, bsX x v, rst x v, [], [], []⟩ else x) := fun z hz => by
          unfold foX
          rw [HY1.out, hz]
          rfl
        obtain ⟨lf, HLF⟩ := hid_ex (rst x v)
        have e0 : (x.am.filter (fun a => !hs v a.p a.s)).length = lf.length := by rw [← HLF.out]; rfl
        rw [e0]
        rw [e0] at hown
        rw [HLF.out] at hown HFA HD
        clear e0
        obtain ⟨bs, HBS⟩ := hid_ex (bsX x v)
        rw [HBS.out]
        rw [HBS.out] at HFA HD
        have HOUT : Hid (∀ z, wi bs (-1152921504606846976) 1152921504606846976 = z → foX x v = if z = true then ⟨1, bs, lf, [], [], []⟩ else x) := HD
        clear HD
        by_cases hw1 : bs < -1152921504606846976
        · have hd1 : decide (bs < -1152921504606846976) = true := decide_eq_true hw1
          have hfx := HOUT.out false (by unfold wi; rw [decide_eq_false (show ¬ -1152921504606846976 ≤ bs by omega)]; rfl)
          rw [if_neg (by simp)] at hfx
          have HFX : Hid (foX x v = x) := hfx
          clear hfx
          go_wp2_with (first | refine load_r 27 _ rfl rfl _ rfl R0 Try.underlying27 rfl size27 ?_ | refine store_r rfl 27 _ _ rfl _ (cvc x.k x.b (.slice pa x.am.length ca') (.slice pw x.wr.length cw) (.slice pm x.mb.length cm) (.slice pe x.el.length ce)) rfl rfl R2 size27 rfl (by simp [Value.oneCell']) ?_)
          refine bodyPost_ret (results_r rfl rfl (R2.row _) rfl Try.underlying27 size27) rfl ?_
          rw [HFX.out] at HZ
          have e := HZ.out
          subst e
          replace hbel := below_setRow hbel (g := w.heap.size + 2) (by omega) (cvc x.k x.b (.slice pa x.am.length ca') (.slice pw x.wr.length cw) (.slice pm x.mb.length cm) (.slice pe x.el.length ce))
          exact ⟨_, _, _, _, rfl, HF.out.later hbel, hbel⟩
        · have hd1 : decide (bs < -1152921504606846976) = false := decide_eq_false hw1
          by_cases hw2 : 1152921504606846976 < bs
          · have hd2 : decide (1152921504606846976 < bs) = true := decide_eq_true hw2
            have hfx := HOUT.out false (by unfold wi; rw [decide_eq_false (show ¬ bs ≤ 1152921504606846976 by omega)]; simp)
            rw [if_neg (by simp)] at hfx
            have HFX : Hid (foX x v = x) := hfx
            clear hfx
            go_wp2_with (first | refine load_r 27 _ rfl rfl _ rfl R0 Try.underlying27 rfl size27 ?_ | refine store_r rfl 27 _ _ rfl _ (cvc x.k x.b (.slice pa x.am.length ca') (.slice pw x.wr.length cw) (.slice pm x.mb.length cm) (.slice pe x.el.length ce)) rfl rfl R2 size27 rfl (by simp [Value.oneCell']) ?_)
            refine bodyPost_ret (results_r rfl rfl (R2.row _) rfl Try.underlying27 size27) rfl ?_
            rw [HFX.out] at HZ
            have e := HZ.out
            subst e
            replace hbel := below_setRow hbel (g := w.heap.size + 2) (by omega) (cvc x.k x.b (.slice pa x.am.length ca') (.slice pw x.wr.length cw) (.slice pm x.mb.length cm) (.slice pe x.el.length ce))
            exact ⟨_, _, _, _, rfl, HF.out.later hbel, hbel⟩
          · have hd2 : decide (1152921504606846976 < bs) = false := decide_eq_false hw2
            have hfx := HOUT.out true (by unfold wi; rw [decide_eq_true (show -1152921504606846976 ≤ bs by omega), decide_eq_true (show bs ≤ 1152921504606846976 by omega)]; rfl)
            rw [if_pos rfl] at hfx
            have HFX : Hid (foX x v = ⟨1, bs, lf, [], [], []⟩) := hfx
            clear hfx
            have c1 : wr.cell? ⟨w.heap.size, 1, none⟩ = some (.int .i64 x.b) := R0.cell 1
            have f1 : wr.frozen? ⟨w.heap.size, 1, none⟩ = false := R0.frozen 1
            have R0a : Rw (wr.setCell ⟨w.heap.size, 1, none⟩ (.int .i64 bs)) w.heap.size 27 (cvc x.k bs (.slice pa x.am.length ca') (.slice pw x.wr.length cw) (.slice pm x.mb.length cm) (.slice pe x.el.length ce)) := R0.set 1 _
            replace R2 := R2.setOther (q := w.heap.size) (by omega) 1 (.int .i64 bs)
            replace hown := own_over hown (b := w.heap.size) (fun q' hq => by have := (World.ownsRow.lt hown q' hq).1; omega) 1 (.int .i64 bs)
            replace hbel := hbel.setCell (p := ⟨w.heap.size, 1, none⟩) (Nat.le_refl _) (.int .i64 bs)
            generalize hW1 : wr.setCell ⟨w.heap.size, 1, none⟩ (.int .i64 bs) = wa at R0a R2 hown hbel
            have g2 : wa.cell? ⟨w.heap.size, 2, none⟩ = some (.slice pa x.am.length ca') := R0a.cell 2
            have f2 : wa.frozen? ⟨w.heap.size, 2, none⟩ = false := R0a.frozen 2
            replace R0a : Rw (wa.setCell ⟨w.heap.size, 2, none⟩ (.slice P lf.length cc)) w.heap.size 27 (cvc x.k bs (.slice P lf.length cc) (.slice pw x.wr.length cw) (.slice pm x.mb.length cm) (.slice pe x.el.length ce)) := R0a.set 2 _
            replace R2 := R2.setOther (q := w.heap.size) (by omega) 2 (.slice P lf.length cc)
            replace hown := own_over hown (b := w.heap.size) (fun q' hq => by have := (World.ownsRow.lt hown q' hq).1; omega) 2 (.slice P lf.length cc)
            replace hbel := hbel.setCell (p := ⟨w.heap.size, 2, none⟩) (Nat.le_refl _) (.slice P lf.length cc)
            generalize hW2 : wa.setCell ⟨w.heap.size, 2, none⟩ (.slice P lf.length cc) = wb at R0a R2 hown hbel
            go_wp2_with (first | rw [hW1] | rw [hW2] | refine load_r 27 _ rfl rfl _ rfl R0a Try.underlying27 rfl size27 ?_ | refine store_r rfl 27 _ _ rfl _ (cvc x.k bs (.slice P lf.length cc) (.slice pw x.wr.length cw) (.slice pm x.mb.length cm) (.slice pe x.el.length ce)) rfl rfl R2 size27 rfl (by simp [Value.oneCell']) ?_)
            refine bodyPost_ret (results_r rfl rfl (R2.row _) rfl Try.underlying27 size27) rfl ?_
            rw [HFX.out] at HZ
            have e := HZ.out
            subst e
            exact ⟨_, _, _, _, by rw [HK1.out], HFA.out _ (own_sh (own_row hown (b := w.heap.size + 2) (by omega) _)), below_setRow hbel (by omega) _⟩
end Go.Proofs.Ytfjpjodaaofgbaa
