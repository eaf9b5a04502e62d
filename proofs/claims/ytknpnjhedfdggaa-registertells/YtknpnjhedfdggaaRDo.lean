/- Do of the document's answer. -/
import Derived.Test.YtknpnjhedfdggaaRClr
namespace Go.Proofs.Ytknpnjhedfdggaa
open Go.RowKit

/-- What stands so far. -/
def DInv (a : Wt) (l : List Wt) (k : Nat) (d : Bool) (m : List Wt) : Prop := (d = true → m = insF a (l.take k) ∧ ∃ j, ∃ h : j < l.length, j < k ∧ lt a l[j] = true) ∧ (d = false → m = l.take k ∧ ∀ y ∈ l.take k, lt y a = true)
theorem insF_all {a : Wt} {l : List Wt} (h : ∀ y ∈ l, lt y a = true) : insF a l = l ++ [a] := by
  unfold insF
  rw [List.filter_eq_self.2 h, List.filter_eq_nil_iff.2 (fun y hy => by rw [h y hy]; simp)]
theorem insF_snoc {a y : Wt} (h : lt y a = false) (l : List Wt) : insF a (l ++ [y]) = insF a l ++ [y] := by
  unfold insF
  rw [List.filter_append, List.filter_append, List.filter_cons_of_neg (by rw [h]; simp), List.filter_cons_of_pos (by rw [h]; rfl), List.filter_nil, List.filter_nil, List.append_nil, List.append_assoc, List.cons_append]
theorem mk_symm {x y : Wt} (h : mk x y = false) : mk y x = false := by
  cases e : mk y x
  · rfl
  · rw [mk_iff] at e
    rw [show mk x y = true from (mk_iff _ _).2 ⟨e.1.symm, e.2.1.symm, e.2.2.symm⟩] at h
    cases h
set_option maxHeartbeats 8000000 in
set_option maxRecDepth 100000 in
theorem refDo_any (x : X) (va vw vm ve : Value) (p s : Int) (u : List Int) (t : Int) (sl : Value) (i : Int) (tx : ByteArray) (w : World) (hu : u.length = 13) (h : Four w x va vw vm ve) (hs : Sm x) :
    Calls Try.prog 16 #[CV x.k x.b va vw vm ve, TxV p s u t sl, .int .i64 i, .string tx] w (Gives (doX x ⟨p, s, i, t, tx⟩ u) w) := by
  obtain ⟨i0, hi, hz0, hz1, hz2⟩ := info_parts info42
  obtain ⟨pa, ca', pw, cw, pm, cm, pe, ce, rfl, rfl, rfl, rfl⟩ := h.slices
  have HF : Hid (Four w x (.slice pa x.am.length ca') (.slice pw x.wr.length cw) (.slice pm x.mb.length cm) (.slice pe x.el.length ce)) := h
  clear h
  obtain ⟨z, HZ⟩ := hid_ex (doX x ⟨p, s, i, t, tx⟩ u)
  rw [HZ.out]
  obtain ⟨R0, R1, R2, hbel⟩ := three_rows w (cvc x.k x.b (.slice pa x.am.length ca') (.slice pw x.wr.length cw) (.slice pm x.mb.length cm) (.slice pe x.el.length ce)) 27 (txc p s u t sl).toArray 34 (cvc 0 0 (.slice none 0 0) (.slice none 0 0) (.slice none 0 0) (.slice none 0 0)) 27
  have hB : w.heap.size + 3 ≤ (((w.alloc (.cells (cvc x.k x.b (.slice pa x.am.length ca') (.slice pw x.wr.length cw) (.slice pm x.mb.length cm) (.slice pe x.el.length ce)) 27)).alloc (.cells (txc p s u t sl).toArray 34)).alloc (.cells (cvc 0 0 (.slice none 0 0) (.slice none 0 0) (.slice none 0 0) (.slice none 0 0)) 27)).heap.size := by simp
  generalize hW : ((w.alloc (.cells (cvc x.k x.b (.slice pa x.am.length ca') (.slice pw x.wr.length cw) (.slice pm x.mb.length cm) (.slice pe x.el.length ce)) 27)).alloc (.cells (txc p s u t sl).toArray 34)).alloc (.cells (cvc 0 0 (.slice none 0 0) (.slice none 0 0) (.slice none 0 0) (.slice none 0 0)) 27) = w0 at R0 R1 R2 hbel hB
  go_enter Try.func16, Try.ntmps16
  go_wp2_with (first | rw [hW] | refine load_r 27 _ rfl rfl _ rfl R0 Try.underlying27 rfl size27 ?_)
  clear hW
  refine (refCheck_any x _ _ _ _ w0 (HF.out.later hbel) hs).mono ?_
  rintro e w1 ⟨rfl, hb1⟩
  replace R0 := R0.later hb1
  replace R1 := R1.later hb1
  replace R2 := R2.later hb1
  replace hbel := below_on hbel hb1
  replace hB := Nat.le_trans hB hb1.size
  clear hb1
  obtain ⟨y1, HY1⟩ := hid_ex (ck x)
  rw [HY1.out]
  cases y1
  · have HFX : Hid (doX x ⟨p, s, i, t, tx⟩ u = x) := by
      show _ = _
      unfold doX
      rw [HY1.out]
      rfl
    go_wp2_with (first | refine load_r 27 _ rfl rfl _ rfl R0 Try.underlying27 rfl size27 ?_ | refine store_r rfl 27 _ _ rfl _ (cvc x.k x.b (.slice pa x.am.length ca') (.slice pw x.wr.length cw) (.slice pm x.mb.length cm) (.slice pe x.el.length ce)) rfl rfl R2 size27 rfl (by simp [Value.oneCell']) ?_)
    refine bodyPost_ret (results_r rfl rfl (R2.row (cvc x.k x.b (.slice pa x.am.length ca') (.slice pw x.wr.length cw) (.slice pm x.mb.length cm) (.slice pe x.el.length ce))) rfl Try.underlying27 size27) rfl ?_
    rw [HFX.out] at HZ
    have e := HZ.out
    subst e
    replace hbel := below_setRow hbel (g := w.heap.size + 2) (by omega) (cvc x.k x.b (.slice pa x.am.length ca') (.slice pw x.wr.length cw) (.slice pm x.mb.length cm) (.slice pe x.el.length ce))
    exact ⟨_, _, _, _, rfl, HF.out.later hbel, hbel⟩
  · by_cases hx1 : 64 < tx.size
    · have hd0 : (64 : Int) < (tx.size : Int) := by omega
      have HFX : Hid (doX x ⟨p, s, i, t, tx⟩ u = x) := by
        show _ = _
        unfold doX
        have e : iw i tx = false := by unfold iw; rw [decide_eq_false (show ¬ tx.size ≤ 64 by omega)]; simp
        simp only [e]
        simp
      go_wp2_with (first | refine load_r 27 _ rfl rfl _ rfl R0 Try.underlying27 rfl size27 ?_ | refine store_r rfl 27 _ _ rfl _ (cvc x.k x.b (.slice pa x.am.length ca') (.slice pw x.wr.length cw) (.slice pm x.mb.length cm) (.slice pe x.el.length ce)) rfl rfl R2 size27 rfl (by simp [Value.oneCell']) ?_)
      refine bodyPost_ret (results_r rfl rfl (R2.row (cvc x.k x.b (.slice pa x.am.length ca') (.slice pw x.wr.length cw) (.slice pm x.mb.length cm) (.slice pe x.el.length ce))) rfl Try.underlying27 size27) rfl ?_
      rw [HFX.out] at HZ
      have e := HZ.out
      subst e
      replace hbel := below_setRow hbel (g := w.heap.size + 2) (by omega) (cvc x.k x.b (.slice pa x.am.length ca') (.slice pw x.wr.length cw) (.slice pm x.mb.length cm) (.slice pe x.el.length ce))
      exact ⟨_, _, _, _, rfl, HF.out.later hbel, hbel⟩
    · have hd0 : ¬ (64 : Int) < (tx.size : Int) := by omega
      by_cases hi1 : i < 1
      · have hd1 : i < 1 := hi1
        have HFX : Hid (doX x ⟨p, s, i, t, tx⟩ u = x) := by
          show _ = _
          unfold doX
          have e : iw i tx = false := by unfold iw; rw [decide_eq_false (show ¬ 1 ≤ i by omega)]; rfl
          simp only [e]
          simp
        go_wp2_with (first | refine load_r 27 _ rfl rfl _ rfl R0 Try.underlying27 rfl size27 ?_ | refine store_r rfl 27 _ _ rfl _ (cvc x.k x.b (.slice pa x.am.length ca') (.slice pw x.wr.length cw) (.slice pm x.mb.length cm) (.slice pe x.el.length ce)) rfl rfl R2 size27 rfl (by simp [Value.oneCell']) ?_)
        refine bodyPost_ret (results_r rfl rfl (R2.row (cvc x.k x.b (.slice pa x.am.length ca') (.slice pw x.wr.length cw) (.slice pm x.mb.length cm) (.slice pe x.el.length ce))) rfl Try.underlying27 size27) rfl ?_
        rw [HFX.out] at HZ
        have e := HZ.out
        subst e
        replace hbel := below_setRow hbel (g := w.heap.size + 2) (by omega) (cvc x.k x.b (.slice pa x.am.length ca') (.slice pw x.wr.length cw) (.slice pm x.mb.length cm) (.slice pe x.el.length ce))
        exact ⟨_, _, _, _, rfl, HF.out.later hbel, hbel⟩
      · have HIA : Hid (iw i tx = true) := by
          show _ = _
          unfold iw
          rw [decide_eq_true (show 1 ≤ i by omega), decide_eq_true (show tx.size ≤ 64 by omega)]
          rfl
        have HP : Hid (x.wr.Pairwise (fun a b => lt a b = true)) := ((ca_pair x.wr).1 (ck_parts HY1.out).2.2.2.2.2).2
        have hsa := hs.t
        have zd : (Try.prog.info? 29).map (·.size) = some [Value.int .i64 p, .int .i64 s].length := size29
        have hba := bel_alloc (Below.refl w1.heap.size w1) (.cells #[.int .i64 p, .int .i64 s, .int .i64 i, .int .i64 t, .string tx] 42)
        have RB := rw_new w1 42 #[.int .i64 p, .int .i64 s, .int .i64 i, .int .i64 t, .string tx]
        have hsz : (w1.alloc (.cells #[.int .i64 p, .int .i64 s, .int .i64 i, .int .i64 t, .string tx] 42)).heap.size = w1.heap.size + 1 := by simp
        have c15 := tx_time R1 hu
        generalize hW : w1.alloc (.cells #[.int .i64 p, .int .i64 s, .int .i64 i, .int .i64 t, .string tx] 42) = w3 at hba RB hsz
        go_wp2_with (first | rw [hW] | refine load_m 29 _ rfl rfl _ _ rfl (tx_dot R1) Try.underlying29 rfl zd ?_)
        clear hW hd0 c15
        replace R0 := R0.later hba
        replace R1 := R1.later hba
        replace R2 := R2.later hba
        replace hbel := below_on hbel hba
        clear hba
        generalize w1.heap.size = pb at RB hsz hB ⊢
        have hpb : w.heap.size + 3 ≤ pb := hB
        have hB : pb + 1 ≤ w3.heap.size := by omega
        clear hsz
        go_loopw [10] (fun vi wr => (∃ (k : Nat), vi = .int .i64 k ∧ k ≤ x.wr.length ∧ Hid (∀ j (h : j < x.wr.length), j < k → mk x.wr[j] ⟨p, s, i, t, tx⟩ = false) ∧ Rw wr w.heap.size 27 (cvc x.k x.b (.slice pa x.am.length ca') (.slice pw x.wr.length cw) (.slice pm x.mb.length cm) (.slice pe x.el.length ce)) ∧ Rw wr (w.heap.size + 1) 34 (txc p s u t sl).toArray ∧ Rw wr (w.heap.size + 2) 27 (cvc 0 0 (.slice none 0 0) (.slice none 0 0) (.slice none 0 0) (.slice none 0 0)) ∧ Rw wr pb 42 #[.int .i64 p, .int .i64 s, .int .i64 i, .int .i64 t, .string tx] ∧ Below w.heap.size w wr ∧ pb + 1 ≤ wr.heap.size)) (fun vi _ => x.wr.length - (intOf vi).toNat)
        case atStart => exact ⟨0, rfl, by omega, (show ∀ j (_ : j < x.wr.length), j < 0 → _ from fun j _ h => by omega), R0, R1, R2, RB, hbel, hB⟩
        case round =>
          clear R0 R1 R2 RB hbel hB
          obtain ⟨k, rfl, hk, HV, R0, R1, R2, RB, hbel, hB⟩ := hrel
          have c3 : wr.cell? ⟨w.heap.size, 3, none⟩ = some (.slice pw x.wr.length cw) := R0.cell 3
          by_cases hlt : k < x.wr.length
          · have hlt' : (k : Int) < (x.wr.length : Int) := by omega
            obtain ⟨g, o, rfl, hd0⟩ := HF.out.t.at (by omega)
            have dd := Wt.elem (range_later hd0 hbel) k hlt
            obtain ⟨y, HY⟩ := hid_ex x.wr[k]
            rw [HY.out] at dd
            clear hd0
            have E := fun w => eq_mark w y.p y.s y.i p s i
            obtain ⟨z1, HZ1⟩ := hid_ex (mk y ⟨p, s, i, t, tx⟩)
            rw [show (decide (y.p = p) && decide (y.s = s) && decide (y.i = i)) = z1 from HZ1.out] at E
            have zm : (Try.prog.info? 39).map (·.size) = some [Value.int .i64 y.p, .int .i64 y.s, .int .i64 y.i].length := size39
            have za : (Try.prog.info? 39).map (·.size) = some [Value.int .i64 p, .int .i64 s, .int .i64 i].length := size39
            have hbw := Below.refl wr.heap.size wr
            go_wp2_with fail
            clear c3
            cases z1
            case' true =>
              have hs : Calm.Stays (fun w' => Rw w' w.heap.size 27 (cvc x.k x.b (.slice pa x.am.length ca') (.slice (some ⟨g, o, none⟩) x.wr.length cw) (.slice pm x.mb.length cm) (.slice pe x.el.length ce)) ∧ Rw w' (w.heap.size + 1) 34 (txc p s u t sl).toArray ∧ Rw w' (w.heap.size + 2) 27 (cvc 0 0 (.slice none 0 0) (.slice none 0 0) (.slice none 0 0) (.slice none 0 0)) ∧ Rw w' pb 42 #[.int .i64 p, .int .i64 s, .int .i64 i, .int .i64 t, .string tx] ∧ w'.rangeAt g (o + k * 5) y.cells ∧ Below wr.heap.size wr w' ∧ Below w.heap.size w w') := fun wa wb h hb => ⟨h.1.later hb, h.2.1.later hb, h.2.2.1.later hb, h.2.2.2.1.later hb, range_later h.2.2.2.2.1 hb, below_on h.2.2.2.2.2.1 hb, below_on h.2.2.2.2.2.2 hb⟩
              refine Calm.region (by kernel_rfl) (by kernel_rfl) (fun w' => Rw w' w.heap.size 27 (cvc x.k x.b (.slice pa x.am.length ca') (.slice (some ⟨g, o, none⟩) x.wr.length cw) (.slice pm x.mb.length cm) (.slice pe x.el.length ce)) ∧ Rw w' (w.heap.size + 1) 34 (txc p s u t sl).toArray ∧ Rw w' (w.heap.size + 2) 27 (cvc 0 0 (.slice none 0 0) (.slice none 0 0) (.slice none 0 0) (.slice none 0 0)) ∧ Rw w' pb 42 #[.int .i64 p, .int .i64 s, .int .i64 i, .int .i64 t, .string tx] ∧ w'.rangeAt g (o + k * 5) y.cells ∧ Below wr.heap.size wr w' ∧ Below w.heap.size w w') ⟨R0, R1, R2, RB, dd, hbw.drew, hbel.drew⟩ ?_
              all_goals
                refine Calm.pure (v := ?_) (by rfl) ?_ ?_
                rotate_left
                focus (intro w hSw; go_simp <;> rfl)
                simp only [Act.put, List.setIfInBounds_toArray, List.set_cons_zero, List.set_cons_succ]
              all_goals
                refine Calm.pure (v := ?_) (by rfl) ?_ ?_
                rotate_left
                focus (intro w hSw; have g1 := hSw.1.cell 3; simp at g1; go_simp <;> rfl)
                simp only [Act.put, List.setIfInBounds_toArray, List.set_cons_zero, List.set_cons_succ]
              all_goals
                refine Calm.pure (v := ?_) (by rfl) ?_ ?_
                rotate_left
                focus (intro w hSw; go_simp <;> rfl)
                simp only [Act.put, List.setIfInBounds_toArray, List.set_cons_zero, List.set_cons_succ]
              all_goals
                refine Calm.pure (v := ?_) (by rfl) ?_ ?_
                rotate_left
                focus (intro w hSw; go_simp <;> rfl)
                simp only [Act.put, List.setIfInBounds_toArray, List.set_cons_zero, List.set_cons_succ]
              all_goals
                refine Calm.pure (v := ?_) (by rfl) ?_ ?_
                rotate_left
                focus (intro w hSw; go_simp <;> rfl)
                simp only [Act.put, List.setIfInBounds_toArray, List.set_cons_zero, List.set_cons_succ]
              all_goals
                first | (refine Calm.loadM 39 Try.underlying39 rfl zm (by rfl) _ rfl rfl (fun _ h => Wt.mark h.2.2.2.2.1) ?_) | (refine Calm.loadM 39 Try.underlying39 rfl za (by rfl) _ rfl rfl (fun _ h => Wt.mark (x := ⟨p, s, i, t, tx⟩) (Rw.whole h.2.2.2.1)) ?_)
                simp only [Act.put, List.setIfInBounds_toArray, List.set_cons_zero, List.set_cons_succ]
              all_goals
                refine Calm.pure (v := ?_) (by rfl) ?_ ?_
                rotate_left
                focus (intro w hSw; go_simp <;> rfl)
                simp only [Act.put, List.setIfInBounds_toArray, List.set_cons_zero, List.set_cons_succ]
              all_goals
                first | (refine Calm.loadM 39 Try.underlying39 rfl zm (by rfl) _ rfl rfl (fun _ h => Wt.mark h.2.2.2.2.1) ?_) | (refine Calm.loadM 39 Try.underlying39 rfl za (by rfl) _ rfl rfl (fun _ h => Wt.mark (x := ⟨p, s, i, t, tx⟩) (Rw.whole h.2.2.2.1)) ?_)
                simp only [Act.put, List.setIfInBounds_toArray, List.set_cons_zero, List.set_cons_succ]
              all_goals
                refine Calm.pure (v := ?_) (by rfl) ?_ ?_
                rotate_left
                focus (intro w hSw; go_simp <;> rfl)
                simp only [Act.put, List.setIfInBounds_toArray, List.set_cons_zero, List.set_cons_succ]
              all_goals
                rintro w9 ⟨R09, R19, R29, RB9, d9, hbw9, hbel9⟩
              have HH : Hid (has ⟨p, s, i, t, tx⟩ x.wr = true) := by
                show _ = _
                unfold has
                rw [List.any_eq_true]
                exact ⟨x.wr[k], List.getElem_mem _, by rw [HY.out]; exact HZ1.out⟩
              replace hbel := hbel9
              have R0 := R09
              have R2 := R29
              have HFX : Hid (doX x ⟨p, s, i, t, tx⟩ u = x) := by
                show _ = _
                unfold doX
                rw [HH.out]
                simp
              go_wp2_with (first | refine load_r 27 _ rfl rfl _ rfl R0 Try.underlying27 rfl size27 ?_ | refine store_r rfl 27 _ _ rfl _ (cvc x.k x.b (.slice pa x.am.length ca') (.slice (some ⟨g, o, none⟩) x.wr.length cw) (.slice pm x.mb.length cm) (.slice pe x.el.length ce)) rfl rfl R2 size27 rfl (by simp [Value.oneCell']) ?_)
              refine bodyPost_ret (results_r rfl rfl (R2.row (cvc x.k x.b (.slice pa x.am.length ca') (.slice (some ⟨g, o, none⟩) x.wr.length cw) (.slice pm x.mb.length cm) (.slice pe x.el.length ce))) rfl Try.underlying27 size27) rfl ?_
              rw [HFX.out] at HZ
              have e := HZ.out
              subst e
              replace hbel := below_setRow hbel (g := w.heap.size + 2) (by omega) (cvc x.k x.b (.slice pa x.am.length ca') (.slice (some ⟨g, o, none⟩) x.wr.length cw) (.slice pm x.mb.length cm) (.slice pe x.el.length ce))
              exact ⟨_, _, _, _, rfl, HF.out.later hbel, hbel⟩
            case' false =>
              have HV2 : Hid (∀ j (h : j < x.wr.length), j < k + 1 → mk x.wr[j] ⟨p, s, i, t, tx⟩ = false) := fun j h hj => by
                rcases Nat.lt_or_ge j k with h' | h'
                · exact HV.out j h h'
                · obtain rfl : j = k := by omega
                  rw [HY.out]
                  exact HZ1.out
              have hs : Calm.Stays (fun w' => Rw w' w.heap.size 27 (cvc x.k x.b (.slice pa x.am.length ca') (.slice (some ⟨g, o, none⟩) x.wr.length cw) (.slice pm x.mb.length cm) (.slice pe x.el.length ce)) ∧ Rw w' (w.heap.size + 1) 34 (txc p s u t sl).toArray ∧ Rw w' (w.heap.size + 2) 27 (cvc 0 0 (.slice none 0 0) (.slice none 0 0) (.slice none 0 0) (.slice none 0 0)) ∧ Rw w' pb 42 #[.int .i64 p, .int .i64 s, .int .i64 i, .int .i64 t, .string tx] ∧ w'.rangeAt g (o + k * 5) y.cells ∧ Below wr.heap.size wr w' ∧ Below w.heap.size w w') := fun wa wb h hb => ⟨h.1.later hb, h.2.1.later hb, h.2.2.1.later hb, h.2.2.2.1.later hb, range_later h.2.2.2.2.1 hb, below_on h.2.2.2.2.2.1 hb, below_on h.2.2.2.2.2.2 hb⟩
              refine Calm.region (by kernel_rfl) (by kernel_rfl) (fun w' => Rw w' w.heap.size 27 (cvc x.k x.b (.slice pa x.am.length ca') (.slice (some ⟨g, o, none⟩) x.wr.length cw) (.slice pm x.mb.length cm) (.slice pe x.el.length ce)) ∧ Rw w' (w.heap.size + 1) 34 (txc p s u t sl).toArray ∧ Rw w' (w.heap.size + 2) 27 (cvc 0 0 (.slice none 0 0) (.slice none 0 0) (.slice none 0 0) (.slice none 0 0)) ∧ Rw w' pb 42 #[.int .i64 p, .int .i64 s, .int .i64 i, .int .i64 t, .string tx] ∧ w'.rangeAt g (o + k * 5) y.cells ∧ Below wr.heap.size wr w' ∧ Below w.heap.size w w') ⟨R0, R1, R2, RB, dd, hbw.drew, hbel.drew⟩ ?_
              all_goals
                refine Calm.pure (v := ?_) (by rfl) ?_ ?_
                rotate_left
                focus (intro w hSw; go_simp <;> rfl)
                simp only [Act.put, List.setIfInBounds_toArray, List.set_cons_zero, List.set_cons_succ]
              all_goals
                refine Calm.pure (v := ?_) (by rfl) ?_ ?_
                rotate_left
                focus (intro w hSw; have g1 := hSw.1.cell 3; simp at g1; go_simp <;> rfl)
                simp only [Act.put, List.setIfInBounds_toArray, List.set_cons_zero, List.set_cons_succ]
              all_goals
                refine Calm.pure (v := ?_) (by rfl) ?_ ?_
                rotate_left
                focus (intro w hSw; go_simp <;> rfl)
                simp only [Act.put, List.setIfInBounds_toArray, List.set_cons_zero, List.set_cons_succ]
              all_goals
                refine Calm.pure (v := ?_) (by rfl) ?_ ?_
                rotate_left
                focus (intro w hSw; go_simp <;> rfl)
                simp only [Act.put, List.setIfInBounds_toArray, List.set_cons_zero, List.set_cons_succ]
              all_goals
                refine Calm.pure (v := ?_) (by rfl) ?_ ?_
                rotate_left
                focus (intro w hSw; go_simp <;> rfl)
                simp only [Act.put, List.setIfInBounds_toArray, List.set_cons_zero, List.set_cons_succ]
              all_goals
                first | (refine Calm.loadM 39 Try.underlying39 rfl zm (by rfl) _ rfl rfl (fun _ h => Wt.mark h.2.2.2.2.1) ?_) | (refine Calm.loadM 39 Try.underlying39 rfl za (by rfl) _ rfl rfl (fun _ h => Wt.mark (x := ⟨p, s, i, t, tx⟩) (Rw.whole h.2.2.2.1)) ?_)
                simp only [Act.put, List.setIfInBounds_toArray, List.set_cons_zero, List.set_cons_succ]
              all_goals
                refine Calm.pure (v := ?_) (by rfl) ?_ ?_
                rotate_left
                focus (intro w hSw; go_simp <;> rfl)
                simp only [Act.put, List.setIfInBounds_toArray, List.set_cons_zero, List.set_cons_succ]
              all_goals
                first | (refine Calm.loadM 39 Try.underlying39 rfl zm (by rfl) _ rfl rfl (fun _ h => Wt.mark h.2.2.2.2.1) ?_) | (refine Calm.loadM 39 Try.underlying39 rfl za (by rfl) _ rfl rfl (fun _ h => Wt.mark (x := ⟨p, s, i, t, tx⟩) (Rw.whole h.2.2.2.1)) ?_)
                simp only [Act.put, List.setIfInBounds_toArray, List.set_cons_zero, List.set_cons_succ]
              all_goals
                refine Calm.pure (v := ?_) (by rfl) ?_ ?_
                rotate_left
                focus (intro w hSw; go_simp <;> rfl)
                simp only [Act.put, List.setIfInBounds_toArray, List.set_cons_zero, List.set_cons_succ]
              all_goals
                rintro w9 ⟨R09, R19, R29, RB9, d9, hbw9, hbel9⟩
              go_wp2_with fail
              go_roundw
              case rel => exact ⟨k + 1, by simp, by omega, HV2, R09, R19, R29, RB9, hbel9, Nat.le_trans hB hbw9.size⟩
              case measure => simp [intOf]; omega
          · obtain rfl : k = x.wr.length := by omega
            have hlt' : ¬ (x.wr.length : Int) < (x.wr.length : Int) := by omega
            have hhas : has ⟨p, s, i, t, tx⟩ x.wr = false := has_false.2 fun y hy => by
              obtain ⟨j, hj, rfl⟩ := List.getElem_of_mem hy
              exact HV.out j hj hj
            have HFX : Hid (doX x ⟨p, s, i, t, tx⟩ u = { x with wr := insF ⟨p, s, i, t, tx⟩ (lef x.wr p s u i) }) := by
              show _ = _
              unfold doX
              rw [HY1.out, hhas]
              simp only [HIA.out]
              rfl
            have HC : Hid (clX x p s u i = { x with wr := lef x.wr p s u i }) := by
              show _ = _
              unfold clX
              rw [HY1.out]
              rfl
            have HN : Hid (∀ y ∈ lef x.wr p s u i, mk y ⟨p, s, i, t, tx⟩ = false) := fun y hy => has_false.1 hhas y (List.mem_filter.1 hy).1
            have HPL : Hid ((lef x.wr p s u i).Pairwise (fun a b => lt a b = true)) := lef_pair HP.out p s u i
            have hsL : (lef x.wr p s u i).length ≤ 100 := Nat.le_trans (lef_length _ _ _ _ _) hsa
            have HZ0 : Hid ((x.k = 2 ∨ x.k = 3) ∧ x.b = 0 ∧ x.am.length = 0 ∧ x.mb.length = 0 ∧ x.el.length = 0 ∧ ca x.wr = true) := ck_parts HY1.out
            have zt := size_tx (p := p) (s := s) (t := t) (sl := sl) hu
            have C7 := refClear_any x _ _ _ _ p s u t sl i wr hu (HF.out.later hbel) hs
            rw [HC.out] at C7
            generalize lef x.wr p s u i = L at HFX HC HN HPL hsL C7
            clear hhas HV HP HIA HY1 HC
            go_wp2_with (first | refine load_r 27 _ rfl rfl _ rfl R0 Try.underlying27 rfl size27 ?_ | refine load_r 34 _ rfl rfl _ rfl R1 Try.underlying34 rfl zt ?_)
            refine C7.mono ?_
            clear C7 c3
            rintro e w5 ⟨ua, uw, um, ue, rfl, hf, hb1⟩
            obtain ⟨qa, da, qw, dw, qm, dm, qe, de, rfl, rfl, rfl, rfl⟩ := hf.slices
            simp only at hf
            replace R2 := R2.later hb1
            replace RB := RB.later hb1
            replace hbel := below_on hbel hb1
            replace hB := Nat.le_trans hB hb1.size
            clear hb1 R0 R1 HF
            have hbA := bel_alloc (Below.refl w5.heap.size w5) (.cells (cvc x.k x.b (.slice qa x.am.length da) (.slice qw L.length dw) (.slice qm x.mb.length dm) (.slice qe x.el.length de)) 27)
            have R4 := rw_new w5 27 (cvc x.k x.b (.slice qa x.am.length da) (.slice qw L.length dw) (.slice qm x.mb.length dm) (.slice qe x.el.length de))
            replace R2 := R2.later hbA
            replace RB := RB.later hbA
            replace hf := hf.later hbA
            have hbel8 := below_on hbel hbA
            have hq4 : w5.heap.size < (w5.alloc (.cells (cvc x.k x.b (.slice qa x.am.length da) (.slice qw L.length dw) (.slice qm x.mb.length dm) (.slice qe x.el.length de)) 27)).heap.size := by simp
            have HG : Hid (Four (w5.alloc (.cells (cvc x.k x.b (.slice qa x.am.length da) (.slice qw L.length dw) (.slice qm x.mb.length dm) (.slice qe x.el.length de)) 27)) { x with wr := L } (.slice qa x.am.length da) (.slice qw L.length dw) (.slice qm x.mb.length dm) (.slice qe x.el.length de)) := hf
            clear hbA hf
            generalize hW : w5.alloc (.cells (cvc x.k x.b (.slice qa x.am.length da) (.slice qw L.length dw) (.slice qm x.mb.length dm) (.slice qe x.el.length de)) 27) = w8 at R2 RB R4 HG hbel8 hq4
            go_wp2_with (first | rw [hW])
            clear hW hbel
            generalize w5.heap.size = q4 at R4 hq4 hB ⊢
            go_loopw [12, 13, 14] (fun vn vd vi wr => (∃ (k : Nat) (d : Bool) (m : List Wt), vi = .int .i64 k ∧ k ≤ L.length ∧ vd = .bool d ∧ m.length ≤ k + 1 ∧ wr.ownsRow w8.heap.size 42 5 vn m.length (rows Wt.cells m) ∧ DInv ⟨p, s, i, t, tx⟩ L k d m ∧ Rw wr q4 27 (cvc x.k x.b (.slice qa x.am.length da) (.slice qw L.length dw) (.slice qm x.mb.length dm) (.slice qe x.el.length de)) ∧ Rw wr (w.heap.size + 2) 27 (cvc 0 0 (.slice none 0 0) (.slice none 0 0) (.slice none 0 0) (.slice none 0 0)) ∧ Rw wr pb 42 #[.int .i64 p, .int .i64 s, .int .i64 i, .int .i64 t, .string tx] ∧ Below w8.heap.size w8 wr)) (fun _ _ vi _ => L.length - (intOf vi).toNat)
            case atStart => exact ⟨0, false, [], rfl, by omega, rfl, by simp, World.ownsRow_nil _ _ _ _, ⟨(fun h => by cases h), fun _ => ⟨by simp, fun y hy => by simp at hy⟩⟩, R4, R2, RB, Below.refl _ _⟩
            case round =>
              clear R4 R2 RB
              obtain ⟨k, d, m, rfl, hk, rfl, hm, hown, HM, R4, R2, RB, hbel⟩ := hrel
              obtain ⟨P, cc, rfl⟩ := own_sl hown
              have c3 : wr.cell? ⟨q4, 3, none⟩ = some (.slice qw L.length dw) := R4.cell 3
              by_cases hlt : k < L.length
              · have hlt' : (k : Int) < (L.length : Int) := by omega
                obtain ⟨g, o, rfl, hd0⟩ := HG.out.t.at (by show 0 < L.length; omega)
                have dd : wr.rangeAt g (o + k * 5) L[k].cells := Wt.elem (range_later hd0 hbel) k hlt
                obtain ⟨y, HY⟩ := hid_ex L[k]
                rw [HY.out] at dd
                clear hd0
                have HTK : Hid (L.take (k + 1) = L.take k ++ [y]) := by
                  show _ = _
                  rw [List.take_succ_eq_append_getElem hlt, HY.out]
                have hmy : mk y ⟨p, s, i, t, tx⟩ = false := by
                  rw [← HY.out]
                  exact HN.out _ (List.getElem_mem _)
                have HMY : Hid (mk y ⟨p, s, i, t, tx⟩ = false) := hmy
                clear hmy
                have zm : (Try.prog.info? 39).map (·.size) = some [Value.int .i64 y.p, .int .i64 y.s, .int .i64 y.i].length := size39
                have za : (Try.prog.info? 39).map (·.size) = some [Value.int .i64 p, .int .i64 s, .int .i64 i].length := size39
                have z42 : (Try.prog.info? 42).map (·.size) = some y.cells.length := size42
                cases d
                · have C2 : ∀ w, Calls Try.prog 22 #[MV p s i, MV y.p y.s y.i] w (Tells (.bool (lt ⟨p, s, i, t, tx⟩ y)) w) := fun w => refLess_any p s i y.p y.s y.i w
                  obtain ⟨z2, HZ2⟩ := hid_ex (lt ⟨p, s, i, t, tx⟩ y)
                  rw [HZ2.out] at C2
                  obtain ⟨hm1, hm2⟩ := HM.2 rfl
                  cases z2
                  · have hly : lt y ⟨p, s, i, t, tx⟩ = true := lt_total HZ2.out (mk_symm HMY.out)
                    have HM2 : DInv ⟨p, s, i, t, tx⟩ L (k + 1) false (m ++ [y]) := ⟨(fun h => by cases h), fun _ => ⟨by rw [HTK.out, hm1], fun y' hy' => by
                      rw [HTK.out] at hy'
                      rcases List.mem_append.1 hy' with h' | h'
                      · exact hm2 y' h'
                      · rw [List.mem_singleton.1 h']
                        exact hly⟩⟩
                    clear hm1 hm2 HM hly
                    go_wp2_with fail
                    clear c3
                    have hs : Calm.Stays (fun w' => Rw w' q4 27 (cvc x.k x.b (.slice qa x.am.length da) (.slice (some ⟨g, o, none⟩) L.length dw) (.slice qm x.mb.length dm) (.slice qe x.el.length de)) ∧ Rw w' (w.heap.size + 2) 27 (cvc 0 0 (.slice none 0 0) (.slice none 0 0) (.slice none 0 0) (.slice none 0 0)) ∧ Rw w' pb 42 #[.int .i64 p, .int .i64 s, .int .i64 i, .int .i64 t, .string tx] ∧ w'.rangeAt g (o + k * 5) y.cells ∧ w'.ownsRow w8.heap.size 42 5 (.slice P m.length cc) m.length (rows Wt.cells m) ∧ Below w8.heap.size w8 w') := fun wa wb h hb => ⟨h.1.later hb, h.2.1.later hb, h.2.2.1.later hb, range_later h.2.2.2.1 hb, own_later h.2.2.2.2.1 hb, below_on h.2.2.2.2.2 hb⟩
                    refine Calm.region (by kernel_rfl) (by kernel_rfl) (fun w' => Rw w' q4 27 (cvc x.k x.b (.slice qa x.am.length da) (.slice (some ⟨g, o, none⟩) L.length dw) (.slice qm x.mb.length dm) (.slice qe x.el.length de)) ∧ Rw w' (w.heap.size + 2) 27 (cvc 0 0 (.slice none 0 0) (.slice none 0 0) (.slice none 0 0) (.slice none 0 0)) ∧ Rw w' pb 42 #[.int .i64 p, .int .i64 s, .int .i64 i, .int .i64 t, .string tx] ∧ w'.rangeAt g (o + k * 5) y.cells ∧ w'.ownsRow w8.heap.size 42 5 (.slice P m.length cc) m.length (rows Wt.cells m) ∧ Below w8.heap.size w8 w') ⟨R4, R2, RB, dd, hown, hbel.drew⟩ ?_
                    all_goals
                      refine Calm.pure (v := ?_) (by rfl) ?_ ?_
                      rotate_left
                      focus (intro w hSw; go_simp <;> rfl)
                      simp only [Act.put, List.setIfInBounds_toArray, List.set_cons_zero, List.set_cons_succ]
                    all_goals
                      refine Calm.pure (v := ?_) (by rfl) ?_ ?_
                      rotate_left
                      focus (intro w hSw; go_simp <;> rfl)
                      simp only [Act.put, List.setIfInBounds_toArray, List.set_cons_zero, List.set_cons_succ]
                    all_goals
                      refine Calm.pure (v := ?_) (by rfl) ?_ ?_
                      rotate_left
                      focus (intro w hSw; go_simp <;> rfl)
                      simp only [Act.put, List.setIfInBounds_toArray, List.set_cons_zero, List.set_cons_succ]
                    all_goals
                      first
                        | (refine Calm.skip ?_ ?_; focus rfl)
                        | (refine Calm.pure (v := ?_) (by rfl) ?_ ?_
                           rotate_left
                           focus (intro w hSw; go_simp <;> rfl))
                      simp only [Act.put, List.setIfInBounds_toArray, List.set_cons_zero, List.set_cons_succ]
                    all_goals
                      first
                        | (refine Calm.skip ?_ ?_; focus rfl)
                        | (first | (refine Calm.loadM 39 Try.underlying39 rfl zm (by rfl) _ rfl rfl (fun _ h => Wt.mark h.2.2.2.1) ?_) | (refine Calm.loadM 39 Try.underlying39 rfl za (by rfl) _ rfl rfl (fun _ h => Wt.mark (x := ⟨p, s, i, t, tx⟩) (Rw.whole h.2.2.1)) ?_))
                      simp only [Act.put, List.setIfInBounds_toArray, List.set_cons_zero, List.set_cons_succ]
                    all_goals
                      first
                        | (refine Calm.skip ?_ ?_; focus rfl)
                        | (refine Calm.pure (v := ?_) (by rfl) ?_ ?_
                           rotate_left
                           focus (intro w hSw; go_simp <;> rfl))
                      simp only [Act.put, List.setIfInBounds_toArray, List.set_cons_zero, List.set_cons_succ]
                    all_goals
                      first
                        | (refine Calm.skip ?_ ?_; focus rfl)
                        | (refine Calm.pure (v := ?_) (by rfl) ?_ ?_
                           rotate_left
                           focus (intro w hSw; have g1 := hSw.1.cell 3; simp at g1; go_simp <;> rfl))
                      simp only [Act.put, List.setIfInBounds_toArray, List.set_cons_zero, List.set_cons_succ]
                    all_goals
                      first
                        | (refine Calm.skip ?_ ?_; focus rfl)
                        | (refine Calm.pure (v := ?_) (by rfl) ?_ ?_
                           rotate_left
                           focus (intro w hSw; go_simp <;> rfl))
                      simp only [Act.put, List.setIfInBounds_toArray, List.set_cons_zero, List.set_cons_succ]
                    all_goals
                      first
                        | (refine Calm.skip ?_ ?_; focus rfl)
                        | (refine Calm.pure (v := ?_) (by rfl) ?_ ?_
                           rotate_left
                           focus (intro w hSw; go_simp <;> rfl))
                      simp only [Act.put, List.setIfInBounds_toArray, List.set_cons_zero, List.set_cons_succ]
                    all_goals
                      first
                        | (refine Calm.skip ?_ ?_; focus rfl)
                        | (refine Calm.pure (v := ?_) (by rfl) ?_ ?_
                           rotate_left
                           focus (intro w hSw; go_simp <;> rfl))
                      simp only [Act.put, List.setIfInBounds_toArray, List.set_cons_zero, List.set_cons_succ]
                    all_goals
                      first
                        | (refine Calm.skip ?_ ?_; focus rfl)
                        | (first | (refine Calm.loadM 39 Try.underlying39 rfl zm (by rfl) _ rfl rfl (fun _ h => Wt.mark h.2.2.2.1) ?_) | (refine Calm.loadM 39 Try.underlying39 rfl za (by rfl) _ rfl rfl (fun _ h => Wt.mark (x := ⟨p, s, i, t, tx⟩) (Rw.whole h.2.2.1)) ?_))
                      simp only [Act.put, List.setIfInBounds_toArray, List.set_cons_zero, List.set_cons_succ]
                    all_goals
                      first
                        | (refine Calm.skip ?_ ?_; focus rfl)
                        | (refine Calm.call2s (by rfl) rfl rfl rfl (by kernel_rfl) hs (fun w1 h => C2 w1) ?_)
                      simp only [Act.put, List.setIfInBounds_toArray, List.set_cons_zero, List.set_cons_succ]
                    all_goals
                      refine Calm.pure (v := ?_) (by rfl) ?_ ?_
                      rotate_left
                      focus (intro w hSw; go_simp <;> rfl)
                      simp only [Act.put, List.setIfInBounds_toArray, List.set_cons_zero, List.set_cons_succ]
                    all_goals
                      rintro w9 ⟨R49, R29, RB9, d9, hown9, hbel9⟩
                    have hB9 := hbel9.size
                    have c39 : w9.cell? ⟨q4, 3, none⟩ = some (.slice (some ⟨g, o, none⟩) L.length dw) := R49.cell 3
                    go_wp2_with (first | refine load_m 42 _ rfl rfl _ _ rfl d9 Try.underlying42 rfl z42 ?_ | (at_builtin; refine wpList_append_own _ rfl _ _ 23 rfl w8.heap.size 42 i0 (WV 0 0 0 0 noS) 5 48 Try.underlying23 hi hz0 hz1 hz2 rfl (by decide) _ _ _ rfl (hown9.alloc _) ⟨w9.heap.size, 0, none⟩ 1 1 y.cells rfl rfl ?c1 ?c2 ?c3 ?c4 ?c5 ?_))
                    case c1 => exact fun q u hq => (cells_next _ (by simp) _ _ _).trans hq
                    case c2 => exact y.one
                    case c3 => unfold maxLen; omega
                    case c4 => omega
                    case c5 => simp; omega
                    intro v2 w6 hown6 hg6 _
                    have hBg : ∀ q', (Value.slice P m.length cc).ownBlock = some q' → w8.heap.size ≤ q' := fun q' hq => (World.ownsRow.lt hown9 q' hq).1
                    clear c39
                    go_wp2_with fail
                    go_roundw
                    case rel =>
                      refine ⟨k + 1, _, m ++ [y], by simp, by omega, rfl, by simp; omega, ?_, HM2, (R49.alloc _).grown hg6 (fun q' hq => by have := hBg q' hq; omega), (R29.alloc _).grown hg6 (fun q' hq => by have := hBg q' hq; omega), (RB9.alloc _).grown hg6 (fun q' hq => by have := hBg q' hq; omega), (bel_alloc hbel9 _).grown hg6 (by simp; omega) (fun q' hq => by have := hBg q' hq; omega)⟩
                      rw [rows_append, List.length_append, rows_one]
                      simpa using hown6
                    case measure => simp [intOf]; omega
                  · have hly : lt y ⟨p, s, i, t, tx⟩ = false := lt_asymm HZ2.out
                    have HM2 : DInv ⟨p, s, i, t, tx⟩ L (k + 1) true (m ++ [⟨p, s, i, t, tx⟩] ++ [y]) := ⟨fun _ => ⟨by
                      rw [HTK.out, insF_snoc hly, hm1, insF_all hm2], k, hlt, by omega, by rw [HY.out]; exact HZ2.out⟩, (fun h => by cases h)⟩
                    have hmk : m.length ≤ k := by
                      rw [hm1, List.length_take]
                      exact Nat.min_le_left _ _
                    clear hm1 hm2 HM hly
                    go_wp2_with fail
                    clear c3
                    have hs : Calm.Stays (fun w' => Rw w' q4 27 (cvc x.k x.b (.slice qa x.am.length da) (.slice (some ⟨g, o, none⟩) L.length dw) (.slice qm x.mb.length dm) (.slice qe x.el.length de)) ∧ Rw w' (w.heap.size + 2) 27 (cvc 0 0 (.slice none 0 0) (.slice none 0 0) (.slice none 0 0) (.slice none 0 0)) ∧ Rw w' pb 42 #[.int .i64 p, .int .i64 s, .int .i64 i, .int .i64 t, .string tx] ∧ w'.rangeAt g (o + k * 5) y.cells ∧ w'.ownsRow w8.heap.size 42 5 (.slice P m.length cc) m.length (rows Wt.cells m) ∧ Below w8.heap.size w8 w') := fun wa wb h hb => ⟨h.1.later hb, h.2.1.later hb, h.2.2.1.later hb, range_later h.2.2.2.1 hb, own_later h.2.2.2.2.1 hb, below_on h.2.2.2.2.2 hb⟩
                    refine Calm.region (by kernel_rfl) (by kernel_rfl) (fun w' => Rw w' q4 27 (cvc x.k x.b (.slice qa x.am.length da) (.slice (some ⟨g, o, none⟩) L.length dw) (.slice qm x.mb.length dm) (.slice qe x.el.length de)) ∧ Rw w' (w.heap.size + 2) 27 (cvc 0 0 (.slice none 0 0) (.slice none 0 0) (.slice none 0 0) (.slice none 0 0)) ∧ Rw w' pb 42 #[.int .i64 p, .int .i64 s, .int .i64 i, .int .i64 t, .string tx] ∧ w'.rangeAt g (o + k * 5) y.cells ∧ w'.ownsRow w8.heap.size 42 5 (.slice P m.length cc) m.length (rows Wt.cells m) ∧ Below w8.heap.size w8 w') ⟨R4, R2, RB, dd, hown, hbel.drew⟩ ?_
                    all_goals
                      refine Calm.pure (v := ?_) (by rfl) ?_ ?_
                      rotate_left
                      focus (intro w hSw; go_simp <;> rfl)
                      simp only [Act.put, List.setIfInBounds_toArray, List.set_cons_zero, List.set_cons_succ]
                    all_goals
                      refine Calm.pure (v := ?_) (by rfl) ?_ ?_
                      rotate_left
                      focus (intro w hSw; go_simp <;> rfl)
                      simp only [Act.put, List.setIfInBounds_toArray, List.set_cons_zero, List.set_cons_succ]
                    all_goals
                      refine Calm.pure (v := ?_) (by rfl) ?_ ?_
                      rotate_left
                      focus (intro w hSw; go_simp <;> rfl)
                      simp only [Act.put, List.setIfInBounds_toArray, List.set_cons_zero, List.set_cons_succ]
                    all_goals
                      first
                        | (refine Calm.skip ?_ ?_; focus rfl)
                        | (refine Calm.pure (v := ?_) (by rfl) ?_ ?_
                           rotate_left
                           focus (intro w hSw; go_simp <;> rfl))
                      simp only [Act.put, List.setIfInBounds_toArray, List.set_cons_zero, List.set_cons_succ]
                    all_goals
                      first
                        | (refine Calm.skip ?_ ?_; focus rfl)
                        | (first | (refine Calm.loadM 39 Try.underlying39 rfl zm (by rfl) _ rfl rfl (fun _ h => Wt.mark h.2.2.2.1) ?_) | (refine Calm.loadM 39 Try.underlying39 rfl za (by rfl) _ rfl rfl (fun _ h => Wt.mark (x := ⟨p, s, i, t, tx⟩) (Rw.whole h.2.2.1)) ?_))
                      simp only [Act.put, List.setIfInBounds_toArray, List.set_cons_zero, List.set_cons_succ]
                    all_goals
                      first
                        | (refine Calm.skip ?_ ?_; focus rfl)
                        | (refine Calm.pure (v := ?_) (by rfl) ?_ ?_
                           rotate_left
                           focus (intro w hSw; go_simp <;> rfl))
                      simp only [Act.put, List.setIfInBounds_toArray, List.set_cons_zero, List.set_cons_succ]
                    all_goals
                      first
                        | (refine Calm.skip ?_ ?_; focus rfl)
                        | (refine Calm.pure (v := ?_) (by rfl) ?_ ?_
                           rotate_left
                           focus (intro w hSw; have g1 := hSw.1.cell 3; simp at g1; go_simp <;> rfl))
                      simp only [Act.put, List.setIfInBounds_toArray, List.set_cons_zero, List.set_cons_succ]
                    all_goals
                      first
                        | (refine Calm.skip ?_ ?_; focus rfl)
                        | (refine Calm.pure (v := ?_) (by rfl) ?_ ?_
                           rotate_left
                           focus (intro w hSw; go_simp <;> rfl))
                      simp only [Act.put, List.setIfInBounds_toArray, List.set_cons_zero, List.set_cons_succ]
                    all_goals
                      first
                        | (refine Calm.skip ?_ ?_; focus rfl)
                        | (refine Calm.pure (v := ?_) (by rfl) ?_ ?_
                           rotate_left
                           focus (intro w hSw; go_simp <;> rfl))
                      simp only [Act.put, List.setIfInBounds_toArray, List.set_cons_zero, List.set_cons_succ]
                    all_goals
                      first
                        | (refine Calm.skip ?_ ?_; focus rfl)
                        | (refine Calm.pure (v := ?_) (by rfl) ?_ ?_
                           rotate_left
                           focus (intro w hSw; go_simp <;> rfl))
                      simp only [Act.put, List.setIfInBounds_toArray, List.set_cons_zero, List.set_cons_succ]
                    all_goals
                      first
                        | (refine Calm.skip ?_ ?_; focus rfl)
                        | (first | (refine Calm.loadM 39 Try.underlying39 rfl zm (by rfl) _ rfl rfl (fun _ h => Wt.mark h.2.2.2.1) ?_) | (refine Calm.loadM 39 Try.underlying39 rfl za (by rfl) _ rfl rfl (fun _ h => Wt.mark (x := ⟨p, s, i, t, tx⟩) (Rw.whole h.2.2.1)) ?_))
                      simp only [Act.put, List.setIfInBounds_toArray, List.set_cons_zero, List.set_cons_succ]
                    all_goals
                      first
                        | (refine Calm.skip ?_ ?_; focus rfl)
                        | (refine Calm.call2s (by rfl) rfl rfl rfl (by kernel_rfl) hs (fun w1 h => C2 w1) ?_)
                      simp only [Act.put, List.setIfInBounds_toArray, List.set_cons_zero, List.set_cons_succ]
                    all_goals
                      refine Calm.pure (v := ?_) (by rfl) ?_ ?_
                      rotate_left
                      focus (intro w hSw; go_simp <;> rfl)
                      simp only [Act.put, List.setIfInBounds_toArray, List.set_cons_zero, List.set_cons_succ]
                    all_goals
                      rintro w9 ⟨R49, R29, RB9, d9, hown9, hbel9⟩
                    have hB9 := hbel9.size
                    have hc1 : ∀ q u, (Wt.cells ⟨p, s, i, t, tx⟩)[q]? = some u → (w9.alloc (.cells #[.int .i64 p, .int .i64 s, .int .i64 i, .int .i64 t, .string tx] 42)).cell? ((⟨w9.heap.size, 0, none⟩ : Addr).add q) = some u := fun q u hq => (cells_new w9 (Wt.cells ⟨p, s, i, t, tx⟩) 42 q).trans hq
                    have hc3 : m.length + 1 ≤ maxLen := by unfold maxLen; omega
                    have hc4 : (m.length + 1) * 48 ≤ 140737488355328 := by omega
                    have hm9 : m.length + 1 + 1 ≤ 102 := Nat.add_le_add_right (Nat.add_le_add_right (Nat.le_trans hmk (Nat.le_trans (Nat.le_of_lt hlt) hsL)) 1) 1
                    have hn3 : m.length + 1 + 1 ≤ maxLen := Nat.le_trans hm9 (by unfold maxLen; decide)
                    have hn4 : (m.length + 1 + 1) * 48 ≤ 140737488355328 := Nat.le_trans (Nat.mul_le_mul_right 48 hm9) (by decide)
                    clear hm9
                    have hc5 : w8.heap.size ≤ (w9.alloc (.cells #[.int .i64 p, .int .i64 s, .int .i64 i, .int .i64 t, .string tx] 42)).heap.size := by simp; omega
                    go_wp2_with (first | refine load_r 42 _ rfl rfl _ rfl RB9 Try.underlying42 rfl size42 ?_ | (at_builtin; refine wpList_append_own _ rfl _ _ 23 rfl w8.heap.size 42 i0 (WV 0 0 0 0 noS) 5 48 Try.underlying23 hi hz0 hz1 hz2 rfl (by decide) _ _ _ rfl (hown9.alloc _) ⟨w9.heap.size, 0, none⟩ 1 1 (Wt.cells ⟨p, s, i, t, tx⟩) rfl rfl hc1 (Wt.one ⟨p, s, i, t, tx⟩) hc3 hc4 hc5 ?_))
                    intro v2 w6 hown6 hg6 _
                    have hBg : ∀ q', (Value.slice P m.length cc).ownBlock = some q' → w8.heap.size ≤ q' := fun q' hq => (World.ownsRow.lt hown9 q' hq).1
                    have R46 := (R49.alloc (.cells #[.int .i64 p, .int .i64 s, .int .i64 i, .int .i64 t, .string tx] 42)).grown hg6 (fun q' hq => by have := hBg q' hq; omega)
                    have R26 := (R29.alloc (.cells #[.int .i64 p, .int .i64 s, .int .i64 i, .int .i64 t, .string tx] 42)).grown hg6 (fun q' hq => by have := hBg q' hq; omega)
                    have RB6 := (RB9.alloc (.cells #[.int .i64 p, .int .i64 s, .int .i64 i, .int .i64 t, .string tx] 42)).grown hg6 (fun q' hq => by have := hBg q' hq; omega)
                    have hbel6 := (bel_alloc hbel9 (.cells #[.int .i64 p, .int .i64 s, .int .i64 i, .int .i64 t, .string tx] 42)).grown hg6 (by simp; omega) (fun q' hq => by have := hBg q' hq; omega)
                    replace hown6 : w6.ownsRow w8.heap.size 42 5 v2 (m ++ [(⟨p, s, i, t, tx⟩ : Wt)]).length (rows Wt.cells (m ++ [(⟨p, s, i, t, tx⟩ : Wt)])) := by
                      rw [rows_append, List.length_append, rows_one]
                      simpa using hown6
                    obtain ⟨P2, c3_, rfl⟩ := own_sl hown6
                    have d6 : w6.rangeAt g (o + k * 5) y.cells := by
                      obtain ⟨g', o', e', hd'⟩ := HG.out.t.at (by show 0 < L.length; omega)
                      simp only [Option.some.injEq, Addr.mk.injEq, and_true] at e'
                      obtain ⟨rfl, rfl⟩ := e'
                      have := Wt.elem (range_later hd' hbel6) k hlt
                      rw [HY.out] at this
                      exact this
                    have hma : (m ++ [(⟨p, s, i, t, tx⟩ : Wt)]).length = m.length + 1 := by simp
                    rw [hma] at hown6 ⊢
                    obtain ⟨m2, HM4⟩ := hid_ex (m ++ [(⟨p, s, i, t, tx⟩ : Wt)])
                    rw [HM4.out] at hown6 hma HM2
                    clear hc1 hc3 hc4 hc5 R49 R29 RB9 hbel9 hown9 d9 hBg hg6
                    have hB6 := hbel6.size
                    have c39 : w6.cell? ⟨q4, 3, none⟩ = some (.slice (some ⟨g, o, none⟩) L.length dw) := R46.cell 3
                    go_wp2_with (first | refine load_m 42 _ rfl rfl _ _ rfl d6 Try.underlying42 rfl z42 ?_ | (at_builtin; refine wpList_append_own _ rfl _ _ 23 rfl w8.heap.size 42 i0 (WV 0 0 0 0 noS) 5 48 Try.underlying23 hi hz0 hz1 hz2 rfl (by decide) _ _ _ rfl (hown6.alloc _) ⟨w6.heap.size, 0, none⟩ 1 1 y.cells rfl rfl ?e1 ?e2 ?e3 ?e4 ?e5 ?_))
                    case e1 => exact fun q u hq => (cells_next _ (by simp) _ _ _).trans hq
                    case e2 => exact y.one
                    case e3 => exact hn3
                    case e4 => exact hn4
                    case e5 => simp; omega
                    intro v4 w7 hown7 hg7 _
                    have hBg : ∀ q', (Value.slice P2 (m.length + 1) c3_).ownBlock = some q' → w8.heap.size ≤ q' := fun q' hq => (World.ownsRow.lt hown6 q' hq).1
                    clear c39
                    go_wp2_with fail
                    go_roundw
                    case rel =>
                      refine ⟨k + 1, _, m2 ++ [y], by simp, by omega, rfl, by simp; omega, ?_, HM2, (R46.alloc _).grown hg7 (fun q' hq => by have := hBg q' hq; omega), (R26.alloc _).grown hg7 (fun q' hq => by have := hBg q' hq; omega), (RB6.alloc _).grown hg7 (fun q' hq => by have := hBg q' hq; omega), (bel_alloc hbel6 _).grown hg7 (by simp; omega) (fun q' hq => by have := hBg q' hq; omega)⟩
                      rw [rows_append, List.length_append, rows_one, hma]
                      simpa using hown7
                    case measure => simp [intOf]; omega
                · obtain ⟨hm1, j0, hj0, hj1, hj2⟩ := HM.1 rfl
                  have hly : lt y ⟨p, s, i, t, tx⟩ = false := by
                    have h1 := pair_at HPL.out j0 k hlt hj1
                    rw [HY.out] at h1
                    exact lt_asymm (lt_trans hj2 h1)
                  have HM2 : DInv ⟨p, s, i, t, tx⟩ L (k + 1) true (m ++ [y]) := ⟨fun _ => ⟨by rw [HTK.out, insF_snoc hly, hm1], j0, hj0, by omega, hj2⟩, (fun h => by cases h)⟩
                  clear hm1 hj2 HM hly
                  go_wp2_with fail
                  clear c3
                  have hs : Calm.Stays (fun w' => Rw w' q4 27 (cvc x.k x.b (.slice qa x.am.length da) (.slice (some ⟨g, o, none⟩) L.length dw) (.slice qm x.mb.length dm) (.slice qe x.el.length de)) ∧ Rw w' (w.heap.size + 2) 27 (cvc 0 0 (.slice none 0 0) (.slice none 0 0) (.slice none 0 0) (.slice none 0 0)) ∧ Rw w' pb 42 #[.int .i64 p, .int .i64 s, .int .i64 i, .int .i64 t, .string tx] ∧ w'.rangeAt g (o + k * 5) y.cells ∧ w'.ownsRow w8.heap.size 42 5 (.slice P m.length cc) m.length (rows Wt.cells m) ∧ Below w8.heap.size w8 w') := fun wa wb h hb => ⟨h.1.later hb, h.2.1.later hb, h.2.2.1.later hb, range_later h.2.2.2.1 hb, own_later h.2.2.2.2.1 hb, below_on h.2.2.2.2.2 hb⟩
                  refine Calm.region (by kernel_rfl) (by kernel_rfl) (fun w' => Rw w' q4 27 (cvc x.k x.b (.slice qa x.am.length da) (.slice (some ⟨g, o, none⟩) L.length dw) (.slice qm x.mb.length dm) (.slice qe x.el.length de)) ∧ Rw w' (w.heap.size + 2) 27 (cvc 0 0 (.slice none 0 0) (.slice none 0 0) (.slice none 0 0) (.slice none 0 0)) ∧ Rw w' pb 42 #[.int .i64 p, .int .i64 s, .int .i64 i, .int .i64 t, .string tx] ∧ w'.rangeAt g (o + k * 5) y.cells ∧ w'.ownsRow w8.heap.size 42 5 (.slice P m.length cc) m.length (rows Wt.cells m) ∧ Below w8.heap.size w8 w') ⟨R4, R2, RB, dd, hown, hbel.drew⟩ ?_
                  all_goals
                    refine Calm.pure (v := ?_) (by rfl) ?_ ?_
                    rotate_left
                    focus (intro w hSw; go_simp <;> rfl)
                    simp only [Act.put, List.setIfInBounds_toArray, List.set_cons_zero, List.set_cons_succ]
                  all_goals
                    refine Calm.pure (v := ?_) (by rfl) ?_ ?_
                    rotate_left
                    focus (intro w hSw; go_simp <;> rfl)
                    simp only [Act.put, List.setIfInBounds_toArray, List.set_cons_zero, List.set_cons_succ]
                  all_goals
                    refine Calm.pure (v := ?_) (by rfl) ?_ ?_
                    rotate_left
                    focus (intro w hSw; go_simp <;> rfl)
                    simp only [Act.put, List.setIfInBounds_toArray, List.set_cons_zero, List.set_cons_succ]
                  all_goals
                    first
                      | (refine Calm.skip ?_ ?_; focus rfl)
                      | (refine Calm.pure (v := ?_) (by rfl) ?_ ?_
                         rotate_left
                         focus (intro w hSw; go_simp <;> rfl))
                    simp only [Act.put, List.setIfInBounds_toArray, List.set_cons_zero, List.set_cons_succ]
                  all_goals
                    first
                      | (refine Calm.skip ?_ ?_; focus rfl)
                      | (first | (refine Calm.loadM 39 Try.underlying39 rfl zm (by rfl) _ rfl rfl (fun _ h => Wt.mark h.2.2.2.1) ?_) | (refine Calm.loadM 39 Try.underlying39 rfl za (by rfl) _ rfl rfl (fun _ h => Wt.mark (x := ⟨p, s, i, t, tx⟩) (Rw.whole h.2.2.1)) ?_))
                    simp only [Act.put, List.setIfInBounds_toArray, List.set_cons_zero, List.set_cons_succ]
                  all_goals
                    first
                      | (refine Calm.skip ?_ ?_; focus rfl)
                      | (refine Calm.pure (v := ?_) (by rfl) ?_ ?_
                         rotate_left
                         focus (intro w hSw; go_simp <;> rfl))
                    simp only [Act.put, List.setIfInBounds_toArray, List.set_cons_zero, List.set_cons_succ]
                  all_goals
                    first
                      | (refine Calm.skip ?_ ?_; focus rfl)
                      | (refine Calm.pure (v := ?_) (by rfl) ?_ ?_
                         rotate_left
                         focus (intro w hSw; have g1 := hSw.1.cell 3; simp at g1; go_simp <;> rfl))
                    simp only [Act.put, List.setIfInBounds_toArray, List.set_cons_zero, List.set_cons_succ]
                  all_goals
                    first
                      | (refine Calm.skip ?_ ?_; focus rfl)
                      | (refine Calm.pure (v := ?_) (by rfl) ?_ ?_
                         rotate_left
                         focus (intro w hSw; go_simp <;> rfl))
                    simp only [Act.put, List.setIfInBounds_toArray, List.set_cons_zero, List.set_cons_succ]
                  all_goals
                    first
                      | (refine Calm.skip ?_ ?_; focus rfl)
                      | (refine Calm.pure (v := ?_) (by rfl) ?_ ?_
                         rotate_left
                         focus (intro w hSw; go_simp <;> rfl))
                    simp only [Act.put, List.setIfInBounds_toArray, List.set_cons_zero, List.set_cons_succ]
                  all_goals
                    first
                      | (refine Calm.skip ?_ ?_; focus rfl)
                      | (refine Calm.pure (v := ?_) (by rfl) ?_ ?_
                         rotate_left
                         focus (intro w hSw; go_simp <;> rfl))
                    simp only [Act.put, List.setIfInBounds_toArray, List.set_cons_zero, List.set_cons_succ]
                  all_goals
                    first
                      | (refine Calm.skip ?_ ?_; focus rfl)
                      | (first | (refine Calm.loadM 39 Try.underlying39 rfl zm (by rfl) _ rfl rfl (fun _ h => Wt.mark h.2.2.2.1) ?_) | (refine Calm.loadM 39 Try.underlying39 rfl za (by rfl) _ rfl rfl (fun _ h => Wt.mark (x := ⟨p, s, i, t, tx⟩) (Rw.whole h.2.2.1)) ?_))
                    simp only [Act.put, List.setIfInBounds_toArray, List.set_cons_zero, List.set_cons_succ]
                  all_goals
                    first
                      | (refine Calm.skip ?_ ?_; focus rfl)
                      | (refine Calm.call2s (by rfl) rfl rfl rfl (by kernel_rfl) hs (fun w1 h => refLess_any 0 0 0 0 0 0 w1) ?_)
                    simp only [Act.put, List.setIfInBounds_toArray, List.set_cons_zero, List.set_cons_succ]
                  all_goals
                    refine Calm.pure (v := ?_) (by rfl) ?_ ?_
                    rotate_left
                    focus (intro w hSw; go_simp <;> rfl)
                    simp only [Act.put, List.setIfInBounds_toArray, List.set_cons_zero, List.set_cons_succ]
                  all_goals
                    rintro w9 ⟨R49, R29, RB9, d9, hown9, hbel9⟩
                  have hB9 := hbel9.size
                  have c39 : w9.cell? ⟨q4, 3, none⟩ = some (.slice (some ⟨g, o, none⟩) L.length dw) := R49.cell 3
                  go_wp2_with (first | refine load_m 42 _ rfl rfl _ _ rfl d9 Try.underlying42 rfl z42 ?_ | (at_builtin; refine wpList_append_own _ rfl _ _ 23 rfl w8.heap.size 42 i0 (WV 0 0 0 0 noS) 5 48 Try.underlying23 hi hz0 hz1 hz2 rfl (by decide) _ _ _ rfl (hown9.alloc _) ⟨w9.heap.size, 0, none⟩ 1 1 y.cells rfl rfl ?c1 ?c2 ?c3 ?c4 ?c5 ?_))
                  case c1 => exact fun q u hq => (cells_next _ (by simp) _ _ _).trans hq
                  case c2 => exact y.one
                  case c3 => unfold maxLen; omega
                  case c4 => omega
                  case c5 => simp; omega
                  intro v2 w6 hown6 hg6 _
                  have hBg : ∀ q', (Value.slice P m.length cc).ownBlock = some q' → w8.heap.size ≤ q' := fun q' hq => (World.ownsRow.lt hown9 q' hq).1
                  clear c39
                  go_wp2_with fail
                  go_roundw
                  case rel =>
                    refine ⟨k + 1, _, m ++ [y], by simp, by omega, rfl, by simp; omega, ?_, HM2, (R49.alloc _).grown hg6 (fun q' hq => by have := hBg q' hq; omega), (R29.alloc _).grown hg6 (fun q' hq => by have := hBg q' hq; omega), (RB9.alloc _).grown hg6 (fun q' hq => by have := hBg q' hq; omega), (bel_alloc hbel9 _).grown hg6 (by simp; omega) (fun q' hq => by have := hBg q' hq; omega)⟩
                    rw [rows_append, List.length_append, rows_one]
                    simpa using hown6
                  case measure => simp [intOf]; omega
              · obtain rfl : k = L.length := by omega
                have hlt' : ¬ (L.length : Int) < (L.length : Int) := by omega
                have HFA : Hid (∀ (w' : World) (vt : Value), WHas w' vt (insF ⟨p, s, i, t, tx⟩ L) → Four w' { x with wr := insF ⟨p, s, i, t, tx⟩ L } (.slice qa x.am.length da) vt (.slice qm x.mb.length dm) (.slice qe x.el.length de)) := fun w' vt ha => four_zero HG.out HZ0.out.2.2.1 HZ0.out.2.2.2.1 HZ0.out.2.2.2.2.1 ha
                have h2 := HM
                unfold DInv at h2
                rw [List.take_length] at h2
                have HM3 : Hid ((d = true → m = insF ⟨p, s, i, t, tx⟩ L) ∧ (d = false → m ++ [⟨p, s, i, t, tx⟩] = insF ⟨p, s, i, t, tx⟩ L)) := ⟨fun h => (h2.1 h).1, fun h => by rw [(h2.2 h).1, insF_all (h2.2 h).2]⟩
                have hB8 := hbel.size
                clear h2 HM HN HPL HZ0
                cases d
                · have HM5 : Hid (m ++ [(⟨p, s, i, t, tx⟩ : Wt)] = insF ⟨p, s, i, t, tx⟩ L) := HM3.out.2 rfl
                  clear HM3
                  have hc1 : ∀ q u, (Wt.cells ⟨p, s, i, t, tx⟩)[q]? = some u → (wr.alloc (.cells #[.int .i64 p, .int .i64 s, .int .i64 i, .int .i64 t, .string tx] 42)).cell? ((⟨wr.heap.size, 0, none⟩ : Addr).add q) = some u := fun q u hq => (cells_new wr (Wt.cells ⟨p, s, i, t, tx⟩) 42 q).trans hq
                  have hc3 : m.length + 1 ≤ maxLen := by unfold maxLen; omega
                  have hc4 : (m.length + 1) * 48 ≤ 140737488355328 := by omega
                  have hc5 : w8.heap.size ≤ (wr.alloc (.cells #[.int .i64 p, .int .i64 s, .int .i64 i, .int .i64 t, .string tx] 42)).heap.size := by simp; omega
                  go_wp2_with (first | refine load_r 42 _ rfl rfl _ rfl RB Try.underlying42 rfl size42 ?_ | (at_builtin; refine wpList_append_own _ rfl _ _ 23 rfl w8.heap.size 42 i0 (WV 0 0 0 0 noS) 5 48 Try.underlying23 hi hz0 hz1 hz2 rfl (by decide) _ _ _ rfl (hown.alloc _) ⟨wr.heap.size, 0, none⟩ 1 1 (Wt.cells ⟨p, s, i, t, tx⟩) rfl rfl hc1 (Wt.one ⟨p, s, i, t, tx⟩) hc3 hc4 hc5 ?_))
                  intro v2 w6 hown6 hg6 _
                  have hBg : ∀ q', (Value.slice P m.length cc).ownBlock = some q' → w8.heap.size ≤ q' := fun q' hq => (World.ownsRow.lt hown q' hq).1
                  replace R4 := (R4.alloc _).grown hg6 (fun q' hq => by have := hBg q' hq; omega)
                  replace R2 := (R2.alloc _).grown hg6 (fun q' hq => by have := hBg q' hq; omega)
                  replace hbel := (bel_alloc hbel _).grown hg6 (by simp; omega) (fun q' hq => by have := hBg q' hq; omega)
                  replace hown : w6.ownsRow w8.heap.size 42 5 v2 (insF ⟨p, s, i, t, tx⟩ L).length (rows Wt.cells (insF ⟨p, s, i, t, tx⟩ L)) := by
                    rw [← HM5.out, rows_append, List.length_append, rows_one]
                    simpa using hown6
                  clear hown6 hg6 hBg HM5 c3
                  obtain ⟨P2, c3_, rfl⟩ := own_sl hown
                  obtain ⟨lf, HLF⟩ := hid_ex (insF ⟨p, s, i, t, tx⟩ L)
                  rw [HLF.out] at hown HFA HFX ⊢
                  have c3 : w6.cell? ⟨q4, 3, none⟩ = some (.slice qw L.length dw) := R4.cell 3
                  have f3 : w6.frozen? ⟨q4, 3, none⟩ = false := R4.frozen 3
                  have R4a : Rw (w6.setCell ⟨q4, 3, none⟩ (.slice P2 lf.length c3_)) q4 27 (cvc x.k x.b (.slice qa x.am.length da) (.slice P2 lf.length c3_) (.slice qm x.mb.length dm) (.slice qe x.el.length de)) := R4.set 3 _
                  replace R2 := R2.setOther (q := q4) (by omega) 3 (.slice P2 lf.length c3_)
                  replace hown := own_over hown (b := q4) (fun q' hq => by have := (World.ownsRow.lt hown q' hq).1; omega) 3 (.slice P2 lf.length c3_)
                  have hbelw := (below_on hbel8 hbel).setCell (p := ⟨q4, 3, none⟩) (by show w.heap.size ≤ q4; omega) (.slice P2 lf.length c3_)
                  generalize hW1 : w6.setCell ⟨q4, 3, none⟩ (.slice P2 lf.length c3_) = wa at R4a R2 hown hbelw
                  go_wp2_with (first | rw [hW1] | refine load_r 27 _ rfl rfl _ rfl R4a Try.underlying27 rfl size27 ?_ | refine store_r rfl 27 _ _ rfl _ (cvc x.k x.b (.slice qa x.am.length da) (.slice P2 lf.length c3_) (.slice qm x.mb.length dm) (.slice qe x.el.length de)) rfl rfl R2 size27 rfl (by simp [Value.oneCell']) ?_)
                  refine bodyPost_ret (results_r rfl rfl (R2.row (cvc x.k x.b (.slice qa x.am.length da) (.slice P2 lf.length c3_) (.slice qm x.mb.length dm) (.slice qe x.el.length de))) rfl Try.underlying27 size27) rfl ?_
                  rw [HFX.out] at HZ
                  have e := HZ.out
                  subst e
                  exact ⟨_, _, _, _, rfl, HFA.out _ _ (own_sh (own_row hown (b := w.heap.size + 2) (by omega) _)), below_setRow hbelw (by omega) _⟩
                · replace hown : wr.ownsRow w8.heap.size 42 5 (.slice P m.length cc) (insF ⟨p, s, i, t, tx⟩ L).length (rows Wt.cells (insF ⟨p, s, i, t, tx⟩ L)) := by
                    rw [← HM3.out.1 rfl]
                    exact hown
                  have hml : m.length = (insF ⟨p, s, i, t, tx⟩ L).length := by rw [← HM3.out.1 rfl]
                  rw [hml] at hown ⊢
                  clear hml HM3 c3
                  obtain ⟨lf, HLF⟩ := hid_ex (insF ⟨p, s, i, t, tx⟩ L)
                  rw [HLF.out] at hown HFA HFX ⊢
                  have c3 : wr.cell? ⟨q4, 3, none⟩ = some (.slice qw L.length dw) := R4.cell 3
                  have f3 : wr.frozen? ⟨q4, 3, none⟩ = false := R4.frozen 3
                  have R4a : Rw (wr.setCell ⟨q4, 3, none⟩ (.slice P lf.length cc)) q4 27 (cvc x.k x.b (.slice qa x.am.length da) (.slice P lf.length cc) (.slice qm x.mb.length dm) (.slice qe x.el.length de)) := R4.set 3 _
                  replace R2 := R2.setOther (q := q4) (by omega) 3 (.slice P lf.length cc)
                  replace hown := own_over hown (b := q4) (fun q' hq => by have := (World.ownsRow.lt hown q' hq).1; omega) 3 (.slice P lf.length cc)
                  have hbelw := (below_on hbel8 hbel).setCell (p := ⟨q4, 3, none⟩) (by show w.heap.size ≤ q4; omega) (.slice P lf.length cc)
                  generalize hW1 : wr.setCell ⟨q4, 3, none⟩ (.slice P lf.length cc) = wa at R4a R2 hown hbelw
                  go_wp2_with (first | rw [hW1] | refine load_r 27 _ rfl rfl _ rfl R4a Try.underlying27 rfl size27 ?_ | refine store_r rfl 27 _ _ rfl _ (cvc x.k x.b (.slice qa x.am.length da) (.slice P lf.length cc) (.slice qm x.mb.length dm) (.slice qe x.el.length de)) rfl rfl R2 size27 rfl (by simp [Value.oneCell']) ?_)
                  refine bodyPost_ret (results_r rfl rfl (R2.row (cvc x.k x.b (.slice qa x.am.length da) (.slice P lf.length cc) (.slice qm x.mb.length dm) (.slice qe x.el.length de))) rfl Try.underlying27 size27) rfl ?_
                  rw [HFX.out] at HZ
                  have e := HZ.out
                  subst e
                  exact ⟨_, _, _, _, rfl, HFA.out _ _ (own_sh (own_row hown (b := w.heap.size + 2) (by omega) _)), below_setRow hbelw (by omega) _⟩
end Go.Proofs.Ytknpnjhedfdggaa
