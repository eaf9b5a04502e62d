/- Do of the document's answer. -/
import Derived.Test.YtfjpjodaaofgbaaRFld
namespace Go.Proofs.Ytfjpjodaaofgbaa
open Go.RowKit

/-- What stands so far. -/
def DInv (a : A) (l : List A) (k : Nat) (d : Bool) (m : List A) : Prop := (d = true → m = insF a (l.take k) ∧ ∃ j, ∃ h : j < l.length, j < k ∧ lt a l[j] = true) ∧ (d = false → m = l.take k ∧ ∀ y ∈ l.take k, lt y a = true)
theorem insF_all {a : A} {l : List A} (h : ∀ y ∈ l, lt y a = true) : insF a l = l ++ [a] := by
  unfold insF
  rw [List.filter_eq_self.2 h, List.filter_eq_nil_iff.2 (fun y hy => by rw [h y hy]; simp)]
theorem insF_snoc {a y : A} (h : lt y a = false) (l : List A) : insF a (l ++ [y]) = insF a l ++ [y] := by
  unfold insF
  rw [List.filter_append, List.filter_append, List.filter_cons_of_neg (by rw [h]; simp), List.filter_cons_of_pos (by rw [h]; rfl), List.filter_nil, List.filter_nil, List.append_nil, List.append_assoc, List.cons_append]
set_option maxHeartbeats 8000000 in
set_option maxRecDepth 100000 in
theorem refDo_any (x : X) (va vw vm ve : Value) (p s : Int) (u : List Int) (t : Int) (sl : Value) (i n : Int) (w : World) (_hu : u.length = 13) (h : Four w x va vw vm ve) (hs : Sm x) :
    Calls Try.prog 17 #[CV x.k x.b va vw vm ve, TxV p s u t sl, .int .i64 i, .int .i64 n] w (Gives (doX x ⟨p, s, i, n⟩) w) := by
  obtain ⟨i0, hi, hz0, hz1, hz2⟩ := info_parts info42
  obtain ⟨pa, ca', pw, cw, pm, cm, pe, ce, rfl, rfl, rfl, rfl⟩ := h.slices
  have HF : Hid (Four w x (.slice pa x.am.length ca') (.slice pw x.wr.length cw) (.slice pm x.mb.length cm) (.slice pe x.el.length ce)) := h
  clear h
  obtain ⟨z, HZ⟩ := hid_ex (doX x ⟨p, s, i, n⟩)
  rw [HZ.out]
  obtain ⟨R0, R1, R2, hbel⟩ := three_rows w (cvc x.k x.b (.slice pa x.am.length ca') (.slice pw x.wr.length cw) (.slice pm x.mb.length cm) (.slice pe x.el.length ce)) 27 (txc p s u t sl).toArray 34 (cvc 0 0 (.slice none 0 0) (.slice none 0 0) (.slice none 0 0) (.slice none 0 0)) 27
  have hB : w.heap.size + 3 ≤ (((w.alloc (.cells (cvc x.k x.b (.slice pa x.am.length ca') (.slice pw x.wr.length cw) (.slice pm x.mb.length cm) (.slice pe x.el.length ce)) 27)).alloc (.cells (txc p s u t sl).toArray 34)).alloc (.cells (cvc 0 0 (.slice none 0 0) (.slice none 0 0) (.slice none 0 0) (.slice none 0 0)) 27)).heap.size := by simp
  generalize hW : ((w.alloc (.cells (cvc x.k x.b (.slice pa x.am.length ca') (.slice pw x.wr.length cw) (.slice pm x.mb.length cm) (.slice pe x.el.length ce)) 27)).alloc (.cells (txc p s u t sl).toArray 34)).alloc (.cells (cvc 0 0 (.slice none 0 0) (.slice none 0 0) (.slice none 0 0) (.slice none 0 0)) 27) = w0 at R0 R1 R2 hbel hB
  go_enter Try.func17, Try.ntmps17
  go_wp2_with (first | rw [hW] | refine load_r 27 _ rfl rfl _ rfl R0 Try.underlying27 rfl size27 ?_)
  clear hW
  refine (refCheck_any x _ _ _ _ w0 (HF.out.later hbel) hs).mono ?_
  rintro e w1 ⟨rfl, hb1⟩
  replace R0 := R0.later hb1
  replace R1 := R1.later hb1
  replace R2 := R2.later hb1
  replace hbel := below_on hbel hb1
  replace hB := Nat.le_trans hB hb1.size
  clear hb1
  obtain ⟨y1, HY1⟩ := hid_ex (ck x)
  rw [HY1.out]
  cases y1
  · have HFX : Hid (doX x ⟨p, s, i, n⟩ = x) := by
      show _ = _
      unfold doX
      rw [HY1.out]
      rfl
    go_wp2_with (first | refine load_r 27 _ rfl rfl _ rfl R0 Try.underlying27 rfl size27 ?_ | refine store_r rfl 27 _ _ rfl _ (cvc x.k x.b (.slice pa x.am.length ca') (.slice pw x.wr.length cw) (.slice pm x.mb.length cm) (.slice pe x.el.length ce)) rfl rfl R2 size27 rfl (by simp [Value.oneCell']) ?_)
    refine bodyPost_ret (results_r rfl rfl (R2.row _) rfl Try.underlying27 size27) rfl ?_
    rw [HFX.out] at HZ
    have e := HZ.out
    subst e
    replace hbel := below_setRow hbel (g := w.heap.size + 2) (by omega) (cvc x.k x.b (.slice pa x.am.length ca') (.slice pw x.wr.length cw) (.slice pm x.mb.length cm) (.slice pe x.el.length ce))
    exact ⟨_, _, _, _, rfl, HF.out.later hbel, hbel⟩
  · go_wp2_with fail
    refine (refAmount_any n w1).mono ?_
    rintro e w2 ⟨rfl, hb1⟩
    replace R0 := R0.later hb1
    replace R1 := R1.later hb1
    replace R2 := R2.later hb1
    replace hbel := below_on hbel hb1
    replace hB := Nat.le_trans hB hb1.size
    clear hb1
    obtain ⟨y2, HY2⟩ := hid_ex (wi n (-1073741824) 1073741824)
    rw [HY2.out]
    cases y2
    · have HFX : Hid (doX x ⟨p, s, i, n⟩ = x) := by
        show _ = _
        unfold doX
        have e : ia i n = false := by unfold ia; rw [HY2.out]; simp
        simp only [e]
        simp
      go_wp2_with (first | refine load_r 27 _ rfl rfl _ rfl R0 Try.underlying27 rfl size27 ?_ | refine store_r rfl 27 _ _ rfl _ (cvc x.k x.b (.slice pa x.am.length ca') (.slice pw x.wr.length cw) (.slice pm x.mb.length cm) (.slice pe x.el.length ce)) rfl rfl R2 size27 rfl (by simp [Value.oneCell']) ?_)
      refine bodyPost_ret (results_r rfl rfl (R2.row _) rfl Try.underlying27 size27) rfl ?_
      rw [HFX.out] at HZ
      have e := HZ.out
      subst e
      replace hbel := below_setRow hbel (g := w.heap.size + 2) (by omega) (cvc x.k x.b (.slice pa x.am.length ca') (.slice pw x.wr.length cw) (.slice pm x.mb.length cm) (.slice pe x.el.length ce))
      exact ⟨_, _, _, _, rfl, HF.out.later hbel, hbel⟩
    · by_cases hi1 : i < 1
      · have hd1 : decide (i < 1) = true := decide_eq_true hi1
        have HFX : Hid (doX x ⟨p, s, i, n⟩ = x) := by
          show _ = _
          unfold doX
          have e : ia i n = false := by unfold ia; rw [decide_eq_false (show ¬ 1 ≤ i by omega)]; rfl
          simp only [e]
          simp
        go_wp2_with (first | refine load_r 27 _ rfl rfl _ rfl R0 Try.underlying27 rfl size27 ?_ | refine store_r rfl 27 _ _ rfl _ (cvc x.k x.b (.slice pa x.am.length ca') (.slice pw x.wr.length cw) (.slice pm x.mb.length cm) (.slice pe x.el.length ce)) rfl rfl R2 size27 rfl (by simp [Value.oneCell']) ?_)
        refine bodyPost_ret (results_r rfl rfl (R2.row _) rfl Try.underlying27 size27) rfl ?_
        rw [HFX.out] at HZ
        have e := HZ.out
        subst e
        replace hbel := below_setRow hbel (g := w.heap.size + 2) (by omega) (cvc x.k x.b (.slice pa x.am.length ca') (.slice pw x.wr.length cw) (.slice pm x.mb.length cm) (.slice pe x.el.length ce))
        exact ⟨_, _, _, _, rfl, HF.out.later hbel, hbel⟩
      · have hd1 : decide (i < 1) = false := decide_eq_false hi1
        have HIA : Hid (ia i n = true) := by
          show _ = _
          unfold ia
          rw [decide_eq_true (show 1 ≤ i by omega), HY2.out]
          rfl
        have HP : Hid (x.am.Pairwise (fun a b => lt a b = true)) := ((ca_pair x.am).1 (ck_parts HY1.out).2.2.2.2.2).2
        have hsa := hs.a
        have zd : (Try.prog.info? 29).map (·.size) = some [Value.int .i64 p, .int .i64 s].length := size29
        have hba := bel_alloc (Below.refl w2.heap.size w2) (.cells #[.int .i64 p, .int .i64 s, .int .i64 i, .int .i64 n] 42)
        have RB := rw_new w2 42 #[.int .i64 p, .int .i64 s, .int .i64 i, .int .i64 n]
        have hsz : (w2.alloc (.cells #[.int .i64 p, .int .i64 s, .int .i64 i, .int .i64 n] 42)).heap.size = w2.heap.size + 1 := by simp
        generalize hW : w2.alloc (.cells #[.int .i64 p, .int .i64 s, .int .i64 i, .int .i64 n] 42) = w3 at hba RB hsz
        go_wp2_with (first | rw [hW] | refine load_m 29 _ rfl rfl _ _ rfl (tx_dot R1) Try.underlying29 rfl zd ?_)
        clear hW hd1 R1
        replace R0 := R0.later hba
        replace R2 := R2.later hba
        replace hbel := below_on hbel hba
        clear hba
        generalize w2.heap.size = pb at RB hsz hB ⊢
        have hpb : w.heap.size + 3 ≤ pb := hB
        have hB : pb + 1 ≤ w3.heap.size := by omega
        clear hsz
        go_loopw [10, 11, 12] (fun vn vd vi wr => (∃ (k : Nat) (d : Bool) (m : List A), vi = .int .i64 k ∧ k ≤ x.am.length ∧ vd = .bool d ∧ m.length ≤ k + 1 ∧ wr.ownsRow (pb + 1) 42 4 vn m.length (rows A.cells m) ∧ Hid (∀ j (h : j < x.am.length), j < k → mk x.am[j] ⟨p, s, i, n⟩ = false) ∧ DInv ⟨p, s, i, n⟩ x.am k d m ∧ Rw wr w.heap.size 27 (cvc x.k x.b (.slice pa x.am.length ca') (.slice pw x.wr.length cw) (.slice pm x.mb.length cm) (.slice pe x.el.length ce)) ∧ Rw wr (w.heap.size + 2) 27 (cvc 0 0 (.slice none 0 0) (.slice none 0 0) (.slice none 0 0) (.slice none 0 0)) ∧ Rw wr pb 42 #[.int .i64 p, .int .i64 s, .int .i64 i, .int .i64 n] ∧ Below w.heap.size w wr ∧ pb + 1 ≤ wr.heap.size)) (fun _ _ vi _ => x.am.length - (intOf vi).toNat)
        case atStart => exact ⟨0, false, [], rfl, by omega, rfl, by simp, World.ownsRow_nil _ _ _ _, (show ∀ j (_ : j < x.am.length), j < 0 → _ from fun j _ h => by omega), ⟨(fun h => by cases h), fun _ => ⟨by simp, fun y hy => by simp at hy⟩⟩, R0, R2, RB, hbel, hB⟩
        case round =>
          clear R0 R2 RB hbel hB
          obtain ⟨k, d, m, rfl, hk, rfl, hm, hown, HV, HM, R0, R2, RB, hbel, hB⟩ := hrel
          obtain ⟨P, cc, rfl⟩ := own_sl hown
          have c2 : wr.cell? ⟨w.heap.size, 2, none⟩ = some (.slice pa x.am.length ca') := R0.cell 2
          by_cases hlt : k < x.am.length
          · have hlt' : (k : Int) < (x.am.length : Int) := by omega
            obtain ⟨g, o, rfl, hd0⟩ := HF.out.a.at (by omega)
            have dd := AHas.elem (range_later hd0 hbel) k hlt
            obtain ⟨y, HY⟩ := hid_ex x.am[k]
            rw [HY.out] at dd
            clear hd0
            have E := fun w => eq_mark w y.p y.s y.i p s i
            obtain ⟨z1, HZ1⟩ := hid_ex (mk y ⟨p, s, i, n⟩)
            rw [show (decide (y.p = p) && decide (y.s = s) && decide (y.i = i)) = z1 from HZ1.out] at E
            have zm : (Try.prog.info? 40).map (·.size) = some [Value.int .i64 y.p, .int .i64 y.s, .int .i64 y.i].length := size40
            have za : (Try.prog.info? 40).map (·.size) = some [Value.int .i64 p, .int .i64 s, .int .i64 i].length := size40
            have z42 : (Try.prog.info? 42).map (·.size) = some y.cells.length := size42
            have z42a : (Try.prog.info? 42).map (·.size) = some (A.cells ⟨p, s, i, n⟩).length := size42
            have hbw := Below.refl wr.heap.size wr
            have hgw : g < w.heap.size ∨ True := .inr trivial
            clear hgw
            go_wp2_with fail
            clear c2
            cases z1
            case' true =>
              have hs : Calm.Stays (fun w' => Rw w' w.heap.size 27 (cvc x.k x.b (.slice (some ⟨g, o, none⟩) x.am.length ca') (.slice pw x.wr.length cw) (.slice pm x.mb.length cm) (.slice pe x.el.length ce)) ∧ Rw w' (w.heap.size + 2) 27 (cvc 0 0 (.slice none 0 0) (.slice none 0 0) (.slice none 0 0) (.slice none 0 0)) ∧ Rw w' pb 42 #[.int .i64 p, .int .i64 s, .int .i64 i, .int .i64 n] ∧ w'.rangeAt g (o + k * 4) y.cells ∧ w'.ownsRow (pb + 1) 42 4 (.slice P m.length cc) m.length (rows A.cells m) ∧ Below wr.heap.size wr w' ∧ Below w.heap.size w w') := fun wa wb h hb => ⟨h.1.later hb, h.2.1.later hb, h.2.2.1.later hb, range_later h.2.2.2.1 hb, own_later h.2.2.2.2.1 hb, below_on h.2.2.2.2.2.1 hb, below_on h.2.2.2.2.2.2 hb⟩
              refine Calm.region (by kernel_rfl) (by kernel_rfl) (fun w' => Rw w' w.heap.size 27 (cvc x.k x.b (.slice (some ⟨g, o, none⟩) x.am.length ca') (.slice pw x.wr.length cw) (.slice pm x.mb.length cm) (.slice pe x.el.length ce)) ∧ Rw w' (w.heap.size + 2) 27 (cvc 0 0 (.slice none 0 0) (.slice none 0 0) (.slice none 0 0) (.slice none 0 0)) ∧ Rw w' pb 42 #[.int .i64 p, .int .i64 s, .int .i64 i, .int .i64 n] ∧ w'.rangeAt g (o + k * 4) y.cells ∧ w'.ownsRow (pb + 1) 42 4 (.slice P m.length cc) m.length (rows A.cells m) ∧ Below wr.heap.size wr w' ∧ Below w.heap.size w w') ⟨R0, R2, RB, dd, hown, hbw.drew, hbel.drew⟩ ?_
              all_goals
                refine Calm.pure (v := ?_) (by rfl) ?_ ?_
                rotate_left
                focus (intro w hSw; go_simp <;> rfl)
                simp only [Act.put, List.setIfInBounds_toArray, List.set_cons_zero, List.set_cons_succ]
              all_goals
                refine Calm.pure (v := ?_) (by rfl) ?_ ?_
                rotate_left
                focus (intro w hSw; have g1 := hSw.1.cell 2; simp at g1; go_simp <;> rfl)
                simp only [Act.put, List.setIfInBounds_toArray, List.set_cons_zero, List.set_cons_succ]
              all_goals
                refine Calm.pure (v := ?_) (by rfl) ?_ ?_
                rotate_left
                focus (intro w hSw; go_simp <;> rfl)
                simp only [Act.put, List.setIfInBounds_toArray, List.set_cons_zero, List.set_cons_succ]
              all_goals
                refine Calm.pure (v := ?_) (by rfl) ?_ ?_
                rotate_left
                focus (intro w hSw; go_simp <;> rfl)
                simp only [Act.put, List.setIfInBounds_toArray, List.set_cons_zero, List.set_cons_succ]
              all_goals
                refine Calm.pure (v := ?_) (by rfl) ?_ ?_
                rotate_left
                focus (intro w hSw; go_simp <;> rfl)
                simp only [Act.put, List.setIfInBounds_toArray, List.set_cons_zero, List.set_cons_succ]
              all_goals
                first | (refine Calm.loadM 40 Try.underlying40 rfl zm (by rfl) _ rfl rfl (fun _ h => A.mark h.2.2.2.1) ?_) | (refine Calm.loadM 40 Try.underlying40 rfl za (by rfl) _ rfl rfl (fun _ h => A.mark (x := ⟨p, s, i, n⟩) (Rw.whole h.2.2.1)) ?_)
                simp only [Act.put, List.setIfInBounds_toArray, List.set_cons_zero, List.set_cons_succ]
              all_goals
                refine Calm.pure (v := ?_) (by rfl) ?_ ?_
                rotate_left
                focus (intro w hSw; go_simp <;> rfl)
                simp only [Act.put, List.setIfInBounds_toArray, List.set_cons_zero, List.set_cons_succ]
              all_goals
                first | (refine Calm.loadM 40 Try.underlying40 rfl zm (by rfl) _ rfl rfl (fun _ h => A.mark h.2.2.2.1) ?_) | (refine Calm.loadM 40 Try.underlying40 rfl za (by rfl) _ rfl rfl (fun _ h => A.mark (x := ⟨p, s, i, n⟩) (Rw.whole h.2.2.1)) ?_)
                simp only [Act.put, List.setIfInBounds_toArray, List.set_cons_zero, List.set_cons_succ]
              all_goals
                refine Calm.pure (v := ?_) (by rfl) ?_ ?_
                rotate_left
                focus (intro w hSw; go_simp <;> rfl)
                simp only [Act.put, List.setIfInBounds_toArray, List.set_cons_zero, List.set_cons_succ]
              all_goals
                rintro w9 ⟨R09, R29, RB9, d9, hown9, hbw9, hbel9⟩
              have HH : Hid (has ⟨p, s, i, n⟩ x.am = true) := by
                show _ = _
                unfold has
                rw [List.any_eq_true]
                exact ⟨x.am[k], List.getElem_mem _, by rw [HY.out]; exact HZ1.out⟩
              replace hbel := hbel9
              have R0 := R09
              have R2 := R29
              have HFX : Hid (doX x ⟨p, s, i, n⟩ = x) := by
                show _ = _
                unfold doX
                rw [HH.out]
                simp
              go_wp2_with (first | refine load_r 27 _ rfl rfl _ rfl R0 Try.underlying27 rfl size27 ?_ | refine store_r rfl 27 _ _ rfl _ (cvc x.k x.b (.slice (some ⟨g, o, none⟩) x.am.length ca') (.slice pw x.wr.length cw) (.slice pm x.mb.length cm) (.slice pe x.el.length ce)) rfl rfl R2 size27 rfl (by simp [Value.oneCell']) ?_)
              refine bodyPost_ret (results_r rfl rfl (R2.row _) rfl Try.underlying27 size27) rfl ?_
              rw [HFX.out] at HZ
              have e := HZ.out
              subst e
              replace hbel := below_setRow hbel (g := w.heap.size + 2) (by omega) (cvc x.k x.b (.slice (some ⟨g, o, none⟩) x.am.length ca') (.slice pw x.wr.length cw) (.slice pm x.mb.length cm) (.slice pe x.el.length ce))
              exact ⟨_, _, _, _, rfl, HF.out.later hbel, hbel⟩
            case' false =>
              have HV2 : Hid (∀ j (h : j < x.am.length), j < k + 1 → mk x.am[j] ⟨p, s, i, n⟩ = false) := fun j h hj => by
                rcases Nat.lt_or_ge j k with h' | h'
                · exact HV.out j h h'
                · obtain rfl : j = k := by omega
                  rw [HY.out]
                  exact HZ1.out
              have HTK : Hid (x.am.take (k + 1) = x.am.take k ++ [y]) := by
                show _ = _
                rw [List.take_succ_eq_append_getElem hlt, HY.out]
              have hs : Calm.Stays (fun w' => Rw w' w.heap.size 27 (cvc x.k x.b (.slice (some ⟨g, o, none⟩) x.am.length ca') (.slice pw x.wr.length cw) (.slice pm x.mb.length cm) (.slice pe x.el.length ce)) ∧ Rw w' (w.heap.size + 2) 27 (cvc 0 0 (.slice none 0 0) (.slice none 0 0) (.slice none 0 0) (.slice none 0 0)) ∧ Rw w' pb 42 #[.int .i64 p, .int .i64 s, .int .i64 i, .int .i64 n] ∧ w'.rangeAt g (o + k * 4) y.cells ∧ w'.ownsRow (pb + 1) 42 4 (.slice P m.length cc) m.length (rows A.cells m) ∧ Below wr.heap.size wr w' ∧ Below w.heap.size w w') := fun wa wb h hb => ⟨h.1.later hb, h.2.1.later hb, h.2.2.1.later hb, range_later h.2.2.2.1 hb, own_later h.2.2.2.2.1 hb, below_on h.2.2.2.2.2.1 hb, below_on h.2.2.2.2.2.2 hb⟩
              refine Calm.region (by kernel_rfl) (by kernel_rfl) (fun w' => Rw w' w.heap.size 27 (cvc x.k x.b (.slice (some ⟨g, o, none⟩) x.am.length ca') (.slice pw x.wr.length cw) (.slice pm x.mb.length cm) (.slice pe x.el.length ce)) ∧ Rw w' (w.heap.size + 2) 27 (cvc 0 0 (.slice none 0 0) (.slice none 0 0) (.slice none 0 0) (.slice none 0 0)) ∧ Rw w' pb 42 #[.int .i64 p, .int .i64 s, .int .i64 i, .int .i64 n] ∧ w'.rangeAt g (o + k * 4) y.cells ∧ w'.ownsRow (pb + 1) 42 4 (.slice P m.length cc) m.length (rows A.cells m) ∧ Below wr.heap.size wr w' ∧ Below w.heap.size w w') ⟨R0, R2, RB, dd, hown, hbw.drew, hbel.drew⟩ ?_
              all_goals
                refine Calm.pure (v := ?_) (by rfl) ?_ ?_
                rotate_left
                focus (intro w hSw; go_simp <;> rfl)
                simp only [Act.put, List.setIfInBounds_toArray, List.set_cons_zero, List.set_cons_succ]
              all_goals
                refine Calm.pure (v := ?_) (by rfl) ?_ ?_
                rotate_left
                focus (intro w hSw; have g1 := hSw.1.cell 2; simp at g1; go_simp <;> rfl)
                simp only [Act.put, List.setIfInBounds_toArray, List.set_cons_zero, List.set_cons_succ]
              all_goals
                refine Calm.pure (v := ?_) (by rfl) ?_ ?_
                rotate_left
                focus (intro w hSw; go_simp <;> rfl)
                simp only [Act.put, List.setIfInBounds_toArray, List.set_cons_zero, List.set_cons_succ]
              all_goals
                refine Calm.pure (v := ?_) (by rfl) ?_ ?_
                rotate_left
                focus (intro w hSw; go_simp <;> rfl)
                simp only [Act.put, List.setIfInBounds_toArray, List.set_cons_zero, List.set_cons_succ]
              all_goals
                refine Calm.pure (v := ?_) (by rfl) ?_ ?_
                rotate_left
                focus (intro w hSw; go_simp <;> rfl)
                simp only [Act.put, List.setIfInBounds_toArray, List.set_cons_zero, List.set_cons_succ]
              all_goals
                first | (refine Calm.loadM 40 Try.underlying40 rfl zm (by rfl) _ rfl rfl (fun _ h => A.mark h.2.2.2.1) ?_) | (refine Calm.loadM 40 Try.underlying40 rfl za (by rfl) _ rfl rfl (fun _ h => A.mark (x := ⟨p, s, i, n⟩) (Rw.whole h.2.2.1)) ?_)
                simp only [Act.put, List.setIfInBounds_toArray, List.set_cons_zero, List.set_cons_succ]
              all_goals
                refine Calm.pure (v := ?_) (by rfl) ?_ ?_
                rotate_left
                focus (intro w hSw; go_simp <;> rfl)
                simp only [Act.put, List.setIfInBounds_toArray, List.set_cons_zero, List.set_cons_succ]
              all_goals
                first | (refine Calm.loadM 40 Try.underlying40 rfl zm (by rfl) _ rfl rfl (fun _ h => A.mark h.2.2.2.1) ?_) | (refine Calm.loadM 40 Try.underlying40 rfl za (by rfl) _ rfl rfl (fun _ h => A.mark (x := ⟨p, s, i, n⟩) (Rw.whole h.2.2.1)) ?_)
                simp only [Act.put, List.setIfInBounds_toArray, List.set_cons_zero, List.set_cons_succ]
              all_goals
                refine Calm.pure (v := ?_) (by rfl) ?_ ?_
                rotate_left
                focus (intro w hSw; go_simp <;> rfl)
                simp only [Act.put, List.setIfInBounds_toArray, List.set_cons_zero, List.set_cons_succ]
              all_goals
                rintro w9 ⟨R09, R29, RB9, d9, hown9, hbw9, hbel9⟩
              have hB9 := Nat.le_trans hB hbw9.size
              have hbw := Below.refl w9.heap.size w9
              clear R0 R2 RB hbel hB dd E
              have R0 := R09
              have R2 := R29
              have RB := RB9
              have dd := d9
              have hown := hown9
              have hbel := hbel9
              have hB := hB9
              clear R09 R29 RB9 d9 hown9 hbel9 hB9 hbw9
              cases d
              · have C2 : ∀ w, Calls Try.prog 24 #[MV p s i, MV y.p y.s y.i] w (Tells (.bool (lt ⟨p, s, i, n⟩ y)) w) := fun w => refLess_any p s i y.p y.s y.i w
                obtain ⟨z2, HZ2⟩ := hid_ex (lt ⟨p, s, i, n⟩ y)
                rw [HZ2.out] at C2
                obtain ⟨hm1, hm2⟩ := HM.2 rfl
                cases z2
                · have hly : lt y ⟨p, s, i, n⟩ = true := lt_total HZ2.out (by
                    cases e : mk ⟨p, s, i, n⟩ y
                    · rfl
                    · have e2 := HZ1.out
                      rw [mk_iff] at e
                      rw [show mk y ⟨p, s, i, n⟩ = true from (mk_iff _ _).2 ⟨e.1.symm, e.2.1.symm, e.2.2.symm⟩] at e2
                      cases e2)
                  have HM2 : DInv ⟨p, s, i, n⟩ x.am (k + 1) false (m ++ [y]) := ⟨(fun h => by cases h), fun _ => ⟨by rw [HTK.out, hm1], fun y' hy' => by
                    rw [HTK.out] at hy'
                    rcases List.mem_append.1 hy' with h' | h'
                    · exact hm2 y' h'
                    · rw [List.mem_singleton.1 h']
                      exact hly⟩⟩
                  clear hm1 hm2 HM hly
                  go_wp2_with fail
                  have hs : Calm.Stays (fun w' => Rw w' w.heap.size 27 (cvc x.k x.b (.slice (some ⟨g, o, none⟩) x.am.length ca') (.slice pw x.wr.length cw) (.slice pm x.mb.length cm) (.slice pe x.el.length ce)) ∧ Rw w' (w.heap.size + 2) 27 (cvc 0 0 (.slice none 0 0) (.slice none 0 0) (.slice none 0 0) (.slice none 0 0)) ∧ Rw w' pb 42 #[.int .i64 p, .int .i64 s, .int .i64 i, .int .i64 n] ∧ w'.rangeAt g (o + k * 4) y.cells ∧ w'.ownsRow (pb + 1) 42 4 (.slice P m.length cc) m.length (rows A.cells m) ∧ Below w9.heap.size w9 w' ∧ Below w.heap.size w w') := fun wa wb h hb => ⟨h.1.later hb, h.2.1.later hb, h.2.2.1.later hb, range_later h.2.2.2.1 hb, own_later h.2.2.2.2.1 hb, below_on h.2.2.2.2.2.1 hb, below_on h.2.2.2.2.2.2 hb⟩
                  refine Calm.region (by kernel_rfl) (by kernel_rfl) (fun w' => Rw w' w.heap.size 27 (cvc x.k x.b (.slice (some ⟨g, o, none⟩) x.am.length ca') (.slice pw x.wr.length cw) (.slice pm x.mb.length cm) (.slice pe x.el.length ce)) ∧ Rw w' (w.heap.size + 2) 27 (cvc 0 0 (.slice none 0 0) (.slice none 0 0) (.slice none 0 0) (.slice none 0 0)) ∧ Rw w' pb 42 #[.int .i64 p, .int .i64 s, .int .i64 i, .int .i64 n] ∧ w'.rangeAt g (o + k * 4) y.cells ∧ w'.ownsRow (pb + 1) 42 4 (.slice P m.length cc) m.length (rows A.cells m) ∧ Below w9.heap.size w9 w' ∧ Below w.heap.size w w') ⟨R0, R2, RB, dd, hown, hbw.drew, hbel.drew⟩ ?_
                  all_goals
                    refine Calm.pure (v := ?_) (by rfl) ?_ ?_
                    rotate_left
                    focus (intro w hSw; go_simp <;> rfl)
                    simp only [Act.put, List.setIfInBounds_toArray, List.set_cons_zero, List.set_cons_succ]
                  all_goals
                    refine Calm.pure (v := ?_) (by rfl) ?_ ?_
                    rotate_left
                    focus (intro w hSw; go_simp <;> rfl)
                    simp only [Act.put, List.setIfInBounds_toArray, List.set_cons_zero, List.set_cons_succ]
                  all_goals
                    refine Calm.pure (v := ?_) (by rfl) ?_ ?_
                    rotate_left
                    focus (intro w hSw; go_simp <;> rfl)
                    simp only [Act.put, List.setIfInBounds_toArray, List.set_cons_zero, List.set_cons_succ]
                  all_goals
                    first
                      | (refine Calm.skip ?_ ?_; focus rfl)
                      | (refine Calm.pure (v := ?_) (by rfl) ?_ ?_
                         rotate_left
                         focus (intro w hSw; go_simp <;> rfl))
                    simp only [Act.put, List.setIfInBounds_toArray, List.set_cons_zero, List.set_cons_succ]
                  all_goals
                    first
                      | (refine Calm.skip ?_ ?_; focus rfl)
                      | (first | (refine Calm.loadM 40 Try.underlying40 rfl zm (by rfl) _ rfl rfl (fun _ h => A.mark h.2.2.2.1) ?_) | (refine Calm.loadM 40 Try.underlying40 rfl za (by rfl) _ rfl rfl (fun _ h => A.mark (x := ⟨p, s, i, n⟩) (Rw.whole h.2.2.1)) ?_))
                    simp only [Act.put, List.setIfInBounds_toArray, List.set_cons_zero, List.set_cons_succ]
                  all_goals
                    first
                      | (refine Calm.skip ?_ ?_; focus rfl)
                      | (refine Calm.pure (v := ?_) (by rfl) ?_ ?_
                         rotate_left
                         focus (intro w hSw; go_simp <;> rfl))
                    simp only [Act.put, List.setIfInBounds_toArray, List.set_cons_zero, List.set_cons_succ]
                  all_goals
                    first
                      | (refine Calm.skip ?_ ?_; focus rfl)
                      | (refine Calm.pure (v := ?_) (by rfl) ?_ ?_
                         rotate_left
                         focus (intro w hSw; have g1 := hSw.1.cell 2; simp at g1; go_simp <;> rfl))
                    simp only [Act.put, List.setIfInBounds_toArray, List.set_cons_zero, List.set_cons_succ]
                  all_goals
                    first
                      | (refine Calm.skip ?_ ?_; focus rfl)
                      | (refine Calm.pure (v := ?_) (by rfl) ?_ ?_
                         rotate_left
                         focus (intro w hSw; go_simp <;> rfl))
                    simp only [Act.put, List.setIfInBounds_toArray, List.set_cons_zero, List.set_cons_succ]
                  all_goals
                    first
                      | (refine Calm.skip ?_ ?_; focus rfl)
                      | (refine Calm.pure (v := ?_) (by rfl) ?_ ?_
                         rotate_left
                         focus (intro w hSw; go_simp <;> rfl))
                    simp only [Act.put, List.setIfInBounds_toArray, List.set_cons_zero, List.set_cons_succ]
                  all_goals
                    first
                      | (refine Calm.skip ?_ ?_; focus rfl)
                      | (refine Calm.pure (v := ?_) (by rfl) ?_ ?_
                         rotate_left
                         focus (intro w hSw; go_simp <;> rfl))
                    simp only [Act.put, List.setIfInBounds_toArray, List.set_cons_zero, List.set_cons_succ]
                  all_goals
                    first
                      | (refine Calm.skip ?_ ?_; focus rfl)
                      | (first | (refine Calm.loadM 40 Try.underlying40 rfl zm (by rfl) _ rfl rfl (fun _ h => A.mark h.2.2.2.1) ?_) | (refine Calm.loadM 40 Try.underlying40 rfl za (by rfl) _ rfl rfl (fun _ h => A.mark (x := ⟨p, s, i, n⟩) (Rw.whole h.2.2.1)) ?_))
                    simp only [Act.put, List.setIfInBounds_toArray, List.set_cons_zero, List.set_cons_succ]
                  all_goals
                    first
                      | (refine Calm.skip ?_ ?_; focus rfl)
                      | (refine Calm.call2s (by rfl) rfl rfl rfl (by kernel_rfl) hs (fun w1 h => C2 w1) ?_)
                    simp only [Act.put, List.setIfInBounds_toArray, List.set_cons_zero, List.set_cons_succ]
                  all_goals
                    refine Calm.pure (v := ?_) (by rfl) ?_ ?_
                    rotate_left
                    focus (intro w hSw; go_simp <;> rfl)
                    simp only [Act.put, List.setIfInBounds_toArray, List.set_cons_zero, List.set_cons_succ]
                  all_goals
                    rintro w8 ⟨R08, R28, RB8, d8, hown8, hbw8, hbel8⟩
                  have hB8 := Nat.le_trans hB hbw8.size
                  have c28 : w8.cell? ⟨w.heap.size, 2, none⟩ = some (.slice (some ⟨g, o, none⟩) x.am.length ca') := R08.cell 2
                  go_wp2_with (first | refine load_m 42 _ rfl rfl _ _ rfl d8 Try.underlying42 rfl z42 ?_ | (at_builtin; refine wpList_append_own _ rfl _ _ 22 rfl (pb + 1) 42 i0 (AV 0 0 0 0) 4 32 Try.underlying22 hi hz0 hz1 hz2 rfl (by decide) _ _ _ rfl (hown8.alloc _) ⟨w8.heap.size, 0, none⟩ 1 1 y.cells rfl rfl ?c1 ?c2 ?c3 ?c4 ?c5 ?_))
                  case c1 => exact fun q u hq => (cells_next _ (by simp) _ _ _).trans hq
                  case c2 => exact y.one
                  case c3 => unfold maxLen; omega
                  case c4 => omega
                  case c5 => simp; omega
                  intro v2 w6 hown6 hg6 _
                  have hBg : ∀ q', (Value.slice P m.length cc).ownBlock = some q' → pb + 1 ≤ q' := fun q' hq => (World.ownsRow.lt hown8 q' hq).1
                  clear c28
                  go_wp2_with fail
                  go_roundw
                  case rel =>
                    refine ⟨k + 1, _, m ++ [y], by simp, by omega, rfl, by simp; omega, ?_, HV2, HM2, (R08.alloc _).grown hg6 (fun q' hq => by have := hBg q' hq; omega), (R28.alloc _).grown hg6 (fun q' hq => by have := hBg q' hq; omega), (RB8.alloc _).grown hg6 (fun q' hq => by have := hBg q' hq; omega), (bel_alloc hbel8 _).grown hg6 (by simp; omega) (fun q' hq => by have := hBg q' hq; omega), by have := hg6.size; simp at this; omega⟩
                    rw [rows_append, List.length_append, rows_one]
                    simpa using hown6
                  case measure => simp [intOf]; omega
                · have hly : lt y ⟨p, s, i, n⟩ = false := lt_asymm HZ2.out
                  have HM2 : DInv ⟨p, s, i, n⟩ x.am (k + 1) true (m ++ [⟨p, s, i, n⟩] ++ [y]) := ⟨fun _ => ⟨by
                    rw [HTK.out, insF_snoc hly, hm1, insF_all hm2], k, hlt, by omega, by rw [HY.out]; exact HZ2.out⟩, (fun h => by cases h)⟩
                  have hmk : m.length ≤ k := by
                    rw [hm1, List.length_take]
                    exact Nat.min_le_left _ _
                  clear hm1 hm2 HM hly
                  go_wp2_with fail
                  have hs : Calm.Stays (fun w' => Rw w' w.heap.size 27 (cvc x.k x.b (.slice (some ⟨g, o, none⟩) x.am.length ca') (.slice pw x.wr.length cw) (.slice pm x.mb.length cm) (.slice pe x.el.length ce)) ∧ Rw w' (w.heap.size + 2) 27 (cvc 0 0 (.slice none 0 0) (.slice none 0 0) (.slice none 0 0) (.slice none 0 0)) ∧ Rw w' pb 42 #[.int .i64 p, .int .i64 s, .int .i64 i, .int .i64 n] ∧ w'.rangeAt g (o + k * 4) y.cells ∧ w'.ownsRow (pb + 1) 42 4 (.slice P m.length cc) m.length (rows A.cells m) ∧ Below w9.heap.size w9 w' ∧ Below w.heap.size w w') := fun wa wb h hb => ⟨h.1.later hb, h.2.1.later hb, h.2.2.1.later hb, range_later h.2.2.2.1 hb, own_later h.2.2.2.2.1 hb, below_on h.2.2.2.2.2.1 hb, below_on h.2.2.2.2.2.2 hb⟩
                  refine Calm.region (by kernel_rfl) (by kernel_rfl) (fun w' => Rw w' w.heap.size 27 (cvc x.k x.b (.slice (some ⟨g, o, none⟩) x.am.length ca') (.slice pw x.wr.length cw) (.slice pm x.mb.length cm) (.slice pe x.el.length ce)) ∧ Rw w' (w.heap.size + 2) 27 (cvc 0 0 (.slice none 0 0) (.slice none 0 0) (.slice none 0 0) (.slice none 0 0)) ∧ Rw w' pb 42 #[.int .i64 p, .int .i64 s, .int .i64 i, .int .i64 n] ∧ w'.rangeAt g (o + k * 4) y.cells ∧ w'.ownsRow (pb + 1) 42 4 (.slice P m.length cc) m.length (rows A.cells m) ∧ Below w9.heap.size w9 w' ∧ Below w.heap.size w w') ⟨R0, R2, RB, dd, hown, hbw.drew, hbel.drew⟩ ?_
                  all_goals
                    refine Calm.pure (v := ?_) (by rfl) ?_ ?_
                    rotate_left
                    focus (intro w hSw; go_simp <;> rfl)
                    simp only [Act.put, List.setIfInBounds_toArray, List.set_cons_zero, List.set_cons_succ]
                  all_goals
                    refine Calm.pure (v := ?_) (by rfl) ?_ ?_
                    rotate_left
                    focus (intro w hSw; go_simp <;> rfl)
                    simp only [Act.put, List.setIfInBounds_toArray, List.set_cons_zero, List.set_cons_succ]
                  all_goals
                    refine Calm.pure (v := ?_) (by rfl) ?_ ?_
                    rotate_left
                    focus (intro w hSw; go_simp <;> rfl)
                    simp only [Act.put, List.setIfInBounds_toArray, List.set_cons_zero, List.set_cons_succ]
                  all_goals
                    first
                      | (refine Calm.skip ?_ ?_; focus rfl)
                      | (refine Calm.pure (v := ?_) (by rfl) ?_ ?_
                         rotate_left
                         focus (intro w hSw; go_simp <;> rfl))
                    simp only [Act.put, List.setIfInBounds_toArray, List.set_cons_zero, List.set_cons_succ]
                  all_goals
                    first
                      | (refine Calm.skip ?_ ?_; focus rfl)
                      | (first | (refine Calm.loadM 40 Try.underlying40 rfl zm (by rfl) _ rfl rfl (fun _ h => A.mark h.2.2.2.1) ?_) | (refine Calm.loadM 40 Try.underlying40 rfl za (by rfl) _ rfl rfl (fun _ h => A.mark (x := ⟨p, s, i, n⟩) (Rw.whole h.2.2.1)) ?_))
                    simp only [Act.put, List.setIfInBounds_toArray, List.set_cons_zero, List.set_cons_succ]
                  all_goals
                    first
                      | (refine Calm.skip ?_ ?_; focus rfl)
                      | (refine Calm.pure (v := ?_) (by rfl) ?_ ?_
                         rotate_left
                         focus (intro w hSw; go_simp <;> rfl))
                    simp only [Act.put, List.setIfInBounds_toArray, List.set_cons_zero, List.set_cons_succ]
                  all_goals
                    first
                      | (refine Calm.skip ?_ ?_; focus rfl)
                      | (refine Calm.pure (v := ?_) (by rfl) ?_ ?_
                         rotate_left
                         focus (intro w hSw; have g1 := hSw.1.cell 2; simp at g1; go_simp <;> rfl))
                    simp only [Act.put, List.setIfInBounds_toArray, List.set_cons_zero, List.set_cons_succ]
                  all_goals
                    first
                      | (refine Calm.skip ?_ ?_; focus rfl)
                      | (refine Calm.pure (v := ?_) (by rfl) ?_ ?_
                         rotate_left
                         focus (intro w hSw; go_simp <;> rfl))
                    simp only [Act.put, List.setIfInBounds_toArray, List.set_cons_zero, List.set_cons_succ]
                  all_goals
                    first
                      | (refine Calm.skip ?_ ?_; focus rfl)
                      | (refine Calm.pure (v := ?_) (by rfl) ?_ ?_
                         rotate_left
                         focus (intro w hSw; go_simp <;> rfl))
                    simp only [Act.put, List.setIfInBounds_toArray, List.set_cons_zero, List.set_cons_succ]
                  all_goals
                    first
                      | (refine Calm.skip ?_ ?_; focus rfl)
                      | (refine Calm.pure (v := ?_) (by rfl) ?_ ?_
                         rotate_left
                         focus (intro w hSw; go_simp <;> rfl))
                    simp only [Act.put, List.setIfInBounds_toArray, List.set_cons_zero, List.set_cons_succ]
                  all_goals
                    first
                      | (refine Calm.skip ?_ ?_; focus rfl)
                      | (first | (refine Calm.loadM 40 Try.underlying40 rfl zm (by rfl) _ rfl rfl (fun _ h => A.mark h.2.2.2.1) ?_) | (refine Calm.loadM 40 Try.underlying40 rfl za (by rfl) _ rfl rfl (fun _ h => A.mark (x := ⟨p, s, i, n⟩) (Rw.whole h.2.2.1)) ?_))
                    simp only [Act.put, List.setIfInBounds_toArray, List.set_cons_zero, List.set_cons_succ]
                  all_goals
                    first
                      | (refine Calm.skip ?_ ?_; focus rfl)
                      | (refine Calm.call2s (by rfl) rfl rfl rfl (by kernel_rfl) hs (fun w1 h => C2 w1) ?_)
                    simp only [Act.put, List.setIfInBounds_toArray, List.set_cons_zero, List.set_cons_succ]
                  all_goals
                    refine Calm.pure (v := ?_) (by rfl) ?_ ?_
                    rotate_left
                    focus (intro w hSw; go_simp <;> rfl)
                    simp only [Act.put, List.setIfInBounds_toArray, List.set_cons_zero, List.set_cons_succ]
                  all_goals
                    rintro w8 ⟨R08, R28, RB8, d8, hown8, hbw8, hbel8⟩
                  have hB8 := Nat.le_trans hB hbw8.size
                  have hc1 : ∀ q u, (A.cells ⟨p, s, i, n⟩)[q]? = some u → (w8.alloc (.cells #[.int .i64 p, .int .i64 s, .int .i64 i, .int .i64 n] 42)).cell? ((⟨w8.heap.size, 0, none⟩ : Addr).add q) = some u := fun q u hq => (cells_new w8 (A.cells ⟨p, s, i, n⟩) 42 q).trans hq
                  have hc3 : m.length + 1 ≤ maxLen := by unfold maxLen; omega
                  have hc4 : (m.length + 1) * 32 ≤ 140737488355328 := by omega
                  have hm9 : m.length + 1 + 1 ≤ 102 := Nat.add_le_add_right (Nat.add_le_add_right (Nat.le_trans hmk (Nat.le_trans (Nat.le_of_lt hlt) hsa)) 1) 1
                  have hn3 : m.length + 1 + 1 ≤ maxLen := Nat.le_trans hm9 (by unfold maxLen; decide)
                  have hn4 : (m.length + 1 + 1) * 32 ≤ 140737488355328 := Nat.le_trans (Nat.mul_le_mul_right 32 hm9) (by decide)
                  clear hm9
                  have hc5 : pb + 1 ≤ (w8.alloc (.cells #[.int .i64 p, .int .i64 s, .int .i64 i, .int .i64 n] 42)).heap.size := by simp; omega
                  go_wp2_with (first | refine load_r 42 _ rfl rfl _ rfl RB8 Try.underlying42 rfl size42 ?_ | (at_builtin; refine wpList_append_own _ rfl _ _ 22 rfl (pb + 1) 42 i0 (AV 0 0 0 0) 4 32 Try.underlying22 hi hz0 hz1 hz2 rfl (by decide) _ _ _ rfl (hown8.alloc _) ⟨w8.heap.size, 0, none⟩ 1 1 (A.cells ⟨p, s, i, n⟩) rfl rfl hc1 (A.one ⟨p, s, i, n⟩) hc3 hc4 hc5 ?_))
                  intro v2 w6 hown6 hg6 _
                  have hBg : ∀ q', (Value.slice P m.length cc).ownBlock = some q' → pb + 1 ≤ q' := fun q' hq => (World.ownsRow.lt hown8 q' hq).1
                  have R06 := (R08.alloc (.cells #[.int .i64 p, .int .i64 s, .int .i64 i, .int .i64 n] 42)).grown hg6 (fun q' hq => by have := hBg q' hq; omega)
                  have R26 := (R28.alloc (.cells #[.int .i64 p, .int .i64 s, .int .i64 i, .int .i64 n] 42)).grown hg6 (fun q' hq => by have := hBg q' hq; omega)
                  have RB6 := (RB8.alloc (.cells #[.int .i64 p, .int .i64 s, .int .i64 i, .int .i64 n] 42)).grown hg6 (fun q' hq => by have := hBg q' hq; omega)
                  have hbel6 := (bel_alloc hbel8 (.cells #[.int .i64 p, .int .i64 s, .int .i64 i, .int .i64 n] 42)).grown hg6 (by simp; omega) (fun q' hq => by have := hBg q' hq; omega)
                  have hB6 : pb + 1 ≤ w6.heap.size := by have := hg6.size; simp at this; omega
                  replace hown6 : w6.ownsRow (pb + 1) 42 4 v2 (m ++ [(⟨p, s, i, n⟩ : A)]).length (rows A.cells (m ++ [(⟨p, s, i, n⟩ : A)])) := by
                    rw [rows_append, List.length_append, rows_one]
                    simpa using hown6
                  obtain ⟨P2, c3_, rfl⟩ := own_sl hown6
                  have d6 : w6.rangeAt g (o + k * 4) y.cells := by
                    have hd0 := HF.out.a.at (by omega : 0 < x.am.length)
                    obtain ⟨g', o', e', hd'⟩ := hd0
                    simp only [Option.some.injEq, Addr.mk.injEq, and_true] at e'
                    obtain ⟨rfl, rfl⟩ := e'
                    have := AHas.elem (range_later hd' hbel6) k hlt
                    rw [HY.out] at this
                    exact this
                  have hma : (m ++ [(⟨p, s, i, n⟩ : A)]).length = m.length + 1 := by simp
                  rw [hma] at hown6 ⊢
                  obtain ⟨m2, HM4⟩ := hid_ex (m ++ [(⟨p, s, i, n⟩ : A)])
                  rw [HM4.out] at hown6 hma HM2
                  clear hc1 hc3 hc4 hc5 R08 R28 RB8 hbel8 hB8 hown8 hbw8 d8 hBg hg6
                  have c28 : w6.cell? ⟨w.heap.size, 2, none⟩ = some (.slice (some ⟨g, o, none⟩) x.am.length ca') := R06.cell 2
                  go_wp2_with (first | refine load_m 42 _ rfl rfl _ _ rfl d6 Try.underlying42 rfl z42 ?_ | (at_builtin; refine wpList_append_own _ rfl _ _ 22 rfl (pb + 1) 42 i0 (AV 0 0 0 0) 4 32 Try.underlying22 hi hz0 hz1 hz2 rfl (by decide) _ _ _ rfl (hown6.alloc _) ⟨w6.heap.size, 0, none⟩ 1 1 y.cells rfl rfl ?e1 ?e2 ?e3 ?e4 ?e5 ?_))
                  case e1 => exact fun q u hq => (cells_next _ (by simp) _ _ _).trans hq
                  case e2 => exact y.one
                  case e3 => exact hn3
                  case e4 => exact hn4
                  case e5 => simp; omega
                  intro v4 w7 hown7 hg7 _
                  have hBg : ∀ q', (Value.slice P2 (m.length + 1) c3_).ownBlock = some q' → pb + 1 ≤ q' := fun q' hq => (World.ownsRow.lt hown6 q' hq).1
                  clear c28
                  go_wp2_with fail
                  go_roundw
                  case rel =>
                    refine ⟨k + 1, _, m2 ++ [y], by simp, by omega, rfl, by simp; omega, ?_, HV2, HM2, (R06.alloc _).grown hg7 (fun q' hq => by have := hBg q' hq; omega), (R26.alloc _).grown hg7 (fun q' hq => by have := hBg q' hq; omega), (RB6.alloc _).grown hg7 (fun q' hq => by have := hBg q' hq; omega), (bel_alloc hbel6 _).grown hg7 (by simp; omega) (fun q' hq => by have := hBg q' hq; omega), by have := hg7.size; simp at this; omega⟩
                    rw [rows_append, List.length_append, rows_one, hma]
                    simpa using hown7
                  case measure => simp [intOf]; omega
              · obtain ⟨hm1, j0, hj0, hj1, hj2⟩ := HM.1 rfl
                have hly : lt y ⟨p, s, i, n⟩ = false := by
                  have h1 := pair_at HP.out j0 k hlt hj1
                  rw [HY.out] at h1
                  exact lt_asymm (lt_trans hj2 h1)
                have HM2 : DInv ⟨p, s, i, n⟩ x.am (k + 1) true (m ++ [y]) := ⟨fun _ => ⟨by rw [HTK.out, insF_snoc hly, hm1], j0, hj0, by omega, hj2⟩, (fun h => by cases h)⟩
                clear hm1 hj2 HM hly
                go_wp2_with fail
                have hs : Calm.Stays (fun w' => Rw w' w.heap.size 27 (cvc x.k x.b (.slice (some ⟨g, o, none⟩) x.am.length ca') (.slice pw x.wr.length cw) (.slice pm x.mb.length cm) (.slice pe x.el.length ce)) ∧ Rw w' (w.heap.size + 2) 27 (cvc 0 0 (.slice none 0 0) (.slice none 0 0) (.slice none 0 0) (.slice none 0 0)) ∧ Rw w' pb 42 #[.int .i64 p, .int .i64 s, .int .i64 i, .int .i64 n] ∧ w'.rangeAt g (o + k * 4) y.cells ∧ w'.ownsRow (pb + 1) 42 4 (.slice P m.length cc) m.length (rows A.cells m) ∧ Below w9.heap.size w9 w' ∧ Below w.heap.size w w') := fun wa wb h hb => ⟨h.1.later hb, h.2.1.later hb, h.2.2.1.later hb, range_later h.2.2.2.1 hb, own_later h.2.2.2.2.1 hb, below_on h.2.2.2.2.2.1 hb, below_on h.2.2.2.2.2.2 hb⟩
                refine Calm.region (by kernel_rfl) (by kernel_rfl) (fun w' => Rw w' w.heap.size 27 (cvc x.k x.b (.slice (some ⟨g, o, none⟩) x.am.length ca') (.slice pw x.wr.length cw) (.slice pm x.mb.length cm) (.slice pe x.el.length ce)) ∧ Rw w' (w.heap.size + 2) 27 (cvc 0 0 (.slice none 0 0) (.slice none 0 0) (.slice none 0 0) (.slice none 0 0)) ∧ Rw w' pb 42 #[.int .i64 p, .int .i64 s, .int .i64 i, .int .i64 n] ∧ w'.rangeAt g (o + k * 4) y.cells ∧ w'.ownsRow (pb + 1) 42 4 (.slice P m.length cc) m.length (rows A.cells m) ∧ Below w9.heap.size w9 w' ∧ Below w.heap.size w w') ⟨R0, R2, RB, dd, hown, hbw.drew, hbel.drew⟩ ?_
                all_goals
                  refine Calm.pure (v := ?_) (by rfl) ?_ ?_
                  rotate_left
                  focus (intro w hSw; go_simp <;> rfl)
                  simp only [Act.put, List.setIfInBounds_toArray, List.set_cons_zero, List.set_cons_succ]
                all_goals
                  refine Calm.pure (v := ?_) (by rfl) ?_ ?_
                  rotate_left
                  focus (intro w hSw; go_simp <;> rfl)
                  simp only [Act.put, List.setIfInBounds_toArray, List.set_cons_zero, List.set_cons_succ]
                all_goals
                  refine Calm.pure (v := ?_) (by rfl) ?_ ?_
                  rotate_left
                  focus (intro w hSw; go_simp <;> rfl)
                  simp only [Act.put, List.setIfInBounds_toArray, List.set_cons_zero, List.set_cons_succ]
                all_goals
                  first
                    | (refine Calm.skip ?_ ?_; focus rfl)
                    | (refine Calm.pure (v := ?_) (by rfl) ?_ ?_
                       rotate_left
                       focus (intro w hSw; go_simp <;> rfl))
                  simp only [Act.put, List.setIfInBounds_toArray, List.set_cons_zero, List.set_cons_succ]
                all_goals
                  first
                    | (refine Calm.skip ?_ ?_; focus rfl)
                    | (first | (refine Calm.loadM 40 Try.underlying40 rfl zm (by rfl) _ rfl rfl (fun _ h => A.mark h.2.2.2.1) ?_) | (refine Calm.loadM 40 Try.underlying40 rfl za (by rfl) _ rfl rfl (fun _ h => A.mark (x := ⟨p, s, i, n⟩) (Rw.whole h.2.2.1)) ?_))
                  simp only [Act.put, List.setIfInBounds_toArray, List.set_cons_zero, List.set_cons_succ]
                all_goals
                  first
                    | (refine Calm.skip ?_ ?_; focus rfl)
                    | (refine Calm.pure (v := ?_) (by rfl) ?_ ?_
                       rotate_left
                       focus (intro w hSw; go_simp <;> rfl))
                  simp only [Act.put, List.setIfInBounds_toArray, List.set_cons_zero, List.set_cons_succ]
                all_goals
                  first
                    | (refine Calm.skip ?_ ?_; focus rfl)
                    | (refine Calm.pure (v := ?_) (by rfl) ?_ ?_
                       rotate_left
                       focus (intro w hSw; have g1 := hSw.1.cell 2; simp at g1; go_simp <;> rfl))
                  simp only [Act.put, List.setIfInBounds_toArray, List.set_cons_zero, List.set_cons_succ]
                all_goals
                  first
                    | (refine Calm.skip ?_ ?_; focus rfl)
                    | (refine Calm.pure (v := ?_) (by rfl) ?_ ?_
                       rotate_left
                       focus (intro w hSw; go_simp <;> rfl))
                  simp only [Act.put, List.setIfInBounds_toArray, List.set_cons_zero, List.set_cons_succ]
                all_goals
                  first
                    | (refine Calm.skip ?_ ?_; focus rfl)
                    | (refine Calm.pure (v := ?_) (by rfl) ?_ ?_
                       rotate_left
                       focus (intro w hSw; go_simp <;> rfl))
                  simp only [Act.put, List.setIfInBounds_toArray, List.set_cons_zero, List.set_cons_succ]
                all_goals
                  first
                    | (refine Calm.skip ?_ ?_; focus rfl)
                    | (refine Calm.pure (v := ?_) (by rfl) ?_ ?_
                       rotate_left
                       focus (intro w hSw; go_simp <;> rfl))
                  simp only [Act.put, List.setIfInBounds_toArray, List.set_cons_zero, List.set_cons_succ]
                all_goals
                  first
                    | (refine Calm.skip ?_ ?_; focus rfl)
                    | (first | (refine Calm.loadM 40 Try.underlying40 rfl zm (by rfl) _ rfl rfl (fun _ h => A.mark h.2.2.2.1) ?_) | (refine Calm.loadM 40 Try.underlying40 rfl za (by rfl) _ rfl rfl (fun _ h => A.mark (x := ⟨p, s, i, n⟩) (Rw.whole h.2.2.1)) ?_))
                  simp only [Act.put, List.setIfInBounds_toArray, List.set_cons_zero, List.set_cons_succ]
                all_goals
                  first
                    | (refine Calm.skip ?_ ?_; focus rfl)
                    | (refine Calm.call2s (by rfl) rfl rfl rfl (by kernel_rfl) hs (fun w1 h => refLess_any 0 0 0 0 0 0 w1) ?_)
                  simp only [Act.put, List.setIfInBounds_toArray, List.set_cons_zero, List.set_cons_succ]
                all_goals
                  refine Calm.pure (v := ?_) (by rfl) ?_ ?_
                  rotate_left
                  focus (intro w hSw; go_simp <;> rfl)
                  simp only [Act.put, List.setIfInBounds_toArray, List.set_cons_zero, List.set_cons_succ]
                all_goals
                  rintro w8 ⟨R08, R28, RB8, d8, hown8, hbw8, hbel8⟩
                have hB8 := Nat.le_trans hB hbw8.size
                have c28 : w8.cell? ⟨w.heap.size, 2, none⟩ = some (.slice (some ⟨g, o, none⟩) x.am.length ca') := R08.cell 2
                go_wp2_with (first | refine load_m 42 _ rfl rfl _ _ rfl d8 Try.underlying42 rfl z42 ?_ | (at_builtin; refine wpList_append_own _ rfl _ _ 22 rfl (pb + 1) 42 i0 (AV 0 0 0 0) 4 32 Try.underlying22 hi hz0 hz1 hz2 rfl (by decide) _ _ _ rfl (hown8.alloc _) ⟨w8.heap.size, 0, none⟩ 1 1 y.cells rfl rfl ?c1 ?c2 ?c3 ?c4 ?c5 ?_))
                case c1 => exact fun q u hq => (cells_next _ (by simp) _ _ _).trans hq
                case c2 => exact y.one
                case c3 => unfold maxLen; omega
                case c4 => omega
                case c5 => simp; omega
                intro v2 w6 hown6 hg6 _
                have hBg : ∀ q', (Value.slice P m.length cc).ownBlock = some q' → pb + 1 ≤ q' := fun q' hq => (World.ownsRow.lt hown8 q' hq).1
                clear c28
                go_wp2_with fail
                go_roundw
                case rel =>
                  refine ⟨k + 1, _, m ++ [y], by simp, by omega, rfl, by simp; omega, ?_, HV2, HM2, (R08.alloc _).grown hg6 (fun q' hq => by have := hBg q' hq; omega), (R28.alloc _).grown hg6 (fun q' hq => by have := hBg q' hq; omega), (RB8.alloc _).grown hg6 (fun q' hq => by have := hBg q' hq; omega), (bel_alloc hbel8 _).grown hg6 (by simp; omega) (fun q' hq => by have := hBg q' hq; omega), by have := hg6.size; simp at this; omega⟩
                  rw [rows_append, List.length_append, rows_one]
                  simpa using hown6
                case measure => simp [intOf]; omega
          · obtain rfl : k = x.am.length := by omega
            have hlt' : ¬ (x.am.length : Int) < (x.am.length : Int) := by omega
            have hhas : has ⟨p, s, i, n⟩ x.am = false := has_false.2 fun y hy => by
              obtain ⟨j, hj, rfl⟩ := List.getElem_of_mem hy
              exact HV.out j hj hj
            have HFX : Hid (doX x ⟨p, s, i, n⟩ = { x with am := insF ⟨p, s, i, n⟩ x.am }) := by
              show _ = _
              unfold doX
              rw [HY1.out, hhas]
              simp only [HIA.out]
              rfl
            have HFA : Hid (∀ (w' : World) (va : Value), AHas w' va (insF ⟨p, s, i, n⟩ x.am) → Four w' { x with am := insF ⟨p, s, i, n⟩ x.am } va (.slice pw x.wr.length cw) (.slice pm x.mb.length cm) (.slice pe x.el.length ce)) := fun w' va ha => four_zero HF.out (ck_parts HY1.out).2.1 (ck_parts HY1.out).2.2.1 (ck_parts HY1.out).2.2.2.1 ha
            have h2 := HM
            unfold DInv at h2
            rw [List.take_length] at h2
            have HM3 : Hid ((d = true → m = insF ⟨p, s, i, n⟩ x.am) ∧ (d = false → m ++ [⟨p, s, i, n⟩] = insF ⟨p, s, i, n⟩ x.am)) := ⟨fun h => (h2.1 h).1, fun h => by rw [(h2.2 h).1, insF_all (h2.2 h).2]⟩
            clear h2 HM HV hhas HP
            cases d
            · have HM5 : Hid (m ++ [(⟨p, s, i, n⟩ : A)] = insF ⟨p, s, i, n⟩ x.am) := HM3.out.2 rfl
              clear HM3
              have hc1 : ∀ q u, (A.cells ⟨p, s, i, n⟩)[q]? = some u → (wr.alloc (.cells #[.int .i64 p, .int .i64 s, .int .i64 i, .int .i64 n] 42)).cell? ((⟨wr.heap.size, 0, none⟩ : Addr).add q) = some u := fun q u hq => (cells_new wr (A.cells ⟨p, s, i, n⟩) 42 q).trans hq
              have hc3 : m.length + 1 ≤ maxLen := by unfold maxLen; omega
              have hc4 : (m.length + 1) * 32 ≤ 140737488355328 := by omega
              have hc5 : pb + 1 ≤ (wr.alloc (.cells #[.int .i64 p, .int .i64 s, .int .i64 i, .int .i64 n] 42)).heap.size := by simp; omega
              go_wp2_with (first | refine load_r 42 _ rfl rfl _ rfl RB Try.underlying42 rfl size42 ?_ | (at_builtin; refine wpList_append_own _ rfl _ _ 22 rfl (pb + 1) 42 i0 (AV 0 0 0 0) 4 32 Try.underlying22 hi hz0 hz1 hz2 rfl (by decide) _ _ _ rfl (hown.alloc _) ⟨wr.heap.size, 0, none⟩ 1 1 (A.cells ⟨p, s, i, n⟩) rfl rfl hc1 (A.one ⟨p, s, i, n⟩) hc3 hc4 hc5 ?_))
              intro v2 w5 hown6 hg6 _
              have hBg : ∀ q', (Value.slice P m.length cc).ownBlock = some q' → pb + 1 ≤ q' := fun q' hq => (World.ownsRow.lt hown q' hq).1
              replace R0 := (R0.alloc _).grown hg6 (fun q' hq => by have := hBg q' hq; omega)
              replace R2 := (R2.alloc _).grown hg6 (fun q' hq => by have := hBg q' hq; omega)
              replace hbel := (bel_alloc hbel _).grown hg6 (by simp; omega) (fun q' hq => by have := hBg q' hq; omega)
              replace hown : w5.ownsRow (pb + 1) 42 4 v2 (insF ⟨p, s, i, n⟩ x.am).length (rows A.cells (insF ⟨p, s, i, n⟩ x.am)) := by
                rw [← HM5.out, rows_append, List.length_append, rows_one]
                simpa using hown6
              clear hown6 hg6 hBg HM5 c2
              obtain ⟨P2, c3_, rfl⟩ := own_sl hown
              obtain ⟨lf, HLF⟩ := hid_ex (insF ⟨p, s, i, n⟩ x.am)
              rw [HLF.out] at hown HFA HFX ⊢
              have c2 : w5.cell? ⟨w.heap.size, 2, none⟩ = some (.slice pa x.am.length ca') := R0.cell 2
              have f2 : w5.frozen? ⟨w.heap.size, 2, none⟩ = false := R0.frozen 2
              have R0a : Rw (w5.setCell ⟨w.heap.size, 2, none⟩ (.slice P2 lf.length c3_)) w.heap.size 27 (cvc x.k x.b (.slice P2 lf.length c3_) (.slice pw x.wr.length cw) (.slice pm x.mb.length cm) (.slice pe x.el.length ce)) := R0.set 2 _
              replace R2 := R2.setOther (q := w.heap.size) (by omega) 2 (.slice P2 lf.length c3_)
              replace hown := own_over hown (b := w.heap.size) (fun q' hq => by have := (World.ownsRow.lt hown q' hq).1; omega) 2 (.slice P2 lf.length c3_)
              replace hbel := hbel.setCell (p := ⟨w.heap.size, 2, none⟩) (Nat.le_refl _) (.slice P2 lf.length c3_)
              generalize hW1 : w5.setCell ⟨w.heap.size, 2, none⟩ (.slice P2 lf.length c3_) = wa at R0a R2 hown hbel
              go_wp2_with (first | rw [hW1] | refine load_r 27 _ rfl rfl _ rfl R0a Try.underlying27 rfl size27 ?_ | refine store_r rfl 27 _ _ rfl _ (cvc x.k x.b (.slice P2 lf.length c3_) (.slice pw x.wr.length cw) (.slice pm x.mb.length cm) (.slice pe x.el.length ce)) rfl rfl R2 size27 rfl (by simp [Value.oneCell']) ?_)
              refine bodyPost_ret (results_r rfl rfl (R2.row _) rfl Try.underlying27 size27) rfl ?_
              rw [HFX.out] at HZ
              have e := HZ.out
              subst e
              exact ⟨_, _, _, _, rfl, HFA.out _ _ (own_sh (own_row hown (b := w.heap.size + 2) (by omega) _)), below_setRow hbel (by omega) _⟩
            · replace hown : wr.ownsRow (pb + 1) 42 4 (.slice P m.length cc) (insF ⟨p, s, i, n⟩ x.am).length (rows A.cells (insF ⟨p, s, i, n⟩ x.am)) := by
                rw [← HM3.out.1 rfl]
                exact hown
              have hml : m.length = (insF ⟨p, s, i, n⟩ x.am).length := by rw [← HM3.out.1 rfl]
              rw [hml] at hown ⊢
              clear hml HM3 c2
              obtain ⟨lf, HLF⟩ := hid_ex (insF ⟨p, s, i, n⟩ x.am)
              rw [HLF.out] at hown HFA HFX ⊢
              have c2 : wr.cell? ⟨w.heap.size, 2, none⟩ = some (.slice pa x.am.length ca') := R0.cell 2
              have f2 : wr.frozen? ⟨w.heap.size, 2, none⟩ = false := R0.frozen 2
              have R0a : Rw (wr.setCell ⟨w.heap.size, 2, none⟩ (.slice P lf.length cc)) w.heap.size 27 (cvc x.k x.b (.slice P lf.length cc) (.slice pw x.wr.length cw) (.slice pm x.mb.length cm) (.slice pe x.el.length ce)) := R0.set 2 _
              replace R2 := R2.setOther (q := w.heap.size) (by omega) 2 (.slice P lf.length cc)
              replace hown := own_over hown (b := w.heap.size) (fun q' hq => by have := (World.ownsRow.lt hown q' hq).1; omega) 2 (.slice P lf.length cc)
              replace hbel := hbel.setCell (p := ⟨w.heap.size, 2, none⟩) (Nat.le_refl _) (.slice P lf.length cc)
              generalize hW1 : wr.setCell ⟨w.heap.size, 2, none⟩ (.slice P lf.length cc) = wa at R0a R2 hown hbel
              go_wp2_with (first | rw [hW1] | refine load_r 27 _ rfl rfl _ rfl R0a Try.underlying27 rfl size27 ?_ | refine store_r rfl 27 _ _ rfl _ (cvc x.k x.b (.slice P lf.length cc) (.slice pw x.wr.length cw) (.slice pm x.mb.length cm) (.slice pe x.el.length ce)) rfl rfl R2 size27 rfl (by simp [Value.oneCell']) ?_)
              refine bodyPost_ret (results_r rfl rfl (R2.row _) rfl Try.underlying27 size27) rfl ?_
              rw [HFX.out] at HZ
              have e := HZ.out
              subst e
              exact ⟨_, _, _, _, rfl, HFA.out _ _ (own_sh (own_row hown (b := w.heap.size + 2) (by omega) _)), below_setRow hbel (by omega) _⟩
end Go.Proofs.Ytfjpjodaaofgbaa
