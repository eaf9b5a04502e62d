import Derived.Test.YthekfmodafmlgaaP14
import Derived.Test.YthekfmodafmlgaaP7
/- Check of the document's answer. -/
namespace Go.Proofs.Ythekfmodafmlgaa
open Go.RowKit Go.Sort

theorem leq_str (a b : ByteArray) : (Op.bytesLess b.toList a.toList || b.toList == a.toList) = !decide (bs a < bs b) := by
  rw [less_str, eq_str]
  by_cases h : bs a < bs b
  · have h1 : ¬ bs b < bs a := Bs.asymm h
    have h2 : ¬ bs b = bs a := fun e => Bs.irr _ (e ▸ h)
    simp only [h, h1, h2, decide_true, decide_false]
    rfl
  · by_cases h2 : bs b = bs a
    · simp [h2]
    · have h1 : bs b < bs a := Bs.tri h (fun e => h2 e.symm)
      simp only [h, h1, decide_true, decide_false]
      rfl
set_option maxHeartbeats 4000000 in
set_option maxRecDepth 100000 in
theorem refCheck_any (x : X) (va vw vm ve : Value) (w : World) (h : Four w x va vw vm ve) (hs : Sm x) : Calls Try.prog 8 #[CV x.k x.b va vw vm ve] w (Tells (.bool (ck x)) w) := by
  obtain ⟨z, HZ⟩ := hid_ex (ck x)
  rw [HZ.out]
  obtain ⟨pa, ca', pw, cw, pm, cm, pe, ce, rfl, rfl, rfl, rfl⟩ := h.slices
  have HB : Hid (BHas w (.slice pm x.mb.length cm) x.mb) := h.m
  clear h
  obtain ⟨ha, ht, hm, he, _, _⟩ := hs
  have R0 := rw_new w 27 (cvc x.k x.b (.slice pa x.am.length ca') (.slice pw x.wr.length cw) (.slice pm x.mb.length cm) (.slice pe x.el.length ce))
  have hbel := bel_alloc (Below.refl w.heap.size w) (.cells (cvc x.k x.b (.slice pa x.am.length ca') (.slice pw x.wr.length cw) (.slice pm x.mb.length cm) (.slice pe x.el.length ce)) 27)
  by_cases hb : x.b = 0
  · by_cases h0 : x.am.length + x.wr.length + x.el.length = 0
    · have e1 : x.am.length = 0 := by omega
      have e2 : x.wr.length = 0 := by omega
      have e3 : x.el.length = 0 := by omega
      by_cases hk : x.k = 4
      · skip
        have HZ2 : Hid (cb x.mb = z) := by
          show _ = _
          rw [← HZ.out]
          unfold ck
          rw [hk, hb, decide_eq_true h0]
          rfl
        clear HZ
        rw [e1, e2, e3, hk, hb] at R0 hbel ⊢
        obtain ⟨l, HLL⟩ := hid_ex x.mb
        rw [HLL.out] at HB HZ2 hm
        have e4 : x.mb.length = l.length := by rw [HLL.out]
        rw [e4] at R0 hbel ⊢
        clear e4 HLL e1 e2 e3 h0 he ha hk hb ht
        obtain ⟨ys, hys, HS, HYS⟩ := HB.out
        have hyl : ys.length = l.length := by rw [← hys, List.length_map]
        have HR : Hid (SHas 3 w (.slice pm l.length cm) l.length (rows Mb.cells ys)) := HS
        have HYY : Hid (∀ y ∈ ys, MHas w y.2 y.1.ms) := HYS
        have HL : Hid (∀ k (h1 : k < ys.length) (h2 : k < l.length), ys[k].1 = l[k]) := fun k h1 h2 => by
          subst hys
          rw [List.getElem_map]
        clear hys HS HYS HB
        generalize hW : w.alloc (.cells (cvc 4 0 (.slice pa 0 ca') (.slice pw 0 cw) (.slice pm l.length cm) (.slice pe 0 ce)) 27) = w0 at R0 hbel
        have c1 : w0.cell? ⟨w.heap.size, 1, none⟩ = some (.int .i64 0) := R0.cell 1
        have c0 : w0.cell? ⟨w.heap.size, 0, none⟩ = some (.int .i64 4) := R0.cell 0
        have c2 : w0.cell? ⟨w.heap.size, 2, none⟩ = some (.slice pa 0 ca') := R0.cell 2
        have c3 : w0.cell? ⟨w.heap.size, 3, none⟩ = some (.slice pw 0 cw) := R0.cell 3
        have c5 : w0.cell? ⟨w.heap.size, 5, none⟩ = some (.slice pe 0 ce) := R0.cell 5
        go_enter Try.func8, Try.ntmps8
        go_wp2_with (first | rw [hW])
        clear hW c0 c1 c2 c3 c5
        go_loopw [3] (fun vi wr => ∃ k : Nat, vi = .int .i64 k ∧ k ≤ l.length ∧ Rw wr w.heap.size 27 (cvc 4 0 (.slice pa 0 ca') (.slice pw 0 cw) (.slice pm l.length cm) (.slice pe 0 ce)) ∧ Hid (∀ i (h : i < l.length), i < k → okb l i h = true) ∧ Below w.heap.size w wr) (fun vi _ => l.length - (intOf vi).toNat)
        case atStart => exact ⟨0, rfl, by omega, R0, (show ∀ i (_ : i < l.length), i < 0 → _ from fun i _ h => by omega), hbel⟩
        case round =>
          clear R0 hbel
          obtain ⟨k, rfl, hk, R0, HV, hbel⟩ := hrel
          have c4 : wr.cell? ⟨w.heap.size, 4, none⟩ = some (.slice pm l.length cm) := R0.cell 4
          by_cases hlt : k < l.length
          · have hlt' : (k : Int) < (l.length : Int) := by omega
            have hk0 : (0 : Int) ≤ (k : Int) := by omega
            obtain ⟨g, o, rfl, hd0⟩ := HR.out.at (by omega)
            have hd := range_later hd0 hbel
            have d := Mb.elem hd k (by omega)
            have hyk := (HYY.out ys[k] (List.getElem_mem _)).later hbel
            obtain ⟨yy, HX⟩ := hid_ex (ys[k]'(by omega))
            have HX2 : Hid (l[k] = yy.1) := by
              show _ = _
              rw [← HL.out k (by omega) hlt, HX.out]
            rw [HX.out] at d hyk
            obtain ⟨y, yv⟩ := yy
            replace hyk : MHas wr yv y.ms := hyk
            obtain ⟨py, cy, rfl⟩ := hyk.slice
            replace d : wr.rangeAt g (o + k * 3) [Value.string y.x, .bool y.b, .slice py y.ms.length cy] := d
            replace HX2 : Hid (l[k] = y) := HX2
            clear hd0 HR HYY HX
            have HO0 : Hid (∀ h', okb l k h' = (ib y && (decide (k = 0) || tlt (l[k - 1]'(by omega)) y))) := fun h' => by unfold okb; rw [HX2.out]
            have C1 : ∀ w, MHas w (.slice py y.ms.length cy) y.ms → Calls Try.prog 27 #[.slice py y.ms.length cy] w (Tells (.bool (ca y.ms)) w) := fun w h => rising_any _ y.ms w h
            have zb : (Try.prog.info? 41).map (·.size) = some [Value.string y.x, .bool y.b, .slice py y.ms.length cy].length := size41
            have RB := rw_new wr 41 #[.string y.x, .bool y.b, .slice py y.ms.length cy]
            have hba := bel_alloc (Below.refl wr.heap.size wr) (.cells #[.string y.x, .bool y.b, .slice py y.ms.length cy] 41)
            generalize hW : wr.alloc (.cells #[.string y.x, .bool y.b, .slice py y.ms.length cy] 41) = wx at RB hba
            go_wp2_with (first | rw [hW] | refine load_m 41 _ rfl rfl _ _ rfl d Try.underlying41 rfl zb ?_)
            clear hW d
            replace R0 := R0.later hba
            replace hyk := hyk.later hba
            replace hbel := below_on hbel hba
            by_cases hyx : y.x.size ≤ 64
            · have hyx' : decide ((64 : Int) < (y.x.size : Int)) = false := decide_eq_false (by omega)
              obtain ⟨yb, HYB⟩ := hid_ex y.b
              rw [HYB.out] at RB
              cases yb
              · by_cases hy0 : y.ms.length = 0
                · have hy0' : ((y.ms.length : Int) == 0) = true := by rw [hy0]; rfl
                  have hyd : decide ((y.ms.length : Int) = 0) = true := decide_eq_true (by omega)
                  have HF := cb_not HZ2 hlt (by rw [HO0.out]; unfold ib; rw [HYB.out, hy0]; rfl)
                  have e := HF.out
                  subst e
                  clear HZ2 HF HV HO0
                  clear hd
                  have hs : Calm.Stays (fun w' => Rw w' w.heap.size 27 (cvc 4 0 (.slice pa 0 ca') (.slice pw 0 cw) (.slice (some ⟨g, o, none⟩) l.length cm) (.slice pe 0 ce)) ∧ Rw w' wr.heap.size 41 #[.string y.x, .bool false, .slice py y.ms.length cy] ∧ MHas w' (.slice py y.ms.length cy) y.ms ∧ Below w.heap.size w w') := fun wa wb h hb => ⟨h.1.later hb, h.2.1.later hb, h.2.2.1.later hb, below_on h.2.2.2 hb⟩
                  refine Calm.region (by kernel_rfl) (by kernel_rfl) (fun w' => Rw w' w.heap.size 27 (cvc 4 0 (.slice pa 0 ca') (.slice pw 0 cw) (.slice (some ⟨g, o, none⟩) l.length cm) (.slice pe 0 ce)) ∧ Rw w' wr.heap.size 41 #[.string y.x, .bool false, .slice py y.ms.length cy] ∧ MHas w' (.slice py y.ms.length cy) y.ms ∧ Below w.heap.size w w') ⟨R0, RB, hyk, hbel.drew⟩ ?_
                  all_goals
                    refine Calm.pure (v := ?_) (by rfl) ?_ ?_
                    rotate_left
                    focus (intro w hSw; go_simp <;> rfl)
                    simp only [Act.put, List.setIfInBounds_toArray, List.set_cons_zero, List.set_cons_succ]
                  all_goals
                    refine Calm.pure (v := ?_) (by rfl) ?_ ?_
                    rotate_left
                    focus (intro w hSw; have g1 := hSw.2.1.cell 0; simp at g1; go_simp <;> rfl)
                    simp only [Act.put, List.setIfInBounds_toArray, List.set_cons_zero, List.set_cons_succ]
                  all_goals
                    refine Calm.pure (v := ?_) (by rfl) ?_ ?_
                    rotate_left
                    focus (intro w hSw; go_simp <;> rfl)
                    simp only [Act.put, List.setIfInBounds_toArray, List.set_cons_zero, List.set_cons_succ]
                  all_goals
                    refine Calm.pure (v := ?_) (by rfl) ?_ ?_
                    rotate_left
                    focus (intro w hSw; go_simp <;> rfl)
                    simp only [Act.put, List.setIfInBounds_toArray, List.set_cons_zero, List.set_cons_succ]
                  all_goals
                    refine Calm.pure (v := ?_) (by rfl) ?_ ?_
                    rotate_left
                    focus (intro w hSw; go_simp <;> rfl)
                    simp only [Act.put, List.setIfInBounds_toArray, List.set_cons_zero, List.set_cons_succ]
                  all_goals
                    first
                      | (refine Calm.skip ?_ ?_; focus rfl)
                      | (refine Calm.pure (v := ?_) (by rfl) ?_ ?_
                         rotate_left
                         focus (intro w hSw; go_simp <;> rfl))
                    simp only [Act.put, List.setIfInBounds_toArray, List.set_cons_zero, List.set_cons_succ]
                  all_goals
                    first
                      | (refine Calm.skip ?_ ?_; focus rfl)
                      | (refine Calm.pure (v := ?_) (by rfl) ?_ ?_
                         rotate_left
                         focus (intro w hSw; have g1 := hSw.2.1.cell 1; simp at g1; go_simp <;> rfl))
                    simp only [Act.put, List.setIfInBounds_toArray, List.set_cons_zero, List.set_cons_succ]
                  all_goals
                    first
                      | (refine Calm.skip ?_ ?_; focus rfl)
                      | (refine Calm.pure (v := ?_) (by rfl) ?_ ?_
                         rotate_left
                         focus (intro w hSw; go_simp <;> rfl))
                    simp only [Act.put, List.setIfInBounds_toArray, List.set_cons_zero, List.set_cons_succ]
                  all_goals
                    first
                      | (refine Calm.skip ?_ ?_; focus rfl)
                      | (refine Calm.pure (v := ?_) (by rfl) ?_ ?_
                         rotate_left
                         focus (intro w hSw; go_simp <;> rfl))
                    simp only [Act.put, List.setIfInBounds_toArray, List.set_cons_zero, List.set_cons_succ]
                  all_goals
                    first
                      | (refine Calm.skip ?_ ?_; focus rfl)
                      | (refine Calm.pure (v := ?_) (by rfl) ?_ ?_
                         rotate_left
                         focus (intro w hSw; go_simp <;> rfl))
                    simp only [Act.put, List.setIfInBounds_toArray, List.set_cons_zero, List.set_cons_succ]
                  all_goals
                    first
                      | (refine Calm.skip ?_ ?_; focus rfl)
                      | (refine Calm.pure (v := ?_) (by rfl) ?_ ?_
                         rotate_left
                         focus (intro w hSw; have g1 := hSw.2.1.cell 2; simp at g1; go_simp <;> rfl))
                    simp only [Act.put, List.setIfInBounds_toArray, List.set_cons_zero, List.set_cons_succ]
                  all_goals
                    first
                      | (refine Calm.skip ?_ ?_; focus rfl)
                      | (refine Calm.pure (v := ?_) (by rfl) ?_ ?_
                         rotate_left
                         focus (intro w hSw; go_simp <;> rfl))
                    simp only [Act.put, List.setIfInBounds_toArray, List.set_cons_zero, List.set_cons_succ]
                  all_goals
                    first
                      | (refine Calm.skip ?_ ?_; focus rfl)
                      | (refine Calm.pure (v := ?_) (by rfl) ?_ ?_
                         rotate_left
                         focus (intro w hSw; go_simp <;> rfl))
                    simp only [Act.put, List.setIfInBounds_toArray, List.set_cons_zero, List.set_cons_succ]
                  all_goals
                    first
                      | (refine Calm.skip ?_ ?_; focus rfl)
                      | (refine Calm.pure (v := ?_) (by rfl) ?_ ?_
                         rotate_left
                         focus (intro w hSw; go_simp <;> rfl))
                    simp only [Act.put, List.setIfInBounds_toArray, List.set_cons_zero, List.set_cons_succ]
                  all_goals
                    refine Calm.pure (v := ?_) (by rfl) ?_ ?_
                    rotate_left
                    focus (intro w hSw; go_simp <;> rfl)
                    simp only [Act.put, List.setIfInBounds_toArray, List.set_cons_zero, List.set_cons_succ]
                  all_goals
                    refine Calm.pure (v := ?_) (by rfl) ?_ ?_
                    rotate_left
                    focus (intro w hSw; go_simp <;> rfl)
                    simp only [Act.put, List.setIfInBounds_toArray, List.set_cons_zero, List.set_cons_succ]
                  all_goals
                    first
                      | (refine Calm.skip ?_ ?_; focus rfl)
                      | (refine Calm.pure (v := ?_) (by rfl) ?_ ?_
                         rotate_left
                         focus (intro w hSw; go_simp <;> rfl))
                    simp only [Act.put, List.setIfInBounds_toArray, List.set_cons_zero, List.set_cons_succ]
                  all_goals
                    first
                      | (refine Calm.skip ?_ ?_; focus rfl)
                      | (refine Calm.pure (v := ?_) (by rfl) ?_ ?_
                         rotate_left
                         focus (intro w hSw; have g1 := hSw.2.1.cell 2; simp at g1; go_simp <;> rfl))
                    simp only [Act.put, List.setIfInBounds_toArray, List.set_cons_zero, List.set_cons_succ]
                  all_goals
                    first
                      | (refine Calm.skip ?_ ?_; focus rfl)
                      | (refine Calm.call1s (by rfl) rfl rfl (by kernel_rfl) hs (fun w1 h => C1 w1 h.2.2.1) ?_)
                    simp only [Act.put, List.setIfInBounds_toArray, List.set_cons_zero, List.set_cons_succ]
                  all_goals
                    first
                      | (refine Calm.skip ?_ ?_; focus rfl)
                      | (refine Calm.pure (v := ?_) (by rfl) ?_ ?_
                         rotate_left
                         focus (intro w hSw; go_simp <;> rfl))
                    simp only [Act.put, List.setIfInBounds_toArray, List.set_cons_zero, List.set_cons_succ]
                  all_goals
                    refine Calm.pure (v := ?_) (by rfl) ?_ ?_
                    rotate_left
                    focus (intro w hSw; go_simp <;> rfl)
                    simp only [Act.put, List.setIfInBounds_toArray, List.set_cons_zero, List.set_cons_succ]
                  all_goals
                    refine Calm.pure (v := ?_) (by rfl) ?_ ?_
                    rotate_left
                    focus (intro w hSw; go_simp <;> rfl)
                    simp only [Act.put, List.setIfInBounds_toArray, List.set_cons_zero, List.set_cons_succ]
                  all_goals
                    first
                      | (refine Calm.skip ?_ ?_; focus rfl)
                      | (refine Calm.pure (v := ?_) (by rfl) ?_ ?_
                         rotate_left
                         focus (intro w hSw; go_simp <;> rfl))
                    simp only [Act.put, List.setIfInBounds_toArray, List.set_cons_zero, List.set_cons_succ]
                  all_goals
                    first
                      | (refine Calm.skip ?_ ?_; focus rfl)
                      | (refine Calm.pure (v := ?_) (by rfl) ?_ ?_
                         rotate_left
                         focus (intro w hSw; go_simp <;> rfl))
                    simp only [Act.put, List.setIfInBounds_toArray, List.set_cons_zero, List.set_cons_succ]
                  all_goals
                    first
                      | (refine Calm.skip ?_ ?_; focus rfl)
                      | (refine Calm.pure (v := ?_) (by rfl) ?_ ?_
                         rotate_left
                         focus (intro w hSw; go_simp <;> rfl))
                    simp only [Act.put, List.setIfInBounds_toArray, List.set_cons_zero, List.set_cons_succ]
                  all_goals
                    first
                      | (refine Calm.skip ?_ ?_; focus rfl)
                      | (refine Calm.pure (v := ?_) (by rfl) ?_ ?_
                         rotate_left
                         focus (intro w hSw; go_simp <;> rfl))
                    simp only [Act.put, List.setIfInBounds_toArray, List.set_cons_zero, List.set_cons_succ]
                  all_goals
                    first
                      | (refine Calm.skip ?_ ?_; focus rfl)
                      | (refine Calm.pure (v := ?_) (by rfl) ?_ ?_
                         rotate_left
                         focus (intro w hSw; have g1 := hSw.2.1.cell 0; simp at g1; go_simp <;> rfl))
                    simp only [Act.put, List.setIfInBounds_toArray, List.set_cons_zero, List.set_cons_succ]
                  all_goals
                    first
                      | (refine Calm.skip ?_ ?_; focus rfl)
                      | (refine Calm.pure (v := ?_) (by rfl) ?_ ?_
                         rotate_left
                         focus (intro w hSw; go_simp <;> rfl))
                    simp only [Act.put, List.setIfInBounds_toArray, List.set_cons_zero, List.set_cons_succ]
                  all_goals
                    first
                      | (refine Calm.skip ?_ ?_; focus rfl)
                      | (refine Calm.pure (v := ?_) (by rfl) ?_ ?_
                         rotate_left
                         focus (intro w hSw; have g1 := hSw.1.cell 4; simp at g1; go_simp <;> rfl))
                    simp only [Act.put, List.setIfInBounds_toArray, List.set_cons_zero, List.set_cons_succ]
                  all_goals
                    first
                      | (refine Calm.skip ?_ ?_; focus rfl)
                      | (refine Calm.pure (v := ?_) (by rfl) ?_ ?_
                         rotate_left
                         focus (intro w hSw; go_simp <;> rfl))
                    simp only [Act.put, List.setIfInBounds_toArray, List.set_cons_zero, List.set_cons_succ]
                  all_goals
                    first
                      | (refine Calm.skip ?_ ?_; focus rfl)
                      | (refine Calm.pure (v := ?_) (by rfl) ?_ ?_
                         rotate_left
                         focus (intro w hSw; go_simp <;> rfl))
                    simp only [Act.put, List.setIfInBounds_toArray, List.set_cons_zero, List.set_cons_succ]
                  all_goals
                    first
                      | (refine Calm.skip ?_ ?_; focus rfl)
                      | (refine Calm.pure (v := ?_) (by rfl) ?_ ?_
                         rotate_left
                         focus (intro w hSw; go_simp <;> rfl))
                    simp only [Act.put, List.setIfInBounds_toArray, List.set_cons_zero, List.set_cons_succ]
                  all_goals
                    first
                      | (refine Calm.skip ?_ ?_; focus rfl)
                      | (refine Calm.pure (v := ?_) (by rfl) ?_ ?_
                         rotate_left
                         focus (intro w hSw; go_simp <;> rfl))
                    simp only [Act.put, List.setIfInBounds_toArray, List.set_cons_zero, List.set_cons_succ]
                  all_goals
                    first
                      | (refine Calm.skip ?_ ?_; focus rfl)
                      | (refine Calm.pure (v := ?_) (by rfl) ?_ ?_
                         rotate_left
                         focus (intro w hSw; go_simp <;> rfl))
                    simp only [Act.put, List.setIfInBounds_toArray, List.set_cons_zero, List.set_cons_succ]
                  all_goals
                    first
                      | (refine Calm.skip ?_ ?_; focus rfl)
                      | (refine Calm.pure (v := ?_) (by rfl) ?_ ?_
                         rotate_left
                         focus (intro w hSw; go_simp <;> rfl))
                    simp only [Act.put, List.setIfInBounds_toArray, List.set_cons_zero, List.set_cons_succ]
                  all_goals
                    first
                      | (refine Calm.skip ?_ ?_; focus rfl)
                      | (refine Calm.pure (v := ?_) (by rfl) ?_ ?_
                         rotate_left
                         focus (intro w hSw; go_simp <;> rfl))
                    simp only [Act.put, List.setIfInBounds_toArray, List.set_cons_zero, List.set_cons_succ]
                  all_goals
                    refine Calm.pure (v := ?_) (by rfl) ?_ ?_
                    rotate_left
                    focus (intro w hSw; go_simp <;> rfl)
                    simp only [Act.put, List.setIfInBounds_toArray, List.set_cons_zero, List.set_cons_succ]
                  all_goals
                    rintro w9 ⟨R09, _, _, hbel9⟩
                  go_wp2_with fail
                  go_ret
                  exact ⟨rfl, hbel9⟩
                · have hy0' : ((y.ms.length : Int) == 0) = false := by rw [beq_eq_false_iff_ne]; omega
                  have hyd : decide ((y.ms.length : Int) = 0) = false := decide_eq_false (by omega)
                  obtain ⟨y1, HY1⟩ := hid_ex (ca y.ms)
                  rw [HY1.out] at C1
                  cases y1
                  ·
                    have HF := cb_not HZ2 hlt (by rw [HO0.out]; unfold ib; rw [HY1.out]; simp)
                    have e := HF.out
                    subst e
                    clear HZ2 HF HV HO0
                    clear hd
                    have hs : Calm.Stays (fun w' => Rw w' w.heap.size 27 (cvc 4 0 (.slice pa 0 ca') (.slice pw 0 cw) (.slice (some ⟨g, o, none⟩) l.length cm) (.slice pe 0 ce)) ∧ Rw w' wr.heap.size 41 #[.string y.x, .bool false, .slice py y.ms.length cy] ∧ MHas w' (.slice py y.ms.length cy) y.ms ∧ Below w.heap.size w w') := fun wa wb h hb => ⟨h.1.later hb, h.2.1.later hb, h.2.2.1.later hb, below_on h.2.2.2 hb⟩
                    refine Calm.region (by kernel_rfl) (by kernel_rfl) (fun w' => Rw w' w.heap.size 27 (cvc 4 0 (.slice pa 0 ca') (.slice pw 0 cw) (.slice (some ⟨g, o, none⟩) l.length cm) (.slice pe 0 ce)) ∧ Rw w' wr.heap.size 41 #[.string y.x, .bool false, .slice py y.ms.length cy] ∧ MHas w' (.slice py y.ms.length cy) y.ms ∧ Below w.heap.size w w') ⟨R0, RB, hyk, hbel.drew⟩ ?_
                    all_goals
                      refine Calm.pure (v := ?_) (by rfl) ?_ ?_
                      rotate_left
                      focus (intro w hSw; go_simp <;> rfl)
                      simp only [Act.put, List.setIfInBounds_toArray, List.set_cons_zero, List.set_cons_succ]
                    all_goals
                      refine Calm.pure (v := ?_) (by rfl) ?_ ?_
                      rotate_left
                      focus (intro w hSw; have g1 := hSw.2.1.cell 0; simp at g1; go_simp <;> rfl)
                      simp only [Act.put, List.setIfInBounds_toArray, List.set_cons_zero, List.set_cons_succ]
                    all_goals
                      refine Calm.pure (v := ?_) (by rfl) ?_ ?_
                      rotate_left
                      focus (intro w hSw; go_simp <;> rfl)
                      simp only [Act.put, List.setIfInBounds_toArray, List.set_cons_zero, List.set_cons_succ]
                    all_goals
                      refine Calm.pure (v := ?_) (by rfl) ?_ ?_
                      rotate_left
                      focus (intro w hSw; go_simp <;> rfl)
                      simp only [Act.put, List.setIfInBounds_toArray, List.set_cons_zero, List.set_cons_succ]
                    all_goals
                      refine Calm.pure (v := ?_) (by rfl) ?_ ?_
                      rotate_left
                      focus (intro w hSw; go_simp <;> rfl)
                      simp only [Act.put, List.setIfInBounds_toArray, List.set_cons_zero, List.set_cons_succ]
                    all_goals
                      first
                        | (refine Calm.skip ?_ ?_; focus rfl)
                        | (refine Calm.pure (v := ?_) (by rfl) ?_ ?_
                           rotate_left
                           focus (intro w hSw; go_simp <;> rfl))
                      simp only [Act.put, List.setIfInBounds_toArray, List.set_cons_zero, List.set_cons_succ]
                    all_goals
                      first
                        | (refine Calm.skip ?_ ?_; focus rfl)
                        | (refine Calm.pure (v := ?_) (by rfl) ?_ ?_
                           rotate_left
                           focus (intro w hSw; have g1 := hSw.2.1.cell 1; simp at g1; go_simp <;> rfl))
                      simp only [Act.put, List.setIfInBounds_toArray, List.set_cons_zero, List.set_cons_succ]
                    all_goals
                      first
                        | (refine Calm.skip ?_ ?_; focus rfl)
                        | (refine Calm.pure (v := ?_) (by rfl) ?_ ?_
                           rotate_left
                           focus (intro w hSw; go_simp <;> rfl))
                      simp only [Act.put, List.setIfInBounds_toArray, List.set_cons_zero, List.set_cons_succ]
                    all_goals
                      first
                        | (refine Calm.skip ?_ ?_; focus rfl)
                        | (refine Calm.pure (v := ?_) (by rfl) ?_ ?_
                           rotate_left
                           focus (intro w hSw; go_simp <;> rfl))
                      simp only [Act.put, List.setIfInBounds_toArray, List.set_cons_zero, List.set_cons_succ]
                    all_goals
                      first
                        | (refine Calm.skip ?_ ?_; focus rfl)
                        | (refine Calm.pure (v := ?_) (by rfl) ?_ ?_
                           rotate_left
                           focus (intro w hSw; go_simp <;> rfl))
                      simp only [Act.put, List.setIfInBounds_toArray, List.set_cons_zero, List.set_cons_succ]
                    all_goals
                      first
                        | (refine Calm.skip ?_ ?_; focus rfl)
                        | (refine Calm.pure (v := ?_) (by rfl) ?_ ?_
                           rotate_left
                           focus (intro w hSw; have g1 := hSw.2.1.cell 2; simp at g1; go_simp <;> rfl))
                      simp only [Act.put, List.setIfInBounds_toArray, List.set_cons_zero, List.set_cons_succ]
                    all_goals
                      first
                        | (refine Calm.skip ?_ ?_; focus rfl)
                        | (refine Calm.pure (v := ?_) (by rfl) ?_ ?_
                           rotate_left
                           focus (intro w hSw; go_simp <;> rfl))
                      simp only [Act.put, List.setIfInBounds_toArray, List.set_cons_zero, List.set_cons_succ]
                    all_goals
                      first
                        | (refine Calm.skip ?_ ?_; focus rfl)
                        | (refine Calm.pure (v := ?_) (by rfl) ?_ ?_
                           rotate_left
                           focus (intro w hSw; go_simp <;> rfl))
                      simp only [Act.put, List.setIfInBounds_toArray, List.set_cons_zero, List.set_cons_succ]
                    all_goals
                      first
                        | (refine Calm.skip ?_ ?_; focus rfl)
                        | (refine Calm.pure (v := ?_) (by rfl) ?_ ?_
                           rotate_left
                           focus (intro w hSw; go_simp <;> rfl))
                      simp only [Act.put, List.setIfInBounds_toArray, List.set_cons_zero, List.set_cons_succ]
                    all_goals
                      refine Calm.pure (v := ?_) (by rfl) ?_ ?_
                      rotate_left
                      focus (intro w hSw; go_simp <;> rfl)
                      simp only [Act.put, List.setIfInBounds_toArray, List.set_cons_zero, List.set_cons_succ]
                    all_goals
                      refine Calm.pure (v := ?_) (by rfl) ?_ ?_
                      rotate_left
                      focus (intro w hSw; go_simp <;> rfl)
                      simp only [Act.put, List.setIfInBounds_toArray, List.set_cons_zero, List.set_cons_succ]
                    all_goals
                      first
                        | (refine Calm.skip ?_ ?_; focus rfl)
                        | (refine Calm.pure (v := ?_) (by rfl) ?_ ?_
                           rotate_left
                           focus (intro w hSw; go_simp <;> rfl))
                      simp only [Act.put, List.setIfInBounds_toArray, List.set_cons_zero, List.set_cons_succ]
                    all_goals
                      first
                        | (refine Calm.skip ?_ ?_; focus rfl)
                        | (refine Calm.pure (v := ?_) (by rfl) ?_ ?_
                           rotate_left
                           focus (intro w hSw; have g1 := hSw.2.1.cell 2; simp at g1; go_simp <;> rfl))
                      simp only [Act.put, List.setIfInBounds_toArray, List.set_cons_zero, List.set_cons_succ]
                    all_goals
                      first
                        | (refine Calm.skip ?_ ?_; focus rfl)
                        | (refine Calm.call1s (by rfl) rfl rfl (by kernel_rfl) hs (fun w1 h => C1 w1 h.2.2.1) ?_)
                      simp only [Act.put, List.setIfInBounds_toArray, List.set_cons_zero, List.set_cons_succ]
                    all_goals
                      first
                        | (refine Calm.skip ?_ ?_; focus rfl)
                        | (refine Calm.pure (v := ?_) (by rfl) ?_ ?_
                           rotate_left
                           focus (intro w hSw; go_simp <;> rfl))
                      simp only [Act.put, List.setIfInBounds_toArray, List.set_cons_zero, List.set_cons_succ]
                    all_goals
                      refine Calm.pure (v := ?_) (by rfl) ?_ ?_
                      rotate_left
                      focus (intro w hSw; go_simp <;> rfl)
                      simp only [Act.put, List.setIfInBounds_toArray, List.set_cons_zero, List.set_cons_succ]
                    all_goals
                      refine Calm.pure (v := ?_) (by rfl) ?_ ?_
                      rotate_left
                      focus (intro w hSw; go_simp <;> rfl)
                      simp only [Act.put, List.setIfInBounds_toArray, List.set_cons_zero, List.set_cons_succ]
                    all_goals
                      first
                        | (refine Calm.skip ?_ ?_; focus rfl)
                        | (refine Calm.pure (v := ?_) (by rfl) ?_ ?_
                           rotate_left
                           focus (intro w hSw; go_simp <;> rfl))
                      simp only [Act.put, List.setIfInBounds_toArray, List.set_cons_zero, List.set_cons_succ]
                    all_goals
                      first
                        | (refine Calm.skip ?_ ?_; focus rfl)
                        | (refine Calm.pure (v := ?_) (by rfl) ?_ ?_
                           rotate_left
                           focus (intro w hSw; go_simp <;> rfl))
                      simp only [Act.put, List.setIfInBounds_toArray, List.set_cons_zero, List.set_cons_succ]
                    all_goals
                      first
                        | (refine Calm.skip ?_ ?_; focus rfl)
                        | (refine Calm.pure (v := ?_) (by rfl) ?_ ?_
                           rotate_left
                           focus (intro w hSw; go_simp <;> rfl))
                      simp only [Act.put, List.setIfInBounds_toArray, List.set_cons_zero, List.set_cons_succ]
                    all_goals
                      first
                        | (refine Calm.skip ?_ ?_; focus rfl)
                        | (refine Calm.pure (v := ?_) (by rfl) ?_ ?_
                           rotate_left
                           focus (intro w hSw; go_simp <;> rfl))
                      simp only [Act.put, List.setIfInBounds_toArray, List.set_cons_zero, List.set_cons_succ]
                    all_goals
                      first
                        | (refine Calm.skip ?_ ?_; focus rfl)
                        | (refine Calm.pure (v := ?_) (by rfl) ?_ ?_
                           rotate_left
                           focus (intro w hSw; have g1 := hSw.2.1.cell 0; simp at g1; go_simp <;> rfl))
                      simp only [Act.put, List.setIfInBounds_toArray, List.set_cons_zero, List.set_cons_succ]
                    all_goals
                      first
                        | (refine Calm.skip ?_ ?_; focus rfl)
                        | (refine Calm.pure (v := ?_) (by rfl) ?_ ?_
                           rotate_left
                           focus (intro w hSw; go_simp <;> rfl))
                      simp only [Act.put, List.setIfInBounds_toArray, List.set_cons_zero, List.set_cons_succ]
                    all_goals
                      first
                        | (refine Calm.skip ?_ ?_; focus rfl)
                        | (refine Calm.pure (v := ?_) (by rfl) ?_ ?_
                           rotate_left
                           focus (intro w hSw; have g1 := hSw.1.cell 4; simp at g1; go_simp <;> rfl))
                      simp only [Act.put, List.setIfInBounds_toArray, List.set_cons_zero, List.set_cons_succ]
                    all_goals
                      first
                        | (refine Calm.skip ?_ ?_; focus rfl)
                        | (refine Calm.pure (v := ?_) (by rfl) ?_ ?_
                           rotate_left
                           focus (intro w hSw; go_simp <;> rfl))
                      simp only [Act.put, List.setIfInBounds_toArray, List.set_cons_zero, List.set_cons_succ]
                    all_goals
                      first
                        | (refine Calm.skip ?_ ?_; focus rfl)
                        | (refine Calm.pure (v := ?_) (by rfl) ?_ ?_
                           rotate_left
                           focus (intro w hSw; go_simp <;> rfl))
                      simp only [Act.put, List.setIfInBounds_toArray, List.set_cons_zero, List.set_cons_succ]
                    all_goals
                      first
                        | (refine Calm.skip ?_ ?_; focus rfl)
                        | (refine Calm.pure (v := ?_) (by rfl) ?_ ?_
                           rotate_left
                           focus (intro w hSw; go_simp <;> rfl))
                      simp only [Act.put, List.setIfInBounds_toArray, List.set_cons_zero, List.set_cons_succ]
                    all_goals
                      first
                        | (refine Calm.skip ?_ ?_; focus rfl)
                        | (refine Calm.pure (v := ?_) (by rfl) ?_ ?_
                           rotate_left
                           focus (intro w hSw; go_simp <;> rfl))
                      simp only [Act.put, List.setIfInBounds_toArray, List.set_cons_zero, List.set_cons_succ]
                    all_goals
                      first
                        | (refine Calm.skip ?_ ?_; focus rfl)
                        | (refine Calm.pure (v := ?_) (by rfl) ?_ ?_
                           rotate_left
                           focus (intro w hSw; go_simp <;> rfl))
                      simp only [Act.put, List.setIfInBounds_toArray, List.set_cons_zero, List.set_cons_succ]
                    all_goals
                      first
                        | (refine Calm.skip ?_ ?_; focus rfl)
                        | (refine Calm.pure (v := ?_) (by rfl) ?_ ?_
                           rotate_left
                           focus (intro w hSw; go_simp <;> rfl))
                      simp only [Act.put, List.setIfInBounds_toArray, List.set_cons_zero, List.set_cons_succ]
                    all_goals
                      first
                        | (refine Calm.skip ?_ ?_; focus rfl)
                        | (refine Calm.pure (v := ?_) (by rfl) ?_ ?_
                           rotate_left
                           focus (intro w hSw; go_simp <;> rfl))
                      simp only [Act.put, List.setIfInBounds_toArray, List.set_cons_zero, List.set_cons_succ]
                    all_goals
                      refine Calm.pure (v := ?_) (by rfl) ?_ ?_
                      rotate_left
                      focus (intro w hSw; go_simp <;> rfl)
                      simp only [Act.put, List.setIfInBounds_toArray, List.set_cons_zero, List.set_cons_succ]
                    all_goals
                      rintro w9 ⟨R09, _, _, hbel9⟩
                    go_wp2_with fail
                    go_ret
                    exact ⟨rfl, hbel9⟩
                  · have HIB : Hid (ib y = true) := by
                      show _ = _
                      unfold ib
                      rw [HY1.out, decide_eq_true hyx]
                      rw [decide_eq_true (Nat.pos_of_ne_zero hy0)]; simp
                    rcases Nat.eq_zero_or_pos k with rfl | hpos
                    · have HV2 : Hid (∀ i (h : i < l.length), i < 0 + 1 → okb l i h = true) := fun i h hi => by
                        obtain rfl : i = 0 := by omega
                        rw [HO0.out, HIB.out]
                        rfl
                      clear hd HV HO0 HZ2
                      have hs : Calm.Stays (fun w' => Rw w' w.heap.size 27 (cvc 4 0 (.slice pa 0 ca') (.slice pw 0 cw) (.slice (some ⟨g, o, none⟩) l.length cm) (.slice pe 0 ce)) ∧ Rw w' wr.heap.size 41 #[.string y.x, .bool false, .slice py y.ms.length cy] ∧ MHas w' (.slice py y.ms.length cy) y.ms ∧ Below w.heap.size w w') := fun wa wb h hb => ⟨h.1.later hb, h.2.1.later hb, h.2.2.1.later hb, below_on h.2.2.2 hb⟩
                      refine Calm.region (by kernel_rfl) (by kernel_rfl) (fun w' => Rw w' w.heap.size 27 (cvc 4 0 (.slice pa 0 ca') (.slice pw 0 cw) (.slice (some ⟨g, o, none⟩) l.length cm) (.slice pe 0 ce)) ∧ Rw w' wr.heap.size 41 #[.string y.x, .bool false, .slice py y.ms.length cy] ∧ MHas w' (.slice py y.ms.length cy) y.ms ∧ Below w.heap.size w w') ⟨R0, RB, hyk, hbel.drew⟩ ?_
                      all_goals
                        refine Calm.pure (v := ?_) (by rfl) ?_ ?_
                        rotate_left
                        focus (intro w hSw; go_simp <;> rfl)
                        simp only [Act.put, List.setIfInBounds_toArray, List.set_cons_zero, List.set_cons_succ]
                      all_goals
                        refine Calm.pure (v := ?_) (by rfl) ?_ ?_
                        rotate_left
                        focus (intro w hSw; have g1 := hSw.2.1.cell 0; simp at g1; go_simp <;> rfl)
                        simp only [Act.put, List.setIfInBounds_toArray, List.set_cons_zero, List.set_cons_succ]
                      all_goals
                        refine Calm.pure (v := ?_) (by rfl) ?_ ?_
                        rotate_left
                        focus (intro w hSw; go_simp <;> rfl)
                        simp only [Act.put, List.setIfInBounds_toArray, List.set_cons_zero, List.set_cons_succ]
                      all_goals
                        refine Calm.pure (v := ?_) (by rfl) ?_ ?_
                        rotate_left
                        focus (intro w hSw; go_simp <;> rfl)
                        simp only [Act.put, List.setIfInBounds_toArray, List.set_cons_zero, List.set_cons_succ]
                      all_goals
                        refine Calm.pure (v := ?_) (by rfl) ?_ ?_
                        rotate_left
                        focus (intro w hSw; go_simp <;> rfl)
                        simp only [Act.put, List.setIfInBounds_toArray, List.set_cons_zero, List.set_cons_succ]
                      all_goals
                        first
                          | (refine Calm.skip ?_ ?_; focus rfl)
                          | (refine Calm.pure (v := ?_) (by rfl) ?_ ?_
                             rotate_left
                             focus (intro w hSw; go_simp <;> rfl))
                        simp only [Act.put, List.setIfInBounds_toArray, List.set_cons_zero, List.set_cons_succ]
                      all_goals
                        first
                          | (refine Calm.skip ?_ ?_; focus rfl)
                          | (refine Calm.pure (v := ?_) (by rfl) ?_ ?_
                             rotate_left
                             focus (intro w hSw; have g1 := hSw.2.1.cell 1; simp at g1; go_simp <;> rfl))
                        simp only [Act.put, List.setIfInBounds_toArray, List.set_cons_zero, List.set_cons_succ]
                      all_goals
                        first
                          | (refine Calm.skip ?_ ?_; focus rfl)
                          | (refine Calm.pure (v := ?_) (by rfl) ?_ ?_
                             rotate_left
                             focus (intro w hSw; go_simp <;> rfl))
                        simp only [Act.put, List.setIfInBounds_toArray, List.set_cons_zero, List.set_cons_succ]
                      all_goals
                        first
                          | (refine Calm.skip ?_ ?_; focus rfl)
                          | (refine Calm.pure (v := ?_) (by rfl) ?_ ?_
                             rotate_left
                             focus (intro w hSw; go_simp <;> rfl))
                        simp only [Act.put, List.setIfInBounds_toArray, List.set_cons_zero, List.set_cons_succ]
                      all_goals
                        first
                          | (refine Calm.skip ?_ ?_; focus rfl)
                          | (refine Calm.pure (v := ?_) (by rfl) ?_ ?_
                             rotate_left
                             focus (intro w hSw; go_simp <;> rfl))
                        simp only [Act.put, List.setIfInBounds_toArray, List.set_cons_zero, List.set_cons_succ]
                      all_goals
                        first
                          | (refine Calm.skip ?_ ?_; focus rfl)
                          | (refine Calm.pure (v := ?_) (by rfl) ?_ ?_
                             rotate_left
                             focus (intro w hSw; have g1 := hSw.2.1.cell 2; simp at g1; go_simp <;> rfl))
                        simp only [Act.put, List.setIfInBounds_toArray, List.set_cons_zero, List.set_cons_succ]
                      all_goals
                        first
                          | (refine Calm.skip ?_ ?_; focus rfl)
                          | (refine Calm.pure (v := ?_) (by rfl) ?_ ?_
                             rotate_left
                             focus (intro w hSw; go_simp <;> rfl))
                        simp only [Act.put, List.setIfInBounds_toArray, List.set_cons_zero, List.set_cons_succ]
                      all_goals
                        first
                          | (refine Calm.skip ?_ ?_; focus rfl)
                          | (refine Calm.pure (v := ?_) (by rfl) ?_ ?_
                             rotate_left
                             focus (intro w hSw; go_simp <;> rfl))
                        simp only [Act.put, List.setIfInBounds_toArray, List.set_cons_zero, List.set_cons_succ]
                      all_goals
                        first
                          | (refine Calm.skip ?_ ?_; focus rfl)
                          | (refine Calm.pure (v := ?_) (by rfl) ?_ ?_
                             rotate_left
                             focus (intro w hSw; go_simp <;> rfl))
                        simp only [Act.put, List.setIfInBounds_toArray, List.set_cons_zero, List.set_cons_succ]
                      all_goals
                        refine Calm.pure (v := ?_) (by rfl) ?_ ?_
                        rotate_left
                        focus (intro w hSw; go_simp <;> rfl)
                        simp only [Act.put, List.setIfInBounds_toArray, List.set_cons_zero, List.set_cons_succ]
                      all_goals
                        refine Calm.pure (v := ?_) (by rfl) ?_ ?_
                        rotate_left
                        focus (intro w hSw; go_simp <;> rfl)
                        simp only [Act.put, List.setIfInBounds_toArray, List.set_cons_zero, List.set_cons_succ]
                      all_goals
                        first
                          | (refine Calm.skip ?_ ?_; focus rfl)
                          | (refine Calm.pure (v := ?_) (by rfl) ?_ ?_
                             rotate_left
                             focus (intro w hSw; go_simp <;> rfl))
                        simp only [Act.put, List.setIfInBounds_toArray, List.set_cons_zero, List.set_cons_succ]
                      all_goals
                        first
                          | (refine Calm.skip ?_ ?_; focus rfl)
                          | (refine Calm.pure (v := ?_) (by rfl) ?_ ?_
                             rotate_left
                             focus (intro w hSw; have g1 := hSw.2.1.cell 2; simp at g1; go_simp <;> rfl))
                        simp only [Act.put, List.setIfInBounds_toArray, List.set_cons_zero, List.set_cons_succ]
                      all_goals
                        first
                          | (refine Calm.skip ?_ ?_; focus rfl)
                          | (refine Calm.call1s (by rfl) rfl rfl (by kernel_rfl) hs (fun w1 h => C1 w1 h.2.2.1) ?_)
                        simp only [Act.put, List.setIfInBounds_toArray, List.set_cons_zero, List.set_cons_succ]
                      all_goals
                        first
                          | (refine Calm.skip ?_ ?_; focus rfl)
                          | (refine Calm.pure (v := ?_) (by rfl) ?_ ?_
                             rotate_left
                             focus (intro w hSw; go_simp <;> rfl))
                        simp only [Act.put, List.setIfInBounds_toArray, List.set_cons_zero, List.set_cons_succ]
                      all_goals
                        refine Calm.pure (v := ?_) (by rfl) ?_ ?_
                        rotate_left
                        focus (intro w hSw; go_simp <;> rfl)
                        simp only [Act.put, List.setIfInBounds_toArray, List.set_cons_zero, List.set_cons_succ]
                      all_goals
                        refine Calm.pure (v := ?_) (by rfl) ?_ ?_
                        rotate_left
                        focus (intro w hSw; go_simp <;> rfl)
                        simp only [Act.put, List.setIfInBounds_toArray, List.set_cons_zero, List.set_cons_succ]
                      all_goals
                        first
                          | (refine Calm.skip ?_ ?_; focus rfl)
                          | (refine Calm.pure (v := ?_) (by rfl) ?_ ?_
                             rotate_left
                             focus (intro w hSw; go_simp <;> rfl))
                        simp only [Act.put, List.setIfInBounds_toArray, List.set_cons_zero, List.set_cons_succ]
                      all_goals
                        first
                          | (refine Calm.skip ?_ ?_; focus rfl)
                          | (refine Calm.pure (v := ?_) (by rfl) ?_ ?_
                             rotate_left
                             focus (intro w hSw; go_simp <;> rfl))
                        simp only [Act.put, List.setIfInBounds_toArray, List.set_cons_zero, List.set_cons_succ]
                      all_goals
                        first
                          | (refine Calm.skip ?_ ?_; focus rfl)
                          | (refine Calm.pure (v := ?_) (by rfl) ?_ ?_
                             rotate_left
                             focus (intro w hSw; go_simp <;> rfl))
                        simp only [Act.put, List.setIfInBounds_toArray, List.set_cons_zero, List.set_cons_succ]
                      all_goals
                        first
                          | (refine Calm.skip ?_ ?_; focus rfl)
                          | (refine Calm.pure (v := ?_) (by rfl) ?_ ?_
                             rotate_left
                             focus (intro w hSw; go_simp <;> rfl))
                        simp only [Act.put, List.setIfInBounds_toArray, List.set_cons_zero, List.set_cons_succ]
                      all_goals
                        first
                          | (refine Calm.skip ?_ ?_; focus rfl)
                          | (refine Calm.pure (v := ?_) (by rfl) ?_ ?_
                             rotate_left
                             focus (intro w hSw; have g1 := hSw.2.1.cell 0; simp at g1; go_simp <;> rfl))
                        simp only [Act.put, List.setIfInBounds_toArray, List.set_cons_zero, List.set_cons_succ]
                      all_goals
                        first
                          | (refine Calm.skip ?_ ?_; focus rfl)
                          | (refine Calm.pure (v := ?_) (by rfl) ?_ ?_
                             rotate_left
                             focus (intro w hSw; go_simp <;> rfl))
                        simp only [Act.put, List.setIfInBounds_toArray, List.set_cons_zero, List.set_cons_succ]
                      all_goals
                        first
                          | (refine Calm.skip ?_ ?_; focus rfl)
                          | (refine Calm.pure (v := ?_) (by rfl) ?_ ?_
                             rotate_left
                             focus (intro w hSw; have g1 := hSw.1.cell 4; simp at g1; go_simp <;> rfl))
                        simp only [Act.put, List.setIfInBounds_toArray, List.set_cons_zero, List.set_cons_succ]
                      all_goals
                        first
                          | (refine Calm.skip ?_ ?_; focus rfl)
                          | (refine Calm.pure (v := ?_) (by rfl) ?_ ?_
                             rotate_left
                             focus (intro w hSw; go_simp <;> rfl))
                        simp only [Act.put, List.setIfInBounds_toArray, List.set_cons_zero, List.set_cons_succ]
                      all_goals
                        first
                          | (refine Calm.skip ?_ ?_; focus rfl)
                          | (refine Calm.pure (v := ?_) (by rfl) ?_ ?_
                             rotate_left
                             focus (intro w hSw; go_simp <;> rfl))
                        simp only [Act.put, List.setIfInBounds_toArray, List.set_cons_zero, List.set_cons_succ]
                      all_goals
                        first
                          | (refine Calm.skip ?_ ?_; focus rfl)
                          | (refine Calm.pure (v := ?_) (by rfl) ?_ ?_
                             rotate_left
                             focus (intro w hSw; go_simp <;> rfl))
                        simp only [Act.put, List.setIfInBounds_toArray, List.set_cons_zero, List.set_cons_succ]
                      all_goals
                        first
                          | (refine Calm.skip ?_ ?_; focus rfl)
                          | (refine Calm.pure (v := ?_) (by rfl) ?_ ?_
                             rotate_left
                             focus (intro w hSw; go_simp <;> rfl))
                        simp only [Act.put, List.setIfInBounds_toArray, List.set_cons_zero, List.set_cons_succ]
                      all_goals
                        first
                          | (refine Calm.skip ?_ ?_; focus rfl)
                          | (refine Calm.pure (v := ?_) (by rfl) ?_ ?_
                             rotate_left
                             focus (intro w hSw; go_simp <;> rfl))
                        simp only [Act.put, List.setIfInBounds_toArray, List.set_cons_zero, List.set_cons_succ]
                      all_goals
                        first
                          | (refine Calm.skip ?_ ?_; focus rfl)
                          | (refine Calm.pure (v := ?_) (by rfl) ?_ ?_
                             rotate_left
                             focus (intro w hSw; go_simp <;> rfl))
                        simp only [Act.put, List.setIfInBounds_toArray, List.set_cons_zero, List.set_cons_succ]
                      all_goals
                        first
                          | (refine Calm.skip ?_ ?_; focus rfl)
                          | (refine Calm.pure (v := ?_) (by rfl) ?_ ?_
                             rotate_left
                             focus (intro w hSw; go_simp <;> rfl))
                        simp only [Act.put, List.setIfInBounds_toArray, List.set_cons_zero, List.set_cons_succ]
                      all_goals
                        refine Calm.pure (v := ?_) (by rfl) ?_ ?_
                        rotate_left
                        focus (intro w hSw; go_simp <;> rfl)
                        simp only [Act.put, List.setIfInBounds_toArray, List.set_cons_zero, List.set_cons_succ]
                      all_goals
                        rintro w9 ⟨R09, _, _, hbel9⟩
                      go_wp2_with fail
                      go_roundw
                      case rel => exact ⟨0 + 1, by simp, by omega, R09, HV2, hbel9⟩
                      case measure => simp [intOf]; omega
                    · obtain ⟨m, rfl⟩ : ∃ m, k = m + 1 := ⟨k - 1, by omega⟩
                      have d2 := range_later (Mb.elem hd m (by omega)) hba 0 _ rfl
                      obtain ⟨yp, HP⟩ := hid_ex (l[m]'(by omega))
                      rw [HL.out m (by omega) (by omega), HP.out] at d2
                      replace d2 : wx.cell? ⟨g, o + m * 3, none⟩ = some (.string yp.x) := d2
                      have HO : Hid (okb l (m + 1) hlt = tlt yp y) := by
                        show _ = _
                        rw [HO0.out, HIB.out]
                        simp only [Nat.add_sub_cancel]
                        rw [HP.out]
                        simp
                      obtain ⟨y2, HY2⟩ := hid_ex (tlt yp y)
                      rw [HY2.out] at HO
                      have E1 : (Op.bytesLess y.x.toList yp.x.toList || y.x.toList == yp.x.toList) = !y2 := by rw [← HY2.out]; exact leq_str yp.x y.x
                      have hw1 : IntKind.i64.wrap (m : Int) = (m : Int) := by rw [IntKind.wrap_i64]; omega
                      have hml2 : (m : Int) < (l.length : Int) := by omega
                      clear hd HO0 HIB
                      cases y2
                      · have HF := cb_not HZ2 hlt HO.out
                        have e := HF.out
                        subst e
                        clear HZ2 HF HV
                        have hs : Calm.Stays (fun w' => Rw w' w.heap.size 27 (cvc 4 0 (.slice pa 0 ca') (.slice pw 0 cw) (.slice (some ⟨g, o, none⟩) l.length cm) (.slice pe 0 ce)) ∧ Rw w' wr.heap.size 41 #[.string y.x, .bool false, .slice py y.ms.length cy] ∧ MHas w' (.slice py y.ms.length cy) y.ms ∧ w'.cell? ⟨g, o + m * 3, none⟩ = some (.string yp.x) ∧ Below w.heap.size w w') := fun wa wb h hb => ⟨h.1.later hb, h.2.1.later hb, h.2.2.1.later hb, cell_later hb h.2.2.2.1, below_on h.2.2.2.2 hb⟩
                        refine Calm.region (by kernel_rfl) (by kernel_rfl) (fun w' => Rw w' w.heap.size 27 (cvc 4 0 (.slice pa 0 ca') (.slice pw 0 cw) (.slice (some ⟨g, o, none⟩) l.length cm) (.slice pe 0 ce)) ∧ Rw w' wr.heap.size 41 #[.string y.x, .bool false, .slice py y.ms.length cy] ∧ MHas w' (.slice py y.ms.length cy) y.ms ∧ w'.cell? ⟨g, o + m * 3, none⟩ = some (.string yp.x) ∧ Below w.heap.size w w') ⟨R0, RB, hyk, d2, hbel.drew⟩ ?_
                        all_goals
                          refine Calm.pure (v := ?_) (by rfl) ?_ ?_
                          rotate_left
                          focus (intro w hSw; go_simp <;> rfl)
                          simp only [Act.put, List.setIfInBounds_toArray, List.set_cons_zero, List.set_cons_succ]
                        all_goals
                          refine Calm.pure (v := ?_) (by rfl) ?_ ?_
                          rotate_left
                          focus (intro w hSw; have g1 := hSw.2.1.cell 0; simp at g1; go_simp <;> rfl)
                          simp only [Act.put, List.setIfInBounds_toArray, List.set_cons_zero, List.set_cons_succ]
                        all_goals
                          refine Calm.pure (v := ?_) (by rfl) ?_ ?_
                          rotate_left
                          focus (intro w hSw; go_simp <;> rfl)
                          simp only [Act.put, List.setIfInBounds_toArray, List.set_cons_zero, List.set_cons_succ]
                        all_goals
                          refine Calm.pure (v := ?_) (by rfl) ?_ ?_
                          rotate_left
                          focus (intro w hSw; go_simp <;> rfl)
                          simp only [Act.put, List.setIfInBounds_toArray, List.set_cons_zero, List.set_cons_succ]
                        all_goals
                          refine Calm.pure (v := ?_) (by rfl) ?_ ?_
                          rotate_left
                          focus (intro w hSw; go_simp <;> rfl)
                          simp only [Act.put, List.setIfInBounds_toArray, List.set_cons_zero, List.set_cons_succ]
                        all_goals
                          first
                            | (refine Calm.skip ?_ ?_; focus rfl)
                            | (refine Calm.pure (v := ?_) (by rfl) ?_ ?_
                               rotate_left
                               focus (intro w hSw; go_simp <;> rfl))
                          simp only [Act.put, List.setIfInBounds_toArray, List.set_cons_zero, List.set_cons_succ]
                        all_goals
                          first
                            | (refine Calm.skip ?_ ?_; focus rfl)
                            | (refine Calm.pure (v := ?_) (by rfl) ?_ ?_
                               rotate_left
                               focus (intro w hSw; have g1 := hSw.2.1.cell 1; simp at g1; go_simp <;> rfl))
                          simp only [Act.put, List.setIfInBounds_toArray, List.set_cons_zero, List.set_cons_succ]
                        all_goals
                          first
                            | (refine Calm.skip ?_ ?_; focus rfl)
                            | (refine Calm.pure (v := ?_) (by rfl) ?_ ?_
                               rotate_left
                               focus (intro w hSw; go_simp <;> rfl))
                          simp only [Act.put, List.setIfInBounds_toArray, List.set_cons_zero, List.set_cons_succ]
                        all_goals
                          first
                            | (refine Calm.skip ?_ ?_; focus rfl)
                            | (refine Calm.pure (v := ?_) (by rfl) ?_ ?_
                               rotate_left
                               focus (intro w hSw; go_simp <;> rfl))
                          simp only [Act.put, List.setIfInBounds_toArray, List.set_cons_zero, List.set_cons_succ]
                        all_goals
                          first
                            | (refine Calm.skip ?_ ?_; focus rfl)
                            | (refine Calm.pure (v := ?_) (by rfl) ?_ ?_
                               rotate_left
                               focus (intro w hSw; go_simp <;> rfl))
                          simp only [Act.put, List.setIfInBounds_toArray, List.set_cons_zero, List.set_cons_succ]
                        all_goals
                          first
                            | (refine Calm.skip ?_ ?_; focus rfl)
                            | (refine Calm.pure (v := ?_) (by rfl) ?_ ?_
                               rotate_left
                               focus (intro w hSw; have g1 := hSw.2.1.cell 2; simp at g1; go_simp <;> rfl))
                          simp only [Act.put, List.setIfInBounds_toArray, List.set_cons_zero, List.set_cons_succ]
                        all_goals
                          first
                            | (refine Calm.skip ?_ ?_; focus rfl)
                            | (refine Calm.pure (v := ?_) (by rfl) ?_ ?_
                               rotate_left
                               focus (intro w hSw; go_simp <;> rfl))
                          simp only [Act.put, List.setIfInBounds_toArray, List.set_cons_zero, List.set_cons_succ]
                        all_goals
                          first
                            | (refine Calm.skip ?_ ?_; focus rfl)
                            | (refine Calm.pure (v := ?_) (by rfl) ?_ ?_
                               rotate_left
                               focus (intro w hSw; go_simp <;> rfl))
                          simp only [Act.put, List.setIfInBounds_toArray, List.set_cons_zero, List.set_cons_succ]
                        all_goals
                          first
                            | (refine Calm.skip ?_ ?_; focus rfl)
                            | (refine Calm.pure (v := ?_) (by rfl) ?_ ?_
                               rotate_left
                               focus (intro w hSw; go_simp <;> rfl))
                          simp only [Act.put, List.setIfInBounds_toArray, List.set_cons_zero, List.set_cons_succ]
                        all_goals
                          refine Calm.pure (v := ?_) (by rfl) ?_ ?_
                          rotate_left
                          focus (intro w hSw; go_simp <;> rfl)
                          simp only [Act.put, List.setIfInBounds_toArray, List.set_cons_zero, List.set_cons_succ]
                        all_goals
                          refine Calm.pure (v := ?_) (by rfl) ?_ ?_
                          rotate_left
                          focus (intro w hSw; go_simp <;> rfl)
                          simp only [Act.put, List.setIfInBounds_toArray, List.set_cons_zero, List.set_cons_succ]
                        all_goals
                          first
                            | (refine Calm.skip ?_ ?_; focus rfl)
                            | (refine Calm.pure (v := ?_) (by rfl) ?_ ?_
                               rotate_left
                               focus (intro w hSw; go_simp <;> rfl))
                          simp only [Act.put, List.setIfInBounds_toArray, List.set_cons_zero, List.set_cons_succ]
                        all_goals
                          first
                            | (refine Calm.skip ?_ ?_; focus rfl)
                            | (refine Calm.pure (v := ?_) (by rfl) ?_ ?_
                               rotate_left
                               focus (intro w hSw; have g1 := hSw.2.1.cell 2; simp at g1; go_simp <;> rfl))
                          simp only [Act.put, List.setIfInBounds_toArray, List.set_cons_zero, List.set_cons_succ]
                        all_goals
                          first
                            | (refine Calm.skip ?_ ?_; focus rfl)
                            | (refine Calm.call1s (by rfl) rfl rfl (by kernel_rfl) hs (fun w1 h => C1 w1 h.2.2.1) ?_)
                          simp only [Act.put, List.setIfInBounds_toArray, List.set_cons_zero, List.set_cons_succ]
                        all_goals
                          first
                            | (refine Calm.skip ?_ ?_; focus rfl)
                            | (refine Calm.pure (v := ?_) (by rfl) ?_ ?_
                               rotate_left
                               focus (intro w hSw; go_simp <;> rfl))
                          simp only [Act.put, List.setIfInBounds_toArray, List.set_cons_zero, List.set_cons_succ]
                        all_goals
                          refine Calm.pure (v := ?_) (by rfl) ?_ ?_
                          rotate_left
                          focus (intro w hSw; go_simp <;> rfl)
                          simp only [Act.put, List.setIfInBounds_toArray, List.set_cons_zero, List.set_cons_succ]
                        all_goals
                          refine Calm.pure (v := ?_) (by rfl) ?_ ?_
                          rotate_left
                          focus (intro w hSw; go_simp <;> rfl)
                          simp only [Act.put, List.setIfInBounds_toArray, List.set_cons_zero, List.set_cons_succ]
                        all_goals
                          first
                            | (refine Calm.skip ?_ ?_; focus rfl)
                            | (refine Calm.pure (v := ?_) (by rfl) ?_ ?_
                               rotate_left
                               focus (intro w hSw; go_simp <;> rfl))
                          simp only [Act.put, List.setIfInBounds_toArray, List.set_cons_zero, List.set_cons_succ]
                        all_goals
                          first
                            | (refine Calm.skip ?_ ?_; focus rfl)
                            | (refine Calm.pure (v := ?_) (by rfl) ?_ ?_
                               rotate_left
                               focus (intro w hSw; go_simp <;> rfl))
                          simp only [Act.put, List.setIfInBounds_toArray, List.set_cons_zero, List.set_cons_succ]
                        all_goals
                          first
                            | (refine Calm.skip ?_ ?_; focus rfl)
                            | (refine Calm.pure (v := ?_) (by rfl) ?_ ?_
                               rotate_left
                               focus (intro w hSw; go_simp <;> rfl))
                          simp only [Act.put, List.setIfInBounds_toArray, List.set_cons_zero, List.set_cons_succ]
                        all_goals
                          first
                            | (refine Calm.skip ?_ ?_; focus rfl)
                            | (refine Calm.pure (v := ?_) (by rfl) ?_ ?_
                               rotate_left
                               focus (intro w hSw; go_simp <;> rfl))
                          simp only [Act.put, List.setIfInBounds_toArray, List.set_cons_zero, List.set_cons_succ]
                        all_goals
                          first
                            | (refine Calm.skip ?_ ?_; focus rfl)
                            | (refine Calm.pure (v := ?_) (by rfl) ?_ ?_
                               rotate_left
                               focus (intro w hSw; have g1 := hSw.2.1.cell 0; simp at g1; go_simp <;> rfl))
                          simp only [Act.put, List.setIfInBounds_toArray, List.set_cons_zero, List.set_cons_succ]
                        all_goals
                          first
                            | (refine Calm.skip ?_ ?_; focus rfl)
                            | (refine Calm.pure (v := ?_) (by rfl) ?_ ?_
                               rotate_left
                               focus (intro w hSw; go_simp <;> rfl))
                          simp only [Act.put, List.setIfInBounds_toArray, List.set_cons_zero, List.set_cons_succ]
                        all_goals
                          first
                            | (refine Calm.skip ?_ ?_; focus rfl)
                            | (refine Calm.pure (v := ?_) (by rfl) ?_ ?_
                               rotate_left
                               focus (intro w hSw; have g1 := hSw.1.cell 4; simp at g1; go_simp <;> rfl))
                          simp only [Act.put, List.setIfInBounds_toArray, List.set_cons_zero, List.set_cons_succ]
                        all_goals
                          first
                            | (refine Calm.skip ?_ ?_; focus rfl)
                            | (refine Calm.pure (v := ?_) (by rfl) ?_ ?_
                               rotate_left
                               focus (intro w hSw; go_simp <;> rfl))
                          simp only [Act.put, List.setIfInBounds_toArray, List.set_cons_zero, List.set_cons_succ]
                        all_goals
                          first
                            | (refine Calm.skip ?_ ?_; focus rfl)
                            | (refine Calm.pure (v := ?_) (by rfl) ?_ ?_
                               rotate_left
                               focus (intro w hSw; go_simp <;> rfl))
                          simp only [Act.put, List.setIfInBounds_toArray, List.set_cons_zero, List.set_cons_succ]
                        all_goals
                          first
                            | (refine Calm.skip ?_ ?_; focus rfl)
                            | (refine Calm.pure (v := ?_) (by rfl) ?_ ?_
                               rotate_left
                               focus (intro w hSw; go_simp <;> rfl))
                          simp only [Act.put, List.setIfInBounds_toArray, List.set_cons_zero, List.set_cons_succ]
                        all_goals
                          first
                            | (refine Calm.skip ?_ ?_; focus rfl)
                            | (refine Calm.pure (v := ?_) (by rfl) ?_ ?_
                               rotate_left
                               focus (intro w hSw; go_simp <;> rfl))
                          simp only [Act.put, List.setIfInBounds_toArray, List.set_cons_zero, List.set_cons_succ]
                        all_goals
                          first
                            | (refine Calm.skip ?_ ?_; focus rfl)
                            | (refine Calm.pure (v := ?_) (by rfl) ?_ ?_
                               rotate_left
                               focus (intro w hSw; have g1 : w.cell? ⟨g, o + m * 3, none⟩ = some (.string yp.x) := hSw.2.2.2.1; go_simp <;> rfl))
                          simp only [Act.put, List.setIfInBounds_toArray, List.set_cons_zero, List.set_cons_succ]
                        all_goals
                          first
                            | (refine Calm.skip ?_ ?_; focus rfl)
                            | (refine Calm.pure (v := ?_) (by rfl) ?_ ?_
                               rotate_left
                               focus (intro w hSw; go_simp <;> rfl))
                          simp only [Act.put, List.setIfInBounds_toArray, List.set_cons_zero, List.set_cons_succ]
                        all_goals
                          first
                            | (refine Calm.skip ?_ ?_; focus rfl)
                            | (refine Calm.pure (v := ?_) (by rfl) ?_ ?_
                               rotate_left
                               focus (intro w hSw; go_simp <;> rfl))
                          simp only [Act.put, List.setIfInBounds_toArray, List.set_cons_zero, List.set_cons_succ]
                        all_goals
                          refine Calm.pure (v := ?_) (by rfl) ?_ ?_
                          rotate_left
                          focus (intro w hSw; go_simp <;> rfl)
                          simp only [Act.put, List.setIfInBounds_toArray, List.set_cons_zero, List.set_cons_succ]
                        all_goals
                          rintro w9 ⟨R09, _, _, _, hbel9⟩
                        go_wp2_with fail
                        go_ret
                        exact ⟨rfl, hbel9⟩
                      · have HV2 : Hid (∀ i (h : i < l.length), i < m + 1 + 1 → okb l i h = true) := fun i h hi => by
                          rcases Nat.lt_or_ge i (m + 1) with h' | h'
                          · exact HV.out i h h'
                          · obtain rfl : i = m + 1 := by omega
                            exact HO.out
                        clear HV HO HZ2
                        have hs : Calm.Stays (fun w' => Rw w' w.heap.size 27 (cvc 4 0 (.slice pa 0 ca') (.slice pw 0 cw) (.slice (some ⟨g, o, none⟩) l.length cm) (.slice pe 0 ce)) ∧ Rw w' wr.heap.size 41 #[.string y.x, .bool false, .slice py y.ms.length cy] ∧ MHas w' (.slice py y.ms.length cy) y.ms ∧ w'.cell? ⟨g, o + m * 3, none⟩ = some (.string yp.x) ∧ Below w.heap.size w w') := fun wa wb h hb => ⟨h.1.later hb, h.2.1.later hb, h.2.2.1.later hb, cell_later hb h.2.2.2.1, below_on h.2.2.2.2 hb⟩
                        refine Calm.region (by kernel_rfl) (by kernel_rfl) (fun w' => Rw w' w.heap.size 27 (cvc 4 0 (.slice pa 0 ca') (.slice pw 0 cw) (.slice (some ⟨g, o, none⟩) l.length cm) (.slice pe 0 ce)) ∧ Rw w' wr.heap.size 41 #[.string y.x, .bool false, .slice py y.ms.length cy] ∧ MHas w' (.slice py y.ms.length cy) y.ms ∧ w'.cell? ⟨g, o + m * 3, none⟩ = some (.string yp.x) ∧ Below w.heap.size w w') ⟨R0, RB, hyk, d2, hbel.drew⟩ ?_
                        all_goals
                          refine Calm.pure (v := ?_) (by rfl) ?_ ?_
                          rotate_left
                          focus (intro w hSw; go_simp <;> rfl)
                          simp only [Act.put, List.setIfInBounds_toArray, List.set_cons_zero, List.set_cons_succ]
                        all_goals
                          refine Calm.pure (v := ?_) (by rfl) ?_ ?_
                          rotate_left
                          focus (intro w hSw; have g1 := hSw.2.1.cell 0; simp at g1; go_simp <;> rfl)
                          simp only [Act.put, List.setIfInBounds_toArray, List.set_cons_zero, List.set_cons_succ]
                        all_goals
                          refine Calm.pure (v := ?_) (by rfl) ?_ ?_
                          rotate_left
                          focus (intro w hSw; go_simp <;> rfl)
                          simp only [Act.put, List.setIfInBounds_toArray, List.set_cons_zero, List.set_cons_succ]
                        all_goals
                          refine Calm.pure (v := ?_) (by rfl) ?_ ?_
                          rotate_left
                          focus (intro w hSw; go_simp <;> rfl)
                          simp only [Act.put, List.setIfInBounds_toArray, List.set_cons_zero, List.set_cons_succ]
                        all_goals
                          refine Calm.pure (v := ?_) (by rfl) ?_ ?_
                          rotate_left
                          focus (intro w hSw; go_simp <;> rfl)
                          simp only [Act.put, List.setIfInBounds_toArray, List.set_cons_zero, List.set_cons_succ]
                        all_goals
                          first
                            | (refine Calm.skip ?_ ?_; focus rfl)
                            | (refine Calm.pure (v := ?_) (by rfl) ?_ ?_
                               rotate_left
                               focus (intro w hSw; go_simp <;> rfl))
                          simp only [Act.put, List.setIfInBounds_toArray, List.set_cons_zero, List.set_cons_succ]
                        all_goals
                          first
                            | (refine Calm.skip ?_ ?_; focus rfl)
                            | (refine Calm.pure (v := ?_) (by rfl) ?_ ?_
                               rotate_left
                               focus (intro w hSw; have g1 := hSw.2.1.cell 1; simp at g1; go_simp <;> rfl))
                          simp only [Act.put, List.setIfInBounds_toArray, List.set_cons_zero, List.set_cons_succ]
                        all_goals
                          first
                            | (refine Calm.skip ?_ ?_; focus rfl)
                            | (refine Calm.pure (v := ?_) (by rfl) ?_ ?_
                               rotate_left
                               focus (intro w hSw; go_simp <;> rfl))
                          simp only [Act.put, List.setIfInBounds_toArray, List.set_cons_zero, List.set_cons_succ]
                        all_goals
                          first
                            | (refine Calm.skip ?_ ?_; focus rfl)
                            | (refine Calm.pure (v := ?_) (by rfl) ?_ ?_
                               rotate_left
                               focus (intro w hSw; go_simp <;> rfl))
                          simp only [Act.put, List.setIfInBounds_toArray, List.set_cons_zero, List.set_cons_succ]
                        all_goals
                          first
                            | (refine Calm.skip ?_ ?_; focus rfl)
                            | (refine Calm.pure (v := ?_) (by rfl) ?_ ?_
                               rotate_left
                               focus (intro w hSw; go_simp <;> rfl))
                          simp only [Act.put, List.setIfInBounds_toArray, List.set_cons_zero, List.set_cons_succ]
                        all_goals
                          first
                            | (refine Calm.skip ?_ ?_; focus rfl)
                            | (refine Calm.pure (v := ?_) (by rfl) ?_ ?_
                               rotate_left
                               focus (intro w hSw; have g1 := hSw.2.1.cell 2; simp at g1; go_simp <;> rfl))
                          simp only [Act.put, List.setIfInBounds_toArray, List.set_cons_zero, List.set_cons_succ]
                        all_goals
                          first
                            | (refine Calm.skip ?_ ?_; focus rfl)
                            | (refine Calm.pure (v := ?_) (by rfl) ?_ ?_
                               rotate_left
                               focus (intro w hSw; go_simp <;> rfl))
                          simp only [Act.put, List.setIfInBounds_toArray, List.set_cons_zero, List.set_cons_succ]
                        all_goals
                          first
                            | (refine Calm.skip ?_ ?_; focus rfl)
                            | (refine Calm.pure (v := ?_) (by rfl) ?_ ?_
                               rotate_left
                               focus (intro w hSw; go_simp <;> rfl))
                          simp only [Act.put, List.setIfInBounds_toArray, List.set_cons_zero, List.set_cons_succ]
                        all_goals
                          first
                            | (refine Calm.skip ?_ ?_; focus rfl)
                            | (refine Calm.pure (v := ?_) (by rfl) ?_ ?_
                               rotate_left
                               focus (intro w hSw; go_simp <;> rfl))
                          simp only [Act.put, List.setIfInBounds_toArray, List.set_cons_zero, List.set_cons_succ]
                        all_goals
                          refine Calm.pure (v := ?_) (by rfl) ?_ ?_
                          rotate_left
                          focus (intro w hSw; go_simp <;> rfl)
                          simp only [Act.put, List.setIfInBounds_toArray, List.set_cons_zero, List.set_cons_succ]
                        all_goals
                          refine Calm.pure (v := ?_) (by rfl) ?_ ?_
                          rotate_left
                          focus (intro w hSw; go_simp <;> rfl)
                          simp only [Act.put, List.setIfInBounds_toArray, List.set_cons_zero, List.set_cons_succ]
                        all_goals
                          first
                            | (refine Calm.skip ?_ ?_; focus rfl)
                            | (refine Calm.pure (v := ?_) (by rfl) ?_ ?_
                               rotate_left
                               focus (intro w hSw; go_simp <;> rfl))
                          simp only [Act.put, List.setIfInBounds_toArray, List.set_cons_zero, List.set_cons_succ]
                        all_goals
                          first
                            | (refine Calm.skip ?_ ?_; focus rfl)
                            | (refine Calm.pure (v := ?_) (by rfl) ?_ ?_
                               rotate_left
                               focus (intro w hSw; have g1 := hSw.2.1.cell 2; simp at g1; go_simp <;> rfl))
                          simp only [Act.put, List.setIfInBounds_toArray, List.set_cons_zero, List.set_cons_succ]
                        all_goals
                          first
                            | (refine Calm.skip ?_ ?_; focus rfl)
                            | (refine Calm.call1s (by rfl) rfl rfl (by kernel_rfl) hs (fun w1 h => C1 w1 h.2.2.1) ?_)
                          simp only [Act.put, List.setIfInBounds_toArray, List.set_cons_zero, List.set_cons_succ]
                        all_goals
                          first
                            | (refine Calm.skip ?_ ?_; focus rfl)
                            | (refine Calm.pure (v := ?_) (by rfl) ?_ ?_
                               rotate_left
                               focus (intro w hSw; go_simp <;> rfl))
                          simp only [Act.put, List.setIfInBounds_toArray, List.set_cons_zero, List.set_cons_succ]
                        all_goals
                          refine Calm.pure (v := ?_) (by rfl) ?_ ?_
                          rotate_left
                          focus (intro w hSw; go_simp <;> rfl)
                          simp only [Act.put, List.setIfInBounds_toArray, List.set_cons_zero, List.set_cons_succ]
                        all_goals
                          refine Calm.pure (v := ?_) (by rfl) ?_ ?_
                          rotate_left
                          focus (intro w hSw; go_simp <;> rfl)
                          simp only [Act.put, List.setIfInBounds_toArray, List.set_cons_zero, List.set_cons_succ]
                        all_goals
                          first
                            | (refine Calm.skip ?_ ?_; focus rfl)
                            | (refine Calm.pure (v := ?_) (by rfl) ?_ ?_
                               rotate_left
                               focus (intro w hSw; go_simp <;> rfl))
                          simp only [Act.put, List.setIfInBounds_toArray, List.set_cons_zero, List.set_cons_succ]
                        all_goals
                          first
                            | (refine Calm.skip ?_ ?_; focus rfl)
                            | (refine Calm.pure (v := ?_) (by rfl) ?_ ?_
                               rotate_left
                               focus (intro w hSw; go_simp <;> rfl))
                          simp only [Act.put, List.setIfInBounds_toArray, List.set_cons_zero, List.set_cons_succ]
                        all_goals
                          first
                            | (refine Calm.skip ?_ ?_; focus rfl)
                            | (refine Calm.pure (v := ?_) (by rfl) ?_ ?_
                               rotate_left
                               focus (intro w hSw; go_simp <;> rfl))
                          simp only [Act.put, List.setIfInBounds_toArray, List.set_cons_zero, List.set_cons_succ]
                        all_goals
                          first
                            | (refine Calm.skip ?_ ?_; focus rfl)
                            | (refine Calm.pure (v := ?_) (by rfl) ?_ ?_
                               rotate_left
                               focus (intro w hSw; go_simp <;> rfl))
                          simp only [Act.put, List.setIfInBounds_toArray, List.set_cons_zero, List.set_cons_succ]
                        all_goals
                          first
                            | (refine Calm.skip ?_ ?_; focus rfl)
                            | (refine Calm.pure (v := ?_) (by rfl) ?_ ?_
                               rotate_left
                               focus (intro w hSw; have g1 := hSw.2.1.cell 0; simp at g1; go_simp <;> rfl))
                          simp only [Act.put, List.setIfInBounds_toArray, List.set_cons_zero, List.set_cons_succ]
                        all_goals
                          first
                            | (refine Calm.skip ?_ ?_; focus rfl)
                            | (refine Calm.pure (v := ?_) (by rfl) ?_ ?_
                               rotate_left
                               focus (intro w hSw; go_simp <;> rfl))
                          simp only [Act.put, List.setIfInBounds_toArray, List.set_cons_zero, List.set_cons_succ]
                        all_goals
                          first
                            | (refine Calm.skip ?_ ?_; focus rfl)
                            | (refine Calm.pure (v := ?_) (by rfl) ?_ ?_
                               rotate_left
                               focus (intro w hSw; have g1 := hSw.1.cell 4; simp at g1; go_simp <;> rfl))
                          simp only [Act.put, List.setIfInBounds_toArray, List.set_cons_zero, List.set_cons_succ]
                        all_goals
                          first
                            | (refine Calm.skip ?_ ?_; focus rfl)
                            | (refine Calm.pure (v := ?_) (by rfl) ?_ ?_
                               rotate_left
                               focus (intro w hSw; go_simp <;> rfl))
                          simp only [Act.put, List.setIfInBounds_toArray, List.set_cons_zero, List.set_cons_succ]
                        all_goals
                          first
                            | (refine Calm.skip ?_ ?_; focus rfl)
                            | (refine Calm.pure (v := ?_) (by rfl) ?_ ?_
                               rotate_left
                               focus (intro w hSw; go_simp <;> rfl))
                          simp only [Act.put, List.setIfInBounds_toArray, List.set_cons_zero, List.set_cons_succ]
                        all_goals
                          first
                            | (refine Calm.skip ?_ ?_; focus rfl)
                            | (refine Calm.pure (v := ?_) (by rfl) ?_ ?_
                               rotate_left
                               focus (intro w hSw; go_simp <;> rfl))
                          simp only [Act.put, List.setIfInBounds_toArray, List.set_cons_zero, List.set_cons_succ]
                        all_goals
                          first
                            | (refine Calm.skip ?_ ?_; focus rfl)
                            | (refine Calm.pure (v := ?_) (by rfl) ?_ ?_
                               rotate_left
                               focus (intro w hSw; go_simp <;> rfl))
                          simp only [Act.put, List.setIfInBounds_toArray, List.set_cons_zero, List.set_cons_succ]
                        all_goals
                          first
                            | (refine Calm.skip ?_ ?_; focus rfl)
                            | (refine Calm.pure (v := ?_) (by rfl) ?_ ?_
                               rotate_left
                               focus (intro w hSw; have g1 : w.cell? ⟨g, o + m * 3, none⟩ = some (.string yp.x) := hSw.2.2.2.1; go_simp <;> rfl))
                          simp only [Act.put, List.setIfInBounds_toArray, List.set_cons_zero, List.set_cons_succ]
                        all_goals
                          first
                            | (refine Calm.skip ?_ ?_; focus rfl)
                            | (refine Calm.pure (v := ?_) (by rfl) ?_ ?_
                               rotate_left
                               focus (intro w hSw; go_simp <;> rfl))
                          simp only [Act.put, List.setIfInBounds_toArray, List.set_cons_zero, List.set_cons_succ]
                        all_goals
                          first
                            | (refine Calm.skip ?_ ?_; focus rfl)
                            | (refine Calm.pure (v := ?_) (by rfl) ?_ ?_
                               rotate_left
                               focus (intro w hSw; go_simp <;> rfl))
                          simp only [Act.put, List.setIfInBounds_toArray, List.set_cons_zero, List.set_cons_succ]
                        all_goals
                          refine Calm.pure (v := ?_) (by rfl) ?_ ?_
                          rotate_left
                          focus (intro w hSw; go_simp <;> rfl)
                          simp only [Act.put, List.setIfInBounds_toArray, List.set_cons_zero, List.set_cons_succ]
                        all_goals
                          rintro w9 ⟨R09, _, _, _, hbel9⟩
                        go_wp2_with fail
                        go_roundw
                        case rel => exact ⟨m + 1 + 1, by simp, by omega, R09, HV2, hbel9⟩
                        case measure => simp [intOf]; omega
              · skip
                obtain ⟨y1, HY1⟩ := hid_ex (ca y.ms)
                rw [HY1.out] at C1
                cases y1
                ·
                  have HF := cb_not HZ2 hlt (by rw [HO0.out]; unfold ib; rw [HY1.out]; simp)
                  have e := HF.out
                  subst e
                  clear HZ2 HF HV HO0
                  clear hd
                  have hs : Calm.Stays (fun w' => Rw w' w.heap.size 27 (cvc 4 0 (.slice pa 0 ca') (.slice pw 0 cw) (.slice (some ⟨g, o, none⟩) l.length cm) (.slice pe 0 ce)) ∧ Rw w' wr.heap.size 41 #[.string y.x, .bool true, .slice py y.ms.length cy] ∧ MHas w' (.slice py y.ms.length cy) y.ms ∧ Below w.heap.size w w') := fun wa wb h hb => ⟨h.1.later hb, h.2.1.later hb, h.2.2.1.later hb, below_on h.2.2.2 hb⟩
                  refine Calm.region (by kernel_rfl) (by kernel_rfl) (fun w' => Rw w' w.heap.size 27 (cvc 4 0 (.slice pa 0 ca') (.slice pw 0 cw) (.slice (some ⟨g, o, none⟩) l.length cm) (.slice pe 0 ce)) ∧ Rw w' wr.heap.size 41 #[.string y.x, .bool true, .slice py y.ms.length cy] ∧ MHas w' (.slice py y.ms.length cy) y.ms ∧ Below w.heap.size w w') ⟨R0, RB, hyk, hbel.drew⟩ ?_
                  all_goals
                    refine Calm.pure (v := ?_) (by rfl) ?_ ?_
                    rotate_left
                    focus (intro w hSw; go_simp <;> rfl)
                    simp only [Act.put, List.setIfInBounds_toArray, List.set_cons_zero, List.set_cons_succ]
                  all_goals
                    refine Calm.pure (v := ?_) (by rfl) ?_ ?_
                    rotate_left
                    focus (intro w hSw; have g1 := hSw.2.1.cell 0; simp at g1; go_simp <;> rfl)
                    simp only [Act.put, List.setIfInBounds_toArray, List.set_cons_zero, List.set_cons_succ]
                  all_goals
                    refine Calm.pure (v := ?_) (by rfl) ?_ ?_
                    rotate_left
                    focus (intro w hSw; go_simp <;> rfl)
                    simp only [Act.put, List.setIfInBounds_toArray, List.set_cons_zero, List.set_cons_succ]
                  all_goals
                    refine Calm.pure (v := ?_) (by rfl) ?_ ?_
                    rotate_left
                    focus (intro w hSw; go_simp <;> rfl)
                    simp only [Act.put, List.setIfInBounds_toArray, List.set_cons_zero, List.set_cons_succ]
                  all_goals
                    refine Calm.pure (v := ?_) (by rfl) ?_ ?_
                    rotate_left
                    focus (intro w hSw; go_simp <;> rfl)
                    simp only [Act.put, List.setIfInBounds_toArray, List.set_cons_zero, List.set_cons_succ]
                  all_goals
                    first
                      | (refine Calm.skip ?_ ?_; focus rfl)
                      | (refine Calm.pure (v := ?_) (by rfl) ?_ ?_
                         rotate_left
                         focus (intro w hSw; go_simp <;> rfl))
                    simp only [Act.put, List.setIfInBounds_toArray, List.set_cons_zero, List.set_cons_succ]
                  all_goals
                    first
                      | (refine Calm.skip ?_ ?_; focus rfl)
                      | (refine Calm.pure (v := ?_) (by rfl) ?_ ?_
                         rotate_left
                         focus (intro w hSw; have g1 := hSw.2.1.cell 1; simp at g1; go_simp <;> rfl))
                    simp only [Act.put, List.setIfInBounds_toArray, List.set_cons_zero, List.set_cons_succ]
                  all_goals
                    first
                      | (refine Calm.skip ?_ ?_; focus rfl)
                      | (refine Calm.pure (v := ?_) (by rfl) ?_ ?_
                         rotate_left
                         focus (intro w hSw; go_simp <;> rfl))
                    simp only [Act.put, List.setIfInBounds_toArray, List.set_cons_zero, List.set_cons_succ]
                  all_goals
                    first
                      | (refine Calm.skip ?_ ?_; focus rfl)
                      | (refine Calm.pure (v := ?_) (by rfl) ?_ ?_
                         rotate_left
                         focus (intro w hSw; go_simp <;> rfl))
                    simp only [Act.put, List.setIfInBounds_toArray, List.set_cons_zero, List.set_cons_succ]
                  all_goals
                    first
                      | (refine Calm.skip ?_ ?_; focus rfl)
                      | (refine Calm.pure (v := ?_) (by rfl) ?_ ?_
                         rotate_left
                         focus (intro w hSw; go_simp <;> rfl))
                    simp only [Act.put, List.setIfInBounds_toArray, List.set_cons_zero, List.set_cons_succ]
                  all_goals
                    first
                      | (refine Calm.skip ?_ ?_; focus rfl)
                      | (refine Calm.pure (v := ?_) (by rfl) ?_ ?_
                         rotate_left
                         focus (intro w hSw; have g1 := hSw.2.1.cell 2; simp at g1; go_simp <;> rfl))
                    simp only [Act.put, List.setIfInBounds_toArray, List.set_cons_zero, List.set_cons_succ]
                  all_goals
                    first
                      | (refine Calm.skip ?_ ?_; focus rfl)
                      | (refine Calm.pure (v := ?_) (by rfl) ?_ ?_
                         rotate_left
                         focus (intro w hSw; go_simp <;> rfl))
                    simp only [Act.put, List.setIfInBounds_toArray, List.set_cons_zero, List.set_cons_succ]
                  all_goals
                    first
                      | (refine Calm.skip ?_ ?_; focus rfl)
                      | (refine Calm.pure (v := ?_) (by rfl) ?_ ?_
                         rotate_left
                         focus (intro w hSw; go_simp <;> rfl))
                    simp only [Act.put, List.setIfInBounds_toArray, List.set_cons_zero, List.set_cons_succ]
                  all_goals
                    first
                      | (refine Calm.skip ?_ ?_; focus rfl)
                      | (refine Calm.pure (v := ?_) (by rfl) ?_ ?_
                         rotate_left
                         focus (intro w hSw; go_simp <;> rfl))
                    simp only [Act.put, List.setIfInBounds_toArray, List.set_cons_zero, List.set_cons_succ]
                  all_goals
                    refine Calm.pure (v := ?_) (by rfl) ?_ ?_
                    rotate_left
                    focus (intro w hSw; go_simp <;> rfl)
                    simp only [Act.put, List.setIfInBounds_toArray, List.set_cons_zero, List.set_cons_succ]
                  all_goals
                    refine Calm.pure (v := ?_) (by rfl) ?_ ?_
                    rotate_left
                    focus (intro w hSw; go_simp <;> rfl)
                    simp only [Act.put, List.setIfInBounds_toArray, List.set_cons_zero, List.set_cons_succ]
                  all_goals
                    first
                      | (refine Calm.skip ?_ ?_; focus rfl)
                      | (refine Calm.pure (v := ?_) (by rfl) ?_ ?_
                         rotate_left
                         focus (intro w hSw; go_simp <;> rfl))
                    simp only [Act.put, List.setIfInBounds_toArray, List.set_cons_zero, List.set_cons_succ]
                  all_goals
                    first
                      | (refine Calm.skip ?_ ?_; focus rfl)
                      | (refine Calm.pure (v := ?_) (by rfl) ?_ ?_
                         rotate_left
                         focus (intro w hSw; have g1 := hSw.2.1.cell 2; simp at g1; go_simp <;> rfl))
                    simp only [Act.put, List.setIfInBounds_toArray, List.set_cons_zero, List.set_cons_succ]
                  all_goals
                    first
                      | (refine Calm.skip ?_ ?_; focus rfl)
                      | (refine Calm.call1s (by rfl) rfl rfl (by kernel_rfl) hs (fun w1 h => C1 w1 h.2.2.1) ?_)
                    simp only [Act.put, List.setIfInBounds_toArray, List.set_cons_zero, List.set_cons_succ]
                  all_goals
                    first
                      | (refine Calm.skip ?_ ?_; focus rfl)
                      | (refine Calm.pure (v := ?_) (by rfl) ?_ ?_
                         rotate_left
                         focus (intro w hSw; go_simp <;> rfl))
                    simp only [Act.put, List.setIfInBounds_toArray, List.set_cons_zero, List.set_cons_succ]
                  all_goals
                    refine Calm.pure (v := ?_) (by rfl) ?_ ?_
                    rotate_left
                    focus (intro w hSw; go_simp <;> rfl)
                    simp only [Act.put, List.setIfInBounds_toArray, List.set_cons_zero, List.set_cons_succ]
                  all_goals
                    refine Calm.pure (v := ?_) (by rfl) ?_ ?_
                    rotate_left
                    focus (intro w hSw; go_simp <;> rfl)
                    simp only [Act.put, List.setIfInBounds_toArray, List.set_cons_zero, List.set_cons_succ]
                  all_goals
                    first
                      | (refine Calm.skip ?_ ?_; focus rfl)
                      | (refine Calm.pure (v := ?_) (by rfl) ?_ ?_
                         rotate_left
                         focus (intro w hSw; go_simp <;> rfl))
                    simp only [Act.put, List.setIfInBounds_toArray, List.set_cons_zero, List.set_cons_succ]
                  all_goals
                    first
                      | (refine Calm.skip ?_ ?_; focus rfl)
                      | (refine Calm.pure (v := ?_) (by rfl) ?_ ?_
                         rotate_left
                         focus (intro w hSw; go_simp <;> rfl))
                    simp only [Act.put, List.setIfInBounds_toArray, List.set_cons_zero, List.set_cons_succ]
                  all_goals
                    first
                      | (refine Calm.skip ?_ ?_; focus rfl)
                      | (refine Calm.pure (v := ?_) (by rfl) ?_ ?_
                         rotate_left
                         focus (intro w hSw; go_simp <;> rfl))
                    simp only [Act.put, List.setIfInBounds_toArray, List.set_cons_zero, List.set_cons_succ]
                  all_goals
                    first
                      | (refine Calm.skip ?_ ?_; focus rfl)
                      | (refine Calm.pure (v := ?_) (by rfl) ?_ ?_
                         rotate_left
                         focus (intro w hSw; go_simp <;> rfl))
                    simp only [Act.put, List.setIfInBounds_toArray, List.set_cons_zero, List.set_cons_succ]
                  all_goals
                    first
                      | (refine Calm.skip ?_ ?_; focus rfl)
                      | (refine Calm.pure (v := ?_) (by rfl) ?_ ?_
                         rotate_left
                         focus (intro w hSw; have g1 := hSw.2.1.cell 0; simp at g1; go_simp <;> rfl))
                    simp only [Act.put, List.setIfInBounds_toArray, List.set_cons_zero, List.set_cons_succ]
                  all_goals
                    first
                      | (refine Calm.skip ?_ ?_; focus rfl)
                      | (refine Calm.pure (v := ?_) (by rfl) ?_ ?_
                         rotate_left
                         focus (intro w hSw; go_simp <;> rfl))
                    simp only [Act.put, List.setIfInBounds_toArray, List.set_cons_zero, List.set_cons_succ]
                  all_goals
                    first
                      | (refine Calm.skip ?_ ?_; focus rfl)
                      | (refine Calm.pure (v := ?_) (by rfl) ?_ ?_
                         rotate_left
                         focus (intro w hSw; have g1 := hSw.1.cell 4; simp at g1; go_simp <;> rfl))
                    simp only [Act.put, List.setIfInBounds_toArray, List.set_cons_zero, List.set_cons_succ]
                  all_goals
                    first
                      | (refine Calm.skip ?_ ?_; focus rfl)
                      | (refine Calm.pure (v := ?_) (by rfl) ?_ ?_
                         rotate_left
                         focus (intro w hSw; go_simp <;> rfl))
                    simp only [Act.put, List.setIfInBounds_toArray, List.set_cons_zero, List.set_cons_succ]
                  all_goals
                    first
                      | (refine Calm.skip ?_ ?_; focus rfl)
                      | (refine Calm.pure (v := ?_) (by rfl) ?_ ?_
                         rotate_left
                         focus (intro w hSw; go_simp <;> rfl))
                    simp only [Act.put, List.setIfInBounds_toArray, List.set_cons_zero, List.set_cons_succ]
                  all_goals
                    first
                      | (refine Calm.skip ?_ ?_; focus rfl)
                      | (refine Calm.pure (v := ?_) (by rfl) ?_ ?_
                         rotate_left
                         focus (intro w hSw; go_simp <;> rfl))
                    simp only [Act.put, List.setIfInBounds_toArray, List.set_cons_zero, List.set_cons_succ]
                  all_goals
                    first
                      | (refine Calm.skip ?_ ?_; focus rfl)
                      | (refine Calm.pure (v := ?_) (by rfl) ?_ ?_
                         rotate_left
                         focus (intro w hSw; go_simp <;> rfl))
                    simp only [Act.put, List.setIfInBounds_toArray, List.set_cons_zero, List.set_cons_succ]
                  all_goals
                    first
                      | (refine Calm.skip ?_ ?_; focus rfl)
                      | (refine Calm.pure (v := ?_) (by rfl) ?_ ?_
                         rotate_left
                         focus (intro w hSw; go_simp <;> rfl))
                    simp only [Act.put, List.setIfInBounds_toArray, List.set_cons_zero, List.set_cons_succ]
                  all_goals
                    first
                      | (refine Calm.skip ?_ ?_; focus rfl)
                      | (refine Calm.pure (v := ?_) (by rfl) ?_ ?_
                         rotate_left
                         focus (intro w hSw; go_simp <;> rfl))
                    simp only [Act.put, List.setIfInBounds_toArray, List.set_cons_zero, List.set_cons_succ]
                  all_goals
                    first
                      | (refine Calm.skip ?_ ?_; focus rfl)
                      | (refine Calm.pure (v := ?_) (by rfl) ?_ ?_
                         rotate_left
                         focus (intro w hSw; go_simp <;> rfl))
                    simp only [Act.put, List.setIfInBounds_toArray, List.set_cons_zero, List.set_cons_succ]
                  all_goals
                    refine Calm.pure (v := ?_) (by rfl) ?_ ?_
                    rotate_left
                    focus (intro w hSw; go_simp <;> rfl)
                    simp only [Act.put, List.setIfInBounds_toArray, List.set_cons_zero, List.set_cons_succ]
                  all_goals
                    rintro w9 ⟨R09, _, _, hbel9⟩
                  go_wp2_with fail
                  go_ret
                  exact ⟨rfl, hbel9⟩
                · have HIB : Hid (ib y = true) := by
                    show _ = _
                    unfold ib
                    rw [HY1.out, decide_eq_true hyx]
                    rw [HYB.out]; rfl
                  rcases Nat.eq_zero_or_pos k with rfl | hpos
                  · have HV2 : Hid (∀ i (h : i < l.length), i < 0 + 1 → okb l i h = true) := fun i h hi => by
                      obtain rfl : i = 0 := by omega
                      rw [HO0.out, HIB.out]
                      rfl
                    clear hd HV HO0 HZ2
                    have hs : Calm.Stays (fun w' => Rw w' w.heap.size 27 (cvc 4 0 (.slice pa 0 ca') (.slice pw 0 cw) (.slice (some ⟨g, o, none⟩) l.length cm) (.slice pe 0 ce)) ∧ Rw w' wr.heap.size 41 #[.string y.x, .bool true, .slice py y.ms.length cy] ∧ MHas w' (.slice py y.ms.length cy) y.ms ∧ Below w.heap.size w w') := fun wa wb h hb => ⟨h.1.later hb, h.2.1.later hb, h.2.2.1.later hb, below_on h.2.2.2 hb⟩
                    refine Calm.region (by kernel_rfl) (by kernel_rfl) (fun w' => Rw w' w.heap.size 27 (cvc 4 0 (.slice pa 0 ca') (.slice pw 0 cw) (.slice (some ⟨g, o, none⟩) l.length cm) (.slice pe 0 ce)) ∧ Rw w' wr.heap.size 41 #[.string y.x, .bool true, .slice py y.ms.length cy] ∧ MHas w' (.slice py y.ms.length cy) y.ms ∧ Below w.heap.size w w') ⟨R0, RB, hyk, hbel.drew⟩ ?_
                    all_goals
                      refine Calm.pure (v := ?_) (by rfl) ?_ ?_
                      rotate_left
                      focus (intro w hSw; go_simp <;> rfl)
                      simp only [Act.put, List.setIfInBounds_toArray, List.set_cons_zero, List.set_cons_succ]
                    all_goals
                      refine Calm.pure (v := ?_) (by rfl) ?_ ?_
                      rotate_left
                      focus (intro w hSw; have g1 := hSw.2.1.cell 0; simp at g1; go_simp <;> rfl)
                      simp only [Act.put, List.setIfInBounds_toArray, List.set_cons_zero, List.set_cons_succ]
                    all_goals
                      refine Calm.pure (v := ?_) (by rfl) ?_ ?_
                      rotate_left
                      focus (intro w hSw; go_simp <;> rfl)
                      simp only [Act.put, List.setIfInBounds_toArray, List.set_cons_zero, List.set_cons_succ]
                    all_goals
                      refine Calm.pure (v := ?_) (by rfl) ?_ ?_
                      rotate_left
                      focus (intro w hSw; go_simp <;> rfl)
                      simp only [Act.put, List.setIfInBounds_toArray, List.set_cons_zero, List.set_cons_succ]
                    all_goals
                      refine Calm.pure (v := ?_) (by rfl) ?_ ?_
                      rotate_left
                      focus (intro w hSw; go_simp <;> rfl)
                      simp only [Act.put, List.setIfInBounds_toArray, List.set_cons_zero, List.set_cons_succ]
                    all_goals
                      first
                        | (refine Calm.skip ?_ ?_; focus rfl)
                        | (refine Calm.pure (v := ?_) (by rfl) ?_ ?_
                           rotate_left
                           focus (intro w hSw; go_simp <;> rfl))
                      simp only [Act.put, List.setIfInBounds_toArray, List.set_cons_zero, List.set_cons_succ]
                    all_goals
                      first
                        | (refine Calm.skip ?_ ?_; focus rfl)
                        | (refine Calm.pure (v := ?_) (by rfl) ?_ ?_
                           rotate_left
                           focus (intro w hSw; have g1 := hSw.2.1.cell 1; simp at g1; go_simp <;> rfl))
                      simp only [Act.put, List.setIfInBounds_toArray, List.set_cons_zero, List.set_cons_succ]
                    all_goals
                      first
                        | (refine Calm.skip ?_ ?_; focus rfl)
                        | (refine Calm.pure (v := ?_) (by rfl) ?_ ?_
                           rotate_left
                           focus (intro w hSw; go_simp <;> rfl))
                      simp only [Act.put, List.setIfInBounds_toArray, List.set_cons_zero, List.set_cons_succ]
                    all_goals
                      first
                        | (refine Calm.skip ?_ ?_; focus rfl)
                        | (refine Calm.pure (v := ?_) (by rfl) ?_ ?_
                           rotate_left
                           focus (intro w hSw; go_simp <;> rfl))
                      simp only [Act.put, List.setIfInBounds_toArray, List.set_cons_zero, List.set_cons_succ]
                    all_goals
                      first
                        | (refine Calm.skip ?_ ?_; focus rfl)
                        | (refine Calm.pure (v := ?_) (by rfl) ?_ ?_
                           rotate_left
                           focus (intro w hSw; go_simp <;> rfl))
                      simp only [Act.put, List.setIfInBounds_toArray, List.set_cons_zero, List.set_cons_succ]
                    all_goals
                      first
                        | (refine Calm.skip ?_ ?_; focus rfl)
                        | (refine Calm.pure (v := ?_) (by rfl) ?_ ?_
                           rotate_left
                           focus (intro w hSw; have g1 := hSw.2.1.cell 2; simp at g1; go_simp <;> rfl))
                      simp only [Act.put, List.setIfInBounds_toArray, List.set_cons_zero, List.set_cons_succ]
                    all_goals
                      first
                        | (refine Calm.skip ?_ ?_; focus rfl)
                        | (refine Calm.pure (v := ?_) (by rfl) ?_ ?_
                           rotate_left
                           focus (intro w hSw; go_simp <;> rfl))
                      simp only [Act.put, List.setIfInBounds_toArray, List.set_cons_zero, List.set_cons_succ]
                    all_goals
                      first
                        | (refine Calm.skip ?_ ?_; focus rfl)
                        | (refine Calm.pure (v := ?_) (by rfl) ?_ ?_
                           rotate_left
                           focus (intro w hSw; go_simp <;> rfl))
                      simp only [Act.put, List.setIfInBounds_toArray, List.set_cons_zero, List.set_cons_succ]
                    all_goals
                      first
                        | (refine Calm.skip ?_ ?_; focus rfl)
                        | (refine Calm.pure (v := ?_) (by rfl) ?_ ?_
                           rotate_left
                           focus (intro w hSw; go_simp <;> rfl))
                      simp only [Act.put, List.setIfInBounds_toArray, List.set_cons_zero, List.set_cons_succ]
                    all_goals
                      refine Calm.pure (v := ?_) (by rfl) ?_ ?_
                      rotate_left
                      focus (intro w hSw; go_simp <;> rfl)
                      simp only [Act.put, List.setIfInBounds_toArray, List.set_cons_zero, List.set_cons_succ]
                    all_goals
                      refine Calm.pure (v := ?_) (by rfl) ?_ ?_
                      rotate_left
                      focus (intro w hSw; go_simp <;> rfl)
                      simp only [Act.put, List.setIfInBounds_toArray, List.set_cons_zero, List.set_cons_succ]
                    all_goals
                      first
                        | (refine Calm.skip ?_ ?_; focus rfl)
                        | (refine Calm.pure (v := ?_) (by rfl) ?_ ?_
                           rotate_left
                           focus (intro w hSw; go_simp <;> rfl))
                      simp only [Act.put, List.setIfInBounds_toArray, List.set_cons_zero, List.set_cons_succ]
                    all_goals
                      first
                        | (refine Calm.skip ?_ ?_; focus rfl)
                        | (refine Calm.pure (v := ?_) (by rfl) ?_ ?_
                           rotate_left
                           focus (intro w hSw; have g1 := hSw.2.1.cell 2; simp at g1; go_simp <;> rfl))
                      simp only [Act.put, List.setIfInBounds_toArray, List.set_cons_zero, List.set_cons_succ]
                    all_goals
                      first
                        | (refine Calm.skip ?_ ?_; focus rfl)
                        | (refine Calm.call1s (by rfl) rfl rfl (by kernel_rfl) hs (fun w1 h => C1 w1 h.2.2.1) ?_)
                      simp only [Act.put, List.setIfInBounds_toArray, List.set_cons_zero, List.set_cons_succ]
                    all_goals
                      first
                        | (refine Calm.skip ?_ ?_; focus rfl)
                        | (refine Calm.pure (v := ?_) (by rfl) ?_ ?_
                           rotate_left
                           focus (intro w hSw; go_simp <;> rfl))
                      simp only [Act.put, List.setIfInBounds_toArray, List.set_cons_zero, List.set_cons_succ]
                    all_goals
                      refine Calm.pure (v := ?_) (by rfl) ?_ ?_
                      rotate_left
                      focus (intro w hSw; go_simp <;> rfl)
                      simp only [Act.put, List.setIfInBounds_toArray, List.set_cons_zero, List.set_cons_succ]
                    all_goals
                      refine Calm.pure (v := ?_) (by rfl) ?_ ?_
                      rotate_left
                      focus (intro w hSw; go_simp <;> rfl)
                      simp only [Act.put, List.setIfInBounds_toArray, List.set_cons_zero, List.set_cons_succ]
                    all_goals
                      first
                        | (refine Calm.skip ?_ ?_; focus rfl)
                        | (refine Calm.pure (v := ?_) (by rfl) ?_ ?_
                           rotate_left
                           focus (intro w hSw; go_simp <;> rfl))
                      simp only [Act.put, List.setIfInBounds_toArray, List.set_cons_zero, List.set_cons_succ]
                    all_goals
                      first
                        | (refine Calm.skip ?_ ?_; focus rfl)
                        | (refine Calm.pure (v := ?_) (by rfl) ?_ ?_
                           rotate_left
                           focus (intro w hSw; go_simp <;> rfl))
                      simp only [Act.put, List.setIfInBounds_toArray, List.set_cons_zero, List.set_cons_succ]
                    all_goals
                      first
                        | (refine Calm.skip ?_ ?_; focus rfl)
                        | (refine Calm.pure (v := ?_) (by rfl) ?_ ?_
                           rotate_left
                           focus (intro w hSw; go_simp <;> rfl))
                      simp only [Act.put, List.setIfInBounds_toArray, List.set_cons_zero, List.set_cons_succ]
                    all_goals
                      first
                        | (refine Calm.skip ?_ ?_; focus rfl)
                        | (refine Calm.pure (v := ?_) (by rfl) ?_ ?_
                           rotate_left
                           focus (intro w hSw; go_simp <;> rfl))
                      simp only [Act.put, List.setIfInBounds_toArray, List.set_cons_zero, List.set_cons_succ]
                    all_goals
                      first
                        | (refine Calm.skip ?_ ?_; focus rfl)
                        | (refine Calm.pure (v := ?_) (by rfl) ?_ ?_
                           rotate_left
                           focus (intro w hSw; have g1 := hSw.2.1.cell 0; simp at g1; go_simp <;> rfl))
                      simp only [Act.put, List.setIfInBounds_toArray, List.set_cons_zero, List.set_cons_succ]
                    all_goals
                      first
                        | (refine Calm.skip ?_ ?_; focus rfl)
                        | (refine Calm.pure (v := ?_) (by rfl) ?_ ?_
                           rotate_left
                           focus (intro w hSw; go_simp <;> rfl))
                      simp only [Act.put, List.setIfInBounds_toArray, List.set_cons_zero, List.set_cons_succ]
                    all_goals
                      first
                        | (refine Calm.skip ?_ ?_; focus rfl)
                        | (refine Calm.pure (v := ?_) (by rfl) ?_ ?_
                           rotate_left
                           focus (intro w hSw; have g1 := hSw.1.cell 4; simp at g1; go_simp <;> rfl))
                      simp only [Act.put, List.setIfInBounds_toArray, List.set_cons_zero, List.set_cons_succ]
                    all_goals
                      first
                        | (refine Calm.skip ?_ ?_; focus rfl)
                        | (refine Calm.pure (v := ?_) (by rfl) ?_ ?_
                           rotate_left
                           focus (intro w hSw; go_simp <;> rfl))
                      simp only [Act.put, List.setIfInBounds_toArray, List.set_cons_zero, List.set_cons_succ]
                    all_goals
                      first
                        | (refine Calm.skip ?_ ?_; focus rfl)
                        | (refine Calm.pure (v := ?_) (by rfl) ?_ ?_
                           rotate_left
                           focus (intro w hSw; go_simp <;> rfl))
                      simp only [Act.put, List.setIfInBounds_toArray, List.set_cons_zero, List.set_cons_succ]
                    all_goals
                      first
                        | (refine Calm.skip ?_ ?_; focus rfl)
                        | (refine Calm.pure (v := ?_) (by rfl) ?_ ?_
                           rotate_left
                           focus (intro w hSw; go_simp <;> rfl))
                      simp only [Act.put, List.setIfInBounds_toArray, List.set_cons_zero, List.set_cons_succ]
                    all_goals
                      first
                        | (refine Calm.skip ?_ ?_; focus rfl)
                        | (refine Calm.pure (v := ?_) (by rfl) ?_ ?_
                           rotate_left
                           focus (intro w hSw; go_simp <;> rfl))
                      simp only [Act.put, List.setIfInBounds_toArray, List.set_cons_zero, List.set_cons_succ]
                    all_goals
                      first
                        | (refine Calm.skip ?_ ?_; focus rfl)
                        | (refine Calm.pure (v := ?_) (by rfl) ?_ ?_
                           rotate_left
                           focus (intro w hSw; go_simp <;> rfl))
                      simp only [Act.put, List.setIfInBounds_toArray, List.set_cons_zero, List.set_cons_succ]
                    all_goals
                      first
                        | (refine Calm.skip ?_ ?_; focus rfl)
                        | (refine Calm.pure (v := ?_) (by rfl) ?_ ?_
                           rotate_left
                           focus (intro w hSw; go_simp <;> rfl))
                      simp only [Act.put, List.setIfInBounds_toArray, List.set_cons_zero, List.set_cons_succ]
                    all_goals
                      first
                        | (refine Calm.skip ?_ ?_; focus rfl)
                        | (refine Calm.pure (v := ?_) (by rfl) ?_ ?_
                           rotate_left
                           focus (intro w hSw; go_simp <;> rfl))
                      simp only [Act.put, List.setIfInBounds_toArray, List.set_cons_zero, List.set_cons_succ]
                    all_goals
                      refine Calm.pure (v := ?_) (by rfl) ?_ ?_
                      rotate_left
                      focus (intro w hSw; go_simp <;> rfl)
                      simp only [Act.put, List.setIfInBounds_toArray, List.set_cons_zero, List.set_cons_succ]
                    all_goals
                      rintro w9 ⟨R09, _, _, hbel9⟩
                    go_wp2_with fail
                    go_roundw
                    case rel => exact ⟨0 + 1, by simp, by omega, R09, HV2, hbel9⟩
                    case measure => simp [intOf]; omega
                  · obtain ⟨m, rfl⟩ : ∃ m, k = m + 1 := ⟨k - 1, by omega⟩
                    have d2 := range_later (Mb.elem hd m (by omega)) hba 0 _ rfl
                    obtain ⟨yp, HP⟩ := hid_ex (l[m]'(by omega))
                    rw [HL.out m (by omega) (by omega), HP.out] at d2
                    replace d2 : wx.cell? ⟨g, o + m * 3, none⟩ = some (.string yp.x) := d2
                    have HO : Hid (okb l (m + 1) hlt = tlt yp y) := by
                      show _ = _
                      rw [HO0.out, HIB.out]
                      simp only [Nat.add_sub_cancel]
                      rw [HP.out]
                      simp
                    obtain ⟨y2, HY2⟩ := hid_ex (tlt yp y)
                    rw [HY2.out] at HO
                    have E1 : (Op.bytesLess y.x.toList yp.x.toList || y.x.toList == yp.x.toList) = !y2 := by rw [← HY2.out]; exact leq_str yp.x y.x
                    have hw1 : IntKind.i64.wrap (m : Int) = (m : Int) := by rw [IntKind.wrap_i64]; omega
                    have hml2 : (m : Int) < (l.length : Int) := by omega
                    clear hd HO0 HIB
                    cases y2
                    · have HF := cb_not HZ2 hlt HO.out
                      have e := HF.out
                      subst e
                      clear HZ2 HF HV
                      have hs : Calm.Stays (fun w' => Rw w' w.heap.size 27 (cvc 4 0 (.slice pa 0 ca') (.slice pw 0 cw) (.slice (some ⟨g, o, none⟩) l.length cm) (.slice pe 0 ce)) ∧ Rw w' wr.heap.size 41 #[.string y.x, .bool true, .slice py y.ms.length cy] ∧ MHas w' (.slice py y.ms.length cy) y.ms ∧ w'.cell? ⟨g, o + m * 3, none⟩ = some (.string yp.x) ∧ Below w.heap.size w w') := fun wa wb h hb => ⟨h.1.later hb, h.2.1.later hb, h.2.2.1.later hb, cell_later hb h.2.2.2.1, below_on h.2.2.2.2 hb⟩
                      refine Calm.region (by kernel_rfl) (by kernel_rfl) (fun w' => Rw w' w.heap.size 27 (cvc 4 0 (.slice pa 0 ca') (.slice pw 0 cw) (.slice (some ⟨g, o, none⟩) l.length cm) (.slice pe 0 ce)) ∧ Rw w' wr.heap.size 41 #[.string y.x, .bool true, .slice py y.ms.length cy] ∧ MHas w' (.slice py y.ms.length cy) y.ms ∧ w'.cell? ⟨g, o + m * 3, none⟩ = some (.string yp.x) ∧ Below w.heap.size w w') ⟨R0, RB, hyk, d2, hbel.drew⟩ ?_
                      all_goals
                        refine Calm.pure (v := ?_) (by rfl) ?_ ?_
                        rotate_left
                        focus (intro w hSw; go_simp <;> rfl)
                        simp only [Act.put, List.setIfInBounds_toArray, List.set_cons_zero, List.set_cons_succ]
                      all_goals
                        refine Calm.pure (v := ?_) (by rfl) ?_ ?_
                        rotate_left
                        focus (intro w hSw; have g1 := hSw.2.1.cell 0; simp at g1; go_simp <;> rfl)
                        simp only [Act.put, List.setIfInBounds_toArray, List.set_cons_zero, List.set_cons_succ]
                      all_goals
                        refine Calm.pure (v := ?_) (by rfl) ?_ ?_
                        rotate_left
                        focus (intro w hSw; go_simp <;> rfl)
                        simp only [Act.put, List.setIfInBounds_toArray, List.set_cons_zero, List.set_cons_succ]
                      all_goals
                        refine Calm.pure (v := ?_) (by rfl) ?_ ?_
                        rotate_left
                        focus (intro w hSw; go_simp <;> rfl)
                        simp only [Act.put, List.setIfInBounds_toArray, List.set_cons_zero, List.set_cons_succ]
                      all_goals
                        refine Calm.pure (v := ?_) (by rfl) ?_ ?_
                        rotate_left
                        focus (intro w hSw; go_simp <;> rfl)
                        simp only [Act.put, List.setIfInBounds_toArray, List.set_cons_zero, List.set_cons_succ]
                      all_goals
                        first
                          | (refine Calm.skip ?_ ?_; focus rfl)
                          | (refine Calm.pure (v := ?_) (by rfl) ?_ ?_
                             rotate_left
                             focus (intro w hSw; go_simp <;> rfl))
                        simp only [Act.put, List.setIfInBounds_toArray, List.set_cons_zero, List.set_cons_succ]
                      all_goals
                        first
                          | (refine Calm.skip ?_ ?_; focus rfl)
                          | (refine Calm.pure (v := ?_) (by rfl) ?_ ?_
                             rotate_left
                             focus (intro w hSw; have g1 := hSw.2.1.cell 1; simp at g1; go_simp <;> rfl))
                        simp only [Act.put, List.setIfInBounds_toArray, List.set_cons_zero, List.set_cons_succ]
                      all_goals
                        first
                          | (refine Calm.skip ?_ ?_; focus rfl)
                          | (refine Calm.pure (v := ?_) (by rfl) ?_ ?_
                             rotate_left
                             focus (intro w hSw; go_simp <;> rfl))
                        simp only [Act.put, List.setIfInBounds_toArray, List.set_cons_zero, List.set_cons_succ]
                      all_goals
                        first
                          | (refine Calm.skip ?_ ?_; focus rfl)
                          | (refine Calm.pure (v := ?_) (by rfl) ?_ ?_
                             rotate_left
                             focus (intro w hSw; go_simp <;> rfl))
                        simp only [Act.put, List.setIfInBounds_toArray, List.set_cons_zero, List.set_cons_succ]
                      all_goals
                        first
                          | (refine Calm.skip ?_ ?_; focus rfl)
                          | (refine Calm.pure (v := ?_) (by rfl) ?_ ?_
                             rotate_left
                             focus (intro w hSw; go_simp <;> rfl))
                        simp only [Act.put, List.setIfInBounds_toArray, List.set_cons_zero, List.set_cons_succ]
                      all_goals
                        first
                          | (refine Calm.skip ?_ ?_; focus rfl)
                          | (refine Calm.pure (v := ?_) (by rfl) ?_ ?_
                             rotate_left
                             focus (intro w hSw; have g1 := hSw.2.1.cell 2; simp at g1; go_simp <;> rfl))
                        simp only [Act.put, List.setIfInBounds_toArray, List.set_cons_zero, List.set_cons_succ]
                      all_goals
                        first
                          | (refine Calm.skip ?_ ?_; focus rfl)
                          | (refine Calm.pure (v := ?_) (by rfl) ?_ ?_
                             rotate_left
                             focus (intro w hSw; go_simp <;> rfl))
                        simp only [Act.put, List.setIfInBounds_toArray, List.set_cons_zero, List.set_cons_succ]
                      all_goals
                        first
                          | (refine Calm.skip ?_ ?_; focus rfl)
                          | (refine Calm.pure (v := ?_) (by rfl) ?_ ?_
                             rotate_left
                             focus (intro w hSw; go_simp <;> rfl))
                        simp only [Act.put, List.setIfInBounds_toArray, List.set_cons_zero, List.set_cons_succ]
                      all_goals
                        first
                          | (refine Calm.skip ?_ ?_; focus rfl)
                          | (refine Calm.pure (v := ?_) (by rfl) ?_ ?_
                             rotate_left
                             focus (intro w hSw; go_simp <;> rfl))
                        simp only [Act.put, List.setIfInBounds_toArray, List.set_cons_zero, List.set_cons_succ]
                      all_goals
                        refine Calm.pure (v := ?_) (by rfl) ?_ ?_
                        rotate_left
                        focus (intro w hSw; go_simp <;> rfl)
                        simp only [Act.put, List.setIfInBounds_toArray, List.set_cons_zero, List.set_cons_succ]
                      all_goals
                        refine Calm.pure (v := ?_) (by rfl) ?_ ?_
                        rotate_left
                        focus (intro w hSw; go_simp <;> rfl)
                        simp only [Act.put, List.setIfInBounds_toArray, List.set_cons_zero, List.set_cons_succ]
                      all_goals
                        first
                          | (refine Calm.skip ?_ ?_; focus rfl)
                          | (refine Calm.pure (v := ?_) (by rfl) ?_ ?_
                             rotate_left
                             focus (intro w hSw; go_simp <;> rfl))
                        simp only [Act.put, List.setIfInBounds_toArray, List.set_cons_zero, List.set_cons_succ]
                      all_goals
                        first
                          | (refine Calm.skip ?_ ?_; focus rfl)
                          | (refine Calm.pure (v := ?_) (by rfl) ?_ ?_
                             rotate_left
                             focus (intro w hSw; have g1 := hSw.2.1.cell 2; simp at g1; go_simp <;> rfl))
                        simp only [Act.put, List.setIfInBounds_toArray, List.set_cons_zero, List.set_cons_succ]
                      all_goals
                        first
                          | (refine Calm.skip ?_ ?_; focus rfl)
                          | (refine Calm.call1s (by rfl) rfl rfl (by kernel_rfl) hs (fun w1 h => C1 w1 h.2.2.1) ?_)
                        simp only [Act.put, List.setIfInBounds_toArray, List.set_cons_zero, List.set_cons_succ]
                      all_goals
                        first
                          | (refine Calm.skip ?_ ?_; focus rfl)
                          | (refine Calm.pure (v := ?_) (by rfl) ?_ ?_
                             rotate_left
                             focus (intro w hSw; go_simp <;> rfl))
                        simp only [Act.put, List.setIfInBounds_toArray, List.set_cons_zero, List.set_cons_succ]
                      all_goals
                        refine Calm.pure (v := ?_) (by rfl) ?_ ?_
                        rotate_left
                        focus (intro w hSw; go_simp <;> rfl)
                        simp only [Act.put, List.setIfInBounds_toArray, List.set_cons_zero, List.set_cons_succ]
                      all_goals
                        refine Calm.pure (v := ?_) (by rfl) ?_ ?_
                        rotate_left
                        focus (intro w hSw; go_simp <;> rfl)
                        simp only [Act.put, List.setIfInBounds_toArray, List.set_cons_zero, List.set_cons_succ]
                      all_goals
                        first
                          | (refine Calm.skip ?_ ?_; focus rfl)
                          | (refine Calm.pure (v := ?_) (by rfl) ?_ ?_
                             rotate_left
                             focus (intro w hSw; go_simp <;> rfl))
                        simp only [Act.put, List.setIfInBounds_toArray, List.set_cons_zero, List.set_cons_succ]
                      all_goals
                        first
                          | (refine Calm.skip ?_ ?_; focus rfl)
                          | (refine Calm.pure (v := ?_) (by rfl) ?_ ?_
                             rotate_left
                             focus (intro w hSw; go_simp <;> rfl))
                        simp only [Act.put, List.setIfInBounds_toArray, List.set_cons_zero, List.set_cons_succ]
                      all_goals
                        first
                          | (refine Calm.skip ?_ ?_; focus rfl)
                          | (refine Calm.pure (v := ?_) (by rfl) ?_ ?_
                             rotate_left
                             focus (intro w hSw; go_simp <;> rfl))
                        simp only [Act.put, List.setIfInBounds_toArray, List.set_cons_zero, List.set_cons_succ]
                      all_goals
                        first
                          | (refine Calm.skip ?_ ?_; focus rfl)
                          | (refine Calm.pure (v := ?_) (by rfl) ?_ ?_
                             rotate_left
                             focus (intro w hSw; go_simp <;> rfl))
                        simp only [Act.put, List.setIfInBounds_toArray, List.set_cons_zero, List.set_cons_succ]
                      all_goals
                        first
                          | (refine Calm.skip ?_ ?_; focus rfl)
                          | (refine Calm.pure (v := ?_) (by rfl) ?_ ?_
                             rotate_left
                             focus (intro w hSw; have g1 := hSw.2.1.cell 0; simp at g1; go_simp <;> rfl))
                        simp only [Act.put, List.setIfInBounds_toArray, List.set_cons_zero, List.set_cons_succ]
                      all_goals
                        first
                          | (refine Calm.skip ?_ ?_; focus rfl)
                          | (refine Calm.pure (v := ?_) (by rfl) ?_ ?_
                             rotate_left
                             focus (intro w hSw; go_simp <;> rfl))
                        simp only [Act.put, List.setIfInBounds_toArray, List.set_cons_zero, List.set_cons_succ]
                      all_goals
                        first
                          | (refine Calm.skip ?_ ?_; focus rfl)
                          | (refine Calm.pure (v := ?_) (by rfl) ?_ ?_
                             rotate_left
                             focus (intro w hSw; have g1 := hSw.1.cell 4; simp at g1; go_simp <;> rfl))
                        simp only [Act.put, List.setIfInBounds_toArray, List.set_cons_zero, List.set_cons_succ]
                      all_goals
                        first
                          | (refine Calm.skip ?_ ?_; focus rfl)
                          | (refine Calm.pure (v := ?_) (by rfl) ?_ ?_
                             rotate_left
                             focus (intro w hSw; go_simp <;> rfl))
                        simp only [Act.put, List.setIfInBounds_toArray, List.set_cons_zero, List.set_cons_succ]
                      all_goals
                        first
                          | (refine Calm.skip ?_ ?_; focus rfl)
                          | (refine Calm.pure (v := ?_) (by rfl) ?_ ?_
                             rotate_left
                             focus (intro w hSw; go_simp <;> rfl))
                        simp only [Act.put, List.setIfInBounds_toArray, List.set_cons_zero, List.set_cons_succ]
                      all_goals
                        first
                          | (refine Calm.skip ?_ ?_; focus rfl)
                          | (refine Calm.pure (v := ?_) (by rfl) ?_ ?_
                             rotate_left
                             focus (intro w hSw; go_simp <;> rfl))
                        simp only [Act.put, List.setIfInBounds_toArray, List.set_cons_zero, List.set_cons_succ]
                      all_goals
                        first
                          | (refine Calm.skip ?_ ?_; focus rfl)
                          | (refine Calm.pure (v := ?_) (by rfl) ?_ ?_
                             rotate_left
                             focus (intro w hSw; go_simp <;> rfl))
                        simp only [Act.put, List.setIfInBounds_toArray, List.set_cons_zero, List.set_cons_succ]
                      all_goals
                        first
                          | (refine Calm.skip ?_ ?_; focus rfl)
                          | (refine Calm.pure (v := ?_) (by rfl) ?_ ?_
                             rotate_left
                             focus (intro w hSw; have g1 : w.cell? ⟨g, o + m * 3, none⟩ = some (.string yp.x) := hSw.2.2.2.1; go_simp <;> rfl))
                        simp only [Act.put, List.setIfInBounds_toArray, List.set_cons_zero, List.set_cons_succ]
                      all_goals
                        first
                          | (refine Calm.skip ?_ ?_; focus rfl)
                          | (refine Calm.pure (v := ?_) (by rfl) ?_ ?_
                             rotate_left
                             focus (intro w hSw; go_simp <;> rfl))
                        simp only [Act.put, List.setIfInBounds_toArray, List.set_cons_zero, List.set_cons_succ]
                      all_goals
                        first
                          | (refine Calm.skip ?_ ?_; focus rfl)
                          | (refine Calm.pure (v := ?_) (by rfl) ?_ ?_
                             rotate_left
                             focus (intro w hSw; go_simp <;> rfl))
                        simp only [Act.put, List.setIfInBounds_toArray, List.set_cons_zero, List.set_cons_succ]
                      all_goals
                        refine Calm.pure (v := ?_) (by rfl) ?_ ?_
                        rotate_left
                        focus (intro w hSw; go_simp <;> rfl)
                        simp only [Act.put, List.setIfInBounds_toArray, List.set_cons_zero, List.set_cons_succ]
                      all_goals
                        rintro w9 ⟨R09, _, _, _, hbel9⟩
                      go_wp2_with fail
                      go_ret
                      exact ⟨rfl, hbel9⟩
                    · have HV2 : Hid (∀ i (h : i < l.length), i < m + 1 + 1 → okb l i h = true) := fun i h hi => by
                        rcases Nat.lt_or_ge i (m + 1) with h' | h'
                        · exact HV.out i h h'
                        · obtain rfl : i = m + 1 := by omega
                          exact HO.out
                      clear HV HO HZ2
                      have hs : Calm.Stays (fun w' => Rw w' w.heap.size 27 (cvc 4 0 (.slice pa 0 ca') (.slice pw 0 cw) (.slice (some ⟨g, o, none⟩) l.length cm) (.slice pe 0 ce)) ∧ Rw w' wr.heap.size 41 #[.string y.x, .bool true, .slice py y.ms.length cy] ∧ MHas w' (.slice py y.ms.length cy) y.ms ∧ w'.cell? ⟨g, o + m * 3, none⟩ = some (.string yp.x) ∧ Below w.heap.size w w') := fun wa wb h hb => ⟨h.1.later hb, h.2.1.later hb, h.2.2.1.later hb, cell_later hb h.2.2.2.1, below_on h.2.2.2.2 hb⟩
                      refine Calm.region (by kernel_rfl) (by kernel_rfl) (fun w' => Rw w' w.heap.size 27 (cvc 4 0 (.slice pa 0 ca') (.slice pw 0 cw) (.slice (some ⟨g, o, none⟩) l.length cm) (.slice pe 0 ce)) ∧ Rw w' wr.heap.size 41 #[.string y.x, .bool true, .slice py y.ms.length cy] ∧ MHas w' (.slice py y.ms.length cy) y.ms ∧ w'.cell? ⟨g, o + m * 3, none⟩ = some (.string yp.x) ∧ Below w.heap.size w w') ⟨R0, RB, hyk, d2, hbel.drew⟩ ?_
                      all_goals
                        refine Calm.pure (v := ?_) (by rfl) ?_ ?_
                        rotate_left
                        focus (intro w hSw; go_simp <;> rfl)
                        simp only [Act.put, List.setIfInBounds_toArray, List.set_cons_zero, List.set_cons_succ]
                      all_goals
                        refine Calm.pure (v := ?_) (by rfl) ?_ ?_
                        rotate_left
                        focus (intro w hSw; have g1 := hSw.2.1.cell 0; simp at g1; go_simp <;> rfl)
                        simp only [Act.put, List.setIfInBounds_toArray, List.set_cons_zero, List.set_cons_succ]
                      all_goals
                        refine Calm.pure (v := ?_) (by rfl) ?_ ?_
                        rotate_left
                        focus (intro w hSw; go_simp <;> rfl)
                        simp only [Act.put, List.setIfInBounds_toArray, List.set_cons_zero, List.set_cons_succ]
                      all_goals
                        refine Calm.pure (v := ?_) (by rfl) ?_ ?_
                        rotate_left
                        focus (intro w hSw; go_simp <;> rfl)
                        simp only [Act.put, List.setIfInBounds_toArray, List.set_cons_zero, List.set_cons_succ]
                      all_goals
                        refine Calm.pure (v := ?_) (by rfl) ?_ ?_
                        rotate_left
                        focus (intro w hSw; go_simp <;> rfl)
                        simp only [Act.put, List.setIfInBounds_toArray, List.set_cons_zero, List.set_cons_succ]
                      all_goals
                        first
                          | (refine Calm.skip ?_ ?_; focus rfl)
                          | (refine Calm.pure (v := ?_) (by rfl) ?_ ?_
                             rotate_left
                             focus (intro w hSw; go_simp <;> rfl))
                        simp only [Act.put, List.setIfInBounds_toArray, List.set_cons_zero, List.set_cons_succ]
                      all_goals
                        first
                          | (refine Calm.skip ?_ ?_; focus rfl)
                          | (refine Calm.pure (v := ?_) (by rfl) ?_ ?_
                             rotate_left
                             focus (intro w hSw; have g1 := hSw.2.1.cell 1; simp at g1; go_simp <;> rfl))
                        simp only [Act.put, List.setIfInBounds_toArray, List.set_cons_zero, List.set_cons_succ]
                      all_goals
                        first
                          | (refine Calm.skip ?_ ?_; focus rfl)
                          | (refine Calm.pure (v := ?_) (by rfl) ?_ ?_
                             rotate_left
                             focus (intro w hSw; go_simp <;> rfl))
                        simp only [Act.put, List.setIfInBounds_toArray, List.set_cons_zero, List.set_cons_succ]
                      all_goals
                        first
                          | (refine Calm.skip ?_ ?_; focus rfl)
                          | (refine Calm.pure (v := ?_) (by rfl) ?_ ?_
                             rotate_left
                             focus (intro w hSw; go_simp <;> rfl))
                        simp only [Act.put, List.setIfInBounds_toArray, List.set_cons_zero, List.set_cons_succ]
                      all_goals
                        first
                          | (refine Calm.skip ?_ ?_; focus rfl)
                          | (refine Calm.pure (v := ?_) (by rfl) ?_ ?_
                             rotate_left
                             focus (intro w hSw; go_simp <;> rfl))
                        simp only [Act.put, List.setIfInBounds_toArray, List.set_cons_zero, List.set_cons_succ]
                      all_goals
                        first
                          | (refine Calm.skip ?_ ?_; focus rfl)
                          | (refine Calm.pure (v := ?_) (by rfl) ?_ ?_
                             rotate_left
                             focus (intro w hSw; have g1 := hSw.2.1.cell 2; simp at g1; go_simp <;> rfl))
                        simp only [Act.put, List.setIfInBounds_toArray, List.set_cons_zero, List.set_cons_succ]
                      all_goals
                        first
                          | (refine Calm.skip ?_ ?_; focus rfl)
                          | (refine Calm.pure (v := ?_) (by rfl) ?_ ?_
                             rotate_left
                             focus (intro w hSw; go_simp <;> rfl))
                        simp only [Act.put, List.setIfInBounds_toArray, List.set_cons_zero, List.set_cons_succ]
                      all_goals
                        first
                          | (refine Calm.skip ?_ ?_; focus rfl)
                          | (refine Calm.pure (v := ?_) (by rfl) ?_ ?_
                             rotate_left
                             focus (intro w hSw; go_simp <;> rfl))
                        simp only [Act.put, List.setIfInBounds_toArray, List.set_cons_zero, List.set_cons_succ]
                      all_goals
                        first
                          | (refine Calm.skip ?_ ?_; focus rfl)
                          | (refine Calm.pure (v := ?_) (by rfl) ?_ ?_
                             rotate_left
                             focus (intro w hSw; go_simp <;> rfl))
                        simp only [Act.put, List.setIfInBounds_toArray, List.set_cons_zero, List.set_cons_succ]
                      all_goals
                        refine Calm.pure (v := ?_) (by rfl) ?_ ?_
                        rotate_left
                        focus (intro w hSw; go_simp <;> rfl)
                        simp only [Act.put, List.setIfInBounds_toArray, List.set_cons_zero, List.set_cons_succ]
                      all_goals
                        refine Calm.pure (v := ?_) (by rfl) ?_ ?_
                        rotate_left
                        focus (intro w hSw; go_simp <;> rfl)
                        simp only [Act.put, List.setIfInBounds_toArray, List.set_cons_zero, List.set_cons_succ]
                      all_goals
                        first
                          | (refine Calm.skip ?_ ?_; focus rfl)
                          | (refine Calm.pure (v := ?_) (by rfl) ?_ ?_
                             rotate_left
                             focus (intro w hSw; go_simp <;> rfl))
                        simp only [Act.put, List.setIfInBounds_toArray, List.set_cons_zero, List.set_cons_succ]
                      all_goals
                        first
                          | (refine Calm.skip ?_ ?_; focus rfl)
                          | (refine Calm.pure (v := ?_) (by rfl) ?_ ?_
                             rotate_left
                             focus (intro w hSw; have g1 := hSw.2.1.cell 2; simp at g1; go_simp <;> rfl))
                        simp only [Act.put, List.setIfInBounds_toArray, List.set_cons_zero, List.set_cons_succ]
                      all_goals
                        first
                          | (refine Calm.skip ?_ ?_; focus rfl)
                          | (refine Calm.call1s (by rfl) rfl rfl (by kernel_rfl) hs (fun w1 h => C1 w1 h.2.2.1) ?_)
                        simp only [Act.put, List.setIfInBounds_toArray, List.set_cons_zero, List.set_cons_succ]
                      all_goals
                        first
                          | (refine Calm.skip ?_ ?_; focus rfl)
                          | (refine Calm.pure (v := ?_) (by rfl) ?_ ?_
                             rotate_left
                             focus (intro w hSw; go_simp <;> rfl))
                        simp only [Act.put, List.setIfInBounds_toArray, List.set_cons_zero, List.set_cons_succ]
                      all_goals
                        refine Calm.pure (v := ?_) (by rfl) ?_ ?_
                        rotate_left
                        focus (intro w hSw; go_simp <;> rfl)
                        simp only [Act.put, List.setIfInBounds_toArray, List.set_cons_zero, List.set_cons_succ]
                      all_goals
                        refine Calm.pure (v := ?_) (by rfl) ?_ ?_
                        rotate_left
                        focus (intro w hSw; go_simp <;> rfl)
                        simp only [Act.put, List.setIfInBounds_toArray, List.set_cons_zero, List.set_cons_succ]
                      all_goals
                        first
                          | (refine Calm.skip ?_ ?_; focus rfl)
                          | (refine Calm.pure (v := ?_) (by rfl) ?_ ?_
                             rotate_left
                             focus (intro w hSw; go_simp <;> rfl))
                        simp only [Act.put, List.setIfInBounds_toArray, List.set_cons_zero, List.set_cons_succ]
                      all_goals
                        first
                          | (refine Calm.skip ?_ ?_; focus rfl)
                          | (refine Calm.pure (v := ?_) (by rfl) ?_ ?_
                             rotate_left
                             focus (intro w hSw; go_simp <;> rfl))
                        simp only [Act.put, List.setIfInBounds_toArray, List.set_cons_zero, List.set_cons_succ]
                      all_goals
                        first
                          | (refine Calm.skip ?_ ?_; focus rfl)
                          | (refine Calm.pure (v := ?_) (by rfl) ?_ ?_
                             rotate_left
                             focus (intro w hSw; go_simp <;> rfl))
                        simp only [Act.put, List.setIfInBounds_toArray, List.set_cons_zero, List.set_cons_succ]
                      all_goals
                        first
                          | (refine Calm.skip ?_ ?_; focus rfl)
                          | (refine Calm.pure (v := ?_) (by rfl) ?_ ?_
                             rotate_left
                             focus (intro w hSw; go_simp <;> rfl))
                        simp only [Act.put, List.setIfInBounds_toArray, List.set_cons_zero, List.set_cons_succ]
                      all_goals
                        first
                          | (refine Calm.skip ?_ ?_; focus rfl)
                          | (refine Calm.pure (v := ?_) (by rfl) ?_ ?_
                             rotate_left
                             focus (intro w hSw; have g1 := hSw.2.1.cell 0; simp at g1; go_simp <;> rfl))
                        simp only [Act.put, List.setIfInBounds_toArray, List.set_cons_zero, List.set_cons_succ]
                      all_goals
                        first
                          | (refine Calm.skip ?_ ?_; focus rfl)
                          | (refine Calm.pure (v := ?_) (by rfl) ?_ ?_
                             rotate_left
                             focus (intro w hSw; go_simp <;> rfl))
                        simp only [Act.put, List.setIfInBounds_toArray, List.set_cons_zero, List.set_cons_succ]
                      all_goals
                        first
                          | (refine Calm.skip ?_ ?_; focus rfl)
                          | (refine Calm.pure (v := ?_) (by rfl) ?_ ?_
                             rotate_left
                             focus (intro w hSw; have g1 := hSw.1.cell 4; simp at g1; go_simp <;> rfl))
                        simp only [Act.put, List.setIfInBounds_toArray, List.set_cons_zero, List.set_cons_succ]
                      all_goals
                        first
                          | (refine Calm.skip ?_ ?_; focus rfl)
                          | (refine Calm.pure (v := ?_) (by rfl) ?_ ?_
                             rotate_left
                             focus (intro w hSw; go_simp <;> rfl))
                        simp only [Act.put, List.setIfInBounds_toArray, List.set_cons_zero, List.set_cons_succ]
                      all_goals
                        first
                          | (refine Calm.skip ?_ ?_; focus rfl)
                          | (refine Calm.pure (v := ?_) (by rfl) ?_ ?_
                             rotate_left
                             focus (intro w hSw; go_simp <;> rfl))
                        simp only [Act.put, List.setIfInBounds_toArray, List.set_cons_zero, List.set_cons_succ]
                      all_goals
                        first
                          | (refine Calm.skip ?_ ?_; focus rfl)
                          | (refine Calm.pure (v := ?_) (by rfl) ?_ ?_
                             rotate_left
                             focus (intro w hSw; go_simp <;> rfl))
                        simp only [Act.put, List.setIfInBounds_toArray, List.set_cons_zero, List.set_cons_succ]
                      all_goals
                        first
                          | (refine Calm.skip ?_ ?_; focus rfl)
                          | (refine Calm.pure (v := ?_) (by rfl) ?_ ?_
                             rotate_left
                             focus (intro w hSw; go_simp <;> rfl))
                        simp only [Act.put, List.setIfInBounds_toArray, List.set_cons_zero, List.set_cons_succ]
                      all_goals
                        first
                          | (refine Calm.skip ?_ ?_; focus rfl)
                          | (refine Calm.pure (v := ?_) (by rfl) ?_ ?_
                             rotate_left
                             focus (intro w hSw; have g1 : w.cell? ⟨g, o + m * 3, none⟩ = some (.string yp.x) := hSw.2.2.2.1; go_simp <;> rfl))
                        simp only [Act.put, List.setIfInBounds_toArray, List.set_cons_zero, List.set_cons_succ]
                      all_goals
                        first
                          | (refine Calm.skip ?_ ?_; focus rfl)
                          | (refine Calm.pure (v := ?_) (by rfl) ?_ ?_
                             rotate_left
                             focus (intro w hSw; go_simp <;> rfl))
                        simp only [Act.put, List.setIfInBounds_toArray, List.set_cons_zero, List.set_cons_succ]
                      all_goals
                        first
                          | (refine Calm.skip ?_ ?_; focus rfl)
                          | (refine Calm.pure (v := ?_) (by rfl) ?_ ?_
                             rotate_left
                             focus (intro w hSw; go_simp <;> rfl))
                        simp only [Act.put, List.setIfInBounds_toArray, List.set_cons_zero, List.set_cons_succ]
                      all_goals
                        refine Calm.pure (v := ?_) (by rfl) ?_ ?_
                        rotate_left
                        focus (intro w hSw; go_simp <;> rfl)
                        simp only [Act.put, List.setIfInBounds_toArray, List.set_cons_zero, List.set_cons_succ]
                      all_goals
                        rintro w9 ⟨R09, _, _, _, hbel9⟩
                      go_wp2_with fail
                      go_roundw
                      case rel => exact ⟨m + 1 + 1, by simp, by omega, R09, HV2, hbel9⟩
                      case measure => simp [intOf]; omega
            · have hyx' : decide ((64 : Int) < (y.x.size : Int)) = true := decide_eq_true (by omega)
              obtain ⟨yb, HYB⟩ := hid_ex y.b
              rw [HYB.out] at RB
              clear HYB
              have HF := cb_not HZ2 hlt (by rw [HO0.out]; unfold ib; rw [decide_eq_false hyx]; simp)
              have e := HF.out
              subst e
              clear HZ2 HF HV HO0
              clear hd
              have hs : Calm.Stays (fun w' => Rw w' w.heap.size 27 (cvc 4 0 (.slice pa 0 ca') (.slice pw 0 cw) (.slice (some ⟨g, o, none⟩) l.length cm) (.slice pe 0 ce)) ∧ Rw w' wr.heap.size 41 #[.string y.x, .bool yb, .slice py y.ms.length cy] ∧ MHas w' (.slice py y.ms.length cy) y.ms ∧ Below w.heap.size w w') := fun wa wb h hb => ⟨h.1.later hb, h.2.1.later hb, h.2.2.1.later hb, below_on h.2.2.2 hb⟩
              refine Calm.region (by kernel_rfl) (by kernel_rfl) (fun w' => Rw w' w.heap.size 27 (cvc 4 0 (.slice pa 0 ca') (.slice pw 0 cw) (.slice (some ⟨g, o, none⟩) l.length cm) (.slice pe 0 ce)) ∧ Rw w' wr.heap.size 41 #[.string y.x, .bool yb, .slice py y.ms.length cy] ∧ MHas w' (.slice py y.ms.length cy) y.ms ∧ Below w.heap.size w w') ⟨R0, RB, hyk, hbel.drew⟩ ?_
              all_goals
                refine Calm.pure (v := ?_) (by rfl) ?_ ?_
                rotate_left
                focus (intro w hSw; go_simp <;> rfl)
                simp only [Act.put, List.setIfInBounds_toArray, List.set_cons_zero, List.set_cons_succ]
              all_goals
                refine Calm.pure (v := ?_) (by rfl) ?_ ?_
                rotate_left
                focus (intro w hSw; have g1 := hSw.2.1.cell 0; simp at g1; go_simp <;> rfl)
                simp only [Act.put, List.setIfInBounds_toArray, List.set_cons_zero, List.set_cons_succ]
              all_goals
                refine Calm.pure (v := ?_) (by rfl) ?_ ?_
                rotate_left
                focus (intro w hSw; go_simp <;> rfl)
                simp only [Act.put, List.setIfInBounds_toArray, List.set_cons_zero, List.set_cons_succ]
              all_goals
                refine Calm.pure (v := ?_) (by rfl) ?_ ?_
                rotate_left
                focus (intro w hSw; go_simp <;> rfl)
                simp only [Act.put, List.setIfInBounds_toArray, List.set_cons_zero, List.set_cons_succ]
              all_goals
                refine Calm.pure (v := ?_) (by rfl) ?_ ?_
                rotate_left
                focus (intro w hSw; go_simp <;> rfl)
                simp only [Act.put, List.setIfInBounds_toArray, List.set_cons_zero, List.set_cons_succ]
              all_goals
                first
                  | (refine Calm.skip ?_ ?_; focus rfl)
                  | (refine Calm.pure (v := ?_) (by rfl) ?_ ?_
                     rotate_left
                     focus (intro w hSw; go_simp <;> rfl))
                simp only [Act.put, List.setIfInBounds_toArray, List.set_cons_zero, List.set_cons_succ]
              all_goals
                first
                  | (refine Calm.skip ?_ ?_; focus rfl)
                  | (refine Calm.pure (v := ?_) (by rfl) ?_ ?_
                     rotate_left
                     focus (intro w hSw; have g1 := hSw.2.1.cell 1; simp at g1; go_simp <;> rfl))
                simp only [Act.put, List.setIfInBounds_toArray, List.set_cons_zero, List.set_cons_succ]
              all_goals
                first
                  | (refine Calm.skip ?_ ?_; focus rfl)
                  | (refine Calm.pure (v := ?_) (by rfl) ?_ ?_
                     rotate_left
                     focus (intro w hSw; go_simp <;> rfl))
                simp only [Act.put, List.setIfInBounds_toArray, List.set_cons_zero, List.set_cons_succ]
              all_goals
                first
                  | (refine Calm.skip ?_ ?_; focus rfl)
                  | (refine Calm.pure (v := ?_) (by rfl) ?_ ?_
                     rotate_left
                     focus (intro w hSw; go_simp <;> rfl))
                simp only [Act.put, List.setIfInBounds_toArray, List.set_cons_zero, List.set_cons_succ]
              all_goals
                first
                  | (refine Calm.skip ?_ ?_; focus rfl)
                  | (refine Calm.pure (v := ?_) (by rfl) ?_ ?_
                     rotate_left
                     focus (intro w hSw; go_simp <;> rfl))
                simp only [Act.put, List.setIfInBounds_toArray, List.set_cons_zero, List.set_cons_succ]
              all_goals
                first
                  | (refine Calm.skip ?_ ?_; focus rfl)
                  | (refine Calm.pure (v := ?_) (by rfl) ?_ ?_
                     rotate_left
                     focus (intro w hSw; have g1 := hSw.2.1.cell 2; simp at g1; go_simp <;> rfl))
                simp only [Act.put, List.setIfInBounds_toArray, List.set_cons_zero, List.set_cons_succ]
              all_goals
                first
                  | (refine Calm.skip ?_ ?_; focus rfl)
                  | (refine Calm.pure (v := ?_) (by rfl) ?_ ?_
                     rotate_left
                     focus (intro w hSw; go_simp <;> rfl))
                simp only [Act.put, List.setIfInBounds_toArray, List.set_cons_zero, List.set_cons_succ]
              all_goals
                first
                  | (refine Calm.skip ?_ ?_; focus rfl)
                  | (refine Calm.pure (v := ?_) (by rfl) ?_ ?_
                     rotate_left
                     focus (intro w hSw; go_simp <;> rfl))
                simp only [Act.put, List.setIfInBounds_toArray, List.set_cons_zero, List.set_cons_succ]
              all_goals
                first
                  | (refine Calm.skip ?_ ?_; focus rfl)
                  | (refine Calm.pure (v := ?_) (by rfl) ?_ ?_
                     rotate_left
                     focus (intro w hSw; go_simp <;> rfl))
                simp only [Act.put, List.setIfInBounds_toArray, List.set_cons_zero, List.set_cons_succ]
              all_goals
                refine Calm.pure (v := ?_) (by rfl) ?_ ?_
                rotate_left
                focus (intro w hSw; go_simp <;> rfl)
                simp only [Act.put, List.setIfInBounds_toArray, List.set_cons_zero, List.set_cons_succ]
              all_goals
                refine Calm.pure (v := ?_) (by rfl) ?_ ?_
                rotate_left
                focus (intro w hSw; go_simp <;> rfl)
                simp only [Act.put, List.setIfInBounds_toArray, List.set_cons_zero, List.set_cons_succ]
              all_goals
                first
                  | (refine Calm.skip ?_ ?_; focus rfl)
                  | (refine Calm.pure (v := ?_) (by rfl) ?_ ?_
                     rotate_left
                     focus (intro w hSw; go_simp <;> rfl))
                simp only [Act.put, List.setIfInBounds_toArray, List.set_cons_zero, List.set_cons_succ]
              all_goals
                first
                  | (refine Calm.skip ?_ ?_; focus rfl)
                  | (refine Calm.pure (v := ?_) (by rfl) ?_ ?_
                     rotate_left
                     focus (intro w hSw; have g1 := hSw.2.1.cell 2; simp at g1; go_simp <;> rfl))
                simp only [Act.put, List.setIfInBounds_toArray, List.set_cons_zero, List.set_cons_succ]
              all_goals
                first
                  | (refine Calm.skip ?_ ?_; focus rfl)
                  | (refine Calm.call1s (by rfl) rfl rfl (by kernel_rfl) hs (fun w1 h => C1 w1 h.2.2.1) ?_)
                simp only [Act.put, List.setIfInBounds_toArray, List.set_cons_zero, List.set_cons_succ]
              all_goals
                first
                  | (refine Calm.skip ?_ ?_; focus rfl)
                  | (refine Calm.pure (v := ?_) (by rfl) ?_ ?_
                     rotate_left
                     focus (intro w hSw; go_simp <;> rfl))
                simp only [Act.put, List.setIfInBounds_toArray, List.set_cons_zero, List.set_cons_succ]
              all_goals
                refine Calm.pure (v := ?_) (by rfl) ?_ ?_
                rotate_left
                focus (intro w hSw; go_simp <;> rfl)
                simp only [Act.put, List.setIfInBounds_toArray, List.set_cons_zero, List.set_cons_succ]
              all_goals
                refine Calm.pure (v := ?_) (by rfl) ?_ ?_
                rotate_left
                focus (intro w hSw; go_simp <;> rfl)
                simp only [Act.put, List.setIfInBounds_toArray, List.set_cons_zero, List.set_cons_succ]
              all_goals
                first
                  | (refine Calm.skip ?_ ?_; focus rfl)
                  | (refine Calm.pure (v := ?_) (by rfl) ?_ ?_
                     rotate_left
                     focus (intro w hSw; go_simp <;> rfl))
                simp only [Act.put, List.setIfInBounds_toArray, List.set_cons_zero, List.set_cons_succ]
              all_goals
                first
                  | (refine Calm.skip ?_ ?_; focus rfl)
                  | (refine Calm.pure (v := ?_) (by rfl) ?_ ?_
                     rotate_left
                     focus (intro w hSw; go_simp <;> rfl))
                simp only [Act.put, List.setIfInBounds_toArray, List.set_cons_zero, List.set_cons_succ]
              all_goals
                first
                  | (refine Calm.skip ?_ ?_; focus rfl)
                  | (refine Calm.pure (v := ?_) (by rfl) ?_ ?_
                     rotate_left
                     focus (intro w hSw; go_simp <;> rfl))
                simp only [Act.put, List.setIfInBounds_toArray, List.set_cons_zero, List.set_cons_succ]
              all_goals
                first
                  | (refine Calm.skip ?_ ?_; focus rfl)
                  | (refine Calm.pure (v := ?_) (by rfl) ?_ ?_
                     rotate_left
                     focus (intro w hSw; go_simp <;> rfl))
                simp only [Act.put, List.setIfInBounds_toArray, List.set_cons_zero, List.set_cons_succ]
              all_goals
                first
                  | (refine Calm.skip ?_ ?_; focus rfl)
                  | (refine Calm.pure (v := ?_) (by rfl) ?_ ?_
                     rotate_left
                     focus (intro w hSw; have g1 := hSw.2.1.cell 0; simp at g1; go_simp <;> rfl))
                simp only [Act.put, List.setIfInBounds_toArray, List.set_cons_zero, List.set_cons_succ]
              all_goals
                first
                  | (refine Calm.skip ?_ ?_; focus rfl)
                  | (refine Calm.pure (v := ?_) (by rfl) ?_ ?_
                     rotate_left
                     focus (intro w hSw; go_simp <;> rfl))
                simp only [Act.put, List.setIfInBounds_toArray, List.set_cons_zero, List.set_cons_succ]
              all_goals
                first
                  | (refine Calm.skip ?_ ?_; focus rfl)
                  | (refine Calm.pure (v := ?_) (by rfl) ?_ ?_
                     rotate_left
                     focus (intro w hSw; have g1 := hSw.1.cell 4; simp at g1; go_simp <;> rfl))
                simp only [Act.put, List.setIfInBounds_toArray, List.set_cons_zero, List.set_cons_succ]
              all_goals
                first
                  | (refine Calm.skip ?_ ?_; focus rfl)
                  | (refine Calm.pure (v := ?_) (by rfl) ?_ ?_
                     rotate_left
                     focus (intro w hSw; go_simp <;> rfl))
                simp only [Act.put, List.setIfInBounds_toArray, List.set_cons_zero, List.set_cons_succ]
              all_goals
                first
                  | (refine Calm.skip ?_ ?_; focus rfl)
                  | (refine Calm.pure (v := ?_) (by rfl) ?_ ?_
                     rotate_left
                     focus (intro w hSw; go_simp <;> rfl))
                simp only [Act.put, List.setIfInBounds_toArray, List.set_cons_zero, List.set_cons_succ]
              all_goals
                first
                  | (refine Calm.skip ?_ ?_; focus rfl)
                  | (refine Calm.pure (v := ?_) (by rfl) ?_ ?_
                     rotate_left
                     focus (intro w hSw; go_simp <;> rfl))
                simp only [Act.put, List.setIfInBounds_toArray, List.set_cons_zero, List.set_cons_succ]
              all_goals
                first
                  | (refine Calm.skip ?_ ?_; focus rfl)
                  | (refine Calm.pure (v := ?_) (by rfl) ?_ ?_
                     rotate_left
                     focus (intro w hSw; go_simp <;> rfl))
                simp only [Act.put, List.setIfInBounds_toArray, List.set_cons_zero, List.set_cons_succ]
              all_goals
                first
                  | (refine Calm.skip ?_ ?_; focus rfl)
                  | (refine Calm.pure (v := ?_) (by rfl) ?_ ?_
                     rotate_left
                     focus (intro w hSw; go_simp <;> rfl))
                simp only [Act.put, List.setIfInBounds_toArray, List.set_cons_zero, List.set_cons_succ]
              all_goals
                first
                  | (refine Calm.skip ?_ ?_; focus rfl)
                  | (refine Calm.pure (v := ?_) (by rfl) ?_ ?_
                     rotate_left
                     focus (intro w hSw; go_simp <;> rfl))
                simp only [Act.put, List.setIfInBounds_toArray, List.set_cons_zero, List.set_cons_succ]
              all_goals
                first
                  | (refine Calm.skip ?_ ?_; focus rfl)
                  | (refine Calm.pure (v := ?_) (by rfl) ?_ ?_
                     rotate_left
                     focus (intro w hSw; go_simp <;> rfl))
                simp only [Act.put, List.setIfInBounds_toArray, List.set_cons_zero, List.set_cons_succ]
              all_goals
                refine Calm.pure (v := ?_) (by rfl) ?_ ?_
                rotate_left
                focus (intro w hSw; go_simp <;> rfl)
                simp only [Act.put, List.setIfInBounds_toArray, List.set_cons_zero, List.set_cons_succ]
              all_goals
                rintro w9 ⟨R09, _, _, hbel9⟩
              go_wp2_with fail
              go_ret
              exact ⟨rfl, hbel9⟩
          · have hlt' : ¬ (k : Int) < (l.length : Int) := by omega
            have hz : z = true := by
              rw [← HZ2.out, cb_iff]
              exact fun i h => HV.out i h (by omega)
            subst hz
            clear HR HV HZ2
            go_wp2_with fail
            go_ret
            exact ⟨rfl, hbel⟩
      · rw [e1, e2, e3]
        obtain rfl : z = false := by
          rw [← HZ.out]
          unfold ck
          simp [hk]
        clear HZ
        go_enter Try.func8, Try.ntmps8
        go_wp2
        go_ret
        exact ⟨rfl, bel_alloc (Below.refl _ _) _⟩
    · have h0' : 0 < (x.am.length : Int) + (x.wr.length : Int) + (x.el.length : Int) := by omega
      have w1 : IntKind.i64.wrap ((x.am.length : Int) + (x.wr.length : Int)) = (x.am.length : Int) + (x.wr.length : Int) := by rw [IntKind.wrap_i64]; omega
      have w2 : IntKind.i64.wrap ((x.am.length : Int) + (x.wr.length : Int) + (x.el.length : Int)) = (x.am.length : Int) + (x.wr.length : Int) + (x.el.length : Int) := by rw [IntKind.wrap_i64]; omega
      by_cases hk : x.k = 4
      all_goals
        obtain rfl : z = false := by
          rw [← HZ.out]
          unfold ck
          rw [decide_eq_false h0]; simp
        clear HZ
        go_enter Try.func8, Try.ntmps8
        go_wp2
        go_ret
        exact ⟨rfl, bel_alloc (Below.refl _ _) _⟩
  · by_cases hk : x.k = 4
    all_goals
      obtain rfl : z = false := by
        rw [← HZ.out]
        unfold ck
        rw [decide_eq_false hb]; simp
      clear HZ
      go_enter Try.func8, Try.ntmps8
      go_wp2
      go_ret
      exact ⟨rfl, bel_alloc (Below.refl _ _) _⟩
end Go.Proofs.Ythekfmodafmlgaa
