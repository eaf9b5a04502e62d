import Derived.Test.YtfjpbmdmkcihcaaGreatP16
/- Check of the document's answer. -/
namespace Go.Proofs.YtfjpbmdmkcihcaaGreat
open Go.RowKit

/-- All that Check asks of one element. -/
def okc (l : List El) (k : Nat) (h : k < l.length) : Bool := oke l k h && en l (l.length + 1) k
theorem okc_iff (l : List El) : (ce l && cr l) = true ↔ ∀ k (h : k < l.length), okc l k h = true := by
  rw [Bool.and_eq_true_iff, ce_iff, en_cr]; unfold okc
  constructor
  · rintro ⟨h1, h2⟩ k hk
    rw [h1 k hk, h2 k hk]
    rfl
  · intro h
    exact ⟨fun k hk => (Bool.and_eq_true_iff.1 (h k hk)).1, fun k hk => (Bool.and_eq_true_iff.1 (h k hk)).2⟩
theorem okc_not {l : List El} {b : Bool} (HZ : Hid ((ce l && cr l) = b)) {k : Nat} (h : k < l.length) (hf : okc l k h = false) : Hid (b = false) := by
  show b = false
  rw [← HZ.out]
  cases e : (ce l && cr l)
  · rfl
  · have := (okc_iff l).1 e k h
    rw [hf] at this
    cases this
set_option maxHeartbeats 8000000 in
set_option maxRecDepth 100000 in
theorem refCheck_any (x : X) (va vw vm ve : Value) (w00 : World) (h : Four w00 x va vw vm ve) (hs : Sm x) : Calls Tryz.prog 8 #[CV x.k x.b va vw vm ve] w00 (Tells (.bool (ck x)) w00) := by
  obtain ⟨z, HZ⟩ := hid_ex (ck x); rw [HZ.out]; obtain ⟨pa, ca', pw, cw, pm, cm, pe, ce', rfl, rfl, rfl, rfl⟩ := h.slices; have HA : Hid (EHas w00 (.slice pe x.el.length ce') x.el) := h.e; clear h; obtain ⟨ha, ht, hm, he, _, _⟩ := hs
  have w1 : IntKind.i64.wrap ((x.am.length : Int) + (x.wr.length : Int)) = (x.am.length : Int) + (x.wr.length : Int) := by rw [IntKind.wrap_i64]; omega
  have w2 : IntKind.i64.wrap ((x.am.length : Int) + (x.wr.length : Int) + (x.mb.length : Int)) = (x.am.length : Int) + (x.wr.length : Int) + (x.mb.length : Int) := by rw [IntKind.wrap_i64]; omega
  have hz : Hid (z = (decide (x.k = 5) && (decide (x.b = 0) && (decide (x.am.length + x.wr.length + x.mb.length = 0) && (ce x.el && cr x.el))))) := by
    show _ = _
    rw [← HZ.out]
    rfl
  clear HZ
  by_cases hk : x.k = 5
  · by_cases hb : x.b = 0
    · by_cases h0 : x.am.length + x.wr.length + x.mb.length = 0
      · have h0' : ¬ (0 : Int) < (x.am.length : Int) + (x.wr.length : Int) + (x.mb.length : Int) := by omega
        have HZ : Hid ((ce x.el && cr x.el) = z) := by
          show _ = _
          have := hz.out
          rw [this]
          simp [hk, hb, h0]
        clear hz; have HA2 := HA; obtain ⟨ys, hys, hA, hy⟩ := HA2.out
        have hyl : ys.length = x.el.length := by rw [← hys, List.length_map]
        have HR : Hid (SHas 9 w00 (.slice pe x.el.length ce') x.el.length (rows El.cells ys)) := hA; have HY : Hid (∀ y ∈ ys, MHas w00 y.2 y.1.gone) := hy
        have HL : Hid (∀ k (h1 : k < ys.length) (h2 : k < x.el.length), ys[k].1 = x.el[k]) := fun k h1 h2 => by
          subst_vars; simp only [← hys, List.getElem_map]
        clear hA hy hys HA2; have R0 := rw_new w00 27 (cvc 5 0 (.slice pa x.am.length ca') (.slice pw x.wr.length cw) (.slice pm x.mb.length cm) (.slice pe x.el.length ce')); have hb0 := bel_alloc (Below.refl w00.heap.size w00) (.cells (cvc 5 0 (.slice pa x.am.length ca') (.slice pw x.wr.length cw) (.slice pm x.mb.length cm) (.slice pe x.el.length ce')) 27); have cE0 := R0.cell 5
        go_enter Tryz.func8, Tryz.ntmps8
        go_wp2_with fail
        go_loopw [3] (fun vi wr => ∃ k : Nat, vi = .int .i64 k ∧ k ≤ x.el.length ∧ Hid (∀ i (h : i < x.el.length), i < k → okc x.el i h = true) ∧ wr.cell? ⟨w00.heap.size, 5, none⟩ = some (.slice pe x.el.length ce') ∧ Below w00.heap.size w00 wr) (fun vi _ => x.el.length - (intOf vi).toNat)
        case atStart => exact ⟨0, rfl, by omega, (show ∀ i (_ : i < x.el.length), i < 0 → _ from fun i _ h => by omega), cE0, hb0⟩
        case round =>
          clear R0 hb0 cE0; obtain ⟨k, rfl, hk, HV, cE, hbel⟩ := hrel
          by_cases hlt : k < x.el.length
          · have hlt' : (k : Int) < (x.el.length : Int) := by omega
            obtain ⟨g, o, rfl, hd0⟩ := HR.out.at (by omega); have hd := range_later hd0 hbel; have d : wr.rangeAt g (o + k * 9) (El.cells (ys[k]'(by omega))) := range_sub hd (k * 9) fun j u hu => rows_at El.len ys k (by omega) j u hu; have hyk := (HY.out ys[k] (List.getElem_mem _)).later hbel; obtain ⟨yy, HX⟩ := hid_ex (ys[k]'(by omega))
            have HX2 : Hid (x.el[k] = yy.1) := by
              show _ = _
              rw [← HL.out k (by omega) hlt, HX.out]
            rw [HX.out] at d hyk; obtain ⟨y, yv⟩ := yy; replace hyk : MHas wr yv y.gone := hyk; obtain ⟨py, cy, rfl⟩ := hyk.slice; replace d : wr.rangeAt g (o + k * 9) [Value.int .i64 y.p, .int .i64 y.s, .int .i64 y.i, .int .i64 y.t, .int .i64 y.q, .int .i64 y.u, .int .i64 y.j, .string y.x, .slice py y.gone.length cy] := d; replace HX2 : Hid (x.el[k] = y) := HX2; clear hd0 HR HY HX; have zb : (Tryz.prog.info? 60).map (·.size) = some [Value.int .i64 y.p, .int .i64 y.s, .int .i64 y.i, .int .i64 y.t, .int .i64 y.q, .int .i64 y.u, .int .i64 y.j, .string y.x, .slice py y.gone.length cy].length := size60; have R := rw_new wr 60 #[.int .i64 y.p, .int .i64 y.s, .int .i64 y.i, .int .i64 y.t, .int .i64 y.q, .int .i64 y.u, .int .i64 y.j, .string y.x, .slice py y.gone.length cy]; have hbA := bel_alloc (Below.refl wr.heap.size wr) (.cells #[.int .i64 y.p, .int .i64 y.s, .int .i64 y.i, .int .i64 y.t, .int .i64 y.q, .int .i64 y.u, .int .i64 y.j, .string y.x, .slice py y.gone.length cy] 60); replace hbel := bel_alloc hbel (.cells #[.int .i64 y.p, .int .i64 y.s, .int .i64 y.i, .int .i64 y.t, .int .i64 y.q, .int .i64 y.u, .int .i64 y.j, .string y.x, .slice py y.gone.length cy] 60); replace hyk := hyk.later hbA; have cE' := cE; replace cE := cell_later hbA cE; obtain ⟨e1, HE1⟩ := hid_ex (en x.el (x.el.length + 1) k)
            have C3 : ∀ w, Below w00.heap.size w00 w → Calls Tryz.prog 29 #[(.slice (some ⟨g, o, none⟩) x.el.length ce'), .int .i64 k] w (Tells (.bool e1) w) := fun w h => by rw [← HE1.out]; exact ends_any _ x.el k w (HA.out.later h) he hlt
            have C1L : ∀ w, Calls Tryz.prog 28 #[MV 0 0 0, MV 0 0 0] w (Tells (.bool (ls 0 0 0 0 0 0)) w) := fun w => refLess_any 0 0 0 0 0 0 w
            obtain ⟨y1, HY1⟩ := hid_ex (ca y.gone)
            have C1 : ∀ w, MHas w (.slice py y.gone.length cy) y.gone → Calls Tryz.prog 27 #[.slice py y.gone.length cy] w (Tells (.bool y1) w) := fun w h => by rw [← HY1.out]; exact refRising_any _ y.gone w h
            have HO1 : Hid (okc x.el k hlt = ((decide (1 ≤ y.i) && (decide (y.x.size ≤ 64) && y1)) && (decide (k = 0) || kl (kE (x.el[k - 1]'(by omega))) (kE y)) && e1)) := by
              show _ = _
              unfold okc oke ie im; rw [HX2.out, HY1.out, HE1.out]
            by_cases hi1 : 1 ≤ y.i
            · have hi2 : decide (y.i < 1) = false := by simp; omega
              by_cases hx1 : y.x.size ≤ 64
              · have hx2 : decide ((64 : Int) < (y.x.size : Int)) = false := by simp; omega
                cases y1
                · have HF := okc_not HZ hlt (show okc x.el k hlt = false by rw [HO1.out]; simp)
                  clear HO1 HY1 HE1 HX2; have e := HF.out; subst e; clear HF HV HZ
                  go_wp2_with (refine load_m 60 _ rfl rfl _ _ rfl d Tryz.underlying60 rfl zb ?_)
                  clear d
                  have hs : Calm.Stays (fun w' => Rw w' wr.heap.size 60 #[.int .i64 y.p, .int .i64 y.s, .int .i64 y.i, .int .i64 y.t, .int .i64 y.q, .int .i64 y.u, .int .i64 y.j, .string y.x, .slice py y.gone.length cy] ∧ MHas w' (.slice py y.gone.length cy) y.gone ∧ w'.cell? ⟨w00.heap.size, 5, none⟩ = some (.slice (some ⟨g, o, none⟩) x.el.length ce') ∧ Below w00.heap.size w00 w') := fun wa wb h hb => ⟨h.1.later hb, h.2.1.later hb, cell_later hb h.2.2.1, below_on h.2.2.2 hb⟩
                  refine Calm.region (by kernel_rfl) (by kernel_rfl) (fun w' => Rw w' wr.heap.size 60 #[.int .i64 y.p, .int .i64 y.s, .int .i64 y.i, .int .i64 y.t, .int .i64 y.q, .int .i64 y.u, .int .i64 y.j, .string y.x, .slice py y.gone.length cy] ∧ MHas w' (.slice py y.gone.length cy) y.gone ∧ w'.cell? ⟨w00.heap.size, 5, none⟩ = some (.slice (some ⟨g, o, none⟩) x.el.length ce') ∧ Below w00.heap.size w00 w') ⟨R, hyk, cE, hbel.drew⟩ ?_
                  iterate 2
                    all_goals
                      refine Calm.pure (v := ?_) (by rfl) ?_ ?_; rotate_left; focus (intro w hSw; go_simp <;> rfl)
                      simp only [put4]
                  all_goals
                    refine Calm.pure (v := .int .i64 y.i) (by rfl) ?_ ?_; focus (intro w hSw; have g1 : w.cell? ⟨wr.heap.size, 2, none⟩ = some (.int .i64 y.i) := hSw.1.cell 2; go_simp)
                    simp only [put4]
                  iterate 2
                    all_goals
                      refine Calm.pure (v := ?_) (by rfl) ?_ ?_; rotate_left; focus (intro w hSw; go_simp <;> rfl)
                      simp only [put4]
                  all_goals
                    first
                      | (refine Calm.skip ?_ ?_; focus rfl)
                      | (refine Calm.pure (v := ?_) (by rfl) ?_ ?_
                         rotate_left
                         focus (intro w hSw; go_simp <;> rfl))
                    simp only [put4]
                  all_goals
                    first
                      | (refine Calm.skip ?_ ?_; focus rfl)
                      | (refine Calm.pure (v := .string y.x) (by rfl) ?_ ?_
                         focus (intro w hSw; have g1 : w.cell? ⟨wr.heap.size, 7, none⟩ = some (.string y.x) := hSw.1.cell 7; go_simp))
                    simp only [put4]
                  iterate 2
                    all_goals
                      first
                        | (refine Calm.skip ?_ ?_; focus rfl)
                        | (refine Calm.pure (v := ?_) (by rfl) ?_ ?_
                           rotate_left
                           focus (intro w hSw; go_simp <;> rfl))
                      simp only [put4]
                  iterate 2
                    all_goals
                      refine Calm.pure (v := ?_) (by rfl) ?_ ?_; rotate_left; focus (intro w hSw; go_simp <;> rfl)
                      simp only [put4]
                  all_goals
                    first
                      | (refine Calm.skip ?_ ?_; focus rfl)
                      | (refine Calm.pure (v := ?_) (by rfl) ?_ ?_
                         rotate_left
                         focus (intro w hSw; go_simp <;> rfl))
                    simp only [put4]
                  all_goals
                    first
                      | (refine Calm.skip ?_ ?_; focus rfl)
                      | (refine Calm.pure (v := .slice py y.gone.length cy) (by rfl) ?_ ?_
                         focus (intro w hSw; have g1 : w.cell? ⟨wr.heap.size, 8, none⟩ = some (.slice py y.gone.length cy) := hSw.1.cell 8; go_simp))
                    simp only [put4]
                  all_goals
                    first
                      | (refine Calm.skip ?_ ?_; focus rfl)
                      | (refine Calm.call1s (by rfl) rfl rfl (by kernel_rfl) hs (fun w1 h => C1 w1 h.2.1) ?_)
                    simp only [put4]
                  all_goals
                    first
                      | (refine Calm.skip ?_ ?_; focus rfl)
                      | (refine Calm.pure (v := ?_) (by rfl) ?_ ?_
                         rotate_left
                         focus (intro w hSw; go_simp <;> rfl))
                    simp only [put4]
                  iterate 2
                    all_goals
                      refine Calm.pure (v := ?_) (by rfl) ?_ ?_; rotate_left; focus (intro w hSw; go_simp <;> rfl)
                      simp only [put4]
                  iterate 4
                    all_goals
                      first
                        | (refine Calm.skip ?_ ?_; focus rfl)
                        | (refine Calm.pure (v := ?_) (by rfl) ?_ ?_
                           rotate_left
                           focus (intro w hSw; go_simp <;> rfl))
                      simp only [put4]
                  all_goals
                    first
                      | (refine Calm.skip ?_ ?_; focus rfl)
                      | (refine Calm.pure (v := .slice (some ⟨g, o, none⟩) x.el.length ce') (by rfl) ?_ ?_
                         focus (intro w hSw; have g1 : w.cell? ⟨w00.heap.size, 5, none⟩ = some (.slice (some ⟨g, o, none⟩) x.el.length ce') := hSw.2.2.1; go_simp))
                    simp only [put4]
                  iterate 7
                    all_goals
                      first
                        | (refine Calm.skip ?_ ?_; focus rfl)
                        | (refine Calm.pure (v := ?_) (by rfl) ?_ ?_
                           rotate_left
                           focus (intro w hSw; go_simp <;> rfl))
                      simp only [put4]
                  all_goals
                    first
                      | (refine Calm.skip ?_ ?_; focus rfl)
                      | (refine Calm.call2s (by rfl) rfl rfl rfl (by kernel_rfl) hs (fun w1 h => C1L w1) ?_)
                    simp only [put4]
                  iterate 2
                    all_goals
                      first
                        | (refine Calm.skip ?_ ?_; focus rfl)
                        | (refine Calm.pure (v := ?_) (by rfl) ?_ ?_
                           rotate_left
                           focus (intro w hSw; go_simp <;> rfl))
                      simp only [put4]
                  iterate 2
                    all_goals
                      refine Calm.pure (v := ?_) (by rfl) ?_ ?_; rotate_left; focus (intro w hSw; go_simp <;> rfl)
                      simp only [put4]
                  all_goals
                    first
                      | (refine Calm.skip ?_ ?_; focus rfl)
                      | (refine Calm.pure (v := ?_) (by rfl) ?_ ?_
                         rotate_left
                         focus (intro w hSw; go_simp <;> rfl))
                    simp only [put4]
                  all_goals
                    first
                      | (refine Calm.skip ?_ ?_; focus rfl)
                      | (refine Calm.pure (v := .slice (some ⟨g, o, none⟩) x.el.length ce') (by rfl) ?_ ?_
                         focus (intro w hSw; have g1 : w.cell? ⟨w00.heap.size, 5, none⟩ = some (.slice (some ⟨g, o, none⟩) x.el.length ce') := hSw.2.2.1; go_simp))
                    simp only [put4]
                  all_goals
                    first
                      | (refine Calm.skip ?_ ?_; focus rfl)
                      | (refine Calm.pure (v := ?_) (by rfl) ?_ ?_
                         rotate_left
                         focus (intro w hSw; go_simp <;> rfl))
                    simp only [put4]
                  all_goals
                    first
                      | (refine Calm.skip ?_ ?_; focus rfl)
                      | (refine Calm.call2s (by rfl) rfl rfl rfl (by kernel_rfl) hs (fun w1 h => C3 w1 h.2.2.2) ?_)
                    simp only [put4]
                  all_goals
                    first
                      | (refine Calm.skip ?_ ?_; focus rfl)
                      | (refine Calm.pure (v := ?_) (by rfl) ?_ ?_
                         rotate_left
                         focus (intro w hSw; go_simp <;> rfl))
                    simp only [put4]
                  all_goals
                    refine Calm.pure (v := ?_) (by rfl) ?_ ?_; rotate_left; focus (intro w hSw; go_simp <;> rfl)
                    simp only [put4]
                  all_goals
                    rintro w9 ⟨_, _, _, hbel9⟩
                  go_wp2_with fail; go_ret; exact ⟨rfl, hbel9⟩
                · rcases Nat.eq_zero_or_pos k with rfl | hpos
                  · have HO2 : Hid (okc x.el 0 hlt = e1) := by
                      show _ = _
                      rw [HO1.out, decide_eq_true hi1, decide_eq_true hx1]
                      simp
                    clear HO1 HY1 HE1 HX2
                    cases e1
                    · have HF := okc_not HZ hlt HO2.out
                      clear HO2; have e := HF.out; subst e; clear HF HV HZ
                      go_wp2_with (refine load_m 60 _ rfl rfl _ _ rfl d Tryz.underlying60 rfl zb ?_)
                      clear d
                      have hs : Calm.Stays (fun w' => Rw w' wr.heap.size 60 #[.int .i64 y.p, .int .i64 y.s, .int .i64 y.i, .int .i64 y.t, .int .i64 y.q, .int .i64 y.u, .int .i64 y.j, .string y.x, .slice py y.gone.length cy] ∧ MHas w' (.slice py y.gone.length cy) y.gone ∧ w'.cell? ⟨w00.heap.size, 5, none⟩ = some (.slice (some ⟨g, o, none⟩) x.el.length ce') ∧ Below w00.heap.size w00 w') := fun wa wb h hb => ⟨h.1.later hb, h.2.1.later hb, cell_later hb h.2.2.1, below_on h.2.2.2 hb⟩
                      refine Calm.region (by kernel_rfl) (by kernel_rfl) (fun w' => Rw w' wr.heap.size 60 #[.int .i64 y.p, .int .i64 y.s, .int .i64 y.i, .int .i64 y.t, .int .i64 y.q, .int .i64 y.u, .int .i64 y.j, .string y.x, .slice py y.gone.length cy] ∧ MHas w' (.slice py y.gone.length cy) y.gone ∧ w'.cell? ⟨w00.heap.size, 5, none⟩ = some (.slice (some ⟨g, o, none⟩) x.el.length ce') ∧ Below w00.heap.size w00 w') ⟨R, hyk, cE, hbel.drew⟩ ?_
                      iterate 2
                        all_goals
                          refine Calm.pure (v := ?_) (by rfl) ?_ ?_; rotate_left; focus (intro w hSw; go_simp <;> rfl)
                          simp only [put4]
                      all_goals
                        refine Calm.pure (v := .int .i64 y.i) (by rfl) ?_ ?_; focus (intro w hSw; have g1 : w.cell? ⟨wr.heap.size, 2, none⟩ = some (.int .i64 y.i) := hSw.1.cell 2; go_simp)
                        simp only [put4]
                      iterate 2
                        all_goals
                          refine Calm.pure (v := ?_) (by rfl) ?_ ?_; rotate_left; focus (intro w hSw; go_simp <;> rfl)
                          simp only [put4]
                      all_goals
                        first
                          | (refine Calm.skip ?_ ?_; focus rfl)
                          | (refine Calm.pure (v := ?_) (by rfl) ?_ ?_
                             rotate_left
                             focus (intro w hSw; go_simp <;> rfl))
                        simp only [put4]
                      all_goals
                        first
                          | (refine Calm.skip ?_ ?_; focus rfl)
                          | (refine Calm.pure (v := .string y.x) (by rfl) ?_ ?_
                             focus (intro w hSw; have g1 : w.cell? ⟨wr.heap.size, 7, none⟩ = some (.string y.x) := hSw.1.cell 7; go_simp))
                        simp only [put4]
                      iterate 2
                        all_goals
                          first
                            | (refine Calm.skip ?_ ?_; focus rfl)
                            | (refine Calm.pure (v := ?_) (by rfl) ?_ ?_
                               rotate_left
                               focus (intro w hSw; go_simp <;> rfl))
                          simp only [put4]
                      iterate 2
                        all_goals
                          refine Calm.pure (v := ?_) (by rfl) ?_ ?_; rotate_left; focus (intro w hSw; go_simp <;> rfl)
                          simp only [put4]
                      all_goals
                        first
                          | (refine Calm.skip ?_ ?_; focus rfl)
                          | (refine Calm.pure (v := ?_) (by rfl) ?_ ?_
                             rotate_left
                             focus (intro w hSw; go_simp <;> rfl))
                        simp only [put4]
                      all_goals
                        first
                          | (refine Calm.skip ?_ ?_; focus rfl)
                          | (refine Calm.pure (v := .slice py y.gone.length cy) (by rfl) ?_ ?_
                             focus (intro w hSw; have g1 : w.cell? ⟨wr.heap.size, 8, none⟩ = some (.slice py y.gone.length cy) := hSw.1.cell 8; go_simp))
                        simp only [put4]
                      all_goals
                        first
                          | (refine Calm.skip ?_ ?_; focus rfl)
                          | (refine Calm.call1s (by rfl) rfl rfl (by kernel_rfl) hs (fun w1 h => C1 w1 h.2.1) ?_)
                        simp only [put4]
                      all_goals
                        first
                          | (refine Calm.skip ?_ ?_; focus rfl)
                          | (refine Calm.pure (v := ?_) (by rfl) ?_ ?_
                             rotate_left
                             focus (intro w hSw; go_simp <;> rfl))
                        simp only [put4]
                      iterate 2
                        all_goals
                          refine Calm.pure (v := ?_) (by rfl) ?_ ?_; rotate_left; focus (intro w hSw; go_simp <;> rfl)
                          simp only [put4]
                      iterate 4
                        all_goals
                          first
                            | (refine Calm.skip ?_ ?_; focus rfl)
                            | (refine Calm.pure (v := ?_) (by rfl) ?_ ?_
                               rotate_left
                               focus (intro w hSw; go_simp <;> rfl))
                          simp only [put4]
                      all_goals
                        first
                          | (refine Calm.skip ?_ ?_; focus rfl)
                          | (refine Calm.pure (v := .slice (some ⟨g, o, none⟩) x.el.length ce') (by rfl) ?_ ?_
                             focus (intro w hSw; have g1 : w.cell? ⟨w00.heap.size, 5, none⟩ = some (.slice (some ⟨g, o, none⟩) x.el.length ce') := hSw.2.2.1; go_simp))
                        simp only [put4]
                      iterate 7
                        all_goals
                          first
                            | (refine Calm.skip ?_ ?_; focus rfl)
                            | (refine Calm.pure (v := ?_) (by rfl) ?_ ?_
                               rotate_left
                               focus (intro w hSw; go_simp <;> rfl))
                          simp only [put4]
                      all_goals
                        first
                          | (refine Calm.skip ?_ ?_; focus rfl)
                          | (refine Calm.call2s (by rfl) rfl rfl rfl (by kernel_rfl) hs (fun w1 h => C1L w1) ?_)
                        simp only [put4]
                      iterate 2
                        all_goals
                          first
                            | (refine Calm.skip ?_ ?_; focus rfl)
                            | (refine Calm.pure (v := ?_) (by rfl) ?_ ?_
                               rotate_left
                               focus (intro w hSw; go_simp <;> rfl))
                          simp only [put4]
                      iterate 2
                        all_goals
                          refine Calm.pure (v := ?_) (by rfl) ?_ ?_; rotate_left; focus (intro w hSw; go_simp <;> rfl)
                          simp only [put4]
                      all_goals
                        first
                          | (refine Calm.skip ?_ ?_; focus rfl)
                          | (refine Calm.pure (v := ?_) (by rfl) ?_ ?_
                             rotate_left
                             focus (intro w hSw; go_simp <;> rfl))
                        simp only [put4]
                      all_goals
                        first
                          | (refine Calm.skip ?_ ?_; focus rfl)
                          | (refine Calm.pure (v := .slice (some ⟨g, o, none⟩) x.el.length ce') (by rfl) ?_ ?_
                             focus (intro w hSw; have g1 : w.cell? ⟨w00.heap.size, 5, none⟩ = some (.slice (some ⟨g, o, none⟩) x.el.length ce') := hSw.2.2.1; go_simp))
                        simp only [put4]
                      all_goals
                        first
                          | (refine Calm.skip ?_ ?_; focus rfl)
                          | (refine Calm.pure (v := ?_) (by rfl) ?_ ?_
                             rotate_left
                             focus (intro w hSw; go_simp <;> rfl))
                        simp only [put4]
                      all_goals
                        first
                          | (refine Calm.skip ?_ ?_; focus rfl)
                          | (refine Calm.call2s (by rfl) rfl rfl rfl (by kernel_rfl) hs (fun w1 h => C3 w1 h.2.2.2) ?_)
                        simp only [put4]
                      all_goals
                        first
                          | (refine Calm.skip ?_ ?_; focus rfl)
                          | (refine Calm.pure (v := ?_) (by rfl) ?_ ?_
                             rotate_left
                             focus (intro w hSw; go_simp <;> rfl))
                        simp only [put4]
                      all_goals
                        refine Calm.pure (v := ?_) (by rfl) ?_ ?_; rotate_left; focus (intro w hSw; go_simp <;> rfl)
                        simp only [put4]
                      all_goals
                        rintro w9 ⟨_, _, _, hbel9⟩
                      go_wp2_with fail; go_ret; exact ⟨rfl, hbel9⟩
                    · have HV2 : Hid (∀ i (h : i < x.el.length), i < 0 + 1 → okc x.el i h = true) := fun i h hi => by
                        obtain rfl : i = 0 := by omega
                        exact HO2.out
                      clear HO2; clear HV HZ
                      go_wp2_with (refine load_m 60 _ rfl rfl _ _ rfl d Tryz.underlying60 rfl zb ?_)
                      clear d
                      have hs : Calm.Stays (fun w' => Rw w' wr.heap.size 60 #[.int .i64 y.p, .int .i64 y.s, .int .i64 y.i, .int .i64 y.t, .int .i64 y.q, .int .i64 y.u, .int .i64 y.j, .string y.x, .slice py y.gone.length cy] ∧ MHas w' (.slice py y.gone.length cy) y.gone ∧ w'.cell? ⟨w00.heap.size, 5, none⟩ = some (.slice (some ⟨g, o, none⟩) x.el.length ce') ∧ Below w00.heap.size w00 w') := fun wa wb h hb => ⟨h.1.later hb, h.2.1.later hb, cell_later hb h.2.2.1, below_on h.2.2.2 hb⟩
                      refine Calm.region (by kernel_rfl) (by kernel_rfl) (fun w' => Rw w' wr.heap.size 60 #[.int .i64 y.p, .int .i64 y.s, .int .i64 y.i, .int .i64 y.t, .int .i64 y.q, .int .i64 y.u, .int .i64 y.j, .string y.x, .slice py y.gone.length cy] ∧ MHas w' (.slice py y.gone.length cy) y.gone ∧ w'.cell? ⟨w00.heap.size, 5, none⟩ = some (.slice (some ⟨g, o, none⟩) x.el.length ce') ∧ Below w00.heap.size w00 w') ⟨R, hyk, cE, hbel.drew⟩ ?_
                      iterate 2
                        all_goals
                          refine Calm.pure (v := ?_) (by rfl) ?_ ?_; rotate_left; focus (intro w hSw; go_simp <;> rfl)
                          simp only [put4]
                      all_goals
                        refine Calm.pure (v := .int .i64 y.i) (by rfl) ?_ ?_; focus (intro w hSw; have g1 : w.cell? ⟨wr.heap.size, 2, none⟩ = some (.int .i64 y.i) := hSw.1.cell 2; go_simp)
                        simp only [put4]
                      iterate 2
                        all_goals
                          refine Calm.pure (v := ?_) (by rfl) ?_ ?_; rotate_left; focus (intro w hSw; go_simp <;> rfl)
                          simp only [put4]
                      all_goals
                        first
                          | (refine Calm.skip ?_ ?_; focus rfl)
                          | (refine Calm.pure (v := ?_) (by rfl) ?_ ?_
                             rotate_left
                             focus (intro w hSw; go_simp <;> rfl))
                        simp only [put4]
                      all_goals
                        first
                          | (refine Calm.skip ?_ ?_; focus rfl)
                          | (refine Calm.pure (v := .string y.x) (by rfl) ?_ ?_
                             focus (intro w hSw; have g1 : w.cell? ⟨wr.heap.size, 7, none⟩ = some (.string y.x) := hSw.1.cell 7; go_simp))
                        simp only [put4]
                      iterate 2
                        all_goals
                          first
                            | (refine Calm.skip ?_ ?_; focus rfl)
                            | (refine Calm.pure (v := ?_) (by rfl) ?_ ?_
                               rotate_left
                               focus (intro w hSw; go_simp <;> rfl))
                          simp only [put4]
                      iterate 2
                        all_goals
                          refine Calm.pure (v := ?_) (by rfl) ?_ ?_; rotate_left; focus (intro w hSw; go_simp <;> rfl)
                          simp only [put4]
                      all_goals
                        first
                          | (refine Calm.skip ?_ ?_; focus rfl)
                          | (refine Calm.pure (v := ?_) (by rfl) ?_ ?_
                             rotate_left
                             focus (intro w hSw; go_simp <;> rfl))
                        simp only [put4]
                      all_goals
                        first
                          | (refine Calm.skip ?_ ?_; focus rfl)
                          | (refine Calm.pure (v := .slice py y.gone.length cy) (by rfl) ?_ ?_
                             focus (intro w hSw; have g1 : w.cell? ⟨wr.heap.size, 8, none⟩ = some (.slice py y.gone.length cy) := hSw.1.cell 8; go_simp))
                        simp only [put4]
                      all_goals
                        first
                          | (refine Calm.skip ?_ ?_; focus rfl)
                          | (refine Calm.call1s (by rfl) rfl rfl (by kernel_rfl) hs (fun w1 h => C1 w1 h.2.1) ?_)
                        simp only [put4]
                      all_goals
                        first
                          | (refine Calm.skip ?_ ?_; focus rfl)
                          | (refine Calm.pure (v := ?_) (by rfl) ?_ ?_
                             rotate_left
                             focus (intro w hSw; go_simp <;> rfl))
                        simp only [put4]
                      iterate 2
                        all_goals
                          refine Calm.pure (v := ?_) (by rfl) ?_ ?_; rotate_left; focus (intro w hSw; go_simp <;> rfl)
                          simp only [put4]
                      iterate 4
                        all_goals
                          first
                            | (refine Calm.skip ?_ ?_; focus rfl)
                            | (refine Calm.pure (v := ?_) (by rfl) ?_ ?_
                               rotate_left
                               focus (intro w hSw; go_simp <;> rfl))
                          simp only [put4]
                      all_goals
                        first
                          | (refine Calm.skip ?_ ?_; focus rfl)
                          | (refine Calm.pure (v := .slice (some ⟨g, o, none⟩) x.el.length ce') (by rfl) ?_ ?_
                             focus (intro w hSw; have g1 : w.cell? ⟨w00.heap.size, 5, none⟩ = some (.slice (some ⟨g, o, none⟩) x.el.length ce') := hSw.2.2.1; go_simp))
                        simp only [put4]
                      iterate 7
                        all_goals
                          first
                            | (refine Calm.skip ?_ ?_; focus rfl)
                            | (refine Calm.pure (v := ?_) (by rfl) ?_ ?_
                               rotate_left
                               focus (intro w hSw; go_simp <;> rfl))
                          simp only [put4]
                      all_goals
                        first
                          | (refine Calm.skip ?_ ?_; focus rfl)
                          | (refine Calm.call2s (by rfl) rfl rfl rfl (by kernel_rfl) hs (fun w1 h => C1L w1) ?_)
                        simp only [put4]
                      iterate 2
                        all_goals
                          first
                            | (refine Calm.skip ?_ ?_; focus rfl)
                            | (refine Calm.pure (v := ?_) (by rfl) ?_ ?_
                               rotate_left
                               focus (intro w hSw; go_simp <;> rfl))
                          simp only [put4]
                      iterate 2
                        all_goals
                          refine Calm.pure (v := ?_) (by rfl) ?_ ?_; rotate_left; focus (intro w hSw; go_simp <;> rfl)
                          simp only [put4]
                      all_goals
                        first
                          | (refine Calm.skip ?_ ?_; focus rfl)
                          | (refine Calm.pure (v := ?_) (by rfl) ?_ ?_
                             rotate_left
                             focus (intro w hSw; go_simp <;> rfl))
                        simp only [put4]
                      all_goals
                        first
                          | (refine Calm.skip ?_ ?_; focus rfl)
                          | (refine Calm.pure (v := .slice (some ⟨g, o, none⟩) x.el.length ce') (by rfl) ?_ ?_
                             focus (intro w hSw; have g1 : w.cell? ⟨w00.heap.size, 5, none⟩ = some (.slice (some ⟨g, o, none⟩) x.el.length ce') := hSw.2.2.1; go_simp))
                        simp only [put4]
                      all_goals
                        first
                          | (refine Calm.skip ?_ ?_; focus rfl)
                          | (refine Calm.pure (v := ?_) (by rfl) ?_ ?_
                             rotate_left
                             focus (intro w hSw; go_simp <;> rfl))
                        simp only [put4]
                      all_goals
                        first
                          | (refine Calm.skip ?_ ?_; focus rfl)
                          | (refine Calm.call2s (by rfl) rfl rfl rfl (by kernel_rfl) hs (fun w1 h => C3 w1 h.2.2.2) ?_)
                        simp only [put4]
                      all_goals
                        first
                          | (refine Calm.skip ?_ ?_; focus rfl)
                          | (refine Calm.pure (v := ?_) (by rfl) ?_ ?_
                             rotate_left
                             focus (intro w hSw; go_simp <;> rfl))
                        simp only [put4]
                      all_goals
                        refine Calm.pure (v := ?_) (by rfl) ?_ ?_; rotate_left; focus (intro w hSw; go_simp <;> rfl)
                        simp only [put4]
                      all_goals
                        rintro w9 ⟨_, _, cE9, hbel9⟩
                      go_wp2_with fail; go_roundw
                      case rel => exact ⟨0 + 1, by simp, by omega, HV2, cE9, hbel9⟩
                      case measure => simp [intOf]; omega
                  · obtain ⟨m, rfl⟩ : ∃ m, k = m + 1 := ⟨k - 1, by omega⟩
                    have d2' : wr.rangeAt g (o + m * 9) (El.cells (ys[m]'(by omega))) := range_sub hd (m * 9) fun j u hu => rows_at El.len ys m (by omega) j u hu; obtain ⟨uu, HU⟩ := hid_ex (ys[m]'(by omega))
                    have HU2 : Hid (x.el[m] = uu.1) := by
                      show _ = _
                      rw [← HL.out m (by omega) (by omega), HU.out]
                    rw [HU.out] at d2'; obtain ⟨u, uv⟩ := uu; replace HU2 : Hid (x.el[m] = u) := HU2
                    have d2 : (wr.alloc (.cells #[.int .i64 y.p, .int .i64 y.s, .int .i64 y.i, .int .i64 y.t, .int .i64 y.q, .int .i64 y.u, .int .i64 y.j, .string y.x, .slice py y.gone.length cy] 60)).rangeAt g (o + m * 9) [Value.int .i64 u.p, .int .i64 u.s, .int .i64 u.i] := range_later (range_sub (o := o + m * 9) (xs := El.cells (u, uv)) d2' 0 (fun j a ha => by
                      rw [Nat.zero_add]
                      match j, ha with
                      | 0, h => exact h
                      | 1, h => exact h
                      | 2, h => exact h
                      | j + 3, h => simp at h)) hbA
                    have d3 : (wr.alloc (.cells #[.int .i64 y.p, .int .i64 y.s, .int .i64 y.i, .int .i64 y.t, .int .i64 y.q, .int .i64 y.u, .int .i64 y.j, .string y.x, .slice py y.gone.length cy] 60)).rangeAt wr.heap.size 0 [Value.int .i64 y.p, .int .i64 y.s, .int .i64 y.i] := R.range 0 _ (fun j a ha => by
                      rw [Nat.zero_add]
                      match j, ha with
                      | 0, h => exact h
                      | 1, h => exact h
                      | 2, h => exact h
                      | j + 3, h => simp at h)
                    have zu : (Tryz.prog.info? 36).map (·.size) = some [Value.int .i64 u.p, .int .i64 u.s, .int .i64 u.i].length := size36; have zy : (Tryz.prog.info? 36).map (·.size) = some [Value.int .i64 y.p, .int .i64 y.s, .int .i64 y.i].length := size36
                    have hm1 : IntKind.i64.wrap (((m + 1 : Nat) : Int) - 1) = (m : Int) := by rw [IntKind.wrap_i64]; omega
                    have hm3 : IntKind.i64.wrap (m : Int) = (m : Int) := by rw [IntKind.wrap_i64]; omega
                    have hpos' : (0 : Int) < ((m + 1 : Nat) : Int) := by omega
                    have hm0 : (0 : Int) ≤ (m : Int) := by omega
                    have hm2 : (m : Int) < (x.el.length : Int) := by omega
                    obtain ⟨y2, HY2⟩ := hid_ex (kl (kE u) (kE y))
                    have C2 : ∀ w, Calls Tryz.prog 28 #[MV u.p u.s u.i, MV y.p y.s y.i] w (Tells (.bool y2) w) := fun w => by rw [← HY2.out]; exact refLess_any u.p u.s u.i y.p y.s y.i w
                    have HO2 : Hid (okc x.el (m + 1) hlt = (y2 && e1)) := by
                      show _ = _
                      rw [HO1.out, decide_eq_true hi1, decide_eq_true hx1, ← HY2.out, ← HU2.out]
                      simp
                    clear HU HU2 HO1 HY1 HE1 HX2 HY2 d2'
                    cases y2
                    · have HF := okc_not HZ hlt HO2.out
                      clear HO2; have e := HF.out; subst e; clear HF HV HZ
                      go_wp2_with (refine load_m 60 _ rfl rfl _ _ rfl d Tryz.underlying60 rfl zb ?_)
                      clear d
                      have hs : Calm.Stays (fun w' => Rw w' wr.heap.size 60 #[.int .i64 y.p, .int .i64 y.s, .int .i64 y.i, .int .i64 y.t, .int .i64 y.q, .int .i64 y.u, .int .i64 y.j, .string y.x, .slice py y.gone.length cy] ∧ MHas w' (.slice py y.gone.length cy) y.gone ∧ w'.cell? ⟨w00.heap.size, 5, none⟩ = some (.slice (some ⟨g, o, none⟩) x.el.length ce') ∧ w'.rangeAt g (o + m * 9) [Value.int .i64 u.p, .int .i64 u.s, .int .i64 u.i] ∧ w'.rangeAt wr.heap.size 0 [Value.int .i64 y.p, .int .i64 y.s, .int .i64 y.i] ∧ Below w00.heap.size w00 w') := fun wa wb h hb => ⟨h.1.later hb, h.2.1.later hb, cell_later hb h.2.2.1, range_later h.2.2.2.1 hb, range_later h.2.2.2.2.1 hb, below_on h.2.2.2.2.2 hb⟩
                      refine Calm.region (by kernel_rfl) (by kernel_rfl) (fun w' => Rw w' wr.heap.size 60 #[.int .i64 y.p, .int .i64 y.s, .int .i64 y.i, .int .i64 y.t, .int .i64 y.q, .int .i64 y.u, .int .i64 y.j, .string y.x, .slice py y.gone.length cy] ∧ MHas w' (.slice py y.gone.length cy) y.gone ∧ w'.cell? ⟨w00.heap.size, 5, none⟩ = some (.slice (some ⟨g, o, none⟩) x.el.length ce') ∧ w'.rangeAt g (o + m * 9) [Value.int .i64 u.p, .int .i64 u.s, .int .i64 u.i] ∧ w'.rangeAt wr.heap.size 0 [Value.int .i64 y.p, .int .i64 y.s, .int .i64 y.i] ∧ Below w00.heap.size w00 w') ⟨R, hyk, cE, d2, d3, hbel.drew⟩ ?_
                      iterate 2
                        all_goals
                          refine Calm.pure (v := ?_) (by rfl) ?_ ?_; rotate_left; focus (intro w hSw; go_simp <;> rfl)
                          simp only [put4]
                      all_goals
                        refine Calm.pure (v := .int .i64 y.i) (by rfl) ?_ ?_; focus (intro w hSw; have g1 : w.cell? ⟨wr.heap.size, 2, none⟩ = some (.int .i64 y.i) := hSw.1.cell 2; go_simp)
                        simp only [put4]
                      iterate 2
                        all_goals
                          refine Calm.pure (v := ?_) (by rfl) ?_ ?_; rotate_left; focus (intro w hSw; go_simp <;> rfl)
                          simp only [put4]
                      all_goals
                        first
                          | (refine Calm.skip ?_ ?_; focus rfl)
                          | (refine Calm.pure (v := ?_) (by rfl) ?_ ?_
                             rotate_left
                             focus (intro w hSw; go_simp <;> rfl))
                        simp only [put4]
                      all_goals
                        first
                          | (refine Calm.skip ?_ ?_; focus rfl)
                          | (refine Calm.pure (v := .string y.x) (by rfl) ?_ ?_
                             focus (intro w hSw; have g1 : w.cell? ⟨wr.heap.size, 7, none⟩ = some (.string y.x) := hSw.1.cell 7; go_simp))
                        simp only [put4]
                      iterate 2
                        all_goals
                          first
                            | (refine Calm.skip ?_ ?_; focus rfl)
                            | (refine Calm.pure (v := ?_) (by rfl) ?_ ?_
                               rotate_left
                               focus (intro w hSw; go_simp <;> rfl))
                          simp only [put4]
                      iterate 2
                        all_goals
                          refine Calm.pure (v := ?_) (by rfl) ?_ ?_; rotate_left; focus (intro w hSw; go_simp <;> rfl)
                          simp only [put4]
                      all_goals
                        first
                          | (refine Calm.skip ?_ ?_; focus rfl)
                          | (refine Calm.pure (v := ?_) (by rfl) ?_ ?_
                             rotate_left
                             focus (intro w hSw; go_simp <;> rfl))
                        simp only [put4]
                      all_goals
                        first
                          | (refine Calm.skip ?_ ?_; focus rfl)
                          | (refine Calm.pure (v := .slice py y.gone.length cy) (by rfl) ?_ ?_
                             focus (intro w hSw; have g1 : w.cell? ⟨wr.heap.size, 8, none⟩ = some (.slice py y.gone.length cy) := hSw.1.cell 8; go_simp))
                        simp only [put4]
                      all_goals
                        first
                          | (refine Calm.skip ?_ ?_; focus rfl)
                          | (refine Calm.call1s (by rfl) rfl rfl (by kernel_rfl) hs (fun w1 h => C1 w1 h.2.1) ?_)
                        simp only [put4]
                      all_goals
                        first
                          | (refine Calm.skip ?_ ?_; focus rfl)
                          | (refine Calm.pure (v := ?_) (by rfl) ?_ ?_
                             rotate_left
                             focus (intro w hSw; go_simp <;> rfl))
                        simp only [put4]
                      iterate 2
                        all_goals
                          refine Calm.pure (v := ?_) (by rfl) ?_ ?_; rotate_left; focus (intro w hSw; go_simp <;> rfl)
                          simp only [put4]
                      iterate 4
                        all_goals
                          first
                            | (refine Calm.skip ?_ ?_; focus rfl)
                            | (refine Calm.pure (v := ?_) (by rfl) ?_ ?_
                               rotate_left
                               focus (intro w hSw; go_simp <;> rfl))
                          simp only [put4]
                      all_goals
                        first
                          | (refine Calm.skip ?_ ?_; focus rfl)
                          | (refine Calm.pure (v := .slice (some ⟨g, o, none⟩) x.el.length ce') (by rfl) ?_ ?_
                             focus (intro w hSw; have g1 : w.cell? ⟨w00.heap.size, 5, none⟩ = some (.slice (some ⟨g, o, none⟩) x.el.length ce') := hSw.2.2.1; go_simp))
                        simp only [put4]
                      iterate 4
                        all_goals
                          first
                            | (refine Calm.skip ?_ ?_; focus rfl)
                            | (refine Calm.pure (v := ?_) (by rfl) ?_ ?_
                               rotate_left
                               focus (intro w hSw; go_simp <;> rfl))
                          simp only [put4]
                      all_goals
                        first
                          | (refine Calm.skip ?_ ?_; focus rfl)
                          | (first | (refine Calm.loadM 36 Tryz.underlying36 rfl zu (by rfl) _ rfl rfl (fun _ h => h.2.2.2.1) ?_) | (refine Calm.loadM 36 Tryz.underlying36 rfl zy (by rfl) _ rfl rfl (fun _ h => h.2.2.2.2.1) ?_))
                        simp only [put4]
                      all_goals
                        first
                          | (refine Calm.skip ?_ ?_; focus rfl)
                          | (refine Calm.pure (v := ?_) (by rfl) ?_ ?_
                             rotate_left
                             focus (intro w hSw; go_simp <;> rfl))
                        simp only [put4]
                      all_goals
                        first
                          | (refine Calm.skip ?_ ?_; focus rfl)
                          | (first | (refine Calm.loadM 36 Tryz.underlying36 rfl zu (by rfl) _ rfl rfl (fun _ h => h.2.2.2.1) ?_) | (refine Calm.loadM 36 Tryz.underlying36 rfl zy (by rfl) _ rfl rfl (fun _ h => h.2.2.2.2.1) ?_))
                        simp only [put4]
                      all_goals
                        first
                          | (refine Calm.skip ?_ ?_; focus rfl)
                          | (refine Calm.call2s (by rfl) rfl rfl rfl (by kernel_rfl) hs (fun w1 h => C2 w1) ?_)
                        simp only [put4]
                      iterate 2
                        all_goals
                          first
                            | (refine Calm.skip ?_ ?_; focus rfl)
                            | (refine Calm.pure (v := ?_) (by rfl) ?_ ?_
                               rotate_left
                               focus (intro w hSw; go_simp <;> rfl))
                          simp only [put4]
                      iterate 2
                        all_goals
                          refine Calm.pure (v := ?_) (by rfl) ?_ ?_; rotate_left; focus (intro w hSw; go_simp <;> rfl)
                          simp only [put4]
                      all_goals
                        first
                          | (refine Calm.skip ?_ ?_; focus rfl)
                          | (refine Calm.pure (v := ?_) (by rfl) ?_ ?_
                             rotate_left
                             focus (intro w hSw; go_simp <;> rfl))
                        simp only [put4]
                      all_goals
                        first
                          | (refine Calm.skip ?_ ?_; focus rfl)
                          | (refine Calm.pure (v := .slice (some ⟨g, o, none⟩) x.el.length ce') (by rfl) ?_ ?_
                             focus (intro w hSw; have g1 : w.cell? ⟨w00.heap.size, 5, none⟩ = some (.slice (some ⟨g, o, none⟩) x.el.length ce') := hSw.2.2.1; go_simp))
                        simp only [put4]
                      all_goals
                        first
                          | (refine Calm.skip ?_ ?_; focus rfl)
                          | (refine Calm.pure (v := ?_) (by rfl) ?_ ?_
                             rotate_left
                             focus (intro w hSw; go_simp <;> rfl))
                        simp only [put4]
                      all_goals
                        first
                          | (refine Calm.skip ?_ ?_; focus rfl)
                          | (refine Calm.call2s (by rfl) rfl rfl rfl (by kernel_rfl) hs (fun w1 h => C3 w1 h.2.2.2.2.2) ?_)
                        simp only [put4]
                      all_goals
                        first
                          | (refine Calm.skip ?_ ?_; focus rfl)
                          | (refine Calm.pure (v := ?_) (by rfl) ?_ ?_
                             rotate_left
                             focus (intro w hSw; go_simp <;> rfl))
                        simp only [put4]
                      all_goals
                        refine Calm.pure (v := ?_) (by rfl) ?_ ?_; rotate_left; focus (intro w hSw; go_simp <;> rfl)
                        simp only [put4]
                      all_goals
                        rintro w9 ⟨_, _, _, _, _, hbel9⟩
                      go_wp2_with fail; go_ret; exact ⟨rfl, hbel9⟩
                    · cases e1
                      · have HF := okc_not HZ hlt HO2.out
                        clear HO2; have e := HF.out; subst e; clear HF HV HZ
                        go_wp2_with (refine load_m 60 _ rfl rfl _ _ rfl d Tryz.underlying60 rfl zb ?_)
                        clear d
                        have hs : Calm.Stays (fun w' => Rw w' wr.heap.size 60 #[.int .i64 y.p, .int .i64 y.s, .int .i64 y.i, .int .i64 y.t, .int .i64 y.q, .int .i64 y.u, .int .i64 y.j, .string y.x, .slice py y.gone.length cy] ∧ MHas w' (.slice py y.gone.length cy) y.gone ∧ w'.cell? ⟨w00.heap.size, 5, none⟩ = some (.slice (some ⟨g, o, none⟩) x.el.length ce') ∧ w'.rangeAt g (o + m * 9) [Value.int .i64 u.p, .int .i64 u.s, .int .i64 u.i] ∧ w'.rangeAt wr.heap.size 0 [Value.int .i64 y.p, .int .i64 y.s, .int .i64 y.i] ∧ Below w00.heap.size w00 w') := fun wa wb h hb => ⟨h.1.later hb, h.2.1.later hb, cell_later hb h.2.2.1, range_later h.2.2.2.1 hb, range_later h.2.2.2.2.1 hb, below_on h.2.2.2.2.2 hb⟩
                        refine Calm.region (by kernel_rfl) (by kernel_rfl) (fun w' => Rw w' wr.heap.size 60 #[.int .i64 y.p, .int .i64 y.s, .int .i64 y.i, .int .i64 y.t, .int .i64 y.q, .int .i64 y.u, .int .i64 y.j, .string y.x, .slice py y.gone.length cy] ∧ MHas w' (.slice py y.gone.length cy) y.gone ∧ w'.cell? ⟨w00.heap.size, 5, none⟩ = some (.slice (some ⟨g, o, none⟩) x.el.length ce') ∧ w'.rangeAt g (o + m * 9) [Value.int .i64 u.p, .int .i64 u.s, .int .i64 u.i] ∧ w'.rangeAt wr.heap.size 0 [Value.int .i64 y.p, .int .i64 y.s, .int .i64 y.i] ∧ Below w00.heap.size w00 w') ⟨R, hyk, cE, d2, d3, hbel.drew⟩ ?_
                        iterate 2
                          all_goals
                            refine Calm.pure (v := ?_) (by rfl) ?_ ?_; rotate_left; focus (intro w hSw; go_simp <;> rfl)
                            simp only [put4]
                        all_goals
                          refine Calm.pure (v := .int .i64 y.i) (by rfl) ?_ ?_; focus (intro w hSw; have g1 : w.cell? ⟨wr.heap.size, 2, none⟩ = some (.int .i64 y.i) := hSw.1.cell 2; go_simp)
                          simp only [put4]
                        iterate 2
                          all_goals
                            refine Calm.pure (v := ?_) (by rfl) ?_ ?_; rotate_left; focus (intro w hSw; go_simp <;> rfl)
                            simp only [put4]
                        all_goals
                          first
                            | (refine Calm.skip ?_ ?_; focus rfl)
                            | (refine Calm.pure (v := ?_) (by rfl) ?_ ?_
                               rotate_left
                               focus (intro w hSw; go_simp <;> rfl))
                          simp only [put4]
                        all_goals
                          first
                            | (refine Calm.skip ?_ ?_; focus rfl)
                            | (refine Calm.pure (v := .string y.x) (by rfl) ?_ ?_
                               focus (intro w hSw; have g1 : w.cell? ⟨wr.heap.size, 7, none⟩ = some (.string y.x) := hSw.1.cell 7; go_simp))
                          simp only [put4]
                        iterate 2
                          all_goals
                            first
                              | (refine Calm.skip ?_ ?_; focus rfl)
                              | (refine Calm.pure (v := ?_) (by rfl) ?_ ?_
                                 rotate_left
                                 focus (intro w hSw; go_simp <;> rfl))
                            simp only [put4]
                        iterate 2
                          all_goals
                            refine Calm.pure (v := ?_) (by rfl) ?_ ?_; rotate_left; focus (intro w hSw; go_simp <;> rfl)
                            simp only [put4]
                        all_goals
                          first
                            | (refine Calm.skip ?_ ?_; focus rfl)
                            | (refine Calm.pure (v := ?_) (by rfl) ?_ ?_
                               rotate_left
                               focus (intro w hSw; go_simp <;> rfl))
                          simp only [put4]
                        all_goals
                          first
                            | (refine Calm.skip ?_ ?_; focus rfl)
                            | (refine Calm.pure (v := .slice py y.gone.length cy) (by rfl) ?_ ?_
                               focus (intro w hSw; have g1 : w.cell? ⟨wr.heap.size, 8, none⟩ = some (.slice py y.gone.length cy) := hSw.1.cell 8; go_simp))
                          simp only [put4]
                        all_goals
                          first
                            | (refine Calm.skip ?_ ?_; focus rfl)
                            | (refine Calm.call1s (by rfl) rfl rfl (by kernel_rfl) hs (fun w1 h => C1 w1 h.2.1) ?_)
                          simp only [put4]
                        all_goals
                          first
                            | (refine Calm.skip ?_ ?_; focus rfl)
                            | (refine Calm.pure (v := ?_) (by rfl) ?_ ?_
                               rotate_left
                               focus (intro w hSw; go_simp <;> rfl))
                          simp only [put4]
                        iterate 2
                          all_goals
                            refine Calm.pure (v := ?_) (by rfl) ?_ ?_; rotate_left; focus (intro w hSw; go_simp <;> rfl)
                            simp only [put4]
                        iterate 4
                          all_goals
                            first
                              | (refine Calm.skip ?_ ?_; focus rfl)
                              | (refine Calm.pure (v := ?_) (by rfl) ?_ ?_
                                 rotate_left
                                 focus (intro w hSw; go_simp <;> rfl))
                            simp only [put4]
                        all_goals
                          first
                            | (refine Calm.skip ?_ ?_; focus rfl)
                            | (refine Calm.pure (v := .slice (some ⟨g, o, none⟩) x.el.length ce') (by rfl) ?_ ?_
                               focus (intro w hSw; have g1 : w.cell? ⟨w00.heap.size, 5, none⟩ = some (.slice (some ⟨g, o, none⟩) x.el.length ce') := hSw.2.2.1; go_simp))
                          simp only [put4]
                        iterate 4
                          all_goals
                            first
                              | (refine Calm.skip ?_ ?_; focus rfl)
                              | (refine Calm.pure (v := ?_) (by rfl) ?_ ?_
                                 rotate_left
                                 focus (intro w hSw; go_simp <;> rfl))
                            simp only [put4]
                        all_goals
                          first
                            | (refine Calm.skip ?_ ?_; focus rfl)
                            | (first | (refine Calm.loadM 36 Tryz.underlying36 rfl zu (by rfl) _ rfl rfl (fun _ h => h.2.2.2.1) ?_) | (refine Calm.loadM 36 Tryz.underlying36 rfl zy (by rfl) _ rfl rfl (fun _ h => h.2.2.2.2.1) ?_))
                          simp only [put4]
                        all_goals
                          first
                            | (refine Calm.skip ?_ ?_; focus rfl)
                            | (refine Calm.pure (v := ?_) (by rfl) ?_ ?_
                               rotate_left
                               focus (intro w hSw; go_simp <;> rfl))
                          simp only [put4]
                        all_goals
                          first
                            | (refine Calm.skip ?_ ?_; focus rfl)
                            | (first | (refine Calm.loadM 36 Tryz.underlying36 rfl zu (by rfl) _ rfl rfl (fun _ h => h.2.2.2.1) ?_) | (refine Calm.loadM 36 Tryz.underlying36 rfl zy (by rfl) _ rfl rfl (fun _ h => h.2.2.2.2.1) ?_))
                          simp only [put4]
                        all_goals
                          first
                            | (refine Calm.skip ?_ ?_; focus rfl)
                            | (refine Calm.call2s (by rfl) rfl rfl rfl (by kernel_rfl) hs (fun w1 h => C2 w1) ?_)
                          simp only [put4]
                        iterate 2
                          all_goals
                            first
                              | (refine Calm.skip ?_ ?_; focus rfl)
                              | (refine Calm.pure (v := ?_) (by rfl) ?_ ?_
                                 rotate_left
                                 focus (intro w hSw; go_simp <;> rfl))
                            simp only [put4]
                        iterate 2
                          all_goals
                            refine Calm.pure (v := ?_) (by rfl) ?_ ?_; rotate_left; focus (intro w hSw; go_simp <;> rfl)
                            simp only [put4]
                        all_goals
                          first
                            | (refine Calm.skip ?_ ?_; focus rfl)
                            | (refine Calm.pure (v := ?_) (by rfl) ?_ ?_
                               rotate_left
                               focus (intro w hSw; go_simp <;> rfl))
                          simp only [put4]
                        all_goals
                          first
                            | (refine Calm.skip ?_ ?_; focus rfl)
                            | (refine Calm.pure (v := .slice (some ⟨g, o, none⟩) x.el.length ce') (by rfl) ?_ ?_
                               focus (intro w hSw; have g1 : w.cell? ⟨w00.heap.size, 5, none⟩ = some (.slice (some ⟨g, o, none⟩) x.el.length ce') := hSw.2.2.1; go_simp))
                          simp only [put4]
                        all_goals
                          first
                            | (refine Calm.skip ?_ ?_; focus rfl)
                            | (refine Calm.pure (v := ?_) (by rfl) ?_ ?_
                               rotate_left
                               focus (intro w hSw; go_simp <;> rfl))
                          simp only [put4]
                        all_goals
                          first
                            | (refine Calm.skip ?_ ?_; focus rfl)
                            | (refine Calm.call2s (by rfl) rfl rfl rfl (by kernel_rfl) hs (fun w1 h => C3 w1 h.2.2.2.2.2) ?_)
                          simp only [put4]
                        all_goals
                          first
                            | (refine Calm.skip ?_ ?_; focus rfl)
                            | (refine Calm.pure (v := ?_) (by rfl) ?_ ?_
                               rotate_left
                               focus (intro w hSw; go_simp <;> rfl))
                          simp only [put4]
                        all_goals
                          refine Calm.pure (v := ?_) (by rfl) ?_ ?_; rotate_left; focus (intro w hSw; go_simp <;> rfl)
                          simp only [put4]
                        all_goals
                          rintro w9 ⟨_, _, _, _, _, hbel9⟩
                        go_wp2_with fail; go_ret; exact ⟨rfl, hbel9⟩
                      · have HV2 : Hid (∀ i (h : i < x.el.length), i < m + 1 + 1 → okc x.el i h = true) := fun i h hi => by
                          rcases Nat.lt_or_ge i (m + 1) with h' | h'
                          · exact HV.out i h h'
                          · obtain rfl : i = m + 1 := by omega
                            exact HO2.out
                        clear HO2; clear HV HZ
                        go_wp2_with (refine load_m 60 _ rfl rfl _ _ rfl d Tryz.underlying60 rfl zb ?_)
                        clear d
                        have hs : Calm.Stays (fun w' => Rw w' wr.heap.size 60 #[.int .i64 y.p, .int .i64 y.s, .int .i64 y.i, .int .i64 y.t, .int .i64 y.q, .int .i64 y.u, .int .i64 y.j, .string y.x, .slice py y.gone.length cy] ∧ MHas w' (.slice py y.gone.length cy) y.gone ∧ w'.cell? ⟨w00.heap.size, 5, none⟩ = some (.slice (some ⟨g, o, none⟩) x.el.length ce') ∧ w'.rangeAt g (o + m * 9) [Value.int .i64 u.p, .int .i64 u.s, .int .i64 u.i] ∧ w'.rangeAt wr.heap.size 0 [Value.int .i64 y.p, .int .i64 y.s, .int .i64 y.i] ∧ Below w00.heap.size w00 w') := fun wa wb h hb => ⟨h.1.later hb, h.2.1.later hb, cell_later hb h.2.2.1, range_later h.2.2.2.1 hb, range_later h.2.2.2.2.1 hb, below_on h.2.2.2.2.2 hb⟩
                        refine Calm.region (by kernel_rfl) (by kernel_rfl) (fun w' => Rw w' wr.heap.size 60 #[.int .i64 y.p, .int .i64 y.s, .int .i64 y.i, .int .i64 y.t, .int .i64 y.q, .int .i64 y.u, .int .i64 y.j, .string y.x, .slice py y.gone.length cy] ∧ MHas w' (.slice py y.gone.length cy) y.gone ∧ w'.cell? ⟨w00.heap.size, 5, none⟩ = some (.slice (some ⟨g, o, none⟩) x.el.length ce') ∧ w'.rangeAt g (o + m * 9) [Value.int .i64 u.p, .int .i64 u.s, .int .i64 u.i] ∧ w'.rangeAt wr.heap.size 0 [Value.int .i64 y.p, .int .i64 y.s, .int .i64 y.i] ∧ Below w00.heap.size w00 w') ⟨R, hyk, cE, d2, d3, hbel.drew⟩ ?_
                        iterate 2
                          all_goals
                            refine Calm.pure (v := ?_) (by rfl) ?_ ?_; rotate_left; focus (intro w hSw; go_simp <;> rfl)
                            simp only [put4]
                        all_goals
                          refine Calm.pure (v := .int .i64 y.i) (by rfl) ?_ ?_; focus (intro w hSw; have g1 : w.cell? ⟨wr.heap.size, 2, none⟩ = some (.int .i64 y.i) := hSw.1.cell 2; go_simp)
                          simp only [put4]
                        iterate 2
                          all_goals
                            refine Calm.pure (v := ?_) (by rfl) ?_ ?_; rotate_left; focus (intro w hSw; go_simp <;> rfl)
                            simp only [put4]
                        all_goals
                          first
                            | (refine Calm.skip ?_ ?_; focus rfl)
                            | (refine Calm.pure (v := ?_) (by rfl) ?_ ?_
                               rotate_left
                               focus (intro w hSw; go_simp <;> rfl))
                          simp only [put4]
                        all_goals
                          first
                            | (refine Calm.skip ?_ ?_; focus rfl)
                            | (refine Calm.pure (v := .string y.x) (by rfl) ?_ ?_
                               focus (intro w hSw; have g1 : w.cell? ⟨wr.heap.size, 7, none⟩ = some (.string y.x) := hSw.1.cell 7; go_simp))
                          simp only [put4]
                        iterate 2
                          all_goals
                            first
                              | (refine Calm.skip ?_ ?_; focus rfl)
                              | (refine Calm.pure (v := ?_) (by rfl) ?_ ?_
                                 rotate_left
                                 focus (intro w hSw; go_simp <;> rfl))
                            simp only [put4]
                        iterate 2
                          all_goals
                            refine Calm.pure (v := ?_) (by rfl) ?_ ?_; rotate_left; focus (intro w hSw; go_simp <;> rfl)
                            simp only [put4]
                        all_goals
                          first
                            | (refine Calm.skip ?_ ?_; focus rfl)
                            | (refine Calm.pure (v := ?_) (by rfl) ?_ ?_
                               rotate_left
                               focus (intro w hSw; go_simp <;> rfl))
                          simp only [put4]
                        all_goals
                          first
                            | (refine Calm.skip ?_ ?_; focus rfl)
                            | (refine Calm.pure (v := .slice py y.gone.length cy) (by rfl) ?_ ?_
                               focus (intro w hSw; have g1 : w.cell? ⟨wr.heap.size, 8, none⟩ = some (.slice py y.gone.length cy) := hSw.1.cell 8; go_simp))
                          simp only [put4]
                        all_goals
                          first
                            | (refine Calm.skip ?_ ?_; focus rfl)
                            | (refine Calm.call1s (by rfl) rfl rfl (by kernel_rfl) hs (fun w1 h => C1 w1 h.2.1) ?_)
                          simp only [put4]
                        all_goals
                          first
                            | (refine Calm.skip ?_ ?_; focus rfl)
                            | (refine Calm.pure (v := ?_) (by rfl) ?_ ?_
                               rotate_left
                               focus (intro w hSw; go_simp <;> rfl))
                          simp only [put4]
                        iterate 2
                          all_goals
                            refine Calm.pure (v := ?_) (by rfl) ?_ ?_; rotate_left; focus (intro w hSw; go_simp <;> rfl)
                            simp only [put4]
                        iterate 4
                          all_goals
                            first
                              | (refine Calm.skip ?_ ?_; focus rfl)
                              | (refine Calm.pure (v := ?_) (by rfl) ?_ ?_
                                 rotate_left
                                 focus (intro w hSw; go_simp <;> rfl))
                            simp only [put4]
                        all_goals
                          first
                            | (refine Calm.skip ?_ ?_; focus rfl)
                            | (refine Calm.pure (v := .slice (some ⟨g, o, none⟩) x.el.length ce') (by rfl) ?_ ?_
                               focus (intro w hSw; have g1 : w.cell? ⟨w00.heap.size, 5, none⟩ = some (.slice (some ⟨g, o, none⟩) x.el.length ce') := hSw.2.2.1; go_simp))
                          simp only [put4]
                        iterate 4
                          all_goals
                            first
                              | (refine Calm.skip ?_ ?_; focus rfl)
                              | (refine Calm.pure (v := ?_) (by rfl) ?_ ?_
                                 rotate_left
                                 focus (intro w hSw; go_simp <;> rfl))
                            simp only [put4]
                        all_goals
                          first
                            | (refine Calm.skip ?_ ?_; focus rfl)
                            | (first | (refine Calm.loadM 36 Tryz.underlying36 rfl zu (by rfl) _ rfl rfl (fun _ h => h.2.2.2.1) ?_) | (refine Calm.loadM 36 Tryz.underlying36 rfl zy (by rfl) _ rfl rfl (fun _ h => h.2.2.2.2.1) ?_))
                          simp only [put4]
                        all_goals
                          first
                            | (refine Calm.skip ?_ ?_; focus rfl)
                            | (refine Calm.pure (v := ?_) (by rfl) ?_ ?_
                               rotate_left
                               focus (intro w hSw; go_simp <;> rfl))
                          simp only [put4]
                        all_goals
                          first
                            | (refine Calm.skip ?_ ?_; focus rfl)
                            | (first | (refine Calm.loadM 36 Tryz.underlying36 rfl zu (by rfl) _ rfl rfl (fun _ h => h.2.2.2.1) ?_) | (refine Calm.loadM 36 Tryz.underlying36 rfl zy (by rfl) _ rfl rfl (fun _ h => h.2.2.2.2.1) ?_))
                          simp only [put4]
                        all_goals
                          first
                            | (refine Calm.skip ?_ ?_; focus rfl)
                            | (refine Calm.call2s (by rfl) rfl rfl rfl (by kernel_rfl) hs (fun w1 h => C2 w1) ?_)
                          simp only [put4]
                        iterate 2
                          all_goals
                            first
                              | (refine Calm.skip ?_ ?_; focus rfl)
                              | (refine Calm.pure (v := ?_) (by rfl) ?_ ?_
                                 rotate_left
                                 focus (intro w hSw; go_simp <;> rfl))
                            simp only [put4]
                        iterate 2
                          all_goals
                            refine Calm.pure (v := ?_) (by rfl) ?_ ?_; rotate_left; focus (intro w hSw; go_simp <;> rfl)
                            simp only [put4]
                        all_goals
                          first
                            | (refine Calm.skip ?_ ?_; focus rfl)
                            | (refine Calm.pure (v := ?_) (by rfl) ?_ ?_
                               rotate_left
                               focus (intro w hSw; go_simp <;> rfl))
                          simp only [put4]
                        all_goals
                          first
                            | (refine Calm.skip ?_ ?_; focus rfl)
                            | (refine Calm.pure (v := .slice (some ⟨g, o, none⟩) x.el.length ce') (by rfl) ?_ ?_
                               focus (intro w hSw; have g1 : w.cell? ⟨w00.heap.size, 5, none⟩ = some (.slice (some ⟨g, o, none⟩) x.el.length ce') := hSw.2.2.1; go_simp))
                          simp only [put4]
                        all_goals
                          first
                            | (refine Calm.skip ?_ ?_; focus rfl)
                            | (refine Calm.pure (v := ?_) (by rfl) ?_ ?_
                               rotate_left
                               focus (intro w hSw; go_simp <;> rfl))
                          simp only [put4]
                        all_goals
                          first
                            | (refine Calm.skip ?_ ?_; focus rfl)
                            | (refine Calm.call2s (by rfl) rfl rfl rfl (by kernel_rfl) hs (fun w1 h => C3 w1 h.2.2.2.2.2) ?_)
                          simp only [put4]
                        all_goals
                          first
                            | (refine Calm.skip ?_ ?_; focus rfl)
                            | (refine Calm.pure (v := ?_) (by rfl) ?_ ?_
                               rotate_left
                               focus (intro w hSw; go_simp <;> rfl))
                          simp only [put4]
                        all_goals
                          refine Calm.pure (v := ?_) (by rfl) ?_ ?_; rotate_left; focus (intro w hSw; go_simp <;> rfl)
                          simp only [put4]
                        all_goals
                          rintro w9 ⟨_, _, cE9, _, _, hbel9⟩
                        go_wp2_with fail; go_roundw
                        case rel => exact ⟨m + 1 + 1, by simp, by omega, HV2, cE9, hbel9⟩
                        case measure => simp [intOf]; omega
              · have hx2 : decide ((64 : Int) < (y.x.size : Int)) = true := by simp; omega
                have HF := okc_not HZ hlt (show okc x.el k hlt = false by rw [HO1.out, decide_eq_false hx1]; simp); clear HO1 HY1 HE1 HX2; have e := HF.out; subst e; clear HF HV HZ
                go_wp2_with (refine load_m 60 _ rfl rfl _ _ rfl d Tryz.underlying60 rfl zb ?_)
                clear d
                have hs : Calm.Stays (fun w' => Rw w' wr.heap.size 60 #[.int .i64 y.p, .int .i64 y.s, .int .i64 y.i, .int .i64 y.t, .int .i64 y.q, .int .i64 y.u, .int .i64 y.j, .string y.x, .slice py y.gone.length cy] ∧ MHas w' (.slice py y.gone.length cy) y.gone ∧ w'.cell? ⟨w00.heap.size, 5, none⟩ = some (.slice (some ⟨g, o, none⟩) x.el.length ce') ∧ Below w00.heap.size w00 w') := fun wa wb h hb => ⟨h.1.later hb, h.2.1.later hb, cell_later hb h.2.2.1, below_on h.2.2.2 hb⟩
                refine Calm.region (by kernel_rfl) (by kernel_rfl) (fun w' => Rw w' wr.heap.size 60 #[.int .i64 y.p, .int .i64 y.s, .int .i64 y.i, .int .i64 y.t, .int .i64 y.q, .int .i64 y.u, .int .i64 y.j, .string y.x, .slice py y.gone.length cy] ∧ MHas w' (.slice py y.gone.length cy) y.gone ∧ w'.cell? ⟨w00.heap.size, 5, none⟩ = some (.slice (some ⟨g, o, none⟩) x.el.length ce') ∧ Below w00.heap.size w00 w') ⟨R, hyk, cE, hbel.drew⟩ ?_
                iterate 2
                  all_goals
                    refine Calm.pure (v := ?_) (by rfl) ?_ ?_; rotate_left; focus (intro w hSw; go_simp <;> rfl)
                    simp only [put4]
                all_goals
                  refine Calm.pure (v := .int .i64 y.i) (by rfl) ?_ ?_; focus (intro w hSw; have g1 : w.cell? ⟨wr.heap.size, 2, none⟩ = some (.int .i64 y.i) := hSw.1.cell 2; go_simp)
                  simp only [put4]
                iterate 2
                  all_goals
                    refine Calm.pure (v := ?_) (by rfl) ?_ ?_; rotate_left; focus (intro w hSw; go_simp <;> rfl)
                    simp only [put4]
                all_goals
                  first
                    | (refine Calm.skip ?_ ?_; focus rfl)
                    | (refine Calm.pure (v := ?_) (by rfl) ?_ ?_
                       rotate_left
                       focus (intro w hSw; go_simp <;> rfl))
                  simp only [put4]
                all_goals
                  first
                    | (refine Calm.skip ?_ ?_; focus rfl)
                    | (refine Calm.pure (v := .string y.x) (by rfl) ?_ ?_
                       focus (intro w hSw; have g1 : w.cell? ⟨wr.heap.size, 7, none⟩ = some (.string y.x) := hSw.1.cell 7; go_simp))
                  simp only [put4]
                iterate 2
                  all_goals
                    first
                      | (refine Calm.skip ?_ ?_; focus rfl)
                      | (refine Calm.pure (v := ?_) (by rfl) ?_ ?_
                         rotate_left
                         focus (intro w hSw; go_simp <;> rfl))
                    simp only [put4]
                iterate 2
                  all_goals
                    refine Calm.pure (v := ?_) (by rfl) ?_ ?_; rotate_left; focus (intro w hSw; go_simp <;> rfl)
                    simp only [put4]
                all_goals
                  first
                    | (refine Calm.skip ?_ ?_; focus rfl)
                    | (refine Calm.pure (v := ?_) (by rfl) ?_ ?_
                       rotate_left
                       focus (intro w hSw; go_simp <;> rfl))
                  simp only [put4]
                all_goals
                  first
                    | (refine Calm.skip ?_ ?_; focus rfl)
                    | (refine Calm.pure (v := .slice py y.gone.length cy) (by rfl) ?_ ?_
                       focus (intro w hSw; have g1 : w.cell? ⟨wr.heap.size, 8, none⟩ = some (.slice py y.gone.length cy) := hSw.1.cell 8; go_simp))
                  simp only [put4]
                all_goals
                  first
                    | (refine Calm.skip ?_ ?_; focus rfl)
                    | (refine Calm.call1s (by rfl) rfl rfl (by kernel_rfl) hs (fun w1 h => C1 w1 h.2.1) ?_)
                  simp only [put4]
                all_goals
                  first
                    | (refine Calm.skip ?_ ?_; focus rfl)
                    | (refine Calm.pure (v := ?_) (by rfl) ?_ ?_
                       rotate_left
                       focus (intro w hSw; go_simp <;> rfl))
                  simp only [put4]
                iterate 2
                  all_goals
                    refine Calm.pure (v := ?_) (by rfl) ?_ ?_; rotate_left; focus (intro w hSw; go_simp <;> rfl)
                    simp only [put4]
                iterate 4
                  all_goals
                    first
                      | (refine Calm.skip ?_ ?_; focus rfl)
                      | (refine Calm.pure (v := ?_) (by rfl) ?_ ?_
                         rotate_left
                         focus (intro w hSw; go_simp <;> rfl))
                    simp only [put4]
                all_goals
                  first
                    | (refine Calm.skip ?_ ?_; focus rfl)
                    | (refine Calm.pure (v := .slice (some ⟨g, o, none⟩) x.el.length ce') (by rfl) ?_ ?_
                       focus (intro w hSw; have g1 : w.cell? ⟨w00.heap.size, 5, none⟩ = some (.slice (some ⟨g, o, none⟩) x.el.length ce') := hSw.2.2.1; go_simp))
                  simp only [put4]
                iterate 7
                  all_goals
                    first
                      | (refine Calm.skip ?_ ?_; focus rfl)
                      | (refine Calm.pure (v := ?_) (by rfl) ?_ ?_
                         rotate_left
                         focus (intro w hSw; go_simp <;> rfl))
                    simp only [put4]
                all_goals
                  first
                    | (refine Calm.skip ?_ ?_; focus rfl)
                    | (refine Calm.call2s (by rfl) rfl rfl rfl (by kernel_rfl) hs (fun w1 h => C1L w1) ?_)
                  simp only [put4]
                iterate 2
                  all_goals
                    first
                      | (refine Calm.skip ?_ ?_; focus rfl)
                      | (refine Calm.pure (v := ?_) (by rfl) ?_ ?_
                         rotate_left
                         focus (intro w hSw; go_simp <;> rfl))
                    simp only [put4]
                iterate 2
                  all_goals
                    refine Calm.pure (v := ?_) (by rfl) ?_ ?_; rotate_left; focus (intro w hSw; go_simp <;> rfl)
                    simp only [put4]
                all_goals
                  first
                    | (refine Calm.skip ?_ ?_; focus rfl)
                    | (refine Calm.pure (v := ?_) (by rfl) ?_ ?_
                       rotate_left
                       focus (intro w hSw; go_simp <;> rfl))
                  simp only [put4]
                all_goals
                  first
                    | (refine Calm.skip ?_ ?_; focus rfl)
                    | (refine Calm.pure (v := .slice (some ⟨g, o, none⟩) x.el.length ce') (by rfl) ?_ ?_
                       focus (intro w hSw; have g1 : w.cell? ⟨w00.heap.size, 5, none⟩ = some (.slice (some ⟨g, o, none⟩) x.el.length ce') := hSw.2.2.1; go_simp))
                  simp only [put4]
                all_goals
                  first
                    | (refine Calm.skip ?_ ?_; focus rfl)
                    | (refine Calm.pure (v := ?_) (by rfl) ?_ ?_
                       rotate_left
                       focus (intro w hSw; go_simp <;> rfl))
                  simp only [put4]
                all_goals
                  first
                    | (refine Calm.skip ?_ ?_; focus rfl)
                    | (refine Calm.call2s (by rfl) rfl rfl rfl (by kernel_rfl) hs (fun w1 h => C3 w1 h.2.2.2) ?_)
                  simp only [put4]
                all_goals
                  first
                    | (refine Calm.skip ?_ ?_; focus rfl)
                    | (refine Calm.pure (v := ?_) (by rfl) ?_ ?_
                       rotate_left
                       focus (intro w hSw; go_simp <;> rfl))
                  simp only [put4]
                all_goals
                  refine Calm.pure (v := ?_) (by rfl) ?_ ?_; rotate_left; focus (intro w hSw; go_simp <;> rfl)
                  simp only [put4]
                all_goals
                  rintro w9 ⟨_, _, _, hbel9⟩
                go_wp2_with fail; go_ret; exact ⟨rfl, hbel9⟩
            · have hi2 : decide (y.i < 1) = true := by simp; omega
              have HF := okc_not HZ hlt (show okc x.el k hlt = false by rw [HO1.out, decide_eq_false hi1]; simp); clear HO1 HY1 HE1 HX2; have e := HF.out; subst e; clear HF HV HZ
              go_wp2_with (refine load_m 60 _ rfl rfl _ _ rfl d Tryz.underlying60 rfl zb ?_)
              clear d
              have hs : Calm.Stays (fun w' => Rw w' wr.heap.size 60 #[.int .i64 y.p, .int .i64 y.s, .int .i64 y.i, .int .i64 y.t, .int .i64 y.q, .int .i64 y.u, .int .i64 y.j, .string y.x, .slice py y.gone.length cy] ∧ MHas w' (.slice py y.gone.length cy) y.gone ∧ w'.cell? ⟨w00.heap.size, 5, none⟩ = some (.slice (some ⟨g, o, none⟩) x.el.length ce') ∧ Below w00.heap.size w00 w') := fun wa wb h hb => ⟨h.1.later hb, h.2.1.later hb, cell_later hb h.2.2.1, below_on h.2.2.2 hb⟩
              refine Calm.region (by kernel_rfl) (by kernel_rfl) (fun w' => Rw w' wr.heap.size 60 #[.int .i64 y.p, .int .i64 y.s, .int .i64 y.i, .int .i64 y.t, .int .i64 y.q, .int .i64 y.u, .int .i64 y.j, .string y.x, .slice py y.gone.length cy] ∧ MHas w' (.slice py y.gone.length cy) y.gone ∧ w'.cell? ⟨w00.heap.size, 5, none⟩ = some (.slice (some ⟨g, o, none⟩) x.el.length ce') ∧ Below w00.heap.size w00 w') ⟨R, hyk, cE, hbel.drew⟩ ?_
              iterate 2
                all_goals
                  refine Calm.pure (v := ?_) (by rfl) ?_ ?_; rotate_left; focus (intro w hSw; go_simp <;> rfl)
                  simp only [put4]
              all_goals
                refine Calm.pure (v := .int .i64 y.i) (by rfl) ?_ ?_; focus (intro w hSw; have g1 : w.cell? ⟨wr.heap.size, 2, none⟩ = some (.int .i64 y.i) := hSw.1.cell 2; go_simp)
                simp only [put4]
              iterate 2
                all_goals
                  refine Calm.pure (v := ?_) (by rfl) ?_ ?_; rotate_left; focus (intro w hSw; go_simp <;> rfl)
                  simp only [put4]
              all_goals
                first
                  | (refine Calm.skip ?_ ?_; focus rfl)
                  | (refine Calm.pure (v := ?_) (by rfl) ?_ ?_
                     rotate_left
                     focus (intro w hSw; go_simp <;> rfl))
                simp only [put4]
              all_goals
                first
                  | (refine Calm.skip ?_ ?_; focus rfl)
                  | (refine Calm.pure (v := .string y.x) (by rfl) ?_ ?_
                     focus (intro w hSw; have g1 : w.cell? ⟨wr.heap.size, 7, none⟩ = some (.string y.x) := hSw.1.cell 7; go_simp))
                simp only [put4]
              iterate 2
                all_goals
                  first
                    | (refine Calm.skip ?_ ?_; focus rfl)
                    | (refine Calm.pure (v := ?_) (by rfl) ?_ ?_
                       rotate_left
                       focus (intro w hSw; go_simp <;> rfl))
                  simp only [put4]
              iterate 2
                all_goals
                  refine Calm.pure (v := ?_) (by rfl) ?_ ?_; rotate_left; focus (intro w hSw; go_simp <;> rfl)
                  simp only [put4]
              all_goals
                first
                  | (refine Calm.skip ?_ ?_; focus rfl)
                  | (refine Calm.pure (v := ?_) (by rfl) ?_ ?_
                     rotate_left
                     focus (intro w hSw; go_simp <;> rfl))
                simp only [put4]
              all_goals
                first
                  | (refine Calm.skip ?_ ?_; focus rfl)
                  | (refine Calm.pure (v := .slice py y.gone.length cy) (by rfl) ?_ ?_
                     focus (intro w hSw; have g1 : w.cell? ⟨wr.heap.size, 8, none⟩ = some (.slice py y.gone.length cy) := hSw.1.cell 8; go_simp))
                simp only [put4]
              all_goals
                first
                  | (refine Calm.skip ?_ ?_; focus rfl)
                  | (refine Calm.call1s (by rfl) rfl rfl (by kernel_rfl) hs (fun w1 h => C1 w1 h.2.1) ?_)
                simp only [put4]
              all_goals
                first
                  | (refine Calm.skip ?_ ?_; focus rfl)
                  | (refine Calm.pure (v := ?_) (by rfl) ?_ ?_
                     rotate_left
                     focus (intro w hSw; go_simp <;> rfl))
                simp only [put4]
              iterate 2
                all_goals
                  refine Calm.pure (v := ?_) (by rfl) ?_ ?_; rotate_left; focus (intro w hSw; go_simp <;> rfl)
                  simp only [put4]
              iterate 4
                all_goals
                  first
                    | (refine Calm.skip ?_ ?_; focus rfl)
                    | (refine Calm.pure (v := ?_) (by rfl) ?_ ?_
                       rotate_left
                       focus (intro w hSw; go_simp <;> rfl))
                  simp only [put4]
              all_goals
                first
                  | (refine Calm.skip ?_ ?_; focus rfl)
                  | (refine Calm.pure (v := .slice (some ⟨g, o, none⟩) x.el.length ce') (by rfl) ?_ ?_
                     focus (intro w hSw; have g1 : w.cell? ⟨w00.heap.size, 5, none⟩ = some (.slice (some ⟨g, o, none⟩) x.el.length ce') := hSw.2.2.1; go_simp))
                simp only [put4]
              iterate 7
                all_goals
                  first
                    | (refine Calm.skip ?_ ?_; focus rfl)
                    | (refine Calm.pure (v := ?_) (by rfl) ?_ ?_
                       rotate_left
                       focus (intro w hSw; go_simp <;> rfl))
                  simp only [put4]
              all_goals
                first
                  | (refine Calm.skip ?_ ?_; focus rfl)
                  | (refine Calm.call2s (by rfl) rfl rfl rfl (by kernel_rfl) hs (fun w1 h => C1L w1) ?_)
                simp only [put4]
              iterate 2
                all_goals
                  first
                    | (refine Calm.skip ?_ ?_; focus rfl)
                    | (refine Calm.pure (v := ?_) (by rfl) ?_ ?_
                       rotate_left
                       focus (intro w hSw; go_simp <;> rfl))
                  simp only [put4]
              iterate 2
                all_goals
                  refine Calm.pure (v := ?_) (by rfl) ?_ ?_; rotate_left; focus (intro w hSw; go_simp <;> rfl)
                  simp only [put4]
              all_goals
                first
                  | (refine Calm.skip ?_ ?_; focus rfl)
                  | (refine Calm.pure (v := ?_) (by rfl) ?_ ?_
                     rotate_left
                     focus (intro w hSw; go_simp <;> rfl))
                simp only [put4]
              all_goals
                first
                  | (refine Calm.skip ?_ ?_; focus rfl)
                  | (refine Calm.pure (v := .slice (some ⟨g, o, none⟩) x.el.length ce') (by rfl) ?_ ?_
                     focus (intro w hSw; have g1 : w.cell? ⟨w00.heap.size, 5, none⟩ = some (.slice (some ⟨g, o, none⟩) x.el.length ce') := hSw.2.2.1; go_simp))
                simp only [put4]
              all_goals
                first
                  | (refine Calm.skip ?_ ?_; focus rfl)
                  | (refine Calm.pure (v := ?_) (by rfl) ?_ ?_
                     rotate_left
                     focus (intro w hSw; go_simp <;> rfl))
                simp only [put4]
              all_goals
                first
                  | (refine Calm.skip ?_ ?_; focus rfl)
                  | (refine Calm.call2s (by rfl) rfl rfl rfl (by kernel_rfl) hs (fun w1 h => C3 w1 h.2.2.2) ?_)
                simp only [put4]
              all_goals
                first
                  | (refine Calm.skip ?_ ?_; focus rfl)
                  | (refine Calm.pure (v := ?_) (by rfl) ?_ ?_
                     rotate_left
                     focus (intro w hSw; go_simp <;> rfl))
                simp only [put4]
              all_goals
                refine Calm.pure (v := ?_) (by rfl) ?_ ?_; rotate_left; focus (intro w hSw; go_simp <;> rfl)
                simp only [put4]
              all_goals
                rintro w9 ⟨_, _, _, hbel9⟩
              go_wp2_with fail; go_ret; exact ⟨rfl, hbel9⟩
          · have hlt' : ¬ (k : Int) < (x.el.length : Int) := by omega
            have e := HZ.out; rw [(okc_iff x.el).2 (fun i h => HV.out i h (by omega))] at e; subst e; clear HZ HV HR HY HL HA; go_wp2_with fail; go_ret; exact ⟨rfl, hbel⟩
      · have h0' : (0 : Int) < (x.am.length : Int) + (x.wr.length : Int) + (x.mb.length : Int) := by omega
        obtain rfl : z = false := by have := hz.out; rw [decide_eq_false h0] at this; simpa using this
        clear hz h0
        go_enter Tryz.func8, Tryz.ntmps8
        go_wp2_with fail; go_ret; exact ⟨rfl, bel_alloc (Below.refl _ _) _⟩
    · obtain rfl : z = false := by have := hz.out; rw [decide_eq_false hb] at this; simpa using this
      clear hz
      go_enter Tryz.func8, Tryz.ntmps8
      go_wp2_with fail; go_ret; exact ⟨rfl, bel_alloc (Below.refl _ _) _⟩
  · obtain rfl : z = false := by have := hz.out; rw [decide_eq_false hk] at this; simpa using this
    clear hz
    go_enter Tryz.func8, Tryz.ntmps8
    go_wp2_with fail; go_ret; exact ⟨rfl, bel_alloc (Below.refl _ _) _⟩
end Go.Proofs.YtfjpbmdmkcihcaaGreat
