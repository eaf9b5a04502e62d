import Derived.Test.YtjbbmcommnhgeaaGreatPc21
import Derived.Test.YtjbbmcommnhgeaaGreatPc19
set_option maxRecDepth 100000
set_option maxHeartbeats 8000000
namespace Go.Proofs.YtjbbmcommnhgeaaGreat
open Go.RowKit
def okc (l : List El) (k : Nat) (h : k < l.length) : Bool := oke l k h && en l (l.length + 1) k
theorem okc_iff (l : List El) : (ce l && cr l) = true ↔ ∀ k (h : k < l.length), okc l k h = true := by
 rw [Bool.and_eq_true_iff, ce_iff, en_cr]
 unfold okc
 constructor
 ·rintro ⟨h1, h2⟩ k hk
  rw [h1 k hk, h2 k hk]
  rfl
 ·intro h
  exact ⟨fun k hk => (Bool.and_eq_true_iff.1 (h k hk)).1, fun k hk => (Bool.and_eq_true_iff.1 (h k hk)).2⟩
theorem okc_not {l : List El} {b : Bool} (HZ : Hid ((ce l && cr l) = b)) {k : Nat} (h : k < l.length) (hf : okc l k h = false) : Hid (b = false) := by
 show b = false
 rw [← HZ.out]
 cases e : (ce l && cr l)
 ·rfl
 ·have := (okc_iff l).1 e k h
  rw [hf] at this
  cases this
theorem refCheck_any (x : X) (va vw vm ve : Value) (w00 : World) (h : Four w00 x va vw vm ve) (hs : Sm x) : Calls Tryz.prog 32 #[CV x.k x.b va vw vm ve] w00 (Tells (.bool (ck x)) w00) := by
 obtain ⟨z, HZ⟩ := hid_ex (ck x)
 rw [HZ.out]
 obtain ⟨pa, ca', pw, cw, pm, cm, pe, ce', rfl, rfl, rfl, rfl⟩ := h.slices
 have HA : Hid (EHas w00 (.slice pe x.el.length ce') x.el) := h.e
 clear h
 obtain ⟨ha, ht, hm, he, _, _⟩ := hs
 have w1 : IntKind.i64.wrap ((x.am.length : Int) + (x.wr.length : Int)) = (x.am.length : Int) + (x.wr.length : Int) := by rw [IntKind.wrap_i64]; omega
 have w2 : IntKind.i64.wrap ((x.am.length : Int) + (x.wr.length : Int) + (x.mb.length : Int)) = (x.am.length : Int) + (x.wr.length : Int) + (x.mb.length : Int) := by rw [IntKind.wrap_i64]; omega
 have hz : Hid (z = (decide (x.k = 5) && (decide (x.b = 0) && (decide (x.am.length + x.wr.length + x.mb.length = 0) && (ce x.el && cr x.el))))) := by
  show _ = _
  rw [← HZ.out]
  rfl
 clear HZ
 by_cases hk : x.k = 5
 ·by_cases hb : x.b = 0
  ·by_cases h0 : x.am.length + x.wr.length + x.mb.length = 0
   ·have h0' : ¬ (0 : Int) < (x.am.length : Int) + (x.wr.length : Int) + (x.mb.length : Int) := by omega
    have HZ : Hid ((ce x.el && cr x.el) = z) := by
     show _ = _
     have := hz.out
     rw [this]
     simp [hk, hb, h0]
    clear hz
    have HA2 := HA
    obtain ⟨ys, hys, hA, hy⟩ := HA2.out
    have hyl : ys.length = x.el.length := by rw [← hys, List.length_map]
    have HR : Hid (SHas 9 w00 (.slice pe x.el.length ce') x.el.length (rows El.cells ys)) := hA
    have HY : Hid (∀ y ∈ ys, MHas w00 y.2 y.1.gone) := hy
    have HL : Hid (∀ k (h1 : k < ys.length) (h2 : k < x.el.length), ys[k].1 = x.el[k]) := fun k h1 h2 => by
     subst_vars
     simp only [← hys, List.getElem_map]
    clear hA hy hys HA2
    have R0 := rw_new w00 27 (cvc 5 0 (.slice pa x.am.length ca') (.slice pw x.wr.length cw) (.slice pm x.mb.length cm) (.slice pe x.el.length ce'))
    have hb0 := bel_alloc (Below.refl w00.heap.size w00) (.cells (cvc 5 0 (.slice pa x.am.length ca') (.slice pw x.wr.length cw) (.slice pm x.mb.length cm) (.slice pe x.el.length ce')) 27)
    have cE0 := R0.cell 5
    go_enter Tryz.func32, Tryz.ntmps32
    go_wp2_with fail
    go_loopw [3] (fun vi wr => ∃ k : Nat, vi = .int .i64 k ∧ k ≤ x.el.length ∧ Hid (∀ i (h : i < x.el.length), i < k → okc x.el i h = true) ∧ wr.cell? ⟨w00.heap.size, 5, none⟩ = some (.slice pe x.el.length ce') ∧ Below w00.heap.size w00 wr) (fun vi _ => x.el.length - (intOf vi).toNat)
    case atStart => exact ⟨0, rfl, by omega, (show ∀ i (_ : i < x.el.length), i < 0 → _ from fun i _ h => by omega), cE0, hb0⟩
    case round =>
     clear R0 hb0 cE0
     obtain ⟨k, rfl, hk, HV, cE, hbel⟩ := hrel
     by_cases hlt : k < x.el.length
     ·have hlt' : (k : Int) < (x.el.length : Int) := by omega
      obtain ⟨g, o, rfl, hd0⟩ := HR.out.at (by omega)
      have hd := range_later hd0 hbel
      have d : wr.rangeAt g (o + k * 9) (El.cells (ys[k]'(by omega))) := range_sub hd (k * 9) fun j u hu => rows_at El.len ys k (by omega) j u hu
      have hyk := (HY.out ys[k] (List.getElem_mem _)).later hbel
      obtain ⟨yy, HX⟩ := hid_ex (ys[k]'(by omega))
      have HX2 : Hid (x.el[k] = yy.1) := by
       show _ = _
       rw [← HL.out k (by omega) hlt, HX.out]
      rw [HX.out] at d hyk
      obtain ⟨y, yv⟩ := yy
      replace hyk : MHas wr yv y.gone := hyk
      obtain ⟨py, cy, rfl⟩ := hyk.slice
      replace d : wr.rangeAt g (o + k * 9) [Value.int .i64 y.p, .int .i64 y.s, .int .i64 y.i, .int .i64 y.t, .int .i64 y.q, .int .i64 y.u, .int .i64 y.j, .string y.x, .slice py y.gone.length cy] := d
      replace HX2 : Hid (x.el[k] = y) := HX2
      clear hd0 HR HY HX
      have zb : (Tryz.prog.info? 69).map (·.size) = some [Value.int .i64 y.p, .int .i64 y.s, .int .i64 y.i, .int .i64 y.t, .int .i64 y.q, .int .i64 y.u, .int .i64 y.j, .string y.x, .slice py y.gone.length cy].length := size69
      have R := rw_new wr 69 #[.int .i64 y.p, .int .i64 y.s, .int .i64 y.i, .int .i64 y.t, .int .i64 y.q, .int .i64 y.u, .int .i64 y.j, .string y.x, .slice py y.gone.length cy]
      have hbA := bel_alloc (Below.refl wr.heap.size wr) (.cells #[.int .i64 y.p, .int .i64 y.s, .int .i64 y.i, .int .i64 y.t, .int .i64 y.q, .int .i64 y.u, .int .i64 y.j, .string y.x, .slice py y.gone.length cy] 69)
      replace hbel := bel_alloc hbel (.cells #[.int .i64 y.p, .int .i64 y.s, .int .i64 y.i, .int .i64 y.t, .int .i64 y.q, .int .i64 y.u, .int .i64 y.j, .string y.x, .slice py y.gone.length cy] 69)
      replace hyk := hyk.later hbA
      have cE' := cE
      replace cE := cell_later hbA cE
      obtain ⟨e1, HE1⟩ := hid_ex (en x.el (x.el.length + 1) k)
      have C3 : ∀ w, Below w00.heap.size w00 w → Calls Tryz.prog 65 #[(.slice (some ⟨g, o, none⟩) x.el.length ce'), .int .i64 k] w (Tells (.bool e1) w) := fun w h => by rw [← HE1.out]; exact ends_any _ x.el k w (HA.out.later h) he hlt
      have C1L : ∀ w, Calls Tryz.prog 63 #[MV 0 0 0, MV 0 0 0] w (Tells (.bool (ls 0 0 0 0 0 0)) w) := fun w => refLess_any 0 0 0 0 0 0 w
      obtain ⟨y1, HY1⟩ := hid_ex (ca y.gone)
      have C1 : ∀ w, MHas w (.slice py y.gone.length cy) y.gone → Calls Tryz.prog 64 #[.slice py y.gone.length cy] w (Tells (.bool y1) w) := fun w h => by rw [← HY1.out]; exact refRising_any _ y.gone w h
      have HO1 : Hid (okc x.el k hlt = ((decide (1 ≤ y.i) && (decide (y.x.size ≤ 64) && y1)) && (decide (k = 0) || kl (kE (x.el[k - 1]'(by omega))) (kE y)) && e1)) := by
       show _ = _
       unfold okc oke ie im
       rw [HX2.out, HY1.out, HE1.out]
      by_cases hi1 : 1 ≤ y.i
      ·have hi2 : decide (y.i < 1) = false := by simp; omega
       by_cases hx1 : y.x.size ≤ 64
       ·have hx2 : decide ((64 : Int) < (y.x.size : Int)) = false := by simp; omega
        cases y1
        ·have HF := okc_not HZ hlt (show okc x.el k hlt = false by rw [HO1.out]; simp)
         clear HO1 HY1 HE1 HX2
         have e := HF.out
         subst e
         clear HF HV HZ
         go_wp2_with (refine load_m 69 _ rfl rfl _ _ rfl d Tryz.underlying69 rfl zb ?_)
         clear d
         have hs : Calm.Stays (fun w' => Rw w' wr.heap.size 69 #[.int .i64 y.p, .int .i64 y.s, .int .i64 y.i, .int .i64 y.t, .int .i64 y.q, .int .i64 y.u, .int .i64 y.j, .string y.x, .slice py y.gone.length cy] ∧ MHas w' (.slice py y.gone.length cy) y.gone ∧ w'.cell? ⟨w00.heap.size, 5, none⟩ = some (.slice (some ⟨g, o, none⟩) x.el.length ce') ∧ Below w00.heap.size w00 w') := fun wa wb h hb => ⟨h.1.later hb, h.2.1.later hb, cell_later hb h.2.2.1, below_on h.2.2.2 hb⟩
         refine Calm.region (by kernel_rfl) (by kernel_rfl) (fun w' => Rw w' wr.heap.size 69 #[.int .i64 y.p, .int .i64 y.s, .int .i64 y.i, .int .i64 y.t, .int .i64 y.q, .int .i64 y.u, .int .i64 y.j, .string y.x, .slice py y.gone.length cy] ∧ MHas w' (.slice py y.gone.length cy) y.gone ∧ w'.cell? ⟨w00.heap.size, 5, none⟩ = some (.slice (some ⟨g, o, none⟩) x.el.length ce') ∧ Below w00.heap.size w00 w') ⟨R, hyk, cE, hbel.drew⟩ ?_
         iterate 2 (all_goals refine Calm.sp ?_)
         all_goals refine Calm.ce (v := .int .i64 y.i) (ad := ⟨wr.heap.size, 2, none⟩) (fun _ h => h.1.cell 2) ?_
         iterate 3 (all_goals refine Calm.sp ?_)
         all_goals first | refine Calm.sk ?_ | refine Calm.ce (v := .string y.x) (ad := ⟨wr.heap.size, 7, none⟩) (fun _ h => h.1.cell 7) ?_
         iterate 5 (all_goals refine Calm.sp ?_)
         all_goals first | refine Calm.sk ?_ | refine Calm.ce (v := .slice py y.gone.length cy) (ad := ⟨wr.heap.size, 8, none⟩) (fun _ h => h.1.cell 8) ?_
         all_goals first | refine Calm.sk ?_ | refine Calm.k1 hs (fun w1 h => C1 w1 h.2.1) ?_
         iterate 7 (all_goals refine Calm.sp ?_)
         all_goals first | refine Calm.sk ?_ | refine Calm.ce (v := .slice (some ⟨g, o, none⟩) x.el.length ce') (ad := ⟨w00.heap.size, 5, none⟩) (fun _ h => h.2.2.1) ?_
         iterate 7 (all_goals refine Calm.sp ?_)
         all_goals first | refine Calm.sk ?_ | refine Calm.k2 hs (fun w1 h => C1L w1) ?_
         iterate 5 (all_goals refine Calm.sp ?_)
         all_goals first | refine Calm.sk ?_ | refine Calm.ce (v := .slice (some ⟨g, o, none⟩) x.el.length ce') (ad := ⟨w00.heap.size, 5, none⟩) (fun _ h => h.2.2.1) ?_
         all_goals refine Calm.sp ?_
         all_goals first | refine Calm.sk ?_ | refine Calm.k2 hs (fun w1 h => C3 w1 h.2.2.2) ?_
         iterate 2 (all_goals refine Calm.sp ?_)
         all_goals
          rintro w9 ⟨_, _, _, hbel9⟩
         go_wp2_with fail
         go_ret
         exact ⟨rfl, hbel9⟩
        ·rcases Nat.eq_zero_or_pos k with rfl | hpos
         ·have HO2 : Hid (okc x.el 0 hlt = e1) := by
           show _ = _
           rw [HO1.out, decide_eq_true hi1, decide_eq_true hx1]
           simp
          clear HO1 HY1 HE1 HX2
          cases e1
          ·have HF := okc_not HZ hlt HO2.out
           clear HO2
           have e := HF.out
           subst e
           clear HF HV HZ
           go_wp2_with (refine load_m 69 _ rfl rfl _ _ rfl d Tryz.underlying69 rfl zb ?_)
           clear d
           have hs : Calm.Stays (fun w' => Rw w' wr.heap.size 69 #[.int .i64 y.p, .int .i64 y.s, .int .i64 y.i, .int .i64 y.t, .int .i64 y.q, .int .i64 y.u, .int .i64 y.j, .string y.x, .slice py y.gone.length cy] ∧ MHas w' (.slice py y.gone.length cy) y.gone ∧ w'.cell? ⟨w00.heap.size, 5, none⟩ = some (.slice (some ⟨g, o, none⟩) x.el.length ce') ∧ Below w00.heap.size w00 w') := fun wa wb h hb => ⟨h.1.later hb, h.2.1.later hb, cell_later hb h.2.2.1, below_on h.2.2.2 hb⟩
           refine Calm.region (by kernel_rfl) (by kernel_rfl) (fun w' => Rw w' wr.heap.size 69 #[.int .i64 y.p, .int .i64 y.s, .int .i64 y.i, .int .i64 y.t, .int .i64 y.q, .int .i64 y.u, .int .i64 y.j, .string y.x, .slice py y.gone.length cy] ∧ MHas w' (.slice py y.gone.length cy) y.gone ∧ w'.cell? ⟨w00.heap.size, 5, none⟩ = some (.slice (some ⟨g, o, none⟩) x.el.length ce') ∧ Below w00.heap.size w00 w') ⟨R, hyk, cE, hbel.drew⟩ ?_
           iterate 2 (all_goals refine Calm.sp ?_)
           all_goals refine Calm.ce (v := .int .i64 y.i) (ad := ⟨wr.heap.size, 2, none⟩) (fun _ h => h.1.cell 2) ?_
           iterate 3 (all_goals refine Calm.sp ?_)
           all_goals first | refine Calm.sk ?_ | refine Calm.ce (v := .string y.x) (ad := ⟨wr.heap.size, 7, none⟩) (fun _ h => h.1.cell 7) ?_
           iterate 5 (all_goals refine Calm.sp ?_)
           all_goals first | refine Calm.sk ?_ | refine Calm.ce (v := .slice py y.gone.length cy) (ad := ⟨wr.heap.size, 8, none⟩) (fun _ h => h.1.cell 8) ?_
           all_goals first | refine Calm.sk ?_ | refine Calm.k1 hs (fun w1 h => C1 w1 h.2.1) ?_
           iterate 7 (all_goals refine Calm.sp ?_)
           all_goals first | refine Calm.sk ?_ | refine Calm.ce (v := .slice (some ⟨g, o, none⟩) x.el.length ce') (ad := ⟨w00.heap.size, 5, none⟩) (fun _ h => h.2.2.1) ?_
           iterate 7 (all_goals refine Calm.sp ?_)
           all_goals first | refine Calm.sk ?_ | refine Calm.k2 hs (fun w1 h => C1L w1) ?_
           iterate 5 (all_goals refine Calm.sp ?_)
           all_goals first | refine Calm.sk ?_ | refine Calm.ce (v := .slice (some ⟨g, o, none⟩) x.el.length ce') (ad := ⟨w00.heap.size, 5, none⟩) (fun _ h => h.2.2.1) ?_
           all_goals refine Calm.sp ?_
           all_goals first | refine Calm.sk ?_ | refine Calm.k2 hs (fun w1 h => C3 w1 h.2.2.2) ?_
           iterate 2 (all_goals refine Calm.sp ?_)
           all_goals
            rintro w9 ⟨_, _, _, hbel9⟩
           go_wp2_with fail
           go_ret
           exact ⟨rfl, hbel9⟩
          ·have HV2 : Hid (∀ i (h : i < x.el.length), i < 0 + 1 → okc x.el i h = true) := fun i h hi => by
            obtain rfl : i = 0 := by omega
            exact HO2.out
           clear HO2
           clear HV HZ
           go_wp2_with (refine load_m 69 _ rfl rfl _ _ rfl d Tryz.underlying69 rfl zb ?_)
           clear d
           have hs : Calm.Stays (fun w' => Rw w' wr.heap.size 69 #[.int .i64 y.p, .int .i64 y.s, .int .i64 y.i, .int .i64 y.t, .int .i64 y.q, .int .i64 y.u, .int .i64 y.j, .string y.x, .slice py y.gone.length cy] ∧ MHas w' (.slice py y.gone.length cy) y.gone ∧ w'.cell? ⟨w00.heap.size, 5, none⟩ = some (.slice (some ⟨g, o, none⟩) x.el.length ce') ∧ Below w00.heap.size w00 w') := fun wa wb h hb => ⟨h.1.later hb, h.2.1.later hb, cell_later hb h.2.2.1, below_on h.2.2.2 hb⟩
           refine Calm.region (by kernel_rfl) (by kernel_rfl) (fun w' => Rw w' wr.heap.size 69 #[.int .i64 y.p, .int .i64 y.s, .int .i64 y.i, .int .i64 y.t, .int .i64 y.q, .int .i64 y.u, .int .i64 y.j, .string y.x, .slice py y.gone.length cy] ∧ MHas w' (.slice py y.gone.length cy) y.gone ∧ w'.cell? ⟨w00.heap.size, 5, none⟩ = some (.slice (some ⟨g, o, none⟩) x.el.length ce') ∧ Below w00.heap.size w00 w') ⟨R, hyk, cE, hbel.drew⟩ ?_
           iterate 2 (all_goals refine Calm.sp ?_)
           all_goals refine Calm.ce (v := .int .i64 y.i) (ad := ⟨wr.heap.size, 2, none⟩) (fun _ h => h.1.cell 2) ?_
           iterate 3 (all_goals refine Calm.sp ?_)
           all_goals first | refine Calm.sk ?_ | refine Calm.ce (v := .string y.x) (ad := ⟨wr.heap.size, 7, none⟩) (fun _ h => h.1.cell 7) ?_
           iterate 5 (all_goals refine Calm.sp ?_)
           all_goals first | refine Calm.sk ?_ | refine Calm.ce (v := .slice py y.gone.length cy) (ad := ⟨wr.heap.size, 8, none⟩) (fun _ h => h.1.cell 8) ?_
           all_goals first | refine Calm.sk ?_ | refine Calm.k1 hs (fun w1 h => C1 w1 h.2.1) ?_
           iterate 7 (all_goals refine Calm.sp ?_)
           all_goals first | refine Calm.sk ?_ | refine Calm.ce (v := .slice (some ⟨g, o, none⟩) x.el.length ce') (ad := ⟨w00.heap.size, 5, none⟩) (fun _ h => h.2.2.1) ?_
           iterate 7 (all_goals refine Calm.sp ?_)
           all_goals first | refine Calm.sk ?_ | refine Calm.k2 hs (fun w1 h => C1L w1) ?_
           iterate 5 (all_goals refine Calm.sp ?_)
           all_goals first | refine Calm.sk ?_ | refine Calm.ce (v := .slice (some ⟨g, o, none⟩) x.el.length ce') (ad := ⟨w00.heap.size, 5, none⟩) (fun _ h => h.2.2.1) ?_
           all_goals refine Calm.sp ?_
           all_goals first | refine Calm.sk ?_ | refine Calm.k2 hs (fun w1 h => C3 w1 h.2.2.2) ?_
           iterate 2 (all_goals refine Calm.sp ?_)
           all_goals
            rintro w9 ⟨_, _, cE9, hbel9⟩
           go_wp2_with fail
           go_roundw
           case rel => exact ⟨0 + 1, by simp, by omega, HV2, cE9, hbel9⟩
           case measure => simp [intOf]; omega
         ·obtain ⟨m, rfl⟩ : ∃ m, k = m + 1 := ⟨k - 1, by omega⟩
          have d2' : wr.rangeAt g (o + m * 9) (El.cells (ys[m]'(by omega))) := range_sub hd (m * 9) fun j u hu => rows_at El.len ys m (by omega) j u hu
          obtain ⟨uu, HU⟩ := hid_ex (ys[m]'(by omega))
          have HU2 : Hid (x.el[m] = uu.1) := by
           show _ = _
           rw [← HL.out m (by omega) (by omega), HU.out]
          rw [HU.out] at d2'
          obtain ⟨u, uv⟩ := uu
          replace HU2 : Hid (x.el[m] = u) := HU2
          have d2 : (wr.alloc (.cells #[.int .i64 y.p, .int .i64 y.s, .int .i64 y.i, .int .i64 y.t, .int .i64 y.q, .int .i64 y.u, .int .i64 y.j, .string y.x, .slice py y.gone.length cy] 69)).rangeAt g (o + m * 9) [Value.int .i64 u.p, .int .i64 u.s, .int .i64 u.i] := range_later (range_sub (o := o + m * 9) (xs := El.cells (u, uv)) d2' 0 (fun j a ha => by
           rw [Nat.zero_add]
           match j, ha with
           | 0, h => exact h
           | 1, h => exact h
           | 2, h => exact h
           | j + 3, h => simp at h)) hbA
          have d3 : (wr.alloc (.cells #[.int .i64 y.p, .int .i64 y.s, .int .i64 y.i, .int .i64 y.t, .int .i64 y.q, .int .i64 y.u, .int .i64 y.j, .string y.x, .slice py y.gone.length cy] 69)).rangeAt wr.heap.size 0 [Value.int .i64 y.p, .int .i64 y.s, .int .i64 y.i] := R.range 0 _ (fun j a ha => by
           rw [Nat.zero_add]
           match j, ha with
           | 0, h => exact h
           | 1, h => exact h
           | 2, h => exact h
           | j + 3, h => simp at h)
          have zu : (Tryz.prog.info? 50).map (·.size) = some [Value.int .i64 u.p, .int .i64 u.s, .int .i64 u.i].length := size50
          have zy : (Tryz.prog.info? 50).map (·.size) = some [Value.int .i64 y.p, .int .i64 y.s, .int .i64 y.i].length := size50
          have hm1 : IntKind.i64.wrap (((m + 1 : Nat) : Int) - 1) = (m : Int) := by rw [IntKind.wrap_i64]; omega
          have hm3 : IntKind.i64.wrap (m : Int) = (m : Int) := by rw [IntKind.wrap_i64]; omega
          have hpos' : (0 : Int) < ((m + 1 : Nat) : Int) := by omega
          have hm0 : (0 : Int) ≤ (m : Int) := by omega
          have hm2 : (m : Int) < (x.el.length : Int) := by omega
          obtain ⟨y2, HY2⟩ := hid_ex (kl (kE u) (kE y))
          have C2 : ∀ w, Calls Tryz.prog 63 #[MV u.p u.s u.i, MV y.p y.s y.i] w (Tells (.bool y2) w) := fun w => by rw [← HY2.out]; exact refLess_any u.p u.s u.i y.p y.s y.i w
          have HO2 : Hid (okc x.el (m + 1) hlt = (y2 && e1)) := by
           show _ = _
           rw [HO1.out, decide_eq_true hi1, decide_eq_true hx1, ← HY2.out, ← HU2.out]
           simp
          clear HU HU2 HO1 HY1 HE1 HX2 HY2 d2'
          cases y2
          ·have HF := okc_not HZ hlt HO2.out
           clear HO2
           have e := HF.out
           subst e
           clear HF HV HZ
           go_wp2_with (refine load_m 69 _ rfl rfl _ _ rfl d Tryz.underlying69 rfl zb ?_)
           clear d
           have hs : Calm.Stays (fun w' => Rw w' wr.heap.size 69 #[.int .i64 y.p, .int .i64 y.s, .int .i64 y.i, .int .i64 y.t, .int .i64 y.q, .int .i64 y.u, .int .i64 y.j, .string y.x, .slice py y.gone.length cy] ∧ MHas w' (.slice py y.gone.length cy) y.gone ∧ w'.cell? ⟨w00.heap.size, 5, none⟩ = some (.slice (some ⟨g, o, none⟩) x.el.length ce') ∧ w'.rangeAt g (o + m * 9) [Value.int .i64 u.p, .int .i64 u.s, .int .i64 u.i] ∧ w'.rangeAt wr.heap.size 0 [Value.int .i64 y.p, .int .i64 y.s, .int .i64 y.i] ∧ Below w00.heap.size w00 w') := fun wa wb h hb => ⟨h.1.later hb, h.2.1.later hb, cell_later hb h.2.2.1, range_later h.2.2.2.1 hb, range_later h.2.2.2.2.1 hb, below_on h.2.2.2.2.2 hb⟩
           refine Calm.region (by kernel_rfl) (by kernel_rfl) (fun w' => Rw w' wr.heap.size 69 #[.int .i64 y.p, .int .i64 y.s, .int .i64 y.i, .int .i64 y.t, .int .i64 y.q, .int .i64 y.u, .int .i64 y.j, .string y.x, .slice py y.gone.length cy] ∧ MHas w' (.slice py y.gone.length cy) y.gone ∧ w'.cell? ⟨w00.heap.size, 5, none⟩ = some (.slice (some ⟨g, o, none⟩) x.el.length ce') ∧ w'.rangeAt g (o + m * 9) [Value.int .i64 u.p, .int .i64 u.s, .int .i64 u.i] ∧ w'.rangeAt wr.heap.size 0 [Value.int .i64 y.p, .int .i64 y.s, .int .i64 y.i] ∧ Below w00.heap.size w00 w') ⟨R, hyk, cE, d2, d3, hbel.drew⟩ ?_
           iterate 2 (all_goals refine Calm.sp ?_)
           all_goals refine Calm.ce (v := .int .i64 y.i) (ad := ⟨wr.heap.size, 2, none⟩) (fun _ h => h.1.cell 2) ?_
           iterate 3 (all_goals refine Calm.sp ?_)
           all_goals first | refine Calm.sk ?_ | refine Calm.ce (v := .string y.x) (ad := ⟨wr.heap.size, 7, none⟩) (fun _ h => h.1.cell 7) ?_
           iterate 5 (all_goals refine Calm.sp ?_)
           all_goals first | refine Calm.sk ?_ | refine Calm.ce (v := .slice py y.gone.length cy) (ad := ⟨wr.heap.size, 8, none⟩) (fun _ h => h.1.cell 8) ?_
           all_goals first | refine Calm.sk ?_ | refine Calm.k1 hs (fun w1 h => C1 w1 h.2.1) ?_
           iterate 7 (all_goals refine Calm.sp ?_)
           all_goals first | refine Calm.sk ?_ | refine Calm.ce (v := .slice (some ⟨g, o, none⟩) x.el.length ce') (ad := ⟨w00.heap.size, 5, none⟩) (fun _ h => h.2.2.1) ?_
           iterate 4 (all_goals refine Calm.sp ?_)
           all_goals first | refine Calm.sk ?_ | refine Calm.lm zu (fun _ h => h.2.2.2.1) Tryz.underlying50 ?_ | refine Calm.lm zy (fun _ h => h.2.2.2.2.1) Tryz.underlying50 ?_
           all_goals refine Calm.sp ?_
           all_goals first | refine Calm.sk ?_ | refine Calm.lm zu (fun _ h => h.2.2.2.1) Tryz.underlying50 ?_ | refine Calm.lm zy (fun _ h => h.2.2.2.2.1) Tryz.underlying50 ?_
           all_goals first | refine Calm.sk ?_ | refine Calm.k2 hs (fun w1 h => C2 w1) ?_
           iterate 5 (all_goals refine Calm.sp ?_)
           all_goals first | refine Calm.sk ?_ | refine Calm.ce (v := .slice (some ⟨g, o, none⟩) x.el.length ce') (ad := ⟨w00.heap.size, 5, none⟩) (fun _ h => h.2.2.1) ?_
           all_goals refine Calm.sp ?_
           all_goals first | refine Calm.sk ?_ | refine Calm.k2 hs (fun w1 h => C3 w1 h.2.2.2.2.2) ?_
           iterate 2 (all_goals refine Calm.sp ?_)
           all_goals
            rintro w9 ⟨_, _, _, _, _, hbel9⟩
           go_wp2_with fail
           go_ret
           exact ⟨rfl, hbel9⟩
          ·cases e1
           ·have HF := okc_not HZ hlt HO2.out
            clear HO2
            have e := HF.out
            subst e
            clear HF HV HZ
            go_wp2_with (refine load_m 69 _ rfl rfl _ _ rfl d Tryz.underlying69 rfl zb ?_)
            clear d
            have hs : Calm.Stays (fun w' => Rw w' wr.heap.size 69 #[.int .i64 y.p, .int .i64 y.s, .int .i64 y.i, .int .i64 y.t, .int .i64 y.q, .int .i64 y.u, .int .i64 y.j, .string y.x, .slice py y.gone.length cy] ∧ MHas w' (.slice py y.gone.length cy) y.gone ∧ w'.cell? ⟨w00.heap.size, 5, none⟩ = some (.slice (some ⟨g, o, none⟩) x.el.length ce') ∧ w'.rangeAt g (o + m * 9) [Value.int .i64 u.p, .int .i64 u.s, .int .i64 u.i] ∧ w'.rangeAt wr.heap.size 0 [Value.int .i64 y.p, .int .i64 y.s, .int .i64 y.i] ∧ Below w00.heap.size w00 w') := fun wa wb h hb => ⟨h.1.later hb, h.2.1.later hb, cell_later hb h.2.2.1, range_later h.2.2.2.1 hb, range_later h.2.2.2.2.1 hb, below_on h.2.2.2.2.2 hb⟩
            refine Calm.region (by kernel_rfl) (by kernel_rfl) (fun w' => Rw w' wr.heap.size 69 #[.int .i64 y.p, .int .i64 y.s, .int .i64 y.i, .int .i64 y.t, .int .i64 y.q, .int .i64 y.u, .int .i64 y.j, .string y.x, .slice py y.gone.length cy] ∧ MHas w' (.slice py y.gone.length cy) y.gone ∧ w'.cell? ⟨w00.heap.size, 5, none⟩ = some (.slice (some ⟨g, o, none⟩) x.el.length ce') ∧ w'.rangeAt g (o + m * 9) [Value.int .i64 u.p, .int .i64 u.s, .int .i64 u.i] ∧ w'.rangeAt wr.heap.size 0 [Value.int .i64 y.p, .int .i64 y.s, .int .i64 y.i] ∧ Below w00.heap.size w00 w') ⟨R, hyk, cE, d2, d3, hbel.drew⟩ ?_
            iterate 2 (all_goals refine Calm.sp ?_)
            all_goals refine Calm.ce (v := .int .i64 y.i) (ad := ⟨wr.heap.size, 2, none⟩) (fun _ h => h.1.cell 2) ?_
            iterate 3 (all_goals refine Calm.sp ?_)
            all_goals first | refine Calm.sk ?_ | refine Calm.ce (v := .string y.x) (ad := ⟨wr.heap.size, 7, none⟩) (fun _ h => h.1.cell 7) ?_
            iterate 5 (all_goals refine Calm.sp ?_)
            all_goals first | refine Calm.sk ?_ | refine Calm.ce (v := .slice py y.gone.length cy) (ad := ⟨wr.heap.size, 8, none⟩) (fun _ h => h.1.cell 8) ?_
            all_goals first | refine Calm.sk ?_ | refine Calm.k1 hs (fun w1 h => C1 w1 h.2.1) ?_
            iterate 7 (all_goals refine Calm.sp ?_)
            all_goals first | refine Calm.sk ?_ | refine Calm.ce (v := .slice (some ⟨g, o, none⟩) x.el.length ce') (ad := ⟨w00.heap.size, 5, none⟩) (fun _ h => h.2.2.1) ?_
            iterate 4 (all_goals refine Calm.sp ?_)
            all_goals first | refine Calm.sk ?_ | refine Calm.lm zu (fun _ h => h.2.2.2.1) Tryz.underlying50 ?_ | refine Calm.lm zy (fun _ h => h.2.2.2.2.1) Tryz.underlying50 ?_
            all_goals refine Calm.sp ?_
            all_goals first | refine Calm.sk ?_ | refine Calm.lm zu (fun _ h => h.2.2.2.1) Tryz.underlying50 ?_ | refine Calm.lm zy (fun _ h => h.2.2.2.2.1) Tryz.underlying50 ?_
            all_goals first | refine Calm.sk ?_ | refine Calm.k2 hs (fun w1 h => C2 w1) ?_
            iterate 5 (all_goals refine Calm.sp ?_)
            all_goals first | refine Calm.sk ?_ | refine Calm.ce (v := .slice (some ⟨g, o, none⟩) x.el.length ce') (ad := ⟨w00.heap.size, 5, none⟩) (fun _ h => h.2.2.1) ?_
            all_goals refine Calm.sp ?_
            all_goals first | refine Calm.sk ?_ | refine Calm.k2 hs (fun w1 h => C3 w1 h.2.2.2.2.2) ?_
            iterate 2 (all_goals refine Calm.sp ?_)
            all_goals
             rintro w9 ⟨_, _, _, _, _, hbel9⟩
            go_wp2_with fail
            go_ret
            exact ⟨rfl, hbel9⟩
           ·have HV2 : Hid (∀ i (h : i < x.el.length), i < m + 1 + 1 → okc x.el i h = true) := fun i h hi => by
             rcases Nat.lt_or_ge i (m + 1) with h' | h'
             ·exact HV.out i h h'
             ·obtain rfl : i = m + 1 := by omega
              exact HO2.out
            clear HO2
            clear HV HZ
            go_wp2_with (refine load_m 69 _ rfl rfl _ _ rfl d Tryz.underlying69 rfl zb ?_)
            clear d
            have hs : Calm.Stays (fun w' => Rw w' wr.heap.size 69 #[.int .i64 y.p, .int .i64 y.s, .int .i64 y.i, .int .i64 y.t, .int .i64 y.q, .int .i64 y.u, .int .i64 y.j, .string y.x, .slice py y.gone.length cy] ∧ MHas w' (.slice py y.gone.length cy) y.gone ∧ w'.cell? ⟨w00.heap.size, 5, none⟩ = some (.slice (some ⟨g, o, none⟩) x.el.length ce') ∧ w'.rangeAt g (o + m * 9) [Value.int .i64 u.p, .int .i64 u.s, .int .i64 u.i] ∧ w'.rangeAt wr.heap.size 0 [Value.int .i64 y.p, .int .i64 y.s, .int .i64 y.i] ∧ Below w00.heap.size w00 w') := fun wa wb h hb => ⟨h.1.later hb, h.2.1.later hb, cell_later hb h.2.2.1, range_later h.2.2.2.1 hb, range_later h.2.2.2.2.1 hb, below_on h.2.2.2.2.2 hb⟩
            refine Calm.region (by kernel_rfl) (by kernel_rfl) (fun w' => Rw w' wr.heap.size 69 #[.int .i64 y.p, .int .i64 y.s, .int .i64 y.i, .int .i64 y.t, .int .i64 y.q, .int .i64 y.u, .int .i64 y.j, .string y.x, .slice py y.gone.length cy] ∧ MHas w' (.slice py y.gone.length cy) y.gone ∧ w'.cell? ⟨w00.heap.size, 5, none⟩ = some (.slice (some ⟨g, o, none⟩) x.el.length ce') ∧ w'.rangeAt g (o + m * 9) [Value.int .i64 u.p, .int .i64 u.s, .int .i64 u.i] ∧ w'.rangeAt wr.heap.size 0 [Value.int .i64 y.p, .int .i64 y.s, .int .i64 y.i] ∧ Below w00.heap.size w00 w') ⟨R, hyk, cE, d2, d3, hbel.drew⟩ ?_
            iterate 2 (all_goals refine Calm.sp ?_)
            all_goals refine Calm.ce (v := .int .i64 y.i) (ad := ⟨wr.heap.size, 2, none⟩) (fun _ h => h.1.cell 2) ?_
            iterate 3 (all_goals refine Calm.sp ?_)
            all_goals first | refine Calm.sk ?_ | refine Calm.ce (v := .string y.x) (ad := ⟨wr.heap.size, 7, none⟩) (fun _ h => h.1.cell 7) ?_
            iterate 5 (all_goals refine Calm.sp ?_)
            all_goals first | refine Calm.sk ?_ | refine Calm.ce (v := .slice py y.gone.length cy) (ad := ⟨wr.heap.size, 8, none⟩) (fun _ h => h.1.cell 8) ?_
            all_goals first | refine Calm.sk ?_ | refine Calm.k1 hs (fun w1 h => C1 w1 h.2.1) ?_
            iterate 7 (all_goals refine Calm.sp ?_)
            all_goals first | refine Calm.sk ?_ | refine Calm.ce (v := .slice (some ⟨g, o, none⟩) x.el.length ce') (ad := ⟨w00.heap.size, 5, none⟩) (fun _ h => h.2.2.1) ?_
            iterate 4 (all_goals refine Calm.sp ?_)
            all_goals first | refine Calm.sk ?_ | refine Calm.lm zu (fun _ h => h.2.2.2.1) Tryz.underlying50 ?_ | refine Calm.lm zy (fun _ h => h.2.2.2.2.1) Tryz.underlying50 ?_
            all_goals refine Calm.sp ?_
            all_goals first | refine Calm.sk ?_ | refine Calm.lm zu (fun _ h => h.2.2.2.1) Tryz.underlying50 ?_ | refine Calm.lm zy (fun _ h => h.2.2.2.2.1) Tryz.underlying50 ?_
            all_goals first | refine Calm.sk ?_ | refine Calm.k2 hs (fun w1 h => C2 w1) ?_
            iterate 5 (all_goals refine Calm.sp ?_)
            all_goals first | refine Calm.sk ?_ | refine Calm.ce (v := .slice (some ⟨g, o, none⟩) x.el.length ce') (ad := ⟨w00.heap.size, 5, none⟩) (fun _ h => h.2.2.1) ?_
            all_goals refine Calm.sp ?_
            all_goals first | refine Calm.sk ?_ | refine Calm.k2 hs (fun w1 h => C3 w1 h.2.2.2.2.2) ?_
            iterate 2 (all_goals refine Calm.sp ?_)
            all_goals
             rintro w9 ⟨_, _, cE9, _, _, hbel9⟩
            go_wp2_with fail
            go_roundw
            case rel => exact ⟨m + 1 + 1, by simp, by omega, HV2, cE9, hbel9⟩
            case measure => simp [intOf]; omega
       ·have hx2 : decide ((64 : Int) < (y.x.size : Int)) = true := by simp; omega
        have HF := okc_not HZ hlt (show okc x.el k hlt = false by rw [HO1.out, decide_eq_false hx1]; simp)
        clear HO1 HY1 HE1 HX2
        have e := HF.out
        subst e
        clear HF HV HZ
        go_wp2_with (refine load_m 69 _ rfl rfl _ _ rfl d Tryz.underlying69 rfl zb ?_)
        clear d
        have hs : Calm.Stays (fun w' => Rw w' wr.heap.size 69 #[.int .i64 y.p, .int .i64 y.s, .int .i64 y.i, .int .i64 y.t, .int .i64 y.q, .int .i64 y.u, .int .i64 y.j, .string y.x, .slice py y.gone.length cy] ∧ MHas w' (.slice py y.gone.length cy) y.gone ∧ w'.cell? ⟨w00.heap.size, 5, none⟩ = some (.slice (some ⟨g, o, none⟩) x.el.length ce') ∧ Below w00.heap.size w00 w') := fun wa wb h hb => ⟨h.1.later hb, h.2.1.later hb, cell_later hb h.2.2.1, below_on h.2.2.2 hb⟩
        refine Calm.region (by kernel_rfl) (by kernel_rfl) (fun w' => Rw w' wr.heap.size 69 #[.int .i64 y.p, .int .i64 y.s, .int .i64 y.i, .int .i64 y.t, .int .i64 y.q, .int .i64 y.u, .int .i64 y.j, .string y.x, .slice py y.gone.length cy] ∧ MHas w' (.slice py y.gone.length cy) y.gone ∧ w'.cell? ⟨w00.heap.size, 5, none⟩ = some (.slice (some ⟨g, o, none⟩) x.el.length ce') ∧ Below w00.heap.size w00 w') ⟨R, hyk, cE, hbel.drew⟩ ?_
        iterate 2 (all_goals refine Calm.sp ?_)
        all_goals refine Calm.ce (v := .int .i64 y.i) (ad := ⟨wr.heap.size, 2, none⟩) (fun _ h => h.1.cell 2) ?_
        iterate 3 (all_goals refine Calm.sp ?_)
        all_goals first | refine Calm.sk ?_ | refine Calm.ce (v := .string y.x) (ad := ⟨wr.heap.size, 7, none⟩) (fun _ h => h.1.cell 7) ?_
        iterate 5 (all_goals refine Calm.sp ?_)
        all_goals first | refine Calm.sk ?_ | refine Calm.ce (v := .slice py y.gone.length cy) (ad := ⟨wr.heap.size, 8, none⟩) (fun _ h => h.1.cell 8) ?_
        all_goals first | refine Calm.sk ?_ | refine Calm.k1 hs (fun w1 h => C1 w1 h.2.1) ?_
        iterate 7 (all_goals refine Calm.sp ?_)
        all_goals first | refine Calm.sk ?_ | refine Calm.ce (v := .slice (some ⟨g, o, none⟩) x.el.length ce') (ad := ⟨w00.heap.size, 5, none⟩) (fun _ h => h.2.2.1) ?_
        iterate 7 (all_goals refine Calm.sp ?_)
        all_goals first | refine Calm.sk ?_ | refine Calm.k2 hs (fun w1 h => C1L w1) ?_
        iterate 5 (all_goals refine Calm.sp ?_)
        all_goals first | refine Calm.sk ?_ | refine Calm.ce (v := .slice (some ⟨g, o, none⟩) x.el.length ce') (ad := ⟨w00.heap.size, 5, none⟩) (fun _ h => h.2.2.1) ?_
        all_goals refine Calm.sp ?_
        all_goals first | refine Calm.sk ?_ | refine Calm.k2 hs (fun w1 h => C3 w1 h.2.2.2) ?_
        iterate 2 (all_goals refine Calm.sp ?_)
        all_goals
         rintro w9 ⟨_, _, _, hbel9⟩
        go_wp2_with fail
        go_ret
        exact ⟨rfl, hbel9⟩
      ·have hi2 : decide (y.i < 1) = true := by simp; omega
       have HF := okc_not HZ hlt (show okc x.el k hlt = false by rw [HO1.out, decide_eq_false hi1]; simp)
       clear HO1 HY1 HE1 HX2
       have e := HF.out
       subst e
       clear HF HV HZ
       go_wp2_with (refine load_m 69 _ rfl rfl _ _ rfl d Tryz.underlying69 rfl zb ?_)
       clear d
       have hs : Calm.Stays (fun w' => Rw w' wr.heap.size 69 #[.int .i64 y.p, .int .i64 y.s, .int .i64 y.i, .int .i64 y.t, .int .i64 y.q, .int .i64 y.u, .int .i64 y.j, .string y.x, .slice py y.gone.length cy] ∧ MHas w' (.slice py y.gone.length cy) y.gone ∧ w'.cell? ⟨w00.heap.size, 5, none⟩ = some (.slice (some ⟨g, o, none⟩) x.el.length ce') ∧ Below w00.heap.size w00 w') := fun wa wb h hb => ⟨h.1.later hb, h.2.1.later hb, cell_later hb h.2.2.1, below_on h.2.2.2 hb⟩
       refine Calm.region (by kernel_rfl) (by kernel_rfl) (fun w' => Rw w' wr.heap.size 69 #[.int .i64 y.p, .int .i64 y.s, .int .i64 y.i, .int .i64 y.t, .int .i64 y.q, .int .i64 y.u, .int .i64 y.j, .string y.x, .slice py y.gone.length cy] ∧ MHas w' (.slice py y.gone.length cy) y.gone ∧ w'.cell? ⟨w00.heap.size, 5, none⟩ = some (.slice (some ⟨g, o, none⟩) x.el.length ce') ∧ Below w00.heap.size w00 w') ⟨R, hyk, cE, hbel.drew⟩ ?_
       iterate 2 (all_goals refine Calm.sp ?_)
       all_goals refine Calm.ce (v := .int .i64 y.i) (ad := ⟨wr.heap.size, 2, none⟩) (fun _ h => h.1.cell 2) ?_
       iterate 3 (all_goals refine Calm.sp ?_)
       all_goals first | refine Calm.sk ?_ | refine Calm.ce (v := .string y.x) (ad := ⟨wr.heap.size, 7, none⟩) (fun _ h => h.1.cell 7) ?_
       iterate 5 (all_goals refine Calm.sp ?_)
       all_goals first | refine Calm.sk ?_ | refine Calm.ce (v := .slice py y.gone.length cy) (ad := ⟨wr.heap.size, 8, none⟩) (fun _ h => h.1.cell 8) ?_
       all_goals first | refine Calm.sk ?_ | refine Calm.k1 hs (fun w1 h => C1 w1 h.2.1) ?_
       iterate 7 (all_goals refine Calm.sp ?_)
       all_goals first | refine Calm.sk ?_ | refine Calm.ce (v := .slice (some ⟨g, o, none⟩) x.el.length ce') (ad := ⟨w00.heap.size, 5, none⟩) (fun _ h => h.2.2.1) ?_
       iterate 7 (all_goals refine Calm.sp ?_)
       all_goals first | refine Calm.sk ?_ | refine Calm.k2 hs (fun w1 h => C1L w1) ?_
       iterate 5 (all_goals refine Calm.sp ?_)
       all_goals first | refine Calm.sk ?_ | refine Calm.ce (v := .slice (some ⟨g, o, none⟩) x.el.length ce') (ad := ⟨w00.heap.size, 5, none⟩) (fun _ h => h.2.2.1) ?_
       all_goals refine Calm.sp ?_
       all_goals first | refine Calm.sk ?_ | refine Calm.k2 hs (fun w1 h => C3 w1 h.2.2.2) ?_
       iterate 2 (all_goals refine Calm.sp ?_)
       all_goals
        rintro w9 ⟨_, _, _, hbel9⟩
       go_wp2_with fail
       go_ret
       exact ⟨rfl, hbel9⟩
     ·have hlt' : ¬ (k : Int) < (x.el.length : Int) := by omega
      have e := HZ.out
      rw [(okc_iff x.el).2 (fun i h => HV.out i h (by omega))] at e
      subst e
      clear HZ HV HR HY HL HA
      go_wp2_with fail
      go_ret
      exact ⟨rfl, hbel⟩
   ·have h0' : (0 : Int) < (x.am.length : Int) + (x.wr.length : Int) + (x.mb.length : Int) := by omega
    obtain rfl : z = false := by have := hz.out; rw [decide_eq_false h0] at this; simpa using this
    clear hz h0
    go_enter Tryz.func32, Tryz.ntmps32
    go_wp2_with fail
    go_ret
    exact ⟨rfl, bel_alloc (Below.refl _ _) _⟩
  ·obtain rfl : z = false := by have := hz.out; rw [decide_eq_false hb] at this; simpa using this
   clear hz
   go_enter Tryz.func32, Tryz.ntmps32
   go_wp2_with fail
   go_ret
   exact ⟨rfl, bel_alloc (Below.refl _ _) _⟩
 ·obtain rfl : z = false := by have := hz.out; rw [decide_eq_false hk] at this; simpa using this
  clear hz
  go_enter Tryz.func32, Tryz.ntmps32
  go_wp2_with fail
  go_ret
  exact ⟨rfl, bel_alloc (Below.refl _ _) _⟩
def nwK (k : Int) : Int := if 1 ≤ k ∧ k ≤ 5 then k else 0
def nwE (k : Int) : Int := if 1 ≤ k ∧ k ≤ 5 then 0 else 2
theorem new_c (k : Int) (w : World) : Calls Tryz.prog 12 #[.int .i64 k] w (Tells (.tuple #[CV (nwK k) 0 (.slice none 0 0) (.slice none 0 0) (.slice none 0 0) (.slice none 0 0), .int .i64 (nwE k)]) w) := by
 by_cases h1 : k < 1
 ·rw [show nwK k = 0 by unfold nwK; rw [if_neg (by omega)], show nwE k = 2 by unfold nwE; rw [if_neg (by omega)]]
  have d1 : decide (k < 1) = true := by simpa using h1
  obtain ⟨w0, hW⟩ : ∃ w0, w.alloc (.cells z4 27) = w0 := ⟨_, rfl⟩
  have R := rw_new w 27 z4
  have hb := bel_alloc (Below.refl w.heap.size w) (.cells z4 27)
  rw [hW] at R hb
  go_enter Tryz.func12, Tryz.ntmps12
  go_wp2_with (first | rw [hW] | refine store_r rfl 27 _ _ rfl _ z4 rfl rfl R size27 rfl (by simp [Value.oneCell']) ?_)
  refine bodyPost_ret (results_rt rfl rfl (R.row _) rfl Tryz.underlying27 size27) rfl ?_
  exact ⟨rfl, below_setRow hb (by omega) _⟩
 ·have d1 : decide (k < 1) = false := by simpa using h1
  by_cases h2 : 5 < k
  ·rw [show nwK k = 0 by unfold nwK; rw [if_neg (by omega)], show nwE k = 2 by unfold nwE; rw [if_neg (by omega)]]
   have d2 : decide (5 < k) = true := by simpa using h2
   obtain ⟨w0, hW⟩ : ∃ w0, w.alloc (.cells z4 27) = w0 := ⟨_, rfl⟩
   have R := rw_new w 27 z4
   have hb := bel_alloc (Below.refl w.heap.size w) (.cells z4 27)
   rw [hW] at R hb
   go_enter Tryz.func12, Tryz.ntmps12
   go_wp2_with (first | rw [hW] | refine store_r rfl 27 _ _ rfl _ z4 rfl rfl R size27 rfl (by simp [Value.oneCell']) ?_)
   refine bodyPost_ret (results_rt rfl rfl (R.row _) rfl Tryz.underlying27 size27) rfl ?_
   exact ⟨rfl, below_setRow hb (by omega) _⟩
  ·rw [show nwK k = k by unfold nwK; rw [if_pos (by omega)], show nwE k = 0 by unfold nwE; rw [if_pos (by omega)]]
   have d2 : decide (5 < k) = false := by simpa using h2
   obtain ⟨w0, hW⟩ : ∃ w0, w.alloc (.cells z4 27) = w0 := ⟨_, rfl⟩
   have R := rw_new w 27 z4
   have hb := bel_alloc (Below.refl w.heap.size w) (.cells z4 27)
   rw [hW] at R hb
   go_enter Tryz.func12, Tryz.ntmps12
   go_wp2_with (first | rw [hW] | refine store_r rfl 27 _ _ rfl _ (cvc k 0 (.slice none 0 0) (.slice none 0 0) (.slice none 0 0) (.slice none 0 0)) rfl rfl R size27 rfl (by simp [Value.oneCell']) ?_)
   refine bodyPost_ret (results_rt rfl rfl (R.row _) rfl Tryz.underlying27 size27) rfl ?_
   exact ⟨rfl, below_setRow hb (by omega) _⟩
def emc (x : X) : Bool := decide (x.b = 0) && (decide (x.am.length + x.wr.length + x.mb.length + x.el.length = 0) && ckc x)
theorem empty_c (x : X) (va vw vm ve : Value) (w : World) (h : Four w x va vw vm ve) (hs : Sm x) : Calls Tryz.prog 19 #[CV x.k x.b va vw vm ve] w (Tells (.bool (emc x)) w) := by
 obtain ⟨pa, ca', pw, cw, pm, cm, pe, ce', rfl, rfl, rfl, rfl⟩ := h.slices
 have R := rw_new w 27 (cvc x.k x.b (.slice pa x.am.length ca') (.slice pw x.wr.length cw) (.slice pm x.mb.length cm) (.slice pe x.el.length ce'))
 have hb := bel_alloc (Below.refl w.heap.size w) (.cells (cvc x.k x.b (.slice pa x.am.length ca') (.slice pw x.wr.length cw) (.slice pm x.mb.length cm) (.slice pe x.el.length ce')) 27)
 generalize hW : w.alloc (.cells (cvc x.k x.b (.slice pa x.am.length ca') (.slice pw x.wr.length cw) (.slice pm x.mb.length cm) (.slice pe x.el.length ce')) 27) = w0 at R hb
 have C := check_c x _ _ _ _ w0 (h.later hb) hs
 obtain ⟨z, HZ⟩ := hid_ex (ckc x)
 rw [HZ.out] at C
 obtain ⟨y, HY⟩ := hid_ex (emc x)
 rw [HY.out]
 have HE : Hid (y = (decide (x.b = 0) && (decide (x.am.length + x.wr.length + x.mb.length + x.el.length = 0) && z))) := by
  show _ = _
  rw [← HY.out, ← HZ.out]
  rfl
 clear HY HZ h
 obtain ⟨ha, ht, hm, he, _, _⟩ := hs
 have w1 : IntKind.i64.wrap ((x.am.length : Int) + (x.wr.length : Int)) = (x.am.length : Int) + (x.wr.length : Int) := by rw [IntKind.wrap_i64]; omega
 have w2 : IntKind.i64.wrap ((x.am.length : Int) + (x.wr.length : Int) + (x.mb.length : Int)) = (x.am.length : Int) + (x.wr.length : Int) + (x.mb.length : Int) := by rw [IntKind.wrap_i64]; omega
 have w3 : IntKind.i64.wrap ((x.am.length : Int) + (x.wr.length : Int) + (x.mb.length : Int) + (x.el.length : Int)) = (x.am.length : Int) + (x.wr.length : Int) + (x.mb.length : Int) + (x.el.length : Int) := by rw [IntKind.wrap_i64]; omega
 have c1 : w0.cell? ⟨w.heap.size, 1, none⟩ = some (.int .i64 x.b) := R.cell 1
 have c2 : w0.cell? ⟨w.heap.size, 2, none⟩ = some (.slice pa x.am.length ca') := R.cell 2
 have c3 : w0.cell? ⟨w.heap.size, 3, none⟩ = some (.slice pw x.wr.length cw) := R.cell 3
 have c4 : w0.cell? ⟨w.heap.size, 4, none⟩ = some (.slice pm x.mb.length cm) := R.cell 4
 have c5 : w0.cell? ⟨w.heap.size, 5, none⟩ = some (.slice pe x.el.length ce') := R.cell 5
 by_cases hb0 : x.b = 0
 ·have d1 : (x.b == 0) = true := by simpa using hb0
  by_cases hl : x.am.length + x.wr.length + x.mb.length + x.el.length = 0
  ·have d2 : (((x.am.length : Int) + (x.wr.length : Int) + (x.mb.length : Int) + (x.el.length : Int)) == 0) = true := by rw [beq_iff_eq]; omega
   have HE2 : Hid (y = z) := by show _ = _; rw [HE.out]; simp [hb0, hl]
   clear HE hl hb0
   go_enter Tryz.func19, Tryz.ntmps19
   go_wp2_with (first | rw [hW] | refine load_r 27 _ rfl rfl _ rfl R Tryz.underlying27 rfl size27 ?_)
   refine C.mono ?_
   rintro e w5 ⟨rfl, hb1⟩
   go_wp2_with fail
   go_ret
   rw [HE2.out]
   exact ⟨rfl, below_on hb hb1⟩
  ·have d2 : (((x.am.length : Int) + (x.wr.length : Int) + (x.mb.length : Int) + (x.el.length : Int)) == 0) = false := by rw [beq_eq_false_iff_ne]; omega
   have HE2 : Hid (y = false) := by show _ = _; rw [HE.out, decide_eq_false hl]; simp
   clear HE hl hb0
   go_enter Tryz.func19, Tryz.ntmps19
   go_wp2_with (first | rw [hW])
   go_ret
   rw [HE2.out]
   exact ⟨rfl, hb⟩
 ·have d1 : (x.b == 0) = false := by simpa using hb0
  have HE2 : Hid (y = false) := by show _ = _; rw [HE.out]; simp [hb0]
  clear HE hb0
  go_enter Tryz.func19, Tryz.ntmps19
  go_wp2_with (first | rw [hW])
  go_ret
  rw [HE2.out]
  exact ⟨rfl, hb⟩
theorem refCheck_c (x : X) (va vw vm ve : Value) (w : World) (h : Four w x va vw vm ve) (hs : Sm x) : Calls Tryz.prog 8 #[CV x.k x.b va vw vm ve] w (Tells (.bool (ckc x)) w) := by
 obtain ⟨k, b, am, wr, mb, el⟩ := x
 have R := rw_new w 27 (cvc k b va vw vm ve)
 have hb := bel_alloc (Below.refl w.heap.size w) (.cells (cvc k b va vw vm ve) 27)
 generalize hW : w.alloc (.cells (cvc k b va vw vm ve) 27) = w0 at R hb
 have c0 : w0.cell? ⟨w.heap.size, 0, none⟩ = some (.int .i64 k) := R.cell 0
 rcases kinds k with rfl | rfl | rfl | rfl | rfl | hk
 ·have C := Ct.refCheck_any ⟨1, b, am, wr, mb, el⟩ va vw vm ve w0 (h.later hb) hs
  rw [show ckc ⟨1, b, am, wr, mb, el⟩ = Ct.ck ⟨1, b, am, wr, mb, el⟩ from rfl]
  generalize Ct.ck ⟨1, b, am, wr, mb, el⟩ = z at C ⊢
  go_enter Tryz.func8, Tryz.ntmps8
  go_wp2_with (first | rw [hW] | refine load_r 27 _ rfl rfl _ rfl R Tryz.underlying27 rfl size27 ?_)
  refine C.mono ?_
  rintro e w1 ⟨rfl, hb1⟩
  go_wp2_with fail
  go_ret
  exact ⟨rfl, below_on hb hb1⟩
 ·have C := Rg.refCheck_any ⟨2, b, am, wr, mb, el⟩ va vw vm ve w0 (h.later hb) hs
  rw [show ckc ⟨2, b, am, wr, mb, el⟩ = Rg.ck ⟨2, b, am, wr, mb, el⟩ from rfl]
  generalize Rg.ck ⟨2, b, am, wr, mb, el⟩ = z at C ⊢
  go_enter Tryz.func8, Tryz.ntmps8
  go_wp2_with (first | rw [hW] | refine load_r 27 _ rfl rfl _ rfl R Tryz.underlying27 rfl size27 ?_)
  refine C.mono ?_
  rintro e w1 ⟨rfl, hb1⟩
  go_wp2_with fail
  go_ret
  exact ⟨rfl, below_on hb hb1⟩
 ·have C := Rg.refCheck_any ⟨3, b, am, wr, mb, el⟩ va vw vm ve w0 (h.later hb) hs
  rw [show ckc ⟨3, b, am, wr, mb, el⟩ = Rg.ck ⟨3, b, am, wr, mb, el⟩ from rfl]
  generalize Rg.ck ⟨3, b, am, wr, mb, el⟩ = z at C ⊢
  go_enter Tryz.func8, Tryz.ntmps8
  go_wp2_with (first | rw [hW] | refine load_r 27 _ rfl rfl _ rfl R Tryz.underlying27 rfl size27 ?_)
  refine C.mono ?_
  rintro e w1 ⟨rfl, hb1⟩
  go_wp2_with fail
  go_ret
  exact ⟨rfl, below_on hb hb1⟩
 ·have C := Os.refCheck_any ⟨4, b, am, wr, mb, el⟩ va vw vm ve w0 (h.later hb) hs
  rw [show ckc ⟨4, b, am, wr, mb, el⟩ = Os.ck ⟨4, b, am, wr, mb, el⟩ from rfl]
  generalize Os.ck ⟨4, b, am, wr, mb, el⟩ = z at C ⊢
  go_enter Tryz.func8, Tryz.ntmps8
  go_wp2_with (first | rw [hW] | refine load_r 27 _ rfl rfl _ rfl R Tryz.underlying27 rfl size27 ?_)
  refine C.mono ?_
  rintro e w1 ⟨rfl, hb1⟩
  go_wp2_with fail
  go_ret
  exact ⟨rfl, below_on hb hb1⟩
 ·have C := refCheck_any ⟨5, b, am, wr, mb, el⟩ va vw vm ve w0 (h.later hb) hs
  rw [show ckc ⟨5, b, am, wr, mb, el⟩ = ck ⟨5, b, am, wr, mb, el⟩ from rfl]
  generalize ck ⟨5, b, am, wr, mb, el⟩ = z at C ⊢
  go_enter Tryz.func8, Tryz.ntmps8
  go_wp2_with (first | rw [hW] | refine load_r 27 _ rfl rfl _ rfl R Tryz.underlying27 rfl size27 ?_)
  refine C.mono ?_
  rintro e w1 ⟨rfl, hb1⟩
  go_wp2_with fail
  go_ret
  exact ⟨rfl, below_on hb hb1⟩
 ·rw [show ckc ⟨k, b, am, wr, mb, el⟩ = false from cse0 _ _ _ _ _ hk]
  obtain ⟨k1, k2, k3, k4, k5⟩ := hk
  go_enter Tryz.func8, Tryz.ntmps8
  go_wp2_with (first | rw [hW])
  go_ret
  exact ⟨rfl, hb⟩
def hZ : List Int := [0, 0, 0, 0, 0, 0, 0, 0, 0, 0, 0, 0, 0]
def sX : ByteArray := ⟨#[120]⟩
def o1 : O := ⟨0, noS, noS, 0, 1, 3, noS, 0, 0, 0⟩
def o2 : O := ⟨0, noS, noS, 0, 1, 0, sX, 0, 0, 0⟩
def o3 : O := ⟨0, noS, noS, 0, 3, 0, sX, 0, 0, 0⟩
def xk (k : Int) : X := ⟨k, 0, [], [], [], []⟩
def xb : X := ⟨1, 0, [⟨1, 1, 1, 3⟩], [], [], []⟩
def xx : X := ⟨4, 0, [], [], [⟨sX, false, [⟨1, 1, 1⟩]⟩], []⟩
theorem sm_k (k : Int) : Sm (xk k) := ⟨by simp [xk], by simp [xk], by simp [xk], by simp [xk], by simp [xk], by simp [xk]⟩
theorem sm_b : Sm xb := ⟨by simp [xb], by simp [xb], by simp [xb], by simp [xb], by simp [xb], by simp [xb]⟩
theorem sm_x : Sm xx := ⟨by simp [xx], by simp [xx], by simp [xx], by simp [xx], by simp [xx], by simp [xx]⟩
theorem four_k (k : Int) (w : World) : Four w (xk k) (.slice none 0 0) (.slice none 0 0) (.slice none 0 0) (.slice none 0 0) := ⟨SHas.nil w 4, SHas.nil w 5, ⟨[], rfl, SHas.nil w 3, fun _ h => by cases h⟩, ⟨[], rfl, SHas.nil w 9, fun _ h => by cases h⟩⟩
theorem ck_1 : Ct.ck (xk 1) = true := by decide
theorem ck_b : Ct.ck xb = true := by decide
theorem ck_4 : Os.ck (xk 4) = true := by decide
theorem ck_x : Os.ck xx = true := by decide
theorem doc_b : doc (xk 1) o1 1 1 hZ 1 1 = xb := by
 simp only [doc, xk, cse1, Ct.doX, show Ct.ck ⟨1, 0, [], [], [], []⟩ = true from ck_1]
 rfl
theorem doc_x : doc (xk 4) o2 1 1 hZ 1 1 = xx := by
 simp only [doc, xk, cse4, Os.addX, show Os.ck ⟨4, 0, [], [], [], []⟩ = true from ck_4]
 rfl
theorem doc_s : doc (xk 4) o3 1 1 hZ 1 1 = xk 4 := rfl
theorem em_1 : emc (xk 1) = true := by simp [emc, xk, ckc, cse1, show Ct.ck ⟨1, 0, [], [], [], []⟩ = true from ck_1]
theorem em_4 : emc (xk 4) = true := by simp [emc, xk, ckc, cse4, show Os.ck ⟨4, 0, [], [], [], []⟩ = true from ck_4]
theorem em_b : emc xb = false := by simp [emc, xb]
theorem rd_b : rkc xb = 1 ∧ rnc xb = 3 ∧ rtc xb = [] := by
 refine ⟨?_, ?_, rfl⟩
 ·rw [show rkc xb = Ct.rdK xb from rfl, Ct.rdK, ck_b]; rfl
 ·rw [show rnc xb = Ct.rdN xb from rfl, Ct.rdN, ck_b]; rfl
theorem rd_x : rkc xx = 4 ∧ rnc xx = 0 ∧ (rtc xx).length = 1 := by
 refine ⟨?_, rfl, ?_⟩
 ·rw [show rkc xx = Os.rdK xx from rfl, Os.rdK, ck_x]; rfl
 ·rw [show rtc xx = Os.rdT xx from rfl, Os.rdT, ck_x]; rfl
theorem ckc_x : ckc xx = true := ck_x
theorem field46_1 (k n : Int) (u : Value) (w : World) : (Instr.field 46 (VN k n u) 1).run Tryz.prog w = .ok (.int .i64 n) w := by
 simp [Instr.field, go_sem, asAgg]
theorem field46_2 (k n : Int) (p : Option Addr) (l c : Nat) (w : World) : (Instr.field 46 (VN k n (.slice p l c)) 2).run Tryz.prog w = .ok (.slice p l c) w := by
 simp [Instr.field, go_sem, asAgg]
theorem heads_any (w : World) : Calls Tryz.prog 11 #[] w (Tells (.bool true) w) := by
 have zt := size_tx (p := 1) (s := 1) (v := hZ) (t := 1) (sl := .slice none 0 0) rfl
 have RT := rw_new w 34 #[.int .i64 1, .int .i64 1, .int .i64 0, .int .i64 0, .int .i64 0, .int .i64 0, .int .i64 0, .int .i64 0, .int .i64 0, .int .i64 0, .int .i64 0, .int .i64 0, .int .i64 0, .int .i64 0, .int .i64 0, .int .i64 1, .slice none 0 0]
 have hb := bel_alloc (Below.refl w.heap.size w) (.cells #[.int .i64 1, .int .i64 1, .int .i64 0, .int .i64 0, .int .i64 0, .int .i64 0, .int .i64 0, .int .i64 0, .int .i64 0, .int .i64 0, .int .i64 0, .int .i64 0, .int .i64 0, .int .i64 0, .int .i64 0, .int .i64 1, .slice none 0 0] 34)
 go_enter Tryz.func11, Tryz.ntmps11
 go_wp2_with fail
 refine (new_c 1 _).mono ?_
 rw [show nwK 1 = 1 from rfl, show nwE 1 = 0 from rfl]
 rintro e w1 ⟨rfl, hb1⟩
 replace RT := RT.later hb1
 replace hb := below_on hb hb1
 clear hb1
 replace RT : Rw w1 w.heap.size 34 (txc 1 1 hZ 1 (.slice none 0 0)).toArray := RT
 have R1 := rw_new w1 27 #[.int .i64 1, .int .i64 0, .slice none 0 0, .slice none 0 0, .slice none 0 0, .slice none 0 0]
 have hbv := bel_alloc (Below.refl w1.heap.size w1) (.cells #[.int .i64 1, .int .i64 0, .slice none 0 0, .slice none 0 0, .slice none 0 0, .slice none 0 0] 27)
 replace RT := RT.later hbv
 replace hb := below_on hb hbv
 go_wp2_with fail
 refine (new_c 6 _).mono ?_
 rw [show nwK 6 = 0 from rfl, show nwE 6 = 2 from rfl]
 rintro e w2 ⟨rfl, hb1⟩
 replace RT := RT.later hb1
 replace R1 := R1.later hb1
 replace hb := below_on hb hb1
 clear hb1 hbv
 have R2 := rw_new w2 27 #[.int .i64 0, .int .i64 0, .slice none 0 0, .slice none 0 0, .slice none 0 0, .slice none 0 0]
 have hbv := bel_alloc (Below.refl w2.heap.size w2) (.cells #[.int .i64 0, .int .i64 0, .slice none 0 0, .slice none 0 0, .slice none 0 0, .slice none 0 0] 27)
 replace RT := RT.later hbv
 replace R1 := R1.later hbv
 replace hb := below_on hb hbv
 go_wp2_with fail
 refine (new_c 4 _).mono ?_
 rw [show nwK 4 = 4 from rfl, show nwE 4 = 0 from rfl]
 rintro e w3 ⟨rfl, hb1⟩
 replace RT := RT.later hb1
 replace R1 := R1.later hb1
 replace hb := below_on hb hb1
 clear hb1 hbv R2
 have R3 := rw_new w3 27 #[.int .i64 4, .int .i64 0, .slice none 0 0, .slice none 0 0, .slice none 0 0, .slice none 0 0]
 have hbv := bel_alloc (Below.refl w3.heap.size w3) (.cells #[.int .i64 4, .int .i64 0, .slice none 0 0, .slice none 0 0, .slice none 0 0, .slice none 0 0] 27)
 replace RT := RT.later hbv
 replace R1 := R1.later hbv
 replace hb := below_on hb hbv
 go_wp2_with (first | refine load_r 27 _ rfl rfl _ rfl R1 Tryz.underlying27 rfl size27 ?_ | refine load_r 34 _ rfl rfl _ rfl RT Tryz.underlying34 rfl zt ?_)
 refine (show Calls Tryz.prog 21 #[_, _, _, _] _ _ from do_c (xk 1) _ _ _ _ 1 1 hZ 1 (.slice none 0 0) 1 o1 _ rfl (by decide) (four_k 1 _) (sm_k 1)).mono ?_
 rw [doc_b]
 rintro e w4 ⟨ua, uw, um, ue, rfl, f1, hb1⟩
 obtain ⟨aa, ab, ac, ad, ae, af, ag, ah, rfl, rfl, rfl, rfl⟩ := f1.slices
 replace RT := RT.later hb1
 replace R1 := R1.later hb1
 replace R3 := R3.later hb1
 replace hb := below_on hb hb1
 clear hb1 hbv
 replace f1 : Four w4 xb (.slice aa 1 ab) (.slice ac 0 ad) (.slice ae 0 af) (.slice ag 0 ah) := f1
 obtain ⟨v4, hV4⟩ : ∃ v, (w4.alloc (.cells z4 27)).setRow w4.heap.size (cvc 1 0 (.slice aa 1 ab) (.slice ac 0 ad) (.slice ae 0 af) (.slice ag 0 ah)) = v := ⟨_, rfl⟩
 obtain ⟨R4, hbv⟩ := box_set hV4
 replace RT := RT.later hbv
 replace R1 := R1.later hbv
 replace R3 := R3.later hbv
 replace hb := below_on hb hbv
 replace f1 := f1.later hbv
 go_wp2_with (first | (refine store_r rfl 27 _ _ rfl _ (cvc 1 0 (.slice aa 1 ab) (.slice ac 0 ad) (.slice ae 0 af) (.slice ag 0 ah)) rfl rfl (rw_new w4 27 _) size27 rfl (by simp [Value.oneCell']) ?_; rw [hV4]) | refine load_r 27 _ rfl rfl _ rfl R3 Tryz.underlying27 rfl size27 ?_ | refine load_r 34 _ rfl rfl _ rfl RT Tryz.underlying34 rfl zt ?_)
 refine (show Calls Tryz.prog 21 #[_, _, _, _] _ _ from do_c (xk 4) _ _ _ _ 1 1 hZ 1 (.slice none 0 0) 1 o2 v4 rfl (by decide) (four_k 4 v4) (sm_k 4)).mono ?_
 rw [doc_x]
 rintro e w5 ⟨ua, uw, um, ue, rfl, f2, hb1⟩
 obtain ⟨ba, bb, bc, bd, be, bf, bg, bh, rfl, rfl, rfl, rfl⟩ := f2.slices
 replace f2 : Four w5 xx (.slice ba 0 bb) (.slice bc 0 bd) (.slice be 1 bf) (.slice bg 0 bh) := f2
 replace RT := RT.later hb1
 replace R1 := R1.later hb1
 replace R3 := R3.later hb1
 replace R4 := R4.later hb1
 replace hb := below_on hb hb1
 replace f1 := f1.later hb1
 clear hb1 hbv hV4
 obtain ⟨v5, hV5⟩ : ∃ v, (w5.alloc (.cells z4 27)).setRow w5.heap.size (cvc 4 0 (.slice ba 0 bb) (.slice bc 0 bd) (.slice be 1 bf) (.slice bg 0 bh)) = v := ⟨_, rfl⟩
 obtain ⟨R5, hbv⟩ := box_set hV5
 replace RT := RT.later hbv
 replace R1 := R1.later hbv
 replace R3 := R3.later hbv
 replace R4 := R4.later hbv
 replace hb := below_on hb hbv
 replace f1 := f1.later hbv
 replace f2 := f2.later hbv
 go_wp2_with (first | (refine store_r rfl 27 _ _ rfl _ (cvc 4 0 (.slice ba 0 bb) (.slice bc 0 bd) (.slice be 1 bf) (.slice bg 0 bh)) rfl rfl (rw_new w5 27 _) size27 rfl (by simp [Value.oneCell']) ?_; rw [hV5]) | refine load_r 27 _ rfl rfl _ rfl R1 Tryz.underlying27 rfl size27 ?_)
 refine (show Calls Tryz.prog 19 #[_] _ _ from empty_c (xk 1) _ _ _ _ v5 (four_k 1 v5) (sm_k 1)).mono ?_
 rw [em_1]
 rintro e w6 ⟨rfl, hb1⟩
 replace RT := RT.later hb1
 replace R3 := R3.later hb1
 replace R4 := R4.later hb1
 replace R5 := R5.later hb1
 replace hb := below_on hb hb1
 replace f1 := f1.later hb1
 replace f2 := f2.later hb1
 clear hb1 hbv hV5 R1
 go_wp2_with (first | refine load_r 27 _ rfl rfl _ rfl R4 Tryz.underlying27 rfl size27 ?_)
 refine (show Calls Tryz.prog 19 #[_] _ _ from empty_c xb _ _ _ _ w6 f1 sm_b).mono ?_
 rw [em_b]
 rintro e w7 ⟨rfl, hb1⟩
 replace RT := RT.later hb1
 replace R3 := R3.later hb1
 replace R4 := R4.later hb1
 replace R5 := R5.later hb1
 replace hb := below_on hb hb1
 replace f1 := f1.later hb1
 replace f2 := f2.later hb1
 clear hb1
 go_wp2_with (first | refine load_r 27 _ rfl rfl _ rfl R4 Tryz.underlying27 rfl size27 ?_)
 refine (show Calls Tryz.prog 14 #[_] _ _ from read_c xb _ _ _ _ w7 f1 sm_b).mono ?_
 rw [rd_b.1, rd_b.2.1, rd_b.2.2]
 rintro e w8 ⟨u, rfl, hu, hb1⟩
 have g1 := field46_1 1 3 u
 replace RT := RT.later hb1
 replace R3 := R3.later hb1
 replace R5 := R5.later hb1
 replace hb := below_on hb hb1
 replace f2 := f2.later hb1
 clear hb1 R4 f1 hu
 go_wp2_with (first | refine load_r 27 _ rfl rfl _ rfl R5 Tryz.underlying27 rfl size27 ?_)
 refine (show Calls Tryz.prog 14 #[_] _ _ from read_c xx _ _ _ _ w8 f2 sm_x).mono ?_
 rw [rd_x.1, rd_x.2.1]
 rintro e w9 ⟨u2, rfl, hu, hb1⟩
 obtain ⟨p, c, rfl⟩ := hu.slice
 rw [rd_x.2.2]
 have g2 := field46_2 4 0 p 1 c
 replace RT := RT.later hb1
 replace R3 := R3.later hb1
 replace R5 := R5.later hb1
 replace hb := below_on hb hb1
 replace f2 := f2.later hb1
 clear hb1 hu g1
 go_wp2_with (first | refine load_r 27 _ rfl rfl _ rfl R5 Tryz.underlying27 rfl size27 ?_)
 refine (show Calls Tryz.prog 18 #[_] _ _ from check_c xx _ _ _ _ w9 f2 sm_x).mono ?_
 rw [ckc_x]
 rintro e w10 ⟨rfl, hb1⟩
 replace RT := RT.later hb1
 replace R3 := R3.later hb1
 replace hb := below_on hb hb1
 clear hb1 R5 f2 g2
 go_wp2_with (first | refine load_r 27 _ rfl rfl _ rfl R3 Tryz.underlying27 rfl size27 ?_ | refine load_r 34 _ rfl rfl _ rfl RT Tryz.underlying34 rfl zt ?_)
 refine (show Calls Tryz.prog 21 #[_, _, _, _] _ _ from do_c (xk 4) _ _ _ _ 1 1 hZ 1 (.slice none 0 0) 1 o3 w10 rfl (by decide) (four_k 4 w10) (sm_k 4)).mono ?_
 rw [doc_s]
 rintro e w11 ⟨ua, uw, um, ue, rfl, f3, hb1⟩
 replace hb := below_on hb hb1
 go_wp2_with fail
 refine (show Calls Tryz.prog 19 #[_] _ _ from empty_c (xk 4) _ _ _ _ w11 f3 (sm_k 4)).mono ?_
 rw [em_4]
 rintro e w12 ⟨rfl, hb2⟩
 go_wp2_with fail
 go_ret
 exact ⟨rfl, below_on hb hb2⟩
end Go.Proofs.YtjbbmcommnhgeaaGreat
