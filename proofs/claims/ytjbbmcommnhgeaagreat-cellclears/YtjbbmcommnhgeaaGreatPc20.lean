import Derived.Test.YtjbbmcommnhgeaaGreatPc13
set_option maxRecDepth 100000
set_option maxHeartbeats 8000000
namespace Go.Proofs.YtjbbmcommnhgeaaGreat.Rg
open Go.RowKit
theorem refCheck_any (x : X) (va vw vm ve : Value) (w : World) (h : Four w x va vw vm ve) (hs : Sm x) : Calls Tryz.prog 30 #[CV x.k x.b va vw vm ve] w (Tells (.bool (ck x)) w) := by
 obtain ⟨z, HZ⟩ := hid_ex (ck x)
 rw [HZ.out]
 obtain ⟨pa, ca', pw, cw, pm, cm, pe, ce, rfl, rfl, rfl, rfl⟩ := h.slices
 have HR : Hid (WHas w (.slice pw x.wr.length cw) x.wr) := h.t
 clear h
 obtain ⟨ha, ht, hm, he, _, _⟩ := hs
 have R0 := rw_new w 27 (cvc x.k x.b (.slice pa x.am.length ca') (.slice pw x.wr.length cw) (.slice pm x.mb.length cm) (.slice pe x.el.length ce))
 have hbel := bel_alloc (Below.refl w.heap.size w) (.cells (cvc x.k x.b (.slice pa x.am.length ca') (.slice pw x.wr.length cw) (.slice pm x.mb.length cm) (.slice pe x.el.length ce)) 27)
 by_cases hb : x.b = 0
 ·by_cases h0 : x.am.length + x.mb.length + x.el.length = 0
  ·have e1 : x.am.length = 0 := by omega
   have e2 : x.mb.length = 0 := by omega
   have e3 : x.el.length = 0 := by omega
   rcases (show x.k = 2 ∨ x.k = 3 ∨ (¬ x.k = 2 ∧ ¬ x.k = 3) by omega) with hk | hk | ⟨hk2, hk3⟩
   ·skip
    have HZ2 : Hid (ca x.wr = z) := by
     show _ = _
     rw [← HZ.out]
     unfold ck
     rw [hk, hb, decide_eq_true h0]
     rfl
    clear HZ
    rw [e1, e2, e3, hk, hb] at R0 hbel ⊢
    obtain ⟨l, HL⟩ := hid_ex x.wr
    rw [HL.out] at HR HZ2 ht
    have e4 : x.wr.length = l.length := by rw [HL.out]
    rw [e4] at R0 hbel ⊢
    clear e4 HL e1 e2 e3 h0 hm he ha hk hb
    generalize hW : w.alloc (.cells (cvc 2 0 (.slice pa 0 ca') (.slice pw l.length cw) (.slice pm 0 cm) (.slice pe 0 ce)) 27) = w0 at R0 hbel
    have c1 : w0.cell? ⟨w.heap.size, 1, none⟩ = some (.int .i64 0) := R0.cell 1
    have c0 : w0.cell? ⟨w.heap.size, 0, none⟩ = some (.int .i64 2) := R0.cell 0
    have c2 : w0.cell? ⟨w.heap.size, 2, none⟩ = some (.slice pa 0 ca') := R0.cell 2
    have c4 : w0.cell? ⟨w.heap.size, 4, none⟩ = some (.slice pm 0 cm) := R0.cell 4
    have c5 : w0.cell? ⟨w.heap.size, 5, none⟩ = some (.slice pe 0 ce) := R0.cell 5
    go_enter Tryz.func30, Tryz.ntmps30
    go_wp2_with (first | rw [hW])
    clear hW c0 c1 c2 c4 c5
    go_loopw [3] (fun vi wr => ∃ k : Nat, vi = .int .i64 k ∧ k ≤ l.length ∧ Rw wr w.heap.size 27 (cvc 2 0 (.slice pa 0 ca') (.slice pw l.length cw) (.slice pm 0 cm) (.slice pe 0 ce)) ∧ Hid (∀ i (h : i < l.length), i < k → okk l i h = true) ∧ Below w.heap.size w wr) (fun vi _ => l.length - (intOf vi).toNat)
    case atStart => exact ⟨0, rfl, by omega, R0, (show ∀ i (_ : i < l.length), i < 0 → _ from fun i _ h => by omega), hbel⟩
    case round =>
     clear R0 hbel
     obtain ⟨k, rfl, hk, R0, HV, hbel⟩ := hrel
     have c3 : wr.cell? ⟨w.heap.size, 3, none⟩ = some (.slice pw l.length cw) := R0.cell 3
     by_cases hlt : k < l.length
     ·have hlt' : (k : Int) < (l.length : Int) := by omega
      obtain ⟨g, o, rfl, hd0⟩ := HR.out.at (by omega)
      have hd := range_later hd0 hbel
      clear hd0 HR
      have d := Wt.elem hd k hlt
      obtain ⟨y, HY⟩ := hid_ex l[k]
      rw [HY.out] at d
      have z42 : (Tryz.prog.info? 64).map (·.size) = some y.cells.length := size64
      have zm : (Tryz.prog.info? 50).map (·.size) = some [Value.int .i64 y.p, .int .i64 y.s, .int .i64 y.i].length := size50
      have RB := rw_new wr 64 #[.int .i64 y.p, .int .i64 y.s, .int .i64 y.i, .int .i64 y.t, .string y.x]
      have hba := bel_alloc (Below.refl wr.heap.size wr) (.cells #[.int .i64 y.p, .int .i64 y.s, .int .i64 y.i, .int .i64 y.t, .string y.x] 64)
      generalize hW : wr.alloc (.cells #[.int .i64 y.p, .int .i64 y.s, .int .i64 y.i, .int .i64 y.t, .string y.x] 64) = wx at RB hba
      go_wp2_with (first | rw [hW] | refine load_m 64 _ rfl rfl _ _ rfl d Tryz.underlying64 rfl z42 ?_)
      clear hW
      replace R0 := R0.later hba
      replace hbel := below_on hbel hba
      have hO0 : ∀ h', okk l k h' = (iw y.i y.x && (decide (k = 0) || lt (l[k - 1]'(by omega)) y)) := fun h' => by unfold okk; rw [HY.out]
      have HO0 : Hid (∀ h', okk l k h' = (iw y.i y.x && (decide (k = 0) || lt (l[k - 1]'(by omega)) y))) := hO0
      clear hO0
      by_cases hyx : 64 < y.x.size
      ·have HF := ca_not HZ2 hlt (by rw [HO0.out]; unfold iw; rw [decide_eq_false (show ¬ y.x.size ≤ 64 by omega)]; simp)
       have e := HF.out
       subst e
       have hyx' : decide ((64 : Int) < (y.x.size : Int)) = true := decide_eq_true (by omega)
       clear HZ2 HF HV hd d HO0
       have hs : Calm.Stays (fun w' => Rw w' w.heap.size 27 (cvc 2 0 (.slice pa 0 ca') (.slice (some ⟨g, o, none⟩) l.length cw) (.slice pm 0 cm) (.slice pe 0 ce)) ∧ Rw w' wr.heap.size 64 #[.int .i64 y.p, .int .i64 y.s, .int .i64 y.i, .int .i64 y.t, .string y.x] ∧ Below w.heap.size w w') := fun wa wb h hb => ⟨h.1.later hb, h.2.1.later hb, below_on h.2.2 hb⟩
       refine Calm.region (by kernel_rfl) (by kernel_rfl) (fun w' => Rw w' w.heap.size 27 (cvc 2 0 (.slice pa 0 ca') (.slice (some ⟨g, o, none⟩) l.length cw) (.slice pm 0 cm) (.slice pe 0 ce)) ∧ Rw w' wr.heap.size 64 #[.int .i64 y.p, .int .i64 y.s, .int .i64 y.i, .int .i64 y.t, .string y.x] ∧ Below w.heap.size w w') ⟨R0, RB, hbel.drew⟩ ?_
       all_goals refine Calm.sp ?_
       all_goals refine Calm.cs (fun _ h => h.2.1.cell 4) ?_
       iterate 5 (all_goals refine Calm.sp ?_)
       all_goals first | refine Calm.sk ?_ | refine Calm.cs (fun _ h => h.2.1.cell 2) ?_
       iterate 7 (all_goals refine Calm.sp ?_)
       all_goals first | refine Calm.sk ?_ | refine Calm.cs (fun _ h => h.1.cell 3) ?_
       iterate 4 (all_goals refine Calm.sp ?_)
       all_goals first | refine Calm.sk ?_ | refine Calm.lm zm (fun _ h => Wt.mark (x := y) (Rw.whole h.2.1)) Tryz.underlying50 ?_
       all_goals refine Calm.sp ?_
       all_goals first | refine Calm.sk ?_ | refine Calm.lm zm (fun _ h => Wt.mark (x := y) (Rw.whole h.2.1)) Tryz.underlying50 ?_
       all_goals first | refine Calm.sk ?_ | refine Calm.k2 hs (fun w1 h => refLess_any 0 0 0 0 0 0 w1) ?_
       iterate 3 (all_goals refine Calm.sp ?_)
       all_goals
        rintro w9 ⟨R09, _, hbel9⟩
       go_wp2_with fail
       go_ret
       exact ⟨rfl, hbel9⟩
      ·have hyx' : decide ((64 : Int) < (y.x.size : Int)) = false := decide_eq_false (by omega)
       by_cases hyi : y.i < 1
       ·have HF := ca_not HZ2 hlt (by rw [HO0.out]; unfold iw; rw [decide_eq_false (show ¬ 1 ≤ y.i by omega)]; rfl)
        have e := HF.out
        subst e
        have hyd : decide (y.i < 1) = true := decide_eq_true hyi
        clear HZ2 HF HV hd d HO0
        have hs : Calm.Stays (fun w' => Rw w' w.heap.size 27 (cvc 2 0 (.slice pa 0 ca') (.slice (some ⟨g, o, none⟩) l.length cw) (.slice pm 0 cm) (.slice pe 0 ce)) ∧ Rw w' wr.heap.size 64 #[.int .i64 y.p, .int .i64 y.s, .int .i64 y.i, .int .i64 y.t, .string y.x] ∧ Below w.heap.size w w') := fun wa wb h hb => ⟨h.1.later hb, h.2.1.later hb, below_on h.2.2 hb⟩
        refine Calm.region (by kernel_rfl) (by kernel_rfl) (fun w' => Rw w' w.heap.size 27 (cvc 2 0 (.slice pa 0 ca') (.slice (some ⟨g, o, none⟩) l.length cw) (.slice pm 0 cm) (.slice pe 0 ce)) ∧ Rw w' wr.heap.size 64 #[.int .i64 y.p, .int .i64 y.s, .int .i64 y.i, .int .i64 y.t, .string y.x] ∧ Below w.heap.size w w') ⟨R0, RB, hbel.drew⟩ ?_
        all_goals refine Calm.sp ?_
        all_goals refine Calm.cs (fun _ h => h.2.1.cell 4) ?_
        iterate 5 (all_goals refine Calm.sp ?_)
        all_goals first | refine Calm.sk ?_ | refine Calm.cs (fun _ h => h.2.1.cell 2) ?_
        iterate 7 (all_goals refine Calm.sp ?_)
        all_goals first | refine Calm.sk ?_ | refine Calm.cs (fun _ h => h.1.cell 3) ?_
        iterate 4 (all_goals refine Calm.sp ?_)
        all_goals first | refine Calm.sk ?_ | refine Calm.lm zm (fun _ h => Wt.mark (x := y) (Rw.whole h.2.1)) Tryz.underlying50 ?_
        all_goals refine Calm.sp ?_
        all_goals first | refine Calm.sk ?_ | refine Calm.lm zm (fun _ h => Wt.mark (x := y) (Rw.whole h.2.1)) Tryz.underlying50 ?_
        all_goals first | refine Calm.sk ?_ | refine Calm.k2 hs (fun w1 h => refLess_any 0 0 0 0 0 0 w1) ?_
        iterate 3 (all_goals refine Calm.sp ?_)
        all_goals
         rintro w9 ⟨R09, _, hbel9⟩
        go_wp2_with fail
        go_ret
        exact ⟨rfl, hbel9⟩
       ·have hia : iw y.i y.x = true := by unfold iw; rw [decide_eq_true (show 1 ≤ y.i by omega), decide_eq_true (show y.x.size ≤ 64 by omega)]; rfl
        have HIA : Hid (iw y.i y.x = true) := hia
        have hyd : decide (y.i < 1) = false := decide_eq_false hyi
        clear hia
        rcases Nat.eq_zero_or_pos k with rfl | hpos
        ·have HV2 : Hid (∀ i (h : i < l.length), i < 0 + 1 → okk l i h = true) := fun i h hi => by
          obtain rfl : i = 0 := by omega
          rw [HO0.out, HIA.out]
          rfl
         clear hd d HV HO0 HZ2
         have hs : Calm.Stays (fun w' => Rw w' w.heap.size 27 (cvc 2 0 (.slice pa 0 ca') (.slice (some ⟨g, o, none⟩) l.length cw) (.slice pm 0 cm) (.slice pe 0 ce)) ∧ Rw w' wr.heap.size 64 #[.int .i64 y.p, .int .i64 y.s, .int .i64 y.i, .int .i64 y.t, .string y.x] ∧ Below w.heap.size w w') := fun wa wb h hb => ⟨h.1.later hb, h.2.1.later hb, below_on h.2.2 hb⟩
         refine Calm.region (by kernel_rfl) (by kernel_rfl) (fun w' => Rw w' w.heap.size 27 (cvc 2 0 (.slice pa 0 ca') (.slice (some ⟨g, o, none⟩) l.length cw) (.slice pm 0 cm) (.slice pe 0 ce)) ∧ Rw w' wr.heap.size 64 #[.int .i64 y.p, .int .i64 y.s, .int .i64 y.i, .int .i64 y.t, .string y.x] ∧ Below w.heap.size w w') ⟨R0, RB, hbel.drew⟩ ?_
         all_goals refine Calm.sp ?_
         all_goals refine Calm.cs (fun _ h => h.2.1.cell 4) ?_
         iterate 5 (all_goals refine Calm.sp ?_)
         all_goals first | refine Calm.sk ?_ | refine Calm.cs (fun _ h => h.2.1.cell 2) ?_
         iterate 7 (all_goals refine Calm.sp ?_)
         all_goals first | refine Calm.sk ?_ | refine Calm.cs (fun _ h => h.1.cell 3) ?_
         iterate 4 (all_goals refine Calm.sp ?_)
         all_goals first | refine Calm.sk ?_ | refine Calm.lm zm (fun _ h => Wt.mark (x := y) (Rw.whole h.2.1)) Tryz.underlying50 ?_
         all_goals refine Calm.sp ?_
         all_goals first | refine Calm.sk ?_ | refine Calm.lm zm (fun _ h => Wt.mark (x := y) (Rw.whole h.2.1)) Tryz.underlying50 ?_
         all_goals first | refine Calm.sk ?_ | refine Calm.k2 hs (fun w1 h => refLess_any 0 0 0 0 0 0 w1) ?_
         iterate 3 (all_goals refine Calm.sp ?_)
         all_goals
          rintro w9 ⟨R09, _, hbel9⟩
         go_wp2_with fail
         go_roundw
         case rel => exact ⟨0 + 1, by simp, by omega, R09, HV2, hbel9⟩
         case measure => simp [intOf]; omega
        ·obtain ⟨m, rfl⟩ : ∃ m, k = m + 1 := ⟨k - 1, by omega⟩
         have d2 := range_later (Wt.elem hd m (by omega)) hba
         obtain ⟨yp, HP⟩ := hid_ex (l[m]'(by omega))
         rw [HP.out] at d2
         have zy : (Tryz.prog.info? 50).map (·.size) = some [Value.int .i64 yp.p, .int .i64 yp.s, .int .i64 yp.i].length := size50
         have C2 : ∀ w, Calls Tryz.prog 63 #[MV yp.p yp.s yp.i, MV y.p y.s y.i] w (Tells (.bool (lt yp y)) w) := fun w => refLess_any yp.p yp.s yp.i y.p y.s y.i w
         have HO : Hid (okk l (m + 1) hlt = lt yp y) := by
          show _ = _
          rw [HO0.out, HIA.out]
          simp only [Nat.add_sub_cancel]
          rw [HP.out]
          simp
         obtain ⟨y2, HY2⟩ := hid_ex (lt yp y)
         rw [HY2.out] at C2 HO
         have hw1 : IntKind.i64.wrap (m : Int) = (m : Int) := by rw [IntKind.wrap_i64]; omega
         have hml2 : (m : Int) < (l.length : Int) := by omega
         clear hd d HO0
         cases y2
         ·have HF := ca_not HZ2 hlt HO.out
          have e := HF.out
          subst e
          clear HZ2 HF HV
          have hs : Calm.Stays (fun w' => Rw w' w.heap.size 27 (cvc 2 0 (.slice pa 0 ca') (.slice (some ⟨g, o, none⟩) l.length cw) (.slice pm 0 cm) (.slice pe 0 ce)) ∧ Rw w' wr.heap.size 64 #[.int .i64 y.p, .int .i64 y.s, .int .i64 y.i, .int .i64 y.t, .string y.x] ∧ w'.rangeAt g (o + m * 5) yp.cells ∧ Below w.heap.size w w') := fun wa wb h hb => ⟨h.1.later hb, h.2.1.later hb, range_later h.2.2.1 hb, below_on h.2.2.2 hb⟩
          refine Calm.region (by kernel_rfl) (by kernel_rfl) (fun w' => Rw w' w.heap.size 27 (cvc 2 0 (.slice pa 0 ca') (.slice (some ⟨g, o, none⟩) l.length cw) (.slice pm 0 cm) (.slice pe 0 ce)) ∧ Rw w' wr.heap.size 64 #[.int .i64 y.p, .int .i64 y.s, .int .i64 y.i, .int .i64 y.t, .string y.x] ∧ w'.rangeAt g (o + m * 5) yp.cells ∧ Below w.heap.size w w') ⟨R0, RB, d2, hbel.drew⟩ ?_
          all_goals refine Calm.sp ?_
          all_goals refine Calm.cs (fun _ h => h.2.1.cell 4) ?_
          iterate 5 (all_goals refine Calm.sp ?_)
          all_goals first | refine Calm.sk ?_ | refine Calm.cs (fun _ h => h.2.1.cell 2) ?_
          iterate 7 (all_goals refine Calm.sp ?_)
          all_goals first | refine Calm.sk ?_ | refine Calm.cs (fun _ h => h.1.cell 3) ?_
          iterate 4 (all_goals refine Calm.sp ?_)
          all_goals first | refine Calm.sk ?_ | refine Calm.lm zy (fun _ h => Wt.mark h.2.2.1) Tryz.underlying50 ?_ | refine Calm.lm zm (fun _ h => Wt.mark (x := y) (Rw.whole h.2.1)) Tryz.underlying50 ?_
          all_goals refine Calm.sp ?_
          all_goals first | refine Calm.sk ?_ | refine Calm.lm zy (fun _ h => Wt.mark h.2.2.1) Tryz.underlying50 ?_ | refine Calm.lm zm (fun _ h => Wt.mark (x := y) (Rw.whole h.2.1)) Tryz.underlying50 ?_
          all_goals first | refine Calm.sk ?_ | refine Calm.k2 hs (fun w1 h => C2 w1) ?_
          iterate 3 (all_goals refine Calm.sp ?_)
          all_goals
           rintro w9 ⟨R09, _, _, hbel9⟩
          go_wp2_with fail
          go_ret
          exact ⟨rfl, hbel9⟩
         ·have HV2 : Hid (∀ i (h : i < l.length), i < m + 1 + 1 → okk l i h = true) := fun i h hi => by
           rcases Nat.lt_or_ge i (m + 1) with h' | h'
           ·exact HV.out i h h'
           ·obtain rfl : i = m + 1 := by omega
            exact HO.out
          clear HV HO HZ2
          have hs : Calm.Stays (fun w' => Rw w' w.heap.size 27 (cvc 2 0 (.slice pa 0 ca') (.slice (some ⟨g, o, none⟩) l.length cw) (.slice pm 0 cm) (.slice pe 0 ce)) ∧ Rw w' wr.heap.size 64 #[.int .i64 y.p, .int .i64 y.s, .int .i64 y.i, .int .i64 y.t, .string y.x] ∧ w'.rangeAt g (o + m * 5) yp.cells ∧ Below w.heap.size w w') := fun wa wb h hb => ⟨h.1.later hb, h.2.1.later hb, range_later h.2.2.1 hb, below_on h.2.2.2 hb⟩
          refine Calm.region (by kernel_rfl) (by kernel_rfl) (fun w' => Rw w' w.heap.size 27 (cvc 2 0 (.slice pa 0 ca') (.slice (some ⟨g, o, none⟩) l.length cw) (.slice pm 0 cm) (.slice pe 0 ce)) ∧ Rw w' wr.heap.size 64 #[.int .i64 y.p, .int .i64 y.s, .int .i64 y.i, .int .i64 y.t, .string y.x] ∧ w'.rangeAt g (o + m * 5) yp.cells ∧ Below w.heap.size w w') ⟨R0, RB, d2, hbel.drew⟩ ?_
          all_goals refine Calm.sp ?_
          all_goals refine Calm.cs (fun _ h => h.2.1.cell 4) ?_
          iterate 5 (all_goals refine Calm.sp ?_)
          all_goals first | refine Calm.sk ?_ | refine Calm.cs (fun _ h => h.2.1.cell 2) ?_
          iterate 7 (all_goals refine Calm.sp ?_)
          all_goals first | refine Calm.sk ?_ | refine Calm.cs (fun _ h => h.1.cell 3) ?_
          iterate 4 (all_goals refine Calm.sp ?_)
          all_goals first | refine Calm.sk ?_ | refine Calm.lm zy (fun _ h => Wt.mark h.2.2.1) Tryz.underlying50 ?_ | refine Calm.lm zm (fun _ h => Wt.mark (x := y) (Rw.whole h.2.1)) Tryz.underlying50 ?_
          all_goals refine Calm.sp ?_
          all_goals first | refine Calm.sk ?_ | refine Calm.lm zy (fun _ h => Wt.mark h.2.2.1) Tryz.underlying50 ?_ | refine Calm.lm zm (fun _ h => Wt.mark (x := y) (Rw.whole h.2.1)) Tryz.underlying50 ?_
          all_goals first | refine Calm.sk ?_ | refine Calm.k2 hs (fun w1 h => C2 w1) ?_
          iterate 3 (all_goals refine Calm.sp ?_)
          all_goals
           rintro w9 ⟨R09, _, _, hbel9⟩
          go_wp2_with fail
          go_roundw
          case rel => exact ⟨m + 1 + 1, by simp, by omega, R09, HV2, hbel9⟩
          case measure => simp [intOf]; omega
     ·have hlt' : ¬ (k : Int) < (l.length : Int) := by omega
      have hz : z = true := by
       rw [← HZ2.out, ca_iff]
       exact fun i h => HV.out i h (by omega)
      subst hz
      clear HR HV HZ2
      go_wp2_with fail
      go_ret
      exact ⟨rfl, hbel⟩
   ·skip
    have HZ2 : Hid (ca x.wr = z) := by
     show _ = _
     rw [← HZ.out]
     unfold ck
     rw [hk, hb, decide_eq_true h0]
     rfl
    clear HZ
    rw [e1, e2, e3, hk, hb] at R0 hbel ⊢
    obtain ⟨l, HL⟩ := hid_ex x.wr
    rw [HL.out] at HR HZ2 ht
    have e4 : x.wr.length = l.length := by rw [HL.out]
    rw [e4] at R0 hbel ⊢
    clear e4 HL e1 e2 e3 h0 hm he ha hk hb
    generalize hW : w.alloc (.cells (cvc 3 0 (.slice pa 0 ca') (.slice pw l.length cw) (.slice pm 0 cm) (.slice pe 0 ce)) 27) = w0 at R0 hbel
    have c1 : w0.cell? ⟨w.heap.size, 1, none⟩ = some (.int .i64 0) := R0.cell 1
    have c0 : w0.cell? ⟨w.heap.size, 0, none⟩ = some (.int .i64 3) := R0.cell 0
    have c2 : w0.cell? ⟨w.heap.size, 2, none⟩ = some (.slice pa 0 ca') := R0.cell 2
    have c4 : w0.cell? ⟨w.heap.size, 4, none⟩ = some (.slice pm 0 cm) := R0.cell 4
    have c5 : w0.cell? ⟨w.heap.size, 5, none⟩ = some (.slice pe 0 ce) := R0.cell 5
    go_enter Tryz.func30, Tryz.ntmps30
    go_wp2_with (first | rw [hW])
    clear hW c0 c1 c2 c4 c5
    go_loopw [3] (fun vi wr => ∃ k : Nat, vi = .int .i64 k ∧ k ≤ l.length ∧ Rw wr w.heap.size 27 (cvc 3 0 (.slice pa 0 ca') (.slice pw l.length cw) (.slice pm 0 cm) (.slice pe 0 ce)) ∧ Hid (∀ i (h : i < l.length), i < k → okk l i h = true) ∧ Below w.heap.size w wr) (fun vi _ => l.length - (intOf vi).toNat)
    case atStart => exact ⟨0, rfl, by omega, R0, (show ∀ i (_ : i < l.length), i < 0 → _ from fun i _ h => by omega), hbel⟩
    case round =>
     clear R0 hbel
     obtain ⟨k, rfl, hk, R0, HV, hbel⟩ := hrel
     have c3 : wr.cell? ⟨w.heap.size, 3, none⟩ = some (.slice pw l.length cw) := R0.cell 3
     by_cases hlt : k < l.length
     ·have hlt' : (k : Int) < (l.length : Int) := by omega
      obtain ⟨g, o, rfl, hd0⟩ := HR.out.at (by omega)
      have hd := range_later hd0 hbel
      clear hd0 HR
      have d := Wt.elem hd k hlt
      obtain ⟨y, HY⟩ := hid_ex l[k]
      rw [HY.out] at d
      have z42 : (Tryz.prog.info? 64).map (·.size) = some y.cells.length := size64
      have zm : (Tryz.prog.info? 50).map (·.size) = some [Value.int .i64 y.p, .int .i64 y.s, .int .i64 y.i].length := size50
      have RB := rw_new wr 64 #[.int .i64 y.p, .int .i64 y.s, .int .i64 y.i, .int .i64 y.t, .string y.x]
      have hba := bel_alloc (Below.refl wr.heap.size wr) (.cells #[.int .i64 y.p, .int .i64 y.s, .int .i64 y.i, .int .i64 y.t, .string y.x] 64)
      generalize hW : wr.alloc (.cells #[.int .i64 y.p, .int .i64 y.s, .int .i64 y.i, .int .i64 y.t, .string y.x] 64) = wx at RB hba
      go_wp2_with (first | rw [hW] | refine load_m 64 _ rfl rfl _ _ rfl d Tryz.underlying64 rfl z42 ?_)
      clear hW
      replace R0 := R0.later hba
      replace hbel := below_on hbel hba
      have hO0 : ∀ h', okk l k h' = (iw y.i y.x && (decide (k = 0) || lt (l[k - 1]'(by omega)) y)) := fun h' => by unfold okk; rw [HY.out]
      have HO0 : Hid (∀ h', okk l k h' = (iw y.i y.x && (decide (k = 0) || lt (l[k - 1]'(by omega)) y))) := hO0
      clear hO0
      by_cases hyx : 64 < y.x.size
      ·have HF := ca_not HZ2 hlt (by rw [HO0.out]; unfold iw; rw [decide_eq_false (show ¬ y.x.size ≤ 64 by omega)]; simp)
       have e := HF.out
       subst e
       have hyx' : decide ((64 : Int) < (y.x.size : Int)) = true := decide_eq_true (by omega)
       clear HZ2 HF HV hd d HO0
       have hs : Calm.Stays (fun w' => Rw w' w.heap.size 27 (cvc 3 0 (.slice pa 0 ca') (.slice (some ⟨g, o, none⟩) l.length cw) (.slice pm 0 cm) (.slice pe 0 ce)) ∧ Rw w' wr.heap.size 64 #[.int .i64 y.p, .int .i64 y.s, .int .i64 y.i, .int .i64 y.t, .string y.x] ∧ Below w.heap.size w w') := fun wa wb h hb => ⟨h.1.later hb, h.2.1.later hb, below_on h.2.2 hb⟩
       refine Calm.region (by kernel_rfl) (by kernel_rfl) (fun w' => Rw w' w.heap.size 27 (cvc 3 0 (.slice pa 0 ca') (.slice (some ⟨g, o, none⟩) l.length cw) (.slice pm 0 cm) (.slice pe 0 ce)) ∧ Rw w' wr.heap.size 64 #[.int .i64 y.p, .int .i64 y.s, .int .i64 y.i, .int .i64 y.t, .string y.x] ∧ Below w.heap.size w w') ⟨R0, RB, hbel.drew⟩ ?_
       all_goals refine Calm.sp ?_
       all_goals refine Calm.cs (fun _ h => h.2.1.cell 4) ?_
       iterate 5 (all_goals refine Calm.sp ?_)
       all_goals first | refine Calm.sk ?_ | refine Calm.cs (fun _ h => h.2.1.cell 2) ?_
       iterate 7 (all_goals refine Calm.sp ?_)
       all_goals first | refine Calm.sk ?_ | refine Calm.cs (fun _ h => h.1.cell 3) ?_
       iterate 4 (all_goals refine Calm.sp ?_)
       all_goals first | refine Calm.sk ?_ | refine Calm.lm zm (fun _ h => Wt.mark (x := y) (Rw.whole h.2.1)) Tryz.underlying50 ?_
       all_goals refine Calm.sp ?_
       all_goals first | refine Calm.sk ?_ | refine Calm.lm zm (fun _ h => Wt.mark (x := y) (Rw.whole h.2.1)) Tryz.underlying50 ?_
       all_goals first | refine Calm.sk ?_ | refine Calm.k2 hs (fun w1 h => refLess_any 0 0 0 0 0 0 w1) ?_
       iterate 3 (all_goals refine Calm.sp ?_)
       all_goals
        rintro w9 ⟨R09, _, hbel9⟩
       go_wp2_with fail
       go_ret
       exact ⟨rfl, hbel9⟩
      ·have hyx' : decide ((64 : Int) < (y.x.size : Int)) = false := decide_eq_false (by omega)
       by_cases hyi : y.i < 1
       ·have HF := ca_not HZ2 hlt (by rw [HO0.out]; unfold iw; rw [decide_eq_false (show ¬ 1 ≤ y.i by omega)]; rfl)
        have e := HF.out
        subst e
        have hyd : decide (y.i < 1) = true := decide_eq_true hyi
        clear HZ2 HF HV hd d HO0
        have hs : Calm.Stays (fun w' => Rw w' w.heap.size 27 (cvc 3 0 (.slice pa 0 ca') (.slice (some ⟨g, o, none⟩) l.length cw) (.slice pm 0 cm) (.slice pe 0 ce)) ∧ Rw w' wr.heap.size 64 #[.int .i64 y.p, .int .i64 y.s, .int .i64 y.i, .int .i64 y.t, .string y.x] ∧ Below w.heap.size w w') := fun wa wb h hb => ⟨h.1.later hb, h.2.1.later hb, below_on h.2.2 hb⟩
        refine Calm.region (by kernel_rfl) (by kernel_rfl) (fun w' => Rw w' w.heap.size 27 (cvc 3 0 (.slice pa 0 ca') (.slice (some ⟨g, o, none⟩) l.length cw) (.slice pm 0 cm) (.slice pe 0 ce)) ∧ Rw w' wr.heap.size 64 #[.int .i64 y.p, .int .i64 y.s, .int .i64 y.i, .int .i64 y.t, .string y.x] ∧ Below w.heap.size w w') ⟨R0, RB, hbel.drew⟩ ?_
        all_goals refine Calm.sp ?_
        all_goals refine Calm.cs (fun _ h => h.2.1.cell 4) ?_
        iterate 5 (all_goals refine Calm.sp ?_)
        all_goals first | refine Calm.sk ?_ | refine Calm.cs (fun _ h => h.2.1.cell 2) ?_
        iterate 7 (all_goals refine Calm.sp ?_)
        all_goals first | refine Calm.sk ?_ | refine Calm.cs (fun _ h => h.1.cell 3) ?_
        iterate 4 (all_goals refine Calm.sp ?_)
        all_goals first | refine Calm.sk ?_ | refine Calm.lm zm (fun _ h => Wt.mark (x := y) (Rw.whole h.2.1)) Tryz.underlying50 ?_
        all_goals refine Calm.sp ?_
        all_goals first | refine Calm.sk ?_ | refine Calm.lm zm (fun _ h => Wt.mark (x := y) (Rw.whole h.2.1)) Tryz.underlying50 ?_
        all_goals first | refine Calm.sk ?_ | refine Calm.k2 hs (fun w1 h => refLess_any 0 0 0 0 0 0 w1) ?_
        iterate 3 (all_goals refine Calm.sp ?_)
        all_goals
         rintro w9 ⟨R09, _, hbel9⟩
        go_wp2_with fail
        go_ret
        exact ⟨rfl, hbel9⟩
       ·have hia : iw y.i y.x = true := by unfold iw; rw [decide_eq_true (show 1 ≤ y.i by omega), decide_eq_true (show y.x.size ≤ 64 by omega)]; rfl
        have HIA : Hid (iw y.i y.x = true) := hia
        have hyd : decide (y.i < 1) = false := decide_eq_false hyi
        clear hia
        rcases Nat.eq_zero_or_pos k with rfl | hpos
        ·have HV2 : Hid (∀ i (h : i < l.length), i < 0 + 1 → okk l i h = true) := fun i h hi => by
          obtain rfl : i = 0 := by omega
          rw [HO0.out, HIA.out]
          rfl
         clear hd d HV HO0 HZ2
         have hs : Calm.Stays (fun w' => Rw w' w.heap.size 27 (cvc 3 0 (.slice pa 0 ca') (.slice (some ⟨g, o, none⟩) l.length cw) (.slice pm 0 cm) (.slice pe 0 ce)) ∧ Rw w' wr.heap.size 64 #[.int .i64 y.p, .int .i64 y.s, .int .i64 y.i, .int .i64 y.t, .string y.x] ∧ Below w.heap.size w w') := fun wa wb h hb => ⟨h.1.later hb, h.2.1.later hb, below_on h.2.2 hb⟩
         refine Calm.region (by kernel_rfl) (by kernel_rfl) (fun w' => Rw w' w.heap.size 27 (cvc 3 0 (.slice pa 0 ca') (.slice (some ⟨g, o, none⟩) l.length cw) (.slice pm 0 cm) (.slice pe 0 ce)) ∧ Rw w' wr.heap.size 64 #[.int .i64 y.p, .int .i64 y.s, .int .i64 y.i, .int .i64 y.t, .string y.x] ∧ Below w.heap.size w w') ⟨R0, RB, hbel.drew⟩ ?_
         all_goals refine Calm.sp ?_
         all_goals refine Calm.cs (fun _ h => h.2.1.cell 4) ?_
         iterate 5 (all_goals refine Calm.sp ?_)
         all_goals first | refine Calm.sk ?_ | refine Calm.cs (fun _ h => h.2.1.cell 2) ?_
         iterate 7 (all_goals refine Calm.sp ?_)
         all_goals first | refine Calm.sk ?_ | refine Calm.cs (fun _ h => h.1.cell 3) ?_
         iterate 4 (all_goals refine Calm.sp ?_)
         all_goals first | refine Calm.sk ?_ | refine Calm.lm zm (fun _ h => Wt.mark (x := y) (Rw.whole h.2.1)) Tryz.underlying50 ?_
         all_goals refine Calm.sp ?_
         all_goals first | refine Calm.sk ?_ | refine Calm.lm zm (fun _ h => Wt.mark (x := y) (Rw.whole h.2.1)) Tryz.underlying50 ?_
         all_goals first | refine Calm.sk ?_ | refine Calm.k2 hs (fun w1 h => refLess_any 0 0 0 0 0 0 w1) ?_
         iterate 3 (all_goals refine Calm.sp ?_)
         all_goals
          rintro w9 ⟨R09, _, hbel9⟩
         go_wp2_with fail
         go_roundw
         case rel => exact ⟨0 + 1, by simp, by omega, R09, HV2, hbel9⟩
         case measure => simp [intOf]; omega
        ·obtain ⟨m, rfl⟩ : ∃ m, k = m + 1 := ⟨k - 1, by omega⟩
         have d2 := range_later (Wt.elem hd m (by omega)) hba
         obtain ⟨yp, HP⟩ := hid_ex (l[m]'(by omega))
         rw [HP.out] at d2
         have zy : (Tryz.prog.info? 50).map (·.size) = some [Value.int .i64 yp.p, .int .i64 yp.s, .int .i64 yp.i].length := size50
         have C2 : ∀ w, Calls Tryz.prog 63 #[MV yp.p yp.s yp.i, MV y.p y.s y.i] w (Tells (.bool (lt yp y)) w) := fun w => refLess_any yp.p yp.s yp.i y.p y.s y.i w
         have HO : Hid (okk l (m + 1) hlt = lt yp y) := by
          show _ = _
          rw [HO0.out, HIA.out]
          simp only [Nat.add_sub_cancel]
          rw [HP.out]
          simp
         obtain ⟨y2, HY2⟩ := hid_ex (lt yp y)
         rw [HY2.out] at C2 HO
         have hw1 : IntKind.i64.wrap (m : Int) = (m : Int) := by rw [IntKind.wrap_i64]; omega
         have hml2 : (m : Int) < (l.length : Int) := by omega
         clear hd d HO0
         cases y2
         ·have HF := ca_not HZ2 hlt HO.out
          have e := HF.out
          subst e
          clear HZ2 HF HV
          have hs : Calm.Stays (fun w' => Rw w' w.heap.size 27 (cvc 3 0 (.slice pa 0 ca') (.slice (some ⟨g, o, none⟩) l.length cw) (.slice pm 0 cm) (.slice pe 0 ce)) ∧ Rw w' wr.heap.size 64 #[.int .i64 y.p, .int .i64 y.s, .int .i64 y.i, .int .i64 y.t, .string y.x] ∧ w'.rangeAt g (o + m * 5) yp.cells ∧ Below w.heap.size w w') := fun wa wb h hb => ⟨h.1.later hb, h.2.1.later hb, range_later h.2.2.1 hb, below_on h.2.2.2 hb⟩
          refine Calm.region (by kernel_rfl) (by kernel_rfl) (fun w' => Rw w' w.heap.size 27 (cvc 3 0 (.slice pa 0 ca') (.slice (some ⟨g, o, none⟩) l.length cw) (.slice pm 0 cm) (.slice pe 0 ce)) ∧ Rw w' wr.heap.size 64 #[.int .i64 y.p, .int .i64 y.s, .int .i64 y.i, .int .i64 y.t, .string y.x] ∧ w'.rangeAt g (o + m * 5) yp.cells ∧ Below w.heap.size w w') ⟨R0, RB, d2, hbel.drew⟩ ?_
          all_goals refine Calm.sp ?_
          all_goals refine Calm.cs (fun _ h => h.2.1.cell 4) ?_
          iterate 5 (all_goals refine Calm.sp ?_)
          all_goals first | refine Calm.sk ?_ | refine Calm.cs (fun _ h => h.2.1.cell 2) ?_
          iterate 7 (all_goals refine Calm.sp ?_)
          all_goals first | refine Calm.sk ?_ | refine Calm.cs (fun _ h => h.1.cell 3) ?_
          iterate 4 (all_goals refine Calm.sp ?_)
          all_goals first | refine Calm.sk ?_ | refine Calm.lm zy (fun _ h => Wt.mark h.2.2.1) Tryz.underlying50 ?_ | refine Calm.lm zm (fun _ h => Wt.mark (x := y) (Rw.whole h.2.1)) Tryz.underlying50 ?_
          all_goals refine Calm.sp ?_
          all_goals first | refine Calm.sk ?_ | refine Calm.lm zy (fun _ h => Wt.mark h.2.2.1) Tryz.underlying50 ?_ | refine Calm.lm zm (fun _ h => Wt.mark (x := y) (Rw.whole h.2.1)) Tryz.underlying50 ?_
          all_goals first | refine Calm.sk ?_ | refine Calm.k2 hs (fun w1 h => C2 w1) ?_
          iterate 3 (all_goals refine Calm.sp ?_)
          all_goals
           rintro w9 ⟨R09, _, _, hbel9⟩
          go_wp2_with fail
          go_ret
          exact ⟨rfl, hbel9⟩
         ·have HV2 : Hid (∀ i (h : i < l.length), i < m + 1 + 1 → okk l i h = true) := fun i h hi => by
           rcases Nat.lt_or_ge i (m + 1) with h' | h'
           ·exact HV.out i h h'
           ·obtain rfl : i = m + 1 := by omega
            exact HO.out
          clear HV HO HZ2
          have hs : Calm.Stays (fun w' => Rw w' w.heap.size 27 (cvc 3 0 (.slice pa 0 ca') (.slice (some ⟨g, o, none⟩) l.length cw) (.slice pm 0 cm) (.slice pe 0 ce)) ∧ Rw w' wr.heap.size 64 #[.int .i64 y.p, .int .i64 y.s, .int .i64 y.i, .int .i64 y.t, .string y.x] ∧ w'.rangeAt g (o + m * 5) yp.cells ∧ Below w.heap.size w w') := fun wa wb h hb => ⟨h.1.later hb, h.2.1.later hb, range_later h.2.2.1 hb, below_on h.2.2.2 hb⟩
          refine Calm.region (by kernel_rfl) (by kernel_rfl) (fun w' => Rw w' w.heap.size 27 (cvc 3 0 (.slice pa 0 ca') (.slice (some ⟨g, o, none⟩) l.length cw) (.slice pm 0 cm) (.slice pe 0 ce)) ∧ Rw w' wr.heap.size 64 #[.int .i64 y.p, .int .i64 y.s, .int .i64 y.i, .int .i64 y.t, .string y.x] ∧ w'.rangeAt g (o + m * 5) yp.cells ∧ Below w.heap.size w w') ⟨R0, RB, d2, hbel.drew⟩ ?_
          all_goals refine Calm.sp ?_
          all_goals refine Calm.cs (fun _ h => h.2.1.cell 4) ?_
          iterate 5 (all_goals refine Calm.sp ?_)
          all_goals first | refine Calm.sk ?_ | refine Calm.cs (fun _ h => h.2.1.cell 2) ?_
          iterate 7 (all_goals refine Calm.sp ?_)
          all_goals first | refine Calm.sk ?_ | refine Calm.cs (fun _ h => h.1.cell 3) ?_
          iterate 4 (all_goals refine Calm.sp ?_)
          all_goals first | refine Calm.sk ?_ | refine Calm.lm zy (fun _ h => Wt.mark h.2.2.1) Tryz.underlying50 ?_ | refine Calm.lm zm (fun _ h => Wt.mark (x := y) (Rw.whole h.2.1)) Tryz.underlying50 ?_
          all_goals refine Calm.sp ?_
          all_goals first | refine Calm.sk ?_ | refine Calm.lm zy (fun _ h => Wt.mark h.2.2.1) Tryz.underlying50 ?_ | refine Calm.lm zm (fun _ h => Wt.mark (x := y) (Rw.whole h.2.1)) Tryz.underlying50 ?_
          all_goals first | refine Calm.sk ?_ | refine Calm.k2 hs (fun w1 h => C2 w1) ?_
          iterate 3 (all_goals refine Calm.sp ?_)
          all_goals
           rintro w9 ⟨R09, _, _, hbel9⟩
          go_wp2_with fail
          go_roundw
          case rel => exact ⟨m + 1 + 1, by simp, by omega, R09, HV2, hbel9⟩
          case measure => simp [intOf]; omega
     ·have hlt' : ¬ (k : Int) < (l.length : Int) := by omega
      have hz : z = true := by
       rw [← HZ2.out, ca_iff]
       exact fun i h => HV.out i h (by omega)
      subst hz
      clear HR HV HZ2
      go_wp2_with fail
      go_ret
      exact ⟨rfl, hbel⟩
   ·rw [e1, e2, e3]
    obtain rfl : z = false := by
     rw [← HZ.out]
     unfold ck
     simp [hk2, hk3]
    clear HZ
    go_enter Tryz.func30, Tryz.ntmps30
    go_wp2
    go_ret
    exact ⟨rfl, bel_alloc (Below.refl _ _) _⟩
  ·have h0' : 0 < (x.am.length : Int) + (x.mb.length : Int) + (x.el.length : Int) := by omega
   have w1 : IntKind.i64.wrap ((x.am.length : Int) + (x.mb.length : Int)) = (x.am.length : Int) + (x.mb.length : Int) := by rw [IntKind.wrap_i64]; omega
   have w2 : IntKind.i64.wrap ((x.am.length : Int) + (x.mb.length : Int) + (x.el.length : Int)) = (x.am.length : Int) + (x.mb.length : Int) + (x.el.length : Int) := by rw [IntKind.wrap_i64]; omega
   rcases (show x.k = 2 ∨ x.k = 3 ∨ (¬ x.k = 2 ∧ ¬ x.k = 3) by omega) with hk | hk | ⟨hk2, hk3⟩
   all_goals
    obtain rfl : z = false := by
     rw [← HZ.out]
     unfold ck
     rw [decide_eq_false h0]; simp
    clear HZ
    go_enter Tryz.func30, Tryz.ntmps30
    go_wp2
    go_ret
    exact ⟨rfl, bel_alloc (Below.refl _ _) _⟩
 ·rcases (show x.k = 2 ∨ x.k = 3 ∨ (¬ x.k = 2 ∧ ¬ x.k = 3) by omega) with hk | hk | ⟨hk2, hk3⟩
  all_goals
   obtain rfl : z = false := by
    rw [← HZ.out]
    unfold ck
    rw [decide_eq_false hb]; simp
   clear HZ
   go_enter Tryz.func30, Tryz.ntmps30
   go_wp2
   go_ret
   exact ⟨rfl, bel_alloc (Below.refl _ _) _⟩
end Go.Proofs.YtjbbmcommnhgeaaGreat.Rg
namespace Go.Proofs.YtjbbmcommnhgeaaGreat
open Go.RowKit
theorem refRising_any (v : Value) (l : List M) (w : World) (h : MHas w v l) : Calls Tryz.prog 64 #[v] w (Tells (.bool (ca l)) w) := by
 obtain ⟨z, HZ⟩ := hid_ex (ca l)
 rw [HZ.out]
 have hml := maxLen_lt h.1
 obtain ⟨p, c, rfl⟩ := h.slice
 have HR : Hid (MHas w (.slice p l.length c) l) := h
 clear h
 go_enter Tryz.func64, Tryz.ntmps64
 go_wp2
 go_loopw [3] (fun vi wr => ∃ k : Nat, vi = .int .i64 k ∧ k ≤ l.length ∧ Hid (∀ i (h : i < l.length), i < k → okk l i h = true) ∧ Below w.heap.size w wr) (fun vi _ => l.length - (intOf vi).toNat)
 case atStart => exact ⟨0, rfl, by omega, (show ∀ i (_ : i < l.length), i < 0 → _ from fun i _ h => by omega), Below.refl _ _⟩
 case round =>
  obtain ⟨k, rfl, hk, HV, hbel⟩ := hrel
  by_cases hlt : k < l.length
  ·have hlt' : (k : Int) < (l.length : Int) := by omega
   have hk0 : (0 : Int) ≤ (k : Int) := by omega
   obtain ⟨g, o, rfl, hd0⟩ := HR.out.at (by omega)
   have hd := range_later hd0 hbel
   clear hd0 HR
   have d := M.elem hd k hlt
   obtain ⟨x, HX⟩ := hid_ex l[k]
   rw [HX.out] at d
   have zm : (Tryz.prog.info? 50).map (·.size) = some x.cells.length := size50
   have hxi : (decide (x.i < 1)) = !im x.i := by unfold im; by_cases h : x.i < 1 <;> simp [h] <;> omega
   obtain ⟨y1, HY1⟩ := hid_ex (im x.i)
   rw [HY1.out] at hxi
   cases y1
   ·have HF := ca_not HZ hlt (show okk l k hlt = false by unfold okk; rw [HX.out, HY1.out]; rfl)
    have e := HF.out
    subst e
    have hxd : decide (x.i < 1) = true := by simpa using hxi
    clear HZ HF HV hxi
    go_wp2_with fail
    clear hd
    have hs : Calm.Stays (fun w' => w'.rangeAt g (o + k * 3) x.cells ∧ Below w.heap.size w w') := fun wa wb h hb => ⟨range_later h.1 hb, below_on h.2 hb⟩
    refine Calm.region (by kernel_rfl) (by kernel_rfl) (fun w' => w'.rangeAt g (o + k * 3) x.cells ∧ Below w.heap.size w w') ⟨d, hbel.drew⟩ ?_
    iterate 4 (all_goals refine Calm.sp ?_)
    all_goals refine Calm.ce (v := .int .i64 x.i) (ad := ⟨g, o + k * 3 + 2, none⟩) (fun _ h => h.1 2 _ rfl) ?_
    iterate 9 (all_goals refine Calm.sp ?_)
    all_goals first | refine Calm.sk ?_ | refine Calm.lm zm (fun _ h => h.1) Tryz.underlying50 ?_
    iterate 3 (all_goals refine Calm.sp ?_)
    all_goals first | refine Calm.sk ?_ | refine Calm.lm zm (fun _ h => h.1) Tryz.underlying50 ?_
    all_goals first | refine Calm.sk ?_ | refine Calm.k2 hs (fun w1 h => refLess_any 0 0 0 0 0 0 w1) ?_
    iterate 3 (all_goals refine Calm.sp ?_)
    all_goals
     rintro w9 ⟨_, hbel9⟩
    go_wp2_with fail
    go_ret
    exact ⟨rfl, hbel9⟩
   ·have hxd : decide (x.i < 1) = false := by simpa using hxi
    clear hxi
    rcases Nat.eq_zero_or_pos k with rfl | hpos
    ·have HV2 : Hid (∀ i (h : i < l.length), i < 0 + 1 → okk l i h = true) := fun i h hi => by
      obtain rfl : i = 0 := by omega
      unfold okk
      rw [HX.out, HY1.out]
      rfl
     go_wp2_with fail
     clear hd HV
     have hs : Calm.Stays (fun w' => w'.rangeAt g (o + 0 * 3) x.cells ∧ Below w.heap.size w w') := fun wa wb h hb => ⟨range_later h.1 hb, below_on h.2 hb⟩
     refine Calm.region (by kernel_rfl) (by kernel_rfl) (fun w' => w'.rangeAt g (o + 0 * 3) x.cells ∧ Below w.heap.size w w') ⟨d, hbel.drew⟩ ?_
     iterate 4 (all_goals refine Calm.sp ?_)
     all_goals refine Calm.ce (v := .int .i64 x.i) (ad := ⟨g, o + 0 * 3 + 2, none⟩) (fun _ h => h.1 2 _ rfl) ?_
     iterate 9 (all_goals refine Calm.sp ?_)
     all_goals first | refine Calm.sk ?_ | refine Calm.lm zm (fun _ h => h.1) Tryz.underlying50 ?_
     iterate 3 (all_goals refine Calm.sp ?_)
     all_goals first | refine Calm.sk ?_ | refine Calm.lm zm (fun _ h => h.1) Tryz.underlying50 ?_
     all_goals first | refine Calm.sk ?_ | refine Calm.k2 hs (fun w1 h => refLess_any 0 0 0 0 0 0 w1) ?_
     iterate 3 (all_goals refine Calm.sp ?_)
     all_goals
      rintro w9 ⟨_, hbel9⟩
     go_wp2_with fail
     go_roundw
     case rel => exact ⟨0 + 1, by simp, by omega, HV2, hbel9⟩
     case measure => simp [intOf]; omega
    ·obtain ⟨m, rfl⟩ : ∃ m, k = m + 1 := ⟨k - 1, by omega⟩
     have d2 := M.elem hd m (by omega)
     obtain ⟨y, HY⟩ := hid_ex (l[m]'(by omega))
     rw [HY.out] at d2
     have zy : (Tryz.prog.info? 50).map (·.size) = some y.cells.length := size50
     have C2 : ∀ w, Calls Tryz.prog 63 #[MV y.p y.s y.i, MV x.p x.s x.i] w (Tells (.bool (lt y x)) w) := fun w => refLess_any y.p y.s y.i x.p x.s x.i w
     have hO : okk l (m + 1) hlt = lt y x := by
      unfold okk
      simp only [Nat.add_sub_cancel]
      rw [HX.out, HY1.out, HY.out]
      simp
     have HO : Hid (okk l (m + 1) hlt = lt y x) := hO
     clear hO
     obtain ⟨y2, HY2⟩ := hid_ex (lt y x)
     rw [HY2.out] at C2 HO
     have hw1 : IntKind.i64.wrap (m : Int) = (m : Int) := by rw [IntKind.wrap_i64]; omega
     have hml2 : (m : Int) < (l.length : Int) := by omega
     go_wp2_with fail
     clear hd
     cases y2
     ·have HF := ca_not HZ hlt HO.out
      have e := HF.out
      subst e
      clear HZ HF HV
      have hs : Calm.Stays (fun w' => w'.rangeAt g (o + (m + 1) * 3) x.cells ∧ w'.rangeAt g (o + m * 3) y.cells ∧ Below w.heap.size w w') := fun wa wb h hb => ⟨range_later h.1 hb, range_later h.2.1 hb, below_on h.2.2 hb⟩
      refine Calm.region (by kernel_rfl) (by kernel_rfl) (fun w' => w'.rangeAt g (o + (m + 1) * 3) x.cells ∧ w'.rangeAt g (o + m * 3) y.cells ∧ Below w.heap.size w w') ⟨d, d2, hbel.drew⟩ ?_
      iterate 4 (all_goals refine Calm.sp ?_)
      all_goals refine Calm.ce (v := .int .i64 x.i) (ad := ⟨g, o + (m + 1) * 3 + 2, none⟩) (fun _ h => h.1 2 _ rfl) ?_
      iterate 9 (all_goals refine Calm.sp ?_)
      all_goals first | refine Calm.sk ?_ | refine Calm.lm zy (fun _ h => h.2.1) Tryz.underlying50 ?_ | refine Calm.lm zm (fun _ h => h.1) Tryz.underlying50 ?_
      iterate 3 (all_goals refine Calm.sp ?_)
      all_goals first | refine Calm.sk ?_ | refine Calm.lm zy (fun _ h => h.2.1) Tryz.underlying50 ?_ | refine Calm.lm zm (fun _ h => h.1) Tryz.underlying50 ?_
      all_goals first | refine Calm.sk ?_ | refine Calm.k2 hs (fun w1 h => C2 w1) ?_
      iterate 3 (all_goals refine Calm.sp ?_)
      all_goals
       rintro w9 ⟨_, _, hbel9⟩
      go_wp2_with fail
      go_ret
      exact ⟨rfl, hbel9⟩
     ·have HV2 : Hid (∀ i (h : i < l.length), i < m + 1 + 1 → okk l i h = true) := fun i h hi => by
       rcases Nat.lt_or_ge i (m + 1) with h' | h'
       ·exact HV.out i h h'
       ·obtain rfl : i = m + 1 := by omega
        exact HO.out
      clear HV HO
      have hs : Calm.Stays (fun w' => w'.rangeAt g (o + (m + 1) * 3) x.cells ∧ w'.rangeAt g (o + m * 3) y.cells ∧ Below w.heap.size w w') := fun wa wb h hb => ⟨range_later h.1 hb, range_later h.2.1 hb, below_on h.2.2 hb⟩
      refine Calm.region (by kernel_rfl) (by kernel_rfl) (fun w' => w'.rangeAt g (o + (m + 1) * 3) x.cells ∧ w'.rangeAt g (o + m * 3) y.cells ∧ Below w.heap.size w w') ⟨d, d2, hbel.drew⟩ ?_
      iterate 4 (all_goals refine Calm.sp ?_)
      all_goals refine Calm.ce (v := .int .i64 x.i) (ad := ⟨g, o + (m + 1) * 3 + 2, none⟩) (fun _ h => h.1 2 _ rfl) ?_
      iterate 9 (all_goals refine Calm.sp ?_)
      all_goals first | refine Calm.sk ?_ | refine Calm.lm zy (fun _ h => h.2.1) Tryz.underlying50 ?_ | refine Calm.lm zm (fun _ h => h.1) Tryz.underlying50 ?_
      iterate 3 (all_goals refine Calm.sp ?_)
      all_goals first | refine Calm.sk ?_ | refine Calm.lm zy (fun _ h => h.2.1) Tryz.underlying50 ?_ | refine Calm.lm zm (fun _ h => h.1) Tryz.underlying50 ?_
      all_goals first | refine Calm.sk ?_ | refine Calm.k2 hs (fun w1 h => C2 w1) ?_
      iterate 3 (all_goals refine Calm.sp ?_)
      all_goals
       rintro w9 ⟨_, _, hbel9⟩
      go_wp2_with fail
      go_roundw
      case rel => exact ⟨m + 1 + 1, by simp, by omega, HV2, hbel9⟩
      case measure => simp [intOf]; omega
  ·have hlt' : ¬ (k : Int) < (l.length : Int) := by omega
   have e := HZ.out
   rw [(ca_iff l).2 (fun i h => HV.out i h (by omega))] at e
   subst e
   clear HZ HV HR
   go_wp2_with fail
   go_ret
   exact ⟨rfl, hbel⟩
end Go.Proofs.YtjbbmcommnhgeaaGreat
