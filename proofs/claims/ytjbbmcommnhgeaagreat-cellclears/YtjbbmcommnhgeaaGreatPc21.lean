import Derived.Test.YtjbbmcommnhgeaaGreatPc20
set_option maxRecDepth 100000
set_option maxHeartbeats 8000000
namespace Go.Proofs.YtjbbmcommnhgeaaGreat.Os
open Go.RowKit Go.Sort
theorem leq_str (a b : ByteArray) : (Op.bytesLess b.toList a.toList || b.toList == a.toList) = !decide (bs a < bs b) := by
 rw [less_str, eq_str]
 by_cases h : bs a < bs b
 ·have h1 : ¬ bs b < bs a := Bs.asymm h
  have h2 : ¬ bs b = bs a := fun e => Bs.irr _ (e ▸ h)
  simp only [h, h1, h2, decide_true, decide_false]
  rfl
 ·by_cases h2 : bs b = bs a
  ·simp [h2]
  ·have h1 : bs b < bs a := Bs.tri h (fun e => h2 e.symm)
   simp only [h, h1, decide_true, decide_false]
   rfl
theorem refCheck_any (x : X) (va vw vm ve : Value) (w : World) (h : Four w x va vw vm ve) (hs : Sm x) : Calls Tryz.prog 31 #[CV x.k x.b va vw vm ve] w (Tells (.bool (ck x)) w) := by
 obtain ⟨z, HZ⟩ := hid_ex (ck x)
 rw [HZ.out]
 obtain ⟨pa, ca', pw, cw, pm, cm, pe, ce, rfl, rfl, rfl, rfl⟩ := h.slices
 have HB : Hid (BHas w (.slice pm x.mb.length cm) x.mb) := h.m
 clear h
 obtain ⟨ha, ht, hm, he, _, _⟩ := hs
 have R0 := rw_new w 27 (cvc x.k x.b (.slice pa x.am.length ca') (.slice pw x.wr.length cw) (.slice pm x.mb.length cm) (.slice pe x.el.length ce))
 have hbel := bel_alloc (Below.refl w.heap.size w) (.cells (cvc x.k x.b (.slice pa x.am.length ca') (.slice pw x.wr.length cw) (.slice pm x.mb.length cm) (.slice pe x.el.length ce)) 27)
 by_cases hb : x.b = 0
 ·by_cases h0 : x.am.length + x.wr.length + x.el.length = 0
  ·have e1 : x.am.length = 0 := by omega
   have e2 : x.wr.length = 0 := by omega
   have e3 : x.el.length = 0 := by omega
   by_cases hk : x.k = 4
   ·skip
    have HZ2 : Hid (cb x.mb = z) := by
     show _ = _
     rw [← HZ.out]
     unfold ck
     rw [hk, hb, decide_eq_true h0]
     rfl
    clear HZ
    rw [e1, e2, e3, hk, hb] at R0 hbel ⊢
    obtain ⟨l, HLL⟩ := hid_ex x.mb
    rw [HLL.out] at HB HZ2 hm
    have e4 : x.mb.length = l.length := by rw [HLL.out]
    rw [e4] at R0 hbel ⊢
    clear e4 HLL e1 e2 e3 h0 he ha hk hb ht
    obtain ⟨ys, hys, HS, HYS⟩ := HB.out
    have hyl : ys.length = l.length := by rw [← hys, List.length_map]
    have HR : Hid (SHas 3 w (.slice pm l.length cm) l.length (rows Mb.cells ys)) := HS
    have HYY : Hid (∀ y ∈ ys, MHas w y.2 y.1.ms) := HYS
    have HL : Hid (∀ k (h1 : k < ys.length) (h2 : k < l.length), ys[k].1 = l[k]) := fun k h1 h2 => by
     subst hys
     rw [List.getElem_map]
    clear hys HS HYS HB
    generalize hW : w.alloc (.cells (cvc 4 0 (.slice pa 0 ca') (.slice pw 0 cw) (.slice pm l.length cm) (.slice pe 0 ce)) 27) = w0 at R0 hbel
    have c1 : w0.cell? ⟨w.heap.size, 1, none⟩ = some (.int .i64 0) := R0.cell 1
    have c0 : w0.cell? ⟨w.heap.size, 0, none⟩ = some (.int .i64 4) := R0.cell 0
    have c2 : w0.cell? ⟨w.heap.size, 2, none⟩ = some (.slice pa 0 ca') := R0.cell 2
    have c3 : w0.cell? ⟨w.heap.size, 3, none⟩ = some (.slice pw 0 cw) := R0.cell 3
    have c5 : w0.cell? ⟨w.heap.size, 5, none⟩ = some (.slice pe 0 ce) := R0.cell 5
    go_enter Tryz.func31, Tryz.ntmps31
    go_wp2_with (first | rw [hW])
    clear hW c0 c1 c2 c3 c5
    go_loopw [3] (fun vi wr => ∃ k : Nat, vi = .int .i64 k ∧ k ≤ l.length ∧ Rw wr w.heap.size 27 (cvc 4 0 (.slice pa 0 ca') (.slice pw 0 cw) (.slice pm l.length cm) (.slice pe 0 ce)) ∧ Hid (∀ i (h : i < l.length), i < k → okb l i h = true) ∧ Below w.heap.size w wr) (fun vi _ => l.length - (intOf vi).toNat)
    case atStart => exact ⟨0, rfl, by omega, R0, (show ∀ i (_ : i < l.length), i < 0 → _ from fun i _ h => by omega), hbel⟩
    case round =>
     clear R0 hbel
     obtain ⟨k, rfl, hk, R0, HV, hbel⟩ := hrel
     have c4 : wr.cell? ⟨w.heap.size, 4, none⟩ = some (.slice pm l.length cm) := R0.cell 4
     by_cases hlt : k < l.length
     ·have hlt' : (k : Int) < (l.length : Int) := by omega
      have hk0 : (0 : Int) ≤ (k : Int) := by omega
      obtain ⟨g, o, rfl, hd0⟩ := HR.out.at (by omega)
      have hd := range_later hd0 hbel
      have d := Mb.elem hd k (by omega)
      have hyk := (HYY.out ys[k] (List.getElem_mem _)).later hbel
      obtain ⟨yy, HX⟩ := hid_ex (ys[k]'(by omega))
      have HX2 : Hid (l[k] = yy.1) := by
       show _ = _
       rw [← HL.out k (by omega) hlt, HX.out]
      rw [HX.out] at d hyk
      obtain ⟨y, yv⟩ := yy
      replace hyk : MHas wr yv y.ms := hyk
      obtain ⟨py, cy, rfl⟩ := hyk.slice
      replace d : wr.rangeAt g (o + k * 3) [Value.string y.x, .bool y.b, .slice py y.ms.length cy] := d
      replace HX2 : Hid (l[k] = y) := HX2
      clear hd0 HR HYY HX
      have HO0 : Hid (∀ h', okb l k h' = (ib y && (decide (k = 0) || tlt (l[k - 1]'(by omega)) y))) := fun h' => by unfold okb; rw [HX2.out]
      have C1 : ∀ w, MHas w (.slice py y.ms.length cy) y.ms → Calls Tryz.prog 64 #[.slice py y.ms.length cy] w (Tells (.bool (ca y.ms)) w) := fun w h => refRising_any _ y.ms w h
      have zb : (Tryz.prog.info? 67).map (·.size) = some [Value.string y.x, .bool y.b, .slice py y.ms.length cy].length := size67
      have RB := rw_new wr 67 #[.string y.x, .bool y.b, .slice py y.ms.length cy]
      have hba := bel_alloc (Below.refl wr.heap.size wr) (.cells #[.string y.x, .bool y.b, .slice py y.ms.length cy] 67)
      generalize hW : wr.alloc (.cells #[.string y.x, .bool y.b, .slice py y.ms.length cy] 67) = wx at RB hba
      go_wp2_with (first | rw [hW] | refine load_m 67 _ rfl rfl _ _ rfl d Tryz.underlying67 rfl zb ?_)
      clear hW d
      replace R0 := R0.later hba
      replace hyk := hyk.later hba
      replace hbel := below_on hbel hba
      by_cases hyx : y.x.size ≤ 64
      ·have hyx' : decide ((64 : Int) < (y.x.size : Int)) = false := decide_eq_false (by omega)
       obtain ⟨yb, HYB⟩ := hid_ex y.b
       rw [HYB.out] at RB
       cases yb
       ·by_cases hy0 : y.ms.length = 0
        ·have hy0' : ((y.ms.length : Int) == 0) = true := by rw [hy0]; rfl
         have hyd : decide ((y.ms.length : Int) = 0) = true := decide_eq_true (by omega)
         have HF := cb_not HZ2 hlt (by rw [HO0.out]; unfold ib; rw [HYB.out, hy0]; rfl)
         have e := HF.out
         subst e
         clear HZ2 HF HV HO0
         clear hd
         have hs : Calm.Stays (fun w' => Rw w' w.heap.size 27 (cvc 4 0 (.slice pa 0 ca') (.slice pw 0 cw) (.slice (some ⟨g, o, none⟩) l.length cm) (.slice pe 0 ce)) ∧ Rw w' wr.heap.size 67 #[.string y.x, .bool false, .slice py y.ms.length cy] ∧ MHas w' (.slice py y.ms.length cy) y.ms ∧ Below w.heap.size w w') := fun wa wb h hb => ⟨h.1.later hb, h.2.1.later hb, h.2.2.1.later hb, below_on h.2.2.2 hb⟩
         refine Calm.region (by kernel_rfl) (by kernel_rfl) (fun w' => Rw w' w.heap.size 27 (cvc 4 0 (.slice pa 0 ca') (.slice pw 0 cw) (.slice (some ⟨g, o, none⟩) l.length cm) (.slice pe 0 ce)) ∧ Rw w' wr.heap.size 67 #[.string y.x, .bool false, .slice py y.ms.length cy] ∧ MHas w' (.slice py y.ms.length cy) y.ms ∧ Below w.heap.size w w') ⟨R0, RB, hyk, hbel.drew⟩ ?_
         all_goals refine Calm.sp ?_
         all_goals refine Calm.cs (fun _ h => h.2.1.cell 0) ?_
         iterate 4 (all_goals refine Calm.sp ?_)
         all_goals first | refine Calm.sk ?_ | refine Calm.cs (fun _ h => h.2.1.cell 1) ?_
         iterate 3 (all_goals refine Calm.sp ?_)
         all_goals first | refine Calm.sk ?_ | refine Calm.cs (fun _ h => h.2.1.cell 2) ?_
         iterate 6 (all_goals refine Calm.sp ?_)
         all_goals first | refine Calm.sk ?_ | refine Calm.cs (fun _ h => h.2.1.cell 2) ?_
         all_goals first | refine Calm.sk ?_ | refine Calm.k1 hs (fun w1 h => C1 w1 h.2.2.1) ?_
         iterate 7 (all_goals refine Calm.sp ?_)
         all_goals first | refine Calm.sk ?_ | refine Calm.cs (fun _ h => h.2.1.cell 0) ?_
         all_goals refine Calm.sp ?_
         all_goals first | refine Calm.sk ?_ | refine Calm.cs (fun _ h => h.1.cell 4) ?_
         iterate 8 (all_goals refine Calm.sp ?_)
         all_goals
          rintro w9 ⟨R09, _, _, hbel9⟩
         go_wp2_with fail
         go_ret
         exact ⟨rfl, hbel9⟩
        ·have hy0' : ((y.ms.length : Int) == 0) = false := by rw [beq_eq_false_iff_ne]; omega
         have hyd : decide ((y.ms.length : Int) = 0) = false := decide_eq_false (by omega)
         obtain ⟨y1, HY1⟩ := hid_ex (ca y.ms)
         rw [HY1.out] at C1
         cases y1
         ·
          have HF := cb_not HZ2 hlt (by rw [HO0.out]; unfold ib; rw [HY1.out]; simp)
          have e := HF.out
          subst e
          clear HZ2 HF HV HO0
          clear hd
          have hs : Calm.Stays (fun w' => Rw w' w.heap.size 27 (cvc 4 0 (.slice pa 0 ca') (.slice pw 0 cw) (.slice (some ⟨g, o, none⟩) l.length cm) (.slice pe 0 ce)) ∧ Rw w' wr.heap.size 67 #[.string y.x, .bool false, .slice py y.ms.length cy] ∧ MHas w' (.slice py y.ms.length cy) y.ms ∧ Below w.heap.size w w') := fun wa wb h hb => ⟨h.1.later hb, h.2.1.later hb, h.2.2.1.later hb, below_on h.2.2.2 hb⟩
          refine Calm.region (by kernel_rfl) (by kernel_rfl) (fun w' => Rw w' w.heap.size 27 (cvc 4 0 (.slice pa 0 ca') (.slice pw 0 cw) (.slice (some ⟨g, o, none⟩) l.length cm) (.slice pe 0 ce)) ∧ Rw w' wr.heap.size 67 #[.string y.x, .bool false, .slice py y.ms.length cy] ∧ MHas w' (.slice py y.ms.length cy) y.ms ∧ Below w.heap.size w w') ⟨R0, RB, hyk, hbel.drew⟩ ?_
          all_goals refine Calm.sp ?_
          all_goals refine Calm.cs (fun _ h => h.2.1.cell 0) ?_
          iterate 4 (all_goals refine Calm.sp ?_)
          all_goals first | refine Calm.sk ?_ | refine Calm.cs (fun _ h => h.2.1.cell 1) ?_
          iterate 3 (all_goals refine Calm.sp ?_)
          all_goals first | refine Calm.sk ?_ | refine Calm.cs (fun _ h => h.2.1.cell 2) ?_
          iterate 6 (all_goals refine Calm.sp ?_)
          all_goals first | refine Calm.sk ?_ | refine Calm.cs (fun _ h => h.2.1.cell 2) ?_
          all_goals first | refine Calm.sk ?_ | refine Calm.k1 hs (fun w1 h => C1 w1 h.2.2.1) ?_
          iterate 7 (all_goals refine Calm.sp ?_)
          all_goals first | refine Calm.sk ?_ | refine Calm.cs (fun _ h => h.2.1.cell 0) ?_
          all_goals refine Calm.sp ?_
          all_goals first | refine Calm.sk ?_ | refine Calm.cs (fun _ h => h.1.cell 4) ?_
          iterate 8 (all_goals refine Calm.sp ?_)
          all_goals
           rintro w9 ⟨R09, _, _, hbel9⟩
          go_wp2_with fail
          go_ret
          exact ⟨rfl, hbel9⟩
         ·have HIB : Hid (ib y = true) := by
           show _ = _
           unfold ib
           rw [HY1.out, decide_eq_true hyx]
           rw [decide_eq_true (Nat.pos_of_ne_zero hy0)]; simp
          rcases Nat.eq_zero_or_pos k with rfl | hpos
          ·have HV2 : Hid (∀ i (h : i < l.length), i < 0 + 1 → okb l i h = true) := fun i h hi => by
            obtain rfl : i = 0 := by omega
            rw [HO0.out, HIB.out]
            rfl
           clear hd HV HO0 HZ2
           have hs : Calm.Stays (fun w' => Rw w' w.heap.size 27 (cvc 4 0 (.slice pa 0 ca') (.slice pw 0 cw) (.slice (some ⟨g, o, none⟩) l.length cm) (.slice pe 0 ce)) ∧ Rw w' wr.heap.size 67 #[.string y.x, .bool false, .slice py y.ms.length cy] ∧ MHas w' (.slice py y.ms.length cy) y.ms ∧ Below w.heap.size w w') := fun wa wb h hb => ⟨h.1.later hb, h.2.1.later hb, h.2.2.1.later hb, below_on h.2.2.2 hb⟩
           refine Calm.region (by kernel_rfl) (by kernel_rfl) (fun w' => Rw w' w.heap.size 27 (cvc 4 0 (.slice pa 0 ca') (.slice pw 0 cw) (.slice (some ⟨g, o, none⟩) l.length cm) (.slice pe 0 ce)) ∧ Rw w' wr.heap.size 67 #[.string y.x, .bool false, .slice py y.ms.length cy] ∧ MHas w' (.slice py y.ms.length cy) y.ms ∧ Below w.heap.size w w') ⟨R0, RB, hyk, hbel.drew⟩ ?_
           all_goals refine Calm.sp ?_
           all_goals refine Calm.cs (fun _ h => h.2.1.cell 0) ?_
           iterate 4 (all_goals refine Calm.sp ?_)
           all_goals first | refine Calm.sk ?_ | refine Calm.cs (fun _ h => h.2.1.cell 1) ?_
           iterate 3 (all_goals refine Calm.sp ?_)
           all_goals first | refine Calm.sk ?_ | refine Calm.cs (fun _ h => h.2.1.cell 2) ?_
           iterate 6 (all_goals refine Calm.sp ?_)
           all_goals first | refine Calm.sk ?_ | refine Calm.cs (fun _ h => h.2.1.cell 2) ?_
           all_goals first | refine Calm.sk ?_ | refine Calm.k1 hs (fun w1 h => C1 w1 h.2.2.1) ?_
           iterate 7 (all_goals refine Calm.sp ?_)
           all_goals first | refine Calm.sk ?_ | refine Calm.cs (fun _ h => h.2.1.cell 0) ?_
           all_goals refine Calm.sp ?_
           all_goals first | refine Calm.sk ?_ | refine Calm.cs (fun _ h => h.1.cell 4) ?_
           iterate 8 (all_goals refine Calm.sp ?_)
           all_goals
            rintro w9 ⟨R09, _, _, hbel9⟩
           go_wp2_with fail
           go_roundw
           case rel => exact ⟨0 + 1, by simp, by omega, R09, HV2, hbel9⟩
           case measure => simp [intOf]; omega
          ·obtain ⟨m, rfl⟩ : ∃ m, k = m + 1 := ⟨k - 1, by omega⟩
           have d2 := range_later (Mb.elem hd m (by omega)) hba 0 _ rfl
           obtain ⟨yp, HP⟩ := hid_ex (l[m]'(by omega))
           rw [HL.out m (by omega) (by omega), HP.out] at d2
           replace d2 : wx.cell? ⟨g, o + m * 3, none⟩ = some (.string yp.x) := d2
           have HO : Hid (okb l (m + 1) hlt = tlt yp y) := by
            show _ = _
            rw [HO0.out, HIB.out]
            simp only [Nat.add_sub_cancel]
            rw [HP.out]
            simp
           obtain ⟨y2, HY2⟩ := hid_ex (tlt yp y)
           rw [HY2.out] at HO
           have E1 : (Op.bytesLess y.x.toList yp.x.toList || y.x.toList == yp.x.toList) = !y2 := by rw [← HY2.out]; exact leq_str yp.x y.x
           have hw1 : IntKind.i64.wrap (m : Int) = (m : Int) := by rw [IntKind.wrap_i64]; omega
           have hml2 : (m : Int) < (l.length : Int) := by omega
           clear hd HO0 HIB
           cases y2
           ·have HF := cb_not HZ2 hlt HO.out
            have e := HF.out
            subst e
            clear HZ2 HF HV
            have hs : Calm.Stays (fun w' => Rw w' w.heap.size 27 (cvc 4 0 (.slice pa 0 ca') (.slice pw 0 cw) (.slice (some ⟨g, o, none⟩) l.length cm) (.slice pe 0 ce)) ∧ Rw w' wr.heap.size 67 #[.string y.x, .bool false, .slice py y.ms.length cy] ∧ MHas w' (.slice py y.ms.length cy) y.ms ∧ w'.cell? ⟨g, o + m * 3, none⟩ = some (.string yp.x) ∧ Below w.heap.size w w') := fun wa wb h hb => ⟨h.1.later hb, h.2.1.later hb, h.2.2.1.later hb, cell_later hb h.2.2.2.1, below_on h.2.2.2.2 hb⟩
            refine Calm.region (by kernel_rfl) (by kernel_rfl) (fun w' => Rw w' w.heap.size 27 (cvc 4 0 (.slice pa 0 ca') (.slice pw 0 cw) (.slice (some ⟨g, o, none⟩) l.length cm) (.slice pe 0 ce)) ∧ Rw w' wr.heap.size 67 #[.string y.x, .bool false, .slice py y.ms.length cy] ∧ MHas w' (.slice py y.ms.length cy) y.ms ∧ w'.cell? ⟨g, o + m * 3, none⟩ = some (.string yp.x) ∧ Below w.heap.size w w') ⟨R0, RB, hyk, d2, hbel.drew⟩ ?_
            all_goals refine Calm.sp ?_
            all_goals refine Calm.cs (fun _ h => h.2.1.cell 0) ?_
            iterate 4 (all_goals refine Calm.sp ?_)
            all_goals first | refine Calm.sk ?_ | refine Calm.cs (fun _ h => h.2.1.cell 1) ?_
            iterate 3 (all_goals refine Calm.sp ?_)
            all_goals first | refine Calm.sk ?_ | refine Calm.cs (fun _ h => h.2.1.cell 2) ?_
            iterate 6 (all_goals refine Calm.sp ?_)
            all_goals first | refine Calm.sk ?_ | refine Calm.cs (fun _ h => h.2.1.cell 2) ?_
            all_goals first | refine Calm.sk ?_ | refine Calm.k1 hs (fun w1 h => C1 w1 h.2.2.1) ?_
            iterate 7 (all_goals refine Calm.sp ?_)
            all_goals first | refine Calm.sk ?_ | refine Calm.cs (fun _ h => h.2.1.cell 0) ?_
            all_goals refine Calm.sp ?_
            all_goals first | refine Calm.sk ?_ | refine Calm.cs (fun _ h => h.1.cell 4) ?_
            iterate 4 (all_goals refine Calm.sp ?_)
            all_goals first | refine Calm.sk ?_ | refine Calm.cl (fun w h => (show w.cell? ⟨g, o + m * 3, none⟩ = some (.string yp.x) from h.2.2.2.1)) ?_
            iterate 3 (all_goals refine Calm.sp ?_)
            all_goals
             rintro w9 ⟨R09, _, _, _, hbel9⟩
            go_wp2_with fail
            go_ret
            exact ⟨rfl, hbel9⟩
           ·have HV2 : Hid (∀ i (h : i < l.length), i < m + 1 + 1 → okb l i h = true) := fun i h hi => by
             rcases Nat.lt_or_ge i (m + 1) with h' | h'
             ·exact HV.out i h h'
             ·obtain rfl : i = m + 1 := by omega
              exact HO.out
            clear HV HO HZ2
            have hs : Calm.Stays (fun w' => Rw w' w.heap.size 27 (cvc 4 0 (.slice pa 0 ca') (.slice pw 0 cw) (.slice (some ⟨g, o, none⟩) l.length cm) (.slice pe 0 ce)) ∧ Rw w' wr.heap.size 67 #[.string y.x, .bool false, .slice py y.ms.length cy] ∧ MHas w' (.slice py y.ms.length cy) y.ms ∧ w'.cell? ⟨g, o + m * 3, none⟩ = some (.string yp.x) ∧ Below w.heap.size w w') := fun wa wb h hb => ⟨h.1.later hb, h.2.1.later hb, h.2.2.1.later hb, cell_later hb h.2.2.2.1, below_on h.2.2.2.2 hb⟩
            refine Calm.region (by kernel_rfl) (by kernel_rfl) (fun w' => Rw w' w.heap.size 27 (cvc 4 0 (.slice pa 0 ca') (.slice pw 0 cw) (.slice (some ⟨g, o, none⟩) l.length cm) (.slice pe 0 ce)) ∧ Rw w' wr.heap.size 67 #[.string y.x, .bool false, .slice py y.ms.length cy] ∧ MHas w' (.slice py y.ms.length cy) y.ms ∧ w'.cell? ⟨g, o + m * 3, none⟩ = some (.string yp.x) ∧ Below w.heap.size w w') ⟨R0, RB, hyk, d2, hbel.drew⟩ ?_
            all_goals refine Calm.sp ?_
            all_goals refine Calm.cs (fun _ h => h.2.1.cell 0) ?_
            iterate 4 (all_goals refine Calm.sp ?_)
            all_goals first | refine Calm.sk ?_ | refine Calm.cs (fun _ h => h.2.1.cell 1) ?_
            iterate 3 (all_goals refine Calm.sp ?_)
            all_goals first | refine Calm.sk ?_ | refine Calm.cs (fun _ h => h.2.1.cell 2) ?_
            iterate 6 (all_goals refine Calm.sp ?_)
            all_goals first | refine Calm.sk ?_ | refine Calm.cs (fun _ h => h.2.1.cell 2) ?_
            all_goals first | refine Calm.sk ?_ | refine Calm.k1 hs (fun w1 h => C1 w1 h.2.2.1) ?_
            iterate 7 (all_goals refine Calm.sp ?_)
            all_goals first | refine Calm.sk ?_ | refine Calm.cs (fun _ h => h.2.1.cell 0) ?_
            all_goals refine Calm.sp ?_
            all_goals first | refine Calm.sk ?_ | refine Calm.cs (fun _ h => h.1.cell 4) ?_
            iterate 4 (all_goals refine Calm.sp ?_)
            all_goals first | refine Calm.sk ?_ | refine Calm.cl (fun w h => (show w.cell? ⟨g, o + m * 3, none⟩ = some (.string yp.x) from h.2.2.2.1)) ?_
            iterate 3 (all_goals refine Calm.sp ?_)
            all_goals
             rintro w9 ⟨R09, _, _, _, hbel9⟩
            go_wp2_with fail
            go_roundw
            case rel => exact ⟨m + 1 + 1, by simp, by omega, R09, HV2, hbel9⟩
            case measure => simp [intOf]; omega
       ·skip
        obtain ⟨y1, HY1⟩ := hid_ex (ca y.ms)
        rw [HY1.out] at C1
        cases y1
        ·
         have HF := cb_not HZ2 hlt (by rw [HO0.out]; unfold ib; rw [HY1.out]; simp)
         have e := HF.out
         subst e
         clear HZ2 HF HV HO0
         clear hd
         have hs : Calm.Stays (fun w' => Rw w' w.heap.size 27 (cvc 4 0 (.slice pa 0 ca') (.slice pw 0 cw) (.slice (some ⟨g, o, none⟩) l.length cm) (.slice pe 0 ce)) ∧ Rw w' wr.heap.size 67 #[.string y.x, .bool true, .slice py y.ms.length cy] ∧ MHas w' (.slice py y.ms.length cy) y.ms ∧ Below w.heap.size w w') := fun wa wb h hb => ⟨h.1.later hb, h.2.1.later hb, h.2.2.1.later hb, below_on h.2.2.2 hb⟩
         refine Calm.region (by kernel_rfl) (by kernel_rfl) (fun w' => Rw w' w.heap.size 27 (cvc 4 0 (.slice pa 0 ca') (.slice pw 0 cw) (.slice (some ⟨g, o, none⟩) l.length cm) (.slice pe 0 ce)) ∧ Rw w' wr.heap.size 67 #[.string y.x, .bool true, .slice py y.ms.length cy] ∧ MHas w' (.slice py y.ms.length cy) y.ms ∧ Below w.heap.size w w') ⟨R0, RB, hyk, hbel.drew⟩ ?_
         all_goals refine Calm.sp ?_
         all_goals refine Calm.cs (fun _ h => h.2.1.cell 0) ?_
         iterate 4 (all_goals refine Calm.sp ?_)
         all_goals first | refine Calm.sk ?_ | refine Calm.cs (fun _ h => h.2.1.cell 1) ?_
         iterate 3 (all_goals refine Calm.sp ?_)
         all_goals first | refine Calm.sk ?_ | refine Calm.cs (fun _ h => h.2.1.cell 2) ?_
         iterate 6 (all_goals refine Calm.sp ?_)
         all_goals first | refine Calm.sk ?_ | refine Calm.cs (fun _ h => h.2.1.cell 2) ?_
         all_goals first | refine Calm.sk ?_ | refine Calm.k1 hs (fun w1 h => C1 w1 h.2.2.1) ?_
         iterate 7 (all_goals refine Calm.sp ?_)
         all_goals first | refine Calm.sk ?_ | refine Calm.cs (fun _ h => h.2.1.cell 0) ?_
         all_goals refine Calm.sp ?_
         all_goals first | refine Calm.sk ?_ | refine Calm.cs (fun _ h => h.1.cell 4) ?_
         iterate 8 (all_goals refine Calm.sp ?_)
         all_goals
          rintro w9 ⟨R09, _, _, hbel9⟩
         go_wp2_with fail
         go_ret
         exact ⟨rfl, hbel9⟩
        ·have HIB : Hid (ib y = true) := by
          show _ = _
          unfold ib
          rw [HY1.out, decide_eq_true hyx]
          rw [HYB.out]; rfl
         rcases Nat.eq_zero_or_pos k with rfl | hpos
         ·have HV2 : Hid (∀ i (h : i < l.length), i < 0 + 1 → okb l i h = true) := fun i h hi => by
           obtain rfl : i = 0 := by omega
           rw [HO0.out, HIB.out]
           rfl
          clear hd HV HO0 HZ2
          have hs : Calm.Stays (fun w' => Rw w' w.heap.size 27 (cvc 4 0 (.slice pa 0 ca') (.slice pw 0 cw) (.slice (some ⟨g, o, none⟩) l.length cm) (.slice pe 0 ce)) ∧ Rw w' wr.heap.size 67 #[.string y.x, .bool true, .slice py y.ms.length cy] ∧ MHas w' (.slice py y.ms.length cy) y.ms ∧ Below w.heap.size w w') := fun wa wb h hb => ⟨h.1.later hb, h.2.1.later hb, h.2.2.1.later hb, below_on h.2.2.2 hb⟩
          refine Calm.region (by kernel_rfl) (by kernel_rfl) (fun w' => Rw w' w.heap.size 27 (cvc 4 0 (.slice pa 0 ca') (.slice pw 0 cw) (.slice (some ⟨g, o, none⟩) l.length cm) (.slice pe 0 ce)) ∧ Rw w' wr.heap.size 67 #[.string y.x, .bool true, .slice py y.ms.length cy] ∧ MHas w' (.slice py y.ms.length cy) y.ms ∧ Below w.heap.size w w') ⟨R0, RB, hyk, hbel.drew⟩ ?_
          all_goals refine Calm.sp ?_
          all_goals refine Calm.cs (fun _ h => h.2.1.cell 0) ?_
          iterate 4 (all_goals refine Calm.sp ?_)
          all_goals first | refine Calm.sk ?_ | refine Calm.cs (fun _ h => h.2.1.cell 1) ?_
          iterate 3 (all_goals refine Calm.sp ?_)
          all_goals first | refine Calm.sk ?_ | refine Calm.cs (fun _ h => h.2.1.cell 2) ?_
          iterate 6 (all_goals refine Calm.sp ?_)
          all_goals first | refine Calm.sk ?_ | refine Calm.cs (fun _ h => h.2.1.cell 2) ?_
          all_goals first | refine Calm.sk ?_ | refine Calm.k1 hs (fun w1 h => C1 w1 h.2.2.1) ?_
          iterate 7 (all_goals refine Calm.sp ?_)
          all_goals first | refine Calm.sk ?_ | refine Calm.cs (fun _ h => h.2.1.cell 0) ?_
          all_goals refine Calm.sp ?_
          all_goals first | refine Calm.sk ?_ | refine Calm.cs (fun _ h => h.1.cell 4) ?_
          iterate 8 (all_goals refine Calm.sp ?_)
          all_goals
           rintro w9 ⟨R09, _, _, hbel9⟩
          go_wp2_with fail
          go_roundw
          case rel => exact ⟨0 + 1, by simp, by omega, R09, HV2, hbel9⟩
          case measure => simp [intOf]; omega
         ·obtain ⟨m, rfl⟩ : ∃ m, k = m + 1 := ⟨k - 1, by omega⟩
          have d2 := range_later (Mb.elem hd m (by omega)) hba 0 _ rfl
          obtain ⟨yp, HP⟩ := hid_ex (l[m]'(by omega))
          rw [HL.out m (by omega) (by omega), HP.out] at d2
          replace d2 : wx.cell? ⟨g, o + m * 3, none⟩ = some (.string yp.x) := d2
          have HO : Hid (okb l (m + 1) hlt = tlt yp y) := by
           show _ = _
           rw [HO0.out, HIB.out]
           simp only [Nat.add_sub_cancel]
           rw [HP.out]
           simp
          obtain ⟨y2, HY2⟩ := hid_ex (tlt yp y)
          rw [HY2.out] at HO
          have E1 : (Op.bytesLess y.x.toList yp.x.toList || y.x.toList == yp.x.toList) = !y2 := by rw [← HY2.out]; exact leq_str yp.x y.x
          have hw1 : IntKind.i64.wrap (m : Int) = (m : Int) := by rw [IntKind.wrap_i64]; omega
          have hml2 : (m : Int) < (l.length : Int) := by omega
          clear hd HO0 HIB
          cases y2
          ·have HF := cb_not HZ2 hlt HO.out
           have e := HF.out
           subst e
           clear HZ2 HF HV
           have hs : Calm.Stays (fun w' => Rw w' w.heap.size 27 (cvc 4 0 (.slice pa 0 ca') (.slice pw 0 cw) (.slice (some ⟨g, o, none⟩) l.length cm) (.slice pe 0 ce)) ∧ Rw w' wr.heap.size 67 #[.string y.x, .bool true, .slice py y.ms.length cy] ∧ MHas w' (.slice py y.ms.length cy) y.ms ∧ w'.cell? ⟨g, o + m * 3, none⟩ = some (.string yp.x) ∧ Below w.heap.size w w') := fun wa wb h hb => ⟨h.1.later hb, h.2.1.later hb, h.2.2.1.later hb, cell_later hb h.2.2.2.1, below_on h.2.2.2.2 hb⟩
           refine Calm.region (by kernel_rfl) (by kernel_rfl) (fun w' => Rw w' w.heap.size 27 (cvc 4 0 (.slice pa 0 ca') (.slice pw 0 cw) (.slice (some ⟨g, o, none⟩) l.length cm) (.slice pe 0 ce)) ∧ Rw w' wr.heap.size 67 #[.string y.x, .bool true, .slice py y.ms.length cy] ∧ MHas w' (.slice py y.ms.length cy) y.ms ∧ w'.cell? ⟨g, o + m * 3, none⟩ = some (.string yp.x) ∧ Below w.heap.size w w') ⟨R0, RB, hyk, d2, hbel.drew⟩ ?_
           all_goals refine Calm.sp ?_
           all_goals refine Calm.cs (fun _ h => h.2.1.cell 0) ?_
           iterate 4 (all_goals refine Calm.sp ?_)
           all_goals first | refine Calm.sk ?_ | refine Calm.cs (fun _ h => h.2.1.cell 1) ?_
           iterate 3 (all_goals refine Calm.sp ?_)
           all_goals first | refine Calm.sk ?_ | refine Calm.cs (fun _ h => h.2.1.cell 2) ?_
           iterate 6 (all_goals refine Calm.sp ?_)
           all_goals first | refine Calm.sk ?_ | refine Calm.cs (fun _ h => h.2.1.cell 2) ?_
           all_goals first | refine Calm.sk ?_ | refine Calm.k1 hs (fun w1 h => C1 w1 h.2.2.1) ?_
           iterate 7 (all_goals refine Calm.sp ?_)
           all_goals first | refine Calm.sk ?_ | refine Calm.cs (fun _ h => h.2.1.cell 0) ?_
           all_goals refine Calm.sp ?_
           all_goals first | refine Calm.sk ?_ | refine Calm.cs (fun _ h => h.1.cell 4) ?_
           iterate 4 (all_goals refine Calm.sp ?_)
           all_goals first | refine Calm.sk ?_ | refine Calm.cl (fun w h => (show w.cell? ⟨g, o + m * 3, none⟩ = some (.string yp.x) from h.2.2.2.1)) ?_
           iterate 3 (all_goals refine Calm.sp ?_)
           all_goals
            rintro w9 ⟨R09, _, _, _, hbel9⟩
           go_wp2_with fail
           go_ret
           exact ⟨rfl, hbel9⟩
          ·have HV2 : Hid (∀ i (h : i < l.length), i < m + 1 + 1 → okb l i h = true) := fun i h hi => by
            rcases Nat.lt_or_ge i (m + 1) with h' | h'
            ·exact HV.out i h h'
            ·obtain rfl : i = m + 1 := by omega
             exact HO.out
           clear HV HO HZ2
           have hs : Calm.Stays (fun w' => Rw w' w.heap.size 27 (cvc 4 0 (.slice pa 0 ca') (.slice pw 0 cw) (.slice (some ⟨g, o, none⟩) l.length cm) (.slice pe 0 ce)) ∧ Rw w' wr.heap.size 67 #[.string y.x, .bool true, .slice py y.ms.length cy] ∧ MHas w' (.slice py y.ms.length cy) y.ms ∧ w'.cell? ⟨g, o + m * 3, none⟩ = some (.string yp.x) ∧ Below w.heap.size w w') := fun wa wb h hb => ⟨h.1.later hb, h.2.1.later hb, h.2.2.1.later hb, cell_later hb h.2.2.2.1, below_on h.2.2.2.2 hb⟩
           refine Calm.region (by kernel_rfl) (by kernel_rfl) (fun w' => Rw w' w.heap.size 27 (cvc 4 0 (.slice pa 0 ca') (.slice pw 0 cw) (.slice (some ⟨g, o, none⟩) l.length cm) (.slice pe 0 ce)) ∧ Rw w' wr.heap.size 67 #[.string y.x, .bool true, .slice py y.ms.length cy] ∧ MHas w' (.slice py y.ms.length cy) y.ms ∧ w'.cell? ⟨g, o + m * 3, none⟩ = some (.string yp.x) ∧ Below w.heap.size w w') ⟨R0, RB, hyk, d2, hbel.drew⟩ ?_
           all_goals refine Calm.sp ?_
           all_goals refine Calm.cs (fun _ h => h.2.1.cell 0) ?_
           iterate 4 (all_goals refine Calm.sp ?_)
           all_goals first | refine Calm.sk ?_ | refine Calm.cs (fun _ h => h.2.1.cell 1) ?_
           iterate 3 (all_goals refine Calm.sp ?_)
           all_goals first | refine Calm.sk ?_ | refine Calm.cs (fun _ h => h.2.1.cell 2) ?_
           iterate 6 (all_goals refine Calm.sp ?_)
           all_goals first | refine Calm.sk ?_ | refine Calm.cs (fun _ h => h.2.1.cell 2) ?_
           all_goals first | refine Calm.sk ?_ | refine Calm.k1 hs (fun w1 h => C1 w1 h.2.2.1) ?_
           iterate 7 (all_goals refine Calm.sp ?_)
           all_goals first | refine Calm.sk ?_ | refine Calm.cs (fun _ h => h.2.1.cell 0) ?_
           all_goals refine Calm.sp ?_
           all_goals first | refine Calm.sk ?_ | refine Calm.cs (fun _ h => h.1.cell 4) ?_
           iterate 4 (all_goals refine Calm.sp ?_)
           all_goals first | refine Calm.sk ?_ | refine Calm.cl (fun w h => (show w.cell? ⟨g, o + m * 3, none⟩ = some (.string yp.x) from h.2.2.2.1)) ?_
           iterate 3 (all_goals refine Calm.sp ?_)
           all_goals
            rintro w9 ⟨R09, _, _, _, hbel9⟩
           go_wp2_with fail
           go_roundw
           case rel => exact ⟨m + 1 + 1, by simp, by omega, R09, HV2, hbel9⟩
           case measure => simp [intOf]; omega
      ·have hyx' : decide ((64 : Int) < (y.x.size : Int)) = true := decide_eq_true (by omega)
       obtain ⟨yb, HYB⟩ := hid_ex y.b
       rw [HYB.out] at RB
       clear HYB
       have HF := cb_not HZ2 hlt (by rw [HO0.out]; unfold ib; rw [decide_eq_false hyx]; simp)
       have e := HF.out
       subst e
       clear HZ2 HF HV HO0
       clear hd
       have hs : Calm.Stays (fun w' => Rw w' w.heap.size 27 (cvc 4 0 (.slice pa 0 ca') (.slice pw 0 cw) (.slice (some ⟨g, o, none⟩) l.length cm) (.slice pe 0 ce)) ∧ Rw w' wr.heap.size 67 #[.string y.x, .bool yb, .slice py y.ms.length cy] ∧ MHas w' (.slice py y.ms.length cy) y.ms ∧ Below w.heap.size w w') := fun wa wb h hb => ⟨h.1.later hb, h.2.1.later hb, h.2.2.1.later hb, below_on h.2.2.2 hb⟩
       refine Calm.region (by kernel_rfl) (by kernel_rfl) (fun w' => Rw w' w.heap.size 27 (cvc 4 0 (.slice pa 0 ca') (.slice pw 0 cw) (.slice (some ⟨g, o, none⟩) l.length cm) (.slice pe 0 ce)) ∧ Rw w' wr.heap.size 67 #[.string y.x, .bool yb, .slice py y.ms.length cy] ∧ MHas w' (.slice py y.ms.length cy) y.ms ∧ Below w.heap.size w w') ⟨R0, RB, hyk, hbel.drew⟩ ?_
       all_goals refine Calm.sp ?_
       all_goals refine Calm.cs (fun _ h => h.2.1.cell 0) ?_
       iterate 4 (all_goals refine Calm.sp ?_)
       all_goals first | refine Calm.sk ?_ | refine Calm.cs (fun _ h => h.2.1.cell 1) ?_
       iterate 3 (all_goals refine Calm.sp ?_)
       all_goals first | refine Calm.sk ?_ | refine Calm.cs (fun _ h => h.2.1.cell 2) ?_
       iterate 6 (all_goals refine Calm.sp ?_)
       all_goals first | refine Calm.sk ?_ | refine Calm.cs (fun _ h => h.2.1.cell 2) ?_
       all_goals first | refine Calm.sk ?_ | refine Calm.k1 hs (fun w1 h => C1 w1 h.2.2.1) ?_
       iterate 7 (all_goals refine Calm.sp ?_)
       all_goals first | refine Calm.sk ?_ | refine Calm.cs (fun _ h => h.2.1.cell 0) ?_
       all_goals refine Calm.sp ?_
       all_goals first | refine Calm.sk ?_ | refine Calm.cs (fun _ h => h.1.cell 4) ?_
       iterate 8 (all_goals refine Calm.sp ?_)
       all_goals
        rintro w9 ⟨R09, _, _, hbel9⟩
       go_wp2_with fail
       go_ret
       exact ⟨rfl, hbel9⟩
     ·have hlt' : ¬ (k : Int) < (l.length : Int) := by omega
      have hz : z = true := by
       rw [← HZ2.out, cb_iff]
       exact fun i h => HV.out i h (by omega)
      subst hz
      clear HR HV HZ2
      go_wp2_with fail
      go_ret
      exact ⟨rfl, hbel⟩
   ·rw [e1, e2, e3]
    obtain rfl : z = false := by
     rw [← HZ.out]
     unfold ck
     simp [hk]
    clear HZ
    go_enter Tryz.func31, Tryz.ntmps31
    go_wp2
    go_ret
    exact ⟨rfl, bel_alloc (Below.refl _ _) _⟩
  ·have h0' : 0 < (x.am.length : Int) + (x.wr.length : Int) + (x.el.length : Int) := by omega
   have w1 : IntKind.i64.wrap ((x.am.length : Int) + (x.wr.length : Int)) = (x.am.length : Int) + (x.wr.length : Int) := by rw [IntKind.wrap_i64]; omega
   have w2 : IntKind.i64.wrap ((x.am.length : Int) + (x.wr.length : Int) + (x.el.length : Int)) = (x.am.length : Int) + (x.wr.length : Int) + (x.el.length : Int) := by rw [IntKind.wrap_i64]; omega
   by_cases hk : x.k = 4
   all_goals
    obtain rfl : z = false := by
     rw [← HZ.out]
     unfold ck
     rw [decide_eq_false h0]; simp
    clear HZ
    go_enter Tryz.func31, Tryz.ntmps31
    go_wp2
    go_ret
    exact ⟨rfl, bel_alloc (Below.refl _ _) _⟩
 ·by_cases hk : x.k = 4
  all_goals
   obtain rfl : z = false := by
    rw [← HZ.out]
    unfold ck
    rw [decide_eq_false hb]; simp
   clear HZ
   go_enter Tryz.func31, Tryz.ntmps31
   go_wp2
   go_ret
   exact ⟨rfl, bel_alloc (Below.refl _ _) _⟩
end Go.Proofs.YtjbbmcommnhgeaaGreat.Os
namespace Go.Proofs.YtjbbmcommnhgeaaGreat
open Go.RowKit
def plI (l : List El) (m : K) : Int := match pl l m with
 | some k => (k : Int)
 | none => -1
theorem km_eq (y : El) (m : M) : decide (kE y = kM m) = (decide (y.p = m.p) && decide (y.s = m.s) && decide (y.i = m.i)) := by
 unfold kE kM
 by_cases h1 : y.p = m.p <;> by_cases h2 : y.s = m.s <;> by_cases h3 : y.i = m.i <;> simp [h1, h2, h3]
theorem pl_first {l : List El} {m : K} {k : Nat} (hk : k < l.length) (h : ∀ i (_ : i < l.length), i < k → kE l[i] ≠ m) (e : kE l[k] = m) : pl l m = some k := by
 unfold pl
 rw [List.findIdx?_eq_some_iff_getElem]
 exact ⟨hk, by simpa using e, fun j hj => by simpa using h j (by omega) hj⟩
theorem place_any (v : Value) (l : List El) (m : M) (w : World) (h : EHas w v l) : Calls Tryz.prog 95 #[v, MV m.p m.s m.i] w (Tells (.int .i64 (plI l (kM m))) w) := by
 obtain ⟨z, HZ⟩ := hid_ex (plI l (kM m))
 rw [HZ.out]
 obtain ⟨ys, hys, h, hy⟩ := h
 have hml := maxLen_lt h.1
 obtain ⟨p, c, rfl⟩ := h.slice
 have hyl : ys.length = l.length := by rw [← hys, List.length_map]
 have HR : Hid (SHas 9 w (.slice p l.length c) l.length (rows El.cells ys)) := h
 have HL : Hid (∀ k (h1 : k < ys.length) (h2 : k < l.length), ys[k].1 = l[k]) := fun k h1 h2 => by
  subst hys
  rw [List.getElem_map]
 clear h hy hys
 have R0 := rw_new w 50 #[.int .i64 m.p, .int .i64 m.s, .int .i64 m.i]
 have db0 : (w.alloc (.cells #[.int .i64 m.p, .int .i64 m.s, .int .i64 m.i] 50)).rangeAt w.heap.size 0 [Value.int .i64 m.p, .int .i64 m.s, .int .i64 m.i] := Rw.whole R0
 have hb0 := bel_alloc (Below.refl w.heap.size w) (.cells #[.int .i64 m.p, .int .i64 m.s, .int .i64 m.i] 50)
 have zm : (Tryz.prog.info? 50).map (·.size) = some [Value.int .i64 m.p, .int .i64 m.s, .int .i64 m.i].length := size50
 go_enter Tryz.func95, Tryz.ntmps95
 go_wp2_with fail
 go_loopw [5] (fun vi wr => ∃ k : Nat, vi = .int .i64 k ∧ k ≤ l.length ∧ Hid (∀ i (h : i < l.length), i < k → kE l[i] ≠ kM m) ∧ wr.rangeAt w.heap.size 0 [Value.int .i64 m.p, .int .i64 m.s, .int .i64 m.i] ∧ Below w.heap.size w wr) (fun vi _ => l.length - (intOf vi).toNat)
 case atStart => exact ⟨0, rfl, by omega, (show ∀ i (_ : i < l.length), i < 0 → _ from fun i _ h => by omega), db0, hb0⟩
 case round =>
  obtain ⟨k, rfl, hk, HV, db, hbel⟩ := hrel
  by_cases hlt : k < l.length
  ·have hlt' : (k : Int) < (l.length : Int) := by omega
   obtain ⟨g, o, rfl, hd0⟩ := HR.out.at (by omega)
   have d0 : wr.rangeAt g (o + k * 9) (El.cells (ys[k]'(by omega))) := range_sub (range_later hd0 hbel) (k * 9) fun j u hu => rows_at El.len ys k (by omega) j u hu
   obtain ⟨yy, HX⟩ := hid_ex (ys[k]'(by omega))
   have HX2 : Hid (l[k] = yy.1) := by
    show _ = _
    rw [← HL.out k (by omega) hlt, HX.out]
   rw [HX.out] at d0
   obtain ⟨y, yv⟩ := yy
   replace HX2 : Hid (l[k] = y) := HX2
   have d : wr.rangeAt g (o + k * 9) [Value.int .i64 y.p, .int .i64 y.s, .int .i64 y.i] := range_sub (o := o + k * 9) (xs := El.cells (y, yv)) d0 0 (fun j a ha => by
    rw [Nat.zero_add]
    match j, ha with
    | 0, h => exact h
    | 1, h => exact h
    | 2, h => exact h
    | j + 3, h => simp at h)
   have zu : (Tryz.prog.info? 50).map (·.size) = some [Value.int .i64 y.p, .int .i64 y.s, .int .i64 y.i].length := size50
   clear hd0 HR HX d0
   have E := fun w => eq_mark w y.p y.s y.i m.p m.s m.i
   obtain ⟨t, HT⟩ := hid_ex (decide (kE y = kM m))
   rw [show (decide (y.p = m.p) && decide (y.s = m.s) && decide (y.i = m.i)) = t from (km_eq _ _).symm.trans HT.out] at E
   cases t
   ·have HV2 : Hid (∀ i (h : i < l.length), i < k + 1 → kE l[i] ≠ kM m) := fun i h hi => by
     rcases Nat.lt_or_ge i k with h' | h'
     ·exact HV.out i h h'
     ·obtain rfl : i = k := by omega
      rw [HX2.out]
      simpa using HT.out
    clear HV HX2 HT HZ
    go_wp2_with fail
    have hs : Calm.Stays (fun w' => w'.rangeAt g (o + k * 9) [Value.int .i64 y.p, .int .i64 y.s, .int .i64 y.i] ∧ w'.rangeAt w.heap.size 0 [Value.int .i64 m.p, .int .i64 m.s, .int .i64 m.i] ∧ Below w.heap.size w w') := fun wa wb h hb => ⟨range_later h.1 hb, range_later h.2.1 hb, below_on h.2.2 hb⟩
    refine Calm.region (by kernel_rfl) (by kernel_rfl) (fun w' => w'.rangeAt g (o + k * 9) [Value.int .i64 y.p, .int .i64 y.s, .int .i64 y.i] ∧ w'.rangeAt w.heap.size 0 [Value.int .i64 m.p, .int .i64 m.s, .int .i64 m.i] ∧ Below w.heap.size w w') ⟨d, db, hbel.drew⟩ ?_
    iterate 4 (all_goals refine Calm.sp ?_)
    all_goals first | refine Calm.lm zu (fun _ h => h.1) Tryz.underlying50 ?_ | refine Calm.lm zm (fun _ h => h.2.1) Tryz.underlying50 ?_
    all_goals first | refine Calm.lm zu (fun _ h => h.1) Tryz.underlying50 ?_ | refine Calm.lm zm (fun _ h => h.2.1) Tryz.underlying50 ?_
    all_goals refine Calm.sp ?_
    all_goals
     rintro w9 ⟨_, db9, hbel9⟩
    go_wp2_with fail
    go_roundw
    case rel => exact ⟨k + 1, by simp, by omega, HV2, db9, hbel9⟩
    case measure => simp [intOf]; omega
   ·have e := HZ.out
    unfold plI at e
    rw [pl_first hlt HV.out (by rw [HX2.out]; simpa using HT.out)] at e
    replace e : (k : Int) = z := e
    subst e
    clear HV HX2 HT HZ
    go_wp2_with fail
    have hs : Calm.Stays (fun w' => w'.rangeAt g (o + k * 9) [Value.int .i64 y.p, .int .i64 y.s, .int .i64 y.i] ∧ w'.rangeAt w.heap.size 0 [Value.int .i64 m.p, .int .i64 m.s, .int .i64 m.i] ∧ Below w.heap.size w w') := fun wa wb h hb => ⟨range_later h.1 hb, range_later h.2.1 hb, below_on h.2.2 hb⟩
    refine Calm.region (by kernel_rfl) (by kernel_rfl) (fun w' => w'.rangeAt g (o + k * 9) [Value.int .i64 y.p, .int .i64 y.s, .int .i64 y.i] ∧ w'.rangeAt w.heap.size 0 [Value.int .i64 m.p, .int .i64 m.s, .int .i64 m.i] ∧ Below w.heap.size w w') ⟨d, db, hbel.drew⟩ ?_
    iterate 4 (all_goals refine Calm.sp ?_)
    all_goals first | refine Calm.lm zu (fun _ h => h.1) Tryz.underlying50 ?_ | refine Calm.lm zm (fun _ h => h.2.1) Tryz.underlying50 ?_
    all_goals first | refine Calm.lm zu (fun _ h => h.1) Tryz.underlying50 ?_ | refine Calm.lm zm (fun _ h => h.2.1) Tryz.underlying50 ?_
    all_goals refine Calm.sp ?_
    all_goals
     rintro w9 ⟨_, _, hbel9⟩
    go_wp2_with fail
    go_ret
    exact ⟨rfl, hbel9⟩
  ·have hlt' : ¬ (k : Int) < (l.length : Int) := by omega
   have e := HZ.out
   unfold plI at e
   rw [pl_none.2 (fun x hx => by
    obtain ⟨i, hi, rfl⟩ := List.getElem_of_mem hx
    exact HV.out i hi (by omega))] at e
   replace e : (-1 : Int) = z := e
   subst e
   clear HZ HV HR HL
   go_wp2_with fail
   go_ret
   exact ⟨rfl, hbel⟩
def en (l : List El) : Nat → Nat → Bool
 | 0, _ => false
 | f + 1, i => match l[i]? with
  | none => false
  | some e => decide (rE e = zK) || (match pl l (rE e) with
   | none => false
   | some j => en l f j)
theorem en_succ {l : List El} {f i : Nat} (hi : i < l.length) : en l (f + 1) i = (decide (rE l[i] = zK) || (match pl l (rE l[i]) with
   | none => false
   | some j => en l f j)) := by
 rw [en, List.getElem?_eq_getElem hi]
theorem en_rt {l : List El} : ∀ (f i : Nat), i < l.length → en l f i = true → rt (upL l) (i + 1)
 | 0, _, _, h => by simp [en] at h
 | f + 1, i, hi, h => by
  rw [en_succ hi] at h
  refine rt_up ?_
  rw [upL_succ hi]
  by_cases hz : rE l[i] = zK
  ·rw [if_pos hz]
   exact rt_zero
  ·rw [if_neg hz]
   rw [decide_eq_false hz, Bool.false_or] at h
   cases e : pl l (rE l[i]) with
   | none => exact rt_zero
   | some j =>
    rw [e] at h
    exact en_rt f j (pl_some e).1 h
theorem en_of {l : List El} (hok : okR l = true) : ∀ (j f i : Nat), i < l.length → j ≤ f → it (upL l) j (i + 1) = 0 → en l f i = true
 | 0, _, i, _, _, h => by simp [it] at h
 | j + 1, 0, _, _, h, _ => by omega
 | j + 1, f + 1, i, hi, hj, h => by
  rw [en_succ hi]
  by_cases hz : rE l[i] = zK
  ·simp [hz]
  ·rcases okR_iff.1 hok _ (List.getElem_mem hi) with h' | ⟨a, e⟩
   ·exact absurd h' hz
   ·rw [decide_eq_false hz, e, Bool.false_or]
    refine en_of hok j f a (pl_some e).1 (by omega) ?_
    rw [it, upL_succ hi, if_neg hz, e] at h
    exact h
theorem en_cr (l : List El) : cr l = true ↔ ∀ i, i < l.length → en l (l.length + 1) i = true := by
 constructor
 ·intro h i hi
  obtain ⟨h1, h2⟩ := Bool.and_eq_true_iff.1 h
  obtain ⟨j, hj, e⟩ := rt_soon (f := upL l) (fun k _ => upL_le l k) (show i + 1 ≤ l.length by omega) (noR_iff.1 h2 _ (by omega))
  exact en_of h1 j _ i hi (by omega) e
 ·intro h
  refine Bool.and_eq_true_iff.2 ⟨?_, ?_⟩
  ·rw [okR_iff]
   intro e he
   obtain ⟨i, hi, rfl⟩ := List.getElem_of_mem he
   have := h i hi
   rw [en_succ hi] at this
   by_cases hz : rE l[i] = zK
   ·exact Or.inl hz
   ·refine Or.inr ?_
    cases e : pl l (rE l[i]) with
    | none =>
     rw [decide_eq_false hz, e] at this
     cases this
    | some j => exact ⟨j, rfl⟩
  ·rw [noR_iff]
   intro k hk
   cases k with
   | zero => exact rt_zero
   | succ k => exact en_rt _ k (by omega) (h k (by omega))
theorem ends_any (v : Value) (l : List El) (i0 : Nat) (w : World) (h : EHas w v l) (hl : l.length ≤ 100) (hi0 : i0 < l.length) : Calls Tryz.prog 65 #[v, .int .i64 i0] w (Tells (.bool (en l (l.length + 1) i0)) w) := by
 obtain ⟨z, HZ⟩ := hid_ex (en l (l.length + 1) i0)
 rw [HZ.out]
 have HE : Hid (EHas w v l) := h
 obtain ⟨ys, hys, h, hy⟩ := h
 have hml := maxLen_lt h.1
 obtain ⟨p, c, rfl⟩ := h.slice
 have hyl : ys.length = l.length := by rw [← hys, List.length_map]
 have HR : Hid (SHas 9 w (.slice p l.length c) l.length (rows El.cells ys)) := h
 have HL : Hid (∀ k (h1 : k < ys.length) (h2 : k < l.length), ys[k].1 = l[k]) := fun k h1 h2 => by
  subst hys
  rw [List.getElem_map]
 clear h hy hys
 have R0 := rw_new w 50 #[.int .i64 0, .int .i64 0, .int .i64 0]
 have db0 : (w.alloc (.cells #[.int .i64 0, .int .i64 0, .int .i64 0] 50)).rangeAt w.heap.size 0 [Value.int .i64 0, .int .i64 0, .int .i64 0] := Rw.whole R0
 have hb0 := bel_alloc (Below.refl w.heap.size w) (.cells #[.int .i64 0, .int .i64 0, .int .i64 0] 50)
 have zm : (Tryz.prog.info? 50).map (·.size) = some [Value.int .i64 0, .int .i64 0, .int .i64 0].length := size50
 go_enter Tryz.func65, Tryz.ntmps65
 go_wp2_with fail
 go_loopw [1, 6] (fun v1 vi wr => ∃ i k : Nat, v1 = .int .i64 i ∧ vi = .int .i64 k ∧ i < l.length ∧ k ≤ l.length + 1 ∧ Hid (en l (l.length + 1 - k) i = z) ∧ wr.rangeAt w.heap.size 0 [Value.int .i64 0, .int .i64 0, .int .i64 0] ∧ Below w.heap.size w wr) (fun _ vi _ => l.length + 1 - (intOf vi).toNat)
 case atStart => exact ⟨i0, 0, rfl, rfl, hi0, by omega, HZ, db0, hb0⟩
 case round =>
  clear HZ hi0 i0 db0 hb0 R0
  obtain ⟨i, k, rfl, rfl, hi, hk, HZ, db, hbel⟩ := hrel
  by_cases hlt : k ≤ l.length
  ·have hlt' : (k : Int) ≤ (l.length : Int) := by omega
   have hi' : (i : Int) < (l.length : Int) := by omega
   have hi2 : (0 : Int) ≤ (i : Int) := by omega
   obtain ⟨g, o, rfl, hd0⟩ := HR.out.at (by omega)
   have d0 : wr.rangeAt g (o + i * 9) (El.cells (ys[i]'(by omega))) := range_sub (range_later hd0 hbel) (i * 9) fun j u hu => rows_at El.len ys i (by omega) j u hu
   obtain ⟨yy, HX⟩ := hid_ex (ys[i]'(by omega))
   have HX2 : Hid (l[i] = yy.1) := by
    show _ = _
    rw [← HL.out i (by omega) hi, HX.out]
   rw [HX.out] at d0
   obtain ⟨y, yv⟩ := yy
   replace HX2 : Hid (l[i] = y) := HX2
   have d : wr.rangeAt g (o + i * 9 + 4) [Value.int .i64 y.q, .int .i64 y.u, .int .i64 y.j] := range_sub (o := o + i * 9) (xs := El.cells (y, yv)) d0 4 (fun j a ha => by
    match j, ha with
    | 0, h => exact h
    | 1, h => exact h
    | 2, h => exact h
    | j + 3, h => simp at h)
   have zu : (Tryz.prog.info? 50).map (·.size) = some [Value.int .i64 y.q, .int .i64 y.u, .int .i64 y.j].length := size50
   clear hd0 HX d0 HR HL
   have E := fun w => eq_mark w y.q y.u y.j 0 0 0
   obtain ⟨t, HT⟩ := hid_ex (decide (rE y = zK))
   rw [show (decide (y.q = 0) && decide (y.u = 0) && decide (y.j = 0)) = t from (kz_eq _ _ _).symm.trans HT.out] at E
   obtain ⟨f, hf⟩ : ∃ f, l.length + 1 - k = f + 1 := ⟨l.length - k, by omega⟩
   have hf2 : l.length + 1 - (k + 1) = f := by omega
   have HZ2 : Hid ((t || (match pl l (rE y) with
    | none => false
    | some j => en l f j)) = z) := by
    show _ = _
    rw [← HZ.out, hf, en_succ hi, HX2.out, HT.out]
   clear HZ
   cases t
   ·have HK : Hid (rE y ≠ zK) := by
     show _ ≠ _
     simpa using HT.out
    have C1 : ∀ wa, Below w.heap.size w wa → Calls Tryz.prog 95 #[.slice (some ⟨g, o, none⟩) l.length c, MV y.q y.u y.j] wa (Tells (.int .i64 (plI l (rE y))) wa) := fun wa hb => place_any _ l (rM y) wa (HE.out.later hb)
    clear HX2 HT
    go_wp2_with fail
    have hs : Calm.Stays (fun w' => w'.rangeAt g (o + i * 9 + 4) [Value.int .i64 y.q, .int .i64 y.u, .int .i64 y.j] ∧ w'.rangeAt w.heap.size 0 [Value.int .i64 0, .int .i64 0, .int .i64 0] ∧ Below w.heap.size w w') := fun wa wb h hb => ⟨range_later h.1 hb, range_later h.2.1 hb, below_on h.2.2 hb⟩
    refine Calm.region (by kernel_rfl) (by kernel_rfl) (fun w' => w'.rangeAt g (o + i * 9 + 4) [Value.int .i64 y.q, .int .i64 y.u, .int .i64 y.j] ∧ w'.rangeAt w.heap.size 0 [Value.int .i64 0, .int .i64 0, .int .i64 0] ∧ Below w.heap.size w w') ⟨d, db, hbel.drew⟩ ?_
    iterate 4 (all_goals refine Calm.sp ?_)
    all_goals first | refine Calm.lm zu (fun _ h => h.1) Tryz.underlying50 ?_ | refine Calm.lm zm (fun _ h => h.2.1) Tryz.underlying50 ?_
    all_goals first | refine Calm.lm zu (fun _ h => h.1) Tryz.underlying50 ?_ | refine Calm.lm zm (fun _ h => h.2.1) Tryz.underlying50 ?_
    all_goals refine Calm.sp ?_
    all_goals
     rintro w9 ⟨d9, db9, hbel9⟩
    go_wp2_with (refine load_m 50 _ rfl rfl _ _ rfl d9 Tryz.underlying50 rfl zu ?_)
    refine (C1 _ hbel9).mono ?_
    rintro e w2 ⟨rfl, hb2⟩
    replace hbel9 := below_on hbel9 hb2
    replace db9 := range_later db9 hb2
    cases e : pl l (rE y) with
    | none =>
     have e2 := HZ2.out
     rw [e] at e2
     replace e2 : false = z := e2
     subst e2
     rw [show plI l (rE y) = -1 by unfold plI; rw [e]]
     clear HZ2 e HK C1
     go_wp2_with fail
     go_ret
     exact ⟨rfl, hbel9⟩
    | some j =>
     have e2 := HZ2.out
     rw [e] at e2
     replace e2 : en l f j = z := e2
     have hj := (pl_some e).1
     have HZ3 : Hid (en l (l.length + 1 - (k + 1)) j = z) := by
      show _ = _
      rw [hf2, e2]
     rw [show plI l (rE y) = (j : Int) by unfold plI; rw [e]]
     have hj0 : ¬ (j : Int) < 0 := by omega
     have wk : IntKind.i64.wrap ((k : Int) + 1) = (k : Int) + 1 := by rw [IntKind.wrap_i64]; omega
     clear HZ2 e HK C1 e2 hf hf2
     go_wp2_with fail
     go_roundw
     case rel => exact ⟨j, k + 1, rfl, by simp, hj, by omega, HZ3, db9, hbel9⟩
     case measure => simp [intOf]; omega
   ·have e := HZ2.out
    rw [Bool.true_or] at e
    subst e
    clear HZ2 HX2 HT HE
    go_wp2_with fail
    have hs : Calm.Stays (fun w' => w'.rangeAt g (o + i * 9 + 4) [Value.int .i64 y.q, .int .i64 y.u, .int .i64 y.j] ∧ w'.rangeAt w.heap.size 0 [Value.int .i64 0, .int .i64 0, .int .i64 0] ∧ Below w.heap.size w w') := fun wa wb h hb => ⟨range_later h.1 hb, range_later h.2.1 hb, below_on h.2.2 hb⟩
    refine Calm.region (by kernel_rfl) (by kernel_rfl) (fun w' => w'.rangeAt g (o + i * 9 + 4) [Value.int .i64 y.q, .int .i64 y.u, .int .i64 y.j] ∧ w'.rangeAt w.heap.size 0 [Value.int .i64 0, .int .i64 0, .int .i64 0] ∧ Below w.heap.size w w') ⟨d, db, hbel.drew⟩ ?_
    iterate 4 (all_goals refine Calm.sp ?_)
    all_goals first | refine Calm.lm zu (fun _ h => h.1) Tryz.underlying50 ?_ | refine Calm.lm zm (fun _ h => h.2.1) Tryz.underlying50 ?_
    all_goals first | refine Calm.lm zu (fun _ h => h.1) Tryz.underlying50 ?_ | refine Calm.lm zm (fun _ h => h.2.1) Tryz.underlying50 ?_
    all_goals refine Calm.sp ?_
    all_goals
     rintro w9 ⟨_, _, hbel9⟩
    go_wp2_with fail
    go_ret
    exact ⟨rfl, hbel9⟩
  ·have hlt' : ¬ (k : Int) ≤ (l.length : Int) := by omega
   have e := HZ.out
   rw [show l.length + 1 - k = 0 by omega] at e
   replace e : false = z := e
   subst e
   clear HZ HR HL HE
   go_wp2_with fail
   go_ret
   exact ⟨rfl, hbel⟩
end Go.Proofs.YtjbbmcommnhgeaaGreat
