import Derived.Test.YthekfmodafmlgaaP16
/- Fold of the document's answer. -/
namespace Go.Proofs.Ythekfmodafmlgaa
open Go.RowKit Go.Sort

set_option maxHeartbeats 8000000 in
set_option maxRecDepth 100000 in
theorem refFold_any (x : X) (va vw vm ve : Value) (v : List Int) (w : World) (hv : v.length = 13) (h : Four w x va vw vm ve) (hsz : Sm x) :
    Calls Try.prog 23 #[CV x.k x.b va vw vm ve, V v] w (Gives (fdX x v) w) := by
  obtain ⟨i0, hi, hz0, hz1, hz2⟩ := info_parts info41
  obtain ⟨z, HZ⟩ := hid_ex (fdX x v)
  rw [HZ.out]
  obtain ⟨pa, ca', pw, cw, pm, cm, pe, ce, rfl, rfl, rfl, rfl⟩ := h.slices
  have HF : Hid (Four w x (.slice pa x.am.length ca') (.slice pw x.wr.length cw) (.slice pm x.mb.length cm) (.slice pe x.el.length ce)) := h
  clear h
  obtain ⟨ys, hys, HS, HYS⟩ := HF.out.m
  have hyl : ys.length = x.mb.length := by rw [← hys, List.length_map]
  have HR : Hid (SHas 3 w (.slice pm x.mb.length cm) x.mb.length (rows Mb.cells ys)) := HS
  have HYY : Hid (∀ y ∈ ys, MHas w y.2 y.1.ms) := HYS
  have HL : Hid (∀ k (h1 : k < ys.length) (h2 : k < x.mb.length), ys[k].1 = x.mb[k]) := fun k h1 h2 => by
    have := congrArg (fun l => l[k]?) hys
    simp only [List.getElem?_map, List.getElem?_eq_getElem h1, List.getElem?_eq_getElem h2, Option.map_some, Option.some.injEq] at this
    exact this
  have HMI : Hid (∀ m ∈ x.mb, m.ms.length ≤ 100) := hsz.mi
  have hm100 := hsz.m
  clear hys HS HYS
  have R0 := (((rw_new w 27 (cvc x.k x.b (.slice pa x.am.length ca') (.slice pw x.wr.length cw) (.slice pm x.mb.length cm) (.slice pe x.el.length ce))).alloc (.cells (vals v).toArray 31)).alloc (.cells (cvc 0 0 (.slice none 0 0) (.slice none 0 0) (.slice none 0 0) (.slice none 0 0)) 27))
  have R1 : Rw (((w.alloc (.cells (cvc x.k x.b (.slice pa x.am.length ca') (.slice pw x.wr.length cw) (.slice pm x.mb.length cm) (.slice pe x.el.length ce)) 27)).alloc (.cells (vals v).toArray 31)).alloc (.cells (cvc 0 0 (.slice none 0 0) (.slice none 0 0) (.slice none 0 0) (.slice none 0 0)) 27)) (w.alloc (.cells (cvc x.k x.b (.slice pa x.am.length ca') (.slice pw x.wr.length cw) (.slice pm x.mb.length cm) (.slice pe x.el.length ce)) 27)).heap.size 31 (vals v).toArray := ((rw_new (w.alloc (.cells (cvc x.k x.b (.slice pa x.am.length ca') (.slice pw x.wr.length cw) (.slice pm x.mb.length cm) (.slice pe x.el.length ce)) 27)) 31 (vals v).toArray).alloc (.cells (cvc 0 0 (.slice none 0 0) (.slice none 0 0) (.slice none 0 0) (.slice none 0 0)) 27))
  have R2 := (rw_new ((w.alloc (.cells (cvc x.k x.b (.slice pa x.am.length ca') (.slice pw x.wr.length cw) (.slice pm x.mb.length cm) (.slice pe x.el.length ce)) 27)).alloc (.cells (vals v).toArray 31)) 27 (cvc 0 0 (.slice none 0 0) (.slice none 0 0) (.slice none 0 0) (.slice none 0 0)))
  have hbel := bel_alloc (bel_alloc (bel_alloc (Below.refl w.heap.size w) (.cells (cvc x.k x.b (.slice pa x.am.length ca') (.slice pw x.wr.length cw) (.slice pm x.mb.length cm) (.slice pe x.el.length ce)) 27)) (.cells (vals v).toArray 31)) (.cells (cvc 0 0 (.slice none 0 0) (.slice none 0 0) (.slice none 0 0) (.slice none 0 0)) 27)
  have hB : w.heap.size + 3 ≤ (((w.alloc (.cells (cvc x.k x.b (.slice pa x.am.length ca') (.slice pw x.wr.length cw) (.slice pm x.mb.length cm) (.slice pe x.el.length ce)) 27)).alloc (.cells (vals v).toArray 31)).alloc (.cells (cvc 0 0 (.slice none 0 0) (.slice none 0 0) (.slice none 0 0) (.slice none 0 0)) 27)).heap.size := by simp
  generalize hW : (((w.alloc (.cells (cvc x.k x.b (.slice pa x.am.length ca') (.slice pw x.wr.length cw) (.slice pm x.mb.length cm) (.slice pe x.el.length ce)) 27)).alloc (.cells (vals v).toArray 31)).alloc (.cells (cvc 0 0 (.slice none 0 0) (.slice none 0 0) (.slice none 0 0) (.slice none 0 0)) 27)) = w0 at R0 R1 R2 hbel hB
  simp only [World.size_alloc, Nat.add_assoc, Nat.reduceAdd] at R1 R2
  go_enter Try.func23, Try.ntmps23
  go_wp2_with (first | rw [hW] | refine load_r 27 _ rfl rfl _ rfl R0 Try.underlying27 rfl size27 ?_)
  clear hW
  refine (refCheck_any x _ _ _ _ w0 (HF.out.later hbel) hsz).mono ?_
  rintro e w1 ⟨rfl, hb1⟩
  replace R0 := R0.later hb1
  replace R1 := R1.later hb1
  replace R2 := R2.later hb1
  replace hbel := below_on hbel hb1
  replace hB := Nat.le_trans hB hb1.size
  clear hb1
  obtain ⟨y1, HY1⟩ := hid_ex (ck x)
  rw [HY1.out]
  cases y1
  · have e : x = z := by rw [← HZ.out]; unfold fdX; rw [HY1.out]; rfl
    subst e
    go_wp2_with (first | refine load_r 27 _ rfl rfl _ rfl R0 Try.underlying27 rfl size27 ?_ | refine store_r rfl 27 _ _ rfl _ (cvc x.k x.b (.slice pa x.am.length ca') (.slice pw x.wr.length cw) (.slice pm x.mb.length cm) (.slice pe x.el.length ce)) rfl rfl R2 size27 rfl (by simp [Value.oneCell']) ?_)
    refine bodyPost_ret (results_r rfl rfl (R2.row (cvc x.k x.b (.slice pa x.am.length ca') (.slice pw x.wr.length cw) (.slice pm x.mb.length cm) (.slice pe x.el.length ce))) rfl Try.underlying27 size27) rfl ?_
    replace hbel := below_setRow hbel (g := w.heap.size + 2) (by omega) (cvc x.k x.b (.slice pa x.am.length ca') (.slice pw x.wr.length cw) (.slice pm x.mb.length cm) (.slice pe x.el.length ce))
    exact ⟨_, _, _, _, rfl, HF.out.later hbel, hbel⟩
  · have HZ2 : Hid ({ x with mb := fdL (hsP v) x.mb } = z) := by
      show _ = _
      rw [← HZ.out]
      unfold fdX
      rw [HY1.out]
      rfl
    clear HZ
    go_wp2_with fail
    go_loopw [5, 6] (fun vn vi wr => ∃ k : Nat, vi = .int .i64 k ∧ k ≤ x.mb.length ∧ Out w (w.heap.size + 3) wr vn (fdL (hsP v) (x.mb.take k)) ∧ Rw wr w.heap.size 27 (cvc x.k x.b (.slice pa x.am.length ca') (.slice pw x.wr.length cw) (.slice pm x.mb.length cm) (.slice pe x.el.length ce)) ∧ Rw wr (w.heap.size + 1) 31 (vals v).toArray ∧ Rw wr (w.heap.size + 2) 27 (cvc 0 0 (.slice none 0 0) (.slice none 0 0) (.slice none 0 0) (.slice none 0 0)) ∧ Below w.heap.size w wr ∧ w.heap.size + 3 ≤ wr.heap.size) (fun _ vi _ => x.mb.length - (intOf vi).toNat)
    case atStart => exact ⟨0, rfl, by omega, Out.nil _ _ _, R0, R1, R2, hbel, hB⟩
    case round =>
      clear R0 R1 R2 hbel hB
      obtain ⟨k, rfl, hk, hout, R0, R1, R2, hbel, hB⟩ := hrel
      have hL100 : (fdL (hsP v) (x.mb.take k)).length ≤ 100 := by unfold fdL; rw [List.length_map, List.length_take]; omega
      obtain ⟨L, HLL⟩ := hid_ex (fdL (hsP v) (x.mb.take k))
      rw [HLL.out] at hout hL100
      obtain ⟨P, cc, rfl⟩ := hout.sl
      have c4 : wr.cell? ⟨w.heap.size, 4, none⟩ = some (.slice pm x.mb.length cm) := R0.cell 4
      by_cases hlt : k < x.mb.length
      · have hlt' : (k : Int) < (x.mb.length : Int) := by omega
        have hk0 : (0 : Int) ≤ (k : Int) := by omega
        obtain ⟨g, o, rfl, hd0⟩ := HR.out.at (by omega)
        have d := Mb.elem (range_later hd0 hbel) k (by omega)
        have hyk := HYY.out ys[k] (List.getElem_mem _)
        obtain ⟨yy, HX⟩ := hid_ex (ys[k]'(by omega))
        have HX2 : Hid (x.mb[k] = yy.1) := by
          show _ = _
          rw [← HL.out k (by omega) hlt, HX.out]
        rw [HX.out] at d hyk
        obtain ⟨y, yv⟩ := yy
        replace hyk : MHas w yv y.ms := hyk
        have HMI2 : y.ms.length ≤ 100 := by
          have := HMI.out x.mb[k] (List.getElem_mem _)
          rw [HX2.out] at this
          exact this
        obtain ⟨py, cy, rfl⟩ := hyk.slice
        replace d : wr.rangeAt g (o + k * 3) [Value.string y.x, .bool y.b, .slice py y.ms.length cy] := d
        replace HX2 : Hid (x.mb[k] = y) := HX2
        have HTK : Hid (x.mb.take (k + 1) = x.mb.take k ++ [y]) := by
          show _ = _
          rw [List.take_succ_eq_append_getElem hlt, HX2.out]
        clear hd0 HX
        have zb : (Try.prog.info? 41).map (·.size) = some [Value.string y.x, .bool y.b, .slice py y.ms.length cy].length := size41
        have RB := rw_new wr 41 #[.string y.x, .bool y.b, .slice py y.ms.length cy]
        have hbA := bel_alloc (Below.refl wr.heap.size wr) (.cells #[.string y.x, .bool y.b, .slice py y.ms.length cy] 41)
        have hlo := hout.lt
        have hnb : ∀ q', (Value.slice P L.length cc).ownBlock = some q' → q' ≠ wr.heap.size := fun q' hq => by have := (hlo q' hq).2; omega
        replace R0 := R0.later hbA
        replace R1 := R1.later hbA
        replace R2 := R2.later hbA
        replace hout := hout.later hbA
        replace hbel := below_on hbel hbA
        have hBx : w.heap.size + 3 ≤ wr.heap.size := hB
        replace hB := Nat.le_trans hB hbA.size
        generalize hW : wr.alloc (.cells #[.string y.x, .bool y.b, .slice py y.ms.length cy] 41) = w1 at RB R0 R1 R2 hout hbel hB
        have c0 : w1.cell? ⟨wr.heap.size, 0, none⟩ = some (.string y.x) := RB.cell 0
        clear hlo hbA
        have c2 : w1.cell? ⟨wr.heap.size, 2, none⟩ = some (.slice py y.ms.length cy) := RB.cell 2
        have A1 : At w1 (w.heap.size + 1) v := ⟨hv, R1⟩
        have CL := folded_any (.slice py y.ms.length cy) y.ms v w1 hv (hyk.later hbel) HMI2
        have HFDM : Hid (fdM (hsP v) y = ⟨y.x, y.b || decide ((y.ms.filter (fun m => !hs v m.p m.s)).length < y.ms.length), y.ms.filter (fun m => !hs v m.p m.s)⟩) := rfl
        have HN0 : Hid (fdL (hsP v) (x.mb.take (k + 1)) = L ++ [fdM (hsP v) y]) := by
          show _ = _
          rw [HTK.out]
          unfold fdL
          rw [List.map_append, ← HLL.out]
          rfl
        obtain ⟨l5, HL5⟩ := hid_ex (y.ms.filter (fun m => !hs v m.p m.s))
        rw [HL5.out] at CL HFDM
        obtain ⟨zd, HZD⟩ := hid_ex (decide (l5.length < y.ms.length))
        unfold FdPost at CL
        rw [HZD.out] at CL HFDM
        clear HL5 HZD
        go_wp2_with (first | rw [hW] | refine load_m 41 _ rfl rfl _ _ rfl d Try.underlying41 rfl zb ?_ | refine load_at rfl _ rfl _ rfl A1 ?_)
        clear hW d zb c0 c4 HTK c2 A1
        refine CL.mono ?_
        clear CL
        rintro e w3 ⟨u3, rfl, ho3, hb3⟩
        obtain ⟨p3, c3_, rfl⟩ := own_sl ho3
        replace RB := RB.later hb3
        replace R0 := R0.later hb3
        replace R1 := R1.later hb3
        replace R2 := R2.later hb3
        replace hout := hout.later hb3
        replace hbel := below_on hbel hb3
        have hOK3 : OKm w w3 (.slice p3 l5.length c3_) l5 := .inr (own_mono ho3 (Nat.le_trans (by omega) hB))
        replace hB := Nat.le_trans hB hb3.size
        have g2 : w3.cell? ⟨wr.heap.size, 2, none⟩ = some (.slice py y.ms.length cy) := RB.cell 2
        have f2 : w3.frozen? ⟨wr.heap.size, 2, none⟩ = false := RB.frozen 2
        have RB4 : Rw (w3.setCell ⟨wr.heap.size, 2, none⟩ (.slice p3 l5.length c3_)) wr.heap.size 41 #[.string y.x, .bool y.b, .slice p3 l5.length c3_] := RB.set 2 _
        have hk3 := Kp.cell w3 wr.heap.size 2 (.slice p3 l5.length c3_)
        have hout4 := hout.box RB hk3 hnb
        have hOK4 := hOK3.box RB hk3
        have R04 := R0.setOther (q := wr.heap.size) (by omega) 2 (.slice p3 l5.length c3_)
        have R14 := R1.setOther (q := wr.heap.size) (by omega) 2 (.slice p3 l5.length c3_)
        have R24 := R2.setOther (q := wr.heap.size) (by omega) 2 (.slice p3 l5.length c3_)
        have hbel4 := hbel.setCell (p := ⟨wr.heap.size, 2, none⟩) (by show w.heap.size ≤ wr.heap.size; omega) (.slice p3 l5.length c3_)
        have hB4 : w.heap.size + 3 ≤ (w3.setCell ⟨wr.heap.size, 2, none⟩ (.slice p3 l5.length c3_)).heap.size := by rw [World.size_setCell]; exact hB
        generalize hW3 : w3.setCell ⟨wr.heap.size, 2, none⟩ (.slice p3 l5.length c3_) = w4 at RB4 hk3 hout4 hOK4 R04 R14 R24 hbel4 hB4
        clear ho3 hb3 RB hout R0 R1 R2 hbel hB hOK3 hk3
        obtain ⟨yb, HYB⟩ := hid_ex y.b
        rw [HYB.out] at RB4
        obtain ⟨bz, HBZ⟩ := hid_ex (y.b || zd)
        have HN : Hid (fdL (hsP v) (x.mb.take (k + 1)) = L ++ [⟨y.x, bz, l5⟩]) := by
          show _ = _
          rw [HN0.out, HFDM.out, HBZ.out]
        have HBZ2 : Hid ((yb || zd) = bz) := by show _ = _; rw [← HYB.out]; exact HBZ.out
        clear HN0 HFDM HBZ HYB
        cases yb
        · have hbz : zd = bz := by simpa using HBZ2.out
          subst hbz
          clear HBZ2
          have g1 : w4.cell? ⟨wr.heap.size, 1, none⟩ = some (.bool false) := RB4.cell 1
          have f1 : w4.frozen? ⟨wr.heap.size, 1, none⟩ = false := RB4.frozen 1
          have RB : Rw (w4.setCell ⟨wr.heap.size, 1, none⟩ (.bool zd)) wr.heap.size 41 #[.string y.x, .bool zd, .slice p3 l5.length c3_] := RB4.set 1 _
          have hk4 := Kp.cell w4 wr.heap.size 1 (.bool zd)
          have hout := hout4.box RB4 hk4 hnb
          have hOK := hOK4.box RB4 hk4
          have R0 := R04.setOther (q := wr.heap.size) (by omega) 1 (.bool zd)
          have R1 := R14.setOther (q := wr.heap.size) (by omega) 1 (.bool zd)
          have R2 := R24.setOther (q := wr.heap.size) (by omega) 1 (.bool zd)
          have hbel := hbel4.setCell (p := ⟨wr.heap.size, 1, none⟩) (by show w.heap.size ≤ wr.heap.size; omega) (.bool zd)
          have hB : w.heap.size + 3 ≤ (w4.setCell ⟨wr.heap.size, 1, none⟩ (.bool zd)).heap.size := by rw [World.size_setCell]; exact hB4
          generalize hW5 : w4.setCell ⟨wr.heap.size, 1, none⟩ (.bool zd) = w5 at RB hk4 hout hOK R0 R1 R2 hbel hB
          clear RB4 hout4 R04 R14 R24 hbel4 hB4 hOK4 hk4
          obtain ⟨xs, hox, hsn⟩ := hout.owns
          have HSN : Hid (∀ (w2 : World) (v2 : Value) (z : Mb × Value), w5.grownBy w2 (Value.slice P L.length cc).ownBlock → w2.ownsRow (w.heap.size + 3) 41 3 v2 (L.length + 1) (xs ++ Mb.cells z) → OKm w w5 z.2 z.1.ms → Out w (w.heap.size + 3) w2 v2 (L ++ [z.1])) := hsn
          have hBg : ∀ q', (Value.slice P L.length cc).ownBlock = some q' → w.heap.size + 3 ≤ q' := fun q' hq => (World.ownsRow.lt hox q' hq).1
          have hc1 : ∀ q u, ([Value.string y.x, .bool zd, .slice p3 l5.length c3_] : List Value)[q]? = some u → (w5.alloc (.cells #[Value.string y.x, .bool zd, .slice p3 l5.length c3_] 41)).cell? ((⟨w5.heap.size, 0, none⟩ : Addr).add q) = some u := fun q u hq => (cells_new w5 [Value.string y.x, .bool zd, .slice p3 l5.length c3_] 41 q).trans hq
          have hc2 : ∀ u ∈ ([Value.string y.x, .bool zd, .slice p3 l5.length c3_] : List Value), u.oneCell' = true := by simp [Value.oneCell']
          have hc3 : L.length + 1 ≤ maxLen := by unfold maxLen; omega
          have hc4 : (L.length + 1) * 48 ≤ 140737488355328 := by omega
          have hc5 : w.heap.size + 3 ≤ (w5.alloc (.cells #[Value.string y.x, .bool zd, .slice p3 l5.length c3_] 41)).heap.size := by simp; omega
          clear hsn
          go_wp2_with (first
            | rw [hW3]
            | rw [hW5]
            | refine load_r 41 _ rfl rfl _ rfl RB Try.underlying41 rfl size41 ?_
            | (at_builtin; refine wpList_append_own _ rfl _ _ 24 rfl (w.heap.size + 3) 41 i0 (.agg #[.string noS, .bool false, .slice none 0 0]) 3 48 Try.underlying24 hi hz0 hz1 hz2 rfl (by decide) _ _ _ rfl (hox.alloc _) ⟨w5.heap.size, 0, none⟩ 1 1 [Value.string y.x, .bool zd, .slice p3 l5.length c3_] rfl rfl hc1 hc2 hc3 hc4 hc5 ?_))
          intro v2 w9 hown9 hg9 _
          clear hW3 hW5 g1 f1 g2 f2
          have hbA := bel_alloc (Below.refl w5.heap.size w5) (.cells #[Value.string y.x, .bool zd, .slice p3 l5.length c3_] 41)
          have hgk : w5.grownBy w9 (Value.slice P L.length cc).ownBlock := ⟨hg9.os, hg9.tape, hg9.output, Nat.le_trans hbA.size hg9.size, fun k' h1 h2 => (hg9.block k' (Nat.lt_of_lt_of_le h1 hbA.size) h2).trans (hbA.block k' h1)⟩
          have hout9 : Out w (w.heap.size + 3) w9 v2 (L ++ [⟨y.x, zd, l5⟩]) := HSN.out w9 v2 (⟨y.x, zd, l5⟩, .slice p3 l5.length c3_) hgk hown9 hOK
          have hb9 := hbel.grown hgk hbel.size (fun q' hq => by have := hBg q' hq; omega)
          have R09 := R0.grown hgk (fun q' hq => by have := hBg q' hq; omega)
          have R19 := R1.grown hgk (fun q' hq => by have := hBg q' hq; omega)
          have R29 := R2.grown hgk (fun q' hq => by have := hBg q' hq; omega)
          have hB9 : w.heap.size + 3 ≤ w9.heap.size := Nat.le_trans hB hgk.size
          clear hg9 hgk hbA hown9 hox HSN hc1 hc2 hc3 hc4 hc5
          go_wp2_with fail
          go_roundw
          case rel => exact ⟨k + 1, by simp, by omega, by rw [HN.out]; exact hout9, R09, R19, R29, hb9, hB9⟩
          case measure => simp [intOf]; omega
        · have hbz : bz = true := by have := HBZ2.out; simpa using this.symm
          subst hbz
          clear HBZ2
          have g1 : w4.cell? ⟨wr.heap.size, 1, none⟩ = some (.bool true) := RB4.cell 1
          have f1 : w4.frozen? ⟨wr.heap.size, 1, none⟩ = false := RB4.frozen 1
          have RB : Rw (w4.setCell ⟨wr.heap.size, 1, none⟩ (.bool true)) wr.heap.size 41 #[.string y.x, .bool true, .slice p3 l5.length c3_] := RB4.set 1 _
          have hk4 := Kp.cell w4 wr.heap.size 1 (.bool true)
          have hout := hout4.box RB4 hk4 hnb
          have hOK := hOK4.box RB4 hk4
          have R0 := R04.setOther (q := wr.heap.size) (by omega) 1 (.bool true)
          have R1 := R14.setOther (q := wr.heap.size) (by omega) 1 (.bool true)
          have R2 := R24.setOther (q := wr.heap.size) (by omega) 1 (.bool true)
          have hbel := hbel4.setCell (p := ⟨wr.heap.size, 1, none⟩) (by show w.heap.size ≤ wr.heap.size; omega) (.bool true)
          have hB : w.heap.size + 3 ≤ (w4.setCell ⟨wr.heap.size, 1, none⟩ (.bool true)).heap.size := by rw [World.size_setCell]; exact hB4
          generalize hW5 : w4.setCell ⟨wr.heap.size, 1, none⟩ (.bool true) = w5 at RB hk4 hout hOK R0 R1 R2 hbel hB
          clear RB4 hout4 R04 R14 R24 hbel4 hB4 hOK4 hk4
          obtain ⟨xs, hox, hsn⟩ := hout.owns
          have HSN : Hid (∀ (w2 : World) (v2 : Value) (z : Mb × Value), w5.grownBy w2 (Value.slice P L.length cc).ownBlock → w2.ownsRow (w.heap.size + 3) 41 3 v2 (L.length + 1) (xs ++ Mb.cells z) → OKm w w5 z.2 z.1.ms → Out w (w.heap.size + 3) w2 v2 (L ++ [z.1])) := hsn
          have hBg : ∀ q', (Value.slice P L.length cc).ownBlock = some q' → w.heap.size + 3 ≤ q' := fun q' hq => (World.ownsRow.lt hox q' hq).1
          have hc1 : ∀ q u, ([Value.string y.x, .bool true, .slice p3 l5.length c3_] : List Value)[q]? = some u → (w5.alloc (.cells #[Value.string y.x, .bool true, .slice p3 l5.length c3_] 41)).cell? ((⟨w5.heap.size, 0, none⟩ : Addr).add q) = some u := fun q u hq => (cells_new w5 [Value.string y.x, .bool true, .slice p3 l5.length c3_] 41 q).trans hq
          have hc2 : ∀ u ∈ ([Value.string y.x, .bool true, .slice p3 l5.length c3_] : List Value), u.oneCell' = true := by simp [Value.oneCell']
          have hc3 : L.length + 1 ≤ maxLen := by unfold maxLen; omega
          have hc4 : (L.length + 1) * 48 ≤ 140737488355328 := by omega
          have hc5 : w.heap.size + 3 ≤ (w5.alloc (.cells #[Value.string y.x, .bool true, .slice p3 l5.length c3_] 41)).heap.size := by simp; omega
          clear hsn
          go_wp2_with (first
            | rw [hW3]
            | rw [hW5]
            | refine load_r 41 _ rfl rfl _ rfl RB Try.underlying41 rfl size41 ?_
            | (at_builtin; refine wpList_append_own _ rfl _ _ 24 rfl (w.heap.size + 3) 41 i0 (.agg #[.string noS, .bool false, .slice none 0 0]) 3 48 Try.underlying24 hi hz0 hz1 hz2 rfl (by decide) _ _ _ rfl (hox.alloc _) ⟨w5.heap.size, 0, none⟩ 1 1 [Value.string y.x, .bool true, .slice p3 l5.length c3_] rfl rfl hc1 hc2 hc3 hc4 hc5 ?_))
          intro v2 w9 hown9 hg9 _
          clear hW3 hW5 g1 f1 g2 f2
          have hbA := bel_alloc (Below.refl w5.heap.size w5) (.cells #[Value.string y.x, .bool true, .slice p3 l5.length c3_] 41)
          have hgk : w5.grownBy w9 (Value.slice P L.length cc).ownBlock := ⟨hg9.os, hg9.tape, hg9.output, Nat.le_trans hbA.size hg9.size, fun k' h1 h2 => (hg9.block k' (Nat.lt_of_lt_of_le h1 hbA.size) h2).trans (hbA.block k' h1)⟩
          have hout9 : Out w (w.heap.size + 3) w9 v2 (L ++ [⟨y.x, true, l5⟩]) := HSN.out w9 v2 (⟨y.x, true, l5⟩, .slice p3 l5.length c3_) hgk hown9 hOK
          have hb9 := hbel.grown hgk hbel.size (fun q' hq => by have := hBg q' hq; omega)
          have R09 := R0.grown hgk (fun q' hq => by have := hBg q' hq; omega)
          have R19 := R1.grown hgk (fun q' hq => by have := hBg q' hq; omega)
          have R29 := R2.grown hgk (fun q' hq => by have := hBg q' hq; omega)
          have hB9 : w.heap.size + 3 ≤ w9.heap.size := Nat.le_trans hB hgk.size
          clear hg9 hgk hbA hown9 hox HSN hc1 hc2 hc3 hc4 hc5
          go_wp2_with fail
          go_roundw
          case rel => exact ⟨k + 1, by simp, by omega, by rw [HN.out]; exact hout9, R09, R19, R29, hb9, hB9⟩
          case measure => simp [intOf]; omega
      · have hlt' : ¬ (k : Int) < (x.mb.length : Int) := by omega
        obtain rfl : k = x.mb.length := by omega
        rw [List.take_length] at HLL
        have HGV : Hid (∀ (w' : World) (vm' : Value), Below w.heap.size w w' → BHas w' vm' L → Gives { x with mb := L } w (.returned (CV x.k x.b (.slice pa x.am.length ca') (.slice pw x.wr.length cw) vm' (.slice pe x.el.length ce))) w') := fun w' vm' hb hm => ⟨_, _, _, _, rfl, four_with HF.out hb hm, hb⟩
        have g4 : wr.cell? ⟨w.heap.size, 4, none⟩ = some (.slice pm x.mb.length cm) := R0.cell 4
        have f4 : wr.frozen? ⟨w.heap.size, 4, none⟩ = false := R0.frozen 4
        have hk1 := Kp.cell wr w.heap.size 4 (.slice P L.length cc)
        have hout2 := hout.other R0 (by decide) (by decide) hk1
        have R02 : Rw (wr.setCell ⟨w.heap.size, 4, none⟩ (.slice P L.length cc)) w.heap.size 27 (cvc x.k x.b (.slice pa x.am.length ca') (.slice pw x.wr.length cw) (.slice P L.length cc) (.slice pe x.el.length ce)) := R0.set 4 _
        have R22 := R2.setOther (q := w.heap.size) (by omega) 4 (.slice P L.length cc)
        have hbel2 := hbel.setCell (p := ⟨w.heap.size, 4, none⟩) (Nat.le_refl _) (.slice P L.length cc)
        generalize hW : wr.setCell ⟨w.heap.size, 4, none⟩ (.slice P L.length cc) = w3 at hk1 hout2 R02 R22 hbel2
        go_wp2_with (first | rw [hW] | refine load_r 27 _ rfl rfl _ rfl R02 Try.underlying27 rfl size27 ?_ | refine store_r rfl 27 _ _ rfl _ (cvc x.k x.b (.slice pa x.am.length ca') (.slice pw x.wr.length cw) (.slice P L.length cc) (.slice pe x.el.length ce)) rfl rfl R22 size27 rfl (by simp [Value.oneCell']) ?_)
        refine bodyPost_ret (results_r rfl rfl (R22.row (cvc x.k x.b (.slice pa x.am.length ca') (.slice pw x.wr.length cw) (.slice P L.length cc) (.slice pe x.el.length ce))) rfl Try.underlying27 size27) rfl ?_
        have hb4 := below_setRow hbel2 (g := w.heap.size + 2) (by omega) (cvc x.k x.b (.slice pa x.am.length ca') (.slice pw x.wr.length cw) (.slice P L.length cc) (.slice pe x.el.length ce))
        have hout3 := hout2.other R22 (by decide) (by decide) (Kp.row1 w3 (w.heap.size + 2) (cvc x.k x.b (.slice pa x.am.length ca') (.slice pw x.wr.length cw) (.slice P L.length cc) (.slice pe x.el.length ce)))
        have e : z = { x with mb := L } := by rw [← HZ2.out, HLL.out]
        rw [e]
        exact HGV.out _ _ hb4 (hout3.bhas hb4)
end Go.Proofs.Ythekfmodafmlgaa
