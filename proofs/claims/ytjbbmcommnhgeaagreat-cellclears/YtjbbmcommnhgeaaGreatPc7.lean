import Derived.Test.YtjbbmcommnhgeaaGreatPc4
set_option maxRecDepth 100000
set_option maxHeartbeats 8000000
namespace Go.Proofs.YtjbbmcommnhgeaaGreat
open Go.RowKit
theorem copied_any (x : X) (va vw vm ve : Value) (w : World) (h : Four w x va vw vm ve) (hs : Sm x) : Calls Tryz.prog 35 #[CV x.k x.b va vw vm ve] w (CpPost x w) := by
 obtain ⟨pa, ca', pw, cw, pm, cm, pe, ce, rfl, rfl, rfl, rfl⟩ := h.slices
 have HF : Hid (Four w x (.slice pa x.am.length ca') (.slice pw x.wr.length cw) (.slice pm x.mb.length cm) (.slice pe x.el.length ce)) := h
 clear h
 obtain ⟨R0, R1, hbel⟩ := two_rows w (cvc x.k x.b (.slice pa x.am.length ca') (.slice pw x.wr.length cw) (.slice pm x.mb.length cm) (.slice pe x.el.length ce)) 27 z4 27
 have hB : w.heap.size + 2 ≤ ((w.alloc (.cells (cvc x.k x.b (.slice pa x.am.length ca') (.slice pw x.wr.length cw) (.slice pm x.mb.length cm) (.slice pe x.el.length ce)) 27)).alloc (.cells z4 27)).heap.size := by simp
 generalize hW : (w.alloc (.cells (cvc x.k x.b (.slice pa x.am.length ca') (.slice pw x.wr.length cw) (.slice pm x.mb.length cm) (.slice pe x.el.length ce)) 27)).alloc (.cells z4 27) = w0 at R0 R1 hbel hB
 have c2 : w0.cell? ⟨w.heap.size, 2, none⟩ = some (.slice pa x.am.length ca') := R0.cell 2
 go_enter Tryz.func35, Tryz.ntmps35
 go_wp2_with (first | rw [hW])
 clear hW c2
 refine (clone71_any _ _ _ _ (HF.out.a.later hbel) hs.a (rows_all A.one _)).mono ?_
 rintro e w1 ⟨u_, rfl, hoa, hb1⟩
 obtain ⟨qa, da, rfl⟩ := own_sl hoa
 replace hoa := own_mono hoa hB
 replace R0 := R0.later hb1
 replace R1 := R1.later hb1
 replace hbel := below_on hbel hb1
 replace hB := Nat.le_trans hB hb1.size
 clear hb1
 have c2 : w1.cell? ⟨w.heap.size, 2, none⟩ = some (.slice pa x.am.length ca') := R0.cell 2
 have f2 : w1.frozen? ⟨w.heap.size, 2, none⟩ = false := R0.frozen 2
 replace R0 : Rw (w1.setCell ⟨w.heap.size, 2, none⟩ (.slice qa x.am.length da)) w.heap.size 27 (cvc x.k x.b (.slice qa x.am.length da) (.slice pw x.wr.length cw) (.slice pm x.mb.length cm) (.slice pe x.el.length ce)) := R0.set 2 _
 replace R1 := R1.setOther (q := w.heap.size) (by omega) 2 (.slice qa x.am.length da)
 replace hbel := hbel.setCell (p := ⟨w.heap.size, 2, none⟩) (Nat.le_refl _) (.slice qa x.am.length da)
 replace hB : w.heap.size + 2 ≤ (w1.setCell ⟨w.heap.size, 2, none⟩ (.slice qa x.am.length da)).heap.size := by rw [World.size_setCell]; exact hB
 replace hoa := own_over hoa (b := w.heap.size) (fun k hk => by have := (World.ownsRow.lt hoa k hk).1; omega) 2 (.slice qa x.am.length da)
 generalize hW : w1.setCell ⟨w.heap.size, 2, none⟩ (.slice qa x.am.length da) = v1 at R0 R1 hbel hB hoa
 have c3 : v1.cell? ⟨w.heap.size, 3, none⟩ = some (.slice pw x.wr.length cw) := R0.cell 3
 go_wp2_with (first | rw [hW])
 clear hW c2 f2 c3
 refine (clone64_any _ _ _ _ (HF.out.t.later hbel) hs.t (rows_all Wt.one _)).mono ?_
 rintro e w2 ⟨u_, rfl, hot, hb1⟩
 obtain ⟨qt, dt, rfl⟩ := own_sl hot
 replace hot := own_mono hot hB
 replace hoa := own_later hoa hb1
 replace R0 := R0.later hb1
 replace R1 := R1.later hb1
 replace hbel := below_on hbel hb1
 replace hB := Nat.le_trans hB hb1.size
 clear hb1
 have c2 : w2.cell? ⟨w.heap.size, 3, none⟩ = some (.slice pw x.wr.length cw) := R0.cell 3
 have f2 : w2.frozen? ⟨w.heap.size, 3, none⟩ = false := R0.frozen 3
 replace R0 : Rw (w2.setCell ⟨w.heap.size, 3, none⟩ (.slice qt x.wr.length dt)) w.heap.size 27 (cvc x.k x.b (.slice qa x.am.length da) (.slice qt x.wr.length dt) (.slice pm x.mb.length cm) (.slice pe x.el.length ce)) := R0.set 3 _
 replace R1 := R1.setOther (q := w.heap.size) (by omega) 3 (.slice qt x.wr.length dt)
 replace hbel := hbel.setCell (p := ⟨w.heap.size, 3, none⟩) (Nat.le_refl _) (.slice qt x.wr.length dt)
 replace hB : w.heap.size + 2 ≤ (w2.setCell ⟨w.heap.size, 3, none⟩ (.slice qt x.wr.length dt)).heap.size := by rw [World.size_setCell]; exact hB
 replace hoa := own_over hoa (b := w.heap.size) (fun k hk => by have := (World.ownsRow.lt hoa k hk).1; omega) 3 (.slice qt x.wr.length dt)
 replace hot := own_over hot (b := w.heap.size) (fun k hk => by have := (World.ownsRow.lt hot k hk).1; omega) 3 (.slice qt x.wr.length dt)
 generalize hW : w2.setCell ⟨w.heap.size, 3, none⟩ (.slice qt x.wr.length dt) = v2 at R0 R1 hbel hB hoa hot
 have c3 : v2.cell? ⟨w.heap.size, 4, none⟩ = some (.slice pm x.mb.length cm) := R0.cell 4
 go_wp2_with (first | rw [hW])
 clear hW c2 f2 c3
 obtain ⟨ys, hys, hy1, hy2⟩ := HF.out.m.later hbel
 refine (clone67_any _ _ _ _ hy1 hs.m (Mb.one hy2)).mono ?_
 rintro e w3 ⟨u_, rfl, hom, hb1⟩
 obtain ⟨qm, dm, rfl⟩ := own_sl hom
 replace hom := own_mono hom hB
 replace hoa := own_later hoa hb1
 replace hot := own_later hot hb1
 replace R0 := R0.later hb1
 replace R1 := R1.later hb1
 replace hbel := below_on hbel hb1
 replace hy2 : ∀ y ∈ ys, MHas w3 y.2 y.1.ms := fun y hy => (hy2 y hy).later hb1
 replace hB := Nat.le_trans hB hb1.size
 clear hb1
 have c2 : w3.cell? ⟨w.heap.size, 4, none⟩ = some (.slice pm x.mb.length cm) := R0.cell 4
 have f2 : w3.frozen? ⟨w.heap.size, 4, none⟩ = false := R0.frozen 4
 replace R0 : Rw (w3.setCell ⟨w.heap.size, 4, none⟩ (.slice qm x.mb.length dm)) w.heap.size 27 (cvc x.k x.b (.slice qa x.am.length da) (.slice qt x.wr.length dt) (.slice qm x.mb.length dm) (.slice pe x.el.length ce)) := R0.set 4 _
 replace hy2 : ∀ y ∈ ys, MHas (w3.setCell ⟨w.heap.size, 4, none⟩ (.slice qm x.mb.length dm)) y.2 y.1.ms := fun y hy => (hy2 y hy).over (M.flat _) c2 _
 replace R1 := R1.setOther (q := w.heap.size) (by omega) 4 (.slice qm x.mb.length dm)
 replace hbel := hbel.setCell (p := ⟨w.heap.size, 4, none⟩) (Nat.le_refl _) (.slice qm x.mb.length dm)
 replace hB : w.heap.size + 2 ≤ (w3.setCell ⟨w.heap.size, 4, none⟩ (.slice qm x.mb.length dm)).heap.size := by rw [World.size_setCell]; exact hB
 replace hoa := own_over hoa (b := w.heap.size) (fun k hk => by have := (World.ownsRow.lt hoa k hk).1; omega) 4 (.slice qm x.mb.length dm)
 replace hot := own_over hot (b := w.heap.size) (fun k hk => by have := (World.ownsRow.lt hot k hk).1; omega) 4 (.slice qm x.mb.length dm)
 replace hom := own_over hom (b := w.heap.size) (fun k hk => by have := (World.ownsRow.lt hom k hk).1; omega) 4 (.slice qm x.mb.length dm)
 generalize hW : w3.setCell ⟨w.heap.size, 4, none⟩ (.slice qm x.mb.length dm) = v3 at R0 R1 hbel hB hoa hot hom hy2
 have c3 : v3.cell? ⟨w.heap.size, 4, none⟩ = some (.slice qm x.mb.length dm) := R0.cell 4
 go_wp2_with (first | rw [hW])
 clear hW c2 f2 c3
 go_loopw [22] (fun vi wr => ∃ k : Nat, vi = .int .i64 k ∧ k ≤ x.mb.length ∧ Rw wr w.heap.size 27 (cvc x.k x.b (.slice qa x.am.length da) (.slice qt x.wr.length dt) (.slice qm x.mb.length dm) (.slice pe x.el.length ce)) ∧ Rw wr (w.heap.size + 1) 27 z4 ∧ wr.ownsRow (w.heap.size + 2) 71 4 (.slice qa x.am.length da) x.am.length (rows A.cells x.am) ∧ wr.ownsRow (w.heap.size + 2) 64 5 (.slice qt x.wr.length dt) x.wr.length (rows Wt.cells x.wr) ∧ (∃ zs : List (Mb × Value), zs.map (·.1) = x.mb ∧ wr.ownsRow (w.heap.size + 2) 67 3 (.slice qm x.mb.length dm) x.mb.length (rows Mb.cells zs) ∧ (∀ y ∈ zs, MHas wr y.2 y.1.ms) ∧ OwnB (w.heap.size + 2) wr (zs.take k)) ∧ Below w.heap.size w wr ∧ w.heap.size + 2 ≤ wr.heap.size) (fun vi _ => x.mb.length - (intOf vi).toNat)
 case atStart => exact ⟨0, rfl, by omega, R0, R1, hoa, hot, ⟨ys, hys, hom, hy2, OwnB.nil _ _⟩, hbel, hB⟩
 case round =>
  clear R0 R1 hoa hot hom hy2 hy1 hys ys hbel hB
  obtain ⟨k, rfl, hk, R0, R1, hoa, hot, ⟨zs, hzs, hom, hy2, hOB⟩, hbel, hB⟩ := hrel
  have hm100 := hs.m
  have hzl : zs.length = x.mb.length := by rw [← hzs, List.length_map]
  by_cases hlt : k < x.mb.length
  ·have hlt' : (k : Int) < (x.mb.length : Int) := by omega
   obtain ⟨g, rfl, hg⟩ := own_some hom (by omega)
   have hkz : k < zs.length := by omega
   have hin := hs.mi
   rw [← hzs] at hin
   have hyk := hy2 zs[k] (List.getElem_mem _)
   have hik : zs[k].1.ms.length ≤ 100 := hin zs[k].1 (List.mem_map_of_mem (List.getElem_mem _))
   clear hin
   have d : wr.rangeAt g (k * 3) (Mb.cells zs[k]) := fun j u hu => by
    rw [hom.cellAt (k * 3 + j) (by have := (List.getElem?_eq_some_iff.1 hu).1; simp at this; omega)]
    exact rows_at Mb.len zs k hkz j u hu
   have hcg : wr.cell? ⟨g, k * 3 + 2, none⟩ = some zs[k].2 := d 2 _ rfl
   obtain ⟨y, HY⟩ := hid_ex zs[k]
   rw [HY.out] at d hyk hik hcg
   obtain ⟨ym, yv⟩ := y
   replace hyk : MHas wr yv ym.ms := hyk
   replace hik : ym.ms.length ≤ 100 := hik
   replace hcg : wr.cell? ⟨g, k * 3 + 2, none⟩ = some yv := hcg
   replace d : wr.rangeAt g (k * 3) [Value.string ym.x, .bool ym.b, yv] := d
   obtain ⟨py, cy, rfl⟩ := hyk.slice
   have z61 : (Tryz.prog.info? 67).map (·.size) = some [Value.string ym.x, .bool ym.b, .slice py ym.ms.length cy].length := size67
   have RB := rw_new wr 67 #[.string ym.x, .bool ym.b, .slice py ym.ms.length cy]
   have hba := bel_alloc (Below.refl wr.heap.size wr) (.cells #[.string ym.x, .bool ym.b, .slice py ym.ms.length cy] 67)
   have hsz : wr.heap.size < (wr.alloc (.cells #[.string ym.x, .bool ym.b, .slice py ym.ms.length cy] 67)).heap.size := by simp
   generalize hW : wr.alloc (.cells #[.string ym.x, .bool ym.b, .slice py ym.ms.length cy] 67) = wx at RB hba hsz
   go_wp2_with (first | rw [hW] | refine load_m 67 _ rfl rfl _ _ rfl d Tryz.underlying67 rfl z61 ?_)
   clear hW
   have hS : Calm.Stays (fun w' => Below wx.heap.size wx w') := fun wa wb h hb => below_on h hb
   have hF : Facts.Stay [pF 0 (eqP (.pointer (some ⟨w.heap.size, 4, none⟩))), pF 1 (eqP (.slice (some ⟨g, 0, none⟩) x.mb.length dm)), pF 2 (eqP (.int .i64 k)), pF 3 (eqP (.pointer (some ⟨wr.heap.size, 2, none⟩))), pF 4 (eqP (.slice py ym.ms.length cy)), pF 5 (ownP wx.heap.size 50 3 ym.ms.length (rows M.cells ym.ms))] := stay_of (by simp only [List.forall_mem_cons]; exact ⟨⟨_, _, rfl, eqP_keeps _⟩, ⟨_, _, rfl, eqP_keeps _⟩, ⟨_, _, rfl, eqP_keeps _⟩, ⟨_, _, rfl, eqP_keeps _⟩, ⟨_, _, rfl, eqP_keeps _⟩, ⟨_, _, rfl, ownP_keeps _ _ _ _ _⟩, fun _ h => by cases h⟩)
   refine Facts.regionTail (by kernel_rfl) (by kernel_rfl) 6 (by decide) (by kernel_rfl) (fun w' => Below wx.heap.size wx w') (fun xv => { tmps := #[CV x.k x.b (Value.slice pa x.am.length ca') (Value.slice pw x.wr.length cw) (Value.slice pm x.mb.length cm) (Value.slice pe x.el.length ce), Value.pointer (some { block := w.heap.size, off := 0 }), Value.pointer (some { block := w.heap.size + 1, off := 0 }), Value.int IntKind.i64 ↑k, Value.pointer (some { block := wr.heap.size, off := 0 }), undef, undef, Value.pointer (some { block := w.heap.size, off := 2 }), Value.slice pa x.am.length ca', Value.slice qa x.am.length da, Value.pointer (some { block := w.heap.size, off := 2 }), Value.pointer (some { block := w.heap.size, off := 3 }), Value.slice pw x.wr.length cw, Value.slice qt x.wr.length dt, Value.pointer (some { block := w.heap.size, off := 3 }), Value.pointer (some { block := w.heap.size, off := 4 }), Value.slice pm x.mb.length cm, Value.slice (some { block := g, off := 0 }) x.mb.length dm, Value.pointer (some { block := w.heap.size, off := 4 }), Value.pointer (some { block := w.heap.size, off := 4 }), Value.slice (some { block := g, off := 0 }) x.mb.length dm, Value.int IntKind.i64 ↑x.mb.length, Value.int IntKind.i64 ↑k, Value.bool true, Value.int IntKind.i64 ↑k, Value.pointer (some { block := g, off := k * 3 }), Value.agg #[Value.string ym.x, Value.bool ym.b, Value.slice py ym.ms.length cy], xv 0, xv 1, xv 2, xv 3, xv 4, xv 5, u33, u34, u35, undef, undef, undef, undef, undef, undef, undef, undef, undef, undef, undef, undef, undef, undef, undef, undef, undef, undef, undef, undef, undef, undef], defers := [] }) [pF 0 (eqP (.pointer (some ⟨w.heap.size, 4, none⟩))), pF 1 (eqP (.slice (some ⟨g, 0, none⟩) x.mb.length dm)), pF 2 (eqP (.int .i64 k)), pF 3 (eqP (.pointer (some ⟨wr.heap.size, 2, none⟩))), pF 4 (eqP (.slice py ym.ms.length cy)), pF 5 (ownP wx.heap.size 50 3 ym.ms.length (rows M.cells ym.ms))] _ rfl rfl (by kernel_rfl) (fun j => [u27, u28, u29, u30, u31, u32].getD j undef) rfl (Below.refl _ wx).drew ⟨?_, ?_, ?_, ?_, ?_, ?_, ?_, ?_, ?_, trivial⟩ ?_
   ·exact fun _ => Facts.pureP hS hF (fun _ _ => rfl) rfl (fun xv wv hSw hd => by
     go_simp)
   ·exact fun _ => Facts.pureP hS hF (fun _ _ => rfl) rfl (fun xv wv hSw hd => by
     have d0 : xv 0 = _ := pF_get (hd ⟨0, .data⟩ (by simp) rfl _ rfl)
     have g1 : wx.cell? ⟨w.heap.size, 4, none⟩ = some (.slice (some ⟨g, 0, none⟩) x.mb.length dm) := (R0.later hba).cell 4
     have g2 := cell_later hSw g1
     have g3 : wx.cell? ⟨wr.heap.size, 2, none⟩ = some (.slice py ym.ms.length cy) := RB.cell 2
     have g4 := cell_later hSw g3
     simp only [d0]
     go_simp)
   ·exact fun _ => Facts.pureP hS hF (fun _ _ => rfl) rfl (fun xv wv hSw hd => by
     go_simp)
   ·exact fun _ => Facts.pureP hS hF (fun _ _ => rfl) rfl (fun xv wv hSw hd => by
     go_simp)
   ·exact fun _ => Facts.pureP hS hF (fun _ _ => rfl) rfl (fun xv wv hSw hd => by
     have d3 : xv 3 = _ := pF_get (hd ⟨3, .data⟩ (by simp) rfl _ rfl)
     have g1 : wx.cell? ⟨w.heap.size, 4, none⟩ = some (.slice (some ⟨g, 0, none⟩) x.mb.length dm) := (R0.later hba).cell 4
     have g2 := cell_later hSw g1
     have g3 : wx.cell? ⟨wr.heap.size, 2, none⟩ = some (.slice py ym.ms.length cy) := RB.cell 2
     have g4 := cell_later hSw g3
     simp only [d3]
     go_simp)
   ·refine fun _ => Facts.call1P hS hF (fun _ _ => rfl) rfl (by kernel_rfl) rfl (fun xv wv hSw hd => ?_)
    have d4 : xv 4 = _ := pF_get (hd ⟨4, .data⟩ (by simp) rfl _ rfl)
    rw [show Act.eval _ _ = xv 4 from rfl, d4]
    refine (clone50_any _ _ _ _ ((hyk.later hba).later hSw) hik (rows_all M.one _)).mono ?_
    rintro e w' ⟨u, he, ho, hb⟩
    exact ⟨u, he, own_mono ho hSw.size, hb⟩
   ·exact fun h => absurd h (by decide)
   ·exact fun h => absurd h (by decide)
   ·exact fun h => absurd h (by decide)
   intro x9 w5 hb5 hf
   have e1 : x9 1 = _ := pF_get (hf 1 _ rfl)
   have e2 : x9 2 = _ := pF_get (hf 2 _ rfl)
   have e5 := pF_get (hf 5 _ rfl)
   replace e5 : w5.ownsRow wx.heap.size 50 3 (x9 5) ym.ms.length (rows M.cells ym.ms) := e5
   clear hS hF hf
   obtain ⟨pz, cz, hz⟩ := own_sl e5
   rw [hz] at e5
   have hwx := hba.size
   have hnw : ∀ q, (Value.slice pz ym.ms.length cz).ownBlock = some q → ∀ a ∈ zs.take k, a.2.ownBlock ≠ some q := fun q hq a ha h2 => by
    have h3 := (World.ownsRow.lt (hOB.o a ha) q h2).2
    have h4 := (World.ownsRow.lt e5 q hq).1
    omega
   have hb6 := below_on hba hb5
   clear hba hb5 RB d
   replace hOB := hOB.later hb6
   replace e5 := own_mono e5 (Nat.le_trans hB hwx)
   replace R0 := R0.later hb6
   replace R1 := R1.later hb6
   replace hoa := own_later hoa hb6
   replace hot := own_later hot hb6
   replace hom := own_later hom hb6
   replace hy2 : ∀ y ∈ zs, MHas w5 y.2 y.1.ms := fun y hy => (hy2 y hy).later hb6
   replace hcg := cell_later hb6 hcg
   replace hbel := below_on hbel hb6
   replace hB := Nat.le_trans hB hb6.size
   have hfz := hom.frozenAt (k * 3 + 2)
   have hkI : (0 : Int) ≤ (k : Int) := by omega
   refine tail_pure (v := .pointer (some ⟨g, k * 3, none⟩)) (by go_simp) ?_
   refine tail_pure (v := .pointer (some ⟨g, k * 3 + 2, none⟩)) (by go_simp) ?_
   refine tail_store 65 _ _ rfl _ _ rfl (show _ = Value.slice pz ym.ms.length cz from hz) (store82 hcg hfz) ?_
   refine Facts.tailWp_nil ?_
   have hcs : w5.cell? ⟨g, k * 3 + 2, none⟩ = some (.slice py ym.ms.length cy) := hcg
   have htag1 := own_tag hoa hom (by decide) (g := g) rfl
   have htag2 := own_tag hot hom (by decide) (g := g) rfl
   replace R0 := R0.setOther (q := g) (by omega) (k * 3 + 2) (.slice pz ym.ms.length cz)
   replace R1 := R1.setOther (q := g) (by omega) (k * 3 + 2) (.slice pz ym.ms.length cz)
   replace hoa := own_over hoa htag1 (k * 3 + 2) (.slice pz ym.ms.length cz)
   replace hot := own_over hot htag2 (k * 3 + 2) (.slice pz ym.ms.length cz)
   replace hOB := hOB.tag hom (by decide) (g := g) rfl (k * 3 + 2) (.slice pz ym.ms.length cz)
   have e6 := own_over e5 (own_tag e5 hom (by decide) (g := g) rfl) (k * 3 + 2) (.slice pz ym.ms.length cz)
   replace hom := (hom.stored (k * 3 + 2) (.slice pz ym.ms.length cz)).1
   have hny : MHas (w5.setCell ⟨g, k * 3 + 2, none⟩ (.slice pz ym.ms.length cz)) (.slice pz ym.ms.length cz) ym.ms := (own_sh e5).over (M.flat _) hcs _
   replace hy2 : ∀ y ∈ zs, MHas (w5.setCell ⟨g, k * 3 + 2, none⟩ (.slice pz ym.ms.length cz)) y.2 y.1.ms := fun y hy => (hy2 y hy).over (M.flat _) hcs _
   replace hbel := hbel.setCell (p := ⟨g, k * 3 + 2, none⟩) (show w.heap.size ≤ g by omega) (.slice pz ym.ms.length cz)
   replace hB : w.heap.size + 2 ≤ (w5.setCell ⟨g, k * 3 + 2, none⟩ (.slice pz ym.ms.length cz)).heap.size := by rw [World.size_setCell]; exact hB
   rw [← rows_set Mb.len zs k 2 hkz (ym, .slice pz ym.ms.length cz) _ (by decide) (by rw [HY.out]; rfl)] at hom
   generalize w5.setCell ⟨g, k * 3 + 2, none⟩ (.slice pz ym.ms.length cz) = w6 at R0 R1 hoa hot hom hny hy2 hOB e6 hbel hB ⊢
   have hOB2 : OwnB (w.heap.size + 2) w6 ((zs.set k (ym, .slice pz ym.ms.length cz)).take (k + 1)) := by
    rw [List.take_succ_eq_append_getElem (by rw [List.length_set]; exact hkz), List.getElem_set_self, List.take_set_of_le (Nat.le_refl _)]
    exact hOB.snoc e6 hnw
   have hzs2 : (zs.set k (ym, .slice pz ym.ms.length cz)).map (·.1) = x.mb := by
    rw [List.map_set, ← hzs]
    apply List.ext_getElem?
    intro j
    by_cases e : k = j
    ·subst e
     rw [List.getElem?_set_self (by simpa using hkz), List.getElem?_eq_getElem (by simpa using hkz), List.getElem_map, HY.out]
    ·rw [List.getElem?_set_ne e]
   clear hcs hcg hfz hb6 e5 HY hyk hOB e6 hnw
   go_wp2_with fail
   go_roundw
   case rel =>
    refine ⟨k + 1, by simp, by omega, R0, R1, hoa, hot, ⟨_, hzs2, hom, (fun y hy => ?_), hOB2⟩, hbel, hB⟩
    rcases List.mem_or_eq_of_mem_set hy with h | h
    ·exact hy2 y h
    ·subst h
     exact hny
   case measure => simp [intOf]; omega
  ·obtain rfl : k = x.mb.length := by omega
   have hlt' : ¬ (x.mb.length : Int) < (x.mb.length : Int) := by omega
   have c3 : wr.cell? ⟨w.heap.size, 5, none⟩ = some (.slice pe x.el.length ce) := R0.cell 5
   go_wp2_with fail
   clear c3 hlt hlt' hk
   obtain ⟨ms, hms⟩ : ∃ ms, ms = zs := ⟨_, rfl⟩
   rw [List.take_of_length_le (by omega)] at hOB
   rw [← hms] at hom hOB hzs
   clear hy2
   have hzm := hzs
   clear hms hzl hzs
   obtain ⟨es, hes, he1, he2⟩ := HF.out.e.later hbel
   refine (clone69_any _ _ _ _ he1 hs.e (El.one he2)).mono ?_
   rintro e w4 ⟨u_, rfl, hoe, hb1⟩
   obtain ⟨qe, de, rfl⟩ := own_sl hoe
   replace hoe := own_mono hoe hB
   replace hoa := own_later hoa hb1
   replace hot := own_later hot hb1
   replace hom := own_later hom hb1
   replace hOB := hOB.later hb1
   replace he2 : ∀ y ∈ es, MHas w4 y.2 y.1.gone := fun y hy => (he2 y hy).later hb1
   replace R0 := R0.later hb1
   replace R1 := R1.later hb1
   replace hbel := below_on hbel hb1
   replace hB := Nat.le_trans hB hb1.size
   clear hb1 he1
   have c2 : w4.cell? ⟨w.heap.size, 5, none⟩ = some (.slice pe x.el.length ce) := R0.cell 5
   have f2 : w4.frozen? ⟨w.heap.size, 5, none⟩ = false := R0.frozen 5
   replace hOB := hOB.cell (b := w.heap.size) (by omega) 5 (.slice qe x.el.length de)
   replace he2 : ∀ y ∈ es, MHas (w4.setCell ⟨w.heap.size, 5, none⟩ (.slice qe x.el.length de)) y.2 y.1.gone := fun y hy => (he2 y hy).over (M.flat _) c2 _
   replace R0 : Rw (w4.setCell ⟨w.heap.size, 5, none⟩ (.slice qe x.el.length de)) w.heap.size 27 (cvc x.k x.b (.slice qa x.am.length da) (.slice qt x.wr.length dt) (.slice qm x.mb.length dm) (.slice qe x.el.length de)) := R0.set 5 _
   replace R1 := R1.setOther (q := w.heap.size) (by omega) 5 (.slice qe x.el.length de)
   replace hbel := hbel.setCell (p := ⟨w.heap.size, 5, none⟩) (Nat.le_refl _) (.slice qe x.el.length de)
   replace hB : w.heap.size + 2 ≤ (w4.setCell ⟨w.heap.size, 5, none⟩ (.slice qe x.el.length de)).heap.size := by rw [World.size_setCell]; exact hB
   replace hoa := own_over hoa (b := w.heap.size) (fun k hk => by have := (World.ownsRow.lt hoa k hk).1; omega) 5 (.slice qe x.el.length de)
   replace hot := own_over hot (b := w.heap.size) (fun k hk => by have := (World.ownsRow.lt hot k hk).1; omega) 5 (.slice qe x.el.length de)
   replace hom := own_over hom (b := w.heap.size) (fun k hk => by have := (World.ownsRow.lt hom k hk).1; omega) 5 (.slice qe x.el.length de)
   replace hoe := own_over hoe (b := w.heap.size) (fun k hk => by have := (World.ownsRow.lt hoe k hk).1; omega) 5 (.slice qe x.el.length de)
   generalize hW : w4.setCell ⟨w.heap.size, 5, none⟩ (.slice qe x.el.length de) = v5 at R0 R1 hbel hB hoa hot hom hoe hOB he2
   have c3 : v5.cell? ⟨w.heap.size, 5, none⟩ = some (.slice qe x.el.length de) := R0.cell 5
   go_wp2_with (first | rw [hW])
   clear hW c2 f2 c3
   go_loopw [43] (fun vi wr => ∃ k : Nat, vi = .int .i64 k ∧ k ≤ x.el.length ∧ Rw wr w.heap.size 27 (cvc x.k x.b (.slice qa x.am.length da) (.slice qt x.wr.length dt) (.slice qm x.mb.length dm) (.slice qe x.el.length de)) ∧ Rw wr (w.heap.size + 1) 27 z4 ∧ wr.ownsRow (w.heap.size + 2) 71 4 (.slice qa x.am.length da) x.am.length (rows A.cells x.am) ∧ wr.ownsRow (w.heap.size + 2) 64 5 (.slice qt x.wr.length dt) x.wr.length (rows Wt.cells x.wr) ∧ wr.ownsRow (w.heap.size + 2) 67 3 (.slice qm x.mb.length dm) x.mb.length (rows Mb.cells ms) ∧ OwnB (w.heap.size + 2) wr ms ∧ (∃ zs : List (El × Value), zs.map (·.1) = x.el ∧ wr.ownsRow (w.heap.size + 2) 69 9 (.slice qe x.el.length de) x.el.length (rows El.cells zs) ∧ (∀ y ∈ zs, MHas wr y.2 y.1.gone) ∧ OwnG (w.heap.size + 2) wr (zs.take k)) ∧ Below w.heap.size w wr ∧ w.heap.size + 2 ≤ wr.heap.size) (fun vi _ => x.el.length - (intOf vi).toNat)
   case atStart => exact ⟨0, rfl, by omega, R0, R1, hoa, hot, hom, hOB, ⟨es, hes, hoe, he2, (fun _ h => by cases h)⟩, hbel, hB⟩
   case round =>
    clear R0 R1 hoa hot hom hOB hoe he2 hes es hbel hB
    obtain ⟨k, rfl, hk, R0, R1, hoa, hot, hom, hm2, ⟨zs, hzs, hoe, hy2, hOG⟩, hbel, hB⟩ := hrel
    have hm100 := hs.e
    have hzl : zs.length = x.el.length := by rw [← hzs, List.length_map]
    by_cases hlt : k < x.el.length
    ·have hlt' : (k : Int) < (x.el.length : Int) := by omega
     obtain ⟨g, rfl, hg⟩ := own_some hoe (by omega)
     have hkz : k < zs.length := by omega
     have hin := hs.ei
     rw [← hzs] at hin
     have hyk := hy2 zs[k] (List.getElem_mem _)
     have hik : zs[k].1.gone.length ≤ 100 := hin zs[k].1 (List.mem_map_of_mem (List.getElem_mem _))
     clear hin
     have d : wr.rangeAt g (k * 9) (El.cells zs[k]) := fun j u hu => by
      rw [hoe.cellAt (k * 9 + j) (by have := (List.getElem?_eq_some_iff.1 hu).1; simp at this; omega)]
      exact rows_at El.len zs k hkz j u hu
     have hcg : wr.cell? ⟨g, k * 9 + 8, none⟩ = some zs[k].2 := d 8 _ rfl
     obtain ⟨y, HY⟩ := hid_ex zs[k]
     rw [HY.out] at d hyk hik hcg
     obtain ⟨ym, yv⟩ := y
     replace hyk : MHas wr yv ym.gone := hyk
     replace hik : ym.gone.length ≤ 100 := hik
     replace hcg : wr.cell? ⟨g, k * 9 + 8, none⟩ = some yv := hcg
     replace d : wr.rangeAt g (k * 9) [Value.int .i64 ym.p, .int .i64 ym.s, .int .i64 ym.i, .int .i64 ym.t, .int .i64 ym.q, .int .i64 ym.u, .int .i64 ym.j, .string ym.x, yv] := d
     obtain ⟨py, cy, rfl⟩ := hyk.slice
     have z63 : (Tryz.prog.info? 69).map (·.size) = some [Value.int .i64 ym.p, .int .i64 ym.s, .int .i64 ym.i, .int .i64 ym.t, .int .i64 ym.q, .int .i64 ym.u, .int .i64 ym.j, .string ym.x, .slice py ym.gone.length cy].length := size69
     have RB := rw_new wr 69 #[.int .i64 ym.p, .int .i64 ym.s, .int .i64 ym.i, .int .i64 ym.t, .int .i64 ym.q, .int .i64 ym.u, .int .i64 ym.j, .string ym.x, .slice py ym.gone.length cy]
     have hba := bel_alloc (Below.refl wr.heap.size wr) (.cells #[.int .i64 ym.p, .int .i64 ym.s, .int .i64 ym.i, .int .i64 ym.t, .int .i64 ym.q, .int .i64 ym.u, .int .i64 ym.j, .string ym.x, .slice py ym.gone.length cy] 69)
     have hsz : wr.heap.size < (wr.alloc (.cells #[.int .i64 ym.p, .int .i64 ym.s, .int .i64 ym.i, .int .i64 ym.t, .int .i64 ym.q, .int .i64 ym.u, .int .i64 ym.j, .string ym.x, .slice py ym.gone.length cy] 69)).heap.size := by simp
     generalize hW : wr.alloc (.cells #[.int .i64 ym.p, .int .i64 ym.s, .int .i64 ym.i, .int .i64 ym.t, .int .i64 ym.q, .int .i64 ym.u, .int .i64 ym.j, .string ym.x, .slice py ym.gone.length cy] 69) = wx at RB hba hsz
     go_wp2_with (first | rw [hW] | refine load_m 69 _ rfl rfl _ _ rfl d Tryz.underlying69 rfl z63 ?_)
     clear hW
     have hS : Calm.Stays (fun w' => Below wx.heap.size wx w') := fun wa wb h hb => below_on h hb
     have hF : Facts.Stay [pF 0 (eqP (.pointer (some ⟨w.heap.size, 5, none⟩))), pF 1 (eqP (.slice (some ⟨g, 0, none⟩) x.el.length de)), pF 2 (eqP (.int .i64 k)), pF 3 (eqP (.pointer (some ⟨wr.heap.size, 8, none⟩))), pF 4 (eqP (.slice py ym.gone.length cy)), pF 5 (ownP wx.heap.size 50 3 ym.gone.length (rows M.cells ym.gone))] := stay_of (by simp only [List.forall_mem_cons]; exact ⟨⟨_, _, rfl, eqP_keeps _⟩, ⟨_, _, rfl, eqP_keeps _⟩, ⟨_, _, rfl, eqP_keeps _⟩, ⟨_, _, rfl, eqP_keeps _⟩, ⟨_, _, rfl, eqP_keeps _⟩, ⟨_, _, rfl, ownP_keeps _ _ _ _ _⟩, fun _ h => by cases h⟩)
     refine Facts.regionTail (by kernel_rfl) (by kernel_rfl) 6 (by decide) (by kernel_rfl) (fun w' => Below wx.heap.size wx w') (fun xv => { tmps := #[CV x.k x.b (Value.slice pa x.am.length ca') (Value.slice pw x.wr.length cw) (Value.slice pm x.mb.length cm) (Value.slice pe x.el.length ce), Value.pointer (some { block := w.heap.size, off := 0 }), Value.pointer (some { block := w.heap.size + 1, off := 0 }), u3, u4, Value.int IntKind.i64 ↑k, Value.pointer (some { block := wr.heap.size, off := 0 }), Value.pointer (some { block := w.heap.size, off := 2 }), Value.slice pa x.am.length ca', Value.slice qa x.am.length da, Value.pointer (some { block := w.heap.size, off := 2 }), Value.pointer (some { block := w.heap.size, off := 3 }), Value.slice pw x.wr.length cw, Value.slice qt x.wr.length dt, Value.pointer (some { block := w.heap.size, off := 3 }), Value.pointer (some { block := w.heap.size, off := 4 }), Value.slice pm x.mb.length cm, Value.slice qm x.mb.length dm, Value.pointer (some { block := w.heap.size, off := 4 }), Value.pointer (some { block := w.heap.size, off := 4 }), Value.slice qm x.mb.length dm, Value.int IntKind.i64 ↑x.mb.length, Value.int IntKind.i64 ↑x.mb.length, Value.bool false, u24, u25, u26, u27, u28, u29, u30, u31, u32, u33, u34, u35, Value.pointer (some { block := w.heap.size, off := 5 }), Value.slice pe x.el.length ce, Value.slice (some { block := g, off := 0 }) x.el.length de, Value.pointer (some { block := w.heap.size, off := 5 }), Value.pointer (some { block := w.heap.size, off := 5 }), Value.slice (some { block := g, off := 0 }) x.el.length de, Value.int IntKind.i64 ↑x.el.length, Value.int IntKind.i64 ↑k, Value.bool true, Value.int IntKind.i64 ↑k, Value.pointer (some { block := g, off := k * 9 }), Value.agg #[Value.int IntKind.i64 ym.p, Value.int IntKind.i64 ym.s, Value.int IntKind.i64 ym.i, Value.int IntKind.i64 ym.t, Value.int IntKind.i64 ym.q, Value.int IntKind.i64 ym.u, Value.int IntKind.i64 ym.j, Value.string ym.x, Value.slice py ym.gone.length cy], xv 0, xv 1, xv 2, xv 3, xv 4, xv 5, u54, u55, u56, undef], defers := [] }) [pF 0 (eqP (.pointer (some ⟨w.heap.size, 5, none⟩))), pF 1 (eqP (.slice (some ⟨g, 0, none⟩) x.el.length de)), pF 2 (eqP (.int .i64 k)), pF 3 (eqP (.pointer (some ⟨wr.heap.size, 8, none⟩))), pF 4 (eqP (.slice py ym.gone.length cy)), pF 5 (ownP wx.heap.size 50 3 ym.gone.length (rows M.cells ym.gone))] _ rfl rfl (by kernel_rfl) (fun j => [u48, u49, u50, u51, u52, u53].getD j undef) rfl (Below.refl _ wx).drew ⟨?_, ?_, ?_, ?_, ?_, ?_, ?_, ?_, ?_, trivial⟩ ?_
     ·exact fun _ => Facts.pureP hS hF (fun _ _ => rfl) rfl (fun xv wv hSw hd => by
       go_simp)
     ·exact fun _ => Facts.pureP hS hF (fun _ _ => rfl) rfl (fun xv wv hSw hd => by
       have d0 : xv 0 = _ := pF_get (hd ⟨0, .data⟩ (by simp) rfl _ rfl)
       have g1 : wx.cell? ⟨w.heap.size, 5, none⟩ = some (.slice (some ⟨g, 0, none⟩) x.el.length de) := (R0.later hba).cell 5
       have g2 := cell_later hSw g1
       have g3 : wx.cell? ⟨wr.heap.size, 8, none⟩ = some (.slice py ym.gone.length cy) := RB.cell 8
       have g4 := cell_later hSw g3
       simp only [d0]
       go_simp)
     ·exact fun _ => Facts.pureP hS hF (fun _ _ => rfl) rfl (fun xv wv hSw hd => by
       go_simp)
     ·exact fun _ => Facts.pureP hS hF (fun _ _ => rfl) rfl (fun xv wv hSw hd => by
       go_simp)
     ·exact fun _ => Facts.pureP hS hF (fun _ _ => rfl) rfl (fun xv wv hSw hd => by
       have d3 : xv 3 = _ := pF_get (hd ⟨3, .data⟩ (by simp) rfl _ rfl)
       have g1 : wx.cell? ⟨w.heap.size, 5, none⟩ = some (.slice (some ⟨g, 0, none⟩) x.el.length de) := (R0.later hba).cell 5
       have g2 := cell_later hSw g1
       have g3 : wx.cell? ⟨wr.heap.size, 8, none⟩ = some (.slice py ym.gone.length cy) := RB.cell 8
       have g4 := cell_later hSw g3
       simp only [d3]
       go_simp)
     ·refine fun _ => Facts.call1P hS hF (fun _ _ => rfl) rfl (by kernel_rfl) rfl (fun xv wv hSw hd => ?_)
      have d4 : xv 4 = _ := pF_get (hd ⟨4, .data⟩ (by simp) rfl _ rfl)
      rw [show Act.eval _ _ = xv 4 from rfl, d4]
      refine (clone50_any _ _ _ _ ((hyk.later hba).later hSw) hik (rows_all M.one _)).mono ?_
      rintro e w' ⟨u, he, ho, hb⟩
      exact ⟨u, he, own_mono ho hSw.size, hb⟩
     ·exact fun h => absurd h (by decide)
     ·exact fun h => absurd h (by decide)
     ·exact fun h => absurd h (by decide)
     intro x9 w5 hb5 hf
     have e1 : x9 1 = _ := pF_get (hf 1 _ rfl)
     have e2 : x9 2 = _ := pF_get (hf 2 _ rfl)
     have e5 := pF_get (hf 5 _ rfl)
     replace e5 : w5.ownsRow wx.heap.size 50 3 (x9 5) ym.gone.length (rows M.cells ym.gone) := e5
     clear hS hF hf
     obtain ⟨pz, cz, hz⟩ := own_sl e5
     rw [hz] at e5
     replace e5 := own_mono e5 (Nat.le_trans hB hba.size)
     have hb6 := below_on hba hb5
     clear hba hb5 RB d
     replace R0 := R0.later hb6
     replace R1 := R1.later hb6
     replace hoa := own_later hoa hb6
     replace hot := own_later hot hb6
     replace hom := own_later hom hb6
     replace hm2 := hm2.later hb6
     replace hoe := own_later hoe hb6
     replace hOG := hOG.later hb6
     replace hy2 : ∀ y ∈ zs, MHas w5 y.2 y.1.gone := fun y hy => (hy2 y hy).later hb6
     replace hcg := cell_later hb6 hcg
     replace hbel := below_on hbel hb6
     replace hB := Nat.le_trans hB hb6.size
     have hfz := hoe.frozenAt (k * 9 + 8)
     have hkI : (0 : Int) ≤ (k : Int) := by omega
     refine tail_pure (v := .pointer (some ⟨g, k * 9, none⟩)) (by go_simp) ?_
     refine tail_pure (v := .pointer (some ⟨g, k * 9 + 8, none⟩)) (by go_simp) ?_
     refine tail_store 65 _ _ rfl _ _ rfl (show _ = Value.slice pz ym.gone.length cz from hz) (store82 hcg hfz) ?_
     refine Facts.tailWp_nil ?_
     have hcs : w5.cell? ⟨g, k * 9 + 8, none⟩ = some (.slice py ym.gone.length cy) := hcg
     have htag1 := own_tag hoa hoe (by decide) (g := g) rfl
     have htag2 := own_tag hot hoe (by decide) (g := g) rfl
     have htag3 := own_tag hom hoe (by decide) (g := g) rfl
     replace hm2 := hm2.tag hoe (by decide) (g := g) rfl (k * 9 + 8) (.slice pz ym.gone.length cz)
     replace R0 := R0.setOther (q := g) (by omega) (k * 9 + 8) (.slice pz ym.gone.length cz)
     replace R1 := R1.setOther (q := g) (by omega) (k * 9 + 8) (.slice pz ym.gone.length cz)
     replace hoa := own_over hoa htag1 (k * 9 + 8) (.slice pz ym.gone.length cz)
     replace hot := own_over hot htag2 (k * 9 + 8) (.slice pz ym.gone.length cz)
     replace hom := own_over hom htag3 (k * 9 + 8) (.slice pz ym.gone.length cz)
     have e6 := own_over e5 (own_tag e5 hoe (by decide) (g := g) rfl) (k * 9 + 8) (.slice pz ym.gone.length cz)
     replace hOG := hOG.tag hoe (by decide) (g := g) rfl (k * 9 + 8) (.slice pz ym.gone.length cz)
     replace hoe := (hoe.stored (k * 9 + 8) (.slice pz ym.gone.length cz)).1
     have hny : MHas (w5.setCell ⟨g, k * 9 + 8, none⟩ (.slice pz ym.gone.length cz)) (.slice pz ym.gone.length cz) ym.gone := (own_sh e5).over (M.flat _) hcs _
     replace hy2 : ∀ y ∈ zs, MHas (w5.setCell ⟨g, k * 9 + 8, none⟩ (.slice pz ym.gone.length cz)) y.2 y.1.gone := fun y hy => (hy2 y hy).over (M.flat _) hcs _
     replace hbel := hbel.setCell (p := ⟨g, k * 9 + 8, none⟩) (show w.heap.size ≤ g by omega) (.slice pz ym.gone.length cz)
     replace hB : w.heap.size + 2 ≤ (w5.setCell ⟨g, k * 9 + 8, none⟩ (.slice pz ym.gone.length cz)).heap.size := by rw [World.size_setCell]; exact hB
     rw [← rows_set El.len zs k 8 hkz (ym, .slice pz ym.gone.length cz) _ (by decide) (by rw [HY.out]; rfl)] at hoe
     generalize w5.setCell ⟨g, k * 9 + 8, none⟩ (.slice pz ym.gone.length cz) = w6 at R0 R1 hoa hot hom hm2 hoe hny hy2 hOG e6 hbel hB ⊢
     have hzs2 : (zs.set k (ym, .slice pz ym.gone.length cz)).map (·.1) = x.el := by
      rw [List.map_set, ← hzs]
      apply List.ext_getElem?
      intro j
      by_cases e : k = j
      ·subst e
       rw [List.getElem?_set_self (by simpa using hkz), List.getElem?_eq_getElem (by simpa using hkz), List.getElem_map, HY.out]
      ·rw [List.getElem?_set_ne e]
     have hOG2 : OwnG (w.heap.size + 2) w6 ((zs.set k (ym, .slice pz ym.gone.length cz)).take (k + 1)) := by
      rw [List.take_succ_eq_append_getElem (by rw [List.length_set]; exact hkz), List.getElem_set_self, List.take_set_of_le (Nat.le_refl _)]
      intro y hy
      rcases List.mem_append.1 hy with h | h
      ·exact hOG y h
      ·rw [List.mem_singleton.1 h]
       exact e6
     clear hcs hcg hfz hb6 e5 HY hyk hOG e6
     go_wp2_with fail
     go_roundw
     case rel =>
      refine ⟨k + 1, by simp, by omega, R0, R1, hoa, hot, hom, hm2, ⟨_, hzs2, hoe, (fun y hy => ?_), hOG2⟩, hbel, hB⟩
      rcases List.mem_or_eq_of_mem_set hy with h | h
      ·exact hy2 y h
      ·subst h
       exact hny
     case measure => simp [intOf]; omega
    ·have hlt' : ¬ (k : Int) < (x.el.length : Int) := by omega
     have hsz9 : (cvc x.k x.b (.slice qa x.am.length da) (.slice qt x.wr.length dt) (.slice qm x.mb.length dm) (.slice qe x.el.length de)).size = 6 := rfl
     go_wp2_with (first | refine load_r 27 _ rfl rfl _ rfl R0 Tryz.underlying27 rfl size27 ?_ | refine store_r rfl 27 _ _ rfl _ (cvc x.k x.b (.slice qa x.am.length da) (.slice qt x.wr.length dt) (.slice qm x.mb.length dm) (.slice qe x.el.length de)) rfl rfl R1 size27 rfl (by simp [Value.oneCell']) ?_)
     refine bodyPost_ret (results_r rfl rfl (R1.row _) rfl Tryz.underlying27 size27) rfl ?_
     exact ⟨_, _, _, _, rfl, ⟨own_mono (own_row hoa (by omega) _) (by omega), own_mono (own_row hot (by omega) _) (by omega), ⟨ms, hzm, own_mono (own_row hom (by omega) _) (by omega), (hm2.row (by omega) _).mono (by omega)⟩, ⟨zs, hzs, own_mono (own_row hoe (by omega) _) (by omega), ((show OwnG (w.heap.size + 2) wr zs by rw [List.take_of_length_le (by omega)] at hOG; exact hOG).row (by omega) _).mono (by omega)⟩⟩, below_setRow hbel (by omega) _⟩
end Go.Proofs.YtjbbmcommnhgeaaGreat
