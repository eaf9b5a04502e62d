import Derived.Test.YtfjpbmdmkcihcaaP4
import Derived.Test.YtfjpbmdmkcihcaaP6
import Derived.Maps.AppendAt
import Derived.Deep.RegionWith
/- Cell of package copies. -/
namespace Go.Proofs.Ytfjpbmdmkcihcaa
open Go.RowKit

set_option maxHeartbeats 4000000 in
set_option maxRecDepth 100000 in
theorem copied_any (x : X) (va vw vm ve : Value) (w : World) (h : Four w x va vw vm ve) (hs : Sm x) : Calls Try.prog 32 #[CV x.k x.b va vw vm ve] w (CpPost x w) := by
  obtain ⟨pa, ca', pw, cw, pm, cm, pe, ce, rfl, rfl, rfl, rfl⟩ := h.slices
  have HF : Hid (Four w x (.slice pa x.am.length ca') (.slice pw x.wr.length cw) (.slice pm x.mb.length cm) (.slice pe x.el.length ce)) := h
  clear h
  obtain ⟨R0, R1, hbel⟩ := two_rows w (cvc x.k x.b (.slice pa x.am.length ca') (.slice pw x.wr.length cw) (.slice pm x.mb.length cm) (.slice pe x.el.length ce)) 27 (cvc 0 0 (.slice none 0 0) (.slice none 0 0) (.slice none 0 0) (.slice none 0 0)) 27
  have hB : w.heap.size + 2 ≤ ((w.alloc (.cells (cvc x.k x.b (.slice pa x.am.length ca') (.slice pw x.wr.length cw) (.slice pm x.mb.length cm) (.slice pe x.el.length ce)) 27)).alloc (.cells (cvc 0 0 (.slice none 0 0) (.slice none 0 0) (.slice none 0 0) (.slice none 0 0)) 27)).heap.size := by simp
  generalize hW : (w.alloc (.cells (cvc x.k x.b (.slice pa x.am.length ca') (.slice pw x.wr.length cw) (.slice pm x.mb.length cm) (.slice pe x.el.length ce)) 27)).alloc (.cells (cvc 0 0 (.slice none 0 0) (.slice none 0 0) (.slice none 0 0) (.slice none 0 0)) 27) = w0 at R0 R1 hbel hB
  have c2 : w0.cell? ⟨w.heap.size, 2, none⟩ = some (.slice pa x.am.length ca') := R0.cell 2
  go_enter Try.func32, Try.ntmps32
  go_wp2_with (first | rw [hW])
  clear hW c2
  refine (clone78_any _ _ _ _ (HF.out.a.later hbel) hs.a (rows_all A.one _)).mono ?_
  rintro e w1 ⟨u_, rfl, hoa, hb1⟩
  obtain ⟨qa, da, rfl⟩ := own_sl hoa
  replace hoa := own_mono hoa hB
  replace R0 := R0.later hb1
  replace R1 := R1.later hb1
  replace hbel := below_on hbel hb1
  replace hB := Nat.le_trans hB hb1.size
  clear hb1
  have c2 : w1.cell? ⟨w.heap.size, 2, none⟩ = some (.slice pa x.am.length ca') := R0.cell 2
  have f2 : w1.frozen? ⟨w.heap.size, 2, none⟩ = false := R0.frozen 2
  replace R0 : Rw (w1.setCell ⟨w.heap.size, 2, none⟩ (.slice qa x.am.length da)) w.heap.size 27 (cvc x.k x.b (.slice qa x.am.length da) (.slice pw x.wr.length cw) (.slice pm x.mb.length cm) (.slice pe x.el.length ce)) := R0.set 2 _
  replace R1 := R1.setOther (q := w.heap.size) (by omega) 2 (.slice qa x.am.length da)
  replace hbel := hbel.setCell (p := ⟨w.heap.size, 2, none⟩) (Nat.le_refl _) (.slice qa x.am.length da)
  replace hB : w.heap.size + 2 ≤ (w1.setCell ⟨w.heap.size, 2, none⟩ (.slice qa x.am.length da)).heap.size := by rw [World.size_setCell]; exact hB
  replace hoa := own_over hoa (b := w.heap.size) (fun k hk => by have := (World.ownsRow.lt hoa k hk).1; omega) 2 (.slice qa x.am.length da)
  generalize hW : w1.setCell ⟨w.heap.size, 2, none⟩ (.slice qa x.am.length da) = v1 at R0 R1 hbel hB hoa
  have c3 : v1.cell? ⟨w.heap.size, 3, none⟩ = some (.slice pw x.wr.length cw) := R0.cell 3
  go_wp2_with (first | rw [hW])
  clear hW c2 f2 c3
  refine (clone63_any _ _ _ _ (HF.out.t.later hbel) hs.t (rows_all Wt.one _)).mono ?_
  rintro e w2 ⟨u_, rfl, hot, hb1⟩
  obtain ⟨qt, dt, rfl⟩ := own_sl hot
  replace hot := own_mono hot hB
  replace hoa := own_later hoa hb1
  replace R0 := R0.later hb1
  replace R1 := R1.later hb1
  replace hbel := below_on hbel hb1
  replace hB := Nat.le_trans hB hb1.size
  clear hb1
  have c2 : w2.cell? ⟨w.heap.size, 3, none⟩ = some (.slice pw x.wr.length cw) := R0.cell 3
  have f2 : w2.frozen? ⟨w.heap.size, 3, none⟩ = false := R0.frozen 3
  replace R0 : Rw (w2.setCell ⟨w.heap.size, 3, none⟩ (.slice qt x.wr.length dt)) w.heap.size 27 (cvc x.k x.b (.slice qa x.am.length da) (.slice qt x.wr.length dt) (.slice pm x.mb.length cm) (.slice pe x.el.length ce)) := R0.set 3 _
  replace R1 := R1.setOther (q := w.heap.size) (by omega) 3 (.slice qt x.wr.length dt)
  replace hbel := hbel.setCell (p := ⟨w.heap.size, 3, none⟩) (Nat.le_refl _) (.slice qt x.wr.length dt)
  replace hB : w.heap.size + 2 ≤ (w2.setCell ⟨w.heap.size, 3, none⟩ (.slice qt x.wr.length dt)).heap.size := by rw [World.size_setCell]; exact hB
  replace hoa := own_over hoa (b := w.heap.size) (fun k hk => by have := (World.ownsRow.lt hoa k hk).1; omega) 3 (.slice qt x.wr.length dt)
  replace hot := own_over hot (b := w.heap.size) (fun k hk => by have := (World.ownsRow.lt hot k hk).1; omega) 3 (.slice qt x.wr.length dt)
  generalize hW : w2.setCell ⟨w.heap.size, 3, none⟩ (.slice qt x.wr.length dt) = v2 at R0 R1 hbel hB hoa hot
  have c3 : v2.cell? ⟨w.heap.size, 4, none⟩ = some (.slice pm x.mb.length cm) := R0.cell 4
  go_wp2_with (first | rw [hW])
  clear hW c2 f2 c3
  obtain ⟨ys, hys, hy1, hy2⟩ := HF.out.m.later hbel
  refine (clone65_any _ _ _ _ hy1 hs.m (Mb.one hy2)).mono ?_
  rintro e w3 ⟨u_, rfl, hom, hb1⟩
  obtain ⟨qm, dm, rfl⟩ := own_sl hom
  replace hom := own_mono hom hB
  replace hoa := own_later hoa hb1
  replace hot := own_later hot hb1
  replace R0 := R0.later hb1
  replace R1 := R1.later hb1
  replace hbel := below_on hbel hb1
  replace hy2 : ∀ y ∈ ys, MHas w3 y.2 y.1.ms := fun y hy => (hy2 y hy).later hb1
  replace hB := Nat.le_trans hB hb1.size
  clear hb1
  have c2 : w3.cell? ⟨w.heap.size, 4, none⟩ = some (.slice pm x.mb.length cm) := R0.cell 4
  have f2 : w3.frozen? ⟨w.heap.size, 4, none⟩ = false := R0.frozen 4
  replace R0 : Rw (w3.setCell ⟨w.heap.size, 4, none⟩ (.slice qm x.mb.length dm)) w.heap.size 27 (cvc x.k x.b (.slice qa x.am.length da) (.slice qt x.wr.length dt) (.slice qm x.mb.length dm) (.slice pe x.el.length ce)) := R0.set 4 _
  replace hy2 : ∀ y ∈ ys, MHas (w3.setCell ⟨w.heap.size, 4, none⟩ (.slice qm x.mb.length dm)) y.2 y.1.ms := fun y hy => (hy2 y hy).over (M.flat _) c2 _
  replace R1 := R1.setOther (q := w.heap.size) (by omega) 4 (.slice qm x.mb.length dm)
  replace hbel := hbel.setCell (p := ⟨w.heap.size, 4, none⟩) (Nat.le_refl _) (.slice qm x.mb.length dm)
  replace hB : w.heap.size + 2 ≤ (w3.setCell ⟨w.heap.size, 4, none⟩ (.slice qm x.mb.length dm)).heap.size := by rw [World.size_setCell]; exact hB
  replace hoa := own_over hoa (b := w.heap.size) (fun k hk => by have := (World.ownsRow.lt hoa k hk).1; omega) 4 (.slice qm x.mb.length dm)
  replace hot := own_over hot (b := w.heap.size) (fun k hk => by have := (World.ownsRow.lt hot k hk).1; omega) 4 (.slice qm x.mb.length dm)
  replace hom := own_over hom (b := w.heap.size) (fun k hk => by have := (World.ownsRow.lt hom k hk).1; omega) 4 (.slice qm x.mb.length dm)
  generalize hW : w3.setCell ⟨w.heap.size, 4, none⟩ (.slice qm x.mb.length dm) = v3 at R0 R1 hbel hB hoa hot hom hy2
  have c3 : v3.cell? ⟨w.heap.size, 4, none⟩ = some (.slice qm x.mb.length dm) := R0.cell 4
  go_wp2_with (first | rw [hW])
  clear hW c2 f2 c3
  go_loopw [22] (fun vi wr => ∃ k : Nat, vi = .int .i64 k ∧ k ≤ x.mb.length ∧ Rw wr w.heap.size 27 (cvc x.k x.b (.slice qa x.am.length da) (.slice qt x.wr.length dt) (.slice qm x.mb.length dm) (.slice pe x.el.length ce)) ∧ Rw wr (w.heap.size + 1) 27 (cvc 0 0 (.slice none 0 0) (.slice none 0 0) (.slice none 0 0) (.slice none 0 0)) ∧ wr.ownsRow (w.heap.size + 2) 78 4 (.slice qa x.am.length da) x.am.length (rows A.cells x.am) ∧ wr.ownsRow (w.heap.size + 2) 63 5 (.slice qt x.wr.length dt) x.wr.length (rows Wt.cells x.wr) ∧ (∃ zs : List (Mb × Value), zs.map (·.1) = x.mb ∧ wr.ownsRow (w.heap.size + 2) 65 3 (.slice qm x.mb.length dm) x.mb.length (rows Mb.cells zs) ∧ (∀ y ∈ zs, MHas wr y.2 y.1.ms) ∧ OwnB (w.heap.size + 2) wr (zs.take k)) ∧ Below w.heap.size w wr ∧ w.heap.size + 2 ≤ wr.heap.size) (fun vi _ => x.mb.length - (intOf vi).toNat)
  case atStart => exact ⟨0, rfl, by omega, R0, R1, hoa, hot, ⟨ys, hys, hom, hy2, OwnB.nil _ _⟩, hbel, hB⟩
  case round =>
    clear R0 R1 hoa hot hom hy2 hy1 hys ys hbel hB
    obtain ⟨k, rfl, hk, R0, R1, hoa, hot, ⟨zs, hzs, hom, hy2, hOB⟩, hbel, hB⟩ := hrel
    have hm100 := hs.m
    have hzl : zs.length = x.mb.length := by rw [← hzs, List.length_map]
    by_cases hlt : k < x.mb.length
    · have hlt' : (k : Int) < (x.mb.length : Int) := by omega
      obtain ⟨g, rfl, hg⟩ := own_some hom (by omega)
      have hkz : k < zs.length := by omega
      have hin := hs.mi
      rw [← hzs] at hin
      have hyk := hy2 zs[k] (List.getElem_mem _)
      have hik : zs[k].1.ms.length ≤ 100 := hin zs[k].1 (List.mem_map_of_mem (List.getElem_mem _))
      clear hin
      have d : wr.rangeAt g (k * 3) (Mb.cells zs[k]) := fun j u hu => by
        rw [hom.cellAt (k * 3 + j) (by have := (List.getElem?_eq_some_iff.1 hu).1; simp at this; omega)]
        exact rows_at Mb.len zs k hkz j u hu
      have hcg : wr.cell? ⟨g, k * 3 + 2, none⟩ = some zs[k].2 := d 2 _ rfl
      obtain ⟨y, HY⟩ := hid_ex zs[k]
      rw [HY.out] at d hyk hik hcg
      obtain ⟨ym, yv⟩ := y
      replace hyk : MHas wr yv ym.ms := hyk
      replace hik : ym.ms.length ≤ 100 := hik
      replace hcg : wr.cell? ⟨g, k * 3 + 2, none⟩ = some yv := hcg
      replace d : wr.rangeAt g (k * 3) [Value.string ym.x, .bool ym.b, yv] := d
      obtain ⟨py, cy, rfl⟩ := hyk.slice
      have z61 : (Try.prog.info? 65).map (·.size) = some [Value.string ym.x, .bool ym.b, .slice py ym.ms.length cy].length := size65
      have RB := rw_new wr 65 #[.string ym.x, .bool ym.b, .slice py ym.ms.length cy]
      have hba := bel_alloc (Below.refl wr.heap.size wr) (.cells #[.string ym.x, .bool ym.b, .slice py ym.ms.length cy] 65)
      have hsz : wr.heap.size < (wr.alloc (.cells #[.string ym.x, .bool ym.b, .slice py ym.ms.length cy] 65)).heap.size := by simp
      generalize hW : wr.alloc (.cells #[.string ym.x, .bool ym.b, .slice py ym.ms.length cy] 65) = wx at RB hba hsz
      go_wp2_with (first | rw [hW] | refine load_m 65 _ rfl rfl _ _ rfl d Try.underlying65 rfl z61 ?_)
      clear hW
      have hS : Calm.Stays (fun w' => Below wx.heap.size wx w') := fun wa wb h hb => below_on h hb
      have hF : Facts.Stay [pF 0 (eqP (.pointer (some ⟨w.heap.size, 4, none⟩))), pF 1 (eqP (.slice (some ⟨g, 0, none⟩) x.mb.length dm)), pF 2 (eqP (.int .i64 k)), pF 3 (eqP (.pointer (some ⟨wr.heap.size, 2, none⟩))), pF 4 (eqP (.slice py ym.ms.length cy)), pF 5 (ownP wx.heap.size 39 3 ym.ms.length (rows M.cells ym.ms))] := stay_of (by simp only [List.forall_mem_cons]; exact ⟨⟨_, _, rfl, eqP_keeps _⟩, ⟨_, _, rfl, eqP_keeps _⟩, ⟨_, _, rfl, eqP_keeps _⟩, ⟨_, _, rfl, eqP_keeps _⟩, ⟨_, _, rfl, eqP_keeps _⟩, ⟨_, _, rfl, ownP_keeps _ _ _ _ _⟩, fun _ h => by cases h⟩)
      refine Facts.regionTail (by kernel_rfl) (by kernel_rfl) 6 (by decide) (by kernel_rfl) (fun w' => Below wx.heap.size wx w') (fun xv => { tmps := #[CV x.k x.b (Value.slice pa x.am.length ca') (Value.slice pw x.wr.length cw) (Value.slice pm x.mb.length cm) (Value.slice pe x.el.length ce), Value.pointer (some { block := w.heap.size, off := 0 }), Value.pointer (some { block := w.heap.size + 1, off := 0 }), Value.int IntKind.i64 ↑k, Value.pointer (some { block := wr.heap.size, off := 0 }), undef, undef, Value.pointer (some { block := w.heap.size, off := 2 }), Value.slice pa x.am.length ca', Value.slice qa x.am.length da, Value.pointer (some { block := w.heap.size, off := 2 }), Value.pointer (some { block := w.heap.size, off := 3 }), Value.slice pw x.wr.length cw, Value.slice qt x.wr.length dt, Value.pointer (some { block := w.heap.size, off := 3 }), Value.pointer (some { block := w.heap.size, off := 4 }), Value.slice pm x.mb.length cm, Value.slice (some { block := g, off := 0 }) x.mb.length dm, Value.pointer (some { block := w.heap.size, off := 4 }), Value.pointer (some { block := w.heap.size, off := 4 }), Value.slice (some { block := g, off := 0 }) x.mb.length dm, Value.int IntKind.i64 ↑x.mb.length, Value.int IntKind.i64 ↑k, Value.bool true, Value.int IntKind.i64 ↑k, Value.pointer (some { block := g, off := k * 3 }), Value.agg #[Value.string ym.x, Value.bool ym.b, Value.slice py ym.ms.length cy], xv 0, xv 1, xv 2, xv 3, xv 4, xv 5, u33, u34, u35, undef, undef, undef, undef, undef, undef, undef, undef, undef, undef, undef, undef, undef, undef, undef, undef, undef, undef, undef, undef, undef, undef], defers := [] }) [pF 0 (eqP (.pointer (some ⟨w.heap.size, 4, none⟩))), pF 1 (eqP (.slice (some ⟨g, 0, none⟩) x.mb.length dm)), pF 2 (eqP (.int .i64 k)), pF 3 (eqP (.pointer (some ⟨wr.heap.size, 2, none⟩))), pF 4 (eqP (.slice py ym.ms.length cy)), pF 5 (ownP wx.heap.size 39 3 ym.ms.length (rows M.cells ym.ms))] _ rfl rfl (by kernel_rfl) (fun j => [u27, u28, u29, u30, u31, u32].getD j undef) rfl (Below.refl _ wx).drew ⟨?_, ?_, ?_, ?_, ?_, ?_, ?_, ?_, ?_, trivial⟩ ?_
      · exact fun _ => Facts.pureP hS hF (fun _ _ => rfl) rfl (fun xv wv hSw hd => by
          go_simp)
      · exact fun _ => Facts.pureP hS hF (fun _ _ => rfl) rfl (fun xv wv hSw hd => by
          have d0 : xv 0 = _ := pF_get (hd ⟨0, .data⟩ (by simp) rfl _ rfl)
          have g1 : wx.cell? ⟨w.heap.size, 4, none⟩ = some (.slice (some ⟨g, 0, none⟩) x.mb.length dm) := (R0.later hba).cell 4
          have g2 := cell_later hSw g1
          have g3 : wx.cell? ⟨wr.heap.size, 2, none⟩ = some (.slice py ym.ms.length cy) := RB.cell 2
          have g4 := cell_later hSw g3
          simp only [d0]
          go_simp)
      · exact fun _ => Facts.pureP hS hF (fun _ _ => rfl) rfl (fun xv wv hSw hd => by
          go_simp)
      · exact fun _ => Facts.pureP hS hF (fun _ _ => rfl) rfl (fun xv wv hSw hd => by
          go_simp)
      · exact fun _ => Facts.pureP hS hF (fun _ _ => rfl) rfl (fun xv wv hSw hd => by
          have d3 : xv 3 = _ := pF_get (hd ⟨3, .data⟩ (by simp) rfl _ rfl)
          have g1 : wx.cell? ⟨w.heap.size, 4, none⟩ = some (.slice (some ⟨g, 0, none⟩) x.mb.length dm) := (R0.later hba).cell 4
          have g2 := cell_later hSw g1
          have g3 : wx.cell? ⟨wr.heap.size, 2, none⟩ = some (.slice py ym.ms.length cy) := RB.cell 2
          have g4 := cell_later hSw g3
          simp only [d3]
          go_simp)
      · refine fun _ => Facts.call1P hS hF (fun _ _ => rfl) rfl (by kernel_rfl) rfl (fun xv wv hSw hd => ?_)
        have d4 : xv 4 = _ := pF_get (hd ⟨4, .data⟩ (by simp) rfl _ rfl)
        rw [show Act.eval _ _ = xv 4 from rfl, d4]
        refine (clone39_any _ _ _ _ ((hyk.later hba).later hSw) hik (rows_all M.one _)).mono ?_
        rintro e w' ⟨u, he, ho, hb⟩
        exact ⟨u, he, own_mono ho hSw.size, hb⟩
      · exact fun h => absurd h (by decide)
      · exact fun h => absurd h (by decide)
      · exact fun h => absurd h (by decide)
      intro x9 w5 hb5 hf
      have e1 : x9 1 = _ := pF_get (hf 1 _ rfl)
      have e2 : x9 2 = _ := pF_get (hf 2 _ rfl)
      have e5 := pF_get (hf 5 _ rfl)
      replace e5 : w5.ownsRow wx.heap.size 39 3 (x9 5) ym.ms.length (rows M.cells ym.ms) := e5
      clear hS hF hf
      obtain ⟨pz, cz, hz⟩ := own_sl e5
      rw [hz] at e5
      have hwx := hba.size
      have hnw : ∀ q, (Value.slice pz ym.ms.length cz).ownBlock = some q → ∀ a ∈ zs.take k, a.2.ownBlock ≠ some q := fun q hq a ha h2 => by
        have h3 := (World.ownsRow.lt (hOB.o a ha) q h2).2
        have h4 := (World.ownsRow.lt e5 q hq).1
        omega
      have hb6 := below_on hba hb5
      clear hba hb5 RB d
      replace hOB := hOB.later hb6
      replace e5 := own_mono e5 (Nat.le_trans hB hwx)
      replace R0 := R0.later hb6
      replace R1 := R1.later hb6
      replace hoa := own_later hoa hb6
      replace hot := own_later hot hb6
      replace hom := own_later hom hb6
      replace hy2 : ∀ y ∈ zs, MHas w5 y.2 y.1.ms := fun y hy => (hy2 y hy).later hb6
      replace hcg := cell_later hb6 hcg
      replace hbel := below_on hbel hb6
      replace hB := Nat.le_trans hB hb6.size
      have hfz := hom.frozenAt (k * 3 + 2)
      have hkI : (0 : Int) ≤ (k : Int) := by omega
      refine tail_pure (v := .pointer (some ⟨g, k * 3, none⟩)) (by go_simp) ?_
      refine tail_pure (v := .pointer (some ⟨g, k * 3 + 2, none⟩)) (by go_simp) ?_
      refine tail_store 41 _ _ rfl _ _ rfl (show _ = Value.slice pz ym.ms.length cz from hz) (store59 hcg hfz) ?_
      refine Facts.tailWp_nil ?_
      have hcs : w5.cell? ⟨g, k * 3 + 2, none⟩ = some (.slice py ym.ms.length cy) := hcg
      have htag1 := own_tag hoa hom (by decide) (g := g) rfl
      have htag2 := own_tag hot hom (by decide) (g := g) rfl
      replace R0 := R0.setOther (q := g) (by omega) (k * 3 + 2) (.slice pz ym.ms.length cz)
      replace R1 := R1.setOther (q := g) (by omega) (k * 3 + 2) (.slice pz ym.ms.length cz)
      replace hoa := own_over hoa htag1 (k * 3 + 2) (.slice pz ym.ms.length cz)
      replace hot := own_over hot htag2 (k * 3 + 2) (.slice pz ym.ms.length cz)
      replace hOB := hOB.tag hom (by decide) (g := g) rfl (k * 3 + 2) (.slice pz ym.ms.length cz)
      have e6 := own_over e5 (own_tag e5 hom (by decide) (g := g) rfl) (k * 3 + 2) (.slice pz ym.ms.length cz)
      replace hom := (hom.stored (k * 3 + 2) (.slice pz ym.ms.length cz)).1
      have hny : MHas (w5.setCell ⟨g, k * 3 + 2, none⟩ (.slice pz ym.ms.length cz)) (.slice pz ym.ms.length cz) ym.ms := (own_sh e5).over (M.flat _) hcs _
      replace hy2 : ∀ y ∈ zs, MHas (w5.setCell ⟨g, k * 3 + 2, none⟩ (.slice pz ym.ms.length cz)) y.2 y.1.ms := fun y hy => (hy2 y hy).over (M.flat _) hcs _
      replace hbel := hbel.setCell (p := ⟨g, k * 3 + 2, none⟩) (show w.heap.size ≤ g by omega) (.slice pz ym.ms.length cz)
      replace hB : w.heap.size + 2 ≤ (w5.setCell ⟨g, k * 3 + 2, none⟩ (.slice pz ym.ms.length cz)).heap.size := by rw [World.size_setCell]; exact hB
      rw [← rows_set Mb.len zs k 2 hkz (ym, .slice pz ym.ms.length cz) _ (by decide) (by rw [HY.out]; rfl)] at hom
      generalize w5.setCell ⟨g, k * 3 + 2, none⟩ (.slice pz ym.ms.length cz) = w6 at R0 R1 hoa hot hom hny hy2 hOB e6 hbel hB ⊢
      have hOB2 : OwnB (w.heap.size + 2) w6 ((zs.set k (ym, .slice pz ym.ms.length cz)).take (k + 1)) := by
        rw [List.take_succ_eq_append_getElem (by rw [List.length_set]; exact hkz), List.getElem_set_self, List.take_set_of_le (Nat.le_refl _)]
        exact hOB.snoc e6 hnw
      have hzs2 : (zs.set k (ym, .slice pz ym.ms.length cz)).map (·.1) = x.mb := by
        rw [List.map_set, ← hzs]
        apply List.ext_getElem?
        intro j
        by_cases e : k = j
        · subst e
          rw [List.getElem?_set_self (by simpa using hkz), List.getElem?_eq_getElem (by simpa using hkz), List.getElem_map, HY.out]
        · rw [List.getElem?_set_ne e]
      clear hcs hcg hfz hb6 e5 HY hyk hOB e6 hnw
      go_wp2_with fail
      go_roundw
      case rel =>
        refine ⟨k + 1, by simp, by omega, R0, R1, hoa, hot, ⟨_, hzs2, hom, (fun y hy => ?_), hOB2⟩, hbel, hB⟩
        rcases List.mem_or_eq_of_mem_set hy with h | h
        · exact hy2 y h
        · subst h
          exact hny
      case measure => simp [intOf]; omega
    · obtain rfl : k = x.mb.length := by omega
      have hlt' : ¬ (x.mb.length : Int) < (x.mb.length : Int) := by omega
      have c3 : wr.cell? ⟨w.heap.size, 5, none⟩ = some (.slice pe x.el.length ce) := R0.cell 5
      go_wp2_with fail
      clear c3 hlt hlt' hk
      obtain ⟨ms, hms⟩ : ∃ ms, ms = zs := ⟨_, rfl⟩
      rw [List.take_of_length_le (by omega)] at hOB
      rw [← hms] at hom hOB hzs
      clear hy2
      have hzm := hzs
      clear hms hzl hzs
      obtain ⟨es, hes, he1, he2⟩ := HF.out.e.later hbel
      refine (clone43_any _ _ _ _ he1 hs.e (El.one he2)).mono ?_
      rintro e w4 ⟨u_, rfl, hoe, hb1⟩
      obtain ⟨qe, de, rfl⟩ := own_sl hoe
      replace hoe := own_mono hoe hB
      replace hoa := own_later hoa hb1
      replace hot := own_later hot hb1
      replace hom := own_later hom hb1
      replace hOB := hOB.later hb1
      replace he2 : ∀ y ∈ es, MHas w4 y.2 y.1.gone := fun y hy => (he2 y hy).later hb1
      replace R0 := R0.later hb1
      replace R1 := R1.later hb1
      replace hbel := below_on hbel hb1
      replace hB := Nat.le_trans hB hb1.size
      clear hb1 he1
      have c2 : w4.cell? ⟨w.heap.size, 5, none⟩ = some (.slice pe x.el.length ce) := R0.cell 5
      have f2 : w4.frozen? ⟨w.heap.size, 5, none⟩ = false := R0.frozen 5
      replace hOB := hOB.cell (b := w.heap.size) (by omega) 5 (.slice qe x.el.length de)
      replace he2 : ∀ y ∈ es, MHas (w4.setCell ⟨w.heap.size, 5, none⟩ (.slice qe x.el.length de)) y.2 y.1.gone := fun y hy => (he2 y hy).over (M.flat _) c2 _
      replace R0 : Rw (w4.setCell ⟨w.heap.size, 5, none⟩ (.slice qe x.el.length de)) w.heap.size 27 (cvc x.k x.b (.slice qa x.am.length da) (.slice qt x.wr.length dt) (.slice qm x.mb.length dm) (.slice qe x.el.length de)) := R0.set 5 _
      replace R1 := R1.setOther (q := w.heap.size) (by omega) 5 (.slice qe x.el.length de)
      replace hbel := hbel.setCell (p := ⟨w.heap.size, 5, none⟩) (Nat.le_refl _) (.slice qe x.el.length de)
      replace hB : w.heap.size + 2 ≤ (w4.setCell ⟨w.heap.size, 5, none⟩ (.slice qe x.el.length de)).heap.size := by rw [World.size_setCell]; exact hB
      replace hoa := own_over hoa (b := w.heap.size) (fun k hk => by have := (World.ownsRow.lt hoa k hk).1; omega) 5 (.slice qe x.el.length de)
      replace hot := own_over hot (b := w.heap.size) (fun k hk => by have := (World.ownsRow.lt hot k hk).1; omega) 5 (.slice qe x.el.length de)
      replace hom := own_over hom (b := w.heap.size) (fun k hk => by have := (World.ownsRow.lt hom k hk).1; omega) 5 (.slice qe x.el.length de)
      replace hoe := own_over hoe (b := w.heap.size) (fun k hk => by have := (World.ownsRow.lt hoe k hk).1; omega) 5 (.slice qe x.el.length de)
      generalize hW : w4.setCell ⟨w.heap.size, 5, none⟩ (.slice qe x.el.length de) = v5 at R0 R1 hbel hB hoa hot hom hoe hOB he2
      have c3 : v5.cell? ⟨w.heap.size, 5, none⟩ = some (.slice qe x.el.length de) := R0.cell 5
      go_wp2_with (first | rw [hW])
      clear hW c2 f2 c3
      go_loopw [43] (fun vi wr => ∃ k : Nat, vi = .int .i64 k ∧ k ≤ x.el.length ∧ Rw wr w.heap.size 27 (cvc x.k x.b (.slice qa x.am.length da) (.slice qt x.wr.length dt) (.slice qm x.mb.length dm) (.slice qe x.el.length de)) ∧ Rw wr (w.heap.size + 1) 27 (cvc 0 0 (.slice none 0 0) (.slice none 0 0) (.slice none 0 0) (.slice none 0 0)) ∧ wr.ownsRow (w.heap.size + 2) 78 4 (.slice qa x.am.length da) x.am.length (rows A.cells x.am) ∧ wr.ownsRow (w.heap.size + 2) 63 5 (.slice qt x.wr.length dt) x.wr.length (rows Wt.cells x.wr) ∧ wr.ownsRow (w.heap.size + 2) 65 3 (.slice qm x.mb.length dm) x.mb.length (rows Mb.cells ms) ∧ OwnB (w.heap.size + 2) wr ms ∧ (∃ zs : List (El × Value), zs.map (·.1) = x.el ∧ wr.ownsRow (w.heap.size + 2) 43 9 (.slice qe x.el.length de) x.el.length (rows El.cells zs) ∧ (∀ y ∈ zs, MHas wr y.2 y.1.gone) ∧ OwnG (w.heap.size + 2) wr (zs.take k)) ∧ Below w.heap.size w wr ∧ w.heap.size + 2 ≤ wr.heap.size) (fun vi _ => x.el.length - (intOf vi).toNat)
      case atStart => exact ⟨0, rfl, by omega, R0, R1, hoa, hot, hom, hOB, ⟨es, hes, hoe, he2, (fun _ h => by cases h)⟩, hbel, hB⟩
      case round =>
        clear R0 R1 hoa hot hom hOB hoe he2 hes es hbel hB
        obtain ⟨k, rfl, hk, R0, R1, hoa, hot, hom, hm2, ⟨zs, hzs, hoe, hy2, hOG⟩, hbel, hB⟩ := hrel
        have hm100 := hs.e
        have hzl : zs.length = x.el.length := by rw [← hzs, List.length_map]
        by_cases hlt : k < x.el.length
        · have hlt' : (k : Int) < (x.el.length : Int) := by omega
          obtain ⟨g, rfl, hg⟩ := own_some hoe (by omega)
          have hkz : k < zs.length := by omega
          have hin := hs.ei
          rw [← hzs] at hin
          have hyk := hy2 zs[k] (List.getElem_mem _)
          have hik : zs[k].1.gone.length ≤ 100 := hin zs[k].1 (List.mem_map_of_mem (List.getElem_mem _))
          clear hin
          have d : wr.rangeAt g (k * 9) (El.cells zs[k]) := fun j u hu => by
            rw [hoe.cellAt (k * 9 + j) (by have := (List.getElem?_eq_some_iff.1 hu).1; simp at this; omega)]
            exact rows_at El.len zs k hkz j u hu
          have hcg : wr.cell? ⟨g, k * 9 + 8, none⟩ = some zs[k].2 := d 8 _ rfl
          obtain ⟨y, HY⟩ := hid_ex zs[k]
          rw [HY.out] at d hyk hik hcg
          obtain ⟨ym, yv⟩ := y
          replace hyk : MHas wr yv ym.gone := hyk
          replace hik : ym.gone.length ≤ 100 := hik
          replace hcg : wr.cell? ⟨g, k * 9 + 8, none⟩ = some yv := hcg
          replace d : wr.rangeAt g (k * 9) [Value.int .i64 ym.p, .int .i64 ym.s, .int .i64 ym.i, .int .i64 ym.t, .int .i64 ym.q, .int .i64 ym.u, .int .i64 ym.j, .string ym.x, yv] := d
          obtain ⟨py, cy, rfl⟩ := hyk.slice
          have z63 : (Try.prog.info? 43).map (·.size) = some [Value.int .i64 ym.p, .int .i64 ym.s, .int .i64 ym.i, .int .i64 ym.t, .int .i64 ym.q, .int .i64 ym.u, .int .i64 ym.j, .string ym.x, .slice py ym.gone.length cy].length := size43
          have RB := rw_new wr 43 #[.int .i64 ym.p, .int .i64 ym.s, .int .i64 ym.i, .int .i64 ym.t, .int .i64 ym.q, .int .i64 ym.u, .int .i64 ym.j, .string ym.x, .slice py ym.gone.length cy]
          have hba := bel_alloc (Below.refl wr.heap.size wr) (.cells #[.int .i64 ym.p, .int .i64 ym.s, .int .i64 ym.i, .int .i64 ym.t, .int .i64 ym.q, .int .i64 ym.u, .int .i64 ym.j, .string ym.x, .slice py ym.gone.length cy] 43)
          have hsz : wr.heap.size < (wr.alloc (.cells #[.int .i64 ym.p, .int .i64 ym.s, .int .i64 ym.i, .int .i64 ym.t, .int .i64 ym.q, .int .i64 ym.u, .int .i64 ym.j, .string ym.x, .slice py ym.gone.length cy] 43)).heap.size := by simp
          generalize hW : wr.alloc (.cells #[.int .i64 ym.p, .int .i64 ym.s, .int .i64 ym.i, .int .i64 ym.t, .int .i64 ym.q, .int .i64 ym.u, .int .i64 ym.j, .string ym.x, .slice py ym.gone.length cy] 43) = wx at RB hba hsz
          go_wp2_with (first | rw [hW] | refine load_m 43 _ rfl rfl _ _ rfl d Try.underlying43 rfl z63 ?_)
          clear hW
          have hS : Calm.Stays (fun w' => Below wx.heap.size wx w') := fun wa wb h hb => below_on h hb
          have hF : Facts.Stay [pF 0 (eqP (.pointer (some ⟨w.heap.size, 5, none⟩))), pF 1 (eqP (.slice (some ⟨g, 0, none⟩) x.el.length de)), pF 2 (eqP (.int .i64 k)), pF 3 (eqP (.pointer (some ⟨wr.heap.size, 8, none⟩))), pF 4 (eqP (.slice py ym.gone.length cy)), pF 5 (ownP wx.heap.size 39 3 ym.gone.length (rows M.cells ym.gone))] := stay_of (by simp only [List.forall_mem_cons]; exact ⟨⟨_, _, rfl, eqP_keeps _⟩, ⟨_, _, rfl, eqP_keeps _⟩, ⟨_, _, rfl, eqP_keeps _⟩, ⟨_, _, rfl, eqP_keeps _⟩, ⟨_, _, rfl, eqP_keeps _⟩, ⟨_, _, rfl, ownP_keeps _ _ _ _ _⟩, fun _ h => by cases h⟩)
          refine Facts.regionTail (by kernel_rfl) (by kernel_rfl) 6 (by decide) (by kernel_rfl) (fun w' => Below wx.heap.size wx w') (fun xv => { tmps := #[CV x.k x.b (Value.slice pa x.am.length ca') (Value.slice pw x.wr.length cw) (Value.slice pm x.mb.length cm) (Value.slice pe x.el.length ce), Value.pointer (some { block := w.heap.size, off := 0 }), Value.pointer (some { block := w.heap.size + 1, off := 0 }), u3, u4, Value.int IntKind.i64 ↑k, Value.pointer (some { block := wr.heap.size, off := 0 }), Value.pointer (some { block := w.heap.size, off := 2 }), Value.slice pa x.am.length ca', Value.slice qa x.am.length da, Value.pointer (some { block := w.heap.size, off := 2 }), Value.pointer (some { block := w.heap.size, off := 3 }), Value.slice pw x.wr.length cw, Value.slice qt x.wr.length dt, Value.pointer (some { block := w.heap.size, off := 3 }), Value.pointer (some { block := w.heap.size, off := 4 }), Value.slice pm x.mb.length cm, Value.slice qm x.mb.length dm, Value.pointer (some { block := w.heap.size, off := 4 }), Value.pointer (some { block := w.heap.size, off := 4 }), Value.slice qm x.mb.length dm, Value.int IntKind.i64 ↑x.mb.length, Value.int IntKind.i64 ↑x.mb.length, Value.bool false, u24, u25, u26, u27, u28, u29, u30, u31, u32, u33, u34, u35, Value.pointer (some { block := w.heap.size, off := 5 }), Value.slice pe x.el.length ce, Value.slice (some { block := g, off := 0 }) x.el.length de, Value.pointer (some { block := w.heap.size, off := 5 }), Value.pointer (some { block := w.heap.size, off := 5 }), Value.slice (some { block := g, off := 0 }) x.el.length de, Value.int IntKind.i64 ↑x.el.length, Value.int IntKind.i64 ↑k, Value.bool true, Value.int IntKind.i64 ↑k, Value.pointer (some { block := g, off := k * 9 }), Value.agg #[Value.int IntKind.i64 ym.p, Value.int IntKind.i64 ym.s, Value.int IntKind.i64 ym.i, Value.int IntKind.i64 ym.t, Value.int IntKind.i64 ym.q, Value.int IntKind.i64 ym.u, Value.int IntKind.i64 ym.j, Value.string ym.x, Value.slice py ym.gone.length cy], xv 0, xv 1, xv 2, xv 3, xv 4, xv 5, u54, u55, u56, undef], defers := [] }) [pF 0 (eqP (.pointer (some ⟨w.heap.size, 5, none⟩))), pF 1 (eqP (.slice (some ⟨g, 0, none⟩) x.el.length de)), pF 2 (eqP (.int .i64 k)), pF 3 (eqP (.pointer (some ⟨wr.heap.size, 8, none⟩))), pF 4 (eqP (.slice py ym.gone.length cy)), pF 5 (ownP wx.heap.size 39 3 ym.gone.length (rows M.cells ym.gone))] _ rfl rfl (by kernel_rfl) (fun j => [u48, u49, u50, u51, u52, u53].getD j undef) rfl (Below.refl _ wx).drew ⟨?_, ?_, ?_, ?_, ?_, ?_, ?_, ?_, ?_, trivial⟩ ?_
          · exact fun _ => Facts.pureP hS hF (fun _ _ => rfl) rfl (fun xv wv hSw hd => by
              go_simp)
          · exact fun _ => Facts.pureP hS hF (fun _ _ => rfl) rfl (fun xv wv hSw hd => by
              have d0 : xv 0 = _ := pF_get (hd ⟨0, .data⟩ (by simp) rfl _ rfl)
              have g1 : wx.cell? ⟨w.heap.size, 5, none⟩ = some (.slice (some ⟨g, 0, none⟩) x.el.length de) := (R0.later hba).cell 5
              have g2 := cell_later hSw g1
              have g3 : wx.cell? ⟨wr.heap.size, 8, none⟩ = some (.slice py ym.gone.length cy) := RB.cell 8
              have g4 := cell_later hSw g3
              simp only [d0]
              go_simp)
          · exact fun _ => Facts.pureP hS hF (fun _ _ => rfl) rfl (fun xv wv hSw hd => by
              go_simp)
          · exact fun _ => Facts.pureP hS hF (fun _ _ => rfl) rfl (fun xv wv hSw hd => by
              go_simp)
          · exact fun _ => Facts.pureP hS hF (fun _ _ => rfl) rfl (fun xv wv hSw hd => by
              have d3 : xv 3 = _ := pF_get (hd ⟨3, .data⟩ (by simp) rfl _ rfl)
              have g1 : wx.cell? ⟨w.heap.size, 5, none⟩ = some (.slice (some ⟨g, 0, none⟩) x.el.length de) := (R0.later hba).cell 5
              have g2 := cell_later hSw g1
              have g3 : wx.cell? ⟨wr.heap.size, 8, none⟩ = some (.slice py ym.gone.length cy) := RB.cell 8
              have g4 := cell_later hSw g3
              simp only [d3]
              go_simp)
          · refine fun _ => Facts.call1P hS hF (fun _ _ => rfl) rfl (by kernel_rfl) rfl (fun xv wv hSw hd => ?_)
            have d4 : xv 4 = _ := pF_get (hd ⟨4, .data⟩ (by simp) rfl _ rfl)
            rw [show Act.eval _ _ = xv 4 from rfl, d4]
            refine (clone39_any _ _ _ _ ((hyk.later hba).later hSw) hik (rows_all M.one _)).mono ?_
            rintro e w' ⟨u, he, ho, hb⟩
            exact ⟨u, he, own_mono ho hSw.size, hb⟩
          · exact fun h => absurd h (by decide)
          · exact fun h => absurd h (by decide)
          · exact fun h => absurd h (by decide)
          intro x9 w5 hb5 hf
          have e1 : x9 1 = _ := pF_get (hf 1 _ rfl)
          have e2 : x9 2 = _ := pF_get (hf 2 _ rfl)
          have e5 := pF_get (hf 5 _ rfl)
          replace e5 : w5.ownsRow wx.heap.size 39 3 (x9 5) ym.gone.length (rows M.cells ym.gone) := e5
          clear hS hF hf
          obtain ⟨pz, cz, hz⟩ := own_sl e5
          rw [hz] at e5
          replace e5 := own_mono e5 (Nat.le_trans hB hba.size)
          have hb6 := below_on hba hb5
          clear hba hb5 RB d
          replace R0 := R0.later hb6
          replace R1 := R1.later hb6
          replace hoa := own_later hoa hb6
          replace hot := own_later hot hb6
          replace hom := own_later hom hb6
          replace hm2 := hm2.later hb6
          replace hoe := own_later hoe hb6
          replace hOG := hOG.later hb6
          replace hy2 : ∀ y ∈ zs, MHas w5 y.2 y.1.gone := fun y hy => (hy2 y hy).later hb6
          replace hcg := cell_later hb6 hcg
          replace hbel := below_on hbel hb6
          replace hB := Nat.le_trans hB hb6.size
          have hfz := hoe.frozenAt (k * 9 + 8)
          have hkI : (0 : Int) ≤ (k : Int) := by omega
          refine tail_pure (v := .pointer (some ⟨g, k * 9, none⟩)) (by go_simp) ?_
          refine tail_pure (v := .pointer (some ⟨g, k * 9 + 8, none⟩)) (by go_simp) ?_
          refine tail_store 41 _ _ rfl _ _ rfl (show _ = Value.slice pz ym.gone.length cz from hz) (store59 hcg hfz) ?_
          refine Facts.tailWp_nil ?_
          have hcs : w5.cell? ⟨g, k * 9 + 8, none⟩ = some (.slice py ym.gone.length cy) := hcg
          have htag1 := own_tag hoa hoe (by decide) (g := g) rfl
          have htag2 := own_tag hot hoe (by decide) (g := g) rfl
          have htag3 := own_tag hom hoe (by decide) (g := g) rfl
          replace hm2 := hm2.tag hoe (by decide) (g := g) rfl (k * 9 + 8) (.slice pz ym.gone.length cz)
          replace R0 := R0.setOther (q := g) (by omega) (k * 9 + 8) (.slice pz ym.gone.length cz)
          replace R1 := R1.setOther (q := g) (by omega) (k * 9 + 8) (.slice pz ym.gone.length cz)
          replace hoa := own_over hoa htag1 (k * 9 + 8) (.slice pz ym.gone.length cz)
          replace hot := own_over hot htag2 (k * 9 + 8) (.slice pz ym.gone.length cz)
          replace hom := own_over hom htag3 (k * 9 + 8) (.slice pz ym.gone.length cz)
          have e6 := own_over e5 (own_tag e5 hoe (by decide) (g := g) rfl) (k * 9 + 8) (.slice pz ym.gone.length cz)
          replace hOG := hOG.tag hoe (by decide) (g := g) rfl (k * 9 + 8) (.slice pz ym.gone.length cz)
          replace hoe := (hoe.stored (k * 9 + 8) (.slice pz ym.gone.length cz)).1
          have hny : MHas (w5.setCell ⟨g, k * 9 + 8, none⟩ (.slice pz ym.gone.length cz)) (.slice pz ym.gone.length cz) ym.gone := (own_sh e5).over (M.flat _) hcs _
          replace hy2 : ∀ y ∈ zs, MHas (w5.setCell ⟨g, k * 9 + 8, none⟩ (.slice pz ym.gone.length cz)) y.2 y.1.gone := fun y hy => (hy2 y hy).over (M.flat _) hcs _
          replace hbel := hbel.setCell (p := ⟨g, k * 9 + 8, none⟩) (show w.heap.size ≤ g by omega) (.slice pz ym.gone.length cz)
          replace hB : w.heap.size + 2 ≤ (w5.setCell ⟨g, k * 9 + 8, none⟩ (.slice pz ym.gone.length cz)).heap.size := by rw [World.size_setCell]; exact hB
          rw [← rows_set El.len zs k 8 hkz (ym, .slice pz ym.gone.length cz) _ (by decide) (by rw [HY.out]; rfl)] at hoe
          generalize w5.setCell ⟨g, k * 9 + 8, none⟩ (.slice pz ym.gone.length cz) = w6 at R0 R1 hoa hot hom hm2 hoe hny hy2 hOG e6 hbel hB ⊢
          have hzs2 : (zs.set k (ym, .slice pz ym.gone.length cz)).map (·.1) = x.el := by
            rw [List.map_set, ← hzs]
            apply List.ext_getElem?
            intro j
            by_cases e : k = j
            · subst e
              rw [List.getElem?_set_self (by simpa using hkz), List.getElem?_eq_getElem (by simpa using hkz), List.getElem_map, HY.out]
            · rw [List.getElem?_set_ne e]
          have hOG2 : OwnG (w.heap.size + 2) w6 ((zs.set k (ym, .slice pz ym.gone.length cz)).take (k + 1)) := by
            rw [List.take_succ_eq_append_getElem (by rw [List.length_set]; exact hkz), List.getElem_set_self, List.take_set_of_le (Nat.le_refl _)]
            intro y hy
            rcases List.mem_append.1 hy with h | h
            · exact hOG y h
            · rw [List.mem_singleton.1 h]
              exact e6
          clear hcs hcg hfz hb6 e5 HY hyk hOG e6
          go_wp2_with fail
          go_roundw
          case rel =>
            refine ⟨k + 1, by simp, by omega, R0, R1, hoa, hot, hom, hm2, ⟨_, hzs2, hoe, (fun y hy => ?_), hOG2⟩, hbel, hB⟩
            rcases List.mem_or_eq_of_mem_set hy with h | h
            · exact hy2 y h
            · subst h
              exact hny
          case measure => simp [intOf]; omega
        · have hlt' : ¬ (k : Int) < (x.el.length : Int) := by omega
          have hsz9 : (cvc x.k x.b (.slice qa x.am.length da) (.slice qt x.wr.length dt) (.slice qm x.mb.length dm) (.slice qe x.el.length de)).size = 6 := rfl
          go_wp2_with (first | refine load_r 27 _ rfl rfl _ rfl R0 Try.underlying27 rfl size27 ?_ | refine store_r rfl 27 _ _ rfl _ (cvc x.k x.b (.slice qa x.am.length da) (.slice qt x.wr.length dt) (.slice qm x.mb.length dm) (.slice qe x.el.length de)) rfl rfl R1 size27 rfl (by simp [Value.oneCell']) ?_)
          refine bodyPost_ret (results_r rfl rfl (R1.row _) rfl Try.underlying27 size27) rfl ?_
          exact ⟨_, _, _, _, rfl, ⟨own_mono (own_row hoa (by omega) _) (by omega), own_mono (own_row hot (by omega) _) (by omega), ⟨ms, hzm, own_mono (own_row hom (by omega) _) (by omega), (hm2.row (by omega) _).mono (by omega)⟩, ⟨zs, hzs, own_mono (own_row hoe (by omega) _) (by omega), ((show OwnG (w.heap.size + 2) wr zs by rw [List.take_of_length_le (by omega)] at hOG; exact hOG).row (by omega) _).mono (by omega)⟩⟩, below_setRow hbel (by omega) _⟩
end Go.Proofs.Ytfjpbmdmkcihcaa
/- Ins of package seq. -/
namespace Go.Proofs.Ytfjpbmdmkcihcaa
open Go.RowKit

/-- An element is put in where it belongs. -/
def insE (e : El) (l : List El) : List El := l.filter (fun y => kl (kE y) (kE e)) ++ e :: l.filter (fun y => !kl (kE y) (kE e))
theorem insE_at {e : El} {l : List El} {k : Nat} (h1 : ∀ j (h : j < l.length), j < k → kl (kE l[j]) (kE e) = true) (h2 : ∀ j (h : j < l.length), k ≤ j → kl (kE l[j]) (kE e) = false) : l.take k ++ e :: l.drop k = insE e l := by
  have e1 : l.filter (fun y => kl (kE y) (kE e)) = l.take k := by
    conv => lhs; rw [← List.take_append_drop k l]
    rw [List.filter_append, List.filter_eq_self.2, List.filter_eq_nil_iff.2, List.append_nil]
    · intro a ha
      obtain ⟨j, hj, rfl⟩ := List.getElem_of_mem ha
      rw [List.getElem_drop]
      rw [List.length_drop] at hj
      simp [h2 (k + j) (by omega) (by omega)]
    · intro a ha
      obtain ⟨j, hj, rfl⟩ := List.getElem_of_mem ha
      rw [List.getElem_take]
      rw [List.length_take] at hj
      exact h1 j (by omega) (by omega)
  have e2 : l.filter (fun y => !kl (kE y) (kE e)) = l.drop k := by
    conv => lhs; rw [← List.take_append_drop k l]
    rw [List.filter_append, List.filter_eq_nil_iff.2, List.filter_eq_self.2, List.nil_append]
    · intro a ha
      obtain ⟨j, hj, rfl⟩ := List.getElem_of_mem ha
      rw [List.getElem_drop]
      rw [List.length_drop] at hj
      simp [h2 (k + j) (by omega) (by omega)]
    · intro a ha
      obtain ⟨j, hj, rfl⟩ := List.getElem_of_mem ha
      rw [List.getElem_take]
      rw [List.length_take] at hj
      simp [h1 j (by omega) (by omega)]
  unfold insE
  rw [e1, e2]
theorem own_kp {w w' : World} {B e S n : Nat} {v : Value} {xs : List Value} (h : w.ownsRow B e S v n xs) {o : Option Nat} (hk : Kp o w w') (hne : ∀ k, v.ownBlock = some k → o ≠ some k) : w'.ownsRow B e S v n xs := by
  obtain ⟨h1, ⟨rfl, h0⟩ | ⟨g, cap, cur, rfl, hbg, hg, h2⟩⟩ := h
  · exact ⟨h1, .inl ⟨rfl, h0⟩⟩
  · exact ⟨h1, .inr ⟨g, cap, cur, rfl, hbg, (hk g (Array.getElem?_eq_some_iff.1 hg).1 (hne g rfl)).trans hg, h2⟩⟩
/-- What Ins makes of a cell. -/
def insX (x : X) (e : El) (p : M → Bool) : X := if (ck x && (ie e && (tk x.el (rE e) p && !(pl x.el (kE e)).isSome))) = true then { x with el := insE e x.el } else x
set_option maxHeartbeats 4000000 in
set_option maxRecDepth 100000 in
theorem ins_any (x : X) (va vw vm ve : Value) (q u : Int) (v : List Int) (t : Int) (sl : Value) (idx : Int) (r : M) (s : ByteArray) (w : World) (hv : v.length = 13) (h : Four w x va vw vm ve) (hs : Sm x) :
    Calls Try.prog 14 #[CV x.k x.b va vw vm ve, TxV q u v t sl, .int .i64 idx, MV r.p r.s r.i, .string s] w (Gives (insX x ⟨q, u, idx, t, r.p, r.s, r.i, s, []⟩ (bfP q u v idx)) w) := by
  obtain ⟨pa, ca', pw, cw, pm, cm, pe, ce', rfl, rfl, rfl, rfl⟩ := h.slices
  have HF : Hid (Four w x (.slice pa x.am.length ca') (.slice pw x.wr.length cw) (.slice pm x.mb.length cm) (.slice pe x.el.length ce')) := h
  clear h
  obtain ⟨z, HZ⟩ := hid_ex (insX x ⟨q, u, idx, t, r.p, r.s, r.i, s, []⟩ (bfP q u v idx))
  rw [HZ.out]
  have R0 := (((((rw_new w 27 (cvc x.k x.b (.slice pa x.am.length ca') (.slice pw x.wr.length cw) (.slice pm x.mb.length cm) (.slice pe x.el.length ce'))).alloc (.cells (txc q u v t sl).toArray 34)).alloc (.cells #[.int .i64 r.p, .int .i64 r.s, .int .i64 r.i] 39)).alloc (.cells (cvc 0 0 (.slice none 0 0) (.slice none 0 0) (.slice none 0 0) (.slice none 0 0)) 27)).alloc (.cells #[.int .i64 q, .int .i64 u, .int .i64 idx, .int .i64 t, .int .i64 r.p, .int .i64 r.s, .int .i64 r.i, .string s, .slice none 0 0] 43))
  have R1 := ((((rw_new (w.alloc (.cells (cvc x.k x.b (.slice pa x.am.length ca') (.slice pw x.wr.length cw) (.slice pm x.mb.length cm) (.slice pe x.el.length ce')) 27)) 34 (txc q u v t sl).toArray).alloc (.cells #[.int .i64 r.p, .int .i64 r.s, .int .i64 r.i] 39)).alloc (.cells (cvc 0 0 (.slice none 0 0) (.slice none 0 0) (.slice none 0 0) (.slice none 0 0)) 27)).alloc (.cells #[.int .i64 q, .int .i64 u, .int .i64 idx, .int .i64 t, .int .i64 r.p, .int .i64 r.s, .int .i64 r.i, .string s, .slice none 0 0] 43))
  have R2 := (((rw_new ((w.alloc (.cells (cvc x.k x.b (.slice pa x.am.length ca') (.slice pw x.wr.length cw) (.slice pm x.mb.length cm) (.slice pe x.el.length ce')) 27)).alloc (.cells (txc q u v t sl).toArray 34)) 39 #[.int .i64 r.p, .int .i64 r.s, .int .i64 r.i]).alloc (.cells (cvc 0 0 (.slice none 0 0) (.slice none 0 0) (.slice none 0 0) (.slice none 0 0)) 27)).alloc (.cells #[.int .i64 q, .int .i64 u, .int .i64 idx, .int .i64 t, .int .i64 r.p, .int .i64 r.s, .int .i64 r.i, .string s, .slice none 0 0] 43))
  have R3 := ((rw_new (((w.alloc (.cells (cvc x.k x.b (.slice pa x.am.length ca') (.slice pw x.wr.length cw) (.slice pm x.mb.length cm) (.slice pe x.el.length ce')) 27)).alloc (.cells (txc q u v t sl).toArray 34)).alloc (.cells #[.int .i64 r.p, .int .i64 r.s, .int .i64 r.i] 39)) 27 (cvc 0 0 (.slice none 0 0) (.slice none 0 0) (.slice none 0 0) (.slice none 0 0))).alloc (.cells #[.int .i64 q, .int .i64 u, .int .i64 idx, .int .i64 t, .int .i64 r.p, .int .i64 r.s, .int .i64 r.i, .string s, .slice none 0 0] 43))
  have R5 := (rw_new ((((w.alloc (.cells (cvc x.k x.b (.slice pa x.am.length ca') (.slice pw x.wr.length cw) (.slice pm x.mb.length cm) (.slice pe x.el.length ce')) 27)).alloc (.cells (txc q u v t sl).toArray 34)).alloc (.cells #[.int .i64 r.p, .int .i64 r.s, .int .i64 r.i] 39)).alloc (.cells (cvc 0 0 (.slice none 0 0) (.slice none 0 0) (.slice none 0 0) (.slice none 0 0)) 27)) 43 #[.int .i64 q, .int .i64 u, .int .i64 idx, .int .i64 t, .int .i64 r.p, .int .i64 r.s, .int .i64 r.i, .string s, .slice none 0 0])
  have hbel := (bel_alloc (bel_alloc (bel_alloc (bel_alloc (bel_alloc (Below.refl w.heap.size w) (.cells (cvc x.k x.b (.slice pa x.am.length ca') (.slice pw x.wr.length cw) (.slice pm x.mb.length cm) (.slice pe x.el.length ce')) 27)) (.cells (txc q u v t sl).toArray 34)) (.cells #[.int .i64 r.p, .int .i64 r.s, .int .i64 r.i] 39)) (.cells (cvc 0 0 (.slice none 0 0) (.slice none 0 0) (.slice none 0 0) (.slice none 0 0)) 27)) (.cells #[.int .i64 q, .int .i64 u, .int .i64 idx, .int .i64 t, .int .i64 r.p, .int .i64 r.s, .int .i64 r.i, .string s, .slice none 0 0] 43))
  have hsz : (((((w.alloc (.cells (cvc x.k x.b (.slice pa x.am.length ca') (.slice pw x.wr.length cw) (.slice pm x.mb.length cm) (.slice pe x.el.length ce')) 27)).alloc (.cells (txc q u v t sl).toArray 34)).alloc (.cells #[.int .i64 r.p, .int .i64 r.s, .int .i64 r.i] 39)).alloc (.cells (cvc 0 0 (.slice none 0 0) (.slice none 0 0) (.slice none 0 0) (.slice none 0 0)) 27)).alloc (.cells #[.int .i64 q, .int .i64 u, .int .i64 idx, .int .i64 t, .int .i64 r.p, .int .i64 r.s, .int .i64 r.i, .string s, .slice none 0 0] 43)).heap.size = w.heap.size + 5 := by simp
  have d0 : ((((w.alloc (.cells (cvc x.k x.b (.slice pa x.am.length ca') (.slice pw x.wr.length cw) (.slice pm x.mb.length cm) (.slice pe x.el.length ce')) 27)).alloc (.cells (txc q u v t sl).toArray 34)).alloc (.cells #[.int .i64 r.p, .int .i64 r.s, .int .i64 r.i] 39)).alloc (.cells (cvc 0 0 (.slice none 0 0) (.slice none 0 0) (.slice none 0 0) (.slice none 0 0)) 27)).rangeAt (w.heap.size + 1) 0 [.int .i64 q, .int .i64 u] := Rw.range (((rw_next (w.alloc (.cells (cvc x.k x.b (.slice pa x.am.length ca') (.slice pw x.wr.length cw) (.slice pm x.mb.length cm) (.slice pe x.el.length ce')) 27)) (by simp) 34 (txc q u v t sl).toArray).alloc (.cells #[.int .i64 r.p, .int .i64 r.s, .int .i64 r.i] 39)).alloc (.cells (cvc 0 0 (.slice none 0 0) (.slice none 0 0) (.slice none 0 0) (.slice none 0 0)) 27)) 0 _ fun j u hu => by
    match j, hu with
    | 0, hu => exact hu
    | 1, hu => exact hu
    | j + 2, hu => simp at hu
  have ct : ((((w.alloc (.cells (cvc x.k x.b (.slice pa x.am.length ca') (.slice pw x.wr.length cw) (.slice pm x.mb.length cm) (.slice pe x.el.length ce')) 27)).alloc (.cells (txc q u v t sl).toArray 34)).alloc (.cells #[.int .i64 r.p, .int .i64 r.s, .int .i64 r.i] 39)).alloc (.cells (cvc 0 0 (.slice none 0 0) (.slice none 0 0) (.slice none 0 0) (.slice none 0 0)) 27)).cell? ⟨w.heap.size + 1, 15, none⟩ = some (.int .i64 t) := by
    exact tx_time (((rw_next (w.alloc (.cells (cvc x.k x.b (.slice pa x.am.length ca') (.slice pw x.wr.length cw) (.slice pm x.mb.length cm) (.slice pe x.el.length ce')) 27)) (by simp) 34 (txc q u v t sl).toArray).alloc (.cells #[.int .i64 r.p, .int .i64 r.s, .int .i64 r.i] 39)).alloc (.cells (cvc 0 0 (.slice none 0 0) (.slice none 0 0) (.slice none 0 0) (.slice none 0 0)) 27)) hv
  have R2' : Rw ((((w.alloc (.cells (cvc x.k x.b (.slice pa x.am.length ca') (.slice pw x.wr.length cw) (.slice pm x.mb.length cm) (.slice pe x.el.length ce')) 27)).alloc (.cells (txc q u v t sl).toArray 34)).alloc (.cells #[.int .i64 r.p, .int .i64 r.s, .int .i64 r.i] 39)).alloc (.cells (cvc 0 0 (.slice none 0 0) (.slice none 0 0) (.slice none 0 0) (.slice none 0 0)) 27)) (w.heap.size + 1 + 1) 39 #[.int .i64 r.p, .int .i64 r.s, .int .i64 r.i] := (rw_next ((w.alloc (.cells (cvc x.k x.b (.slice pa x.am.length ca') (.slice pw x.wr.length cw) (.slice pm x.mb.length cm) (.slice pe x.el.length ce')) 27)).alloc (.cells (txc q u v t sl).toArray 34)) (by simp) 39 #[.int .i64 r.p, .int .i64 r.s, .int .i64 r.i]).alloc (.cells (cvc 0 0 (.slice none 0 0) (.slice none 0 0) (.slice none 0 0) (.slice none 0 0)) 27)
  have z2 : (Try.prog.info? 29).map (·.size) = some [Value.int .i64 q, .int .i64 u].length := size29
  generalize hW4 : ((((w.alloc (.cells (cvc x.k x.b (.slice pa x.am.length ca') (.slice pw x.wr.length cw) (.slice pm x.mb.length cm) (.slice pe x.el.length ce')) 27)).alloc (.cells (txc q u v t sl).toArray 34)).alloc (.cells #[.int .i64 r.p, .int .i64 r.s, .int .i64 r.i] 39)).alloc (.cells (cvc 0 0 (.slice none 0 0) (.slice none 0 0) (.slice none 0 0) (.slice none 0 0)) 27)) = w4 at d0 ct R2' R0 R1 R2 R3 R5 hbel hsz
  simp only [World.size_alloc] at R1 R2 R3
  have hs4 : w4.heap.size = w.heap.size + 4 := by rw [← hW4]; simp
  rw [hs4] at R5
  go_enter Try.func14, Try.ntmps14
  go_wp2_with (first | rw [hW4] | refine load_m 29 _ rfl rfl _ _ rfl d0 Try.underlying29 rfl z2 ?_ | refine load_r 39 _ rfl rfl _ rfl R2' Try.underlying39 rfl size39 ?_ | refine load_r 27 _ rfl rfl _ rfl R0 Try.underlying27 rfl size27 ?_)
  generalize hW : w4.alloc (.cells #[.int .i64 q, .int .i64 u, .int .i64 idx, .int .i64 t, .int .i64 r.p, .int .i64 r.s, .int .i64 r.i, .string s, .slice none 0 0] 43) = w0 at R0 R1 R2 R3 R5 hbel hsz ⊢
  clear hW hW4 d0 ct R2'
  refine (copied_any x _ _ _ _ w0 (HF.out.later hbel) hs).mono ?_
  rintro e w1 ⟨ua, uw, um, ue, rfl, ho, hb1⟩
  obtain ⟨qa, da, qw, dw, qm, dx, qe, de, rfl, rfl, rfl, rfl⟩ := ho.four.slices
  rw [hsz] at ho
  replace R0 := R0.later hb1
  replace R1 := R1.later hb1
  replace R2 := R2.later hb1
  replace R3 := R3.later hb1
  replace R5 := R5.later hb1
  replace hbel := below_on hbel hb1
  have hB : w.heap.size + 5 ≤ w1.heap.size := by have := hb1.size; omega
  clear hb1 hsz hs4
  have ho2 := ho.row (by omega) R0 (cvc x.k x.b (.slice qa x.am.length da) (.slice qw x.wr.length dw) (.slice qm x.mb.length dx) (.slice qe x.el.length de))
  have hbs := below_setRow hbel (Nat.le_refl w.heap.size) (cvc x.k x.b (.slice qa x.am.length da) (.slice qw x.wr.length dw) (.slice qm x.mb.length dx) (.slice qe x.el.length de))
  have hB2 : w.heap.size + 5 ≤ (w1.setRow w.heap.size (cvc x.k x.b (.slice qa x.am.length da) (.slice qw x.wr.length dw) (.slice qm x.mb.length dx) (.slice qe x.el.length de))).heap.size := by simpa [World.setRow] using hB
  replace R1 := R1.rowOther (q := w.heap.size) (by omega) (cvc x.k x.b (.slice qa x.am.length da) (.slice qw x.wr.length dw) (.slice qm x.mb.length dx) (.slice qe x.el.length de))
  replace R2 := R2.rowOther (q := w.heap.size) (by omega) (cvc x.k x.b (.slice qa x.am.length da) (.slice qw x.wr.length dw) (.slice qm x.mb.length dx) (.slice qe x.el.length de))
  replace R3 := R3.rowOther (q := w.heap.size) (by omega) (cvc x.k x.b (.slice qa x.am.length da) (.slice qw x.wr.length dw) (.slice qm x.mb.length dx) (.slice qe x.el.length de))
  replace R5 := R5.rowOther (q := w.heap.size) (by omega) (cvc x.k x.b (.slice qa x.am.length da) (.slice qw x.wr.length dw) (.slice qm x.mb.length dx) (.slice qe x.el.length de))
  have R4 := R0.row (cvc x.k x.b (.slice qa x.am.length da) (.slice qw x.wr.length dw) (.slice qm x.mb.length dx) (.slice qe x.el.length de))
  generalize hW : w1.setRow w.heap.size (cvc x.k x.b (.slice qa x.am.length da) (.slice qw x.wr.length dw) (.slice qm x.mb.length dx) (.slice qe x.el.length de)) = w2 at ho2 hbs hB2 R1 R2 R3 R4 R5
  go_wp2_with (first | rw [hW] | refine store_r rfl 27 _ _ rfl _ (cvc x.k x.b (.slice qa x.am.length da) (.slice qw x.wr.length dw) (.slice qm x.mb.length dx) (.slice qe x.el.length de)) rfl rfl R0 size27 rfl (by simp [Value.oneCell']) ?_ | refine load_r 27 _ rfl rfl _ rfl R4 Try.underlying27 rfl size27 ?_)
  clear hW ho hbel hB R0
  refine (check_any x _ _ _ _ w2 ho2.four hs).mono ?_
  rintro e w3 ⟨rfl, hb1⟩
  replace R1 := R1.later hb1
  replace R2 := R2.later hb1
  replace R3 := R3.later hb1
  replace R4 := R4.later hb1
  replace R5 := R5.later hb1
  replace ho2 := ho2.later hb1
  replace hbs := below_on hbs hb1
  replace hB2 := Nat.le_trans hB2 hb1.size
  clear hb1
  have HQ : Hid (z = if (ck x && (ie ⟨q, u, idx, t, r.p, r.s, r.i, s, []⟩ && (tk x.el (kM r) (bfP q u v idx) && !(pl x.el (q, u, idx)).isSome))) = true then { x with el := insE ⟨q, u, idx, t, r.p, r.s, r.i, s, []⟩ x.el } else x) := by
    show _ = _
    rw [← HZ.out]
    rfl
  clear HZ
  obtain ⟨y1, HY1⟩ := hid_ex (ck x)
  rw [HY1.out] at HQ ⊢
  cases y1
  · have e := HQ.out
    rw [Bool.false_and, if_neg (by decide)] at e
    have e := e.symm
    subst e
    go_wp2_with (first | refine load_r 27 _ rfl rfl _ rfl R4 Try.underlying27 rfl size27 ?_ | refine store_r rfl 27 _ _ rfl _ (cvc x.k x.b (.slice qa x.am.length da) (.slice qw x.wr.length dw) (.slice qm x.mb.length dx) (.slice qe x.el.length de)) rfl rfl R3 size27 rfl (by simp [Value.oneCell']) ?_)
    refine bodyPost_ret (results_r rfl rfl (R3.row (cvc x.k x.b (.slice qa x.am.length da) (.slice qw x.wr.length dw) (.slice qm x.mb.length dx) (.slice qe x.el.length de))) rfl Try.underlying27 size27) rfl ?_
    exact ⟨_, _, _, _, rfl, (ho2.row (by omega) R3 (cvc x.k x.b (.slice qa x.am.length da) (.slice qw x.wr.length dw) (.slice qm x.mb.length dx) (.slice qe x.el.length de))).four, below_setRow hbs (by omega) _⟩
  · have hce : ce x.el = true := (ck_parts HY1.out).2.2.2.2.2.1
    have hup := ce_up hce
    have C1 := isElem_any ⟨q, u, idx, t, r.p, r.s, r.i, s, []⟩ (.slice none 0 0) w3 (SHas.nil w3 3)
    obtain ⟨y2, HY2⟩ := hid_ex (ie ⟨q, u, idx, t, r.p, r.s, r.i, s, []⟩)
    rw [HY2.out] at HQ C1
    go_wp2_with (first | refine load_r 43 _ rfl rfl _ rfl R5 Try.underlying43 rfl size43 ?_)
    refine C1.mono ?_
    clear C1
    rintro e w4 ⟨rfl, hb1⟩
    replace R1 := R1.later hb1
    replace R2 := R2.later hb1
    replace R3 := R3.later hb1
    replace R4 := R4.later hb1
    replace R5 := R5.later hb1
    replace ho2 := ho2.later hb1
    replace hbs := below_on hbs hb1
    replace hB2 := Nat.le_trans hB2 hb1.size
    clear hb1
    cases y2
    · have e := HQ.out
      rw [Bool.false_and, Bool.and_false, if_neg (by decide)] at e
      have e := e.symm
      subst e
      go_wp2_with (first | refine load_r 27 _ rfl rfl _ rfl R4 Try.underlying27 rfl size27 ?_ | refine store_r rfl 27 _ _ rfl _ (cvc x.k x.b (.slice qa x.am.length da) (.slice qw x.wr.length dw) (.slice qm x.mb.length dx) (.slice qe x.el.length de)) rfl rfl R3 size27 rfl (by simp [Value.oneCell']) ?_)
      refine bodyPost_ret (results_r rfl rfl (R3.row (cvc x.k x.b (.slice qa x.am.length da) (.slice qw x.wr.length dw) (.slice qm x.mb.length dx) (.slice qe x.el.length de))) rfl Try.underlying27 size27) rfl ?_
      exact ⟨_, _, _, _, rfl, (ho2.row (by omega) R3 (cvc x.k x.b (.slice qa x.am.length da) (.slice qw x.wr.length dw) (.slice qm x.mb.length dx) (.slice qe x.el.length de))).four, below_setRow hbs (by omega) _⟩
    · have C2 := takes_any (.slice qe x.el.length de) x.el r q u v t sl idx w4 hv ho2.four.e hs.e hs.ei hup
      obtain ⟨y3, HY3⟩ := hid_ex (tk x.el (kM r) (bfP q u v idx))
      rw [HY3.out] at HQ C2
      have cE : w4.cell? ⟨w.heap.size, 5, none⟩ = some (.slice qe x.el.length de) := R4.cell 5
      go_wp2_with (first | refine load_r 39 _ rfl rfl _ rfl R2 Try.underlying39 rfl size39 ?_ | refine load_r 34 _ rfl rfl _ rfl R1 Try.underlying34 rfl (size_tx hv) ?_)
      refine C2.mono ?_
      clear C2 cE
      rintro e w5 ⟨rfl, hb1⟩
      replace R3 := R3.later hb1
      replace R4 := R4.later hb1
      replace R5 := R5.later hb1
      replace ho2 := ho2.later hb1
      replace hbs := below_on hbs hb1
      replace hB2 := Nat.le_trans hB2 hb1.size
      clear hb1
      cases y3
      · have e := HQ.out
        rw [Bool.false_and, Bool.and_false, Bool.and_false, if_neg (by decide)] at e
        have e := e.symm
        subst e
        go_wp2_with (first | refine load_r 27 _ rfl rfl _ rfl R4 Try.underlying27 rfl size27 ?_ | refine store_r rfl 27 _ _ rfl _ (cvc x.k x.b (.slice qa x.am.length da) (.slice qw x.wr.length dw) (.slice qm x.mb.length dx) (.slice qe x.el.length de)) rfl rfl R3 size27 rfl (by simp [Value.oneCell']) ?_)
        refine bodyPost_ret (results_r rfl rfl (R3.row (cvc x.k x.b (.slice qa x.am.length da) (.slice qw x.wr.length dw) (.slice qm x.mb.length dx) (.slice qe x.el.length de))) rfl Try.underlying27 size27) rfl ?_
        exact ⟨_, _, _, _, rfl, (ho2.row (by omega) R3 (cvc x.k x.b (.slice qa x.am.length da) (.slice qw x.wr.length dw) (.slice qm x.mb.length dx) (.slice qe x.el.length de))).four, below_setRow hbs (by omega) _⟩
      · have cE : w5.cell? ⟨w.heap.size, 5, none⟩ = some (.slice qe x.el.length de) := R4.cell 5
        have dm : w5.rangeAt (w.heap.size + 4) 0 [.int .i64 q, .int .i64 u, .int .i64 idx] := R5.range 0 _ fun j u hu => by
          match j, hu with
          | 0, hu => exact hu
          | 1, hu => exact hu
          | 2, hu => exact hu
          | j + 3, hu => simp at hu
        have zm : (Try.prog.info? 39).map (·.size) = some [Value.int .i64 q, .int .i64 u, .int .i64 idx].length := size39
        have C3 := find_any (.slice qe x.el.length de) x.el ⟨q, u, idx⟩ w5 ho2.four.e hs.e hup
        go_wp2_with (first | refine load_m 39 _ rfl rfl _ _ rfl dm Try.underlying39 rfl zm ?_)
        refine C3.mono ?_
        clear C3 cE dm
        rintro e w6 ⟨k, b, rfl, hk, h1, h2, hpl, hb1⟩
        replace R3 := R3.later hb1
        replace R4 := R4.later hb1
        replace R5 := R5.later hb1
        replace ho2 := ho2.later hb1
        replace hbs := below_on hbs hb1
        replace hB2 := Nat.le_trans hB2 hb1.size
        clear hb1
        cases b
        · rw [if_neg (by decide)] at hpl
          have e := HQ.out
          rw [show pl x.el (q, u, idx) = none from hpl] at e
          rw [show (true && (true && (true && !(none : Option Nat).isSome))) = true from rfl, if_pos rfl, ← insE_at (k := k) h1 h2] at e
          have HMB : Hid (x.mb = []) := List.eq_nil_of_length_eq_zero (ck_parts HY1.out).2.2.2.2.1
          clear HQ HY1 HY2 HY3 hpl h1 h2 hup hce
          obtain ⟨ha, ht, hm, ⟨es, hes, hoe, hge⟩⟩ := ho2
          have hel : es.length = x.el.length := by rw [← hes, List.length_map]
          have cE : w6.cell? ⟨w.heap.size, 5, none⟩ = some (.slice qe x.el.length de) := R4.cell 5
          have hbn := bel_alloc (Below.refl w6.heap.size w6) (.cells #[.int .i64 q, .int .i64 u, .int .i64 idx, .int .i64 t, .int .i64 r.p, .int .i64 r.s, .int .i64 r.i, .string s, .slice none 0 0] 43)
          have hne : ∀ k, (Value.slice qe x.el.length de).ownBlock = some k → k < w6.heap.size := fun k hk => (World.ownsRow.lt hoe k hk).2
          have C4 := insert_any9 (w.heap.size + 5) (.slice qe x.el.length de) es k w6.heap.size (⟨q, u, idx, t, r.p, r.s, r.i, s, []⟩, .slice none 0 0) _ (by rw [hel]; exact own_later hoe hbn) (by omega) (by rw [hel]; exact hs.e) (Nat.le_trans hB2 hbn.size) (fun u hu => by simp [El.cells] at hu; rcases hu with rfl | rfl | rfl | rfl | rfl | rfl | rfl | rfl | rfl <;> rfl) (El.one hge.has) (rw_new w6 43 #[.int .i64 q, .int .i64 u, .int .i64 idx, .int .i64 t, .int .i64 r.p, .int .i64 r.s, .int .i64 r.i, .string s, .slice none 0 0]) (fun q hq => by have := hne q hq; omega)
          go_wp2_with (first | refine load_r 43 _ rfl rfl _ rfl R5 Try.underlying43 rfl size43 ?_)
          refine C4.mono ?_
          clear C4 cE
          rintro e7 w7 ⟨u7, rfl, hou, hkp, _, hb7⟩
          rw [hel] at hou
          have R4' : Rw w7 w.heap.size 27 (cvc x.k x.b (.slice qa x.am.length da) (.slice qw x.wr.length dw) (.slice qm x.mb.length dx) (.slice qe x.el.length de)) := (hb7.block _ (by omega)).trans (R4.later hbn)
          have R3' : Rw w7 (w.heap.size + 1 + 1 + 1) 27 (cvc 0 0 (.slice none 0 0) (.slice none 0 0) (.slice none 0 0) (.slice none 0 0)) := (hb7.block _ (by omega)).trans (R3.later hbn)
          replace hbs := (below_on hbs hbn).trans (hb7.mono (show w.heap.size ≤ w.heap.size + 5 by omega))
          have oa := own_kp (own_later ha hbn) hkp (fun k hk e => own_tag (own_later ha hbn) (own_later hoe hbn) (by decide) e k hk rfl)
          have ot := own_kp (own_later ht hbn) hkp (fun k hk e => own_tag (own_later ht hbn) (own_later hoe hbn) (by decide) e k hk rfl)
          obtain ⟨ms, hms, hom, _⟩ := hm
          have om := own_kp (own_later hom hbn) hkp (fun k hk e => own_tag (own_later hom hbn) (own_later hoe hbn) (by decide) e k hk rfl)
          have og : OwnG (w.heap.size + 5) w7 es := fun y hy => own_kp (own_later (hge y hy) hbn) hkp (fun k hk e => own_tag (own_later (hge y hy) hbn) (own_later hoe hbn) (by decide) e k hk rfl)
          have hB7 : w.heap.size + 5 ≤ w7.heap.size := Nat.le_trans (Nat.le_trans hB2 hbn.size) hb7.size
          clear R4 R3 R5 hoe ha ht hom hge hkp hne hb7 hbn hB2
          have hms0 : ms = [] := by
            have e := hms
            rw [HMB.out] at e
            exact List.map_eq_nil_iff.1 e
          subst hms0
          obtain ⟨p7, c7, rfl⟩ := own_sl hou
          have hle : (es.take k ++ ((⟨q, u, idx, t, r.p, r.s, r.i, s, []⟩ : El), Value.slice none 0 0) :: es.drop k).map (·.1) = x.el.take k ++ ⟨q, u, idx, t, r.p, r.s, r.i, s, []⟩ :: x.el.drop k := by
            rw [List.map_append, List.map_cons, List.map_take, List.map_drop, hes]
          have HLL : Hid (x.el.length + 1 = (x.el.take k ++ (⟨q, u, idx, t, r.p, r.s, r.i, s, []⟩ : El) :: x.el.drop k).length) := by
            show _ = _
            rw [← hle, List.length_map]
            simp
            omega
          have c5 : w7.cell? ⟨w.heap.size, 5, none⟩ = some (.slice qe x.el.length de) := R4'.cell 5
          have f5 := R4'.frozen 5
          have R6 := R4'.set 5 (.slice p7 (x.el.length + 1) c7)
          replace R6 : Rw (w7.setCell ⟨w.heap.size, 5, none⟩ (.slice p7 (x.el.length + 1) c7)) w.heap.size 27 (cvc x.k x.b (.slice qa x.am.length da) (.slice qw x.wr.length dw) (.slice qm x.mb.length dx) (.slice p7 (x.el.length + 1) c7)) := R6
          have R7 := R3'.setOther (q := w.heap.size) (by omega) 5 (.slice p7 (x.el.length + 1) c7)
          have HF9 : Hid (Gives z w (.returned (CV x.k x.b (.slice qa x.am.length da) (.slice qw x.wr.length dw) (.slice qm x.mb.length dx) (.slice p7 (x.el.length + 1) c7))) ((w7.setCell ⟨w.heap.size, 5, none⟩ (.slice p7 (x.el.length + 1) c7)).setRow (w.heap.size + 1 + 1 + 1) (cvc x.k x.b (.slice qa x.am.length da) (.slice qw x.wr.length dw) (.slice qm x.mb.length dx) (.slice p7 (x.el.length + 1) c7)))) := by
            have e0 := e.symm
            subst e0
            have st : ∀ {e S n : Nat} {v : Value} {xs : List Value}, w7.ownsRow (w.heap.size + 5) e S v n xs → ((w7.setCell ⟨w.heap.size, 5, none⟩ (.slice p7 (x.el.length + 1) c7)).setRow (w.heap.size + 1 + 1 + 1) (cvc x.k x.b (.slice qa x.am.length da) (.slice qw x.wr.length dw) (.slice qm x.mb.length dx) (.slice p7 (x.el.length + 1) c7))).ownsRow (w.heap.size + 5) e S v n xs := fun h => own_row (own_over h (fun k hk => by have := (World.ownsRow.lt h k hk).1; omega) _ _) (by omega) _
            refine ⟨_, _, _, _, rfl, ⟨own_sh (st oa), own_sh (st ot), ⟨[], by rw [← hms], own_sh (st om), fun _ h => by (cases h)⟩, ⟨_, hle, ?_, fun y hy => ?_⟩⟩, below_setRow (below_cell hbs (Nat.le_refl _) _ _) (by omega) _⟩
            · show SHas 9 _ _ (x.el.take k ++ (⟨q, u, idx, t, r.p, r.s, r.i, s, []⟩ : El) :: x.el.drop k).length _
              rw [← HLL.out]
              exact own_sh (st hou)
            · rcases List.mem_append.1 hy with h | h
              · exact own_sh (st (og y (List.mem_of_mem_take h)))
              · rcases List.mem_cons.1 h with h | h
                · subst h
                  exact SHas.nil _ 3
                · exact own_sh (st (og y (List.mem_of_mem_drop h)))
          clear hou og oa ot om hbs hle e hes hms HMB HF
          go_wp2_with (first | refine load_r 27 _ rfl rfl _ rfl R6 Try.underlying27 rfl size27 ?_ | refine store_r rfl 27 _ _ rfl _ (cvc x.k x.b (.slice qa x.am.length da) (.slice qw x.wr.length dw) (.slice qm x.mb.length dx) (.slice p7 (x.el.length + 1) c7)) rfl rfl R7 size27 rfl (by simp [Value.oneCell']) ?_)
          refine bodyPost_ret (results_r rfl rfl (R7.row (cvc x.k x.b (.slice qa x.am.length da) (.slice qw x.wr.length dw) (.slice qm x.mb.length dx) (.slice p7 (x.el.length + 1) c7))) rfl Try.underlying27 size27) rfl ?_
          exact HF9.out
        · rw [if_pos rfl] at hpl
          have e := HQ.out
          rw [show pl x.el (q, u, idx) = some k from hpl] at e
          rw [show (true && (true && (true && !(some k : Option Nat).isSome))) = false from rfl, if_neg (by decide)] at e
          have e := e.symm
          subst e
          go_wp2_with (first | refine load_r 27 _ rfl rfl _ rfl R4 Try.underlying27 rfl size27 ?_ | refine store_r rfl 27 _ _ rfl _ (cvc x.k x.b (.slice qa x.am.length da) (.slice qw x.wr.length dw) (.slice qm x.mb.length dx) (.slice qe x.el.length de)) rfl rfl R3 size27 rfl (by simp [Value.oneCell']) ?_)
          refine bodyPost_ret (results_r rfl rfl (R3.row (cvc x.k x.b (.slice qa x.am.length da) (.slice qw x.wr.length dw) (.slice qm x.mb.length dx) (.slice qe x.el.length de))) rfl Try.underlying27 size27) rfl ?_
          exact ⟨_, _, _, _, rfl, (ho2.row (by omega) R3 (cvc x.k x.b (.slice qa x.am.length da) (.slice qw x.wr.length dw) (.slice qm x.mb.length dx) (.slice qe x.el.length de))).four, below_setRow hbs (by omega) _⟩
end Go.Proofs.Ytfjpbmdmkcihcaa
/- The closure of inOrder of package seq that calls itself. -/
namespace Go.Proofs.Ytfjpbmdmkcihcaa
open Go.RowKit

/-- What is gone through from a place on. -/
def fol (F X : Nat → Nat) : Nat → Nat → List Nat
  | 0, _ => []
  | f + 1, a => if a = 0 then [] else a :: (fol F X f (F a) ++ fol F X f (X a))
/-- Each step comes nearer to an end. -/
def Ends (F X : Nat → Nat) (m : Nat) (mu : Nat → Nat) : Prop := ∀ a, a ≠ 0 → a ≤ m → F a ≤ m ∧ X a ≤ m ∧ (F a ≠ 0 → mu (F a) < mu a) ∧ (X a ≠ 0 → mu (X a) < mu a)
theorem fol_zero (F X : Nat → Nat) (f : Nat) : fol F X f 0 = [] := by cases f <;> simp [fol]
theorem fol_eq {F X : Nat → Nat} {m : Nat} {mu : Nat → Nat} (h : Ends F X m mu) : ∀ (f g a : Nat), a ≤ m → mu a < f → mu a < g → fol F X f a = fol F X g a
  | 0, _, _, _, h1, _ => by omega
  | _ + 1, 0, _, _, _, h2 => by omega
  | f + 1, g + 1, a, hm, h1, h2 => by
    unfold fol
    split
    · rfl
    · rename_i h0
      obtain ⟨b1, b2, b3, b4⟩ := h a h0 hm
      have e1 : fol F X f (F a) = fol F X g (F a) := by
        by_cases e : F a = 0
        · rw [e, fol_zero, fol_zero]
        · have := b3 e
          exact fol_eq h f g (F a) b1 (by omega) (by omega)
      have e2 : fol F X f (X a) = fol F X g (X a) := by
        by_cases e : X a = 0
        · rw [e, fol_zero, fol_zero]
        · have := b4 e
          exact fol_eq h f g (X a) b2 (by omega) (by omega)
      rw [e1, e2]
/-- All from a place on. -/
def folA (F X : Nat → Nat) (mu : Nat → Nat) (a : Nat) : List Nat := fol F X (mu a + 1) a
theorem folA_zero (F X mu : Nat → Nat) : folA F X mu 0 = [] := fol_zero F X _
theorem folA_succ {F X : Nat → Nat} {m : Nat} {mu : Nat → Nat} (h : Ends F X m mu) {a : Nat} (h0 : a ≠ 0) (hm : a ≤ m) : folA F X mu a = a :: (folA F X mu (F a) ++ folA F X mu (X a)) := by
  obtain ⟨b1, b2, b3, b4⟩ := h a h0 hm
  unfold folA
  rw [fol, if_neg h0]
  have e1 : fol F X (mu a) (F a) = fol F X (mu (F a) + 1) (F a) := by
    by_cases e : F a = 0
    · rw [e, fol_zero, fol_zero]
    · have := b3 e
      exact fol_eq h _ _ (F a) b1 (by omega) (by omega)
  have e2 : fol F X (mu a) (X a) = fol F X (mu (X a) + 1) (X a) := by
    by_cases e : X a = 0
    · rw [e, fol_zero, fol_zero]
    · have := b4 e
      exact fol_eq h _ _ (X a) b2 (by omega) (by omega)
  rw [e1, e2]
/-- How far from an end. -/
def mz0 (mu : Nat → Nat) (a : Nat) : Nat := if a = 0 then 0 else mu a + 1
theorem mz0_F {F X : Nat → Nat} {m : Nat} {mu : Nat → Nat} (h : Ends F X m mu) {a : Nat} (h0 : a ≠ 0) (hm : a ≤ m) : mz0 mu (F a) < mz0 mu a ∧ mz0 mu (X a) < mz0 mu a := by
  obtain ⟨_, _, b3, b4⟩ := h a h0 hm
  unfold mz0
  rw [if_neg h0]
  constructor
  · split
    · omega
    · rename_i e
      have := b3 e
      omega
  · split
    · omega
    · rename_i e
      have := b4 e
      omega
theorem rw_own_ne {w : World} {b : Nat} {t : TypeId} {cs : Array Value} {B e S n : Nat} {v : Value} {xs : List Value} (R : Rw w b t cs) (h : w.ownsRow B e S v n xs) (hne : t ≠ e) : ∀ k, v.ownBlock = some k → k ≠ b := fun k hk e' => by
  obtain ⟨_, ⟨rfl, _⟩ | ⟨g, cap, cur, rfl, _, hg, _⟩⟩ := h
  · cases hk
  · cases hk
    subst e'
    have h1 : w.heap[g]? = some (.cells cs t) := R
    rw [hg] at h1
    injection h1 with h1
    injection h1 with _ h2
    exact hne h2.symm
/-- The boxes and rows that the closure looks at. -/
structure FS (B : Nat) (w0 : World) (ba bn bf bk gn gf n : Nat) (Fs Xs : List Nat) (acc : List Nat) (w : World) : Prop where
  all : ∃ va, Rw w ba 101 #[va] ∧ w.ownsRow B 3 1 va acc.length (iv acc) ∧ ∀ k, va.ownBlock = some k → k ≠ gn ∧ k ≠ gf
  fn : Rw w bn 101 #[(.slice (some ⟨gn, 0, none⟩) n n)]
  ff : Rw w bf 101 #[(.slice (some ⟨gf, 0, none⟩) n n)]
  fk : Rw w bk 114 #[.func (.func 75) #[] #[.pointer (some ⟨ba, 0, none⟩), .pointer (some ⟨bn, 0, none⟩), .pointer (some ⟨bf, 0, none⟩), .pointer (some ⟨bk, 0, none⟩)]]
  rn : w.ownsRow B 3 1 (.slice (some ⟨gn, 0, none⟩) n n) n (iv Xs)
  rf : w.ownsRow B 3 1 (.slice (some ⟨gf, 0, none⟩) n n) n (iv Fs)
  bel : Below B w0 w
theorem FS.drew {B : Nat} {w0 : World} {ba bn bf bk gn gf n : Nat} {Fs Xs acc : List Nat} {w : World} (h : FS B w0 ba bn bf bk gn gf n Fs Xs acc w) : FS B w0 ba bn bf bk gn gf n Fs Xs acc w.drew := ⟨h.all, h.fn, h.ff, h.fk, h.rn, h.rf, h.bel.drew⟩
structure FD (B ba bn bf bk gn gf : Nat) : Prop where
  ab : B ≤ ba ∧ B ≤ bn ∧ B ≤ bf ∧ B ≤ bk
  dn : ba ≠ bn
  df : ba ≠ bf
  dk : ba ≠ bk
set_option maxHeartbeats 4000000 in
set_option maxRecDepth 100000 in
theorem follow_any (B : Nat) (w0 : World) (ba bn bf bk gn gf n : Nat) (Fs Xs : List Nat) (F X mu : Nat → Nat) (hn : n ≤ 101) (hF : Fs.length = n) (hX : Xs.length = n) (HF : Hid (∀ k (h : k < Fs.length), Fs[k] = F k)) (HX : Hid (∀ k (h : k < Xs.length), Xs[k] = X k)) (hE : Ends F X (n - 1) mu) (hd : FD B ba bn bf bk gn gf) : ∀ (r a : Nat) (acc : List Nat) (w : World), mz0 mu a ≤ r → a < n → acc.length + (folA F X mu a).length ≤ 100 → FS B w0 ba bn bf bk gn gf n Fs Xs acc w →
    Calls Try.prog 75 #[.int .i64 a, .pointer (some ⟨ba, 0, none⟩), .pointer (some ⟨bn, 0, none⟩), .pointer (some ⟨bf, 0, none⟩), .pointer (some ⟨bk, 0, none⟩)] w (fun e w' => e = .returned (.tuple #[]) ∧ FS B w0 ba bn bf bk gn gf n Fs Xs (acc ++ folA F X mu a) w' ∧ w.heap.size ≤ w'.heap.size) := by
  intro r
  induction r using Nat.strongRecOn with
  | ind r ih =>
    intro a acc w hmu ha hlen hS
    have IH : Hid (∀ (r' : Nat), r' < r → ∀ (a : Nat) (acc : List Nat) (w : World), mz0 mu a ≤ r' → a < n → acc.length + (folA F X mu a).length ≤ 100 → FS B w0 ba bn bf bk gn gf n Fs Xs acc w → Calls Try.prog 75 #[.int .i64 a, .pointer (some ⟨ba, 0, none⟩), .pointer (some ⟨bn, 0, none⟩), .pointer (some ⟨bf, 0, none⟩), .pointer (some ⟨bk, 0, none⟩)] w (fun e w' => e = .returned (.tuple #[]) ∧ FS B w0 ba bn bf bk gn gf n Fs Xs (acc ++ folA F X mu a) w' ∧ w.heap.size ≤ w'.heap.size)) := ih
    clear ih
    obtain ⟨L, HL⟩ := hid_ex (acc ++ folA F X mu a)
    have hLl : L.length ≤ 100 := by rw [← HL.out, List.length_append]; exact hlen
    rw [HL.out]
    obtain ⟨i0, hi, hz0, hz1, hz2⟩ := info_parts info3
    go_enter Try.func75, Try.ntmps75
    go_wp2_with fail
    go_loopw [0] (fun va wr => ∃ (b : Nat) (ac : List Nat), va = .int .i64 b ∧ b < n ∧ mz0 mu b ≤ r ∧ Hid (ac ++ folA F X mu b = L) ∧ FS B w0 ba bn bf bk gn gf n Fs Xs ac wr ∧ w.heap.size ≤ wr.heap.size) (fun va _ => mz0 mu (intOf va).toNat)
    case atStart => exact ⟨a, acc, rfl, ha, hmu, HL.out, hS, Nat.le_refl _⟩
    case round =>
      clear hS hmu ha hlen HL
      obtain ⟨b, ac, rfl, hb, hmb, HL, hS, hsz⟩ := hrel
      by_cases hb0 : b = 0
      · subst hb0
        have e := HL.out
        rw [folA_zero, List.append_nil] at e
        subst e
        go_wp2_with fail
        go_end0
        exact ⟨rfl, hS, hsz⟩
      · have hb0' : ¬ ((b : Int) = 0) := by omega
        obtain ⟨⟨va, Ra, hoa, hvb⟩, fn, ff, fk, rn, rf, bel⟩ := hS
        have hfe := folA_succ hE hb0 (by omega)
        have hmz := mz0_F hE hb0 (show b ≤ n - 1 by omega)
        have hEb := hE b hb0 (by omega)
        have hacl : ac.length + 1 ≤ 100 := by
          rw [← HL.out, hfe] at hLl
          simp at hLl
          omega
        have ca : wr.cell? ⟨ba, 0, none⟩ = some va := Ra.cell 0
        obtain ⟨pa, da, rfl⟩ := own_sl hoa
        have hBw : B ≤ wr.heap.size := by have := (own_ge rn).1; have := (own_ge rn).2; omega
        have hbn := bel_alloc (Below.refl wr.heap.size wr) (.cells #[.int .i64 (b : Int)] 3)
        have hnw : (wr.alloc (.cells #[.int .i64 (b : Int)] 3)).heap.size = wr.heap.size + 1 := by simp
        have HCL : Hid (∀ j u, [Value.int .i64 (b : Int)][j]? = some u → (wr.alloc (.cells #[.int .i64 (b : Int)] 3)).cell? ((⟨wr.heap.size, 0, none⟩ : Addr).add j) = some u) := fun j u hu => by
          have Rn := rw_new wr 3 #[.int .i64 (b : Int)]
          match j, hu with
          | 0, hu => exact (Rn.cell 0).trans hu
          | j + 1, hu => simp at hu
        have hm1 : ac.length + 1 ≤ maxLen := by simp [maxLen]; omega
        have hm2 : (ac.length + 1) * 8 ≤ 140737488355328 := by omega
        have gnl := (own_ge rn).2
        have gfl := (own_ge rf).2
        replace hoa := own_later hoa hbn
        replace Ra := Ra.later hbn
        replace fn := fn.later hbn
        replace ff := ff.later hbn
        replace fk := fk.later hbn
        replace rn := own_later rn hbn
        replace rf := own_later rf hbn
        replace bel := bel.trans (hbn.mono hBw)
        have hB1 : B ≤ (wr.alloc (.cells #[.int .i64 (b : Int)] 3)).heap.size := by omega
        generalize hWn : wr.alloc (.cells #[.int .i64 (b : Int)] 3) = wn at hbn hnw HCL hoa Ra fn ff fk rn rf bel hB1
        go_wp2_with (first | rw [hWn] | (at_builtin; refine wpList_append_own_at _ rfl _ _ 101 rfl B 3 i0 (.int .i64 0) 1 8 Try.underlying101 hi hz0 hz1 hz2 rfl (by decide) _ _ _ rfl hoa ⟨wr.heap.size, 0, none⟩ 1 1 [.int .i64 (b : Int)] rfl rfl HCL.out (by simp [Value.oneCell']) hm1 hm2 hB1 ?_))
        intro v2 w2 ho2 hg2 _ hat
        have neA := rw_own_ne Ra hoa (by decide)
        have neN := rw_own_ne fn hoa (by decide)
        have neF := rw_own_ne ff hoa (by decide)
        have neK := rw_own_ne fk hoa (by decide)
        have keep : ∀ q, q < wn.heap.size → (∀ k, (Value.slice pa ac.length da).ownBlock = some k → k ≠ q) → w2.heap[q]? = wn.heap[q]? := fun q hq hne => hg2.block q hq (fun e => hne q e.symm rfl)
        have Ra2 : Rw w2 ba 101 #[.slice pa ac.length da] := (keep ba Ra.lt neA).trans Ra
        have fn2 : Rw w2 bn 101 #[.slice (some ⟨gn, 0, none⟩) n n] := (keep bn fn.lt neN).trans fn
        have ff2 : Rw w2 bf 101 #[.slice (some ⟨gf, 0, none⟩) n n] := (keep bf ff.lt neF).trans ff
        have fk2 : Rw w2 bk 114 #[.func (.func 75) #[] #[.pointer (some ⟨ba, 0, none⟩), .pointer (some ⟨bn, 0, none⟩), .pointer (some ⟨bf, 0, none⟩), .pointer (some ⟨bk, 0, none⟩)]] := (keep bk fk.lt neK).trans fk
        have hkp : Kp (Value.slice pa ac.length da).ownBlock wn w2 := fun q h1 h2 => hg2.block q h1 (Ne.symm h2)
        have rn2 := own_kp rn hkp (fun k hk e => (hvb k e).1 (by cases hk; rfl))
        have rf2 := own_kp rf hkp (fun k hk e => (hvb k e).2 (by cases hk; rfl))
        have bel2 : Below B w0 w2 := bel.grown hg2 hB1 (fun q hq => (World.ownsRow.lt hoa q hq).1)
        have hvb2 : ∀ k, v2.ownBlock = some k → k ≠ gn ∧ k ≠ gf := fun k hk => by
          rcases hat with e | e
          · exact hvb k (by rw [← e]; exact hk)
          · rw [e] at hk
            cases hk
            omega
        obtain ⟨p2, d2, rfl⟩ := own_sl ho2
        have neA2 := rw_own_ne Ra2 ho2 (by decide)
        have c2 : w2.cell? ⟨ba, 0, none⟩ = some (.slice pa ac.length da) := Ra2.cell 0
        have f2 := Ra2.frozen 0
        have hs2 : wn.heap.size ≤ w2.heap.size := hg2.size
        have ho3 : (w2.setCell ⟨ba, 0, none⟩ (.slice p2 (ac.length + 1) d2)).ownsRow B 3 1 (.slice p2 (ac.length + 1) d2) (ac ++ [b]).length (iv (ac ++ [b])) := by
          have := own_over ho2 neA2 0 (.slice p2 (ac.length + 1) d2)
          rw [List.length_append]
          unfold iv
          rw [List.map_append]
          exact this
        have Ra3 := Ra2.set 0 (.slice p2 (ac.length + 1) d2)
        have fn3 := fn2.setOther (q := ba) (Ne.symm hd.dn) 0 (.slice p2 (ac.length + 1) d2)
        have ff3 := ff2.setOther (q := ba) (Ne.symm hd.df) 0 (.slice p2 (ac.length + 1) d2)
        have fk3 := fk2.setOther (q := ba) (Ne.symm hd.dk) 0 (.slice p2 (ac.length + 1) d2)
        have rn3 := own_over rn2 (rw_own_ne Ra2 rn2 (by decide)) 0 (.slice p2 (ac.length + 1) d2)
        have rf3 := own_over rf2 (rw_own_ne Ra2 rf2 (by decide)) 0 (.slice p2 (ac.length + 1) d2)
        have bel3 := below_cell bel2 hd.ab.1 0 (.slice p2 (ac.length + 1) d2)
        have hsz3 : w.heap.size ≤ (w2.setCell ⟨ba, 0, none⟩ (.slice p2 (ac.length + 1) d2)).heap.size := by
          rw [World.size_setCell]
          omega
        generalize hW3 : w2.setCell ⟨ba, 0, none⟩ (.slice p2 (ac.length + 1) d2) = w3 at ho3 Ra3 fn3 ff3 fk3 rn3 rf3 bel3 hsz3
        have FS3 : Hid (FS B w0 ba bn bf bk gn gf n Fs Xs (ac ++ [b]) w3) := ⟨⟨_, Ra3, ho3, hvb2⟩, fn3, ff3, fk3, rn3, rf3, bel3⟩
        have cn : w3.cell? ⟨bn, 0, none⟩ = some (.slice (some ⟨gn, 0, none⟩) n n) := fn3.cell 0
        have cf : w3.cell? ⟨bf, 0, none⟩ = some (.slice (some ⟨gf, 0, none⟩) n n) := ff3.cell 0
        have ck : w3.cell? ⟨bk, 0, none⟩ = some (.func (.func 75) #[] #[.pointer (some ⟨ba, 0, none⟩), .pointer (some ⟨bn, 0, none⟩), .pointer (some ⟨bf, 0, none⟩), .pointer (some ⟨bk, 0, none⟩)]) := fk3.cell 0
        have cx := own_iat rn3 (show b < Xs.length by omega)
        have cy := own_iat rf3 (show b < Fs.length by omega)
        rw [HX.out] at cx
        rw [HF.out] at cy
        obtain ⟨x, HXb⟩ := hid_ex (X b)
        obtain ⟨y, HYb⟩ := hid_ex (F b)
        rw [HXb.out] at cx hmz hEb hfe
        rw [HYb.out] at cy hmz hEb hfe
        have hb1 : (0 : Int) ≤ (b : Int) := by omega
        have hb2 : (b : Int) < (n : Int) := by omega
        have hyn : y < n := by omega
        have hxn : x < n := by omega
        have HLL : Hid (ac ++ [b] ++ folA F X mu y ++ folA F X mu x = L) := by
          show _ = _
          rw [← HL.out, hfe]
          simp
        clear ho2 hg2 hat Ra fn ff fk rn rf bel Ra2 fn2 ff2 fk2 rn2 rf2 bel2 hoa ho3 Ra3 fn3 ff3 fk3 rn3 rf3 bel3 keep hkp neA neN neF neK neA2 hvb hvb2 HCL hbn HL hfe HYb
        by_cases hx0 : x = 0
        · subst hx0
          have e := HLL.out
          rw [folA_zero, List.append_nil] at e
          have HL2 : Hid (ac ++ [b] ++ folA F X mu y = L) := e
          clear e HLL
          go_wp2_with (first | rw [hW3])
          go_roundw
          case rel => exact ⟨y, ac ++ [b], rfl, hyn, by omega, HL2, FS3.out, hsz3⟩
          case measure => simpa [intOf] using hmz.1
        · have hx0' : ¬ ((x : Int) = 0) := by omega
          have C4 := IH.out (mz0 mu y) (by omega) y (ac ++ [b]) w3.drew (Nat.le_refl _) hyn (by
            have := congrArg List.length HLL.out
            simp at this
            simp
            omega) FS3.out.drew
          go_wp2_with (first | rw [hW3])
          clear hW3
          go_region_with (refine C4.mono ?_; rintro e w5 ⟨rfl, hS5, hs5⟩)
          all_goals
            have hs6 : w.heap.size ≤ w5.heap.size := Nat.le_trans hsz3 hs5
            have cn5 : w5.cell? ⟨bn, 0, none⟩ = some (.slice (some ⟨gn, 0, none⟩) n n) := hS5.fn.cell 0
            have cx5 := own_iat hS5.rn (show b < Xs.length by omega)
            rw [HX.out, HXb.out] at cx5
            go_wp2_with fail
            go_roundw
            case rel => exact ⟨x, _, rfl, hxn, by omega, HLL, hS5, hs6⟩
            case measure => simpa [intOf] using hmz.2
end Go.Proofs.Ytfjpbmdmkcihcaa
/- The order of places, by what first and next come to. -/
namespace Go.Proofs.Ytfjpbmdmkcihcaa

def upd (f : Nat → Nat) (k v : Nat) : Nat → Nat := fun j => if j = k then v else f j
/-- A place comes ahead of those of its Ref. -/
def stp (up : Nat → Nat) (s : (Nat → Nat) × (Nat → Nat)) (a : Nat) : (Nat → Nat) × (Nat → Nat) := (upd s.1 (up a) a, upd s.2 a (s.1 (up a)))
def stt (up : Nat → Nat) (ps : List Nat) : (Nat → Nat) × (Nat → Nat) := ps.foldl (stp up) (fun _ => 0, fun _ => 0)
theorem stt_snoc (up : Nat → Nat) (ps : List Nat) (a : Nat) : stt up (ps ++ [a]) = stp up (stt up ps) a := by simp [stt]
/-- Those of one Ref, the last one first. -/
def kd (up : Nat → Nat) (ps : List Nat) (p : Nat) : List Nat := (ps.filter (fun a => decide (up a = p))).reverse
theorem kd_snoc (up : Nat → Nat) (ps : List Nat) (a p : Nat) : kd up (ps ++ [a]) p = if up a = p then a :: kd up ps p else kd up ps p := by
  unfold kd
  rw [List.filter_append, List.reverse_append]
  by_cases h : up a = p <;> simp [h]
theorem kd_mem {up : Nat → Nat} {ps : List Nat} {p a : Nat} : a ∈ kd up ps p ↔ a ∈ ps ∧ up a = p := by simp [kd]
theorem snoc_rec {α : Type} {P : List α → Prop} (h0 : P []) (h1 : ∀ l a, P l → P (l ++ [a])) (l : List α) : P l := by
  rw [← List.reverse_reverse l]
  induction l.reverse with
  | nil => exact h0
  | cons a t ih => rw [List.reverse_cons]; exact h1 _ a ih
theorem stt_spec (up : Nat → Nat) (ps : List Nat) : ps.Nodup → (∀ p, (stt up ps).1 p = (kd up ps p).headD 0) ∧ (∀ p pre a post, kd up ps p = pre ++ a :: post → (stt up ps).2 a = post.headD 0) := by
  refine snoc_rec (P := fun ps => ps.Nodup → (∀ p, (stt up ps).1 p = (kd up ps p).headD 0) ∧ (∀ p pre a post, kd up ps p = pre ++ a :: post → (stt up ps).2 a = post.headD 0)) ?_ ?_ ps
  · intro _
    exact ⟨fun p => rfl, fun p pre a post h => by simp [kd] at h⟩
  · intro l a ih hn
    rw [List.nodup_append] at hn
    obtain ⟨n1, _, n3⟩ := hn
    have ha : a ∉ l := fun h => n3 a h a (by simp) rfl
    obtain ⟨i1, i2⟩ := ih n1
    rw [stt_snoc]
    constructor
    · intro p
      rw [kd_snoc]
      unfold stp upd
      by_cases h : up a = p
      · simp [h]
      · rw [if_neg h, ← i1 p]
        simp [Ne.symm h]
    · intro p pre b post h
      rw [kd_snoc] at h
      unfold stp upd
      by_cases e : up a = p
      · rw [if_pos e] at h
        cases pre with
        | nil =>
          simp only [List.nil_append, List.cons.injEq] at h
          obtain ⟨rfl, rfl⟩ := h
          simp [i1, e]
        | cons c pre =>
          simp only [List.cons_append, List.cons.injEq] at h
          have hb : b ∈ l := (kd_mem.1 (by rw [h.2]; simp)).1
          have hne : b ≠ a := fun e => ha (e ▸ hb)
          simp only [if_neg hne]
          exact i2 p pre b post h.2
      · rw [if_neg e] at h
        have hb : b ∈ l := (kd_mem.1 (by rw [h]; simp)).1
        have hne : b ≠ a := fun e => ha (e ▸ hb)
        simp only [if_neg hne]
        exact i2 p pre b post h
section
variable {up : Nat → Nat} {n : Nat} {ps : List Nat}
/-- How far one still goes. -/
def muP (up : Nat → Nat) (n : Nat) (ps : List Nat) (a : Nat) : Nat := (n - dp up n a) * (n + 1) + ((kd up ps (up a)).dropWhile (fun c => decide (c ≠ a))).length
theorem kd_len (h : ps.length = n) (p : Nat) : (kd up ps p).length ≤ n := by
  unfold kd
  rw [List.length_reverse, ← h]
  exact List.length_filter_le _ _
theorem drop_split {l : List Nat} (hn : l.Nodup) {pre post : List Nat} {a : Nat} (e : l = pre ++ a :: post) : l.dropWhile (fun c => decide (c ≠ a)) = a :: post := by
  subst e
  rw [List.nodup_append] at hn
  rw [List.dropWhile_append_of_pos]
  · simp
  · intro c hc
    exact decide_eq_true (fun e => hn.2.2 c hc a (by simp) e)
theorem kd_nodup (hn : ps.Nodup) (p : Nat) : (kd up ps p).Nodup := by
  unfold kd
  rw [List.Nodup, List.pairwise_reverse]
  exact (hn.sublist List.filter_sublist).imp_of_mem (fun _ _ h => Ne.symm h)
theorem dw_len (l : List Nat) (a : Nat) : (l.dropWhile (fun c => decide (c ≠ a))).length ≤ l.length := (List.dropWhile_sublist _).length_le
theorem ends_stt (hf : ∀ k, k ≤ n → up k ≤ n) (h0 : up 0 = 0) (hr : ∀ k, k ≤ n → rt up k) (hp : ps.Perm (plc n)) : Ends (stt up ps).1 (stt up ps).2 n (muP up n ps) := by
  have hm : ∀ a, a ∈ ps ↔ a ≠ 0 ∧ a ≤ n := fun a => by
    rw [hp.mem_iff]
    simp only [plc, List.mem_map, List.mem_range]
    constructor
    · rintro ⟨k, hk, rfl⟩
      omega
    · rintro ⟨h1, h2⟩
      exact ⟨a - 1, by omega, by omega⟩
  have hnd : ps.Nodup := hp.nodup_iff.2 (by
    unfold plc
    rw [List.Nodup, List.pairwise_map]
    exact List.pairwise_lt_range.imp_of_mem (fun _ _ h e => by omega))
  have hl : ps.length = n := by rw [hp.length_eq, plc_len]
  obtain ⟨s1, s2⟩ := stt_spec up ps hnd
  intro a a0 an
  have hks : ∀ c, c ∈ ps → ∃ pre post, kd up ps (up c) = pre ++ c :: post := fun c hc => by
    obtain ⟨pre, post, e⟩ := List.append_of_mem (kd_mem.2 ⟨hc, rfl⟩ : c ∈ kd up ps (up c))
    exact ⟨pre, post, e⟩
  have hF : (stt up ps).1 a ≠ 0 → (stt up ps).1 a ∈ ps ∧ up ((stt up ps).1 a) = a := fun h => by
    rw [s1] at h ⊢
    cases e : kd up ps a with
    | nil => rw [e] at h; exact absurd rfl h
    | cons c t =>
      have : c ∈ kd up ps a := by rw [e]; simp
      exact kd_mem.1 this
  obtain ⟨pre, post, ek⟩ := hks a ((hm a).2 ⟨a0, an⟩)
  have hX := s2 _ _ _ _ ek
  refine ⟨?_, ?_, ?_, ?_⟩
  · by_cases e : (stt up ps).1 a = 0
    · omega
    · exact ((hm _).1 (hF e).1).2
  · rw [hX]
    cases e : post with
    | nil => simp
    | cons b t =>
      have : b ∈ kd up ps (up a) := by rw [ek, e]; simp
      exact ((hm b).1 (kd_mem.1 this).1).2
  · intro h
    obtain ⟨h1, h2⟩ := hF h
    have d := dp_up hf h0 ((hm _).1 h1).2 h (hr _ ((hm _).1 h1).2)
    rw [h2] at d
    have d2 := dp_le up n ((stt up ps).1 a)
    unfold muP
    have l1 := dw_len (kd up ps (up ((stt up ps).1 a))) ((stt up ps).1 a)
    have l2 := kd_len (up := up) hl (up ((stt up ps).1 a))
    rw [d, show n - dp up n a = n - (dp up n a + 1) + 1 by omega, Nat.add_mul]
    omega
  · intro h
    rw [hX] at h ⊢
    cases e : post with
    | nil => rw [e] at h; exact absurd rfl h
    | cons b t =>
      rw [e] at ek
      have hb : b ∈ kd up ps (up a) := by rw [ek]; simp
      obtain ⟨hbp, hub⟩ := kd_mem.1 hb
      have hbn := ((hm b).1 hbp).2
      have db : dp up n b = dp up n a := by
        rw [dp_up hf h0 hbn ((hm b).1 hbp).1 (hr b hbn), dp_up hf h0 an a0 (hr a an), hub]
      have l1 : ((kd up ps (up a)).dropWhile (fun c => decide (c ≠ a))).length = t.length + 2 := by rw [drop_split (kd_nodup hnd _) ek]; simp
      have l2 : ((kd up ps (up b)).dropWhile (fun c => decide (c ≠ b))).length = t.length + 1 := by rw [hub, drop_split (kd_nodup hnd _) (show kd up ps (up a) = (pre ++ [a]) ++ b :: t by rw [ek]; simp)]; simp
      show muP up n ps b < muP up n ps a
      unfold muP
      rw [db, l1, l2]
      omega
/-- The later one of two. -/
def lat (l : List El) (a b : Nat) : Bool := decide (tmL l b < tmL l a) || (decide (tmL l b = tmL l a) && decide (b < a))
theorem lat_iff {l : List El} {a b : Nat} : lat l a b = true ↔ er l b a := by
  unfold lat er
  simp only [Bool.or_eq_true, Bool.and_eq_true, decide_eq_true_eq]
theorem lat_tot (l : List El) (m : List Nat) : Tot (lat l) m where
  irr a _ := by
    cases h : lat l a a
    · rfl
    · rw [lat_iff] at h
      unfold er at h
      omega
  trans a _ b _ c _ h1 h2 := by
    rw [lat_iff] at *
    unfold er at *
    omega
  tot a _ b _ h := by
    rw [lat_iff, lat_iff]
    unfold er
    omega
theorem plc_nodup (n : Nat) : (plc n).Nodup := by
  unfold plc
  rw [List.Nodup, List.pairwise_map]
  exact List.pairwise_lt_range.imp_of_mem (fun _ _ h e => by omega)
theorem plc_mem {n a : Nat} : a ∈ plc n ↔ a ≠ 0 ∧ a ≤ n := by
  simp only [plc, List.mem_map, List.mem_range]
  constructor
  · rintro ⟨k, hk, rfl⟩
    omega
  · rintro ⟨h1, h2⟩
    exact ⟨a - 1, by omega, by omega⟩
/-- The order of all places behind one. -/
def odP (l : List El) (p : Nat) : List Nat := ord id (upL l) (lat l) (plc l.length) (l.length + 1) p
theorem kids_kd {l : List El} {ps : List Nat} (hp : ps.Perm (plc l.length)) (hs : ps.Pairwise (er l)) (p : Nat) : kids (upL l) (lat l) (plc l.length) p = kd (upL l) ps p := by
  unfold kids kd
  have hn : ps.Nodup := hp.nodup_iff.2 (plc_nodup _)
  refine sorted_one (lat_tot l _) ?_ (srt_sorted (lat_tot l _) ((plc_nodup _).sublist List.filter_sublist)) ?_
  · refine (srt_perm _ _).trans ?_
    refine List.Perm.trans ?_ (List.reverse_perm _).symm
    exact (hp.filter _).symm
  · rw [List.pairwise_reverse]
    exact ((hs.sublist List.filter_sublist).imp_of_mem (fun _ _ h => lat_iff.2 h))
theorem rk_plc {l : List El} (h : cr l = true) : Rk (fun a : Nat => a) (upL l) (dp (upL l) l.length) (plc l.length) := fun a ha => by
  obtain ⟨h1, h2⟩ := plc_mem.1 ha
  exact dp_up (fun k _ => upL_le l k) (upL_zero l) h2 h1 (by
    unfold cr at h
    rw [Bool.and_eq_true] at h
    exact noR_iff.1 h.2 a h2)
theorem od_flat {l : List El} (h : cr l = true) (p : Nat) : odP l p = (kids (upL l) (lat l) (plc l.length) p).flatMap (fun c => c :: odP l c) := by
  unfold odP
  rw [ord]
  refine flat_congr (fun c _ => ?_)
  congr 1
  exact ord_fuel (mk := id) (R := dp (upL l) l.length) (B := l.length) (rk_plc h) (fun e _ => dp_le _ _ _) (by omega) (by omega)
/-- What is gone through is that order. -/
theorem fol_od {l : List El} (h : cr l = true) {ps : List Nat} (hp : ps.Perm (plc l.length)) (hs : ps.Pairwise (er l)) : ∀ (r : Nat) (p : Nat) (pre : List Nat) (a : Nat) (post : List Nat), kd (upL l) ps p = pre ++ a :: post → muP (upL l) l.length ps a ≤ r → folA (stt (upL l) ps).1 (stt (upL l) ps).2 (muP (upL l) l.length ps) a = (a :: post).flatMap (fun c => c :: odP l c) := by
  have hr : ∀ k, k ≤ l.length → rt (upL l) k := by
    unfold cr at h
    rw [Bool.and_eq_true] at h
    exact noR_iff.1 h.2
  have hE := ends_stt (fun k _ => upL_le l k) (upL_zero l) hr hp
  have hn : ps.Nodup := hp.nodup_iff.2 (plc_nodup _)
  obtain ⟨s1, s2⟩ := stt_spec (upL l) ps hn
  intro r
  induction r using Nat.strongRecOn with
  | ind r ih =>
    intro p pre a post e hm
    have ha : a ∈ ps := (kd_mem.1 (show a ∈ kd (upL l) ps p by rw [e]; simp)).1
    obtain ⟨a0, an⟩ := plc_mem.1 (hp.mem_iff.1 ha)
    obtain ⟨_, _, b3, b4⟩ := hE a a0 an
    rw [folA_succ hE a0 an, s2 p pre a post e, List.flatMap_cons, List.cons_append]
    congr 1
    have e1 : folA (stt (upL l) ps).1 (stt (upL l) ps).2 (muP (upL l) l.length ps) ((stt (upL l) ps).1 a) = odP l a := by
      rw [od_flat h, kids_kd hp hs]
      rw [s1 a] at b3 ⊢
      cases ek : kd (upL l) ps a with
      | nil => simp [folA_zero]
      | cons c t =>
        rw [ek] at b3
        have hc0 : c ≠ 0 := (plc_mem.1 (hp.mem_iff.1 (kd_mem.1 (show c ∈ kd (upL l) ps a by rw [ek]; simp)).1)).1
        have := b3 hc0
        exact ih (muP (upL l) l.length ps c) (Nat.lt_of_lt_of_le this hm) a [] c t ek (Nat.le_refl _)
    rw [e1]
    congr 1
    rw [s2 p pre a post e] at b4
    cases ep : post with
    | nil => simp [folA_zero]
    | cons b t =>
      rw [ep] at b4 e
      have hb0 : b ≠ 0 := (plc_mem.1 (hp.mem_iff.1 (kd_mem.1 (show b ∈ kd (upL l) ps p by rw [e]; simp)).1)).1
      have := b4 hb0
      exact ih (muP (upL l) l.length ps b) (Nat.lt_of_lt_of_le this hm) p (pre ++ [a]) b t (by rw [e]; simp) (Nat.le_refl _)
theorem fol_all {l : List El} (h : cr l = true) {ps : List Nat} (hp : ps.Perm (plc l.length)) (hs : ps.Pairwise (er l)) : folA (stt (upL l) ps).1 (stt (upL l) ps).2 (muP (upL l) l.length ps) ((stt (upL l) ps).1 0) = odP l 0 := by
  have hn : ps.Nodup := hp.nodup_iff.2 (plc_nodup _)
  rw [(stt_spec (upL l) ps hn).1 0, od_flat h, kids_kd hp hs]
  cases ek : kd (upL l) ps 0 with
  | nil => simp [folA_zero]
  | cons c t => exact fol_od h hp hs _ 0 [] c t ek (Nat.le_refl _)
theorem od_perm {l : List El} (h : cr l = true) : (odP l 0).Perm (plc l.length) := by
  refine ord_perm (mk := id) (R := dp (upL l) l.length) (plc_nodup _) (rk_plc h) (fun a _ b _ e => e) (fun e he => ?_) (fun e _ => by have := dp_le (upL l) l.length e; exact Nat.le_succ_of_le this)
  by_cases e0 : upL l e = 0
  · exact Or.inl e0
  · exact Or.inr ⟨upL l e, plc_mem.2 ⟨e0, upL_le l e⟩, rfl⟩
end
end Go.Proofs.Ytfjpbmdmkcihcaa
