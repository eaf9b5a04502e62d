import Derived.Test.YtfjpbmdmkcihcaaGreatP21
import Derived.Test.YtfjpbmdmkcihcaaGreatP17
import Derived.Test.YtfjpbmdmkcihcaaGreatP18
import Derived.Test.YtfjpbmdmkcihcaaGreatP13
import Derived.Test.YtfjpbmdmkcihcaaGreatP9
/- Read of the document's answer. -/
namespace Go.Proofs.YtfjpbmdmkcihcaaGreat
open Go.RowKit
open Go.Sort

/-- A new slice of one text. -/
def bslP (N : Nat) (s : ByteArray) : Value → World → Prop := fun u w => ∃ q, u = .slice (some ⟨q, 0, none⟩) 1 1 ∧ N ≤ q ∧ Rw w q 9 #[.string s]
theorem bslP_keeps (N : Nat) (s : ByteArray) : Keeps (bslP N s) := fun _ _ _ ⟨q, e, hN, h⟩ hb => ⟨q, e, hN, h.later hb⟩
theorem store49 {w : World} {b j : Nat} {p : Option Addr} {l c : Nat} {u : Value} (hc : w.cell? ⟨b, j, none⟩ = some u) (hf : w.frozen? ⟨b, j, none⟩ = false) : (Instr.storeAt 49 (.pointer (some ⟨b, j, none⟩)) (.slice p l c)).run Tryz.prog w = .ok () (w.setCell ⟨b, j, none⟩ (.slice p l c)) := by
  go_simp
set_option maxHeartbeats 4000000 in
set_option maxRecDepth 100000 in
theorem refRead_any (x : X) (va vw vm ve : Value) (w : World) (h : Four w x va vw vm ve) (hs : Sm x) : Calls Tryz.prog 23 #[CV x.k x.b va vw vm ve] w (RdPost x w) := by
  obtain ⟨i0, hi, hz0, hz1, hz2⟩ := info_parts info9; obtain ⟨pa, ca', pw, cw, pm, cm, pe, ce, rfl, rfl, rfl, rfl⟩ := h.slices; have HF : Hid (Four w x (.slice pa x.am.length ca') (.slice pw x.wr.length cw) (.slice pm x.mb.length cm) (.slice pe x.el.length ce)) := h; clear h; obtain ⟨ys, hys, hse, hy⟩ := HF.out.e
  have hyl : ys.length = x.el.length := by rw [← hys, List.length_map]
  have HYL : Hid (ys.length = x.el.length) := hyl; have HR : Hid (SHas 9 w (.slice pe x.el.length ce) x.el.length (rows El.cells ys)) := hse
  have HL : Hid (∀ k (h1 : k < ys.length) (h2 : k < x.el.length), ys[k].1 = x.el[k]) := fun k h1 h2 => by
    simp only [← hys, List.getElem_map]
  clear hse hy hys hyl; have R0 := (rw_new w 27 (cvc x.k x.b (.slice pa x.am.length ca') (.slice pw x.wr.length cw) (.slice pm x.mb.length cm) (.slice pe x.el.length ce))).alloc (.cells #[.int .i64 0, .int .i64 0, .slice none 0 0, .slice none 0 0] 52); have R1 := rw_new (w.alloc (.cells (cvc x.k x.b (.slice pa x.am.length ca') (.slice pw x.wr.length cw) (.slice pm x.mb.length cm) (.slice pe x.el.length ce)) 27)) 52 #[.int .i64 0, .int .i64 0, .slice none 0 0, .slice none 0 0]; have hbel := bel_alloc (bel_alloc (Below.refl w.heap.size w) (.cells (cvc x.k x.b (.slice pa x.am.length ca') (.slice pw x.wr.length cw) (.slice pm x.mb.length cm) (.slice pe x.el.length ce)) 27)) (.cells #[.int .i64 0, .int .i64 0, .slice none 0 0, .slice none 0 0] 52)
  have hB : w.heap.size + 2 ≤ ((w.alloc (.cells (cvc x.k x.b (.slice pa x.am.length ca') (.slice pw x.wr.length cw) (.slice pm x.mb.length cm) (.slice pe x.el.length ce)) 27)).alloc (.cells #[.int .i64 0, .int .i64 0, .slice none 0 0, .slice none 0 0] 52)).heap.size := by simp
  generalize hW : (w.alloc (.cells (cvc x.k x.b (.slice pa x.am.length ca') (.slice pw x.wr.length cw) (.slice pm x.mb.length cm) (.slice pe x.el.length ce)) 27)).alloc (.cells #[.int .i64 0, .int .i64 0, .slice none 0 0, .slice none 0 0] 52) = w0 at R0 R1 hbel hB; simp only [World.size_alloc] at R1
  have HP : Hid (∀ e w', RdPost x w e w' ↔ ∃ u, e = .returned (VV (rdK x) u) ∧ THas w' u (rdT x) ∧ Below w.heap.size w w') := fun _ _ => Iff.rfl
  go_enter Tryz.func23, Tryz.ntmps23
  go_wp2_with (first | rw [hW] | refine load_r 27 _ rfl rfl _ rfl R0 Tryz.underlying27 rfl size27 ?_)
  clear hW; refine (refCheck_any x _ _ _ _ w0 (HF.out.later hbel) hs).mono ?_; rintro e w1 ⟨rfl, hb1⟩; replace R0 := R0.later hb1; replace R1 := R1.later hb1; replace hbel := below_on hbel hb1; replace hB := Nat.le_trans hB hb1.size; clear hb1; obtain ⟨y1, HY1⟩ := hid_ex (ck x)
  have HK : Hid (rdK x = if y1 = true then 5 else 0) := by show _ = _; unfold rdK; rw [HY1.out]
  rw [HY1.out]
  cases y1
  case' false =>
    have HT : Hid (rdT x = []) := by show _ = _; unfold rdT; rw [HY1.out]; rfl
    go_wp2_with (first | refine store_r rfl 52 _ _ rfl _ #[.int .i64 0, .int .i64 0, .slice none 0 0, .slice none 0 0] rfl rfl R1 size52 rfl (by simp [Value.oneCell']) ?_)
    refine bodyPost_ret (results_r rfl rfl (R1.row _) rfl Tryz.underlying52 size52) rfl ?_; rw [HP.out, HK.out, HT.out]; exact ⟨_, rfl, SHas.nil _ 1, below_setRow hbel (by omega) _⟩
  case' true =>
    have hT := tre_ck HY1.out; have C2 := there_any x _ _ _ _ w1 (HF.out.later hbel) hs HY1.out; have hth : (thI x.el).length ≤ 100 := Nat.le_trans (thI_len hT) hs.e
    have HTM : Hid (∀ i ∈ thI x.el, i < x.el.length) := fun i hi => thI_lt hi
    have HO : Hid ((rdT x).map encStr = (thI x.el).map (fun i => encStr (tE (gL x.el (i + 1)))) ∧ (rdT x).length = (thI x.el).length) := by
      have e : rdT x = (thI x.el).map (fun i => tE (gL x.el (i + 1))) := by
        unfold rdT; rw [if_pos HY1.out, ← thI_map hT, List.map_map]
        rfl
      refine (⟨?_, ?_⟩ : _ ∧ _)
      · rw [e, List.map_map]
        rfl
      · rw [e, List.length_map]
    obtain ⟨th, HTH⟩ := hid_ex (thI x.el); rw [HTH.out] at C2 hth HTM HO; clear hT HTH HY1 HF
    go_wp2_with (first | refine load_r 27 _ rfl rfl _ rfl R0 Tryz.underlying27 rfl size27 ?_)
    refine C2.mono ?_; clear C2; rintro e w3 ⟨ut, rfl, ou, hb1⟩; obtain ⟨pt, ct, rfl⟩ := own_sl ou; replace R0 := R0.later hb1; replace R1 := R1.later hb1; replace hbel := below_on hbel hb1; replace hB := Nat.le_trans hB hb1.size; have hbM := bel_alloc (Below.refl w3.heap.size w3) (.cells #[.int .i64 5, .int .i64 0, .slice none 0 0, .slice none 0 0] 52); have R3 := rw_new w3 52 #[.int .i64 5, .int .i64 0, .slice none 0 0, .slice none 0 0]; replace R0 := R0.later hbM; replace R1 := R1.later hbM; have oth := own_later ou hbM; have hbel2 := below_on hbel hbM; have hB2 := Nat.le_trans hB hbM.size; obtain ⟨q3, hq3⟩ : ∃ q3, q3 = w3.heap.size := ⟨_, rfl⟩
    have hq3B : w.heap.size + 2 ≤ q3 := by rw [hq3]; exact hB
    have HQ3 : Hid (w3.heap.size = q3) := hq3.symm; rw [HQ3.out] at R3
    have hthq : ∀ k, (Value.slice pt th.length ct).ownBlock = some k → k < q3 := fun k hk => by rw [hq3]; exact (World.ownsRow.lt ou k hk).2
    clear hq3; generalize hWM : w3.alloc (.cells #[.int .i64 5, .int .i64 0, .slice none 0 0, .slice none 0 0] 52) = wm at R3 R0 R1 hbel2 hB2 oth; have hwmB : q3 < wm.heap.size := R3.lt; have HWM : Hid (w3.alloc (.cells #[.int .i64 5, .int .i64 0, .slice none 0 0, .slice none 0 0] 52) = wm) := hWM; clear hWM
    go_wp2_with (first | rw [HWM.out])
    clear HWM hbel hB hbM; rw [HQ3.out]; clear HQ3 ou hb1
    go_loopw [5] (fun vi wr => ∃ (k : Nat) (vt : Value), vi = .int .i64 k ∧ k ≤ th.length ∧ wr.ownsRow (q3 + 1) 9 1 vt k ((th.take k).map (fun i => encStr (tE (gL x.el (i + 1))))) ∧ Rw wr w.heap.size 27 (cvc x.k x.b (.slice pa x.am.length ca') (.slice pw x.wr.length cw) (.slice pm x.mb.length cm) (.slice pe x.el.length ce)) ∧ Rw wr (w.heap.size + 1) 52 #[.int .i64 0, .int .i64 0, .slice none 0 0, .slice none 0 0] ∧ Rw wr q3 52 #[.int .i64 5, .int .i64 0, vt, .slice none 0 0] ∧ wr.ownsRow w1.heap.size 3 1 (.slice pt th.length ct) th.length (iv th) ∧ Below w.heap.size w wr ∧ q3 + 1 ≤ wr.heap.size) (fun vi _ => th.length - (intOf vi).toNat)
    case atStart => exact ⟨0, _, rfl, by omega, by rw [List.take_zero]; exact World.ownsRow_nil _ _ _ _, R0, R1, R3, oth, hbel2, hwmB⟩
    case round =>
      clear R0 R1 R3 hbel2 hB2 oth; obtain ⟨k, vt, rfl, hk, hown, R0, R1, R3, oth, hbel, hB⟩ := hrel; obtain ⟨P, cc, rfl⟩ := own_sl hown
      by_cases hlt : k < th.length
      case' pos =>
        have hlt' : (k : Int) < (th.length : Int) := by omega
        have hk0 : (0 : Int) ≤ (k : Int) := by omega
        obtain ⟨c, HC⟩ := hid_ex th[k]; have hck : c < x.el.length := HTM.out c (by rw [← HC.out]; exact List.getElem_mem _)
        have hc0 : (0 : Int) ≤ (c : Int) := by omega
        have hc1 : (c : Int) < (x.el.length : Int) := by omega
        obtain ⟨gk, e2, _⟩ := own_some oth (by omega); subst e2
        have ck2 : wr.cell? ⟨gk, k, none⟩ = some (.int .i64 (c : Int)) := by
          have := oth.cells rfl k _ (iv_at hlt)
          rw [Addr.add_mid, Nat.zero_add, HC.out] at this; exact this
        obtain ⟨g, o, rfl, hd0⟩ := HR.out.at (by omega)
        have hcy : c < ys.length := by rw [HYL.out]; exact hck
        have dw : w.rangeAt g (o + c * 9) (El.cells ys[c]) := range_sub hd0 (c * 9) fun j u hu => rows_at El.len ys c hcy j u hu
        have ey : ys[c].1 = gL x.el (c + 1) := by rw [gL_succ hck, HL.out c hcy hck]
        obtain ⟨yy, HX⟩ := hid_ex ys[c]; rw [HX.out] at dw ey; obtain ⟨y, yv⟩ := yy; replace ey : y = gL x.el (c + 1) := ey; have c7 : wr.cell? ⟨g, o + c * 9 + 7, none⟩ = some (.string y.x) := cell_later hbel (dw 7 _ rfl); have c5 : wr.cell? ⟨w.heap.size, 5, none⟩ = some (.slice (some ⟨g, o, none⟩) x.el.length ce) := R0.cell 5
        have HTT : Hid ((th.take (k + 1)).map (fun i => encStr (tE (gL x.el (i + 1)))) = (th.take k).map (fun i => encStr (tE (gL x.el (i + 1)))) ++ [.string y.x]) := by
          show _ = _
          rw [List.take_succ_eq_append_getElem hlt, List.map_append, HC.out]
          show _ ++ [encStr (tE (gL x.el (c + 1)))] = _
          rw [← ey]
          congr 2
        clear hd0 dw HX ey HC; go_wp2_with fail
        have hS : Calm.Stays (fun w' => Below wr.heap.size wr w') := fun wa wb h hb => below_on h hb
        have hF : Facts.Stay [pF 0 (eqP (.pointer (some ⟨q3, 2, none⟩))), pF 1 (eqP (.slice P k cc)), pF 2 (eqP (.pointer (some ⟨w.heap.size, 5, none⟩))), pF 3 (eqP (.slice (some ⟨g, o, none⟩) x.el.length ce)), pF 4 (eqP (.slice (some ⟨gk, 0, none⟩) th.length ct)), pF 5 (eqP (.int .i64 k)), pF 6 (eqP (.pointer (some ⟨gk, k, none⟩))), pF 7 (eqP (.int .i64 c)), pF 8 (eqP (.pointer (some ⟨g, o + c * 9, none⟩))), pF 9 (eqP (.pointer (some ⟨g, o + c * 9 + 7, none⟩))), pF 10 (eqP (.string y.x)), pF 11 (bslP wr.heap.size y.x)] := stay_of (by simp only [List.forall_mem_cons]; exact ⟨⟨_, _, rfl, eqP_keeps _⟩, ⟨_, _, rfl, eqP_keeps _⟩, ⟨_, _, rfl, eqP_keeps _⟩, ⟨_, _, rfl, eqP_keeps _⟩, ⟨_, _, rfl, eqP_keeps _⟩, ⟨_, _, rfl, eqP_keeps _⟩, ⟨_, _, rfl, eqP_keeps _⟩, ⟨_, _, rfl, eqP_keeps _⟩, ⟨_, _, rfl, eqP_keeps _⟩, ⟨_, _, rfl, eqP_keeps _⟩, ⟨_, _, rfl, eqP_keeps _⟩, ⟨_, _, rfl, bslP_keeps _ _⟩, fun _ h => by cases h⟩); refine Facts.regionTail (by kernel_rfl) (by kernel_rfl) 12 (by decide) (by kernel_rfl) (fun w' => Below wr.heap.size wr w') (fun xv => { tmps := #[CV x.k x.b (Value.slice pa x.am.length ca') (Value.slice pw x.wr.length cw) (Value.slice pm x.mb.length cm) (Value.slice (some { block := g, off := o }) x.el.length ce), Value.pointer (some { block := w.heap.size, off := 0 }), Value.pointer (some { block := w.heap.size + 1, off := 0 }), Value.slice (some { block := gk, off := 0 }) th.length ct, Value.pointer (some { block := q3, off := 0 }), Value.int IntKind.i64 ↑k, Value.agg (cvc x.k x.b (Value.slice pa x.am.length ca') (Value.slice pw x.wr.length cw) (Value.slice pm x.mb.length cm) (Value.slice (some { block := g, off := o }) x.el.length ce)), Value.bool true, Value.bool false, undef, Value.agg (cvc x.k x.b (Value.slice pa x.am.length ca') (Value.slice pw x.wr.length cw) (Value.slice pm x.mb.length cm) (Value.slice (some { block := g, off := o }) x.el.length ce)), Value.slice (some { block := gk, off := 0 }) th.length ct, Value.agg #[Value.int IntKind.i64 5, Value.int IntKind.i64 0, Value.slice none 0 0, Value.slice none 0 0], Value.int IntKind.i64 ↑k, Value.slice (some { block := gk, off := 0 }) th.length ct, Value.int IntKind.i64 ↑th.length, Value.bool true, u17, u18, xv 0, xv 1, xv 2, xv 3, xv 4, xv 5, xv 6, xv 7, xv 8, xv 9, xv 10, xv 11, u31, u32, undef], defers := [] }) [pF 0 (eqP (.pointer (some ⟨q3, 2, none⟩))), pF 1 (eqP (.slice P k cc)), pF 2 (eqP (.pointer (some ⟨w.heap.size, 5, none⟩))), pF 3 (eqP (.slice (some ⟨g, o, none⟩) x.el.length ce)), pF 4 (eqP (.slice (some ⟨gk, 0, none⟩) th.length ct)), pF 5 (eqP (.int .i64 k)), pF 6 (eqP (.pointer (some ⟨gk, k, none⟩))), pF 7 (eqP (.int .i64 c)), pF 8 (eqP (.pointer (some ⟨g, o + c * 9, none⟩))), pF 9 (eqP (.pointer (some ⟨g, o + c * 9 + 7, none⟩))), pF 10 (eqP (.string y.x)), pF 11 (bslP wr.heap.size y.x)] _ rfl rfl (by kernel_rfl) (fun j => [u19, u20, u21, u22, u23, u24, u25, u26, u27, u28, u29, u30].getD j undef) rfl (Below.refl _ wr).drew ⟨?_, ?_, ?_, ?_, ?_, ?_, ?_, ?_, ?_, ?_, ?_, ?_, ?_, ?_, ?_, trivial⟩ ?_
        · exact fun _ => Facts.pureP hS hF (fun _ _ => rfl) rfl (fun xv wv hSw hd => by
            go_simp)
        · exact fun _ => Facts.pureP hS hF (fun _ _ => rfl) rfl (fun xv wv hSw hd => by
            have d0 : xv 0 = _ := pF_get (hd ⟨0, .data⟩ (by simp) rfl _ rfl); have g1 := cell_later hSw c5; have g3 : wr.cell? ⟨q3, 2, none⟩ = some (.slice P k cc) := R3.cell 2; have g4 := cell_later hSw g3; have g5 := cell_later hSw c7; have g6 := cell_later hSw ck2; simp only [d0]
            go_simp)
        · exact fun _ => Facts.pureP hS hF (fun _ _ => rfl) rfl (fun xv wv hSw hd => by
            go_simp)
        · exact fun _ => Facts.pureP hS hF (fun _ _ => rfl) rfl (fun xv wv hSw hd => by
            have d2 : xv 2 = _ := pF_get (hd ⟨2, .data⟩ (by simp) rfl _ rfl); have g1 := cell_later hSw c5; have g3 : wr.cell? ⟨q3, 2, none⟩ = some (.slice P k cc) := R3.cell 2; have g4 := cell_later hSw g3; have g5 := cell_later hSw c7; have g6 := cell_later hSw ck2; simp only [d2]
            go_simp)
        · exact fun _ => Facts.pureP hS hF (fun _ _ => rfl) rfl (fun xv wv hSw hd => by
            go_simp)
        · exact fun _ => Facts.pureP hS hF (fun _ _ => rfl) rfl (fun xv wv hSw hd => by
            go_simp)
        · exact fun _ => Facts.pureP hS hF (fun _ _ => rfl) rfl (fun xv wv hSw hd => by
            have d4 : xv 4 = _ := pF_get (hd ⟨4, .data⟩ (by simp) rfl _ rfl); have d5 : xv 5 = _ := pF_get (hd ⟨5, .data⟩ (by simp) rfl _ rfl); simp only [d4, d5]
            go_simp)
        · exact fun _ => Facts.pureP hS hF (fun _ _ => rfl) rfl (fun xv wv hSw hd => by
            have d6 : xv 6 = _ := pF_get (hd ⟨6, .data⟩ (by simp) rfl _ rfl); have g1 := cell_later hSw c5; have g3 : wr.cell? ⟨q3, 2, none⟩ = some (.slice P k cc) := R3.cell 2; have g4 := cell_later hSw g3; have g5 := cell_later hSw c7; have g6 := cell_later hSw ck2; simp only [d6]
            go_simp)
        · exact fun _ => Facts.pureP hS hF (fun _ _ => rfl) rfl (fun xv wv hSw hd => by
            have d3 : xv 3 = _ := pF_get (hd ⟨3, .data⟩ (by simp) rfl _ rfl); have d7 : xv 7 = _ := pF_get (hd ⟨7, .data⟩ (by simp) rfl _ rfl); simp only [d3, d7]
            go_simp)
        · exact fun _ => Facts.pureP hS hF (fun _ _ => rfl) rfl (fun xv wv hSw hd => by
            have d8 : xv 8 = _ := pF_get (hd ⟨8, .data⟩ (by simp) rfl _ rfl); simp only [d8]
            go_simp)
        · exact fun _ => Facts.pureP hS hF (fun _ _ => rfl) rfl (fun xv wv hSw hd => by
            have d9 : xv 9 = _ := pF_get (hd ⟨9, .data⟩ (by simp) rfl _ rfl); have g1 := cell_later hSw c5; have g3 : wr.cell? ⟨q3, 2, none⟩ = some (.slice P k cc) := R3.cell 2; have g4 := cell_later hSw g3; have g5 := cell_later hSw c7; have g6 := cell_later hSw ck2; simp only [d9]
            go_simp)
        · exact fun _ => Facts.makeD hS hF (fun _ _ => rfl) rfl (fun xv wv hSw hd => by
            have d10 : xv 10 = _ := pF_get (hd ⟨10, .data⟩ (by simp) rfl _ rfl); refine ⟨.slice (some ⟨wv.heap.size, 0, none⟩) 1 1, wv.alloc (.cells #[.string y.x] 9), ?_, bel_alloc (Below.refl _ _) _, wv.heap.size, rfl, hSw.size, rw_new wv 9 #[.string y.x]⟩; simp only [d10]
            go_simp)
        · exact fun h => absurd h (by decide)
        · exact fun h => absurd h (by decide)
        · exact fun h => absurd h (by decide)
        intro x9 w5 hb5 hf; have e1 : x9 1 = _ := pF_get (hf 1 _ rfl); obtain ⟨q8, e8, hq8, R8⟩ := pF_get (hf 11 _ rfl); clear hS hF hf; replace R0 := R0.later hb5; replace R1 := R1.later hb5; replace R3 := R3.later hb5; replace oth := own_later oth hb5; replace hown := own_later hown hb5; replace hbel := below_on hbel hb5; replace hB := Nat.le_trans hB hb5.size; clear hb5 c7 c5 ck2
        have hBg : ∀ q', (Value.slice P k cc).ownBlock = some q' → q3 + 1 ≤ q' := fun q' hq => (World.ownsRow.lt hown q' hq).1
        have hc1' : ∀ j u, ([Value.string y.x] : List Value)[j]? = some u → w5.cell? ((⟨q8, 0, none⟩ : Addr).add j) = some u := fun j u hu => by
          rw [Addr.add_mid]; exact Rw.whole R8 j u hu
        refine tail_append _ _ 49 rfl (q3 + 1) 9 i0 (.string noS) 1 16 Tryz.underlying49 hi hz0 hz1 hz2 rfl (by decide) _ _ _ (show _ = Value.slice P k cc from e1) hown ⟨q8, 0, none⟩ 1 1 [.string y.x] (show _ = Value.slice (some ⟨q8, 0, none⟩) 1 1 from e8) rfl hc1' (fun u hu => by rw [List.mem_singleton.1 hu]; rfl) (by unfold maxLen; omega) (by omega) hB ?_; intro v2 w6 hown6 hg6; obtain ⟨P2, c2_, rfl⟩ := own_sl hown6; have R06 := R0.grown hg6 (fun q' hq => by have := hBg q' hq; omega); have R16 := R1.grown hg6 (fun q' hq => by have := hBg q' hq; omega); have R36 := R3.grown hg6 (fun q' hq => by have := hBg q' hq; omega); have oth6 : w6.ownsRow w1.heap.size 3 1 (.slice (some ⟨gk, 0, none⟩) th.length ct) th.length (iv th) := oth.kept hg6 (Or.inr (fun e => by have h1 : q3 + 1 ≤ gk := hBg gk e.symm; have h2 : gk < q3 := hthq gk rfl; omega)); have hb6 := hbel.grown hg6 hbel.size (fun q' hq => by have := hBg q' hq; omega); have hB6 := Nat.le_trans hB hg6.size
        have hn6 : ∀ k', (Value.slice P2 (k + 1) c2_).ownBlock = some k' → k' ≠ q3 := fun k' hk' => by have := (World.ownsRow.lt hown6 k' hk').1; omega
        clear hown hg6 R0 R1 R3 hbel hB hc1' R8 hBg oth; have c33 : w6.cell? ⟨q3, 2, none⟩ = some (.slice P k cc) := R36.cell 2; have f33 : w6.frozen? ⟨q3, 2, none⟩ = false := R36.frozen 2; refine tail_pure (v := .pointer (some ⟨q3, 2, none⟩)) (by go_simp) ?_; refine tail_store 49 _ _ rfl _ _ rfl (show _ = Value.slice P2 (k + 1) c2_ from rfl) (store49 c33 f33) ?_; refine Facts.tailWp_nil ?_; have R3' : Rw (w6.setCell ⟨q3, 2, none⟩ (.slice P2 (k + 1) c2_)) q3 52 #[.int .i64 5, .int .i64 0, .slice P2 (k + 1) c2_, .slice none 0 0] := R36.set 2 _; replace R06 := R06.setOther (q := q3) (by omega) 2 (.slice P2 (k + 1) c2_); replace R16 := R16.setOther (q := q3) (by omega) 2 (.slice P2 (k + 1) c2_); replace hown6 := own_over hown6 (b := q3) hn6 2 (.slice P2 (k + 1) c2_); replace oth6 := own_over oth6 (b := q3) (fun k' hk' => by have := hthq k' hk'; omega) 2 (.slice P2 (k + 1) c2_); replace hb6 := hb6.setCell (p := ⟨q3, 2, none⟩) (show w.heap.size ≤ q3 by omega) (.slice P2 (k + 1) c2_)
        replace hB6 : q3 + 1 ≤ (w6.setCell ⟨q3, 2, none⟩ (.slice P2 (k + 1) c2_)).heap.size := by rw [World.size_setCell]; exact hB6
        generalize w6.setCell ⟨q3, 2, none⟩ (.slice P2 (k + 1) c2_) = w7 at R3' R06 R16 hown6 oth6 hb6 hB6 ⊢; clear c33 f33 R36 hn6; go_wp2_with fail; go_roundw
        case rel => exact ⟨k + 1, _, by simp, by omega, by rw [HTT.out]; exact hown6, R06, R16, R3', oth6, hb6, hB6⟩
        case measure => simp [intOf]; omega
      case' neg =>
        have hlt' : ¬ (k : Int) < (th.length : Int) := by omega
        obtain rfl : k = th.length := by omega
        rw [List.take_length] at hown
        have HTH : Hid (wr.ownsRow (q3 + 1) 9 1 (.slice P th.length cc) (rdT x).length ((rdT x).map encStr)) := by
          show World.ownsRow _ _ _ _ _ _ _
          rw [HO.out.1, HO.out.2]; exact hown
        clear hown oth
        go_wp2_with (first | refine load_r 52 _ rfl rfl _ rfl R3 Tryz.underlying52 rfl size52 ?_ | refine store_r rfl 52 _ _ rfl _ #[.int .i64 5, .int .i64 0, .slice P th.length cc, .slice none 0 0] rfl rfl R1 size52 rfl (by simp [Value.oneCell']) ?_)
        refine bodyPost_ret (results_r rfl rfl (R1.row #[.int .i64 5, .int .i64 0, .slice P th.length cc, .slice none 0 0]) rfl Tryz.underlying52 size52) rfl ?_; rw [HP.out, HK.out]; exact ⟨_, rfl, own_sh (own_row HTH.out (by omega) _), below_setRow hbel (by omega) _⟩
end Go.Proofs.YtfjpbmdmkcihcaaGreat
/- Order of the document's answer, and whether an element is there. -/
namespace Go.Proofs.YtfjpbmdmkcihcaaGreat
open Go.RowKit
open Go.Sort

set_option maxHeartbeats 4000000 in
set_option maxRecDepth 100000 in
theorem refOrder_any (x : X) (va vw vm ve : Value) (w : World) (h : Four w x va vw vm ve) (hs : Sm x) : Calls Tryz.prog 20 #[CV x.k x.b va vw vm ve] w (OrPost x w) := by
  obtain ⟨i0, hi, hz0, hz1, hz2⟩ := info_parts info36; obtain ⟨pa, ca', pw, cw, pm, cm, pe, ce, rfl, rfl, rfl, rfl⟩ := h.slices; have HF : Hid (Four w x (.slice pa x.am.length ca') (.slice pw x.wr.length cw) (.slice pm x.mb.length cm) (.slice pe x.el.length ce)) := h; clear h; have R0 := rw_new w 27 (cvc x.k x.b (.slice pa x.am.length ca') (.slice pw x.wr.length cw) (.slice pm x.mb.length cm) (.slice pe x.el.length ce)); have hb0 := bel_alloc (Below.refl w.heap.size w) (.cells (cvc x.k x.b (.slice pa x.am.length ca') (.slice pw x.wr.length cw) (.slice pm x.mb.length cm) (.slice pe x.el.length ce)) 27); generalize hW : w.alloc (.cells (cvc x.k x.b (.slice pa x.am.length ca') (.slice pw x.wr.length cw) (.slice pm x.mb.length cm) (.slice pe x.el.length ce)) 27) = w0 at R0 hb0; obtain ⟨y1, HY1⟩ := hid_ex (ck x); have C1 := refCheck_any x _ _ _ _ w0 (HF.out.later hb0) hs; rw [HY1.out] at C1
  go_enter Tryz.func20, Tryz.ntmps20
  go_wp2_with (first | rw [hW] | refine load_r 27 _ rfl rfl _ rfl R0 Tryz.underlying27 rfl size27 ?_)
  clear hW; refine C1.mono ?_; clear C1; rintro e w1 ⟨rfl, hb1⟩; replace R0 := R0.later hb1; replace hb0 := below_on hb0 hb1; clear hb1
  cases y1
  case' false =>
    go_wp2_with fail; go_ret
    have e0 : orX x = [] := by
      unfold orX; rw [HY1.out]
      rfl
    exact ⟨_, rfl, by rw [e0]; exact World.ownsRow_nil _ _ _ _, hb0⟩
  case' true =>
    have C2 := there_any x _ _ _ _ w1 (HF.out.later hb0) hs HY1.out; have hT := tre_ck HY1.out; have hth : (thI x.el).length ≤ 100 := Nat.le_trans (thI_len hT) hs.e
    have HTM : Hid (∀ i ∈ thI x.el, i < x.el.length) := fun i hi => thI_lt hi
    have HO : Hid (orX x = (thI x.el).map (fun i => mE (gL x.el (i + 1)))) := by
      show _ = _
      unfold orX; rw [if_pos HY1.out, ← thI_map hT, List.map_map]
      rfl
    obtain ⟨th, HTH⟩ := hid_ex (thI x.el); rw [HTH.out] at C2 hth HTM HO; clear hT HTH; obtain ⟨ys, hys, hse, hy⟩ := HF.out.e
    have hyl : ys.length = x.el.length := by rw [← hys, List.length_map]
    have HR : Hid (SHas 9 w (.slice pe x.el.length ce) x.el.length (rows El.cells ys)) := hse
    have HL : Hid (∀ k (h1 : k < ys.length) (h2 : k < x.el.length), ys[k].1 = x.el[k]) := fun k h1 h2 => by
      simp only [← hys, List.getElem_map]
    clear hse hy hys
    go_wp2_with (first | refine load_r 27 _ rfl rfl _ rfl R0 Tryz.underlying27 rfl size27 ?_)
    refine C2.mono ?_; clear C2; rintro e w3 ⟨u, rfl, ou, hb1⟩; obtain ⟨P, pc, rfl⟩ := own_sl ou; have c52 : w3.cell? ⟨w.heap.size, 5, none⟩ = some (.slice pe x.el.length ce) := (R0.later hb1).cell 5; have hb2 := below_on hb0 hb1; clear hb0 hb1 R0; go_wp2_with fail; have HB2 : Hid (Below w.heap.size w w3) := hb2; have HO2 : Hid (w3.ownsRow w1.heap.size 3 1 (.slice P th.length pc) th.length (iv th)) := ou; have HC2 : Hid (w3.cell? ⟨w.heap.size, 5, none⟩ = some (.slice pe x.el.length ce)) := c52; clear ou hb2 c52; obtain ⟨w2, HW2⟩ := hid_ex w3; rw [HW2.out] at HB2 HO2 HC2 ⊢; clear HW2
    go_loopw [4, 5] (fun vo vi wr => ∃ j : Nat, vi = .int .i64 j ∧ j ≤ th.length ∧ wr.ownsRow w2.heap.size 36 3 vo j (rows M.cells ((th.take j).map (fun i => mE (gL x.el (i + 1))))) ∧ Below w2.heap.size w2 wr) (fun _ vi _ => th.length - (intOf vi).toNat)
    case atStart => exact ⟨0, rfl, by omega, World.ownsRow_nil _ _ _ _, Below.refl _ _⟩
    case round =>
      obtain ⟨j, rfl, hj, hown, hb9⟩ := hrel; obtain ⟨Q, qc, rfl⟩ := own_sl hown
      by_cases hjt : j < th.length
      case' pos =>
        have hjt' : (j : Int) < (th.length : Int) := by omega
        have hj0 : (0 : Int) ≤ (j : Int) := by omega
        obtain ⟨c, HC⟩ := hid_ex th[j]; have hck : c < x.el.length := HTM.out c (by rw [← HC.out]; exact List.getElem_mem _)
        have hc0 : (0 : Int) ≤ (c : Int) := by omega
        have hc1 : (c : Int) < (x.el.length : Int) := by omega
        obtain ⟨r, HRR⟩ := hid_ex (mE (gL x.el (c + 1)))
        have HT : Hid ((th.take (j + 1)).map (fun i => mE (gL x.el (i + 1))) = (th.take j).map (fun i => mE (gL x.el (i + 1))) ++ [r]) := by
          show _ = _
          rw [List.take_succ_eq_append_getElem hjt, List.map_append, HC.out]
          show _ ++ [mE (gL x.el (c + 1))] = _
          rw [HRR.out]
        obtain ⟨gk0, ok, e1, hrk⟩ := (own_sh HO2.out).at (by omega); obtain ⟨gk, e2, _⟩ := own_some HO2.out (by omega); rw [e2] at e1; simp only [Option.some.injEq, Addr.mk.injEq, and_true] at e1; obtain ⟨rfl, rfl⟩ := e1; subst e2
        have ck2 : wr.cell? ⟨gk, j, none⟩ = some (.int .i64 (c : Int)) := by
          have := hrk j _ (iv_at hjt)
          rw [Nat.zero_add, HC.out] at this; exact cell_later hb9 this
        clear hrk HC; obtain ⟨g, o, rfl, hd0⟩ := HR.out.at (by omega); have dw : w.rangeAt g (o + c * 9) (El.cells (ys[c]'(by omega))) := range_sub hd0 (c * 9) fun j u hu => rows_at El.len ys c (by omega) j u hu
        have ey : mE (ys[c]'(by omega)).1 = r := by rw [HL.out c (by omega) hck, ← HRR.out, gL_succ hck]
        obtain ⟨yy, HX⟩ := hid_ex (ys[c]'(by omega)); rw [HX.out] at dw ey; obtain ⟨y, yv⟩ := yy
        have dm : w.rangeAt g (o + c * 9) [Value.int .i64 r.p, .int .i64 r.s, .int .i64 r.i] := by
          rw [← ey]
          exact range_sub (o := o + c * 9) (xs := El.cells (y, yv)) dw 0 (fun j a ha => by
            rw [Nat.zero_add]
            match j, ha with
            | 0, h => exact h
            | 1, h => exact h
            | 2, h => exact h
            | j + 3, h => simp at h)
        have d9 := range_later dm (below_on HB2.out hb9); have c5 := cell_later hb9 HC2.out; have zu : (Tryz.prog.info? 36).map (·.size) = some [Value.int .i64 r.p, .int .i64 r.s, .int .i64 r.i].length := size36; clear hd0 dw ey HX dm HRR; go_wp2_with fail
        have hS : Calm.Stays (fun w' => Below wr.heap.size wr w') := fun wa wb h hb => below_on h hb
        have hF : Facts.Stay [pF 0 (eqP (.slice Q j qc)), pF 1 (eqP (.pointer (some ⟨w.heap.size, 5, none⟩))), pF 2 (eqP (.slice (some ⟨g, o, none⟩) x.el.length ce)), pF 3 (eqP (.slice (some ⟨gk, 0, none⟩) th.length pc)), pF 4 (eqP (.int .i64 j)), pF 5 (eqP (.pointer (some ⟨gk, j, none⟩))), pF 6 (eqP (.int .i64 c)), pF 7 (eqP (.pointer (some ⟨g, o + c * 9, none⟩))), pF 8 (eqP (.pointer (some ⟨g, o + c * 9, none⟩))), pF 9 (eqP (.agg [Value.int .i64 r.p, .int .i64 r.s, .int .i64 r.i].toArray)), pF 10 ((fun (v : Value) (w' : World) => ∃ g', v = .slice (some ⟨g', 0, none⟩) 1 1 ∧ w'.rangeAt g' 0 [Value.int .i64 r.p, .int .i64 r.s, .int .i64 r.i]))] := stay_of (by simp only [List.forall_mem_cons]; exact ⟨⟨_, _, rfl, eqP_keeps _⟩, ⟨_, _, rfl, eqP_keeps _⟩, ⟨_, _, rfl, eqP_keeps _⟩, ⟨_, _, rfl, eqP_keeps _⟩, ⟨_, _, rfl, eqP_keeps _⟩, ⟨_, _, rfl, eqP_keeps _⟩, ⟨_, _, rfl, eqP_keeps _⟩, ⟨_, _, rfl, eqP_keeps _⟩, ⟨_, _, rfl, eqP_keeps _⟩, ⟨_, _, rfl, eqP_keeps _⟩, ⟨_, _, rfl, (fun _ _ _ ⟨g, e, h⟩ hb => ⟨g, e, range_later h hb⟩)⟩, fun _ h => by cases h⟩); refine Facts.regionTail (by kernel_rfl) (by kernel_rfl) 11 (by decide) (by kernel_rfl) (fun w' => Below wr.heap.size wr w') (fun xv => { tmps := #[CV x.k x.b (Value.slice pa x.am.length ca') (Value.slice pw x.wr.length cw) (Value.slice pm x.mb.length cm) (Value.slice (some { block := g, off := o }) x.el.length ce), Value.pointer (some { block := w.heap.size, off := 0 }), Value.slice none 0 0, Value.slice (some { block := gk, off := 0 }) th.length pc, Value.slice Q j qc, Value.int IntKind.i64 ↑j, Value.agg (cvc x.k x.b (Value.slice pa x.am.length ca') (Value.slice pw x.wr.length cw) (Value.slice pm x.mb.length cm) (Value.slice (some { block := g, off := o }) x.el.length ce)), Value.bool true, Value.bool false, Value.agg (cvc x.k x.b (Value.slice pa x.am.length ca') (Value.slice pw x.wr.length cw) (Value.slice pm x.mb.length cm) (Value.slice (some { block := g, off := o }) x.el.length ce)), Value.slice (some { block := gk, off := 0 }) th.length pc, Value.int IntKind.i64 ↑j, Value.slice (some { block := gk, off := 0 }) th.length pc, Value.int IntKind.i64 ↑th.length, Value.bool true, u15, u16, xv 0, xv 1, xv 2, xv 3, xv 4, xv 5, xv 6, xv 7, xv 8, xv 9, xv 10, u28, undef], defers := [] }) [pF 0 (eqP (.slice Q j qc)), pF 1 (eqP (.pointer (some ⟨w.heap.size, 5, none⟩))), pF 2 (eqP (.slice (some ⟨g, o, none⟩) x.el.length ce)), pF 3 (eqP (.slice (some ⟨gk, 0, none⟩) th.length pc)), pF 4 (eqP (.int .i64 j)), pF 5 (eqP (.pointer (some ⟨gk, j, none⟩))), pF 6 (eqP (.int .i64 c)), pF 7 (eqP (.pointer (some ⟨g, o + c * 9, none⟩))), pF 8 (eqP (.pointer (some ⟨g, o + c * 9, none⟩))), pF 9 (eqP (.agg [Value.int .i64 r.p, .int .i64 r.s, .int .i64 r.i].toArray)), pF 10 ((fun (v : Value) (w' : World) => ∃ g', v = .slice (some ⟨g', 0, none⟩) 1 1 ∧ w'.rangeAt g' 0 [Value.int .i64 r.p, .int .i64 r.s, .int .i64 r.i]))] _ rfl rfl (by kernel_rfl) (fun j => [u17, u18, u19, u20, u21, u22, u23, u24, u25, u26, u27].getD j undef) rfl (Below.refl _ wr).drew ⟨?_, ?_, ?_, ?_, ?_, ?_, ?_, ?_, ?_, ?_, ?_, ?_, ?_, trivial⟩ ?_
        · exact fun _ => Facts.pureP hS hF (fun _ _ => rfl) rfl (fun xv wv hSw hd => by
            go_simp)
        · exact fun _ => Facts.pureP hS hF (fun _ _ => rfl) rfl (fun xv wv hSw hd => by
            go_simp)
        · exact fun _ => Facts.pureP hS hF (fun _ _ => rfl) rfl (fun xv wv hSw hd => by
            have d1 : xv 1 = _ := pF_get (hd ⟨1, .data⟩ (by simp) rfl _ rfl); have c5w := cell_later hSw c5; have ckw := cell_later hSw ck2; simp only [d1]
            go_simp)
        · exact fun _ => Facts.pureP hS hF (fun _ _ => rfl) rfl (fun xv wv hSw hd => by
            go_simp)
        · exact fun _ => Facts.pureP hS hF (fun _ _ => rfl) rfl (fun xv wv hSw hd => by
            go_simp)
        · exact fun _ => Facts.pureP hS hF (fun _ _ => rfl) rfl (fun xv wv hSw hd => by
            have d3 : xv 3 = _ := pF_get (hd ⟨3, .data⟩ (by simp) rfl _ rfl); have d4 : xv 4 = _ := pF_get (hd ⟨4, .data⟩ (by simp) rfl _ rfl); simp only [d3, d4]
            go_simp)
        · exact fun _ => Facts.pureP hS hF (fun _ _ => rfl) rfl (fun xv wv hSw hd => by
            have d5 : xv 5 = _ := pF_get (hd ⟨5, .data⟩ (by simp) rfl _ rfl); have c5w := cell_later hSw c5; have ckw := cell_later hSw ck2; simp only [d5]
            go_simp)
        · exact fun _ => Facts.pureP hS hF (fun _ _ => rfl) rfl (fun xv wv hSw hd => by
            have d2 : xv 2 = _ := pF_get (hd ⟨2, .data⟩ (by simp) rfl _ rfl); have d6 : xv 6 = _ := pF_get (hd ⟨6, .data⟩ (by simp) rfl _ rfl); simp only [d2, d6]
            go_simp)
        · exact fun _ => Facts.pureP hS hF (fun _ _ => rfl) rfl (fun xv wv hSw hd => by
            have d7 : xv 7 = _ := pF_get (hd ⟨7, .data⟩ (by simp) rfl _ rfl); simp only [d7]
            go_simp)
        · exact fun _ => Facts.loadP hS hF (fun _ _ => rfl) 36 Tryz.underlying36 rfl zu _ rfl rfl (fun xv wv hSw hd => by have d8 : xv 8 = _ := pF_get (hd ⟨8, .data⟩ (by simp) rfl _ rfl); exact d8) (fun wv hSw => range_later d9 hSw)
        · exact fun _ => Facts.makeD hS hF (fun _ _ => rfl) rfl (fun xv wv hSw hd => by
            have d9 : xv 9 = _ := pF_get (hd ⟨9, .data⟩ (by simp) rfl _ rfl); refine ⟨.slice (some ⟨wv.heap.size, 0, none⟩) 1 1, wv.alloc (.cells #[.int .i64 r.p, .int .i64 r.s, .int .i64 r.i] 36), ?_, bel_alloc (Below.refl _ _) _, wv.heap.size, rfl, Rw.whole (cs := [Value.int .i64 r.p, .int .i64 r.s, .int .i64 r.i]) (rw_new wv 36 #[.int .i64 r.p, .int .i64 r.s, .int .i64 r.i])⟩; simp only [d9]
            go_simp)
        · exact fun h => absurd h (by decide)
        · exact fun h => absurd h (by decide)
        intro xr w6 hb5 hff; have e0 : xr 0 = _ := pF_get (hff 0 _ rfl); obtain ⟨g1, e10, r10⟩ := pF_get (hff 10 _ rfl); clear hff hS hF; have o6 := own_later hown hb5; refine tail_append _ _ 46 rfl w2.heap.size 36 i0 (MV 0 0 0) 3 24 Tryz.underlying46 hi hz0 hz1 hz2 rfl (by decide) _ j _ e0 o6 ⟨g1, 0, none⟩ 1 1 [Value.int .i64 r.p, .int .i64 r.s, .int .i64 r.i] e10 rfl (fun q u hq => by rw [Addr.add_mid]; exact r10 q u hq) (M.one r) (by unfold maxLen; omega) (by omega) (Nat.le_trans hb9.size hb5.size) ?_; intro v1 w7 o7 hg7; refine tail_pure (v := v1) rfl ?_; refine Facts.tailWp_nil ?_; simp only [put4]; have hb7 := (below_on hb9 hb5).grown hg7 (below_on hb9 hb5).size (fun q' hq => (World.ownsRow.lt o6 q' hq).1)
        have e7 : w7.ownsRow w2.heap.size 36 3 v1 (j + 1) (rows M.cells ((th.take (j + 1)).map (fun i => mE (gL x.el (i + 1))))) := by
          rw [HT.out, rows_append, rows_one]; exact o7
        clear o7 hg7 o6 hb5 hb9 c5 ck2 d9 e0 e10 r10 hown; go_wp2_with fail; go_roundw
        case rel => exact ⟨j + 1, by simp, by omega, e7, hb7⟩
        case measure => simp [intOf]; omega
      case' neg =>
        obtain rfl : j = th.length := by omega
        have hjt' : ¬ (th.length : Int) < (th.length : Int) := by omega
        rw [List.take_length] at hown
        have HE : Hid (wr.ownsRow w2.heap.size 36 3 (.slice Q th.length qc) (orX x).length (rows M.cells (orX x))) := by
          show World.ownsRow _ _ _ _ _ _ _
          rw [HO.out, List.length_map]; exact hown
        go_wp2_with fail; go_ret; exact ⟨_, rfl, own_mono HE.out HB2.out.size, below_on HB2.out hb9⟩
end Go.Proofs.YtfjpbmdmkcihcaaGreat
