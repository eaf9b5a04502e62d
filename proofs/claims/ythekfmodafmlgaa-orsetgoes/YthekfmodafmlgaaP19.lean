import Derived.Test.YthekfmodafmlgaaP18
import Derived.Test.YthekfmodafmlgaaP7
import Derived.Test.YthekfmodafmlgaaP11
/- Read of the document's answer. -/
namespace Go.Proofs.Ythekfmodafmlgaa
open Go.RowKit
open Go.Sort

/-- A new slice of one text. -/
def bslP (N : Nat) (s : ByteArray) : Value → World → Prop := fun u w => ∃ q, u = .slice (some ⟨q, 0, none⟩) 1 1 ∧ N ≤ q ∧ Rw w q 9 #[.string s]
theorem bslP_keeps (N : Nat) (s : ByteArray) : Keeps (bslP N s) := fun _ _ _ ⟨q, e, hN, h⟩ hb => ⟨q, e, hN, h.later hb⟩
theorem Facts.bsl {Q : Exit → Act → World → Prop} {S : World → Prop} {md : Region.Mode} {A : (Nat → Value) → Act} {F : List Facts.Fact} {i : Nat} {o : Oper} (hS : Calm.Stays S) (hF : Facts.Stay F) (hA : ∀ x u, (A x).put o.dst u = A (Facts.put x i u)) {N : Nat} {s : ByteArray} (hf : F[i]? = some (pF i (bslP N s))) (hN : ∀ w, S w → N ≤ w.heap.size)
    (h : ∀ x w, S w → (∀ e ∈ o.after, Region.binds md e = true → ∀ f, F[e.on]? = some f → Facts.holds f x w) → (execOp (A x).eval o).run Try.prog w = .ok (.value (.slice (some ⟨w.heap.size, 0, none⟩) 1 1)) (w.alloc (.cells #[.string s] 9))) : Facts.StepOk Try.prog md Q S A F i o :=
  Facts.step hS hF hA fun x w hSw hdep => by
    unfold Oper.wp
    rw [h x w hSw hdep]
    refine ⟨_, rfl, bel_alloc (Below.refl _ _) _, fun f hf' => ?_⟩
    rw [hf] at hf'
    obtain rfl := Option.some.inj hf'
    exact pF_put ⟨_, rfl, hN w hSw, rw_new w 9 #[.string s]⟩
theorem store38 {w : World} {b j : Nat} {p : Option Addr} {l c : Nat} {u : Value} (hc : w.cell? ⟨b, j, none⟩ = some u) (hf : w.frozen? ⟨b, j, none⟩ = false) : (Instr.storeAt 38 (.pointer (some ⟨b, j, none⟩)) (.slice p l c)).run Try.prog w = .ok () (w.setCell ⟨b, j, none⟩ (.slice p l c)) := by
  go_simp
set_option maxHeartbeats 4000000 in
set_option maxRecDepth 100000 in
theorem refRead_any (x : X) (va vw vm ve : Value) (w : World) (h : Four w x va vw vm ve) (hs : Sm x) : Calls Try.prog 25 #[CV x.k x.b va vw vm ve] w (RdPost x w) := by
  obtain ⟨i0, hi, hz0, hz1, hz2⟩ := info_parts info9
  obtain ⟨pa, ca', pw, cw, pm, cm, pe, ce, rfl, rfl, rfl, rfl⟩ := h.slices
  have HF : Hid (Four w x (.slice pa x.am.length ca') (.slice pw x.wr.length cw) (.slice pm x.mb.length cm) (.slice pe x.el.length ce)) := h
  clear h
  obtain ⟨ys, hys, HS, HYS⟩ := HF.out.m
  have hyl : ys.length = x.mb.length := by rw [← hys, List.length_map]
  have HR : Hid (SHas 3 w (.slice pm x.mb.length cm) x.mb.length (rows Mb.cells ys)) := HS
  have HL : Hid (∀ k (h1 : k < ys.length) (h2 : k < x.mb.length), ys[k].1 = x.mb[k]) := fun k h1 h2 => by
    have := congrArg (fun l => l[k]?) hys
    simp only [List.getElem?_map, List.getElem?_eq_getElem h1, List.getElem?_eq_getElem h2, Option.map_some, Option.some.injEq] at this
    exact this
  have hm100 := hs.m
  clear hys HS HYS
  have R0 := (rw_new w 27 (cvc x.k x.b (.slice pa x.am.length ca') (.slice pw x.wr.length cw) (.slice pm x.mb.length cm) (.slice pe x.el.length ce))).alloc (.cells #[.int .i64 0, .int .i64 0, .slice none 0 0, .slice none 0 0] 48)
  have R1 := rw_new (w.alloc (.cells (cvc x.k x.b (.slice pa x.am.length ca') (.slice pw x.wr.length cw) (.slice pm x.mb.length cm) (.slice pe x.el.length ce)) 27)) 48 #[.int .i64 0, .int .i64 0, .slice none 0 0, .slice none 0 0]
  have hbel := bel_alloc (bel_alloc (Below.refl w.heap.size w) (.cells (cvc x.k x.b (.slice pa x.am.length ca') (.slice pw x.wr.length cw) (.slice pm x.mb.length cm) (.slice pe x.el.length ce)) 27)) (.cells #[.int .i64 0, .int .i64 0, .slice none 0 0, .slice none 0 0] 48)
  have hB : w.heap.size + 2 ≤ ((w.alloc (.cells (cvc x.k x.b (.slice pa x.am.length ca') (.slice pw x.wr.length cw) (.slice pm x.mb.length cm) (.slice pe x.el.length ce)) 27)).alloc (.cells #[.int .i64 0, .int .i64 0, .slice none 0 0, .slice none 0 0] 48)).heap.size := by simp
  generalize hW : (w.alloc (.cells (cvc x.k x.b (.slice pa x.am.length ca') (.slice pw x.wr.length cw) (.slice pm x.mb.length cm) (.slice pe x.el.length ce)) 27)).alloc (.cells #[.int .i64 0, .int .i64 0, .slice none 0 0, .slice none 0 0] 48) = w0 at R0 R1 hbel hB
  simp only [World.size_alloc] at R1
  have HP : Hid (∀ e w', RdPost x w e w' ↔ ∃ u, e = .returned (VV (rdK x) u) ∧ THas w' u (rdT x) ∧ Below w.heap.size w w') := fun _ _ => Iff.rfl
  go_enter Try.func25, Try.ntmps25
  go_wp2_with (first | rw [hW] | refine load_r 27 _ rfl rfl _ rfl R0 Try.underlying27 rfl size27 ?_)
  clear hW
  refine (refCheck_any x _ _ _ _ w0 (HF.out.later hbel) hs).mono ?_
  rintro e w1 ⟨rfl, hb1⟩
  replace R0 := R0.later hb1
  replace R1 := R1.later hb1
  replace hbel := below_on hbel hb1
  replace hB := Nat.le_trans hB hb1.size
  clear hb1 HF
  obtain ⟨y1, HY1⟩ := hid_ex (ck x)
  have HK : Hid (rdK x = if y1 = true then 4 else 0) := by show _ = _; unfold rdK; rw [HY1.out]
  have HT : Hid (rdT x = if y1 = true then txL x.mb else []) := by show _ = _; unfold rdT; rw [HY1.out]
  rw [HY1.out]
  clear HY1
  cases y1
  · go_wp2_with (first | refine store_r rfl 48 _ _ rfl _ #[.int .i64 0, .int .i64 0, .slice none 0 0, .slice none 0 0] rfl rfl R1 size48 rfl (by simp [Value.oneCell']) ?_)
    refine bodyPost_ret (results_r rfl rfl (R1.row _) rfl Try.underlying48 size48) rfl ?_
    rw [HP.out, HK.out, HT.out]
    exact ⟨_, rfl, THas.nil _, below_setRow hbel (by omega) _⟩
  · have hbM := bel_alloc (Below.refl w1.heap.size w1) (.cells #[.int .i64 4, .int .i64 0, .slice none 0 0, .slice none 0 0] 48)
    have R3 := rw_new w1 48 #[.int .i64 4, .int .i64 0, .slice none 0 0, .slice none 0 0]
    replace R0 := R0.later hbM
    replace R1 := R1.later hbM
    have hbel2 := below_on hbel hbM
    have hB2 := Nat.le_trans hB hbM.size
    obtain ⟨q3, hq3⟩ : ∃ q3, q3 = w1.heap.size := ⟨_, rfl⟩
    have hq3B : w.heap.size + 2 ≤ q3 := by rw [hq3]; exact hB
    have HQ3 : Hid (w1.heap.size = q3) := hq3.symm
    rw [HQ3.out] at R3
    clear hq3
    generalize hWM : w1.alloc (.cells #[.int .i64 4, .int .i64 0, .slice none 0 0, .slice none 0 0] 48) = wm at R3 R0 R1 hbel2 hB2
    have HWM : Hid (w1.alloc (.cells #[.int .i64 4, .int .i64 0, .slice none 0 0, .slice none 0 0] 48) = wm) := hWM
    clear hWM
    go_wp2_with (first | rw [HWM.out])
    clear HWM hbel hB hbM
    rw [HQ3.out]
    clear HQ3
    go_loopw [4] (fun vi wr => ∃ (k : Nat) (vt : Value), vi = .int .i64 k ∧ k ≤ x.mb.length ∧ wr.ownsRow (w.heap.size + 2) 9 1 vt k ((txL (x.mb.take k)).map encStr) ∧ Rw wr w.heap.size 27 (cvc x.k x.b (.slice pa x.am.length ca') (.slice pw x.wr.length cw) (.slice pm x.mb.length cm) (.slice pe x.el.length ce)) ∧ Rw wr (w.heap.size + 1) 48 #[.int .i64 0, .int .i64 0, .slice none 0 0, .slice none 0 0] ∧ Rw wr q3 48 #[.int .i64 4, .int .i64 0, vt, .slice none 0 0] ∧ Below w.heap.size w wr ∧ w.heap.size + 2 ≤ wr.heap.size) (fun vi _ => x.mb.length - (intOf vi).toNat)
    case atStart => exact ⟨0, _, rfl, by omega, by rw [List.take_zero]; exact World.ownsRow_nil _ _ _ _, R0, R1, R3, hbel2, hB2⟩
    case round =>
      clear R0 R1 R3 hbel2 hB2 w0 w1
      obtain ⟨k, vt, rfl, hk, hown, R0, R1, R3, hbel, hB⟩ := hrel
      obtain ⟨P, cc, rfl⟩ := own_sl hown
      have c4 : wr.cell? ⟨w.heap.size, 4, none⟩ = some (.slice pm x.mb.length cm) := R0.cell 4
      by_cases hlt : k < x.mb.length
      · have hlt' : (k : Int) < (x.mb.length : Int) := by omega
        have hk0 : (0 : Int) ≤ (k : Int) := by omega
        obtain ⟨g, o, rfl, hd0⟩ := HR.out.at (by omega)
        have d := Mb.elem (range_later hd0 hbel) k (by omega)
        have HTT : Hid ((txL (x.mb.take (k + 1))).map encStr = (txL (x.mb.take k)).map encStr ++ [.string x.mb[k].x]) := txL_take hlt
        rw [← HL.out k (by omega) hlt] at HTT
        obtain ⟨yy, HX⟩ := hid_ex (ys[k]'(by omega))
        rw [HX.out] at d HTT
        obtain ⟨y, yv⟩ := yy
        replace HTT : Hid ((txL (x.mb.take (k + 1))).map encStr = (txL (x.mb.take k)).map encStr ++ [.string y.x]) := HTT
        have c1 : wr.cell? ⟨g, o + k * 3, none⟩ = some (.string y.x) := d 0 _ rfl
        clear hd0 HX d
        go_wp2_with fail
        clear c4
        have hS : Calm.Stays (fun w' => Below wr.heap.size wr w') := fun wa wb h hb => below_on h hb
        have hF : Facts.Stay [pF 0 (eqP (.pointer (some ⟨q3, 2, none⟩))), pF 1 (eqP (.slice P k cc)), pF 2 (eqP (.pointer (some ⟨w.heap.size, 4, none⟩))), pF 3 (eqP (.slice (some ⟨g, o, none⟩) x.mb.length cm)), pF 4 (eqP (.int .i64 k)), pF 5 (eqP (.pointer (some ⟨g, o + k * 3, none⟩))), pF 6 (eqP (.pointer (some ⟨g, o + k * 3, none⟩))), pF 7 (eqP (.string y.x)), pF 8 (bslP wr.heap.size y.x)] := stay_of (by simp only [List.forall_mem_cons]; exact ⟨⟨_, _, rfl, eqP_keeps _⟩, ⟨_, _, rfl, eqP_keeps _⟩, ⟨_, _, rfl, eqP_keeps _⟩, ⟨_, _, rfl, eqP_keeps _⟩, ⟨_, _, rfl, eqP_keeps _⟩, ⟨_, _, rfl, eqP_keeps _⟩, ⟨_, _, rfl, eqP_keeps _⟩, ⟨_, _, rfl, eqP_keeps _⟩, ⟨_, _, rfl, bslP_keeps _ _⟩, fun _ h => by cases h⟩)
        refine Facts.regionTail (by kernel_rfl) (by kernel_rfl) 9 (by decide) (by kernel_rfl) (fun w' => Below wr.heap.size wr w') (fun xv => { tmps := #[CV x.k x.b (Value.slice pa x.am.length ca') (Value.slice pw x.wr.length cw) (Value.slice (some { block := g, off := o }) x.mb.length cm) (Value.slice pe x.el.length ce), Value.pointer (some { block := w.heap.size, off := 0 }), Value.pointer (some { block := w.heap.size + 1, off := 0 }), Value.pointer (some { block := q3, off := 0 }), Value.int IntKind.i64 ↑k, Value.agg (cvc x.k x.b (Value.slice pa x.am.length ca') (Value.slice pw x.wr.length cw) (Value.slice (some { block := g, off := o }) x.mb.length cm) (Value.slice pe x.el.length ce)), Value.bool true, Value.bool false, undef, Value.agg #[Value.int IntKind.i64 4, Value.int IntKind.i64 0, Value.slice none 0 0, Value.slice none 0 0], Value.int IntKind.i64 ↑k, Value.pointer (some { block := w.heap.size, off := 4 }), Value.slice (some { block := g, off := o }) x.mb.length cm, Value.int IntKind.i64 ↑x.mb.length, Value.bool true, u15, u16, xv 0, xv 1, xv 2, xv 3, xv 4, xv 5, xv 6, xv 7, xv 8, u26, u27, undef], defers := [] }) [pF 0 (eqP (.pointer (some ⟨q3, 2, none⟩))), pF 1 (eqP (.slice P k cc)), pF 2 (eqP (.pointer (some ⟨w.heap.size, 4, none⟩))), pF 3 (eqP (.slice (some ⟨g, o, none⟩) x.mb.length cm)), pF 4 (eqP (.int .i64 k)), pF 5 (eqP (.pointer (some ⟨g, o + k * 3, none⟩))), pF 6 (eqP (.pointer (some ⟨g, o + k * 3, none⟩))), pF 7 (eqP (.string y.x)), pF 8 (bslP wr.heap.size y.x)] _ rfl rfl (by kernel_rfl) (fun j => [u17, u18, u19, u20, u21, u22, u23, u24, u25].getD j undef) rfl (Below.refl _ wr).drew ⟨?_, ?_, ?_, ?_, ?_, ?_, ?_, ?_, ?_, ?_, ?_, ?_, trivial⟩ ?_
        · exact fun _ => Facts.pureP hS hF (fun _ _ => rfl) rfl (fun xv wv hSw hd => by
            go_simp)
        · exact fun _ => Facts.pureP hS hF (fun _ _ => rfl) rfl (fun xv wv hSw hd => by
            have d0 : xv 0 = _ := pF_get (hd ⟨0, .data⟩ (by simp) rfl _ rfl)
            have g1 : wr.cell? ⟨w.heap.size, 4, none⟩ = some (.slice (some ⟨g, o, none⟩) x.mb.length cm) := R0.cell 4
            have g2 := cell_later hSw g1
            have g3 : wr.cell? ⟨q3, 2, none⟩ = some (.slice P k cc) := R3.cell 2
            have g4 := cell_later hSw g3
            have g5 := cell_later hSw c1
            simp only [d0]
            go_simp)
        · exact fun _ => Facts.pureP hS hF (fun _ _ => rfl) rfl (fun xv wv hSw hd => by
            go_simp)
        · exact fun _ => Facts.pureP hS hF (fun _ _ => rfl) rfl (fun xv wv hSw hd => by
            have d2 : xv 2 = _ := pF_get (hd ⟨2, .data⟩ (by simp) rfl _ rfl)
            have g1 : wr.cell? ⟨w.heap.size, 4, none⟩ = some (.slice (some ⟨g, o, none⟩) x.mb.length cm) := R0.cell 4
            have g2 := cell_later hSw g1
            have g3 : wr.cell? ⟨q3, 2, none⟩ = some (.slice P k cc) := R3.cell 2
            have g4 := cell_later hSw g3
            have g5 := cell_later hSw c1
            simp only [d2]
            go_simp)
        · exact fun _ => Facts.pureP hS hF (fun _ _ => rfl) rfl (fun xv wv hSw hd => by
            go_simp)
        · exact fun _ => Facts.pureP hS hF (fun _ _ => rfl) rfl (fun xv wv hSw hd => by
            have d3 : xv 3 = _ := pF_get (hd ⟨3, .data⟩ (by simp) rfl _ rfl)
            have d4 : xv 4 = _ := pF_get (hd ⟨4, .data⟩ (by simp) rfl _ rfl)
            simp only [d3, d4]
            go_simp)
        · exact fun _ => Facts.pureP hS hF (fun _ _ => rfl) rfl (fun xv wv hSw hd => by
            have d5 : xv 5 = _ := pF_get (hd ⟨5, .data⟩ (by simp) rfl _ rfl)
            simp only [d5]
            go_simp)
        · exact fun _ => Facts.pureP hS hF (fun _ _ => rfl) rfl (fun xv wv hSw hd => by
            have d6 : xv 6 = _ := pF_get (hd ⟨6, .data⟩ (by simp) rfl _ rfl)
            have g1 : wr.cell? ⟨w.heap.size, 4, none⟩ = some (.slice (some ⟨g, o, none⟩) x.mb.length cm) := R0.cell 4
            have g2 := cell_later hSw g1
            have g3 : wr.cell? ⟨q3, 2, none⟩ = some (.slice P k cc) := R3.cell 2
            have g4 := cell_later hSw g3
            have g5 := cell_later hSw c1
            simp only [d6]
            go_simp)
        · exact fun _ => Facts.bsl hS hF (fun _ _ => rfl) rfl (fun wv hSw => hSw.size) (fun xv wv hSw hd => by
              have d7 : xv 7 = _ := pF_get (hd ⟨7, .data⟩ (by simp) rfl _ rfl)
              simp only [d7]
              go_simp)
        · exact fun h => absurd h (by decide)
        · exact fun h => absurd h (by decide)
        · exact fun h => absurd h (by decide)
        intro x9 w5 hb5 hf
        have e1 : x9 1 = _ := pF_get (hf 1 _ rfl)
        obtain ⟨q8, e8, hq8, R8⟩ := pF_get (hf 8 _ rfl)
        clear hS hF hf
        replace R0 := R0.later hb5
        replace R1 := R1.later hb5
        replace R3 := R3.later hb5
        replace hown := own_later hown hb5
        replace hbel := below_on hbel hb5
        replace hB := Nat.le_trans hB hb5.size
        clear hb5 c1
        have hBg : ∀ q', (Value.slice P k cc).ownBlock = some q' → w.heap.size + 2 ≤ q' := fun q' hq => (World.ownsRow.lt hown q' hq).1
        have hc1 : ∀ j u, ([Value.string y.x] : List Value)[j]? = some u → w5.cell? ((⟨q8, 0, none⟩ : Addr).add j) = some u := fun j u hu => by
          rw [Addr.add_mid]
          exact Rw.whole R8 j u hu
        refine wp_append_own w5 _ _ 38 rfl (w.heap.size + 2) 9 i0 (.string noS) 1 16 Try.underlying38 hi hz0 hz1 hz2 rfl (by decide) _ _ _ (show _ = Value.slice P k cc from e1) hown ⟨q8, 0, none⟩ 1 1 [.string y.x] (show _ = Value.slice (some ⟨q8, 0, none⟩) 1 1 from e8) rfl hc1 (one_str y.x) (by unfold maxLen; omega) (by omega) hB ?_
        intro v2 w6 hown6 hg6 _
        obtain ⟨P2, c2_, rfl⟩ := own_sl hown6
        have R06 := R0.grown hg6 (fun q' hq => by have := hBg q' hq; omega)
        have R16 := R1.grown hg6 (fun q' hq => by have := hBg q' hq; omega)
        have R36 : Rw w6 q3 48 #[.int .i64 4, .int .i64 0, .slice P k cc, .slice none 0 0] := (hg6.block q3 R3.lt (fun e => own_ne hown R3 (by decide) q3 e.symm rfl)).trans R3
        have hb6 := hbel.grown hg6 hbel.size (fun q' hq => by have := hBg q' hq; omega)
        have hB6 := Nat.le_trans hB hg6.size
        have hn6 := own_ne hown6 R36 (by decide)
        clear hown hg6 R0 R1 R3 hbel hB hc1 R8 hBg
        have c33 : w6.cell? ⟨q3, 2, none⟩ = some (.slice P k cc) := R36.cell 2
        have f33 : w6.frozen? ⟨q3, 2, none⟩ = false := R36.frozen 2
        refine tail_pure (v := .pointer (some ⟨q3, 2, none⟩)) (by go_simp) ?_
        refine tail_store 38 _ _ rfl _ _ rfl (show _ = Value.slice P2 (k + 1) c2_ from rfl) (store38 c33 f33) ?_
        refine Facts.tailWp_nil ?_
        have R3' : Rw (w6.setCell ⟨q3, 2, none⟩ (.slice P2 (k + 1) c2_)) q3 48 #[.int .i64 4, .int .i64 0, .slice P2 (k + 1) c2_, .slice none 0 0] := R36.set 2 _
        replace R06 := R06.setOther (q := q3) (by omega) 2 (.slice P2 (k + 1) c2_)
        replace R16 := R16.setOther (q := q3) (by omega) 2 (.slice P2 (k + 1) c2_)
        replace hown6 := own_over hown6 (b := q3) hn6 2 (.slice P2 (k + 1) c2_)
        replace hb6 := hb6.setCell (p := ⟨q3, 2, none⟩) (show w.heap.size ≤ q3 by omega) (.slice P2 (k + 1) c2_)
        replace hB6 : w.heap.size + 2 ≤ (w6.setCell ⟨q3, 2, none⟩ (.slice P2 (k + 1) c2_)).heap.size := by rw [World.size_setCell]; exact hB6
        generalize w6.setCell ⟨q3, 2, none⟩ (.slice P2 (k + 1) c2_) = w7 at R3' R06 R16 hown6 hb6 hB6 ⊢
        clear c33 f33 R36 hn6
        go_wp2_with fail
        go_roundw
        case rel => exact ⟨k + 1, _, by simp, by omega, by rw [HTT.out]; exact hown6, R06, R16, R3', hb6, hB6⟩
        case measure => simp [intOf]; omega
      · have hlt' : ¬ (k : Int) < (x.mb.length : Int) := by omega
        obtain rfl : k = x.mb.length := by omega
        rw [List.take_length] at hown
        have hn := own_ne hown R1 (by decide)
        have HTH : Hid (THas wr (.slice P x.mb.length cc) (txL x.mb)) := by
          show SHas 1 _ _ (txL x.mb).length _
          rw [show (txL x.mb).length = x.mb.length by simp [txL]]
          exact own_sh hown
        clear hown hn
        go_wp2_with (first | refine load_r 48 _ rfl rfl _ rfl R3 Try.underlying48 rfl size48 ?_ | refine store_r rfl 48 _ _ rfl _ #[.int .i64 4, .int .i64 0, .slice P x.mb.length cc, .slice none 0 0] rfl rfl R1 size48 rfl (by simp [Value.oneCell']) ?_)
        refine bodyPost_ret (results_r rfl rfl (R1.row #[.int .i64 4, .int .i64 0, .slice P x.mb.length cc, .slice none 0 0]) rfl Try.underlying48 size48) rfl ?_
        rw [HP.out, HK.out, HT.out]
        exact ⟨_, rfl, THas.rowV HTH.out R1 _, below_setRow hbel (by omega) _⟩
end Go.Proofs.Ythekfmodafmlgaa
/- Few of the document's answer. -/
namespace Go.Proofs.Ythekfmodafmlgaa
open Go.RowKit

theorem Wt.len (x : Wt) : x.cells.length = 5 := rfl
theorem Wt.elem {w : World} {l : List Wt} {g o : Nat} (h : w.rangeAt g o (rows Wt.cells l)) (k : Nat) (hk : k < l.length) : w.rangeAt g (o + k * 5) l[k].cells :=
  range_sub h (k * 5) fun j u hu => rows_at Wt.len l k hk j u hu
/-- Not great. -/
structure Fw (x : X) : Prop where
  n : x.am.length + x.wr.length + x.mb.length + x.el.length ≤ 60
  m : ∀ y ∈ x.mb, y.ms.length ≤ 30
  e : ∀ y ∈ x.el, y.gone.length ≤ 30
theorem Fw.sm {x : X} (h : Fw x) : Sm x := by
  obtain ⟨h1, h2, h3⟩ := h
  exact ⟨by omega, by omega, by omega, by omega, fun y hy => by have := h2 y hy; omega, fun y hy => by have := h3 y hy; omega⟩
/-- What fits into a machine. -/
structure Lk (x : X) : Prop where
  a : x.am.length ≤ 17592186044416
  t : x.wr.length ≤ 17592186044416
  m : x.mb.length ≤ 17592186044416
  e : x.el.length ≤ 17592186044416
def FwPost (x : X) (w : World) (e : Ending) (w' : World) : Prop := ∃ b, e = .returned (.bool b) ∧ (b = true → Fw x) ∧ Below w.heap.size w w'
theorem El.elem {w : World} {l : List (El × Value)} {g o : Nat} (h : w.rangeAt g o (rows El.cells l)) (k : Nat) (hk : k < l.length) : w.rangeAt g (o + k * 9) (El.cells l[k]) :=
  range_sub h (k * 9) fun j u hu => rows_at El.len l k hk j u hu
set_option maxHeartbeats 4000000 in
set_option maxRecDepth 100000 in
theorem few_any (x : X) (va vw vm ve : Value) (w : World) (h : Four w x va vw vm ve) (hl : Lk x) : Calls Try.prog 7 #[CV x.k x.b va vw vm ve] w (FwPost x w) := by
  obtain ⟨pa, ca', pw, cw, pm, cm, pe, ce, rfl, rfl, rfl, rfl⟩ := h.slices
  have HT : Hid (WHas w (.slice pw x.wr.length cw) x.wr) := h.t
  have HM : Hid (BHas w (.slice pm x.mb.length cm) x.mb) := h.m
  have HE : Hid (EHas w (.slice pe x.el.length ce) x.el) := h.e
  clear h
  obtain ⟨l1, l2, l3, l4⟩ := hl
  have R0 := rw_new w 27 (cvc x.k x.b (.slice pa x.am.length ca') (.slice pw x.wr.length cw) (.slice pm x.mb.length cm) (.slice pe x.el.length ce))
  have hbel := bel_alloc (Below.refl w.heap.size w) (.cells (cvc x.k x.b (.slice pa x.am.length ca') (.slice pw x.wr.length cw) (.slice pm x.mb.length cm) (.slice pe x.el.length ce)) 27)
  generalize hW : w.alloc (.cells (cvc x.k x.b (.slice pa x.am.length ca') (.slice pw x.wr.length cw) (.slice pm x.mb.length cm) (.slice pe x.el.length ce)) 27) = w0 at R0 hbel
  have c2 : w0.cell? ⟨w.heap.size, 2, none⟩ = some (.slice pa x.am.length ca') := R0.cell 2
  have c3 : w0.cell? ⟨w.heap.size, 3, none⟩ = some (.slice pw x.wr.length cw) := R0.cell 3
  have c4 : w0.cell? ⟨w.heap.size, 4, none⟩ = some (.slice pm x.mb.length cm) := R0.cell 4
  have c5 : w0.cell? ⟨w.heap.size, 5, none⟩ = some (.slice pe x.el.length ce) := R0.cell 5
  have w1 : IntKind.i64.wrap ((x.am.length : Int) + (x.wr.length : Int)) = (x.am.length : Int) + (x.wr.length : Int) := by rw [IntKind.wrap_i64]; omega
  have w2 : IntKind.i64.wrap ((x.am.length : Int) + (x.wr.length : Int) + (x.mb.length : Int)) = (x.am.length : Int) + (x.wr.length : Int) + (x.mb.length : Int) := by rw [IntKind.wrap_i64]; omega
  have w3 : IntKind.i64.wrap ((x.am.length : Int) + (x.wr.length : Int) + (x.mb.length : Int) + (x.el.length : Int)) = (x.am.length : Int) + (x.wr.length : Int) + (x.mb.length : Int) + (x.el.length : Int) := by rw [IntKind.wrap_i64]; omega
  by_cases h60 : x.am.length + x.wr.length + x.mb.length + x.el.length ≤ 60
  · have h60' : ¬ 60 < (x.am.length : Int) + (x.wr.length : Int) + (x.mb.length : Int) + (x.el.length : Int) := by omega
    have HN : Hid (x.am.length + x.wr.length + x.mb.length + x.el.length ≤ 60) := h60
    go_enter Try.func7, Try.ntmps7
    go_wp2_with (first | rw [hW])
    clear hW c2 c3 c4 c5 w1 w2 w3
    have hwl : x.wr.length ≤ 60 := by omega
    have hml : x.mb.length ≤ 60 := by omega
    have hel : x.el.length ≤ 60 := by omega
    clear h60 h60' l1 l2 l3 l4
    go_loopw [3] (fun vi wr => ∃ k : Nat, vi = .int .i64 k ∧ k ≤ x.wr.length ∧ Rw wr w.heap.size 27 (cvc x.k x.b (.slice pa x.am.length ca') (.slice pw x.wr.length cw) (.slice pm x.mb.length cm) (.slice pe x.el.length ce)) ∧ Below w.heap.size w wr) (fun vi _ => x.wr.length - (intOf vi).toNat)
    case atStart => exact ⟨0, rfl, by omega, R0, hbel⟩
    case round =>
      clear R0 hbel
      obtain ⟨k, rfl, hk, R0, hbel⟩ := hrel
      have c3 : wr.cell? ⟨w.heap.size, 3, none⟩ = some (.slice pw x.wr.length cw) := R0.cell 3
      by_cases hlt : k < x.wr.length
      · have hlt' : (k : Int) < (x.wr.length : Int) := by omega
        obtain ⟨g, o, rfl, hd0⟩ := HT.out.at (by omega)
        have d := Wt.elem (range_later hd0 hbel) k hlt 4 _ rfl
        clear hd0
        by_cases hx : 100 < (x.wr[k].x.size : Int)
        · go_wp2_with fail
          go_ret
          exact ⟨false, rfl, (fun h => by cases h), hbel⟩
        · go_wp2_with fail
          go_roundw
          case rel => exact ⟨k + 1, by simp, by omega, R0, hbel⟩
          case measure => simp [intOf]; omega
      · obtain rfl : k = x.wr.length := by omega
        have hlt' : ¬ (x.wr.length : Int) < (x.wr.length : Int) := by omega
        clear HT
        go_wp2_with fail
        clear c3
        go_loopw [4] (fun vi wr => ∃ k : Nat, vi = .int .i64 k ∧ k ≤ x.mb.length ∧ Hid (∀ i (h : i < x.mb.length), i < k → x.mb[i].ms.length ≤ 30) ∧ Rw wr w.heap.size 27 (cvc x.k x.b (.slice pa x.am.length ca') (.slice pw x.wr.length cw) (.slice pm x.mb.length cm) (.slice pe x.el.length ce)) ∧ Below w.heap.size w wr) (fun vi _ => x.mb.length - (intOf vi).toNat)
        case atStart => exact ⟨0, rfl, by omega, (show ∀ i (_ : i < x.mb.length), i < 0 → _ from fun i _ h => by omega), R0, hbel⟩
        case round =>
          clear R0 hbel hlt hlt'
          obtain ⟨k, rfl, hk, HV, R0, hbel⟩ := hrel
          have c4 : wr.cell? ⟨w.heap.size, 4, none⟩ = some (.slice pm x.mb.length cm) := R0.cell 4
          by_cases hlt : k < x.mb.length
          · have hlt' : (k : Int) < (x.mb.length : Int) := by omega
            obtain ⟨ys, hys, hy1, hy2⟩ := HM.out
            have hyl : ys.length = x.mb.length := by rw [← hys, List.length_map]
            obtain ⟨g, o, rfl, hd0⟩ := hy1.at (by omega)
            have d := Mb.elem (range_later hd0 hbel) k (by omega)
            have d0 := d 0 _ rfl
            have d2 := d 2 _ rfl
            have hyk := (hy2 ys[k] (List.getElem_mem _)).later hbel
            have hxk : Hid (x.mb[k] = ys[k].1) := by
              show _ = _
              simp only [← hys, List.getElem_map]
            obtain ⟨y, HY⟩ := hid_ex ys[k]
            rw [HY.out] at d0 d2 hyk hxk
            obtain ⟨ym, yv⟩ := y
            replace hyk : MHas wr yv ym.ms := hyk
            have hmm := maxLen_lt hyk.1
            obtain ⟨py, cy, rfl⟩ := hyk.slice
            simp only [Nat.add_zero] at d0 d2
            clear hd0 d hyk hy1 hy2
            by_cases hx : 100 < (ym.x.size : Int)
            · go_wp2_with fail
              go_ret
              exact ⟨false, rfl, (fun h => by cases h), hbel⟩
            · by_cases hx2 : 30 < (ym.ms.length : Int)
              · go_wp2_with fail
                go_ret
                exact ⟨false, rfl, (fun h => by cases h), hbel⟩
              · have HV2 : Hid (∀ i (h : i < x.mb.length), i < k + 1 → x.mb[i].ms.length ≤ 30) := fun i h hi => by
                  rcases Nat.lt_or_ge i k with h' | h'
                  · exact HV.out i h h'
                  · obtain rfl : i = k := by omega
                    rw [hxk.out]
                    show ym.ms.length ≤ 30
                    omega
                go_wp2_with fail
                go_roundw
                case rel => exact ⟨k + 1, by simp, by omega, HV2, R0, hbel⟩
                case measure => simp [intOf]; omega
          · obtain rfl : k = x.mb.length := by omega
            have hlt' : ¬ (x.mb.length : Int) < (x.mb.length : Int) := by omega
            have HMB : Hid (∀ y ∈ x.mb, y.ms.length ≤ 30) := fun y hy => by
              obtain ⟨i, hi, rfl⟩ := List.getElem_of_mem hy
              exact HV.out i hi hi
            clear HM HV
            go_wp2_with fail
            clear c4
            go_loopw [5] (fun vi wr => ∃ k : Nat, vi = .int .i64 k ∧ k ≤ x.el.length ∧ Hid (∀ i (h : i < x.el.length), i < k → x.el[i].gone.length ≤ 30) ∧ Rw wr w.heap.size 27 (cvc x.k x.b (.slice pa x.am.length ca') (.slice pw x.wr.length cw) (.slice pm x.mb.length cm) (.slice pe x.el.length ce)) ∧ Below w.heap.size w wr) (fun vi _ => x.el.length - (intOf vi).toNat)
            case atStart => exact ⟨0, rfl, by omega, (show ∀ i (_ : i < x.el.length), i < 0 → _ from fun i _ h => by omega), R0, hbel⟩
            case round =>
              clear R0 hbel hlt hlt'
              obtain ⟨k, rfl, hk, HV, R0, hbel⟩ := hrel
              have c5 : wr.cell? ⟨w.heap.size, 5, none⟩ = some (.slice pe x.el.length ce) := R0.cell 5
              by_cases hlt : k < x.el.length
              · have hlt' : (k : Int) < (x.el.length : Int) := by omega
                obtain ⟨ys, hys, hy1, hy2⟩ := HE.out
                have hyl : ys.length = x.el.length := by rw [← hys, List.length_map]
                obtain ⟨g, o, rfl, hd0⟩ := hy1.at (by omega)
                have d := El.elem (range_later hd0 hbel) k (by omega)
                have d0 := d 7 _ rfl
                have d2 := d 8 _ rfl
                have hyk := (hy2 ys[k] (List.getElem_mem _)).later hbel
                have hxk : Hid (x.el[k] = ys[k].1) := by
                  show _ = _
                  simp only [← hys, List.getElem_map]
                obtain ⟨y, HY⟩ := hid_ex ys[k]
                rw [HY.out] at d0 d2 hyk hxk
                obtain ⟨ym, yv⟩ := y
                replace hyk : MHas wr yv ym.gone := hyk
                have hmm := maxLen_lt hyk.1
                obtain ⟨py, cy, rfl⟩ := hyk.slice
                simp only at d0 d2
                clear hd0 d hyk hy1 hy2
                by_cases hx : 100 < (ym.x.size : Int)
                · go_wp2_with fail
                  go_ret
                  exact ⟨false, rfl, (fun h => by cases h), hbel⟩
                · by_cases hx2 : 30 < (ym.gone.length : Int)
                  · go_wp2_with fail
                    go_ret
                    exact ⟨false, rfl, (fun h => by cases h), hbel⟩
                  · have HV2 : Hid (∀ i (h : i < x.el.length), i < k + 1 → x.el[i].gone.length ≤ 30) := fun i h hi => by
                      rcases Nat.lt_or_ge i k with h' | h'
                      · exact HV.out i h h'
                      · obtain rfl : i = k := by omega
                        rw [hxk.out]
                        show ym.gone.length ≤ 30
                        omega
                    go_wp2_with fail
                    go_roundw
                    case rel => exact ⟨k + 1, by simp, by omega, HV2, R0, hbel⟩
                    case measure => simp [intOf]; omega
              · obtain rfl : k = x.el.length := by omega
                have hlt' : ¬ (x.el.length : Int) < (x.el.length : Int) := by omega
                have HEB : Hid (∀ y ∈ x.el, y.gone.length ≤ 30) := fun y hy => by
                  obtain ⟨i, hi, rfl⟩ := List.getElem_of_mem hy
                  exact HV.out i hi hi
                clear HE HV
                go_wp2_with fail
                go_ret
                exact ⟨true, rfl, fun _ => ⟨HN.out, HMB.out, HEB.out⟩, hbel⟩
  · have h60' : 60 < (x.am.length : Int) + (x.wr.length : Int) + (x.mb.length : Int) + (x.el.length : Int) := by omega
    go_enter Try.func7, Try.ntmps7
    go_wp2_with (first | rw [hW])
    go_ret
    exact ⟨false, rfl, (fun h => by cases h), hbel⟩
end Go.Proofs.Ythekfmodafmlgaa
/- Marks and members of the document's answer: what is the same is told so. -/
namespace Go.Proofs.Ythekfmodafmlgaa
open Go.RowKit

theorem same_mark (w : World) (p s i : Int) : (Op.equalIn 10000 44 (MV p s i) (MV p s i)).run Try.prog w = .ok true w := by
  rw [eq_mark]
  simp
theorem same_amount (w : World) (p s i n : Int) : (Op.equalIn 10000 73 (AV p s i n) (AV p s i n)).run Try.prog w = .ok true w := by go_simp
theorem same_write (w : World) (y : Wt) : (Op.equalIn 10000 61 (.agg #[.int .i64 y.p, .int .i64 y.s, .int .i64 y.i, .int .i64 y.t, .string y.x]) (.agg #[.int .i64 y.p, .int .i64 y.s, .int .i64 y.i, .int .i64 y.t, .string y.x])).run Try.prog w = .ok true w := by go_simp
set_option maxHeartbeats 2000000 in
set_option maxRecDepth 100000 in
theorem marks_any (v1 v2 : Value) (l : List M) (w : World) (h1 : MHas w v1 l) (h2 : MHas w v2 l) : Calls Try.prog 33 #[v1, v2] w (Tells (.bool true) w) := by
  have hml := maxLen_lt h1.1
  obtain ⟨p1, c1, rfl⟩ := h1.slice
  obtain ⟨p2, c2, rfl⟩ := h2.slice
  have H1 : Hid (MHas w (.slice p1 l.length c1) l) := h1
  have H2 : Hid (MHas w (.slice p2 l.length c2) l) := h2
  clear h1 h2
  go_enter Try.func33, Try.ntmps33
  go_wp2
  go_loopw [5] (fun vi wr => ∃ k : Nat, vi = .int .i64 k ∧ k ≤ l.length ∧ Below w.heap.size w wr) (fun vi _ => l.length - (intOf vi).toNat)
  case atStart => exact ⟨0, rfl, by omega, Below.refl _ _⟩
  case round =>
    obtain ⟨k, rfl, hk, hbel⟩ := hrel
    by_cases hlt : k < l.length
    · have hlt' : (k : Int) < (l.length : Int) := by omega
      obtain ⟨g1, o1, rfl, hd1⟩ := H1.out.at (by omega)
      obtain ⟨g2, o2, rfl, hd2⟩ := H2.out.at (by omega)
      have d1 := M.elem (range_later hd1 hbel) k hlt
      have d2 := M.elem (range_later hd2 hbel) k hlt
      obtain ⟨y, HY⟩ := hid_ex l[k]
      rw [HY.out] at d1 d2
      clear hd1 hd2 H1 H2 HY
      have E := fun w => same_mark w y.p y.s y.i
      have zm : (Try.prog.info? 44).map (·.size) = some y.cells.length := size44
      go_wp2
      have hs : Calm.Stays (fun w' => w'.rangeAt g1 (o1 + k * 3) y.cells ∧ w'.rangeAt g2 (o2 + k * 3) y.cells ∧ Below w.heap.size w w') := fun wa wb h hb => ⟨range_later h.1 hb, range_later h.2.1 hb, below_on h.2.2 hb⟩
      refine Calm.region (by kernel_rfl) (by kernel_rfl) (fun w' => w'.rangeAt g1 (o1 + k * 3) y.cells ∧ w'.rangeAt g2 (o2 + k * 3) y.cells ∧ Below w.heap.size w w') ⟨d1, d2, hbel.drew⟩ ?_
      all_goals
        refine Calm.pure (v := ?_) (by rfl) ?_ ?_
        rotate_left
        focus (intro w hSw; go_simp <;> rfl)
        simp only [Act.put, List.setIfInBounds_toArray, List.set_cons_zero, List.set_cons_succ]
      all_goals
        refine Calm.pure (v := ?_) (by rfl) ?_ ?_
        rotate_left
        focus (intro w hSw; go_simp <;> rfl)
        simp only [Act.put, List.setIfInBounds_toArray, List.set_cons_zero, List.set_cons_succ]
      all_goals
        refine Calm.pure (v := ?_) (by rfl) ?_ ?_
        rotate_left
        focus (intro w hSw; go_simp <;> rfl)
        simp only [Act.put, List.setIfInBounds_toArray, List.set_cons_zero, List.set_cons_succ]
      all_goals
        first | (refine Calm.loadM 44 Try.underlying44 rfl zm (by rfl) _ rfl rfl (fun _ h => h.1) ?_) | (refine Calm.loadM 44 Try.underlying44 rfl zm (by rfl) _ rfl rfl (fun _ h => h.2.1) ?_)
        simp only [Act.put, List.setIfInBounds_toArray, List.set_cons_zero, List.set_cons_succ]
      all_goals
        refine Calm.pure (v := ?_) (by rfl) ?_ ?_
        rotate_left
        focus (intro w hSw; go_simp <;> rfl)
        simp only [Act.put, List.setIfInBounds_toArray, List.set_cons_zero, List.set_cons_succ]
      all_goals
        refine Calm.pure (v := ?_) (by rfl) ?_ ?_
        rotate_left
        focus (intro w hSw; go_simp <;> rfl)
        simp only [Act.put, List.setIfInBounds_toArray, List.set_cons_zero, List.set_cons_succ]
      all_goals
        refine Calm.pure (v := ?_) (by rfl) ?_ ?_
        rotate_left
        focus (intro w hSw; go_simp <;> rfl)
        simp only [Act.put, List.setIfInBounds_toArray, List.set_cons_zero, List.set_cons_succ]
      all_goals
        first | (refine Calm.loadM 44 Try.underlying44 rfl zm (by rfl) _ rfl rfl (fun _ h => h.1) ?_) | (refine Calm.loadM 44 Try.underlying44 rfl zm (by rfl) _ rfl rfl (fun _ h => h.2.1) ?_)
        simp only [Act.put, List.setIfInBounds_toArray, List.set_cons_zero, List.set_cons_succ]
      all_goals
        refine Calm.pure (v := ?_) (by rfl) ?_ ?_
        rotate_left
        focus (intro w hSw; go_simp <;> rfl)
        simp only [Act.put, List.setIfInBounds_toArray, List.set_cons_zero, List.set_cons_succ]
      all_goals
        rintro w9 ⟨_, _, hbel9⟩
      go_wp2_with fail
      go_roundw
      case rel => exact ⟨k + 1, by simp, by omega, hbel9⟩
      case measure => simp [intOf]; omega
    · have hlt' : ¬ (k : Int) < (l.length : Int) := by omega
      clear H1 H2
      go_wp2_with fail
      go_ret
      exact ⟨rfl, hbel⟩
set_option maxHeartbeats 2000000 in
set_option maxRecDepth 100000 in
theorem members_any (v1 v2 : Value) (l : List Mb) (w : World) (h1 : BHas w v1 l) (h2 : BHas w v2 l) : Calls Try.prog 32 #[v1, v2] w (Tells (.bool true) w) := by
  obtain ⟨p1, c1, rfl⟩ := h1.slice
  obtain ⟨p2, c2, rfl⟩ := h2.slice
  have hml : (l.length : Int) ≤ 9223372036854775807 := by
    obtain ⟨ys, _, h, _⟩ := h1
    exact maxLen_lt h.1
  have H1 : Hid (BHas w (.slice p1 l.length c1) l) := h1
  have H2 : Hid (BHas w (.slice p2 l.length c2) l) := h2
  clear h1 h2
  go_enter Try.func32, Try.ntmps32
  go_wp2
  go_loopw [5] (fun vi wr => ∃ k : Nat, vi = .int .i64 k ∧ k ≤ l.length ∧ Below w.heap.size w wr) (fun vi _ => l.length - (intOf vi).toNat)
  case atStart => exact ⟨0, rfl, by omega, Below.refl _ _⟩
  case round =>
    obtain ⟨k, rfl, hk, hbel⟩ := hrel
    by_cases hlt : k < l.length
    · have hlt' : (k : Int) < (l.length : Int) := by omega
      obtain ⟨m1, e1, s1, t1⟩ := H1.out
      obtain ⟨m2, e2, s2, t2⟩ := H2.out
      have hl1 : m1.length = l.length := by rw [← e1, List.length_map]
      have hl2 : m2.length = l.length := by rw [← e2, List.length_map]
      obtain ⟨g1, o1, rfl, hd1⟩ := s1.at (by omega)
      obtain ⟨g2, o2, rfl, hd2⟩ := s2.at (by omega)
      have d1 := Mb.elem (range_later hd1 hbel) k (by omega)
      have d2 := Mb.elem (range_later hd2 hbel) k (by omega)
      have q1 := (t1 m1[k] (List.getElem_mem _)).later hbel
      have q2 := (t2 m2[k] (List.getElem_mem _)).later hbel
      have f1 : m1[k].1 = l[k] := by simp only [← e1, List.getElem_map]
      have f2 : m2[k].1 = l[k] := by simp only [← e2, List.getElem_map]
      obtain ⟨y1, HY1⟩ := hid_ex m1[k]
      obtain ⟨y2, HY2⟩ := hid_ex m2[k]
      rw [HY1.out] at d1 q1 f1
      rw [HY2.out] at d2 q2 f2
      obtain ⟨a1, u1⟩ := y1
      obtain ⟨a2, u2⟩ := y2
      replace f1 : a1 = l[k] := f1
      replace f2 : a2 = l[k] := f2
      obtain ⟨y, HY⟩ := hid_ex l[k]
      rw [HY.out] at f1 f2
      subst f1
      subst f2
      replace q1 : MHas wr u1 a2.ms := q1
      replace q2 : MHas wr u2 a2.ms := q2
      obtain ⟨x1, z1, rfl⟩ := q1.slice
      obtain ⟨x2, z2, rfl⟩ := q2.slice
      replace d1 : wr.rangeAt g1 (o1 + k * 3) [.string a2.x, .bool a2.b, .slice x1 a2.ms.length z1] := d1
      replace d2 : wr.rangeAt g2 (o2 + k * 3) [.string a2.x, .bool a2.b, .slice x2 a2.ms.length z2] := d2
      clear hd1 hd2 H1 H2 HY HY1 HY2 s1 s2 t1 t2 e1 e2
      have C1 := fun w' (hb : Below wr.heap.size wr w') => marks_any _ _ a2.ms w' (q1.later hb) (q2.later hb)
      have hb0 := Below.refl wr.heap.size wr
      go_wp2_with fail
      have hs : Calm.Stays (fun w' => w'.rangeAt g1 (o1 + k * 3) [.string a2.x, .bool a2.b, .slice x1 a2.ms.length z1] ∧ w'.rangeAt g2 (o2 + k * 3) [.string a2.x, .bool a2.b, .slice x2 a2.ms.length z2] ∧ Below wr.heap.size wr w' ∧ Below w.heap.size w w') := fun wa wb h hb => ⟨range_later h.1 hb, range_later h.2.1 hb, below_on h.2.2.1 hb, below_on h.2.2.2 hb⟩
      refine Calm.region (by kernel_rfl) (by kernel_rfl) (fun w' => w'.rangeAt g1 (o1 + k * 3) [.string a2.x, .bool a2.b, .slice x1 a2.ms.length z1] ∧ w'.rangeAt g2 (o2 + k * 3) [.string a2.x, .bool a2.b, .slice x2 a2.ms.length z2] ∧ Below wr.heap.size wr w' ∧ Below w.heap.size w w') ⟨d1, d2, hb0.drew, hbel.drew⟩ ?_
      all_goals
        refine Calm.pure (v := ?_) (by rfl) ?_ ?_
        rotate_left
        focus (intro w hSw; go_simp <;> rfl)
        simp only [Act.put, List.setIfInBounds_toArray, List.set_cons_zero, List.set_cons_succ]
      all_goals
        refine Calm.pure (v := ?_) (by rfl) ?_ ?_
        rotate_left
        focus (intro w hSw; go_simp <;> rfl)
        simp only [Act.put, List.setIfInBounds_toArray, List.set_cons_zero, List.set_cons_succ]
      all_goals
        refine Calm.pure (v := ?_) (by rfl) ?_ ?_
        rotate_left
        focus (intro w hSw; go_simp <;> rfl)
        simp only [Act.put, List.setIfInBounds_toArray, List.set_cons_zero, List.set_cons_succ]
      all_goals
        refine Calm.pure (v := ?_) (by rfl) ?_ ?_
        rotate_left
        focus (intro w hSw; go_simp <;> rfl)
        simp only [Act.put, List.setIfInBounds_toArray, List.set_cons_zero, List.set_cons_succ]
      all_goals
        refine Calm.pure (v := ?_) (by rfl) ?_ ?_
        rotate_left
        focus (intro w hSw; have g1 := hSw.1 0 _ rfl; simp only [Nat.add_zero] at g1; go_simp <;> rfl)
        simp only [Act.put, List.setIfInBounds_toArray, List.set_cons_zero, List.set_cons_succ]
      all_goals
        refine Calm.pure (v := ?_) (by rfl) ?_ ?_
        rotate_left
        focus (intro w hSw; go_simp <;> rfl)
        simp only [Act.put, List.setIfInBounds_toArray, List.set_cons_zero, List.set_cons_succ]
      all_goals
        refine Calm.pure (v := ?_) (by rfl) ?_ ?_
        rotate_left
        focus (intro w hSw; go_simp <;> rfl)
        simp only [Act.put, List.setIfInBounds_toArray, List.set_cons_zero, List.set_cons_succ]
      all_goals
        refine Calm.pure (v := ?_) (by rfl) ?_ ?_
        rotate_left
        focus (intro w hSw; go_simp <;> rfl)
        simp only [Act.put, List.setIfInBounds_toArray, List.set_cons_zero, List.set_cons_succ]
      all_goals
        refine Calm.pure (v := ?_) (by rfl) ?_ ?_
        rotate_left
        focus (intro w hSw; go_simp <;> rfl)
        simp only [Act.put, List.setIfInBounds_toArray, List.set_cons_zero, List.set_cons_succ]
      all_goals
        refine Calm.pure (v := ?_) (by rfl) ?_ ?_
        rotate_left
        focus (intro w hSw; have g1 := hSw.2.1 0 _ rfl; simp only [Nat.add_zero] at g1; go_simp <;> rfl)
        simp only [Act.put, List.setIfInBounds_toArray, List.set_cons_zero, List.set_cons_succ]
      all_goals
        refine Calm.pure (v := ?_) (by rfl) ?_ ?_
        rotate_left
        focus (intro w hSw; go_simp <;> rfl)
        simp only [Act.put, List.setIfInBounds_toArray, List.set_cons_zero, List.set_cons_succ]
      all_goals
        refine Calm.pure (v := ?_) (by rfl) ?_ ?_
        rotate_left
        focus (intro w hSw; go_simp <;> rfl)
        simp only [Act.put, List.setIfInBounds_toArray, List.set_cons_zero, List.set_cons_succ]
      all_goals
        first
          | (refine Calm.skip ?_ ?_; focus rfl)
          | (refine Calm.pure (v := ?_) (by rfl) ?_ ?_
             rotate_left
             focus (intro w hSw; go_simp <;> rfl))
        simp only [Act.put, List.setIfInBounds_toArray, List.set_cons_zero, List.set_cons_succ]
      all_goals
        first
          | (refine Calm.skip ?_ ?_; focus rfl)
          | (refine Calm.pure (v := ?_) (by rfl) ?_ ?_
             rotate_left
             focus (intro w hSw; go_simp <;> rfl))
        simp only [Act.put, List.setIfInBounds_toArray, List.set_cons_zero, List.set_cons_succ]
      all_goals
        first
          | (refine Calm.skip ?_ ?_; focus rfl)
          | (refine Calm.pure (v := ?_) (by rfl) ?_ ?_
             rotate_left
             focus (intro w hSw; go_simp <;> rfl))
        simp only [Act.put, List.setIfInBounds_toArray, List.set_cons_zero, List.set_cons_succ]
      all_goals
        first
          | (refine Calm.skip ?_ ?_; focus rfl)
          | (refine Calm.pure (v := ?_) (by rfl) ?_ ?_
             rotate_left
             focus (intro w hSw; go_simp <;> rfl))
        simp only [Act.put, List.setIfInBounds_toArray, List.set_cons_zero, List.set_cons_succ]
      all_goals
        first
          | (refine Calm.skip ?_ ?_; focus rfl)
          | (refine Calm.pure (v := ?_) (by rfl) ?_ ?_
             rotate_left
             focus (intro w hSw; have g1 := hSw.1 1 _ rfl; go_simp <;> rfl))
        simp only [Act.put, List.setIfInBounds_toArray, List.set_cons_zero, List.set_cons_succ]
      all_goals
        first
          | (refine Calm.skip ?_ ?_; focus rfl)
          | (refine Calm.pure (v := ?_) (by rfl) ?_ ?_
             rotate_left
             focus (intro w hSw; go_simp <;> rfl))
        simp only [Act.put, List.setIfInBounds_toArray, List.set_cons_zero, List.set_cons_succ]
      all_goals
        first
          | (refine Calm.skip ?_ ?_; focus rfl)
          | (refine Calm.pure (v := ?_) (by rfl) ?_ ?_
             rotate_left
             focus (intro w hSw; go_simp <;> rfl))
        simp only [Act.put, List.setIfInBounds_toArray, List.set_cons_zero, List.set_cons_succ]
      all_goals
        first
          | (refine Calm.skip ?_ ?_; focus rfl)
          | (refine Calm.pure (v := ?_) (by rfl) ?_ ?_
             rotate_left
             focus (intro w hSw; go_simp <;> rfl))
        simp only [Act.put, List.setIfInBounds_toArray, List.set_cons_zero, List.set_cons_succ]
      all_goals
        first
          | (refine Calm.skip ?_ ?_; focus rfl)
          | (refine Calm.pure (v := ?_) (by rfl) ?_ ?_
             rotate_left
             focus (intro w hSw; go_simp <;> rfl))
        simp only [Act.put, List.setIfInBounds_toArray, List.set_cons_zero, List.set_cons_succ]
      all_goals
        first
          | (refine Calm.skip ?_ ?_; focus rfl)
          | (refine Calm.pure (v := ?_) (by rfl) ?_ ?_
             rotate_left
             focus (intro w hSw; have g1 := hSw.2.1 1 _ rfl; go_simp <;> rfl))
        simp only [Act.put, List.setIfInBounds_toArray, List.set_cons_zero, List.set_cons_succ]
      all_goals
        first
          | (refine Calm.skip ?_ ?_; focus rfl)
          | (refine Calm.pure (v := ?_) (by rfl) ?_ ?_
             rotate_left
             focus (intro w hSw; go_simp <;> rfl))
        simp only [Act.put, List.setIfInBounds_toArray, List.set_cons_zero, List.set_cons_succ]
      all_goals
        refine Calm.pure (v := ?_) (by rfl) ?_ ?_
        rotate_left
        focus (intro w hSw; go_simp <;> rfl)
        simp only [Act.put, List.setIfInBounds_toArray, List.set_cons_zero, List.set_cons_succ]
      all_goals
        refine Calm.pure (v := ?_) (by rfl) ?_ ?_
        rotate_left
        focus (intro w hSw; go_simp <;> rfl)
        simp only [Act.put, List.setIfInBounds_toArray, List.set_cons_zero, List.set_cons_succ]
      all_goals
        first
          | (refine Calm.skip ?_ ?_; focus rfl)
          | (refine Calm.pure (v := ?_) (by rfl) ?_ ?_
             rotate_left
             focus (intro w hSw; go_simp <;> rfl))
        simp only [Act.put, List.setIfInBounds_toArray, List.set_cons_zero, List.set_cons_succ]
      all_goals
        first
          | (refine Calm.skip ?_ ?_; focus rfl)
          | (refine Calm.pure (v := ?_) (by rfl) ?_ ?_
             rotate_left
             focus (intro w hSw; go_simp <;> rfl))
        simp only [Act.put, List.setIfInBounds_toArray, List.set_cons_zero, List.set_cons_succ]
      all_goals
        first
          | (refine Calm.skip ?_ ?_; focus rfl)
          | (refine Calm.pure (v := ?_) (by rfl) ?_ ?_
             rotate_left
             focus (intro w hSw; go_simp <;> rfl))
        simp only [Act.put, List.setIfInBounds_toArray, List.set_cons_zero, List.set_cons_succ]
      all_goals
        first
          | (refine Calm.skip ?_ ?_; focus rfl)
          | (refine Calm.pure (v := ?_) (by rfl) ?_ ?_
             rotate_left
             focus (intro w hSw; go_simp <;> rfl))
        simp only [Act.put, List.setIfInBounds_toArray, List.set_cons_zero, List.set_cons_succ]
      all_goals
        first
          | (refine Calm.skip ?_ ?_; focus rfl)
          | (refine Calm.pure (v := ?_) (by rfl) ?_ ?_
             rotate_left
             focus (intro w hSw; have g1 := hSw.1 2 _ rfl; go_simp <;> rfl))
        simp only [Act.put, List.setIfInBounds_toArray, List.set_cons_zero, List.set_cons_succ]
      all_goals
        first
          | (refine Calm.skip ?_ ?_; focus rfl)
          | (refine Calm.pure (v := ?_) (by rfl) ?_ ?_
             rotate_left
             focus (intro w hSw; go_simp <;> rfl))
        simp only [Act.put, List.setIfInBounds_toArray, List.set_cons_zero, List.set_cons_succ]
      all_goals
        first
          | (refine Calm.skip ?_ ?_; focus rfl)
          | (refine Calm.pure (v := ?_) (by rfl) ?_ ?_
             rotate_left
             focus (intro w hSw; go_simp <;> rfl))
        simp only [Act.put, List.setIfInBounds_toArray, List.set_cons_zero, List.set_cons_succ]
      all_goals
        first
          | (refine Calm.skip ?_ ?_; focus rfl)
          | (refine Calm.pure (v := ?_) (by rfl) ?_ ?_
             rotate_left
             focus (intro w hSw; go_simp <;> rfl))
        simp only [Act.put, List.setIfInBounds_toArray, List.set_cons_zero, List.set_cons_succ]
      all_goals
        first
          | (refine Calm.skip ?_ ?_; focus rfl)
          | (refine Calm.pure (v := ?_) (by rfl) ?_ ?_
             rotate_left
             focus (intro w hSw; go_simp <;> rfl))
        simp only [Act.put, List.setIfInBounds_toArray, List.set_cons_zero, List.set_cons_succ]
      all_goals
        first
          | (refine Calm.skip ?_ ?_; focus rfl)
          | (refine Calm.pure (v := ?_) (by rfl) ?_ ?_
             rotate_left
             focus (intro w hSw; have g1 := hSw.2.1 2 _ rfl; go_simp <;> rfl))
        simp only [Act.put, List.setIfInBounds_toArray, List.set_cons_zero, List.set_cons_succ]
      all_goals
        first
          | (refine Calm.skip ?_ ?_; focus rfl)
          | (refine Calm.call2s (by rfl) rfl rfl rfl (by kernel_rfl) hs (fun w1 h => C1 w1 h.2.2.1) ?_)
        simp only [Act.put, List.setIfInBounds_toArray, List.set_cons_zero, List.set_cons_succ]
      all_goals
        first
          | (refine Calm.skip ?_ ?_; focus rfl)
          | (refine Calm.pure (v := ?_) (by rfl) ?_ ?_
             rotate_left
             focus (intro w hSw; go_simp <;> rfl))
        simp only [Act.put, List.setIfInBounds_toArray, List.set_cons_zero, List.set_cons_succ]
      all_goals
        refine Calm.pure (v := ?_) (by rfl) ?_ ?_
        rotate_left
        focus (intro w hSw; go_simp <;> rfl)
        simp only [Act.put, List.setIfInBounds_toArray, List.set_cons_zero, List.set_cons_succ]
      all_goals
        rintro w9 ⟨_, _, _, hbel9⟩
      go_wp2_with fail
      go_roundw
      case rel => exact ⟨k + 1, by simp, by omega, hbel9⟩
      case measure => simp [intOf]; omega
    · have hlt' : ¬ (k : Int) < (l.length : Int) := by omega
      clear H1 H2
      go_wp2_with fail
      go_ret
      exact ⟨rfl, hbel⟩
end Go.Proofs.Ythekfmodafmlgaa
/- Texts and Values of the document's answer: what is the same is told so. -/
namespace Go.Proofs.Ythekfmodafmlgaa
open Go.RowKit Go.Sort

theorem THas.elem {w : World} {l : List Bs} {g o : Nat} (h : w.rangeAt g o (l.map encStr)) (k : Nat) (hk : k < l.length) : w.cell? ⟨g, o + k, none⟩ = some (encStr l[k]) := h k _ (by simp [hk])
set_option maxHeartbeats 2000000 in
set_option maxRecDepth 100000 in
theorem refTexts_any (v1 v2 : Value) (l : List Bs) (w : World) (h1 : THas w v1 l) (h2 : THas w v2 l) : Calls Try.prog 12 #[v1, v2] w (Tells (.bool true) w) := by
  have hml := maxLen_lt h1.1
  obtain ⟨p1, c1, rfl⟩ := h1.slice
  obtain ⟨p2, c2, rfl⟩ := h2.slice
  have H1 : Hid (THas w (.slice p1 l.length c1) l) := h1
  have H2 : Hid (THas w (.slice p2 l.length c2) l) := h2
  clear h1 h2
  go_enter Try.func12, Try.ntmps12
  go_wp2
  go_loopw [5] (fun vi wr => ∃ k : Nat, vi = .int .i64 k ∧ k ≤ l.length ∧ Below w.heap.size w wr) (fun vi _ => l.length - (intOf vi).toNat)
  case atStart => exact ⟨0, rfl, by omega, Below.refl _ _⟩
  case round =>
    obtain ⟨k, rfl, hk, hbel⟩ := hrel
    by_cases hlt : k < l.length
    · have hlt' : (k : Int) < (l.length : Int) := by omega
      have hk0 : (0 : Int) ≤ (k : Int) := by omega
      obtain ⟨g, o, rfl, hd1⟩ := H1.out.at (by omega)
      obtain ⟨g', o', rfl, hd2⟩ := H2.out.at (by omega)
      have c1 := THas.elem (range_later hd1 hbel) k hlt
      have c2 := THas.elem (range_later hd2 hbel) k hlt
      obtain ⟨s, HS⟩ := hid_ex l[k]
      rw [HS.out] at c1 c2
      clear hd1 hd2 H1 H2 HS
      go_wp2_with fail
      have hs : Calm.Stays (fun w' => w'.cell? ⟨g, o + k, none⟩ = some (encStr s) ∧ w'.cell? ⟨g', o' + k, none⟩ = some (encStr s) ∧ Below w.heap.size w w') := fun wa wb h hb => ⟨cell_later hb h.1, cell_later hb h.2.1, below_on h.2.2 hb⟩
      refine Calm.region (by kernel_rfl) (by kernel_rfl) (fun w' => w'.cell? ⟨g, o + k, none⟩ = some (encStr s) ∧ w'.cell? ⟨g', o' + k, none⟩ = some (encStr s) ∧ Below w.heap.size w w') ⟨c1, c2, hbel.drew⟩ ?_
      all_goals
        refine Calm.pure (v := ?_) (by rfl) ?_ ?_
        rotate_left
        focus (intro w hSw; go_simp <;> rfl)
        simp only [Act.put, List.setIfInBounds_toArray, List.set_cons_zero, List.set_cons_succ]
      all_goals
        refine Calm.pure (v := ?_) (by rfl) ?_ ?_
        rotate_left
        focus (intro w hSw; go_simp <;> rfl)
        simp only [Act.put, List.setIfInBounds_toArray, List.set_cons_zero, List.set_cons_succ]
      all_goals
        refine Calm.pure (v := ?_) (by rfl) ?_ ?_
        rotate_left
        focus (intro w hSw; go_simp <;> rfl)
        simp only [Act.put, List.setIfInBounds_toArray, List.set_cons_zero, List.set_cons_succ]
      all_goals
        refine Calm.pure (v := ?_) (by rfl) ?_ ?_
        rotate_left
        focus (intro w hSw; have g1 := hSw.1; go_simp <;> rfl)
        simp only [Act.put, List.setIfInBounds_toArray, List.set_cons_zero, List.set_cons_succ]
      all_goals
        refine Calm.pure (v := ?_) (by rfl) ?_ ?_
        rotate_left
        focus (intro w hSw; go_simp <;> rfl)
        simp only [Act.put, List.setIfInBounds_toArray, List.set_cons_zero, List.set_cons_succ]
      all_goals
        refine Calm.pure (v := ?_) (by rfl) ?_ ?_
        rotate_left
        focus (intro w hSw; go_simp <;> rfl)
        simp only [Act.put, List.setIfInBounds_toArray, List.set_cons_zero, List.set_cons_succ]
      all_goals
        refine Calm.pure (v := ?_) (by rfl) ?_ ?_
        rotate_left
        focus (intro w hSw; go_simp <;> rfl)
        simp only [Act.put, List.setIfInBounds_toArray, List.set_cons_zero, List.set_cons_succ]
      all_goals
        refine Calm.pure (v := ?_) (by rfl) ?_ ?_
        rotate_left
        focus (intro w hSw; have g1 := hSw.2.1; go_simp <;> rfl)
        simp only [Act.put, List.setIfInBounds_toArray, List.set_cons_zero, List.set_cons_succ]
      all_goals
        refine Calm.pure (v := ?_) (by rfl) ?_ ?_
        rotate_left
        focus (intro w hSw; go_simp <;> rfl)
        simp only [Act.put, List.setIfInBounds_toArray, List.set_cons_zero, List.set_cons_succ]
      all_goals
        rintro w9 ⟨_, _, hbel9⟩
      go_wp2_with fail
      go_roundw
      case rel => exact ⟨k + 1, by simp, by omega, hbel9⟩
      case measure => simp [intOf]; omega
    · have hlt' : ¬ (k : Int) < (l.length : Int) := by omega
      clear H1 H2
      go_wp2_with fail
      go_ret
      exact ⟨rfl, hbel⟩
set_option maxHeartbeats 2000000 in
set_option maxRecDepth 100000 in
theorem values_any (k : Int) (u1 u2 : Value) (l : List Bs) (w : World) (h1 : THas w u1 l) (h2 : THas w u2 l) : Calls Try.prog 24 #[VV k u1, VV k u2] w (Tells (.bool true) w) := by
  obtain ⟨p1, c1, rfl⟩ := h1.slice
  obtain ⟨p2, c2, rfl⟩ := h2.slice
  obtain ⟨R0, R1, hbel⟩ := two_rows w #[.int .i64 k, .int .i64 0, .slice p1 l.length c1, .slice none 0 0] 48 #[.int .i64 k, .int .i64 0, .slice p2 l.length c2, .slice none 0 0] 48
  generalize hW : (w.alloc (.cells #[.int .i64 k, .int .i64 0, .slice p1 l.length c1, .slice none 0 0] 48)).alloc (.cells #[.int .i64 k, .int .i64 0, .slice p2 l.length c2, .slice none 0 0] 48) = w0 at R0 R1 hbel
  have a0 : w0.cell? ⟨w.heap.size, 0, none⟩ = some (.int .i64 k) := R0.cell 0
  have a1 : w0.cell? ⟨w.heap.size, 1, none⟩ = some (.int .i64 0) := R0.cell 1
  have a2 : w0.cell? ⟨w.heap.size, 2, none⟩ = some (.slice p1 l.length c1) := R0.cell 2
  have e0 : w0.cell? ⟨w.heap.size + 1, 0, none⟩ = some (.int .i64 k) := R1.cell 0
  have e1 : w0.cell? ⟨w.heap.size + 1, 1, none⟩ = some (.int .i64 0) := R1.cell 1
  have e2 : w0.cell? ⟨w.heap.size + 1, 2, none⟩ = some (.slice p2 l.length c2) := R1.cell 2
  have C := refTexts_any _ _ l w0 (h1.later hbel) (h2.later hbel)
  clear h1 h2
  go_enter Try.func24, Try.ntmps24
  go_wp2_with (first | rw [hW])
  refine C.mono ?_
  rintro e w1 ⟨rfl, hb1⟩
  have a3 : w1.cell? ⟨w.heap.size, 3, none⟩ = some (.slice none 0 0) := (R0.later hb1).cell 3
  have e3 : w1.cell? ⟨w.heap.size + 1, 3, none⟩ = some (.slice none 0 0) := (R1.later hb1).cell 3
  go_wp2_with fail
  have R := R0.later hb1
  replace hbel := below_on hbel hb1
  clear a0 a1 a2 a3 e0 e1 e2 e3 hb1 hW R0 R1
  go_loopw [5] (fun vi wr => vi = .int .i64 0 ∧ wr.cell? ⟨w.heap.size, 3, none⟩ = some (.slice none 0 0) ∧ Below w.heap.size w wr) (fun _ _ => 0)
  case atStart => exact ⟨rfl, R.cell 3, hbel⟩
  case round =>
    clear hbel
    obtain ⟨rfl, c3, hbel⟩ := hrel
    go_wp2_with fail
    go_ret
    exact ⟨rfl, hbel⟩
end Go.Proofs.Ythekfmodafmlgaa
