import Derived.Test.YtjbbmcommnhgeaaGreatPc6
import Derived.Test.YtjbbmcommnhgeaaGreatPc7
set_option maxRecDepth 100000
set_option maxHeartbeats 8000000
namespace Go.Proofs.YtjbbmcommnhgeaaGreat
open Go.RowKit
def gE (f : M → Bool) (m : M) (e : El) : El := if f (mE e) = true then { e with gone := wth e.gone m } else e
def goX (x : X) (m : M) (f : M → Bool) : X := if (ck x && im m.i) = true then { x with el := x.el.map (gE f m) } else x
theorem withoutD_any (x : X) (va vw vm ve : Value) (q u : Int) (v : List Int) (t : Int) (sl : Value) (idx : Int) (f : M → Bool) (bt : Nat) (w : World) (_hv : v.length = 13) (h : Four w x va vw vm ve) (hs : Sm x) (C : ∀ (y : M) (w' : World), Below w.heap.size w w' → Calls Tryz.prog 92 #[MV y.p y.s y.i, .pointer (some ⟨bt, 0, none⟩)] w' (Tells (.bool (f y)) w')) :
  Calls Tryz.prog 91 #[CV x.k x.b va vw vm ve, TxV q u v t sl, .int .i64 idx, .func (.func 92) #[] #[.pointer (some ⟨bt, 0, none⟩)]] w (Gives (goX x ⟨q, u, idx⟩ f) w) := by
 obtain ⟨pa, ca', pw, cw, pm, cm, pe, ce', rfl, rfl, rfl, rfl⟩ := h.slices
 have HF : Hid (Four w x (.slice pa x.am.length ca') (.slice pw x.wr.length cw) (.slice pm x.mb.length cm) (.slice pe x.el.length ce')) := h
 have HC : Hid (∀ (y : M) (w' : World), Below w.heap.size w w' → Calls Tryz.prog 92 #[MV y.p y.s y.i, .pointer (some ⟨bt, 0, none⟩)] w' (Tells (.bool (f y)) w')) := C
 clear h C
 obtain ⟨z, HZ⟩ := hid_ex (goX x ⟨q, u, idx⟩ f)
 rw [HZ.out]
 have R0 := (((rw_new w 27 (cvc x.k x.b (.slice pa x.am.length ca') (.slice pw x.wr.length cw) (.slice pm x.mb.length cm) (.slice pe x.el.length ce'))).alloc (.cells (txc q u v t sl).toArray 34)).alloc (.cells z4 27))
 have R1 := ((rw_new (w.alloc (.cells (cvc x.k x.b (.slice pa x.am.length ca') (.slice pw x.wr.length cw) (.slice pm x.mb.length cm) (.slice pe x.el.length ce')) 27)) 34 (txc q u v t sl).toArray).alloc (.cells z4 27))
 have R3 := (rw_new ((w.alloc (.cells (cvc x.k x.b (.slice pa x.am.length ca') (.slice pw x.wr.length cw) (.slice pm x.mb.length cm) (.slice pe x.el.length ce')) 27)).alloc (.cells (txc q u v t sl).toArray 34)) 27 z4)
 have hbel := (bel_alloc (bel_alloc (bel_alloc (Below.refl w.heap.size w) (.cells (cvc x.k x.b (.slice pa x.am.length ca') (.slice pw x.wr.length cw) (.slice pm x.mb.length cm) (.slice pe x.el.length ce')) 27)) (.cells (txc q u v t sl).toArray 34)) (.cells z4 27))
 have hsz : (((w.alloc (.cells (cvc x.k x.b (.slice pa x.am.length ca') (.slice pw x.wr.length cw) (.slice pm x.mb.length cm) (.slice pe x.el.length ce')) 27)).alloc (.cells (txc q u v t sl).toArray 34)).alloc (.cells z4 27)).heap.size = w.heap.size + 3 := by simp
 generalize hW : (((w.alloc (.cells (cvc x.k x.b (.slice pa x.am.length ca') (.slice pw x.wr.length cw) (.slice pm x.mb.length cm) (.slice pe x.el.length ce')) 27)).alloc (.cells (txc q u v t sl).toArray 34)).alloc (.cells z4 27)) = w0 at R0 R1 R3 hbel hsz
 simp only [World.size_alloc, Nat.add_assoc, Nat.reduceAdd] at R1 R3
 go_enter Tryz.func91, Tryz.ntmps91
 go_wp2_with (first | rw [hW] | refine load_r 27 _ rfl rfl _ rfl R0 Tryz.underlying27 rfl size27 ?_)
 clear hW
 refine (copied_any x _ _ _ _ w0 (HF.out.later hbel) hs).mono ?_
 rintro e w1 ⟨ua, uw, um, ue, rfl, ho, hb1⟩
 obtain ⟨qa, da, qw, dw, qm, dx, qe, de, rfl, rfl, rfl, rfl⟩ := ho.four.slices
 rw [hsz] at ho
 replace R0 := R0.later hb1
 replace R1 := R1.later hb1
 replace R3 := R3.later hb1
 replace hbel := below_on hbel hb1
 have hB : w.heap.size + 3 ≤ w1.heap.size := by have := hb1.size; omega
 clear hb1 hsz
 have ho2 := ho.row (by omega) R0 (cvc x.k x.b (.slice qa x.am.length da) (.slice qw x.wr.length dw) (.slice qm x.mb.length dx) (.slice qe x.el.length de))
 have hbs := below_setRow hbel (Nat.le_refl w.heap.size) (cvc x.k x.b (.slice qa x.am.length da) (.slice qw x.wr.length dw) (.slice qm x.mb.length dx) (.slice qe x.el.length de))
 have hB2 : w.heap.size + 3 ≤ (w1.setRow w.heap.size (cvc x.k x.b (.slice qa x.am.length da) (.slice qw x.wr.length dw) (.slice qm x.mb.length dx) (.slice qe x.el.length de))).heap.size := by simpa [World.setRow] using hB
 replace R1 := R1.rowOther (q := w.heap.size) (by omega) (cvc x.k x.b (.slice qa x.am.length da) (.slice qw x.wr.length dw) (.slice qm x.mb.length dx) (.slice qe x.el.length de))
 replace R3 := R3.rowOther (q := w.heap.size) (by omega) (cvc x.k x.b (.slice qa x.am.length da) (.slice qw x.wr.length dw) (.slice qm x.mb.length dx) (.slice qe x.el.length de))
 have R4 := R0.row (cvc x.k x.b (.slice qa x.am.length da) (.slice qw x.wr.length dw) (.slice qm x.mb.length dx) (.slice qe x.el.length de))
 generalize hW : w1.setRow w.heap.size (cvc x.k x.b (.slice qa x.am.length da) (.slice qw x.wr.length dw) (.slice qm x.mb.length dx) (.slice qe x.el.length de)) = w2 at ho2 hbs hB2 R1 R3 R4
 go_wp2_with (first | rw [hW] | refine store_r rfl 27 _ _ rfl _ (cvc x.k x.b (.slice qa x.am.length da) (.slice qw x.wr.length dw) (.slice qm x.mb.length dx) (.slice qe x.el.length de)) rfl rfl R0 size27 rfl (by simp [Value.oneCell']) ?_ | refine load_r 27 _ rfl rfl _ rfl R4 Tryz.underlying27 rfl size27 ?_)
 clear hW ho hbel hB R0
 refine (check_any x _ _ _ _ w2 ho2.four hs).mono ?_
 rintro e w3 ⟨rfl, hb1⟩
 replace R1 := R1.later hb1
 replace R3 := R3.later hb1
 replace R4 := R4.later hb1
 replace ho2 := ho2.later hb1
 replace hbs := below_on hbs hb1
 replace hB2 := Nat.le_trans hB2 hb1.size
 clear hb1
 have HQ : Hid (z = if (ck x && im idx) = true then { x with el := x.el.map (gE f ⟨q, u, idx⟩) } else x) := by
  show _ = _
  rw [← HZ.out]
  rfl
 clear HZ
 obtain ⟨y1, HY1⟩ := hid_ex (ck x)
 rw [HY1.out] at HQ ⊢
 cases y1
 ·have e := HQ.out
  rw [Bool.false_and, if_neg (by decide)] at e
  have e := e.symm
  subst e
  go_wp2_with (first | refine load_r 27 _ rfl rfl _ rfl R4 Tryz.underlying27 rfl size27 ?_ | refine store_r rfl 27 _ _ rfl _ (cvc x.k x.b (.slice qa x.am.length da) (.slice qw x.wr.length dw) (.slice qm x.mb.length dx) (.slice qe x.el.length de)) rfl rfl R3 size27 rfl (by simp [Value.oneCell']) ?_)
  refine bodyPost_ret (results_r rfl rfl (R3.row (cvc x.k x.b (.slice qa x.am.length da) (.slice qw x.wr.length dw) (.slice qm x.mb.length dx) (.slice qe x.el.length de))) rfl Tryz.underlying27 size27) rfl ?_
  exact ⟨_, _, _, _, rfl, (ho2.row (by omega) R3 (cvc x.k x.b (.slice qa x.am.length da) (.slice qw x.wr.length dw) (.slice qm x.mb.length dx) (.slice qe x.el.length de))).four, below_setRow hbs (by omega) _⟩
 ·have hce : ce x.el = true := (ck_parts HY1.out).2.2.2.2.2.1
  have HIE : Hid (∀ e ∈ x.el, ie e = true) := ce_ie hce
  clear hce
  by_cases hi : 1 ≤ idx
  ·have hi' : ¬ idx < 1 := by omega
   have e := HQ.out
   rw [show im idx = true from decide_eq_true hi, show (true && true) = true from rfl, if_pos rfl] at e
   have HE : Hid (z = { x with el := x.el.map (gE f ⟨q, u, idx⟩) }) := e
   clear e HQ HY1
   have cE : w3.cell? ⟨w.heap.size, 5, none⟩ = some (.slice qe x.el.length de) := R4.cell 5
   obtain ⟨ha, ht, ⟨ms, hms, hom, hob⟩, ⟨es, hes, hoe, hge⟩⟩ := ho2
   have hml := hs.e
   go_wp2_with fail
   go_loopw [24] (fun vi wr => ∃ (k : Nat) (es : List (El × Value)), vi = .int .i64 k ∧ k ≤ x.el.length ∧ Hid (es.map (·.1) = (x.el.take k).map (gE f ⟨q, u, idx⟩) ++ x.el.drop k) ∧ wr.ownsRow (w.heap.size + 3) 69 9 (.slice qe x.el.length de) x.el.length (rows El.cells es) ∧ OwnG (w.heap.size + 3) wr es ∧ wr.ownsRow (w.heap.size + 3) 71 4 (.slice qa x.am.length da) x.am.length (rows A.cells x.am) ∧ wr.ownsRow (w.heap.size + 3) 64 5 (.slice qw x.wr.length dw) x.wr.length (rows Wt.cells x.wr) ∧ wr.ownsRow (w.heap.size + 3) 67 3 (.slice qm x.mb.length dx) x.mb.length (rows Mb.cells ms) ∧ OwnB (w.heap.size + 3) wr ms ∧ Rw wr w.heap.size 27 (cvc x.k x.b (.slice qa x.am.length da) (.slice qw x.wr.length dw) (.slice qm x.mb.length dx) (.slice qe x.el.length de)) ∧ Rw wr (w.heap.size + 1) 34 (txc q u v t sl).toArray ∧ Rw wr (w.heap.size + 2) 27 z4 ∧ Below w.heap.size w wr ∧ w.heap.size + 3 ≤ wr.heap.size) (fun vi _ => x.el.length - (intOf vi).toNat)
   case atStart => exact ⟨0, es, rfl, by omega, by (show _ = _; rw [hes]; simp), hoe, hge, ha, ht, hom, hob, R4, R1, R3, hbs, hB2⟩
   case round =>
    clear R4 R1 R3 hbs hB2 ha ht hom hob hoe hge hes es cE
    obtain ⟨k, es, rfl, hk, HES, hoe, hge, ha, ht, hom, hob, R4, R1, R3, hbs, hB2⟩ := hrel
    have hel : es.length = x.el.length := by
     have := congrArg List.length HES.out
     simp [Nat.min_eq_left hk] at this
     omega
    by_cases hlt : k < x.el.length
    ·have hlt' : (k : Int) < (x.el.length : Int) := by omega
     have hke : k < es.length := by omega
     obtain ⟨g, rfl, hBg⟩ := own_some hoe (by omega)
     have hgl := (own_ge hoe).2
     obtain ⟨g', o', hq', hd⟩ := (own_sh hoe).at (by omega)
     cases hq'
     have d : wr.rangeAt g (0 + k * 9) (El.cells (es[k]'(by omega))) := range_sub hd (k * 9) fun j u hu => rows_at El.len es k (by omega) j u hu
     rw [Nat.zero_add] at d
     have hyo := hge es[k] (List.getElem_mem _)
     have exk : es[k].1 = x.el[k] := by
      have := congrArg (fun l => l[k]?) HES.out
      simp only [List.getElem?_map, List.getElem?_eq_getElem hke, Option.map_some] at this
      rw [List.getElem?_append_right (by simp; omega)] at this
      simp only [List.length_map, List.length_take, Nat.min_eq_left hk, Nat.sub_self, List.getElem?_drop, Nat.add_zero, List.getElem?_eq_getElem hlt, Option.some.injEq] at this
      exact this
     have hgk : es[k].1.gone.length ≤ 100 := by rw [exk]; exact hs.ei _ (List.getElem_mem _)
     have hup : es[k].1.gone.Pairwise (fun a b => lt a b = true) := by
      have := HIE.out _ (List.getElem_mem hlt)
      rw [← exk] at this
      simp only [ie, Bool.and_eq_true] at this
      exact ((ca_pair _).1 this.2.2).2
     obtain ⟨yy, HX⟩ := hid_ex (es[k]'(by omega))
     have HXK : Hid (x.el[k] = yy.1) := by
      show _ = _
      rw [← exk, HX.out]
     rw [HX.out] at d hyo hgk hup
     clear exk
     obtain ⟨y, yv⟩ := yy
     replace hyo : wr.ownsRow (w.heap.size + 3) 50 3 yv y.gone.length (rows M.cells y.gone) := hyo
     obtain ⟨py, cy, rfl⟩ := own_sl hyo
     replace d : wr.rangeAt g (k * 9) [Value.int .i64 y.p, .int .i64 y.s, .int .i64 y.i, .int .i64 y.t, .int .i64 y.q, .int .i64 y.u, .int .i64 y.j, .string y.x, .slice py y.gone.length cy] := d
     replace HXK : Hid (x.el[k] = y) := HXK
     replace hgk : y.gone.length ≤ 100 := hgk
     replace hup : y.gone.Pairwise (fun a b => lt a b = true) := hup
     have zb : (Tryz.prog.info? 69).map (·.size) = some [Value.int .i64 y.p, .int .i64 y.s, .int .i64 y.i, .int .i64 y.t, .int .i64 y.q, .int .i64 y.u, .int .i64 y.j, .string y.x, .slice py y.gone.length cy].length := size69
     have RB := rw_new wr 69 #[.int .i64 y.p, .int .i64 y.s, .int .i64 y.i, .int .i64 y.t, .int .i64 y.q, .int .i64 y.u, .int .i64 y.j, .string y.x, .slice py y.gone.length cy]
     have hbA := bel_alloc (Below.refl wr.heap.size wr) (.cells #[.int .i64 y.p, .int .i64 y.s, .int .i64 y.i, .int .i64 y.t, .int .i64 y.q, .int .i64 y.u, .int .i64 y.j, .string y.x, .slice py y.gone.length cy] 69)
     have hszA : wr.heap.size < (wr.alloc (.cells #[.int .i64 y.p, .int .i64 y.s, .int .i64 y.i, .int .i64 y.t, .int .i64 y.q, .int .i64 y.u, .int .i64 y.j, .string y.x, .slice py y.gone.length cy] 69)).heap.size := by simp
     generalize hWA : wr.alloc (.cells #[.int .i64 y.p, .int .i64 y.s, .int .i64 y.i, .int .i64 y.t, .int .i64 y.q, .int .i64 y.u, .int .i64 y.j, .string y.x, .slice py y.gone.length cy] 69) = wx at RB hbA hszA
     have c0 : wx.cell? ⟨wr.heap.size, 0, none⟩ = some (.int .i64 y.p) := RB.cell 0
     have c1 : wx.cell? ⟨wr.heap.size, 1, none⟩ = some (.int .i64 y.s) := RB.cell 1
     have c2 : wx.cell? ⟨wr.heap.size, 2, none⟩ = some (.int .i64 y.i) := RB.cell 2
     have C1 := HC.out (mE y) wx (below_on hbs hbA)
     obtain ⟨b, HB⟩ := hid_ex (f (mE y))
     rw [HB.out] at C1
     go_wp2_with (first | refine load_m 69 _ rfl rfl _ _ rfl d Tryz.underlying69 rfl zb ?_ | rw [hWA])
     clear hWA c0 c1 c2 hd
     refine C1.mono ?_
     clear C1
     rintro e w5 ⟨rfl, hb5⟩
     replace RB := RB.later hb5
     replace hb5 := below_on hbA hb5
     clear hbA
     replace hoe := own_later hoe hb5
     replace hge := hge.later hb5
     replace ha := own_later ha hb5
     replace ht := own_later ht hb5
     replace hom := own_later hom hb5
     replace hob := hob.later hb5
     replace hyo := own_later hyo hb5
     replace R4 := R4.later hb5
     replace R1 := R1.later hb5
     replace R3 := R3.later hb5
     replace hbs := below_on hbs hb5
     replace hB2 := Nat.le_trans hB2 hb5.size
     cases b
     ·have HES2 : Hid (es.map (·.1) = (x.el.take (k + 1)).map (gE f ⟨q, u, idx⟩) ++ x.el.drop (k + 1)) := by
       show _ = _
       rw [HES.out, List.take_succ_eq_append_getElem hlt, List.map_append, List.map_cons, List.map_nil, HXK.out, show gE f ⟨q, u, idx⟩ y = y by unfold gE; rw [HB.out]; rfl, List.append_assoc, List.singleton_append, ← HXK.out, List.getElem_cons_drop]
      clear HES HXK HB HX d hyo hup RB
      go_wp2_with fail
      go_roundw
      case rel => exact ⟨k + 1, es, by simp, by omega, HES2, hoe, hge, ha, ht, hom, hob, R4, R1, R3, hbs, hB2⟩
      case measure => simp [intOf]; omega
     ·go_wp2_with fail
      have hS : Calm.Stays (fun w' => Below w5.heap.size w5 w') := fun wa wb h hb => below_on h hb
      have hF : Facts.Stay [pF 0 (eqP (.pointer (some ⟨w.heap.size, 5, none⟩))), pF 1 (eqP (.slice (some ⟨g, 0, none⟩) x.el.length de)), pF 2 (eqP (.int .i64 k)), pF 3 (eqP (.pointer (some ⟨wr.heap.size, 8, none⟩))), pF 4 (eqP (.slice py y.gone.length cy)), pF 5 (eqP (.pointer (some ⟨w.heap.size + 1, 0, none⟩))), pF 6 (eqP (.agg #[.int .i64 q, .int .i64 u])), pF 7 (eqP (.int .i64 idx)), pF 8 (eqP (MV q u idx)), pF 9 (ownP w5.heap.size 50 3 (wth y.gone ⟨q, u, idx⟩).length (rows M.cells (wth y.gone ⟨q, u, idx⟩)))] := stay_of (by simp only [List.forall_mem_cons]; exact ⟨⟨_, _, rfl, eqP_keeps _⟩, ⟨_, _, rfl, eqP_keeps _⟩, ⟨_, _, rfl, eqP_keeps _⟩, ⟨_, _, rfl, eqP_keeps _⟩, ⟨_, _, rfl, eqP_keeps _⟩, ⟨_, _, rfl, eqP_keeps _⟩, ⟨_, _, rfl, eqP_keeps _⟩, ⟨_, _, rfl, eqP_keeps _⟩, ⟨_, _, rfl, eqP_keeps _⟩, ⟨_, _, rfl, ownP_keeps _ _ _ _ _⟩, fun _ h => by cases h⟩)
      refine Facts.regionTail (by kernel_rfl) (by kernel_rfl) 10 (by decide) (by kernel_rfl) (fun w' => Below w5.heap.size w5 w') (fun xv => { tmps := #[CV x.k x.b (Value.slice pa x.am.length ca') (Value.slice pw x.wr.length cw) (Value.slice pm x.mb.length cm) (Value.slice pe x.el.length ce'), TxV q u v t sl, Value.int IntKind.i64 idx, Value.func (Fn.func 92) #[] #[Value.pointer (some { block := bt, off := 0 })], Value.pointer (some { block := w.heap.size, off := 0 }), Value.pointer (some { block := w.heap.size + 1, off := 0 }), undef, undef, Value.pointer (some { block := w.heap.size + 1 + 1, off := 0 }), Value.int IntKind.i64 ↑k, Value.pointer (some { block := wr.heap.size, off := 0 }), Value.agg (cvc x.k x.b (Value.slice pa x.am.length ca') (Value.slice pw x.wr.length cw) (Value.slice pm x.mb.length cm) (Value.slice pe x.el.length ce')), CV x.k x.b (Value.slice qa x.am.length da) (Value.slice qw x.wr.length dw) (Value.slice qm x.mb.length dx) (Value.slice (some { block := g, off := 0 }) x.el.length de), Value.agg (cvc x.k x.b (Value.slice qa x.am.length da) (Value.slice qw x.wr.length dw) (Value.slice qm x.mb.length dx) (Value.slice (some { block := g, off := 0 }) x.el.length de)), Value.bool true, Value.bool false, Value.bool false, Value.int IntKind.i64 idx, Value.bool (decide (idx < 1)), Value.bool (decide (idx < 1)), undef, Value.pointer (some { block := w.heap.size, off := 5 }), Value.slice (some { block := g, off := 0 }) x.el.length de, Value.int IntKind.i64 ↑x.el.length, Value.int IntKind.i64 ↑k, Value.bool true, Value.int IntKind.i64 ↑k, Value.pointer (some { block := g, off := k * 9 }), Value.agg #[Value.int IntKind.i64 y.p, Value.int IntKind.i64 y.s, Value.int IntKind.i64 y.i, Value.int IntKind.i64 y.t, Value.int IntKind.i64 y.q, Value.int IntKind.i64 y.u, Value.int IntKind.i64 y.j, Value.string y.x, Value.slice py y.gone.length cy], Value.func (Fn.func 92) #[] #[Value.pointer (some { block := bt, off := 0 })], Value.pointer (some { block := wr.heap.size, off := 0 }), Value.agg #[Value.int IntKind.i64 y.p, Value.int IntKind.i64 y.s, Value.int IntKind.i64 y.i], Value.bool true, xv 0, xv 1, xv 2, xv 3, xv 4, xv 5, xv 6, xv 7, xv 8, xv 9, u43, u44, u45, undef], defers := [] }) [pF 0 (eqP (.pointer (some ⟨w.heap.size, 5, none⟩))), pF 1 (eqP (.slice (some ⟨g, 0, none⟩) x.el.length de)), pF 2 (eqP (.int .i64 k)), pF 3 (eqP (.pointer (some ⟨wr.heap.size, 8, none⟩))), pF 4 (eqP (.slice py y.gone.length cy)), pF 5 (eqP (.pointer (some ⟨w.heap.size + 1, 0, none⟩))), pF 6 (eqP (.agg #[.int .i64 q, .int .i64 u])), pF 7 (eqP (.int .i64 idx)), pF 8 (eqP (MV q u idx)), pF 9 (ownP w5.heap.size 50 3 (wth y.gone ⟨q, u, idx⟩).length (rows M.cells (wth y.gone ⟨q, u, idx⟩)))] _ rfl rfl (by kernel_rfl) (fun j => [u33, u34, u35, u36, u37, u38, u39, u40, u41, u42].getD j undef) rfl (Below.refl _ _).drew ⟨?_, ?_, ?_, ?_, ?_, ?_, ?_, ?_, ?_, ?_, ?_, ?_, ?_, trivial⟩ ?_
      ·exact fun _ => Facts.pureP hS hF (fun _ _ => rfl) rfl (fun xv wv hSw hd => by
        go_simp)
      ·exact fun _ => Facts.pureP hS hF (fun _ _ => rfl) rfl (fun xv wv hSw hd => by
        have d0 : xv 0 = _ := pF_get (hd ⟨0, .data⟩ (by simp) rfl _ rfl)
        have g1 : w5.cell? ⟨w.heap.size, 5, none⟩ = some (.slice (some ⟨g, 0, none⟩) x.el.length de) := R4.cell 5
        have g2 := cell_later hSw g1
        have g3 : w5.cell? ⟨wr.heap.size, 8, none⟩ = some (.slice py y.gone.length cy) := RB.cell 8
        have g4 := cell_later hSw g3
        have g5 := cell_later hSw (tx_p R1)
        have g6 := cell_later hSw (tx_s R1)
        simp only [d0]
        go_simp)
      ·exact fun _ => Facts.pureP hS hF (fun _ _ => rfl) rfl (fun xv wv hSw hd => by
        go_simp)
      ·exact fun _ => Facts.pureP hS hF (fun _ _ => rfl) rfl (fun xv wv hSw hd => by
        go_simp)
      ·exact fun _ => Facts.pureP hS hF (fun _ _ => rfl) rfl (fun xv wv hSw hd => by
        have d3 : xv 3 = _ := pF_get (hd ⟨3, .data⟩ (by simp) rfl _ rfl)
        have g1 : w5.cell? ⟨w.heap.size, 5, none⟩ = some (.slice (some ⟨g, 0, none⟩) x.el.length de) := R4.cell 5
        have g2 := cell_later hSw g1
        have g3 : w5.cell? ⟨wr.heap.size, 8, none⟩ = some (.slice py y.gone.length cy) := RB.cell 8
        have g4 := cell_later hSw g3
        have g5 := cell_later hSw (tx_p R1)
        have g6 := cell_later hSw (tx_s R1)
        simp only [d3]
        go_simp)
      ·exact fun _ => Facts.pureP hS hF (fun _ _ => rfl) rfl (fun xv wv hSw hd => by
        go_simp)
      ·exact fun _ => Facts.pureP hS hF (fun _ _ => rfl) rfl (fun xv wv hSw hd => by
        have d5 : xv 5 = _ := pF_get (hd ⟨5, .data⟩ (by simp) rfl _ rfl)
        have g1 : w5.cell? ⟨w.heap.size, 5, none⟩ = some (.slice (some ⟨g, 0, none⟩) x.el.length de) := R4.cell 5
        have g2 := cell_later hSw g1
        have g3 : w5.cell? ⟨wr.heap.size, 8, none⟩ = some (.slice py y.gone.length cy) := RB.cell 8
        have g4 := cell_later hSw g3
        have g5 := cell_later hSw (tx_p R1)
        have g6 := cell_later hSw (tx_s R1)
        simp only [d5]
        go_simp)
      ·exact fun _ => Facts.pureP hS hF (fun _ _ => rfl) rfl (fun xv wv hSw hd => by
        go_simp)
      ·exact fun _ => Facts.pureP hS hF (fun _ _ => rfl) rfl (fun xv wv hSw hd => by
        have d6 : xv 6 = _ := pF_get (hd ⟨6, .data⟩ (by simp) rfl _ rfl)
        have d7 : xv 7 = _ := pF_get (hd ⟨7, .data⟩ (by simp) rfl _ rfl)
        simp only [d6, d7]
        go_simp)
      ·refine fun _ => Facts.call2P hS hF (fun _ _ => rfl) rfl (by kernel_rfl) rfl (fun xv wv hSw hd => ?_)
       have d4 : xv 4 = _ := pF_get (hd ⟨4, .data⟩ (by simp) rfl _ rfl)
       have d8 : xv 8 = _ := pF_get (hd ⟨8, .data⟩ (by simp) rfl _ rfl)
       rw [show Act.eval _ _ = xv 4 from rfl, d4, show Act.eval _ _ = xv 8 from rfl, d8]
       refine (ww_any _ _ ⟨q, u, idx⟩ _ ((own_sh hyo).later hSw) hgk hup).mono ?_
       rintro e w' ⟨u9, he, ho, hb⟩
       exact ⟨u9, he, own_mono ho hSw.size, hb⟩
      ·exact fun h => absurd h (by decide)
      ·exact fun h => absurd h (by decide)
      ·exact fun h => absurd h (by decide)
      intro x9 w6 hb6 hf
      have e1 : x9 1 = _ := pF_get (hf 1 _ rfl)
      have e2 : x9 2 = _ := pF_get (hf 2 _ rfl)
      have e5 := pF_get (hf 9 _ rfl)
      replace e5 : w6.ownsRow w5.heap.size 50 3 (x9 9) (wth y.gone ⟨q, u, idx⟩).length (rows M.cells (wth y.gone ⟨q, u, idx⟩)) := e5
      clear hS hF hf
      obtain ⟨pz, cz, hz⟩ := own_sl e5
      rw [hz] at e5
      replace e5 := own_mono e5 hB2
      replace hoe := own_later hoe hb6
      replace hge := hge.later hb6
      replace ha := own_later ha hb6
      replace ht := own_later ht hb6
      replace hom := own_later hom hb6
      replace hob := hob.later hb6
      replace R4 := R4.later hb6
      replace R1 := R1.later hb6
      replace R3 := R3.later hb6
      replace hbs := below_on hbs hb6
      replace hB2 := Nat.le_trans hB2 hb6.size
      have hcg : w6.cell? ⟨g, k * 9 + 8, none⟩ = some (.slice py y.gone.length cy) := range_later (range_later d hb5) hb6 8 _ rfl
      have hfz := hoe.frozenAt (k * 9 + 8)
      have hkI : (0 : Int) ≤ (k : Int) := by omega
      refine tail_pure (v := .pointer (some ⟨g, k * 9, none⟩)) (by go_simp) ?_
      refine tail_pure (v := .pointer (some ⟨g, k * 9 + 8, none⟩)) (by go_simp) ?_
      refine tail_store 65 _ _ rfl _ _ rfl (show _ = Value.slice pz (wth y.gone ⟨q, u, idx⟩).length cz from hz) (store82 hcg hfz) ?_
      refine Facts.tailWp_nil ?_
      have htag1 := own_tag ha hoe (by decide) (g := g) rfl
      have htag2 := own_tag ht hoe (by decide) (g := g) rfl
      have htag3 := own_tag hom hoe (by decide) (g := g) rfl
      replace hob := hob.tag hoe (by decide) (g := g) rfl (k * 9 + 8) (.slice pz (wth y.gone ⟨q, u, idx⟩).length cz)
      replace R4 := R4.setOther (q := g) (by omega) (k * 9 + 8) (.slice pz (wth y.gone ⟨q, u, idx⟩).length cz)
      replace R1 := R1.setOther (q := g) (by omega) (k * 9 + 8) (.slice pz (wth y.gone ⟨q, u, idx⟩).length cz)
      replace R3 := R3.setOther (q := g) (by omega) (k * 9 + 8) (.slice pz (wth y.gone ⟨q, u, idx⟩).length cz)
      replace ha := own_over ha htag1 (k * 9 + 8) (.slice pz (wth y.gone ⟨q, u, idx⟩).length cz)
      replace ht := own_over ht htag2 (k * 9 + 8) (.slice pz (wth y.gone ⟨q, u, idx⟩).length cz)
      replace hom := own_over hom htag3 (k * 9 + 8) (.slice pz (wth y.gone ⟨q, u, idx⟩).length cz)
      have e6 := own_over e5 (own_tag e5 hoe (by decide) (g := g) rfl) (k * 9 + 8) (.slice pz (wth y.gone ⟨q, u, idx⟩).length cz)
      replace hge := hge.tag hoe (by decide) (g := g) rfl (k * 9 + 8) (.slice pz (wth y.gone ⟨q, u, idx⟩).length cz)
      replace hoe := (hoe.stored (k * 9 + 8) (.slice pz (wth y.gone ⟨q, u, idx⟩).length cz)).1
      replace hbs := hbs.setCell (p := ⟨g, k * 9 + 8, none⟩) (show w.heap.size ≤ g by omega) (.slice pz (wth y.gone ⟨q, u, idx⟩).length cz)
      replace hB2 : w.heap.size + 3 ≤ (w6.setCell ⟨g, k * 9 + 8, none⟩ (.slice pz (wth y.gone ⟨q, u, idx⟩).length cz)).heap.size := by rw [World.size_setCell]; exact hB2
      rw [← rows_set El.len es k 8 hke ({ y with gone := wth y.gone ⟨q, u, idx⟩ }, (.slice pz (wth y.gone ⟨q, u, idx⟩).length cz)) _ (by decide) (by rw [HX.out]; rfl)] at hoe
      generalize w6.setCell ⟨g, k * 9 + 8, none⟩ (.slice pz (wth y.gone ⟨q, u, idx⟩).length cz) = w7 at R4 R1 R3 ha ht hom hob hoe hge e6 hbs hB2 ⊢
      have hge2 : OwnG (w.heap.size + 3) w7 (es.set k ({ y with gone := wth y.gone ⟨q, u, idx⟩ }, (.slice pz (wth y.gone ⟨q, u, idx⟩).length cz))) := fun a ha => by
       rcases List.mem_or_eq_of_mem_set ha with h | h
       ·exact hge a h
       ·subst h
        exact e6
      have HES2 : Hid ((es.set k ({ y with gone := wth y.gone ⟨q, u, idx⟩ }, (.slice pz (wth y.gone ⟨q, u, idx⟩).length cz))).map (·.1) = (x.el.take (k + 1)).map (gE f ⟨q, u, idx⟩) ++ x.el.drop (k + 1)) := by
       show _ = _
       rw [List.map_set, HES.out, List.take_succ_eq_append_getElem hlt, List.map_append, List.map_cons, List.map_nil, HXK.out, show gE f ⟨q, u, idx⟩ y = { y with gone := wth y.gone ⟨q, u, idx⟩ } by unfold gE; rw [HB.out]; rfl, List.append_assoc, List.singleton_append, List.set_append_right _ _ (by simp; omega)]
       congr 1
       simp only [List.length_map, List.length_take, Nat.min_eq_left hk, Nat.sub_self]
       rw [List.drop_eq_getElem_cons hlt, List.set_cons_zero]
      clear hcg hfz hb6 e5 hge e6 HES HXK HB HX d hyo hup RB htag1 htag2 htag3
      go_wp2_with fail
      go_roundw
      case rel => exact ⟨k + 1, _, by simp, by omega, HES2, hoe, hge2, ha, ht, hom, hob, R4, R1, R3, hbs, hB2⟩
      case measure => simp [intOf]; omega
    ·have hlt' : ¬ (k : Int) < (x.el.length : Int) := by omega
     obtain rfl : k = x.el.length := by omega
     have hes : es.map (·.1) = x.el.map (gE f ⟨q, u, idx⟩) := by
      have := HES.out
      simpa using this
     have HF9 : Hid (Gives z w (.returned (CV x.k x.b (.slice qa x.am.length da) (.slice qw x.wr.length dw) (.slice qm x.mb.length dx) (.slice qe x.el.length de))) (wr.setRow (w.heap.size + 2) (cvc x.k x.b (.slice qa x.am.length da) (.slice qw x.wr.length dw) (.slice qm x.mb.length dx) (.slice qe x.el.length de)))) := by
      have e := HE.out.symm
      subst e
      refine ⟨_, _, _, _, rfl, ⟨own_sh (own_row ha (by omega) _), own_sh (own_row ht (by omega) _), ⟨ms, hms, own_sh (own_row hom (by omega) _), (hob.row (by omega) _).has⟩, ⟨es, hes, ?_, (hge.row (by omega) _).has⟩⟩, below_setRow hbs (by omega) _⟩
      show SHas 9 _ _ (x.el.map (gE f ⟨q, u, idx⟩)).length _
      rw [List.length_map]
      exact own_sh (own_row hoe (by omega) _)
     clear HE HES hes hoe hge ha ht hom hob
     go_wp2_with (first | refine load_r 27 _ rfl rfl _ rfl R4 Tryz.underlying27 rfl size27 ?_ | refine store_r rfl 27 _ _ rfl _ (cvc x.k x.b (.slice qa x.am.length da) (.slice qw x.wr.length dw) (.slice qm x.mb.length dx) (.slice qe x.el.length de)) rfl rfl R3 size27 rfl (by simp [Value.oneCell']) ?_)
     refine bodyPost_ret (results_r rfl rfl (R3.row (cvc x.k x.b (.slice qa x.am.length da) (.slice qw x.wr.length dw) (.slice qm x.mb.length dx) (.slice qe x.el.length de))) rfl Tryz.underlying27 size27) rfl ?_
     exact HF9.out
  ·have hi' : idx < 1 := by omega
   have e := HQ.out
   rw [show im idx = false from decide_eq_false hi, Bool.and_false, if_neg (by decide)] at e
   have e := e.symm
   subst e
   go_wp2_with (first | refine load_r 27 _ rfl rfl _ rfl R4 Tryz.underlying27 rfl size27 ?_ | refine store_r rfl 27 _ _ rfl _ (cvc x.k x.b (.slice qa x.am.length da) (.slice qw x.wr.length dw) (.slice qm x.mb.length dx) (.slice qe x.el.length de)) rfl rfl R3 size27 rfl (by simp [Value.oneCell']) ?_)
   refine bodyPost_ret (results_r rfl rfl (R3.row (cvc x.k x.b (.slice qa x.am.length da) (.slice qw x.wr.length dw) (.slice qm x.mb.length dx) (.slice qe x.el.length de))) rfl Tryz.underlying27 size27) rfl ?_
   exact ⟨_, _, _, _, rfl, (ho2.row (by omega) R3 (cvc x.k x.b (.slice qa x.am.length da) (.slice qw x.wr.length dw) (.slice qm x.mb.length dx) (.slice qe x.el.length de))).four, below_setRow hbs (by omega) _⟩
theorem withoutC_any (x : X) (va vw vm ve : Value) (q u : Int) (v : List Int) (t : Int) (sl : Value) (idx : Int) (f : M → Bool) (bt bi : Nat) (w : World) (_hv : v.length = 13) (h : Four w x va vw vm ve) (hs : Sm x) (C : ∀ (y : M) (w' : World), Below w.heap.size w w' → Calls Tryz.prog 237 #[MV y.p y.s y.i, .pointer (some ⟨bt, 0, none⟩), .pointer (some ⟨bi, 0, none⟩)] w' (Tells (.bool (f y)) w')) :
  Calls Tryz.prog 91 #[CV x.k x.b va vw vm ve, TxV q u v t sl, .int .i64 idx, .func (.func 237) #[] #[.pointer (some ⟨bt, 0, none⟩), .pointer (some ⟨bi, 0, none⟩)]] w (Gives (goX x ⟨q, u, idx⟩ f) w) := by
 obtain ⟨pa, ca', pw, cw, pm, cm, pe, ce', rfl, rfl, rfl, rfl⟩ := h.slices
 have HF : Hid (Four w x (.slice pa x.am.length ca') (.slice pw x.wr.length cw) (.slice pm x.mb.length cm) (.slice pe x.el.length ce')) := h
 have HC : Hid (∀ (y : M) (w' : World), Below w.heap.size w w' → Calls Tryz.prog 237 #[MV y.p y.s y.i, .pointer (some ⟨bt, 0, none⟩), .pointer (some ⟨bi, 0, none⟩)] w' (Tells (.bool (f y)) w')) := C
 clear h C
 obtain ⟨z, HZ⟩ := hid_ex (goX x ⟨q, u, idx⟩ f)
 rw [HZ.out]
 have R0 := (((rw_new w 27 (cvc x.k x.b (.slice pa x.am.length ca') (.slice pw x.wr.length cw) (.slice pm x.mb.length cm) (.slice pe x.el.length ce'))).alloc (.cells (txc q u v t sl).toArray 34)).alloc (.cells z4 27))
 have R1 := ((rw_new (w.alloc (.cells (cvc x.k x.b (.slice pa x.am.length ca') (.slice pw x.wr.length cw) (.slice pm x.mb.length cm) (.slice pe x.el.length ce')) 27)) 34 (txc q u v t sl).toArray).alloc (.cells z4 27))
 have R3 := (rw_new ((w.alloc (.cells (cvc x.k x.b (.slice pa x.am.length ca') (.slice pw x.wr.length cw) (.slice pm x.mb.length cm) (.slice pe x.el.length ce')) 27)).alloc (.cells (txc q u v t sl).toArray 34)) 27 z4)
 have hbel := (bel_alloc (bel_alloc (bel_alloc (Below.refl w.heap.size w) (.cells (cvc x.k x.b (.slice pa x.am.length ca') (.slice pw x.wr.length cw) (.slice pm x.mb.length cm) (.slice pe x.el.length ce')) 27)) (.cells (txc q u v t sl).toArray 34)) (.cells z4 27))
 have hsz : (((w.alloc (.cells (cvc x.k x.b (.slice pa x.am.length ca') (.slice pw x.wr.length cw) (.slice pm x.mb.length cm) (.slice pe x.el.length ce')) 27)).alloc (.cells (txc q u v t sl).toArray 34)).alloc (.cells z4 27)).heap.size = w.heap.size + 3 := by simp
 generalize hW : (((w.alloc (.cells (cvc x.k x.b (.slice pa x.am.length ca') (.slice pw x.wr.length cw) (.slice pm x.mb.length cm) (.slice pe x.el.length ce')) 27)).alloc (.cells (txc q u v t sl).toArray 34)).alloc (.cells z4 27)) = w0 at R0 R1 R3 hbel hsz
 simp only [World.size_alloc, Nat.add_assoc, Nat.reduceAdd] at R1 R3
 go_enter Tryz.func91, Tryz.ntmps91
 go_wp2_with (first | rw [hW] | refine load_r 27 _ rfl rfl _ rfl R0 Tryz.underlying27 rfl size27 ?_)
 clear hW
 refine (copied_any x _ _ _ _ w0 (HF.out.later hbel) hs).mono ?_
 rintro e w1 ⟨ua, uw, um, ue, rfl, ho, hb1⟩
 obtain ⟨qa, da, qw, dw, qm, dx, qe, de, rfl, rfl, rfl, rfl⟩ := ho.four.slices
 rw [hsz] at ho
 replace R0 := R0.later hb1
 replace R1 := R1.later hb1
 replace R3 := R3.later hb1
 replace hbel := below_on hbel hb1
 have hB : w.heap.size + 3 ≤ w1.heap.size := by have := hb1.size; omega
 clear hb1 hsz
 have ho2 := ho.row (by omega) R0 (cvc x.k x.b (.slice qa x.am.length da) (.slice qw x.wr.length dw) (.slice qm x.mb.length dx) (.slice qe x.el.length de))
 have hbs := below_setRow hbel (Nat.le_refl w.heap.size) (cvc x.k x.b (.slice qa x.am.length da) (.slice qw x.wr.length dw) (.slice qm x.mb.length dx) (.slice qe x.el.length de))
 have hB2 : w.heap.size + 3 ≤ (w1.setRow w.heap.size (cvc x.k x.b (.slice qa x.am.length da) (.slice qw x.wr.length dw) (.slice qm x.mb.length dx) (.slice qe x.el.length de))).heap.size := by simpa [World.setRow] using hB
 replace R1 := R1.rowOther (q := w.heap.size) (by omega) (cvc x.k x.b (.slice qa x.am.length da) (.slice qw x.wr.length dw) (.slice qm x.mb.length dx) (.slice qe x.el.length de))
 replace R3 := R3.rowOther (q := w.heap.size) (by omega) (cvc x.k x.b (.slice qa x.am.length da) (.slice qw x.wr.length dw) (.slice qm x.mb.length dx) (.slice qe x.el.length de))
 have R4 := R0.row (cvc x.k x.b (.slice qa x.am.length da) (.slice qw x.wr.length dw) (.slice qm x.mb.length dx) (.slice qe x.el.length de))
 generalize hW : w1.setRow w.heap.size (cvc x.k x.b (.slice qa x.am.length da) (.slice qw x.wr.length dw) (.slice qm x.mb.length dx) (.slice qe x.el.length de)) = w2 at ho2 hbs hB2 R1 R3 R4
 go_wp2_with (first | rw [hW] | refine store_r rfl 27 _ _ rfl _ (cvc x.k x.b (.slice qa x.am.length da) (.slice qw x.wr.length dw) (.slice qm x.mb.length dx) (.slice qe x.el.length de)) rfl rfl R0 size27 rfl (by simp [Value.oneCell']) ?_ | refine load_r 27 _ rfl rfl _ rfl R4 Tryz.underlying27 rfl size27 ?_)
 clear hW ho hbel hB R0
 refine (check_any x _ _ _ _ w2 ho2.four hs).mono ?_
 rintro e w3 ⟨rfl, hb1⟩
 replace R1 := R1.later hb1
 replace R3 := R3.later hb1
 replace R4 := R4.later hb1
 replace ho2 := ho2.later hb1
 replace hbs := below_on hbs hb1
 replace hB2 := Nat.le_trans hB2 hb1.size
 clear hb1
 have HQ : Hid (z = if (ck x && im idx) = true then { x with el := x.el.map (gE f ⟨q, u, idx⟩) } else x) := by
  show _ = _
  rw [← HZ.out]
  rfl
 clear HZ
 obtain ⟨y1, HY1⟩ := hid_ex (ck x)
 rw [HY1.out] at HQ ⊢
 cases y1
 ·have e := HQ.out
  rw [Bool.false_and, if_neg (by decide)] at e
  have e := e.symm
  subst e
  go_wp2_with (first | refine load_r 27 _ rfl rfl _ rfl R4 Tryz.underlying27 rfl size27 ?_ | refine store_r rfl 27 _ _ rfl _ (cvc x.k x.b (.slice qa x.am.length da) (.slice qw x.wr.length dw) (.slice qm x.mb.length dx) (.slice qe x.el.length de)) rfl rfl R3 size27 rfl (by simp [Value.oneCell']) ?_)
  refine bodyPost_ret (results_r rfl rfl (R3.row (cvc x.k x.b (.slice qa x.am.length da) (.slice qw x.wr.length dw) (.slice qm x.mb.length dx) (.slice qe x.el.length de))) rfl Tryz.underlying27 size27) rfl ?_
  exact ⟨_, _, _, _, rfl, (ho2.row (by omega) R3 (cvc x.k x.b (.slice qa x.am.length da) (.slice qw x.wr.length dw) (.slice qm x.mb.length dx) (.slice qe x.el.length de))).four, below_setRow hbs (by omega) _⟩
 ·have hce : ce x.el = true := (ck_parts HY1.out).2.2.2.2.2.1
  have HIE : Hid (∀ e ∈ x.el, ie e = true) := ce_ie hce
  clear hce
  by_cases hi : 1 ≤ idx
  ·have hi' : ¬ idx < 1 := by omega
   have e := HQ.out
   rw [show im idx = true from decide_eq_true hi, show (true && true) = true from rfl, if_pos rfl] at e
   have HE : Hid (z = { x with el := x.el.map (gE f ⟨q, u, idx⟩) }) := e
   clear e HQ HY1
   have cE : w3.cell? ⟨w.heap.size, 5, none⟩ = some (.slice qe x.el.length de) := R4.cell 5
   obtain ⟨ha, ht, ⟨ms, hms, hom, hob⟩, ⟨es, hes, hoe, hge⟩⟩ := ho2
   have hml := hs.e
   go_wp2_with fail
   go_loopw [24] (fun vi wr => ∃ (k : Nat) (es : List (El × Value)), vi = .int .i64 k ∧ k ≤ x.el.length ∧ Hid (es.map (·.1) = (x.el.take k).map (gE f ⟨q, u, idx⟩) ++ x.el.drop k) ∧ wr.ownsRow (w.heap.size + 3) 69 9 (.slice qe x.el.length de) x.el.length (rows El.cells es) ∧ OwnG (w.heap.size + 3) wr es ∧ wr.ownsRow (w.heap.size + 3) 71 4 (.slice qa x.am.length da) x.am.length (rows A.cells x.am) ∧ wr.ownsRow (w.heap.size + 3) 64 5 (.slice qw x.wr.length dw) x.wr.length (rows Wt.cells x.wr) ∧ wr.ownsRow (w.heap.size + 3) 67 3 (.slice qm x.mb.length dx) x.mb.length (rows Mb.cells ms) ∧ OwnB (w.heap.size + 3) wr ms ∧ Rw wr w.heap.size 27 (cvc x.k x.b (.slice qa x.am.length da) (.slice qw x.wr.length dw) (.slice qm x.mb.length dx) (.slice qe x.el.length de)) ∧ Rw wr (w.heap.size + 1) 34 (txc q u v t sl).toArray ∧ Rw wr (w.heap.size + 2) 27 z4 ∧ Below w.heap.size w wr ∧ w.heap.size + 3 ≤ wr.heap.size) (fun vi _ => x.el.length - (intOf vi).toNat)
   case atStart => exact ⟨0, es, rfl, by omega, by (show _ = _; rw [hes]; simp), hoe, hge, ha, ht, hom, hob, R4, R1, R3, hbs, hB2⟩
   case round =>
    clear R4 R1 R3 hbs hB2 ha ht hom hob hoe hge hes es cE
    obtain ⟨k, es, rfl, hk, HES, hoe, hge, ha, ht, hom, hob, R4, R1, R3, hbs, hB2⟩ := hrel
    have hel : es.length = x.el.length := by
     have := congrArg List.length HES.out
     simp [Nat.min_eq_left hk] at this
     omega
    by_cases hlt : k < x.el.length
    ·have hlt' : (k : Int) < (x.el.length : Int) := by omega
     have hke : k < es.length := by omega
     obtain ⟨g, rfl, hBg⟩ := own_some hoe (by omega)
     have hgl := (own_ge hoe).2
     obtain ⟨g', o', hq', hd⟩ := (own_sh hoe).at (by omega)
     cases hq'
     have d : wr.rangeAt g (0 + k * 9) (El.cells (es[k]'(by omega))) := range_sub hd (k * 9) fun j u hu => rows_at El.len es k (by omega) j u hu
     rw [Nat.zero_add] at d
     have hyo := hge es[k] (List.getElem_mem _)
     have exk : es[k].1 = x.el[k] := by
      have := congrArg (fun l => l[k]?) HES.out
      simp only [List.getElem?_map, List.getElem?_eq_getElem hke, Option.map_some] at this
      rw [List.getElem?_append_right (by simp; omega)] at this
      simp only [List.length_map, List.length_take, Nat.min_eq_left hk, Nat.sub_self, List.getElem?_drop, Nat.add_zero, List.getElem?_eq_getElem hlt, Option.some.injEq] at this
      exact this
     have hgk : es[k].1.gone.length ≤ 100 := by rw [exk]; exact hs.ei _ (List.getElem_mem _)
     have hup : es[k].1.gone.Pairwise (fun a b => lt a b = true) := by
      have := HIE.out _ (List.getElem_mem hlt)
      rw [← exk] at this
      simp only [ie, Bool.and_eq_true] at this
      exact ((ca_pair _).1 this.2.2).2
     obtain ⟨yy, HX⟩ := hid_ex (es[k]'(by omega))
     have HXK : Hid (x.el[k] = yy.1) := by
      show _ = _
      rw [← exk, HX.out]
     rw [HX.out] at d hyo hgk hup
     clear exk
     obtain ⟨y, yv⟩ := yy
     replace hyo : wr.ownsRow (w.heap.size + 3) 50 3 yv y.gone.length (rows M.cells y.gone) := hyo
     obtain ⟨py, cy, rfl⟩ := own_sl hyo
     replace d : wr.rangeAt g (k * 9) [Value.int .i64 y.p, .int .i64 y.s, .int .i64 y.i, .int .i64 y.t, .int .i64 y.q, .int .i64 y.u, .int .i64 y.j, .string y.x, .slice py y.gone.length cy] := d
     replace HXK : Hid (x.el[k] = y) := HXK
     replace hgk : y.gone.length ≤ 100 := hgk
     replace hup : y.gone.Pairwise (fun a b => lt a b = true) := hup
     have zb : (Tryz.prog.info? 69).map (·.size) = some [Value.int .i64 y.p, .int .i64 y.s, .int .i64 y.i, .int .i64 y.t, .int .i64 y.q, .int .i64 y.u, .int .i64 y.j, .string y.x, .slice py y.gone.length cy].length := size69
     have RB := rw_new wr 69 #[.int .i64 y.p, .int .i64 y.s, .int .i64 y.i, .int .i64 y.t, .int .i64 y.q, .int .i64 y.u, .int .i64 y.j, .string y.x, .slice py y.gone.length cy]
     have hbA := bel_alloc (Below.refl wr.heap.size wr) (.cells #[.int .i64 y.p, .int .i64 y.s, .int .i64 y.i, .int .i64 y.t, .int .i64 y.q, .int .i64 y.u, .int .i64 y.j, .string y.x, .slice py y.gone.length cy] 69)
     have hszA : wr.heap.size < (wr.alloc (.cells #[.int .i64 y.p, .int .i64 y.s, .int .i64 y.i, .int .i64 y.t, .int .i64 y.q, .int .i64 y.u, .int .i64 y.j, .string y.x, .slice py y.gone.length cy] 69)).heap.size := by simp
     generalize hWA : wr.alloc (.cells #[.int .i64 y.p, .int .i64 y.s, .int .i64 y.i, .int .i64 y.t, .int .i64 y.q, .int .i64 y.u, .int .i64 y.j, .string y.x, .slice py y.gone.length cy] 69) = wx at RB hbA hszA
     have c0 : wx.cell? ⟨wr.heap.size, 0, none⟩ = some (.int .i64 y.p) := RB.cell 0
     have c1 : wx.cell? ⟨wr.heap.size, 1, none⟩ = some (.int .i64 y.s) := RB.cell 1
     have c2 : wx.cell? ⟨wr.heap.size, 2, none⟩ = some (.int .i64 y.i) := RB.cell 2
     have C1 := HC.out (mE y) wx (below_on hbs hbA)
     obtain ⟨b, HB⟩ := hid_ex (f (mE y))
     rw [HB.out] at C1
     go_wp2_with (first | refine load_m 69 _ rfl rfl _ _ rfl d Tryz.underlying69 rfl zb ?_ | rw [hWA])
     clear hWA c0 c1 c2 hd
     refine C1.mono ?_
     clear C1
     rintro e w5 ⟨rfl, hb5⟩
     replace RB := RB.later hb5
     replace hb5 := below_on hbA hb5
     clear hbA
     replace hoe := own_later hoe hb5
     replace hge := hge.later hb5
     replace ha := own_later ha hb5
     replace ht := own_later ht hb5
     replace hom := own_later hom hb5
     replace hob := hob.later hb5
     replace hyo := own_later hyo hb5
     replace R4 := R4.later hb5
     replace R1 := R1.later hb5
     replace R3 := R3.later hb5
     replace hbs := below_on hbs hb5
     replace hB2 := Nat.le_trans hB2 hb5.size
     cases b
     ·have HES2 : Hid (es.map (·.1) = (x.el.take (k + 1)).map (gE f ⟨q, u, idx⟩) ++ x.el.drop (k + 1)) := by
       show _ = _
       rw [HES.out, List.take_succ_eq_append_getElem hlt, List.map_append, List.map_cons, List.map_nil, HXK.out, show gE f ⟨q, u, idx⟩ y = y by unfold gE; rw [HB.out]; rfl, List.append_assoc, List.singleton_append, ← HXK.out, List.getElem_cons_drop]
      clear HES HXK HB HX d hyo hup RB
      go_wp2_with fail
      go_roundw
      case rel => exact ⟨k + 1, es, by simp, by omega, HES2, hoe, hge, ha, ht, hom, hob, R4, R1, R3, hbs, hB2⟩
      case measure => simp [intOf]; omega
     ·go_wp2_with fail
      have hS : Calm.Stays (fun w' => Below w5.heap.size w5 w') := fun wa wb h hb => below_on h hb
      have hF : Facts.Stay [pF 0 (eqP (.pointer (some ⟨w.heap.size, 5, none⟩))), pF 1 (eqP (.slice (some ⟨g, 0, none⟩) x.el.length de)), pF 2 (eqP (.int .i64 k)), pF 3 (eqP (.pointer (some ⟨wr.heap.size, 8, none⟩))), pF 4 (eqP (.slice py y.gone.length cy)), pF 5 (eqP (.pointer (some ⟨w.heap.size + 1, 0, none⟩))), pF 6 (eqP (.agg #[.int .i64 q, .int .i64 u])), pF 7 (eqP (.int .i64 idx)), pF 8 (eqP (MV q u idx)), pF 9 (ownP w5.heap.size 50 3 (wth y.gone ⟨q, u, idx⟩).length (rows M.cells (wth y.gone ⟨q, u, idx⟩)))] := stay_of (by simp only [List.forall_mem_cons]; exact ⟨⟨_, _, rfl, eqP_keeps _⟩, ⟨_, _, rfl, eqP_keeps _⟩, ⟨_, _, rfl, eqP_keeps _⟩, ⟨_, _, rfl, eqP_keeps _⟩, ⟨_, _, rfl, eqP_keeps _⟩, ⟨_, _, rfl, eqP_keeps _⟩, ⟨_, _, rfl, eqP_keeps _⟩, ⟨_, _, rfl, eqP_keeps _⟩, ⟨_, _, rfl, eqP_keeps _⟩, ⟨_, _, rfl, ownP_keeps _ _ _ _ _⟩, fun _ h => by cases h⟩)
      refine Facts.regionTail (by kernel_rfl) (by kernel_rfl) 10 (by decide) (by kernel_rfl) (fun w' => Below w5.heap.size w5 w') (fun xv => { tmps := #[CV x.k x.b (Value.slice pa x.am.length ca') (Value.slice pw x.wr.length cw) (Value.slice pm x.mb.length cm) (Value.slice pe x.el.length ce'), TxV q u v t sl, Value.int IntKind.i64 idx, Value.func (Fn.func 237) #[] #[Value.pointer (some { block := bt, off := 0 }), Value.pointer (some { block := bi, off := 0 })], Value.pointer (some { block := w.heap.size, off := 0 }), Value.pointer (some { block := w.heap.size + 1, off := 0 }), undef, undef, Value.pointer (some { block := w.heap.size + 1 + 1, off := 0 }), Value.int IntKind.i64 ↑k, Value.pointer (some { block := wr.heap.size, off := 0 }), Value.agg (cvc x.k x.b (Value.slice pa x.am.length ca') (Value.slice pw x.wr.length cw) (Value.slice pm x.mb.length cm) (Value.slice pe x.el.length ce')), CV x.k x.b (Value.slice qa x.am.length da) (Value.slice qw x.wr.length dw) (Value.slice qm x.mb.length dx) (Value.slice (some { block := g, off := 0 }) x.el.length de), Value.agg (cvc x.k x.b (Value.slice qa x.am.length da) (Value.slice qw x.wr.length dw) (Value.slice qm x.mb.length dx) (Value.slice (some { block := g, off := 0 }) x.el.length de)), Value.bool true, Value.bool false, Value.bool false, Value.int IntKind.i64 idx, Value.bool (decide (idx < 1)), Value.bool (decide (idx < 1)), undef, Value.pointer (some { block := w.heap.size, off := 5 }), Value.slice (some { block := g, off := 0 }) x.el.length de, Value.int IntKind.i64 ↑x.el.length, Value.int IntKind.i64 ↑k, Value.bool true, Value.int IntKind.i64 ↑k, Value.pointer (some { block := g, off := k * 9 }), Value.agg #[Value.int IntKind.i64 y.p, Value.int IntKind.i64 y.s, Value.int IntKind.i64 y.i, Value.int IntKind.i64 y.t, Value.int IntKind.i64 y.q, Value.int IntKind.i64 y.u, Value.int IntKind.i64 y.j, Value.string y.x, Value.slice py y.gone.length cy], Value.func (Fn.func 237) #[] #[Value.pointer (some { block := bt, off := 0 }), Value.pointer (some { block := bi, off := 0 })], Value.pointer (some { block := wr.heap.size, off := 0 }), Value.agg #[Value.int IntKind.i64 y.p, Value.int IntKind.i64 y.s, Value.int IntKind.i64 y.i], Value.bool true, xv 0, xv 1, xv 2, xv 3, xv 4, xv 5, xv 6, xv 7, xv 8, xv 9, u43, u44, u45, undef], defers := [] }) [pF 0 (eqP (.pointer (some ⟨w.heap.size, 5, none⟩))), pF 1 (eqP (.slice (some ⟨g, 0, none⟩) x.el.length de)), pF 2 (eqP (.int .i64 k)), pF 3 (eqP (.pointer (some ⟨wr.heap.size, 8, none⟩))), pF 4 (eqP (.slice py y.gone.length cy)), pF 5 (eqP (.pointer (some ⟨w.heap.size + 1, 0, none⟩))), pF 6 (eqP (.agg #[.int .i64 q, .int .i64 u])), pF 7 (eqP (.int .i64 idx)), pF 8 (eqP (MV q u idx)), pF 9 (ownP w5.heap.size 50 3 (wth y.gone ⟨q, u, idx⟩).length (rows M.cells (wth y.gone ⟨q, u, idx⟩)))] _ rfl rfl (by kernel_rfl) (fun j => [u33, u34, u35, u36, u37, u38, u39, u40, u41, u42].getD j undef) rfl (Below.refl _ _).drew ⟨?_, ?_, ?_, ?_, ?_, ?_, ?_, ?_, ?_, ?_, ?_, ?_, ?_, trivial⟩ ?_
      ·exact fun _ => Facts.pureP hS hF (fun _ _ => rfl) rfl (fun xv wv hSw hd => by
        go_simp)
      ·exact fun _ => Facts.pureP hS hF (fun _ _ => rfl) rfl (fun xv wv hSw hd => by
        have d0 : xv 0 = _ := pF_get (hd ⟨0, .data⟩ (by simp) rfl _ rfl)
        have g1 : w5.cell? ⟨w.heap.size, 5, none⟩ = some (.slice (some ⟨g, 0, none⟩) x.el.length de) := R4.cell 5
        have g2 := cell_later hSw g1
        have g3 : w5.cell? ⟨wr.heap.size, 8, none⟩ = some (.slice py y.gone.length cy) := RB.cell 8
        have g4 := cell_later hSw g3
        have g5 := cell_later hSw (tx_p R1)
        have g6 := cell_later hSw (tx_s R1)
        simp only [d0]
        go_simp)
      ·exact fun _ => Facts.pureP hS hF (fun _ _ => rfl) rfl (fun xv wv hSw hd => by
        go_simp)
      ·exact fun _ => Facts.pureP hS hF (fun _ _ => rfl) rfl (fun xv wv hSw hd => by
        go_simp)
      ·exact fun _ => Facts.pureP hS hF (fun _ _ => rfl) rfl (fun xv wv hSw hd => by
        have d3 : xv 3 = _ := pF_get (hd ⟨3, .data⟩ (by simp) rfl _ rfl)
        have g1 : w5.cell? ⟨w.heap.size, 5, none⟩ = some (.slice (some ⟨g, 0, none⟩) x.el.length de) := R4.cell 5
        have g2 := cell_later hSw g1
        have g3 : w5.cell? ⟨wr.heap.size, 8, none⟩ = some (.slice py y.gone.length cy) := RB.cell 8
        have g4 := cell_later hSw g3
        have g5 := cell_later hSw (tx_p R1)
        have g6 := cell_later hSw (tx_s R1)
        simp only [d3]
        go_simp)
      ·exact fun _ => Facts.pureP hS hF (fun _ _ => rfl) rfl (fun xv wv hSw hd => by
        go_simp)
      ·exact fun _ => Facts.pureP hS hF (fun _ _ => rfl) rfl (fun xv wv hSw hd => by
        have d5 : xv 5 = _ := pF_get (hd ⟨5, .data⟩ (by simp) rfl _ rfl)
        have g1 : w5.cell? ⟨w.heap.size, 5, none⟩ = some (.slice (some ⟨g, 0, none⟩) x.el.length de) := R4.cell 5
        have g2 := cell_later hSw g1
        have g3 : w5.cell? ⟨wr.heap.size, 8, none⟩ = some (.slice py y.gone.length cy) := RB.cell 8
        have g4 := cell_later hSw g3
        have g5 := cell_later hSw (tx_p R1)
        have g6 := cell_later hSw (tx_s R1)
        simp only [d5]
        go_simp)
      ·exact fun _ => Facts.pureP hS hF (fun _ _ => rfl) rfl (fun xv wv hSw hd => by
        go_simp)
      ·exact fun _ => Facts.pureP hS hF (fun _ _ => rfl) rfl (fun xv wv hSw hd => by
        have d6 : xv 6 = _ := pF_get (hd ⟨6, .data⟩ (by simp) rfl _ rfl)
        have d7 : xv 7 = _ := pF_get (hd ⟨7, .data⟩ (by simp) rfl _ rfl)
        simp only [d6, d7]
        go_simp)
      ·refine fun _ => Facts.call2P hS hF (fun _ _ => rfl) rfl (by kernel_rfl) rfl (fun xv wv hSw hd => ?_)
       have d4 : xv 4 = _ := pF_get (hd ⟨4, .data⟩ (by simp) rfl _ rfl)
       have d8 : xv 8 = _ := pF_get (hd ⟨8, .data⟩ (by simp) rfl _ rfl)
       rw [show Act.eval _ _ = xv 4 from rfl, d4, show Act.eval _ _ = xv 8 from rfl, d8]
       refine (ww_any _ _ ⟨q, u, idx⟩ _ ((own_sh hyo).later hSw) hgk hup).mono ?_
       rintro e w' ⟨u9, he, ho, hb⟩
       exact ⟨u9, he, own_mono ho hSw.size, hb⟩
      ·exact fun h => absurd h (by decide)
      ·exact fun h => absurd h (by decide)
      ·exact fun h => absurd h (by decide)
      intro x9 w6 hb6 hf
      have e1 : x9 1 = _ := pF_get (hf 1 _ rfl)
      have e2 : x9 2 = _ := pF_get (hf 2 _ rfl)
      have e5 := pF_get (hf 9 _ rfl)
      replace e5 : w6.ownsRow w5.heap.size 50 3 (x9 9) (wth y.gone ⟨q, u, idx⟩).length (rows M.cells (wth y.gone ⟨q, u, idx⟩)) := e5
      clear hS hF hf
      obtain ⟨pz, cz, hz⟩ := own_sl e5
      rw [hz] at e5
      replace e5 := own_mono e5 hB2
      replace hoe := own_later hoe hb6
      replace hge := hge.later hb6
      replace ha := own_later ha hb6
      replace ht := own_later ht hb6
      replace hom := own_later hom hb6
      replace hob := hob.later hb6
      replace R4 := R4.later hb6
      replace R1 := R1.later hb6
      replace R3 := R3.later hb6
      replace hbs := below_on hbs hb6
      replace hB2 := Nat.le_trans hB2 hb6.size
      have hcg : w6.cell? ⟨g, k * 9 + 8, none⟩ = some (.slice py y.gone.length cy) := range_later (range_later d hb5) hb6 8 _ rfl
      have hfz := hoe.frozenAt (k * 9 + 8)
      have hkI : (0 : Int) ≤ (k : Int) := by omega
      refine tail_pure (v := .pointer (some ⟨g, k * 9, none⟩)) (by go_simp) ?_
      refine tail_pure (v := .pointer (some ⟨g, k * 9 + 8, none⟩)) (by go_simp) ?_
      refine tail_store 65 _ _ rfl _ _ rfl (show _ = Value.slice pz (wth y.gone ⟨q, u, idx⟩).length cz from hz) (store82 hcg hfz) ?_
      refine Facts.tailWp_nil ?_
      have htag1 := own_tag ha hoe (by decide) (g := g) rfl
      have htag2 := own_tag ht hoe (by decide) (g := g) rfl
      have htag3 := own_tag hom hoe (by decide) (g := g) rfl
      replace hob := hob.tag hoe (by decide) (g := g) rfl (k * 9 + 8) (.slice pz (wth y.gone ⟨q, u, idx⟩).length cz)
      replace R4 := R4.setOther (q := g) (by omega) (k * 9 + 8) (.slice pz (wth y.gone ⟨q, u, idx⟩).length cz)
      replace R1 := R1.setOther (q := g) (by omega) (k * 9 + 8) (.slice pz (wth y.gone ⟨q, u, idx⟩).length cz)
      replace R3 := R3.setOther (q := g) (by omega) (k * 9 + 8) (.slice pz (wth y.gone ⟨q, u, idx⟩).length cz)
      replace ha := own_over ha htag1 (k * 9 + 8) (.slice pz (wth y.gone ⟨q, u, idx⟩).length cz)
      replace ht := own_over ht htag2 (k * 9 + 8) (.slice pz (wth y.gone ⟨q, u, idx⟩).length cz)
      replace hom := own_over hom htag3 (k * 9 + 8) (.slice pz (wth y.gone ⟨q, u, idx⟩).length cz)
      have e6 := own_over e5 (own_tag e5 hoe (by decide) (g := g) rfl) (k * 9 + 8) (.slice pz (wth y.gone ⟨q, u, idx⟩).length cz)
      replace hge := hge.tag hoe (by decide) (g := g) rfl (k * 9 + 8) (.slice pz (wth y.gone ⟨q, u, idx⟩).length cz)
      replace hoe := (hoe.stored (k * 9 + 8) (.slice pz (wth y.gone ⟨q, u, idx⟩).length cz)).1
      replace hbs := hbs.setCell (p := ⟨g, k * 9 + 8, none⟩) (show w.heap.size ≤ g by omega) (.slice pz (wth y.gone ⟨q, u, idx⟩).length cz)
      replace hB2 : w.heap.size + 3 ≤ (w6.setCell ⟨g, k * 9 + 8, none⟩ (.slice pz (wth y.gone ⟨q, u, idx⟩).length cz)).heap.size := by rw [World.size_setCell]; exact hB2
      rw [← rows_set El.len es k 8 hke ({ y with gone := wth y.gone ⟨q, u, idx⟩ }, (.slice pz (wth y.gone ⟨q, u, idx⟩).length cz)) _ (by decide) (by rw [HX.out]; rfl)] at hoe
      generalize w6.setCell ⟨g, k * 9 + 8, none⟩ (.slice pz (wth y.gone ⟨q, u, idx⟩).length cz) = w7 at R4 R1 R3 ha ht hom hob hoe hge e6 hbs hB2 ⊢
      have hge2 : OwnG (w.heap.size + 3) w7 (es.set k ({ y with gone := wth y.gone ⟨q, u, idx⟩ }, (.slice pz (wth y.gone ⟨q, u, idx⟩).length cz))) := fun a ha => by
       rcases List.mem_or_eq_of_mem_set ha with h | h
       ·exact hge a h
       ·subst h
        exact e6
      have HES2 : Hid ((es.set k ({ y with gone := wth y.gone ⟨q, u, idx⟩ }, (.slice pz (wth y.gone ⟨q, u, idx⟩).length cz))).map (·.1) = (x.el.take (k + 1)).map (gE f ⟨q, u, idx⟩) ++ x.el.drop (k + 1)) := by
       show _ = _
       rw [List.map_set, HES.out, List.take_succ_eq_append_getElem hlt, List.map_append, List.map_cons, List.map_nil, HXK.out, show gE f ⟨q, u, idx⟩ y = { y with gone := wth y.gone ⟨q, u, idx⟩ } by unfold gE; rw [HB.out]; rfl, List.append_assoc, List.singleton_append, List.set_append_right _ _ (by simp; omega)]
       congr 1
       simp only [List.length_map, List.length_take, Nat.min_eq_left hk, Nat.sub_self]
       rw [List.drop_eq_getElem_cons hlt, List.set_cons_zero]
      clear hcg hfz hb6 e5 hge e6 HES HXK HB HX d hyo hup RB htag1 htag2 htag3
      go_wp2_with fail
      go_roundw
      case rel => exact ⟨k + 1, _, by simp, by omega, HES2, hoe, hge2, ha, ht, hom, hob, R4, R1, R3, hbs, hB2⟩
      case measure => simp [intOf]; omega
    ·have hlt' : ¬ (k : Int) < (x.el.length : Int) := by omega
     obtain rfl : k = x.el.length := by omega
     have hes : es.map (·.1) = x.el.map (gE f ⟨q, u, idx⟩) := by
      have := HES.out
      simpa using this
     have HF9 : Hid (Gives z w (.returned (CV x.k x.b (.slice qa x.am.length da) (.slice qw x.wr.length dw) (.slice qm x.mb.length dx) (.slice qe x.el.length de))) (wr.setRow (w.heap.size + 2) (cvc x.k x.b (.slice qa x.am.length da) (.slice qw x.wr.length dw) (.slice qm x.mb.length dx) (.slice qe x.el.length de)))) := by
      have e := HE.out.symm
      subst e
      refine ⟨_, _, _, _, rfl, ⟨own_sh (own_row ha (by omega) _), own_sh (own_row ht (by omega) _), ⟨ms, hms, own_sh (own_row hom (by omega) _), (hob.row (by omega) _).has⟩, ⟨es, hes, ?_, (hge.row (by omega) _).has⟩⟩, below_setRow hbs (by omega) _⟩
      show SHas 9 _ _ (x.el.map (gE f ⟨q, u, idx⟩)).length _
      rw [List.length_map]
      exact own_sh (own_row hoe (by omega) _)
     clear HE HES hes hoe hge ha ht hom hob
     go_wp2_with (first | refine load_r 27 _ rfl rfl _ rfl R4 Tryz.underlying27 rfl size27 ?_ | refine store_r rfl 27 _ _ rfl _ (cvc x.k x.b (.slice qa x.am.length da) (.slice qw x.wr.length dw) (.slice qm x.mb.length dx) (.slice qe x.el.length de)) rfl rfl R3 size27 rfl (by simp [Value.oneCell']) ?_)
     refine bodyPost_ret (results_r rfl rfl (R3.row (cvc x.k x.b (.slice qa x.am.length da) (.slice qw x.wr.length dw) (.slice qm x.mb.length dx) (.slice qe x.el.length de))) rfl Tryz.underlying27 size27) rfl ?_
     exact HF9.out
  ·have hi' : idx < 1 := by omega
   have e := HQ.out
   rw [show im idx = false from decide_eq_false hi, Bool.and_false, if_neg (by decide)] at e
   have e := e.symm
   subst e
   go_wp2_with (first | refine load_r 27 _ rfl rfl _ rfl R4 Tryz.underlying27 rfl size27 ?_ | refine store_r rfl 27 _ _ rfl _ (cvc x.k x.b (.slice qa x.am.length da) (.slice qw x.wr.length dw) (.slice qm x.mb.length dx) (.slice qe x.el.length de)) rfl rfl R3 size27 rfl (by simp [Value.oneCell']) ?_)
   refine bodyPost_ret (results_r rfl rfl (R3.row (cvc x.k x.b (.slice qa x.am.length da) (.slice qw x.wr.length dw) (.slice qm x.mb.length dx) (.slice qe x.el.length de))) rfl Tryz.underlying27 size27) rfl ?_
   exact ⟨_, _, _, _, rfl, (ho2.row (by omega) R3 (cvc x.k x.b (.slice qa x.am.length da) (.slice qw x.wr.length dw) (.slice qm x.mb.length dx) (.slice qe x.el.length de))).four, below_setRow hbs (by omega) _⟩
theorem range_offS {w : World} {g o b : Nat} {xs : List Value} (h : w.rangeAt g o xs) {s : ByteArray} (h0 : xs[0]? = some (.string s)) {t : TypeId} {k i : Int} {pa : Option Addr} {la ca : Nat} {pw : Option Addr} {lw cw : Nat} {pm : Option Addr} {lm cm : Nat} {pe : Option Addr} {le ce : Nat} (R : Rw w b t (cvc k i (.slice pa la ca) (.slice pw lw cw) (.slice pm lm cm) (.slice pe le ce))) : g ≠ b := by
 rintro rfl
 have h2 := h 0 _ h0
 rw [R.cell] at h2
 match o, h2 with
 | 0, h2 => cases h2
 | 1, h2 => cases h2
 | 2, h2 => cases h2
 | 3, h2 => cases h2
 | 4, h2 => cases h2
 | 5, h2 => cases h2
 | o + 6, h2 => simp at h2
theorem range_off3 {w : World} {g o b : Nat} {xs : List Value} (h : w.rangeAt g o xs) {r : Value} (h0 : xs[2]? = some r) (hr : ∀ p l c, r ≠ .slice p l c) {t : TypeId} {k i : Int} {pa : Option Addr} {la ca : Nat} {pw : Option Addr} {lw cw : Nat} {pm : Option Addr} {lm cm : Nat} {pe : Option Addr} {le ce : Nat} (R : Rw w b t (cvc k i (.slice pa la ca) (.slice pw lw cw) (.slice pm lm cm) (.slice pe le ce))) : g ≠ b := by
 rintro rfl
 have h2 := h 2 _ h0
 rw [R.cell] at h2
 match o, h2 with
 | 0, h2 => exact hr _ _ _ (Option.some.inj h2).symm
 | 1, h2 => exact hr _ _ _ (Option.some.inj h2).symm
 | 2, h2 => exact hr _ _ _ (Option.some.inj h2).symm
 | 3, h2 => exact hr _ _ _ (Option.some.inj h2).symm
 | o + 4, h2 => simp at h2
theorem BHas.row {w : World} {v : Value} {l : List Mb} (h : BHas w v l) {b : Nat} {t : TypeId} {k i : Int} {pa : Option Addr} {la ca : Nat} {pw : Option Addr} {lw cw : Nat} {pm : Option Addr} {lm cm : Nat} {pe : Option Addr} {le ce : Nat} (R : Rw w b t (cvc k i (.slice pa la ca) (.slice pw lw cw) (.slice pm lm cm) (.slice pe le ce))) (cs : Array Value) : BHas (w.setRow b cs) v l := by
 obtain ⟨ys, h1, h2, h3⟩ := h
 refine ⟨ys, h1, ?_, fun y hy => (h3 y hy).row (M.flat _) (by decide) R cs⟩
 obtain ⟨hm, hl, ⟨rfl, h0⟩ | ⟨ad, cc, rfl, hc', hd⟩⟩ := h2
 ·exact ⟨hm, hl, .inl ⟨rfl, h0⟩⟩
 ·refine ⟨hm, hl, .inr ⟨ad, cc, rfl, hc', fun h => ?_⟩⟩
  obtain ⟨g, o, rfl, hd2⟩ := hd h
  refine ⟨g, o, rfl, range_row hd2 ?_ cs⟩
  have hy : 0 < ys.length := by rw [← h1, List.length_map] at h; exact h
  exact range_offS hd2 (s := ys[0].1.x) (rows_at Mb.len ys 0 hy 0 _ rfl) R
theorem EHas.row {w : World} {v : Value} {l : List El} (h : EHas w v l) {b : Nat} {t : TypeId} {k i : Int} {pa : Option Addr} {la ca : Nat} {pw : Option Addr} {lw cw : Nat} {pm : Option Addr} {lm cm : Nat} {pe : Option Addr} {le ce : Nat} (R : Rw w b t (cvc k i (.slice pa la ca) (.slice pw lw cw) (.slice pm lm cm) (.slice pe le ce))) (cs : Array Value) : EHas (w.setRow b cs) v l := by
 obtain ⟨ys, h1, h2, h3⟩ := h
 refine ⟨ys, h1, ?_, fun y hy => (h3 y hy).row (M.flat _) (by decide) R cs⟩
 obtain ⟨hm, hl, ⟨rfl, h0⟩ | ⟨ad, cc, rfl, hc', hd⟩⟩ := h2
 ·exact ⟨hm, hl, .inl ⟨rfl, h0⟩⟩
 ·refine ⟨hm, hl, .inr ⟨ad, cc, rfl, hc', fun h => ?_⟩⟩
  obtain ⟨g, o, rfl, hd2⟩ := hd h
  refine ⟨g, o, rfl, range_row hd2 ?_ cs⟩
  have hy : 0 < ys.length := by rw [← h1, List.length_map] at h; exact h
  have h4 := rows_at El.len ys 0 hy 2 (.int .i64 ys[0].1.i) rfl
  rw [Nat.zero_mul, Nat.zero_add] at h4
  exact range_off3 hd2 h4 (fun _ _ _ e => by cases e) R
theorem Four.row {w : World} {x : X} {va vw vm ve : Value} (h : Four w x va vw vm ve) {b : Nat} {t : TypeId} {k i : Int} {pa : Option Addr} {la ca : Nat} {pw : Option Addr} {lw cw : Nat} {pm : Option Addr} {lm cm : Nat} {pe : Option Addr} {le ce : Nat} (R : Rw w b t (cvc k i (.slice pa la ca) (.slice pw lw cw) (.slice pm lm cm) (.slice pe le ce))) (cs : Array Value) : Four (w.setRow b cs) x va vw vm ve :=
 ⟨h.a.row (A.flat _) (by decide) R cs, h.t.row (Wt.flat _) (by decide) R cs, h.m.row R cs, h.e.row R cs⟩
theorem del_any (x : X) (va vw vm ve : Value) (q u : Int) (v : List Int) (t : Int) (sl : Value) (idx : Int) (r : M) (w : World) (hv : v.length = 13) (h : Four w x va vw vm ve) (hs : Sm x) :
  Calls Tryz.prog 43 #[CV x.k x.b va vw vm ve, TxV q u v t sl, .int .i64 idx, MV r.p r.s r.i] w (Gives (goX x ⟨q, u, idx⟩ (fun y => decide (kM y = kM r))) w) := by
 obtain ⟨pa, ca', pw, cw, pm, cm, pe, ce', rfl, rfl, rfl, rfl⟩ := h.slices
 have HF : Hid (Four w x (.slice pa x.am.length ca') (.slice pw x.wr.length cw) (.slice pm x.mb.length cm) (.slice pe x.el.length ce')) := h
 clear h
 have R0 := ((((rw_new w 27 (cx x pa ca' pw cw pm cm pe ce')).alloc (.cells (txc q u v t sl).toArray 34)).alloc (.cells #[.int .i64 r.p, .int .i64 r.s, .int .i64 r.i] 50)).alloc (.cells z4 27))
 have R1 := (((rw_new (w.alloc (.cells (cx x pa ca' pw cw pm cm pe ce') 27)) 34 (txc q u v t sl).toArray).alloc (.cells #[.int .i64 r.p, .int .i64 r.s, .int .i64 r.i] 50)).alloc (.cells z4 27))
 have R2 := ((rw_new ((w.alloc (.cells (cx x pa ca' pw cw pm cm pe ce') 27)).alloc (.cells (txc q u v t sl).toArray 34)) 50 #[.int .i64 r.p, .int .i64 r.s, .int .i64 r.i]).alloc (.cells z4 27))
 have R3 := (rw_new (((w.alloc (.cells (cx x pa ca' pw cw pm cm pe ce') 27)).alloc (.cells (txc q u v t sl).toArray 34)).alloc (.cells #[.int .i64 r.p, .int .i64 r.s, .int .i64 r.i] 50)) 27 z4)
 have hbel := (bel_alloc (bel_alloc (bel_alloc (bel_alloc (Below.refl w.heap.size w) (.cells (cx x pa ca' pw cw pm cm pe ce') 27)) (.cells (txc q u v t sl).toArray 34)) (.cells #[.int .i64 r.p, .int .i64 r.s, .int .i64 r.i] 50)) (.cells z4 27))
 generalize hW : ((((w.alloc (.cells (cx x pa ca' pw cw pm cm pe ce') 27)).alloc (.cells (txc q u v t sl).toArray 34)).alloc (.cells #[.int .i64 r.p, .int .i64 r.s, .int .i64 r.i] 50)).alloc (.cells z4 27)) = w0 at R0 R1 R2 R3 hbel
 simp only [World.size_alloc] at R0 R1 R2 R3
 have zt := size_tx (p := q) (s := u) (t := t) (sl := sl) hv
 have C1 := withoutD_any x _ _ _ _ q u v t sl idx (fun y => decide (kM y = kM r)) (w.heap.size + 1 + 1) w0 hv (HF.out.later hbel) hs (fun y w' hb => del1_any y r _ w' (R2.later hb))
 obtain ⟨z, HZ⟩ := hid_ex (goX x ⟨q, u, idx⟩ (fun y => decide (kM y = kM r)))
 rw [HZ.out] at C1 ⊢
 go_enter Tryz.func43, Tryz.ntmps43
 go_wp2_with (first | rw [hW] | refine load_r 27 _ rfl rfl _ rfl R0 Tryz.underlying27 rfl size27 ?_ | refine load_r 34 _ rfl rfl _ rfl R1 Tryz.underlying34 rfl zt ?_)
 clear hW
 refine C1.mono ?_
 clear C1
 rintro e w1 ⟨ua, uw, um, ue, rfl, hf, hb1⟩
 obtain ⟨qa, da, qw, dw, qm, dx, qe, de, rfl, rfl, rfl, rfl⟩ := hf.slices
 replace R3 := R3.later hb1
 replace hbel := below_on hbel hb1
 have HG : Hid (Gives z w (.returned (CV z.k z.b (.slice qa z.am.length da) (.slice qw z.wr.length dw) (.slice qm z.mb.length dx) (.slice qe z.el.length de))) (w1.setRow (w.heap.size + 1 + 1 + 1) (cx z qa da qw dw qm dx qe de))) := ⟨_, _, _, _, rfl, hf.row R3 _, below_setRow hbel (by omega) _⟩
 clear hf hb1 HZ
 go_wp2_with (first | refine store_r rfl 27 _ _ rfl _ (cx z qa da qw dw qm dx qe de) rfl rfl R3 size27 rfl (by simp [Value.oneCell']) ?_)
 refine bodyPost_ret (results_r rfl rfl (R3.row (cx z qa da qw dw qm dx qe de)) rfl Tryz.underlying27 size27) rfl ?_
 exact HG.out
theorem clear_any (x : X) (va vw vm ve : Value) (q u : Int) (v : List Int) (t : Int) (sl : Value) (idx : Int) (w : World) (hv : v.length = 13) (h : Four w x va vw vm ve) (hs : Sm x) :
  Calls Tryz.prog 234 #[CV x.k x.b va vw vm ve, TxV q u v t sl, .int .i64 idx] w (Gives (goX x ⟨q, u, idx⟩ (bfP q u v idx)) w) := by
 obtain ⟨pa, ca', pw, cw, pm, cm, pe, ce', rfl, rfl, rfl, rfl⟩ := h.slices
 have HF : Hid (Four w x (.slice pa x.am.length ca') (.slice pw x.wr.length cw) (.slice pm x.mb.length cm) (.slice pe x.el.length ce')) := h
 clear h
 have R0 := ((((rw_new w 27 (cx x pa ca' pw cw pm cm pe ce')).alloc (.cells (txc q u v t sl).toArray 34)).alloc (.cells #[.int .i64 idx] 3)).alloc (.cells z4 27))
 have R1 := (((rw_new (w.alloc (.cells (cx x pa ca' pw cw pm cm pe ce') 27)) 34 (txc q u v t sl).toArray).alloc (.cells #[.int .i64 idx] 3)).alloc (.cells z4 27))
 have R2 := ((rw_new ((w.alloc (.cells (cx x pa ca' pw cw pm cm pe ce') 27)).alloc (.cells (txc q u v t sl).toArray 34)) 3 #[.int .i64 idx]).alloc (.cells z4 27))
 have R3 := (rw_new (((w.alloc (.cells (cx x pa ca' pw cw pm cm pe ce') 27)).alloc (.cells (txc q u v t sl).toArray 34)).alloc (.cells #[.int .i64 idx] 3)) 27 z4)
 have hbel := (bel_alloc (bel_alloc (bel_alloc (bel_alloc (Below.refl w.heap.size w) (.cells (cx x pa ca' pw cw pm cm pe ce') 27)) (.cells (txc q u v t sl).toArray 34)) (.cells #[.int .i64 idx] 3)) (.cells z4 27))
 generalize hW : ((((w.alloc (.cells (cx x pa ca' pw cw pm cm pe ce') 27)).alloc (.cells (txc q u v t sl).toArray 34)).alloc (.cells #[.int .i64 idx] 3)).alloc (.cells z4 27)) = w0 at R0 R1 R2 R3 hbel
 simp only [World.size_alloc] at R0 R1 R2 R3
 have zt := size_tx (p := q) (s := u) (t := t) (sl := sl) hv
 have c2 : w0.cell? ⟨w.heap.size + 1 + 1, 0, none⟩ = some (.int .i64 idx) := R2.cell 0
 have C1 := withoutC_any x _ _ _ _ q u v t sl idx (bfP q u v idx) (w.heap.size + 1) (w.heap.size + 1 + 1) w0 hv (HF.out.later hbel) hs (fun y w' hb => clear1_any y _ _ q u v t sl idx w' hv ⟨R1.later hb, R2.later hb⟩)
 obtain ⟨z, HZ⟩ := hid_ex (goX x ⟨q, u, idx⟩ (bfP q u v idx))
 rw [HZ.out] at C1 ⊢
 go_enter Tryz.func234, Tryz.ntmps234
 go_wp2_with (first | rw [hW] | refine load_r 27 _ rfl rfl _ rfl R0 Tryz.underlying27 rfl size27 ?_ | refine load_r 34 _ rfl rfl _ rfl R1 Tryz.underlying34 rfl zt ?_)
 clear hW
 refine C1.mono ?_
 clear C1
 rintro e w1 ⟨ua, uw, um, ue, rfl, hf, hb1⟩
 obtain ⟨qa, da, qw, dw, qm, dx, qe, de, rfl, rfl, rfl, rfl⟩ := hf.slices
 replace R3 := R3.later hb1
 replace hbel := below_on hbel hb1
 have HG : Hid (Gives z w (.returned (CV z.k z.b (.slice qa z.am.length da) (.slice qw z.wr.length dw) (.slice qm z.mb.length dx) (.slice qe z.el.length de))) (w1.setRow (w.heap.size + 1 + 1 + 1) (cx z qa da qw dw qm dx qe de))) := ⟨_, _, _, _, rfl, hf.row R3 _, below_setRow hbel (by omega) _⟩
 clear hf hb1 HZ
 go_wp2_with (first | refine store_r rfl 27 _ _ rfl _ (cx z qa da qw dw qm dx qe de) rfl rfl R3 size27 rfl (by simp [Value.oneCell']) ?_)
 refine bodyPost_ret (results_r rfl rfl (R3.row (cx z qa da qw dw qm dx qe de)) rfl Tryz.underlying27 size27) rfl ?_
 exact HG.out
end Go.Proofs.YtjbbmcommnhgeaaGreat
