import Derived.Test.YtjbbmcommnhgeaaGreatPc16
import Derived.Maps.OwnSet
import Derived.Maps.AppendAt
import Derived.Deep.RegionWith
import Derived.BigRegion
set_option maxRecDepth 100000
set_option maxHeartbeats 8000000
namespace Go.Proofs.YtjbbmcommnhgeaaGreat.Rg
open Go.RowKit Go.Sort Go.Maps Go.WideMaps
def TtPost (l : List Bs) (w : World) (e : Ending) (w' : World) : Prop := ∃ u, e = .returned u ∧ THas w' u l ∧ Below w.heap.size w w'
theorem law9 : Keyed Tryz.prog 9 := string_keyed Tryz.underlying9
def setT (l : List Bs) : DataW Unit := setOf (.agg []) (l.map Lit.string)
theorem setT_snoc (l : List Bs) (s : Bs) : setT (l ++ [s]) = (setT l).put (.string s) (.agg []) := by
 unfold setT
 rw [List.map_append, List.map_cons, List.map_nil, setOf_snoc]
theorem setT_has (l : List Bs) (x : Bs) : Maps.has (setT l) (.string x) = true ↔ x ∈ l := by
 unfold setT
 rw [has_setOf _ _ _ (fun y hy => by
  obtain ⟨z, _, rfl⟩ := List.mem_map.1 hy
  trivial), List.any_eq_true]
 constructor
 ·rintro ⟨y, hy, h⟩
  obtain ⟨z, hz, rfl⟩ := List.mem_map.1 hy
  have e : z = x := by simpa [Lit.sameKey] using h
  rw [← e]
  exact hz
 ·intro h
  exact ⟨.string x, List.mem_map_of_mem h, by simp [Lit.sameKey]⟩
theorem keys_sorted {w : World} {R : Value → Option (DataW Unit × List MemPlace)} {b n : Nat} {l ss : List Bs} (hown : w.ownsMap Tryz.prog 9 R b n (setT l)) (hp : ss.Perm (strKeys (setT l))) : ss.mergeSort (fun x y => decide (x ≤ y)) = txs l := by
 have hc : Collected (setT l) (fun _ => false) (txs l) := ⟨up_nodup (txs_up l), fun x => by rw [txs_mem, setT_has]; simp⟩
 have h2 := hc.perm hown law9 Tryz.underlying9 (fun _ => rfl)
 rw [mergeSort_of_perm (hp.trans h2.symm), sorted_txs (up_nodup (txs_up l)) (fun x => txs_mem l x)]
abbrev wtx (l : List Wt) : List Bs := l.map (fun y => bs y.x)
theorem texts_any (v : Value) (l : List Wt) (w : World) (h : WHas w v l) (hl : l.length ≤ 100) (hx : ∀ y ∈ l, y.x.size ≤ 64) : Calls Tryz.prog 218 #[v] w (TtPost (txs (wtx l)) w) := by
 obtain ⟨p, c, rfl⟩ := h.slice
 have HA : Hid (WHas w (.slice p l.length c) l) := h
 have HX : Hid (∀ y ∈ l, y.x.size ≤ 64) := hx
 clear h hx
 have hmm := @run_makeMap Tryz.prog
 go_enter Tryz.func218, Tryz.ntmps218
 go_wp2
 go_loopw [9] (fun vi wr => ∃ k : Nat, vi = .int .i64 k ∧ k ≤ l.length ∧ wr.ownsMap Tryz.prog 9 (unitElem (H := Unit)) w.heap.size k (setT (wtx (l.take k))) ∧ Below w.heap.size w wr) (fun vi _ => l.length - (intOf vi).toNat)
 case atStart => exact ⟨0, rfl, by omega, World.ownsMap_made _ _ _ _, bel_alloc (Below.refl _ _) _⟩
 case round =>
  obtain ⟨k, rfl, hk, hown, hbel⟩ := hrel
  by_cases hlt : k < l.length
  ·have hlt' : (k : Int) < (l.length : Int) := by omega
   obtain ⟨g, o, rfl, hd0⟩ := HA.out.at (by omega)
   have d := Wt.elem (range_later hd0 hbel) k hlt
   have hx := HX.out l[k] (List.getElem_mem _)
   clear hd0 HA HX
   obtain ⟨x, HXX⟩ := hid_ex l[k]
   rw [HXX.out] at d hx
   have HS : Hid (setT (wtx (l.take (k + 1))) = (setT (wtx (l.take k))).put (.string x.x.data.toList) (.agg [])) := by
    show _ = _
    unfold wtx
    rw [List.take_succ_eq_append_getElem hlt, List.map_append, List.map_cons, List.map_nil, setT_snoc, HXX.out]
   have z42 : (Tryz.prog.info? 64).map (·.size) = some x.cells.length := size64
   have hkey : keyOf Tryz.prog 9 (.string x.x) = some (.string x.x.data.toList) := keyOf_string_mk Tryz.underlying9 (by unfold maxLen; omega)
   have R5 := rw_new wr 64 #[.int .i64 x.p, .int .i64 x.s, .int .i64 x.i, .int .i64 x.t, .string x.x]
   have hbA := bel_alloc (Below.refl wr.heap.size wr) (.cells #[.int .i64 x.p, .int .i64 x.s, .int .i64 x.i, .int .i64 x.t, .string x.x] 64)
   replace hown := hown.alloc (.cells #[.int .i64 x.p, .int .i64 x.s, .int .i64 x.i, .int .i64 x.t, .string x.x] 64)
   replace hbel := below_on hbel hbA
   generalize setT (wtx (l.take k)) = D at hown HS
   generalize hW : wr.alloc (.cells #[.int .i64 x.p, .int .i64 x.s, .int .i64 x.i, .int .i64 x.t, .string x.x] 64) = w1 at R5 hown hbel
   have cx : w1.cell? ⟨wr.heap.size, 4, none⟩ = some (.string x.x) := R5.cell 4
   clear hbA HXX
   go_wp2_with (first
    | rw [hW]
    | refine load_m 64 _ rfl rfl _ _ rfl d Tryz.underlying64 rfl z42 ?_
    | (at_mapUpdate; refine wpList_mapUpdate_own _ rfl _ _ _ 218 rfl 9 219 law9 Tryz.underlying218 (unitElem (H := Unit)) w.heap.size k _ rfl hown (by unfold maxLen; omega) _ _ _ rfl rfl hkey _ [] unitElem_mk ?_; intro w2 hown2 hgrow2))
   go_roundw
   case rel => exact ⟨k + 1, by simp, by omega, by rw [HS.out]; exact hown2, hbel.grown hgrow2 hbel.size (fun j hj => by cases hj; exact Nat.le_refl _)⟩
   case measure => simp [intOf]; omega
  ·have hlt' : ¬ (k : Int) < (l.length : Int) := by omega
   obtain rfl : k = l.length := by omega
   rw [List.take_length] at hown
   have hsz := hown.size_le
   have CK := callsIn_wide.1 (maps_Keys_40 (some w.heap.size) wr)
   have CS := callsIn_wide.1 (slices_Sorted_keys_39_40 (H := Unit) w.heap.size l.length _ unitElem wr hown (by unfold maxLen; omega) (by omega))
   clear HA HX hmm
   go_wp2_with fail
   refine CK.mono ?_
   rintro e w1 ⟨rfl, rfl⟩
   go_wp2_with fail
   refine CS.mono ?_
   rintro e w2 ⟨u, ss, rfl, hS, hrow, hnil, hb2⟩
   have hs := keys_sorted hown hS
   rw [hs] at hrow
   have hlen : ss.length = (txs (wtx l)).length := by rw [← hs, List.length_mergeSort]
   rw [hlen] at hrow
   obtain ⟨qa, da, rfl⟩ := own_sl hrow
   go_wp2_with fail
   go_ret
   exact ⟨_, rfl, own_sh hrow, below_on hbel (below_on (bel_alloc (Below.refl _ _) _) hb2)⟩
end Go.Proofs.YtjbbmcommnhgeaaGreat.Rg
namespace Go.Proofs.YtjbbmcommnhgeaaGreat.Rg
open Go.RowKit
def rdK (x : X) : Int := if ck x = true then x.k else 0
def rdW (x : X) : List Wt := if x.k = 2 then lastW x.wr else x.wr
def rdT (x : X) : List Bs := if ck x = true then txs (wtx (rdW x)) else []
def RdPost (x : X) (w : World) (e : Ending) (w' : World) : Prop := ∃ u, e = .returned (VV (rdK x) u) ∧ THas w' u (rdT x) ∧ Below w.heap.size w w'
def thP (l : List Bs) : Value → World → Prop := fun u w => THas w u l
theorem thP_keeps (l : List Bs) : Keeps (thP l) := fun _ _ _ h hb => h.later hb
theorem ck_text {x : X} (h : ck x = true) : ∀ y ∈ x.wr, y.x.size ≤ 64 := fun y hy => by
 have := ((ca_pair x.wr).1 (ck_parts h).2.2.2.2.2).1 y hy
 simp only [iw, Bool.and_eq_true, decide_eq_true_eq] at this
 exact this.2
theorem read_any (x : X) (va vw vm ve : Value) (w : World) (h : Four w x va vw vm ve) (hs : Sm x) : Calls Tryz.prog 216 #[CV x.k x.b va vw vm ve] w (RdPost x w) := by
 obtain ⟨pa, ca', pw, cw, pm, cm, pe, ce, rfl, rfl, rfl, rfl⟩ := h.slices
 have HF : Hid (Four w x (.slice pa x.am.length ca') (.slice pw x.wr.length cw) (.slice pm x.mb.length cm) (.slice pe x.el.length ce)) := h
 clear h
 obtain ⟨R0, R1, hbel⟩ := two_rows w (cvc x.k x.b (.slice pa x.am.length ca') (.slice pw x.wr.length cw) (.slice pm x.mb.length cm) (.slice pe x.el.length ce)) 27 #[.int .i64 0, .int .i64 0, .slice none 0 0, .slice none 0 0] 46
 have hsz : ((w.alloc (.cells (cvc x.k x.b (.slice pa x.am.length ca') (.slice pw x.wr.length cw) (.slice pm x.mb.length cm) (.slice pe x.el.length ce)) 27)).alloc (.cells #[.int .i64 0, .int .i64 0, .slice none 0 0, .slice none 0 0] 46)).heap.size = w.heap.size + 2 := by simp
 generalize hW : (w.alloc (.cells (cvc x.k x.b (.slice pa x.am.length ca') (.slice pw x.wr.length cw) (.slice pm x.mb.length cm) (.slice pe x.el.length ce)) 27)).alloc (.cells #[.int .i64 0, .int .i64 0, .slice none 0 0, .slice none 0 0] 46) = w0 at R0 R1 hbel hsz
 go_enter Tryz.func216, Tryz.ntmps216
 go_wp2_with (first | rw [hW] | refine load_r 27 _ rfl rfl _ rfl R0 Tryz.underlying27 rfl size27 ?_)
 clear hW
 refine (check_any x _ _ _ _ w0 (HF.out.later hbel) hs).mono ?_
 rintro e w1 ⟨rfl, hb1⟩
 replace R0 := R0.later hb1
 replace R1 := R1.later hb1
 replace hbel := below_on hbel hb1
 have hB : w.heap.size + 2 ≤ w1.heap.size := by have := hb1.size; omega
 clear hb1 hsz
 obtain ⟨y1, HY1⟩ := hid_ex (ck x)
 rw [HY1.out]
 cases y1
 ·go_wp2_with (first | refine store_r rfl 46 _ _ rfl _ #[.int .i64 0, .int .i64 0, .slice none 0 0, .slice none 0 0] rfl rfl R1 size46 rfl (by simp [Value.oneCell']) ?_)
  refine bodyPost_ret (v := VV 0 (.slice none 0 0)) (results_r rfl rfl (R1.row #[.int .i64 0, .int .i64 0, .slice none 0 0, .slice none 0 0]) rfl Tryz.underlying46 size46) rfl ?_
  refine ⟨.slice none 0 0, ?_, ?_, below_setRow hbel (by omega) _⟩
  ·unfold rdK
   rw [HY1.out]
   rfl
  ·unfold rdT
   rw [HY1.out]
   exact THas.nil _
 ·have R3 := rw_new w1 46 #[.int .i64 0, .int .i64 0, .slice none 0 0, .slice none 0 0]
  have hbA := bel_alloc (Below.refl w1.heap.size w1) (.cells #[.int .i64 0, .int .i64 0, .slice none 0 0, .slice none 0 0] 46)
  replace R0 := R0.later hbA
  replace R1 := R1.later hbA
  replace hbel := below_on hbel hbA
  generalize hW : w1.alloc (.cells #[.int .i64 0, .int .i64 0, .slice none 0 0, .slice none 0 0] 46) = w2 at R0 R1 R3 hbel
  have c0 : w2.cell? ⟨w.heap.size, 0, none⟩ = some (.int .i64 x.k) := R0.cell 0
  have c3 : w2.cell? ⟨w.heap.size, 3, none⟩ = some (.slice pw x.wr.length cw) := R0.cell 3
  have hxt := ck_text HY1.out
  have HP : Hid (∀ (u : Value) (w' : World), THas w' u (txs (wtx (rdW x))) → Below w.heap.size w w' → RdPost x w (.returned (VV x.k u)) w') := fun u w' h1 h2 => by
   refine ⟨u, ?_, ?_, h2⟩
   ·unfold rdK
    rw [HY1.out]
    rfl
   ·unfold rdT
    rw [HY1.out]
    exact h1
  have hk := (ck_parts HY1.out).1
  have hst := hs.t
  clear hbA HY1 hs
  by_cases hk2 : x.k = 2
  ·have HC : Hid (∀ w', Below w2.heap.size w2 w' → Calls Tryz.prog 217 #[.slice pw x.wr.length cw] w' (LaPost (lastW x.wr) w')) := fun w' hb => last_any _ _ _ ((HF.out.t.later hbel).later hb) hst
   have HE : Hid (rdW x = lastW x.wr) := if_pos hk2
   have hlt1 : (lastW x.wr).length ≤ 100 := Nat.le_trans (lastW_length _) (by decide)
   have hlx : ∀ y ∈ lastW x.wr, y.x.size ≤ 64 := fun y hy => hxt y (lastW_mem hy)
   clear hxt
   go_wp2_with (first | rw [hW])
   clear hW
   refine (HC.out _ (Below.refl _ _)).mono ?_
   rintro e w3 ⟨u, rfl, hu, hb1⟩
   obtain ⟨pu, cu, rfl⟩ := hu.slice
   replace R0 := R0.later hb1
   replace R1 := R1.later hb1
   replace R3 := R3.later hb1
   replace hbel := below_on hbel hb1
   clear hb1 c0 c3 HC
   generalize lastW x.wr = m at *
   go_wp2_with fail
   have hS : Calm.Stays (fun w' => Below w3.heap.size w3 w') := fun wa wb h hb => below_on h hb
   have hF : Facts.Stay [pF 0 (eqP (.pointer (some ⟨w.heap.size, 0, none⟩))), pF 1 (eqP (.int .i64 x.k)), pF 2 (eqP (.slice pu m.length cu)), pF 3 (thP (txs (wtx m)))] := stay_of (by simp only [List.forall_mem_cons]; exact ⟨⟨_, _, rfl, eqP_keeps _⟩, ⟨_, _, rfl, eqP_keeps _⟩, ⟨_, _, rfl, eqP_keeps _⟩, ⟨_, _, rfl, thP_keeps _⟩, fun _ h => by cases h⟩)
   refine Facts.regionTail (by kernel_rfl) (by kernel_rfl) 4 (by decide) (by kernel_rfl) (fun w' => Below w3.heap.size w3 w') (fun xv => { tmps := #[CV 2 x.b (Value.slice pa x.am.length ca') (Value.slice pw x.wr.length cw) (Value.slice pm x.mb.length cm) (Value.slice pe x.el.length ce), Value.pointer (some { block := w.heap.size, off := 0 }), Value.pointer (some { block := w.heap.size + 1, off := 0 }), Value.pointer (some { block := w1.heap.size, off := 0 }), Value.slice pu m.length cu, Value.agg (cvc 2 x.b (Value.slice pa x.am.length ca') (Value.slice pw x.wr.length cw) (Value.slice pm x.mb.length cm) (Value.slice pe x.el.length ce)), Value.bool true, Value.bool false, undef, Value.pointer (some { block := w.heap.size, off := 3 }), Value.slice pw x.wr.length cw, Value.pointer (some { block := w.heap.size, off := 0 }), Value.int IntKind.i64 2, Value.bool true, Value.bool true, undef, undef, Value.slice pw x.wr.length cw, Value.slice pu m.length cu, xv 0, xv 1, xv 2, xv 3, undef, undef], defers := [] }) [pF 0 (eqP (.pointer (some ⟨w.heap.size, 0, none⟩))), pF 1 (eqP (.int .i64 x.k)), pF 2 (eqP (.slice pu m.length cu)), pF 3 (thP (txs (wtx m)))] _ rfl rfl (by kernel_rfl) (fun j => [undef, undef, undef, undef].getD j undef) rfl (Below.refl _ w3).drew ⟨?_, ?_, ?_, ?_, ?_, ?_, trivial⟩ ?_
   ·exact fun _ => Facts.pureP hS hF (fun _ _ => rfl) rfl (fun xv wv hSw hd => by
     go_simp)
   ·exact fun _ => Facts.pureP hS hF (fun _ _ => rfl) rfl (fun xv wv hSw hd => by
     have d0 : xv 0 = _ := pF_get (hd ⟨0, .data⟩ (by simp) rfl _ rfl)
     have g1 : w3.cell? ⟨w.heap.size, 0, none⟩ = some (.int .i64 x.k) := R0.cell 0
     have g2 := cell_later hSw g1
     simp only [d0]
     go_simp)
   ·exact fun _ => Facts.pureP hS hF (fun _ _ => rfl) rfl (fun xv wv hSw hd => by
     go_simp)
   ·refine fun _ => Facts.call1P hS hF (fun _ _ => rfl) rfl (by kernel_rfl) rfl (fun xv wv hSw hd => ?_)
    have d2 : xv 2 = _ := pF_get (hd ⟨2, .data⟩ (by simp) rfl _ rfl)
    rw [show Act.eval _ _ = xv 2 from rfl, d2]
    refine (texts_any _ _ _ (hu.later hSw) hlt1 hlx).mono ?_
    rintro e w' ⟨u, he, ho, hb⟩
    exact ⟨u, he, ho, hb⟩
   ·exact fun h => absurd h (by decide)
   ·exact fun h => absurd h (by decide)
   intro x9 w5 hb5 hf
   have e1 : x9 1 = _ := pF_get (hf 1 _ rfl)
   have e3 := pF_get (hf 3 _ rfl)
   replace e3 : THas w5 (x9 3) (txs (wtx m)) := e3
   clear hS hF hf
   obtain ⟨pz, cz, hz⟩ := e3.slice
   rw [hz] at e3
   replace R1 := R1.later hb5
   replace R3 := R3.later hb5
   replace hbel := below_on hbel hb5
   clear hb5
   refine tail_pure (v := VV x.k (.slice pz (txs (wtx m)).length cz)) (by simp only [e1, hz]; go_simp) ?_
   refine tail_store 46 _ _ rfl _ _ rfl rfl (R3.store #[.int .i64 x.k, .int .i64 0, .slice pz (txs (wtx m)).length cz, .slice none 0 0] size46 rfl (by simp [Value.oneCell'])) ?_
   refine Facts.tailWp_nil ?_
   have R3' := R3.row #[.int .i64 x.k, .int .i64 0, .slice pz (txs (wtx m)).length cz, .slice none 0 0]
   replace R1 := R1.rowOther (q := w1.heap.size) (by omega) #[.int .i64 x.k, .int .i64 0, .slice pz (txs (wtx m)).length cz, .slice none 0 0]
   replace hbel := below_setRow hbel (g := w1.heap.size) (by omega) #[.int .i64 x.k, .int .i64 0, .slice pz (txs (wtx m)).length cz, .slice none 0 0]
   replace e3 := THas.rowV e3 R3 #[.int .i64 x.k, .int .i64 0, .slice pz (txs (wtx m)).length cz, .slice none 0 0]
   generalize w5.setRow w1.heap.size #[.int .i64 x.k, .int .i64 0, .slice pz (txs (wtx m)).length cz, .slice none 0 0] = w6 at R3' R1 hbel e3 ⊢
   clear R3
   go_wp2_with (first | refine load_r 46 _ rfl rfl _ rfl R3' Tryz.underlying46 rfl size46 ?_ | refine store_r rfl 46 _ _ rfl _ #[.int .i64 x.k, .int .i64 0, .slice pz (txs (wtx m)).length cz, .slice none 0 0] rfl rfl R1 size46 rfl (by simp [Value.oneCell']) ?_)
   refine bodyPost_ret (results_r rfl rfl (R1.row _) rfl Tryz.underlying46 size46) rfl ?_
   refine HP.out _ _ ?_ (below_setRow hbel (by omega) _)
   rw [HE.out]
   exact THas.rowV e3 R1 _
  ·have hk3 : x.k = 3 := by omega
   have HE : Hid (rdW x = x.wr) := if_neg hk2
   have hu := HF.out.t.later hbel
   have hlt1 := hst
   have hlx := hxt
   clear hxt
   go_wp2_with (first | rw [hW])
   clear hW
   have hS : Calm.Stays (fun w' => Below w2.heap.size w2 w') := fun wa wb h hb => below_on h hb
   have hF : Facts.Stay [pF 0 (eqP (.pointer (some ⟨w.heap.size, 0, none⟩))), pF 1 (eqP (.int .i64 x.k)), pF 2 (eqP (.slice pw x.wr.length cw)), pF 3 (thP (txs (wtx x.wr)))] := stay_of (by simp only [List.forall_mem_cons]; exact ⟨⟨_, _, rfl, eqP_keeps _⟩, ⟨_, _, rfl, eqP_keeps _⟩, ⟨_, _, rfl, eqP_keeps _⟩, ⟨_, _, rfl, thP_keeps _⟩, fun _ h => by cases h⟩)
   refine Facts.regionTail (by kernel_rfl) (by kernel_rfl) 4 (by decide) (by kernel_rfl) (fun w' => Below w2.heap.size w2 w') (fun xv => { tmps := #[CV 3 x.b (Value.slice pa x.am.length ca') (Value.slice pw x.wr.length cw) (Value.slice pm x.mb.length cm) (Value.slice pe x.el.length ce), Value.pointer (some { block := w.heap.size, off := 0 }), Value.pointer (some { block := w.heap.size + 1, off := 0 }), Value.pointer (some { block := w1.heap.size, off := 0 }), Value.slice pw x.wr.length cw, Value.agg (cvc 3 x.b (Value.slice pa x.am.length ca') (Value.slice pw x.wr.length cw) (Value.slice pm x.mb.length cm) (Value.slice pe x.el.length ce)), Value.bool true, Value.bool false, undef, Value.pointer (some { block := w.heap.size, off := 3 }), Value.slice pw x.wr.length cw, Value.pointer (some { block := w.heap.size, off := 0 }), Value.int IntKind.i64 3, Value.bool false, Value.bool false, Value.bool true, Value.bool true, undef, undef, xv 0, xv 1, xv 2, xv 3, undef, undef], defers := [] }) [pF 0 (eqP (.pointer (some ⟨w.heap.size, 0, none⟩))), pF 1 (eqP (.int .i64 x.k)), pF 2 (eqP (.slice pw x.wr.length cw)), pF 3 (thP (txs (wtx x.wr)))] _ rfl rfl (by kernel_rfl) (fun j => [undef, undef, undef, undef].getD j undef) rfl (Below.refl _ w2).drew ⟨?_, ?_, ?_, ?_, ?_, ?_, trivial⟩ ?_
   ·exact fun _ => Facts.pureP hS hF (fun _ _ => rfl) rfl (fun xv wv hSw hd => by
     go_simp)
   ·exact fun _ => Facts.pureP hS hF (fun _ _ => rfl) rfl (fun xv wv hSw hd => by
     have d0 : xv 0 = _ := pF_get (hd ⟨0, .data⟩ (by simp) rfl _ rfl)
     have g1 : w2.cell? ⟨w.heap.size, 0, none⟩ = some (.int .i64 x.k) := R0.cell 0
     have g2 := cell_later hSw g1
     simp only [d0]
     go_simp)
   ·exact fun _ => Facts.pureP hS hF (fun _ _ => rfl) rfl (fun xv wv hSw hd => by
     go_simp)
   ·refine fun _ => Facts.call1P hS hF (fun _ _ => rfl) rfl (by kernel_rfl) rfl (fun xv wv hSw hd => ?_)
    have d2 : xv 2 = _ := pF_get (hd ⟨2, .data⟩ (by simp) rfl _ rfl)
    rw [show Act.eval _ _ = xv 2 from rfl, d2]
    refine (texts_any _ _ _ (hu.later hSw) hlt1 hlx).mono ?_
    rintro e w' ⟨u, he, ho, hb⟩
    exact ⟨u, he, ho, hb⟩
   ·exact fun h => absurd h (by decide)
   ·exact fun h => absurd h (by decide)
   intro x9 w5 hb5 hf
   have e1 : x9 1 = _ := pF_get (hf 1 _ rfl)
   have e3 := pF_get (hf 3 _ rfl)
   replace e3 : THas w5 (x9 3) (txs (wtx x.wr)) := e3
   clear hS hF hf
   obtain ⟨pz, cz, hz⟩ := e3.slice
   rw [hz] at e3
   replace R1 := R1.later hb5
   replace R3 := R3.later hb5
   replace hbel := below_on hbel hb5
   clear hb5
   refine tail_pure (v := VV x.k (.slice pz (txs (wtx x.wr)).length cz)) (by simp only [e1, hz]; go_simp) ?_
   refine tail_store 46 _ _ rfl _ _ rfl rfl (R3.store #[.int .i64 x.k, .int .i64 0, .slice pz (txs (wtx x.wr)).length cz, .slice none 0 0] size46 rfl (by simp [Value.oneCell'])) ?_
   refine Facts.tailWp_nil ?_
   have R3' := R3.row #[.int .i64 x.k, .int .i64 0, .slice pz (txs (wtx x.wr)).length cz, .slice none 0 0]
   replace R1 := R1.rowOther (q := w1.heap.size) (by omega) #[.int .i64 x.k, .int .i64 0, .slice pz (txs (wtx x.wr)).length cz, .slice none 0 0]
   replace hbel := below_setRow hbel (g := w1.heap.size) (by omega) #[.int .i64 x.k, .int .i64 0, .slice pz (txs (wtx x.wr)).length cz, .slice none 0 0]
   replace e3 := THas.rowV e3 R3 #[.int .i64 x.k, .int .i64 0, .slice pz (txs (wtx x.wr)).length cz, .slice none 0 0]
   generalize w5.setRow w1.heap.size #[.int .i64 x.k, .int .i64 0, .slice pz (txs (wtx x.wr)).length cz, .slice none 0 0] = w6 at R3' R1 hbel e3 ⊢
   clear R3
   go_wp2_with (first | refine load_r 46 _ rfl rfl _ rfl R3' Tryz.underlying46 rfl size46 ?_ | refine store_r rfl 46 _ _ rfl _ #[.int .i64 x.k, .int .i64 0, .slice pz (txs (wtx x.wr)).length cz, .slice none 0 0] rfl rfl R1 size46 rfl (by simp [Value.oneCell']) ?_)
   refine bodyPost_ret (results_r rfl rfl (R1.row _) rfl Tryz.underlying46 size46) rfl ?_
   refine HP.out _ _ ?_ (below_setRow hbel (by omega) _)
   rw [HE.out]
   exact THas.rowV e3 R1 _
end Go.Proofs.YtjbbmcommnhgeaaGreat.Rg
namespace Go.Proofs.YtjbbmcommnhgeaaGreat
open Go.RowKit
def fol (F X : Nat → Nat) : Nat → Nat → List Nat
 | 0, _ => []
 | f + 1, a => if a = 0 then [] else a :: (fol F X f (F a) ++ fol F X f (X a))
def Ends (F X : Nat → Nat) (m : Nat) (mu : Nat → Nat) : Prop := ∀ a, a ≠ 0 → a ≤ m → F a ≤ m ∧ X a ≤ m ∧ (F a ≠ 0 → mu (F a) < mu a) ∧ (X a ≠ 0 → mu (X a) < mu a)
theorem fol_zero (F X : Nat → Nat) (f : Nat) : fol F X f 0 = [] := by cases f <;> simp [fol]
theorem fol_eq {F X : Nat → Nat} {m : Nat} {mu : Nat → Nat} (h : Ends F X m mu) : ∀ (f g a : Nat), a ≤ m → mu a < f → mu a < g → fol F X f a = fol F X g a
 | 0, _, _, _, h1, _ => by omega
 | _ + 1, 0, _, _, _, h2 => by omega
 | f + 1, g + 1, a, hm, h1, h2 => by
  unfold fol
  split
  ·rfl
  ·rename_i h0
   obtain ⟨b1, b2, b3, b4⟩ := h a h0 hm
   have e1 : fol F X f (F a) = fol F X g (F a) := by
    by_cases e : F a = 0
    ·rw [e, fol_zero, fol_zero]
    ·have := b3 e
     exact fol_eq h f g (F a) b1 (by omega) (by omega)
   have e2 : fol F X f (X a) = fol F X g (X a) := by
    by_cases e : X a = 0
    ·rw [e, fol_zero, fol_zero]
    ·have := b4 e
     exact fol_eq h f g (X a) b2 (by omega) (by omega)
   rw [e1, e2]
def folA (F X : Nat → Nat) (mu : Nat → Nat) (a : Nat) : List Nat := fol F X (mu a + 1) a
theorem folA_zero (F X mu : Nat → Nat) : folA F X mu 0 = [] := fol_zero F X _
theorem folA_succ {F X : Nat → Nat} {m : Nat} {mu : Nat → Nat} (h : Ends F X m mu) {a : Nat} (h0 : a ≠ 0) (hm : a ≤ m) : folA F X mu a = a :: (folA F X mu (F a) ++ folA F X mu (X a)) := by
 obtain ⟨b1, b2, b3, b4⟩ := h a h0 hm
 unfold folA
 rw [fol, if_neg h0]
 have e1 : fol F X (mu a) (F a) = fol F X (mu (F a) + 1) (F a) := by
  by_cases e : F a = 0
  ·rw [e, fol_zero, fol_zero]
  ·have := b3 e
   exact fol_eq h _ _ (F a) b1 (by omega) (by omega)
 have e2 : fol F X (mu a) (X a) = fol F X (mu (X a) + 1) (X a) := by
  by_cases e : X a = 0
  ·rw [e, fol_zero, fol_zero]
  ·have := b4 e
   exact fol_eq h _ _ (X a) b2 (by omega) (by omega)
 rw [e1, e2]
def mz0 (mu : Nat → Nat) (a : Nat) : Nat := if a = 0 then 0 else mu a + 1
theorem mz0_F {F X : Nat → Nat} {m : Nat} {mu : Nat → Nat} (h : Ends F X m mu) {a : Nat} (h0 : a ≠ 0) (hm : a ≤ m) : mz0 mu (F a) < mz0 mu a ∧ mz0 mu (X a) < mz0 mu a := by
 obtain ⟨_, _, b3, b4⟩ := h a h0 hm
 unfold mz0
 rw [if_neg h0]
 constructor
 ·split
  ·omega
  ·rename_i e
   have := b3 e
   omega
 ·split
  ·omega
  ·rename_i e
   have := b4 e
   omega
theorem rw_own_ne {w : World} {b : Nat} {t : TypeId} {cs : Array Value} {B e S n : Nat} {v : Value} {xs : List Value} (R : Rw w b t cs) (h : w.ownsRow B e S v n xs) (hne : t ≠ e) : ∀ k, v.ownBlock = some k → k ≠ b := fun k hk e' => by
 obtain ⟨_, ⟨rfl, _⟩ | ⟨g, cap, cur, rfl, _, hg, _⟩⟩ := h
 ·cases hk
 ·cases hk
  subst e'
  have h1 : w.heap[g]? = some (.cells cs t) := R
  rw [hg] at h1
  injection h1 with h1
  injection h1 with _ h2
  exact hne h2.symm
structure FS (B : Nat) (w0 : World) (ba bn bf bk gn gf n : Nat) (Fs Xs : List Nat) (acc : List Nat) (w : World) : Prop where
 all : ∃ va, Rw w ba 129 #[va] ∧ w.ownsRow B 3 1 va acc.length (iv acc) ∧ ∀ k, va.ownBlock = some k → k ≠ gn ∧ k ≠ gf
 fn : Rw w bn 129 #[(.slice (some ⟨gn, 0, none⟩) n n)]
 ff : Rw w bf 129 #[(.slice (some ⟨gf, 0, none⟩) n n)]
 fk : Rw w bk 225 #[.func (.func 243) #[] #[.pointer (some ⟨ba, 0, none⟩), .pointer (some ⟨bn, 0, none⟩), .pointer (some ⟨bf, 0, none⟩), .pointer (some ⟨bk, 0, none⟩)]]
 rn : w.ownsRow B 3 1 (.slice (some ⟨gn, 0, none⟩) n n) n (iv Xs)
 rf : w.ownsRow B 3 1 (.slice (some ⟨gf, 0, none⟩) n n) n (iv Fs)
 bel : Below B w0 w
theorem FS.drew {B : Nat} {w0 : World} {ba bn bf bk gn gf n : Nat} {Fs Xs acc : List Nat} {w : World} (h : FS B w0 ba bn bf bk gn gf n Fs Xs acc w) : FS B w0 ba bn bf bk gn gf n Fs Xs acc w.drew := ⟨h.all, h.fn, h.ff, h.fk, h.rn, h.rf, h.bel.drew⟩
structure FD (B ba bn bf bk gn gf : Nat) : Prop where
 ab : B ≤ ba ∧ B ≤ bn ∧ B ≤ bf ∧ B ≤ bk
 dn : ba ≠ bn
 df : ba ≠ bf
 dk : ba ≠ bk
theorem follow_any (B : Nat) (w0 : World) (ba bn bf bk gn gf n : Nat) (Fs Xs : List Nat) (F X mu : Nat → Nat) (hn : n ≤ 101) (hF : Fs.length = n) (hX : Xs.length = n) (HF : Hid (∀ k (h : k < Fs.length), Fs[k] = F k)) (HX : Hid (∀ k (h : k < Xs.length), Xs[k] = X k)) (hE : Ends F X (n - 1) mu) (hd : FD B ba bn bf bk gn gf) : ∀ (r a : Nat) (acc : List Nat) (w : World), mz0 mu a ≤ r → a < n → acc.length + (folA F X mu a).length ≤ 100 → FS B w0 ba bn bf bk gn gf n Fs Xs acc w →
  Calls Tryz.prog 243 #[.int .i64 a, .pointer (some ⟨ba, 0, none⟩), .pointer (some ⟨bn, 0, none⟩), .pointer (some ⟨bf, 0, none⟩), .pointer (some ⟨bk, 0, none⟩)] w (fun e w' => e = .returned (.tuple #[]) ∧ FS B w0 ba bn bf bk gn gf n Fs Xs (acc ++ folA F X mu a) w' ∧ w.heap.size ≤ w'.heap.size) := by
 intro r
 induction r using Nat.strongRecOn with
 | ind r ih =>
  intro a acc w hmu ha hlen hS
  have IH : Hid (∀ (r' : Nat), r' < r → ∀ (a : Nat) (acc : List Nat) (w : World), mz0 mu a ≤ r' → a < n → acc.length + (folA F X mu a).length ≤ 100 → FS B w0 ba bn bf bk gn gf n Fs Xs acc w → Calls Tryz.prog 243 #[.int .i64 a, .pointer (some ⟨ba, 0, none⟩), .pointer (some ⟨bn, 0, none⟩), .pointer (some ⟨bf, 0, none⟩), .pointer (some ⟨bk, 0, none⟩)] w (fun e w' => e = .returned (.tuple #[]) ∧ FS B w0 ba bn bf bk gn gf n Fs Xs (acc ++ folA F X mu a) w' ∧ w.heap.size ≤ w'.heap.size)) := ih
  clear ih
  obtain ⟨L, HL⟩ := hid_ex (acc ++ folA F X mu a)
  have hLl : L.length ≤ 100 := by rw [← HL.out, List.length_append]; exact hlen
  rw [HL.out]
  obtain ⟨i0, hi, hz0, hz1, hz2⟩ := info_parts info3
  go_enter Tryz.func243, Tryz.ntmps243
  go_wp2_with fail
  go_loopw [0] (fun va wr => ∃ (b : Nat) (ac : List Nat), va = .int .i64 b ∧ b < n ∧ mz0 mu b ≤ r ∧ Hid (ac ++ folA F X mu b = L) ∧ FS B w0 ba bn bf bk gn gf n Fs Xs ac wr ∧ w.heap.size ≤ wr.heap.size) (fun va _ => mz0 mu (intOf va).toNat)
  case atStart => exact ⟨a, acc, rfl, ha, hmu, HL.out, hS, Nat.le_refl _⟩
  case round =>
   clear hS hmu ha hlen HL
   obtain ⟨b, ac, rfl, hb, hmb, HL, hS, hsz⟩ := hrel
   by_cases hb0 : b = 0
   ·subst hb0
    have e := HL.out
    rw [folA_zero, List.append_nil] at e
    subst e
    go_wp2_with fail
    go_end0
    exact ⟨rfl, hS, hsz⟩
   ·have hb0' : ¬ ((b : Int) = 0) := by omega
    obtain ⟨⟨va, Ra, hoa, hvb⟩, fn, ff, fk, rn, rf, bel⟩ := hS
    have hfe := folA_succ hE hb0 (by omega)
    have hmz := mz0_F hE hb0 (show b ≤ n - 1 by omega)
    have hEb := hE b hb0 (by omega)
    have hacl : ac.length + 1 ≤ 100 := by
     rw [← HL.out, hfe] at hLl
     simp at hLl
     omega
    have ca : wr.cell? ⟨ba, 0, none⟩ = some va := Ra.cell 0
    obtain ⟨pa, da, rfl⟩ := own_sl hoa
    have hBw : B ≤ wr.heap.size := by have := (own_ge rn).1; have := (own_ge rn).2; omega
    have hbn := bel_alloc (Below.refl wr.heap.size wr) (.cells #[.int .i64 (b : Int)] 3)
    have hnw : (wr.alloc (.cells #[.int .i64 (b : Int)] 3)).heap.size = wr.heap.size + 1 := by simp
    have HCL : Hid (∀ j u, [Value.int .i64 (b : Int)][j]? = some u → (wr.alloc (.cells #[.int .i64 (b : Int)] 3)).cell? ((⟨wr.heap.size, 0, none⟩ : Addr).add j) = some u) := fun j u hu => by
     have Rn := rw_new wr 3 #[.int .i64 (b : Int)]
     match j, hu with
     | 0, hu => exact (Rn.cell 0).trans hu
     | j + 1, hu => simp at hu
    have hm1 : ac.length + 1 ≤ maxLen := by simp [maxLen]; omega
    have hm2 : (ac.length + 1) * 8 ≤ 140737488355328 := by omega
    have gnl := (own_ge rn).2
    have gfl := (own_ge rf).2
    replace hoa := own_later hoa hbn
    replace Ra := Ra.later hbn
    replace fn := fn.later hbn
    replace ff := ff.later hbn
    replace fk := fk.later hbn
    replace rn := own_later rn hbn
    replace rf := own_later rf hbn
    replace bel := bel.trans (hbn.mono hBw)
    have hB1 : B ≤ (wr.alloc (.cells #[.int .i64 (b : Int)] 3)).heap.size := by omega
    generalize hWn : wr.alloc (.cells #[.int .i64 (b : Int)] 3) = wn at hbn hnw HCL hoa Ra fn ff fk rn rf bel hB1
    go_wp2_with (first | rw [hWn] | (at_builtin; refine wpList_append_own_at _ rfl _ _ 129 rfl B 3 i0 (.int .i64 0) 1 8 Tryz.underlying129 hi hz0 hz1 hz2 rfl (by decide) _ _ _ rfl hoa ⟨wr.heap.size, 0, none⟩ 1 1 [.int .i64 (b : Int)] rfl rfl HCL.out (by simp [Value.oneCell']) hm1 hm2 hB1 ?_))
    intro v2 w2 ho2 hg2 _ hat
    have neA := rw_own_ne Ra hoa (by decide)
    have neN := rw_own_ne fn hoa (by decide)
    have neF := rw_own_ne ff hoa (by decide)
    have neK := rw_own_ne fk hoa (by decide)
    have keep : ∀ q, q < wn.heap.size → (∀ k, (Value.slice pa ac.length da).ownBlock = some k → k ≠ q) → w2.heap[q]? = wn.heap[q]? := fun q hq hne => hg2.block q hq (fun e => hne q e.symm rfl)
    have Ra2 : Rw w2 ba 129 #[.slice pa ac.length da] := (keep ba Ra.lt neA).trans Ra
    have fn2 : Rw w2 bn 129 #[.slice (some ⟨gn, 0, none⟩) n n] := (keep bn fn.lt neN).trans fn
    have ff2 : Rw w2 bf 129 #[.slice (some ⟨gf, 0, none⟩) n n] := (keep bf ff.lt neF).trans ff
    have fk2 : Rw w2 bk 225 #[.func (.func 243) #[] #[.pointer (some ⟨ba, 0, none⟩), .pointer (some ⟨bn, 0, none⟩), .pointer (some ⟨bf, 0, none⟩), .pointer (some ⟨bk, 0, none⟩)]] := (keep bk fk.lt neK).trans fk
    have hkp : Kp (Value.slice pa ac.length da).ownBlock wn w2 := fun q h1 h2 => hg2.block q h1 (Ne.symm h2)
    have rn2 := own_kp rn hkp (fun k hk e => (hvb k e).1 (by cases hk; rfl))
    have rf2 := own_kp rf hkp (fun k hk e => (hvb k e).2 (by cases hk; rfl))
    have bel2 : Below B w0 w2 := bel.grown hg2 hB1 (fun q hq => (World.ownsRow.lt hoa q hq).1)
    have hvb2 : ∀ k, v2.ownBlock = some k → k ≠ gn ∧ k ≠ gf := fun k hk => by
     rcases hat with e | e
     ·exact hvb k (by rw [← e]; exact hk)
     ·rw [e] at hk
      cases hk
      omega
    obtain ⟨p2, d2, rfl⟩ := own_sl ho2
    have neA2 := rw_own_ne Ra2 ho2 (by decide)
    have c2 : w2.cell? ⟨ba, 0, none⟩ = some (.slice pa ac.length da) := Ra2.cell 0
    have f2 := Ra2.frozen 0
    have hs2 : wn.heap.size ≤ w2.heap.size := hg2.size
    have ho3 : (w2.setCell ⟨ba, 0, none⟩ (.slice p2 (ac.length + 1) d2)).ownsRow B 3 1 (.slice p2 (ac.length + 1) d2) (ac ++ [b]).length (iv (ac ++ [b])) := by
     have := own_over ho2 neA2 0 (.slice p2 (ac.length + 1) d2)
     rw [List.length_append]
     unfold iv
     rw [List.map_append]
     exact this
    have Ra3 := Ra2.set 0 (.slice p2 (ac.length + 1) d2)
    have fn3 := fn2.setOther (q := ba) (Ne.symm hd.dn) 0 (.slice p2 (ac.length + 1) d2)
    have ff3 := ff2.setOther (q := ba) (Ne.symm hd.df) 0 (.slice p2 (ac.length + 1) d2)
    have fk3 := fk2.setOther (q := ba) (Ne.symm hd.dk) 0 (.slice p2 (ac.length + 1) d2)
    have rn3 := own_over rn2 (rw_own_ne Ra2 rn2 (by decide)) 0 (.slice p2 (ac.length + 1) d2)
    have rf3 := own_over rf2 (rw_own_ne Ra2 rf2 (by decide)) 0 (.slice p2 (ac.length + 1) d2)
    have bel3 := below_cell bel2 hd.ab.1 0 (.slice p2 (ac.length + 1) d2)
    have hsz3 : w.heap.size ≤ (w2.setCell ⟨ba, 0, none⟩ (.slice p2 (ac.length + 1) d2)).heap.size := by
     rw [World.size_setCell]
     omega
    generalize hW3 : w2.setCell ⟨ba, 0, none⟩ (.slice p2 (ac.length + 1) d2) = w3 at ho3 Ra3 fn3 ff3 fk3 rn3 rf3 bel3 hsz3
    have FS3 : Hid (FS B w0 ba bn bf bk gn gf n Fs Xs (ac ++ [b]) w3) := ⟨⟨_, Ra3, ho3, hvb2⟩, fn3, ff3, fk3, rn3, rf3, bel3⟩
    have cn : w3.cell? ⟨bn, 0, none⟩ = some (.slice (some ⟨gn, 0, none⟩) n n) := fn3.cell 0
    have cf : w3.cell? ⟨bf, 0, none⟩ = some (.slice (some ⟨gf, 0, none⟩) n n) := ff3.cell 0
    have ck : w3.cell? ⟨bk, 0, none⟩ = some (.func (.func 243) #[] #[.pointer (some ⟨ba, 0, none⟩), .pointer (some ⟨bn, 0, none⟩), .pointer (some ⟨bf, 0, none⟩), .pointer (some ⟨bk, 0, none⟩)]) := fk3.cell 0
    have cx := own_iat rn3 (show b < Xs.length by omega)
    have cy := own_iat rf3 (show b < Fs.length by omega)
    rw [HX.out] at cx
    rw [HF.out] at cy
    obtain ⟨x, HXb⟩ := hid_ex (X b)
    obtain ⟨y, HYb⟩ := hid_ex (F b)
    rw [HXb.out] at cx hmz hEb hfe
    rw [HYb.out] at cy hmz hEb hfe
    have hb1 : (0 : Int) ≤ (b : Int) := by omega
    have hb2 : (b : Int) < (n : Int) := by omega
    have hyn : y < n := by omega
    have hxn : x < n := by omega
    have HLL : Hid (ac ++ [b] ++ folA F X mu y ++ folA F X mu x = L) := by
     show _ = _
     rw [← HL.out, hfe]
     simp
    clear ho2 hg2 hat Ra fn ff fk rn rf bel Ra2 fn2 ff2 fk2 rn2 rf2 bel2 hoa ho3 Ra3 fn3 ff3 fk3 rn3 rf3 bel3 keep hkp neA neN neF neK neA2 hvb hvb2 HCL hbn HL hfe HYb
    by_cases hx0 : x = 0
    ·subst hx0
     have e := HLL.out
     rw [folA_zero, List.append_nil] at e
     have HL2 : Hid (ac ++ [b] ++ folA F X mu y = L) := e
     clear e HLL
     go_wp2_with (first | rw [hW3])
     go_roundw
     case rel => exact ⟨y, ac ++ [b], rfl, hyn, by omega, HL2, FS3.out, hsz3⟩
     case measure => simpa [intOf] using hmz.1
    ·have hx0' : ¬ ((x : Int) = 0) := by omega
     have C4 := IH.out (mz0 mu y) (by omega) y (ac ++ [b]) w3.drew (Nat.le_refl _) hyn (by
      have := congrArg List.length HLL.out
      simp at this
      simp
      omega) FS3.out.drew
     go_wp2_with (first | rw [hW3])
     clear hW3
     go_region_with (refine C4.mono ?_; rintro e w5 ⟨rfl, hS5, hs5⟩)
     all_goals
      have hs6 : w.heap.size ≤ w5.heap.size := Nat.le_trans hsz3 hs5
      have cn5 : w5.cell? ⟨bn, 0, none⟩ = some (.slice (some ⟨gn, 0, none⟩) n n) := hS5.fn.cell 0
      have cx5 := own_iat hS5.rn (show b < Xs.length by omega)
      rw [HX.out, HXb.out] at cx5
      go_wp2_with fail
      go_roundw
      case rel => exact ⟨x, _, rfl, hxn, by omega, HLL, hS5, hs6⟩
      case measure => simpa [intOf] using hmz.2
end Go.Proofs.YtjbbmcommnhgeaaGreat
namespace Go.Proofs.YtjbbmcommnhgeaaGreat
def upd (f : Nat → Nat) (k v : Nat) : Nat → Nat := fun j => if j = k then v else f j
def stp (up : Nat → Nat) (s : (Nat → Nat) × (Nat → Nat)) (a : Nat) : (Nat → Nat) × (Nat → Nat) := (upd s.1 (up a) a, upd s.2 a (s.1 (up a)))
def stt (up : Nat → Nat) (ps : List Nat) : (Nat → Nat) × (Nat → Nat) := ps.foldl (stp up) (fun _ => 0, fun _ => 0)
theorem stt_snoc (up : Nat → Nat) (ps : List Nat) (a : Nat) : stt up (ps ++ [a]) = stp up (stt up ps) a := by simp [stt]
def kd (up : Nat → Nat) (ps : List Nat) (p : Nat) : List Nat := (ps.filter (fun a => decide (up a = p))).reverse
theorem kd_snoc (up : Nat → Nat) (ps : List Nat) (a p : Nat) : kd up (ps ++ [a]) p = if up a = p then a :: kd up ps p else kd up ps p := by
 unfold kd
 rw [List.filter_append, List.reverse_append]
 by_cases h : up a = p <;> simp [h]
theorem kd_mem {up : Nat → Nat} {ps : List Nat} {p a : Nat} : a ∈ kd up ps p ↔ a ∈ ps ∧ up a = p := by simp [kd]
theorem snoc_rec {α : Type} {P : List α → Prop} (h0 : P []) (h1 : ∀ l a, P l → P (l ++ [a])) (l : List α) : P l := by
 rw [← List.reverse_reverse l]
 induction l.reverse with
 | nil => exact h0
 | cons a t ih => rw [List.reverse_cons]; exact h1 _ a ih
theorem stt_spec (up : Nat → Nat) (ps : List Nat) : ps.Nodup → (∀ p, (stt up ps).1 p = (kd up ps p).headD 0) ∧ (∀ p pre a post, kd up ps p = pre ++ a :: post → (stt up ps).2 a = post.headD 0) := by
 refine snoc_rec (P := fun ps => ps.Nodup → (∀ p, (stt up ps).1 p = (kd up ps p).headD 0) ∧ (∀ p pre a post, kd up ps p = pre ++ a :: post → (stt up ps).2 a = post.headD 0)) ?_ ?_ ps
 ·intro _
  exact ⟨fun p => rfl, fun p pre a post h => by simp [kd] at h⟩
 ·intro l a ih hn
  rw [List.nodup_append] at hn
  obtain ⟨n1, _, n3⟩ := hn
  have ha : a ∉ l := fun h => n3 a h a (by simp) rfl
  obtain ⟨i1, i2⟩ := ih n1
  rw [stt_snoc]
  constructor
  ·intro p
   rw [kd_snoc]
   unfold stp upd
   by_cases h : up a = p
   ·simp [h]
   ·rw [if_neg h, ← i1 p]
    simp [Ne.symm h]
  ·intro p pre b post h
   rw [kd_snoc] at h
   unfold stp upd
   by_cases e : up a = p
   ·rw [if_pos e] at h
    cases pre with
    | nil =>
     simp only [List.nil_append, List.cons.injEq] at h
     obtain ⟨rfl, rfl⟩ := h
     simp [i1, e]
    | cons c pre =>
     simp only [List.cons_append, List.cons.injEq] at h
     have hb : b ∈ l := (kd_mem.1 (by rw [h.2]; simp)).1
     have hne : b ≠ a := fun e => ha (e ▸ hb)
     simp only [if_neg hne]
     exact i2 p pre b post h.2
   ·rw [if_neg e] at h
    have hb : b ∈ l := (kd_mem.1 (by rw [h]; simp)).1
    have hne : b ≠ a := fun e => ha (e ▸ hb)
    simp only [if_neg hne]
    exact i2 p pre b post h
section
variable {up : Nat → Nat} {n : Nat} {ps : List Nat}
def muP (up : Nat → Nat) (n : Nat) (ps : List Nat) (a : Nat) : Nat := (n - dp up n a) * (n + 1) + ((kd up ps (up a)).dropWhile (fun c => decide (c ≠ a))).length
theorem kd_len (h : ps.length = n) (p : Nat) : (kd up ps p).length ≤ n := by
 unfold kd
 rw [List.length_reverse, ← h]
 exact List.length_filter_le _ _
theorem drop_split {l : List Nat} (hn : l.Nodup) {pre post : List Nat} {a : Nat} (e : l = pre ++ a :: post) : l.dropWhile (fun c => decide (c ≠ a)) = a :: post := by
 subst e
 rw [List.nodup_append] at hn
 rw [List.dropWhile_append_of_pos]
 ·simp
 ·intro c hc
  exact decide_eq_true (fun e => hn.2.2 c hc a (by simp) e)
theorem kd_nodup (hn : ps.Nodup) (p : Nat) : (kd up ps p).Nodup := by
 unfold kd
 rw [List.Nodup, List.pairwise_reverse]
 exact (hn.sublist List.filter_sublist).imp_of_mem (fun _ _ h => Ne.symm h)
theorem dw_len (l : List Nat) (a : Nat) : (l.dropWhile (fun c => decide (c ≠ a))).length ≤ l.length := (List.dropWhile_sublist _).length_le
theorem ends_stt (hf : ∀ k, k ≤ n → up k ≤ n) (h0 : up 0 = 0) (hr : ∀ k, k ≤ n → rt up k) (hp : ps.Perm (plc n)) : Ends (stt up ps).1 (stt up ps).2 n (muP up n ps) := by
 have hm : ∀ a, a ∈ ps ↔ a ≠ 0 ∧ a ≤ n := fun a => by
  rw [hp.mem_iff]
  simp only [plc, List.mem_map, List.mem_range]
  constructor
  ·rintro ⟨k, hk, rfl⟩
   omega
  ·rintro ⟨h1, h2⟩
   exact ⟨a - 1, by omega, by omega⟩
 have hnd : ps.Nodup := hp.nodup_iff.2 (by
  unfold plc
  rw [List.Nodup, List.pairwise_map]
  exact List.pairwise_lt_range.imp_of_mem (fun _ _ h e => by omega))
 have hl : ps.length = n := by rw [hp.length_eq, plc_len]
 obtain ⟨s1, s2⟩ := stt_spec up ps hnd
 intro a a0 an
 have hks : ∀ c, c ∈ ps → ∃ pre post, kd up ps (up c) = pre ++ c :: post := fun c hc => by
  obtain ⟨pre, post, e⟩ := List.append_of_mem (kd_mem.2 ⟨hc, rfl⟩ : c ∈ kd up ps (up c))
  exact ⟨pre, post, e⟩
 have hF : (stt up ps).1 a ≠ 0 → (stt up ps).1 a ∈ ps ∧ up ((stt up ps).1 a) = a := fun h => by
  rw [s1] at h ⊢
  cases e : kd up ps a with
  | nil => rw [e] at h; exact absurd rfl h
  | cons c t =>
   have : c ∈ kd up ps a := by rw [e]; simp
   exact kd_mem.1 this
 obtain ⟨pre, post, ek⟩ := hks a ((hm a).2 ⟨a0, an⟩)
 have hX := s2 _ _ _ _ ek
 refine ⟨?_, ?_, ?_, ?_⟩
 ·by_cases e : (stt up ps).1 a = 0
  ·omega
  ·exact ((hm _).1 (hF e).1).2
 ·rw [hX]
  cases e : post with
  | nil => simp
  | cons b t =>
   have : b ∈ kd up ps (up a) := by rw [ek, e]; simp
   exact ((hm b).1 (kd_mem.1 this).1).2
 ·intro h
  obtain ⟨h1, h2⟩ := hF h
  have d := dp_up hf h0 ((hm _).1 h1).2 h (hr _ ((hm _).1 h1).2)
  rw [h2] at d
  have d2 := dp_le up n ((stt up ps).1 a)
  unfold muP
  have l1 := dw_len (kd up ps (up ((stt up ps).1 a))) ((stt up ps).1 a)
  have l2 := kd_len (up := up) hl (up ((stt up ps).1 a))
  rw [d, show n - dp up n a = n - (dp up n a + 1) + 1 by omega, Nat.add_mul]
  omega
 ·intro h
  rw [hX] at h ⊢
  cases e : post with
  | nil => rw [e] at h; exact absurd rfl h
  | cons b t =>
   rw [e] at ek
   have hb : b ∈ kd up ps (up a) := by rw [ek]; simp
   obtain ⟨hbp, hub⟩ := kd_mem.1 hb
   have hbn := ((hm b).1 hbp).2
   have db : dp up n b = dp up n a := by
    rw [dp_up hf h0 hbn ((hm b).1 hbp).1 (hr b hbn), dp_up hf h0 an a0 (hr a an), hub]
   have l1 : ((kd up ps (up a)).dropWhile (fun c => decide (c ≠ a))).length = t.length + 2 := by rw [drop_split (kd_nodup hnd _) ek]; simp
   have l2 : ((kd up ps (up b)).dropWhile (fun c => decide (c ≠ b))).length = t.length + 1 := by rw [hub, drop_split (kd_nodup hnd _) (show kd up ps (up a) = (pre ++ [a]) ++ b :: t by rw [ek]; simp)]; simp
   show muP up n ps b < muP up n ps a
   unfold muP
   rw [db, l1, l2]
   omega
def lat (l : List El) (a b : Nat) : Bool := decide (tmL l b < tmL l a) || (decide (tmL l b = tmL l a) && decide (b < a))
theorem lat_iff {l : List El} {a b : Nat} : lat l a b = true ↔ er l b a := by
 unfold lat er
 simp only [Bool.or_eq_true, Bool.and_eq_true, decide_eq_true_eq]
theorem lat_tot (l : List El) (m : List Nat) : Tot (lat l) m where
 irr a _ := by
  cases h : lat l a a
  ·rfl
  ·rw [lat_iff] at h
   unfold er at h
   omega
 trans a _ b _ c _ h1 h2 := by
  rw [lat_iff] at *
  unfold er at *
  omega
 tot a _ b _ h := by
  rw [lat_iff, lat_iff]
  unfold er
  omega
theorem plc_nodup (n : Nat) : (plc n).Nodup := by
 unfold plc
 rw [List.Nodup, List.pairwise_map]
 exact List.pairwise_lt_range.imp_of_mem (fun _ _ h e => by omega)
theorem plc_mem {n a : Nat} : a ∈ plc n ↔ a ≠ 0 ∧ a ≤ n := by
 simp only [plc, List.mem_map, List.mem_range]
 constructor
 ·rintro ⟨k, hk, rfl⟩
  omega
 ·rintro ⟨h1, h2⟩
  exact ⟨a - 1, by omega, by omega⟩
def odP (l : List El) (p : Nat) : List Nat := ord id (upL l) (lat l) (plc l.length) (l.length + 1) p
theorem kids_kd {l : List El} {ps : List Nat} (hp : ps.Perm (plc l.length)) (hs : ps.Pairwise (er l)) (p : Nat) : kids (upL l) (lat l) (plc l.length) p = kd (upL l) ps p := by
 unfold kids kd
 have hn : ps.Nodup := hp.nodup_iff.2 (plc_nodup _)
 refine sorted_one (lat_tot l _) ?_ (srt_sorted (lat_tot l _) ((plc_nodup _).sublist List.filter_sublist)) ?_
 ·refine (srt_perm _ _).trans ?_
  refine List.Perm.trans ?_ (List.reverse_perm _).symm
  exact (hp.filter _).symm
 ·rw [List.pairwise_reverse]
  exact ((hs.sublist List.filter_sublist).imp_of_mem (fun _ _ h => lat_iff.2 h))
theorem rk_plc {l : List El} (h : cr l = true) : Rk (fun a : Nat => a) (upL l) (dp (upL l) l.length) (plc l.length) := fun a ha => by
 obtain ⟨h1, h2⟩ := plc_mem.1 ha
 exact dp_up (fun k _ => upL_le l k) (upL_zero l) h2 h1 (by
  unfold cr at h
  rw [Bool.and_eq_true] at h
  exact noR_iff.1 h.2 a h2)
theorem od_flat {l : List El} (h : cr l = true) (p : Nat) : odP l p = (kids (upL l) (lat l) (plc l.length) p).flatMap (fun c => c :: odP l c) := by
 unfold odP
 rw [ord]
 refine flat_congr (fun c _ => ?_)
 congr 1
 exact ord_fuel (mk := id) (R := dp (upL l) l.length) (B := l.length) (rk_plc h) (fun e _ => dp_le _ _ _) (by omega) (by omega)
theorem fol_od {l : List El} (h : cr l = true) {ps : List Nat} (hp : ps.Perm (plc l.length)) (hs : ps.Pairwise (er l)) : ∀ (r : Nat) (p : Nat) (pre : List Nat) (a : Nat) (post : List Nat), kd (upL l) ps p = pre ++ a :: post → muP (upL l) l.length ps a ≤ r → folA (stt (upL l) ps).1 (stt (upL l) ps).2 (muP (upL l) l.length ps) a = (a :: post).flatMap (fun c => c :: odP l c) := by
 have hr : ∀ k, k ≤ l.length → rt (upL l) k := by
  unfold cr at h
  rw [Bool.and_eq_true] at h
  exact noR_iff.1 h.2
 have hE := ends_stt (fun k _ => upL_le l k) (upL_zero l) hr hp
 have hn : ps.Nodup := hp.nodup_iff.2 (plc_nodup _)
 obtain ⟨s1, s2⟩ := stt_spec (upL l) ps hn
 intro r
 induction r using Nat.strongRecOn with
 | ind r ih =>
  intro p pre a post e hm
  have ha : a ∈ ps := (kd_mem.1 (show a ∈ kd (upL l) ps p by rw [e]; simp)).1
  obtain ⟨a0, an⟩ := plc_mem.1 (hp.mem_iff.1 ha)
  obtain ⟨_, _, b3, b4⟩ := hE a a0 an
  rw [folA_succ hE a0 an, s2 p pre a post e, List.flatMap_cons, List.cons_append]
  congr 1
  have e1 : folA (stt (upL l) ps).1 (stt (upL l) ps).2 (muP (upL l) l.length ps) ((stt (upL l) ps).1 a) = odP l a := by
   rw [od_flat h, kids_kd hp hs]
   rw [s1 a] at b3 ⊢
   cases ek : kd (upL l) ps a with
   | nil => simp [folA_zero]
   | cons c t =>
    rw [ek] at b3
    have hc0 : c ≠ 0 := (plc_mem.1 (hp.mem_iff.1 (kd_mem.1 (show c ∈ kd (upL l) ps a by rw [ek]; simp)).1)).1
    have := b3 hc0
    exact ih (muP (upL l) l.length ps c) (Nat.lt_of_lt_of_le this hm) a [] c t ek (Nat.le_refl _)
  rw [e1]
  congr 1
  rw [s2 p pre a post e] at b4
  cases ep : post with
  | nil => simp [folA_zero]
  | cons b t =>
   rw [ep] at b4 e
   have hb0 : b ≠ 0 := (plc_mem.1 (hp.mem_iff.1 (kd_mem.1 (show b ∈ kd (upL l) ps p by rw [e]; simp)).1)).1
   have := b4 hb0
   exact ih (muP (upL l) l.length ps b) (Nat.lt_of_lt_of_le this hm) p (pre ++ [a]) b t (by rw [e]; simp) (Nat.le_refl _)
theorem fol_all {l : List El} (h : cr l = true) {ps : List Nat} (hp : ps.Perm (plc l.length)) (hs : ps.Pairwise (er l)) : folA (stt (upL l) ps).1 (stt (upL l) ps).2 (muP (upL l) l.length ps) ((stt (upL l) ps).1 0) = odP l 0 := by
 have hn : ps.Nodup := hp.nodup_iff.2 (plc_nodup _)
 rw [(stt_spec (upL l) ps hn).1 0, od_flat h, kids_kd hp hs]
 cases ek : kd (upL l) ps 0 with
 | nil => simp [folA_zero]
 | cons c t => exact fol_od h hp hs _ 0 [] c t ek (Nat.le_refl _)
theorem od_perm {l : List El} (h : cr l = true) : (odP l 0).Perm (plc l.length) := by
 refine ord_perm (mk := id) (R := dp (upL l) l.length) (plc_nodup _) (rk_plc h) (fun a _ b _ e => e) (fun e he => ?_) (fun e _ => by have := dp_le (upL l) l.length e; exact Nat.le_succ_of_le this)
 by_cases e0 : upL l e = 0
 ·exact Or.inl e0
 ·exact Or.inr ⟨upL l e, plc_mem.2 ⟨e0, upL_le l e⟩, rfl⟩
end
end Go.Proofs.YtjbbmcommnhgeaaGreat
namespace Go.Proofs.YtjbbmcommnhgeaaGreat
open Go.RowKit
def IoPost (l : List El) (w : World) (e : Ending) (w' : World) : Prop := ∃ u, e = .returned u ∧ w'.ownsRow w.heap.size 3 1 u l.length (iv (odP l 0)) ∧ Below w.heap.size w w'
theorem own_of_rw {w : World} {g B n : Nat} (R : Rw w g 3 (madeCells #[Value.int .i64 0] n)) (hB : B ≤ g) (hn : n ≤ maxLen) : w.ownsRow B 3 1 (.slice (some ⟨g, 0, none⟩) n n) n (iv (List.replicate n 0)) := by
 refine ⟨by simp [iv], .inr ⟨g, n, _, rfl, hB, R, Nat.le_refl _, hn, by rw [size_madeCells]; omega, ?_⟩⟩
 rw [iv_made, List.take_of_length_le (by simp [iv])]
theorem al0 (w : World) (t : TypeId) (cs : Array Value) (b c d : Obj) : Rw ((((w.alloc (.cells cs t)).alloc b).alloc c).alloc d).drew w.heap.size t cs := (((rw_new w t cs).alloc b).alloc c).alloc d
theorem al1 (w : World) (t : TypeId) (cs : Array Value) (a c d : Obj) : Rw ((((w.alloc a).alloc (.cells cs t)).alloc c).alloc d).drew (w.heap.size + 1) t cs := ((rw_next (w.alloc a) (by simp) t cs).alloc c).alloc d
theorem al2 (w : World) (t : TypeId) (cs : Array Value) (a b d : Obj) : Rw ((((w.alloc a).alloc b).alloc (.cells cs t)).alloc d).drew (w.heap.size + 1 + 1) t cs := (rw_next ((w.alloc a).alloc b) (by simp) t cs).alloc d
theorem al3 (w : World) (t : TypeId) (cs : Array Value) (a b c : Obj) : Rw ((((w.alloc a).alloc b).alloc c).alloc (.cells cs t)).drew (w.heap.size + 1 + 1 + 1) t cs := rw_next (((w.alloc a).alloc b).alloc c) (by simp) t cs
structure TwoR (w1 : World) (n : Nat) (Z : Array Value) (gf gn bf bn : Nat) (w : World) : Prop where
 rf : Rw w gf 3 Z
 rn : Rw w gn 3 Z
 xf : Rw w bf 129 #[.slice (some ⟨gf, 0, none⟩) n n]
 xn : Rw w bn 129 #[.slice (some ⟨gn, 0, none⟩) n n]
 d : gf ≠ gn ∧ w1.heap.size ≤ gf ∧ w1.heap.size ≤ gn ∧ w1.heap.size ≤ bf ∧ w1.heap.size ≤ bn
 b : Below w1.heap.size w1 w
theorem inOrder_any (v : Value) (l : List El) (w : World) (h : EHas w v l) (hl : l.length ≤ 100) (hp : l.Pairwise (fun a b => kl (kE a) (kE b) = true)) (hcr : cr l = true) : Calls Tryz.prog 241 #[v] w (IoPost l w) := by
 have hok : okR l = true := by
  unfold cr at hcr
  rw [Bool.and_eq_true] at hcr
  exact hcr.1
 have C1 := aheads_any v l w h hl hp
 have HEH : Hid (EHas w v l) := h
 have HCR : Hid (cr l = true) := hcr
 obtain ⟨pv, cv, rfl⟩ := h.slice
 obtain ⟨i0, hi, hz0, hz1, hz2⟩ := info_parts info3
 obtain ⟨Z, HZ⟩ : ∃ Z : Array Value, Hid (madeCells #[Value.int .i64 0] (l.length + 1) = Z) := ⟨_, rfl⟩
 have hmk : ∀ W, (Instr.makeSlice 129 (.int .i64 ((l.length : Int) + 1)) (.int .i64 ((l.length : Int) + 1))).run Tryz.prog W = .ok (.slice (some ⟨W.heap.size, 0, none⟩) (l.length + 1) (l.length + 1)) (W.alloc (.cells Z 3)) := fun W => by
  have := run_make (P := Tryz.prog) W 129 3 i0 (.int .i64 0) Tryz.underlying129 hi hz0 .i64 .i64 ((l.length : Int) + 1) ((l.length : Int) + 1) (by omega) (by omega) (by rw [hz2]; omega) (by omega)
  rw [this, show ((l.length : Int) + 1).toNat = l.length + 1 by omega, hz1, Nat.mul_one]
  rw [show (Value.int .i64 0).cells = #[Value.int .i64 0] from rfl, HZ.out]
 have hmx : l.length + 1 ≤ maxLen := by simp [maxLen]; omega
 obtain ⟨Q, HQ⟩ : ∃ Q, Hid (IoPost l w = Q) := ⟨_, rfl⟩
 rw [HQ.out]
 clear h hp hi hz0 hz1 hz2 hcr
 go_enter Tryz.func241, Tryz.ntmps241
 go_wp2_with fail
 refine C1.mono ?_
 clear C1
 rintro e w1 (⟨_, gu, cu, rfl, hu, hb1⟩ | ⟨h', _⟩)
 rotate_left
 ·rw [hok] at h'
  cases h'
 go_wp2_with fail
 refine wp_mono (Q := fun e a' w' => e = Exit.normal ∧ ∃ gf gn bf bn, a' = { tmps := #[Value.slice pv l.length cv, undef, Value.slice none 0 0, Value.slice (some { block := gu, off := 0 }) (l.length + 1) cu, Value.bool true, Value.pointer (some { block := bf, off := 0 }), Value.pointer (some { block := bn, off := 0 }), undef, undef, undef, undef, Value.tuple #[Value.slice (some { block := gu, off := 0 }) (l.length + 1) cu, Value.bool true], Value.slice pv l.length cv, Value.tuple #[Value.slice (some { block := gu, off := 0 }) (l.length + 1) cu, Value.bool true], Value.slice (some { block := gu, off := 0 }) (l.length + 1) cu, Value.bool true, Value.slice (some { block := gu, off := 0 }) (l.length + 1) cu, Value.int IntKind.i64 (↑l.length + 1), Value.slice (some { block := gf, off := 0 }) (l.length + 1) (l.length + 1), Value.slice (some { block := gu, off := 0 }) (l.length + 1) cu, Value.int IntKind.i64 (↑l.length + 1), Value.slice (some { block := gn, off := 0 }) (l.length + 1) (l.length + 1), undef, undef, undef, undef, undef, undef, undef, undef, undef, undef, undef, undef, undef, undef, undef, undef, undef, undef, undef, undef, undef, undef, undef, undef, undef, undef, undef, undef, undef, undef, undef, undef], defers := [] } ∧ TwoR w1 (l.length + 1) Z gf gn bf bn w') ?_ ?_
 ·clear hu hb1 HEH HCR HQ
  go_region
  all_goals
   refine ⟨rfl, _, _, _, _, rfl, ?_⟩
   constructor
   ·first | exact al0 .. | exact al1 .. | exact al2 .. | exact al3 ..
   ·first | exact al0 .. | exact al1 .. | exact al2 .. | exact al3 ..
   ·first | exact al0 .. | exact al1 .. | exact al2 .. | exact al3 ..
   ·first | exact al0 .. | exact al1 .. | exact al2 .. | exact al3 ..
   ·refine ⟨?_, ?_, ?_, ?_, ?_⟩ <;> omega
   ·exact (bel_alloc (bel_alloc (bel_alloc (bel_alloc (Below.refl _ _) _) _) _) _).drew
 rintro _ _ w2 ⟨rfl, gf, gn, bf, bn, rfl, T2⟩
 obtain ⟨rF, rN, xF, xN, ⟨hfn, hgf, hgn, hbf, hbn⟩, hb2⟩ := T2
 have oF := own_of_rw (by rw [HZ.out]; exact rF) hgf hmx
 have oN := own_of_rw (by rw [HZ.out]; exact rN) hgn hmx
 have hgu := own_ge hu
 replace hu := own_later hu hb2
 have hbw := below_on hb1 hb2
 have hgfl := rF.lt
 have hgnl := rN.lt
 have hbfl := xF.lt
 have hbnl := xN.lt
 have C3 := rising_any _ l w2 (HEH.out.later hbw) hl
 have hguf : gu < gf := by have := hgu.2; omega
 have hgun : gu < gn := by have := hgu.2; omega
 have hguw := hgu.1
 have hww1 : w.heap.size ≤ w1.heap.size := hb1.size
 clear hmk hb2 hb1
 go_wp2_with fail
 refine C3.mono ?_
 clear C3
 rintro e w3 ⟨u, ps, rfl, hps, hpm, hsr, hb3⟩
 replace oF := own_later oF hb3
 replace oN := own_later oN hb3
 replace xF := xF.later hb3
 replace xN := xN.later hb3
 replace hu := own_later hu hb3
 replace hbw := below_on hbw hb3
 obtain ⟨pp, dd, rfl⟩ := own_sl hps
 have hpl : ps.length = l.length := by rw [hpm.length_eq, plc_len]
 have HPM : Hid (ps.Perm (plc l.length)) := hpm
 have HSR : Hid (ps.Pairwise (er l)) := hsr
 have HUP : Hid (∀ k, k ≤ l.length → ∃ h : k < (ups l).length, (ups l)[k] = upL l k) := fun k hk => ⟨by rw [ups_len]; omega, ups_at _⟩
 clear hpm hsr hb3 rF rN
 go_wp2_with fail
 go_loopw [25] (fun vi wr => ∃ (i : Nat) (Fs Xs : List Nat), vi = .int .i64 i ∧ i ≤ l.length ∧ Fs.length = l.length + 1 ∧ Xs.length = l.length + 1 ∧ Hid (∀ k (h : k < Fs.length), Fs[k] = (stt (upL l) (ps.take i)).1 k) ∧ Hid (∀ k (h : k < Xs.length), Xs[k] = (stt (upL l) (ps.take i)).2 k) ∧ wr.ownsRow w1.heap.size 3 1 (.slice (some ⟨gf, 0, none⟩) (l.length + 1) (l.length + 1)) (l.length + 1) (iv Fs) ∧ wr.ownsRow w1.heap.size 3 1 (.slice (some ⟨gn, 0, none⟩) (l.length + 1) (l.length + 1)) (l.length + 1) (iv Xs) ∧ Rw wr bf 129 #[(.slice (some ⟨gf, 0, none⟩) (l.length + 1) (l.length + 1))] ∧ Rw wr bn 129 #[(.slice (some ⟨gn, 0, none⟩) (l.length + 1) (l.length + 1))] ∧ wr.ownsRow w2.heap.size 3 1 (.slice pp l.length dd) l.length (iv ps) ∧ wr.ownsRow w.heap.size 3 1 (.slice (some ⟨gu, 0, none⟩) (l.length + 1) cu) (l.length + 1) (iv (ups l)) ∧ Below w.heap.size w wr) (fun vi _ => l.length - (intOf vi).toNat)
 case atStart => exact ⟨0, _, _, rfl, by omega, by simp, by simp, (show ∀ k (_ : k < _), _ from fun k h => by simp [stt]), (show ∀ k (_ : k < _), _ from fun k h => by simp [stt]), oF, oN, xF, xN, hps, hu, hbw⟩
 case round =>
  clear oF oN xF xN hps hu hbw
  obtain ⟨i, Fs, Xs, rfl, hi', hFl, hXl, HF, HX, oF, oN, xF, xN, hps, hu, hbw⟩ := hrel
  by_cases hlt : i < l.length
  ·have hlt' : (i : Int) < (l.length : Int) := by omega
   obtain ⟨gp, rfl, hgp⟩ := own_some hps (by omega)
   have cp := own_iat hps (show i < ps.length by omega)
   have ham := plc_mem.1 (HPM.out.mem_iff.1 (List.getElem_mem (show i < ps.length by omega)))
   have HTK : Hid (stt (upL l) (ps.take (i + 1)) = stp (upL l) (stt (upL l) (ps.take i)) (ps[i]'(by omega))) := by
    show _ = _
    rw [List.take_succ_eq_append_getElem (by omega), stt_snoc]
   obtain ⟨a, HA⟩ := hid_ex (ps[i]'(by omega))
   rw [HA.out] at cp ham HTK
   obtain ⟨hul, hue⟩ := HUP.out a ham.2
   have cu' := own_iat hu hul
   rw [hue] at cu'
   obtain ⟨ua, HU⟩ := hid_ex (upL l a)
   have hual : ua ≤ l.length := by rw [← HU.out]; exact upL_le _ _
   rw [HU.out] at cu'
   have cf := own_iat oF (show ua < Fs.length by omega)
   have cn := own_iat oN (show a < Xs.length by omega)
   have ff := own_fz oF ua
   have fn := own_fz oN a
   obtain ⟨f0, HF0⟩ := hid_ex (Fs[ua]'(by omega))
   obtain ⟨x0, HX0⟩ := hid_ex (Xs[a]'(by omega))
   rw [HF0.out] at cf
   rw [HX0.out] at cn
   have bx1 : wr.cell? ⟨bf, 0, none⟩ = some (.slice (some ⟨gf, 0, none⟩) (l.length + 1) (l.length + 1)) := xF.cell 0
   have bx2 : wr.cell? ⟨bn, 0, none⟩ = some (.slice (some ⟨gn, 0, none⟩) (l.length + 1) (l.length + 1)) := xN.cell 0
   have i1 : (0 : Int) ≤ (a : Int) := by omega
   have i2 : (a : Int) < (l.length : Int) + 1 := by omega
   have i3 : (0 : Int) ≤ (ua : Int) := by omega
   have i4 : (ua : Int) < (l.length : Int) + 1 := by omega
   have i5 : (0 : Int) ≤ (i : Int) := by omega
   have oN2 := own_over oN (b := gf) (fun q hq => by cases hq; exact Ne.symm hfn) ua (.int .i64 (a : Int))
   have cn2 := own_iat oN2 (show a < Xs.length by omega)
   rw [HX0.out] at cn2
   have fn2 := own_fz oN2 a
   have oF2 := own_over oF (b := gn) (fun q hq => by cases hq; exact hfn) a (.int .i64 (f0 : Int))
   have cf2 := own_iat oF2 (show ua < Fs.length by omega)
   rw [HF0.out] at cf2
   have ff2 := own_fz oF2 ua
   have ne1 := rw_own_ne xF oF (by decide) gf rfl
   have ne2 := rw_own_ne xN oF (by decide) gf rfl
   have ne3 := rw_own_ne xF oN (by decide) gn rfl
   have ne4 := rw_own_ne xN oN (by decide) gn rfl
   have xFA := xF.setOther (q := gf) (Ne.symm ne1) ua (.int .i64 (a : Int))
   have xNA := xN.setOther (q := gf) (Ne.symm ne2) ua (.int .i64 (a : Int))
   have xFB := xF.setOther (q := gn) (Ne.symm ne3) a (.int .i64 (f0 : Int))
   have xNB := xN.setOther (q := gn) (Ne.symm ne4) a (.int .i64 (f0 : Int))
   have bA1 : (wr.setCell ⟨gf, ua, none⟩ (.int .i64 (a : Int))).cell? ⟨bf, 0, none⟩ = some (.slice (some ⟨gf, 0, none⟩) (l.length + 1) (l.length + 1)) := xFA.cell 0
   have bA2 : (wr.setCell ⟨gf, ua, none⟩ (.int .i64 (a : Int))).cell? ⟨bn, 0, none⟩ = some (.slice (some ⟨gn, 0, none⟩) (l.length + 1) (l.length + 1)) := xNA.cell 0
   have bB1 : (wr.setCell ⟨gn, a, none⟩ (.int .i64 (f0 : Int))).cell? ⟨bf, 0, none⟩ = some (.slice (some ⟨gf, 0, none⟩) (l.length + 1) (l.length + 1)) := xFB.cell 0
   have bB2 : (wr.setCell ⟨gn, a, none⟩ (.int .i64 (f0 : Int))).cell? ⟨bn, 0, none⟩ = some (.slice (some ⟨gn, 0, none⟩) (l.length + 1) (l.length + 1)) := xNB.cell 0
   have huA := own_over hu (b := gf) (fun q hq => by cases hq; exact Nat.ne_of_lt hguf) ua (.int .i64 (a : Int))
   have huB := own_over hu (b := gn) (fun q hq => by cases hq; exact Nat.ne_of_lt hgun) a (.int .i64 (f0 : Int))
   have cuA := own_iat huA hul
   have cuB := own_iat huB hul
   rw [hue, HU.out] at cuA cuB
   go_wp2_with fail
   have oFA := own_iset oF ua a
   have oF3 := own_over oFA (b := gn) (fun q hq => by cases hq; exact hfn) a (.int .i64 (f0 : Int))
   have oN3 := own_iset oN2 a f0
   have xF3 := xFA.setOther (q := gn) (Ne.symm ne3) a (.int .i64 (f0 : Int))
   have xN3 := xNA.setOther (q := gn) (Ne.symm ne4) a (.int .i64 (f0 : Int))
   have hpsA := own_over hps (b := gf) (fun q hq => by cases hq; exact Nat.ne_of_gt (Nat.lt_of_lt_of_le hgfl hgp)) ua (.int .i64 (a : Int))
   have hps3 := own_over hpsA (b := gn) (fun q hq => by cases hq; exact Nat.ne_of_gt (Nat.lt_of_lt_of_le hgnl hgp)) a (.int .i64 (f0 : Int))
   have hu3 := own_over huA (b := gn) (fun q hq => by cases hq; exact Nat.ne_of_lt hgun) a (.int .i64 (f0 : Int))
   have hbw3 := below_cell (below_cell hbw (show w.heap.size ≤ gf by omega) ua (.int .i64 (a : Int))) (show w.heap.size ≤ gn by omega) a (.int .i64 (f0 : Int))
   have HF2 : Hid (∀ k (h : k < (Fs.set ua a).length), (Fs.set ua a)[k] = (stt (upL l) (ps.take (i + 1))).1 k) := fun k h => by
    rw [HTK.out]
    unfold stp upd
    rw [List.length_set] at h
    simp only [HU.out, List.getElem_set]
    by_cases e : ua = k
    ·simp [e]
    ·rw [if_neg e, if_neg (Ne.symm e)]
     exact HF.out k h
   have HX2 : Hid (∀ k (h : k < (Xs.set a f0).length), (Xs.set a f0)[k] = (stt (upL l) (ps.take (i + 1))).2 k) := fun k h => by
    rw [HTK.out]
    unfold stp upd
    rw [List.length_set] at h
    simp only [HU.out, List.getElem_set]
    by_cases e : a = k
    ·rw [if_pos e, if_pos e.symm, ← HF0.out, HF.out]
    ·rw [if_neg e, if_neg (Ne.symm e)]
     exact HX.out k h
   clear HF HX HTK HA HU HF0 HX0 oF oN xF xN hps hu hbw oFA hpsA huA huB xFA xNA xFB xNB oF2 hue
   go_region
   go_wp2_with fail
   go_roundw
   case rel => exact ⟨i + 1, _, _, by simp, by omega, by rw [List.length_set]; exact hFl, by rw [List.length_set]; exact hXl, HF2, HX2, oF3, oN3, xF3, xN3, hps3, hu3, hbw3.drew⟩
   case measure => simp [intOf]; omega
  ·have hlt' : ¬ (i : Int) < (l.length : Int) := by omega
   obtain rfl : i = l.length := by omega
   rw [List.take_of_length_le (by omega)] at HF HX
   have hr : ∀ k, k ≤ l.length → rt (upL l) k := by
    have h := HCR.out
    unfold cr at h
    rw [Bool.and_eq_true] at h
    exact noR_iff.1 h.2
   have hE := ends_stt (fun k _ => upL_le l k) (upL_zero l) hr HPM.out
   have hall := fol_all HCR.out HPM.out HSR.out
   have hod := (od_perm HCR.out).length_eq
   rw [plc_len] at hod
   have hF0 : (stt (upL l) ps).1 0 ≤ l.length := by
    rw [(stt_spec (upL l) ps (HPM.out.nodup_iff.2 (plc_nodup _))).1 0]
    cases ek : kd (upL l) ps 0 with
    | nil => simp
    | cons c t => exact (plc_mem.1 (HPM.out.mem_iff.1 (kd_mem.1 (show c ∈ kd (upL l) ps 0 by rw [ek]; simp)).1)).2
   obtain ⟨a, HA⟩ := hid_ex ((stt (upL l) ps).1 0)
   have cf := own_iat oF (show 0 < Fs.length by omega)
   rw [HF.out, HA.out] at cf
   rw [HA.out] at hF0 hall
   have W1 := bel_alloc (Below.refl wr.heap.size wr) (.cells #[.slice none 0 0] 129)
   have W2 := bel_alloc W1 (.cells #[.func (.func 243) #[] #[.pointer (some ⟨wr.heap.size, 0, none⟩), .pointer (some ⟨bn, 0, none⟩), .pointer (some ⟨bf, 0, none⟩), .pointer (some ⟨wr.heap.size + 1, 0, none⟩)]] 225)
   have Ra := (rw_new wr 129 #[.slice none 0 0]).alloc (.cells #[.func (.func 243) #[] #[.pointer (some ⟨wr.heap.size, 0, none⟩), .pointer (some ⟨bn, 0, none⟩), .pointer (some ⟨bf, 0, none⟩), .pointer (some ⟨wr.heap.size + 1, 0, none⟩)]] 225)
   have Rk := rw_next (wr.alloc (.cells #[.slice none 0 0] 129)) (b := wr.heap.size + 1) (by simp) 225 #[.func (.func 243) #[] #[.pointer (some ⟨wr.heap.size, 0, none⟩), .pointer (some ⟨bn, 0, none⟩), .pointer (some ⟨bf, 0, none⟩), .pointer (some ⟨wr.heap.size + 1, 0, none⟩)]]
   have hbnw := xN.lt
   have hbfw := xF.lt
   have hwr : w.heap.size ≤ wr.heap.size := hbw.size
   generalize hWW : (wr.alloc (.cells #[.slice none 0 0] 129)).alloc (.cells #[.func (.func 243) #[] #[.pointer (some ⟨wr.heap.size, 0, none⟩), .pointer (some ⟨bn, 0, none⟩), .pointer (some ⟨bf, 0, none⟩), .pointer (some ⟨wr.heap.size + 1, 0, none⟩)]] 225) = ww at W2 Ra Rk
   have FS0 : FS w.heap.size w wr.heap.size bn bf (wr.heap.size + 1) gn gf (l.length + 1) Fs Xs [] ww := ⟨⟨_, Ra, own_none _ _ _ _, (fun k hk => by cases hk)⟩, xN.later W2, xF.later W2, Rk, own_mono (own_later oN W2) hww1, own_mono (own_later oF W2) hww1, below_on hbw W2⟩
   have C5 := follow_any w.heap.size w wr.heap.size bn bf (wr.heap.size + 1) gn gf (l.length + 1) Fs Xs _ _ (muP (upL l) l.length ps) (by omega) hFl hXl HF HX hE ⟨⟨hwr, by omega, by omega, by omega⟩, by omega, by omega, by omega⟩ _ a [] ww.drew (Nat.le_refl _) (by omega) (by rw [hall, hod]; simp; omega) FS0.drew
   rw [hall, List.nil_append] at C5
   have b1 : ww.cell? ⟨bf, 0, none⟩ = some (.slice (some ⟨gf, 0, none⟩) (l.length + 1) (l.length + 1)) := (xF.later W2).cell 0
   have b2 : ww.cell? ⟨wr.heap.size + 1, 0, none⟩ = some (.func (.func 243) #[] #[.pointer (some ⟨wr.heap.size, 0, none⟩), .pointer (some ⟨bn, 0, none⟩), .pointer (some ⟨bf, 0, none⟩), .pointer (some ⟨wr.heap.size + 1, 0, none⟩)]) := Rk.cell 0
   have b3 := cell_later W2 cf
   have hst : (store ⟨wr.heap.size + 1, 0, none⟩ (Value.func (.func 243) #[] #[.pointer (some ⟨wr.heap.size, 0, none⟩), .pointer (some ⟨bn, 0, none⟩), .pointer (some ⟨bf, 0, none⟩), .pointer (some ⟨wr.heap.size + 1, 0, none⟩)])).run Tryz.prog ((wr.alloc (.cells #[.slice none 0 0] 129)).alloc (.cells #[.nilFunc] 225)) = .ok () ww := by
    have Rn := rw_next (wr.alloc (.cells #[.slice none 0 0] 129)) (b := wr.heap.size + 1) (by simp) 225 #[.nilFunc]
    rw [run_store _ _ _ _ _ rfl, Rn.cell 0]
    simp only [List.getElem?_toArray, List.getElem?_cons_zero, Rn.frozen 0, Bool.false_eq_true, if_false]
    rw [World.setCell_alloc_at _ _ _ _ _ (by simp), ← hWW]
    rfl
   clear HF HX oF oN xF xN hps hu hbw hE hall HPM HSR FS0 Ra Rk cf W1
   go_wp2_with (first | rw [hWW])
   clear hWW W2
   go_region_with (refine C5.mono ?_; rintro e w5 ⟨rfl, hS5, hs5⟩)
   all_goals
    obtain ⟨⟨va, Ra5, ho5, _⟩, _, _, _, _, _, bel5⟩ := hS5
    rw [hod] at ho5
    have c5 : w5.cell? ⟨wr.heap.size, 0, none⟩ = some va := Ra5.cell 0
    have HF5 : Hid (Q (.returned va) w5) := by
     show Q _ _
     rw [← HQ.out]
     exact ⟨va, rfl, ho5, bel5⟩
    obtain ⟨p5, d5, rfl⟩ := own_sl ho5
    clear ho5 Ra5 bel5 HQ
    go_wp2_with fail
    exact HF5.out
end Go.Proofs.YtjbbmcommnhgeaaGreat
