import Derived.Test.YtjbbmcommnhgeaaGreatPc9
set_option maxRecDepth 100000
set_option maxHeartbeats 8000000
namespace Go.Proofs.YtjbbmcommnhgeaaGreat.Os
open Go.RowKit Go.Sort Go.Maps Go.WideMaps
theorem putV_end {z : Mb × Value} {ms : List (Mb × Value)} (h : ∀ a ∈ ms, tx a.1 < tx z.1) : putV z ms = ms ++ [z] := by
 unfold putV
 rw [List.filter_eq_self.2 (fun a ha => decide_eq_true (h a ha)), List.filter_eq_nil_iff.2 (fun a ha => by simpa using Bs.le_of (h a ha))]
theorem run_makeMap_n (n : Int) (w : World) : (Instr.makeMap 111 (some (.int .i64 n))).run Tryz.prog w = .ok (.map (some w.heap.size)) (w.alloc (.map #[] 0)) := by
 have h := run_underlying (P := Tryz.prog) Tryz.underlying111
 simp [Instr.makeMap, h, go_sem]
def BtPost (ms : List (Mb × Value)) (w : World) (e : Ending) (w' : World) : Prop := ∃ b D, e = .returned (.map (some b)) ∧ w.heap.size ≤ b ∧ w'.ownsMap Tryz.prog 9 vE b ms.length D ∧ MapIs D ms ∧ Below w.heap.size w w'
theorem byText_any (v : Value) (ms : List (Mb × Value)) (w : World) (h : SHas 3 w v ms.length (rows Mb.cells ms)) (hy : ∀ y ∈ ms, MHas w y.2 y.1.ms) (hl : ms.length ≤ 100) (hx : ∀ y ∈ ms, y.1.x.size ≤ 64) (hu : upB ms) : Calls Tryz.prog 82 #[v] w (BtPost ms w) := by
 obtain ⟨p, c, rfl⟩ := h.slice
 have HA : Hid (SHas 3 w (.slice p ms.length c) ms.length (rows Mb.cells ms)) := h
 have HX : Hid (∀ y ∈ ms, y.1.x.size ≤ 64) := hx
 have HY : Hid (∀ y ∈ ms, MHas w y.2 y.1.ms) := hy
 have HU : Hid (upB ms) := hu
 clear h hx hy hu
 have hmm := run_makeMap_n
 go_enter Tryz.func82, Tryz.ntmps82
 go_wp2
 go_loopw [11] (fun vi wr => ∃ k : Nat, vi = .int .i64 k ∧ k ≤ ms.length ∧ (∃ D, wr.ownsMap Tryz.prog 9 vE w.heap.size k D ∧ MapIs D (ms.take k)) ∧ Below w.heap.size w wr) (fun vi _ => ms.length - (intOf vi).toNat)
 case atStart => exact ⟨0, rfl, by omega, ⟨_, World.ownsMap_made _ _ _ _, by rw [List.take_zero]; exact MapIs.nil⟩, bel_alloc (Below.refl _ _) _⟩
 case round =>
  obtain ⟨k, rfl, hk, ⟨D, hown, hD⟩, hbel⟩ := hrel
  by_cases hlt : k < ms.length
  ·have hlt' : (k : Int) < (ms.length : Int) := by omega
   obtain ⟨g, o, rfl, hd0⟩ := HA.out.at (by omega)
   have d := Mb.elem (range_later hd0 hbel) k hlt
   have hx := HX.out ms[k] (List.getElem_mem _)
   have hyk := HY.out ms[k] (List.getElem_mem _)
   have HD2 : Hid (MapIs (D.put (.string (tx ms[k].1)) (.held (MbV ms[k]))) (ms.take (k + 1))) := by
    have h2 := hD.put ms[k]
    rw [putV_end (fun a ha => ?_), ← List.take_succ_eq_append_getElem hlt] at h2
    ·exact h2
    ·obtain ⟨j, hj, rfl⟩ := List.getElem_of_mem ha
     rw [List.length_take] at hj
     rw [List.getElem_take]
     have h3 := HU.out
     unfold upB at h3
     rw [List.pairwise_iff_getElem] at h3
     exact h3 j k (by omega) hlt (by omega)
   clear hd0 HA HX HY HU hD
   obtain ⟨yy, HXX⟩ := hid_ex ms[k]
   rw [HXX.out] at d hx hyk HD2
   clear HXX
   obtain ⟨y, yv⟩ := yy
   replace hyk : MHas w yv y.ms := hyk
   obtain ⟨py, cy, rfl⟩ := hyk.slice
   replace d : wr.rangeAt g (o + k * 3) [Value.string y.x, .bool y.b, .slice py y.ms.length cy] := d
   replace hx : y.x.size ≤ 64 := hx
   clear hyk
   have zb : (Tryz.prog.info? 67).map (·.size) = some [Value.string y.x, .bool y.b, .slice py y.ms.length cy].length := size67
   have hkey : keyOf Tryz.prog 9 (.string y.x) = some (.string (bs y.x)) := keyOf_string_mk Tryz.underlying9 (by unfold maxLen; omega)
   have R5 := rw_new wr 67 #[.string y.x, .bool y.b, .slice py y.ms.length cy]
   have hbA := bel_alloc (Below.refl wr.heap.size wr) (.cells #[.string y.x, .bool y.b, .slice py y.ms.length cy] 67)
   replace hown := hown.alloc (.cells #[.string y.x, .bool y.b, .slice py y.ms.length cy] 67)
   replace hbel := below_on hbel hbA
   generalize hW : wr.alloc (.cells #[.string y.x, .bool y.b, .slice py y.ms.length cy] 67) = w1 at R5 hown hbel
   have cx : w1.cell? ⟨wr.heap.size, 0, none⟩ = some (.string y.x) := R5.cell 0
   clear hbA
   go_wp2_with (first
    | rw [hW]
    | refine load_m 67 _ rfl rfl _ _ rfl d Tryz.underlying67 rfl zb ?_
    | refine load_r 67 _ rfl rfl _ rfl R5 Tryz.underlying67 rfl size67 ?_
    | (at_mapUpdate; refine wpList_mapUpdate_own _ rfl _ _ _ 111 rfl 9 67 law9 Tryz.underlying111 vE w.heap.size k _ rfl hown (by unfold maxLen; omega) _ _ _ rfl rfl hkey _ [] rfl ?_; intro w2 hown2 hgrow2))
   go_roundw
   case rel => exact ⟨k + 1, by simp, by omega, ⟨_, hown2, HD2.out⟩, hbel.grown hgrow2 hbel.size (fun j hj => by cases hj; exact Nat.le_refl _)⟩
   case measure => simp [intOf]; omega
  ·have hlt' : ¬ (k : Int) < (ms.length : Int) := by omega
   obtain rfl : k = ms.length := by omega
   rw [List.take_length] at hD
   have HD2 : Hid (MapIs D ms) := hD
   clear HA HX HY HU hmm hD
   go_wp2_with fail
   go_ret
   exact ⟨_, D, rfl, Nat.le_refl _, hown, HD2.out, hbel⟩
theorem own_grown {w w' : World} {B e S n : Nat} {v : Value} {xs : List Value} {row : Option Nat} (h : w.ownsRow B e S v n xs) (hg : w.grownBy w' row) (hne : ∀ k, v.ownBlock = some k → row ≠ some k) : w'.ownsRow B e S v n xs := by
 obtain ⟨h1, ⟨rfl, h0⟩ | ⟨g, cap, cur, rfl, hbg, hg', h2⟩⟩ := h
 ·exact ⟨h1, .inl ⟨rfl, h0⟩⟩
 ·exact ⟨h1, .inr ⟨g, cap, cur, rfl, hbg, (hg.block g (Array.getElem?_eq_some_iff.1 hg').1 (fun e => hne g rfl e.symm)).trans hg', h2⟩⟩
abbrev x4 (l : List Mb) : X := ⟨4, 0, [], [], l, []⟩
theorem cellOf_any (b n : Nat) (D : DataW Value) (ms : List (Mb × Value)) (w : World) (hown : w.ownsMap Tryz.prog 9 vE b n D) (hD : MapIs D ms) (hn : n ≤ 1000) (hy : ∀ y ∈ ms, MHas w y.2 y.1.ms) (hx : ∀ y ∈ ms, y.1.x.size ≤ 64) (hl : ms.length ≤ 200) : Calls Tryz.prog 84 #[.map (some b)] w (Gives (x4 (ms.map (·.1))) w) := by
 obtain ⟨i0, hi, hz0, hz1, hz2⟩ := info_parts info67
 have hbl := hown.lt
 have R0 := (rw_new w 27 z4).alloc (.cells (cvc 4 0 (.slice none 0 0) (.slice none 0 0) (.slice none 0 0) (.slice none 0 0)) 27)
 have R1 := rw_new (w.alloc (.cells z4 27)) 27 (cvc 4 0 (.slice none 0 0) (.slice none 0 0) (.slice none 0 0) (.slice none 0 0))
 have hbel := bel_alloc (bel_alloc (Below.refl w.heap.size w) (.cells z4 27)) (.cells (cvc 4 0 (.slice none 0 0) (.slice none 0 0) (.slice none 0 0) (.slice none 0 0)) 27)
 have hsz : ((w.alloc (.cells z4 27)).alloc (.cells (cvc 4 0 (.slice none 0 0) (.slice none 0 0) (.slice none 0 0) (.slice none 0 0)) 27)).heap.size = w.heap.size + 2 := by simp
 replace hown := (hown.alloc (.cells z4 27)).alloc (.cells (cvc 4 0 (.slice none 0 0) (.slice none 0 0) (.slice none 0 0) (.slice none 0 0)) 27)
 generalize hW : (w.alloc (.cells z4 27)).alloc (.cells (cvc 4 0 (.slice none 0 0) (.slice none 0 0) (.slice none 0 0) (.slice none 0 0)) 27) = w0 at R0 R1 hbel hsz hown
 simp only [World.size_alloc] at R1
 have HW : Hid ((w.alloc (.cells z4 27)).alloc (.cells (cvc 4 0 (.slice none 0 0) (.slice none 0 0) (.slice none 0 0) (.slice none 0 0)) 27) = w0) := hW
 clear hW
 have HSZ : Hid (w0.heap.size = w.heap.size + 2) := hsz
 clear hsz
 have HY : Hid (∀ y ∈ ms, MHas w y.2 y.1.ms) := hy
 have HX : Hid (∀ y ∈ ms, y.1.x.size ≤ 64) := hx
 have HD : Hid (MapIs D ms) := hD
 have hsD := hown.size_le
 have CK := callsIn_wide.1 (maps_Keys_59 (some b) w0)
 have CS := callsIn_wide.1 (slices_Sorted_keys_58_59 (H := Value) b n _ vE w0 hown (by unfold maxLen; omega) (by omega))
 clear hy hx hD
 go_enter Tryz.func84, Tryz.ntmps84
 go_wp2_with (first | rw [HW.out])
 clear HW
 refine CK.mono ?_
 rintro e w1 ⟨rfl, rfl⟩
 go_wp2_with fail
 refine CS.mono ?_
 rintro e w2 ⟨u, ss, rfl, hS, hrow, hnil, hb2⟩
 clear CK CS
 have hs := HD.out.sorted hown hS
 rw [hs] at hrow
 have hlen : ss.length = ms.length := by rw [← List.length_mergeSort (le := fun x y => decide (x ≤ y)), hs, List.length_map]
 rw [hlen] at hrow
 clear hs hlen hS hnil
 have hbA := bel_alloc (Below.refl w0.heap.size w0) (.cells #[.map (some b)] 111)
 have hb3 := below_on hbA hb2
 replace hown : w2.ownsMap Tryz.prog 9 vE b n D := by
  obtain ⟨es, clock, hb, F, hs, hE⟩ := hown
  exact ⟨es, clock, (hb3.block b (Array.getElem?_eq_some_iff.1 hb).1).trans hb, F, hs, hE⟩
 replace R0 := R0.later hb3
 replace R1 := R1.later hb3
 replace hbel := below_on hbel hb3
 have hBs : w.heap.size + 2 ≤ w2.heap.size := by have := hb3.size; have := HSZ.out; omega
 have HT : Hid (w2.ownsRow (w.heap.size + 2) 9 1 u ms.length ((ms.map (fun y => tx y.1)).map encStr)) := own_mono hrow (by have := hbA.size; have := HSZ.out; omega)
 obtain ⟨pt, ct, rfl⟩ := own_sl hrow
 clear hrow hb2 hb3 hbA HSZ hsD
 go_wp2_with fail
 go_loopw [11] (fun vi wr => ∃ (k : Nat) (vm : Value), vi = .int .i64 k ∧ k ≤ ms.length ∧ Rw wr w.heap.size 27 z4 ∧ Rw wr (w.heap.size + 1) 27 (cvc 4 0 (.slice none 0 0) (.slice none 0 0) vm (.slice none 0 0)) ∧ wr.ownsRow (w.heap.size + 2) 67 3 vm k (rows Mb.cells (ms.take k)) ∧ wr.ownsMap Tryz.prog 9 vE b n D ∧ Hid (wr.ownsRow (w.heap.size + 2) 9 1 (.slice pt ms.length ct) ms.length ((ms.map (fun y => tx y.1)).map encStr)) ∧ Below w.heap.size w wr ∧ w.heap.size + 2 ≤ wr.heap.size) (fun vi _ => ms.length - (intOf vi).toNat)
 case atStart => exact ⟨0, _, rfl, by omega, R0, R1, by rw [List.take_zero]; exact World.ownsRow_nil _ _ _ _, hown, HT, hbel, hBs⟩
 case round =>
  clear R0 R1 hown HT hbel hBs
  obtain ⟨k, vm, rfl, hk, R0, R1, hom, hown, HT, hbel, hBs⟩ := hrel
  obtain ⟨qm, dm, rfl⟩ := own_sl hom
  by_cases hlt : k < ms.length
  ·have hlt' : (k : Int) < (ms.length : Int) := by omega
   obtain ⟨g, o, rfl, hd0⟩ := (own_sh HT.out).at (by omega)
   have c1 : wr.cell? ⟨g, o + k, none⟩ = some (.string ms[k].1.x) := hd0 k _ (by simp [hlt])
   have hx := HX.out ms[k] (List.getElem_mem _)
   have hyk := (HY.out ms[k] (List.getElem_mem _)).later hbel
   have hat := HD.out.at (List.getElem_mem hlt) rfl (.held (.agg #[.string noS, .bool false, .slice none 0 0]))
   have HR : Hid (rows Mb.cells (ms.take (k + 1)) = rows Mb.cells (ms.take k) ++ Mb.cells ms[k]) := by
    show _ = _
    rw [List.take_succ_eq_append_getElem hlt, rows_append, rows_one]
   clear hd0
   obtain ⟨yy, HXX⟩ := hid_ex ms[k]
   rw [HXX.out] at c1 hx hyk hat HR
   clear HXX
   obtain ⟨y, yv⟩ := yy
   replace hyk : MHas wr yv y.ms := hyk
   obtain ⟨py, cy, rfl⟩ := hyk.slice
   replace c1 : wr.cell? ⟨g, o + k, none⟩ = some (.string y.x) := c1
   replace hx : y.x.size ≤ 64 := hx
   replace hat : D.atKey (.string (bs y.x)) (.held (.agg #[.string noS, .bool false, .slice none 0 0])) = .held (.agg #[.string y.x, .bool y.b, .slice py y.ms.length cy]) := hat
   replace HR : Hid (rows Mb.cells (ms.take (k + 1)) = rows Mb.cells (ms.take k) ++ [.string y.x, .bool y.b, .slice py y.ms.length cy]) := HR
   have hkey : keyOf Tryz.prog 9 (.string y.x) = some (.string (bs y.x)) := keyOf_string_mk Tryz.underlying9 (by unfold maxLen; omega)
   have cm : wr.cell? ⟨w.heap.size + 1, 4, none⟩ = some (.slice qm k dm) := R1.cell 4
   have hk0 : (0 : Int) ≤ (k : Int) := by omega
   clear hyk
   go_wp2_with (first
    | (at_lookup; refine lookup_v rfl _ _ 111 rfl 9 67 law9 Tryz.underlying111 (Tryz.zeroValue67 _) rfl hown rfl hkey hat ?_)
    | (at_builtin; refine wpList_append_own _ rfl _ _ 24 rfl (w.heap.size + 2) 67 i0 (.agg #[.string noS, .bool false, .slice none 0 0]) 3 48 Tryz.underlying24 hi hz0 hz1 hz2 rfl (by decide) _ _ _ rfl (hom.alloc _) ⟨wr.heap.size, 0, none⟩ 1 1 [.string y.x, .bool y.b, .slice py y.ms.length cy] rfl rfl ?c1 ?c2 ?c3 ?c4 ?c5 ?_))
   case c1 => exact fun q u hq => (cells_next _ (by simp) _ _ _).trans hq
   case c2 => simp [Value.oneCell']
   case c3 => unfold maxLen; omega
   case c4 => omega
   case c5 => simp; omega
   intro v2 w6 hown6 hg6 _
   obtain ⟨q2, d2, rfl⟩ := own_sl hown6
   have hBg : ∀ q', (Value.slice qm k dm).ownBlock = some q' → w.heap.size + 2 ≤ q' := fun q' hq => (World.ownsRow.lt hom q' hq).1
   have hB2 : ∀ q', (Value.slice q2 (k + 1) d2).ownBlock = some q' → q' ≠ w.heap.size + 1 := fun q' hq => by have := (World.ownsRow.lt hown6 q' hq).1; omega
   have hbA := bel_alloc (Below.refl wr.heap.size wr) (.cells #[.string y.x, .bool y.b, .slice py y.ms.length cy] 67)
   have hb6 : Below w.heap.size w w6 := (below_on hbel hbA).grown hg6 (by have := (below_on hbel hbA).size; omega) (fun q' hq => by have := hBg q' hq; omega)
   have hs6 : w.heap.size + 2 ≤ w6.heap.size := Nat.le_trans (Nat.le_trans hBs hbA.size) hg6.size
   replace R0 : Rw w6 w.heap.size 27 _ := (R0.later hbA).grown hg6 (fun q' hq => by have := hBg q' hq; omega)
   replace R1 : Rw w6 (w.heap.size + 1) 27 _ := (R1.later hbA).grown hg6 (fun q' hq => by have := hBg q' hq; omega)
   replace hown : w6.ownsMap Tryz.prog 9 vE b n D := (hown.alloc _).kept hg6 (fun e => by have := hBg b e.symm; omega)
   replace HT : Hid (w6.ownsRow (w.heap.size + 2) 9 1 (.slice (some ⟨g, o, none⟩) ms.length ct) ms.length ((ms.map (fun y => tx y.1)).map encStr)) := own_grown (own_later HT.out hbA) hg6 (fun q' hq e => own_tag HT.out hom (by decide) (g := q') e q' hq rfl)
   have c6 : w6.cell? ⟨w.heap.size + 1, 4, none⟩ = some (.slice qm k dm) := R1.cell 4
   have f6 : w6.frozen? ⟨w.heap.size + 1, 4, none⟩ = false := R1.frozen 4
   replace R1 : Rw (w6.setCell ⟨w.heap.size + 1, 4, none⟩ (.slice q2 (k + 1) d2)) (w.heap.size + 1) 27 (cvc 4 0 (.slice none 0 0) (.slice none 0 0) (.slice q2 (k + 1) d2) (.slice none 0 0)) := R1.set 4 _
   replace R0 := R0.setOther (q := w.heap.size + 1) (by omega) 4 (.slice q2 (k + 1) d2)
   replace hown6 := own_over hown6 (b := w.heap.size + 1) hB2 4 (.slice q2 (k + 1) d2)
   replace HT : Hid ((w6.setCell ⟨w.heap.size + 1, 4, none⟩ (.slice q2 (k + 1) d2)).ownsRow (w.heap.size + 2) 9 1 (.slice (some ⟨g, o, none⟩) ms.length ct) ms.length ((ms.map (fun y => tx y.1)).map encStr)) := own_over HT.out (b := w.heap.size + 1) (fun q' hq => by have := (World.ownsRow.lt HT.out q' hq).1; omega) 4 (.slice q2 (k + 1) d2)
   replace hb6 := hb6.setCell (p := ⟨w.heap.size + 1, 4, none⟩) (show w.heap.size ≤ w.heap.size + 1 by omega) (.slice q2 (k + 1) d2)
   replace hs6 : w.heap.size + 2 ≤ (w6.setCell ⟨w.heap.size + 1, 4, none⟩ (.slice q2 (k + 1) d2)).heap.size := by rw [World.size_setCell]; exact hs6
   replace hown : (w6.setCell ⟨w.heap.size + 1, 4, none⟩ (.slice q2 (k + 1) d2)).ownsMap Tryz.prog 9 vE b n D := by
    obtain ⟨es, clock, hb, F, hs, hE⟩ := hown
    exact ⟨es, clock, (Below.heap_setCell w6 _ _ b (by show b ≠ w.heap.size + 1; omega)).trans hb, F, hs, hE⟩
   clear hom hg6 hbA hbel hat cm c1 hkey hBg hB2
   go_wp2_with fail
   go_roundw
   case rel => exact ⟨k + 1, _, by simp, by omega, R0, R1, by rw [HR.out]; exact hown6, hown, HT, hb6, hs6⟩
   case measure => simp [intOf]; omega
  ·have hlt' : ¬ (k : Int) < (ms.length : Int) := by omega
   obtain rfl : k = ms.length := by omega
   rw [List.take_length] at hom
   clear hown HT HD HX
   go_wp2_with (first | refine load_r 27 _ rfl rfl _ rfl R1 Tryz.underlying27 rfl size27 ?_ | refine store_r rfl 27 _ _ rfl _ (cvc 4 0 (.slice none 0 0) (.slice none 0 0) (.slice qm ms.length dm) (.slice none 0 0)) rfl rfl R0 size27 rfl (by simp [Value.oneCell']) ?_)
   refine bodyPost_ret (results_r rfl rfl (R0.row _) rfl Tryz.underlying27 size27) rfl ?_
   have hb9 := below_setRow hbel (Nat.le_refl w.heap.size) (cvc 4 0 (.slice none 0 0) (.slice none 0 0) (.slice qm ms.length dm) (.slice none 0 0))
   have ho9 := own_row hom (b := w.heap.size) (by omega) (cvc 4 0 (.slice none 0 0) (.slice none 0 0) (.slice qm ms.length dm) (.slice none 0 0))
   refine ⟨_, _, _, _, rfl, ⟨AHas.nil _, WHas.nil _, ⟨ms, rfl, ?_, fun y hy => (HY.out y hy).later hb9⟩, EHas.nil _⟩, hb9⟩
   show SHas 3 _ _ (ms.map (·.1)).length _
   rw [List.length_map]
   exact own_sh ho9
end Go.Proofs.YtjbbmcommnhgeaaGreat.Os
namespace Go.Proofs.YtjbbmcommnhgeaaGreat.Os
open Go.RowKit
theorem without1_any (y : M) (bt bi : Nat) (q u : Int) (v : List Int) (t : Int) (sl : Value) (idx : Int) (w : World) (hv : v.length = 13) (B : Bxs w bt bi q u v t sl idx) :
  Calls Tryz.prog 126 #[MV y.p y.s y.i, .pointer (some ⟨bt, 0, none⟩), .pointer (some ⟨bi, 0, none⟩)] w (Tells (.bool (bf y.p y.s y.i q u v idx)) w) := by
 have C1 := fun w => before_any y.p y.s y.i q u v t sl idx w hv
 generalize bf y.p y.s y.i q u v idx = z at C1 ⊢
 have hbel := bel_alloc (Below.refl w.heap.size w) (.cells #[.int .i64 y.p, .int .i64 y.s, .int .i64 y.i] 50)
 have R0 := rw_new w 50 #[.int .i64 y.p, .int .i64 y.s, .int .i64 y.i]
 have R1 := B.r.later hbel
 have c1 : (w.alloc (.cells #[.int .i64 y.p, .int .i64 y.s, .int .i64 y.i] 50)).cell? ⟨bi, 0, none⟩ = some (.int .i64 idx) := (B.c.later hbel).cell 0
 generalize hW : w.alloc (.cells #[.int .i64 y.p, .int .i64 y.s, .int .i64 y.i] 50) = w0 at hbel R0 R1 c1
 have zt := size_tx (p := q) (s := u) (t := t) (sl := sl) hv
 go_enter Tryz.func126, Tryz.ntmps126
 go_wp2_with (first | rw [hW] | refine load_r 50 _ rfl rfl _ rfl R0 Tryz.underlying50 rfl size50 ?_ | refine load_r 34 _ rfl rfl _ rfl R1 Tryz.underlying34 rfl zt ?_)
 refine (C1 _).mono ?_
 rintro e w1 ⟨rfl, hb1⟩
 go_wp2_with fail
 go_ret
 exact ⟨rfl, below_on hbel hb1⟩
theorem index_any (v0 : Value) (l : List M) (f : M → Bool) (bt bi : Nat) (w : World) (h : MHas w v0 l) (hl : l.length ≤ 100) (C : ∀ (y : M) (w' : World), Below w.heap.size w w' → Calls Tryz.prog 126 #[MV y.p y.s y.i, .pointer (some ⟨bt, 0, none⟩), .pointer (some ⟨bi, 0, none⟩)] w' (Tells (.bool (f y)) w')) :
  Calls Tryz.prog 151 #[v0, .func (.func 126) #[] #[.pointer (some ⟨bt, 0, none⟩), .pointer (some ⟨bi, 0, none⟩)]] w (IxPost l f w) := by
 obtain ⟨pa, ca', rfl⟩ := h.slice
 have HA : Hid (MHas w (.slice pa l.length ca') l) := h
 clear h
 go_enter Tryz.func151, Tryz.ntmps151
 go_wp2
 go_loopw [8] (fun vi wr => ∃ k : Nat, vi = .int .i64 k ∧ k ≤ l.length ∧ Hid (∀ j (hj : j < l.length), j < k → f l[j] = false) ∧ Below w.heap.size w wr) (fun vi _ => l.length - (intOf vi).toNat)
 case atStart => exact ⟨0, rfl, by omega, (show ∀ j (_ : j < l.length), j < 0 → _ from fun j _ h => by omega), Below.refl _ _⟩
 case round =>
  obtain ⟨k, rfl, hk, HV, hbel⟩ := hrel
  by_cases hlt : k < l.length
  ·have hlt' : (k : Int) < (l.length : Int) := by omega
   obtain ⟨g, o, rfl, hd0⟩ := HA.out.at (by omega)
   have d := M.elem (range_later hd0 hbel) k hlt
   clear hd0 HA
   obtain ⟨x, HX⟩ := hid_ex l[k]
   rw [HX.out] at d
   have zm : (Tryz.prog.info? 50).map (·.size) = some x.cells.length := size50
   have Cx := C x _ hbel
   obtain ⟨y, HY⟩ := hid_ex (f x)
   rw [HY.out] at Cx
   have HF : Hid (f l[k] = y) := by show _ = _; rw [HX.out, HY.out]
   clear C HX HY
   go_wp2_with (refine load_m 50 _ rfl rfl _ _ rfl d Tryz.underlying50 rfl zm ?_)
   refine Cx.mono ?_
   clear Cx
   rintro e w1 ⟨rfl, hb1⟩
   replace hbel := below_on hbel hb1
   cases y
   ·go_wp2_with fail
    go_roundw
    case rel =>
     refine ⟨k + 1, by simp, by omega, (show ∀ j (hj : j < l.length), j < k + 1 → f l[j] = false from fun j hj hjk => ?_), hbel⟩
     rcases Nat.lt_or_ge j k with h' | h'
     ·exact HV.out j hj h'
     ·obtain rfl : j = k := by omega
      exact HF.out
    case measure => simp [intOf]; omega
   ·go_wp2_with fail
    go_ret
    exact .inr ⟨k, hlt, rfl, HF.out, HV.out, hbel⟩
  ·have hlt' : ¬ (k : Int) < (l.length : Int) := by omega
   clear HA C
   go_wp2_with fail
   go_ret
   refine .inl ⟨rfl, fun y hy => ?_, hbel⟩
   obtain ⟨j, hj, rfl⟩ := List.getElem_of_mem hy
   exact HV.out j hj (by omega)
section
variable {ops : Array Oper} {rest : List Oper} {op : Oper} {a : Act} {w : World} {Q : Exit → Act → World → Prop}
theorem store_mr (hgd : op.guard = none) (t : TypeId) (x y : Operand) (ho : op.op = .store t x y) (b o : Nat) (cs' : Array Value) (hx : a.eval x = .pointer (some ⟨b, o, none⟩)) (hy : a.eval y = .agg cs') {tb : TypeId} {cs : Array Value} (hc : Rw w b tb cs) (hi : (Tryz.prog.info? t).map (·.size) = some cs'.size) (hs : o + cs'.size ≤ cs.size) (h1 : cs'.all (·.oneCell') = true)
  (h : wpList Tryz.prog ops Q rest (a.put op.dst undef) (w.setRow b (cs.toList.take o ++ cs'.toList ++ cs.toList.drop (o + cs'.size)).toArray)) : wpList Tryz.prog ops Q (op :: rest) a w :=
 wpList_plain hgd fun _ hK => by
  have h2 := run_storeCells_at Tryz.prog b o tb cs'.toList 0 cs w hc (by simpa using hs) (fun v hv => (Array.all_eq_true_iff_forall_mem.1 h1) v (by simpa using hv))
  simp only [Nat.add_zero, Array.length_toList] at h2
  generalize w.setRow b (cs.toList.take o ++ cs'.toList ++ cs.toList.drop (o + cs'.size)).toArray = w1 at h2 h
  have h3 : (storeVar t ⟨b, o, none⟩ (.agg cs')).run Tryz.prog w = .ok () w1 := by
   generalize Tryz.prog = P at hi h2 ⊢
   cases hq : P.info? t with
   | none => simp [hq] at hi
   | some i =>
    have hs : cs'.size = i.size := by simp [hq] at hi; omega
    simp [storeVar, sizeOf, typeInfo, hq, Value.cells, hs, h2]
  unfold Oper.wp execOp
  simp only [ho, hx, hy, Instr.storeAt, Instr.sureAddr, Sem.run_bind, Sem.run_pure, Result.andThen_ok, h3]
  exact hK _ _ h
theorem clear_run (hgd : op.guard = none) (d : Operand) (t : TypeId) (ho : op.op = .call { callee := .builtin .clear, args := #[d], argTypes := #[t] }) (v : Value) (hd : a.eval d = v) {v' : Value} {w' : World}
  (hr : (Builtin.clear_ #[t] op.type #[v]).run Tryz.prog w = .ok v' w') (h : wpList Tryz.prog ops Q rest (a.put op.dst v') w') : wpList Tryz.prog ops Q (op :: rest) a w :=
 wpList_plain hgd fun _ hK => by
  unfold Oper.wp execOp
  generalize a.eval = ρ at hd ⊢
  subst hd
  simp [ho, go_sem, hr]
  exact hK _ _ h
end
theorem run_clear_rowS {P : Program} (w : World) (t e ty : TypeId) (z : Value) (S : Nat) (ht : P.underlying t = some (.slice e)) (hv : ∀ w, (zeroValue e).run P w = .ok z w) (hz : z.cells.size = S) (hS : 0 < S) (h1 : ∀ u ∈ z.cells.toList, u.oneCell' = true) (g o n c : Nat) (hn : 0 < n) (tb : TypeId) (cur : Array Value) (hg : w.heap[g]? = some (.cells cur tb (0, 0))) (hfit : o + n * S ≤ cur.size) :
  (Builtin.clear_ #[t] ty #[.slice (some ⟨g, o, none⟩) n c]).run P w = .ok (.tuple #[]) (w.setRow g (cur.toList.take o ++ (Builtin.zeroCells z.cells n).toList ++ cur.toList.drop (o + n * S)).toArray) := by
 have hlen : (Builtin.zeroCells z.cells n).toList.length = n * S := by simp [Builtin.zeroCells, hz]
 have h2 := run_storeCells_at P g o tb (Builtin.zeroCells z.cells n).toList 0 cur w hg (by rw [hlen]; omega) (fun u hu => by
  obtain ⟨i, hi, rfl⟩ : ∃ i, i < n * z.cells.size ∧ z.cells[i % z.cells.size]! = u := by simpa [Builtin.zeroCells] using hu
  have hlt : i % z.cells.size < z.cells.size := Nat.mod_lt _ (by omega)
  rw [getElem!_pos z.cells _ hlt]
  exact h1 _ (by simp))
 rw [hlen] at h2
 simp only [Nat.add_zero] at h2
 obtain ⟨m, rfl⟩ : ∃ m, n = m + 1 := ⟨n - 1, by omega⟩
 simp [Builtin.clear_, run_underlying ht, hv, h2]
structure DI (l : List M) (f : M → Bool) (a j : Nat) (cr : Array Value) : Prop where
 n : a = ((l.take j).filter (fun y => !f y)).length
 t : cr.toList.take (a * 3) = rows M.cells ((l.take j).filter (fun y => !f y))
 r : ∀ i (h : i < l.length), j ≤ i → ∀ m u, l[i].cells[m]? = some u → cr.toList[i * 3 + m]? = some u
theorem DI.start {l : List M} {f : M → Bool} {k : Nat} {cr : Array Value} (hk : k < l.length) (hf : f l[k] = true) (hb : ∀ j (hj : j < l.length), j < k → f l[j] = false) (ht : cr.toList.take (l.length * 3) = rows M.cells l) : DI l f k (k + 1) cr := by
 have e : (l.take (k + 1)).filter (fun y => !f y) = l.take k := by
  rw [List.take_succ_eq_append_getElem hk, List.filter_append, List.filter_cons_of_neg (by rw [hf]; simp), List.filter_nil, List.append_nil, List.filter_eq_self]
  intro y hy
  obtain ⟨j, hj, rfl⟩ := List.getElem_of_mem hy
  rw [List.length_take] at hj
  rw [List.getElem_take, hb j (by omega) (by omega)]
  rfl
 refine ⟨?_, ?_, ?_⟩
 ·rw [e, List.length_take]
  omega
 ·rw [e, rows_take M.len, ← ht, List.take_take, Nat.min_eq_left (by omega)]
 ·intro i h hij m u hu
  have h1 := rows_at M.len l i h m u hu
  have hm := (List.getElem?_eq_some_iff.1 hu).1
  rw [M.len] at hm
  rw [← ht, List.getElem?_take] at h1
  split at h1
  ·exact h1
  ·cases h1
theorem DI.skip {l : List M} {f : M → Bool} {a j : Nat} {cr : Array Value} (h : DI l f a j cr) (hj : j < l.length) (hf : f l[j] = true) : DI l f a (j + 1) cr := by
 have e : (l.take (j + 1)).filter (fun y => !f y) = (l.take j).filter (fun y => !f y) := by
  rw [List.take_succ_eq_append_getElem hj, List.filter_append, List.filter_cons_of_neg (by rw [hf]; simp), List.filter_nil, List.append_nil]
 exact ⟨by rw [e]; exact h.n, by rw [e]; exact h.t, fun i hi hij => h.r i hi (by omega)⟩
theorem DI.keep {l : List M} {f : M → Bool} {a j : Nat} {cr : Array Value} (h : DI l f a j cr) (hj : j < l.length) (haj : a < j) (hs : l.length * 3 ≤ cr.size) (hf : f l[j] = false) : DI l f (a + 1) (j + 1) (cr.toList.take (a * 3) ++ l[j].cells ++ cr.toList.drop (a * 3 + 3)).toArray := by
 have e : (l.take (j + 1)).filter (fun y => !f y) = (l.take j).filter (fun y => !f y) ++ [l[j]] := by
  rw [List.take_succ_eq_append_getElem hj, List.filter_append, List.filter_cons_of_pos (by rw [hf]; rfl), List.filter_nil]
 have hl : (cr.toList.take (a * 3)).length = a * 3 := by rw [List.length_take, Array.length_toList]; omega
 refine ⟨?_, ?_, ?_⟩
 ·rw [e, List.length_append, ← h.n]
  rfl
 ·rw [e, rows_append, rows_one, List.toList_toArray, List.take_left' (by rw [List.length_append, hl, M.len]; omega), h.t]
 ·intro i hi hij m u hu
  have hm := (List.getElem?_eq_some_iff.1 hu).1
  rw [M.len] at hm
  have h1 := h.r i hi (by omega) m u hu
  rw [List.toList_toArray, List.getElem?_append_right (by rw [List.length_append, hl, M.len]; omega), List.length_append, hl, M.len, List.getElem?_drop, show a * 3 + 3 + (i * 3 + m - (a * 3 + 3)) = i * 3 + m by omega]
  exact h1
theorem DI.elem {l : List M} {f : M → Bool} {a j g : Nat} {cr : Array Value} {w : World} (h : DI l f a j cr) (hj : j < l.length) (hg : Rw w g 50 cr) : w.rangeAt g (j * 3) l[j].cells := fun m u hu => by
 rw [hg.cell]
 have := h.r j hj (Nat.le_refl _) m u hu
 simpa using this
theorem zero50 : ∀ w, (zeroValue 50).run Tryz.prog w = .ok (MV 0 0 0) w := Tryz.zeroValue50
def DlPost (B : Nat) (v0 : Value) (l : List M) (w : World) (e : Ending) (w' : World) : Prop := ∃ u, e = .returned u ∧ w'.ownsRow B 50 3 u l.length (rows M.cells l) ∧ Kp v0.ownBlock w w' ∧ (u.ownBlock = none ∨ u.ownBlock = v0.ownBlock) ∧ Below B w w'
theorem delete_any (B : Nat) (v0 : Value) (l : List M) (bt bi : Nat) (q u : Int) (v : List Int) (t : Int) (sl : Value) (idx : Int) (w : World) (hv : v.length = 13) (hown : w.ownsRow B 50 3 v0 l.length (rows M.cells l)) (hl : l.length ≤ 100) (hbt : bt < B) (hbi : bi < B) (hBw : B ≤ w.heap.size) (hX : Bxs w bt bi q u v t sl idx) :
  Calls Tryz.prog 125 #[v0, .func (.func 126) #[] #[.pointer (some ⟨bt, 0, none⟩), .pointer (some ⟨bi, 0, none⟩)]] w (DlPost B v0 (l.filter (fun y => !bf y.p y.s y.i q u v idx)) w) := by
 obtain ⟨f, hf⟩ : ∃ f : M → Bool, f = fun y => bf y.p y.s y.i q u v idx := ⟨_, rfl⟩
 have C : ∀ (y : M) (w' : World), Bxs w' bt bi q u v t sl idx → Calls Tryz.prog 126 #[MV y.p y.s y.i, .pointer (some ⟨bt, 0, none⟩), .pointer (some ⟨bi, 0, none⟩)] w' (Tells (.bool (f y)) w') := fun y w' h => by rw [hf]; exact without1_any y bt bi q u v t sl idx w' hv h
 rw [show (fun y : M => !bf y.p y.s y.i q u v idx) = fun y => !f y by rw [hf]]
 clear hf
 obtain ⟨p, c, rfl⟩ := own_sl hown
 have CI := index_any _ l f bt bi w (own_sh hown) hl (fun y w' hb => C y w' (hX.later hb))
 have HX : Hid (Bxs w bt bi q u v t sl idx) := hX
 have HO : Hid (w.ownsRow B 50 3 (.slice p l.length c) l.length (rows M.cells l)) := hown
 clear hown hX
 go_enter Tryz.func125, Tryz.ntmps125
 go_wp2_with fail
 refine CI.mono ?_
 clear CI
 rintro e w1 (⟨rfl, hall, hb1⟩ | ⟨k, hk, rfl, hfk, hbf, hb1⟩)
 ·have HE : Hid (l.filter (fun y => !f y) = l) := by
   show _ = _
   rw [List.filter_eq_self]
   intro y hy
   rw [hall y hy]
   rfl
  clear hall C
  go_wp2_with fail
  go_ret
  refine ⟨_, rfl, ?_, fun b h _ => hb1.block b h, .inr rfl, hb1.mono hBw⟩
  rw [HE.out]
  exact own_later HO.out hb1
 ·obtain ⟨g, rfl, hg⟩ := own_some HO.out (by omega)
  have ho := own_later HO.out hb1
  obtain ⟨hxl, ⟨h0, _⟩ | ⟨g', cap, cur, h0, hBg, hgc, hnc, hcm, hcs, htake⟩⟩ := ho
  ·simp at h0
  simp only [Value.slice.injEq, Option.some.injEq, Addr.mk.injEq, and_true, true_and] at h0
  obtain ⟨rfl, rfl⟩ := h0
  have HD : Hid (DI l f k (k + 1) cur) := DI.start hk hfk hbf htake
  have HB : Hid (Bxs w1 bt bi q u v t sl idx) := HX.out.later hb1
  have HR : Hid (Rw w1 g 50 cur) := hgc
  have hbel := hb1.mono hBw
  have HK : Hid (Kp (some g) w w1) := fun b h _ => hb1.block b h
  have hsw : w.heap.size ≤ w1.heap.size := hb1.size
  clear HX HO hfk hbf htake hxl hgc hb1
  have hkb : ((k : Int) == -1) = false := by
   rw [beq_eq_false_iff_ne]
   omega
  go_wp2_with fail
  go_loopw [5, 6] (fun vi vj wr => ∃ a j : Nat, ∃ cr : Array Value, vi = .int .i64 a ∧ vj = .int .i64 j ∧ j ≤ l.length ∧ a < j ∧ Hid (DI l f a j cr) ∧ cr.size = c * 3 ∧ Hid (Rw wr g 50 cr) ∧ Hid (Bxs wr bt bi q u v t sl idx) ∧ Hid (Kp (some g) w wr) ∧ w.heap.size ≤ wr.heap.size ∧ Below B w wr) (fun _ vj _ => l.length - (intOf vj).toNat)
  case atStart => exact ⟨k, k + 1, cur, rfl, by simp, by omega, by omega, HD, hcs, HR, HB, HK, hsw, hbel⟩
  case round =>
   clear HD hcs HR HB HK hsw hbel
   obtain ⟨a, j, cr, rfl, rfl, hj, haj, HD, hcs, HR, HB, HK, hsw, hbel⟩ := hrel
   by_cases hlt : j < l.length
   ·have hlt' : (j : Int) < (l.length : Int) := by omega
    have hgl := HR.out.lt
    have d := DI.elem HD.out hlt HR.out
    obtain ⟨x, HXX⟩ := hid_ex l[j]
    rw [HXX.out] at d
    have zm : (Tryz.prog.info? 50).map (·.size) = some x.cells.length := size50
    have hbA := bel_alloc (Below.refl wr.heap.size wr) (.cells #[.int .i64 x.p, .int .i64 x.s, .int .i64 x.i] 50)
    have R := rw_new wr 50 #[.int .i64 x.p, .int .i64 x.s, .int .i64 x.i]
    have Cx := C x _ (HB.out.later hbA)
    obtain ⟨y, HY⟩ := hid_ex (f x)
    rw [HY.out] at Cx
    have HF : Hid (f l[j] = y) := by show _ = _; rw [HXX.out, HY.out]
    clear C HY
    have hBr := Nat.le_trans hBw hbel.size
    go_wp2_with (refine load_m 50 _ rfl rfl _ _ rfl d Tryz.underlying50 rfl zm ?_)
    refine Cx.mono ?_
    clear Cx d
    rintro e w2 ⟨rfl, hb2⟩
    have hbC := below_on hbA hb2
    replace R := R.later hb2
    replace HR : Hid (Rw w2 g 50 cr) := HR.out.later hbC
    replace HB : Hid (Bxs w2 bt bi q u v t sl idx) := HB.out.later hbC
    replace hbel := hbel.trans (hbC.mono hBr)
    replace HK : Hid (Kp (some g) w w2) := HK.out.on hsw hbC
    replace hsw := Nat.le_trans hsw hbC.size
    clear hbA hb2 hbC
    cases y
    ·have HD2 : Hid (DI l f (a + 1) (j + 1) (cr.toList.take (a * 3) ++ x.cells ++ cr.toList.drop (a * 3 + 3)).toArray) := by
      have := DI.keep HD.out hlt haj (by omega) HF.out
      rw [HXX.out] at this
      exact this
     have hal' : (a : Int) < (l.length : Int) := by omega
     have ha0 : (0 : Int) ≤ (a : Int) := by omega
     have RR := HR.out
     clear HXX HF
     go_wp2_with (first | refine load_r 50 _ rfl rfl _ rfl R Tryz.underlying50 rfl size50 ?_ | refine store_mr rfl 50 _ _ rfl _ _ #[.int .i64 x.p, .int .i64 x.s, .int .i64 x.i] rfl rfl RR size50 ?hfit (by simp [Value.oneCell']) ?_)
     case hfit => simp; omega
     go_roundw
     case rel =>
      refine ⟨a + 1, j + 1, _, by simp, by simp, by omega, by omega, ?_, ?_, RR.row _, HB.out.row (by omega) (by omega) _, HK.out.row _, (by simpa [World.setRow] using hsw), below_setRow hbel hBg _⟩
      ·have := HD2.out
       simp only [List.append_assoc, List.cons_append, List.nil_append] at this
       exact this
      ·simp
       omega
     case measure => simp [intOf]; omega
    ·have HD2 : Hid (DI l f a (j + 1) cr) := DI.skip HD.out hlt HF.out
     clear HF HXX R
     go_wp2_with fail
     go_roundw
     case rel => exact ⟨a, j + 1, cr, rfl, by simp, by omega, by omega, HD2, hcs, HR, HB, HK, hsw, hbel⟩
     case measure => simp [intOf]; omega
   ·obtain rfl : j = l.length := by omega
    have hlt' : ¬ (l.length : Int) < (l.length : Int) := by omega
    have hal' : (a : Int) < (l.length : Int) := by omega
    have hale : (a : Int) ≤ (l.length : Int) := by omega
    have hca : ¬ (c = a) := by omega
    have hac : (a : Int) ≤ (c : Int) := by omega
    have han : a ≤ l.length := by omega
    have ha0 : (0 : Int) ≤ (a : Int) := by omega
    have RR := HR.out
    have hcl : ∀ ty cc, (Builtin.clear_ #[65] ty #[.slice (some ⟨g, a * 3, none⟩) (l.length - a) cc]).run Tryz.prog wr = .ok (.tuple #[]) (wr.setRow g (cr.toList.take (a * 3) ++ (Builtin.zeroCells (MV 0 0 0).cells (l.length - a)).toList ++ cr.toList.drop (a * 3 + (l.length - a) * 3)).toArray) := fun ty cc => run_clear_rowS wr 65 50 ty _ 3 Tryz.underlying65 zero50 rfl (by decide) (by intro u hu; simp [Value.cells] at hu; rcases hu with rfl | rfl <;> rfl) g (a * 3) _ cc (by omega) 50 cr RR (by omega)
    obtain ⟨cr2, HC2⟩ := hid_ex (cr.toList.take (a * 3) ++ (Builtin.zeroCells (MV 0 0 0).cells (l.length - a)).toList ++ cr.toList.drop (a * 3 + (l.length - a) * 3)).toArray
    rw [HC2.out] at hcl
    have hs2 : cr2.size = c * 3 := by
     rw [← HC2.out]
     simp [Builtin.zeroCells, Value.cells]
     omega
    have ht2 : cr2.toList.take (a * 3) = rows M.cells (l.filter (fun y => !f y)) := by
     have := HD.out.t
     rw [List.take_length] at this
     rw [← HC2.out, ← this, List.toList_toArray, List.append_assoc, List.take_left' (by rw [List.length_take, Array.length_toList]; omega)]
    have hn2 : a = (l.filter (fun y => !f y)).length := by
     have := HD.out.n
     rwa [List.take_length] at this
    have HP : Hid (a = (l.filter (fun y => !f y)).length ∧ cr2.toList.take (a * 3) = rows M.cells (l.filter (fun y => !f y))) := ⟨hn2, ht2⟩
    clear ht2 hn2 HC2 C HD HB HR
    go_wp2_with (first | (at_builtin; refine clear_run rfl _ 65 rfl _ rfl (hcl _ _) ?_))
    go_ret
    refine ⟨_, rfl, ?_, HK.out.row _, .inr rfl, below_setRow hbel hBg _⟩
    obtain ⟨h1, h2⟩ := HP.out
    rw [← h1, ← h2]
    refine ⟨?_, .inr ⟨g, c, cr2, rfl, hBg, RR.row cr2, by omega, hcm, hs2, rfl⟩⟩
    rw [List.length_take, Array.length_toList]
    omega
def FmPost {α : Type} (key : α → K) (l : List α) (x : K) (w : World) (e : Ending) (w' : World) : Prop := ∃ (k : Nat) (b : Bool), e = .returned (.tuple #[.int .i64 k, .bool b]) ∧ k ≤ l.length ∧ (∀ j (h : j < l.length), j < k → kl (key l[j]) x = true) ∧ (∀ j (h : j < l.length), k ≤ j → kl (key l[j]) x = false) ∧ (b = true ↔ ∃ h : k < l.length, key l[k] = x) ∧ Below w.heap.size w w'
theorem findM_any (v : Value) (l : List M) (x : M) (w : World) (h : SHas 3 w v l.length (rows M.cells l)) (hl : l.length ≤ 100) (hp : l.Pairwise (fun a b => kl (kM a) (kM b) = true)) :
  Calls Tryz.prog 120 #[v, MV x.p x.s x.i, .func (.func 121) #[] #[]] w (FmPost kM l (kM x) w) := by
 obtain ⟨pa, ca', rfl⟩ := h.slice
 have hbel := bel_alloc (bel_alloc (bel_alloc (Below.refl w.heap.size w) (.cells #[.slice pa l.length ca'] 65)) (.cells #[.int .i64 x.p, .int .i64 x.s, .int .i64 x.i] 50)) (.cells #[.func (.func 121) #[] #[]] 144)
 have r1 := ((rw_new w 65 #[.slice pa l.length ca']).alloc (.cells #[.int .i64 x.p, .int .i64 x.s, .int .i64 x.i] 50)).alloc (.cells #[.func (.func 121) #[] #[]] 144)
 have r2 := (rw_new (w.alloc (.cells #[.slice pa l.length ca'] 65)) 50 #[.int .i64 x.p, .int .i64 x.s, .int .i64 x.i]).alloc (.cells #[.func (.func 121) #[] #[]] 144)
 have r3 := rw_new ((w.alloc (.cells #[.slice pa l.length ca'] 65)).alloc (.cells #[.int .i64 x.p, .int .i64 x.s, .int .i64 x.i] 50)) 144 #[.func (.func 121) #[] #[]]
 generalize hW : ((w.alloc (.cells #[.slice pa l.length ca'] 65)).alloc (.cells #[.int .i64 x.p, .int .i64 x.s, .int .i64 x.i] 50)).alloc (.cells #[.func (.func 121) #[] #[]] 144) = w0 at hbel r1 r2 r3
 simp only [World.size_alloc, Nat.add_assoc, Nat.reduceAdd] at r2 r3
 have hC : CapM w0 (w.heap.size + 2) w.heap.size (w.heap.size + 1) (.slice pa l.length ca') x := ⟨r3.cell 0, r1.cell 0, r2⟩
 have c1 := hC.l
 replace h := h.later hbel
 clear r1 r2 r3
 go_enter Tryz.func120, Tryz.ntmps120
 go_wp2_with (first | rw [hW])
 clear hW
 refine (searchM_any (w.heap.size + 2) w.heap.size (w.heap.size + 1) _ l x w0 h hl hp hC).mono ?_
 rintro e w1 ⟨k, rfl, hk, h1, h2, hb1⟩
 have H1 : Hid (∀ j (h : j < l.length), j < k → kl (kM l[j]) (kM x) = true) := h1
 have H2 : Hid (∀ j (h : j < l.length), k ≤ j → kl (kM l[j]) (kM x) = false) := h2
 obtain ⟨t, HT⟩ := hid_ex (if h : k < l.length then decide (kM l[k] = kM x) else false)
 have hh := HT.out
 replace h := h.later hb1
 replace hC := hC.later hb1
 replace hbel := below_on hbel hb1
 clear h1 h2 hb1 hp c1
 by_cases hlt : k < l.length
 ·rw [dif_pos hlt] at hh
  have hlt' : (k : Int) < (l.length : Int) := by omega
  have hk0 : (0 : Int) ≤ (k : Int) := by omega
  obtain ⟨g, o, rfl, hd⟩ := h.at (by omega)
  have d := range_sub hd (k * 3) fun j u hu => rows_at M.len l k hlt j u hu
  obtain ⟨y, HY⟩ := hid_ex l[k]
  rw [HY.out] at d hh
  have E := fun w => eq_mark w y.p y.s y.i x.p x.s x.i
  rw [show (decide (y.p = x.p) && decide (y.s = x.s) && decide (y.i = x.i)) = t from (kq _ _ _ _).symm.trans hh] at E
  have ze : (Tryz.prog.info? 50).map (·.size) = some y.cells.length := size50
  have zm : (Tryz.prog.info? 50).map (·.size) = some [Value.int .i64 x.p, .int .i64 x.s, .int .i64 x.i].length := size50
  have HT2 : Hid (t = true ↔ ∃ h : k < l.length, kM l[k] = kM x) := by
   show _ ↔ _
   rw [← HT.out, dif_pos hlt, decide_eq_true_iff]
   exact ⟨fun e => ⟨hlt, e⟩, fun ⟨_, e⟩ => e⟩
  clear hh h hd HY HT
  go_wp2_with fail
  have hs : Calm.Stays (fun w' => CapM w' (w.heap.size + 2) w.heap.size (w.heap.size + 1) (.slice (some ⟨g, o, none⟩) l.length ca') x ∧ w'.rangeAt g (o + k * 3) y.cells ∧ Below w.heap.size w w') := fun wa wb h hb => ⟨h.1.later hb, range_later h.2.1 hb, below_on h.2.2 hb⟩
  refine Calm.region (by kernel_rfl) (by kernel_rfl) (fun w' => CapM w' (w.heap.size + 2) w.heap.size (w.heap.size + 1) (.slice (some ⟨g, o, none⟩) l.length ca') x ∧ w'.rangeAt g (o + k * 3) y.cells ∧ Below w.heap.size w w') ⟨⟨hC.f, hC.l, hC.m⟩, d, hbel.drew⟩ ?_
  iterate 2 (all_goals refine Calm.sp ?_)
  all_goals refine Calm.cl (fun _ h => h.1.l) ?_
  iterate 3 (all_goals refine Calm.sp ?_)
  all_goals first | refine Calm.sk ?_ | refine Calm.cl (fun _ h => h.1.f) ?_
  all_goals first | refine Calm.sk ?_ | refine Calm.cl (fun _ h => h.1.l) ?_
  iterate 2 (all_goals refine Calm.sp ?_)
  all_goals first | refine Calm.sk ?_ | refine Calm.lm ze (fun _ h => h.2.1) Tryz.underlying50 ?_
  all_goals first | refine Calm.sk ?_ | refine Calm.kf1 hs (fun w1 h => itself_any y.p y.s y.i w1) ?_
  all_goals first | refine Calm.sk ?_ | refine Calm.lm zm (fun _ h => Rw.whole h.1.m) Tryz.underlying50 ?_
  iterate 4 (all_goals refine Calm.sp ?_)
  all_goals
   rintro w9 ⟨_, _, hbel9⟩
  go_wp2_with fail
  refine bodyPost_ret (v := .tuple #[.int .i64 k, .bool t]) (by simp [results, Tryz.results120, go_sem]) rfl ?_
  exact ⟨k, _, rfl, hk, H1.out, H2.out, HT2.out, hbel9⟩
 ·rw [dif_neg hlt] at hh
  have hlt' : ¬ (k : Int) < (l.length : Int) := by omega
  subst hh
  have HT2 : Hid (false = true ↔ ∃ h : k < l.length, kM l[k] = kM x) := ⟨fun e => (by cases e), fun ⟨h, _⟩ => absurd h hlt⟩
  clear HT
  go_wp2_with fail
  have hs : Calm.Stays (fun w' => CapM w' (w.heap.size + 2) w.heap.size (w.heap.size + 1) (.slice pa l.length ca') x ∧ Below w.heap.size w w') := fun wa wb h hb => ⟨h.1.later hb, below_on h.2 hb⟩
  refine Calm.region (by kernel_rfl) (by kernel_rfl) (fun w' => CapM w' (w.heap.size + 2) w.heap.size (w.heap.size + 1) (.slice pa l.length ca') x ∧ Below w.heap.size w w') ⟨⟨hC.f, hC.l, hC.m⟩, hbel.drew⟩ ?_
  iterate 2 (all_goals refine Calm.sp ?_)
  all_goals refine Calm.cl (fun _ h => h.1.l) ?_
  iterate 14 (all_goals refine Calm.sp ?_)
  all_goals
   rintro w9 ⟨_, hbel9⟩
  go_wp2_with fail
  refine bodyPost_ret (v := .tuple #[.int .i64 k, .bool false]) (by simp [results, Tryz.results120, go_sem]) rfl ?_
  exact ⟨k, _, rfl, hk, H1.out, H2.out, HT2.out, hbel9⟩
theorem ww_any (v : Value) (l : List M) (x : M) (w : World) (h : MHas w v l) (hl : l.length ≤ 100) (hp : l.Pairwise (fun a b => lt a b = true)) :
  Calls Tryz.prog 83 #[v, MV x.p x.s x.i] w (WwPost (wth l x) w) := by
 obtain ⟨z, HZ⟩ := hid_ex (wth l x)
 rw [HZ.out]
 have hbA := bel_alloc (Below.refl w.heap.size w) (.cells #[.int .i64 x.p, .int .i64 x.s, .int .i64 x.i] 50)
 have R := rw_new w 50 #[.int .i64 x.p, .int .i64 x.s, .int .i64 x.i]
 replace h := h.later hbA
 obtain ⟨p, c, rfl⟩ := h.slice
 have HP : Hid (l.Pairwise (fun a b => lt a b = true)) := hp
 have C1 := findM_any (.slice p l.length c) l x _ h hl hp
 generalize hW : w.alloc (.cells #[.int .i64 x.p, .int .i64 x.s, .int .i64 x.i] 50) = w0 at hbA R h C1
 clear hp
 go_enter Tryz.func83, Tryz.ntmps83
 have c0 : w0.cell? ⟨w.heap.size, 0, none⟩ = some (.int .i64 x.p) := R.cell 0
 have c1 : w0.cell? ⟨w.heap.size, 1, none⟩ = some (.int .i64 x.s) := R.cell 1
 have c2 : w0.cell? ⟨w.heap.size, 2, none⟩ = some (.int .i64 x.i) := R.cell 2
 go_wp2_with (first | rw [hW])
 clear hW c0 c1 c2
 refine C1.mono ?_
 clear C1
 rintro e w1 ⟨k, b, rfl, hk, h1, h2, hb, hb1⟩
 have HE : Hid (z = if b = true then l else l.take k ++ x :: l.drop k) := ww_eq HP.out h1 h2 hb HZ.out
 replace h := h.later hb1
 replace R := R.later hb1
 replace hbA := below_on hbA hb1
 clear h1 h2 hb hb1 HP HZ
 have C2 := clone50_any (.slice p l.length c) l.length (rows M.cells l) w1 h hl (rows_all M.one l)
 go_wp2_with fail
 refine C2.mono ?_
 clear C2
 rintro e w2 ⟨u, rfl, ho, hb2⟩
 replace R := R.later hb2
 have hbB := below_on hbA hb2
 obtain ⟨pu, cu, rfl⟩ := own_sl ho
 cases b
 ·have hne : ∀ k, (Value.slice pu l.length cu).ownBlock = some k → k < w2.heap.size := fun k hk => (World.ownsRow.lt ho k hk).2
  go_wp2_with (first | refine load_r 50 _ rfl rfl _ rfl R Tryz.underlying50 rfl size50 ?_)
  have hbC := bel_alloc (Below.refl w2.heap.size w2) (.cells #[.int .i64 x.p, .int .i64 x.s, .int .i64 x.i] 50)
  refine (insert_any w1.heap.size _ l k w2.heap.size x _ (own_later ho hbC) hk hl (Nat.le_trans hb2.size hbC.size) (rw_new w2 50 _) (fun q hq => by have := hne q hq; omega)).mono ?_
  rintro e w3 ⟨u, rfl, hou, hkp, hnu, hb3⟩
  have HF : Hid (WwPost z w (.returned u) w3) := by
   have e : z = l.take k ++ x :: l.drop k := HE.out
   subst e
   refine ⟨u, rfl, ?_, ?_⟩
   ·rw [show (l.take k ++ x :: l.drop k).length = l.length + 1 by simp; omega]
    exact own_mono hou hbA.size
   ·exact (below_on hbA (below_on hb2 hbC)).trans (hb3.mono hbA.size)
  obtain ⟨p3, c3, rfl⟩ := own_sl hou
  clear hou hkp hnu hb3 hne
  go_wp2_with fail
  go_ret
  exact HF.out
 ·have HF : Hid (WwPost z w (.returned (.slice pu l.length cu)) w2) := by
   have e : z = l := HE.out
   subst e
   exact ⟨_, rfl, own_mono ho hbA.size, hbB⟩
  go_wp2_with fail
  go_ret
  exact HF.out
theorem pair_at {l : List M} (h : l.Pairwise (fun a b => lt a b = true)) (i j : Nat) (hj : j < l.length) (hij : i < j) : lt (l[i]'(by omega)) l[j] = true := (List.pairwise_iff_getElem.1 h) i j (by omega) hj hij
theorem has_at {x : M} {l : List M} {k : Nat} (hp : l.Pairwise (fun a b => lt a b = true)) (h1 : ∀ j (h : j < l.length), j < k → lt l[j] x = true) (h2 : ∀ j (h : j < l.length), k ≤ j → lt l[j] x = false) : has x l = (if h : k < l.length then mk l[k] x else false) := by
 split
 ·rename_i h
  cases e : mk l[k] x
  ·rw [has_false]
   intro y hy
   obtain ⟨j, hj, rfl⟩ := List.getElem_of_mem hy
   cases e2 : mk l[j] x
   ·rfl
   ·exfalso
    rcases Nat.lt_trichotomy j k with h' | h' | h'
    ·have := h1 j hj h'
     rw [mk_lt e2] at this
     cases this
    ·subst h'
     rw [e] at e2
     cases e2
    ·have a1 := pair_at hp k j hj h'
     have a2 := h2 k h (Nat.le_refl _)
     have a3 : lt l[k] x = true := by
      rw [lt_iff] at a1 ⊢
      rw [mk_iff] at e2
      omega
     rw [a3] at a2
     cases a2
  ·unfold has
   rw [List.any_eq_true]
   exact ⟨l[k], List.getElem_mem _, e⟩
 ·rename_i h
  rw [has_false]
  intro y hy
  obtain ⟨j, hj, rfl⟩ := List.getElem_of_mem hy
  have := h1 j hj (by omega)
  cases e2 : mk l[j] x
  ·rfl
  ·rw [mk_lt e2] at this
   cases this
def WiPost (B : Nat) (v : Value) (l : List M) (w : World) (e : Ending) (w' : World) : Prop := ∃ u, e = .returned u ∧ w'.ownsRow B 50 3 u l.length (rows M.cells l) ∧ Kp v.ownBlock w w' ∧ (∀ k, u.ownBlock = some k → v.ownBlock = some k ∨ w.heap.size ≤ k) ∧ Below B w w'
theorem with_any (B : Nat) (v : Value) (l : List M) (x : M) (w : World) (hown : w.ownsRow B 50 3 v l.length (rows M.cells l)) (hl : l.length ≤ 100) (hp : l.Pairwise (fun a b => lt a b = true)) (hB : B ≤ w.heap.size) :
  Calls Tryz.prog 83 #[v, MV x.p x.s x.i] w (WiPost B v (wth l x) w) :=
 (ww_any v l x w (own_sh hown) hl hp).mono fun _ _ ⟨u, he, ho, hb⟩ => ⟨u, he, own_mono ho hB, fun b h1 _ => hb.block b h1, fun k hk => Or.inr (World.ownsRow.lt ho k hk).1, hb.mono hB⟩
end Go.Proofs.YtjbbmcommnhgeaaGreat.Os
namespace Go.Proofs.YtjbbmcommnhgeaaGreat.Os
open Go.RowKit Go.Sort Go.Maps Go.WideMaps
def addX (x : X) (m : M) (s : ByteArray) : X := if (ck x && (im m.i && decide (s.size ≤ 64))) = true then { x with mb := addL x.mb s m } else x
def woX (x : X) (i : Int) (G : Mb → Bool) (p : M → Bool) : X := if (ck x && im i) = true then { x with mb := wo G p x.mb } else x
def delX (x : X) (q u : Int) (v : List Int) (idx : Int) (s : ByteArray) : X := woX x idx (fun y => decide (tx y = bs s)) (bfP q u v idx)
def clX (x : X) (q u : Int) (v : List Int) (idx : Int) : X := woX x idx (fun _ => true) (bfP q u v idx)
theorem ck_x4 {x : X} (h : ck x = true) (l : List Mb) : { x with mb := l } = x4 l := by
 obtain ⟨h1, h2, h3, h4, h5, _⟩ := ck_parts h
 obtain ⟨k, b, am, wr, mb, el⟩ := x
 simp only at *
 subst h1
 subst h2
 obtain rfl := List.eq_nil_of_length_eq_zero h3
 obtain rfl := List.eq_nil_of_length_eq_zero h4
 obtain rfl := List.eq_nil_of_length_eq_zero h5
 rfl
theorem bs_inj {a b : ByteArray} (h : bs a = bs b) : a = b := by
 obtain ⟨⟨a⟩⟩ := a
 obtain ⟨⟨b⟩⟩ := b
 simp only [bs] at h
 rw [h]
section
variable {B : Nat} {w w' : World} {A C : List (Mb × Value)} {y z : Mb × Value}
theorem own_kp {e S n : Nat} {v : Value} {xs : List Value} (h : w.ownsRow B e S v n xs) {o : Option Nat} (hk : Kp o w w') (hne : ∀ k, v.ownBlock = some k → o ≠ some k) : w'.ownsRow B e S v n xs := by
 obtain ⟨h1, ⟨rfl, h0⟩ | ⟨g, cap, cur, rfl, hbg, hg', h2⟩⟩ := h
 ·exact ⟨h1, .inl ⟨rfl, h0⟩⟩
 ·exact ⟨h1, .inr ⟨g, cap, cur, rfl, hbg, (hk g (Array.getElem?_eq_some_iff.1 hg').1 (hne g rfl)).trans hg', h2⟩⟩
theorem below_kp (hb : Below B w w') (hk : Kp none w w') : Below w.heap.size w w' := ⟨hb.os, hb.tape, hb.output, hb.size, fun b h => hk b h (by simp)⟩
theorem _root_.Go.Proofs.YtjbbmcommnhgeaaGreat.OwnB.apart (h : OwnB B w (A ++ y :: C)) : ∀ a ∈ A ++ C, ∀ k, a.2.ownBlock = some k → y.2.ownBlock ≠ some k := by
 have hd := h.d
 rw [List.pairwise_append, List.pairwise_cons] at hd
 intro a ha k hk hy
 rcases List.mem_append.1 ha with h1 | h1
 ·exact hd.2.2 a h1 y (by simp) k hk hy
 ·exact hd.2.1.1 a h1 k hy hk
theorem _root_.Go.Proofs.YtjbbmcommnhgeaaGreat.OwnB.others (h : OwnB B w (A ++ y :: C)) (hk : Kp y.2.ownBlock w w') : OwnB B w' (A ++ C) := by
 refine ⟨fun a ha => ?_, ?_⟩
 ·have hm : a ∈ A ++ y :: C := by
   rcases List.mem_append.1 ha with h1 | h1
   ·exact List.mem_append.2 (.inl h1)
   ·exact List.mem_append.2 (.inr (List.mem_cons_of_mem _ h1))
  exact own_kp (h.o a hm) hk (h.apart a ha)
 ·have hd := h.d
  rw [List.pairwise_append, List.pairwise_cons] at hd
  rw [List.pairwise_append]
  exact ⟨hd.1, hd.2.1.2, fun a ha b hb => hd.2.2 a ha b (List.mem_cons_of_mem _ hb)⟩
theorem _root_.Go.Proofs.YtjbbmcommnhgeaaGreat.OwnB.mid (h : OwnB B w (A ++ C)) (hz : w.ownsRow B 50 3 z.2 z.1.ms.length (rows M.cells z.1.ms)) (hn : ∀ k, z.2.ownBlock = some k → ∀ a ∈ A ++ C, a.2.ownBlock ≠ some k) : OwnB B w (A ++ z :: C) := by
 have hd := h.d
 rw [List.pairwise_append] at hd
 refine ⟨fun a ha => ?_, ?_⟩
 ·rcases List.mem_append.1 ha with h1 | h1
  ·exact h.o a (List.mem_append.2 (.inl h1))
  ·rcases List.mem_cons.1 h1 with rfl | h1
   ·exact hz
   ·exact h.o a (List.mem_append.2 (.inr h1))
 ·rw [List.pairwise_append, List.pairwise_cons]
  refine ⟨hd.1, ⟨fun a ha k hk => hn k hk a (List.mem_append.2 (.inr ha)), hd.2.1⟩, fun a ha b hb k hk => ?_⟩
  rcases List.mem_cons.1 hb with rfl | hb
  ·exact fun h2 => hn k h2 a (List.mem_append.2 (.inl ha)) hk
  ·exact hd.2.2 a ha b hb k hk
theorem map_ne {b n e S m : Nat} {D : DataW Value} {v : Value} {xs : List Value} (hown : w.ownsMap Tryz.prog 9 vE b n D) (h : w.ownsRow B e S v m xs) : ∀ k, v.ownBlock = some k → b ≠ k := by
 intro k hk e
 subst e
 obtain ⟨es, clock, hb, _⟩ := hown
 obtain ⟨_, ⟨rfl, _⟩ | ⟨g, cap, cur, rfl, _, hg, _⟩⟩ := h
 ·cases hk
 ·have e1 := Option.some.inj hk
  simp only at e1
  subst e1
  rw [hg] at hb
  cases hb
theorem _root_.Go.Proofs.YtjbbmcommnhgeaaGreat.OwnB.turned {b n : Nat} {D : DataW Value} {ms : List (Mb × Value)} (h : OwnB B w ms) (hown : w.ownsMap Tryz.prog 9 vE b n D) (hg : w.grownBy w' (some b)) : OwnB B w' ms :=
 ⟨fun a ha => own_grown (h.o a ha) hg (fun k hk e => map_ne hown (h.o a ha) k hk (Option.some.inj e)), h.d⟩
theorem map_kp {b n : Nat} {D : DataW Value} (hown : w.ownsMap Tryz.prog 9 vE b n D) {o : Option Nat} (hk : Kp o w w') (hne : o ≠ some b) : w'.ownsMap Tryz.prog 9 vE b n D := by
 obtain ⟨es, clock, hb, F, hs, hE⟩ := hown
 exact ⟨es, clock, (hk b (Array.getElem?_eq_some_iff.1 hb).1 hne).trans hb, F, hs, hE⟩
theorem map_later {b n : Nat} {D : DataW Value} (hown : w.ownsMap Tryz.prog 9 vE b n D) (hb : Below w.heap.size w w') : w'.ownsMap Tryz.prog 9 vE b n D := map_kp hown (o := none) (fun b h _ => hb.block b h) (by simp)
theorem _root_.Go.Proofs.YtjbbmcommnhgeaaGreat.Rw.turned {b n p : Nat} {D : DataW Value} {t : TypeId} {cs : Array Value} (R : Rw w p t cs) (hown : w.ownsMap Tryz.prog 9 vE b n D) (hg : w.grownBy w' (some b)) : Rw w' p t cs := by
 refine (hg.block p R.lt (fun e => ?_)).trans R
 obtain rfl := Option.some.inj e
 obtain ⟨es, clock, hb, _⟩ := hown
 rw [show w.heap[p]? = _ from R] at hb
 cases hb
end
theorem upB_split {ms : List (Mb × Value)} (h : upB ms) (s : Bs) : (∀ y ∈ ms, tx y.1 ≠ s) ∨ ∃ A y C, ms = A ++ y :: C ∧ tx y.1 = s ∧ (∀ a ∈ A, tx a.1 < s) ∧ ∀ c ∈ C, s < tx c.1 := by
 by_cases hs : ∃ y ∈ ms, tx y.1 = s
 ·obtain ⟨y, hy, e⟩ := hs
  obtain ⟨A, C, rfl⟩ := List.append_of_mem hy
  right
  unfold upB at h
  rw [List.pairwise_append, List.pairwise_cons] at h
  exact ⟨A, y, C, rfl, e, fun a ha => by rw [← e]; exact h.2.2 a ha y (by simp), fun c hc => by rw [← e]; exact h.2.1.1 c hc⟩
 ·left
  exact fun y hy e => hs ⟨y, hy, e⟩
theorem putV_mid {A C : List (Mb × Value)} {y z : Mb × Value} (e : tx y.1 = tx z.1) (h1 : ∀ a ∈ A, tx a.1 < tx z.1) (h2 : ∀ c ∈ C, tx z.1 < tx c.1) : putV z (A ++ y :: C) = A ++ z :: C := by
 unfold putV
 have e1 : A.filter (fun a => decide (tx a.1 < tx z.1)) = A := List.filter_eq_self.2 (fun a ha => decide_eq_true (h1 a ha))
 have e2 : A.filter (fun a => decide (tx z.1 < tx a.1)) = [] := List.filter_eq_nil_iff.2 (fun a ha => by simpa using Bs.le_of (h1 a ha))
 have e3 : C.filter (fun a => decide (tx a.1 < tx z.1)) = [] := List.filter_eq_nil_iff.2 (fun a ha => by simpa using Bs.le_of (h2 a ha))
 have e4 : C.filter (fun a => decide (tx z.1 < tx a.1)) = C := List.filter_eq_self.2 (fun a ha => decide_eq_true (h2 a ha))
 have n1 : ¬ tx y.1 < tx z.1 := by rw [e]; exact Bs.irr _
 have n2 : ¬ tx z.1 < tx y.1 := by rw [e]; exact Bs.irr _
 rw [List.filter_append, List.filter_append, List.filter_cons_of_neg (by simpa using n1), List.filter_cons_of_neg (by simpa using n2), e1, e2, e3, e4]
 simp
theorem delV_mid {A C : List (Mb × Value)} {y : Mb × Value} {s : Bs} (e : tx y.1 = s) (h1 : ∀ a ∈ A, tx a.1 < s) (h2 : ∀ c ∈ C, s < tx c.1) : delV s (A ++ y :: C) = A ++ C := by
 unfold delV
 rw [List.filter_append, List.filter_cons_of_neg (by simpa using e), List.filter_eq_self.2 (fun a ha => ?_), List.filter_eq_self.2 (fun a ha => ?_)]
 ·refine decide_eq_true (fun e => ?_)
  have := h2 a ha
  rw [e] at this
  exact Bs.irr _ this
 ·refine decide_eq_true (fun e => ?_)
  have := h1 a ha
  rw [e] at this
  exact Bs.irr _ this
theorem delV_none {ms : List (Mb × Value)} {s : Bs} (h : ∀ y ∈ ms, tx y.1 ≠ s) : delV s ms = ms := List.filter_eq_self.2 (fun a ha => decide_eq_true (h a ha))
theorem wo_mid {A C : List Mb} {y : Mb} {s : Bs} (p : M → Bool) (e : tx y = s) (h1 : ∀ a ∈ A, tx a < s) (h2 : ∀ c ∈ C, s < tx c) : wo (fun y => decide (tx y = s)) p (A ++ y :: C) = A ++ (dm p y).toList ++ C := by
 rw [wo_append, wo_none p (fun a ha => decide_eq_false (fun e => ?_)), show y :: C = [y] ++ C from rfl, wo_append, wo_none (l := C) p (fun a ha => decide_eq_false (fun e => ?_))]
 ·have : wo (fun y => decide (tx y = s)) p [y] = (dm p y).toList := by
   simp only [wo, List.filterMap_cons, List.filterMap_nil, e, decide_true, if_true]
   cases dm p y <;> rfl
  rw [this, List.append_assoc]
 ·have := h2 a ha
  rw [e] at this
  exact Bs.irr _ this
 ·have := h1 a ha
  rw [e] at this
  exact Bs.irr _ this
end Go.Proofs.YtjbbmcommnhgeaaGreat.Os
