import Derived.Test.YtjbbmcommnhgeaaGreatPc13
set_option maxRecDepth 100000
set_option maxHeartbeats 8000000
namespace Go.Proofs.YtjbbmcommnhgeaaGreat.Rg
open Go.RowKit
theorem four_zero {w w' : World} {x : X} {va vw vm ve : Value} (h : Four w x va vw vm ve) (h1 : x.am.length = 0) (h2 : x.mb.length = 0) (h3 : x.el.length = 0) {vw' : Value} {l : List Wt} (ha : WHas w' vw' l) : Four w' { x with wr := l } va vw' vm ve := by
 obtain ⟨k, b, am, wr, mb, el⟩ := x
 obtain rfl := List.eq_nil_of_length_eq_zero h1
 obtain rfl := List.eq_nil_of_length_eq_zero h2
 obtain rfl := List.eq_nil_of_length_eq_zero h3
 obtain ⟨ht, _, ⟨ms, e1, e2, _⟩, ⟨es, e3, e4, _⟩⟩ := h
 obtain rfl := List.map_eq_nil_iff.1 e1
 obtain rfl := List.map_eq_nil_iff.1 e3
 exact ⟨SHas.zero ht, ha, ⟨[], rfl, SHas.zero e2, fun _ h => by cases h⟩, ⟨[], rfl, SHas.zero e4, fun _ h => by cases h⟩⟩
def lef (l : List Wt) (q u : Int) (v : List Int) (idx : Int) : List Wt := l.filter (fun y => !bf y.p y.s y.i q u v idx)
def clX (x : X) (q u : Int) (v : List Int) (idx : Int) : X := if ck x = true then { x with wr := lef x.wr q u v idx } else x
def ClrPost (z : X) (w : World) (e : Ending) (w' : World) : Prop := ∃ va vw vm ve, e = .returned (CV z.k z.b va vw vm ve) ∧ Four w' z va vw vm ve ∧ w'.ownsRow w.heap.size 64 5 vw z.wr.length (rows Wt.cells z.wr) ∧ Below w.heap.size w w'
theorem clear_own (x : X) (va vw vm ve : Value) (q u : Int) (v : List Int) (t : Int) (sl : Value) (idx : Int) (w : World) (hv : v.length = 13) (h : Four w x va vw vm ve) (hs : Sm x) :
  Calls Tryz.prog 79 #[CV x.k x.b va vw vm ve, TxV q u v t sl, .int .i64 idx] w (ClrPost (clX x q u v idx) w) := by
 obtain ⟨pa, ca', pw, cw, pm, cm, pe, ce, rfl, rfl, rfl, rfl⟩ := h.slices
 have HF : Hid (Four w x (.slice pa x.am.length ca') (.slice pw x.wr.length cw) (.slice pm x.mb.length cm) (.slice pe x.el.length ce)) := h
 clear h
 obtain ⟨z, HZ⟩ := hid_ex (clX x q u v idx)
 rw [HZ.out]
 have R0 := (((rw_new w 27 (cx x pa ca' pw cw pm cm pe ce)).alloc (.cells (txc q u v t sl).toArray 34)).alloc (.cells #[.int .i64 idx] 3)).alloc (.cells z4 27)
 have R1 := ((rw_new (w.alloc (.cells (cx x pa ca' pw cw pm cm pe ce) 27)) 34 (txc q u v t sl).toArray).alloc (.cells #[.int .i64 idx] 3)).alloc (.cells z4 27)
 have R2 := (rw_new ((w.alloc (.cells (cx x pa ca' pw cw pm cm pe ce) 27)).alloc (.cells (txc q u v t sl).toArray 34)) 3 #[.int .i64 idx]).alloc (.cells z4 27)
 have R3 := rw_new (((w.alloc (.cells (cx x pa ca' pw cw pm cm pe ce) 27)).alloc (.cells (txc q u v t sl).toArray 34)).alloc (.cells #[.int .i64 idx] 3)) 27 z4
 have hbel := bel_alloc (bel_alloc (bel_alloc (bel_alloc (Below.refl w.heap.size w) (.cells (cx x pa ca' pw cw pm cm pe ce) 27)) (.cells (txc q u v t sl).toArray 34)) (.cells #[.int .i64 idx] 3)) (.cells z4 27)
 have hsz : ((((w.alloc (.cells (cx x pa ca' pw cw pm cm pe ce) 27)).alloc (.cells (txc q u v t sl).toArray 34)).alloc (.cells #[.int .i64 idx] 3)).alloc (.cells z4 27)).heap.size = w.heap.size + 4 := by simp
 generalize hW : (((w.alloc (.cells (cx x pa ca' pw cw pm cm pe ce) 27)).alloc (.cells (txc q u v t sl).toArray 34)).alloc (.cells #[.int .i64 idx] 3)).alloc (.cells z4 27) = w0 at R0 R1 R2 R3 hbel hsz
 simp only [World.size_alloc, Nat.add_assoc, Nat.reduceAdd] at R1 R2 R3
 go_enter Tryz.func79, Tryz.ntmps79
 go_wp2_with (first | rw [hW] | refine load_r 27 _ rfl rfl _ rfl R0 Tryz.underlying27 rfl size27 ?_)
 clear hW
 refine (copied_any x _ _ _ _ w0 (HF.out.later hbel) hs).mono ?_
 rintro e w1 ⟨ua, uw, um, ue, rfl, ho, hb1⟩
 obtain ⟨qa, da, qw, dw, qm, dm, qe, de, rfl, rfl, rfl, rfl⟩ := ho.four.slices
 rw [hsz] at ho
 replace R0 := R0.later hb1
 replace R1 := R1.later hb1
 replace R2 := R2.later hb1
 replace R3 := R3.later hb1
 replace hbel := below_on hbel hb1
 have hB : w.heap.size + 4 ≤ w1.heap.size := by have := hb1.size; omega
 clear hb1 hsz
 have hlt := World.ownsRow.lt ho.t
 have hbA := bel_alloc (Below.refl w1.heap.size w1) (.cells (cx x qa da qw dw qm dm qe de) 27)
 have R7 := rw_new w1 27 (cx x qa da qw dw qm dm qe de)
 replace R0 := R0.later hbA
 replace R1 := R1.later hbA
 replace R2 := R2.later hbA
 replace R3 := R3.later hbA
 replace ho := ho.later hbA
 replace hbel := below_on hbel hbA
 have hne : ∀ k, (Value.slice qw x.wr.length dw).ownBlock = some k → k ≠ w1.heap.size := fun k hk => by have := (hlt k hk).2; omega
 have h7 : w.heap.size + 4 ≤ w1.heap.size := hB
 replace hB : w.heap.size + 4 ≤ (w1.alloc (.cells (cx x qa da qw dw qm dm qe de) 27)).heap.size := Nat.le_trans hB hbA.size
 clear hlt hbA
 generalize hW : w1.alloc (.cells (cx x qa da qw dw qm dm qe de) 27) = w2 at R0 R1 R2 R3 R7 ho hbel hB
 go_wp2_with (first | rw [hW] | refine load_r 27 _ rfl rfl _ rfl R0 Tryz.underlying27 rfl size27 ?_)
 clear hW
 refine (check_any x _ _ _ _ w2 (HF.out.later hbel) hs).mono ?_
 rintro e w3 ⟨rfl, hb1⟩
 replace R1 := R1.later hb1
 replace R2 := R2.later hb1
 replace R3 := R3.later hb1
 replace R7 := R7.later hb1
 replace ho := ho.later hb1
 replace hbel := below_on hbel hb1
 replace hB := Nat.le_trans hB hb1.size
 clear hb1 R0 HF
 obtain ⟨y1, HY1⟩ := hid_ex (ck x)
 rw [HY1.out]
 cases y1
 ·have HD : Hid (clX x q u v idx = x) := by
   show _ = _
   unfold clX
   rw [HY1.out]
   rfl
  rw [HD.out] at HZ
  go_wp2_with (first | refine load_r 27 _ rfl rfl _ rfl R7 Tryz.underlying27 rfl size27 ?_ | refine store_r rfl 27 _ _ rfl _ (cx x qa da qw dw qm dm qe de) rfl rfl R3 size27 rfl (by simp [Value.oneCell']) ?_)
  refine bodyPost_ret (results_r rfl rfl (R3.row (cx x qa da qw dw qm dm qe de)) rfl Tryz.underlying27 size27) rfl ?_
  have e := HZ.out
  subst e
  have ho2 := ho.row (by omega) R3 (cx x qa da qw dw qm dm qe de)
  exact ⟨_, _, _, _, rfl, ho2.four, own_mono ho2.t (by omega), below_setRow hbel (by omega) _⟩
 ·have HD : Hid (clX x q u v idx = { x with wr := lef x.wr q u v idx }) := by
   show _ = _
   unfold clX
   rw [HY1.out]
   rfl
  have c3 : w3.cell? ⟨w1.heap.size, 3, none⟩ = some (.slice qw x.wr.length dw) := R7.cell 3
  go_wp2_with fail
  refine (delete_any (w.heap.size + 4) _ x.wr _ _ q u v t sl idx w3 hv ho.t hs.t (by omega) (by omega) hB ⟨R1, R2⟩).mono ?_
  rintro e w4 ⟨ub, rfl, hob, hkp, hub, hb1⟩
  replace hob : w4.ownsRow (w.heap.size + 4) 64 5 ub (lef x.wr q u v idx).length (rows Wt.cells (lef x.wr q u v idx)) := hob
  obtain ⟨qb, db, rfl⟩ := own_sl hob
  have hlb := World.ownsRow.lt hob
  replace R3 : Rw w4 (w.heap.size + 3) 27 _ := (hb1.block _ (by omega)).trans R3
  replace R7 : Rw w4 w1.heap.size 27 _ := (hkp _ R7.lt (fun e => hne _ e rfl)).trans R7
  have hnb : ∀ k, (Value.slice qb (lef x.wr q u v idx).length db).ownBlock = some k → k ≠ w1.heap.size := fun k hk => by
   rcases hub with h | h
   ·rw [h] at hk
    cases hk
   ·rw [h] at hk
    exact hne k hk
  replace hbel := hbel.trans (hb1.mono (by omega))
  have hz0 := ck_parts HY1.out
  have hfz : ∀ w' : World, WHas w' (.slice qb (lef x.wr q u v idx).length db) (lef x.wr q u v idx) → Four w' { x with wr := lef x.wr q u v idx } (.slice qa x.am.length da) (.slice qb (lef x.wr q u v idx).length db) (.slice qm x.mb.length dm) (.slice qe x.el.length de) := fun w' ha => four_zero ho.four hz0.2.2.1 hz0.2.2.2.1 hz0.2.2.2.2.1 ha
  have HFZ : Hid (∀ w' : World, WHas w' (.slice qb (lef x.wr q u v idx).length db) (lef x.wr q u v idx) → Four w' { x with wr := lef x.wr q u v idx } (.slice qa x.am.length da) (.slice qb (lef x.wr q u v idx).length db) (.slice qm x.mb.length dm) (.slice qe x.el.length de)) := hfz
  clear hfz hz0 hkp hb1 hub c3 ho
  obtain ⟨m, HM⟩ := hid_ex (lef x.wr q u v idx)
  rw [HM.out] at HFZ hob hnb HD ⊢
  have c4 : w4.cell? ⟨w1.heap.size, 3, none⟩ = some (.slice qw x.wr.length dw) := R7.cell 3
  have f4 : w4.frozen? ⟨w1.heap.size, 3, none⟩ = false := R7.frozen 3
  replace R7 : Rw (w4.setCell ⟨w1.heap.size, 3, none⟩ (.slice qb m.length db)) w1.heap.size 27 (cvc x.k x.b (.slice qa x.am.length da) (.slice qb m.length db) (.slice qm x.mb.length dm) (.slice qe x.el.length de)) := R7.set 3 _
  replace R3 := R3.setOther (q := w1.heap.size) (by omega) 3 (.slice qb m.length db)
  replace hob := own_over hob (b := w1.heap.size) hnb 3 (.slice qb m.length db)
  replace hbel := hbel.setCell (p := ⟨w1.heap.size, 3, none⟩) (by show w.heap.size ≤ w1.heap.size; omega) (.slice qb m.length db)
  generalize hW : w4.setCell ⟨w1.heap.size, 3, none⟩ (.slice qb m.length db) = w5 at R7 R3 hob hbel
  go_wp2_with (first | rw [hW] | refine load_r 27 _ rfl rfl _ rfl R7 Tryz.underlying27 rfl size27 ?_ | refine store_r rfl 27 _ _ rfl _ (cvc x.k x.b (.slice qa x.am.length da) (.slice qb m.length db) (.slice qm x.mb.length dm) (.slice qe x.el.length de)) rfl rfl R3 size27 rfl (by simp [Value.oneCell']) ?_)
  refine bodyPost_ret (results_r rfl rfl (R3.row _) rfl Tryz.underlying27 size27) rfl ?_
  rw [HD.out] at HZ
  have e := HZ.out
  subst e
  have hf := own_row hob (b := w.heap.size + 3) (by omega) (cvc x.k x.b (.slice qa x.am.length da) (.slice qb m.length db) (.slice qm x.mb.length dm) (.slice qe x.el.length de))
  exact ⟨_, _, _, _, rfl, HFZ.out _ (own_sh hf), own_mono hf (by omega), below_setRow hbel (by omega) _⟩
theorem clear_any (x : X) (va vw vm ve : Value) (q u : Int) (v : List Int) (t : Int) (sl : Value) (idx : Int) (w : World) (hv : v.length = 13) (h : Four w x va vw vm ve) (hs : Sm x) :
  Calls Tryz.prog 79 #[CV x.k x.b va vw vm ve, TxV q u v t sl, .int .i64 idx] w (Gives (clX x q u v idx) w) :=
 (clear_own x va vw vm ve q u v t sl idx w hv h hs).mono fun _ _ ⟨ua, uw, um, ue, e, hf, _, hb⟩ => ⟨ua, uw, um, ue, e, hf, hb⟩
end Go.Proofs.YtjbbmcommnhgeaaGreat.Rg
namespace Go.Proofs.YtjbbmcommnhgeaaGreat.Os
open Go.RowKit Go.Sort
def TtPost (l : List Bs) (w : World) (e : Ending) (w' : World) : Prop := ∃ u, e = .returned u ∧ THas w' u l ∧ Below w.heap.size w w'
theorem one_str (y : ByteArray) : ∀ u ∈ [Value.string y], u.oneCell' = true := by
 intro u hu
 rw [List.mem_singleton.1 hu]
 rfl
theorem txL_take {l : List Mb} {k : Nat} (h : k < l.length) : (txL (l.take (k + 1))).map encStr = (txL (l.take k)).map encStr ++ [.string l[k].x] := by
 unfold txL
 rw [List.take_succ_eq_append_getElem h, List.map_append, List.map_append]
 rfl
theorem texts_any (v : Value) (l : List Mb) (w : World) (h : BHas w v l) (hl : l.length ≤ 200) : Calls Tryz.prog 228 #[v] w (TtPost (txL l) w) := by
 obtain ⟨i0, hi, hz0, hz1, hz2⟩ := info_parts info9
 obtain ⟨ys, hys, h, hy⟩ := h
 obtain ⟨p, c, rfl⟩ := h.slice
 have hyl : ys.length = l.length := by rw [← hys, List.length_map]
 have HR : Hid (SHas 3 w (.slice p l.length c) l.length (rows Mb.cells ys)) := h
 have HY : Hid (∀ y ∈ ys, MHas w y.2 y.1.ms) := hy
 have HL : Hid (∀ k (h1 : k < ys.length) (h2 : k < l.length), ys[k].1 = l[k]) := fun k h1 h2 => by
  subst hys
  rw [List.getElem_map]
 clear h hy hys
 go_enter Tryz.func228, Tryz.ntmps228
 go_wp2
 go_loopw [3, 8] (fun vn vi wr => ∃ k : Nat, vi = .int .i64 k ∧ k ≤ l.length ∧ wr.ownsRow w.heap.size 9 1 vn k ((txL (l.take k)).map encStr) ∧ Below w.heap.size w wr) (fun _ vi _ => l.length - (intOf vi).toNat)
 case atStart => exact ⟨0, rfl, by omega, by rw [List.take_zero]; exact World.ownsRow_nil _ _ _ _, Below.refl _ _⟩
 case round =>
  obtain ⟨k, rfl, hk, hown, hbel⟩ := hrel
  obtain ⟨P, cc, rfl⟩ := own_sl hown
  by_cases hlt : k < l.length
  ·have hlt' : (k : Int) < (l.length : Int) := by omega
   obtain ⟨g, o, rfl, hd0⟩ := HR.out.at (by omega)
   have d := Mb.elem (range_later hd0 hbel) k (by omega)
   have hyk := (HY.out ys[k] (List.getElem_mem _)).later hbel
   have HT := txL_take hlt
   rw [← HL.out k (by omega) hlt] at HT
   have HTT : Hid ((txL (l.take (k + 1))).map encStr = (txL (l.take k)).map encStr ++ [.string (ys[k]'(by omega)).1.x]) := HT
   clear HT hd0
   obtain ⟨yy, HX⟩ := hid_ex (ys[k]'(by omega))
   rw [HX.out] at d hyk HTT
   obtain ⟨y, yv⟩ := yy
   replace hyk : MHas wr yv y.ms := hyk
   obtain ⟨py, cy, rfl⟩ := hyk.slice
   replace d : wr.rangeAt g (o + k * 3) [Value.string y.x, .bool y.b, .slice py y.ms.length cy] := d
   replace HTT : Hid ((txL (l.take (k + 1))).map encStr = (txL (l.take k)).map encStr ++ [.string y.x]) := HTT
   clear HX hyk
   have zb : (Tryz.prog.info? 67).map (·.size) = some [Value.string y.x, .bool y.b, .slice py y.ms.length cy].length := size67
   have R5 := rw_new wr 67 #[.string y.x, .bool y.b, .slice py y.ms.length cy]
   have hbA := bel_alloc (Below.refl wr.heap.size wr) (.cells #[.string y.x, .bool y.b, .slice py y.ms.length cy] 67)
   have hBg : ∀ q', (Value.slice P k cc).ownBlock = some q' → w.heap.size ≤ q' := fun q' hq => (World.ownsRow.lt hown q' hq).1
   replace hown := own_later hown hbA
   replace hbel := below_on hbel hbA
   generalize hW : wr.alloc (.cells #[.string y.x, .bool y.b, .slice py y.ms.length cy] 67) = w1 at R5 hown hbel
   have cx : w1.cell? ⟨wr.heap.size, 0, none⟩ = some (.string y.x) := R5.cell 0
   clear hbA
   go_wp2_with (first
    | rw [hW]
    | refine load_m 67 _ rfl rfl _ _ rfl d Tryz.underlying67 rfl zb ?_
    | (at_builtin; refine wpList_append_own _ rfl _ _ 43 rfl w.heap.size 9 i0 (.string noS) 1 16 Tryz.underlying43 hi hz0 hz1 hz2 rfl (by decide) _ _ _ rfl (hown.alloc _) ⟨w1.heap.size, 0, none⟩ 1 1 [.string y.x] rfl rfl ?c1 ?c2 ?c3 ?c4 ?c5 ?_))
   case c1 => exact fun q u hq => (cells_next _ (by simp) _ _ _).trans hq
   case c2 => exact one_str y.x
   case c3 => unfold maxLen; omega
   case c4 => omega
   case c5 => have := hbel.size; simp; omega
   intro v2 w6 hown6 hg6 _
   go_wp2_with fail
   go_roundw
   case rel => exact ⟨k + 1, by simp, by omega, by rw [HTT.out]; exact hown6, (bel_alloc hbel _).grown hg6 (by have := hbel.size; simp; omega) (fun q' hq => hBg q' hq)⟩
   case measure => simp [intOf]; omega
  ·have hlt' : ¬ (k : Int) < (l.length : Int) := by omega
   obtain rfl : k = l.length := by omega
   rw [List.take_length] at hown
   have hsh := own_sh hown
   have HS : Hid (SHas 1 wr (.slice P l.length cc) l.length ((txL l).map encStr)) := hsh
   clear HR HY HL hown hsh
   go_wp2_with fail
   go_ret
   refine ⟨_, rfl, ?_, hbel⟩
   show SHas 1 _ _ (txL l).length _
   rw [show (txL l).length = l.length by simp [txL]]
   exact HS.out
def rdK (x : X) : Int := if ck x = true then 4 else 0
def rdT (x : X) : List Bs := if ck x = true then txL x.mb else []
def RdPost (x : X) (w : World) (e : Ending) (w' : World) : Prop := ∃ u, e = .returned (VV (rdK x) u) ∧ THas w' u (rdT x) ∧ Below w.heap.size w w'
def thP (l : List Bs) : Value → World → Prop := fun u w => THas w u l
theorem thP_keeps (l : List Bs) : Keeps (thP l) := fun _ _ _ h hb => h.later hb
theorem read_any (x : X) (va vw vm ve : Value) (w : World) (h : Four w x va vw vm ve) (hs : Sm x) : Calls Tryz.prog 227 #[CV x.k x.b va vw vm ve] w (RdPost x w) := by
 obtain ⟨pa, ca', pw, cw, pm, cm, pe, ce, rfl, rfl, rfl, rfl⟩ := h.slices
 have HF : Hid (Four w x (.slice pa x.am.length ca') (.slice pw x.wr.length cw) (.slice pm x.mb.length cm) (.slice pe x.el.length ce)) := h
 clear h
 have R0 := (rw_new w 27 (cvc x.k x.b (.slice pa x.am.length ca') (.slice pw x.wr.length cw) (.slice pm x.mb.length cm) (.slice pe x.el.length ce))).alloc (.cells #[.int .i64 0, .int .i64 0, .slice none 0 0, .slice none 0 0] 46)
 have R1 := rw_new (w.alloc (.cells (cvc x.k x.b (.slice pa x.am.length ca') (.slice pw x.wr.length cw) (.slice pm x.mb.length cm) (.slice pe x.el.length ce)) 27)) 46 #[.int .i64 0, .int .i64 0, .slice none 0 0, .slice none 0 0]
 have hbel := bel_alloc (bel_alloc (Below.refl w.heap.size w) (.cells (cvc x.k x.b (.slice pa x.am.length ca') (.slice pw x.wr.length cw) (.slice pm x.mb.length cm) (.slice pe x.el.length ce)) 27)) (.cells #[.int .i64 0, .int .i64 0, .slice none 0 0, .slice none 0 0] 46)
 generalize hW : (w.alloc (.cells (cvc x.k x.b (.slice pa x.am.length ca') (.slice pw x.wr.length cw) (.slice pm x.mb.length cm) (.slice pe x.el.length ce)) 27)).alloc (.cells #[.int .i64 0, .int .i64 0, .slice none 0 0, .slice none 0 0] 46) = w0 at R0 R1 hbel
 simp only [World.size_alloc] at R1
 have HP : Hid (∀ e w', RdPost x w e w' ↔ ∃ u, e = .returned (VV (rdK x) u) ∧ THas w' u (rdT x) ∧ Below w.heap.size w w') := fun _ _ => Iff.rfl
 go_enter Tryz.func227, Tryz.ntmps227
 go_wp2_with (first | rw [hW] | refine load_r 27 _ rfl rfl _ rfl R0 Tryz.underlying27 rfl size27 ?_)
 clear hW
 refine (check_any x _ _ _ _ w0 (HF.out.later hbel) hs).mono ?_
 rintro e w1 ⟨rfl, hb1⟩
 replace R0 := R0.later hb1
 replace R1 := R1.later hb1
 replace hbel := below_on hbel hb1
 clear hb1
 obtain ⟨y1, HY1⟩ := hid_ex (ck x)
 have HK : Hid (rdK x = if y1 = true then 4 else 0) := by show _ = _; unfold rdK; rw [HY1.out]
 have HT : Hid (rdT x = if y1 = true then txL x.mb else []) := by show _ = _; unfold rdT; rw [HY1.out]
 rw [HY1.out]
 clear HY1
 cases y1
 ·have hz : z4.size = 6 := rfl
  go_wp2_with (first | refine store_r rfl 46 _ _ rfl _ #[.int .i64 0, .int .i64 0, .slice none 0 0, .slice none 0 0] rfl rfl R1 size46 rfl (by simp [Value.oneCell']) ?_)
  refine bodyPost_ret (results_r rfl rfl (R1.row _) rfl Tryz.underlying46 size46) rfl ?_
  rw [HP.out, HK.out, HT.out]
  exact ⟨_, rfl, THas.nil _, below_setRow hbel (by omega) _⟩
 ·have c4 : w1.cell? ⟨w.heap.size, 4, none⟩ = some (.slice pm x.mb.length cm) := R0.cell 4
  go_wp2_with fail
  refine (texts_any _ x.mb w1 (HF.out.m.later hbel) (by have := hs.m; omega)).mono ?_
  rintro e w2 ⟨ut, rfl, ht, hb2⟩
  obtain ⟨pt, ct, rfl⟩ := ht.slice
  replace R1 := R1.later hb2
  replace hbel := below_on hbel hb2
  go_wp2_with (first | refine store_r rfl 46 _ _ rfl _ #[.int .i64 4, .int .i64 0, .slice pt (txL x.mb).length ct, .slice none 0 0] rfl rfl R1 size46 rfl (by simp [Value.oneCell']) ?_)
  refine bodyPost_ret (results_r rfl rfl (R1.row _) rfl Tryz.underlying46 size46) rfl ?_
  rw [HP.out, HK.out, HT.out]
  exact ⟨_, rfl, ht.rowV R1 _, below_setRow hbel (by omega) _⟩
theorem one_in (s : Bs) : (fun y : Mb => decide (tx y ∈ [s])) = fun y => decide (tx y = s) := funext fun y => by simp
theorem del_any (x : X) (va vw vm ve : Value) (q u : Int) (v : List Int) (t : Int) (sl : Value) (idx : Int) (s : ByteArray) (w : World) (hv : v.length = 13) (h : Four w x va vw vm ve) (hs : Sm x) (hx : s.size ≤ 1000) :
  Calls Tryz.prog 41 #[CV x.k x.b va vw vm ve, TxV q u v t sl, .int .i64 idx, .string s] w (Gives (delX x q u v idx s) w) := by
 obtain ⟨pa, ca', pw, cw, pm, cm, pe, ce, rfl, rfl, rfl, rfl⟩ := h.slices
 have HF : Hid (Four w x (.slice pa x.am.length ca') (.slice pw x.wr.length cw) (.slice pm x.mb.length cm) (.slice pe x.el.length ce)) := h
 clear h
 have R0 := ((rw_new w 27 (cx x pa ca' pw cw pm cm pe ce)).alloc (.cells (txc q u v t sl).toArray 34)).alloc (.cells z4 27)
 have R1 := (rw_new (w.alloc (.cells (cx x pa ca' pw cw pm cm pe ce) 27)) 34 (txc q u v t sl).toArray).alloc (.cells z4 27)
 have R2 := rw_new ((w.alloc (.cells (cx x pa ca' pw cw pm cm pe ce) 27)).alloc (.cells (txc q u v t sl).toArray 34)) 27 z4
 have hbel := bel_alloc (bel_alloc (bel_alloc (Below.refl w.heap.size w) (.cells (cx x pa ca' pw cw pm cm pe ce) 27)) (.cells (txc q u v t sl).toArray 34)) (.cells z4 27)
 have hsz : (((w.alloc (.cells (cx x pa ca' pw cw pm cm pe ce) 27)).alloc (.cells (txc q u v t sl).toArray 34)).alloc (.cells z4 27)).heap.size = w.heap.size + 3 := by simp
 generalize hW : ((w.alloc (.cells (cx x pa ca' pw cw pm cm pe ce) 27)).alloc (.cells (txc q u v t sl).toArray 34)).alloc (.cells z4 27) = w0 at R0 R1 R2 hbel hsz
 simp only [World.size_alloc, Nat.add_assoc, Nat.reduceAdd] at R1 R2
 have zt := size_tx (p := q) (s := u) (t := t) (sl := sl) hv
 obtain ⟨z, HZ⟩ := hid_ex (delX x q u v idx s)
 rw [HZ.out]
 have hbA := bel_alloc (Below.refl w0.heap.size w0) (.cells #[.string s] 43)
 have HT : Hid (THas (w0.alloc (.cells #[.string s] 9)) (.slice (some ⟨w0.heap.size, 0, none⟩) 1 1) [bs s]) := ⟨by show 1 ≤ maxLen; unfold maxLen; omega, rfl, .inr ⟨_, 1, rfl, ⟨Nat.le_refl _, by unfold maxLen; omega⟩, fun _ => ⟨_, 0, rfl, Rw.whole (rw_new w0 9 #[.string s])⟩⟩⟩
 have C : Calls Tryz.prog 85 #[CV x.k x.b (.slice pa x.am.length ca') (.slice pw x.wr.length cw) (.slice pm x.mb.length cm) (.slice pe x.el.length ce), TxV q u v t sl, .int .i64 idx, .slice (some ⟨w0.heap.size, 0, none⟩) 1 1] (w0.alloc (.cells #[.string s] 9)) (Gives z (w0.alloc (.cells #[.string s] 9))) := by
  have := without_any x _ _ _ _ q u v t sl idx _ [bs s] (w0.alloc (.cells #[.string s] 9)) hv (HF.out.later (below_on hbel (bel_alloc (Below.refl _ _) _))) hs HT.out (by simp) (fun _ s' hs' => by
   rw [List.mem_singleton.1 hs']
   simpa using hx)
  rw [one_in] at this
  rw [← HZ.out]
  exact this
 have HSZ : Hid (w0.heap.size = w.heap.size + 3) := hsz
 clear hsz hbA
 go_enter Tryz.func41, Tryz.ntmps41
 go_wp2_with (first | rw [hW] | refine load_r 27 _ rfl rfl _ rfl R0 Tryz.underlying27 rfl size27 ?_ | refine load_r 34 _ rfl rfl _ rfl R1 Tryz.underlying34 rfl zt ?_)
 clear hW
 refine C.mono ?_
 rintro e w1 ⟨ua, uw, um, ue, rfl, hf, hb1⟩
 obtain ⟨na, ea, nw, ew, nm, em, ne, ee, rfl, rfl, rfl, rfl⟩ := hf.slices
 have hb2 := below_on (bel_alloc (Below.refl w0.heap.size w0) (.cells #[.string s] 9)) hb1
 replace R2 := R2.later hb2
 replace hbel := below_on hbel hb2
 clear C hb1 hb2 R0 R1
 go_wp2_with (first | refine store_r rfl 27 _ _ rfl _ (cx z na ea nw ew nm em ne ee) rfl rfl R2 size27 rfl (by simp [Value.oneCell']) ?_)
 refine bodyPost_ret (results_r rfl rfl (R2.row _) rfl Tryz.underlying27 size27) rfl ?_
 exact ⟨_, _, _, _, rfl, hf.row R2 _, below_setRow hbel (by omega) _⟩
end Go.Proofs.YtjbbmcommnhgeaaGreat.Os
namespace Go.Proofs.YtjbbmcommnhgeaaGreat.Os
open Go.RowKit
open Go.Sort
theorem wo_congr {G H : Mb → Bool} (p : M → Bool) {l : List Mb} (h : ∀ y ∈ l, G y = H y) : wo G p l = wo H p l := by
 unfold wo
 induction l with
 | nil => rfl
 | cons y l ih =>
  rw [List.filterMap_cons, List.filterMap_cons, h y (by simp), ih (fun z hz => h z (by simp [hz]))]
theorem woX_congr {G H : Mb → Bool} (p : M → Bool) {x : X} (i : Int) (h : ∀ y ∈ x.mb, G y = H y) : woX x i G p = woX x i H p := by
 unfold woX
 rw [wo_congr p h]
theorem ck_text {x : X} (h : ck x = true) : ∀ y ∈ x.mb, y.x.size ≤ 64 := fun y hy => by
 have h1 := ((cb_pair _).1 (ck_parts h).2.2.2.2.2).1 y hy
 unfold ib at h1
 simp only [Bool.and_eq_true, decide_eq_true_eq] at h1
 exact h1.2.1
theorem clear_any (x : X) (va vw vm ve : Value) (q u : Int) (v : List Int) (t : Int) (sl : Value) (idx : Int) (w : World) (hv : v.length = 13) (h : Four w x va vw vm ve) (hs : Sm x) :
  Calls Tryz.prog 225 #[CV x.k x.b va vw vm ve, TxV q u v t sl, .int .i64 idx] w (Gives (clX x q u v idx) w) := by
 obtain ⟨pa, ca', pw, cw, pm, cm, pe, ce, rfl, rfl, rfl, rfl⟩ := h.slices
 have HF : Hid (Four w x (.slice pa x.am.length ca') (.slice pw x.wr.length cw) (.slice pm x.mb.length cm) (.slice pe x.el.length ce)) := h
 clear h
 have R0 := ((rw_new w 27 (cx x pa ca' pw cw pm cm pe ce)).alloc (.cells (txc q u v t sl).toArray 34)).alloc (.cells z4 27)
 have R1 := (rw_new (w.alloc (.cells (cx x pa ca' pw cw pm cm pe ce) 27)) 34 (txc q u v t sl).toArray).alloc (.cells z4 27)
 have R2 := rw_new ((w.alloc (.cells (cx x pa ca' pw cw pm cm pe ce) 27)).alloc (.cells (txc q u v t sl).toArray 34)) 27 z4
 have hbel := bel_alloc (bel_alloc (bel_alloc (Below.refl w.heap.size w) (.cells (cx x pa ca' pw cw pm cm pe ce) 27)) (.cells (txc q u v t sl).toArray 34)) (.cells z4 27)
 have hsz : (((w.alloc (.cells (cx x pa ca' pw cw pm cm pe ce) 27)).alloc (.cells (txc q u v t sl).toArray 34)).alloc (.cells z4 27)).heap.size = w.heap.size + 3 := by simp
 generalize hW : ((w.alloc (.cells (cx x pa ca' pw cw pm cm pe ce) 27)).alloc (.cells (txc q u v t sl).toArray 34)).alloc (.cells z4 27) = w0 at R0 R1 R2 hbel hsz
 simp only [World.size_alloc, Nat.add_assoc, Nat.reduceAdd] at R1 R2
 have zt := size_tx (p := q) (s := u) (t := t) (sl := sl) hv
 obtain ⟨z, HZ⟩ := hid_ex (clX x q u v idx)
 rw [HZ.out]
 have HE : Hid (woX x idx (fun y => decide (tx y ∈ txL x.mb)) (bfP q u v idx) = z) := by
  show _ = _
  rw [← HZ.out]
  exact woX_congr _ _ (fun y hy => decide_eq_true (List.mem_map_of_mem hy))
 have C : ∀ (w' : World) (ug : Value), Below w0.heap.size w0 w' → THas w' ug (txL x.mb) → Calls Tryz.prog 85 #[CV x.k x.b (.slice pa x.am.length ca') (.slice pw x.wr.length cw) (.slice pm x.mb.length cm) (.slice pe x.el.length ce), TxV q u v t sl, .int .i64 idx, ug] w' (Gives z w') := fun w' ug hb hg => by
  have := without_any x _ _ _ _ q u v t sl idx ug (txL x.mb) w' hv (HF.out.later (below_on hbel hb)) hs hg (by have := hs.m; simp [txL]; omega) (fun hc s' hs' => by
   obtain ⟨y, hy, rfl⟩ := List.mem_map.1 hs'
   have := ck_text hc y hy
   have e : (tx y).length = y.x.size := by simp [tx, bs]
   omega)
  rw [HE.out] at this
  exact this
 have HSZ : Hid (w0.heap.size = w.heap.size + 3) := hsz
 clear hsz HZ HE
 have zx : (Tryz.prog.info? 27).map (·.size) = some ([Value.int .i64 x.k, .int .i64 x.b, .slice pa x.am.length ca', .slice pw x.wr.length cw, .slice pm x.mb.length cm, .slice pe x.el.length ce] : List Value).length := size27
 have ztx : (Tryz.prog.info? 34).map (·.size) = some (txc q u v t sl).length := by rw [txc_length hv]; exact size34
 go_enter Tryz.func225, Tryz.ntmps225
 go_wp2_with (first | rw [hW])
 clear hW
 have hS : Calm.Stays (fun w' => Below w0.heap.size w0 w') := fun wa wb h hb => below_on h hb
 have hF : Facts.Stay [pF 0 (eqP (.agg ([Value.int .i64 x.k, .int .i64 x.b, .slice pa x.am.length ca', .slice pw x.wr.length cw, .slice pm x.mb.length cm, .slice pe x.el.length ce] : List Value).toArray)), pF 1 (eqP (.agg (txc q u v t sl).toArray)), pF 2 (eqP (.int .i64 idx)), pF 3 (eqP (.pointer (some ⟨w.heap.size, 4, none⟩))), pF 4 (eqP (.slice pm x.mb.length cm)), pF 5 (thP (txL x.mb)), pF 6 (cP z)] := stay_of (by simp only [List.forall_mem_cons]; exact ⟨⟨_, _, rfl, eqP_keeps _⟩, ⟨_, _, rfl, eqP_keeps _⟩, ⟨_, _, rfl, eqP_keeps _⟩, ⟨_, _, rfl, eqP_keeps _⟩, ⟨_, _, rfl, eqP_keeps _⟩, ⟨_, _, rfl, thP_keeps _⟩, ⟨_, _, rfl, cP_keeps _⟩, fun _ h => by cases h⟩)
 refine Facts.regionTail (by kernel_rfl) (by kernel_rfl) 7 (by decide) (by kernel_rfl) (fun w' => Below w0.heap.size w0 w') (fun xv => { tmps := #[CV x.k x.b (Value.slice pa x.am.length ca') (Value.slice pw x.wr.length cw) (Value.slice pm x.mb.length cm) (Value.slice pe x.el.length ce), TxV q u v t sl, Value.int IntKind.i64 idx, Value.pointer (some { block := w.heap.size, off := 0 }), Value.pointer (some { block := w.heap.size + 1, off := 0 }), undef, Value.pointer (some { block := w.heap.size + 1 + 1, off := 0 }), xv 0, xv 1, xv 2, xv 3, xv 4, xv 5, xv 6], defers := [] }) [pF 0 (eqP (.agg ([Value.int .i64 x.k, .int .i64 x.b, .slice pa x.am.length ca', .slice pw x.wr.length cw, .slice pm x.mb.length cm, .slice pe x.el.length ce] : List Value).toArray)), pF 1 (eqP (.agg (txc q u v t sl).toArray)), pF 2 (eqP (.int .i64 idx)), pF 3 (eqP (.pointer (some ⟨w.heap.size, 4, none⟩))), pF 4 (eqP (.slice pm x.mb.length cm)), pF 5 (thP (txL x.mb)), pF 6 (cP z)] _ rfl rfl (by kernel_rfl) (fun j => [undef, undef, undef, undef, undef, undef, undef].getD j undef) rfl (Below.refl _ w0).drew ⟨?_, ?_, ?_, ?_, ?_, ?_, ?_, ?_, trivial⟩ ?_
 ·exact fun _ => Facts.loadP hS hF (fun _ _ => rfl) 27 Tryz.underlying27 rfl zx _ rfl rfl (fun xv wv hSw hd => by rfl) (fun wv hSw => Rw.whole (cs := [Value.int .i64 x.k, .int .i64 x.b, .slice pa x.am.length ca', .slice pw x.wr.length cw, .slice pm x.mb.length cm, .slice pe x.el.length ce]) (R0.later hSw))
 ·exact fun _ => Facts.loadP hS hF (fun _ _ => rfl) 34 Tryz.underlying34 rfl ztx _ rfl rfl (fun xv wv hSw hd => by rfl) (fun wv hSw => Rw.whole (cs := (txc q u v t sl)) (R1.later hSw))
 ·exact fun _ => Facts.pureP hS hF (fun _ _ => rfl) rfl (fun xv wv hSw hd => by
   go_simp)
 ·exact fun _ => Facts.pureP hS hF (fun _ _ => rfl) rfl (fun xv wv hSw hd => by
   go_simp)
 ·exact fun _ => Facts.pureP hS hF (fun _ _ => rfl) rfl (fun xv wv hSw hd => by
   have d3 : xv 3 = _ := pF_get (hd ⟨3, .data⟩ (by simp) rfl _ rfl)
   have g1 : w0.cell? ⟨w.heap.size, 4, none⟩ = some (.slice pm x.mb.length cm) := R0.cell 4
   have g2 := cell_later hSw g1
   simp only [d3]
   go_simp)
 ·refine fun _ => Facts.call1P hS hF (fun _ _ => rfl) rfl (by kernel_rfl) rfl (fun xv wv hSw hd => ?_)
  have d4 : xv 4 = _ := pF_get (hd ⟨4, .data⟩ (by simp) rfl _ rfl)
  show Calls Tryz.prog 228 #[xv 4] wv _
  rw [d4]
  refine (texts_any _ x.mb wv (HF.out.m.later (below_on hbel hSw)) (by have := hs.m; omega)).mono ?_
  rintro e w' ⟨u, he, ht, hb⟩
  exact ⟨u, he, ht, hb⟩
 ·refine fun _ => Facts.call4P hS hF (fun _ _ => rfl) rfl (by kernel_rfl) rfl (fun xv wv hSw hd => ?_)
  have d0 : xv 0 = _ := pF_get (hd ⟨0, .data⟩ (by simp) rfl _ rfl)
  have d1 : xv 1 = _ := pF_get (hd ⟨1, .data⟩ (by simp) rfl _ rfl)
  have d2 : xv 2 = _ := pF_get (hd ⟨2, .data⟩ (by simp) rfl _ rfl)
  have d5 := pF_get (hd ⟨5, .data⟩ (by simp) rfl _ rfl)
  show Calls Tryz.prog 85 #[xv 0, xv 1, xv 2, xv 5] wv _
  rw [d0, d1, d2]
  exact (C wv _ hSw d5).mono fun e w' h => gives_p h
 ·exact fun h => absurd h (by decide)
 intro x9 w5 hb5 hf
 have e6 := pF_get (hf 6 _ rfl)
 obtain ⟨ua, uw, um, ue, ez, hz⟩ := e6
 obtain ⟨na, ea, nw, ew, nm, em, ne, ee, rfl, rfl, rfl, rfl⟩ := hz.slices
 replace R2 := R2.later hb5
 replace hbel := below_on hbel hb5
 clear hS hF hf C R0 R1
 refine tail_store 27 _ _ rfl (w.heap.size + 2) 0 rfl (show _ = CV z.k z.b (.slice na z.am.length ea) (.slice nw z.wr.length ew) (.slice nm z.mb.length em) (.slice ne z.el.length ee) from ez) (R2.store (cx z na ea nw ew nm em ne ee) size27 rfl (by simp [Value.oneCell'])) ?_
 refine Facts.tailWp_nil ?_
 go_wp2_with fail
 refine bodyPost_ret (results_r rfl rfl (R2.row (cx z na ea nw ew nm em ne ee)) rfl Tryz.underlying27 size27) rfl ?_
 exact ⟨_, _, _, _, rfl, hz.row R2 _, below_setRow hbel (by omega) _⟩
end Go.Proofs.YtjbbmcommnhgeaaGreat.Os
namespace Go.Proofs.YtjbbmcommnhgeaaGreat.Os
open Go.RowKit Go.Sort Go.Maps Go.WideMaps
theorem own_ne {w : World} {B S n : Nat} {v : Value} {xs : List Value} {e : TypeId} (h : w.ownsRow B e S v n xs) {b : Nat} {t : TypeId} {cs : Array Value} (R : Rw w b t cs) (hne : e ≠ t) : ∀ k, v.ownBlock = some k → k ≠ b := by
 intro k hk ek
 subst ek
 obtain ⟨_, ⟨rfl, _⟩ | ⟨g, cap, cur, rfl, _, hg, _⟩⟩ := h
 ·cases hk
 ·have e1 := Option.some.inj hk
  simp only at e1
  subst e1
  have := Option.some.inj (hg.symm.trans R)
  simp at this
  exact hne this.2
theorem rw_map {w : World} {p b n : Nat} {D : DataW Value} {t : TypeId} {cs : Array Value} (R : Rw w p t cs) (hown : w.ownsMap Tryz.prog 9 vE b n D) : p ≠ b := by
 rintro rfl
 obtain ⟨es, clock, hb, _⟩ := hown
 rw [show w.heap[p]? = _ from R] at hb
 cases hb
theorem row_self {w : World} {b : Nat} {t : TypeId} {cs : Array Value} (R : Rw w b t cs) : w.setRow b cs = w := by
 have e : (w.setRow b cs).heap = w.heap := by
  apply Array.ext_getElem?
  intro i
  by_cases h : i = b
  ·subst h
   exact (R.row cs).trans (show w.heap[i]? = _ from R).symm
  ·exact setRow_other w b i cs h
 have e2 : w.setRow b cs = { w with heap := (w.setRow b cs).heap } := rfl
 rw [e2, e]
theorem upB_cut {s : Bs} : ∀ {ms : List (Mb × Value)}, upB ms → (∀ y ∈ ms, tx y.1 ≠ s) → ∃ A C, ms = A ++ C ∧ (∀ a ∈ A, tx a.1 < s) ∧ ∀ c ∈ C, s < tx c.1
 | [], _, _ => ⟨[], [], rfl, (fun _ h => by cases h), (fun _ h => by cases h)⟩
 | a :: ms, h, hn => by
  unfold upB at h
  rw [List.pairwise_cons] at h
  by_cases k : tx a.1 < s
  ·obtain ⟨A, C, rfl, h1, h2⟩ := upB_cut (ms := ms) h.2 (fun y hy => hn y (List.mem_cons_of_mem _ hy))
   refine ⟨a :: A, C, rfl, fun y hy => ?_, h2⟩
   rcases List.mem_cons.1 hy with rfl | hy
   ·exact k
   ·exact h1 y hy
  ·have k2 : s < tx a.1 := Bs.tri k (hn a (by simp))
   refine ⟨[], a :: ms, rfl, (fun _ h => by cases h), fun y hy => ?_⟩
   rcases List.mem_cons.1 hy with rfl | hy
   ·exact k2
   ·exact Bs.trans k2 (h.1 y hy)
theorem putV_gap {A C : List (Mb × Value)} {z : Mb × Value} (h1 : ∀ a ∈ A, tx a.1 < tx z.1) (h2 : ∀ c ∈ C, tx z.1 < tx c.1) : putV z (A ++ C) = A ++ z :: C := by
 unfold putV
 have e1 : A.filter (fun a => decide (tx a.1 < tx z.1)) = A := List.filter_eq_self.2 (fun a ha => decide_eq_true (h1 a ha))
 have e2 : A.filter (fun a => decide (tx z.1 < tx a.1)) = [] := List.filter_eq_nil_iff.2 (fun a ha => by simpa using Bs.le_of (h1 a ha))
 have e3 : C.filter (fun a => decide (tx a.1 < tx z.1)) = [] := List.filter_eq_nil_iff.2 (fun a ha => by simpa using Bs.le_of (h2 a ha))
 have e4 : C.filter (fun a => decide (tx z.1 < tx a.1)) = C := List.filter_eq_self.2 (fun a ha => decide_eq_true (h2 a ha))
 rw [List.filter_append, List.filter_append, e1, e2, e3, e4]
 simp
theorem putL_gap {A C : List Mb} {z : Mb} (h1 : ∀ a ∈ A, tx a < tx z) (h2 : ∀ c ∈ C, tx z < tx c) : putL z (A ++ C) = A ++ z :: C := by
 unfold putL
 have e1 : A.filter (fun a => decide (tx a < tx z)) = A := List.filter_eq_self.2 (fun a ha => decide_eq_true (h1 a ha))
 have e2 : A.filter (fun a => decide (tx z < tx a)) = [] := List.filter_eq_nil_iff.2 (fun a ha => by simpa using Bs.le_of (h1 a ha))
 have e3 : C.filter (fun a => decide (tx a < tx z)) = [] := List.filter_eq_nil_iff.2 (fun a ha => by simpa using Bs.le_of (h2 a ha))
 have e4 : C.filter (fun a => decide (tx z < tx a)) = C := List.filter_eq_self.2 (fun a ha => decide_eq_true (h2 a ha))
 rw [List.filter_append, List.filter_append, e1, e2, e3, e4]
 simp
theorem map_all {ms : List (Mb × Value)} {P : Mb → Prop} (h : ∀ a ∈ ms, P a.1) : ∀ a ∈ ms.map (·.1), P a := fun a ha => by
 obtain ⟨y, hy, rfl⟩ := List.mem_map.1 ha
 exact h y hy
theorem addL_length (l : List Mb) (s : ByteArray) (m : M) : (addL l s m).length ≤ l.length + 1 := putL_length _ _
theorem addL_text {l : List Mb} (h : cb l = true) {s : ByteArray} {m : M} (hs : s.size ≤ 64) (hm : im m.i = true) : ∀ y ∈ addL l s m, y.x.size ≤ 64 := fun z hz => by
 have h1 := ((cb_pair _).1 (addL_cb h hs hm)).1 z hz
 unfold ib at h1
 simp only [Bool.and_eq_true, decide_eq_true_eq] at h1
 exact h1.2.1
theorem add_any (x : X) (va vw vm ve : Value) (q u : Int) (v : List Int) (t : Int) (sl : Value) (idx : Int) (s : ByteArray) (w : World) (_hv : v.length = 13) (h : Four w x va vw vm ve) (hs : Sm x) :
  Calls Tryz.prog 40 #[CV x.k x.b va vw vm ve, TxV q u v t sl, .int .i64 idx, .string s] w (Gives (addX x ⟨q, u, idx⟩ s) w) := by
 obtain ⟨pa, ca', pw, cw, pm, cm, pe, ce, rfl, rfl, rfl, rfl⟩ := h.slices
 have HF : Hid (Four w x (.slice pa x.am.length ca') (.slice pw x.wr.length cw) (.slice pm x.mb.length cm) (.slice pe x.el.length ce)) := h
 clear h
 obtain ⟨z, HZ⟩ := hid_ex (addX x ⟨q, u, idx⟩ s)
 rw [HZ.out]
 have R0 := (((rw_new w 27 (cx x pa ca' pw cw pm cm pe ce)).alloc (.cells (txc q u v t sl).toArray 34)).alloc (.cells z4 27))
 have R1 := ((rw_new (w.alloc (.cells (cx x pa ca' pw cw pm cm pe ce) 27)) 34 (txc q u v t sl).toArray).alloc (.cells z4 27))
 have R3 := (rw_new ((w.alloc (.cells (cx x pa ca' pw cw pm cm pe ce) 27)).alloc (.cells (txc q u v t sl).toArray 34)) 27 z4)
 have hbel := bel_alloc (bel_alloc (bel_alloc (Below.refl w.heap.size w) (.cells (cx x pa ca' pw cw pm cm pe ce) 27)) (.cells (txc q u v t sl).toArray 34)) (.cells z4 27)
 have hsz : (((w.alloc (.cells (cx x pa ca' pw cw pm cm pe ce) 27)).alloc (.cells (txc q u v t sl).toArray 34)).alloc (.cells z4 27)).heap.size = w.heap.size + 3 := by simp
 generalize hW : (((w.alloc (.cells (cx x pa ca' pw cw pm cm pe ce) 27)).alloc (.cells (txc q u v t sl).toArray 34)).alloc (.cells z4 27)) = w0 at R0 R1 R3 hbel hsz
 simp only [World.size_alloc, Nat.add_assoc, Nat.reduceAdd] at R1 R3
 go_enter Tryz.func40, Tryz.ntmps40
 go_wp2_with (first | rw [hW] | refine load_r 27 _ rfl rfl _ rfl R0 Tryz.underlying27 rfl size27 ?_)
 clear hW
 refine (copied_any x _ _ _ _ w0 (HF.out.later hbel) hs).mono ?_
 rintro e w1 ⟨ua, uw, um, ue, rfl, ho, hb1⟩
 obtain ⟨qa, da, qw, dw, qm, dx, qe, de, rfl, rfl, rfl, rfl⟩ := ho.four.slices
 rw [hsz] at ho
 replace R0 := R0.later hb1
 replace R1 := R1.later hb1
 replace R3 := R3.later hb1
 replace hbel := below_on hbel hb1
 have hB : w.heap.size + 3 ≤ w1.heap.size := by have := hb1.size; omega
 clear hb1 hsz
 have ho2 := ho.row (by omega) R0 (cx x qa da qw dw qm dx qe de)
 have hbs := below_setRow hbel (Nat.le_refl w.heap.size) (cx x qa da qw dw qm dx qe de)
 have hB2 : w.heap.size + 3 ≤ (w1.setRow w.heap.size (cx x qa da qw dw qm dx qe de)).heap.size := by simpa [World.setRow] using hB
 replace R1 := R1.rowOther (q := w.heap.size) (by omega) (cx x qa da qw dw qm dx qe de)
 replace R3 := R3.rowOther (q := w.heap.size) (by omega) (cx x qa da qw dw qm dx qe de)
 have R4 := R0.row (cx x qa da qw dw qm dx qe de)
 generalize hW : w1.setRow w.heap.size (cx x qa da qw dw qm dx qe de) = w2 at ho2 hbs hB2 R1 R3 R4
 go_wp2_with (first | rw [hW] | refine store_r rfl 27 _ _ rfl _ (cx x qa da qw dw qm dx qe de) rfl rfl R0 size27 rfl (by simp [Value.oneCell']) ?_ | refine load_r 27 _ rfl rfl _ rfl R4 Tryz.underlying27 rfl size27 ?_)
 clear hW ho hbel hB R0
 refine (check_any x _ _ _ _ w2 ho2.four hs).mono ?_
 rintro e w3 ⟨rfl, hb1⟩
 replace R1 := R1.later hb1
 replace R3 := R3.later hb1
 replace R4 := R4.later hb1
 replace ho2 := ho2.later hb1
 replace hbs := below_on hbs hb1
 replace hB2 := Nat.le_trans hB2 hb1.size
 clear hb1
 have HQ : Hid (z = if (ck x && (im idx && decide (s.size ≤ 64))) = true then { x with mb := (addL x.mb s ⟨q, u, idx⟩) } else x) := by
  show _ = _
  rw [← HZ.out]
  rfl
 clear HZ
 obtain ⟨y1, HY1⟩ := hid_ex (ck x)
 rw [HY1.out] at HQ ⊢
 cases y1
 ·
  have e := HQ.out
  rw [show (false && (im idx && decide (s.size ≤ 64))) = false from rfl, if_neg (by decide)] at e
  have e := e.symm
  subst e
  go_wp2_with (first | refine load_r 27 _ rfl rfl _ rfl R4 Tryz.underlying27 rfl size27 ?_ | refine store_r rfl 27 _ _ rfl _ (cx x qa da qw dw qm dx qe de) rfl rfl R3 size27 rfl (by simp [Value.oneCell']) ?_)
  refine bodyPost_ret (results_r rfl rfl (R3.row (cx x qa da qw dw qm dx qe de)) rfl Tryz.underlying27 size27) rfl ?_
  exact ⟨_, _, _, _, rfl, (ho2.row (by omega) R3 (cx x qa da qw dw qm dx qe de)).four, below_setRow hbs (by omega) _⟩
 ·have hii : decide (idx < 1) = !im idx := by unfold im; by_cases h : idx < 1 <;> simp [h] <;> omega
  obtain ⟨y2, HY2⟩ := hid_ex (im idx)
  rw [HY2.out] at hii HQ
  cases y2
  ·have hil : idx < 1 := of_decide_eq_true hii
   have e := HQ.out
   rw [show (true && (false && decide (s.size ≤ 64))) = false from rfl, if_neg (by decide)] at e
   have e := e.symm
   subst e
   go_wp2_with (first | refine load_r 27 _ rfl rfl _ rfl R4 Tryz.underlying27 rfl size27 ?_ | refine store_r rfl 27 _ _ rfl _ (cx x qa da qw dw qm dx qe de) rfl rfl R3 size27 rfl (by simp [Value.oneCell']) ?_)
   refine bodyPost_ret (results_r rfl rfl (R3.row (cx x qa da qw dw qm dx qe de)) rfl Tryz.underlying27 size27) rfl ?_
   exact ⟨_, _, _, _, rfl, (ho2.row (by omega) R3 (cx x qa da qw dw qm dx qe de)).four, below_setRow hbs (by omega) _⟩
  ·have hil : ¬ idx < 1 := of_decide_eq_false hii
   by_cases hsx : s.size ≤ 64
   ·have e := HQ.out
    rw [show (true && (true && decide (s.size ≤ 64))) = true by simp [hsx], if_pos rfl, ck_x4 HY1.out] at e
    have HQ2 : Hid (z = x4 (addL x.mb s ⟨q, u, idx⟩)) := e
    have hsx' : ¬ (64 : Int) < (s.size : Int) := by omega
    obtain ⟨ms, hms, hom, hOB⟩ := ho2.m
    have hcb := (ck_parts HY1.out).2.2.2.2.2
    have hcp := (cb_pair _).1 hcb
    have hup : upB ms := by
     have h2 := hcp.2
     rw [← hms] at h2
     unfold upm at h2
     rw [List.pairwise_map] at h2
     exact h2
    have htx : ∀ y ∈ ms, y.1.x.size ≤ 64 := fun y hy => ck_text HY1.out y.1 (by rw [← hms]; exact List.mem_map_of_mem hy)
    have HTX : Hid (∀ y ∈ (addL x.mb s ⟨q, u, idx⟩), y.x.size ≤ 64) := addL_text hcb hsx HY2.out
    have HLE : Hid ((addL x.mb s ⟨q, u, idx⟩).length ≤ 101) := Nat.le_trans (addL_length _ _ _) (by have := hs.m; omega)
    have HMS : Hid (ms.map (·.1) = x.mb) := hms
    have HCA : Hid (∀ y ∈ ms, y.1.ms.Pairwise (fun a b => lt a b = true)) := fun y hy => by
     have h1 := hcp.1 y.1 (by rw [← hms]; exact List.mem_map_of_mem hy)
     unfold ib at h1
     simp only [Bool.and_eq_true, decide_eq_true_eq] at h1
     exact ((ca_pair _).1 h1.2.2).2
    have HSI : Hid (∀ y ∈ ms, y.1.ms.length ≤ 100) := fun y hy => hs.mi y.1 (by rw [← hms]; exact List.mem_map_of_mem hy)
    have hml : ms.length = x.mb.length := by rw [← hms, List.length_map]
    have hlm : ms.length ≤ 100 := by rw [hml]; exact hs.m
    have c4 : w3.cell? ⟨w.heap.size, 4, none⟩ = some (.slice qm x.mb.length dx) := R4.cell 4
    rw [← hml] at hom c4
    have CB := byText_any (.slice qm ms.length dx) ms w3 (own_sh hom) hOB.has hlm htx hup
    have hkey : keyOf Tryz.prog 9 (.string s) = some (.string (bs s)) := keyOf_string_mk Tryz.underlying9 (by unfold maxLen; omega)
    clear e HQ hii HY2 hcp hup htx hcb hml hms
    go_wp2_with fail
    refine CB.mono ?_
    clear CB c4
    rintro e w4 ⟨b, D, rfl, hbb, hown, hD, hb4⟩
    have hbB : w.heap.size + 3 ≤ b := Nat.le_trans hB2 hbb
    replace R1 := R1.later hb4
    replace R3 := R3.later hb4
    replace hOB := hOB.later hb4
    replace hbs := below_on hbs hb4
    replace hB2 := Nat.le_trans hB2 hb4.size
    clear R4 hom hb4 hbb ho2 HF
    rcases upB_split hD.u (bs s) with hno | ⟨A, ⟨ym, yv⟩, C, rfl, hyt, hA, hC⟩
    ·obtain ⟨A, C, rfl, hA, hC⟩ := upB_cut hD.u hno
     have hoy : w4.ownsRow (w.heap.size + 3) 50 3 (.slice none 0 0) ([] : List M).length (rows M.cells []) := World.ownsRow_nil _ _ _ _
     have hyl : ([] : List M).length ≤ 100 := by decide
     have HPR : Hid (([] : List M).Pairwise (fun a b => lt a b = true)) := List.Pairwise.nil
     have HAD : Hid (addY x.mb s ⟨q, u, idx⟩ = ⟨s, false, wth [] ⟨q, u, idx⟩⟩) := by
      show _ = _
      unfold addY
      rw [look_none]
      ·rfl
      ·rw [← HMS.out]
       exact map_all hno
     clear HCA HSI
     have HAT : Hid (D.atKey (.string (bs s)) (.held (.agg #[.string noS, .bool false, .slice none 0 0])) = .held (.agg #[.string noS, .bool false, .slice none 0 0])) := hD.off hno _
     have hat := HAT.out
     have CW := fun w' (h : w'.ownsRow (w.heap.size + 3) 50 3 (.slice none 0 0) (([] : List M)).length (rows M.cells (([] : List M)))) (h2 : w.heap.size + 3 ≤ w'.heap.size) => with_any (w.heap.size + 3) (.slice none 0 0) (([] : List M)) ⟨q, u, idx⟩ w' h hyl HPR.out h2
     have HADD : Hid (addY x.mb s ⟨q, u, idx⟩ = ⟨s, false, wth (([] : List M)) ⟨q, u, idx⟩⟩) := HAD.out
     obtain ⟨l5, HL5⟩ := hid_ex (wth (([] : List M)) ⟨q, u, idx⟩)
     rw [HL5.out] at CW HADD
     clear HL5 HAT HAD HPR
     have RB := rw_new w4 67 #[.string noS, .bool false, .slice none 0 0]
     have hbA := bel_alloc (Below.refl w4.heap.size w4) (.cells #[.string noS, .bool false, .slice none 0 0] 67)
     replace R1 := R1.later hbA
     replace R3 := R3.later hbA
     have hown9 := map_later hown hbA
     replace hOB := hOB.later hbA
     replace hoy := own_later hoy hbA
     replace hbs := below_on hbs hbA
     have hbx : w.heap.size + 3 ≤ w4.heap.size := hB2
     replace hB2 := Nat.le_trans hB2 hbA.size
     generalize hW : w4.alloc (.cells #[.string noS, .bool false, .slice none 0 0] 67) = w5 at RB R1 R3 hown9 hOB hoy hbs hB2
     have HW : Hid (w4.alloc (.cells #[.string noS, .bool false, .slice none 0 0] 67) = w5) := hW
     clear hW
     have cb2 : w5.cell? ⟨w4.heap.size, 2, none⟩ = some (.slice none 0 0) := RB.cell 2
     have d1 := tx_dot R1
     have zd : (Tryz.prog.info? 29).map (·.size) = some [Value.int .i64 q, .int .i64 u].length := size29
     have HRS : Hid (w5.setRow w4.heap.size #[.string noS, .bool false, .slice none 0 0] = w5) := row_self RB
     go_wp2_with (first | rw [HW.out] | rw [HRS.out] | refine store_r rfl 67 _ _ rfl _ #[.string noS, .bool false, .slice none 0 0] rfl rfl RB size67 rfl (by simp [Value.oneCell']) ?_ | (at_lookup; refine lookup_v rfl _ _ 111 rfl 9 67 law9 Tryz.underlying111 (Tryz.zeroValue67 _) rfl hown rfl hkey hat ?_) | refine load_m 29 _ rfl rfl _ _ rfl d1 Tryz.underlying29 rfl zd ?_)
     clear HRS HW hat hown cb2 d1 hbA
     refine (CW w5 hoy hB2).mono ?_
     clear CW
     rintro e w6 ⟨u6, rfl, ho6, hk6, hu6, hb6⟩
     obtain ⟨p6, c6, rfl⟩ := own_sl ho6
     have hlo : ∀ k, (Value.slice none 0 0).ownBlock = some k → k < w5.heap.size := fun k hk => (World.ownsRow.lt hoy k hk).2
     have HLT : Hid (∀ a ∈ A ++ C, ∀ k, a.2.ownBlock = some k → k < w5.heap.size) := fun a ha k hk => (World.ownsRow.lt (hOB.o a ha) k hk).2
     have HOA : Hid (∀ a ∈ A ++ C, ∀ k, a.2.ownBlock = some k → (Value.slice none 0 0).ownBlock ≠ some k) := fun _ _ k _ e => by cases e
     have HOB : Hid (OwnB (w.heap.size + 3) w6 (A ++ C)) := hOB.later (below_kp hb6 hk6)
     replace hown9 := map_kp hown9 hk6 (fun e => map_ne hown9 hoy b e rfl)
     replace RB : Rw w6 w4.heap.size 67 _ := (hk6 _ RB.lt (fun e => own_ne hoy RB (by decide) _ e rfl)).trans RB
     replace R3 : Rw w6 (w.heap.size + 2) 27 _ := (hb6.block _ (by omega)).trans R3
     have hbs6 := hbs.trans (hb6.mono (show w.heap.size ≤ w.heap.size + 3 by omega))
     have hB6 := Nat.le_trans hB2 hb6.size
     have HOC : Hid (OwnB (w.heap.size + 3) w6 (A ++ (⟨s, false, l5⟩, .slice p6 l5.length c6) :: C)) := HOB.out.mid ho6 (fun k' hk' a ha h2 => by
      rcases hu6 k' hk' with h3 | h3
      ·exact HOA.out a ha k' h2 h3
      ·have := HLT.out a ha k' h2
       omega)
     clear hk6 hu6 hb6 hoy hlo HLT HOA HOB ho6 R1 hOB hbs hB2
     have g0 : w6.cell? ⟨w4.heap.size, 0, none⟩ = some (.string noS) := RB.cell 0
     have f0 : w6.frozen? ⟨w4.heap.size, 0, none⟩ = false := RB.frozen 0
     have RB2 : Rw (w6.setCell ⟨w4.heap.size, 0, none⟩ (.string s)) w4.heap.size 67 #[.string s, .bool false, .slice none 0 0] := RB.set 0 _
     have g2 : (w6.setCell ⟨w4.heap.size, 0, none⟩ (.string s)).cell? ⟨w4.heap.size, 2, none⟩ = some (.slice none 0 0) := RB2.cell 2
     have f2 : (w6.setCell ⟨w4.heap.size, 0, none⟩ (.string s)).frozen? ⟨w4.heap.size, 2, none⟩ = false := RB2.frozen 2
     have RB3 : Rw ((w6.setCell ⟨w4.heap.size, 0, none⟩ (.string s)).setCell ⟨w4.heap.size, 2, none⟩ (.slice p6 l5.length c6)) w4.heap.size 67 #[.string s, .bool false, .slice p6 l5.length c6] := RB2.set 2 _
     have hk7 : Kp (some w4.heap.size) w6 ((w6.setCell ⟨w4.heap.size, 0, none⟩ (.string s)).setCell ⟨w4.heap.size, 2, none⟩ (.slice p6 l5.length c6)) := fun c' h' hne => (Below.heap_setCell _ _ _ c' (fun e => hne (by rw [e]))).trans (Below.heap_setCell _ _ _ c' (fun e => hne (by rw [e])))
     have hb7 := (hbs6.setCell (p := ⟨w4.heap.size, 0, none⟩) (by show w.heap.size ≤ w4.heap.size; omega) (.string s)).setCell (p := ⟨w4.heap.size, 2, none⟩) (by show w.heap.size ≤ w4.heap.size; omega) (.slice p6 l5.length c6)
     have hB7 : w.heap.size + 3 ≤ ((w6.setCell ⟨w4.heap.size, 0, none⟩ (.string s)).setCell ⟨w4.heap.size, 2, none⟩ (.slice p6 l5.length c6)).heap.size := by rw [World.size_setCell, World.size_setCell]; exact hB6
     generalize hW : (w6.setCell ⟨w4.heap.size, 0, none⟩ (.string s)).setCell ⟨w4.heap.size, 2, none⟩ (.slice p6 l5.length c6) = w7 at RB3 hk7 hb7 hB7
     replace HOC : Hid (OwnB (w.heap.size + 3) w7 (A ++ (⟨s, false, l5⟩, .slice p6 l5.length c6) :: C)) := ⟨fun a ha => own_kp (HOC.out.o a ha) hk7 (fun k hk e => own_ne (HOC.out.o a ha) RB (by decide) k hk (Option.some.inj e).symm), HOC.out.d⟩
     have hown7 := map_kp hown9 hk7 (fun e => rw_map RB hown9 (Option.some.inj e))
     replace R3 : Rw w7 (w.heap.size + 2) 27 _ := (hk7 _ R3.lt (fun e => by have := Option.some.inj e; omega)).trans R3
     clear hown9 hk7 hbs6 hB6
     go_wp2_with (first | rw [hW] | refine load_r 67 _ rfl rfl _ rfl RB3 Tryz.underlying67 rfl size67 ?_ | (at_mapUpdate; refine wpList_mapUpdate_own _ rfl _ _ _ 111 rfl 9 67 law9 Tryz.underlying111 vE b _ _ rfl hown7 (by unfold maxLen; omega) _ _ _ rfl rfl hkey _ [] rfl ?_; intro w8 hown8 hg8))
     clear hW g0 f0 g2 f2 RB RB2
     have HDN : Hid (MapIs (D.put (.string (bs s)) (.held (.agg #[.string s, .bool false, .slice p6 l5.length c6]))) (A ++ (⟨s, false, l5⟩, .slice p6 l5.length c6) :: C)) := by
      have h2 := hD.put (⟨s, false, l5⟩, .slice p6 l5.length c6)
      rw [putV_gap hA hC] at h2
      exact h2
     have hOB8 := HOC.out.turned hown7 hg8
     replace R3 := R3.turned hown7 hg8
     replace hb7 := hb7.grown hg8 hb7.size (fun j hj => by cases hj; omega)
     have HNY : Hid ((A ++ (⟨s, false, l5⟩, .slice p6 l5.length c6) :: C).map (·.1) = (addL x.mb s ⟨q, u, idx⟩)) := by
      show _ = _
      unfold addL
      rw [HADD.out, ← HMS.out]
      simp only [List.map_append, List.map_cons]
      rw [putL_gap (z := ⟨s, false, l5⟩) (map_all (P := fun a => tx a < bs s) hA) (map_all (P := fun a => bs s < tx a) hC)]
     have CC := cellOf_any b _ _ _ w8 hown8 HDN.out (by omega) hOB8.has (fun y hy => ?_) ?_
     rotate_left
     ·have h3 : y.1 ∈ (addL x.mb s ⟨q, u, idx⟩) := by rw [← HNY.out]; exact List.mem_map_of_mem hy
      exact HTX.out _ h3
     ·have h3 : (A ++ (⟨s, false, l5⟩, .slice p6 l5.length c6) :: C).length = (addL x.mb s ⟨q, u, idx⟩).length := by rw [← HNY.out, List.length_map]
      rw [h3]
      have := HLE.out
      omega
     rw [HNY.out] at CC
     clear HNY HDN HADD HMS hown8 hown7 hOB8 HOC hg8 hD RB3 HTX HLE
     go_wp2_with fail
     refine CC.mono ?_
     rintro e w9 ⟨ua, uw, um, ue, rfl, hf, hb9⟩
     obtain ⟨na, ea, nw, ew, nm, em, ne, ee, rfl, rfl, rfl, rfl⟩ := hf.slices
     replace R3 := R3.later hb9
     replace hb7 := below_on hb7 hb9
     clear CC
     have e := HQ2.out.symm
     subst e
     go_wp2_with (first | refine store_r rfl 27 _ _ rfl _ (cvc 4 0 (.slice na 0 ea) (.slice nw 0 ew) (.slice nm (addL x.mb s ⟨q, u, idx⟩).length em) (.slice ne 0 ee)) rfl rfl R3 size27 rfl (by simp [Value.oneCell']) ?_)
     refine bodyPost_ret (results_r rfl rfl (R3.row _) rfl Tryz.underlying27 size27) rfl ?_
     exact ⟨_, _, _, _, rfl, four4_row hf R3 _, below_setRow hb7 (by omega) _⟩
    ·replace hyt : tx ym = bs s := hyt
     have HYX : Hid (ym.x = s) := bs_inj hyt
     have HYT : Hid (tx ym = bs s) := hyt
     have hoy := hOB.o (ym, yv) (by simp)
     replace hoy : w4.ownsRow (w.heap.size + 3) 50 3 yv ym.ms.length (rows M.cells ym.ms) := hoy
     obtain ⟨py, cy, rfl⟩ := own_sl hoy
     have hyl : ym.ms.length ≤ 100 := HSI.out (ym, .slice py ym.ms.length cy) (by simp)
     have HPR : Hid (ym.ms.Pairwise (fun a b => lt a b = true)) := HCA.out (ym, .slice py ym.ms.length cy) (by simp)
     have HAD : Hid (addY x.mb s ⟨q, u, idx⟩ = ⟨s, ym.b, wth ym.ms ⟨q, u, idx⟩⟩) := by
      show _ = _
      unfold addY
      rw [← HMS.out, List.map_append, List.map_cons, look_mid (y := ym) HYT.out (map_all hA)]
      rfl
     clear HCA HSI hyt
     have HAT : Hid (D.atKey (.string (bs s)) (.held (.agg #[.string noS, .bool false, .slice none 0 0])) = .held (.agg #[.string ym.x, .bool ym.b, .slice py ym.ms.length cy])) := hD.at (y := (ym, .slice py ym.ms.length cy)) (by simp) HYT.out _
     have hat := HAT.out
     have CW := fun w' (h : w'.ownsRow (w.heap.size + 3) 50 3 (.slice py ym.ms.length cy) (ym.ms).length (rows M.cells (ym.ms))) (h2 : w.heap.size + 3 ≤ w'.heap.size) => with_any (w.heap.size + 3) (.slice py ym.ms.length cy) (ym.ms) ⟨q, u, idx⟩ w' h hyl HPR.out h2
     have HADD : Hid (addY x.mb s ⟨q, u, idx⟩ = ⟨s, ym.b, wth (ym.ms) ⟨q, u, idx⟩⟩) := HAD.out
     obtain ⟨l5, HL5⟩ := hid_ex (wth (ym.ms) ⟨q, u, idx⟩)
     rw [HL5.out] at CW HADD
     clear HL5 HAT HAD HPR
     have RB := rw_new w4 67 #[.string ym.x, .bool ym.b, .slice py ym.ms.length cy]
     have hbA := bel_alloc (Below.refl w4.heap.size w4) (.cells #[.string ym.x, .bool ym.b, .slice py ym.ms.length cy] 67)
     replace R1 := R1.later hbA
     replace R3 := R3.later hbA
     have hown9 := map_later hown hbA
     replace hOB := hOB.later hbA
     replace hoy := own_later hoy hbA
     replace hbs := below_on hbs hbA
     have hbx : w.heap.size + 3 ≤ w4.heap.size := hB2
     replace hB2 := Nat.le_trans hB2 hbA.size
     generalize hW : w4.alloc (.cells #[.string ym.x, .bool ym.b, .slice py ym.ms.length cy] 67) = w5 at RB R1 R3 hown9 hOB hoy hbs hB2
     have HW : Hid (w4.alloc (.cells #[.string ym.x, .bool ym.b, .slice py ym.ms.length cy] 67) = w5) := hW
     clear hW
     have cb2 : w5.cell? ⟨w4.heap.size, 2, none⟩ = some (.slice py ym.ms.length cy) := RB.cell 2
     have d1 := tx_dot R1
     have zd : (Tryz.prog.info? 29).map (·.size) = some [Value.int .i64 q, .int .i64 u].length := size29
     go_wp2_with (first | rw [HW.out] | (at_lookup; refine lookup_v rfl _ _ 111 rfl 9 67 law9 Tryz.underlying111 (Tryz.zeroValue67 _) rfl hown rfl hkey hat ?_) | refine load_m 29 _ rfl rfl _ _ rfl d1 Tryz.underlying29 rfl zd ?_)
     clear HW hat hown cb2 d1 hbA
     refine (CW w5 hoy hB2).mono ?_
     clear CW
     rintro e w6 ⟨u6, rfl, ho6, hk6, hu6, hb6⟩
     obtain ⟨p6, c6, rfl⟩ := own_sl ho6
     have hlo : ∀ k, (Value.slice py ym.ms.length cy).ownBlock = some k → k < w5.heap.size := fun k hk => (World.ownsRow.lt hoy k hk).2
     have HLT : Hid (∀ a ∈ A ++ C, ∀ k, a.2.ownBlock = some k → k < w5.heap.size) := fun a ha k hk => (World.ownsRow.lt (hOB.o a (by rcases List.mem_append.1 ha with h1 | h1; exact List.mem_append.2 (.inl h1); exact List.mem_append.2 (.inr (List.mem_cons_of_mem _ h1)))) k hk).2
     have HOA : Hid (∀ a ∈ A ++ C, ∀ k, a.2.ownBlock = some k → (Value.slice py ym.ms.length cy).ownBlock ≠ some k) := hOB.apart
     have HOB : Hid (OwnB (w.heap.size + 3) w6 (A ++ C)) := OwnB.others hOB hk6
     replace hown9 := map_kp hown9 hk6 (fun e => map_ne hown9 hoy b e rfl)
     replace RB : Rw w6 w4.heap.size 67 _ := (hk6 _ RB.lt (fun e => own_ne hoy RB (by decide) _ e rfl)).trans RB
     replace R3 : Rw w6 (w.heap.size + 2) 27 _ := (hb6.block _ (by omega)).trans R3
     have hbs6 := hbs.trans (hb6.mono (show w.heap.size ≤ w.heap.size + 3 by omega))
     have hB6 := Nat.le_trans hB2 hb6.size
     have HOC : Hid (OwnB (w.heap.size + 3) w6 (A ++ (⟨s, ym.b, l5⟩, .slice p6 l5.length c6) :: C)) := HOB.out.mid ho6 (fun k' hk' a ha h2 => by
      rcases hu6 k' hk' with h3 | h3
      ·exact HOA.out a ha k' h2 h3
      ·have := HLT.out a ha k' h2
       omega)
     clear hk6 hu6 hb6 hoy hlo HLT HOA HOB ho6 R1 hOB hbs hB2
     have g0 : w6.cell? ⟨w4.heap.size, 0, none⟩ = some (.string ym.x) := RB.cell 0
     have f0 : w6.frozen? ⟨w4.heap.size, 0, none⟩ = false := RB.frozen 0
     have RB2 : Rw (w6.setCell ⟨w4.heap.size, 0, none⟩ (.string s)) w4.heap.size 67 #[.string s, .bool ym.b, .slice py ym.ms.length cy] := RB.set 0 _
     have g2 : (w6.setCell ⟨w4.heap.size, 0, none⟩ (.string s)).cell? ⟨w4.heap.size, 2, none⟩ = some (.slice py ym.ms.length cy) := RB2.cell 2
     have f2 : (w6.setCell ⟨w4.heap.size, 0, none⟩ (.string s)).frozen? ⟨w4.heap.size, 2, none⟩ = false := RB2.frozen 2
     have RB3 : Rw ((w6.setCell ⟨w4.heap.size, 0, none⟩ (.string s)).setCell ⟨w4.heap.size, 2, none⟩ (.slice p6 l5.length c6)) w4.heap.size 67 #[.string s, .bool ym.b, .slice p6 l5.length c6] := RB2.set 2 _
     have hk7 : Kp (some w4.heap.size) w6 ((w6.setCell ⟨w4.heap.size, 0, none⟩ (.string s)).setCell ⟨w4.heap.size, 2, none⟩ (.slice p6 l5.length c6)) := fun c' h' hne => (Below.heap_setCell _ _ _ c' (fun e => hne (by rw [e]))).trans (Below.heap_setCell _ _ _ c' (fun e => hne (by rw [e])))
     have hb7 := (hbs6.setCell (p := ⟨w4.heap.size, 0, none⟩) (by show w.heap.size ≤ w4.heap.size; omega) (.string s)).setCell (p := ⟨w4.heap.size, 2, none⟩) (by show w.heap.size ≤ w4.heap.size; omega) (.slice p6 l5.length c6)
     have hB7 : w.heap.size + 3 ≤ ((w6.setCell ⟨w4.heap.size, 0, none⟩ (.string s)).setCell ⟨w4.heap.size, 2, none⟩ (.slice p6 l5.length c6)).heap.size := by rw [World.size_setCell, World.size_setCell]; exact hB6
     generalize hW : (w6.setCell ⟨w4.heap.size, 0, none⟩ (.string s)).setCell ⟨w4.heap.size, 2, none⟩ (.slice p6 l5.length c6) = w7 at RB3 hk7 hb7 hB7
     replace HOC : Hid (OwnB (w.heap.size + 3) w7 (A ++ (⟨s, ym.b, l5⟩, .slice p6 l5.length c6) :: C)) := ⟨fun a ha => own_kp (HOC.out.o a ha) hk7 (fun k hk e => own_ne (HOC.out.o a ha) RB (by decide) k hk (Option.some.inj e).symm), HOC.out.d⟩
     have hown7 := map_kp hown9 hk7 (fun e => rw_map RB hown9 (Option.some.inj e))
     replace R3 : Rw w7 (w.heap.size + 2) 27 _ := (hk7 _ R3.lt (fun e => by have := Option.some.inj e; omega)).trans R3
     clear hown9 hk7 hbs6 hB6
     go_wp2_with (first | rw [hW] | refine load_r 67 _ rfl rfl _ rfl RB3 Tryz.underlying67 rfl size67 ?_ | (at_mapUpdate; refine wpList_mapUpdate_own _ rfl _ _ _ 111 rfl 9 67 law9 Tryz.underlying111 vE b _ _ rfl hown7 (by unfold maxLen; omega) _ _ _ rfl rfl hkey _ [] rfl ?_; intro w8 hown8 hg8))
     clear hW g0 f0 g2 f2 RB RB2
     have HDN : Hid (MapIs (D.put (.string (bs s)) (.held (.agg #[.string s, .bool ym.b, .slice p6 l5.length c6]))) (A ++ (⟨s, ym.b, l5⟩, .slice p6 l5.length c6) :: C)) := by
      have h2 := hD.put (⟨s, ym.b, l5⟩, .slice p6 l5.length c6)
      rw [putV_mid (y := (ym, .slice py ym.ms.length cy)) HYT.out hA hC] at h2
      exact h2
     have hOB8 := HOC.out.turned hown7 hg8
     replace R3 := R3.turned hown7 hg8
     replace hb7 := hb7.grown hg8 hb7.size (fun j hj => by cases hj; omega)
     have HNY : Hid ((A ++ (⟨s, ym.b, l5⟩, .slice p6 l5.length c6) :: C).map (·.1) = (addL x.mb s ⟨q, u, idx⟩)) := by
      show _ = _
      unfold addL
      rw [HADD.out, ← HMS.out]
      simp only [List.map_append, List.map_cons]
      rw [putL_mid (y := ym) (z := ⟨s, ym.b, l5⟩) HYT.out (map_all (P := fun a => tx a < bs s) hA) (map_all (P := fun a => bs s < tx a) hC)]
     have CC := cellOf_any b _ _ _ w8 hown8 HDN.out (by omega) hOB8.has (fun y hy => ?_) ?_
     rotate_left
     ·have h3 : y.1 ∈ (addL x.mb s ⟨q, u, idx⟩) := by rw [← HNY.out]; exact List.mem_map_of_mem hy
      exact HTX.out _ h3
     ·have h3 : (A ++ (⟨s, ym.b, l5⟩, .slice p6 l5.length c6) :: C).length = (addL x.mb s ⟨q, u, idx⟩).length := by rw [← HNY.out, List.length_map]
      rw [h3]
      have := HLE.out
      omega
     rw [HNY.out] at CC
     clear HNY HDN HADD HMS hown8 hown7 hOB8 HOC hg8 hD RB3 HTX HLE
     go_wp2_with fail
     refine CC.mono ?_
     rintro e w9 ⟨ua, uw, um, ue, rfl, hf, hb9⟩
     obtain ⟨na, ea, nw, ew, nm, em, ne, ee, rfl, rfl, rfl, rfl⟩ := hf.slices
     replace R3 := R3.later hb9
     replace hb7 := below_on hb7 hb9
     clear CC
     have e := HQ2.out.symm
     subst e
     go_wp2_with (first | refine store_r rfl 27 _ _ rfl _ (cvc 4 0 (.slice na 0 ea) (.slice nw 0 ew) (.slice nm (addL x.mb s ⟨q, u, idx⟩).length em) (.slice ne 0 ee)) rfl rfl R3 size27 rfl (by simp [Value.oneCell']) ?_)
     refine bodyPost_ret (results_r rfl rfl (R3.row _) rfl Tryz.underlying27 size27) rfl ?_
     exact ⟨_, _, _, _, rfl, four4_row hf R3 _, below_setRow hb7 (by omega) _⟩
   ·have hsx' : (64 : Int) < (s.size : Int) := by omega
    have e := HQ.out
    rw [show (true && (true && decide (s.size ≤ 64))) = false by simp [hsx], if_neg (by decide)] at e
    have e := e.symm
    subst e
    go_wp2_with (first | refine load_r 27 _ rfl rfl _ rfl R4 Tryz.underlying27 rfl size27 ?_ | refine store_r rfl 27 _ _ rfl _ (cx x qa da qw dw qm dx qe de) rfl rfl R3 size27 rfl (by simp [Value.oneCell']) ?_)
    refine bodyPost_ret (results_r rfl rfl (R3.row (cx x qa da qw dw qm dx qe de)) rfl Tryz.underlying27 size27) rfl ?_
    exact ⟨_, _, _, _, rfl, (ho2.row (by omega) R3 (cx x qa da qw dw qm dx qe de)).four, below_setRow hbs (by omega) _⟩
end Go.Proofs.YtjbbmcommnhgeaaGreat.Os
namespace Go.Proofs.YtjbbmcommnhgeaaGreat.Os
open Go.RowKit Go.Sort
theorem four_zero {w w' : World} {x : X} {va vw vm ve : Value} (h : Four w x va vw vm ve) (h1 : x.am.length = 0) (h2 : x.wr.length = 0) (h3 : x.el.length = 0) {vm' : Value} {l : List Mb} (hm : BHas w' vm' l) : Four w' { x with mb := l } va vw vm' ve := by
 obtain ⟨k, b, am, wr, mb, el⟩ := x
 obtain rfl := List.eq_nil_of_length_eq_zero h1
 obtain rfl := List.eq_nil_of_length_eq_zero h2
 obtain rfl := List.eq_nil_of_length_eq_zero h3
 obtain ⟨ha, ht, _, ⟨es, e3, e4, _⟩⟩ := h
 obtain rfl := List.map_eq_nil_iff.1 e3
 exact ⟨SHas.zero ha, SHas.zero ht, hm, ⟨[], rfl, SHas.zero e4, fun _ h => by cases h⟩⟩
end Go.Proofs.YtjbbmcommnhgeaaGreat.Os
