import Derived.Shelf.SlIter.Nil
import Derived.Shelf.SortM.Plain
import Derived.Shelf.SortM.SortNone
import Derived.Maps.OwnSet
import Derived.Test.YtjbbmcommnhgeaaGreatPk18
import Derived.Maps.AppendAt
import Derived.Deep.RegionWith
set_option maxRecDepth 100000
set_option maxHeartbeats 8000000
namespace Go.Proofs.YtjbbmcommnhgeaaGreat.Rg
open Go.RowKit Go.Maps Go.Sort Go.Shelf Go.Proofs
def keys40_ren : Go.Shelf.Ren := ⟨fun | 7 => 219 | 10 => 220 | n => n, fun | 23 => 218 | 26 => 9 | 3 => 219 | 28 => 148 | 0 => 0 | 27 => 147 | 33 => 165 | 4 => 4 | n => n, fun | n => n⟩
theorem keys40 : Go.Proofs.SlLaysZ.n7 Tryz.prog keys40_ren := {
 mixed := by kernel_rfl
 f7 := ⟨Tryz.f219.name, by decide, Tryz.func219.trans (congrArg some (by kernel_rfl))⟩
 f10 := ⟨Tryz.f220.name, by decide, Tryz.func220.trans (congrArg some (by kernel_rfl))⟩
 t0 := Tryz.underlying0
 a0 := Tryz.isAgg0
 z0 := Tryz.sizeOf0
 v0 := Tryz.zeroValue0
 t4 := Tryz.underlying4
 a4 := Tryz.isAgg4
 z4 := Tryz.sizeOf4
 v4 := Tryz.zeroValue4
 t23 := Tryz.underlying218
 a23 := Tryz.isAgg218
 z23 := Tryz.sizeOf218
 v23 := Tryz.zeroValue218
 t26 := Tryz.underlying9
 a26 := Tryz.isAgg9
 z26 := Tryz.sizeOf9
 v26 := Tryz.zeroValue9
 t27 := Tryz.underlying147
 a27 := Tryz.isAgg147
 z27 := Tryz.sizeOf147
 v27 := Tryz.zeroValue147
 t28 := Tryz.underlying148
 a28 := Tryz.isAgg148
 z28 := Tryz.sizeOf148
 v28 := Tryz.zeroValue148
 t33 := Tryz.underlying165
 a33 := Tryz.isAgg165
 z33 := Tryz.sizeOf165
 v33 := Tryz.zeroValue165 }
def sorted39_ren : Go.Shelf.Ren := ⟨fun | 6 => 123 | 8 => 148 | 9 => 149 | 11 => 162 | 13 => 164 | 12 => 163 | 23 => 176 | 24 => 177 | 14 => 167 | 15 => 168 | 16 => 169 | 17 => 170 | 18 => 171 | 19 => 172 | 20 => 173 | 21 => 174 | 22 => 175 | 25 => 178 | 26 => 179 | 27 => 180 | 28 => 181 | 29 => 182 | 30 => 183 | 31 => 184 | n => n, fun | 26 => 9 | 28 => 148 | 24 => 43 | 0 => 0 | 3 => 3 | 37 => 158 | 48 => 187 | 50 => 189 | 4 => 4 | 40 => 180 | 39 => 179 | 45 => 104 | 5 => 5 | 9 => 9 | 51 => 190 | 55 => 194 | 57 => 196 | 58 => 197 | 33 => 165 | n => n, fun | n => n⟩
theorem sorted39 : Go.Proofs.SlLaysZ.n6 Tryz.prog sorted39_ren := {
 mixed := by kernel_rfl
 f6 := ⟨Tryz.f123.name, by decide, Tryz.func123.trans (congrArg some (by kernel_rfl))⟩
 f8 := ⟨Tryz.f148.name, by decide, Tryz.func148.trans (congrArg some (by kernel_rfl))⟩
 f11 := ⟨Tryz.f162.name, by decide, Tryz.func162.trans (congrArg some (by kernel_rfl))⟩
 t0 := Tryz.underlying0
 a0 := Tryz.isAgg0
 z0 := Tryz.sizeOf0
 v0 := Tryz.zeroValue0
 t24 := Tryz.underlying43
 a24 := Tryz.isAgg43
 z24 := Tryz.sizeOf43
 v24 := Tryz.zeroValue43
 t26 := Tryz.underlying9
 a26 := Tryz.isAgg9
 z26 := Tryz.sizeOf9
 v26 := Tryz.zeroValue9
 t28 := Tryz.underlying148
 a28 := Tryz.isAgg148
 z28 := Tryz.sizeOf148
 v28 := Tryz.zeroValue148
 i26 := by kernel_rfl }
def sort54_ren : Go.Shelf.Ren := ⟨fun | 6 => 149 | 8 => 164 | 9 => 163 | 19 => 176 | 20 => 177 | 21 => 167 | 22 => 168 | 23 => 169 | 24 => 170 | 25 => 171 | 26 => 172 | 27 => 173 | 28 => 174 | 29 => 175 | 36 => 178 | 31 => 179 | 32 => 180 | 37 => 181 | 38 => 182 | 39 => 183 | 41 => 184 | n => n, fun | 27 => 43 | 29 => 9 | 3 => 3 | 32 => 158 | 26 => 43 | 0 => 0 | 44 => 187 | 46 => 189 | 4 => 4 | 36 => 180 | 35 => 179 | 41 => 104 | 5 => 5 | 9 => 9 | 53 => 190 | 57 => 194 | 63 => 196 | 64 => 197 | n => n, fun | n => n⟩
theorem sort54 : Go.Proofs.SlLaysM.n6 Tryz.prog sort54_ren := {
 mixed := by kernel_rfl
 f6 := ⟨Tryz.f149.name, by decide, Tryz.func149.trans (congrArg some (by kernel_rfl))⟩
 f8 := Tryz.func164.trans (congrArg some (by kernel_rfl))
 f9 := ⟨Tryz.f163.name, by decide, Tryz.func163.trans (congrArg some (by kernel_rfl))⟩
 f19 := Tryz.func176.trans (congrArg some (by kernel_rfl))
 f20 := Tryz.func177.trans (congrArg some (by kernel_rfl))
 f21 := ⟨Tryz.f167.name, by decide, Tryz.func167.trans (congrArg some (by kernel_rfl))⟩
 f22 := ⟨Tryz.f168.name, by decide, Tryz.func168.trans (congrArg some (by kernel_rfl))⟩
 f23 := ⟨Tryz.f169.name, by decide, Tryz.func169.trans (congrArg some (by kernel_rfl))⟩
 f24 := ⟨Tryz.f170.name, by decide, Tryz.func170.trans (congrArg some (by kernel_rfl))⟩
 f25 := ⟨Tryz.f171.name, by decide, Tryz.func171.trans (congrArg some (by kernel_rfl))⟩
 f26 := ⟨Tryz.f172.name, by decide, Tryz.func172.trans (congrArg some (by kernel_rfl))⟩
 f27 := ⟨Tryz.f173.name, by decide, Tryz.func173.trans (congrArg some (by kernel_rfl))⟩
 f28 := ⟨Tryz.f174.name, by decide, Tryz.func174.trans (congrArg some (by kernel_rfl))⟩
 f29 := ⟨Tryz.f175.name, by decide, Tryz.func175.trans (congrArg some (by kernel_rfl))⟩
 f31 := Tryz.func179.trans (congrArg some (by kernel_rfl))
 f32 := Tryz.func180.trans (congrArg some (by kernel_rfl))
 f36 := ⟨Tryz.f178.name, by decide, Tryz.func178.trans (congrArg some (by kernel_rfl))⟩
 f37 := ⟨Tryz.f181.name, by decide, Tryz.func181.trans (congrArg some (by kernel_rfl))⟩
 f38 := ⟨Tryz.f182.name, by decide, Tryz.func182.trans (congrArg some (by kernel_rfl))⟩
 f39 := ⟨Tryz.f183.name, by decide, Tryz.func183.trans (congrArg some (by kernel_rfl))⟩
 f41 := ⟨Tryz.f184.name, by decide, Tryz.func184.trans (congrArg some (by kernel_rfl))⟩
 t0 := Tryz.underlying0
 a0 := Tryz.isAgg0
 z0 := Tryz.sizeOf0
 v0 := Tryz.zeroValue0
 t3 := Tryz.underlying3
 a3 := Tryz.isAgg3
 z3 := Tryz.sizeOf3
 v3 := Tryz.zeroValue3
 t4 := Tryz.underlying4
 a4 := Tryz.isAgg4
 z4 := Tryz.sizeOf4
 v4 := Tryz.zeroValue4
 t5 := Tryz.underlying5
 a5 := Tryz.isAgg5
 z5 := Tryz.sizeOf5
 v5 := Tryz.zeroValue5
 t9 := Tryz.underlying9
 a9 := Tryz.isAgg9
 z9 := Tryz.sizeOf9
 v9 := Tryz.zeroValue9
 t26 := Tryz.underlying43
 a26 := Tryz.isAgg43
 z26 := Tryz.sizeOf43
 v26 := Tryz.zeroValue43
 t27 := Tryz.underlying43
 a27 := Tryz.isAgg43
 z27 := Tryz.sizeOf43
 v27 := Tryz.zeroValue43
 t29 := Tryz.underlying9
 a29 := Tryz.isAgg9
 z29 := Tryz.sizeOf9
 v29 := Tryz.zeroValue9
 t32 := Tryz.underlying158
 a32 := Tryz.isAgg158
 z32 := Tryz.sizeOf158
 v32 := Tryz.zeroValue158
 t35 := Tryz.underlying179
 a35 := Tryz.isAgg179
 z35 := Tryz.sizeOf179
 v35 := Tryz.zeroValue179
 t36 := Tryz.underlying180
 a36 := Tryz.isAgg180
 z36 := Tryz.sizeOf180
 v36 := Tryz.zeroValue180
 t41 := Tryz.underlying104
 a41 := Tryz.isAgg104
 z41 := Tryz.sizeOf104
 v41 := Tryz.zeroValue104
 t44 := Tryz.underlying187
 a44 := Tryz.isAgg187
 z44 := Tryz.sizeOf187
 v44 := Tryz.zeroValue187
 t46 := Tryz.underlying189
 a46 := Tryz.isAgg189
 z46 := Tryz.sizeOf189
 v46 := Tryz.zeroValue189
 t53 := Tryz.underlying190
 a53 := Tryz.isAgg190
 z53 := Tryz.sizeOf190
 v53 := Tryz.zeroValue190
 t57 := Tryz.underlying194
 a57 := Tryz.isAgg194
 z57 := Tryz.sizeOf194
 v57 := Tryz.zeroValue194
 t63 := Tryz.underlying196
 a63 := Tryz.isAgg196
 z63 := Tryz.sizeOf196
 v63 := Tryz.zeroValue196
 t64 := Tryz.underlying197
 a64 := Tryz.isAgg197
 z64 := Tryz.sizeOf197
 v64 := Tryz.zeroValue197 }
theorem sorts39 (m : Nat) : AnyZ.SortsIn Tryz.prog sorted39_ren Fence.wide m :=
  ⟨fun blk off cap ss W hH hblk hsz => callsIn_wide.2 (AnyM.slices_Sort_string sort54 blk off cap ss W hH hblk hsz),
   fun p cap W => callsIn_wide.2 (AnyM.slices_Sort_string_none sort54 p cap W)⟩
theorem maps_Keys_40 (mb : Option Nat) (W : World) : CallsIn Fence.wide 5 Tryz.prog 219 #[.map mb] W fun e w' => e = .returned (.func (.func 220) #[] #[.pointer (some ⟨W.heap.size, 0, none⟩)]) ∧ w' = W.alloc (.cells #[.map mb] 218) :=
 AnyZ.keys_in keys40 Fence.wide 5 trivial rfl mb W
theorem slices_Sorted_keys_39_40 {H : Type} (b nn : Nat) (D0 : DataW H) (R : Value → Option (DataW H × List MemPlace)) (w : World) (hown : w.ownsMap Tryz.prog 9 R b nn D0) (hmax : Maps.size D0 ≤ maxLen) (hbytes : Maps.size D0 * 16 ≤ 140737488355328) :
  CallsIn Fence.wide 5 Tryz.prog 123 #[.func (.func 220) #[] #[.pointer (some ⟨w.heap.size, 0, none⟩)]] (w.alloc (.cells #[.map (some b)] 218)) fun e w' => ∃ (v : Value) (ss : List (List UInt8)), e = .returned v ∧ ss.Perm (strKeys D0) ∧
   w'.ownsRow (w.alloc (.cells #[.map (some b)] 218)).heap.size 9 1 v ss.length ((ss.mergeSort (fun x y => decide (x ≤ y))).map encStr) ∧ (v = .slice none 0 0 ↔ ss = []) ∧ Below (w.alloc (.cells #[.map (some b)] 218)).heap.size (w.alloc (.cells #[.map (some b)] 218)) w' := by
 have hbl := hown.lt
 have hseq : SeqGives Fence.wide 2 Tryz.prog 220 #[.pointer (some ⟨w.heap.size, 0, none⟩)] encStr (fun ss => ss.Perm (strKeys D0)) (Maps.size D0) (w.alloc (.cells #[.map (some b)] 218)) :=
  AnyZ.keys_gives (ρ := keys40_ren) { keys40 with } Fence.wide _ trivial rfl (by omega) w.heap.size b nn D0 _ (by simp) (by simp) (by
   obtain ⟨es, clock, hb, Ft, hs, hD⟩ := hown
   exact ⟨es, clock, (Below.heap_alloc _ _ b hbl).trans hb, Ft, hs, hD⟩)
 exact AnyZ.sorted_in sorted39 Fence.wide 5 trivial trivial trivial trivial rfl (by omega) (sorts39 _) (enters_of Tryz.func149 (by kernel_rfl) rfl) 220 #[.pointer (some ⟨w.heap.size, 0, none⟩)] trivial (enters_of Tryz.func220 (by kernel_rfl) rfl) _ _ hmax hbytes _ hseq
end Go.Proofs.YtjbbmcommnhgeaaGreat.Rg
namespace Go.Proofs.YtjbbmcommnhgeaaGreat.Rg
open Go.RowKit Go.Sort Go.Maps Go.WideMaps
def TtPost (l : List Bs) (w : World) (e : Ending) (w' : World) : Prop := ∃ u, e = .returned u ∧ THas w' u l ∧ Below w.heap.size w w'
theorem law9 : Keyed Tryz.prog 9 := string_keyed Tryz.underlying9
def setT (l : List Bs) : DataW Unit := setOf (.agg []) (l.map Lit.string)
theorem setT_snoc (l : List Bs) (s : Bs) : setT (l ++ [s]) = (setT l).put (.string s) (.agg []) := by
 unfold setT
 rw [List.map_append, List.map_cons, List.map_nil, setOf_snoc]
theorem setT_has (l : List Bs) (x : Bs) : Maps.has (setT l) (.string x) = true ↔ x ∈ l := by
 unfold setT
 rw [has_setOf _ _ _ (fun y hy => by
  obtain ⟨z, _, rfl⟩ := List.mem_map.1 hy
  trivial), List.any_eq_true]
 constructor
 ·rintro ⟨y, hy, h⟩
  obtain ⟨z, hz, rfl⟩ := List.mem_map.1 hy
  have e : z = x := by simpa [Lit.sameKey] using h
  rw [← e]
  exact hz
 ·intro h
  exact ⟨.string x, List.mem_map_of_mem h, by simp [Lit.sameKey]⟩
theorem keys_sorted {w : World} {R : Value → Option (DataW Unit × List MemPlace)} {b n : Nat} {l ss : List Bs} (hown : w.ownsMap Tryz.prog 9 R b n (setT l)) (hp : ss.Perm (strKeys (setT l))) : ss.mergeSort (fun x y => decide (x ≤ y)) = txs l := by
 have hc : Collected (setT l) (fun _ => false) (txs l) := ⟨up_nodup (txs_up l), fun x => by rw [txs_mem, setT_has]; simp⟩
 have h2 := hc.perm hown law9 Tryz.underlying9 (fun _ => rfl)
 rw [mergeSort_of_perm (hp.trans h2.symm), sorted_txs (up_nodup (txs_up l)) (fun x => txs_mem l x)]
abbrev wtx (l : List Wt) : List Bs := l.map (fun y => bs y.x)
theorem texts_any (v : Value) (l : List Wt) (w : World) (h : WHas w v l) (hl : l.length ≤ 100) (hx : ∀ y ∈ l, y.x.size ≤ 64) : Calls Tryz.prog 218 #[v] w (TtPost (txs (wtx l)) w) := by
 obtain ⟨p, c, rfl⟩ := h.slice
 have HA : Hid (WHas w (.slice p l.length c) l) := h
 have HX : Hid (∀ y ∈ l, y.x.size ≤ 64) := hx
 clear h hx
 have hmm := @run_makeMap Tryz.prog
 go_enter Tryz.func218, Tryz.ntmps218
 go_wp2
 go_loopw [9] (fun vi wr => ∃ k : Nat, vi = .int .i64 k ∧ k ≤ l.length ∧ wr.ownsMap Tryz.prog 9 (unitElem (H := Unit)) w.heap.size k (setT (wtx (l.take k))) ∧ Below w.heap.size w wr) (fun vi _ => l.length - (intOf vi).toNat)
 case atStart => exact ⟨0, rfl, by omega, World.ownsMap_made _ _ _ _, bel_alloc (Below.refl _ _) _⟩
 case round =>
  obtain ⟨k, rfl, hk, hown, hbel⟩ := hrel
  by_cases hlt : k < l.length
  ·have hlt' : (k : Int) < (l.length : Int) := by omega
   obtain ⟨g, o, rfl, hd0⟩ := HA.out.at (by omega)
   have d := Wt.elem (range_later hd0 hbel) k hlt
   have hx := HX.out l[k] (List.getElem_mem _)
   clear hd0 HA HX
   obtain ⟨x, HXX⟩ := hid_ex l[k]
   rw [HXX.out] at d hx
   have HS : Hid (setT (wtx (l.take (k + 1))) = (setT (wtx (l.take k))).put (.string x.x.data.toList) (.agg [])) := by
    show _ = _
    unfold wtx
    rw [List.take_succ_eq_append_getElem hlt, List.map_append, List.map_cons, List.map_nil, setT_snoc, HXX.out]
   have z42 : (Tryz.prog.info? 64).map (·.size) = some x.cells.length := size64
   have hkey : keyOf Tryz.prog 9 (.string x.x) = some (.string x.x.data.toList) := keyOf_string_mk Tryz.underlying9 (by unfold maxLen; omega)
   have R5 := rw_new wr 64 #[.int .i64 x.p, .int .i64 x.s, .int .i64 x.i, .int .i64 x.t, .string x.x]
   have hbA := bel_alloc (Below.refl wr.heap.size wr) (.cells #[.int .i64 x.p, .int .i64 x.s, .int .i64 x.i, .int .i64 x.t, .string x.x] 64)
   replace hown := hown.alloc (.cells #[.int .i64 x.p, .int .i64 x.s, .int .i64 x.i, .int .i64 x.t, .string x.x] 64)
   replace hbel := below_on hbel hbA
   generalize setT (wtx (l.take k)) = D at hown HS
   generalize hW : wr.alloc (.cells #[.int .i64 x.p, .int .i64 x.s, .int .i64 x.i, .int .i64 x.t, .string x.x] 64) = w1 at R5 hown hbel
   have cx : w1.cell? ⟨wr.heap.size, 4, none⟩ = some (.string x.x) := R5.cell 4
   clear hbA HXX
   go_wp2_with (first
    | rw [hW]
    | refine load_m 64 _ rfl rfl _ _ rfl d Tryz.underlying64 rfl z42 ?_
    | (at_mapUpdate; refine wpList_mapUpdate_own _ rfl _ _ _ 218 rfl 9 219 law9 Tryz.underlying218 (unitElem (H := Unit)) w.heap.size k _ rfl hown (by unfold maxLen; omega) _ _ _ rfl rfl hkey _ [] unitElem_mk ?_; intro w2 hown2 hgrow2))
   go_roundw
   case rel => exact ⟨k + 1, by simp, by omega, by rw [HS.out]; exact hown2, hbel.grown hgrow2 hbel.size (fun j hj => by cases hj; exact Nat.le_refl _)⟩
   case measure => simp [intOf]; omega
  ·have hlt' : ¬ (k : Int) < (l.length : Int) := by omega
   obtain rfl : k = l.length := by omega
   rw [List.take_length] at hown
   have hsz := hown.size_le
   have CK := callsIn_wide.1 (maps_Keys_40 (some w.heap.size) wr)
   have CS := callsIn_wide.1 (slices_Sorted_keys_39_40 (H := Unit) w.heap.size l.length _ unitElem wr hown (by unfold maxLen; omega) (by omega))
   clear HA HX hmm
   go_wp2_with fail
   refine CK.mono ?_
   rintro e w1 ⟨rfl, rfl⟩
   go_wp2_with fail
   refine CS.mono ?_
   rintro e w2 ⟨u, ss, rfl, hS, hrow, hnil, hb2⟩
   have hs := keys_sorted hown hS
   rw [hs] at hrow
   have hlen : ss.length = (txs (wtx l)).length := by rw [← hs, List.length_mergeSort]
   rw [hlen] at hrow
   obtain ⟨qa, da, rfl⟩ := own_sl hrow
   go_wp2_with fail
   go_ret
   exact ⟨_, rfl, own_sh hrow, below_on hbel (below_on (bel_alloc (Below.refl _ _) _) hb2)⟩
end Go.Proofs.YtjbbmcommnhgeaaGreat.Rg
namespace Go.Proofs.YtjbbmcommnhgeaaGreat.Rg
open Go.RowKit
def rdK (x : X) : Int := if ck x = true then x.k else 0
def rdW (x : X) : List Wt := if x.k = 2 then lastW x.wr else x.wr
def rdT (x : X) : List Bs := if ck x = true then txs (wtx (rdW x)) else []
def RdPost (x : X) (w : World) (e : Ending) (w' : World) : Prop := ∃ u, e = .returned (VV (rdK x) u) ∧ THas w' u (rdT x) ∧ Below w.heap.size w w'
def thP (l : List Bs) : Value → World → Prop := fun u w => THas w u l
theorem thP_keeps (l : List Bs) : Keeps (thP l) := fun _ _ _ h hb => h.later hb
theorem ck_text {x : X} (h : ck x = true) : ∀ y ∈ x.wr, y.x.size ≤ 64 := fun y hy => by
 have := ((ca_pair x.wr).1 (ck_parts h).2.2.2.2.2).1 y hy
 simp only [iw, Bool.and_eq_true, decide_eq_true_eq] at this
 exact this.2
theorem read_any (x : X) (va vw vm ve : Value) (w : World) (h : Four w x va vw vm ve) (hs : Sm x) : Calls Tryz.prog 216 #[CV x.k x.b va vw vm ve] w (RdPost x w) := by
 obtain ⟨pa, ca', pw, cw, pm, cm, pe, ce, rfl, rfl, rfl, rfl⟩ := h.slices
 have HF : Hid (Four w x (.slice pa x.am.length ca') (.slice pw x.wr.length cw) (.slice pm x.mb.length cm) (.slice pe x.el.length ce)) := h
 clear h
 obtain ⟨R0, R1, hbel⟩ := two_rows w (cvc x.k x.b (.slice pa x.am.length ca') (.slice pw x.wr.length cw) (.slice pm x.mb.length cm) (.slice pe x.el.length ce)) 27 #[.int .i64 0, .int .i64 0, .slice none 0 0, .slice none 0 0] 46
 have hsz : ((w.alloc (.cells (cvc x.k x.b (.slice pa x.am.length ca') (.slice pw x.wr.length cw) (.slice pm x.mb.length cm) (.slice pe x.el.length ce)) 27)).alloc (.cells #[.int .i64 0, .int .i64 0, .slice none 0 0, .slice none 0 0] 46)).heap.size = w.heap.size + 2 := by simp
 generalize hW : (w.alloc (.cells (cvc x.k x.b (.slice pa x.am.length ca') (.slice pw x.wr.length cw) (.slice pm x.mb.length cm) (.slice pe x.el.length ce)) 27)).alloc (.cells #[.int .i64 0, .int .i64 0, .slice none 0 0, .slice none 0 0] 46) = w0 at R0 R1 hbel hsz
 go_enter Tryz.func216, Tryz.ntmps216
 go_wp2_with (first | rw [hW] | refine load_r 27 _ rfl rfl _ rfl R0 Tryz.underlying27 rfl size27 ?_)
 clear hW
 refine (check_any x _ _ _ _ w0 (HF.out.later hbel) hs).mono ?_
 rintro e w1 ⟨rfl, hb1⟩
 replace R0 := R0.later hb1
 replace R1 := R1.later hb1
 replace hbel := below_on hbel hb1
 have hB : w.heap.size + 2 ≤ w1.heap.size := by have := hb1.size; omega
 clear hb1 hsz
 obtain ⟨y1, HY1⟩ := hid_ex (ck x)
 rw [HY1.out]
 cases y1
 ·go_wp2_with (first | refine store_r rfl 46 _ _ rfl _ #[.int .i64 0, .int .i64 0, .slice none 0 0, .slice none 0 0] rfl rfl R1 size46 rfl (by simp [Value.oneCell']) ?_)
  refine bodyPost_ret (v := VV 0 (.slice none 0 0)) (results_r rfl rfl (R1.row #[.int .i64 0, .int .i64 0, .slice none 0 0, .slice none 0 0]) rfl Tryz.underlying46 size46) rfl ?_
  refine ⟨.slice none 0 0, ?_, ?_, below_setRow hbel (by omega) _⟩
  ·unfold rdK
   rw [HY1.out]
   rfl
  ·unfold rdT
   rw [HY1.out]
   exact THas.nil _
 ·have R3 := rw_new w1 46 #[.int .i64 0, .int .i64 0, .slice none 0 0, .slice none 0 0]
  have hbA := bel_alloc (Below.refl w1.heap.size w1) (.cells #[.int .i64 0, .int .i64 0, .slice none 0 0, .slice none 0 0] 46)
  replace R0 := R0.later hbA
  replace R1 := R1.later hbA
  replace hbel := below_on hbel hbA
  generalize hW : w1.alloc (.cells #[.int .i64 0, .int .i64 0, .slice none 0 0, .slice none 0 0] 46) = w2 at R0 R1 R3 hbel
  have c0 : w2.cell? ⟨w.heap.size, 0, none⟩ = some (.int .i64 x.k) := R0.cell 0
  have c3 : w2.cell? ⟨w.heap.size, 3, none⟩ = some (.slice pw x.wr.length cw) := R0.cell 3
  have hxt := ck_text HY1.out
  have HP : Hid (∀ (u : Value) (w' : World), THas w' u (txs (wtx (rdW x))) → Below w.heap.size w w' → RdPost x w (.returned (VV x.k u)) w') := fun u w' h1 h2 => by
   refine ⟨u, ?_, ?_, h2⟩
   ·unfold rdK
    rw [HY1.out]
    rfl
   ·unfold rdT
    rw [HY1.out]
    exact h1
  have hk := (ck_parts HY1.out).1
  have hst := hs.t
  clear hbA HY1 hs
  by_cases hk2 : x.k = 2
  ·have HC : Hid (∀ w', Below w2.heap.size w2 w' → Calls Tryz.prog 217 #[.slice pw x.wr.length cw] w' (LaPost (lastW x.wr) w')) := fun w' hb => last_any _ _ _ ((HF.out.t.later hbel).later hb) hst
   have HE : Hid (rdW x = lastW x.wr) := if_pos hk2
   have hlt1 : (lastW x.wr).length ≤ 100 := Nat.le_trans (lastW_length _) (by decide)
   have hlx : ∀ y ∈ lastW x.wr, y.x.size ≤ 64 := fun y hy => hxt y (lastW_mem hy)
   clear hxt
   go_wp2_with (first | rw [hW])
   clear hW
   refine (HC.out _ (Below.refl _ _)).mono ?_
   rintro e w3 ⟨u, rfl, hu, hb1⟩
   obtain ⟨pu, cu, rfl⟩ := hu.slice
   replace R0 := R0.later hb1
   replace R1 := R1.later hb1
   replace R3 := R3.later hb1
   replace hbel := below_on hbel hb1
   clear hb1 c0 c3 HC
   generalize lastW x.wr = m at *
   go_wp2_with fail
   have hS : Calm.Stays (fun w' => Below w3.heap.size w3 w') := fun wa wb h hb => below_on h hb
   have hF : Facts.Stay [pF 0 (eqP (.pointer (some ⟨w.heap.size, 0, none⟩))), pF 1 (eqP (.int .i64 x.k)), pF 2 (eqP (.slice pu m.length cu)), pF 3 (thP (txs (wtx m)))] := stay_of (by simp only [List.forall_mem_cons]; exact ⟨⟨_, _, rfl, eqP_keeps _⟩, ⟨_, _, rfl, eqP_keeps _⟩, ⟨_, _, rfl, eqP_keeps _⟩, ⟨_, _, rfl, thP_keeps _⟩, fun _ h => by cases h⟩)
   refine Facts.regionTail (by kernel_rfl) (by kernel_rfl) 4 (by decide) (by kernel_rfl) (fun w' => Below w3.heap.size w3 w') (fun xv => { tmps := #[CV 2 x.b (Value.slice pa x.am.length ca') (Value.slice pw x.wr.length cw) (Value.slice pm x.mb.length cm) (Value.slice pe x.el.length ce), Value.pointer (some { block := w.heap.size, off := 0 }), Value.pointer (some { block := w.heap.size + 1, off := 0 }), Value.pointer (some { block := w1.heap.size, off := 0 }), Value.slice pu m.length cu, Value.agg (cvc 2 x.b (Value.slice pa x.am.length ca') (Value.slice pw x.wr.length cw) (Value.slice pm x.mb.length cm) (Value.slice pe x.el.length ce)), Value.bool true, Value.bool false, undef, Value.pointer (some { block := w.heap.size, off := 3 }), Value.slice pw x.wr.length cw, Value.pointer (some { block := w.heap.size, off := 0 }), Value.int IntKind.i64 2, Value.bool true, Value.bool true, undef, undef, Value.slice pw x.wr.length cw, Value.slice pu m.length cu, xv 0, xv 1, xv 2, xv 3, undef, undef], defers := [] }) [pF 0 (eqP (.pointer (some ⟨w.heap.size, 0, none⟩))), pF 1 (eqP (.int .i64 x.k)), pF 2 (eqP (.slice pu m.length cu)), pF 3 (thP (txs (wtx m)))] _ rfl rfl (by kernel_rfl) (fun j => [undef, undef, undef, undef].getD j undef) rfl (Below.refl _ w3).drew ⟨?_, ?_, ?_, ?_, ?_, ?_, trivial⟩ ?_
   ·exact fun _ => Facts.pureP hS hF (fun _ _ => rfl) rfl (fun xv wv hSw hd => by
     go_simp)
   ·exact fun _ => Facts.pureP hS hF (fun _ _ => rfl) rfl (fun xv wv hSw hd => by
     have d0 : xv 0 = _ := pF_get (hd ⟨0, .data⟩ (by simp) rfl _ rfl)
     have g1 : w3.cell? ⟨w.heap.size, 0, none⟩ = some (.int .i64 x.k) := R0.cell 0
     have g2 := cell_later hSw g1
     simp only [d0]
     go_simp)
   ·exact fun _ => Facts.pureP hS hF (fun _ _ => rfl) rfl (fun xv wv hSw hd => by
     go_simp)
   ·refine fun _ => Facts.call1P hS hF (fun _ _ => rfl) rfl (by kernel_rfl) rfl (fun xv wv hSw hd => ?_)
    have d2 : xv 2 = _ := pF_get (hd ⟨2, .data⟩ (by simp) rfl _ rfl)
    rw [show Act.eval _ _ = xv 2 from rfl, d2]
    refine (texts_any _ _ _ (hu.later hSw) hlt1 hlx).mono ?_
    rintro e w' ⟨u, he, ho, hb⟩
    exact ⟨u, he, ho, hb⟩
   ·exact fun h => absurd h (by decide)
   ·exact fun h => absurd h (by decide)
   intro x9 w5 hb5 hf
   have e1 : x9 1 = _ := pF_get (hf 1 _ rfl)
   have e3 := pF_get (hf 3 _ rfl)
   replace e3 : THas w5 (x9 3) (txs (wtx m)) := e3
   clear hS hF hf
   obtain ⟨pz, cz, hz⟩ := e3.slice
   rw [hz] at e3
   replace R1 := R1.later hb5
   replace R3 := R3.later hb5
   replace hbel := below_on hbel hb5
   clear hb5
   refine tail_pure (v := VV x.k (.slice pz (txs (wtx m)).length cz)) (by simp only [e1, hz]; go_simp) ?_
   refine tail_store 46 _ _ rfl _ _ rfl rfl (R3.store #[.int .i64 x.k, .int .i64 0, .slice pz (txs (wtx m)).length cz, .slice none 0 0] size46 rfl (by simp [Value.oneCell'])) ?_
   refine Facts.tailWp_nil ?_
   have R3' := R3.row #[.int .i64 x.k, .int .i64 0, .slice pz (txs (wtx m)).length cz, .slice none 0 0]
   replace R1 := R1.rowOther (q := w1.heap.size) (by omega) #[.int .i64 x.k, .int .i64 0, .slice pz (txs (wtx m)).length cz, .slice none 0 0]
   replace hbel := below_setRow hbel (g := w1.heap.size) (by omega) #[.int .i64 x.k, .int .i64 0, .slice pz (txs (wtx m)).length cz, .slice none 0 0]
   replace e3 := THas.rowV e3 R3 #[.int .i64 x.k, .int .i64 0, .slice pz (txs (wtx m)).length cz, .slice none 0 0]
   generalize w5.setRow w1.heap.size #[.int .i64 x.k, .int .i64 0, .slice pz (txs (wtx m)).length cz, .slice none 0 0] = w6 at R3' R1 hbel e3 ⊢
   clear R3
   go_wp2_with (first | refine load_r 46 _ rfl rfl _ rfl R3' Tryz.underlying46 rfl size46 ?_ | refine store_r rfl 46 _ _ rfl _ #[.int .i64 x.k, .int .i64 0, .slice pz (txs (wtx m)).length cz, .slice none 0 0] rfl rfl R1 size46 rfl (by simp [Value.oneCell']) ?_)
   refine bodyPost_ret (results_r rfl rfl (R1.row _) rfl Tryz.underlying46 size46) rfl ?_
   refine HP.out _ _ ?_ (below_setRow hbel (by omega) _)
   rw [HE.out]
   exact THas.rowV e3 R1 _
  ·have hk3 : x.k = 3 := by omega
   have HE : Hid (rdW x = x.wr) := if_neg hk2
   have hu := HF.out.t.later hbel
   have hlt1 := hst
   have hlx := hxt
   clear hxt
   go_wp2_with (first | rw [hW])
   clear hW
   have hS : Calm.Stays (fun w' => Below w2.heap.size w2 w') := fun wa wb h hb => below_on h hb
   have hF : Facts.Stay [pF 0 (eqP (.pointer (some ⟨w.heap.size, 0, none⟩))), pF 1 (eqP (.int .i64 x.k)), pF 2 (eqP (.slice pw x.wr.length cw)), pF 3 (thP (txs (wtx x.wr)))] := stay_of (by simp only [List.forall_mem_cons]; exact ⟨⟨_, _, rfl, eqP_keeps _⟩, ⟨_, _, rfl, eqP_keeps _⟩, ⟨_, _, rfl, eqP_keeps _⟩, ⟨_, _, rfl, thP_keeps _⟩, fun _ h => by cases h⟩)
   refine Facts.regionTail (by kernel_rfl) (by kernel_rfl) 4 (by decide) (by kernel_rfl) (fun w' => Below w2.heap.size w2 w') (fun xv => { tmps := #[CV 3 x.b (Value.slice pa x.am.length ca') (Value.slice pw x.wr.length cw) (Value.slice pm x.mb.length cm) (Value.slice pe x.el.length ce), Value.pointer (some { block := w.heap.size, off := 0 }), Value.pointer (some { block := w.heap.size + 1, off := 0 }), Value.pointer (some { block := w1.heap.size, off := 0 }), Value.slice pw x.wr.length cw, Value.agg (cvc 3 x.b (Value.slice pa x.am.length ca') (Value.slice pw x.wr.length cw) (Value.slice pm x.mb.length cm) (Value.slice pe x.el.length ce)), Value.bool true, Value.bool false, undef, Value.pointer (some { block := w.heap.size, off := 3 }), Value.slice pw x.wr.length cw, Value.pointer (some { block := w.heap.size, off := 0 }), Value.int IntKind.i64 3, Value.bool false, Value.bool false, Value.bool true, Value.bool true, undef, undef, xv 0, xv 1, xv 2, xv 3, undef, undef], defers := [] }) [pF 0 (eqP (.pointer (some ⟨w.heap.size, 0, none⟩))), pF 1 (eqP (.int .i64 x.k)), pF 2 (eqP (.slice pw x.wr.length cw)), pF 3 (thP (txs (wtx x.wr)))] _ rfl rfl (by kernel_rfl) (fun j => [undef, undef, undef, undef].getD j undef) rfl (Below.refl _ w2).drew ⟨?_, ?_, ?_, ?_, ?_, ?_, trivial⟩ ?_
   ·exact fun _ => Facts.pureP hS hF (fun _ _ => rfl) rfl (fun xv wv hSw hd => by
     go_simp)
   ·exact fun _ => Facts.pureP hS hF (fun _ _ => rfl) rfl (fun xv wv hSw hd => by
     have d0 : xv 0 = _ := pF_get (hd ⟨0, .data⟩ (by simp) rfl _ rfl)
     have g1 : w2.cell? ⟨w.heap.size, 0, none⟩ = some (.int .i64 x.k) := R0.cell 0
     have g2 := cell_later hSw g1
     simp only [d0]
     go_simp)
   ·exact fun _ => Facts.pureP hS hF (fun _ _ => rfl) rfl (fun xv wv hSw hd => by
     go_simp)
   ·refine fun _ => Facts.call1P hS hF (fun _ _ => rfl) rfl (by kernel_rfl) rfl (fun xv wv hSw hd => ?_)
    have d2 : xv 2 = _ := pF_get (hd ⟨2, .data⟩ (by simp) rfl _ rfl)
    rw [show Act.eval _ _ = xv 2 from rfl, d2]
    refine (texts_any _ _ _ (hu.later hSw) hlt1 hlx).mono ?_
    rintro e w' ⟨u, he, ho, hb⟩
    exact ⟨u, he, ho, hb⟩
   ·exact fun h => absurd h (by decide)
   ·exact fun h => absurd h (by decide)
   intro x9 w5 hb5 hf
   have e1 : x9 1 = _ := pF_get (hf 1 _ rfl)
   have e3 := pF_get (hf 3 _ rfl)
   replace e3 : THas w5 (x9 3) (txs (wtx x.wr)) := e3
   clear hS hF hf
   obtain ⟨pz, cz, hz⟩ := e3.slice
   rw [hz] at e3
   replace R1 := R1.later hb5
   replace R3 := R3.later hb5
   replace hbel := below_on hbel hb5
   clear hb5
   refine tail_pure (v := VV x.k (.slice pz (txs (wtx x.wr)).length cz)) (by simp only [e1, hz]; go_simp) ?_
   refine tail_store 46 _ _ rfl _ _ rfl rfl (R3.store #[.int .i64 x.k, .int .i64 0, .slice pz (txs (wtx x.wr)).length cz, .slice none 0 0] size46 rfl (by simp [Value.oneCell'])) ?_
   refine Facts.tailWp_nil ?_
   have R3' := R3.row #[.int .i64 x.k, .int .i64 0, .slice pz (txs (wtx x.wr)).length cz, .slice none 0 0]
   replace R1 := R1.rowOther (q := w1.heap.size) (by omega) #[.int .i64 x.k, .int .i64 0, .slice pz (txs (wtx x.wr)).length cz, .slice none 0 0]
   replace hbel := below_setRow hbel (g := w1.heap.size) (by omega) #[.int .i64 x.k, .int .i64 0, .slice pz (txs (wtx x.wr)).length cz, .slice none 0 0]
   replace e3 := THas.rowV e3 R3 #[.int .i64 x.k, .int .i64 0, .slice pz (txs (wtx x.wr)).length cz, .slice none 0 0]
   generalize w5.setRow w1.heap.size #[.int .i64 x.k, .int .i64 0, .slice pz (txs (wtx x.wr)).length cz, .slice none 0 0] = w6 at R3' R1 hbel e3 ⊢
   clear R3
   go_wp2_with (first | refine load_r 46 _ rfl rfl _ rfl R3' Tryz.underlying46 rfl size46 ?_ | refine store_r rfl 46 _ _ rfl _ #[.int .i64 x.k, .int .i64 0, .slice pz (txs (wtx x.wr)).length cz, .slice none 0 0] rfl rfl R1 size46 rfl (by simp [Value.oneCell']) ?_)
   refine bodyPost_ret (results_r rfl rfl (R1.row _) rfl Tryz.underlying46 size46) rfl ?_
   refine HP.out _ _ ?_ (below_setRow hbel (by omega) _)
   rw [HE.out]
   exact THas.rowV e3 R1 _
end Go.Proofs.YtjbbmcommnhgeaaGreat.Rg
namespace Go.Proofs.YtjbbmcommnhgeaaGreat
open Go.RowKit
def fol (F X : Nat → Nat) : Nat → Nat → List Nat
 | 0, _ => []
 | f + 1, a => if a = 0 then [] else a :: (fol F X f (F a) ++ fol F X f (X a))
def Ends (F X : Nat → Nat) (m : Nat) (mu : Nat → Nat) : Prop := ∀ a, a ≠ 0 → a ≤ m → F a ≤ m ∧ X a ≤ m ∧ (F a ≠ 0 → mu (F a) < mu a) ∧ (X a ≠ 0 → mu (X a) < mu a)
theorem fol_zero (F X : Nat → Nat) (f : Nat) : fol F X f 0 = [] := by cases f <;> simp [fol]
theorem fol_eq {F X : Nat → Nat} {m : Nat} {mu : Nat → Nat} (h : Ends F X m mu) : ∀ (f g a : Nat), a ≤ m → mu a < f → mu a < g → fol F X f a = fol F X g a
 | 0, _, _, _, h1, _ => by omega
 | _ + 1, 0, _, _, _, h2 => by omega
 | f + 1, g + 1, a, hm, h1, h2 => by
  unfold fol
  split
  ·rfl
  ·rename_i h0
   obtain ⟨b1, b2, b3, b4⟩ := h a h0 hm
   have e1 : fol F X f (F a) = fol F X g (F a) := by
    by_cases e : F a = 0
    ·rw [e, fol_zero, fol_zero]
    ·have := b3 e
     exact fol_eq h f g (F a) b1 (by omega) (by omega)
   have e2 : fol F X f (X a) = fol F X g (X a) := by
    by_cases e : X a = 0
    ·rw [e, fol_zero, fol_zero]
    ·have := b4 e
     exact fol_eq h f g (X a) b2 (by omega) (by omega)
   rw [e1, e2]
def folA (F X : Nat → Nat) (mu : Nat → Nat) (a : Nat) : List Nat := fol F X (mu a + 1) a
theorem folA_zero (F X mu : Nat → Nat) : folA F X mu 0 = [] := fol_zero F X _
theorem folA_succ {F X : Nat → Nat} {m : Nat} {mu : Nat → Nat} (h : Ends F X m mu) {a : Nat} (h0 : a ≠ 0) (hm : a ≤ m) : folA F X mu a = a :: (folA F X mu (F a) ++ folA F X mu (X a)) := by
 obtain ⟨b1, b2, b3, b4⟩ := h a h0 hm
 unfold folA
 rw [fol, if_neg h0]
 have e1 : fol F X (mu a) (F a) = fol F X (mu (F a) + 1) (F a) := by
  by_cases e : F a = 0
  ·rw [e, fol_zero, fol_zero]
  ·have := b3 e
   exact fol_eq h _ _ (F a) b1 (by omega) (by omega)
 have e2 : fol F X (mu a) (X a) = fol F X (mu (X a) + 1) (X a) := by
  by_cases e : X a = 0
  ·rw [e, fol_zero, fol_zero]
  ·have := b4 e
   exact fol_eq h _ _ (X a) b2 (by omega) (by omega)
 rw [e1, e2]
def mz0 (mu : Nat → Nat) (a : Nat) : Nat := if a = 0 then 0 else mu a + 1
theorem mz0_F {F X : Nat → Nat} {m : Nat} {mu : Nat → Nat} (h : Ends F X m mu) {a : Nat} (h0 : a ≠ 0) (hm : a ≤ m) : mz0 mu (F a) < mz0 mu a ∧ mz0 mu (X a) < mz0 mu a := by
 obtain ⟨_, _, b3, b4⟩ := h a h0 hm
 unfold mz0
 rw [if_neg h0]
 constructor
 ·split
  ·omega
  ·rename_i e
   have := b3 e
   omega
 ·split
  ·omega
  ·rename_i e
   have := b4 e
   omega
theorem rw_own_ne {w : World} {b : Nat} {t : TypeId} {cs : Array Value} {B e S n : Nat} {v : Value} {xs : List Value} (R : Rw w b t cs) (h : w.ownsRow B e S v n xs) (hne : t ≠ e) : ∀ k, v.ownBlock = some k → k ≠ b := fun k hk e' => by
 obtain ⟨_, ⟨rfl, _⟩ | ⟨g, cap, cur, rfl, _, hg, _⟩⟩ := h
 ·cases hk
 ·cases hk
  subst e'
  have h1 : w.heap[g]? = some (.cells cs t) := R
  rw [hg] at h1
  injection h1 with h1
  injection h1 with _ h2
  exact hne h2.symm
structure FS (B : Nat) (w0 : World) (ba bn bf bk gn gf n : Nat) (Fs Xs : List Nat) (acc : List Nat) (w : World) : Prop where
 all : ∃ va, Rw w ba 129 #[va] ∧ w.ownsRow B 3 1 va acc.length (iv acc) ∧ ∀ k, va.ownBlock = some k → k ≠ gn ∧ k ≠ gf
 fn : Rw w bn 129 #[(.slice (some ⟨gn, 0, none⟩) n n)]
 ff : Rw w bf 129 #[(.slice (some ⟨gf, 0, none⟩) n n)]
 fk : Rw w bk 225 #[.func (.func 243) #[] #[.pointer (some ⟨ba, 0, none⟩), .pointer (some ⟨bn, 0, none⟩), .pointer (some ⟨bf, 0, none⟩), .pointer (some ⟨bk, 0, none⟩)]]
 rn : w.ownsRow B 3 1 (.slice (some ⟨gn, 0, none⟩) n n) n (iv Xs)
 rf : w.ownsRow B 3 1 (.slice (some ⟨gf, 0, none⟩) n n) n (iv Fs)
 bel : Below B w0 w
theorem FS.drew {B : Nat} {w0 : World} {ba bn bf bk gn gf n : Nat} {Fs Xs acc : List Nat} {w : World} (h : FS B w0 ba bn bf bk gn gf n Fs Xs acc w) : FS B w0 ba bn bf bk gn gf n Fs Xs acc w.drew := ⟨h.all, h.fn, h.ff, h.fk, h.rn, h.rf, h.bel.drew⟩
structure FD (B ba bn bf bk gn gf : Nat) : Prop where
 ab : B ≤ ba ∧ B ≤ bn ∧ B ≤ bf ∧ B ≤ bk
 dn : ba ≠ bn
 df : ba ≠ bf
 dk : ba ≠ bk
theorem follow_any (B : Nat) (w0 : World) (ba bn bf bk gn gf n : Nat) (Fs Xs : List Nat) (F X mu : Nat → Nat) (hn : n ≤ 101) (hF : Fs.length = n) (hX : Xs.length = n) (HF : Hid (∀ k (h : k < Fs.length), Fs[k] = F k)) (HX : Hid (∀ k (h : k < Xs.length), Xs[k] = X k)) (hE : Ends F X (n - 1) mu) (hd : FD B ba bn bf bk gn gf) : ∀ (r a : Nat) (acc : List Nat) (w : World), mz0 mu a ≤ r → a < n → acc.length + (folA F X mu a).length ≤ 100 → FS B w0 ba bn bf bk gn gf n Fs Xs acc w →
  Calls Tryz.prog 243 #[.int .i64 a, .pointer (some ⟨ba, 0, none⟩), .pointer (some ⟨bn, 0, none⟩), .pointer (some ⟨bf, 0, none⟩), .pointer (some ⟨bk, 0, none⟩)] w (fun e w' => e = .returned (.tuple #[]) ∧ FS B w0 ba bn bf bk gn gf n Fs Xs (acc ++ folA F X mu a) w' ∧ w.heap.size ≤ w'.heap.size) := by
 intro r
 induction r using Nat.strongRecOn with
 | ind r ih =>
  intro a acc w hmu ha hlen hS
  have IH : Hid (∀ (r' : Nat), r' < r → ∀ (a : Nat) (acc : List Nat) (w : World), mz0 mu a ≤ r' → a < n → acc.length + (folA F X mu a).length ≤ 100 → FS B w0 ba bn bf bk gn gf n Fs Xs acc w → Calls Tryz.prog 243 #[.int .i64 a, .pointer (some ⟨ba, 0, none⟩), .pointer (some ⟨bn, 0, none⟩), .pointer (some ⟨bf, 0, none⟩), .pointer (some ⟨bk, 0, none⟩)] w (fun e w' => e = .returned (.tuple #[]) ∧ FS B w0 ba bn bf bk gn gf n Fs Xs (acc ++ folA F X mu a) w' ∧ w.heap.size ≤ w'.heap.size)) := ih
  clear ih
  obtain ⟨L, HL⟩ := hid_ex (acc ++ folA F X mu a)
  have hLl : L.length ≤ 100 := by rw [← HL.out, List.length_append]; exact hlen
  rw [HL.out]
  obtain ⟨i0, hi, hz0, hz1, hz2⟩ := info_parts info3
  go_enter Tryz.func243, Tryz.ntmps243
  go_wp2_with fail
  go_loopw [0] (fun va wr => ∃ (b : Nat) (ac : List Nat), va = .int .i64 b ∧ b < n ∧ mz0 mu b ≤ r ∧ Hid (ac ++ folA F X mu b = L) ∧ FS B w0 ba bn bf bk gn gf n Fs Xs ac wr ∧ w.heap.size ≤ wr.heap.size) (fun va _ => mz0 mu (intOf va).toNat)
  case atStart => exact ⟨a, acc, rfl, ha, hmu, HL.out, hS, Nat.le_refl _⟩
  case round =>
   clear hS hmu ha hlen HL
   obtain ⟨b, ac, rfl, hb, hmb, HL, hS, hsz⟩ := hrel
   by_cases hb0 : b = 0
   ·subst hb0
    have e := HL.out
    rw [folA_zero, List.append_nil] at e
    subst e
    go_wp2_with fail
    go_end0
    exact ⟨rfl, hS, hsz⟩
   ·have hb0' : ¬ ((b : Int) = 0) := by omega
    obtain ⟨⟨va, Ra, hoa, hvb⟩, fn, ff, fk, rn, rf, bel⟩ := hS
    have hfe := folA_succ hE hb0 (by omega)
    have hmz := mz0_F hE hb0 (show b ≤ n - 1 by omega)
    have hEb := hE b hb0 (by omega)
    have hacl : ac.length + 1 ≤ 100 := by
     rw [← HL.out, hfe] at hLl
     simp at hLl
     omega
    have ca : wr.cell? ⟨ba, 0, none⟩ = some va := Ra.cell 0
    obtain ⟨pa, da, rfl⟩ := own_sl hoa
    have hBw : B ≤ wr.heap.size := by have := (own_ge rn).1; have := (own_ge rn).2; omega
    have hbn := bel_alloc (Below.refl wr.heap.size wr) (.cells #[.int .i64 (b : Int)] 3)
    have hnw : (wr.alloc (.cells #[.int .i64 (b : Int)] 3)).heap.size = wr.heap.size + 1 := by simp
    have HCL : Hid (∀ j u, [Value.int .i64 (b : Int)][j]? = some u → (wr.alloc (.cells #[.int .i64 (b : Int)] 3)).cell? ((⟨wr.heap.size, 0, none⟩ : Addr).add j) = some u) := fun j u hu => by
     have Rn := rw_new wr 3 #[.int .i64 (b : Int)]
     match j, hu with
     | 0, hu => exact (Rn.cell 0).trans hu
     | j + 1, hu => simp at hu
    have hm1 : ac.length + 1 ≤ maxLen := by simp [maxLen]; omega
    have hm2 : (ac.length + 1) * 8 ≤ 140737488355328 := by omega
    have gnl := (own_ge rn).2
    have gfl := (own_ge rf).2
    replace hoa := own_later hoa hbn
    replace Ra := Ra.later hbn
    replace fn := fn.later hbn
    replace ff := ff.later hbn
    replace fk := fk.later hbn
    replace rn := own_later rn hbn
    replace rf := own_later rf hbn
    replace bel := bel.trans (hbn.mono hBw)
    have hB1 : B ≤ (wr.alloc (.cells #[.int .i64 (b : Int)] 3)).heap.size := by omega
    generalize hWn : wr.alloc (.cells #[.int .i64 (b : Int)] 3) = wn at hbn hnw HCL hoa Ra fn ff fk rn rf bel hB1
    go_wp2_with (first | rw [hWn] | (at_builtin; refine wpList_append_own_at _ rfl _ _ 129 rfl B 3 i0 (.int .i64 0) 1 8 Tryz.underlying129 hi hz0 hz1 hz2 rfl (by decide) _ _ _ rfl hoa ⟨wr.heap.size, 0, none⟩ 1 1 [.int .i64 (b : Int)] rfl rfl HCL.out (by simp [Value.oneCell']) hm1 hm2 hB1 ?_))
    intro v2 w2 ho2 hg2 _ hat
    have neA := rw_own_ne Ra hoa (by decide)
    have neN := rw_own_ne fn hoa (by decide)
    have neF := rw_own_ne ff hoa (by decide)
    have neK := rw_own_ne fk hoa (by decide)
    have keep : ∀ q, q < wn.heap.size → (∀ k, (Value.slice pa ac.length da).ownBlock = some k → k ≠ q) → w2.heap[q]? = wn.heap[q]? := fun q hq hne => hg2.block q hq (fun e => hne q e.symm rfl)
    have Ra2 : Rw w2 ba 129 #[.slice pa ac.length da] := (keep ba Ra.lt neA).trans Ra
    have fn2 : Rw w2 bn 129 #[.slice (some ⟨gn, 0, none⟩) n n] := (keep bn fn.lt neN).trans fn
    have ff2 : Rw w2 bf 129 #[.slice (some ⟨gf, 0, none⟩) n n] := (keep bf ff.lt neF).trans ff
    have fk2 : Rw w2 bk 225 #[.func (.func 243) #[] #[.pointer (some ⟨ba, 0, none⟩), .pointer (some ⟨bn, 0, none⟩), .pointer (some ⟨bf, 0, none⟩), .pointer (some ⟨bk, 0, none⟩)]] := (keep bk fk.lt neK).trans fk
    have hkp : Kp (Value.slice pa ac.length da).ownBlock wn w2 := fun q h1 h2 => hg2.block q h1 (Ne.symm h2)
    have rn2 := own_kp rn hkp (fun k hk e => (hvb k e).1 (by cases hk; rfl))
    have rf2 := own_kp rf hkp (fun k hk e => (hvb k e).2 (by cases hk; rfl))
    have bel2 : Below B w0 w2 := bel.grown hg2 hB1 (fun q hq => (World.ownsRow.lt hoa q hq).1)
    have hvb2 : ∀ k, v2.ownBlock = some k → k ≠ gn ∧ k ≠ gf := fun k hk => by
     rcases hat with e | e
     ·exact hvb k (by rw [← e]; exact hk)
     ·rw [e] at hk
      cases hk
      omega
    obtain ⟨p2, d2, rfl⟩ := own_sl ho2
    have neA2 := rw_own_ne Ra2 ho2 (by decide)
    have c2 : w2.cell? ⟨ba, 0, none⟩ = some (.slice pa ac.length da) := Ra2.cell 0
    have f2 := Ra2.frozen 0
    have hs2 : wn.heap.size ≤ w2.heap.size := hg2.size
    have ho3 : (w2.setCell ⟨ba, 0, none⟩ (.slice p2 (ac.length + 1) d2)).ownsRow B 3 1 (.slice p2 (ac.length + 1) d2) (ac ++ [b]).length (iv (ac ++ [b])) := by
     have := own_over ho2 neA2 0 (.slice p2 (ac.length + 1) d2)
     rw [List.length_append]
     unfold iv
     rw [List.map_append]
     exact this
    have Ra3 := Ra2.set 0 (.slice p2 (ac.length + 1) d2)
    have fn3 := fn2.setOther (q := ba) (Ne.symm hd.dn) 0 (.slice p2 (ac.length + 1) d2)
    have ff3 := ff2.setOther (q := ba) (Ne.symm hd.df) 0 (.slice p2 (ac.length + 1) d2)
    have fk3 := fk2.setOther (q := ba) (Ne.symm hd.dk) 0 (.slice p2 (ac.length + 1) d2)
    have rn3 := own_over rn2 (rw_own_ne Ra2 rn2 (by decide)) 0 (.slice p2 (ac.length + 1) d2)
    have rf3 := own_over rf2 (rw_own_ne Ra2 rf2 (by decide)) 0 (.slice p2 (ac.length + 1) d2)
    have bel3 := below_cell bel2 hd.ab.1 0 (.slice p2 (ac.length + 1) d2)
    have hsz3 : w.heap.size ≤ (w2.setCell ⟨ba, 0, none⟩ (.slice p2 (ac.length + 1) d2)).heap.size := by
     rw [World.size_setCell]
     omega
    generalize hW3 : w2.setCell ⟨ba, 0, none⟩ (.slice p2 (ac.length + 1) d2) = w3 at ho3 Ra3 fn3 ff3 fk3 rn3 rf3 bel3 hsz3
    have FS3 : Hid (FS B w0 ba bn bf bk gn gf n Fs Xs (ac ++ [b]) w3) := ⟨⟨_, Ra3, ho3, hvb2⟩, fn3, ff3, fk3, rn3, rf3, bel3⟩
    have cn : w3.cell? ⟨bn, 0, none⟩ = some (.slice (some ⟨gn, 0, none⟩) n n) := fn3.cell 0
    have cf : w3.cell? ⟨bf, 0, none⟩ = some (.slice (some ⟨gf, 0, none⟩) n n) := ff3.cell 0
    have ck : w3.cell? ⟨bk, 0, none⟩ = some (.func (.func 243) #[] #[.pointer (some ⟨ba, 0, none⟩), .pointer (some ⟨bn, 0, none⟩), .pointer (some ⟨bf, 0, none⟩), .pointer (some ⟨bk, 0, none⟩)]) := fk3.cell 0
    have cx := own_iat rn3 (show b < Xs.length by omega)
    have cy := own_iat rf3 (show b < Fs.length by omega)
    rw [HX.out] at cx
    rw [HF.out] at cy
    obtain ⟨x, HXb⟩ := hid_ex (X b)
    obtain ⟨y, HYb⟩ := hid_ex (F b)
    rw [HXb.out] at cx hmz hEb hfe
    rw [HYb.out] at cy hmz hEb hfe
    have hb1 : (0 : Int) ≤ (b : Int) := by omega
    have hb2 : (b : Int) < (n : Int) := by omega
    have hyn : y < n := by omega
    have hxn : x < n := by omega
    have HLL : Hid (ac ++ [b] ++ folA F X mu y ++ folA F X mu x = L) := by
     show _ = _
     rw [← HL.out, hfe]
     simp
    clear ho2 hg2 hat Ra fn ff fk rn rf bel Ra2 fn2 ff2 fk2 rn2 rf2 bel2 hoa ho3 Ra3 fn3 ff3 fk3 rn3 rf3 bel3 keep hkp neA neN neF neK neA2 hvb hvb2 HCL hbn HL hfe HYb
    by_cases hx0 : x = 0
    ·subst hx0
     have e := HLL.out
     rw [folA_zero, List.append_nil] at e
     have HL2 : Hid (ac ++ [b] ++ folA F X mu y = L) := e
     clear e HLL
     go_wp2_with (first | rw [hW3])
     go_roundw
     case rel => exact ⟨y, ac ++ [b], rfl, hyn, by omega, HL2, FS3.out, hsz3⟩
     case measure => simpa [intOf] using hmz.1
    ·have hx0' : ¬ ((x : Int) = 0) := by omega
     have C4 := IH.out (mz0 mu y) (by omega) y (ac ++ [b]) w3.drew (Nat.le_refl _) hyn (by
      have := congrArg List.length HLL.out
      simp at this
      simp
      omega) FS3.out.drew
     go_wp2_with (first | rw [hW3])
     clear hW3
     go_region_with (refine C4.mono ?_; rintro e w5 ⟨rfl, hS5, hs5⟩)
     all_goals
      have hs6 : w.heap.size ≤ w5.heap.size := Nat.le_trans hsz3 hs5
      have cn5 : w5.cell? ⟨bn, 0, none⟩ = some (.slice (some ⟨gn, 0, none⟩) n n) := hS5.fn.cell 0
      have cx5 := own_iat hS5.rn (show b < Xs.length by omega)
      rw [HX.out, HXb.out] at cx5
      go_wp2_with fail
      go_roundw
      case rel => exact ⟨x, _, rfl, hxn, by omega, HLL, hS5, hs6⟩
      case measure => simpa [intOf] using hmz.2
end Go.Proofs.YtjbbmcommnhgeaaGreat
namespace Go.Proofs.YtjbbmcommnhgeaaGreat
def upd (f : Nat → Nat) (k v : Nat) : Nat → Nat := fun j => if j = k then v else f j
def stp (up : Nat → Nat) (s : (Nat → Nat) × (Nat → Nat)) (a : Nat) : (Nat → Nat) × (Nat → Nat) := (upd s.1 (up a) a, upd s.2 a (s.1 (up a)))
def stt (up : Nat → Nat) (ps : List Nat) : (Nat → Nat) × (Nat → Nat) := ps.foldl (stp up) (fun _ => 0, fun _ => 0)
theorem stt_snoc (up : Nat → Nat) (ps : List Nat) (a : Nat) : stt up (ps ++ [a]) = stp up (stt up ps) a := by simp [stt]
def kd (up : Nat → Nat) (ps : List Nat) (p : Nat) : List Nat := (ps.filter (fun a => decide (up a = p))).reverse
theorem kd_snoc (up : Nat → Nat) (ps : List Nat) (a p : Nat) : kd up (ps ++ [a]) p = if up a = p then a :: kd up ps p else kd up ps p := by
 unfold kd
 rw [List.filter_append, List.reverse_append]
 by_cases h : up a = p <;> simp [h]
theorem kd_mem {up : Nat → Nat} {ps : List Nat} {p a : Nat} : a ∈ kd up ps p ↔ a ∈ ps ∧ up a = p := by simp [kd]
theorem snoc_rec {α : Type} {P : List α → Prop} (h0 : P []) (h1 : ∀ l a, P l → P (l ++ [a])) (l : List α) : P l := by
 rw [← List.reverse_reverse l]
 induction l.reverse with
 | nil => exact h0
 | cons a t ih => rw [List.reverse_cons]; exact h1 _ a ih
theorem stt_spec (up : Nat → Nat) (ps : List Nat) : ps.Nodup → (∀ p, (stt up ps).1 p = (kd up ps p).headD 0) ∧ (∀ p pre a post, kd up ps p = pre ++ a :: post → (stt up ps).2 a = post.headD 0) := by
 refine snoc_rec (P := fun ps => ps.Nodup → (∀ p, (stt up ps).1 p = (kd up ps p).headD 0) ∧ (∀ p pre a post, kd up ps p = pre ++ a :: post → (stt up ps).2 a = post.headD 0)) ?_ ?_ ps
 ·intro _
  exact ⟨fun p => rfl, fun p pre a post h => by simp [kd] at h⟩
 ·intro l a ih hn
  rw [List.nodup_append] at hn
  obtain ⟨n1, _, n3⟩ := hn
  have ha : a ∉ l := fun h => n3 a h a (by simp) rfl
  obtain ⟨i1, i2⟩ := ih n1
  rw [stt_snoc]
  constructor
  ·intro p
   rw [kd_snoc]
   unfold stp upd
   by_cases h : up a = p
   ·simp [h]
   ·rw [if_neg h, ← i1 p]
    simp [Ne.symm h]
  ·intro p pre b post h
   rw [kd_snoc] at h
   unfold stp upd
   by_cases e : up a = p
   ·rw [if_pos e] at h
    cases pre with
    | nil =>
     simp only [List.nil_append, List.cons.injEq] at h
     obtain ⟨rfl, rfl⟩ := h
     simp [i1, e]
    | cons c pre =>
     simp only [List.cons_append, List.cons.injEq] at h
     have hb : b ∈ l := (kd_mem.1 (by rw [h.2]; simp)).1
     have hne : b ≠ a := fun e => ha (e ▸ hb)
     simp only [if_neg hne]
     exact i2 p pre b post h.2
   ·rw [if_neg e] at h
    have hb : b ∈ l := (kd_mem.1 (by rw [h]; simp)).1
    have hne : b ≠ a := fun e => ha (e ▸ hb)
    simp only [if_neg hne]
    exact i2 p pre b post h
section
variable {up : Nat → Nat} {n : Nat} {ps : List Nat}
def muP (up : Nat → Nat) (n : Nat) (ps : List Nat) (a : Nat) : Nat := (n - dp up n a) * (n + 1) + ((kd up ps (up a)).dropWhile (fun c => decide (c ≠ a))).length
theorem kd_len (h : ps.length = n) (p : Nat) : (kd up ps p).length ≤ n := by
 unfold kd
 rw [List.length_reverse, ← h]
 exact List.length_filter_le _ _
theorem drop_split {l : List Nat} (hn : l.Nodup) {pre post : List Nat} {a : Nat} (e : l = pre ++ a :: post) : l.dropWhile (fun c => decide (c ≠ a)) = a :: post := by
 subst e
 rw [List.nodup_append] at hn
 rw [List.dropWhile_append_of_pos]
 ·simp
 ·intro c hc
  exact decide_eq_true (fun e => hn.2.2 c hc a (by simp) e)
theorem kd_nodup (hn : ps.Nodup) (p : Nat) : (kd up ps p).Nodup := by
 unfold kd
 rw [List.Nodup, List.pairwise_reverse]
 exact (hn.sublist List.filter_sublist).imp_of_mem (fun _ _ h => Ne.symm h)
theorem dw_len (l : List Nat) (a : Nat) : (l.dropWhile (fun c => decide (c ≠ a))).length ≤ l.length := (List.dropWhile_sublist _).length_le
theorem ends_stt (hf : ∀ k, k ≤ n → up k ≤ n) (h0 : up 0 = 0) (hr : ∀ k, k ≤ n → rt up k) (hp : ps.Perm (plc n)) : Ends (stt up ps).1 (stt up ps).2 n (muP up n ps) := by
 have hm : ∀ a, a ∈ ps ↔ a ≠ 0 ∧ a ≤ n := fun a => by
  rw [hp.mem_iff]
  simp only [plc, List.mem_map, List.mem_range]
  constructor
  ·rintro ⟨k, hk, rfl⟩
   omega
  ·rintro ⟨h1, h2⟩
   exact ⟨a - 1, by omega, by omega⟩
 have hnd : ps.Nodup := hp.nodup_iff.2 (by
  unfold plc
  rw [List.Nodup, List.pairwise_map]
  exact List.pairwise_lt_range.imp_of_mem (fun _ _ h e => by omega))
 have hl : ps.length = n := by rw [hp.length_eq, plc_len]
 obtain ⟨s1, s2⟩ := stt_spec up ps hnd
 intro a a0 an
 have hks : ∀ c, c ∈ ps → ∃ pre post, kd up ps (up c) = pre ++ c :: post := fun c hc => by
  obtain ⟨pre, post, e⟩ := List.append_of_mem (kd_mem.2 ⟨hc, rfl⟩ : c ∈ kd up ps (up c))
  exact ⟨pre, post, e⟩
 have hF : (stt up ps).1 a ≠ 0 → (stt up ps).1 a ∈ ps ∧ up ((stt up ps).1 a) = a := fun h => by
  rw [s1] at h ⊢
  cases e : kd up ps a with
  | nil => rw [e] at h; exact absurd rfl h
  | cons c t =>
   have : c ∈ kd up ps a := by rw [e]; simp
   exact kd_mem.1 this
 obtain ⟨pre, post, ek⟩ := hks a ((hm a).2 ⟨a0, an⟩)
 have hX := s2 _ _ _ _ ek
 refine ⟨?_, ?_, ?_, ?_⟩
 ·by_cases e : (stt up ps).1 a = 0
  ·omega
  ·exact ((hm _).1 (hF e).1).2
 ·rw [hX]
  cases e : post with
  | nil => simp
  | cons b t =>
   have : b ∈ kd up ps (up a) := by rw [ek, e]; simp
   exact ((hm b).1 (kd_mem.1 this).1).2
 ·intro h
  obtain ⟨h1, h2⟩ := hF h
  have d := dp_up hf h0 ((hm _).1 h1).2 h (hr _ ((hm _).1 h1).2)
  rw [h2] at d
  have d2 := dp_le up n ((stt up ps).1 a)
  unfold muP
  have l1 := dw_len (kd up ps (up ((stt up ps).1 a))) ((stt up ps).1 a)
  have l2 := kd_len (up := up) hl (up ((stt up ps).1 a))
  rw [d, show n - dp up n a = n - (dp up n a + 1) + 1 by omega, Nat.add_mul]
  omega
 ·intro h
  rw [hX] at h ⊢
  cases e : post with
  | nil => rw [e] at h; exact absurd rfl h
  | cons b t =>
   rw [e] at ek
   have hb : b ∈ kd up ps (up a) := by rw [ek]; simp
   obtain ⟨hbp, hub⟩ := kd_mem.1 hb
   have hbn := ((hm b).1 hbp).2
   have db : dp up n b = dp up n a := by
    rw [dp_up hf h0 hbn ((hm b).1 hbp).1 (hr b hbn), dp_up hf h0 an a0 (hr a an), hub]
   have l1 : ((kd up ps (up a)).dropWhile (fun c => decide (c ≠ a))).length = t.length + 2 := by rw [drop_split (kd_nodup hnd _) ek]; simp
   have l2 : ((kd up ps (up b)).dropWhile (fun c => decide (c ≠ b))).length = t.length + 1 := by rw [hub, drop_split (kd_nodup hnd _) (show kd up ps (up a) = (pre ++ [a]) ++ b :: t by rw [ek]; simp)]; simp
   show muP up n ps b < muP up n ps a
   unfold muP
   rw [db, l1, l2]
   omega
def lat (l : List El) (a b : Nat) : Bool := decide (tmL l b < tmL l a) || (decide (tmL l b = tmL l a) && decide (b < a))
theorem lat_iff {l : List El} {a b : Nat} : lat l a b = true ↔ er l b a := by
 unfold lat er
 simp only [Bool.or_eq_true, Bool.and_eq_true, decide_eq_true_eq]
theorem lat_tot (l : List El) (m : List Nat) : Tot (lat l) m where
 irr a _ := by
  cases h : lat l a a
  ·rfl
  ·rw [lat_iff] at h
   unfold er at h
   omega
 trans a _ b _ c _ h1 h2 := by
  rw [lat_iff] at *
  unfold er at *
  omega
 tot a _ b _ h := by
  rw [lat_iff, lat_iff]
  unfold er
  omega
theorem plc_nodup (n : Nat) : (plc n).Nodup := by
 unfold plc
 rw [List.Nodup, List.pairwise_map]
 exact List.pairwise_lt_range.imp_of_mem (fun _ _ h e => by omega)
theorem plc_mem {n a : Nat} : a ∈ plc n ↔ a ≠ 0 ∧ a ≤ n := by
 simp only [plc, List.mem_map, List.mem_range]
 constructor
 ·rintro ⟨k, hk, rfl⟩
  omega
 ·rintro ⟨h1, h2⟩
  exact ⟨a - 1, by omega, by omega⟩
def odP (l : List El) (p : Nat) : List Nat := ord id (upL l) (lat l) (plc l.length) (l.length + 1) p
theorem kids_kd {l : List El} {ps : List Nat} (hp : ps.Perm (plc l.length)) (hs : ps.Pairwise (er l)) (p : Nat) : kids (upL l) (lat l) (plc l.length) p = kd (upL l) ps p := by
 unfold kids kd
 have hn : ps.Nodup := hp.nodup_iff.2 (plc_nodup _)
 refine sorted_one (lat_tot l _) ?_ (srt_sorted (lat_tot l _) ((plc_nodup _).sublist List.filter_sublist)) ?_
 ·refine (srt_perm _ _).trans ?_
  refine List.Perm.trans ?_ (List.reverse_perm _).symm
  exact (hp.filter _).symm
 ·rw [List.pairwise_reverse]
  exact ((hs.sublist List.filter_sublist).imp_of_mem (fun _ _ h => lat_iff.2 h))
theorem rk_plc {l : List El} (h : cr l = true) : Rk (fun a : Nat => a) (upL l) (dp (upL l) l.length) (plc l.length) := fun a ha => by
 obtain ⟨h1, h2⟩ := plc_mem.1 ha
 exact dp_up (fun k _ => upL_le l k) (upL_zero l) h2 h1 (by
  unfold cr at h
  rw [Bool.and_eq_true] at h
  exact noR_iff.1 h.2 a h2)
theorem od_flat {l : List El} (h : cr l = true) (p : Nat) : odP l p = (kids (upL l) (lat l) (plc l.length) p).flatMap (fun c => c :: odP l c) := by
 unfold odP
 rw [ord]
 refine flat_congr (fun c _ => ?_)
 congr 1
 exact ord_fuel (mk := id) (R := dp (upL l) l.length) (B := l.length) (rk_plc h) (fun e _ => dp_le _ _ _) (by omega) (by omega)
theorem fol_od {l : List El} (h : cr l = true) {ps : List Nat} (hp : ps.Perm (plc l.length)) (hs : ps.Pairwise (er l)) : ∀ (r : Nat) (p : Nat) (pre : List Nat) (a : Nat) (post : List Nat), kd (upL l) ps p = pre ++ a :: post → muP (upL l) l.length ps a ≤ r → folA (stt (upL l) ps).1 (stt (upL l) ps).2 (muP (upL l) l.length ps) a = (a :: post).flatMap (fun c => c :: odP l c) := by
 have hr : ∀ k, k ≤ l.length → rt (upL l) k := by
  unfold cr at h
  rw [Bool.and_eq_true] at h
  exact noR_iff.1 h.2
 have hE := ends_stt (fun k _ => upL_le l k) (upL_zero l) hr hp
 have hn : ps.Nodup := hp.nodup_iff.2 (plc_nodup _)
 obtain ⟨s1, s2⟩ := stt_spec (upL l) ps hn
 intro r
 induction r using Nat.strongRecOn with
 | ind r ih =>
  intro p pre a post e hm
  have ha : a ∈ ps := (kd_mem.1 (show a ∈ kd (upL l) ps p by rw [e]; simp)).1
  obtain ⟨a0, an⟩ := plc_mem.1 (hp.mem_iff.1 ha)
  obtain ⟨_, _, b3, b4⟩ := hE a a0 an
  rw [folA_succ hE a0 an, s2 p pre a post e, List.flatMap_cons, List.cons_append]
  congr 1
  have e1 : folA (stt (upL l) ps).1 (stt (upL l) ps).2 (muP (upL l) l.length ps) ((stt (upL l) ps).1 a) = odP l a := by
   rw [od_flat h, kids_kd hp hs]
   rw [s1 a] at b3 ⊢
   cases ek : kd (upL l) ps a with
   | nil => simp [folA_zero]
   | cons c t =>
    rw [ek] at b3
    have hc0 : c ≠ 0 := (plc_mem.1 (hp.mem_iff.1 (kd_mem.1 (show c ∈ kd (upL l) ps a by rw [ek]; simp)).1)).1
    have := b3 hc0
    exact ih (muP (upL l) l.length ps c) (Nat.lt_of_lt_of_le this hm) a [] c t ek (Nat.le_refl _)
  rw [e1]
  congr 1
  rw [s2 p pre a post e] at b4
  cases ep : post with
  | nil => simp [folA_zero]
  | cons b t =>
   rw [ep] at b4 e
   have hb0 : b ≠ 0 := (plc_mem.1 (hp.mem_iff.1 (kd_mem.1 (show b ∈ kd (upL l) ps p by rw [e]; simp)).1)).1
   have := b4 hb0
   exact ih (muP (upL l) l.length ps b) (Nat.lt_of_lt_of_le this hm) p (pre ++ [a]) b t (by rw [e]; simp) (Nat.le_refl _)
theorem fol_all {l : List El} (h : cr l = true) {ps : List Nat} (hp : ps.Perm (plc l.length)) (hs : ps.Pairwise (er l)) : folA (stt (upL l) ps).1 (stt (upL l) ps).2 (muP (upL l) l.length ps) ((stt (upL l) ps).1 0) = odP l 0 := by
 have hn : ps.Nodup := hp.nodup_iff.2 (plc_nodup _)
 rw [(stt_spec (upL l) ps hn).1 0, od_flat h, kids_kd hp hs]
 cases ek : kd (upL l) ps 0 with
 | nil => simp [folA_zero]
 | cons c t => exact fol_od h hp hs _ 0 [] c t ek (Nat.le_refl _)
theorem od_perm {l : List El} (h : cr l = true) : (odP l 0).Perm (plc l.length) := by
 refine ord_perm (mk := id) (R := dp (upL l) l.length) (plc_nodup _) (rk_plc h) (fun a _ b _ e => e) (fun e he => ?_) (fun e _ => by have := dp_le (upL l) l.length e; exact Nat.le_succ_of_le this)
 by_cases e0 : upL l e = 0
 ·exact Or.inl e0
 ·exact Or.inr ⟨upL l e, plc_mem.2 ⟨e0, upL_le l e⟩, rfl⟩
end
end Go.Proofs.YtjbbmcommnhgeaaGreat
