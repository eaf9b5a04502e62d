import Derived.Test.YtjbbmcommnhgeaaGreatPc14
import Derived.Test.YtjbbmcommnhgeaaGreatPc15
import Derived.Shelf.SlIter.Nil
import Derived.Shelf.SortM.Plain
import Derived.Shelf.SortM.SortNone
set_option maxRecDepth 100000
set_option maxHeartbeats 8000000
namespace Go.Proofs.YtjbbmcommnhgeaaGreat
open Go.RowKit
def InPost9 (B : Nat) (v : Value) (n : Nat) (xs : List Value) (w : World) (e : Ending) (w' : World) : Prop := ∃ u, e = .returned u ∧ w'.ownsRow B 69 9 u n xs ∧ Kp v.ownBlock w w' ∧ (∀ k, u.ownBlock = some k → v.ownBlock = some k ∨ w.heap.size ≤ k) ∧ Below B w w'
theorem insert_end9 (B : Nat) (p : Option Addr) (n c : Nat) (xs : List Value) (vb : Nat) (x : El × Value) (w : World) (hown : w.ownsRow B 69 9 (.slice p n c) n xs) (hn : n ≤ 100) (hB : B ≤ w.heap.size) (hx1 : ∀ u ∈ El.cells x, u.oneCell' = true) (R : Rw w vb 69 (El.cells x).toArray) :
  Calls Tryz.prog 90 #[.slice p n c, .int .i64 n, .slice (some ⟨vb, 0, none⟩) 1 1] w (InPost9 B (.slice p n c) (n + 1) (xs ++ (El.cells x)) w) := by
 obtain ⟨i0, hi, hz0, hz1, hz2⟩ := info_parts info69
 have hc1 : ∀ j u, (El.cells x)[j]? = some u → w.cell? ((⟨vb, 0, none⟩ : Addr).add j) = some u := fun j u hu => by
  rw [Addr.add_mid]
  exact Rw.whole R j u hu
 have HC : Hid (∀ j u, (El.cells x)[j]? = some u → w.cell? ((⟨vb, 0, none⟩ : Addr).add j) = some u) := hc1
 have hnc : (n : Int) ≤ (c : Int) := by
  rcases hown.2 with ⟨h, h0⟩ | ⟨g, cap, cur, h, _, _, h2, _⟩
  ·simp only [Value.slice.injEq] at h
   omega
  ·simp only [Value.slice.injEq] at h
   omega
 clear hc1 R
 have hm1 : n + 1 ≤ maxLen := by unfold maxLen; omega
 have hm2 : (n + 1) * 96 ≤ 140737488355328 := by omega
 have HL : Hid (∀ q, (Value.slice p n c).ownBlock = some q → B ≤ q) := fun q hq => (hown.lt q hq).1
 by_cases hcn : c = n
 all_goals
  go_enter Tryz.func90, Tryz.ntmps90
  go_wp2_with (first | (at_builtin; refine wpList_append_own_at _ rfl _ _ 25 rfl B 69 i0 (.agg #[.int .i64 0, .int .i64 0, .int .i64 0, .int .i64 0, .int .i64 0, .int .i64 0, .int .i64 0, .string noS, .slice none 0 0]) 9 96 Tryz.underlying25 hi hz0 hz1 hz2 rfl (by decide) _ _ _ rfl hown ⟨vb, 0, none⟩ 1 1 (El.cells x) rfl rfl HC.out hx1 hm1 hm2 hB ?_))
  intro v2 w2 hown2 hg2 _ hat
  have HAT : Hid (∀ k, v2.ownBlock = some k → (Value.slice p n c).ownBlock = some k ∨ w.heap.size ≤ k) := fun k hk => hat.elim (fun e => .inl (by rw [← hk, e]; first | done | (cases p <;> rfl))) (fun e => .inr (Nat.le_of_eq (Option.some.inj (e.symm.trans hk))))
  clear hat
  go_wp2_with fail
  go_ret
  exact ⟨_, rfl, hown2, (fun b h1 h2 => hg2.block b h1 (fun e => h2 (by rw [e]; first | done | (cases p <;> rfl)))), HAT.out, (Below.refl _ _).grown hg2 hB (fun q hq => HL.out q (by cases p <;> exact hq))⟩
theorem f58_extern (w : World) (vb g o lb cb k : Nat) (hne : vb ≠ g) {tA tB : TypeId} {c1 c2 : Array Value} (R : Rw w vb tA c1) (R2 : Rw w g tB c2) (hk : c2.size = k + 1) : (callFunc 134 #[.slice (some ⟨vb, 0, none⟩) 1 1, .slice (some ⟨g, o, none⟩) lb cb]).run Tryz.prog w = .ok (.value (.bool false)) w := by
 rw [run_callFunc_extern Tryz.func134 (by kernel_rfl) (by kernel_rfl) (by kernel_rfl) (e := Extern.SlicesOverlaps.overlaps #[25, 25] #[4]) (by kernel_rfl),
  Lib.run_overlaps_apart w 25 4 69 Tryz.underlying25 9 (fun w => by rfl) ⟨vb, 0, none⟩ ⟨g, o, none⟩ 1 1 lb cb hne tA tB c1.size c2.size (by unfold World.shape?; rw [show w.heap[vb]? = _ from R]) (by unfold World.shape?; rw [show w.heap[g]? = _ from R2]) (by omega) (R.frozen _) (R.frozen _)]
 rfl
def put9 (xs ys : List Value) (i : Nat) : List Value := xs.take (i * 9) ++ ys ++ xs.drop (i * 9)
theorem put9_length (xs ys : List Value) (i : Nat) : (put9 xs ys i).length = xs.length + ys.length := by
 simp [put9]
 omega
theorem shift_list9 (cur xs ys : List Value) (n i : Nat) (hi : i < n) (hl : xs.length = n * 9) (hy : ys.length = 9) (hc : (n + 1) * 9 ≤ cur.length) (ht : cur.take (n * 9) = xs) (c1 : List Value) (h1 : c1 = cur.take ((i + 1) * 9) ++ xs.drop (i * 9) ++ cur.drop ((i + 1) * 9 + (xs.drop (i * 9)).length)) :
  (c1.take (i * 9) ++ ys ++ c1.drop (i * 9 + ys.length)).take ((n + 1) * 9) = xs.take (i * 9) ++ ys ++ xs.drop (i * 9) := by
 have hk : (cur.take ((i + 1) * 9)).length = (i + 1) * 9 := by rw [List.length_take]; omega
 have e1 : c1.take (i * 9) = xs.take (i * 9) := by
  rw [h1, List.append_assoc, List.take_append_of_le_length (by omega), List.take_take, Nat.min_eq_left (by omega), ← ht, List.take_take, Nat.min_eq_left (by omega)]
 have e2 : c1.drop (i * 9 + ys.length) = xs.drop (i * 9) ++ cur.drop ((i + 1) * 9 + (xs.drop (i * 9)).length) := by
  rw [h1, List.append_assoc, List.drop_left' (by rw [hk, hy]; omega)]
 rw [e1, e2, ← List.append_assoc, List.take_left']
 simp only [List.length_append, List.length_take, List.length_drop, hy, hl]
 omega
theorem insert_shift9 (B g n c i : Nat) (xs : List Value) (vb : Nat) (x : El × Value) (w : World) (hown : w.ownsRow B 69 9 (.slice (some ⟨g, 0, none⟩) n c) n xs) (hi : i < n) (hc : n + 1 ≤ c) (hn : n ≤ 100) (hvb : vb ≠ g) (h1 : ∀ u ∈ xs, u.oneCell' = true) (hx1 : ∀ u ∈ El.cells x, u.oneCell' = true) (R : Rw w vb 69 (El.cells x).toArray) :
  Calls Tryz.prog 90 #[.slice (some ⟨g, 0, none⟩) n c, .int .i64 i, .slice (some ⟨vb, 0, none⟩) 1 1] w (InPost9 B (.slice (some ⟨g, 0, none⟩) n c) (n + 1) (put9 xs (El.cells x) i) w) := by
 obtain ⟨hxl, ⟨h0, _⟩ | ⟨g', cap, cur, h0, hBg, hg, hnc, hcm, hcs, htake⟩⟩ := hown
 ·simp at h0
 simp only [Value.slice.injEq, Option.some.injEq, Addr.mk.injEq, and_true, true_and] at h0
 obtain ⟨rfl, rfl⟩ := h0
 have hov : ∀ lb cb, (callFunc 134 #[.slice (some ⟨vb, 0, none⟩) 1 1, .slice (some ⟨g, (i + 1) * 9, none⟩) lb cb]).run Tryz.prog w = .ok (.value (.bool false)) w := fun lb cb => f58_extern w vb g _ lb cb (cur.size - 1) hvb R hg (by omega)
 have hsrc : ∀ j v, (xs.drop (i * 9))[j]? = some v → w.drew.cell? ((⟨g, i * 9, none⟩ : Addr).add j) = some v := fun j v hv => by
  rw [Addr.add_mid]
  show w.cell? _ = _
  rw [cell_of_row w g _ cur 69 (0, 0) hg]
  rw [List.getElem?_drop] at hv
  have hlt := (List.getElem?_eq_some_iff.1 hv).1
  rw [← htake, List.getElem?_take, if_pos (by omega)] at hv
  simpa using hv
 have hcp1 : ∀ ty dc sc, (Builtin.copy_ #[25, 25] ty #[.slice (some ⟨g, (i + 1) * 9, none⟩) (n - i) dc, .slice (some ⟨g, i * 9, none⟩) (n + 1 - i) sc]).run Tryz.prog w.drew = .ok (goInt ((n - i : Nat) : Int)) (w.drew.setRow g (cur.toList.take ((i + 1) * 9) ++ xs.drop (i * 9) ++ cur.toList.drop ((i + 1) * 9 + (xs.drop (i * 9)).length)).toArray) := fun ty dc sc =>
  run_copy_rowS w.drew 25 25 ty 69 g ((i + 1) * 9) (n - i) dc ⟨g, i * 9, none⟩ (n + 1 - i) sc cur 69 (xs.drop (i * 9)) 9 (n - i) Tryz.underlying25 size69 hg (by simp only [Nat.min_def]; split <;> omega) (by rw [List.length_drop]; omega) hsrc (by rw [List.length_drop]; omega) (fun v hv => h1 v (List.mem_of_mem_drop hv))
 obtain ⟨cur1, HC1⟩ := hid_ex (cur.toList.take ((i + 1) * 9) ++ xs.drop (i * 9) ++ cur.toList.drop ((i + 1) * 9 + (xs.drop (i * 9)).length)).toArray
 have hl1 : cur1.size = cur.size := by
  rw [← HC1.out]
  simp
  omega
 rw [HC1.out] at hcp1
 have hg1 : (w.drew.setRow g cur1).heap[g]? = some (.cells cur1 69 (0, 0)) := setRow_heap w.drew g cur cur1 69 (0, 0) hg
 have hsrc2 : ∀ j v, (El.cells x)[j]? = some v → (w.drew.setRow g cur1).cell? ((⟨vb, 0, none⟩ : Addr).add j) = some v := fun j v hv => by
  rw [Addr.add_mid, World.cell?_of_block (w := w) (setRow_other w.drew g vb cur1 hvb)]
  exact Rw.whole R j v hv
 have hcp2 : ∀ (W : World), W.heap = (w.drew.setRow g cur1).heap → ∀ ty dc, (Builtin.copy_ #[25, 25] ty #[.slice (some ⟨g, i * 9, none⟩) (n + 1 - i) dc, .slice (some ⟨vb, 0, none⟩) 1 1]).run Tryz.prog W = .ok (goInt 1) (W.setRow g (cur1.toList.take (i * 9) ++ (El.cells x) ++ cur1.toList.drop (i * 9 + (El.cells x).length)).toArray) := fun W hW ty dc =>
  run_copy_rowS W 25 25 ty 69 g (i * 9) (n + 1 - i) dc ⟨vb, 0, none⟩ 1 1 cur1 69 (El.cells x) 9 1 Tryz.underlying25 size69 (by rw [hW]; exact hg1) (by simp only [Nat.min_def]; split <;> omega) rfl (fun j v hv => by rw [World.cell?_of_block (w := w.drew.setRow g cur1) (by rw [hW])]; exact hsrc2 j v hv) (by rw [El.len]; omega) hx1
 have hw1 : IntKind.i64.wrap ((i : Int) + 1) = (i : Int) + 1 := by rw [IntKind.wrap_i64]; omega
 have hz2 : ¬ ((i : Int) = (n : Int)) := by omega
 have hb1 : (0 : Int) ≤ (i : Int) + 1 := by omega
 have htn : ((i : Int) + 1).toNat = i + 1 := by omega
 have hb2 : ¬ (c = i + 1) := by omega
 have hb3 : (i : Int) ≤ (n : Int) + 1 := by omega
 have hb4 : ¬ (c = i) := by omega
 have hin : i ≤ n := by omega
 have mixed : Tryz.prog.follows .mixedOrders = true := by kernel_rfl
 go_enter Tryz.func90, Tryz.ntmps90
 go_wp2_with (simp only [hov])
 go_region_law_o (refine step_copy_runI rfl _ _ 25 25 rfl _ _ (by simp [Act.eval, Act.put]) (by simp [Act.eval, Act.put]) (hcp1 _ _ _) ?_)
 go_wp2_with (at_builtin; refine wpList_copy_runI _ rfl _ _ 25 25 rfl _ _ rfl rfl (hcp2 _ rfl _ _) ?_)
 go_ret
 refine ⟨_, rfl, ⟨?_, .inr ⟨g, c, _, rfl, hBg, setRow_heap _ g cur1 _ 69 (0, 0) hg1, hc, hcm, ?_, ?_⟩⟩, Kp.row (Kp.row (fun _ _ _ => rfl) _) _, (fun k hk => .inl hk), below_setRow (below_setRow (Below.refl B w).drew hBg _) hBg _⟩
 ·rw [put9_length, hxl, El.len]
  omega
 ·simp only [List.size_toArray, List.length_append, List.length_take, List.length_cons, List.length_drop, Array.length_toList]
  omega
 ·have := shift_list9 cur.toList xs (El.cells x) n i hi hxl rfl (by rw [Array.length_toList]; omega) htake cur1.toList (by rw [← HC1.out])
  rw [List.append_assoc] at this
  exact this
theorem grow_list9 (xs ys z1 z2 : List Value) (n i : Nat) (hi : i < n) (hl : xs.length = n * 9) (hy : ys.length = 9) (hz : z1.length = (n + 1 - i) * 9) (r1 r2 : List Value) (h1 : r1 = (xs.take (i * 9) ++ z1 ++ z2).take (i * 9) ++ ys ++ (xs.take (i * 9) ++ z1 ++ z2).drop (i * 9 + ys.length))
  (h2 : r2 = r1.take ((i + 1) * 9) ++ xs.drop (i * 9) ++ r1.drop ((i + 1) * 9 + (xs.drop (i * 9)).length)) : r2.take ((n + 1) * 9) = xs.take (i * 9) ++ ys ++ xs.drop (i * 9) ∧ r2.length = xs.length + 9 + z2.length := by
 have hk : (xs.take (i * 9)).length = i * 9 := by rw [List.length_take]; omega
 have e1 : (xs.take (i * 9) ++ z1 ++ z2).take (i * 9) = xs.take (i * 9) := by
  rw [List.append_assoc, List.take_left' hk]
 have e2 : r1.take ((i + 1) * 9) = xs.take (i * 9) ++ ys := by
  rw [h1, e1, List.take_left' (by rw [List.length_append, hk, hy]; omega)]
 refine ⟨?_, ?_⟩
 ·rw [h2, e2, List.take_left']
  simp only [List.length_append, List.length_take, List.length_drop, hy, hl]
  omega
 ·rw [h2, e2, h1, e1]
  simp only [List.length_append, List.length_take, List.length_drop, hy, hl, hz]
  omega
theorem insert_grow9 (B g n c i : Nat) (xs : List Value) (vb : Nat) (x : El × Value) (w : World) (hown : w.ownsRow B 69 9 (.slice (some ⟨g, 0, none⟩) n c) n xs) (hi : i < n) (hc : c < n + 1) (hn : n ≤ 100) (h1 : ∀ u ∈ xs, u.oneCell' = true) (hB : B ≤ w.heap.size) (hx1 : ∀ u ∈ El.cells x, u.oneCell' = true) (R : Rw w vb 69 (El.cells x).toArray) :
  Calls Tryz.prog 90 #[.slice (some ⟨g, 0, none⟩) n c, .int .i64 i, .slice (some ⟨vb, 0, none⟩) 1 1] w (InPost9 B (.slice (some ⟨g, 0, none⟩) n c) (n + 1) (put9 xs (El.cells x) i) w) := by
 obtain ⟨i0, hi0, hz0, hz1, hz2⟩ := info_parts info69
 obtain ⟨hxl, ⟨h0, _⟩ | ⟨g', cap, cur, h0, hBg, hg, hnc, hcm, hcs, htake⟩⟩ := hown
 ·simp at h0
 simp only [Value.slice.injEq, Option.some.injEq, Addr.mk.injEq, and_true, true_and] at h0
 obtain ⟨rfl, rfl⟩ := h0
 have hcell : ∀ j v, xs[j]? = some v → w.cell? ⟨g, j, none⟩ = some v := fun j v hv => by
  rw [cell_of_row w g _ cur 69 (0, 0) hg]
  have hlt := (List.getElem?_eq_some_iff.1 hv).1
  rw [← htake, List.getElem?_take, if_pos (by omega)] at hv
  simpa using hv
 have hold : (Builtin.firstCells i0.size i (.slice (some ⟨g, 0, none⟩) i c)).run Tryz.prog w.drew = .ok (xs.take (i * 9)).toArray w.drew := by
  rw [hz1]
  exact run_firstCells_some w.drew 9 i ⟨g, 0, none⟩ i c (xs.take (i * 9)) (by rw [List.length_take]; omega) (fun j v hj => by
   rw [Addr.add_mid, Nat.zero_add]
   rw [List.getElem?_take] at hj
   split at hj
   ·exact hcell j v hj
   ·cases hj)
 have hrz : ∀ ty, (Builtin.append_ #[25, 3] ty #[.slice (some ⟨g, 0, none⟩) i c, .int .i64 ((n : Int) + 1 - (i : Int))]).run Tryz.prog w =
   .ok (.slice (some ⟨w.heap.size, 0, none⟩) (n + 1) (grownCap w (n + 1) c 69)) (w.drew.alloc (.cells ((xs.take (i * 9)).toArray ++ Builtin.zeroCells (Value.agg #[.int .i64 0, .int .i64 0, .int .i64 0, .int .i64 0, .int .i64 0, .int .i64 0, .int .i64 0, .string noS, .slice none 0 0]).cells (n + 1 - i) ++ Builtin.zeroCells (Value.agg #[.int .i64 0, .int .i64 0, .int .i64 0, .int .i64 0, .int .i64 0, .int .i64 0, .int .i64 0, .string noS, .slice none 0 0]).cells (grownCap w (n + 1) c 69 - (n + 1))) 69)) := fun ty => by
  have h := Lib.run_append_grow_zeros w 25 3 ty 69 i0 _ .i64 .i64 Tryz.underlying25 Tryz.underlying3 hi0 hz0 (some ⟨g, 0, none⟩) i c (xs.take (i * 9)) hold (n + 1 - i) (by omega) (by omega) (by omega) (by omega) (by rw [hz2]; omega) (by rw [hz2, show i + (n + 1 - i) = n + 1 by omega]; exact growslice_fits hc (by omega))
  rw [show i + (n + 1 - i) = n + 1 by omega] at h
  rw [show (n : Int) + 1 - (i : Int) = ((n + 1 - i : Nat) : Int) by omega]
  exact h
 obtain ⟨G, HG⟩ := hid_ex (grownCap w (n + 1) c 69)
 have hGn : n + 1 ≤ G := by rw [← HG.out]; exact grownCap_ge w _ _ _
 have hGm : G ≤ maxLen := by rw [← HG.out]; exact grownCap_le_maxLen w (n + 1) c 69 (by unfold maxLen; omega)
 have hG63 : G ≤ 9223372036854775807 := by unfold maxLen at hGm; omega
 rw [HG.out] at hrz
 obtain ⟨z1, hz1'⟩ : ∃ z1 : List Value, z1 = (Builtin.zeroCells (Value.agg #[.int .i64 0, .int .i64 0, .int .i64 0, .int .i64 0, .int .i64 0, .int .i64 0, .int .i64 0, .string noS, .slice none 0 0]).cells (n + 1 - i)).toList := ⟨_, rfl⟩
 obtain ⟨z2, hz2'⟩ : ∃ z2 : List Value, z2 = (Builtin.zeroCells (Value.agg #[.int .i64 0, .int .i64 0, .int .i64 0, .int .i64 0, .int .i64 0, .int .i64 0, .int .i64 0, .string noS, .slice none 0 0]).cells (G - (n + 1))).toList := ⟨_, rfl⟩
 have hzl1 : z1.length = (n + 1 - i) * 9 := by rw [hz1']; simp [Builtin.zeroCells, Value.cells]
 have hzl2 : z2.length = (G - (n + 1)) * 9 := by rw [hz2']; simp [Builtin.zeroCells, Value.cells]
 obtain ⟨row, hrow⟩ : ∃ row : Array Value, row = (xs.take (i * 9)).toArray ++ Builtin.zeroCells (Value.agg #[.int .i64 0, .int .i64 0, .int .i64 0, .int .i64 0, .int .i64 0, .int .i64 0, .int .i64 0, .string noS, .slice none 0 0]).cells (n + 1 - i) ++ Builtin.zeroCells (Value.agg #[.int .i64 0, .int .i64 0, .int .i64 0, .int .i64 0, .int .i64 0, .int .i64 0, .int .i64 0, .string noS, .slice none 0 0]).cells (G - (n + 1)) := ⟨_, rfl⟩
 rw [← hrow] at hrz
 have hrl : row.toList = xs.take (i * 9) ++ z1 ++ z2 := by rw [hrow, hz1', hz2']; simp
 have hrs : row.size = G * 9 := by
  rw [← Array.length_toList, hrl]
  simp only [List.length_append, List.length_take, hzl1, hzl2]
  omega
 clear hrow hz1' hz2'
 have hgw : g < w.heap.size := (Array.getElem?_eq_some_iff.1 hg).1
 have hvw : vb < w.heap.size := R.lt
 have hsrcA : ∀ j v, (El.cells x)[j]? = some v → (w.drew.alloc (.cells row 69)).cell? ((⟨vb, 0, none⟩ : Addr).add j) = some v := fun j v hv => by
  rw [Addr.add_mid, World.cell?_of_block (w := w) (Below.heap_alloc w.drew _ vb hvw)]
  exact Rw.whole R j v hv
 have hgN : (w.drew.alloc (.cells row 69)).heap[w.heap.size]? = some (.cells row 69 (0, 0)) := heap_alloc_last w.drew _
 have hcpA : ∀ (W : World), W.heap = (w.drew.alloc (.cells row 69)).heap → ∀ ty dc, (Builtin.copy_ #[25, 25] ty #[.slice (some ⟨w.heap.size, i * 9, none⟩) (n + 1 - i) dc, .slice (some ⟨vb, 0, none⟩) 1 1]).run Tryz.prog W = .ok (goInt 1) (W.setRow w.heap.size (row.toList.take (i * 9) ++ (El.cells x) ++ row.toList.drop (i * 9 + (El.cells x).length)).toArray) := fun W hW ty dc =>
  run_copy_rowS W 25 25 ty 69 w.heap.size (i * 9) (n + 1 - i) dc ⟨vb, 0, none⟩ 1 1 row 69 (El.cells x) 9 1 Tryz.underlying25 size69 (by rw [hW]; exact hgN) (by simp only [Nat.min_def]; split <;> omega) rfl (fun j v hv => by rw [World.cell?_of_block (w := w.drew.alloc (.cells row 69)) (by rw [hW])]; exact hsrcA j v hv) (by rw [El.len]; omega) hx1
 obtain ⟨r1, HR1⟩ := hid_ex (row.toList.take (i * 9) ++ (El.cells x) ++ row.toList.drop (i * 9 + (El.cells x).length)).toArray
 rw [HR1.out] at hcpA
 have hr1s : r1.size = G * 9 := by
  rw [← HR1.out]
  simp only [List.size_toArray, List.length_append, List.length_take, List.length_drop, Array.length_toList, El.len, hrs]
  omega
 have hg1 : ((w.drew.alloc (.cells row 69)).setRow w.heap.size r1).heap[w.heap.size]? = some (.cells r1 69 (0, 0)) := setRow_heap _ _ row r1 69 (0, 0) hgN
 have hsrcB : ∀ j v, (xs.drop (i * 9))[j]? = some v → ((w.drew.alloc (.cells row 69)).setRow w.heap.size r1).cell? ((⟨g, i * 9, none⟩ : Addr).add j) = some v := fun j v hv => by
  rw [Addr.add_mid, World.cell?_of_block (w := w) ((setRow_other _ w.heap.size g r1 (by omega)).trans (Below.heap_alloc w.drew _ g hgw))]
  rw [List.getElem?_drop] at hv
  exact hcell _ v hv
 have hcpB : ∀ (W : World), W.heap = ((w.drew.alloc (.cells row 69)).setRow w.heap.size r1).heap → ∀ ty dc sc, (Builtin.copy_ #[25, 25] ty #[.slice (some ⟨w.heap.size, (i + 1) * 9, none⟩) (n - i) dc, .slice (some ⟨g, i * 9, none⟩) (n - i) sc]).run Tryz.prog W = .ok (goInt ((n - i : Nat) : Int)) (W.setRow w.heap.size (r1.toList.take ((i + 1) * 9) ++ xs.drop (i * 9) ++ r1.toList.drop ((i + 1) * 9 + (xs.drop (i * 9)).length)).toArray) := fun W hW ty dc sc =>
  run_copy_rowS W 25 25 ty 69 w.heap.size ((i + 1) * 9) (n - i) dc ⟨g, i * 9, none⟩ (n - i) sc r1 69 (xs.drop (i * 9)) 9 (n - i) Tryz.underlying25 size69 (by rw [hW]; exact hg1) (Nat.min_self _) (by rw [List.length_drop]; omega) (fun j v hv => by rw [World.cell?_of_block (w := (w.drew.alloc (.cells row 69)).setRow w.heap.size r1) (by rw [hW])]; exact hsrcB j v hv) (by rw [List.length_drop]; omega) (fun v hv => h1 v (List.mem_of_mem_drop hv))
 obtain ⟨r2, HR2⟩ := hid_ex (r1.toList.take ((i + 1) * 9) ++ xs.drop (i * 9) ++ r1.toList.drop ((i + 1) * 9 + (xs.drop (i * 9)).length)).toArray
 rw [HR2.out] at hcpB
 have hfin := grow_list9 xs (El.cells x) z1 z2 n i hi hxl rfl hzl1 r1.toList r2.toList (by rw [← HR1.out, hrl]) (by rw [← HR2.out])
 have HFI : Hid (r2.toList.take ((n + 1) * 9) = put9 xs (El.cells x) i ∧ r2.size = G * 9) := ⟨hfin.1, by rw [← Array.length_toList, hfin.2]; omega⟩
 have hg2 : (((w.drew.alloc (.cells row 69)).setRow w.heap.size r1).setRow w.heap.size r2).heap[w.heap.size]? = some (.cells r2 69 (0, 0)) := setRow_heap _ _ r1 r2 69 (0, 0) hg1
 have hw1 : IntKind.i64.wrap ((i : Int) + 1) = (i : Int) + 1 := by rw [IntKind.wrap_i64]; omega
 have hz2i : ¬ ((i : Int) = (n : Int)) := by omega
 have hz3 : (c : Int) < (n : Int) + 1 := by omega
 have hb1 : (0 : Int) ≤ (i : Int) + 1 := by omega
 have htn : ((i : Int) + 1).toNat = i + 1 := by omega
 have hb3 : (i : Int) ≤ (n : Int) := by omega
 have hci : ¬ (c = i) := by omega
 have hGi : ¬ (G = i) := by omega
 have hGim : ¬ (G = i + 1) := by omega
 have hin : i ≤ n := by omega
 have mixed : Tryz.prog.follows .mixedOrders = true := by kernel_rfl
 clear hfin hold hrl hzl1 hzl2 hcell hsrcA hsrcB HR1 HR2
 have hA := hcpA (w.alloc (.cells row 69)).drew rfl 3 (G - i)
 go_enter Tryz.func90, Tryz.ntmps90
 go_wp2_with (first
  | (at_builtin; refine Lib.wpList_append_run _ rfl _ _ _ _ rfl _ _ rfl rfl _ _ (hrz _) ?_))
 go_region_law_o (refine step_copy_runI rfl _ _ 25 25 rfl (.slice (some ⟨w.heap.size, (i + 1) * 9, none⟩) (n - i) (G - (i + 1))) (.slice (some ⟨g, i * 9, none⟩) (n - i) (c - i)) (by simp [Act.eval, Act.put]) (by simp [Act.eval, Act.put]) (hcpB (((w.alloc (.cells row 69)).drew.setRow w.heap.size r1).drew) rfl 3 (G - (i + 1)) (c - i)) ?_)
 go_wp2
 go_ret
 refine ⟨_, rfl, ⟨?_, .inr ⟨w.heap.size, G, r2, rfl, hB, hg2, hGn, hGm, HFI.out.2, HFI.out.1⟩⟩, ?_, (fun k hk => .inr (Nat.le_of_eq (Option.some.inj hk))), ?_⟩
 ·rw [put9_length, hxl, El.len]
  omega
 ·intro b h1 h2
  refine (setRow_other _ w.heap.size b _ (by omega)).trans ?_
  refine (setRow_other _ w.heap.size b _ (by omega)).trans ?_
  exact Below.heap_alloc w _ b h1
 ·exact below_setRow (below_setRow ((Below.refl B w).alloc hB _).drew hB _).drew hB _
theorem put9_rows (l : List (El × Value)) (x : El × Value) (i : Nat) : put9 (rows El.cells l) (El.cells x) i = rows El.cells (l.take i ++ x :: l.drop i) := by
 unfold put9
 rw [rows_append, rows_cons, rows_take El.len, rows_drop El.len, List.append_assoc]
theorem insert_any9 (B : Nat)  (v : Value) (l : List (El × Value)) (i : Nat) (vb : Nat) (x : El × Value) (w : World) (hown : w.ownsRow B 69 9 v l.length (rows El.cells l)) (hi : i ≤ l.length) (hn : l.length ≤ 100) (hB : B ≤ w.heap.size) (hx1 : ∀ u ∈ El.cells x, u.oneCell' = true) (hl1 : ∀ u ∈ rows El.cells l, u.oneCell' = true) (R : Rw w vb 69 (El.cells x).toArray) (hvb : ∀ k, v.ownBlock = some k → vb ≠ k) :
  Calls Tryz.prog 90 #[v, .int .i64 i, .slice (some ⟨vb, 0, none⟩) 1 1] w (InPost9 B v (l.length + 1) (rows El.cells (l.take i ++ x :: l.drop i)) w) := by
 rw [← put9_rows]
 obtain ⟨p, c, rfl⟩ := own_sl hown
 rcases Nat.lt_or_ge i l.length with h | h
 ·obtain ⟨g, rfl, hg⟩ := own_some hown (by omega)
  rcases Nat.lt_or_ge c (l.length + 1) with hc | hc
  ·exact insert_grow9 B g _ c i _ vb x w hown h hc hn (hl1) hB hx1 R
  ·exact insert_shift9 B g _ c i _ vb x w hown h hc hn (hvb g rfl) (hl1) hx1 R
 ·obtain rfl : i = l.length := by omega
  have := insert_end9 B p l.length c _ vb x w hown hn hB hx1 R
  rw [show put9 (rows El.cells l) (El.cells x) l.length = rows El.cells l ++ (El.cells x) by unfold put9; rw [List.take_of_length_le (by rw [rows_length El.len]; omega), List.drop_of_length_le (by rw [rows_length El.len]; omega), List.append_nil]]
  exact this
def insE (e : El) (l : List El) : List El := l.filter (fun y => kl (kE y) (kE e)) ++ e :: l.filter (fun y => !kl (kE y) (kE e))
theorem insE_at {e : El} {l : List El} {k : Nat} (h1 : ∀ j (h : j < l.length), j < k → kl (kE l[j]) (kE e) = true) (h2 : ∀ j (h : j < l.length), k ≤ j → kl (kE l[j]) (kE e) = false) : l.take k ++ e :: l.drop k = insE e l := by
 have e1 : l.filter (fun y => kl (kE y) (kE e)) = l.take k := by
  conv => lhs; rw [← List.take_append_drop k l]
  rw [List.filter_append, List.filter_eq_self.2, List.filter_eq_nil_iff.2, List.append_nil]
  ·intro a ha
   obtain ⟨j, hj, rfl⟩ := List.getElem_of_mem ha
   rw [List.getElem_drop]
   rw [List.length_drop] at hj
   simp [h2 (k + j) (by omega) (by omega)]
  ·intro a ha
   obtain ⟨j, hj, rfl⟩ := List.getElem_of_mem ha
   rw [List.getElem_take]
   rw [List.length_take] at hj
   exact h1 j (by omega) (by omega)
 have e2 : l.filter (fun y => !kl (kE y) (kE e)) = l.drop k := by
  conv => lhs; rw [← List.take_append_drop k l]
  rw [List.filter_append, List.filter_eq_nil_iff.2, List.filter_eq_self.2, List.nil_append]
  ·intro a ha
   obtain ⟨j, hj, rfl⟩ := List.getElem_of_mem ha
   rw [List.getElem_drop]
   rw [List.length_drop] at hj
   simp [h2 (k + j) (by omega) (by omega)]
  ·intro a ha
   obtain ⟨j, hj, rfl⟩ := List.getElem_of_mem ha
   rw [List.getElem_take]
   rw [List.length_take] at hj
   simp [h1 j (by omega) (by omega)]
 unfold insE
 rw [e1, e2]
theorem own_kp {w w' : World} {B e S n : Nat} {v : Value} {xs : List Value} (h : w.ownsRow B e S v n xs) {o : Option Nat} (hk : Kp o w w') (hne : ∀ k, v.ownBlock = some k → o ≠ some k) : w'.ownsRow B e S v n xs := by
 obtain ⟨h1, ⟨rfl, h0⟩ | ⟨g, cap, cur, rfl, hbg, hg, h2⟩⟩ := h
 ·exact ⟨h1, .inl ⟨rfl, h0⟩⟩
 ·exact ⟨h1, .inr ⟨g, cap, cur, rfl, hbg, (hk g (Array.getElem?_eq_some_iff.1 hg).1 (hne g rfl)).trans hg, h2⟩⟩
def insX (x : X) (e : El) (p : M → Bool) : X := if (ck x && (ie e && (tk x.el (rE e) p && !(pl x.el (kE e)).isSome))) = true then { x with el := insE e x.el } else x
theorem ins_any (x : X) (va vw vm ve : Value) (q u : Int) (v : List Int) (t : Int) (sl : Value) (idx : Int) (r : M) (s : ByteArray) (w : World) (hv : v.length = 13) (h : Four w x va vw vm ve) (hs : Sm x) :
  Calls Tryz.prog 42 #[CV x.k x.b va vw vm ve, TxV q u v t sl, .int .i64 idx, MV r.p r.s r.i, .string s] w (Gives (insX x ⟨q, u, idx, t, r.p, r.s, r.i, s, []⟩ (bfP q u v idx)) w) := by
 obtain ⟨pa, ca', pw, cw, pm, cm, pe, ce', rfl, rfl, rfl, rfl⟩ := h.slices
 have HF : Hid (Four w x (.slice pa x.am.length ca') (.slice pw x.wr.length cw) (.slice pm x.mb.length cm) (.slice pe x.el.length ce')) := h
 clear h
 obtain ⟨z, HZ⟩ := hid_ex (insX x ⟨q, u, idx, t, r.p, r.s, r.i, s, []⟩ (bfP q u v idx))
 rw [HZ.out]
 have R0 := (((((rw_new w 27 (cx x pa ca' pw cw pm cm pe ce')).alloc (.cells (txc q u v t sl).toArray 34)).alloc (.cells #[.int .i64 r.p, .int .i64 r.s, .int .i64 r.i] 50)).alloc (.cells z4 27)).alloc (.cells #[.int .i64 q, .int .i64 u, .int .i64 idx, .int .i64 t, .int .i64 r.p, .int .i64 r.s, .int .i64 r.i, .string s, .slice none 0 0] 69))
 have R1 := ((((rw_new (w.alloc (.cells (cx x pa ca' pw cw pm cm pe ce') 27)) 34 (txc q u v t sl).toArray).alloc (.cells #[.int .i64 r.p, .int .i64 r.s, .int .i64 r.i] 50)).alloc (.cells z4 27)).alloc (.cells #[.int .i64 q, .int .i64 u, .int .i64 idx, .int .i64 t, .int .i64 r.p, .int .i64 r.s, .int .i64 r.i, .string s, .slice none 0 0] 69))
 have R2 := (((rw_new ((w.alloc (.cells (cx x pa ca' pw cw pm cm pe ce') 27)).alloc (.cells (txc q u v t sl).toArray 34)) 50 #[.int .i64 r.p, .int .i64 r.s, .int .i64 r.i]).alloc (.cells z4 27)).alloc (.cells #[.int .i64 q, .int .i64 u, .int .i64 idx, .int .i64 t, .int .i64 r.p, .int .i64 r.s, .int .i64 r.i, .string s, .slice none 0 0] 69))
 have R3 := ((rw_new (((w.alloc (.cells (cx x pa ca' pw cw pm cm pe ce') 27)).alloc (.cells (txc q u v t sl).toArray 34)).alloc (.cells #[.int .i64 r.p, .int .i64 r.s, .int .i64 r.i] 50)) 27 z4).alloc (.cells #[.int .i64 q, .int .i64 u, .int .i64 idx, .int .i64 t, .int .i64 r.p, .int .i64 r.s, .int .i64 r.i, .string s, .slice none 0 0] 69))
 have R5 := (rw_new ((((w.alloc (.cells (cx x pa ca' pw cw pm cm pe ce') 27)).alloc (.cells (txc q u v t sl).toArray 34)).alloc (.cells #[.int .i64 r.p, .int .i64 r.s, .int .i64 r.i] 50)).alloc (.cells z4 27)) 69 #[.int .i64 q, .int .i64 u, .int .i64 idx, .int .i64 t, .int .i64 r.p, .int .i64 r.s, .int .i64 r.i, .string s, .slice none 0 0])
 have hbel := (bel_alloc (bel_alloc (bel_alloc (bel_alloc (bel_alloc (Below.refl w.heap.size w) (.cells (cx x pa ca' pw cw pm cm pe ce') 27)) (.cells (txc q u v t sl).toArray 34)) (.cells #[.int .i64 r.p, .int .i64 r.s, .int .i64 r.i] 50)) (.cells z4 27)) (.cells #[.int .i64 q, .int .i64 u, .int .i64 idx, .int .i64 t, .int .i64 r.p, .int .i64 r.s, .int .i64 r.i, .string s, .slice none 0 0] 69))
 have hsz : (((((w.alloc (.cells (cx x pa ca' pw cw pm cm pe ce') 27)).alloc (.cells (txc q u v t sl).toArray 34)).alloc (.cells #[.int .i64 r.p, .int .i64 r.s, .int .i64 r.i] 50)).alloc (.cells z4 27)).alloc (.cells #[.int .i64 q, .int .i64 u, .int .i64 idx, .int .i64 t, .int .i64 r.p, .int .i64 r.s, .int .i64 r.i, .string s, .slice none 0 0] 69)).heap.size = w.heap.size + 5 := by simp
 have d0 : ((((w.alloc (.cells (cx x pa ca' pw cw pm cm pe ce') 27)).alloc (.cells (txc q u v t sl).toArray 34)).alloc (.cells #[.int .i64 r.p, .int .i64 r.s, .int .i64 r.i] 50)).alloc (.cells z4 27)).rangeAt (w.heap.size + 1) 0 [.int .i64 q, .int .i64 u] := Rw.range (((rw_next (w.alloc (.cells (cx x pa ca' pw cw pm cm pe ce') 27)) (by simp) 34 (txc q u v t sl).toArray).alloc (.cells #[.int .i64 r.p, .int .i64 r.s, .int .i64 r.i] 50)).alloc (.cells z4 27)) 0 _ fun j u hu => by
  match j, hu with
  | 0, hu => exact hu
  | 1, hu => exact hu
  | j + 2, hu => simp at hu
 have ct : ((((w.alloc (.cells (cx x pa ca' pw cw pm cm pe ce') 27)).alloc (.cells (txc q u v t sl).toArray 34)).alloc (.cells #[.int .i64 r.p, .int .i64 r.s, .int .i64 r.i] 50)).alloc (.cells z4 27)).cell? ⟨w.heap.size + 1, 15, none⟩ = some (.int .i64 t) := by
  exact tx_time (((rw_next (w.alloc (.cells (cx x pa ca' pw cw pm cm pe ce') 27)) (by simp) 34 (txc q u v t sl).toArray).alloc (.cells #[.int .i64 r.p, .int .i64 r.s, .int .i64 r.i] 50)).alloc (.cells z4 27)) hv
 have R2' : Rw ((((w.alloc (.cells (cx x pa ca' pw cw pm cm pe ce') 27)).alloc (.cells (txc q u v t sl).toArray 34)).alloc (.cells #[.int .i64 r.p, .int .i64 r.s, .int .i64 r.i] 50)).alloc (.cells z4 27)) (w.heap.size + 1 + 1) 50 #[.int .i64 r.p, .int .i64 r.s, .int .i64 r.i] := (rw_next ((w.alloc (.cells (cx x pa ca' pw cw pm cm pe ce') 27)).alloc (.cells (txc q u v t sl).toArray 34)) (by simp) 50 #[.int .i64 r.p, .int .i64 r.s, .int .i64 r.i]).alloc (.cells z4 27)
 have z2 : (Tryz.prog.info? 29).map (·.size) = some [Value.int .i64 q, .int .i64 u].length := size29
 generalize hW4 : ((((w.alloc (.cells (cx x pa ca' pw cw pm cm pe ce') 27)).alloc (.cells (txc q u v t sl).toArray 34)).alloc (.cells #[.int .i64 r.p, .int .i64 r.s, .int .i64 r.i] 50)).alloc (.cells z4 27)) = w4 at d0 ct R2' R0 R1 R2 R3 R5 hbel hsz
 simp only [World.size_alloc] at R1 R2 R3
 have hs4 : w4.heap.size = w.heap.size + 4 := by rw [← hW4]; simp
 rw [hs4] at R5
 go_enter Tryz.func42, Tryz.ntmps42
 go_wp2_with (first | rw [hW4] | refine load_m 29 _ rfl rfl _ _ rfl d0 Tryz.underlying29 rfl z2 ?_ | refine load_r 50 _ rfl rfl _ rfl R2' Tryz.underlying50 rfl size50 ?_ | refine load_r 27 _ rfl rfl _ rfl R0 Tryz.underlying27 rfl size27 ?_)
 generalize hW : w4.alloc (.cells #[.int .i64 q, .int .i64 u, .int .i64 idx, .int .i64 t, .int .i64 r.p, .int .i64 r.s, .int .i64 r.i, .string s, .slice none 0 0] 69) = w0 at R0 R1 R2 R3 R5 hbel hsz ⊢
 clear hW hW4 d0 ct R2'
 refine (copied_any x _ _ _ _ w0 (HF.out.later hbel) hs).mono ?_
 rintro e w1 ⟨ua, uw, um, ue, rfl, ho, hb1⟩
 obtain ⟨qa, da, qw, dw, qm, dx, qe, de, rfl, rfl, rfl, rfl⟩ := ho.four.slices
 rw [hsz] at ho
 replace R0 := R0.later hb1
 replace R1 := R1.later hb1
 replace R2 := R2.later hb1
 replace R3 := R3.later hb1
 replace R5 := R5.later hb1
 replace hbel := below_on hbel hb1
 have hB : w.heap.size + 5 ≤ w1.heap.size := by have := hb1.size; omega
 clear hb1 hsz hs4
 have ho2 := ho.row (by omega) R0 (cx x qa da qw dw qm dx qe de)
 have hbs := below_setRow hbel (Nat.le_refl w.heap.size) (cx x qa da qw dw qm dx qe de)
 have hB2 : w.heap.size + 5 ≤ (w1.setRow w.heap.size (cx x qa da qw dw qm dx qe de)).heap.size := by simpa [World.setRow] using hB
 replace R1 := R1.rowOther (q := w.heap.size) (by omega) (cx x qa da qw dw qm dx qe de)
 replace R2 := R2.rowOther (q := w.heap.size) (by omega) (cx x qa da qw dw qm dx qe de)
 replace R3 := R3.rowOther (q := w.heap.size) (by omega) (cx x qa da qw dw qm dx qe de)
 replace R5 := R5.rowOther (q := w.heap.size) (by omega) (cx x qa da qw dw qm dx qe de)
 have R4 := R0.row (cx x qa da qw dw qm dx qe de)
 generalize hW : w1.setRow w.heap.size (cx x qa da qw dw qm dx qe de) = w2 at ho2 hbs hB2 R1 R2 R3 R4 R5
 go_wp2_with (first | rw [hW] | refine store_r rfl 27 _ _ rfl _ (cx x qa da qw dw qm dx qe de) rfl rfl R0 size27 rfl (by simp [Value.oneCell']) ?_ | refine load_r 27 _ rfl rfl _ rfl R4 Tryz.underlying27 rfl size27 ?_)
 clear hW ho hbel hB R0
 refine (check_any x _ _ _ _ w2 ho2.four hs).mono ?_
 rintro e w3 ⟨rfl, hb1⟩
 replace R1 := R1.later hb1
 replace R2 := R2.later hb1
 replace R3 := R3.later hb1
 replace R4 := R4.later hb1
 replace R5 := R5.later hb1
 replace ho2 := ho2.later hb1
 replace hbs := below_on hbs hb1
 replace hB2 := Nat.le_trans hB2 hb1.size
 clear hb1
 have HQ : Hid (z = if (ck x && (ie ⟨q, u, idx, t, r.p, r.s, r.i, s, []⟩ && (tk x.el (kM r) (bfP q u v idx) && !(pl x.el (q, u, idx)).isSome))) = true then { x with el := insE ⟨q, u, idx, t, r.p, r.s, r.i, s, []⟩ x.el } else x) := by
  show _ = _
  rw [← HZ.out]
  rfl
 clear HZ
 obtain ⟨y1, HY1⟩ := hid_ex (ck x)
 rw [HY1.out] at HQ ⊢
 cases y1
 ·have e := HQ.out
  rw [Bool.false_and, if_neg (by decide)] at e
  have e := e.symm
  subst e
  go_wp2_with (first | refine load_r 27 _ rfl rfl _ rfl R4 Tryz.underlying27 rfl size27 ?_ | refine store_r rfl 27 _ _ rfl _ (cx x qa da qw dw qm dx qe de) rfl rfl R3 size27 rfl (by simp [Value.oneCell']) ?_)
  refine bodyPost_ret (results_r rfl rfl (R3.row (cx x qa da qw dw qm dx qe de)) rfl Tryz.underlying27 size27) rfl ?_
  exact ⟨_, _, _, _, rfl, (ho2.row (by omega) R3 (cx x qa da qw dw qm dx qe de)).four, below_setRow hbs (by omega) _⟩
 ·have hce : ce x.el = true := (ck_parts HY1.out).2.2.2.2.2.1
  have hup := ce_up hce
  have C1 := isElem_any ⟨q, u, idx, t, r.p, r.s, r.i, s, []⟩ (.slice none 0 0) w3 (SHas.nil w3 3)
  obtain ⟨y2, HY2⟩ := hid_ex (ie ⟨q, u, idx, t, r.p, r.s, r.i, s, []⟩)
  rw [HY2.out] at HQ C1
  go_wp2_with (first | refine load_r 69 _ rfl rfl _ rfl R5 Tryz.underlying69 rfl size69 ?_)
  refine C1.mono ?_
  clear C1
  rintro e w4 ⟨rfl, hb1⟩
  replace R1 := R1.later hb1
  replace R2 := R2.later hb1
  replace R3 := R3.later hb1
  replace R4 := R4.later hb1
  replace R5 := R5.later hb1
  replace ho2 := ho2.later hb1
  replace hbs := below_on hbs hb1
  replace hB2 := Nat.le_trans hB2 hb1.size
  clear hb1
  cases y2
  ·have e := HQ.out
   rw [Bool.false_and, Bool.and_false, if_neg (by decide)] at e
   have e := e.symm
   subst e
   go_wp2_with (first | refine load_r 27 _ rfl rfl _ rfl R4 Tryz.underlying27 rfl size27 ?_ | refine store_r rfl 27 _ _ rfl _ (cx x qa da qw dw qm dx qe de) rfl rfl R3 size27 rfl (by simp [Value.oneCell']) ?_)
   refine bodyPost_ret (results_r rfl rfl (R3.row (cx x qa da qw dw qm dx qe de)) rfl Tryz.underlying27 size27) rfl ?_
   exact ⟨_, _, _, _, rfl, (ho2.row (by omega) R3 (cx x qa da qw dw qm dx qe de)).four, below_setRow hbs (by omega) _⟩
  ·have C2 := takes_any (.slice qe x.el.length de) x.el r q u v t sl idx w4 hv ho2.four.e hs.e hs.ei hup
   obtain ⟨y3, HY3⟩ := hid_ex (tk x.el (kM r) (bfP q u v idx))
   rw [HY3.out] at HQ C2
   have cE : w4.cell? ⟨w.heap.size, 5, none⟩ = some (.slice qe x.el.length de) := R4.cell 5
   go_wp2_with (first | refine load_r 50 _ rfl rfl _ rfl R2 Tryz.underlying50 rfl size50 ?_ | refine load_r 34 _ rfl rfl _ rfl R1 Tryz.underlying34 rfl (size_tx hv) ?_)
   refine C2.mono ?_
   clear C2 cE
   rintro e w5 ⟨rfl, hb1⟩
   replace R3 := R3.later hb1
   replace R4 := R4.later hb1
   replace R5 := R5.later hb1
   replace ho2 := ho2.later hb1
   replace hbs := below_on hbs hb1
   replace hB2 := Nat.le_trans hB2 hb1.size
   clear hb1
   cases y3
   ·have e := HQ.out
    rw [Bool.false_and, Bool.and_false, Bool.and_false, if_neg (by decide)] at e
    have e := e.symm
    subst e
    go_wp2_with (first | refine load_r 27 _ rfl rfl _ rfl R4 Tryz.underlying27 rfl size27 ?_ | refine store_r rfl 27 _ _ rfl _ (cx x qa da qw dw qm dx qe de) rfl rfl R3 size27 rfl (by simp [Value.oneCell']) ?_)
    refine bodyPost_ret (results_r rfl rfl (R3.row (cx x qa da qw dw qm dx qe de)) rfl Tryz.underlying27 size27) rfl ?_
    exact ⟨_, _, _, _, rfl, (ho2.row (by omega) R3 (cx x qa da qw dw qm dx qe de)).four, below_setRow hbs (by omega) _⟩
   ·have cE : w5.cell? ⟨w.heap.size, 5, none⟩ = some (.slice qe x.el.length de) := R4.cell 5
    have dm : w5.rangeAt (w.heap.size + 4) 0 [.int .i64 q, .int .i64 u, .int .i64 idx] := R5.range 0 _ fun j u hu => by
     match j, hu with
     | 0, hu => exact hu
     | 1, hu => exact hu
     | 2, hu => exact hu
     | j + 3, hu => simp at hu
    have zm : (Tryz.prog.info? 50).map (·.size) = some [Value.int .i64 q, .int .i64 u, .int .i64 idx].length := size50
    have C3 := find_any (.slice qe x.el.length de) x.el ⟨q, u, idx⟩ w5 ho2.four.e hs.e hup
    go_wp2_with (first | refine load_m 50 _ rfl rfl _ _ rfl dm Tryz.underlying50 rfl zm ?_)
    refine C3.mono ?_
    clear C3 cE dm
    rintro e w6 ⟨k, b, rfl, hk, h1, h2, hpl, hb1⟩
    replace R3 := R3.later hb1
    replace R4 := R4.later hb1
    replace R5 := R5.later hb1
    replace ho2 := ho2.later hb1
    replace hbs := below_on hbs hb1
    replace hB2 := Nat.le_trans hB2 hb1.size
    clear hb1
    cases b
    ·rw [if_neg (by decide)] at hpl
     have e := HQ.out
     rw [show pl x.el (q, u, idx) = none from hpl] at e
     rw [show (true && (true && (true && !(none : Option Nat).isSome))) = true from rfl, if_pos rfl, ← insE_at (k := k) h1 h2] at e
     have HMB : Hid (x.mb = []) := List.eq_nil_of_length_eq_zero (ck_parts HY1.out).2.2.2.2.1
     clear HQ HY1 HY2 HY3 hpl h1 h2 hup hce
     obtain ⟨ha, ht, hm, ⟨es, hes, hoe, hge⟩⟩ := ho2
     have hel : es.length = x.el.length := by rw [← hes, List.length_map]
     have cE : w6.cell? ⟨w.heap.size, 5, none⟩ = some (.slice qe x.el.length de) := R4.cell 5
     have hbn := bel_alloc (Below.refl w6.heap.size w6) (.cells #[.int .i64 q, .int .i64 u, .int .i64 idx, .int .i64 t, .int .i64 r.p, .int .i64 r.s, .int .i64 r.i, .string s, .slice none 0 0] 69)
     have hne : ∀ k, (Value.slice qe x.el.length de).ownBlock = some k → k < w6.heap.size := fun k hk => (World.ownsRow.lt hoe k hk).2
     have C4 := insert_any9 (w.heap.size + 5) (.slice qe x.el.length de) es k w6.heap.size (⟨q, u, idx, t, r.p, r.s, r.i, s, []⟩, .slice none 0 0) _ (by rw [hel]; exact own_later hoe hbn) (by omega) (by rw [hel]; exact hs.e) (Nat.le_trans hB2 hbn.size) (fun u hu => by simp [El.cells] at hu; rcases hu with rfl | rfl | rfl | rfl | rfl | rfl | rfl | rfl | rfl <;> rfl) (El.one hge.has) (rw_new w6 69 #[.int .i64 q, .int .i64 u, .int .i64 idx, .int .i64 t, .int .i64 r.p, .int .i64 r.s, .int .i64 r.i, .string s, .slice none 0 0]) (fun q hq => by have := hne q hq; omega)
     go_wp2_with (first | refine load_r 69 _ rfl rfl _ rfl R5 Tryz.underlying69 rfl size69 ?_)
     refine C4.mono ?_
     clear C4 cE
     rintro e7 w7 ⟨u7, rfl, hou, hkp, _, hb7⟩
     rw [hel] at hou
     have R4' : Rw w7 w.heap.size 27 (cx x qa da qw dw qm dx qe de) := (hb7.block _ (by omega)).trans (R4.later hbn)
     have R3' : Rw w7 (w.heap.size + 1 + 1 + 1) 27 z4 := (hb7.block _ (by omega)).trans (R3.later hbn)
     replace hbs := (below_on hbs hbn).trans (hb7.mono (show w.heap.size ≤ w.heap.size + 5 by omega))
     have oa := own_kp (own_later ha hbn) hkp (fun k hk e => own_tag (own_later ha hbn) (own_later hoe hbn) (by decide) e k hk rfl)
     have ot := own_kp (own_later ht hbn) hkp (fun k hk e => own_tag (own_later ht hbn) (own_later hoe hbn) (by decide) e k hk rfl)
     obtain ⟨ms, hms, hom, _⟩ := hm
     have om := own_kp (own_later hom hbn) hkp (fun k hk e => own_tag (own_later hom hbn) (own_later hoe hbn) (by decide) e k hk rfl)
     have og : OwnG (w.heap.size + 5) w7 es := fun y hy => own_kp (own_later (hge y hy) hbn) hkp (fun k hk e => own_tag (own_later (hge y hy) hbn) (own_later hoe hbn) (by decide) e k hk rfl)
     have hB7 : w.heap.size + 5 ≤ w7.heap.size := Nat.le_trans (Nat.le_trans hB2 hbn.size) hb7.size
     clear R4 R3 R5 hoe ha ht hom hge hkp hne hb7 hbn hB2
     have hms0 : ms = [] := by
      have e := hms
      rw [HMB.out] at e
      exact List.map_eq_nil_iff.1 e
     subst hms0
     obtain ⟨p7, c7, rfl⟩ := own_sl hou
     have hle : (es.take k ++ ((⟨q, u, idx, t, r.p, r.s, r.i, s, []⟩ : El), Value.slice none 0 0) :: es.drop k).map (·.1) = x.el.take k ++ ⟨q, u, idx, t, r.p, r.s, r.i, s, []⟩ :: x.el.drop k := by
      rw [List.map_append, List.map_cons, List.map_take, List.map_drop, hes]
     have HLL : Hid (x.el.length + 1 = (x.el.take k ++ (⟨q, u, idx, t, r.p, r.s, r.i, s, []⟩ : El) :: x.el.drop k).length) := by
      show _ = _
      rw [← hle, List.length_map]
      simp
      omega
     have c5 : w7.cell? ⟨w.heap.size, 5, none⟩ = some (.slice qe x.el.length de) := R4'.cell 5
     have f5 := R4'.frozen 5
     have R6 := R4'.set 5 (.slice p7 (x.el.length + 1) c7)
     replace R6 : Rw (w7.setCell ⟨w.heap.size, 5, none⟩ (.slice p7 (x.el.length + 1) c7)) w.heap.size 27 (cvc x.k x.b (.slice qa x.am.length da) (.slice qw x.wr.length dw) (.slice qm x.mb.length dx) (.slice p7 (x.el.length + 1) c7)) := R6
     have R7 := R3'.setOther (q := w.heap.size) (by omega) 5 (.slice p7 (x.el.length + 1) c7)
     have HF9 : Hid (Gives z w (.returned (CV x.k x.b (.slice qa x.am.length da) (.slice qw x.wr.length dw) (.slice qm x.mb.length dx) (.slice p7 (x.el.length + 1) c7))) ((w7.setCell ⟨w.heap.size, 5, none⟩ (.slice p7 (x.el.length + 1) c7)).setRow (w.heap.size + 1 + 1 + 1) (cvc x.k x.b (.slice qa x.am.length da) (.slice qw x.wr.length dw) (.slice qm x.mb.length dx) (.slice p7 (x.el.length + 1) c7)))) := by
      have e0 := e.symm
      subst e0
      have st : ∀ {e S n : Nat} {v : Value} {xs : List Value}, w7.ownsRow (w.heap.size + 5) e S v n xs → ((w7.setCell ⟨w.heap.size, 5, none⟩ (.slice p7 (x.el.length + 1) c7)).setRow (w.heap.size + 1 + 1 + 1) (cvc x.k x.b (.slice qa x.am.length da) (.slice qw x.wr.length dw) (.slice qm x.mb.length dx) (.slice p7 (x.el.length + 1) c7))).ownsRow (w.heap.size + 5) e S v n xs := fun h => own_row (own_over h (fun k hk => by have := (World.ownsRow.lt h k hk).1; omega) _ _) (by omega) _
      refine ⟨_, _, _, _, rfl, ⟨own_sh (st oa), own_sh (st ot), ⟨[], by rw [← hms], own_sh (st om), fun _ h => by (cases h)⟩, ⟨_, hle, ?_, fun y hy => ?_⟩⟩, below_setRow (below_cell hbs (Nat.le_refl _) _ _) (by omega) _⟩
      ·show SHas 9 _ _ (x.el.take k ++ (⟨q, u, idx, t, r.p, r.s, r.i, s, []⟩ : El) :: x.el.drop k).length _
       rw [← HLL.out]
       exact own_sh (st hou)
      ·rcases List.mem_append.1 hy with h | h
       ·exact own_sh (st (og y (List.mem_of_mem_take h)))
       ·rcases List.mem_cons.1 h with h | h
        ·subst h
         exact SHas.nil _ 3
        ·exact own_sh (st (og y (List.mem_of_mem_drop h)))
     clear hou og oa ot om hbs hle e hes hms HMB HF
     go_wp2_with (first | refine load_r 27 _ rfl rfl _ rfl R6 Tryz.underlying27 rfl size27 ?_ | refine store_r rfl 27 _ _ rfl _ (cvc x.k x.b (.slice qa x.am.length da) (.slice qw x.wr.length dw) (.slice qm x.mb.length dx) (.slice p7 (x.el.length + 1) c7)) rfl rfl R7 size27 rfl (by simp [Value.oneCell']) ?_)
     refine bodyPost_ret (results_r rfl rfl (R7.row (cvc x.k x.b (.slice qa x.am.length da) (.slice qw x.wr.length dw) (.slice qm x.mb.length dx) (.slice p7 (x.el.length + 1) c7))) rfl Tryz.underlying27 size27) rfl ?_
     exact HF9.out
    ·rw [if_pos rfl] at hpl
     have e := HQ.out
     rw [show pl x.el (q, u, idx) = some k from hpl] at e
     rw [show (true && (true && (true && !(some k : Option Nat).isSome))) = false from rfl, if_neg (by decide)] at e
     have e := e.symm
     subst e
     go_wp2_with (first | refine load_r 27 _ rfl rfl _ rfl R4 Tryz.underlying27 rfl size27 ?_ | refine store_r rfl 27 _ _ rfl _ (cx x qa da qw dw qm dx qe de) rfl rfl R3 size27 rfl (by simp [Value.oneCell']) ?_)
     refine bodyPost_ret (results_r rfl rfl (R3.row (cx x qa da qw dw qm dx qe de)) rfl Tryz.underlying27 size27) rfl ?_
     exact ⟨_, _, _, _, rfl, (ho2.row (by omega) R3 (cx x qa da qw dw qm dx qe de)).four, below_setRow hbs (by omega) _⟩
def clk (x : X) (q u : Int) (v : List Int) (i : Int) : X := cse x.k (Ct.clX x q u v i) (Rg.clX x q u v i) (Os.clX x q u v i) (goX x ⟨q, u, i⟩ (bfP q u v i)) x
def clc (x : X) (q u : Int) (v : List Int) (i : Int) : X := if i < 1 then x else clk x q u v i
theorem copy_c (x : X) (va vw vm ve : Value) (w : World) (h : Four w x va vw vm ve) (hs : Sm x) : Calls Tryz.prog 35 #[CV x.k x.b va vw vm ve] w (Gives x w) := (copied_any x va vw vm ve w h hs).mono fun _ _ ⟨_, _, _, _, he, ho, hb⟩ => ⟨_, _, _, _, he, ho.four, hb⟩
theorem clearM (x : X) (va vw vm ve : Value) (q u : Int) (v : List Int) (t : Int) (sl : Value) (i : Int) (w : World) (hv : v.length = 13) (h : Four w x va vw vm ve) (hs : Sm x) : Calls Tryz.prog (cse x.k 201 213 222 231 260) #[CV x.k x.b va vw vm ve, TxV q u v t sl, .int .i64 i] w (Gives (clk x q u v i) w) := by
 obtain ⟨k, b, am, wr, mb, el⟩ := x
 rcases kinds k with rfl | rfl | rfl | rfl | rfl | hk
 ·rw [cse1, show clk ⟨1, b, am, wr, mb, el⟩ q u v i = Ct.clX ⟨1, b, am, wr, mb, el⟩ q u v i from rfl]
  exact cl83 1 b va vw vm ve q u v t sl i w hv fun w' hb => Ct.clear_any ⟨1, b, am, wr, mb, el⟩ va vw vm ve q u v t sl i w' hv (h.later hb) hs
 ·rw [cse2, show clk ⟨2, b, am, wr, mb, el⟩ q u v i = Rg.clX ⟨2, b, am, wr, mb, el⟩ q u v i from rfl]
  exact cl85 2 b va vw vm ve q u v t sl i w hv fun w' hb => Rg.clear_any ⟨2, b, am, wr, mb, el⟩ va vw vm ve q u v t sl i w' hv (h.later hb) hs
 ·rw [cse3, show clk ⟨3, b, am, wr, mb, el⟩ q u v i = Rg.clX ⟨3, b, am, wr, mb, el⟩ q u v i from rfl]
  exact cl85 3 b va vw vm ve q u v t sl i w hv fun w' hb => Rg.clear_any ⟨3, b, am, wr, mb, el⟩ va vw vm ve q u v t sl i w' hv (h.later hb) hs
 ·rw [cse4, show clk ⟨4, b, am, wr, mb, el⟩ q u v i = Os.clX ⟨4, b, am, wr, mb, el⟩ q u v i from rfl]
  exact cl87 4 b va vw vm ve q u v t sl i w hv fun w' hb => Os.clear_any ⟨4, b, am, wr, mb, el⟩ va vw vm ve q u v t sl i w' hv (h.later hb) hs
 ·rw [cse5, show clk ⟨5, b, am, wr, mb, el⟩ q u v i = goX ⟨5, b, am, wr, mb, el⟩ ⟨q, u, i⟩ (bfP q u v i) from rfl]
  exact cl88 5 b va vw vm ve q u v t sl i w hv fun w' hb => clear_any ⟨5, b, am, wr, mb, el⟩ va vw vm ve q u v t sl i w' hv (h.later hb) hs
 ·rw [cse0 _ _ _ _ _ hk, show clk ⟨k, b, am, wr, mb, el⟩ q u v i = ⟨k, b, am, wr, mb, el⟩ from cse0 _ _ _ _ _ hk]
  exact cl97 k b va vw vm ve q u v t sl i w fun w' hb => copy_c ⟨k, b, am, wr, mb, el⟩ va vw vm ve w' (h.later hb) hs
theorem clear_c (x : X) (va vw vm ve : Value) (q u : Int) (v : List Int) (t : Int) (sl : Value) (i : Int) (w : World) (hv : v.length = 13) (h : Four w x va vw vm ve) (hs : Sm x) : Calls Tryz.prog 15 #[CV x.k x.b va vw vm ve, TxV q u v t sl, .int .i64 i] w (Gives (clc x q u v i) w) := by
 obtain ⟨R0, R1, R2, hb⟩ := rows3 w (cvc x.k x.b va vw vm ve) 27 (txc q u v t sl).toArray 34 z4 27
 generalize hW : ((w.alloc (.cells (cvc x.k x.b va vw vm ve) 27)).alloc (.cells (txc q u v t sl).toArray 34)).alloc (.cells z4 27) = w0 at R0 R1 R2 hb
 have C1 := fun w' (hb : Below w.heap.size w w') => copy_c x va vw vm ve w' (h.later hb) hs
 have C : ∀ w', Below w.heap.size w w' → Calls Tryz.prog (cse x.k 201 213 222 231 260) #[CV x.k x.b va vw vm ve, TxV q u v t sl, .int .i64 i] w' (Gives (clk x q u v i) w') := fun w' hb => clearM x va vw vm ve q u v t sl i w' hv (h.later hb) hs
 have M := m_clear x.k (CV x.k x.b va vw vm ve)
 have E := e_clear x.k
 generalize cse x.k 201 213 222 231 260 = F at C M E
 unfold clc
 generalize clk x q u v i = z at C ⊢
 have zx : (Tryz.prog.info? 27).map (·.size) = some ([Value.int .i64 x.k, .int .i64 x.b, va, vw, vm, ve] : List Value).length := size27
 have ztx : (Tryz.prog.info? 34).map (·.size) = some (txc q u v t sl).length := by rw [txc_length hv]; exact size34
 by_cases hi : i < 1
 ·rw [if_pos hi]
  clear C M E
  go_enter Tryz.func15, Tryz.ntmps15
  go_wp2_with (first | rw [hW] | refine load_r 27 _ rfl rfl _ rfl R0 Tryz.underlying27 rfl size27 ?_)
  refine (C1 w0 hb).mono ?_
  rintro e w1 ⟨ua, uw, um, ue, rfl, hz, hb1⟩
  obtain ⟨na, ea, nw, ew, nm, em, ne, ee, rfl, rfl, rfl, rfl⟩ := hz.slices
  replace R2 := R2.later hb1
  go_wp2_with (refine store_r rfl 27 _ _ rfl _ (cx x na ea nw ew nm em ne ee) rfl rfl R2 size27 rfl (by simp [Value.oneCell']) ?_)
  refine bodyPost_ret (results_r rfl rfl (R2.row _) rfl Tryz.underlying27 size27) rfl ?_
  exact ⟨_, _, _, _, rfl, hz.row R2 _, below_setRow (below_on hb hb1) (by omega) _⟩
 ·rw [if_neg hi]
  go_enter Tryz.func15, Tryz.ntmps15
  go_wp2_with (first | rw [hW])
  clear hW
  have hS : Calm.Stays (fun w' => Below w0.heap.size w0 w') := fun wa wb h hb => below_on h hb
  have hF : Facts.Stay [pF 0 (eqP (.agg ([Value.int .i64 x.k, .int .i64 x.b, va, vw, vm, ve] : List Value).toArray)), pF 1 (eqP (.iface (wk x.k) (CV x.k x.b va vw vm ve))), pF 2 (eqP (.agg (txc q u v t sl).toArray)), pF 3 (eqP (.int .i64 i)), pF 4 (cP z)] := stay_of (by simp only [List.forall_mem_cons]; exact ⟨⟨_, _, rfl, eqP_keeps _⟩, ⟨_, _, rfl, eqP_keeps _⟩, ⟨_, _, rfl, eqP_keeps _⟩, ⟨_, _, rfl, eqP_keeps _⟩, ⟨_, _, rfl, cP_keeps _⟩, fun _ h => by cases h⟩)
  refine Facts.regionTail (by kernel_rfl) (by kernel_rfl) 5 (by decide) (by kernel_rfl) (fun w' => Below w0.heap.size w0 w') (fun xv => { tmps := #[CV x.k x.b va vw vm ve, TxV q u v t sl, Value.int IntKind.i64 i, Value.pointer (some { block := w.heap.size, off := 0 }), Value.pointer (some { block := w.heap.size + 1, off := 0 }), undef, Value.pointer (some { block := w.heap.size + 1 + 1, off := 0 }), Value.int IntKind.i64 i, Value.bool false, undef, undef, xv 0, xv 1, xv 2, xv 3, xv 4], defers := [] }) [pF 0 (eqP (.agg ([Value.int .i64 x.k, .int .i64 x.b, va, vw, vm, ve] : List Value).toArray)), pF 1 (eqP (.iface (wk x.k) (CV x.k x.b va vw vm ve))), pF 2 (eqP (.agg (txc q u v t sl).toArray)), pF 3 (eqP (.int .i64 i)), pF 4 (cP z)] _ rfl rfl (by kernel_rfl) (fun j => [undef, undef, undef, undef, undef].getD j undef) rfl (Below.refl _ w0).drew ⟨?_, ?_, ?_, ?_, ?_, ?_, trivial⟩ ?_
  ·exact fun _ => Facts.loadP hS hF (fun _ _ => rfl) 27 Tryz.underlying27 rfl zx _ rfl rfl (fun xv wv hSw hd => by rfl) (fun wv hSw => Rw.whole (cs := [Value.int .i64 x.k, .int .i64 x.b, va, vw, vm, ve]) (R0.later hSw))
  ·refine fun _ => Facts.call1P hS hF (fun _ _ => rfl) rfl (by kernel_rfl) rfl (fun xv wv hSw hd => ?_)
   have d0 : xv 0 = _ := pF_get (hd ⟨0, .data⟩ (by simp) rfl _ rfl)
   show Calls Tryz.prog 34 #[xv 0] wv _
   rw [d0]
   exact (atWork_any x.k x.b va vw vm ve wv).mono fun e w' ⟨he, hb⟩ => ⟨_, he, rfl, hb⟩
  ·exact fun _ => Facts.loadP hS hF (fun _ _ => rfl) 34 Tryz.underlying34 rfl ztx _ rfl rfl (fun xv wv hSw hd => by rfl) (fun wv hSw => Rw.whole (cs := (txc q u v t sl)) (R1.later hSw))
  ·exact fun _ => Facts.pureP hS hF (fun _ _ => rfl) rfl (fun xv wv hSw hd => by
    go_simp)
  ·exact fun _ => Facts.inv2P hS hF (fun _ _ => rfl) rfl E (M _ (by kernel_rfl)) rfl (fun xv wv hSw hd => by
     have d1 : xv 1 = _ := pF_get (hd ⟨1, .data⟩ (by simp) rfl _ rfl)
     exact d1) (fun xv wv hSw hd => by
     have d2 : xv 2 = _ := pF_get (hd ⟨2, .data⟩ (by simp) rfl _ rfl)
     have d3 : xv 3 = _ := pF_get (hd ⟨3, .data⟩ (by simp) rfl _ rfl)
     show Calls Tryz.prog F #[CV x.k x.b va vw vm ve, xv 2, xv 3] wv _
     rw [d2, d3]
     exact (C wv (below_on hb hSw)).mono fun e w' h => gives_p h)
  ·exact fun h => absurd h (by decide)
  intro x9 w5 hb5 hf
  obtain ⟨ua, uw, um, ue, ez, hz⟩ := pF_get (hf 4 _ rfl)
  obtain ⟨na, ea, nw, ew, nm, em, ne, ee, rfl, rfl, rfl, rfl⟩ := hz.slices
  replace R2 := R2.later hb5
  replace hb := below_on hb hb5
  refine tail_store 27 _ _ rfl (w.heap.size + 2) 0 rfl (show _ = CV z.k z.b (.slice na z.am.length ea) (.slice nw z.wr.length ew) (.slice nm z.mb.length em) (.slice ne z.el.length ee) from ez) (R2.store (cx z na ea nw ew nm em ne ee) size27 rfl (by simp [Value.oneCell'])) ?_
  refine Facts.tailWp_nil ?_
  go_wp2_with fail
  refine bodyPost_ret (results_r rfl rfl (R2.row (cx z na ea nw ew nm em ne ee)) rfl Tryz.underlying27 size27) rfl ?_
  exact ⟨_, _, _, _, rfl, hz.row R2 _, below_setRow hb (by omega) _⟩
end Go.Proofs.YtjbbmcommnhgeaaGreat
namespace Go.Proofs.YtjbbmcommnhgeaaGreat.Rg
open Go.RowKit
def LaPost (l : List Wt) (w : World) (e : Ending) (w' : World) : Prop := ∃ u, e = .returned u ∧ WHas w' u l ∧ Below w.heap.size w w'
theorem whas_one (w : World) (y : Wt) : WHas (w.alloc (.cells #[.int .i64 y.p, .int .i64 y.s, .int .i64 y.i, .int .i64 y.t, .string y.x] 64)) (.slice (some ⟨w.heap.size, 0, none⟩) 1 1) [y] := by
 refine ⟨by show 1 ≤ maxLen; unfold maxLen; decide, rfl, .inr ⟨_, _, rfl, ⟨Nat.le_refl _, by unfold maxLen; decide⟩, fun _ => ⟨_, _, rfl, ?_⟩⟩⟩
 rw [rows_one]
 exact Rw.whole (cs := y.cells) (rw_new w 64 _)
theorem last_any (v : Value) (l : List Wt) (w : World) (h : WHas w v l) (hl : l.length ≤ 100) : Calls Tryz.prog 217 #[v] w (LaPost (lastW l) w) := by
 obtain ⟨p, c, rfl⟩ := h.slice
 obtain ⟨hcl, hcm⟩ := h.cap
 cases l with
 | nil =>
  go_enter Tryz.func217, Tryz.ntmps217
  go_wp2
  go_ret
  exact ⟨_, rfl, WHas.nil _, Below.refl _ _⟩
 | cons y l =>
  obtain ⟨g, o, rfl, hd⟩ := h.at (by simp)
  have HD : Hid (w.rangeAt g o (rows Wt.cells (y :: l))) := hd
  have d0 : w.rangeAt g o y.cells := by
   have := Wt.elem hd 0 (by simp)
   simpa using this
  have z42 : (Tryz.prog.info? 64).map (·.size) = some y.cells.length := size64
  rw [List.length_cons] at hl hcl ⊢
  clear h hd
  have hl0 : ¬ ((l.length : Int) + 1 = 0) := by omega
  have hcI : (c : Int) ≤ 9223372036854775807 := maxLen_lt hcm
  have R := rw_new w 64 #[.int .i64 y.p, .int .i64 y.s, .int .i64 y.i, .int .i64 y.t, .string y.x]
  have hbel := bel_alloc (Below.refl w.heap.size w) (.cells #[.int .i64 y.p, .int .i64 y.s, .int .i64 y.i, .int .i64 y.t, .string y.x] 64)
  obtain ⟨P, hP⟩ : ∃ P : Nat, P = if c = 1 then o else o + 5 := ⟨_, rfl⟩
  obtain ⟨z, HZ⟩ := hid_ex (lastW (y :: l))
  rw [HZ.out]
  generalize hW : w.alloc (.cells #[.int .i64 y.p, .int .i64 y.s, .int .i64 y.i, .int .i64 y.t, .string y.x] 64) = w0 at R hbel
  by_cases hc1 : c = 1
  ·subst hc1
   obtain rfl : l = [] := List.eq_nil_of_length_eq_zero (by omega)
   have e : z = [y] := HZ.out.symm
   subst e
   clear HZ
   go_enter Tryz.func217, Tryz.ntmps217
   go_wp2_with (first | rw [hW] | refine load_m 64 _ rfl rfl _ _ rfl d0 Tryz.underlying64 rfl z42 ?_)
   refine wp_loop_rounds 1 ?_
   rw [rounds_succ]
   go_wp2_with (first | refine load_r 64 _ rfl rfl _ rfl R Tryz.underlying64 rfl size64 ?_)
   go_ret
   exact ⟨_, rfl, whas_one _ _, bel_alloc hbel _⟩
  ·go_enter Tryz.func217, Tryz.ntmps217
   go_wp2_with (first | rw [hW] | refine load_m 64 _ rfl rfl _ _ rfl d0 Tryz.underlying64 rfl z42 ?_)
   go_loopw [15] (fun vi wr => ∃ k : Nat, vi = .int .i64 k ∧ k ≤ l.length ∧ (∃ b : Wt, Hid (b = bst y (l.take k)) ∧ Rw wr w.heap.size 64 #[.int .i64 b.p, .int .i64 b.s, .int .i64 b.i, .int .i64 b.t, .string b.x]) ∧ Below w.heap.size w wr) (fun vi _ => l.length - (intOf vi).toNat)
   case atStart => exact ⟨0, rfl, by omega, ⟨y, (rfl : y = y), R⟩, hbel⟩
   case round =>
    clear R hbel hW d0 w0
    obtain ⟨k, rfl, hk, ⟨b, HB, R⟩, hbel⟩ := hrel
    by_cases hlt : k < l.length
    ·have hlt' : (k : Int) < (l.length : Int) := by omega
     have d : wr.rangeAt g (o + 5 + k * 5) l[k].cells := by
      have := Wt.elem (range_later HD.out hbel) (k + 1) (by simpa using hlt)
      rw [show o + 5 + k * 5 = o + (k + 1) * 5 by omega]
      simpa using this
     obtain ⟨x, HX⟩ := hid_ex l[k]
     rw [HX.out] at d
     have zx : (Tryz.prog.info? 64).map (·.size) = some x.cells.length := size64
     have HS : Hid (bst y (l.take (k + 1)) = if b.t ≤ x.t then x else b) := by
      show _ = _
      rw [List.take_succ_eq_append_getElem hlt, bst_snoc, HX.out, HB.out]
     have hbA := bel_alloc (Below.refl wr.heap.size wr) (.cells #[.int .i64 x.p, .int .i64 x.s, .int .i64 x.i, .int .i64 x.t, .string x.x] 64)
     have R5 := rw_new wr 64 #[.int .i64 x.p, .int .i64 x.s, .int .i64 x.i, .int .i64 x.t, .string x.x]
     have hne : w.heap.size < wr.heap.size := R.lt
     replace R := R.later hbA
     replace hbel := below_on hbel hbA
     generalize hW : wr.alloc (.cells #[.int .i64 x.p, .int .i64 x.s, .int .i64 x.i, .int .i64 x.t, .string x.x] 64) = w1 at R R5 hbel
     have cb : w1.cell? ⟨w.heap.size, 3, none⟩ = some (.int .i64 b.t) := R.cell 3
     have cx : w1.cell? ⟨wr.heap.size, 3, none⟩ = some (.int .i64 x.t) := R5.cell 3
     clear hbA HX HZ
     by_cases hge : b.t ≤ x.t
     ·rw [if_pos hge] at HS
      go_wp2_with (first | rw [hW] | refine load_m 64 _ rfl rfl _ _ rfl d Tryz.underlying64 rfl zx ?_ | refine load_r 64 _ rfl rfl _ rfl R5 Tryz.underlying64 rfl size64 ?_ | refine store_r rfl 64 _ _ rfl _ #[.int .i64 x.p, .int .i64 x.s, .int .i64 x.i, .int .i64 x.t, .string x.x] rfl rfl R size64 rfl (by simp [Value.oneCell']) ?_)
      go_roundw
      case rel => exact ⟨k + 1, by simp, by omega, ⟨x, HS.out.symm, R.row _⟩, below_setRow hbel (Nat.le_refl _) _⟩
      case measure => simp [intOf]; omega
     ·rw [if_neg hge] at HS
      have hge' : ¬ b.t ≤ x.t := hge
      go_wp2_with (first | rw [hW] | refine load_m 64 _ rfl rfl _ _ rfl d Tryz.underlying64 rfl zx ?_)
      go_roundw
      case rel => exact ⟨k + 1, by simp, by omega, ⟨b, HS.out.symm, R⟩, hbel⟩
      case measure => simp [intOf]; omega
    ·have hlt' : ¬ (k : Int) < (l.length : Int) := by omega
     obtain rfl : k = l.length := by omega
     rw [List.take_length] at HB
     have e : z = [b] := by
      rw [← HZ.out, HB.out]
      rfl
     subst e
     clear HZ HB HD
     go_wp2_with (first | refine load_r 64 _ rfl rfl _ rfl R Tryz.underlying64 rfl size64 ?_)
     go_ret
     exact ⟨_, rfl, whas_one _ _, bel_alloc hbel _⟩
end Go.Proofs.YtjbbmcommnhgeaaGreat.Rg
namespace Go.Proofs.YtjbbmcommnhgeaaGreat.Rg
open Go.RowKit Go.Maps Go.Sort Go.Shelf Go.Proofs
def keys40_ren : Go.Shelf.Ren := ⟨fun | 7 => 219 | 10 => 220 | n => n, fun | 23 => 218 | 26 => 9 | 3 => 219 | 28 => 148 | 0 => 0 | 27 => 147 | 33 => 165 | 4 => 4 | n => n, fun | n => n⟩
theorem keys40 : Go.Proofs.SlLaysZ.n7 Tryz.prog keys40_ren := {
 mixed := by kernel_rfl
 f7 := ⟨Tryz.f219.name, by decide, Tryz.func219.trans (congrArg some (by kernel_rfl))⟩
 f10 := ⟨Tryz.f220.name, by decide, Tryz.func220.trans (congrArg some (by kernel_rfl))⟩
 t0 := Tryz.underlying0
 a0 := Tryz.isAgg0
 z0 := Tryz.sizeOf0
 v0 := Tryz.zeroValue0
 t4 := Tryz.underlying4
 a4 := Tryz.isAgg4
 z4 := Tryz.sizeOf4
 v4 := Tryz.zeroValue4
 t23 := Tryz.underlying218
 a23 := Tryz.isAgg218
 z23 := Tryz.sizeOf218
 v23 := Tryz.zeroValue218
 t26 := Tryz.underlying9
 a26 := Tryz.isAgg9
 z26 := Tryz.sizeOf9
 v26 := Tryz.zeroValue9
 t27 := Tryz.underlying147
 a27 := Tryz.isAgg147
 z27 := Tryz.sizeOf147
 v27 := Tryz.zeroValue147
 t28 := Tryz.underlying148
 a28 := Tryz.isAgg148
 z28 := Tryz.sizeOf148
 v28 := Tryz.zeroValue148
 t33 := Tryz.underlying165
 a33 := Tryz.isAgg165
 z33 := Tryz.sizeOf165
 v33 := Tryz.zeroValue165 }
def sorted39_ren : Go.Shelf.Ren := ⟨fun | 6 => 123 | 8 => 148 | 9 => 149 | 11 => 162 | 13 => 164 | 12 => 163 | 23 => 176 | 24 => 177 | 14 => 167 | 15 => 168 | 16 => 169 | 17 => 170 | 18 => 171 | 19 => 172 | 20 => 173 | 21 => 174 | 22 => 175 | 25 => 178 | 26 => 179 | 27 => 180 | 28 => 181 | 29 => 182 | 30 => 183 | 31 => 184 | n => n, fun | 26 => 9 | 28 => 148 | 24 => 43 | 0 => 0 | 3 => 3 | 37 => 158 | 48 => 187 | 50 => 189 | 4 => 4 | 40 => 180 | 39 => 179 | 45 => 104 | 5 => 5 | 9 => 9 | 51 => 190 | 55 => 194 | 57 => 196 | 58 => 197 | 33 => 165 | n => n, fun | n => n⟩
theorem sorted39 : Go.Proofs.SlLaysZ.n6 Tryz.prog sorted39_ren := {
 mixed := by kernel_rfl
 f6 := ⟨Tryz.f123.name, by decide, Tryz.func123.trans (congrArg some (by kernel_rfl))⟩
 f8 := ⟨Tryz.f148.name, by decide, Tryz.func148.trans (congrArg some (by kernel_rfl))⟩
 f11 := ⟨Tryz.f162.name, by decide, Tryz.func162.trans (congrArg some (by kernel_rfl))⟩
 t0 := Tryz.underlying0
 a0 := Tryz.isAgg0
 z0 := Tryz.sizeOf0
 v0 := Tryz.zeroValue0
 t24 := Tryz.underlying43
 a24 := Tryz.isAgg43
 z24 := Tryz.sizeOf43
 v24 := Tryz.zeroValue43
 t26 := Tryz.underlying9
 a26 := Tryz.isAgg9
 z26 := Tryz.sizeOf9
 v26 := Tryz.zeroValue9
 t28 := Tryz.underlying148
 a28 := Tryz.isAgg148
 z28 := Tryz.sizeOf148
 v28 := Tryz.zeroValue148
 i26 := by kernel_rfl }
def sort54_ren : Go.Shelf.Ren := ⟨fun | 6 => 149 | 8 => 164 | 9 => 163 | 19 => 176 | 20 => 177 | 21 => 167 | 22 => 168 | 23 => 169 | 24 => 170 | 25 => 171 | 26 => 172 | 27 => 173 | 28 => 174 | 29 => 175 | 36 => 178 | 31 => 179 | 32 => 180 | 37 => 181 | 38 => 182 | 39 => 183 | 41 => 184 | n => n, fun | 27 => 43 | 29 => 9 | 3 => 3 | 32 => 158 | 26 => 43 | 0 => 0 | 44 => 187 | 46 => 189 | 4 => 4 | 36 => 180 | 35 => 179 | 41 => 104 | 5 => 5 | 9 => 9 | 53 => 190 | 57 => 194 | 63 => 196 | 64 => 197 | n => n, fun | n => n⟩
theorem sort54 : Go.Proofs.SlLaysM.n6 Tryz.prog sort54_ren := {
 mixed := by kernel_rfl
 f6 := ⟨Tryz.f149.name, by decide, Tryz.func149.trans (congrArg some (by kernel_rfl))⟩
 f8 := Tryz.func164.trans (congrArg some (by kernel_rfl))
 f9 := ⟨Tryz.f163.name, by decide, Tryz.func163.trans (congrArg some (by kernel_rfl))⟩
 f19 := Tryz.func176.trans (congrArg some (by kernel_rfl))
 f20 := Tryz.func177.trans (congrArg some (by kernel_rfl))
 f21 := ⟨Tryz.f167.name, by decide, Tryz.func167.trans (congrArg some (by kernel_rfl))⟩
 f22 := ⟨Tryz.f168.name, by decide, Tryz.func168.trans (congrArg some (by kernel_rfl))⟩
 f23 := ⟨Tryz.f169.name, by decide, Tryz.func169.trans (congrArg some (by kernel_rfl))⟩
 f24 := ⟨Tryz.f170.name, by decide, Tryz.func170.trans (congrArg some (by kernel_rfl))⟩
 f25 := ⟨Tryz.f171.name, by decide, Tryz.func171.trans (congrArg some (by kernel_rfl))⟩
 f26 := ⟨Tryz.f172.name, by decide, Tryz.func172.trans (congrArg some (by kernel_rfl))⟩
 f27 := ⟨Tryz.f173.name, by decide, Tryz.func173.trans (congrArg some (by kernel_rfl))⟩
 f28 := ⟨Tryz.f174.name, by decide, Tryz.func174.trans (congrArg some (by kernel_rfl))⟩
 f29 := ⟨Tryz.f175.name, by decide, Tryz.func175.trans (congrArg some (by kernel_rfl))⟩
 f31 := Tryz.func179.trans (congrArg some (by kernel_rfl))
 f32 := Tryz.func180.trans (congrArg some (by kernel_rfl))
 f36 := ⟨Tryz.f178.name, by decide, Tryz.func178.trans (congrArg some (by kernel_rfl))⟩
 f37 := ⟨Tryz.f181.name, by decide, Tryz.func181.trans (congrArg some (by kernel_rfl))⟩
 f38 := ⟨Tryz.f182.name, by decide, Tryz.func182.trans (congrArg some (by kernel_rfl))⟩
 f39 := ⟨Tryz.f183.name, by decide, Tryz.func183.trans (congrArg some (by kernel_rfl))⟩
 f41 := ⟨Tryz.f184.name, by decide, Tryz.func184.trans (congrArg some (by kernel_rfl))⟩
 t0 := Tryz.underlying0
 a0 := Tryz.isAgg0
 z0 := Tryz.sizeOf0
 v0 := Tryz.zeroValue0
 t3 := Tryz.underlying3
 a3 := Tryz.isAgg3
 z3 := Tryz.sizeOf3
 v3 := Tryz.zeroValue3
 t4 := Tryz.underlying4
 a4 := Tryz.isAgg4
 z4 := Tryz.sizeOf4
 v4 := Tryz.zeroValue4
 t5 := Tryz.underlying5
 a5 := Tryz.isAgg5
 z5 := Tryz.sizeOf5
 v5 := Tryz.zeroValue5
 t9 := Tryz.underlying9
 a9 := Tryz.isAgg9
 z9 := Tryz.sizeOf9
 v9 := Tryz.zeroValue9
 t26 := Tryz.underlying43
 a26 := Tryz.isAgg43
 z26 := Tryz.sizeOf43
 v26 := Tryz.zeroValue43
 t27 := Tryz.underlying43
 a27 := Tryz.isAgg43
 z27 := Tryz.sizeOf43
 v27 := Tryz.zeroValue43
 t29 := Tryz.underlying9
 a29 := Tryz.isAgg9
 z29 := Tryz.sizeOf9
 v29 := Tryz.zeroValue9
 t32 := Tryz.underlying158
 a32 := Tryz.isAgg158
 z32 := Tryz.sizeOf158
 v32 := Tryz.zeroValue158
 t35 := Tryz.underlying179
 a35 := Tryz.isAgg179
 z35 := Tryz.sizeOf179
 v35 := Tryz.zeroValue179
 t36 := Tryz.underlying180
 a36 := Tryz.isAgg180
 z36 := Tryz.sizeOf180
 v36 := Tryz.zeroValue180
 t41 := Tryz.underlying104
 a41 := Tryz.isAgg104
 z41 := Tryz.sizeOf104
 v41 := Tryz.zeroValue104
 t44 := Tryz.underlying187
 a44 := Tryz.isAgg187
 z44 := Tryz.sizeOf187
 v44 := Tryz.zeroValue187
 t46 := Tryz.underlying189
 a46 := Tryz.isAgg189
 z46 := Tryz.sizeOf189
 v46 := Tryz.zeroValue189
 t53 := Tryz.underlying190
 a53 := Tryz.isAgg190
 z53 := Tryz.sizeOf190
 v53 := Tryz.zeroValue190
 t57 := Tryz.underlying194
 a57 := Tryz.isAgg194
 z57 := Tryz.sizeOf194
 v57 := Tryz.zeroValue194
 t63 := Tryz.underlying196
 a63 := Tryz.isAgg196
 z63 := Tryz.sizeOf196
 v63 := Tryz.zeroValue196
 t64 := Tryz.underlying197
 a64 := Tryz.isAgg197
 z64 := Tryz.sizeOf197
 v64 := Tryz.zeroValue197 }
theorem sorts39 (m : Nat) : AnyZ.SortsIn Tryz.prog sorted39_ren Fence.wide m :=
  ⟨fun blk off cap ss W hH hblk hsz => callsIn_wide.2 (AnyM.slices_Sort_string sort54 blk off cap ss W hH hblk hsz),
   fun p cap W => callsIn_wide.2 (AnyM.slices_Sort_string_none sort54 p cap W)⟩
theorem maps_Keys_40 (mb : Option Nat) (W : World) : CallsIn Fence.wide 5 Tryz.prog 219 #[.map mb] W fun e w' => e = .returned (.func (.func 220) #[] #[.pointer (some ⟨W.heap.size, 0, none⟩)]) ∧ w' = W.alloc (.cells #[.map mb] 218) :=
 AnyZ.keys_in keys40 Fence.wide 5 trivial rfl mb W
theorem slices_Sorted_keys_39_40 {H : Type} (b nn : Nat) (D0 : DataW H) (R : Value → Option (DataW H × List MemPlace)) (w : World) (hown : w.ownsMap Tryz.prog 9 R b nn D0) (hmax : Maps.size D0 ≤ maxLen) (hbytes : Maps.size D0 * 16 ≤ 140737488355328) :
  CallsIn Fence.wide 5 Tryz.prog 123 #[.func (.func 220) #[] #[.pointer (some ⟨w.heap.size, 0, none⟩)]] (w.alloc (.cells #[.map (some b)] 218)) fun e w' => ∃ (v : Value) (ss : List (List UInt8)), e = .returned v ∧ ss.Perm (strKeys D0) ∧
   w'.ownsRow (w.alloc (.cells #[.map (some b)] 218)).heap.size 9 1 v ss.length ((ss.mergeSort (fun x y => decide (x ≤ y))).map encStr) ∧ (v = .slice none 0 0 ↔ ss = []) ∧ Below (w.alloc (.cells #[.map (some b)] 218)).heap.size (w.alloc (.cells #[.map (some b)] 218)) w' := by
 have hbl := hown.lt
 have hseq : SeqGives Fence.wide 2 Tryz.prog 220 #[.pointer (some ⟨w.heap.size, 0, none⟩)] encStr (fun ss => ss.Perm (strKeys D0)) (Maps.size D0) (w.alloc (.cells #[.map (some b)] 218)) :=
  AnyZ.keys_gives (ρ := keys40_ren) { keys40 with } Fence.wide _ trivial rfl (by omega) w.heap.size b nn D0 _ (by simp) (by simp) (by
   obtain ⟨es, clock, hb, Ft, hs, hD⟩ := hown
   exact ⟨es, clock, (Below.heap_alloc _ _ b hbl).trans hb, Ft, hs, hD⟩)
 exact AnyZ.sorted_in sorted39 Fence.wide 5 trivial trivial trivial trivial rfl (by omega) (sorts39 _) (enters_of Tryz.func149 (by kernel_rfl) rfl) 220 #[.pointer (some ⟨w.heap.size, 0, none⟩)] trivial (enters_of Tryz.func220 (by kernel_rfl) rfl) _ _ hmax hbytes _ hseq
end Go.Proofs.YtjbbmcommnhgeaaGreat.Rg
