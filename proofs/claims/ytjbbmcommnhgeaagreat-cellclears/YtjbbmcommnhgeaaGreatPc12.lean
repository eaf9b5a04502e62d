import Derived.Test.YtjbbmcommnhgeaaGreatPc11
import Derived.Shelf.Spec.SlicesInsertGrow
set_option maxRecDepth 100000
set_option maxHeartbeats 8000000
namespace Go.Proofs.YtjbbmcommnhgeaaGreat.Ct
open Go.RowKit
def InPost (B : Nat) (n : Nat) (xs : List Value) (w : World) (e : Ending) (w' : World) : Prop := ∃ u, e = .returned u ∧ w'.ownsRow B 71 4 u n xs ∧ Below B w w'
theorem insert_end (B : Nat) (p : Option Addr) (n c : Nat) (xs : List Value) (vb : Nat) (x : A) (w : World) (hown : w.ownsRow B 71 4 (.slice p n c) n xs) (hn : n ≤ 100) (hB : B ≤ w.heap.size) (R : Rw w vb 71 x.cells.toArray) :
  Calls Tryz.prog 75 #[.slice p n c, .int .i64 n, .slice (some ⟨vb, 0, none⟩) 1 1] w (InPost B (n + 1) (xs ++ x.cells) w) := by
 obtain ⟨i0, hi, hz0, hz1, hz2⟩ := info_parts info71
 have hc1 : ∀ j u, x.cells[j]? = some u → w.cell? ((⟨vb, 0, none⟩ : Addr).add j) = some u := fun j u hu => by
  rw [Addr.add_mid]
  exact Rw.whole R j u hu
 have HC : Hid (∀ j u, x.cells[j]? = some u → w.cell? ((⟨vb, 0, none⟩ : Addr).add j) = some u) := hc1
 have hnc : (n : Int) ≤ (c : Int) := by
  rcases hown.2 with ⟨h, h0⟩ | ⟨g, cap, cur, h, _, _, h2, _⟩
  ·simp only [Value.slice.injEq] at h
   omega
  ·simp only [Value.slice.injEq] at h
   omega
 clear hc1 R
 have hm1 : n + 1 ≤ maxLen := by unfold maxLen; omega
 have hm2 : (n + 1) * 32 ≤ 140737488355328 := by omega
 have HL : Hid (∀ q, (Value.slice p n c).ownBlock = some q → B ≤ q) := fun q hq => (hown.lt q hq).1
 by_cases hcn : c = n
 all_goals
  go_enter Tryz.func75, Tryz.ntmps75
  go_wp2_with (first | (at_builtin; refine wpList_append_own _ rfl _ _ 22 rfl B 71 i0 (AV 0 0 0 0) 4 32 Tryz.underlying22 hi hz0 hz1 hz2 rfl (by decide) _ _ _ rfl hown ⟨vb, 0, none⟩ 1 1 x.cells rfl rfl HC.out x.one hm1 hm2 hB ?_))
  intro v2 w2 hown2 hg2 _
  go_wp2_with fail
  go_ret
  exact ⟨_, rfl, hown2, (Below.refl _ _).grown hg2 hB (fun q hq => HL.out q (by cases p <;> exact hq))⟩
theorem f52_extern (w : World) (vb g o lb cb k : Nat) (hne : vb ≠ g) {tA tB : TypeId} {c1 c2 : Array Value} (R : Rw w vb tA c1) (R2 : Rw w g tB c2) (hk : c2.size = k + 1) : (callFunc 108 #[.slice (some ⟨vb, 0, none⟩) 1 1, .slice (some ⟨g, o, none⟩) lb cb]).run Tryz.prog w = .ok (.value (.bool false)) w := by
 rw [run_callFunc_extern Tryz.func108 (by kernel_rfl) (by kernel_rfl) (by kernel_rfl) (e := Extern.SlicesOverlaps.overlaps #[22, 22] #[4]) (by kernel_rfl),
  Lib.run_overlaps_apart w 22 4 71 Tryz.underlying22 4 (fun w => by rfl) ⟨vb, 0, none⟩ ⟨g, o, none⟩ 1 1 lb cb hne tA tB c1.size c2.size (by unfold World.shape?; rw [show w.heap[vb]? = _ from R]) (by unfold World.shape?; rw [show w.heap[g]? = _ from R2]) (by omega) (R.frozen _) (R.frozen _)]
 rfl
def put4 (xs ys : List Value) (i : Nat) : List Value := xs.take (i * 4) ++ ys ++ xs.drop (i * 4)
theorem put4_length (xs ys : List Value) (i : Nat) : (put4 xs ys i).length = xs.length + ys.length := by
 simp [put4]
 omega
theorem shift_list (cur xs ys : List Value) (n i : Nat) (hi : i < n) (hl : xs.length = n * 4) (hy : ys.length = 4) (hc : (n + 1) * 4 ≤ cur.length) (ht : cur.take (n * 4) = xs) (c1 : List Value) (h1 : c1 = cur.take ((i + 1) * 4) ++ xs.drop (i * 4) ++ cur.drop ((i + 1) * 4 + (xs.drop (i * 4)).length)) :
  (c1.take (i * 4) ++ ys ++ c1.drop (i * 4 + ys.length)).take ((n + 1) * 4) = xs.take (i * 4) ++ ys ++ xs.drop (i * 4) := by
 have hk : (cur.take ((i + 1) * 4)).length = (i + 1) * 4 := by rw [List.length_take]; omega
 have e1 : c1.take (i * 4) = xs.take (i * 4) := by
  rw [h1, List.append_assoc, List.take_append_of_le_length (by omega), List.take_take, Nat.min_eq_left (by omega), ← ht, List.take_take, Nat.min_eq_left (by omega)]
 have e2 : c1.drop (i * 4 + ys.length) = xs.drop (i * 4) ++ cur.drop ((i + 1) * 4 + (xs.drop (i * 4)).length) := by
  rw [h1, List.append_assoc, List.drop_left' (by rw [hk, hy]; omega)]
 rw [e1, e2, ← List.append_assoc, List.take_left']
 simp only [List.length_append, List.length_take, List.length_drop, hy, hl]
 omega
theorem insert_shift (B g n c i : Nat) (xs : List Value) (vb : Nat) (x : A) (w : World) (hown : w.ownsRow B 71 4 (.slice (some ⟨g, 0, none⟩) n c) n xs) (hi : i < n) (hc : n + 1 ≤ c) (hn : n ≤ 100) (hvb : vb ≠ g) (h1 : ∀ u ∈ xs, u.oneCell' = true) (R : Rw w vb 71 x.cells.toArray) :
  Calls Tryz.prog 75 #[.slice (some ⟨g, 0, none⟩) n c, .int .i64 i, .slice (some ⟨vb, 0, none⟩) 1 1] w (InPost B (n + 1) (put4 xs x.cells i) w) := by
 obtain ⟨hxl, ⟨h0, _⟩ | ⟨g', cap, cur, h0, hBg, hg, hnc, hcm, hcs, htake⟩⟩ := hown
 ·simp at h0
 simp only [Value.slice.injEq, Option.some.injEq, Addr.mk.injEq, and_true, true_and] at h0
 obtain ⟨rfl, rfl⟩ := h0
 have hov : ∀ lb cb, (callFunc 108 #[.slice (some ⟨vb, 0, none⟩) 1 1, .slice (some ⟨g, (i + 1) * 4, none⟩) lb cb]).run Tryz.prog w = .ok (.value (.bool false)) w := fun lb cb => f52_extern w vb g _ lb cb (cur.size - 1) hvb R hg (by omega)
 have hsrc : ∀ j v, (xs.drop (i * 4))[j]? = some v → w.drew.cell? ((⟨g, i * 4, none⟩ : Addr).add j) = some v := fun j v hv => by
  rw [Addr.add_mid]
  show w.cell? _ = _
  rw [cell_of_row w g _ cur 71 (0, 0) hg]
  rw [List.getElem?_drop] at hv
  have hlt := (List.getElem?_eq_some_iff.1 hv).1
  rw [← htake, List.getElem?_take, if_pos (by omega)] at hv
  simpa using hv
 have hcp1 : ∀ ty dc sc, (Builtin.copy_ #[22, 22] ty #[.slice (some ⟨g, (i + 1) * 4, none⟩) (n - i) dc, .slice (some ⟨g, i * 4, none⟩) (n + 1 - i) sc]).run Tryz.prog w.drew = .ok (goInt ((n - i : Nat) : Int)) (w.drew.setRow g (cur.toList.take ((i + 1) * 4) ++ xs.drop (i * 4) ++ cur.toList.drop ((i + 1) * 4 + (xs.drop (i * 4)).length)).toArray) := fun ty dc sc =>
  run_copy_rowS w.drew 22 22 ty 71 g ((i + 1) * 4) (n - i) dc ⟨g, i * 4, none⟩ (n + 1 - i) sc cur 71 (xs.drop (i * 4)) 4 (n - i) Tryz.underlying22 size71 hg (by simp only [Nat.min_def]; split <;> omega) (by rw [List.length_drop]; omega) hsrc (by rw [List.length_drop]; omega) (fun v hv => h1 v (List.mem_of_mem_drop hv))
 obtain ⟨cur1, HC1⟩ := hid_ex (cur.toList.take ((i + 1) * 4) ++ xs.drop (i * 4) ++ cur.toList.drop ((i + 1) * 4 + (xs.drop (i * 4)).length)).toArray
 have hl1 : cur1.size = cur.size := by
  rw [← HC1.out]
  simp
  omega
 rw [HC1.out] at hcp1
 have hg1 : (w.drew.setRow g cur1).heap[g]? = some (.cells cur1 71 (0, 0)) := setRow_heap w.drew g cur cur1 71 (0, 0) hg
 have hsrc2 : ∀ j v, x.cells[j]? = some v → (w.drew.setRow g cur1).cell? ((⟨vb, 0, none⟩ : Addr).add j) = some v := fun j v hv => by
  rw [Addr.add_mid, World.cell?_of_block (w := w) (setRow_other w.drew g vb cur1 hvb)]
  exact Rw.whole R j v hv
 have hcp2 : ∀ (W : World), W.heap = (w.drew.setRow g cur1).heap → ∀ ty dc, (Builtin.copy_ #[22, 22] ty #[.slice (some ⟨g, i * 4, none⟩) (n + 1 - i) dc, .slice (some ⟨vb, 0, none⟩) 1 1]).run Tryz.prog W = .ok (goInt 1) (W.setRow g (cur1.toList.take (i * 4) ++ x.cells ++ cur1.toList.drop (i * 4 + x.cells.length)).toArray) := fun W hW ty dc =>
  run_copy_rowS W 22 22 ty 71 g (i * 4) (n + 1 - i) dc ⟨vb, 0, none⟩ 1 1 cur1 71 x.cells 4 1 Tryz.underlying22 size71 (by rw [hW]; exact hg1) (by simp only [Nat.min_def]; split <;> omega) rfl (fun j v hv => by rw [World.cell?_of_block (w := w.drew.setRow g cur1) (by rw [hW])]; exact hsrc2 j v hv) (by rw [A.len]; omega) x.one
 have hw1 : IntKind.i64.wrap ((i : Int) + 1) = (i : Int) + 1 := by rw [IntKind.wrap_i64]; omega
 have hz2 : ¬ ((i : Int) = (n : Int)) := by omega
 have hb1 : (0 : Int) ≤ (i : Int) + 1 := by omega
 have htn : ((i : Int) + 1).toNat = i + 1 := by omega
 have hb2 : ¬ (c = i + 1) := by omega
 have hb3 : (i : Int) ≤ (n : Int) + 1 := by omega
 have hb4 : ¬ (c = i) := by omega
 have hin : i ≤ n := by omega
 have mixed : Tryz.prog.follows .mixedOrders = true := by kernel_rfl
 go_enter Tryz.func75, Tryz.ntmps75
 go_wp2_with (simp only [hov])
 go_region_law_o (refine step_copy_runI rfl _ _ 22 22 rfl _ _ (by simp [Act.eval, Act.put]) (by simp [Act.eval, Act.put]) (hcp1 _ _ _) ?_)
 go_wp2_with (at_builtin; refine wpList_copy_runI _ rfl _ _ 22 22 rfl _ _ rfl rfl (hcp2 _ rfl _ _) ?_)
 go_ret
 refine ⟨_, rfl, ⟨?_, .inr ⟨g, c, _, rfl, hBg, setRow_heap _ g cur1 _ 71 (0, 0) hg1, hc, hcm, ?_, ?_⟩⟩, below_setRow (below_setRow (Below.refl B w).drew hBg _) hBg _⟩
 ·rw [put4_length, hxl, A.len]
  omega
 ·simp only [List.size_toArray, List.length_append, List.length_take, List.length_cons, List.length_drop, Array.length_toList]
  omega
 ·have := shift_list cur.toList xs x.cells n i hi hxl rfl (by rw [Array.length_toList]; omega) htake cur1.toList (by rw [← HC1.out])
  rw [List.append_assoc] at this
  exact this
theorem grow_list (xs ys z1 z2 : List Value) (n i : Nat) (hi : i < n) (hl : xs.length = n * 4) (hy : ys.length = 4) (hz : z1.length = (n + 1 - i) * 4) (r1 r2 : List Value) (h1 : r1 = (xs.take (i * 4) ++ z1 ++ z2).take (i * 4) ++ ys ++ (xs.take (i * 4) ++ z1 ++ z2).drop (i * 4 + ys.length))
  (h2 : r2 = r1.take ((i + 1) * 4) ++ xs.drop (i * 4) ++ r1.drop ((i + 1) * 4 + (xs.drop (i * 4)).length)) : r2.take ((n + 1) * 4) = xs.take (i * 4) ++ ys ++ xs.drop (i * 4) ∧ r2.length = xs.length + 4 + z2.length := by
 have hk : (xs.take (i * 4)).length = i * 4 := by rw [List.length_take]; omega
 have e1 : (xs.take (i * 4) ++ z1 ++ z2).take (i * 4) = xs.take (i * 4) := by
  rw [List.append_assoc, List.take_left' hk]
 have e2 : r1.take ((i + 1) * 4) = xs.take (i * 4) ++ ys := by
  rw [h1, e1, List.take_left' (by rw [List.length_append, hk, hy]; omega)]
 refine ⟨?_, ?_⟩
 ·rw [h2, e2, List.take_left']
  simp only [List.length_append, List.length_take, List.length_drop, hy, hl]
  omega
 ·rw [h2, e2, h1, e1]
  simp only [List.length_append, List.length_take, List.length_drop, hy, hl, hz]
  omega
theorem insert_grow (B g n c i : Nat) (xs : List Value) (vb : Nat) (x : A) (w : World) (hown : w.ownsRow B 71 4 (.slice (some ⟨g, 0, none⟩) n c) n xs) (hi : i < n) (hc : c < n + 1) (hn : n ≤ 100) (h1 : ∀ u ∈ xs, u.oneCell' = true) (hB : B ≤ w.heap.size) (R : Rw w vb 71 x.cells.toArray) :
  Calls Tryz.prog 75 #[.slice (some ⟨g, 0, none⟩) n c, .int .i64 i, .slice (some ⟨vb, 0, none⟩) 1 1] w (InPost B (n + 1) (put4 xs x.cells i) w) := by
 obtain ⟨i0, hi0, hz0, hz1, hz2⟩ := info_parts info71
 obtain ⟨hxl, ⟨h0, _⟩ | ⟨g', cap, cur, h0, hBg, hg, hnc, hcm, hcs, htake⟩⟩ := hown
 ·simp at h0
 simp only [Value.slice.injEq, Option.some.injEq, Addr.mk.injEq, and_true, true_and] at h0
 obtain ⟨rfl, rfl⟩ := h0
 have hcell : ∀ j v, xs[j]? = some v → w.cell? ⟨g, j, none⟩ = some v := fun j v hv => by
  rw [cell_of_row w g _ cur 71 (0, 0) hg]
  have hlt := (List.getElem?_eq_some_iff.1 hv).1
  rw [← htake, List.getElem?_take, if_pos (by omega)] at hv
  simpa using hv
 have hold : (Builtin.firstCells i0.size i (.slice (some ⟨g, 0, none⟩) i c)).run Tryz.prog w.drew = .ok (xs.take (i * 4)).toArray w.drew := by
  rw [hz1]
  exact run_firstCells_some w.drew 4 i ⟨g, 0, none⟩ i c (xs.take (i * 4)) (by rw [List.length_take]; omega) (fun j v hj => by
   rw [Addr.add_mid, Nat.zero_add]
   rw [List.getElem?_take] at hj
   split at hj
   ·exact hcell j v hj
   ·cases hj)
 have hrz : ∀ ty, (Builtin.append_ #[22, 3] ty #[.slice (some ⟨g, 0, none⟩) i c, .int .i64 ((n : Int) + 1 - (i : Int))]).run Tryz.prog w =
   .ok (.slice (some ⟨w.heap.size, 0, none⟩) (n + 1) (grownCap w (n + 1) c 71)) (w.drew.alloc (.cells ((xs.take (i * 4)).toArray ++ Builtin.zeroCells (AV 0 0 0 0).cells (n + 1 - i) ++ Builtin.zeroCells (AV 0 0 0 0).cells (grownCap w (n + 1) c 71 - (n + 1))) 71)) := fun ty => by
  have h := Lib.run_append_grow_zeros w 22 3 ty 71 i0 _ .i64 .i64 Tryz.underlying22 Tryz.underlying3 hi0 hz0 (some ⟨g, 0, none⟩) i c (xs.take (i * 4)) hold (n + 1 - i) (by omega) (by omega) (by omega) (by omega) (by rw [hz2]; omega) (by rw [hz2, show i + (n + 1 - i) = n + 1 by omega]; exact growslice_fits hc (by omega))
  rw [show i + (n + 1 - i) = n + 1 by omega] at h
  rw [show (n : Int) + 1 - (i : Int) = ((n + 1 - i : Nat) : Int) by omega]
  exact h
 obtain ⟨G, HG⟩ := hid_ex (grownCap w (n + 1) c 71)
 have hGn : n + 1 ≤ G := by rw [← HG.out]; exact grownCap_ge w _ _ _
 have hGm : G ≤ maxLen := by rw [← HG.out]; exact grownCap_le_maxLen w (n + 1) c 71 (by unfold maxLen; omega)
 have hG63 : G ≤ 9223372036854775807 := by unfold maxLen at hGm; omega
 rw [HG.out] at hrz
 obtain ⟨z1, hz1'⟩ : ∃ z1 : List Value, z1 = (Builtin.zeroCells (AV 0 0 0 0).cells (n + 1 - i)).toList := ⟨_, rfl⟩
 obtain ⟨z2, hz2'⟩ : ∃ z2 : List Value, z2 = (Builtin.zeroCells (AV 0 0 0 0).cells (G - (n + 1))).toList := ⟨_, rfl⟩
 have hzl1 : z1.length = (n + 1 - i) * 4 := by rw [hz1']; simp [Builtin.zeroCells, Value.cells]
 have hzl2 : z2.length = (G - (n + 1)) * 4 := by rw [hz2']; simp [Builtin.zeroCells, Value.cells]
 obtain ⟨row, hrow⟩ : ∃ row : Array Value, row = (xs.take (i * 4)).toArray ++ Builtin.zeroCells (AV 0 0 0 0).cells (n + 1 - i) ++ Builtin.zeroCells (AV 0 0 0 0).cells (G - (n + 1)) := ⟨_, rfl⟩
 rw [← hrow] at hrz
 have hrl : row.toList = xs.take (i * 4) ++ z1 ++ z2 := by rw [hrow, hz1', hz2']; simp
 have hrs : row.size = G * 4 := by
  rw [← Array.length_toList, hrl]
  simp only [List.length_append, List.length_take, hzl1, hzl2]
  omega
 clear hrow hz1' hz2'
 have hgw : g < w.heap.size := (Array.getElem?_eq_some_iff.1 hg).1
 have hvw : vb < w.heap.size := R.lt
 have hsrcA : ∀ j v, x.cells[j]? = some v → (w.drew.alloc (.cells row 71)).cell? ((⟨vb, 0, none⟩ : Addr).add j) = some v := fun j v hv => by
  rw [Addr.add_mid, World.cell?_of_block (w := w) (Below.heap_alloc w.drew _ vb hvw)]
  exact Rw.whole R j v hv
 have hgN : (w.drew.alloc (.cells row 71)).heap[w.heap.size]? = some (.cells row 71 (0, 0)) := heap_alloc_last w.drew _
 have hcpA : ∀ (W : World), W.heap = (w.drew.alloc (.cells row 71)).heap → ∀ ty dc, (Builtin.copy_ #[22, 22] ty #[.slice (some ⟨w.heap.size, i * 4, none⟩) (n + 1 - i) dc, .slice (some ⟨vb, 0, none⟩) 1 1]).run Tryz.prog W = .ok (goInt 1) (W.setRow w.heap.size (row.toList.take (i * 4) ++ x.cells ++ row.toList.drop (i * 4 + x.cells.length)).toArray) := fun W hW ty dc =>
  run_copy_rowS W 22 22 ty 71 w.heap.size (i * 4) (n + 1 - i) dc ⟨vb, 0, none⟩ 1 1 row 71 x.cells 4 1 Tryz.underlying22 size71 (by rw [hW]; exact hgN) (by simp only [Nat.min_def]; split <;> omega) rfl (fun j v hv => by rw [World.cell?_of_block (w := w.drew.alloc (.cells row 71)) (by rw [hW])]; exact hsrcA j v hv) (by rw [A.len]; omega) x.one
 obtain ⟨r1, HR1⟩ := hid_ex (row.toList.take (i * 4) ++ x.cells ++ row.toList.drop (i * 4 + x.cells.length)).toArray
 rw [HR1.out] at hcpA
 have hr1s : r1.size = G * 4 := by
  rw [← HR1.out]
  simp only [List.size_toArray, List.length_append, List.length_take, List.length_drop, Array.length_toList, A.len, hrs]
  omega
 have hg1 : ((w.drew.alloc (.cells row 71)).setRow w.heap.size r1).heap[w.heap.size]? = some (.cells r1 71 (0, 0)) := setRow_heap _ _ row r1 71 (0, 0) hgN
 have hsrcB : ∀ j v, (xs.drop (i * 4))[j]? = some v → ((w.drew.alloc (.cells row 71)).setRow w.heap.size r1).cell? ((⟨g, i * 4, none⟩ : Addr).add j) = some v := fun j v hv => by
  rw [Addr.add_mid, World.cell?_of_block (w := w) ((setRow_other _ w.heap.size g r1 (by omega)).trans (Below.heap_alloc w.drew _ g hgw))]
  rw [List.getElem?_drop] at hv
  exact hcell _ v hv
 have hcpB : ∀ (W : World), W.heap = ((w.drew.alloc (.cells row 71)).setRow w.heap.size r1).heap → ∀ ty dc sc, (Builtin.copy_ #[22, 22] ty #[.slice (some ⟨w.heap.size, (i + 1) * 4, none⟩) (n - i) dc, .slice (some ⟨g, i * 4, none⟩) (n - i) sc]).run Tryz.prog W = .ok (goInt ((n - i : Nat) : Int)) (W.setRow w.heap.size (r1.toList.take ((i + 1) * 4) ++ xs.drop (i * 4) ++ r1.toList.drop ((i + 1) * 4 + (xs.drop (i * 4)).length)).toArray) := fun W hW ty dc sc =>
  run_copy_rowS W 22 22 ty 71 w.heap.size ((i + 1) * 4) (n - i) dc ⟨g, i * 4, none⟩ (n - i) sc r1 71 (xs.drop (i * 4)) 4 (n - i) Tryz.underlying22 size71 (by rw [hW]; exact hg1) (Nat.min_self _) (by rw [List.length_drop]; omega) (fun j v hv => by rw [World.cell?_of_block (w := (w.drew.alloc (.cells row 71)).setRow w.heap.size r1) (by rw [hW])]; exact hsrcB j v hv) (by rw [List.length_drop]; omega) (fun v hv => h1 v (List.mem_of_mem_drop hv))
 obtain ⟨r2, HR2⟩ := hid_ex (r1.toList.take ((i + 1) * 4) ++ xs.drop (i * 4) ++ r1.toList.drop ((i + 1) * 4 + (xs.drop (i * 4)).length)).toArray
 rw [HR2.out] at hcpB
 have hfin := grow_list xs x.cells z1 z2 n i hi hxl rfl hzl1 r1.toList r2.toList (by rw [← HR1.out, hrl]) (by rw [← HR2.out])
 have HFI : Hid (r2.toList.take ((n + 1) * 4) = put4 xs x.cells i ∧ r2.size = G * 4) := ⟨hfin.1, by rw [← Array.length_toList, hfin.2]; omega⟩
 have hg2 : (((w.drew.alloc (.cells row 71)).setRow w.heap.size r1).setRow w.heap.size r2).heap[w.heap.size]? = some (.cells r2 71 (0, 0)) := setRow_heap _ _ r1 r2 71 (0, 0) hg1
 have hw1 : IntKind.i64.wrap ((i : Int) + 1) = (i : Int) + 1 := by rw [IntKind.wrap_i64]; omega
 have hz2i : ¬ ((i : Int) = (n : Int)) := by omega
 have hz3 : (c : Int) < (n : Int) + 1 := by omega
 have hb1 : (0 : Int) ≤ (i : Int) + 1 := by omega
 have htn : ((i : Int) + 1).toNat = i + 1 := by omega
 have hb3 : (i : Int) ≤ (n : Int) := by omega
 have hci : ¬ (c = i) := by omega
 have hGi : ¬ (G = i) := by omega
 have hGim : ¬ (G = i + 1) := by omega
 have hin : i ≤ n := by omega
 have mixed : Tryz.prog.follows .mixedOrders = true := by kernel_rfl
 clear hfin hold hrl hzl1 hzl2 hcell hsrcA hsrcB HR1 HR2
 have hA := hcpA (w.alloc (.cells row 71)).drew rfl 3 (G - i)
 go_enter Tryz.func75, Tryz.ntmps75
 go_wp2_with (first
  | (at_builtin; refine Lib.wpList_append_run _ rfl _ _ _ _ rfl _ _ rfl rfl _ _ (hrz _) ?_))
 go_region_law_o (refine step_copy_runI rfl _ _ 22 22 rfl (.slice (some ⟨w.heap.size, (i + 1) * 4, none⟩) (n - i) (G - (i + 1))) (.slice (some ⟨g, i * 4, none⟩) (n - i) (c - i)) (by simp [Act.eval, Act.put]) (by simp [Act.eval, Act.put]) (hcpB (((w.alloc (.cells row 71)).drew.setRow w.heap.size r1).drew) rfl 3 (G - (i + 1)) (c - i)) ?_)
 go_wp2
 go_ret
 refine ⟨_, rfl, ⟨?_, .inr ⟨w.heap.size, G, r2, rfl, hB, hg2, hGn, hGm, HFI.out.2, HFI.out.1⟩⟩, ?_⟩
 ·rw [put4_length, hxl, A.len]
  omega
 ·exact below_setRow (below_setRow ((Below.refl B w).alloc hB _).drew hB _).drew hB _
theorem put4_rows (l : List A) (x : A) (i : Nat) : put4 (rows A.cells l) x.cells i = rows A.cells (l.take i ++ x :: l.drop i) := by
 unfold put4
 rw [rows_append, rows_cons, rows_take A.len, rows_drop A.len, List.append_assoc]
theorem insert_any (B : Nat) (v : Value) (l : List A) (i : Nat) (vb : Nat) (x : A) (w : World) (hown : w.ownsRow B 71 4 v l.length (rows A.cells l)) (hi : i ≤ l.length) (hn : l.length ≤ 100) (hB : B ≤ w.heap.size) (R : Rw w vb 71 x.cells.toArray) (hvb : ∀ k, v.ownBlock = some k → vb ≠ k) :
  Calls Tryz.prog 75 #[v, .int .i64 i, .slice (some ⟨vb, 0, none⟩) 1 1] w (InPost B (l.length + 1) (rows A.cells (l.take i ++ x :: l.drop i)) w) := by
 rw [← put4_rows]
 obtain ⟨p, c, rfl⟩ := own_sl hown
 rcases Nat.lt_or_ge i l.length with h | h
 ·obtain ⟨g, rfl, hg⟩ := own_some hown (by omega)
  rcases Nat.lt_or_ge c (l.length + 1) with hc | hc
  ·exact insert_grow B g _ c i _ vb x w hown h hc hn (rows_all A.one l) hB R
  ·exact insert_shift B g _ c i _ vb x w hown h hc hn (hvb g rfl) (rows_all A.one l) R
 ·obtain rfl : i = l.length := by omega
  have := insert_end B p l.length c _ vb x w hown hn hB R
  rw [show put4 (rows A.cells l) x.cells l.length = rows A.cells l ++ x.cells by unfold put4; rw [List.take_of_length_le (by rw [rows_length A.len]; omega), List.drop_of_length_le (by rw [rows_length A.len]; omega), List.append_nil]]
  exact this
theorem lt_iff (x y : A) : lt x y = true ↔ x.p < y.p ∨ (x.p = y.p ∧ (x.s < y.s ∨ (x.s = y.s ∧ x.i < y.i))) := by simp [lt, ls]
theorem lt_trans {x y z : A} (h : lt x y = true) (k : lt y z = true) : lt x z = true := by
 rw [lt_iff] at *
 omega
def mk (x y : A) : Bool := decide (x.p = y.p) && decide (x.s = y.s) && decide (x.i = y.i)
theorem mk_iff (x y : A) : mk x y = true ↔ x.p = y.p ∧ x.s = y.s ∧ x.i = y.i := by simp [mk, and_assoc]
theorem lt_total {x y : A} (h : lt x y = false) (k : mk x y = false) : lt y x = true := by
 rw [lt_iff]
 have h1 : ¬ _ := fun e => by rw [(lt_iff x y).2 e] at h; cases h
 have h2 : ¬ _ := fun e => by rw [(mk_iff x y).2 e] at k; cases k
 omega
theorem mk_lt {x y : A} (h : mk x y = true) : lt x y = false := by
 cases k : lt x y
 ·rfl
 ·rw [mk_iff] at h
  rw [lt_iff] at k
  omega
theorem lt_of_not {x y z : A} (h : lt x z = true) (k : lt y z = false) : lt x y = true := by
 have k1 : ¬ _ := fun e => by rw [(lt_iff y z).2 e] at k; cases k
 rw [lt_iff] at *
 omega
theorem ca_pair (l : List A) : ca l = true ↔ (∀ y ∈ l, ia y.i y.n = true) ∧ l.Pairwise (fun a b => lt a b = true) := by
 rw [ca_iff]
 constructor
 ·intro h
  refine ⟨fun y hy => ?_, ?_⟩
  ·obtain ⟨k, hk, rfl⟩ := List.getElem_of_mem hy
   have := h k hk
   unfold okk at this
   exact (Bool.and_eq_true _ _ ▸ this).1
  ·rw [List.pairwise_iff_getElem]
   intro i j hi hj hij
   obtain ⟨d, rfl⟩ : ∃ d, j = i + 1 + d := ⟨j - (i + 1), by omega⟩
   clear hij
   have step : ∀ k (hk : k + 1 < l.length), lt l[k] l[k + 1] = true := fun k hk => by
    have := h (k + 1) hk
    unfold okk at this
    simpa using (Bool.and_eq_true _ _ ▸ this).2
   induction d with
   | zero => exact step i hj
   | succ d ih => exact lt_trans (ih (by omega) step) (step (i + 1 + d) (by omega))
 ·rintro ⟨h1, h2⟩ k hk
  unfold okk
  rw [h1 _ (List.getElem_mem _), Bool.true_and]
  rcases Nat.eq_zero_or_pos k with rfl | hp
  ·rfl
  ·rw [List.pairwise_iff_getElem] at h2
   simp [h2 (k - 1) k (by omega) hk (by omega)]
theorem ca_filter {l : List A} (h : ca l = true) (f : A → Bool) : ca (l.filter f) = true := by
 rw [ca_pair] at *
 exact ⟨fun y hy => h.1 y (List.mem_filter.1 hy).1, h.2.filter f⟩
def insF (x : A) (l : List A) : List A := l.filter (fun y => lt y x) ++ x :: l.filter (fun y => !lt y x)
def has (x : A) (l : List A) : Bool := l.any (fun y => mk y x)
theorem has_false {x : A} {l : List A} : has x l = false ↔ ∀ y ∈ l, mk y x = false := by
 unfold has
 rw [List.any_eq_false]
 exact ⟨fun h y hy => by simpa using h y hy, fun h y hy => by simpa using h y hy⟩
theorem insF_length (x : A) (l : List A) : (insF x l).length = l.length + 1 := by
 unfold insF
 rw [List.length_append, List.length_cons]
 induction l with
 | nil => rfl
 | cons y l ih =>
  rw [List.filter_cons, List.filter_cons]
  cases lt y x
  ·simp
   omega
  ·simp
   omega
theorem insF_ca {x : A} {l : List A} (h : ca l = true) (hi : ia x.i x.n = true) (hn : has x l = false) : ca (insF x l) = true := by
 rw [has_false] at hn
 rw [ca_pair] at *
 obtain ⟨h1, h2⟩ := h
 refine ⟨fun y hy => ?_, ?_⟩
 ·unfold insF at hy
  rcases List.mem_append.1 hy with h | h
  ·exact h1 y (List.mem_filter.1 h).1
  ·rcases List.mem_cons.1 h with rfl | h
   ·exact hi
   ·exact h1 y (List.mem_filter.1 h).1
 ·unfold insF
  rw [List.pairwise_append]
  refine ⟨h2.filter _, ?_, ?_⟩
  ·rw [List.pairwise_cons]
   refine ⟨fun y hy => ?_, h2.filter _⟩
   obtain ⟨hy1, hy2⟩ := List.mem_filter.1 hy
   exact lt_total (by simpa using hy2) (hn y hy1)
  ·intro y hy z hz
   obtain ⟨hy1, hy2⟩ := List.mem_filter.1 hy
   rcases List.mem_cons.1 hz with rfl | hz
   ·exact hy2
   ·obtain ⟨hz1, hz2⟩ := List.mem_filter.1 hz
    exact lt_of_not hy2 (by simpa using hz2)
theorem insF_at {x : A} {l : List A} {k : Nat} (h1 : ∀ j (h : j < l.length), j < k → lt l[j] x = true) (h2 : ∀ j (h : j < l.length), k ≤ j → lt l[j] x = false) : l.take k ++ x :: l.drop k = insF x l := by
 have e1 : l.filter (fun y => lt y x) = l.take k := by
  conv => lhs; rw [← List.take_append_drop k l]
  rw [List.filter_append, List.filter_eq_self.2, List.filter_eq_nil_iff.2, List.append_nil]
  ·intro y hy
   obtain ⟨j, hj, rfl⟩ := List.getElem_of_mem hy
   rw [List.getElem_drop, h2 _ _ (by omega)]
   simp
  ·intro y hy
   obtain ⟨j, hj, rfl⟩ := List.getElem_of_mem hy
   rw [List.length_take] at hj
   rw [List.getElem_take]
   exact h1 _ _ (by omega)
 have e2 : l.filter (fun y => !lt y x) = l.drop k := by
  conv => lhs; rw [← List.take_append_drop k l]
  rw [List.filter_append, List.filter_eq_nil_iff.2, List.filter_eq_self.2, List.nil_append]
  ·intro y hy
   obtain ⟨j, hj, rfl⟩ := List.getElem_of_mem hy
   rw [List.getElem_drop, h2 _ _ (by omega)]
   rfl
  ·intro y hy
   obtain ⟨j, hj, rfl⟩ := List.getElem_of_mem hy
   rw [List.length_take] at hj
   rw [List.getElem_take, h1 _ _ (by omega)]
   simp
 unfold insF
 rw [e1, e2]
structure Cap (w : World) (b1 b2 b3 : Nat) (v : Value) (x : A) : Prop where
 f : w.cell? ⟨b1, 0, none⟩ = some (.func (.func 74) #[] #[])
 l : w.cell? ⟨b2, 0, none⟩ = some v
 m : Rw w b3 50 #[.int .i64 x.p, .int .i64 x.s, .int .i64 x.i]
theorem Cap.later {w w' : World} {b1 b2 b3 : Nat} {v : Value} {x : A} (h : Cap w b1 b2 b3 v x) (hb : Below w.heap.size w w') : Cap w' b1 b2 b3 v x := ⟨cell_later hb h.f, cell_later hb h.l, h.m.later hb⟩
theorem find1_any (k : Nat) (b1 b2 b3 : Nat) (v : Value) (l : List A) (x : A) (w : World) (h : AHas w v l) (hk : k < l.length) (hC : Cap w b1 b2 b3 v x) :
  Calls Tryz.prog 106 #[.int .i64 k, .pointer (some ⟨b1, 0, none⟩), .pointer (some ⟨b2, 0, none⟩), .pointer (some ⟨b3, 0, none⟩)] w (Tells (.bool (!lt l[k] x)) w) := by
 have hml := maxLen_lt h.1
 obtain ⟨p, c, rfl⟩ := h.slice
 obtain ⟨g, o, rfl, hd⟩ := h.at (by omega)
 have d := AHas.elem hd k hk
 obtain ⟨y, HY⟩ := hid_ex l[k]
 rw [HY.out] at d ⊢
 clear HY h hd
 have z42 : (Tryz.prog.info? 71).map (·.size) = some y.cells.length := size71
 have zm : (Tryz.prog.info? 50).map (·.size) = some [Value.int .i64 x.p, .int .i64 x.s, .int .i64 x.i].length := size50
 have C1 : ∀ w, Calls Tryz.prog 107 #[MV y.p y.s y.i, MV x.p x.s x.i] w (Tells (.bool (lt y x)) w) := fun w => less_any y.p y.s y.i x.p x.s x.i w
 generalize lt y x = z at C1 ⊢
 have hbel := Below.refl w.heap.size w
 have hk0 : (0 : Int) ≤ (k : Int) := by omega
 have hk1 : (k : Int) < (l.length : Int) := by omega
 go_enter Tryz.func106, Tryz.ntmps106
 go_wp2_with fail
 have hs : Calm.Stays (fun w' => Cap w' b1 b2 b3 (.slice (some ⟨g, o, none⟩) l.length c) x ∧ w'.rangeAt g (o + k * 4) y.cells ∧ Below w.heap.size w w') := fun wa wb h hb => ⟨h.1.later hb, range_later h.2.1 hb, below_on h.2.2 hb⟩
 refine Calm.region (by kernel_rfl) (by kernel_rfl) (fun w' => Cap w' b1 b2 b3 (.slice (some ⟨g, o, none⟩) l.length c) x ∧ w'.rangeAt g (o + k * 4) y.cells ∧ Below w.heap.size w w') ⟨⟨hC.f, hC.l, hC.m⟩, d, hbel.drew⟩ ?_
 all_goals refine Calm.cl (fun _ h => h.1.f) ?_
 all_goals refine Calm.cl (fun _ h => h.1.l) ?_
 iterate 2 (all_goals refine Calm.sp ?_)
 all_goals refine Calm.lm z42 (fun _ h => h.2.1) Tryz.underlying71 ?_
 all_goals refine Calm.kf1 hs (fun w1 h => markOf_any y.p y.s y.i y.n w1) ?_
 all_goals refine Calm.lm zm (fun _ h => Rw.whole h.1.m) Tryz.underlying50 ?_
 all_goals refine Calm.k2 hs (fun w1 h => C1 w1) ?_
 iterate 2 (all_goals refine Calm.sp ?_)
 all_goals
  rintro w9 ⟨_, _, hbel9⟩
 go_wp2_with fail
 go_ret
 exact ⟨rfl, hbel9⟩
theorem pair_at {l : List A} (h : l.Pairwise (fun a b => lt a b = true)) (i j : Nat) (hj : j < l.length) (hij : i < j) : lt (l[i]'(by omega)) l[j] = true := (List.pairwise_iff_getElem.1 h) i j (by omega) hj hij
def SePost (l : List A) (x : A) (w : World) (e : Ending) (w' : World) : Prop := ∃ k : Nat, e = .returned (.int .i64 k) ∧ k ≤ l.length ∧ (∀ j (h : j < l.length), j < k → lt l[j] x = true) ∧ (∀ j (h : j < l.length), k ≤ j → lt l[j] x = false) ∧ Below w.heap.size w w'
theorem search_any (b1 b2 b3 : Nat) (v : Value) (l : List A) (x : A) (w : World) (h : AHas w v l) (hl : l.length ≤ 100) (hp : l.Pairwise (fun a b => lt a b = true)) (hC : Cap w b1 b2 b3 v x) :
  Calls Tryz.prog 105 #[.int .i64 l.length, .func (.func 106) #[] #[.pointer (some ⟨b1, 0, none⟩), .pointer (some ⟨b2, 0, none⟩), .pointer (some ⟨b3, 0, none⟩)]] w (SePost l x w) := by
 have HA : Hid (AHas w v l) := h
 have HP : Hid (l.Pairwise (fun a b => lt a b = true)) := hp
 have HC : Hid (Cap w b1 b2 b3 v x) := hC
 clear h hp hC
 go_enter Tryz.func105, Tryz.ntmps105
 go_wp2
 go_loopw [5, 6] (fun vi vj wr => ∃ a b : Nat, vi = .int .i64 a ∧ vj = .int .i64 b ∧ a ≤ b ∧ b ≤ l.length ∧ Hid (∀ j (h : j < l.length), j < a → lt l[j] x = true) ∧ Hid (∀ j (h : j < l.length), b ≤ j → lt l[j] x = false) ∧ Below w.heap.size w wr) (fun vi vj _ => (intOf vj).toNat - (intOf vi).toNat)
 case atStart => exact ⟨0, l.length, rfl, rfl, by omega, by omega, (show ∀ j (_ : j < l.length), j < 0 → _ from fun j _ h => by omega), (show ∀ j (_ : j < l.length), l.length ≤ j → _ from fun j h h' => by omega), Below.refl _ _⟩
 case round =>
  obtain ⟨a, b, rfl, rfl, hab, hbl, HV, HW, hbel⟩ := hrel
  by_cases hlt : a < b
  ·have hlt' : (a : Int) < (b : Int) := by omega
   obtain ⟨m, hm⟩ : ∃ m : Nat, m = (a + b) / 2 := ⟨_, rfl⟩
   have hmi : ((a : Int) + (b : Int)) / 2 = (m : Int) := by omega
   have hm1 : a ≤ m := by omega
   have hm2 : m < b := by omega
   have hml : m < l.length := by omega
   have C1 := find1_any m b1 b2 b3 v l x wr (HA.out.later hbel) hml (HC.out.later hbel)
   obtain ⟨z, HZ⟩ := hid_ex (lt l[m] x)
   rw [HZ.out] at C1
   clear hm
   go_wp2_with (first | rw [hmi])
   refine C1.mono ?_
   clear C1
   rintro e w1 ⟨rfl, hb1⟩
   cases z
   ·have HW2 : Hid (∀ j (h : j < l.length), m ≤ j → lt l[j] x = false) := fun j h hj => by
     rcases Nat.lt_or_ge m j with h' | h'
     ·cases k : lt l[j] x
      ·rfl
      ·have := lt_trans (pair_at HP.out m j h h') k
       rw [HZ.out] at this
       cases this
     ·obtain rfl : j = m := by omega
      exact HZ.out
    go_wp2_with fail
    go_roundw
    case rel => exact ⟨a, m, rfl, rfl, by omega, by omega, HV, HW2, below_on hbel hb1⟩
    case measure => simp [intOf]; omega
   ·have HV2 : Hid (∀ j (h : j < l.length), j < m + 1 → lt l[j] x = true) := fun j h hj => by
     rcases Nat.lt_or_ge j m with h' | h'
     ·exact lt_trans (pair_at HP.out j m hml h') HZ.out
     ·obtain rfl : j = m := by omega
      exact HZ.out
    go_wp2_with fail
    go_roundw
    case rel => exact ⟨m + 1, b, by simp, rfl, by omega, by omega, HV2, HW, below_on hbel hb1⟩
    case measure => simp [intOf]; omega
  ·obtain rfl : a = b := by omega
   have hlt' : ¬ (a : Int) < (a : Int) := by omega
   clear HA HP HC
   go_wp2_with fail
   go_ret
   exact ⟨a, rfl, hbl, HV.out, HW.out, hbel⟩
def FdPost (l : List A) (x : A) (w : World) (e : Ending) (w' : World) : Prop := ∃ k : Nat, e = .returned (.tuple #[.int .i64 k, .bool (has x l)]) ∧ k ≤ l.length ∧ l.take k ++ x :: l.drop k = insF x l ∧ Below w.heap.size w w'
theorem has_at {x : A} {l : List A} {k : Nat} (hp : l.Pairwise (fun a b => lt a b = true)) (h1 : ∀ j (h : j < l.length), j < k → lt l[j] x = true) (h2 : ∀ j (h : j < l.length), k ≤ j → lt l[j] x = false) : has x l = (if h : k < l.length then mk l[k] x else false) := by
 split
 ·rename_i h
  cases e : mk l[k] x
  ·rw [has_false]
   intro y hy
   obtain ⟨j, hj, rfl⟩ := List.getElem_of_mem hy
   cases e2 : mk l[j] x
   ·rfl
   ·exfalso
    rcases Nat.lt_trichotomy j k with h' | h' | h'
    ·have := h1 j hj h'
     rw [mk_lt e2] at this
     cases this
    ·subst h'
     rw [e] at e2
     cases e2
    ·have a1 := pair_at hp k j hj h'
     have a2 := h2 k h (Nat.le_refl _)
     have a3 : lt l[k] x = true := by
      rw [lt_iff] at a1 ⊢
      rw [mk_iff] at e2
      omega
     rw [a3] at a2
     cases a2
  ·unfold has
   rw [List.any_eq_true]
   exact ⟨l[k], List.getElem_mem _, e⟩
 ·rename_i h
  rw [has_false]
  intro y hy
  obtain ⟨j, hj, rfl⟩ := List.getElem_of_mem hy
  have := h1 j hj (by omega)
  cases e2 : mk l[j] x
  ·rfl
  ·rw [mk_lt e2] at this
   cases this
theorem find_any (v : Value) (l : List A) (x : A) (w : World) (h : AHas w v l) (hl : l.length ≤ 100) (hp : l.Pairwise (fun a b => lt a b = true)) :
  Calls Tryz.prog 73 #[v, MV x.p x.s x.i, .func (.func 74) #[] #[]] w (FdPost l x w) := by
 obtain ⟨pa, ca', rfl⟩ := h.slice
 have hbel := bel_alloc (bel_alloc (bel_alloc (Below.refl w.heap.size w) (.cells #[.slice pa l.length ca'] 22)) (.cells #[.int .i64 x.p, .int .i64 x.s, .int .i64 x.i] 50)) (.cells #[.func (.func 74) #[] #[]] 106)
 have r1 := ((rw_new w 22 #[.slice pa l.length ca']).alloc (.cells #[.int .i64 x.p, .int .i64 x.s, .int .i64 x.i] 50)).alloc (.cells #[.func (.func 74) #[] #[]] 106)
 have r2 := (rw_new (w.alloc (.cells #[.slice pa l.length ca'] 22)) 50 #[.int .i64 x.p, .int .i64 x.s, .int .i64 x.i]).alloc (.cells #[.func (.func 74) #[] #[]] 106)
 have r3 := rw_new ((w.alloc (.cells #[.slice pa l.length ca'] 22)).alloc (.cells #[.int .i64 x.p, .int .i64 x.s, .int .i64 x.i] 50)) 106 #[.func (.func 74) #[] #[]]
 generalize hW : ((w.alloc (.cells #[.slice pa l.length ca'] 22)).alloc (.cells #[.int .i64 x.p, .int .i64 x.s, .int .i64 x.i] 50)).alloc (.cells #[.func (.func 74) #[] #[]] 106) = w0 at hbel r1 r2 r3
 simp only [World.size_alloc, Nat.add_assoc, Nat.reduceAdd] at r2 r3
 have hC : Cap w0 (w.heap.size + 2) w.heap.size (w.heap.size + 1) (.slice pa l.length ca') x := ⟨r3.cell 0, r1.cell 0, r2⟩
 have c1 := hC.l
 replace h := h.later hbel
 clear r1 r2 r3
 go_enter Tryz.func73, Tryz.ntmps73
 go_wp2_with (first | rw [hW])
 clear hW
 refine (search_any (w.heap.size + 2) w.heap.size (w.heap.size + 1) _ l x w0 h hl hp hC).mono ?_
 rintro e w1 ⟨k, rfl, hk, h1, h2, hb1⟩
 have HI : Hid (l.take k ++ x :: l.drop k = insF x l) := insF_at h1 h2
 have hh := has_at hp h1 h2
 obtain ⟨t, HT⟩ := hid_ex (has x l)
 have HF : Hid (∀ e w', FdPost l x w e w' ↔ ∃ k : Nat, e = .returned (.tuple #[.int .i64 k, .bool t]) ∧ k ≤ l.length ∧ l.take k ++ x :: l.drop k = insF x l ∧ Below w.heap.size w w') := fun e w' => by unfold FdPost; rw [HT.out]
 replace h := h.later hb1
 replace hC := hC.later hb1
 replace hbel := below_on hbel hb1
 clear h1 h2 hb1 hp c1
 rw [HT.out] at hh
 by_cases hlt : k < l.length
 ·rw [dif_pos hlt] at hh
  have hlt' : (k : Int) < (l.length : Int) := by omega
  have hk0 : (0 : Int) ≤ (k : Int) := by omega
  obtain ⟨g, o, rfl, hd⟩ := h.at (by omega)
  have d := AHas.elem hd k hlt
  obtain ⟨y, HY⟩ := hid_ex l[k]
  rw [HY.out] at d hh
  have E := fun w => eq_mark w y.p y.s y.i x.p x.s x.i
  rw [show (decide (y.p = x.p) && decide (y.s = x.s) && decide (y.i = x.i)) = t from hh.symm] at E
  have z42 : (Tryz.prog.info? 71).map (·.size) = some y.cells.length := size71
  have zm : (Tryz.prog.info? 50).map (·.size) = some [Value.int .i64 x.p, .int .i64 x.s, .int .i64 x.i].length := size50
  clear hh h hd HY HT
  go_wp2_with fail
  have hs : Calm.Stays (fun w' => Cap w' (w.heap.size + 2) w.heap.size (w.heap.size + 1) (.slice (some ⟨g, o, none⟩) l.length ca') x ∧ w'.rangeAt g (o + k * 4) y.cells ∧ Below w.heap.size w w') := fun wa wb h hb => ⟨h.1.later hb, range_later h.2.1 hb, below_on h.2.2 hb⟩
  refine Calm.region (by kernel_rfl) (by kernel_rfl) (fun w' => Cap w' (w.heap.size + 2) w.heap.size (w.heap.size + 1) (.slice (some ⟨g, o, none⟩) l.length ca') x ∧ w'.rangeAt g (o + k * 4) y.cells ∧ Below w.heap.size w w') ⟨⟨hC.f, hC.l, hC.m⟩, d, hbel.drew⟩ ?_
  iterate 2 (all_goals refine Calm.sp ?_)
  all_goals refine Calm.cl (fun _ h => h.1.l) ?_
  iterate 3 (all_goals refine Calm.sp ?_)
  all_goals first | refine Calm.sk ?_ | refine Calm.cl (fun _ h => h.1.f) ?_
  all_goals first | refine Calm.sk ?_ | refine Calm.cl (fun _ h => h.1.l) ?_
  iterate 2 (all_goals refine Calm.sp ?_)
  all_goals first | refine Calm.sk ?_ | refine Calm.lm z42 (fun _ h => h.2.1) Tryz.underlying71 ?_
  all_goals first | refine Calm.sk ?_ | refine Calm.kf1 hs (fun w1 h => markOf_any y.p y.s y.i y.n w1) ?_
  all_goals first | refine Calm.sk ?_ | refine Calm.lm zm (fun _ h => Rw.whole h.1.m) Tryz.underlying50 ?_
  iterate 4 (all_goals refine Calm.sp ?_)
  all_goals
   rintro w9 ⟨_, _, hbel9⟩
  go_wp2_with fail
  refine bodyPost_ret (v := .tuple #[.int .i64 k, .bool t]) (by simp [results, Tryz.results73, go_sem]) rfl ?_
  rw [HF.out]
  exact ⟨k, rfl, hk, HI.out, hbel9⟩
 ·rw [dif_neg hlt] at hh
  have hlt' : ¬ (k : Int) < (l.length : Int) := by omega
  have e := hh
  subst e
  clear HT hh
  go_wp2_with fail
  have hs : Calm.Stays (fun w' => Cap w' (w.heap.size + 2) w.heap.size (w.heap.size + 1) (.slice pa l.length ca') x ∧ Below w.heap.size w w') := fun wa wb h hb => ⟨h.1.later hb, below_on h.2 hb⟩
  refine Calm.region (by kernel_rfl) (by kernel_rfl) (fun w' => Cap w' (w.heap.size + 2) w.heap.size (w.heap.size + 1) (.slice pa l.length ca') x ∧ Below w.heap.size w w') ⟨⟨hC.f, hC.l, hC.m⟩, hbel.drew⟩ ?_
  iterate 2 (all_goals refine Calm.sp ?_)
  all_goals refine Calm.cl (fun _ h => h.1.l) ?_
  iterate 14 (all_goals refine Calm.sp ?_)
  all_goals
   rintro w9 ⟨_, hbel9⟩
  go_wp2_with fail
  refine bodyPost_ret (v := .tuple #[.int .i64 k, .bool false]) (by simp [results, Tryz.results73, go_sem]) rfl ?_
  rw [HF.out]
  exact ⟨k, rfl, hk, HI.out, hbel9⟩
theorem four_zero {w w' : World} {x : X} {va vw vm ve : Value} (h : Four w x va vw vm ve) (h1 : x.wr.length = 0) (h2 : x.mb.length = 0) (h3 : x.el.length = 0) {va' : Value} {l : List A} (ha : AHas w' va' l) : Four w' { x with am := l } va' vw vm ve := by
 obtain ⟨k, b, am, wr, mb, el⟩ := x
 obtain rfl := List.eq_nil_of_length_eq_zero h1
 obtain rfl := List.eq_nil_of_length_eq_zero h2
 obtain rfl := List.eq_nil_of_length_eq_zero h3
 obtain ⟨_, ht, ⟨ms, e1, e2, _⟩, ⟨es, e3, e4, _⟩⟩ := h
 obtain rfl := List.map_eq_nil_iff.1 e1
 obtain rfl := List.map_eq_nil_iff.1 e3
 exact ⟨ha, SHas.zero ht, ⟨[], rfl, SHas.zero e2, fun _ h => by cases h⟩, ⟨[], rfl, SHas.zero e4, fun _ h => by cases h⟩⟩
def doX (x : X) (a : A) : X := if (ck x && (ia a.i a.n && !has a x.am)) = true then { x with am := insF a x.am } else x
theorem do_any (x : X) (va vw vm ve : Value) (p s : Int) (u : List Int) (t : Int) (sl : Value) (i n : Int) (w : World) (_hu : u.length = 13) (h : Four w x va vw vm ve) (hs : Sm x) :
  Calls Tryz.prog 38 #[CV x.k x.b va vw vm ve, TxV p s u t sl, .int .i64 i, .int .i64 n] w (Gives (doX x ⟨p, s, i, n⟩) w) := by
 obtain ⟨pa, ca', pw, cw, pm, cm, pe, ce, rfl, rfl, rfl, rfl⟩ := h.slices
 have HF : Hid (Four w x (.slice pa x.am.length ca') (.slice pw x.wr.length cw) (.slice pm x.mb.length cm) (.slice pe x.el.length ce)) := h
 clear h
 obtain ⟨z, HZ⟩ := hid_ex (doX x ⟨p, s, i, n⟩)
 rw [HZ.out]
 have R0 := ((rw_new w 27 (cx x pa ca' pw cw pm cm pe ce)).alloc (.cells (txc p s u t sl).toArray 34)).alloc (.cells z4 27)
 have R1 := (rw_new (w.alloc (.cells (cx x pa ca' pw cw pm cm pe ce) 27)) 34 (txc p s u t sl).toArray).alloc (.cells z4 27)
 have R2 := rw_new ((w.alloc (.cells (cx x pa ca' pw cw pm cm pe ce) 27)).alloc (.cells (txc p s u t sl).toArray 34)) 27 z4
 have hbel := bel_alloc (bel_alloc (bel_alloc (Below.refl w.heap.size w) (.cells (cx x pa ca' pw cw pm cm pe ce) 27)) (.cells (txc p s u t sl).toArray 34)) (.cells z4 27)
 have hsz : (((w.alloc (.cells (cx x pa ca' pw cw pm cm pe ce) 27)).alloc (.cells (txc p s u t sl).toArray 34)).alloc (.cells z4 27)).heap.size = w.heap.size + 3 := by simp
 generalize hW : ((w.alloc (.cells (cx x pa ca' pw cw pm cm pe ce) 27)).alloc (.cells (txc p s u t sl).toArray 34)).alloc (.cells z4 27) = w0 at R0 R1 R2 hbel hsz
 simp only [World.size_alloc, Nat.add_assoc, Nat.reduceAdd] at R1 R2
 have zd : (Tryz.prog.info? 29).map (·.size) = some [Value.int .i64 p, .int .i64 s].length := size29
 go_enter Tryz.func38, Tryz.ntmps38
 go_wp2_with (first | rw [hW] | refine load_m 29 _ rfl rfl _ _ rfl (tx_dot R1) Tryz.underlying29 rfl zd ?_ | refine load_r 27 _ rfl rfl _ rfl ((R0.alloc _).alloc _) Tryz.underlying27 rfl size27 ?_)
 clear hW R1
 have hb2 := bel_alloc (bel_alloc (Below.refl w0.heap.size w0) (.cells #[.int .i64 p, .int .i64 s, .int .i64 i] 50)) (.cells #[.int .i64 p, .int .i64 s, .int .i64 i, .int .i64 n] 71)
 have R3 := (rw_new w0 50 #[.int .i64 p, .int .i64 s, .int .i64 i]).alloc (.cells #[.int .i64 p, .int .i64 s, .int .i64 i, .int .i64 n] 71)
 have R4 := rw_new (w0.alloc (.cells #[.int .i64 p, .int .i64 s, .int .i64 i] 50)) 71 #[.int .i64 p, .int .i64 s, .int .i64 i, .int .i64 n]
 have hsz2 : ((w0.alloc (.cells #[.int .i64 p, .int .i64 s, .int .i64 i] 50)).alloc (.cells #[.int .i64 p, .int .i64 s, .int .i64 i, .int .i64 n] 71)).heap.size = w.heap.size + 5 := by simp [hsz]
 simp only [World.size_alloc, hsz, Nat.add_assoc, Nat.reduceAdd] at R3 R4
 replace R0 := R0.later hb2
 replace R2 := R2.later hb2
 replace hbel := below_on hbel hb2
 clear hb2 hsz
 generalize (w0.alloc (.cells #[.int .i64 p, .int .i64 s, .int .i64 i] 50)).alloc (.cells #[.int .i64 p, .int .i64 s, .int .i64 i, .int .i64 n] 71) = w2 at R0 R2 R3 R4 hbel hsz2 ⊢
 refine (copied_any x _ _ _ _ w2 (HF.out.later hbel) hs).mono ?_
 rintro e w3 ⟨ua, uw, um, ue, rfl, ho, hb1⟩
 obtain ⟨qa, da, qw, dw, qm, dm, qe, de, rfl, rfl, rfl, rfl⟩ := ho.four.slices
 rw [hsz2] at ho
 replace R0 := R0.later hb1
 replace R2 := R2.later hb1
 replace R3 := R3.later hb1
 replace R4 := R4.later hb1
 replace hbel := below_on hbel hb1
 have hB : w.heap.size + 5 ≤ w3.heap.size := by have := hb1.size; omega
 clear hb1 hsz2 HF
 have R0' := R0.row (cx x qa da qw dw qm dm qe de)
 replace ho := ho.row (b := w.heap.size) (by omega) R0 (cx x qa da qw dw qm dm qe de)
 replace R2 := R2.rowOther (q := w.heap.size) (by omega) (cx x qa da qw dw qm dm qe de)
 replace R3 := R3.rowOther (q := w.heap.size) (by omega) (cx x qa da qw dw qm dm qe de)
 replace R4 := R4.rowOther (q := w.heap.size) (by omega) (cx x qa da qw dw qm dm qe de)
 replace hbel := below_setRow hbel (g := w.heap.size) (Nat.le_refl _) (cx x qa da qw dw qm dm qe de)
 replace hB : w.heap.size + 5 ≤ (w3.setRow w.heap.size (cx x qa da qw dw qm dm qe de)).heap.size := by simpa [World.setRow] using hB
 generalize hW : w3.setRow w.heap.size (cx x qa da qw dw qm dm qe de) = w4 at R0' R2 R3 R4 hbel hB ho
 have L0 := R0'
 go_wp2_with (first | rw [hW] | refine store_r rfl 27 _ _ rfl _ (cx x qa da qw dw qm dm qe de) rfl rfl R0 size27 rfl (by simp [Value.oneCell']) ?_ | refine load_r 27 _ rfl rfl _ rfl L0 Tryz.underlying27 rfl size27 ?_)
 clear hW R0
 have R0 := R0'
 clear R0'
 refine (check_any x _ _ _ _ w4 ho.four hs).mono ?_
 rintro e w5 ⟨rfl, hb1⟩
 replace R0 := R0.later hb1
 replace R2 := R2.later hb1
 replace R3 := R3.later hb1
 replace R4 := R4.later hb1
 replace ho := ho.later hb1
 replace hbel := below_on hbel hb1
 replace hB := Nat.le_trans hB hb1.size
 clear hb1 L0
 obtain ⟨y1, HY1⟩ := hid_ex (ck x)
 rw [HY1.out]
 cases y1
 ·have HD : Hid (doX x ⟨p, s, i, n⟩ = x) := by
   show _ = _
   unfold doX
   rw [HY1.out]
   rfl
  rw [HD.out] at HZ
  go_wp2_with (first | refine load_r 27 _ rfl rfl _ rfl R0 Tryz.underlying27 rfl size27 ?_ | refine store_r rfl 27 _ _ rfl _ (cx x qa da qw dw qm dm qe de) rfl rfl R2 size27 rfl (by simp [Value.oneCell']) ?_)
  refine bodyPost_ret (results_r rfl rfl (R2.row _) rfl Tryz.underlying27 size27) rfl ?_
  have e := HZ.out
  subst e
  exact ⟨_, _, _, _, rfl, (ho.row (by omega) R2 _).four, below_setRow hbel (by omega) _⟩
 ·go_wp2_with (first | refine load_r 71 _ rfl rfl _ rfl R4 Tryz.underlying71 rfl size71 ?_)
  refine (isAmount_any p s i n w5).mono ?_
  rintro e w6 ⟨rfl, hb1⟩
  replace R0 := R0.later hb1
  replace R2 := R2.later hb1
  replace R3 := R3.later hb1
  replace R4 := R4.later hb1
  replace ho := ho.later hb1
  replace hbel := below_on hbel hb1
  replace hB := Nat.le_trans hB hb1.size
  clear hb1
  obtain ⟨y2, HY2⟩ := hid_ex (ia i n)
  rw [HY2.out]
  cases y2
  ·have HD : Hid (doX x ⟨p, s, i, n⟩ = x) := by
    show _ = _
    unfold doX
    rw [HY1.out]
    simp only [HY2.out]
    rfl
   rw [HD.out] at HZ
   go_wp2_with (first | refine load_r 27 _ rfl rfl _ rfl R0 Tryz.underlying27 rfl size27 ?_ | refine store_r rfl 27 _ _ rfl _ (cx x qa da qw dw qm dm qe de) rfl rfl R2 size27 rfl (by simp [Value.oneCell']) ?_)
   refine bodyPost_ret (results_r rfl rfl (R2.row _) rfl Tryz.underlying27 size27) rfl ?_
   have e := HZ.out
   subst e
   exact ⟨_, _, _, _, rfl, (ho.row (by omega) R2 _).four, below_setRow hbel (by omega) _⟩
  ·have c2 : w6.cell? ⟨w.heap.size, 2, none⟩ = some (.slice qa x.am.length da) := R0.cell 2
   have hpr := ((ca_pair x.am).1 (ck_parts HY1.out).2.2.2.2.2).2
   go_wp2_with (first | refine load_r 50 _ rfl rfl _ rfl R3 Tryz.underlying50 rfl size50 ?_)
   refine (find_any _ x.am ⟨p, s, i, n⟩ w6 ho.four.a hs.a hpr).mono ?_
   rintro e w7 ⟨k, rfl, hk, hins, hb1⟩
   have HI : Hid (x.am.take k ++ ⟨p, s, i, n⟩ :: x.am.drop k = insF ⟨p, s, i, n⟩ x.am) := hins
   clear hins hpr c2
   replace R0 := R0.later hb1
   replace R2 := R2.later hb1
   replace R3 := R3.later hb1
   replace R4 := R4.later hb1
   replace ho := ho.later hb1
   replace hbel := below_on hbel hb1
   replace hB := Nat.le_trans hB hb1.size
   clear hb1
   obtain ⟨y3, HY3⟩ := hid_ex (has ⟨p, s, i, n⟩ x.am)
   rw [HY3.out]
   cases y3
   ·have HD : Hid (doX x ⟨p, s, i, n⟩ = { x with am := insF ⟨p, s, i, n⟩ x.am }) := by
     show _ = _
     unfold doX
     rw [HY1.out, HY3.out]
     simp only [HY2.out]
     rfl
    have c2 : w7.cell? ⟨w.heap.size, 2, none⟩ = some (.slice qa x.am.length da) := R0.cell 2
    go_wp2_with (first | refine load_r 71 _ rfl rfl _ rfl R4 Tryz.underlying71 rfl size71 ?_)
    have hlt := World.ownsRow.lt ho.a
    refine (insert_any (w.heap.size + 5) _ x.am k w7.heap.size ⟨p, s, i, n⟩ _ (ho.a.alloc _) hk hs.a (by simp; omega) (rw_new w7 71 _) (fun q hq => by have := (hlt q hq).2; omega)).mono ?_
    rintro e w8 ⟨ub, rfl, hob, hb1⟩
    obtain ⟨qb, db, rfl⟩ := own_sl hob
    rw [HI.out] at hob
    have hz0 := ck_parts HY1.out
    have hfz : ∀ w' : World, AHas w' (.slice qb (x.am.length + 1) db) (insF ⟨p, s, i, n⟩ x.am) → Four w' { x with am := insF ⟨p, s, i, n⟩ x.am } (.slice qb (x.am.length + 1) db) (.slice qw x.wr.length dw) (.slice qm x.mb.length dm) (.slice qe x.el.length de) := fun w' ha => four_zero ho.four hz0.2.1 hz0.2.2.1 hz0.2.2.2.1 ha
    have HFZ : Hid (∀ w' : World, AHas w' (.slice qb (x.am.length + 1) db) (insF ⟨p, s, i, n⟩ x.am) → Four w' { x with am := insF ⟨p, s, i, n⟩ x.am } (.slice qb (x.am.length + 1) db) (.slice qw x.wr.length dw) (.slice qm x.mb.length dm) (.slice qe x.el.length de)) := hfz
    clear hfz hlt hz0
    replace R0 : Rw w8 w.heap.size 27 _ := (hb1.block _ (by omega)).trans (R0.alloc _)
    replace R2 : Rw w8 (w.heap.size + 2) 27 _ := (hb1.block _ (by omega)).trans (R2.alloc _)
    replace hbel := (bel_alloc hbel _).trans (hb1.mono (by omega))
    clear hb1 ho
    have c3 : w8.cell? ⟨w.heap.size, 2, none⟩ = some (.slice qa x.am.length da) := R0.cell 2
    have f3 : w8.frozen? ⟨w.heap.size, 2, none⟩ = false := R0.frozen 2
    replace R0 : Rw (w8.setCell ⟨w.heap.size, 2, none⟩ (.slice qb (x.am.length + 1) db)) w.heap.size 27 (cvc x.k x.b (.slice qb (x.am.length + 1) db) (.slice qw x.wr.length dw) (.slice qm x.mb.length dm) (.slice qe x.el.length de)) := R0.set 2 _
    replace R2 := R2.setOther (q := w.heap.size) (by omega) 2 (.slice qb (x.am.length + 1) db)
    replace hob := own_over hob (b := w.heap.size) (fun q hq => by have := (World.ownsRow.lt hob q hq).1; omega) 2 (.slice qb (x.am.length + 1) db)
    replace hbel := hbel.setCell (p := ⟨w.heap.size, 2, none⟩) (Nat.le_refl _) (.slice qb (x.am.length + 1) db)
    generalize hW : w8.setCell ⟨w.heap.size, 2, none⟩ (.slice qb (x.am.length + 1) db) = w9 at R0 R2 hob hbel
    go_wp2_with (first | rw [hW] | refine load_r 27 _ rfl rfl _ rfl R0 Tryz.underlying27 rfl size27 ?_ | refine store_r rfl 27 _ _ rfl _ (cvc x.k x.b (.slice qb (x.am.length + 1) db) (.slice qw x.wr.length dw) (.slice qm x.mb.length dm) (.slice qe x.el.length de)) rfl rfl R2 size27 rfl (by simp [Value.oneCell']) ?_)
    refine bodyPost_ret (results_r rfl rfl (R2.row _) rfl Tryz.underlying27 size27) rfl ?_
    rw [HD.out] at HZ
    have e := HZ.out
    subst e
    refine ⟨_, _, _, _, rfl, HFZ.out _ ?_, below_setRow hbel (by omega) _⟩
    have := own_sh (own_row hob (b := w.heap.size + 2) (by omega) (cvc x.k x.b (.slice qb (x.am.length + 1) db) (.slice qw x.wr.length dw) (.slice qm x.mb.length dm) (.slice qe x.el.length de)))
    unfold AHas
    rw [insF_length]
    exact this
   ·have HD : Hid (doX x ⟨p, s, i, n⟩ = x) := by
     show _ = _
     unfold doX
     rw [HY1.out, HY3.out]
     simp
    rw [HD.out] at HZ
    go_wp2_with (first | refine load_r 27 _ rfl rfl _ rfl R0 Tryz.underlying27 rfl size27 ?_ | refine store_r rfl 27 _ _ rfl _ (cx x qa da qw dw qm dm qe de) rfl rfl R2 size27 rfl (by simp [Value.oneCell']) ?_)
    refine bodyPost_ret (results_r rfl rfl (R2.row _) rfl Tryz.underlying27 size27) rfl ?_
    have e := HZ.out
    subst e
    exact ⟨_, _, _, _, rfl, (ho.row (by omega) R2 _).four, below_setRow hbel (by omega) _⟩
def lef (x : X) (q u : Int) (v : List Int) (idx : Int) : List A := x.am.filter (fun a => !bf a.p a.s a.i q u v idx)
def clX (x : X) (q u : Int) (v : List Int) (idx : Int) : X := if ck x = true then ⟨1, 0, lef x q u v idx, [], [], []⟩ else x
theorem four_of {w : World} {va : Value} {l : List A} {k b : Int} (h : AHas w va l) : Four w ⟨k, b, l, [], [], []⟩ va (.slice none 0 0) (.slice none 0 0) (.slice none 0 0) := ⟨h, WHas.nil w, BHas.nil w, EHas.nil w⟩
theorem clear_any (x : X) (va vw vm ve : Value) (q u : Int) (v : List Int) (t : Int) (sl : Value) (idx : Int) (w : World) (hv : v.length = 13) (h : Four w x va vw vm ve) (hs : Sm x) :
  Calls Tryz.prog 204 #[CV x.k x.b va vw vm ve, TxV q u v t sl, .int .i64 idx] w (Gives (clX x q u v idx) w) := by
 obtain ⟨pa, ca', pw, cw, pm, cm, pe, ce, rfl, rfl, rfl, rfl⟩ := h.slices
 have HF : Hid (Four w x (.slice pa x.am.length ca') (.slice pw x.wr.length cw) (.slice pm x.mb.length cm) (.slice pe x.el.length ce)) := h
 clear h
 obtain ⟨z, HZ⟩ := hid_ex (clX x q u v idx)
 rw [HZ.out]
 have R0 := (((rw_new w 27 (cx x pa ca' pw cw pm cm pe ce)).alloc (.cells (txc q u v t sl).toArray 34)).alloc (.cells #[.int .i64 idx] 3)).alloc (.cells z4 27)
 have R1 := ((rw_new (w.alloc (.cells (cx x pa ca' pw cw pm cm pe ce) 27)) 34 (txc q u v t sl).toArray).alloc (.cells #[.int .i64 idx] 3)).alloc (.cells z4 27)
 have R2 := (rw_new ((w.alloc (.cells (cx x pa ca' pw cw pm cm pe ce) 27)).alloc (.cells (txc q u v t sl).toArray 34)) 3 #[.int .i64 idx]).alloc (.cells z4 27)
 have R3 := rw_new (((w.alloc (.cells (cx x pa ca' pw cw pm cm pe ce) 27)).alloc (.cells (txc q u v t sl).toArray 34)).alloc (.cells #[.int .i64 idx] 3)) 27 z4
 have hbel := bel_alloc (bel_alloc (bel_alloc (bel_alloc (Below.refl w.heap.size w) (.cells (cx x pa ca' pw cw pm cm pe ce) 27)) (.cells (txc q u v t sl).toArray 34)) (.cells #[.int .i64 idx] 3)) (.cells z4 27)
 have hsz : ((((w.alloc (.cells (cx x pa ca' pw cw pm cm pe ce) 27)).alloc (.cells (txc q u v t sl).toArray 34)).alloc (.cells #[.int .i64 idx] 3)).alloc (.cells z4 27)).heap.size = w.heap.size + 4 := by simp
 generalize hW : (((w.alloc (.cells (cx x pa ca' pw cw pm cm pe ce) 27)).alloc (.cells (txc q u v t sl).toArray 34)).alloc (.cells #[.int .i64 idx] 3)).alloc (.cells z4 27) = w0 at R0 R1 R2 R3 hbel hsz
 simp only [World.size_alloc, Nat.add_assoc, Nat.reduceAdd] at R1 R2 R3
 go_enter Tryz.func204, Tryz.ntmps204
 go_wp2_with (first | rw [hW] | refine load_r 27 _ rfl rfl _ rfl R0 Tryz.underlying27 rfl size27 ?_)
 clear hW
 refine (check_any x _ _ _ _ w0 (HF.out.later hbel) hs).mono ?_
 rintro e w1 ⟨rfl, hb1⟩
 replace R0 := R0.later hb1
 replace R1 := R1.later hb1
 replace R2 := R2.later hb1
 replace R3 := R3.later hb1
 replace hbel := below_on hbel hb1
 have hB : w.heap.size + 4 ≤ w1.heap.size := by have := hb1.size; omega
 clear hb1 hsz
 obtain ⟨y1, HY1⟩ := hid_ex (ck x)
 rw [HY1.out]
 cases y1
 ·have HD : Hid (clX x q u v idx = x) := by
   show _ = _
   unfold clX
   rw [HY1.out]
   rfl
  rw [HD.out] at HZ
  go_wp2_with (first | refine load_r 27 _ rfl rfl _ rfl R0 Tryz.underlying27 rfl size27 ?_)
  refine (copied_any x _ _ _ _ w1 (HF.out.later hbel) hs).mono ?_
  rintro e w2 ⟨ua, uw, um, ue, rfl, ho, hb1⟩
  obtain ⟨qa, da, qw, dw, qm, dm, qe, de, rfl, rfl, rfl, rfl⟩ := ho.four.slices
  replace R3 := R3.later hb1
  replace hbel := below_on hbel hb1
  go_wp2_with (first | refine store_r rfl 27 _ _ rfl _ (cx x qa da qw dw qm dm qe de) rfl rfl R3 size27 rfl (by simp [Value.oneCell']) ?_)
  refine bodyPost_ret (results_r rfl rfl (R3.row _) rfl Tryz.underlying27 size27) rfl ?_
  have e := HZ.out
  subst e
  exact ⟨_, _, _, _, rfl, (ho.row (by omega) R3 _).four, below_setRow hbel (by omega) _⟩
 ·have HD : Hid (clX x q u v idx = ⟨1, 0, lef x q u v idx, [], [], []⟩) := by
   show _ = _
   unfold clX
   rw [HY1.out]
   rfl
  have c2 : w1.cell? ⟨w.heap.size, 2, none⟩ = some (.slice pa x.am.length ca') := R0.cell 2
  have C1 : ∀ (a : A) (w' : World), Below w1.heap.size w1 w' → Calls Tryz.prog 207 #[AV a.p a.s a.i a.n, .pointer (some ⟨w.heap.size + 1, 0, none⟩), .pointer (some ⟨w.heap.size + 2, 0, none⟩)] w' (Tells (.bool (!bf a.p a.s a.i q u v idx)) w') := fun a w' hb => clear1_any a.p a.s a.i a.n _ _ q u v t sl idx w' hv (R1.later hb) ((R2.later hb).cell 0)
  go_wp2_with fail
  refine (those27_any _ x.am (fun a => !bf a.p a.s a.i q u v idx) _ _ w1 (HF.out.a.later hbel) hs.a C1).mono ?_
  rintro e w2 ⟨ua, rfl, ho, hb1⟩
  clear C1 c2
  replace ho : w2.ownsRow w1.heap.size 71 4 ua (lef x q u v idx).length (rows A.cells (lef x q u v idx)) := ho
  obtain ⟨qa, da, rfl⟩ := own_sl ho
  replace R3 := R3.later hb1
  replace hbel := below_on hbel hb1
  have hB2 := Nat.le_trans hB hb1.size
  clear hb1
  go_wp2_with fail
  refine (cellOf_any 0 qa (lef x q u v idx).length da w2).mono ?_
  rintro e w3 ⟨rfl, hb1⟩
  replace R3 := R3.later hb1
  replace ho := own_later ho hb1
  replace hbel := below_on hbel hb1
  go_wp2_with (first | refine store_r rfl 27 _ _ rfl _ (cvc 1 0 (.slice qa (lef x q u v idx).length da) (.slice none 0 0) (.slice none 0 0) (.slice none 0 0)) rfl rfl R3 size27 rfl (by simp [Value.oneCell']) ?_)
  refine bodyPost_ret (results_r rfl rfl (R3.row _) rfl Tryz.underlying27 size27) rfl ?_
  rw [HD.out] at HZ
  have e := HZ.out
  subst e
  exact ⟨_, _, _, _, rfl, four_of (own_sh (own_row ho (b := w.heap.size + 3) (by omega) _)), below_setRow hbel (by omega) _⟩
end Go.Proofs.YtjbbmcommnhgeaaGreat.Ct
namespace Go.Proofs.YtjbbmcommnhgeaaGreat.Rg
open Go.RowKit
abbrev WV (p s i t : Int) (x : ByteArray) : Value := .agg #[.int .i64 p, .int .i64 s, .int .i64 i, .int .i64 t, .string x]
theorem isKind_any (k : Int) (w : World) : Calls Tryz.prog 110 #[.int .i64 k] w (Tells (.bool (decide (k = 2) || decide (k = 3))) w) := by
 go_enter Tryz.func110, Tryz.ntmps110
 go_wp2
 all_goals
  go_ret
  refine tells_bool ?_ ?_
  focus (first | (simp_all; done) | grind)
  repeat refine bel_alloc ?_ _
  exact Below.refl _ _
def iw (i : Int) (x : ByteArray) : Bool := decide (1 ≤ i) && decide (x.size ≤ 64)
theorem isWrite_any (p s i t : Int) (x : ByteArray) (w : World) : Calls Tryz.prog 77 #[WV p s i t x] w (Tells (.bool (iw i x)) w) := by
 unfold iw
 go_enter Tryz.func77, Tryz.ntmps77
 go_wp2
 all_goals
  go_ret
  refine tells_bool ?_ ?_
  focus (first | (simp_all; done) | grind)
  repeat refine bel_alloc ?_ _
  exact Below.refl _ _
def lt (x y : Wt) : Bool := ls x.p x.s x.i y.p y.s y.i
def okk (l : List Wt) (k : Nat) (h : k < l.length) : Bool := iw l[k].i l[k].x && (decide (k = 0) || lt (l[k - 1]'(by omega)) l[k])
def ca (l : List Wt) : Bool := decide (∀ k (h : k < l.length), okk l k h = true)
theorem ca_iff (l : List Wt) : ca l = true ↔ ∀ k (h : k < l.length), okk l k h = true := by simp [ca]
theorem ca_not {l : List Wt} {z : Bool} (HZ : Hid (ca l = z)) {k : Nat} (h : k < l.length) (h' : okk l k h = false) : Hid (z = false) := by
 show z = false
 have hz := HZ.out
 cases z
 ·rfl
 ·rw [(ca_iff l).1 hz k h] at h'
  cases h'
theorem _root_.Go.Proofs.YtjbbmcommnhgeaaGreat.Wt.mark {w : World} {b o : Nat} {x : Wt} (h : w.rangeAt b o x.cells) : w.rangeAt b o [.int .i64 x.p, .int .i64 x.s, .int .i64 x.i] := fun j u hu => by
 refine h j u ?_
 match j, hu with
 | 0, hu => exact hu
 | 1, hu => exact hu
 | 2, hu => exact hu
 | j + 3, hu => simp at hu
theorem checkWrites_any (v : Value) (l : List Wt) (w : World) (h : WHas w v l) : Calls Tryz.prog 111 #[v] w (Tells (.bool (ca l)) w) := by
 obtain ⟨z, HZ⟩ := hid_ex (ca l)
 rw [HZ.out]
 have hml := maxLen_lt h.1
 obtain ⟨p, c, rfl⟩ := h.slice
 have HR : Hid (WHas w (.slice p l.length c) l) := h
 clear h
 go_enter Tryz.func111, Tryz.ntmps111
 go_wp2
 go_loopw [7] (fun vi wr => ∃ k : Nat, vi = .int .i64 k ∧ k ≤ l.length ∧ Hid (∀ i (h : i < l.length), i < k → okk l i h = true) ∧ Below w.heap.size w wr) (fun vi _ => l.length - (intOf vi).toNat)
 case atStart => exact ⟨0, rfl, by omega, (show ∀ i (_ : i < l.length), i < 0 → _ from fun i _ h => by omega), Below.refl _ _⟩
 case round =>
  obtain ⟨k, rfl, hk, HV, hbel⟩ := hrel
  by_cases hlt : k < l.length
  ·have hlt' : (k : Int) < (l.length : Int) := by omega
   obtain ⟨g, o, rfl, hd0⟩ := HR.out.at (by omega)
   have hd := range_later hd0 hbel
   clear hd0 HR
   have d := Wt.elem hd k hlt
   obtain ⟨x, HX⟩ := hid_ex l[k]
   rw [HX.out] at d
   have z42 : (Tryz.prog.info? 64).map (·.size) = some x.cells.length := size64
   have R := rw_new wr 64 #[.int .i64 x.p, .int .i64 x.s, .int .i64 x.i, .int .i64 x.t, .string x.x]
   replace hbel := bel_alloc hbel (.cells #[.int .i64 x.p, .int .i64 x.s, .int .i64 x.i, .int .i64 x.t, .string x.x] 64)
   have C1 := fun w => isWrite_any x.p x.s x.i x.t x.x w
   obtain ⟨y1, HY1⟩ := hid_ex (iw x.i x.x)
   rw [HY1.out] at C1
   have zm : (Tryz.prog.info? 50).map (·.size) = some [Value.int .i64 x.p, .int .i64 x.s, .int .i64 x.i].length := size50
   cases y1
   ·have HF := ca_not HZ hlt (show okk l k hlt = false by unfold okk; rw [HX.out, HY1.out]; rfl)
    have e := HF.out
    subst e
    clear HZ HF HV
    go_wp2_with (refine load_m 64 _ rfl rfl _ _ rfl d Tryz.underlying64 rfl z42 ?_)
    clear hd d
    have hs : Calm.Stays (fun w' => Rw w' wr.heap.size 64 #[.int .i64 x.p, .int .i64 x.s, .int .i64 x.i, .int .i64 x.t, .string x.x] ∧ Below w.heap.size w w') := fun wa wb h hb => ⟨h.1.later hb, below_on h.2 hb⟩
    refine Calm.region (by kernel_rfl) (by kernel_rfl) (fun w' => Rw w' wr.heap.size 64 #[.int .i64 x.p, .int .i64 x.s, .int .i64 x.i, .int .i64 x.t, .string x.x] ∧ Below w.heap.size w w') ⟨R, hbel.drew⟩ ?_
    all_goals refine Calm.lm z42 (fun _ h => Rw.whole h.1) Tryz.underlying64 ?_
    all_goals refine Calm.k1 hs (fun w1 h => C1 w1) ?_
    iterate 10 (all_goals refine Calm.sp ?_)
    all_goals first | refine Calm.sk ?_ | refine Calm.lm zm (fun _ h => Wt.mark (x := x) (Rw.whole h.1)) Tryz.underlying50 ?_
    all_goals refine Calm.sp ?_
    all_goals first | refine Calm.sk ?_ | refine Calm.lm zm (fun _ h => Wt.mark (x := x) (Rw.whole h.1)) Tryz.underlying50 ?_
    all_goals first | refine Calm.sk ?_ | refine Calm.k2 hs (fun w1 h => less_any 0 0 0 0 0 0 w1) ?_
    iterate 3 (all_goals refine Calm.sp ?_)
    all_goals
     rintro w9 ⟨_, hbel9⟩
    go_wp2_with fail
    go_ret
    exact ⟨rfl, hbel9⟩
   ·rcases Nat.eq_zero_or_pos k with rfl | hpos
    ·have HV2 : Hid (∀ i (h : i < l.length), i < 0 + 1 → okk l i h = true) := fun i h hi => by
      obtain rfl : i = 0 := by omega
      unfold okk
      rw [HX.out, HY1.out]
      rfl
     go_wp2_with (refine load_m 64 _ rfl rfl _ _ rfl d Tryz.underlying64 rfl z42 ?_)
     clear hd d HV
     have hs : Calm.Stays (fun w' => Rw w' wr.heap.size 64 #[.int .i64 x.p, .int .i64 x.s, .int .i64 x.i, .int .i64 x.t, .string x.x] ∧ Below w.heap.size w w') := fun wa wb h hb => ⟨h.1.later hb, below_on h.2 hb⟩
     refine Calm.region (by kernel_rfl) (by kernel_rfl) (fun w' => Rw w' wr.heap.size 64 #[.int .i64 x.p, .int .i64 x.s, .int .i64 x.i, .int .i64 x.t, .string x.x] ∧ Below w.heap.size w w') ⟨R, hbel.drew⟩ ?_
     all_goals refine Calm.lm z42 (fun _ h => Rw.whole h.1) Tryz.underlying64 ?_
     all_goals refine Calm.k1 hs (fun w1 h => C1 w1) ?_
     iterate 10 (all_goals refine Calm.sp ?_)
     all_goals first | refine Calm.sk ?_ | refine Calm.lm zm (fun _ h => Wt.mark (x := x) (Rw.whole h.1)) Tryz.underlying50 ?_
     all_goals refine Calm.sp ?_
     all_goals first | refine Calm.sk ?_ | refine Calm.lm zm (fun _ h => Wt.mark (x := x) (Rw.whole h.1)) Tryz.underlying50 ?_
     all_goals first | refine Calm.sk ?_ | refine Calm.k2 hs (fun w1 h => less_any 0 0 0 0 0 0 w1) ?_
     iterate 3 (all_goals refine Calm.sp ?_)
     all_goals
      rintro w9 ⟨_, hbel9⟩
     go_wp2_with fail
     go_roundw
     case rel => exact ⟨0 + 1, by simp, by omega, HV2, hbel9⟩
     case measure => simp [intOf]; omega
    ·obtain ⟨m, rfl⟩ : ∃ m, k = m + 1 := ⟨k - 1, by omega⟩
     have d2 := range_later (Wt.elem hd m (by omega)) (bel_alloc (Below.refl _ _) (.cells #[.int .i64 x.p, .int .i64 x.s, .int .i64 x.i, .int .i64 x.t, .string x.x] 64))
     obtain ⟨y, HY⟩ := hid_ex (l[m]'(by omega))
     rw [HY.out] at d2
     have zy : (Tryz.prog.info? 50).map (·.size) = some [Value.int .i64 y.p, .int .i64 y.s, .int .i64 y.i].length := size50
     have C2 := fun w => less_any y.p y.s y.i x.p x.s x.i w
     have hO : okk l (m + 1) hlt = lt y x := by
      unfold okk
      simp only [Nat.add_sub_cancel]
      rw [HX.out, HY1.out, HY.out]
      simp
     have HO : Hid (okk l (m + 1) hlt = lt y x) := hO
     clear hO
     have C2 : ∀ w, Calls Tryz.prog 107 #[MV y.p y.s y.i, MV x.p x.s x.i] w (Tells (.bool (lt y x)) w) := C2
     obtain ⟨y2, HY2⟩ := hid_ex (lt y x)
     rw [HY2.out] at C2 HO
     have hw1 : IntKind.i64.wrap (m : Int) = (m : Int) := by rw [IntKind.wrap_i64]; omega
     have hml2 : (m : Int) < (l.length : Int) := by omega
     go_wp2_with (refine load_m 64 _ rfl rfl _ _ rfl d Tryz.underlying64 rfl z42 ?_)
     clear hd d
     cases y2
     ·have HF := ca_not HZ hlt HO.out
      have e := HF.out
      subst e
      clear HZ HF HV
      have hs : Calm.Stays (fun w' => Rw w' wr.heap.size 64 #[.int .i64 x.p, .int .i64 x.s, .int .i64 x.i, .int .i64 x.t, .string x.x] ∧ w'.rangeAt g (o + m * 5) y.cells ∧ Below w.heap.size w w') := fun wa wb h hb => ⟨h.1.later hb, range_later h.2.1 hb, below_on h.2.2 hb⟩
      refine Calm.region (by kernel_rfl) (by kernel_rfl) (fun w' => Rw w' wr.heap.size 64 #[.int .i64 x.p, .int .i64 x.s, .int .i64 x.i, .int .i64 x.t, .string x.x] ∧ w'.rangeAt g (o + m * 5) y.cells ∧ Below w.heap.size w w') ⟨R, d2, hbel.drew⟩ ?_
      all_goals refine Calm.lm z42 (fun _ h => Rw.whole h.1) Tryz.underlying64 ?_
      all_goals refine Calm.k1 hs (fun w1 h => C1 w1) ?_
      iterate 10 (all_goals refine Calm.sp ?_)
      all_goals first | refine Calm.sk ?_ | refine Calm.lm zy (fun _ h => Wt.mark h.2.1) Tryz.underlying50 ?_ | refine Calm.lm zm (fun _ h => Wt.mark (x := x) (Rw.whole h.1)) Tryz.underlying50 ?_
      all_goals refine Calm.sp ?_
      all_goals first | refine Calm.sk ?_ | refine Calm.lm zy (fun _ h => Wt.mark h.2.1) Tryz.underlying50 ?_ | refine Calm.lm zm (fun _ h => Wt.mark (x := x) (Rw.whole h.1)) Tryz.underlying50 ?_
      all_goals first | refine Calm.sk ?_ | refine Calm.k2 hs (fun w1 h => C2 w1) ?_
      iterate 3 (all_goals refine Calm.sp ?_)
      all_goals
       rintro w9 ⟨_, _, hbel9⟩
      go_wp2_with fail
      go_ret
      exact ⟨rfl, hbel9⟩
     ·have HV2 : Hid (∀ i (h : i < l.length), i < m + 1 + 1 → okk l i h = true) := fun i h hi => by
       rcases Nat.lt_or_ge i (m + 1) with h' | h'
       ·exact HV.out i h h'
       ·obtain rfl : i = m + 1 := by omega
        exact HO.out
      clear HV HO
      have hs : Calm.Stays (fun w' => Rw w' wr.heap.size 64 #[.int .i64 x.p, .int .i64 x.s, .int .i64 x.i, .int .i64 x.t, .string x.x] ∧ w'.rangeAt g (o + m * 5) y.cells ∧ Below w.heap.size w w') := fun wa wb h hb => ⟨h.1.later hb, range_later h.2.1 hb, below_on h.2.2 hb⟩
      refine Calm.region (by kernel_rfl) (by kernel_rfl) (fun w' => Rw w' wr.heap.size 64 #[.int .i64 x.p, .int .i64 x.s, .int .i64 x.i, .int .i64 x.t, .string x.x] ∧ w'.rangeAt g (o + m * 5) y.cells ∧ Below w.heap.size w w') ⟨R, d2, hbel.drew⟩ ?_
      all_goals refine Calm.lm z42 (fun _ h => Rw.whole h.1) Tryz.underlying64 ?_
      all_goals refine Calm.k1 hs (fun w1 h => C1 w1) ?_
      iterate 10 (all_goals refine Calm.sp ?_)
      all_goals first | refine Calm.sk ?_ | refine Calm.lm zy (fun _ h => Wt.mark h.2.1) Tryz.underlying50 ?_ | refine Calm.lm zm (fun _ h => Wt.mark (x := x) (Rw.whole h.1)) Tryz.underlying50 ?_
      all_goals refine Calm.sp ?_
      all_goals first | refine Calm.sk ?_ | refine Calm.lm zy (fun _ h => Wt.mark h.2.1) Tryz.underlying50 ?_ | refine Calm.lm zm (fun _ h => Wt.mark (x := x) (Rw.whole h.1)) Tryz.underlying50 ?_
      all_goals first | refine Calm.sk ?_ | refine Calm.k2 hs (fun w1 h => C2 w1) ?_
      iterate 3 (all_goals refine Calm.sp ?_)
      all_goals
       rintro w9 ⟨_, _, hbel9⟩
      go_wp2_with fail
      go_roundw
      case rel => exact ⟨m + 1 + 1, by simp, by omega, HV2, hbel9⟩
      case measure => simp [intOf]; omega
  ·have hlt' : ¬ (k : Int) < (l.length : Int) := by omega
   have hz : z = true := by
    rw [← HZ.out, ca_iff]
    exact fun i h => HV.out i h (by omega)
   subst hz
   clear HR HV HZ
   go_wp2_with fail
   go_ret
   exact ⟨rfl, hbel⟩
end Go.Proofs.YtjbbmcommnhgeaaGreat.Rg
