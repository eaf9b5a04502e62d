import Derived.Test.YtjbbmcommnhgeaaGreatPk13
import Derived.Shelf.Spec.SlicesInsertGrow
set_option maxRecDepth 100000
set_option maxHeartbeats 8000000
namespace Go.Proofs.YtjbbmcommnhgeaaGreat.Rg
open Go.RowKit
def InPost (B : Nat) (v : Value) (n : Nat) (xs : List Value) (w : World) (e : Ending) (w' : World) : Prop := ∃ u, e = .returned u ∧ w'.ownsRow B 64 5 u n xs ∧ Kp v.ownBlock w w' ∧ Below B w w'
theorem insert_end (B : Nat) (p : Option Addr) (n c : Nat) (xs : List Value) (vb : Nat) (x : Wt) (w : World) (hown : w.ownsRow B 64 5 (.slice p n c) n xs) (hn : n ≤ 100) (hB : B ≤ w.heap.size) (R : Rw w vb 64 x.cells.toArray) :
  Calls Tryz.prog 80 #[.slice p n c, .int .i64 n, .slice (some ⟨vb, 0, none⟩) 1 1] w (InPost B (.slice p n c) (n + 1) (xs ++ x.cells) w) := by
 obtain ⟨i0, hi, hz0, hz1, hz2⟩ := info_parts info64
 have hc1 : ∀ j u, x.cells[j]? = some u → w.cell? ((⟨vb, 0, none⟩ : Addr).add j) = some u := fun j u hu => by
  rw [Addr.add_mid]
  exact Rw.whole R j u hu
 have HC : Hid (∀ j u, x.cells[j]? = some u → w.cell? ((⟨vb, 0, none⟩ : Addr).add j) = some u) := hc1
 have hnc : (n : Int) ≤ (c : Int) := by
  rcases hown.2 with ⟨h, h0⟩ | ⟨g, cap, cur, h, _, _, h2, _⟩
  ·simp only [Value.slice.injEq] at h
   omega
  ·simp only [Value.slice.injEq] at h
   omega
 clear hc1 R
 have hm1 : n + 1 ≤ maxLen := by unfold maxLen; omega
 have hm2 : (n + 1) * 48 ≤ 140737488355328 := by omega
 have HL : Hid (∀ q, (Value.slice p n c).ownBlock = some q → B ≤ q) := fun q hq => (hown.lt q hq).1
 by_cases hcn : c = n
 all_goals
  go_enter Tryz.func80, Tryz.ntmps80
  go_wp2_with (first | (at_builtin; refine wpList_append_own _ rfl _ _ 23 rfl B 64 i0 (WV 0 0 0 0 noS) 5 48 Tryz.underlying23 hi hz0 hz1 hz2 rfl (by decide) _ _ _ rfl hown ⟨vb, 0, none⟩ 1 1 x.cells rfl rfl HC.out x.one hm1 hm2 hB ?_))
  intro v2 w2 hown2 hg2 _
  go_wp2_with fail
  go_ret
  exact ⟨_, rfl, hown2, (fun b h1 h2 => hg2.block b h1 (fun e => h2 (by rw [e]; first | done | (cases p <;> rfl)))), (Below.refl _ _).grown hg2 hB (fun q hq => HL.out q (by cases p <;> exact hq))⟩
theorem f49_extern (w : World) (vb g o lb cb k : Nat) (hne : vb ≠ g) {tA tB : TypeId} {c1 c2 : Array Value} (R : Rw w vb tA c1) (R2 : Rw w g tB c2) (hk : c2.size = k + 1) : (callFunc 117 #[.slice (some ⟨vb, 0, none⟩) 1 1, .slice (some ⟨g, o, none⟩) lb cb]).run Tryz.prog w = .ok (.value (.bool false)) w := by
 rw [run_callFunc_extern Tryz.func117 (by kernel_rfl) (by kernel_rfl) (by kernel_rfl) (e := Extern.SlicesOverlaps.overlaps #[23, 23] #[4]) (by kernel_rfl),
  Lib.run_overlaps_apart w 23 4 64 Tryz.underlying23 5 (fun w => by rfl) ⟨vb, 0, none⟩ ⟨g, o, none⟩ 1 1 lb cb hne tA tB c1.size c2.size (by unfold World.shape?; rw [show w.heap[vb]? = _ from R]) (by unfold World.shape?; rw [show w.heap[g]? = _ from R2]) (by omega) (R.frozen _) (R.frozen _)]
 rfl
def put5 (xs ys : List Value) (i : Nat) : List Value := xs.take (i * 5) ++ ys ++ xs.drop (i * 5)
theorem put5_length (xs ys : List Value) (i : Nat) : (put5 xs ys i).length = xs.length + ys.length := by
 simp [put5]
 omega
theorem shift_list (cur xs ys : List Value) (n i : Nat) (hi : i < n) (hl : xs.length = n * 5) (hy : ys.length = 5) (hc : (n + 1) * 5 ≤ cur.length) (ht : cur.take (n * 5) = xs) (c1 : List Value) (h1 : c1 = cur.take ((i + 1) * 5) ++ xs.drop (i * 5) ++ cur.drop ((i + 1) * 5 + (xs.drop (i * 5)).length)) :
  (c1.take (i * 5) ++ ys ++ c1.drop (i * 5 + ys.length)).take ((n + 1) * 5) = xs.take (i * 5) ++ ys ++ xs.drop (i * 5) := by
 have hk : (cur.take ((i + 1) * 5)).length = (i + 1) * 5 := by rw [List.length_take]; omega
 have e1 : c1.take (i * 5) = xs.take (i * 5) := by
  rw [h1, List.append_assoc, List.take_append_of_le_length (by omega), List.take_take, Nat.min_eq_left (by omega), ← ht, List.take_take, Nat.min_eq_left (by omega)]
 have e2 : c1.drop (i * 5 + ys.length) = xs.drop (i * 5) ++ cur.drop ((i + 1) * 5 + (xs.drop (i * 5)).length) := by
  rw [h1, List.append_assoc, List.drop_left' (by rw [hk, hy]; omega)]
 rw [e1, e2, ← List.append_assoc, List.take_left']
 simp only [List.length_append, List.length_take, List.length_drop, hy, hl]
 omega
theorem insert_shift (B g n c i : Nat) (xs : List Value) (vb : Nat) (x : Wt) (w : World) (hown : w.ownsRow B 64 5 (.slice (some ⟨g, 0, none⟩) n c) n xs) (hi : i < n) (hc : n + 1 ≤ c) (hn : n ≤ 100) (hvb : vb ≠ g) (h1 : ∀ u ∈ xs, u.oneCell' = true) (R : Rw w vb 64 x.cells.toArray) :
  Calls Tryz.prog 80 #[.slice (some ⟨g, 0, none⟩) n c, .int .i64 i, .slice (some ⟨vb, 0, none⟩) 1 1] w (InPost B (.slice (some ⟨g, 0, none⟩) n c) (n + 1) (put5 xs x.cells i) w) := by
 obtain ⟨hxl, ⟨h0, _⟩ | ⟨g', cap, cur, h0, hBg, hg, hnc, hcm, hcs, htake⟩⟩ := hown
 ·simp at h0
 simp only [Value.slice.injEq, Option.some.injEq, Addr.mk.injEq, and_true, true_and] at h0
 obtain ⟨rfl, rfl⟩ := h0
 have hov : ∀ lb cb, (callFunc 117 #[.slice (some ⟨vb, 0, none⟩) 1 1, .slice (some ⟨g, (i + 1) * 5, none⟩) lb cb]).run Tryz.prog w = .ok (.value (.bool false)) w := fun lb cb => f49_extern w vb g _ lb cb (cur.size - 1) hvb R hg (by omega)
 have hsrc : ∀ j v, (xs.drop (i * 5))[j]? = some v → w.drew.cell? ((⟨g, i * 5, none⟩ : Addr).add j) = some v := fun j v hv => by
  rw [Addr.add_mid]
  show w.cell? _ = _
  rw [cell_of_row w g _ cur 64 (0, 0) hg]
  rw [List.getElem?_drop] at hv
  have hlt := (List.getElem?_eq_some_iff.1 hv).1
  rw [← htake, List.getElem?_take, if_pos (by omega)] at hv
  simpa using hv
 have hcp1 : ∀ ty dc sc, (Builtin.copy_ #[23, 23] ty #[.slice (some ⟨g, (i + 1) * 5, none⟩) (n - i) dc, .slice (some ⟨g, i * 5, none⟩) (n + 1 - i) sc]).run Tryz.prog w.drew = .ok (goInt ((n - i : Nat) : Int)) (w.drew.setRow g (cur.toList.take ((i + 1) * 5) ++ xs.drop (i * 5) ++ cur.toList.drop ((i + 1) * 5 + (xs.drop (i * 5)).length)).toArray) := fun ty dc sc =>
  run_copy_rowS w.drew 23 23 ty 64 g ((i + 1) * 5) (n - i) dc ⟨g, i * 5, none⟩ (n + 1 - i) sc cur 64 (xs.drop (i * 5)) 5 (n - i) Tryz.underlying23 size64 hg (by simp only [Nat.min_def]; split <;> omega) (by rw [List.length_drop]; omega) hsrc (by rw [List.length_drop]; omega) (fun v hv => h1 v (List.mem_of_mem_drop hv))
 obtain ⟨cur1, HC1⟩ := hid_ex (cur.toList.take ((i + 1) * 5) ++ xs.drop (i * 5) ++ cur.toList.drop ((i + 1) * 5 + (xs.drop (i * 5)).length)).toArray
 have hl1 : cur1.size = cur.size := by
  rw [← HC1.out]
  simp
  omega
 rw [HC1.out] at hcp1
 have hg1 : (w.drew.setRow g cur1).heap[g]? = some (.cells cur1 64 (0, 0)) := setRow_heap w.drew g cur cur1 64 (0, 0) hg
 have hsrc2 : ∀ j v, x.cells[j]? = some v → (w.drew.setRow g cur1).cell? ((⟨vb, 0, none⟩ : Addr).add j) = some v := fun j v hv => by
  rw [Addr.add_mid, World.cell?_of_block (w := w) (setRow_other w.drew g vb cur1 hvb)]
  exact Rw.whole R j v hv
 have hcp2 : ∀ (W : World), W.heap = (w.drew.setRow g cur1).heap → ∀ ty dc, (Builtin.copy_ #[23, 23] ty #[.slice (some ⟨g, i * 5, none⟩) (n + 1 - i) dc, .slice (some ⟨vb, 0, none⟩) 1 1]).run Tryz.prog W = .ok (goInt 1) (W.setRow g (cur1.toList.take (i * 5) ++ x.cells ++ cur1.toList.drop (i * 5 + x.cells.length)).toArray) := fun W hW ty dc =>
  run_copy_rowS W 23 23 ty 64 g (i * 5) (n + 1 - i) dc ⟨vb, 0, none⟩ 1 1 cur1 64 x.cells 5 1 Tryz.underlying23 size64 (by rw [hW]; exact hg1) (by simp only [Nat.min_def]; split <;> omega) rfl (fun j v hv => by rw [World.cell?_of_block (w := w.drew.setRow g cur1) (by rw [hW])]; exact hsrc2 j v hv) (by rw [Wt.len]; omega) x.one
 have hw1 : IntKind.i64.wrap ((i : Int) + 1) = (i : Int) + 1 := by rw [IntKind.wrap_i64]; omega
 have hz2 : ¬ ((i : Int) = (n : Int)) := by omega
 have hb1 : (0 : Int) ≤ (i : Int) + 1 := by omega
 have htn : ((i : Int) + 1).toNat = i + 1 := by omega
 have hb2 : ¬ (c = i + 1) := by omega
 have hb3 : (i : Int) ≤ (n : Int) + 1 := by omega
 have hb4 : ¬ (c = i) := by omega
 have hin : i ≤ n := by omega
 have mixed : Tryz.prog.follows .mixedOrders = true := by kernel_rfl
 go_enter Tryz.func80, Tryz.ntmps80
 go_wp2_with (simp only [hov])
 go_region_law_o (refine step_copy_runI rfl _ _ 23 23 rfl _ _ (by simp [Act.eval, Act.put]) (by simp [Act.eval, Act.put]) (hcp1 _ _ _) ?_)
 go_wp2_with (at_builtin; refine wpList_copy_runI _ rfl _ _ 23 23 rfl _ _ rfl rfl (hcp2 _ rfl _ _) ?_)
 go_ret
 refine ⟨_, rfl, ⟨?_, .inr ⟨g, c, _, rfl, hBg, setRow_heap _ g cur1 _ 64 (0, 0) hg1, hc, hcm, ?_, ?_⟩⟩, Kp.row (Kp.row (fun _ _ _ => rfl) _) _, below_setRow (below_setRow (Below.refl B w).drew hBg _) hBg _⟩
 ·rw [put5_length, hxl, Wt.len]
  omega
 ·simp only [List.size_toArray, List.length_append, List.length_take, List.length_cons, List.length_drop, Array.length_toList]
  omega
 ·have := shift_list cur.toList xs x.cells n i hi hxl rfl (by rw [Array.length_toList]; omega) htake cur1.toList (by rw [← HC1.out])
  rw [List.append_assoc] at this
  exact this
theorem grow_list (xs ys z1 z2 : List Value) (n i : Nat) (hi : i < n) (hl : xs.length = n * 5) (hy : ys.length = 5) (hz : z1.length = (n + 1 - i) * 5) (r1 r2 : List Value) (h1 : r1 = (xs.take (i * 5) ++ z1 ++ z2).take (i * 5) ++ ys ++ (xs.take (i * 5) ++ z1 ++ z2).drop (i * 5 + ys.length))
  (h2 : r2 = r1.take ((i + 1) * 5) ++ xs.drop (i * 5) ++ r1.drop ((i + 1) * 5 + (xs.drop (i * 5)).length)) : r2.take ((n + 1) * 5) = xs.take (i * 5) ++ ys ++ xs.drop (i * 5) ∧ r2.length = xs.length + 5 + z2.length := by
 have hk : (xs.take (i * 5)).length = i * 5 := by rw [List.length_take]; omega
 have e1 : (xs.take (i * 5) ++ z1 ++ z2).take (i * 5) = xs.take (i * 5) := by
  rw [List.append_assoc, List.take_left' hk]
 have e2 : r1.take ((i + 1) * 5) = xs.take (i * 5) ++ ys := by
  rw [h1, e1, List.take_left' (by rw [List.length_append, hk, hy]; omega)]
 refine ⟨?_, ?_⟩
 ·rw [h2, e2, List.take_left']
  simp only [List.length_append, List.length_take, List.length_drop, hy, hl]
  omega
 ·rw [h2, e2, h1, e1]
  simp only [List.length_append, List.length_take, List.length_drop, hy, hl, hz]
  omega
theorem insert_grow (B g n c i : Nat) (xs : List Value) (vb : Nat) (x : Wt) (w : World) (hown : w.ownsRow B 64 5 (.slice (some ⟨g, 0, none⟩) n c) n xs) (hi : i < n) (hc : c < n + 1) (hn : n ≤ 100) (h1 : ∀ u ∈ xs, u.oneCell' = true) (hB : B ≤ w.heap.size) (R : Rw w vb 64 x.cells.toArray) :
  Calls Tryz.prog 80 #[.slice (some ⟨g, 0, none⟩) n c, .int .i64 i, .slice (some ⟨vb, 0, none⟩) 1 1] w (InPost B (.slice (some ⟨g, 0, none⟩) n c) (n + 1) (put5 xs x.cells i) w) := by
 obtain ⟨i0, hi0, hz0, hz1, hz2⟩ := info_parts info64
 obtain ⟨hxl, ⟨h0, _⟩ | ⟨g', cap, cur, h0, hBg, hg, hnc, hcm, hcs, htake⟩⟩ := hown
 ·simp at h0
 simp only [Value.slice.injEq, Option.some.injEq, Addr.mk.injEq, and_true, true_and] at h0
 obtain ⟨rfl, rfl⟩ := h0
 have hcell : ∀ j v, xs[j]? = some v → w.cell? ⟨g, j, none⟩ = some v := fun j v hv => by
  rw [cell_of_row w g _ cur 64 (0, 0) hg]
  have hlt := (List.getElem?_eq_some_iff.1 hv).1
  rw [← htake, List.getElem?_take, if_pos (by omega)] at hv
  simpa using hv
 have hold : (Builtin.firstCells i0.size i (.slice (some ⟨g, 0, none⟩) i c)).run Tryz.prog w.drew = .ok (xs.take (i * 5)).toArray w.drew := by
  rw [hz1]
  exact run_firstCells_some w.drew 5 i ⟨g, 0, none⟩ i c (xs.take (i * 5)) (by rw [List.length_take]; omega) (fun j v hj => by
   rw [Addr.add_mid, Nat.zero_add]
   rw [List.getElem?_take] at hj
   split at hj
   ·exact hcell j v hj
   ·cases hj)
 have hrz : ∀ ty, (Builtin.append_ #[23, 3] ty #[.slice (some ⟨g, 0, none⟩) i c, .int .i64 ((n : Int) + 1 - (i : Int))]).run Tryz.prog w =
   .ok (.slice (some ⟨w.heap.size, 0, none⟩) (n + 1) (grownCap w (n + 1) c 64)) (w.drew.alloc (.cells ((xs.take (i * 5)).toArray ++ Builtin.zeroCells (WV 0 0 0 0 noS).cells (n + 1 - i) ++ Builtin.zeroCells (WV 0 0 0 0 noS).cells (grownCap w (n + 1) c 64 - (n + 1))) 64)) := fun ty => by
  have h := Lib.run_append_grow_zeros w 23 3 ty 64 i0 _ .i64 .i64 Tryz.underlying23 Tryz.underlying3 hi0 hz0 (some ⟨g, 0, none⟩) i c (xs.take (i * 5)) hold (n + 1 - i) (by omega) (by omega) (by omega) (by omega) (by rw [hz2]; omega) (by rw [hz2, show i + (n + 1 - i) = n + 1 by omega]; exact growslice_fits hc (by omega))
  rw [show i + (n + 1 - i) = n + 1 by omega] at h
  rw [show (n : Int) + 1 - (i : Int) = ((n + 1 - i : Nat) : Int) by omega]
  exact h
 obtain ⟨G, HG⟩ := hid_ex (grownCap w (n + 1) c 64)
 have hGn : n + 1 ≤ G := by rw [← HG.out]; exact grownCap_ge w _ _ _
 have hGm : G ≤ maxLen := by rw [← HG.out]; exact grownCap_le_maxLen w (n + 1) c 64 (by unfold maxLen; omega)
 have hG63 : G ≤ 9223372036854775807 := by unfold maxLen at hGm; omega
 rw [HG.out] at hrz
 obtain ⟨z1, hz1'⟩ : ∃ z1 : List Value, z1 = (Builtin.zeroCells (WV 0 0 0 0 noS).cells (n + 1 - i)).toList := ⟨_, rfl⟩
 obtain ⟨z2, hz2'⟩ : ∃ z2 : List Value, z2 = (Builtin.zeroCells (WV 0 0 0 0 noS).cells (G - (n + 1))).toList := ⟨_, rfl⟩
 have hzl1 : z1.length = (n + 1 - i) * 5 := by rw [hz1']; simp [Builtin.zeroCells, Value.cells]
 have hzl2 : z2.length = (G - (n + 1)) * 5 := by rw [hz2']; simp [Builtin.zeroCells, Value.cells]
 obtain ⟨row, hrow⟩ : ∃ row : Array Value, row = (xs.take (i * 5)).toArray ++ Builtin.zeroCells (WV 0 0 0 0 noS).cells (n + 1 - i) ++ Builtin.zeroCells (WV 0 0 0 0 noS).cells (G - (n + 1)) := ⟨_, rfl⟩
 rw [← hrow] at hrz
 have hrl : row.toList = xs.take (i * 5) ++ z1 ++ z2 := by rw [hrow, hz1', hz2']; simp
 have hrs : row.size = G * 5 := by
  rw [← Array.length_toList, hrl]
  simp only [List.length_append, List.length_take, hzl1, hzl2]
  omega
 clear hrow hz1' hz2'
 have hgw : g < w.heap.size := (Array.getElem?_eq_some_iff.1 hg).1
 have hvw : vb < w.heap.size := R.lt
 have hsrcA : ∀ j v, x.cells[j]? = some v → (w.drew.alloc (.cells row 64)).cell? ((⟨vb, 0, none⟩ : Addr).add j) = some v := fun j v hv => by
  rw [Addr.add_mid, World.cell?_of_block (w := w) (Below.heap_alloc w.drew _ vb hvw)]
  exact Rw.whole R j v hv
 have hgN : (w.drew.alloc (.cells row 64)).heap[w.heap.size]? = some (.cells row 64 (0, 0)) := heap_alloc_last w.drew _
 have hcpA : ∀ (W : World), W.heap = (w.drew.alloc (.cells row 64)).heap → ∀ ty dc, (Builtin.copy_ #[23, 23] ty #[.slice (some ⟨w.heap.size, i * 5, none⟩) (n + 1 - i) dc, .slice (some ⟨vb, 0, none⟩) 1 1]).run Tryz.prog W = .ok (goInt 1) (W.setRow w.heap.size (row.toList.take (i * 5) ++ x.cells ++ row.toList.drop (i * 5 + x.cells.length)).toArray) := fun W hW ty dc =>
  run_copy_rowS W 23 23 ty 64 w.heap.size (i * 5) (n + 1 - i) dc ⟨vb, 0, none⟩ 1 1 row 64 x.cells 5 1 Tryz.underlying23 size64 (by rw [hW]; exact hgN) (by simp only [Nat.min_def]; split <;> omega) rfl (fun j v hv => by rw [World.cell?_of_block (w := w.drew.alloc (.cells row 64)) (by rw [hW])]; exact hsrcA j v hv) (by rw [Wt.len]; omega) x.one
 obtain ⟨r1, HR1⟩ := hid_ex (row.toList.take (i * 5) ++ x.cells ++ row.toList.drop (i * 5 + x.cells.length)).toArray
 rw [HR1.out] at hcpA
 have hr1s : r1.size = G * 5 := by
  rw [← HR1.out]
  simp only [List.size_toArray, List.length_append, List.length_take, List.length_drop, Array.length_toList, Wt.len, hrs]
  omega
 have hg1 : ((w.drew.alloc (.cells row 64)).setRow w.heap.size r1).heap[w.heap.size]? = some (.cells r1 64 (0, 0)) := setRow_heap _ _ row r1 64 (0, 0) hgN
 have hsrcB : ∀ j v, (xs.drop (i * 5))[j]? = some v → ((w.drew.alloc (.cells row 64)).setRow w.heap.size r1).cell? ((⟨g, i * 5, none⟩ : Addr).add j) = some v := fun j v hv => by
  rw [Addr.add_mid, World.cell?_of_block (w := w) ((setRow_other _ w.heap.size g r1 (by omega)).trans (Below.heap_alloc w.drew _ g hgw))]
  rw [List.getElem?_drop] at hv
  exact hcell _ v hv
 have hcpB : ∀ (W : World), W.heap = ((w.drew.alloc (.cells row 64)).setRow w.heap.size r1).heap → ∀ ty dc sc, (Builtin.copy_ #[23, 23] ty #[.slice (some ⟨w.heap.size, (i + 1) * 5, none⟩) (n - i) dc, .slice (some ⟨g, i * 5, none⟩) (n - i) sc]).run Tryz.prog W = .ok (goInt ((n - i : Nat) : Int)) (W.setRow w.heap.size (r1.toList.take ((i + 1) * 5) ++ xs.drop (i * 5) ++ r1.toList.drop ((i + 1) * 5 + (xs.drop (i * 5)).length)).toArray) := fun W hW ty dc sc =>
  run_copy_rowS W 23 23 ty 64 w.heap.size ((i + 1) * 5) (n - i) dc ⟨g, i * 5, none⟩ (n - i) sc r1 64 (xs.drop (i * 5)) 5 (n - i) Tryz.underlying23 size64 (by rw [hW]; exact hg1) (Nat.min_self _) (by rw [List.length_drop]; omega) (fun j v hv => by rw [World.cell?_of_block (w := (w.drew.alloc (.cells row 64)).setRow w.heap.size r1) (by rw [hW])]; exact hsrcB j v hv) (by rw [List.length_drop]; omega) (fun v hv => h1 v (List.mem_of_mem_drop hv))
 obtain ⟨r2, HR2⟩ := hid_ex (r1.toList.take ((i + 1) * 5) ++ xs.drop (i * 5) ++ r1.toList.drop ((i + 1) * 5 + (xs.drop (i * 5)).length)).toArray
 rw [HR2.out] at hcpB
 have hfin := grow_list xs x.cells z1 z2 n i hi hxl rfl hzl1 r1.toList r2.toList (by rw [← HR1.out, hrl]) (by rw [← HR2.out])
 have HFI : Hid (r2.toList.take ((n + 1) * 5) = put5 xs x.cells i ∧ r2.size = G * 5) := ⟨hfin.1, by rw [← Array.length_toList, hfin.2]; omega⟩
 have hg2 : (((w.drew.alloc (.cells row 64)).setRow w.heap.size r1).setRow w.heap.size r2).heap[w.heap.size]? = some (.cells r2 64 (0, 0)) := setRow_heap _ _ r1 r2 64 (0, 0) hg1
 have hw1 : IntKind.i64.wrap ((i : Int) + 1) = (i : Int) + 1 := by rw [IntKind.wrap_i64]; omega
 have hz2i : ¬ ((i : Int) = (n : Int)) := by omega
 have hz3 : (c : Int) < (n : Int) + 1 := by omega
 have hb1 : (0 : Int) ≤ (i : Int) + 1 := by omega
 have htn : ((i : Int) + 1).toNat = i + 1 := by omega
 have hb3 : (i : Int) ≤ (n : Int) := by omega
 have hci : ¬ (c = i) := by omega
 have hGi : ¬ (G = i) := by omega
 have hGim : ¬ (G = i + 1) := by omega
 have hin : i ≤ n := by omega
 have mixed : Tryz.prog.follows .mixedOrders = true := by kernel_rfl
 clear hfin hold hrl hzl1 hzl2 hcell hsrcA hsrcB HR1 HR2
 have hA := hcpA (w.alloc (.cells row 64)).drew rfl 3 (G - i)
 go_enter Tryz.func80, Tryz.ntmps80
 go_wp2_with (first
  | (at_builtin; refine Lib.wpList_append_run _ rfl _ _ _ _ rfl _ _ rfl rfl _ _ (hrz _) ?_))
 go_region_law_o (refine step_copy_runI rfl _ _ 23 23 rfl (.slice (some ⟨w.heap.size, (i + 1) * 5, none⟩) (n - i) (G - (i + 1))) (.slice (some ⟨g, i * 5, none⟩) (n - i) (c - i)) (by simp [Act.eval, Act.put]) (by simp [Act.eval, Act.put]) (hcpB (((w.alloc (.cells row 64)).drew.setRow w.heap.size r1).drew) rfl 3 (G - (i + 1)) (c - i)) ?_)
 go_wp2
 go_ret
 refine ⟨_, rfl, ⟨?_, .inr ⟨w.heap.size, G, r2, rfl, hB, hg2, hGn, hGm, HFI.out.2, HFI.out.1⟩⟩, ?_, ?_⟩
 ·rw [put5_length, hxl, Wt.len]
  omega
 ·intro b h1 h2
  refine (setRow_other _ w.heap.size b _ (by omega)).trans ?_
  refine (setRow_other _ w.heap.size b _ (by omega)).trans ?_
  exact Below.heap_alloc w _ b h1
 ·exact below_setRow (below_setRow ((Below.refl B w).alloc hB _).drew hB _).drew hB _
theorem put5_rows (l : List Wt) (x : Wt) (i : Nat) : put5 (rows Wt.cells l) x.cells i = rows Wt.cells (l.take i ++ x :: l.drop i) := by
 unfold put5
 rw [rows_append, rows_cons, rows_take Wt.len, rows_drop Wt.len, List.append_assoc]
theorem insert_any (B : Nat) (v : Value) (l : List Wt) (i : Nat) (vb : Nat) (x : Wt) (w : World) (hown : w.ownsRow B 64 5 v l.length (rows Wt.cells l)) (hi : i ≤ l.length) (hn : l.length ≤ 100) (hB : B ≤ w.heap.size) (R : Rw w vb 64 x.cells.toArray) (hvb : ∀ k, v.ownBlock = some k → vb ≠ k) :
  Calls Tryz.prog 80 #[v, .int .i64 i, .slice (some ⟨vb, 0, none⟩) 1 1] w (InPost B v (l.length + 1) (rows Wt.cells (l.take i ++ x :: l.drop i)) w) := by
 rw [← put5_rows]
 obtain ⟨p, c, rfl⟩ := own_sl hown
 rcases Nat.lt_or_ge i l.length with h | h
 ·obtain ⟨g, rfl, hg⟩ := own_some hown (by omega)
  rcases Nat.lt_or_ge c (l.length + 1) with hc | hc
  ·exact insert_grow B g _ c i _ vb x w hown h hc hn (rows_all Wt.one l) hB R
  ·exact insert_shift B g _ c i _ vb x w hown h hc hn (hvb g rfl) (rows_all Wt.one l) R
 ·obtain rfl : i = l.length := by omega
  have := insert_end B p l.length c _ vb x w hown hn hB R
  rw [show put5 (rows Wt.cells l) x.cells l.length = rows Wt.cells l ++ x.cells by unfold put5; rw [List.take_of_length_le (by rw [rows_length Wt.len]; omega), List.drop_of_length_le (by rw [rows_length Wt.len]; omega), List.append_nil]]
  exact this
theorem clear1_any (y : Wt) (bt bi : Nat) (q u : Int) (v : List Int) (t : Int) (sl : Value) (idx : Int) (w : World) (hv : v.length = 13) (B : Bxs w bt bi q u v t sl idx) :
  Calls Tryz.prog 115 #[WV y.p y.s y.i y.t y.x, .pointer (some ⟨bt, 0, none⟩), .pointer (some ⟨bi, 0, none⟩)] w (Tells (.bool (bf y.p y.s y.i q u v idx)) w) := by
 have C1 := fun w => before_any y.p y.s y.i q u v t sl idx w hv
 generalize bf y.p y.s y.i q u v idx = z at C1 ⊢
 have hbel := bel_alloc (Below.refl w.heap.size w) (.cells #[.int .i64 y.p, .int .i64 y.s, .int .i64 y.i, .int .i64 y.t, .string y.x] 64)
 have R0 := rw_new w 64 #[.int .i64 y.p, .int .i64 y.s, .int .i64 y.i, .int .i64 y.t, .string y.x]
 have R1 := B.r.later hbel
 have c1 : (w.alloc (.cells #[.int .i64 y.p, .int .i64 y.s, .int .i64 y.i, .int .i64 y.t, .string y.x] 64)).cell? ⟨bi, 0, none⟩ = some (.int .i64 idx) := (B.c.later hbel).cell 0
 generalize hW : w.alloc (.cells #[.int .i64 y.p, .int .i64 y.s, .int .i64 y.i, .int .i64 y.t, .string y.x] 64) = w0 at hbel R0 R1 c1
 have d0 := Wt.mark (x := y) (Rw.whole R0)
 have zm : (Tryz.prog.info? 50).map (·.size) = some [Value.int .i64 y.p, .int .i64 y.s, .int .i64 y.i].length := size50
 have zt := size_tx (p := q) (s := u) (t := t) (sl := sl) hv
 go_enter Tryz.func115, Tryz.ntmps115
 go_wp2_with (first | rw [hW] | refine load_m 50 _ rfl rfl _ _ rfl d0 Tryz.underlying50 rfl zm ?_ | refine load_r 34 _ rfl rfl _ rfl R1 Tryz.underlying34 rfl zt ?_)
 refine (C1 _).mono ?_
 rintro e w1 ⟨rfl, hb1⟩
 go_wp2_with fail
 go_ret
 exact ⟨rfl, below_on hbel hb1⟩
def IxPost (l : List Wt) (f : Wt → Bool) (w : World) (e : Ending) (w' : World) : Prop :=
 (e = .returned (.int .i64 (-1)) ∧ (∀ y ∈ l, f y = false) ∧ Below w.heap.size w w') ∨ ∃ k : Nat, ∃ h : k < l.length, e = .returned (.int .i64 k) ∧ f l[k] = true ∧ (∀ j (hj : j < l.length), j < k → f l[j] = false) ∧ Below w.heap.size w w'
theorem index_any (v0 : Value) (l : List Wt) (f : Wt → Bool) (bt bi : Nat) (w : World) (h : WHas w v0 l) (hl : l.length ≤ 100) (C : ∀ (y : Wt) (w' : World), Below w.heap.size w w' → Calls Tryz.prog 115 #[WV y.p y.s y.i y.t y.x, .pointer (some ⟨bt, 0, none⟩), .pointer (some ⟨bi, 0, none⟩)] w' (Tells (.bool (f y)) w')) :
  Calls Tryz.prog 141 #[v0, .func (.func 115) #[] #[.pointer (some ⟨bt, 0, none⟩), .pointer (some ⟨bi, 0, none⟩)]] w (IxPost l f w) := by
 obtain ⟨pa, ca', rfl⟩ := h.slice
 have HA : Hid (WHas w (.slice pa l.length ca') l) := h
 clear h
 go_enter Tryz.func141, Tryz.ntmps141
 go_wp2
 go_loopw [8] (fun vi wr => ∃ k : Nat, vi = .int .i64 k ∧ k ≤ l.length ∧ Hid (∀ j (hj : j < l.length), j < k → f l[j] = false) ∧ Below w.heap.size w wr) (fun vi _ => l.length - (intOf vi).toNat)
 case atStart => exact ⟨0, rfl, by omega, (show ∀ j (_ : j < l.length), j < 0 → _ from fun j _ h => by omega), Below.refl _ _⟩
 case round =>
  obtain ⟨k, rfl, hk, HV, hbel⟩ := hrel
  by_cases hlt : k < l.length
  ·have hlt' : (k : Int) < (l.length : Int) := by omega
   obtain ⟨g, o, rfl, hd0⟩ := HA.out.at (by omega)
   have d := Wt.elem (range_later hd0 hbel) k hlt
   clear hd0 HA
   obtain ⟨x, HX⟩ := hid_ex l[k]
   rw [HX.out] at d
   have z42 : (Tryz.prog.info? 64).map (·.size) = some x.cells.length := size64
   have Cx := C x _ hbel
   obtain ⟨y, HY⟩ := hid_ex (f x)
   rw [HY.out] at Cx
   have HF : Hid (f l[k] = y) := by show _ = _; rw [HX.out, HY.out]
   clear C HX HY
   go_wp2_with (refine load_m 64 _ rfl rfl _ _ rfl d Tryz.underlying64 rfl z42 ?_)
   refine Cx.mono ?_
   clear Cx
   rintro e w1 ⟨rfl, hb1⟩
   replace hbel := below_on hbel hb1
   cases y
   ·go_wp2_with fail
    go_roundw
    case rel =>
     refine ⟨k + 1, by simp, by omega, (show ∀ j (hj : j < l.length), j < k + 1 → f l[j] = false from fun j hj hjk => ?_), hbel⟩
     rcases Nat.lt_or_ge j k with h' | h'
     ·exact HV.out j hj h'
     ·obtain rfl : j = k := by omega
      exact HF.out
    case measure => simp [intOf]; omega
   ·go_wp2_with fail
    go_ret
    exact .inr ⟨k, hlt, rfl, HF.out, HV.out, hbel⟩
  ·have hlt' : ¬ (k : Int) < (l.length : Int) := by omega
   clear HA C
   go_wp2_with fail
   go_ret
   refine .inl ⟨rfl, fun y hy => ?_, hbel⟩
   obtain ⟨j, hj, rfl⟩ := List.getElem_of_mem hy
   exact HV.out j hj (by omega)
section
variable {ops : Array Oper} {rest : List Oper} {op : Oper} {a : Act} {w : World} {Q : Exit → Act → World → Prop}
theorem store_mr (hgd : op.guard = none) (t : TypeId) (x y : Operand) (ho : op.op = .store t x y) (b o : Nat) (cs' : Array Value) (hx : a.eval x = .pointer (some ⟨b, o, none⟩)) (hy : a.eval y = .agg cs') {tb : TypeId} {cs : Array Value} (hc : Rw w b tb cs) (hi : (Tryz.prog.info? t).map (·.size) = some cs'.size) (hs : o + cs'.size ≤ cs.size) (h1 : cs'.all (·.oneCell') = true)
  (h : wpList Tryz.prog ops Q rest (a.put op.dst undef) (w.setRow b (cs.toList.take o ++ cs'.toList ++ cs.toList.drop (o + cs'.size)).toArray)) : wpList Tryz.prog ops Q (op :: rest) a w :=
 wpList_plain hgd fun _ hK => by
  have h2 := run_storeCells_at Tryz.prog b o tb cs'.toList 0 cs w hc (by simpa using hs) (fun v hv => (Array.all_eq_true_iff_forall_mem.1 h1) v (by simpa using hv))
  simp only [Nat.add_zero, Array.length_toList] at h2
  generalize w.setRow b (cs.toList.take o ++ cs'.toList ++ cs.toList.drop (o + cs'.size)).toArray = w1 at h2 h
  have h3 : (storeVar t ⟨b, o, none⟩ (.agg cs')).run Tryz.prog w = .ok () w1 := by
   generalize Tryz.prog = P at hi h2 ⊢
   cases hq : P.info? t with
   | none => simp [hq] at hi
   | some i =>
    have hs : cs'.size = i.size := by simp [hq] at hi; omega
    simp [storeVar, sizeOf, typeInfo, hq, Value.cells, hs, h2]
  unfold Oper.wp execOp
  simp only [ho, hx, hy, Instr.storeAt, Instr.sureAddr, Sem.run_bind, Sem.run_pure, Result.andThen_ok, h3]
  exact hK _ _ h
theorem clear_run (hgd : op.guard = none) (d : Operand) (t : TypeId) (ho : op.op = .call { callee := .builtin .clear, args := #[d], argTypes := #[t] }) (v : Value) (hd : a.eval d = v) {v' : Value} {w' : World}
  (hr : (Builtin.clear_ #[t] op.type #[v]).run Tryz.prog w = .ok v' w') (h : wpList Tryz.prog ops Q rest (a.put op.dst v') w') : wpList Tryz.prog ops Q (op :: rest) a w :=
 wpList_plain hgd fun _ hK => by
  unfold Oper.wp execOp
  generalize a.eval = ρ at hd ⊢
  subst hd
  simp [ho, go_sem, hr]
  exact hK _ _ h
end
theorem run_clear_rowS {P : Program} (w : World) (t e ty : TypeId) (z : Value) (S : Nat) (ht : P.underlying t = some (.slice e)) (hv : ∀ w, (zeroValue e).run P w = .ok z w) (hz : z.cells.size = S) (hS : 0 < S) (h1 : ∀ u ∈ z.cells.toList, u.oneCell' = true) (g o n c : Nat) (hn : 0 < n) (tb : TypeId) (cur : Array Value) (hg : w.heap[g]? = some (.cells cur tb (0, 0))) (hfit : o + n * S ≤ cur.size) :
  (Builtin.clear_ #[t] ty #[.slice (some ⟨g, o, none⟩) n c]).run P w = .ok (.tuple #[]) (w.setRow g (cur.toList.take o ++ (Builtin.zeroCells z.cells n).toList ++ cur.toList.drop (o + n * S)).toArray) := by
 have hlen : (Builtin.zeroCells z.cells n).toList.length = n * S := by simp [Builtin.zeroCells, hz]
 have h2 := run_storeCells_at P g o tb (Builtin.zeroCells z.cells n).toList 0 cur w hg (by rw [hlen]; omega) (fun u hu => by
  obtain ⟨i, hi, rfl⟩ : ∃ i, i < n * z.cells.size ∧ z.cells[i % z.cells.size]! = u := by simpa [Builtin.zeroCells] using hu
  have hlt : i % z.cells.size < z.cells.size := Nat.mod_lt _ (by omega)
  rw [getElem!_pos z.cells _ hlt]
  exact h1 _ (by simp))
 rw [hlen] at h2
 simp only [Nat.add_zero] at h2
 obtain ⟨m, rfl⟩ : ∃ m, n = m + 1 := ⟨n - 1, by omega⟩
 simp [Builtin.clear_, run_underlying ht, hv, h2]
structure DI (l : List Wt) (f : Wt → Bool) (a j : Nat) (cr : Array Value) : Prop where
 n : a = ((l.take j).filter (fun y => !f y)).length
 t : cr.toList.take (a * 5) = rows Wt.cells ((l.take j).filter (fun y => !f y))
 r : ∀ i (h : i < l.length), j ≤ i → ∀ m u, l[i].cells[m]? = some u → cr.toList[i * 5 + m]? = some u
theorem DI.start {l : List Wt} {f : Wt → Bool} {k : Nat} {cr : Array Value} (hk : k < l.length) (hf : f l[k] = true) (hb : ∀ j (hj : j < l.length), j < k → f l[j] = false) (ht : cr.toList.take (l.length * 5) = rows Wt.cells l) : DI l f k (k + 1) cr := by
 have e : (l.take (k + 1)).filter (fun y => !f y) = l.take k := by
  rw [List.take_succ_eq_append_getElem hk, List.filter_append, List.filter_cons_of_neg (by rw [hf]; simp), List.filter_nil, List.append_nil, List.filter_eq_self]
  intro y hy
  obtain ⟨j, hj, rfl⟩ := List.getElem_of_mem hy
  rw [List.length_take] at hj
  rw [List.getElem_take, hb j (by omega) (by omega)]
  rfl
 refine ⟨?_, ?_, ?_⟩
 ·rw [e, List.length_take]
  omega
 ·rw [e, rows_take Wt.len, ← ht, List.take_take, Nat.min_eq_left (by omega)]
 ·intro i h hij m u hu
  have h1 := rows_at Wt.len l i h m u hu
  have hm := (List.getElem?_eq_some_iff.1 hu).1
  rw [Wt.len] at hm
  rw [← ht, List.getElem?_take] at h1
  split at h1
  ·exact h1
  ·cases h1
theorem DI.skip {l : List Wt} {f : Wt → Bool} {a j : Nat} {cr : Array Value} (h : DI l f a j cr) (hj : j < l.length) (hf : f l[j] = true) : DI l f a (j + 1) cr := by
 have e : (l.take (j + 1)).filter (fun y => !f y) = (l.take j).filter (fun y => !f y) := by
  rw [List.take_succ_eq_append_getElem hj, List.filter_append, List.filter_cons_of_neg (by rw [hf]; simp), List.filter_nil, List.append_nil]
 exact ⟨by rw [e]; exact h.n, by rw [e]; exact h.t, fun i hi hij => h.r i hi (by omega)⟩
theorem DI.keep {l : List Wt} {f : Wt → Bool} {a j : Nat} {cr : Array Value} (h : DI l f a j cr) (hj : j < l.length) (haj : a < j) (hs : l.length * 5 ≤ cr.size) (hf : f l[j] = false) : DI l f (a + 1) (j + 1) (cr.toList.take (a * 5) ++ l[j].cells ++ cr.toList.drop (a * 5 + 5)).toArray := by
 have e : (l.take (j + 1)).filter (fun y => !f y) = (l.take j).filter (fun y => !f y) ++ [l[j]] := by
  rw [List.take_succ_eq_append_getElem hj, List.filter_append, List.filter_cons_of_pos (by rw [hf]; rfl), List.filter_nil]
 have hl : (cr.toList.take (a * 5)).length = a * 5 := by rw [List.length_take, Array.length_toList]; omega
 refine ⟨?_, ?_, ?_⟩
 ·rw [e, List.length_append, ← h.n]
  rfl
 ·rw [e, rows_append, rows_one, List.toList_toArray, List.take_left' (by rw [List.length_append, hl, Wt.len]; omega), h.t]
 ·intro i hi hij m u hu
  have hm := (List.getElem?_eq_some_iff.1 hu).1
  rw [Wt.len] at hm
  have h1 := h.r i hi (by omega) m u hu
  rw [List.toList_toArray, List.getElem?_append_right (by rw [List.length_append, hl, Wt.len]; omega), List.length_append, hl, Wt.len, List.getElem?_drop, show a * 5 + 5 + (i * 5 + m - (a * 5 + 5)) = i * 5 + m by omega]
  exact h1
theorem DI.elem {l : List Wt} {f : Wt → Bool} {a j g : Nat} {cr : Array Value} {w : World} (h : DI l f a j cr) (hj : j < l.length) (hg : Rw w g 64 cr) : w.rangeAt g (j * 5) l[j].cells := fun m u hu => by
 rw [hg.cell]
 have := h.r j hj (Nat.le_refl _) m u hu
 simpa using this
theorem zero64 : ∀ w, (zeroValue 64).run Tryz.prog w = .ok (WV 0 0 0 0 noS) w := Tryz.zeroValue64
def DlPost (B : Nat) (v0 : Value) (l : List Wt) (w : World) (e : Ending) (w' : World) : Prop := ∃ u, e = .returned u ∧ w'.ownsRow B 64 5 u l.length (rows Wt.cells l) ∧ Kp v0.ownBlock w w' ∧ (u.ownBlock = none ∨ u.ownBlock = v0.ownBlock) ∧ Below B w w'
theorem delete_any (B : Nat) (v0 : Value) (l : List Wt) (bt bi : Nat) (q u : Int) (v : List Int) (t : Int) (sl : Value) (idx : Int) (w : World) (hv : v.length = 13) (hown : w.ownsRow B 64 5 v0 l.length (rows Wt.cells l)) (hl : l.length ≤ 100) (hbt : bt < B) (hbi : bi < B) (hBw : B ≤ w.heap.size) (hX : Bxs w bt bi q u v t sl idx) :
  Calls Tryz.prog 114 #[v0, .func (.func 115) #[] #[.pointer (some ⟨bt, 0, none⟩), .pointer (some ⟨bi, 0, none⟩)]] w (DlPost B v0 (l.filter (fun y => !bf y.p y.s y.i q u v idx)) w) := by
 obtain ⟨f, hf⟩ : ∃ f : Wt → Bool, f = fun y => bf y.p y.s y.i q u v idx := ⟨_, rfl⟩
 have C : ∀ (y : Wt) (w' : World), Bxs w' bt bi q u v t sl idx → Calls Tryz.prog 115 #[WV y.p y.s y.i y.t y.x, .pointer (some ⟨bt, 0, none⟩), .pointer (some ⟨bi, 0, none⟩)] w' (Tells (.bool (f y)) w') := fun y w' h => by rw [hf]; exact clear1_any y bt bi q u v t sl idx w' hv h
 rw [show (fun y : Wt => !bf y.p y.s y.i q u v idx) = fun y => !f y by rw [hf]]
 clear hf
 obtain ⟨p, c, rfl⟩ := own_sl hown
 have CI := index_any _ l f bt bi w (own_sh hown) hl (fun y w' hb => C y w' (hX.later hb))
 have HX : Hid (Bxs w bt bi q u v t sl idx) := hX
 have HO : Hid (w.ownsRow B 64 5 (.slice p l.length c) l.length (rows Wt.cells l)) := hown
 clear hown hX
 go_enter Tryz.func114, Tryz.ntmps114
 go_wp2_with fail
 refine CI.mono ?_
 clear CI
 rintro e w1 (⟨rfl, hall, hb1⟩ | ⟨k, hk, rfl, hfk, hbf, hb1⟩)
 ·have HE : Hid (l.filter (fun y => !f y) = l) := by
   show _ = _
   rw [List.filter_eq_self]
   intro y hy
   rw [hall y hy]
   rfl
  clear hall C
  go_wp2_with fail
  go_ret
  refine ⟨_, rfl, ?_, fun b h _ => hb1.block b h, .inr rfl, hb1.mono hBw⟩
  rw [HE.out]
  exact own_later HO.out hb1
 ·obtain ⟨g, rfl, hg⟩ := own_some HO.out (by omega)
  have ho := own_later HO.out hb1
  obtain ⟨hxl, ⟨h0, _⟩ | ⟨g', cap, cur, h0, hBg, hgc, hnc, hcm, hcs, htake⟩⟩ := ho
  ·simp at h0
  simp only [Value.slice.injEq, Option.some.injEq, Addr.mk.injEq, and_true, true_and] at h0
  obtain ⟨rfl, rfl⟩ := h0
  have HD : Hid (DI l f k (k + 1) cur) := DI.start hk hfk hbf htake
  have HB : Hid (Bxs w1 bt bi q u v t sl idx) := HX.out.later hb1
  have HR : Hid (Rw w1 g 64 cur) := hgc
  have hbel := hb1.mono hBw
  have HK : Hid (Kp (some g) w w1) := fun b h _ => hb1.block b h
  have hsw : w.heap.size ≤ w1.heap.size := hb1.size
  clear HX HO hfk hbf htake hxl hgc hb1
  have hkb : ((k : Int) == -1) = false := by
   rw [beq_eq_false_iff_ne]
   omega
  go_wp2_with fail
  go_loopw [5, 6] (fun vi vj wr => ∃ a j : Nat, ∃ cr : Array Value, vi = .int .i64 a ∧ vj = .int .i64 j ∧ j ≤ l.length ∧ a < j ∧ Hid (DI l f a j cr) ∧ cr.size = c * 5 ∧ Hid (Rw wr g 64 cr) ∧ Hid (Bxs wr bt bi q u v t sl idx) ∧ Hid (Kp (some g) w wr) ∧ w.heap.size ≤ wr.heap.size ∧ Below B w wr) (fun _ vj _ => l.length - (intOf vj).toNat)
  case atStart => exact ⟨k, k + 1, cur, rfl, by simp, by omega, by omega, HD, hcs, HR, HB, HK, hsw, hbel⟩
  case round =>
   clear HD hcs HR HB HK hsw hbel
   obtain ⟨a, j, cr, rfl, rfl, hj, haj, HD, hcs, HR, HB, HK, hsw, hbel⟩ := hrel
   by_cases hlt : j < l.length
   ·have hlt' : (j : Int) < (l.length : Int) := by omega
    have hgl := HR.out.lt
    have d := DI.elem HD.out hlt HR.out
    obtain ⟨x, HXX⟩ := hid_ex l[j]
    rw [HXX.out] at d
    have z42 : (Tryz.prog.info? 64).map (·.size) = some x.cells.length := size64
    have hbA := bel_alloc (Below.refl wr.heap.size wr) (.cells #[.int .i64 x.p, .int .i64 x.s, .int .i64 x.i, .int .i64 x.t, .string x.x] 64)
    have R := rw_new wr 64 #[.int .i64 x.p, .int .i64 x.s, .int .i64 x.i, .int .i64 x.t, .string x.x]
    have Cx := C x _ (HB.out.later hbA)
    obtain ⟨y, HY⟩ := hid_ex (f x)
    rw [HY.out] at Cx
    have HF : Hid (f l[j] = y) := by show _ = _; rw [HXX.out, HY.out]
    clear C HY
    have hBr := Nat.le_trans hBw hbel.size
    go_wp2_with (refine load_m 64 _ rfl rfl _ _ rfl d Tryz.underlying64 rfl z42 ?_)
    refine Cx.mono ?_
    clear Cx d
    rintro e w2 ⟨rfl, hb2⟩
    have hbC := below_on hbA hb2
    replace R := R.later hb2
    replace HR : Hid (Rw w2 g 64 cr) := HR.out.later hbC
    replace HB : Hid (Bxs w2 bt bi q u v t sl idx) := HB.out.later hbC
    replace hbel := hbel.trans (hbC.mono hBr)
    replace HK : Hid (Kp (some g) w w2) := HK.out.on hsw hbC
    replace hsw := Nat.le_trans hsw hbC.size
    clear hbA hb2 hbC
    cases y
    ·have HD2 : Hid (DI l f (a + 1) (j + 1) (cr.toList.take (a * 5) ++ x.cells ++ cr.toList.drop (a * 5 + 5)).toArray) := by
      have := DI.keep HD.out hlt haj (by omega) HF.out
      rw [HXX.out] at this
      exact this
     have hal' : (a : Int) < (l.length : Int) := by omega
     have ha0 : (0 : Int) ≤ (a : Int) := by omega
     have RR := HR.out
     clear HXX HF
     go_wp2_with (first | refine load_r 64 _ rfl rfl _ rfl R Tryz.underlying64 rfl size64 ?_ | refine store_mr rfl 64 _ _ rfl _ _ #[.int .i64 x.p, .int .i64 x.s, .int .i64 x.i, .int .i64 x.t, .string x.x] rfl rfl RR size64 ?hfit (by simp [Value.oneCell']) ?_)
     case hfit => simp; omega
     go_roundw
     case rel =>
      refine ⟨a + 1, j + 1, _, by simp, by simp, by omega, by omega, ?_, ?_, RR.row _, HB.out.row (by omega) (by omega) _, HK.out.row _, (by simpa [World.setRow] using hsw), below_setRow hbel hBg _⟩
      ·have := HD2.out
       simp only [List.append_assoc, List.cons_append, List.nil_append] at this
       exact this
      ·simp
       omega
     case measure => simp [intOf]; omega
    ·have HD2 : Hid (DI l f a (j + 1) cr) := DI.skip HD.out hlt HF.out
     clear HF HXX R
     go_wp2_with fail
     go_roundw
     case rel => exact ⟨a, j + 1, cr, rfl, by simp, by omega, by omega, HD2, hcs, HR, HB, HK, hsw, hbel⟩
     case measure => simp [intOf]; omega
   ·obtain rfl : j = l.length := by omega
    have hlt' : ¬ (l.length : Int) < (l.length : Int) := by omega
    have hal' : (a : Int) < (l.length : Int) := by omega
    have hale : (a : Int) ≤ (l.length : Int) := by omega
    have hca : ¬ (c = a) := by omega
    have hac : (a : Int) ≤ (c : Int) := by omega
    have han : a ≤ l.length := by omega
    have ha0 : (0 : Int) ≤ (a : Int) := by omega
    have RR := HR.out
    have hcl : ∀ ty cc, (Builtin.clear_ #[23] ty #[.slice (some ⟨g, a * 5, none⟩) (l.length - a) cc]).run Tryz.prog wr = .ok (.tuple #[]) (wr.setRow g (cr.toList.take (a * 5) ++ (Builtin.zeroCells (WV 0 0 0 0 noS).cells (l.length - a)).toList ++ cr.toList.drop (a * 5 + (l.length - a) * 5)).toArray) := fun ty cc => run_clear_rowS wr 23 64 ty _ 5 Tryz.underlying23 zero64 rfl (by decide) (by intro u hu; simp [Value.cells] at hu; rcases hu with rfl | rfl <;> rfl) g (a * 5) _ cc (by omega) 64 cr RR (by omega)
    obtain ⟨cr2, HC2⟩ := hid_ex (cr.toList.take (a * 5) ++ (Builtin.zeroCells (WV 0 0 0 0 noS).cells (l.length - a)).toList ++ cr.toList.drop (a * 5 + (l.length - a) * 5)).toArray
    rw [HC2.out] at hcl
    have hs2 : cr2.size = c * 5 := by
     rw [← HC2.out]
     simp [Builtin.zeroCells, Value.cells]
     omega
    have ht2 : cr2.toList.take (a * 5) = rows Wt.cells (l.filter (fun y => !f y)) := by
     have := HD.out.t
     rw [List.take_length] at this
     rw [← HC2.out, ← this, List.toList_toArray, List.append_assoc, List.take_left' (by rw [List.length_take, Array.length_toList]; omega)]
    have hn2 : a = (l.filter (fun y => !f y)).length := by
     have := HD.out.n
     rwa [List.take_length] at this
    have HP : Hid (a = (l.filter (fun y => !f y)).length ∧ cr2.toList.take (a * 5) = rows Wt.cells (l.filter (fun y => !f y))) := ⟨hn2, ht2⟩
    clear ht2 hn2 HC2 C HD HB HR
    go_wp2_with (first | (at_builtin; refine clear_run rfl _ 23 rfl _ rfl (hcl _ _) ?_))
    go_ret
    refine ⟨_, rfl, ?_, HK.out.row _, .inr rfl, below_setRow hbel hBg _⟩
    obtain ⟨h1, h2⟩ := HP.out
    rw [← h1, ← h2]
    refine ⟨?_, .inr ⟨g, c, cr2, rfl, hBg, RR.row cr2, by omega, hcm, hs2, rfl⟩⟩
    rw [List.length_take, Array.length_toList]
    omega
theorem four_zero {w w' : World} {x : X} {va vw vm ve : Value} (h : Four w x va vw vm ve) (h1 : x.am.length = 0) (h2 : x.mb.length = 0) (h3 : x.el.length = 0) {vw' : Value} {l : List Wt} (ha : WHas w' vw' l) : Four w' { x with wr := l } va vw' vm ve := by
 obtain ⟨k, b, am, wr, mb, el⟩ := x
 obtain rfl := List.eq_nil_of_length_eq_zero h1
 obtain rfl := List.eq_nil_of_length_eq_zero h2
 obtain rfl := List.eq_nil_of_length_eq_zero h3
 obtain ⟨ht, _, ⟨ms, e1, e2, _⟩, ⟨es, e3, e4, _⟩⟩ := h
 obtain rfl := List.map_eq_nil_iff.1 e1
 obtain rfl := List.map_eq_nil_iff.1 e3
 exact ⟨SHas.zero ht, ha, ⟨[], rfl, SHas.zero e2, fun _ h => by cases h⟩, ⟨[], rfl, SHas.zero e4, fun _ h => by cases h⟩⟩
def lef (l : List Wt) (q u : Int) (v : List Int) (idx : Int) : List Wt := l.filter (fun y => !bf y.p y.s y.i q u v idx)
def clX (x : X) (q u : Int) (v : List Int) (idx : Int) : X := if ck x = true then { x with wr := lef x.wr q u v idx } else x
def ClrPost (z : X) (w : World) (e : Ending) (w' : World) : Prop := ∃ va vw vm ve, e = .returned (CV z.k z.b va vw vm ve) ∧ Four w' z va vw vm ve ∧ w'.ownsRow w.heap.size 64 5 vw z.wr.length (rows Wt.cells z.wr) ∧ Below w.heap.size w w'
theorem clear_own (x : X) (va vw vm ve : Value) (q u : Int) (v : List Int) (t : Int) (sl : Value) (idx : Int) (w : World) (hv : v.length = 13) (h : Four w x va vw vm ve) (hs : Sm x) :
  Calls Tryz.prog 79 #[CV x.k x.b va vw vm ve, TxV q u v t sl, .int .i64 idx] w (ClrPost (clX x q u v idx) w) := by
 obtain ⟨pa, ca', pw, cw, pm, cm, pe, ce, rfl, rfl, rfl, rfl⟩ := h.slices
 have HF : Hid (Four w x (.slice pa x.am.length ca') (.slice pw x.wr.length cw) (.slice pm x.mb.length cm) (.slice pe x.el.length ce)) := h
 clear h
 obtain ⟨z, HZ⟩ := hid_ex (clX x q u v idx)
 rw [HZ.out]
 have R0 := (((rw_new w 27 (cx x pa ca' pw cw pm cm pe ce)).alloc (.cells (txc q u v t sl).toArray 34)).alloc (.cells #[.int .i64 idx] 3)).alloc (.cells z4 27)
 have R1 := ((rw_new (w.alloc (.cells (cx x pa ca' pw cw pm cm pe ce) 27)) 34 (txc q u v t sl).toArray).alloc (.cells #[.int .i64 idx] 3)).alloc (.cells z4 27)
 have R2 := (rw_new ((w.alloc (.cells (cx x pa ca' pw cw pm cm pe ce) 27)).alloc (.cells (txc q u v t sl).toArray 34)) 3 #[.int .i64 idx]).alloc (.cells z4 27)
 have R3 := rw_new (((w.alloc (.cells (cx x pa ca' pw cw pm cm pe ce) 27)).alloc (.cells (txc q u v t sl).toArray 34)).alloc (.cells #[.int .i64 idx] 3)) 27 z4
 have hbel := bel_alloc (bel_alloc (bel_alloc (bel_alloc (Below.refl w.heap.size w) (.cells (cx x pa ca' pw cw pm cm pe ce) 27)) (.cells (txc q u v t sl).toArray 34)) (.cells #[.int .i64 idx] 3)) (.cells z4 27)
 have hsz : ((((w.alloc (.cells (cx x pa ca' pw cw pm cm pe ce) 27)).alloc (.cells (txc q u v t sl).toArray 34)).alloc (.cells #[.int .i64 idx] 3)).alloc (.cells z4 27)).heap.size = w.heap.size + 4 := by simp
 generalize hW : (((w.alloc (.cells (cx x pa ca' pw cw pm cm pe ce) 27)).alloc (.cells (txc q u v t sl).toArray 34)).alloc (.cells #[.int .i64 idx] 3)).alloc (.cells z4 27) = w0 at R0 R1 R2 R3 hbel hsz
 simp only [World.size_alloc, Nat.add_assoc, Nat.reduceAdd] at R1 R2 R3
 go_enter Tryz.func79, Tryz.ntmps79
 go_wp2_with (first | rw [hW] | refine load_r 27 _ rfl rfl _ rfl R0 Tryz.underlying27 rfl size27 ?_)
 clear hW
 refine (copied_any x _ _ _ _ w0 (HF.out.later hbel) hs).mono ?_
 rintro e w1 ⟨ua, uw, um, ue, rfl, ho, hb1⟩
 obtain ⟨qa, da, qw, dw, qm, dm, qe, de, rfl, rfl, rfl, rfl⟩ := ho.four.slices
 rw [hsz] at ho
 replace R0 := R0.later hb1
 replace R1 := R1.later hb1
 replace R2 := R2.later hb1
 replace R3 := R3.later hb1
 replace hbel := below_on hbel hb1
 have hB : w.heap.size + 4 ≤ w1.heap.size := by have := hb1.size; omega
 clear hb1 hsz
 have hlt := World.ownsRow.lt ho.t
 have hbA := bel_alloc (Below.refl w1.heap.size w1) (.cells (cx x qa da qw dw qm dm qe de) 27)
 have R7 := rw_new w1 27 (cx x qa da qw dw qm dm qe de)
 replace R0 := R0.later hbA
 replace R1 := R1.later hbA
 replace R2 := R2.later hbA
 replace R3 := R3.later hbA
 replace ho := ho.later hbA
 replace hbel := below_on hbel hbA
 have hne : ∀ k, (Value.slice qw x.wr.length dw).ownBlock = some k → k ≠ w1.heap.size := fun k hk => by have := (hlt k hk).2; omega
 have h7 : w.heap.size + 4 ≤ w1.heap.size := hB
 replace hB : w.heap.size + 4 ≤ (w1.alloc (.cells (cx x qa da qw dw qm dm qe de) 27)).heap.size := Nat.le_trans hB hbA.size
 clear hlt hbA
 generalize hW : w1.alloc (.cells (cx x qa da qw dw qm dm qe de) 27) = w2 at R0 R1 R2 R3 R7 ho hbel hB
 go_wp2_with (first | rw [hW] | refine load_r 27 _ rfl rfl _ rfl R0 Tryz.underlying27 rfl size27 ?_)
 clear hW
 refine (check_any x _ _ _ _ w2 (HF.out.later hbel) hs).mono ?_
 rintro e w3 ⟨rfl, hb1⟩
 replace R1 := R1.later hb1
 replace R2 := R2.later hb1
 replace R3 := R3.later hb1
 replace R7 := R7.later hb1
 replace ho := ho.later hb1
 replace hbel := below_on hbel hb1
 replace hB := Nat.le_trans hB hb1.size
 clear hb1 R0 HF
 obtain ⟨y1, HY1⟩ := hid_ex (ck x)
 rw [HY1.out]
 cases y1
 ·have HD : Hid (clX x q u v idx = x) := by
   show _ = _
   unfold clX
   rw [HY1.out]
   rfl
  rw [HD.out] at HZ
  go_wp2_with (first | refine load_r 27 _ rfl rfl _ rfl R7 Tryz.underlying27 rfl size27 ?_ | refine store_r rfl 27 _ _ rfl _ (cx x qa da qw dw qm dm qe de) rfl rfl R3 size27 rfl (by simp [Value.oneCell']) ?_)
  refine bodyPost_ret (results_r rfl rfl (R3.row (cx x qa da qw dw qm dm qe de)) rfl Tryz.underlying27 size27) rfl ?_
  have e := HZ.out
  subst e
  have ho2 := ho.row (by omega) R3 (cx x qa da qw dw qm dm qe de)
  exact ⟨_, _, _, _, rfl, ho2.four, own_mono ho2.t (by omega), below_setRow hbel (by omega) _⟩
 ·have HD : Hid (clX x q u v idx = { x with wr := lef x.wr q u v idx }) := by
   show _ = _
   unfold clX
   rw [HY1.out]
   rfl
  have c3 : w3.cell? ⟨w1.heap.size, 3, none⟩ = some (.slice qw x.wr.length dw) := R7.cell 3
  go_wp2_with fail
  refine (delete_any (w.heap.size + 4) _ x.wr _ _ q u v t sl idx w3 hv ho.t hs.t (by omega) (by omega) hB ⟨R1, R2⟩).mono ?_
  rintro e w4 ⟨ub, rfl, hob, hkp, hub, hb1⟩
  replace hob : w4.ownsRow (w.heap.size + 4) 64 5 ub (lef x.wr q u v idx).length (rows Wt.cells (lef x.wr q u v idx)) := hob
  obtain ⟨qb, db, rfl⟩ := own_sl hob
  have hlb := World.ownsRow.lt hob
  replace R3 : Rw w4 (w.heap.size + 3) 27 _ := (hb1.block _ (by omega)).trans R3
  replace R7 : Rw w4 w1.heap.size 27 _ := (hkp _ R7.lt (fun e => hne _ e rfl)).trans R7
  have hnb : ∀ k, (Value.slice qb (lef x.wr q u v idx).length db).ownBlock = some k → k ≠ w1.heap.size := fun k hk => by
   rcases hub with h | h
   ·rw [h] at hk
    cases hk
   ·rw [h] at hk
    exact hne k hk
  replace hbel := hbel.trans (hb1.mono (by omega))
  have hz0 := ck_parts HY1.out
  have hfz : ∀ w' : World, WHas w' (.slice qb (lef x.wr q u v idx).length db) (lef x.wr q u v idx) → Four w' { x with wr := lef x.wr q u v idx } (.slice qa x.am.length da) (.slice qb (lef x.wr q u v idx).length db) (.slice qm x.mb.length dm) (.slice qe x.el.length de) := fun w' ha => four_zero ho.four hz0.2.2.1 hz0.2.2.2.1 hz0.2.2.2.2.1 ha
  have HFZ : Hid (∀ w' : World, WHas w' (.slice qb (lef x.wr q u v idx).length db) (lef x.wr q u v idx) → Four w' { x with wr := lef x.wr q u v idx } (.slice qa x.am.length da) (.slice qb (lef x.wr q u v idx).length db) (.slice qm x.mb.length dm) (.slice qe x.el.length de)) := hfz
  clear hfz hz0 hkp hb1 hub c3 ho
  obtain ⟨m, HM⟩ := hid_ex (lef x.wr q u v idx)
  rw [HM.out] at HFZ hob hnb HD ⊢
  have c4 : w4.cell? ⟨w1.heap.size, 3, none⟩ = some (.slice qw x.wr.length dw) := R7.cell 3
  have f4 : w4.frozen? ⟨w1.heap.size, 3, none⟩ = false := R7.frozen 3
  replace R7 : Rw (w4.setCell ⟨w1.heap.size, 3, none⟩ (.slice qb m.length db)) w1.heap.size 27 (cvc x.k x.b (.slice qa x.am.length da) (.slice qb m.length db) (.slice qm x.mb.length dm) (.slice qe x.el.length de)) := R7.set 3 _
  replace R3 := R3.setOther (q := w1.heap.size) (by omega) 3 (.slice qb m.length db)
  replace hob := own_over hob (b := w1.heap.size) hnb 3 (.slice qb m.length db)
  replace hbel := hbel.setCell (p := ⟨w1.heap.size, 3, none⟩) (by show w.heap.size ≤ w1.heap.size; omega) (.slice qb m.length db)
  generalize hW : w4.setCell ⟨w1.heap.size, 3, none⟩ (.slice qb m.length db) = w5 at R7 R3 hob hbel
  go_wp2_with (first | rw [hW] | refine load_r 27 _ rfl rfl _ rfl R7 Tryz.underlying27 rfl size27 ?_ | refine store_r rfl 27 _ _ rfl _ (cvc x.k x.b (.slice qa x.am.length da) (.slice qb m.length db) (.slice qm x.mb.length dm) (.slice qe x.el.length de)) rfl rfl R3 size27 rfl (by simp [Value.oneCell']) ?_)
  refine bodyPost_ret (results_r rfl rfl (R3.row _) rfl Tryz.underlying27 size27) rfl ?_
  rw [HD.out] at HZ
  have e := HZ.out
  subst e
  have hf := own_row hob (b := w.heap.size + 3) (by omega) (cvc x.k x.b (.slice qa x.am.length da) (.slice qb m.length db) (.slice qm x.mb.length dm) (.slice qe x.el.length de))
  exact ⟨_, _, _, _, rfl, HFZ.out _ (own_sh hf), own_mono hf (by omega), below_setRow hbel (by omega) _⟩
theorem clear_any (x : X) (va vw vm ve : Value) (q u : Int) (v : List Int) (t : Int) (sl : Value) (idx : Int) (w : World) (hv : v.length = 13) (h : Four w x va vw vm ve) (hs : Sm x) :
  Calls Tryz.prog 79 #[CV x.k x.b va vw vm ve, TxV q u v t sl, .int .i64 idx] w (Gives (clX x q u v idx) w) :=
 (clear_own x va vw vm ve q u v t sl idx w hv h hs).mono fun _ _ ⟨ua, uw, um, ue, e, hf, _, hb⟩ => ⟨ua, uw, um, ue, e, hf, hb⟩
end Go.Proofs.YtjbbmcommnhgeaaGreat.Rg
namespace Go.Proofs.YtjbbmcommnhgeaaGreat.Os
open Go.RowKit Go.Sort
def TtPost (l : List Bs) (w : World) (e : Ending) (w' : World) : Prop := ∃ u, e = .returned u ∧ THas w' u l ∧ Below w.heap.size w w'
theorem one_str (y : ByteArray) : ∀ u ∈ [Value.string y], u.oneCell' = true := by
 intro u hu
 rw [List.mem_singleton.1 hu]
 rfl
theorem txL_take {l : List Mb} {k : Nat} (h : k < l.length) : (txL (l.take (k + 1))).map encStr = (txL (l.take k)).map encStr ++ [.string l[k].x] := by
 unfold txL
 rw [List.take_succ_eq_append_getElem h, List.map_append, List.map_append]
 rfl
theorem texts_any (v : Value) (l : List Mb) (w : World) (h : BHas w v l) (hl : l.length ≤ 200) : Calls Tryz.prog 228 #[v] w (TtPost (txL l) w) := by
 obtain ⟨i0, hi, hz0, hz1, hz2⟩ := info_parts info9
 obtain ⟨ys, hys, h, hy⟩ := h
 obtain ⟨p, c, rfl⟩ := h.slice
 have hyl : ys.length = l.length := by rw [← hys, List.length_map]
 have HR : Hid (SHas 3 w (.slice p l.length c) l.length (rows Mb.cells ys)) := h
 have HY : Hid (∀ y ∈ ys, MHas w y.2 y.1.ms) := hy
 have HL : Hid (∀ k (h1 : k < ys.length) (h2 : k < l.length), ys[k].1 = l[k]) := fun k h1 h2 => by
  subst hys
  rw [List.getElem_map]
 clear h hy hys
 go_enter Tryz.func228, Tryz.ntmps228
 go_wp2
 go_loopw [3, 8] (fun vn vi wr => ∃ k : Nat, vi = .int .i64 k ∧ k ≤ l.length ∧ wr.ownsRow w.heap.size 9 1 vn k ((txL (l.take k)).map encStr) ∧ Below w.heap.size w wr) (fun _ vi _ => l.length - (intOf vi).toNat)
 case atStart => exact ⟨0, rfl, by omega, by rw [List.take_zero]; exact World.ownsRow_nil _ _ _ _, Below.refl _ _⟩
 case round =>
  obtain ⟨k, rfl, hk, hown, hbel⟩ := hrel
  obtain ⟨P, cc, rfl⟩ := own_sl hown
  by_cases hlt : k < l.length
  ·have hlt' : (k : Int) < (l.length : Int) := by omega
   obtain ⟨g, o, rfl, hd0⟩ := HR.out.at (by omega)
   have d := Mb.elem (range_later hd0 hbel) k (by omega)
   have hyk := (HY.out ys[k] (List.getElem_mem _)).later hbel
   have HT := txL_take hlt
   rw [← HL.out k (by omega) hlt] at HT
   have HTT : Hid ((txL (l.take (k + 1))).map encStr = (txL (l.take k)).map encStr ++ [.string (ys[k]'(by omega)).1.x]) := HT
   clear HT hd0
   obtain ⟨yy, HX⟩ := hid_ex (ys[k]'(by omega))
   rw [HX.out] at d hyk HTT
   obtain ⟨y, yv⟩ := yy
   replace hyk : MHas wr yv y.ms := hyk
   obtain ⟨py, cy, rfl⟩ := hyk.slice
   replace d : wr.rangeAt g (o + k * 3) [Value.string y.x, .bool y.b, .slice py y.ms.length cy] := d
   replace HTT : Hid ((txL (l.take (k + 1))).map encStr = (txL (l.take k)).map encStr ++ [.string y.x]) := HTT
   clear HX hyk
   have zb : (Tryz.prog.info? 67).map (·.size) = some [Value.string y.x, .bool y.b, .slice py y.ms.length cy].length := size67
   have R5 := rw_new wr 67 #[.string y.x, .bool y.b, .slice py y.ms.length cy]
   have hbA := bel_alloc (Below.refl wr.heap.size wr) (.cells #[.string y.x, .bool y.b, .slice py y.ms.length cy] 67)
   have hBg : ∀ q', (Value.slice P k cc).ownBlock = some q' → w.heap.size ≤ q' := fun q' hq => (World.ownsRow.lt hown q' hq).1
   replace hown := own_later hown hbA
   replace hbel := below_on hbel hbA
   generalize hW : wr.alloc (.cells #[.string y.x, .bool y.b, .slice py y.ms.length cy] 67) = w1 at R5 hown hbel
   have cx : w1.cell? ⟨wr.heap.size, 0, none⟩ = some (.string y.x) := R5.cell 0
   clear hbA
   go_wp2_with (first
    | rw [hW]
    | refine load_m 67 _ rfl rfl _ _ rfl d Tryz.underlying67 rfl zb ?_
    | (at_builtin; refine wpList_append_own _ rfl _ _ 43 rfl w.heap.size 9 i0 (.string noS) 1 16 Tryz.underlying43 hi hz0 hz1 hz2 rfl (by decide) _ _ _ rfl (hown.alloc _) ⟨w1.heap.size, 0, none⟩ 1 1 [.string y.x] rfl rfl ?c1 ?c2 ?c3 ?c4 ?c5 ?_))
   case c1 => exact fun q u hq => (cells_next _ (by simp) _ _ _).trans hq
   case c2 => exact one_str y.x
   case c3 => unfold maxLen; omega
   case c4 => omega
   case c5 => have := hbel.size; simp; omega
   intro v2 w6 hown6 hg6 _
   go_wp2_with fail
   go_roundw
   case rel => exact ⟨k + 1, by simp, by omega, by rw [HTT.out]; exact hown6, (bel_alloc hbel _).grown hg6 (by have := hbel.size; simp; omega) (fun q' hq => hBg q' hq)⟩
   case measure => simp [intOf]; omega
  ·have hlt' : ¬ (k : Int) < (l.length : Int) := by omega
   obtain rfl : k = l.length := by omega
   rw [List.take_length] at hown
   have hsh := own_sh hown
   have HS : Hid (SHas 1 wr (.slice P l.length cc) l.length ((txL l).map encStr)) := hsh
   clear HR HY HL hown hsh
   go_wp2_with fail
   go_ret
   refine ⟨_, rfl, ?_, hbel⟩
   show SHas 1 _ _ (txL l).length _
   rw [show (txL l).length = l.length by simp [txL]]
   exact HS.out
def rdK (x : X) : Int := if ck x = true then 4 else 0
def rdT (x : X) : List Bs := if ck x = true then txL x.mb else []
def RdPost (x : X) (w : World) (e : Ending) (w' : World) : Prop := ∃ u, e = .returned (VV (rdK x) u) ∧ THas w' u (rdT x) ∧ Below w.heap.size w w'
def thP (l : List Bs) : Value → World → Prop := fun u w => THas w u l
theorem thP_keeps (l : List Bs) : Keeps (thP l) := fun _ _ _ h hb => h.later hb
theorem read_any (x : X) (va vw vm ve : Value) (w : World) (h : Four w x va vw vm ve) (hs : Sm x) : Calls Tryz.prog 227 #[CV x.k x.b va vw vm ve] w (RdPost x w) := by
 obtain ⟨pa, ca', pw, cw, pm, cm, pe, ce, rfl, rfl, rfl, rfl⟩ := h.slices
 have HF : Hid (Four w x (.slice pa x.am.length ca') (.slice pw x.wr.length cw) (.slice pm x.mb.length cm) (.slice pe x.el.length ce)) := h
 clear h
 have R0 := (rw_new w 27 (cvc x.k x.b (.slice pa x.am.length ca') (.slice pw x.wr.length cw) (.slice pm x.mb.length cm) (.slice pe x.el.length ce))).alloc (.cells #[.int .i64 0, .int .i64 0, .slice none 0 0, .slice none 0 0] 46)
 have R1 := rw_new (w.alloc (.cells (cvc x.k x.b (.slice pa x.am.length ca') (.slice pw x.wr.length cw) (.slice pm x.mb.length cm) (.slice pe x.el.length ce)) 27)) 46 #[.int .i64 0, .int .i64 0, .slice none 0 0, .slice none 0 0]
 have hbel := bel_alloc (bel_alloc (Below.refl w.heap.size w) (.cells (cvc x.k x.b (.slice pa x.am.length ca') (.slice pw x.wr.length cw) (.slice pm x.mb.length cm) (.slice pe x.el.length ce)) 27)) (.cells #[.int .i64 0, .int .i64 0, .slice none 0 0, .slice none 0 0] 46)
 generalize hW : (w.alloc (.cells (cvc x.k x.b (.slice pa x.am.length ca') (.slice pw x.wr.length cw) (.slice pm x.mb.length cm) (.slice pe x.el.length ce)) 27)).alloc (.cells #[.int .i64 0, .int .i64 0, .slice none 0 0, .slice none 0 0] 46) = w0 at R0 R1 hbel
 simp only [World.size_alloc] at R1
 have HP : Hid (∀ e w', RdPost x w e w' ↔ ∃ u, e = .returned (VV (rdK x) u) ∧ THas w' u (rdT x) ∧ Below w.heap.size w w') := fun _ _ => Iff.rfl
 go_enter Tryz.func227, Tryz.ntmps227
 go_wp2_with (first | rw [hW] | refine load_r 27 _ rfl rfl _ rfl R0 Tryz.underlying27 rfl size27 ?_)
 clear hW
 refine (check_any x _ _ _ _ w0 (HF.out.later hbel) hs).mono ?_
 rintro e w1 ⟨rfl, hb1⟩
 replace R0 := R0.later hb1
 replace R1 := R1.later hb1
 replace hbel := below_on hbel hb1
 clear hb1
 obtain ⟨y1, HY1⟩ := hid_ex (ck x)
 have HK : Hid (rdK x = if y1 = true then 4 else 0) := by show _ = _; unfold rdK; rw [HY1.out]
 have HT : Hid (rdT x = if y1 = true then txL x.mb else []) := by show _ = _; unfold rdT; rw [HY1.out]
 rw [HY1.out]
 clear HY1
 cases y1
 ·have hz : z4.size = 6 := rfl
  go_wp2_with (first | refine store_r rfl 46 _ _ rfl _ #[.int .i64 0, .int .i64 0, .slice none 0 0, .slice none 0 0] rfl rfl R1 size46 rfl (by simp [Value.oneCell']) ?_)
  refine bodyPost_ret (results_r rfl rfl (R1.row _) rfl Tryz.underlying46 size46) rfl ?_
  rw [HP.out, HK.out, HT.out]
  exact ⟨_, rfl, THas.nil _, below_setRow hbel (by omega) _⟩
 ·have c4 : w1.cell? ⟨w.heap.size, 4, none⟩ = some (.slice pm x.mb.length cm) := R0.cell 4
  go_wp2_with fail
  refine (texts_any _ x.mb w1 (HF.out.m.later hbel) (by have := hs.m; omega)).mono ?_
  rintro e w2 ⟨ut, rfl, ht, hb2⟩
  obtain ⟨pt, ct, rfl⟩ := ht.slice
  replace R1 := R1.later hb2
  replace hbel := below_on hbel hb2
  go_wp2_with (first | refine store_r rfl 46 _ _ rfl _ #[.int .i64 4, .int .i64 0, .slice pt (txL x.mb).length ct, .slice none 0 0] rfl rfl R1 size46 rfl (by simp [Value.oneCell']) ?_)
  refine bodyPost_ret (results_r rfl rfl (R1.row _) rfl Tryz.underlying46 size46) rfl ?_
  rw [HP.out, HK.out, HT.out]
  exact ⟨_, rfl, ht.rowV R1 _, below_setRow hbel (by omega) _⟩
theorem one_in (s : Bs) : (fun y : Mb => decide (tx y ∈ [s])) = fun y => decide (tx y = s) := funext fun y => by simp
theorem del_any (x : X) (va vw vm ve : Value) (q u : Int) (v : List Int) (t : Int) (sl : Value) (idx : Int) (s : ByteArray) (w : World) (hv : v.length = 13) (h : Four w x va vw vm ve) (hs : Sm x) (hx : s.size ≤ 1000) :
  Calls Tryz.prog 41 #[CV x.k x.b va vw vm ve, TxV q u v t sl, .int .i64 idx, .string s] w (Gives (delX x q u v idx s) w) := by
 obtain ⟨pa, ca', pw, cw, pm, cm, pe, ce, rfl, rfl, rfl, rfl⟩ := h.slices
 have HF : Hid (Four w x (.slice pa x.am.length ca') (.slice pw x.wr.length cw) (.slice pm x.mb.length cm) (.slice pe x.el.length ce)) := h
 clear h
 have R0 := ((rw_new w 27 (cx x pa ca' pw cw pm cm pe ce)).alloc (.cells (txc q u v t sl).toArray 34)).alloc (.cells z4 27)
 have R1 := (rw_new (w.alloc (.cells (cx x pa ca' pw cw pm cm pe ce) 27)) 34 (txc q u v t sl).toArray).alloc (.cells z4 27)
 have R2 := rw_new ((w.alloc (.cells (cx x pa ca' pw cw pm cm pe ce) 27)).alloc (.cells (txc q u v t sl).toArray 34)) 27 z4
 have hbel := bel_alloc (bel_alloc (bel_alloc (Below.refl w.heap.size w) (.cells (cx x pa ca' pw cw pm cm pe ce) 27)) (.cells (txc q u v t sl).toArray 34)) (.cells z4 27)
 have hsz : (((w.alloc (.cells (cx x pa ca' pw cw pm cm pe ce) 27)).alloc (.cells (txc q u v t sl).toArray 34)).alloc (.cells z4 27)).heap.size = w.heap.size + 3 := by simp
 generalize hW : ((w.alloc (.cells (cx x pa ca' pw cw pm cm pe ce) 27)).alloc (.cells (txc q u v t sl).toArray 34)).alloc (.cells z4 27) = w0 at R0 R1 R2 hbel hsz
 simp only [World.size_alloc, Nat.add_assoc, Nat.reduceAdd] at R1 R2
 have zt := size_tx (p := q) (s := u) (t := t) (sl := sl) hv
 obtain ⟨z, HZ⟩ := hid_ex (delX x q u v idx s)
 rw [HZ.out]
 have hbA := bel_alloc (Below.refl w0.heap.size w0) (.cells #[.string s] 43)
 have HT : Hid (THas (w0.alloc (.cells #[.string s] 9)) (.slice (some ⟨w0.heap.size, 0, none⟩) 1 1) [bs s]) := ⟨by show 1 ≤ maxLen; unfold maxLen; omega, rfl, .inr ⟨_, 1, rfl, ⟨Nat.le_refl _, by unfold maxLen; omega⟩, fun _ => ⟨_, 0, rfl, Rw.whole (rw_new w0 9 #[.string s])⟩⟩⟩
 have C : Calls Tryz.prog 85 #[CV x.k x.b (.slice pa x.am.length ca') (.slice pw x.wr.length cw) (.slice pm x.mb.length cm) (.slice pe x.el.length ce), TxV q u v t sl, .int .i64 idx, .slice (some ⟨w0.heap.size, 0, none⟩) 1 1] (w0.alloc (.cells #[.string s] 9)) (Gives z (w0.alloc (.cells #[.string s] 9))) := by
  have := without_any x _ _ _ _ q u v t sl idx _ [bs s] (w0.alloc (.cells #[.string s] 9)) hv (HF.out.later (below_on hbel (bel_alloc (Below.refl _ _) _))) hs HT.out (by simp) (fun _ s' hs' => by
   rw [List.mem_singleton.1 hs']
   simpa using hx)
  rw [one_in] at this
  rw [← HZ.out]
  exact this
 have HSZ : Hid (w0.heap.size = w.heap.size + 3) := hsz
 clear hsz hbA
 go_enter Tryz.func41, Tryz.ntmps41
 go_wp2_with (first | rw [hW] | refine load_r 27 _ rfl rfl _ rfl R0 Tryz.underlying27 rfl size27 ?_ | refine load_r 34 _ rfl rfl _ rfl R1 Tryz.underlying34 rfl zt ?_)
 clear hW
 refine C.mono ?_
 rintro e w1 ⟨ua, uw, um, ue, rfl, hf, hb1⟩
 obtain ⟨na, ea, nw, ew, nm, em, ne, ee, rfl, rfl, rfl, rfl⟩ := hf.slices
 have hb2 := below_on (bel_alloc (Below.refl w0.heap.size w0) (.cells #[.string s] 9)) hb1
 replace R2 := R2.later hb2
 replace hbel := below_on hbel hb2
 clear C hb1 hb2 R0 R1
 go_wp2_with (first | refine store_r rfl 27 _ _ rfl _ (cx z na ea nw ew nm em ne ee) rfl rfl R2 size27 rfl (by simp [Value.oneCell']) ?_)
 refine bodyPost_ret (results_r rfl rfl (R2.row _) rfl Tryz.underlying27 size27) rfl ?_
 exact ⟨_, _, _, _, rfl, hf.row R2 _, below_setRow hbel (by omega) _⟩
end Go.Proofs.YtjbbmcommnhgeaaGreat.Os
