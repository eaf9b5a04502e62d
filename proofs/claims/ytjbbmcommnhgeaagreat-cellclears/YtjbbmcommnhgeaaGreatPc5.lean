import Derived.Test.YtjbbmcommnhgeaaGreatPc4
import Derived.Shelf.Spec.SlicesInsertGrow
import Derived.Maps.AppendAt
import Derived.OwnWalk
set_option maxRecDepth 100000
set_option maxHeartbeats 8000000
namespace Go.Proofs.YtjbbmcommnhgeaaGreat
open Go.RowKit
theorem run_copy_rowS {P : Program} (w : World) (dT sT ty elem : TypeId) (g o dLen dCap : Nat) (a : Addr) (sLen sCap : Nat) (cur : Array Value) (t : TypeId) (cs : List Value) (S k : Nat)
  (hu : P.underlying dT = some (.slice elem)) (hs : (P.info? elem).map (·.size) = some S)
  (hg : w.heap[g]? = some (.cells cur t (0, 0))) (hk : Nat.min sLen dLen = k) (hn : cs.length = k * S)
  (hsrc : ∀ j v, cs[j]? = some v → w.cell? (a.add j) = some v) (hfit : o + cs.length ≤ cur.size) (h1 : ∀ v ∈ cs, v.oneCell' = true) :
  (Builtin.copy_ #[dT, sT] ty #[.slice (some ⟨g, o, none⟩) dLen dCap, .slice (some a) sLen sCap]).run P w =
   .ok (goInt k) (w.setRow g (cur.toList.take o ++ cs ++ cur.toList.drop (o + cs.length)).toArray) := by
 have hl := run_loadCells_list (P := P) w a cs hsrc
 have hst := run_storeCells_at P g o t cs 0 cur w hg (by simpa using hfit) h1
 cases hq : P.info? elem with
 | none => simp [hq] at hs
 | some i =>
  have hi : i.size = S := by simpa [hq] using hs
  simp [Builtin.copy_, run_underlying hu, Builtin.lenOf, Builtin.firstCells, sizeOf, typeInfo, hq, hi, hk, ← hn, hl, hst]
def Kp (o : Option Nat) (w w' : World) : Prop := ∀ b, b < w.heap.size → o ≠ some b → w'.heap[b]? = w.heap[b]?
theorem Kp.on {o : Option Nat} {w w1 w2 : World} (h : Kp o w w1) (hs : w.heap.size ≤ w1.heap.size) (hb : Below w1.heap.size w1 w2) : Kp o w w2 := fun b h1 h2 => (hb.block b (by omega)).trans (h b h1 h2)
theorem Kp.row {g : Nat} {w w1 : World} (h : Kp (some g) w w1) (cs : Array Value) : Kp (some g) w (w1.setRow g cs) := fun b h1 h2 => (setRow_other w1 g b cs (fun e => h2 (by rw [e]))).trans (h b h1 h2)
def InPost (B : Nat) (v : Value) (n : Nat) (xs : List Value) (w : World) (e : Ending) (w' : World) : Prop := ∃ u, e = .returned u ∧ w'.ownsRow B 50 3 u n xs ∧ Kp v.ownBlock w w' ∧ (∀ k, u.ownBlock = some k → v.ownBlock = some k ∨ w.heap.size ≤ k) ∧ Below B w w'
theorem insert_end (B : Nat) (p : Option Addr) (n c : Nat) (xs : List Value) (vb : Nat) (x : M) (w : World) (hown : w.ownsRow B 50 3 (.slice p n c) n xs) (hn : n ≤ 100) (hB : B ≤ w.heap.size) (R : Rw w vb 50 x.cells.toArray) :
  Calls Tryz.prog 122 #[.slice p n c, .int .i64 n, .slice (some ⟨vb, 0, none⟩) 1 1] w (InPost B (.slice p n c) (n + 1) (xs ++ x.cells) w) := by
 obtain ⟨i0, hi, hz0, hz1, hz2⟩ := info_parts info50
 have hc1 : ∀ j u, x.cells[j]? = some u → w.cell? ((⟨vb, 0, none⟩ : Addr).add j) = some u := fun j u hu => by
  rw [Addr.add_mid]
  exact Rw.whole R j u hu
 have HC : Hid (∀ j u, x.cells[j]? = some u → w.cell? ((⟨vb, 0, none⟩ : Addr).add j) = some u) := hc1
 have hnc : (n : Int) ≤ (c : Int) := by
  rcases hown.2 with ⟨h, h0⟩ | ⟨g, cap, cur, h, _, _, h2, _⟩
  ·simp only [Value.slice.injEq] at h
   omega
  ·simp only [Value.slice.injEq] at h
   omega
 clear hc1 R
 have hm1 : n + 1 ≤ maxLen := by unfold maxLen; omega
 have hm2 : (n + 1) * 24 ≤ 140737488355328 := by omega
 have HL : Hid (∀ q, (Value.slice p n c).ownBlock = some q → B ≤ q) := fun q hq => (hown.lt q hq).1
 by_cases hcn : c = n
 all_goals
  go_enter Tryz.func122, Tryz.ntmps122
  go_wp2_with (first | (at_builtin; refine wpList_append_own_at _ rfl _ _ 65 rfl B 50 i0 (MV 0 0 0) 3 24 Tryz.underlying65 hi hz0 hz1 hz2 rfl (by decide) _ _ _ rfl hown ⟨vb, 0, none⟩ 1 1 x.cells rfl rfl HC.out x.one hm1 hm2 hB ?_))
  intro v2 w2 hown2 hg2 _ hat
  have HAT : Hid (∀ k, v2.ownBlock = some k → (Value.slice p n c).ownBlock = some k ∨ w.heap.size ≤ k) := fun k hk => hat.elim (fun e => .inl (by rw [← hk, e]; first | done | (cases p <;> rfl))) (fun e => .inr (Nat.le_of_eq (Option.some.inj (e.symm.trans hk))))
  clear hat
  go_wp2_with fail
  go_ret
  exact ⟨_, rfl, hown2, (fun b h1 h2 => hg2.block b h1 (fun e => h2 (by rw [e]; first | done | (cases p <;> rfl)))), HAT.out, (Below.refl _ _).grown hg2 hB (fun q hq => HL.out q (by cases p <;> exact hq))⟩
theorem f66_extern (w : World) (vb g o lb cb k : Nat) (hne : vb ≠ g) {tA tB : TypeId} {c1 c2 : Array Value} (R : Rw w vb tA c1) (R2 : Rw w g tB c2) (hk : c2.size = k + 1) : (callFunc 146 #[.slice (some ⟨vb, 0, none⟩) 1 1, .slice (some ⟨g, o, none⟩) lb cb]).run Tryz.prog w = .ok (.value (.bool false)) w := by
 rw [run_callFunc_extern Tryz.func146 (by kernel_rfl) (by kernel_rfl) (by kernel_rfl) (e := Extern.SlicesOverlaps.overlaps #[65, 65] #[4]) (by kernel_rfl),
  Lib.run_overlaps_apart w 65 4 50 Tryz.underlying65 3 (fun w => by rfl) ⟨vb, 0, none⟩ ⟨g, o, none⟩ 1 1 lb cb hne tA tB c1.size c2.size (by unfold World.shape?; rw [show w.heap[vb]? = _ from R]) (by unfold World.shape?; rw [show w.heap[g]? = _ from R2]) (by omega) (R.frozen _) (R.frozen _)]
 rfl
def put3 (xs ys : List Value) (i : Nat) : List Value := xs.take (i * 3) ++ ys ++ xs.drop (i * 3)
theorem put3_length (xs ys : List Value) (i : Nat) : (put3 xs ys i).length = xs.length + ys.length := by
 simp [put3]
 omega
theorem shift_list (cur xs ys : List Value) (n i : Nat) (hi : i < n) (hl : xs.length = n * 3) (hy : ys.length = 3) (hc : (n + 1) * 3 ≤ cur.length) (ht : cur.take (n * 3) = xs) (c1 : List Value) (h1 : c1 = cur.take ((i + 1) * 3) ++ xs.drop (i * 3) ++ cur.drop ((i + 1) * 3 + (xs.drop (i * 3)).length)) :
  (c1.take (i * 3) ++ ys ++ c1.drop (i * 3 + ys.length)).take ((n + 1) * 3) = xs.take (i * 3) ++ ys ++ xs.drop (i * 3) := by
 have hk : (cur.take ((i + 1) * 3)).length = (i + 1) * 3 := by rw [List.length_take]; omega
 have e1 : c1.take (i * 3) = xs.take (i * 3) := by
  rw [h1, List.append_assoc, List.take_append_of_le_length (by omega), List.take_take, Nat.min_eq_left (by omega), ← ht, List.take_take, Nat.min_eq_left (by omega)]
 have e2 : c1.drop (i * 3 + ys.length) = xs.drop (i * 3) ++ cur.drop ((i + 1) * 3 + (xs.drop (i * 3)).length) := by
  rw [h1, List.append_assoc, List.drop_left' (by rw [hk, hy]; omega)]
 rw [e1, e2, ← List.append_assoc, List.take_left']
 simp only [List.length_append, List.length_take, List.length_drop, hy, hl]
 omega
theorem insert_shift (B g n c i : Nat) (xs : List Value) (vb : Nat) (x : M) (w : World) (hown : w.ownsRow B 50 3 (.slice (some ⟨g, 0, none⟩) n c) n xs) (hi : i < n) (hc : n + 1 ≤ c) (hn : n ≤ 100) (hvb : vb ≠ g) (h1 : ∀ u ∈ xs, u.oneCell' = true) (R : Rw w vb 50 x.cells.toArray) :
  Calls Tryz.prog 122 #[.slice (some ⟨g, 0, none⟩) n c, .int .i64 i, .slice (some ⟨vb, 0, none⟩) 1 1] w (InPost B (.slice (some ⟨g, 0, none⟩) n c) (n + 1) (put3 xs x.cells i) w) := by
 obtain ⟨hxl, ⟨h0, _⟩ | ⟨g', cap, cur, h0, hBg, hg, hnc, hcm, hcs, htake⟩⟩ := hown
 ·simp at h0
 simp only [Value.slice.injEq, Option.some.injEq, Addr.mk.injEq, and_true, true_and] at h0
 obtain ⟨rfl, rfl⟩ := h0
 have hov : ∀ lb cb, (callFunc 146 #[.slice (some ⟨vb, 0, none⟩) 1 1, .slice (some ⟨g, (i + 1) * 3, none⟩) lb cb]).run Tryz.prog w = .ok (.value (.bool false)) w := fun lb cb => f66_extern w vb g _ lb cb (cur.size - 1) hvb R hg (by omega)
 have hsrc : ∀ j v, (xs.drop (i * 3))[j]? = some v → w.drew.cell? ((⟨g, i * 3, none⟩ : Addr).add j) = some v := fun j v hv => by
  rw [Addr.add_mid]
  show w.cell? _ = _
  rw [cell_of_row w g _ cur 50 (0, 0) hg]
  rw [List.getElem?_drop] at hv
  have hlt := (List.getElem?_eq_some_iff.1 hv).1
  rw [← htake, List.getElem?_take, if_pos (by omega)] at hv
  simpa using hv
 have hcp1 : ∀ ty dc sc, (Builtin.copy_ #[65, 65] ty #[.slice (some ⟨g, (i + 1) * 3, none⟩) (n - i) dc, .slice (some ⟨g, i * 3, none⟩) (n + 1 - i) sc]).run Tryz.prog w.drew = .ok (goInt ((n - i : Nat) : Int)) (w.drew.setRow g (cur.toList.take ((i + 1) * 3) ++ xs.drop (i * 3) ++ cur.toList.drop ((i + 1) * 3 + (xs.drop (i * 3)).length)).toArray) := fun ty dc sc =>
  run_copy_rowS w.drew 65 65 ty 50 g ((i + 1) * 3) (n - i) dc ⟨g, i * 3, none⟩ (n + 1 - i) sc cur 50 (xs.drop (i * 3)) 3 (n - i) Tryz.underlying65 size50 hg (by simp only [Nat.min_def]; split <;> omega) (by rw [List.length_drop]; omega) hsrc (by rw [List.length_drop]; omega) (fun v hv => h1 v (List.mem_of_mem_drop hv))
 obtain ⟨cur1, HC1⟩ := hid_ex (cur.toList.take ((i + 1) * 3) ++ xs.drop (i * 3) ++ cur.toList.drop ((i + 1) * 3 + (xs.drop (i * 3)).length)).toArray
 have hl1 : cur1.size = cur.size := by
  rw [← HC1.out]
  simp
  omega
 rw [HC1.out] at hcp1
 have hg1 : (w.drew.setRow g cur1).heap[g]? = some (.cells cur1 50 (0, 0)) := setRow_heap w.drew g cur cur1 50 (0, 0) hg
 have hsrc2 : ∀ j v, x.cells[j]? = some v → (w.drew.setRow g cur1).cell? ((⟨vb, 0, none⟩ : Addr).add j) = some v := fun j v hv => by
  rw [Addr.add_mid, World.cell?_of_block (w := w) (setRow_other w.drew g vb cur1 hvb)]
  exact Rw.whole R j v hv
 have hcp2 : ∀ (W : World), W.heap = (w.drew.setRow g cur1).heap → ∀ ty dc, (Builtin.copy_ #[65, 65] ty #[.slice (some ⟨g, i * 3, none⟩) (n + 1 - i) dc, .slice (some ⟨vb, 0, none⟩) 1 1]).run Tryz.prog W = .ok (goInt 1) (W.setRow g (cur1.toList.take (i * 3) ++ x.cells ++ cur1.toList.drop (i * 3 + x.cells.length)).toArray) := fun W hW ty dc =>
  run_copy_rowS W 65 65 ty 50 g (i * 3) (n + 1 - i) dc ⟨vb, 0, none⟩ 1 1 cur1 50 x.cells 3 1 Tryz.underlying65 size50 (by rw [hW]; exact hg1) (by simp only [Nat.min_def]; split <;> omega) rfl (fun j v hv => by rw [World.cell?_of_block (w := w.drew.setRow g cur1) (by rw [hW])]; exact hsrc2 j v hv) (by rw [M.len]; omega) x.one
 have hw1 : IntKind.i64.wrap ((i : Int) + 1) = (i : Int) + 1 := by rw [IntKind.wrap_i64]; omega
 have hz2 : ¬ ((i : Int) = (n : Int)) := by omega
 have hb1 : (0 : Int) ≤ (i : Int) + 1 := by omega
 have htn : ((i : Int) + 1).toNat = i + 1 := by omega
 have hb2 : ¬ (c = i + 1) := by omega
 have hb3 : (i : Int) ≤ (n : Int) + 1 := by omega
 have hb4 : ¬ (c = i) := by omega
 have hin : i ≤ n := by omega
 have mixed : Tryz.prog.follows .mixedOrders = true := by kernel_rfl
 go_enter Tryz.func122, Tryz.ntmps122
 go_wp2_with (simp only [hov])
 go_region_law_o (refine step_copy_runI rfl _ _ 65 65 rfl _ _ (by simp [Act.eval, Act.put]) (by simp [Act.eval, Act.put]) (hcp1 _ _ _) ?_)
 go_wp2_with (at_builtin; refine wpList_copy_runI _ rfl _ _ 65 65 rfl _ _ rfl rfl (hcp2 _ rfl _ _) ?_)
 go_ret
 refine ⟨_, rfl, ⟨?_, .inr ⟨g, c, _, rfl, hBg, setRow_heap _ g cur1 _ 50 (0, 0) hg1, hc, hcm, ?_, ?_⟩⟩, Kp.row (Kp.row (fun _ _ _ => rfl) _) _, (fun k hk => .inl hk), below_setRow (below_setRow (Below.refl B w).drew hBg _) hBg _⟩
 ·rw [put3_length, hxl, M.len]
  omega
 ·simp only [List.size_toArray, List.length_append, List.length_take, List.length_cons, List.length_drop, Array.length_toList]
  omega
 ·have := shift_list cur.toList xs x.cells n i hi hxl rfl (by rw [Array.length_toList]; omega) htake cur1.toList (by rw [← HC1.out])
  rw [List.append_assoc] at this
  exact this
theorem grow_list (xs ys z1 z2 : List Value) (n i : Nat) (hi : i < n) (hl : xs.length = n * 3) (hy : ys.length = 3) (hz : z1.length = (n + 1 - i) * 3) (r1 r2 : List Value) (h1 : r1 = (xs.take (i * 3) ++ z1 ++ z2).take (i * 3) ++ ys ++ (xs.take (i * 3) ++ z1 ++ z2).drop (i * 3 + ys.length))
  (h2 : r2 = r1.take ((i + 1) * 3) ++ xs.drop (i * 3) ++ r1.drop ((i + 1) * 3 + (xs.drop (i * 3)).length)) : r2.take ((n + 1) * 3) = xs.take (i * 3) ++ ys ++ xs.drop (i * 3) ∧ r2.length = xs.length + 3 + z2.length := by
 have hk : (xs.take (i * 3)).length = i * 3 := by rw [List.length_take]; omega
 have e1 : (xs.take (i * 3) ++ z1 ++ z2).take (i * 3) = xs.take (i * 3) := by
  rw [List.append_assoc, List.take_left' hk]
 have e2 : r1.take ((i + 1) * 3) = xs.take (i * 3) ++ ys := by
  rw [h1, e1, List.take_left' (by rw [List.length_append, hk, hy]; omega)]
 refine ⟨?_, ?_⟩
 ·rw [h2, e2, List.take_left']
  simp only [List.length_append, List.length_take, List.length_drop, hy, hl]
  omega
 ·rw [h2, e2, h1, e1]
  simp only [List.length_append, List.length_take, List.length_drop, hy, hl, hz]
  omega
theorem insert_grow (B g n c i : Nat) (xs : List Value) (vb : Nat) (x : M) (w : World) (hown : w.ownsRow B 50 3 (.slice (some ⟨g, 0, none⟩) n c) n xs) (hi : i < n) (hc : c < n + 1) (hn : n ≤ 100) (h1 : ∀ u ∈ xs, u.oneCell' = true) (hB : B ≤ w.heap.size) (R : Rw w vb 50 x.cells.toArray) :
  Calls Tryz.prog 122 #[.slice (some ⟨g, 0, none⟩) n c, .int .i64 i, .slice (some ⟨vb, 0, none⟩) 1 1] w (InPost B (.slice (some ⟨g, 0, none⟩) n c) (n + 1) (put3 xs x.cells i) w) := by
 obtain ⟨i0, hi0, hz0, hz1, hz2⟩ := info_parts info50
 obtain ⟨hxl, ⟨h0, _⟩ | ⟨g', cap, cur, h0, hBg, hg, hnc, hcm, hcs, htake⟩⟩ := hown
 ·simp at h0
 simp only [Value.slice.injEq, Option.some.injEq, Addr.mk.injEq, and_true, true_and] at h0
 obtain ⟨rfl, rfl⟩ := h0
 have hcell : ∀ j v, xs[j]? = some v → w.cell? ⟨g, j, none⟩ = some v := fun j v hv => by
  rw [cell_of_row w g _ cur 50 (0, 0) hg]
  have hlt := (List.getElem?_eq_some_iff.1 hv).1
  rw [← htake, List.getElem?_take, if_pos (by omega)] at hv
  simpa using hv
 have hold : (Builtin.firstCells i0.size i (.slice (some ⟨g, 0, none⟩) i c)).run Tryz.prog w.drew = .ok (xs.take (i * 3)).toArray w.drew := by
  rw [hz1]
  exact run_firstCells_some w.drew 3 i ⟨g, 0, none⟩ i c (xs.take (i * 3)) (by rw [List.length_take]; omega) (fun j v hj => by
   rw [Addr.add_mid, Nat.zero_add]
   rw [List.getElem?_take] at hj
   split at hj
   ·exact hcell j v hj
   ·cases hj)
 have hrz : ∀ ty, (Builtin.append_ #[65, 3] ty #[.slice (some ⟨g, 0, none⟩) i c, .int .i64 ((n : Int) + 1 - (i : Int))]).run Tryz.prog w =
   .ok (.slice (some ⟨w.heap.size, 0, none⟩) (n + 1) (grownCap w (n + 1) c 50)) (w.drew.alloc (.cells ((xs.take (i * 3)).toArray ++ Builtin.zeroCells (MV 0 0 0).cells (n + 1 - i) ++ Builtin.zeroCells (MV 0 0 0).cells (grownCap w (n + 1) c 50 - (n + 1))) 50)) := fun ty => by
  have h := Lib.run_append_grow_zeros w 65 3 ty 50 i0 _ .i64 .i64 Tryz.underlying65 Tryz.underlying3 hi0 hz0 (some ⟨g, 0, none⟩) i c (xs.take (i * 3)) hold (n + 1 - i) (by omega) (by omega) (by omega) (by omega) (by rw [hz2]; omega) (by rw [hz2, show i + (n + 1 - i) = n + 1 by omega]; exact growslice_fits hc (by omega))
  rw [show i + (n + 1 - i) = n + 1 by omega] at h
  rw [show (n : Int) + 1 - (i : Int) = ((n + 1 - i : Nat) : Int) by omega]
  exact h
 obtain ⟨G, HG⟩ := hid_ex (grownCap w (n + 1) c 50)
 have hGn : n + 1 ≤ G := by rw [← HG.out]; exact grownCap_ge w _ _ _
 have hGm : G ≤ maxLen := by rw [← HG.out]; exact grownCap_le_maxLen w (n + 1) c 50 (by unfold maxLen; omega)
 have hG63 : G ≤ 9223372036854775807 := by unfold maxLen at hGm; omega
 rw [HG.out] at hrz
 obtain ⟨z1, hz1'⟩ : ∃ z1 : List Value, z1 = (Builtin.zeroCells (MV 0 0 0).cells (n + 1 - i)).toList := ⟨_, rfl⟩
 obtain ⟨z2, hz2'⟩ : ∃ z2 : List Value, z2 = (Builtin.zeroCells (MV 0 0 0).cells (G - (n + 1))).toList := ⟨_, rfl⟩
 have hzl1 : z1.length = (n + 1 - i) * 3 := by rw [hz1']; simp [Builtin.zeroCells, Value.cells]
 have hzl2 : z2.length = (G - (n + 1)) * 3 := by rw [hz2']; simp [Builtin.zeroCells, Value.cells]
 obtain ⟨row, hrow⟩ : ∃ row : Array Value, row = (xs.take (i * 3)).toArray ++ Builtin.zeroCells (MV 0 0 0).cells (n + 1 - i) ++ Builtin.zeroCells (MV 0 0 0).cells (G - (n + 1)) := ⟨_, rfl⟩
 rw [← hrow] at hrz
 have hrl : row.toList = xs.take (i * 3) ++ z1 ++ z2 := by rw [hrow, hz1', hz2']; simp
 have hrs : row.size = G * 3 := by
  rw [← Array.length_toList, hrl]
  simp only [List.length_append, List.length_take, hzl1, hzl2]
  omega
 clear hrow hz1' hz2'
 have hgw : g < w.heap.size := (Array.getElem?_eq_some_iff.1 hg).1
 have hvw : vb < w.heap.size := R.lt
 have hsrcA : ∀ j v, x.cells[j]? = some v → (w.drew.alloc (.cells row 50)).cell? ((⟨vb, 0, none⟩ : Addr).add j) = some v := fun j v hv => by
  rw [Addr.add_mid, World.cell?_of_block (w := w) (Below.heap_alloc w.drew _ vb hvw)]
  exact Rw.whole R j v hv
 have hgN : (w.drew.alloc (.cells row 50)).heap[w.heap.size]? = some (.cells row 50 (0, 0)) := heap_alloc_last w.drew _
 have hcpA : ∀ (W : World), W.heap = (w.drew.alloc (.cells row 50)).heap → ∀ ty dc, (Builtin.copy_ #[65, 65] ty #[.slice (some ⟨w.heap.size, i * 3, none⟩) (n + 1 - i) dc, .slice (some ⟨vb, 0, none⟩) 1 1]).run Tryz.prog W = .ok (goInt 1) (W.setRow w.heap.size (row.toList.take (i * 3) ++ x.cells ++ row.toList.drop (i * 3 + x.cells.length)).toArray) := fun W hW ty dc =>
  run_copy_rowS W 65 65 ty 50 w.heap.size (i * 3) (n + 1 - i) dc ⟨vb, 0, none⟩ 1 1 row 50 x.cells 3 1 Tryz.underlying65 size50 (by rw [hW]; exact hgN) (by simp only [Nat.min_def]; split <;> omega) rfl (fun j v hv => by rw [World.cell?_of_block (w := w.drew.alloc (.cells row 50)) (by rw [hW])]; exact hsrcA j v hv) (by rw [M.len]; omega) x.one
 obtain ⟨r1, HR1⟩ := hid_ex (row.toList.take (i * 3) ++ x.cells ++ row.toList.drop (i * 3 + x.cells.length)).toArray
 rw [HR1.out] at hcpA
 have hr1s : r1.size = G * 3 := by
  rw [← HR1.out]
  simp only [List.size_toArray, List.length_append, List.length_take, List.length_drop, Array.length_toList, M.len, hrs]
  omega
 have hg1 : ((w.drew.alloc (.cells row 50)).setRow w.heap.size r1).heap[w.heap.size]? = some (.cells r1 50 (0, 0)) := setRow_heap _ _ row r1 50 (0, 0) hgN
 have hsrcB : ∀ j v, (xs.drop (i * 3))[j]? = some v → ((w.drew.alloc (.cells row 50)).setRow w.heap.size r1).cell? ((⟨g, i * 3, none⟩ : Addr).add j) = some v := fun j v hv => by
  rw [Addr.add_mid, World.cell?_of_block (w := w) ((setRow_other _ w.heap.size g r1 (by omega)).trans (Below.heap_alloc w.drew _ g hgw))]
  rw [List.getElem?_drop] at hv
  exact hcell _ v hv
 have hcpB : ∀ (W : World), W.heap = ((w.drew.alloc (.cells row 50)).setRow w.heap.size r1).heap → ∀ ty dc sc, (Builtin.copy_ #[65, 65] ty #[.slice (some ⟨w.heap.size, (i + 1) * 3, none⟩) (n - i) dc, .slice (some ⟨g, i * 3, none⟩) (n - i) sc]).run Tryz.prog W = .ok (goInt ((n - i : Nat) : Int)) (W.setRow w.heap.size (r1.toList.take ((i + 1) * 3) ++ xs.drop (i * 3) ++ r1.toList.drop ((i + 1) * 3 + (xs.drop (i * 3)).length)).toArray) := fun W hW ty dc sc =>
  run_copy_rowS W 65 65 ty 50 w.heap.size ((i + 1) * 3) (n - i) dc ⟨g, i * 3, none⟩ (n - i) sc r1 50 (xs.drop (i * 3)) 3 (n - i) Tryz.underlying65 size50 (by rw [hW]; exact hg1) (Nat.min_self _) (by rw [List.length_drop]; omega) (fun j v hv => by rw [World.cell?_of_block (w := (w.drew.alloc (.cells row 50)).setRow w.heap.size r1) (by rw [hW])]; exact hsrcB j v hv) (by rw [List.length_drop]; omega) (fun v hv => h1 v (List.mem_of_mem_drop hv))
 obtain ⟨r2, HR2⟩ := hid_ex (r1.toList.take ((i + 1) * 3) ++ xs.drop (i * 3) ++ r1.toList.drop ((i + 1) * 3 + (xs.drop (i * 3)).length)).toArray
 rw [HR2.out] at hcpB
 have hfin := grow_list xs x.cells z1 z2 n i hi hxl rfl hzl1 r1.toList r2.toList (by rw [← HR1.out, hrl]) (by rw [← HR2.out])
 have HFI : Hid (r2.toList.take ((n + 1) * 3) = put3 xs x.cells i ∧ r2.size = G * 3) := ⟨hfin.1, by rw [← Array.length_toList, hfin.2]; omega⟩
 have hg2 : (((w.drew.alloc (.cells row 50)).setRow w.heap.size r1).setRow w.heap.size r2).heap[w.heap.size]? = some (.cells r2 50 (0, 0)) := setRow_heap _ _ r1 r2 50 (0, 0) hg1
 have hw1 : IntKind.i64.wrap ((i : Int) + 1) = (i : Int) + 1 := by rw [IntKind.wrap_i64]; omega
 have hz2i : ¬ ((i : Int) = (n : Int)) := by omega
 have hz3 : (c : Int) < (n : Int) + 1 := by omega
 have hb1 : (0 : Int) ≤ (i : Int) + 1 := by omega
 have htn : ((i : Int) + 1).toNat = i + 1 := by omega
 have hb3 : (i : Int) ≤ (n : Int) := by omega
 have hci : ¬ (c = i) := by omega
 have hGi : ¬ (G = i) := by omega
 have hGim : ¬ (G = i + 1) := by omega
 have hin : i ≤ n := by omega
 have mixed : Tryz.prog.follows .mixedOrders = true := by kernel_rfl
 clear hfin hold hrl hzl1 hzl2 hcell hsrcA hsrcB HR1 HR2
 have hA := hcpA (w.alloc (.cells row 50)).drew rfl 3 (G - i)
 go_enter Tryz.func122, Tryz.ntmps122
 go_wp2_with (first
  | (at_builtin; refine Lib.wpList_append_run _ rfl _ _ _ _ rfl _ _ rfl rfl _ _ (hrz _) ?_))
 go_region_law_o (refine step_copy_runI rfl _ _ 65 65 rfl (.slice (some ⟨w.heap.size, (i + 1) * 3, none⟩) (n - i) (G - (i + 1))) (.slice (some ⟨g, i * 3, none⟩) (n - i) (c - i)) (by simp [Act.eval, Act.put]) (by simp [Act.eval, Act.put]) (hcpB (((w.alloc (.cells row 50)).drew.setRow w.heap.size r1).drew) rfl 3 (G - (i + 1)) (c - i)) ?_)
 go_wp2
 go_ret
 refine ⟨_, rfl, ⟨?_, .inr ⟨w.heap.size, G, r2, rfl, hB, hg2, hGn, hGm, HFI.out.2, HFI.out.1⟩⟩, ?_, (fun k hk => .inr (Nat.le_of_eq (Option.some.inj hk))), ?_⟩
 ·rw [put3_length, hxl, M.len]
  omega
 ·intro b h1 h2
  refine (setRow_other _ w.heap.size b _ (by omega)).trans ?_
  refine (setRow_other _ w.heap.size b _ (by omega)).trans ?_
  exact Below.heap_alloc w _ b h1
 ·exact below_setRow (below_setRow ((Below.refl B w).alloc hB _).drew hB _).drew hB _
theorem put3_rows (l : List M) (x : M) (i : Nat) : put3 (rows M.cells l) x.cells i = rows M.cells (l.take i ++ x :: l.drop i) := by
 unfold put3
 rw [rows_append, rows_cons, rows_take M.len, rows_drop M.len, List.append_assoc]
theorem insert_any (B : Nat) (v : Value) (l : List M) (i : Nat) (vb : Nat) (x : M) (w : World) (hown : w.ownsRow B 50 3 v l.length (rows M.cells l)) (hi : i ≤ l.length) (hn : l.length ≤ 100) (hB : B ≤ w.heap.size) (R : Rw w vb 50 x.cells.toArray) (hvb : ∀ k, v.ownBlock = some k → vb ≠ k) :
  Calls Tryz.prog 122 #[v, .int .i64 i, .slice (some ⟨vb, 0, none⟩) 1 1] w (InPost B v (l.length + 1) (rows M.cells (l.take i ++ x :: l.drop i)) w) := by
 rw [← put3_rows]
 obtain ⟨p, c, rfl⟩ := own_sl hown
 rcases Nat.lt_or_ge i l.length with h | h
 ·obtain ⟨g, rfl, hg⟩ := own_some hown (by omega)
  rcases Nat.lt_or_ge c (l.length + 1) with hc | hc
  ·exact insert_grow B g _ c i _ vb x w hown h hc hn (rows_all M.one l) hB R
  ·exact insert_shift B g _ c i _ vb x w hown h hc hn (hvb g rfl) (rows_all M.one l) R
 ·obtain rfl : i = l.length := by omega
  have := insert_end B p l.length c _ vb x w hown hn hB R
  rw [show put3 (rows M.cells l) x.cells l.length = rows M.cells l ++ x.cells by unfold put3; rw [List.take_of_length_le (by rw [rows_length M.len]; omega), List.drop_of_length_le (by rw [rows_length M.len]; omega), List.append_nil]]
  exact this
def wth (l : List M) (m : M) : List M := if has m l = true then l else insF m l
theorem wth_length (l : List M) (m : M) : (wth l m).length ≤ l.length + 1 := by
 unfold wth
 split
 ·omega
 ·rw [insF_length]
  omega
theorem wth_ca {l : List M} {m : M} (h : ca l = true) (hi : im m.i = true) : ca (wth l m) = true := by
 unfold wth
 split
 ·exact h
 ·rename_i hn
  exact insF_ca h hi (by simpa using hn)
theorem insF_mem (x : M) (l : List M) (y : M) : y ∈ insF x l ↔ y = x ∨ y ∈ l := by
 unfold insF
 simp only [List.mem_append, List.mem_cons, List.mem_filter]
 cases h : lt y x
 ·simp
 ·simp
  exact ⟨fun k => k.elim .inr .inl, fun k => k.elim .inr .inl⟩
theorem mk_eq {x y : M} (h : mk x y = true) : x = y := by
 rw [mk_iff] at h
 obtain ⟨p, s, i⟩ := x
 obtain ⟨q, u, j⟩ := y
 simp only at h
 obtain ⟨rfl, rfl, rfl⟩ := h
 rfl
theorem wth_mem (l : List M) (m : M) : m ∈ wth l m := by
 unfold wth
 split
 ·rename_i h
  unfold has at h
  obtain ⟨y, hy, e⟩ := List.any_eq_true.1 h
  rw [← mk_eq e]
  exact hy
 ·exact (insF_mem m l m).2 (.inl rfl)
theorem wth_ne (l : List M) (m : M) : 0 < (wth l m).length := List.length_pos_of_mem (wth_mem l m)
theorem has_k (x : M) (l : List M) : has x l = true ↔ ∃ y ∈ l, kM y = kM x := by
 unfold has
 rw [List.any_eq_true]
 constructor
 ·rintro ⟨y, hy, e⟩
  exact ⟨y, hy, by rw [mk_eq e]⟩
 ·rintro ⟨y, hy, e⟩
  refine ⟨y, hy, ?_⟩
  rw [mk_iff]
  unfold kM at e
  simp only [Prod.mk.injEq] at e
  exact e
def WwPost (l : List M) (w : World) (e : Ending) (w' : World) : Prop := ∃ u, e = .returned u ∧ w'.ownsRow w.heap.size 50 3 u l.length (rows M.cells l) ∧ Below w.heap.size w w'
theorem ww_eq {l z : List M} {x : M} {k : Nat} {b : Bool} (hp : l.Pairwise (fun a b => lt a b = true)) (h1 : ∀ j (h : j < l.length), j < k → kl (kM l[j]) (kM x) = true) (h2 : ∀ j (h : j < l.length), k ≤ j → kl (kM l[j]) (kM x) = false) (hb : b = true ↔ ∃ h : k < l.length, kM l[k] = kM x) (e : wth l x = z) : z = if b = true then l else l.take k ++ x :: l.drop k := by
 subst e
 have hh : has x l = b := by
  cases b
  ·cases h : has x l
   ·rfl
   ·exfalso
    obtain ⟨y, hy, e⟩ := (has_k x l).1 h
    obtain ⟨j, hj, rfl⟩ := List.getElem_of_mem hy
    rcases Nat.lt_trichotomy j k with h' | h' | h'
    ·have := h1 j hj h'
     rw [e, kl_irr] at this
     cases this
    ·subst h'
     have := hb.2 ⟨hj, e⟩
     cases this
    ·have a1 := h2 k (by omega) (Nat.le_refl _)
     have a2 : kl (kM l[k]) (kM l[j]) = true := (List.pairwise_iff_getElem.1 hp) k j (by omega) hj h'
     rw [e, a1] at a2
     cases a2
  ·obtain ⟨h, e⟩ := hb.1 rfl
   exact (has_k x l).2 ⟨_, List.getElem_mem h, e⟩
 unfold wth
 rw [hh, insF_at h1 h2]
theorem ww_any (v : Value) (l : List M) (x : M) (w : World) (h : MHas w v l) (hl : l.length ≤ 100) (hp : l.Pairwise (fun a b => lt a b = true)) :
  Calls Tryz.prog 83 #[v, MV x.p x.s x.i] w (WwPost (wth l x) w) := by
 obtain ⟨z, HZ⟩ := hid_ex (wth l x)
 rw [HZ.out]
 have hbA := bel_alloc (Below.refl w.heap.size w) (.cells #[.int .i64 x.p, .int .i64 x.s, .int .i64 x.i] 50)
 have R := rw_new w 50 #[.int .i64 x.p, .int .i64 x.s, .int .i64 x.i]
 replace h := h.later hbA
 obtain ⟨p, c, rfl⟩ := h.slice
 have HP : Hid (l.Pairwise (fun a b => lt a b = true)) := hp
 have C1 := findM_any (.slice p l.length c) l x _ h hl hp
 generalize hW : w.alloc (.cells #[.int .i64 x.p, .int .i64 x.s, .int .i64 x.i] 50) = w0 at hbA R h C1
 clear hp
 go_enter Tryz.func83, Tryz.ntmps83
 have c0 : w0.cell? ⟨w.heap.size, 0, none⟩ = some (.int .i64 x.p) := R.cell 0
 have c1 : w0.cell? ⟨w.heap.size, 1, none⟩ = some (.int .i64 x.s) := R.cell 1
 have c2 : w0.cell? ⟨w.heap.size, 2, none⟩ = some (.int .i64 x.i) := R.cell 2
 go_wp2_with (first | rw [hW])
 clear hW c0 c1 c2
 refine C1.mono ?_
 clear C1
 rintro e w1 ⟨k, b, rfl, hk, h1, h2, hb, hb1⟩
 have HE : Hid (z = if b = true then l else l.take k ++ x :: l.drop k) := ww_eq HP.out h1 h2 hb HZ.out
 replace h := h.later hb1
 replace R := R.later hb1
 replace hbA := below_on hbA hb1
 clear h1 h2 hb hb1 HP HZ
 have C2 := clone50_any (.slice p l.length c) l.length (rows M.cells l) w1 h hl (rows_all M.one l)
 go_wp2_with fail
 refine C2.mono ?_
 clear C2
 rintro e w2 ⟨u, rfl, ho, hb2⟩
 replace R := R.later hb2
 have hbB := below_on hbA hb2
 obtain ⟨pu, cu, rfl⟩ := own_sl ho
 cases b
 ·have hne : ∀ k, (Value.slice pu l.length cu).ownBlock = some k → k < w2.heap.size := fun k hk => (World.ownsRow.lt ho k hk).2
  go_wp2_with (first | refine load_r 50 _ rfl rfl _ rfl R Tryz.underlying50 rfl size50 ?_)
  have hbC := bel_alloc (Below.refl w2.heap.size w2) (.cells #[.int .i64 x.p, .int .i64 x.s, .int .i64 x.i] 50)
  refine (insert_any w1.heap.size _ l k w2.heap.size x _ (own_later ho hbC) hk hl (Nat.le_trans hb2.size hbC.size) (rw_new w2 50 _) (fun q hq => by have := hne q hq; omega)).mono ?_
  rintro e w3 ⟨u, rfl, hou, hkp, hnu, hb3⟩
  have HF : Hid (WwPost z w (.returned u) w3) := by
   have e : z = l.take k ++ x :: l.drop k := HE.out
   subst e
   refine ⟨u, rfl, ?_, ?_⟩
   ·rw [show (l.take k ++ x :: l.drop k).length = l.length + 1 by simp; omega]
    exact own_mono hou hbA.size
   ·exact (below_on hbA (below_on hb2 hbC)).trans (hb3.mono hbA.size)
  obtain ⟨p3, c3, rfl⟩ := own_sl hou
  clear hou hkp hnu hb3 hne
  go_wp2_with fail
  go_ret
  exact HF.out
 ·have HF : Hid (WwPost z w (.returned (.slice pu l.length cu)) w2) := by
   have e : z = l := HE.out
   subst e
   exact ⟨_, rfl, own_mono ho hbA.size, hbB⟩
  go_wp2_with fail
  go_ret
  exact HF.out
abbrev kY (y : El × Value) : K := kE y.1
abbrev EV (y : El × Value) : Value := .agg #[.int .i64 y.1.p, .int .i64 y.1.s, .int .i64 y.1.i, .int .i64 y.1.t, .int .i64 y.1.q, .int .i64 y.1.u, .int .i64 y.1.j, .string y.1.x, y.2]
theorem markE_any (y : El × Value) (w : World) : Calls Tryz.prog 133 #[EV y] w (Tells (MV y.1.p y.1.s y.1.i) w) := by
 go_enter Tryz.func133, Tryz.ntmps133
 go_wp2
 exact bodyPost_ret (results_r rfl rfl (rw_next _ (by simp) 50 _) rfl Tryz.underlying50 size50) rfl ⟨rfl, bel_alloc (bel_alloc (Below.refl _ _) _) _⟩
structure CapE (w : World) (b1 b2 b3 : Nat) (v : Value) (x : M) : Prop where
 f : w.cell? ⟨b1, 0, none⟩ = some (.func (.func 133) #[] #[])
 l : w.cell? ⟨b2, 0, none⟩ = some v
 m : Rw w b3 50 #[.int .i64 x.p, .int .i64 x.s, .int .i64 x.i]
theorem CapE.later {w w' : World} {b1 b2 b3 : Nat} {v : Value} {x : M} (h : CapE w b1 b2 b3 v x) (hb : Below w.heap.size w w') : CapE w' b1 b2 b3 v x := ⟨cell_later hb h.f, cell_later hb h.l, h.m.later hb⟩
theorem find1E_any (k : Nat) (b1 b2 b3 : Nat) (v : Value) (l : List (El × Value)) (x : M) (w : World) (h : SHas 9 w v l.length (rows El.cells l)) (hk : k < l.length) (hC : CapE w b1 b2 b3 v x) :
  Calls Tryz.prog 154 #[.int .i64 k, .pointer (some ⟨b1, 0, none⟩), .pointer (some ⟨b2, 0, none⟩), .pointer (some ⟨b3, 0, none⟩)] w (Tells (.bool (!kl (kY l[k]) (kM x))) w) := by
 have hml := maxLen_lt h.1
 obtain ⟨p, c, rfl⟩ := h.slice
 obtain ⟨g, o, rfl, hd⟩ := h.at (by omega)
 have d := range_sub hd (k * 9) fun j u hu => rows_at El.len l k hk j u hu
 obtain ⟨y, HY⟩ := hid_ex l[k]
 rw [HY.out] at d ⊢
 clear HY h hd
 have ze : (Tryz.prog.info? 69).map (·.size) = some (El.cells y).length := size69
 have zm : (Tryz.prog.info? 50).map (·.size) = some [Value.int .i64 x.p, .int .i64 x.s, .int .i64 x.i].length := size50
 have C1 : ∀ w, Calls Tryz.prog 107 #[MV y.1.p y.1.s y.1.i, MV x.p x.s x.i] w (Tells (.bool (kl (kY y) (kM x))) w) := fun w => less_any y.1.p y.1.s y.1.i x.p x.s x.i w
 generalize kl (kY y) (kM x) = z at C1 ⊢
 have hbel := Below.refl w.heap.size w
 have hk0 : (0 : Int) ≤ (k : Int) := by omega
 have hk1 : (k : Int) < (l.length : Int) := by omega
 go_enter Tryz.func154, Tryz.ntmps154
 go_wp2_with fail
 have hs : Calm.Stays (fun w' => CapE w' b1 b2 b3 (.slice (some ⟨g, o, none⟩) l.length c) x ∧ w'.rangeAt g (o + k * 9) (El.cells y) ∧ Below w.heap.size w w') := fun wa wb h hb => ⟨h.1.later hb, range_later h.2.1 hb, below_on h.2.2 hb⟩
 refine Calm.region (by kernel_rfl) (by kernel_rfl) (fun w' => CapE w' b1 b2 b3 (.slice (some ⟨g, o, none⟩) l.length c) x ∧ w'.rangeAt g (o + k * 9) (El.cells y) ∧ Below w.heap.size w w') ⟨⟨hC.f, hC.l, hC.m⟩, d, hbel.drew⟩ ?_
 all_goals refine Calm.cl (fun _ h => h.1.f) ?_
 all_goals refine Calm.cl (fun _ h => h.1.l) ?_
 iterate 2 (all_goals refine Calm.sp ?_)
 all_goals refine Calm.lm ze (fun _ h => h.2.1) Tryz.underlying69 ?_
 all_goals refine Calm.kf1 hs (fun w1 h => markE_any y w1) ?_
 all_goals refine Calm.lm zm (fun _ h => Rw.whole h.1.m) Tryz.underlying50 ?_
 all_goals refine Calm.k2 hs (fun w1 h => C1 w1) ?_
 iterate 2 (all_goals refine Calm.sp ?_)
 all_goals
  rintro w9 ⟨_, _, hbel9⟩
 go_wp2_with fail
 go_ret
 exact ⟨rfl, hbel9⟩
theorem searchE_any (b1 b2 b3 : Nat) (v : Value) (l : List (El × Value)) (x : M) (w : World) (h : SHas 9 w v l.length (rows El.cells l)) (hl : l.length ≤ 100) (hp : l.Pairwise (fun a b => kl (kY a) (kY b) = true)) (hC : CapE w b1 b2 b3 v x) :
  Calls Tryz.prog 105 #[.int .i64 l.length, .func (.func 154) #[] #[.pointer (some ⟨b1, 0, none⟩), .pointer (some ⟨b2, 0, none⟩), .pointer (some ⟨b3, 0, none⟩)]] w (SePost kY l (kM x) w) := by
 have HA : Hid (SHas 9 w v l.length (rows El.cells l)) := h
 have HP : Hid (l.Pairwise (fun a b => kl (kY a) (kY b) = true)) := hp
 have HC : Hid (CapE w b1 b2 b3 v x) := hC
 clear h hp hC
 go_enter Tryz.func105, Tryz.ntmps105
 go_wp2
 go_loopw [5, 6] (fun vi vj wr => ∃ a b : Nat, vi = .int .i64 a ∧ vj = .int .i64 b ∧ a ≤ b ∧ b ≤ l.length ∧ Hid (∀ j (h : j < l.length), j < a → kl (kY l[j]) (kM x) = true) ∧ Hid (∀ j (h : j < l.length), b ≤ j → kl (kY l[j]) (kM x) = false) ∧ Below w.heap.size w wr) (fun vi vj _ => (intOf vj).toNat - (intOf vi).toNat)
 case atStart => exact ⟨0, l.length, rfl, rfl, by omega, by omega, (show ∀ j (_ : j < l.length), j < 0 → _ from fun j _ h => by omega), (show ∀ j (_ : j < l.length), l.length ≤ j → _ from fun j h h' => by omega), Below.refl _ _⟩
 case round =>
  obtain ⟨a, b, rfl, rfl, hab, hbl, HV, HW, hbel⟩ := hrel
  by_cases hlt : a < b
  ·have hlt' : (a : Int) < (b : Int) := by omega
   obtain ⟨m, hm⟩ : ∃ m : Nat, m = (a + b) / 2 := ⟨_, rfl⟩
   have hmi : ((a : Int) + (b : Int)) / 2 = (m : Int) := by omega
   have hm1 : a ≤ m := by omega
   have hm2 : m < b := by omega
   have hml : m < l.length := by omega
   have C1 := find1E_any m b1 b2 b3 v l x wr (HA.out.later hbel) hml (HC.out.later hbel)
   obtain ⟨z, HZ⟩ := hid_ex (kl (kY l[m]) (kM x))
   rw [HZ.out] at C1
   clear hm
   go_wp2_with (first | rw [hmi])
   refine C1.mono ?_
   clear C1
   rintro e w1 ⟨rfl, hb1⟩
   cases z
   ·have HW2 : Hid (∀ j (h : j < l.length), m ≤ j → kl (kY l[j]) (kM x) = false) := fun j h hj => by
     rcases Nat.lt_or_ge m j with h' | h'
     ·cases k : kl (kY l[j]) (kM x)
      ·rfl
      ·have := kl_trans ((List.pairwise_iff_getElem.1 HP.out) m j hml h h') k
       rw [HZ.out] at this
       cases this
     ·obtain rfl : j = m := by omega
      exact HZ.out
    go_wp2_with fail
    go_roundw
    case rel => exact ⟨a, m, rfl, rfl, by omega, by omega, HV, HW2, below_on hbel hb1⟩
    case measure => simp [intOf]; omega
   ·have HV2 : Hid (∀ j (h : j < l.length), j < m + 1 → kl (kY l[j]) (kM x) = true) := fun j h hj => by
     rcases Nat.lt_or_ge j m with h' | h'
     ·exact kl_trans ((List.pairwise_iff_getElem.1 HP.out) j m h hml h') HZ.out
     ·obtain rfl : j = m := by omega
      exact HZ.out
    go_wp2_with fail
    go_roundw
    case rel => exact ⟨m + 1, b, by simp, rfl, by omega, by omega, HV2, HW, below_on hbel hb1⟩
    case measure => simp [intOf]; omega
  ·obtain rfl : a = b := by omega
   have hlt' : ¬ (a : Int) < (a : Int) := by omega
   clear HA HP HC
   go_wp2_with fail
   go_ret
   exact ⟨a, rfl, hbl, HV.out, HW.out, hbel⟩
theorem findE_any (v : Value) (l : List (El × Value)) (x : M) (w : World) (h : SHas 9 w v l.length (rows El.cells l)) (hl : l.length ≤ 100) (hp : l.Pairwise (fun a b => kl (kY a) (kY b) = true)) :
  Calls Tryz.prog 132 #[v, MV x.p x.s x.i, .func (.func 133) #[] #[]] w (FdPost kY l (kM x) w) := by
 obtain ⟨pa, ca', rfl⟩ := h.slice
 have hbel := bel_alloc (bel_alloc (bel_alloc (Below.refl w.heap.size w) (.cells #[.slice pa l.length ca'] 25)) (.cells #[.int .i64 x.p, .int .i64 x.s, .int .i64 x.i] 50)) (.cells #[.func (.func 133) #[] #[]] 154)
 have r1 := ((rw_new w 25 #[.slice pa l.length ca']).alloc (.cells #[.int .i64 x.p, .int .i64 x.s, .int .i64 x.i] 50)).alloc (.cells #[.func (.func 133) #[] #[]] 154)
 have r2 := (rw_new (w.alloc (.cells #[.slice pa l.length ca'] 25)) 50 #[.int .i64 x.p, .int .i64 x.s, .int .i64 x.i]).alloc (.cells #[.func (.func 133) #[] #[]] 154)
 have r3 := rw_new ((w.alloc (.cells #[.slice pa l.length ca'] 25)).alloc (.cells #[.int .i64 x.p, .int .i64 x.s, .int .i64 x.i] 50)) 154 #[.func (.func 133) #[] #[]]
 generalize hW : ((w.alloc (.cells #[.slice pa l.length ca'] 25)).alloc (.cells #[.int .i64 x.p, .int .i64 x.s, .int .i64 x.i] 50)).alloc (.cells #[.func (.func 133) #[] #[]] 154) = w0 at hbel r1 r2 r3
 simp only [World.size_alloc, Nat.add_assoc, Nat.reduceAdd] at r2 r3
 have hC : CapE w0 (w.heap.size + 2) w.heap.size (w.heap.size + 1) (.slice pa l.length ca') x := ⟨r3.cell 0, r1.cell 0, r2⟩
 have c1 := hC.l
 replace h := h.later hbel
 clear r1 r2 r3
 go_enter Tryz.func132, Tryz.ntmps132
 go_wp2_with (first | rw [hW])
 clear hW
 refine (searchE_any (w.heap.size + 2) w.heap.size (w.heap.size + 1) _ l x w0 h hl hp hC).mono ?_
 rintro e w1 ⟨k, rfl, hk, h1, h2, hb1⟩
 have H1 : Hid (∀ j (h : j < l.length), j < k → kl (kY l[j]) (kM x) = true) := h1
 have H2 : Hid (∀ j (h : j < l.length), k ≤ j → kl (kY l[j]) (kM x) = false) := h2
 obtain ⟨t, HT⟩ := hid_ex (if h : k < l.length then decide (kY l[k] = kM x) else false)
 have hh := HT.out
 replace h := h.later hb1
 replace hC := hC.later hb1
 replace hbel := below_on hbel hb1
 clear h1 h2 hb1 hp c1
 by_cases hlt : k < l.length
 ·rw [dif_pos hlt] at hh
  have hlt' : (k : Int) < (l.length : Int) := by omega
  have hk0 : (0 : Int) ≤ (k : Int) := by omega
  obtain ⟨g, o, rfl, hd⟩ := h.at (by omega)
  have d := range_sub hd (k * 9) fun j u hu => rows_at El.len l k hlt j u hu
  obtain ⟨y, HY⟩ := hid_ex l[k]
  rw [HY.out] at d hh
  have E := fun w => eq_mark w y.1.p y.1.s y.1.i x.p x.s x.i
  rw [show (decide (y.1.p = x.p) && decide (y.1.s = x.s) && decide (y.1.i = x.i)) = t from (kq _ _ _ _).symm.trans hh] at E
  have ze : (Tryz.prog.info? 69).map (·.size) = some (El.cells y).length := size69
  have zm : (Tryz.prog.info? 50).map (·.size) = some [Value.int .i64 x.p, .int .i64 x.s, .int .i64 x.i].length := size50
  have HT2 : Hid (t = true ↔ ∃ h : k < l.length, kY l[k] = kM x) := by
   show _ ↔ _
   rw [← HT.out, dif_pos hlt, decide_eq_true_iff]
   exact ⟨fun e => ⟨hlt, e⟩, fun ⟨_, e⟩ => e⟩
  clear hh h hd HY HT
  go_wp2_with fail
  have hs : Calm.Stays (fun w' => CapE w' (w.heap.size + 2) w.heap.size (w.heap.size + 1) (.slice (some ⟨g, o, none⟩) l.length ca') x ∧ w'.rangeAt g (o + k * 9) (El.cells y) ∧ Below w.heap.size w w') := fun wa wb h hb => ⟨h.1.later hb, range_later h.2.1 hb, below_on h.2.2 hb⟩
  refine Calm.region (by kernel_rfl) (by kernel_rfl) (fun w' => CapE w' (w.heap.size + 2) w.heap.size (w.heap.size + 1) (.slice (some ⟨g, o, none⟩) l.length ca') x ∧ w'.rangeAt g (o + k * 9) (El.cells y) ∧ Below w.heap.size w w') ⟨⟨hC.f, hC.l, hC.m⟩, d, hbel.drew⟩ ?_
  iterate 2 (all_goals refine Calm.sp ?_)
  all_goals refine Calm.cl (fun _ h => h.1.l) ?_
  iterate 3 (all_goals refine Calm.sp ?_)
  all_goals first | refine Calm.sk ?_ | refine Calm.cl (fun _ h => h.1.f) ?_
  all_goals first | refine Calm.sk ?_ | refine Calm.cl (fun _ h => h.1.l) ?_
  iterate 2 (all_goals refine Calm.sp ?_)
  all_goals first | refine Calm.sk ?_ | refine Calm.lm ze (fun _ h => h.2.1) Tryz.underlying69 ?_
  all_goals first | refine Calm.sk ?_ | refine Calm.kf1 hs (fun w1 h => markE_any y w1) ?_
  all_goals first | refine Calm.sk ?_ | refine Calm.lm zm (fun _ h => Rw.whole h.1.m) Tryz.underlying50 ?_
  iterate 4 (all_goals refine Calm.sp ?_)
  all_goals
   rintro w9 ⟨_, _, hbel9⟩
  go_wp2_with fail
  refine bodyPost_ret (v := .tuple #[.int .i64 k, .bool t]) (by simp [results, Tryz.results132, go_sem]) rfl ?_
  exact ⟨k, _, rfl, hk, H1.out, H2.out, HT2.out, hbel9⟩
 ·rw [dif_neg hlt] at hh
  have hlt' : ¬ (k : Int) < (l.length : Int) := by omega
  subst hh
  have HT2 : Hid (false = true ↔ ∃ h : k < l.length, kY l[k] = kM x) := ⟨fun e => (by cases e), fun ⟨h, _⟩ => absurd h hlt⟩
  clear HT
  go_wp2_with fail
  have hs : Calm.Stays (fun w' => CapE w' (w.heap.size + 2) w.heap.size (w.heap.size + 1) (.slice pa l.length ca') x ∧ Below w.heap.size w w') := fun wa wb h hb => ⟨h.1.later hb, below_on h.2 hb⟩
  refine Calm.region (by kernel_rfl) (by kernel_rfl) (fun w' => CapE w' (w.heap.size + 2) w.heap.size (w.heap.size + 1) (.slice pa l.length ca') x ∧ Below w.heap.size w w') ⟨⟨hC.f, hC.l, hC.m⟩, hbel.drew⟩ ?_
  iterate 2 (all_goals refine Calm.sp ?_)
  all_goals refine Calm.cl (fun _ h => h.1.l) ?_
  iterate 14 (all_goals refine Calm.sp ?_)
  all_goals
   rintro w9 ⟨_, hbel9⟩
  go_wp2_with fail
  refine bodyPost_ret (v := .tuple #[.int .i64 k, .bool false]) (by simp [results, Tryz.results132, go_sem]) rfl ?_
  exact ⟨k, _, rfl, hk, H1.out, H2.out, HT2.out, hbel9⟩
theorem isElem_any (y : El) (v : Value) (w : World) (h : MHas w v y.gone) : Calls Tryz.prog 87 #[EV (y, v)] w (Tells (.bool (ie y)) w) := by
 obtain ⟨z, HZ⟩ := hid_ex (ie y)
 rw [HZ.out]
 obtain ⟨p, c, rfl⟩ := h.slice
 have HM : Hid (MHas w (.slice p y.gone.length c) y.gone) := h
 clear h
 have hz : Hid (z = (decide (1 ≤ y.i) && (decide (y.x.size ≤ 64) && ca y.gone))) := by
  show _ = _
  rw [← HZ.out]
  rfl
 clear HZ
 by_cases h1 : 1 ≤ y.i
 ·by_cases h2 : y.x.size ≤ 64
  ·obtain rfl : z = ca y.gone := by
    have := hz.out
    simpa [decide_eq_true h1, decide_eq_true h2] using this
   clear hz
   have h2' : (y.x.size : Int) ≤ 64 := by omega
   go_enter Tryz.func87, Tryz.ntmps87
   go_wp2_with fail
   refine (checkMarks_any _ _ _ (HM.out.later (bel_alloc (Below.refl _ _) _))).mono ?_
   rintro e w2 ⟨rfl, hb2⟩
   go_wp2_with fail
   go_ret
   exact ⟨rfl, below_on (bel_alloc (Below.refl _ _) _) hb2⟩
  ·obtain rfl : z = false := by
    have := hz.out
    simpa [decide_eq_false h2] using this
   clear hz
   have h2' : ¬ (y.x.size : Int) ≤ 64 := by omega
   go_enter Tryz.func87, Tryz.ntmps87
   go_wp2_with fail
   go_ret
   exact ⟨rfl, bel_alloc (Below.refl _ _) _⟩
 ·obtain rfl : z = false := by
   have := hz.out
   simpa [decide_eq_false h1] using this
  clear hz
  go_enter Tryz.func87, Tryz.ntmps87
  go_wp2_with fail
  go_ret
  exact ⟨rfl, bel_alloc (Below.refl _ _) _⟩
theorem checkElems_any (v : Value) (l : List El) (w : World) (h : EHas w v l) : Calls Tryz.prog 127 #[v] w (Tells (.bool (ce l)) w) := by
 obtain ⟨z, HZ⟩ := hid_ex (ce l)
 rw [HZ.out]
 obtain ⟨ys, hys, h, hy⟩ := h
 have hml := maxLen_lt h.1
 obtain ⟨p, c, rfl⟩ := h.slice
 have hyl : ys.length = l.length := by rw [← hys, List.length_map]
 have HR : Hid (SHas 9 w (.slice p l.length c) l.length (rows El.cells ys)) := h
 have HY : Hid (∀ y ∈ ys, MHas w y.2 y.1.gone) := hy
 have HL : Hid (∀ k (h1 : k < ys.length) (h2 : k < l.length), ys[k].1 = l[k]) := fun k h1 h2 => by
  subst hys
  rw [List.getElem_map]
 clear h hy hys
 go_enter Tryz.func127, Tryz.ntmps127
 go_wp2
 go_loopw [7] (fun vi wr => ∃ k : Nat, vi = .int .i64 k ∧ k ≤ l.length ∧ Hid (∀ i (h : i < l.length), i < k → oke l i h = true) ∧ Below w.heap.size w wr) (fun vi _ => l.length - (intOf vi).toNat)
 case atStart => exact ⟨0, rfl, by omega, (show ∀ i (_ : i < l.length), i < 0 → _ from fun i _ h => by omega), Below.refl _ _⟩
 case round =>
  obtain ⟨k, rfl, hk, HV, hbel⟩ := hrel
  by_cases hlt : k < l.length
  ·have hlt' : (k : Int) < (l.length : Int) := by omega
   obtain ⟨g, o, rfl, hd0⟩ := HR.out.at (by omega)
   have hd := range_later hd0 hbel
   have d : wr.rangeAt g (o + k * 9) (El.cells (ys[k]'(by omega))) := range_sub hd (k * 9) fun j u hu => rows_at El.len ys k (by omega) j u hu
   have hyk := (HY.out ys[k] (List.getElem_mem _)).later hbel
   obtain ⟨yy, HX⟩ := hid_ex (ys[k]'(by omega))
   have HX2 : Hid (l[k] = yy.1) := by
    show _ = _
    rw [← HL.out k (by omega) hlt, HX.out]
   rw [HX.out] at d hyk
   obtain ⟨y, yv⟩ := yy
   replace hyk : MHas wr yv y.gone := hyk
   obtain ⟨py, cy, rfl⟩ := hyk.slice
   replace d : wr.rangeAt g (o + k * 9) [Value.int .i64 y.p, .int .i64 y.s, .int .i64 y.i, .int .i64 y.t, .int .i64 y.q, .int .i64 y.u, .int .i64 y.j, .string y.x, .slice py y.gone.length cy] := d
   replace HX2 : Hid (l[k] = y) := HX2
   clear hd0 HR HY HX
   have zb : (Tryz.prog.info? 69).map (·.size) = some [Value.int .i64 y.p, .int .i64 y.s, .int .i64 y.i, .int .i64 y.t, .int .i64 y.q, .int .i64 y.u, .int .i64 y.j, .string y.x, .slice py y.gone.length cy].length := size69
   have R := rw_new wr 69 #[.int .i64 y.p, .int .i64 y.s, .int .i64 y.i, .int .i64 y.t, .int .i64 y.q, .int .i64 y.u, .int .i64 y.j, .string y.x, .slice py y.gone.length cy]
   have hbA := bel_alloc (Below.refl wr.heap.size wr) (.cells #[.int .i64 y.p, .int .i64 y.s, .int .i64 y.i, .int .i64 y.t, .int .i64 y.q, .int .i64 y.u, .int .i64 y.j, .string y.x, .slice py y.gone.length cy] 69)
   replace hbel := bel_alloc hbel (.cells #[.int .i64 y.p, .int .i64 y.s, .int .i64 y.i, .int .i64 y.t, .int .i64 y.q, .int .i64 y.u, .int .i64 y.j, .string y.x, .slice py y.gone.length cy] 69)
   replace hyk := hyk.later hbA
   obtain ⟨y1, HY1⟩ := hid_ex (ie y)
   have C1 : ∀ w, MHas w (.slice py y.gone.length cy) y.gone → Calls Tryz.prog 87 #[EV (y, .slice py y.gone.length cy)] w (Tells (.bool y1) w) := fun w h => by rw [← HY1.out]; exact isElem_any y _ w h
   cases y1
   ·have HF := ce_not HZ hlt (show oke l k hlt = false by unfold oke; rw [HX2.out, HY1.out]; rfl)
    have e := HF.out
    subst e
    clear HZ HF HV
    go_wp2_with (refine load_m 69 _ rfl rfl _ _ rfl d Tryz.underlying69 rfl zb ?_)
    clear hd d
    have hs : Calm.Stays (fun w' => Rw w' wr.heap.size 69 #[.int .i64 y.p, .int .i64 y.s, .int .i64 y.i, .int .i64 y.t, .int .i64 y.q, .int .i64 y.u, .int .i64 y.j, .string y.x, .slice py y.gone.length cy] ∧ MHas w' (.slice py y.gone.length cy) y.gone ∧ Below w.heap.size w w') := fun wa wb h hb => ⟨h.1.later hb, h.2.1.later hb, below_on h.2.2 hb⟩
    refine Calm.region (by kernel_rfl) (by kernel_rfl) (fun w' => Rw w' wr.heap.size 69 #[.int .i64 y.p, .int .i64 y.s, .int .i64 y.i, .int .i64 y.t, .int .i64 y.q, .int .i64 y.u, .int .i64 y.j, .string y.x, .slice py y.gone.length cy] ∧ MHas w' (.slice py y.gone.length cy) y.gone ∧ Below w.heap.size w w') ⟨R, hyk, hbel.drew⟩ ?_
    all_goals refine Calm.lm zb (fun _ h => Rw.whole h.1) Tryz.underlying69 ?_
    all_goals refine Calm.k1 hs (fun w1 h => C1 w1 h.2.1) ?_
    iterate 13 (all_goals refine Calm.sp ?_)
    all_goals first | refine Calm.sk ?_ | refine Calm.k2 hs (fun w1 h => C1 w1 h.2.1) ?_
    iterate 3 (all_goals refine Calm.sp ?_)
    all_goals
     rintro w9 ⟨_, _, hbel9⟩
    go_wp2_with fail
    go_ret
    exact ⟨rfl, hbel9⟩
   ·rcases Nat.eq_zero_or_pos k with rfl | hpos
    ·have HV2 : Hid (∀ i (h : i < l.length), i < 0 + 1 → oke l i h = true) := fun i h hi => by
      obtain rfl : i = 0 := by omega
      unfold oke
      rw [HX2.out, HY1.out]
      rfl
     go_wp2_with (refine load_m 69 _ rfl rfl _ _ rfl d Tryz.underlying69 rfl zb ?_)
     clear hd d HV
     have hs : Calm.Stays (fun w' => Rw w' wr.heap.size 69 #[.int .i64 y.p, .int .i64 y.s, .int .i64 y.i, .int .i64 y.t, .int .i64 y.q, .int .i64 y.u, .int .i64 y.j, .string y.x, .slice py y.gone.length cy] ∧ MHas w' (.slice py y.gone.length cy) y.gone ∧ Below w.heap.size w w') := fun wa wb h hb => ⟨h.1.later hb, h.2.1.later hb, below_on h.2.2 hb⟩
     refine Calm.region (by kernel_rfl) (by kernel_rfl) (fun w' => Rw w' wr.heap.size 69 #[.int .i64 y.p, .int .i64 y.s, .int .i64 y.i, .int .i64 y.t, .int .i64 y.q, .int .i64 y.u, .int .i64 y.j, .string y.x, .slice py y.gone.length cy] ∧ MHas w' (.slice py y.gone.length cy) y.gone ∧ Below w.heap.size w w') ⟨R, hyk, hbel.drew⟩ ?_
     all_goals refine Calm.lm zb (fun _ h => Rw.whole h.1) Tryz.underlying69 ?_
     all_goals refine Calm.k1 hs (fun w1 h => C1 w1 h.2.1) ?_
     iterate 13 (all_goals refine Calm.sp ?_)
     all_goals first | refine Calm.sk ?_ | refine Calm.k2 hs (fun w1 h => C1 w1 h.2.1) ?_
     iterate 3 (all_goals refine Calm.sp ?_)
     all_goals
      rintro w9 ⟨_, _, hbel9⟩
     go_wp2_with fail
     go_roundw
     case rel => exact ⟨0 + 1, by simp, by omega, HV2, hbel9⟩
     case measure => simp [intOf]; omega
    ·obtain ⟨m, rfl⟩ : ∃ m, k = m + 1 := ⟨k - 1, by omega⟩
     have d2' : wr.rangeAt g (o + m * 9) (El.cells (ys[m]'(by omega))) := range_sub hd (m * 9) fun j u hu => rows_at El.len ys m (by omega) j u hu
     obtain ⟨uu, HU⟩ := hid_ex (ys[m]'(by omega))
     have HU2 : Hid (l[m] = uu.1) := by
      show _ = _
      rw [← HL.out m (by omega) (by omega), HU.out]
     rw [HU.out] at d2'
     obtain ⟨u, uv⟩ := uu
     replace HU2 : Hid (l[m] = u) := HU2
     have d2 : (wr.alloc (.cells #[.int .i64 y.p, .int .i64 y.s, .int .i64 y.i, .int .i64 y.t, .int .i64 y.q, .int .i64 y.u, .int .i64 y.j, .string y.x, .slice py y.gone.length cy] 69)).rangeAt g (o + m * 9) [Value.int .i64 u.p, .int .i64 u.s, .int .i64 u.i] := range_later (range_sub (o := o + m * 9) (xs := El.cells (u, uv)) d2' 0 (fun j a ha => by
      rw [Nat.zero_add]
      match j, ha with
      | 0, h => exact h
      | 1, h => exact h
      | 2, h => exact h
      | j + 3, h => simp at h)) hbA
     have d3 : (wr.alloc (.cells #[.int .i64 y.p, .int .i64 y.s, .int .i64 y.i, .int .i64 y.t, .int .i64 y.q, .int .i64 y.u, .int .i64 y.j, .string y.x, .slice py y.gone.length cy] 69)).rangeAt wr.heap.size 0 [Value.int .i64 y.p, .int .i64 y.s, .int .i64 y.i] := R.range 0 _ (fun j a ha => by
      rw [Nat.zero_add]
      match j, ha with
      | 0, h => exact h
      | 1, h => exact h
      | 2, h => exact h
      | j + 3, h => simp at h)
     have zu : (Tryz.prog.info? 50).map (·.size) = some [Value.int .i64 u.p, .int .i64 u.s, .int .i64 u.i].length := size50
     have zy : (Tryz.prog.info? 50).map (·.size) = some [Value.int .i64 y.p, .int .i64 y.s, .int .i64 y.i].length := size50
     have hm1 : IntKind.i64.wrap (((m + 1 : Nat) : Int) - 1) = (m : Int) := by rw [IntKind.wrap_i64]; omega
     have hm3 : IntKind.i64.wrap (m : Int) = (m : Int) := by rw [IntKind.wrap_i64]; omega
     have hpos' : (0 : Int) < ((m + 1 : Nat) : Int) := by omega
     have hm0 : (0 : Int) ≤ (m : Int) := by omega
     have hm2 : (m : Int) < (l.length : Int) := by omega
     have HO : Hid (oke l (m + 1) hlt = kl (kE u) (kE y)) := by
      show _ = _
      unfold oke
      rw [HX2.out, HY1.out]
      simp only [Nat.add_sub_cancel, HU2.out]
      simp
     obtain ⟨y2, HY2⟩ := hid_ex (kl (kE u) (kE y))
     have C2 : ∀ w, Calls Tryz.prog 107 #[MV u.p u.s u.i, MV y.p y.s y.i] w (Tells (.bool y2) w) := fun w => by rw [← HY2.out]; exact less_any u.p u.s u.i y.p y.s y.i w
     rw [HY2.out] at HO
     clear HU HU2 HX2 HY1 HY2 d2'
     cases y2
     ·have HF := ce_not HZ hlt HO.out
      have e := HF.out
      subst e
      clear HZ HF HV HO
      go_wp2_with (refine load_m 69 _ rfl rfl _ _ rfl d Tryz.underlying69 rfl zb ?_)
      clear hd d
      have hs : Calm.Stays (fun w' => Rw w' wr.heap.size 69 #[.int .i64 y.p, .int .i64 y.s, .int .i64 y.i, .int .i64 y.t, .int .i64 y.q, .int .i64 y.u, .int .i64 y.j, .string y.x, .slice py y.gone.length cy] ∧ MHas w' (.slice py y.gone.length cy) y.gone ∧ w'.rangeAt g (o + m * 9) [Value.int .i64 u.p, .int .i64 u.s, .int .i64 u.i] ∧ w'.rangeAt wr.heap.size 0 [Value.int .i64 y.p, .int .i64 y.s, .int .i64 y.i] ∧ Below w.heap.size w w') := fun wa wb h hb => ⟨h.1.later hb, h.2.1.later hb, range_later h.2.2.1 hb, range_later h.2.2.2.1 hb, below_on h.2.2.2.2 hb⟩
      refine Calm.region (by kernel_rfl) (by kernel_rfl) (fun w' => Rw w' wr.heap.size 69 #[.int .i64 y.p, .int .i64 y.s, .int .i64 y.i, .int .i64 y.t, .int .i64 y.q, .int .i64 y.u, .int .i64 y.j, .string y.x, .slice py y.gone.length cy] ∧ MHas w' (.slice py y.gone.length cy) y.gone ∧ w'.rangeAt g (o + m * 9) [Value.int .i64 u.p, .int .i64 u.s, .int .i64 u.i] ∧ w'.rangeAt wr.heap.size 0 [Value.int .i64 y.p, .int .i64 y.s, .int .i64 y.i] ∧ Below w.heap.size w w') ⟨R, hyk, d2, d3, hbel.drew⟩ ?_
      all_goals refine Calm.lm zb (fun _ h => Rw.whole h.1) Tryz.underlying69 ?_
      all_goals refine Calm.k1 hs (fun w1 h => C1 w1 h.2.1) ?_
      iterate 10 (all_goals refine Calm.sp ?_)
      all_goals first | refine Calm.sk ?_ | refine Calm.lm zu (fun _ h => h.2.2.1) Tryz.underlying50 ?_ | refine Calm.lm zy (fun _ h => h.2.2.2.1) Tryz.underlying50 ?_
      all_goals refine Calm.sp ?_
      all_goals first | refine Calm.sk ?_ | refine Calm.lm zu (fun _ h => h.2.2.1) Tryz.underlying50 ?_ | refine Calm.lm zy (fun _ h => h.2.2.2.1) Tryz.underlying50 ?_
      all_goals first | refine Calm.sk ?_ | refine Calm.k2 hs (fun w1 h => C2 w1) ?_
      iterate 3 (all_goals refine Calm.sp ?_)
      all_goals
       rintro w9 ⟨_, _, _, _, hbel9⟩
      go_wp2_with fail
      go_ret
      exact ⟨rfl, hbel9⟩
     ·have HV2 : Hid (∀ i (h : i < l.length), i < m + 1 + 1 → oke l i h = true) := fun i h hi => by
       rcases Nat.lt_or_ge i (m + 1) with h' | h'
       ·exact HV.out i h h'
       ·obtain rfl : i = m + 1 := by omega
        exact HO.out
      clear HV HO
      go_wp2_with (refine load_m 69 _ rfl rfl _ _ rfl d Tryz.underlying69 rfl zb ?_)
      clear hd d
      have hs : Calm.Stays (fun w' => Rw w' wr.heap.size 69 #[.int .i64 y.p, .int .i64 y.s, .int .i64 y.i, .int .i64 y.t, .int .i64 y.q, .int .i64 y.u, .int .i64 y.j, .string y.x, .slice py y.gone.length cy] ∧ MHas w' (.slice py y.gone.length cy) y.gone ∧ w'.rangeAt g (o + m * 9) [Value.int .i64 u.p, .int .i64 u.s, .int .i64 u.i] ∧ w'.rangeAt wr.heap.size 0 [Value.int .i64 y.p, .int .i64 y.s, .int .i64 y.i] ∧ Below w.heap.size w w') := fun wa wb h hb => ⟨h.1.later hb, h.2.1.later hb, range_later h.2.2.1 hb, range_later h.2.2.2.1 hb, below_on h.2.2.2.2 hb⟩
      refine Calm.region (by kernel_rfl) (by kernel_rfl) (fun w' => Rw w' wr.heap.size 69 #[.int .i64 y.p, .int .i64 y.s, .int .i64 y.i, .int .i64 y.t, .int .i64 y.q, .int .i64 y.u, .int .i64 y.j, .string y.x, .slice py y.gone.length cy] ∧ MHas w' (.slice py y.gone.length cy) y.gone ∧ w'.rangeAt g (o + m * 9) [Value.int .i64 u.p, .int .i64 u.s, .int .i64 u.i] ∧ w'.rangeAt wr.heap.size 0 [Value.int .i64 y.p, .int .i64 y.s, .int .i64 y.i] ∧ Below w.heap.size w w') ⟨R, hyk, d2, d3, hbel.drew⟩ ?_
      all_goals refine Calm.lm zb (fun _ h => Rw.whole h.1) Tryz.underlying69 ?_
      all_goals refine Calm.k1 hs (fun w1 h => C1 w1 h.2.1) ?_
      iterate 10 (all_goals refine Calm.sp ?_)
      all_goals first | refine Calm.sk ?_ | refine Calm.lm zu (fun _ h => h.2.2.1) Tryz.underlying50 ?_ | refine Calm.lm zy (fun _ h => h.2.2.2.1) Tryz.underlying50 ?_
      all_goals refine Calm.sp ?_
      all_goals first | refine Calm.sk ?_ | refine Calm.lm zu (fun _ h => h.2.2.1) Tryz.underlying50 ?_ | refine Calm.lm zy (fun _ h => h.2.2.2.1) Tryz.underlying50 ?_
      all_goals first | refine Calm.sk ?_ | refine Calm.k2 hs (fun w1 h => C2 w1) ?_
      iterate 3 (all_goals refine Calm.sp ?_)
      all_goals
       rintro w9 ⟨_, _, _, _, hbel9⟩
      go_wp2_with fail
      go_roundw
      case rel => exact ⟨m + 1 + 1, by simp, by omega, HV2, hbel9⟩
      case measure => simp [intOf]; omega
  ·have hlt' : ¬ (k : Int) < (l.length : Int) := by omega
   have e := HZ.out
   rw [(ce_iff l).2 (fun i h => HV.out i h (by omega))] at e
   subst e
   clear HZ HV HR HY HL
   go_wp2_with fail
   go_ret
   exact ⟨rfl, hbel⟩
def FePost (l : List El) (x : K) (w : World) (e : Ending) (w' : World) : Prop := ∃ (k : Nat) (b : Bool), e = .returned (.tuple #[.int .i64 k, .bool b]) ∧ k ≤ l.length ∧ (∀ j (h : j < l.length), j < k → kl (kE l[j]) x = true) ∧ (∀ j (h : j < l.length), k ≤ j → kl (kE l[j]) x = false) ∧ pl l x = (if b = true then some k else none) ∧ Below w.heap.size w w'
theorem fd_pl {l : List El} {x : K} {k : Nat} {b : Bool} (hp : l.Pairwise (fun a b => kl (kE a) (kE b) = true)) (h1 : ∀ j (h : j < l.length), j < k → kl (kE l[j]) x = true) (h2 : ∀ j (h : j < l.length), k ≤ j → kl (kE l[j]) x = false) (hb : b = true ↔ ∃ h : k < l.length, kE l[k] = x) : pl l x = (if b = true then some k else none) := by
 cases b
 ·rw [if_neg (by simp), pl_none]
  intro y hy e
  obtain ⟨j, hj, rfl⟩ := List.getElem_of_mem hy
  rcases Nat.lt_trichotomy j k with h' | h' | h'
  ·have := h1 j hj h'
   rw [e, kl_irr] at this
   cases this
  ·subst h'
   have := hb.2 ⟨hj, e⟩
   cases this
  ·have a1 := h2 k (by omega) (Nat.le_refl _)
   have a2 : kl (kE l[k]) (kE l[j]) = true := (List.pairwise_iff_getElem.1 hp) k j (by omega) hj h'
   rw [e, a1] at a2
   cases a2
 ·obtain ⟨h, e⟩ := hb.1 rfl
  rw [if_pos rfl, ← e, pl_at hp h]
theorem find_any (v : Value) (l : List El) (x : M) (w : World) (h : EHas w v l) (hl : l.length ≤ 100) (hp : l.Pairwise (fun a b => kl (kE a) (kE b) = true)) : Calls Tryz.prog 89 #[v, MV x.p x.s x.i] w (FePost l (kM x) w) := by
 obtain ⟨ys, hys, h, hy⟩ := h
 have hyl : l.length = ys.length := by rw [← hys, List.length_map]
 have hbA := bel_alloc (Below.refl w.heap.size w) (.cells #[.int .i64 x.p, .int .i64 x.s, .int .i64 x.i] 50)
 replace h := h.later hbA
 have hpy : ys.Pairwise (fun a b => kl (kY a) (kY b) = true) := by
  rw [← hys, List.pairwise_map] at hp
  exact hp
 rw [hyl] at h
 have C1 := findE_any v ys x _ h (by omega) hpy
 obtain ⟨p, c, rfl⟩ := h.slice
 have HH : Hid (∀ (k : Nat) (b : Bool) (w1 : World), k ≤ ys.length → (∀ j (h : j < ys.length), j < k → kl (kY ys[j]) (kM x) = true) → (∀ j (h : j < ys.length), k ≤ j → kl (kY ys[j]) (kM x) = false) → (b = true ↔ ∃ h : k < ys.length, kY ys[k] = kM x) → Below w.heap.size w w1 → FePost l (kM x) w (.returned (.tuple #[.int .i64 k, .bool b])) w1) := fun k b w1 a1 a2 a3 a4 a5 => by
  subst hys
  have g : ∀ j (h : j < (ys.map (·.1)).length), kE (ys.map (·.1))[j] = kY (ys[j]'(by simpa using h)) := fun j h => by rw [List.getElem_map]
  have b1 : ∀ j (h : j < (ys.map (·.1)).length), j < k → kl (kE (ys.map (·.1))[j]) (kM x) = true := fun j h hj => by rw [g j h]; exact a2 j _ hj
  have b2 : ∀ j (h : j < (ys.map (·.1)).length), k ≤ j → kl (kE (ys.map (·.1))[j]) (kM x) = false := fun j h hj => by rw [g j h]; exact a3 j _ hj
  refine ⟨k, b, rfl, by rw [List.length_map]; exact a1, b1, b2, fd_pl hp b1 b2 ?_, a5⟩
  rw [a4]
  constructor
  ·rintro ⟨h, e⟩
   exact ⟨by rw [List.length_map]; exact h, by rw [g]; exact e⟩
  ·rintro ⟨h, e⟩
   rw [g] at e
   exact ⟨_, e⟩
 clear hys hy hp hpy h
 have R := rw_new w 50 #[.int .i64 x.p, .int .i64 x.s, .int .i64 x.i]
 generalize hW : w.alloc (.cells #[.int .i64 x.p, .int .i64 x.s, .int .i64 x.i] 50) = w0 at hbA C1 R
 have c0 : w0.cell? ⟨w.heap.size, 0, none⟩ = some (.int .i64 x.p) := R.cell 0
 have c1 : w0.cell? ⟨w.heap.size, 1, none⟩ = some (.int .i64 x.s) := R.cell 1
 have c2 : w0.cell? ⟨w.heap.size, 2, none⟩ = some (.int .i64 x.i) := R.cell 2
 go_enter Tryz.func89, Tryz.ntmps89
 go_wp2_with (first | rw [hW])
 clear hW c0 c1 c2 R
 refine C1.mono ?_
 rintro e w1 ⟨k, b, rfl, a1, a2, a3, a4, hb1⟩
 have HF := HH.out k b w1 a1 a2 a3 a4 (below_on hbA hb1)
 have HG : Hid (FePost l (kM x) w (.returned (.tuple #[.int .i64 k, .bool b])) w1) := HF
 clear HF HH a1 a2 a3 a4 hb1 hbA C1
 go_wp2_with fail
 refine bodyPost_ret (v := .tuple #[.int .i64 k, .bool b]) (by simp [results, Tryz.results89, go_sem]) rfl ?_
 exact HG.out
def iv (l : List Nat) : List Value := l.map (fun a : Nat => Value.int .i64 (a : Int))
def bv (l : List Bool) : List Value := l.map Value.bool
theorem iv_len (l : List Nat) : (iv l).length = l.length := List.length_map _
theorem iv_at {l : List Nat} {k : Nat} (h : k < l.length) : (iv l)[k]? = some (.int .i64 (l[k] : Int)) := by simp [iv, List.getElem?_eq_getElem h]
theorem iv_set (l : List Nat) (k a : Nat) : iv (l.set k a) = (iv l).set k (.int .i64 (a : Int)) := List.map_set
theorem iv_made (n : Nat) : (madeCells #[Value.int .i64 0] n).toList = iv (List.replicate n 0) := by
 apply List.ext_getElem?
 intro i
 simp [madeCells, iv]
 by_cases h : i < n <;> simp [h, Nat.mod_one]
theorem own_fz {w : World} {B e S n g c : Nat} {xs : List Value} (h : w.ownsRow B e S (.slice (some ⟨g, 0, none⟩) n c) n xs) (i : Nat) : w.frozen? ⟨g, i, none⟩ = false := by
 obtain ⟨h1, ⟨h0, _⟩ | ⟨g', cap, cur, h', hbg, hg, h2⟩⟩ := h
 ·cases h0
 ·simp only [Value.slice.injEq, Option.some.injEq, Addr.mk.injEq, and_true, true_and] at h'
  obtain ⟨rfl, rfl⟩ := h'
  exact Rw.frozen hg i
theorem own_ge {w : World} {B e S n g c : Nat} {xs : List Value} (h : w.ownsRow B e S (.slice (some ⟨g, 0, none⟩) n c) n xs) : B ≤ g ∧ g < w.heap.size := World.ownsRow.lt h g rfl
theorem own_iset {w : World} {B e n g c : Nat} {l : List Nat} (h : w.ownsRow B e 1 (.slice (some ⟨g, 0, none⟩) n c) n (iv l)) (k a : Nat) : (w.setCell ⟨g, k, none⟩ (.int .i64 (a : Int))).ownsRow B e 1 (.slice (some ⟨g, 0, none⟩) n c) n (iv (l.set k a)) := by
 rw [iv_set]
 exact (h.stored k _).1
theorem own_iat {w : World} {B e n g c : Nat} {l : List Nat} (h : w.ownsRow B e 1 (.slice (some ⟨g, 0, none⟩) n c) n (iv l)) {k : Nat} (hk : k < l.length) : w.cell? ⟨g, k, none⟩ = some (.int .i64 (l[k] : Int)) := by
 have := h.1
 rw [iv_len] at this
 rw [h.cellAt k (by omega)]
 exact iv_at hk
theorem below_cell {w w' : World} {B g : Nat} (h : Below B w w') (hg : B ≤ g) (k : Nat) (u : Value) : Below B w (w'.setCell ⟨g, k, none⟩ u) :=
 ⟨h.os, h.tape, h.output, by rw [World.size_setCell]; exact h.size, fun b hb => (Below.heap_setCell w' ⟨g, k, none⟩ u b (by simp; omega)).trans (h.block b hb)⟩
theorem bel_grown {a b : World} (h : a.grownBy b none) : Below a.heap.size a b := ⟨h.os, h.tape, h.output, h.size, fun k hk => h.block k hk (by simp)⟩
theorem info3 : (Tryz.prog.info? 3).map (fun i => (i.zero, i.size, i.bytes)) = some (some (.int .i64 0), 1, 8) := by kernel_rfl
end Go.Proofs.YtjbbmcommnhgeaaGreat
