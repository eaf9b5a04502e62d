import Derived.Test.YthekfmodafmlgaaP7
import Derived.Shelf.Spec.SlicesInsertGrow
import Derived.Maps.AppendAt
/- slices.Insert of one mark into a row that the call made. -/
namespace Go.Proofs.Ythekfmodafmlgaa
open Go.RowKit

/-- copy of elements of S cells, into a row. -/
theorem run_copy_rowS {P : Program} (w : World) (dT sT ty elem : TypeId) (g o dLen dCap : Nat) (a : Addr) (sLen sCap : Nat) (cur : Array Value) (t : TypeId) (cs : List Value) (S k : Nat)
    (hu : P.underlying dT = some (.slice elem)) (hs : (P.info? elem).map (·.size) = some S)
    (hg : w.heap[g]? = some (.cells cur t (0, 0))) (hk : Nat.min sLen dLen = k) (hn : cs.length = k * S)
    (hsrc : ∀ j v, cs[j]? = some v → w.cell? (a.add j) = some v) (hfit : o + cs.length ≤ cur.size) (h1 : ∀ v ∈ cs, v.oneCell' = true) :
    (Builtin.copy_ #[dT, sT] ty #[.slice (some ⟨g, o, none⟩) dLen dCap, .slice (some a) sLen sCap]).run P w =
      .ok (goInt k) (w.setRow g (cur.toList.take o ++ cs ++ cur.toList.drop (o + cs.length)).toArray) := by
  have hl := run_loadCells_list (P := P) w a cs hsrc
  have hst := run_storeCells_at P g o t cs 0 cur w hg (by simpa using hfit) h1
  cases hq : P.info? elem with
  | none => simp [hq] at hs
  | some i =>
    have hi : i.size = S := by simpa [hq] using hs
    simp [Builtin.copy_, run_underlying hu, Builtin.lenOf, Builtin.firstCells, sizeOf, typeInfo, hq, hi, hk, ← hn, hl, hst]
/-- All that was there stays, but for one block. -/
def Kp (o : Option Nat) (w w' : World) : Prop := ∀ b, b < w.heap.size → o ≠ some b → w'.heap[b]? = w.heap[b]?
theorem Kp.on {o : Option Nat} {w w1 w2 : World} (h : Kp o w w1) (hs : w.heap.size ≤ w1.heap.size) (hb : Below w1.heap.size w1 w2) : Kp o w w2 := fun b h1 h2 => (hb.block b (by omega)).trans (h b h1 h2)
theorem Kp.row {g : Nat} {w w1 : World} (h : Kp (some g) w w1) (cs : Array Value) : Kp (some g) w (w1.setRow g cs) := fun b h1 h2 => (setRow_other w1 g b cs (fun e => h2 (by rw [e]))).trans (h b h1 h2)
/-- What Insert answers: a row of its own. -/
def InPost (B : Nat) (v : Value) (n : Nat) (xs : List Value) (w : World) (e : Ending) (w' : World) : Prop := ∃ u, e = .returned u ∧ w'.ownsRow B 44 3 u n xs ∧ Kp v.ownBlock w w' ∧ (∀ k, u.ownBlock = some k → v.ownBlock = some k ∨ w.heap.size ≤ k) ∧ Below B w w'

set_option maxHeartbeats 2000000 in
set_option maxRecDepth 100000 in
theorem insert_end (B : Nat) (p : Option Addr) (n c : Nat) (xs : List Value) (vb : Nat) (x : M) (w : World) (hown : w.ownsRow B 44 3 (.slice p n c) n xs) (hn : n ≤ 100) (hB : B ≤ w.heap.size) (R : Rw w vb 44 x.cells.toArray) :
    Calls Try.prog 56 #[.slice p n c, .int .i64 n, .slice (some ⟨vb, 0, none⟩) 1 1] w (InPost B (.slice p n c) (n + 1) (xs ++ x.cells) w) := by
  obtain ⟨i0, hi, hz0, hz1, hz2⟩ := info_parts info44
  have hc1 : ∀ j u, x.cells[j]? = some u → w.cell? ((⟨vb, 0, none⟩ : Addr).add j) = some u := fun j u hu => by
    rw [Addr.add_mid]
    exact Rw.whole R j u hu
  have HC : Hid (∀ j u, x.cells[j]? = some u → w.cell? ((⟨vb, 0, none⟩ : Addr).add j) = some u) := hc1
  have hnc : (n : Int) ≤ (c : Int) := by
    rcases hown.2 with ⟨h, h0⟩ | ⟨g, cap, cur, h, _, _, h2, _⟩
    · simp only [Value.slice.injEq] at h
      omega
    · simp only [Value.slice.injEq] at h
      omega
  clear hc1 R
  have hm1 : n + 1 ≤ maxLen := by unfold maxLen; omega
  have hm2 : (n + 1) * 24 ≤ 140737488355328 := by omega
  have HL : Hid (∀ q, (Value.slice p n c).ownBlock = some q → B ≤ q) := fun q hq => (hown.lt q hq).1
  by_cases hcn : c = n
  all_goals
    go_enter Try.func56, Try.ntmps56
    go_wp2_with (first | (at_builtin; refine wpList_append_own_at _ rfl _ _ 39 rfl B 44 i0 (MV 0 0 0) 3 24 Try.underlying39 hi hz0 hz1 hz2 rfl (by decide) _ _ _ rfl hown ⟨vb, 0, none⟩ 1 1 x.cells rfl rfl HC.out x.one hm1 hm2 hB ?_))
    intro v2 w2 hown2 hg2 _ hat
    have HAT : Hid (∀ k, v2.ownBlock = some k → (Value.slice p n c).ownBlock = some k ∨ w.heap.size ≤ k) := fun k hk => hat.elim (fun e => .inl (by rw [← hk, e]; first | done | (cases p <;> rfl))) (fun e => .inr (Nat.le_of_eq (Option.some.inj (e.symm.trans hk))))
    clear hat
    go_wp2_with fail
    go_ret
    exact ⟨_, rfl, hown2, (fun b h1 h2 => hg2.block b h1 (fun e => h2 (by rw [e]; first | done | (cases p <;> rfl)))), HAT.out, (Below.refl _ _).grown hg2 hB (fun q hq => HL.out q (by cases p <;> exact hq))⟩
set_option maxRecDepth 100000 in
theorem f66_extern (w : World) (vb g o lb cb k : Nat) (hne : vb ≠ g) {tA tB : TypeId} {c1 c2 : Array Value} (R : Rw w vb tA c1) (R2 : Rw w g tB c2) (hk : c2.size = k + 1) : (callFunc 66 #[.slice (some ⟨vb, 0, none⟩) 1 1, .slice (some ⟨g, o, none⟩) lb cb]).run Try.prog w = .ok (.value (.bool false)) w := by
  rw [run_callFunc_extern Try.func66 (by kernel_rfl) (by kernel_rfl) (by kernel_rfl) (e := Extern.SlicesOverlaps.overlaps #[39, 39] #[4]) (by kernel_rfl),
    Lib.run_overlaps_apart w 39 4 44 Try.underlying39 3 (fun w => by rfl) ⟨vb, 0, none⟩ ⟨g, o, none⟩ 1 1 lb cb hne tA tB c1.size c2.size (by unfold World.shape?; rw [show w.heap[vb]? = _ from R]) (by unfold World.shape?; rw [show w.heap[g]? = _ from R2]) (by omega) (R.frozen _) (R.frozen _)]
  rfl
/-- Put in at a place. -/
def put3 (xs ys : List Value) (i : Nat) : List Value := xs.take (i * 3) ++ ys ++ xs.drop (i * 3)
theorem put3_length (xs ys : List Value) (i : Nat) : (put3 xs ys i).length = xs.length + ys.length := by
  simp [put3]
  omega
theorem shift_list (cur xs ys : List Value) (n i : Nat) (hi : i < n) (hl : xs.length = n * 3) (hy : ys.length = 3) (hc : (n + 1) * 3 ≤ cur.length) (ht : cur.take (n * 3) = xs) (c1 : List Value) (h1 : c1 = cur.take ((i + 1) * 3) ++ xs.drop (i * 3) ++ cur.drop ((i + 1) * 3 + (xs.drop (i * 3)).length)) :
    (c1.take (i * 3) ++ ys ++ c1.drop (i * 3 + ys.length)).take ((n + 1) * 3) = xs.take (i * 3) ++ ys ++ xs.drop (i * 3) := by
  have hk : (cur.take ((i + 1) * 3)).length = (i + 1) * 3 := by rw [List.length_take]; omega
  have e1 : c1.take (i * 3) = xs.take (i * 3) := by
    rw [h1, List.append_assoc, List.take_append_of_le_length (by omega), List.take_take, Nat.min_eq_left (by omega), ← ht, List.take_take, Nat.min_eq_left (by omega)]
  have e2 : c1.drop (i * 3 + ys.length) = xs.drop (i * 3) ++ cur.drop ((i + 1) * 3 + (xs.drop (i * 3)).length) := by
    rw [h1, List.append_assoc, List.drop_left' (by rw [hk, hy]; omega)]
  rw [e1, e2, ← List.append_assoc, List.take_left']
  simp only [List.length_append, List.length_take, List.length_drop, hy, hl]
  omega
set_option maxHeartbeats 2000000 in
set_option maxRecDepth 100000 in
theorem insert_shift (B g n c i : Nat) (xs : List Value) (vb : Nat) (x : M) (w : World) (hown : w.ownsRow B 44 3 (.slice (some ⟨g, 0, none⟩) n c) n xs) (hi : i < n) (hc : n + 1 ≤ c) (hn : n ≤ 100) (hvb : vb ≠ g) (h1 : ∀ u ∈ xs, u.oneCell' = true) (R : Rw w vb 44 x.cells.toArray) :
    Calls Try.prog 56 #[.slice (some ⟨g, 0, none⟩) n c, .int .i64 i, .slice (some ⟨vb, 0, none⟩) 1 1] w (InPost B (.slice (some ⟨g, 0, none⟩) n c) (n + 1) (put3 xs x.cells i) w) := by
  obtain ⟨hxl, ⟨h0, _⟩ | ⟨g', cap, cur, h0, hBg, hg, hnc, hcm, hcs, htake⟩⟩ := hown
  · simp at h0
  simp only [Value.slice.injEq, Option.some.injEq, Addr.mk.injEq, and_true, true_and] at h0
  obtain ⟨rfl, rfl⟩ := h0
  have hov : ∀ lb cb, (callFunc 66 #[.slice (some ⟨vb, 0, none⟩) 1 1, .slice (some ⟨g, (i + 1) * 3, none⟩) lb cb]).run Try.prog w = .ok (.value (.bool false)) w := fun lb cb => f66_extern w vb g _ lb cb (cur.size - 1) hvb R hg (by omega)
  have hsrc : ∀ j v, (xs.drop (i * 3))[j]? = some v → w.drew.cell? ((⟨g, i * 3, none⟩ : Addr).add j) = some v := fun j v hv => by
    rw [Addr.add_mid]
    show w.cell? _ = _
    rw [cell_of_row w g _ cur 44 (0, 0) hg]
    rw [List.getElem?_drop] at hv
    have hlt := (List.getElem?_eq_some_iff.1 hv).1
    rw [← htake, List.getElem?_take, if_pos (by omega)] at hv
    simpa using hv
  have hcp1 : ∀ ty dc sc, (Builtin.copy_ #[39, 39] ty #[.slice (some ⟨g, (i + 1) * 3, none⟩) (n - i) dc, .slice (some ⟨g, i * 3, none⟩) (n + 1 - i) sc]).run Try.prog w.drew = .ok (goInt ((n - i : Nat) : Int)) (w.drew.setRow g (cur.toList.take ((i + 1) * 3) ++ xs.drop (i * 3) ++ cur.toList.drop ((i + 1) * 3 + (xs.drop (i * 3)).length)).toArray) := fun ty dc sc =>
    run_copy_rowS w.drew 39 39 ty 44 g ((i + 1) * 3) (n - i) dc ⟨g, i * 3, none⟩ (n + 1 - i) sc cur 44 (xs.drop (i * 3)) 3 (n - i) Try.underlying39 size44 hg (by simp only [Nat.min_def]; split <;> omega) (by rw [List.length_drop]; omega) hsrc (by rw [List.length_drop]; omega) (fun v hv => h1 v (List.mem_of_mem_drop hv))
  obtain ⟨cur1, HC1⟩ := hid_ex (cur.toList.take ((i + 1) * 3) ++ xs.drop (i * 3) ++ cur.toList.drop ((i + 1) * 3 + (xs.drop (i * 3)).length)).toArray
  have hl1 : cur1.size = cur.size := by
    rw [← HC1.out]
    simp
    omega
  rw [HC1.out] at hcp1
  have hg1 : (w.drew.setRow g cur1).heap[g]? = some (.cells cur1 44 (0, 0)) := setRow_heap w.drew g cur cur1 44 (0, 0) hg
  have hsrc2 : ∀ j v, x.cells[j]? = some v → (w.drew.setRow g cur1).cell? ((⟨vb, 0, none⟩ : Addr).add j) = some v := fun j v hv => by
    rw [Addr.add_mid, World.cell?_of_block (w := w) (setRow_other w.drew g vb cur1 hvb)]
    exact Rw.whole R j v hv
  have hcp2 : ∀ (W : World), W.heap = (w.drew.setRow g cur1).heap → ∀ ty dc, (Builtin.copy_ #[39, 39] ty #[.slice (some ⟨g, i * 3, none⟩) (n + 1 - i) dc, .slice (some ⟨vb, 0, none⟩) 1 1]).run Try.prog W = .ok (goInt 1) (W.setRow g (cur1.toList.take (i * 3) ++ x.cells ++ cur1.toList.drop (i * 3 + x.cells.length)).toArray) := fun W hW ty dc =>
    run_copy_rowS W 39 39 ty 44 g (i * 3) (n + 1 - i) dc ⟨vb, 0, none⟩ 1 1 cur1 44 x.cells 3 1 Try.underlying39 size44 (by rw [hW]; exact hg1) (by simp only [Nat.min_def]; split <;> omega) rfl (fun j v hv => by rw [World.cell?_of_block (w := w.drew.setRow g cur1) (by rw [hW])]; exact hsrc2 j v hv) (by rw [M.len]; omega) x.one
  have hw1 : IntKind.i64.wrap ((i : Int) + 1) = (i : Int) + 1 := by rw [IntKind.wrap_i64]; omega
  have hz2 : ¬ ((i : Int) = (n : Int)) := by omega
  have hb1 : (0 : Int) ≤ (i : Int) + 1 := by omega
  have htn : ((i : Int) + 1).toNat = i + 1 := by omega
  have hb2 : ¬ (c = i + 1) := by omega
  have hb3 : (i : Int) ≤ (n : Int) + 1 := by omega
  have hb4 : ¬ (c = i) := by omega
  have hin : i ≤ n := by omega
  have mixed : Try.prog.follows .mixedOrders = true := by kernel_rfl
  go_enter Try.func56, Try.ntmps56
  go_wp2_with (simp only [hov])
  go_region_law_o (refine step_copy_runI rfl _ _ 39 39 rfl _ _ (by simp [Act.eval, Act.put]) (by simp [Act.eval, Act.put]) (hcp1 _ _ _) ?_)
  go_wp2_with (at_builtin; refine wpList_copy_runI _ rfl _ _ 39 39 rfl _ _ rfl rfl (hcp2 _ rfl _ _) ?_)
  go_ret
  refine ⟨_, rfl, ⟨?_, .inr ⟨g, c, _, rfl, hBg, setRow_heap _ g cur1 _ 44 (0, 0) hg1, hc, hcm, ?_, ?_⟩⟩, Kp.row (Kp.row (fun _ _ _ => rfl) _) _, (fun k hk => .inl hk), below_setRow (below_setRow (Below.refl B w).drew hBg _) hBg _⟩
  · rw [put3_length, hxl, M.len]
    omega
  · simp only [List.size_toArray, List.length_append, List.length_take, List.length_cons, List.length_drop, Array.length_toList]
    omega
  · have := shift_list cur.toList xs x.cells n i hi hxl rfl (by rw [Array.length_toList]; omega) htake cur1.toList (by rw [← HC1.out])
    rw [List.append_assoc] at this
    exact this
theorem grow_list (xs ys z1 z2 : List Value) (n i : Nat) (hi : i < n) (hl : xs.length = n * 3) (hy : ys.length = 3) (hz : z1.length = (n + 1 - i) * 3) (r1 r2 : List Value) (h1 : r1 = (xs.take (i * 3) ++ z1 ++ z2).take (i * 3) ++ ys ++ (xs.take (i * 3) ++ z1 ++ z2).drop (i * 3 + ys.length))
    (h2 : r2 = r1.take ((i + 1) * 3) ++ xs.drop (i * 3) ++ r1.drop ((i + 1) * 3 + (xs.drop (i * 3)).length)) : r2.take ((n + 1) * 3) = xs.take (i * 3) ++ ys ++ xs.drop (i * 3) ∧ r2.length = xs.length + 3 + z2.length := by
  have hk : (xs.take (i * 3)).length = i * 3 := by rw [List.length_take]; omega
  have e1 : (xs.take (i * 3) ++ z1 ++ z2).take (i * 3) = xs.take (i * 3) := by
    rw [List.append_assoc, List.take_left' hk]
  have e2 : r1.take ((i + 1) * 3) = xs.take (i * 3) ++ ys := by
    rw [h1, e1, List.take_left' (by rw [List.length_append, hk, hy]; omega)]
  refine ⟨?_, ?_⟩
  · rw [h2, e2, List.take_left']
    simp only [List.length_append, List.length_take, List.length_drop, hy, hl]
    omega
  · rw [h2, e2, h1, e1]
    simp only [List.length_append, List.length_take, List.length_drop, hy, hl, hz]
    omega
set_option maxHeartbeats 2000000 in
set_option maxRecDepth 100000 in
theorem insert_grow (B g n c i : Nat) (xs : List Value) (vb : Nat) (x : M) (w : World) (hown : w.ownsRow B 44 3 (.slice (some ⟨g, 0, none⟩) n c) n xs) (hi : i < n) (hc : c < n + 1) (hn : n ≤ 100) (h1 : ∀ u ∈ xs, u.oneCell' = true) (hB : B ≤ w.heap.size) (R : Rw w vb 44 x.cells.toArray) :
    Calls Try.prog 56 #[.slice (some ⟨g, 0, none⟩) n c, .int .i64 i, .slice (some ⟨vb, 0, none⟩) 1 1] w (InPost B (.slice (some ⟨g, 0, none⟩) n c) (n + 1) (put3 xs x.cells i) w) := by
  obtain ⟨i0, hi0, hz0, hz1, hz2⟩ := info_parts info44
  obtain ⟨hxl, ⟨h0, _⟩ | ⟨g', cap, cur, h0, hBg, hg, hnc, hcm, hcs, htake⟩⟩ := hown
  · simp at h0
  simp only [Value.slice.injEq, Option.some.injEq, Addr.mk.injEq, and_true, true_and] at h0
  obtain ⟨rfl, rfl⟩ := h0
  have hcell : ∀ j v, xs[j]? = some v → w.cell? ⟨g, j, none⟩ = some v := fun j v hv => by
    rw [cell_of_row w g _ cur 44 (0, 0) hg]
    have hlt := (List.getElem?_eq_some_iff.1 hv).1
    rw [← htake, List.getElem?_take, if_pos (by omega)] at hv
    simpa using hv
  have hold : (Builtin.firstCells i0.size i (.slice (some ⟨g, 0, none⟩) i c)).run Try.prog w.drew = .ok (xs.take (i * 3)).toArray w.drew := by
    rw [hz1]
    exact run_firstCells_some w.drew 3 i ⟨g, 0, none⟩ i c (xs.take (i * 3)) (by rw [List.length_take]; omega) (fun j v hj => by
      rw [Addr.add_mid, Nat.zero_add]
      rw [List.getElem?_take] at hj
      split at hj
      · exact hcell j v hj
      · cases hj)
  have hrz : ∀ ty, (Builtin.append_ #[39, 3] ty #[.slice (some ⟨g, 0, none⟩) i c, .int .i64 ((n : Int) + 1 - (i : Int))]).run Try.prog w =
      .ok (.slice (some ⟨w.heap.size, 0, none⟩) (n + 1) (grownCap w (n + 1) c 44)) (w.drew.alloc (.cells ((xs.take (i * 3)).toArray ++ Builtin.zeroCells (MV 0 0 0).cells (n + 1 - i) ++ Builtin.zeroCells (MV 0 0 0).cells (grownCap w (n + 1) c 44 - (n + 1))) 44)) := fun ty => by
    have h := Lib.run_append_grow_zeros w 39 3 ty 44 i0 _ .i64 .i64 Try.underlying39 Try.underlying3 hi0 hz0 (some ⟨g, 0, none⟩) i c (xs.take (i * 3)) hold (n + 1 - i) (by omega) (by omega) (by omega) (by omega) (by rw [hz2]; omega) (by rw [hz2, show i + (n + 1 - i) = n + 1 by omega]; exact growslice_fits hc (by omega))
    rw [show i + (n + 1 - i) = n + 1 by omega] at h
    rw [show (n : Int) + 1 - (i : Int) = ((n + 1 - i : Nat) : Int) by omega]
    exact h
  obtain ⟨G, HG⟩ := hid_ex (grownCap w (n + 1) c 44)
  have hGn : n + 1 ≤ G := by rw [← HG.out]; exact grownCap_ge w _ _ _
  have hGm : G ≤ maxLen := by rw [← HG.out]; exact grownCap_le_maxLen w (n + 1) c 44 (by unfold maxLen; omega)
  have hG63 : G ≤ 9223372036854775807 := by unfold maxLen at hGm; omega
  rw [HG.out] at hrz
  obtain ⟨z1, hz1'⟩ : ∃ z1 : List Value, z1 = (Builtin.zeroCells (MV 0 0 0).cells (n + 1 - i)).toList := ⟨_, rfl⟩
  obtain ⟨z2, hz2'⟩ : ∃ z2 : List Value, z2 = (Builtin.zeroCells (MV 0 0 0).cells (G - (n + 1))).toList := ⟨_, rfl⟩
  have hzl1 : z1.length = (n + 1 - i) * 3 := by rw [hz1']; simp [Builtin.zeroCells, Value.cells]
  have hzl2 : z2.length = (G - (n + 1)) * 3 := by rw [hz2']; simp [Builtin.zeroCells, Value.cells]
  obtain ⟨row, hrow⟩ : ∃ row : Array Value, row = (xs.take (i * 3)).toArray ++ Builtin.zeroCells (MV 0 0 0).cells (n + 1 - i) ++ Builtin.zeroCells (MV 0 0 0).cells (G - (n + 1)) := ⟨_, rfl⟩
  rw [← hrow] at hrz
  have hrl : row.toList = xs.take (i * 3) ++ z1 ++ z2 := by rw [hrow, hz1', hz2']; simp
  have hrs : row.size = G * 3 := by
    rw [← Array.length_toList, hrl]
    simp only [List.length_append, List.length_take, hzl1, hzl2]
    omega
  clear hrow hz1' hz2'
  have hgw : g < w.heap.size := (Array.getElem?_eq_some_iff.1 hg).1
  have hvw : vb < w.heap.size := R.lt
  have hsrcA : ∀ j v, x.cells[j]? = some v → (w.drew.alloc (.cells row 44)).cell? ((⟨vb, 0, none⟩ : Addr).add j) = some v := fun j v hv => by
    rw [Addr.add_mid, World.cell?_of_block (w := w) (Below.heap_alloc w.drew _ vb hvw)]
    exact Rw.whole R j v hv
  have hgN : (w.drew.alloc (.cells row 44)).heap[w.heap.size]? = some (.cells row 44 (0, 0)) := heap_alloc_last w.drew _
  have hcpA : ∀ (W : World), W.heap = (w.drew.alloc (.cells row 44)).heap → ∀ ty dc, (Builtin.copy_ #[39, 39] ty #[.slice (some ⟨w.heap.size, i * 3, none⟩) (n + 1 - i) dc, .slice (some ⟨vb, 0, none⟩) 1 1]).run Try.prog W = .ok (goInt 1) (W.setRow w.heap.size (row.toList.take (i * 3) ++ x.cells ++ row.toList.drop (i * 3 + x.cells.length)).toArray) := fun W hW ty dc =>
    run_copy_rowS W 39 39 ty 44 w.heap.size (i * 3) (n + 1 - i) dc ⟨vb, 0, none⟩ 1 1 row 44 x.cells 3 1 Try.underlying39 size44 (by rw [hW]; exact hgN) (by simp only [Nat.min_def]; split <;> omega) rfl (fun j v hv => by rw [World.cell?_of_block (w := w.drew.alloc (.cells row 44)) (by rw [hW])]; exact hsrcA j v hv) (by rw [M.len]; omega) x.one
  obtain ⟨r1, HR1⟩ := hid_ex (row.toList.take (i * 3) ++ x.cells ++ row.toList.drop (i * 3 + x.cells.length)).toArray
  rw [HR1.out] at hcpA
  have hr1s : r1.size = G * 3 := by
    rw [← HR1.out]
    simp only [List.size_toArray, List.length_append, List.length_take, List.length_drop, Array.length_toList, M.len, hrs]
    omega
  have hg1 : ((w.drew.alloc (.cells row 44)).setRow w.heap.size r1).heap[w.heap.size]? = some (.cells r1 44 (0, 0)) := setRow_heap _ _ row r1 44 (0, 0) hgN
  have hsrcB : ∀ j v, (xs.drop (i * 3))[j]? = some v → ((w.drew.alloc (.cells row 44)).setRow w.heap.size r1).cell? ((⟨g, i * 3, none⟩ : Addr).add j) = some v := fun j v hv => by
    rw [Addr.add_mid, World.cell?_of_block (w := w) ((setRow_other _ w.heap.size g r1 (by omega)).trans (Below.heap_alloc w.drew _ g hgw))]
    rw [List.getElem?_drop] at hv
    exact hcell _ v hv
  have hcpB : ∀ (W : World), W.heap = ((w.drew.alloc (.cells row 44)).setRow w.heap.size r1).heap → ∀ ty dc sc, (Builtin.copy_ #[39, 39] ty #[.slice (some ⟨w.heap.size, (i + 1) * 3, none⟩) (n - i) dc, .slice (some ⟨g, i * 3, none⟩) (n - i) sc]).run Try.prog W = .ok (goInt ((n - i : Nat) : Int)) (W.setRow w.heap.size (r1.toList.take ((i + 1) * 3) ++ xs.drop (i * 3) ++ r1.toList.drop ((i + 1) * 3 + (xs.drop (i * 3)).length)).toArray) := fun W hW ty dc sc =>
    run_copy_rowS W 39 39 ty 44 w.heap.size ((i + 1) * 3) (n - i) dc ⟨g, i * 3, none⟩ (n - i) sc r1 44 (xs.drop (i * 3)) 3 (n - i) Try.underlying39 size44 (by rw [hW]; exact hg1) (Nat.min_self _) (by rw [List.length_drop]; omega) (fun j v hv => by rw [World.cell?_of_block (w := (w.drew.alloc (.cells row 44)).setRow w.heap.size r1) (by rw [hW])]; exact hsrcB j v hv) (by rw [List.length_drop]; omega) (fun v hv => h1 v (List.mem_of_mem_drop hv))
  obtain ⟨r2, HR2⟩ := hid_ex (r1.toList.take ((i + 1) * 3) ++ xs.drop (i * 3) ++ r1.toList.drop ((i + 1) * 3 + (xs.drop (i * 3)).length)).toArray
  rw [HR2.out] at hcpB
  have hfin := grow_list xs x.cells z1 z2 n i hi hxl rfl hzl1 r1.toList r2.toList (by rw [← HR1.out, hrl]) (by rw [← HR2.out])
  have HFI : Hid (r2.toList.take ((n + 1) * 3) = put3 xs x.cells i ∧ r2.size = G * 3) := ⟨hfin.1, by rw [← Array.length_toList, hfin.2]; omega⟩
  have hg2 : (((w.drew.alloc (.cells row 44)).setRow w.heap.size r1).setRow w.heap.size r2).heap[w.heap.size]? = some (.cells r2 44 (0, 0)) := setRow_heap _ _ r1 r2 44 (0, 0) hg1
  have hw1 : IntKind.i64.wrap ((i : Int) + 1) = (i : Int) + 1 := by rw [IntKind.wrap_i64]; omega
  have hz2i : ¬ ((i : Int) = (n : Int)) := by omega
  have hz3 : (c : Int) < (n : Int) + 1 := by omega
  have hb1 : (0 : Int) ≤ (i : Int) + 1 := by omega
  have htn : ((i : Int) + 1).toNat = i + 1 := by omega
  have hb3 : (i : Int) ≤ (n : Int) := by omega
  have hci : ¬ (c = i) := by omega
  have hGi : ¬ (G = i) := by omega
  have hGim : ¬ (G = i + 1) := by omega
  have hin : i ≤ n := by omega
  have mixed : Try.prog.follows .mixedOrders = true := by kernel_rfl
  clear hfin hold hrl hzl1 hzl2 hcell hsrcA hsrcB HR1 HR2
  have hA := hcpA (w.alloc (.cells row 44)).drew rfl 3 (G - i)
  go_enter Try.func56, Try.ntmps56
  go_wp2_with (first
    | (at_builtin; refine Lib.wpList_append_run _ rfl _ _ _ _ rfl _ _ rfl rfl _ _ (hrz _) ?_))
  go_region_law_o (refine step_copy_runI rfl _ _ 39 39 rfl (.slice (some ⟨w.heap.size, (i + 1) * 3, none⟩) (n - i) (G - (i + 1))) (.slice (some ⟨g, i * 3, none⟩) (n - i) (c - i)) (by simp [Act.eval, Act.put]) (by simp [Act.eval, Act.put]) (hcpB (((w.alloc (.cells row 44)).drew.setRow w.heap.size r1).drew) rfl 3 (G - (i + 1)) (c - i)) ?_)
  go_wp2
  go_ret
  refine ⟨_, rfl, ⟨?_, .inr ⟨w.heap.size, G, r2, rfl, hB, hg2, hGn, hGm, HFI.out.2, HFI.out.1⟩⟩, ?_, (fun k hk => .inr (Nat.le_of_eq (Option.some.inj hk))), ?_⟩
  · rw [put3_length, hxl, M.len]
    omega
  · intro b h1 h2
    refine (setRow_other _ w.heap.size b _ (by omega)).trans ?_
    refine (setRow_other _ w.heap.size b _ (by omega)).trans ?_
    exact Below.heap_alloc w _ b h1
  · exact below_setRow (below_setRow ((Below.refl B w).alloc hB _).drew hB _).drew hB _
/-- Put in at a place. -/
theorem put3_rows (l : List M) (x : M) (i : Nat) : put3 (rows M.cells l) x.cells i = rows M.cells (l.take i ++ x :: l.drop i) := by
  unfold put3
  rw [rows_append, rows_cons, rows_take M.len, rows_drop M.len, List.append_assoc]
theorem insert_any (B : Nat) (v : Value) (l : List M) (i : Nat) (vb : Nat) (x : M) (w : World) (hown : w.ownsRow B 44 3 v l.length (rows M.cells l)) (hi : i ≤ l.length) (hn : l.length ≤ 100) (hB : B ≤ w.heap.size) (R : Rw w vb 44 x.cells.toArray) (hvb : ∀ k, v.ownBlock = some k → vb ≠ k) :
    Calls Try.prog 56 #[v, .int .i64 i, .slice (some ⟨vb, 0, none⟩) 1 1] w (InPost B v (l.length + 1) (rows M.cells (l.take i ++ x :: l.drop i)) w) := by
  rw [← put3_rows]
  obtain ⟨p, c, rfl⟩ := own_sl hown
  rcases Nat.lt_or_ge i l.length with h | h
  · obtain ⟨g, rfl, hg⟩ := own_some hown (by omega)
    rcases Nat.lt_or_ge c (l.length + 1) with hc | hc
    · exact insert_grow B g _ c i _ vb x w hown h hc hn (rows_all M.one l) hB R
    · exact insert_shift B g _ c i _ vb x w hown h hc hn (hvb g rfl) (rows_all M.one l) R
  · obtain rfl : i = l.length := by omega
    have := insert_end B p l.length c _ vb x w hown hn hB R
    rw [show put3 (rows M.cells l) x.cells l.length = rows M.cells l ++ x.cells by unfold put3; rw [List.take_of_length_le (by rw [rows_length M.len]; omega), List.drop_of_length_le (by rw [rows_length M.len]; omega), List.append_nil]]
    exact this
end Go.Proofs.Ythekfmodafmlgaa
/- The closures of without and Fold of package orset, slices.IndexFunc over rows of marks, and what slices.DeleteFunc wants. -/
namespace Go.Proofs.Ythekfmodafmlgaa
open Go.RowKit

/-- The boxes that the closure looks at. -/
structure Bxs (w : World) (bt bi : Nat) (q u : Int) (v : List Int) (t : Int) (sl : Value) (idx : Int) : Prop where
  r : Rw w bt 34 (txc q u v t sl).toArray
  c : Rw w bi 3 #[.int .i64 idx]
theorem Bxs.later {w w' : World} {bt bi : Nat} {q u : Int} {v : List Int} {t : Int} {sl : Value} {idx : Int} (h : Bxs w bt bi q u v t sl idx) (hb : Below w.heap.size w w') : Bxs w' bt bi q u v t sl idx := ⟨h.r.later hb, h.c.later hb⟩
theorem Bxs.row {w : World} {bt bi : Nat} {q u : Int} {v : List Int} {t : Int} {sl : Value} {idx : Int} (h : Bxs w bt bi q u v t sl idx) {g : Nat} (h1 : bt ≠ g) (h2 : bi ≠ g) (cs : Array Value) : Bxs (w.setRow g cs) bt bi q u v t sl idx := ⟨h.r.rowOther h1 cs, h.c.rowOther h2 cs⟩
set_option maxHeartbeats 1000000 in
set_option maxRecDepth 100000 in
theorem without1_any (y : M) (bt bi : Nat) (q u : Int) (v : List Int) (t : Int) (sl : Value) (idx : Int) (w : World) (hv : v.length = 13) (B : Bxs w bt bi q u v t sl idx) :
    Calls Try.prog 46 #[MV y.p y.s y.i, .pointer (some ⟨bt, 0, none⟩), .pointer (some ⟨bi, 0, none⟩)] w (Tells (.bool (bf y.p y.s y.i q u v idx)) w) := by
  have C1 := fun w => before_any y.p y.s y.i q u v t sl idx w hv
  generalize bf y.p y.s y.i q u v idx = z at C1 ⊢
  have hbel := bel_alloc (Below.refl w.heap.size w) (.cells #[.int .i64 y.p, .int .i64 y.s, .int .i64 y.i] 44)
  have R0 := rw_new w 44 #[.int .i64 y.p, .int .i64 y.s, .int .i64 y.i]
  have R1 := B.r.later hbel
  have c1 : (w.alloc (.cells #[.int .i64 y.p, .int .i64 y.s, .int .i64 y.i] 44)).cell? ⟨bi, 0, none⟩ = some (.int .i64 idx) := (B.c.later hbel).cell 0
  generalize hW : w.alloc (.cells #[.int .i64 y.p, .int .i64 y.s, .int .i64 y.i] 44) = w0 at hbel R0 R1 c1
  have zt := size_tx (p := q) (s := u) (t := t) (sl := sl) hv
  go_enter Try.func46, Try.ntmps46
  go_wp2_with (first | rw [hW] | refine load_r 44 _ rfl rfl _ rfl R0 Try.underlying44 rfl size44 ?_ | refine load_r 34 _ rfl rfl _ rfl R1 Try.underlying34 rfl zt ?_)
  refine (C1 _).mono ?_
  rintro e w1 ⟨rfl, hb1⟩
  go_wp2_with fail
  go_ret
  exact ⟨rfl, below_on hbel hb1⟩
/-- The box that the closure of Fold looks at. -/
def Bxc (w : World) (bt : Nat) (v : List Int) : Prop := At w bt v
theorem Bxc.later {w w' : World} {bt : Nat} {v : List Int} (h : Bxc w bt v) (hb : Below w.heap.size w w') : Bxc w' bt v := At.later h hb
theorem Bxc.row {w : World} {bt : Nat} {v : List Int} (h : Bxc w bt v) {g : Nat} (h1 : bt ≠ g) (cs : Array Value) : Bxc (w.setRow g cs) bt v := At.rowOther h h1 cs
set_option maxHeartbeats 1000000 in
set_option maxRecDepth 100000 in
theorem fold1_any (y : M) (bt : Nat) (v : List Int) (w : World) (hv : v.length = 13) (B : Bxc w bt v) :
    Calls Try.prog 41 #[MV y.p y.s y.i, .pointer (some ⟨bt, 0, none⟩)] w (Tells (.bool (hs v y.p y.s)) w) := by
  have C1 := fun w => has_any v y.p y.s w hv
  generalize hs v y.p y.s = z at C1 ⊢
  have hbel := bel_alloc (Below.refl w.heap.size w) (.cells #[.int .i64 y.p, .int .i64 y.s, .int .i64 y.i] 44)
  have R0 := rw_new w 44 #[.int .i64 y.p, .int .i64 y.s, .int .i64 y.i]
  have R1 : At _ bt v := Bxc.later B hbel
  generalize hW : w.alloc (.cells #[.int .i64 y.p, .int .i64 y.s, .int .i64 y.i] 44) = w0 at hbel R0 R1
  have d0 : w0.rangeAt w.heap.size 0 [.int .i64 y.p, .int .i64 y.s] := R0.range 0 _ fun j u hu => by
    match j, hu with
    | 0, hu => exact hu
    | 1, hu => exact hu
    | j + 2, hu => simp at hu
  have z2 : (Try.prog.info? 29).map (·.size) = some [Value.int .i64 y.p, .int .i64 y.s].length := size29
  go_enter Try.func41, Try.ntmps41
  go_wp2_with (first | rw [hW] | refine load_at rfl _ rfl _ rfl R1 ?_ | refine load_m 29 _ rfl rfl _ _ rfl d0 Try.underlying29 rfl z2 ?_)
  refine (C1 _).mono ?_
  rintro e w1 ⟨rfl, hb1⟩
  go_wp2_with fail
  go_ret
  exact ⟨rfl, below_on hbel hb1⟩
/-- What IndexFunc answers. -/
def IxPost (l : List M) (f : M → Bool) (w : World) (e : Ending) (w' : World) : Prop :=
  (e = .returned (.int .i64 (-1)) ∧ (∀ y ∈ l, f y = false) ∧ Below w.heap.size w w') ∨ ∃ k : Nat, ∃ h : k < l.length, e = .returned (.int .i64 k) ∧ f l[k] = true ∧ (∀ j (hj : j < l.length), j < k → f l[j] = false) ∧ Below w.heap.size w w'
set_option maxHeartbeats 2000000 in
set_option maxRecDepth 100000 in
theorem index_any (v0 : Value) (l : List M) (f : M → Bool) (bt bi : Nat) (w : World) (h : MHas w v0 l) (hl : l.length ≤ 100) (C : ∀ (y : M) (w' : World), Below w.heap.size w w' → Calls Try.prog 46 #[MV y.p y.s y.i, .pointer (some ⟨bt, 0, none⟩), .pointer (some ⟨bi, 0, none⟩)] w' (Tells (.bool (f y)) w')) :
    Calls Try.prog 60 #[v0, .func (.func 46) #[] #[.pointer (some ⟨bt, 0, none⟩), .pointer (some ⟨bi, 0, none⟩)]] w (IxPost l f w) := by
  obtain ⟨pa, ca', rfl⟩ := h.slice
  have HA : Hid (MHas w (.slice pa l.length ca') l) := h
  clear h
  go_enter Try.func60, Try.ntmps60
  go_wp2
  go_loopw [8] (fun vi wr => ∃ k : Nat, vi = .int .i64 k ∧ k ≤ l.length ∧ Hid (∀ j (hj : j < l.length), j < k → f l[j] = false) ∧ Below w.heap.size w wr) (fun vi _ => l.length - (intOf vi).toNat)
  case atStart => exact ⟨0, rfl, by omega, (show ∀ j (_ : j < l.length), j < 0 → _ from fun j _ h => by omega), Below.refl _ _⟩
  case round =>
    obtain ⟨k, rfl, hk, HV, hbel⟩ := hrel
    by_cases hlt : k < l.length
    · have hlt' : (k : Int) < (l.length : Int) := by omega
      obtain ⟨g, o, rfl, hd0⟩ := HA.out.at (by omega)
      have d := M.elem (range_later hd0 hbel) k hlt
      clear hd0 HA
      obtain ⟨x, HX⟩ := hid_ex l[k]
      rw [HX.out] at d
      have zm : (Try.prog.info? 44).map (·.size) = some x.cells.length := size44
      have Cx := C x _ hbel
      obtain ⟨y, HY⟩ := hid_ex (f x)
      rw [HY.out] at Cx
      have HF : Hid (f l[k] = y) := by show _ = _; rw [HX.out, HY.out]
      clear C HX HY
      go_wp2_with (refine load_m 44 _ rfl rfl _ _ rfl d Try.underlying44 rfl zm ?_)
      refine Cx.mono ?_
      clear Cx
      rintro e w1 ⟨rfl, hb1⟩
      replace hbel := below_on hbel hb1
      cases y
      · go_wp2_with fail
        go_roundw
        case rel =>
          refine ⟨k + 1, by simp, by omega, (show ∀ j (hj : j < l.length), j < k + 1 → f l[j] = false from fun j hj hjk => ?_), hbel⟩
          rcases Nat.lt_or_ge j k with h' | h'
          · exact HV.out j hj h'
          · obtain rfl : j = k := by omega
            exact HF.out
        case measure => simp [intOf]; omega
      · go_wp2_with fail
        go_ret
        exact .inr ⟨k, hlt, rfl, HF.out, HV.out, hbel⟩
    · have hlt' : ¬ (k : Int) < (l.length : Int) := by omega
      clear HA C
      go_wp2_with fail
      go_ret
      refine .inl ⟨rfl, fun y hy => ?_, hbel⟩
      obtain ⟨j, hj, rfl⟩ := List.getElem_of_mem hy
      exact HV.out j hj (by omega)
set_option maxHeartbeats 2000000 in
set_option maxRecDepth 100000 in
theorem indexF_any (v0 : Value) (l : List M) (f : M → Bool) (bt : Nat) (w : World) (h : MHas w v0 l) (hl : l.length ≤ 100) (C : ∀ (y : M) (w' : World), Below w.heap.size w w' → Calls Try.prog 41 #[MV y.p y.s y.i, .pointer (some ⟨bt, 0, none⟩)] w' (Tells (.bool (f y)) w')) :
    Calls Try.prog 60 #[v0, .func (.func 41) #[] #[.pointer (some ⟨bt, 0, none⟩)]] w (IxPost l f w) := by
  obtain ⟨pa, ca', rfl⟩ := h.slice
  have HA : Hid (MHas w (.slice pa l.length ca') l) := h
  clear h
  go_enter Try.func60, Try.ntmps60
  go_wp2
  go_loopw [8] (fun vi wr => ∃ k : Nat, vi = .int .i64 k ∧ k ≤ l.length ∧ Hid (∀ j (hj : j < l.length), j < k → f l[j] = false) ∧ Below w.heap.size w wr) (fun vi _ => l.length - (intOf vi).toNat)
  case atStart => exact ⟨0, rfl, by omega, (show ∀ j (_ : j < l.length), j < 0 → _ from fun j _ h => by omega), Below.refl _ _⟩
  case round =>
    obtain ⟨k, rfl, hk, HV, hbel⟩ := hrel
    by_cases hlt : k < l.length
    · have hlt' : (k : Int) < (l.length : Int) := by omega
      obtain ⟨g, o, rfl, hd0⟩ := HA.out.at (by omega)
      have d := M.elem (range_later hd0 hbel) k hlt
      clear hd0 HA
      obtain ⟨x, HX⟩ := hid_ex l[k]
      rw [HX.out] at d
      have zm : (Try.prog.info? 44).map (·.size) = some x.cells.length := size44
      have Cx := C x _ hbel
      obtain ⟨y, HY⟩ := hid_ex (f x)
      rw [HY.out] at Cx
      have HF : Hid (f l[k] = y) := by show _ = _; rw [HX.out, HY.out]
      clear C HX HY
      go_wp2_with (refine load_m 44 _ rfl rfl _ _ rfl d Try.underlying44 rfl zm ?_)
      refine Cx.mono ?_
      clear Cx
      rintro e w1 ⟨rfl, hb1⟩
      replace hbel := below_on hbel hb1
      cases y
      · go_wp2_with fail
        go_roundw
        case rel =>
          refine ⟨k + 1, by simp, by omega, (show ∀ j (hj : j < l.length), j < k + 1 → f l[j] = false from fun j hj hjk => ?_), hbel⟩
          rcases Nat.lt_or_ge j k with h' | h'
          · exact HV.out j hj h'
          · obtain rfl : j = k := by omega
            exact HF.out
        case measure => simp [intOf]; omega
      · go_wp2_with fail
        go_ret
        exact .inr ⟨k, hlt, rfl, HF.out, HV.out, hbel⟩
    · have hlt' : ¬ (k : Int) < (l.length : Int) := by omega
      clear HA C
      go_wp2_with fail
      go_ret
      refine .inl ⟨rfl, fun y hy => ?_, hbel⟩
      obtain ⟨j, hj, rfl⟩ := List.getElem_of_mem hy
      exact HV.out j hj (by omega)
section
variable {ops : Array Oper} {rest : List Oper} {op : Oper} {a : Act} {w : World} {Q : Exit → Act → World → Prop}
/-- A struct is stored into the midst of a row. -/
theorem store_mr (hgd : op.guard = none) (t : TypeId) (x y : Operand) (ho : op.op = .store t x y) (b o : Nat) (cs' : Array Value) (hx : a.eval x = .pointer (some ⟨b, o, none⟩)) (hy : a.eval y = .agg cs') {tb : TypeId} {cs : Array Value} (hc : Rw w b tb cs) (hi : (Try.prog.info? t).map (·.size) = some cs'.size) (hs : o + cs'.size ≤ cs.size) (h1 : cs'.all (·.oneCell') = true)
    (h : wpList Try.prog ops Q rest (a.put op.dst undef) (w.setRow b (cs.toList.take o ++ cs'.toList ++ cs.toList.drop (o + cs'.size)).toArray)) : wpList Try.prog ops Q (op :: rest) a w :=
  wpList_plain hgd fun _ hK => by
    have h2 := run_storeCells_at Try.prog b o tb cs'.toList 0 cs w hc (by simpa using hs) (fun v hv => (Array.all_eq_true_iff_forall_mem.1 h1) v (by simpa using hv))
    simp only [Nat.add_zero, Array.length_toList] at h2
    generalize w.setRow b (cs.toList.take o ++ cs'.toList ++ cs.toList.drop (o + cs'.size)).toArray = w1 at h2 h
    have h3 : (storeVar t ⟨b, o, none⟩ (.agg cs')).run Try.prog w = .ok () w1 := by
      generalize Try.prog = P at hi h2 ⊢
      cases hq : P.info? t with
      | none => simp [hq] at hi
      | some i =>
        have hs : cs'.size = i.size := by simp [hq] at hi; omega
        simp [storeVar, sizeOf, typeInfo, hq, Value.cells, hs, h2]
    unfold Oper.wp execOp
    simp only [ho, hx, hy, Instr.storeAt, Instr.sureAddr, Sem.run_bind, Sem.run_pure, Result.andThen_ok, h3]
    exact hK _ _ h
/-- clear of a slice, whose run is known. -/
theorem clear_run (hgd : op.guard = none) (d : Operand) (t : TypeId) (ho : op.op = .call { callee := .builtin .clear, args := #[d], argTypes := #[t] }) (v : Value) (hd : a.eval d = v) {v' : Value} {w' : World}
    (hr : (Builtin.clear_ #[t] op.type #[v]).run Try.prog w = .ok v' w') (h : wpList Try.prog ops Q rest (a.put op.dst v') w') : wpList Try.prog ops Q (op :: rest) a w :=
  wpList_plain hgd fun _ hK => by
    unfold Oper.wp execOp
    generalize a.eval = ρ at hd ⊢
    subst hd
    simp [ho, go_sem, hr]
    exact hK _ _ h
end
theorem run_clear_rowS {P : Program} (w : World) (t e ty : TypeId) (z : Value) (S : Nat) (ht : P.underlying t = some (.slice e)) (hv : ∀ w, (zeroValue e).run P w = .ok z w) (hz : z.cells.size = S) (hS : 0 < S) (h1 : ∀ u ∈ z.cells.toList, u.oneCell' = true) (g o n c : Nat) (hn : 0 < n) (tb : TypeId) (cur : Array Value) (hg : w.heap[g]? = some (.cells cur tb (0, 0))) (hfit : o + n * S ≤ cur.size) :
    (Builtin.clear_ #[t] ty #[.slice (some ⟨g, o, none⟩) n c]).run P w = .ok (.tuple #[]) (w.setRow g (cur.toList.take o ++ (Builtin.zeroCells z.cells n).toList ++ cur.toList.drop (o + n * S)).toArray) := by
  have hlen : (Builtin.zeroCells z.cells n).toList.length = n * S := by simp [Builtin.zeroCells, hz]
  have h2 := run_storeCells_at P g o tb (Builtin.zeroCells z.cells n).toList 0 cur w hg (by rw [hlen]; omega) (fun u hu => by
    obtain ⟨i, hi, rfl⟩ : ∃ i, i < n * z.cells.size ∧ z.cells[i % z.cells.size]! = u := by simpa [Builtin.zeroCells] using hu
    have hlt : i % z.cells.size < z.cells.size := Nat.mod_lt _ (by omega)
    rw [getElem!_pos z.cells _ hlt]
    exact h1 _ (by simp))
  rw [hlen] at h2
  simp only [Nat.add_zero] at h2
  obtain ⟨m, rfl⟩ : ∃ m, n = m + 1 := ⟨n - 1, by omega⟩
  simp [Builtin.clear_, run_underlying ht, hv, h2]
/-- What holds ahead of each round of DeleteFunc: those that stay of the first j stand at the front, those behind j as they were. -/
structure DI (l : List M) (f : M → Bool) (a j : Nat) (cr : Array Value) : Prop where
  n : a = ((l.take j).filter (fun y => !f y)).length
  t : cr.toList.take (a * 3) = rows M.cells ((l.take j).filter (fun y => !f y))
  r : ∀ i (h : i < l.length), j ≤ i → ∀ m u, l[i].cells[m]? = some u → cr.toList[i * 3 + m]? = some u
theorem DI.start {l : List M} {f : M → Bool} {k : Nat} {cr : Array Value} (hk : k < l.length) (hf : f l[k] = true) (hb : ∀ j (hj : j < l.length), j < k → f l[j] = false) (ht : cr.toList.take (l.length * 3) = rows M.cells l) : DI l f k (k + 1) cr := by
  have e : (l.take (k + 1)).filter (fun y => !f y) = l.take k := by
    rw [List.take_succ_eq_append_getElem hk, List.filter_append, List.filter_cons_of_neg (by rw [hf]; simp), List.filter_nil, List.append_nil, List.filter_eq_self]
    intro y hy
    obtain ⟨j, hj, rfl⟩ := List.getElem_of_mem hy
    rw [List.length_take] at hj
    rw [List.getElem_take, hb j (by omega) (by omega)]
    rfl
  refine ⟨?_, ?_, ?_⟩
  · rw [e, List.length_take]
    omega
  · rw [e, rows_take M.len, ← ht, List.take_take, Nat.min_eq_left (by omega)]
  · intro i h hij m u hu
    have h1 := rows_at M.len l i h m u hu
    have hm := (List.getElem?_eq_some_iff.1 hu).1
    rw [M.len] at hm
    rw [← ht, List.getElem?_take] at h1
    split at h1
    · exact h1
    · cases h1
theorem DI.skip {l : List M} {f : M → Bool} {a j : Nat} {cr : Array Value} (h : DI l f a j cr) (hj : j < l.length) (hf : f l[j] = true) : DI l f a (j + 1) cr := by
  have e : (l.take (j + 1)).filter (fun y => !f y) = (l.take j).filter (fun y => !f y) := by
    rw [List.take_succ_eq_append_getElem hj, List.filter_append, List.filter_cons_of_neg (by rw [hf]; simp), List.filter_nil, List.append_nil]
  exact ⟨by rw [e]; exact h.n, by rw [e]; exact h.t, fun i hi hij => h.r i hi (by omega)⟩
theorem DI.keep {l : List M} {f : M → Bool} {a j : Nat} {cr : Array Value} (h : DI l f a j cr) (hj : j < l.length) (haj : a < j) (hs : l.length * 3 ≤ cr.size) (hf : f l[j] = false) : DI l f (a + 1) (j + 1) (cr.toList.take (a * 3) ++ l[j].cells ++ cr.toList.drop (a * 3 + 3)).toArray := by
  have e : (l.take (j + 1)).filter (fun y => !f y) = (l.take j).filter (fun y => !f y) ++ [l[j]] := by
    rw [List.take_succ_eq_append_getElem hj, List.filter_append, List.filter_cons_of_pos (by rw [hf]; rfl), List.filter_nil]
  have hl : (cr.toList.take (a * 3)).length = a * 3 := by rw [List.length_take, Array.length_toList]; omega
  refine ⟨?_, ?_, ?_⟩
  · rw [e, List.length_append, ← h.n]
    rfl
  · rw [e, rows_append, rows_one, List.toList_toArray, List.take_left' (by rw [List.length_append, hl, M.len]; omega), h.t]
  · intro i hi hij m u hu
    have hm := (List.getElem?_eq_some_iff.1 hu).1
    rw [M.len] at hm
    have h1 := h.r i hi (by omega) m u hu
    rw [List.toList_toArray, List.getElem?_append_right (by rw [List.length_append, hl, M.len]; omega), List.length_append, hl, M.len, List.getElem?_drop, show a * 3 + 3 + (i * 3 + m - (a * 3 + 3)) = i * 3 + m by omega]
    exact h1
theorem DI.elem {l : List M} {f : M → Bool} {a j g : Nat} {cr : Array Value} {w : World} (h : DI l f a j cr) (hj : j < l.length) (hg : Rw w g 44 cr) : w.rangeAt g (j * 3) l[j].cells := fun m u hu => by
  rw [hg.cell]
  have := h.r j hj (Nat.le_refl _) m u hu
  simpa using this
theorem zero44 : ∀ w, (zeroValue 44).run Try.prog w = .ok (MV 0 0 0) w := Try.zeroValue44
end Go.Proofs.Ythekfmodafmlgaa
/- slices.DeleteFunc over a row of marks of the call's own. -/
namespace Go.Proofs.Ythekfmodafmlgaa
open Go.RowKit

/-- What DeleteFunc answers: a row of its own. -/
def DlPost (B : Nat) (v0 : Value) (l : List M) (w : World) (e : Ending) (w' : World) : Prop := ∃ u, e = .returned u ∧ w'.ownsRow B 44 3 u l.length (rows M.cells l) ∧ Kp v0.ownBlock w w' ∧ (u.ownBlock = none ∨ u.ownBlock = v0.ownBlock) ∧ Below B w w'
set_option maxHeartbeats 4000000 in
set_option maxRecDepth 100000 in
theorem delete_any (B : Nat) (v0 : Value) (l : List M) (bt bi : Nat) (q u : Int) (v : List Int) (t : Int) (sl : Value) (idx : Int) (w : World) (hv : v.length = 13) (hown : w.ownsRow B 44 3 v0 l.length (rows M.cells l)) (hl : l.length ≤ 100) (hbt : bt < B) (hbi : bi < B) (hBw : B ≤ w.heap.size) (hX : Bxs w bt bi q u v t sl idx) :
    Calls Try.prog 40 #[v0, .func (.func 46) #[] #[.pointer (some ⟨bt, 0, none⟩), .pointer (some ⟨bi, 0, none⟩)]] w (DlPost B v0 (l.filter (fun y => !bf y.p y.s y.i q u v idx)) w) := by
  obtain ⟨f, hf⟩ : ∃ f : M → Bool, f = fun y => bf y.p y.s y.i q u v idx := ⟨_, rfl⟩
  have C : ∀ (y : M) (w' : World), Bxs w' bt bi q u v t sl idx → Calls Try.prog 46 #[MV y.p y.s y.i, .pointer (some ⟨bt, 0, none⟩), .pointer (some ⟨bi, 0, none⟩)] w' (Tells (.bool (f y)) w') := fun y w' h => by rw [hf]; exact without1_any y bt bi q u v t sl idx w' hv h
  rw [show (fun y : M => !bf y.p y.s y.i q u v idx) = fun y => !f y by rw [hf]]
  clear hf
  obtain ⟨p, c, rfl⟩ := own_sl hown
  have CI := index_any _ l f bt bi w (own_sh hown) hl (fun y w' hb => C y w' (hX.later hb))
  have HX : Hid (Bxs w bt bi q u v t sl idx) := hX
  have HO : Hid (w.ownsRow B 44 3 (.slice p l.length c) l.length (rows M.cells l)) := hown
  clear hown hX
  go_enter Try.func40, Try.ntmps40
  go_wp2_with fail
  refine CI.mono ?_
  clear CI
  rintro e w1 (⟨rfl, hall, hb1⟩ | ⟨k, hk, rfl, hfk, hbf, hb1⟩)
  · have HE : Hid (l.filter (fun y => !f y) = l) := by
      show _ = _
      rw [List.filter_eq_self]
      intro y hy
      rw [hall y hy]
      rfl
    clear hall C
    go_wp2_with fail
    go_ret
    refine ⟨_, rfl, ?_, fun b h _ => hb1.block b h, .inr rfl, hb1.mono hBw⟩
    rw [HE.out]
    exact own_later HO.out hb1
  · obtain ⟨g, rfl, hg⟩ := own_some HO.out (by omega)
    have ho := own_later HO.out hb1
    obtain ⟨hxl, ⟨h0, _⟩ | ⟨g', cap, cur, h0, hBg, hgc, hnc, hcm, hcs, htake⟩⟩ := ho
    · simp at h0
    simp only [Value.slice.injEq, Option.some.injEq, Addr.mk.injEq, and_true, true_and] at h0
    obtain ⟨rfl, rfl⟩ := h0
    have HD : Hid (DI l f k (k + 1) cur) := DI.start hk hfk hbf htake
    have HB : Hid (Bxs w1 bt bi q u v t sl idx) := HX.out.later hb1
    have HR : Hid (Rw w1 g 44 cur) := hgc
    have hbel := hb1.mono hBw
    have HK : Hid (Kp (some g) w w1) := fun b h _ => hb1.block b h
    have hsw : w.heap.size ≤ w1.heap.size := hb1.size
    clear HX HO hfk hbf htake hxl hgc hb1
    have hkb : ((k : Int) == -1) = false := by
      rw [beq_eq_false_iff_ne]
      omega
    go_wp2_with fail
    go_loopw [5, 6] (fun vi vj wr => ∃ a j : Nat, ∃ cr : Array Value, vi = .int .i64 a ∧ vj = .int .i64 j ∧ j ≤ l.length ∧ a < j ∧ Hid (DI l f a j cr) ∧ cr.size = c * 3 ∧ Hid (Rw wr g 44 cr) ∧ Hid (Bxs wr bt bi q u v t sl idx) ∧ Hid (Kp (some g) w wr) ∧ w.heap.size ≤ wr.heap.size ∧ Below B w wr) (fun _ vj _ => l.length - (intOf vj).toNat)
    case atStart => exact ⟨k, k + 1, cur, rfl, by simp, by omega, by omega, HD, hcs, HR, HB, HK, hsw, hbel⟩
    case round =>
      clear HD hcs HR HB HK hsw hbel
      obtain ⟨a, j, cr, rfl, rfl, hj, haj, HD, hcs, HR, HB, HK, hsw, hbel⟩ := hrel
      by_cases hlt : j < l.length
      · have hlt' : (j : Int) < (l.length : Int) := by omega
        have hgl := HR.out.lt
        have d := DI.elem HD.out hlt HR.out
        obtain ⟨x, HXX⟩ := hid_ex l[j]
        rw [HXX.out] at d
        have zm : (Try.prog.info? 44).map (·.size) = some x.cells.length := size44
        have hbA := bel_alloc (Below.refl wr.heap.size wr) (.cells #[.int .i64 x.p, .int .i64 x.s, .int .i64 x.i] 44)
        have R := rw_new wr 44 #[.int .i64 x.p, .int .i64 x.s, .int .i64 x.i]
        have Cx := C x _ (HB.out.later hbA)
        obtain ⟨y, HY⟩ := hid_ex (f x)
        rw [HY.out] at Cx
        have HF : Hid (f l[j] = y) := by show _ = _; rw [HXX.out, HY.out]
        clear C HY
        have hBr := Nat.le_trans hBw hbel.size
        go_wp2_with (refine load_m 44 _ rfl rfl _ _ rfl d Try.underlying44 rfl zm ?_)
        refine Cx.mono ?_
        clear Cx d
        rintro e w2 ⟨rfl, hb2⟩
        have hbC := below_on hbA hb2
        replace R := R.later hb2
        replace HR : Hid (Rw w2 g 44 cr) := HR.out.later hbC
        replace HB : Hid (Bxs w2 bt bi q u v t sl idx) := HB.out.later hbC
        replace hbel := hbel.trans (hbC.mono hBr)
        replace HK : Hid (Kp (some g) w w2) := HK.out.on hsw hbC
        replace hsw := Nat.le_trans hsw hbC.size
        clear hbA hb2 hbC
        cases y
        · have HD2 : Hid (DI l f (a + 1) (j + 1) (cr.toList.take (a * 3) ++ x.cells ++ cr.toList.drop (a * 3 + 3)).toArray) := by
            have := DI.keep HD.out hlt haj (by omega) HF.out
            rw [HXX.out] at this
            exact this
          have hal' : (a : Int) < (l.length : Int) := by omega
          have ha0 : (0 : Int) ≤ (a : Int) := by omega
          have RR := HR.out
          clear HXX HF
          go_wp2_with (first | refine load_r 44 _ rfl rfl _ rfl R Try.underlying44 rfl size44 ?_ | refine store_mr rfl 44 _ _ rfl _ _ #[.int .i64 x.p, .int .i64 x.s, .int .i64 x.i] rfl rfl RR size44 ?hfit (by simp [Value.oneCell']) ?_)
          case hfit => simp; omega
          go_roundw
          case rel =>
            refine ⟨a + 1, j + 1, _, by simp, by simp, by omega, by omega, ?_, ?_, RR.row _, HB.out.row (by omega) (by omega) _, HK.out.row _, (by simpa [World.setRow] using hsw), below_setRow hbel hBg _⟩
            · have := HD2.out
              simp only [List.append_assoc, List.cons_append, List.nil_append] at this
              exact this
            · simp
              omega
          case measure => simp [intOf]; omega
        · have HD2 : Hid (DI l f a (j + 1) cr) := DI.skip HD.out hlt HF.out
          clear HF HXX R
          go_wp2_with fail
          go_roundw
          case rel => exact ⟨a, j + 1, cr, rfl, by simp, by omega, by omega, HD2, hcs, HR, HB, HK, hsw, hbel⟩
          case measure => simp [intOf]; omega
      · obtain rfl : j = l.length := by omega
        have hlt' : ¬ (l.length : Int) < (l.length : Int) := by omega
        have hal' : (a : Int) < (l.length : Int) := by omega
        have hale : (a : Int) ≤ (l.length : Int) := by omega
        have hca : ¬ (c = a) := by omega
        have hac : (a : Int) ≤ (c : Int) := by omega
        have han : a ≤ l.length := by omega
        have ha0 : (0 : Int) ≤ (a : Int) := by omega
        have RR := HR.out
        have hcl : ∀ ty cc, (Builtin.clear_ #[39] ty #[.slice (some ⟨g, a * 3, none⟩) (l.length - a) cc]).run Try.prog wr = .ok (.tuple #[]) (wr.setRow g (cr.toList.take (a * 3) ++ (Builtin.zeroCells (MV 0 0 0).cells (l.length - a)).toList ++ cr.toList.drop (a * 3 + (l.length - a) * 3)).toArray) := fun ty cc => run_clear_rowS wr 39 44 ty _ 3 Try.underlying39 zero44 rfl (by decide) (by intro u hu; simp [Value.cells] at hu; rcases hu with rfl | rfl <;> rfl) g (a * 3) _ cc (by omega) 44 cr RR (by omega)
        obtain ⟨cr2, HC2⟩ := hid_ex (cr.toList.take (a * 3) ++ (Builtin.zeroCells (MV 0 0 0).cells (l.length - a)).toList ++ cr.toList.drop (a * 3 + (l.length - a) * 3)).toArray
        rw [HC2.out] at hcl
        have hs2 : cr2.size = c * 3 := by
          rw [← HC2.out]
          simp [Builtin.zeroCells, Value.cells]
          omega
        have ht2 : cr2.toList.take (a * 3) = rows M.cells (l.filter (fun y => !f y)) := by
          have := HD.out.t
          rw [List.take_length] at this
          rw [← HC2.out, ← this, List.toList_toArray, List.append_assoc, List.take_left' (by rw [List.length_take, Array.length_toList]; omega)]
        have hn2 : a = (l.filter (fun y => !f y)).length := by
          have := HD.out.n
          rwa [List.take_length] at this
        have HP : Hid (a = (l.filter (fun y => !f y)).length ∧ cr2.toList.take (a * 3) = rows M.cells (l.filter (fun y => !f y))) := ⟨hn2, ht2⟩
        clear ht2 hn2 HC2 C HD HB HR
        go_wp2_with (first | (at_builtin; refine clear_run rfl _ 39 rfl _ rfl (hcl _ _) ?_))
        go_ret
        refine ⟨_, rfl, ?_, HK.out.row _, .inr rfl, below_setRow hbel hBg _⟩
        obtain ⟨h1, h2⟩ := HP.out
        rw [← h1, ← h2]
        refine ⟨?_, .inr ⟨g, c, cr2, rfl, hBg, RR.row cr2, by omega, hcm, hs2, rfl⟩⟩
        rw [List.length_take, Array.length_toList]
        omega
end Go.Proofs.Ythekfmodafmlgaa
