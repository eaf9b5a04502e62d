/- slices.Insert of one write into a row that the call made. -/
import Derived.Test.YtknpnjhedfdggaaOver
import Derived.Shelf.Spec.SlicesInsertGrow
namespace Go.Proofs.Ytknpnjhedfdggaa
open Go.RowKit

/-- copy of elements of S cells, into a row. -/
theorem run_copy_rowS {P : Program} (w : World) (dT sT ty elem : TypeId) (g o dLen dCap : Nat) (a : Addr) (sLen sCap : Nat) (cur : Array Value) (t : TypeId) (cs : List Value) (S k : Nat)
    (hu : P.underlying dT = some (.slice elem)) (hs : (P.info? elem).map (·.size) = some S)
    (hg : w.heap[g]? = some (.cells cur t (0, 0))) (hk : Nat.min sLen dLen = k) (hn : cs.length = k * S)
    (hsrc : ∀ j v, cs[j]? = some v → w.cell? (a.add j) = some v) (hfit : o + cs.length ≤ cur.size) (h1 : ∀ v ∈ cs, v.oneCell' = true) :
    (Builtin.copy_ #[dT, sT] ty #[.slice (some ⟨g, o, none⟩) dLen dCap, .slice (some a) sLen sCap]).run P w =
      .ok (goInt k) (w.setRow g (cur.toList.take o ++ cs ++ cur.toList.drop (o + cs.length)).toArray) := by
  have hl := run_loadCells_list (P := P) w a cs hsrc
  have hst := run_storeCells_at P g o t cs 0 cur w hg (by simpa using hfit) h1
  cases hq : P.info? elem with
  | none => simp [hq] at hs
  | some i =>
    have hi : i.size = S := by simpa [hq] using hs
    simp [Builtin.copy_, run_underlying hu, Builtin.lenOf, Builtin.firstCells, sizeOf, typeInfo, hq, hi, hk, ← hn, hl, hst]
/-- All that was there stays, but for one block. -/
def Kp (o : Option Nat) (w w' : World) : Prop := ∀ b, b < w.heap.size → o ≠ some b → w'.heap[b]? = w.heap[b]?
theorem Kp.on {o : Option Nat} {w w1 w2 : World} (h : Kp o w w1) (hs : w.heap.size ≤ w1.heap.size) (hb : Below w1.heap.size w1 w2) : Kp o w w2 := fun b h1 h2 => (hb.block b (by omega)).trans (h b h1 h2)
theorem Kp.row {g : Nat} {w w1 : World} (h : Kp (some g) w w1) (cs : Array Value) : Kp (some g) w (w1.setRow g cs) := fun b h1 h2 => (setRow_other w1 g b cs (fun e => h2 (by rw [e]))).trans (h b h1 h2)
/-- What Insert answers: a row of its own. -/
def InPost (B : Nat) (v : Value) (n : Nat) (xs : List Value) (w : World) (e : Ending) (w' : World) : Prop := ∃ u, e = .returned u ∧ w'.ownsRow B 42 5 u n xs ∧ Kp v.ownBlock w w' ∧ Below B w w'

set_option maxHeartbeats 2000000 in
set_option maxRecDepth 100000 in
theorem insert_end (B : Nat) (p : Option Addr) (n c : Nat) (xs : List Value) (vb : Nat) (x : Wt) (w : World) (hown : w.ownsRow B 42 5 (.slice p n c) n xs) (hn : n ≤ 100) (hB : B ≤ w.heap.size) (R : Rw w vb 42 x.cells.toArray) :
    Calls Try.prog 29 #[.slice p n c, .int .i64 n, .slice (some ⟨vb, 0, none⟩) 1 1] w (InPost B (.slice p n c) (n + 1) (xs ++ x.cells) w) := by
  obtain ⟨i0, hi, hz0, hz1, hz2⟩ := info_parts info42
  have hc1 : ∀ j u, x.cells[j]? = some u → w.cell? ((⟨vb, 0, none⟩ : Addr).add j) = some u := fun j u hu => by
    rw [Addr.add_mid]
    exact Rw.whole R j u hu
  have HC : Hid (∀ j u, x.cells[j]? = some u → w.cell? ((⟨vb, 0, none⟩ : Addr).add j) = some u) := hc1
  have hnc : (n : Int) ≤ (c : Int) := by
    rcases hown.2 with ⟨h, h0⟩ | ⟨g, cap, cur, h, _, _, h2, _⟩
    · simp only [Value.slice.injEq] at h
      omega
    · simp only [Value.slice.injEq] at h
      omega
  clear hc1 R
  have hm1 : n + 1 ≤ maxLen := by unfold maxLen; omega
  have hm2 : (n + 1) * 48 ≤ 140737488355328 := by omega
  have HL : Hid (∀ q, (Value.slice p n c).ownBlock = some q → B ≤ q) := fun q hq => (hown.lt q hq).1
  by_cases hcn : c = n
  all_goals
    go_enter Try.func29, Try.ntmps29
    go_wp2_with (first | (at_builtin; refine wpList_append_own _ rfl _ _ 23 rfl B 42 i0 (WV 0 0 0 0 noS) 5 48 Try.underlying23 hi hz0 hz1 hz2 rfl (by decide) _ _ _ rfl hown ⟨vb, 0, none⟩ 1 1 x.cells rfl rfl HC.out x.one hm1 hm2 hB ?_))
    intro v2 w2 hown2 hg2 _
    go_wp2_with fail
    go_ret
    exact ⟨_, rfl, hown2, (fun b h1 h2 => hg2.block b h1 (fun e => h2 (by rw [e]; first | done | (cases p <;> rfl)))), (Below.refl _ _).grown hg2 hB (fun q hq => HL.out q (by cases p <;> exact hq))⟩
set_option maxRecDepth 100000 in
theorem f49_extern (w : World) (vb g o lb cb k : Nat) (hne : vb ≠ g) {tA tB : TypeId} {c1 c2 : Array Value} (R : Rw w vb tA c1) (R2 : Rw w g tB c2) (hk : c2.size = k + 1) : (callFunc 48 #[.slice (some ⟨vb, 0, none⟩) 1 1, .slice (some ⟨g, o, none⟩) lb cb]).run Try.prog w = .ok (.value (.bool false)) w := by
  rw [run_callFunc_extern Try.func48 (by kernel_rfl) (by kernel_rfl) (by kernel_rfl) (e := Extern.SlicesOverlaps.overlaps #[23, 23] #[4]) (by kernel_rfl),
    Lib.run_overlaps_apart w 23 4 42 Try.underlying23 5 (fun w => by rfl) ⟨vb, 0, none⟩ ⟨g, o, none⟩ 1 1 lb cb hne tA tB c1.size c2.size (by unfold World.shape?; rw [show w.heap[vb]? = _ from R]) (by unfold World.shape?; rw [show w.heap[g]? = _ from R2]) (by omega) (R.frozen _) (R.frozen _)]
  rfl
/-- Put in at a place. -/
def put5 (xs ys : List Value) (i : Nat) : List Value := xs.take (i * 5) ++ ys ++ xs.drop (i * 5)
theorem put5_length (xs ys : List Value) (i : Nat) : (put5 xs ys i).length = xs.length + ys.length := by
  simp [put5]
  omega
theorem shift_list (cur xs ys : List Value) (n i : Nat) (hi : i < n) (hl : xs.length = n * 5) (hy : ys.length = 5) (hc : (n + 1) * 5 ≤ cur.length) (ht : cur.take (n * 5) = xs) (c1 : List Value) (h1 : c1 = cur.take ((i + 1) * 5) ++ xs.drop (i * 5) ++ cur.drop ((i + 1) * 5 + (xs.drop (i * 5)).length)) :
    (c1.take (i * 5) ++ ys ++ c1.drop (i * 5 + ys.length)).take ((n + 1) * 5) = xs.take (i * 5) ++ ys ++ xs.drop (i * 5) := by
  have hk : (cur.take ((i + 1) * 5)).length = (i + 1) * 5 := by rw [List.length_take]; omega
  have e1 : c1.take (i * 5) = xs.take (i * 5) := by
    rw [h1, List.append_assoc, List.take_append_of_le_length (by omega), List.take_take, Nat.min_eq_left (by omega), ← ht, List.take_take, Nat.min_eq_left (by omega)]
  have e2 : c1.drop (i * 5 + ys.length) = xs.drop (i * 5) ++ cur.drop ((i + 1) * 5 + (xs.drop (i * 5)).length) := by
    rw [h1, List.append_assoc, List.drop_left' (by rw [hk, hy]; omega)]
  rw [e1, e2, ← List.append_assoc, List.take_left']
  simp only [List.length_append, List.length_take, List.length_drop, hy, hl]
  omega
set_option maxHeartbeats 2000000 in
set_option maxRecDepth 100000 in
theorem insert_shift (B g n c i : Nat) (xs : List Value) (vb : Nat) (x : Wt) (w : World) (hown : w.ownsRow B 42 5 (.slice (some ⟨g, 0, none⟩) n c) n xs) (hi : i < n) (hc : n + 1 ≤ c) (hn : n ≤ 100) (hvb : vb ≠ g) (h1 : ∀ u ∈ xs, u.oneCell' = true) (R : Rw w vb 42 x.cells.toArray) :
    Calls Try.prog 29 #[.slice (some ⟨g, 0, none⟩) n c, .int .i64 i, .slice (some ⟨vb, 0, none⟩) 1 1] w (InPost B (.slice (some ⟨g, 0, none⟩) n c) (n + 1) (put5 xs x.cells i) w) := by
  obtain ⟨hxl, ⟨h0, _⟩ | ⟨g', cap, cur, h0, hBg, hg, hnc, hcm, hcs, htake⟩⟩ := hown
  · simp at h0
  simp only [Value.slice.injEq, Option.some.injEq, Addr.mk.injEq, and_true, true_and] at h0
  obtain ⟨rfl, rfl⟩ := h0
  have hov : ∀ lb cb, (callFunc 48 #[.slice (some ⟨vb, 0, none⟩) 1 1, .slice (some ⟨g, (i + 1) * 5, none⟩) lb cb]).run Try.prog w = .ok (.value (.bool false)) w := fun lb cb => f49_extern w vb g _ lb cb (cur.size - 1) hvb R hg (by omega)
  have hsrc : ∀ j v, (xs.drop (i * 5))[j]? = some v → w.drew.cell? ((⟨g, i * 5, none⟩ : Addr).add j) = some v := fun j v hv => by
    rw [Addr.add_mid]
    show w.cell? _ = _
    rw [cell_of_row w g _ cur 42 (0, 0) hg]
    rw [List.getElem?_drop] at hv
    have hlt := (List.getElem?_eq_some_iff.1 hv).1
    rw [← htake, List.getElem?_take, if_pos (by omega)] at hv
    simpa using hv
  have hcp1 : ∀ ty dc sc, (Builtin.copy_ #[23, 23] ty #[.slice (some ⟨g, (i + 1) * 5, none⟩) (n - i) dc, .slice (some ⟨g, i * 5, none⟩) (n + 1 - i) sc]).run Try.prog w.drew = .ok (goInt ((n - i : Nat) : Int)) (w.drew.setRow g (cur.toList.take ((i + 1) * 5) ++ xs.drop (i * 5) ++ cur.toList.drop ((i + 1) * 5 + (xs.drop (i * 5)).length)).toArray) := fun ty dc sc =>
    run_copy_rowS w.drew 23 23 ty 42 g ((i + 1) * 5) (n - i) dc ⟨g, i * 5, none⟩ (n + 1 - i) sc cur 42 (xs.drop (i * 5)) 5 (n - i) Try.underlying23 size42 hg (by simp only [Nat.min_def]; split <;> omega) (by rw [List.length_drop]; omega) hsrc (by rw [List.length_drop]; omega) (fun v hv => h1 v (List.mem_of_mem_drop hv))
  obtain ⟨cur1, HC1⟩ := hid_ex (cur.toList.take ((i + 1) * 5) ++ xs.drop (i * 5) ++ cur.toList.drop ((i + 1) * 5 + (xs.drop (i * 5)).length)).toArray
  have hl1 : cur1.size = cur.size := by
    rw [← HC1.out]
    simp
    omega
  rw [HC1.out] at hcp1
  have hg1 : (w.drew.setRow g cur1).heap[g]? = some (.cells cur1 42 (0, 0)) := setRow_heap w.drew g cur cur1 42 (0, 0) hg
  have hsrc2 : ∀ j v, x.cells[j]? = some v → (w.drew.setRow g cur1).cell? ((⟨vb, 0, none⟩ : Addr).add j) = some v := fun j v hv => by
    rw [Addr.add_mid, World.cell?_of_block (w := w) (setRow_other w.drew g vb cur1 hvb)]
    exact Rw.whole R j v hv
  have hcp2 : ∀ (W : World), W.heap = (w.drew.setRow g cur1).heap → ∀ ty dc, (Builtin.copy_ #[23, 23] ty #[.slice (some ⟨g, i * 5, none⟩) (n + 1 - i) dc, .slice (some ⟨vb, 0, none⟩) 1 1]).run Try.prog W = .ok (goInt 1) (W.setRow g (cur1.toList.take (i * 5) ++ x.cells ++ cur1.toList.drop (i * 5 + x.cells.length)).toArray) := fun W hW ty dc =>
    run_copy_rowS W 23 23 ty 42 g (i * 5) (n + 1 - i) dc ⟨vb, 0, none⟩ 1 1 cur1 42 x.cells 5 1 Try.underlying23 size42 (by rw [hW]; exact hg1) (by simp only [Nat.min_def]; split <;> omega) rfl (fun j v hv => by rw [World.cell?_of_block (w := w.drew.setRow g cur1) (by rw [hW])]; exact hsrc2 j v hv) (by rw [Wt.len]; omega) x.one
  have hw1 : IntKind.i64.wrap ((i : Int) + 1) = (i : Int) + 1 := by rw [IntKind.wrap_i64]; omega
  have hz2 : ¬ ((i : Int) = (n : Int)) := by omega
  have hb1 : (0 : Int) ≤ (i : Int) + 1 := by omega
  have htn : ((i : Int) + 1).toNat = i + 1 := by omega
  have hb2 : ¬ (c = i + 1) := by omega
  have hb3 : (i : Int) ≤ (n : Int) + 1 := by omega
  have hb4 : ¬ (c = i) := by omega
  have hin : i ≤ n := by omega
  have mixed : Try.prog.follows .mixedOrders = true := by kernel_rfl
  go_enter Try.func29, Try.ntmps29
  go_wp2_with (simp only [hov])
  go_region_law_o (refine step_copy_runI rfl _ _ 23 23 rfl _ _ (by simp [Act.eval, Act.put]) (by simp [Act.eval, Act.put]) (hcp1 _ _ _) ?_)
  go_wp2_with (at_builtin; refine wpList_copy_runI _ rfl _ _ 23 23 rfl _ _ rfl rfl (hcp2 _ rfl _ _) ?_)
  go_ret
  refine ⟨_, rfl, ⟨?_, .inr ⟨g, c, _, rfl, hBg, setRow_heap _ g cur1 _ 42 (0, 0) hg1, hc, hcm, ?_, ?_⟩⟩, Kp.row (Kp.row (fun _ _ _ => rfl) _) _, below_setRow (below_setRow (Below.refl B w).drew hBg _) hBg _⟩
  · rw [put5_length, hxl, Wt.len]
    omega
  · simp only [List.size_toArray, List.length_append, List.length_take, List.length_cons, List.length_drop, Array.length_toList]
    omega
  · have := shift_list cur.toList xs x.cells n i hi hxl rfl (by rw [Array.length_toList]; omega) htake cur1.toList (by rw [← HC1.out])
    rw [List.append_assoc] at this
    exact this
theorem grow_list (xs ys z1 z2 : List Value) (n i : Nat) (hi : i < n) (hl : xs.length = n * 5) (hy : ys.length = 5) (hz : z1.length = (n + 1 - i) * 5) (r1 r2 : List Value) (h1 : r1 = (xs.take (i * 5) ++ z1 ++ z2).take (i * 5) ++ ys ++ (xs.take (i * 5) ++ z1 ++ z2).drop (i * 5 + ys.length))
    (h2 : r2 = r1.take ((i + 1) * 5) ++ xs.drop (i * 5) ++ r1.drop ((i + 1) * 5 + (xs.drop (i * 5)).length)) : r2.take ((n + 1) * 5) = xs.take (i * 5) ++ ys ++ xs.drop (i * 5) ∧ r2.length = xs.length + 5 + z2.length := by
  have hk : (xs.take (i * 5)).length = i * 5 := by rw [List.length_take]; omega
  have e1 : (xs.take (i * 5) ++ z1 ++ z2).take (i * 5) = xs.take (i * 5) := by
    rw [List.append_assoc, List.take_left' hk]
  have e2 : r1.take ((i + 1) * 5) = xs.take (i * 5) ++ ys := by
    rw [h1, e1, List.take_left' (by rw [List.length_append, hk, hy]; omega)]
  refine ⟨?_, ?_⟩
  · rw [h2, e2, List.take_left']
    simp only [List.length_append, List.length_take, List.length_drop, hy, hl]
    omega
  · rw [h2, e2, h1, e1]
    simp only [List.length_append, List.length_take, List.length_drop, hy, hl, hz]
    omega
set_option maxHeartbeats 2000000 in
set_option maxRecDepth 100000 in
theorem insert_grow (B g n c i : Nat) (xs : List Value) (vb : Nat) (x : Wt) (w : World) (hown : w.ownsRow B 42 5 (.slice (some ⟨g, 0, none⟩) n c) n xs) (hi : i < n) (hc : c < n + 1) (hn : n ≤ 100) (h1 : ∀ u ∈ xs, u.oneCell' = true) (hB : B ≤ w.heap.size) (R : Rw w vb 42 x.cells.toArray) :
    Calls Try.prog 29 #[.slice (some ⟨g, 0, none⟩) n c, .int .i64 i, .slice (some ⟨vb, 0, none⟩) 1 1] w (InPost B (.slice (some ⟨g, 0, none⟩) n c) (n + 1) (put5 xs x.cells i) w) := by
  obtain ⟨i0, hi0, hz0, hz1, hz2⟩ := info_parts info42
  obtain ⟨hxl, ⟨h0, _⟩ | ⟨g', cap, cur, h0, hBg, hg, hnc, hcm, hcs, htake⟩⟩ := hown
  · simp at h0
  simp only [Value.slice.injEq, Option.some.injEq, Addr.mk.injEq, and_true, true_and] at h0
  obtain ⟨rfl, rfl⟩ := h0
  have hcell : ∀ j v, xs[j]? = some v → w.cell? ⟨g, j, none⟩ = some v := fun j v hv => by
    rw [cell_of_row w g _ cur 42 (0, 0) hg]
    have hlt := (List.getElem?_eq_some_iff.1 hv).1
    rw [← htake, List.getElem?_take, if_pos (by omega)] at hv
    simpa using hv
  have hold : (Builtin.firstCells i0.size i (.slice (some ⟨g, 0, none⟩) i c)).run Try.prog w.drew = .ok (xs.take (i * 5)).toArray w.drew := by
    rw [hz1]
    exact run_firstCells_some w.drew 5 i ⟨g, 0, none⟩ i c (xs.take (i * 5)) (by rw [List.length_take]; omega) (fun j v hj => by
      rw [Addr.add_mid, Nat.zero_add]
      rw [List.getElem?_take] at hj
      split at hj
      · exact hcell j v hj
      · cases hj)
  have hrz : ∀ ty, (Builtin.append_ #[23, 3] ty #[.slice (some ⟨g, 0, none⟩) i c, .int .i64 ((n : Int) + 1 - (i : Int))]).run Try.prog w =
      .ok (.slice (some ⟨w.heap.size, 0, none⟩) (n + 1) (grownCap w (n + 1) c 42)) (w.drew.alloc (.cells ((xs.take (i * 5)).toArray ++ Builtin.zeroCells (WV 0 0 0 0 noS).cells (n + 1 - i) ++ Builtin.zeroCells (WV 0 0 0 0 noS).cells (grownCap w (n + 1) c 42 - (n + 1))) 42)) := fun ty => by
    have h := Lib.run_append_grow_zeros w 23 3 ty 42 i0 _ .i64 .i64 Try.underlying23 Try.underlying3 hi0 hz0 (some ⟨g, 0, none⟩) i c (xs.take (i * 5)) hold (n + 1 - i) (by omega) (by omega) (by omega) (by omega) (by rw [hz2]; omega) (by rw [hz2, show i + (n + 1 - i) = n + 1 by omega]; exact growslice_fits hc (by omega))
    rw [show i + (n + 1 - i) = n + 1 by omega] at h
    rw [show (n : Int) + 1 - (i : Int) = ((n + 1 - i : Nat) : Int) by omega]
    exact h
  obtain ⟨G, HG⟩ := hid_ex (grownCap w (n + 1) c 42)
  have hGn : n + 1 ≤ G := by rw [← HG.out]; exact grownCap_ge w _ _ _
  have hGm : G ≤ maxLen := by rw [← HG.out]; exact grownCap_le_maxLen w (n + 1) c 42 (by unfold maxLen; omega)
  have hG63 : G ≤ 9223372036854775807 := by unfold maxLen at hGm; omega
  rw [HG.out] at hrz
  obtain ⟨z1, hz1'⟩ : ∃ z1 : List Value, z1 = (Builtin.zeroCells (WV 0 0 0 0 noS).cells (n + 1 - i)).toList := ⟨_, rfl⟩
  obtain ⟨z2, hz2'⟩ : ∃ z2 : List Value, z2 = (Builtin.zeroCells (WV 0 0 0 0 noS).cells (G - (n + 1))).toList := ⟨_, rfl⟩
  have hzl1 : z1.length = (n + 1 - i) * 5 := by rw [hz1']; simp [Builtin.zeroCells, Value.cells]
  have hzl2 : z2.length = (G - (n + 1)) * 5 := by rw [hz2']; simp [Builtin.zeroCells, Value.cells]
  obtain ⟨row, hrow⟩ : ∃ row : Array Value, row = (xs.take (i * 5)).toArray ++ Builtin.zeroCells (WV 0 0 0 0 noS).cells (n + 1 - i) ++ Builtin.zeroCells (WV 0 0 0 0 noS).cells (G - (n + 1)) := ⟨_, rfl⟩
  rw [← hrow] at hrz
  have hrl : row.toList = xs.take (i * 5) ++ z1 ++ z2 := by rw [hrow, hz1', hz2']; simp
  have hrs : row.size = G * 5 := by
    rw [← Array.length_toList, hrl]
    simp only [List.length_append, List.length_take, hzl1, hzl2]
    omega
  clear hrow hz1' hz2'
  have hgw : g < w.heap.size := (Array.getElem?_eq_some_iff.1 hg).1
  have hvw : vb < w.heap.size := R.lt
  have hsrcA : ∀ j v, x.cells[j]? = some v → (w.drew.alloc (.cells row 42)).cell? ((⟨vb, 0, none⟩ : Addr).add j) = some v := fun j v hv => by
    rw [Addr.add_mid, World.cell?_of_block (w := w) (Below.heap_alloc w.drew _ vb hvw)]
    exact Rw.whole R j v hv
  have hgN : (w.drew.alloc (.cells row 42)).heap[w.heap.size]? = some (.cells row 42 (0, 0)) := heap_alloc_last w.drew _
  have hcpA : ∀ (W : World), W.heap = (w.drew.alloc (.cells row 42)).heap → ∀ ty dc, (Builtin.copy_ #[23, 23] ty #[.slice (some ⟨w.heap.size, i * 5, none⟩) (n + 1 - i) dc, .slice (some ⟨vb, 0, none⟩) 1 1]).run Try.prog W = .ok (goInt 1) (W.setRow w.heap.size (row.toList.take (i * 5) ++ x.cells ++ row.toList.drop (i * 5 + x.cells.length)).toArray) := fun W hW ty dc =>
    run_copy_rowS W 23 23 ty 42 w.heap.size (i * 5) (n + 1 - i) dc ⟨vb, 0, none⟩ 1 1 row 42 x.cells 5 1 Try.underlying23 size42 (by rw [hW]; exact hgN) (by simp only [Nat.min_def]; split <;> omega) rfl (fun j v hv => by rw [World.cell?_of_block (w := w.drew.alloc (.cells row 42)) (by rw [hW])]; exact hsrcA j v hv) (by rw [Wt.len]; omega) x.one
  obtain ⟨r1, HR1⟩ := hid_ex (row.toList.take (i * 5) ++ x.cells ++ row.toList.drop (i * 5 + x.cells.length)).toArray
  rw [HR1.out] at hcpA
  have hr1s : r1.size = G * 5 := by
    rw [← HR1.out]
    simp only [List.size_toArray, List.length_append, List.length_take, List.length_drop, Array.length_toList, Wt.len, hrs]
    omega
  have hg1 : ((w.drew.alloc (.cells row 42)).setRow w.heap.size r1).heap[w.heap.size]? = some (.cells r1 42 (0, 0)) := setRow_heap _ _ row r1 42 (0, 0) hgN
  have hsrcB : ∀ j v, (xs.drop (i * 5))[j]? = some v → ((w.drew.alloc (.cells row 42)).setRow w.heap.size r1).cell? ((⟨g, i * 5, none⟩ : Addr).add j) = some v := fun j v hv => by
    rw [Addr.add_mid, World.cell?_of_block (w := w) ((setRow_other _ w.heap.size g r1 (by omega)).trans (Below.heap_alloc w.drew _ g hgw))]
    rw [List.getElem?_drop] at hv
    exact hcell _ v hv
  have hcpB : ∀ (W : World), W.heap = ((w.drew.alloc (.cells row 42)).setRow w.heap.size r1).heap → ∀ ty dc sc, (Builtin.copy_ #[23, 23] ty #[.slice (some ⟨w.heap.size, (i + 1) * 5, none⟩) (n - i) dc, .slice (some ⟨g, i * 5, none⟩) (n - i) sc]).run Try.prog W = .ok (goInt ((n - i : Nat) : Int)) (W.setRow w.heap.size (r1.toList.take ((i + 1) * 5) ++ xs.drop (i * 5) ++ r1.toList.drop ((i + 1) * 5 + (xs.drop (i * 5)).length)).toArray) := fun W hW ty dc sc =>
    run_copy_rowS W 23 23 ty 42 w.heap.size ((i + 1) * 5) (n - i) dc ⟨g, i * 5, none⟩ (n - i) sc r1 42 (xs.drop (i * 5)) 5 (n - i) Try.underlying23 size42 (by rw [hW]; exact hg1) (Nat.min_self _) (by rw [List.length_drop]; omega) (fun j v hv => by rw [World.cell?_of_block (w := (w.drew.alloc (.cells row 42)).setRow w.heap.size r1) (by rw [hW])]; exact hsrcB j v hv) (by rw [List.length_drop]; omega) (fun v hv => h1 v (List.mem_of_mem_drop hv))
  obtain ⟨r2, HR2⟩ := hid_ex (r1.toList.take ((i + 1) * 5) ++ xs.drop (i * 5) ++ r1.toList.drop ((i + 1) * 5 + (xs.drop (i * 5)).length)).toArray
  rw [HR2.out] at hcpB
  have hfin := grow_list xs x.cells z1 z2 n i hi hxl rfl hzl1 r1.toList r2.toList (by rw [← HR1.out, hrl]) (by rw [← HR2.out])
  have HFI : Hid (r2.toList.take ((n + 1) * 5) = put5 xs x.cells i ∧ r2.size = G * 5) := ⟨hfin.1, by rw [← Array.length_toList, hfin.2]; omega⟩
  have hg2 : (((w.drew.alloc (.cells row 42)).setRow w.heap.size r1).setRow w.heap.size r2).heap[w.heap.size]? = some (.cells r2 42 (0, 0)) := setRow_heap _ _ r1 r2 42 (0, 0) hg1
  have hw1 : IntKind.i64.wrap ((i : Int) + 1) = (i : Int) + 1 := by rw [IntKind.wrap_i64]; omega
  have hz2i : ¬ ((i : Int) = (n : Int)) := by omega
  have hz3 : (c : Int) < (n : Int) + 1 := by omega
  have hb1 : (0 : Int) ≤ (i : Int) + 1 := by omega
  have htn : ((i : Int) + 1).toNat = i + 1 := by omega
  have hb3 : (i : Int) ≤ (n : Int) := by omega
  have hci : ¬ (c = i) := by omega
  have hGi : ¬ (G = i) := by omega
  have hGim : ¬ (G = i + 1) := by omega
  have hin : i ≤ n := by omega
  have mixed : Try.prog.follows .mixedOrders = true := by kernel_rfl
  clear hfin hold hrl hzl1 hzl2 hcell hsrcA hsrcB HR1 HR2
  have hA := hcpA (w.alloc (.cells row 42)).drew rfl 3 (G - i)
  go_enter Try.func29, Try.ntmps29
  go_wp2_with (first
    | (at_builtin; refine Lib.wpList_append_run _ rfl _ _ _ _ rfl _ _ rfl rfl _ _ (hrz _) ?_))
  go_region_law_o (refine step_copy_runI rfl _ _ 23 23 rfl (.slice (some ⟨w.heap.size, (i + 1) * 5, none⟩) (n - i) (G - (i + 1))) (.slice (some ⟨g, i * 5, none⟩) (n - i) (c - i)) (by simp [Act.eval, Act.put]) (by simp [Act.eval, Act.put]) (hcpB (((w.alloc (.cells row 42)).drew.setRow w.heap.size r1).drew) rfl 3 (G - (i + 1)) (c - i)) ?_)
  go_wp2
  go_ret
  refine ⟨_, rfl, ⟨?_, .inr ⟨w.heap.size, G, r2, rfl, hB, hg2, hGn, hGm, HFI.out.2, HFI.out.1⟩⟩, ?_, ?_⟩
  · rw [put5_length, hxl, Wt.len]
    omega
  · intro b h1 h2
    refine (setRow_other _ w.heap.size b _ (by omega)).trans ?_
    refine (setRow_other _ w.heap.size b _ (by omega)).trans ?_
    exact Below.heap_alloc w _ b h1
  · exact below_setRow (below_setRow ((Below.refl B w).alloc hB _).drew hB _).drew hB _
/-- Put in at a place. -/
theorem put5_rows (l : List Wt) (x : Wt) (i : Nat) : put5 (rows Wt.cells l) x.cells i = rows Wt.cells (l.take i ++ x :: l.drop i) := by
  unfold put5
  rw [rows_append, rows_cons, rows_take Wt.len, rows_drop Wt.len, List.append_assoc]
theorem insert_any (B : Nat) (v : Value) (l : List Wt) (i : Nat) (vb : Nat) (x : Wt) (w : World) (hown : w.ownsRow B 42 5 v l.length (rows Wt.cells l)) (hi : i ≤ l.length) (hn : l.length ≤ 100) (hB : B ≤ w.heap.size) (R : Rw w vb 42 x.cells.toArray) (hvb : ∀ k, v.ownBlock = some k → vb ≠ k) :
    Calls Try.prog 29 #[v, .int .i64 i, .slice (some ⟨vb, 0, none⟩) 1 1] w (InPost B v (l.length + 1) (rows Wt.cells (l.take i ++ x :: l.drop i)) w) := by
  rw [← put5_rows]
  obtain ⟨p, c, rfl⟩ := own_sl hown
  rcases Nat.lt_or_ge i l.length with h | h
  · obtain ⟨g, rfl, hg⟩ := own_some hown (by omega)
    rcases Nat.lt_or_ge c (l.length + 1) with hc | hc
    · exact insert_grow B g _ c i _ vb x w hown h hc hn (rows_all Wt.one l) hB R
    · exact insert_shift B g _ c i _ vb x w hown h hc hn (hvb g rfl) (rows_all Wt.one l) R
  · obtain rfl : i = l.length := by omega
    have := insert_end B p l.length c _ vb x w hown hn hB R
    rw [show put5 (rows Wt.cells l) x.cells l.length = rows Wt.cells l ++ x.cells by unfold put5; rw [List.take_of_length_le (by rw [rows_length Wt.len]; omega), List.drop_of_length_le (by rw [rows_length Wt.len]; omega), List.append_nil]]
    exact this
end Go.Proofs.Ytknpnjhedfdggaa
