import Derived.Test.YtfiamiflkfdhoaaP16
import Derived.Shelf.Spec.SlicesInsertGrow
import Derived.Maps.AppendAt
import Derived.Lib.Overlaps
import Derived.Lib.AppendZerosOnto
import Derived.Test.YtfiamiflkfdhoaaP14
import Derived.Test.YtfiamiflkfdhoaaP7
import Derived.Test.YtfiamiflkfdhoaaP11
import Derived.Test.YtfiamiflkfdhoaaP8
/- slices.Insert of one transaction into a row that the call made. -/
namespace Go.Proofs.Ytfiamiflkfdhoaa
open Go.RowKit

/-- copy of elements of S cells, into a row. -/
theorem run_copy_rowS {P : Program} (w : World) (dT sT ty elem : TypeId) (g o dLen dCap : Nat) (a : Addr) (sLen sCap : Nat) (cur : Array Value) (t : TypeId) (cs : List Value) (S k : Nat)
    (hu : P.underlying dT = some (.slice elem)) (hs : (P.info? elem).map (·.size) = some S)
    (hg : w.heap[g]? = some (.cells cur t (0, 0))) (hk : Nat.min sLen dLen = k) (hn : cs.length = k * S)
    (hsrc : ∀ j v, cs[j]? = some v → w.cell? (a.add j) = some v) (hfit : o + cs.length ≤ cur.size) (h1 : ∀ v ∈ cs, v.oneCell' = true) :
    (Builtin.copy_ #[dT, sT] ty #[.slice (some ⟨g, o, none⟩) dLen dCap, .slice (some a) sLen sCap]).run P w =
      .ok (goInt k) (w.setRow g (cur.toList.take o ++ cs ++ cur.toList.drop (o + cs.length)).toArray) := by
  have hl := run_loadCells_list (P := P) w a cs hsrc
  have hst := run_storeCells_at P g o t cs 0 cur w hg (by simpa using hfit) h1
  cases hq : P.info? elem with
  | none => simp [hq] at hs
  | some i =>
    have hi : i.size = S := by simpa [hq] using hs
    simp [Builtin.copy_, run_underlying hu, Builtin.lenOf, Builtin.firstCells, sizeOf, typeInfo, hq, hi, hk, ← hn, hl, hst]
/-- All that was there stays, but for one block. -/
def Kp (o : Option Nat) (w w' : World) : Prop := ∀ b, b < w.heap.size → o ≠ some b → w'.heap[b]? = w.heap[b]?
theorem Kp.on {o : Option Nat} {w w1 w2 : World} (h : Kp o w w1) (hs : w.heap.size ≤ w1.heap.size) (hb : Below w1.heap.size w1 w2) : Kp o w w2 := fun b h1 h2 => (hb.block b (by omega)).trans (h b h1 h2)
theorem Kp.row {g : Nat} {w w1 : World} (h : Kp (some g) w w1) (cs : Array Value) : Kp (some g) w (w1.setRow g cs) := fun b h1 h2 => (setRow_other w1 g b cs (fun e => h2 (by rw [e]))).trans (h b h1 h2)
theorem Rw.whole {w : World} {b : Nat} {t : TypeId} {cs : List Value} (h : Rw w b t cs.toArray) : w.rangeAt b 0 cs := h.range 0 cs fun j v hv => by simpa using hv
theorem own_some {w : World} {B e S n c : Nat} {p : Option Addr} {xs : List Value} (h : w.ownsRow B e S (.slice p n c) n xs) (hn : 0 < n) : ∃ g, p = some ⟨g, 0, none⟩ ∧ B ≤ g := by
  obtain ⟨_, ⟨_, h0⟩ | ⟨g, cap, cur, h1, hb, _⟩⟩ := h
  · omega
  · simp only [Value.slice.injEq] at h1
    exact ⟨g, h1.1, hb⟩
/-- What Insert answers: a row of its own. -/
def InPost9 (B : Nat) (v : Value) (n : Nat) (xs : List Value) (w : World) (e : Ending) (w' : World) : Prop := ∃ u, e = .returned u ∧ w'.ownsRow B 34 17 u n xs ∧ Kp v.ownBlock w w' ∧ (∀ k, u.ownBlock = some k → v.ownBlock = some k ∨ w.heap.size ≤ k) ∧ Below B w w'

set_option maxHeartbeats 2000000 in
set_option maxRecDepth 100000 in
theorem insert_end9 (B : Nat) (p : Option Addr) (n c : Nat) (xs : List Value) (vb : Nat) (x : T × Value) (w : World) (hown : w.ownsRow B 34 17 (.slice p n c) n xs) (hn : n ≤ 100) (hB : B ≤ w.heap.size) (hx1 : ∀ u ∈ T.cells x, u.oneCell' = true) (R : Rw w vb 34 (T.cells x).toArray) :
    Calls Try.prog 21 #[.slice p n c, .int .i64 n, .slice (some ⟨vb, 0, none⟩) 1 1] w (InPost9 B (.slice p n c) (n + 1) (xs ++ (T.cells x)) w) := by
  obtain ⟨i0, hi, hz0, hz1, hz2⟩ := info_parts info34
  have hc1 : ∀ j u, (T.cells x)[j]? = some u → w.cell? ((⟨vb, 0, none⟩ : Addr).add j) = some u := fun j u hu => by
    rw [Addr.add_mid]
    exact Rw.whole R j u hu
  have HC : Hid (∀ j u, (T.cells x)[j]? = some u → w.cell? ((⟨vb, 0, none⟩ : Addr).add j) = some u) := hc1
  have hnc : (n : Int) ≤ (c : Int) := by
    rcases hown.2 with ⟨h, h0⟩ | ⟨g, cap, cur, h, _, _, h2, _⟩
    · simp only [Value.slice.injEq] at h
      omega
    · simp only [Value.slice.injEq] at h
      omega
  clear hc1 R
  have hm1 : n + 1 ≤ maxLen := by unfold maxLen; omega
  have hm2 : (n + 1) * 152 ≤ 140737488355328 := by omega
  have HL : Hid (∀ q, (Value.slice p n c).ownBlock = some q → B ≤ q) := fun q hq => (hown.lt q hq).1
  by_cases hcn : c = n
  all_goals
    go_enter Try.func21, Try.ntmps21
    go_wp2_with (first | (at_builtin; refine wpList_append_own_at _ rfl _ _ 22 rfl B 34 i0 (.agg #[.int .i64 0, .int .i64 0, .int .i64 0, .int .i64 0, .int .i64 0, .int .i64 0, .int .i64 0, .int .i64 0, .int .i64 0, .int .i64 0, .int .i64 0, .int .i64 0, .int .i64 0, .int .i64 0, .int .i64 0, .int .i64 0, .slice none 0 0]) 17 152 Try.underlying22 hi hz0 hz1 hz2 rfl (by decide) _ _ _ rfl hown ⟨vb, 0, none⟩ 1 1 (T.cells x) rfl (by rw [T.len]) HC.out hx1 hm1 hm2 hB ?_))
    intro v2 w2 hown2 hg2 _ hat
    have HAT : Hid (∀ k, v2.ownBlock = some k → (Value.slice p n c).ownBlock = some k ∨ w.heap.size ≤ k) := fun k hk => hat.elim (fun e => .inl (by rw [← hk, e]; first | done | (cases p <;> rfl))) (fun e => .inr (Nat.le_of_eq (Option.some.inj (e.symm.trans hk))))
    clear hat
    go_wp2_with fail
    go_ret
    exact ⟨_, rfl, hown2, (fun b h1 h2 => hg2.block b h1 (fun e => h2 (by rw [e]; first | done | (cases p <;> rfl)))), HAT.out, (Below.refl _ _).grown hg2 hB (fun q hq => HL.out q (by cases p <;> exact hq))⟩
set_option maxRecDepth 100000 in
theorem f58_extern (w : World) (vb g o lb cb k : Nat) (hne : vb ≠ g) {tA tB : TypeId} {c1 c2 : Array Value} (R : Rw w vb tA c1) (R2 : Rw w g tB c2) (hk : c2.size = k + 1) : (callFunc 38 #[.slice (some ⟨vb, 0, none⟩) 1 1, .slice (some ⟨g, o, none⟩) lb cb]).run Try.prog w = .ok (.value (.bool false)) w := by
  rw [run_callFunc_extern Try.func38 (by kernel_rfl) (by kernel_rfl) (by kernel_rfl) (e := Extern.SlicesOverlaps.overlaps #[22, 22] #[4]) (by kernel_rfl),
    Lib.run_overlaps_apart w 22 4 34 Try.underlying22 17 (fun w => by rfl) ⟨vb, 0, none⟩ ⟨g, o, none⟩ 1 1 lb cb hne tA tB c1.size c2.size (by unfold World.shape?; rw [show w.heap[vb]? = _ from R]) (by unfold World.shape?; rw [show w.heap[g]? = _ from R2]) (by omega) (R.frozen _) (R.frozen _)]
  rfl
/-- Put in at a place. -/
def put9 (xs ys : List Value) (i : Nat) : List Value := xs.take (i * 17) ++ ys ++ xs.drop (i * 17)
theorem put9_length (xs ys : List Value) (i : Nat) : (put9 xs ys i).length = xs.length + ys.length := by
  simp [put9]
  omega
theorem shift_list9 (cur xs ys : List Value) (n i : Nat) (hi : i < n) (hl : xs.length = n * 17) (hy : ys.length = 17) (hc : (n + 1) * 17 ≤ cur.length) (ht : cur.take (n * 17) = xs) (c1 : List Value) (h1 : c1 = cur.take ((i + 1) * 17) ++ xs.drop (i * 17) ++ cur.drop ((i + 1) * 17 + (xs.drop (i * 17)).length)) :
    (c1.take (i * 17) ++ ys ++ c1.drop (i * 17 + ys.length)).take ((n + 1) * 17) = xs.take (i * 17) ++ ys ++ xs.drop (i * 17) := by
  have hk : (cur.take ((i + 1) * 17)).length = (i + 1) * 17 := by rw [List.length_take]; omega
  have e1 : c1.take (i * 17) = xs.take (i * 17) := by
    rw [h1, List.append_assoc, List.take_append_of_le_length (by omega), List.take_take, Nat.min_eq_left (by omega), ← ht, List.take_take, Nat.min_eq_left (by omega)]
  have e2 : c1.drop (i * 17 + ys.length) = xs.drop (i * 17) ++ cur.drop ((i + 1) * 17 + (xs.drop (i * 17)).length) := by
    rw [h1, List.append_assoc, List.drop_left' (by rw [hk, hy]; omega)]
  rw [e1, e2, ← List.append_assoc, List.take_left']
  simp only [List.length_append, List.length_take, List.length_drop, hy, hl]
  omega
set_option maxHeartbeats 2000000 in
set_option maxRecDepth 100000 in
theorem insert_shift9 (B g n c i : Nat) (xs : List Value) (vb : Nat) (x : T × Value) (w : World) (hown : w.ownsRow B 34 17 (.slice (some ⟨g, 0, none⟩) n c) n xs) (hi : i < n) (hc : n + 1 ≤ c) (hn : n ≤ 100) (hvb : vb ≠ g) (h1 : ∀ u ∈ xs, u.oneCell' = true) (hx1 : ∀ u ∈ T.cells x, u.oneCell' = true) (R : Rw w vb 34 (T.cells x).toArray) :
    Calls Try.prog 21 #[.slice (some ⟨g, 0, none⟩) n c, .int .i64 i, .slice (some ⟨vb, 0, none⟩) 1 1] w (InPost9 B (.slice (some ⟨g, 0, none⟩) n c) (n + 1) (put9 xs (T.cells x) i) w) := by
  obtain ⟨hxl, ⟨h0, _⟩ | ⟨g', cap, cur, h0, hBg, hg, hnc, hcm, hcs, htake⟩⟩ := hown
  · simp at h0
  simp only [Value.slice.injEq, Option.some.injEq, Addr.mk.injEq, and_true, true_and] at h0
  obtain ⟨rfl, rfl⟩ := h0
  have hov : ∀ lb cb, (callFunc 38 #[.slice (some ⟨vb, 0, none⟩) 1 1, .slice (some ⟨g, (i + 1) * 17, none⟩) lb cb]).run Try.prog w = .ok (.value (.bool false)) w := fun lb cb => f58_extern w vb g _ lb cb (cur.size - 1) hvb R hg (by omega)
  have hsrc : ∀ j v, (xs.drop (i * 17))[j]? = some v → w.drew.cell? ((⟨g, i * 17, none⟩ : Addr).add j) = some v := fun j v hv => by
    rw [Addr.add_mid]
    show w.cell? _ = _
    rw [cell_of_row w g _ cur 34 (0, 0) hg]
    rw [List.getElem?_drop] at hv
    have hlt := (List.getElem?_eq_some_iff.1 hv).1
    rw [← htake, List.getElem?_take, if_pos (by omega)] at hv
    simpa using hv
  have hcp1 : ∀ ty dc sc, (Builtin.copy_ #[22, 22] ty #[.slice (some ⟨g, (i + 1) * 17, none⟩) (n - i) dc, .slice (some ⟨g, i * 17, none⟩) (n + 1 - i) sc]).run Try.prog w.drew = .ok (goInt ((n - i : Nat) : Int)) (w.drew.setRow g (cur.toList.take ((i + 1) * 17) ++ xs.drop (i * 17) ++ cur.toList.drop ((i + 1) * 17 + (xs.drop (i * 17)).length)).toArray) := fun ty dc sc =>
    run_copy_rowS w.drew 22 22 ty 34 g ((i + 1) * 17) (n - i) dc ⟨g, i * 17, none⟩ (n + 1 - i) sc cur 34 (xs.drop (i * 17)) 17 (n - i) Try.underlying22 size34 hg (by simp only [Nat.min_def]; split <;> omega) (by rw [List.length_drop]; omega) hsrc (by rw [List.length_drop]; omega) (fun v hv => h1 v (List.mem_of_mem_drop hv))
  obtain ⟨cur1, HC1⟩ := hid_ex (cur.toList.take ((i + 1) * 17) ++ xs.drop (i * 17) ++ cur.toList.drop ((i + 1) * 17 + (xs.drop (i * 17)).length)).toArray
  have hl1 : cur1.size = cur.size := by
    rw [← HC1.out]
    simp
    omega
  rw [HC1.out] at hcp1
  have hg1 : (w.drew.setRow g cur1).heap[g]? = some (.cells cur1 34 (0, 0)) := setRow_heap w.drew g cur cur1 34 (0, 0) hg
  have hsrc2 : ∀ j v, (T.cells x)[j]? = some v → (w.drew.setRow g cur1).cell? ((⟨vb, 0, none⟩ : Addr).add j) = some v := fun j v hv => by
    rw [Addr.add_mid, World.cell?_of_block (w := w) (setRow_other w.drew g vb cur1 hvb)]
    exact Rw.whole R j v hv
  have hcp2 : ∀ (W : World), W.heap = (w.drew.setRow g cur1).heap → ∀ ty dc, (Builtin.copy_ #[22, 22] ty #[.slice (some ⟨g, i * 17, none⟩) (n + 1 - i) dc, .slice (some ⟨vb, 0, none⟩) 1 1]).run Try.prog W = .ok (goInt 1) (W.setRow g (cur1.toList.take (i * 17) ++ (T.cells x) ++ cur1.toList.drop (i * 17 + (T.cells x).length)).toArray) := fun W hW ty dc =>
    run_copy_rowS W 22 22 ty 34 g (i * 17) (n + 1 - i) dc ⟨vb, 0, none⟩ 1 1 cur1 34 (T.cells x) 17 1 Try.underlying22 size34 (by rw [hW]; exact hg1) (by simp only [Nat.min_def]; split <;> omega) (by rw [T.len]) (fun j v hv => by rw [World.cell?_of_block (w := w.drew.setRow g cur1) (by rw [hW])]; exact hsrc2 j v hv) (by rw [T.len]; omega) hx1
  have hw1 : IntKind.i64.wrap ((i : Int) + 1) = (i : Int) + 1 := by rw [IntKind.wrap_i64]; omega
  have hz2 : ¬ ((i : Int) = (n : Int)) := by omega
  have hb1 : (0 : Int) ≤ (i : Int) + 1 := by omega
  have htn : ((i : Int) + 1).toNat = i + 1 := by omega
  have hb2 : ¬ (c = i + 1) := by omega
  have hb3 : (i : Int) ≤ (n : Int) + 1 := by omega
  have hb4 : ¬ (c = i) := by omega
  have hin : i ≤ n := by omega
  have mixed : Try.prog.follows .mixedOrders = true := by kernel_rfl
  go_enter Try.func21, Try.ntmps21
  go_wp2_with (simp only [hov])
  go_region_law_o (refine step_copy_runI rfl _ _ 22 22 rfl _ _ (by simp [Act.eval, Act.put]) (by simp [Act.eval, Act.put]) (hcp1 _ _ _) ?_)
  go_wp2_with (at_builtin; refine wpList_copy_runI _ rfl _ _ 22 22 rfl _ _ rfl rfl (hcp2 _ rfl _ _) ?_)
  go_ret
  refine ⟨_, rfl, ⟨?_, .inr ⟨g, c, _, rfl, hBg, setRow_heap _ g cur1 _ 34 (0, 0) hg1, hc, hcm, ?_, ?_⟩⟩, Kp.row (Kp.row (fun _ _ _ => rfl) _) _, (fun k hk => .inl hk), below_setRow (below_setRow (Below.refl B w).drew hBg _) hBg _⟩
  · rw [put9_length, hxl, T.len]
    omega
  · simp only [List.size_toArray, List.length_append, List.length_take, List.length_drop, Array.length_toList]
    have hTl := T.len x
    omega
  · have := shift_list9 cur.toList xs (T.cells x) n i hi hxl (T.len x) (by rw [Array.length_toList]; omega) htake cur1.toList (by rw [← HC1.out])
    rw [List.append_assoc] at this
    exact this
theorem grow_list9 (xs ys z1 z2 : List Value) (n i : Nat) (hi : i < n) (hl : xs.length = n * 17) (hy : ys.length = 17) (hz : z1.length = (n + 1 - i) * 17) (r1 r2 : List Value) (h1 : r1 = (xs.take (i * 17) ++ z1 ++ z2).take (i * 17) ++ ys ++ (xs.take (i * 17) ++ z1 ++ z2).drop (i * 17 + ys.length))
    (h2 : r2 = r1.take ((i + 1) * 17) ++ xs.drop (i * 17) ++ r1.drop ((i + 1) * 17 + (xs.drop (i * 17)).length)) : r2.take ((n + 1) * 17) = xs.take (i * 17) ++ ys ++ xs.drop (i * 17) ∧ r2.length = xs.length + 17 + z2.length := by
  have hk : (xs.take (i * 17)).length = i * 17 := by rw [List.length_take]; omega
  have e1 : (xs.take (i * 17) ++ z1 ++ z2).take (i * 17) = xs.take (i * 17) := by
    rw [List.append_assoc, List.take_left' hk]
  have e2 : r1.take ((i + 1) * 17) = xs.take (i * 17) ++ ys := by
    rw [h1, e1, List.take_left' (by rw [List.length_append, hk, hy]; omega)]
  refine ⟨?_, ?_⟩
  · rw [h2, e2, List.take_left']
    simp only [List.length_append, List.length_take, List.length_drop, hy, hl]
    omega
  · rw [h2, e2, h1, e1]
    simp only [List.length_append, List.length_take, List.length_drop, hy, hl, hz]
    omega
set_option maxHeartbeats 2000000 in
set_option maxRecDepth 100000 in
theorem insert_grow9 (B g n c i : Nat) (xs : List Value) (vb : Nat) (x : T × Value) (w : World) (hown : w.ownsRow B 34 17 (.slice (some ⟨g, 0, none⟩) n c) n xs) (hi : i < n) (hc : c < n + 1) (hn : n ≤ 100) (h1 : ∀ u ∈ xs, u.oneCell' = true) (hB : B ≤ w.heap.size) (hx1 : ∀ u ∈ T.cells x, u.oneCell' = true) (R : Rw w vb 34 (T.cells x).toArray) :
    Calls Try.prog 21 #[.slice (some ⟨g, 0, none⟩) n c, .int .i64 i, .slice (some ⟨vb, 0, none⟩) 1 1] w (InPost9 B (.slice (some ⟨g, 0, none⟩) n c) (n + 1) (put9 xs (T.cells x) i) w) := by
  obtain ⟨i0, hi0, hz0, hz1, hz2⟩ := info_parts info34
  obtain ⟨hxl, ⟨h0, _⟩ | ⟨g', cap, cur, h0, hBg, hg, hnc, hcm, hcs, htake⟩⟩ := hown
  · simp at h0
  simp only [Value.slice.injEq, Option.some.injEq, Addr.mk.injEq, and_true, true_and] at h0
  obtain ⟨rfl, rfl⟩ := h0
  have hcell : ∀ j v, xs[j]? = some v → w.cell? ⟨g, j, none⟩ = some v := fun j v hv => by
    rw [cell_of_row w g _ cur 34 (0, 0) hg]
    have hlt := (List.getElem?_eq_some_iff.1 hv).1
    rw [← htake, List.getElem?_take, if_pos (by omega)] at hv
    simpa using hv
  have hold : (Builtin.firstCells i0.size i (.slice (some ⟨g, 0, none⟩) i c)).run Try.prog w.drew = .ok (xs.take (i * 17)).toArray w.drew := by
    rw [hz1]
    exact run_firstCells_some w.drew 17 i ⟨g, 0, none⟩ i c (xs.take (i * 17)) (by rw [List.length_take]; omega) (fun j v hj => by
      rw [Addr.add_mid, Nat.zero_add]
      rw [List.getElem?_take] at hj
      split at hj
      · exact hcell j v hj
      · cases hj)
  have hrz : ∀ ty, (Builtin.append_ #[22, 3] ty #[.slice (some ⟨g, 0, none⟩) i c, .int .i64 ((n : Int) + 1 - (i : Int))]).run Try.prog w =
      .ok (.slice (some ⟨w.heap.size, 0, none⟩) (n + 1) (grownCap w (n + 1) c 34)) (w.drew.alloc (.cells ((xs.take (i * 17)).toArray ++ Builtin.zeroCells (Value.agg #[.int .i64 0, .int .i64 0, .int .i64 0, .int .i64 0, .int .i64 0, .int .i64 0, .int .i64 0, .int .i64 0, .int .i64 0, .int .i64 0, .int .i64 0, .int .i64 0, .int .i64 0, .int .i64 0, .int .i64 0, .int .i64 0, .slice none 0 0]).cells (n + 1 - i) ++ Builtin.zeroCells (Value.agg #[.int .i64 0, .int .i64 0, .int .i64 0, .int .i64 0, .int .i64 0, .int .i64 0, .int .i64 0, .int .i64 0, .int .i64 0, .int .i64 0, .int .i64 0, .int .i64 0, .int .i64 0, .int .i64 0, .int .i64 0, .int .i64 0, .slice none 0 0]).cells (grownCap w (n + 1) c 34 - (n + 1))) 34)) := fun ty => by
    have h := Lib.run_append_grow_zeros w 22 3 ty 34 i0 _ .i64 .i64 Try.underlying22 Try.underlying3 hi0 hz0 (some ⟨g, 0, none⟩) i c (xs.take (i * 17)) hold (n + 1 - i) (by omega) (by omega) (by omega) (by omega) (by rw [hz2]; omega) (by rw [hz2, show i + (n + 1 - i) = n + 1 by omega]; exact growslice_fits hc (by omega))
    rw [show i + (n + 1 - i) = n + 1 by omega] at h
    rw [show (n : Int) + 1 - (i : Int) = ((n + 1 - i : Nat) : Int) by omega]
    exact h
  obtain ⟨G, HG⟩ := hid_ex (grownCap w (n + 1) c 34)
  have hGn : n + 1 ≤ G := by rw [← HG.out]; exact grownCap_ge w _ _ _
  have hGm : G ≤ maxLen := by rw [← HG.out]; exact grownCap_le_maxLen w (n + 1) c 34 (by unfold maxLen; omega)
  have hG63 : G ≤ 9223372036854775807 := by unfold maxLen at hGm; omega
  rw [HG.out] at hrz
  obtain ⟨z1, hz1'⟩ : ∃ z1 : List Value, z1 = (Builtin.zeroCells (Value.agg #[.int .i64 0, .int .i64 0, .int .i64 0, .int .i64 0, .int .i64 0, .int .i64 0, .int .i64 0, .int .i64 0, .int .i64 0, .int .i64 0, .int .i64 0, .int .i64 0, .int .i64 0, .int .i64 0, .int .i64 0, .int .i64 0, .slice none 0 0]).cells (n + 1 - i)).toList := ⟨_, rfl⟩
  obtain ⟨z2, hz2'⟩ : ∃ z2 : List Value, z2 = (Builtin.zeroCells (Value.agg #[.int .i64 0, .int .i64 0, .int .i64 0, .int .i64 0, .int .i64 0, .int .i64 0, .int .i64 0, .int .i64 0, .int .i64 0, .int .i64 0, .int .i64 0, .int .i64 0, .int .i64 0, .int .i64 0, .int .i64 0, .int .i64 0, .slice none 0 0]).cells (G - (n + 1))).toList := ⟨_, rfl⟩
  have hzl1 : z1.length = (n + 1 - i) * 17 := by rw [hz1']; simp [Builtin.zeroCells, Value.cells]
  have hzl2 : z2.length = (G - (n + 1)) * 17 := by rw [hz2']; simp [Builtin.zeroCells, Value.cells]
  obtain ⟨row, hrow⟩ : ∃ row : Array Value, row = (xs.take (i * 17)).toArray ++ Builtin.zeroCells (Value.agg #[.int .i64 0, .int .i64 0, .int .i64 0, .int .i64 0, .int .i64 0, .int .i64 0, .int .i64 0, .int .i64 0, .int .i64 0, .int .i64 0, .int .i64 0, .int .i64 0, .int .i64 0, .int .i64 0, .int .i64 0, .int .i64 0, .slice none 0 0]).cells (n + 1 - i) ++ Builtin.zeroCells (Value.agg #[.int .i64 0, .int .i64 0, .int .i64 0, .int .i64 0, .int .i64 0, .int .i64 0, .int .i64 0, .int .i64 0, .int .i64 0, .int .i64 0, .int .i64 0, .int .i64 0, .int .i64 0, .int .i64 0, .int .i64 0, .int .i64 0, .slice none 0 0]).cells (G - (n + 1)) := ⟨_, rfl⟩
  rw [← hrow] at hrz
  have hrl : row.toList = xs.take (i * 17) ++ z1 ++ z2 := by rw [hrow, hz1', hz2']; simp
  have hrs : row.size = G * 17 := by
    rw [← Array.length_toList, hrl]
    simp only [List.length_append, List.length_take, hzl1, hzl2]
    omega
  clear hrow hz1' hz2'
  have hgw : g < w.heap.size := (Array.getElem?_eq_some_iff.1 hg).1
  have hvw : vb < w.heap.size := R.lt
  have hsrcA : ∀ j v, (T.cells x)[j]? = some v → (w.drew.alloc (.cells row 34)).cell? ((⟨vb, 0, none⟩ : Addr).add j) = some v := fun j v hv => by
    rw [Addr.add_mid, World.cell?_of_block (w := w) (Below.heap_alloc w.drew _ vb hvw)]
    exact Rw.whole R j v hv
  have hgN : (w.drew.alloc (.cells row 34)).heap[w.heap.size]? = some (.cells row 34 (0, 0)) := heap_alloc_last w.drew _
  have hcpA : ∀ (W : World), W.heap = (w.drew.alloc (.cells row 34)).heap → ∀ ty dc, (Builtin.copy_ #[22, 22] ty #[.slice (some ⟨w.heap.size, i * 17, none⟩) (n + 1 - i) dc, .slice (some ⟨vb, 0, none⟩) 1 1]).run Try.prog W = .ok (goInt 1) (W.setRow w.heap.size (row.toList.take (i * 17) ++ (T.cells x) ++ row.toList.drop (i * 17 + (T.cells x).length)).toArray) := fun W hW ty dc =>
    run_copy_rowS W 22 22 ty 34 w.heap.size (i * 17) (n + 1 - i) dc ⟨vb, 0, none⟩ 1 1 row 34 (T.cells x) 17 1 Try.underlying22 size34 (by rw [hW]; exact hgN) (by simp only [Nat.min_def]; split <;> omega) (by rw [T.len]) (fun j v hv => by rw [World.cell?_of_block (w := w.drew.alloc (.cells row 34)) (by rw [hW])]; exact hsrcA j v hv) (by rw [T.len]; omega) hx1
  obtain ⟨r1, HR1⟩ := hid_ex (row.toList.take (i * 17) ++ (T.cells x) ++ row.toList.drop (i * 17 + (T.cells x).length)).toArray
  rw [HR1.out] at hcpA
  have hr1s : r1.size = G * 17 := by
    rw [← HR1.out]
    simp only [List.size_toArray, List.length_append, List.length_take, List.length_drop, Array.length_toList, T.len, hrs]
    omega
  have hg1 : ((w.drew.alloc (.cells row 34)).setRow w.heap.size r1).heap[w.heap.size]? = some (.cells r1 34 (0, 0)) := setRow_heap _ _ row r1 34 (0, 0) hgN
  have hsrcB : ∀ j v, (xs.drop (i * 17))[j]? = some v → ((w.drew.alloc (.cells row 34)).setRow w.heap.size r1).cell? ((⟨g, i * 17, none⟩ : Addr).add j) = some v := fun j v hv => by
    rw [Addr.add_mid, World.cell?_of_block (w := w) ((setRow_other _ w.heap.size g r1 (by omega)).trans (Below.heap_alloc w.drew _ g hgw))]
    rw [List.getElem?_drop] at hv
    exact hcell _ v hv
  have hcpB : ∀ (W : World), W.heap = ((w.drew.alloc (.cells row 34)).setRow w.heap.size r1).heap → ∀ ty dc sc, (Builtin.copy_ #[22, 22] ty #[.slice (some ⟨w.heap.size, (i + 1) * 17, none⟩) (n - i) dc, .slice (some ⟨g, i * 17, none⟩) (n - i) sc]).run Try.prog W = .ok (goInt ((n - i : Nat) : Int)) (W.setRow w.heap.size (r1.toList.take ((i + 1) * 17) ++ xs.drop (i * 17) ++ r1.toList.drop ((i + 1) * 17 + (xs.drop (i * 17)).length)).toArray) := fun W hW ty dc sc =>
    run_copy_rowS W 22 22 ty 34 w.heap.size ((i + 1) * 17) (n - i) dc ⟨g, i * 17, none⟩ (n - i) sc r1 34 (xs.drop (i * 17)) 17 (n - i) Try.underlying22 size34 (by rw [hW]; exact hg1) (Nat.min_self _) (by rw [List.length_drop]; omega) (fun j v hv => by rw [World.cell?_of_block (w := (w.drew.alloc (.cells row 34)).setRow w.heap.size r1) (by rw [hW])]; exact hsrcB j v hv) (by rw [List.length_drop]; omega) (fun v hv => h1 v (List.mem_of_mem_drop hv))
  obtain ⟨r2, HR2⟩ := hid_ex (r1.toList.take ((i + 1) * 17) ++ xs.drop (i * 17) ++ r1.toList.drop ((i + 1) * 17 + (xs.drop (i * 17)).length)).toArray
  rw [HR2.out] at hcpB
  have hfin := grow_list9 xs (T.cells x) z1 z2 n i hi hxl (T.len x) hzl1 r1.toList r2.toList (by rw [← HR1.out, hrl]) (by rw [← HR2.out])
  have HFI : Hid (r2.toList.take ((n + 1) * 17) = put9 xs (T.cells x) i ∧ r2.size = G * 17) := ⟨hfin.1, by rw [← Array.length_toList, hfin.2]; omega⟩
  have hg2 : (((w.drew.alloc (.cells row 34)).setRow w.heap.size r1).setRow w.heap.size r2).heap[w.heap.size]? = some (.cells r2 34 (0, 0)) := setRow_heap _ _ r1 r2 34 (0, 0) hg1
  have hw1 : IntKind.i64.wrap ((i : Int) + 1) = (i : Int) + 1 := by rw [IntKind.wrap_i64]; omega
  have hz2i : ¬ ((i : Int) = (n : Int)) := by omega
  have hz3 : (c : Int) < (n : Int) + 1 := by omega
  have hb1 : (0 : Int) ≤ (i : Int) + 1 := by omega
  have htn : ((i : Int) + 1).toNat = i + 1 := by omega
  have hb3 : (i : Int) ≤ (n : Int) := by omega
  have hci : ¬ (c = i) := by omega
  have hGi : ¬ (G = i) := by omega
  have hGim : ¬ (G = i + 1) := by omega
  have hin : i ≤ n := by omega
  have mixed : Try.prog.follows .mixedOrders = true := by kernel_rfl
  clear hfin hold hrl hzl1 hzl2 hcell hsrcA hsrcB HR1 HR2
  have hA := hcpA (w.alloc (.cells row 34)).drew rfl 3 (G - i)
  go_enter Try.func21, Try.ntmps21
  go_wp2_with (first
    | (at_builtin; refine Lib.wpList_append_run _ rfl _ _ _ _ rfl _ _ rfl rfl _ _ (hrz _) ?_))
  go_region_law_o (refine step_copy_runI rfl _ _ 22 22 rfl (.slice (some ⟨w.heap.size, (i + 1) * 17, none⟩) (n - i) (G - (i + 1))) (.slice (some ⟨g, i * 17, none⟩) (n - i) (c - i)) (by simp [Act.eval, Act.put]) (by simp [Act.eval, Act.put]) (hcpB (((w.alloc (.cells row 34)).drew.setRow w.heap.size r1).drew) rfl 3 (G - (i + 1)) (c - i)) ?_)
  go_wp2
  go_ret
  refine ⟨_, rfl, ⟨?_, .inr ⟨w.heap.size, G, r2, rfl, hB, hg2, hGn, hGm, HFI.out.2, HFI.out.1⟩⟩, ?_, (fun k hk => .inr (Nat.le_of_eq (Option.some.inj hk))), ?_⟩
  · rw [put9_length, hxl, T.len]
    omega
  · intro b h1 h2
    refine (setRow_other _ w.heap.size b _ (by omega)).trans ?_
    refine (setRow_other _ w.heap.size b _ (by omega)).trans ?_
    exact Below.heap_alloc w _ b h1
  · exact below_setRow (below_setRow ((Below.refl B w).alloc hB _).drew hB _).drew hB _
/-- Put in at a place. -/
theorem put9_rows (l : List (T × Value)) (x : T × Value) (i : Nat) : put9 (rows T.cells l) (T.cells x) i = rows T.cells (l.take i ++ x :: l.drop i) := by
  unfold put9
  rw [rows_append, rows_cons, rows_take T.len, rows_drop T.len, List.append_assoc]
theorem insert_any9 (B : Nat)  (v : Value) (l : List (T × Value)) (i : Nat) (vb : Nat) (x : T × Value) (w : World) (hown : w.ownsRow B 34 17 v l.length (rows T.cells l)) (hi : i ≤ l.length) (hn : l.length ≤ 100) (hB : B ≤ w.heap.size) (hx1 : ∀ u ∈ T.cells x, u.oneCell' = true) (hl1 : ∀ u ∈ rows T.cells l, u.oneCell' = true) (R : Rw w vb 34 (T.cells x).toArray) (hvb : ∀ k, v.ownBlock = some k → vb ≠ k) :
    Calls Try.prog 21 #[v, .int .i64 i, .slice (some ⟨vb, 0, none⟩) 1 1] w (InPost9 B v (l.length + 1) (rows T.cells (l.take i ++ x :: l.drop i)) w) := by
  rw [← put9_rows]
  obtain ⟨p, c, rfl⟩ := own_sl hown
  rcases Nat.lt_or_ge i l.length with h | h
  · obtain ⟨g, rfl, hg⟩ := own_some hown (by omega)
    rcases Nat.lt_or_ge c (l.length + 1) with hc | hc
    · exact insert_grow9 B g _ c i _ vb x w hown h hc hn (hl1) hB hx1 R
    · exact insert_shift9 B g _ c i _ vb x w hown h hc hn (hvb g rfl) (hl1) hx1 R
  · obtain rfl : i = l.length := by omega
    have := insert_end9 B p l.length c _ vb x w hown hn hB hx1 R
    rw [show put9 (rows T.cells l) (T.cells x) l.length = rows T.cells l ++ (T.cells x) by unfold put9; rw [List.take_of_length_le (by rw [rows_length T.len]; omega), List.drop_of_length_le (by rw [rows_length T.len]; omega), List.append_nil]]
    exact this
end Go.Proofs.Ytfiamiflkfdhoaa
/- The function Offer. -/
namespace Go.Proofs.Ytfiamiflkfdhoaa
open Go.RowKit

theorem ls_ahd (p s q u : Int) : ls p s 0 q u 0 = ahd p s q u := by
  unfold ls ahd
  by_cases h : p = q
  · subst h
    by_cases h2 : s = u <;> simp [h2]
  · simp [h]
theorem insT_idx (t : T) : ∀ l : List T, insT t l = l.take (l.findIdx fun x => ls t.p t.s 0 x.p x.s 0) ++ t :: l.drop (l.findIdx fun x => ls t.p t.s 0 x.p x.s 0)
  | [] => rfl
  | x :: l => by
    unfold insT
    rw [List.findIdx_cons, ls_ahd]
    cases h : ahd t.p t.s x.p x.s with
    | true => simp
    | false =>
      simp only [cond_false, List.take_succ_cons, List.drop_succ_cons, List.cons_append]
      rw [if_neg (by simp), insT_idx t l]
theorem OfPost.err {off : Nat → Prop} {v : List Int} {l : List T} {t : T} {w w' : World} {n : Int} (hoff : ∀ b, off b → b < w.heap.size) (he : ofE v l t = n) (hn : n ≠ 0) (hb : Below w.heap.size w w') : OfPost off v l t w (.returned (.tuple #[.slice none 0 0, .int .i64 n])) w' :=
  ⟨.slice none 0 0, [], by rw [he], fun h => absurd (he.symm.trans h) hn, (OwnT.nil w' w.heap.size).xat.sub hoff, hb⟩
set_option maxHeartbeats 4000000 in
set_option maxRecDepth 100000 in
theorem offer_any (off : Nat → Prop) (v : List Int) (ys : List (T × Value)) (sv : Value) (t : T) (sl : Value) (w : World) (hv : v.length = 13) (hoff : ∀ b, off b → b < w.heap.size) (hX : XAt w sv ys off) (ho : OHas w sl t.ops) (hl : ys.length ≤ 41) (hops : ∀ y ∈ ys, y.1.ops.length ≤ 1000) :
    Calls Try.prog 7 #[V v, sv, TxV t.p t.s t.v t.t sl] w (OfPost off v (ys.map (·.1)) t w) := by
  have hXH := hX.has
  obtain ⟨sp, sc, hsv⟩ : ∃ p c, sv = .slice p ys.length c := hX.s.slice
  subst hsv
  have hsl := ho.one
  have HX : Hid (XAt w (.slice sp ys.length sc) ys off) := hX
  have HXH : Hid (XHas w (.slice sp ys.length sc) (ys.map (·.1))) := hXH
  have HO : Hid (OHas w sl t.ops) := ho
  have HP : Hid (∀ y ∈ ys, y.1.ops.length ≤ 1000) := hops
  have HF : Hid (∀ b, off b → b < w.heap.size) := hoff
  have hlm : (ys.length : Int) ≤ 41 := by omega
  clear hX hXH ho hops hoff
  obtain ⟨w0, HW⟩ : ∃ w0, (w.alloc (.cells (vals v).toArray 26)).alloc (.cells (txc t.p t.s t.v t.t sl).toArray 34) = w0 := ⟨_, rfl⟩
  have A0 : At w0 w.heap.size v := by rw [← HW]; exact (at_new w v hv).alloc _
  have R0 : Rw w0 (w.heap.size + 1) 34 (txc t.p t.s t.v t.t sl).toArray := by rw [← HW]; exact rw_next _ (by simp) _ _
  have hb0 : Below w.heap.size w w0 := by rw [← HW]; exact bel_alloc (bel_alloc (Below.refl _ _) _) _
  have r0 := R0.range 0 (txc t.p t.s t.v t.t sl) (fun j v h => by simpa using h)
  have rd := R0.range 0 [.int .i64 t.p, .int .i64 t.s] (fun j v h => by
    match j, h with
    | 0, h => simpa [txc] using h
    | 1, h => simpa [txc] using h)
  have z := tx_size t sl
  go_enter Try.func7, Try.ntmps7
  go_upto_region 1 with fail
  try rw [HW]
  go_wp2_with (refine load_m 34 _ rfl rfl _ _ rfl r0 Try.underlying34 rfl z ?_)
  refine (checkTx_any t.p t.s t.v t.t sl t.ops w0 t.hv (HO.out.later hb0)).mono ?_
  rintro e w1 ⟨rfl, hb1⟩
  have hb01 := below_on hb0 hb1
  obtain ⟨ok, HOK⟩ := hid_ex t.ok
  rw [show ct t.p t.s t.v t.t t.ops = ok from HOK.out]
  cases ok with
  | false =>
    have he : ofE v (ys.map (·.1)) t = 3 := by unfold ofE; rw [if_pos HOK.out]
    clear HW A0 R0 r0 rd z
    go_wp2_with fail
    go_ret2
    exact OfPost.err HF.out he (by decide) hb01
  | true =>
    have A1 := A0.later hb1
    have R1 := R0.later hb1
    have rd1 := range_later rd hb1
    have H1 := has_any v t.p t.s w1 hv
    have W1 := fun w' (hb : Below w1.heap.size w1 w') => waits_any (.slice sp ys.length sc) (ys.map (·.1)) t.p t.s w' ((HXH.out.later hb01).later hb) (by rw [List.length_map]; omega)
    obtain ⟨z1, HZ1⟩ := hid_ex (hs v t.p t.s)
    rw [HZ1.out] at H1
    obtain ⟨z2, HZ2⟩ := hid_ex ((ys.map (·.1)).any fun x => decide (x.p = t.p) && decide (x.s = t.s))
    rw [HZ2.out] at W1
    clear A0 R0 r0 rd HW hb0 hb1
    go_wp2_with (first | refine load_at rfl _ rfl _ rfl A1 ?_ | refine load_dm _ rfl rfl _ _ rfl rd1 ?_)
    refine H1.mono ?_
    rintro e w2 ⟨rfl, hb2⟩
    have hb02 := below_on hb01 hb2
    cases z1 with
    | true =>
      have he : ofE v (ys.map (·.1)) t = 8 := by
        unfold ofE
        rw [if_neg (by rw [HOK.out]; decide)]
        split
        · rfl
        · rw [if_pos (show hsT v t = true from HZ1.out)]
      clear W1 H1 A1 R1 rd1 z
      go_wp2_with fail
      go_ret2
      exact OfPost.err HF.out he (by decide) hb02
    | false =>
      have rd2 := range_later rd1 hb2
      go_wp2_with (first | refine load_dm _ rfl rfl _ _ rfl rd2 ?_)
      refine (W1 w2 hb2).mono ?_
      rintro e w3 ⟨rfl, hb3⟩
      have hb03 := below_on hb02 hb3
      cases z2 with
      | true =>
        have he : ofE v (ys.map (·.1)) t = 8 := by
          unfold ofE
          rw [if_neg (by rw [HOK.out]; decide), if_pos (show ((ys.map (·.1)).any fun x => sd x t) = true from HZ2.out)]
        clear W1 H1 A1 R1 rd1 rd2 z
        go_wp2_with fail
        go_ret2
        exact OfPost.err HF.out he (by decide) hb03
      | false =>
        by_cases h32 : 32 ≤ ys.length
        · have h32' : (32 : Int) ≤ (ys.length : Int) := by omega
          have he : ofE v (ys.map (·.1)) t = 4 := by
            unfold ofE
            rw [if_neg (by rw [HOK.out]; decide), if_neg (by rw [show ((ys.map (·.1)).any fun x => sd x t) = false from HZ2.out]; decide), if_neg (by rw [show hsT v t = false from HZ1.out]; decide), if_pos (by rw [List.length_map]; exact h32)]
          clear W1 H1 A1 R1 rd1 rd2 z
          go_wp2_with fail
          go_ret2
          exact OfPost.err HF.out he (by decide) hb03
        · have h32' : ¬ (32 : Int) ≤ (ys.length : Int) := by omega
          have he : ofE v (ys.map (·.1)) t = 0 := by
            unfold ofE
            rw [if_neg (by rw [HOK.out]; decide), if_neg (by rw [show ((ys.map (·.1)).any fun x => sd x t) = false from HZ2.out]; decide), if_neg (by rw [show hsT v t = false from HZ1.out]; decide), if_neg (by rw [List.length_map]; exact h32)]
          have R3 := (R1.later hb2).later hb3
          clear W1 H1 A1 R1 rd1 rd2
          go_upto_region 7 with fail
          have tx : ∀ {w' : World}, Rw w' (w.heap.size + 1) 34 (txc t.p t.s t.v t.t sl).toArray → w'.rangeAt (w.heap.size + 1) 0 (txc t.p t.s t.v t.t sl) ∧ w'.rangeAt (w.heap.size + 1) 0 [.int .i64 t.p, .int .i64 t.s] := fun h => ⟨h.range 0 _ (fun j v h => by simpa using h), h.range 0 [.int .i64 t.p, .int .i64 t.s] (fun j v h => by
            match j, h with
            | 0, h => simpa [txc] using h
            | 1, h => simpa [txc] using h)⟩
          have hS := tx R3.drew
          have hb03d : Below w.heap.size w w3.drew := hb03.drew
          have hXd := HX.out.later hb03d
          have C1 := copyTxs_any (.slice sp ys.length sc) ys off w3.drew hXd (by omega) HP.out
          refine HeldI.region (fun w' => w'.rangeAt (w.heap.size + 1) 0 (txc t.p t.s t.v t.t sl) ∧ w'.rangeAt (w.heap.size + 1) 0 [.int .i64 t.p, .int .i64 t.s]) (by kernel_rfl) ?_
          refine HeldI.pu 0 hS ?_
          refine HeldI.pu 2 hS ?_
          refine HeldI.pu 3 hS ?_
          refine HeldI.lm 4 (zd t.p t.s) (fun _ h => h.2) Try.underlying31 hS ?_
          refine HeldI.lm 6 (tx_size t sl) (fun _ h => h.1) Try.underlying34 hS ?_
          refine HeldI.kn 1 C1 ?_
          rintro e w4 ⟨u4, zs, rfl, hz4, hO4, hb4⟩
          refine ⟨_, rfl, tx (R3.drew.later hb4), ?_⟩
          have R4 := R3.drew.later hb4
          have hb04 : Below w.heap.size w w4 := below_on hb03d hb4
          refine HeldI.kn 5 (place_any (.slice sp ys.length sc) (ys.map (·.1)) t.p t.s w4 (HXH.out.later hb04) (by rw [List.length_map]; omega)) ?_
          rintro e w5 ⟨rfl, hb5⟩
          have R5 := R4.later hb5
          have hb05 := below_on hb04 hb5
          have hO5 := hO4.later hb5
          refine ⟨_, rfl, tx R5, ?_⟩
          have hok : t.ops.length ≤ 1000 := by have := ok_ops (x := t) HOK.out; omega
          refine HeldI.kn 7 (copyTx_any t sl w5 (HO.out.later hb05) hok) ?_
          rintro e w6 ⟨sl', rfl, hr6, hb6⟩
          have R6 := R5.later hb6
          have hb06 := below_on hb05 hb6
          have hO6 := hO5.later hb6
          have one' := (own_oh hr6).one
          refine ⟨_, rfl, tx R6, ?_⟩
          refine HeldI.vl 8 (run_build34 (X := t) (sl := sl') rfl rfl one') (tx (R6.alloc _)) ?_
          have hb7 := bel_alloc (Below.refl w6.heap.size w6) (.cells (txc t.p t.s t.v t.t sl').toArray 34)
          have hO7 := hO6.later hb7
          have R7 := R6.later hb7
          have hb07 := below_on hb06 hb7
          have hvb : Rw (w6.alloc (.cells (txc t.p t.s t.v t.t sl').toArray 34)) w6.heap.size 34 (T.cells (t, sl')).toArray := rw_new w6 34 _
          have hr7 : ORow (w6.alloc (.cells (txc t.p t.s t.v t.t sl').toArray 34)) w5.heap.size sl' t.ops := own_later hr6 hb7
          have hzl : zs.length = ys.length := by have := congrArg List.length hz4; simpa using this
          obtain ⟨i, HI⟩ := hid_ex ((ys.map (·.1)).findIdx fun x => ls t.p t.s 0 x.p x.s 0)
          have hil : i ≤ zs.length := by
            rw [← HI.out, hzl]
            have := List.findIdx_le_length (xs := ys.map (·.1)) (p := fun x => ls t.p t.s 0 x.p x.s 0)
            simpa using this
          rw [HI.out]
          have hsz3 : w.heap.size ≤ w3.drew.heap.size := hb03d.size
          have hs34 : w3.drew.heap.size ≤ w4.heap.size := hb4.size
          have hs45 := hb5.size
          have hs56 := hb6.size
          have hs67 := hb7.size
          have CI := insert_any9 w.heap.size u4 zs i w6.heap.size (t, sl') (w6.alloc (.cells (txc t.p t.s t.v t.t sl').toArray 34)) (hO7.base hsz3).r hil (by omega) (by omega) (T.one sl' one' t) (T.ones fun y hy => own_oh (hO7.o y hy)) hvb (fun k hk e => by
            obtain ⟨_, cur, h⟩ := hO6.block hk
            have := (Array.getElem?_eq_some_iff.1 h).1
            omega)
          refine HeldI.kn 9 CI ?_
          rintro e w8 ⟨u8, rfl, hO8, hkp, -, hb8⟩
          have hne : ∀ k, u4.ownBlock = some k → ∃ cur, (w6.alloc (.cells (txc t.p t.s t.v t.t sl').toArray 34)).heap[k]? = some (.cells cur 34) := fun k hk => (hO7.block hk).2
          have kpo : ∀ {y : Value} {q : List O} {B : Nat}, ORow (w6.alloc (.cells (txc t.p t.s t.v t.t sl').toArray 34)) B y q → ORow w8 B y q := fun h => h.keep fun b e => by
            obtain ⟨_, cur, h2⟩ := h.block e
            refine hkp b (Array.getElem?_eq_some_iff.1 h2).1 fun e2 => ?_
            obtain ⟨cur2, h3⟩ := hne b e2
            rw [h2] at h3
            simp at h3
          have R8 : Rw w8 (w.heap.size + 1) 34 (txc t.p t.s t.v t.t sl).toArray := (hkp _ R7.lt fun e => by
            have := (hO7.block e).1
            have := R3.lt
            have h0 : w3.drew.heap.size = w3.heap.size := rfl
            omega).trans R7
          refine ⟨_, rfl, tx R8, ?_⟩
          refine HeldI.pu 10 (tx R8) ?_
          refine HeldI.pu 11 (tx R8) ?_
          refine HeldI.dn ?_
          have hOw : OwnT w8 w.heap.size u8 (zs.take i ++ (t, sl') :: zs.drop i) := by
            refine ⟨?_, fun y hy => ?_⟩
            · rw [show (zs.take i ++ (t, sl') :: zs.drop i).length = zs.length + 1 by simp; omega]
              exact hO8
            · rcases List.mem_append.1 hy with h | h
              · exact (kpo (hO7.o y (List.mem_of_mem_take h))).base hsz3
              · rcases List.mem_cons.1 h with rfl | h
                · exact (kpo hr7).base (by omega)
                · exact (kpo (hO7.o y (List.mem_of_mem_drop h))).base hsz3
          have hmap : (zs.take i ++ (t, sl') :: zs.drop i).map (·.1) = ofL v (ys.map (·.1)) t := by
            unfold ofL
            rw [if_pos he, insT_idx, HI.out, List.map_append, List.map_cons, List.map_take, List.map_drop, hz4]
          have hbf : Below w.heap.size w w8 := hb07.trans hb8
          clear CI hkp kpo hne hO7 hO6 hO5 hO4 R8 R7 R6 R5 R4 R3 hvb hr7 hr6 C1 hXd
          go_wp2_with fail
          go_ret2
          exact ⟨u8, _, by rw [he]; rfl, fun _ => hmap, hOw.xat.sub HF.out, hbf⟩
end Go.Proofs.Ytfiamiflkfdhoaa
/- The function Closed. -/
namespace Go.Proofs.Ytfiamiflkfdhoaa
open Go.RowKit

set_option maxHeartbeats 4000000 in
set_option maxRecDepth 100000 in
theorem closed_any (l : List T) (sv : Value) (w : World) (h : XHas w sv l) (hl : l.length ≤ 100) : Calls Try.prog 14 #[sv] w (Tells (.bool (clb zeros l)) w) := by
  obtain ⟨q, c, rfl⟩ := h.slice
  have hlm : (l.length : Int) ≤ 100 := by omega
  obtain ⟨z, HZ⟩ := hid_ex (clb zeros l)
  rw [HZ.out]
  have H : Hid (XHas w (.slice q l.length c) l) := h
  clear h
  have A3 : At (w.alloc (.cells z13 26)) w.heap.size zeros := at_new w zeros rfl
  have hbel := bel_alloc (Below.refl w.heap.size w) (.cells z13 26)
  go_enter Try.func14, Try.ntmps14
  go_upto_region 2 with fail
  rw [show w.alloc (.cells #[.int .i64 0, .int .i64 0, .int .i64 0, .int .i64 0, .int .i64 0, .int .i64 0, .int .i64 0, .int .i64 0, .int .i64 0, .int .i64 0, .int .i64 0, .int .i64 0, .int .i64 0] 26) = w.alloc (.cells z13 26) from rfl]
  generalize w.alloc (.cells z13 26) = w2 at A3 hbel ⊢
  go_wp2_with fail
  go_loopw [8] (fun vi wr => ∃ k : Nat, vi = .int .i64 k ∧ k ≤ l.length ∧ Hid (∀ i (h : i < l.length), i < k → rdy (run zeros (l.take i)) l[i] = true) ∧ At wr w.heap.size (run zeros (l.take k)) ∧ Below w.heap.size w wr) (fun vi _ => l.length - (intOf vi).toNat)
  case atStart => exact ⟨0, rfl, by omega, (show ∀ i (_ : i < l.length), i < 0 → _ from fun i _ h => by omega), A3, hbel⟩
  case round =>
    clear A3 hbel
    obtain ⟨k, rfl, hk, HV, A3, hbel⟩ := hrel
    by_cases hlt : k < l.length
    · have hlt' : (k : Int) < (l.length : Int) := by omega
      obtain ⟨g, o, s1, rfl, d0, a0⟩ := H.out.at k hlt
      have d := range_later d0 hbel
      have ao := a0.later hbel
      have hrun := run_take l zeros k hlt
      have hown := A3.1
      obtain ⟨x, HX⟩ := hid_ex l[k]
      rw [HX.out] at d ao hrun
      obtain ⟨own, HO⟩ := hid_ex (run zeros (l.take k))
      rw [HO.out] at hrun A3 hown
      obtain ⟨r, HR⟩ := hid_ex (rdy own x)
      have z1 := tx_size x s1
      have hsl := ao.one
      obtain ⟨w5, HW⟩ : ∃ w5, (wr.alloc (.cells z17 34)).setRow wr.heap.size (txc x.p x.s x.v x.t s1).toArray = w5 := ⟨_, rfl⟩
      obtain ⟨R3, hb3, hsz3⟩ := box_tx wr x s1 HW
      have r3 := R3.range 0 (txc x.p x.s x.v x.t s1) (fun j v h => by simpa using h)
      have ao3 := ao.later hb3
      have A5 := A3.later hb3
      have C := ready_any own x s1 w5 hown ao3
      rw [HR.out] at C
      clear d0 a0 A3 ao
      go_upto_region 5 with (first | refine load_m 34 _ rfl rfl _ _ rfl d Try.underlying34 rfl z1 ?_ | refine store_tx rfl _ _ rfl _ x s1 rfl rfl hsl (rw_new wr 34 z17) rfl ?_)
      try rw [HW]
      clear HW d
      go_wp2_with (first | refine load_at rfl _ rfl _ rfl A5 ?_ | refine load_m 34 _ rfl rfl _ _ rfl r3 Try.underlying34 rfl z1 ?_)
      refine C.mono ?_
      rintro e w6 ⟨rfl, hb6⟩
      have hb7 : Below wr.heap.size wr w6 := below_on hb3 hb6
      have hbw := below_on hbel hb7
      cases r
      · obtain rfl : false = z := by
          rw [← HZ.out]
          cases e : clb zeros l with
          | false => rfl
          | true =>
            have := clb_take l zeros k hlt e
            rw [HO.out, HX.out, HR.out] at this
            cases this
        go_wp2_with fail
        go_ret
        exact ⟨rfl, hbw⟩
      · have HV2 : Hid (∀ i (h : i < l.length), i < k + 1 → rdy (run zeros (l.take i)) l[i] = true) := fun i h hi => by
          rcases Nat.lt_or_ge i k with h3 | h3
          · exact HV.out i h h3
          · obtain rfl : i = k := by omega
            rw [HO.out, HX.out]
            exact HR.out
        have A6 := A5.later hb6
        have R6 := R3.later hb6
        have rd := R6.range 0 [.int .i64 x.p, .int .i64 x.s] (fun j v h => by
          match j, h with
          | 0, h => simpa [txc] using h
          | 1, h => simpa [txc] using h)
        have CV := vadd_any own x.p x.s w6 hown (T.ok_p (rdy_ok HR.out)) (T.ok_s (rdy_ok HR.out)) (rdy_s HR.out)
        have hst : (own.set x.p.toNat x.s).length = 13 := by rw [List.length_set, hown]
        go_wp2_with (first | refine load_at rfl _ rfl _ rfl A6 ?_ | refine load_dm _ rfl rfl _ _ rfl rd ?_)
        refine CV.mono ?_
        rintro e w8 ⟨rfl, hb8⟩
        have A8 := A6.later hb8
        have hb9 := below_on hbw hb8
        go_wp2_with (refine store_at rfl _ _ rfl _ _ rfl rfl A8 hst ?_)
        go_roundw
        case rel => exact ⟨k + 1, by simp, by omega, HV2, (by rw [hrun]; exact A8.row hst), below_setRow hb9 (Nat.le_refl _) _⟩
        case measure => simp [intOf]; omega
    · obtain rfl : k = l.length := by omega
      obtain rfl : true = z := by
        rw [← HZ.out]
        exact (clb_of l zeros fun i h => HV.out i h h).symm
      go_wp2_with fail
      go_ret
      exact ⟨rfl, hbel⟩
end Go.Proofs.Ytfiamiflkfdhoaa
/- The program's calls of layer 19, all but heads. -/
namespace Go.Proofs.Ytfiamiflkfdhoaa
open Go.RowKit

theorem drainX_any (off : Nat → Prop) (v : List Int) (ys : List (T × Value)) (sv : Value) (w : World) (hv : v.length = 13) (hoff : ∀ b, off b → b < w.heap.size) (hX : XAt w sv ys off) (hl : ys.length ≤ 41) (hops : ∀ y ∈ ys, y.1.ops.length ≤ 1000) : Calls Try.prog 8 #[V v, sv] w (DrX off v (ys.map (·.1)) w) := by
  have h1 : (ys.map (·.1)).length ≤ 100 := by rw [List.length_map]; omega
  have h2 : ∀ x ∈ ys.map (·.1), x.ops.length ≤ 1000 := fun x hx => by
    obtain ⟨y, hy, rfl⟩ := List.mem_map.1 hx
    exact hops y hy
  have hX' := hX.has
  generalize ys.map (·.1) = l at h1 h2 hX' ⊢
  refine (drain_any v l sv w hX' hv h1 h2).mono ?_
  rintro e w' ⟨u1, u2, z1, z2, e1, e2, e3, e4, e5, e6⟩
  exact ⟨u1, u2, z1, z2, e1, e2, e3, e4.xat.sub hoff, e5.xat.sub hoff, e6⟩
theorem prg_of (hh : ∀ (w : World), Calls Try.prog 6 #[] w (Tells (.bool true) w)) : Prg where
  offer := by
    intro off v ys sv t sl w hv hoff hX ho _ hl hops
    exact offer_any off v ys sv t sl w hv hoff hX ho hl hops
  drain := by
    intro off v ys sv w hv hoff hX hl hops
    exact drainX_any off v ys sv w hv hoff hX hl hops
  ready := by
    intro v t sl w hv ho
    exact ready_any v t sl w hv ho
  closed := by
    intro l sv w h hl
    exact closed_any l sv w h hl
  heads := hh
end Go.Proofs.Ytfiamiflkfdhoaa
