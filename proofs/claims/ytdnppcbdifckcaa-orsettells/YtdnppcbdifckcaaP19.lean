import Derived.Test.YtdnppcbdifckcaaP18
/- Left and Folded of the document's answer. -/
namespace Go.Proofs.Ytdnppcbdifckcaa
open Go.RowKit

def LfPost (l : List M) (w : World) (e : Ending) (w' : World) : Prop := ∃ u, e = .returned u ∧ w'.ownsRow w.heap.size 44 3 u l.length (rows M.cells l) ∧ Below w.heap.size w w'
def FdPost (l : List M) (n : Nat) (w : World) (e : Ending) (w' : World) : Prop := ∃ u, e = .returned (.tuple #[u, .bool (decide (l.length < n))]) ∧ w'.ownsRow w.heap.size 44 3 u l.length (rows M.cells l) ∧ Below w.heap.size w w'
theorem M.dot {w : World} {b o : Nat} {x : M} (h : w.rangeAt b o x.cells) : w.rangeAt b o [.int .i64 x.p, .int .i64 x.s] := fun j u hu => by
  refine h j u ?_
  match j, hu with
  | 0, hu => exact hu
  | 1, hu => exact hu
  | j + 2, hu => simp at hu
set_option maxHeartbeats 4000000 in
set_option maxRecDepth 100000 in
theorem left_any (v0 : Value) (l : List M) (q u : Int) (v : List Int) (t : Int) (sl : Value) (idx : Int) (w : World) (hv : v.length = 13) (h : MHas w v0 l) (hl : l.length ≤ 100) : Calls Try.prog 60 #[v0, TxV q u v t sl, .int .i64 idx] w (LfPost (l.filter (fun y => !bf y.p y.s y.i q u v idx)) w) := by
  obtain ⟨i0, hi, hz0, hz1, hz2⟩ := info_parts info44
  obtain ⟨p, c, rfl⟩ := h.slice
  have HA : Hid (MHas w (.slice p l.length c) l) := h
  clear h
  have R1 : Rw (w.alloc (.cells (txc q u v t sl).toArray 34)) (w.heap.size) 34 (txc q u v t sl).toArray := rw_new w 34 (txc q u v t sl).toArray
  have hbel := bel_alloc (Below.refl w.heap.size w) (.cells (txc q u v t sl).toArray 34)
  have hB : w.heap.size + 1 ≤ (w.alloc (.cells (txc q u v t sl).toArray 34)).heap.size := by simp
  generalize hW : w.alloc (.cells (txc q u v t sl).toArray 34) = w0 at R1 hbel hB
  go_enter Try.func60, Try.ntmps60
  go_wp2_with (first | rw [hW])
  clear hW
  go_loopw [7, 8] (fun vn vi wr => ∃ k : Nat, vi = .int .i64 k ∧ k ≤ l.length ∧ wr.ownsRow (w.heap.size + 1) 44 3 vn ((l.take k).filter (fun y => !bf y.p y.s y.i q u v idx)).length (rows M.cells ((l.take k).filter (fun y => !bf y.p y.s y.i q u v idx))) ∧ Rw wr (w.heap.size) 34 (txc q u v t sl).toArray ∧ Below w.heap.size w wr ∧ w.heap.size + 1 ≤ wr.heap.size) (fun _ vi _ => l.length - (intOf vi).toNat)
  case atStart => exact ⟨0, rfl, by omega, World.ownsRow_nil _ _ _ _, R1, hbel, hB⟩
  case round =>
    clear R1 hbel hB
    obtain ⟨k, rfl, hk, hown, R1, hbel, hB⟩ := hrel
    obtain ⟨P, cc, rfl⟩ := own_sl hown
    by_cases hlt : k < l.length
    · have hlt' : (k : Int) < (l.length : Int) := by omega
      have hk0 : (0 : Int) ≤ (k : Int) := by omega
      obtain ⟨g, o, rfl, hd0⟩ := HA.out.at (by omega)
      have d := M.elem (range_later hd0 hbel) k hlt
      obtain ⟨y, HY⟩ := hid_ex l[k]
      rw [HY.out] at d
      clear hd0
      have hf100 : ((l.take k).filter (fun y => !bf y.p y.s y.i q u v idx)).length ≤ 100 := by
        have h1 := List.length_filter_le (fun y => !bf y.p y.s y.i q u v idx) (l.take k)
        rw [List.length_take] at h1
        omega
      have HT : Hid ((l.take (k + 1)).filter (fun y => !bf y.p y.s y.i q u v idx) = ((l.take k).filter (fun y => !bf y.p y.s y.i q u v idx)) ++ [y].filter (fun y => !bf y.p y.s y.i q u v idx)) := by
        show _ = _
        rw [List.take_succ_eq_append_getElem hlt, List.filter_append, HY.out]
      obtain ⟨m, HM⟩ := hid_ex ((l.take k).filter (fun y => !bf y.p y.s y.i q u v idx))
      rw [HM.out] at hown hf100 HT
      rw [HM.out]
      have C1 := fun w => refBefore_any y.p y.s y.i q u v t sl idx w hv
      obtain ⟨zz, HZZ⟩ := hid_ex (bf y.p y.s y.i q u v idx)
      rw [HZZ.out] at C1
      have zm : (Try.prog.info? 44).map (·.size) = some y.cells.length := size44
      have ztx : (Try.prog.info? 34).map (·.size) = some (txc q u v t sl).length := by rw [txc_length hv]; exact size34
      go_wp2_with fail
      cases zz
      · have HT2 : Hid ((l.take (k + 1)).filter (fun y => !bf y.p y.s y.i q u v idx) = m ++ [y]) := by
          show _ = _
          rw [HT.out, List.filter_cons_of_pos (by rw [HZZ.out]; rfl), List.filter_nil]
        have hs : Calm.Stays (fun w' => Rw w' w.heap.size 34 (txc q u v t sl).toArray ∧ w'.rangeAt g (o + k * 3) y.cells ∧ w'.ownsRow (w.heap.size + 1) 44 3 (.slice P m.length cc) m.length (rows M.cells m) ∧ Below wr.heap.size wr w') := fun wa wb h hb => ⟨h.1.later hb, range_later h.2.1 hb, own_later h.2.2.1 hb, below_on h.2.2.2 hb⟩
        refine Calm.region (by kernel_rfl) (by kernel_rfl) (fun w' => Rw w' w.heap.size 34 (txc q u v t sl).toArray ∧ w'.rangeAt g (o + k * 3) y.cells ∧ w'.ownsRow (w.heap.size + 1) 44 3 (.slice P m.length cc) m.length (rows M.cells m) ∧ Below wr.heap.size wr w') ⟨R1, d, hown, (Below.refl _ _).drew⟩ ?_
        all_goals
          refine Calm.pure (v := ?_) (by rfl) ?_ ?_
          rotate_left
          focus (intro w hSw; go_simp <;> rfl)
          simp only [Act.put, List.setIfInBounds_toArray, List.set_cons_zero, List.set_cons_succ]
        all_goals
          refine Calm.pure (v := ?_) (by rfl) ?_ ?_
          rotate_left
          focus (intro w hSw; go_simp <;> rfl)
          simp only [Act.put, List.setIfInBounds_toArray, List.set_cons_zero, List.set_cons_succ]
        all_goals
          refine Calm.pure (v := ?_) (by rfl) ?_ ?_
          rotate_left
          focus (intro w hSw; go_simp <;> rfl)
          simp only [Act.put, List.setIfInBounds_toArray, List.set_cons_zero, List.set_cons_succ]
        all_goals
          refine Calm.loadM 44 Try.underlying44 rfl zm (by rfl) _ rfl rfl (fun _ h => h.2.1) ?_
          simp only [Act.put, List.setIfInBounds_toArray, List.set_cons_zero, List.set_cons_succ]
        all_goals
          refine Calm.loadM 34 Try.underlying34 rfl ztx (by rfl) _ rfl rfl (fun _ h => Rw.whole h.1) ?_
          simp only [Act.put, List.setIfInBounds_toArray, List.set_cons_zero, List.set_cons_succ]
        all_goals
          refine Calm.pure (v := ?_) (by rfl) ?_ ?_
          rotate_left
          focus (intro w hSw; go_simp <;> rfl)
          simp only [Act.put, List.setIfInBounds_toArray, List.set_cons_zero, List.set_cons_succ]
        all_goals
          refine Calm.call3s (by rfl) rfl rfl rfl rfl (by kernel_rfl) hs (fun w1 h => C1 w1) ?_
          simp only [Act.put, List.setIfInBounds_toArray, List.set_cons_zero, List.set_cons_succ]
        all_goals
          refine Calm.pure (v := ?_) (by rfl) ?_ ?_
          rotate_left
          focus (intro w hSw; go_simp <;> rfl)
          simp only [Act.put, List.setIfInBounds_toArray, List.set_cons_zero, List.set_cons_succ]
        all_goals
          rintro w9 ⟨R19, d9, ho9, hbel9⟩
        have hb9 := below_on hbel hbel9
        have hB9 := Nat.le_trans hB hbel9.size
        have hBg : ∀ q', (Value.slice P m.length cc).ownBlock = some q' → w.heap.size + 1 ≤ q' := fun q' hq => (World.ownsRow.lt ho9 q' hq).1
        clear hown R1 d hbel9
        go_wp2_with (first
          | refine load_m 44 _ rfl rfl _ _ rfl d9 Try.underlying44 rfl zm ?_
          | (at_builtin; refine wpList_append_own _ rfl _ _ 39 rfl (w.heap.size + 1) 44 i0 (MV 0 0 0) 3 24 Try.underlying39 hi hz0 hz1 hz2 rfl (by decide) _ _ _ rfl (ho9.alloc _) ⟨w9.heap.size, 0, none⟩ 1 1 y.cells rfl rfl ?c1 ?c2 ?c3 ?c4 ?c5 ?_))
        case c1 => exact fun q u hq => (cells_next _ (by simp) _ _ _).trans hq
        case c2 => exact M.one y
        case c3 => unfold maxLen; omega
        case c4 => omega
        case c5 => simp; omega
        intro v2 w6 hown6 hg6 _
        have hbA := bel_alloc (Below.refl w9.heap.size w9) (.cells y.cells.toArray 44)
        have hb6 := (below_on hb9 hbA).grown hg6 (Nat.le_trans (below_on hb9 hbA).size (Nat.le_refl _)) (fun q' hq => by have := hBg q' hq; omega)
        have R16 : Rw w6 (w.heap.size) 34 (txc q u v t sl).toArray := (R19.later hbA).grown hg6 (fun q' hq => by have := hBg q' hq; omega)
        have hB6 : w.heap.size + 1 ≤ w6.heap.size := Nat.le_trans (Nat.le_trans hB9 hbA.size) hg6.size
        clear hg6 hbA ho9 d9
        go_wp2_with fail
        go_roundw
        case rel =>
          refine ⟨k + 1, by simp, by omega, ?_, R16, hb6, hB6⟩
          rw [HT2.out, rows_append, rows_one, List.length_append]
          exact hown6
        case measure => simp [intOf]; omega
      · have HT2 : Hid ((l.take (k + 1)).filter (fun y => !bf y.p y.s y.i q u v idx) = m) := by
          show _ = _
          rw [HT.out, List.filter_cons_of_neg (by rw [HZZ.out]; simp), List.filter_nil, List.append_nil]
        have hs : Calm.Stays (fun w' => Rw w' w.heap.size 34 (txc q u v t sl).toArray ∧ w'.rangeAt g (o + k * 3) y.cells ∧ w'.ownsRow (w.heap.size + 1) 44 3 (.slice P m.length cc) m.length (rows M.cells m) ∧ Below wr.heap.size wr w') := fun wa wb h hb => ⟨h.1.later hb, range_later h.2.1 hb, own_later h.2.2.1 hb, below_on h.2.2.2 hb⟩
        refine Calm.region (by kernel_rfl) (by kernel_rfl) (fun w' => Rw w' w.heap.size 34 (txc q u v t sl).toArray ∧ w'.rangeAt g (o + k * 3) y.cells ∧ w'.ownsRow (w.heap.size + 1) 44 3 (.slice P m.length cc) m.length (rows M.cells m) ∧ Below wr.heap.size wr w') ⟨R1, d, hown, (Below.refl _ _).drew⟩ ?_
        all_goals
          refine Calm.pure (v := ?_) (by rfl) ?_ ?_
          rotate_left
          focus (intro w hSw; go_simp <;> rfl)
          simp only [Act.put, List.setIfInBounds_toArray, List.set_cons_zero, List.set_cons_succ]
        all_goals
          refine Calm.pure (v := ?_) (by rfl) ?_ ?_
          rotate_left
          focus (intro w hSw; go_simp <;> rfl)
          simp only [Act.put, List.setIfInBounds_toArray, List.set_cons_zero, List.set_cons_succ]
        all_goals
          refine Calm.pure (v := ?_) (by rfl) ?_ ?_
          rotate_left
          focus (intro w hSw; go_simp <;> rfl)
          simp only [Act.put, List.setIfInBounds_toArray, List.set_cons_zero, List.set_cons_succ]
        all_goals
          refine Calm.loadM 44 Try.underlying44 rfl zm (by rfl) _ rfl rfl (fun _ h => h.2.1) ?_
          simp only [Act.put, List.setIfInBounds_toArray, List.set_cons_zero, List.set_cons_succ]
        all_goals
          refine Calm.loadM 34 Try.underlying34 rfl ztx (by rfl) _ rfl rfl (fun _ h => Rw.whole h.1) ?_
          simp only [Act.put, List.setIfInBounds_toArray, List.set_cons_zero, List.set_cons_succ]
        all_goals
          refine Calm.pure (v := ?_) (by rfl) ?_ ?_
          rotate_left
          focus (intro w hSw; go_simp <;> rfl)
          simp only [Act.put, List.setIfInBounds_toArray, List.set_cons_zero, List.set_cons_succ]
        all_goals
          refine Calm.call3s (by rfl) rfl rfl rfl rfl (by kernel_rfl) hs (fun w1 h => C1 w1) ?_
          simp only [Act.put, List.setIfInBounds_toArray, List.set_cons_zero, List.set_cons_succ]
        all_goals
          refine Calm.pure (v := ?_) (by rfl) ?_ ?_
          rotate_left
          focus (intro w hSw; go_simp <;> rfl)
          simp only [Act.put, List.setIfInBounds_toArray, List.set_cons_zero, List.set_cons_succ]
        all_goals
          rintro w9 ⟨R19, d9, ho9, hbel9⟩
        have hb9 := below_on hbel hbel9
        have hB9 := Nat.le_trans hB hbel9.size
        clear hown R1 d hbel9
        go_wp2_with fail
        go_roundw
        case rel =>
          refine ⟨k + 1, by simp, by omega, ?_, R19, hb9, hB9⟩
          rw [HT2.out]
          exact ho9
        case measure => simp [intOf]; omega
    · have hlt' : ¬ (k : Int) < (l.length : Int) := by omega
      obtain rfl : k = l.length := by omega
      rw [List.take_length] at hown ⊢
      clear HA
      obtain ⟨P2, HP2⟩ := hid_ex (l.filter (fun y => !bf y.p y.s y.i q u v idx))
      rw [HP2.out] at hown
      have HS : Hid (wr.ownsRow w.heap.size 44 3 (.slice P P2.length cc) P2.length (rows M.cells P2)) := own_mono hown (by omega)
      clear hown
      rw [HP2.out]
      go_wp2_with fail
      go_ret
      exact ⟨_, rfl, by rw [HP2.out]; exact HS.out, hbel⟩
set_option maxHeartbeats 4000000 in
set_option maxRecDepth 100000 in
theorem folded_any (v0 : Value) (l : List M) (v : List Int) (w : World) (hv : v.length = 13) (h : MHas w v0 l) (hl : l.length ≤ 100) : Calls Try.prog 43 #[v0, V v] w (FdPost (l.filter (fun y => !hs v y.p y.s)) l.length w) := by
  obtain ⟨i0, hi, hz0, hz1, hz2⟩ := info_parts info44
  obtain ⟨p, c, rfl⟩ := h.slice
  have HA : Hid (MHas w (.slice p l.length c) l) := h
  clear h
  have R1 : At (w.alloc (.cells (vals v).toArray 31)) (w.heap.size) v := at_new w v hv
  have hbel := bel_alloc (Below.refl w.heap.size w) (.cells (vals v).toArray 31)
  have hB : w.heap.size + 1 ≤ (w.alloc (.cells (vals v).toArray 31)).heap.size := by simp
  generalize hW : w.alloc (.cells (vals v).toArray 31) = w0 at R1 hbel hB
  go_enter Try.func43, Try.ntmps43
  go_wp2_with (first | rw [hW])
  clear hW
  go_loopw [6, 7] (fun vn vi wr => ∃ k : Nat, vi = .int .i64 k ∧ k ≤ l.length ∧ wr.ownsRow (w.heap.size + 1) 44 3 vn ((l.take k).filter (fun y => !hs v y.p y.s)).length (rows M.cells ((l.take k).filter (fun y => !hs v y.p y.s))) ∧ At wr (w.heap.size) v ∧ Below w.heap.size w wr ∧ w.heap.size + 1 ≤ wr.heap.size) (fun _ vi _ => l.length - (intOf vi).toNat)
  case atStart => exact ⟨0, rfl, by omega, World.ownsRow_nil _ _ _ _, R1, hbel, hB⟩
  case round =>
    clear R1 hbel hB
    obtain ⟨k, rfl, hk, hown, R1, hbel, hB⟩ := hrel
    obtain ⟨P, cc, rfl⟩ := own_sl hown
    by_cases hlt : k < l.length
    · have hlt' : (k : Int) < (l.length : Int) := by omega
      have hk0 : (0 : Int) ≤ (k : Int) := by omega
      obtain ⟨g, o, rfl, hd0⟩ := HA.out.at (by omega)
      have d := M.elem (range_later hd0 hbel) k hlt
      obtain ⟨y, HY⟩ := hid_ex l[k]
      rw [HY.out] at d
      clear hd0
      have hf100 : ((l.take k).filter (fun y => !hs v y.p y.s)).length ≤ 100 := by
        have h1 := List.length_filter_le (fun y => !hs v y.p y.s) (l.take k)
        rw [List.length_take] at h1
        omega
      have HT : Hid ((l.take (k + 1)).filter (fun y => !hs v y.p y.s) = ((l.take k).filter (fun y => !hs v y.p y.s)) ++ [y].filter (fun y => !hs v y.p y.s)) := by
        show _ = _
        rw [List.take_succ_eq_append_getElem hlt, List.filter_append, HY.out]
      obtain ⟨m, HM⟩ := hid_ex ((l.take k).filter (fun y => !hs v y.p y.s))
      rw [HM.out] at hown hf100 HT
      rw [HM.out]
      have C1 := fun w => refHas_any v y.p y.s w hv
      obtain ⟨zz, HZZ⟩ := hid_ex (hs v y.p y.s)
      rw [HZZ.out] at C1
      have zm : (Try.prog.info? 44).map (·.size) = some y.cells.length := size44
      have zv := info_vals hv
      have z2 : (Try.prog.info? 29).map (·.size) = some [Value.int .i64 y.p, .int .i64 y.s].length := size29
      go_wp2_with fail
      cases zz
      · have HT2 : Hid ((l.take (k + 1)).filter (fun y => !hs v y.p y.s) = m ++ [y]) := by
          show _ = _
          rw [HT.out, List.filter_cons_of_pos (by rw [HZZ.out]; rfl), List.filter_nil]
        have hs : Calm.Stays (fun w' => At w' w.heap.size v ∧ w'.rangeAt g (o + k * 3) y.cells ∧ w'.ownsRow (w.heap.size + 1) 44 3 (.slice P m.length cc) m.length (rows M.cells m) ∧ Below wr.heap.size wr w') := fun wa wb h hb => ⟨h.1.later hb, range_later h.2.1 hb, own_later h.2.2.1 hb, below_on h.2.2.2 hb⟩
        refine Calm.region (by kernel_rfl) (by kernel_rfl) (fun w' => At w' w.heap.size v ∧ w'.rangeAt g (o + k * 3) y.cells ∧ w'.ownsRow (w.heap.size + 1) 44 3 (.slice P m.length cc) m.length (rows M.cells m) ∧ Below wr.heap.size wr w') ⟨R1, d, hown, (Below.refl _ _).drew⟩ ?_
        all_goals
          refine Calm.loadM 31 Try.underlying31 rfl zv (by rfl) _ rfl rfl (fun _ h => At.range h.1) ?_
          simp only [Act.put, List.setIfInBounds_toArray, List.set_cons_zero, List.set_cons_succ]
        all_goals
          refine Calm.pure (v := ?_) (by rfl) ?_ ?_
          rotate_left
          focus (intro w hSw; go_simp <;> rfl)
          simp only [Act.put, List.setIfInBounds_toArray, List.set_cons_zero, List.set_cons_succ]
        all_goals
          refine Calm.pure (v := ?_) (by rfl) ?_ ?_
          rotate_left
          focus (intro w hSw; go_simp <;> rfl)
          simp only [Act.put, List.setIfInBounds_toArray, List.set_cons_zero, List.set_cons_succ]
        all_goals
          refine Calm.pure (v := ?_) (by rfl) ?_ ?_
          rotate_left
          focus (intro w hSw; go_simp <;> rfl)
          simp only [Act.put, List.setIfInBounds_toArray, List.set_cons_zero, List.set_cons_succ]
        all_goals
          refine Calm.pure (v := ?_) (by rfl) ?_ ?_
          rotate_left
          focus (intro w hSw; go_simp <;> rfl)
          simp only [Act.put, List.setIfInBounds_toArray, List.set_cons_zero, List.set_cons_succ]
        all_goals
          refine Calm.loadM 29 Try.underlying29 rfl z2 (by rfl) _ rfl rfl (fun _ h => M.dot h.2.1) ?_
          simp only [Act.put, List.setIfInBounds_toArray, List.set_cons_zero, List.set_cons_succ]
        all_goals
          refine Calm.call2s (by rfl) rfl rfl rfl (by kernel_rfl) hs (fun w1 h => C1 w1) ?_
          simp only [Act.put, List.setIfInBounds_toArray, List.set_cons_zero, List.set_cons_succ]
        all_goals
          refine Calm.pure (v := ?_) (by rfl) ?_ ?_
          rotate_left
          focus (intro w hSw; go_simp <;> rfl)
          simp only [Act.put, List.setIfInBounds_toArray, List.set_cons_zero, List.set_cons_succ]
        all_goals
          rintro w9 ⟨R19, d9, ho9, hbel9⟩
        have hb9 := below_on hbel hbel9
        have hB9 := Nat.le_trans hB hbel9.size
        have hBg : ∀ q', (Value.slice P m.length cc).ownBlock = some q' → w.heap.size + 1 ≤ q' := fun q' hq => (World.ownsRow.lt ho9 q' hq).1
        clear hown R1 d hbel9
        go_wp2_with (first
          | refine load_m 44 _ rfl rfl _ _ rfl d9 Try.underlying44 rfl zm ?_
          | (at_builtin; refine wpList_append_own _ rfl _ _ 39 rfl (w.heap.size + 1) 44 i0 (MV 0 0 0) 3 24 Try.underlying39 hi hz0 hz1 hz2 rfl (by decide) _ _ _ rfl (ho9.alloc _) ⟨w9.heap.size, 0, none⟩ 1 1 y.cells rfl rfl ?c1 ?c2 ?c3 ?c4 ?c5 ?_))
        case c1 => exact fun q u hq => (cells_next _ (by simp) _ _ _).trans hq
        case c2 => exact M.one y
        case c3 => unfold maxLen; omega
        case c4 => omega
        case c5 => simp; omega
        intro v2 w6 hown6 hg6 _
        have hbA := bel_alloc (Below.refl w9.heap.size w9) (.cells y.cells.toArray 44)
        have hb6 := (below_on hb9 hbA).grown hg6 (Nat.le_trans (below_on hb9 hbA).size (Nat.le_refl _)) (fun q' hq => by have := hBg q' hq; omega)
        have R16 : At w6 (w.heap.size) v := ⟨R19.1, (hg6.block w.heap.size ((R19.later hbA).lt) (fun e => by have := hBg w.heap.size e.symm; omega)).trans (R19.later hbA).2⟩
        have hB6 : w.heap.size + 1 ≤ w6.heap.size := Nat.le_trans (Nat.le_trans hB9 hbA.size) hg6.size
        clear hg6 hbA ho9 d9
        go_wp2_with fail
        go_roundw
        case rel =>
          refine ⟨k + 1, by simp, by omega, ?_, R16, hb6, hB6⟩
          rw [HT2.out, rows_append, rows_one, List.length_append]
          exact hown6
        case measure => simp [intOf]; omega
      · have HT2 : Hid ((l.take (k + 1)).filter (fun y => !hs v y.p y.s) = m) := by
          show _ = _
          rw [HT.out, List.filter_cons_of_neg (by rw [HZZ.out]; simp), List.filter_nil, List.append_nil]
        have hs : Calm.Stays (fun w' => At w' w.heap.size v ∧ w'.rangeAt g (o + k * 3) y.cells ∧ w'.ownsRow (w.heap.size + 1) 44 3 (.slice P m.length cc) m.length (rows M.cells m) ∧ Below wr.heap.size wr w') := fun wa wb h hb => ⟨h.1.later hb, range_later h.2.1 hb, own_later h.2.2.1 hb, below_on h.2.2.2 hb⟩
        refine Calm.region (by kernel_rfl) (by kernel_rfl) (fun w' => At w' w.heap.size v ∧ w'.rangeAt g (o + k * 3) y.cells ∧ w'.ownsRow (w.heap.size + 1) 44 3 (.slice P m.length cc) m.length (rows M.cells m) ∧ Below wr.heap.size wr w') ⟨R1, d, hown, (Below.refl _ _).drew⟩ ?_
        all_goals
          refine Calm.loadM 31 Try.underlying31 rfl zv (by rfl) _ rfl rfl (fun _ h => At.range h.1) ?_
          simp only [Act.put, List.setIfInBounds_toArray, List.set_cons_zero, List.set_cons_succ]
        all_goals
          refine Calm.pure (v := ?_) (by rfl) ?_ ?_
          rotate_left
          focus (intro w hSw; go_simp <;> rfl)
          simp only [Act.put, List.setIfInBounds_toArray, List.set_cons_zero, List.set_cons_succ]
        all_goals
          refine Calm.pure (v := ?_) (by rfl) ?_ ?_
          rotate_left
          focus (intro w hSw; go_simp <;> rfl)
          simp only [Act.put, List.setIfInBounds_toArray, List.set_cons_zero, List.set_cons_succ]
        all_goals
          refine Calm.pure (v := ?_) (by rfl) ?_ ?_
          rotate_left
          focus (intro w hSw; go_simp <;> rfl)
          simp only [Act.put, List.setIfInBounds_toArray, List.set_cons_zero, List.set_cons_succ]
        all_goals
          refine Calm.pure (v := ?_) (by rfl) ?_ ?_
          rotate_left
          focus (intro w hSw; go_simp <;> rfl)
          simp only [Act.put, List.setIfInBounds_toArray, List.set_cons_zero, List.set_cons_succ]
        all_goals
          refine Calm.loadM 29 Try.underlying29 rfl z2 (by rfl) _ rfl rfl (fun _ h => M.dot h.2.1) ?_
          simp only [Act.put, List.setIfInBounds_toArray, List.set_cons_zero, List.set_cons_succ]
        all_goals
          refine Calm.call2s (by rfl) rfl rfl rfl (by kernel_rfl) hs (fun w1 h => C1 w1) ?_
          simp only [Act.put, List.setIfInBounds_toArray, List.set_cons_zero, List.set_cons_succ]
        all_goals
          refine Calm.pure (v := ?_) (by rfl) ?_ ?_
          rotate_left
          focus (intro w hSw; go_simp <;> rfl)
          simp only [Act.put, List.setIfInBounds_toArray, List.set_cons_zero, List.set_cons_succ]
        all_goals
          rintro w9 ⟨R19, d9, ho9, hbel9⟩
        have hb9 := below_on hbel hbel9
        have hB9 := Nat.le_trans hB hbel9.size
        clear hown R1 d hbel9
        go_wp2_with fail
        go_roundw
        case rel =>
          refine ⟨k + 1, by simp, by omega, ?_, R19, hb9, hB9⟩
          rw [HT2.out]
          exact ho9
        case measure => simp [intOf]; omega
    · have hlt' : ¬ (k : Int) < (l.length : Int) := by omega
      obtain rfl : k = l.length := by omega
      rw [List.take_length] at hown ⊢
      clear HA
      have hf100 : (l.filter (fun y => !hs v y.p y.s)).length ≤ 100 := Nat.le_trans (List.length_filter_le _ _) hl
      obtain ⟨P2, HP2⟩ := hid_ex (l.filter (fun y => !hs v y.p y.s))
      rw [HP2.out] at hown hf100
      have HS : Hid (wr.ownsRow w.heap.size 44 3 (.slice P P2.length cc) P2.length (rows M.cells P2)) := own_mono hown (by omega)
      clear hown
      rw [HP2.out]
      have HE : Hid (∀ e w', FdPost P2 l.length w e w' ↔ ∃ u, e = .returned (.tuple #[u, .bool (decide (P2.length < l.length))]) ∧ w'.ownsRow w.heap.size 44 3 u P2.length (rows M.cells P2) ∧ Below w.heap.size w w') := fun _ _ => Iff.rfl
      obtain ⟨zd, HZD⟩ := hid_ex (decide (P2.length < l.length))
      rw [HZD.out] at HE
      have hzd := HZD.out
      go_wp2_with fail
      refine bodyPost_ret (v := .tuple #[.slice P P2.length cc, .bool zd]) (by simp [results, Try.results43, go_sem]) rfl ?_
      rw [HP2.out, HE.out]
      exact ⟨_, rfl, HS.out, hbel⟩
end Go.Proofs.Ytdnppcbdifckcaa
