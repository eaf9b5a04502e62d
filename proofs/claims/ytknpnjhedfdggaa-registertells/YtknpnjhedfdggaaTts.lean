/- texts of package register. -/
import Derived.Test.YtknpnjhedfdggaaTxt
import Derived.Test.YtknpnjhedfdggaaIter
import Derived.Test.YtknpnjhedfdggaaCk
import Derived.Maps.OwnSet
namespace Go.Proofs.Ytknpnjhedfdggaa
open Go.RowKit Go.Sort Go.Maps Go.WideMaps

/-- A slice of texts. -/
abbrev THas (w : World) (v : Value) (l : List Bs) : Prop := SHas 1 w v l.length (l.map encStr)
def TtPost (l : List Bs) (w : World) (e : Ending) (w' : World) : Prop := ∃ u, e = .returned u ∧ THas w' u l ∧ Below w.heap.size w w'
theorem law9 : Keyed Try.prog 9 := string_keyed Try.underlying9
/-- The set of these texts. -/
def setT (l : List Bs) : DataW Unit := setOf (.agg []) (l.map Lit.string)
theorem setT_snoc (l : List Bs) (s : Bs) : setT (l ++ [s]) = (setT l).put (.string s) (.agg []) := by
  unfold setT
  rw [List.map_append, List.map_cons, List.map_nil, setOf_snoc]
theorem setT_nil : setT [] = .map [] := rfl
theorem setT_has (l : List Bs) (x : Bs) : Maps.has (setT l) (.string x) = true ↔ x ∈ l := by
  unfold setT
  rw [has_setOf _ _ _ (fun y hy => by
    obtain ⟨z, _, rfl⟩ := List.mem_map.1 hy
    trivial), List.any_eq_true]
  constructor
  · rintro ⟨y, hy, h⟩
    obtain ⟨z, hz, rfl⟩ := List.mem_map.1 hy
    have e : z = x := by simpa [Lit.sameKey] using h
    rw [← e]
    exact hz
  · intro h
    exact ⟨.string x, List.mem_map_of_mem h, by simp [Lit.sameKey]⟩
theorem keys_sorted {w : World} {R : Value → Option (DataW Unit × List MemPlace)} {b n : Nat} {l ss : List Bs} (hown : w.ownsMap Try.prog 9 R b n (setT l)) (hp : ss.Perm (strKeys (setT l))) : ss.mergeSort (fun x y => decide (x ≤ y)) = txs l := by
  have hc : Collected (setT l) (fun _ => false) (txs l) := ⟨up_nodup (txs_up l), fun x => by rw [txs_mem, setT_has]; simp⟩
  have h2 := hc.perm hown law9 Try.underlying9 (fun _ => rfl)
  rw [mergeSort_of_perm (hp.trans h2.symm), sorted_txs (up_nodup (txs_up l)) (fun x => txs_mem l x)]
theorem bs_enc (x : ByteArray) : encStr (bs x) = .string x := rfl
abbrev wtx (l : List Wt) : List Bs := l.map (fun y => bs y.x)
set_option maxHeartbeats 2000000 in
set_option maxRecDepth 100000 in
theorem texts_any (v : Value) (l : List Wt) (w : World) (h : WHas w v l) (hl : l.length ≤ 100) (hx : ∀ y ∈ l, y.x.size ≤ 64) : Calls Try.prog 25 #[v] w (TtPost (txs (wtx l)) w) := by
  obtain ⟨p, c, rfl⟩ := h.slice
  have HA : Hid (WHas w (.slice p l.length c) l) := h
  have HX : Hid (∀ y ∈ l, y.x.size ≤ 64) := hx
  clear h hx
  have hmm := @run_makeMap Try.prog
  go_enter Try.func25, Try.ntmps25
  go_wp2
  go_loopw [9] (fun vi wr => ∃ k : Nat, vi = .int .i64 k ∧ k ≤ l.length ∧ wr.ownsMap Try.prog 9 (unitElem (H := Unit)) w.heap.size k (setT (wtx (l.take k))) ∧ Below w.heap.size w wr) (fun vi _ => l.length - (intOf vi).toNat)
  case atStart => exact ⟨0, rfl, by omega, World.ownsMap_made _ _ _ _, bel_alloc (Below.refl _ _) _⟩
  case round =>
    obtain ⟨k, rfl, hk, hown, hbel⟩ := hrel
    by_cases hlt : k < l.length
    · have hlt' : (k : Int) < (l.length : Int) := by omega
      obtain ⟨g, o, rfl, hd0⟩ := HA.out.at (by omega)
      have d := Wt.elem (range_later hd0 hbel) k hlt
      have hx := HX.out l[k] (List.getElem_mem _)
      clear hd0 HA HX
      obtain ⟨x, HXX⟩ := hid_ex l[k]
      rw [HXX.out] at d hx
      have HS : Hid (setT (wtx (l.take (k + 1))) = (setT (wtx (l.take k))).put (.string x.x.data.toList) (.agg [])) := by
        show _ = _
        unfold wtx
        rw [List.take_succ_eq_append_getElem hlt, List.map_append, List.map_cons, List.map_nil, setT_snoc, HXX.out]
      have z42 : (Try.prog.info? 42).map (·.size) = some x.cells.length := size42
      have hkey : keyOf Try.prog 9 (.string x.x) = some (.string x.x.data.toList) := keyOf_string_mk Try.underlying9 (by unfold maxLen; omega)
      have R5 := rw_new wr 42 #[.int .i64 x.p, .int .i64 x.s, .int .i64 x.i, .int .i64 x.t, .string x.x]
      have hbA := bel_alloc (Below.refl wr.heap.size wr) (.cells #[.int .i64 x.p, .int .i64 x.s, .int .i64 x.i, .int .i64 x.t, .string x.x] 42)
      replace hown := hown.alloc (.cells #[.int .i64 x.p, .int .i64 x.s, .int .i64 x.i, .int .i64 x.t, .string x.x] 42)
      replace hbel := below_on hbel hbA
      generalize setT (wtx (l.take k)) = D at hown HS
      generalize hW : wr.alloc (.cells #[.int .i64 x.p, .int .i64 x.s, .int .i64 x.i, .int .i64 x.t, .string x.x] 42) = w1 at R5 hown hbel
      have cx : w1.cell? ⟨wr.heap.size, 4, none⟩ = some (.string x.x) := R5.cell 4
      clear hbA HXX
      go_wp2_with (first
        | rw [hW]
        | refine load_m 42 _ rfl rfl _ _ rfl d Try.underlying42 rfl z42 ?_
        | (at_mapUpdate; refine wpList_mapUpdate_own _ rfl _ _ _ 82 rfl 9 83 law9 Try.underlying82 (unitElem (H := Unit)) w.heap.size k _ rfl hown (by unfold maxLen; omega) _ _ _ rfl rfl hkey _ [] unitElem_mk ?_; intro w2 hown2 hgrow2))
      go_roundw
      case rel => exact ⟨k + 1, by simp, by omega, by rw [HS.out]; exact hown2, hbel.grown hgrow2 hbel.size (fun j hj => by cases hj; exact Nat.le_refl _)⟩
      case measure => simp [intOf]; omega
    · have hlt' : ¬ (k : Int) < (l.length : Int) := by omega
      obtain rfl : k = l.length := by omega
      rw [List.take_length] at hown
      have hsz := hown.size_le
      have CK := callsIn_wide.1 (maps_Keys_40 (some w.heap.size) wr)
      have CS := callsIn_wide.1 (slices_Sorted_keys_39_40 (H := Unit) w.heap.size l.length _ unitElem wr hown (by unfold maxLen; omega) (by omega))
      clear HA HX hmm
      go_wp2_with fail
      refine CK.mono ?_
      rintro e w1 ⟨rfl, rfl⟩
      go_wp2_with fail
      refine CS.mono ?_
      rintro e w2 ⟨u, ss, rfl, hS, hrow, hnil, hb2⟩
      have hs := keys_sorted hown hS
      rw [hs] at hrow
      have hlen : ss.length = (txs (wtx l)).length := by rw [← hs, List.length_mergeSort]
      rw [hlen] at hrow
      obtain ⟨qa, da, rfl⟩ := own_sl hrow
      go_wp2_with fail
      go_ret
      exact ⟨_, rfl, own_sh hrow, below_on hbel (below_on (bel_alloc (Below.refl _ _) _) hb2)⟩
end Go.Proofs.Ytknpnjhedfdggaa
