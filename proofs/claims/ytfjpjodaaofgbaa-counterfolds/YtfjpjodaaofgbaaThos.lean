/- The closures of Clear and Fold of package counter, and those. -/
import Derived.Test.YtfjpjodaaofgbaaRd
namespace Go.Proofs.Ytfjpjodaaofgbaa
open Go.RowKit

theorem own_later {w w' : World} {B e S n : Nat} {v : Value} {xs : List Value} (h : w.ownsRow B e S v n xs) (hb : Below w.heap.size w w') : w'.ownsRow B e S v n xs := by
  obtain ⟨h1, ⟨rfl, h0⟩ | ⟨g, cap, cur, rfl, hbg, hg, h2⟩⟩ := h
  · exact ⟨h1, .inl ⟨rfl, h0⟩⟩
  · exact ⟨h1, .inr ⟨g, cap, cur, rfl, hbg, (hb.block g (Array.getElem?_eq_some_iff.1 hg).1).trans hg, h2⟩⟩
set_option maxHeartbeats 1000000 in
set_option maxRecDepth 100000 in
theorem clear1_any (p s i n : Int) (bt bi : Nat) (q u : Int) (v : List Int) (t : Int) (sl : Value) (idx : Int) (w : World) (hv : v.length = 13) (R : Rw w bt 34 (txc q u v t sl).toArray) (c : w.cell? ⟨bi, 0, none⟩ = some (.int .i64 idx)) :
    Calls Try.prog 27 #[AV p s i n, .pointer (some ⟨bt, 0, none⟩), .pointer (some ⟨bi, 0, none⟩)] w (Tells (.bool (!bf p s i q u v idx)) w) := by
  have C1 := fun w => before_any p s i q u v t sl idx w hv
  generalize bf p s i q u v idx = y at C1 ⊢
  have hbel := bel_alloc (Below.refl w.heap.size w) (.cells #[.int .i64 p, .int .i64 s, .int .i64 i, .int .i64 n] 42)
  have R0 := rw_new w 42 #[.int .i64 p, .int .i64 s, .int .i64 i, .int .i64 n]
  have R1 := R.later hbel
  have c1 := cell_later hbel c
  generalize hW : w.alloc (.cells #[.int .i64 p, .int .i64 s, .int .i64 i, .int .i64 n] 42) = w0 at hbel R0 R1 c1
  have d0 := A.mark (x := ⟨p, s, i, n⟩) (Rw.whole R0)
  have zm : (Try.prog.info? 40).map (·.size) = some [Value.int .i64 p, .int .i64 s, .int .i64 i].length := size40
  have zt := size_tx (p := q) (s := u) (t := t) (sl := sl) hv
  go_enter Try.func27, Try.ntmps27
  go_wp2_with (first | rw [hW] | refine load_m 40 _ rfl rfl _ _ rfl d0 Try.underlying40 rfl zm ?_ | refine load_r 34 _ rfl rfl _ rfl R1 Try.underlying34 rfl zt ?_)
  refine (C1 _).mono ?_
  rintro e w1 ⟨rfl, hb1⟩
  go_wp2_with fail
  go_ret
  exact ⟨rfl, below_on hbel hb1⟩
set_option maxHeartbeats 1000000 in
set_option maxRecDepth 100000 in
theorem fold1_any (p s i n : Int) (bc : Nat) (v : List Int) (w : World) (hv : v.length = 13) (R : Rw w bc 31 (vals v).toArray) :
    Calls Try.prog 40 #[AV p s i n, .pointer (some ⟨bc, 0, none⟩)] w (Tells (.bool (!hs v p s)) w) := by
  have C1 := fun w => has_any v p s w hv
  generalize hs v p s = y at C1 ⊢
  have hbel := bel_alloc (Below.refl w.heap.size w) (.cells #[.int .i64 p, .int .i64 s, .int .i64 i, .int .i64 n] 42)
  have R0 := rw_new w 42 #[.int .i64 p, .int .i64 s, .int .i64 i, .int .i64 n]
  have R1 := R.later hbel
  generalize hW : w.alloc (.cells #[.int .i64 p, .int .i64 s, .int .i64 i, .int .i64 n] 42) = w0 at hbel R0 R1
  have d0 : w0.rangeAt w.heap.size 0 [.int .i64 p, .int .i64 s] := fun j u hu => (Rw.whole R0) j u (by
    match j, hu with
    | 0, hu => exact hu
    | 1, hu => exact hu
    | j + 2, hu => simp at hu)
  have zd : (Try.prog.info? 29).map (·.size) = some [Value.int .i64 p, .int .i64 s].length := size29
  have zv : (Try.prog.info? 31).map (·.size) = some (vals v).toArray.size := by rw [List.size_toArray]; exact info31 hv
  go_enter Try.func40, Try.ntmps40
  go_wp2_with (first | rw [hW] | refine load_m 29 _ rfl rfl _ _ rfl d0 Try.underlying29 rfl zd ?_ | refine load_r 31 _ rfl rfl _ rfl R1 Try.underlying31 rfl zv ?_)
  refine (C1 _).mono ?_
  rintro e w1 ⟨rfl, hb1⟩
  go_wp2_with fail
  go_ret
  exact ⟨rfl, below_on hbel hb1⟩
/-- A row of its own that holds these amounts. -/
def ThPost (l : List A) (w : World) (e : Ending) (w' : World) : Prop := ∃ u, e = .returned u ∧ w'.ownsRow w.heap.size 42 4 u l.length (rows A.cells l) ∧ Below w.heap.size w w'
set_option maxHeartbeats 2000000 in
set_option maxRecDepth 100000 in
theorem those27_any (v : Value) (l : List A) (f : A → Bool) (b1 b2 : Nat) (w : World) (h : AHas w v l) (hl : l.length ≤ 100) (C : ∀ (x : A) (w' : World), Below w.heap.size w w' → Calls Try.prog 27 #[AV x.p x.s x.i x.n, .pointer (some ⟨b1, 0, none⟩), .pointer (some ⟨b2, 0, none⟩)] w' (Tells (.bool (f x)) w')) :
    Calls Try.prog 30 #[v, .func (.func 27) #[] #[.pointer (some ⟨b1, 0, none⟩), .pointer (some ⟨b2, 0, none⟩)]] w (ThPost (l.filter f) w) := by
  obtain ⟨i0, hi, hz0, hz1, hz2⟩ := info_parts info42
  obtain ⟨pa, ca', rfl⟩ := h.slice
  have HA : Hid (AHas w (.slice pa l.length ca') l) := h
  clear h
  go_enter Try.func30, Try.ntmps30
  go_wp2
  go_loopw [5, 10] (fun vn vi wr => ∃ k : Nat, vi = .int .i64 k ∧ k ≤ l.length ∧ wr.ownsRow w.heap.size 42 4 vn ((l.take k).filter f).length (rows A.cells ((l.take k).filter f)) ∧ Below w.heap.size w wr) (fun _ vi _ => l.length - (intOf vi).toNat)
  case atStart => exact ⟨0, rfl, by omega, World.ownsRow_nil _ _ _ _, Below.refl _ _⟩
  case round =>
    obtain ⟨k, rfl, hk, hown, hbel⟩ := hrel
    obtain ⟨P, cc, rfl⟩ := own_sl hown
    by_cases hlt : k < l.length
    · have hlt' : (k : Int) < (l.length : Int) := by omega
      obtain ⟨g, o, rfl, hd0⟩ := HA.out.at (by omega)
      have d := AHas.elem (range_later hd0 hbel) k hlt
      clear hd0 HA
      obtain ⟨x, HX⟩ := hid_ex l[k]
      rw [HX.out] at d
      have z42 : (Try.prog.info? 42).map (·.size) = some x.cells.length := size42
      have hf100 : ((l.take k).filter f).length ≤ 100 := by
        have h1 := List.length_filter_le f (l.take k)
        rw [List.length_take] at h1
        omega
      have HT : Hid ((l.take (k + 1)).filter f = (l.take k).filter f ++ [x].filter f) := by
        show _ = _
        rw [List.take_succ_eq_append_getElem hlt, List.filter_append, HX.out]
      obtain ⟨m, HM⟩ := hid_ex ((l.take k).filter f)
      rw [HM.out] at hown hf100 HT
      rw [HM.out]
      have hsz := hbel.size
      have hlt5 := hown.lt
      replace hown := hown.alloc (.cells #[.int .i64 x.p, .int .i64 x.s, .int .i64 x.i, .int .i64 x.n] 42)
      have R := rw_new wr 42 #[.int .i64 x.p, .int .i64 x.s, .int .i64 x.i, .int .i64 x.n]
      have hbel1 := bel_alloc hbel (.cells #[.int .i64 x.p, .int .i64 x.s, .int .i64 x.i, .int .i64 x.n] 42)
      have Cx := C x _ hbel1
      obtain ⟨y, HY⟩ := hid_ex (f x)
      rw [HY.out] at Cx
      clear C
      go_wp2_with (refine load_m 42 _ rfl rfl _ _ rfl d Try.underlying42 rfl z42 ?_)
      refine Cx.mono ?_
      clear Cx
      rintro e w1 ⟨rfl, hb1⟩
      replace hown := own_later hown hb1
      replace R := R.later hb1
      replace hbel1 := below_on hbel1 hb1
      cases y
      · go_wp2_with fail
        go_roundw
        case rel =>
          refine ⟨k + 1, by simp, by omega, ?_, hbel1⟩
          rw [HT.out, List.filter_cons_of_neg (by rw [HY.out]; simp), List.filter_nil, List.append_nil]
          exact hown
        case measure => simp [intOf]; omega
      · go_wp2_with (first | refine load_r 42 _ rfl rfl _ rfl R Try.underlying42 rfl size42 ?_ | (at_builtin; refine wpList_append_own _ rfl _ _ 22 rfl w.heap.size 42 i0 (AV 0 0 0 0) 4 32 Try.underlying22 hi hz0 hz1 hz2 rfl (by decide) _ _ _ rfl (hown.alloc _) ⟨w1.heap.size, 0, none⟩ 1 1 x.cells rfl rfl ?c1 ?c2 ?c3 ?c4 ?c5 ?_))
        case c1 => exact fun q u hq => (cells_next _ (by simp) _ _ _).trans hq
        case c2 => exact x.one
        case c3 => unfold maxLen; omega
        case c4 => omega
        case c5 => have := hb1.size; simp at this ⊢; omega
        intro v2 w2 hown6 hg6 _
        go_wp2_with fail
        go_roundw
        case rel =>
          refine ⟨k + 1, by simp, by omega, ?_, (bel_alloc hbel1 _).grown hg6 (by have := hb1.size; simp at this ⊢; omega) (fun q hq => (hown.lt q hq).1)⟩
          rw [HT.out, List.filter_cons_of_pos (by rw [HY.out]), List.filter_nil, rows_append, List.length_append, rows_one]
          simpa using hown6
        case measure => simp [intOf]; omega
    · have hlt' : ¬ (k : Int) < (l.length : Int) := by omega
      obtain rfl : k = l.length := by omega
      rw [List.take_length] at hown ⊢
      clear HA C
      obtain ⟨m, HM⟩ := hid_ex (l.filter f)
      rw [HM.out] at hown ⊢
      go_wp2_with fail
      go_ret
      exact ⟨_, rfl, by rw [HM.out]; exact hown, hbel⟩
set_option maxHeartbeats 2000000 in
set_option maxRecDepth 100000 in
theorem those40_any (v : Value) (l : List A) (f : A → Bool) (b1 : Nat) (w : World) (h : AHas w v l) (hl : l.length ≤ 100) (C : ∀ (x : A) (w' : World), Below w.heap.size w w' → Calls Try.prog 40 #[AV x.p x.s x.i x.n, .pointer (some ⟨b1, 0, none⟩)] w' (Tells (.bool (f x)) w')) :
    Calls Try.prog 30 #[v, .func (.func 40) #[] #[.pointer (some ⟨b1, 0, none⟩)]] w (ThPost (l.filter f) w) := by
  obtain ⟨i0, hi, hz0, hz1, hz2⟩ := info_parts info42
  obtain ⟨pa, ca', rfl⟩ := h.slice
  have HA : Hid (AHas w (.slice pa l.length ca') l) := h
  clear h
  go_enter Try.func30, Try.ntmps30
  go_wp2
  go_loopw [5, 10] (fun vn vi wr => ∃ k : Nat, vi = .int .i64 k ∧ k ≤ l.length ∧ wr.ownsRow w.heap.size 42 4 vn ((l.take k).filter f).length (rows A.cells ((l.take k).filter f)) ∧ Below w.heap.size w wr) (fun _ vi _ => l.length - (intOf vi).toNat)
  case atStart => exact ⟨0, rfl, by omega, World.ownsRow_nil _ _ _ _, Below.refl _ _⟩
  case round =>
    obtain ⟨k, rfl, hk, hown, hbel⟩ := hrel
    obtain ⟨P, cc, rfl⟩ := own_sl hown
    by_cases hlt : k < l.length
    · have hlt' : (k : Int) < (l.length : Int) := by omega
      obtain ⟨g, o, rfl, hd0⟩ := HA.out.at (by omega)
      have d := AHas.elem (range_later hd0 hbel) k hlt
      clear hd0 HA
      obtain ⟨x, HX⟩ := hid_ex l[k]
      rw [HX.out] at d
      have z42 : (Try.prog.info? 42).map (·.size) = some x.cells.length := size42
      have hf100 : ((l.take k).filter f).length ≤ 100 := by
        have h1 := List.length_filter_le f (l.take k)
        rw [List.length_take] at h1
        omega
      have HT : Hid ((l.take (k + 1)).filter f = (l.take k).filter f ++ [x].filter f) := by
        show _ = _
        rw [List.take_succ_eq_append_getElem hlt, List.filter_append, HX.out]
      obtain ⟨m, HM⟩ := hid_ex ((l.take k).filter f)
      rw [HM.out] at hown hf100 HT
      rw [HM.out]
      have hsz := hbel.size
      have hlt5 := hown.lt
      replace hown := hown.alloc (.cells #[.int .i64 x.p, .int .i64 x.s, .int .i64 x.i, .int .i64 x.n] 42)
      have R := rw_new wr 42 #[.int .i64 x.p, .int .i64 x.s, .int .i64 x.i, .int .i64 x.n]
      have hbel1 := bel_alloc hbel (.cells #[.int .i64 x.p, .int .i64 x.s, .int .i64 x.i, .int .i64 x.n] 42)
      have Cx := C x _ hbel1
      obtain ⟨y, HY⟩ := hid_ex (f x)
      rw [HY.out] at Cx
      clear C
      go_wp2_with (refine load_m 42 _ rfl rfl _ _ rfl d Try.underlying42 rfl z42 ?_)
      refine Cx.mono ?_
      clear Cx
      rintro e w1 ⟨rfl, hb1⟩
      replace hown := own_later hown hb1
      replace R := R.later hb1
      replace hbel1 := below_on hbel1 hb1
      cases y
      · go_wp2_with fail
        go_roundw
        case rel =>
          refine ⟨k + 1, by simp, by omega, ?_, hbel1⟩
          rw [HT.out, List.filter_cons_of_neg (by rw [HY.out]; simp), List.filter_nil, List.append_nil]
          exact hown
        case measure => simp [intOf]; omega
      · go_wp2_with (first | refine load_r 42 _ rfl rfl _ rfl R Try.underlying42 rfl size42 ?_ | (at_builtin; refine wpList_append_own _ rfl _ _ 22 rfl w.heap.size 42 i0 (AV 0 0 0 0) 4 32 Try.underlying22 hi hz0 hz1 hz2 rfl (by decide) _ _ _ rfl (hown.alloc _) ⟨w1.heap.size, 0, none⟩ 1 1 x.cells rfl rfl ?c1 ?c2 ?c3 ?c4 ?c5 ?_))
        case c1 => exact fun q u hq => (cells_next _ (by simp) _ _ _).trans hq
        case c2 => exact x.one
        case c3 => unfold maxLen; omega
        case c4 => omega
        case c5 => have := hb1.size; simp at this ⊢; omega
        intro v2 w2 hown6 hg6 _
        go_wp2_with fail
        go_roundw
        case rel =>
          refine ⟨k + 1, by simp, by omega, ?_, (bel_alloc hbel1 _).grown hg6 (by have := hb1.size; simp at this ⊢; omega) (fun q hq => (hown.lt q hq).1)⟩
          rw [HT.out, List.filter_cons_of_pos (by rw [HY.out]), List.filter_nil, rows_append, List.length_append, rows_one]
          simpa using hown6
        case measure => simp [intOf]; omega
    · have hlt' : ¬ (k : Int) < (l.length : Int) := by omega
      obtain rfl : k = l.length := by omega
      rw [List.take_length] at hown ⊢
      clear HA C
      obtain ⟨m, HM⟩ := hid_ex (l.filter f)
      rw [HM.out] at hown ⊢
      go_wp2_with fail
      go_ret
      exact ⟨_, rfl, by rw [HM.out]; exact hown, hbel⟩
end Go.Proofs.Ytfjpjodaaofgbaa
