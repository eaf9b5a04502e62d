/- crowdOf and list of package roster. -/
import Derived.Test.YtefpdcpcjfjblaaCrw
namespace Go.Proofs.Ytefpdcpcjfjblaa
open Go.RowKit Go.Sort Go.Maps Go.WideMaps

theorem info3 : (Try.prog.info? 3).map (fun i => (i.zero, i.size, i.bytes)) = some (some (.int .i64 0), 1, 8) := by kernel_rfl
theorem law3 : Keyed Try.prog 3 := int_keyed Try.underlying3
/-- The map at b has these numbers. -/
def Crowd (w : World) (b n : Nat) (S : List Int) : Prop := ∃ D : DataW Unit, w.ownsMap Try.prog 3 (unitElem (H := Unit)) b n D ∧ ∀ x, Maps.has D (.int .i64 x) = true ↔ x ∈ S
theorem Crowd.put {D : DataW Unit} {S : List Int} (hD : IsMap D) (h : ∀ x, Maps.has D (.int .i64 x) = true ↔ x ∈ S) (y : Int) : ∀ x, Maps.has (D.put (.int .i64 y) (.agg [])) (.int .i64 x) = true ↔ x ∈ S ++ [y] := fun x => by
  by_cases e : x = y
  · subst e
    rw [has_put_same hD (by trivial)]
    simp
  · rw [has_put_other (fun h => e (by injection h)), h x]
    simp [e]
theorem Crowd.del {D : DataW Unit} {S : List Int} (h : ∀ x, Maps.has D (.int .i64 x) = true ↔ x ∈ S) (y : Int) : ∀ x, Maps.has (D.del (.int .i64 y)) (.int .i64 x) = true ↔ x ∈ S.filter (fun z => decide (z ≠ y)) := fun x => by
  by_cases e : x = y
  · subst e
    rw [has_del_same]
    simp
  · rw [has_del_other (fun h => e (by injection h)), h x]
    simp [e]
def CrPost (S : List Int) (k : Nat) (w : World) (e : Ending) (w' : World) : Prop := ∃ b, e = .returned (.map (some b)) ∧ w.heap.size ≤ b ∧ Crowd w' b k S ∧ Below w.heap.size w w'
/-- A number that a machine holds. -/
def I64 (x : Int) : Prop := (Lit.int .i64 x).wf = true
theorem i64_of {x : Int} (h1 : -9223372036854775808 ≤ x) (h2 : x ≤ 9223372036854775807) : I64 x := by
  have e1 : IntKind.i64.min = -9223372036854775808 := rfl
  have e2 : IntKind.i64.max = 9223372036854775807 := rfl
  show (decide (IntKind.i64.min ≤ x) && decide (x ≤ IntKind.i64.max)) = true
  rw [e1, e2, decide_eq_true h1, decide_eq_true h2]
  rfl
set_option maxHeartbeats 2000000 in
set_option maxRecDepth 100000 in
theorem crowdOf_any (l : List Int) (sv : Value) (w : World) (h : IHas w sv l) (hx : ∀ x ∈ l, I64 x) (hl : l.length ≤ 100) : Calls Try.prog 20 #[sv] w (CrPost l l.length w) := by
  obtain ⟨q, c, rfl⟩ := SHas.slice h
  have H : Hid (IHas w (.slice q l.length c) l) := h
  have HX : Hid (∀ x ∈ l, I64 x) := hx
  clear h hx
  have hmm := @run_makeMap Try.prog
  go_enter Try.func20, Try.ntmps20
  go_wp2
  go_loopw [9] (fun vi wr => ∃ k : Nat, vi = .int .i64 k ∧ k ≤ l.length ∧ Crowd wr w.heap.size k (l.take k) ∧ Below w.heap.size w wr) (fun vi _ => l.length - (intOf vi).toNat)
  case atStart => exact ⟨0, rfl, by omega, ⟨_, World.ownsMap_made _ _ _ _, fun x => by simp [has_eq]⟩, bel_alloc (Below.refl _ _) _⟩
  case round =>
    obtain ⟨k, rfl, hk, ⟨D, hown, hS⟩, hbel⟩ := hrel
    by_cases hlt : k < l.length
    · have hlt' : (k : Int) < (l.length : Int) := by omega
      obtain ⟨g, o, rfl, hd0⟩ := H.out.at k hlt
      have c1 := cell_later hbel (hd0 k hlt)
      have hx := HX.out l[k] (List.getElem_mem _)
      have HS := Crowd.put hown.isMap hS l[k]
      rw [← List.take_succ_eq_append_getElem hlt] at HS
      clear hd0 H HX hS
      generalize l[k] = x at c1 hx HS
      have HS' : Hid (∀ z, Maps.has (D.put (.int .i64 x) (.agg [])) (.int .i64 z) = true ↔ z ∈ l.take (k + 1)) := HS
      have hkey : keyOf Try.prog 3 (.int .i64 x) = some (.int .i64 x) := keyOf_int_mk Try.underlying3 hx
      clear HS
      go_wp2_with (first
        | (at_mapUpdate; refine wpList_mapUpdate_own _ rfl _ _ _ 48 rfl 3 54 law3 Try.underlying48 (unitElem (H := Unit)) w.heap.size k _ rfl hown (by unfold maxLen; omega) _ _ _ rfl rfl hkey _ [] unitElem_mk ?_; intro w2 hown2 hgrow2))
      go_roundw
      case rel => exact ⟨k + 1, by simp, by omega, ⟨_, hown2, HS'.out⟩, hbel.grown hgrow2 hbel.size (fun j hj => by cases hj; exact Nat.le_refl _)⟩
      case measure => simp [intOf]; omega
    · have hlt' : ¬ (k : Int) < (l.length : Int) := by omega
      obtain rfl : k = l.length := by omega
      rw [List.take_length] at hS
      clear H HX hmm
      go_wp2_with fail
      go_ret
      exact ⟨_, rfl, Nat.le_refl _, ⟨D, hown, hS⟩, hbel⟩

/-- A new slice of these numbers. -/
def IPost (s : List Int) (w : World) (e : Ending) (w' : World) : Prop := ∃ u, e = .returned u ∧ IHas w' u s ∧ Below w.heap.size w w'
theorem vals_map (l : List Int) : vals l = l.map (Value.int .i64) := rfl
/-- What was met so far. -/
def Col (S : List Int) (left : Lit → Bool) (ss : List Int) : Prop := ss.Nodup ∧ ∀ x, x ∈ ss ↔ x ∈ S ∧ left (.int .i64 x) = false
theorem Col.step {S : List Int} {left : Lit → Bool} {ss : List Int} (h : Col S left ss) {x : Int} (hx : x ∈ S) (hl : left (.int .i64 x) = true) : Col S (fun z => left z && !z.sameKey (.int .i64 x)) (ss ++ [x]) := by
  refine ⟨List.nodup_append.2 ⟨h.1, by simp, fun a ha b hb e => ?_⟩, fun y => ?_⟩
  · rw [List.mem_singleton.1 hb] at e
    rw [e, h.2, hl] at ha
    cases ha.2
  · have e : Lit.sameKey (.int .i64 y) (.int .i64 x) = decide (y = x) := by
      by_cases e : y = x
      · subst e
        simp [Lit.sameKey]
      · simp [Lit.sameKey, e]
    show _ ↔ y ∈ S ∧ (left (.int .i64 y) && !Lit.sameKey (.int .i64 y) (.int .i64 x)) = false
    rw [List.mem_append, List.mem_singleton, h.2, e]
    by_cases e : y = x
    · subst e
      simp [hx]
    · simp [e]
set_option maxHeartbeats 2000000 in
set_option maxRecDepth 100000 in
theorem list_any (b n : Nat) (S s : List Int) (w : World) (h : Crowd w b n S) (hn : n ≤ 1000) (hs : Up s) (hss : ∀ x, x ∈ s ↔ x ∈ S) : Calls Try.prog 21 #[.map (some b)] w (IPost s w) := by
  obtain ⟨i0, hi, hz0, hz1, hz2⟩ := info_parts info3
  obtain ⟨D, hown, hS⟩ := h
  have hbl := hown.lt
  have hsz := hown.size_le
  have HS : Hid (∀ x, Maps.has D (.int .i64 x) = true ↔ x ∈ S) := hS
  have HSS : Hid (Up s ∧ ∀ x, x ∈ s ↔ x ∈ S) := ⟨hs, hss⟩
  clear hS hs hss
  go_enter Try.func21, Try.ntmps21
  go_wp2_with (first
    | (at_range; refine wpList_range_own _ rfl _ 48 rfl 3 54 law3 Try.underlying48 _ b n _ rfl hown ?_; intro w0 hrg0 hg0 hs0)
    | go_in)
  go_frame
  have HC : Hid (Col S (Maps.has D) []) := by
    refine ⟨List.nodup_nil, fun x => ?_⟩
    constructor
    · intro hx
      cases hx
    · rintro ⟨h1, h2⟩
      rw [(HS.out x).2 h1] at h2
      cases h2
  go_loopw [3] (fun v wr => ∃ (left : Lit → Bool) (cnt : Nat) (ss : List Int), wr.ranges Try.prog 3 (unitElem (H := Unit)) b w.heap.size n D left cnt ∧ ss.length + cnt ≤ Maps.size D ∧
      wr.ownsRow w.heap.size 3 1 v ss.length (ss.map (Value.int .i64)) ∧ Hid (Col S left ss) ∧ Below w.heap.size w wr)
    (fun _ wr => wr.rangeLeft b w.heap.size)
  case atStart => exact ⟨_, _, [], hrg0, by simp, ⟨rfl, .inl ⟨rfl, rfl⟩⟩, HC, (Below.refl _ _).grown hg0 (Nat.le_refl _) (fun j hj => by cases hj)⟩
  case round =>
    obtain ⟨left, cnt, ss, hrg, hcs, hrow, HCC, hnx⟩ := hrel
    clear HC
    go_wp2_with (first
      | (at_next; refine wpList_next_ranges _ rfl _ rfl 3 law3 (unitElem (H := Unit)) (Value.int .i64) (fun _ : Unit => Value.agg #[]) (fun key kl hk => by obtain ⟨x, rfl, _⟩ := Maps.keyOf_int_inv Try.underlying3 hk; exact ⟨x, rfl⟩) (fun v y hv => ⟨(), (unitElem_inv hv).1⟩) b w.heap.size n _ _ _ rfl hrg ?_ ?_)
      | go_in)
    · intro hc0 hl0
      have hE : ss.mergeSort (fun x y => decide (x ≤ y)) = s := sort_up HCC.out.1 HSS.out.1 fun x => by
        rw [HCC.out.2, HSS.out.2, hl0]
        simp
      rcases hrow.2 with ⟨rfl, hnil⟩ | ⟨g, cap, cur, rfl, hbase, hb, h1, h2, h3, h4⟩
      · have he : ss = [] := List.length_eq_zero_iff.1 hnil
        subst he
        have hc := Any.slices_Sort_int_none sortL none 0 wr
        go_wp2_with (go_at_call 27; refine hc.mono ?_; rintro e w' ⟨rfl, rfl⟩)
        go_ret
        obtain rfl : s = [] := by
          rw [← hE]
          simp
        exact ⟨_, rfl, SHas.nil _ _, hnx⟩
      · have hH : Holds (Value.int .i64) wr g 0 ss.toArray := holds_of_blockI hb (by simpa using h4)
        have hgl : g < wr.heap.size := (Array.getElem?_eq_some_iff.1 hb).1
        have hc := Any.slices_Sort_int sortL g 0 cap ss wr hH hgl (by omega)
        rw [hE] at hc
        have hsl : s.length = ss.length := by rw [← hE, List.length_mergeSort]
        go_wp2_with (go_at_call 27; refine hc.mono ?_; rintro e w' ⟨rfl, nn, os, rfl⟩)
        go_ret
        refine ⟨_, rfl, ?_, hnx.grown (grownBy_sortedI _) hnx.size (fun j hj => by cases hj; exact hbase)⟩
        have ho := ownsRow_sortedI (n := nn) (os := os) hsl hbase hb h1 h2 h3
        unfold IHas
        rw [hsl]
        exact own_sh ho
    · intro x c kl y w2 cnt2 hkey hlk hv hat hrg2 hlt hg2 hs2 hen
      obtain ⟨x', ex, rfl, _⟩ := Maps.keyOf_int_inv Try.underlying3 hkey
      obtain rfl : x = x' := by injection ex
      have hrow2 := hrow.kept hg2 (Or.inr (row_ne_iter hrow hrg).symm)
      have HC2 : Hid (Col S (fun z => left z && !z.sameKey (.int .i64 x)) (ss ++ [x])) := HCC.out.step ((HS.out x).1 (has_true_of_atKey hat)) hlk
      clear hs2 HCC
      go_wp2_with (first
        | (at_builtin; refine wpList_append_own _ rfl _ _ 22 rfl w.heap.size 3 i0 (.int .i64 0) 1 8 Try.underlying22 hi hz0 hz1 hz2 rfl (by decide) _ _ _ rfl (hrow2.alloc _) ⟨w2.heap.size, 0, none⟩ 1 1 [.int .i64 x] rfl rfl (cell_one_new _ _ _) (by simp [Value.oneCell']) (by unfold maxLen at *; omega) (by omega) (by have := hnx.size; have := hg2.size; simp; omega) ?_; intro v' w3 hown' hg3 hnil3; go_frame)
        | go_in)
      have hrg3 := (hrg2.alloc _).kept hg3 (row_ne_low hrow2 hbl) (row_ne_iter hrow2 hrg2)
      go_roundw
      case rel =>
        refine ⟨_, cnt2, ss ++ [x], hrg3, by simp; omega, by simpa using hown', HC2, ?_⟩
        exact ((hnx.grown hg2 hnx.size (fun j hj => by cases hj; exact Nat.le_refl _)).alloc (by have := hnx.size; have := hg2.size; omega) _).grown hg3 (by have := hnx.size; have := hg2.size; simp; omega) (fun j hj => (hrow2.lt j hj).1)
      case measure => rw [hrg3.left_eq, hrg.left_eq]; exact hlt
end Go.Proofs.Ytefpdcpcjfjblaa
