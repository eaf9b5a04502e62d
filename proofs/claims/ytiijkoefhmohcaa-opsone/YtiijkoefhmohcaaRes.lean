/- Resolve of package ops. -/
import Derived.Test.YtiijkoefhmohcaaTx
import Derived.Laws.AppendOwnNone
namespace Go.Proofs.Ytiijkoefhmohcaa
open Go.RowKit

/-- A slice of ops that is nil, or lies somewhere. -/
def OIs (w : World) (v : Value) (l : List O) : Prop := l.length ≤ maxLen ∧ ((v = .slice none 0 0 ∧ l = []) ∨ ∃ ad c, v = .slice (some ad) l.length c ∧ (0 < l.length → ∃ g o, ad = ⟨g, o, none⟩ ∧ ∀ i (h : i < l.length), w.rangeAt g (o + i * 10) l[i].cells))
theorem OIs.has {w : World} {v : Value} {l : List O} (h : OIs w v l) : OHas w v l := by
  obtain ⟨hm, ⟨rfl, rfl⟩ | ⟨ad, c, rfl, hd⟩⟩ := h
  · exact ⟨none, 0, rfl, hm, fun h => by simp at h⟩
  · refine ⟨_, c, rfl, hm, fun h => ?_⟩
    obtain ⟨g, o, rfl, hd2⟩ := hd h
    exact ⟨g, o, rfl, hd2⟩
theorem OIs.later {w w' : World} {v : Value} {l : List O} (h : OIs w v l) (hb : Below w.heap.size w w') : OIs w' v l := by
  obtain ⟨hm, ⟨rfl, rfl⟩ | ⟨ad, c, rfl, hd⟩⟩ := h
  · exact ⟨hm, .inl ⟨rfl, rfl⟩⟩
  · refine ⟨hm, .inr ⟨ad, c, rfl, fun h => ?_⟩⟩
    obtain ⟨g, o, rfl, hd2⟩ := hd h
    exact ⟨g, o, rfl, fun i hi => range_later (hd2 i hi) hb⟩
/-- Ops as cells. -/
def ocel (l : List O) : List Value := l.flatMap O.cells
theorem ocel_append (a b : List O) : ocel (a ++ b) = ocel a ++ ocel b := by simp [ocel]
theorem ocel_cons (x : O) (l : List O) : ocel (x :: l) = x.cells ++ ocel l := rfl
theorem ocel_length (l : List O) : (ocel l).length = l.length * 10 := by
  induction l with
  | nil => rfl
  | cons d l ih =>
    rw [ocel_cons, List.length_append, ih, O.cells_length, List.length_cons]
    omega
theorem ocel_at : ∀ (l : List O) (i : Nat) (h : i < l.length) (j : Nat) (u : Value), l[i].cells[j]? = some u → (ocel l)[i * 10 + j]? = some u
  | x :: l, 0, _, j, u, hu => by
    have hj : j < x.cells.length := (List.getElem?_eq_some_iff.1 hu).1
    rw [ocel_cons, Nat.zero_mul, Nat.zero_add, List.getElem?_append_left hj]
    exact hu
  | x :: l, i + 1, h, j, u, hu => by
    have := ocel_at l i (by simpa using h) j u hu
    rw [ocel_cons, List.getElem?_append_right (by rw [O.cells_length]; omega), O.cells_length, show (i + 1) * 10 + j - 10 = i * 10 + j by omega]
    exact this
theorem O.one (x : O) : ∀ u ∈ x.cells, u.oneCell' = true := by
  intro u hu
  simp only [List.mem_cons, List.not_mem_nil, or_false] at hu
  rcases hu with rfl | rfl | rfl | rfl | rfl | rfl | rfl | rfl | rfl | rfl <;> rfl
theorem ocel_one (l : List O) : ∀ u ∈ ocel l, u.oneCell' = true := by
  intro u hu
  obtain ⟨x, _, hx⟩ := List.mem_flatMap.1 hu
  exact x.one u hx
theorem own_ois {w : World} {B : Nat} {v : Value} {l : List O} {n : Nat} (hn : n = l.length) (h : w.ownsRow B 35 10 v n (ocel l)) (hm : l.length ≤ maxLen) : OIs w v l := by
  subst hn
  rcases h.2 with ⟨rfl, h0⟩ | ⟨g, cap, cur, rfl, hbg, hg, hnc, hcm, hcs, htake⟩
  · exact ⟨hm, .inl ⟨rfl, List.length_eq_zero_iff.1 h0⟩⟩
  · refine ⟨hm, .inr ⟨_, cap, rfl, fun _ => ⟨g, 0, rfl, fun i hi j u hu => ?_⟩⟩⟩
    have hc := h.cells (g := g) rfl
    have h1 := hc _ _ (ocel_at l i hi j u hu)
    rw [Addr.add_mid] at h1
    rw [show 0 + i * 10 + j = 0 + (i * 10 + j) by omega]
    exact h1
theorem info35 : (Try.prog.info? 35).map (fun i => (i.zero, i.size, i.bytes)) = some (some (OV 0 noS noS 0 0 0 noS 0 0 0), 10, 104) := by kernel_rfl
theorem Rw.grown {w w' : World} {b : Nat} {t : TypeId} {cs : Array Value} {row : Option Nat} (h : Rw w b t cs) (hg : w.grownBy w' row) (hne : ∀ k, row = some k → b < k) : Rw w' b t cs :=
  (hg.block b h.lt (fun e => by have := hne b e.symm; omega)).trans h
theorem own_slice {w : World} {B n : Nat} {v : Value} {xs : List Value} (h : w.ownsRow B 35 10 v n xs) : ∃ p c, v = .slice p n c := by
  rcases h.2 with ⟨rfl, rfl⟩ | ⟨g, cap, cur, rfl, _⟩
  · exact ⟨none, 0, rfl⟩
  · exact ⟨_, _, rfl⟩
theorem cells_new (w : World) (cs : List Value) (t : TypeId) (j : Nat) : (w.alloc (.cells cs.toArray t)).cell? ((⟨w.heap.size, 0, none⟩ : Addr).add j) = cs[j]? := by
  rw [Addr.add_mid, Nat.zero_add, cell_of_row _ _ j _ t (0, 0) (heap_alloc_last w _)]
  simp
theorem cells_next (w : World) {b : Nat} (hb : b = w.heap.size) (cs : List Value) (t : TypeId) (j : Nat) : (w.alloc (.cells cs.toArray t)).cell? ((⟨b, 0, none⟩ : Addr).add j) = cs[j]? := by subst hb; exact cells_new w cs t j

/-- What becomes of an op, of a row of them. -/
def rv (a b : Int) (x : O) : O := if (z2 x.p x.s && !decide (x.i = 0)) = true then { x with p := a, s := b } else x
def rvs (a b : Int) (l : List O) : List O := l.map (rv a b)
/-- A slice that holds these. -/
def Fr (w : World) (u : Value) : Prop := ∀ a n c, u = .slice (some a) n c → w.heap.size ≤ a.block
def RsPost (l : List O) (w : World) (e : Ending) (w' : World) : Prop := ∃ u, e = .returned u ∧ OIs w' u l ∧ Fr w u ∧ Below w.heap.size w w'
theorem own_fr {w w1 : World} {B n : Nat} {v : Value} {xs : List Value} (h : w1.ownsRow B 35 10 v n xs) (hB : w.heap.size ≤ B) : Fr w v := by
  intro a m c e
  rcases h.2 with ⟨rfl, _⟩ | ⟨g, cap, cur, rfl, hbg, _⟩
  · simp at e
  · simp only [Value.slice.injEq, Option.some.injEq] at e
    rw [← e.1]
    exact Nat.le_trans hB hbg
set_option maxRecDepth 100000 in
theorem isOwn_l (p s i : Int) (w : World) : Calls Try.prog 24 #[MV p s i] w (Leaves (.bool (z2 p s && !decide (i = 0))) (w.alloc (.cells #[.int .i64 p, .int .i64 s, .int .i64 i] 33))) := by
  have E := fun w => eq_dot w p s 0 0
  unfold z2
  generalize (decide (p = 0) && decide (s = 0)) = x at E ⊢
  cases x
  all_goals
    go_enter Try.func24, Try.ntmps24
    go_wp2
    go_ret
    exact ⟨by simp; first | done | rfl | (congr 1; grind), rfl⟩

set_option maxHeartbeats 4000000 in
set_option maxRecDepth 100000 in
theorem resolve_any (v : Value) (l : List O) (a b : Int) (w : World) (ho : OIs w v l) (h40 : l.length ≤ 40) : Calls Try.prog 9 #[v, D a b] w (RsPost (rvs a b l) w) := by
  obtain ⟨i0, hi, hz0, hz1, hz2⟩ := info_parts info35
  obtain ⟨q, c, rfl, hm, hr⟩ := ho.has
  have HR : Hid (0 < l.length → ∃ g o, q = some ⟨g, o, none⟩ ∧ ∀ i (h : i < l.length), w.rangeAt g (o + i * 10) l[i].cells) := hr
  clear hr ho
  have R := rw_new w 23 #[.int .i64 a, .int .i64 b]
  have hbel : Below w.heap.size w (w.alloc (.cells #[.int .i64 a, .int .i64 b] 23)) := bel_alloc (Below.refl _ _) _
  generalize hW : w.alloc (.cells #[.int .i64 a, .int .i64 b] 23) = w0 at R hbel
  go_enter Try.func9, Try.ntmps9
  go_wp2_with (rw [hW])
  clear hW
  go_loopw [5, 10] (fun vn vi wr => ∃ k : Nat, vi = .int .i64 k ∧ k ≤ l.length ∧ wr.ownsRow (w.heap.size + 1) 35 10 vn k (ocel (rvs a b (l.take k))) ∧ Rw wr w.heap.size 23 #[.int .i64 a, .int .i64 b] ∧ Below w.heap.size w wr) (fun _ vi _ => l.length - (intOf vi).toNat)
  case atStart => exact ⟨0, rfl, by omega, World.ownsRow_nil _ _ _ _, R, hbel⟩
  case round =>
    clear R hbel
    obtain ⟨k, rfl, hk, hown, R, hbel⟩ := hrel
    obtain ⟨P, C, rfl⟩ := own_slice hown
    by_cases hlt : k < l.length
    · have hlt' : (k : Int) < (l.length : Int) := by omega
      obtain ⟨g, o, rfl, hd⟩ := HR.out (by omega)
      have d := range_later (hd k hlt) hbel
      clear HR hd
      have hk40 : k < 40 := by omega
      obtain ⟨x, HX⟩ := hid_ex l[k]
      rw [HX.out] at d
      have z35 : (Try.prog.info? 35).map (·.size) = some x.cells.length := size35
      have hlt5 := hown.lt
      have hsz := hbel.size
      have hR := R.lt
      have C1 := fun w => isOwn_l x.p x.s x.i w
      obtain ⟨y, HY⟩ := hid_ex (z2 x.p x.s && !decide (x.i = 0))
      rw [HY.out] at C1
      cases y
      · have HN : Hid (rvs a b (l.take (k + 1)) = rvs a b (l.take k) ++ [x]) := by
          show _ = _
          rw [List.take_succ_eq_append_getElem hlt, HX.out]
          unfold rvs rv
          rw [List.map_append, List.map_cons, List.map_nil, HY.out]
          rfl
        clear HX HY
        go_wp2_with (refine load_m 35 _ rfl rfl _ _ rfl d Try.underlying35 rfl z35 ?_)
        refine (C1 _).mono ?_
        rintro e w1 ⟨rfl, rfl⟩
        go_wp2_with (first | (at_builtin; refine wpList_append_own _ rfl _ _ 26 rfl (w.heap.size + 1) 35 i0 (OV 0 noS noS 0 0 0 noS 0 0 0) 10 104 Try.underlying26 hi hz0 hz1 hz2 rfl (by decide) _ _ _ rfl (((hown.alloc _).alloc _).alloc _) ⟨wr.heap.size + 2, 0, none⟩ 1 1 x.cells rfl rfl ?c1 ?c2 ?c3 ?c4 ?c5 ?_))
        case c1 => exact fun q u hq => (cells_next _ (by simp) _ _ _).trans hq
        case c2 => exact x.one
        case c3 => unfold maxLen; omega
        case c4 => omega
        case c5 => simp; omega
        intro v2 w2 hown6 hg6 _
        go_wp2_with fail
        go_roundw
        case rel =>
          refine ⟨k + 1, by simp, by omega, ?_, (((R.alloc _).alloc _).alloc _).grown hg6 (fun q hq => by have := (hlt5 q hq).1; omega), (bel_alloc (bel_alloc (bel_alloc hbel _) _) _).grown hg6 (by simp; omega) (fun q hq => by have := (hlt5 q hq).1; omega)⟩
          rw [HN.out, ocel_append]
          simpa [ocel] using hown6
        case measure => simp [intOf]; omega
      · have HN : Hid (rvs a b (l.take (k + 1)) = rvs a b (l.take k) ++ [{ x with p := a, s := b }]) := by
          show _ = _
          rw [List.take_succ_eq_append_getElem hlt, HX.out]
          unfold rvs rv
          rw [List.map_append, List.map_cons, List.map_nil, HY.out]
          rfl
        clear HX HY
        go_wp2_with (refine load_m 35 _ rfl rfl _ _ rfl d Try.underlying35 rfl z35 ?_)
        refine (C1 _).mono ?_
        rintro e w1 ⟨rfl, rfl⟩
        go_wp2_with (first | refine load_r 23 _ rfl rfl _ rfl ((R.alloc _).alloc _) Try.underlying23 rfl size23 ?_ | (at_builtin; refine wpList_append_own _ rfl _ _ 26 rfl (w.heap.size + 1) 35 i0 (OV 0 noS noS 0 0 0 noS 0 0 0) 10 104 Try.underlying26 hi hz0 hz1 hz2 rfl (by decide) _ _ _ rfl (((hown.alloc _).alloc _).alloc _) ⟨wr.heap.size + 2, 0, none⟩ 1 1 (O.cells { x with p := a, s := b }) rfl rfl ?c1 ?c2 ?c3 ?c4 ?c5 ?_))
        case c1 => exact fun q u hq => (cells_next _ (by simp) _ _ _).trans hq
        case c2 => exact O.one _
        case c3 => unfold maxLen; omega
        case c4 => omega
        case c5 => simp; omega
        intro v2 w2 hown6 hg6 _
        go_wp2_with fail
        go_roundw
        case rel =>
          refine ⟨k + 1, by simp, by omega, ?_, (((R.alloc _).alloc _).alloc _).grown hg6 (fun q hq => by have := (hlt5 q hq).1; omega), (bel_alloc (bel_alloc (bel_alloc hbel _) _) _).grown hg6 (by simp; omega) (fun q hq => by have := (hlt5 q hq).1; omega)⟩
          rw [HN.out, ocel_append]
          simpa [ocel] using hown6
        case measure => simp [intOf]; omega
    · have hlt' : ¬ (k : Int) < (l.length : Int) := by omega
      obtain rfl : k = l.length := by omega
      rw [List.take_length] at hown
      have hl : l.length = (rvs a b l).length := by simp [rvs]
      have hres := own_ois hl hown (by rw [← hl]; exact hm)
      have hfr := own_fr (w := w) hown (by omega)
      clear HR hown hl
      go_wp2_with fail
      go_ret
      exact ⟨_, rfl, hres, hfr, hbel⟩
end Go.Proofs.Ytiijkoefhmohcaa
