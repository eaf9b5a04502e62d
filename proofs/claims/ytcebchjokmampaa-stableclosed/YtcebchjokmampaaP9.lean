import Derived.Test.YtcebchjokmampaaP8
import Derived.Test.YtcebchjokmampaaP2
import Derived.Test.YtcebchjokmampaaP7
import Derived.Deep.Slices
/- What must come at any rate, of layer 20. -/
namespace Go.Proofs.Ytcebchjokmampaa
open Go.RowKit

def v3 : Vc := ⟨[0, 3, 0, 0, 0, 0, 0, 0, 0, 0, 0, 0, 0], rfl⟩
def v5 : Vc := ⟨[0, 5, 0, 0, 0, 0, 0, 0, 0, 0, 0, 0, 0], rfl⟩
def v6 : Vc := ⟨[0, 6, 0, 0, 0, 0, 0, 0, 0, 0, 0, 0, 0], rfl⟩
def v2 : Vc := ⟨[0, 2, 0, 0, 0, 0, 0, 0, 0, 0, 0, 0, 0], rfl⟩
def M0 : List Vc := List.replicate 13 z0
def M1 : List Vc := M0.set 2 v3
theorem a1 : acb M0 2 v3 v5 = true := by kernel_rfl
theorem a2 : acb M0 2 v6 v5 = false := by kernel_rfl
theorem a3 : acb M1 2 v2 v5 = false := by kernel_rfl
theorem m1 : acM M0 2 v3 v5 = M1 := by rw [acM, if_pos a1]; rfl
theorem m2 : acM M0 2 v6 v5 = M0 := by rw [acM, if_neg (by rw [a2]; simp)]
theorem m3 : acM M1 2 v2 v5 = M1 := by rw [acM, if_neg (by rw [a3]; simp)]
theorem k1 : (cutV M1 1 v5 [1, 2]).l = v3.l := by kernel_rfl
theorem k2 : (cutV M1 1 v5 [1]).l = v5.l := by kernel_rfl
theorem k3 : (cutV M1 1 v5 []).l = zeros := by kernel_rfl
theorem ints_new (w : World) (l : List Int) (hl : l.length ≤ maxLen) : IHas (w.alloc (.cells (vals l).toArray 3)) (.slice (some ⟨w.heap.size, 0, none⟩) l.length l.length) l := by
  refine ⟨hl, by rw [vals_length, Nat.mul_one], .inr ⟨_, _, rfl, ⟨Nat.le_refl _, hl⟩, fun _ => ⟨w.heap.size, 0, rfl, ?_⟩⟩⟩
  exact (rw_new w 3 _).range 0 _ fun j u hu => by simpa using hu
theorem ints_nil (w : World) : IHas w (.slice none 0 0) [] := SHas.nil w 1
set_option maxHeartbeats 8000000 in
set_option maxRecDepth 100000 in
theorem heads20 (K1 : ∀ (M : List Vc) (p : Int) (r v : Vc) (w : World), M.length = 13 → Calls Try.prog 10 #[RV M, .int .i64 p, V r.l, V v.l] w (Tells (.tuple #[RV (acM M p r v), .bool (acb M p r v)]) w)) (K2 : ∀ (M : List Vc) (self : Int) (own : Vc) (live : List Int) (sv : Value) (w : World), M.length = 13 → IHas w sv live → Calls Try.prog 9 #[RV M, .int .i64 self, V own.l, sv] w (Tells (V (cutV M self own live).l) w)) (w : World) : Calls Try.prog 7 #[] w (Tells (.bool true) w) := by
  have h0 : M0.length = 13 := by simp [M0]
  have h1 : M1.length = 13 := by simp [M1, h0]
  have C1 := fun w' => K1 M0 2 v3 v5 w' h0
  have C2 := fun w' => K1 M0 2 v6 v5 w' h0
  have C3 := fun w' => K1 M1 2 v2 v5 w' h1
  rw [m1, a1] at C1
  rw [m2, a2] at C2
  rw [m3, a3] at C3
  have z0M := size_r h0
  have z1M := size_r h1
  have o0 := rows_one13 M0
  have o1 := rows_one13 M1
  have s01 : (rows Vc.cells M0).toArray.size = (rows Vc.cells M1).toArray.size := by rw [List.size_toArray, List.size_toArray, rows_size h0, rows_size h1]
  have B0 := rw_new w 24 zc24
  have hbel := bel_alloc (Below.refl w.heap.size w) (.cells zc24 24)
  generalize hW : w.alloc (.cells zc24 24) = w0 at B0 hbel
  rw [zero_rows] at B0
  change Rw w0 w.heap.size 24 (rows Vc.cells M0).toArray at B0
  have ZV := zv24
  have ZN := zc24_ne
  go_enter Try.func7, Try.ntmps7
  go_wp2_with (first | rw [hW] | refine load_r 24 _ rfl rfl _ rfl B0 Try.underlying24 rfl z0M ?_)
  refine (C1 _).mono ?_
  rintro e w1 ⟨rfl, hb1⟩
  replace B0 := B0.later hb1
  replace hbel := below_on hbel hb1
  have Q1 := rw_new w1 24 zc24
  have hbA := bel_alloc (Below.refl w1.heap.size w1) (.cells zc24 24)
  generalize hW1 : w1.alloc (.cells zc24 24) = w2 at Q1 hbA
  rw [zero_rows] at Q1
  change Rw w2 w1.heap.size 24 (rows Vc.cells M0).toArray at Q1
  have B1 := Q1.row (rows Vc.cells M1).toArray
  have hb2 := below_setRow hbA (Nat.le_refl _) (rows Vc.cells M1).toArray
  generalize hW2 : w2.setRow w1.heap.size (rows Vc.cells M1).toArray = w3 at B1 hb2
  replace B0 := B0.later hb2
  replace hbel := below_on hbel hb2
  go_wp2_with (first | rw [hW1] | (refine store_r rfl 24 _ _ rfl w1.heap.size _ rfl rfl Q1 z1M s01 o1 ?_; rw [hW2]) | refine load_r 24 _ rfl rfl _ rfl B0 Try.underlying24 rfl z0M ?_)
  generalize w1.heap.size = b2 at B1 ⊢
  clear hW1 hW2 Q1 hbA hb1 hb2 hW
  refine (C2 _).mono ?_
  rintro e w4 ⟨rfl, hb1⟩
  replace B1 := B1.later hb1
  replace hbel := below_on hbel hb1
  have Q1 := rw_new w4 24 zc24
  have hbA := bel_alloc (Below.refl w4.heap.size w4) (.cells zc24 24)
  generalize hW1 : w4.alloc (.cells zc24 24) = w5 at Q1 hbA
  rw [zero_rows] at Q1
  change Rw w5 w4.heap.size 24 (rows Vc.cells M0).toArray at Q1
  have hb2 := below_setRow hbA (Nat.le_refl _) (rows Vc.cells M0).toArray
  generalize hW2 : w5.setRow w4.heap.size (rows Vc.cells M0).toArray = w6 at hb2
  replace B1 := B1.later hb2
  replace hbel := below_on hbel hb2
  go_wp2_with (first | rw [hW1] | (refine store_r rfl 24 _ _ rfl w4.heap.size _ rfl rfl Q1 z0M rfl o0 ?_; rw [hW2]) | refine load_r 24 _ rfl rfl _ rfl B1 Try.underlying24 rfl z1M ?_)
  generalize w4.heap.size = b4
  clear hW1 hW2 Q1 hbA hb1 hb2
  refine (C3 _).mono ?_
  rintro e w7 ⟨rfl, hb1⟩
  replace B1 := B1.later hb1
  replace hbel := below_on hbel hb1
  have Q1 := rw_new w7 24 zc24
  have hbA := bel_alloc (Below.refl w7.heap.size w7) (.cells zc24 24)
  generalize hW1 : w7.alloc (.cells zc24 24) = w8 at Q1 hbA
  rw [zero_rows] at Q1
  change Rw w8 w7.heap.size 24 (rows Vc.cells M0).toArray at Q1
  have hb2 := below_setRow hbA (Nat.le_refl _) (rows Vc.cells M1).toArray
  generalize hW2 : w8.setRow w7.heap.size (rows Vc.cells M1).toArray = w9 at hb2
  replace B1 := B1.later hb2
  replace hbel := below_on hbel hb2
  have d2 : w9.rangeAt b2 26 (vals v3.l) := row_at B1 2 (by rw [h1]; decide)
  have z2 := info_vals v3.h
  have E1 : ∀ w', (Op.equalIn 10000 23 (.agg (vals v3.l).toArray) (.agg #[.int .i64 0, .int .i64 3, .int .i64 0, .int .i64 0, .int .i64 0, .int .i64 0, .int .i64 0, .int .i64 0, .int .i64 0, .int .i64 0, .int .i64 0, .int .i64 0, .int .i64 0])).run Try.prog w' = .ok true w' := fun w' => eq_arrays w' v3.l v3.l v3.h v3.h
  have E2 : ∀ w', (Op.equalIn 10000 23 (.agg (vals v5.l).toArray) (.agg #[.int .i64 0, .int .i64 5, .int .i64 0, .int .i64 0, .int .i64 0, .int .i64 0, .int .i64 0, .int .i64 0, .int .i64 0, .int .i64 0, .int .i64 0, .int .i64 0, .int .i64 0])).run Try.prog w' = .ok true w' := fun w' => eq_arrays w' v5.l v5.l v5.h v5.h
  have E3 : ∀ w', (Op.equalIn 10000 23 (.agg (vals zeros).toArray) (.agg #[.int .i64 0, .int .i64 0, .int .i64 0, .int .i64 0, .int .i64 0, .int .i64 0, .int .i64 0, .int .i64 0, .int .i64 0, .int .i64 0, .int .i64 0, .int .i64 0, .int .i64 0])).run Try.prog w' = .ok true w' := fun w' => eq_arrays w' zeros zeros rfl rfl
  go_wp2_with (first | rw [hW1] | (refine store_r rfl 24 _ _ rfl w7.heap.size _ rfl rfl Q1 z1M s01 o1 ?_; rw [hW2]) | refine load_r 24 _ rfl rfl _ rfl B1 Try.underlying24 rfl z1M ?_ | refine load_m 23 _ rfl rfl _ _ rfl d2 Try.underlying23 rfl z2 ?_)
  have I2 := ints_new w9 [1, 2] (by decide)
  have hbA2 := bel_alloc (Below.refl w9.heap.size w9) (.cells #[.int .i64 1, .int .i64 2] 3)
  have D1 := K2 M1 1 v5 [1, 2] _ _ h1 I2
  rw [k1] at D1
  refine Calls.mono D1 ?_
  rintro e w10 ⟨rfl, hb10⟩
  replace hb10 : Below (w9.alloc (.cells #[.int .i64 1, .int .i64 2] 3)).heap.size (w9.alloc (.cells #[.int .i64 1, .int .i64 2] 3)) w10 := hb10
  replace hb10 := below_on hbA2 hb10
  replace B1 := B1.later hb10
  replace hbel := below_on hbel hb10
  clear hb10 hbA2 I2 D1 hW1 hW2 Q1 hbA hb1 hb2 d2
  go_wp2_with (first | refine load_r 24 _ rfl rfl _ rfl B1 Try.underlying24 rfl z1M ?_)
  have I2 := ints_new w10 [1] (by decide)
  have hbA2 := bel_alloc (Below.refl w10.heap.size w10) (.cells #[.int .i64 1] 3)
  have D1 := K2 M1 1 v5 [1] _ _ h1 I2
  rw [k2] at D1
  refine Calls.mono D1 ?_
  rintro e w11 ⟨rfl, hb10⟩
  replace hb10 : Below (w10.alloc (.cells #[.int .i64 1] 3)).heap.size (w10.alloc (.cells #[.int .i64 1] 3)) w11 := hb10
  replace hb10 := below_on hbA2 hb10
  replace B1 := B1.later hb10
  replace hbel := below_on hbel hb10
  clear hb10 hbA2 I2 D1
  go_wp2_with (first | refine load_r 24 _ rfl rfl _ rfl B1 Try.underlying24 rfl z1M ?_)
  have D1 := K2 M1 1 v5 [] _ w11 h1 (ints_nil w11)
  rw [k3] at D1
  refine Calls.mono D1 ?_
  rintro e w12 ⟨rfl, hb10⟩
  go_wp2_with fail
  go_ret
  exact ⟨rfl, below_on hbel hb10⟩
end Go.Proofs.Ytcebchjokmampaa
/- The program's calls of layer 20, and what must come at any rate. -/
namespace Go.Proofs.Ytcebchjokmampaa
open Go.RowKit

theorem prs_all : Prs where
  accept := fun M p r v w hM => accept_any M hM p r v w
  cut := fun M self own live sv w hM h => cut_any M hM self own live sv w h
  heads := fun w => heads20 (fun M p r v w hM => accept_any M hM p r v w) (fun M self own live sv w hM h => cut_any M hM self own live sv w h) w
end Go.Proofs.Ytcebchjokmampaa
/- Arguments that are marks, dots, updates, ops, transactions. -/
namespace Go.Proofs.Ytcebchjokmampaa
open Go.ChangeShapes Go.WideShapes Go.ChangeAt Go.RowKit

/-- A slice of ops that is nil, or lies somewhere. -/
def OIs (w : World) (v : Value) (l : List O) : Prop := l.length ≤ maxLen ∧ ((v = .slice none 0 0 ∧ l = []) ∨ ∃ ad c, v = .slice (some ad) l.length c ∧ (0 < l.length → ∃ g o, ad = ⟨g, o, none⟩ ∧ ∀ i (h : i < l.length), w.rangeAt g (o + i * 10) l[i].cells))
theorem OIs.has {w : World} {v : Value} {l : List O} (h : OIs w v l) : OHas w v l := by
  obtain ⟨hm, ⟨rfl, rfl⟩ | ⟨ad, c, rfl, hd⟩⟩ := h
  · exact ⟨none, 0, rfl, hm, fun h => by simp at h⟩
  · refine ⟨_, c, rfl, hm, fun h => ?_⟩
    obtain ⟨g, o, rfl, hd2⟩ := hd h
    exact ⟨g, o, rfl, hd2⟩
theorem OIs.later {w w' : World} {v : Value} {l : List O} (h : OIs w v l) (hb : Below w.heap.size w w') : OIs w' v l := by
  obtain ⟨hm, ⟨rfl, rfl⟩ | ⟨ad, c, rfl, hd⟩⟩ := h
  · exact ⟨hm, .inl ⟨rfl, rfl⟩⟩
  · refine ⟨hm, .inr ⟨ad, c, rfl, fun h => ?_⟩⟩
    obtain ⟨g, o, rfl, hd2⟩ := hd h
    exact ⟨g, o, rfl, fun i hi => range_later (hd2 i hi) hb⟩
theorem vals_of_ints : ∀ (cs : List Value), (∀ i (h : i < cs.length), ∃ n : Int, cs[i] = .int .i64 n) → ∃ l : List Int, cs = vals l
  | [], _ => ⟨[], rfl⟩
  | c :: cs, h => by
    obtain ⟨n, hn⟩ := h 0 (by simp)
    obtain ⟨l, hl⟩ := vals_of_ints cs (fun i hi => by have := h (i + 1) (by simpa using hi); simpa using this)
    refine ⟨n :: l, ?_⟩
    simp only [List.getElem_cons_zero] at hn
    rw [hn, hl]
    rfl

section
variable {H : Type} {enc : TypeId × Value → H} {w : World} {base : Nat} {spare : Nat → Bool} {held : Bool}
theorem c3 : Try.prog.cellsOf 3 = 1 := by kernel_rfl
theorem c9 : Try.prog.cellsOf 9 = 1 := by kernel_rfl
theorem c23 : Try.prog.cellsOf 40 = 2 := by kernel_rfl
theorem c25 : Try.prog.cellsOf 23 = 13 := by kernel_rfl
theorem c26 : Try.prog.cellsOf 41 = 1 := by kernel_rfl
theorem c33 : Try.prog.cellsOf 55 = 3 := by kernel_rfl
theorem c35 : Try.prog.cellsOf 57 = 10 := by kernel_rfl
theorem c28 : Try.prog.cellsOf 43 = 17 := by kernel_rfl
theorem cells_dot {fuel : Nat} {cs : List Value} {x : DataW H × List MemPlace} (h : DataW.trod enc Try.prog w base spare held fuel 40 cs = some x) : ∃ p s, cs = [.int .i64 p, .int .i64 s] := by
  obtain ⟨xs, k, rfl, _, hcl, hxl, hf⟩ := DataW.trod_struct Try.underlying40 h
  rw [c23] at hcl
  match xs, hxl, cs, hcl with
  | [y0, y1], _, [v0, v1], _ =>
    have g0 := hf 0 _ rfl
    have g1 := hf 1 _ rfl
    simp [c3] at g0 g1
    obtain ⟨n0, h0, _⟩ := DataW.trod_int Try.underlying3 g0
    obtain ⟨n1, h1, _⟩ := DataW.trod_int Try.underlying3 g1
    simp at h0 h1
    exact ⟨n0, n1, by rw [h0, h1]⟩
theorem cells_mark {fuel : Nat} {cs : List Value} {x : DataW H × List MemPlace} (h : DataW.trod enc Try.prog w base spare held fuel 55 cs = some x) : ∃ p s i, cs = [.int .i64 p, .int .i64 s, .int .i64 i] := by
  obtain ⟨xs, k, rfl, _, hcl, hxl, hf⟩ := DataW.trod_struct Try.underlying55 h
  rw [c33] at hcl
  match xs, hxl, cs, hcl with
  | [y0, y1], _, [v0, v1, v2], _ =>
    have g0 := hf 0 _ rfl
    have g1 := hf 1 _ rfl
    simp [c3, c23] at g0 g1
    obtain ⟨p, s, h0⟩ := cells_dot g0
    obtain ⟨n1, h1, _⟩ := DataW.trod_int Try.underlying3 g1
    simp at h0 h1
    exact ⟨p, s, n1, by rw [h0.1, h0.2, h1]⟩
theorem cells_op {fuel : Nat} {cs : List Value} {x : DataW H × List MemPlace} (h : DataW.trod enc Try.prog w base spare held fuel 57 cs = some x) : ∃ o : O, cs = o.cells := by
  obtain ⟨xs, k, rfl, _, hcl, hxl, hf⟩ := DataW.trod_struct Try.underlying57 h
  rw [c35] at hcl
  match xs, hxl, cs, hcl with
  | [y0, y1, y2, y3, y4, y5, y6, y7], _, [v0, v1, v2, v3, v4, v5, v6, v7, v8, v9], _ =>
    have g0 := hf 0 _ rfl
    have g1 := hf 1 _ rfl
    have g2 := hf 2 _ rfl
    have g3 := hf 3 _ rfl
    have g4 := hf 4 _ rfl
    have g5 := hf 5 _ rfl
    have g6 := hf 6 _ rfl
    have g7 := hf 7 _ rfl
    simp [c3, c9, c33] at g0 g1 g2 g3 g4 g5 g6 g7
    obtain ⟨n0, h0, _⟩ := DataW.trod_int Try.underlying3 g0
    obtain ⟨n1, h1, _⟩ := DataW.trod_string Try.underlying9 g1
    obtain ⟨n2, h2, _⟩ := DataW.trod_string Try.underlying9 g2
    obtain ⟨n3, h3, _⟩ := DataW.trod_int Try.underlying3 g3
    obtain ⟨n4, h4, _⟩ := DataW.trod_int Try.underlying3 g4
    obtain ⟨n5, h5, _⟩ := DataW.trod_int Try.underlying3 g5
    obtain ⟨n6, h6, _⟩ := DataW.trod_string Try.underlying9 g6
    obtain ⟨p, s, i, h7⟩ := cells_mark g7
    simp at h0 h1 h2 h3 h4 h5 h6 h7
    obtain ⟨h7, h8, h9⟩ := h7
    exact ⟨⟨n0, n1, n2, n3, n4, n5, n6, p, s, i⟩, by rw [h0, h1, h2, h3, h4, h5, h6, h7, h8, h9]⟩
theorem cells_ops {fuel : Nat} {cs : List Value} {x : DataW H × List MemPlace} (h : DataW.trod enc Try.prog w base spare held fuel 41 cs = some x) : ∃ (v : Value) (l : List O), cs = [v] ∧ OIs w v l := by
  rcases DataW.trod_slice Try.underlying41 h with ⟨h0, _⟩ | ⟨a, len, cap, elems, rest, m, hm, hcs, _, hba, hl, hmx, hlen, hel, _, _⟩
  · exact ⟨_, [], h0, Nat.zero_le _, .inl ⟨rfl, rfl⟩⟩
  · have each : ∀ i, i < len → ∃ o : O, ∀ j u, o.cells[j]? = some u → w.cell? (a.add (i * 10 + j)) = some u := by
      intro i hi
      have hi' := hel i hi
      rw [c35, List.getElem?_eq_getElem (by omega)] at hi'
      obtain ⟨cs', h1, h2⟩ := Option.bind_eq_some_iff.1 hi'
      obtain ⟨_, hlen', hcell⟩ := World.cells?_some h1
      obtain ⟨o, rfl⟩ := cells_op h2
      refine ⟨o, fun j u hu => ?_⟩
      have hj : j < 10 := (List.getElem?_eq_some_iff.1 hu).1
      have e := hcell j (by omega)
      rw [Deep.add_add] at e
      rw [e]
      exact hu
    have hinh : Inhabited O := ⟨⟨0, noS, noS, 0, 0, 0, noS, 0, 0, 0⟩⟩
    obtain ⟨f, hk⟩ := Deep.choose_lt each
    refine ⟨_, (List.range len).map f, hcs, by simp; omega, .inr ⟨a, cap, by simp, fun h0 => ?_⟩⟩
    have h0' : 0 < len := by simpa using h0
    obtain ⟨b, off, spot⟩ := a
    have q0 := hk 0 h0' 0 _ rfl
    have hspot : spot = none := by simpa [Addr.add] using World.cell?_spot q0
    subst hspot
    refine ⟨b, off, rfl, fun i hi j u hu => ?_⟩
    have hi' : i < len := by simpa using hi
    have := hk i hi' j u (by simpa using hu)
    rw [Addr.add_mid] at this
    rw [Nat.add_assoc]
    exact this
set_option maxRecDepth 100000 in
theorem cells_tx {fuel : Nat} {cs : List Value} {x : DataW H × List MemPlace} (h : DataW.trod enc Try.prog w base spare held fuel 43 cs = some x) : ∃ (p s : Int) (v : List Int) (t : Int) (sl : Value) (l : List O), cs = txc p s v t sl ∧ v.length = 13 ∧ OIs w sl l := by
  obtain ⟨xs, k, rfl, _, hcl, hxl, hf⟩ := DataW.trod_struct Try.underlying43 h
  rw [c28] at hcl
  match xs, hxl with
  | [y0, y1, y2, y3], _ =>
    have g0 := hf 0 _ rfl
    have g1 := hf 1 _ rfl
    have g2 := hf 2 _ rfl
    have g3 := hf 3 _ rfl
    simp [c3, c23, c25, c26] at g0 g1 g2 g3
    obtain ⟨p, s, h0⟩ := cells_dot g0
    obtain ⟨xs1, m, _, _, hlen, hxs, hi⟩ := DataW.trod_array Try.underlying23 g1
    obtain ⟨v, hv⟩ := vals_of_ints ((cs.drop 2).take 13) (fun i hlt => by
      have hi13 : i < 13 := by simp at hlt; omega
      have hq := hi i hi13
      rw [c3, List.getElem?_eq_getElem (show i < xs1.length by omega)] at hq
      obtain ⟨n, hn, _⟩ := DataW.trod_int Try.underlying3 hq
      refine ⟨n, ?_⟩
      rw [Nat.mul_one, List.drop_eq_getElem_cons hlt] at hn
      simpa using hn)
    have hv13 : v.length = 13 := by
      have := congrArg List.length hv
      rw [vals_length] at this
      simp at this
      omega
    obtain ⟨t, h2, _⟩ := DataW.trod_int Try.underlying3 g2
    obtain ⟨sl, l, h3, hl⟩ := cells_ops g3
    refine ⟨p, s, v, t, sl, l, ?_, hv13, hl⟩
    unfold txc
    rw [← hv]
    match cs, hcl with
    | [a0, a1, a2, a3, a4, a5, a6, a7, a8, a9, a10, a11, a12, a13, a14, a15, a16], _ =>
      simp at h0 h2 h3 ⊢
      exact ⟨h0.1, h0.2, h2, h3⟩

theorem c42 : Try.prog.cellsOf 35 = 1 := by kernel_rfl
theorem rows_split {α : Type} {f : α → List Value} {S : Nat} (hf : ∀ x, (f x).length = S) : ∀ (l : List α) (j : Nat) (u : Value), (rows f l)[j]? = some u → ∃ i r, ∃ h : i < l.length, r < S ∧ j = i * S + r ∧ (f l[i])[r]? = some u
  | [], j, u, h => by simp [rows] at h
  | x :: l, j, u, h => by
    rw [rows_cons] at h
    rcases Nat.lt_or_ge j S with hj | hj
    · rw [List.getElem?_append_left (by rw [hf]; exact hj)] at h
      exact ⟨0, j, by simp, hj, by omega, h⟩
    · rw [List.getElem?_append_right (by rw [hf]; exact hj), hf] at h
      obtain ⟨i, r, hi, hr, e, hu⟩ := rows_split hf l (j - S) u h
      exact ⟨i + 1, r, by simpa using hi, hr, by rw [Nat.succ_mul]; omega, hu⟩
set_option maxRecDepth 100000 in
/-- A slice whose elements are known one by one. -/
theorem cells_rows {α : Type} [Inhabited α] {ts e S : Nat} (hu : Try.prog.underlying ts = some (.slice e)) (hS : Try.prog.cellsOf e = S) (hS0 : 0 < S) (f : α → List Value) (Pr : α → Prop) (hf : ∀ y, (f y).length = S)
    (each : ∀ (fuel : Nat) (cs : List Value) (x : DataW H × List MemPlace), DataW.trod enc Try.prog w base spare held fuel e cs = some x → ∃ y, cs = f y ∧ Pr y) {fuel : Nat} {cs : List Value} {x : DataW H × List MemPlace} (h : DataW.trod enc Try.prog w base spare held fuel ts cs = some x) :
    ∃ (v : Value) (l : List α), cs = [v] ∧ SHas S w v l.length (rows f l) ∧ (∀ y ∈ l, Pr y) ∧ ∀ b, (DataW.weights Try.prog ts x.1).all (· ≤ b) = true → l.length * Try.prog.bytesOf e ≤ b := by
  rcases DataW.trod_slice hu h with ⟨h0, hx⟩ | ⟨a, len, cap, elems, rest, m, hm, hcs, hx, hba, hl, hmx, hlen, hel, _, _⟩
  · exact ⟨_, [], h0, SHas.nil w S, (fun _ h => by cases h), fun b _ => by simp⟩
  · have one : ∀ i, i < len → ∃ y : α, (∀ j u, (f y)[j]? = some u → w.cell? (a.add (i * S + j)) = some u) ∧ Pr y := by
      intro i hi
      have hi' := hel i hi
      rw [hS, List.getElem?_eq_getElem (by omega)] at hi'
      obtain ⟨cs', h1, h2⟩ := Option.bind_eq_some_iff.1 hi'
      obtain ⟨_, hlen', hcell⟩ := World.cells?_some h1
      obtain ⟨y, rfl, hy⟩ := each _ _ _ h2
      refine ⟨y, fun j u hu => ?_, hy⟩
      have hj : j < S := by have := (List.getElem?_eq_some_iff.1 hu).1; rw [hf] at this; exact this
      have e := hcell j (by omega)
      rw [Deep.add_add] at e
      rw [e]
      exact hu
    obtain ⟨g, hk⟩ := Deep.choose_lt one
    have hll : ((List.range len).map g).length = len := by simp
    refine ⟨_, (List.range len).map g, hcs, ⟨by rw [hll]; omega, by rw [rows_length hf], .inr ⟨a, cap, by rw [hll], ⟨by rw [hll]; omega, by omega⟩, fun h0 => ?_⟩⟩, ?_, ?_⟩
    · have h0' : 0 < len := by simpa using h0
      obtain ⟨b, off, spot⟩ := a
      obtain ⟨u0, hu0⟩ : ∃ u0, (f (g 0))[0]? = some u0 := ⟨(f (g 0))[0]'(by rw [hf]; exact hS0), List.getElem?_eq_getElem _⟩
      have q0 := (hk 0 h0').1 0 _ hu0
      have hspot : spot = none := by simpa [Addr.add] using World.cell?_spot q0
      subst hspot
      refine ⟨b, off, rfl, fun j u hu => ?_⟩
      obtain ⟨i, r, hi, hr, rfl, hq⟩ := rows_split hf _ j u hu
      have hi' : i < len := by simpa using hi
      have := (hk i hi').1 r u (by simpa using hq)
      rw [Addr.add_mid] at this
      exact this
    · intro y hy
      obtain ⟨i, hi, rfl⟩ := List.mem_map.1 hy
      exact (hk i (by simpa using hi)).2
    · intro b hb
      rw [hx] at hb
      simp only [DataW.weights, hu, List.all_cons, Bool.and_eq_true, decide_eq_true_eq, List.length_map] at hb
      rw [hll, ← hlen]
      exact Nat.le_trans (Nat.mul_le_mul_right _ (Nat.le_add_right _ _)) hb.1
set_option maxRecDepth 100000 in
theorem cells_txs {fuel : Nat} {cs : List Value} {x : DataW H × List MemPlace} (h : DataW.trod enc Try.prog w base spare held fuel 35 cs = some x) : ∃ (v : Value) (l : List T), cs = [v] ∧ XHas w v l := by
  have hinh : Inhabited (T × Value) := ⟨(⟨0, 0, zeros, 0, [], rfl⟩, .bool false)⟩
  obtain ⟨v, ys, h1, h2, h3, _⟩ := cells_rows (α := T × Value) Try.underlying35 c28 (by decide) T.cells (fun y => OHas w y.2 y.1.ops) T.len (fun fuel cs x hx => by
    obtain ⟨p, s, v, t, sl, l, e, hv, ho⟩ := cells_tx hx
    exact ⟨(⟨p, s, v, t, l, hv⟩, sl), e, OIs.has ho⟩) h
  exact ⟨v, ys.map (·.1), h1, ys, rfl, by rw [List.length_map]; exact h2, h3⟩
variable {r : Reach} {b0 : Nat} {v : Value} {d : DataW H} {ps : List MemPlace}
theorem open_tx (hval : Value.okWide Try.prog w r b0 43 v) (hd : DataW.Trod enc Try.prog w base spare held 43 v d ps) : ∃ (p s : Int) (u : List Int) (t : Int) (sl : Value) (l : List O), v = TxV p s u t sl ∧ u.length = 13 ∧ OIs w sl l := by
  obtain ⟨fuel, hf⟩ := hd
  simp only [Value.okWide, Try.underlying43] at hval
  obtain ⟨cs, rfl, _⟩ := hval
  obtain ⟨p, s, u, t, sl, l, e, hu, hl⟩ := cells_tx hf
  exact ⟨p, s, u, t, sl, l, by rw [show cs = (txc p s u t sl).toArray from Array.toList_inj.1 e], hu, hl⟩
set_option maxRecDepth 100000 in
theorem open_vec (hval : Value.okWide Try.prog w r b0 23 v) (hd : DataW.Trod enc Try.prog w base spare held 23 v d ps) : ∃ l : List Int, v = V l ∧ l.length = 13 := by
  obtain ⟨fuel, hf⟩ := hd
  simp only [Value.okWide, Try.underlying23] at hval
  obtain ⟨cs, rfl, _⟩ := hval
  obtain ⟨xs1, m, _, _, hlen, hxs, hi⟩ := DataW.trod_array Try.underlying23 hf
  obtain ⟨u, hu⟩ := vals_of_ints (Value.agg cs).cells.toList (fun i hlt => by
    have hi13 : i < 13 := by rw [hlen, c25] at hlt; exact hlt
    have hq := hi i hi13
    rw [c3, List.getElem?_eq_getElem (show i < xs1.length by omega)] at hq
    obtain ⟨n, hn, _⟩ := DataW.trod_int Try.underlying3 hq
    refine ⟨n, ?_⟩
    rw [Nat.mul_one, List.drop_eq_getElem_cons hlt] at hn
    simpa using hn)
  have e : cs.toList = vals u := hu
  refine ⟨u, by rw [show cs = (vals u).toArray from Array.toList_inj.1 e], ?_⟩
  have := congrArg List.length e
  rw [vals_length] at this
  rw [← this]
  have h2 := hlen
  rw [c25] at h2
  exact h2
set_option maxRecDepth 100000 in
theorem open_txs (hval : Value.okWide Try.prog w r b0 35 v) (hd : DataW.Trod enc Try.prog w base spare held 35 v d ps) : ∃ l : List T, XHas w v l := by
  obtain ⟨fuel, hf⟩ := hd
  obtain ⟨a, len, cap, rfl⟩ := okWide_slice Try.underlying35 hval
  obtain ⟨v', l, e, h⟩ := cells_txs hf
  simp only [Value.cells, List.cons.injEq, and_true] at e
  exact ⟨l, by rw [← e] at h; exact h⟩
theorem cells_vc {fuel : Nat} {cs : List Value} {x : DataW H × List MemPlace} (h : DataW.trod enc Try.prog w base spare held fuel 23 cs = some x) : ∃ y : Vc, cs = y.cells := by
  obtain ⟨xs1, m, _, _, hlen, hxs, hi⟩ := DataW.trod_array Try.underlying23 h
  obtain ⟨u, hu⟩ := vals_of_ints cs (fun i hlt => by
    have hi13 : i < 13 := by rw [hlen, c25] at hlt; exact hlt
    have hq := hi i hi13
    rw [c3, List.getElem?_eq_getElem (show i < xs1.length by omega)] at hq
    obtain ⟨n, hn, _⟩ := DataW.trod_int Try.underlying3 hq
    refine ⟨n, ?_⟩
    have e := congrArg List.head? hn
    simpa [List.head?_take, List.head?_drop, List.getElem?_eq_getElem hlt] using e)
  have hu13 : u.length = 13 := by
    have := congrArg List.length hu
    rw [vals_length, hlen, c25] at this
    omega
  exact ⟨⟨u, hu13⟩, hu⟩
theorem rows_parts (g : Nat → Vc) : ∀ (n : Nat) (cs : List Value), cs.length = n * 13 → (∀ i, i < n → (cs.drop (i * 13)).take 13 = (g i).cells) → cs = rows Vc.cells ((List.range n).map g)
  | 0, cs, h, _ => by
    have : cs = [] := List.length_eq_zero_iff.1 (by omega)
    subst this
    rfl
  | n + 1, cs, h, hg => by
    have e := rows_parts g n (cs.take (n * 13)) (by rw [List.length_take]; omega) (fun i hi => by
      rw [List.drop_take, List.take_take, Nat.min_eq_left (by omega)]
      exact hg i (by omega))
    have e2 := hg n (by omega)
    rw [List.take_of_length_le (by rw [List.length_drop]; omega)] at e2
    rw [List.range_succ, List.map_append, rows_append, ← e]
    rw [show rows Vc.cells (List.map g [n]) = (g n).cells from by simp [rows], ← e2, List.take_append_drop]
theorem c38 : Try.prog.cellsOf 24 = 169 := by kernel_rfl
set_option maxRecDepth 100000 in
/-- An array of 13 vectors. -/
theorem open_rows (hval : Value.okWide Try.prog w r b0 24 v) (hd : DataW.Trod enc Try.prog w base spare held 24 v d ps) : ∃ M : List Vc, v = RV M ∧ M.length = 13 := by
  obtain ⟨fuel, hf⟩ := hd
  simp only [Value.okWide, Try.underlying24] at hval
  obtain ⟨cs, rfl, _⟩ := hval
  obtain ⟨xs1, m, _, _, hlen, hxs, hi⟩ := DataW.trod_array Try.underlying24 hf
  have each : ∀ i, i < 13 → ∃ y : Vc, ((Value.agg cs).cells.toList.drop (i * 13)).take 13 = y.cells := by
    intro i hi13
    have hq := hi i hi13
    rw [c25, List.getElem?_eq_getElem (show i < xs1.length by omega)] at hq
    exact cells_vc hq
  have hinh : Inhabited Vc := ⟨z0⟩
  obtain ⟨g, hk⟩ := Deep.choose_lt each
  have hlen' : (Value.agg cs).cells.toList.length = 13 * 13 := by rw [hlen, c38]
  have e := rows_parts g 13 _ hlen' hk
  refine ⟨(List.range 13).map g, ?_, by simp⟩
  have e2 : cs.toList = rows Vc.cells ((List.range 13).map g) := e
  rw [show cs = (rows Vc.cells ((List.range 13).map g)).toArray from Array.toList_inj.1 e2]
end
/-- A list of numbers. -/
theorem open_il {H : Type} {enc : TypeId × Value → H} {w : World} {r : Reach} {b0 : Nat} {v : Value} {d : DataW H} {ps : List MemPlace} (hval : Value.okWide Try.prog w r b0 25 v) (hd : DataW.Trod enc Try.prog w 0 (fun _ => true) true 25 v d ps) : ∃ l : List Int, IHas w v l := by
  obtain ⟨a, len, cap, rfl⟩ := okWide_slice Try.underlying25 hval
  obtain ⟨fuel, hf⟩ := hd
  rcases open_ints Try.underlying25 Try.underlying3 (by kernel_rfl) hf with ⟨hcs, _⟩ | ⟨x, l, c, zs, hcs, _, hl, hm, hz, _, hcell, hwz⟩
  · simp [Value.cells] at hcs
    obtain ⟨rfl, rfl, rfl⟩ := hcs
    exact ⟨[], SHas.nil _ _⟩
  · simp [Value.cells] at hcs
    obtain ⟨rfl, rfl, rfl⟩ := hcs
    have hz' : zs.length = cap := by simpa using hz
    have hlen : (zs.take len).length = len := by rw [List.length_take]; omega
    refine ⟨zs.take len, ?_⟩
    unfold IHas
    rw [hlen]
    refine ⟨by omega, by rw [vals_length, hlen, Nat.mul_one], .inr ⟨x, cap, rfl, ⟨hl, hm⟩, fun hp => ?_⟩⟩
    obtain ⟨b, o, spot⟩ := x
    have hc0 := hcell 0 (by omega)
    have hspot : spot = none := by simpa [Addr.add] using World.cell?_spot hc0
    subst hspot
    refine ⟨b, o, rfl, fun j u hu => ?_⟩
    have hj : j < (zs.take len).length := by
      have := (List.getElem?_eq_some_iff.1 hu).1
      rwa [vals_length] at this
    have hjl : j < len := by rw [hlen] at hj; exact hj
    have hc := hcell j (by omega)
    rw [Addr.add_lit] at hc
    rw [hc, ← hu]
    simp [vals, hjl, List.getD_eq_getElem?_getD, List.getElem?_eq_getElem (show j < zs.length by omega)]
end Go.Proofs.Ytcebchjokmampaa
