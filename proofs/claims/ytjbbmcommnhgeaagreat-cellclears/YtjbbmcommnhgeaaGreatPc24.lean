import Derived.Test.YtjbbmcommnhgeaaGreatPc23
import Derived.Deep.Slices
set_option maxRecDepth 100000
set_option maxHeartbeats 8000000
namespace Go.Proofs.YtjbbmcommnhgeaaGreat
open Go.ChangeShapes Go.WideShapes Go.ChangeAt Go.RowKit
def OIs (w : World) (v : Value) (l : List O) : Prop := l.length ≤ maxLen ∧ ((v = .slice none 0 0 ∧ l = []) ∨ ∃ ad c, v = .slice (some ad) l.length c ∧ (0 < l.length → ∃ g o, ad = ⟨g, o, none⟩ ∧ ∀ i (h : i < l.length), w.rangeAt g (o + i * 10) l[i].cells))
theorem OIs.has {w : World} {v : Value} {l : List O} (h : OIs w v l) : OHas w v l := by
 obtain ⟨hm, ⟨rfl, rfl⟩ | ⟨ad, c, rfl, hd⟩⟩ := h
 ·exact ⟨none, 0, rfl, hm, fun h => by simp at h⟩
 ·refine ⟨_, c, rfl, hm, fun h => ?_⟩
  obtain ⟨g, o, rfl, hd2⟩ := hd h
  exact ⟨g, o, rfl, hd2⟩
theorem OIs.later {w w' : World} {v : Value} {l : List O} (h : OIs w v l) (hb : Below w.heap.size w w') : OIs w' v l := by
 obtain ⟨hm, ⟨rfl, rfl⟩ | ⟨ad, c, rfl, hd⟩⟩ := h
 ·exact ⟨hm, .inl ⟨rfl, rfl⟩⟩
 ·refine ⟨hm, .inr ⟨ad, c, rfl, fun h => ?_⟩⟩
  obtain ⟨g, o, rfl, hd2⟩ := hd h
  exact ⟨g, o, rfl, fun i hi => range_later (hd2 i hi) hb⟩
theorem vals_of_ints : ∀ (cs : List Value), (∀ i (h : i < cs.length), ∃ n : Int, cs[i] = .int .i64 n) → ∃ l : List Int, cs = vals l
 | [], _ => ⟨[], rfl⟩
 | c :: cs, h => by
  obtain ⟨n, hn⟩ := h 0 (by simp)
  obtain ⟨l, hl⟩ := vals_of_ints cs (fun i hi => by have := h (i + 1) (by simpa using hi); simpa using this)
  refine ⟨n :: l, ?_⟩
  simp only [List.getElem_cons_zero] at hn
  rw [hn, hl]
  rfl
section
variable {H : Type} {enc : TypeId × Value → H} {w : World} {base : Nat} {spare : Nat → Bool} {held : Bool}
theorem c3 : Tryz.prog.cellsOf 3 = 1 := by kernel_rfl
theorem c9 : Tryz.prog.cellsOf 9 = 1 := by kernel_rfl
theorem c29 : Tryz.prog.cellsOf 29 = 2 := by kernel_rfl
theorem c31 : Tryz.prog.cellsOf 31 = 13 := by kernel_rfl
theorem c32 : Tryz.prog.cellsOf 32 = 1 := by kernel_rfl
theorem c40 : Tryz.prog.cellsOf 50 = 3 := by kernel_rfl
theorem c67 : Tryz.prog.cellsOf 52 = 10 := by kernel_rfl
theorem c34 : Tryz.prog.cellsOf 34 = 17 := by kernel_rfl
theorem cells_dot {fuel : Nat} {cs : List Value} {x : DataW H × List MemPlace} (h : DataW.trod enc Tryz.prog w base spare held fuel 29 cs = some x) : ∃ p s, cs = [.int .i64 p, .int .i64 s] := by
 obtain ⟨xs, k, rfl, _, hcl, hxl, hf⟩ := DataW.trod_struct Tryz.underlying29 h
 rw [c29] at hcl
 match xs, hxl, cs, hcl with
 | [y0, y1], _, [v0, v1], _ =>
  have g0 := hf 0 _ rfl
  have g1 := hf 1 _ rfl
  simp [c3] at g0 g1
  obtain ⟨n0, h0, _⟩ := DataW.trod_int Tryz.underlying3 g0
  obtain ⟨n1, h1, _⟩ := DataW.trod_int Tryz.underlying3 g1
  simp at h0 h1
  exact ⟨n0, n1, by rw [h0, h1]⟩
theorem cells_mark {fuel : Nat} {cs : List Value} {x : DataW H × List MemPlace} (h : DataW.trod enc Tryz.prog w base spare held fuel 50 cs = some x) : ∃ p s i, cs = [.int .i64 p, .int .i64 s, .int .i64 i] := by
 obtain ⟨xs, k, rfl, _, hcl, hxl, hf⟩ := DataW.trod_struct Tryz.underlying50 h
 rw [c40] at hcl
 match xs, hxl, cs, hcl with
 | [y0, y1], _, [v0, v1, v2], _ =>
  have g0 := hf 0 _ rfl
  have g1 := hf 1 _ rfl
  simp [c3, c29] at g0 g1
  obtain ⟨p, s, h0⟩ := cells_dot g0
  obtain ⟨n1, h1, _⟩ := DataW.trod_int Tryz.underlying3 g1
  simp at h0 h1
  exact ⟨p, s, n1, by rw [h0.1, h0.2, h1]⟩
theorem cells_op {fuel : Nat} {cs : List Value} {x : DataW H × List MemPlace} (h : DataW.trod enc Tryz.prog w base spare held fuel 52 cs = some x) : ∃ o : O, cs = o.cells := by
 obtain ⟨xs, k, rfl, _, hcl, hxl, hf⟩ := DataW.trod_struct Tryz.underlying52 h
 rw [c67] at hcl
 match xs, hxl, cs, hcl with
 | [y0, y1, y2, y3, y4, y5, y6, y7], _, [v0, v1, v2, v3, v4, v5, v6, v7, v8, v9], _ =>
  have g0 := hf 0 _ rfl
  have g1 := hf 1 _ rfl
  have g2 := hf 2 _ rfl
  have g3 := hf 3 _ rfl
  have g4 := hf 4 _ rfl
  have g5 := hf 5 _ rfl
  have g6 := hf 6 _ rfl
  have g7 := hf 7 _ rfl
  simp [c3, c9, c40] at g0 g1 g2 g3 g4 g5 g6 g7
  obtain ⟨n0, h0, _⟩ := DataW.trod_int Tryz.underlying3 g0
  obtain ⟨n1, h1, _⟩ := DataW.trod_string Tryz.underlying9 g1
  obtain ⟨n2, h2, _⟩ := DataW.trod_string Tryz.underlying9 g2
  obtain ⟨n3, h3, _⟩ := DataW.trod_int Tryz.underlying3 g3
  obtain ⟨n4, h4, _⟩ := DataW.trod_int Tryz.underlying3 g4
  obtain ⟨n5, h5, _⟩ := DataW.trod_int Tryz.underlying3 g5
  obtain ⟨n6, h6, _⟩ := DataW.trod_string Tryz.underlying9 g6
  obtain ⟨p, s, i, h7⟩ := cells_mark g7
  simp at h0 h1 h2 h3 h4 h5 h6 h7
  obtain ⟨h7, h8, h9⟩ := h7
  exact ⟨⟨n0, n1, n2, n3, n4, n5, n6, p, s, i⟩, by rw [h0, h1, h2, h3, h4, h5, h6, h7, h8, h9]⟩
theorem cells_ops {fuel : Nat} {cs : List Value} {x : DataW H × List MemPlace} (h : DataW.trod enc Tryz.prog w base spare held fuel 32 cs = some x) : ∃ (v : Value) (l : List O), cs = [v] ∧ OIs w v l := by
 rcases DataW.trod_slice Tryz.underlying32 h with ⟨h0, _⟩ | ⟨a, len, cap, elems, rest, m, hm, hcs, _, hba, hl, hmx, hlen, hel, _, _⟩
 ·exact ⟨_, [], h0, Nat.zero_le _, .inl ⟨rfl, rfl⟩⟩
 ·have each : ∀ i, i < len → ∃ o : O, ∀ j u, o.cells[j]? = some u → w.cell? (a.add (i * 10 + j)) = some u := by
   intro i hi
   have hi' := hel i hi
   rw [c67, List.getElem?_eq_getElem (by omega)] at hi'
   obtain ⟨cs', h1, h2⟩ := Option.bind_eq_some_iff.1 hi'
   obtain ⟨_, hlen', hcell⟩ := World.cells?_some h1
   obtain ⟨o, rfl⟩ := cells_op h2
   refine ⟨o, fun j u hu => ?_⟩
   have hj : j < 10 := (List.getElem?_eq_some_iff.1 hu).1
   have e := hcell j (by omega)
   rw [Deep.add_add] at e
   rw [e]
   exact hu
  have hinh : Inhabited O := ⟨⟨0, noS, noS, 0, 0, 0, noS, 0, 0, 0⟩⟩
  obtain ⟨f, hk⟩ := Deep.choose_lt each
  refine ⟨_, (List.range len).map f, hcs, by simp; omega, .inr ⟨a, cap, by simp, fun h0 => ?_⟩⟩
  have h0' : 0 < len := by simpa using h0
  obtain ⟨b, off, spot⟩ := a
  have q0 := hk 0 h0' 0 _ rfl
  have hspot : spot = none := by simpa [Addr.add] using World.cell?_spot q0
  subst hspot
  refine ⟨b, off, rfl, fun i hi j u hu => ?_⟩
  have hi' : i < len := by simpa using hi
  have := hk i hi' j u (by simpa using hu)
  rw [Addr.add_mid] at this
  rw [Nat.add_assoc]
  exact this
theorem cells_tx {fuel : Nat} {cs : List Value} {x : DataW H × List MemPlace} (h : DataW.trod enc Tryz.prog w base spare held fuel 34 cs = some x) : ∃ (p s : Int) (v : List Int) (t : Int) (sl : Value) (l : List O), cs = txc p s v t sl ∧ v.length = 13 ∧ OIs w sl l := by
 obtain ⟨xs, k, rfl, _, hcl, hxl, hf⟩ := DataW.trod_struct Tryz.underlying34 h
 rw [c34] at hcl
 match xs, hxl with
 | [y0, y1, y2, y3], _ =>
  have g0 := hf 0 _ rfl
  have g1 := hf 1 _ rfl
  have g2 := hf 2 _ rfl
  have g3 := hf 3 _ rfl
  simp [c3, c29, c31, c32] at g0 g1 g2 g3
  obtain ⟨p, s, h0⟩ := cells_dot g0
  obtain ⟨xs1, m, _, _, hlen, hxs, hi⟩ := DataW.trod_array Tryz.underlying31 g1
  obtain ⟨v, hv⟩ := vals_of_ints ((cs.drop 2).take 13) (fun i hlt => by
   have hi13 : i < 13 := by simp at hlt; omega
   have hq := hi i hi13
   rw [c3, List.getElem?_eq_getElem (show i < xs1.length by omega)] at hq
   obtain ⟨n, hn, _⟩ := DataW.trod_int Tryz.underlying3 hq
   refine ⟨n, ?_⟩
   rw [Nat.mul_one, List.drop_eq_getElem_cons hlt] at hn
   simpa using hn)
  have hv13 : v.length = 13 := by
   have := congrArg List.length hv
   rw [vals_length] at this
   simp at this
   omega
  obtain ⟨t, h2, _⟩ := DataW.trod_int Tryz.underlying3 g2
  obtain ⟨sl, l, h3, hl⟩ := cells_ops g3
  refine ⟨p, s, v, t, sl, l, ?_, hv13, hl⟩
  unfold txc
  rw [← hv]
  match cs, hcl with
  | [a0, a1, a2, a3, a4, a5, a6, a7, a8, a9, a10, a11, a12, a13, a14, a15, a16], _ =>
   simp at h0 h2 h3 ⊢
   exact ⟨h0.1, h0.2, h2, h3⟩
theorem rows_split {α : Type} {f : α → List Value} {S : Nat} (hf : ∀ x, (f x).length = S) : ∀ (l : List α) (j : Nat) (u : Value), (rows f l)[j]? = some u → ∃ i r, ∃ h : i < l.length, r < S ∧ j = i * S + r ∧ (f l[i])[r]? = some u
 | [], j, u, h => by simp [rows] at h
 | x :: l, j, u, h => by
  rw [rows_cons] at h
  rcases Nat.lt_or_ge j S with hj | hj
  ·rw [List.getElem?_append_left (by rw [hf]; exact hj)] at h
   exact ⟨0, j, by simp, hj, by omega, h⟩
  ·rw [List.getElem?_append_right (by rw [hf]; exact hj), hf] at h
   obtain ⟨i, r, hi, hr, e, hu⟩ := rows_split hf l (j - S) u h
   exact ⟨i + 1, r, by simpa using hi, hr, by rw [Nat.succ_mul]; omega, hu⟩
theorem c4 : Tryz.prog.cellsOf 4 = 1 := by kernel_rfl
theorem c22 : Tryz.prog.cellsOf 22 = 1 := by kernel_rfl
theorem c23 : Tryz.prog.cellsOf 23 = 1 := by kernel_rfl
theorem c24 : Tryz.prog.cellsOf 24 = 1 := by kernel_rfl
theorem c25 : Tryz.prog.cellsOf 25 = 1 := by kernel_rfl
theorem c27 : Tryz.prog.cellsOf 27 = 6 := by kernel_rfl
theorem c42 : Tryz.prog.cellsOf 71 = 4 := by kernel_rfl
theorem c58 : Tryz.prog.cellsOf 64 = 5 := by kernel_rfl
theorem c59 : Tryz.prog.cellsOf 65 = 1 := by kernel_rfl
theorem c61 : Tryz.prog.cellsOf 67 = 3 := by kernel_rfl
theorem c63 : Tryz.prog.cellsOf 69 = 9 := by kernel_rfl
theorem by42 : Tryz.prog.bytesOf 71 = 32 := by kernel_rfl
theorem by58 : Tryz.prog.bytesOf 64 = 48 := by kernel_rfl
theorem by61 : Tryz.prog.bytesOf 67 = 48 := by kernel_rfl
theorem by63 : Tryz.prog.bytesOf 69 = 96 := by kernel_rfl
theorem cells_rows {α : Type} [Inhabited α] {ts e S : Nat} (hu : Tryz.prog.underlying ts = some (.slice e)) (hS : Tryz.prog.cellsOf e = S) (hS0 : 0 < S) (f : α → List Value) (Pr : α → Prop) (hf : ∀ y, (f y).length = S)
  (each : ∀ (fuel : Nat) (cs : List Value) (x : DataW H × List MemPlace), DataW.trod enc Tryz.prog w base spare held fuel e cs = some x → ∃ y, cs = f y ∧ Pr y) {fuel : Nat} {cs : List Value} {x : DataW H × List MemPlace} (h : DataW.trod enc Tryz.prog w base spare held fuel ts cs = some x) :
  ∃ (v : Value) (l : List α), cs = [v] ∧ SHas S w v l.length (rows f l) ∧ (∀ y ∈ l, Pr y) ∧ ∀ b, (DataW.weights Tryz.prog ts x.1).all (· ≤ b) = true → l.length * Tryz.prog.bytesOf e ≤ b := by
 rcases DataW.trod_slice hu h with ⟨h0, hx⟩ | ⟨a, len, cap, elems, rest, m, hm, hcs, hx, hba, hl, hmx, hlen, hel, _, _⟩
 ·exact ⟨_, [], h0, SHas.nil w S, (fun _ h => by cases h), fun b _ => by simp⟩
 ·have one : ∀ i, i < len → ∃ y : α, (∀ j u, (f y)[j]? = some u → w.cell? (a.add (i * S + j)) = some u) ∧ Pr y := by
   intro i hi
   have hi' := hel i hi
   rw [hS, List.getElem?_eq_getElem (by omega)] at hi'
   obtain ⟨cs', h1, h2⟩ := Option.bind_eq_some_iff.1 hi'
   obtain ⟨_, hlen', hcell⟩ := World.cells?_some h1
   obtain ⟨y, rfl, hy⟩ := each _ _ _ h2
   refine ⟨y, fun j u hu => ?_, hy⟩
   have hj : j < S := by have := (List.getElem?_eq_some_iff.1 hu).1; rw [hf] at this; exact this
   have e := hcell j (by omega)
   rw [Deep.add_add] at e
   rw [e]
   exact hu
  obtain ⟨g, hk⟩ := Deep.choose_lt one
  have hll : ((List.range len).map g).length = len := by simp
  refine ⟨_, (List.range len).map g, hcs, ⟨by rw [hll]; omega, by rw [rows_length hf], .inr ⟨a, cap, by rw [hll], ⟨by rw [hll]; omega, by omega⟩, fun h0 => ?_⟩⟩, ?_, ?_⟩
  ·have h0' : 0 < len := by simpa using h0
   obtain ⟨b, off, spot⟩ := a
   obtain ⟨u0, hu0⟩ : ∃ u0, (f (g 0))[0]? = some u0 := ⟨(f (g 0))[0]'(by rw [hf]; exact hS0), List.getElem?_eq_getElem _⟩
   have q0 := (hk 0 h0').1 0 _ hu0
   have hspot : spot = none := by simpa [Addr.add] using World.cell?_spot q0
   subst hspot
   refine ⟨b, off, rfl, fun j u hu => ?_⟩
   obtain ⟨i, r, hi, hr, rfl, hq⟩ := rows_split hf _ j u hu
   have hi' : i < len := by simpa using hi
   have := (hk i hi').1 r u (by simpa using hq)
   rw [Addr.add_mid] at this
   exact this
  ·intro y hy
   obtain ⟨i, hi, rfl⟩ := List.mem_map.1 hy
   exact (hk i (by simpa using hi)).2
  ·intro b hb
   rw [hx] at hb
   simp only [DataW.weights, hu, List.all_cons, Bool.and_eq_true, decide_eq_true_eq, List.length_map] at hb
   rw [hll, ← hlen]
   exact Nat.le_trans (Nat.mul_le_mul_right _ (Nat.le_add_right _ _)) hb.1
theorem cells_amount {fuel : Nat} {cs : List Value} {x : DataW H × List MemPlace} (h : DataW.trod enc Tryz.prog w base spare held fuel 71 cs = some x) : ∃ y : A, cs = y.cells := by
 obtain ⟨xs, k, rfl, _, hcl, hxl, hf⟩ := DataW.trod_struct Tryz.underlying71 h
 rw [c42] at hcl
 match xs, hxl, cs, hcl with
 | [y0, y1], _, [v0, v1, v2, v3], _ =>
  have g0 := hf 0 _ rfl
  have g1 := hf 1 _ rfl
  simp [c3, c40] at g0 g1
  obtain ⟨p, s, i, h0⟩ := cells_mark g0
  obtain ⟨n1, h1, _⟩ := DataW.trod_int Tryz.underlying3 g1
  simp at h0 h1
  exact ⟨⟨p, s, i, n1⟩, by rw [h0.1, h0.2.1, h0.2.2, h1]⟩
theorem cells_write {fuel : Nat} {cs : List Value} {x : DataW H × List MemPlace} (h : DataW.trod enc Tryz.prog w base spare held fuel 64 cs = some x) : ∃ y : Wt, cs = y.cells := by
 obtain ⟨xs, k, rfl, _, hcl, hxl, hf⟩ := DataW.trod_struct Tryz.underlying64 h
 rw [c58] at hcl
 match xs, hxl, cs, hcl with
 | [y0, y1, y2], _, [v0, v1, v2, v3, v4], _ =>
  have g0 := hf 0 _ rfl
  have g1 := hf 1 _ rfl
  have g2 := hf 2 _ rfl
  simp [c3, c9, c40] at g0 g1 g2
  obtain ⟨p, s, i, h0⟩ := cells_mark g0
  obtain ⟨n1, h1, _⟩ := DataW.trod_int Tryz.underlying3 g1
  obtain ⟨n2, h2, _⟩ := DataW.trod_string Tryz.underlying9 g2
  simp at h0 h1 h2
  exact ⟨⟨p, s, i, n1, n2⟩, by rw [h0.1, h0.2.1, h0.2.2, h1, h2]⟩
theorem cells_marks {fuel : Nat} {cs : List Value} {x : DataW H × List MemPlace} (h : DataW.trod enc Tryz.prog w base spare held fuel 65 cs = some x) : ∃ (v : Value) (l : List M), cs = [v] ∧ MHas w v l := by
 have hinh : Inhabited M := ⟨⟨0, 0, 0⟩⟩
 obtain ⟨v, l, h1, h2, _⟩ := cells_rows (α := M) Tryz.underlying65 c40 (by decide) M.cells (fun _ => True) M.len (fun fuel cs x hx => by
  obtain ⟨p, s, i, e⟩ := cells_mark hx
  exact ⟨⟨p, s, i⟩, e, trivial⟩) h
 exact ⟨v, l, h1, h2⟩
theorem cells_member {fuel : Nat} {cs : List Value} {x : DataW H × List MemPlace} (h : DataW.trod enc Tryz.prog w base spare held fuel 67 cs = some x) : ∃ y : Mb × Value, cs = Mb.cells y ∧ MHas w y.2 y.1.ms := by
 obtain ⟨xs, k, rfl, _, hcl, hxl, hf⟩ := DataW.trod_struct Tryz.underlying67 h
 rw [c61] at hcl
 match xs, hxl, cs, hcl with
 | [y0, y1, y2], _, [v0, v1, v2], _ =>
  have g0 := hf 0 _ rfl
  have g1 := hf 1 _ rfl
  have g2 := hf 2 _ rfl
  simp [c9, c4, c59] at g0 g1 g2
  obtain ⟨n0, h0, _⟩ := DataW.trod_string Tryz.underlying9 g0
  obtain ⟨n1, h1, _⟩ := DataW.trod_bool Tryz.underlying4 g1
  obtain ⟨v, l, h2, hm⟩ := cells_marks g2
  simp at h0 h1 h2
  exact ⟨(⟨n0, n1, l⟩, v), by rw [h0, h1, h2], hm⟩
theorem cells_elem {fuel : Nat} {cs : List Value} {x : DataW H × List MemPlace} (h : DataW.trod enc Tryz.prog w base spare held fuel 69 cs = some x) : ∃ y : El × Value, cs = El.cells y ∧ MHas w y.2 y.1.gone := by
 obtain ⟨xs, k, rfl, _, hcl, hxl, hf⟩ := DataW.trod_struct Tryz.underlying69 h
 rw [c63] at hcl
 match xs, hxl, cs, hcl with
 | [y0, y1, y2, y3, y4], _, [v0, v1, v2, v3, v4, v5, v6, v7, v8], _ =>
  have g0 := hf 0 _ rfl
  have g1 := hf 1 _ rfl
  have g2 := hf 2 _ rfl
  have g3 := hf 3 _ rfl
  have g4 := hf 4 _ rfl
  simp [c9, c3, c40, c59] at g0 g1 g2 g3 g4
  obtain ⟨p, s, i, h0⟩ := cells_mark g0
  obtain ⟨n1, h1, _⟩ := DataW.trod_int Tryz.underlying3 g1
  obtain ⟨q, u, j, h2⟩ := cells_mark g2
  obtain ⟨n3, h3, _⟩ := DataW.trod_string Tryz.underlying9 g3
  obtain ⟨v, l, h4, hm⟩ := cells_marks g4
  simp at h0 h1 h2 h3 h4
  exact ⟨(⟨p, s, i, n1, q, u, j, n3, l⟩, v), by rw [h0.1, h0.2.1, h0.2.2, h1, h2.1, h2.2.1, h2.2.2, h3, h4], hm⟩
theorem cells_cell {fuel : Nat} {cs : List Value} {d : DataW H × List MemPlace} (h : DataW.trod enc Tryz.prog w base spare held fuel 27 cs = some d) : ∃ (x : X) (va vw vm ve : Value), cs = (cvc x.k x.b va vw vm ve).toList ∧ Four w x va vw vm ve ∧ ((DataW.weights Tryz.prog 27 d.1).all (· ≤ reachBytes) = true → Lk x) := by
 obtain ⟨xs, k, rfl, hd, hcl, hxl, hf⟩ := DataW.trod_struct Tryz.underlying27 h
 rw [c27] at hcl
 match xs, hxl, cs, hcl with
 | [y0, y1, y2, y3, y4, y5], _, [v0, v1, v2, v3, v4, v5], _ =>
  have g0 := hf 0 _ rfl
  have g1 := hf 1 _ rfl
  have g2 := hf 2 _ rfl
  have g3 := hf 3 _ rfl
  have g4 := hf 4 _ rfl
  have g5 := hf 5 _ rfl
  simp [c3, c22, c23, c24, c25] at g0 g1 g2 g3 g4 g5
  obtain ⟨n0, h0, _⟩ := DataW.trod_int Tryz.underlying3 g0
  obtain ⟨n1, h1, _⟩ := DataW.trod_int Tryz.underlying3 g1
  have i1 : Inhabited A := ⟨⟨0, 0, 0, 0⟩⟩
  have i2 : Inhabited Wt := ⟨⟨0, 0, 0, 0, noS⟩⟩
  have i3 : Inhabited (Mb × Value) := ⟨(⟨noS, false, []⟩, .bool false)⟩
  have i4 : Inhabited (El × Value) := ⟨(⟨0, 0, 0, 0, 0, 0, 0, noS, []⟩, .bool false)⟩
  obtain ⟨va, la, h2, ha, _, wa⟩ := cells_rows (α := A) Tryz.underlying22 c42 (by decide) A.cells (fun _ => True) A.len (fun fuel cs x hx => by
   obtain ⟨y, e⟩ := cells_amount hx
   exact ⟨y, e, trivial⟩) g2
  obtain ⟨vw, lw, h3, hw, _, ww⟩ := cells_rows (α := Wt) Tryz.underlying23 c58 (by decide) Wt.cells (fun _ => True) Wt.len (fun fuel cs x hx => by
   obtain ⟨y, e⟩ := cells_write hx
   exact ⟨y, e, trivial⟩) g3
  obtain ⟨vm, lm, h4, hm, pm, wm⟩ := cells_rows (α := Mb × Value) Tryz.underlying24 c61 (by decide) Mb.cells (fun y => MHas w y.2 y.1.ms) Mb.len (fun fuel cs x hx => cells_member hx) g4
  obtain ⟨ve, le, h5, he, pe, we⟩ := cells_rows (α := El × Value) Tryz.underlying25 c63 (by decide) El.cells (fun y => MHas w y.2 y.1.gone) El.len (fun fuel cs x hx => cells_elem hx) g5
  simp at h0 h1 h2 h3 h4 h5
  refine ⟨⟨n0, n1, la, lw, lm.map (·.1), le.map (·.1)⟩, va, vw, vm, ve, by rw [h0, h1, h2, h3, h4, h5], ⟨ha, hw, ⟨lm, rfl, by rw [List.length_map]; exact hm, pm⟩, ⟨le, rfl, by rw [List.length_map]; exact he, pe⟩⟩, fun hb => ?_⟩
  rw [hd] at hb
  simp only [DataW.weights, Tryz.underlying27, List.map_cons, List.map_nil, DataW.weightsEach, List.all_append, Bool.and_eq_true] at hb
  obtain ⟨_, _, b2, b3, b4, b5, _⟩ := hb
  have q2 := wa _ b2
  have q3 := ww _ b3
  have q4 := wm _ b4
  have q5 := we _ b5
  rw [by42] at q2
  rw [by58] at q3
  rw [by61] at q4
  rw [by63] at q5
  have hr : reachBytes = 140737488351232 := rfl
  rw [hr] at q2 q3 q4 q5
  exact ⟨by show la.length ≤ _; omega, by show lw.length ≤ _; omega, by show (lm.map _).length ≤ _; rw [List.length_map]; omega, by show (le.map _).length ≤ _; rw [List.length_map]; omega⟩
variable {r : Reach} {b0 : Nat} {v : Value} {d : DataW H} {ps : List MemPlace}
theorem open_tx (hval : Value.okWide Tryz.prog w r b0 34 v) (hd : DataW.Trod enc Tryz.prog w base spare held 34 v d ps) : ∃ (p s : Int) (u : List Int) (t : Int) (sl : Value) (l : List O), v = TxV p s u t sl ∧ u.length = 13 ∧ OIs w sl l := by
 obtain ⟨fuel, hf⟩ := hd
 simp only [Value.okWide, Tryz.underlying34] at hval
 obtain ⟨cs, rfl, _⟩ := hval
 obtain ⟨p, s, u, t, sl, l, e, hu, hl⟩ := cells_tx hf
 exact ⟨p, s, u, t, sl, l, by rw [show cs = (txc p s u t sl).toArray from Array.toList_inj.1 e], hu, hl⟩
theorem open_cell (hval : Value.okWide Tryz.prog w r b0 27 v) (hd : DataW.Trod enc Tryz.prog w base spare held 27 v d ps) : ∃ (x : X) (va vw vm ve : Value), v = CV x.k x.b va vw vm ve ∧ Four w x va vw vm ve ∧ ((DataW.weights Tryz.prog 27 d).all (· ≤ reachBytes) = true → Lk x) := by
 obtain ⟨fuel, hf⟩ := hd
 simp only [Value.okWide, Tryz.underlying27] at hval
 obtain ⟨cs, rfl, _⟩ := hval
 obtain ⟨x, va, vw, vm, ve, e, h1, h2⟩ := cells_cell hf
 exact ⟨x, va, vw, vm, ve, by rw [show cs = cvc x.k x.b va vw vm ve from Array.toList_inj.1 e], h1, h2⟩
end
end Go.Proofs.YtjbbmcommnhgeaaGreat
