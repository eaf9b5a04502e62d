/- Arguments that are marks, dots, updates, ops, transactions. -/
import Derived.Test.YtiijkoefhmohcaaRes
import Derived.Deep.Slices
namespace Go.Proofs.Ytiijkoefhmohcaa
open Go.ChangeShapes Go.WideShapes Go.ChangeAt Go.RowKit

theorem vals_of_ints : ∀ (cs : List Value), (∀ i (h : i < cs.length), ∃ n : Int, cs[i] = .int .i64 n) → ∃ l : List Int, cs = vals l
  | [], _ => ⟨[], rfl⟩
  | c :: cs, h => by
    obtain ⟨n, hn⟩ := h 0 (by simp)
    obtain ⟨l, hl⟩ := vals_of_ints cs (fun i hi => by have := h (i + 1) (by simpa using hi); simpa using this)
    refine ⟨n :: l, ?_⟩
    simp only [List.getElem_cons_zero] at hn
    rw [hn, hl]
    rfl

section
variable {H : Type} {enc : TypeId × Value → H} {w : World} {base : Nat} {spare : Nat → Bool} {held : Bool}
theorem c3 : Try.prog.cellsOf 3 = 1 := by kernel_rfl
theorem c9 : Try.prog.cellsOf 9 = 1 := by kernel_rfl
theorem c23 : Try.prog.cellsOf 23 = 2 := by kernel_rfl
theorem c25 : Try.prog.cellsOf 25 = 13 := by kernel_rfl
theorem c26 : Try.prog.cellsOf 26 = 1 := by kernel_rfl
theorem c33 : Try.prog.cellsOf 33 = 3 := by kernel_rfl
theorem c35 : Try.prog.cellsOf 35 = 10 := by kernel_rfl
theorem c39 : Try.prog.cellsOf 39 = 8 := by kernel_rfl
theorem c28 : Try.prog.cellsOf 28 = 17 := by kernel_rfl
theorem cells_dot {fuel : Nat} {cs : List Value} {x : DataW H × List MemPlace} (h : DataW.trod enc Try.prog w base spare held fuel 23 cs = some x) : ∃ p s, cs = [.int .i64 p, .int .i64 s] := by
  obtain ⟨xs, k, rfl, _, hcl, hxl, hf⟩ := DataW.trod_struct Try.underlying23 h
  rw [c23] at hcl
  match xs, hxl, cs, hcl with
  | [y0, y1], _, [v0, v1], _ =>
    have g0 := hf 0 _ rfl
    have g1 := hf 1 _ rfl
    simp [c3] at g0 g1
    obtain ⟨n0, h0, _⟩ := DataW.trod_int Try.underlying3 g0
    obtain ⟨n1, h1, _⟩ := DataW.trod_int Try.underlying3 g1
    simp at h0 h1
    exact ⟨n0, n1, by rw [h0, h1]⟩
theorem cells_mark {fuel : Nat} {cs : List Value} {x : DataW H × List MemPlace} (h : DataW.trod enc Try.prog w base spare held fuel 33 cs = some x) : ∃ p s i, cs = [.int .i64 p, .int .i64 s, .int .i64 i] := by
  obtain ⟨xs, k, rfl, _, hcl, hxl, hf⟩ := DataW.trod_struct Try.underlying33 h
  rw [c33] at hcl
  match xs, hxl, cs, hcl with
  | [y0, y1], _, [v0, v1, v2], _ =>
    have g0 := hf 0 _ rfl
    have g1 := hf 1 _ rfl
    simp [c3, c23] at g0 g1
    obtain ⟨p, s, h0⟩ := cells_dot g0
    obtain ⟨n1, h1, _⟩ := DataW.trod_int Try.underlying3 g1
    simp at h0 h1
    exact ⟨p, s, n1, by rw [h0.1, h0.2, h1]⟩
theorem cells_update {fuel : Nat} {cs : List Value} {x : DataW H × List MemPlace} (h : DataW.trod enc Try.prog w base spare held fuel 39 cs = some x) : ∃ (k : Int) (key field : ByteArray) (inner act n : Int) (text : ByteArray) (pl : Int), cs = [.int .i64 k, .string key, .string field, .int .i64 inner, .int .i64 act, .int .i64 n, .string text, .int .i64 pl] := by
  obtain ⟨xs, k, rfl, _, hcl, hxl, hf⟩ := DataW.trod_struct Try.underlying39 h
  rw [c39] at hcl
  match xs, hxl, cs, hcl with
  | [y0, y1, y2, y3, y4, y5, y6, y7], _, [v0, v1, v2, v3, v4, v5, v6, v7], _ =>
    have g0 := hf 0 _ rfl
    have g1 := hf 1 _ rfl
    have g2 := hf 2 _ rfl
    have g3 := hf 3 _ rfl
    have g4 := hf 4 _ rfl
    have g5 := hf 5 _ rfl
    have g6 := hf 6 _ rfl
    have g7 := hf 7 _ rfl
    simp [c3, c9] at g0 g1 g2 g3 g4 g5 g6 g7
    obtain ⟨n0, h0, _⟩ := DataW.trod_int Try.underlying3 g0
    obtain ⟨n1, h1, _⟩ := DataW.trod_string Try.underlying9 g1
    obtain ⟨n2, h2, _⟩ := DataW.trod_string Try.underlying9 g2
    obtain ⟨n3, h3, _⟩ := DataW.trod_int Try.underlying3 g3
    obtain ⟨n4, h4, _⟩ := DataW.trod_int Try.underlying3 g4
    obtain ⟨n5, h5, _⟩ := DataW.trod_int Try.underlying3 g5
    obtain ⟨n6, h6, _⟩ := DataW.trod_string Try.underlying9 g6
    obtain ⟨n7, h7, _⟩ := DataW.trod_int Try.underlying3 g7
    simp at h0 h1 h2 h3 h4 h5 h6 h7
    exact ⟨n0, n1, n2, n3, n4, n5, n6, n7, by rw [h0, h1, h2, h3, h4, h5, h6, h7]⟩
theorem cells_op {fuel : Nat} {cs : List Value} {x : DataW H × List MemPlace} (h : DataW.trod enc Try.prog w base spare held fuel 35 cs = some x) : ∃ o : O, cs = o.cells := by
  obtain ⟨xs, k, rfl, _, hcl, hxl, hf⟩ := DataW.trod_struct Try.underlying35 h
  rw [c35] at hcl
  match xs, hxl, cs, hcl with
  | [y0, y1, y2, y3, y4, y5, y6, y7], _, [v0, v1, v2, v3, v4, v5, v6, v7, v8, v9], _ =>
    have g0 := hf 0 _ rfl
    have g1 := hf 1 _ rfl
    have g2 := hf 2 _ rfl
    have g3 := hf 3 _ rfl
    have g4 := hf 4 _ rfl
    have g5 := hf 5 _ rfl
    have g6 := hf 6 _ rfl
    have g7 := hf 7 _ rfl
    simp [c3, c9, c33] at g0 g1 g2 g3 g4 g5 g6 g7
    obtain ⟨n0, h0, _⟩ := DataW.trod_int Try.underlying3 g0
    obtain ⟨n1, h1, _⟩ := DataW.trod_string Try.underlying9 g1
    obtain ⟨n2, h2, _⟩ := DataW.trod_string Try.underlying9 g2
    obtain ⟨n3, h3, _⟩ := DataW.trod_int Try.underlying3 g3
    obtain ⟨n4, h4, _⟩ := DataW.trod_int Try.underlying3 g4
    obtain ⟨n5, h5, _⟩ := DataW.trod_int Try.underlying3 g5
    obtain ⟨n6, h6, _⟩ := DataW.trod_string Try.underlying9 g6
    obtain ⟨p, s, i, h7⟩ := cells_mark g7
    simp at h0 h1 h2 h3 h4 h5 h6 h7
    obtain ⟨h7, h8, h9⟩ := h7
    exact ⟨⟨n0, n1, n2, n3, n4, n5, n6, p, s, i⟩, by rw [h0, h1, h2, h3, h4, h5, h6, h7, h8, h9]⟩
theorem cells_ops {fuel : Nat} {cs : List Value} {x : DataW H × List MemPlace} (h : DataW.trod enc Try.prog w base spare held fuel 26 cs = some x) : ∃ (v : Value) (l : List O), cs = [v] ∧ OIs w v l := by
  rcases DataW.trod_slice Try.underlying26 h with ⟨h0, _⟩ | ⟨a, len, cap, elems, rest, m, hm, hcs, _, hba, hl, hmx, hlen, hel, _, _⟩
  · exact ⟨_, [], h0, Nat.zero_le _, .inl ⟨rfl, rfl⟩⟩
  · have each : ∀ i, i < len → ∃ o : O, ∀ j u, o.cells[j]? = some u → w.cell? (a.add (i * 10 + j)) = some u := by
      intro i hi
      have hi' := hel i hi
      rw [c35, List.getElem?_eq_getElem (by omega)] at hi'
      obtain ⟨cs', h1, h2⟩ := Option.bind_eq_some_iff.1 hi'
      obtain ⟨_, hlen', hcell⟩ := World.cells?_some h1
      obtain ⟨o, rfl⟩ := cells_op h2
      refine ⟨o, fun j u hu => ?_⟩
      have hj : j < 10 := (List.getElem?_eq_some_iff.1 hu).1
      have e := hcell j (by omega)
      rw [Deep.add_add] at e
      rw [e]
      exact hu
    have hinh : Inhabited O := ⟨⟨0, noS, noS, 0, 0, 0, noS, 0, 0, 0⟩⟩
    obtain ⟨f, hk⟩ := Deep.choose_lt each
    refine ⟨_, (List.range len).map f, hcs, by simp; omega, .inr ⟨a, cap, by simp, fun h0 => ?_⟩⟩
    have h0' : 0 < len := by simpa using h0
    obtain ⟨b, off, spot⟩ := a
    have q0 := hk 0 h0' 0 _ rfl
    have hspot : spot = none := by simpa [Addr.add] using World.cell?_spot q0
    subst hspot
    refine ⟨b, off, rfl, fun i hi j u hu => ?_⟩
    have hi' : i < len := by simpa using hi
    have := hk i hi' j u (by simpa using hu)
    rw [Addr.add_mid] at this
    rw [Nat.add_assoc]
    exact this
theorem cells_tx {fuel : Nat} {cs : List Value} {x : DataW H × List MemPlace} (h : DataW.trod enc Try.prog w base spare held fuel 28 cs = some x) : ∃ (p s : Int) (v : List Int) (t : Int) (sl : Value) (l : List O), cs = txc p s v t sl ∧ v.length = 13 ∧ OIs w sl l := by
  obtain ⟨xs, k, rfl, _, hcl, hxl, hf⟩ := DataW.trod_struct Try.underlying28 h
  rw [c28] at hcl
  match xs, hxl with
  | [y0, y1, y2, y3], _ =>
    have g0 := hf 0 _ rfl
    have g1 := hf 1 _ rfl
    have g2 := hf 2 _ rfl
    have g3 := hf 3 _ rfl
    simp [c3, c23, c25, c26] at g0 g1 g2 g3
    obtain ⟨p, s, h0⟩ := cells_dot g0
    obtain ⟨xs1, m, _, _, hlen, hxs, hi⟩ := DataW.trod_array Try.underlying25 g1
    obtain ⟨v, hv⟩ := vals_of_ints ((cs.drop 2).take 13) (fun i hlt => by
      have hi13 : i < 13 := by simp at hlt; omega
      have hq := hi i hi13
      rw [c3, List.getElem?_eq_getElem (show i < xs1.length by omega)] at hq
      obtain ⟨n, hn, _⟩ := DataW.trod_int Try.underlying3 hq
      refine ⟨n, ?_⟩
      rw [Nat.mul_one, List.drop_eq_getElem_cons hlt] at hn
      simpa using hn)
    have hv13 : v.length = 13 := by
      have := congrArg List.length hv
      rw [vals_length] at this
      simp at this
      omega
    obtain ⟨t, h2, _⟩ := DataW.trod_int Try.underlying3 g2
    obtain ⟨sl, l, h3, hl⟩ := cells_ops g3
    refine ⟨p, s, v, t, sl, l, ?_, hv13, hl⟩
    unfold txc
    rw [← hv]
    match cs, hcl with
    | [a0, a1, a2, a3, a4, a5, a6, a7, a8, a9, a10, a11, a12, a13, a14, a15, a16], _ =>
      simp at h0 h2 h3 ⊢
      exact ⟨h0.1, h0.2, h2, h3⟩

variable {r : Reach} {b0 : Nat} {v : Value} {d : DataW H} {ps : List MemPlace}
theorem open_dot (hval : Value.okWide Try.prog w r b0 23 v) (hd : DataW.Trod enc Try.prog w base spare held 23 v d ps) : ∃ p s, v = D p s := by
  obtain ⟨fuel, hf⟩ := hd
  simp only [Value.okWide, Try.underlying23] at hval
  obtain ⟨cs, rfl, _⟩ := hval
  obtain ⟨p, s, e⟩ := cells_dot hf
  exact ⟨p, s, by rw [show cs = #[.int .i64 p, .int .i64 s] from Array.toList_inj.1 e]⟩
theorem open_mark (hval : Value.okWide Try.prog w r b0 33 v) (hd : DataW.Trod enc Try.prog w base spare held 33 v d ps) : ∃ p s i, v = MV p s i := by
  obtain ⟨fuel, hf⟩ := hd
  simp only [Value.okWide, Try.underlying33] at hval
  obtain ⟨cs, rfl, _⟩ := hval
  obtain ⟨p, s, i, e⟩ := cells_mark hf
  exact ⟨p, s, i, by rw [show cs = #[.int .i64 p, .int .i64 s, .int .i64 i] from Array.toList_inj.1 e]⟩
theorem open_update (hval : Value.okWide Try.prog w r b0 39 v) (hd : DataW.Trod enc Try.prog w base spare held 39 v d ps) : ∃ (k : Int) (key field : ByteArray) (inner act n : Int) (text : ByteArray) (pl : Int), v = UV k key field inner act n text pl := by
  obtain ⟨fuel, hf⟩ := hd
  simp only [Value.okWide, Try.underlying39] at hval
  obtain ⟨cs, rfl, _⟩ := hval
  obtain ⟨k, key, field, inner, act, n, text, pl, e⟩ := cells_update hf
  exact ⟨k, key, field, inner, act, n, text, pl, by rw [show cs = #[.int .i64 k, .string key, .string field, .int .i64 inner, .int .i64 act, .int .i64 n, .string text, .int .i64 pl] from Array.toList_inj.1 e]⟩
theorem open_op (hval : Value.okWide Try.prog w r b0 35 v) (hd : DataW.Trod enc Try.prog w base spare held 35 v d ps) : ∃ o : O, v = o.val := by
  obtain ⟨fuel, hf⟩ := hd
  simp only [Value.okWide, Try.underlying35] at hval
  obtain ⟨cs, rfl, _⟩ := hval
  obtain ⟨o, e⟩ := cells_op hf
  exact ⟨o, by rw [show cs = o.cells.toArray from Array.toList_inj.1 e]⟩
theorem open_tx (hval : Value.okWide Try.prog w r b0 28 v) (hd : DataW.Trod enc Try.prog w base spare held 28 v d ps) : ∃ (p s : Int) (u : List Int) (t : Int) (sl : Value) (l : List O), v = TxV p s u t sl ∧ u.length = 13 ∧ OIs w sl l := by
  obtain ⟨fuel, hf⟩ := hd
  simp only [Value.okWide, Try.underlying28] at hval
  obtain ⟨cs, rfl, _⟩ := hval
  obtain ⟨p, s, u, t, sl, l, e, hu, hl⟩ := cells_tx hf
  exact ⟨p, s, u, t, sl, l, by rw [show cs = (txc p s u t sl).toArray from Array.toList_inj.1 e], hu, hl⟩
end
end Go.Proofs.Ytiijkoefhmohcaa
