/- Arguments that are marks, dots, updates, ops, transactions. -/
import Derived.Test.YtefpdcpcjfjblaaRm
import Derived.Deep.Slices
namespace Go.Proofs.Ytefpdcpcjfjblaa
open Go.ChangeShapes Go.WideShapes Go.ChangeAt Go.RowKit

/-- A slice of ops that is nil, or lies somewhere. -/
def OIs (w : World) (v : Value) (l : List O) : Prop := l.length ≤ maxLen ∧ ((v = .slice none 0 0 ∧ l = []) ∨ ∃ ad c, v = .slice (some ad) l.length c ∧ (0 < l.length → ∃ g o, ad = ⟨g, o, none⟩ ∧ ∀ i (h : i < l.length), w.rangeAt g (o + i * 10) l[i].cells))
theorem OIs.has {w : World} {v : Value} {l : List O} (h : OIs w v l) : OHas w v l := by
  obtain ⟨hm, ⟨rfl, rfl⟩ | ⟨ad, c, rfl, hd⟩⟩ := h
  · exact ⟨none, 0, rfl, hm, fun h => by simp at h⟩
  · refine ⟨_, c, rfl, hm, fun h => ?_⟩
    obtain ⟨g, o, rfl, hd2⟩ := hd h
    exact ⟨g, o, rfl, hd2⟩
theorem OIs.later {w w' : World} {v : Value} {l : List O} (h : OIs w v l) (hb : Below w.heap.size w w') : OIs w' v l := by
  obtain ⟨hm, ⟨rfl, rfl⟩ | ⟨ad, c, rfl, hd⟩⟩ := h
  · exact ⟨hm, .inl ⟨rfl, rfl⟩⟩
  · refine ⟨hm, .inr ⟨ad, c, rfl, fun h => ?_⟩⟩
    obtain ⟨g, o, rfl, hd2⟩ := hd h
    exact ⟨g, o, rfl, fun i hi => range_later (hd2 i hi) hb⟩
theorem vals_of_ints : ∀ (cs : List Value), (∀ i (h : i < cs.length), ∃ n : Int, cs[i] = .int .i64 n) → ∃ l : List Int, cs = vals l
  | [], _ => ⟨[], rfl⟩
  | c :: cs, h => by
    obtain ⟨n, hn⟩ := h 0 (by simp)
    obtain ⟨l, hl⟩ := vals_of_ints cs (fun i hi => by have := h (i + 1) (by simpa using hi); simpa using this)
    refine ⟨n :: l, ?_⟩
    simp only [List.getElem_cons_zero] at hn
    rw [hn, hl]
    rfl

section
variable {H : Type} {enc : TypeId × Value → H} {w : World} {base : Nat} {spare : Nat → Bool} {held : Bool}
theorem c3 : Try.prog.cellsOf 3 = 1 := by kernel_rfl
theorem c9 : Try.prog.cellsOf 9 = 1 := by kernel_rfl
theorem c23 : Try.prog.cellsOf 29 = 2 := by kernel_rfl
theorem c25 : Try.prog.cellsOf 31 = 13 := by kernel_rfl
theorem c26 : Try.prog.cellsOf 32 = 1 := by kernel_rfl
theorem c33 : Try.prog.cellsOf 44 = 3 := by kernel_rfl
theorem c35 : Try.prog.cellsOf 46 = 10 := by kernel_rfl
theorem c28 : Try.prog.cellsOf 34 = 17 := by kernel_rfl
set_option maxRecDepth 100000 in
theorem cells_dot {fuel : Nat} {cs : List Value} {x : DataW H × List MemPlace} (h : DataW.trod enc Try.prog w base spare held fuel 29 cs = some x) : ∃ p s, cs = [.int .i64 p, .int .i64 s] := by
  obtain ⟨xs, k, rfl, _, hcl, hxl, hf⟩ := DataW.trod_struct Try.underlying29 h
  rw [c23] at hcl
  match xs, hxl, cs, hcl with
  | [y0, y1], _, [v0, v1], _ =>
    have g0 := hf 0 _ rfl
    have g1 := hf 1 _ rfl
    simp [c3] at g0 g1
    obtain ⟨n0, h0, _⟩ := DataW.trod_int Try.underlying3 g0
    obtain ⟨n1, h1, _⟩ := DataW.trod_int Try.underlying3 g1
    simp at h0 h1
    exact ⟨n0, n1, by rw [h0, h1]⟩
set_option maxRecDepth 100000 in
theorem cells_mark {fuel : Nat} {cs : List Value} {x : DataW H × List MemPlace} (h : DataW.trod enc Try.prog w base spare held fuel 44 cs = some x) : ∃ p s i, cs = [.int .i64 p, .int .i64 s, .int .i64 i] := by
  obtain ⟨xs, k, rfl, _, hcl, hxl, hf⟩ := DataW.trod_struct Try.underlying44 h
  rw [c33] at hcl
  match xs, hxl, cs, hcl with
  | [y0, y1], _, [v0, v1, v2], _ =>
    have g0 := hf 0 _ rfl
    have g1 := hf 1 _ rfl
    simp [c3, c23] at g0 g1
    obtain ⟨p, s, h0⟩ := cells_dot g0
    obtain ⟨n1, h1, _⟩ := DataW.trod_int Try.underlying3 g1
    simp at h0 h1
    exact ⟨p, s, n1, by rw [h0.1, h0.2, h1]⟩
set_option maxRecDepth 100000 in
theorem cells_op {fuel : Nat} {cs : List Value} {x : DataW H × List MemPlace} (h : DataW.trod enc Try.prog w base spare held fuel 46 cs = some x) : ∃ o : O, cs = o.cells := by
  obtain ⟨xs, k, rfl, _, hcl, hxl, hf⟩ := DataW.trod_struct Try.underlying46 h
  rw [c35] at hcl
  match xs, hxl, cs, hcl with
  | [y0, y1, y2, y3, y4, y5, y6, y7], _, [v0, v1, v2, v3, v4, v5, v6, v7, v8, v9], _ =>
    have g0 := hf 0 _ rfl
    have g1 := hf 1 _ rfl
    have g2 := hf 2 _ rfl
    have g3 := hf 3 _ rfl
    have g4 := hf 4 _ rfl
    have g5 := hf 5 _ rfl
    have g6 := hf 6 _ rfl
    have g7 := hf 7 _ rfl
    simp [c3, c9, c33] at g0 g1 g2 g3 g4 g5 g6 g7
    obtain ⟨n0, h0, _⟩ := DataW.trod_int Try.underlying3 g0
    obtain ⟨n1, h1, _⟩ := DataW.trod_string Try.underlying9 g1
    obtain ⟨n2, h2, _⟩ := DataW.trod_string Try.underlying9 g2
    obtain ⟨n3, h3, _⟩ := DataW.trod_int Try.underlying3 g3
    obtain ⟨n4, h4, _⟩ := DataW.trod_int Try.underlying3 g4
    obtain ⟨n5, h5, _⟩ := DataW.trod_int Try.underlying3 g5
    obtain ⟨n6, h6, _⟩ := DataW.trod_string Try.underlying9 g6
    obtain ⟨p, s, i, h7⟩ := cells_mark g7
    simp at h0 h1 h2 h3 h4 h5 h6 h7
    obtain ⟨h7, h8, h9⟩ := h7
    exact ⟨⟨n0, n1, n2, n3, n4, n5, n6, p, s, i⟩, by rw [h0, h1, h2, h3, h4, h5, h6, h7, h8, h9]⟩
set_option maxRecDepth 100000 in
theorem cells_ops {fuel : Nat} {cs : List Value} {x : DataW H × List MemPlace} (h : DataW.trod enc Try.prog w base spare held fuel 32 cs = some x) : ∃ (v : Value) (l : List O), cs = [v] ∧ OIs w v l := by
  rcases DataW.trod_slice Try.underlying32 h with ⟨h0, _⟩ | ⟨a, len, cap, elems, rest, m, hm, hcs, _, hba, hl, hmx, hlen, hel, _, _⟩
  · exact ⟨_, [], h0, Nat.zero_le _, .inl ⟨rfl, rfl⟩⟩
  · have each : ∀ i, i < len → ∃ o : O, ∀ j u, o.cells[j]? = some u → w.cell? (a.add (i * 10 + j)) = some u := by
      intro i hi
      have hi' := hel i hi
      rw [c35, List.getElem?_eq_getElem (by omega)] at hi'
      obtain ⟨cs', h1, h2⟩ := Option.bind_eq_some_iff.1 hi'
      obtain ⟨_, hlen', hcell⟩ := World.cells?_some h1
      obtain ⟨o, rfl⟩ := cells_op h2
      refine ⟨o, fun j u hu => ?_⟩
      have hj : j < 10 := (List.getElem?_eq_some_iff.1 hu).1
      have e := hcell j (by omega)
      rw [Deep.add_add] at e
      rw [e]
      exact hu
    have hinh : Inhabited O := ⟨⟨0, noS, noS, 0, 0, 0, noS, 0, 0, 0⟩⟩
    obtain ⟨f, hk⟩ := Deep.choose_lt each
    refine ⟨_, (List.range len).map f, hcs, by simp; omega, .inr ⟨a, cap, by simp, fun h0 => ?_⟩⟩
    have h0' : 0 < len := by simpa using h0
    obtain ⟨b, off, spot⟩ := a
    have q0 := hk 0 h0' 0 _ rfl
    have hspot : spot = none := by simpa [Addr.add] using World.cell?_spot q0
    subst hspot
    refine ⟨b, off, rfl, fun i hi j u hu => ?_⟩
    have hi' : i < len := by simpa using hi
    have := hk i hi' j u (by simpa using hu)
    rw [Addr.add_mid] at this
    rw [Nat.add_assoc]
    exact this
set_option maxRecDepth 100000 in
theorem cells_tx {fuel : Nat} {cs : List Value} {x : DataW H × List MemPlace} (h : DataW.trod enc Try.prog w base spare held fuel 34 cs = some x) : ∃ (p s : Int) (v : List Int) (t : Int) (sl : Value) (l : List O), cs = txc p s v t sl ∧ v.length = 13 ∧ OIs w sl l := by
  obtain ⟨xs, k, rfl, _, hcl, hxl, hf⟩ := DataW.trod_struct Try.underlying34 h
  rw [c28] at hcl
  match xs, hxl with
  | [y0, y1, y2, y3], _ =>
    have g0 := hf 0 _ rfl
    have g1 := hf 1 _ rfl
    have g2 := hf 2 _ rfl
    have g3 := hf 3 _ rfl
    simp [c3, c23, c25, c26] at g0 g1 g2 g3
    obtain ⟨p, s, h0⟩ := cells_dot g0
    obtain ⟨xs1, m, _, _, hlen, hxs, hi⟩ := DataW.trod_array Try.underlying31 g1
    obtain ⟨v, hv⟩ := vals_of_ints ((cs.drop 2).take 13) (fun i hlt => by
      have hi13 : i < 13 := by simp at hlt; omega
      have hq := hi i hi13
      rw [c3, List.getElem?_eq_getElem (show i < xs1.length by omega)] at hq
      obtain ⟨n, hn, _⟩ := DataW.trod_int Try.underlying3 hq
      refine ⟨n, ?_⟩
      rw [Nat.mul_one, List.drop_eq_getElem_cons hlt] at hn
      simpa using hn)
    have hv13 : v.length = 13 := by
      have := congrArg List.length hv
      rw [vals_length] at this
      simp at this
      omega
    obtain ⟨t, h2, _⟩ := DataW.trod_int Try.underlying3 g2
    obtain ⟨sl, l, h3, hl⟩ := cells_ops g3
    refine ⟨p, s, v, t, sl, l, ?_, hv13, hl⟩
    unfold txc
    rw [← hv]
    match cs, hcl with
    | [a0, a1, a2, a3, a4, a5, a6, a7, a8, a9, a10, a11, a12, a13, a14, a15, a16], _ =>
      simp at h0 h2 h3 ⊢
      exact ⟨h0.1, h0.2, h2, h3⟩

variable {r : Reach} {b0 : Nat} {v : Value} {d : DataW H} {ps : List MemPlace}
theorem open_tx (hval : Value.okWide Try.prog w r b0 34 v) (hd : DataW.Trod enc Try.prog w base spare held 34 v d ps) : ∃ (p s : Int) (u : List Int) (t : Int) (sl : Value) (l : List O), v = TxV p s u t sl ∧ u.length = 13 ∧ OIs w sl l := by
  obtain ⟨fuel, hf⟩ := hd
  simp only [Value.okWide, Try.underlying34] at hval
  obtain ⟨cs, rfl, _⟩ := hval
  obtain ⟨p, s, u, t, sl, l, e, hu, hl⟩ := cells_tx hf
  exact ⟨p, s, u, t, sl, l, by rw [show cs = (txc p s u t sl).toArray from Array.toList_inj.1 e], hu, hl⟩
set_option maxRecDepth 100000 in
theorem open_vec (hval : Value.okWide Try.prog w r b0 31 v) (hd : DataW.Trod enc Try.prog w base spare held 31 v d ps) : ∃ l : List Int, v = V l ∧ l.length = 13 := by
  obtain ⟨fuel, hf⟩ := hd
  simp only [Value.okWide, Try.underlying31] at hval
  obtain ⟨cs, rfl, _⟩ := hval
  obtain ⟨xs1, m, _, _, hlen, hxs, hi⟩ := DataW.trod_array Try.underlying31 hf
  obtain ⟨u, hu⟩ := vals_of_ints (Value.agg cs).cells.toList (fun i hlt => by
    have hi13 : i < 13 := by rw [hlen, c25] at hlt; exact hlt
    have hq := hi i hi13
    rw [c3, List.getElem?_eq_getElem (show i < xs1.length by omega)] at hq
    obtain ⟨n, hn, _⟩ := DataW.trod_int Try.underlying3 hq
    refine ⟨n, ?_⟩
    rw [Nat.mul_one, List.drop_eq_getElem_cons hlt] at hn
    simpa using hn)
  have e : cs.toList = vals u := hu
  refine ⟨u, by rw [show cs = (vals u).toArray from Array.toList_inj.1 e], ?_⟩
  have := congrArg List.length e
  rw [vals_length] at this
  rw [← this]
  have h2 := hlen
  rw [c25] at h2
  exact h2
end
/-- A list of numbers. -/
theorem open_il {H : Type} {enc : TypeId × Value → H} {w : World} {r : Reach} {b0 : Nat} {v : Value} {d : DataW H} {ps : List MemPlace} (hval : Value.okWide Try.prog w r b0 22 v) (hd : DataW.Trod enc Try.prog w 0 (fun _ => true) true 22 v d ps) : ∃ l : List Int, IHas w v l := by
  obtain ⟨a, len, cap, rfl⟩ := okWide_slice Try.underlying22 hval
  obtain ⟨fuel, hf⟩ := hd
  rcases open_ints Try.underlying22 Try.underlying3 (by kernel_rfl) hf with ⟨hcs, _⟩ | ⟨x, l, c, zs, hcs, _, hl, hm, hz, _, hcell, hwz⟩
  · simp [Value.cells] at hcs
    obtain ⟨rfl, rfl, rfl⟩ := hcs
    exact ⟨[], SHas.nil _ _⟩
  · simp [Value.cells] at hcs
    obtain ⟨rfl, rfl, rfl⟩ := hcs
    have hz' : zs.length = cap := by simpa using hz
    have hlen : (zs.take len).length = len := by rw [List.length_take]; omega
    refine ⟨zs.take len, ?_⟩
    unfold IHas
    rw [hlen]
    refine ⟨by omega, by rw [vals_length, hlen, Nat.mul_one], .inr ⟨x, cap, rfl, ⟨hl, hm⟩, fun hp => ?_⟩⟩
    obtain ⟨b, o, spot⟩ := x
    have hc0 := hcell 0 (by omega)
    have hspot : spot = none := by simpa [Addr.add] using World.cell?_spot hc0
    subst hspot
    refine ⟨b, o, rfl, fun j u hu => ?_⟩
    have hj : j < (zs.take len).length := by
      have := (List.getElem?_eq_some_iff.1 hu).1
      rwa [vals_length] at this
    have hjl : j < len := by rw [hlen] at hj; exact hj
    have hc := hcell j (by omega)
    rw [Addr.add_lit] at hc
    rw [hc, ← hu]
    simp [vals, hjl, List.getD_eq_getElem?_getD, List.getElem?_eq_getElem (show j < zs.length by omega)]
end Go.Proofs.Ytefpdcpcjfjblaa
