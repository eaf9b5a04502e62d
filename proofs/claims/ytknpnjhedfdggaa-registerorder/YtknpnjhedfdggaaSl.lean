/- Slices of rows of cells, of whatever width; amounts, marks, writes, members, elements, cells of them. Nothing of one function. -/
import Derived.Test.YtknpnjhedfdggaaTx
import Derived.Laws.AppendOwnNone
namespace Go.Proofs.Ytknpnjhedfdggaa
open Go.RowKit

/-- The slice v has n elements of S cells each, which are these. -/
def SHas (S : Nat) (w : World) (v : Value) (n : Nat) (xs : List Value) : Prop :=
  n ≤ maxLen ∧ xs.length = n * S ∧ ((v = .slice none 0 0 ∧ n = 0) ∨ ∃ ad c, v = .slice (some ad) n c ∧ (n ≤ c ∧ c ≤ maxLen) ∧ (0 < n → ∃ g o, ad = ⟨g, o, none⟩ ∧ w.rangeAt g o xs))
section
variable {S n : Nat} {w w' : World} {v : Value} {xs : List Value}
theorem SHas.later (h : SHas S w v n xs) (hb : Below w.heap.size w w') : SHas S w' v n xs := by
  obtain ⟨hm, hl, ⟨rfl, rfl⟩ | ⟨ad, c, rfl, hc, hd⟩⟩ := h
  · exact ⟨hm, hl, .inl ⟨rfl, rfl⟩⟩
  · refine ⟨hm, hl, .inr ⟨ad, c, rfl, hc, fun h => ?_⟩⟩
    obtain ⟨g, o, rfl, hd2⟩ := hd h
    exact ⟨g, o, rfl, range_later hd2 hb⟩
theorem SHas.drew (h : SHas S w v n xs) : SHas S w.drew v n xs := h
theorem SHas.slice (h : SHas S w v n xs) : ∃ p c, v = .slice p n c := by
  obtain ⟨hm, hl, ⟨rfl, rfl⟩ | ⟨ad, c, rfl, hc, hd⟩⟩ := h
  · exact ⟨none, 0, rfl⟩
  · exact ⟨_, _, rfl⟩
theorem SHas.at {p : Option Addr} {c : Nat} (h : SHas S w (.slice p n c) n xs) (hn : 0 < n) : ∃ g o, p = some ⟨g, o, none⟩ ∧ w.rangeAt g o xs := by
  obtain ⟨hm, hl, ⟨h1, rfl⟩ | ⟨ad, c, h1, hc, hd⟩⟩ := h
  · omega
  · obtain ⟨g, o, rfl, hd2⟩ := hd hn
    simp only [Value.slice.injEq] at h1
    exact ⟨g, o, h1.1, hd2⟩
theorem SHas.cap {p : Option Addr} {c : Nat} (h : SHas S w (.slice p n c) n xs) : n ≤ c ∧ c ≤ maxLen := by
  obtain ⟨hm, hl, ⟨h1, rfl⟩ | ⟨ad, c, h1, hc, hd⟩⟩ := h
  · simp only [Value.slice.injEq] at h1
    obtain ⟨_, _, rfl⟩ := h1
    exact ⟨Nat.le_refl _, Nat.zero_le _⟩
  · simp only [Value.slice.injEq] at h1
    obtain ⟨_, _, rfl⟩ := h1
    exact hc
theorem SHas.nil (w : World) (S : Nat) : SHas S w (.slice none 0 0) 0 [] := ⟨Nat.zero_le _, by simp, .inl ⟨rfl, rfl⟩⟩
theorem range_sub {g o : Nat} {ys : List Value} (h : w.rangeAt g o xs) (k : Nat) (hy : ∀ j u, ys[j]? = some u → xs[k + j]? = some u) : w.rangeAt g (o + k) ys := fun j u hu => by
  have := h (k + j) u (hy j u hu)
  rwa [← Nat.add_assoc] at this
end
/-- A row that the call made, as a slice. -/
theorem own_sh {w : World} {B e S n : Nat} {v : Value} {xs : List Value} (h : w.ownsRow B e S v n xs) : SHas S w v n xs := by
  refine ⟨?_, h.1, ?_⟩
  · rcases h.2 with ⟨_, h0⟩ | ⟨g, cap, cur, rfl, hbg, hg, hnc, hcm, hcs, htake⟩
    · omega
    · omega
  · rcases h.2 with ⟨rfl, h0⟩ | ⟨g, cap, cur, rfl, hbg, hg, hnc, hcm, hcs, htake⟩
    · exact .inl ⟨rfl, h0⟩
    · refine .inr ⟨_, cap, rfl, ⟨hnc, hcm⟩, fun _ => ⟨g, 0, rfl, fun j u hu => ?_⟩⟩
      have h1 := h.cells (g := g) rfl j u hu
      rwa [Addr.add_mid] at h1
theorem own_sl {w : World} {B e S n : Nat} {v : Value} {xs : List Value} (h : w.ownsRow B e S v n xs) : ∃ p c, v = .slice p n c := by
  rcases h.2 with ⟨rfl, rfl⟩ | ⟨g, cap, cur, rfl, _⟩
  · exact ⟨none, 0, rfl⟩
  · exact ⟨_, _, rfl⟩
/-- Beyond what was there. -/
def Fr (w : World) (u : Value) : Prop := ∀ a n c, u = .slice (some a) n c → w.heap.size ≤ a.block
theorem own_fr {w w1 : World} {B e S n : Nat} {v : Value} {xs : List Value} (h : w1.ownsRow B e S v n xs) (hB : w.heap.size ≤ B) : Fr w v := by
  intro a m c e
  rcases h.2 with ⟨rfl, _⟩ | ⟨g, cap, cur, rfl, hbg, _⟩
  · simp at e
  · simp only [Value.slice.injEq, Option.some.injEq] at e
    rw [← e.1]
    exact Nat.le_trans hB hbg
theorem Rw.grown {w w' : World} {b : Nat} {t : TypeId} {cs : Array Value} {row : Option Nat} (h : Rw w b t cs) (hg : w.grownBy w' row) (hne : ∀ k, row = some k → b < k) : Rw w' b t cs :=
  (hg.block b h.lt (fun e => by have := hne b e.symm; omega)).trans h
theorem cells_new (w : World) (cs : List Value) (t : TypeId) (j : Nat) : (w.alloc (.cells cs.toArray t)).cell? ((⟨w.heap.size, 0, none⟩ : Addr).add j) = cs[j]? := by
  rw [Addr.add_mid, Nat.zero_add, cell_of_row _ _ j _ t (0, 0) (heap_alloc_last w _)]
  simp
theorem cells_next (w : World) {b : Nat} (hb : b = w.heap.size) (cs : List Value) (t : TypeId) (j : Nat) : (w.alloc (.cells cs.toArray t)).cell? ((⟨b, 0, none⟩ : Addr).add j) = cs[j]? := by subst hb; exact cells_new w cs t j

/-- Rows side by side. -/
def rows {α : Type} (f : α → List Value) (l : List α) : List Value := l.flatMap f
section
variable {α : Type} {f : α → List Value} {S : Nat}
theorem rows_append (a b : List α) : rows f (a ++ b) = rows f a ++ rows f b := by simp [rows]
theorem rows_cons (x : α) (l : List α) : rows f (x :: l) = f x ++ rows f l := rfl
theorem rows_one (x : α) : rows f [x] = f x := by simp [rows]
theorem rows_nil : rows f ([] : List α) = [] := rfl
theorem rows_length (hf : ∀ x, (f x).length = S) (l : List α) : (rows f l).length = l.length * S := by
  induction l with
  | nil => simp [rows]
  | cons d l ih =>
    rw [rows_cons, List.length_append, ih, hf, List.length_cons, Nat.succ_mul]
    omega
theorem rows_at (hf : ∀ x, (f x).length = S) : ∀ (l : List α) (i : Nat) (h : i < l.length) (j : Nat) (u : Value), (f l[i])[j]? = some u → (rows f l)[i * S + j]? = some u
  | x :: l, 0, _, j, u, hu => by
    have hj : j < (f x).length := (List.getElem?_eq_some_iff.1 hu).1
    rw [rows_cons, Nat.zero_mul, Nat.zero_add, List.getElem?_append_left hj]
    exact hu
  | x :: l, i + 1, h, j, u, hu => by
    have := rows_at hf l i (by simpa using h) j u hu
    rw [rows_cons, List.getElem?_append_right (by rw [hf, Nat.succ_mul]; omega), hf, Nat.succ_mul, show i * S + S + j - S = i * S + j by omega]
    exact this
theorem rows_all {p : Value → Prop} (h : ∀ x, ∀ u ∈ f x, p u) (l : List α) : ∀ u ∈ rows f l, p u := by
  intro u hu
  obtain ⟨x, _, hx⟩ := List.mem_flatMap.1 hu
  exact h x u hx
theorem rows_take (hf : ∀ x, (f x).length = S) (l : List α) (k : Nat) : rows f (l.take k) = (rows f l).take (k * S) := by
  induction l generalizing k with
  | nil => simp [rows]
  | cons x l ih =>
    cases k with
    | zero => simp [rows]
    | succ k =>
      rw [List.take_succ_cons, rows_cons, rows_cons, ih, List.take_append, hf, Nat.succ_mul]
      rw [List.take_of_length_le (l := f x) (by rw [hf]; omega)]
      congr 2
      omega
theorem rows_drop (hf : ∀ x, (f x).length = S) (l : List α) (k : Nat) : rows f (l.drop k) = (rows f l).drop (k * S) := by
  induction l generalizing k with
  | nil => simp [rows]
  | cons x l ih =>
    cases k with
    | zero => simp [rows]
    | succ k =>
      rw [List.drop_succ_cons, rows_cons, ih, List.drop_append, hf, Nat.succ_mul]
      rw [List.drop_of_length_le (l := f x) (by rw [hf]; omega), List.nil_append]
      congr 1
      omega
end

/-- An amount, a mark, a write. -/
structure A where
  p : Int
  s : Int
  i : Int
  n : Int
abbrev A.cells (a : A) : List Value := [.int .i64 a.p, .int .i64 a.s, .int .i64 a.i, .int .i64 a.n]
abbrev AV (p s i n : Int) : Value := .agg #[.int .i64 p, .int .i64 s, .int .i64 i, .int .i64 n]
structure M where
  p : Int
  s : Int
  i : Int
abbrev M.cells (a : M) : List Value := [.int .i64 a.p, .int .i64 a.s, .int .i64 a.i]
structure Wt where
  p : Int
  s : Int
  i : Int
  t : Int
  x : ByteArray
abbrev Wt.cells (a : Wt) : List Value := [.int .i64 a.p, .int .i64 a.s, .int .i64 a.i, .int .i64 a.t, .string a.x]
/-- A member, with the slice that its marks lie in; an element likewise. -/
structure Mb where
  x : ByteArray
  b : Bool
  ms : List M
structure El where
  p : Int
  s : Int
  i : Int
  t : Int
  q : Int
  u : Int
  j : Int
  x : ByteArray
  gone : List M
abbrev Mb.cells (a : Mb × Value) : List Value := [.string a.1.x, .bool a.1.b, a.2]
abbrev El.cells (a : El × Value) : List Value := [.int .i64 a.1.p, .int .i64 a.1.s, .int .i64 a.1.i, .int .i64 a.1.t, .int .i64 a.1.q, .int .i64 a.1.u, .int .i64 a.1.j, .string a.1.x, a.2]
theorem A.one (x : A) : ∀ u ∈ x.cells, u.oneCell' = true := by
  intro u hu
  simp only [List.mem_cons, List.not_mem_nil, or_false] at hu
  rcases hu with rfl | rfl | rfl | rfl <;> rfl
theorem M.one (x : M) : ∀ u ∈ x.cells, u.oneCell' = true := by
  intro u hu
  simp only [List.mem_cons, List.not_mem_nil, or_false] at hu
  rcases hu with rfl | rfl | rfl <;> rfl
theorem Wt.one (x : Wt) : ∀ u ∈ x.cells, u.oneCell' = true := by
  intro u hu
  simp only [List.mem_cons, List.not_mem_nil, or_false] at hu
  rcases hu with rfl | rfl | rfl | rfl | rfl <;> rfl
/-- Slices of these. -/
abbrev AHas (w : World) (v : Value) (l : List A) : Prop := SHas 4 w v l.length (rows A.cells l)
abbrev MHas (w : World) (v : Value) (l : List M) : Prop := SHas 3 w v l.length (rows M.cells l)
abbrev WHas (w : World) (v : Value) (l : List Wt) : Prop := SHas 5 w v l.length (rows Wt.cells l)
def BHas (w : World) (v : Value) (l : List Mb) : Prop := ∃ ys : List (Mb × Value), ys.map (·.1) = l ∧ SHas 3 w v l.length (rows Mb.cells ys) ∧ ∀ y ∈ ys, MHas w y.2 y.1.ms
def EHas (w : World) (v : Value) (l : List El) : Prop := ∃ ys : List (El × Value), ys.map (·.1) = l ∧ SHas 9 w v l.length (rows El.cells ys) ∧ ∀ y ∈ ys, MHas w y.2 y.1.gone
section
variable {w w' : World} {v : Value}
theorem BHas.later {l : List Mb} (h : BHas w v l) (hb : Below w.heap.size w w') : BHas w' v l := by
  obtain ⟨ys, h1, h2, h3⟩ := h
  exact ⟨ys, h1, h2.later hb, fun y hy => (h3 y hy).later hb⟩
theorem EHas.later {l : List El} (h : EHas w v l) (hb : Below w.heap.size w w') : EHas w' v l := by
  obtain ⟨ys, h1, h2, h3⟩ := h
  exact ⟨ys, h1, h2.later hb, fun y hy => (h3 y hy).later hb⟩
theorem BHas.nil (w : World) : BHas w (.slice none 0 0) [] := ⟨[], rfl, SHas.nil w 3, fun _ h => by cases h⟩
theorem EHas.nil (w : World) : EHas w (.slice none 0 0) [] := ⟨[], rfl, SHas.nil w 9, fun _ h => by cases h⟩
theorem AHas.nil (w : World) : AHas w (.slice none 0 0) [] := SHas.nil w 4
theorem WHas.nil (w : World) : WHas w (.slice none 0 0) [] := SHas.nil w 5
theorem BHas.slice {l : List Mb} (h : BHas w v l) : ∃ p c, v = .slice p l.length c := by
  obtain ⟨ys, h1, h2, h3⟩ := h
  exact h2.slice
theorem EHas.slice {l : List El} (h : EHas w v l) : ∃ p c, v = .slice p l.length c := by
  obtain ⟨ys, h1, h2, h3⟩ := h
  exact h2.slice
end
/-- A cell, by its content and by value. -/
structure X where
  k : Int
  b : Int
  am : List A
  wr : List Wt
  mb : List Mb
  el : List El
abbrev cvc (k b : Int) (va vw vm ve : Value) : Array Value := #[.int .i64 k, .int .i64 b, va, vw, vm, ve]
abbrev CV (k b : Int) (va vw vm ve : Value) : Value := .agg (cvc k b va vw vm ve)
/-- The four slices lie there. -/
structure Four (w : World) (x : X) (va vw vm ve : Value) : Prop where
  a : AHas w va x.am
  t : WHas w vw x.wr
  m : BHas w vm x.mb
  e : EHas w ve x.el
theorem Four.later {w w' : World} {x : X} {va vw vm ve : Value} (h : Four w x va vw vm ve) (hb : Below w.heap.size w w') : Four w' x va vw vm ve := ⟨h.a.later hb, h.t.later hb, h.m.later hb, h.e.later hb⟩
def CHas (w : World) (v : Value) (x : X) : Prop := ∃ va vw vm ve, v = CV x.k x.b va vw vm ve ∧ Four w x va vw vm ve
theorem CHas.later {w w' : World} {v : Value} {x : X} (h : CHas w v x) (hb : Below w.heap.size w w') : CHas w' v x := by
  obtain ⟨va, vw, vm, ve, rfl, h⟩ := h
  exact ⟨va, vw, vm, ve, rfl, h.later hb⟩
/-- What a function answers is such a cell. -/
abbrev Gives (x : X) (w : World) : Ending → World → Prop := fun e w' => ∃ va vw vm ve, e = .returned (CV x.k x.b va vw vm ve) ∧ Four w' x va vw vm ve ∧ Below w.heap.size w w'
theorem size76 : (Try.prog.info? 76).map (·.size) = some 4 := by kernel_rfl
theorem size42 : (Try.prog.info? 42).map (·.size) = some 5 := by kernel_rfl
theorem size58 : (Try.prog.info? 58).map (·.size) = some 3 := by kernel_rfl
theorem size60 : (Try.prog.info? 60).map (·.size) = some 9 := by kernel_rfl
theorem size27 : (Try.prog.info? 27).map (·.size) = some 6 := by kernel_rfl
theorem size46 : (Try.prog.info? 46).map (·.size) = some 4 := by kernel_rfl
theorem info76 : (Try.prog.info? 76).map (fun i => (i.zero, i.size, i.bytes)) = some (some (AV 0 0 0 0), 4, 32) := by kernel_rfl
end Go.Proofs.Ytknpnjhedfdggaa
