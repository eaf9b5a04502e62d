/- Slices of rows of cells, of whatever width. Nothing of one function. -/
import Derived.Test.YtefpdcpcjfjblaaTx
import Derived.Laws.AppendOwnNone
namespace Go.Proofs.Ytefpdcpcjfjblaa
open Go.RowKit

/-- The slice v has n elements of S cells each, which are these. -/
def SHas (S : Nat) (w : World) (v : Value) (n : Nat) (xs : List Value) : Prop :=
  n ≤ maxLen ∧ xs.length = n * S ∧ ((v = .slice none 0 0 ∧ n = 0) ∨ ∃ ad c, v = .slice (some ad) n c ∧ (n ≤ c ∧ c ≤ maxLen) ∧ (0 < n → ∃ g o, ad = ⟨g, o, none⟩ ∧ w.rangeAt g o xs))
section
variable {S n : Nat} {w w' : World} {v : Value} {xs : List Value}
theorem SHas.later (h : SHas S w v n xs) (hb : Below w.heap.size w w') : SHas S w' v n xs := by
  obtain ⟨hm, hl, ⟨rfl, rfl⟩ | ⟨ad, c, rfl, hc, hd⟩⟩ := h
  · exact ⟨hm, hl, .inl ⟨rfl, rfl⟩⟩
  · refine ⟨hm, hl, .inr ⟨ad, c, rfl, hc, fun h => ?_⟩⟩
    obtain ⟨g, o, rfl, hd2⟩ := hd h
    exact ⟨g, o, rfl, range_later hd2 hb⟩
theorem SHas.drew (h : SHas S w v n xs) : SHas S w.drew v n xs := h
theorem SHas.slice (h : SHas S w v n xs) : ∃ p c, v = .slice p n c := by
  obtain ⟨hm, hl, ⟨rfl, rfl⟩ | ⟨ad, c, rfl, hc, hd⟩⟩ := h
  · exact ⟨none, 0, rfl⟩
  · exact ⟨_, _, rfl⟩
theorem SHas.at {p : Option Addr} {c : Nat} (h : SHas S w (.slice p n c) n xs) (hn : 0 < n) : ∃ g o, p = some ⟨g, o, none⟩ ∧ w.rangeAt g o xs := by
  obtain ⟨hm, hl, ⟨h1, rfl⟩ | ⟨ad, c, h1, hc, hd⟩⟩ := h
  · omega
  · obtain ⟨g, o, rfl, hd2⟩ := hd hn
    simp only [Value.slice.injEq] at h1
    exact ⟨g, o, h1.1, hd2⟩
theorem SHas.cap {p : Option Addr} {c : Nat} (h : SHas S w (.slice p n c) n xs) : n ≤ c ∧ c ≤ maxLen := by
  obtain ⟨hm, hl, ⟨h1, rfl⟩ | ⟨ad, c, h1, hc, hd⟩⟩ := h
  · simp only [Value.slice.injEq] at h1
    obtain ⟨_, _, rfl⟩ := h1
    exact ⟨Nat.le_refl _, Nat.zero_le _⟩
  · simp only [Value.slice.injEq] at h1
    obtain ⟨_, _, rfl⟩ := h1
    exact hc
theorem SHas.nil (w : World) (S : Nat) : SHas S w (.slice none 0 0) 0 [] := ⟨Nat.zero_le _, by simp, .inl ⟨rfl, rfl⟩⟩
theorem range_sub {g o : Nat} {ys : List Value} (h : w.rangeAt g o xs) (k : Nat) (hy : ∀ j u, ys[j]? = some u → xs[k + j]? = some u) : w.rangeAt g (o + k) ys := fun j u hu => by
  have := h (k + j) u (hy j u hu)
  rwa [← Nat.add_assoc] at this
end
/-- A row that the call made, as a slice. -/
theorem own_sh {w : World} {B e S n : Nat} {v : Value} {xs : List Value} (h : w.ownsRow B e S v n xs) : SHas S w v n xs := by
  refine ⟨?_, h.1, ?_⟩
  · rcases h.2 with ⟨_, h0⟩ | ⟨g, cap, cur, rfl, hbg, hg, hnc, hcm, hcs, htake⟩
    · omega
    · omega
  · rcases h.2 with ⟨rfl, h0⟩ | ⟨g, cap, cur, rfl, hbg, hg, hnc, hcm, hcs, htake⟩
    · exact .inl ⟨rfl, h0⟩
    · refine .inr ⟨_, cap, rfl, ⟨hnc, hcm⟩, fun _ => ⟨g, 0, rfl, fun j u hu => ?_⟩⟩
      have h1 := h.cells (g := g) rfl j u hu
      rwa [Addr.add_mid] at h1
theorem own_sl {w : World} {B e S n : Nat} {v : Value} {xs : List Value} (h : w.ownsRow B e S v n xs) : ∃ p c, v = .slice p n c := by
  rcases h.2 with ⟨rfl, rfl⟩ | ⟨g, cap, cur, rfl, _⟩
  · exact ⟨none, 0, rfl⟩
  · exact ⟨_, _, rfl⟩
/-- Beyond what was there. -/
def Fr (w : World) (u : Value) : Prop := ∀ a n c, u = .slice (some a) n c → w.heap.size ≤ a.block
theorem own_fr {w w1 : World} {B e S n : Nat} {v : Value} {xs : List Value} (h : w1.ownsRow B e S v n xs) (hB : w.heap.size ≤ B) : Fr w v := by
  intro a m c e
  rcases h.2 with ⟨rfl, _⟩ | ⟨g, cap, cur, rfl, hbg, _⟩
  · simp at e
  · simp only [Value.slice.injEq, Option.some.injEq] at e
    rw [← e.1]
    exact Nat.le_trans hB hbg
theorem Rw.grown {w w' : World} {b : Nat} {t : TypeId} {cs : Array Value} {row : Option Nat} (h : Rw w b t cs) (hg : w.grownBy w' row) (hne : ∀ k, row = some k → b < k) : Rw w' b t cs :=
  (hg.block b h.lt (fun e => by have := hne b e.symm; omega)).trans h
theorem cells_new (w : World) (cs : List Value) (t : TypeId) (j : Nat) : (w.alloc (.cells cs.toArray t)).cell? ((⟨w.heap.size, 0, none⟩ : Addr).add j) = cs[j]? := by
  rw [Addr.add_mid, Nat.zero_add, cell_of_row _ _ j _ t (0, 0) (heap_alloc_last w _)]
  simp
theorem cells_next (w : World) {b : Nat} (hb : b = w.heap.size) (cs : List Value) (t : TypeId) (j : Nat) : (w.alloc (.cells cs.toArray t)).cell? ((⟨b, 0, none⟩ : Addr).add j) = cs[j]? := by subst hb; exact cells_new w cs t j

/-- Rows side by side. -/
def rows {α : Type} (f : α → List Value) (l : List α) : List Value := l.flatMap f
section
variable {α : Type} {f : α → List Value} {S : Nat}
theorem rows_append (a b : List α) : rows f (a ++ b) = rows f a ++ rows f b := by simp [rows]
theorem rows_cons (x : α) (l : List α) : rows f (x :: l) = f x ++ rows f l := rfl
theorem rows_one (x : α) : rows f [x] = f x := by simp [rows]
theorem rows_nil : rows f ([] : List α) = [] := rfl
theorem rows_length (hf : ∀ x, (f x).length = S) (l : List α) : (rows f l).length = l.length * S := by
  induction l with
  | nil => simp [rows]
  | cons d l ih =>
    rw [rows_cons, List.length_append, ih, hf, List.length_cons, Nat.succ_mul]
    omega
theorem rows_at (hf : ∀ x, (f x).length = S) : ∀ (l : List α) (i : Nat) (h : i < l.length) (j : Nat) (u : Value), (f l[i])[j]? = some u → (rows f l)[i * S + j]? = some u
  | x :: l, 0, _, j, u, hu => by
    have hj : j < (f x).length := (List.getElem?_eq_some_iff.1 hu).1
    rw [rows_cons, Nat.zero_mul, Nat.zero_add, List.getElem?_append_left hj]
    exact hu
  | x :: l, i + 1, h, j, u, hu => by
    have := rows_at hf l i (by simpa using h) j u hu
    rw [rows_cons, List.getElem?_append_right (by rw [hf, Nat.succ_mul]; omega), hf, Nat.succ_mul, show i * S + S + j - S = i * S + j by omega]
    exact this
theorem rows_all {p : Value → Prop} (h : ∀ x, ∀ u ∈ f x, p u) (l : List α) : ∀ u ∈ rows f l, p u := by
  intro u hu
  obtain ⟨x, _, hx⟩ := List.mem_flatMap.1 hu
  exact h x u hx
theorem rows_take (hf : ∀ x, (f x).length = S) (l : List α) (k : Nat) : rows f (l.take k) = (rows f l).take (k * S) := by
  induction l generalizing k with
  | nil => simp [rows]
  | cons x l ih =>
    cases k with
    | zero => simp [rows]
    | succ k =>
      rw [List.take_succ_cons, rows_cons, rows_cons, ih, List.take_append, hf, Nat.succ_mul]
      rw [List.take_of_length_le (l := f x) (by rw [hf]; omega)]
      congr 2
      omega
theorem rows_drop (hf : ∀ x, (f x).length = S) (l : List α) (k : Nat) : rows f (l.drop k) = (rows f l).drop (k * S) := by
  induction l generalizing k with
  | nil => simp [rows]
  | cons x l ih =>
    cases k with
    | zero => simp [rows]
    | succ k =>
      rw [List.drop_succ_cons, rows_cons, ih, List.drop_append, hf, Nat.succ_mul]
      rw [List.drop_of_length_le (l := f x) (by rw [hf]; omega), List.nil_append]
      congr 1
      omega
end
end Go.Proofs.Ytefpdcpcjfjblaa
