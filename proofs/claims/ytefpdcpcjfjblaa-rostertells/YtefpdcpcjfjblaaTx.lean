/- Transactions by value and in boxes, ops and slices of ops; comparisons of structs. Nothing of one function. -/
import Derived.Test.YtefpdcpcjfjblaaSmall
namespace Go.Proofs.Ytefpdcpcjfjblaa
open Go.RowKit

theorem eq_dot (w : World) (p s q u : Int) : (Op.equalIn 10000 29 (D p s) (D q u)).run Try.prog w = .ok (decide (p = q) && decide (s = u)) w := by
  by_cases h1 : p = q
  · by_cases h2 : s = u
    · go_simp
    · go_simp
  · go_simp
theorem eq_mark (w : World) (p s i q u j : Int) : (Op.equalIn 10000 44 (MV p s i) (MV q u j)).run Try.prog w = .ok (decide (p = q) && decide (s = u) && decide (i = j)) w := by
  by_cases h1 : p = q
  · by_cases h2 : s = u
    · by_cases h3 : i = j <;> go_simp
    · go_simp
  · go_simp

/-- An op. -/
structure O where
  k : Int
  key : ByteArray
  field : ByteArray
  inner : Int
  act : Int
  n : Int
  text : ByteArray
  p : Int
  s : Int
  i : Int
abbrev O.cells (o : O) : List Value := [.int .i64 o.k, .string o.key, .string o.field, .int .i64 o.inner, .int .i64 o.act, .int .i64 o.n, .string o.text, .int .i64 o.p, .int .i64 o.s, .int .i64 o.i]
abbrev O.val (o : O) : Value := OV o.k o.key o.field o.inner o.act o.n o.text o.p o.s o.i
theorem O.cells_length (o : O) : o.cells.length = 10 := rfl
/-- Two ops are one. -/
def O.eqb (a b : O) : Bool := decide (a.k = b.k) && (decide (a.key = b.key) && (decide (a.field = b.field) && (decide (a.inner = b.inner) && (decide (a.act = b.act) && (decide (a.n = b.n) && (decide (a.text = b.text) && (decide (a.p = b.p) && (decide (a.s = b.s) && decide (a.i = b.i)))))))))
theorem O.eqb_iff (a b : O) : a.eqb b = true ↔ a = b := by
  cases a
  cases b
  simp [O.eqb]
set_option maxHeartbeats 1000000 in
theorem eq_op (w : World) (a b : O) : (Op.equalIn 10000 46 a.val b.val).run Try.prog w = .ok (a.eqb b) w := by
  unfold O.eqb O.val
  cases a with | mk k key field inner act n text p s i =>
  cases b with | mk k' key' field' inner' act' n' text' p' s' i' =>
  simp only
  by_cases h1 : k = k'
  · by_cases h2 : key = key'
    · by_cases h3 : field = field'
      · by_cases h4 : inner = inner'
        · by_cases h5 : act = act'
          · by_cases h6 : n = n'
            · by_cases h7 : text = text'
              · by_cases h8 : p = p'
                · by_cases h9 : s = s'
                  · by_cases h10 : i = i' <;> go_simp
                  · go_simp
                · go_simp
              · have hne := fun h => h7 ((tl_eq text text').1 h)
                go_simp
                exact fun h => absurd h hne
            · go_simp
          · go_simp
        · go_simp
      · have hne := fun h => h3 ((tl_eq field field').1 h)
        go_simp
        exact fun h => absurd h hne
    · have hne := fun h => h2 ((tl_eq key key').1 h)
      go_simp
      exact fun h => absurd h hne
  · go_simp

/-- A transaction's cells. -/
def txc (p s : Int) (v : List Int) (t : Int) (sl : Value) : List Value := .int .i64 p :: .int .i64 s :: (vals v ++ [.int .i64 t, sl])
abbrev TxV (p s : Int) (v : List Int) (t : Int) (sl : Value) : Value := .agg (txc p s v t sl).toArray
section
variable {w w' : World} {b : Nat} {p s : Int} {v : List Int} {t : Int} {sl : Value}
theorem txc_length (hv : v.length = 13) : (txc p s v t sl).length = 17 := by simp [txc, vals, hv]
theorem size_tx (hv : v.length = 13) : (Try.prog.info? 34).map (·.size) = some (txc p s v t sl).toArray.size := by
  rw [List.size_toArray, txc_length hv]
  exact size34
theorem tx_dot (h : Rw w b 34 (txc p s v t sl).toArray) : w.rangeAt b 0 [.int .i64 p, .int .i64 s] := h.range 0 _ fun j u hu => by
  rw [Nat.zero_add]
  match j with
  | 0 => simpa [txc] using hu
  | 1 => simpa [txc] using hu
  | j + 2 => simp at hu
theorem tx_p (h : Rw w b 34 (txc p s v t sl).toArray) : w.cell? ⟨b, 0, none⟩ = some (.int .i64 p) := by rw [h.cell]; simp [txc]
theorem tx_s (h : Rw w b 34 (txc p s v t sl).toArray) : w.cell? ⟨b, 1, none⟩ = some (.int .i64 s) := by rw [h.cell]; simp [txc]
theorem tx_vec (h : Rw w b 34 (txc p s v t sl).toArray) : w.rangeAt b 2 (vals v) := h.range 2 _ fun j u hu => by
  rw [show 2 + j = j + 1 + 1 by omega]
  have hj := (List.getElem?_eq_some_iff.1 hu).1
  simp only [txc, List.getElem?_toArray, List.getElem?_cons_succ]
  rw [List.getElem?_append_left hj]
  exact hu
theorem tx_at (h : Rw w b 34 (txc p s v t sl).toArray) (hv : v.length = 13) (i : Nat) (hi : i < 13) : w.cell? ⟨b, 2 + i, none⟩ = some (.int .i64 (v.getD i 0)) := by
  refine tx_vec h i _ ?_
  simp [vals, List.getElem?_eq_getElem (show i < v.length by omega)]
theorem tx_time (h : Rw w b 34 (txc p s v t sl).toArray) (hv : v.length = 13) : w.cell? ⟨b, 15, none⟩ = some (.int .i64 t) := by
  rw [h.cell]
  simp only [txc, List.getElem?_toArray, List.getElem?_cons_succ]
  rw [List.getElem?_append_right (by simp [vals, hv])]
  simp [vals, hv]
theorem tx_ops (h : Rw w b 34 (txc p s v t sl).toArray) (hv : v.length = 13) : w.cell? ⟨b, 16, none⟩ = some sl := by
  rw [h.cell]
  simp only [txc, List.getElem?_toArray, List.getElem?_cons_succ]
  rw [List.getElem?_append_right (by simp [vals, hv])]
  simp [vals, hv]
end

theorem hid_ex {α : Type} (a : α) : ∃ x, Hid (a = x) := ⟨a, (rfl : a = a)⟩
theorem maxLen_lt {n : Nat} (h : n ≤ maxLen) : (n : Int) ≤ 9223372036854775807 := by
  have : maxLen ≤ 9223372036854775807 := by decide
  omega
/-- A slice that holds these ops. -/
def OHas (w : World) (v : Value) (l : List O) : Prop := ∃ p c, v = .slice p l.length c ∧ l.length ≤ maxLen ∧ (0 < l.length → ∃ g o, p = some ⟨g, o, none⟩ ∧ ∀ i (h : i < l.length), w.rangeAt g (o + i * 10) l[i].cells)
theorem range_later {w w' : World} {b o : Nat} {cs : List Value} (h : w.rangeAt b o cs) (hb : Below w.heap.size w w') : w'.rangeAt b o cs := fun j v hv => cell_later hb (h j v hv)
theorem OHas.later {w w' : World} {v : Value} {l : List O} (h : OHas w v l) (hb : Below w.heap.size w w') : OHas w' v l := by
  obtain ⟨p, c, rfl, hm, hr⟩ := h
  refine ⟨p, c, rfl, hm, fun h0 => ?_⟩
  obtain ⟨g, o, hp, hd⟩ := hr h0
  exact ⟨g, o, hp, fun i hi => range_later (hd i hi) hb⟩
end Go.Proofs.Ytefpdcpcjfjblaa
