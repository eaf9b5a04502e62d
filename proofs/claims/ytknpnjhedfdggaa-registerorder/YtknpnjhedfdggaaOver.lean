/- Rows that are written over, and what stays. -/
import Derived.Test.YtknpnjhedfdggaaFactsP
import Derived.Test.YtknpnjhedfdggaaFactsR
import Derived.Test.YtknpnjhedfdggaaCk
namespace Go.Proofs.Ytknpnjhedfdggaa
open Go.RowKit

/-- No slice among these cells. -/
def flat (xs : List Value) : Prop := ∀ u ∈ xs, ∀ p l c, u ≠ .slice p l c
theorem A.flat (l : List A) : flat (rows A.cells l) := rows_all (fun x u hu p n c => by
  simp only [List.mem_cons, List.not_mem_nil, or_false] at hu
  rcases hu with rfl | rfl | rfl | rfl <;> simp) l
theorem M.flat (l : List M) : flat (rows M.cells l) := rows_all (fun x u hu p n c => by
  simp only [List.mem_cons, List.not_mem_nil, or_false] at hu
  rcases hu with rfl | rfl | rfl <;> simp) l
theorem Wt.flat (l : List Wt) : flat (rows Wt.cells l) := rows_all (fun x u hu p n c => by
  simp only [List.mem_cons, List.not_mem_nil, or_false] at hu
  rcases hu with rfl | rfl | rfl | rfl | rfl <;> simp) l
/-- Cells of which none is a slice stay where a slice is written over. -/
theorem range_over {w : World} {g o b j : Nat} {xs : List Value} (h : w.rangeAt g o xs) (hf : flat xs) {p : Option Addr} {l c : Nat} (hc : w.cell? ⟨b, j, none⟩ = some (.slice p l c)) (u : Value) : (w.setCell ⟨b, j, none⟩ u).rangeAt g o xs := fun k v hv => by
  have h1 := h k v hv
  by_cases e : (⟨g, o + k, none⟩ : Addr) = ⟨b, j, none⟩
  · rw [e, hc] at h1
    exact absurd (Option.some.inj h1).symm (hf v (List.mem_of_getElem? hv) p l c)
  · rw [World.cell?_setCell_other _ _ _ _ (fun h => e h.symm)]
    exact h1
theorem SHas.over {S n : Nat} {w : World} {v : Value} {xs : List Value} (h : SHas S w v n xs) (hf : flat xs) {b j : Nat} {p : Option Addr} {l c : Nat} (hc : w.cell? ⟨b, j, none⟩ = some (.slice p l c)) (u : Value) : SHas S (w.setCell ⟨b, j, none⟩ u) v n xs := by
  obtain ⟨hm, hl, ⟨rfl, rfl⟩ | ⟨ad, cc, rfl, hc', hd⟩⟩ := h
  · exact ⟨hm, hl, .inl ⟨rfl, rfl⟩⟩
  · refine ⟨hm, hl, .inr ⟨ad, cc, rfl, hc', fun h => ?_⟩⟩
    obtain ⟨g, o, rfl, hd2⟩ := hd h
    exact ⟨g, o, rfl, range_over hd2 hf hc u⟩
theorem own_mono {w : World} {B B' e S n : Nat} {v : Value} {xs : List Value} (h : w.ownsRow B e S v n xs) (hB : B' ≤ B) : w.ownsRow B' e S v n xs := by
  obtain ⟨h1, h0 | ⟨g, cap, cur, rfl, hbg, h2⟩⟩ := h
  · exact ⟨h1, .inl h0⟩
  · exact ⟨h1, .inr ⟨g, cap, cur, rfl, Nat.le_trans hB hbg, h2⟩⟩
theorem own_over {w : World} {B e S n : Nat} {v : Value} {xs : List Value} (h : w.ownsRow B e S v n xs) {b : Nat} (hb : ∀ k, v.ownBlock = some k → k ≠ b) (j : Nat) (u : Value) : (w.setCell ⟨b, j, none⟩ u).ownsRow B e S v n xs := by
  obtain ⟨h1, ⟨rfl, h0⟩ | ⟨g, cap, cur, rfl, hbg, hg, h2⟩⟩ := h
  · exact ⟨h1, .inl ⟨rfl, h0⟩⟩
  · exact ⟨h1, .inr ⟨g, cap, cur, rfl, hbg, (Below.heap_setCell w _ u g (hb g rfl)).trans hg, h2⟩⟩
section
variable {Q : Exit → Act → World → Prop} {o : Oper} {r : List Oper} {a : Act} {w : World}
theorem tail_pure {v : Value} (h : (execOp a.eval o).run Try.prog w = .ok (.value v) w) (k : Facts.tailWp Try.prog Q r (a.put o.dst v) w) : Facts.tailWp Try.prog Q (o :: r) a w := by
  show o.wp Try.prog a w _ Q
  unfold Oper.wp
  rw [h]
  exact k
theorem tail_store (t : TypeId) (x y : Operand) (ho : o.op = .store t x y) (b j : Nat) (hx : a.eval x = .pointer (some ⟨b, j, none⟩)) {v : Value} (hy : a.eval y = v) {w1 : World} (hr : (Instr.storeAt t (.pointer (some ⟨b, j, none⟩)) v).run Try.prog w = .ok () w1) (k : Facts.tailWp Try.prog Q r (a.put o.dst undef) w1) : Facts.tailWp Try.prog Q (o :: r) a w := by
  show o.wp Try.prog a w _ Q
  unfold Oper.wp execOp
  simp only [ho, hx, hy, Sem.run_bind, hr, Result.andThen_ok, Sem.run_pure]
  exact k
end
theorem store59 {w : World} {b j : Nat} {p : Option Addr} {l c : Nat} {u : Value} (hc : w.cell? ⟨b, j, none⟩ = some u) (hf : w.frozen? ⟨b, j, none⟩ = false) : (Instr.storeAt 56 (.pointer (some ⟨b, j, none⟩)) (.slice p l c)).run Try.prog w = .ok () (w.setCell ⟨b, j, none⟩ (.slice p l c)) := by
  go_simp
/-- Rows of unlike types are not one. -/
theorem own_tag {w : World} {B B' e e' S S' n n' : Nat} {v v' : Value} {xs xs' : List Value} (h : w.ownsRow B e S v n xs) (h' : w.ownsRow B' e' S' v' n' xs') (hne : e ≠ e') {g : Nat} (hg : v'.ownBlock = some g) : ∀ k, v.ownBlock = some k → k ≠ g := by
  intro k hk ek
  subst ek
  obtain ⟨_, ⟨rfl, _⟩ | ⟨g1, cap, cur, rfl, _, h1, _⟩⟩ := h
  · cases hk
  · obtain ⟨_, ⟨rfl, _⟩ | ⟨g2, cap2, cur2, rfl, _, h2, _⟩⟩ := h'
    · cases hg
    · have e1 := Option.some.inj hk
      have e2 := Option.some.inj hg
      simp only at e1 e2
      subst e1
      subst e2
      rw [h1] at h2
      have := Option.some.inj h2
      simp at this
      exact hne this.2
theorem rows_set {α : Type} {f : α → List Value} {S : Nat} (hf : ∀ x, (f x).length = S) : ∀ (l : List α) (k j : Nat) (hk : k < l.length) (x : α) (u : Value), j < S → f x = (f l[k]).set j u → rows f (l.set k x) = (rows f l).set (k * S + j) u
  | y :: l, 0, j, _, x, u, hj, he => by
    simp only [List.getElem_cons_zero] at he
    rw [List.set_cons_zero, rows_cons, rows_cons, he, Nat.zero_mul, Nat.zero_add, List.set_append_left _ _ (by rw [hf]; exact hj)]
  | y :: l, k + 1, j, hk, x, u, hj, he => by
    simp only [List.getElem_cons_succ] at he
    rw [List.set_cons_succ, rows_cons, rows_cons, rows_set hf l k j (by simpa using hk) x u hj he, List.set_append_right _ _ (by rw [hf, Nat.succ_mul]; omega), hf, Nat.succ_mul]
    congr 2
    omega
/-- A row of a cell holds no three cells side by side that are no slices. -/
theorem range_off {w : World} {g o b : Nat} {xs : List Value} (h : w.rangeAt g o xs) (hf : flat xs) (h3 : 3 ≤ xs.length) {t : TypeId} {k i : Int} {pa : Option Addr} {la ca : Nat} {pw : Option Addr} {lw cw : Nat} {pm : Option Addr} {lm cm : Nat} {pe : Option Addr} {le ce : Nat} (R : Rw w b t (cvc k i (.slice pa la ca) (.slice pw lw cw) (.slice pm lm cm) (.slice pe le ce))) : g ≠ b := by
  rintro rfl
  have h2 := h 2 _ (List.getElem?_eq_getElem (by omega))
  have hn := hf xs[2] (List.getElem_mem _)
  rw [R.cell] at h2
  match o, h2 with
  | 0, h2 => exact hn _ _ _ (Option.some.inj h2).symm
  | 1, h2 => exact hn _ _ _ (Option.some.inj h2).symm
  | 2, h2 => exact hn _ _ _ (Option.some.inj h2).symm
  | 3, h2 => exact hn _ _ _ (Option.some.inj h2).symm
  | o + 4, h2 => simp at h2
theorem range_row {w : World} {g o b : Nat} {xs : List Value} (h : w.rangeAt g o xs) (hne : g ≠ b) (cs : Array Value) : (w.setRow b cs).rangeAt g o xs := fun j v hv => by
  rw [World.cell?_of_block (w := w) (setRow_other w b g cs hne)]
  exact h j v hv
theorem SHas.row {S n : Nat} {w : World} {v : Value} {xs : List Value} (h : SHas S w v n xs) (hf : flat xs) (hS : 3 ≤ S) {b : Nat} {t : TypeId} {k i : Int} {pa : Option Addr} {la ca : Nat} {pw : Option Addr} {lw cw : Nat} {pm : Option Addr} {lm cm : Nat} {pe : Option Addr} {le ce : Nat} (R : Rw w b t (cvc k i (.slice pa la ca) (.slice pw lw cw) (.slice pm lm cm) (.slice pe le ce))) (cs : Array Value) : SHas S (w.setRow b cs) v n xs := by
  obtain ⟨hm, hl, ⟨rfl, rfl⟩ | ⟨ad, cc, rfl, hc', hd⟩⟩ := h
  · exact ⟨hm, hl, .inl ⟨rfl, rfl⟩⟩
  · refine ⟨hm, hl, .inr ⟨ad, cc, rfl, hc', fun h => ?_⟩⟩
    obtain ⟨g, o, rfl, hd2⟩ := hd h
    have h3 : 3 ≤ xs.length := by
      rw [hl]
      exact Nat.le_trans hS (Nat.le_mul_of_pos_left S h)
    exact ⟨g, o, rfl, range_row hd2 (range_off hd2 hf h3 R) cs⟩
theorem own_row {w : World} {B e S n : Nat} {v : Value} {xs : List Value} (h : w.ownsRow B e S v n xs) {b : Nat} (hb : b < B) (cs : Array Value) : (w.setRow b cs).ownsRow B e S v n xs := by
  obtain ⟨h1, ⟨rfl, h0⟩ | ⟨g, cap, cur, rfl, hbg, hg, h2⟩⟩ := h
  · exact ⟨h1, .inl ⟨rfl, h0⟩⟩
  · exact ⟨h1, .inr ⟨g, cap, cur, rfl, hbg, (setRow_other w b g cs (by omega)).trans hg, h2⟩⟩
theorem own_some {w : World} {B e S n c : Nat} {p : Option Addr} {xs : List Value} (h : w.ownsRow B e S (.slice p n c) n xs) (hn : 0 < n) : ∃ g, p = some ⟨g, 0, none⟩ ∧ B ≤ g := by
  obtain ⟨_, ⟨_, h0⟩ | ⟨g, cap, cur, h1, hb, _⟩⟩ := h
  · omega
  · simp only [Value.slice.injEq] at h1
    exact ⟨g, h1.1, hb⟩
theorem Mb.len (x : Mb × Value) : (Mb.cells x).length = 3 := rfl
theorem El.len (x : El × Value) : (El.cells x).length = 9 := rfl
theorem M.len (x : M) : x.cells.length = 3 := rfl
theorem A.len (x : A) : x.cells.length = 4 := rfl
theorem Mb.one {ys : List (Mb × Value)} {w : World} (h : ∀ y ∈ ys, MHas w y.2 y.1.ms) : ∀ u ∈ rows Mb.cells ys, u.oneCell' = true := by
  intro u hu
  obtain ⟨y, hy, hx⟩ := List.mem_flatMap.1 hu
  obtain ⟨p, c, e⟩ := (h y hy).slice
  simp only [List.mem_cons, List.not_mem_nil, or_false] at hx
  rcases hx with rfl | rfl | rfl
  · rfl
  · rfl
  · rw [e]; rfl
theorem El.one {ys : List (El × Value)} {w : World} (h : ∀ y ∈ ys, MHas w y.2 y.1.gone) : ∀ u ∈ rows El.cells ys, u.oneCell' = true := by
  intro u hu
  obtain ⟨y, hy, hx⟩ := List.mem_flatMap.1 hu
  obtain ⟨p, c, e⟩ := (h y hy).slice
  simp only [List.mem_cons, List.not_mem_nil, or_false] at hx
  rcases hx with rfl | rfl | rfl | rfl | rfl | rfl | rfl | rfl | rfl
  all_goals first | rfl | (rw [e]; rfl)
/-- The four slices are rows of the call's own. -/
structure Own4 (B : Nat) (w : World) (x : X) (ua uw um ue : Value) : Prop where
  a : w.ownsRow B 76 4 ua x.am.length (rows A.cells x.am)
  t : w.ownsRow B 42 5 uw x.wr.length (rows Wt.cells x.wr)
  m : ∃ ms : List (Mb × Value), ms.map (·.1) = x.mb ∧ w.ownsRow B 58 3 um x.mb.length (rows Mb.cells ms) ∧ ∀ y ∈ ms, MHas w y.2 y.1.ms
  e : ∃ es : List (El × Value), es.map (·.1) = x.el ∧ w.ownsRow B 60 9 ue x.el.length (rows El.cells es) ∧ ∀ y ∈ es, MHas w y.2 y.1.gone
section
variable {B : Nat} {w w' : World} {x : X} {ua uw um ue : Value}
theorem Own4.four (h : Own4 B w x ua uw um ue) : Four w x ua uw um ue := by
  obtain ⟨ha, ht, ⟨ms, h1, h2, h3⟩, ⟨es, h4, h5, h6⟩⟩ := h
  exact ⟨own_sh ha, own_sh ht, ⟨ms, h1, own_sh h2, h3⟩, ⟨es, h4, own_sh h5, h6⟩⟩
theorem Own4.later (h : Own4 B w x ua uw um ue) (hb : Below w.heap.size w w') : Own4 B w' x ua uw um ue := by
  obtain ⟨ha, ht, ⟨ms, h1, h2, h3⟩, ⟨es, h4, h5, h6⟩⟩ := h
  exact ⟨own_later ha hb, own_later ht hb, ⟨ms, h1, own_later h2 hb, fun y hy => (h3 y hy).later hb⟩, ⟨es, h4, own_later h5 hb, fun y hy => (h6 y hy).later hb⟩⟩
theorem Own4.row (h : Own4 B w x ua uw um ue) {b : Nat} (hb : b < B) {t : TypeId} {k i : Int} {pa : Option Addr} {la ca : Nat} {pw : Option Addr} {lw cw : Nat} {pm : Option Addr} {lm cm : Nat} {pe : Option Addr} {le ce : Nat} (R : Rw w b t (cvc k i (.slice pa la ca) (.slice pw lw cw) (.slice pm lm cm) (.slice pe le ce))) (cs : Array Value) : Own4 B (w.setRow b cs) x ua uw um ue := by
  obtain ⟨ha, ht, ⟨ms, h1, h2, h3⟩, ⟨es, h4, h5, h6⟩⟩ := h
  exact ⟨own_row ha hb cs, own_row ht hb cs, ⟨ms, h1, own_row h2 hb cs, fun y hy => (h3 y hy).row (M.flat _) (by decide) R cs⟩, ⟨es, h4, own_row h5 hb cs, fun y hy => (h6 y hy).row (M.flat _) (by decide) R cs⟩⟩
end
/-- What copied answers. -/
def CpPost (x : X) (w : World) (e : Ending) (w' : World) : Prop := ∃ ua uw um ue, e = .returned (CV x.k x.b ua uw um ue) ∧ Own4 w.heap.size w' x ua uw um ue ∧ Below w.heap.size w w'
end Go.Proofs.Ytknpnjhedfdggaa
