import Derived.Test.YthekfmodafmlgaaP5
import Derived.Test.YthekfmodafmlgaaP6
import Derived.Test.YthekfmodafmlgaaP1
import Derived.Maps.OwnSet
import Derived.Maps.OwnOps
/- Rows that are written over, and what stays. -/
namespace Go.Proofs.Ythekfmodafmlgaa
open Go.RowKit

/-- No slice among these cells. -/
def flat (xs : List Value) : Prop := ∀ u ∈ xs, ∀ p l c, u ≠ .slice p l c
theorem A.flat (l : List A) : flat (rows A.cells l) := rows_all (fun x u hu p n c => by
  simp only [List.mem_cons, List.not_mem_nil, or_false] at hu
  rcases hu with rfl | rfl | rfl | rfl <;> simp) l
theorem M.flat (l : List M) : flat (rows M.cells l) := rows_all (fun x u hu p n c => by
  simp only [List.mem_cons, List.not_mem_nil, or_false] at hu
  rcases hu with rfl | rfl | rfl <;> simp) l
theorem Wt.flat (l : List Wt) : flat (rows Wt.cells l) := rows_all (fun x u hu p n c => by
  simp only [List.mem_cons, List.not_mem_nil, or_false] at hu
  rcases hu with rfl | rfl | rfl | rfl | rfl <;> simp) l
/-- Cells of which none is a slice stay where a slice is written over. -/
theorem range_over {w : World} {g o b j : Nat} {xs : List Value} (h : w.rangeAt g o xs) (hf : flat xs) {p : Option Addr} {l c : Nat} (hc : w.cell? ⟨b, j, none⟩ = some (.slice p l c)) (u : Value) : (w.setCell ⟨b, j, none⟩ u).rangeAt g o xs := fun k v hv => by
  have h1 := h k v hv
  by_cases e : (⟨g, o + k, none⟩ : Addr) = ⟨b, j, none⟩
  · rw [e, hc] at h1
    exact absurd (Option.some.inj h1).symm (hf v (List.mem_of_getElem? hv) p l c)
  · rw [World.cell?_setCell_other _ _ _ _ (fun h => e h.symm)]
    exact h1
theorem SHas.over {S n : Nat} {w : World} {v : Value} {xs : List Value} (h : SHas S w v n xs) (hf : flat xs) {b j : Nat} {p : Option Addr} {l c : Nat} (hc : w.cell? ⟨b, j, none⟩ = some (.slice p l c)) (u : Value) : SHas S (w.setCell ⟨b, j, none⟩ u) v n xs := by
  obtain ⟨hm, hl, ⟨rfl, rfl⟩ | ⟨ad, cc, rfl, hc', hd⟩⟩ := h
  · exact ⟨hm, hl, .inl ⟨rfl, rfl⟩⟩
  · refine ⟨hm, hl, .inr ⟨ad, cc, rfl, hc', fun h => ?_⟩⟩
    obtain ⟨g, o, rfl, hd2⟩ := hd h
    exact ⟨g, o, rfl, range_over hd2 hf hc u⟩
theorem own_mono {w : World} {B B' e S n : Nat} {v : Value} {xs : List Value} (h : w.ownsRow B e S v n xs) (hB : B' ≤ B) : w.ownsRow B' e S v n xs := by
  obtain ⟨h1, h0 | ⟨g, cap, cur, rfl, hbg, h2⟩⟩ := h
  · exact ⟨h1, .inl h0⟩
  · exact ⟨h1, .inr ⟨g, cap, cur, rfl, Nat.le_trans hB hbg, h2⟩⟩
theorem own_over {w : World} {B e S n : Nat} {v : Value} {xs : List Value} (h : w.ownsRow B e S v n xs) {b : Nat} (hb : ∀ k, v.ownBlock = some k → k ≠ b) (j : Nat) (u : Value) : (w.setCell ⟨b, j, none⟩ u).ownsRow B e S v n xs := by
  obtain ⟨h1, ⟨rfl, h0⟩ | ⟨g, cap, cur, rfl, hbg, hg, h2⟩⟩ := h
  · exact ⟨h1, .inl ⟨rfl, h0⟩⟩
  · exact ⟨h1, .inr ⟨g, cap, cur, rfl, hbg, (Below.heap_setCell w _ u g (hb g rfl)).trans hg, h2⟩⟩
section
variable {Q : Exit → Act → World → Prop} {o : Oper} {r : List Oper} {a : Act} {w : World}
theorem tail_pure {v : Value} (h : (execOp a.eval o).run Try.prog w = .ok (.value v) w) (k : Facts.tailWp Try.prog Q r (a.put o.dst v) w) : Facts.tailWp Try.prog Q (o :: r) a w := by
  show o.wp Try.prog a w _ Q
  unfold Oper.wp
  rw [h]
  exact k
theorem tail_store (t : TypeId) (x y : Operand) (ho : o.op = .store t x y) (b j : Nat) (hx : a.eval x = .pointer (some ⟨b, j, none⟩)) {v : Value} (hy : a.eval y = v) {w1 : World} (hr : (Instr.storeAt t (.pointer (some ⟨b, j, none⟩)) v).run Try.prog w = .ok () w1) (k : Facts.tailWp Try.prog Q r (a.put o.dst undef) w1) : Facts.tailWp Try.prog Q (o :: r) a w := by
  show o.wp Try.prog a w _ Q
  unfold Oper.wp execOp
  simp only [ho, hx, hy, Sem.run_bind, hr, Result.andThen_ok, Sem.run_pure]
  exact k
end
theorem store59 {w : World} {b j : Nat} {p : Option Addr} {l c : Nat} {u : Value} (hc : w.cell? ⟨b, j, none⟩ = some u) (hf : w.frozen? ⟨b, j, none⟩ = false) : (Instr.storeAt 39 (.pointer (some ⟨b, j, none⟩)) (.slice p l c)).run Try.prog w = .ok () (w.setCell ⟨b, j, none⟩ (.slice p l c)) := by
  go_simp
/-- Rows of unlike types are not one. -/
theorem own_tag {w : World} {B B' e e' S S' n n' : Nat} {v v' : Value} {xs xs' : List Value} (h : w.ownsRow B e S v n xs) (h' : w.ownsRow B' e' S' v' n' xs') (hne : e ≠ e') {g : Nat} (hg : v'.ownBlock = some g) : ∀ k, v.ownBlock = some k → k ≠ g := by
  intro k hk ek
  subst ek
  obtain ⟨_, ⟨rfl, _⟩ | ⟨g1, cap, cur, rfl, _, h1, _⟩⟩ := h
  · cases hk
  · obtain ⟨_, ⟨rfl, _⟩ | ⟨g2, cap2, cur2, rfl, _, h2, _⟩⟩ := h'
    · cases hg
    · have e1 := Option.some.inj hk
      have e2 := Option.some.inj hg
      simp only at e1 e2
      subst e1
      subst e2
      rw [h1] at h2
      have := Option.some.inj h2
      simp at this
      exact hne this.2
theorem rows_set {α : Type} {f : α → List Value} {S : Nat} (hf : ∀ x, (f x).length = S) : ∀ (l : List α) (k j : Nat) (hk : k < l.length) (x : α) (u : Value), j < S → f x = (f l[k]).set j u → rows f (l.set k x) = (rows f l).set (k * S + j) u
  | y :: l, 0, j, _, x, u, hj, he => by
    simp only [List.getElem_cons_zero] at he
    rw [List.set_cons_zero, rows_cons, rows_cons, he, Nat.zero_mul, Nat.zero_add, List.set_append_left _ _ (by rw [hf]; exact hj)]
  | y :: l, k + 1, j, hk, x, u, hj, he => by
    simp only [List.getElem_cons_succ] at he
    rw [List.set_cons_succ, rows_cons, rows_cons, rows_set hf l k j (by simpa using hk) x u hj he, List.set_append_right _ _ (by rw [hf, Nat.succ_mul]; omega), hf, Nat.succ_mul]
    congr 2
    omega
/-- A row of a cell holds no three cells side by side that are no slices. -/
theorem range_off {w : World} {g o b : Nat} {xs : List Value} (h : w.rangeAt g o xs) (hf : flat xs) (h3 : 3 ≤ xs.length) {t : TypeId} {k i : Int} {pa : Option Addr} {la ca : Nat} {pw : Option Addr} {lw cw : Nat} {pm : Option Addr} {lm cm : Nat} {pe : Option Addr} {le ce : Nat} (R : Rw w b t (cvc k i (.slice pa la ca) (.slice pw lw cw) (.slice pm lm cm) (.slice pe le ce))) : g ≠ b := by
  rintro rfl
  have h2 := h 2 _ (List.getElem?_eq_getElem (by omega))
  have hn := hf xs[2] (List.getElem_mem _)
  rw [R.cell] at h2
  match o, h2 with
  | 0, h2 => exact hn _ _ _ (Option.some.inj h2).symm
  | 1, h2 => exact hn _ _ _ (Option.some.inj h2).symm
  | 2, h2 => exact hn _ _ _ (Option.some.inj h2).symm
  | 3, h2 => exact hn _ _ _ (Option.some.inj h2).symm
  | o + 4, h2 => simp at h2
theorem range_row {w : World} {g o b : Nat} {xs : List Value} (h : w.rangeAt g o xs) (hne : g ≠ b) (cs : Array Value) : (w.setRow b cs).rangeAt g o xs := fun j v hv => by
  rw [World.cell?_of_block (w := w) (setRow_other w b g cs hne)]
  exact h j v hv
theorem SHas.row {S n : Nat} {w : World} {v : Value} {xs : List Value} (h : SHas S w v n xs) (hf : flat xs) (hS : 3 ≤ S) {b : Nat} {t : TypeId} {k i : Int} {pa : Option Addr} {la ca : Nat} {pw : Option Addr} {lw cw : Nat} {pm : Option Addr} {lm cm : Nat} {pe : Option Addr} {le ce : Nat} (R : Rw w b t (cvc k i (.slice pa la ca) (.slice pw lw cw) (.slice pm lm cm) (.slice pe le ce))) (cs : Array Value) : SHas S (w.setRow b cs) v n xs := by
  obtain ⟨hm, hl, ⟨rfl, rfl⟩ | ⟨ad, cc, rfl, hc', hd⟩⟩ := h
  · exact ⟨hm, hl, .inl ⟨rfl, rfl⟩⟩
  · refine ⟨hm, hl, .inr ⟨ad, cc, rfl, hc', fun h => ?_⟩⟩
    obtain ⟨g, o, rfl, hd2⟩ := hd h
    have h3 : 3 ≤ xs.length := by
      rw [hl]
      exact Nat.le_trans hS (Nat.le_mul_of_pos_left S h)
    exact ⟨g, o, rfl, range_row hd2 (range_off hd2 hf h3 R) cs⟩
theorem own_row {w : World} {B e S n : Nat} {v : Value} {xs : List Value} (h : w.ownsRow B e S v n xs) {b : Nat} (hb : b < B) (cs : Array Value) : (w.setRow b cs).ownsRow B e S v n xs := by
  obtain ⟨h1, ⟨rfl, h0⟩ | ⟨g, cap, cur, rfl, hbg, hg, h2⟩⟩ := h
  · exact ⟨h1, .inl ⟨rfl, h0⟩⟩
  · exact ⟨h1, .inr ⟨g, cap, cur, rfl, hbg, (setRow_other w b g cs (by omega)).trans hg, h2⟩⟩
theorem own_some {w : World} {B e S n c : Nat} {p : Option Addr} {xs : List Value} (h : w.ownsRow B e S (.slice p n c) n xs) (hn : 0 < n) : ∃ g, p = some ⟨g, 0, none⟩ ∧ B ≤ g := by
  obtain ⟨_, ⟨_, h0⟩ | ⟨g, cap, cur, h1, hb, _⟩⟩ := h
  · omega
  · simp only [Value.slice.injEq] at h1
    exact ⟨g, h1.1, hb⟩
theorem El.len (x : El × Value) : (El.cells x).length = 9 := rfl
theorem A.len (x : A) : x.cells.length = 4 := rfl
theorem Mb.one {ys : List (Mb × Value)} {w : World} (h : ∀ y ∈ ys, MHas w y.2 y.1.ms) : ∀ u ∈ rows Mb.cells ys, u.oneCell' = true := by
  intro u hu
  obtain ⟨y, hy, hx⟩ := List.mem_flatMap.1 hu
  obtain ⟨p, c, e⟩ := (h y hy).slice
  simp only [List.mem_cons, List.not_mem_nil, or_false] at hx
  rcases hx with rfl | rfl | rfl
  · rfl
  · rfl
  · rw [e]; rfl
theorem El.one {ys : List (El × Value)} {w : World} (h : ∀ y ∈ ys, MHas w y.2 y.1.gone) : ∀ u ∈ rows El.cells ys, u.oneCell' = true := by
  intro u hu
  obtain ⟨y, hy, hx⟩ := List.mem_flatMap.1 hu
  obtain ⟨p, c, e⟩ := (h y hy).slice
  simp only [List.mem_cons, List.not_mem_nil, or_false] at hx
  rcases hx with rfl | rfl | rfl | rfl | rfl | rfl | rfl | rfl | rfl
  all_goals first | rfl | (rw [e]; rfl)
/-- Members whose marks lie in rows of the call's own, each in one of its own. -/
structure OwnB (B : Nat) (w : World) (ms : List (Mb × Value)) : Prop where
  o : ∀ y ∈ ms, w.ownsRow B 44 3 y.2 y.1.ms.length (rows M.cells y.1.ms)
  d : ms.Pairwise (fun a b => ∀ k, a.2.ownBlock = some k → b.2.ownBlock ≠ some k)
section
variable {B : Nat} {w w' : World} {ms : List (Mb × Value)}
theorem OwnB.later (h : OwnB B w ms) (hb : Below w.heap.size w w') : OwnB B w' ms := ⟨fun y hy => own_later (h.o y hy) hb, h.d⟩
theorem OwnB.row (h : OwnB B w ms) {b : Nat} (hb : b < B) (cs : Array Value) : OwnB B (w.setRow b cs) ms := ⟨fun y hy => own_row (h.o y hy) hb cs, h.d⟩
theorem OwnB.cell (h : OwnB B w ms) {b : Nat} (hb : b < B) (j : Nat) (u : Value) : OwnB B (w.setCell ⟨b, j, none⟩ u) ms := ⟨fun y hy => own_over (h.o y hy) (fun k hk => by have := (World.ownsRow.lt (h.o y hy) k hk).1; omega) j u, h.d⟩
theorem OwnB.tag (h : OwnB B w ms) {B' e' S' n' : Nat} {v' : Value} {xs' : List Value} (h' : w.ownsRow B' e' S' v' n' xs') (hne : 44 ≠ e') {g : Nat} (hg : v'.ownBlock = some g) (j : Nat) (u : Value) : OwnB B (w.setCell ⟨g, j, none⟩ u) ms := ⟨fun y hy => own_over (h.o y hy) (own_tag (h.o y hy) h' hne hg) j u, h.d⟩
theorem OwnB.has (h : OwnB B w ms) : ∀ y ∈ ms, MHas w y.2 y.1.ms := fun y hy => own_sh (h.o y hy)
theorem OwnB.mono (h : OwnB B w ms) {B' : Nat} (hB : B' ≤ B) : OwnB B' w ms := ⟨fun y hy => own_mono (h.o y hy) hB, h.d⟩
theorem OwnB.nil (B : Nat) (w : World) : OwnB B w [] := ⟨(fun _ h => by cases h), List.Pairwise.nil⟩
/-- One more, in a new row. -/
theorem OwnB.snoc (h : OwnB B w ms) {y : Mb × Value} (ho : w.ownsRow B 44 3 y.2 y.1.ms.length (rows M.cells y.1.ms)) (hn : ∀ k, y.2.ownBlock = some k → ∀ a ∈ ms, a.2.ownBlock ≠ some k) : OwnB B w (ms ++ [y]) := by
  refine ⟨fun a ha => ?_, ?_⟩
  · rcases List.mem_append.1 ha with h1 | h1
    · exact h.o a h1
    · rw [List.mem_singleton.1 h1]
      exact ho
  · rw [List.pairwise_append]
    refine ⟨h.d, by simp, fun a ha b hb k hk hb2 => ?_⟩
    rw [List.mem_singleton.1 hb] at hb2
    exact hn k hb2 a ha hk
end
/-- The four slices are rows of the call's own. -/
structure Own4 (B : Nat) (w : World) (x : X) (ua uw um ue : Value) : Prop where
  a : w.ownsRow B 73 4 ua x.am.length (rows A.cells x.am)
  t : w.ownsRow B 61 5 uw x.wr.length (rows Wt.cells x.wr)
  m : ∃ ms : List (Mb × Value), ms.map (·.1) = x.mb ∧ w.ownsRow B 41 3 um x.mb.length (rows Mb.cells ms) ∧ OwnB B w ms
  e : ∃ es : List (El × Value), es.map (·.1) = x.el ∧ w.ownsRow B 63 9 ue x.el.length (rows El.cells es) ∧ ∀ y ∈ es, MHas w y.2 y.1.gone
section
variable {B : Nat} {w w' : World} {x : X} {ua uw um ue : Value}
theorem Own4.four (h : Own4 B w x ua uw um ue) : Four w x ua uw um ue := by
  obtain ⟨ha, ht, ⟨ms, h1, h2, h3⟩, ⟨es, h4, h5, h6⟩⟩ := h
  exact ⟨own_sh ha, own_sh ht, ⟨ms, h1, own_sh h2, h3.has⟩, ⟨es, h4, own_sh h5, h6⟩⟩
theorem Own4.later (h : Own4 B w x ua uw um ue) (hb : Below w.heap.size w w') : Own4 B w' x ua uw um ue := by
  obtain ⟨ha, ht, ⟨ms, h1, h2, h3⟩, ⟨es, h4, h5, h6⟩⟩ := h
  exact ⟨own_later ha hb, own_later ht hb, ⟨ms, h1, own_later h2 hb, h3.later hb⟩, ⟨es, h4, own_later h5 hb, fun y hy => (h6 y hy).later hb⟩⟩
theorem Own4.row (h : Own4 B w x ua uw um ue) {b : Nat} (hb : b < B) {t : TypeId} {k i : Int} {pa : Option Addr} {la ca : Nat} {pw : Option Addr} {lw cw : Nat} {pm : Option Addr} {lm cm : Nat} {pe : Option Addr} {le ce : Nat} (R : Rw w b t (cvc k i (.slice pa la ca) (.slice pw lw cw) (.slice pm lm cm) (.slice pe le ce))) (cs : Array Value) : Own4 B (w.setRow b cs) x ua uw um ue := by
  obtain ⟨ha, ht, ⟨ms, h1, h2, h3⟩, ⟨es, h4, h5, h6⟩⟩ := h
  exact ⟨own_row ha hb cs, own_row ht hb cs, ⟨ms, h1, own_row h2 hb cs, h3.row hb cs⟩, ⟨es, h4, own_row h5 hb cs, fun y hy => (h6 y hy).row (M.flat _) (by decide) R cs⟩⟩
end
/-- What copied answers. -/
def CpPost (x : X) (w : World) (e : Ending) (w' : World) : Prop := ∃ ua uw um ue, e = .returned (CV x.k x.b ua uw um ue) ∧ Own4 w.heap.size w' x ua uw um ue ∧ Below w.heap.size w w'
end Go.Proofs.Ythekfmodafmlgaa
/- A map from texts to members. Nothing of one function. -/
namespace Go.Proofs.Ythekfmodafmlgaa
open Go.RowKit Go.Sort Go.Maps Go.WideMaps

/-- An element is told by its value. -/
def vE (v : Value) : Option (DataW Value × List MemPlace) := some (.held v, [])
theorem law9 : Keyed Try.prog 9 := string_keyed Try.underlying9
abbrev MbV (y : Mb × Value) : Value := .agg (Mb.cells y).toArray
abbrev upB (ms : List (Mb × Value)) : Prop := ms.Pairwise (fun a b => tx a.1 < tx b.1)
/-- A member put in its text's place. -/
def putV (z : Mb × Value) (ms : List (Mb × Value)) : List (Mb × Value) := ms.filter (fun a => decide (tx a.1 < tx z.1)) ++ z :: ms.filter (fun a => decide (tx z.1 < tx a.1))
def delV (s : Bs) (ms : List (Mb × Value)) : List (Mb × Value) := ms.filter (fun a => decide (tx a.1 ≠ s))
/-- The map holds these. -/
structure MapIs (D : DataW Value) (ms : List (Mb × Value)) : Prop where
  u : upB ms
  h : ∀ s : Bs, Maps.has D (.string s) = true ↔ ∃ y ∈ ms, tx y.1 = s
  a : ∀ y ∈ ms, ∀ z, D.atKey (.string (tx y.1)) z = .held (MbV y)
  m : Maps.IsMap D
theorem MapIs.nil : MapIs (.map []) [] := ⟨List.Pairwise.nil, (fun s => by simp [Maps.has_eq]), (fun y h => by cases h), Maps.isMap_empty⟩
theorem key_lit {s : Bs} : WideAt.IsKeyLit (.string s) := by first | trivial | (unfold WideAt.IsKeyLit; simp)
theorem lit_ne {a b : Bs} (h : a ≠ b) : Lit.string a ≠ Lit.string b := fun e => h (by simpa using e)
theorem mem_putV {z y : Mb × Value} {ms : List (Mb × Value)} (h : y ∈ putV z ms) : y = z ∨ (y ∈ ms ∧ tx y.1 ≠ tx z.1) := by
  unfold putV at h
  rcases List.mem_append.1 h with h | h
  · obtain ⟨h1, h2⟩ := List.mem_filter.1 h
    refine .inr ⟨h1, fun e => ?_⟩
    rw [e] at h2
    exact Bs.irr _ (of_decide_eq_true h2)
  · rcases List.mem_cons.1 h with h | h
    · exact .inl h
    · obtain ⟨h1, h2⟩ := List.mem_filter.1 h
      refine .inr ⟨h1, fun e => ?_⟩
      rw [e] at h2
      exact Bs.irr _ (of_decide_eq_true h2)
theorem putV_mem {z y : Mb × Value} {ms : List (Mb × Value)} (h : y ∈ ms) (hne : tx y.1 ≠ tx z.1) : y ∈ putV z ms := by
  unfold putV
  by_cases k : tx y.1 < tx z.1
  · exact List.mem_append.2 (.inl (List.mem_filter.2 ⟨h, decide_eq_true k⟩))
  · exact List.mem_append.2 (.inr (List.mem_cons_of_mem _ (List.mem_filter.2 ⟨h, decide_eq_true (Bs.tri k hne)⟩)))
theorem putV_self (z : Mb × Value) (ms : List (Mb × Value)) : z ∈ putV z ms := List.mem_append.2 (.inr (by simp))
theorem putV_up {z : Mb × Value} {ms : List (Mb × Value)} (h : upB ms) : upB (putV z ms) := by
  unfold upB putV
  rw [List.pairwise_append, List.pairwise_cons]
  refine ⟨h.filter _, ⟨fun a ha => by simpa using (List.mem_filter.1 ha).2, h.filter _⟩, fun a ha b hb => ?_⟩
  have h1 : tx a.1 < tx z.1 := by simpa using (List.mem_filter.1 ha).2
  rcases List.mem_cons.1 hb with rfl | hb
  · exact h1
  · exact Bs.trans h1 (by simpa using (List.mem_filter.1 hb).2)
theorem MapIs.put {D : DataW Value} {ms : List (Mb × Value)} (h : MapIs D ms) (z : Mb × Value) : MapIs (D.put (.string (tx z.1)) (.held (MbV z))) (putV z ms) := by
  refine ⟨putV_up h.u, fun s => ?_, fun y hy w => ?_, h.m.put _ _⟩
  · by_cases e : s = tx z.1
    · subst e
      rw [Maps.has_put_same h.m key_lit]
      exact ⟨fun _ => ⟨z, putV_self z ms, rfl⟩, fun _ => rfl⟩
    · rw [Maps.has_put_other (lit_ne e), h.h]
      constructor
      · rintro ⟨y, hy, rfl⟩
        exact ⟨y, putV_mem hy e, rfl⟩
      · rintro ⟨y, hy, rfl⟩
        rcases mem_putV hy with rfl | h2
        · exact absurd rfl e
        · exact ⟨y, h2.1, rfl⟩
  · rcases mem_putV hy with rfl | h2
    · exact Maps.atKey_put_same h.m key_lit _ _
    · rw [Maps.atKey_put_other (lit_ne h2.2)]
      exact h.a y h2.1 w
theorem MapIs.del {D : DataW Value} {ms : List (Mb × Value)} (h : MapIs D ms) (s : Bs) : MapIs (D.del (.string s)) (delV s ms) := by
  refine ⟨h.u.filter _, fun t => ?_, fun y hy w => ?_, h.m.del _⟩
  · by_cases e : t = s
    · subst e
      rw [Maps.has_del_same]
      refine ⟨(fun k => by cases k), fun ⟨y, hy, e⟩ => ?_⟩
      exact absurd e (by simpa using (List.mem_filter.1 hy).2)
    · rw [Maps.has_del_other (lit_ne e), h.h]
      constructor
      · rintro ⟨y, hy, rfl⟩
        exact ⟨y, List.mem_filter.2 ⟨hy, by simpa using e⟩, rfl⟩
      · rintro ⟨y, hy, rfl⟩
        exact ⟨y, (List.mem_filter.1 hy).1, rfl⟩
  · obtain ⟨h1, h2⟩ := List.mem_filter.1 hy
    rw [Maps.atKey_del_other (lit_ne (by simpa using h2))]
    exact h.a y h1 w
/-- What is looked up. -/
theorem MapIs.at {D : DataW Value} {ms : List (Mb × Value)} (h : MapIs D ms) {y : Mb × Value} (hy : y ∈ ms) {s : Bs} (e : tx y.1 = s) (z : DataW Value) : D.atKey (.string s) z = .held (MbV y) := by
  rw [← e]
  exact h.a y hy z
theorem MapIs.off {D : DataW Value} {ms : List (Mb × Value)} (h : MapIs D ms) {s : Bs} (hn : ∀ y ∈ ms, tx y.1 ≠ s) (z : DataW Value) : D.atKey (.string s) z = z :=
  Maps.atKey_of_not_has (by
    cases k : Maps.has D (.string s)
    · rfl
    · obtain ⟨y, hy, e⟩ := (h.h s).1 k
      exact absurd e (hn y hy)) z
theorem upB_up {ms : List (Mb × Value)} (h : upB ms) : up (ms.map (fun y => tx y.1)) := by
  unfold up
  rw [List.pairwise_map]
  exact h
theorem MapIs.sorted {w : World} {b n : Nat} {D : DataW Value} {ms : List (Mb × Value)} (h : MapIs D ms) (hown : w.ownsMap Try.prog 9 vE b n D) {ss : List Bs} (hp : ss.Perm (strKeys D)) : ss.mergeSort (fun x y => decide (x ≤ y)) = ms.map (fun y => tx y.1) := by
  have hc : Collected D (fun _ => false) (ms.map (fun y => tx y.1)) := ⟨up_nodup (upB_up h.u), fun x => by
    rw [List.mem_map]
    cases k : Maps.has D (.string x)
    · simp
      intro a b hab e
      have := (h.h x).2 ⟨(a, b), hab, e⟩
      rw [k] at this
      cases this
    · simp
      obtain ⟨y, hy, e⟩ := (h.h x).1 k
      exact ⟨y.1, ⟨y.2, hy⟩, e⟩⟩
  have h2 := hc.perm hown law9 Try.underlying9 (fun _ => rfl)
  have tr : ∀ a b c : List UInt8, leB a b = true → leB b c = true → leB a c = true := fun a b c h1 h2 => by simp only [leB, decide_eq_true_eq] at *; exact List.le_trans h1 h2
  rw [mergeSort_of_perm (hp.trans h2.symm)]
  refine List.mergeSort_of_pairwise ?_
  exact pair_of (upB_up h.u) fun a b k => by simpa using Bs.le_of k
section
variable {ops : Array Oper} {rest : List Oper} {o : Oper} {a : Act} {w : World} {Q : Exit → Act → World → Prop}
theorem lookup_v (hg : o.guard = none) (m x : Operand) (t : TypeId) (hop : o.op = Op.lookup t m x false)
    (k e : TypeId) (K : Keyed Try.prog k) (ht : Try.prog.underlying t = some (.map k e)) {z : Value} (hz : (zeroValue e).run Try.prog w = .ok z w) {b n : Nat} {D : DataW Value}
    (hm : a.eval m = .map (some b)) (hown : w.ownsMap Try.prog k vE b n D) {key : Value} {kl : Lit} (hx : a.eval x = key) (hkey : keyOf Try.prog k key = some kl) {v : Value} (hat : D.atKey kl (.held z) = .held v)
    (h : wpList Try.prog ops Q rest (a.put o.dst v) w) : wpList Try.prog ops Q (o :: rest) a w := by
  refine wpList_plain hg fun K' hK' => ?_
  obtain ⟨v', ps, hrun, hv⟩ := hown.lookup K ht hz (zd := .held z) (zp := []) rfl hkey
  rw [hat] at hv
  unfold vE at hv
  simp only [Option.some.injEq, Prod.mk.injEq, DataW.held.injEq] at hv
  obtain ⟨rfl, _⟩ := hv
  unfold Oper.wp
  simp [execOp, hop, hm, hx, hrun, Result.andThen]
  exact hK' _ _ h
end
end Go.Proofs.Ythekfmodafmlgaa
/- byText and cellOf of package orset. -/
namespace Go.Proofs.Ythekfmodafmlgaa
open Go.RowKit Go.Sort Go.Maps Go.WideMaps

theorem putV_end {z : Mb × Value} {ms : List (Mb × Value)} (h : ∀ a ∈ ms, tx a.1 < tx z.1) : putV z ms = ms ++ [z] := by
  unfold putV
  rw [List.filter_eq_self.2 (fun a ha => decide_eq_true (h a ha)), List.filter_eq_nil_iff.2 (fun a ha => by simpa using Bs.le_of (h a ha))]
theorem run_makeMap_n (n : Int) (w : World) : (Instr.makeMap 76 (some (.int .i64 n))).run Try.prog w = .ok (.map (some w.heap.size)) (w.alloc (.map #[] 0)) := by
  have h := run_underlying (P := Try.prog) Try.underlying76
  simp [Instr.makeMap, h, go_sem]
/-- What byText answers: a new map of these members. -/
def BtPost (ms : List (Mb × Value)) (w : World) (e : Ending) (w' : World) : Prop := ∃ b D, e = .returned (.map (some b)) ∧ w.heap.size ≤ b ∧ w'.ownsMap Try.prog 9 vE b ms.length D ∧ MapIs D ms ∧ Below w.heap.size w w'
set_option maxHeartbeats 2000000 in
set_option maxRecDepth 100000 in
theorem byText_any (v : Value) (ms : List (Mb × Value)) (w : World) (h : SHas 3 w v ms.length (rows Mb.cells ms)) (hy : ∀ y ∈ ms, MHas w y.2 y.1.ms) (hl : ms.length ≤ 100) (hx : ∀ y ∈ ms, y.1.x.size ≤ 64) (hu : upB ms) : Calls Try.prog 35 #[v] w (BtPost ms w) := by
  obtain ⟨p, c, rfl⟩ := h.slice
  have HA : Hid (SHas 3 w (.slice p ms.length c) ms.length (rows Mb.cells ms)) := h
  have HX : Hid (∀ y ∈ ms, y.1.x.size ≤ 64) := hx
  have HY : Hid (∀ y ∈ ms, MHas w y.2 y.1.ms) := hy
  have HU : Hid (upB ms) := hu
  clear h hx hy hu
  have hmm := run_makeMap_n
  go_enter Try.func35, Try.ntmps35
  go_wp2
  go_loopw [11] (fun vi wr => ∃ k : Nat, vi = .int .i64 k ∧ k ≤ ms.length ∧ (∃ D, wr.ownsMap Try.prog 9 vE w.heap.size k D ∧ MapIs D (ms.take k)) ∧ Below w.heap.size w wr) (fun vi _ => ms.length - (intOf vi).toNat)
  case atStart => exact ⟨0, rfl, by omega, ⟨_, World.ownsMap_made _ _ _ _, by rw [List.take_zero]; exact MapIs.nil⟩, bel_alloc (Below.refl _ _) _⟩
  case round =>
    obtain ⟨k, rfl, hk, ⟨D, hown, hD⟩, hbel⟩ := hrel
    by_cases hlt : k < ms.length
    · have hlt' : (k : Int) < (ms.length : Int) := by omega
      obtain ⟨g, o, rfl, hd0⟩ := HA.out.at (by omega)
      have d := Mb.elem (range_later hd0 hbel) k hlt
      have hx := HX.out ms[k] (List.getElem_mem _)
      have hyk := HY.out ms[k] (List.getElem_mem _)
      have HD2 : Hid (MapIs (D.put (.string (tx ms[k].1)) (.held (MbV ms[k]))) (ms.take (k + 1))) := by
        have h2 := hD.put ms[k]
        rw [putV_end (fun a ha => ?_), ← List.take_succ_eq_append_getElem hlt] at h2
        · exact h2
        · obtain ⟨j, hj, rfl⟩ := List.getElem_of_mem ha
          rw [List.length_take] at hj
          rw [List.getElem_take]
          have h3 := HU.out
          unfold upB at h3
          rw [List.pairwise_iff_getElem] at h3
          exact h3 j k (by omega) hlt (by omega)
      clear hd0 HA HX HY HU hD
      obtain ⟨yy, HXX⟩ := hid_ex ms[k]
      rw [HXX.out] at d hx hyk HD2
      clear HXX
      obtain ⟨y, yv⟩ := yy
      replace hyk : MHas w yv y.ms := hyk
      obtain ⟨py, cy, rfl⟩ := hyk.slice
      replace d : wr.rangeAt g (o + k * 3) [Value.string y.x, .bool y.b, .slice py y.ms.length cy] := d
      replace hx : y.x.size ≤ 64 := hx
      clear hyk
      have zb : (Try.prog.info? 41).map (·.size) = some [Value.string y.x, .bool y.b, .slice py y.ms.length cy].length := size41
      have hkey : keyOf Try.prog 9 (.string y.x) = some (.string (bs y.x)) := keyOf_string_mk Try.underlying9 (by unfold maxLen; omega)
      have R5 := rw_new wr 41 #[.string y.x, .bool y.b, .slice py y.ms.length cy]
      have hbA := bel_alloc (Below.refl wr.heap.size wr) (.cells #[.string y.x, .bool y.b, .slice py y.ms.length cy] 41)
      replace hown := hown.alloc (.cells #[.string y.x, .bool y.b, .slice py y.ms.length cy] 41)
      replace hbel := below_on hbel hbA
      generalize hW : wr.alloc (.cells #[.string y.x, .bool y.b, .slice py y.ms.length cy] 41) = w1 at R5 hown hbel
      have cx : w1.cell? ⟨wr.heap.size, 0, none⟩ = some (.string y.x) := R5.cell 0
      clear hbA
      go_wp2_with (first
        | rw [hW]
        | refine load_m 41 _ rfl rfl _ _ rfl d Try.underlying41 rfl zb ?_
        | refine load_r 41 _ rfl rfl _ rfl R5 Try.underlying41 rfl size41 ?_
        | (at_mapUpdate; refine wpList_mapUpdate_own _ rfl _ _ _ 76 rfl 9 41 law9 Try.underlying76 vE w.heap.size k _ rfl hown (by unfold maxLen; omega) _ _ _ rfl rfl hkey _ [] rfl ?_; intro w2 hown2 hgrow2))
      go_roundw
      case rel => exact ⟨k + 1, by simp, by omega, ⟨_, hown2, HD2.out⟩, hbel.grown hgrow2 hbel.size (fun j hj => by cases hj; exact Nat.le_refl _)⟩
      case measure => simp [intOf]; omega
    · have hlt' : ¬ (k : Int) < (ms.length : Int) := by omega
      obtain rfl : k = ms.length := by omega
      rw [List.take_length] at hD
      have HD2 : Hid (MapIs D ms) := hD
      clear HA HX HY HU hmm hD
      go_wp2_with fail
      go_ret
      exact ⟨_, D, rfl, Nat.le_refl _, hown, HD2.out, hbel⟩
theorem own_grown {w w' : World} {B e S n : Nat} {v : Value} {xs : List Value} {row : Option Nat} (h : w.ownsRow B e S v n xs) (hg : w.grownBy w' row) (hne : ∀ k, v.ownBlock = some k → row ≠ some k) : w'.ownsRow B e S v n xs := by
  obtain ⟨h1, ⟨rfl, h0⟩ | ⟨g, cap, cur, rfl, hbg, hg', h2⟩⟩ := h
  · exact ⟨h1, .inl ⟨rfl, h0⟩⟩
  · exact ⟨h1, .inr ⟨g, cap, cur, rfl, hbg, (hg.block g (Array.getElem?_eq_some_iff.1 hg').1 (fun e => hne g rfl e.symm)).trans hg', h2⟩⟩
/-- A set of these members. -/
abbrev x4 (l : List Mb) : X := ⟨4, 0, [], [], l, []⟩
set_option maxHeartbeats 4000000 in
set_option maxRecDepth 100000 in
theorem cellOf_any (b n : Nat) (D : DataW Value) (ms : List (Mb × Value)) (w : World) (hown : w.ownsMap Try.prog 9 vE b n D) (hD : MapIs D ms) (hn : n ≤ 1000) (hy : ∀ y ∈ ms, MHas w y.2 y.1.ms) (hx : ∀ y ∈ ms, y.1.x.size ≤ 64) (hl : ms.length ≤ 200) : Calls Try.prog 37 #[.map (some b)] w (Gives (x4 (ms.map (·.1))) w) := by
  obtain ⟨i0, hi, hz0, hz1, hz2⟩ := info_parts info41
  have hbl := hown.lt
  have R0 := (rw_new w 27 (cvc 0 0 (.slice none 0 0) (.slice none 0 0) (.slice none 0 0) (.slice none 0 0))).alloc (.cells (cvc 4 0 (.slice none 0 0) (.slice none 0 0) (.slice none 0 0) (.slice none 0 0)) 27)
  have R1 := rw_new (w.alloc (.cells (cvc 0 0 (.slice none 0 0) (.slice none 0 0) (.slice none 0 0) (.slice none 0 0)) 27)) 27 (cvc 4 0 (.slice none 0 0) (.slice none 0 0) (.slice none 0 0) (.slice none 0 0))
  have hbel := bel_alloc (bel_alloc (Below.refl w.heap.size w) (.cells (cvc 0 0 (.slice none 0 0) (.slice none 0 0) (.slice none 0 0) (.slice none 0 0)) 27)) (.cells (cvc 4 0 (.slice none 0 0) (.slice none 0 0) (.slice none 0 0) (.slice none 0 0)) 27)
  have hsz : ((w.alloc (.cells (cvc 0 0 (.slice none 0 0) (.slice none 0 0) (.slice none 0 0) (.slice none 0 0)) 27)).alloc (.cells (cvc 4 0 (.slice none 0 0) (.slice none 0 0) (.slice none 0 0) (.slice none 0 0)) 27)).heap.size = w.heap.size + 2 := by simp
  replace hown := (hown.alloc (.cells (cvc 0 0 (.slice none 0 0) (.slice none 0 0) (.slice none 0 0) (.slice none 0 0)) 27)).alloc (.cells (cvc 4 0 (.slice none 0 0) (.slice none 0 0) (.slice none 0 0) (.slice none 0 0)) 27)
  generalize hW : (w.alloc (.cells (cvc 0 0 (.slice none 0 0) (.slice none 0 0) (.slice none 0 0) (.slice none 0 0)) 27)).alloc (.cells (cvc 4 0 (.slice none 0 0) (.slice none 0 0) (.slice none 0 0) (.slice none 0 0)) 27) = w0 at R0 R1 hbel hsz hown
  simp only [World.size_alloc] at R1
  have HW : Hid ((w.alloc (.cells (cvc 0 0 (.slice none 0 0) (.slice none 0 0) (.slice none 0 0) (.slice none 0 0)) 27)).alloc (.cells (cvc 4 0 (.slice none 0 0) (.slice none 0 0) (.slice none 0 0) (.slice none 0 0)) 27) = w0) := hW
  clear hW
  have HSZ : Hid (w0.heap.size = w.heap.size + 2) := hsz
  clear hsz
  have HY : Hid (∀ y ∈ ms, MHas w y.2 y.1.ms) := hy
  have HX : Hid (∀ y ∈ ms, y.1.x.size ≤ 64) := hx
  have HD : Hid (MapIs D ms) := hD
  have hsD := hown.size_le
  have CK := callsIn_wide.1 (maps_Keys_59 (some b) w0)
  have CS := callsIn_wide.1 (slices_Sorted_keys_58_59 (H := Value) b n _ vE w0 hown (by unfold maxLen; omega) (by omega))
  clear hy hx hD
  go_enter Try.func37, Try.ntmps37
  go_wp2_with (first | rw [HW.out])
  clear HW
  refine CK.mono ?_
  rintro e w1 ⟨rfl, rfl⟩
  go_wp2_with fail
  refine CS.mono ?_
  rintro e w2 ⟨u, ss, rfl, hS, hrow, hnil, hb2⟩
  clear CK CS
  have hs := HD.out.sorted hown hS
  rw [hs] at hrow
  have hlen : ss.length = ms.length := by rw [← List.length_mergeSort (le := fun x y => decide (x ≤ y)), hs, List.length_map]
  rw [hlen] at hrow
  clear hs hlen hS hnil
  have hbA := bel_alloc (Below.refl w0.heap.size w0) (.cells #[.map (some b)] 76)
  have hb3 := below_on hbA hb2
  replace hown : w2.ownsMap Try.prog 9 vE b n D := by
    obtain ⟨es, clock, hb, F, hs, hE⟩ := hown
    exact ⟨es, clock, (hb3.block b (Array.getElem?_eq_some_iff.1 hb).1).trans hb, F, hs, hE⟩
  replace R0 := R0.later hb3
  replace R1 := R1.later hb3
  replace hbel := below_on hbel hb3
  have hBs : w.heap.size + 2 ≤ w2.heap.size := by have := hb3.size; have := HSZ.out; omega
  have HT : Hid (w2.ownsRow (w.heap.size + 2) 9 1 u ms.length ((ms.map (fun y => tx y.1)).map encStr)) := own_mono hrow (by have := hbA.size; have := HSZ.out; omega)
  obtain ⟨pt, ct, rfl⟩ := own_sl hrow
  clear hrow hb2 hb3 hbA HSZ hsD
  go_wp2_with fail
  go_loopw [11] (fun vi wr => ∃ (k : Nat) (vm : Value), vi = .int .i64 k ∧ k ≤ ms.length ∧ Rw wr w.heap.size 27 (cvc 0 0 (.slice none 0 0) (.slice none 0 0) (.slice none 0 0) (.slice none 0 0)) ∧ Rw wr (w.heap.size + 1) 27 (cvc 4 0 (.slice none 0 0) (.slice none 0 0) vm (.slice none 0 0)) ∧ wr.ownsRow (w.heap.size + 2) 41 3 vm k (rows Mb.cells (ms.take k)) ∧ wr.ownsMap Try.prog 9 vE b n D ∧ Hid (wr.ownsRow (w.heap.size + 2) 9 1 (.slice pt ms.length ct) ms.length ((ms.map (fun y => tx y.1)).map encStr)) ∧ Below w.heap.size w wr ∧ w.heap.size + 2 ≤ wr.heap.size) (fun vi _ => ms.length - (intOf vi).toNat)
  case atStart => exact ⟨0, _, rfl, by omega, R0, R1, by rw [List.take_zero]; exact World.ownsRow_nil _ _ _ _, hown, HT, hbel, hBs⟩
  case round =>
    clear R0 R1 hown HT hbel hBs
    obtain ⟨k, vm, rfl, hk, R0, R1, hom, hown, HT, hbel, hBs⟩ := hrel
    obtain ⟨qm, dm, rfl⟩ := own_sl hom
    by_cases hlt : k < ms.length
    · have hlt' : (k : Int) < (ms.length : Int) := by omega
      obtain ⟨g, o, rfl, hd0⟩ := (own_sh HT.out).at (by omega)
      have c1 : wr.cell? ⟨g, o + k, none⟩ = some (.string ms[k].1.x) := hd0 k _ (by simp [hlt])
      have hx := HX.out ms[k] (List.getElem_mem _)
      have hyk := (HY.out ms[k] (List.getElem_mem _)).later hbel
      have hat := HD.out.at (List.getElem_mem hlt) rfl (.held (.agg #[.string noS, .bool false, .slice none 0 0]))
      have HR : Hid (rows Mb.cells (ms.take (k + 1)) = rows Mb.cells (ms.take k) ++ Mb.cells ms[k]) := by
        show _ = _
        rw [List.take_succ_eq_append_getElem hlt, rows_append, rows_one]
      clear hd0
      obtain ⟨yy, HXX⟩ := hid_ex ms[k]
      rw [HXX.out] at c1 hx hyk hat HR
      clear HXX
      obtain ⟨y, yv⟩ := yy
      replace hyk : MHas wr yv y.ms := hyk
      obtain ⟨py, cy, rfl⟩ := hyk.slice
      replace c1 : wr.cell? ⟨g, o + k, none⟩ = some (.string y.x) := c1
      replace hx : y.x.size ≤ 64 := hx
      replace hat : D.atKey (.string (bs y.x)) (.held (.agg #[.string noS, .bool false, .slice none 0 0])) = .held (.agg #[.string y.x, .bool y.b, .slice py y.ms.length cy]) := hat
      replace HR : Hid (rows Mb.cells (ms.take (k + 1)) = rows Mb.cells (ms.take k) ++ [.string y.x, .bool y.b, .slice py y.ms.length cy]) := HR
      have hkey : keyOf Try.prog 9 (.string y.x) = some (.string (bs y.x)) := keyOf_string_mk Try.underlying9 (by unfold maxLen; omega)
      have cm : wr.cell? ⟨w.heap.size + 1, 4, none⟩ = some (.slice qm k dm) := R1.cell 4
      have hk0 : (0 : Int) ≤ (k : Int) := by omega
      clear hyk
      go_wp2_with (first
        | (at_lookup; refine lookup_v rfl _ _ 76 rfl 9 41 law9 Try.underlying76 (Try.zeroValue41 _) rfl hown rfl hkey hat ?_)
        | (at_builtin; refine wpList_append_own _ rfl _ _ 24 rfl (w.heap.size + 2) 41 i0 (.agg #[.string noS, .bool false, .slice none 0 0]) 3 48 Try.underlying24 hi hz0 hz1 hz2 rfl (by decide) _ _ _ rfl (hom.alloc _) ⟨wr.heap.size, 0, none⟩ 1 1 [.string y.x, .bool y.b, .slice py y.ms.length cy] rfl rfl ?c1 ?c2 ?c3 ?c4 ?c5 ?_))
      case c1 => exact fun q u hq => (cells_next _ (by simp) _ _ _).trans hq
      case c2 => simp [Value.oneCell']
      case c3 => unfold maxLen; omega
      case c4 => omega
      case c5 => simp; omega
      intro v2 w6 hown6 hg6 _
      obtain ⟨q2, d2, rfl⟩ := own_sl hown6
      have hBg : ∀ q', (Value.slice qm k dm).ownBlock = some q' → w.heap.size + 2 ≤ q' := fun q' hq => (World.ownsRow.lt hom q' hq).1
      have hB2 : ∀ q', (Value.slice q2 (k + 1) d2).ownBlock = some q' → q' ≠ w.heap.size + 1 := fun q' hq => by have := (World.ownsRow.lt hown6 q' hq).1; omega
      have hbA := bel_alloc (Below.refl wr.heap.size wr) (.cells #[.string y.x, .bool y.b, .slice py y.ms.length cy] 41)
      have hb6 : Below w.heap.size w w6 := (below_on hbel hbA).grown hg6 (by have := (below_on hbel hbA).size; omega) (fun q' hq => by have := hBg q' hq; omega)
      have hs6 : w.heap.size + 2 ≤ w6.heap.size := Nat.le_trans (Nat.le_trans hBs hbA.size) hg6.size
      replace R0 : Rw w6 w.heap.size 27 _ := (R0.later hbA).grown hg6 (fun q' hq => by have := hBg q' hq; omega)
      replace R1 : Rw w6 (w.heap.size + 1) 27 _ := (R1.later hbA).grown hg6 (fun q' hq => by have := hBg q' hq; omega)
      replace hown : w6.ownsMap Try.prog 9 vE b n D := (hown.alloc _).kept hg6 (fun e => by have := hBg b e.symm; omega)
      replace HT : Hid (w6.ownsRow (w.heap.size + 2) 9 1 (.slice (some ⟨g, o, none⟩) ms.length ct) ms.length ((ms.map (fun y => tx y.1)).map encStr)) := own_grown (own_later HT.out hbA) hg6 (fun q' hq e => own_tag HT.out hom (by decide) (g := q') e q' hq rfl)
      have c6 : w6.cell? ⟨w.heap.size + 1, 4, none⟩ = some (.slice qm k dm) := R1.cell 4
      have f6 : w6.frozen? ⟨w.heap.size + 1, 4, none⟩ = false := R1.frozen 4
      replace R1 : Rw (w6.setCell ⟨w.heap.size + 1, 4, none⟩ (.slice q2 (k + 1) d2)) (w.heap.size + 1) 27 (cvc 4 0 (.slice none 0 0) (.slice none 0 0) (.slice q2 (k + 1) d2) (.slice none 0 0)) := R1.set 4 _
      replace R0 := R0.setOther (q := w.heap.size + 1) (by omega) 4 (.slice q2 (k + 1) d2)
      replace hown6 := own_over hown6 (b := w.heap.size + 1) hB2 4 (.slice q2 (k + 1) d2)
      replace HT : Hid ((w6.setCell ⟨w.heap.size + 1, 4, none⟩ (.slice q2 (k + 1) d2)).ownsRow (w.heap.size + 2) 9 1 (.slice (some ⟨g, o, none⟩) ms.length ct) ms.length ((ms.map (fun y => tx y.1)).map encStr)) := own_over HT.out (b := w.heap.size + 1) (fun q' hq => by have := (World.ownsRow.lt HT.out q' hq).1; omega) 4 (.slice q2 (k + 1) d2)
      replace hb6 := hb6.setCell (p := ⟨w.heap.size + 1, 4, none⟩) (show w.heap.size ≤ w.heap.size + 1 by omega) (.slice q2 (k + 1) d2)
      replace hs6 : w.heap.size + 2 ≤ (w6.setCell ⟨w.heap.size + 1, 4, none⟩ (.slice q2 (k + 1) d2)).heap.size := by rw [World.size_setCell]; exact hs6
      replace hown : (w6.setCell ⟨w.heap.size + 1, 4, none⟩ (.slice q2 (k + 1) d2)).ownsMap Try.prog 9 vE b n D := by
        obtain ⟨es, clock, hb, F, hs, hE⟩ := hown
        exact ⟨es, clock, (Below.heap_setCell w6 _ _ b (by show b ≠ w.heap.size + 1; omega)).trans hb, F, hs, hE⟩
      clear hom hg6 hbA hbel hat cm c1 hkey hBg hB2
      go_wp2_with fail
      go_roundw
      case rel => exact ⟨k + 1, _, by simp, by omega, R0, R1, by rw [HR.out]; exact hown6, hown, HT, hb6, hs6⟩
      case measure => simp [intOf]; omega
    · have hlt' : ¬ (k : Int) < (ms.length : Int) := by omega
      obtain rfl : k = ms.length := by omega
      rw [List.take_length] at hom
      clear hown HT HD HX
      go_wp2_with (first | refine load_r 27 _ rfl rfl _ rfl R1 Try.underlying27 rfl size27 ?_ | refine store_r rfl 27 _ _ rfl _ (cvc 4 0 (.slice none 0 0) (.slice none 0 0) (.slice qm ms.length dm) (.slice none 0 0)) rfl rfl R0 size27 rfl (by simp [Value.oneCell']) ?_)
      refine bodyPost_ret (results_r rfl rfl (R0.row _) rfl Try.underlying27 size27) rfl ?_
      have hb9 := below_setRow hbel (Nat.le_refl w.heap.size) (cvc 4 0 (.slice none 0 0) (.slice none 0 0) (.slice qm ms.length dm) (.slice none 0 0))
      have ho9 := own_row hom (b := w.heap.size) (by omega) (cvc 4 0 (.slice none 0 0) (.slice none 0 0) (.slice qm ms.length dm) (.slice none 0 0))
      refine ⟨_, _, _, _, rfl, ⟨AHas.nil _, WHas.nil _, ⟨ms, rfl, ?_, fun y hy => (HY.out y hy).later hb9⟩, EHas.nil _⟩, hb9⟩
      show SHas 3 _ _ (ms.map (·.1)).length _
      rw [List.length_map]
      exact own_sh ho9
end Go.Proofs.Ythekfmodafmlgaa
