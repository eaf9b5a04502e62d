/- The walk of VecBounds. -/
import Derived.Test.YtbeehmcoeblbcaaOrder
import Derived.Test.YtbeehmcoeblbcaaOwed
namespace Go.Proofs.Ytbeehmcoeblbcaa
open Go.RowKit

theorem bound_j {a b c : List Int} (ha : a.length = 13) (hb : b.length = 13) (hc : c.length = 13) : lq (jn a b) c = (lq a c && lq b c) := by
  rw [Bool.eq_iff_iff, Bool.and_eq_true, lq_iff (jn_length ha hb) hc, lq_iff ha hc, lq_iff hb hc]
  constructor
  · intro h
    exact ⟨fun i hi => by have := h i hi; rw [jn_at ha hb i hi] at this; omega, fun i hi => by have := h i hi; rw [jn_at ha hb i hi] at this; omega⟩
  · rintro ⟨h1, h2⟩ i hi
    rw [jn_at ha hb i hi]
    have := h1 i hi
    have := h2 i hi
    omega
theorem bound_m {a b c : List Int} (ha : a.length = 13) (hb : b.length = 13) (hc : c.length = 13) : lq c (mt a b) = (lq c a && lq c b) := by
  rw [Bool.eq_iff_iff, Bool.and_eq_true, lq_iff hc (mt_length ha hb), lq_iff hc ha, lq_iff hc hb]
  constructor
  · intro h
    exact ⟨fun i hi => by have := h i hi; rw [mt_at ha hb i hi] at this; omega, fun i hi => by have := h i hi; rw [mt_at ha hb i hi] at this; omega⟩
  · rintro ⟨h1, h2⟩ i hi
    rw [mt_at ha hb i hi]
    have := h1 i hi
    have := h2 i hi
    omega

/-- One operation of a region, the array loaded. -/
theorem wp_load_at {op : Oper} {a : Act} {w : World} {K : Act → World → Prop} {Q : Exit → Act → World → Prop} (x : Operand) (ho : op.op = .load 23 x) (b : Nat) (hx : a.eval x = .pointer (some ⟨b, 0, none⟩)) {l : List Int} (hc : At w b l)
    (h : K (a.put op.dst (V l)) w) : op.wp Try.prog a w K Q := by
  unfold Oper.wp execOp
  simp only [ho, hx, Sem.run_bind, hc.load, Result.andThen_ok, Sem.run_pure]
  exact h
theorem wp_store_at {op : Oper} {a : Act} {w : World} {K : Act → World → Prop} {Q : Exit → Act → World → Prop} (x y : Operand) (ho : op.op = .store 23 x y) (b : Nat) (l : List Int) (hx : a.eval x = .pointer (some ⟨b, 0, none⟩)) (hy : a.eval y = V l) {l0 : List Int} (hc : At w b l0) (hl : l.length = 13)
    (h : K (a.put op.dst undef) (w.setRow b (vals l).toArray)) : op.wp Try.prog a w K Q := by
  unfold Oper.wp execOp
  simp only [ho, hx, hy, Sem.run_bind, hc.store hl, Result.andThen_ok, Sem.run_pure]
  exact h
theorem wp_alloc_at {op : Oper} {a : Act} {w : World} {K : Act → World → Prop} {Q : Exit → Act → World → Prop} (ho : op.op = .alloc 23)
    (h : K (a.put op.dst (.pointer (some ⟨w.heap.size, 0, none⟩))) (w.alloc (.cells (vals zeros).toArray 23))) : op.wp Try.prog a w K Q := by
  have e : (execOp a.eval op).run Try.prog w = .ok (.value (.pointer (some ⟨w.heap.size, 0, none⟩))) (w.alloc (.cells (vals zeros).toArray 23)) := by
    unfold execOp
    simp [ho, go_sem, vals]
  unfold Oper.wp
  rw [e]
  exact h
theorem wp_call2 {op : Oper} {a : Act} {w : World} {K : Act → World → Prop} {Q : Exit → Act → World → Prop} {fn : FuncId} {ts : Array TypeId} {u v : Operand} {x y r : Value}
    (ho : op.op = .call { callee := .value (.func fn), args := #[u, v], argTypes := ts }) (hu : a.eval u = x) (hv : a.eval v = y) (hf : Calm.enters Try.prog fn = true)
    (hc : Calls Try.prog fn #[x, y] w fun e w' => e = .returned r ∧ Below w.heap.size w w') (h : ∀ w', Below w.heap.size w w' → K (a.put op.dst r) w') : op.wp Try.prog a w K Q := by
  have e : ∀ args, (callFunc fn args).run Try.prog w = .ok (.enter fn args) w := fun args => Calm.enters_run hf args w
  have e2 : (execOp a.eval op).run Try.prog w = .ok (.enter fn #[x, y]) w := by
    subst hu
    subst hv
    unfold execOp
    simp [ho, go_sem, Act.eval, e]
  unfold Oper.wp
  rw [e2]
  refine hc.mono fun en w' he => ?_
  obtain ⟨rfl, hb⟩ := he
  exact h w' hb

/-- A pointer to an array that lies at N or above, and what it holds. -/
def Blk (w : World) (v : Value) (N : Nat) (l : List Int) : Prop := ∃ p, v = .pointer (some ⟨p, 0, none⟩) ∧ N ≤ p ∧ At w p l
theorem Blk.later {w w' : World} {v : Value} {N : Nat} {l : List Int} (h : Blk w v N l) (hb : Below w.heap.size w w') : Blk w' v N l := by
  obtain ⟨p, hp, hN, ha⟩ := h
  exact ⟨p, hp, hN, ha.later hb⟩

/-- The boxes of the three arguments. -/
def Boxes (a b c : List Int) (w w' : World) : Prop := At w' w.heap.size a ∧ At w' (w.heap.size + 1) b ∧ At w' (w.heap.size + 1 + 1) c ∧ Below w.heap.size w w'
theorem Boxes.later {a b c : List Int} {w w' w'' : World} (h : Boxes a b c w w') (hb : Below w'.heap.size w' w'') : Boxes a b c w w'' := ⟨h.1.later hb, h.2.1.later hb, h.2.2.1.later hb, below_on h.2.2.2 hb⟩
theorem Boxes.row {a b c : List Int} {w w' : World} (h : Boxes a b c w w') {p : Nat} (hp : w.heap.size + 3 ≤ p) (cs : Array Value) : Boxes a b c w (w'.setRow p cs) :=
  ⟨h.1.rowOther (by omega) _, h.2.1.rowOther (by omega) _, h.2.2.1.rowOther (by omega) _, below_setRow h.2.2.2 (by omega) _⟩

/-- What holds behind the operations of L of the region that lays j and m. -/
def BI (a b c : List Int) (w : World) (L : Nat → Bool) (x7 x8 x9 x10 x11 x12 x13 x14 : Value) (w' : World) : Prop :=
  Boxes a b c w w' ∧ (L 0 = true → x9 = V a) ∧ (L 1 = true → x10 = V b) ∧ (L 2 = true → x11 = V (jn a b)) ∧ (L 3 = true → x12 = V a) ∧ (L 4 = true → x13 = V b) ∧ (L 5 = true → x14 = V (mt a b)) ∧
  (L 6 = true → Blk w' x7 (w.heap.size + 3) (if L 8 = true then jn a b else zeros)) ∧ (L 7 = true → Blk w' x8 (w.heap.size + 3) (if L 9 = true then mt a b else zeros)) ∧
  (L 6 = true → L 7 = true → x7 ≠ x8) ∧ (L 8 = true → L 6 = true) ∧ (L 9 = true → L 7 = true)

section
variable {a b c : List Int} {w w' w'' : World} {L : Nat → Bool} {x7 x8 x9 x10 x11 x12 x13 x14 : Value}
theorem BI.later (h : BI a b c w L x7 x8 x9 x10 x11 x12 x13 x14 w') (hb : Below w'.heap.size w' w'') : BI a b c w L x7 x8 x9 x10 x11 x12 x13 x14 w'' := by
  obtain ⟨hS, h0, h1, h2, h3, h4, h5, h6, h7, hne, h86, h97⟩ := h
  exact ⟨hS.later hb, h0, h1, h2, h3, h4, h5, fun e => (h6 e).later hb, fun e => (h7 e).later hb, hne, h86, h97⟩
theorem BI.congr {L' : Nat → Bool} (hL : ∀ i, i < 10 → L i = L' i) (h : BI a b c w L x7 x8 x9 x10 x11 x12 x13 x14 w') : BI a b c w L' x7 x8 x9 x10 x11 x12 x13 x14 w' := by
  unfold BI at *
  rw [hL 0 (by decide), hL 1 (by decide), hL 2 (by decide), hL 3 (by decide), hL 4 (by decide), hL 5 (by decide), hL 6 (by decide), hL 7 (by decide), hL 8 (by decide), hL 9 (by decide)] at h
  exact h
theorem BI.v0 (h : BI a b c w L x7 x8 x9 x10 x11 x12 x13 x14 w') : BI a b c w (Owed.upd L 0) x7 x8 (V a) x10 x11 x12 x13 x14 w' := by
  obtain ⟨hS, h0, h1, h2, h3, h4, h5, h6, h7, hne, h86, h97⟩ := h
  refine ⟨hS, fun _ => rfl, fun e => h1 (by rwa [Owed.upd_ne L (by decide)] at e), fun e => h2 (by rwa [Owed.upd_ne L (by decide)] at e), fun e => h3 (by rwa [Owed.upd_ne L (by decide)] at e), fun e => h4 (by rwa [Owed.upd_ne L (by decide)] at e), fun e => h5 (by rwa [Owed.upd_ne L (by decide)] at e), ?_, ?_, ?_, ?_, ?_⟩
  all_goals rw [Owed.upd_ne L (by decide), Owed.upd_ne L (by decide)]
  · exact h6
  · exact h7
  · exact hne
  · exact h86
  · exact h97
theorem BI.v1 (h : BI a b c w L x7 x8 x9 x10 x11 x12 x13 x14 w') : BI a b c w (Owed.upd L 1) x7 x8 x9 (V b) x11 x12 x13 x14 w' := by
  obtain ⟨hS, h0, h1, h2, h3, h4, h5, h6, h7, hne, h86, h97⟩ := h
  refine ⟨hS, fun e => h0 (by rwa [Owed.upd_ne L (by decide)] at e), fun _ => rfl, fun e => h2 (by rwa [Owed.upd_ne L (by decide)] at e), fun e => h3 (by rwa [Owed.upd_ne L (by decide)] at e), fun e => h4 (by rwa [Owed.upd_ne L (by decide)] at e), fun e => h5 (by rwa [Owed.upd_ne L (by decide)] at e), ?_, ?_, ?_, ?_, ?_⟩
  all_goals rw [Owed.upd_ne L (by decide), Owed.upd_ne L (by decide)]
  · exact h6
  · exact h7
  · exact hne
  · exact h86
  · exact h97
theorem BI.v2 (h : BI a b c w L x7 x8 x9 x10 x11 x12 x13 x14 w') : BI a b c w (Owed.upd L 2) x7 x8 x9 x10 (V (jn a b)) x12 x13 x14 w' := by
  obtain ⟨hS, h0, h1, h2, h3, h4, h5, h6, h7, hne, h86, h97⟩ := h
  refine ⟨hS, fun e => h0 (by rwa [Owed.upd_ne L (by decide)] at e), fun e => h1 (by rwa [Owed.upd_ne L (by decide)] at e), fun _ => rfl, fun e => h3 (by rwa [Owed.upd_ne L (by decide)] at e), fun e => h4 (by rwa [Owed.upd_ne L (by decide)] at e), fun e => h5 (by rwa [Owed.upd_ne L (by decide)] at e), ?_, ?_, ?_, ?_, ?_⟩
  all_goals rw [Owed.upd_ne L (by decide), Owed.upd_ne L (by decide)]
  · exact h6
  · exact h7
  · exact hne
  · exact h86
  · exact h97
theorem BI.v3 (h : BI a b c w L x7 x8 x9 x10 x11 x12 x13 x14 w') : BI a b c w (Owed.upd L 3) x7 x8 x9 x10 x11 (V a) x13 x14 w' := by
  obtain ⟨hS, h0, h1, h2, h3, h4, h5, h6, h7, hne, h86, h97⟩ := h
  refine ⟨hS, fun e => h0 (by rwa [Owed.upd_ne L (by decide)] at e), fun e => h1 (by rwa [Owed.upd_ne L (by decide)] at e), fun e => h2 (by rwa [Owed.upd_ne L (by decide)] at e), fun _ => rfl, fun e => h4 (by rwa [Owed.upd_ne L (by decide)] at e), fun e => h5 (by rwa [Owed.upd_ne L (by decide)] at e), ?_, ?_, ?_, ?_, ?_⟩
  all_goals rw [Owed.upd_ne L (by decide), Owed.upd_ne L (by decide)]
  · exact h6
  · exact h7
  · exact hne
  · exact h86
  · exact h97
theorem BI.v4 (h : BI a b c w L x7 x8 x9 x10 x11 x12 x13 x14 w') : BI a b c w (Owed.upd L 4) x7 x8 x9 x10 x11 x12 (V b) x14 w' := by
  obtain ⟨hS, h0, h1, h2, h3, h4, h5, h6, h7, hne, h86, h97⟩ := h
  refine ⟨hS, fun e => h0 (by rwa [Owed.upd_ne L (by decide)] at e), fun e => h1 (by rwa [Owed.upd_ne L (by decide)] at e), fun e => h2 (by rwa [Owed.upd_ne L (by decide)] at e), fun e => h3 (by rwa [Owed.upd_ne L (by decide)] at e), fun _ => rfl, fun e => h5 (by rwa [Owed.upd_ne L (by decide)] at e), ?_, ?_, ?_, ?_, ?_⟩
  all_goals rw [Owed.upd_ne L (by decide), Owed.upd_ne L (by decide)]
  · exact h6
  · exact h7
  · exact hne
  · exact h86
  · exact h97
theorem BI.v5 (h : BI a b c w L x7 x8 x9 x10 x11 x12 x13 x14 w') : BI a b c w (Owed.upd L 5) x7 x8 x9 x10 x11 x12 x13 (V (mt a b)) w' := by
  obtain ⟨hS, h0, h1, h2, h3, h4, h5, h6, h7, hne, h86, h97⟩ := h
  refine ⟨hS, fun e => h0 (by rwa [Owed.upd_ne L (by decide)] at e), fun e => h1 (by rwa [Owed.upd_ne L (by decide)] at e), fun e => h2 (by rwa [Owed.upd_ne L (by decide)] at e), fun e => h3 (by rwa [Owed.upd_ne L (by decide)] at e), fun e => h4 (by rwa [Owed.upd_ne L (by decide)] at e), fun _ => rfl, ?_, ?_, ?_, ?_, ?_⟩
  all_goals rw [Owed.upd_ne L (by decide), Owed.upd_ne L (by decide)]
  · exact h6
  · exact h7
  · exact hne
  · exact h86
  · exact h97
theorem BI.v6 (h : BI a b c w L x7 x8 x9 x10 x11 x12 x13 x14 w') (hL : L 6 = false) : BI a b c w (Owed.upd L 6) (.pointer (some ⟨w'.heap.size, 0, none⟩)) x8 x9 x10 x11 x12 x13 x14 (w'.alloc (.cells (vals zeros).toArray 23)) := by
  have h8 : L 8 = false := by
    cases e : L 8
    · rfl
    · have := h.2.2.2.2.2.2.2.2.2.2.1 e
      rw [hL] at this; cases this
  have hN := h.1.2.2.1.lt
  obtain ⟨hS, h0, h1, h2, h3, h4, h5, h6, h7, hne, h86, h97⟩ := h.later ((Below.refl _ _).alloc (Nat.le_refl _) (.cells (vals zeros).toArray 23))
  obtain ⟨_, _, _, _, _, _, _, _, h7', _⟩ := h
  refine ⟨hS, fun e => h0 (by rwa [Owed.upd_ne L (by decide)] at e), fun e => h1 (by rwa [Owed.upd_ne L (by decide)] at e), fun e => h2 (by rwa [Owed.upd_ne L (by decide)] at e), fun e => h3 (by rwa [Owed.upd_ne L (by decide)] at e), fun e => h4 (by rwa [Owed.upd_ne L (by decide)] at e), fun e => h5 (by rwa [Owed.upd_ne L (by decide)] at e), ?_, ?_, ?_, ?_, ?_⟩
  · rw [Owed.upd_ne L (show 8 ≠ 6 by decide), h8]
    exact fun _ => ⟨w'.heap.size, rfl, by omega, at_new w' zeros rfl⟩
  · rw [Owed.upd_ne L (by decide), Owed.upd_ne L (by decide)]
    exact h7
  · rw [Owed.upd_ne L (show 7 ≠ 6 by decide)]
    intro _ e7 heq
    obtain ⟨p, hp, _, ha⟩ := h7' e7
    rw [hp] at heq
    have := ha.lt
    simp only [Value.pointer.injEq, Option.some.injEq, Addr.mk.injEq] at heq
    omega
  · rw [Owed.upd_ne L (show 8 ≠ 6 by decide), h8]
    exact fun e => by cases e
  · rw [Owed.upd_ne L (by decide), Owed.upd_ne L (by decide)]
    exact h97
theorem BI.v7 (h : BI a b c w L x7 x8 x9 x10 x11 x12 x13 x14 w') (hL : L 7 = false) : BI a b c w (Owed.upd L 7) x7 (.pointer (some ⟨w'.heap.size, 0, none⟩)) x9 x10 x11 x12 x13 x14 (w'.alloc (.cells (vals zeros).toArray 23)) := by
  have h9 : L 9 = false := by
    cases e : L 9
    · rfl
    · have := h.2.2.2.2.2.2.2.2.2.2.2 e
      rw [hL] at this; cases this
  have hN := h.1.2.2.1.lt
  obtain ⟨hS, h0, h1, h2, h3, h4, h5, h6, h7, hne, h86, h97⟩ := h.later ((Below.refl _ _).alloc (Nat.le_refl _) (.cells (vals zeros).toArray 23))
  obtain ⟨_, _, _, _, _, _, _, h6', _, _⟩ := h
  refine ⟨hS, fun e => h0 (by rwa [Owed.upd_ne L (by decide)] at e), fun e => h1 (by rwa [Owed.upd_ne L (by decide)] at e), fun e => h2 (by rwa [Owed.upd_ne L (by decide)] at e), fun e => h3 (by rwa [Owed.upd_ne L (by decide)] at e), fun e => h4 (by rwa [Owed.upd_ne L (by decide)] at e), fun e => h5 (by rwa [Owed.upd_ne L (by decide)] at e), ?_, ?_, ?_, ?_, ?_⟩
  · rw [Owed.upd_ne L (by decide), Owed.upd_ne L (by decide)]
    exact h6
  · rw [Owed.upd_ne L (show 9 ≠ 7 by decide), h9]
    exact fun _ => ⟨w'.heap.size, rfl, by omega, at_new w' zeros rfl⟩
  · rw [Owed.upd_ne L (show 6 ≠ 7 by decide)]
    intro e6 _ heq
    obtain ⟨p, hp, _, ha⟩ := h6' e6
    rw [hp] at heq
    have := ha.lt
    simp only [Value.pointer.injEq, Option.some.injEq, Addr.mk.injEq] at heq
    omega
  · rw [Owed.upd_ne L (by decide), Owed.upd_ne L (by decide)]
    exact h86
  · rw [Owed.upd_ne L (show 9 ≠ 7 by decide), h9]
    exact fun e => by cases e
theorem BI.v8 (h : BI a b c w L x7 x8 x9 x10 x11 x12 x13 x14 w') (h13 : (jn a b).length = 13) (e6 : L 6 = true) {p : Nat} (hp : x7 = .pointer (some ⟨p, 0, none⟩)) (hN : w.heap.size + 3 ≤ p) {l : List Int} (ha : At w' p l) : BI a b c w (Owed.upd L 8) x7 x8 x9 x10 x11 x12 x13 x14 (w'.setRow p (vals (jn a b)).toArray) := by
  obtain ⟨hS, h0, h1, h2, h3, h4, h5, h6, h7, hne, h86, h97⟩ := h
  refine ⟨hS.row hN _, fun e => h0 (by rwa [Owed.upd_ne L (by decide)] at e), fun e => h1 (by rwa [Owed.upd_ne L (by decide)] at e), fun e => h2 (by rwa [Owed.upd_ne L (by decide)] at e), fun e => h3 (by rwa [Owed.upd_ne L (by decide)] at e), fun e => h4 (by rwa [Owed.upd_ne L (by decide)] at e), fun e => h5 (by rwa [Owed.upd_ne L (by decide)] at e), ?_, ?_, ?_, ?_, ?_⟩
  · rw [Owed.upd_self]
    exact fun _ => ⟨p, hp, hN, ha.row h13⟩
  · rw [Owed.upd_ne L (by decide), Owed.upd_ne L (by decide)]
    intro e7
    obtain ⟨q, hq, hNq, haq⟩ := h7 e7
    refine ⟨q, hq, hNq, haq.rowOther ?_ _⟩
    rintro rfl
    exact hne e6 e7 (hp.trans hq.symm)
  · rw [Owed.upd_ne L (by decide), Owed.upd_ne L (by decide)]
    exact hne
  · rw [Owed.upd_ne L (show 6 ≠ 8 by decide)]
    exact fun _ => e6
  · rw [Owed.upd_ne L (by decide), Owed.upd_ne L (by decide)]
    exact h97
theorem BI.v9 (h : BI a b c w L x7 x8 x9 x10 x11 x12 x13 x14 w') (h13 : (mt a b).length = 13) (e7 : L 7 = true) {p : Nat} (hp : x8 = .pointer (some ⟨p, 0, none⟩)) (hN : w.heap.size + 3 ≤ p) {l : List Int} (ha : At w' p l) : BI a b c w (Owed.upd L 9) x7 x8 x9 x10 x11 x12 x13 x14 (w'.setRow p (vals (mt a b)).toArray) := by
  obtain ⟨hS, h0, h1, h2, h3, h4, h5, h6, h7, hne, h86, h97⟩ := h
  refine ⟨hS.row hN _, fun e => h0 (by rwa [Owed.upd_ne L (by decide)] at e), fun e => h1 (by rwa [Owed.upd_ne L (by decide)] at e), fun e => h2 (by rwa [Owed.upd_ne L (by decide)] at e), fun e => h3 (by rwa [Owed.upd_ne L (by decide)] at e), fun e => h4 (by rwa [Owed.upd_ne L (by decide)] at e), fun e => h5 (by rwa [Owed.upd_ne L (by decide)] at e), ?_, ?_, ?_, ?_, ?_⟩
  · rw [Owed.upd_ne L (by decide), Owed.upd_ne L (by decide)]
    intro e6
    obtain ⟨q, hq, hNq, haq⟩ := h6 e6
    refine ⟨q, hq, hNq, haq.rowOther ?_ _⟩
    rintro rfl
    exact hne e6 e7 (hq.trans hp.symm)
  · rw [Owed.upd_self]
    exact fun _ => ⟨p, hp, hN, ha.row h13⟩
  · rw [Owed.upd_ne L (by decide), Owed.upd_ne L (by decide)]
    exact hne
  · rw [Owed.upd_ne L (by decide), Owed.upd_ne L (by decide)]
    exact h86
  · rw [Owed.upd_ne L (show 7 ≠ 9 by decide)]
    exact fun _ => e7
end

set_option maxHeartbeats 4000000 in
set_option maxRecDepth 100000 in
theorem bounds_walk (a b c : List Int) (w : World) (ha : a.length = 13) (hb : b.length = 13) (hc : c.length = 13) :
    Calls Try.prog 5 #[V a, V b, V c] w fun e w' => e = .returned (.bool true) ∧ Below w.heap.size w w' := by
  obtain ⟨h1, h2, h3, hbel⟩ := three_boxes a b c w ha hb hc _ rfl
  go_enter Try.func5, Try.ntmps5
  go_wp2_with fail
  refine Owed.region (by kernel_rfl) (by kernel_rfl) (fun L (act : Act) w' => ∃ x7 x8 x9 x10 x11 x12 x13 x14, act = ({ tmps := #[V a, V b, V c, .pointer (some ⟨w.heap.size, 0, none⟩), .pointer (some ⟨w.heap.size + 1, 0, none⟩), .pointer (some ⟨w.heap.size + 1 + 1, 0, none⟩), .bool false, x7, x8, x9, x10, x11, x12, x13, x14, undef, undef, undef, undef, undef, undef, undef, undef, undef, undef, undef, undef, undef, undef, undef, undef, undef, undef, undef, undef, undef, undef, undef, undef, undef, undef, undef, undef, undef, undef, undef, undef, undef, undef, undef, undef, undef, undef, undef, undef, undef, undef, undef, undef, undef, undef, undef, undef, undef], defers := [] } : Act) ∧ BI a b c w L x7 x8 x9 x10 x11 x12 x13 x14 w')
    (fun L L' act w' hL ⟨x7, x8, x9, x10, x11, x12, x13, x14, e, h⟩ => ⟨x7, x8, x9, x10, x11, x12, x13, x14, e, h.congr hL⟩)
    (fun L hL => ⟨undef, undef, undef, undef, undef, undef, undef, undef, rfl, ⟨h1, h2, h3, hbel.drew⟩, fun e => (by rw [hL 0 (by decide)] at e; cases e), fun e => (by rw [hL 1 (by decide)] at e; cases e), fun e => (by rw [hL 2 (by decide)] at e; cases e), fun e => (by rw [hL 3 (by decide)] at e; cases e), fun e => (by rw [hL 4 (by decide)] at e; cases e), fun e => (by rw [hL 5 (by decide)] at e; cases e), fun e => (by rw [hL 6 (by decide)] at e; cases e), fun e => (by rw [hL 7 (by decide)] at e; cases e), fun e => (by rw [hL 6 (by decide)] at e; cases e), fun e => (by rw [hL 8 (by decide)] at e; cases e), fun e => (by rw [hL 9 (by decide)] at e; cases e)⟩) ⟨?_, ?_, ?_, ?_, ?_, ?_, ?_, ?_, ?_, ?_, trivial⟩ ?_
  · intro L act w1 ⟨x7, x8, x9, x10, x11, x12, x13, x14, hact, h⟩ hL hdep; subst hact
    refine wp_load_at _ rfl _ rfl h.1.1 ?_
    exact ⟨x7, x8, V a, x10, x11, x12, x13, x14, rfl, h.v0⟩
  · intro L act w1 ⟨x7, x8, x9, x10, x11, x12, x13, x14, hact, h⟩ hL hdep; subst hact
    refine wp_load_at _ rfl _ rfl h.1.2.1 ?_
    exact ⟨x7, x8, x9, V b, x11, x12, x13, x14, rfl, h.v1⟩
  · intro L act w1 ⟨x7, x8, x9, x10, x11, x12, x13, x14, hact, h⟩ hL hdep; subst hact
    have d0 := hdep ⟨0, .data⟩ (by simp) rfl
    have d1 := hdep ⟨1, .data⟩ (by simp) rfl
    obtain rfl := h.2.1 d0
    obtain rfl := h.2.2.1 d1
    refine wp_call2 rfl rfl rfl (by kernel_rfl) (join_any a b w1 ha hb) fun w2 hb2 => ?_
    exact ⟨x7, x8, V a, V b, V (jn a b), x12, x13, x14, rfl, (h.later hb2).v2⟩
  · intro L act w1 ⟨x7, x8, x9, x10, x11, x12, x13, x14, hact, h⟩ hL hdep; subst hact
    refine wp_load_at _ rfl _ rfl h.1.1 ?_
    exact ⟨x7, x8, x9, x10, x11, V a, x13, x14, rfl, h.v3⟩
  · intro L act w1 ⟨x7, x8, x9, x10, x11, x12, x13, x14, hact, h⟩ hL hdep; subst hact
    refine wp_load_at _ rfl _ rfl h.1.2.1 ?_
    exact ⟨x7, x8, x9, x10, x11, x12, V b, x14, rfl, h.v4⟩
  · intro L act w1 ⟨x7, x8, x9, x10, x11, x12, x13, x14, hact, h⟩ hL hdep; subst hact
    have d3 := hdep ⟨3, .data⟩ (by simp) rfl
    have d4 := hdep ⟨4, .data⟩ (by simp) rfl
    obtain rfl := h.2.2.2.2.1 d3
    obtain rfl := h.2.2.2.2.2.1 d4
    refine wp_call2 rfl rfl rfl (by kernel_rfl) (meet_any a b w1 ha hb) fun w2 hb2 => ?_
    exact ⟨x7, x8, x9, x10, x11, V a, V b, V (mt a b), rfl, (h.later hb2).v5⟩
  · intro L act w1 ⟨x7, x8, x9, x10, x11, x12, x13, x14, hact, h⟩ hL hdep; subst hact
    refine wp_alloc_at rfl ?_
    exact ⟨.pointer (some ⟨w1.heap.size, 0, none⟩), x8, x9, x10, x11, x12, x13, x14, rfl, h.v6 hL⟩
  · intro L act w1 ⟨x7, x8, x9, x10, x11, x12, x13, x14, hact, h⟩ hL hdep; subst hact
    refine wp_alloc_at rfl ?_
    exact ⟨x7, .pointer (some ⟨w1.heap.size, 0, none⟩), x9, x10, x11, x12, x13, x14, rfl, h.v7 hL⟩
  · intro L act w1 ⟨x7, x8, x9, x10, x11, x12, x13, x14, hact, h⟩ hL hdep; subst hact
    have d6 := hdep ⟨6, .data⟩ (by simp) rfl
    have d2 := hdep ⟨2, .data⟩ (by simp) rfl
    obtain rfl := h.2.2.2.1 d2
    obtain ⟨p, hp, hN, hat⟩ := h.2.2.2.2.2.2.2.1 d6
    have h' := h.v8 (jn_length ha hb) d6 hp hN hat
    subst hp
    refine wp_store_at _ _ rfl p (jn a b) rfl rfl hat (jn_length ha hb) ?_
    exact ⟨_, x8, x9, x10, V (jn a b), x12, x13, x14, rfl, h'⟩
  · intro L act w1 ⟨x7, x8, x9, x10, x11, x12, x13, x14, hact, h⟩ hL hdep; subst hact
    have d7 := hdep ⟨7, .data⟩ (by simp) rfl
    have d5 := hdep ⟨5, .data⟩ (by simp) rfl
    obtain rfl := h.2.2.2.2.2.2.1 d5
    obtain ⟨p, hp, hN, hat⟩ := h.2.2.2.2.2.2.2.2.1 d7
    have h' := h.v9 (mt_length ha hb) d7 hp hN hat
    subst hp
    refine wp_store_at _ _ rfl p (mt a b) rfl rfl hat (mt_length ha hb) ?_
    exact ⟨x7, _, x9, x10, x11, x12, x13, V (mt a b), rfl, h'⟩
  · rintro L act w1 hL ⟨x7, x8, x9, x10, x11, x12, x13, x14, rfl, hS, h9, h10, h11, h12, h13, h14, h7, h8, -, -, -⟩
    have h7' := h7 (hL 6 (by decide))
    have h8' := h8 (hL 7 (by decide))
    rw [if_pos (hL 8 (by decide))] at h7'
    rw [if_pos (hL 9 (by decide))] at h8'
    obtain ⟨p7, rfl, _, a7⟩ := h7'
    obtain ⟨p8, rfl, _, a8⟩ := h8'
    clear h7 h8 h9 h10 h11 h12 h13 h14 hL h1 h2 h3 hbel
    have hJ := jn_length ha hb
    have hM := mt_length ha hb
    have hAJ := fun w1 => leq_any a (jn a b) w1 ha hJ
    have hBJ := fun w1 => leq_any b (jn a b) w1 hb hJ
    have hMA := fun w1 => leq_any (mt a b) a w1 hM ha
    have hMB := fun w1 => leq_any (mt a b) b w1 hM hb
    have hJC := fun w1 => leq_any (jn a b) c w1 hJ hc
    have hAC := fun w1 => leq_any a c w1 ha hc
    have hBC := fun w1 => leq_any b c w1 hb hc
    have hCM := fun w1 => leq_any c (mt a b) w1 hc hM
    have hCA := fun w1 => leq_any c a w1 hc ha
    have hCB := fun w1 => leq_any c b w1 hc hb
    have q1 := bound_j ha hb hJ
    rw [lq_refl hJ] at q1
    have q2 := bound_m ha hb hM
    rw [lq_refl hM] at q2
    have q3 := (Bool.and_eq_true _ _ ▸ q1.symm : lq a (jn a b) = true ∧ lq b (jn a b) = true)
    have q4 := (Bool.and_eq_true _ _ ▸ q2.symm : lq (mt a b) a = true ∧ lq (mt a b) b = true)
    rw [q3.1] at hAJ
    rw [q3.2] at hBJ
    rw [q4.1] at hMA
    rw [q4.2] at hMB
    rw [bound_j ha hb hc] at hJC
    rw [bound_m ha hb hc] at hCM
    clear q1 q2 q3 q4 ha hb hc hJ hM
    generalize jn a b = J at *
    generalize mt a b = M at *
    generalize lq a c = x at *
    generalize lq b c = y at *
    generalize lq c a = x2 at *
    generalize lq c b = y2 at *
    have hs : Calm.Stays (fun w' => Boxes a b c w w' ∧ At w' p7 J ∧ At w' p8 M) := fun w1 w2 h hb => ⟨h.1.later hb, h.2.1.later hb, h.2.2.later hb⟩
    go_wp2
    refine Calm.region (by kernel_rfl) (by kernel_rfl) (fun w' => Boxes a b c w w' ∧ At w' p7 J ∧ At w' p8 M) ⟨⟨hS.1, hS.2.1, hS.2.2.1, hS.2.2.2.drew⟩, a7, a8⟩ ?_
    clear hS a7 a8
    all_goals
      refine Calm.load (by rfl) _ rfl rfl (fun _ h => by unfold Boxes at h; go_split_ands; assumption) ?_
      simp only [Act.put, List.setIfInBounds_toArray, List.set_cons_zero, List.set_cons_succ]
    all_goals
      refine Calm.load (by rfl) _ rfl rfl (fun _ h => by unfold Boxes at h; go_split_ands; assumption) ?_
      simp only [Act.put, List.setIfInBounds_toArray, List.set_cons_zero, List.set_cons_succ]
    all_goals
      refine Calm.call2 (by rfl) rfl rfl rfl (by kernel_rfl) hs hAJ ?_
      simp only [Act.put, List.setIfInBounds_toArray, List.set_cons_zero, List.set_cons_succ]
    all_goals
      refine Calm.pure (v := ?_) (by rfl) ?_ ?_
      rotate_left
      focus (intro w hSw; go_simp <;> rfl)
      simp only [Act.put, List.setIfInBounds_toArray, List.set_cons_zero, List.set_cons_succ]
    all_goals
      first
        | (refine Calm.skip ?_ ?_; focus rfl)
        | (refine Calm.load (by rfl) _ rfl rfl (fun _ h => by unfold Boxes at h; go_split_ands; assumption) ?_)
      simp only [Act.put, List.setIfInBounds_toArray, List.set_cons_zero, List.set_cons_succ]
    all_goals
      first
        | (refine Calm.skip ?_ ?_; focus rfl)
        | (refine Calm.load (by rfl) _ rfl rfl (fun _ h => by unfold Boxes at h; go_split_ands; assumption) ?_)
      simp only [Act.put, List.setIfInBounds_toArray, List.set_cons_zero, List.set_cons_succ]
    all_goals
      first
        | (refine Calm.skip ?_ ?_; focus rfl)
        | (refine Calm.call2 (by rfl) rfl rfl rfl (by kernel_rfl) hs hBJ ?_)
      simp only [Act.put, List.setIfInBounds_toArray, List.set_cons_zero, List.set_cons_succ]
    all_goals
      refine Calm.pure (v := ?_) (by rfl) ?_ ?_
      rotate_left
      focus (intro w hSw; go_simp <;> rfl)
      simp only [Act.put, List.setIfInBounds_toArray, List.set_cons_zero, List.set_cons_succ]
    all_goals
      refine Calm.pure (v := ?_) (by rfl) ?_ ?_
      rotate_left
      focus (intro w hSw; go_simp <;> rfl)
      simp only [Act.put, List.setIfInBounds_toArray, List.set_cons_zero, List.set_cons_succ]
    all_goals
      first
        | (refine Calm.skip ?_ ?_; focus rfl)
        | (refine Calm.load (by rfl) _ rfl rfl (fun _ h => by unfold Boxes at h; go_split_ands; assumption) ?_)
      simp only [Act.put, List.setIfInBounds_toArray, List.set_cons_zero, List.set_cons_succ]
    all_goals
      first
        | (refine Calm.skip ?_ ?_; focus rfl)
        | (refine Calm.load (by rfl) _ rfl rfl (fun _ h => by unfold Boxes at h; go_split_ands; assumption) ?_)
      simp only [Act.put, List.setIfInBounds_toArray, List.set_cons_zero, List.set_cons_succ]
    all_goals
      first
        | (refine Calm.skip ?_ ?_; focus rfl)
        | (refine Calm.call2 (by rfl) rfl rfl rfl (by kernel_rfl) hs hMA ?_)
      simp only [Act.put, List.setIfInBounds_toArray, List.set_cons_zero, List.set_cons_succ]
    all_goals
      refine Calm.pure (v := ?_) (by rfl) ?_ ?_
      rotate_left
      focus (intro w hSw; go_simp <;> rfl)
      simp only [Act.put, List.setIfInBounds_toArray, List.set_cons_zero, List.set_cons_succ]
    all_goals
      refine Calm.pure (v := ?_) (by rfl) ?_ ?_
      rotate_left
      focus (intro w hSw; go_simp <;> rfl)
      simp only [Act.put, List.setIfInBounds_toArray, List.set_cons_zero, List.set_cons_succ]
    all_goals
      first
        | (refine Calm.skip ?_ ?_; focus rfl)
        | (refine Calm.load (by rfl) _ rfl rfl (fun _ h => by unfold Boxes at h; go_split_ands; assumption) ?_)
      simp only [Act.put, List.setIfInBounds_toArray, List.set_cons_zero, List.set_cons_succ]
    all_goals
      first
        | (refine Calm.skip ?_ ?_; focus rfl)
        | (refine Calm.load (by rfl) _ rfl rfl (fun _ h => by unfold Boxes at h; go_split_ands; assumption) ?_)
      simp only [Act.put, List.setIfInBounds_toArray, List.set_cons_zero, List.set_cons_succ]
    all_goals
      first
        | (refine Calm.skip ?_ ?_; focus rfl)
        | (refine Calm.call2 (by rfl) rfl rfl rfl (by kernel_rfl) hs hMB ?_)
      simp only [Act.put, List.setIfInBounds_toArray, List.set_cons_zero, List.set_cons_succ]
    all_goals
      refine Calm.pure (v := ?_) (by rfl) ?_ ?_
      rotate_left
      focus (intro w hSw; go_simp <;> rfl)
      simp only [Act.put, List.setIfInBounds_toArray, List.set_cons_zero, List.set_cons_succ]
    all_goals
      refine Calm.pure (v := ?_) (by rfl) ?_ ?_
      rotate_left
      focus (intro w hSw; go_simp <;> rfl)
      simp only [Act.put, List.setIfInBounds_toArray, List.set_cons_zero, List.set_cons_succ]
    all_goals
      first
        | (refine Calm.skip ?_ ?_; focus rfl)
        | (refine Calm.load (by rfl) _ rfl rfl (fun _ h => by unfold Boxes at h; go_split_ands; assumption) ?_)
      simp only [Act.put, List.setIfInBounds_toArray, List.set_cons_zero, List.set_cons_succ]
    all_goals
      first
        | (refine Calm.skip ?_ ?_; focus rfl)
        | (refine Calm.load (by rfl) _ rfl rfl (fun _ h => by unfold Boxes at h; go_split_ands; assumption) ?_)
      simp only [Act.put, List.setIfInBounds_toArray, List.set_cons_zero, List.set_cons_succ]
    all_goals
      first
        | (refine Calm.skip ?_ ?_; focus rfl)
        | (refine Calm.call2 (by rfl) rfl rfl rfl (by kernel_rfl) hs hJC ?_)
      simp only [Act.put, List.setIfInBounds_toArray, List.set_cons_zero, List.set_cons_succ]
    all_goals
      first
        | (refine Calm.skip ?_ ?_; focus rfl)
        | (refine Calm.load (by rfl) _ rfl rfl (fun _ h => by unfold Boxes at h; go_split_ands; assumption) ?_)
      simp only [Act.put, List.setIfInBounds_toArray, List.set_cons_zero, List.set_cons_succ]
    all_goals
      first
        | (refine Calm.skip ?_ ?_; focus rfl)
        | (refine Calm.load (by rfl) _ rfl rfl (fun _ h => by unfold Boxes at h; go_split_ands; assumption) ?_)
      simp only [Act.put, List.setIfInBounds_toArray, List.set_cons_zero, List.set_cons_succ]
    cases x
    all_goals
      first
        | (refine Calm.skip ?_ ?_; focus rfl)
        | (refine Calm.call2 (by rfl) rfl rfl rfl (by kernel_rfl) hs hAC ?_)
      simp only [Act.put, List.setIfInBounds_toArray, List.set_cons_zero, List.set_cons_succ]
    all_goals
      first
        | (refine Calm.skip ?_ ?_; focus rfl)
        | (refine Calm.pure (v := ?_) (by rfl) ?_ ?_
           rotate_left
           focus (intro w hSw; go_simp <;> rfl))
      simp only [Act.put, List.setIfInBounds_toArray, List.set_cons_zero, List.set_cons_succ]
    all_goals
      first
        | (refine Calm.skip ?_ ?_; focus rfl)
        | (refine Calm.load (by rfl) _ rfl rfl (fun _ h => by unfold Boxes at h; go_split_ands; assumption) ?_)
      simp only [Act.put, List.setIfInBounds_toArray, List.set_cons_zero, List.set_cons_succ]
    all_goals
      first
        | (refine Calm.skip ?_ ?_; focus rfl)
        | (refine Calm.load (by rfl) _ rfl rfl (fun _ h => by unfold Boxes at h; go_split_ands; assumption) ?_)
      simp only [Act.put, List.setIfInBounds_toArray, List.set_cons_zero, List.set_cons_succ]
    all_goals
      first
        | (refine Calm.skip ?_ ?_; focus rfl)
        | (refine Calm.call2 (by rfl) rfl rfl rfl (by kernel_rfl) hs hBC ?_)
      simp only [Act.put, List.setIfInBounds_toArray, List.set_cons_zero, List.set_cons_succ]
    all_goals
      first
        | (refine Calm.skip ?_ ?_; focus rfl)
        | (refine Calm.pure (v := ?_) (by rfl) ?_ ?_
           rotate_left
           focus (intro w hSw; go_simp <;> rfl))
      simp only [Act.put, List.setIfInBounds_toArray, List.set_cons_zero, List.set_cons_succ]
    all_goals
      first
        | (refine Calm.skip ?_ ?_; focus rfl)
        | (refine Calm.pure (v := ?_) (by rfl) ?_ ?_
           rotate_left
           focus (intro w hSw; go_simp <;> rfl))
      simp only [Act.put, List.setIfInBounds_toArray, List.set_cons_zero, List.set_cons_succ]
    all_goals
      refine Calm.pure (v := ?_) (by rfl) ?_ ?_
      rotate_left
      focus (intro w hSw; go_simp <;> rfl)
      simp only [Act.put, List.setIfInBounds_toArray, List.set_cons_zero, List.set_cons_succ]
    all_goals
      refine Calm.pure (v := ?_) (by rfl) ?_ ?_
      rotate_left
      focus (intro w hSw; go_simp <;> rfl)
      simp only [Act.put, List.setIfInBounds_toArray, List.set_cons_zero, List.set_cons_succ]
    all_goals
      first
        | (refine Calm.skip ?_ ?_; focus rfl)
        | (refine Calm.load (by rfl) _ rfl rfl (fun _ h => by unfold Boxes at h; go_split_ands; assumption) ?_)
      simp only [Act.put, List.setIfInBounds_toArray, List.set_cons_zero, List.set_cons_succ]
    all_goals
      first
        | (refine Calm.skip ?_ ?_; focus rfl)
        | (refine Calm.load (by rfl) _ rfl rfl (fun _ h => by unfold Boxes at h; go_split_ands; assumption) ?_)
      simp only [Act.put, List.setIfInBounds_toArray, List.set_cons_zero, List.set_cons_succ]
    all_goals
      first
        | (refine Calm.skip ?_ ?_; focus rfl)
        | (refine Calm.call2 (by rfl) rfl rfl rfl (by kernel_rfl) hs hCM ?_)
      simp only [Act.put, List.setIfInBounds_toArray, List.set_cons_zero, List.set_cons_succ]
    all_goals
      first
        | (refine Calm.skip ?_ ?_; focus rfl)
        | (refine Calm.load (by rfl) _ rfl rfl (fun _ h => by unfold Boxes at h; go_split_ands; assumption) ?_)
      simp only [Act.put, List.setIfInBounds_toArray, List.set_cons_zero, List.set_cons_succ]
    all_goals
      first
        | (refine Calm.skip ?_ ?_; focus rfl)
        | (refine Calm.load (by rfl) _ rfl rfl (fun _ h => by unfold Boxes at h; go_split_ands; assumption) ?_)
      simp only [Act.put, List.setIfInBounds_toArray, List.set_cons_zero, List.set_cons_succ]
    all_goals
      cases x2
    all_goals
      first
        | (refine Calm.skip ?_ ?_; focus rfl)
        | (refine Calm.call2 (by rfl) rfl rfl rfl (by kernel_rfl) hs hCA ?_)
      simp only [Act.put, List.setIfInBounds_toArray, List.set_cons_zero, List.set_cons_succ]
    all_goals
      first
        | (refine Calm.skip ?_ ?_; focus rfl)
        | (refine Calm.pure (v := ?_) (by rfl) ?_ ?_
           rotate_left
           focus (intro w hSw; go_simp <;> rfl))
      simp only [Act.put, List.setIfInBounds_toArray, List.set_cons_zero, List.set_cons_succ]
    all_goals
      first
        | (refine Calm.skip ?_ ?_; focus rfl)
        | (refine Calm.load (by rfl) _ rfl rfl (fun _ h => by unfold Boxes at h; go_split_ands; assumption) ?_)
      simp only [Act.put, List.setIfInBounds_toArray, List.set_cons_zero, List.set_cons_succ]
    all_goals
      first
        | (refine Calm.skip ?_ ?_; focus rfl)
        | (refine Calm.load (by rfl) _ rfl rfl (fun _ h => by unfold Boxes at h; go_split_ands; assumption) ?_)
      simp only [Act.put, List.setIfInBounds_toArray, List.set_cons_zero, List.set_cons_succ]
    all_goals
      first
        | (refine Calm.skip ?_ ?_; focus rfl)
        | (refine Calm.call2 (by rfl) rfl rfl rfl (by kernel_rfl) hs hCB ?_)
      simp only [Act.put, List.setIfInBounds_toArray, List.set_cons_zero, List.set_cons_succ]
    all_goals
      first
        | (refine Calm.skip ?_ ?_; focus rfl)
        | (refine Calm.pure (v := ?_) (by rfl) ?_ ?_
           rotate_left
           focus (intro w hSw; go_simp <;> rfl))
      simp only [Act.put, List.setIfInBounds_toArray, List.set_cons_zero, List.set_cons_succ]
    all_goals
      first
        | (refine Calm.skip ?_ ?_; focus rfl)
        | (refine Calm.pure (v := ?_) (by rfl) ?_ ?_
           rotate_left
           focus (intro w hSw; go_simp <;> rfl))
      simp only [Act.put, List.setIfInBounds_toArray, List.set_cons_zero, List.set_cons_succ]
    all_goals
      refine Calm.pure (v := ?_) (by rfl) ?_ ?_
      rotate_left
      focus (intro w hSw; go_simp <;> rfl)
      simp only [Act.put, List.setIfInBounds_toArray, List.set_cons_zero, List.set_cons_succ]
    all_goals
      refine Calm.pure (v := ?_) (by rfl) ?_ ?_
      rotate_left
      focus (intro w hSw; go_simp <;> rfl)
      simp only [Act.put, List.setIfInBounds_toArray, List.set_cons_zero, List.set_cons_succ]
    all_goals
      first
        | (refine Calm.skip ?_ ?_; focus rfl)
        | (refine Calm.call0 (by rfl) rfl (by kernel_rfl) hs heads_any ?_)
      simp only [Act.put, List.setIfInBounds_toArray, List.set_cons_zero, List.set_cons_succ]
    all_goals
      refine Calm.pure (v := ?_) (by rfl) ?_ ?_
      rotate_left
      focus (intro w hSw; go_simp <;> rfl)
      simp only [Act.put, List.setIfInBounds_toArray, List.set_cons_zero, List.set_cons_succ]
    all_goals
      refine Calm.pure (v := ?_) (by rfl) ?_ ?_
      rotate_left
      focus (intro w hSw; go_simp <;> rfl)
      simp only [Act.put, List.setIfInBounds_toArray, List.set_cons_zero, List.set_cons_succ]
    all_goals
      rintro w9 ⟨⟨_, _, _, hbel9⟩, _, _⟩
      go_wp2
      go_ret
      exact ⟨by simp, hbel9⟩

end Go.Proofs.Ytbeehmcoeblbcaa
