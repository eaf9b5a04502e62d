import Derived.Test.YtfjpbmdmkcihcaaGreatRows
import Derived.Still
import Derived.OrdersHeld
import Derived.WalkKit
/- A region that draws its order, where every operation, a call too, comes to one value in every world that meets S, and leaves a world that meets S: it may be walked in the text's order, once. Nothing of one program. -/
namespace Go.Proofs.YtfjpbmdmkcihcaaGreat
/-- How a value is put into a frame that is written out. -/
theorem put4 : (∀ (a : Act) (d : Tmp) (v : Value), a.put (some d) v = { a with tmps := a.tmps.setIfInBounds d v }) ∧ (∀ (a : Act) (v : Value), a.put none v = a) ∧ (∀ (l : List Value) (i : Nat) (v : Value), l.toArray.setIfInBounds i v = (l.set i v).toArray) ∧ (∀ (a b : Value) (l : List Value), (a :: l).set 0 b = b :: l) ∧ (∀ (a b : Value) (l : List Value) (i : Nat), (a :: l).set (i + 1) b = a :: l.set i b) := ⟨fun _ _ _ => rfl, fun _ _ => rfl, fun _ _ _ => by simp, fun _ _ _ => rfl, fun _ _ _ _ => rfl⟩
end Go.Proofs.YtfjpbmdmkcihcaaGreat
namespace Go.Proofs.YtfjpbmdmkcihcaaGreat.Calm

section
variable {P : Program} {ops : Array Oper} {Q : Exit → Act → World → Prop} {md : Region.Mode} {S : World → Prop} {K : Act → Prop}

/-- In every world that meets S what is run comes to v, by itself or by a call, and leaves a world that meets S. -/
def Comes (P : Program) (S : World → Prop) (v : Value) (m : Sem Next) : Prop := ∀ w, S w → match m.run P w with
  | .ok (.value u) w' => u = v ∧ S w'
  | .ok (.enter f args) w' => Calls P f args w' fun e w'' => e = .returned v ∧ S w''
  | _ => False

def Calm (P : Program) (ops : Array Oper) (S : World → Prop) (o : Oper) (v : Value) (a : Act) : Prop :=
  (Region.wanted o (yielded ops a.tmps) = true ∧ Comes P S v (execOp a.eval o)) ∨ (Region.wanted o (yielded ops a.tmps) = false ∧ v = undef)

theorem Calm.of_same {o : Oper} {v : Value} {a a' : Act} (hy : Calm P ops S o v a) (he : execOp a'.eval o = execOp a.eval o)
    (hw : Region.wanted o (yielded ops a'.tmps) = Region.wanted o (yielded ops a.tmps)) : Calm P ops S o v a' := by
  unfold Calm at *; rw [he, hw]; exact hy

theorem Calm.wpOp {i : Nat} {o : Oper} {v : Value} {a : Act} (hi : ops[i]? = some o) (hy : Calm P ops S o v a)
    {K : Act → World → Prop} {w : World} (hS : S w) (h : ∀ w', S w' → K (a.put o.dst v) w') : Go.wpOp P ops Q i K a w := by
  unfold Go.wpOp; simp only [hi]
  rcases hy with ⟨hw, hv⟩ | ⟨hw, rfl⟩
  · simp only [hw, if_true, Oper.wp]
    refine .inl ?_; have hv' := hv w hS; generalize (execOp a.eval o).run P w = r at hv'
    cases r with
    | ok n w' =>
      cases n <;> simp only at hv' ⊢
      case value u =>
        obtain ⟨rfl, hS'⟩ := hv'; exact h _ hS'
      case enter f args =>
        refine Calls.mono hv' fun e w'' he => ?_; obtain ⟨rfl, hS'⟩ := he; exact h _ hS'
    | halt x w' => exact hv'.elim
  · simp only [hw, Bool.false_eq_true, if_false]
    exact h _ hS

/-- Whatever order is picked. -/
def anyCalm (P : Program) (md : Region.Mode) (ops : Array Oper) (S : World → Prop) (K : Act → Prop) : Nat → Array Bool → Act → Prop
  | 0, listed, a => Region.ready md ops listed = [] ∧ K a
  | fuel + 1, listed, a =>
    (Region.ready md ops listed = [] → K a) ∧
    ∀ i ∈ Region.ready md ops listed, ∃ o v, ops[i]? = some o ∧ Calm P ops S o v a ∧ anyCalm P md ops S K fuel (listed.setIfInBounds i true) (a.put o.dst v)

theorem wpAny_of_calm (hK : ∀ a w, K a → S w → Q .normal a w) : ∀ (fuel : Nat) (listed : Array Bool) (a : Act) (w : World), S w → anyCalm P md ops S K fuel listed a → wpAny P md ops Q fuel listed a w
  | 0, _, a, w, hS, h => ⟨h.1, hK a w h.2 hS⟩
  | fuel + 1, _, a, w, hS, h => ⟨fun hr => hK a w (h.1 hr) hS, fun i hi => by
      obtain ⟨o, v, ho, hc, hr⟩ := h.2 i hi
      exact hc.wpOp ho hS fun w' hS' => wpAny_of_calm hK fuel _ _ w' hS' hr⟩

theorem anyCalm_first {i : Nat} {oi : Oper} {v : Value} (hi : ops[i]? = some oi) (hsel : ∀ (j : Nat) (o : Oper) cs b, ops[j]? = some o → o.op ≠ .select cs b) :
    ∀ (fuel : Nat) (listed : Array Bool) (a : Act),
      (∀ j oj, ops[j]? = some oj → j ≠ i → listed.getD j true = false → (∀ e ∈ oj.after, Region.binds md e = true → e.on ≠ i) → oi.apart ops oj = true) →
      i ∈ Region.ready md ops listed → Calm P ops S oi v a →
      anyCalm P md ops S K fuel (listed.setIfInBounds i true) (a.put oi.dst v) → anyCalm P md ops S K (fuel + 1) listed a := by
  intro fuel
  induction fuel with
  | zero =>
    intro listed a _ hr hy H; refine ⟨fun h => (by rw [h] at hr; cases hr), fun j hj => ?_⟩
    by_cases hji : j = i
    · subst hji; exact ⟨oi, v, hi, hy, H⟩
    · have := ready_mono hj hji
      rw [H.1] at this
      cases this
  | succ fuel ih =>
    intro listed a hfree hr hy H; refine ⟨fun h => (by rw [h] at hr; cases hr), fun j hj => ?_⟩
    by_cases hji : j = i
    · subst hji; exact ⟨oi, v, hi, hy, H⟩
    · obtain ⟨oj, u, hoj, hcj, hrest⟩ := H.2 j (ready_mono hj hji)
      obtain ⟨hjun, oj', hoj', hall⟩ := mem_ready.1 hj
      obtain rfl : oj = oj' := by rw [hoj] at hoj'; exact Option.some.inj hoj'
      have hnot : ∀ e ∈ oj.after, Region.binds md e = true → e.on ≠ i := fun e he hb heq => by
        have h1 := hall e he hb; have h0 := (mem_ready.1 hr).1; rw [heq] at h1
        rcases Nat.lt_or_ge i listed.size with h' | h'
        · simp [h'] at h0 h1; rw [h0] at h1; cases h1
        · simp [Array.getElem?_eq_none h'] at h1
      obtain ⟨h1, h2, h3⟩ := Oper.apart_spec (hfree j oj hoj hji hjun hnot)
      have hfree' : ∀ k ok, ops[k]? = some ok → k ≠ i → (listed.setIfInBounds j true).getD k true = false →
          (∀ e ∈ ok.after, Region.binds md e = true → e.on ≠ i) → oi.apart ops ok = true := fun k ok hk hki hun hno => by
        refine hfree k ok hk hki ?_ hno
        by_cases hjk : j = k
        · subst hjk; exact hjun
        · rw [getD_set_ne true hjk] at hun; exact hun
      refine ⟨oj, u, hoj, hcj.of_same (execOp_put oj (fun cs b => hsel j oj cs b hoj) a oi.dst v h1).symm (wanted_put oj a oi.dst v h1).symm, ?_⟩; refine ih (listed.setIfInBounds j true) (a.put oj.dst u) hfree' (ready_mono hr (Ne.symm hji)) ?_ ?_
      · exact hy.of_same (execOp_put oi (fun cs b => hsel i oi cs b hi) a oj.dst u h3) (wanted_put oi a oj.dst u h3)
      · rw [Array.setIfInBounds_comm _ _ hji, ← Act.put_comm a v u h2]
        exact hrest

/-- In the text's order. -/
def calmList (P : Program) (ops : Array Oper) (S : World → Prop) (K : Act → Prop) : List Oper → Act → Prop
  | [], a => K a
  | o :: l, a => ∃ v, Calm P ops S o v a ∧ calmList P ops S K l (a.put o.dst v)

theorem anyCalm_lex (hs : Region.noSelect ops = true) : ∀ (l : List Oper) (k : Nat) (listed : Array Bool) (a : Act), (∀ j, l[j]? = ops[k + j]?) →
    Region.lexFrom md ops l.length k listed = true → calmList P ops S K l a → anyCalm P md ops S K l.length listed a
  | [], _, _, _, _, hB, h => ⟨by simpa [Region.lexFrom] using hB, h⟩
  | o :: l, k, listed, a, hl, hB, h => by
    have h0 : ops[k]? = some o := by simpa using (hl 0).symm
    simp only [List.length_cons, Region.lexFrom, Bool.and_eq_true] at hB; obtain ⟨⟨hr, hf⟩, hB'⟩ := hB; obtain ⟨v, hy, hK⟩ := h
    exact anyCalm_first h0 (Region.noSelect_spec hs) l.length listed a (Region.free_spec h0 hf) (by simpa using hr) hy
      (anyCalm_lex hs l (k + 1) _ _ (fun j => by have := hl (j + 1); simpa [Nat.add_assoc, Nat.add_comm 1 j] using this) hB' hK)

theorem region {id : Nat} {a : Act} {w : World} {l : List Oper} (hm : P.follows .mixedOrders = true) (hB : Region.lexB .any l.toArray = true) (S : World → Prop) (hS : S w.drew)
    (h : calmList P l.toArray S (fun a' => ∀ w', S w' → Q .normal a' w') l a) : (Code.region id l.toArray true).wp P Q a w := by
  simp only [Region.lexB, Bool.and_eq_true] at hB
  refine wp_region_any hm (wpAny_of_calm (K := fun a' => ∀ w', S w' → Q .normal a' w') (S := S) (fun a w h hS => h w hS) _ _ _ _ hS ?_)
  have := anyCalm_lex (md := .any) hB.1 l 0 (Array.replicate l.toArray.size false) a (by simp) (by simpa using hB.2) h
  simpa using this

/-! The moves. -/
theorem skip {o : Oper} {l : List Oper} {a : Act} (hw : Region.wanted o (yielded ops a.tmps) = false) (h : calmList P ops S K l (a.put o.dst undef)) : calmList P ops S K (o :: l) a :=
  ⟨undef, .inr ⟨hw, rfl⟩, h⟩
theorem pure {o : Oper} {l : List Oper} {a : Act} {v : Value} (hw : Region.wanted o (yielded ops a.tmps) = true) (hv : ∀ w, S w → (execOp a.eval o).run P w = .ok (.value v) w)
    (h : calmList P ops S K l (a.put o.dst v)) : calmList P ops S K (o :: l) a :=
  ⟨v, .inl ⟨hw, fun w hS => by rw [hv w hS]; exact ⟨rfl, hS⟩⟩, h⟩
theorem call {o : Oper} {l : List Oper} {a : Act} {v : Value} {f : FuncId} {args : Array Value} (hw : Region.wanted o (yielded ops a.tmps) = true)
    (he : ∀ w, (execOp a.eval o).run P w = .ok (.enter f args) w) (hc : ∀ w, S w → Calls P f args w fun e w' => e = .returned v ∧ S w')
    (h : calmList P ops S K l (a.put o.dst v)) : calmList P ops S K (o :: l) a :=
  ⟨v, .inl ⟨hw, fun w hS => by rw [he w]; exact hc w hS⟩, h⟩

/-- S stays behind whatever leaves the memory that was there alone. -/
def Stays (S : World → Prop) : Prop := ∀ w w', S w → RowKit.Below w.heap.size w w' → S w'

/-- The function has a body. -/
def enters (P : Program) (f : FuncId) : Bool := match P.funcs[f]? with
  | some fn => !(fn.name == "runtime.NumGoroutine") && fn.body.isSome
  | none => false
theorem enters_run {f : FuncId} (h : enters P f = true) (args : Array Value) (w : World) : (callFunc f args).run P w = .ok (.enter f args) w := by
  unfold enters at h
  cases hf : P.funcs[f]? with
  | none => simp [hf] at h
  | some fn =>
    simp only [hf, Bool.and_eq_true, Bool.not_eq_true'] at h
    have h1 : ¬ fn.name = "runtime.NumGoroutine" := by simpa using h.1
    have h2 : ¬ fn.body = none := by
      intro hb; rw [hb] at h
      simp at h
    simp [callFunc, hf, h1, h2]

/-- A call of a function by its name, of no, one, two, three arguments; a contract that leaves the memory that was there alone. -/
theorem call0 {o : Oper} {l : List Oper} {a : Act} {r : Value} {f : FuncId} {ts : Array TypeId} (hw : Region.wanted o (yielded ops a.tmps) = true)
    (ho : o.op = .call { callee := .value (.func f), args := #[], argTypes := ts })  (hf : enters P f = true) (hs : Stays S)
    (hc : ∀ w, Calls P f #[] w fun e w' => e = .returned r ∧ RowKit.Below w.heap.size w w')
    (h : calmList P ops S K l (a.put o.dst r)) : calmList P ops S K (o :: l) a :=
  call (f := f) (args := #[]) hw (fun w => by
    have e : ∀ args, (callFunc f args).run P w = .ok (.enter f args) w := fun args => enters_run hf args w
    unfold execOp
    simp [ho, go_sem, Act.eval, e]) (fun w hS => (hc w).mono fun e w' he => ⟨he.1, hs w w' hS he.2⟩) h
theorem call1 {o : Oper} {l : List Oper} {a : Act} {r x : Value} {f : FuncId} {ts : Array TypeId} {u : Operand} (hw : Region.wanted o (yielded ops a.tmps) = true)
    (ho : o.op = .call { callee := .value (.func f), args := #[u], argTypes := ts }) (hu : a.eval u = x) (hf : enters P f = true) (hs : Stays S)
    (hc : ∀ w, Calls P f #[x] w fun e w' => e = .returned r ∧ RowKit.Below w.heap.size w w')
    (h : calmList P ops S K l (a.put o.dst r)) : calmList P ops S K (o :: l) a :=
  call (f := f) (args := #[x]) hw (fun w => by
    have e : ∀ args, (callFunc f args).run P w = .ok (.enter f args) w := fun args => enters_run hf args w
    subst hu; unfold execOp
    simp [ho, go_sem, Act.eval, e]) (fun w hS => (hc w).mono fun e w' he => ⟨he.1, hs w w' hS he.2⟩) h
theorem call2 {o : Oper} {l : List Oper} {a : Act} {r x y : Value} {f : FuncId} {ts : Array TypeId} {u v : Operand} (hw : Region.wanted o (yielded ops a.tmps) = true)
    (ho : o.op = .call { callee := .value (.func f), args := #[u, v], argTypes := ts }) (hu : a.eval u = x) (hv : a.eval v = y) (hf : enters P f = true) (hs : Stays S)
    (hc : ∀ w, Calls P f #[x, y] w fun e w' => e = .returned r ∧ RowKit.Below w.heap.size w w')
    (h : calmList P ops S K l (a.put o.dst r)) : calmList P ops S K (o :: l) a :=
  call (f := f) (args := #[x, y]) hw (fun w => by
    have e : ∀ args, (callFunc f args).run P w = .ok (.enter f args) w := fun args => enters_run hf args w
    subst hu; subst hv; unfold execOp
    simp [ho, go_sem, Act.eval, e]) (fun w hS => (hc w).mono fun e w' he => ⟨he.1, hs w w' hS he.2⟩) h
theorem call3 {o : Oper} {l : List Oper} {a : Act} {r x y z : Value} {f : FuncId} {ts : Array TypeId} {u v t : Operand} (hw : Region.wanted o (yielded ops a.tmps) = true)
    (ho : o.op = .call { callee := .value (.func f), args := #[u, v, t], argTypes := ts }) (hu : a.eval u = x) (hv : a.eval v = y) (ht : a.eval t = z) (hf : enters P f = true) (hs : Stays S)
    (hc : ∀ w, Calls P f #[x, y, z] w fun e w' => e = .returned r ∧ RowKit.Below w.heap.size w w')
    (h : calmList P ops S K l (a.put o.dst r)) : calmList P ops S K (o :: l) a :=
  call (f := f) (args := #[x, y, z]) hw (fun w => by
    have e : ∀ args, (callFunc f args).run P w = .ok (.enter f args) w := fun args => enters_run hf args w
    subst hu; subst hv; subst ht; unfold execOp
    simp [ho, go_sem, Act.eval, e]) (fun w hS => (hc w).mono fun e w' he => ⟨he.1, hs w w' hS he.2⟩) h

end
end Go.Proofs.YtfjpbmdmkcihcaaGreat.Calm
/- Tame, where what was drawn is told too. Nothing of one program. -/
namespace Go.Proofs.YtfjpbmdmkcihcaaGreat.Tam2
open Go.RowKit

/-- What was there stays, and what was drawn was drawn. -/
def Bl (w w' : World) : Prop := Below w.heap.size w w' ∧ w.drawn ≤ w'.drawn
theorem Bl.refl (w : World) : Bl w w := ⟨Below.refl _ _, Nat.le_refl _⟩
theorem Bl.on {u w v : World} (h : Bl u w) (k : Bl w v) : Bl u v := ⟨h.1.trans (k.1.mono h.1.size), Nat.le_trans h.2 k.2⟩
def Stays (S : World → Prop) : Prop := ∀ w w', S w → Bl w w' → S w'

section
variable {P : Program} {ops : Array Oper} {Q : Exit → Act → World → Prop} {md : Region.Mode} {S : World → Prop} {T : Value → World → Prop} {K : Act → Prop}

/-- What is run comes to a value of V, by itself or by a call, and leaves the memory that was there alone. -/
def Goes (P : Program) (S : World → Prop) (T : Value → World → Prop) (V : Value → Prop) (o : Oper) (a : Act) : Prop :=
  ∀ w, S w → (∀ t, Operand.tmp t ∈ o.op.operands → T (a.eval (.tmp t)) w) → match (execOp a.eval o).run P w with
  | .ok (.value u) w' => V u ∧ T u w' ∧ Bl w w'
  | .ok (.enter f args) w' => Calls P f args w' fun e w'' => ∃ u, e = .returned u ∧ V u ∧ T u w'' ∧ Bl w w''
  | _ => False

def Tame (P : Program) (ops : Array Oper) (S : World → Prop) (T : Value → World → Prop) (o : Oper) (V : Value → Prop) (a : Act) : Prop :=
  (Region.wanted o (yielded ops a.tmps) = true ∧ Goes P S T V o a) ∨ (Region.wanted o (yielded ops a.tmps) = false ∧ V undef)

theorem Tame.of_put {o : Oper} {V : Value → Prop} {a : Act} (hs : ∀ cs b, o.op ≠ .select cs b) (dst : Option Tmp) (v : Value) (h : ∀ d, dst = some d → d ∉ o.looksAt ops) :
    Tame P ops S T o V (a.put dst v) ↔ Tame P ops S T o V a := by
  have hx : ∀ t, Operand.tmp t ∈ o.op.operands → (a.put dst v).eval (.tmp t) = a.eval (.tmp t) := fun t ht => Act.eval_put fun d hd hxd => h d hd (by
    cases hxd
    exact List.mem_append_left _ (List.mem_filterMap.2 ⟨.tmp t, by simpa using ht, rfl⟩))
  unfold Tame Goes; rw [execOp_put o hs a dst v h, wanted_put o a dst v h]
  have e : ∀ w, (∀ t, Operand.tmp t ∈ o.op.operands → T ((a.put dst v).eval (.tmp t)) w) ↔ (∀ t, Operand.tmp t ∈ o.op.operands → T (a.eval (.tmp t)) w) := fun w =>
    ⟨fun H t ht => by have := H t ht; rwa [hx t ht] at this, fun H t ht => by rw [hx t ht]; exact H t ht⟩
  simp only [e]

/-- All values at hand are known. -/
def Known (T : Value → World → Prop) (a : Act) (w : World) : Prop := ∀ t, T (a.tmps.getD t undef) w

theorem Known.put {a : Act} {w w' : World} (hT : ∀ v w w', T v w → Bl w w' → T v w') (h : Known T a w) (hb : Bl w w') (dst : Option Tmp) {u : Value} (hu : T u w') : Known T (a.put dst u) w' := by
  intro t
  cases dst with
  | none => exact hT _ _ _ (h t) hb
  | some d =>
    by_cases hd : d = t
    · subst hd
      simp only [Act.put, Array.getD_eq_getD_getElem?]
      rcases Nat.lt_or_ge d a.tmps.size with hlt | hge
      · simp [hlt]; exact hu
      · have := hT _ _ _ (h d) hb
        simpa [Array.getD_eq_getD_getElem?, hge] using this
    · simp only [Act.put, Array.getD_eq_getD_getElem?, Array.getElem?_setIfInBounds_ne hd]
      have := hT _ _ _ (h t) hb
      simpa [Array.getD_eq_getD_getElem?] using this

theorem Tame.wpOp {i : Nat} {o : Oper} {V : Value → Prop} {a : Act} (hi : ops[i]? = some o) (hy : Tame P ops S T o V a) (hS : Stays S) (hT : ∀ v w w', T v w → Bl w w' → T v w') (h0 : ∀ w, T undef w)
    {K : Act → World → Prop} {w : World} (hw : S w) (hk : Known T a w) (h : ∀ v w', V v → S w' → Known T (a.put o.dst v) w' → K (a.put o.dst v) w') : Go.wpOp P ops Q i K a w := by
  unfold Go.wpOp; simp only [hi]
  rcases hy with ⟨hwd, hv⟩ | ⟨hwd, hv⟩
  · simp only [hwd, if_true, Oper.wp]
    refine .inl ?_; have hv' := hv w hw (fun t _ => hk t); generalize (execOp a.eval o).run P w = r at hv'
    cases r with
    | ok n w' =>
      cases n <;> simp only at hv' ⊢
      case value u => exact h _ _ hv'.1 (hS _ _ hw hv'.2.2) (hk.put hT hv'.2.2 _ hv'.2.1)
      case enter f args =>
        refine Calls.mono hv' fun e w'' he => ?_; obtain ⟨u, rfl, h1, h2, h3⟩ := he; exact h _ _ h1 (hS _ _ hw h3) (hk.put hT h3 _ h2)
    | halt x w' => exact hv'.elim
  · simp only [hwd, Bool.false_eq_true, if_false]
    exact h _ _ hv hw (hk.put hT (Bl.refl _) _ (h0 w))

/-- The acts of A, with whatever value of V behind the operation. -/
def putS (A : Act → Prop) (o : Oper) (V : Value → Prop) : Act → Prop := fun a' => ∃ a v, A a ∧ V v ∧ a' = a.put o.dst v

theorem putS_comm {A : Act → Prop} {x y : Oper} {V W : Value → Prop} (h : ∀ d, x.dst = some d → y.dst ≠ some d) : putS (putS A x V) y W = putS (putS A y W) x V := by
  funext a'
  apply propext
  constructor
  · rintro ⟨_, u, ⟨a, v, ha, hv, rfl⟩, hu, rfl⟩
    exact ⟨_, v, ⟨a, u, ha, hu, rfl⟩, hv, Act.put_comm a v u h⟩
  · rintro ⟨_, v, ⟨a, u, ha, hu, rfl⟩, hv, rfl⟩
    exact ⟨_, u, ⟨a, v, ha, hv, rfl⟩, hu, (Act.put_comm a v u h).symm⟩

def anyTame (P : Program) (md : Region.Mode) (ops : Array Oper) (S : World → Prop) (T : Value → World → Prop) (K : Act → Prop) : Nat → Array Bool → (Act → Prop) → Prop
  | 0, listed, A => Region.ready md ops listed = [] ∧ ∀ a, A a → K a
  | fuel + 1, listed, A =>
    (Region.ready md ops listed = [] → ∀ a, A a → K a) ∧
    ∀ i ∈ Region.ready md ops listed, ∃ o V, ops[i]? = some o ∧ (∃ v, V v) ∧ (∀ a, A a → Tame P ops S T o V a) ∧ anyTame P md ops S T K fuel (listed.setIfInBounds i true) (putS A o V)

theorem wpAny_of_tame (hS : Stays S) (hT : ∀ v w w', T v w → Bl w w' → T v w') (h0 : ∀ w, T undef w) (hK : ∀ a w, K a → S w → Known T a w → Q .normal a w) :
    ∀ (fuel : Nat) (listed : Array Bool) (A : Act → Prop) (a : Act) (w : World), A a → S w → Known T a w → anyTame P md ops S T K fuel listed A → wpAny P md ops Q fuel listed a w
  | 0, _, A, a, w, hA, hw, hk, h => ⟨h.1, hK a w (h.2 a hA) hw hk⟩
  | fuel + 1, _, A, a, w, hA, hw, hk, h => ⟨fun hr => hK a w (h.1 hr a hA) hw hk, fun i hi => by
      obtain ⟨o, V, ho, _, hc, hr⟩ := h.2 i hi
      exact (hc a hA).wpOp ho hS hT h0 hw hk fun v w' hv hw' hk' => wpAny_of_tame hS hT h0 hK fuel _ _ _ w' ⟨a, v, hA, hv, rfl⟩ hw' hk' hr⟩

theorem anyTame_first {i : Nat} {oi : Oper} {V : Value → Prop} (hi : ops[i]? = some oi) (hV : ∃ v, V v) (hsel : ∀ (j : Nat) (o : Oper) cs b, ops[j]? = some o → o.op ≠ .select cs b) :
    ∀ (fuel : Nat) (listed : Array Bool) (A : Act → Prop),
      (∀ j oj, ops[j]? = some oj → j ≠ i → listed.getD j true = false → (∀ e ∈ oj.after, Region.binds md e = true → e.on ≠ i) → oi.apart ops oj = true) →
      i ∈ Region.ready md ops listed → (∀ a, A a → Tame P ops S T oi V a) →
      anyTame P md ops S T K fuel (listed.setIfInBounds i true) (putS A oi V) → anyTame P md ops S T K (fuel + 1) listed A := by
  intro fuel
  induction fuel with
  | zero =>
    intro listed A _ hr hy H; refine ⟨fun h => (by rw [h] at hr; cases hr), fun j hj => ?_⟩
    by_cases hji : j = i
    · subst hji; exact ⟨oi, V, hi, hV, hy, H⟩
    · have := ready_mono hj hji
      rw [H.1] at this
      cases this
  | succ fuel ih =>
    intro listed A hfree hr hy H; refine ⟨fun h => (by rw [h] at hr; cases hr), fun j hj => ?_⟩
    by_cases hji : j = i
    · subst hji; exact ⟨oi, V, hi, hV, hy, H⟩
    · obtain ⟨oj, W, hoj, hW, hcj, hrest⟩ := H.2 j (ready_mono hj hji)
      obtain ⟨hjun, oj', hoj', hall⟩ := mem_ready.1 hj
      obtain rfl : oj = oj' := by rw [hoj] at hoj'; exact Option.some.inj hoj'
      have hnot : ∀ e ∈ oj.after, Region.binds md e = true → e.on ≠ i := fun e he hb heq => by
        have h1 := hall e he hb; have h0 := (mem_ready.1 hr).1; rw [heq] at h1
        rcases Nat.lt_or_ge i listed.size with h' | h'
        · simp [h'] at h0 h1; rw [h0] at h1; cases h1
        · simp [Array.getElem?_eq_none h'] at h1
      obtain ⟨h1, h2, h3⟩ := Oper.apart_spec (hfree j oj hoj hji hjun hnot)
      have hfree' : ∀ k ok, ops[k]? = some ok → k ≠ i → (listed.setIfInBounds j true).getD k true = false →
          (∀ e ∈ ok.after, Region.binds md e = true → e.on ≠ i) → oi.apart ops ok = true := fun k ok hk hki hun hno => by
        refine hfree k ok hk hki ?_ hno
        by_cases hjk : j = k
        · subst hjk; exact hjun
        · rw [getD_set_ne true hjk] at hun; exact hun
      obtain ⟨v0, hv0⟩ := hV; refine ⟨oj, W, hoj, hW, fun a ha => (Tame.of_put (fun cs b => hsel j oj cs b hoj) oi.dst v0 h1).1 (hcj _ ⟨a, v0, ha, hv0, rfl⟩), ?_⟩; refine ih (listed.setIfInBounds j true) (putS A oj W) hfree' (ready_mono hr (Ne.symm hji)) ?_ ?_
      · rintro _ ⟨a, u, ha, _, rfl⟩
        exact (Tame.of_put (fun cs b => hsel i oi cs b hi) oj.dst u h3).2 (hy a ha)
      · rw [Array.setIfInBounds_comm _ _ hji, ← putS_comm h2]
        exact hrest

/-- In the text's order. -/
def tameList (P : Program) (ops : Array Oper) (S : World → Prop) (T : Value → World → Prop) (K : Act → Prop) : List Oper → (Act → Prop) → Prop
  | [], A => ∀ a, A a → K a
  | o :: l, A => ∃ V, (∃ v, V v) ∧ (∀ a, A a → Tame P ops S T o V a) ∧ tameList P ops S T K l (putS A o V)

theorem anyTame_lex (hs : Region.noSelect ops = true) : ∀ (l : List Oper) (k : Nat) (listed : Array Bool) (A : Act → Prop), (∀ j, l[j]? = ops[k + j]?) →
    Region.lexFrom md ops l.length k listed = true → tameList P ops S T K l A → anyTame P md ops S T K l.length listed A
  | [], _, _, _, _, hB, h => ⟨by simpa [Region.lexFrom] using hB, h⟩
  | o :: l, k, listed, A, hl, hB, h => by
    have h0 : ops[k]? = some o := by simpa using (hl 0).symm
    simp only [List.length_cons, Region.lexFrom, Bool.and_eq_true] at hB; obtain ⟨⟨hr, hf⟩, hB'⟩ := hB; obtain ⟨V, hV, hy, hK⟩ := h
    exact anyTame_first h0 hV (Region.noSelect_spec hs) l.length listed A (Region.free_spec h0 hf) (by simpa using hr) hy
      (anyTame_lex hs l (k + 1) _ _ (fun j => by have := hl (j + 1); simpa [Nat.add_assoc, Nat.add_comm 1 j] using this) hB' hK)

/-- The acts f p, p of G. -/
def fam {E : Type} (G : E → Prop) (f : E → Act) : Act → Prop := fun a => ∃ p, G p ∧ a = f p

theorem region {id : Nat} {a : Act} {w : World} {l : List Oper} (hm : P.follows .mixedOrders = true) (hB : Region.lexB .any l.toArray = true) (S : World → Prop) (T : Value → World → Prop)
    (hS : Stays S) (hT : ∀ v w w', T v w → Bl w w' → T v w') (h0 : ∀ w, T undef w) (hw : S w.drew) (hk : Known T a w.drew)
    (h : tameList P l.toArray S T (fun a' => ∀ w', S w' → Q .normal a' w') l (fam (fun _ : Unit => True) fun _ => a)) : (Code.region id l.toArray true).wp P Q a w := by
  simp only [Region.lexB, Bool.and_eq_true] at hB
  refine wp_region_any hm (wpAny_of_tame (K := fun a' => ∀ w', S w' → Q .normal a' w') hS hT h0 (fun a w h hS _ => h w hS) _ _ (fam (fun _ : Unit => True) fun _ => a) _ _ ⟨(), trivial, rfl⟩ hw hk ?_)
  have := anyTame_lex (md := .any) hB.1 l 0 (Array.replicate l.toArray.size false) _ (by simp) (by simpa using hB.2) h
  simpa using this

/-! The moves, on acts f p. -/
variable {E : Type} {G : E → Prop} {f : E → Act}

theorem tameList_sub : ∀ (l : List Oper) {A B : Act → Prop}, (∀ a, A a → B a) → tameList P ops S T K l B → tameList P ops S T K l A
  | [], _, _, h, hB => fun a ha => hB a (h a ha)
  | _ :: l, _, _, h, ⟨V, hV, hy, hr⟩ => ⟨V, hV, fun a ha => hy a (h a ha), tameList_sub l (fun _ ⟨a, v, ha, hv, e⟩ => ⟨a, v, h a ha, hv, e⟩) hr⟩

theorem fixed {o : Oper} {l : List Oper} (v : Value) (hy : ∀ p, G p → Tame P ops S T o (· = v) (f p)) (h : tameList P ops S T K l (fam G fun p => (f p).put o.dst v)) : tameList P ops S T K (o :: l) (fam G f) :=
  ⟨(· = v), ⟨v, rfl⟩, fun _ ⟨p, hp, e⟩ => e ▸ hy p hp, tameList_sub l (fun _ ⟨_, _, ⟨p, hp, e⟩, hv, e'⟩ => ⟨p, hp, by rw [e', e, hv]⟩) h⟩
theorem fresh {o : Oper} {l : List Oper} (V : Value → Prop) (hV : ∃ v, V v) (hy : ∀ p, G p → Tame P ops S T o V (f p)) (h : tameList P ops S T K l (fam (fun q : E × Value => G q.1 ∧ V q.2) fun q => (f q.1).put o.dst q.2)) : tameList P ops S T K (o :: l) (fam G f) :=
  ⟨V, hV, fun _ ⟨p, hp, e⟩ => e ▸ hy p hp, tameList_sub l (fun _ ⟨_, v, ⟨p, hp, e⟩, hv, e'⟩ => ⟨(p, v), ⟨hp, hv⟩, by rw [e', e]⟩) h⟩
theorem done (h : ∀ p, G p → K (f p)) : tameList P ops S T K [] (fam G f) := fun _ ⟨p, hp, e⟩ => e ▸ h p hp

theorem skip {o : Oper} {l : List Oper} (hw : ∀ p, Region.wanted o (yielded ops (f p).tmps) = false) (h : tameList P ops S T K l (fam G fun p => (f p).put o.dst undef)) : tameList P ops S T K (o :: l) (fam G f) :=
  fixed undef (fun p _ => .inr ⟨hw p, rfl⟩) h
/-- An operation that comes to one value, and leaves the world as it is. -/
theorem pure {o : Oper} {l : List Oper} {v : Value} (hw : ∀ p, Region.wanted o (yielded ops (f p).tmps) = true) (hv : ∀ p, G p → ∀ w, S w → (execOp (f p).eval o).run P w = .ok (.value v) w) (hT : ∀ w, T v w)
    (h : tameList P ops S T K l (fam G fun p => (f p).put o.dst v)) : tameList P ops S T K (o :: l) (fam G f) :=
  fixed v (fun p hp => .inl ⟨hw p, fun w hS _ => by rw [hv p hp w hS]; exact ⟨rfl, hT w, Bl.refl _⟩⟩) h
/-- The same, where what it comes to hangs on p (a copy of a value that is not one). -/
theorem copy {o : Oper} {l : List Oper} {g : E → Value} (V : Value → Prop) (hV : ∃ v, V v) (hw : ∀ p, Region.wanted o (yielded ops (f p).tmps) = true) (hg : ∀ p, G p → V (g p))
    (hv : ∀ p, G p → ∀ w, S w → (∀ t, Operand.tmp t ∈ o.op.operands → T ((f p).eval (.tmp t)) w) → (execOp (f p).eval o).run P w = .ok (.value (g p)) w ∧ T (g p) w)
    (h : tameList P ops S T K l (fam (fun q : E × Value => G q.1 ∧ V q.2) fun q => (f q.1).put o.dst q.2)) : tameList P ops S T K (o :: l) (fam G f) :=
  fresh V hV (fun p hp => .inl ⟨hw p, fun w hS ht => by rw [(hv p hp w hS ht).1]; exact ⟨hg p hp, (hv p hp w hS ht).2, Bl.refl _⟩⟩) h

theorem enter0 {o : Oper} {fn : FuncId} {ts : Array TypeId} 
    (ho : o.op = .call { callee := .value (.func fn), args := #[], argTypes := ts })  (hf : Calm.enters P fn = true) (p : E) (w : World) :
    (execOp (f p).eval o).run P w = .ok (.enter fn #[]) w := by
  have e : ∀ args, (callFunc fn args).run P w = .ok (.enter fn args) w := fun args => Calm.enters_run hf args w
  unfold execOp
  simp [ho, go_sem, Act.eval, e]
theorem call0 {o : Oper} {l : List Oper} {r : Value} {fn : FuncId} {ts : Array TypeId}  (hw : ∀ p, Region.wanted o (yielded ops (f p).tmps) = true)
    (ho : o.op = .call { callee := .value (.func fn), args := #[], argTypes := ts })  (hf : Calm.enters P fn = true) (hT : ∀ w, T r w)
    (hc : ∀ p w, G p → S w → (∀ t, Operand.tmp t ∈ o.op.operands → T ((f p).eval (.tmp t)) w) → Calls P fn #[] w fun e w' => e = .returned r ∧ Bl w w')
    (h : tameList P ops S T K l (fam G fun p => (f p).put o.dst r)) : tameList P ops S T K (o :: l) (fam G f) :=
  fixed r (fun p hp => .inl ⟨hw p, fun w hS ht => by
    rw [enter0 ho  hf p w]
    exact (hc p w hp hS ht).mono fun e w' he => ⟨r, he.1, rfl, hT w', he.2⟩⟩) h
theorem callNew0 {o : Oper} {l : List Oper} (V : Value → Prop) (hV : ∃ v, V v) {fn : FuncId} {ts : Array TypeId}  (hw : ∀ p, Region.wanted o (yielded ops (f p).tmps) = true)
    (ho : o.op = .call { callee := .value (.func fn), args := #[], argTypes := ts })  (hf : Calm.enters P fn = true)
    (hc : ∀ p w, G p → S w → (∀ t, Operand.tmp t ∈ o.op.operands → T ((f p).eval (.tmp t)) w) → Calls P fn #[] w fun e w' => ∃ u, e = .returned u ∧ V u ∧ T u w' ∧ Bl w w')
    (h : tameList P ops S T K l (fam (fun q : E × Value => G q.1 ∧ V q.2) fun q => (f q.1).put o.dst q.2)) : tameList P ops S T K (o :: l) (fam G f) :=
  fresh V hV (fun p hp => .inl ⟨hw p, fun w hS ht => by
    rw [enter0 ho  hf p w]
    exact hc p w hp hS ht⟩) h
theorem enter1 {o : Oper} {fn : FuncId} {ts : Array TypeId} {x : E → Value} {u : Operand}
    (ho : o.op = .call { callee := .value (.func fn), args := #[u], argTypes := ts }) (hu : ∀ p, (f p).eval u = x p) (hf : Calm.enters P fn = true) (p : E) (w : World) :
    (execOp (f p).eval o).run P w = .ok (.enter fn #[x p]) w := by
  have e : ∀ args, (callFunc fn args).run P w = .ok (.enter fn args) w := fun args => Calm.enters_run hf args w
  rw [← hu p]; unfold execOp
  simp [ho, go_sem, Act.eval, e]
theorem call1 {o : Oper} {l : List Oper} {r : Value} {fn : FuncId} {ts : Array TypeId} {x : E → Value} {u : Operand} (hw : ∀ p, Region.wanted o (yielded ops (f p).tmps) = true)
    (ho : o.op = .call { callee := .value (.func fn), args := #[u], argTypes := ts }) (hu : ∀ p, (f p).eval u = x p) (hf : Calm.enters P fn = true) (hT : ∀ w, T r w)
    (hc : ∀ p w, G p → S w → (∀ t, Operand.tmp t ∈ o.op.operands → T ((f p).eval (.tmp t)) w) → Calls P fn #[x p] w fun e w' => e = .returned r ∧ Bl w w')
    (h : tameList P ops S T K l (fam G fun p => (f p).put o.dst r)) : tameList P ops S T K (o :: l) (fam G f) :=
  fixed r (fun p hp => .inl ⟨hw p, fun w hS ht => by
    rw [enter1 ho hu hf p w]
    exact (hc p w hp hS ht).mono fun e w' he => ⟨r, he.1, rfl, hT w', he.2⟩⟩) h
theorem callNew1 {o : Oper} {l : List Oper} (V : Value → Prop) (hV : ∃ v, V v) {fn : FuncId} {ts : Array TypeId} {x : E → Value} {u : Operand} (hw : ∀ p, Region.wanted o (yielded ops (f p).tmps) = true)
    (ho : o.op = .call { callee := .value (.func fn), args := #[u], argTypes := ts }) (hu : ∀ p, (f p).eval u = x p) (hf : Calm.enters P fn = true)
    (hc : ∀ p w, G p → S w → (∀ t, Operand.tmp t ∈ o.op.operands → T ((f p).eval (.tmp t)) w) → Calls P fn #[x p] w fun e w' => ∃ u, e = .returned u ∧ V u ∧ T u w' ∧ Bl w w')
    (h : tameList P ops S T K l (fam (fun q : E × Value => G q.1 ∧ V q.2) fun q => (f q.1).put o.dst q.2)) : tameList P ops S T K (o :: l) (fam G f) :=
  fresh V hV (fun p hp => .inl ⟨hw p, fun w hS ht => by
    rw [enter1 ho hu hf p w]
    exact hc p w hp hS ht⟩) h
theorem enter2 {o : Oper} {fn : FuncId} {ts : Array TypeId} {x y : E → Value} {u v : Operand}
    (ho : o.op = .call { callee := .value (.func fn), args := #[u, v], argTypes := ts }) (hu : ∀ p, (f p).eval u = x p) (hv : ∀ p, (f p).eval v = y p) (hf : Calm.enters P fn = true) (p : E) (w : World) :
    (execOp (f p).eval o).run P w = .ok (.enter fn #[x p, y p]) w := by
  have e : ∀ args, (callFunc fn args).run P w = .ok (.enter fn args) w := fun args => Calm.enters_run hf args w
  rw [← hu p]; rw [← hv p]; unfold execOp
  simp [ho, go_sem, Act.eval, e]
theorem call2 {o : Oper} {l : List Oper} {r : Value} {fn : FuncId} {ts : Array TypeId} {x y : E → Value} {u v : Operand} (hw : ∀ p, Region.wanted o (yielded ops (f p).tmps) = true)
    (ho : o.op = .call { callee := .value (.func fn), args := #[u, v], argTypes := ts }) (hu : ∀ p, (f p).eval u = x p) (hv : ∀ p, (f p).eval v = y p) (hf : Calm.enters P fn = true) (hT : ∀ w, T r w)
    (hc : ∀ p w, G p → S w → (∀ t, Operand.tmp t ∈ o.op.operands → T ((f p).eval (.tmp t)) w) → Calls P fn #[x p, y p] w fun e w' => e = .returned r ∧ Bl w w')
    (h : tameList P ops S T K l (fam G fun p => (f p).put o.dst r)) : tameList P ops S T K (o :: l) (fam G f) :=
  fixed r (fun p hp => .inl ⟨hw p, fun w hS ht => by
    rw [enter2 ho hu hv hf p w]
    exact (hc p w hp hS ht).mono fun e w' he => ⟨r, he.1, rfl, hT w', he.2⟩⟩) h
theorem callNew2 {o : Oper} {l : List Oper} (V : Value → Prop) (hV : ∃ v, V v) {fn : FuncId} {ts : Array TypeId} {x y : E → Value} {u v : Operand} (hw : ∀ p, Region.wanted o (yielded ops (f p).tmps) = true)
    (ho : o.op = .call { callee := .value (.func fn), args := #[u, v], argTypes := ts }) (hu : ∀ p, (f p).eval u = x p) (hv : ∀ p, (f p).eval v = y p) (hf : Calm.enters P fn = true)
    (hc : ∀ p w, G p → S w → (∀ t, Operand.tmp t ∈ o.op.operands → T ((f p).eval (.tmp t)) w) → Calls P fn #[x p, y p] w fun e w' => ∃ u, e = .returned u ∧ V u ∧ T u w' ∧ Bl w w')
    (h : tameList P ops S T K l (fam (fun q : E × Value => G q.1 ∧ V q.2) fun q => (f q.1).put o.dst q.2)) : tameList P ops S T K (o :: l) (fam G f) :=
  fresh V hV (fun p hp => .inl ⟨hw p, fun w hS ht => by
    rw [enter2 ho hu hv hf p w]
    exact hc p w hp hS ht⟩) h

end
end Go.Proofs.YtfjpbmdmkcihcaaGreat.Tam2
/- A region that draws its order, by what holds when a set of its operations has come up: one step for each operation, whatever came up ahead of it. Operations without guards. Nothing of one program. -/
namespace Go.Proofs.YtfjpbmdmkcihcaaGreat.Owed
open Go.RowKit

section
variable {P : Program} {ops : Array Oper} {Q : Exit → Act → World → Prop} {md : Region.Mode}

/-- Which have come up. -/
def upd (L : Nat → Bool) (i : Nat) : Nat → Bool := fun j => decide (j = i) || L j
theorem upd_self (L : Nat → Bool) (i : Nat) : upd L i i = true := by simp [upd]
theorem upd_ne (L : Nat → Bool) {i j : Nat} (h : j ≠ i) : upd L i j = L j := by simp [upd, h]
theorem upd_true {L : Nat → Bool} {i j : Nat} (h : upd L i j = true) : j = i ∨ L j = true := by simpa [upd] using h

def each (R : Nat → Oper → Prop) : Nat → List Oper → Prop
  | _, [] => True
  | k, o :: l => R k o ∧ each R (k + 1) l
theorem each_at {R : Nat → Oper → Prop} (l : List Oper) : ∀ (k i : Nat) (o : Oper), each R k l → l[i]? = some o → R (k + i) o := by
  induction l with
  | nil => intro k i o _ hi; simp at hi
  | cons x l ih =>
    intro k i o h hi
    cases i with
    | zero =>
      simp at hi
      subst hi; exact h.1
    | succ i =>
      have := ih (k + 1) i o h.2 (by simpa using hi)
      rwa [show k + 1 + i = k + (i + 1) by omega] at this

/-- What an operation waits for comes ahead of it in the text. -/
def downB (md : Region.Mode) (l : List Oper) : Bool := l.zipIdx.all fun (o, i) => o.guard.isNone && o.after.all fun e => !Region.binds md e || decide (e.on < i)
theorem downB_spec {l : List Oper} (h : downB md l = true) {i : Nat} {o : Oper} (hi : l[i]? = some o) : o.guard = none ∧ ∀ e ∈ o.after, Region.binds md e = true → e.on < i := by
  have hm : (o, i) ∈ l.zipIdx := by
    rw [List.mem_zipIdx_iff_getElem?]; exact hi
  have := List.all_eq_true.1 h _ hm
  simp only [Bool.and_eq_true, Option.isNone_iff_eq_none] at this; exact ⟨this.1, fun e he hb => by have := Array.all_eq_true_iff_forall_mem.1 this.2 e he; simpa [hb] using this⟩

theorem ready_of_least {l : List Oper} (h : downB md l = true) {listed : Array Bool} (hs : listed.size = l.length) {n : Nat} (hn : n < l.length) (hun : listed.getD n true = false) : ∃ j, j ∈ Region.ready md l.toArray listed := by
  induction n using Nat.strongRecOn with
  | _ n ih =>
    by_cases hall : ∀ m, m < n → listed.getD m true = true
    · refine ⟨n, mem_ready.2 ⟨hun, l[n], by simp, fun e he hbd => ?_⟩⟩
      have hlt := (downB_spec h (List.getElem?_eq_getElem hn)).2 e he hbd
      have := hall e.on hlt
      have hb : e.on < listed.size := by omega
      simpa [hb] using this
    · simp only [Classical.not_forall] at hall
      obtain ⟨m, hm, hf⟩ := hall; exact ih m hm (by omega) (by simpa using hf)

def left (listed : Array Bool) : Nat := listed.toList.count false
theorem left_set {listed : Array Bool} {i : Nat} (h : listed.getD i true = false) : left (listed.setIfInBounds i true) + 1 = left listed := by
  rcases Nat.lt_or_ge i listed.size with hlt | hge
  · have hv : listed.toList[i]'(by simpa using hlt) = false := by simpa [hlt] using h
    unfold left; have hpos : 0 < listed.toList.count false := List.count_pos_iff.2 (hv ▸ List.getElem_mem _); rw [Array.toList_setIfInBounds, List.count_set (by simpa using hlt), hv, if_pos (show (false == false) = true from rfl), if_neg (by decide)]
    omega
  · simp [Array.getElem?_eq_none hge] at h

/-- The steps owed. -/
def Step (P : Program) (md : Region.Mode) (Q : Exit → Act → World → Prop) (I : (Nat → Bool) → Act → World → Prop) (i : Nat) (o : Oper) : Prop :=
  ∀ L a w, I L a w → L i = false → (∀ e ∈ o.after, Region.binds md e = true → L e.on = true) → o.wp P a w (fun a' w' => I (upd L i) a' w') Q

theorem wpAny_owed {l : List Oper} {I : (Nat → Bool) → Act → World → Prop} (hd : downB md l = true) (hI : ∀ L L' a w, (∀ i, i < l.length → L i = L' i) → I L a w → I L' a w) (hstep : each (Step P md Q I) 0 l)
    (hend : ∀ L a w, (∀ i, i < l.length → L i = true) → I L a w → Q .normal a w) :
    ∀ (fuel : Nat) (listed : Array Bool) (a : Act) (w : World), listed.size = l.length → left listed ≤ fuel → I (fun i => listed.getD i true) a w → wpAny P md l.toArray Q fuel listed a w := by
  have fin : ∀ (listed : Array Bool) (a : Act) (w : World), listed.size = l.length → Region.ready md l.toArray listed = [] → I (fun i => listed.getD i true) a w → Q .normal a w := fun listed a w hs hr h => by
    refine hend _ a w (fun i hi => ?_) h
    cases hv : listed.getD i true
    · obtain ⟨j, hj⟩ := ready_of_least (md := md) hd hs hi hv
      rw [hr] at hj
      cases hj
    · rfl
  intro fuel
  induction fuel with
  | zero =>
    intro listed a w hs hl h
    have hr : Region.ready md l.toArray listed = [] := by
      cases hr : Region.ready md l.toArray listed with
      | nil => rfl
      | cons i r =>
        have hun := (mem_ready.1 (show i ∈ Region.ready md l.toArray listed by rw [hr]; simp)).1
        have := left_set hun
        omega
    exact ⟨hr, fin listed a w hs hr h⟩
  | succ fuel ih =>
    intro listed a w hs hl h; refine ⟨fun hr => fin listed a w hs hr h, fun i hi => ?_⟩; obtain ⟨hun, o, ho, hall⟩ := mem_ready.1 hi
    have ho' : l[i]? = some o := by simpa using ho
    have hilt : i < l.length := (List.getElem?_eq_some_iff.1 ho').1; have hg := (downB_spec hd ho').1; have hst := each_at l 0 i o hstep ho'; rw [Nat.zero_add] at hst; unfold wpOp; simp only [ho, Region.wanted, hg, if_true]; refine .inl (Oper.wp_mono (fun a' w' h' => ?_) (hst (fun i => listed.getD i true) a w h hun (fun e he hb => ?_)))
    · refine ih _ a' w' (by simp [hs]) (by have := left_set hun; omega) (hI _ _ a' w' (fun j hj => ?_) h')
      by_cases hji : j = i
      · subst hji
        rw [upd_self]
        have : j < listed.size := by omega
        simp [this]
      · rw [upd_ne _ hji, getD_set_ne true (Ne.symm hji)]
    · have h1 := hall e he hb
      rcases Nat.lt_or_ge e.on listed.size with h' | h'
      · simpa [h'] using h1
      · simp [Array.getElem?_eq_none h'] at h1

theorem region {id : Nat} {a : Act} {w : World} {l : List Oper} (hm : P.follows .mixedOrders = true) (hd : downB .any l = true) (I : (Nat → Bool) → Act → World → Prop)
    (hI : ∀ L L' a w, (∀ i, i < l.length → L i = L' i) → I L a w → I L' a w) (h0 : ∀ L, (∀ i, i < l.length → L i = false) → I L a w.drew) (hstep : each (Step P .any Q I) 0 l)
    (hend : ∀ L a w, (∀ i, i < l.length → L i = true) → I L a w → Q .normal a w) : (Code.region id l.toArray true).wp P Q a w := by
  refine wp_region_any hm ?_
  have := wpAny_owed (md := .any) (Q := Q) hd hI hstep hend l.toArray.size (Array.replicate l.toArray.size false) a w.drew (by simp) (by simp [left]) (h0 _ (fun i hi => by simp [hi]))
  exact this

end
end Go.Proofs.YtfjpbmdmkcihcaaGreat.Owed
/- A region that draws its order, by a fact of each operation: what is known of its value and the memory as soon as it has come up, whatever came up ahead of it. Nothing of one program. -/
namespace Go.Proofs.YtfjpbmdmkcihcaaGreat.Facts
open Go.RowKit

/-- A fact: of the values of which operations it speaks, and what it says. -/
abbrev Fact := List Nat × (List Value → World → Prop)
def holds (f : Fact) (x : Nat → Value) (w : World) : Prop := f.2 (f.1.map x) w
def put (x : Nat → Value) (i : Nat) (u : Value) : Nat → Value := fun j => if j = i then u else x j

section
variable {P : Program} {Q : Exit → Act → World → Prop} {S : World → Prop} {md : Region.Mode} {A : (Nat → Value) → Act} {F : List Fact} {l : List Oper}

/-- Each fact speaks of its own operation, and of those that it waits for. -/
def nearB (md : Region.Mode) (l : List Oper) (D : List (List Nat)) : Bool := (l.zip D).zipIdx.all fun p => p.1.2.all fun k => k == p.2 || p.1.1.after.any fun e => e.on == k && Region.binds md e
theorem nearB_spec {D : List (List Nat)} (h : nearB md l D = true) {i : Nat} {o : Oper} {d : List Nat} (hi : l[i]? = some o) (hf : D[i]? = some d) {k : Nat} (hk : k ∈ d) : k = i ∨ ∃ e ∈ o.after, e.on = k ∧ Region.binds md e = true := by
  have hm : ((o, d), i) ∈ (l.zip D).zipIdx := by
    rw [List.mem_zipIdx_iff_getElem?]
    simp [List.getElem?_zip_eq_some, hi, hf]
  have := List.all_eq_true.1 h _ hm
  have := List.all_eq_true.1 this _ hk
  simp only [Bool.or_eq_true, beq_iff_eq] at this
  rcases this with h | h
  · exact .inl h
  · rw [Array.any_eq_true] at h
    obtain ⟨j, hj, h⟩ := h; simp only [Bool.and_eq_true, beq_iff_eq] at h; exact .inr ⟨o.after[j], by simp, h.1, h.2⟩

/-- What an operation is asked for. -/
def StepOk (P : Program) (md : Region.Mode) (Q : Exit → Act → World → Prop) (S : World → Prop) (A : (Nat → Value) → Act) (F : List Fact) (i : Nat) (o : Oper) : Prop :=
  ∀ x w, S w → (∀ e ∈ o.after, Region.binds md e = true → ∀ f, F[e.on]? = some f → holds f x w) →
    o.wp P (A x) w (fun a' w' => ∃ u, a' = A (put x i u) ∧ S w' ∧ (∀ f, F[i]? = some f → holds f (put x i u) w') ∧ (∀ j f, j ≠ i → F[j]? = some f → holds f x w → holds f x w')) Q

def Inv (md : Region.Mode) (l : List Oper) (S : World → Prop) (A : (Nat → Value) → Act) (F : List Fact) (L : Nat → Bool) (a : Act) (w : World) : Prop :=
  S w ∧ (∀ i o, l[i]? = some o → L i = true → ∀ e ∈ o.after, Region.binds md e = true → L e.on = true) ∧ ∃ x, a = A x ∧ ∀ i f, i < l.length → F[i]? = some f → L i = true → holds f x w

theorem each_imp {R R' : Nat → Oper → Prop} : ∀ (l : List Oper) (k : Nat), Owed.each R k l → (∀ i o, l[i]? = some o → R (k + i) o → R' (k + i) o) → Owed.each R' k l
  | [], _, _, _ => trivial
  | o :: l, k, h, hi => ⟨hi 0 o rfl h.1, each_imp l (k + 1) h.2 (fun i o' ho hr => by
      have := hi (i + 1) o' (by simpa using ho)
      rw [show k + (i + 1) = k + 1 + i by omega] at this
      exact this hr)⟩

theorem region {id : Nat} {a : Act} {w : World} (hm : P.follows .mixedOrders = true) (hd : Owed.downB .any l = true) (S : World → Prop) (A : (Nat → Value) → Act) (F : List Fact) (D : List (List Nat)) (hD : F.map (·.1) = D) (hl : nearB .any l D = true)
    (x0 : Nat → Value) (hA : a = A x0) (h0 : S w.drew) (hstep : Owed.each (StepOk P .any Q S A F) 0 l)
    (hend : ∀ x w', S w' → (∀ i f, i < l.length → F[i]? = some f → holds f x w') → Q .normal (A x) w') : (Code.region id l.toArray true).wp P Q a w := by
  refine Owed.region hm hd (Inv .any l S A F) ?_ ?_ (each_imp l 0 hstep ?_) ?_
  · rintro L L' a w hL ⟨hS, hc, x, hx, hf⟩
    refine ⟨hS, fun i o hi hLi e he hb => ?_, x, hx, fun i f hi hfi hLi => hf i f hi hfi ((hL i hi).trans hLi)⟩; have hilt : i < l.length := (List.getElem?_eq_some_iff.1 hi).1
    have := (Owed.downB_spec hd hi).2 e he hb
    rw [← hL e.on (by omega)]; exact hc i o hi ((hL i hilt).trans hLi) e he hb
  · intro L hL
    refine ⟨h0, fun i o hi hLi => ?_, x0, hA, fun i f hi _ hLi => ?_⟩
    · rw [hL i (List.getElem?_eq_some_iff.1 hi).1] at hLi; cases hLi
    · rw [hL i hi] at hLi; cases hLi
  · intro i o hi hok
    rw [Nat.zero_add] at hok ⊢; rintro L a w ⟨hS, hc, x, rfl, hf⟩ hLi hdep; refine Oper.wp_mono (fun a' w' h => ?_) (hok x w hS (fun e he hb f hfe => ?_))
    · obtain ⟨u, rfl, hS', hfi, hoth⟩ := h
      refine ⟨hS', fun j o' hj hLj e he hb => ?_, put x i u, rfl, fun j f hj hfj hLj => ?_⟩
      · by_cases e1 : j = i
        · subst e1
          obtain rfl : o = o' := by rw [hi] at hj; exact Option.some.inj hj
          have := hdep e he hb
          unfold Owed.upd
          simp [this]
        · rw [Owed.upd_ne L e1] at hLj
          have := hc j o' hj hLj e he hb
          unfold Owed.upd
          simp [this]
      · by_cases e1 : j = i
        · subst e1; exact hfi f hfj
        · rw [Owed.upd_ne L e1] at hLj
          have h1 := hoth j f e1 hfj (hf j f hj hfj hLj)
          have e2 : f.1.map (put x i u) = f.1.map x := by
            apply List.map_congr_left
            intro k hk; have hj' : l[j]? = some l[j] := List.getElem?_eq_getElem hj
            have hki : k ≠ i := by
              rcases nearB_spec hl hj' (by rw [← hD, List.getElem?_map, hfj]; rfl) hk with rfl | ⟨e, he, rfl, hb⟩
              · exact e1
              · intro h2
                have := hc j _ hj' hLj e he hb
                rw [h2, hLi] at this; cases this
            simp [put, hki]
          unfold holds at *; rw [e2]; exact h1
    · have h1 := (Owed.downB_spec hd hi).2 e he hb
      have h2 : i < l.length := (List.getElem?_eq_some_iff.1 hi).1; exact hf e.on f (by omega) hfe (hdep e he hb)
  · rintro L a w hL ⟨hS, _, x, rfl, hf⟩
    exact hend x w hS fun i f hi hfi => hf i f hi hfi (hL i hi)

/-- All facts stay behind what leaves the memory that was there alone. -/
def Stay (F : List Fact) : Prop := ∀ (j : Nat) (f : Fact), F[j]? = some f → ∀ vs w w', f.2 vs w → Below w.heap.size w w' → f.2 vs w'

/-- An operation that leaves the memory that was there alone. -/
theorem step {i : Nat} {o : Oper} (hS : Calm.Stays S) (hF : Stay F) (hA : ∀ x u, (A x).put o.dst u = A (put x i u))
    (h : ∀ x w, S w → (∀ e ∈ o.after, Region.binds md e = true → ∀ f, F[e.on]? = some f → holds f x w) →
      o.wp P (A x) w (fun a' w' => ∃ u, a' = (A x).put o.dst u ∧ Below w.heap.size w w' ∧ ∀ f, F[i]? = some f → holds f (put x i u) w') Q) : StepOk P md Q S A F i o := by
  intro x w hSw hdep; refine Oper.wp_mono (fun a' w' h => ?_) (h x w hSw hdep); obtain ⟨u, rfl, hb, hf⟩ := h; exact ⟨u, hA x u, hS _ _ hSw hb, hf, fun j f _ hj hh => hF j f hj _ _ _ hh hb⟩
/-- It comes to v, and leaves the world as it is. -/
theorem pure {i : Nat} {o : Oper} {v : Value} (hS : Calm.Stays S) (hF : Stay F) (hA : ∀ x u, (A x).put o.dst u = A (put x i u)) (hf : F[i]? = some ([i], fun vs _ => vs = [v]))
    (h : ∀ x w, S w → (∀ e ∈ o.after, Region.binds md e = true → ∀ f, F[e.on]? = some f → holds f x w) → (execOp (A x).eval o).run P w = .ok (.value v) w) : StepOk P md Q S A F i o :=
  step hS hF hA fun x w hSw hdep => by
    unfold Oper.wp; rw [h x w hSw hdep]; refine ⟨v, rfl, Below.refl _ _, fun f hf' => ?_⟩; rw [hf] at hf'; obtain rfl := Option.some.inj hf'
    simp [holds, put]
/-- It calls a function. -/
theorem call {i : Nat} {o : Oper} (hS : Calm.Stays S) (hF : Stay F) (hA : ∀ x u, (A x).put o.dst u = A (put x i u)) {f : FuncId}
    (h : ∀ x w, S w → (∀ e ∈ o.after, Region.binds md e = true → ∀ f, F[e.on]? = some f → holds f x w) → ∃ args, (execOp (A x).eval o).run P w = .ok (.enter f args) w ∧
      Calls P f args w fun e w' => ∃ u, e = .returned u ∧ Below w.heap.size w w' ∧ ∀ f, F[i]? = some f → holds f (put x i u) w') : StepOk P md Q S A F i o :=
  step hS hF hA fun x w hSw hdep => by
    obtain ⟨args, hr, hc⟩ := h x w hSw hdep; unfold Oper.wp; rw [hr]; refine hc.mono fun e w' he => ?_; obtain ⟨u, rfl, hb, hf⟩ := he; exact ⟨u, rfl, hb, hf⟩

theorem holds_eq {i : Nat} {v : Value} {x : Nat → Value} {w : World} (h : holds ([i], fun vs _ => vs = [v]) x w) : x i = v := by
  simpa [holds] using h
end
end Go.Proofs.YtfjpbmdmkcihcaaGreat.Facts
/- A region that draws its order, by a fact of each operation: also where operations are guarded, and where what two operations came to stands in a relation (two new boxes are not one). Nothing of one program. -/
namespace Go.Proofs.YtfjpbmdmkcihcaaGreat.FactsG
open Go.RowKit Facts

section
variable {P : Program} {Q : Exit → Act → World → Prop} {S : World → Prop} {md : Region.Mode} {A : (Nat → Value) → Act} {F : List Fact} {l : List Oper} {R : Nat → Nat → Value → Value → Prop}

def downB (md : Region.Mode) (l : List Oper) : Bool := l.zipIdx.all fun (o, i) => o.after.all fun e => !Region.binds md e || decide (e.on < i)
theorem downB_spec (h : downB md l = true) {i : Nat} {o : Oper} (hi : l[i]? = some o) : ∀ e ∈ o.after, Region.binds md e = true → e.on < i := by
  have hm : (o, i) ∈ l.zipIdx := by
    rw [List.mem_zipIdx_iff_getElem?]; exact hi
  have := List.all_eq_true.1 h _ hm
  exact fun e he hb => by have := Array.all_eq_true_iff_forall_mem.1 this e he; simpa [hb] using this
theorem ready_of_least (h : downB md l = true) {listed : Array Bool} (hs : listed.size = l.length) {n : Nat} (hn : n < l.length) (hun : listed.getD n true = false) : ∃ j, j ∈ Region.ready md l.toArray listed := by
  induction n using Nat.strongRecOn with
  | _ n ih =>
    by_cases hall : ∀ m, m < n → listed.getD m true = true
    · refine ⟨n, mem_ready.2 ⟨hun, l[n], by simp, fun e he hbd => ?_⟩⟩
      have hlt := downB_spec h (List.getElem?_eq_getElem hn) e he hbd
      have := hall e.on hlt
      have hb : e.on < listed.size := by omega
      simpa [hb] using this
    · simp only [Classical.not_forall] at hall
      obtain ⟨m, hm, hf⟩ := hall; exact ih m hm (by omega) (by simpa using hf)

theorem wpOp_mono {ops : Array Oper} {i : Nat} {K K' : Act → World → Prop} {a : Act} {w : World} (hK : ∀ a w, K a w → K' a w) (h : Go.wpOp P ops Q i K a w) : Go.wpOp P ops Q i K' a w := by
  unfold Go.wpOp at *
  cases ho : ops[i]? with
  | none =>
    simp only [ho] at h ⊢; exact hK _ _ h
  | some o =>
    simp only [ho] at h ⊢
    split
    · rename_i hw
      rw [if_pos hw] at h
      rcases h with h | h
      · exact .inl (Oper.wp_mono hK h)
      · exact .inr h
    · rename_i hw
      rw [if_neg hw] at h; exact hK _ _ h

/-- What an operation is asked for. -/
def StepOk (P : Program) (md : Region.Mode) (l : List Oper) (Q : Exit → Act → World → Prop) (S : World → Prop) (A : (Nat → Value) → Act) (F : List Fact) (R : Nat → Nat → Value → Value → Prop) (i : Nat) (o : Oper) : Prop :=
  ∀ x w, S w → (∀ e ∈ o.after, Region.binds md e = true → ∀ f, F[e.on]? = some f → holds f x w) → (∀ e ∈ o.after, Region.binds md e = true → ∀ e' ∈ o.after, Region.binds md e' = true → e.on ≠ e'.on → R e.on e'.on (x e.on) (x e'.on)) →
    Go.wpOp P l.toArray Q i (fun a' w' => ∃ u, a' = A (put x i u) ∧ S w' ∧ (∀ f, F[i]? = some f → holds f (put x i u) w') ∧ (∀ j f, j ≠ i → F[j]? = some f → holds f x w → holds f x w') ∧ (∀ j f, j ≠ i → F[j]? = some f → holds f x w → R i j u (x j))) (A x) w

def Inv (md : Region.Mode) (l : List Oper) (S : World → Prop) (A : (Nat → Value) → Act) (F : List Fact) (R : Nat → Nat → Value → Value → Prop) (L : Nat → Bool) (a : Act) (w : World) : Prop :=
  S w ∧ (∀ i o, l[i]? = some o → L i = true → ∀ e ∈ o.after, Region.binds md e = true → L e.on = true) ∧
    ∃ x, a = A x ∧ (∀ i f, i < l.length → F[i]? = some f → L i = true → holds f x w) ∧ ∀ i j, i < l.length → j < l.length → i ≠ j → L i = true → L j = true → R i j (x i) (x j)

theorem wpAny_inv (hd : downB md l = true) (D : List (List Nat)) (hD : F.map (·.1) = D) (hlen : D.length = l.length) (hl : nearB md l D = true) (hR : ∀ i j u v, R i j u v → R j i v u) (hstep : Owed.each (StepOk P md l Q S A F R) 0 l)
    (hend : ∀ x w', S w' → (∀ i f, i < l.length → F[i]? = some f → holds f x w') → (∀ i j, i < l.length → j < l.length → i ≠ j → R i j (x i) (x j)) → Q .normal (A x) w') :
    ∀ (fuel : Nat) (listed : Array Bool) (a : Act) (w : World), listed.size = l.length → Owed.left listed ≤ fuel → Inv md l S A F R (fun i => listed.getD i true) a w → wpAny P md l.toArray Q fuel listed a w := by
  have hFl : F.length = l.length := by rw [← hlen, ← hD, List.length_map]
  have fin : ∀ (listed : Array Bool) (a : Act) (w : World), listed.size = l.length → Region.ready md l.toArray listed = [] → Inv md l S A F R (fun i => listed.getD i true) a w → Q .normal a w := fun listed a w hs hr h => by
    have all : ∀ i, i < l.length → listed.getD i true = true := fun i hi => by
      cases hv : listed.getD i true
      · obtain ⟨j, hj⟩ := ready_of_least (md := md) hd hs hi hv
        rw [hr] at hj
        cases hj
      · rfl
    obtain ⟨hS, _, x, rfl, hf, hrel⟩ := h; exact hend x w hS (fun i f hi hfi => hf i f hi hfi (all i hi)) (fun i j hi hj hij => hrel i j hi hj hij (all i hi) (all j hj))
  intro fuel
  induction fuel with
  | zero =>
    intro listed a w hs hle h
    have hr : Region.ready md l.toArray listed = [] := by
      cases hr : Region.ready md l.toArray listed with
      | nil => rfl
      | cons i r =>
        have hun := (mem_ready.1 (show i ∈ Region.ready md l.toArray listed by rw [hr]; simp)).1
        have := Owed.left_set hun
        omega
    exact ⟨hr, fin listed a w hs hr h⟩
  | succ fuel ih =>
    intro listed a w hs hle h; refine ⟨fun hr => fin listed a w hs hr h, fun i hi => ?_⟩; obtain ⟨hun, o, ho, hall⟩ := mem_ready.1 hi
    have ho' : l[i]? = some o := by simpa using ho
    have hilt : i < l.length := (List.getElem?_eq_some_iff.1 ho').1; have hst := Owed.each_at l 0 i o hstep ho'; rw [Nat.zero_add] at hst; obtain ⟨hS, hc, x, rfl, hf, hrel⟩ := h
    have hdep : ∀ e ∈ o.after, Region.binds md e = true → listed.getD e.on true = true ∧ e.on < l.length := fun e he hb => by
      have h1 := hall e he hb
      rcases Nat.lt_or_ge e.on listed.size with h' | h'
      · exact ⟨by simpa [h'] using h1, by omega⟩
      · simp [Array.getElem?_eq_none h'] at h1
    have old : ∀ j, j ≠ i → (listed.setIfInBounds i true).getD j true = listed.getD j true := fun j hj => getD_set_ne true (Ne.symm hj)
    refine wpOp_mono (fun a' w' h' => ?_) (hst x w hS (fun e he hb f hfe => hf e.on f (hdep e he hb).2 hfe (hdep e he hb).1) (fun e he hb e' he' hb' hne => hrel _ _ (hdep e he hb).2 (hdep e' he' hb').2 hne (hdep e he hb).1 (hdep e' he' hb').1)); obtain ⟨u, rfl, hS', hfi, hoth, hrl⟩ := h'; refine ih _ _ w' (by simp [hs]) (by have := Owed.left_set hun; omega) ⟨hS', fun j o' hj hLj e he hb => ?_, put x i u, rfl, fun j f hj hfj hLj => ?_, fun j k hj hk hjk hLj hLk => ?_⟩
    · by_cases e0 : e.on = i
      · rw [e0]
        have : i < listed.size := by omega
        simp [this]
      · show (listed.setIfInBounds i true).getD e.on true = true
        rw [old _ e0]
        by_cases e1 : j = i
        · subst e1
          obtain rfl : o = o' := by rw [ho'] at hj; exact Option.some.inj hj
          exact (hdep e he hb).1
        · refine hc j o' hj ?_ e he hb
          show listed.getD j true = true
          rw [← old j e1]; exact hLj
    · by_cases e1 : j = i
      · subst e1; exact hfi f hfj
      · have hLj' : listed.getD j true = true := by rw [← old j e1]; exact hLj
        have h1 := hoth j f e1 hfj (hf j f hj hfj hLj')
        have e2 : f.1.map (put x i u) = f.1.map x := by
          apply List.map_congr_left
          intro k hk; have hj' : l[j]? = some l[j] := List.getElem?_eq_getElem hj
          have hki : k ≠ i := by
            rcases nearB_spec hl hj' (by rw [← hD, List.getElem?_map, hfj]; rfl) hk with rfl | ⟨e, he, rfl, hb⟩
            · exact e1
            · intro h2
              have h3 : listed.getD e.on true = true := hc j _ hj' hLj' e he hb; rw [h2, hun] at h3; cases h3
          simp [put, hki]
        unfold holds at *; rw [e2]; exact h1
    · have get : ∀ j, j < l.length → ∃ f, F[j]? = some f := fun j hj => ⟨F[j]'(by omega), List.getElem?_eq_getElem _⟩
      by_cases e1 : j = i
      · subst e1
        have hkj : k ≠ j := Ne.symm hjk
        have hLk' : listed.getD k true = true := by rw [← old k hkj]; exact hLk
        obtain ⟨f, hfk⟩ := get k hk
        have := hrl k f hkj hfk (hf k f hk hfk hLk')
        simpa [put, hkj] using this
      · have hLj' : listed.getD j true = true := by rw [← old j e1]; exact hLj
        by_cases e2 : k = i
        · subst e2
          obtain ⟨f, hfj⟩ := get j hj
          have := hR _ _ _ _ (hrl j f e1 hfj (hf j f hj hfj hLj'))
          simpa [put, e1] using this
        · have hLk' : listed.getD k true = true := by rw [← old k e2]; exact hLk
          have := hrel j k hj hk hjk hLj' hLk'
          simpa [put, e1, e2] using this

theorem region {id : Nat} {a : Act} {w : World} (hm : P.follows .mixedOrders = true) (hd : downB .any l = true) (S : World → Prop) (A : (Nat → Value) → Act) (F : List Fact) (R : Nat → Nat → Value → Value → Prop) (hR : ∀ i j u v, R i j u v → R j i v u)
    (D : List (List Nat)) (hD : F.map (·.1) = D) (hlen : D.length = l.length) (hl : nearB .any l D = true)
    (x0 : Nat → Value) (hA : a = A x0) (h0 : S w.drew) (hstep : Owed.each (StepOk P .any l Q S A F R) 0 l)
    (hend : ∀ x w', S w' → (∀ i f, i < l.length → F[i]? = some f → holds f x w') → (∀ i j, i < l.length → j < l.length → i ≠ j → R i j (x i) (x j)) → Q .normal (A x) w') : (Code.region id l.toArray true).wp P Q a w := by
  refine wp_region_any hm ?_; refine wpAny_inv (md := .any) hd D hD hlen hl hR hstep hend l.toArray.size (Array.replicate l.toArray.size false) a w.drew (by simp) (by simp [Owed.left]) ⟨h0, fun i o hi hLi => ?_, x0, hA, fun i f hi _ hLi => ?_, fun i j hi _ _ hLi => ?_⟩
  · have : i < l.length := (List.getElem?_eq_some_iff.1 hi).1
    simp [this] at hLi
  · simp [hi] at hLi
  · simp [hi] at hLi

/-- By a step without guard and relation, where the guard lets it through. -/
theorem of {i : Nat} {o : Oper} (hi : l[i]? = some o) (hR : ∀ j u v, R i j u v)
    (hw : ∀ x w, S w → (∀ e ∈ o.after, Region.binds md e = true → ∀ f, F[e.on]? = some f → holds f x w) → Region.wanted o (yielded l.toArray (A x).tmps) = true)
    (h : Facts.StepOk P md Q S A F i o) : StepOk P md l Q S A F R i o := by
  intro x w hS hdep _; unfold Go.wpOp
  have hi' : l.toArray[i]? = some o := by simpa using hi
  simp only [hi', hw x w hS hdep, if_true]; refine .inl (Oper.wp_mono (fun a' w' hh => ?_) (h x w hS hdep)); obtain ⟨u, h1, h2, h3, h4⟩ := hh; exact ⟨u, h1, h2, h3, h4, fun j _ _ _ _ => hR j u _⟩
/-- The same, with the relation. -/
theorem ofR {i : Nat} {o : Oper} (hi : l[i]? = some o)
    (hw : ∀ x w, S w → (∀ e ∈ o.after, Region.binds md e = true → ∀ f, F[e.on]? = some f → holds f x w) → Region.wanted o (yielded l.toArray (A x).tmps) = true)
    (h : ∀ x w, S w → (∀ e ∈ o.after, Region.binds md e = true → ∀ f, F[e.on]? = some f → holds f x w) → (∀ e ∈ o.after, Region.binds md e = true → ∀ e' ∈ o.after, Region.binds md e' = true → e.on ≠ e'.on → R e.on e'.on (x e.on) (x e'.on)) →
      o.wp P (A x) w (fun a' w' => ∃ u, a' = A (put x i u) ∧ S w' ∧ (∀ f, F[i]? = some f → holds f (put x i u) w') ∧ (∀ j f, j ≠ i → F[j]? = some f → holds f x w → holds f x w') ∧ (∀ j f, j ≠ i → F[j]? = some f → holds f x w → R i j u (x j))) Q) : StepOk P md l Q S A F R i o := by
  intro x w hS hdep hrel; unfold Go.wpOp
  have hi' : l.toArray[i]? = some o := by simpa using hi
  simp only [hi', hw x w hS hdep, if_true]; exact .inl (h x w hS hdep hrel)
end
end Go.Proofs.YtfjpbmdmkcihcaaGreat.FactsG
/- A region that draws its order, whose last operation waits for all others: facts of the others, and what the last one does. Nothing of one program. -/
namespace Go.Proofs.YtfjpbmdmkcihcaaGreat.Facts
open Go.RowKit

section
variable {P : Program} {Q : Exit → Act → World → Prop} {l : List Oper}
/-- The operation waits for all ahead of it. -/
def waitsB (md : Region.Mode) (o : Oper) (n : Nat) : Bool := (List.range n).all fun j => o.after.any fun e => e.on == j && Region.binds md e
theorem waitsB_spec {md : Region.Mode} {o : Oper} {n : Nat} (h : waitsB md o n = true) (j : Nat) (hj : j < n) : ∃ e ∈ o.after, e.on = j ∧ Region.binds md e = true := by
  have := List.all_eq_true.1 h j (by simpa using hj)
  rw [Array.any_eq_true] at this; obtain ⟨k, hk, h⟩ := this; simp only [Bool.and_eq_true, beq_iff_eq] at h; exact ⟨o.after[k], by simp, h.1, h.2⟩

theorem regionLast {id : Nat} {a : Act} {w : World} (hm : P.follows .mixedOrders = true) (hd : Owed.downB .any l = true) (n : Nat) (o : Oper) (hn : l.length = n + 1) (ho : l[n]? = some o) (hw : waitsB .any o n = true)
    (S : World → Prop) (A : (Nat → Value) → Act) (F : List Fact) (D : List (List Nat)) (hD : F.map (·.1) = D) (hDl : D.length = n) (hl : nearB .any l D = true)
    (x0 : Nat → Value) (hA : a = A x0) (h0 : S w.drew) (hstep : Owed.each (fun i o => i < n → StepOk P .any Q S A F i o) 0 l)
    (hend : ∀ x w', S w' → (∀ (i : Nat) (f : Fact), F[i]? = some f → holds f x w') → o.wp P (A x) w' (fun a' w'' => Q .normal a' w'') Q) : (Code.region id l.toArray true).wp P Q a w := by
  have hFl : F.length = n := by rw [← hDl, ← hD, List.length_map]
  refine Owed.region hm hd (fun L a w => (L n = true ∧ (∀ i, i < l.length → L i = true) ∧ Q .normal a w) ∨ (L n = false ∧ Inv .any l S A F L a w)) ?_ ?_ (each_imp l 0 hstep ?_) ?_
  · rintro L L' a w hL (⟨h1, h2, h3⟩ | ⟨h1, hS, hc, x, hx, hf⟩)
    · exact .inl ⟨by rw [← hL n (by omega)]; exact h1, fun i hi => by rw [← hL i hi]; exact h2 i hi, h3⟩
    · refine .inr ⟨by rw [← hL n (by omega)]; exact h1, hS, fun i o hi hLi e he hb => ?_, x, hx, fun i f hi hfi hLi => hf i f hi hfi ((hL i hi).trans hLi)⟩
      have hilt : i < l.length := (List.getElem?_eq_some_iff.1 hi).1
      have := (Owed.downB_spec hd hi).2 e he hb
      rw [← hL e.on (by omega)]; exact hc i o hi ((hL i hilt).trans hLi) e he hb
  · intro L hL
    refine .inr ⟨hL n (by omega), h0, fun i o hi hLi => ?_, x0, hA, fun i f hi _ hLi => ?_⟩
    · rw [hL i (List.getElem?_eq_some_iff.1 hi).1] at hLi; cases hLi
    · rw [hL i hi] at hLi; cases hLi
  · intro i o' hi hok
    rw [Nat.zero_add] at hok ⊢; have hilt : i < l.length := (List.getElem?_eq_some_iff.1 hi).1; rintro L a w (⟨_, h2, _⟩ | ⟨h1, hS, hc, x, rfl, hf⟩) hLi hdep
    · rw [h2 i hilt] at hLi; cases hLi
    · by_cases hin : i = n
      · subst hin
        obtain rfl : o = o' := by rw [ho] at hi; exact Option.some.inj hi
        have all : ∀ j, j < i → L j = true := fun j hj => by
          obtain ⟨e, he, rfl, hb⟩ := waitsB_spec hw j hj; exact hdep e he hb
        refine Oper.wp_mono (fun a' w' h => .inl ⟨Owed.upd_self L i, fun j hj => ?_, h⟩) (hend x w hS fun j f hfj => ?_)
        · by_cases e : j = i
          · subst e; exact Owed.upd_self L j
          · rw [Owed.upd_ne L e]
            exact all j (by omega)
        · have hj : j < i := by have := (List.getElem?_eq_some_iff.1 hfj).1; omega
          exact hf j f (by omega) hfj (all j hj)
      · have hstep' := hok (by omega)
        have hdown := (Owed.downB_spec hd hi).2; refine Oper.wp_mono (fun a' w' h => ?_) (hstep' x w hS (fun e he hb f hfe => hf e.on f (by have := hdown e he hb; omega) hfe (hdep e he hb))); obtain ⟨u, rfl, hS', hfi, hoth⟩ := h; refine .inr ⟨by rw [Owed.upd_ne L (Ne.symm hin)]; exact h1, hS', fun j o2 hj hLj e he hb => ?_, put x i u, rfl, fun j f hj hfj hLj => ?_⟩
        · by_cases e1 : j = i
          · subst e1
            obtain rfl : o' = o2 := by rw [hi] at hj; exact Option.some.inj hj
            have := hdep e he hb
            unfold Owed.upd
            simp [this]
          · rw [Owed.upd_ne L e1] at hLj
            have := hc j o2 hj hLj e he hb
            unfold Owed.upd
            simp [this]
        · by_cases e1 : j = i
          · subst e1; exact hfi f hfj
          · rw [Owed.upd_ne L e1] at hLj
            have h1' := hoth j f e1 hfj (hf j f hj hfj hLj)
            have e2 : f.1.map (put x i u) = f.1.map x := by
              apply List.map_congr_left
              intro k hk; have hj' : l[j]? = some l[j] := List.getElem?_eq_getElem hj
              have hki : k ≠ i := by
                rcases nearB_spec hl hj' (by rw [← hD, List.getElem?_map, hfj]; rfl) hk with rfl | ⟨e, he, rfl, hb⟩
                · exact e1
                · intro h2
                  have := hc j _ hj' hLj e he hb
                  rw [h2, hLi] at this; cases this
              simp [put, hki]
            unfold holds at *; rw [e2]; exact h1'
  · rintro L a w hL (⟨_, _, h⟩ | ⟨h1, _⟩)
    · exact h
    · rw [hL n (by omega)] at h1; cases h1
end
end Go.Proofs.YtfjpbmdmkcihcaaGreat.Facts
