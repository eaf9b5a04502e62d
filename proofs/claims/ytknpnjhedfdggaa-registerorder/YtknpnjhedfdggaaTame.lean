/- A region that draws its order, where what an operation comes to may hang on the order (where new memory lies), but not what is known of it: V, and T of it and the memory, which stays. It may be walked in the text's order, once, for all such values at a time. Nothing of one program. -/
import Derived.Test.YtknpnjhedfdggaaCalm
namespace Go.Proofs.Ytknpnjhedfdggaa.Tame
open Go.RowKit

section
variable {P : Program} {ops : Array Oper} {Q : Exit → Act → World → Prop} {md : Region.Mode} {S : World → Prop} {T : Value → World → Prop} {K : Act → Prop}

/-- What is run comes to a value of V, by itself or by a call, and leaves the memory that was there alone. -/
def Goes (P : Program) (S : World → Prop) (T : Value → World → Prop) (V : Value → Prop) (o : Oper) (a : Act) : Prop :=
  ∀ w, S w → (∀ t, Operand.tmp t ∈ o.op.operands → T (a.eval (.tmp t)) w) → match (execOp a.eval o).run P w with
  | .ok (.value u) w' => V u ∧ T u w' ∧ Below w.heap.size w w'
  | .ok (.enter f args) w' => Calls P f args w' fun e w'' => ∃ u, e = .returned u ∧ V u ∧ T u w'' ∧ Below w.heap.size w w''
  | _ => False

def Tame (P : Program) (ops : Array Oper) (S : World → Prop) (T : Value → World → Prop) (o : Oper) (V : Value → Prop) (a : Act) : Prop :=
  (Region.wanted o (yielded ops a.tmps) = true ∧ Goes P S T V o a) ∨ (Region.wanted o (yielded ops a.tmps) = false ∧ V undef)

theorem Tame.of_put {o : Oper} {V : Value → Prop} {a : Act} (hs : ∀ cs b, o.op ≠ .select cs b) (dst : Option Tmp) (v : Value) (h : ∀ d, dst = some d → d ∉ o.looksAt ops) :
    Tame P ops S T o V (a.put dst v) ↔ Tame P ops S T o V a := by
  have hx : ∀ t, Operand.tmp t ∈ o.op.operands → (a.put dst v).eval (.tmp t) = a.eval (.tmp t) := fun t ht => Act.eval_put fun d hd hxd => h d hd (by
    cases hxd
    exact List.mem_append_left _ (List.mem_filterMap.2 ⟨.tmp t, by simpa using ht, rfl⟩))
  unfold Tame Goes
  rw [execOp_put o hs a dst v h, wanted_put o a dst v h]
  have e : ∀ w, (∀ t, Operand.tmp t ∈ o.op.operands → T ((a.put dst v).eval (.tmp t)) w) ↔ (∀ t, Operand.tmp t ∈ o.op.operands → T (a.eval (.tmp t)) w) := fun w =>
    ⟨fun H t ht => by have := H t ht; rwa [hx t ht] at this, fun H t ht => by rw [hx t ht]; exact H t ht⟩
  simp only [e]

/-- All values at hand are known. -/
def Known (T : Value → World → Prop) (a : Act) (w : World) : Prop := ∀ t, T (a.tmps.getD t undef) w

theorem Known.put {a : Act} {w w' : World} (hT : ∀ v w w', T v w → Below w.heap.size w w' → T v w') (h : Known T a w) (hb : Below w.heap.size w w') (dst : Option Tmp) {u : Value} (hu : T u w') : Known T (a.put dst u) w' := by
  intro t
  cases dst with
  | none => exact hT _ _ _ (h t) hb
  | some d =>
    by_cases hd : d = t
    · subst hd
      simp only [Act.put, Array.getD_eq_getD_getElem?]
      rcases Nat.lt_or_ge d a.tmps.size with hlt | hge
      · simp [hlt]; exact hu
      · have := hT _ _ _ (h d) hb
        simpa [Array.getD_eq_getD_getElem?, hge] using this
    · simp only [Act.put, Array.getD_eq_getD_getElem?, Array.getElem?_setIfInBounds_ne hd]
      have := hT _ _ _ (h t) hb
      simpa [Array.getD_eq_getD_getElem?] using this

theorem Tame.wpOp {i : Nat} {o : Oper} {V : Value → Prop} {a : Act} (hi : ops[i]? = some o) (hy : Tame P ops S T o V a) (hS : Calm.Stays S) (hT : ∀ v w w', T v w → Below w.heap.size w w' → T v w') (h0 : ∀ w, T undef w)
    {K : Act → World → Prop} {w : World} (hw : S w) (hk : Known T a w) (h : ∀ v w', V v → S w' → Known T (a.put o.dst v) w' → K (a.put o.dst v) w') : Go.wpOp P ops Q i K a w := by
  unfold Go.wpOp
  simp only [hi]
  rcases hy with ⟨hwd, hv⟩ | ⟨hwd, hv⟩
  · simp only [hwd, if_true, Oper.wp]
    refine .inl ?_
    have hv' := hv w hw (fun t _ => hk t)
    generalize (execOp a.eval o).run P w = r at hv'
    cases r with
    | ok n w' =>
      cases n <;> simp only at hv' ⊢
      case value u => exact h _ _ hv'.1 (hS _ _ hw hv'.2.2) (hk.put hT hv'.2.2 _ hv'.2.1)
      case enter f args =>
        refine Calls.mono hv' fun e w'' he => ?_
        obtain ⟨u, rfl, h1, h2, h3⟩ := he
        exact h _ _ h1 (hS _ _ hw h3) (hk.put hT h3 _ h2)
    | halt x w' => exact hv'.elim
  · simp only [hwd, Bool.false_eq_true, if_false]
    exact h _ _ hv hw (hk.put hT (Below.refl _ _) _ (h0 w))

/-- The acts of A, with whatever value of V behind the operation. -/
def putS (A : Act → Prop) (o : Oper) (V : Value → Prop) : Act → Prop := fun a' => ∃ a v, A a ∧ V v ∧ a' = a.put o.dst v

theorem putS_comm {A : Act → Prop} {x y : Oper} {V W : Value → Prop} (h : ∀ d, x.dst = some d → y.dst ≠ some d) : putS (putS A x V) y W = putS (putS A y W) x V := by
  funext a'
  apply propext
  constructor
  · rintro ⟨_, u, ⟨a, v, ha, hv, rfl⟩, hu, rfl⟩
    exact ⟨_, v, ⟨a, u, ha, hu, rfl⟩, hv, Act.put_comm a v u h⟩
  · rintro ⟨_, v, ⟨a, u, ha, hu, rfl⟩, hv, rfl⟩
    exact ⟨_, u, ⟨a, v, ha, hv, rfl⟩, hu, (Act.put_comm a v u h).symm⟩

def anyTame (P : Program) (md : Region.Mode) (ops : Array Oper) (S : World → Prop) (T : Value → World → Prop) (K : Act → Prop) : Nat → Array Bool → (Act → Prop) → Prop
  | 0, listed, A => Region.ready md ops listed = [] ∧ ∀ a, A a → K a
  | fuel + 1, listed, A =>
    (Region.ready md ops listed = [] → ∀ a, A a → K a) ∧
    ∀ i ∈ Region.ready md ops listed, ∃ o V, ops[i]? = some o ∧ (∃ v, V v) ∧ (∀ a, A a → Tame P ops S T o V a) ∧ anyTame P md ops S T K fuel (listed.setIfInBounds i true) (putS A o V)

theorem wpAny_of_tame (hS : Calm.Stays S) (hT : ∀ v w w', T v w → Below w.heap.size w w' → T v w') (h0 : ∀ w, T undef w) (hK : ∀ a w, K a → S w → Known T a w → Q .normal a w) :
    ∀ (fuel : Nat) (listed : Array Bool) (A : Act → Prop) (a : Act) (w : World), A a → S w → Known T a w → anyTame P md ops S T K fuel listed A → wpAny P md ops Q fuel listed a w
  | 0, _, A, a, w, hA, hw, hk, h => ⟨h.1, hK a w (h.2 a hA) hw hk⟩
  | fuel + 1, _, A, a, w, hA, hw, hk, h => ⟨fun hr => hK a w (h.1 hr a hA) hw hk, fun i hi => by
      obtain ⟨o, V, ho, _, hc, hr⟩ := h.2 i hi
      exact (hc a hA).wpOp ho hS hT h0 hw hk fun v w' hv hw' hk' => wpAny_of_tame hS hT h0 hK fuel _ _ _ w' ⟨a, v, hA, hv, rfl⟩ hw' hk' hr⟩

theorem anyTame_first {i : Nat} {oi : Oper} {V : Value → Prop} (hi : ops[i]? = some oi) (hV : ∃ v, V v) (hsel : ∀ (j : Nat) (o : Oper) cs b, ops[j]? = some o → o.op ≠ .select cs b) :
    ∀ (fuel : Nat) (listed : Array Bool) (A : Act → Prop),
      (∀ j oj, ops[j]? = some oj → j ≠ i → listed.getD j true = false → (∀ e ∈ oj.after, Region.binds md e = true → e.on ≠ i) → oi.apart ops oj = true) →
      i ∈ Region.ready md ops listed → (∀ a, A a → Tame P ops S T oi V a) →
      anyTame P md ops S T K fuel (listed.setIfInBounds i true) (putS A oi V) → anyTame P md ops S T K (fuel + 1) listed A := by
  intro fuel
  induction fuel with
  | zero =>
    intro listed A _ hr hy H
    refine ⟨fun h => (by rw [h] at hr; cases hr), fun j hj => ?_⟩
    by_cases hji : j = i
    · subst hji; exact ⟨oi, V, hi, hV, hy, H⟩
    · have := ready_mono hj hji
      rw [H.1] at this
      cases this
  | succ fuel ih =>
    intro listed A hfree hr hy H
    refine ⟨fun h => (by rw [h] at hr; cases hr), fun j hj => ?_⟩
    by_cases hji : j = i
    · subst hji; exact ⟨oi, V, hi, hV, hy, H⟩
    · obtain ⟨oj, W, hoj, hW, hcj, hrest⟩ := H.2 j (ready_mono hj hji)
      obtain ⟨hjun, oj', hoj', hall⟩ := mem_ready.1 hj
      obtain rfl : oj = oj' := by rw [hoj] at hoj'; exact Option.some.inj hoj'
      have hnot : ∀ e ∈ oj.after, Region.binds md e = true → e.on ≠ i := fun e he hb heq => by
        have h1 := hall e he hb
        have h0 := (mem_ready.1 hr).1
        rw [heq] at h1
        rcases Nat.lt_or_ge i listed.size with h' | h'
        · simp [h'] at h0 h1; rw [h0] at h1; cases h1
        · simp [Array.getElem?_eq_none h'] at h1
      obtain ⟨h1, h2, h3⟩ := Oper.apart_spec (hfree j oj hoj hji hjun hnot)
      have hfree' : ∀ k ok, ops[k]? = some ok → k ≠ i → (listed.setIfInBounds j true).getD k true = false →
          (∀ e ∈ ok.after, Region.binds md e = true → e.on ≠ i) → oi.apart ops ok = true := fun k ok hk hki hun hno => by
        refine hfree k ok hk hki ?_ hno
        by_cases hjk : j = k
        · subst hjk; exact hjun
        · rw [getD_set_ne true hjk] at hun; exact hun
      obtain ⟨v0, hv0⟩ := hV
      refine ⟨oj, W, hoj, hW, fun a ha => (Tame.of_put (fun cs b => hsel j oj cs b hoj) oi.dst v0 h1).1 (hcj _ ⟨a, v0, ha, hv0, rfl⟩), ?_⟩
      refine ih (listed.setIfInBounds j true) (putS A oj W) hfree' (ready_mono hr (Ne.symm hji)) ?_ ?_
      · rintro _ ⟨a, u, ha, _, rfl⟩
        exact (Tame.of_put (fun cs b => hsel i oi cs b hi) oj.dst u h3).2 (hy a ha)
      · rw [Array.setIfInBounds_comm _ _ hji, ← putS_comm h2]
        exact hrest

/-- In the text's order. -/
def tameList (P : Program) (ops : Array Oper) (S : World → Prop) (T : Value → World → Prop) (K : Act → Prop) : List Oper → (Act → Prop) → Prop
  | [], A => ∀ a, A a → K a
  | o :: l, A => ∃ V, (∃ v, V v) ∧ (∀ a, A a → Tame P ops S T o V a) ∧ tameList P ops S T K l (putS A o V)

theorem anyTame_lex (hs : Region.noSelect ops = true) : ∀ (l : List Oper) (k : Nat) (listed : Array Bool) (A : Act → Prop), (∀ j, l[j]? = ops[k + j]?) →
    Region.lexFrom md ops l.length k listed = true → tameList P ops S T K l A → anyTame P md ops S T K l.length listed A
  | [], _, _, _, _, hB, h => ⟨by simpa [Region.lexFrom] using hB, h⟩
  | o :: l, k, listed, A, hl, hB, h => by
    have h0 : ops[k]? = some o := by simpa using (hl 0).symm
    simp only [List.length_cons, Region.lexFrom, Bool.and_eq_true] at hB
    obtain ⟨⟨hr, hf⟩, hB'⟩ := hB
    obtain ⟨V, hV, hy, hK⟩ := h
    exact anyTame_first h0 hV (Region.noSelect_spec hs) l.length listed A (Region.free_spec h0 hf) (by simpa using hr) hy
      (anyTame_lex hs l (k + 1) _ _ (fun j => by have := hl (j + 1); simpa [Nat.add_assoc, Nat.add_comm 1 j] using this) hB' hK)

/-- The acts f p, p of G. -/
def fam {E : Type} (G : E → Prop) (f : E → Act) : Act → Prop := fun a => ∃ p, G p ∧ a = f p

theorem region {id : Nat} {a : Act} {w : World} {l : List Oper} (hm : P.follows .mixedOrders = true) (hB : Region.lexB .any l.toArray = true) (S : World → Prop) (T : Value → World → Prop)
    (hS : Calm.Stays S) (hT : ∀ v w w', T v w → Below w.heap.size w w' → T v w') (h0 : ∀ w, T undef w) (hw : S w.drew) (hk : Known T a w.drew)
    (h : tameList P l.toArray S T (fun a' => ∀ w', S w' → Q .normal a' w') l (fam (fun _ : Unit => True) fun _ => a)) : (Code.region id l.toArray true).wp P Q a w := by
  simp only [Region.lexB, Bool.and_eq_true] at hB
  refine wp_region_any hm (wpAny_of_tame (K := fun a' => ∀ w', S w' → Q .normal a' w') hS hT h0 (fun a w h hS _ => h w hS) _ _ (fam (fun _ : Unit => True) fun _ => a) _ _ ⟨(), trivial, rfl⟩ hw hk ?_)
  have := anyTame_lex (md := .any) hB.1 l 0 (Array.replicate l.toArray.size false) _ (by simp) (by simpa using hB.2) h
  simpa using this

/-! The moves, on acts f p. -/
variable {E : Type} {G : E → Prop} {f : E → Act}

theorem tameList_sub : ∀ (l : List Oper) {A B : Act → Prop}, (∀ a, A a → B a) → tameList P ops S T K l B → tameList P ops S T K l A
  | [], _, _, h, hB => fun a ha => hB a (h a ha)
  | _ :: l, _, _, h, ⟨V, hV, hy, hr⟩ => ⟨V, hV, fun a ha => hy a (h a ha), tameList_sub l (fun _ ⟨a, v, ha, hv, e⟩ => ⟨a, v, h a ha, hv, e⟩) hr⟩

theorem fixed {o : Oper} {l : List Oper} (v : Value) (hy : ∀ p, G p → Tame P ops S T o (· = v) (f p)) (h : tameList P ops S T K l (fam G fun p => (f p).put o.dst v)) : tameList P ops S T K (o :: l) (fam G f) :=
  ⟨(· = v), ⟨v, rfl⟩, fun _ ⟨p, hp, e⟩ => e ▸ hy p hp, tameList_sub l (fun _ ⟨_, _, ⟨p, hp, e⟩, hv, e'⟩ => ⟨p, hp, by rw [e', e, hv]⟩) h⟩
theorem fresh {o : Oper} {l : List Oper} (V : Value → Prop) (hV : ∃ v, V v) (hy : ∀ p, G p → Tame P ops S T o V (f p)) (h : tameList P ops S T K l (fam (fun q : E × Value => G q.1 ∧ V q.2) fun q => (f q.1).put o.dst q.2)) : tameList P ops S T K (o :: l) (fam G f) :=
  ⟨V, hV, fun _ ⟨p, hp, e⟩ => e ▸ hy p hp, tameList_sub l (fun _ ⟨_, v, ⟨p, hp, e⟩, hv, e'⟩ => ⟨(p, v), ⟨hp, hv⟩, by rw [e', e]⟩) h⟩
theorem done (h : ∀ p, G p → K (f p)) : tameList P ops S T K [] (fam G f) := fun _ ⟨p, hp, e⟩ => e ▸ h p hp

theorem skip {o : Oper} {l : List Oper} (hw : ∀ p, Region.wanted o (yielded ops (f p).tmps) = false) (h : tameList P ops S T K l (fam G fun p => (f p).put o.dst undef)) : tameList P ops S T K (o :: l) (fam G f) :=
  fixed undef (fun p _ => .inr ⟨hw p, rfl⟩) h
/-- An operation that comes to one value, and leaves the world as it is. -/
theorem pure {o : Oper} {l : List Oper} {v : Value} (hw : ∀ p, Region.wanted o (yielded ops (f p).tmps) = true) (hv : ∀ p, G p → ∀ w, S w → (execOp (f p).eval o).run P w = .ok (.value v) w) (hT : ∀ w, T v w)
    (h : tameList P ops S T K l (fam G fun p => (f p).put o.dst v)) : tameList P ops S T K (o :: l) (fam G f) :=
  fixed v (fun p hp => .inl ⟨hw p, fun w hS _ => by rw [hv p hp w hS]; exact ⟨rfl, hT w, Below.refl _ _⟩⟩) h
/-- The same, where what it comes to hangs on p (a copy of a value that is not one). -/
theorem copy {o : Oper} {l : List Oper} {g : E → Value} (V : Value → Prop) (hV : ∃ v, V v) (hw : ∀ p, Region.wanted o (yielded ops (f p).tmps) = true) (hg : ∀ p, G p → V (g p))
    (hv : ∀ p, G p → ∀ w, S w → (∀ t, Operand.tmp t ∈ o.op.operands → T ((f p).eval (.tmp t)) w) → (execOp (f p).eval o).run P w = .ok (.value (g p)) w ∧ T (g p) w)
    (h : tameList P ops S T K l (fam (fun q : E × Value => G q.1 ∧ V q.2) fun q => (f q.1).put o.dst q.2)) : tameList P ops S T K (o :: l) (fam G f) :=
  fresh V hV (fun p hp => .inl ⟨hw p, fun w hS ht => by rw [(hv p hp w hS ht).1]; exact ⟨hg p hp, (hv p hp w hS ht).2, Below.refl _ _⟩⟩) h

theorem enter0 {o : Oper} {fn : FuncId} {ts : Array TypeId} 
    (ho : o.op = .call { callee := .value (.func fn), args := #[], argTypes := ts })  (hf : Calm.enters P fn = true) (p : E) (w : World) :
    (execOp (f p).eval o).run P w = .ok (.enter fn #[]) w := by
  have e : ∀ args, (callFunc fn args).run P w = .ok (.enter fn args) w := fun args => Calm.enters_run hf args w
  unfold execOp
  simp [ho, go_sem, Act.eval, e]
theorem call0 {o : Oper} {l : List Oper} {r : Value} {fn : FuncId} {ts : Array TypeId}  (hw : ∀ p, Region.wanted o (yielded ops (f p).tmps) = true)
    (ho : o.op = .call { callee := .value (.func fn), args := #[], argTypes := ts })  (hf : Calm.enters P fn = true) (hT : ∀ w, T r w)
    (hc : ∀ p w, G p → S w → (∀ t, Operand.tmp t ∈ o.op.operands → T ((f p).eval (.tmp t)) w) → Calls P fn #[] w fun e w' => e = .returned r ∧ Below w.heap.size w w')
    (h : tameList P ops S T K l (fam G fun p => (f p).put o.dst r)) : tameList P ops S T K (o :: l) (fam G f) :=
  fixed r (fun p hp => .inl ⟨hw p, fun w hS ht => by
    rw [enter0 ho  hf p w]
    exact (hc p w hp hS ht).mono fun e w' he => ⟨r, he.1, rfl, hT w', he.2⟩⟩) h
theorem callNew0 {o : Oper} {l : List Oper} (V : Value → Prop) (hV : ∃ v, V v) {fn : FuncId} {ts : Array TypeId}  (hw : ∀ p, Region.wanted o (yielded ops (f p).tmps) = true)
    (ho : o.op = .call { callee := .value (.func fn), args := #[], argTypes := ts })  (hf : Calm.enters P fn = true)
    (hc : ∀ p w, G p → S w → (∀ t, Operand.tmp t ∈ o.op.operands → T ((f p).eval (.tmp t)) w) → Calls P fn #[] w fun e w' => ∃ u, e = .returned u ∧ V u ∧ T u w' ∧ Below w.heap.size w w')
    (h : tameList P ops S T K l (fam (fun q : E × Value => G q.1 ∧ V q.2) fun q => (f q.1).put o.dst q.2)) : tameList P ops S T K (o :: l) (fam G f) :=
  fresh V hV (fun p hp => .inl ⟨hw p, fun w hS ht => by
    rw [enter0 ho  hf p w]
    exact hc p w hp hS ht⟩) h
theorem enter1 {o : Oper} {fn : FuncId} {ts : Array TypeId} {x : E → Value} {u : Operand}
    (ho : o.op = .call { callee := .value (.func fn), args := #[u], argTypes := ts }) (hu : ∀ p, (f p).eval u = x p) (hf : Calm.enters P fn = true) (p : E) (w : World) :
    (execOp (f p).eval o).run P w = .ok (.enter fn #[x p]) w := by
  have e : ∀ args, (callFunc fn args).run P w = .ok (.enter fn args) w := fun args => Calm.enters_run hf args w
  rw [← hu p]
  unfold execOp
  simp [ho, go_sem, Act.eval, e]
theorem call1 {o : Oper} {l : List Oper} {r : Value} {fn : FuncId} {ts : Array TypeId} {x : E → Value} {u : Operand} (hw : ∀ p, Region.wanted o (yielded ops (f p).tmps) = true)
    (ho : o.op = .call { callee := .value (.func fn), args := #[u], argTypes := ts }) (hu : ∀ p, (f p).eval u = x p) (hf : Calm.enters P fn = true) (hT : ∀ w, T r w)
    (hc : ∀ p w, G p → S w → (∀ t, Operand.tmp t ∈ o.op.operands → T ((f p).eval (.tmp t)) w) → Calls P fn #[x p] w fun e w' => e = .returned r ∧ Below w.heap.size w w')
    (h : tameList P ops S T K l (fam G fun p => (f p).put o.dst r)) : tameList P ops S T K (o :: l) (fam G f) :=
  fixed r (fun p hp => .inl ⟨hw p, fun w hS ht => by
    rw [enter1 ho hu hf p w]
    exact (hc p w hp hS ht).mono fun e w' he => ⟨r, he.1, rfl, hT w', he.2⟩⟩) h
theorem callNew1 {o : Oper} {l : List Oper} (V : Value → Prop) (hV : ∃ v, V v) {fn : FuncId} {ts : Array TypeId} {x : E → Value} {u : Operand} (hw : ∀ p, Region.wanted o (yielded ops (f p).tmps) = true)
    (ho : o.op = .call { callee := .value (.func fn), args := #[u], argTypes := ts }) (hu : ∀ p, (f p).eval u = x p) (hf : Calm.enters P fn = true)
    (hc : ∀ p w, G p → S w → (∀ t, Operand.tmp t ∈ o.op.operands → T ((f p).eval (.tmp t)) w) → Calls P fn #[x p] w fun e w' => ∃ u, e = .returned u ∧ V u ∧ T u w' ∧ Below w.heap.size w w')
    (h : tameList P ops S T K l (fam (fun q : E × Value => G q.1 ∧ V q.2) fun q => (f q.1).put o.dst q.2)) : tameList P ops S T K (o :: l) (fam G f) :=
  fresh V hV (fun p hp => .inl ⟨hw p, fun w hS ht => by
    rw [enter1 ho hu hf p w]
    exact hc p w hp hS ht⟩) h
theorem enter2 {o : Oper} {fn : FuncId} {ts : Array TypeId} {x y : E → Value} {u v : Operand}
    (ho : o.op = .call { callee := .value (.func fn), args := #[u, v], argTypes := ts }) (hu : ∀ p, (f p).eval u = x p) (hv : ∀ p, (f p).eval v = y p) (hf : Calm.enters P fn = true) (p : E) (w : World) :
    (execOp (f p).eval o).run P w = .ok (.enter fn #[x p, y p]) w := by
  have e : ∀ args, (callFunc fn args).run P w = .ok (.enter fn args) w := fun args => Calm.enters_run hf args w
  rw [← hu p]; rw [← hv p]
  unfold execOp
  simp [ho, go_sem, Act.eval, e]
theorem call2 {o : Oper} {l : List Oper} {r : Value} {fn : FuncId} {ts : Array TypeId} {x y : E → Value} {u v : Operand} (hw : ∀ p, Region.wanted o (yielded ops (f p).tmps) = true)
    (ho : o.op = .call { callee := .value (.func fn), args := #[u, v], argTypes := ts }) (hu : ∀ p, (f p).eval u = x p) (hv : ∀ p, (f p).eval v = y p) (hf : Calm.enters P fn = true) (hT : ∀ w, T r w)
    (hc : ∀ p w, G p → S w → (∀ t, Operand.tmp t ∈ o.op.operands → T ((f p).eval (.tmp t)) w) → Calls P fn #[x p, y p] w fun e w' => e = .returned r ∧ Below w.heap.size w w')
    (h : tameList P ops S T K l (fam G fun p => (f p).put o.dst r)) : tameList P ops S T K (o :: l) (fam G f) :=
  fixed r (fun p hp => .inl ⟨hw p, fun w hS ht => by
    rw [enter2 ho hu hv hf p w]
    exact (hc p w hp hS ht).mono fun e w' he => ⟨r, he.1, rfl, hT w', he.2⟩⟩) h
theorem callNew2 {o : Oper} {l : List Oper} (V : Value → Prop) (hV : ∃ v, V v) {fn : FuncId} {ts : Array TypeId} {x y : E → Value} {u v : Operand} (hw : ∀ p, Region.wanted o (yielded ops (f p).tmps) = true)
    (ho : o.op = .call { callee := .value (.func fn), args := #[u, v], argTypes := ts }) (hu : ∀ p, (f p).eval u = x p) (hv : ∀ p, (f p).eval v = y p) (hf : Calm.enters P fn = true)
    (hc : ∀ p w, G p → S w → (∀ t, Operand.tmp t ∈ o.op.operands → T ((f p).eval (.tmp t)) w) → Calls P fn #[x p, y p] w fun e w' => ∃ u, e = .returned u ∧ V u ∧ T u w' ∧ Below w.heap.size w w')
    (h : tameList P ops S T K l (fam (fun q : E × Value => G q.1 ∧ V q.2) fun q => (f q.1).put o.dst q.2)) : tameList P ops S T K (o :: l) (fam G f) :=
  fresh V hV (fun p hp => .inl ⟨hw p, fun w hS ht => by
    rw [enter2 ho hu hv hf p w]
    exact hc p w hp hS ht⟩) h

end
end Go.Proofs.Ytknpnjhedfdggaa.Tame
