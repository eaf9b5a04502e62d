import Derived.Test.YtfiamiflkfdhoaaP1
import Derived.Test.YtfiamiflkfdhoaaP2
/- A region that draws its order, where what an operation comes to may hang on the order (where new memory lies), but not what is known of it: V, and T of it and the memory, which stays. It may be walked in the text's order, once, for all such values at a time. Nothing of one program. -/
namespace Go.Proofs.Ytfiamiflkfdhoaa.Tame
open Go.RowKit

section
variable {P : Program} {ops : Array Oper} {Q : Exit → Act → World → Prop} {md : Region.Mode} {S : World → Prop} {T : Value → World → Prop} {K : Act → Prop}

/-- What is run comes to a value of V, by itself or by a call, and leaves the memory that was there alone. -/
def Goes (P : Program) (S : World → Prop) (T : Value → World → Prop) (V : Value → Prop) (o : Oper) (a : Act) : Prop :=
  ∀ w, S w → (∀ t, Operand.tmp t ∈ o.op.operands → T (a.eval (.tmp t)) w) → match (execOp a.eval o).run P w with
  | .ok (.value u) w' => V u ∧ T u w' ∧ Below w.heap.size w w'
  | .ok (.enter f args) w' => Calls P f args w' fun e w'' => ∃ u, e = .returned u ∧ V u ∧ T u w'' ∧ Below w.heap.size w w''
  | _ => False

def Tame (P : Program) (ops : Array Oper) (S : World → Prop) (T : Value → World → Prop) (o : Oper) (V : Value → Prop) (a : Act) : Prop :=
  (Region.wanted o (yielded ops a.tmps) = true ∧ Goes P S T V o a) ∨ (Region.wanted o (yielded ops a.tmps) = false ∧ V undef)

theorem Tame.of_put {o : Oper} {V : Value → Prop} {a : Act} (hs : ∀ cs b, o.op ≠ .select cs b) (dst : Option Tmp) (v : Value) (h : ∀ d, dst = some d → d ∉ o.looksAt ops) :
    Tame P ops S T o V (a.put dst v) ↔ Tame P ops S T o V a := by
  have hx : ∀ t, Operand.tmp t ∈ o.op.operands → (a.put dst v).eval (.tmp t) = a.eval (.tmp t) := fun t ht => Act.eval_put fun d hd hxd => h d hd (by
    cases hxd
    exact List.mem_append_left _ (List.mem_filterMap.2 ⟨.tmp t, by simpa using ht, rfl⟩))
  unfold Tame Goes
  rw [execOp_put o hs a dst v h, wanted_put o a dst v h]
  have e : ∀ w, (∀ t, Operand.tmp t ∈ o.op.operands → T ((a.put dst v).eval (.tmp t)) w) ↔ (∀ t, Operand.tmp t ∈ o.op.operands → T (a.eval (.tmp t)) w) := fun w =>
    ⟨fun H t ht => by have := H t ht; rwa [hx t ht] at this, fun H t ht => by rw [hx t ht]; exact H t ht⟩
  simp only [e]

/-- All values at hand are known. -/
def Known (T : Value → World → Prop) (a : Act) (w : World) : Prop := ∀ t, T (a.tmps.getD t undef) w

theorem Known.put {a : Act} {w w' : World} (hT : ∀ v w w', T v w → Below w.heap.size w w' → T v w') (h : Known T a w) (hb : Below w.heap.size w w') (dst : Option Tmp) {u : Value} (hu : T u w') : Known T (a.put dst u) w' := by
  intro t
  cases dst with
  | none => exact hT _ _ _ (h t) hb
  | some d =>
    by_cases hd : d = t
    · subst hd
      simp only [Act.put, Array.getD_eq_getD_getElem?]
      rcases Nat.lt_or_ge d a.tmps.size with hlt | hge
      · simp [hlt]; exact hu
      · have := hT _ _ _ (h d) hb
        simpa [Array.getD_eq_getD_getElem?, hge] using this
    · simp only [Act.put, Array.getD_eq_getD_getElem?, Array.getElem?_setIfInBounds_ne hd]
      have := hT _ _ _ (h t) hb
      simpa [Array.getD_eq_getD_getElem?] using this

theorem Tame.wpOp {i : Nat} {o : Oper} {V : Value → Prop} {a : Act} (hi : ops[i]? = some o) (hy : Tame P ops S T o V a) (hS : Calm.Stays S) (hT : ∀ v w w', T v w → Below w.heap.size w w' → T v w') (h0 : ∀ w, T undef w)
    {K : Act → World → Prop} {w : World} (hw : S w) (hk : Known T a w) (h : ∀ v w', V v → S w' → Known T (a.put o.dst v) w' → K (a.put o.dst v) w') : Go.wpOp P ops Q i K a w := by
  unfold Go.wpOp
  simp only [hi]
  rcases hy with ⟨hwd, hv⟩ | ⟨hwd, hv⟩
  · simp only [hwd, if_true, Oper.wp]
    refine .inl ?_
    have hv' := hv w hw (fun t _ => hk t)
    generalize (execOp a.eval o).run P w = r at hv'
    cases r with
    | ok n w' =>
      cases n <;> simp only at hv' ⊢
      case value u => exact h _ _ hv'.1 (hS _ _ hw hv'.2.2) (hk.put hT hv'.2.2 _ hv'.2.1)
      case enter f args =>
        refine Calls.mono hv' fun e w'' he => ?_
        obtain ⟨u, rfl, h1, h2, h3⟩ := he
        exact h _ _ h1 (hS _ _ hw h3) (hk.put hT h3 _ h2)
    | halt x w' => exact hv'.elim
  · simp only [hwd, Bool.false_eq_true, if_false]
    exact h _ _ hv hw (hk.put hT (Below.refl _ _) _ (h0 w))

/-- The acts of A, with whatever value of V behind the operation. -/
def putS (A : Act → Prop) (o : Oper) (V : Value → Prop) : Act → Prop := fun a' => ∃ a v, A a ∧ V v ∧ a' = a.put o.dst v

theorem putS_comm {A : Act → Prop} {x y : Oper} {V W : Value → Prop} (h : ∀ d, x.dst = some d → y.dst ≠ some d) : putS (putS A x V) y W = putS (putS A y W) x V := by
  funext a'
  apply propext
  constructor
  · rintro ⟨_, u, ⟨a, v, ha, hv, rfl⟩, hu, rfl⟩
    exact ⟨_, v, ⟨a, u, ha, hu, rfl⟩, hv, Act.put_comm a v u h⟩
  · rintro ⟨_, v, ⟨a, u, ha, hu, rfl⟩, hv, rfl⟩
    exact ⟨_, u, ⟨a, v, ha, hv, rfl⟩, hu, (Act.put_comm a v u h).symm⟩

def anyTame (P : Program) (md : Region.Mode) (ops : Array Oper) (S : World → Prop) (T : Value → World → Prop) (K : Act → Prop) : Nat → Array Bool → (Act → Prop) → Prop
  | 0, listed, A => Region.ready md ops listed = [] ∧ ∀ a, A a → K a
  | fuel + 1, listed, A =>
    (Region.ready md ops listed = [] → ∀ a, A a → K a) ∧
    ∀ i ∈ Region.ready md ops listed, ∃ o V, ops[i]? = some o ∧ (∃ v, V v) ∧ (∀ a, A a → Tame P ops S T o V a) ∧ anyTame P md ops S T K fuel (listed.setIfInBounds i true) (putS A o V)

theorem wpAny_of_tame (hS : Calm.Stays S) (hT : ∀ v w w', T v w → Below w.heap.size w w' → T v w') (h0 : ∀ w, T undef w) (hK : ∀ a w, K a → S w → Known T a w → Q .normal a w) :
    ∀ (fuel : Nat) (listed : Array Bool) (A : Act → Prop) (a : Act) (w : World), A a → S w → Known T a w → anyTame P md ops S T K fuel listed A → wpAny P md ops Q fuel listed a w
  | 0, _, A, a, w, hA, hw, hk, h => ⟨h.1, hK a w (h.2 a hA) hw hk⟩
  | fuel + 1, _, A, a, w, hA, hw, hk, h => ⟨fun hr => hK a w (h.1 hr a hA) hw hk, fun i hi => by
      obtain ⟨o, V, ho, _, hc, hr⟩ := h.2 i hi
      exact (hc a hA).wpOp ho hS hT h0 hw hk fun v w' hv hw' hk' => wpAny_of_tame hS hT h0 hK fuel _ _ _ w' ⟨a, v, hA, hv, rfl⟩ hw' hk' hr⟩

theorem anyTame_first {i : Nat} {oi : Oper} {V : Value → Prop} (hi : ops[i]? = some oi) (hV : ∃ v, V v) (hsel : ∀ (j : Nat) (o : Oper) cs b, ops[j]? = some o → o.op ≠ .select cs b) :
    ∀ (fuel : Nat) (listed : Array Bool) (A : Act → Prop),
      (∀ j oj, ops[j]? = some oj → j ≠ i → listed.getD j true = false → (∀ e ∈ oj.after, Region.binds md e = true → e.on ≠ i) → oi.apart ops oj = true) →
      i ∈ Region.ready md ops listed → (∀ a, A a → Tame P ops S T oi V a) →
      anyTame P md ops S T K fuel (listed.setIfInBounds i true) (putS A oi V) → anyTame P md ops S T K (fuel + 1) listed A := by
  intro fuel
  induction fuel with
  | zero =>
    intro listed A _ hr hy H
    refine ⟨fun h => (by rw [h] at hr; cases hr), fun j hj => ?_⟩
    by_cases hji : j = i
    · subst hji; exact ⟨oi, V, hi, hV, hy, H⟩
    · have := ready_mono hj hji
      rw [H.1] at this
      cases this
  | succ fuel ih =>
    intro listed A hfree hr hy H
    refine ⟨fun h => (by rw [h] at hr; cases hr), fun j hj => ?_⟩
    by_cases hji : j = i
    · subst hji; exact ⟨oi, V, hi, hV, hy, H⟩
    · obtain ⟨oj, W, hoj, hW, hcj, hrest⟩ := H.2 j (ready_mono hj hji)
      obtain ⟨hjun, oj', hoj', hall⟩ := mem_ready.1 hj
      obtain rfl : oj = oj' := by rw [hoj] at hoj'; exact Option.some.inj hoj'
      have hnot : ∀ e ∈ oj.after, Region.binds md e = true → e.on ≠ i := fun e he hb heq => by
        have h1 := hall e he hb
        have h0 := (mem_ready.1 hr).1
        rw [heq] at h1
        rcases Nat.lt_or_ge i listed.size with h' | h'
        · simp [h'] at h0 h1; rw [h0] at h1; cases h1
        · simp [Array.getElem?_eq_none h'] at h1
      obtain ⟨h1, h2, h3⟩ := Oper.apart_spec (hfree j oj hoj hji hjun hnot)
      have hfree' : ∀ k ok, ops[k]? = some ok → k ≠ i → (listed.setIfInBounds j true).getD k true = false →
          (∀ e ∈ ok.after, Region.binds md e = true → e.on ≠ i) → oi.apart ops ok = true := fun k ok hk hki hun hno => by
        refine hfree k ok hk hki ?_ hno
        by_cases hjk : j = k
        · subst hjk; exact hjun
        · rw [getD_set_ne true hjk] at hun; exact hun
      obtain ⟨v0, hv0⟩ := hV
      refine ⟨oj, W, hoj, hW, fun a ha => (Tame.of_put (fun cs b => hsel j oj cs b hoj) oi.dst v0 h1).1 (hcj _ ⟨a, v0, ha, hv0, rfl⟩), ?_⟩
      refine ih (listed.setIfInBounds j true) (putS A oj W) hfree' (ready_mono hr (Ne.symm hji)) ?_ ?_
      · rintro _ ⟨a, u, ha, _, rfl⟩
        exact (Tame.of_put (fun cs b => hsel i oi cs b hi) oj.dst u h3).2 (hy a ha)
      · rw [Array.setIfInBounds_comm _ _ hji, ← putS_comm h2]
        exact hrest

/-- In the text's order. -/
def tameList (P : Program) (ops : Array Oper) (S : World → Prop) (T : Value → World → Prop) (K : Act → Prop) : List Oper → (Act → Prop) → Prop
  | [], A => ∀ a, A a → K a
  | o :: l, A => ∃ V, (∃ v, V v) ∧ (∀ a, A a → Tame P ops S T o V a) ∧ tameList P ops S T K l (putS A o V)

theorem anyTame_lex (hs : Region.noSelect ops = true) : ∀ (l : List Oper) (k : Nat) (listed : Array Bool) (A : Act → Prop), (∀ j, l[j]? = ops[k + j]?) →
    Region.lexFrom md ops l.length k listed = true → tameList P ops S T K l A → anyTame P md ops S T K l.length listed A
  | [], _, _, _, _, hB, h => ⟨by simpa [Region.lexFrom] using hB, h⟩
  | o :: l, k, listed, A, hl, hB, h => by
    have h0 : ops[k]? = some o := by simpa using (hl 0).symm
    simp only [List.length_cons, Region.lexFrom, Bool.and_eq_true] at hB
    obtain ⟨⟨hr, hf⟩, hB'⟩ := hB
    obtain ⟨V, hV, hy, hK⟩ := h
    exact anyTame_first h0 hV (Region.noSelect_spec hs) l.length listed A (Region.free_spec h0 hf) (by simpa using hr) hy
      (anyTame_lex hs l (k + 1) _ _ (fun j => by have := hl (j + 1); simpa [Nat.add_assoc, Nat.add_comm 1 j] using this) hB' hK)

/-- The acts f p, p of G. -/
def fam {E : Type} (G : E → Prop) (f : E → Act) : Act → Prop := fun a => ∃ p, G p ∧ a = f p

theorem region {id : Nat} {a : Act} {w : World} {l : List Oper} (hm : P.follows .mixedOrders = true) (hB : Region.lexB .any l.toArray = true) (S : World → Prop) (T : Value → World → Prop)
    (hS : Calm.Stays S) (hT : ∀ v w w', T v w → Below w.heap.size w w' → T v w') (h0 : ∀ w, T undef w) (hw : S w.drew) (hk : Known T a w.drew)
    (h : tameList P l.toArray S T (fun a' => ∀ w', S w' → Q .normal a' w') l (fam (fun _ : Unit => True) fun _ => a)) : (Code.region id l.toArray true).wp P Q a w := by
  simp only [Region.lexB, Bool.and_eq_true] at hB
  refine wp_region_any hm (wpAny_of_tame (K := fun a' => ∀ w', S w' → Q .normal a' w') hS hT h0 (fun a w h hS _ => h w hS) _ _ (fam (fun _ : Unit => True) fun _ => a) _ _ ⟨(), trivial, rfl⟩ hw hk ?_)
  have := anyTame_lex (md := .any) hB.1 l 0 (Array.replicate l.toArray.size false) _ (by simp) (by simpa using hB.2) h
  simpa using this

/-! The moves, on acts f p. -/
variable {E : Type} {G : E → Prop} {f : E → Act}

theorem tameList_sub : ∀ (l : List Oper) {A B : Act → Prop}, (∀ a, A a → B a) → tameList P ops S T K l B → tameList P ops S T K l A
  | [], _, _, h, hB => fun a ha => hB a (h a ha)
  | _ :: l, _, _, h, ⟨V, hV, hy, hr⟩ => ⟨V, hV, fun a ha => hy a (h a ha), tameList_sub l (fun _ ⟨a, v, ha, hv, e⟩ => ⟨a, v, h a ha, hv, e⟩) hr⟩

theorem fixed {o : Oper} {l : List Oper} (v : Value) (hy : ∀ p, G p → Tame P ops S T o (· = v) (f p)) (h : tameList P ops S T K l (fam G fun p => (f p).put o.dst v)) : tameList P ops S T K (o :: l) (fam G f) :=
  ⟨(· = v), ⟨v, rfl⟩, fun _ ⟨p, hp, e⟩ => e ▸ hy p hp, tameList_sub l (fun _ ⟨_, _, ⟨p, hp, e⟩, hv, e'⟩ => ⟨p, hp, by rw [e', e, hv]⟩) h⟩
theorem fresh {o : Oper} {l : List Oper} (V : Value → Prop) (hV : ∃ v, V v) (hy : ∀ p, G p → Tame P ops S T o V (f p)) (h : tameList P ops S T K l (fam (fun q : E × Value => G q.1 ∧ V q.2) fun q => (f q.1).put o.dst q.2)) : tameList P ops S T K (o :: l) (fam G f) :=
  ⟨V, hV, fun _ ⟨p, hp, e⟩ => e ▸ hy p hp, tameList_sub l (fun _ ⟨_, v, ⟨p, hp, e⟩, hv, e'⟩ => ⟨(p, v), ⟨hp, hv⟩, by rw [e', e]⟩) h⟩
theorem done (h : ∀ p, G p → K (f p)) : tameList P ops S T K [] (fam G f) := fun _ ⟨p, hp, e⟩ => e ▸ h p hp

theorem skip {o : Oper} {l : List Oper} (hw : ∀ p, Region.wanted o (yielded ops (f p).tmps) = false) (h : tameList P ops S T K l (fam G fun p => (f p).put o.dst undef)) : tameList P ops S T K (o :: l) (fam G f) :=
  fixed undef (fun p _ => .inr ⟨hw p, rfl⟩) h
/-- An operation that comes to one value, and leaves the world as it is. -/
theorem pure {o : Oper} {l : List Oper} {v : Value} (hw : ∀ p, Region.wanted o (yielded ops (f p).tmps) = true) (hv : ∀ p, G p → ∀ w, S w → (execOp (f p).eval o).run P w = .ok (.value v) w) (hT : ∀ w, T v w)
    (h : tameList P ops S T K l (fam G fun p => (f p).put o.dst v)) : tameList P ops S T K (o :: l) (fam G f) :=
  fixed v (fun p hp => .inl ⟨hw p, fun w hS _ => by rw [hv p hp w hS]; exact ⟨rfl, hT w, Below.refl _ _⟩⟩) h
/-- The same, where what it comes to hangs on p (a copy of a value that is not one). -/
theorem copy {o : Oper} {l : List Oper} {g : E → Value} (V : Value → Prop) (hV : ∃ v, V v) (hw : ∀ p, Region.wanted o (yielded ops (f p).tmps) = true) (hg : ∀ p, G p → V (g p))
    (hv : ∀ p, G p → ∀ w, S w → (∀ t, Operand.tmp t ∈ o.op.operands → T ((f p).eval (.tmp t)) w) → (execOp (f p).eval o).run P w = .ok (.value (g p)) w ∧ T (g p) w)
    (h : tameList P ops S T K l (fam (fun q : E × Value => G q.1 ∧ V q.2) fun q => (f q.1).put o.dst q.2)) : tameList P ops S T K (o :: l) (fam G f) :=
  fresh V hV (fun p hp => .inl ⟨hw p, fun w hS ht => by rw [(hv p hp w hS ht).1]; exact ⟨hg p hp, (hv p hp w hS ht).2, Below.refl _ _⟩⟩) h

theorem enter0 {o : Oper} {fn : FuncId} {ts : Array TypeId} 
    (ho : o.op = .call { callee := .value (.func fn), args := #[], argTypes := ts })  (hf : Calm.enters P fn = true) (p : E) (w : World) :
    (execOp (f p).eval o).run P w = .ok (.enter fn #[]) w := by
  have e : ∀ args, (callFunc fn args).run P w = .ok (.enter fn args) w := fun args => Calm.enters_run hf args w
  unfold execOp
  simp [ho, go_sem, Act.eval, e]
theorem call0 {o : Oper} {l : List Oper} {r : Value} {fn : FuncId} {ts : Array TypeId}  (hw : ∀ p, Region.wanted o (yielded ops (f p).tmps) = true)
    (ho : o.op = .call { callee := .value (.func fn), args := #[], argTypes := ts })  (hf : Calm.enters P fn = true) (hT : ∀ w, T r w)
    (hc : ∀ p w, G p → S w → (∀ t, Operand.tmp t ∈ o.op.operands → T ((f p).eval (.tmp t)) w) → Calls P fn #[] w fun e w' => e = .returned r ∧ Below w.heap.size w w')
    (h : tameList P ops S T K l (fam G fun p => (f p).put o.dst r)) : tameList P ops S T K (o :: l) (fam G f) :=
  fixed r (fun p hp => .inl ⟨hw p, fun w hS ht => by
    rw [enter0 ho  hf p w]
    exact (hc p w hp hS ht).mono fun e w' he => ⟨r, he.1, rfl, hT w', he.2⟩⟩) h
theorem callNew0 {o : Oper} {l : List Oper} (V : Value → Prop) (hV : ∃ v, V v) {fn : FuncId} {ts : Array TypeId}  (hw : ∀ p, Region.wanted o (yielded ops (f p).tmps) = true)
    (ho : o.op = .call { callee := .value (.func fn), args := #[], argTypes := ts })  (hf : Calm.enters P fn = true)
    (hc : ∀ p w, G p → S w → (∀ t, Operand.tmp t ∈ o.op.operands → T ((f p).eval (.tmp t)) w) → Calls P fn #[] w fun e w' => ∃ u, e = .returned u ∧ V u ∧ T u w' ∧ Below w.heap.size w w')
    (h : tameList P ops S T K l (fam (fun q : E × Value => G q.1 ∧ V q.2) fun q => (f q.1).put o.dst q.2)) : tameList P ops S T K (o :: l) (fam G f) :=
  fresh V hV (fun p hp => .inl ⟨hw p, fun w hS ht => by
    rw [enter0 ho  hf p w]
    exact hc p w hp hS ht⟩) h
theorem enter1 {o : Oper} {fn : FuncId} {ts : Array TypeId} {x : E → Value} {u : Operand}
    (ho : o.op = .call { callee := .value (.func fn), args := #[u], argTypes := ts }) (hu : ∀ p, (f p).eval u = x p) (hf : Calm.enters P fn = true) (p : E) (w : World) :
    (execOp (f p).eval o).run P w = .ok (.enter fn #[x p]) w := by
  have e : ∀ args, (callFunc fn args).run P w = .ok (.enter fn args) w := fun args => Calm.enters_run hf args w
  rw [← hu p]
  unfold execOp
  simp [ho, go_sem, Act.eval, e]
theorem call1 {o : Oper} {l : List Oper} {r : Value} {fn : FuncId} {ts : Array TypeId} {x : E → Value} {u : Operand} (hw : ∀ p, Region.wanted o (yielded ops (f p).tmps) = true)
    (ho : o.op = .call { callee := .value (.func fn), args := #[u], argTypes := ts }) (hu : ∀ p, (f p).eval u = x p) (hf : Calm.enters P fn = true) (hT : ∀ w, T r w)
    (hc : ∀ p w, G p → S w → (∀ t, Operand.tmp t ∈ o.op.operands → T ((f p).eval (.tmp t)) w) → Calls P fn #[x p] w fun e w' => e = .returned r ∧ Below w.heap.size w w')
    (h : tameList P ops S T K l (fam G fun p => (f p).put o.dst r)) : tameList P ops S T K (o :: l) (fam G f) :=
  fixed r (fun p hp => .inl ⟨hw p, fun w hS ht => by
    rw [enter1 ho hu hf p w]
    exact (hc p w hp hS ht).mono fun e w' he => ⟨r, he.1, rfl, hT w', he.2⟩⟩) h
theorem callNew1 {o : Oper} {l : List Oper} (V : Value → Prop) (hV : ∃ v, V v) {fn : FuncId} {ts : Array TypeId} {x : E → Value} {u : Operand} (hw : ∀ p, Region.wanted o (yielded ops (f p).tmps) = true)
    (ho : o.op = .call { callee := .value (.func fn), args := #[u], argTypes := ts }) (hu : ∀ p, (f p).eval u = x p) (hf : Calm.enters P fn = true)
    (hc : ∀ p w, G p → S w → (∀ t, Operand.tmp t ∈ o.op.operands → T ((f p).eval (.tmp t)) w) → Calls P fn #[x p] w fun e w' => ∃ u, e = .returned u ∧ V u ∧ T u w' ∧ Below w.heap.size w w')
    (h : tameList P ops S T K l (fam (fun q : E × Value => G q.1 ∧ V q.2) fun q => (f q.1).put o.dst q.2)) : tameList P ops S T K (o :: l) (fam G f) :=
  fresh V hV (fun p hp => .inl ⟨hw p, fun w hS ht => by
    rw [enter1 ho hu hf p w]
    exact hc p w hp hS ht⟩) h
theorem enter2 {o : Oper} {fn : FuncId} {ts : Array TypeId} {x y : E → Value} {u v : Operand}
    (ho : o.op = .call { callee := .value (.func fn), args := #[u, v], argTypes := ts }) (hu : ∀ p, (f p).eval u = x p) (hv : ∀ p, (f p).eval v = y p) (hf : Calm.enters P fn = true) (p : E) (w : World) :
    (execOp (f p).eval o).run P w = .ok (.enter fn #[x p, y p]) w := by
  have e : ∀ args, (callFunc fn args).run P w = .ok (.enter fn args) w := fun args => Calm.enters_run hf args w
  rw [← hu p]; rw [← hv p]
  unfold execOp
  simp [ho, go_sem, Act.eval, e]
theorem call2 {o : Oper} {l : List Oper} {r : Value} {fn : FuncId} {ts : Array TypeId} {x y : E → Value} {u v : Operand} (hw : ∀ p, Region.wanted o (yielded ops (f p).tmps) = true)
    (ho : o.op = .call { callee := .value (.func fn), args := #[u, v], argTypes := ts }) (hu : ∀ p, (f p).eval u = x p) (hv : ∀ p, (f p).eval v = y p) (hf : Calm.enters P fn = true) (hT : ∀ w, T r w)
    (hc : ∀ p w, G p → S w → (∀ t, Operand.tmp t ∈ o.op.operands → T ((f p).eval (.tmp t)) w) → Calls P fn #[x p, y p] w fun e w' => e = .returned r ∧ Below w.heap.size w w')
    (h : tameList P ops S T K l (fam G fun p => (f p).put o.dst r)) : tameList P ops S T K (o :: l) (fam G f) :=
  fixed r (fun p hp => .inl ⟨hw p, fun w hS ht => by
    rw [enter2 ho hu hv hf p w]
    exact (hc p w hp hS ht).mono fun e w' he => ⟨r, he.1, rfl, hT w', he.2⟩⟩) h
theorem callNew2 {o : Oper} {l : List Oper} (V : Value → Prop) (hV : ∃ v, V v) {fn : FuncId} {ts : Array TypeId} {x y : E → Value} {u v : Operand} (hw : ∀ p, Region.wanted o (yielded ops (f p).tmps) = true)
    (ho : o.op = .call { callee := .value (.func fn), args := #[u, v], argTypes := ts }) (hu : ∀ p, (f p).eval u = x p) (hv : ∀ p, (f p).eval v = y p) (hf : Calm.enters P fn = true)
    (hc : ∀ p w, G p → S w → (∀ t, Operand.tmp t ∈ o.op.operands → T ((f p).eval (.tmp t)) w) → Calls P fn #[x p, y p] w fun e w' => ∃ u, e = .returned u ∧ V u ∧ T u w' ∧ Below w.heap.size w w')
    (h : tameList P ops S T K l (fam (fun q : E × Value => G q.1 ∧ V q.2) fun q => (f q.1).put o.dst q.2)) : tameList P ops S T K (o :: l) (fam G f) :=
  fresh V hV (fun p hp => .inl ⟨hw p, fun w hS ht => by
    rw [enter2 ho hu hv hf p w]
    exact hc p w hp hS ht⟩) h

end
end Go.Proofs.Ytfiamiflkfdhoaa.Tame
/- Less of package ops, and of the document's answer. -/
namespace Go.Proofs.Ytfiamiflkfdhoaa
open Go.RowKit

/-- What Compare tells. -/
def cmpI (x y : Int) : Int := if x < y then -1 else if y < x then 1 else 0

set_option maxRecDepth 100000 in
theorem compare_any (x y : Int) (w : World) : Calls Try.prog 61 #[.int .i64 x, .int .i64 y] w (Leaves (.int .i64 (cmpI x y)) w) := by
  unfold cmpI
  by_cases h1 : x < y
  · rw [if_pos h1]
    go_enter Try.func61, Try.ntmps61
    go_wp2
    go_ret
    exact ⟨rfl, rfl⟩
  · rw [if_neg h1]
    by_cases h2 : y < x
    · rw [if_pos h2]
      go_enter Try.func61, Try.ntmps61
      go_wp2
      go_ret
      exact ⟨rfl, rfl⟩
    · rw [if_neg h2]
      go_enter Try.func61, Try.ntmps61
      go_wp2
      go_ret
      exact ⟨rfl, rfl⟩

/-- The first of three that is not zero. -/
def or3 (a b c : Int) : Int := if a ≠ 0 then a else if b ≠ 0 then b else c
/-- A slice of three ints. -/
def Three (w : World) (v : Value) (a b c : Int) : Prop := ∃ g, v = .slice (some ⟨g, 0, none⟩) 3 3 ∧ Rw w g 3 #[.int .i64 a, .int .i64 b, .int .i64 c]
theorem Three.later {w w' : World} {v : Value} {a b c : Int} (h : Three w v a b c) (hb : Below w.heap.size w w') : Three w' v a b c := by
  obtain ⟨g, e, h⟩ := h
  exact ⟨g, e, h.later hb⟩

set_option maxRecDepth 100000 in
theorem or_any (v : Value) (a b c : Int) (w : World) (h : Three w v a b c) : Calls Try.prog 60 #[v] w (Leaves (.int .i64 (or3 a b c)) w) := by
  obtain ⟨g, rfl, hr⟩ := h
  have c0 : w.cell? ⟨g, 0, none⟩ = some (.int .i64 a) := hr.cell 0
  have c1 : w.cell? ⟨g, 1, none⟩ = some (.int .i64 b) := hr.cell 1
  have c2 : w.cell? ⟨g, 2, none⟩ = some (.int .i64 c) := hr.cell 2
  clear hr
  obtain ⟨z, HZ⟩ : ∃ z, Hid (or3 a b c = z) := ⟨_, rfl⟩
  rw [HZ.out]
  go_enter Try.func60, Try.ntmps60
  go_wp2
  go_loopw [8] (fun vi wr => ∃ k : Nat, vi = .int .i64 k ∧ k ≤ 3 ∧ wr = w ∧ Hid ((1 ≤ k → a = 0) ∧ (2 ≤ k → b = 0) ∧ (3 ≤ k → c = 0))) (fun vi _ => 3 - (intOf vi).toNat)
  case atStart => exact ⟨0, rfl, by omega, rfl, (show _ ∧ _ from ⟨fun h => by omega, fun h => by omega, fun h => by omega⟩)⟩
  case round =>
    obtain ⟨k, rfl, hk, rfl, HV⟩ := hrel
    have hk3 : k = 0 ∨ k = 1 ∨ k = 2 ∨ k = 3 := by omega
    have hv := HV.out
    rcases hk3 with rfl | rfl | rfl | rfl
    · by_cases hx : a = 0
      · have HV2 : Hid ((1 ≤ 1 → a = 0) ∧ (2 ≤ 1 → b = 0) ∧ (3 ≤ 1 → c = 0)) := (show _ ∧ _ from ⟨fun _ => by omega, fun _ => by omega, fun _ => by omega⟩)
        clear hv HV
        rw [hx] at c0
        have HX : Hid (a = 0) := hx
        clear hx
        go_wp2
        go_roundw
        case rel => exact ⟨1, by simp, by omega, by trivial, HV2⟩
        case measure => simp [intOf]
      · have HR : Hid (z = a) := by
          have e := HZ.out
          unfold or3 at e
          show z = _
          rw [← e]
          rw [if_pos hx]
        clear hv HV HZ
        go_wp2
        go_ret
        exact ⟨by rw [HR.out]; rfl, rfl⟩
    · by_cases hx : b = 0
      · have HV2 : Hid ((1 ≤ 2 → a = 0) ∧ (2 ≤ 2 → b = 0) ∧ (3 ≤ 2 → c = 0)) := (show _ ∧ _ from ⟨fun _ => by omega, fun _ => by omega, fun _ => by omega⟩)
        clear hv HV
        rw [hx] at c1
        have HX : Hid (b = 0) := hx
        clear hx
        go_wp2
        go_roundw
        case rel => exact ⟨2, by simp, by omega, by trivial, HV2⟩
        case measure => simp [intOf]
      · have HR : Hid (z = b) := by
          have e := HZ.out
          unfold or3 at e
          show z = _
          rw [← e]
          rw [if_neg (by omega), if_pos hx]
        clear hv HV HZ
        go_wp2
        go_ret
        exact ⟨by rw [HR.out]; rfl, rfl⟩
    · by_cases hx : c = 0
      · have HV2 : Hid ((1 ≤ 3 → a = 0) ∧ (2 ≤ 3 → b = 0) ∧ (3 ≤ 3 → c = 0)) := (show _ ∧ _ from ⟨fun _ => by omega, fun _ => by omega, fun _ => by omega⟩)
        clear hv HV
        rw [hx] at c2
        have HX : Hid (c = 0) := hx
        clear hx
        go_wp2
        go_roundw
        case rel => exact ⟨3, by simp, by omega, by trivial, HV2⟩
        case measure => simp [intOf]
      · have HR : Hid (z = c) := by
          have e := HZ.out
          unfold or3 at e
          show z = _
          rw [← e]
          rw [if_neg (by omega), if_neg (by omega)]
        clear hv HV HZ
        go_wp2
        go_ret
        exact ⟨by rw [HR.out]; rfl, rfl⟩
    · have HR : Hid (z = 0) := by
        have e := HZ.out
        unfold or3 at e
        show z = _
        rw [← e, if_neg (by omega), if_neg (by omega)]
        omega
      clear hv HV HZ
      go_wp2
      go_ret
      exact ⟨by rw [HR.out]; rfl, rfl⟩
/-- What is ahead. -/
def ls (p s i q u j : Int) : Bool := decide (p < q ∨ (p = q ∧ (s < u ∨ (s = u ∧ i < j))))
theorem ls_or (p s i q u j : Int) : decide (or3 (cmpI p q) (cmpI s u) (cmpI i j) < 0) = ls p s i q u j := by
  unfold ls or3 cmpI
  rw [decide_eq_decide]
  (repeat' split) <;> omega
/-- What is known of a value: it is no slice, or it holds the three. -/
def nosl : Value → Bool
  | .slice .. => false
  | _ => true
def isSl (v : Value) : Prop := nosl v = false
def TD (a b c : Int) (v : Value) (w : World) : Prop := nosl v = true ∨ Three w v a b c
theorem sl_three {w : World} {v : Value} {a b c : Int} (h : isSl v) (ht : TD a b c v w) : Three w v a b c := by
  rcases ht with h' | h'
  · rw [isSl, h'] at h; cases h
  · exact h'
theorem TD.later {a b c : Int} (v : Value) (w w' : World) (h : TD a b c v w) (hb : Below w.heap.size w w') : TD a b c v w' := by
  rcases h with h | h
  · exact Or.inl h
  · exact Or.inr (h.later hb)
theorem three_new (w : World) (a b c : Int) : Three (w.alloc (.cells #[.int .i64 a, .int .i64 b, .int .i64 c] 3)) (.slice (some ⟨w.heap.size, 0, none⟩) 3 3) a b c := ⟨w.heap.size, rfl, rw_new w 3 _⟩
theorem build_three {o : Oper} {ac : Act} {x y z : Operand} {a b c : Int} (ho : o.op = .buildSlice 80 3 #[(0, x), (1, y), (2, z)]) (hx : ac.eval x = .int .i64 a) (hy : ac.eval y = .int .i64 b) (hz : ac.eval z = .int .i64 c) (w : World) :
    (execOp ac.eval o).run Try.prog w = .ok (.value (.slice (some ⟨w.heap.size, 0, none⟩) 3 3)) (w.alloc (.cells #[.int .i64 a, .int .i64 b, .int .i64 c] 3)) := by
  unfold execOp
  generalize ac.eval = ρ at hx hy hz
  simp [ho, hx, hy, hz, go_sem]
theorem known_all {a b c : Int} {ac : Act} (h : ac.tmps.toList.all nosl = true) (w : World) : Tame.Known (TD a b c) ac w := by
  intro t
  refine .inl ?_
  rw [Array.getD_eq_getD_getElem?]
  rcases Nat.lt_or_ge t ac.tmps.size with hlt | hge
  · rw [Array.getElem?_eq_getElem hlt]
    exact List.all_eq_true.1 h _ (by simp)
  · rw [Array.getElem?_eq_none hge]
    rfl

set_option maxHeartbeats 1000000 in
set_option maxRecDepth 100000 in
theorem less_any (p s i q u j : Int) (w : World) : Calls Try.prog 43 #[MV p s i, MV q u j] w (Tells (.bool (ls p s i q u j)) w) := by
  rw [← ls_or]
  have C1 : ∀ w, Calls Try.prog 61 #[.int .i64 p, .int .i64 q] w (Tells (.int .i64 (cmpI p q)) w) := fun w => (compare_any p q w).mono fun e w' ⟨he, hw⟩ => ⟨he, by rw [hw]; exact Below.refl _ _⟩
  have C2 : ∀ w, Calls Try.prog 61 #[.int .i64 s, .int .i64 u] w (Tells (.int .i64 (cmpI s u)) w) := fun w => (compare_any s u w).mono fun e w' ⟨he, hw⟩ => ⟨he, by rw [hw]; exact Below.refl _ _⟩
  have C3 : ∀ w, Calls Try.prog 61 #[.int .i64 i, .int .i64 j] w (Tells (.int .i64 (cmpI i j)) w) := fun w => (compare_any i j w).mono fun e w' ⟨he, hw⟩ => ⟨he, by rw [hw]; exact Below.refl _ _⟩
  generalize cmpI p q = a at C1 ⊢
  generalize cmpI s u = b at C2 ⊢
  generalize cmpI i j = c at C3 ⊢
  have C4 : ∀ v w, Three w v a b c → Calls Try.prog 60 #[v] w (Tells (.int .i64 (or3 a b c)) w) := fun v w h => (or_any v a b c w h).mono fun e w' ⟨he, hw⟩ => ⟨he, by rw [hw]; exact Below.refl _ _⟩
  generalize or3 a b c = r at C4 ⊢
  have R1 := (rw_new w 43 #[.int .i64 p, .int .i64 s, .int .i64 i]).alloc (.cells #[.int .i64 q, .int .i64 u, .int .i64 j] 43)
  have R2 := rw_next (w.alloc (.cells #[.int .i64 p, .int .i64 s, .int .i64 i] 43)) (b := w.heap.size + 1) (by simp) 43 #[.int .i64 q, .int .i64 u, .int .i64 j]
  have hbel : Below w.heap.size w ((w.alloc (.cells #[.int .i64 p, .int .i64 s, .int .i64 i] 43)).alloc (.cells #[.int .i64 q, .int .i64 u, .int .i64 j] 43)) := bel_alloc (bel_alloc (Below.refl _ _) _) _
  go_enter Try.func43, Try.ntmps43
  go_wp2_with fail
  generalize (w.alloc (.cells #[.int .i64 p, .int .i64 s, .int .i64 i] 43)).alloc (.cells #[.int .i64 q, .int .i64 u, .int .i64 j] 43) = w0 at R1 R2 hbel ⊢
  have HS : ∀ w', Rw w' w.heap.size 43 #[.int .i64 p, .int .i64 s, .int .i64 i] ∧ Rw w' (w.heap.size + 1) 43 #[.int .i64 q, .int .i64 u, .int .i64 j] ∧ Below w.heap.size w w' → (w'.cell? ⟨w.heap.size, 0, none⟩ = some (.int .i64 p) ∧ w'.cell? ⟨w.heap.size, 1, none⟩ = some (.int .i64 s) ∧ w'.cell? ⟨w.heap.size, 2, none⟩ = some (.int .i64 i) ∧ w'.cell? ⟨w.heap.size + 1, 0, none⟩ = some (.int .i64 q) ∧ w'.cell? ⟨w.heap.size + 1, 1, none⟩ = some (.int .i64 u) ∧ w'.cell? ⟨w.heap.size + 1, 2, none⟩ = some (.int .i64 j)) := fun w' h => ⟨h.1.cell 0, h.1.cell 1, h.1.cell 2, h.2.1.cell 0, h.2.1.cell 1, h.2.1.cell 2⟩
  refine Tame.region (by kernel_rfl) (by kernel_rfl) (fun w' => w'.cell? ⟨w.heap.size, 0, none⟩ = some (.int .i64 p) ∧ w'.cell? ⟨w.heap.size, 1, none⟩ = some (.int .i64 s) ∧ w'.cell? ⟨w.heap.size, 2, none⟩ = some (.int .i64 i) ∧ w'.cell? ⟨w.heap.size + 1, 0, none⟩ = some (.int .i64 q) ∧ w'.cell? ⟨w.heap.size + 1, 1, none⟩ = some (.int .i64 u) ∧ w'.cell? ⟨w.heap.size + 1, 2, none⟩ = some (.int .i64 j) ∧ Below w.heap.size w w') (TD a b c)
    (fun wa wb h hb => ⟨cell_later hb h.1, cell_later hb h.2.1, cell_later hb h.2.2.1, cell_later hb h.2.2.2.1, cell_later hb h.2.2.2.2.1, cell_later hb h.2.2.2.2.2.1, below_on h.2.2.2.2.2.2 hb⟩) TD.later (fun _ => .inl rfl) ⟨R1.cell 0, R1.cell 1, R1.cell 2, R2.cell 0, R2.cell 1, R2.cell 2, hbel.drew⟩ (known_all (by rfl) _) ?_
  clear R1 R2 hbel HS
  refine Tame.pure (v := ?_) (fun _ => by rfl) ?_ ?_ ?_
  rotate_left
  focus (intro p hp w hSw; go_simp <;> rfl)
  focus (intro w; exact .inl rfl)
  simp only [Act.put, List.setIfInBounds_toArray, List.set_cons_zero, List.set_cons_succ]
  refine Tame.pure (v := ?_) (fun _ => by rfl) ?_ ?_ ?_
  rotate_left
  focus (intro p hp w hSw; go_simp <;> rfl)
  focus (intro w; exact .inl rfl)
  simp only [Act.put, List.setIfInBounds_toArray, List.set_cons_zero, List.set_cons_succ]
  refine Tame.pure (v := ?_) (fun _ => by rfl) ?_ ?_ ?_
  rotate_left
  focus (intro p hp w hSw; go_simp <;> rfl)
  focus (intro w; exact .inl rfl)
  simp only [Act.put, List.setIfInBounds_toArray, List.set_cons_zero, List.set_cons_succ]
  refine Tame.pure (v := ?_) (fun _ => by rfl) ?_ ?_ ?_
  rotate_left
  focus (intro p hp w hSw; go_simp <;> rfl)
  focus (intro w; exact .inl rfl)
  simp only [Act.put, List.setIfInBounds_toArray, List.set_cons_zero, List.set_cons_succ]
  refine Tame.pure (v := ?_) (fun _ => by rfl) ?_ ?_ ?_
  rotate_left
  focus (intro p hp w hSw; go_simp <;> rfl)
  focus (intro w; exact .inl rfl)
  simp only [Act.put, List.setIfInBounds_toArray, List.set_cons_zero, List.set_cons_succ]
  refine Tame.pure (v := ?_) (fun _ => by rfl) ?_ ?_ ?_
  rotate_left
  focus (intro p hp w hSw; go_simp <;> rfl)
  focus (intro w; exact .inl rfl)
  simp only [Act.put, List.setIfInBounds_toArray, List.set_cons_zero, List.set_cons_succ]
  refine Tame.call2 (fun _ => by rfl) rfl (fun _ => rfl) (fun _ => rfl) (by kernel_rfl) (fun _ => .inl rfl) (fun _ w _ _ _ => C1 w) ?_
  simp only [Act.put, List.setIfInBounds_toArray, List.set_cons_zero, List.set_cons_succ]
  refine Tame.pure (v := ?_) (fun _ => by rfl) ?_ ?_ ?_
  rotate_left
  focus (intro p hp w hSw; go_simp <;> rfl)
  focus (intro w; exact .inl rfl)
  simp only [Act.put, List.setIfInBounds_toArray, List.set_cons_zero, List.set_cons_succ]
  refine Tame.pure (v := ?_) (fun _ => by rfl) ?_ ?_ ?_
  rotate_left
  focus (intro p hp w hSw; go_simp <;> rfl)
  focus (intro w; exact .inl rfl)
  simp only [Act.put, List.setIfInBounds_toArray, List.set_cons_zero, List.set_cons_succ]
  refine Tame.pure (v := ?_) (fun _ => by rfl) ?_ ?_ ?_
  rotate_left
  focus (intro p hp w hSw; go_simp <;> rfl)
  focus (intro w; exact .inl rfl)
  simp only [Act.put, List.setIfInBounds_toArray, List.set_cons_zero, List.set_cons_succ]
  refine Tame.pure (v := ?_) (fun _ => by rfl) ?_ ?_ ?_
  rotate_left
  focus (intro p hp w hSw; go_simp <;> rfl)
  focus (intro w; exact .inl rfl)
  simp only [Act.put, List.setIfInBounds_toArray, List.set_cons_zero, List.set_cons_succ]
  refine Tame.pure (v := ?_) (fun _ => by rfl) ?_ ?_ ?_
  rotate_left
  focus (intro p hp w hSw; go_simp <;> rfl)
  focus (intro w; exact .inl rfl)
  simp only [Act.put, List.setIfInBounds_toArray, List.set_cons_zero, List.set_cons_succ]
  refine Tame.pure (v := ?_) (fun _ => by rfl) ?_ ?_ ?_
  rotate_left
  focus (intro p hp w hSw; go_simp <;> rfl)
  focus (intro w; exact .inl rfl)
  simp only [Act.put, List.setIfInBounds_toArray, List.set_cons_zero, List.set_cons_succ]
  refine Tame.call2 (fun _ => by rfl) rfl (fun _ => rfl) (fun _ => rfl) (by kernel_rfl) (fun _ => .inl rfl) (fun _ w _ _ _ => C2 w) ?_
  simp only [Act.put, List.setIfInBounds_toArray, List.set_cons_zero, List.set_cons_succ]
  refine Tame.pure (v := ?_) (fun _ => by rfl) ?_ ?_ ?_
  rotate_left
  focus (intro p hp w hSw; go_simp <;> rfl)
  focus (intro w; exact .inl rfl)
  simp only [Act.put, List.setIfInBounds_toArray, List.set_cons_zero, List.set_cons_succ]
  refine Tame.pure (v := ?_) (fun _ => by rfl) ?_ ?_ ?_
  rotate_left
  focus (intro p hp w hSw; go_simp <;> rfl)
  focus (intro w; exact .inl rfl)
  simp only [Act.put, List.setIfInBounds_toArray, List.set_cons_zero, List.set_cons_succ]
  refine Tame.pure (v := ?_) (fun _ => by rfl) ?_ ?_ ?_
  rotate_left
  focus (intro p hp w hSw; go_simp <;> rfl)
  focus (intro w; exact .inl rfl)
  simp only [Act.put, List.setIfInBounds_toArray, List.set_cons_zero, List.set_cons_succ]
  refine Tame.pure (v := ?_) (fun _ => by rfl) ?_ ?_ ?_
  rotate_left
  focus (intro p hp w hSw; go_simp <;> rfl)
  focus (intro w; exact .inl rfl)
  simp only [Act.put, List.setIfInBounds_toArray, List.set_cons_zero, List.set_cons_succ]
  refine Tame.call2 (fun _ => by rfl) rfl (fun _ => rfl) (fun _ => rfl) (by kernel_rfl) (fun _ => .inl rfl) (fun _ w _ _ _ => C3 w) ?_
  simp only [Act.put, List.setIfInBounds_toArray, List.set_cons_zero, List.set_cons_succ]
  refine Tame.fresh isSl ⟨.slice none 0 0, rfl⟩ (fun p hp => .inl ⟨by rfl, fun w hS ht => ?_⟩) ?_
  focus (rw [build_three rfl rfl rfl rfl w]; exact ⟨rfl, .inr (three_new w _ _ _), (Below.refl _ _).alloc (Nat.le_refl _) _⟩)
  simp only [Act.put, List.setIfInBounds_toArray, List.set_cons_zero, List.set_cons_succ]
  refine Tame.call1 (fun _ => by rfl) rfl (fun _ => rfl) (by kernel_rfl) (fun _ => .inl rfl) (fun p w hp hS ht => C4 _ w (sl_three hp.2 (ht 24 (by simp [Op.operands, Call.operands])))) ?_
  simp only [Act.put, List.setIfInBounds_toArray, List.set_cons_zero, List.set_cons_succ]
  refine Tame.pure (v := ?_) (fun _ => by rfl) ?_ ?_ ?_
  rotate_left
  focus (intro p hp w hSw; go_simp <;> rfl)
  focus (intro w; exact .inl rfl)
  simp only [Act.put, List.setIfInBounds_toArray, List.set_cons_zero, List.set_cons_succ]
  refine Tame.pure (v := ?_) (fun _ => by rfl) ?_ ?_ ?_
  rotate_left
  focus (intro p hp w hSw; go_simp <;> rfl)
  focus (intro w; exact .inl rfl)
  simp only [Act.put, List.setIfInBounds_toArray, List.set_cons_zero, List.set_cons_succ]
  refine Tame.done fun p hp w9 hS9 => ?_
  go_wp2
  go_ret
  exact ⟨rfl, by go_split_ands; assumption⟩

end Go.Proofs.Ytfiamiflkfdhoaa
