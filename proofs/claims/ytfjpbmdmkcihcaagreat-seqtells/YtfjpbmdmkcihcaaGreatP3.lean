import Derived.Test.YtfjpbmdmkcihcaaGreatP1
import Derived.Test.YtfjpbmdmkcihcaaGreatP2
/- A region that draws its order, where what an operation comes to may hang on the order (where new memory lies), but not what is known of it: V, and T of it and the memory, which stays. It may be walked in the text's order, once, for all such values at a time. Nothing of one program. -/
namespace Go.Proofs.YtfjpbmdmkcihcaaGreat.Tame
open Go.RowKit

section
variable {P : Program} {ops : Array Oper} {Q : Exit → Act → World → Prop} {md : Region.Mode} {S : World → Prop} {T : Value → World → Prop} {K : Act → Prop}

/-- What is run comes to a value of V, by itself or by a call, and leaves the memory that was there alone. -/
def Goes (P : Program) (S : World → Prop) (T : Value → World → Prop) (V : Value → Prop) (o : Oper) (a : Act) : Prop :=
  ∀ w, S w → (∀ t, Operand.tmp t ∈ o.op.operands → T (a.eval (.tmp t)) w) → match (execOp a.eval o).run P w with
  | .ok (.value u) w' => V u ∧ T u w' ∧ Below w.heap.size w w'
  | .ok (.enter f args) w' => Calls P f args w' fun e w'' => ∃ u, e = .returned u ∧ V u ∧ T u w'' ∧ Below w.heap.size w w''
  | _ => False

def Tame (P : Program) (ops : Array Oper) (S : World → Prop) (T : Value → World → Prop) (o : Oper) (V : Value → Prop) (a : Act) : Prop :=
  (Region.wanted o (yielded ops a.tmps) = true ∧ Goes P S T V o a) ∨ (Region.wanted o (yielded ops a.tmps) = false ∧ V undef)

theorem Tame.of_put {o : Oper} {V : Value → Prop} {a : Act} (hs : ∀ cs b, o.op ≠ .select cs b) (dst : Option Tmp) (v : Value) (h : ∀ d, dst = some d → d ∉ o.looksAt ops) :
    Tame P ops S T o V (a.put dst v) ↔ Tame P ops S T o V a := by
  have hx : ∀ t, Operand.tmp t ∈ o.op.operands → (a.put dst v).eval (.tmp t) = a.eval (.tmp t) := fun t ht => Act.eval_put fun d hd hxd => h d hd (by
    cases hxd
    exact List.mem_append_left _ (List.mem_filterMap.2 ⟨.tmp t, by simpa using ht, rfl⟩))
  unfold Tame Goes; rw [execOp_put o hs a dst v h, wanted_put o a dst v h]
  have e : ∀ w, (∀ t, Operand.tmp t ∈ o.op.operands → T ((a.put dst v).eval (.tmp t)) w) ↔ (∀ t, Operand.tmp t ∈ o.op.operands → T (a.eval (.tmp t)) w) := fun w =>
    ⟨fun H t ht => by have := H t ht; rwa [hx t ht] at this, fun H t ht => by rw [hx t ht]; exact H t ht⟩
  simp only [e]

/-- All values at hand are known. -/
def Known (T : Value → World → Prop) (a : Act) (w : World) : Prop := ∀ t, T (a.tmps.getD t undef) w

theorem Known.put {a : Act} {w w' : World} (hT : ∀ v w w', T v w → Below w.heap.size w w' → T v w') (h : Known T a w) (hb : Below w.heap.size w w') (dst : Option Tmp) {u : Value} (hu : T u w') : Known T (a.put dst u) w' := by
  intro t
  cases dst with
  | none => exact hT _ _ _ (h t) hb
  | some d =>
    by_cases hd : d = t
    · subst hd
      simp only [Act.put, Array.getD_eq_getD_getElem?]
      rcases Nat.lt_or_ge d a.tmps.size with hlt | hge
      · simp [hlt]; exact hu
      · have := hT _ _ _ (h d) hb
        simpa [Array.getD_eq_getD_getElem?, hge] using this
    · simp only [Act.put, Array.getD_eq_getD_getElem?, Array.getElem?_setIfInBounds_ne hd]
      have := hT _ _ _ (h t) hb
      simpa [Array.getD_eq_getD_getElem?] using this

theorem Tame.wpOp {i : Nat} {o : Oper} {V : Value → Prop} {a : Act} (hi : ops[i]? = some o) (hy : Tame P ops S T o V a) (hS : Calm.Stays S) (hT : ∀ v w w', T v w → Below w.heap.size w w' → T v w') (h0 : ∀ w, T undef w)
    {K : Act → World → Prop} {w : World} (hw : S w) (hk : Known T a w) (h : ∀ v w', V v → S w' → Known T (a.put o.dst v) w' → K (a.put o.dst v) w') : Go.wpOp P ops Q i K a w := by
  unfold Go.wpOp; simp only [hi]
  rcases hy with ⟨hwd, hv⟩ | ⟨hwd, hv⟩
  · simp only [hwd, if_true, Oper.wp]
    refine .inl ?_; have hv' := hv w hw (fun t _ => hk t); generalize (execOp a.eval o).run P w = r at hv'
    cases r with
    | ok n w' =>
      cases n <;> simp only at hv' ⊢
      case value u => exact h _ _ hv'.1 (hS _ _ hw hv'.2.2) (hk.put hT hv'.2.2 _ hv'.2.1)
      case enter f args =>
        refine Calls.mono hv' fun e w'' he => ?_; obtain ⟨u, rfl, h1, h2, h3⟩ := he; exact h _ _ h1 (hS _ _ hw h3) (hk.put hT h3 _ h2)
    | halt x w' => exact hv'.elim
  · simp only [hwd, Bool.false_eq_true, if_false]
    exact h _ _ hv hw (hk.put hT (Below.refl _ _) _ (h0 w))

/-- The acts of A, with whatever value of V behind the operation. -/
def putS (A : Act → Prop) (o : Oper) (V : Value → Prop) : Act → Prop := fun a' => ∃ a v, A a ∧ V v ∧ a' = a.put o.dst v

theorem putS_comm {A : Act → Prop} {x y : Oper} {V W : Value → Prop} (h : ∀ d, x.dst = some d → y.dst ≠ some d) : putS (putS A x V) y W = putS (putS A y W) x V := by
  funext a'
  apply propext
  constructor
  · rintro ⟨_, u, ⟨a, v, ha, hv, rfl⟩, hu, rfl⟩
    exact ⟨_, v, ⟨a, u, ha, hu, rfl⟩, hv, Act.put_comm a v u h⟩
  · rintro ⟨_, v, ⟨a, u, ha, hu, rfl⟩, hv, rfl⟩
    exact ⟨_, u, ⟨a, v, ha, hv, rfl⟩, hu, (Act.put_comm a v u h).symm⟩

def anyTame (P : Program) (md : Region.Mode) (ops : Array Oper) (S : World → Prop) (T : Value → World → Prop) (K : Act → Prop) : Nat → Array Bool → (Act → Prop) → Prop
  | 0, listed, A => Region.ready md ops listed = [] ∧ ∀ a, A a → K a
  | fuel + 1, listed, A =>
    (Region.ready md ops listed = [] → ∀ a, A a → K a) ∧
    ∀ i ∈ Region.ready md ops listed, ∃ o V, ops[i]? = some o ∧ (∃ v, V v) ∧ (∀ a, A a → Tame P ops S T o V a) ∧ anyTame P md ops S T K fuel (listed.setIfInBounds i true) (putS A o V)

theorem wpAny_of_tame (hS : Calm.Stays S) (hT : ∀ v w w', T v w → Below w.heap.size w w' → T v w') (h0 : ∀ w, T undef w) (hK : ∀ a w, K a → S w → Known T a w → Q .normal a w) :
    ∀ (fuel : Nat) (listed : Array Bool) (A : Act → Prop) (a : Act) (w : World), A a → S w → Known T a w → anyTame P md ops S T K fuel listed A → wpAny P md ops Q fuel listed a w
  | 0, _, A, a, w, hA, hw, hk, h => ⟨h.1, hK a w (h.2 a hA) hw hk⟩
  | fuel + 1, _, A, a, w, hA, hw, hk, h => ⟨fun hr => hK a w (h.1 hr a hA) hw hk, fun i hi => by
      obtain ⟨o, V, ho, _, hc, hr⟩ := h.2 i hi
      exact (hc a hA).wpOp ho hS hT h0 hw hk fun v w' hv hw' hk' => wpAny_of_tame hS hT h0 hK fuel _ _ _ w' ⟨a, v, hA, hv, rfl⟩ hw' hk' hr⟩

theorem anyTame_first {i : Nat} {oi : Oper} {V : Value → Prop} (hi : ops[i]? = some oi) (hV : ∃ v, V v) (hsel : ∀ (j : Nat) (o : Oper) cs b, ops[j]? = some o → o.op ≠ .select cs b) :
    ∀ (fuel : Nat) (listed : Array Bool) (A : Act → Prop),
      (∀ j oj, ops[j]? = some oj → j ≠ i → listed.getD j true = false → (∀ e ∈ oj.after, Region.binds md e = true → e.on ≠ i) → oi.apart ops oj = true) →
      i ∈ Region.ready md ops listed → (∀ a, A a → Tame P ops S T oi V a) →
      anyTame P md ops S T K fuel (listed.setIfInBounds i true) (putS A oi V) → anyTame P md ops S T K (fuel + 1) listed A := by
  intro fuel
  induction fuel with
  | zero =>
    intro listed A _ hr hy H; refine ⟨fun h => (by rw [h] at hr; cases hr), fun j hj => ?_⟩
    by_cases hji : j = i
    · subst hji; exact ⟨oi, V, hi, hV, hy, H⟩
    · have := ready_mono hj hji
      rw [H.1] at this
      cases this
  | succ fuel ih =>
    intro listed A hfree hr hy H; refine ⟨fun h => (by rw [h] at hr; cases hr), fun j hj => ?_⟩
    by_cases hji : j = i
    · subst hji; exact ⟨oi, V, hi, hV, hy, H⟩
    · obtain ⟨oj, W, hoj, hW, hcj, hrest⟩ := H.2 j (ready_mono hj hji)
      obtain ⟨hjun, oj', hoj', hall⟩ := mem_ready.1 hj
      obtain rfl : oj = oj' := by rw [hoj] at hoj'; exact Option.some.inj hoj'
      have hnot : ∀ e ∈ oj.after, Region.binds md e = true → e.on ≠ i := fun e he hb heq => by
        have h1 := hall e he hb; have h0 := (mem_ready.1 hr).1; rw [heq] at h1
        rcases Nat.lt_or_ge i listed.size with h' | h'
        · simp [h'] at h0 h1; rw [h0] at h1; cases h1
        · simp [Array.getElem?_eq_none h'] at h1
      obtain ⟨h1, h2, h3⟩ := Oper.apart_spec (hfree j oj hoj hji hjun hnot)
      have hfree' : ∀ k ok, ops[k]? = some ok → k ≠ i → (listed.setIfInBounds j true).getD k true = false →
          (∀ e ∈ ok.after, Region.binds md e = true → e.on ≠ i) → oi.apart ops ok = true := fun k ok hk hki hun hno => by
        refine hfree k ok hk hki ?_ hno
        by_cases hjk : j = k
        · subst hjk; exact hjun
        · rw [getD_set_ne true hjk] at hun; exact hun
      obtain ⟨v0, hv0⟩ := hV; refine ⟨oj, W, hoj, hW, fun a ha => (Tame.of_put (fun cs b => hsel j oj cs b hoj) oi.dst v0 h1).1 (hcj _ ⟨a, v0, ha, hv0, rfl⟩), ?_⟩; refine ih (listed.setIfInBounds j true) (putS A oj W) hfree' (ready_mono hr (Ne.symm hji)) ?_ ?_
      · rintro _ ⟨a, u, ha, _, rfl⟩
        exact (Tame.of_put (fun cs b => hsel i oi cs b hi) oj.dst u h3).2 (hy a ha)
      · rw [Array.setIfInBounds_comm _ _ hji, ← putS_comm h2]
        exact hrest

/-- In the text's order. -/
def tameList (P : Program) (ops : Array Oper) (S : World → Prop) (T : Value → World → Prop) (K : Act → Prop) : List Oper → (Act → Prop) → Prop
  | [], A => ∀ a, A a → K a
  | o :: l, A => ∃ V, (∃ v, V v) ∧ (∀ a, A a → Tame P ops S T o V a) ∧ tameList P ops S T K l (putS A o V)

theorem anyTame_lex (hs : Region.noSelect ops = true) : ∀ (l : List Oper) (k : Nat) (listed : Array Bool) (A : Act → Prop), (∀ j, l[j]? = ops[k + j]?) →
    Region.lexFrom md ops l.length k listed = true → tameList P ops S T K l A → anyTame P md ops S T K l.length listed A
  | [], _, _, _, _, hB, h => ⟨by simpa [Region.lexFrom] using hB, h⟩
  | o :: l, k, listed, A, hl, hB, h => by
    have h0 : ops[k]? = some o := by simpa using (hl 0).symm
    simp only [List.length_cons, Region.lexFrom, Bool.and_eq_true] at hB; obtain ⟨⟨hr, hf⟩, hB'⟩ := hB; obtain ⟨V, hV, hy, hK⟩ := h
    exact anyTame_first h0 hV (Region.noSelect_spec hs) l.length listed A (Region.free_spec h0 hf) (by simpa using hr) hy
      (anyTame_lex hs l (k + 1) _ _ (fun j => by have := hl (j + 1); simpa [Nat.add_assoc, Nat.add_comm 1 j] using this) hB' hK)

/-- The acts f p, p of G. -/
def fam {E : Type} (G : E → Prop) (f : E → Act) : Act → Prop := fun a => ∃ p, G p ∧ a = f p

theorem region {id : Nat} {a : Act} {w : World} {l : List Oper} (hm : P.follows .mixedOrders = true) (hB : Region.lexB .any l.toArray = true) (S : World → Prop) (T : Value → World → Prop)
    (hS : Calm.Stays S) (hT : ∀ v w w', T v w → Below w.heap.size w w' → T v w') (h0 : ∀ w, T undef w) (hw : S w.drew) (hk : Known T a w.drew)
    (h : tameList P l.toArray S T (fun a' => ∀ w', S w' → Q .normal a' w') l (fam (fun _ : Unit => True) fun _ => a)) : (Code.region id l.toArray true).wp P Q a w := by
  simp only [Region.lexB, Bool.and_eq_true] at hB
  refine wp_region_any hm (wpAny_of_tame (K := fun a' => ∀ w', S w' → Q .normal a' w') hS hT h0 (fun a w h hS _ => h w hS) _ _ (fam (fun _ : Unit => True) fun _ => a) _ _ ⟨(), trivial, rfl⟩ hw hk ?_)
  have := anyTame_lex (md := .any) hB.1 l 0 (Array.replicate l.toArray.size false) _ (by simp) (by simpa using hB.2) h
  simpa using this

/-! The moves, on acts f p. -/
variable {E : Type} {G : E → Prop} {f : E → Act}

theorem tameList_sub : ∀ (l : List Oper) {A B : Act → Prop}, (∀ a, A a → B a) → tameList P ops S T K l B → tameList P ops S T K l A
  | [], _, _, h, hB => fun a ha => hB a (h a ha)
  | _ :: l, _, _, h, ⟨V, hV, hy, hr⟩ => ⟨V, hV, fun a ha => hy a (h a ha), tameList_sub l (fun _ ⟨a, v, ha, hv, e⟩ => ⟨a, v, h a ha, hv, e⟩) hr⟩

theorem fixed {o : Oper} {l : List Oper} (v : Value) (hy : ∀ p, G p → Tame P ops S T o (· = v) (f p)) (h : tameList P ops S T K l (fam G fun p => (f p).put o.dst v)) : tameList P ops S T K (o :: l) (fam G f) :=
  ⟨(· = v), ⟨v, rfl⟩, fun _ ⟨p, hp, e⟩ => e ▸ hy p hp, tameList_sub l (fun _ ⟨_, _, ⟨p, hp, e⟩, hv, e'⟩ => ⟨p, hp, by rw [e', e, hv]⟩) h⟩
theorem fresh {o : Oper} {l : List Oper} (V : Value → Prop) (hV : ∃ v, V v) (hy : ∀ p, G p → Tame P ops S T o V (f p)) (h : tameList P ops S T K l (fam (fun q : E × Value => G q.1 ∧ V q.2) fun q => (f q.1).put o.dst q.2)) : tameList P ops S T K (o :: l) (fam G f) :=
  ⟨V, hV, fun _ ⟨p, hp, e⟩ => e ▸ hy p hp, tameList_sub l (fun _ ⟨_, v, ⟨p, hp, e⟩, hv, e'⟩ => ⟨(p, v), ⟨hp, hv⟩, by rw [e', e]⟩) h⟩
theorem done (h : ∀ p, G p → K (f p)) : tameList P ops S T K [] (fam G f) := fun _ ⟨p, hp, e⟩ => e ▸ h p hp

theorem skip {o : Oper} {l : List Oper} (hw : ∀ p, Region.wanted o (yielded ops (f p).tmps) = false) (h : tameList P ops S T K l (fam G fun p => (f p).put o.dst undef)) : tameList P ops S T K (o :: l) (fam G f) :=
  fixed undef (fun p _ => .inr ⟨hw p, rfl⟩) h
/-- An operation that comes to one value, and leaves the world as it is. -/
theorem pure {o : Oper} {l : List Oper} {v : Value} (hw : ∀ p, Region.wanted o (yielded ops (f p).tmps) = true) (hv : ∀ p, G p → ∀ w, S w → (execOp (f p).eval o).run P w = .ok (.value v) w) (hT : ∀ w, T v w)
    (h : tameList P ops S T K l (fam G fun p => (f p).put o.dst v)) : tameList P ops S T K (o :: l) (fam G f) :=
  fixed v (fun p hp => .inl ⟨hw p, fun w hS _ => by rw [hv p hp w hS]; exact ⟨rfl, hT w, Below.refl _ _⟩⟩) h
/-- The same, where what it comes to hangs on p (a copy of a value that is not one). -/
theorem copy {o : Oper} {l : List Oper} {g : E → Value} (V : Value → Prop) (hV : ∃ v, V v) (hw : ∀ p, Region.wanted o (yielded ops (f p).tmps) = true) (hg : ∀ p, G p → V (g p))
    (hv : ∀ p, G p → ∀ w, S w → (∀ t, Operand.tmp t ∈ o.op.operands → T ((f p).eval (.tmp t)) w) → (execOp (f p).eval o).run P w = .ok (.value (g p)) w ∧ T (g p) w)
    (h : tameList P ops S T K l (fam (fun q : E × Value => G q.1 ∧ V q.2) fun q => (f q.1).put o.dst q.2)) : tameList P ops S T K (o :: l) (fam G f) :=
  fresh V hV (fun p hp => .inl ⟨hw p, fun w hS ht => by rw [(hv p hp w hS ht).1]; exact ⟨hg p hp, (hv p hp w hS ht).2, Below.refl _ _⟩⟩) h

theorem enter0 {o : Oper} {fn : FuncId} {ts : Array TypeId} 
    (ho : o.op = .call { callee := .value (.func fn), args := #[], argTypes := ts })  (hf : Calm.enters P fn = true) (p : E) (w : World) :
    (execOp (f p).eval o).run P w = .ok (.enter fn #[]) w := by
  have e : ∀ args, (callFunc fn args).run P w = .ok (.enter fn args) w := fun args => Calm.enters_run hf args w
  unfold execOp
  simp [ho, go_sem, Act.eval, e]
theorem call0 {o : Oper} {l : List Oper} {r : Value} {fn : FuncId} {ts : Array TypeId}  (hw : ∀ p, Region.wanted o (yielded ops (f p).tmps) = true)
    (ho : o.op = .call { callee := .value (.func fn), args := #[], argTypes := ts })  (hf : Calm.enters P fn = true) (hT : ∀ w, T r w)
    (hc : ∀ p w, G p → S w → (∀ t, Operand.tmp t ∈ o.op.operands → T ((f p).eval (.tmp t)) w) → Calls P fn #[] w fun e w' => e = .returned r ∧ Below w.heap.size w w')
    (h : tameList P ops S T K l (fam G fun p => (f p).put o.dst r)) : tameList P ops S T K (o :: l) (fam G f) :=
  fixed r (fun p hp => .inl ⟨hw p, fun w hS ht => by
    rw [enter0 ho  hf p w]
    exact (hc p w hp hS ht).mono fun e w' he => ⟨r, he.1, rfl, hT w', he.2⟩⟩) h
theorem callNew0 {o : Oper} {l : List Oper} (V : Value → Prop) (hV : ∃ v, V v) {fn : FuncId} {ts : Array TypeId}  (hw : ∀ p, Region.wanted o (yielded ops (f p).tmps) = true)
    (ho : o.op = .call { callee := .value (.func fn), args := #[], argTypes := ts })  (hf : Calm.enters P fn = true)
    (hc : ∀ p w, G p → S w → (∀ t, Operand.tmp t ∈ o.op.operands → T ((f p).eval (.tmp t)) w) → Calls P fn #[] w fun e w' => ∃ u, e = .returned u ∧ V u ∧ T u w' ∧ Below w.heap.size w w')
    (h : tameList P ops S T K l (fam (fun q : E × Value => G q.1 ∧ V q.2) fun q => (f q.1).put o.dst q.2)) : tameList P ops S T K (o :: l) (fam G f) :=
  fresh V hV (fun p hp => .inl ⟨hw p, fun w hS ht => by
    rw [enter0 ho  hf p w]
    exact hc p w hp hS ht⟩) h
theorem enter1 {o : Oper} {fn : FuncId} {ts : Array TypeId} {x : E → Value} {u : Operand}
    (ho : o.op = .call { callee := .value (.func fn), args := #[u], argTypes := ts }) (hu : ∀ p, (f p).eval u = x p) (hf : Calm.enters P fn = true) (p : E) (w : World) :
    (execOp (f p).eval o).run P w = .ok (.enter fn #[x p]) w := by
  have e : ∀ args, (callFunc fn args).run P w = .ok (.enter fn args) w := fun args => Calm.enters_run hf args w
  rw [← hu p]; unfold execOp
  simp [ho, go_sem, Act.eval, e]
theorem call1 {o : Oper} {l : List Oper} {r : Value} {fn : FuncId} {ts : Array TypeId} {x : E → Value} {u : Operand} (hw : ∀ p, Region.wanted o (yielded ops (f p).tmps) = true)
    (ho : o.op = .call { callee := .value (.func fn), args := #[u], argTypes := ts }) (hu : ∀ p, (f p).eval u = x p) (hf : Calm.enters P fn = true) (hT : ∀ w, T r w)
    (hc : ∀ p w, G p → S w → (∀ t, Operand.tmp t ∈ o.op.operands → T ((f p).eval (.tmp t)) w) → Calls P fn #[x p] w fun e w' => e = .returned r ∧ Below w.heap.size w w')
    (h : tameList P ops S T K l (fam G fun p => (f p).put o.dst r)) : tameList P ops S T K (o :: l) (fam G f) :=
  fixed r (fun p hp => .inl ⟨hw p, fun w hS ht => by
    rw [enter1 ho hu hf p w]
    exact (hc p w hp hS ht).mono fun e w' he => ⟨r, he.1, rfl, hT w', he.2⟩⟩) h
theorem callNew1 {o : Oper} {l : List Oper} (V : Value → Prop) (hV : ∃ v, V v) {fn : FuncId} {ts : Array TypeId} {x : E → Value} {u : Operand} (hw : ∀ p, Region.wanted o (yielded ops (f p).tmps) = true)
    (ho : o.op = .call { callee := .value (.func fn), args := #[u], argTypes := ts }) (hu : ∀ p, (f p).eval u = x p) (hf : Calm.enters P fn = true)
    (hc : ∀ p w, G p → S w → (∀ t, Operand.tmp t ∈ o.op.operands → T ((f p).eval (.tmp t)) w) → Calls P fn #[x p] w fun e w' => ∃ u, e = .returned u ∧ V u ∧ T u w' ∧ Below w.heap.size w w')
    (h : tameList P ops S T K l (fam (fun q : E × Value => G q.1 ∧ V q.2) fun q => (f q.1).put o.dst q.2)) : tameList P ops S T K (o :: l) (fam G f) :=
  fresh V hV (fun p hp => .inl ⟨hw p, fun w hS ht => by
    rw [enter1 ho hu hf p w]
    exact hc p w hp hS ht⟩) h
theorem enter2 {o : Oper} {fn : FuncId} {ts : Array TypeId} {x y : E → Value} {u v : Operand}
    (ho : o.op = .call { callee := .value (.func fn), args := #[u, v], argTypes := ts }) (hu : ∀ p, (f p).eval u = x p) (hv : ∀ p, (f p).eval v = y p) (hf : Calm.enters P fn = true) (p : E) (w : World) :
    (execOp (f p).eval o).run P w = .ok (.enter fn #[x p, y p]) w := by
  have e : ∀ args, (callFunc fn args).run P w = .ok (.enter fn args) w := fun args => Calm.enters_run hf args w
  rw [← hu p]; rw [← hv p]; unfold execOp
  simp [ho, go_sem, Act.eval, e]
theorem call2 {o : Oper} {l : List Oper} {r : Value} {fn : FuncId} {ts : Array TypeId} {x y : E → Value} {u v : Operand} (hw : ∀ p, Region.wanted o (yielded ops (f p).tmps) = true)
    (ho : o.op = .call { callee := .value (.func fn), args := #[u, v], argTypes := ts }) (hu : ∀ p, (f p).eval u = x p) (hv : ∀ p, (f p).eval v = y p) (hf : Calm.enters P fn = true) (hT : ∀ w, T r w)
    (hc : ∀ p w, G p → S w → (∀ t, Operand.tmp t ∈ o.op.operands → T ((f p).eval (.tmp t)) w) → Calls P fn #[x p, y p] w fun e w' => e = .returned r ∧ Below w.heap.size w w')
    (h : tameList P ops S T K l (fam G fun p => (f p).put o.dst r)) : tameList P ops S T K (o :: l) (fam G f) :=
  fixed r (fun p hp => .inl ⟨hw p, fun w hS ht => by
    rw [enter2 ho hu hv hf p w]
    exact (hc p w hp hS ht).mono fun e w' he => ⟨r, he.1, rfl, hT w', he.2⟩⟩) h
theorem callNew2 {o : Oper} {l : List Oper} (V : Value → Prop) (hV : ∃ v, V v) {fn : FuncId} {ts : Array TypeId} {x y : E → Value} {u v : Operand} (hw : ∀ p, Region.wanted o (yielded ops (f p).tmps) = true)
    (ho : o.op = .call { callee := .value (.func fn), args := #[u, v], argTypes := ts }) (hu : ∀ p, (f p).eval u = x p) (hv : ∀ p, (f p).eval v = y p) (hf : Calm.enters P fn = true)
    (hc : ∀ p w, G p → S w → (∀ t, Operand.tmp t ∈ o.op.operands → T ((f p).eval (.tmp t)) w) → Calls P fn #[x p, y p] w fun e w' => ∃ u, e = .returned u ∧ V u ∧ T u w' ∧ Below w.heap.size w w')
    (h : tameList P ops S T K l (fam (fun q : E × Value => G q.1 ∧ V q.2) fun q => (f q.1).put o.dst q.2)) : tameList P ops S T K (o :: l) (fam G f) :=
  fresh V hV (fun p hp => .inl ⟨hw p, fun w hS ht => by
    rw [enter2 ho hu hv hf p w]
    exact hc p w hp hS ht⟩) h

end
end Go.Proofs.YtfjpbmdmkcihcaaGreat.Tame
/- Less of package ops, and of the document's answer. -/
namespace Go.Proofs.YtfjpbmdmkcihcaaGreat
open Go.RowKit

/-- What Compare tells. -/
def cmpI (x y : Int) : Int := if x < y then -1 else if y < x then 1 else 0

set_option maxRecDepth 100000 in
theorem compare_any (x y : Int) (w : World) : Calls Tryz.prog 73 #[.int .i64 x, .int .i64 y] w (Leaves (.int .i64 (cmpI x y)) w) := by
  unfold cmpI
  by_cases h1 : x < y
  · rw [if_pos h1]
    go_enter Tryz.func73, Tryz.ntmps73
    go_wp2
    go_ret; exact ⟨rfl, rfl⟩
  · rw [if_neg h1]
    by_cases h2 : y < x
    · rw [if_pos h2]
      go_enter Tryz.func73, Tryz.ntmps73
      go_wp2
      go_ret; exact ⟨rfl, rfl⟩
    · rw [if_neg h2]
      go_enter Tryz.func73, Tryz.ntmps73
      go_wp2
      go_ret; exact ⟨rfl, rfl⟩

/-- The first of three that is not zero. -/
def or3 (a b c : Int) : Int := if a ≠ 0 then a else if b ≠ 0 then b else c
/-- A slice of three ints. -/
def Three (w : World) (v : Value) (a b c : Int) : Prop := ∃ g, v = .slice (some ⟨g, 0, none⟩) 3 3 ∧ Rw w g 3 #[.int .i64 a, .int .i64 b, .int .i64 c]
theorem Three.later {w w' : World} {v : Value} {a b c : Int} (h : Three w v a b c) (hb : Below w.heap.size w w') : Three w' v a b c := by
  obtain ⟨g, e, h⟩ := h; exact ⟨g, e, h.later hb⟩

set_option maxRecDepth 100000 in
theorem or_any (v : Value) (a b c : Int) (w : World) (h : Three w v a b c) : Calls Tryz.prog 72 #[v] w (Leaves (.int .i64 (or3 a b c)) w) := by
  obtain ⟨g, rfl, hr⟩ := h; have c0 : w.cell? ⟨g, 0, none⟩ = some (.int .i64 a) := hr.cell 0; have c1 : w.cell? ⟨g, 1, none⟩ = some (.int .i64 b) := hr.cell 1; have c2 : w.cell? ⟨g, 2, none⟩ = some (.int .i64 c) := hr.cell 2; clear hr; obtain ⟨z, HZ⟩ : ∃ z, Hid (or3 a b c = z) := ⟨_, rfl⟩; rw [HZ.out]
  go_enter Tryz.func72, Tryz.ntmps72
  go_wp2
  go_loopw [8] (fun vi wr => ∃ k : Nat, vi = .int .i64 k ∧ k ≤ 3 ∧ wr = w ∧ Hid ((1 ≤ k → a = 0) ∧ (2 ≤ k → b = 0) ∧ (3 ≤ k → c = 0))) (fun vi _ => 3 - (intOf vi).toNat)
  case atStart => exact ⟨0, rfl, by omega, rfl, (show _ ∧ _ from ⟨fun h => by omega, fun h => by omega, fun h => by omega⟩)⟩
  case round =>
    obtain ⟨k, rfl, hk, rfl, HV⟩ := hrel
    have hk3 : k = 0 ∨ k = 1 ∨ k = 2 ∨ k = 3 := by omega
    have hv := HV.out
    rcases hk3 with rfl | rfl | rfl | rfl
    · by_cases hx : a = 0
      · have HV2 : Hid ((1 ≤ 1 → a = 0) ∧ (2 ≤ 1 → b = 0) ∧ (3 ≤ 1 → c = 0)) := (show _ ∧ _ from ⟨fun _ => by omega, fun _ => by omega, fun _ => by omega⟩)
        clear hv HV; rw [hx] at c0; have HX : Hid (a = 0) := hx; clear hx
        go_wp2
        go_roundw
        case rel => exact ⟨1, by simp, by omega, by trivial, HV2⟩
        case measure => simp [intOf]
      · have HR : Hid (z = a) := by
          have e := HZ.out; unfold or3 at e
          show z = _
          rw [← e]; rw [if_pos hx]
        clear hv HV HZ
        go_wp2
        go_ret; exact ⟨by rw [HR.out]; rfl, rfl⟩
    · by_cases hx : b = 0
      · have HV2 : Hid ((1 ≤ 2 → a = 0) ∧ (2 ≤ 2 → b = 0) ∧ (3 ≤ 2 → c = 0)) := (show _ ∧ _ from ⟨fun _ => by omega, fun _ => by omega, fun _ => by omega⟩)
        clear hv HV; rw [hx] at c1; have HX : Hid (b = 0) := hx; clear hx
        go_wp2
        go_roundw
        case rel => exact ⟨2, by simp, by omega, by trivial, HV2⟩
        case measure => simp [intOf]
      · have HR : Hid (z = b) := by
          have e := HZ.out; unfold or3 at e
          show z = _
          rw [← e]; rw [if_neg (by omega), if_pos hx]
        clear hv HV HZ
        go_wp2
        go_ret; exact ⟨by rw [HR.out]; rfl, rfl⟩
    · by_cases hx : c = 0
      · have HV2 : Hid ((1 ≤ 3 → a = 0) ∧ (2 ≤ 3 → b = 0) ∧ (3 ≤ 3 → c = 0)) := (show _ ∧ _ from ⟨fun _ => by omega, fun _ => by omega, fun _ => by omega⟩)
        clear hv HV; rw [hx] at c2; have HX : Hid (c = 0) := hx; clear hx
        go_wp2
        go_roundw
        case rel => exact ⟨3, by simp, by omega, by trivial, HV2⟩
        case measure => simp [intOf]
      · have HR : Hid (z = c) := by
          have e := HZ.out; unfold or3 at e
          show z = _
          rw [← e]; rw [if_neg (by omega), if_neg (by omega)]
        clear hv HV HZ
        go_wp2
        go_ret; exact ⟨by rw [HR.out]; rfl, rfl⟩
    · have HR : Hid (z = 0) := by
        have e := HZ.out; unfold or3 at e
        show z = _
        rw [← e, if_neg (by omega), if_neg (by omega)]
        omega
      clear hv HV HZ
      go_wp2
      go_ret; exact ⟨by rw [HR.out]; rfl, rfl⟩
/-- What is ahead. -/
def ls (p s i q u j : Int) : Bool := decide (p < q ∨ (p = q ∧ (s < u ∨ (s = u ∧ i < j))))
theorem ls_or (p s i q u j : Int) : decide (or3 (cmpI p q) (cmpI s u) (cmpI i j) < 0) = ls p s i q u j := by
  unfold ls or3 cmpI; rw [decide_eq_decide]
  (repeat' split) <;> omega
/-- What is known of a value: it is no slice, or it holds the three. -/
def nosl : Value → Bool
  | .slice .. => false
  | _ => true
def isSl (v : Value) : Prop := nosl v = false
def TD (a b c : Int) (v : Value) (w : World) : Prop := nosl v = true ∨ Three w v a b c
theorem sl_three {w : World} {v : Value} {a b c : Int} (h : isSl v) (ht : TD a b c v w) : Three w v a b c := by
  rcases ht with h' | h'
  · rw [isSl, h'] at h; cases h
  · exact h'
theorem TD.later {a b c : Int} (v : Value) (w w' : World) (h : TD a b c v w) (hb : Below w.heap.size w w') : TD a b c v w' := by
  rcases h with h | h
  · exact Or.inl h
  · exact Or.inr (h.later hb)
theorem three_new (w : World) (a b c : Int) : Three (w.alloc (.cells #[.int .i64 a, .int .i64 b, .int .i64 c] 3)) (.slice (some ⟨w.heap.size, 0, none⟩) 3 3) a b c := ⟨w.heap.size, rfl, rw_new w 3 _⟩
theorem build_three {o : Oper} {ac : Act} {x y z : Operand} {a b c : Int} (ho : o.op = .buildSlice 87 3 #[(0, x), (1, y), (2, z)]) (hx : ac.eval x = .int .i64 a) (hy : ac.eval y = .int .i64 b) (hz : ac.eval z = .int .i64 c) (w : World) :
    (execOp ac.eval o).run Tryz.prog w = .ok (.value (.slice (some ⟨w.heap.size, 0, none⟩) 3 3)) (w.alloc (.cells #[.int .i64 a, .int .i64 b, .int .i64 c] 3)) := by
  unfold execOp; generalize ac.eval = ρ at hx hy hz
  simp [ho, hx, hy, hz, go_sem]
theorem known_all {a b c : Int} {ac : Act} (h : ac.tmps.toList.all nosl = true) (w : World) : Tame.Known (TD a b c) ac w := by
  intro t; refine .inl ?_; rw [Array.getD_eq_getD_getElem?]
  rcases Nat.lt_or_ge t ac.tmps.size with hlt | hge
  · rw [Array.getElem?_eq_getElem hlt]
    exact List.all_eq_true.1 h _ (by simp)
  · rw [Array.getElem?_eq_none hge]
    rfl

set_option maxHeartbeats 1000000 in
set_option maxRecDepth 100000 in
theorem less_any (p s i q u j : Int) (w : World) : Calls Tryz.prog 50 #[MV p s i, MV q u j] w (Tells (.bool (ls p s i q u j)) w) := by
  rw [← ls_or]
  have C1 : ∀ w, Calls Tryz.prog 73 #[.int .i64 p, .int .i64 q] w (Tells (.int .i64 (cmpI p q)) w) := fun w => (compare_any p q w).mono fun e w' ⟨he, hw⟩ => ⟨he, by rw [hw]; exact Below.refl _ _⟩
  have C2 : ∀ w, Calls Tryz.prog 73 #[.int .i64 s, .int .i64 u] w (Tells (.int .i64 (cmpI s u)) w) := fun w => (compare_any s u w).mono fun e w' ⟨he, hw⟩ => ⟨he, by rw [hw]; exact Below.refl _ _⟩
  have C3 : ∀ w, Calls Tryz.prog 73 #[.int .i64 i, .int .i64 j] w (Tells (.int .i64 (cmpI i j)) w) := fun w => (compare_any i j w).mono fun e w' ⟨he, hw⟩ => ⟨he, by rw [hw]; exact Below.refl _ _⟩
  generalize cmpI p q = a at C1 ⊢; generalize cmpI s u = b at C2 ⊢; generalize cmpI i j = c at C3 ⊢
  have C4 : ∀ v w, Three w v a b c → Calls Tryz.prog 72 #[v] w (Tells (.int .i64 (or3 a b c)) w) := fun v w h => (or_any v a b c w h).mono fun e w' ⟨he, hw⟩ => ⟨he, by rw [hw]; exact Below.refl _ _⟩
  generalize or3 a b c = r at C4 ⊢; have R1 := (rw_new w 36 #[.int .i64 p, .int .i64 s, .int .i64 i]).alloc (.cells #[.int .i64 q, .int .i64 u, .int .i64 j] 36); have R2 := rw_next (w.alloc (.cells #[.int .i64 p, .int .i64 s, .int .i64 i] 36)) (b := w.heap.size + 1) (by simp) 36 #[.int .i64 q, .int .i64 u, .int .i64 j]; have hbel : Below w.heap.size w ((w.alloc (.cells #[.int .i64 p, .int .i64 s, .int .i64 i] 36)).alloc (.cells #[.int .i64 q, .int .i64 u, .int .i64 j] 36)) := bel_alloc (bel_alloc (Below.refl _ _) _) _
  go_enter Tryz.func50, Tryz.ntmps50
  go_wp2_with fail; generalize (w.alloc (.cells #[.int .i64 p, .int .i64 s, .int .i64 i] 36)).alloc (.cells #[.int .i64 q, .int .i64 u, .int .i64 j] 36) = w0 at R1 R2 hbel ⊢
  have HS : ∀ w', Rw w' w.heap.size 36 #[.int .i64 p, .int .i64 s, .int .i64 i] ∧ Rw w' (w.heap.size + 1) 36 #[.int .i64 q, .int .i64 u, .int .i64 j] ∧ Below w.heap.size w w' → (w'.cell? ⟨w.heap.size, 0, none⟩ = some (.int .i64 p) ∧ w'.cell? ⟨w.heap.size, 1, none⟩ = some (.int .i64 s) ∧ w'.cell? ⟨w.heap.size, 2, none⟩ = some (.int .i64 i) ∧ w'.cell? ⟨w.heap.size + 1, 0, none⟩ = some (.int .i64 q) ∧ w'.cell? ⟨w.heap.size + 1, 1, none⟩ = some (.int .i64 u) ∧ w'.cell? ⟨w.heap.size + 1, 2, none⟩ = some (.int .i64 j)) := fun w' h => ⟨h.1.cell 0, h.1.cell 1, h.1.cell 2, h.2.1.cell 0, h.2.1.cell 1, h.2.1.cell 2⟩
  refine Tame.region (by kernel_rfl) (by kernel_rfl) (fun w' => w'.cell? ⟨w.heap.size, 0, none⟩ = some (.int .i64 p) ∧ w'.cell? ⟨w.heap.size, 1, none⟩ = some (.int .i64 s) ∧ w'.cell? ⟨w.heap.size, 2, none⟩ = some (.int .i64 i) ∧ w'.cell? ⟨w.heap.size + 1, 0, none⟩ = some (.int .i64 q) ∧ w'.cell? ⟨w.heap.size + 1, 1, none⟩ = some (.int .i64 u) ∧ w'.cell? ⟨w.heap.size + 1, 2, none⟩ = some (.int .i64 j) ∧ Below w.heap.size w w') (TD a b c)
    (fun wa wb h hb => ⟨cell_later hb h.1, cell_later hb h.2.1, cell_later hb h.2.2.1, cell_later hb h.2.2.2.1, cell_later hb h.2.2.2.2.1, cell_later hb h.2.2.2.2.2.1, below_on h.2.2.2.2.2.2 hb⟩) TD.later (fun _ => .inl rfl) ⟨R1.cell 0, R1.cell 1, R1.cell 2, R2.cell 0, R2.cell 1, R2.cell 2, hbel.drew⟩ (known_all (by rfl) _) ?_
  clear R1 R2 hbel HS; refine Tame.pure (v := ?_) (fun _ => by rfl) ?_ ?_ ?_; rotate_left; focus (intro p hp w hSw; go_simp <;> rfl)
  focus (intro w; exact .inl rfl)
  simp only [put4]; refine Tame.pure (v := ?_) (fun _ => by rfl) ?_ ?_ ?_; rotate_left; focus (intro p hp w hSw; go_simp <;> rfl)
  focus (intro w; exact .inl rfl)
  simp only [put4]; refine Tame.pure (v := ?_) (fun _ => by rfl) ?_ ?_ ?_; rotate_left; focus (intro p hp w hSw; go_simp <;> rfl)
  focus (intro w; exact .inl rfl)
  simp only [put4]; refine Tame.pure (v := ?_) (fun _ => by rfl) ?_ ?_ ?_; rotate_left; focus (intro p hp w hSw; go_simp <;> rfl)
  focus (intro w; exact .inl rfl)
  simp only [put4]; refine Tame.pure (v := ?_) (fun _ => by rfl) ?_ ?_ ?_; rotate_left; focus (intro p hp w hSw; go_simp <;> rfl)
  focus (intro w; exact .inl rfl)
  simp only [put4]; refine Tame.pure (v := ?_) (fun _ => by rfl) ?_ ?_ ?_; rotate_left; focus (intro p hp w hSw; go_simp <;> rfl)
  focus (intro w; exact .inl rfl)
  simp only [put4]; refine Tame.call2 (fun _ => by rfl) rfl (fun _ => rfl) (fun _ => rfl) (by kernel_rfl) (fun _ => .inl rfl) (fun _ w _ _ _ => C1 w) ?_; simp only [put4]; refine Tame.pure (v := ?_) (fun _ => by rfl) ?_ ?_ ?_; rotate_left; focus (intro p hp w hSw; go_simp <;> rfl)
  focus (intro w; exact .inl rfl)
  simp only [put4]; refine Tame.pure (v := ?_) (fun _ => by rfl) ?_ ?_ ?_; rotate_left; focus (intro p hp w hSw; go_simp <;> rfl)
  focus (intro w; exact .inl rfl)
  simp only [put4]; refine Tame.pure (v := ?_) (fun _ => by rfl) ?_ ?_ ?_; rotate_left; focus (intro p hp w hSw; go_simp <;> rfl)
  focus (intro w; exact .inl rfl)
  simp only [put4]; refine Tame.pure (v := ?_) (fun _ => by rfl) ?_ ?_ ?_; rotate_left; focus (intro p hp w hSw; go_simp <;> rfl)
  focus (intro w; exact .inl rfl)
  simp only [put4]; refine Tame.pure (v := ?_) (fun _ => by rfl) ?_ ?_ ?_; rotate_left; focus (intro p hp w hSw; go_simp <;> rfl)
  focus (intro w; exact .inl rfl)
  simp only [put4]; refine Tame.pure (v := ?_) (fun _ => by rfl) ?_ ?_ ?_; rotate_left; focus (intro p hp w hSw; go_simp <;> rfl)
  focus (intro w; exact .inl rfl)
  simp only [put4]; refine Tame.call2 (fun _ => by rfl) rfl (fun _ => rfl) (fun _ => rfl) (by kernel_rfl) (fun _ => .inl rfl) (fun _ w _ _ _ => C2 w) ?_; simp only [put4]; refine Tame.pure (v := ?_) (fun _ => by rfl) ?_ ?_ ?_; rotate_left; focus (intro p hp w hSw; go_simp <;> rfl)
  focus (intro w; exact .inl rfl)
  simp only [put4]; refine Tame.pure (v := ?_) (fun _ => by rfl) ?_ ?_ ?_; rotate_left; focus (intro p hp w hSw; go_simp <;> rfl)
  focus (intro w; exact .inl rfl)
  simp only [put4]; refine Tame.pure (v := ?_) (fun _ => by rfl) ?_ ?_ ?_; rotate_left; focus (intro p hp w hSw; go_simp <;> rfl)
  focus (intro w; exact .inl rfl)
  simp only [put4]; refine Tame.pure (v := ?_) (fun _ => by rfl) ?_ ?_ ?_; rotate_left; focus (intro p hp w hSw; go_simp <;> rfl)
  focus (intro w; exact .inl rfl)
  simp only [put4]; refine Tame.call2 (fun _ => by rfl) rfl (fun _ => rfl) (fun _ => rfl) (by kernel_rfl) (fun _ => .inl rfl) (fun _ w _ _ _ => C3 w) ?_; simp only [put4]; refine Tame.fresh isSl ⟨.slice none 0 0, rfl⟩ (fun p hp => .inl ⟨by rfl, fun w hS ht => ?_⟩) ?_; focus (rw [build_three rfl rfl rfl rfl w]; exact ⟨rfl, .inr (three_new w _ _ _), (Below.refl _ _).alloc (Nat.le_refl _) _⟩)
  simp only [put4]; refine Tame.call1 (fun _ => by rfl) rfl (fun _ => rfl) (by kernel_rfl) (fun _ => .inl rfl) (fun p w hp hS ht => C4 _ w (sl_three hp.2 (ht 24 (by simp [Op.operands, Call.operands])))) ?_; simp only [put4]; refine Tame.pure (v := ?_) (fun _ => by rfl) ?_ ?_ ?_; rotate_left; focus (intro p hp w hSw; go_simp <;> rfl)
  focus (intro w; exact .inl rfl)
  simp only [put4]; refine Tame.pure (v := ?_) (fun _ => by rfl) ?_ ?_ ?_; rotate_left; focus (intro p hp w hSw; go_simp <;> rfl)
  focus (intro w; exact .inl rfl)
  simp only [put4]; refine Tame.done fun p hp w9 hS9 => ?_
  go_wp2
  go_ret; exact ⟨rfl, by go_split_ands; assumption⟩

set_option maxHeartbeats 1000000 in
set_option maxRecDepth 100000 in
theorem refLess_any (p s i q u j : Int) (w : World) : Calls Tryz.prog 28 #[MV p s i, MV q u j] w (Tells (.bool (ls p s i q u j)) w) := by
  obtain ⟨z, HZ⟩ : ∃ z, Hid (ls p s i q u j = z) := ⟨_, rfl⟩; rw [HZ.out]
  go_enter Tryz.func28, Tryz.ntmps28
  go_wp2
  all_goals
    go_ret; refine tells_bool ?_ (bel_alloc (bel_alloc (Below.refl _ _) _) _); have hz := HZ.out; unfold ls at hz; rw [← hz]
    first | (rw [decide_eq_decide]; omega) | grind
end Go.Proofs.YtfjpbmdmkcihcaaGreat
/- The order of marks, marks in order, and one put in. Nothing of the program. -/
namespace Go.Proofs.YtfjpbmdmkcihcaaGreat
open Go.RowKit

/-- May it be a mark's index? -/
def im (i : Int) : Bool := decide (1 ≤ i)
/-- One ahead of another one. -/
def lt (x y : M) : Bool := ls x.p x.s x.i y.p y.s y.i
/-- The k-th may stand there. -/
def okk (l : List M) (k : Nat) (h : k < l.length) : Bool := im l[k].i && (decide (k = 0) || lt (l[k - 1]'(by omega)) l[k])
def ca (l : List M) : Bool := decide (∀ k (h : k < l.length), okk l k h = true)
theorem ca_iff (l : List M) : ca l = true ↔ ∀ k (h : k < l.length), okk l k h = true := by simp [ca]
theorem ca_not {l : List M} {z : Bool} (HZ : Hid (ca l = z)) {k : Nat} (h : k < l.length) (h' : okk l k h = false) : Hid (z = false) := by
  show z = false
  have hz := HZ.out
  cases z
  · rfl
  · rw [(ca_iff l).1 hz k h] at h'
    cases h'
theorem M.len (x : M) : x.cells.length = 3 := rfl
/-- The k-th of a slice of marks. -/
theorem M.elem {w : World} {l : List M} {g o : Nat} (h : w.rangeAt g o (rows M.cells l)) (k : Nat) (hk : k < l.length) : w.rangeAt g (o + k * 3) l[k].cells :=
  range_sub h (k * 3) fun j u hu => rows_at M.len l k hk j u hu
theorem Rw.whole {w : World} {b : Nat} {t : TypeId} {cs : List Value} (h : Rw w b t cs.toArray) : w.rangeAt b 0 cs := h.range 0 cs fun j v hv => by simpa using hv
theorem lt_iff (x y : M) : lt x y = true ↔ x.p < y.p ∨ (x.p = y.p ∧ (x.s < y.s ∨ (x.s = y.s ∧ x.i < y.i))) := by simp [lt, ls]
theorem lt_trans {x y z : M} (h : lt x y = true) (k : lt y z = true) : lt x z = true := by
  rw [lt_iff] at *
  omega
theorem lt_irr (x : M) : lt x x = false := by
  cases h : lt x x
  · rfl
  · rw [lt_iff] at h
    omega
theorem lt_asymm {x y : M} (h : lt x y = true) : lt y x = false := by
  cases k : lt y x
  · rfl
  · have := lt_trans h k
    rw [lt_irr] at this
    cases this
/-- One mark. -/
def mk (x y : M) : Bool := decide (x.p = y.p) && decide (x.s = y.s) && decide (x.i = y.i)
theorem mk_iff (x y : M) : mk x y = true ↔ x.p = y.p ∧ x.s = y.s ∧ x.i = y.i := by simp [mk, and_assoc]
theorem lt_total {x y : M} (h : lt x y = false) (k : mk x y = false) : lt y x = true := by
  rw [lt_iff]
  have h1 : ¬ _ := fun e => by rw [(lt_iff x y).2 e] at h; cases h
  have h2 : ¬ _ := fun e => by rw [(mk_iff x y).2 e] at k; cases k
  omega
theorem mk_lt {x y : M} (h : mk x y = true) : lt x y = false := by
  cases k : lt x y
  · rfl
  · rw [mk_iff] at h
    rw [lt_iff] at k
    omega
theorem lt_of_not {x y z : M} (h : lt x z = true) (k : lt y z = false) : lt x y = true := by
  have k1 : ¬ _ := fun e => by rw [(lt_iff y z).2 e] at k; cases k
  rw [lt_iff] at *
  omega
/-- Marks that rise, and that may be. -/
theorem ca_pair (l : List M) : ca l = true ↔ (∀ y ∈ l, im y.i = true) ∧ l.Pairwise (fun a b => lt a b = true) := by
  rw [ca_iff]
  constructor
  · intro h
    refine ⟨fun y hy => ?_, ?_⟩
    · obtain ⟨k, hk, rfl⟩ := List.getElem_of_mem hy
      have := h k hk
      unfold okk at this; exact (Bool.and_eq_true _ _ ▸ this).1
    · rw [List.pairwise_iff_getElem]
      intro i j hi hj hij; obtain ⟨d, rfl⟩ : ∃ d, j = i + 1 + d := ⟨j - (i + 1), by omega⟩; clear hij
      have step : ∀ k (hk : k + 1 < l.length), lt l[k] l[k + 1] = true := fun k hk => by
        have := h (k + 1) hk
        unfold okk at this
        simpa using (Bool.and_eq_true _ _ ▸ this).2
      induction d with
      | zero => exact step i hj
      | succ d ih => exact lt_trans (ih (by omega) step) (step (i + 1 + d) (by omega))
  · rintro ⟨h1, h2⟩ k hk
    unfold okk; rw [h1 _ (List.getElem_mem _), Bool.true_and]
    rcases Nat.eq_zero_or_pos k with rfl | hp
    · rfl
    · rw [List.pairwise_iff_getElem] at h2
      simp [h2 (k - 1) k (by omega) hk (by omega)]
theorem ca_filter {l : List M} (h : ca l = true) (f : M → Bool) : ca (l.filter f) = true := by
  rw [ca_pair] at *; exact ⟨fun y hy => h.1 y (List.mem_filter.1 hy).1, h.2.filter f⟩
/-- Put in where it belongs. -/
def insF (x : M) (l : List M) : List M := l.filter (fun y => lt y x) ++ x :: l.filter (fun y => !lt y x)
def has (x : M) (l : List M) : Bool := l.any (fun y => mk y x)
theorem has_false {x : M} {l : List M} : has x l = false ↔ ∀ y ∈ l, mk y x = false := by
  unfold has; rw [List.any_eq_false]; exact ⟨fun h y hy => by simpa using h y hy, fun h y hy => by simpa using h y hy⟩
theorem insF_length (x : M) (l : List M) : (insF x l).length = l.length + 1 := by
  unfold insF; rw [List.length_append, List.length_cons]
  induction l with
  | nil => rfl
  | cons y l ih =>
    rw [List.filter_cons, List.filter_cons]
    cases lt y x
    · simp
      omega
    · simp
      omega
theorem insF_ca {x : M} {l : List M} (h : ca l = true) (hi : im x.i = true) (hn : has x l = false) : ca (insF x l) = true := by
  rw [has_false] at hn; rw [ca_pair] at *; obtain ⟨h1, h2⟩ := h; refine ⟨fun y hy => ?_, ?_⟩
  · unfold insF at hy
    rcases List.mem_append.1 hy with h | h
    · exact h1 y (List.mem_filter.1 h).1
    · rcases List.mem_cons.1 h with rfl | h
      · exact hi
      · exact h1 y (List.mem_filter.1 h).1
  · unfold insF
    rw [List.pairwise_append]; refine ⟨h2.filter _, ?_, ?_⟩
    · rw [List.pairwise_cons]
      refine ⟨fun y hy => ?_, h2.filter _⟩; obtain ⟨hy1, hy2⟩ := List.mem_filter.1 hy; exact lt_total (by simpa using hy2) (hn y hy1)
    · intro y hy z hz
      obtain ⟨hy1, hy2⟩ := List.mem_filter.1 hy
      rcases List.mem_cons.1 hz with rfl | hz
      · exact hy2
      · obtain ⟨hz1, hz2⟩ := List.mem_filter.1 hz
        exact lt_of_not hy2 (by simpa using hz2)
/-- The order of two is nothing. -/
theorem insF_lt {x y : M} (h : lt x y = true) (l : List M) : insF y (insF x l) = l.filter (fun a => lt a x) ++ x :: (l.filter (fun a => lt a y && !lt a x) ++ y :: l.filter (fun a => !lt a y)) ∧ insF x (insF y l) = l.filter (fun a => lt a x) ++ x :: (l.filter (fun a => lt a y && !lt a x) ++ y :: l.filter (fun a => !lt a y)) := by
  have h1 : ∀ a, lt a x = true → lt a y = true := fun a k => lt_trans k h
  have h2 : lt y x = false := lt_asymm h
  have e1 : (fun a => lt a y && lt a x) = fun a => lt a x := funext fun a => by
    cases k : lt a x
    · simp
    · simp [h1 a k]
  have e2 : (fun a => lt a x && lt a y) = fun a => lt a x := funext fun a => by
    cases k : lt a x
    · simp
    · simp [h1 a k]
  have e3 : (fun a => !lt a y && lt a x) = fun _ => false := funext fun a => by
    cases k : lt a x
    · simp
    · simp [h1 a k]
  have e4 : (fun a => lt a x && !lt a y) = fun _ => false := funext fun a => by
    cases k : lt a x
    · simp
    · simp [h1 a k]
  have e5 : (fun a => !lt a y && !lt a x) = fun a => !lt a y := funext fun a => by
    cases k : lt a x
    · simp
    · simp [h1 a k]
  have e6 : (fun a => !lt a x && !lt a y) = fun a => !lt a y := funext fun a => by
    cases k : lt a x
    · simp
    · simp [h1 a k]
  have e7 : (fun a => !lt a x && lt a y) = fun a => lt a y && !lt a x := funext fun a => Bool.and_comm _ _
  constructor
  · unfold insF
    simp only [List.filter_append, List.filter_cons, List.filter_filter, h, e1, e3, e5]
    simp
  · unfold insF
    simp only [List.filter_append, List.filter_cons, List.filter_filter, h2, e2, e4, e6, e7]
    simp
theorem insF_comm {x y : M} (h : mk x y = false) (l : List M) : insF x (insF y l) = insF y (insF x l) := by
  cases k : lt x y
  · have k2 := lt_total k h
    rw [(insF_lt k2 l).1, (insF_lt k2 l).2]
  · rw [(insF_lt k l).1, (insF_lt k l).2]
theorem has_insF {x y : M} (h : mk x y = false) (l : List M) : has y (insF x l) = has y l := by
  unfold has insF; rw [List.any_append, List.any_cons, h, Bool.false_or]
  induction l with
  | nil => rfl
  | cons a l ih =>
    rw [List.filter_cons, List.filter_cons, List.any_cons, ← ih]
    cases lt a x
    · simp
      cases mk a y <;> simp
    · simp [Bool.or_assoc]
/-- Where it belongs, by its place. -/
theorem insF_at {x : M} {l : List M} {k : Nat} (h1 : ∀ j (h : j < l.length), j < k → lt l[j] x = true) (h2 : ∀ j (h : j < l.length), k ≤ j → lt l[j] x = false) : l.take k ++ x :: l.drop k = insF x l := by
  have e1 : l.filter (fun y => lt y x) = l.take k := by
    conv => lhs; rw [← List.take_append_drop k l]
    rw [List.filter_append, List.filter_eq_self.2, List.filter_eq_nil_iff.2, List.append_nil]
    · intro y hy
      obtain ⟨j, hj, rfl⟩ := List.getElem_of_mem hy; rw [List.getElem_drop, h2 _ _ (by omega)]
      simp
    · intro y hy
      obtain ⟨j, hj, rfl⟩ := List.getElem_of_mem hy; rw [List.length_take] at hj; rw [List.getElem_take]; exact h1 _ _ (by omega)
  have e2 : l.filter (fun y => !lt y x) = l.drop k := by
    conv => lhs; rw [← List.take_append_drop k l]
    rw [List.filter_append, List.filter_eq_nil_iff.2, List.filter_eq_self.2, List.nil_append]
    · intro y hy
      obtain ⟨j, hj, rfl⟩ := List.getElem_of_mem hy; rw [List.getElem_drop, h2 _ _ (by omega)]
      rfl
    · intro y hy
      obtain ⟨j, hj, rfl⟩ := List.getElem_of_mem hy; rw [List.length_take] at hj; rw [List.getElem_take, h1 _ _ (by omega)]
      simp
  unfold insF; rw [e1, e2]
end Go.Proofs.YtfjpbmdmkcihcaaGreat
/- checkMarks of package orset. -/
namespace Go.Proofs.YtfjpbmdmkcihcaaGreat
open Go.RowKit

theorem Calm.loadM {ops : Array Oper} {S : World → Prop} {K : Act → Prop} {o : Oper} {l : List Oper} {a : Act} {b f : Nat} {cs : List Value} (t : TypeId) {d : TypeDesc} (hu : Tryz.prog.underlying t = some d) (hd : d.isRow = true) (hi : (Tryz.prog.info? t).map (·.size) = some cs.length) (hw : Region.wanted o (yielded ops a.tmps) = true) (x : Operand) (ho : o.op = .load t x)
    (hx : a.eval x = .pointer (some ⟨b, f, none⟩)) (hS : ∀ w, S w → w.rangeAt b f cs) (h : Calm.calmList Tryz.prog ops S K l (a.put o.dst (.agg cs.toArray))) : Calm.calmList Tryz.prog ops S K (o :: l) a :=
  Calm.pure hw (fun w hw' => by
    have h2 := run_loadVar_mid (P := Tryz.prog) w b f t cs d (hS w hw') hu hd hi; unfold execOp
    simp only [ho, hx, Instr.loadAt, Instr.sureAddr, Sem.run_bind, Sem.run_pure, h2, Result.andThen_ok]) h
set_option maxHeartbeats 2000000 in
set_option maxRecDepth 100000 in
theorem checkMarks_any (v : Value) (l : List M) (w : World) (h : MHas w v l) : Calls Tryz.prog 58 #[v] w (Tells (.bool (ca l)) w) := by
  obtain ⟨z, HZ⟩ := hid_ex (ca l); rw [HZ.out]; have hml := maxLen_lt h.1; obtain ⟨p, c, rfl⟩ := h.slice; have HR : Hid (MHas w (.slice p l.length c) l) := h; clear h
  go_enter Tryz.func58, Tryz.ntmps58
  go_wp2
  go_loopw [7] (fun vi wr => ∃ k : Nat, vi = .int .i64 k ∧ k ≤ l.length ∧ Hid (∀ i (h : i < l.length), i < k → okk l i h = true) ∧ Below w.heap.size w wr) (fun vi _ => l.length - (intOf vi).toNat)
  case atStart => exact ⟨0, rfl, by omega, (show ∀ i (_ : i < l.length), i < 0 → _ from fun i _ h => by omega), Below.refl _ _⟩
  case round =>
    obtain ⟨k, rfl, hk, HV, hbel⟩ := hrel
    by_cases hlt : k < l.length
    · have hlt' : (k : Int) < (l.length : Int) := by omega
      obtain ⟨g, o, rfl, hd0⟩ := HR.out.at (by omega); have hd := range_later hd0 hbel; clear hd0 HR; have d := M.elem hd k hlt; obtain ⟨x, HX⟩ := hid_ex l[k]; rw [HX.out] at d; have zm : (Tryz.prog.info? 36).map (·.size) = some x.cells.length := size36; have R := rw_new wr 36 #[.int .i64 x.p, .int .i64 x.s, .int .i64 x.i]; replace hbel := bel_alloc hbel (.cells #[.int .i64 x.p, .int .i64 x.s, .int .i64 x.i] 36)
      have hxi : (decide (x.i < 1)) = !im x.i := by unfold im; by_cases h : x.i < 1 <;> simp [h] <;> omega
      obtain ⟨y1, HY1⟩ := hid_ex (im x.i); rw [HY1.out] at hxi
      cases y1
      · have HF := ca_not HZ hlt (show okk l k hlt = false by unfold okk; rw [HX.out, HY1.out]; rfl)
        have e := HF.out; subst e
        have hxd : decide (x.i < 1) = true := by simpa using hxi
        clear HZ HF HV hxi
        go_wp2_with (refine load_m 36 _ rfl rfl _ _ rfl d Tryz.underlying36 rfl zm ?_)
        clear hd d
        have hs : Calm.Stays (fun w' => Rw w' wr.heap.size 36 #[.int .i64 x.p, .int .i64 x.s, .int .i64 x.i] ∧ Below w.heap.size w w') := fun wa wb h hb => ⟨h.1.later hb, below_on h.2 hb⟩
        refine Calm.region (by kernel_rfl) (by kernel_rfl) (fun w' => Rw w' wr.heap.size 36 #[.int .i64 x.p, .int .i64 x.s, .int .i64 x.i] ∧ Below w.heap.size w w') ⟨R, hbel.drew⟩ ?_
        all_goals
          refine Calm.pure (v := ?_) (by rfl) ?_ ?_; rotate_left; focus (intro w hSw; go_simp <;> rfl)
          simp only [put4]
        all_goals
          refine Calm.pure (v := .int .i64 x.i) (by rfl) ?_ ?_; focus (intro w hSw; have g1 : w.cell? ⟨wr.heap.size, 2, none⟩ = some (.int .i64 x.i) := hSw.1.cell 2; go_simp)
          simp only [put4]
        iterate 2
          all_goals
            refine Calm.pure (v := ?_) (by rfl) ?_ ?_; rotate_left; focus (intro w hSw; go_simp <;> rfl)
            simp only [put4]
        iterate 7
          all_goals
            first
              | (refine Calm.skip ?_ ?_; focus rfl)
              | (refine Calm.pure (v := ?_) (by rfl) ?_ ?_
                 rotate_left
                 focus (intro w hSw; go_simp <;> rfl))
            simp only [put4]
        iterate 2
          all_goals
            first
              | (refine Calm.skip ?_ ?_; focus rfl)
              | (refine Calm.loadM 36 Tryz.underlying36 rfl zm (by rfl) _ rfl rfl (fun _ h => Rw.whole h.1) ?_)
            simp only [put4]
        all_goals
          first
            | (refine Calm.skip ?_ ?_; focus rfl)
            | (refine Calm.call2s (by rfl) rfl rfl rfl (by kernel_rfl) hs (fun w1 h => less_any 0 0 0 0 0 0 w1) ?_)
          simp only [put4]
        iterate 2
          all_goals
            first
              | (refine Calm.skip ?_ ?_; focus rfl)
              | (refine Calm.pure (v := ?_) (by rfl) ?_ ?_
                 rotate_left
                 focus (intro w hSw; go_simp <;> rfl))
            simp only [put4]
        all_goals
          refine Calm.pure (v := ?_) (by rfl) ?_ ?_; rotate_left; focus (intro w hSw; go_simp <;> rfl)
          simp only [put4]
        all_goals
          rintro w9 ⟨_, hbel9⟩
        go_wp2_with fail; go_ret; exact ⟨rfl, hbel9⟩
      · have hxd : decide (x.i < 1) = false := by simpa using hxi
        clear hxi
        rcases Nat.eq_zero_or_pos k with rfl | hpos
        · have HV2 : Hid (∀ i (h : i < l.length), i < 0 + 1 → okk l i h = true) := fun i h hi => by
            obtain rfl : i = 0 := by omega
            unfold okk; rw [HX.out, HY1.out]
            rfl
          go_wp2_with (refine load_m 36 _ rfl rfl _ _ rfl d Tryz.underlying36 rfl zm ?_)
          clear hd d HV
          have hs : Calm.Stays (fun w' => Rw w' wr.heap.size 36 #[.int .i64 x.p, .int .i64 x.s, .int .i64 x.i] ∧ Below w.heap.size w w') := fun wa wb h hb => ⟨h.1.later hb, below_on h.2 hb⟩
          refine Calm.region (by kernel_rfl) (by kernel_rfl) (fun w' => Rw w' wr.heap.size 36 #[.int .i64 x.p, .int .i64 x.s, .int .i64 x.i] ∧ Below w.heap.size w w') ⟨R, hbel.drew⟩ ?_
          all_goals
            refine Calm.pure (v := ?_) (by rfl) ?_ ?_; rotate_left; focus (intro w hSw; go_simp <;> rfl)
            simp only [put4]
          all_goals
            refine Calm.pure (v := .int .i64 x.i) (by rfl) ?_ ?_; focus (intro w hSw; have g1 : w.cell? ⟨wr.heap.size, 2, none⟩ = some (.int .i64 x.i) := hSw.1.cell 2; go_simp)
            simp only [put4]
          iterate 2
            all_goals
              refine Calm.pure (v := ?_) (by rfl) ?_ ?_; rotate_left; focus (intro w hSw; go_simp <;> rfl)
              simp only [put4]
          iterate 7
            all_goals
              first
                | (refine Calm.skip ?_ ?_; focus rfl)
                | (refine Calm.pure (v := ?_) (by rfl) ?_ ?_
                   rotate_left
                   focus (intro w hSw; go_simp <;> rfl))
              simp only [put4]
          iterate 2
            all_goals
              first
                | (refine Calm.skip ?_ ?_; focus rfl)
                | (refine Calm.loadM 36 Tryz.underlying36 rfl zm (by rfl) _ rfl rfl (fun _ h => Rw.whole h.1) ?_)
              simp only [put4]
          all_goals
            first
              | (refine Calm.skip ?_ ?_; focus rfl)
              | (refine Calm.call2s (by rfl) rfl rfl rfl (by kernel_rfl) hs (fun w1 h => less_any 0 0 0 0 0 0 w1) ?_)
            simp only [put4]
          iterate 2
            all_goals
              first
                | (refine Calm.skip ?_ ?_; focus rfl)
                | (refine Calm.pure (v := ?_) (by rfl) ?_ ?_
                   rotate_left
                   focus (intro w hSw; go_simp <;> rfl))
              simp only [put4]
          all_goals
            refine Calm.pure (v := ?_) (by rfl) ?_ ?_; rotate_left; focus (intro w hSw; go_simp <;> rfl)
            simp only [put4]
          all_goals
            rintro w9 ⟨_, hbel9⟩
          go_wp2_with fail; go_roundw
          case rel => exact ⟨0 + 1, by simp, by omega, HV2, hbel9⟩
          case measure => simp [intOf]; omega
        · obtain ⟨m, rfl⟩ : ∃ m, k = m + 1 := ⟨k - 1, by omega⟩
          have d2 := range_later (M.elem hd m (by omega)) (bel_alloc (Below.refl _ _) (.cells #[.int .i64 x.p, .int .i64 x.s, .int .i64 x.i] 36)); obtain ⟨y, HY⟩ := hid_ex (l[m]'(by omega)); rw [HY.out] at d2; have zy : (Tryz.prog.info? 36).map (·.size) = some y.cells.length := size36
          have C2 : ∀ w, Calls Tryz.prog 50 #[MV y.p y.s y.i, MV x.p x.s x.i] w (Tells (.bool (lt y x)) w) := fun w => less_any y.p y.s y.i x.p x.s x.i w
          have hO : okk l (m + 1) hlt = lt y x := by
            unfold okk; simp only [Nat.add_sub_cancel]; rw [HX.out, HY1.out, HY.out]
            simp
          have HO : Hid (okk l (m + 1) hlt = lt y x) := hO; clear hO; obtain ⟨y2, HY2⟩ := hid_ex (lt y x); rw [HY2.out] at C2 HO
          have hw1 : IntKind.i64.wrap (m : Int) = (m : Int) := by rw [IntKind.wrap_i64]; omega
          have hml2 : (m : Int) < (l.length : Int) := by omega
          go_wp2_with (refine load_m 36 _ rfl rfl _ _ rfl d Tryz.underlying36 rfl zm ?_)
          clear hd d
          cases y2
          · have HF := ca_not HZ hlt HO.out
            have e := HF.out; subst e; clear HZ HF HV
            have hs : Calm.Stays (fun w' => Rw w' wr.heap.size 36 #[.int .i64 x.p, .int .i64 x.s, .int .i64 x.i] ∧ w'.rangeAt g (o + m * 3) y.cells ∧ Below w.heap.size w w') := fun wa wb h hb => ⟨h.1.later hb, range_later h.2.1 hb, below_on h.2.2 hb⟩
            refine Calm.region (by kernel_rfl) (by kernel_rfl) (fun w' => Rw w' wr.heap.size 36 #[.int .i64 x.p, .int .i64 x.s, .int .i64 x.i] ∧ w'.rangeAt g (o + m * 3) y.cells ∧ Below w.heap.size w w') ⟨R, d2, hbel.drew⟩ ?_
            all_goals
              refine Calm.pure (v := ?_) (by rfl) ?_ ?_; rotate_left; focus (intro w hSw; go_simp <;> rfl)
              simp only [put4]
            all_goals
              refine Calm.pure (v := .int .i64 x.i) (by rfl) ?_ ?_; focus (intro w hSw; have g1 : w.cell? ⟨wr.heap.size, 2, none⟩ = some (.int .i64 x.i) := hSw.1.cell 2; go_simp)
              simp only [put4]
            iterate 2
              all_goals
                refine Calm.pure (v := ?_) (by rfl) ?_ ?_; rotate_left; focus (intro w hSw; go_simp <;> rfl)
                simp only [put4]
            iterate 7
              all_goals
                first
                  | (refine Calm.skip ?_ ?_; focus rfl)
                  | (refine Calm.pure (v := ?_) (by rfl) ?_ ?_
                     rotate_left
                     focus (intro w hSw; go_simp <;> rfl))
                simp only [put4]
            iterate 2
              all_goals
                first
                  | (refine Calm.skip ?_ ?_; focus rfl)
                  | (first | (refine Calm.loadM 36 Tryz.underlying36 rfl zy (by rfl) _ rfl rfl (fun _ h => h.2.1) ?_) | (refine Calm.loadM 36 Tryz.underlying36 rfl zm (by rfl) _ rfl rfl (fun _ h => Rw.whole h.1) ?_))
                simp only [put4]
            all_goals
              first
                | (refine Calm.skip ?_ ?_; focus rfl)
                | (refine Calm.call2s (by rfl) rfl rfl rfl (by kernel_rfl) hs (fun w1 h => C2 w1) ?_)
              simp only [put4]
            iterate 2
              all_goals
                first
                  | (refine Calm.skip ?_ ?_; focus rfl)
                  | (refine Calm.pure (v := ?_) (by rfl) ?_ ?_
                     rotate_left
                     focus (intro w hSw; go_simp <;> rfl))
                simp only [put4]
            all_goals
              refine Calm.pure (v := ?_) (by rfl) ?_ ?_; rotate_left; focus (intro w hSw; go_simp <;> rfl)
              simp only [put4]
            all_goals
              rintro w9 ⟨_, _, hbel9⟩
            go_wp2_with fail; go_ret; exact ⟨rfl, hbel9⟩
          · have HV2 : Hid (∀ i (h : i < l.length), i < m + 1 + 1 → okk l i h = true) := fun i h hi => by
              rcases Nat.lt_or_ge i (m + 1) with h' | h'
              · exact HV.out i h h'
              · obtain rfl : i = m + 1 := by omega
                exact HO.out
            clear HV HO
            have hs : Calm.Stays (fun w' => Rw w' wr.heap.size 36 #[.int .i64 x.p, .int .i64 x.s, .int .i64 x.i] ∧ w'.rangeAt g (o + m * 3) y.cells ∧ Below w.heap.size w w') := fun wa wb h hb => ⟨h.1.later hb, range_later h.2.1 hb, below_on h.2.2 hb⟩
            refine Calm.region (by kernel_rfl) (by kernel_rfl) (fun w' => Rw w' wr.heap.size 36 #[.int .i64 x.p, .int .i64 x.s, .int .i64 x.i] ∧ w'.rangeAt g (o + m * 3) y.cells ∧ Below w.heap.size w w') ⟨R, d2, hbel.drew⟩ ?_
            all_goals
              refine Calm.pure (v := ?_) (by rfl) ?_ ?_; rotate_left; focus (intro w hSw; go_simp <;> rfl)
              simp only [put4]
            all_goals
              refine Calm.pure (v := .int .i64 x.i) (by rfl) ?_ ?_; focus (intro w hSw; have g1 : w.cell? ⟨wr.heap.size, 2, none⟩ = some (.int .i64 x.i) := hSw.1.cell 2; go_simp)
              simp only [put4]
            iterate 2
              all_goals
                refine Calm.pure (v := ?_) (by rfl) ?_ ?_; rotate_left; focus (intro w hSw; go_simp <;> rfl)
                simp only [put4]
            iterate 7
              all_goals
                first
                  | (refine Calm.skip ?_ ?_; focus rfl)
                  | (refine Calm.pure (v := ?_) (by rfl) ?_ ?_
                     rotate_left
                     focus (intro w hSw; go_simp <;> rfl))
                simp only [put4]
            iterate 2
              all_goals
                first
                  | (refine Calm.skip ?_ ?_; focus rfl)
                  | (first | (refine Calm.loadM 36 Tryz.underlying36 rfl zy (by rfl) _ rfl rfl (fun _ h => h.2.1) ?_) | (refine Calm.loadM 36 Tryz.underlying36 rfl zm (by rfl) _ rfl rfl (fun _ h => Rw.whole h.1) ?_))
                simp only [put4]
            all_goals
              first
                | (refine Calm.skip ?_ ?_; focus rfl)
                | (refine Calm.call2s (by rfl) rfl rfl rfl (by kernel_rfl) hs (fun w1 h => C2 w1) ?_)
              simp only [put4]
            iterate 2
              all_goals
                first
                  | (refine Calm.skip ?_ ?_; focus rfl)
                  | (refine Calm.pure (v := ?_) (by rfl) ?_ ?_
                     rotate_left
                     focus (intro w hSw; go_simp <;> rfl))
                simp only [put4]
            all_goals
              refine Calm.pure (v := ?_) (by rfl) ?_ ?_; rotate_left; focus (intro w hSw; go_simp <;> rfl)
              simp only [put4]
            all_goals
              rintro w9 ⟨_, _, hbel9⟩
            go_wp2_with fail; go_roundw
            case rel => exact ⟨m + 1 + 1, by simp, by omega, HV2, hbel9⟩
            case measure => simp [intOf]; omega
    · have hlt' : ¬ (k : Int) < (l.length : Int) := by omega
      have e := HZ.out; rw [(ca_iff l).2 (fun i h => HV.out i h (by omega))] at e; subst e; clear HZ HV HR; go_wp2_with fail; go_ret; exact ⟨rfl, hbel⟩
end Go.Proofs.YtfjpbmdmkcihcaaGreat
/- The functions isPeer, Has and Next of package vec. -/
namespace Go.Proofs.YtfjpbmdmkcihcaaGreat
open Go.RowKit

set_option maxRecDepth 100000 in
theorem isPeer_not (p : Int) (w : World) (hp : ¬ (1 ≤ p ∧ p ≤ 12)) :
    Calls Tryz.prog 68 #[.int .i64 p] w fun e w' => e = .returned (.bool false) ∧ Below w.heap.size w w' := by
  by_cases h : 1 ≤ p
  · have h2 : ¬ p ≤ 12 := by omega
    go_enter Tryz.func68, Tryz.ntmps68
    go_wp2
    go_ret; exact ⟨by simp, Below.refl _ _⟩
  · go_enter Tryz.func68, Tryz.ntmps68
    go_wp2
    go_ret; exact ⟨by simp, Below.refl _ _⟩

set_option maxRecDepth 100000 in
theorem isPeer_yes (n : Nat) (w : World) (h1 : 1 ≤ n) (h2 : n ≤ 12) :
    Calls Tryz.prog 68 #[.int .i64 n] w fun e w' => e = .returned (.bool true) ∧ Below w.heap.size w w' := by
  have h3 : (1 : Int) ≤ (n : Int) := by omega
  have h4 : (n : Int) ≤ 12 := by omega
  go_enter Tryz.func68, Tryz.ntmps68
  go_wp2
  go_ret; exact ⟨by simp, Below.refl _ _⟩

theorem dot_cell0 (w : World) {b : Nat} (hb : b = w.heap.size) (p s : Int) : (w.alloc (.cells #[.int .i64 p, .int .i64 s] 29)).cell? ⟨b, 0, none⟩ = some (.int .i64 p) := by
  subst hb; rw [cell_of_row _ _ 0 _ 29 (0, 0) (heap_alloc_last w _)]
  rfl
theorem dot_cell1 (w : World) {b : Nat} (hb : b = w.heap.size) (p s : Int) : (w.alloc (.cells #[.int .i64 p, .int .i64 s] 29)).cell? ⟨b, 1, none⟩ = some (.int .i64 s) := by
  subst hb; rw [cell_of_row _ _ 1 _ 29 (0, 0) (heap_alloc_last w _)]
  rfl

set_option maxHeartbeats 1000000 in
set_option maxRecDepth 100000 in
theorem has_not (v : List Int) (p s : Int) (w : World) (hp : ¬ (1 ≤ p ∧ p ≤ 12)) :
    Calls Tryz.prog 46 #[V v, D p s] w fun e w' => e = .returned (.bool false) ∧ Below w.heap.size w w' := by
  have hC28 := fun w1 => isPeer_not p w1 hp
  go_enter Tryz.func46, Tryz.ntmps46
  go_wp2
  obtain ⟨w0, hw0⟩ : ∃ w0, w0 = (w.alloc (.cells (vals v).toArray 31)).alloc (.cells #[.int .i64 p, .int .i64 s] 29) := ⟨_, rfl⟩
  have g1 : w0.cell? ⟨w.heap.size + 1, 0, none⟩ = some (.int .i64 p) := by rw [hw0]; exact dot_cell0 _ (by simp) p s
  have g2 : w0.cell? ⟨w.heap.size + 1, 1, none⟩ = some (.int .i64 s) := by rw [hw0]; exact dot_cell1 _ (by simp) p s
  have hbel : Below w.heap.size w w0 := by rw [hw0]; exact ((Below.refl _ _).alloc (Nat.le_refl _) _).alloc (by simp) _
  have hs : Calm.Stays (fun w' => w'.cell? ⟨w.heap.size + 1, 0, none⟩ = some (.int .i64 p) ∧ w'.cell? ⟨w.heap.size + 1, 1, none⟩ = some (.int .i64 s) ∧ Below w.heap.size w w') := fun w1 w2 h hb => ⟨cell_later hb h.1, cell_later hb h.2.1, below_on h.2.2 hb⟩
  rw [← hw0]; clear hw0; refine Calm.region (by kernel_rfl) (by kernel_rfl) (fun w' => w'.cell? ⟨w.heap.size + 1, 0, none⟩ = some (.int .i64 p) ∧ w'.cell? ⟨w.heap.size + 1, 1, none⟩ = some (.int .i64 s) ∧ Below w.heap.size w w') ⟨g1, g2, hbel.drew⟩ ?_; clear g1 g2 hbel
  iterate 2
    all_goals
      refine Calm.pure (v := ?_) (by rfl) ?_ ?_; rotate_left; focus (intro w hSw; go_simp <;> rfl)
      simp only [put4]
  all_goals
    refine Calm.call1 (by rfl) rfl rfl (by kernel_rfl) hs hC28 ?_; simp only [put4]
  all_goals
    refine Calm.pure (v := ?_) (by rfl) ?_ ?_; rotate_left; focus (intro w hSw; go_simp <;> rfl)
    simp only [put4]
  iterate 3
    all_goals
      first
        | (refine Calm.skip ?_ ?_; focus rfl)
        | (refine Calm.pure (v := ?_) (by rfl) ?_ ?_
           rotate_left
           focus (intro w hSw; go_simp <;> rfl))
      simp only [put4]
  iterate 2
    all_goals
      refine Calm.pure (v := ?_) (by rfl) ?_ ?_; rotate_left; focus (intro w hSw; go_simp <;> rfl)
      simp only [put4]
  iterate 7
    all_goals
      first
        | (refine Calm.skip ?_ ?_; focus rfl)
        | (refine Calm.pure (v := ?_) (by rfl) ?_ ?_
           rotate_left
           focus (intro w hSw; go_simp <;> rfl))
      simp only [put4]
  iterate 2
    all_goals
      refine Calm.pure (v := ?_) (by rfl) ?_ ?_; rotate_left; focus (intro w hSw; go_simp <;> rfl)
      simp only [put4]
  rintro w9 ⟨_, _, hbel9⟩
  go_wp2
  go_ret; exact ⟨rfl, hbel9⟩

set_option maxHeartbeats 1000000 in
set_option maxRecDepth 100000 in
theorem has_peer (v : List Int) (n : Nat) (s : Int) (w : World) (hv : v.length = 13) (hn1 : 1 ≤ n) (hn2 : n ≤ 12) :
    Calls Tryz.prog 46 #[V v, D n s] w fun e w' => e = .returned (.bool (decide (1 ≤ s) && decide (s ≤ v.getD n 0))) ∧ Below w.heap.size w w' := by
  have hC28 := fun w1 => isPeer_yes n w1 hn1 hn2
  obtain ⟨x, HX⟩ : ∃ x, Hid (v.getD n 0 = x) := ⟨_, rfl⟩; rw [HX.out]; have hat := at_new w v hv
  go_enter Tryz.func46, Tryz.ntmps46
  go_wp2
  obtain ⟨w0, hw0⟩ : ∃ w0, w0 = (w.alloc (.cells (vals v).toArray 31)).alloc (.cells #[.int .i64 n, .int .i64 s] 29) := ⟨_, rfl⟩
  have g1 : w0.cell? ⟨w.heap.size + 1, 0, none⟩ = some (.int .i64 n) := by rw [hw0]; exact dot_cell0 _ (by simp) n s
  have g2 : w0.cell? ⟨w.heap.size + 1, 1, none⟩ = some (.int .i64 s) := by rw [hw0]; exact dot_cell1 _ (by simp) n s
  have g3 : w0.cell? ⟨w.heap.size, n, none⟩ = some (.int .i64 x) := by
    rw [hw0, ← HX.out]; exact (hat.alloc _).cell (by omega)
  have hbel : Below w.heap.size w w0 := by rw [hw0]; exact ((Below.refl _ _).alloc (Nat.le_refl _) _).alloc (by simp) _
  have hs : Calm.Stays (fun w' => w'.cell? ⟨w.heap.size + 1, 0, none⟩ = some (.int .i64 n) ∧ w'.cell? ⟨w.heap.size + 1, 1, none⟩ = some (.int .i64 s) ∧ w'.cell? ⟨w.heap.size, n, none⟩ = some (.int .i64 x) ∧ Below w.heap.size w w') := fun w1 w2 h hb => ⟨cell_later hb h.1, cell_later hb h.2.1, cell_later hb h.2.2.1, below_on h.2.2.2 hb⟩
  rw [← hw0]; clear hw0 hat; refine Calm.region (by kernel_rfl) (by kernel_rfl) (fun w' => w'.cell? ⟨w.heap.size + 1, 0, none⟩ = some (.int .i64 n) ∧ w'.cell? ⟨w.heap.size + 1, 1, none⟩ = some (.int .i64 s) ∧ w'.cell? ⟨w.heap.size, n, none⟩ = some (.int .i64 x) ∧ Below w.heap.size w w') ⟨g1, g2, g3, hbel.drew⟩ ?_; clear g1 g2 g3 hbel
  have hi1 : (0 : Int) ≤ (n : Int) := by omega
  have hi2 : (n : Int) < 13 := by omega
  by_cases hs1 : 1 ≤ s <;> by_cases hs2 : s ≤ x
  all_goals
    all_goals
      refine Calm.pure (v := ?_) (by rfl) ?_ ?_; rotate_left; focus (intro w hSw; go_simp <;> rfl)
      simp only [put4]
    all_goals
      refine Calm.pure (v := ?_) (by rfl) ?_ ?_; rotate_left; focus (intro w hSw; go_simp <;> rfl)
      simp only [put4]
    all_goals
      refine Calm.call1 (by rfl) rfl rfl (by kernel_rfl) hs hC28 ?_; simp only [put4]
    all_goals
      refine Calm.pure (v := ?_) (by rfl) ?_ ?_; rotate_left; focus (intro w hSw; go_simp <;> rfl)
      simp only [put4]
    all_goals
      first
        | (refine Calm.skip ?_ ?_; focus rfl)
        | (refine Calm.pure (v := ?_) (by rfl) ?_ ?_
           rotate_left
           focus (intro w hSw; go_simp <;> rfl))
      simp only [put4]
    all_goals
      first
        | (refine Calm.skip ?_ ?_; focus rfl)
        | (refine Calm.pure (v := ?_) (by rfl) ?_ ?_
           rotate_left
           focus (intro w hSw; go_simp <;> rfl))
      simp only [put4]
    all_goals
      first
        | (refine Calm.skip ?_ ?_; focus rfl)
        | (refine Calm.pure (v := ?_) (by rfl) ?_ ?_
           rotate_left
           focus (intro w hSw; go_simp <;> rfl))
      simp only [put4]
    all_goals
      refine Calm.pure (v := ?_) (by rfl) ?_ ?_; rotate_left; focus (intro w hSw; go_simp <;> rfl)
      simp only [put4]
    all_goals
      refine Calm.pure (v := ?_) (by rfl) ?_ ?_; rotate_left; focus (intro w hSw; go_simp <;> rfl)
      simp only [put4]
    all_goals
      first
        | (refine Calm.skip ?_ ?_; focus rfl)
        | (refine Calm.pure (v := ?_) (by rfl) ?_ ?_
           rotate_left
           focus (intro w hSw; go_simp <;> rfl))
      simp only [put4]
    all_goals
      first
        | (refine Calm.skip ?_ ?_; focus rfl)
        | (refine Calm.pure (v := ?_) (by rfl) ?_ ?_
           rotate_left
           focus (intro w hSw; go_simp <;> rfl))
      simp only [put4]
    all_goals
      first
        | (refine Calm.skip ?_ ?_; focus rfl)
        | (refine Calm.pure (v := ?_) (by rfl) ?_ ?_
           rotate_left
           focus (intro w hSw; go_simp <;> rfl))
      simp only [put4]
    all_goals
      first
        | (refine Calm.skip ?_ ?_; focus rfl)
        | (refine Calm.pure (v := ?_) (by rfl) ?_ ?_
           rotate_left
           focus (intro w hSw; go_simp <;> rfl))
      simp only [put4]
    all_goals
      first
        | (refine Calm.skip ?_ ?_; focus rfl)
        | (refine Calm.pure (v := ?_) (by rfl) ?_ ?_
           rotate_left
           focus (intro w hSw; go_simp <;> rfl))
      simp only [put4]
    all_goals
      first
        | (refine Calm.skip ?_ ?_; focus rfl)
        | (refine Calm.pure (v := ?_) (by rfl) ?_ ?_
           rotate_left
           focus (intro w hSw; go_simp <;> rfl))
      simp only [put4]
    all_goals
      first
        | (refine Calm.skip ?_ ?_; focus rfl)
        | (refine Calm.pure (v := ?_) (by rfl) ?_ ?_
           rotate_left
           focus (intro w hSw; go_simp <;> rfl))
      simp only [put4]
    all_goals
      refine Calm.pure (v := ?_) (by rfl) ?_ ?_; rotate_left; focus (intro w hSw; go_simp <;> rfl)
      simp only [put4]
    all_goals
      refine Calm.pure (v := ?_) (by rfl) ?_ ?_; rotate_left; focus (intro w hSw; go_simp <;> rfl)
      simp only [put4]
    rintro w9 ⟨_, _, _, hbel9⟩
    go_wp2
    go_ret; refine ⟨?_, hbel9⟩
    first
      | (simp [*]; done)
      | (simp [*]; omega)

end Go.Proofs.YtfjpbmdmkcihcaaGreat
