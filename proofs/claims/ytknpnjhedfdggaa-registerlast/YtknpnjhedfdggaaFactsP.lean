/- Facts of operations of a region that draws its order: what is known of the value that one comes to, and of the memory, as long as what was there is left alone. -/
import Derived.Test.YtknpnjhedfdggaaFactsG
import Derived.Test.YtknpnjhedfdggaaFactsL
import Derived.Test.YtknpnjhedfdggaaCk

namespace Go.Proofs.Ytknpnjhedfdggaa
open Go.RowKit

/-- It stays. -/
def Keeps (φ : Value → World → Prop) : Prop := ∀ v w w', φ v w → Below w.heap.size w w' → φ v w'
def pF (i : Nat) (φ : Value → World → Prop) : Facts.Fact := ([i], fun vs w => ∃ v, vs = [v] ∧ φ v w)
abbrev eqP (v : Value) : Value → World → Prop := fun u _ => u = v
def cP (x : X) : Value → World → Prop := fun u w => CHas w u x
/-- A new box. -/
def boxP (N : Nat) (t : TypeId) (cs : Array Value) : Value → World → Prop := fun u w => ∃ q, u = .pointer (some ⟨q, 0, none⟩) ∧ N ≤ q ∧ Rw w q t cs
/-- A row of its own. -/
def ownP (B e S n : Nat) (xs : List Value) : Value → World → Prop := fun u w => w.ownsRow B e S u n xs
theorem eqP_keeps (v : Value) : Keeps (eqP v) := fun _ _ _ h _ => h
theorem cP_keeps (x : X) : Keeps (cP x) := fun _ _ _ h hb => h.later hb
theorem boxP_keeps (N : Nat) (t : TypeId) (cs : Array Value) : Keeps (boxP N t cs) := fun _ _ _ ⟨q, e, hN, h⟩ hb => ⟨q, e, hN, h.later hb⟩
theorem ownP_keeps (B e S n : Nat) (xs : List Value) : Keeps (ownP B e S n xs) := fun _ _ _ h hb => own_later h hb
theorem pF_get {i : Nat} {φ : Value → World → Prop} {x : Nat → Value} {w : World} (h : Facts.holds (pF i φ) x w) : φ (x i) w := by
  obtain ⟨v, e, hv⟩ := h
  simp only [pF, List.map_cons, List.map_nil, List.cons.injEq, and_true] at e
  rw [e]
  exact hv
theorem pF_put {i : Nat} {φ : Value → World → Prop} {x : Nat → Value} {u : Value} {w : World} (h : φ u w) : Facts.holds (pF i φ) (Facts.put x i u) w := ⟨u, by simp [Facts.put, pF], h⟩
theorem stay_of {F : List Facts.Fact} (h : ∀ f ∈ F, ∃ i φ, f = pF i φ ∧ Keeps φ) : Facts.Stay F := fun _ f hj vs w w' hf hb => by
  obtain ⟨i, φ, rfl, hk⟩ := h f (List.mem_of_getElem? hj)
  obtain ⟨v, e, hv⟩ := hf
  exact ⟨v, e, hk v w w' hv hb⟩

section
variable {Q : Exit → Act → World → Prop} {S : World → Prop} {md : Region.Mode} {A : (Nat → Value) → Act} {F : List Facts.Fact} {i : Nat} {o : Oper} {φ : Value → World → Prop}
theorem Facts.pureP {v : Value} (hS : Calm.Stays S) (hF : Facts.Stay F) (hA : ∀ x u, (A x).put o.dst u = A (Facts.put x i u)) (hf : F[i]? = some (pF i (eqP v)))
    (h : ∀ x w, S w → (∀ e ∈ o.after, Region.binds md e = true → ∀ f, F[e.on]? = some f → Facts.holds f x w) → (execOp (A x).eval o).run Try.prog w = .ok (.value v) w) : Facts.StepOk Try.prog md Q S A F i o :=
  Facts.step hS hF hA fun x w hSw hdep => by
    unfold Oper.wp
    rw [h x w hSw hdep]
    refine ⟨v, rfl, Below.refl _ _, fun f hf' => ?_⟩
    rw [hf] at hf'
    obtain rfl := Option.some.inj hf'
    exact pF_put rfl
/-- A value is handed on as it is. -/
theorem Facts.moveP (hS : Calm.Stays S) (hF : Facts.Stay F) (hA : ∀ x u, (A x).put o.dst u = A (Facts.put x i u)) (hf : F[i]? = some (pF i φ)) (v : (Nat → Value) → Value)
    (h : ∀ x w, S w → (∀ e ∈ o.after, Region.binds md e = true → ∀ f, F[e.on]? = some f → Facts.holds f x w) → (execOp (A x).eval o).run Try.prog w = .ok (.value (v x)) w ∧ φ (v x) w) : Facts.StepOk Try.prog md Q S A F i o :=
  Facts.step hS hF hA fun x w hSw hdep => by
    unfold Oper.wp
    rw [(h x w hSw hdep).1]
    refine ⟨v x, rfl, Below.refl _ _, fun f hf' => ?_⟩
    rw [hf] at hf'
    obtain rfl := Option.some.inj hf'
    exact pF_put (h x w hSw hdep).2
/-- A struct is loaded whole. -/
theorem Facts.loadP (hS : Calm.Stays S) (hF : Facts.Stay F) (hA : ∀ x u, (A x).put o.dst u = A (Facts.put x i u)) (t : TypeId) {d : TypeDesc} (hu : Try.prog.underlying t = some d) (hd : d.isRow = true) {b f : Nat} {cs : List Value} (hi : (Try.prog.info? t).map (·.size) = some cs.length) (u : Operand) (ho : o.op = .load t u)
    (hf : F[i]? = some (pF i (eqP (.agg cs.toArray)))) (hx : ∀ x w, S w → (∀ e ∈ o.after, Region.binds md e = true → ∀ f, F[e.on]? = some f → Facts.holds f x w) → (A x).eval u = .pointer (some ⟨b, f, none⟩)) (hc : ∀ w, S w → w.rangeAt b f cs) : Facts.StepOk Try.prog md Q S A F i o :=
  Facts.pureP hS hF hA hf fun x w hSw hdep => by
    have h2 := run_loadVar_mid (P := Try.prog) w b f t cs d (hc w hSw) hu hd hi
    unfold execOp
    simp only [ho, hx x w hSw hdep, Instr.loadAt, Instr.sureAddr, Sem.run_bind, Sem.run_pure, h2, Result.andThen_ok]
/-- A new box. -/
theorem Facts.allocP (hS : Calm.Stays S) (hF : Facts.Stay F) (hA : ∀ x u, (A x).put o.dst u = A (Facts.put x i u)) (t : TypeId) {N : Nat} {cs : Array Value} (hf : F[i]? = some (pF i (boxP N t cs))) (hN : ∀ w, S w → N ≤ w.heap.size)
    (h : ∀ x w, (execOp (A x).eval o).run Try.prog w = .ok (.value (.pointer (some ⟨w.heap.size, 0, none⟩))) (w.alloc (.cells cs t))) : Facts.StepOk Try.prog md Q S A F i o :=
  Facts.step hS hF hA fun x w hSw hdep => by
    unfold Oper.wp
    rw [h x w]
    refine ⟨_, rfl, bel_alloc (Below.refl _ _) _, fun f hf' => ?_⟩
    rw [hf] at hf'
    obtain rfl := Option.some.inj hf'
    exact pF_put ⟨_, rfl, hN w hSw, rw_new w t cs⟩
theorem Facts.call0P (hS : Calm.Stays S) (hF : Facts.Stay F) (hA : ∀ x u, (A x).put o.dst u = A (Facts.put x i u)) {fn : FuncId} {ts : Array TypeId} (ho : o.op = .call { callee := .value (.func fn), args := #[], argTypes := ts }) (hf : Calm.enters Try.prog fn = true) (hz : F[i]? = some (pF i φ))
    (h : ∀ x w, S w → (∀ e ∈ o.after, Region.binds md e = true → ∀ f, F[e.on]? = some f → Facts.holds f x w) → Calls Try.prog fn #[] w fun e w' => ∃ r, e = .returned r ∧ φ r w' ∧ Below w.heap.size w w') : Facts.StepOk Try.prog md Q S A F i o :=
  Facts.call (f := fn) hS hF hA fun x w hSw hdep => ⟨#[], by
    have e : ∀ args, (callFunc fn args).run Try.prog w = .ok (.enter fn args) w := fun args => Calm.enters_run hf args w
    unfold execOp
    simp [ho, go_sem, Act.eval, e], (h x w hSw hdep).mono fun e w' ⟨r, he, hr, hb⟩ => ⟨r, he, hb, fun f hf' => by
      rw [hz] at hf'
      obtain rfl := Option.some.inj hf'
      exact pF_put hr⟩⟩
theorem Facts.call1P (hS : Calm.Stays S) (hF : Facts.Stay F) (hA : ∀ x u, (A x).put o.dst u = A (Facts.put x i u)) {fn : FuncId} {ts : Array TypeId} {u1 : Operand} (ho : o.op = .call { callee := .value (.func fn), args := #[u1], argTypes := ts }) (hf : Calm.enters Try.prog fn = true) (hz : F[i]? = some (pF i φ))
    (h : ∀ x w, S w → (∀ e ∈ o.after, Region.binds md e = true → ∀ f, F[e.on]? = some f → Facts.holds f x w) → Calls Try.prog fn #[(A x).eval u1] w fun e w' => ∃ r, e = .returned r ∧ φ r w' ∧ Below w.heap.size w w') : Facts.StepOk Try.prog md Q S A F i o :=
  Facts.call (f := fn) hS hF hA fun x w hSw hdep => ⟨#[(A x).eval u1], by
    have e : ∀ args, (callFunc fn args).run Try.prog w = .ok (.enter fn args) w := fun args => Calm.enters_run hf args w
    unfold execOp
    simp [ho, go_sem, Act.eval, e], (h x w hSw hdep).mono fun e w' ⟨r, he, hr, hb⟩ => ⟨r, he, hb, fun f hf' => by
      rw [hz] at hf'
      obtain rfl := Option.some.inj hf'
      exact pF_put hr⟩⟩
theorem Facts.call2P (hS : Calm.Stays S) (hF : Facts.Stay F) (hA : ∀ x u, (A x).put o.dst u = A (Facts.put x i u)) {fn : FuncId} {ts : Array TypeId} {u1 u2 : Operand} (ho : o.op = .call { callee := .value (.func fn), args := #[u1, u2], argTypes := ts }) (hf : Calm.enters Try.prog fn = true) (hz : F[i]? = some (pF i φ))
    (h : ∀ x w, S w → (∀ e ∈ o.after, Region.binds md e = true → ∀ f, F[e.on]? = some f → Facts.holds f x w) → Calls Try.prog fn #[(A x).eval u1, (A x).eval u2] w fun e w' => ∃ r, e = .returned r ∧ φ r w' ∧ Below w.heap.size w w') : Facts.StepOk Try.prog md Q S A F i o :=
  Facts.call (f := fn) hS hF hA fun x w hSw hdep => ⟨#[(A x).eval u1, (A x).eval u2], by
    have e : ∀ args, (callFunc fn args).run Try.prog w = .ok (.enter fn args) w := fun args => Calm.enters_run hf args w
    unfold execOp
    simp [ho, go_sem, Act.eval, e], (h x w hSw hdep).mono fun e w' ⟨r, he, hr, hb⟩ => ⟨r, he, hb, fun f hf' => by
      rw [hz] at hf'
      obtain rfl := Option.some.inj hf'
      exact pF_put hr⟩⟩
theorem Facts.call3P (hS : Calm.Stays S) (hF : Facts.Stay F) (hA : ∀ x u, (A x).put o.dst u = A (Facts.put x i u)) {fn : FuncId} {ts : Array TypeId} {u1 u2 u3 : Operand} (ho : o.op = .call { callee := .value (.func fn), args := #[u1, u2, u3], argTypes := ts }) (hf : Calm.enters Try.prog fn = true) (hz : F[i]? = some (pF i φ))
    (h : ∀ x w, S w → (∀ e ∈ o.after, Region.binds md e = true → ∀ f, F[e.on]? = some f → Facts.holds f x w) → Calls Try.prog fn #[(A x).eval u1, (A x).eval u2, (A x).eval u3] w fun e w' => ∃ r, e = .returned r ∧ φ r w' ∧ Below w.heap.size w w') : Facts.StepOk Try.prog md Q S A F i o :=
  Facts.call (f := fn) hS hF hA fun x w hSw hdep => ⟨#[(A x).eval u1, (A x).eval u2, (A x).eval u3], by
    have e : ∀ args, (callFunc fn args).run Try.prog w = .ok (.enter fn args) w := fun args => Calm.enters_run hf args w
    unfold execOp
    simp [ho, go_sem, Act.eval, e], (h x w hSw hdep).mono fun e w' ⟨r, he, hr, hb⟩ => ⟨r, he, hb, fun f hf' => by
      rw [hz] at hf'
      obtain rfl := Option.some.inj hf'
      exact pF_put hr⟩⟩
theorem Facts.call4P (hS : Calm.Stays S) (hF : Facts.Stay F) (hA : ∀ x u, (A x).put o.dst u = A (Facts.put x i u)) {fn : FuncId} {ts : Array TypeId} {u1 u2 u3 u4 : Operand} (ho : o.op = .call { callee := .value (.func fn), args := #[u1, u2, u3, u4], argTypes := ts }) (hf : Calm.enters Try.prog fn = true) (hz : F[i]? = some (pF i φ))
    (h : ∀ x w, S w → (∀ e ∈ o.after, Region.binds md e = true → ∀ f, F[e.on]? = some f → Facts.holds f x w) → Calls Try.prog fn #[(A x).eval u1, (A x).eval u2, (A x).eval u3, (A x).eval u4] w fun e w' => ∃ r, e = .returned r ∧ φ r w' ∧ Below w.heap.size w w') : Facts.StepOk Try.prog md Q S A F i o :=
  Facts.call (f := fn) hS hF hA fun x w hSw hdep => ⟨#[(A x).eval u1, (A x).eval u2, (A x).eval u3, (A x).eval u4], by
    have e : ∀ args, (callFunc fn args).run Try.prog w = .ok (.enter fn args) w := fun args => Calm.enters_run hf args w
    unfold execOp
    simp [ho, go_sem, Act.eval, e], (h x w hSw hdep).mono fun e w' ⟨r, he, hr, hb⟩ => ⟨r, he, hb, fun f hf' => by
      rw [hz] at hf'
      obtain rfl := Option.some.inj hf'
      exact pF_put hr⟩⟩
end
/-- A contract that tells a value, or gives a cell, as a fact. -/
theorem tells_p {v : Value} {w : World} {e : Ending} {w' : World} (h : Tells v w e w') : ∃ r, e = .returned r ∧ eqP v r w' ∧ Below w.heap.size w w' := ⟨v, h.1, rfl, h.2⟩
theorem gives_p {x : X} {w : World} {e : Ending} {w' : World} (h : Gives x w e w') : ∃ r, e = .returned r ∧ cP x r w' ∧ Below w.heap.size w w' := by
  obtain ⟨va, vw, vm, ve, he, hf, hb⟩ := h
  exact ⟨_, he, ⟨va, vw, vm, ve, rfl, hf⟩, hb⟩
end Go.Proofs.Ytknpnjhedfdggaa
