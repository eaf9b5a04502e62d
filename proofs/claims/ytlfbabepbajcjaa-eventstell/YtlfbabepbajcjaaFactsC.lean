/- Calls of three and four arguments, and of functions that are handed in, in a region that draws its order. -/
import Derived.Test.YtlfbabepbajcjaaFactsH
namespace Go.Proofs.Ytlfbabepbajcjaa
open Go.RowKit

section
variable {Q : Exit → Act → World → Prop} {S : World → Prop} {md : Region.Mode} {A : (Nat → Value) → Act} {F : List Facts.Fact} {i : Nat} {o : Oper}
theorem Facts.call4T (hS : Calm.Stays S) (hF : Facts.Stay F) (hA : ∀ x u, (A x).put o.dst u = A (Facts.put x i u)) {fn : FuncId} {ts : Array TypeId} {u0 u1 u2 u3 : Operand} (ho : o.op = .call { callee := .value (.func fn), args := #[u0, u1, u2, u3], argTypes := ts }) (hf : Calm.enters Try.prog fn = true) {z : EV} (hz : F[i]? = some (isF i z))
    (h : ∀ x w, S w → (∀ e ∈ o.after, Region.binds md e = true → ∀ f, F[e.on]? = some f → Facts.holds f x w) → Calls Try.prog fn #[(A x).eval u0, (A x).eval u1, (A x).eval u2, (A x).eval u3] w (Gives z w)) : Facts.StepOk Try.prog md Q S A F i o :=
  Facts.call (f := fn) hS hF hA fun x w hSw hdep => ⟨#[(A x).eval u0, (A x).eval u1, (A x).eval u2, (A x).eval u3], by
    have e : ∀ args, (callFunc fn args).run Try.prog w = .ok (.enter fn args) w := fun args => Calm.enters_run hf args w
    unfold execOp
    simp [ho, go_sem, Act.eval, e], (h x w hSw hdep).mono fun e w' ⟨n, p, l, c, he, hi, hb⟩ => ⟨_, he, hb, fun f hf' => by
      rw [hz] at hf'
      obtain rfl := Option.some.inj hf'
      exact isF_put hi⟩⟩
theorem Facts.call4V (hS : Calm.Stays S) (hF : Facts.Stay F) (hA : ∀ x u, (A x).put o.dst u = A (Facts.put x i u)) {fn : FuncId} {ts : Array TypeId} {u0 u1 u2 u3 : Operand} (ho : o.op = .call { callee := .value (.func fn), args := #[u0, u1, u2, u3], argTypes := ts }) (hf : Calm.enters Try.prog fn = true) {v : Value} (hz : F[i]? = some (eqF i v))
    (h : ∀ x w, S w → (∀ e ∈ o.after, Region.binds md e = true → ∀ f, F[e.on]? = some f → Facts.holds f x w) → Calls Try.prog fn #[(A x).eval u0, (A x).eval u1, (A x).eval u2, (A x).eval u3] w (Tells v w)) : Facts.StepOk Try.prog md Q S A F i o :=
  Facts.call (f := fn) hS hF hA fun x w hSw hdep => ⟨#[(A x).eval u0, (A x).eval u1, (A x).eval u2, (A x).eval u3], by
    have e : ∀ args, (callFunc fn args).run Try.prog w = .ok (.enter fn args) w := fun args => Calm.enters_run hf args w
    unfold execOp
    simp [ho, go_sem, Act.eval, e], (h x w hSw hdep).mono fun e w' ⟨he, hb⟩ => ⟨_, he, hb, fun f hf' => by
      rw [hz] at hf'
      obtain rfl := Option.some.inj hf'
      simp [Facts.holds, eqF, Facts.put]⟩⟩
theorem Facts.call3V (hS : Calm.Stays S) (hF : Facts.Stay F) (hA : ∀ x u, (A x).put o.dst u = A (Facts.put x i u)) {fn : FuncId} {ts : Array TypeId} {u0 u1 u2 : Operand} (ho : o.op = .call { callee := .value (.func fn), args := #[u0, u1, u2], argTypes := ts }) (hf : Calm.enters Try.prog fn = true) {v : Value} (hz : F[i]? = some (eqF i v))
    (h : ∀ x w, S w → (∀ e ∈ o.after, Region.binds md e = true → ∀ f, F[e.on]? = some f → Facts.holds f x w) → Calls Try.prog fn #[(A x).eval u0, (A x).eval u1, (A x).eval u2] w (Tells v w)) : Facts.StepOk Try.prog md Q S A F i o :=
  Facts.call (f := fn) hS hF hA fun x w hSw hdep => ⟨#[(A x).eval u0, (A x).eval u1, (A x).eval u2], by
    have e : ∀ args, (callFunc fn args).run Try.prog w = .ok (.enter fn args) w := fun args => Calm.enters_run hf args w
    unfold execOp
    simp [ho, go_sem, Act.eval, e], (h x w hSw hdep).mono fun e w' ⟨he, hb⟩ => ⟨_, he, hb, fun f hf' => by
      rw [hz] at hf'
      obtain rfl := Option.some.inj hf'
      simp [Facts.holds, eqF, Facts.put]⟩⟩
theorem Facts.callF2T (hS : Calm.Stays S) (hF : Facts.Stay F) (hA : ∀ x u, (A x).put o.dst u = A (Facts.put x i u)) {fn : FuncId} {ts : Array TypeId} {u0 u1 t : Operand} (ho : o.op = .call { callee := .value t, args := #[u0, u1], argTypes := ts }) (hf : Calm.enters Try.prog fn = true) {z : EV} (hz : F[i]? = some (isF i z))
    (h : ∀ x w, S w → (∀ e ∈ o.after, Region.binds md e = true → ∀ f, F[e.on]? = some f → Facts.holds f x w) → (A x).eval t = .func (.func fn) #[] #[] ∧ Calls Try.prog fn #[(A x).eval u0, (A x).eval u1] w (Gives z w)) : Facts.StepOk Try.prog md Q S A F i o :=
  Facts.call (f := fn) hS hF hA fun x w hSw hdep => ⟨#[(A x).eval u0, (A x).eval u1], by
    have e : ∀ args, (callFunc fn args).run Try.prog w = .ok (.enter fn args) w := fun args => Calm.enters_run hf args w
    have hv := (h x w hSw hdep).1
    generalize (A x).eval = ρ at hv
    unfold execOp
    simp [ho, go_sem, hv, e], (h x w hSw hdep).2.mono fun e w' ⟨n, p, l, c, he, hi, hb⟩ => ⟨_, he, hb, fun f hf' => by
      rw [hz] at hf'
      obtain rfl := Option.some.inj hf'
      exact isF_put hi⟩⟩
theorem Facts.callF2V (hS : Calm.Stays S) (hF : Facts.Stay F) (hA : ∀ x u, (A x).put o.dst u = A (Facts.put x i u)) {fn : FuncId} {ts : Array TypeId} {u0 u1 t : Operand} (ho : o.op = .call { callee := .value t, args := #[u0, u1], argTypes := ts }) (hf : Calm.enters Try.prog fn = true) {v : Value} (hz : F[i]? = some (eqF i v))
    (h : ∀ x w, S w → (∀ e ∈ o.after, Region.binds md e = true → ∀ f, F[e.on]? = some f → Facts.holds f x w) → (A x).eval t = .func (.func fn) #[] #[] ∧ Calls Try.prog fn #[(A x).eval u0, (A x).eval u1] w (Tells v w)) : Facts.StepOk Try.prog md Q S A F i o :=
  Facts.call (f := fn) hS hF hA fun x w hSw hdep => ⟨#[(A x).eval u0, (A x).eval u1], by
    have e : ∀ args, (callFunc fn args).run Try.prog w = .ok (.enter fn args) w := fun args => Calm.enters_run hf args w
    have hv := (h x w hSw hdep).1
    generalize (A x).eval = ρ at hv
    unfold execOp
    simp [ho, go_sem, hv, e], (h x w hSw hdep).2.mono fun e w' ⟨he, hb⟩ => ⟨_, he, hb, fun f hf' => by
      rw [hz] at hf'
      obtain rfl := Option.some.inj hf'
      simp [Facts.holds, eqF, Facts.put]⟩⟩
end
end Go.Proofs.Ytlfbabepbajcjaa
