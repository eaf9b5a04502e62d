/- A tree and another value, handed on within a region that draws its order. -/
import Derived.Test.YtdbkjafjanhhbaaFactsH
namespace Go.Proofs.Ytdbkjafjanhhbaa
open Go.RowKit

/-- A tree and a value. -/
def tvF (i : Nat) (x : ID) (r : Value) : Facts.Fact := ([i], fun vs w => ∃ n p l c, vs = [.tuple #[TV n p l c, r]] ∧ Is w x (TV n p l c))
theorem tvF_get {i : Nat} {y : ID} {r : Value} {x : Nat → Value} {w : World} (h : Facts.holds (tvF i y r) x w) : ∃ n p l c, x i = .tuple #[TV n p l c, r] ∧ Is w y (TV n p l c) := by simpa [Facts.holds, tvF] using h
theorem tvF_stays (i : Nat) (x : ID) (r : Value) : staysF (tvF i x r) := fun _ _ _ ⟨n, p, l, c, e, h⟩ hb => ⟨n, p, l, c, e, h.later hb⟩
theorem tvF_box (i : Nat) (x : ID) (r : Value) (q : Nat) : boxF (tvF i x r) q := fun _ _ _ _ _ _ ⟨n, p, l, c, e, h⟩ ⟨_, _, _, _, hq⟩ => ⟨n, p, l, c, e, h.box hq _⟩

section
variable {Q : Exit → Act → World → Prop} {S : World → Prop} {md : Region.Mode} {A : (Nat → Value) → Act} {F : List Facts.Fact} {i : Nat} {o : Oper}
/-- A function is called with two trees, and answers a tree and a number. -/
theorem Facts.call2W (hS : Calm.Stays S) (hF : Facts.Stay F) (hA : ∀ x u, (A x).put o.dst u = A (Facts.put x i u)) {fn : FuncId} {ts : Array TypeId} {u v : Operand} (ho : o.op = .call { callee := .value (.func fn), args := #[u, v], argTypes := ts }) (hf : Calm.enters Try.prog fn = true) {z : ID} {r : Value} (hz : F[i]? = some (tvF i z r))
    (h : ∀ x w, S w → (∀ e ∈ o.after, Region.binds md e = true → ∀ f, F[e.on]? = some f → Facts.holds f x w) → Calls Try.prog fn #[(A x).eval u, (A x).eval v] w fun e w' => ∃ n p l c, e = .returned (.tuple #[TV n p l c, r]) ∧ Is w' z (TV n p l c) ∧ Below w.heap.size w w') : Facts.StepOk Try.prog md Q S A F i o :=
  Facts.call (f := fn) hS hF hA fun x w hSw hdep => ⟨#[(A x).eval u, (A x).eval v], by
    have e : ∀ args, (callFunc fn args).run Try.prog w = .ok (.enter fn args) w := fun args => Calm.enters_run hf args w
    unfold execOp
    simp [ho, go_sem, Act.eval, e], (h x w hSw hdep).mono fun e w' ⟨n, p, l, c, he, hi, hb⟩ => ⟨_, he, hb, fun f hf' => by
      rw [hz] at hf'
      obtain rfl := Option.some.inj hf'
      exact ⟨n, p, l, c, by simp [Facts.put, tvF], hi⟩⟩⟩
/-- A tree and a number are handed on; the tree is taken out. -/
theorem Facts.moveW (hS : Calm.Stays S) (hF : Facts.Stay F) (hA : ∀ x u, (A x).put o.dst u = A (Facts.put x i u)) {u : Operand} (ho : o.op = .move u) {k : Nat} {z : ID} {r : Value} (hz : F[i]? = some (tvF i z r)) (hu : ∀ x, (A x).eval u = x k)
    (h : ∀ x w, S w → (∀ e ∈ o.after, Region.binds md e = true → ∀ f, F[e.on]? = some f → Facts.holds f x w) → Facts.holds (tvF k z r) x w) : Facts.StepOk Try.prog md Q S A F i o :=
  Facts.step hS hF hA fun x w hSw hdep => by
    obtain ⟨n, p, l, c, e, hi⟩ := tvF_get (h x w hSw hdep)
    unfold Oper.wp execOp
    simp only [ho, hu x, e, Sem.run_pure]
    refine ⟨_, rfl, Below.refl _ _, fun f hf' => ?_⟩
    rw [hz] at hf'
    obtain rfl := Option.some.inj hf'
    exact ⟨n, p, l, c, by simp [Facts.put, tvF], hi⟩
theorem Facts.fstW (hS : Calm.Stays S) (hF : Facts.Stay F) (hA : ∀ x u, (A x).put o.dst u = A (Facts.put x i u)) {u : Operand} (ho : o.op = .extract u 0) {k : Nat} {z : ID} {r : Value} (hz : F[i]? = some (isF i z)) (hu : ∀ x, (A x).eval u = x k)
    (h : ∀ x w, S w → (∀ e ∈ o.after, Region.binds md e = true → ∀ f, F[e.on]? = some f → Facts.holds f x w) → Facts.holds (tvF k z r) x w) : Facts.StepOk Try.prog md Q S A F i o :=
  Facts.step hS hF hA fun x w hSw hdep => by
    obtain ⟨n, p, l, c, e, hi⟩ := tvF_get (h x w hSw hdep)
    have hr : (execOp (A x).eval o).run Try.prog w = .ok (.value (TV n p l c)) w := by
      have hv := (hu x).trans e
      generalize (A x).eval = ρ at hv
      unfold execOp
      simp [ho, hv, go_sem]
    unfold Oper.wp
    rw [hr]
    refine ⟨_, rfl, Below.refl _ _, fun f hf' => ?_⟩
    rw [hz] at hf'
    obtain rfl := Option.some.inj hf'
    exact isF_put hi
theorem Facts.sndW (hS : Calm.Stays S) (hF : Facts.Stay F) (hA : ∀ x u, (A x).put o.dst u = A (Facts.put x i u)) {u : Operand} (ho : o.op = .extract u 1) {k : Nat} {z : ID} {r : Value} (hz : F[i]? = some (eqF i r)) (hu : ∀ x, (A x).eval u = x k)
    (h : ∀ x w, S w → (∀ e ∈ o.after, Region.binds md e = true → ∀ f, F[e.on]? = some f → Facts.holds f x w) → Facts.holds (tvF k z r) x w) : Facts.StepOk Try.prog md Q S A F i o :=
  Facts.pure hS hF hA hz fun x w hSw hdep => by
    obtain ⟨n, p, l, c, e, hi⟩ := tvF_get (h x w hSw hdep)
    have hv := (hu x).trans e
    generalize (A x).eval = ρ at hv
    unfold execOp
    simp [ho, hv, go_sem]
end
end Go.Proofs.Ytdbkjafjanhhbaa
