/- Facts of operations that load, store and answer trees, in a region that draws its order, guarded or not, with several new boxes. -/
import Derived.Test.YtlfbabepbajcjaaFactsT
import Derived.Test.YtlfbabepbajcjaaFactsG
namespace Go.Proofs.Ytlfbabepbajcjaa
open Go.RowKit

/-- New boxes (the operations of al) are not one. -/
def NotOne (al : List Nat) (i j : Nat) (u v : Value) : Prop := i ∈ al → j ∈ al → u ≠ v
theorem notOne_symm (al : List Nat) : ∀ i j u v, NotOne al i j u v → NotOne al j i v u := fun _ _ _ _ h hj hi => (h hi hj).symm

section
variable {Q : Exit → Act → World → Prop} {S : World → Prop} {md : Region.Mode} {A : (Nat → Value) → Act} {F : List Facts.Fact} {i : Nat} {o : Oper} {l : List Oper} {al : List Nat}
/-- A function answers a value that is known. -/
theorem Facts.call1V (hS : Calm.Stays S) (hF : Facts.Stay F) (hA : ∀ x u, (A x).put o.dst u = A (Facts.put x i u)) {fn : FuncId} {ts : Array TypeId} {u : Operand} (ho : o.op = .call { callee := .value (.func fn), args := #[u], argTypes := ts }) (hf : Calm.enters Try.prog fn = true) {v : Value} (hz : F[i]? = some (eqF i v))
    (h : ∀ x w, S w → (∀ e ∈ o.after, Region.binds md e = true → ∀ f, F[e.on]? = some f → Facts.holds f x w) → Calls Try.prog fn #[(A x).eval u] w fun e w' => e = .returned v ∧ Below w.heap.size w w') : Facts.StepOk Try.prog md Q S A F i o :=
  Facts.call (f := fn) hS hF hA fun x w hSw hdep => ⟨#[(A x).eval u], by
    have e : ∀ args, (callFunc fn args).run Try.prog w = .ok (.enter fn args) w := fun args => Calm.enters_run hf args w
    unfold execOp
    simp [ho, go_sem, Act.eval, e], (h x w hSw hdep).mono fun e w' ⟨he, hb⟩ => ⟨_, he, hb, fun f hf' => by
      rw [hz] at hf'
      obtain rfl := Option.some.inj hf'
      simp [Facts.holds, eqF, Facts.put]⟩⟩
theorem Facts.call2V (hS : Calm.Stays S) (hF : Facts.Stay F) (hA : ∀ x u, (A x).put o.dst u = A (Facts.put x i u)) {fn : FuncId} {ts : Array TypeId} {u v' : Operand} (ho : o.op = .call { callee := .value (.func fn), args := #[u, v'], argTypes := ts }) (hf : Calm.enters Try.prog fn = true) {v : Value} (hz : F[i]? = some (eqF i v))
    (h : ∀ x w, S w → (∀ e ∈ o.after, Region.binds md e = true → ∀ f, F[e.on]? = some f → Facts.holds f x w) → Calls Try.prog fn #[(A x).eval u, (A x).eval v'] w fun e w' => e = .returned v ∧ Below w.heap.size w w') : Facts.StepOk Try.prog md Q S A F i o :=
  Facts.call (f := fn) hS hF hA fun x w hSw hdep => ⟨#[(A x).eval u, (A x).eval v'], by
    have e : ∀ args, (callFunc fn args).run Try.prog w = .ok (.enter fn args) w := fun args => Calm.enters_run hf args w
    unfold execOp
    simp [ho, go_sem, Act.eval, e], (h x w hSw hdep).mono fun e w' ⟨he, hb⟩ => ⟨_, he, hb, fun f hf' => by
      rw [hz] at hf'
      obtain rfl := Option.some.inj hf'
      simp [Facts.holds, eqF, Facts.put]⟩⟩
theorem Facts.call3T (hS : Calm.Stays S) (hF : Facts.Stay F) (hA : ∀ x u, (A x).put o.dst u = A (Facts.put x i u)) {fn : FuncId} {ts : Array TypeId} {u v t : Operand} (ho : o.op = .call { callee := .value (.func fn), args := #[u, v, t], argTypes := ts }) (hf : Calm.enters Try.prog fn = true) {z : EV} (hz : F[i]? = some (isF i z))
    (h : ∀ x w, S w → (∀ e ∈ o.after, Region.binds md e = true → ∀ f, F[e.on]? = some f → Facts.holds f x w) → Calls Try.prog fn #[(A x).eval u, (A x).eval v, (A x).eval t] w (Gives z w)) : Facts.StepOk Try.prog md Q S A F i o :=
  Facts.call (f := fn) hS hF hA fun x w hSw hdep => ⟨#[(A x).eval u, (A x).eval v, (A x).eval t], by
    have e : ∀ args, (callFunc fn args).run Try.prog w = .ok (.enter fn args) w := fun args => Calm.enters_run hf args w
    unfold execOp
    simp [ho, go_sem, Act.eval, e], (h x w hSw hdep).mono fun e w' ⟨n, p, l, c, he, hi, hb⟩ => ⟨_, he, hb, fun f hf' => by
      rw [hz] at hf'
      obtain rfl := Option.some.inj hf'
      exact isF_put hi⟩⟩
/-- A new box, among others. -/
theorem FactsG.allocT (hi : l[i]? = some o) (hg : o.guard = none) (hS : Calm.Stays S) (hF : Facts.Stay F) (hA : ∀ x u, (A x).put o.dst u = A (Facts.put x i u)) (ho : o.op = .alloc 24) {N : Nat} (hz : F[i]? = some (alF i N)) (hN : ∀ w, S w → N ≤ w.heap.size)
    (hal : ∀ (j : Nat) (f : Facts.Fact), F[j]? = some f → j ∈ al → ∃ N, f = alF j N) : FactsG.StepOk Try.prog md l Q S A F (NotOne al) i o :=
  FactsG.ofR hi (fun _ _ _ _ => by simp [Region.wanted, hg]) fun x w hSw hdep _ => by
    have hr : (execOp (A x).eval o).run Try.prog w = .ok (.value (.pointer (some ⟨w.heap.size, 0, none⟩))) (w.alloc (.cells #[.int .i64 0, .slice none 0 0] 24)) := by
      unfold execOp
      generalize (A x).eval = ρ
      simp [ho, go_sem]
    have hb : Below w.heap.size w (w.alloc (.cells #[.int .i64 0, .slice none 0 0] 24)) := (Below.refl _ _).alloc (Nat.le_refl _) _
    unfold Oper.wp
    rw [hr]
    refine ⟨_, hA x _, hS _ _ hSw hb, fun f hf' => ?_, fun j f _ hj hh => hF j f hj _ _ _ hh hb, fun j f _ hj hh _ hjal => ?_⟩
    · rw [hz] at hf'
      obtain rfl := Option.some.inj hf'
      exact ⟨w.heap.size, 0, none, 0, 0, by simp [Facts.put, alF], hN w hSw, bx_new w 0 none 0 0⟩
    · obtain ⟨N', rfl⟩ := hal j f hj hjal
      obtain ⟨q, n, p, l, c, e, _, hq⟩ := alF_get hh
      rw [e]
      have := hq.lt
      intro h
      simp only [Value.pointer.injEq, Option.some.injEq, Addr.mk.injEq] at h
      omega
theorem sbF_other {m k N : Nat} {z : EV} {x : Nat → Value} {w : World} {q : Nat} {n : Int} {p : Option Addr} {l c : Nat} (h : Facts.holds (sbF m k N z) x w) (hne : x m ≠ .pointer (some ⟨q, 0, none⟩)) (hq : ∃ n p l c, Bx w q n p l c) : Facts.holds (sbF m k N z) x (w.setRow q #[.int .i64 n, .slice p l c]) := by
  obtain ⟨q', n', p', l', c', e, hN, hb, hi⟩ := h
  obtain ⟨_, _, _, _, hq⟩ := hq
  have e' := e
  simp only [sbF, List.map_cons, List.map_nil, List.cons.injEq, and_true] at e'
  refine ⟨q', n', p', l', c', e, hN, hb.rowOther (fun h => hne ?_) _, hi.box hq _⟩
  rw [e'.1, h]
/-- A tree that operation k came to is stored in the new box that operation m made, among others. -/
theorem FactsG.storeP (hi : l[i]? = some o) (hg : o.guard = none) (hial : i ∉ al) (hA : ∀ x u, (A x).put o.dst u = A (Facts.put x i u)) (u v : Operand) (ho : o.op = .store 24 u v) {m k N : Nat} {z : EV} (hmi : m ≠ i) (hki : k ≠ i) (hz : F[i]? = some (sbF m k N z))
    (hx : ∀ x, (A x).eval u = x m) (hy : ∀ x, (A x).eval v = x k) (hm : ∀ x w, S w → (∀ e ∈ o.after, Region.binds md e = true → ∀ f, F[e.on]? = some f → Facts.holds f x w) → Facts.holds (alF m N) x w ∧ Facts.holds (isF k z) x w)
    (hb : ∀ w q n p l c n' p' l' c', S w → N ≤ q → Bx w q n' p' l' c' → S (w.setRow q #[.int .i64 n, .slice p l c]))
    (hoth : ∀ x w q n p l c, (∀ e ∈ o.after, Region.binds md e = true → ∀ e' ∈ o.after, Region.binds md e' = true → e.on ≠ e'.on → NotOne al e.on e'.on (x e.on) (x e'.on)) → x m = .pointer (some ⟨q, 0, none⟩) → N ≤ q → (∃ n p l c, Bx w q n p l c) →
      ∀ (j : Nat) (f : Facts.Fact), j ≠ i → F[j]? = some f → Facts.holds f x w → Facts.holds f x (w.setRow q #[.int .i64 n, .slice p l c])) : FactsG.StepOk Try.prog md l Q S A F (NotOne al) i o :=
  FactsG.ofR hi (fun _ _ _ _ => by simp [Region.wanted, hg]) fun x w hSw hdep hrel => by
    obtain ⟨h1, h2⟩ := hm x w hSw hdep
    obtain ⟨q, n0, p0, l0, c0, eq, hq, hbx⟩ := alF_get h1
    obtain ⟨n, p, l, c, e, hi⟩ := isF_get h2
    refine wp_store_t u v ho q n p l c ((hx x).trans eq) ((hy x).trans e) hbx ?_
    refine ⟨undef, hA x undef, hb w q n p l c _ _ _ _ hSw hq hbx, fun f hf' => ?_, fun j f hj hfj hh => hoth x w q n p l c hrel eq hq ⟨_, _, _, _, hbx⟩ j f hj hfj hh, fun j f _ _ _ h => absurd h hial⟩
    rw [hz] at hf'
    obtain rfl := Option.some.inj hf'
    exact ⟨q, n, p, l, c, by simp [Facts.put, sbF, hki, hmi, e, eq], hq, hbx.row n p l c, hi.box hbx _⟩
end
end Go.Proofs.Ytlfbabepbajcjaa
