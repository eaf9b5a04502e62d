/- Calls of three and four arguments within a region that draws its order, whose contracts ask for S. Nothing of one program. -/
import Derived.Test.YtefpdcpcjfjblaaCalmS
namespace Go.Proofs.Ytefpdcpcjfjblaa.Calm

section
variable {P : Program} {ops : Array Oper} {S : World → Prop} {K : Act → Prop}
theorem call3s {o : Oper} {l : List Oper} {a : Act} {r x y z : Value} {f : FuncId} {ts : Array TypeId} {u v t : Operand} (hw : Region.wanted o (yielded ops a.tmps) = true)
    (ho : o.op = .call { callee := .value (.func f), args := #[u, v, t], argTypes := ts }) (hu : a.eval u = x) (hv : a.eval v = y) (ht : a.eval t = z) (hf : enters P f = true) (hs : Stays S)
    (hc : ∀ w, S w → Calls P f #[x, y, z] w fun e w' => e = .returned r ∧ RowKit.Below w.heap.size w w')
    (h : calmList P ops S K l (a.put o.dst r)) : calmList P ops S K (o :: l) a :=
  call (f := f) (args := #[x, y, z]) hw (fun w => by
    have e : ∀ args, (callFunc f args).run P w = .ok (.enter f args) w := fun args => enters_run hf args w
    subst hu
    subst hv
    subst ht
    unfold execOp
    simp [ho, go_sem, Act.eval, e]) (fun w hS => (hc w hS).mono fun e w' he => ⟨he.1, hs w w' hS he.2⟩) h
theorem call4s {o : Oper} {l : List Oper} {a : Act} {r x y z q : Value} {f : FuncId} {ts : Array TypeId} {u v t s : Operand} (hw : Region.wanted o (yielded ops a.tmps) = true)
    (ho : o.op = .call { callee := .value (.func f), args := #[u, v, t, s], argTypes := ts }) (hu : a.eval u = x) (hv : a.eval v = y) (ht : a.eval t = z) (hq : a.eval s = q) (hf : enters P f = true) (hs : Stays S)
    (hc : ∀ w, S w → Calls P f #[x, y, z, q] w fun e w' => e = .returned r ∧ RowKit.Below w.heap.size w w')
    (h : calmList P ops S K l (a.put o.dst r)) : calmList P ops S K (o :: l) a :=
  call (f := f) (args := #[x, y, z, q]) hw (fun w => by
    have e : ∀ args, (callFunc f args).run P w = .ok (.enter f args) w := fun args => enters_run hf args w
    subst hu
    subst hv
    subst ht
    subst hq
    unfold execOp
    simp [ho, go_sem, Act.eval, e]) (fun w hS => (hc w hS).mono fun e w' he => ⟨he.1, hs w w' hS he.2⟩) h
end
end Go.Proofs.Ytefpdcpcjfjblaa.Calm
