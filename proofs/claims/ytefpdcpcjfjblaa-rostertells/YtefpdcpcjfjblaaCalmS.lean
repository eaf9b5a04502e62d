/- Calls within a region that draws its order, whose contracts ask for S. Nothing of one program. -/
import Derived.Test.YtefpdcpcjfjblaaCalm
namespace Go.Proofs.Ytefpdcpcjfjblaa.Calm

section
variable {P : Program} {ops : Array Oper} {S : World → Prop} {K : Act → Prop}
theorem call1s {o : Oper} {l : List Oper} {a : Act} {r x : Value} {f : FuncId} {ts : Array TypeId} {u : Operand} (hw : Region.wanted o (yielded ops a.tmps) = true)
    (ho : o.op = .call { callee := .value (.func f), args := #[u], argTypes := ts }) (hu : a.eval u = x) (hf : enters P f = true) (hs : Stays S)
    (hc : ∀ w, S w → Calls P f #[x] w fun e w' => e = .returned r ∧ RowKit.Below w.heap.size w w')
    (h : calmList P ops S K l (a.put o.dst r)) : calmList P ops S K (o :: l) a :=
  call (f := f) (args := #[x]) hw (fun w => by
    have e : ∀ args, (callFunc f args).run P w = .ok (.enter f args) w := fun args => enters_run hf args w
    subst hu
    unfold execOp
    simp [ho, go_sem, Act.eval, e]) (fun w hS => (hc w hS).mono fun e w' he => ⟨he.1, hs w w' hS he.2⟩) h
theorem call2s {o : Oper} {l : List Oper} {a : Act} {r x y : Value} {f : FuncId} {ts : Array TypeId} {u v : Operand} (hw : Region.wanted o (yielded ops a.tmps) = true)
    (ho : o.op = .call { callee := .value (.func f), args := #[u, v], argTypes := ts }) (hu : a.eval u = x) (hv : a.eval v = y) (hf : enters P f = true) (hs : Stays S)
    (hc : ∀ w, S w → Calls P f #[x, y] w fun e w' => e = .returned r ∧ RowKit.Below w.heap.size w w')
    (h : calmList P ops S K l (a.put o.dst r)) : calmList P ops S K (o :: l) a :=
  call (f := f) (args := #[x, y]) hw (fun w => by
    have e : ∀ args, (callFunc f args).run P w = .ok (.enter f args) w := fun args => enters_run hf args w
    subst hu
    subst hv
    unfold execOp
    simp [ho, go_sem, Act.eval, e]) (fun w hS => (hc w hS).mono fun e w' he => ⟨he.1, hs w w' hS he.2⟩) h
end
end Go.Proofs.Ytefpdcpcjfjblaa.Calm
