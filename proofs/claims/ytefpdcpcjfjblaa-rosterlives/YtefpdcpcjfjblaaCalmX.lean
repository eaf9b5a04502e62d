/- The moves of a region that draws its order, each in one word: what is left to be shown of each is done where it is called. Nothing of one program. -/
import Derived.Test.YtefpdcpcjfjblaaCalm
import Derived.Deep.MidRow
namespace Go.Proofs.Ytefpdcpcjfjblaa.Calm

section
variable {P : Program} {ops : Array Oper} {S : World → Prop} {K : Act → Prop} {o : Oper} {l : List Oper} {a a' : Act}
/-- Passed over. -/
theorem sk (h : calmList P ops S K l a') (hw : Region.wanted o (yielded ops a.tmps) = false := by rfl)
    (hp : a.put o.dst undef = a' := by (simp only [Act.put, List.setIfInBounds_toArray, List.set_cons_zero, List.set_cons_succ]; rfl)) : calmList P ops S K (o :: l) a :=
  skip hw (hp ▸ h)
/-- Run to a value. -/
theorem pu {v : Value} (h : calmList P ops S K l a') (hw : Region.wanted o (yielded ops a.tmps) = true := by rfl)
    (hv : ∀ w, S w → (execOp a.eval o).run P w = .ok (.value v) w := by (intro w hSw; go_simp <;> rfl))
    (hp : a.put o.dst v = a' := by (simp only [Act.put, List.setIfInBounds_toArray, List.set_cons_zero, List.set_cons_succ]; rfl)) : calmList P ops S K (o :: l) a :=
  pure hw hv (hp ▸ h)
/-- A load of what a cell holds. -/
theorem ce {v : Value} {ad : Addr} (g : ∀ w, S w → w.cell? ad = some v) (h : calmList P ops S K l a') (hw : Region.wanted o (yielded ops a.tmps) = true := by rfl)
    (hv : ∀ w, S w → w.cell? ad = some v → (execOp a.eval o).run P w = .ok (.value v) w := by (intro w hSw g1; go_simp))
    (hp : a.put o.dst v = a' := by (simp only [Act.put, List.setIfInBounds_toArray, List.set_cons_zero, List.set_cons_succ]; rfl)) : calmList P ops S K (o :: l) a :=
  pure hw (fun w hS => hv w hS (g w hS)) (hp ▸ h)
/-- By a fact of the world. -/
theorem cl {v : Value} {p : World → Prop} (g : ∀ w, S w → p w) (h : calmList P ops S K l a') (hw : Region.wanted o (yielded ops a.tmps) = true := by rfl)
    (hv : ∀ w, S w → p w → (execOp a.eval o).run P w = .ok (.value v) w := by (intro w hSw g1; go_simp <;> rfl))
    (hp : a.put o.dst v = a' := by (simp only [Act.put, List.setIfInBounds_toArray, List.set_cons_zero, List.set_cons_succ]; rfl)) : calmList P ops S K (o :: l) a :=
  pure hw (fun w hS => hv w hS (g w hS)) (hp ▸ h)
theorem cs {v : Value} {p : World → Prop} (g : ∀ w, S w → p w) (h : calmList P ops S K l a') (hw : Region.wanted o (yielded ops a.tmps) = true := by rfl)
    (hv : ∀ w, S w → p w → (execOp a.eval o).run P w = .ok (.value v) w := by (intro w hSw g1; simp at g1; go_simp <;> rfl))
    (hp : a.put o.dst v = a' := by (simp only [Act.put, List.setIfInBounds_toArray, List.set_cons_zero, List.set_cons_succ]; rfl)) : calmList P ops S K (o :: l) a :=
  pure hw (fun w hS => hv w hS (g w hS)) (hp ▸ h)
/-- A load of a struct. -/
theorem lm {b f : Nat} {cs : List Value} {t : TypeId} {d : TypeDesc} {x : Operand} (hi : (P.info? t).map (·.size) = some cs.length) (hS : ∀ w, S w → w.rangeAt b f cs) (hu : P.underlying t = some d) (h : calmList P ops S K l a') (hw : Region.wanted o (yielded ops a.tmps) = true := by rfl)
    (ho : o.op = .load t x := by rfl) (hx : a.eval x = .pointer (some ⟨b, f, none⟩) := by rfl) (hd : d.isRow = true := by rfl)
    (hp : a.put o.dst (.agg cs.toArray) = a' := by (simp only [Act.put, List.setIfInBounds_toArray, List.set_cons_zero, List.set_cons_succ]; rfl)) : calmList P ops S K (o :: l) a :=
  pure hw (fun w hw' => by
    have h2 := run_loadVar_mid (P := P) w b f t cs d (hS w hw') hu hd hi
    unfold execOp
    simp only [ho, hx, Instr.loadAt, Instr.sureAddr, Sem.run_bind, Sem.run_pure, h2, Result.andThen_ok]) (hp ▸ h)
/-- Calls of functions by their names, whose contracts may ask for S; of a function that a slot holds. -/
theorem k0 {r : Value} {f : FuncId} {ts : Array TypeId} (hs : Stays S) (hc : ∀ w, S w → Calls P f #[] w fun e w' => e = .returned r ∧ RowKit.Below w.heap.size w w') (h : calmList P ops S K l a') (hw : Region.wanted o (yielded ops a.tmps) = true := by rfl) (ho : o.op = .call { callee := .value (.func f), args := #[], argTypes := ts } := by rfl)  (hf : enters P f = true := by kernel_rfl)
    (hp : a.put o.dst r = a' := by (simp only [Act.put, List.setIfInBounds_toArray, List.set_cons_zero, List.set_cons_succ]; rfl)) : calmList P ops S K (o :: l) a :=
  call (f := f) (args := #[]) hw (fun w => by
    have e : ∀ args, (callFunc f args).run P w = .ok (.enter f args) w := fun args => enters_run hf args w
    unfold execOp
    simp [ho, go_sem, Act.eval, e]) (fun w hS => (hc w hS).mono fun e w' he => ⟨he.1, hs w w' hS he.2⟩) (hp ▸ h)
theorem k1 {r x : Value} {f : FuncId} {ts : Array TypeId} {u : Operand} (hs : Stays S) (hc : ∀ w, S w → Calls P f #[x] w fun e w' => e = .returned r ∧ RowKit.Below w.heap.size w w') (h : calmList P ops S K l a') (hw : Region.wanted o (yielded ops a.tmps) = true := by rfl) (ho : o.op = .call { callee := .value (.func f), args := #[u], argTypes := ts } := by rfl) (hu : a.eval u = x := by rfl) (hf : enters P f = true := by kernel_rfl)
    (hp : a.put o.dst r = a' := by (simp only [Act.put, List.setIfInBounds_toArray, List.set_cons_zero, List.set_cons_succ]; rfl)) : calmList P ops S K (o :: l) a :=
  call (f := f) (args := #[x]) hw (fun w => by
    have e : ∀ args, (callFunc f args).run P w = .ok (.enter f args) w := fun args => enters_run hf args w
    subst hu
    unfold execOp
    simp [ho, go_sem, Act.eval, e]) (fun w hS => (hc w hS).mono fun e w' he => ⟨he.1, hs w w' hS he.2⟩) (hp ▸ h)
theorem k2 {r x y : Value} {f : FuncId} {ts : Array TypeId} {u v : Operand} (hs : Stays S) (hc : ∀ w, S w → Calls P f #[x, y] w fun e w' => e = .returned r ∧ RowKit.Below w.heap.size w w') (h : calmList P ops S K l a') (hw : Region.wanted o (yielded ops a.tmps) = true := by rfl) (ho : o.op = .call { callee := .value (.func f), args := #[u, v], argTypes := ts } := by rfl) (hu : a.eval u = x := by rfl) (hv : a.eval v = y := by rfl) (hf : enters P f = true := by kernel_rfl)
    (hp : a.put o.dst r = a' := by (simp only [Act.put, List.setIfInBounds_toArray, List.set_cons_zero, List.set_cons_succ]; rfl)) : calmList P ops S K (o :: l) a :=
  call (f := f) (args := #[x, y]) hw (fun w => by
    have e : ∀ args, (callFunc f args).run P w = .ok (.enter f args) w := fun args => enters_run hf args w
    subst hu
    subst hv
    unfold execOp
    simp [ho, go_sem, Act.eval, e]) (fun w hS => (hc w hS).mono fun e w' he => ⟨he.1, hs w w' hS he.2⟩) (hp ▸ h)
theorem k3 {r x y z : Value} {f : FuncId} {ts : Array TypeId} {u v t : Operand} (hs : Stays S) (hc : ∀ w, S w → Calls P f #[x, y, z] w fun e w' => e = .returned r ∧ RowKit.Below w.heap.size w w') (h : calmList P ops S K l a') (hw : Region.wanted o (yielded ops a.tmps) = true := by rfl) (ho : o.op = .call { callee := .value (.func f), args := #[u, v, t], argTypes := ts } := by rfl) (hu : a.eval u = x := by rfl) (hv : a.eval v = y := by rfl) (ht : a.eval t = z := by rfl) (hf : enters P f = true := by kernel_rfl)
    (hp : a.put o.dst r = a' := by (simp only [Act.put, List.setIfInBounds_toArray, List.set_cons_zero, List.set_cons_succ]; rfl)) : calmList P ops S K (o :: l) a :=
  call (f := f) (args := #[x, y, z]) hw (fun w => by
    have e : ∀ args, (callFunc f args).run P w = .ok (.enter f args) w := fun args => enters_run hf args w
    subst hu
    subst hv
    subst ht
    unfold execOp
    simp [ho, go_sem, Act.eval, e]) (fun w hS => (hc w hS).mono fun e w' he => ⟨he.1, hs w w' hS he.2⟩) (hp ▸ h)
theorem k4 {r x y z q : Value} {f : FuncId} {ts : Array TypeId} {u v t n : Operand} (hs : Stays S) (hc : ∀ w, S w → Calls P f #[x, y, z, q] w fun e w' => e = .returned r ∧ RowKit.Below w.heap.size w w') (h : calmList P ops S K l a') (hw : Region.wanted o (yielded ops a.tmps) = true := by rfl) (ho : o.op = .call { callee := .value (.func f), args := #[u, v, t, n], argTypes := ts } := by rfl) (hu : a.eval u = x := by rfl) (hv : a.eval v = y := by rfl) (ht : a.eval t = z := by rfl) (hn : a.eval n = q := by rfl) (hf : enters P f = true := by kernel_rfl)
    (hp : a.put o.dst r = a' := by (simp only [Act.put, List.setIfInBounds_toArray, List.set_cons_zero, List.set_cons_succ]; rfl)) : calmList P ops S K (o :: l) a :=
  call (f := f) (args := #[x, y, z, q]) hw (fun w => by
    have e : ∀ args, (callFunc f args).run P w = .ok (.enter f args) w := fun args => enters_run hf args w
    subst hu
    subst hv
    subst ht
    subst hn
    unfold execOp
    simp [ho, go_sem, Act.eval, e]) (fun w hS => (hc w hS).mono fun e w' he => ⟨he.1, hs w w' hS he.2⟩) (hp ▸ h)
theorem kf1 {r x : Value} {f : FuncId} {ts : Array TypeId} {uf u : Operand} (hs : Stays S) (hc : ∀ w, S w → Calls P f #[x] w fun e w' => e = .returned r ∧ RowKit.Below w.heap.size w w') (h : calmList P ops S K l a') (hw : Region.wanted o (yielded ops a.tmps) = true := by rfl) (ho : o.op = .call { callee := .value uf, args := #[u], argTypes := ts } := by rfl) (hv : a.eval uf = .func (.func f) #[] #[] := by rfl) (hu : a.eval u = x := by rfl) (hf : enters P f = true := by kernel_rfl)
    (hp : a.put o.dst r = a' := by (simp only [Act.put, List.setIfInBounds_toArray, List.set_cons_zero, List.set_cons_succ]; rfl)) : calmList P ops S K (o :: l) a :=
  call (f := f) (args := #[x]) hw (fun w => by
    have e : ∀ args, (callFunc f args).run P w = .ok (.enter f args) w := fun args => enters_run hf args w
    generalize a.eval = ρ at hv hu ⊢
    subst hu
    unfold execOp
    simp [ho, go_sem, hv, e]) (fun w hS => (hc w hS).mono fun e w' he => ⟨he.1, hs w w' hS he.2⟩) (hp ▸ h)
end
end Go.Proofs.Ytefpdcpcjfjblaa.Calm
