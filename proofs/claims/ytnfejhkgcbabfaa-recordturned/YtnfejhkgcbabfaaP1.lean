import Derived.Test.YtnfejhkgcbabfaaRows
import Derived.Still
import Derived.OrdersHeld
import Derived.WalkKit
import Derived.WalkSpells
import Derived.WalkLawsBesides
import Derived.WalkMore
import Derived.Deep.RegionHeld3
import Derived.Deep.WholeRow
import Derived.Deep.MidRow
import Derived.Laws.CopyOwn
import Derived.Laws.AppendOwnNone
import Derived.Maps.AppendAt
import Derived.ProofKit
import Derived.OpenShut
/- A region that draws its order, where every operation, a call too, comes to one value in every world that meets S, and leaves a world that meets S: it may be walked in the text's order, once. Nothing of one program. -/
namespace Go.Proofs.Ytnfejhkgcbabfaa.Calm

section
variable {P : Program} {ops : Array Oper} {Q : Exit → Act → World → Prop} {md : Region.Mode} {S : World → Prop} {K : Act → Prop}

/-- In every world that meets S what is run comes to v, by itself or by a call, and leaves a world that meets S. -/
def Comes (P : Program) (S : World → Prop) (v : Value) (m : Sem Next) : Prop := ∀ w, S w → match m.run P w with
  | .ok (.value u) w' => u = v ∧ S w'
  | .ok (.enter f args) w' => Calls P f args w' fun e w'' => e = .returned v ∧ S w''
  | _ => False

def Calm (P : Program) (ops : Array Oper) (S : World → Prop) (o : Oper) (v : Value) (a : Act) : Prop :=
  (Region.wanted o (yielded ops a.tmps) = true ∧ Comes P S v (execOp a.eval o)) ∨ (Region.wanted o (yielded ops a.tmps) = false ∧ v = undef)

theorem Calm.of_same {o : Oper} {v : Value} {a a' : Act} (hy : Calm P ops S o v a) (he : execOp a'.eval o = execOp a.eval o)
    (hw : Region.wanted o (yielded ops a'.tmps) = Region.wanted o (yielded ops a.tmps)) : Calm P ops S o v a' := by
  unfold Calm at *
  rw [he, hw]
  exact hy

theorem Calm.wpOp {i : Nat} {o : Oper} {v : Value} {a : Act} (hi : ops[i]? = some o) (hy : Calm P ops S o v a)
    {K : Act → World → Prop} {w : World} (hS : S w) (h : ∀ w', S w' → K (a.put o.dst v) w') : Go.wpOp P ops Q i K a w := by
  unfold Go.wpOp
  simp only [hi]
  rcases hy with ⟨hw, hv⟩ | ⟨hw, rfl⟩
  · simp only [hw, if_true, Oper.wp]
    refine .inl ?_
    have hv' := hv w hS
    generalize (execOp a.eval o).run P w = r at hv'
    cases r with
    | ok n w' =>
      cases n <;> simp only at hv' ⊢
      case value u =>
        obtain ⟨rfl, hS'⟩ := hv'
        exact h _ hS'
      case enter f args =>
        refine Calls.mono hv' fun e w'' he => ?_
        obtain ⟨rfl, hS'⟩ := he
        exact h _ hS'
    | halt x w' => exact hv'.elim
  · simp only [hw, Bool.false_eq_true, if_false]
    exact h _ hS

/-- Whatever order is picked. -/
def anyCalm (P : Program) (md : Region.Mode) (ops : Array Oper) (S : World → Prop) (K : Act → Prop) : Nat → Array Bool → Act → Prop
  | 0, listed, a => Region.ready md ops listed = [] ∧ K a
  | fuel + 1, listed, a =>
    (Region.ready md ops listed = [] → K a) ∧
    ∀ i ∈ Region.ready md ops listed, ∃ o v, ops[i]? = some o ∧ Calm P ops S o v a ∧ anyCalm P md ops S K fuel (listed.setIfInBounds i true) (a.put o.dst v)

theorem wpAny_of_calm (hK : ∀ a w, K a → S w → Q .normal a w) : ∀ (fuel : Nat) (listed : Array Bool) (a : Act) (w : World), S w → anyCalm P md ops S K fuel listed a → wpAny P md ops Q fuel listed a w
  | 0, _, a, w, hS, h => ⟨h.1, hK a w h.2 hS⟩
  | fuel + 1, _, a, w, hS, h => ⟨fun hr => hK a w (h.1 hr) hS, fun i hi => by
      obtain ⟨o, v, ho, hc, hr⟩ := h.2 i hi
      exact hc.wpOp ho hS fun w' hS' => wpAny_of_calm hK fuel _ _ w' hS' hr⟩

theorem anyCalm_first {i : Nat} {oi : Oper} {v : Value} (hi : ops[i]? = some oi) (hsel : ∀ (j : Nat) (o : Oper) cs b, ops[j]? = some o → o.op ≠ .select cs b) :
    ∀ (fuel : Nat) (listed : Array Bool) (a : Act),
      (∀ j oj, ops[j]? = some oj → j ≠ i → listed.getD j true = false → (∀ e ∈ oj.after, Region.binds md e = true → e.on ≠ i) → oi.apart ops oj = true) →
      i ∈ Region.ready md ops listed → Calm P ops S oi v a →
      anyCalm P md ops S K fuel (listed.setIfInBounds i true) (a.put oi.dst v) → anyCalm P md ops S K (fuel + 1) listed a := by
  intro fuel
  induction fuel with
  | zero =>
    intro listed a _ hr hy H
    refine ⟨fun h => (by rw [h] at hr; cases hr), fun j hj => ?_⟩
    by_cases hji : j = i
    · subst hji; exact ⟨oi, v, hi, hy, H⟩
    · have := ready_mono hj hji
      rw [H.1] at this
      cases this
  | succ fuel ih =>
    intro listed a hfree hr hy H
    refine ⟨fun h => (by rw [h] at hr; cases hr), fun j hj => ?_⟩
    by_cases hji : j = i
    · subst hji; exact ⟨oi, v, hi, hy, H⟩
    · obtain ⟨oj, u, hoj, hcj, hrest⟩ := H.2 j (ready_mono hj hji)
      obtain ⟨hjun, oj', hoj', hall⟩ := mem_ready.1 hj
      obtain rfl : oj = oj' := by rw [hoj] at hoj'; exact Option.some.inj hoj'
      have hnot : ∀ e ∈ oj.after, Region.binds md e = true → e.on ≠ i := fun e he hb heq => by
        have h1 := hall e he hb
        have h0 := (mem_ready.1 hr).1
        rw [heq] at h1
        rcases Nat.lt_or_ge i listed.size with h' | h'
        · simp [h'] at h0 h1; rw [h0] at h1; cases h1
        · simp [Array.getElem?_eq_none h'] at h1
      obtain ⟨h1, h2, h3⟩ := Oper.apart_spec (hfree j oj hoj hji hjun hnot)
      have hfree' : ∀ k ok, ops[k]? = some ok → k ≠ i → (listed.setIfInBounds j true).getD k true = false →
          (∀ e ∈ ok.after, Region.binds md e = true → e.on ≠ i) → oi.apart ops ok = true := fun k ok hk hki hun hno => by
        refine hfree k ok hk hki ?_ hno
        by_cases hjk : j = k
        · subst hjk; exact hjun
        · rw [getD_set_ne true hjk] at hun; exact hun
      refine ⟨oj, u, hoj, hcj.of_same (execOp_put oj (fun cs b => hsel j oj cs b hoj) a oi.dst v h1).symm (wanted_put oj a oi.dst v h1).symm, ?_⟩
      refine ih (listed.setIfInBounds j true) (a.put oj.dst u) hfree' (ready_mono hr (Ne.symm hji)) ?_ ?_
      · exact hy.of_same (execOp_put oi (fun cs b => hsel i oi cs b hi) a oj.dst u h3) (wanted_put oi a oj.dst u h3)
      · rw [Array.setIfInBounds_comm _ _ hji, ← Act.put_comm a v u h2]
        exact hrest

/-- In the text's order. -/
def calmList (P : Program) (ops : Array Oper) (S : World → Prop) (K : Act → Prop) : List Oper → Act → Prop
  | [], a => K a
  | o :: l, a => ∃ v, Calm P ops S o v a ∧ calmList P ops S K l (a.put o.dst v)

theorem anyCalm_lex (hs : Region.noSelect ops = true) : ∀ (l : List Oper) (k : Nat) (listed : Array Bool) (a : Act), (∀ j, l[j]? = ops[k + j]?) →
    Region.lexFrom md ops l.length k listed = true → calmList P ops S K l a → anyCalm P md ops S K l.length listed a
  | [], _, _, _, _, hB, h => ⟨by simpa [Region.lexFrom] using hB, h⟩
  | o :: l, k, listed, a, hl, hB, h => by
    have h0 : ops[k]? = some o := by simpa using (hl 0).symm
    simp only [List.length_cons, Region.lexFrom, Bool.and_eq_true] at hB
    obtain ⟨⟨hr, hf⟩, hB'⟩ := hB
    obtain ⟨v, hy, hK⟩ := h
    exact anyCalm_first h0 (Region.noSelect_spec hs) l.length listed a (Region.free_spec h0 hf) (by simpa using hr) hy
      (anyCalm_lex hs l (k + 1) _ _ (fun j => by have := hl (j + 1); simpa [Nat.add_assoc, Nat.add_comm 1 j] using this) hB' hK)

theorem region {id : Nat} {a : Act} {w : World} {l : List Oper} (hm : P.follows .mixedOrders = true) (hB : Region.lexB .any l.toArray = true) (S : World → Prop) (hS : S w.drew)
    (h : calmList P l.toArray S (fun a' => ∀ w', S w' → Q .normal a' w') l a) : (Code.region id l.toArray true).wp P Q a w := by
  simp only [Region.lexB, Bool.and_eq_true] at hB
  refine wp_region_any hm (wpAny_of_calm (K := fun a' => ∀ w', S w' → Q .normal a' w') (S := S) (fun a w h hS => h w hS) _ _ _ _ hS ?_)
  have := anyCalm_lex (md := .any) hB.1 l 0 (Array.replicate l.toArray.size false) a (by simp) (by simpa using hB.2) h
  simpa using this

/-! The moves. -/
theorem skip {o : Oper} {l : List Oper} {a : Act} (hw : Region.wanted o (yielded ops a.tmps) = false) (h : calmList P ops S K l (a.put o.dst undef)) : calmList P ops S K (o :: l) a :=
  ⟨undef, .inr ⟨hw, rfl⟩, h⟩
theorem pure {o : Oper} {l : List Oper} {a : Act} {v : Value} (hw : Region.wanted o (yielded ops a.tmps) = true) (hv : ∀ w, S w → (execOp a.eval o).run P w = .ok (.value v) w)
    (h : calmList P ops S K l (a.put o.dst v)) : calmList P ops S K (o :: l) a :=
  ⟨v, .inl ⟨hw, fun w hS => by rw [hv w hS]; exact ⟨rfl, hS⟩⟩, h⟩
theorem call {o : Oper} {l : List Oper} {a : Act} {v : Value} {f : FuncId} {args : Array Value} (hw : Region.wanted o (yielded ops a.tmps) = true)
    (he : ∀ w, (execOp a.eval o).run P w = .ok (.enter f args) w) (hc : ∀ w, S w → Calls P f args w fun e w' => e = .returned v ∧ S w')
    (h : calmList P ops S K l (a.put o.dst v)) : calmList P ops S K (o :: l) a :=
  ⟨v, .inl ⟨hw, fun w hS => by rw [he w]; exact hc w hS⟩, h⟩

/-- S stays behind whatever leaves the memory that was there alone. -/
def Stays (S : World → Prop) : Prop := ∀ w w', S w → RowKit.Below w.heap.size w w' → S w'

/-- The function has a body. -/
def enters (P : Program) (f : FuncId) : Bool := match P.funcs[f]? with
  | some fn => !(fn.name == "runtime.NumGoroutine") && fn.body.isSome
  | none => false
theorem enters_run {f : FuncId} (h : enters P f = true) (args : Array Value) (w : World) : (callFunc f args).run P w = .ok (.enter f args) w := by
  unfold enters at h
  cases hf : P.funcs[f]? with
  | none => simp [hf] at h
  | some fn =>
    simp only [hf, Bool.and_eq_true, Bool.not_eq_true'] at h
    have h1 : ¬ fn.name = "runtime.NumGoroutine" := by simpa using h.1
    have h2 : ¬ fn.body = none := by
      intro hb
      rw [hb] at h
      simp at h
    simp [callFunc, hf, h1, h2]

/-- A call of a function by its name, of no, one, two, three arguments; a contract that leaves the memory that was there alone. -/
theorem call0 {o : Oper} {l : List Oper} {a : Act} {r : Value} {f : FuncId} {ts : Array TypeId} (hw : Region.wanted o (yielded ops a.tmps) = true)
    (ho : o.op = .call { callee := .value (.func f), args := #[], argTypes := ts })  (hf : enters P f = true) (hs : Stays S)
    (hc : ∀ w, Calls P f #[] w fun e w' => e = .returned r ∧ RowKit.Below w.heap.size w w')
    (h : calmList P ops S K l (a.put o.dst r)) : calmList P ops S K (o :: l) a :=
  call (f := f) (args := #[]) hw (fun w => by
    have e : ∀ args, (callFunc f args).run P w = .ok (.enter f args) w := fun args => enters_run hf args w
    unfold execOp
    simp [ho, go_sem, Act.eval, e]) (fun w hS => (hc w).mono fun e w' he => ⟨he.1, hs w w' hS he.2⟩) h
theorem call1 {o : Oper} {l : List Oper} {a : Act} {r x : Value} {f : FuncId} {ts : Array TypeId} {u : Operand} (hw : Region.wanted o (yielded ops a.tmps) = true)
    (ho : o.op = .call { callee := .value (.func f), args := #[u], argTypes := ts }) (hu : a.eval u = x) (hf : enters P f = true) (hs : Stays S)
    (hc : ∀ w, Calls P f #[x] w fun e w' => e = .returned r ∧ RowKit.Below w.heap.size w w')
    (h : calmList P ops S K l (a.put o.dst r)) : calmList P ops S K (o :: l) a :=
  call (f := f) (args := #[x]) hw (fun w => by
    have e : ∀ args, (callFunc f args).run P w = .ok (.enter f args) w := fun args => enters_run hf args w
    subst hu
    unfold execOp
    simp [ho, go_sem, Act.eval, e]) (fun w hS => (hc w).mono fun e w' he => ⟨he.1, hs w w' hS he.2⟩) h
theorem call2 {o : Oper} {l : List Oper} {a : Act} {r x y : Value} {f : FuncId} {ts : Array TypeId} {u v : Operand} (hw : Region.wanted o (yielded ops a.tmps) = true)
    (ho : o.op = .call { callee := .value (.func f), args := #[u, v], argTypes := ts }) (hu : a.eval u = x) (hv : a.eval v = y) (hf : enters P f = true) (hs : Stays S)
    (hc : ∀ w, Calls P f #[x, y] w fun e w' => e = .returned r ∧ RowKit.Below w.heap.size w w')
    (h : calmList P ops S K l (a.put o.dst r)) : calmList P ops S K (o :: l) a :=
  call (f := f) (args := #[x, y]) hw (fun w => by
    have e : ∀ args, (callFunc f args).run P w = .ok (.enter f args) w := fun args => enters_run hf args w
    subst hu
    subst hv
    unfold execOp
    simp [ho, go_sem, Act.eval, e]) (fun w hS => (hc w).mono fun e w' he => ⟨he.1, hs w w' hS he.2⟩) h
theorem call3 {o : Oper} {l : List Oper} {a : Act} {r x y z : Value} {f : FuncId} {ts : Array TypeId} {u v t : Operand} (hw : Region.wanted o (yielded ops a.tmps) = true)
    (ho : o.op = .call { callee := .value (.func f), args := #[u, v, t], argTypes := ts }) (hu : a.eval u = x) (hv : a.eval v = y) (ht : a.eval t = z) (hf : enters P f = true) (hs : Stays S)
    (hc : ∀ w, Calls P f #[x, y, z] w fun e w' => e = .returned r ∧ RowKit.Below w.heap.size w w')
    (h : calmList P ops S K l (a.put o.dst r)) : calmList P ops S K (o :: l) a :=
  call (f := f) (args := #[x, y, z]) hw (fun w => by
    have e : ∀ args, (callFunc f args).run P w = .ok (.enter f args) w := fun args => enters_run hf args w
    subst hu
    subst hv
    subst ht
    unfold execOp
    simp [ho, go_sem, Act.eval, e]) (fun w hS => (hc w).mono fun e w' he => ⟨he.1, hs w w' hS he.2⟩) h

end
end Go.Proofs.Ytnfejhkgcbabfaa.Calm
/- Blocks of cells, slices of rows of them, whatever the width; loads and stores; what a call leaves alone. Nothing of one function. -/
namespace Go.Proofs.Ytnfejhkgcbabfaa
open Go.ChangeShapes Go.WideShapes Go.ChangeAt Go.RowKit

/-- Ints as cells. -/
def vals (l : List Int) : List Value := l.map (Value.int .i64)
theorem vals_length (l : List Int) : (vals l).length = l.length := by simp [vals]
theorem below_on {w a b : World} (h : Below w.heap.size w a) (k : Below a.heap.size a b) : Below w.heap.size w b := h.trans (k.mono h.size)
/-- The block b is a row of these cells. -/
def Rw (w : World) (b : Nat) (t : TypeId) (cs : Array Value) : Prop := w.heap[b]? = some (.cells cs t)
section
variable {w w' : World} {b : Nat} {t : TypeId} {cs : Array Value}
theorem Rw.lt (h : Rw w b t cs) : b < w.heap.size := (Array.getElem?_eq_some_iff.1 h).1
theorem rw_new (w : World) (t : TypeId) (cs : Array Value) : Rw (w.alloc (.cells cs t)) w.heap.size t cs := heap_alloc_last w _
theorem rw_next (w : World) {b : Nat} (hb : b = w.heap.size) (t : TypeId) (cs : Array Value) : Rw (w.alloc (.cells cs t)) b t cs := by subst hb; exact rw_new w t cs
theorem Rw.later (h : Rw w b t cs) (hb : Below w.heap.size w w') : Rw w' b t cs := (hb.block b h.lt).trans h
theorem Rw.alloc (h : Rw w b t cs) (x : Obj) : Rw (w.alloc x) b t cs := (Below.heap_alloc w x b h.lt).trans h
theorem Rw.row (h : Rw w b t cs) (cs' : Array Value) : Rw (w.setRow b cs') b t cs' := setRow_heap w b _ _ t (0, 0) h
theorem Rw.rowOther (h : Rw w b t cs) {q : Nat} (hne : b ≠ q) (cs' : Array Value) : Rw (w.setRow q cs') b t cs := (setRow_other w q b cs' hne).trans h
theorem Rw.set (h : Rw w b t cs) (i : Nat) (v : Value) : Rw (w.setCell ⟨b, i, none⟩ v) b t (cs.setIfInBounds i v) := by
  rw [setCell_eq_setRow w b i _ t (0, 0) _ h]
  exact h.row _
theorem Rw.setOther (h : Rw w b t cs) {q : Nat} (hne : b ≠ q) (i : Nat) (v : Value) : Rw (w.setCell ⟨q, i, none⟩ v) b t cs := (Below.heap_setCell w _ v b hne).trans h
theorem Rw.cell (h : Rw w b t cs) (i : Nat) : w.cell? ⟨b, i, none⟩ = cs[i]? := cell_of_row _ _ i _ t (0, 0) h
theorem Rw.frozen (h : Rw w b t cs) (i : Nat) : w.frozen? ⟨b, i, none⟩ = false := by
  unfold Rw at h
  simp [World.frozen?, h]
theorem Rw.range (h : Rw w b t cs) (o : Nat) (l : List Value) (hl : ∀ j v, l[j]? = some v → cs[o + j]? = some v) : w.rangeAt b o l := fun j v hv => by
  rw [h.cell]
  exact hl j v hv
theorem Rw.drew (h : Rw w b t cs) : Rw w.drew b t cs := h
theorem Rw.load (h : Rw w b t cs) {d : TypeDesc} (hd : d.isRow = true) (hu : Try.prog.underlying t = some d) (hi : (Try.prog.info? t).map (·.size) = some cs.size) : (loadVar t ⟨b, 0, none⟩).run Try.prog w = .ok (.agg cs) w :=
  run_loadVar_row w b t t _ (0, 0) d h hu (by cases d <;> first | rfl | exact hd) hi
theorem Rw.loadAt (h : Rw w b t cs) {d : TypeDesc} (hd : d.isRow = true) (hu : Try.prog.underlying t = some d) (hi : (Try.prog.info? t).map (·.size) = some cs.size) : (Instr.loadAt t (.pointer (some ⟨b, 0, none⟩))).run Try.prog w = .ok (.agg cs) w := by
  simp only [Instr.loadAt, Instr.sureAddr, Sem.run_bind, Sem.run_pure, Result.andThen_ok, h.load hd hu hi]
theorem Rw.store (h : Rw w b t cs) (cs' : Array Value) (hi : (Try.prog.info? t).map (·.size) = some cs'.size) (ho : cs.size = cs'.size) (h1 : cs'.all (·.oneCell') = true) : (Instr.storeAt t (.pointer (some ⟨b, 0, none⟩)) (.agg cs')).run Try.prog w = .ok () (w.setRow b cs') := by
  simp only [Instr.storeAt, Instr.sureAddr, Sem.run_bind, Sem.run_pure, Result.andThen]
  exact run_storeVar_row w b t t _ _ h hi ho h1
end
theorem cell_later {w w' : World} {b i : Nat} {v : Value} (hb : Below w.heap.size w w') (h : w.cell? ⟨b, i, none⟩ = some v) : w'.cell? ⟨b, i, none⟩ = some v := by
  have hlt : b < w.heap.size := by
    rcases Nat.lt_or_ge b w.heap.size with h' | h'
    · exact h'
    · simp [World.cell?, Array.getElem?_eq_none h'] at h
  rw [World.cell?_of_block (w := w) (hb.block b hlt)]
  exact h

section
variable {ops : Array Oper} {rest : List Oper} {op : Oper} {a : Act} {w : World} {Q : Exit → Act → World → Prop}
/-- A struct is loaded whole, out of a block or out of its midst. -/
theorem load_m (t : TypeId) (x : Operand) (ho : op.op = .load t x) (hw : Region.wanted op (yielded ops a.tmps) = true) (b o : Nat) (hx : a.eval x = .pointer (some ⟨b, o, none⟩)) {cs : List Value} (hc : w.rangeAt b o cs) {d : TypeDesc} (hu : Try.prog.underlying t = some d) (hd : d.isRow = true) (hi : (Try.prog.info? t).map (·.size) = some cs.length)
    (h : wpList Try.prog ops Q rest (a.put op.dst (.agg cs.toArray)) w) : wpList Try.prog ops Q (op :: rest) a w :=
  BigFrame.wpList_want hw fun _ hK => by
    have h2 := run_loadVar_mid (P := Try.prog) w b o t cs d hc hu hd hi
    unfold Oper.wp execOp
    simp only [ho, hx, Instr.loadAt, Instr.sureAddr, Sem.run_bind, Sem.run_pure, h2, Result.andThen_ok]
    exact hK _ _ h
theorem load_r (t : TypeId) (x : Operand) (ho : op.op = .load t x) (hw : Region.wanted op (yielded ops a.tmps) = true) (b : Nat) (hx : a.eval x = .pointer (some ⟨b, 0, none⟩)) {cs : Array Value} (hc : Rw w b t cs) {d : TypeDesc} (hu : Try.prog.underlying t = some d) (hd : d.isRow = true) (hi : (Try.prog.info? t).map (·.size) = some cs.size)
    (h : wpList Try.prog ops Q rest (a.put op.dst (.agg cs)) w) : wpList Try.prog ops Q (op :: rest) a w :=
  BigFrame.wpList_want hw fun _ hK => by
    unfold Oper.wp execOp
    simp only [ho, hx, Sem.run_bind, hc.loadAt hd hu hi, Result.andThen_ok, Sem.run_pure]
    exact hK _ _ h
theorem store_r (hgd : op.guard = none) (t : TypeId) (x y : Operand) (ho : op.op = .store t x y) (b : Nat) (cs' : Array Value) (hx : a.eval x = .pointer (some ⟨b, 0, none⟩)) (hy : a.eval y = .agg cs') {cs : Array Value} (hc : Rw w b t cs) (hi : (Try.prog.info? t).map (·.size) = some cs'.size) (hs : cs.size = cs'.size) (h1 : cs'.all (·.oneCell') = true)
    (h : wpList Try.prog ops Q rest (a.put op.dst undef) (w.setRow b cs')) : wpList Try.prog ops Q (op :: rest) a w :=
  wpList_plain hgd fun _ hK => by
    unfold Oper.wp execOp
    simp only [ho, hx, hy, Sem.run_bind, hc.store cs' hi hs h1, Result.andThen_ok, Sem.run_pure]
    exact hK _ _ h
end

/-- Results that lie in boxes. -/
theorem results_r {fn : Func} {t : Tmp} {ty : TypeId} (h : fn.results = #[.cell t ty]) {tmps : Array Value} {w : World} {b : Nat} {cs : Array Value} {d : TypeDesc} (hp : tmps.getD t undef = .pointer (some ⟨b, 0, none⟩)) (hc : Rw w b ty cs)
    (hd : d.isRow = true) (hu : Try.prog.underlying ty = some d) (hi : (Try.prog.info? ty).map (·.size) = some cs.size) : (results fn tmps).run Try.prog w = .ok (.agg cs) w := by
  have h2 := hc.load hd hu hi
  unfold results
  rw [h]
  simp only [List.mapM_toArray, List.mapM_cons, List.mapM_nil, hp, asAddr]
  simp [h2]
theorem results_rt {fn : Func} {t u : Tmp} {ty : TypeId} (h : fn.results = #[.cell t ty, .tmp u]) {tmps : Array Value} {w : World} {b : Nat} {cs : Array Value} {d : TypeDesc} (hp : tmps.getD t undef = .pointer (some ⟨b, 0, none⟩)) (hc : Rw w b ty cs)
    (hd : d.isRow = true) (hu : Try.prog.underlying ty = some d) (hi : (Try.prog.info? ty).map (·.size) = some cs.size) : (results fn tmps).run Try.prog w = .ok (.tuple #[.agg cs, tmps.getD u undef]) w := by
  have h2 := hc.load hd hu hi
  unfold results
  rw [h]
  simp only [List.mapM_toArray, List.mapM_cons, List.mapM_nil, hp, asAddr]
  simp [h2]
/-- What a function tells, the memory that was there left alone. -/
abbrev Tells (v : Value) (w : World) : Ending → World → Prop := fun e w' => e = .returned v ∧ Below w.heap.size w w'
theorem bel_alloc {w w1 : World} (h : Below w.heap.size w w1) (o : Obj) : Below w.heap.size w (w1.alloc o) := h.alloc h.size o

theorem tells_bool {x y : Bool} {w w' : World} (h : x = y) (hb : Below w.heap.size w w') : Tells (.bool y) w (.returned (.bool x)) w' := ⟨by rw [h], hb⟩
theorem tells_ub {u v : Value} {x y : Bool} {w w' : World} (hu : u = v) (h : x = y) (hb : Below w.heap.size w w') : Tells (.tuple #[v, .bool y]) w (.returned (.tuple #[u, .bool x])) w' := ⟨by rw [hu, h], hb⟩
/-- The empty text. -/
abbrev noS : ByteArray := ⟨#[]⟩
theorem tl_eq (a b : ByteArray) : a.toList = b.toList ↔ a = b := by
  rw [ByteArray.toList_eq, ByteArray.toList_eq]
  exact ⟨fun h => Go.WideShapes.bytes_inj h, fun h => by rw [h]⟩
theorem tl_nil (a : ByteArray) : a.toList = [] ↔ a = noS := by
  rw [← tl_eq a noS]
  have : (noS).toList = [] := by rw [ByteArray.toList_eq]
  rw [this]
/-- What a function answers, and the world that it leaves, told whole. -/
abbrev Leaves (v : Value) (w1 : World) : Ending → World → Prop := fun e w' => e = .returned v ∧ w' = w1
theorem hid_ex {α : Type} (a : α) : ∃ x, Hid (a = x) := ⟨a, (rfl : a = a)⟩
theorem maxLen_lt {n : Nat} (h : n ≤ maxLen) : (n : Int) ≤ 9223372036854775807 := by
  have : maxLen ≤ 9223372036854775807 := by decide
  omega
theorem range_later {w w' : World} {b o : Nat} {cs : List Value} (h : w.rangeAt b o cs) (hb : Below w.heap.size w w') : w'.rangeAt b o cs := fun j v hv => cell_later hb (h j v hv)
/-- The slice v has n elements of S cells each, which are these. -/
def SHas (S : Nat) (w : World) (v : Value) (n : Nat) (xs : List Value) : Prop :=
  n ≤ maxLen ∧ xs.length = n * S ∧ ((v = .slice none 0 0 ∧ n = 0) ∨ ∃ ad c, v = .slice (some ad) n c ∧ (n ≤ c ∧ c ≤ maxLen) ∧ (0 < n → ∃ g o, ad = ⟨g, o, none⟩ ∧ w.rangeAt g o xs))
section
variable {S n : Nat} {w w' : World} {v : Value} {xs : List Value}
theorem SHas.later (h : SHas S w v n xs) (hb : Below w.heap.size w w') : SHas S w' v n xs := by
  obtain ⟨hm, hl, ⟨rfl, rfl⟩ | ⟨ad, c, rfl, hc, hd⟩⟩ := h
  · exact ⟨hm, hl, .inl ⟨rfl, rfl⟩⟩
  · refine ⟨hm, hl, .inr ⟨ad, c, rfl, hc, fun h => ?_⟩⟩
    obtain ⟨g, o, rfl, hd2⟩ := hd h
    exact ⟨g, o, rfl, range_later hd2 hb⟩
theorem SHas.drew (h : SHas S w v n xs) : SHas S w.drew v n xs := h
theorem SHas.slice (h : SHas S w v n xs) : ∃ p c, v = .slice p n c := by
  obtain ⟨hm, hl, ⟨rfl, rfl⟩ | ⟨ad, c, rfl, hc, hd⟩⟩ := h
  · exact ⟨none, 0, rfl⟩
  · exact ⟨_, _, rfl⟩
theorem SHas.at {p : Option Addr} {c : Nat} (h : SHas S w (.slice p n c) n xs) (hn : 0 < n) : ∃ g o, p = some ⟨g, o, none⟩ ∧ w.rangeAt g o xs := by
  obtain ⟨hm, hl, ⟨h1, rfl⟩ | ⟨ad, c, h1, hc, hd⟩⟩ := h
  · omega
  · obtain ⟨g, o, rfl, hd2⟩ := hd hn
    simp only [Value.slice.injEq] at h1
    exact ⟨g, o, h1.1, hd2⟩
theorem SHas.cap {p : Option Addr} {c : Nat} (h : SHas S w (.slice p n c) n xs) : n ≤ c ∧ c ≤ maxLen := by
  obtain ⟨hm, hl, ⟨h1, rfl⟩ | ⟨ad, c, h1, hc, hd⟩⟩ := h
  · simp only [Value.slice.injEq] at h1
    obtain ⟨_, _, rfl⟩ := h1
    exact ⟨Nat.le_refl _, Nat.zero_le _⟩
  · simp only [Value.slice.injEq] at h1
    obtain ⟨_, _, rfl⟩ := h1
    exact hc
theorem SHas.nil (w : World) (S : Nat) : SHas S w (.slice none 0 0) 0 [] := ⟨Nat.zero_le _, by simp, .inl ⟨rfl, rfl⟩⟩
theorem range_sub {g o : Nat} {ys : List Value} (h : w.rangeAt g o xs) (k : Nat) (hy : ∀ j u, ys[j]? = some u → xs[k + j]? = some u) : w.rangeAt g (o + k) ys := fun j u hu => by
  have := h (k + j) u (hy j u hu)
  rwa [← Nat.add_assoc] at this
end
/-- A row that the call made, as a slice. -/
theorem own_sh {w : World} {B e S n : Nat} {v : Value} {xs : List Value} (h : w.ownsRow B e S v n xs) : SHas S w v n xs := by
  refine ⟨?_, h.1, ?_⟩
  · rcases h.2 with ⟨_, h0⟩ | ⟨g, cap, cur, rfl, hbg, hg, hnc, hcm, hcs, htake⟩
    · omega
    · omega
  · rcases h.2 with ⟨rfl, h0⟩ | ⟨g, cap, cur, rfl, hbg, hg, hnc, hcm, hcs, htake⟩
    · exact .inl ⟨rfl, h0⟩
    · refine .inr ⟨_, cap, rfl, ⟨hnc, hcm⟩, fun _ => ⟨g, 0, rfl, fun j u hu => ?_⟩⟩
      have h1 := h.cells (g := g) rfl j u hu
      rwa [Addr.add_mid] at h1
theorem own_sl {w : World} {B e S n : Nat} {v : Value} {xs : List Value} (h : w.ownsRow B e S v n xs) : ∃ p c, v = .slice p n c := by
  rcases h.2 with ⟨rfl, rfl⟩ | ⟨g, cap, cur, rfl, _⟩
  · exact ⟨none, 0, rfl⟩
  · exact ⟨_, _, rfl⟩
/-- Beyond what was there. -/
def Fr (w : World) (u : Value) : Prop := ∀ a n c, u = .slice (some a) n c → w.heap.size ≤ a.block
theorem own_fr {w w1 : World} {B e S n : Nat} {v : Value} {xs : List Value} (h : w1.ownsRow B e S v n xs) (hB : w.heap.size ≤ B) : Fr w v := by
  intro a m c e
  rcases h.2 with ⟨rfl, _⟩ | ⟨g, cap, cur, rfl, hbg, _⟩
  · simp at e
  · simp only [Value.slice.injEq, Option.some.injEq] at e
    rw [← e.1]
    exact Nat.le_trans hB hbg
theorem Rw.grown {w w' : World} {b : Nat} {t : TypeId} {cs : Array Value} {row : Option Nat} (h : Rw w b t cs) (hg : w.grownBy w' row) (hne : ∀ k, row = some k → b < k) : Rw w' b t cs :=
  (hg.block b h.lt (fun e => by have := hne b e.symm; omega)).trans h
theorem cells_new (w : World) (cs : List Value) (t : TypeId) (j : Nat) : (w.alloc (.cells cs.toArray t)).cell? ((⟨w.heap.size, 0, none⟩ : Addr).add j) = cs[j]? := by
  rw [Addr.add_mid, Nat.zero_add, cell_of_row _ _ j _ t (0, 0) (heap_alloc_last w _)]
  simp
theorem cells_next (w : World) {b : Nat} (hb : b = w.heap.size) (cs : List Value) (t : TypeId) (j : Nat) : (w.alloc (.cells cs.toArray t)).cell? ((⟨b, 0, none⟩ : Addr).add j) = cs[j]? := by subst hb; exact cells_new w cs t j

/-- Rows side by side. -/
def rows {α : Type} (f : α → List Value) (l : List α) : List Value := l.flatMap f
section
variable {α : Type} {f : α → List Value} {S : Nat}
theorem rows_append (a b : List α) : rows f (a ++ b) = rows f a ++ rows f b := by simp [rows]
theorem rows_cons (x : α) (l : List α) : rows f (x :: l) = f x ++ rows f l := rfl
theorem rows_one (x : α) : rows f [x] = f x := by simp [rows]
theorem rows_nil : rows f ([] : List α) = [] := rfl
theorem rows_length (hf : ∀ x, (f x).length = S) (l : List α) : (rows f l).length = l.length * S := by
  induction l with
  | nil => simp [rows]
  | cons d l ih =>
    rw [rows_cons, List.length_append, ih, hf, List.length_cons, Nat.succ_mul]
    omega
theorem rows_at (hf : ∀ x, (f x).length = S) : ∀ (l : List α) (i : Nat) (h : i < l.length) (j : Nat) (u : Value), (f l[i])[j]? = some u → (rows f l)[i * S + j]? = some u
  | x :: l, 0, _, j, u, hu => by
    have hj : j < (f x).length := (List.getElem?_eq_some_iff.1 hu).1
    rw [rows_cons, Nat.zero_mul, Nat.zero_add, List.getElem?_append_left hj]
    exact hu
  | x :: l, i + 1, h, j, u, hu => by
    have := rows_at hf l i (by simpa using h) j u hu
    rw [rows_cons, List.getElem?_append_right (by rw [hf, Nat.succ_mul]; omega), hf, Nat.succ_mul, show i * S + S + j - S = i * S + j by omega]
    exact this
theorem rows_all {p : Value → Prop} (h : ∀ x, ∀ u ∈ f x, p u) (l : List α) : ∀ u ∈ rows f l, p u := by
  intro u hu
  obtain ⟨x, _, hx⟩ := List.mem_flatMap.1 hu
  exact h x u hx
theorem rows_take (hf : ∀ x, (f x).length = S) (l : List α) (k : Nat) : rows f (l.take k) = (rows f l).take (k * S) := by
  induction l generalizing k with
  | nil => simp [rows]
  | cons x l ih =>
    cases k with
    | zero => simp [rows]
    | succ k =>
      rw [List.take_succ_cons, rows_cons, rows_cons, ih, List.take_append, hf, Nat.succ_mul]
      rw [List.take_of_length_le (l := f x) (by rw [hf]; omega)]
      congr 2
      omega
theorem rows_drop (hf : ∀ x, (f x).length = S) (l : List α) (k : Nat) : rows f (l.drop k) = (rows f l).drop (k * S) := by
  induction l generalizing k with
  | nil => simp [rows]
  | cons x l ih =>
    cases k with
    | zero => simp [rows]
    | succ k =>
      rw [List.drop_succ_cons, rows_cons, ih, List.drop_append, hf, Nat.succ_mul]
      rw [List.drop_of_length_le (l := f x) (by rw [hf]; omega), List.nil_append]
      congr 1
      omega
end
end Go.Proofs.Ytnfejhkgcbabfaa
/- Files and disks as lists, and what becomes of them. Nothing of the program. -/
namespace Go.Proofs.Ytnfejhkgcbabfaa
open Go.RowKit

/-- A text as bytes. -/
abbrev Bs := List UInt8
abbrev bs (x : ByteArray) : Bs := x.data.toList
theorem Bs.irr (a : Bs) : ¬ a < a := List.lt_irrefl a
theorem Bs.tri {a b : Bs} (h : ¬ a < b) (k : a ≠ b) : b < a := by
  have h1 : b ≤ a := List.not_lt.1 h
  rcases Classical.em (b < a) with h2 | h2
  · exact h2
  · exact absurd (List.le_antisymm (List.not_lt.1 h2) h1) k
theorem Bs.trans {a b c : Bs} (h : a < b) (k : b < c) : a < c := List.lt_trans h k
theorem Bs.asymm {a b : Bs} (h : a < b) : ¬ b < a := fun k => Bs.irr a (Bs.trans h k)
theorem bs_inj {x y : ByteArray} (h : bs x = bs y) : x = y := by
  cases x
  cases y
  simp only [bs] at h
  rw [Array.toList_inj.1 h]
theorem bs_size (x : ByteArray) : (bs x).length = x.size := by simp [bs]

/-- A file; a disk. -/
structure FV where
  x : ByteArray
  d : List UInt8
  k : Int
abbrev fn (f : FV) : Bs := bs f.x
structure DV where
  fs : List FV
  room : Int
  arm : Int
  dead : Bool
/-- How many bytes they have together. -/
def us (l : List FV) : Nat := (l.map (·.d.length)).sum
theorem us_nil : us [] = 0 := rfl
theorem us_cons (f : FV) (l : List FV) : us (f :: l) = f.d.length + us l := by simp [us]
theorem us_append (a b : List FV) : us (a ++ b) = us a + us b := by simp [us]
theorem us_take_succ {l : List FV} {k : Nat} (h : k < l.length) : us (l.take (k + 1)) = us (l.take k) + l[k].d.length := by
  rw [List.take_succ_eq_append_getElem h, us_append, us_cons, us_nil]
  omega
theorem us_take_le (l : List FV) (k : Nat) : us (l.take k) ≤ us l := by
  have : us (l.take k ++ l.drop k) = us l := by rw [List.take_append_drop]
  rw [us_append] at this
  omega
theorem us_at {l : List FV} {k : Nat} (h : k < l.length) : us (l.take k) + l[k].d.length ≤ us l := by
  rw [← us_take_succ h]
  exact us_take_le l (k + 1)
/-- May a file have the name? -/
def nmd (x : ByteArray) : Bool := decide (1 ≤ x.size) && decide (x.size ≤ 16)
/-- The k-th may stand there. -/
def okf (room : Int) (l : List FV) (k : Nat) (h : k < l.length) : Bool := nmd l[k].x && ((decide (k = 0) || decide (fn (l[k - 1]'(by omega)) < fn l[k])) && (decide (0 ≤ l[k].k) && (decide (l[k].k ≤ l[k].d.length) && decide ((l[k].d.length : Int) ≤ room - us (l.take k)))))
def ckF (room : Int) (l : List FV) : Bool := decide (∀ k (h : k < l.length), okf room l k h = true)
theorem ckF_iff (room : Int) (l : List FV) : ckF room l = true ↔ ∀ k (h : k < l.length), okf room l k h = true := by simp [ckF]
theorem ckF_not {room : Int} {l : List FV} {z : Bool} (HZ : Hid (ckF room l = z)) {k : Nat} (h : k < l.length) (h' : okf room l k h = false) : Hid (z = false) := by
  show z = false
  have hz := HZ.out
  cases z
  · rfl
  · rw [(ckF_iff room l).1 hz k h] at h'
    cases h'
/-- What is asked of a disk ahead of its files. -/
def ckH (d : DV) : Bool := decide (0 ≤ d.room) && (decide (d.room ≤ 1048576) && (decide (-1 ≤ d.arm) && decide (d.fs.length ≤ 64)))
def ckD (d : DV) : Bool := ckH d && ckF d.room d.fs
abbrev upf (l : List FV) : Prop := l.Pairwise (fun a b => fn a < fn b)
/-- One file alone. -/
def okO (f : FV) : Bool := nmd f.x && (decide (0 ≤ f.k) && decide (f.k ≤ f.d.length))
theorem ckF_all {room : Int} (hr : 0 ≤ room) (l : List FV) : ckF room l = true ↔ (∀ f ∈ l, okO f = true) ∧ upf l ∧ (us l : Int) ≤ room := by
  rw [ckF_iff]
  constructor
  · intro h
    refine ⟨fun y hy => ?_, ?_, ?_⟩
    · obtain ⟨k, hk, rfl⟩ := List.getElem_of_mem hy
      have := h k hk
      simp only [okf, Bool.and_eq_true] at this
      simp only [okO, Bool.and_eq_true]
      exact ⟨this.1, this.2.2.1, this.2.2.2.1⟩
    · unfold upf
      rw [List.pairwise_iff_getElem]
      intro i j hi hj hij
      obtain ⟨d, rfl⟩ : ∃ d, j = i + 1 + d := ⟨j - (i + 1), by omega⟩
      clear hij
      have step : ∀ k (hk : k + 1 < l.length), fn l[k] < fn l[k + 1] := fun k hk => by
        have := h (k + 1) hk
        simp only [okf, Bool.and_eq_true] at this
        simpa using this.2.1
      induction d with
      | zero => exact step i hj
      | succ d ih => exact Bs.trans (ih (by omega) step) (step (i + 1 + d) (by omega))
    · rcases Nat.eq_zero_or_pos l.length with h0 | h0
      · rw [List.length_eq_zero_iff.1 h0]
        simpa [us] using hr
      · have := h (l.length - 1) (by omega)
        simp only [okf, Bool.and_eq_true, decide_eq_true_eq] at this
        have h2 := this.2.2.2.2
        have h3 := us_take_succ (l := l) (k := l.length - 1) (by omega)
        rw [show l.length - 1 + 1 = l.length by omega, List.take_length] at h3
        omega
  · rintro ⟨h1, h2, h3⟩ k hk
    have a := h1 _ (List.getElem_mem hk)
    simp only [okO, Bool.and_eq_true] at a
    have b := us_at hk
    simp only [okf, Bool.and_eq_true]
    refine ⟨a.1, ?_, a.2.1, a.2.2, by simp; omega⟩
    rcases Nat.eq_zero_or_pos k with rfl | hp
    · rfl
    · unfold upf at h2
      rw [List.pairwise_iff_getElem] at h2
      have := h2 (k - 1) k (by omega) hk (by omega)
      simp [this]
/-- The place of a name; -1: none. -/
def plF (l : List FV) (x : ByteArray) : Int := if l.findIdx (fun f => decide (f.x = x)) < l.length then l.findIdx (fun f => decide (f.x = x)) else -1
theorem plF_at {l : List FV} {x : ByteArray} {k : Nat} (h : k < l.length) (hn : ∀ f ∈ l.take k, f.x ≠ x) (hx : l[k].x = x) : plF l x = k := by
  have : l.findIdx (fun f => decide (f.x = x)) = k := by
    rw [List.findIdx_eq h]
    refine ⟨by simp [hx], fun j hj => ?_⟩
    have := hn (l[j]'(by omega)) (List.mem_iff_getElem.2 ⟨j, by simp; omega, by simp⟩)
    simp [this]
  unfold plF
  rw [this, if_pos h]
theorem plF_none {l : List FV} {x : ByteArray} (hn : ∀ f ∈ l, f.x ≠ x) : plF l x = -1 := by
  unfold plF
  rw [if_neg]
  rw [List.findIdx_lt_length]
  rintro ⟨f, hf, h⟩
  exact hn f hf (by simpa using h)
theorem plF_spec (l : List FV) (x : ByteArray) : (plF l x = -1 ∧ ∀ f ∈ l, f.x ≠ x) ∨ ∃ k, ∃ h : k < l.length, plF l x = k ∧ l[k].x = x := by
  unfold plF
  by_cases h : l.findIdx (fun f => decide (f.x = x)) < l.length
  · rw [if_pos h]
    exact .inr ⟨_, h, rfl, by simpa using List.findIdx_getElem (w := h)⟩
  · rw [if_neg h]
    refine .inl ⟨rfl, fun f hf e => h ?_⟩
    rw [List.findIdx_lt_length]
    exact ⟨f, hf, by simp [e]⟩
/-- The file of that name; a new one, if there is none. -/
def fiF (l : List FV) (x : ByteArray) : FV := (l.find? (fun f => decide (f.x = x))).getD ⟨x, [], 0⟩
/-- A file in its place, as the document's answer goes. -/
def wiF (f : FV) : Bool → List FV → List FV
  | done, [] => if done then [] else [f]
  | done, y :: l => (if !done && !decide (fn y < fn f) then [f] else []) ++ (if y.x = f.x then [] else [y]) ++ wiF f (done || !decide (fn y < fn f)) l
def withF (f : FV) (l : List FV) : List FV := wiF f false l
theorem wi_done (f : FV) (l : List FV) : wiF f true l = l.filter (fun y => !decide (y.x = f.x)) := by
  induction l with
  | nil => rfl
  | cons y l ih =>
    rw [wiF, List.filter_cons]
    simp only [Bool.not_true, Bool.false_and, Bool.false_eq_true, if_false, List.nil_append, Bool.true_or]
    rw [ih]
    by_cases e : y.x = f.x
    · simp [e]
    · simp [e]
/-- Among rising ones: those ahead, it, those behind. -/
theorem withF_up {f : FV} {l : List FV} (h : upf l) : withF f l = l.filter (fun y => decide (fn y < fn f)) ++ f :: l.filter (fun y => decide (fn f < fn y)) := by
  unfold withF
  induction l with
  | nil => rfl
  | cons y l ih =>
    obtain ⟨h1, h2⟩ := List.pairwise_cons.1 h
    rw [wiF, List.filter_cons, List.filter_cons]
    by_cases hy : fn y < fn f
    · have hne : y.x ≠ f.x := fun e => Bs.irr _ (show fn f < fn f from by have h3 := hy; unfold fn at h3 ⊢; rw [e] at h3; exact h3)
      have hng : ¬ fn f < fn y := Bs.asymm hy
      simp only [hy, hne, hng, decide_true, decide_false, Bool.not_true, Bool.and_false, Bool.false_eq_true, if_false, List.nil_append, Bool.or_false, if_true]
      rw [ih h2]
      rfl
    · have a : ∀ z ∈ l, ¬ fn z < fn f := fun z hz k => hy (Bs.trans (h1 z hz) k)
      have b : l.filter (fun y => decide (fn y < fn f)) = [] := by
        rw [List.filter_eq_nil_iff]
        intro z hz
        simpa using a z hz
      have c : l.filter (fun y => !decide (y.x = f.x)) = l := by
        rw [List.filter_eq_self]
        intro z hz
        by_cases e : z.x = f.x
        · have := h1 z hz
          unfold fn at this hy
          rw [e] at this
          exact absurd this hy
        · simp [e]
      have e2 : l.filter (fun y => decide (fn f < fn y)) = l := by
        rw [List.filter_eq_self]
        intro z hz
        have := h1 z hz
        have h3 : fn z ≠ fn f := fun e => hy (by rw [← e]; exact this)
        simpa using Bs.tri (a z hz) h3
      simp only [hy, decide_false, Bool.not_false, Bool.and_self, if_true, Bool.or_true, Bool.false_eq_true, if_false]
      rw [wi_done, b, c, e2]
      by_cases e : y.x = f.x
      · have : ¬ fn f < fn y := by unfold fn; rw [e]; exact Bs.irr _
        simp [e, this]
      · have h3 : fn y ≠ fn f := fun k => e (bs_inj k)
        have : fn f < fn y := Bs.tri hy h3
        simp [e, this]
def woF (l : List FV) (x : ByteArray) : List FV := l.filter (fun y => !decide (y.x = x))
/-- What is asked first of a call of a name. -/
def askD (d : DV) (x : ByteArray) : Int := if ckD d = false then 3 else if d.dead = true then 220 else if nmd x = false then 2 else 0
/-- Is there power? The disk behind it. -/
def pwD (d : DV) : DV := if d.arm = 0 then { d with dead := true } else if 0 < d.arm then { d with arm := d.arm - 1 } else d
def fit (d : DV) (x : ByteArray) (more : Int) : Bool := (decide (0 ≤ plF d.fs x) || decide (d.fs.length < 64)) && decide (more ≤ d.room - us d.fs)
def putD (d : DV) (x : ByteArray) (b : List UInt8) : DV × Int :=
  if askD d x ≠ 0 then (d, askD d x) else if fit d x (b.length - (fiF d.fs x).d.length) = false then (d, 4) else if d.arm = 0 then (pwD d, 220) else ({ pwD d with fs := withF ⟨x, b, b.length⟩ d.fs }, 0)
def appD (d : DV) (x : ByteArray) (b : List UInt8) : DV × Int :=
  if askD d x ≠ 0 then (d, askD d x) else if fit d x b.length = false then (d, 4) else ({ pwD d with fs := withF ⟨x, (fiF d.fs x).d ++ b, (fiF d.fs x).k⟩ d.fs }, if d.arm = 0 then 220 else 0)
def synD (d : DV) (x : ByteArray) : DV × Int :=
  if askD d x ≠ 0 then (d, askD d x) else if plF d.fs x < 0 then (d, 7) else if d.arm = 0 then (pwD d, 220) else ({ pwD d with fs := withF ⟨x, (fiF d.fs x).d, (fiF d.fs x).d.length⟩ d.fs }, 0)
def droD (d : DV) (x : ByteArray) : DV × Int :=
  if askD d x ≠ 0 then (d, askD d x) else if plF d.fs x < 0 then (d, 7) else if d.arm = 0 then (pwD d, 220) else ({ pwD d with fs := woF d.fs x }, 0)
def reaD (d : DV) (x : ByteArray) : List UInt8 × Int :=
  if askD d x ≠ 0 then ([], askD d x) else if plF d.fs x < 0 then ([], 7) else ((fiF d.fs x).d, 0)
def namD (d : DV) : List ByteArray := if ckD d = false ∨ d.dead = true then [] else d.fs.map (·.x)
def Xn1 : ByteArray := ⟨#[120]⟩
def armD (d : DV) (n : Int) : DV × Int := if askD d Xn1 ≠ 0 then (d, askD d Xn1) else if n < -1 then (d, 2) else ({ d with arm := n }, 0)
def newD (n : Int) : DV × Int := if n < 0 ∨ 1048576 < n then (⟨[], 0, 0, false⟩, 2) else (⟨[], n, -1, false⟩, 0)
/-- How many of a file's bytes are kept. -/
def kpN (f : FV) (keep : Int) : Int := f.k + max 0 (min keep (f.d.length - f.k))
def crF (f : FV) (keep : Int) : FV := ⟨f.x, f.d.take (kpN f keep).toNat, kpN f keep⟩
def craD (d : DV) (keep : Int) : DV := if ckD d = false then d else ⟨d.fs.map (crF · keep), d.room, -1, false⟩
def sameF (f g : FV) : Bool := decide (f.x = g.x) && (decide (f.k = g.k) && decide (f.d = g.d))
end Go.Proofs.Ytnfejhkgcbabfaa
