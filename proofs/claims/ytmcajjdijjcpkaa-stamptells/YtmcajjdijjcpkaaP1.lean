import Derived.Test.YtmcajjdijjcpkaaRows
import Derived.Still
import Derived.OrdersHeld
import Derived.WalkKit
import Derived.WalkSpells
import Derived.WalkLawsBesides
import Derived.WalkMore
import Derived.Deep.RegionHeld3
import Derived.Deep.WholeRow
import Derived.Deep.MidRow
import Derived.Laws.CopyOwn
import Derived.ProofKit
import Derived.OpenShut
/- A region that draws its order, where every operation, a call too, comes to one value in every world that meets S, and leaves a world that meets S: it may be walked in the text's order, once. Nothing of one program. -/
namespace Go.Proofs.Ytmcajjdijjcpkaa.Calm

section
variable {P : Program} {ops : Array Oper} {Q : Exit → Act → World → Prop} {md : Region.Mode} {S : World → Prop} {K : Act → Prop}

/-- In every world that meets S what is run comes to v, by itself or by a call, and leaves a world that meets S. -/
def Comes (P : Program) (S : World → Prop) (v : Value) (m : Sem Next) : Prop := ∀ w, S w → match m.run P w with
  | .ok (.value u) w' => u = v ∧ S w'
  | .ok (.enter f args) w' => Calls P f args w' fun e w'' => e = .returned v ∧ S w''
  | _ => False

def Calm (P : Program) (ops : Array Oper) (S : World → Prop) (o : Oper) (v : Value) (a : Act) : Prop :=
  (Region.wanted o (yielded ops a.tmps) = true ∧ Comes P S v (execOp a.eval o)) ∨ (Region.wanted o (yielded ops a.tmps) = false ∧ v = undef)

theorem Calm.of_same {o : Oper} {v : Value} {a a' : Act} (hy : Calm P ops S o v a) (he : execOp a'.eval o = execOp a.eval o)
    (hw : Region.wanted o (yielded ops a'.tmps) = Region.wanted o (yielded ops a.tmps)) : Calm P ops S o v a' := by
  unfold Calm at *
  rw [he, hw]
  exact hy

theorem Calm.wpOp {i : Nat} {o : Oper} {v : Value} {a : Act} (hi : ops[i]? = some o) (hy : Calm P ops S o v a)
    {K : Act → World → Prop} {w : World} (hS : S w) (h : ∀ w', S w' → K (a.put o.dst v) w') : Go.wpOp P ops Q i K a w := by
  unfold Go.wpOp
  simp only [hi]
  rcases hy with ⟨hw, hv⟩ | ⟨hw, rfl⟩
  · simp only [hw, if_true, Oper.wp]
    refine .inl ?_
    have hv' := hv w hS
    generalize (execOp a.eval o).run P w = r at hv'
    cases r with
    | ok n w' =>
      cases n <;> simp only at hv' ⊢
      case value u =>
        obtain ⟨rfl, hS'⟩ := hv'
        exact h _ hS'
      case enter f args =>
        refine Calls.mono hv' fun e w'' he => ?_
        obtain ⟨rfl, hS'⟩ := he
        exact h _ hS'
    | halt x w' => exact hv'.elim
  · simp only [hw, Bool.false_eq_true, if_false]
    exact h _ hS

/-- Whatever order is picked. -/
def anyCalm (P : Program) (md : Region.Mode) (ops : Array Oper) (S : World → Prop) (K : Act → Prop) : Nat → Array Bool → Act → Prop
  | 0, listed, a => Region.ready md ops listed = [] ∧ K a
  | fuel + 1, listed, a =>
    (Region.ready md ops listed = [] → K a) ∧
    ∀ i ∈ Region.ready md ops listed, ∃ o v, ops[i]? = some o ∧ Calm P ops S o v a ∧ anyCalm P md ops S K fuel (listed.setIfInBounds i true) (a.put o.dst v)

theorem wpAny_of_calm (hK : ∀ a w, K a → S w → Q .normal a w) : ∀ (fuel : Nat) (listed : Array Bool) (a : Act) (w : World), S w → anyCalm P md ops S K fuel listed a → wpAny P md ops Q fuel listed a w
  | 0, _, a, w, hS, h => ⟨h.1, hK a w h.2 hS⟩
  | fuel + 1, _, a, w, hS, h => ⟨fun hr => hK a w (h.1 hr) hS, fun i hi => by
      obtain ⟨o, v, ho, hc, hr⟩ := h.2 i hi
      exact hc.wpOp ho hS fun w' hS' => wpAny_of_calm hK fuel _ _ w' hS' hr⟩

theorem anyCalm_first {i : Nat} {oi : Oper} {v : Value} (hi : ops[i]? = some oi) (hsel : ∀ (j : Nat) (o : Oper) cs b, ops[j]? = some o → o.op ≠ .select cs b) :
    ∀ (fuel : Nat) (listed : Array Bool) (a : Act),
      (∀ j oj, ops[j]? = some oj → j ≠ i → listed.getD j true = false → (∀ e ∈ oj.after, Region.binds md e = true → e.on ≠ i) → oi.apart ops oj = true) →
      i ∈ Region.ready md ops listed → Calm P ops S oi v a →
      anyCalm P md ops S K fuel (listed.setIfInBounds i true) (a.put oi.dst v) → anyCalm P md ops S K (fuel + 1) listed a := by
  intro fuel
  induction fuel with
  | zero =>
    intro listed a _ hr hy H
    refine ⟨fun h => (by rw [h] at hr; cases hr), fun j hj => ?_⟩
    by_cases hji : j = i
    · subst hji; exact ⟨oi, v, hi, hy, H⟩
    · have := ready_mono hj hji
      rw [H.1] at this
      cases this
  | succ fuel ih =>
    intro listed a hfree hr hy H
    refine ⟨fun h => (by rw [h] at hr; cases hr), fun j hj => ?_⟩
    by_cases hji : j = i
    · subst hji; exact ⟨oi, v, hi, hy, H⟩
    · obtain ⟨oj, u, hoj, hcj, hrest⟩ := H.2 j (ready_mono hj hji)
      obtain ⟨hjun, oj', hoj', hall⟩ := mem_ready.1 hj
      obtain rfl : oj = oj' := by rw [hoj] at hoj'; exact Option.some.inj hoj'
      have hnot : ∀ e ∈ oj.after, Region.binds md e = true → e.on ≠ i := fun e he hb heq => by
        have h1 := hall e he hb
        have h0 := (mem_ready.1 hr).1
        rw [heq] at h1
        rcases Nat.lt_or_ge i listed.size with h' | h'
        · simp [h'] at h0 h1; rw [h0] at h1; cases h1
        · simp [Array.getElem?_eq_none h'] at h1
      obtain ⟨h1, h2, h3⟩ := Oper.apart_spec (hfree j oj hoj hji hjun hnot)
      have hfree' : ∀ k ok, ops[k]? = some ok → k ≠ i → (listed.setIfInBounds j true).getD k true = false →
          (∀ e ∈ ok.after, Region.binds md e = true → e.on ≠ i) → oi.apart ops ok = true := fun k ok hk hki hun hno => by
        refine hfree k ok hk hki ?_ hno
        by_cases hjk : j = k
        · subst hjk; exact hjun
        · rw [getD_set_ne true hjk] at hun; exact hun
      refine ⟨oj, u, hoj, hcj.of_same (execOp_put oj (fun cs b => hsel j oj cs b hoj) a oi.dst v h1).symm (wanted_put oj a oi.dst v h1).symm, ?_⟩
      refine ih (listed.setIfInBounds j true) (a.put oj.dst u) hfree' (ready_mono hr (Ne.symm hji)) ?_ ?_
      · exact hy.of_same (execOp_put oi (fun cs b => hsel i oi cs b hi) a oj.dst u h3) (wanted_put oi a oj.dst u h3)
      · rw [Array.setIfInBounds_comm _ _ hji, ← Act.put_comm a v u h2]
        exact hrest

/-- In the text's order. -/
def calmList (P : Program) (ops : Array Oper) (S : World → Prop) (K : Act → Prop) : List Oper → Act → Prop
  | [], a => K a
  | o :: l, a => ∃ v, Calm P ops S o v a ∧ calmList P ops S K l (a.put o.dst v)

theorem anyCalm_lex (hs : Region.noSelect ops = true) : ∀ (l : List Oper) (k : Nat) (listed : Array Bool) (a : Act), (∀ j, l[j]? = ops[k + j]?) →
    Region.lexFrom md ops l.length k listed = true → calmList P ops S K l a → anyCalm P md ops S K l.length listed a
  | [], _, _, _, _, hB, h => ⟨by simpa [Region.lexFrom] using hB, h⟩
  | o :: l, k, listed, a, hl, hB, h => by
    have h0 : ops[k]? = some o := by simpa using (hl 0).symm
    simp only [List.length_cons, Region.lexFrom, Bool.and_eq_true] at hB
    obtain ⟨⟨hr, hf⟩, hB'⟩ := hB
    obtain ⟨v, hy, hK⟩ := h
    exact anyCalm_first h0 (Region.noSelect_spec hs) l.length listed a (Region.free_spec h0 hf) (by simpa using hr) hy
      (anyCalm_lex hs l (k + 1) _ _ (fun j => by have := hl (j + 1); simpa [Nat.add_assoc, Nat.add_comm 1 j] using this) hB' hK)

theorem region {id : Nat} {a : Act} {w : World} {l : List Oper} (hm : P.follows .mixedOrders = true) (hB : Region.lexB .any l.toArray = true) (S : World → Prop) (hS : S w.drew)
    (h : calmList P l.toArray S (fun a' => ∀ w', S w' → Q .normal a' w') l a) : (Code.region id l.toArray true).wp P Q a w := by
  simp only [Region.lexB, Bool.and_eq_true] at hB
  refine wp_region_any hm (wpAny_of_calm (K := fun a' => ∀ w', S w' → Q .normal a' w') (S := S) (fun a w h hS => h w hS) _ _ _ _ hS ?_)
  have := anyCalm_lex (md := .any) hB.1 l 0 (Array.replicate l.toArray.size false) a (by simp) (by simpa using hB.2) h
  simpa using this

/-! The moves. -/
theorem skip {o : Oper} {l : List Oper} {a : Act} (hw : Region.wanted o (yielded ops a.tmps) = false) (h : calmList P ops S K l (a.put o.dst undef)) : calmList P ops S K (o :: l) a :=
  ⟨undef, .inr ⟨hw, rfl⟩, h⟩
theorem pure {o : Oper} {l : List Oper} {a : Act} {v : Value} (hw : Region.wanted o (yielded ops a.tmps) = true) (hv : ∀ w, S w → (execOp a.eval o).run P w = .ok (.value v) w)
    (h : calmList P ops S K l (a.put o.dst v)) : calmList P ops S K (o :: l) a :=
  ⟨v, .inl ⟨hw, fun w hS => by rw [hv w hS]; exact ⟨rfl, hS⟩⟩, h⟩
theorem call {o : Oper} {l : List Oper} {a : Act} {v : Value} {f : FuncId} {args : Array Value} (hw : Region.wanted o (yielded ops a.tmps) = true)
    (he : ∀ w, (execOp a.eval o).run P w = .ok (.enter f args) w) (hc : ∀ w, S w → Calls P f args w fun e w' => e = .returned v ∧ S w')
    (h : calmList P ops S K l (a.put o.dst v)) : calmList P ops S K (o :: l) a :=
  ⟨v, .inl ⟨hw, fun w hS => by rw [he w]; exact hc w hS⟩, h⟩

/-- S stays behind whatever leaves the memory that was there alone. -/
def Stays (S : World → Prop) : Prop := ∀ w w', S w → RowKit.Below w.heap.size w w' → S w'

/-- The function has a body. -/
def enters (P : Program) (f : FuncId) : Bool := match P.funcs[f]? with
  | some fn => !(fn.name == "runtime.NumGoroutine") && fn.body.isSome
  | none => false
theorem enters_run {f : FuncId} (h : enters P f = true) (args : Array Value) (w : World) : (callFunc f args).run P w = .ok (.enter f args) w := by
  unfold enters at h
  cases hf : P.funcs[f]? with
  | none => simp [hf] at h
  | some fn =>
    simp only [hf, Bool.and_eq_true, Bool.not_eq_true'] at h
    have h1 : ¬ fn.name = "runtime.NumGoroutine" := by simpa using h.1
    have h2 : ¬ fn.body = none := by
      intro hb
      rw [hb] at h
      simp at h
    simp [callFunc, hf, h1, h2]

/-- A call of a function by its name, of no, one, two, three arguments; a contract that leaves the memory that was there alone. -/
theorem call0 {o : Oper} {l : List Oper} {a : Act} {r : Value} {f : FuncId} {ts : Array TypeId} (hw : Region.wanted o (yielded ops a.tmps) = true)
    (ho : o.op = .call { callee := .value (.func f), args := #[], argTypes := ts })  (hf : enters P f = true) (hs : Stays S)
    (hc : ∀ w, Calls P f #[] w fun e w' => e = .returned r ∧ RowKit.Below w.heap.size w w')
    (h : calmList P ops S K l (a.put o.dst r)) : calmList P ops S K (o :: l) a :=
  call (f := f) (args := #[]) hw (fun w => by
    have e : ∀ args, (callFunc f args).run P w = .ok (.enter f args) w := fun args => enters_run hf args w
    unfold execOp
    simp [ho, go_sem, Act.eval, e]) (fun w hS => (hc w).mono fun e w' he => ⟨he.1, hs w w' hS he.2⟩) h
theorem call1 {o : Oper} {l : List Oper} {a : Act} {r x : Value} {f : FuncId} {ts : Array TypeId} {u : Operand} (hw : Region.wanted o (yielded ops a.tmps) = true)
    (ho : o.op = .call { callee := .value (.func f), args := #[u], argTypes := ts }) (hu : a.eval u = x) (hf : enters P f = true) (hs : Stays S)
    (hc : ∀ w, Calls P f #[x] w fun e w' => e = .returned r ∧ RowKit.Below w.heap.size w w')
    (h : calmList P ops S K l (a.put o.dst r)) : calmList P ops S K (o :: l) a :=
  call (f := f) (args := #[x]) hw (fun w => by
    have e : ∀ args, (callFunc f args).run P w = .ok (.enter f args) w := fun args => enters_run hf args w
    subst hu
    unfold execOp
    simp [ho, go_sem, Act.eval, e]) (fun w hS => (hc w).mono fun e w' he => ⟨he.1, hs w w' hS he.2⟩) h
theorem call2 {o : Oper} {l : List Oper} {a : Act} {r x y : Value} {f : FuncId} {ts : Array TypeId} {u v : Operand} (hw : Region.wanted o (yielded ops a.tmps) = true)
    (ho : o.op = .call { callee := .value (.func f), args := #[u, v], argTypes := ts }) (hu : a.eval u = x) (hv : a.eval v = y) (hf : enters P f = true) (hs : Stays S)
    (hc : ∀ w, Calls P f #[x, y] w fun e w' => e = .returned r ∧ RowKit.Below w.heap.size w w')
    (h : calmList P ops S K l (a.put o.dst r)) : calmList P ops S K (o :: l) a :=
  call (f := f) (args := #[x, y]) hw (fun w => by
    have e : ∀ args, (callFunc f args).run P w = .ok (.enter f args) w := fun args => enters_run hf args w
    subst hu
    subst hv
    unfold execOp
    simp [ho, go_sem, Act.eval, e]) (fun w hS => (hc w).mono fun e w' he => ⟨he.1, hs w w' hS he.2⟩) h
theorem call3 {o : Oper} {l : List Oper} {a : Act} {r x y z : Value} {f : FuncId} {ts : Array TypeId} {u v t : Operand} (hw : Region.wanted o (yielded ops a.tmps) = true)
    (ho : o.op = .call { callee := .value (.func f), args := #[u, v, t], argTypes := ts }) (hu : a.eval u = x) (hv : a.eval v = y) (ht : a.eval t = z) (hf : enters P f = true) (hs : Stays S)
    (hc : ∀ w, Calls P f #[x, y, z] w fun e w' => e = .returned r ∧ RowKit.Below w.heap.size w w')
    (h : calmList P ops S K l (a.put o.dst r)) : calmList P ops S K (o :: l) a :=
  call (f := f) (args := #[x, y, z]) hw (fun w => by
    have e : ∀ args, (callFunc f args).run P w = .ok (.enter f args) w := fun args => enters_run hf args w
    subst hu
    subst hv
    subst ht
    unfold execOp
    simp [ho, go_sem, Act.eval, e]) (fun w hS => (hc w).mono fun e w' he => ⟨he.1, hs w w' hS he.2⟩) h

end
end Go.Proofs.Ytmcajjdijjcpkaa.Calm
/- A tree by value (a number, and a slice of trees), in a box of its own and at a place of a row; what a binary one is in memory (Is), and a tree of any form (Lies). Nothing of one function. -/
namespace Go.Proofs.Ytmcajjdijjcpkaa
open Go.ChangeShapes Go.WideShapes Go.ChangeAt Go.RowKit

/-- A tree by value. -/
abbrev TV (n : Int) (p : Option Addr) (l c : Nat) : Value := .agg #[.int .i64 n, .slice p l c]
/-- The block b is a box that holds it. -/
def Bx (w : World) (b : Nat) (n : Int) (p : Option Addr) (l c : Nat) : Prop := w.heap[b]? = some (.cells #[.int .i64 n, .slice p l c] 24)
/-- It lies at the cell o of b. -/
def Tat (w : World) (b o : Nat) (n : Int) (p : Option Addr) (l c : Nat) : Prop := w.cell? ⟨b, o, none⟩ = some (.int .i64 n) ∧ w.cell? ⟨b, o + 1, none⟩ = some (.slice p l c)

theorem size24 : (Try.prog.info? 24).map (·.size) = some 2 := by kernel_rfl
theorem below_on {w a b : World} (h : Below w.heap.size w a) (k : Below a.heap.size a b) : Below w.heap.size w b := h.trans (k.mono h.size)

section
variable {w w' : World} {b o : Nat} {n : Int} {p : Option Addr} {l c : Nat}
theorem Bx.lt (h : Bx w b n p l c) : b < w.heap.size := (Array.getElem?_eq_some_iff.1 h).1
theorem bx_new (w : World) (n : Int) (p : Option Addr) (l c : Nat) : Bx (w.alloc (.cells #[.int .i64 n, .slice p l c] 24)) w.heap.size n p l c := heap_alloc_last w _
theorem bx_next (w : World) {b : Nat} (hb : b = w.heap.size) (n : Int) (p : Option Addr) (l c : Nat) : Bx (w.alloc (.cells #[.int .i64 n, .slice p l c] 24)) b n p l c := by subst hb; exact bx_new w n p l c
theorem Bx.later (h : Bx w b n p l c) (hb : Below w.heap.size w w') : Bx w' b n p l c := (hb.block b h.lt).trans h
theorem Bx.alloc (h : Bx w b n p l c) (x : Obj) : Bx (w.alloc x) b n p l c := (Below.heap_alloc w x b h.lt).trans h
theorem Bx.drew (h : Bx w b n p l c) : Bx w.drew b n p l c := h
theorem Bx.row (h : Bx w b n p l c) (n' : Int) (p' : Option Addr) (l' c' : Nat) : Bx (w.setRow b #[.int .i64 n', .slice p' l' c']) b n' p' l' c' := setRow_heap w b _ _ 24 (0, 0) h
theorem Bx.rowOther (h : Bx w b n p l c) {q : Nat} (hne : b ≠ q) (cs : Array Value) : Bx (w.setRow q cs) b n p l c := (setRow_other w q b cs hne).trans h
theorem Bx.tat (h : Bx w b n p l c) : Tat w b 0 n p l c := by
  constructor
  · rw [cell_of_row _ _ 0 _ 24 (0, 0) h]; rfl
  · rw [cell_of_row _ _ 1 _ 24 (0, 0) h]; rfl
theorem Bx.cell0 (h : Bx w b n p l c) : w.cell? ⟨b, 0, none⟩ = some (.int .i64 n) := h.tat.1
theorem Bx.cell1 (h : Bx w b n p l c) : w.cell? ⟨b, 1, none⟩ = some (.slice p l c) := h.tat.2
theorem Tat.lt (h : Tat w b o n p l c) : b < w.heap.size := World.block_lt_of_cell? _ _ h.1
theorem Tat.later (h : Tat w b o n p l c) (hb : Below w.heap.size w w') : Tat w' b o n p l c := ⟨cell_later hb h.1, cell_later hb h.2⟩
theorem Tat.range (h : Tat w b o n p l c) : w.rangeAt b o [.int .i64 n, .slice p l c] := by
  intro j v hv
  match j with
  | 0 => simp at hv; subst hv; exact h.1
  | 1 => simp at hv; subst hv; exact h.2
  | j + 2 => simp at hv
theorem Tat.load (h : Tat w b o n p l c) : (Instr.loadAt 24 (.pointer (some ⟨b, o, none⟩))).run Try.prog w = .ok (TV n p l c) w :=
  run_loadAt_mid w b o 24 _ _ h.range Try.underlying24 rfl size24
theorem Bx.loadVar (h : Bx w b n p l c) : (loadVar 24 ⟨b, 0, none⟩).run Try.prog w = .ok (TV n p l c) w :=
  run_loadVar_row w b 24 24 _ (0, 0) _ h Try.underlying24 rfl size24
theorem Bx.store (h : Bx w b n p l c) (n' : Int) (p' : Option Addr) (l' c' : Nat) : (Instr.storeAt 24 (.pointer (some ⟨b, 0, none⟩)) (TV n' p' l' c')).run Try.prog w = .ok () (w.setRow b #[.int .i64 n', .slice p' l' c']) := by
  simp only [Instr.storeAt, Instr.sureAddr, Sem.run_bind, Sem.run_pure, Result.andThen]
  exact run_storeVar_row w b 24 24 _ _ h size24 rfl (by simp [Value.oneCell'])
end

/-- A tree is loaded, in a plain region, guarded or not. -/
theorem load_t {ops : Array Oper} {rest : List Oper} {op : Oper} {a : Act} {w : World} {Q : Exit → Act → World → Prop} (x : Operand) (ho : op.op = .load 24 x) (hw : Region.wanted op (yielded ops a.tmps) = true)
    (b o : Nat) (hx : a.eval x = .pointer (some ⟨b, o, none⟩)) {n : Int} {p : Option Addr} {l c : Nat} (hc : Tat w b o n p l c)
    (h : wpList Try.prog ops Q rest (a.put op.dst (TV n p l c)) w) : wpList Try.prog ops Q (op :: rest) a w :=
  BigFrame.wpList_want hw fun _ hK => by
    unfold Oper.wp execOp
    simp only [ho, hx, Sem.run_bind, hc.load, Result.andThen_ok, Sem.run_pure]
    exact hK _ _ h
/-- A tree is stored whole. -/
theorem store_t {ops : Array Oper} {rest : List Oper} {op : Oper} {a : Act} {w : World} {Q : Exit → Act → World → Prop} (hgd : op.guard = none) (x y : Operand) (ho : op.op = .store 24 x y)
    (b : Nat) (n : Int) (p : Option Addr) (l c : Nat) (hx : a.eval x = .pointer (some ⟨b, 0, none⟩)) (hy : a.eval y = TV n p l c) {n0 : Int} {p0 : Option Addr} {l0 c0 : Nat} (hc : Bx w b n0 p0 l0 c0)
    (h : wpList Try.prog ops Q rest (a.put op.dst undef) (w.setRow b #[.int .i64 n, .slice p l c])) : wpList Try.prog ops Q (op :: rest) a w :=
  wpList_plain hgd fun _ hK => by
    unfold Oper.wp execOp
    simp only [ho, hx, hy, Sem.run_bind, hc.store n p l c, Result.andThen_ok, Sem.run_pure]
    exact hK _ _ h

/-- Results that lie in boxes. -/
theorem results_t {fn : Func} {t : Tmp} (h : fn.results = #[.cell t 24]) {tmps : Array Value} {w : World} {b : Nat} {n : Int} {p : Option Addr} {l c : Nat} (hp : tmps.getD t undef = .pointer (some ⟨b, 0, none⟩)) (hc : Bx w b n p l c) :
    (results fn tmps).run Try.prog w = .ok (TV n p l c) w := by
  have h2 := hc.loadVar
  unfold results
  rw [h]
  simp only [List.mapM_toArray, List.mapM_cons, List.mapM_nil, hp, asAddr]
  simp [h2]
theorem results_te {fn : Func} {t u : Tmp} (h : fn.results = #[.cell t 24, .tmp u]) {tmps : Array Value} {w : World} {b : Nat} {n : Int} {p : Option Addr} {l c : Nat} (hp : tmps.getD t undef = .pointer (some ⟨b, 0, none⟩)) (hc : Bx w b n p l c) :
    (results fn tmps).run Try.prog w = .ok (.tuple #[TV n p l c, tmps.getD u undef]) w := by
  have h2 := hc.loadVar
  unfold results
  rw [h]
  simp only [List.mapM_toArray, List.mapM_cons, List.mapM_nil, hp, asAddr]
  simp [h2]
theorem results_tt {fn : Func} {t u : Tmp} (h : fn.results = #[.cell t 24, .cell u 24]) {tmps : Array Value} {w : World} {b b' : Nat} {n n' : Int} {p p' : Option Addr} {l c l' c' : Nat} (hp : tmps.getD t undef = .pointer (some ⟨b, 0, none⟩)) (hc : Bx w b n p l c)
    (hp' : tmps.getD u undef = .pointer (some ⟨b', 0, none⟩)) (hc' : Bx w b' n' p' l' c') :
    (results fn tmps).run Try.prog w = .ok (.tuple #[TV n p l c, TV n' p' l' c']) w := by
  have h2 := hc.loadVar
  have h3 := hc'.loadVar
  unfold results
  rw [h]
  simp only [List.mapM_toArray, List.mapM_cons, List.mapM_nil, hp, hp', asAddr]
  simp [h2, h3]
theorem results_tte {fn : Func} {t u x : Tmp} (h : fn.results = #[.cell t 24, .cell u 24, .tmp x]) {tmps : Array Value} {w : World} {b b' : Nat} {n n' : Int} {p p' : Option Addr} {l c l' c' : Nat} (hp : tmps.getD t undef = .pointer (some ⟨b, 0, none⟩)) (hc : Bx w b n p l c)
    (hp' : tmps.getD u undef = .pointer (some ⟨b', 0, none⟩)) (hc' : Bx w b' n' p' l' c') :
    (results fn tmps).run Try.prog w = .ok (.tuple #[TV n p l c, TV n' p' l' c', tmps.getD x undef]) w := by
  have h2 := hc.loadVar
  have h3 := hc'.loadVar
  unfold results
  rw [h]
  simp only [List.mapM_toArray, List.mapM_cons, List.mapM_nil, hp, hp', asAddr]
  simp [h2, h3]
theorem Calm.loadT {ops : Array Oper} {S : World → Prop} {K : Act → Prop} {o : Oper} {l : List Oper} {a : Act} {b f : Nat} {n : Int} {p : Option Addr} {ln c : Nat} (hw : Region.wanted o (yielded ops a.tmps) = true) (x : Operand) (ho : o.op = .load 24 x)
    (hx : a.eval x = .pointer (some ⟨b, f, none⟩)) (hS : ∀ w, S w → Tat w b f n p ln c) (h : Calm.calmList Try.prog ops S K l (a.put o.dst (TV n p ln c))) : Calm.calmList Try.prog ops S K (o :: l) a :=
  Calm.pure hw (fun w hw' => by unfold execOp; simp only [ho, hx, Sem.run_bind, (hS w hw').load, Result.andThen_ok, Sem.run_pure]) h

/-! Trees. -/
/-- A binary tree of numbers. -/
structure EV where
  mk ::
  n : Int
  sub : Unit ⊕ (EV × EV)
abbrev EV.leaf (n : Int) : EV := ⟨n, .inl ()⟩
abbrev EV.node (n : Int) (x y : EV) : EV := ⟨n, .inr (x, y)⟩
/-- A tree of whatever form: its number, how many Kids, which. -/
structure Tr where
  mk ::
  n : Int
  len : Nat
  kids : Fin len → Tr

/-- The value v, in w, is the binary tree x. -/
def Is (w : World) : EV → Value → Prop
  | ⟨n, .inl _⟩, v => ∃ p c, v = TV n p 0 c
  | ⟨n, .inr (x, y)⟩, v => ∃ g o c n0 p0 l0 c0 n1 p1 l1 c1, v = TV n (some ⟨g, o, none⟩) 2 c ∧ Tat w g o n0 p0 l0 c0 ∧ Tat w g (o + 2) n1 p1 l1 c1 ∧ Is w x (TV n0 p0 l0 c0) ∧ Is w y (TV n1 p1 l1 c1)
/-- The value v, in w, is the tree t. -/
def Lies (w : World) : Tr → Value → Prop
  | ⟨n, len, kids⟩, v => (-9223372036854775808 ≤ n ∧ n ≤ 9223372036854775807) ∧ len ≤ maxLen ∧ ∃ p c, v = TV n p len c ∧ (0 < len → ∃ g o, p = some ⟨g, o, none⟩ ∧ ∀ i, (hi : i < len) → ∃ n0 p0 l0 c0, Tat w g (o + i * 2) n0 p0 l0 c0 ∧ Lies w (kids ⟨i, hi⟩) (TV n0 p0 l0 c0))

theorem Is.later {w w' : World} (hb : Below w.heap.size w w') : ∀ {x : EV} {v : Value}, Is w x v → Is w' x v
  | ⟨_, .inl _⟩, _, h => h
  | ⟨_, .inr (_, _)⟩, _, ⟨g, o, c, n0, p0, l0, c0, n1, p1, l1, c1, e, h0, h1, hx, hy⟩ => ⟨g, o, c, n0, p0, l0, c0, n1, p1, l1, c1, e, h0.later hb, h1.later hb, hx.later hb, hy.later hb⟩
theorem Lies.later {w w' : World} (hb : Below w.heap.size w w') : ∀ {t : Tr} {v : Value}, Lies w t v → Lies w' t v
  | ⟨_, _, _⟩, _, ⟨hn, hl, p, c, e, h⟩ => ⟨hn, hl, p, c, e, fun h0 => by
      obtain ⟨g, o, hp, hk⟩ := h h0
      refine ⟨g, o, hp, fun i hi => ?_⟩
      obtain ⟨n0, p0, l0, c0, ha, hb'⟩ := hk i hi
      exact ⟨n0, p0, l0, c0, ha.later hb, Lies.later hb hb'⟩⟩

/-- A box's content may change, and no more. -/
theorem cell_box {w : World} {q : Nat} {n : Int} {p : Option Addr} {l c : Nat} (hq : Bx w q n p l c) {g o : Nat} {v : Value} (h : w.cell? ⟨g, o, none⟩ = some v) (ho : 2 ≤ o ∨ w.cell? ⟨g, o + 2, none⟩ ≠ none) (cs : Array Value) : (w.setRow q cs).cell? ⟨g, o, none⟩ = some v := by
  by_cases e : g = q
  · subst e
    exfalso
    rw [cell_of_row _ _ o _ 24 (0, 0) hq] at h
    rcases ho with ho | ho
    · match o, ho with
      | o + 2, _ => simp at h
    · rw [cell_of_row _ _ (o + 2) _ 24 (0, 0) hq] at ho
      simp at ho
  · rw [World.cell?_of_block (w := w) (setRow_other w q g cs e)]
    exact h
theorem Tat.box_hi {w : World} {q : Nat} {n : Int} {p : Option Addr} {l c : Nat} (hq : Bx w q n p l c) {g o : Nat} {n0 : Int} {p0 : Option Addr} {l0 c0 : Nat} (h : Tat w g (o + 2) n0 p0 l0 c0) (cs : Array Value) : Tat (w.setRow q cs) g (o + 2) n0 p0 l0 c0 :=
  ⟨cell_box hq h.1 (.inl (by omega)) cs, cell_box hq h.2 (.inl (by omega)) cs⟩
theorem Tat.box_lo {w : World} {q : Nat} {n : Int} {p : Option Addr} {l c : Nat} (hq : Bx w q n p l c) {g o : Nat} {n0 : Int} {p0 : Option Addr} {l0 c0 : Nat} (h : Tat w g o n0 p0 l0 c0) {n1 : Int} {p1 : Option Addr} {l1 c1 : Nat} (h2 : Tat w g (o + 2) n1 p1 l1 c1) (cs : Array Value) : Tat (w.setRow q cs) g o n0 p0 l0 c0 :=
  ⟨cell_box hq h.1 (.inr (by rw [h2.1]; simp)) cs, cell_box hq h.2 (.inr (by rw [show o + 1 + 2 = o + 2 + 1 by omega, h2.2]; simp)) cs⟩
theorem Is.box {w : World} {q : Nat} {n : Int} {p : Option Addr} {l c : Nat} (hq : Bx w q n p l c) (cs : Array Value) : ∀ {x : EV} {v : Value}, Is w x v → Is (w.setRow q cs) x v
  | ⟨_, .inl _⟩, _, h => h
  | ⟨_, .inr (_, _)⟩, _, ⟨g, o, c, n0, p0, l0, c0, n1, p1, l1, c1, e, h0, h1, hx, hy⟩ => ⟨g, o, c, n0, p0, l0, c0, n1, p1, l1, c1, e, h0.box_lo hq h1 cs, h1.box_hi hq cs, hx.box hq cs, hy.box hq cs⟩

/-- What is told of a tree of whatever form: so deep at most, with so much left. -/
def rough : Tr → Nat → Int → Bool
  | ⟨n, len, kids⟩, room, left => decide (0 ≤ n ∧ n ≤ left) && (if len = 0 then true else if h : len = 2 then decide (0 < room) && rough (kids ⟨0, by omega⟩) (room - 1) (left - n) && rough (kids ⟨1, by omega⟩) (room - 1) (left - n) else false)
def evOf : Tr → EV
  | ⟨n, len, kids⟩ => if h : len = 2 then .node n (evOf (kids ⟨0, by omega⟩)) (evOf (kids ⟨1, by omega⟩)) else .leaf n
/-- The same of a binary one. -/
def rg : EV → Nat → Int → Bool
  | ⟨n, .inl _⟩, _, left => decide (0 ≤ n ∧ n ≤ left)
  | ⟨n, .inr (x, y)⟩, room, left => decide (0 ≤ n ∧ n ≤ left) && (decide (0 < room) && rg x (room - 1) (left - n) && rg y (room - 1) (left - n))
theorem is_of_lies {w : World} : ∀ (t : Tr) (room : Nat) (left : Int) (v : Value), rough t room left = true → Lies w t v → Is w (evOf t) v ∧ rg (evOf t) room left = true
  | ⟨n, len, kids⟩, room, left, v, hr, ⟨hn, hl, p, c, e, h⟩ => by
    have RR : ∀ (i : Nat) (hi : i < len) (v1 : Value), rough (kids ⟨i, hi⟩) (room - 1) (left - n) = true → Lies w (kids ⟨i, hi⟩) v1 → Is w (evOf (kids ⟨i, hi⟩)) v1 ∧ rg (evOf (kids ⟨i, hi⟩)) (room - 1) (left - n) = true := fun i hi v1 h1 h2 => is_of_lies (kids ⟨i, hi⟩) (room - 1) (left - n) v1 h1 h2
    unfold rough at hr
    unfold evOf
    by_cases h0 : len = 0
    · subst h0
      rw [dif_neg (by decide)]
      simp only [if_true, Bool.and_true] at hr
      exact ⟨⟨p, c, e⟩, hr⟩
    · by_cases h2 : len = 2
      · subst h2
        rw [if_neg (by decide), dif_pos rfl] at hr
        rw [dif_pos rfl]
        simp only [Bool.and_eq_true] at hr
        obtain ⟨hn0, ⟨hroom, r0⟩, r1⟩ := hr
        obtain ⟨g, o, rfl, hk⟩ := h (by decide)
        obtain ⟨n0, p0, l0, c0, ha0, hb0⟩ := hk 0 (by decide)
        obtain ⟨n1, p1, l1, c1, ha1, hb1⟩ := hk 1 (by decide)
        have i0 := RR 0 (by decide) _ r0 hb0
        have i1 := RR 1 (by decide) _ r1 hb1
        refine ⟨⟨g, o, c, n0, p0, l0, c0, n1, p1, l1, c1, e, by simpa using ha0, by simpa using ha1, i0.1, i1.1⟩, ?_⟩
        simp only [rg, Bool.and_eq_true]
        exact ⟨hn0, ⟨hroom, i0.2⟩, i1.2⟩
      · simp [h0, h2] at hr
def toTr : EV → Tr
  | ⟨n, .inl _⟩ => ⟨n, 0, fun i => i.elim0⟩
  | ⟨n, .inr (x, y)⟩ => ⟨n, 2, fun i => if i.1 = 0 then toTr x else toTr y⟩
/-- The same trees? -/
def eqb : EV → EV → Bool
  | ⟨n, .inl _⟩, ⟨m, .inl _⟩ => n == m
  | ⟨n, .inr (x, y)⟩, ⟨m, .inr (x', y')⟩ => n == m && (eqb x x' && eqb y y')
  | ⟨_, .inl _⟩, ⟨_, .inr _⟩ => false
  | ⟨_, .inr _⟩, ⟨_, .inl _⟩ => false
theorem eqb_iff : ∀ x y : EV, eqb x y = true ↔ x = y
  | ⟨n, .inl ()⟩, ⟨m, .inl ()⟩ => by simp [eqb]
  | ⟨n, .inr (x, y)⟩, ⟨m, .inr (x', y')⟩ => by simp [eqb, eqb_iff x x', eqb_iff y y']
  | ⟨_, .inl _⟩, ⟨_, .inr _⟩ => by simp [eqb]
  | ⟨_, .inr _⟩, ⟨_, .inl _⟩ => by simp [eqb]
theorem eqb_refl (x : EV) : eqb x x = true := (eqb_iff x x).2 rfl
theorem eq_of_eqb {x y : EV} (h : eqb x y = true) : x = y := (eqb_iff x y).1 h
theorem rough_to : ∀ (x : EV) (room : Nat) (left : Int), rough (toTr x) room left = rg x room left
  | ⟨n, .inl _⟩, room, left => by simp [toTr, rough, rg]
  | ⟨n, .inr (x, y)⟩, room, left => by
    rw [toTr, rough, if_neg (by decide), dif_pos rfl, if_pos rfl, if_neg (by decide), rough_to x, rough_to y, rg]
theorem evOf_to : ∀ x : EV, evOf (toTr x) = x
  | ⟨n, .inl ()⟩ => rfl
  | ⟨n, .inr (x, y)⟩ => by rw [toTr, evOf, dif_pos rfl, if_pos rfl, if_neg (by decide), evOf_to x, evOf_to y]
theorem lies_is {w : World} : ∀ (x : EV) (room : Nat) (left : Int) (v : Value), rg x room left = true → left ≤ 1073741824 → Is w x v → Lies w (toTr x) v
  | ⟨n, .inl _⟩, room, left, _, hr, hl, ⟨p, c, e⟩ => by
    simp only [rg, decide_eq_true_eq] at hr
    exact ⟨by omega, by decide, p, c, e, fun h => by omega⟩
  | ⟨n, .inr (x, y)⟩, room, left, _, hr, hl, ⟨g, o, c, n0, p0, l0, c0, n1, p1, l1, c1, e, h0, h1, hx, hy⟩ => by
    simp only [rg, Bool.and_eq_true, decide_eq_true_eq] at hr
    obtain ⟨hn, ⟨_, rx⟩, ry⟩ := hr
    have ix := lies_is x _ _ _ rx (by omega) hx
    have iy := lies_is y _ _ _ ry (by omega) hy
    refine ⟨by omega, by decide, some ⟨g, o, none⟩, c, e, fun _ => ⟨g, o, rfl, fun i hi => ?_⟩⟩
    match i, hi with
    | 0, _ => exact ⟨n0, p0, l0, c0, by simpa using h0, by simpa using ix⟩
    | 1, _ => exact ⟨n1, p1, l1, c1, by simpa using h1, by simpa using iy⟩
end Go.Proofs.Ytmcajjdijjcpkaa
