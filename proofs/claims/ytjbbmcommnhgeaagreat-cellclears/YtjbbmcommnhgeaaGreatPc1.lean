import Derived.Test.YtjbbmcommnhgeaaGreatRows
import Derived.WalkKit
import Derived.WalkSpells
import Derived.WalkLawsBesides
import Derived.WalkMore
import Derived.Deep.RegionHeld3
import Derived.Deep.WholeRow
import Derived.Deep.MidRow
import Derived.Laws.CopyOwn
import Derived.ProofKit
import Derived.OpenShut
import Derived.Still
import Derived.OrdersHeld
import Derived.Laws.AppendOwnNone
set_option maxRecDepth 100000
set_option maxHeartbeats 8000000
namespace Go.Proofs.YtjbbmcommnhgeaaGreat
open Go.ChangeShapes Go.WideShapes Go.ChangeAt Go.RowKit
def vals (l : List Int) : List Value := l.map (Value.int .i64)
abbrev V (l : List Int) : Value := .agg (vals l).toArray
def At (w : World) (b : Nat) (l : List Int) : Prop := l.length = 13 ∧ w.heap[b]? = some (.cells (vals l).toArray 31)
theorem vals_length (l : List Int) : (vals l).length = l.length := by simp [vals]
theorem vals_size (l : List Int) : (vals l).toArray.size = l.length := by simp [vals]
theorem vals_one (l : List Int) : (vals l).toArray.all (·.oneCell') = true := by
 rw [List.all_toArray, List.all_eq_true]
 intro u hu
 obtain ⟨_, _, rfl⟩ := List.mem_map.1 hu
 rfl
theorem size31 : (Tryz.prog.info? 31).map (·.size) = some 13 := by kernel_rfl
theorem at_new (w : World) (l : List Int) (hl : l.length = 13) : At (w.alloc (.cells (vals l).toArray 31)) w.heap.size l := ⟨hl, heap_alloc_last w _⟩
theorem At.lt {w : World} {b : Nat} {l : List Int} (h : At w b l) : b < w.heap.size := (Array.getElem?_eq_some_iff.1 h.2).1
theorem At.alloc {w : World} {b : Nat} {l : List Int} (h : At w b l) (o : Obj) : At (w.alloc o) b l := ⟨h.1, (Below.heap_alloc w o b h.lt).trans h.2⟩
theorem At.drew {w : World} {b : Nat} {l : List Int} (h : At w b l) : At w.drew b l := h
theorem At.below {w w' : World} {B b : Nat} {l : List Int} (h : At w b l) (hb : Below B w w') (hB : b < B) : At w' b l := ⟨h.1, (hb.block b hB).trans h.2⟩
theorem At.later {w w' : World} {b : Nat} {l : List Int} (h : At w b l) (hb : Below w.heap.size w w') : At w' b l := h.below hb h.lt
theorem At.cell {w : World} {b i : Nat} {l : List Int} (h : At w b l) (hi : i < 13) : w.cell? ⟨b, i, none⟩ = some (.int .i64 (l.getD i 0)) := by
 have hi' : i < l.length := by rw [h.1]; exact hi
 rw [cell_of_row _ _ i _ 31 (0, 0) h.2]
 simp [vals, List.getElem?_eq_getElem hi']
theorem At.frozen {w : World} {b : Nat} {l : List Int} (h : At w b l) (i : Nat) : w.frozen? ⟨b, i, none⟩ = false := by
 have h2 := h.2
 simp [World.frozen?, h2]
theorem At.row {w : World} {b : Nat} {l0 : List Int} (h : At w b l0) {l : List Int} (hl : l.length = 13) : At (w.setRow b (vals l).toArray) b l := ⟨hl, setRow_heap w b _ _ 31 (0, 0) h.2⟩
theorem At.rowOther {w : World} {b c : Nat} {l : List Int} (h : At w b l) (hne : b ≠ c) (cs : Array Value) : At (w.setRow c cs) b l := ⟨h.1, (setRow_other w c b cs hne).trans h.2⟩
theorem At.set {w : World} {b i : Nat} {l : List Int} (h : At w b l) (z : Int) : At (w.setCell ⟨b, i, none⟩ (.int .i64 z)) b (l.set i z) := by
 rw [setCell_eq_setRow w b i _ 31 (0, 0) _ h.2]
 have : (vals l).toArray.setIfInBounds i (.int .i64 z) = (vals (l.set i z)).toArray := by simp [vals, List.map_set]
 rw [this]
 exact h.row (by rw [List.length_set]; exact h.1)
theorem At.setOther {w : World} {b c i : Nat} {l : List Int} (h : At w b l) (hne : b ≠ c) (v : Value) : At (w.setCell ⟨c, i, none⟩ v) b l := ⟨h.1, (Below.heap_setCell w _ v b hne).trans h.2⟩
theorem At.loadVar {w : World} {b : Nat} {l : List Int} (h : At w b l) : (loadVar 31 ⟨b, 0, none⟩).run Tryz.prog w = .ok (V l) w :=
 run_loadVar_row w b 31 31 _ (0, 0) _ h.2 Tryz.underlying31 rfl (by rw [vals_size, h.1]; exact size31)
theorem At.load {w : World} {b : Nat} {l : List Int} (h : At w b l) : (Instr.loadAt 31 (.pointer (some ⟨b, 0, none⟩))).run Tryz.prog w = .ok (V l) w := by
 simp only [Instr.loadAt, Instr.sureAddr, Sem.run_bind, Sem.run_pure, Result.andThen]
 exact h.loadVar
theorem At.store {w : World} {b : Nat} {l0 l : List Int} (h : At w b l0) (hl : l.length = 13) : (Instr.storeAt 31 (.pointer (some ⟨b, 0, none⟩)) (V l)).run Tryz.prog w = .ok () (w.setRow b (vals l).toArray) := by
 simp only [Instr.storeAt, Instr.sureAddr, Sem.run_bind, Sem.run_pure, Result.andThen]
 exact run_storeVar_row w b 31 31 _ _ h.2 (by rw [vals_size, hl]; exact size31) (by rw [vals_size, vals_size, h.1, hl]) (vals_one l)
theorem At.range {w : World} {b : Nat} {l : List Int} (h : At w b l) : w.rangeAt b 0 (vals l) := by
 intro j v hv
 have hj : j < (vals l).length := (List.getElem?_eq_some_iff.1 hv).1
 rw [vals_length, h.1] at hj
 rw [Nat.zero_add, h.cell hj, ← hv]
 simp [vals, List.getElem?_eq_getElem (show j < l.length by rw [h.1]; exact hj)]
end Go.Proofs.YtjbbmcommnhgeaaGreat
namespace Go.Proofs.YtjbbmcommnhgeaaGreat.Calm
section
variable {P : Program} {ops : Array Oper} {Q : Exit → Act → World → Prop} {md : Region.Mode} {S : World → Prop} {K : Act → Prop}
def Comes (P : Program) (S : World → Prop) (v : Value) (m : Sem Next) : Prop := ∀ w, S w → match m.run P w with
 | .ok (.value u) w' => u = v ∧ S w'
 | .ok (.enter f args) w' => Calls P f args w' fun e w'' => e = .returned v ∧ S w''
 | _ => False
def Calm (P : Program) (ops : Array Oper) (S : World → Prop) (o : Oper) (v : Value) (a : Act) : Prop :=
 (Region.wanted o (yielded ops a.tmps) = true ∧ Comes P S v (execOp a.eval o)) ∨ (Region.wanted o (yielded ops a.tmps) = false ∧ v = undef)
theorem Calm.of_same {o : Oper} {v : Value} {a a' : Act} (hy : Calm P ops S o v a) (he : execOp a'.eval o = execOp a.eval o)
  (hw : Region.wanted o (yielded ops a'.tmps) = Region.wanted o (yielded ops a.tmps)) : Calm P ops S o v a' := by
 unfold Calm at *
 rw [he, hw]
 exact hy
theorem Calm.wpOp {i : Nat} {o : Oper} {v : Value} {a : Act} (hi : ops[i]? = some o) (hy : Calm P ops S o v a)
  {K : Act → World → Prop} {w : World} (hS : S w) (h : ∀ w', S w' → K (a.put o.dst v) w') : Go.wpOp P ops Q i K a w := by
 unfold Go.wpOp
 simp only [hi]
 rcases hy with ⟨hw, hv⟩ | ⟨hw, rfl⟩
 ·simp only [hw, if_true, Oper.wp]
  refine .inl ?_
  have hv' := hv w hS
  generalize (execOp a.eval o).run P w = r at hv'
  cases r with
  | ok n w' =>
   cases n <;> simp only at hv' ⊢
   case value u =>
    obtain ⟨rfl, hS'⟩ := hv'
    exact h _ hS'
   case enter f args =>
    refine Calls.mono hv' fun e w'' he => ?_
    obtain ⟨rfl, hS'⟩ := he
    exact h _ hS'
  | halt x w' => exact hv'.elim
 ·simp only [hw, Bool.false_eq_true, if_false]
  exact h _ hS
def anyCalm (P : Program) (md : Region.Mode) (ops : Array Oper) (S : World → Prop) (K : Act → Prop) : Nat → Array Bool → Act → Prop
 | 0, listed, a => Region.ready md ops listed = [] ∧ K a
 | fuel + 1, listed, a =>
  (Region.ready md ops listed = [] → K a) ∧
  ∀ i ∈ Region.ready md ops listed, ∃ o v, ops[i]? = some o ∧ Calm P ops S o v a ∧ anyCalm P md ops S K fuel (listed.setIfInBounds i true) (a.put o.dst v)
theorem wpAny_of_calm (hK : ∀ a w, K a → S w → Q .normal a w) : ∀ (fuel : Nat) (listed : Array Bool) (a : Act) (w : World), S w → anyCalm P md ops S K fuel listed a → wpAny P md ops Q fuel listed a w
 | 0, _, a, w, hS, h => ⟨h.1, hK a w h.2 hS⟩
 | fuel + 1, _, a, w, hS, h => ⟨fun hr => hK a w (h.1 hr) hS, fun i hi => by
   obtain ⟨o, v, ho, hc, hr⟩ := h.2 i hi
   exact hc.wpOp ho hS fun w' hS' => wpAny_of_calm hK fuel _ _ w' hS' hr⟩
theorem anyCalm_first {i : Nat} {oi : Oper} {v : Value} (hi : ops[i]? = some oi) (hsel : ∀ (j : Nat) (o : Oper) cs b, ops[j]? = some o → o.op ≠ .select cs b) :
  ∀ (fuel : Nat) (listed : Array Bool) (a : Act),
   (∀ j oj, ops[j]? = some oj → j ≠ i → listed.getD j true = false → (∀ e ∈ oj.after, Region.binds md e = true → e.on ≠ i) → oi.apart ops oj = true) →
   i ∈ Region.ready md ops listed → Calm P ops S oi v a →
   anyCalm P md ops S K fuel (listed.setIfInBounds i true) (a.put oi.dst v) → anyCalm P md ops S K (fuel + 1) listed a := by
 intro fuel
 induction fuel with
 | zero =>
  intro listed a _ hr hy H
  refine ⟨fun h => (by rw [h] at hr; cases hr), fun j hj => ?_⟩
  by_cases hji : j = i
  ·subst hji; exact ⟨oi, v, hi, hy, H⟩
  ·have := ready_mono hj hji
   rw [H.1] at this
   cases this
 | succ fuel ih =>
  intro listed a hfree hr hy H
  refine ⟨fun h => (by rw [h] at hr; cases hr), fun j hj => ?_⟩
  by_cases hji : j = i
  ·subst hji; exact ⟨oi, v, hi, hy, H⟩
  ·obtain ⟨oj, u, hoj, hcj, hrest⟩ := H.2 j (ready_mono hj hji)
   obtain ⟨hjun, oj', hoj', hall⟩ := mem_ready.1 hj
   obtain rfl : oj = oj' := by rw [hoj] at hoj'; exact Option.some.inj hoj'
   have hnot : ∀ e ∈ oj.after, Region.binds md e = true → e.on ≠ i := fun e he hb heq => by
    have h1 := hall e he hb
    have h0 := (mem_ready.1 hr).1
    rw [heq] at h1
    rcases Nat.lt_or_ge i listed.size with h' | h'
    ·simp [h'] at h0 h1; rw [h0] at h1; cases h1
    ·simp [Array.getElem?_eq_none h'] at h1
   obtain ⟨h1, h2, h3⟩ := Oper.apart_spec (hfree j oj hoj hji hjun hnot)
   have hfree' : ∀ k ok, ops[k]? = some ok → k ≠ i → (listed.setIfInBounds j true).getD k true = false →
     (∀ e ∈ ok.after, Region.binds md e = true → e.on ≠ i) → oi.apart ops ok = true := fun k ok hk hki hun hno => by
    refine hfree k ok hk hki ?_ hno
    by_cases hjk : j = k
    ·subst hjk; exact hjun
    ·rw [getD_set_ne true hjk] at hun; exact hun
   refine ⟨oj, u, hoj, hcj.of_same (execOp_put oj (fun cs b => hsel j oj cs b hoj) a oi.dst v h1).symm (wanted_put oj a oi.dst v h1).symm, ?_⟩
   refine ih (listed.setIfInBounds j true) (a.put oj.dst u) hfree' (ready_mono hr (Ne.symm hji)) ?_ ?_
   ·exact hy.of_same (execOp_put oi (fun cs b => hsel i oi cs b hi) a oj.dst u h3) (wanted_put oi a oj.dst u h3)
   ·rw [Array.setIfInBounds_comm _ _ hji, ← Act.put_comm a v u h2]
    exact hrest
def calmList (P : Program) (ops : Array Oper) (S : World → Prop) (K : Act → Prop) : List Oper → Act → Prop
 | [], a => K a
 | o :: l, a => ∃ v, Calm P ops S o v a ∧ calmList P ops S K l (a.put o.dst v)
theorem anyCalm_lex (hs : Region.noSelect ops = true) : ∀ (l : List Oper) (k : Nat) (listed : Array Bool) (a : Act), (∀ j, l[j]? = ops[k + j]?) →
  Region.lexFrom md ops l.length k listed = true → calmList P ops S K l a → anyCalm P md ops S K l.length listed a
 | [], _, _, _, _, hB, h => ⟨by simpa [Region.lexFrom] using hB, h⟩
 | o :: l, k, listed, a, hl, hB, h => by
  have h0 : ops[k]? = some o := by simpa using (hl 0).symm
  simp only [List.length_cons, Region.lexFrom, Bool.and_eq_true] at hB
  obtain ⟨⟨hr, hf⟩, hB'⟩ := hB
  obtain ⟨v, hy, hK⟩ := h
  exact anyCalm_first h0 (Region.noSelect_spec hs) l.length listed a (Region.free_spec h0 hf) (by simpa using hr) hy
   (anyCalm_lex hs l (k + 1) _ _ (fun j => by have := hl (j + 1); simpa [Nat.add_assoc, Nat.add_comm 1 j] using this) hB' hK)
theorem region {id : Nat} {a : Act} {w : World} {l : List Oper} (hm : P.follows .mixedOrders = true) (hB : Region.lexB .any l.toArray = true) (S : World → Prop) (hS : S w.drew)
  (h : calmList P l.toArray S (fun a' => ∀ w', S w' → Q .normal a' w') l a) : (Code.region id l.toArray true).wp P Q a w := by
 simp only [Region.lexB, Bool.and_eq_true] at hB
 refine wp_region_any hm (wpAny_of_calm (K := fun a' => ∀ w', S w' → Q .normal a' w') (S := S) (fun a w h hS => h w hS) _ _ _ _ hS ?_)
 have := anyCalm_lex (md := .any) hB.1 l 0 (Array.replicate l.toArray.size false) a (by simp) (by simpa using hB.2) h
 simpa using this
theorem skip {o : Oper} {l : List Oper} {a : Act} (hw : Region.wanted o (yielded ops a.tmps) = false) (h : calmList P ops S K l (a.put o.dst undef)) : calmList P ops S K (o :: l) a :=
 ⟨undef, .inr ⟨hw, rfl⟩, h⟩
theorem pure {o : Oper} {l : List Oper} {a : Act} {v : Value} (hw : Region.wanted o (yielded ops a.tmps) = true) (hv : ∀ w, S w → (execOp a.eval o).run P w = .ok (.value v) w)
  (h : calmList P ops S K l (a.put o.dst v)) : calmList P ops S K (o :: l) a :=
 ⟨v, .inl ⟨hw, fun w hS => by rw [hv w hS]; exact ⟨rfl, hS⟩⟩, h⟩
theorem call {o : Oper} {l : List Oper} {a : Act} {v : Value} {f : FuncId} {args : Array Value} (hw : Region.wanted o (yielded ops a.tmps) = true)
  (he : ∀ w, (execOp a.eval o).run P w = .ok (.enter f args) w) (hc : ∀ w, S w → Calls P f args w fun e w' => e = .returned v ∧ S w')
  (h : calmList P ops S K l (a.put o.dst v)) : calmList P ops S K (o :: l) a :=
 ⟨v, .inl ⟨hw, fun w hS => by rw [he w]; exact hc w hS⟩, h⟩
def Stays (S : World → Prop) : Prop := ∀ w w', S w → RowKit.Below w.heap.size w w' → S w'
def enters (P : Program) (f : FuncId) : Bool := match P.funcs[f]? with
 | some fn => !(fn.name == "runtime.NumGoroutine") && fn.body.isSome
 | none => false
theorem enters_run {f : FuncId} (h : enters P f = true) (args : Array Value) (w : World) : (callFunc f args).run P w = .ok (.enter f args) w := by
 unfold enters at h
 cases hf : P.funcs[f]? with
 | none => simp [hf] at h
 | some fn =>
  simp only [hf, Bool.and_eq_true, Bool.not_eq_true'] at h
  have h1 : ¬ fn.name = "runtime.NumGoroutine" := by simpa using h.1
  have h2 : ¬ fn.body = none := by
   intro hb
   rw [hb] at h
   simp at h
  simp [callFunc, hf, h1, h2]
theorem call1 {o : Oper} {l : List Oper} {a : Act} {r x : Value} {f : FuncId} {ts : Array TypeId} {u : Operand} (hw : Region.wanted o (yielded ops a.tmps) = true)
  (ho : o.op = .call { callee := .value (.func f), args := #[u], argTypes := ts }) (hu : a.eval u = x) (hf : enters P f = true) (hs : Stays S)
  (hc : ∀ w, Calls P f #[x] w fun e w' => e = .returned r ∧ RowKit.Below w.heap.size w w')
  (h : calmList P ops S K l (a.put o.dst r)) : calmList P ops S K (o :: l) a :=
 call (f := f) (args := #[x]) hw (fun w => by
  have e : ∀ args, (callFunc f args).run P w = .ok (.enter f args) w := fun args => enters_run hf args w
  subst hu
  unfold execOp
  simp [ho, go_sem, Act.eval, e]) (fun w hS => (hc w).mono fun e w' he => ⟨he.1, hs w w' hS he.2⟩) h
theorem call2 {o : Oper} {l : List Oper} {a : Act} {r x y : Value} {f : FuncId} {ts : Array TypeId} {u v : Operand} (hw : Region.wanted o (yielded ops a.tmps) = true)
  (ho : o.op = .call { callee := .value (.func f), args := #[u, v], argTypes := ts }) (hu : a.eval u = x) (hv : a.eval v = y) (hf : enters P f = true) (hs : Stays S)
  (hc : ∀ w, Calls P f #[x, y] w fun e w' => e = .returned r ∧ RowKit.Below w.heap.size w w')
  (h : calmList P ops S K l (a.put o.dst r)) : calmList P ops S K (o :: l) a :=
 call (f := f) (args := #[x, y]) hw (fun w => by
  have e : ∀ args, (callFunc f args).run P w = .ok (.enter f args) w := fun args => enters_run hf args w
  subst hu
  subst hv
  unfold execOp
  simp [ho, go_sem, Act.eval, e]) (fun w hS => (hc w).mono fun e w' he => ⟨he.1, hs w w' hS he.2⟩) h
end
end Go.Proofs.YtjbbmcommnhgeaaGreat.Calm
namespace Go.Proofs.YtjbbmcommnhgeaaGreat
open Go.ChangeShapes Go.WideShapes Go.ChangeAt Go.RowKit
def Rw (w : World) (b : Nat) (t : TypeId) (cs : Array Value) : Prop := w.heap[b]? = some (.cells cs t)
section
variable {w w' : World} {b : Nat} {t : TypeId} {cs : Array Value}
theorem Rw.lt (h : Rw w b t cs) : b < w.heap.size := (Array.getElem?_eq_some_iff.1 h).1
theorem rw_new (w : World) (t : TypeId) (cs : Array Value) : Rw (w.alloc (.cells cs t)) w.heap.size t cs := heap_alloc_last w _
theorem rw_next (w : World) {b : Nat} (hb : b = w.heap.size) (t : TypeId) (cs : Array Value) : Rw (w.alloc (.cells cs t)) b t cs := by subst hb; exact rw_new w t cs
theorem Rw.later (h : Rw w b t cs) (hb : Below w.heap.size w w') : Rw w' b t cs := (hb.block b h.lt).trans h
theorem Rw.alloc (h : Rw w b t cs) (x : Obj) : Rw (w.alloc x) b t cs := (Below.heap_alloc w x b h.lt).trans h
theorem Rw.row (h : Rw w b t cs) (cs' : Array Value) : Rw (w.setRow b cs') b t cs' := setRow_heap w b _ _ t (0, 0) h
theorem Rw.rowOther (h : Rw w b t cs) {q : Nat} (hne : b ≠ q) (cs' : Array Value) : Rw (w.setRow q cs') b t cs := (setRow_other w q b cs' hne).trans h
theorem Rw.set (h : Rw w b t cs) (i : Nat) (v : Value) : Rw (w.setCell ⟨b, i, none⟩ v) b t (cs.setIfInBounds i v) := by
 rw [setCell_eq_setRow w b i _ t (0, 0) _ h]
 exact h.row _
theorem Rw.setOther (h : Rw w b t cs) {q : Nat} (hne : b ≠ q) (i : Nat) (v : Value) : Rw (w.setCell ⟨q, i, none⟩ v) b t cs := (Below.heap_setCell w _ v b hne).trans h
theorem Rw.cell (h : Rw w b t cs) (i : Nat) : w.cell? ⟨b, i, none⟩ = cs[i]? := cell_of_row _ _ i _ t (0, 0) h
theorem Rw.frozen (h : Rw w b t cs) (i : Nat) : w.frozen? ⟨b, i, none⟩ = false := by
 unfold Rw at h
 simp [World.frozen?, h]
theorem Rw.range (h : Rw w b t cs) (o : Nat) (l : List Value) (hl : ∀ j v, l[j]? = some v → cs[o + j]? = some v) : w.rangeAt b o l := fun j v hv => by
 rw [h.cell]
 exact hl j v hv
theorem Rw.drew (h : Rw w b t cs) : Rw w.drew b t cs := h
theorem Rw.load (h : Rw w b t cs) {d : TypeDesc} (hd : d.isRow = true) (hu : Tryz.prog.underlying t = some d) (hi : (Tryz.prog.info? t).map (·.size) = some cs.size) : (loadVar t ⟨b, 0, none⟩).run Tryz.prog w = .ok (.agg cs) w :=
 run_loadVar_row w b t t _ (0, 0) d h hu (by cases d <;> first | rfl | exact hd) hi
theorem Rw.loadAt (h : Rw w b t cs) {d : TypeDesc} (hd : d.isRow = true) (hu : Tryz.prog.underlying t = some d) (hi : (Tryz.prog.info? t).map (·.size) = some cs.size) : (Instr.loadAt t (.pointer (some ⟨b, 0, none⟩))).run Tryz.prog w = .ok (.agg cs) w := by
 simp only [Instr.loadAt, Instr.sureAddr, Sem.run_bind, Sem.run_pure, Result.andThen_ok, h.load hd hu hi]
theorem Rw.store (h : Rw w b t cs) (cs' : Array Value) (hi : (Tryz.prog.info? t).map (·.size) = some cs'.size) (ho : cs.size = cs'.size) (h1 : cs'.all (·.oneCell') = true) : (Instr.storeAt t (.pointer (some ⟨b, 0, none⟩)) (.agg cs')).run Tryz.prog w = .ok () (w.setRow b cs') := by
 simp only [Instr.storeAt, Instr.sureAddr, Sem.run_bind, Sem.run_pure, Result.andThen]
 exact run_storeVar_row w b t t _ _ h hi ho h1
end
theorem below_on {w v u : World} (h : Below w.heap.size w v) (k : Below v.heap.size v u) : Below w.heap.size w u := h.trans (k.mono h.size)
theorem cell_later {w w' : World} {b i : Nat} {v : Value} (hb : Below w.heap.size w w') (h : w.cell? ⟨b, i, none⟩ = some v) : w'.cell? ⟨b, i, none⟩ = some v := by
 have hlt : b < w.heap.size := by
  rcases Nat.lt_or_ge b w.heap.size with h' | h'
  ·exact h'
  ·simp [World.cell?, Array.getElem?_eq_none h'] at h
 rw [World.cell?_of_block (w := w) (hb.block b hlt)]
 exact h
abbrev D (p s : Int) : Value := .agg #[.int .i64 p, .int .i64 s]
abbrev MV (p s i : Int) : Value := .agg #[.int .i64 p, .int .i64 s, .int .i64 i]
theorem size29 : (Tryz.prog.info? 29).map (·.size) = some 2 := by kernel_rfl
theorem size50 : (Tryz.prog.info? 50).map (·.size) = some 3 := by kernel_rfl
theorem size52 : (Tryz.prog.info? 52).map (·.size) = some 10 := by kernel_rfl
theorem size34 : (Tryz.prog.info? 34).map (·.size) = some 17 := by kernel_rfl
section
variable {ops : Array Oper} {rest : List Oper} {op : Oper} {a : Act} {w : World} {Q : Exit → Act → World → Prop}
theorem load_m (t : TypeId) (x : Operand) (ho : op.op = .load t x) (hw : Region.wanted op (yielded ops a.tmps) = true) (b o : Nat) (hx : a.eval x = .pointer (some ⟨b, o, none⟩)) {cs : List Value} (hc : w.rangeAt b o cs) {d : TypeDesc} (hu : Tryz.prog.underlying t = some d) (hd : d.isRow = true) (hi : (Tryz.prog.info? t).map (·.size) = some cs.length)
  (h : wpList Tryz.prog ops Q rest (a.put op.dst (.agg cs.toArray)) w) : wpList Tryz.prog ops Q (op :: rest) a w :=
 BigFrame.wpList_want hw fun _ hK => by
  have h2 := run_loadVar_mid (P := Tryz.prog) w b o t cs d hc hu hd hi
  unfold Oper.wp execOp
  simp only [ho, hx, Instr.loadAt, Instr.sureAddr, Sem.run_bind, Sem.run_pure, h2, Result.andThen_ok]
  exact hK _ _ h
theorem load_r (t : TypeId) (x : Operand) (ho : op.op = .load t x) (hw : Region.wanted op (yielded ops a.tmps) = true) (b : Nat) (hx : a.eval x = .pointer (some ⟨b, 0, none⟩)) {cs : Array Value} (hc : Rw w b t cs) {d : TypeDesc} (hu : Tryz.prog.underlying t = some d) (hd : d.isRow = true) (hi : (Tryz.prog.info? t).map (·.size) = some cs.size)
  (h : wpList Tryz.prog ops Q rest (a.put op.dst (.agg cs)) w) : wpList Tryz.prog ops Q (op :: rest) a w :=
 BigFrame.wpList_want hw fun _ hK => by
  unfold Oper.wp execOp
  simp only [ho, hx, Sem.run_bind, hc.loadAt hd hu hi, Result.andThen_ok, Sem.run_pure]
  exact hK _ _ h
theorem store_r (hgd : op.guard = none) (t : TypeId) (x y : Operand) (ho : op.op = .store t x y) (b : Nat) (cs' : Array Value) (hx : a.eval x = .pointer (some ⟨b, 0, none⟩)) (hy : a.eval y = .agg cs') {cs : Array Value} (hc : Rw w b t cs) (hi : (Tryz.prog.info? t).map (·.size) = some cs'.size) (hs : cs.size = cs'.size) (h1 : cs'.all (·.oneCell') = true)
  (h : wpList Tryz.prog ops Q rest (a.put op.dst undef) (w.setRow b cs')) : wpList Tryz.prog ops Q (op :: rest) a w :=
 wpList_plain hgd fun _ hK => by
  unfold Oper.wp execOp
  simp only [ho, hx, hy, Sem.run_bind, hc.store cs' hi hs h1, Result.andThen_ok, Sem.run_pure]
  exact hK _ _ h
end
theorem results_r {fn : Func} {t : Tmp} {ty : TypeId} (h : fn.results = #[.cell t ty]) {tmps : Array Value} {w : World} {b : Nat} {cs : Array Value} {d : TypeDesc} (hp : tmps.getD t undef = .pointer (some ⟨b, 0, none⟩)) (hc : Rw w b ty cs)
  (hd : d.isRow = true) (hu : Tryz.prog.underlying ty = some d) (hi : (Tryz.prog.info? ty).map (·.size) = some cs.size) : (results fn tmps).run Tryz.prog w = .ok (.agg cs) w := by
 have h2 := hc.load hd hu hi
 unfold results
 rw [h]
 simp only [List.mapM_toArray, List.mapM_cons, List.mapM_nil, hp, asAddr]
 simp [h2]
theorem results_rt {fn : Func} {t u : Tmp} {ty : TypeId} (h : fn.results = #[.cell t ty, .tmp u]) {tmps : Array Value} {w : World} {b : Nat} {cs : Array Value} {d : TypeDesc} (hp : tmps.getD t undef = .pointer (some ⟨b, 0, none⟩)) (hc : Rw w b ty cs)
  (hd : d.isRow = true) (hu : Tryz.prog.underlying ty = some d) (hi : (Tryz.prog.info? ty).map (·.size) = some cs.size) : (results fn tmps).run Tryz.prog w = .ok (.tuple #[.agg cs, tmps.getD u undef]) w := by
 have h2 := hc.load hd hu hi
 unfold results
 rw [h]
 simp only [List.mapM_toArray, List.mapM_cons, List.mapM_nil, hp, asAddr]
 simp [h2]
end Go.Proofs.YtjbbmcommnhgeaaGreat
namespace Go.Proofs.YtjbbmcommnhgeaaGreat
open Go.RowKit
abbrev Tells (v : Value) (w : World) : Ending → World → Prop := fun e w' => e = .returned v ∧ Below w.heap.size w w'
def wi (n lo hi : Int) : Bool := decide (lo ≤ n) && decide (n ≤ hi)
theorem bel_alloc {w w1 : World} (h : Below w.heap.size w w1) (o : Obj) : Below w.heap.size w (w1.alloc o) := h.alloc h.size o
theorem tells_bool {x y : Bool} {w w' : World} (h : x = y) (hb : Below w.heap.size w w') : Tells (.bool y) w (.returned (.bool x)) w' := ⟨by rw [h], hb⟩
abbrev noS : ByteArray := ⟨#[]⟩
abbrev OV (k : Int) (key field : ByteArray) (inner act n : Int) (text : ByteArray) (p s i : Int) : Value := .agg #[.int .i64 k, .string key, .string field, .int .i64 inner, .int .i64 act, .int .i64 n, .string text, .int .i64 p, .int .i64 s, .int .i64 i]
def z2 (p s : Int) : Bool := decide (p = 0) && decide (s = 0)
def z3 (p s i : Int) : Bool := decide (p = 0) && decide (s = 0) && decide (i = 0)
abbrev Leaves (v : Value) (w1 : World) : Ending → World → Prop := fun e w' => e = .returned v ∧ w' = w1
theorem eq_dot (w : World) (p s q u : Int) : (Op.equalIn 10000 29 (D p s) (D q u)).run Tryz.prog w = .ok (decide (p = q) && decide (s = u)) w := by
 by_cases h1 : p = q
 ·by_cases h2 : s = u
  ·go_simp
  ·go_simp
 ·go_simp
theorem eq_mark (w : World) (p s i q u j : Int) : (Op.equalIn 10000 50 (MV p s i) (MV q u j)).run Tryz.prog w = .ok (decide (p = q) && decide (s = u) && decide (i = j)) w := by
 by_cases h1 : p = q
 ·by_cases h2 : s = u
  ·by_cases h3 : i = j <;> go_simp
  ·go_simp
 ·go_simp
structure O where
 k : Int
 key : ByteArray
 field : ByteArray
 inner : Int
 act : Int
 n : Int
 text : ByteArray
 p : Int
 s : Int
 i : Int
abbrev O.cells (o : O) : List Value := [.int .i64 o.k, .string o.key, .string o.field, .int .i64 o.inner, .int .i64 o.act, .int .i64 o.n, .string o.text, .int .i64 o.p, .int .i64 o.s, .int .i64 o.i]
abbrev O.val (o : O) : Value := OV o.k o.key o.field o.inner o.act o.n o.text o.p o.s o.i
def txc (p s : Int) (v : List Int) (t : Int) (sl : Value) : List Value := .int .i64 p :: .int .i64 s :: (vals v ++ [.int .i64 t, sl])
abbrev TxV (p s : Int) (v : List Int) (t : Int) (sl : Value) : Value := .agg (txc p s v t sl).toArray
section
variable {w w' : World} {b : Nat} {p s : Int} {v : List Int} {t : Int} {sl : Value}
theorem txc_length (hv : v.length = 13) : (txc p s v t sl).length = 17 := by simp [txc, vals, hv]
theorem size_tx (hv : v.length = 13) : (Tryz.prog.info? 34).map (·.size) = some (txc p s v t sl).toArray.size := by
 rw [List.size_toArray, txc_length hv]
 exact size34
theorem tx_dot (h : Rw w b 34 (txc p s v t sl).toArray) : w.rangeAt b 0 [.int .i64 p, .int .i64 s] := h.range 0 _ fun j u hu => by
 rw [Nat.zero_add]
 match j with
 | 0 => simpa [txc] using hu
 | 1 => simpa [txc] using hu
 | j + 2 => simp at hu
theorem tx_p (h : Rw w b 34 (txc p s v t sl).toArray) : w.cell? ⟨b, 0, none⟩ = some (.int .i64 p) := by rw [h.cell]; simp [txc]
theorem tx_s (h : Rw w b 34 (txc p s v t sl).toArray) : w.cell? ⟨b, 1, none⟩ = some (.int .i64 s) := by rw [h.cell]; simp [txc]
theorem tx_vec (h : Rw w b 34 (txc p s v t sl).toArray) : w.rangeAt b 2 (vals v) := h.range 2 _ fun j u hu => by
 rw [show 2 + j = j + 1 + 1 by omega]
 have hj := (List.getElem?_eq_some_iff.1 hu).1
 simp only [txc, List.getElem?_toArray, List.getElem?_cons_succ]
 rw [List.getElem?_append_left hj]
 exact hu
theorem tx_time (h : Rw w b 34 (txc p s v t sl).toArray) (hv : v.length = 13) : w.cell? ⟨b, 15, none⟩ = some (.int .i64 t) := by
 rw [h.cell]
 simp only [txc, List.getElem?_toArray, List.getElem?_cons_succ]
 rw [List.getElem?_append_right (by simp [vals, hv])]
 simp [vals, hv]
theorem tx_ops (h : Rw w b 34 (txc p s v t sl).toArray) (hv : v.length = 13) : w.cell? ⟨b, 16, none⟩ = some sl := by
 rw [h.cell]
 simp only [txc, List.getElem?_toArray, List.getElem?_cons_succ]
 rw [List.getElem?_append_right (by simp [vals, hv])]
 simp [vals, hv]
end
theorem hid_ex {α : Type} (a : α) : ∃ x, Hid (a = x) := ⟨a, (rfl : a = a)⟩
theorem maxLen_lt {n : Nat} (h : n ≤ maxLen) : (n : Int) ≤ 9223372036854775807 := by
 have : maxLen ≤ 9223372036854775807 := by decide
 omega
def OHas (w : World) (v : Value) (l : List O) : Prop := ∃ p c, v = .slice p l.length c ∧ l.length ≤ maxLen ∧ (0 < l.length → ∃ g o, p = some ⟨g, o, none⟩ ∧ ∀ i (h : i < l.length), w.rangeAt g (o + i * 10) l[i].cells)
theorem range_later {w w' : World} {b o : Nat} {cs : List Value} (h : w.rangeAt b o cs) (hb : Below w.heap.size w w') : w'.rangeAt b o cs := fun j v hv => cell_later hb (h j v hv)
theorem OHas.later {w w' : World} {v : Value} {l : List O} (h : OHas w v l) (hb : Below w.heap.size w w') : OHas w' v l := by
 obtain ⟨p, c, rfl, hm, hr⟩ := h
 refine ⟨p, c, rfl, hm, fun h0 => ?_⟩
 obtain ⟨g, o, hp, hd⟩ := hr h0
 exact ⟨g, o, hp, fun i hi => range_later (hd i hi) hb⟩
def SHas (S : Nat) (w : World) (v : Value) (n : Nat) (xs : List Value) : Prop :=
 n ≤ maxLen ∧ xs.length = n * S ∧ ((v = .slice none 0 0 ∧ n = 0) ∨ ∃ ad c, v = .slice (some ad) n c ∧ (n ≤ c ∧ c ≤ maxLen) ∧ (0 < n → ∃ g o, ad = ⟨g, o, none⟩ ∧ w.rangeAt g o xs))
section
variable {S n : Nat} {w w' : World} {v : Value} {xs : List Value}
theorem SHas.later (h : SHas S w v n xs) (hb : Below w.heap.size w w') : SHas S w' v n xs := by
 obtain ⟨hm, hl, ⟨rfl, rfl⟩ | ⟨ad, c, rfl, hc, hd⟩⟩ := h
 ·exact ⟨hm, hl, .inl ⟨rfl, rfl⟩⟩
 ·refine ⟨hm, hl, .inr ⟨ad, c, rfl, hc, fun h => ?_⟩⟩
  obtain ⟨g, o, rfl, hd2⟩ := hd h
  exact ⟨g, o, rfl, range_later hd2 hb⟩
theorem SHas.drew (h : SHas S w v n xs) : SHas S w.drew v n xs := h
theorem SHas.slice (h : SHas S w v n xs) : ∃ p c, v = .slice p n c := by
 obtain ⟨hm, hl, ⟨rfl, rfl⟩ | ⟨ad, c, rfl, hc, hd⟩⟩ := h
 ·exact ⟨none, 0, rfl⟩
 ·exact ⟨_, _, rfl⟩
theorem SHas.at {p : Option Addr} {c : Nat} (h : SHas S w (.slice p n c) n xs) (hn : 0 < n) : ∃ g o, p = some ⟨g, o, none⟩ ∧ w.rangeAt g o xs := by
 obtain ⟨hm, hl, ⟨h1, rfl⟩ | ⟨ad, c, h1, hc, hd⟩⟩ := h
 ·omega
 ·obtain ⟨g, o, rfl, hd2⟩ := hd hn
  simp only [Value.slice.injEq] at h1
  exact ⟨g, o, h1.1, hd2⟩
theorem SHas.cap {p : Option Addr} {c : Nat} (h : SHas S w (.slice p n c) n xs) : n ≤ c ∧ c ≤ maxLen := by
 obtain ⟨hm, hl, ⟨h1, rfl⟩ | ⟨ad, c, h1, hc, hd⟩⟩ := h
 ·simp only [Value.slice.injEq] at h1
  obtain ⟨_, _, rfl⟩ := h1
  exact ⟨Nat.le_refl _, Nat.zero_le _⟩
 ·simp only [Value.slice.injEq] at h1
  obtain ⟨_, _, rfl⟩ := h1
  exact hc
theorem SHas.nil (w : World) (S : Nat) : SHas S w (.slice none 0 0) 0 [] := ⟨Nat.zero_le _, by simp, .inl ⟨rfl, rfl⟩⟩
theorem range_sub {g o : Nat} {ys : List Value} (h : w.rangeAt g o xs) (k : Nat) (hy : ∀ j u, ys[j]? = some u → xs[k + j]? = some u) : w.rangeAt g (o + k) ys := fun j u hu => by
 have := h (k + j) u (hy j u hu)
 rwa [← Nat.add_assoc] at this
end
theorem own_sh {w : World} {B e S n : Nat} {v : Value} {xs : List Value} (h : w.ownsRow B e S v n xs) : SHas S w v n xs := by
 refine ⟨?_, h.1, ?_⟩
 ·rcases h.2 with ⟨_, h0⟩ | ⟨g, cap, cur, rfl, hbg, hg, hnc, hcm, hcs, htake⟩
  ·omega
  ·omega
 ·rcases h.2 with ⟨rfl, h0⟩ | ⟨g, cap, cur, rfl, hbg, hg, hnc, hcm, hcs, htake⟩
  ·exact .inl ⟨rfl, h0⟩
  ·refine .inr ⟨_, cap, rfl, ⟨hnc, hcm⟩, fun _ => ⟨g, 0, rfl, fun j u hu => ?_⟩⟩
   have h1 := h.cells (g := g) rfl j u hu
   rwa [Addr.add_mid] at h1
theorem own_sl {w : World} {B e S n : Nat} {v : Value} {xs : List Value} (h : w.ownsRow B e S v n xs) : ∃ p c, v = .slice p n c := by
 rcases h.2 with ⟨rfl, rfl⟩ | ⟨g, cap, cur, rfl, _⟩
 ·exact ⟨none, 0, rfl⟩
 ·exact ⟨_, _, rfl⟩
theorem Rw.grown {w w' : World} {b : Nat} {t : TypeId} {cs : Array Value} {row : Option Nat} (h : Rw w b t cs) (hg : w.grownBy w' row) (hne : ∀ k, row = some k → b < k) : Rw w' b t cs :=
 (hg.block b h.lt (fun e => by have := hne b e.symm; omega)).trans h
theorem cells_new (w : World) (cs : List Value) (t : TypeId) (j : Nat) : (w.alloc (.cells cs.toArray t)).cell? ((⟨w.heap.size, 0, none⟩ : Addr).add j) = cs[j]? := by
 rw [Addr.add_mid, Nat.zero_add, cell_of_row _ _ j _ t (0, 0) (heap_alloc_last w _)]
 simp
theorem cells_next (w : World) {b : Nat} (hb : b = w.heap.size) (cs : List Value) (t : TypeId) (j : Nat) : (w.alloc (.cells cs.toArray t)).cell? ((⟨b, 0, none⟩ : Addr).add j) = cs[j]? := by subst hb; exact cells_new w cs t j
def rows {α : Type} (f : α → List Value) (l : List α) : List Value := l.flatMap f
section
variable {α : Type} {f : α → List Value} {S : Nat}
theorem rows_append (a b : List α) : rows f (a ++ b) = rows f a ++ rows f b := by simp [rows]
theorem rows_cons (x : α) (l : List α) : rows f (x :: l) = f x ++ rows f l := rfl
theorem rows_one (x : α) : rows f [x] = f x := by simp [rows]
theorem rows_length (hf : ∀ x, (f x).length = S) (l : List α) : (rows f l).length = l.length * S := by
 induction l with
 | nil => simp [rows]
 | cons d l ih =>
  rw [rows_cons, List.length_append, ih, hf, List.length_cons, Nat.succ_mul]
  omega
theorem rows_at (hf : ∀ x, (f x).length = S) : ∀ (l : List α) (i : Nat) (h : i < l.length) (j : Nat) (u : Value), (f l[i])[j]? = some u → (rows f l)[i * S + j]? = some u
 | x :: l, 0, _, j, u, hu => by
  have hj : j < (f x).length := (List.getElem?_eq_some_iff.1 hu).1
  rw [rows_cons, Nat.zero_mul, Nat.zero_add, List.getElem?_append_left hj]
  exact hu
 | x :: l, i + 1, h, j, u, hu => by
  have := rows_at hf l i (by simpa using h) j u hu
  rw [rows_cons, List.getElem?_append_right (by rw [hf, Nat.succ_mul]; omega), hf, Nat.succ_mul, show i * S + S + j - S = i * S + j by omega]
  exact this
theorem rows_all {p : Value → Prop} (h : ∀ x, ∀ u ∈ f x, p u) (l : List α) : ∀ u ∈ rows f l, p u := by
 intro u hu
 obtain ⟨x, _, hx⟩ := List.mem_flatMap.1 hu
 exact h x u hx
theorem rows_take (hf : ∀ x, (f x).length = S) (l : List α) (k : Nat) : rows f (l.take k) = (rows f l).take (k * S) := by
 induction l generalizing k with
 | nil => simp [rows]
 | cons x l ih =>
  cases k with
  | zero => simp [rows]
  | succ k =>
   rw [List.take_succ_cons, rows_cons, rows_cons, ih, List.take_append, hf, Nat.succ_mul]
   rw [List.take_of_length_le (l := f x) (by rw [hf]; omega)]
   congr 2
   omega
theorem rows_drop (hf : ∀ x, (f x).length = S) (l : List α) (k : Nat) : rows f (l.drop k) = (rows f l).drop (k * S) := by
 induction l generalizing k with
 | nil => simp [rows]
 | cons x l ih =>
  cases k with
  | zero => simp [rows]
  | succ k =>
   rw [List.drop_succ_cons, rows_cons, ih, List.drop_append, hf, Nat.succ_mul]
   rw [List.drop_of_length_le (l := f x) (by rw [hf]; omega), List.nil_append]
   congr 1
   omega
end
structure A where
 p : Int
 s : Int
 i : Int
 n : Int
abbrev A.cells (a : A) : List Value := [.int .i64 a.p, .int .i64 a.s, .int .i64 a.i, .int .i64 a.n]
abbrev AV (p s i n : Int) : Value := .agg #[.int .i64 p, .int .i64 s, .int .i64 i, .int .i64 n]
structure M where
 p : Int
 s : Int
 i : Int
abbrev M.cells (a : M) : List Value := [.int .i64 a.p, .int .i64 a.s, .int .i64 a.i]
structure Wt where
 p : Int
 s : Int
 i : Int
 t : Int
 x : ByteArray
abbrev Wt.cells (a : Wt) : List Value := [.int .i64 a.p, .int .i64 a.s, .int .i64 a.i, .int .i64 a.t, .string a.x]
structure Mb where
 x : ByteArray
 b : Bool
 ms : List M
structure El where
 p : Int
 s : Int
 i : Int
 t : Int
 q : Int
 u : Int
 j : Int
 x : ByteArray
 gone : List M
abbrev Mb.cells (a : Mb × Value) : List Value := [.string a.1.x, .bool a.1.b, a.2]
abbrev El.cells (a : El × Value) : List Value := [.int .i64 a.1.p, .int .i64 a.1.s, .int .i64 a.1.i, .int .i64 a.1.t, .int .i64 a.1.q, .int .i64 a.1.u, .int .i64 a.1.j, .string a.1.x, a.2]
theorem A.one (x : A) : ∀ u ∈ x.cells, u.oneCell' = true := by
 intro u hu
 simp only [List.mem_cons, List.not_mem_nil, or_false] at hu
 rcases hu with rfl | rfl | rfl | rfl <;> rfl
theorem M.one (x : M) : ∀ u ∈ x.cells, u.oneCell' = true := by
 intro u hu
 simp only [List.mem_cons, List.not_mem_nil, or_false] at hu
 rcases hu with rfl | rfl | rfl <;> rfl
theorem Wt.one (x : Wt) : ∀ u ∈ x.cells, u.oneCell' = true := by
 intro u hu
 simp only [List.mem_cons, List.not_mem_nil, or_false] at hu
 rcases hu with rfl | rfl | rfl | rfl | rfl <;> rfl
abbrev AHas (w : World) (v : Value) (l : List A) : Prop := SHas 4 w v l.length (rows A.cells l)
abbrev MHas (w : World) (v : Value) (l : List M) : Prop := SHas 3 w v l.length (rows M.cells l)
abbrev WHas (w : World) (v : Value) (l : List Wt) : Prop := SHas 5 w v l.length (rows Wt.cells l)
def BHas (w : World) (v : Value) (l : List Mb) : Prop := ∃ ys : List (Mb × Value), ys.map (·.1) = l ∧ SHas 3 w v l.length (rows Mb.cells ys) ∧ ∀ y ∈ ys, MHas w y.2 y.1.ms
def EHas (w : World) (v : Value) (l : List El) : Prop := ∃ ys : List (El × Value), ys.map (·.1) = l ∧ SHas 9 w v l.length (rows El.cells ys) ∧ ∀ y ∈ ys, MHas w y.2 y.1.gone
section
variable {w w' : World} {v : Value}
theorem BHas.later {l : List Mb} (h : BHas w v l) (hb : Below w.heap.size w w') : BHas w' v l := by
 obtain ⟨ys, h1, h2, h3⟩ := h
 exact ⟨ys, h1, h2.later hb, fun y hy => (h3 y hy).later hb⟩
theorem EHas.later {l : List El} (h : EHas w v l) (hb : Below w.heap.size w w') : EHas w' v l := by
 obtain ⟨ys, h1, h2, h3⟩ := h
 exact ⟨ys, h1, h2.later hb, fun y hy => (h3 y hy).later hb⟩
theorem BHas.nil (w : World) : BHas w (.slice none 0 0) [] := ⟨[], rfl, SHas.nil w 3, fun _ h => by cases h⟩
theorem EHas.nil (w : World) : EHas w (.slice none 0 0) [] := ⟨[], rfl, SHas.nil w 9, fun _ h => by cases h⟩
theorem AHas.nil (w : World) : AHas w (.slice none 0 0) [] := SHas.nil w 4
theorem WHas.nil (w : World) : WHas w (.slice none 0 0) [] := SHas.nil w 5
theorem BHas.slice {l : List Mb} (h : BHas w v l) : ∃ p c, v = .slice p l.length c := by
 obtain ⟨ys, h1, h2, h3⟩ := h
 exact h2.slice
theorem EHas.slice {l : List El} (h : EHas w v l) : ∃ p c, v = .slice p l.length c := by
 obtain ⟨ys, h1, h2, h3⟩ := h
 exact h2.slice
end
structure X where
 k : Int
 b : Int
 am : List A
 wr : List Wt
 mb : List Mb
 el : List El
abbrev cvc (k b : Int) (va vw vm ve : Value) : Array Value := #[.int .i64 k, .int .i64 b, va, vw, vm, ve]
abbrev z4 : Array Value := cvc 0 0 (.slice none 0 0) (.slice none 0 0) (.slice none 0 0) (.slice none 0 0)
abbrev cx (x : X) (a : Option Addr) (b : Nat) (c : Option Addr) (d : Nat) (e : Option Addr) (f : Nat) (g : Option Addr) (h : Nat) : Array Value := cvc x.k x.b (.slice a x.am.length b) (.slice c x.wr.length d) (.slice e x.mb.length f) (.slice g x.el.length h)
abbrev CV (k b : Int) (va vw vm ve : Value) : Value := .agg (cvc k b va vw vm ve)
structure Four (w : World) (x : X) (va vw vm ve : Value) : Prop where
 a : AHas w va x.am
 t : WHas w vw x.wr
 m : BHas w vm x.mb
 e : EHas w ve x.el
theorem Four.later {w w' : World} {x : X} {va vw vm ve : Value} (h : Four w x va vw vm ve) (hb : Below w.heap.size w w') : Four w' x va vw vm ve := ⟨h.a.later hb, h.t.later hb, h.m.later hb, h.e.later hb⟩
def CHas (w : World) (v : Value) (x : X) : Prop := ∃ va vw vm ve, v = CV x.k x.b va vw vm ve ∧ Four w x va vw vm ve
theorem CHas.later {w w' : World} {v : Value} {x : X} (h : CHas w v x) (hb : Below w.heap.size w w') : CHas w' v x := by
 obtain ⟨va, vw, vm, ve, rfl, h⟩ := h
 exact ⟨va, vw, vm, ve, rfl, h.later hb⟩
abbrev Gives (x : X) (w : World) : Ending → World → Prop := fun e w' => ∃ va vw vm ve, e = .returned (CV x.k x.b va vw vm ve) ∧ Four w' x va vw vm ve ∧ Below w.heap.size w w'
theorem size71 : (Tryz.prog.info? 71).map (·.size) = some 4 := by kernel_rfl
theorem size64 : (Tryz.prog.info? 64).map (·.size) = some 5 := by kernel_rfl
theorem size67 : (Tryz.prog.info? 67).map (·.size) = some 3 := by kernel_rfl
theorem size69 : (Tryz.prog.info? 69).map (·.size) = some 9 := by kernel_rfl
theorem size27 : (Tryz.prog.info? 27).map (·.size) = some 6 := by kernel_rfl
theorem size46 : (Tryz.prog.info? 46).map (·.size) = some 4 := by kernel_rfl
theorem info71 : (Tryz.prog.info? 71).map (fun i => (i.zero, i.size, i.bytes)) = some (some (AV 0 0 0 0), 4, 32) := by kernel_rfl
def wk (k : Int) : TypeId := if k = 1 then 83 else if k = 2 ∨ k = 3 then 85 else if k = 4 then 87 else if k = 5 then 88 else 97
theorem kinds (k : Int) : k = 1 ∨ k = 2 ∨ k = 3 ∨ k = 4 ∨ k = 5 ∨ ((k == 1) = false ∧ (k == 2) = false ∧ (k == 3) = false ∧ (k == 4) = false ∧ (k == 5) = false) := by
 simp only [beq_eq_false_iff_ne]
 omega
theorem atWork_any (k b : Int) (va vw vm ve : Value) (w : World) : Calls Tryz.prog 34 #[CV k b va vw vm ve] w (Tells (.iface (wk k) (CV k b va vw vm ve)) w) := by
 have R := rw_new w 27 (cvc k b va vw vm ve)
 have hb := bel_alloc (Below.refl w.heap.size w) (.cells (cvc k b va vw vm ve) 27)
 have c0 : (w.alloc (.cells (cvc k b va vw vm ve) 27)).cell? ⟨w.heap.size, 0, none⟩ = some (.int .i64 k) := R.cell 0
 generalize hW : w.alloc (.cells (cvc k b va vw vm ve) 27) = w0 at R hb c0
 rcases kinds k with rfl | rfl | rfl | rfl | rfl | ⟨h1, h2, h3, h4, h5⟩
 all_goals
  first
   | rw [show wk 1 = 83 from rfl]
   | rw [show wk 2 = 85 from rfl]
   | rw [show wk 3 = 85 from rfl]
   | rw [show wk 4 = 87 from rfl]
   | rw [show wk 5 = 88 from rfl]
   | rw [show wk k = 97 by simp only [beq_eq_false_iff_ne] at *; unfold wk; simp [*]]
  go_enter Tryz.func34, Tryz.ntmps34
  go_wp2_with (first | rw [hW] | refine load_r 27 _ rfl rfl _ rfl R Tryz.underlying27 rfl size27 ?_)
  go_ret
  exact ⟨rfl, hb⟩
theorem equalIn_nil (w : World) (d : Nat) (t e : TypeId) (a : Option Addr) (l c : Nat) (h : Tryz.prog.underlying t = some (.slice e)) : (Op.equalIn (d + 1) t (.slice a l c) (.slice none 0 0)).run Tryz.prog w = .ok a.isNone w := by
 cases a <;> simp [Op.equalIn, run_underlying h]
theorem equal_nil (w : World) (t e : TypeId) (a : Option Addr) (l c : Nat) (h : Tryz.prog.underlying t = some (.slice e)) : (Op.equal t (.slice a l c) (.slice none 0 0)).run Tryz.prog w = .ok a.isNone w := equalIn_nil w 9999 t e a l c h
theorem eql_nil (w : World) (t e : TypeId) (a : Option Addr) (l c : Nat) (h : Tryz.prog.underlying t = some (.slice e)) : (binOp .eql t (.slice a l c) (.slice none 0 0)).run Tryz.prog w = .ok (.bool a.isNone) w := by
 simp [binOp, equal_nil w t e a l c h]
def ClPost (e S n : Nat) (xs : List Value) (w : World) (en : Ending) (w' : World) : Prop := ∃ u, en = .returned u ∧ w'.ownsRow w.heap.size e S u n xs ∧ Below w.heap.size w w'
theorem clone71_any (v : Value) (n : Nat) (xs : List Value) (w : World) (h : SHas 4 w v n xs) (hn : n ≤ 100) (h1 : ∀ u ∈ xs, u.oneCell' = true) : Calls Tryz.prog 66 #[v] w (ClPost 71 4 n xs w) := by
 obtain ⟨i0, hi, hz0, hz1, hz2⟩ := info_parts info71
 obtain ⟨hm, hl, ⟨rfl, rfl⟩ | ⟨ad, c, rfl, hc, hd⟩⟩ := h
 ·obtain rfl : xs = [] := List.eq_nil_of_length_eq_zero (by omega)
  have E := fun w => eql_nil w 22 _ none 0 0 Tryz.underlying22
  simp only [Option.isNone_none] at E
  go_enter Tryz.func66, Tryz.ntmps66
  go_wp2
  go_ret
  exact ⟨_, rfl, World.ownsRow_nil _ _ _ _, Below.refl _ _⟩
 ·have HD : Hid (∀ (j : Nat) (u : Value), xs[j]? = some u → w.cell? (ad.add j) = some u) := fun j u hu => by
   have hj := (List.getElem?_eq_some_iff.1 hu).1
   have h0 : 0 < n := by
    rcases Nat.eq_zero_or_pos n with h | h
    ·subst h; omega
    ·exact h
   obtain ⟨g, o, rfl, hr⟩ := hd h0
   have := hr j u hu
   rwa [Addr.add_mid]
  have hown : (w.alloc (.cells #[] 71)).ownsRow w.heap.size 71 4 (.slice (some ⟨w.heap.size, 0, none⟩) 0 0) 0 [] := World.ownsRow_made w #[] 0 (Nat.le_refl _) (Nat.zero_le _) (by simp)
  have hbel : Below w.heap.size w (w.alloc (.cells #[] 71)) := bel_alloc (Below.refl _ _) _
  have HC : Hid (∀ (j : Nat) (u : Value), xs[j]? = some u → (w.alloc (.cells #[] 71)).cell? (ad.add j) = some u) := fun j u hu => by
   have h2 := HD.out j u hu
   have hlt : (ad.add j).block < w.heap.size := World.block_lt_of_cell? w _ h2
   rw [World.cell?_of_block (w := w) (hbel.block _ hlt)]
   exact h2
  clear hc hd HD
  have E := fun w => eql_nil w 22 _ (some ad) n c Tryz.underlying22
  simp only [Option.isNone_some] at E
  go_enter Tryz.func66, Tryz.ntmps66
  go_wp2_with (first | (at_builtin; refine wpList_append_own _ rfl _ _ 22 rfl w.heap.size 71 i0 (AV 0 0 0 0) 4 32 Tryz.underlying22 hi hz0 hz1 hz2 rfl (by decide) _ _ _ rfl hown ad n c xs rfl hl HC.out h1 ?c3 ?c4 ?c5 ?_))
  case c3 => unfold maxLen; omega
  case c4 => omega
  case c5 => simp
  intro v2 w2 hown2 hg2 _
  go_wp2_with fail
  go_ret
  refine ⟨_, rfl, ?_, hbel.grown hg2 (by simp) (fun q hq => by simp [Value.ownBlock] at hq; omega)⟩
  simpa using hown2
theorem info64 : (Tryz.prog.info? 64).map (fun i => (i.zero, i.size, i.bytes)) = some (some (.agg #[.int .i64 0, .int .i64 0, .int .i64 0, .int .i64 0, .string noS]), 5, 48) := by kernel_rfl
theorem clone64_any (v : Value) (n : Nat) (xs : List Value) (w : World) (h : SHas 5 w v n xs) (hn : n ≤ 100) (h1 : ∀ u ∈ xs, u.oneCell' = true) : Calls Tryz.prog 67 #[v] w (ClPost 64 5 n xs w) := by
 obtain ⟨i0, hi, hz0, hz1, hz2⟩ := info_parts info64
 obtain ⟨hm, hl, ⟨rfl, rfl⟩ | ⟨ad, c, rfl, hc, hd⟩⟩ := h
 ·obtain rfl : xs = [] := List.eq_nil_of_length_eq_zero (by omega)
  have E := fun w => eql_nil w 23 _ none 0 0 Tryz.underlying23
  simp only [Option.isNone_none] at E
  go_enter Tryz.func67, Tryz.ntmps67
  go_wp2
  go_ret
  exact ⟨_, rfl, World.ownsRow_nil _ _ _ _, Below.refl _ _⟩
 ·have HD : Hid (∀ (j : Nat) (u : Value), xs[j]? = some u → w.cell? (ad.add j) = some u) := fun j u hu => by
   have hj := (List.getElem?_eq_some_iff.1 hu).1
   have h0 : 0 < n := by
    rcases Nat.eq_zero_or_pos n with h | h
    ·subst h; omega
    ·exact h
   obtain ⟨g, o, rfl, hr⟩ := hd h0
   have := hr j u hu
   rwa [Addr.add_mid]
  have hown : (w.alloc (.cells #[] 64)).ownsRow w.heap.size 64 5 (.slice (some ⟨w.heap.size, 0, none⟩) 0 0) 0 [] := World.ownsRow_made w #[] 0 (Nat.le_refl _) (Nat.zero_le _) (by simp)
  have hbel : Below w.heap.size w (w.alloc (.cells #[] 64)) := bel_alloc (Below.refl _ _) _
  have HC : Hid (∀ (j : Nat) (u : Value), xs[j]? = some u → (w.alloc (.cells #[] 64)).cell? (ad.add j) = some u) := fun j u hu => by
   have h2 := HD.out j u hu
   have hlt : (ad.add j).block < w.heap.size := World.block_lt_of_cell? w _ h2
   rw [World.cell?_of_block (w := w) (hbel.block _ hlt)]
   exact h2
  clear hc hd HD
  have E := fun w => eql_nil w 23 _ (some ad) n c Tryz.underlying23
  simp only [Option.isNone_some] at E
  go_enter Tryz.func67, Tryz.ntmps67
  go_wp2_with (first | (at_builtin; refine wpList_append_own _ rfl _ _ 23 rfl w.heap.size 64 i0 (.agg #[.int .i64 0, .int .i64 0, .int .i64 0, .int .i64 0, .string noS]) 5 48 Tryz.underlying23 hi hz0 hz1 hz2 rfl (by decide) _ _ _ rfl hown ad n c xs rfl hl HC.out h1 ?c3 ?c4 ?c5 ?_))
  case c3 => unfold maxLen; omega
  case c4 => omega
  case c5 => simp
  intro v2 w2 hown2 hg2 _
  go_wp2_with fail
  go_ret
  refine ⟨_, rfl, ?_, hbel.grown hg2 (by simp) (fun q hq => by simp [Value.ownBlock] at hq; omega)⟩
  simpa using hown2
theorem info67 : (Tryz.prog.info? 67).map (fun i => (i.zero, i.size, i.bytes)) = some (some (.agg #[.string noS, .bool false, .slice none 0 0]), 3, 48) := by kernel_rfl
theorem clone67_any (v : Value) (n : Nat) (xs : List Value) (w : World) (h : SHas 3 w v n xs) (hn : n ≤ 100) (h1 : ∀ u ∈ xs, u.oneCell' = true) : Calls Tryz.prog 68 #[v] w (ClPost 67 3 n xs w) := by
 obtain ⟨i0, hi, hz0, hz1, hz2⟩ := info_parts info67
 obtain ⟨hm, hl, ⟨rfl, rfl⟩ | ⟨ad, c, rfl, hc, hd⟩⟩ := h
 ·obtain rfl : xs = [] := List.eq_nil_of_length_eq_zero (by omega)
  have E := fun w => eql_nil w 24 _ none 0 0 Tryz.underlying24
  simp only [Option.isNone_none] at E
  go_enter Tryz.func68, Tryz.ntmps68
  go_wp2
  go_ret
  exact ⟨_, rfl, World.ownsRow_nil _ _ _ _, Below.refl _ _⟩
 ·have HD : Hid (∀ (j : Nat) (u : Value), xs[j]? = some u → w.cell? (ad.add j) = some u) := fun j u hu => by
   have hj := (List.getElem?_eq_some_iff.1 hu).1
   have h0 : 0 < n := by
    rcases Nat.eq_zero_or_pos n with h | h
    ·subst h; omega
    ·exact h
   obtain ⟨g, o, rfl, hr⟩ := hd h0
   have := hr j u hu
   rwa [Addr.add_mid]
  have hown : (w.alloc (.cells #[] 67)).ownsRow w.heap.size 67 3 (.slice (some ⟨w.heap.size, 0, none⟩) 0 0) 0 [] := World.ownsRow_made w #[] 0 (Nat.le_refl _) (Nat.zero_le _) (by simp)
  have hbel : Below w.heap.size w (w.alloc (.cells #[] 67)) := bel_alloc (Below.refl _ _) _
  have HC : Hid (∀ (j : Nat) (u : Value), xs[j]? = some u → (w.alloc (.cells #[] 67)).cell? (ad.add j) = some u) := fun j u hu => by
   have h2 := HD.out j u hu
   have hlt : (ad.add j).block < w.heap.size := World.block_lt_of_cell? w _ h2
   rw [World.cell?_of_block (w := w) (hbel.block _ hlt)]
   exact h2
  clear hc hd HD
  have E := fun w => eql_nil w 24 _ (some ad) n c Tryz.underlying24
  simp only [Option.isNone_some] at E
  go_enter Tryz.func68, Tryz.ntmps68
  go_wp2_with (first | (at_builtin; refine wpList_append_own _ rfl _ _ 24 rfl w.heap.size 67 i0 (.agg #[.string noS, .bool false, .slice none 0 0]) 3 48 Tryz.underlying24 hi hz0 hz1 hz2 rfl (by decide) _ _ _ rfl hown ad n c xs rfl hl HC.out h1 ?c3 ?c4 ?c5 ?_))
  case c3 => unfold maxLen; omega
  case c4 => omega
  case c5 => simp
  intro v2 w2 hown2 hg2 _
  go_wp2_with fail
  go_ret
  refine ⟨_, rfl, ?_, hbel.grown hg2 (by simp) (fun q hq => by simp [Value.ownBlock] at hq; omega)⟩
  simpa using hown2
theorem info50 : (Tryz.prog.info? 50).map (fun i => (i.zero, i.size, i.bytes)) = some (some (MV 0 0 0), 3, 24) := by kernel_rfl
theorem clone50_any (v : Value) (n : Nat) (xs : List Value) (w : World) (h : SHas 3 w v n xs) (hn : n ≤ 100) (h1 : ∀ u ∈ xs, u.oneCell' = true) : Calls Tryz.prog 69 #[v] w (ClPost 50 3 n xs w) := by
 obtain ⟨i0, hi, hz0, hz1, hz2⟩ := info_parts info50
 obtain ⟨hm, hl, ⟨rfl, rfl⟩ | ⟨ad, c, rfl, hc, hd⟩⟩ := h
 ·obtain rfl : xs = [] := List.eq_nil_of_length_eq_zero (by omega)
  have E := fun w => eql_nil w 65 _ none 0 0 Tryz.underlying65
  simp only [Option.isNone_none] at E
  go_enter Tryz.func69, Tryz.ntmps69
  go_wp2
  go_ret
  exact ⟨_, rfl, World.ownsRow_nil _ _ _ _, Below.refl _ _⟩
 ·have HD : Hid (∀ (j : Nat) (u : Value), xs[j]? = some u → w.cell? (ad.add j) = some u) := fun j u hu => by
   have hj := (List.getElem?_eq_some_iff.1 hu).1
   have h0 : 0 < n := by
    rcases Nat.eq_zero_or_pos n with h | h
    ·subst h; omega
    ·exact h
   obtain ⟨g, o, rfl, hr⟩ := hd h0
   have := hr j u hu
   rwa [Addr.add_mid]
  have hown : (w.alloc (.cells #[] 50)).ownsRow w.heap.size 50 3 (.slice (some ⟨w.heap.size, 0, none⟩) 0 0) 0 [] := World.ownsRow_made w #[] 0 (Nat.le_refl _) (Nat.zero_le _) (by simp)
  have hbel : Below w.heap.size w (w.alloc (.cells #[] 50)) := bel_alloc (Below.refl _ _) _
  have HC : Hid (∀ (j : Nat) (u : Value), xs[j]? = some u → (w.alloc (.cells #[] 50)).cell? (ad.add j) = some u) := fun j u hu => by
   have h2 := HD.out j u hu
   have hlt : (ad.add j).block < w.heap.size := World.block_lt_of_cell? w _ h2
   rw [World.cell?_of_block (w := w) (hbel.block _ hlt)]
   exact h2
  clear hc hd HD
  have E := fun w => eql_nil w 65 _ (some ad) n c Tryz.underlying65
  simp only [Option.isNone_some] at E
  go_enter Tryz.func69, Tryz.ntmps69
  go_wp2_with (first | (at_builtin; refine wpList_append_own _ rfl _ _ 65 rfl w.heap.size 50 i0 (MV 0 0 0) 3 24 Tryz.underlying65 hi hz0 hz1 hz2 rfl (by decide) _ _ _ rfl hown ad n c xs rfl hl HC.out h1 ?c3 ?c4 ?c5 ?_))
  case c3 => unfold maxLen; omega
  case c4 => omega
  case c5 => simp
  intro v2 w2 hown2 hg2 _
  go_wp2_with fail
  go_ret
  refine ⟨_, rfl, ?_, hbel.grown hg2 (by simp) (fun q hq => by simp [Value.ownBlock] at hq; omega)⟩
  simpa using hown2
theorem info69 : (Tryz.prog.info? 69).map (fun i => (i.zero, i.size, i.bytes)) = some (some (.agg #[.int .i64 0, .int .i64 0, .int .i64 0, .int .i64 0, .int .i64 0, .int .i64 0, .int .i64 0, .string noS, .slice none 0 0]), 9, 96) := by kernel_rfl
theorem clone69_any (v : Value) (n : Nat) (xs : List Value) (w : World) (h : SHas 9 w v n xs) (hn : n ≤ 100) (h1 : ∀ u ∈ xs, u.oneCell' = true) : Calls Tryz.prog 70 #[v] w (ClPost 69 9 n xs w) := by
 obtain ⟨i0, hi, hz0, hz1, hz2⟩ := info_parts info69
 obtain ⟨hm, hl, ⟨rfl, rfl⟩ | ⟨ad, c, rfl, hc, hd⟩⟩ := h
 ·obtain rfl : xs = [] := List.eq_nil_of_length_eq_zero (by omega)
  have E := fun w => eql_nil w 25 _ none 0 0 Tryz.underlying25
  simp only [Option.isNone_none] at E
  go_enter Tryz.func70, Tryz.ntmps70
  go_wp2
  go_ret
  exact ⟨_, rfl, World.ownsRow_nil _ _ _ _, Below.refl _ _⟩
 ·have HD : Hid (∀ (j : Nat) (u : Value), xs[j]? = some u → w.cell? (ad.add j) = some u) := fun j u hu => by
   have hj := (List.getElem?_eq_some_iff.1 hu).1
   have h0 : 0 < n := by
    rcases Nat.eq_zero_or_pos n with h | h
    ·subst h; omega
    ·exact h
   obtain ⟨g, o, rfl, hr⟩ := hd h0
   have := hr j u hu
   rwa [Addr.add_mid]
  have hown : (w.alloc (.cells #[] 69)).ownsRow w.heap.size 69 9 (.slice (some ⟨w.heap.size, 0, none⟩) 0 0) 0 [] := World.ownsRow_made w #[] 0 (Nat.le_refl _) (Nat.zero_le _) (by simp)
  have hbel : Below w.heap.size w (w.alloc (.cells #[] 69)) := bel_alloc (Below.refl _ _) _
  have HC : Hid (∀ (j : Nat) (u : Value), xs[j]? = some u → (w.alloc (.cells #[] 69)).cell? (ad.add j) = some u) := fun j u hu => by
   have h2 := HD.out j u hu
   have hlt : (ad.add j).block < w.heap.size := World.block_lt_of_cell? w _ h2
   rw [World.cell?_of_block (w := w) (hbel.block _ hlt)]
   exact h2
  clear hc hd HD
  have E := fun w => eql_nil w 25 _ (some ad) n c Tryz.underlying25
  simp only [Option.isNone_some] at E
  go_enter Tryz.func70, Tryz.ntmps70
  go_wp2_with (first | (at_builtin; refine wpList_append_own _ rfl _ _ 25 rfl w.heap.size 69 i0 (.agg #[.int .i64 0, .int .i64 0, .int .i64 0, .int .i64 0, .int .i64 0, .int .i64 0, .int .i64 0, .string noS, .slice none 0 0]) 9 96 Tryz.underlying25 hi hz0 hz1 hz2 rfl (by decide) _ _ _ rfl hown ad n c xs rfl hl HC.out h1 ?c3 ?c4 ?c5 ?_))
  case c3 => unfold maxLen; omega
  case c4 => omega
  case c5 => simp
  intro v2 w2 hown2 hg2 _
  go_wp2_with fail
  go_ret
  refine ⟨_, rfl, ?_, hbel.grown hg2 (by simp) (fun q hq => by simp [Value.ownBlock] at hq; omega)⟩
  simpa using hown2
end Go.Proofs.YtjbbmcommnhgeaaGreat
