import Derived.Test.YtjbbmcommnhgeaaGreatPc6
import Derived.Shelf.SlSortCmp.NoneTotal
import Derived.Test.YtjbbmcommnhgeaaGreatProg
import Derived.Sort.OwnSortedInts
set_option maxRecDepth 100000
set_option maxHeartbeats 8000000
namespace Go.Proofs.YtjbbmcommnhgeaaGreat.Tam2
open Go.RowKit
def Bl (w w' : World) : Prop := Below w.heap.size w w' ∧ w.drawn ≤ w'.drawn
theorem Bl.refl (w : World) : Bl w w := ⟨Below.refl _ _, Nat.le_refl _⟩
theorem Bl.on {u w v : World} (h : Bl u w) (k : Bl w v) : Bl u v := ⟨h.1.trans (k.1.mono h.1.size), Nat.le_trans h.2 k.2⟩
def Stays (S : World → Prop) : Prop := ∀ w w', S w → Bl w w' → S w'
section
variable {P : Program} {ops : Array Oper} {Q : Exit → Act → World → Prop} {md : Region.Mode} {S : World → Prop} {T : Value → World → Prop} {K : Act → Prop}
def Goes (P : Program) (S : World → Prop) (T : Value → World → Prop) (V : Value → Prop) (o : Oper) (a : Act) : Prop :=
 ∀ w, S w → (∀ t, Operand.tmp t ∈ o.op.operands → T (a.eval (.tmp t)) w) → match (execOp a.eval o).run P w with
 | .ok (.value u) w' => V u ∧ T u w' ∧ Bl w w'
 | .ok (.enter f args) w' => Calls P f args w' fun e w'' => ∃ u, e = .returned u ∧ V u ∧ T u w'' ∧ Bl w w''
 | _ => False
def Tame (P : Program) (ops : Array Oper) (S : World → Prop) (T : Value → World → Prop) (o : Oper) (V : Value → Prop) (a : Act) : Prop :=
 (Region.wanted o (yielded ops a.tmps) = true ∧ Goes P S T V o a) ∨ (Region.wanted o (yielded ops a.tmps) = false ∧ V undef)
theorem Tame.of_put {o : Oper} {V : Value → Prop} {a : Act} (hs : ∀ cs b, o.op ≠ .select cs b) (dst : Option Tmp) (v : Value) (h : ∀ d, dst = some d → d ∉ o.looksAt ops) :
  Tame P ops S T o V (a.put dst v) ↔ Tame P ops S T o V a := by
 have hx : ∀ t, Operand.tmp t ∈ o.op.operands → (a.put dst v).eval (.tmp t) = a.eval (.tmp t) := fun t ht => Act.eval_put fun d hd hxd => h d hd (by
  cases hxd
  exact List.mem_append_left _ (List.mem_filterMap.2 ⟨.tmp t, by simpa using ht, rfl⟩))
 unfold Tame Goes
 rw [execOp_put o hs a dst v h, wanted_put o a dst v h]
 have e : ∀ w, (∀ t, Operand.tmp t ∈ o.op.operands → T ((a.put dst v).eval (.tmp t)) w) ↔ (∀ t, Operand.tmp t ∈ o.op.operands → T (a.eval (.tmp t)) w) := fun w =>
  ⟨fun H t ht => by have := H t ht; rwa [hx t ht] at this, fun H t ht => by rw [hx t ht]; exact H t ht⟩
 simp only [e]
def Known (T : Value → World → Prop) (a : Act) (w : World) : Prop := ∀ t, T (a.tmps.getD t undef) w
theorem Known.put {a : Act} {w w' : World} (hT : ∀ v w w', T v w → Bl w w' → T v w') (h : Known T a w) (hb : Bl w w') (dst : Option Tmp) {u : Value} (hu : T u w') : Known T (a.put dst u) w' := by
 intro t
 cases dst with
 | none => exact hT _ _ _ (h t) hb
 | some d =>
  by_cases hd : d = t
  ·subst hd
   simp only [Act.put, Array.getD_eq_getD_getElem?]
   rcases Nat.lt_or_ge d a.tmps.size with hlt | hge
   ·simp [hlt]; exact hu
   ·have := hT _ _ _ (h d) hb
    simpa [Array.getD_eq_getD_getElem?, hge] using this
  ·simp only [Act.put, Array.getD_eq_getD_getElem?, Array.getElem?_setIfInBounds_ne hd]
   have := hT _ _ _ (h t) hb
   simpa [Array.getD_eq_getD_getElem?] using this
theorem Tame.wpOp {i : Nat} {o : Oper} {V : Value → Prop} {a : Act} (hi : ops[i]? = some o) (hy : Tame P ops S T o V a) (hS : Stays S) (hT : ∀ v w w', T v w → Bl w w' → T v w') (h0 : ∀ w, T undef w)
  {K : Act → World → Prop} {w : World} (hw : S w) (hk : Known T a w) (h : ∀ v w', V v → S w' → Known T (a.put o.dst v) w' → K (a.put o.dst v) w') : Go.wpOp P ops Q i K a w := by
 unfold Go.wpOp
 simp only [hi]
 rcases hy with ⟨hwd, hv⟩ | ⟨hwd, hv⟩
 ·simp only [hwd, if_true, Oper.wp]
  refine .inl ?_
  have hv' := hv w hw (fun t _ => hk t)
  generalize (execOp a.eval o).run P w = r at hv'
  cases r with
  | ok n w' =>
   cases n <;> simp only at hv' ⊢
   case value u => exact h _ _ hv'.1 (hS _ _ hw hv'.2.2) (hk.put hT hv'.2.2 _ hv'.2.1)
   case enter f args =>
    refine Calls.mono hv' fun e w'' he => ?_
    obtain ⟨u, rfl, h1, h2, h3⟩ := he
    exact h _ _ h1 (hS _ _ hw h3) (hk.put hT h3 _ h2)
  | halt x w' => exact hv'.elim
 ·simp only [hwd, Bool.false_eq_true, if_false]
  exact h _ _ hv hw (hk.put hT (Bl.refl _) _ (h0 w))
def putS (A : Act → Prop) (o : Oper) (V : Value → Prop) : Act → Prop := fun a' => ∃ a v, A a ∧ V v ∧ a' = a.put o.dst v
theorem putS_comm {A : Act → Prop} {x y : Oper} {V W : Value → Prop} (h : ∀ d, x.dst = some d → y.dst ≠ some d) : putS (putS A x V) y W = putS (putS A y W) x V := by
 funext a'
 apply propext
 constructor
 ·rintro ⟨_, u, ⟨a, v, ha, hv, rfl⟩, hu, rfl⟩
  exact ⟨_, v, ⟨a, u, ha, hu, rfl⟩, hv, Act.put_comm a v u h⟩
 ·rintro ⟨_, v, ⟨a, u, ha, hu, rfl⟩, hv, rfl⟩
  exact ⟨_, u, ⟨a, v, ha, hv, rfl⟩, hu, (Act.put_comm a v u h).symm⟩
def anyTame (P : Program) (md : Region.Mode) (ops : Array Oper) (S : World → Prop) (T : Value → World → Prop) (K : Act → Prop) : Nat → Array Bool → (Act → Prop) → Prop
 | 0, listed, A => Region.ready md ops listed = [] ∧ ∀ a, A a → K a
 | fuel + 1, listed, A =>
  (Region.ready md ops listed = [] → ∀ a, A a → K a) ∧
  ∀ i ∈ Region.ready md ops listed, ∃ o V, ops[i]? = some o ∧ (∃ v, V v) ∧ (∀ a, A a → Tame P ops S T o V a) ∧ anyTame P md ops S T K fuel (listed.setIfInBounds i true) (putS A o V)
theorem wpAny_of_tame (hS : Stays S) (hT : ∀ v w w', T v w → Bl w w' → T v w') (h0 : ∀ w, T undef w) (hK : ∀ a w, K a → S w → Known T a w → Q .normal a w) :
  ∀ (fuel : Nat) (listed : Array Bool) (A : Act → Prop) (a : Act) (w : World), A a → S w → Known T a w → anyTame P md ops S T K fuel listed A → wpAny P md ops Q fuel listed a w
 | 0, _, A, a, w, hA, hw, hk, h => ⟨h.1, hK a w (h.2 a hA) hw hk⟩
 | fuel + 1, _, A, a, w, hA, hw, hk, h => ⟨fun hr => hK a w (h.1 hr a hA) hw hk, fun i hi => by
   obtain ⟨o, V, ho, _, hc, hr⟩ := h.2 i hi
   exact (hc a hA).wpOp ho hS hT h0 hw hk fun v w' hv hw' hk' => wpAny_of_tame hS hT h0 hK fuel _ _ _ w' ⟨a, v, hA, hv, rfl⟩ hw' hk' hr⟩
theorem anyTame_first {i : Nat} {oi : Oper} {V : Value → Prop} (hi : ops[i]? = some oi) (hV : ∃ v, V v) (hsel : ∀ (j : Nat) (o : Oper) cs b, ops[j]? = some o → o.op ≠ .select cs b) :
  ∀ (fuel : Nat) (listed : Array Bool) (A : Act → Prop),
   (∀ j oj, ops[j]? = some oj → j ≠ i → listed.getD j true = false → (∀ e ∈ oj.after, Region.binds md e = true → e.on ≠ i) → oi.apart ops oj = true) →
   i ∈ Region.ready md ops listed → (∀ a, A a → Tame P ops S T oi V a) →
   anyTame P md ops S T K fuel (listed.setIfInBounds i true) (putS A oi V) → anyTame P md ops S T K (fuel + 1) listed A := by
 intro fuel
 induction fuel with
 | zero =>
  intro listed A _ hr hy H
  refine ⟨fun h => (by rw [h] at hr; cases hr), fun j hj => ?_⟩
  by_cases hji : j = i
  ·subst hji; exact ⟨oi, V, hi, hV, hy, H⟩
  ·have := ready_mono hj hji
   rw [H.1] at this
   cases this
 | succ fuel ih =>
  intro listed A hfree hr hy H
  refine ⟨fun h => (by rw [h] at hr; cases hr), fun j hj => ?_⟩
  by_cases hji : j = i
  ·subst hji; exact ⟨oi, V, hi, hV, hy, H⟩
  ·obtain ⟨oj, W, hoj, hW, hcj, hrest⟩ := H.2 j (ready_mono hj hji)
   obtain ⟨hjun, oj', hoj', hall⟩ := mem_ready.1 hj
   obtain rfl : oj = oj' := by rw [hoj] at hoj'; exact Option.some.inj hoj'
   have hnot : ∀ e ∈ oj.after, Region.binds md e = true → e.on ≠ i := fun e he hb heq => by
    have h1 := hall e he hb
    have h0 := (mem_ready.1 hr).1
    rw [heq] at h1
    rcases Nat.lt_or_ge i listed.size with h' | h'
    ·simp [h'] at h0 h1; rw [h0] at h1; cases h1
    ·simp [Array.getElem?_eq_none h'] at h1
   obtain ⟨h1, h2, h3⟩ := Oper.apart_spec (hfree j oj hoj hji hjun hnot)
   have hfree' : ∀ k ok, ops[k]? = some ok → k ≠ i → (listed.setIfInBounds j true).getD k true = false →
     (∀ e ∈ ok.after, Region.binds md e = true → e.on ≠ i) → oi.apart ops ok = true := fun k ok hk hki hun hno => by
    refine hfree k ok hk hki ?_ hno
    by_cases hjk : j = k
    ·subst hjk; exact hjun
    ·rw [getD_set_ne true hjk] at hun; exact hun
   obtain ⟨v0, hv0⟩ := hV
   refine ⟨oj, W, hoj, hW, fun a ha => (Tame.of_put (fun cs b => hsel j oj cs b hoj) oi.dst v0 h1).1 (hcj _ ⟨a, v0, ha, hv0, rfl⟩), ?_⟩
   refine ih (listed.setIfInBounds j true) (putS A oj W) hfree' (ready_mono hr (Ne.symm hji)) ?_ ?_
   ·rintro _ ⟨a, u, ha, _, rfl⟩
    exact (Tame.of_put (fun cs b => hsel i oi cs b hi) oj.dst u h3).2 (hy a ha)
   ·rw [Array.setIfInBounds_comm _ _ hji, ← putS_comm h2]
    exact hrest
def tameList (P : Program) (ops : Array Oper) (S : World → Prop) (T : Value → World → Prop) (K : Act → Prop) : List Oper → (Act → Prop) → Prop
 | [], A => ∀ a, A a → K a
 | o :: l, A => ∃ V, (∃ v, V v) ∧ (∀ a, A a → Tame P ops S T o V a) ∧ tameList P ops S T K l (putS A o V)
theorem anyTame_lex (hs : Region.noSelect ops = true) : ∀ (l : List Oper) (k : Nat) (listed : Array Bool) (A : Act → Prop), (∀ j, l[j]? = ops[k + j]?) →
  Region.lexFrom md ops l.length k listed = true → tameList P ops S T K l A → anyTame P md ops S T K l.length listed A
 | [], _, _, _, _, hB, h => ⟨by simpa [Region.lexFrom] using hB, h⟩
 | o :: l, k, listed, A, hl, hB, h => by
  have h0 : ops[k]? = some o := by simpa using (hl 0).symm
  simp only [List.length_cons, Region.lexFrom, Bool.and_eq_true] at hB
  obtain ⟨⟨hr, hf⟩, hB'⟩ := hB
  obtain ⟨V, hV, hy, hK⟩ := h
  exact anyTame_first h0 hV (Region.noSelect_spec hs) l.length listed A (Region.free_spec h0 hf) (by simpa using hr) hy
   (anyTame_lex hs l (k + 1) _ _ (fun j => by have := hl (j + 1); simpa [Nat.add_assoc, Nat.add_comm 1 j] using this) hB' hK)
def fam {E : Type} (G : E → Prop) (f : E → Act) : Act → Prop := fun a => ∃ p, G p ∧ a = f p
theorem region {id : Nat} {a : Act} {w : World} {l : List Oper} (hm : P.follows .mixedOrders = true) (hB : Region.lexB .any l.toArray = true) (S : World → Prop) (T : Value → World → Prop)
  (hS : Stays S) (hT : ∀ v w w', T v w → Bl w w' → T v w') (h0 : ∀ w, T undef w) (hw : S w.drew) (hk : Known T a w.drew)
  (h : tameList P l.toArray S T (fun a' => ∀ w', S w' → Q .normal a' w') l (fam (fun _ : Unit => True) fun _ => a)) : (Code.region id l.toArray true).wp P Q a w := by
 simp only [Region.lexB, Bool.and_eq_true] at hB
 refine wp_region_any hm (wpAny_of_tame (K := fun a' => ∀ w', S w' → Q .normal a' w') hS hT h0 (fun a w h hS _ => h w hS) _ _ (fam (fun _ : Unit => True) fun _ => a) _ _ ⟨(), trivial, rfl⟩ hw hk ?_)
 have := anyTame_lex (md := .any) hB.1 l 0 (Array.replicate l.toArray.size false) _ (by simp) (by simpa using hB.2) h
 simpa using this
variable {E : Type} {G : E → Prop} {f : E → Act}
theorem tameList_sub : ∀ (l : List Oper) {A B : Act → Prop}, (∀ a, A a → B a) → tameList P ops S T K l B → tameList P ops S T K l A
 | [], _, _, h, hB => fun a ha => hB a (h a ha)
 | _ :: l, _, _, h, ⟨V, hV, hy, hr⟩ => ⟨V, hV, fun a ha => hy a (h a ha), tameList_sub l (fun _ ⟨a, v, ha, hv, e⟩ => ⟨a, v, h a ha, hv, e⟩) hr⟩
theorem fixed {o : Oper} {l : List Oper} (v : Value) (hy : ∀ p, G p → Tame P ops S T o (· = v) (f p)) (h : tameList P ops S T K l (fam G fun p => (f p).put o.dst v)) : tameList P ops S T K (o :: l) (fam G f) :=
 ⟨(· = v), ⟨v, rfl⟩, fun _ ⟨p, hp, e⟩ => e ▸ hy p hp, tameList_sub l (fun _ ⟨_, _, ⟨p, hp, e⟩, hv, e'⟩ => ⟨p, hp, by rw [e', e, hv]⟩) h⟩
theorem fresh {o : Oper} {l : List Oper} (V : Value → Prop) (hV : ∃ v, V v) (hy : ∀ p, G p → Tame P ops S T o V (f p)) (h : tameList P ops S T K l (fam (fun q : E × Value => G q.1 ∧ V q.2) fun q => (f q.1).put o.dst q.2)) : tameList P ops S T K (o :: l) (fam G f) :=
 ⟨V, hV, fun _ ⟨p, hp, e⟩ => e ▸ hy p hp, tameList_sub l (fun _ ⟨_, v, ⟨p, hp, e⟩, hv, e'⟩ => ⟨(p, v), ⟨hp, hv⟩, by rw [e', e]⟩) h⟩
theorem done (h : ∀ p, G p → K (f p)) : tameList P ops S T K [] (fam G f) := fun _ ⟨p, hp, e⟩ => e ▸ h p hp
theorem skip {o : Oper} {l : List Oper} (hw : ∀ p, Region.wanted o (yielded ops (f p).tmps) = false) (h : tameList P ops S T K l (fam G fun p => (f p).put o.dst undef)) : tameList P ops S T K (o :: l) (fam G f) :=
 fixed undef (fun p _ => .inr ⟨hw p, rfl⟩) h
theorem pure {o : Oper} {l : List Oper} {v : Value} (hw : ∀ p, Region.wanted o (yielded ops (f p).tmps) = true) (hv : ∀ p, G p → ∀ w, S w → (execOp (f p).eval o).run P w = .ok (.value v) w) (hT : ∀ w, T v w)
  (h : tameList P ops S T K l (fam G fun p => (f p).put o.dst v)) : tameList P ops S T K (o :: l) (fam G f) :=
 fixed v (fun p hp => .inl ⟨hw p, fun w hS _ => by rw [hv p hp w hS]; exact ⟨rfl, hT w, Bl.refl _⟩⟩) h
theorem enter1 {o : Oper} {fn : FuncId} {ts : Array TypeId} {x : E → Value} {u : Operand}
  (ho : o.op = .call { callee := .value (.func fn), args := #[u], argTypes := ts }) (hu : ∀ p, (f p).eval u = x p) (hf : Calm.enters P fn = true) (p : E) (w : World) :
  (execOp (f p).eval o).run P w = .ok (.enter fn #[x p]) w := by
 have e : ∀ args, (callFunc fn args).run P w = .ok (.enter fn args) w := fun args => Calm.enters_run hf args w
 rw [← hu p]
 unfold execOp
 simp [ho, go_sem, Act.eval, e]
theorem call1 {o : Oper} {l : List Oper} {r : Value} {fn : FuncId} {ts : Array TypeId} {x : E → Value} {u : Operand} (hw : ∀ p, Region.wanted o (yielded ops (f p).tmps) = true)
  (ho : o.op = .call { callee := .value (.func fn), args := #[u], argTypes := ts }) (hu : ∀ p, (f p).eval u = x p) (hf : Calm.enters P fn = true) (hT : ∀ w, T r w)
  (hc : ∀ p w, G p → S w → (∀ t, Operand.tmp t ∈ o.op.operands → T ((f p).eval (.tmp t)) w) → Calls P fn #[x p] w fun e w' => e = .returned r ∧ Bl w w')
  (h : tameList P ops S T K l (fam G fun p => (f p).put o.dst r)) : tameList P ops S T K (o :: l) (fam G f) :=
 fixed r (fun p hp => .inl ⟨hw p, fun w hS ht => by
  rw [enter1 ho hu hf p w]
  exact (hc p w hp hS ht).mono fun e w' he => ⟨r, he.1, rfl, hT w', he.2⟩⟩) h
theorem enter2 {o : Oper} {fn : FuncId} {ts : Array TypeId} {x y : E → Value} {u v : Operand}
  (ho : o.op = .call { callee := .value (.func fn), args := #[u, v], argTypes := ts }) (hu : ∀ p, (f p).eval u = x p) (hv : ∀ p, (f p).eval v = y p) (hf : Calm.enters P fn = true) (p : E) (w : World) :
  (execOp (f p).eval o).run P w = .ok (.enter fn #[x p, y p]) w := by
 have e : ∀ args, (callFunc fn args).run P w = .ok (.enter fn args) w := fun args => Calm.enters_run hf args w
 rw [← hu p]; rw [← hv p]
 unfold execOp
 simp [ho, go_sem, Act.eval, e]
theorem call2 {o : Oper} {l : List Oper} {r : Value} {fn : FuncId} {ts : Array TypeId} {x y : E → Value} {u v : Operand} (hw : ∀ p, Region.wanted o (yielded ops (f p).tmps) = true)
  (ho : o.op = .call { callee := .value (.func fn), args := #[u, v], argTypes := ts }) (hu : ∀ p, (f p).eval u = x p) (hv : ∀ p, (f p).eval v = y p) (hf : Calm.enters P fn = true) (hT : ∀ w, T r w)
  (hc : ∀ p w, G p → S w → (∀ t, Operand.tmp t ∈ o.op.operands → T ((f p).eval (.tmp t)) w) → Calls P fn #[x p, y p] w fun e w' => e = .returned r ∧ Bl w w')
  (h : tameList P ops S T K l (fam G fun p => (f p).put o.dst r)) : tameList P ops S T K (o :: l) (fam G f) :=
 fixed r (fun p hp => .inl ⟨hw p, fun w hS ht => by
  rw [enter2 ho hu hv hf p w]
  exact (hc p w hp hS ht).mono fun e w' he => ⟨r, he.1, rfl, hT w', he.2⟩⟩) h
end
end Go.Proofs.YtjbbmcommnhgeaaGreat.Tam2
namespace Go.Proofs.YtjbbmcommnhgeaaGreat
open Go.RowKit
def or2 (a b : Int) : Int := if a ≠ 0 then a else b
def Two (w : World) (v : Value) (a b : Int) : Prop := ∃ g, v = .slice (some ⟨g, 0, none⟩) 2 2 ∧ Rw w g 3 #[.int .i64 a, .int .i64 b]
theorem Two.later {w w' : World} {v : Value} {a b : Int} (h : Two w v a b) (hb : Below w.heap.size w w') : Two w' v a b := by
 obtain ⟨g, e, h⟩ := h
 exact ⟨g, e, h.later hb⟩
theorem or2_any (v : Value) (a b : Int) (w : World) (h : Two w v a b) : Calls Tryz.prog 137 #[v] w (Leaves (.int .i64 (or2 a b)) w) := by
 obtain ⟨g, rfl, hr⟩ := h
 have c0 : w.cell? ⟨g, 0, none⟩ = some (.int .i64 a) := hr.cell 0
 have c1 : w.cell? ⟨g, 1, none⟩ = some (.int .i64 b) := hr.cell 1
 clear hr
 obtain ⟨z, HZ⟩ : ∃ z, Hid (or2 a b = z) := ⟨_, rfl⟩
 rw [HZ.out]
 go_enter Tryz.func137, Tryz.ntmps137
 go_wp2
 go_loopw [8] (fun vi wr => ∃ k : Nat, vi = .int .i64 k ∧ k ≤ 2 ∧ wr = w ∧ Hid ((1 ≤ k → a = 0) ∧ (2 ≤ k → b = 0))) (fun vi _ => 2 - (intOf vi).toNat)
 case atStart => exact ⟨0, rfl, by omega, rfl, (show _ ∧ _ from ⟨fun h => by omega, fun h => by omega⟩)⟩
 case round =>
  obtain ⟨k, rfl, hk, rfl, HV⟩ := hrel
  have hk3 : k = 0 ∨ k = 1 ∨ k = 2 := by omega
  have hv := HV.out
  rcases hk3 with rfl | rfl | rfl
  ·by_cases hx : a = 0
   ·have HV2 : Hid ((1 ≤ 1 → a = 0) ∧ (2 ≤ 1 → b = 0)) := (show _ ∧ _ from ⟨fun _ => by omega, fun _ => by omega⟩)
    clear hv HV
    rw [hx] at c0
    have HX : Hid (a = 0) := hx
    clear hx
    go_wp2
    go_roundw
    case rel => exact ⟨1, by simp, by omega, by trivial, HV2⟩
    case measure => simp [intOf]
   ·have HR : Hid (z = a) := by
     have e := HZ.out
     unfold or2 at e
     show z = _
     rw [← e]
     rw [if_pos (by omega)]
    clear hv HV HZ
    go_wp2
    go_ret
    exact ⟨by rw [HR.out]; rfl, rfl⟩
  ·by_cases hx : b = 0
   ·have HV2 : Hid ((1 ≤ 2 → a = 0) ∧ (2 ≤ 2 → b = 0)) := (show _ ∧ _ from ⟨fun _ => by omega, fun _ => by omega⟩)
    clear hv HV
    rw [hx] at c1
    have HX : Hid (b = 0) := hx
    clear hx
    go_wp2
    go_roundw
    case rel => exact ⟨2, by simp, by omega, by trivial, HV2⟩
    case measure => simp [intOf]
   ·have HR : Hid (z = b) := by
     have e := HZ.out
     unfold or2 at e
     show z = _
     rw [← e]
     rw [if_neg (by omega)]
    clear hv HV HZ
    go_wp2
    go_ret
    exact ⟨by rw [HR.out]; rfl, rfl⟩
  ·have HR : Hid (z = 0) := by
    have e := HZ.out
    unfold or2 at e
    show z = _
    rw [← e, if_neg (by omega)]
    omega
   clear hv HV HZ
   go_wp2
   go_ret
   exact ⟨by rw [HR.out]; rfl, rfl⟩
def T2 (L : Value) (a b : Int) (v : Value) (w : World) : Prop := nosl v = true ∨ v = L ∨ Two w v a b
def nw2 (B : Nat) (v : Value) : Prop := ∃ g, B ≤ g ∧ v = .slice (some ⟨g, 0, none⟩) 2 2
theorem nw2_two {w : World} {B g o n c : Nat} {v : Value} {a b : Int} (hg : g < B) (h : nw2 B v) (ht : T2 (.slice (some ⟨g, o, none⟩) n c) a b v w) : Two w v a b := by
 obtain ⟨g', hB, rfl⟩ := h
 rcases ht with h' | h' | h'
 ·cases h'
 ·simp only [Value.slice.injEq, Option.some.injEq, Addr.mk.injEq] at h'
  omega
 ·exact h'
theorem T2.later {L : Value} {a b : Int} (v : Value) (w w' : World) (h : T2 L a b v w) (hb : Tam2.Bl w w') : T2 L a b v w' := by
 rcases h with h | h | h
 ·exact Or.inl h
 ·exact Or.inr (Or.inl h)
 ·exact Or.inr (Or.inr (h.later hb.1))
theorem build_two {o : Oper} {ac : Act} {x y : Operand} {a b : Int} (ho : o.op = .buildSlice 129 2 #[(0, x), (1, y)]) (hx : ac.eval x = .int .i64 a) (hy : ac.eval y = .int .i64 b) (w : World) :
  (execOp ac.eval o).run Tryz.prog w = .ok (.value (.slice (some ⟨w.heap.size, 0, none⟩) 2 2)) (w.alloc (.cells #[.int .i64 a, .int .i64 b] 3)) := by
 unfold execOp
 generalize ac.eval = ρ at hx hy
 simp [ho, hx, hy, go_sem]
theorem known_all2 {L : Value} {a b : Int} {ac : Act} (h : ac.tmps.toList.all nosl = true) (w : World) : Tam2.Known (T2 L a b) ac w := by
 intro t
 refine .inl ?_
 rw [Array.getD_eq_getD_getElem?]
 rcases Nat.lt_or_ge t ac.tmps.size with hlt | hge
 ·rw [Array.getElem?_eq_getElem hlt]
  exact List.all_eq_true.1 h _ (by simp)
 ·rw [Array.getElem?_eq_none hge]
  rfl
theorem rising1_any (x y : Nat) (bl g o n c : Nat) (ta tb : Int) (w : World) (hx : 1 ≤ x ∧ x ≤ n) (hy : 1 ≤ y ∧ y ≤ n) (hn : n ≤ 100) (cl : w.cell? ⟨bl, 0, none⟩ = some (.slice (some ⟨g, o, none⟩) n c)) (hg : g < w.heap.size)
  (ca : w.cell? ⟨g, o + (x - 1) * 9 + 3, none⟩ = some (.int .i64 ta)) (cb : w.cell? ⟨g, o + (y - 1) * 9 + 3, none⟩ = some (.int .i64 tb)) :
  Calls Tryz.prog 245 #[.int .i64 x, .int .i64 y, .pointer (some ⟨bl, 0, none⟩)] w (fun e w' => e = .returned (.int .i64 (or2 (cmpI ta tb) (cmpI x y))) ∧ Tam2.Bl w w') := by
 have C1 : ∀ w, Calls Tryz.prog 138 #[.int .i64 ta, .int .i64 tb] w (fun e w' => e = .returned (.int .i64 (cmpI ta tb)) ∧ Tam2.Bl w w') := fun w => (compare_any ta tb w).mono fun e w' ⟨he, hw⟩ => ⟨he, by rw [hw]; exact Tam2.Bl.refl _⟩
 have C2 : ∀ w, Calls Tryz.prog 138 #[.int .i64 (x : Int), .int .i64 (y : Int)] w (fun e w' => e = .returned (.int .i64 (cmpI x y)) ∧ Tam2.Bl w w') := fun w => (compare_any x y w).mono fun e w' ⟨he, hw⟩ => ⟨he, by rw [hw]; exact Tam2.Bl.refl _⟩
 generalize cmpI ta tb = a at C1 ⊢
 generalize cmpI (x : Int) (y : Int) = b at C2 ⊢
 have C4 : ∀ v w, Two w v a b → Calls Tryz.prog 137 #[v] w (fun e w' => e = .returned (.int .i64 (or2 a b)) ∧ Tam2.Bl w w') := fun v w h => (or2_any v a b w h).mono fun e w' ⟨he, hw⟩ => ⟨he, by rw [hw]; exact Tam2.Bl.refl _⟩
 generalize or2 a b = r at C4 ⊢
 obtain ⟨x1, hx1⟩ : ∃ x1 : Nat, x = x1 + 1 := ⟨x - 1, by omega⟩
 obtain ⟨y1, hy1⟩ : ∃ y1 : Nat, y = y1 + 1 := ⟨y - 1, by omega⟩
 have ex : IntKind.i64.wrap ((x : Int) - 1) = (x1 : Int) := by rw [IntKind.wrap_i64]; omega
 have ey : IntKind.i64.wrap ((y : Int) - 1) = (y1 : Int) := by rw [IntKind.wrap_i64]; omega
 have hx2 : (0 : Int) ≤ (x1 : Int) ∧ (x1 : Int) < (n : Int) := by omega
 have hy2 : (0 : Int) ≤ (y1 : Int) ∧ (y1 : Int) < (n : Int) := by omega
 have ex2 : IntKind.i64.wrap (x1 : Int) = (x1 : Int) := by rw [IntKind.wrap_i64]; omega
 have ey2 : IntKind.i64.wrap (y1 : Int) = (y1 : Int) := by rw [IntKind.wrap_i64]; omega
 have hx3 := hx2.1
 have hx4 := hx2.2
 have hy3 := hy2.1
 have hy4 := hy2.2
 rw [show x - 1 = x1 by omega] at ca
 rw [show y - 1 = y1 by omega] at cb
 generalize (x : Int) = X at C2 ex hx ⊢
 generalize (y : Int) = Y at C2 ey hy ⊢
 clear hx hy
 go_enter Tryz.func245, Tryz.ntmps245
 go_wp2_with fail
 refine Tam2.region (by kernel_rfl) (by kernel_rfl) (fun w' => w'.cell? ⟨bl, 0, none⟩ = some (.slice (some ⟨g, o, none⟩) n c) ∧ w'.cell? ⟨g, o + x1 * 9 + 3, none⟩ = some (.int .i64 ta) ∧ w'.cell? ⟨g, o + y1 * 9 + 3, none⟩ = some (.int .i64 tb) ∧ Tam2.Bl w w') (T2 (.slice (some ⟨g, o, none⟩) n c) a b)
  (fun wa wb h hb => ⟨cell_later hb.1 h.1, cell_later hb.1 h.2.1, cell_later hb.1 h.2.2.1, h.2.2.2.on hb⟩) T2.later (fun _ => .inl rfl) ⟨cl, ca, cb, ⟨(Below.refl _ _).drew, Nat.le_succ _⟩⟩ (known_all2 (by rfl) _) ?_
 clear cl ca cb
 refine Tam2.pure (v := ?_) (fun _ => by rfl) ?_ ?_ ?_
 rotate_left
 focus (intro p hp w hSw; go_simp <;> rfl)
 focus (intro w; exact .inr (.inl rfl))
 simp only [Act.put, List.setIfInBounds_toArray, List.set_cons_zero, List.set_cons_succ]
 refine Tam2.pure (v := ?_) (fun _ => by rfl) ?_ ?_ ?_
 rotate_left
 focus (intro p hp w hSw; go_simp <;> rfl)
 focus (intro w; exact .inl rfl)
 simp only [Act.put, List.setIfInBounds_toArray, List.set_cons_zero, List.set_cons_succ]
 refine Tam2.pure (v := ?_) (fun _ => by rfl) ?_ ?_ ?_
 rotate_left
 focus (intro p hp w hSw; go_simp <;> rfl)
 focus (intro w; exact .inl rfl)
 simp only [Act.put, List.setIfInBounds_toArray, List.set_cons_zero, List.set_cons_succ]
 refine Tam2.pure (v := ?_) (fun _ => by rfl) ?_ ?_ ?_
 rotate_left
 focus (intro p hp w hSw; go_simp <;> rfl)
 focus (intro w; exact .inl rfl)
 simp only [Act.put, List.setIfInBounds_toArray, List.set_cons_zero, List.set_cons_succ]
 refine Tam2.pure (v := ?_) (fun _ => by rfl) ?_ ?_ ?_
 rotate_left
 focus (intro p hp w hSw; go_simp <;> rfl)
 focus (intro w; exact .inl rfl)
 simp only [Act.put, List.setIfInBounds_toArray, List.set_cons_zero, List.set_cons_succ]
 refine Tam2.pure (v := ?_) (fun _ => by rfl) ?_ ?_ ?_
 rotate_left
 focus (intro p hp w hSw; go_simp <;> rfl)
 focus (intro w; exact .inl rfl)
 simp only [Act.put, List.setIfInBounds_toArray, List.set_cons_zero, List.set_cons_succ]
 refine Tam2.pure (v := ?_) (fun _ => by rfl) ?_ ?_ ?_
 rotate_left
 focus (intro p hp w hSw; go_simp <;> rfl)
 focus (intro w; exact .inr (.inl rfl))
 simp only [Act.put, List.setIfInBounds_toArray, List.set_cons_zero, List.set_cons_succ]
 refine Tam2.pure (v := ?_) (fun _ => by rfl) ?_ ?_ ?_
 rotate_left
 focus (intro p hp w hSw; go_simp <;> rfl)
 focus (intro w; exact .inl rfl)
 simp only [Act.put, List.setIfInBounds_toArray, List.set_cons_zero, List.set_cons_succ]
 refine Tam2.pure (v := ?_) (fun _ => by rfl) ?_ ?_ ?_
 rotate_left
 focus (intro p hp w hSw; go_simp <;> rfl)
 focus (intro w; exact .inl rfl)
 simp only [Act.put, List.setIfInBounds_toArray, List.set_cons_zero, List.set_cons_succ]
 refine Tam2.pure (v := ?_) (fun _ => by rfl) ?_ ?_ ?_
 rotate_left
 focus (intro p hp w hSw; go_simp <;> rfl)
 focus (intro w; exact .inl rfl)
 simp only [Act.put, List.setIfInBounds_toArray, List.set_cons_zero, List.set_cons_succ]
 refine Tam2.pure (v := ?_) (fun _ => by rfl) ?_ ?_ ?_
 rotate_left
 focus (intro p hp w hSw; go_simp <;> rfl)
 focus (intro w; exact .inl rfl)
 simp only [Act.put, List.setIfInBounds_toArray, List.set_cons_zero, List.set_cons_succ]
 refine Tam2.pure (v := ?_) (fun _ => by rfl) ?_ ?_ ?_
 rotate_left
 focus (intro p hp w hSw; go_simp <;> rfl)
 focus (intro w; exact .inl rfl)
 simp only [Act.put, List.setIfInBounds_toArray, List.set_cons_zero, List.set_cons_succ]
 refine Tam2.call2 (fun _ => by rfl) rfl (fun _ => rfl) (fun _ => rfl) (by kernel_rfl) (fun _ => .inl rfl) (fun _ w _ _ _ => C1 w) ?_
 simp only [Act.put, List.setIfInBounds_toArray, List.set_cons_zero, List.set_cons_succ]
 refine Tam2.pure (v := ?_) (fun _ => by rfl) ?_ ?_ ?_
 rotate_left
 focus (intro p hp w hSw; go_simp <;> rfl)
 focus (intro w; exact .inl rfl)
 simp only [Act.put, List.setIfInBounds_toArray, List.set_cons_zero, List.set_cons_succ]
 refine Tam2.pure (v := ?_) (fun _ => by rfl) ?_ ?_ ?_
 rotate_left
 focus (intro p hp w hSw; go_simp <;> rfl)
 focus (intro w; exact .inl rfl)
 simp only [Act.put, List.setIfInBounds_toArray, List.set_cons_zero, List.set_cons_succ]
 refine Tam2.call2 (fun _ => by rfl) rfl (fun _ => rfl) (fun _ => rfl) (by kernel_rfl) (fun _ => .inl rfl) (fun _ w _ _ _ => C2 w) ?_
 simp only [Act.put, List.setIfInBounds_toArray, List.set_cons_zero, List.set_cons_succ]
 refine Tam2.fresh (nw2 w.heap.size) ⟨.slice (some ⟨w.heap.size, 0, none⟩) 2 2, _, Nat.le_refl _, rfl⟩ (fun p hp => .inl ⟨by rfl, fun w' hS ht => ?_⟩) ?_
 focus (rw [build_two rfl rfl rfl w']; exact ⟨⟨_, hS.2.2.2.1.size, rfl⟩, .inr (.inr ⟨w'.heap.size, rfl, rw_new w' 3 _⟩), ⟨bel_alloc (Below.refl _ _) _, Nat.le_refl _⟩⟩)
 simp only [Act.put, List.setIfInBounds_toArray, List.set_cons_zero, List.set_cons_succ]
 refine Tam2.call1 (fun _ => by rfl) rfl (fun _ => rfl) (by kernel_rfl) (fun _ => .inl rfl) (fun p w' hp hS ht => C4 _ w' (nw2_two hg hp.2 (ht 22 (by simp [Op.operands, Call.operands])))) ?_
 simp only [Act.put, List.setIfInBounds_toArray, List.set_cons_zero, List.set_cons_succ]
 refine Tam2.pure (v := ?_) (fun _ => by rfl) ?_ ?_ ?_
 rotate_left
 focus (intro p hp w hSw; go_simp <;> rfl)
 focus (intro w; exact .inl rfl)
 simp only [Act.put, List.setIfInBounds_toArray, List.set_cons_zero, List.set_cons_succ]
 refine Tam2.done fun p hp w9 hS9 => ?_
 go_wp2
 go_ret
 exact ⟨rfl, hS9.2.2.2⟩
end Go.Proofs.YtjbbmcommnhgeaaGreat
namespace Go.Proofs.YtjbbmcommnhgeaaGreat
open Go.RowKit Go.Sort Go.Shelf Go.Proofs
def sortL_ren : Go.Shelf.Ren := ⟨fun | 6 => 244 | 15 => 164 | 14 => 246 | 28 => 176 | 29 => 177 | 20 => 247 | 21 => 248 | 22 => 249 | 23 => 250 | 24 => 251 | 25 => 252 | 26 => 253 | 27 => 254 | 46 => 255 | 47 => 179 | 48 => 180 | 49 => 256 | 50 => 257 | 57 => 258 | n => n, fun | 22 => 129 | 24 => 3 | 25 => 160 | 3 => 3 | 39 => 158 | 0 => 0 | 53 => 187 | 55 => 189 | 4 => 4 | 46 => 180 | 45 => 179 | 50 => 104 | 5 => 5 | 9 => 9 | 66 => 190 | 70 => 194 | 76 => 196 | 77 => 197 | n => n, fun | n => n⟩
theorem sortL : Go.Proofs.SlLaysF.n6 Tryz.prog sortL_ren := {
 mixed := by kernel_rfl
 f6 := ⟨Tryz.f244.name, by decide, Tryz.func244.trans (congrArg some (by kernel_rfl))⟩
 f14 := ⟨Tryz.f246.name, by decide, Tryz.func246.trans (congrArg some (by kernel_rfl))⟩
 f15 := Tryz.func164.trans (congrArg some (by kernel_rfl))
 f20 := ⟨Tryz.f247.name, by decide, Tryz.func247.trans (congrArg some (by kernel_rfl))⟩
 f21 := ⟨Tryz.f248.name, by decide, Tryz.func248.trans (congrArg some (by kernel_rfl))⟩
 f22 := ⟨Tryz.f249.name, by decide, Tryz.func249.trans (congrArg some (by kernel_rfl))⟩
 f23 := ⟨Tryz.f250.name, by decide, Tryz.func250.trans (congrArg some (by kernel_rfl))⟩
 f24 := ⟨Tryz.f251.name, by decide, Tryz.func251.trans (congrArg some (by kernel_rfl))⟩
 f25 := ⟨Tryz.f252.name, by decide, Tryz.func252.trans (congrArg some (by kernel_rfl))⟩
 f26 := ⟨Tryz.f253.name, by decide, Tryz.func253.trans (congrArg some (by kernel_rfl))⟩
 f27 := ⟨Tryz.f254.name, by decide, Tryz.func254.trans (congrArg some (by kernel_rfl))⟩
 f28 := Tryz.func176.trans (congrArg some (by kernel_rfl))
 f29 := Tryz.func177.trans (congrArg some (by kernel_rfl))
 f46 := ⟨Tryz.f255.name, by decide, Tryz.func255.trans (congrArg some (by kernel_rfl))⟩
 f47 := Tryz.func179.trans (congrArg some (by kernel_rfl))
 f48 := Tryz.func180.trans (congrArg some (by kernel_rfl))
 f49 := ⟨Tryz.f256.name, by decide, Tryz.func256.trans (congrArg some (by kernel_rfl))⟩
 f50 := ⟨Tryz.f257.name, by decide, Tryz.func257.trans (congrArg some (by kernel_rfl))⟩
 f57 := ⟨Tryz.f258.name, by decide, Tryz.func258.trans (congrArg some (by kernel_rfl))⟩
 t0 := Tryz.underlying0
 a0 := Tryz.isAgg0
 z0 := Tryz.sizeOf0
 v0 := Tryz.zeroValue0
 t3 := Tryz.underlying3
 a3 := Tryz.isAgg3
 z3 := Tryz.sizeOf3
 v3 := Tryz.zeroValue3
 t4 := Tryz.underlying4
 a4 := Tryz.isAgg4
 z4 := Tryz.sizeOf4
 v4 := Tryz.zeroValue4
 t5 := Tryz.underlying5
 a5 := Tryz.isAgg5
 z5 := Tryz.sizeOf5
 v5 := Tryz.zeroValue5
 t9 := Tryz.underlying9
 a9 := Tryz.isAgg9
 z9 := Tryz.sizeOf9
 v9 := Tryz.zeroValue9
 t22 := Tryz.underlying129
 a22 := Tryz.isAgg129
 z22 := Tryz.sizeOf129
 v22 := Tryz.zeroValue129
 a24 := Tryz.isAgg3
 z24 := Tryz.sizeOf3
 t25 := Tryz.underlying160
 a25 := Tryz.isAgg160
 z25 := Tryz.sizeOf160
 v25 := Tryz.zeroValue160
 t39 := Tryz.underlying158
 a39 := Tryz.isAgg158
 z39 := Tryz.sizeOf158
 v39 := Tryz.zeroValue158
 t45 := Tryz.underlying179
 a45 := Tryz.isAgg179
 z45 := Tryz.sizeOf179
 v45 := Tryz.zeroValue179
 t46 := Tryz.underlying180
 a46 := Tryz.isAgg180
 z46 := Tryz.sizeOf180
 v46 := Tryz.zeroValue180
 t50 := Tryz.underlying104
 a50 := Tryz.isAgg104
 z50 := Tryz.sizeOf104
 v50 := Tryz.zeroValue104
 t53 := Tryz.underlying187
 a53 := Tryz.isAgg187
 z53 := Tryz.sizeOf187
 v53 := Tryz.zeroValue187
 t55 := Tryz.underlying189
 a55 := Tryz.isAgg189
 z55 := Tryz.sizeOf189
 v55 := Tryz.zeroValue189
 t66 := Tryz.underlying190
 a66 := Tryz.isAgg190
 z66 := Tryz.sizeOf190
 v66 := Tryz.zeroValue190
 t70 := Tryz.underlying194
 a70 := Tryz.isAgg194
 z70 := Tryz.sizeOf194
 v70 := Tryz.zeroValue194
 t76 := Tryz.underlying196
 a76 := Tryz.isAgg196
 z76 := Tryz.sizeOf196
 v76 := Tryz.zeroValue196
 t77 := Tryz.underlying197
 a77 := Tryz.isAgg197
 z77 := Tryz.sizeOf197
 v77 := Tryz.zeroValue197 }
def tmL (l : List El) (k : Nat) : Int := match l[k - 1]? with
 | some e => e.t
 | none => 0
theorem tmL_succ {l : List El} {k : Nat} (h : k < l.length) : tmL l (k + 1) = l[k].t := by
 simp [tmL, List.getElem?_eq_getElem h]
def er (l : List El) (a b : Nat) : Prop := tmL l a < tmL l b ∨ (tmL l a = tmL l b ∧ a < b)
def plc (n : Nat) : List Nat := (List.range n).map (· + 1)
theorem plc_succ (n : Nat) : plc (n + 1) = plc n ++ [n + 1] := by simp [plc, List.range_succ]
theorem plc_len (n : Nat) : (plc n).length = n := by simp [plc]
def encP (n : Nat) (k : Fin n) : Value := .int .i64 ((k.val + 1 : Nat) : Int)
theorem encP_one (n : Nat) : OneCell (encP n) := fun _ => rfl
def cfP (l : List El) (a b : Fin l.length) : Int := or2 (cmpI (tmL l (a.val + 1)) (tmL l (b.val + 1))) (cmpI ((a.val + 1 : Nat) : Int) ((b.val + 1 : Nat) : Int))
theorem ltP {l : List El} (a b : Fin l.length) : ltOf (cfP l) a b = true ↔ er l (a.val + 1) (b.val + 1) := by
 unfold ltOf cfP or2 cmpI er
 rw [decide_eq_true_iff]
 (repeat' split) <;> omega
theorem swoP (l : List El) : SWO (ltOf (cfP l)) where
 irrefl x := by
  cases h : ltOf (cfP l) x x
  ·rfl
  ·rw [ltP] at h
   unfold er at h
   omega
 trans x y z h1 h2 := by
  rw [ltP] at *
  unfold er at *
  omega
 ntrans x y z h1 h2 := by
  cases h : ltOf (cfP l) x z
  ·rfl
  ·have n1 : ¬ er l (x.val + 1) (y.val + 1) := fun e => by rw [← ltP, h1] at e; cases e
   have n2 : ¬ er l (y.val + 1) (z.val + 1) := fun e => by rw [← ltP, h2] at e; cases e
   rw [ltP] at h
   unfold er at *
   omega
theorem totP {l : List El} (x y : Fin l.length) (h1 : ltOf (cfP l) x y = false) (h2 : ltOf (cfP l) y x = false) : x = y := by
 have n1 : ¬ er l (x.val + 1) (y.val + 1) := fun e => by rw [← ltP, h1] at e; cases e
 have n2 : ¬ er l (y.val + 1) (x.val + 1) := fun e => by rw [← ltP, h2] at e; cases e
 unfold er at *
 omega
section
variable {α : Type} [Inhabited α] {enc : α → Value} {w : World} {g n : Nat} {os : Array Obj}
theorem holds_of_blk {cur : Array Value} {e : TypeId} {ss : List α} (hb : w.heap[g]? = some (.cells cur e (0, 0))) (ht : cur.toList.take ss.length = ss.map enc) : Holds enc w g 0 ss.toArray := by
 intro j hj
 have hj' : j < ss.length := by simpa using hj
 refine ⟨?_, by simp [World.frozen?, hb]⟩
 have h1 : (cur.toList.take ss.length)[j]? = (ss.map enc)[j]? := by rw [ht]
 rw [List.getElem?_take_of_lt hj'] at h1
 simp only [World.cell?, hb, Nat.zero_add]
 simp only [Option.isSome_none, Bool.false_eq_true, if_false]
 rw [← Array.getElem?_toList, h1]
 simp [hj']
theorem heap_srt {cur : Array Value} {e : TypeId} {fr : Nat × Nat} (d : Array α) (hb : w.heap[g]? = some (.cells cur e fr)) :
  (grow (putRow enc (Sort.ahead w n) g 0 d) os).heap[g]? = some (.cells (putCells enc 0 d cur) e fr) := by
 have hg : g < w.heap.size := (Array.getElem?_eq_some_iff.1 hb).1
 rw [heap_grow_old _ _ (by simpa using hg)]
 simp [putRow, mapBlock, Sort.ahead, Array.getElem?_modify, hb, onCells]
theorem grownBy_srt (d : Array α) : w.grownBy (grow (putRow enc (Sort.ahead w n) g 0 d) os) (some g) := by
 refine ⟨rfl, rfl, rfl, by simp, fun k hk hne => ?_⟩
 rw [heap_grow_old _ _ (by simpa using hk)]
 have : g ≠ k := fun e => hne (by rw [e])
 simp [putRow, mapBlock, Sort.ahead, Array.getElem?_modify, this]
theorem take_putCellsP (cur : Array Value) (ts : List α) (h : ts.length ≤ cur.size) : (putCells enc 0 ts.toArray cur).toList.take ts.length = ts.map enc := by
 apply List.ext_getElem?
 intro j
 by_cases hj : j < ts.length
 ·rw [List.getElem?_take_of_lt hj, Array.getElem?_toList]
  simp [putCells, hj, show j < cur.size by omega]
 ·rw [List.getElem?_take_eq_none (by omega), List.getElem?_eq_none (by simp; omega)]
end
theorem grow_of {w w' : World} (h : Tam2.Bl w w') : ∃ q os, w' = grow (w.drewN q) os := by
 refine ⟨w'.drawn - w.drawn, w'.heap.extract w.heap.size w'.heap.size, ?_⟩
 obtain ⟨⟨h1, h2, h3, h4, h5⟩, h6⟩ := h
 have hh : w.heap ++ w'.heap.extract w.heap.size w'.heap.size = w'.heap := by
  apply Array.ext_getElem?
  intro i
  rw [Array.getElem?_append]
  split
  ·rename_i hi
   rw [h5 i hi]
  ·rename_i hi
   rw [Array.getElem?_extract]
   split
   ·rw [Nat.add_sub_cancel' (by omega)]
   ·rw [Array.getElem?_eq_none (by omega)]
 obtain ⟨heap, tape, drawn, os, output⟩ := w'
 simp only at h1 h2 h3 h6 hh
 subst h1 h2 h3
 unfold grow World.drewN
 simp only [hh]
 congr 1
 omega
def RsPost (l : List El) (w : World) (e : Ending) (w' : World) : Prop := ∃ u ps, e = .returned u ∧ w'.ownsRow w.heap.size 3 1 u l.length (iv ps) ∧ ps.Perm (plc l.length) ∧ ps.Pairwise (er l) ∧ Below w.heap.size w w'
theorem sortP (l : List El) (v : Value) (bl g cap : Nat) (w : World) (B : Nat) (h : EHas w v l) (hn : 0 < l.length) (hl : l.length ≤ 100) (cb : w.cell? ⟨bl, 0, none⟩ = some v) (hbl : bl < w.heap.size) (hbg : bl ≠ g) (hvg : ∀ a n c, v = .slice (some a) n c → a.block ≠ g)
  (ho : w.ownsRow B 3 1 (.slice (some ⟨g, 0, none⟩) l.length cap) l.length (iv (plc l.length))) :
  Calls Tryz.prog 244 #[.slice (some ⟨g, 0, none⟩) l.length cap, .func (.func 245) #[] #[.pointer (some ⟨bl, 0, none⟩)]] w (fun e w' => e = .returned (.tuple #[]) ∧ ∃ ps, w'.ownsRow B 3 1 (.slice (some ⟨g, 0, none⟩) l.length cap) l.length (iv ps) ∧ ps.Perm (plc l.length) ∧ ps.Pairwise (er l) ∧ w.grownBy w' (some g)) := by
 obtain ⟨g0, hg0⟩ : ∃ n, l.length = n + 1 := ⟨l.length - 1, by omega⟩
 haveI : Inhabited (Fin l.length) := ⟨⟨0, hn⟩⟩
 obtain ⟨h1, ⟨h0, _⟩ | ⟨g', cap', cur, h', hbg', hg, hnc, hcm, hcs, htk⟩⟩ := ho
 ·cases h0
 simp only [Value.slice.injEq, Option.some.injEq, Addr.mk.injEq, and_true, true_and] at h'
 obtain ⟨rfl, rfl⟩ := h'
 have hd : (List.finRange l.length).map (encP l.length) = iv (plc l.length) := by
  apply List.ext_getElem
  ·simp [iv, plc]
  ·intro i h1 h2
   simp [iv, plc, encP]
 have hdl : (List.finRange l.length).length = l.length := List.length_finRange
 have hH : Holds (encP l.length) w g 0 (List.finRange l.length).toArray := holds_of_blk hg (by rw [hdl, hd, ← htk, Nat.mul_one])
 obtain ⟨ys, hys, hS, hy⟩ := h
 have hyl : ys.length = l.length := by rw [← hys, List.length_map]
 obtain ⟨p0, c0, rfl⟩ := hS.slice
 obtain ⟨g1, o, rfl, hrg⟩ := hS.at (by omega)
 have hg1 : g1 ≠ g := hvg _ _ _ rfl
 have tc : ∀ k, k < l.length → w.cell? ⟨g1, o + k * 9 + 3, none⟩ = some (.int .i64 (tmL l (k + 1))) := fun k hk => by
  have hky : k < ys.length := by omega
  have := hrg (k * 9 + 3) (.int .i64 (ys[k].1.t)) (rows_at El.len ys k hky 3 _ rfl)
  rw [← Nat.add_assoc] at this
  rw [this, tmL_succ hk]
  subst hys
  rw [List.getElem_map]
 have hgl : g1 < w.heap.size := by
  have := tc 0 hn
  unfold World.cell? at this
  rcases Nat.lt_or_ge g1 w.heap.size with h | h
  ·exact h
  ·rw [Array.getElem?_eq_none h] at this
   cases this
 have hcmp : CmpLays1 Tryz.prog 245 #[.pointer (some ⟨bl, 0, none⟩)] (encP l.length) (cfP l) g 0 (List.finRange l.length).toArray.size w := fun m os dk _ x y => by
  have hgr : w.grownBy (sortWorld (encP l.length) w g 0 m dk os) (some g) := grownBy_srt dk
  have keep : ∀ b i u, b ≠ g → b < w.heap.size → w.cell? ⟨b, i, none⟩ = some u → (sortWorld (encP l.length) w g 0 m dk os).cell? ⟨b, i, none⟩ = some u := fun b i u hb hlt hc => by
   rw [World.cell?_of_block (hgr.block b hlt (by simpa using hb))]
   exact hc
  refine (rising1_any (x.val + 1) (y.val + 1) bl g1 o l.length c0 (tmL l (x.val + 1)) (tmL l (y.val + 1)) _ ⟨by omega, x.isLt⟩ ⟨by omega, y.isLt⟩ hl (keep _ _ _ hbg hbl cb) (Nat.lt_of_lt_of_le hgl hgr.size) (keep _ _ _ hg1 hgl (tc x.val x.isLt)) (keep _ _ _ hg1 hgl (tc y.val y.isLt))).mono ?_
  rintro e w' ⟨he, hb⟩
  exact ⟨he, grow_of hb⟩
 have hgw : g < w.heap.size := (Array.getElem?_eq_some_iff.1 hg).1
 have K := Any.slices_SortFunc_total sortL (encP l.length) (encP_one _) (cfP l) (swoP l) 245 #[.pointer (some ⟨bl, 0, none⟩)] g 0 cap (List.finRange l.length).toArray w (fun args w => Calm.enters_run (by kernel_rfl) args w) hcmp hH hgw (by simp; omega) totP
 rw [show (List.finRange l.length).toArray.size = l.length by simp] at K
 refine Calls.mono K ?_
 rintro e w' ⟨he, m, os, rfl⟩
 obtain ⟨ts, HT⟩ := hid_ex ((List.finRange l.length).mergeSort fun x y => !(ltOf (cfP l)) y x)
 have hp : ts.Perm (List.finRange l.length) := by rw [← HT.out]; exact List.mergeSort_perm _ _
 have hsrt : ts.Pairwise (fun a b => (!(ltOf (cfP l)) b a) = true) := by
  rw [← HT.out]
  refine List.pairwise_mergeSort (fun a b c h1 h2 => ?_) (fun a b => ?_) _
  ·simp only [Bool.not_eq_true'] at *
   exact (swoP l).ntrans _ _ _ h2 h1
  ·cases k1 : ltOf (cfP l) b a
   ·rfl
   ·cases k2 : ltOf (cfP l) a b
    ·rfl
    ·have := (swoP l).trans _ _ _ k1 k2
     rw [(swoP l).irrefl] at this
     cases this
 have hnd : ts.Nodup := hp.nodup_iff.2 (List.nodup_finRange _)
 have htl : ts.length = l.length := by rw [hp.length_eq, hdl]
 have hmap : ts.map (encP l.length) = iv (ts.map (fun k => k.val + 1)) := by
  unfold iv encP
  rw [List.map_map]
  rfl
 refine ⟨he, ts.map (fun k => k.val + 1), ?_, ?_, ?_, grownBy_srt _⟩
 ·show World.ownsRow (grow (putRow (encP l.length) (Sort.ahead w m) g 0 ((List.finRange l.length).mergeSort fun x y => !(ltOf (cfP l)) y x).toArray) os) _ _ _ _ _ _
  rw [HT.out]
  exact ⟨by rw [iv_len, List.length_map, htl, Nat.mul_one], .inr ⟨g, cap, _, rfl, hbg', heap_srt _ hg, hnc, hcm, by simp [putCells]; omega, by
   have k := take_putCellsP (enc := encP l.length) cur ts (by rw [htl]; omega)
   rw [htl] at k
   rw [Nat.mul_one, k, hmap]⟩⟩
 ·have := hp.map (fun k : Fin l.length => k.val + 1)
  rwa [show (List.finRange l.length).map (fun k : Fin l.length => k.val + 1) = plc l.length by
   apply List.ext_getElem
   ·simp [plc]
   ·intro i h1 h2
    simp [plc]] at this
 ·rw [List.pairwise_map, List.pairwise_iff_getElem]
  intro i j hi hj hij
  have a1 := (List.pairwise_iff_getElem.1 hsrt) i j hi hj hij
  have a2 := (List.pairwise_iff_getElem.1 hnd) i j hi hj hij
  simp only [Bool.not_eq_true'] at a1
  apply Classical.byContradiction
  intro hne
  have a3 : ltOf (cfP l) ts[i] ts[j] = false := by
   cases k : ltOf (cfP l) ts[i] ts[j]
   ·rfl
   ·exact absurd (ltP _ _ |>.1 k) hne
  exact a2 (totP _ _ a3 a1)
theorem own_none (w : World) (B e S : Nat) : w.ownsRow B e S (.slice none 0 0) 0 [] := ⟨by simp, .inl ⟨rfl, rfl⟩⟩
theorem rising_any (v : Value) (l : List El) (w : World) (h : EHas w v l) (hl : l.length ≤ 100) : Calls Tryz.prog 242 #[v] w (RsPost l w) := by
 obtain ⟨p, c, rfl⟩ := h.slice
 have hbA := bel_alloc (Below.refl w.heap.size w) (.cells #[.slice p l.length c] 25)
 have R := rw_new w 25 #[.slice p l.length c]
 have hsz : (w.alloc (.cells #[.slice p l.length c] 25)).heap.size = w.heap.size + 1 := by simp
 have HE : Hid (EHas (w.alloc (.cells #[.slice p l.length c] 25)) (.slice p l.length c) l) := h.later hbA
 have HG : Hid (∀ a n c', Value.slice p l.length c = .slice (some a) n c' → 0 < l.length → a.block < w.heap.size) := fun a n c' e hn => by
  obtain ⟨ys, hys, hS, _⟩ := h
  obtain ⟨g, o, e1, hd⟩ := hS.at hn
  have hy : 0 < ys.length := by rw [← hys, List.length_map] at hn; exact hn
  have hc := hd 0 _ (rows_at El.len ys 0 hy 0 _ rfl)
  rw [e1] at e
  simp only [Value.slice.injEq, Option.some.injEq] at e
  rw [← e.1]
  unfold World.cell? at hc
  rcases Nat.lt_or_ge g w.heap.size with h | h
  ·exact h
  ·simp only at hc
   rw [Array.getElem?_eq_none h] at hc
   cases hc
 obtain ⟨i0, hi, hz0, hz1, hz2⟩ := info_parts info3
 have cl : (w.alloc (.cells #[.slice p l.length c] 25)).cell? ⟨w.heap.size, 0, none⟩ = some (.slice p l.length c) := R.cell 0
 generalize hW : w.alloc (.cells #[.slice p l.length c] 25) = w0 at hbA R hsz HE cl
 clear h
 go_enter Tryz.func242, Tryz.ntmps242
 go_wp2_with (first | rw [hW])
 clear hW cl
 go_loopw [3, 7] (fun vs vi wr => ∃ k : Nat, vi = .int .i64 k ∧ k ≤ l.length ∧ wr.ownsRow (w.heap.size + 1) 3 1 vs k (iv (plc k)) ∧ Below w0.heap.size w0 wr) (fun _ vi _ => l.length - (intOf vi).toNat)
 case atStart => exact ⟨0, rfl, by omega, own_none _ _ _ _, Below.refl _ _⟩
 case round =>
  obtain ⟨k, rfl, hk, ho, hbel⟩ := hrel
  obtain ⟨q, d, rfl⟩ := own_sl ho
  by_cases hlt : k < l.length
  ·have hlt' : (k : Int) < (l.length : Int) := by omega
   have w3 : IntKind.i64.wrap ((k : Int) + 1) = ((k : Int) + 1) := by rw [IntKind.wrap_i64]; omega
   have hB : w.heap.size + 1 ≤ wr.heap.size := by have := hbel.size; omega
   have hbn := bel_alloc (Below.refl wr.heap.size wr) (.cells #[.int .i64 ((k : Int) + 1)] 3)
   have ho1 := own_later ho hbn
   have hB1 := Nat.le_trans hB hbn.size
   have HC : Hid (∀ j u, [Value.int .i64 ((k : Int) + 1)][j]? = some u → (wr.alloc (.cells #[.int .i64 ((k : Int) + 1)] 3)).cell? ((⟨wr.heap.size, 0, none⟩ : Addr).add j) = some u) := fun j u hu => by
    have Rn := rw_new wr 3 #[.int .i64 ((k : Int) + 1)]
    match j, hu with
    | 0, hu => exact (Rn.cell 0).trans hu
    | j + 1, hu => simp at hu
   have hm1 : k + 1 ≤ maxLen := by simp [maxLen]; omega
   have hm2 : (k + 1) * 8 ≤ 140737488355328 := by omega
   generalize hWn : wr.alloc (.cells #[.int .i64 ((k : Int) + 1)] 3) = wn at hbn ho1 hB1 HC
   go_wp2_with (first | rw [hWn] | (at_builtin; refine wpList_append_own _ rfl _ _ 129 rfl (w.heap.size + 1) 3 i0 (.int .i64 0) 1 8 Tryz.underlying129 hi hz0 hz1 hz2 rfl (by decide) _ _ _ rfl ho1 ⟨wr.heap.size, 0, none⟩ 1 1 [.int .i64 ((k : Int) + 1)] rfl rfl HC.out (by simp [Value.oneCell']) hm1 hm2 hB1 ?_))
   intro v2 w2 ho2 hg2 _
   have hg3 : Below (w.heap.size + 1) wn w2 := (Below.refl _ wn).grown hg2 hB1 (fun q hq => (World.ownsRow.lt ho1 q hq).1)
   have hb2 : Below w0.heap.size w0 w2 := (below_on hbel hbn).trans (by rw [hsz]; exact hg3)
   obtain ⟨q2, d2, rfl⟩ := own_sl ho2
   have ho3 : w2.ownsRow (w.heap.size + 1) 3 1 (.slice q2 (k + 1) d2) (k + 1) (iv (plc (k + 1))) := by
    rw [plc_succ]
    unfold iv
    rw [List.map_append]
    exact ho2
   clear ho2 hg2 hg3 HC ho1 hbn hWn
   go_wp2_with fail
   go_roundw
   case rel => exact ⟨k + 1, by simp, by omega, ho3, hb2⟩
   case measure => simp [intOf]; omega
  ·have hlt' : ¬ (k : Int) < (l.length : Int) := by omega
   obtain rfl : k = l.length := by omega
   have hb0 := below_on hbA hbel
   rcases Nat.eq_zero_or_pos l.length with hz | hpos
   ·have HF : Hid (∀ w', w' = wr → RsPost l w (.returned (.slice q l.length d)) w') := fun w' e => by
     subst e
     refine ⟨_, [], rfl, ?_, ?_, List.Pairwise.nil, hb0⟩
     ·have := own_mono ho (show w.heap.size ≤ w.heap.size + 1 by omega)
      rw [hz] at this ⊢
      exact this
     ·rw [hz]
      exact List.Perm.refl _
    have K : Calls Tryz.prog 244 #[.slice q l.length d, .func (.func 245) #[] #[.pointer (some ⟨w.heap.size, 0, none⟩)]] wr fun e w' => e = .returned (.tuple #[]) ∧ w' = wr := by
     rw [hz]
     exact AnyF.slices_SortFunc_none (P := Tryz.prog) (ρ := sortL_ren) { sortL with } q d (.func (.func 245) #[] #[.pointer (some ⟨w.heap.size, 0, none⟩)]) wr
    clear ho hz
    go_wp2_with fail
    refine K.mono ?_
    rintro e w' ⟨rfl, rfl⟩
    go_wp2_with fail
    go_ret
    exact HF.out _ rfl
   ·obtain ⟨g, rfl, hBg⟩ := own_some ho hpos
    have hgl := (own_ge ho).2
    have K := sortP l _ w.heap.size g d wr (w.heap.size + 1) (HE.out.later hbel) hpos hl ((R.later hbel).cell 0) (by have := hbel.size; omega) (by omega) (fun a n c' e => by have := HG.out a n c' e hpos; omega) ho
    go_wp2_with fail
    refine K.mono ?_
    clear K
    rintro e w' ⟨rfl, ps, ho', hpm, hps, hgr⟩
    have HF : Hid (RsPost l w (.returned (.slice (some ⟨g, 0, none⟩) l.length d)) w') := ⟨_, ps, rfl, own_mono ho' (by omega), hpm, hps, hb0.grown hgr (by have := hbel.size; omega) (fun q hq => by cases hq; omega)⟩
    clear ho' hpm hps hgr ho
    go_wp2_with fail
    go_ret
    exact HF.out
end Go.Proofs.YtjbbmcommnhgeaaGreat
