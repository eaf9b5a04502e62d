import Derived.Test.YtjbbmcommnhgeaaGreatPc1
import Derived.Sort.KeysCollected
set_option maxRecDepth 100000
set_option maxHeartbeats 8000000
namespace Go.Proofs.YtjbbmcommnhgeaaGreat.Tame
open Go.RowKit
section
variable {P : Program} {ops : Array Oper} {Q : Exit → Act → World → Prop} {md : Region.Mode} {S : World → Prop} {T : Value → World → Prop} {K : Act → Prop}
def Goes (P : Program) (S : World → Prop) (T : Value → World → Prop) (V : Value → Prop) (o : Oper) (a : Act) : Prop :=
 ∀ w, S w → (∀ t, Operand.tmp t ∈ o.op.operands → T (a.eval (.tmp t)) w) → match (execOp a.eval o).run P w with
 | .ok (.value u) w' => V u ∧ T u w' ∧ Below w.heap.size w w'
 | .ok (.enter f args) w' => Calls P f args w' fun e w'' => ∃ u, e = .returned u ∧ V u ∧ T u w'' ∧ Below w.heap.size w w''
 | _ => False
def Tame (P : Program) (ops : Array Oper) (S : World → Prop) (T : Value → World → Prop) (o : Oper) (V : Value → Prop) (a : Act) : Prop :=
 (Region.wanted o (yielded ops a.tmps) = true ∧ Goes P S T V o a) ∨ (Region.wanted o (yielded ops a.tmps) = false ∧ V undef)
theorem Tame.of_put {o : Oper} {V : Value → Prop} {a : Act} (hs : ∀ cs b, o.op ≠ .select cs b) (dst : Option Tmp) (v : Value) (h : ∀ d, dst = some d → d ∉ o.looksAt ops) :
  Tame P ops S T o V (a.put dst v) ↔ Tame P ops S T o V a := by
 have hx : ∀ t, Operand.tmp t ∈ o.op.operands → (a.put dst v).eval (.tmp t) = a.eval (.tmp t) := fun t ht => Act.eval_put fun d hd hxd => h d hd (by
  cases hxd
  exact List.mem_append_left _ (List.mem_filterMap.2 ⟨.tmp t, by simpa using ht, rfl⟩))
 unfold Tame Goes
 rw [execOp_put o hs a dst v h, wanted_put o a dst v h]
 have e : ∀ w, (∀ t, Operand.tmp t ∈ o.op.operands → T ((a.put dst v).eval (.tmp t)) w) ↔ (∀ t, Operand.tmp t ∈ o.op.operands → T (a.eval (.tmp t)) w) := fun w =>
  ⟨fun H t ht => by have := H t ht; rwa [hx t ht] at this, fun H t ht => by rw [hx t ht]; exact H t ht⟩
 simp only [e]
def Known (T : Value → World → Prop) (a : Act) (w : World) : Prop := ∀ t, T (a.tmps.getD t undef) w
theorem Known.put {a : Act} {w w' : World} (hT : ∀ v w w', T v w → Below w.heap.size w w' → T v w') (h : Known T a w) (hb : Below w.heap.size w w') (dst : Option Tmp) {u : Value} (hu : T u w') : Known T (a.put dst u) w' := by
 intro t
 cases dst with
 | none => exact hT _ _ _ (h t) hb
 | some d =>
  by_cases hd : d = t
  ·subst hd
   simp only [Act.put, Array.getD_eq_getD_getElem?]
   rcases Nat.lt_or_ge d a.tmps.size with hlt | hge
   ·simp [hlt]; exact hu
   ·have := hT _ _ _ (h d) hb
    simpa [Array.getD_eq_getD_getElem?, hge] using this
  ·simp only [Act.put, Array.getD_eq_getD_getElem?, Array.getElem?_setIfInBounds_ne hd]
   have := hT _ _ _ (h t) hb
   simpa [Array.getD_eq_getD_getElem?] using this
theorem Tame.wpOp {i : Nat} {o : Oper} {V : Value → Prop} {a : Act} (hi : ops[i]? = some o) (hy : Tame P ops S T o V a) (hS : Calm.Stays S) (hT : ∀ v w w', T v w → Below w.heap.size w w' → T v w') (h0 : ∀ w, T undef w)
  {K : Act → World → Prop} {w : World} (hw : S w) (hk : Known T a w) (h : ∀ v w', V v → S w' → Known T (a.put o.dst v) w' → K (a.put o.dst v) w') : Go.wpOp P ops Q i K a w := by
 unfold Go.wpOp
 simp only [hi]
 rcases hy with ⟨hwd, hv⟩ | ⟨hwd, hv⟩
 ·simp only [hwd, if_true, Oper.wp]
  refine .inl ?_
  have hv' := hv w hw (fun t _ => hk t)
  generalize (execOp a.eval o).run P w = r at hv'
  cases r with
  | ok n w' =>
   cases n <;> simp only at hv' ⊢
   case value u => exact h _ _ hv'.1 (hS _ _ hw hv'.2.2) (hk.put hT hv'.2.2 _ hv'.2.1)
   case enter f args =>
    refine Calls.mono hv' fun e w'' he => ?_
    obtain ⟨u, rfl, h1, h2, h3⟩ := he
    exact h _ _ h1 (hS _ _ hw h3) (hk.put hT h3 _ h2)
  | halt x w' => exact hv'.elim
 ·simp only [hwd, Bool.false_eq_true, if_false]
  exact h _ _ hv hw (hk.put hT (Below.refl _ _) _ (h0 w))
def putS (A : Act → Prop) (o : Oper) (V : Value → Prop) : Act → Prop := fun a' => ∃ a v, A a ∧ V v ∧ a' = a.put o.dst v
theorem putS_comm {A : Act → Prop} {x y : Oper} {V W : Value → Prop} (h : ∀ d, x.dst = some d → y.dst ≠ some d) : putS (putS A x V) y W = putS (putS A y W) x V := by
 funext a'
 apply propext
 constructor
 ·rintro ⟨_, u, ⟨a, v, ha, hv, rfl⟩, hu, rfl⟩
  exact ⟨_, v, ⟨a, u, ha, hu, rfl⟩, hv, Act.put_comm a v u h⟩
 ·rintro ⟨_, v, ⟨a, u, ha, hu, rfl⟩, hv, rfl⟩
  exact ⟨_, u, ⟨a, v, ha, hv, rfl⟩, hu, (Act.put_comm a v u h).symm⟩
def anyTame (P : Program) (md : Region.Mode) (ops : Array Oper) (S : World → Prop) (T : Value → World → Prop) (K : Act → Prop) : Nat → Array Bool → (Act → Prop) → Prop
 | 0, listed, A => Region.ready md ops listed = [] ∧ ∀ a, A a → K a
 | fuel + 1, listed, A =>
  (Region.ready md ops listed = [] → ∀ a, A a → K a) ∧
  ∀ i ∈ Region.ready md ops listed, ∃ o V, ops[i]? = some o ∧ (∃ v, V v) ∧ (∀ a, A a → Tame P ops S T o V a) ∧ anyTame P md ops S T K fuel (listed.setIfInBounds i true) (putS A o V)
theorem wpAny_of_tame (hS : Calm.Stays S) (hT : ∀ v w w', T v w → Below w.heap.size w w' → T v w') (h0 : ∀ w, T undef w) (hK : ∀ a w, K a → S w → Known T a w → Q .normal a w) :
  ∀ (fuel : Nat) (listed : Array Bool) (A : Act → Prop) (a : Act) (w : World), A a → S w → Known T a w → anyTame P md ops S T K fuel listed A → wpAny P md ops Q fuel listed a w
 | 0, _, A, a, w, hA, hw, hk, h => ⟨h.1, hK a w (h.2 a hA) hw hk⟩
 | fuel + 1, _, A, a, w, hA, hw, hk, h => ⟨fun hr => hK a w (h.1 hr a hA) hw hk, fun i hi => by
   obtain ⟨o, V, ho, _, hc, hr⟩ := h.2 i hi
   exact (hc a hA).wpOp ho hS hT h0 hw hk fun v w' hv hw' hk' => wpAny_of_tame hS hT h0 hK fuel _ _ _ w' ⟨a, v, hA, hv, rfl⟩ hw' hk' hr⟩
theorem anyTame_first {i : Nat} {oi : Oper} {V : Value → Prop} (hi : ops[i]? = some oi) (hV : ∃ v, V v) (hsel : ∀ (j : Nat) (o : Oper) cs b, ops[j]? = some o → o.op ≠ .select cs b) :
  ∀ (fuel : Nat) (listed : Array Bool) (A : Act → Prop),
   (∀ j oj, ops[j]? = some oj → j ≠ i → listed.getD j true = false → (∀ e ∈ oj.after, Region.binds md e = true → e.on ≠ i) → oi.apart ops oj = true) →
   i ∈ Region.ready md ops listed → (∀ a, A a → Tame P ops S T oi V a) →
   anyTame P md ops S T K fuel (listed.setIfInBounds i true) (putS A oi V) → anyTame P md ops S T K (fuel + 1) listed A := by
 intro fuel
 induction fuel with
 | zero =>
  intro listed A _ hr hy H
  refine ⟨fun h => (by rw [h] at hr; cases hr), fun j hj => ?_⟩
  by_cases hji : j = i
  ·subst hji; exact ⟨oi, V, hi, hV, hy, H⟩
  ·have := ready_mono hj hji
   rw [H.1] at this
   cases this
 | succ fuel ih =>
  intro listed A hfree hr hy H
  refine ⟨fun h => (by rw [h] at hr; cases hr), fun j hj => ?_⟩
  by_cases hji : j = i
  ·subst hji; exact ⟨oi, V, hi, hV, hy, H⟩
  ·obtain ⟨oj, W, hoj, hW, hcj, hrest⟩ := H.2 j (ready_mono hj hji)
   obtain ⟨hjun, oj', hoj', hall⟩ := mem_ready.1 hj
   obtain rfl : oj = oj' := by rw [hoj] at hoj'; exact Option.some.inj hoj'
   have hnot : ∀ e ∈ oj.after, Region.binds md e = true → e.on ≠ i := fun e he hb heq => by
    have h1 := hall e he hb
    have h0 := (mem_ready.1 hr).1
    rw [heq] at h1
    rcases Nat.lt_or_ge i listed.size with h' | h'
    ·simp [h'] at h0 h1; rw [h0] at h1; cases h1
    ·simp [Array.getElem?_eq_none h'] at h1
   obtain ⟨h1, h2, h3⟩ := Oper.apart_spec (hfree j oj hoj hji hjun hnot)
   have hfree' : ∀ k ok, ops[k]? = some ok → k ≠ i → (listed.setIfInBounds j true).getD k true = false →
     (∀ e ∈ ok.after, Region.binds md e = true → e.on ≠ i) → oi.apart ops ok = true := fun k ok hk hki hun hno => by
    refine hfree k ok hk hki ?_ hno
    by_cases hjk : j = k
    ·subst hjk; exact hjun
    ·rw [getD_set_ne true hjk] at hun; exact hun
   obtain ⟨v0, hv0⟩ := hV
   refine ⟨oj, W, hoj, hW, fun a ha => (Tame.of_put (fun cs b => hsel j oj cs b hoj) oi.dst v0 h1).1 (hcj _ ⟨a, v0, ha, hv0, rfl⟩), ?_⟩
   refine ih (listed.setIfInBounds j true) (putS A oj W) hfree' (ready_mono hr (Ne.symm hji)) ?_ ?_
   ·rintro _ ⟨a, u, ha, _, rfl⟩
    exact (Tame.of_put (fun cs b => hsel i oi cs b hi) oj.dst u h3).2 (hy a ha)
   ·rw [Array.setIfInBounds_comm _ _ hji, ← putS_comm h2]
    exact hrest
def tameList (P : Program) (ops : Array Oper) (S : World → Prop) (T : Value → World → Prop) (K : Act → Prop) : List Oper → (Act → Prop) → Prop
 | [], A => ∀ a, A a → K a
 | o :: l, A => ∃ V, (∃ v, V v) ∧ (∀ a, A a → Tame P ops S T o V a) ∧ tameList P ops S T K l (putS A o V)
theorem anyTame_lex (hs : Region.noSelect ops = true) : ∀ (l : List Oper) (k : Nat) (listed : Array Bool) (A : Act → Prop), (∀ j, l[j]? = ops[k + j]?) →
  Region.lexFrom md ops l.length k listed = true → tameList P ops S T K l A → anyTame P md ops S T K l.length listed A
 | [], _, _, _, _, hB, h => ⟨by simpa [Region.lexFrom] using hB, h⟩
 | o :: l, k, listed, A, hl, hB, h => by
  have h0 : ops[k]? = some o := by simpa using (hl 0).symm
  simp only [List.length_cons, Region.lexFrom, Bool.and_eq_true] at hB
  obtain ⟨⟨hr, hf⟩, hB'⟩ := hB
  obtain ⟨V, hV, hy, hK⟩ := h
  exact anyTame_first h0 hV (Region.noSelect_spec hs) l.length listed A (Region.free_spec h0 hf) (by simpa using hr) hy
   (anyTame_lex hs l (k + 1) _ _ (fun j => by have := hl (j + 1); simpa [Nat.add_assoc, Nat.add_comm 1 j] using this) hB' hK)
def fam {E : Type} (G : E → Prop) (f : E → Act) : Act → Prop := fun a => ∃ p, G p ∧ a = f p
theorem region {id : Nat} {a : Act} {w : World} {l : List Oper} (hm : P.follows .mixedOrders = true) (hB : Region.lexB .any l.toArray = true) (S : World → Prop) (T : Value → World → Prop)
  (hS : Calm.Stays S) (hT : ∀ v w w', T v w → Below w.heap.size w w' → T v w') (h0 : ∀ w, T undef w) (hw : S w.drew) (hk : Known T a w.drew)
  (h : tameList P l.toArray S T (fun a' => ∀ w', S w' → Q .normal a' w') l (fam (fun _ : Unit => True) fun _ => a)) : (Code.region id l.toArray true).wp P Q a w := by
 simp only [Region.lexB, Bool.and_eq_true] at hB
 refine wp_region_any hm (wpAny_of_tame (K := fun a' => ∀ w', S w' → Q .normal a' w') hS hT h0 (fun a w h hS _ => h w hS) _ _ (fam (fun _ : Unit => True) fun _ => a) _ _ ⟨(), trivial, rfl⟩ hw hk ?_)
 have := anyTame_lex (md := .any) hB.1 l 0 (Array.replicate l.toArray.size false) _ (by simp) (by simpa using hB.2) h
 simpa using this
variable {E : Type} {G : E → Prop} {f : E → Act}
theorem tameList_sub : ∀ (l : List Oper) {A B : Act → Prop}, (∀ a, A a → B a) → tameList P ops S T K l B → tameList P ops S T K l A
 | [], _, _, h, hB => fun a ha => hB a (h a ha)
 | _ :: l, _, _, h, ⟨V, hV, hy, hr⟩ => ⟨V, hV, fun a ha => hy a (h a ha), tameList_sub l (fun _ ⟨a, v, ha, hv, e⟩ => ⟨a, v, h a ha, hv, e⟩) hr⟩
theorem fixed {o : Oper} {l : List Oper} (v : Value) (hy : ∀ p, G p → Tame P ops S T o (· = v) (f p)) (h : tameList P ops S T K l (fam G fun p => (f p).put o.dst v)) : tameList P ops S T K (o :: l) (fam G f) :=
 ⟨(· = v), ⟨v, rfl⟩, fun _ ⟨p, hp, e⟩ => e ▸ hy p hp, tameList_sub l (fun _ ⟨_, _, ⟨p, hp, e⟩, hv, e'⟩ => ⟨p, hp, by rw [e', e, hv]⟩) h⟩
theorem fresh {o : Oper} {l : List Oper} (V : Value → Prop) (hV : ∃ v, V v) (hy : ∀ p, G p → Tame P ops S T o V (f p)) (h : tameList P ops S T K l (fam (fun q : E × Value => G q.1 ∧ V q.2) fun q => (f q.1).put o.dst q.2)) : tameList P ops S T K (o :: l) (fam G f) :=
 ⟨V, hV, fun _ ⟨p, hp, e⟩ => e ▸ hy p hp, tameList_sub l (fun _ ⟨_, v, ⟨p, hp, e⟩, hv, e'⟩ => ⟨(p, v), ⟨hp, hv⟩, by rw [e', e]⟩) h⟩
theorem done (h : ∀ p, G p → K (f p)) : tameList P ops S T K [] (fam G f) := fun _ ⟨p, hp, e⟩ => e ▸ h p hp
theorem skip {o : Oper} {l : List Oper} (hw : ∀ p, Region.wanted o (yielded ops (f p).tmps) = false) (h : tameList P ops S T K l (fam G fun p => (f p).put o.dst undef)) : tameList P ops S T K (o :: l) (fam G f) :=
 fixed undef (fun p _ => .inr ⟨hw p, rfl⟩) h
theorem pure {o : Oper} {l : List Oper} {v : Value} (hw : ∀ p, Region.wanted o (yielded ops (f p).tmps) = true) (hv : ∀ p, G p → ∀ w, S w → (execOp (f p).eval o).run P w = .ok (.value v) w) (hT : ∀ w, T v w)
  (h : tameList P ops S T K l (fam G fun p => (f p).put o.dst v)) : tameList P ops S T K (o :: l) (fam G f) :=
 fixed v (fun p hp => .inl ⟨hw p, fun w hS _ => by rw [hv p hp w hS]; exact ⟨rfl, hT w, Below.refl _ _⟩⟩) h
theorem enter1 {o : Oper} {fn : FuncId} {ts : Array TypeId} {x : E → Value} {u : Operand}
  (ho : o.op = .call { callee := .value (.func fn), args := #[u], argTypes := ts }) (hu : ∀ p, (f p).eval u = x p) (hf : Calm.enters P fn = true) (p : E) (w : World) :
  (execOp (f p).eval o).run P w = .ok (.enter fn #[x p]) w := by
 have e : ∀ args, (callFunc fn args).run P w = .ok (.enter fn args) w := fun args => Calm.enters_run hf args w
 rw [← hu p]
 unfold execOp
 simp [ho, go_sem, Act.eval, e]
theorem call1 {o : Oper} {l : List Oper} {r : Value} {fn : FuncId} {ts : Array TypeId} {x : E → Value} {u : Operand} (hw : ∀ p, Region.wanted o (yielded ops (f p).tmps) = true)
  (ho : o.op = .call { callee := .value (.func fn), args := #[u], argTypes := ts }) (hu : ∀ p, (f p).eval u = x p) (hf : Calm.enters P fn = true) (hT : ∀ w, T r w)
  (hc : ∀ p w, G p → S w → (∀ t, Operand.tmp t ∈ o.op.operands → T ((f p).eval (.tmp t)) w) → Calls P fn #[x p] w fun e w' => e = .returned r ∧ Below w.heap.size w w')
  (h : tameList P ops S T K l (fam G fun p => (f p).put o.dst r)) : tameList P ops S T K (o :: l) (fam G f) :=
 fixed r (fun p hp => .inl ⟨hw p, fun w hS ht => by
  rw [enter1 ho hu hf p w]
  exact (hc p w hp hS ht).mono fun e w' he => ⟨r, he.1, rfl, hT w', he.2⟩⟩) h
theorem enter2 {o : Oper} {fn : FuncId} {ts : Array TypeId} {x y : E → Value} {u v : Operand}
  (ho : o.op = .call { callee := .value (.func fn), args := #[u, v], argTypes := ts }) (hu : ∀ p, (f p).eval u = x p) (hv : ∀ p, (f p).eval v = y p) (hf : Calm.enters P fn = true) (p : E) (w : World) :
  (execOp (f p).eval o).run P w = .ok (.enter fn #[x p, y p]) w := by
 have e : ∀ args, (callFunc fn args).run P w = .ok (.enter fn args) w := fun args => Calm.enters_run hf args w
 rw [← hu p]; rw [← hv p]
 unfold execOp
 simp [ho, go_sem, Act.eval, e]
theorem call2 {o : Oper} {l : List Oper} {r : Value} {fn : FuncId} {ts : Array TypeId} {x y : E → Value} {u v : Operand} (hw : ∀ p, Region.wanted o (yielded ops (f p).tmps) = true)
  (ho : o.op = .call { callee := .value (.func fn), args := #[u, v], argTypes := ts }) (hu : ∀ p, (f p).eval u = x p) (hv : ∀ p, (f p).eval v = y p) (hf : Calm.enters P fn = true) (hT : ∀ w, T r w)
  (hc : ∀ p w, G p → S w → (∀ t, Operand.tmp t ∈ o.op.operands → T ((f p).eval (.tmp t)) w) → Calls P fn #[x p, y p] w fun e w' => e = .returned r ∧ Below w.heap.size w w')
  (h : tameList P ops S T K l (fam G fun p => (f p).put o.dst r)) : tameList P ops S T K (o :: l) (fam G f) :=
 fixed r (fun p hp => .inl ⟨hw p, fun w hS ht => by
  rw [enter2 ho hu hv hf p w]
  exact (hc p w hp hS ht).mono fun e w' he => ⟨r, he.1, rfl, hT w', he.2⟩⟩) h
end
end Go.Proofs.YtjbbmcommnhgeaaGreat.Tame
namespace Go.Proofs.YtjbbmcommnhgeaaGreat
open Go.RowKit
def cmpI (x y : Int) : Int := if x < y then -1 else if y < x then 1 else 0
theorem compare_any (x y : Int) (w : World) : Calls Tryz.prog 138 #[.int .i64 x, .int .i64 y] w (Leaves (.int .i64 (cmpI x y)) w) := by
 unfold cmpI
 by_cases h1 : x < y
 ·rw [if_pos h1]
  go_enter Tryz.func138, Tryz.ntmps138
  go_wp2
  go_ret
  exact ⟨rfl, rfl⟩
 ·rw [if_neg h1]
  by_cases h2 : y < x
  ·rw [if_pos h2]
   go_enter Tryz.func138, Tryz.ntmps138
   go_wp2
   go_ret
   exact ⟨rfl, rfl⟩
  ·rw [if_neg h2]
   go_enter Tryz.func138, Tryz.ntmps138
   go_wp2
   go_ret
   exact ⟨rfl, rfl⟩
def or3 (a b c : Int) : Int := if a ≠ 0 then a else if b ≠ 0 then b else c
def Three (w : World) (v : Value) (a b c : Int) : Prop := ∃ g, v = .slice (some ⟨g, 0, none⟩) 3 3 ∧ Rw w g 3 #[.int .i64 a, .int .i64 b, .int .i64 c]
theorem Three.later {w w' : World} {v : Value} {a b c : Int} (h : Three w v a b c) (hb : Below w.heap.size w w') : Three w' v a b c := by
 obtain ⟨g, e, h⟩ := h
 exact ⟨g, e, h.later hb⟩
theorem or_any (v : Value) (a b c : Int) (w : World) (h : Three w v a b c) : Calls Tryz.prog 137 #[v] w (Leaves (.int .i64 (or3 a b c)) w) := by
 obtain ⟨g, rfl, hr⟩ := h
 have c0 : w.cell? ⟨g, 0, none⟩ = some (.int .i64 a) := hr.cell 0
 have c1 : w.cell? ⟨g, 1, none⟩ = some (.int .i64 b) := hr.cell 1
 have c2 : w.cell? ⟨g, 2, none⟩ = some (.int .i64 c) := hr.cell 2
 clear hr
 obtain ⟨z, HZ⟩ : ∃ z, Hid (or3 a b c = z) := ⟨_, rfl⟩
 rw [HZ.out]
 go_enter Tryz.func137, Tryz.ntmps137
 go_wp2
 go_loopw [8] (fun vi wr => ∃ k : Nat, vi = .int .i64 k ∧ k ≤ 3 ∧ wr = w ∧ Hid ((1 ≤ k → a = 0) ∧ (2 ≤ k → b = 0) ∧ (3 ≤ k → c = 0))) (fun vi _ => 3 - (intOf vi).toNat)
 case atStart => exact ⟨0, rfl, by omega, rfl, (show _ ∧ _ from ⟨fun h => by omega, fun h => by omega, fun h => by omega⟩)⟩
 case round =>
  obtain ⟨k, rfl, hk, rfl, HV⟩ := hrel
  have hk3 : k = 0 ∨ k = 1 ∨ k = 2 ∨ k = 3 := by omega
  have hv := HV.out
  rcases hk3 with rfl | rfl | rfl | rfl
  ·by_cases hx : a = 0
   ·have HV2 : Hid ((1 ≤ 1 → a = 0) ∧ (2 ≤ 1 → b = 0) ∧ (3 ≤ 1 → c = 0)) := (show _ ∧ _ from ⟨fun _ => by omega, fun _ => by omega, fun _ => by omega⟩)
    clear hv HV
    rw [hx] at c0
    have HX : Hid (a = 0) := hx
    clear hx
    go_wp2
    go_roundw
    case rel => exact ⟨1, by simp, by omega, by trivial, HV2⟩
    case measure => simp [intOf]
   ·have HR : Hid (z = a) := by
     have e := HZ.out
     unfold or3 at e
     show z = _
     rw [← e]
     rw [if_pos hx]
    clear hv HV HZ
    go_wp2
    go_ret
    exact ⟨by rw [HR.out]; rfl, rfl⟩
  ·by_cases hx : b = 0
   ·have HV2 : Hid ((1 ≤ 2 → a = 0) ∧ (2 ≤ 2 → b = 0) ∧ (3 ≤ 2 → c = 0)) := (show _ ∧ _ from ⟨fun _ => by omega, fun _ => by omega, fun _ => by omega⟩)
    clear hv HV
    rw [hx] at c1
    have HX : Hid (b = 0) := hx
    clear hx
    go_wp2
    go_roundw
    case rel => exact ⟨2, by simp, by omega, by trivial, HV2⟩
    case measure => simp [intOf]
   ·have HR : Hid (z = b) := by
     have e := HZ.out
     unfold or3 at e
     show z = _
     rw [← e]
     rw [if_neg (by omega), if_pos hx]
    clear hv HV HZ
    go_wp2
    go_ret
    exact ⟨by rw [HR.out]; rfl, rfl⟩
  ·by_cases hx : c = 0
   ·have HV2 : Hid ((1 ≤ 3 → a = 0) ∧ (2 ≤ 3 → b = 0) ∧ (3 ≤ 3 → c = 0)) := (show _ ∧ _ from ⟨fun _ => by omega, fun _ => by omega, fun _ => by omega⟩)
    clear hv HV
    rw [hx] at c2
    have HX : Hid (c = 0) := hx
    clear hx
    go_wp2
    go_roundw
    case rel => exact ⟨3, by simp, by omega, by trivial, HV2⟩
    case measure => simp [intOf]
   ·have HR : Hid (z = c) := by
     have e := HZ.out
     unfold or3 at e
     show z = _
     rw [← e]
     rw [if_neg (by omega), if_neg (by omega)]
    clear hv HV HZ
    go_wp2
    go_ret
    exact ⟨by rw [HR.out]; rfl, rfl⟩
  ·have HR : Hid (z = 0) := by
    have e := HZ.out
    unfold or3 at e
    show z = _
    rw [← e, if_neg (by omega), if_neg (by omega)]
    omega
   clear hv HV HZ
   go_wp2
   go_ret
   exact ⟨by rw [HR.out]; rfl, rfl⟩
def ls (p s i q u j : Int) : Bool := decide (p < q ∨ (p = q ∧ (s < u ∨ (s = u ∧ i < j))))
theorem ls_or (p s i q u j : Int) : decide (or3 (cmpI p q) (cmpI s u) (cmpI i j) < 0) = ls p s i q u j := by
 unfold ls or3 cmpI
 rw [decide_eq_decide]
 (repeat' split) <;> omega
def nosl : Value → Bool
 | .slice .. => false
 | _ => true
def isSl (v : Value) : Prop := nosl v = false
def TD (a b c : Int) (v : Value) (w : World) : Prop := nosl v = true ∨ Three w v a b c
theorem sl_three {w : World} {v : Value} {a b c : Int} (h : isSl v) (ht : TD a b c v w) : Three w v a b c := by
 rcases ht with h' | h'
 ·rw [isSl, h'] at h; cases h
 ·exact h'
theorem TD.later {a b c : Int} (v : Value) (w w' : World) (h : TD a b c v w) (hb : Below w.heap.size w w') : TD a b c v w' := by
 rcases h with h | h
 ·exact Or.inl h
 ·exact Or.inr (h.later hb)
theorem three_new (w : World) (a b c : Int) : Three (w.alloc (.cells #[.int .i64 a, .int .i64 b, .int .i64 c] 3)) (.slice (some ⟨w.heap.size, 0, none⟩) 3 3) a b c := ⟨w.heap.size, rfl, rw_new w 3 _⟩
theorem build_three {o : Oper} {ac : Act} {x y z : Operand} {a b c : Int} (ho : o.op = .buildSlice 129 3 #[(0, x), (1, y), (2, z)]) (hx : ac.eval x = .int .i64 a) (hy : ac.eval y = .int .i64 b) (hz : ac.eval z = .int .i64 c) (w : World) :
  (execOp ac.eval o).run Tryz.prog w = .ok (.value (.slice (some ⟨w.heap.size, 0, none⟩) 3 3)) (w.alloc (.cells #[.int .i64 a, .int .i64 b, .int .i64 c] 3)) := by
 unfold execOp
 generalize ac.eval = ρ at hx hy hz
 simp [ho, hx, hy, hz, go_sem]
theorem known_all {a b c : Int} {ac : Act} (h : ac.tmps.toList.all nosl = true) (w : World) : Tame.Known (TD a b c) ac w := by
 intro t
 refine .inl ?_
 rw [Array.getD_eq_getD_getElem?]
 rcases Nat.lt_or_ge t ac.tmps.size with hlt | hge
 ·rw [Array.getElem?_eq_getElem hlt]
  exact List.all_eq_true.1 h _ (by simp)
 ·rw [Array.getElem?_eq_none hge]
  rfl
theorem less_any (p s i q u j : Int) (w : World) : Calls Tryz.prog 107 #[MV p s i, MV q u j] w (Tells (.bool (ls p s i q u j)) w) := by
 rw [← ls_or]
 have C1 : ∀ w, Calls Tryz.prog 138 #[.int .i64 p, .int .i64 q] w (Tells (.int .i64 (cmpI p q)) w) := fun w => (compare_any p q w).mono fun e w' ⟨he, hw⟩ => ⟨he, by rw [hw]; exact Below.refl _ _⟩
 have C2 : ∀ w, Calls Tryz.prog 138 #[.int .i64 s, .int .i64 u] w (Tells (.int .i64 (cmpI s u)) w) := fun w => (compare_any s u w).mono fun e w' ⟨he, hw⟩ => ⟨he, by rw [hw]; exact Below.refl _ _⟩
 have C3 : ∀ w, Calls Tryz.prog 138 #[.int .i64 i, .int .i64 j] w (Tells (.int .i64 (cmpI i j)) w) := fun w => (compare_any i j w).mono fun e w' ⟨he, hw⟩ => ⟨he, by rw [hw]; exact Below.refl _ _⟩
 generalize cmpI p q = a at C1 ⊢
 generalize cmpI s u = b at C2 ⊢
 generalize cmpI i j = c at C3 ⊢
 have C4 : ∀ v w, Three w v a b c → Calls Tryz.prog 137 #[v] w (Tells (.int .i64 (or3 a b c)) w) := fun v w h => (or_any v a b c w h).mono fun e w' ⟨he, hw⟩ => ⟨he, by rw [hw]; exact Below.refl _ _⟩
 generalize or3 a b c = r at C4 ⊢
 have R1 := (rw_new w 50 #[.int .i64 p, .int .i64 s, .int .i64 i]).alloc (.cells #[.int .i64 q, .int .i64 u, .int .i64 j] 50)
 have R2 := rw_next (w.alloc (.cells #[.int .i64 p, .int .i64 s, .int .i64 i] 50)) (b := w.heap.size + 1) (by simp) 50 #[.int .i64 q, .int .i64 u, .int .i64 j]
 have hbel : Below w.heap.size w ((w.alloc (.cells #[.int .i64 p, .int .i64 s, .int .i64 i] 50)).alloc (.cells #[.int .i64 q, .int .i64 u, .int .i64 j] 50)) := bel_alloc (bel_alloc (Below.refl _ _) _) _
 go_enter Tryz.func107, Tryz.ntmps107
 go_wp2_with fail
 generalize (w.alloc (.cells #[.int .i64 p, .int .i64 s, .int .i64 i] 50)).alloc (.cells #[.int .i64 q, .int .i64 u, .int .i64 j] 50) = w0 at R1 R2 hbel ⊢
 have HS : ∀ w', Rw w' w.heap.size 50 #[.int .i64 p, .int .i64 s, .int .i64 i] ∧ Rw w' (w.heap.size + 1) 50 #[.int .i64 q, .int .i64 u, .int .i64 j] ∧ Below w.heap.size w w' → (w'.cell? ⟨w.heap.size, 0, none⟩ = some (.int .i64 p) ∧ w'.cell? ⟨w.heap.size, 1, none⟩ = some (.int .i64 s) ∧ w'.cell? ⟨w.heap.size, 2, none⟩ = some (.int .i64 i) ∧ w'.cell? ⟨w.heap.size + 1, 0, none⟩ = some (.int .i64 q) ∧ w'.cell? ⟨w.heap.size + 1, 1, none⟩ = some (.int .i64 u) ∧ w'.cell? ⟨w.heap.size + 1, 2, none⟩ = some (.int .i64 j)) := fun w' h => ⟨h.1.cell 0, h.1.cell 1, h.1.cell 2, h.2.1.cell 0, h.2.1.cell 1, h.2.1.cell 2⟩
 refine Tame.region (by kernel_rfl) (by kernel_rfl) (fun w' => w'.cell? ⟨w.heap.size, 0, none⟩ = some (.int .i64 p) ∧ w'.cell? ⟨w.heap.size, 1, none⟩ = some (.int .i64 s) ∧ w'.cell? ⟨w.heap.size, 2, none⟩ = some (.int .i64 i) ∧ w'.cell? ⟨w.heap.size + 1, 0, none⟩ = some (.int .i64 q) ∧ w'.cell? ⟨w.heap.size + 1, 1, none⟩ = some (.int .i64 u) ∧ w'.cell? ⟨w.heap.size + 1, 2, none⟩ = some (.int .i64 j) ∧ Below w.heap.size w w') (TD a b c)
  (fun wa wb h hb => ⟨cell_later hb h.1, cell_later hb h.2.1, cell_later hb h.2.2.1, cell_later hb h.2.2.2.1, cell_later hb h.2.2.2.2.1, cell_later hb h.2.2.2.2.2.1, below_on h.2.2.2.2.2.2 hb⟩) TD.later (fun _ => .inl rfl) ⟨R1.cell 0, R1.cell 1, R1.cell 2, R2.cell 0, R2.cell 1, R2.cell 2, hbel.drew⟩ (known_all (by rfl) _) ?_
 clear R1 R2 hbel HS
 refine Tame.pure (v := ?_) (fun _ => by rfl) ?_ ?_ ?_
 rotate_left
 focus (intro p hp w hSw; go_simp <;> rfl)
 focus (intro w; exact .inl rfl)
 simp only [Act.put, List.setIfInBounds_toArray, List.set_cons_zero, List.set_cons_succ]
 refine Tame.pure (v := ?_) (fun _ => by rfl) ?_ ?_ ?_
 rotate_left
 focus (intro p hp w hSw; go_simp <;> rfl)
 focus (intro w; exact .inl rfl)
 simp only [Act.put, List.setIfInBounds_toArray, List.set_cons_zero, List.set_cons_succ]
 refine Tame.pure (v := ?_) (fun _ => by rfl) ?_ ?_ ?_
 rotate_left
 focus (intro p hp w hSw; go_simp <;> rfl)
 focus (intro w; exact .inl rfl)
 simp only [Act.put, List.setIfInBounds_toArray, List.set_cons_zero, List.set_cons_succ]
 refine Tame.pure (v := ?_) (fun _ => by rfl) ?_ ?_ ?_
 rotate_left
 focus (intro p hp w hSw; go_simp <;> rfl)
 focus (intro w; exact .inl rfl)
 simp only [Act.put, List.setIfInBounds_toArray, List.set_cons_zero, List.set_cons_succ]
 refine Tame.pure (v := ?_) (fun _ => by rfl) ?_ ?_ ?_
 rotate_left
 focus (intro p hp w hSw; go_simp <;> rfl)
 focus (intro w; exact .inl rfl)
 simp only [Act.put, List.setIfInBounds_toArray, List.set_cons_zero, List.set_cons_succ]
 refine Tame.pure (v := ?_) (fun _ => by rfl) ?_ ?_ ?_
 rotate_left
 focus (intro p hp w hSw; go_simp <;> rfl)
 focus (intro w; exact .inl rfl)
 simp only [Act.put, List.setIfInBounds_toArray, List.set_cons_zero, List.set_cons_succ]
 refine Tame.call2 (fun _ => by rfl) rfl (fun _ => rfl) (fun _ => rfl) (by kernel_rfl) (fun _ => .inl rfl) (fun _ w _ _ _ => C1 w) ?_
 simp only [Act.put, List.setIfInBounds_toArray, List.set_cons_zero, List.set_cons_succ]
 refine Tame.pure (v := ?_) (fun _ => by rfl) ?_ ?_ ?_
 rotate_left
 focus (intro p hp w hSw; go_simp <;> rfl)
 focus (intro w; exact .inl rfl)
 simp only [Act.put, List.setIfInBounds_toArray, List.set_cons_zero, List.set_cons_succ]
 refine Tame.pure (v := ?_) (fun _ => by rfl) ?_ ?_ ?_
 rotate_left
 focus (intro p hp w hSw; go_simp <;> rfl)
 focus (intro w; exact .inl rfl)
 simp only [Act.put, List.setIfInBounds_toArray, List.set_cons_zero, List.set_cons_succ]
 refine Tame.pure (v := ?_) (fun _ => by rfl) ?_ ?_ ?_
 rotate_left
 focus (intro p hp w hSw; go_simp <;> rfl)
 focus (intro w; exact .inl rfl)
 simp only [Act.put, List.setIfInBounds_toArray, List.set_cons_zero, List.set_cons_succ]
 refine Tame.pure (v := ?_) (fun _ => by rfl) ?_ ?_ ?_
 rotate_left
 focus (intro p hp w hSw; go_simp <;> rfl)
 focus (intro w; exact .inl rfl)
 simp only [Act.put, List.setIfInBounds_toArray, List.set_cons_zero, List.set_cons_succ]
 refine Tame.pure (v := ?_) (fun _ => by rfl) ?_ ?_ ?_
 rotate_left
 focus (intro p hp w hSw; go_simp <;> rfl)
 focus (intro w; exact .inl rfl)
 simp only [Act.put, List.setIfInBounds_toArray, List.set_cons_zero, List.set_cons_succ]
 refine Tame.pure (v := ?_) (fun _ => by rfl) ?_ ?_ ?_
 rotate_left
 focus (intro p hp w hSw; go_simp <;> rfl)
 focus (intro w; exact .inl rfl)
 simp only [Act.put, List.setIfInBounds_toArray, List.set_cons_zero, List.set_cons_succ]
 refine Tame.call2 (fun _ => by rfl) rfl (fun _ => rfl) (fun _ => rfl) (by kernel_rfl) (fun _ => .inl rfl) (fun _ w _ _ _ => C2 w) ?_
 simp only [Act.put, List.setIfInBounds_toArray, List.set_cons_zero, List.set_cons_succ]
 refine Tame.pure (v := ?_) (fun _ => by rfl) ?_ ?_ ?_
 rotate_left
 focus (intro p hp w hSw; go_simp <;> rfl)
 focus (intro w; exact .inl rfl)
 simp only [Act.put, List.setIfInBounds_toArray, List.set_cons_zero, List.set_cons_succ]
 refine Tame.pure (v := ?_) (fun _ => by rfl) ?_ ?_ ?_
 rotate_left
 focus (intro p hp w hSw; go_simp <;> rfl)
 focus (intro w; exact .inl rfl)
 simp only [Act.put, List.setIfInBounds_toArray, List.set_cons_zero, List.set_cons_succ]
 refine Tame.pure (v := ?_) (fun _ => by rfl) ?_ ?_ ?_
 rotate_left
 focus (intro p hp w hSw; go_simp <;> rfl)
 focus (intro w; exact .inl rfl)
 simp only [Act.put, List.setIfInBounds_toArray, List.set_cons_zero, List.set_cons_succ]
 refine Tame.pure (v := ?_) (fun _ => by rfl) ?_ ?_ ?_
 rotate_left
 focus (intro p hp w hSw; go_simp <;> rfl)
 focus (intro w; exact .inl rfl)
 simp only [Act.put, List.setIfInBounds_toArray, List.set_cons_zero, List.set_cons_succ]
 refine Tame.call2 (fun _ => by rfl) rfl (fun _ => rfl) (fun _ => rfl) (by kernel_rfl) (fun _ => .inl rfl) (fun _ w _ _ _ => C3 w) ?_
 simp only [Act.put, List.setIfInBounds_toArray, List.set_cons_zero, List.set_cons_succ]
 refine Tame.fresh isSl ⟨.slice none 0 0, rfl⟩ (fun p hp => .inl ⟨by rfl, fun w hS ht => ?_⟩) ?_
 focus (rw [build_three rfl rfl rfl rfl w]; exact ⟨rfl, .inr (three_new w _ _ _), (Below.refl _ _).alloc (Nat.le_refl _) _⟩)
 simp only [Act.put, List.setIfInBounds_toArray, List.set_cons_zero, List.set_cons_succ]
 refine Tame.call1 (fun _ => by rfl) rfl (fun _ => rfl) (by kernel_rfl) (fun _ => .inl rfl) (fun p w hp hS ht => C4 _ w (sl_three hp.2 (ht 24 (by simp [Op.operands, Call.operands])))) ?_
 simp only [Act.put, List.setIfInBounds_toArray, List.set_cons_zero, List.set_cons_succ]
 refine Tame.pure (v := ?_) (fun _ => by rfl) ?_ ?_ ?_
 rotate_left
 focus (intro p hp w hSw; go_simp <;> rfl)
 focus (intro w; exact .inl rfl)
 simp only [Act.put, List.setIfInBounds_toArray, List.set_cons_zero, List.set_cons_succ]
 refine Tame.pure (v := ?_) (fun _ => by rfl) ?_ ?_ ?_
 rotate_left
 focus (intro p hp w hSw; go_simp <;> rfl)
 focus (intro w; exact .inl rfl)
 simp only [Act.put, List.setIfInBounds_toArray, List.set_cons_zero, List.set_cons_succ]
 refine Tame.done fun p hp w9 hS9 => ?_
 go_wp2
 go_ret
 exact ⟨rfl, by go_split_ands; assumption⟩
theorem refLess_any (p s i q u j : Int) (w : World) : Calls Tryz.prog 63 #[MV p s i, MV q u j] w (Tells (.bool (ls p s i q u j)) w) := by
 obtain ⟨z, HZ⟩ : ∃ z, Hid (ls p s i q u j = z) := ⟨_, rfl⟩
 rw [HZ.out]
 go_enter Tryz.func63, Tryz.ntmps63
 go_wp2
 all_goals
  go_ret
  refine tells_bool ?_ (bel_alloc (bel_alloc (Below.refl _ _) _) _)
  have hz := HZ.out
  unfold ls at hz
  rw [← hz]
  first | (rw [decide_eq_decide]; omega) | grind
def im (i : Int) : Bool := decide (1 ≤ i)
def lt (x y : M) : Bool := ls x.p x.s x.i y.p y.s y.i
def okk (l : List M) (k : Nat) (h : k < l.length) : Bool := im l[k].i && (decide (k = 0) || lt (l[k - 1]'(by omega)) l[k])
def ca (l : List M) : Bool := decide (∀ k (h : k < l.length), okk l k h = true)
theorem ca_iff (l : List M) : ca l = true ↔ ∀ k (h : k < l.length), okk l k h = true := by simp [ca]
theorem ca_not {l : List M} {z : Bool} (HZ : Hid (ca l = z)) {k : Nat} (h : k < l.length) (h' : okk l k h = false) : Hid (z = false) := by
 show z = false
 have hz := HZ.out
 cases z
 ·rfl
 ·rw [(ca_iff l).1 hz k h] at h'
  cases h'
theorem M.len (x : M) : x.cells.length = 3 := rfl
theorem M.elem {w : World} {l : List M} {g o : Nat} (h : w.rangeAt g o (rows M.cells l)) (k : Nat) (hk : k < l.length) : w.rangeAt g (o + k * 3) l[k].cells :=
 range_sub h (k * 3) fun j u hu => rows_at M.len l k hk j u hu
theorem Rw.whole {w : World} {b : Nat} {t : TypeId} {cs : List Value} (h : Rw w b t cs.toArray) : w.rangeAt b 0 cs := h.range 0 cs fun j v hv => by simpa using hv
theorem lt_iff (x y : M) : lt x y = true ↔ x.p < y.p ∨ (x.p = y.p ∧ (x.s < y.s ∨ (x.s = y.s ∧ x.i < y.i))) := by simp [lt, ls]
theorem lt_trans {x y z : M} (h : lt x y = true) (k : lt y z = true) : lt x z = true := by
 rw [lt_iff] at *
 omega
def mk (x y : M) : Bool := decide (x.p = y.p) && decide (x.s = y.s) && decide (x.i = y.i)
theorem mk_iff (x y : M) : mk x y = true ↔ x.p = y.p ∧ x.s = y.s ∧ x.i = y.i := by simp [mk, and_assoc]
theorem lt_total {x y : M} (h : lt x y = false) (k : mk x y = false) : lt y x = true := by
 rw [lt_iff]
 have h1 : ¬ _ := fun e => by rw [(lt_iff x y).2 e] at h; cases h
 have h2 : ¬ _ := fun e => by rw [(mk_iff x y).2 e] at k; cases k
 omega
theorem mk_lt {x y : M} (h : mk x y = true) : lt x y = false := by
 cases k : lt x y
 ·rfl
 ·rw [mk_iff] at h
  rw [lt_iff] at k
  omega
theorem lt_of_not {x y z : M} (h : lt x z = true) (k : lt y z = false) : lt x y = true := by
 have k1 : ¬ _ := fun e => by rw [(lt_iff y z).2 e] at k; cases k
 rw [lt_iff] at *
 omega
theorem ca_pair (l : List M) : ca l = true ↔ (∀ y ∈ l, im y.i = true) ∧ l.Pairwise (fun a b => lt a b = true) := by
 rw [ca_iff]
 constructor
 ·intro h
  refine ⟨fun y hy => ?_, ?_⟩
  ·obtain ⟨k, hk, rfl⟩ := List.getElem_of_mem hy
   have := h k hk
   unfold okk at this
   exact (Bool.and_eq_true _ _ ▸ this).1
  ·rw [List.pairwise_iff_getElem]
   intro i j hi hj hij
   obtain ⟨d, rfl⟩ : ∃ d, j = i + 1 + d := ⟨j - (i + 1), by omega⟩
   clear hij
   have step : ∀ k (hk : k + 1 < l.length), lt l[k] l[k + 1] = true := fun k hk => by
    have := h (k + 1) hk
    unfold okk at this
    simpa using (Bool.and_eq_true _ _ ▸ this).2
   induction d with
   | zero => exact step i hj
   | succ d ih => exact lt_trans (ih (by omega) step) (step (i + 1 + d) (by omega))
 ·rintro ⟨h1, h2⟩ k hk
  unfold okk
  rw [h1 _ (List.getElem_mem _), Bool.true_and]
  rcases Nat.eq_zero_or_pos k with rfl | hp
  ·rfl
  ·rw [List.pairwise_iff_getElem] at h2
   simp [h2 (k - 1) k (by omega) hk (by omega)]
theorem ca_filter {l : List M} (h : ca l = true) (f : M → Bool) : ca (l.filter f) = true := by
 rw [ca_pair] at *
 exact ⟨fun y hy => h.1 y (List.mem_filter.1 hy).1, h.2.filter f⟩
def insF (x : M) (l : List M) : List M := l.filter (fun y => lt y x) ++ x :: l.filter (fun y => !lt y x)
def has (x : M) (l : List M) : Bool := l.any (fun y => mk y x)
theorem has_false {x : M} {l : List M} : has x l = false ↔ ∀ y ∈ l, mk y x = false := by
 unfold has
 rw [List.any_eq_false]
 exact ⟨fun h y hy => by simpa using h y hy, fun h y hy => by simpa using h y hy⟩
theorem insF_length (x : M) (l : List M) : (insF x l).length = l.length + 1 := by
 unfold insF
 rw [List.length_append, List.length_cons]
 induction l with
 | nil => rfl
 | cons y l ih =>
  rw [List.filter_cons, List.filter_cons]
  cases lt y x
  ·simp
   omega
  ·simp
   omega
theorem insF_ca {x : M} {l : List M} (h : ca l = true) (hi : im x.i = true) (hn : has x l = false) : ca (insF x l) = true := by
 rw [has_false] at hn
 rw [ca_pair] at *
 obtain ⟨h1, h2⟩ := h
 refine ⟨fun y hy => ?_, ?_⟩
 ·unfold insF at hy
  rcases List.mem_append.1 hy with h | h
  ·exact h1 y (List.mem_filter.1 h).1
  ·rcases List.mem_cons.1 h with rfl | h
   ·exact hi
   ·exact h1 y (List.mem_filter.1 h).1
 ·unfold insF
  rw [List.pairwise_append]
  refine ⟨h2.filter _, ?_, ?_⟩
  ·rw [List.pairwise_cons]
   refine ⟨fun y hy => ?_, h2.filter _⟩
   obtain ⟨hy1, hy2⟩ := List.mem_filter.1 hy
   exact lt_total (by simpa using hy2) (hn y hy1)
  ·intro y hy z hz
   obtain ⟨hy1, hy2⟩ := List.mem_filter.1 hy
   rcases List.mem_cons.1 hz with rfl | hz
   ·exact hy2
   ·obtain ⟨hz1, hz2⟩ := List.mem_filter.1 hz
    exact lt_of_not hy2 (by simpa using hz2)
theorem insF_at {x : M} {l : List M} {k : Nat} (h1 : ∀ j (h : j < l.length), j < k → lt l[j] x = true) (h2 : ∀ j (h : j < l.length), k ≤ j → lt l[j] x = false) : l.take k ++ x :: l.drop k = insF x l := by
 have e1 : l.filter (fun y => lt y x) = l.take k := by
  conv => lhs; rw [← List.take_append_drop k l]
  rw [List.filter_append, List.filter_eq_self.2, List.filter_eq_nil_iff.2, List.append_nil]
  ·intro y hy
   obtain ⟨j, hj, rfl⟩ := List.getElem_of_mem hy
   rw [List.getElem_drop, h2 _ _ (by omega)]
   simp
  ·intro y hy
   obtain ⟨j, hj, rfl⟩ := List.getElem_of_mem hy
   rw [List.length_take] at hj
   rw [List.getElem_take]
   exact h1 _ _ (by omega)
 have e2 : l.filter (fun y => !lt y x) = l.drop k := by
  conv => lhs; rw [← List.take_append_drop k l]
  rw [List.filter_append, List.filter_eq_nil_iff.2, List.filter_eq_self.2, List.nil_append]
  ·intro y hy
   obtain ⟨j, hj, rfl⟩ := List.getElem_of_mem hy
   rw [List.getElem_drop, h2 _ _ (by omega)]
   rfl
  ·intro y hy
   obtain ⟨j, hj, rfl⟩ := List.getElem_of_mem hy
   rw [List.length_take] at hj
   rw [List.getElem_take, h1 _ _ (by omega)]
   simp
 unfold insF
 rw [e1, e2]
end Go.Proofs.YtjbbmcommnhgeaaGreat
namespace Go.Proofs.YtjbbmcommnhgeaaGreat
open Go.RowKit Go.Sort
abbrev Bs := List UInt8
abbrev bs (x : ByteArray) : Bs := x.data.toList
theorem Bs.irr (a : Bs) : ¬ a < a := List.lt_irrefl a
theorem Bs.le_of {a b : Bs} (h : a < b) : a ≤ b := by
 rcases List.le_total a b with k | k
 ·exact k
 ·exact absurd h (List.not_lt.2 k)
theorem Bs.tri {a b : Bs} (h : ¬ a < b) (k : a ≠ b) : b < a := by
 have h1 : b ≤ a := List.not_lt.1 h
 rcases Classical.em (b < a) with h2 | h2
 ·exact h2
 ·exact absurd (List.le_antisymm (List.not_lt.1 h2) h1) k
theorem Bs.trans {a b c : Bs} (h : a < b) (k : b < c) : a < c := List.lt_trans h k
theorem Bs.asymm {a b : Bs} (h : a < b) : ¬ b < a := fun k => Bs.irr a (Bs.trans h k)
def insT (l : List Bs) (s : Bs) : List Bs := l.filter (fun y => decide (y < s)) ++ s :: l.filter (fun y => !decide (y < s))
def rise (l : List Bs) (s : Bs) : List Bs := if s ∈ l then l else insT l s
def txs (l : List Bs) : List Bs := l.foldl rise []
abbrev up (l : List Bs) : Prop := l.Pairwise (fun a b => a < b)
theorem insT_mem (l : List Bs) (s x : Bs) : x ∈ insT l s ↔ x = s ∨ x ∈ l := by
 unfold insT
 simp only [List.mem_append, List.mem_cons, List.mem_filter]
 by_cases h : x < s
 ·simp [h]
  exact ⟨fun k => k.elim .inr .inl, fun k => k.elim .inr .inl⟩
 ·simp [h]
theorem rise_mem (l : List Bs) (s x : Bs) : x ∈ rise l s ↔ x = s ∨ x ∈ l := by
 unfold rise
 split
 ·rename_i h
  exact ⟨.inr, fun k => k.elim (fun e => e ▸ h) id⟩
 ·exact insT_mem l s x
theorem insT_up {l : List Bs} (h : up l) {s : Bs} (hs : s ∉ l) : up (insT l s) := by
 unfold insT up
 rw [List.pairwise_append]
 refine ⟨h.filter _, ?_, ?_⟩
 ·rw [List.pairwise_cons]
  refine ⟨fun y hy => ?_, h.filter _⟩
  obtain ⟨h1, h2⟩ := List.mem_filter.1 hy
  exact Bs.tri (by simpa using h2) (fun e => hs (e ▸ h1))
 ·intro y hy z hz
  obtain ⟨_, h2⟩ := List.mem_filter.1 hy
  have h2 : y < s := by simpa using h2
  rcases List.mem_cons.1 hz with rfl | hz
  ·exact h2
  ·obtain ⟨h3, h4⟩ := List.mem_filter.1 hz
   exact Bs.trans h2 (Bs.tri (by simpa using h4) (fun e => hs (e ▸ h3)))
theorem rise_up {l : List Bs} (h : up l) (s : Bs) : up (rise l s) := by
 unfold rise
 split
 ·exact h
 ·rename_i hs
  exact insT_up h hs
theorem fold_mem (l : List Bs) : ∀ (m : List Bs) (x : Bs), x ∈ l.foldl rise m ↔ x ∈ l ∨ x ∈ m := by
 induction l with
 | nil => simp
 | cons y l ih =>
  intro m x
  rw [List.foldl_cons, ih, rise_mem, List.mem_cons]
  constructor
  ·rintro (h | h | h)
   ·exact .inl (.inr h)
   ·exact .inl (.inl h)
   ·exact .inr h
  ·rintro ((h | h) | h)
   ·exact .inr (.inl h)
   ·exact .inl h
   ·exact .inr (.inr h)
theorem fold_up (l : List Bs) : ∀ (m : List Bs), up m → up (l.foldl rise m) := by
 induction l with
 | nil => exact fun _ h => h
 | cons y l ih => exact fun m h => ih _ (rise_up h y)
theorem txs_mem (l : List Bs) (x : Bs) : x ∈ txs l ↔ x ∈ l := by
 unfold txs
 rw [fold_mem]
 simp
theorem txs_up (l : List Bs) : up (txs l) := fold_up l [] List.Pairwise.nil
theorem pair_of {α : Type} {R S : α → α → Prop} {l : List α} (h : l.Pairwise R) (hi : ∀ a b, R a b → S a b) : l.Pairwise S := by
 rw [List.pairwise_iff_getElem] at *
 exact fun i j hi' hj hij => hi _ _ (h i j hi' hj hij)
theorem up_nodup {l : List Bs} (h : up l) : l.Nodup := by
 unfold List.Nodup
 exact pair_of h (fun a b k (e : a = b) => Bs.irr a (by rw [← e] at k; exact k))
theorem sorted_txs {ss l : List Bs} (hnd : ss.Nodup) (hm : ∀ x, x ∈ ss ↔ x ∈ l) : ss.mergeSort (fun x y => decide (x ≤ y)) = txs l := by
 have hp : ss.Perm (txs l) := (List.perm_ext_iff_of_nodup hnd (up_nodup (txs_up l))).2 fun x => by rw [hm, txs_mem]
 rw [mergeSort_of_perm hp]
 have tr : ∀ a b c : List UInt8, leB a b = true → leB b c = true → leB a c = true := fun a b c h1 h2 => by simp only [leB, decide_eq_true_eq] at *; exact List.le_trans h1 h2
 have to : ∀ a b : List UInt8, (leB a b || leB b a) = true := fun a b => by simp only [leB, Bool.or_eq_true, decide_eq_true_eq]; exact List.le_total a b
 refine List.Perm.eq_of_pairwise (le := fun a b => leB a b = true) (fun a b _ _ h1 h2 => ?_) (List.pairwise_mergeSort tr to _) (pair_of (txs_up l) (fun a b k => by simp only [leB, decide_eq_true_eq]; exact Bs.le_of k)) (List.mergeSort_perm _ leB)
 simp only [leB, decide_eq_true_eq] at h1 h2
 exact List.le_antisymm h1 h2
def bst (b : Wt) (l : List Wt) : Wt := l.foldl (fun b y => if b.t ≤ y.t then y else b) b
def lastW : List Wt → List Wt
 | [] => []
 | y :: l => [bst y l]
theorem bst_snoc (b : Wt) (l : List Wt) (y : Wt) : bst b (l ++ [y]) = if (bst b l).t ≤ y.t then y else bst b l := by
 unfold bst
 rw [List.foldl_append]
 rfl
theorem bst_mem (b : Wt) (l : List Wt) : bst b l ∈ b :: l := by
 unfold bst
 induction l generalizing b with
 | nil => simp
 | cons y l ih =>
  rw [List.foldl_cons]
  have := ih (if b.t ≤ y.t then y else b)
  rcases List.mem_cons.1 this with h | h
  ·rw [h]
   split <;> simp
  ·simp [h]
theorem lastW_mem {l : List Wt} {y : Wt} (h : y ∈ lastW l) : y ∈ l := by
 cases l with
 | nil => exact h
 | cons b l =>
  simp only [lastW, List.mem_singleton] at h
  rw [h]
  exact bst_mem b l
theorem lastW_length (l : List Wt) : (lastW l).length ≤ 1 := by cases l <;> simp [lastW]
end Go.Proofs.YtjbbmcommnhgeaaGreat
namespace Go.Proofs.YtjbbmcommnhgeaaGreat.Owed
open Go.RowKit
section
variable {P : Program} {ops : Array Oper} {Q : Exit → Act → World → Prop} {md : Region.Mode}
def upd (L : Nat → Bool) (i : Nat) : Nat → Bool := fun j => decide (j = i) || L j
theorem upd_self (L : Nat → Bool) (i : Nat) : upd L i i = true := by simp [upd]
theorem upd_ne (L : Nat → Bool) {i j : Nat} (h : j ≠ i) : upd L i j = L j := by simp [upd, h]
def each (R : Nat → Oper → Prop) : Nat → List Oper → Prop
 | _, [] => True
 | k, o :: l => R k o ∧ each R (k + 1) l
theorem each_at {R : Nat → Oper → Prop} (l : List Oper) : ∀ (k i : Nat) (o : Oper), each R k l → l[i]? = some o → R (k + i) o := by
 induction l with
 | nil => intro k i o _ hi; simp at hi
 | cons x l ih =>
  intro k i o h hi
  cases i with
  | zero =>
   simp at hi
   subst hi
   exact h.1
  | succ i =>
   have := ih (k + 1) i o h.2 (by simpa using hi)
   rwa [show k + 1 + i = k + (i + 1) by omega] at this
def downB (md : Region.Mode) (l : List Oper) : Bool := l.zipIdx.all fun (o, i) => o.guard.isNone && o.after.all fun e => !Region.binds md e || decide (e.on < i)
theorem downB_spec {l : List Oper} (h : downB md l = true) {i : Nat} {o : Oper} (hi : l[i]? = some o) : o.guard = none ∧ ∀ e ∈ o.after, Region.binds md e = true → e.on < i := by
 have hm : (o, i) ∈ l.zipIdx := by
  rw [List.mem_zipIdx_iff_getElem?]
  exact hi
 have := List.all_eq_true.1 h _ hm
 simp only [Bool.and_eq_true, Option.isNone_iff_eq_none] at this
 exact ⟨this.1, fun e he hb => by have := Array.all_eq_true_iff_forall_mem.1 this.2 e he; simpa [hb] using this⟩
theorem ready_of_least {l : List Oper} (h : downB md l = true) {listed : Array Bool} (hs : listed.size = l.length) {n : Nat} (hn : n < l.length) (hun : listed.getD n true = false) : ∃ j, j ∈ Region.ready md l.toArray listed := by
 induction n using Nat.strongRecOn with
 | _ n ih =>
  by_cases hall : ∀ m, m < n → listed.getD m true = true
  ·refine ⟨n, mem_ready.2 ⟨hun, l[n], by simp, fun e he hbd => ?_⟩⟩
   have hlt := (downB_spec h (List.getElem?_eq_getElem hn)).2 e he hbd
   have := hall e.on hlt
   have hb : e.on < listed.size := by omega
   simpa [hb] using this
  ·simp only [Classical.not_forall] at hall
   obtain ⟨m, hm, hf⟩ := hall
   exact ih m hm (by omega) (by simpa using hf)
def left (listed : Array Bool) : Nat := listed.toList.count false
theorem left_set {listed : Array Bool} {i : Nat} (h : listed.getD i true = false) : left (listed.setIfInBounds i true) + 1 = left listed := by
 rcases Nat.lt_or_ge i listed.size with hlt | hge
 ·have hv : listed.toList[i]'(by simpa using hlt) = false := by simpa [hlt] using h
  unfold left
  have hpos : 0 < listed.toList.count false := List.count_pos_iff.2 (hv ▸ List.getElem_mem _)
  rw [Array.toList_setIfInBounds, List.count_set (by simpa using hlt), hv, if_pos (show (false == false) = true from rfl), if_neg (by decide)]
  omega
 ·simp [Array.getElem?_eq_none hge] at h
def Step (P : Program) (md : Region.Mode) (Q : Exit → Act → World → Prop) (I : (Nat → Bool) → Act → World → Prop) (i : Nat) (o : Oper) : Prop :=
 ∀ L a w, I L a w → L i = false → (∀ e ∈ o.after, Region.binds md e = true → L e.on = true) → o.wp P a w (fun a' w' => I (upd L i) a' w') Q
theorem wpAny_owed {l : List Oper} {I : (Nat → Bool) → Act → World → Prop} (hd : downB md l = true) (hI : ∀ L L' a w, (∀ i, i < l.length → L i = L' i) → I L a w → I L' a w) (hstep : each (Step P md Q I) 0 l)
  (hend : ∀ L a w, (∀ i, i < l.length → L i = true) → I L a w → Q .normal a w) :
  ∀ (fuel : Nat) (listed : Array Bool) (a : Act) (w : World), listed.size = l.length → left listed ≤ fuel → I (fun i => listed.getD i true) a w → wpAny P md l.toArray Q fuel listed a w := by
 have fin : ∀ (listed : Array Bool) (a : Act) (w : World), listed.size = l.length → Region.ready md l.toArray listed = [] → I (fun i => listed.getD i true) a w → Q .normal a w := fun listed a w hs hr h => by
  refine hend _ a w (fun i hi => ?_) h
  cases hv : listed.getD i true
  ·obtain ⟨j, hj⟩ := ready_of_least (md := md) hd hs hi hv
   rw [hr] at hj
   cases hj
  ·rfl
 intro fuel
 induction fuel with
 | zero =>
  intro listed a w hs hl h
  have hr : Region.ready md l.toArray listed = [] := by
   cases hr : Region.ready md l.toArray listed with
   | nil => rfl
   | cons i r =>
    have hun := (mem_ready.1 (show i ∈ Region.ready md l.toArray listed by rw [hr]; simp)).1
    have := left_set hun
    omega
  exact ⟨hr, fin listed a w hs hr h⟩
 | succ fuel ih =>
  intro listed a w hs hl h
  refine ⟨fun hr => fin listed a w hs hr h, fun i hi => ?_⟩
  obtain ⟨hun, o, ho, hall⟩ := mem_ready.1 hi
  have ho' : l[i]? = some o := by simpa using ho
  have hilt : i < l.length := (List.getElem?_eq_some_iff.1 ho').1
  have hg := (downB_spec hd ho').1
  have hst := each_at l 0 i o hstep ho'
  rw [Nat.zero_add] at hst
  unfold wpOp
  simp only [ho, Region.wanted, hg, if_true]
  refine .inl (Oper.wp_mono (fun a' w' h' => ?_) (hst (fun i => listed.getD i true) a w h hun (fun e he hb => ?_)))
  ·refine ih _ a' w' (by simp [hs]) (by have := left_set hun; omega) (hI _ _ a' w' (fun j hj => ?_) h')
   by_cases hji : j = i
   ·subst hji
    rw [upd_self]
    have : j < listed.size := by omega
    simp [this]
   ·rw [upd_ne _ hji, getD_set_ne true (Ne.symm hji)]
  ·have h1 := hall e he hb
   rcases Nat.lt_or_ge e.on listed.size with h' | h'
   ·simpa [h'] using h1
   ·simp [Array.getElem?_eq_none h'] at h1
theorem region {id : Nat} {a : Act} {w : World} {l : List Oper} (hm : P.follows .mixedOrders = true) (hd : downB .any l = true) (I : (Nat → Bool) → Act → World → Prop)
  (hI : ∀ L L' a w, (∀ i, i < l.length → L i = L' i) → I L a w → I L' a w) (h0 : ∀ L, (∀ i, i < l.length → L i = false) → I L a w.drew) (hstep : each (Step P .any Q I) 0 l)
  (hend : ∀ L a w, (∀ i, i < l.length → L i = true) → I L a w → Q .normal a w) : (Code.region id l.toArray true).wp P Q a w := by
 refine wp_region_any hm ?_
 have := wpAny_owed (md := .any) (Q := Q) hd hI hstep hend l.toArray.size (Array.replicate l.toArray.size false) a w.drew (by simp) (by simp [left]) (h0 _ (fun i hi => by simp [hi]))
 exact this
end
end Go.Proofs.YtjbbmcommnhgeaaGreat.Owed
namespace Go.Proofs.YtjbbmcommnhgeaaGreat.Facts
open Go.RowKit
abbrev Fact := List Nat × (List Value → World → Prop)
def holds (f : Fact) (x : Nat → Value) (w : World) : Prop := f.2 (f.1.map x) w
def put (x : Nat → Value) (i : Nat) (u : Value) : Nat → Value := fun j => if j = i then u else x j
section
variable {P : Program} {Q : Exit → Act → World → Prop} {S : World → Prop} {md : Region.Mode} {A : (Nat → Value) → Act} {F : List Fact} {l : List Oper}
def nearB (md : Region.Mode) (l : List Oper) (D : List (List Nat)) : Bool := (l.zip D).zipIdx.all fun p => p.1.2.all fun k => k == p.2 || p.1.1.after.any fun e => e.on == k && Region.binds md e
theorem nearB_spec {D : List (List Nat)} (h : nearB md l D = true) {i : Nat} {o : Oper} {d : List Nat} (hi : l[i]? = some o) (hf : D[i]? = some d) {k : Nat} (hk : k ∈ d) : k = i ∨ ∃ e ∈ o.after, e.on = k ∧ Region.binds md e = true := by
 have hm : ((o, d), i) ∈ (l.zip D).zipIdx := by
  rw [List.mem_zipIdx_iff_getElem?]
  simp [List.getElem?_zip_eq_some, hi, hf]
 have := List.all_eq_true.1 h _ hm
 have := List.all_eq_true.1 this _ hk
 simp only [Bool.or_eq_true, beq_iff_eq] at this
 rcases this with h | h
 ·exact .inl h
 ·rw [Array.any_eq_true] at h
  obtain ⟨j, hj, h⟩ := h
  simp only [Bool.and_eq_true, beq_iff_eq] at h
  exact .inr ⟨o.after[j], by simp, h.1, h.2⟩
def StepOk (P : Program) (md : Region.Mode) (Q : Exit → Act → World → Prop) (S : World → Prop) (A : (Nat → Value) → Act) (F : List Fact) (i : Nat) (o : Oper) : Prop :=
 ∀ x w, S w → (∀ e ∈ o.after, Region.binds md e = true → ∀ f, F[e.on]? = some f → holds f x w) →
  o.wp P (A x) w (fun a' w' => ∃ u, a' = A (put x i u) ∧ S w' ∧ (∀ f, F[i]? = some f → holds f (put x i u) w') ∧ (∀ j f, j ≠ i → F[j]? = some f → holds f x w → holds f x w')) Q
def Inv (md : Region.Mode) (l : List Oper) (S : World → Prop) (A : (Nat → Value) → Act) (F : List Fact) (L : Nat → Bool) (a : Act) (w : World) : Prop :=
 S w ∧ (∀ i o, l[i]? = some o → L i = true → ∀ e ∈ o.after, Region.binds md e = true → L e.on = true) ∧ ∃ x, a = A x ∧ ∀ i f, i < l.length → F[i]? = some f → L i = true → holds f x w
theorem each_imp {R R' : Nat → Oper → Prop} : ∀ (l : List Oper) (k : Nat), Owed.each R k l → (∀ i o, l[i]? = some o → R (k + i) o → R' (k + i) o) → Owed.each R' k l
 | [], _, _, _ => trivial
 | o :: l, k, h, hi => ⟨hi 0 o rfl h.1, each_imp l (k + 1) h.2 (fun i o' ho hr => by
   have := hi (i + 1) o' (by simpa using ho)
   rw [show k + (i + 1) = k + 1 + i by omega] at this
   exact this hr)⟩
theorem region {id : Nat} {a : Act} {w : World} (hm : P.follows .mixedOrders = true) (hd : Owed.downB .any l = true) (S : World → Prop) (A : (Nat → Value) → Act) (F : List Fact) (D : List (List Nat)) (hD : F.map (·.1) = D) (hl : nearB .any l D = true)
  (x0 : Nat → Value) (hA : a = A x0) (h0 : S w.drew) (hstep : Owed.each (StepOk P .any Q S A F) 0 l)
  (hend : ∀ x w', S w' → (∀ i f, i < l.length → F[i]? = some f → holds f x w') → Q .normal (A x) w') : (Code.region id l.toArray true).wp P Q a w := by
 refine Owed.region hm hd (Inv .any l S A F) ?_ ?_ (each_imp l 0 hstep ?_) ?_
 ·rintro L L' a w hL ⟨hS, hc, x, hx, hf⟩
  refine ⟨hS, fun i o hi hLi e he hb => ?_, x, hx, fun i f hi hfi hLi => hf i f hi hfi ((hL i hi).trans hLi)⟩
  have hilt : i < l.length := (List.getElem?_eq_some_iff.1 hi).1
  have := (Owed.downB_spec hd hi).2 e he hb
  rw [← hL e.on (by omega)]
  exact hc i o hi ((hL i hilt).trans hLi) e he hb
 ·intro L hL
  refine ⟨h0, fun i o hi hLi => ?_, x0, hA, fun i f hi _ hLi => ?_⟩
  ·rw [hL i (List.getElem?_eq_some_iff.1 hi).1] at hLi; cases hLi
  ·rw [hL i hi] at hLi; cases hLi
 ·intro i o hi hok
  rw [Nat.zero_add] at hok ⊢
  rintro L a w ⟨hS, hc, x, rfl, hf⟩ hLi hdep
  refine Oper.wp_mono (fun a' w' h => ?_) (hok x w hS (fun e he hb f hfe => ?_))
  ·obtain ⟨u, rfl, hS', hfi, hoth⟩ := h
   refine ⟨hS', fun j o' hj hLj e he hb => ?_, put x i u, rfl, fun j f hj hfj hLj => ?_⟩
   ·by_cases e1 : j = i
    ·subst e1
     obtain rfl : o = o' := by rw [hi] at hj; exact Option.some.inj hj
     have := hdep e he hb
     unfold Owed.upd
     simp [this]
    ·rw [Owed.upd_ne L e1] at hLj
     have := hc j o' hj hLj e he hb
     unfold Owed.upd
     simp [this]
   ·by_cases e1 : j = i
    ·subst e1; exact hfi f hfj
    ·rw [Owed.upd_ne L e1] at hLj
     have h1 := hoth j f e1 hfj (hf j f hj hfj hLj)
     have e2 : f.1.map (put x i u) = f.1.map x := by
      apply List.map_congr_left
      intro k hk
      have hj' : l[j]? = some l[j] := List.getElem?_eq_getElem hj
      have hki : k ≠ i := by
       rcases nearB_spec hl hj' (by rw [← hD, List.getElem?_map, hfj]; rfl) hk with rfl | ⟨e, he, rfl, hb⟩
       ·exact e1
       ·intro h2
        have := hc j _ hj' hLj e he hb
        rw [h2, hLi] at this; cases this
      simp [put, hki]
     unfold holds at *
     rw [e2]
     exact h1
  ·have h1 := (Owed.downB_spec hd hi).2 e he hb
   have h2 : i < l.length := (List.getElem?_eq_some_iff.1 hi).1
   exact hf e.on f (by omega) hfe (hdep e he hb)
 ·rintro L a w hL ⟨hS, _, x, rfl, hf⟩
  exact hend x w hS fun i f hi hfi => hf i f hi hfi (hL i hi)
def Stay (F : List Fact) : Prop := ∀ (j : Nat) (f : Fact), F[j]? = some f → ∀ vs w w', f.2 vs w → Below w.heap.size w w' → f.2 vs w'
theorem step {i : Nat} {o : Oper} (hS : Calm.Stays S) (hF : Stay F) (hA : ∀ x u, (A x).put o.dst u = A (put x i u))
  (h : ∀ x w, S w → (∀ e ∈ o.after, Region.binds md e = true → ∀ f, F[e.on]? = some f → holds f x w) →
   o.wp P (A x) w (fun a' w' => ∃ u, a' = (A x).put o.dst u ∧ Below w.heap.size w w' ∧ ∀ f, F[i]? = some f → holds f (put x i u) w') Q) : StepOk P md Q S A F i o := by
 intro x w hSw hdep
 refine Oper.wp_mono (fun a' w' h => ?_) (h x w hSw hdep)
 obtain ⟨u, rfl, hb, hf⟩ := h
 exact ⟨u, hA x u, hS _ _ hSw hb, hf, fun j f _ hj hh => hF j f hj _ _ _ hh hb⟩
theorem pure {i : Nat} {o : Oper} {v : Value} (hS : Calm.Stays S) (hF : Stay F) (hA : ∀ x u, (A x).put o.dst u = A (put x i u)) (hf : F[i]? = some ([i], fun vs _ => vs = [v]))
  (h : ∀ x w, S w → (∀ e ∈ o.after, Region.binds md e = true → ∀ f, F[e.on]? = some f → holds f x w) → (execOp (A x).eval o).run P w = .ok (.value v) w) : StepOk P md Q S A F i o :=
 step hS hF hA fun x w hSw hdep => by
  unfold Oper.wp
  rw [h x w hSw hdep]
  refine ⟨v, rfl, Below.refl _ _, fun f hf' => ?_⟩
  rw [hf] at hf'
  obtain rfl := Option.some.inj hf'
  simp [holds, put]
theorem call {i : Nat} {o : Oper} (hS : Calm.Stays S) (hF : Stay F) (hA : ∀ x u, (A x).put o.dst u = A (put x i u)) {f : FuncId}
  (h : ∀ x w, S w → (∀ e ∈ o.after, Region.binds md e = true → ∀ f, F[e.on]? = some f → holds f x w) → ∃ args, (execOp (A x).eval o).run P w = .ok (.enter f args) w ∧
   Calls P f args w fun e w' => ∃ u, e = .returned u ∧ Below w.heap.size w w' ∧ ∀ f, F[i]? = some f → holds f (put x i u) w') : StepOk P md Q S A F i o :=
 step hS hF hA fun x w hSw hdep => by
  obtain ⟨args, hr, hc⟩ := h x w hSw hdep
  unfold Oper.wp
  rw [hr]
  refine hc.mono fun e w' he => ?_
  obtain ⟨u, rfl, hb, hf⟩ := he
  exact ⟨u, rfl, hb, hf⟩
end
end Go.Proofs.YtjbbmcommnhgeaaGreat.Facts
namespace Go.Proofs.YtjbbmcommnhgeaaGreat.FactsG
open Go.RowKit Facts
section
variable {P : Program} {Q : Exit → Act → World → Prop} {S : World → Prop} {md : Region.Mode} {A : (Nat → Value) → Act} {F : List Fact} {l : List Oper} {R : Nat → Nat → Value → Value → Prop}
def downB (md : Region.Mode) (l : List Oper) : Bool := l.zipIdx.all fun (o, i) => o.after.all fun e => !Region.binds md e || decide (e.on < i)
theorem downB_spec (h : downB md l = true) {i : Nat} {o : Oper} (hi : l[i]? = some o) : ∀ e ∈ o.after, Region.binds md e = true → e.on < i := by
 have hm : (o, i) ∈ l.zipIdx := by
  rw [List.mem_zipIdx_iff_getElem?]
  exact hi
 have := List.all_eq_true.1 h _ hm
 exact fun e he hb => by have := Array.all_eq_true_iff_forall_mem.1 this e he; simpa [hb] using this
theorem ready_of_least (h : downB md l = true) {listed : Array Bool} (hs : listed.size = l.length) {n : Nat} (hn : n < l.length) (hun : listed.getD n true = false) : ∃ j, j ∈ Region.ready md l.toArray listed := by
 induction n using Nat.strongRecOn with
 | _ n ih =>
  by_cases hall : ∀ m, m < n → listed.getD m true = true
  ·refine ⟨n, mem_ready.2 ⟨hun, l[n], by simp, fun e he hbd => ?_⟩⟩
   have hlt := downB_spec h (List.getElem?_eq_getElem hn) e he hbd
   have := hall e.on hlt
   have hb : e.on < listed.size := by omega
   simpa [hb] using this
  ·simp only [Classical.not_forall] at hall
   obtain ⟨m, hm, hf⟩ := hall
   exact ih m hm (by omega) (by simpa using hf)
theorem wpOp_mono {ops : Array Oper} {i : Nat} {K K' : Act → World → Prop} {a : Act} {w : World} (hK : ∀ a w, K a w → K' a w) (h : Go.wpOp P ops Q i K a w) : Go.wpOp P ops Q i K' a w := by
 unfold Go.wpOp at *
 cases ho : ops[i]? with
 | none =>
  simp only [ho] at h ⊢
  exact hK _ _ h
 | some o =>
  simp only [ho] at h ⊢
  split
  ·rename_i hw
   rw [if_pos hw] at h
   rcases h with h | h
   ·exact .inl (Oper.wp_mono hK h)
   ·exact .inr h
  ·rename_i hw
   rw [if_neg hw] at h
   exact hK _ _ h
def StepOk (P : Program) (md : Region.Mode) (l : List Oper) (Q : Exit → Act → World → Prop) (S : World → Prop) (A : (Nat → Value) → Act) (F : List Fact) (R : Nat → Nat → Value → Value → Prop) (i : Nat) (o : Oper) : Prop :=
 ∀ x w, S w → (∀ e ∈ o.after, Region.binds md e = true → ∀ f, F[e.on]? = some f → holds f x w) → (∀ e ∈ o.after, Region.binds md e = true → ∀ e' ∈ o.after, Region.binds md e' = true → e.on ≠ e'.on → R e.on e'.on (x e.on) (x e'.on)) →
  Go.wpOp P l.toArray Q i (fun a' w' => ∃ u, a' = A (put x i u) ∧ S w' ∧ (∀ f, F[i]? = some f → holds f (put x i u) w') ∧ (∀ j f, j ≠ i → F[j]? = some f → holds f x w → holds f x w') ∧ (∀ j f, j ≠ i → F[j]? = some f → holds f x w → R i j u (x j))) (A x) w
def Inv (md : Region.Mode) (l : List Oper) (S : World → Prop) (A : (Nat → Value) → Act) (F : List Fact) (R : Nat → Nat → Value → Value → Prop) (L : Nat → Bool) (a : Act) (w : World) : Prop :=
 S w ∧ (∀ i o, l[i]? = some o → L i = true → ∀ e ∈ o.after, Region.binds md e = true → L e.on = true) ∧
  ∃ x, a = A x ∧ (∀ i f, i < l.length → F[i]? = some f → L i = true → holds f x w) ∧ ∀ i j, i < l.length → j < l.length → i ≠ j → L i = true → L j = true → R i j (x i) (x j)
theorem wpAny_inv (hd : downB md l = true) (D : List (List Nat)) (hD : F.map (·.1) = D) (hlen : D.length = l.length) (hl : nearB md l D = true) (hR : ∀ i j u v, R i j u v → R j i v u) (hstep : Owed.each (StepOk P md l Q S A F R) 0 l)
  (hend : ∀ x w', S w' → (∀ i f, i < l.length → F[i]? = some f → holds f x w') → (∀ i j, i < l.length → j < l.length → i ≠ j → R i j (x i) (x j)) → Q .normal (A x) w') :
  ∀ (fuel : Nat) (listed : Array Bool) (a : Act) (w : World), listed.size = l.length → Owed.left listed ≤ fuel → Inv md l S A F R (fun i => listed.getD i true) a w → wpAny P md l.toArray Q fuel listed a w := by
 have hFl : F.length = l.length := by rw [← hlen, ← hD, List.length_map]
 have fin : ∀ (listed : Array Bool) (a : Act) (w : World), listed.size = l.length → Region.ready md l.toArray listed = [] → Inv md l S A F R (fun i => listed.getD i true) a w → Q .normal a w := fun listed a w hs hr h => by
  have all : ∀ i, i < l.length → listed.getD i true = true := fun i hi => by
   cases hv : listed.getD i true
   ·obtain ⟨j, hj⟩ := ready_of_least (md := md) hd hs hi hv
    rw [hr] at hj
    cases hj
   ·rfl
  obtain ⟨hS, _, x, rfl, hf, hrel⟩ := h
  exact hend x w hS (fun i f hi hfi => hf i f hi hfi (all i hi)) (fun i j hi hj hij => hrel i j hi hj hij (all i hi) (all j hj))
 intro fuel
 induction fuel with
 | zero =>
  intro listed a w hs hle h
  have hr : Region.ready md l.toArray listed = [] := by
   cases hr : Region.ready md l.toArray listed with
   | nil => rfl
   | cons i r =>
    have hun := (mem_ready.1 (show i ∈ Region.ready md l.toArray listed by rw [hr]; simp)).1
    have := Owed.left_set hun
    omega
  exact ⟨hr, fin listed a w hs hr h⟩
 | succ fuel ih =>
  intro listed a w hs hle h
  refine ⟨fun hr => fin listed a w hs hr h, fun i hi => ?_⟩
  obtain ⟨hun, o, ho, hall⟩ := mem_ready.1 hi
  have ho' : l[i]? = some o := by simpa using ho
  have hilt : i < l.length := (List.getElem?_eq_some_iff.1 ho').1
  have hst := Owed.each_at l 0 i o hstep ho'
  rw [Nat.zero_add] at hst
  obtain ⟨hS, hc, x, rfl, hf, hrel⟩ := h
  have hdep : ∀ e ∈ o.after, Region.binds md e = true → listed.getD e.on true = true ∧ e.on < l.length := fun e he hb => by
   have h1 := hall e he hb
   rcases Nat.lt_or_ge e.on listed.size with h' | h'
   ·exact ⟨by simpa [h'] using h1, by omega⟩
   ·simp [Array.getElem?_eq_none h'] at h1
  have old : ∀ j, j ≠ i → (listed.setIfInBounds i true).getD j true = listed.getD j true := fun j hj => getD_set_ne true (Ne.symm hj)
  refine wpOp_mono (fun a' w' h' => ?_) (hst x w hS (fun e he hb f hfe => hf e.on f (hdep e he hb).2 hfe (hdep e he hb).1) (fun e he hb e' he' hb' hne => hrel _ _ (hdep e he hb).2 (hdep e' he' hb').2 hne (hdep e he hb).1 (hdep e' he' hb').1))
  obtain ⟨u, rfl, hS', hfi, hoth, hrl⟩ := h'
  refine ih _ _ w' (by simp [hs]) (by have := Owed.left_set hun; omega) ⟨hS', fun j o' hj hLj e he hb => ?_, put x i u, rfl, fun j f hj hfj hLj => ?_, fun j k hj hk hjk hLj hLk => ?_⟩
  ·by_cases e0 : e.on = i
   ·rw [e0]
    have : i < listed.size := by omega
    simp [this]
   ·show (listed.setIfInBounds i true).getD e.on true = true
    rw [old _ e0]
    by_cases e1 : j = i
    ·subst e1
     obtain rfl : o = o' := by rw [ho'] at hj; exact Option.some.inj hj
     exact (hdep e he hb).1
    ·refine hc j o' hj ?_ e he hb
     show listed.getD j true = true
     rw [← old j e1]
     exact hLj
  ·by_cases e1 : j = i
   ·subst e1; exact hfi f hfj
   ·have hLj' : listed.getD j true = true := by rw [← old j e1]; exact hLj
    have h1 := hoth j f e1 hfj (hf j f hj hfj hLj')
    have e2 : f.1.map (put x i u) = f.1.map x := by
     apply List.map_congr_left
     intro k hk
     have hj' : l[j]? = some l[j] := List.getElem?_eq_getElem hj
     have hki : k ≠ i := by
      rcases nearB_spec hl hj' (by rw [← hD, List.getElem?_map, hfj]; rfl) hk with rfl | ⟨e, he, rfl, hb⟩
      ·exact e1
      ·intro h2
       have h3 : listed.getD e.on true = true := hc j _ hj' hLj' e he hb
       rw [h2, hun] at h3; cases h3
     simp [put, hki]
    unfold holds at *
    rw [e2]
    exact h1
  ·have get : ∀ j, j < l.length → ∃ f, F[j]? = some f := fun j hj => ⟨F[j]'(by omega), List.getElem?_eq_getElem _⟩
   by_cases e1 : j = i
   ·subst e1
    have hkj : k ≠ j := Ne.symm hjk
    have hLk' : listed.getD k true = true := by rw [← old k hkj]; exact hLk
    obtain ⟨f, hfk⟩ := get k hk
    have := hrl k f hkj hfk (hf k f hk hfk hLk')
    simpa [put, hkj] using this
   ·have hLj' : listed.getD j true = true := by rw [← old j e1]; exact hLj
    by_cases e2 : k = i
    ·subst e2
     obtain ⟨f, hfj⟩ := get j hj
     have := hR _ _ _ _ (hrl j f e1 hfj (hf j f hj hfj hLj'))
     simpa [put, e1] using this
    ·have hLk' : listed.getD k true = true := by rw [← old k e2]; exact hLk
     have := hrel j k hj hk hjk hLj' hLk'
     simpa [put, e1, e2] using this
theorem region {id : Nat} {a : Act} {w : World} (hm : P.follows .mixedOrders = true) (hd : downB .any l = true) (S : World → Prop) (A : (Nat → Value) → Act) (F : List Fact) (R : Nat → Nat → Value → Value → Prop) (hR : ∀ i j u v, R i j u v → R j i v u)
  (D : List (List Nat)) (hD : F.map (·.1) = D) (hlen : D.length = l.length) (hl : nearB .any l D = true)
  (x0 : Nat → Value) (hA : a = A x0) (h0 : S w.drew) (hstep : Owed.each (StepOk P .any l Q S A F R) 0 l)
  (hend : ∀ x w', S w' → (∀ i f, i < l.length → F[i]? = some f → holds f x w') → (∀ i j, i < l.length → j < l.length → i ≠ j → R i j (x i) (x j)) → Q .normal (A x) w') : (Code.region id l.toArray true).wp P Q a w := by
 refine wp_region_any hm ?_
 refine wpAny_inv (md := .any) hd D hD hlen hl hR hstep hend l.toArray.size (Array.replicate l.toArray.size false) a w.drew (by simp) (by simp [Owed.left]) ⟨h0, fun i o hi hLi => ?_, x0, hA, fun i f hi _ hLi => ?_, fun i j hi _ _ hLi => ?_⟩
 ·have : i < l.length := (List.getElem?_eq_some_iff.1 hi).1
  simp [this] at hLi
 ·simp [hi] at hLi
 ·simp [hi] at hLi
theorem of {i : Nat} {o : Oper} (hi : l[i]? = some o) (hR : ∀ j u v, R i j u v)
  (hw : ∀ x w, S w → (∀ e ∈ o.after, Region.binds md e = true → ∀ f, F[e.on]? = some f → holds f x w) → Region.wanted o (yielded l.toArray (A x).tmps) = true)
  (h : Facts.StepOk P md Q S A F i o) : StepOk P md l Q S A F R i o := by
 intro x w hS hdep _
 unfold Go.wpOp
 have hi' : l.toArray[i]? = some o := by simpa using hi
 simp only [hi', hw x w hS hdep, if_true]
 refine .inl (Oper.wp_mono (fun a' w' hh => ?_) (h x w hS hdep))
 obtain ⟨u, h1, h2, h3, h4⟩ := hh
 exact ⟨u, h1, h2, h3, h4, fun j _ _ _ _ => hR j u _⟩
end
end Go.Proofs.YtjbbmcommnhgeaaGreat.FactsG
