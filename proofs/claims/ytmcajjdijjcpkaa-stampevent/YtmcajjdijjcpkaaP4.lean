import Derived.Test.YtmcajjdijjcpkaaP3
import Derived.Test.YtmcajjdijjcpkaaRows
import Derived.Test.YtmcajjdijjcpkaaP1
/- Facts of operations that load, store and answer trees, in a region that draws its order, guarded or not, with several new boxes. -/
namespace Go.Proofs.Ytmcajjdijjcpkaa
open Go.RowKit

/-- New boxes (the operations of al) are not one. -/
def NotOne (al : List Nat) (i j : Nat) (u v : Value) : Prop := i ∈ al → j ∈ al → u ≠ v
theorem notOne_symm (al : List Nat) : ∀ i j u v, NotOne al i j u v → NotOne al j i v u := fun _ _ _ _ h hj hi => (h hi hj).symm

section
variable {Q : Exit → Act → World → Prop} {S : World → Prop} {md : Region.Mode} {A : (Nat → Value) → Act} {F : List Facts.Fact} {i : Nat} {o : Oper} {l : List Oper} {al : List Nat}
/-- A function answers a value that is known. -/
theorem Facts.call1V (hS : Calm.Stays S) (hF : Facts.Stay F) (hA : ∀ x u, (A x).put o.dst u = A (Facts.put x i u)) {fn : FuncId} {ts : Array TypeId} {u : Operand} (ho : o.op = .call { callee := .value (.func fn), args := #[u], argTypes := ts }) (hf : Calm.enters Try.prog fn = true) {v : Value} (hz : F[i]? = some (eqF i v))
    (h : ∀ x w, S w → (∀ e ∈ o.after, Region.binds md e = true → ∀ f, F[e.on]? = some f → Facts.holds f x w) → Calls Try.prog fn #[(A x).eval u] w fun e w' => e = .returned v ∧ Below w.heap.size w w') : Facts.StepOk Try.prog md Q S A F i o :=
  Facts.call (f := fn) hS hF hA fun x w hSw hdep => ⟨#[(A x).eval u], by
    have e : ∀ args, (callFunc fn args).run Try.prog w = .ok (.enter fn args) w := fun args => Calm.enters_run hf args w
    unfold execOp
    simp [ho, go_sem, Act.eval, e], (h x w hSw hdep).mono fun e w' ⟨he, hb⟩ => ⟨_, he, hb, fun f hf' => by
      rw [hz] at hf'
      obtain rfl := Option.some.inj hf'
      simp [Facts.holds, eqF, Facts.put]⟩⟩
theorem Facts.call2V (hS : Calm.Stays S) (hF : Facts.Stay F) (hA : ∀ x u, (A x).put o.dst u = A (Facts.put x i u)) {fn : FuncId} {ts : Array TypeId} {u v' : Operand} (ho : o.op = .call { callee := .value (.func fn), args := #[u, v'], argTypes := ts }) (hf : Calm.enters Try.prog fn = true) {v : Value} (hz : F[i]? = some (eqF i v))
    (h : ∀ x w, S w → (∀ e ∈ o.after, Region.binds md e = true → ∀ f, F[e.on]? = some f → Facts.holds f x w) → Calls Try.prog fn #[(A x).eval u, (A x).eval v'] w fun e w' => e = .returned v ∧ Below w.heap.size w w') : Facts.StepOk Try.prog md Q S A F i o :=
  Facts.call (f := fn) hS hF hA fun x w hSw hdep => ⟨#[(A x).eval u, (A x).eval v'], by
    have e : ∀ args, (callFunc fn args).run Try.prog w = .ok (.enter fn args) w := fun args => Calm.enters_run hf args w
    unfold execOp
    simp [ho, go_sem, Act.eval, e], (h x w hSw hdep).mono fun e w' ⟨he, hb⟩ => ⟨_, he, hb, fun f hf' => by
      rw [hz] at hf'
      obtain rfl := Option.some.inj hf'
      simp [Facts.holds, eqF, Facts.put]⟩⟩
theorem Facts.call3T (hS : Calm.Stays S) (hF : Facts.Stay F) (hA : ∀ x u, (A x).put o.dst u = A (Facts.put x i u)) {fn : FuncId} {ts : Array TypeId} {u v t : Operand} (ho : o.op = .call { callee := .value (.func fn), args := #[u, v, t], argTypes := ts }) (hf : Calm.enters Try.prog fn = true) {z : EV} (hz : F[i]? = some (isF i z))
    (h : ∀ x w, S w → (∀ e ∈ o.after, Region.binds md e = true → ∀ f, F[e.on]? = some f → Facts.holds f x w) → Calls Try.prog fn #[(A x).eval u, (A x).eval v, (A x).eval t] w (Gives z w)) : Facts.StepOk Try.prog md Q S A F i o :=
  Facts.call (f := fn) hS hF hA fun x w hSw hdep => ⟨#[(A x).eval u, (A x).eval v, (A x).eval t], by
    have e : ∀ args, (callFunc fn args).run Try.prog w = .ok (.enter fn args) w := fun args => Calm.enters_run hf args w
    unfold execOp
    simp [ho, go_sem, Act.eval, e], (h x w hSw hdep).mono fun e w' ⟨n, p, l, c, he, hi, hb⟩ => ⟨_, he, hb, fun f hf' => by
      rw [hz] at hf'
      obtain rfl := Option.some.inj hf'
      exact isF_put hi⟩⟩
/-- A new box, among others. -/
theorem FactsG.allocT (hi : l[i]? = some o) (hg : o.guard = none) (hS : Calm.Stays S) (hF : Facts.Stay F) (hA : ∀ x u, (A x).put o.dst u = A (Facts.put x i u)) (ho : o.op = .alloc 24) {N : Nat} (hz : F[i]? = some (alF i N)) (hN : ∀ w, S w → N ≤ w.heap.size)
    (hal : ∀ (j : Nat) (f : Facts.Fact), F[j]? = some f → j ∈ al → ∃ N, f = alF j N) : FactsG.StepOk Try.prog md l Q S A F (NotOne al) i o :=
  FactsG.ofR hi (fun _ _ _ _ => by simp [Region.wanted, hg]) fun x w hSw hdep _ => by
    have hr : (execOp (A x).eval o).run Try.prog w = .ok (.value (.pointer (some ⟨w.heap.size, 0, none⟩))) (w.alloc (.cells #[.int .i64 0, .slice none 0 0] 24)) := by
      unfold execOp
      generalize (A x).eval = ρ
      simp [ho, go_sem]
    have hb : Below w.heap.size w (w.alloc (.cells #[.int .i64 0, .slice none 0 0] 24)) := (Below.refl _ _).alloc (Nat.le_refl _) _
    unfold Oper.wp
    rw [hr]
    refine ⟨_, hA x _, hS _ _ hSw hb, fun f hf' => ?_, fun j f _ hj hh => hF j f hj _ _ _ hh hb, fun j f _ hj hh _ hjal => ?_⟩
    · rw [hz] at hf'
      obtain rfl := Option.some.inj hf'
      exact ⟨w.heap.size, 0, none, 0, 0, by simp [Facts.put, alF], hN w hSw, bx_new w 0 none 0 0⟩
    · obtain ⟨N', rfl⟩ := hal j f hj hjal
      obtain ⟨q, n, p, l, c, e, _, hq⟩ := alF_get hh
      rw [e]
      have := hq.lt
      intro h
      simp only [Value.pointer.injEq, Option.some.injEq, Addr.mk.injEq] at h
      omega
theorem sbF_other {m k N : Nat} {z : EV} {x : Nat → Value} {w : World} {q : Nat} {n : Int} {p : Option Addr} {l c : Nat} (h : Facts.holds (sbF m k N z) x w) (hne : x m ≠ .pointer (some ⟨q, 0, none⟩)) (hq : ∃ n p l c, Bx w q n p l c) : Facts.holds (sbF m k N z) x (w.setRow q #[.int .i64 n, .slice p l c]) := by
  obtain ⟨q', n', p', l', c', e, hN, hb, hi⟩ := h
  obtain ⟨_, _, _, _, hq⟩ := hq
  have e' := e
  simp only [sbF, List.map_cons, List.map_nil, List.cons.injEq, and_true] at e'
  refine ⟨q', n', p', l', c', e, hN, hb.rowOther (fun h => hne ?_) _, hi.box hq _⟩
  rw [e'.1, h]
/-- A tree that operation k came to is stored in the new box that operation m made, among others. -/
theorem FactsG.storeP (hi : l[i]? = some o) (hg : o.guard = none) (hial : i ∉ al) (hA : ∀ x u, (A x).put o.dst u = A (Facts.put x i u)) (u v : Operand) (ho : o.op = .store 24 u v) {m k N : Nat} {z : EV} (hmi : m ≠ i) (hki : k ≠ i) (hz : F[i]? = some (sbF m k N z))
    (hx : ∀ x, (A x).eval u = x m) (hy : ∀ x, (A x).eval v = x k) (hm : ∀ x w, S w → (∀ e ∈ o.after, Region.binds md e = true → ∀ f, F[e.on]? = some f → Facts.holds f x w) → Facts.holds (alF m N) x w ∧ Facts.holds (isF k z) x w)
    (hb : ∀ w q n p l c n' p' l' c', S w → N ≤ q → Bx w q n' p' l' c' → S (w.setRow q #[.int .i64 n, .slice p l c]))
    (hoth : ∀ x w q n p l c, (∀ e ∈ o.after, Region.binds md e = true → ∀ e' ∈ o.after, Region.binds md e' = true → e.on ≠ e'.on → NotOne al e.on e'.on (x e.on) (x e'.on)) → x m = .pointer (some ⟨q, 0, none⟩) → N ≤ q → (∃ n p l c, Bx w q n p l c) →
      ∀ (j : Nat) (f : Facts.Fact), j ≠ i → F[j]? = some f → Facts.holds f x w → Facts.holds f x (w.setRow q #[.int .i64 n, .slice p l c])) : FactsG.StepOk Try.prog md l Q S A F (NotOne al) i o :=
  FactsG.ofR hi (fun _ _ _ _ => by simp [Region.wanted, hg]) fun x w hSw hdep hrel => by
    obtain ⟨h1, h2⟩ := hm x w hSw hdep
    obtain ⟨q, n0, p0, l0, c0, eq, hq, hbx⟩ := alF_get h1
    obtain ⟨n, p, l, c, e, hi⟩ := isF_get h2
    refine wp_store_t u v ho q n p l c ((hx x).trans eq) ((hy x).trans e) hbx ?_
    refine ⟨undef, hA x undef, hb w q n p l c _ _ _ _ hSw hq hbx, fun f hf' => ?_, fun j f hj hfj hh => hoth x w q n p l c hrel eq hq ⟨_, _, _, _, hbx⟩ j f hj hfj hh, fun j f _ _ _ h => absurd h hial⟩
    rw [hz] at hf'
    obtain rfl := Option.some.inj hf'
    exact ⟨q, n, p, l, c, by simp [Facts.put, sbF, hki, hmi, e, eq], hq, hbx.row n p l c, hi.box hbx _⟩
end
end Go.Proofs.Ytmcajjdijjcpkaa
/- A tree by value (a number, and a slice of trees), in a box of its own and at a place of a row; what a binary one is in memory (Is), and a tree of any form (Lies). Nothing of one function. -/
namespace Go.Proofs.Ytmcajjdijjcpkaa.Idn
open Go.ChangeShapes Go.WideShapes Go.ChangeAt Go.RowKit

/-! Trees. -/
/-- A binary tree of leaves that own nothing, or all. -/
structure ID where
  mk ::
  sub : Bool ⊕ (ID × ID)
abbrev ID.leaf (b : Bool) : ID := ⟨.inl b⟩
abbrev ID.node (x y : ID) : ID := ⟨.inr (x, y)⟩
def bi (b : Bool) : Int := if b then 1 else 0
/-- The value v, in w, is the binary tree x. -/
def Is (w : World) : ID → Value → Prop
  | ⟨.inl b⟩, v => ∃ p c, v = TV (bi b) p 0 c
  | ⟨.inr (x, y)⟩, v => ∃ g o c n0 p0 l0 c0 n1 p1 l1 c1, v = TV 0 (some ⟨g, o, none⟩) 2 c ∧ Tat w g o n0 p0 l0 c0 ∧ Tat w g (o + 2) n1 p1 l1 c1 ∧ Is w x (TV n0 p0 l0 c0) ∧ Is w y (TV n1 p1 l1 c1)
theorem Is.later {w w' : World} (hb : Below w.heap.size w w') : ∀ {x : ID} {v : Value}, Is w x v → Is w' x v
  | ⟨.inl _⟩, _, h => h
  | ⟨.inr (_, _)⟩, _, ⟨g, o, c, n0, p0, l0, c0, n1, p1, l1, c1, e, h0, h1, hx, hy⟩ => ⟨g, o, c, n0, p0, l0, c0, n1, p1, l1, c1, e, h0.later hb, h1.later hb, hx.later hb, hy.later hb⟩
theorem Is.box {w : World} {q : Nat} {n : Int} {p : Option Addr} {l c : Nat} (hq : Bx w q n p l c) (cs : Array Value) : ∀ {x : ID} {v : Value}, Is w x v → Is (w.setRow q cs) x v
  | ⟨.inl _⟩, _, h => h
  | ⟨.inr (_, _)⟩, _, ⟨g, o, c, n0, p0, l0, c0, n1, p1, l1, c1, e, h0, h1, hx, hy⟩ => ⟨g, o, c, n0, p0, l0, c0, n1, p1, l1, c1, e, h0.box_lo hq h1 cs, h1.box_hi hq cs, hx.box hq cs, hy.box hq cs⟩

/-- What is told of a tree of whatever form. -/
def rough : Tr → Nat → Bool
  | ⟨n, len, kids⟩, room => if len = 0 then n == 0 || n == 1 else if h : len = 2 then n == 0 && decide (0 < room) && rough (kids ⟨0, by omega⟩) (room - 1) && rough (kids ⟨1, by omega⟩) (room - 1) else false
def idOf : Tr → ID
  | ⟨n, len, kids⟩ => if len = 0 then .leaf (n == 1) else if h : len = 2 then .node (idOf (kids ⟨0, by omega⟩)) (idOf (kids ⟨1, by omega⟩)) else .leaf false
def depth : ID → Nat
  | ⟨.inl _⟩ => 0
  | ⟨.inr (x, y)⟩ => 1 + max (depth x) (depth y)
theorem is_of_lies {w : World} : ∀ (t : Tr) (room : Nat) (v : Value), rough t room = true → Lies w t v → Is w (idOf t) v ∧ depth (idOf t) ≤ room
  | ⟨n, len, kids⟩, room, v, hr, ⟨hn, hl, p, c, e, h⟩ => by
    unfold rough at hr
    unfold idOf
    by_cases h0 : len = 0
    · subst h0
      simp only [if_true, Bool.or_eq_true, beq_iff_eq] at hr ⊢
      refine ⟨⟨p, c, ?_⟩, by simp [depth]⟩
      rw [e]
      rcases hr with rfl | rfl <;> rfl
    · by_cases h2 : len = 2
      · subst h2
        rw [if_neg (by decide), dif_pos rfl] at hr ⊢
        simp only [Bool.and_eq_true, beq_iff_eq, decide_eq_true_eq] at hr
        obtain ⟨⟨⟨rfl, hroom⟩, r0⟩, r1⟩ := hr
        obtain ⟨g, o, rfl, hk⟩ := h (by decide)
        obtain ⟨n0, p0, l0, c0, ha0, hb0⟩ := hk 0 (by decide)
        obtain ⟨n1, p1, l1, c1, ha1, hb1⟩ := hk 1 (by decide)
        have i0 := is_of_lies (kids ⟨0, by decide⟩) (room - 1) _ r0 hb0
        have i1 := is_of_lies (kids ⟨1, by decide⟩) (room - 1) _ r1 hb1
        refine ⟨⟨g, o, c, n0, p0, l0, c0, n1, p1, l1, c1, e, by simpa using ha0, by simpa using ha1, i0.1, i1.1⟩, ?_⟩
        simp only [depth]
        omega
      · simp [h0, h2] at hr
def toTr : ID → Tr
  | ⟨.inl b⟩ => ⟨bi b, 0, fun i => i.elim0⟩
  | ⟨.inr (x, y)⟩ => ⟨0, 2, fun i => if i.1 = 0 then toTr x else toTr y⟩
/-- The same trees? -/
def eqb : ID → ID → Bool
  | ⟨.inl a⟩, ⟨.inl b⟩ => a == b
  | ⟨.inr (x, y)⟩, ⟨.inr (x', y')⟩ => eqb x x' && eqb y y'
  | ⟨.inl _⟩, ⟨.inr _⟩ => false
  | ⟨.inr _⟩, ⟨.inl _⟩ => false
theorem eqb_iff : ∀ x y : ID, eqb x y = true ↔ x = y
  | ⟨.inl a⟩, ⟨.inl b⟩ => by simp [eqb]
  | ⟨.inr (x, y)⟩, ⟨.inr (x', y')⟩ => by simp [eqb, eqb_iff x x', eqb_iff y y']
  | ⟨.inl _⟩, ⟨.inr _⟩ => by simp [eqb]
  | ⟨.inr _⟩, ⟨.inl _⟩ => by simp [eqb]
theorem eqb_refl (x : ID) : eqb x x = true := (eqb_iff x x).2 rfl
theorem eq_of_eqb {x y : ID} (h : eqb x y = true) : x = y := (eqb_iff x y).1 h
end Go.Proofs.Ytmcajjdijjcpkaa.Idn
/- The small functions of package idtree: isLeaf, isNothing, sameLeaf, leaf. -/
namespace Go.Proofs.Ytmcajjdijjcpkaa.Idn
open Go.RowKit

theorem one_box (w : World) (n : Int) (p : Option Addr) (l c : Nat) : ∀ w0, w0 = w.alloc (.cells #[.int .i64 n, .slice p l c] 24) → Bx w0 w.heap.size n p l c ∧ Below w.heap.size w w0 := by
  rintro w0 rfl
  exact ⟨bx_new w n p l c, (Below.refl _ _).alloc (Nat.le_refl _) _⟩
theorem two_box (w : World) (n : Int) (p : Option Addr) (l c : Nat) (n' : Int) (p' : Option Addr) (l' c' : Nat) : ∀ w0, w0 = (w.alloc (.cells #[.int .i64 n, .slice p l c] 24)).alloc (.cells #[.int .i64 n', .slice p' l' c'] 24) → Bx w0 w.heap.size n p l c ∧ Bx w0 (w.heap.size + 1) n' p' l' c' ∧ Below w.heap.size w w0 := by
  rintro w0 rfl
  exact ⟨(bx_new w n p l c).alloc _, bx_next _ (by simp) n' p' l' c', ((Below.refl _ _).alloc (Nat.le_refl _) _).alloc (by simp) _⟩
theorem three_box (w : World) (n : Int) (p : Option Addr) (l c : Nat) (n' : Int) (p' : Option Addr) (l' c' : Nat) (n'' : Int) (p'' : Option Addr) (l'' c'' : Nat) : ∀ w0, w0 = ((w.alloc (.cells #[.int .i64 n, .slice p l c] 24)).alloc (.cells #[.int .i64 n', .slice p' l' c'] 24)).alloc (.cells #[.int .i64 n'', .slice p'' l'' c''] 24) → Bx w0 w.heap.size n p l c ∧ Bx w0 (w.heap.size + 1) n' p' l' c' ∧ Bx w0 (w.heap.size + 1 + 1) n'' p'' l'' c'' ∧ Below w.heap.size w w0 := by
  rintro w0 rfl
  exact ⟨((bx_new w n p l c).alloc _).alloc _, (bx_next _ (by simp) n' p' l' c').alloc _, bx_next _ (by simp) n'' p'' l'' c'', (((Below.refl _ _).alloc (Nat.le_refl _) _).alloc (by simp) _).alloc (by simp; omega) _⟩

set_option maxRecDepth 100000 in
theorem isLeaf_any (n : Int) (p : Option Addr) (l c : Nat) (w : World) :
    Calls Try.prog 55 #[TV n p l c] w fun e w' => e = .returned (.bool (decide (l = 0))) ∧ Below w.heap.size w w' := by
  obtain ⟨h1, hbel⟩ := one_box w n p l c _ rfl
  have c1 := h1.cell1
  go_enter Try.func55, Try.ntmps55
  go_wp2
  go_ret
  refine ⟨?_, hbel⟩
  have : ((l : Int) == 0) = decide (l = 0) := by
    rw [Bool.eq_iff_iff]; simp
  simp [this]

set_option maxRecDepth 100000 in
theorem isNothing_any (n : Int) (p : Option Addr) (l c : Nat) (w : World) :
    Calls Try.prog 72 #[TV n p l c] w fun e w' => e = .returned (.bool (decide (l = 0) && n == 0)) ∧ Below w.heap.size w w' := by
  obtain ⟨h1, hbel⟩ := one_box w n p l c _ rfl
  have hC := isLeaf_any n p l c
  generalize decide (l = 0) = x at hC ⊢
  go_enter Try.func72, Try.ntmps72
  go_wp2_with (refine load_t _ rfl rfl _ _ rfl h1.tat ?_)
  refine (hC _).mono ?_
  rintro e w1 ⟨rfl, hb1⟩
  have h2 := h1.later hb1
  have c0 := h2.cell0
  replace hbel := below_on hbel hb1
  cases x
  · go_wp2
    go_ret
    exact ⟨by simp, hbel⟩
  · go_wp2
    go_ret
    exact ⟨by simp, hbel⟩

set_option maxRecDepth 100000 in
theorem sameLeaf_any (n : Int) (p : Option Addr) (l c : Nat) (n' : Int) (p' : Option Addr) (l' c' : Nat) (w : World) :
    Calls Try.prog 96 #[TV n p l c, TV n' p' l' c'] w fun e w' => e = .returned (.bool (decide (l = 0) && decide (l' = 0) && n == n')) ∧ Below w.heap.size w w' := by
  obtain ⟨h1, h2, hbel⟩ := two_box w n p l c n' p' l' c' _ rfl
  have hC := isLeaf_any n p l c
  have hC' := isLeaf_any n' p' l' c'
  generalize decide (l = 0) = x at hC ⊢
  generalize decide (l' = 0) = y at hC' ⊢
  go_enter Try.func96, Try.ntmps96
  go_wp2_with (refine load_t _ rfl rfl _ _ rfl h1.tat ?_)
  refine (hC _).mono ?_
  rintro e w1 ⟨rfl, hb1⟩
  replace h1 := h1.later hb1
  replace h2 := h2.later hb1
  replace hbel := below_on hbel hb1
  clear hb1
  cases x
  · go_wp2
    go_ret
    exact ⟨by simp, hbel⟩
  · go_wp2_with (refine load_t _ rfl rfl _ _ rfl h2.tat ?_)
    refine (hC' _).mono ?_
    rintro e w2 ⟨rfl, hb1⟩
    replace h1 := (h1.later hb1).cell0
    replace h2 := (h2.later hb1).cell0
    replace hbel := below_on hbel hb1
    clear hb1
    cases y
    · go_wp2
      go_ret
      exact ⟨by simp, hbel⟩
    · go_wp2
      go_ret
      exact ⟨by simp, hbel⟩

set_option maxRecDepth 100000 in
theorem leaf_any (n : Int) (w : World) :
    Calls Try.prog 97 #[.int .i64 n] w fun e w' => e = .returned (TV n none 0 0) ∧ Below w.heap.size w w' := by
  obtain ⟨h1, hbel⟩ := one_box w 0 none 0 0 _ rfl
  go_enter Try.func97, Try.ntmps97
  go_wp2_with (refine store_t rfl _ _ rfl _ n none 0 0 rfl rfl h1 ?_)
  exact bodyPost_ret (results_t rfl rfl (h1.row n none 0 0)) rfl ⟨rfl, below_setRow hbel (Nat.le_refl _) _⟩
end Go.Proofs.Ytmcajjdijjcpkaa.Idn
/- The function alike of package idtree at two kids. -/
namespace Go.Proofs.Ytmcajjdijjcpkaa.Idn
open Go.RowKit

abbrev same94 : Value := .func (.func 96) #[] #[]

/-- A new box, and what it holds then. -/
theorem new_box (w : World) (n : Int) (p : Option Addr) (l c : Nat) : Bx ((w.alloc (.cells #[.int .i64 0, .slice none 0 0] 24)).setRow w.heap.size #[.int .i64 n, .slice p l c]) w.heap.size n p l c := (bx_new w 0 none 0 0).row n p l c
theorem new_below (w : World) (n : Int) (p : Option Addr) (l c : Nat) : Below w.heap.size w ((w.alloc (.cells #[.int .i64 0, .slice none 0 0] 24)).setRow w.heap.size #[.int .i64 n, .slice p l c]) :=
  below_setRow ((Below.refl _ _).alloc (Nat.le_refl _) _) (Nat.le_refl _) _

set_option maxHeartbeats 1000000 in
set_option maxRecDepth 100000 in
theorem alike_any (g o c : Nat) (n0 : Int) (p0 : Option Addr) (l0 c0 : Nat) (n1 : Int) (p1 : Option Addr) (l1 c1 : Nat) (w : World) (h0 : Tat w g o n0 p0 l0 c0) (h1 : Tat w g (o + 2) n1 p1 l1 c1) :
    Calls Try.prog 95 #[.slice (some ⟨g, o, none⟩) 2 c, same94] w fun e w' => e = .returned (.bool (decide (l0 = 0) && decide (l1 = 0) && n0 == n1)) ∧ Below w.heap.size w w' := by
  go_enter Try.func95, Try.ntmps95
  go_wp2
  go_loopw [9] (fun vi wr => ∃ k : Nat, vi = .int .i64 k ∧ k ≤ 2 ∧ Hid (1 ≤ k → l0 = 0) ∧ Hid (2 ≤ k → (decide (l0 = 0) && decide (l1 = 0) && n0 == n1) = true) ∧ Below w.heap.size w wr) (fun vi _ => 2 - (intOf vi).toNat)
  case atStart => exact ⟨0, rfl, by omega, (show 1 ≤ 0 → _ from fun h => by omega), (show 2 ≤ 0 → _ from fun h => by omega), Below.refl _ _⟩
  case round =>
    obtain ⟨k, rfl, hk, H1, H2, hbel⟩ := hrel
    by_cases hlt : k < 2
    · obtain ⟨n, p, l, cc, ht, HS⟩ : ∃ n p l cc, Tat w g (o + k * 2) n p l cc ∧ Hid ((k = 0 ∧ n = n0 ∧ l = l0) ∨ (k = 1 ∧ n = n1 ∧ l = l1)) := by
        match k, hlt with
        | 0, _ => exact ⟨n0, p0, l0, c0, by simpa using h0, .inl ⟨rfl, rfl, rfl⟩⟩
        | 1, _ => exact ⟨n1, p1, l1, c1, by simpa using h1, .inr ⟨rfl, rfl, rfl⟩⟩
      have t0 := (h0.later hbel).later (new_below wr n p l cc)
      have hx := new_box wr n p l cc
      have hbel2 := below_on hbel (new_below wr n p l cc)
      replace ht := ht.later hbel
      have hi1 : (k : Int) < 2 := by omega
      have hC := sameLeaf_any n0 p0 l0 c0 n p l cc
      obtain ⟨r, HR⟩ : ∃ r, Hid ((decide (l0 = 0) && decide (l = 0) && n0 == n) = r) := ⟨_, rfl⟩
      rw [HR.out] at hC
      clear h0 h1 hbel
      have hs : Calm.Stays (fun w' => Tat w' g o n0 p0 l0 c0 ∧ Tat w' wr.heap.size 0 n p l cc ∧ Below w.heap.size w w') := fun w1 w2 h hb => ⟨h.1.later hb, h.2.1.later hb, below_on h.2.2 hb⟩
      go_wp2_with (first | refine load_t _ rfl rfl _ _ rfl ht ?_ | refine store_t rfl _ _ rfl _ n p l cc rfl rfl (bx_new wr 0 none 0 0) ?_)
      refine Calm.region (by kernel_rfl) (by kernel_rfl) (fun w' => Tat w' g o n0 p0 l0 c0 ∧ Tat w' wr.heap.size 0 n p l cc ∧ Below w.heap.size w w') ⟨t0, hx.tat, hbel2.drew⟩ ?_
      refine Calm.pure (v := ?_) (by rfl) ?_ ?_
      rotate_left
      focus (intro w hSw; go_simp <;> rfl)
      simp only [Act.put, List.setIfInBounds_toArray, List.set_cons_zero, List.set_cons_succ]
      refine Calm.pure (v := ?_) (by rfl) ?_ ?_
      rotate_left
      focus (intro w hSw; go_simp <;> rfl)
      simp only [Act.put, List.setIfInBounds_toArray, List.set_cons_zero, List.set_cons_succ]
      refine Calm.pure (v := ?_) (by rfl) ?_ ?_
      rotate_left
      focus (intro w hSw; go_simp <;> rfl)
      simp only [Act.put, List.setIfInBounds_toArray, List.set_cons_zero, List.set_cons_succ]
      refine Calm.loadT (by rfl) _ rfl rfl (fun _ h => by go_split_ands; assumption) ?_
      simp only [Act.put, List.setIfInBounds_toArray, List.set_cons_zero, List.set_cons_succ]
      refine Calm.loadT (by rfl) _ rfl rfl (fun _ h => by go_split_ands; assumption) ?_
      simp only [Act.put, List.setIfInBounds_toArray, List.set_cons_zero, List.set_cons_succ]
      refine Calm.call (f := 96) (args := #[TV n0 p0 l0 c0, TV n p l cc]) (by rfl) ?_ (fun w1 hS1 => (hC w1).mono fun e w2 he => ⟨he.1, hs _ _ hS1 he.2⟩) ?_
      focus (intro w1; unfold execOp; simp [go_sem, Act.eval, Calm.enters_run (P := Try.prog) (f := 96) (by kernel_rfl)])
      simp only [Act.put, List.setIfInBounds_toArray, List.set_cons_zero, List.set_cons_succ]
      refine Calm.pure (v := ?_) (by rfl) ?_ ?_
      rotate_left
      focus (intro w hSw; go_simp <;> rfl)
      simp only [Act.put, List.setIfInBounds_toArray, List.set_cons_zero, List.set_cons_succ]
      rintro w9 ⟨_, _, hbel9⟩
      cases r
      · have HF : Hid ((decide (l0 = 0) && decide (l1 = 0) && n0 == n1) = false) := by
          show _ = _
          have h2 := HR.out
          rcases HS.out with ⟨_, rfl, rfl⟩ | ⟨_, rfl, rfl⟩
          · simp at h2
            simp [h2]
          · exact h2
        go_wp2
        go_ret
        exact ⟨by rw [HF.out]; rfl, hbel9⟩
      · have HA : Hid (1 ≤ k + 1 → l0 = 0) := show _ → _ from fun _ => by have h2 := HR.out; simp at h2; exact h2.1.1
        have HB : Hid (2 ≤ k + 1 → (decide (l0 = 0) && decide (l1 = 0) && n0 == n1) = true) := show _ → _ from fun h => by
          have h2 := HR.out
          rcases HS.out with ⟨h3, rfl, rfl⟩ | ⟨_, rfl, rfl⟩
          · omega
          · exact h2
        go_wp2
        go_roundw
        case rel => exact ⟨k + 1, by simp, by omega, HA, HB, hbel9⟩
        case measure => simp [intOf]; omega
    · have hk : k = 2 := by omega
      subst hk
      have HF : Hid ((decide (l0 = 0) && decide (l1 = 0) && n0 == n1) = true) := H2.out (by omega)
      go_wp2
      go_ret
      exact ⟨by rw [HF.out]; rfl, hbel⟩
end Go.Proofs.Ytmcajjdijjcpkaa.Idn
/- Binary trees: what is made of two (mk), made shorter (norm); the functions pair, isShort of package idtree. -/
namespace Go.Proofs.Ytmcajjdijjcpkaa.Idn
open Go.RowKit

def lf : ID → Bool
  | ⟨.inl _⟩ => true
  | ⟨.inr (_, _)⟩ => false
def num : ID → Int
  | ⟨.inl b⟩ => bi b
  | ⟨.inr (_, _)⟩ => 0
def len : ID → Nat
  | ⟨.inl _⟩ => 0
  | ⟨.inr (_, _)⟩ => 2
/-- Both leaves of one number. -/
def tw : ID → ID → Bool
  | ⟨.inl a⟩, ⟨.inl b⟩ => a == b
  | _, _ => false
/-- What is made of two. -/
def mk (x y : ID) : ID := if tw x y then x else .node x y

theorem is_tv {w : World} : ∀ {x : ID} {v : Value}, Is w x v → ∃ p c, v = TV (num x) p (len x) c
  | ⟨.inl _⟩, _, h => h
  | ⟨.inr (_, _)⟩, _, ⟨g, o, c, _, _, _, _, _, _, _, _, e, _⟩ => ⟨some ⟨g, o, none⟩, c, e⟩
theorem is_parts {w : World} {x : ID} {n : Int} {p : Option Addr} {l c : Nat} (h : Is w x (TV n p l c)) : n = num x ∧ l = len x := by
  obtain ⟨p', c', e⟩ := is_tv h
  simp at e
  exact ⟨e.1, e.2.2.1⟩
theorem len_lf (x : ID) : decide (len x = 0) = lf x := by rcases x with ⟨_ | ⟨_, _⟩⟩ <;> rfl
theorem bi_eq (a b : Bool) : (bi a == bi b) = (a == b) := by cases a <;> cases b <;> rfl
theorem bi_zero (a : Bool) : (bi a == 0) = !a := by cases a <;> rfl
theorem tw_eq (x y : ID) : (decide (len x = 0) && decide (len y = 0) && num x == num y) = tw x y := by
  rcases x with ⟨_ | ⟨_, _⟩⟩ <;> rcases y with ⟨_ | ⟨_, _⟩⟩ <;> simp [len, num, tw, bi_eq]
theorem is_leaf (w : World) (b : Bool) (p : Option Addr) (c : Nat) : Is w (.leaf b) (TV (bi b) p 0 c) := ⟨p, c, rfl⟩

/-- The call answers the tree x. -/
abbrev Gives (x : ID) (w : World) (e : Ending) (w' : World) : Prop := ∃ n p l c, e = .returned (TV n p l c) ∧ Is w' x (TV n p l c) ∧ Below w.heap.size w w'

theorem row_tats (w : World) (n : Int) (p : Option Addr) (l c : Nat) (n' : Int) (p' : Option Addr) (l' c' : Nat) : ∀ w0, w0 = w.alloc (.cells #[.int .i64 n, .slice p l c, .int .i64 n', .slice p' l' c'] 24) →
    Tat w0 w.heap.size 0 n p l c ∧ Tat w0 w.heap.size 2 n' p' l' c' ∧ Below w.heap.size w w0 := by
  rintro w0 rfl
  have h := heap_alloc_last w (.cells #[.int .i64 n, .slice p l c, .int .i64 n', .slice p' l' c'] 24)
  refine ⟨⟨?_, ?_⟩, ⟨?_, ?_⟩, (Below.refl _ _).alloc (Nat.le_refl _) _⟩
  all_goals rw [cell_of_row _ _ _ _ 24 (0, 0) h]; rfl

set_option maxHeartbeats 1000000 in
set_option maxRecDepth 100000 in
theorem pair_any (x y : ID) (n : Int) (p : Option Addr) (l c : Nat) (n' : Int) (p' : Option Addr) (l' c' : Nat) (w : World) (hx : Is w x (TV n p l c)) (hy : Is w y (TV n' p' l' c')) :
    Calls Try.prog 90 #[TV n p l c, TV n' p' l' c'] w (Gives (mk x y) w) := by
  obtain ⟨h1, h2, h3, hbel⟩ := three_box w n p l c n' p' l' c' 0 none 0 0 _ rfl
  have HX : Hid (n = num x ∧ l = len x) := is_parts hx
  have HY : Hid (n' = num y ∧ l' = len y) := is_parts hy
  have ht : (decide (l = 0) && decide (l' = 0) && n == n') = tw x y := by rw [HX.out.1, HX.out.2, HY.out.1, HY.out.2, tw_eq]
  obtain ⟨z, HZ⟩ : ∃ z, Hid (mk x y = z) := ⟨_, rfl⟩
  rw [HZ.out]
  generalize hw0 : ((w.alloc (.cells #[.int .i64 n, .slice p l c] 24)).alloc (.cells #[.int .i64 n', .slice p' l' c'] 24)).alloc (.cells #[.int .i64 0, .slice none 0 0] 24) = w0 at h1 h2 h3 hbel
  obtain ⟨t1, t2, hb1⟩ := row_tats w0 n p l c n' p' l' c' _ rfl
  have hC := alike_any w0.heap.size 0 2 n p l c n' p' l' c' _ t1 t2
  rw [ht] at hC
  clear ht
  obtain ⟨r, HT⟩ : ∃ r, Hid (tw x y = r) := ⟨_, rfl⟩
  rw [HT.out] at hC
  have HI : Hid (Is w x (TV n p l c) ∧ Is w y (TV n' p' l' c')) := ⟨hx, hy⟩
  clear hx hy
  go_enter Try.func90, Try.ntmps90
  go_wp2_with (first | rw [hw0] | refine load_t _ rfl rfl _ _ rfl h1.tat ?_ | refine load_t _ rfl rfl _ _ rfl h2.tat ?_)
  refine hC.mono ?_
  rintro e w1 ⟨rfl, hb2⟩
  have c1 := ((h1.later hb1).later hb2).cell0
  have h4 := (h3.later hb1).later hb2
  have hbel2 := below_on (below_on hbel hb1) hb2
  replace t1 := t1.later hb2
  replace t2 := t2.later hb2
  clear hC hbel hb1 hb2 h1 h2 h3
  cases r
  · have R := below_setRow hbel2 (g := w.heap.size + 1 + 1) (by omega) #[.int .i64 0, .slice (some ⟨w0.heap.size, 0, none⟩) 2 2]
    have hI : Is (w1.setRow (w.heap.size + 1 + 1) #[.int .i64 0, .slice (some ⟨w0.heap.size, 0, none⟩) 2 2]) z (TV 0 (some ⟨w0.heap.size, 0, none⟩) 2 2) := by
      rw [← HZ.out, mk, HT.out]
      exact ⟨w0.heap.size, 0, 2, n, p, l, c, n', p', l', c', rfl, t1.box_lo h4 t2 _, t2.box_hi h4 _, (HI.out.1.later hbel2).box h4 _, (HI.out.2.later hbel2).box h4 _⟩
    go_wp2_with (refine store_t rfl _ _ rfl _ 0 (some ⟨w0.heap.size, 0, none⟩) 2 2 rfl rfl h4 ?_)
    exact bodyPost_ret (results_t rfl rfl (h4.row _ _ _ _)) rfl ⟨_, _, _, _, rfl, hI, R⟩
  · go_wp2_with fail
    refine (leaf_any n _).mono ?_
    rintro e w2 ⟨rfl, hb3⟩
    replace h4 := h4.later hb3
    have R := below_setRow (below_on hbel2 hb3) (g := w.heap.size + 1 + 1) (by omega) #[.int .i64 n, .slice none 0 0]
    have hI : Is (w2.setRow (w.heap.size + 1 + 1) #[.int .i64 n, .slice none 0 0]) z (TV n none 0 0) := by
      rw [← HZ.out, mk, HT.out]
      have h5 := HT.out
      rcases x with ⟨b | ⟨_, _⟩⟩
      · rw [HX.out.1]; exact is_leaf _ _ _ _
      · simp [tw] at h5
    clear c1 hbel2 hb3
    go_wp2_with (refine store_t rfl _ _ rfl _ n none 0 0 rfl rfl h4 ?_)
    exact bodyPost_ret (results_t rfl rfl (h4.row _ _ _ _)) rfl ⟨_, _, _, _, rfl, hI, R⟩
end Go.Proofs.Ytmcajjdijjcpkaa.Idn
/- The functions isRough, isShort and Check of package idtree. -/
namespace Go.Proofs.Ytmcajjdijjcpkaa.Idn
open Go.RowKit

set_option maxHeartbeats 1000000 in
set_option maxRecDepth 100000 in
theorem isRough_any : ∀ (t : Tr) (room : Nat) (n : Int) (p : Option Addr) (l c : Nat) (w : World), Lies w t (TV n p l c) → room ≤ 100 →
    Calls Try.prog 70 #[TV n p l c, .int .i64 room] w fun e w' => e = .returned (.bool (rough t room)) ∧ Below w.heap.size w w'
  | ⟨m, len, kids⟩, room, n, p, l, c, w, ⟨_, hl, p', c', e, hk⟩, hroom => by
    have RR : Hid (∀ (i : Nat) (hi : i < len) (n0 : Int) (p0 : Option Addr) (l0 c0 : Nat) (w1 : World), Lies w1 (kids ⟨i, hi⟩) (TV n0 p0 l0 c0) → Calls Try.prog 70 #[TV n0 p0 l0 c0, .int .i64 (room - 1 : Nat)] w1 fun e w' => e = .returned (.bool (rough (kids ⟨i, hi⟩) (room - 1))) ∧ Below w1.heap.size w1 w') := fun i hi n0 p0 l0 c0 w1 h => isRough_any (kids ⟨i, hi⟩) (room - 1) n0 p0 l0 c0 w1 h (by omega)
    simp at e
    obtain ⟨rfl, rfl, rfl, rfl⟩ := e
    obtain ⟨h1, hbel⟩ := one_box w n p l c _ rfl
    have g0 := h1.cell0
    have g1 := h1.cell1
    obtain ⟨z, HZ⟩ : ∃ z, Hid (rough ⟨n, l, kids⟩ room = z) := ⟨_, rfl⟩
    rw [HZ.out]
    have HK : Hid (0 < l → ∃ g o, p = some ⟨g, o, none⟩ ∧ ∀ i, (hi : i < l) → ∃ n0 p0 l0 c0, Tat w g (o + i * 2) n0 p0 l0 c0 ∧ Lies w (kids ⟨i, hi⟩) (TV n0 p0 l0 c0)) := hk
    clear hk
    unfold rough at HZ
    by_cases e0 : l = 0
    · subst e0
      have HZ' : Hid ((n == 0 || n == 1) = z) := by have := HZ.out; simp at this; exact this
      clear HZ
      by_cases en : n = 0
      · subst en
        go_enter Try.func70, Try.ntmps70
        go_wp2
        go_ret
        exact ⟨by rw [← HZ'.out]; rfl, hbel⟩
      · go_enter Try.func70, Try.ntmps70
        go_wp2
        go_ret
        exact ⟨by rw [← HZ'.out]; simp, hbel⟩
    · by_cases e2 : l = 2
      · subst e2
        obtain ⟨g, o, rfl, hks⟩ := HK.out (by decide)
        obtain ⟨n0, p0, l0, c0, t0, k0⟩ := hks 0 (by decide)
        obtain ⟨n1, p1, l1, c1, t1, k1⟩ := hks 1 (by decide)
        have HZ' : Hid ((n == 0 && decide (0 < room) && rough (kids ⟨0, by decide⟩) (room - 1) && rough (kids ⟨1, by decide⟩) (room - 1)) = z) := by have := HZ.out; rw [if_neg (by decide), dif_pos rfl] at this; exact this
        have r0 := fun w1 (hb : Below w.heap.size w w1) => RR.out 0 (by decide) n0 p0 l0 c0 w1 (k0.later hb)
        have r1 := fun w1 (hb : Below w.heap.size w w1) => RR.out 1 (by decide) n1 p1 l1 c1 w1 (k1.later hb)
        clear HZ HK hks k0 k1
        simp only [Nat.zero_mul, Nat.add_zero, Nat.one_mul] at t0 t1
        by_cases en : n = 0
        · subst en
          by_cases er : 0 < room
          · have ei : (0 : Int) < (room : Int) := by omega
            have es : ((room - 1 : Nat) : Int) = (room : Int) - 1 := by omega
            rw [es] at r0 r1
            have HZ'' : Hid ((rough (kids ⟨0, by decide⟩) (room - 1) && rough (kids ⟨1, by decide⟩) (room - 1)) = z) := by have := HZ'.out; rw [show decide (0 < room) = true by simpa using er] at this; exact this
            generalize rough (kids ⟨0, by decide⟩) (room - 1) = b0 at r0 HZ''
            generalize rough (kids ⟨1, by decide⟩) (room - 1) = b1 at r1 HZ''
            clear HZ' es
            have tt0 := t0.later hbel
            go_enter Try.func70, Try.ntmps70
            go_wp2_with (refine load_t _ rfl rfl _ _ rfl tt0 ?_)
            refine (r0 _ hbel).mono ?_
            rintro e w1 ⟨rfl, hb1⟩
            have hbel1 := below_on hbel hb1
            cases b0
            · clear t0 t1 tt0 r0 r1
              go_wp2
              go_ret
              exact ⟨by rw [← HZ''.out]; rfl, hbel1⟩
            · have g2 := cell_later hb1 g1
              have tt1 := t1.later hbel1
              clear t0 t1 tt0 r0 g0 g1
              go_wp2_with (refine load_t _ rfl rfl _ _ rfl tt1 ?_)
              refine (r1 _ hbel1).mono ?_
              rintro e w2 ⟨rfl, hb2⟩
              have hbel2 := below_on hbel1 hb2
              clear tt1 r1 g2
              go_wp2
              go_ret
              exact ⟨by rw [← HZ''.out]; rfl, hbel2⟩
          · have ei : ¬ (0 : Int) < (room : Int) := by omega
            have HZ'' : Hid (false = z) := by have := HZ'.out; simp [er] at this; rw [this]; rfl
            clear HZ' r0 r1 t0 t1 er
            go_enter Try.func70, Try.ntmps70
            go_wp2
            go_ret
            exact ⟨by rw [← HZ''.out]; rfl, hbel⟩
        · have HZ'' : Hid (false = z) := by have := HZ'.out; rw [show (n == 0) = false by simpa using en] at this; exact this
          clear HZ' r0 r1 t0 t1
          go_enter Try.func70, Try.ntmps70
          go_wp2
          go_ret
          exact ⟨by rw [← HZ''.out]; rfl, hbel⟩
      · have HZ'' : Hid (false = z) := by have := HZ.out; rw [if_neg e0, dif_neg e2] at this; exact this
        have f0 : ¬ (l : Int) = 0 := by omega
        have f2 : ¬ (l : Int) = 2 := by omega
        clear HZ HK e0 e2
        go_enter Try.func70, Try.ntmps70
        go_wp2
        go_ret
        exact ⟨by rw [← HZ''.out]; rfl, hbel⟩

theorem lies_is {w : World} : ∀ (x : ID) (v : Value), Is w x v → Lies w (toTr x) v
  | ⟨.inl b⟩, _, ⟨p, c, e⟩ => ⟨by cases b <;> decide, by decide, p, c, e, fun h => by omega⟩
  | ⟨.inr (x, y)⟩, _, ⟨g, o, c, n0, p0, l0, c0, n1, p1, l1, c1, e, h0, h1, hx, hy⟩ => by
    refine ⟨by decide, by decide, some ⟨g, o, none⟩, c, e, fun _ => ⟨g, o, rfl, fun i hi => ?_⟩⟩
    match i, hi with
    | 0, _ => exact ⟨n0, p0, l0, c0, by simpa using h0, by simpa using lies_is x _ hx⟩
    | 1, _ => exact ⟨n1, p1, l1, c1, by simpa using h1, by simpa using lies_is y _ hy⟩
theorem rough_to : ∀ (x : ID) (room : Nat), rough (toTr x) room = decide (depth x ≤ room)
  | ⟨.inl b⟩, room => by cases b <;> simp [toTr, rough, depth, bi]
  | ⟨.inr (x, y)⟩, room => by
    rw [toTr, rough, if_neg (by decide), dif_pos rfl, if_pos rfl, if_neg (by decide), rough_to x, rough_to y, depth]
    rw [Bool.eq_iff_iff]
    simp only [beq_self_eq_true, Bool.true_and, Bool.and_eq_true, decide_eq_true_eq]
    omega
theorem isRough_is (x : ID) (room : Nat) (n : Int) (p : Option Addr) (l c : Nat) (w : World) (h : Is w x (TV n p l c)) (hr : room ≤ 100) :
    Calls Try.prog 70 #[TV n p l c, .int .i64 room] w fun e w' => e = .returned (.bool (decide (depth x ≤ room))) ∧ Below w.heap.size w w' := by
  have := isRough_any (toTr x) room n p l c w (lies_is x _ h) hr
  rwa [rough_to] at this

/-- None in it has two leaves of one number as Kids. -/
def short : ID → Bool
  | ⟨.inl _⟩ => true
  | ⟨.inr (x, y)⟩ => !tw x y && short x && short y

set_option maxHeartbeats 1000000 in
set_option maxRecDepth 100000 in
theorem isShort_any : ∀ (x : ID) (n : Int) (p : Option Addr) (l c : Nat) (w : World), Is w x (TV n p l c) →
    Calls Try.prog 71 #[TV n p l c] w fun e w' => e = .returned (.bool (short x)) ∧ Below w.heap.size w w'
  | ⟨.inl b⟩, n, p, l, c, w, h => by
    obtain ⟨p', c', e⟩ := h
    simp at e
    obtain ⟨rfl, rfl, rfl, rfl⟩ := e
    obtain ⟨h1, hbel⟩ := one_box w (bi b) p 0 c _ rfl
    go_enter Try.func71, Try.ntmps71
    go_wp2_with (refine load_t _ rfl rfl _ _ rfl h1.tat ?_)
    refine (isLeaf_any _ p 0 c _).mono ?_
    rintro e w1 ⟨rfl, hb1⟩
    go_wp2
    go_ret
    exact ⟨rfl, below_on hbel hb1⟩
  | ⟨.inr (x, y)⟩, n, p, l, c, w, ⟨g, o, c', n0, p0, l0, c0, n1, p1, l1, c1, e, t0, t1, hx, hy⟩ => by
    simp at e
    obtain ⟨rfl, rfl, rfl, rfl⟩ := e
    obtain ⟨h1, hbel⟩ := one_box w 0 (some ⟨g, o, none⟩) 2 c _ rfl
    have r0 := fun w1 (hb : Below w.heap.size w w1) => isShort_any x n0 p0 l0 c0 w1 (hx.later hb)
    have r1 := fun w1 (hb : Below w.heap.size w w1) => isShort_any y n1 p1 l1 c1 w1 (hy.later hb)
    obtain ⟨e0, e1⟩ := is_parts hx
    obtain ⟨e2, e3⟩ := is_parts hy
    have hC := fun w1 (hb : Below w.heap.size w w1) => alike_any g o c n0 p0 l0 c0 n1 p1 l1 c1 w1 (t0.later hb) (t1.later hb)
    have et : (decide (l0 = 0) && decide (l1 = 0) && n0 == n1) = tw x y := by rw [e0, e1, e2, e3, tw_eq]
    rw [et] at hC
    clear e0 e1 e2 e3 et hx hy
    obtain ⟨z, HZ⟩ : ∃ z, Hid (short (.node x y) = z) := ⟨_, rfl⟩
    rw [HZ.out]
    unfold short at HZ
    generalize tw x y = b at hC HZ
    generalize short x = b0 at r0 HZ
    generalize short y = b1 at r1 HZ
    go_enter Try.func71, Try.ntmps71
    go_wp2_with (refine load_t _ rfl rfl _ _ rfl h1.tat ?_)
    refine (isLeaf_any 0 _ 2 c _).mono ?_
    rintro e w1 ⟨rfl, hb1⟩
    have g1 := (h1.later hb1).cell1
    replace hbel := below_on hbel hb1
    clear hb1 h1
    go_wp2_with fail
    refine (hC _ hbel).mono ?_
    rintro e w2 ⟨rfl, hb1⟩
    replace g1 := cell_later hb1 g1
    replace hbel := below_on hbel hb1
    clear hb1 hC
    cases b
    · have tt0 := t0.later hbel
      go_wp2_with (refine load_t _ rfl rfl _ _ rfl tt0 ?_)
      refine (r0 _ hbel).mono ?_
      rintro e w3 ⟨rfl, hb1⟩
      replace g1 := cell_later hb1 g1
      replace hbel := below_on hbel hb1
      clear hb1 r0 tt0
      cases b0
      · clear t0 t1 r1
        go_wp2
        go_ret
        exact ⟨by rw [← HZ.out]; rfl, hbel⟩
      · have tt1 := t1.later hbel
        clear t0 t1
        go_wp2_with (refine load_t _ rfl rfl _ _ rfl tt1 ?_)
        refine (r1 _ hbel).mono ?_
        rintro e w4 ⟨rfl, hb1⟩
        replace hbel := below_on hbel hb1
        clear hb1 r1 tt1
        go_wp2
        go_ret
        exact ⟨by rw [← HZ.out]; rfl, hbel⟩
    · clear t0 t1 r0 r1
      go_wp2
      go_ret
      exact ⟨by rw [← HZ.out]; rfl, hbel⟩

/-- It may be. -/
def ok (x : ID) : Bool := decide (depth x ≤ 16) && short x
def okT (t : Tr) : Bool := rough t 16 && short (idOf t)

set_option maxHeartbeats 1000000 in
set_option maxRecDepth 100000 in
theorem check_tr (t : Tr) (n : Int) (p : Option Addr) (l c : Nat) (w : World) (h : Lies w t (TV n p l c)) :
    Calls Try.prog 36 #[TV n p l c] w fun e w' => e = .returned (.bool (okT t)) ∧ Below w.heap.size w w' := by
  obtain ⟨h1, hbel⟩ := one_box w n p l c _ rfl
  have r0 := fun w1 (hb : Below w.heap.size w w1) => isRough_any t 16 n p l c w1 (h.later hb) (by omega)
  have r1 := fun w1 (hb : Below w.heap.size w w1) (hr : rough t 16 = true) => isShort_any (idOf t) n p l c w1 ((is_of_lies t 16 _ hr h).1.later hb)
  unfold okT
  generalize rough t 16 = b at r0 r1 ⊢
  generalize short (idOf t) = b1 at r1 ⊢
  clear h
  go_enter Try.func36, Try.ntmps36
  go_wp2_with (refine load_t _ rfl rfl _ _ rfl h1.tat ?_)
  refine (r0 _ hbel).mono ?_
  rintro e w1 ⟨rfl, hb1⟩
  replace h1 := h1.later hb1
  replace hbel := below_on hbel hb1
  cases b
  · go_wp2
    go_ret
    exact ⟨rfl, hbel⟩
  · go_wp2_with (refine load_t _ rfl rfl _ _ rfl h1.tat ?_)
    refine (r1 _ hbel trivial).mono ?_
    rintro e w2 ⟨rfl, hb2⟩
    go_wp2
    go_ret
    exact ⟨rfl, below_on hbel hb2⟩
theorem idOf_to : ∀ x : ID, idOf (toTr x) = x
  | ⟨.inl b⟩ => by cases b <;> rfl
  | ⟨.inr (x, y)⟩ => by rw [toTr, idOf, if_neg (by decide), dif_pos rfl, if_pos rfl, if_neg (by decide), idOf_to x, idOf_to y]
theorem okT_to (x : ID) : okT (toTr x) = ok x := by rw [okT, rough_to, idOf_to]; rfl
theorem check_any (x : ID) (n : Int) (p : Option Addr) (l c : Nat) (w : World) (h : Is w x (TV n p l c)) :
    Calls Try.prog 36 #[TV n p l c] w fun e w' => e = .returned (.bool (ok x)) ∧ Below w.heap.size w w' := by
  have := check_tr (toTr x) n p l c w (lies_is x _ h)
  rwa [okT_to] at this
end Go.Proofs.Ytmcajjdijjcpkaa.Idn
