/- Facts of operations that load, store and answer trees, in a region that draws its order. -/
import Derived.Test.YtlfbabepbajcjaaSmall
import Derived.Test.YtlfbabepbajcjaaFacts
namespace Go.Proofs.Ytlfbabepbajcjaa
open Go.RowKit

/-- Facts of an operation: its value is v; a tree of x; the box b holds the tree x that operation k came to. -/
def eqF (i : Nat) (v : Value) : Facts.Fact := ([i], fun vs _ => vs = [v])
def isF (i : Nat) (x : EV) : Facts.Fact := ([i], fun vs w => ∃ n p l c, vs = [TV n p l c] ∧ Is w x (TV n p l c))
def bxF (k : Nat) (b : Nat) (x : EV) : Facts.Fact := ([k], fun vs w => ∃ n p l c, vs = [TV n p l c] ∧ Bx w b n p l c ∧ Is w x (TV n p l c))
theorem eqF_get {i : Nat} {v : Value} {x : Nat → Value} {w : World} (h : Facts.holds (eqF i v) x w) : x i = v := by simpa [Facts.holds, eqF] using h
theorem isF_get {i : Nat} {y : EV} {x : Nat → Value} {w : World} (h : Facts.holds (isF i y) x w) : ∃ n p l c, x i = TV n p l c ∧ Is w y (TV n p l c) := by simpa [Facts.holds, isF] using h
theorem bxF_get {k b : Nat} {y : EV} {x : Nat → Value} {w : World} (h : Facts.holds (bxF k b y) x w) : ∃ n p l c, x k = TV n p l c ∧ Bx w b n p l c ∧ Is w y (TV n p l c) := by simpa [Facts.holds, bxF] using h
theorem isF_put {i : Nat} {y : EV} {x : Nat → Value} {w : World} {n : Int} {p : Option Addr} {l c : Nat} (h : Is w y (TV n p l c)) : Facts.holds (isF i y) (Facts.put x i (TV n p l c)) w := ⟨n, p, l, c, by simp [Facts.put, isF], h⟩
def staysF (f : Facts.Fact) : Prop := ∀ vs w w', f.2 vs w → Below w.heap.size w w' → f.2 vs w'
theorem eqF_stays (i : Nat) (v : Value) : staysF (eqF i v) := fun _ _ _ h _ => h
theorem isF_stays (i : Nat) (x : EV) : staysF (isF i x) := fun _ _ _ ⟨n, p, l, c, e, h⟩ hb => ⟨n, p, l, c, e, h.later hb⟩
theorem bxF_stays (k b : Nat) (x : EV) : staysF (bxF k b x) := fun _ _ _ ⟨n, p, l, c, e, h, h'⟩ hb => ⟨n, p, l, c, e, h.later hb, h'.later hb⟩
theorem stay_of {F : List Facts.Fact} (h : ∀ f ∈ F, staysF f) : Facts.Stay F := fun _ f hj => h f (List.mem_of_getElem? hj)
/-- Facts that stay when a box is written. -/
def boxF (f : Facts.Fact) (q : Nat) : Prop := ∀ vs w n p l c, f.2 vs w → (∃ n p l c, Bx w q n p l c) → f.2 vs (w.setRow q #[.int .i64 n, .slice p l c])
theorem eqF_box (i : Nat) (v : Value) (q : Nat) : boxF (eqF i v) q := fun _ _ _ _ _ _ h _ => h
theorem isF_box (i : Nat) (x : EV) (q : Nat) : boxF (isF i x) q := fun _ _ _ _ _ _ ⟨n, p, l, c, e, h⟩ ⟨_, _, _, _, hq⟩ => ⟨n, p, l, c, e, h.box hq _⟩
theorem bxF_box (k b : Nat) (x : EV) (q : Nat) (hne : b ≠ q) : boxF (bxF k b x) q := fun _ _ _ _ _ _ ⟨n, p, l, c, e, h, h'⟩ ⟨_, _, _, _, hq⟩ => ⟨n, p, l, c, e, h.rowOther hne _, h'.box hq _⟩
/-- A tree and a number; a new box; what a new box holds. -/
def teF (i : Nat) (x : EV) (r : Int) : Facts.Fact := ([i], fun vs w => ∃ n p l c, vs = [.tuple #[TV n p l c, .int .i64 r]] ∧ Is w x (TV n p l c))
def alF (i N : Nat) : Facts.Fact := ([i], fun vs w => ∃ q n p l c, vs = [.pointer (some ⟨q, 0, none⟩)] ∧ N ≤ q ∧ Bx w q n p l c)
def sbF (m k N : Nat) (x : EV) : Facts.Fact := ([m, k], fun vs w => ∃ q n p l c, vs = [.pointer (some ⟨q, 0, none⟩), TV n p l c] ∧ N ≤ q ∧ Bx w q n p l c ∧ Is w x (TV n p l c))
theorem teF_get {i : Nat} {y : EV} {r : Int} {x : Nat → Value} {w : World} (h : Facts.holds (teF i y r) x w) : ∃ n p l c, x i = .tuple #[TV n p l c, .int .i64 r] ∧ Is w y (TV n p l c) := by simpa [Facts.holds, teF] using h
theorem alF_get {i N : Nat} {x : Nat → Value} {w : World} (h : Facts.holds (alF i N) x w) : ∃ q n p l c, x i = .pointer (some ⟨q, 0, none⟩) ∧ N ≤ q ∧ Bx w q n p l c := by simpa [Facts.holds, alF] using h
theorem sbF_get {m k N : Nat} {y : EV} {x : Nat → Value} {w : World} (h : Facts.holds (sbF m k N y) x w) : ∃ q n p l c, x m = .pointer (some ⟨q, 0, none⟩) ∧ x k = TV n p l c ∧ N ≤ q ∧ Bx w q n p l c ∧ Is w y (TV n p l c) := by
  obtain ⟨q, n, p, l, c, e, h1, h2, h3⟩ := h
  simp only [sbF, List.map_cons, List.map_nil, List.cons.injEq, and_true] at e
  exact ⟨q, n, p, l, c, e.1, e.2, h1, h2, h3⟩
theorem teF_stays (i : Nat) (x : EV) (r : Int) : staysF (teF i x r) := fun _ _ _ ⟨n, p, l, c, e, h⟩ hb => ⟨n, p, l, c, e, h.later hb⟩
theorem alF_stays (i N : Nat) : staysF (alF i N) := fun _ _ _ ⟨q, n, p, l, c, e, hN, h⟩ hb => ⟨q, n, p, l, c, e, hN, h.later hb⟩
theorem sbF_stays (m k N : Nat) (x : EV) : staysF (sbF m k N x) := fun _ _ _ ⟨q, n, p, l, c, e, hN, h, h'⟩ hb => ⟨q, n, p, l, c, e, hN, h.later hb, h'.later hb⟩
theorem teF_box (i : Nat) (x : EV) (r : Int) (q : Nat) : boxF (teF i x r) q := fun _ _ _ _ _ _ ⟨n, p, l, c, e, h⟩ ⟨_, _, _, _, hq⟩ => ⟨n, p, l, c, e, h.box hq _⟩
theorem alF_box (i N q : Nat) : boxF (alF i N) q := fun _ _ n' p' l' c' ⟨q', n, p, l, c, e, hN, h⟩ ⟨_, _, _, _, hq⟩ => by
  by_cases eq : q' = q
  · subst eq; exact ⟨q', n', p', l', c', e, hN, hq.row n' p' l' c'⟩
  · exact ⟨q', n, p, l, c, e, hN, h.rowOther eq _⟩
theorem sbF_box (m k N : Nat) (x : EV) (q : Nat) (hq : q < N) : boxF (sbF m k N x) q := fun _ _ _ _ _ _ ⟨q', n, p, l, c, e, hN, h, h'⟩ ⟨_, _, _, _, hb⟩ => ⟨q', n, p, l, c, e, hN, h.rowOther (by omega) _, h'.box hb _⟩

theorem wp_load_t {op : Oper} {a : Act} {w : World} {K : Act → World → Prop} {Q : Exit → Act → World → Prop} (x : Operand) (ho : op.op = .load 24 x) (b f : Nat) (hx : a.eval x = .pointer (some ⟨b, f, none⟩)) {n : Int} {p : Option Addr} {l c : Nat} (hc : Tat w b f n p l c)
    (h : K (a.put op.dst (TV n p l c)) w) : op.wp Try.prog a w K Q := by
  unfold Oper.wp execOp
  simp only [ho, hx, Sem.run_bind, hc.load, Result.andThen_ok, Sem.run_pure]
  exact h
theorem wp_store_t {op : Oper} {a : Act} {w : World} {K : Act → World → Prop} {Q : Exit → Act → World → Prop} (x y : Operand) (ho : op.op = .store 24 x y) (b : Nat) (n : Int) (p : Option Addr) (l c : Nat) (hx : a.eval x = .pointer (some ⟨b, 0, none⟩)) (hy : a.eval y = TV n p l c) {n0 : Int} {p0 : Option Addr} {l0 c0 : Nat} (hc : Bx w b n0 p0 l0 c0)
    (h : K (a.put op.dst undef) (w.setRow b #[.int .i64 n, .slice p l c])) : op.wp Try.prog a w K Q := by
  unfold Oper.wp execOp
  simp only [ho, hx, hy, Sem.run_bind, hc.store n p l c, Result.andThen_ok, Sem.run_pure]
  exact h

section
variable {Q : Exit → Act → World → Prop} {S : World → Prop} {md : Region.Mode} {A : (Nat → Value) → Act} {F : List Facts.Fact} {i : Nat} {o : Oper}
/-- A tree is loaded. -/
theorem Facts.loadT (hS : Calm.Stays S) (hF : Facts.Stay F) (hA : ∀ x u, (A x).put o.dst u = A (Facts.put x i u)) (u : Operand) (ho : o.op = .load 24 u) {n : Int} {p : Option Addr} {l c : Nat} (hf : F[i]? = some (eqF i (TV n p l c))) {b f : Nat}
    (hx : ∀ x w, S w → (∀ e ∈ o.after, Region.binds md e = true → ∀ f, F[e.on]? = some f → Facts.holds f x w) → (A x).eval u = .pointer (some ⟨b, f, none⟩)) (hc : ∀ w, S w → Tat w b f n p l c) : Facts.StepOk Try.prog md Q S A F i o :=
  Facts.pure hS hF hA hf fun x w hSw hdep => by
    unfold execOp
    simp only [ho, hx x w hSw hdep, Sem.run_bind, (hc w hSw).load, Result.andThen_ok, Sem.run_pure]
/-- A function is called with trees, and answers a tree. -/
theorem Facts.call1T (hS : Calm.Stays S) (hF : Facts.Stay F) (hA : ∀ x u, (A x).put o.dst u = A (Facts.put x i u)) {fn : FuncId} {ts : Array TypeId} {u : Operand} (ho : o.op = .call { callee := .value (.func fn), args := #[u], argTypes := ts }) (hf : Calm.enters Try.prog fn = true) {z : EV} (hz : F[i]? = some (isF i z))
    (h : ∀ x w, S w → (∀ e ∈ o.after, Region.binds md e = true → ∀ f, F[e.on]? = some f → Facts.holds f x w) → Calls Try.prog fn #[(A x).eval u] w (Gives z w)) : Facts.StepOk Try.prog md Q S A F i o :=
  Facts.call (f := fn) hS hF hA fun x w hSw hdep => ⟨#[(A x).eval u], by
    have e : ∀ args, (callFunc fn args).run Try.prog w = .ok (.enter fn args) w := fun args => Calm.enters_run hf args w
    unfold execOp
    simp [ho, go_sem, Act.eval, e], (h x w hSw hdep).mono fun e w' ⟨n, p, l, c, he, hi, hb⟩ => ⟨_, he, hb, fun f hf' => by
      rw [hz] at hf'
      obtain rfl := Option.some.inj hf'
      exact isF_put hi⟩⟩
theorem Facts.call2T (hS : Calm.Stays S) (hF : Facts.Stay F) (hA : ∀ x u, (A x).put o.dst u = A (Facts.put x i u)) {fn : FuncId} {ts : Array TypeId} {u v : Operand} (ho : o.op = .call { callee := .value (.func fn), args := #[u, v], argTypes := ts }) (hf : Calm.enters Try.prog fn = true) {z : EV} (hz : F[i]? = some (isF i z))
    (h : ∀ x w, S w → (∀ e ∈ o.after, Region.binds md e = true → ∀ f, F[e.on]? = some f → Facts.holds f x w) → Calls Try.prog fn #[(A x).eval u, (A x).eval v] w (Gives z w)) : Facts.StepOk Try.prog md Q S A F i o :=
  Facts.call (f := fn) hS hF hA fun x w hSw hdep => ⟨#[(A x).eval u, (A x).eval v], by
    have e : ∀ args, (callFunc fn args).run Try.prog w = .ok (.enter fn args) w := fun args => Calm.enters_run hf args w
    unfold execOp
    simp [ho, go_sem, Act.eval, e], (h x w hSw hdep).mono fun e w' ⟨n, p, l, c, he, hi, hb⟩ => ⟨_, he, hb, fun f hf' => by
      rw [hz] at hf'
      obtain rfl := Option.some.inj hf'
      exact isF_put hi⟩⟩
/-- A tree that operation k came to is stored in the box b. -/
theorem Facts.storeT (hA : ∀ x u, (A x).put o.dst u = A (Facts.put x i u)) (u v : Operand) (ho : o.op = .store 24 u v) {k b : Nat} {z : EV} (hki : k ≠ i) (hz : F[i]? = some (bxF k b z))
    (hx : ∀ x, (A x).eval u = .pointer (some ⟨b, 0, none⟩)) (hy : ∀ x, (A x).eval v = x k) (hk : ∀ x w, S w → (∀ e ∈ o.after, Region.binds md e = true → ∀ f, F[e.on]? = some f → Facts.holds f x w) → ∃ n p l c, x k = TV n p l c ∧ Is w z (TV n p l c))
    (hb : ∀ w, S w → (∃ n p l c, Bx w b n p l c) ∧ ∀ n p l c, S (w.setRow b #[.int .i64 n, .slice p l c])) (hoth : ∀ (j : Nat) (f : Facts.Fact), j ≠ i → F[j]? = some f → boxF f b) : Facts.StepOk Try.prog md Q S A F i o := by
  intro x w hSw hdep
  obtain ⟨n, p, l, c, e, hi⟩ := hk x w hSw hdep
  obtain ⟨⟨n0, p0, l0, c0, hbx⟩, hS'⟩ := hb w hSw
  refine wp_store_t u v ho b n p l c (hx x) ((hy x).trans e) hbx ?_
  refine ⟨undef, hA x undef, hS' n p l c, fun f hf' => ?_, fun j f hj hfj hh => hoth j f hj hfj _ _ n p l c hh ⟨_, _, _, _, hbx⟩⟩
  rw [hz] at hf'
  obtain rfl := Option.some.inj hf'
  exact ⟨n, p, l, c, by simp [Facts.put, bxF, hki, e], hbx.row n p l c, hi.box hbx _⟩
/-- A function is called with two trees, and answers a tree and a number. -/
theorem Facts.call2E (hS : Calm.Stays S) (hF : Facts.Stay F) (hA : ∀ x u, (A x).put o.dst u = A (Facts.put x i u)) {fn : FuncId} {ts : Array TypeId} {u v : Operand} (ho : o.op = .call { callee := .value (.func fn), args := #[u, v], argTypes := ts }) (hf : Calm.enters Try.prog fn = true) {z : EV} {r : Int} (hz : F[i]? = some (teF i z r))
    (h : ∀ x w, S w → (∀ e ∈ o.after, Region.binds md e = true → ∀ f, F[e.on]? = some f → Facts.holds f x w) → Calls Try.prog fn #[(A x).eval u, (A x).eval v] w fun e w' => ∃ n p l c, e = .returned (.tuple #[TV n p l c, .int .i64 r]) ∧ Is w' z (TV n p l c) ∧ Below w.heap.size w w') : Facts.StepOk Try.prog md Q S A F i o :=
  Facts.call (f := fn) hS hF hA fun x w hSw hdep => ⟨#[(A x).eval u, (A x).eval v], by
    have e : ∀ args, (callFunc fn args).run Try.prog w = .ok (.enter fn args) w := fun args => Calm.enters_run hf args w
    unfold execOp
    simp [ho, go_sem, Act.eval, e], (h x w hSw hdep).mono fun e w' ⟨n, p, l, c, he, hi, hb⟩ => ⟨_, he, hb, fun f hf' => by
      rw [hz] at hf'
      obtain rfl := Option.some.inj hf'
      exact ⟨n, p, l, c, by simp [Facts.put, teF], hi⟩⟩⟩
/-- A tree and a number are handed on; the tree is taken out. -/
theorem Facts.moveE (hS : Calm.Stays S) (hF : Facts.Stay F) (hA : ∀ x u, (A x).put o.dst u = A (Facts.put x i u)) {u : Operand} (ho : o.op = .move u) {k : Nat} {z : EV} {r : Int} (hz : F[i]? = some (teF i z r)) (hu : ∀ x, (A x).eval u = x k)
    (h : ∀ x w, S w → (∀ e ∈ o.after, Region.binds md e = true → ∀ f, F[e.on]? = some f → Facts.holds f x w) → Facts.holds (teF k z r) x w) : Facts.StepOk Try.prog md Q S A F i o :=
  Facts.step hS hF hA fun x w hSw hdep => by
    obtain ⟨n, p, l, c, e, hi⟩ := teF_get (h x w hSw hdep)
    unfold Oper.wp execOp
    simp only [ho, hu x, e, Sem.run_pure]
    refine ⟨_, rfl, Below.refl _ _, fun f hf' => ?_⟩
    rw [hz] at hf'
    obtain rfl := Option.some.inj hf'
    exact ⟨n, p, l, c, by simp [Facts.put, teF], hi⟩
theorem Facts.fstE (hS : Calm.Stays S) (hF : Facts.Stay F) (hA : ∀ x u, (A x).put o.dst u = A (Facts.put x i u)) {u : Operand} (ho : o.op = .extract u 0) {k : Nat} {z : EV} {r : Int} (hz : F[i]? = some (isF i z)) (hu : ∀ x, (A x).eval u = x k)
    (h : ∀ x w, S w → (∀ e ∈ o.after, Region.binds md e = true → ∀ f, F[e.on]? = some f → Facts.holds f x w) → Facts.holds (teF k z r) x w) : Facts.StepOk Try.prog md Q S A F i o :=
  Facts.step hS hF hA fun x w hSw hdep => by
    obtain ⟨n, p, l, c, e, hi⟩ := teF_get (h x w hSw hdep)
    have hr : (execOp (A x).eval o).run Try.prog w = .ok (.value (TV n p l c)) w := by
      have hv := (hu x).trans e
      generalize (A x).eval = ρ at hv
      unfold execOp
      simp [ho, hv, go_sem]
    unfold Oper.wp
    rw [hr]
    refine ⟨_, rfl, Below.refl _ _, fun f hf' => ?_⟩
    rw [hz] at hf'
    obtain rfl := Option.some.inj hf'
    exact isF_put hi
theorem Facts.sndE (hS : Calm.Stays S) (hF : Facts.Stay F) (hA : ∀ x u, (A x).put o.dst u = A (Facts.put x i u)) {u : Operand} (ho : o.op = .extract u 1) {k : Nat} {z : EV} {r : Int} (hz : F[i]? = some (eqF i (.int .i64 r))) (hu : ∀ x, (A x).eval u = x k)
    (h : ∀ x w, S w → (∀ e ∈ o.after, Region.binds md e = true → ∀ f, F[e.on]? = some f → Facts.holds f x w) → Facts.holds (teF k z r) x w) : Facts.StepOk Try.prog md Q S A F i o :=
  Facts.pure hS hF hA hz fun x w hSw hdep => by
    obtain ⟨n, p, l, c, e, hi⟩ := teF_get (h x w hSw hdep)
    have hv := (hu x).trans e
    generalize (A x).eval = ρ at hv
    unfold execOp
    simp [ho, hv, go_sem]
/-- A new box. -/
theorem Facts.allocT (hS : Calm.Stays S) (hF : Facts.Stay F) (hA : ∀ x u, (A x).put o.dst u = A (Facts.put x i u)) (ho : o.op = .alloc 24) {N : Nat} (hz : F[i]? = some (alF i N)) (hN : ∀ w, S w → N ≤ w.heap.size) : Facts.StepOk Try.prog md Q S A F i o :=
  Facts.step hS hF hA fun x w hSw hdep => by
    have hr : (execOp (A x).eval o).run Try.prog w = .ok (.value (.pointer (some ⟨w.heap.size, 0, none⟩))) (w.alloc (.cells #[.int .i64 0, .slice none 0 0] 24)) := by
      unfold execOp
      generalize (A x).eval = ρ
      simp [ho, go_sem]
    unfold Oper.wp
    rw [hr]
    refine ⟨_, rfl, (Below.refl _ _).alloc (Nat.le_refl _) _, fun f hf' => ?_⟩
    rw [hz] at hf'
    obtain rfl := Option.some.inj hf'
    exact ⟨w.heap.size, 0, none, 0, 0, by simp [Facts.put, alF], hN w hSw, bx_new w 0 none 0 0⟩
/-- A tree that operation k came to is stored in the new box that operation m made. -/
theorem Facts.storeP (hA : ∀ x u, (A x).put o.dst u = A (Facts.put x i u)) (u v : Operand) (ho : o.op = .store 24 u v) {m k N : Nat} {z : EV} (hmi : m ≠ i) (hki : k ≠ i) (hz : F[i]? = some (sbF m k N z))
    (hx : ∀ x, (A x).eval u = x m) (hy : ∀ x, (A x).eval v = x k) (hm : ∀ x w, S w → (∀ e ∈ o.after, Region.binds md e = true → ∀ f, F[e.on]? = some f → Facts.holds f x w) → Facts.holds (alF m N) x w ∧ Facts.holds (isF k z) x w)
    (hb : ∀ w q n p l c n' p' l' c', S w → N ≤ q → Bx w q n' p' l' c' → S (w.setRow q #[.int .i64 n, .slice p l c])) (hoth : ∀ (j : Nat) (f : Facts.Fact), j ≠ i → F[j]? = some f → ∀ q, N ≤ q → boxF f q) : Facts.StepOk Try.prog md Q S A F i o := by
  intro x w hSw hdep
  obtain ⟨h1, h2⟩ := hm x w hSw hdep
  obtain ⟨q, n0, p0, l0, c0, eq, hq, hbx⟩ := alF_get h1
  obtain ⟨n, p, l, c, e, hi⟩ := isF_get h2
  refine wp_store_t u v ho q n p l c ((hx x).trans eq) ((hy x).trans e) hbx ?_
  refine ⟨undef, hA x undef, hb w q n p l c _ _ _ _ hSw hq hbx, fun f hf' => ?_, fun j f hj hfj hh => hoth j f hj hfj q hq _ _ n p l c hh ⟨_, _, _, _, hbx⟩⟩
  rw [hz] at hf'
  obtain rfl := Option.some.inj hf'
  exact ⟨q, n, p, l, c, by simp [Facts.put, sbF, hki, hmi, e, eq], hq, hbx.row n p l c, hi.box hbx _⟩
end

/-- A slice of two trees; what lifter made. -/
def rsF (i : Nat) (x y : EV) : Facts.Fact := ([i], fun vs w => ∃ q n p l c n' p' l' c', vs = [.slice (some ⟨q, 0, none⟩) 2 2] ∧ Tat w q 0 n p l c ∧ Tat w q 2 n' p' l' c' ∧ Is w x (TV n p l c) ∧ Is w y (TV n' p' l' c'))
theorem rsF_get {i : Nat} {y z : EV} {x : Nat → Value} {w : World} (h : Facts.holds (rsF i y z) x w) : ∃ q n p l c n' p' l' c', x i = .slice (some ⟨q, 0, none⟩) 2 2 ∧ Tat w q 0 n p l c ∧ Tat w q 2 n' p' l' c' ∧ Is w y (TV n p l c) ∧ Is w z (TV n' p' l' c') := by simpa [Facts.holds, rsF] using h
theorem rsF_stays (i : Nat) (x y : EV) : staysF (rsF i x y) := fun _ _ _ ⟨q, n, p, l, c, n', p', l', c', e, t, t', h, h'⟩ hb => ⟨q, n, p, l, c, n', p', l', c', e, t.later hb, t'.later hb, h.later hb, h'.later hb⟩
theorem rsF_box (i : Nat) (x y : EV) (q : Nat) : boxF (rsF i x y) q := fun _ _ _ _ _ _ ⟨q', n, p, l, c, n', p', l', c', e, t, t', h, h'⟩ ⟨_, _, _, _, hq⟩ => ⟨q', n, p, l, c, n', p', l', c', e, t.box_lo hq t' _, t'.box_hi hq _, h.box hq _, h'.box hq _⟩

section
variable {Q : Exit → Act → World → Prop} {S : World → Prop} {md : Region.Mode} {A : (Nat → Value) → Act} {F : List Facts.Fact} {i : Nat} {o : Oper}
/-- What lifter made is called with a tree. -/
theorem Facts.callC (hS : Calm.Stays S) (hF : Facts.Stay F) (hA : ∀ x u, (A x).put o.dst u = A (Facts.put x i u)) {ts : Array TypeId} {u0 u : Operand} (ho : o.op = .call { callee := .value u0, args := #[u], argTypes := ts }) {z : EV} {b : Nat} (hz : F[i]? = some (isF i z))
    (h : ∀ x w, S w → (∀ e ∈ o.after, Region.binds md e = true → ∀ f, F[e.on]? = some f → Facts.holds f x w) → (A x).eval u0 = LF b ∧ Calls Try.prog 48 #[(A x).eval u, .pointer (some ⟨b, 0, none⟩)] w (Gives z w)) : Facts.StepOk Try.prog md Q S A F i o :=
  Facts.call (f := 48) hS hF hA fun x w hSw hdep => ⟨#[(A x).eval u, .pointer (some ⟨b, 0, none⟩)], by
    have e : ∀ args, (callFunc 48 args).run Try.prog w = .ok (.enter 48 args) w := fun args => Calm.enters_run (by kernel_rfl) args w
    have hv := (h x w hSw hdep).1
    generalize (A x).eval = ρ at hv
    unfold execOp
    simp [ho, go_sem, hv, e], (h x w hSw hdep).2.mono fun e w' ⟨n, p, l, c, he, hi, hb⟩ => ⟨_, he, hb, fun f hf' => by
      rw [hz] at hf'
      obtain rfl := Option.some.inj hf'
      exact isF_put hi⟩⟩
/-- A slice of two trees is built. -/
theorem Facts.sliceT (hS : Calm.Stays S) (hF : Facts.Stay F) (hA : ∀ x u, (A x).put o.dst u = A (Facts.put x i u)) {u v : Operand} (ho : o.op = .buildSlice 22 2 #[(0, u), (1, v)]) {j k : Nat} {y z : EV} (hz : F[i]? = some (rsF i y z)) (hu : ∀ x, (A x).eval u = x j) (hv : ∀ x, (A x).eval v = x k)
    (h : ∀ x w, S w → (∀ e ∈ o.after, Region.binds md e = true → ∀ f, F[e.on]? = some f → Facts.holds f x w) → Facts.holds (isF j y) x w ∧ Facts.holds (isF k z) x w) : Facts.StepOk Try.prog md Q S A F i o :=
  Facts.step hS hF hA fun x w hSw hdep => by
    obtain ⟨h1, h2⟩ := h x w hSw hdep
    obtain ⟨n, p, l, c, e, hi⟩ := isF_get h1
    obtain ⟨n', p', l', c', e', hi'⟩ := isF_get h2
    have eu := (hu x).trans e
    have ev := (hv x).trans e'
    have hr : (execOp (A x).eval o).run Try.prog w = .ok (.value (.slice (some ⟨w.heap.size, 0, none⟩) 2 2)) (w.alloc (.cells #[.int .i64 n, .slice p l c, .int .i64 n', .slice p' l' c'] 24)) := by
      unfold execOp
      generalize (A x).eval = ρ at eu ev
      simp [ho, go_sem, eu, ev]
    obtain ⟨t1, t2, hb⟩ := row_tats w n p l c n' p' l' c' _ rfl
    unfold Oper.wp
    rw [hr]
    refine ⟨_, rfl, hb, fun f hf' => ?_⟩
    rw [hz] at hf'
    obtain rfl := Option.some.inj hf'
    exact ⟨w.heap.size, n, p, l, c, n', p', l', c', by simp [Facts.put, rsF], t1, t2, hi.later hb, hi'.later hb⟩
/-- A tree of a number and a slice of two is built. -/
theorem Facts.buildT (hS : Calm.Stays S) (hF : Facts.Stay F) (hA : ∀ x u, (A x).put o.dst u = A (Facts.put x i u)) {u v : Operand} (ho : o.op = .build 24 #[(0, u), (1, v)]) {k : Nat} {m : Int} {y z : EV} (hz : F[i]? = some (isF i (.node m y z))) (hv : ∀ x, (A x).eval v = x k)
    (h : ∀ x w, S w → (∀ e ∈ o.after, Region.binds md e = true → ∀ f, F[e.on]? = some f → Facts.holds f x w) → (A x).eval u = .int .i64 m ∧ Facts.holds (rsF k y z) x w) : Facts.StepOk Try.prog md Q S A F i o :=
  Facts.step hS hF hA fun x w hSw hdep => by
    obtain ⟨eu, h2⟩ := h x w hSw hdep
    obtain ⟨q, n, p, l, c, n', p', l', c', e', t, t', hi, hi'⟩ := rsF_get h2
    have ev := (hv x).trans e'
    have hr : (execOp (A x).eval o).run Try.prog w = .ok (.value (TV m (some ⟨q, 0, none⟩) 2 2)) w := by
      unfold execOp
      generalize (A x).eval = ρ at eu ev
      simp [ho, go_sem, eu, ev]
    unfold Oper.wp
    rw [hr]
    refine ⟨_, rfl, Below.refl _ _, fun f hf' => ?_⟩
    rw [hz] at hf'
    obtain rfl := Option.some.inj hf'
    exact isF_put ⟨q, 0, 2, n, p, l, c, n', p', l', c', rfl, t, t', hi, hi'⟩
end
end Go.Proofs.Ytlfbabepbajcjaa
