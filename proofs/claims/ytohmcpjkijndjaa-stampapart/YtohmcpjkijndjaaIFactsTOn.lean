import Derived.Test.YtohmcpjkijndjaaIPairOn
import Derived.Test.YtohmcpjkijndjaaOwedOn
import Derived.Test.YtohmcpjkijndjaaCalmOn
/- Facts of operations that load, store and answer trees, in a region that draws its order. -/
namespace Go.Proofs.Ytohmcpjkijndjaa.Idn
open Go.RowKit

/-- Made shorter. -/
def norm : ID → ID
  | ⟨.inl b⟩ => .leaf b
  | ⟨.inr (x, y)⟩ => mk (norm x) (norm y)

/-- Facts of an operation: its value is v; a tree of x; the box b holds the tree x that operation k came to. -/
def eqF (i : Nat) (v : Value) : Facts.Fact := ([i], fun vs _ => vs = [v])
def isF (i : Nat) (x : ID) : Facts.Fact := ([i], fun vs w => ∃ n p l c, vs = [TV n p l c] ∧ Is w x (TV n p l c))
def bxF (k : Nat) (b : Nat) (x : ID) : Facts.Fact := ([k], fun vs w => ∃ n p l c, vs = [TV n p l c] ∧ Bx w b n p l c ∧ Is w x (TV n p l c))
theorem eqF_get {i : Nat} {v : Value} {x : Nat → Value} {w : World} (h : Facts.holds (eqF i v) x w) : x i = v := by simpa [Facts.holds, eqF] using h
theorem isF_get {i : Nat} {y : ID} {x : Nat → Value} {w : World} (h : Facts.holds (isF i y) x w) : ∃ n p l c, x i = TV n p l c ∧ Is w y (TV n p l c) := by simpa [Facts.holds, isF] using h
theorem bxF_get {k b : Nat} {y : ID} {x : Nat → Value} {w : World} (h : Facts.holds (bxF k b y) x w) : ∃ n p l c, x k = TV n p l c ∧ Bx w b n p l c ∧ Is w y (TV n p l c) := by simpa [Facts.holds, bxF] using h
theorem isF_put {i : Nat} {y : ID} {x : Nat → Value} {w : World} {n : Int} {p : Option Addr} {l c : Nat} (h : Is w y (TV n p l c)) : Facts.holds (isF i y) (Facts.put x i (TV n p l c)) w := ⟨n, p, l, c, by simp [Facts.put, isF], h⟩
def staysF (f : Facts.Fact) : Prop := ∀ vs w w', f.2 vs w → Below w.heap.size w w' → f.2 vs w'
theorem eqF_stays (i : Nat) (v : Value) : staysF (eqF i v) := fun _ _ _ h _ => h
theorem isF_stays (i : Nat) (x : ID) : staysF (isF i x) := fun _ _ _ ⟨n, p, l, c, e, h⟩ hb => ⟨n, p, l, c, e, h.later hb⟩
theorem bxF_stays (k b : Nat) (x : ID) : staysF (bxF k b x) := fun _ _ _ ⟨n, p, l, c, e, h, h'⟩ hb => ⟨n, p, l, c, e, h.later hb, h'.later hb⟩
theorem stay_of {F : List Facts.Fact} (h : ∀ f ∈ F, staysF f) : Facts.Stay F := fun _ f hj => h f (List.mem_of_getElem? hj)
/-- Facts that stay when a box is written. -/
def boxF (f : Facts.Fact) (q : Nat) : Prop := ∀ vs w n p l c, f.2 vs w → (∃ n p l c, Bx w q n p l c) → f.2 vs (w.setRow q #[.int .i64 n, .slice p l c])
theorem eqF_box (i : Nat) (v : Value) (q : Nat) : boxF (eqF i v) q := fun _ _ _ _ _ _ h _ => h
theorem isF_box (i : Nat) (x : ID) (q : Nat) : boxF (isF i x) q := fun _ _ _ _ _ _ ⟨n, p, l, c, e, h⟩ ⟨_, _, _, _, hq⟩ => ⟨n, p, l, c, e, h.box hq _⟩
theorem bxF_box (k b : Nat) (x : ID) (q : Nat) (hne : b ≠ q) : boxF (bxF k b x) q := fun _ _ _ _ _ _ ⟨n, p, l, c, e, h, h'⟩ ⟨_, _, _, _, hq⟩ => ⟨n, p, l, c, e, h.rowOther hne _, h'.box hq _⟩
/-- A tree and a number; a new box; what a new box holds. -/
def teF (i : Nat) (x : ID) (r : Int) : Facts.Fact := ([i], fun vs w => ∃ n p l c, vs = [.tuple #[TV n p l c, .int .i64 r]] ∧ Is w x (TV n p l c))
def alF (i N : Nat) : Facts.Fact := ([i], fun vs w => ∃ q n p l c, vs = [.pointer (some ⟨q, 0, none⟩)] ∧ N ≤ q ∧ Bx w q n p l c)
def sbF (m k N : Nat) (x : ID) : Facts.Fact := ([m, k], fun vs w => ∃ q n p l c, vs = [.pointer (some ⟨q, 0, none⟩), TV n p l c] ∧ N ≤ q ∧ Bx w q n p l c ∧ Is w x (TV n p l c))
theorem teF_get {i : Nat} {y : ID} {r : Int} {x : Nat → Value} {w : World} (h : Facts.holds (teF i y r) x w) : ∃ n p l c, x i = .tuple #[TV n p l c, .int .i64 r] ∧ Is w y (TV n p l c) := by simpa [Facts.holds, teF] using h
theorem alF_get {i N : Nat} {x : Nat → Value} {w : World} (h : Facts.holds (alF i N) x w) : ∃ q n p l c, x i = .pointer (some ⟨q, 0, none⟩) ∧ N ≤ q ∧ Bx w q n p l c := by simpa [Facts.holds, alF] using h
theorem sbF_get {m k N : Nat} {y : ID} {x : Nat → Value} {w : World} (h : Facts.holds (sbF m k N y) x w) : ∃ q n p l c, x m = .pointer (some ⟨q, 0, none⟩) ∧ x k = TV n p l c ∧ N ≤ q ∧ Bx w q n p l c ∧ Is w y (TV n p l c) := by
  obtain ⟨q, n, p, l, c, e, h1, h2, h3⟩ := h
  simp only [sbF, List.map_cons, List.map_nil, List.cons.injEq, and_true] at e
  exact ⟨q, n, p, l, c, e.1, e.2, h1, h2, h3⟩
theorem teF_stays (i : Nat) (x : ID) (r : Int) : staysF (teF i x r) := fun _ _ _ ⟨n, p, l, c, e, h⟩ hb => ⟨n, p, l, c, e, h.later hb⟩
theorem alF_stays (i N : Nat) : staysF (alF i N) := fun _ _ _ ⟨q, n, p, l, c, e, hN, h⟩ hb => ⟨q, n, p, l, c, e, hN, h.later hb⟩
theorem sbF_stays (m k N : Nat) (x : ID) : staysF (sbF m k N x) := fun _ _ _ ⟨q, n, p, l, c, e, hN, h, h'⟩ hb => ⟨q, n, p, l, c, e, hN, h.later hb, h'.later hb⟩
theorem teF_box (i : Nat) (x : ID) (r : Int) (q : Nat) : boxF (teF i x r) q := fun _ _ _ _ _ _ ⟨n, p, l, c, e, h⟩ ⟨_, _, _, _, hq⟩ => ⟨n, p, l, c, e, h.box hq _⟩
theorem alF_box (i N q : Nat) : boxF (alF i N) q := fun _ _ n' p' l' c' ⟨q', n, p, l, c, e, hN, h⟩ ⟨_, _, _, _, hq⟩ => by
  by_cases eq : q' = q
  · subst eq; exact ⟨q', n', p', l', c', e, hN, hq.row n' p' l' c'⟩
  · exact ⟨q', n, p, l, c, e, hN, h.rowOther eq _⟩
theorem sbF_box (m k N : Nat) (x : ID) (q : Nat) (hq : q < N) : boxF (sbF m k N x) q := fun _ _ _ _ _ _ ⟨q', n, p, l, c, e, hN, h, h'⟩ ⟨_, _, _, _, hb⟩ => ⟨q', n, p, l, c, e, hN, h.rowOther (by omega) _, h'.box hb _⟩

theorem wp_load_t {op : Oper} {a : Act} {w : World} {K : Act → World → Prop} {Q : Exit → Act → World → Prop} (x : Operand) (ho : op.op = .load 24 x) (b f : Nat) (hx : a.eval x = .pointer (some ⟨b, f, none⟩)) {n : Int} {p : Option Addr} {l c : Nat} (hc : Tat w b f n p l c)
    (h : K (a.put op.dst (TV n p l c)) w) : op.wp Try.prog a w K Q := by
  unfold Oper.wp execOp
  simp only [ho, hx, Sem.run_bind, hc.load, Result.andThen_ok, Sem.run_pure]
  exact h
theorem wp_store_t {op : Oper} {a : Act} {w : World} {K : Act → World → Prop} {Q : Exit → Act → World → Prop} (x y : Operand) (ho : op.op = .store 24 x y) (b : Nat) (n : Int) (p : Option Addr) (l c : Nat) (hx : a.eval x = .pointer (some ⟨b, 0, none⟩)) (hy : a.eval y = TV n p l c) {n0 : Int} {p0 : Option Addr} {l0 c0 : Nat} (hc : Bx w b n0 p0 l0 c0)
    (h : K (a.put op.dst undef) (w.setRow b #[.int .i64 n, .slice p l c])) : op.wp Try.prog a w K Q := by
  unfold Oper.wp execOp
  simp only [ho, hx, hy, Sem.run_bind, hc.store n p l c, Result.andThen_ok, Sem.run_pure]
  exact h

section
variable {Q : Exit → Act → World → Prop} {S : World → Prop} {md : Region.Mode} {A : (Nat → Value) → Act} {F : List Facts.Fact} {i : Nat} {o : Oper}
/-- A tree is loaded. -/
theorem Facts.loadT (hS : Calm.Stays S) (hF : Facts.Stay F) (hA : ∀ x u, (A x).put o.dst u = A (Facts.put x i u)) (u : Operand) (ho : o.op = .load 24 u) {n : Int} {p : Option Addr} {l c : Nat} (hf : F[i]? = some (eqF i (TV n p l c))) {b f : Nat}
    (hx : ∀ x w, S w → (∀ e ∈ o.after, Region.binds md e = true → ∀ f, F[e.on]? = some f → Facts.holds f x w) → (A x).eval u = .pointer (some ⟨b, f, none⟩)) (hc : ∀ w, S w → Tat w b f n p l c) : Facts.StepOk Try.prog md Q S A F i o :=
  Facts.pure hS hF hA hf fun x w hSw hdep => by
    unfold execOp
    simp only [ho, hx x w hSw hdep, Sem.run_bind, (hc w hSw).load, Result.andThen_ok, Sem.run_pure]
/-- A function is called with trees, and answers a tree. -/
theorem Facts.call1T (hS : Calm.Stays S) (hF : Facts.Stay F) (hA : ∀ x u, (A x).put o.dst u = A (Facts.put x i u)) {fn : FuncId} {ts : Array TypeId} {u : Operand} (ho : o.op = .call { callee := .value (.func fn), args := #[u], argTypes := ts }) (hf : Calm.enters Try.prog fn = true) {z : ID} (hz : F[i]? = some (isF i z))
    (h : ∀ x w, S w → (∀ e ∈ o.after, Region.binds md e = true → ∀ f, F[e.on]? = some f → Facts.holds f x w) → Calls Try.prog fn #[(A x).eval u] w (Gives z w)) : Facts.StepOk Try.prog md Q S A F i o :=
  Facts.call (f := fn) hS hF hA fun x w hSw hdep => ⟨#[(A x).eval u], by
    have e : ∀ args, (callFunc fn args).run Try.prog w = .ok (.enter fn args) w := fun args => Calm.enters_run hf args w
    unfold execOp
    simp [ho, go_sem, Act.eval, e], (h x w hSw hdep).mono fun e w' ⟨n, p, l, c, he, hi, hb⟩ => ⟨_, he, hb, fun f hf' => by
      rw [hz] at hf'
      obtain rfl := Option.some.inj hf'
      exact isF_put hi⟩⟩
theorem Facts.call2T (hS : Calm.Stays S) (hF : Facts.Stay F) (hA : ∀ x u, (A x).put o.dst u = A (Facts.put x i u)) {fn : FuncId} {ts : Array TypeId} {u v : Operand} (ho : o.op = .call { callee := .value (.func fn), args := #[u, v], argTypes := ts }) (hf : Calm.enters Try.prog fn = true) {z : ID} (hz : F[i]? = some (isF i z))
    (h : ∀ x w, S w → (∀ e ∈ o.after, Region.binds md e = true → ∀ f, F[e.on]? = some f → Facts.holds f x w) → Calls Try.prog fn #[(A x).eval u, (A x).eval v] w (Gives z w)) : Facts.StepOk Try.prog md Q S A F i o :=
  Facts.call (f := fn) hS hF hA fun x w hSw hdep => ⟨#[(A x).eval u, (A x).eval v], by
    have e : ∀ args, (callFunc fn args).run Try.prog w = .ok (.enter fn args) w := fun args => Calm.enters_run hf args w
    unfold execOp
    simp [ho, go_sem, Act.eval, e], (h x w hSw hdep).mono fun e w' ⟨n, p, l, c, he, hi, hb⟩ => ⟨_, he, hb, fun f hf' => by
      rw [hz] at hf'
      obtain rfl := Option.some.inj hf'
      exact isF_put hi⟩⟩
/-- A tree that operation k came to is stored in the box b. -/
theorem Facts.storeT (hA : ∀ x u, (A x).put o.dst u = A (Facts.put x i u)) (u v : Operand) (ho : o.op = .store 24 u v) {k b : Nat} {z : ID} (hki : k ≠ i) (hz : F[i]? = some (bxF k b z))
    (hx : ∀ x, (A x).eval u = .pointer (some ⟨b, 0, none⟩)) (hy : ∀ x, (A x).eval v = x k) (hk : ∀ x w, S w → (∀ e ∈ o.after, Region.binds md e = true → ∀ f, F[e.on]? = some f → Facts.holds f x w) → ∃ n p l c, x k = TV n p l c ∧ Is w z (TV n p l c))
    (hb : ∀ w, S w → (∃ n p l c, Bx w b n p l c) ∧ ∀ n p l c, S (w.setRow b #[.int .i64 n, .slice p l c])) (hoth : ∀ (j : Nat) (f : Facts.Fact), j ≠ i → F[j]? = some f → boxF f b) : Facts.StepOk Try.prog md Q S A F i o := by
  intro x w hSw hdep
  obtain ⟨n, p, l, c, e, hi⟩ := hk x w hSw hdep
  obtain ⟨⟨n0, p0, l0, c0, hbx⟩, hS'⟩ := hb w hSw
  refine wp_store_t u v ho b n p l c (hx x) ((hy x).trans e) hbx ?_
  refine ⟨undef, hA x undef, hS' n p l c, fun f hf' => ?_, fun j f hj hfj hh => hoth j f hj hfj _ _ n p l c hh ⟨_, _, _, _, hbx⟩⟩
  rw [hz] at hf'
  obtain rfl := Option.some.inj hf'
  exact ⟨n, p, l, c, by simp [Facts.put, bxF, hki, e], hbx.row n p l c, hi.box hbx _⟩
/-- A function is called with two trees, and answers a tree and a number. -/
theorem Facts.call2E (hS : Calm.Stays S) (hF : Facts.Stay F) (hA : ∀ x u, (A x).put o.dst u = A (Facts.put x i u)) {fn : FuncId} {ts : Array TypeId} {u v : Operand} (ho : o.op = .call { callee := .value (.func fn), args := #[u, v], argTypes := ts }) (hf : Calm.enters Try.prog fn = true) {z : ID} {r : Int} (hz : F[i]? = some (teF i z r))
    (h : ∀ x w, S w → (∀ e ∈ o.after, Region.binds md e = true → ∀ f, F[e.on]? = some f → Facts.holds f x w) → Calls Try.prog fn #[(A x).eval u, (A x).eval v] w fun e w' => ∃ n p l c, e = .returned (.tuple #[TV n p l c, .int .i64 r]) ∧ Is w' z (TV n p l c) ∧ Below w.heap.size w w') : Facts.StepOk Try.prog md Q S A F i o :=
  Facts.call (f := fn) hS hF hA fun x w hSw hdep => ⟨#[(A x).eval u, (A x).eval v], by
    have e : ∀ args, (callFunc fn args).run Try.prog w = .ok (.enter fn args) w := fun args => Calm.enters_run hf args w
    unfold execOp
    simp [ho, go_sem, Act.eval, e], (h x w hSw hdep).mono fun e w' ⟨n, p, l, c, he, hi, hb⟩ => ⟨_, he, hb, fun f hf' => by
      rw [hz] at hf'
      obtain rfl := Option.some.inj hf'
      exact ⟨n, p, l, c, by simp [Facts.put, teF], hi⟩⟩⟩
/-- A tree and a number are handed on; the tree is taken out. -/
theorem Facts.moveE (hS : Calm.Stays S) (hF : Facts.Stay F) (hA : ∀ x u, (A x).put o.dst u = A (Facts.put x i u)) {u : Operand} (ho : o.op = .move u) {k : Nat} {z : ID} {r : Int} (hz : F[i]? = some (teF i z r)) (hu : ∀ x, (A x).eval u = x k)
    (h : ∀ x w, S w → (∀ e ∈ o.after, Region.binds md e = true → ∀ f, F[e.on]? = some f → Facts.holds f x w) → Facts.holds (teF k z r) x w) : Facts.StepOk Try.prog md Q S A F i o :=
  Facts.step hS hF hA fun x w hSw hdep => by
    obtain ⟨n, p, l, c, e, hi⟩ := teF_get (h x w hSw hdep)
    unfold Oper.wp execOp
    simp only [ho, hu x, e, Sem.run_pure]
    refine ⟨_, rfl, Below.refl _ _, fun f hf' => ?_⟩
    rw [hz] at hf'
    obtain rfl := Option.some.inj hf'
    exact ⟨n, p, l, c, by simp [Facts.put, teF], hi⟩
theorem Facts.fstE (hS : Calm.Stays S) (hF : Facts.Stay F) (hA : ∀ x u, (A x).put o.dst u = A (Facts.put x i u)) {u : Operand} (ho : o.op = .extract u 0) {k : Nat} {z : ID} {r : Int} (hz : F[i]? = some (isF i z)) (hu : ∀ x, (A x).eval u = x k)
    (h : ∀ x w, S w → (∀ e ∈ o.after, Region.binds md e = true → ∀ f, F[e.on]? = some f → Facts.holds f x w) → Facts.holds (teF k z r) x w) : Facts.StepOk Try.prog md Q S A F i o :=
  Facts.step hS hF hA fun x w hSw hdep => by
    obtain ⟨n, p, l, c, e, hi⟩ := teF_get (h x w hSw hdep)
    have hr : (execOp (A x).eval o).run Try.prog w = .ok (.value (TV n p l c)) w := by
      have hv := (hu x).trans e
      generalize (A x).eval = ρ at hv
      unfold execOp
      simp [ho, hv, go_sem]
    unfold Oper.wp
    rw [hr]
    refine ⟨_, rfl, Below.refl _ _, fun f hf' => ?_⟩
    rw [hz] at hf'
    obtain rfl := Option.some.inj hf'
    exact isF_put hi
theorem Facts.sndE (hS : Calm.Stays S) (hF : Facts.Stay F) (hA : ∀ x u, (A x).put o.dst u = A (Facts.put x i u)) {u : Operand} (ho : o.op = .extract u 1) {k : Nat} {z : ID} {r : Int} (hz : F[i]? = some (eqF i (.int .i64 r))) (hu : ∀ x, (A x).eval u = x k)
    (h : ∀ x w, S w → (∀ e ∈ o.after, Region.binds md e = true → ∀ f, F[e.on]? = some f → Facts.holds f x w) → Facts.holds (teF k z r) x w) : Facts.StepOk Try.prog md Q S A F i o :=
  Facts.pure hS hF hA hz fun x w hSw hdep => by
    obtain ⟨n, p, l, c, e, hi⟩ := teF_get (h x w hSw hdep)
    have hv := (hu x).trans e
    generalize (A x).eval = ρ at hv
    unfold execOp
    simp [ho, hv, go_sem]
/-- A new box. -/
theorem Facts.allocT (hS : Calm.Stays S) (hF : Facts.Stay F) (hA : ∀ x u, (A x).put o.dst u = A (Facts.put x i u)) (ho : o.op = .alloc 24) {N : Nat} (hz : F[i]? = some (alF i N)) (hN : ∀ w, S w → N ≤ w.heap.size) : Facts.StepOk Try.prog md Q S A F i o :=
  Facts.step hS hF hA fun x w hSw hdep => by
    have hr : (execOp (A x).eval o).run Try.prog w = .ok (.value (.pointer (some ⟨w.heap.size, 0, none⟩))) (w.alloc (.cells #[.int .i64 0, .slice none 0 0] 24)) := by
      unfold execOp
      generalize (A x).eval = ρ
      simp [ho, go_sem]
    unfold Oper.wp
    rw [hr]
    refine ⟨_, rfl, (Below.refl _ _).alloc (Nat.le_refl _) _, fun f hf' => ?_⟩
    rw [hz] at hf'
    obtain rfl := Option.some.inj hf'
    exact ⟨w.heap.size, 0, none, 0, 0, by simp [Facts.put, alF], hN w hSw, bx_new w 0 none 0 0⟩
/-- A tree that operation k came to is stored in the new box that operation m made. -/
theorem Facts.storeP (hA : ∀ x u, (A x).put o.dst u = A (Facts.put x i u)) (u v : Operand) (ho : o.op = .store 24 u v) {m k N : Nat} {z : ID} (hmi : m ≠ i) (hki : k ≠ i) (hz : F[i]? = some (sbF m k N z))
    (hx : ∀ x, (A x).eval u = x m) (hy : ∀ x, (A x).eval v = x k) (hm : ∀ x w, S w → (∀ e ∈ o.after, Region.binds md e = true → ∀ f, F[e.on]? = some f → Facts.holds f x w) → Facts.holds (alF m N) x w ∧ Facts.holds (isF k z) x w)
    (hb : ∀ w q n p l c n' p' l' c', S w → N ≤ q → Bx w q n' p' l' c' → S (w.setRow q #[.int .i64 n, .slice p l c])) (hoth : ∀ (j : Nat) (f : Facts.Fact), j ≠ i → F[j]? = some f → ∀ q, N ≤ q → boxF f q) : Facts.StepOk Try.prog md Q S A F i o := by
  intro x w hSw hdep
  obtain ⟨h1, h2⟩ := hm x w hSw hdep
  obtain ⟨q, n0, p0, l0, c0, eq, hq, hbx⟩ := alF_get h1
  obtain ⟨n, p, l, c, e, hi⟩ := isF_get h2
  refine wp_store_t u v ho q n p l c ((hx x).trans eq) ((hy x).trans e) hbx ?_
  refine ⟨undef, hA x undef, hb w q n p l c _ _ _ _ hSw hq hbx, fun f hf' => ?_, fun j f hj hfj hh => hoth j f hj hfj q hq _ _ n p l c hh ⟨_, _, _, _, hbx⟩⟩
  rw [hz] at hf'
  obtain rfl := Option.some.inj hf'
  exact ⟨q, n, p, l, c, by simp [Facts.put, sbF, hki, hmi, e, eq], hq, hbx.row n p l c, hi.box hbx _⟩
end
end Go.Proofs.Ytohmcpjkijndjaa.Idn
/- The functions shorten and Norm of package idtree. -/
namespace Go.Proofs.Ytohmcpjkijndjaa.Idn
open Go.RowKit

set_option maxHeartbeats 2000000 in
set_option maxRecDepth 100000 in
theorem shorten_any : ∀ (x : ID) (n : Int) (p : Option Addr) (l c : Nat) (w : World), Is w x (TV n p l c) → Calls Try.prog 87 #[TV n p l c] w (Gives (norm x) w)
  | ⟨.inl b⟩, n, p, l, c, w, h => by
    obtain ⟨p', c', e⟩ := h
    simp at e
    obtain ⟨rfl, rfl, rfl, rfl⟩ := e
    obtain ⟨h1, h2, hbel⟩ := two_box w (bi b) p 0 c 0 none 0 0 _ rfl
    go_enter Try.func87, Try.ntmps87
    go_wp2_with (refine load_t _ rfl rfl _ _ rfl h1.tat ?_)
    refine (isLeaf_any _ p 0 c _).mono ?_
    rintro e w1 ⟨rfl, hb1⟩
    replace h1 := (h1.later hb1).cell0
    replace h2 := h2.later hb1
    replace hbel := below_on hbel hb1
    clear hb1
    go_wp2_with fail
    refine (leaf_any _ _).mono ?_
    rintro e w2 ⟨rfl, hb1⟩
    replace h2 := h2.later hb1
    replace hbel := below_on hbel hb1
    clear hb1 h1
    have R := below_setRow hbel (g := w.heap.size + 1) (by omega) #[.int .i64 (bi b), .slice none 0 0]
    go_wp2_with (refine store_t rfl _ _ rfl _ (bi b) none 0 0 rfl rfl h2 ?_)
    exact bodyPost_ret (results_t rfl rfl (h2.row _ _ _ _)) rfl ⟨_, _, _, _, rfl, is_leaf _ _ _ _, R⟩
  | ⟨.inr (x, y)⟩, n, p, l, c, w, ⟨g, o, c', n0, p0, l0, c0, n1, p1, l1, c1, e, t0, t1, hx, hy⟩ => by
    simp at e
    obtain ⟨rfl, rfl, rfl, rfl⟩ := e
    obtain ⟨h1, h2, hbel⟩ := two_box w 0 (some ⟨g, o, none⟩) 2 c 0 none 0 0 _ rfl
    have r0 := fun w1 (hb : Below w.heap.size w w1) => shorten_any x n0 p0 l0 c0 w1 (hx.later hb)
    have r1 := fun w1 (hb : Below w.heap.size w w1) => shorten_any y n1 p1 l1 c1 w1 (hy.later hb)
    obtain ⟨z, HZ⟩ : ∃ z, Hid (norm (.node x y) = z) := ⟨_, rfl⟩
    rw [HZ.out]
    unfold norm at HZ
    generalize norm x = x' at r0 HZ
    generalize norm y = y' at r1 HZ
    clear hx hy
    go_enter Try.func87, Try.ntmps87
    go_wp2_with (refine load_t _ rfl rfl _ _ rfl h1.tat ?_)
    refine (isLeaf_any _ _ 2 c _).mono ?_
    rintro e w1 ⟨rfl, hb1⟩
    replace h1 := h1.later hb1
    replace h2 := h2.later hb1
    replace hbel := below_on hbel hb1
    clear hb1
    go_wp2_with fail
    have hS : Calm.Stays (fun w' => Bx w' w.heap.size 0 (some ⟨g, o, none⟩) 2 c ∧ (∃ n p l c, Bx w' (w.heap.size + 1) n p l c) ∧ Below w.heap.size w w') := fun wa wb h hb => ⟨h.1.later hb, (by obtain ⟨n, p, l, c, h2⟩ := h.2.1; exact ⟨n, p, l, c, h2.later hb⟩), below_on h.2.2 hb⟩
    have hF : Facts.Stay [eqF 0 (.pointer (some ⟨w.heap.size, 1, none⟩)), eqF 1 (.slice (some ⟨g, o, none⟩) 2 c), eqF 2 (.pointer (some ⟨g, o, none⟩)), eqF 3 (TV n0 p0 l0 c0), isF 4 x', eqF 5 (.pointer (some ⟨w.heap.size, 1, none⟩)), eqF 6 (.slice (some ⟨g, o, none⟩) 2 c), eqF 7 (.pointer (some ⟨g, o + 2, none⟩)), eqF 8 (TV n1 p1 l1 c1), isF 9 y', isF 10 z, bxF 10 (w.heap.size + 1) z] := stay_of (by simp only [List.forall_mem_cons]; exact ⟨eqF_stays _ _, eqF_stays _ _, eqF_stays _ _, eqF_stays _ _, isF_stays _ _, eqF_stays _ _, eqF_stays _ _, eqF_stays _ _, eqF_stays _ _, isF_stays _ _, isF_stays _ _, bxF_stays _ _ _, fun _ h => by cases h⟩)
    refine Facts.region (by kernel_rfl) (by kernel_rfl) (fun w' => Bx w' w.heap.size 0 (some ⟨g, o, none⟩) 2 c ∧ (∃ n p l c, Bx w' (w.heap.size + 1) n p l c) ∧ Below w.heap.size w w') (fun x => { tmps := #[TV 0 (some ⟨g, o, none⟩) 2 c, .pointer (some ⟨w.heap.size, 0, none⟩), .pointer (some ⟨w.heap.size + 1, 0, none⟩), TV 0 (some ⟨g, o, none⟩) 2 c, .bool false, undef, undef, undef, x 0, x 1, x 2, x 3, x 4, x 5, x 6, x 7, x 8, x 9, x 10], defers := [] }) [eqF 0 (.pointer (some ⟨w.heap.size, 1, none⟩)), eqF 1 (.slice (some ⟨g, o, none⟩) 2 c), eqF 2 (.pointer (some ⟨g, o, none⟩)), eqF 3 (TV n0 p0 l0 c0), isF 4 x', eqF 5 (.pointer (some ⟨w.heap.size, 1, none⟩)), eqF 6 (.slice (some ⟨g, o, none⟩) 2 c), eqF 7 (.pointer (some ⟨g, o + 2, none⟩)), eqF 8 (TV n1 p1 l1 c1), isF 9 y', isF 10 z, bxF 10 (w.heap.size + 1) z] _ rfl (by kernel_rfl) (fun _ => undef) rfl (⟨h1, ⟨_, _, _, _, h2⟩, hbel.drew⟩) ⟨?_, ?_, ?_, ?_, ?_, ?_, ?_, ?_, ?_, ?_, ?_, ?_, trivial⟩ ?_
    · exact Facts.pure hS hF (fun _ _ => rfl) rfl (fun x wv hSw hd => by
        go_simp)
    · exact Facts.pure hS hF (fun _ _ => rfl) rfl (fun x wv hSw hd => by
        have d0 := eqF_get (hd ⟨0, .data⟩ (by simp) rfl _ rfl)
        have g1 := hSw.1.cell1
        simp only [d0]
        go_simp)
    · exact Facts.pure hS hF (fun _ _ => rfl) rfl (fun x wv hSw hd => by
        have d1 := eqF_get (hd ⟨1, .data⟩ (by simp) rfl _ rfl)
        simp only [d1]
        go_simp)
    · exact Facts.loadT hS hF (fun _ _ => rfl) _ rfl rfl (fun x wv hSw hd => by have d2 := eqF_get (hd ⟨2, .data⟩ (by simp) rfl _ rfl); exact d2) (fun wv hSw => t0.later hSw.2.2)
    · refine Facts.call1T hS hF (fun _ _ => rfl) rfl (by kernel_rfl) rfl (fun x wv hSw hd => ?_)
      have d3 := eqF_get (hd ⟨3, .data⟩ (by simp) rfl _ rfl)
      have hc := r0 _ hSw.2.2
      rw [← d3] at hc
      exact hc
    · exact Facts.pure hS hF (fun _ _ => rfl) rfl (fun x wv hSw hd => by
        go_simp)
    · exact Facts.pure hS hF (fun _ _ => rfl) rfl (fun x wv hSw hd => by
        have d5 := eqF_get (hd ⟨5, .data⟩ (by simp) rfl _ rfl)
        have g1 := hSw.1.cell1
        simp only [d5]
        go_simp)
    · exact Facts.pure hS hF (fun _ _ => rfl) rfl (fun x wv hSw hd => by
        have d6 := eqF_get (hd ⟨6, .data⟩ (by simp) rfl _ rfl)
        simp only [d6]
        go_simp)
    · exact Facts.loadT hS hF (fun _ _ => rfl) _ rfl rfl (fun x wv hSw hd => by have d7 := eqF_get (hd ⟨7, .data⟩ (by simp) rfl _ rfl); exact d7) (fun wv hSw => t1.later hSw.2.2)
    · refine Facts.call1T hS hF (fun _ _ => rfl) rfl (by kernel_rfl) rfl (fun x wv hSw hd => ?_)
      have d8 := eqF_get (hd ⟨8, .data⟩ (by simp) rfl _ rfl)
      have hc := r1 _ hSw.2.2
      rw [← d8] at hc
      exact hc
    · refine Facts.call2T hS hF (fun _ _ => rfl) rfl (by kernel_rfl) rfl (fun x wv hSw hd => ?_)
      obtain ⟨n4i, p4i, l4i, c4i, d4, e4⟩ := isF_get (hd ⟨4, .data⟩ (by simp) rfl _ rfl)
      obtain ⟨n9i, p9i, l9i, c9i, d9, e9⟩ := isF_get (hd ⟨9, .data⟩ (by simp) rfl _ rfl)
      have hc := pair_any x' y' _ _ _ _ _ _ _ _ _ e4 e9
      rw [← d4, ← d9, HZ.out] at hc
      exact hc
    · exact Facts.storeT (fun _ _ => rfl) _ _ rfl (by decide) rfl (fun _ => rfl) (fun _ => rfl) (fun x wv hSw hd => isF_get (hd ⟨10, .data⟩ (by simp) rfl _ rfl)) (fun wv hSw => ⟨hSw.2.1, fun n p l c => ⟨hSw.1.rowOther (by omega) _, (by obtain ⟨_, _, _, _, h⟩ := hSw.2.1; exact ⟨_, _, _, _, h.row n p l c⟩), below_setRow hSw.2.2 (by omega) _⟩⟩) (fun j f hj hfj => by
        match j with
        | 0 => obtain rfl := Option.some.inj hfj; exact eqF_box _ _ _
        | 1 => obtain rfl := Option.some.inj hfj; exact eqF_box _ _ _
        | 2 => obtain rfl := Option.some.inj hfj; exact eqF_box _ _ _
        | 3 => obtain rfl := Option.some.inj hfj; exact eqF_box _ _ _
        | 4 => obtain rfl := Option.some.inj hfj; exact isF_box _ _ _
        | 5 => obtain rfl := Option.some.inj hfj; exact eqF_box _ _ _
        | 6 => obtain rfl := Option.some.inj hfj; exact eqF_box _ _ _
        | 7 => obtain rfl := Option.some.inj hfj; exact eqF_box _ _ _
        | 8 => obtain rfl := Option.some.inj hfj; exact eqF_box _ _ _
        | 9 => obtain rfl := Option.some.inj hfj; exact isF_box _ _ _
        | 10 => obtain rfl := Option.some.inj hfj; exact isF_box _ _ _
        | 11 => exact absurd rfl hj
        | j + 12 => simp at hfj)
    · rintro x w9 ⟨_, _, hbel9⟩ hf
      obtain ⟨n, p, l, c, _, hbx, hi⟩ := bxF_get (hf 11 _ (by decide) rfl)
      go_wp2
      exact bodyPost_ret (results_t rfl rfl hbx) rfl ⟨_, _, _, _, rfl, hi, hbel9⟩

/-- The call answers the tree x, and the number r. -/
abbrev GivesE (x : ID) (r : Int) (w : World) (e : Ending) (w' : World) : Prop := ∃ n p l c, e = .returned (.tuple #[TV n p l c, .int .i64 r]) ∧ Is w' x (TV n p l c) ∧ Below w.heap.size w w'

end Go.Proofs.Ytohmcpjkijndjaa.Idn
/- Calls within a region that draws its order, whose contracts ask for S. Nothing of one program. -/
namespace Go.Proofs.Ytohmcpjkijndjaa.Calm

section
variable {P : Program} {ops : Array Oper} {S : World → Prop} {K : Act → Prop}
theorem call1s {o : Oper} {l : List Oper} {a : Act} {r x : Value} {f : FuncId} {ts : Array TypeId} {u : Operand} (hw : Region.wanted o (yielded ops a.tmps) = true)
    (ho : o.op = .call { callee := .value (.func f), args := #[u], argTypes := ts }) (hu : a.eval u = x) (hf : enters P f = true) (hs : Stays S)
    (hc : ∀ w, S w → Calls P f #[x] w fun e w' => e = .returned r ∧ RowKit.Below w.heap.size w w')
    (h : calmList P ops S K l (a.put o.dst r)) : calmList P ops S K (o :: l) a :=
  call (f := f) (args := #[x]) hw (fun w => by
    have e : ∀ args, (callFunc f args).run P w = .ok (.enter f args) w := fun args => enters_run hf args w
    subst hu
    unfold execOp
    simp [ho, go_sem, Act.eval, e]) (fun w hS => (hc w hS).mono fun e w' he => ⟨he.1, hs w w' hS he.2⟩) h
theorem call2s {o : Oper} {l : List Oper} {a : Act} {r x y : Value} {f : FuncId} {ts : Array TypeId} {u v : Operand} (hw : Region.wanted o (yielded ops a.tmps) = true)
    (ho : o.op = .call { callee := .value (.func f), args := #[u, v], argTypes := ts }) (hu : a.eval u = x) (hv : a.eval v = y) (hf : enters P f = true) (hs : Stays S)
    (hc : ∀ w, S w → Calls P f #[x, y] w fun e w' => e = .returned r ∧ RowKit.Below w.heap.size w w')
    (h : calmList P ops S K l (a.put o.dst r)) : calmList P ops S K (o :: l) a :=
  call (f := f) (args := #[x, y]) hw (fun w => by
    have e : ∀ args, (callFunc f args).run P w = .ok (.enter f args) w := fun args => enters_run hf args w
    subst hu
    subst hv
    unfold execOp
    simp [ho, go_sem, Act.eval, e]) (fun w hS => (hc w hS).mono fun e w' he => ⟨he.1, hs w w' hS he.2⟩) h
end
end Go.Proofs.Ytohmcpjkijndjaa.Calm
/- The functions Same, Size and Few of the document's answer. -/
namespace Go.Proofs.Ytohmcpjkijndjaa.Idn
open Go.RowKit

theorem node_eq (x y x' y' : ID) : eqb (ID.node x y) (ID.node x' y') = (eqb x x' && eqb y y') := rfl

set_option maxHeartbeats 2000000 in
set_option maxRecDepth 100000 in
theorem same_node (x y x' y' : ID) (g o c g' o' c' : Nat) (n0 : Int) (p0 : Option Addr) (l0 c0 : Nat) (n1 : Int) (p1 : Option Addr) (l1 c1 : Nat) (n2 : Int) (p2 : Option Addr) (l2 c2 : Nat) (n3 : Int) (p3 : Option Addr) (l3 c3 : Nat) (w : World)
    (t0 : Tat w g o n0 p0 l0 c0) (t1 : Tat w g (o + 2) n1 p1 l1 c1) (t2 : Tat w g' o' n2 p2 l2 c2) (t3 : Tat w g' (o' + 2) n3 p3 l3 c3)
    (r0 : ∀ w1, Below w.heap.size w w1 → Calls Try.prog 26 #[TV n0 p0 l0 c0, TV n2 p2 l2 c2] w1 fun e w' => e = .returned (.bool (eqb x x')) ∧ Below w1.heap.size w1 w')
    (r1 : ∀ w1, Below w.heap.size w w1 → Calls Try.prog 26 #[TV n1 p1 l1 c1, TV n3 p3 l3 c3] w1 fun e w' => e = .returned (.bool (eqb y y')) ∧ Below w1.heap.size w1 w') :
    Calls Try.prog 26 #[TV 0 (some ⟨g, o, none⟩) 2 c, TV 0 (some ⟨g', o', none⟩) 2 c'] w fun e w' => e = .returned (.bool (eqb (ID.node x y) (ID.node x' y'))) ∧ Below w.heap.size w w' := by
  rw [node_eq]
  obtain ⟨h1, h2, hbel⟩ := two_box w 0 (some ⟨g, o, none⟩) 2 c 0 (some ⟨g', o', none⟩) 2 c' _ rfl
  have g0 := h1.cell0
  have g1 := h1.cell1
  have g2 := h2.cell0
  have g3 := h2.cell1
  generalize eqb x x' = b0 at r0 ⊢
  generalize eqb y y' = b1 at r1 ⊢
  obtain ⟨z, HZ⟩ : ∃ z, Hid ((b0 && b1) = z) := ⟨_, rfl⟩
  rw [HZ.out]
  go_enter Try.func26, Try.ntmps26
  go_wp2
  go_loopw [5] (fun vi wr => ∃ k : Nat, vi = .int .i64 k ∧ k ≤ 2 ∧ Hid (1 ≤ k → b0 = true) ∧ Hid (2 ≤ k → b1 = true) ∧ Bx wr w.heap.size 0 (some ⟨g, o, none⟩) 2 c ∧ Bx wr (w.heap.size + 1) 0 (some ⟨g', o', none⟩) 2 c' ∧ Below w.heap.size w wr) (fun vi _ => 2 - (intOf vi).toNat)
  case atStart => exact ⟨0, rfl, by omega, (show 1 ≤ 0 → _ from fun h => by omega), (show 2 ≤ 0 → _ from fun h => by omega), h1, h2, hbel⟩
  case round =>
    clear g0 g1 g2 g3 h1 h2 hbel
    obtain ⟨k, rfl, hk, H1, H2, h1, h2, hbel⟩ := hrel
    have g1 := h1.cell1
    have g3 := h2.cell1
    by_cases hlt : k < 2
    · obtain ⟨n, p, l, cc, n', p', l', cc', b, ta, tb, rr, HS⟩ : ∃ n p l cc n' p' l' cc' b, Tat w g (o + k * 2) n p l cc ∧ Tat w g' (o' + k * 2) n' p' l' cc' ∧ (∀ w1, Below w.heap.size w w1 → Calls Try.prog 26 #[TV n p l cc, TV n' p' l' cc'] w1 fun e w' => e = .returned (.bool b) ∧ Below w1.heap.size w1 w') ∧ Hid ((k = 0 ∧ b = b0) ∨ (k = 1 ∧ b = b1)) := by
        match k, hlt with
        | 0, _ => exact ⟨n0, p0, l0, c0, n2, p2, l2, c2, b0, by simpa using t0, by simpa using t2, r0, .inl ⟨rfl, rfl⟩⟩
        | 1, _ => exact ⟨n1, p1, l1, c1, n3, p3, l3, c3, b1, by simpa using t1, by simpa using t3, r1, .inr ⟨rfl, rfl⟩⟩
      replace ta := ta.later hbel
      replace tb := tb.later hbel
      have hi1 : (k : Int) < 2 := by omega
      clear t0 t1 t2 t3 r0 r1
      have hs : Calm.Stays (fun w' => Tat w' g (o + k * 2) n p l cc ∧ Tat w' g' (o' + k * 2) n' p' l' cc' ∧ w'.cell? ⟨w.heap.size, 1, none⟩ = some (.slice (some ⟨g, o, none⟩) 2 c) ∧ w'.cell? ⟨w.heap.size + 1, 1, none⟩ = some (.slice (some ⟨g', o', none⟩) 2 c') ∧ Bx w' w.heap.size 0 (some ⟨g, o, none⟩) 2 c ∧ Bx w' (w.heap.size + 1) 0 (some ⟨g', o', none⟩) 2 c' ∧ Below w.heap.size w w') :=
        fun w1 w2 h hb => ⟨h.1.later hb, h.2.1.later hb, cell_later hb h.2.2.1, cell_later hb h.2.2.2.1, h.2.2.2.2.1.later hb, h.2.2.2.2.2.1.later hb, below_on h.2.2.2.2.2.2 hb⟩
      go_wp2
      refine Calm.region (by kernel_rfl) (by kernel_rfl) (fun w' => Tat w' g (o + k * 2) n p l cc ∧ Tat w' g' (o' + k * 2) n' p' l' cc' ∧ w'.cell? ⟨w.heap.size, 1, none⟩ = some (.slice (some ⟨g, o, none⟩) 2 c) ∧ w'.cell? ⟨w.heap.size + 1, 1, none⟩ = some (.slice (some ⟨g', o', none⟩) 2 c') ∧ Bx w' w.heap.size 0 (some ⟨g, o, none⟩) 2 c ∧ Bx w' (w.heap.size + 1) 0 (some ⟨g', o', none⟩) 2 c' ∧ Below w.heap.size w w') ⟨ta, tb, g1, g3, h1, h2, hbel.drew⟩ ?_
      all_goals
        refine Calm.pure (v := ?_) (by rfl) ?_ ?_
        rotate_left
        focus (intro w hSw; go_simp <;> rfl)
        simp only [Act.put, List.setIfInBounds_toArray, List.set_cons_zero, List.set_cons_succ]
      all_goals
        refine Calm.pure (v := ?_) (by rfl) ?_ ?_
        rotate_left
        focus (intro w hSw; go_simp <;> rfl)
        simp only [Act.put, List.setIfInBounds_toArray, List.set_cons_zero, List.set_cons_succ]
      all_goals
        refine Calm.pure (v := ?_) (by rfl) ?_ ?_
        rotate_left
        focus (intro w hSw; go_simp <;> rfl)
        simp only [Act.put, List.setIfInBounds_toArray, List.set_cons_zero, List.set_cons_succ]
      all_goals
        refine Calm.pure (v := ?_) (by rfl) ?_ ?_
        rotate_left
        focus (intro w hSw; go_simp <;> rfl)
        simp only [Act.put, List.setIfInBounds_toArray, List.set_cons_zero, List.set_cons_succ]
      all_goals
        refine Calm.loadT (by rfl) _ rfl rfl (fun _ h => by go_split_ands; assumption) ?_
        simp only [Act.put, List.setIfInBounds_toArray, List.set_cons_zero, List.set_cons_succ]
      all_goals
        refine Calm.pure (v := ?_) (by rfl) ?_ ?_
        rotate_left
        focus (intro w hSw; go_simp <;> rfl)
        simp only [Act.put, List.setIfInBounds_toArray, List.set_cons_zero, List.set_cons_succ]
      all_goals
        refine Calm.pure (v := ?_) (by rfl) ?_ ?_
        rotate_left
        focus (intro w hSw; go_simp <;> rfl)
        simp only [Act.put, List.setIfInBounds_toArray, List.set_cons_zero, List.set_cons_succ]
      all_goals
        refine Calm.pure (v := ?_) (by rfl) ?_ ?_
        rotate_left
        focus (intro w hSw; go_simp <;> rfl)
        simp only [Act.put, List.setIfInBounds_toArray, List.set_cons_zero, List.set_cons_succ]
      all_goals
        refine Calm.pure (v := ?_) (by rfl) ?_ ?_
        rotate_left
        focus (intro w hSw; go_simp <;> rfl)
        simp only [Act.put, List.setIfInBounds_toArray, List.set_cons_zero, List.set_cons_succ]
      all_goals
        refine Calm.loadT (by rfl) _ rfl rfl (fun _ h => by go_split_ands; assumption) ?_
        simp only [Act.put, List.setIfInBounds_toArray, List.set_cons_zero, List.set_cons_succ]
      all_goals
        refine Calm.call2s (by rfl) rfl rfl rfl (by kernel_rfl) hs (fun w1 h => rr w1 h.2.2.2.2.2.2) ?_
        simp only [Act.put, List.setIfInBounds_toArray, List.set_cons_zero, List.set_cons_succ]
      all_goals
        refine Calm.pure (v := ?_) (by rfl) ?_ ?_
        rotate_left
        focus (intro w hSw; go_simp <;> rfl)
        simp only [Act.put, List.setIfInBounds_toArray, List.set_cons_zero, List.set_cons_succ]
      rintro w9 ⟨_, _, _, _, h1, h2, hbel9⟩
      cases b
      · have HF : Hid (z = false) := by
          show _ = _
          rw [← HZ.out]
          rcases HS.out with ⟨_, rfl⟩ | ⟨_, rfl⟩
          · rfl
          · simp
        go_wp2
        go_ret
        exact ⟨by rw [HF.out]; rfl, hbel9⟩
      · have HA : Hid (1 ≤ k + 1 → b0 = true) := show _ → _ from fun _ => by
          rcases HS.out with ⟨_, rfl⟩ | ⟨h3, _⟩
          · rfl
          · exact H1.out (by omega)
        have HB : Hid (2 ≤ k + 1 → b1 = true) := show _ → _ from fun h => by
          rcases HS.out with ⟨h3, rfl⟩ | ⟨_, rfl⟩
          · omega
          · rfl
        clear H1 H2
        go_wp2
        go_roundw
        case rel => exact ⟨k + 1, by simp, by omega, HA, HB, h1, h2, hbel9⟩
        case measure => simp [intOf]; omega
    · have hk : k = 2 := by omega
      subst hk
      have HF : Hid (z = true) := by
        show _ = _
        rw [← HZ.out, H1.out (by omega), H2.out (by omega)]
        rfl
      go_wp2
      go_ret
      exact ⟨by rw [HF.out]; rfl, hbel⟩

theorem leaf_eq (a b : Bool) : eqb (ID.leaf a) (ID.leaf b) = (a == b) := rfl

set_option maxHeartbeats 2000000 in
set_option maxRecDepth 100000 in
theorem same_leaf (a b : Bool) (p : Option Addr) (c : Nat) (p' : Option Addr) (c' : Nat) (w : World) :
    Calls Try.prog 26 #[TV (bi a) p 0 c, TV (bi b) p' 0 c'] w fun e w' => e = .returned (.bool (eqb (ID.leaf a) (ID.leaf b))) ∧ Below w.heap.size w w' := by
  obtain ⟨h1, h2, hbel⟩ := two_box w (bi a) p 0 c (bi b) p' 0 c' _ rfl
  have g0 := h1.cell0
  have g1 := h1.cell1
  have g2 := h2.cell0
  have g3 := h2.cell1
  obtain ⟨z, HZ⟩ : ∃ z, Hid (eqb (ID.leaf a) (ID.leaf b) = z) := ⟨_, rfl⟩
  rw [HZ.out]
  by_cases hab : a = b
  · subst hab
    have HZ' : Hid (z = true) := show _ = _ by rw [← HZ.out]; exact eqb_refl _
    clear HZ
    go_enter Try.func26, Try.ntmps26
    go_wp2
    go_loopw [5] (fun vi wr => vi = .int .i64 0 ∧ Bx wr w.heap.size (bi a) p 0 c ∧ Below w.heap.size w wr) (fun vi _ => 0)
    case atStart => exact ⟨rfl, h1, hbel⟩
    case round =>
      clear g0 g1 g2 g3 h1 hbel
      obtain ⟨rfl, h1, hbel⟩ := hrel
      have g1 := h1.cell1
      go_wp2
      go_ret
      exact ⟨by rw [HZ'.out]; rfl, hbel⟩
  · have HZ' : Hid (z = false) := show _ = _ by rw [← HZ.out, leaf_eq]; simpa using hab
    have hne : ¬ bi a = bi b := by revert hab; cases a <;> cases b <;> decide
    clear HZ
    go_enter Try.func26, Try.ntmps26
    go_wp2
    go_ret
    exact ⟨by rw [HZ'.out]; rfl, hbel⟩

set_option maxHeartbeats 2000000 in
set_option maxRecDepth 100000 in
theorem same_len (m m' : Int) (p : Option Addr) (l c : Nat) (p' : Option Addr) (l' c' : Nat) (w : World) (hne : ¬ l = l') :
    Calls Try.prog 26 #[TV m p l c, TV m' p' l' c'] w fun e w' => e = .returned (.bool false) ∧ Below w.heap.size w w' := by
  obtain ⟨h1, h2, hbel⟩ := two_box w m p l c m' p' l' c' _ rfl
  have g0 := h1.cell0
  have g1 := h1.cell1
  have g2 := h2.cell0
  have g3 := h2.cell1
  have hne' : ¬ (l : Int) = (l' : Int) := by omega
  by_cases hm : m = m'
  · subst hm
    go_enter Try.func26, Try.ntmps26
    go_wp2
    go_ret
    exact ⟨rfl, hbel⟩
  · go_enter Try.func26, Try.ntmps26
    go_wp2
    go_ret
    exact ⟨rfl, hbel⟩

theorem same_any : ∀ (x y : ID) (n : Int) (p : Option Addr) (l c : Nat) (n' : Int) (p' : Option Addr) (l' c' : Nat) (w : World), Is w x (TV n p l c) → Is w y (TV n' p' l' c') →
    Calls Try.prog 26 #[TV n p l c, TV n' p' l' c'] w fun e w' => e = .returned (.bool (eqb x y)) ∧ Below w.heap.size w w'
  | ⟨.inl a⟩, ⟨.inl b⟩, n, p, l, c, n', p', l', c', w, ⟨_, _, e⟩, ⟨_, _, e'⟩ => by
    simp at e e'
    obtain ⟨rfl, rfl, rfl, rfl⟩ := e
    obtain ⟨rfl, rfl, rfl, rfl⟩ := e'
    exact same_leaf a b p c p' c' w
  | ⟨.inl a⟩, ⟨.inr (x, y)⟩, n, p, l, c, n', p', l', c', w, h, h' => by
    obtain ⟨_, rfl⟩ := is_parts h
    obtain ⟨_, rfl⟩ := is_parts h'
    have := same_len n n' p 0 c p' 2 c' w (by decide)
    rw [show eqb (ID.leaf a) (ID.node x y) = false from rfl]
    exact this
  | ⟨.inr (x, y)⟩, ⟨.inl a⟩, n, p, l, c, n', p', l', c', w, h, h' => by
    obtain ⟨_, rfl⟩ := is_parts h
    obtain ⟨_, rfl⟩ := is_parts h'
    have := same_len n n' p 2 c p' 0 c' w (by decide)
    rw [show eqb (ID.node x y) (ID.leaf a) = false from rfl]
    exact this
  | ⟨.inr (x, y)⟩, ⟨.inr (x', y')⟩, n, p, l, c, n', p', l', c', w, ⟨g, o, cc, n0, p0, l0, c0, n1, p1, l1, c1, e, t0, t1, hx, hy⟩, ⟨g', o', cc', n2, p2, l2, c2, n3, p3, l3, c3, e', t2, t3, hx', hy'⟩ => by
    simp at e e'
    obtain ⟨rfl, rfl, rfl, rfl⟩ := e
    obtain ⟨rfl, rfl, rfl, rfl⟩ := e'
    exact same_node x y x' y' g o c g' o' c' n0 p0 l0 c0 n1 p1 l1 c1 n2 p2 l2 c2 n3 p3 l3 c3 w t0 t1 t2 t3
      (fun w1 hb => same_any x x' _ _ _ _ _ _ _ _ w1 (hx.later hb) (hx'.later hb)) (fun w1 hb => same_any y y' _ _ _ _ _ _ _ _ w1 (hy.later hb) (hy'.later hb))

end Go.Proofs.Ytohmcpjkijndjaa.Idn
