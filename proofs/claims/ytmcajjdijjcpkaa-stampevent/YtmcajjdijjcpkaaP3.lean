import Derived.Test.YtmcajjdijjcpkaaP2
/- A region that draws its order, by a fact of each operation: what is known of its value and the memory as soon as it has come up, whatever came up ahead of it. Nothing of one program. -/
namespace Go.Proofs.Ytmcajjdijjcpkaa.Facts
open Go.RowKit

/-- A fact: of the values of which operations it speaks, and what it says. -/
abbrev Fact := List Nat × (List Value → World → Prop)
def holds (f : Fact) (x : Nat → Value) (w : World) : Prop := f.2 (f.1.map x) w
def put (x : Nat → Value) (i : Nat) (u : Value) : Nat → Value := fun j => if j = i then u else x j

section
variable {P : Program} {Q : Exit → Act → World → Prop} {S : World → Prop} {md : Region.Mode} {A : (Nat → Value) → Act} {F : List Fact} {l : List Oper}

/-- Each fact speaks of its own operation, and of those that it waits for. -/
def nearB (md : Region.Mode) (l : List Oper) (D : List (List Nat)) : Bool := (l.zip D).zipIdx.all fun p => p.1.2.all fun k => k == p.2 || p.1.1.after.any fun e => e.on == k && Region.binds md e
theorem nearB_spec {D : List (List Nat)} (h : nearB md l D = true) {i : Nat} {o : Oper} {d : List Nat} (hi : l[i]? = some o) (hf : D[i]? = some d) {k : Nat} (hk : k ∈ d) : k = i ∨ ∃ e ∈ o.after, e.on = k ∧ Region.binds md e = true := by
  have hm : ((o, d), i) ∈ (l.zip D).zipIdx := by
    rw [List.mem_zipIdx_iff_getElem?]
    simp [List.getElem?_zip_eq_some, hi, hf]
  have := List.all_eq_true.1 h _ hm
  have := List.all_eq_true.1 this _ hk
  simp only [Bool.or_eq_true, beq_iff_eq] at this
  rcases this with h | h
  · exact .inl h
  · rw [Array.any_eq_true] at h
    obtain ⟨j, hj, h⟩ := h
    simp only [Bool.and_eq_true, beq_iff_eq] at h
    exact .inr ⟨o.after[j], by simp, h.1, h.2⟩

/-- What an operation is asked for. -/
def StepOk (P : Program) (md : Region.Mode) (Q : Exit → Act → World → Prop) (S : World → Prop) (A : (Nat → Value) → Act) (F : List Fact) (i : Nat) (o : Oper) : Prop :=
  ∀ x w, S w → (∀ e ∈ o.after, Region.binds md e = true → ∀ f, F[e.on]? = some f → holds f x w) →
    o.wp P (A x) w (fun a' w' => ∃ u, a' = A (put x i u) ∧ S w' ∧ (∀ f, F[i]? = some f → holds f (put x i u) w') ∧ (∀ j f, j ≠ i → F[j]? = some f → holds f x w → holds f x w')) Q

def Inv (md : Region.Mode) (l : List Oper) (S : World → Prop) (A : (Nat → Value) → Act) (F : List Fact) (L : Nat → Bool) (a : Act) (w : World) : Prop :=
  S w ∧ (∀ i o, l[i]? = some o → L i = true → ∀ e ∈ o.after, Region.binds md e = true → L e.on = true) ∧ ∃ x, a = A x ∧ ∀ i f, i < l.length → F[i]? = some f → L i = true → holds f x w

theorem each_imp {R R' : Nat → Oper → Prop} : ∀ (l : List Oper) (k : Nat), Owed.each R k l → (∀ i o, l[i]? = some o → R (k + i) o → R' (k + i) o) → Owed.each R' k l
  | [], _, _, _ => trivial
  | o :: l, k, h, hi => ⟨hi 0 o rfl h.1, each_imp l (k + 1) h.2 (fun i o' ho hr => by
      have := hi (i + 1) o' (by simpa using ho)
      rw [show k + (i + 1) = k + 1 + i by omega] at this
      exact this hr)⟩

theorem region {id : Nat} {a : Act} {w : World} (hm : P.follows .mixedOrders = true) (hd : Owed.downB .any l = true) (S : World → Prop) (A : (Nat → Value) → Act) (F : List Fact) (D : List (List Nat)) (hD : F.map (·.1) = D) (hl : nearB .any l D = true)
    (x0 : Nat → Value) (hA : a = A x0) (h0 : S w.drew) (hstep : Owed.each (StepOk P .any Q S A F) 0 l)
    (hend : ∀ x w', S w' → (∀ i f, i < l.length → F[i]? = some f → holds f x w') → Q .normal (A x) w') : (Code.region id l.toArray true).wp P Q a w := by
  refine Owed.region hm hd (Inv .any l S A F) ?_ ?_ (each_imp l 0 hstep ?_) ?_
  · rintro L L' a w hL ⟨hS, hc, x, hx, hf⟩
    refine ⟨hS, fun i o hi hLi e he hb => ?_, x, hx, fun i f hi hfi hLi => hf i f hi hfi ((hL i hi).trans hLi)⟩
    have hilt : i < l.length := (List.getElem?_eq_some_iff.1 hi).1
    have := (Owed.downB_spec hd hi).2 e he hb
    rw [← hL e.on (by omega)]
    exact hc i o hi ((hL i hilt).trans hLi) e he hb
  · intro L hL
    refine ⟨h0, fun i o hi hLi => ?_, x0, hA, fun i f hi _ hLi => ?_⟩
    · rw [hL i (List.getElem?_eq_some_iff.1 hi).1] at hLi; cases hLi
    · rw [hL i hi] at hLi; cases hLi
  · intro i o hi hok
    rw [Nat.zero_add] at hok ⊢
    rintro L a w ⟨hS, hc, x, rfl, hf⟩ hLi hdep
    refine Oper.wp_mono (fun a' w' h => ?_) (hok x w hS (fun e he hb f hfe => ?_))
    · obtain ⟨u, rfl, hS', hfi, hoth⟩ := h
      refine ⟨hS', fun j o' hj hLj e he hb => ?_, put x i u, rfl, fun j f hj hfj hLj => ?_⟩
      · by_cases e1 : j = i
        · subst e1
          obtain rfl : o = o' := by rw [hi] at hj; exact Option.some.inj hj
          have := hdep e he hb
          unfold Owed.upd
          simp [this]
        · rw [Owed.upd_ne L e1] at hLj
          have := hc j o' hj hLj e he hb
          unfold Owed.upd
          simp [this]
      · by_cases e1 : j = i
        · subst e1; exact hfi f hfj
        · rw [Owed.upd_ne L e1] at hLj
          have h1 := hoth j f e1 hfj (hf j f hj hfj hLj)
          have e2 : f.1.map (put x i u) = f.1.map x := by
            apply List.map_congr_left
            intro k hk
            have hj' : l[j]? = some l[j] := List.getElem?_eq_getElem hj
            have hki : k ≠ i := by
              rcases nearB_spec hl hj' (by rw [← hD, List.getElem?_map, hfj]; rfl) hk with rfl | ⟨e, he, rfl, hb⟩
              · exact e1
              · intro h2
                have := hc j _ hj' hLj e he hb
                rw [h2, hLi] at this; cases this
            simp [put, hki]
          unfold holds at *
          rw [e2]
          exact h1
    · have h1 := (Owed.downB_spec hd hi).2 e he hb
      have h2 : i < l.length := (List.getElem?_eq_some_iff.1 hi).1
      exact hf e.on f (by omega) hfe (hdep e he hb)
  · rintro L a w hL ⟨hS, _, x, rfl, hf⟩
    exact hend x w hS fun i f hi hfi => hf i f hi hfi (hL i hi)

/-- All facts stay behind what leaves the memory that was there alone. -/
def Stay (F : List Fact) : Prop := ∀ (j : Nat) (f : Fact), F[j]? = some f → ∀ vs w w', f.2 vs w → Below w.heap.size w w' → f.2 vs w'

/-- An operation that leaves the memory that was there alone. -/
theorem step {i : Nat} {o : Oper} (hS : Calm.Stays S) (hF : Stay F) (hA : ∀ x u, (A x).put o.dst u = A (put x i u))
    (h : ∀ x w, S w → (∀ e ∈ o.after, Region.binds md e = true → ∀ f, F[e.on]? = some f → holds f x w) →
      o.wp P (A x) w (fun a' w' => ∃ u, a' = (A x).put o.dst u ∧ Below w.heap.size w w' ∧ ∀ f, F[i]? = some f → holds f (put x i u) w') Q) : StepOk P md Q S A F i o := by
  intro x w hSw hdep
  refine Oper.wp_mono (fun a' w' h => ?_) (h x w hSw hdep)
  obtain ⟨u, rfl, hb, hf⟩ := h
  exact ⟨u, hA x u, hS _ _ hSw hb, hf, fun j f _ hj hh => hF j f hj _ _ _ hh hb⟩
/-- It comes to v, and leaves the world as it is. -/
theorem pure {i : Nat} {o : Oper} {v : Value} (hS : Calm.Stays S) (hF : Stay F) (hA : ∀ x u, (A x).put o.dst u = A (put x i u)) (hf : F[i]? = some ([i], fun vs _ => vs = [v]))
    (h : ∀ x w, S w → (∀ e ∈ o.after, Region.binds md e = true → ∀ f, F[e.on]? = some f → holds f x w) → (execOp (A x).eval o).run P w = .ok (.value v) w) : StepOk P md Q S A F i o :=
  step hS hF hA fun x w hSw hdep => by
    unfold Oper.wp
    rw [h x w hSw hdep]
    refine ⟨v, rfl, Below.refl _ _, fun f hf' => ?_⟩
    rw [hf] at hf'
    obtain rfl := Option.some.inj hf'
    simp [holds, put]
/-- It calls a function. -/
theorem call {i : Nat} {o : Oper} (hS : Calm.Stays S) (hF : Stay F) (hA : ∀ x u, (A x).put o.dst u = A (put x i u)) {f : FuncId}
    (h : ∀ x w, S w → (∀ e ∈ o.after, Region.binds md e = true → ∀ f, F[e.on]? = some f → holds f x w) → ∃ args, (execOp (A x).eval o).run P w = .ok (.enter f args) w ∧
      Calls P f args w fun e w' => ∃ u, e = .returned u ∧ Below w.heap.size w w' ∧ ∀ f, F[i]? = some f → holds f (put x i u) w') : StepOk P md Q S A F i o :=
  step hS hF hA fun x w hSw hdep => by
    obtain ⟨args, hr, hc⟩ := h x w hSw hdep
    unfold Oper.wp
    rw [hr]
    refine hc.mono fun e w' he => ?_
    obtain ⟨u, rfl, hb, hf⟩ := he
    exact ⟨u, rfl, hb, hf⟩

theorem holds_eq {i : Nat} {v : Value} {x : Nat → Value} {w : World} (h : holds ([i], fun vs _ => vs = [v]) x w) : x i = v := by
  simpa [holds] using h
end
end Go.Proofs.Ytmcajjdijjcpkaa.Facts
/- Facts of operations that load, store and answer trees, in a region that draws its order. -/
namespace Go.Proofs.Ytmcajjdijjcpkaa
open Go.RowKit

/-- Facts of an operation: its value is v; a tree of x; the box b holds the tree x that operation k came to. -/
def eqF (i : Nat) (v : Value) : Facts.Fact := ([i], fun vs _ => vs = [v])
def isF (i : Nat) (x : EV) : Facts.Fact := ([i], fun vs w => ∃ n p l c, vs = [TV n p l c] ∧ Is w x (TV n p l c))
def bxF (k : Nat) (b : Nat) (x : EV) : Facts.Fact := ([k], fun vs w => ∃ n p l c, vs = [TV n p l c] ∧ Bx w b n p l c ∧ Is w x (TV n p l c))
theorem eqF_get {i : Nat} {v : Value} {x : Nat → Value} {w : World} (h : Facts.holds (eqF i v) x w) : x i = v := by simpa [Facts.holds, eqF] using h
theorem isF_get {i : Nat} {y : EV} {x : Nat → Value} {w : World} (h : Facts.holds (isF i y) x w) : ∃ n p l c, x i = TV n p l c ∧ Is w y (TV n p l c) := by simpa [Facts.holds, isF] using h
theorem bxF_get {k b : Nat} {y : EV} {x : Nat → Value} {w : World} (h : Facts.holds (bxF k b y) x w) : ∃ n p l c, x k = TV n p l c ∧ Bx w b n p l c ∧ Is w y (TV n p l c) := by simpa [Facts.holds, bxF] using h
theorem isF_put {i : Nat} {y : EV} {x : Nat → Value} {w : World} {n : Int} {p : Option Addr} {l c : Nat} (h : Is w y (TV n p l c)) : Facts.holds (isF i y) (Facts.put x i (TV n p l c)) w := ⟨n, p, l, c, by simp [Facts.put, isF], h⟩
def staysF (f : Facts.Fact) : Prop := ∀ vs w w', f.2 vs w → Below w.heap.size w w' → f.2 vs w'
theorem eqF_stays (i : Nat) (v : Value) : staysF (eqF i v) := fun _ _ _ h _ => h
theorem isF_stays (i : Nat) (x : EV) : staysF (isF i x) := fun _ _ _ ⟨n, p, l, c, e, h⟩ hb => ⟨n, p, l, c, e, h.later hb⟩
theorem bxF_stays (k b : Nat) (x : EV) : staysF (bxF k b x) := fun _ _ _ ⟨n, p, l, c, e, h, h'⟩ hb => ⟨n, p, l, c, e, h.later hb, h'.later hb⟩
theorem stay_of {F : List Facts.Fact} (h : ∀ f ∈ F, staysF f) : Facts.Stay F := fun _ f hj => h f (List.mem_of_getElem? hj)
/-- Facts that stay when a box is written. -/
def boxF (f : Facts.Fact) (q : Nat) : Prop := ∀ vs w n p l c, f.2 vs w → (∃ n p l c, Bx w q n p l c) → f.2 vs (w.setRow q #[.int .i64 n, .slice p l c])
theorem eqF_box (i : Nat) (v : Value) (q : Nat) : boxF (eqF i v) q := fun _ _ _ _ _ _ h _ => h
theorem isF_box (i : Nat) (x : EV) (q : Nat) : boxF (isF i x) q := fun _ _ _ _ _ _ ⟨n, p, l, c, e, h⟩ ⟨_, _, _, _, hq⟩ => ⟨n, p, l, c, e, h.box hq _⟩
theorem bxF_box (k b : Nat) (x : EV) (q : Nat) (hne : b ≠ q) : boxF (bxF k b x) q := fun _ _ _ _ _ _ ⟨n, p, l, c, e, h, h'⟩ ⟨_, _, _, _, hq⟩ => ⟨n, p, l, c, e, h.rowOther hne _, h'.box hq _⟩
/-- A tree and a number; a new box; what a new box holds. -/
def teF (i : Nat) (x : EV) (r : Int) : Facts.Fact := ([i], fun vs w => ∃ n p l c, vs = [.tuple #[TV n p l c, .int .i64 r]] ∧ Is w x (TV n p l c))
def alF (i N : Nat) : Facts.Fact := ([i], fun vs w => ∃ q n p l c, vs = [.pointer (some ⟨q, 0, none⟩)] ∧ N ≤ q ∧ Bx w q n p l c)
def sbF (m k N : Nat) (x : EV) : Facts.Fact := ([m, k], fun vs w => ∃ q n p l c, vs = [.pointer (some ⟨q, 0, none⟩), TV n p l c] ∧ N ≤ q ∧ Bx w q n p l c ∧ Is w x (TV n p l c))
theorem teF_get {i : Nat} {y : EV} {r : Int} {x : Nat → Value} {w : World} (h : Facts.holds (teF i y r) x w) : ∃ n p l c, x i = .tuple #[TV n p l c, .int .i64 r] ∧ Is w y (TV n p l c) := by simpa [Facts.holds, teF] using h
theorem alF_get {i N : Nat} {x : Nat → Value} {w : World} (h : Facts.holds (alF i N) x w) : ∃ q n p l c, x i = .pointer (some ⟨q, 0, none⟩) ∧ N ≤ q ∧ Bx w q n p l c := by simpa [Facts.holds, alF] using h
theorem sbF_get {m k N : Nat} {y : EV} {x : Nat → Value} {w : World} (h : Facts.holds (sbF m k N y) x w) : ∃ q n p l c, x m = .pointer (some ⟨q, 0, none⟩) ∧ x k = TV n p l c ∧ N ≤ q ∧ Bx w q n p l c ∧ Is w y (TV n p l c) := by
  obtain ⟨q, n, p, l, c, e, h1, h2, h3⟩ := h
  simp only [sbF, List.map_cons, List.map_nil, List.cons.injEq, and_true] at e
  exact ⟨q, n, p, l, c, e.1, e.2, h1, h2, h3⟩
theorem teF_stays (i : Nat) (x : EV) (r : Int) : staysF (teF i x r) := fun _ _ _ ⟨n, p, l, c, e, h⟩ hb => ⟨n, p, l, c, e, h.later hb⟩
theorem alF_stays (i N : Nat) : staysF (alF i N) := fun _ _ _ ⟨q, n, p, l, c, e, hN, h⟩ hb => ⟨q, n, p, l, c, e, hN, h.later hb⟩
theorem sbF_stays (m k N : Nat) (x : EV) : staysF (sbF m k N x) := fun _ _ _ ⟨q, n, p, l, c, e, hN, h, h'⟩ hb => ⟨q, n, p, l, c, e, hN, h.later hb, h'.later hb⟩
theorem teF_box (i : Nat) (x : EV) (r : Int) (q : Nat) : boxF (teF i x r) q := fun _ _ _ _ _ _ ⟨n, p, l, c, e, h⟩ ⟨_, _, _, _, hq⟩ => ⟨n, p, l, c, e, h.box hq _⟩
theorem alF_box (i N q : Nat) : boxF (alF i N) q := fun _ _ n' p' l' c' ⟨q', n, p, l, c, e, hN, h⟩ ⟨_, _, _, _, hq⟩ => by
  by_cases eq : q' = q
  · subst eq; exact ⟨q', n', p', l', c', e, hN, hq.row n' p' l' c'⟩
  · exact ⟨q', n, p, l, c, e, hN, h.rowOther eq _⟩
theorem sbF_box (m k N : Nat) (x : EV) (q : Nat) (hq : q < N) : boxF (sbF m k N x) q := fun _ _ _ _ _ _ ⟨q', n, p, l, c, e, hN, h, h'⟩ ⟨_, _, _, _, hb⟩ => ⟨q', n, p, l, c, e, hN, h.rowOther (by omega) _, h'.box hb _⟩

theorem wp_load_t {op : Oper} {a : Act} {w : World} {K : Act → World → Prop} {Q : Exit → Act → World → Prop} (x : Operand) (ho : op.op = .load 24 x) (b f : Nat) (hx : a.eval x = .pointer (some ⟨b, f, none⟩)) {n : Int} {p : Option Addr} {l c : Nat} (hc : Tat w b f n p l c)
    (h : K (a.put op.dst (TV n p l c)) w) : op.wp Try.prog a w K Q := by
  unfold Oper.wp execOp
  simp only [ho, hx, Sem.run_bind, hc.load, Result.andThen_ok, Sem.run_pure]
  exact h
theorem wp_store_t {op : Oper} {a : Act} {w : World} {K : Act → World → Prop} {Q : Exit → Act → World → Prop} (x y : Operand) (ho : op.op = .store 24 x y) (b : Nat) (n : Int) (p : Option Addr) (l c : Nat) (hx : a.eval x = .pointer (some ⟨b, 0, none⟩)) (hy : a.eval y = TV n p l c) {n0 : Int} {p0 : Option Addr} {l0 c0 : Nat} (hc : Bx w b n0 p0 l0 c0)
    (h : K (a.put op.dst undef) (w.setRow b #[.int .i64 n, .slice p l c])) : op.wp Try.prog a w K Q := by
  unfold Oper.wp execOp
  simp only [ho, hx, hy, Sem.run_bind, hc.store n p l c, Result.andThen_ok, Sem.run_pure]
  exact h

section
variable {Q : Exit → Act → World → Prop} {S : World → Prop} {md : Region.Mode} {A : (Nat → Value) → Act} {F : List Facts.Fact} {i : Nat} {o : Oper}
/-- A tree is loaded. -/
theorem Facts.loadT (hS : Calm.Stays S) (hF : Facts.Stay F) (hA : ∀ x u, (A x).put o.dst u = A (Facts.put x i u)) (u : Operand) (ho : o.op = .load 24 u) {n : Int} {p : Option Addr} {l c : Nat} (hf : F[i]? = some (eqF i (TV n p l c))) {b f : Nat}
    (hx : ∀ x w, S w → (∀ e ∈ o.after, Region.binds md e = true → ∀ f, F[e.on]? = some f → Facts.holds f x w) → (A x).eval u = .pointer (some ⟨b, f, none⟩)) (hc : ∀ w, S w → Tat w b f n p l c) : Facts.StepOk Try.prog md Q S A F i o :=
  Facts.pure hS hF hA hf fun x w hSw hdep => by
    unfold execOp
    simp only [ho, hx x w hSw hdep, Sem.run_bind, (hc w hSw).load, Result.andThen_ok, Sem.run_pure]
/-- A function is called with trees, and answers a tree. -/
theorem Facts.call1T (hS : Calm.Stays S) (hF : Facts.Stay F) (hA : ∀ x u, (A x).put o.dst u = A (Facts.put x i u)) {fn : FuncId} {ts : Array TypeId} {u : Operand} (ho : o.op = .call { callee := .value (.func fn), args := #[u], argTypes := ts }) (hf : Calm.enters Try.prog fn = true) {z : EV} (hz : F[i]? = some (isF i z))
    (h : ∀ x w, S w → (∀ e ∈ o.after, Region.binds md e = true → ∀ f, F[e.on]? = some f → Facts.holds f x w) → Calls Try.prog fn #[(A x).eval u] w (Gives z w)) : Facts.StepOk Try.prog md Q S A F i o :=
  Facts.call (f := fn) hS hF hA fun x w hSw hdep => ⟨#[(A x).eval u], by
    have e : ∀ args, (callFunc fn args).run Try.prog w = .ok (.enter fn args) w := fun args => Calm.enters_run hf args w
    unfold execOp
    simp [ho, go_sem, Act.eval, e], (h x w hSw hdep).mono fun e w' ⟨n, p, l, c, he, hi, hb⟩ => ⟨_, he, hb, fun f hf' => by
      rw [hz] at hf'
      obtain rfl := Option.some.inj hf'
      exact isF_put hi⟩⟩
theorem Facts.call2T (hS : Calm.Stays S) (hF : Facts.Stay F) (hA : ∀ x u, (A x).put o.dst u = A (Facts.put x i u)) {fn : FuncId} {ts : Array TypeId} {u v : Operand} (ho : o.op = .call { callee := .value (.func fn), args := #[u, v], argTypes := ts }) (hf : Calm.enters Try.prog fn = true) {z : EV} (hz : F[i]? = some (isF i z))
    (h : ∀ x w, S w → (∀ e ∈ o.after, Region.binds md e = true → ∀ f, F[e.on]? = some f → Facts.holds f x w) → Calls Try.prog fn #[(A x).eval u, (A x).eval v] w (Gives z w)) : Facts.StepOk Try.prog md Q S A F i o :=
  Facts.call (f := fn) hS hF hA fun x w hSw hdep => ⟨#[(A x).eval u, (A x).eval v], by
    have e : ∀ args, (callFunc fn args).run Try.prog w = .ok (.enter fn args) w := fun args => Calm.enters_run hf args w
    unfold execOp
    simp [ho, go_sem, Act.eval, e], (h x w hSw hdep).mono fun e w' ⟨n, p, l, c, he, hi, hb⟩ => ⟨_, he, hb, fun f hf' => by
      rw [hz] at hf'
      obtain rfl := Option.some.inj hf'
      exact isF_put hi⟩⟩
/-- A tree that operation k came to is stored in the box b. -/
theorem Facts.storeT (hA : ∀ x u, (A x).put o.dst u = A (Facts.put x i u)) (u v : Operand) (ho : o.op = .store 24 u v) {k b : Nat} {z : EV} (hki : k ≠ i) (hz : F[i]? = some (bxF k b z))
    (hx : ∀ x, (A x).eval u = .pointer (some ⟨b, 0, none⟩)) (hy : ∀ x, (A x).eval v = x k) (hk : ∀ x w, S w → (∀ e ∈ o.after, Region.binds md e = true → ∀ f, F[e.on]? = some f → Facts.holds f x w) → ∃ n p l c, x k = TV n p l c ∧ Is w z (TV n p l c))
    (hb : ∀ w, S w → (∃ n p l c, Bx w b n p l c) ∧ ∀ n p l c, S (w.setRow b #[.int .i64 n, .slice p l c])) (hoth : ∀ (j : Nat) (f : Facts.Fact), j ≠ i → F[j]? = some f → boxF f b) : Facts.StepOk Try.prog md Q S A F i o := by
  intro x w hSw hdep
  obtain ⟨n, p, l, c, e, hi⟩ := hk x w hSw hdep
  obtain ⟨⟨n0, p0, l0, c0, hbx⟩, hS'⟩ := hb w hSw
  refine wp_store_t u v ho b n p l c (hx x) ((hy x).trans e) hbx ?_
  refine ⟨undef, hA x undef, hS' n p l c, fun f hf' => ?_, fun j f hj hfj hh => hoth j f hj hfj _ _ n p l c hh ⟨_, _, _, _, hbx⟩⟩
  rw [hz] at hf'
  obtain rfl := Option.some.inj hf'
  exact ⟨n, p, l, c, by simp [Facts.put, bxF, hki, e], hbx.row n p l c, hi.box hbx _⟩
/-- A function is called with two trees, and answers a tree and a number. -/
theorem Facts.call2E (hS : Calm.Stays S) (hF : Facts.Stay F) (hA : ∀ x u, (A x).put o.dst u = A (Facts.put x i u)) {fn : FuncId} {ts : Array TypeId} {u v : Operand} (ho : o.op = .call { callee := .value (.func fn), args := #[u, v], argTypes := ts }) (hf : Calm.enters Try.prog fn = true) {z : EV} {r : Int} (hz : F[i]? = some (teF i z r))
    (h : ∀ x w, S w → (∀ e ∈ o.after, Region.binds md e = true → ∀ f, F[e.on]? = some f → Facts.holds f x w) → Calls Try.prog fn #[(A x).eval u, (A x).eval v] w fun e w' => ∃ n p l c, e = .returned (.tuple #[TV n p l c, .int .i64 r]) ∧ Is w' z (TV n p l c) ∧ Below w.heap.size w w') : Facts.StepOk Try.prog md Q S A F i o :=
  Facts.call (f := fn) hS hF hA fun x w hSw hdep => ⟨#[(A x).eval u, (A x).eval v], by
    have e : ∀ args, (callFunc fn args).run Try.prog w = .ok (.enter fn args) w := fun args => Calm.enters_run hf args w
    unfold execOp
    simp [ho, go_sem, Act.eval, e], (h x w hSw hdep).mono fun e w' ⟨n, p, l, c, he, hi, hb⟩ => ⟨_, he, hb, fun f hf' => by
      rw [hz] at hf'
      obtain rfl := Option.some.inj hf'
      exact ⟨n, p, l, c, by simp [Facts.put, teF], hi⟩⟩⟩
/-- A tree and a number are handed on; the tree is taken out. -/
theorem Facts.moveE (hS : Calm.Stays S) (hF : Facts.Stay F) (hA : ∀ x u, (A x).put o.dst u = A (Facts.put x i u)) {u : Operand} (ho : o.op = .move u) {k : Nat} {z : EV} {r : Int} (hz : F[i]? = some (teF i z r)) (hu : ∀ x, (A x).eval u = x k)
    (h : ∀ x w, S w → (∀ e ∈ o.after, Region.binds md e = true → ∀ f, F[e.on]? = some f → Facts.holds f x w) → Facts.holds (teF k z r) x w) : Facts.StepOk Try.prog md Q S A F i o :=
  Facts.step hS hF hA fun x w hSw hdep => by
    obtain ⟨n, p, l, c, e, hi⟩ := teF_get (h x w hSw hdep)
    unfold Oper.wp execOp
    simp only [ho, hu x, e, Sem.run_pure]
    refine ⟨_, rfl, Below.refl _ _, fun f hf' => ?_⟩
    rw [hz] at hf'
    obtain rfl := Option.some.inj hf'
    exact ⟨n, p, l, c, by simp [Facts.put, teF], hi⟩
theorem Facts.fstE (hS : Calm.Stays S) (hF : Facts.Stay F) (hA : ∀ x u, (A x).put o.dst u = A (Facts.put x i u)) {u : Operand} (ho : o.op = .extract u 0) {k : Nat} {z : EV} {r : Int} (hz : F[i]? = some (isF i z)) (hu : ∀ x, (A x).eval u = x k)
    (h : ∀ x w, S w → (∀ e ∈ o.after, Region.binds md e = true → ∀ f, F[e.on]? = some f → Facts.holds f x w) → Facts.holds (teF k z r) x w) : Facts.StepOk Try.prog md Q S A F i o :=
  Facts.step hS hF hA fun x w hSw hdep => by
    obtain ⟨n, p, l, c, e, hi⟩ := teF_get (h x w hSw hdep)
    have hr : (execOp (A x).eval o).run Try.prog w = .ok (.value (TV n p l c)) w := by
      have hv := (hu x).trans e
      generalize (A x).eval = ρ at hv
      unfold execOp
      simp [ho, hv, go_sem]
    unfold Oper.wp
    rw [hr]
    refine ⟨_, rfl, Below.refl _ _, fun f hf' => ?_⟩
    rw [hz] at hf'
    obtain rfl := Option.some.inj hf'
    exact isF_put hi
theorem Facts.sndE (hS : Calm.Stays S) (hF : Facts.Stay F) (hA : ∀ x u, (A x).put o.dst u = A (Facts.put x i u)) {u : Operand} (ho : o.op = .extract u 1) {k : Nat} {z : EV} {r : Int} (hz : F[i]? = some (eqF i (.int .i64 r))) (hu : ∀ x, (A x).eval u = x k)
    (h : ∀ x w, S w → (∀ e ∈ o.after, Region.binds md e = true → ∀ f, F[e.on]? = some f → Facts.holds f x w) → Facts.holds (teF k z r) x w) : Facts.StepOk Try.prog md Q S A F i o :=
  Facts.pure hS hF hA hz fun x w hSw hdep => by
    obtain ⟨n, p, l, c, e, hi⟩ := teF_get (h x w hSw hdep)
    have hv := (hu x).trans e
    generalize (A x).eval = ρ at hv
    unfold execOp
    simp [ho, hv, go_sem]
/-- A new box. -/
theorem Facts.allocT (hS : Calm.Stays S) (hF : Facts.Stay F) (hA : ∀ x u, (A x).put o.dst u = A (Facts.put x i u)) (ho : o.op = .alloc 24) {N : Nat} (hz : F[i]? = some (alF i N)) (hN : ∀ w, S w → N ≤ w.heap.size) : Facts.StepOk Try.prog md Q S A F i o :=
  Facts.step hS hF hA fun x w hSw hdep => by
    have hr : (execOp (A x).eval o).run Try.prog w = .ok (.value (.pointer (some ⟨w.heap.size, 0, none⟩))) (w.alloc (.cells #[.int .i64 0, .slice none 0 0] 24)) := by
      unfold execOp
      generalize (A x).eval = ρ
      simp [ho, go_sem]
    unfold Oper.wp
    rw [hr]
    refine ⟨_, rfl, (Below.refl _ _).alloc (Nat.le_refl _) _, fun f hf' => ?_⟩
    rw [hz] at hf'
    obtain rfl := Option.some.inj hf'
    exact ⟨w.heap.size, 0, none, 0, 0, by simp [Facts.put, alF], hN w hSw, bx_new w 0 none 0 0⟩
/-- A tree that operation k came to is stored in the new box that operation m made. -/
theorem Facts.storeP (hA : ∀ x u, (A x).put o.dst u = A (Facts.put x i u)) (u v : Operand) (ho : o.op = .store 24 u v) {m k N : Nat} {z : EV} (hmi : m ≠ i) (hki : k ≠ i) (hz : F[i]? = some (sbF m k N z))
    (hx : ∀ x, (A x).eval u = x m) (hy : ∀ x, (A x).eval v = x k) (hm : ∀ x w, S w → (∀ e ∈ o.after, Region.binds md e = true → ∀ f, F[e.on]? = some f → Facts.holds f x w) → Facts.holds (alF m N) x w ∧ Facts.holds (isF k z) x w)
    (hb : ∀ w q n p l c n' p' l' c', S w → N ≤ q → Bx w q n' p' l' c' → S (w.setRow q #[.int .i64 n, .slice p l c])) (hoth : ∀ (j : Nat) (f : Facts.Fact), j ≠ i → F[j]? = some f → ∀ q, N ≤ q → boxF f q) : Facts.StepOk Try.prog md Q S A F i o := by
  intro x w hSw hdep
  obtain ⟨h1, h2⟩ := hm x w hSw hdep
  obtain ⟨q, n0, p0, l0, c0, eq, hq, hbx⟩ := alF_get h1
  obtain ⟨n, p, l, c, e, hi⟩ := isF_get h2
  refine wp_store_t u v ho q n p l c ((hx x).trans eq) ((hy x).trans e) hbx ?_
  refine ⟨undef, hA x undef, hb w q n p l c _ _ _ _ hSw hq hbx, fun f hf' => ?_, fun j f hj hfj hh => hoth j f hj hfj q hq _ _ n p l c hh ⟨_, _, _, _, hbx⟩⟩
  rw [hz] at hf'
  obtain rfl := Option.some.inj hf'
  exact ⟨q, n, p, l, c, by simp [Facts.put, sbF, hki, hmi, e, eq], hq, hbx.row n p l c, hi.box hbx _⟩
end

/-- A slice of two trees; what lifter made. -/
def rsF (i : Nat) (x y : EV) : Facts.Fact := ([i], fun vs w => ∃ q n p l c n' p' l' c', vs = [.slice (some ⟨q, 0, none⟩) 2 2] ∧ Tat w q 0 n p l c ∧ Tat w q 2 n' p' l' c' ∧ Is w x (TV n p l c) ∧ Is w y (TV n' p' l' c'))
theorem rsF_get {i : Nat} {y z : EV} {x : Nat → Value} {w : World} (h : Facts.holds (rsF i y z) x w) : ∃ q n p l c n' p' l' c', x i = .slice (some ⟨q, 0, none⟩) 2 2 ∧ Tat w q 0 n p l c ∧ Tat w q 2 n' p' l' c' ∧ Is w y (TV n p l c) ∧ Is w z (TV n' p' l' c') := by simpa [Facts.holds, rsF] using h
theorem rsF_stays (i : Nat) (x y : EV) : staysF (rsF i x y) := fun _ _ _ ⟨q, n, p, l, c, n', p', l', c', e, t, t', h, h'⟩ hb => ⟨q, n, p, l, c, n', p', l', c', e, t.later hb, t'.later hb, h.later hb, h'.later hb⟩
theorem rsF_box (i : Nat) (x y : EV) (q : Nat) : boxF (rsF i x y) q := fun _ _ _ _ _ _ ⟨q', n, p, l, c, n', p', l', c', e, t, t', h, h'⟩ ⟨_, _, _, _, hq⟩ => ⟨q', n, p, l, c, n', p', l', c', e, t.box_lo hq t' _, t'.box_hi hq _, h.box hq _, h'.box hq _⟩

section
variable {Q : Exit → Act → World → Prop} {S : World → Prop} {md : Region.Mode} {A : (Nat → Value) → Act} {F : List Facts.Fact} {i : Nat} {o : Oper}
/-- What lifter made is called with a tree. -/
theorem Facts.callC (hS : Calm.Stays S) (hF : Facts.Stay F) (hA : ∀ x u, (A x).put o.dst u = A (Facts.put x i u)) {ts : Array TypeId} {u0 u : Operand} (ho : o.op = .call { callee := .value u0, args := #[u], argTypes := ts }) {z : EV} {b : Nat} (hz : F[i]? = some (isF i z))
    (h : ∀ x w, S w → (∀ e ∈ o.after, Region.binds md e = true → ∀ f, F[e.on]? = some f → Facts.holds f x w) → (A x).eval u0 = LF b ∧ Calls Try.prog 109 #[(A x).eval u, .pointer (some ⟨b, 0, none⟩)] w (Gives z w)) : Facts.StepOk Try.prog md Q S A F i o :=
  Facts.call (f := 109) hS hF hA fun x w hSw hdep => ⟨#[(A x).eval u, .pointer (some ⟨b, 0, none⟩)], by
    have e : ∀ args, (callFunc 109 args).run Try.prog w = .ok (.enter 109 args) w := fun args => Calm.enters_run (by kernel_rfl) args w
    have hv := (h x w hSw hdep).1
    generalize (A x).eval = ρ at hv
    unfold execOp
    simp [ho, go_sem, hv, e], (h x w hSw hdep).2.mono fun e w' ⟨n, p, l, c, he, hi, hb⟩ => ⟨_, he, hb, fun f hf' => by
      rw [hz] at hf'
      obtain rfl := Option.some.inj hf'
      exact isF_put hi⟩⟩
/-- A slice of two trees is built. -/
theorem Facts.sliceT (hS : Calm.Stays S) (hF : Facts.Stay F) (hA : ∀ x u, (A x).put o.dst u = A (Facts.put x i u)) {u v : Operand} (ho : o.op = .buildSlice 22 2 #[(0, u), (1, v)]) {j k : Nat} {y z : EV} (hz : F[i]? = some (rsF i y z)) (hu : ∀ x, (A x).eval u = x j) (hv : ∀ x, (A x).eval v = x k)
    (h : ∀ x w, S w → (∀ e ∈ o.after, Region.binds md e = true → ∀ f, F[e.on]? = some f → Facts.holds f x w) → Facts.holds (isF j y) x w ∧ Facts.holds (isF k z) x w) : Facts.StepOk Try.prog md Q S A F i o :=
  Facts.step hS hF hA fun x w hSw hdep => by
    obtain ⟨h1, h2⟩ := h x w hSw hdep
    obtain ⟨n, p, l, c, e, hi⟩ := isF_get h1
    obtain ⟨n', p', l', c', e', hi'⟩ := isF_get h2
    have eu := (hu x).trans e
    have ev := (hv x).trans e'
    have hr : (execOp (A x).eval o).run Try.prog w = .ok (.value (.slice (some ⟨w.heap.size, 0, none⟩) 2 2)) (w.alloc (.cells #[.int .i64 n, .slice p l c, .int .i64 n', .slice p' l' c'] 24)) := by
      unfold execOp
      generalize (A x).eval = ρ at eu ev
      simp [ho, go_sem, eu, ev]
    obtain ⟨t1, t2, hb⟩ := row_tats w n p l c n' p' l' c' _ rfl
    unfold Oper.wp
    rw [hr]
    refine ⟨_, rfl, hb, fun f hf' => ?_⟩
    rw [hz] at hf'
    obtain rfl := Option.some.inj hf'
    exact ⟨w.heap.size, n, p, l, c, n', p', l', c', by simp [Facts.put, rsF], t1, t2, hi.later hb, hi'.later hb⟩
/-- A tree of a number and a slice of two is built. -/
theorem Facts.buildT (hS : Calm.Stays S) (hF : Facts.Stay F) (hA : ∀ x u, (A x).put o.dst u = A (Facts.put x i u)) {u v : Operand} (ho : o.op = .build 24 #[(0, u), (1, v)]) {k : Nat} {m : Int} {y z : EV} (hz : F[i]? = some (isF i (.node m y z))) (hv : ∀ x, (A x).eval v = x k)
    (h : ∀ x w, S w → (∀ e ∈ o.after, Region.binds md e = true → ∀ f, F[e.on]? = some f → Facts.holds f x w) → (A x).eval u = .int .i64 m ∧ Facts.holds (rsF k y z) x w) : Facts.StepOk Try.prog md Q S A F i o :=
  Facts.step hS hF hA fun x w hSw hdep => by
    obtain ⟨eu, h2⟩ := h x w hSw hdep
    obtain ⟨q, n, p, l, c, n', p', l', c', e', t, t', hi, hi'⟩ := rsF_get h2
    have ev := (hv x).trans e'
    have hr : (execOp (A x).eval o).run Try.prog w = .ok (.value (TV m (some ⟨q, 0, none⟩) 2 2)) w := by
      unfold execOp
      generalize (A x).eval = ρ at eu ev
      simp [ho, go_sem, eu, ev]
    unfold Oper.wp
    rw [hr]
    refine ⟨_, rfl, Below.refl _ _, fun f hf' => ?_⟩
    rw [hz] at hf'
    obtain rfl := Option.some.inj hf'
    exact isF_put ⟨q, 0, 2, n, p, l, c, n', p', l', c', rfl, t, t', hi, hi'⟩
end
end Go.Proofs.Ytmcajjdijjcpkaa
/- A region that draws its order, by a fact of each operation: also where operations are guarded, and where what two operations came to stands in a relation (two new boxes are not one). Nothing of one program. -/
namespace Go.Proofs.Ytmcajjdijjcpkaa.FactsG
open Go.RowKit Facts

section
variable {P : Program} {Q : Exit → Act → World → Prop} {S : World → Prop} {md : Region.Mode} {A : (Nat → Value) → Act} {F : List Fact} {l : List Oper} {R : Nat → Nat → Value → Value → Prop}

def downB (md : Region.Mode) (l : List Oper) : Bool := l.zipIdx.all fun (o, i) => o.after.all fun e => !Region.binds md e || decide (e.on < i)
theorem downB_spec (h : downB md l = true) {i : Nat} {o : Oper} (hi : l[i]? = some o) : ∀ e ∈ o.after, Region.binds md e = true → e.on < i := by
  have hm : (o, i) ∈ l.zipIdx := by
    rw [List.mem_zipIdx_iff_getElem?]
    exact hi
  have := List.all_eq_true.1 h _ hm
  exact fun e he hb => by have := Array.all_eq_true_iff_forall_mem.1 this e he; simpa [hb] using this
theorem ready_of_least (h : downB md l = true) {listed : Array Bool} (hs : listed.size = l.length) {n : Nat} (hn : n < l.length) (hun : listed.getD n true = false) : ∃ j, j ∈ Region.ready md l.toArray listed := by
  induction n using Nat.strongRecOn with
  | _ n ih =>
    by_cases hall : ∀ m, m < n → listed.getD m true = true
    · refine ⟨n, mem_ready.2 ⟨hun, l[n], by simp, fun e he hbd => ?_⟩⟩
      have hlt := downB_spec h (List.getElem?_eq_getElem hn) e he hbd
      have := hall e.on hlt
      have hb : e.on < listed.size := by omega
      simpa [hb] using this
    · simp only [Classical.not_forall] at hall
      obtain ⟨m, hm, hf⟩ := hall
      exact ih m hm (by omega) (by simpa using hf)

theorem wpOp_mono {ops : Array Oper} {i : Nat} {K K' : Act → World → Prop} {a : Act} {w : World} (hK : ∀ a w, K a w → K' a w) (h : Go.wpOp P ops Q i K a w) : Go.wpOp P ops Q i K' a w := by
  unfold Go.wpOp at *
  cases ho : ops[i]? with
  | none =>
    simp only [ho] at h ⊢
    exact hK _ _ h
  | some o =>
    simp only [ho] at h ⊢
    split
    · rename_i hw
      rw [if_pos hw] at h
      rcases h with h | h
      · exact .inl (Oper.wp_mono hK h)
      · exact .inr h
    · rename_i hw
      rw [if_neg hw] at h
      exact hK _ _ h

/-- What an operation is asked for. -/
def StepOk (P : Program) (md : Region.Mode) (l : List Oper) (Q : Exit → Act → World → Prop) (S : World → Prop) (A : (Nat → Value) → Act) (F : List Fact) (R : Nat → Nat → Value → Value → Prop) (i : Nat) (o : Oper) : Prop :=
  ∀ x w, S w → (∀ e ∈ o.after, Region.binds md e = true → ∀ f, F[e.on]? = some f → holds f x w) → (∀ e ∈ o.after, Region.binds md e = true → ∀ e' ∈ o.after, Region.binds md e' = true → e.on ≠ e'.on → R e.on e'.on (x e.on) (x e'.on)) →
    Go.wpOp P l.toArray Q i (fun a' w' => ∃ u, a' = A (put x i u) ∧ S w' ∧ (∀ f, F[i]? = some f → holds f (put x i u) w') ∧ (∀ j f, j ≠ i → F[j]? = some f → holds f x w → holds f x w') ∧ (∀ j f, j ≠ i → F[j]? = some f → holds f x w → R i j u (x j))) (A x) w

def Inv (md : Region.Mode) (l : List Oper) (S : World → Prop) (A : (Nat → Value) → Act) (F : List Fact) (R : Nat → Nat → Value → Value → Prop) (L : Nat → Bool) (a : Act) (w : World) : Prop :=
  S w ∧ (∀ i o, l[i]? = some o → L i = true → ∀ e ∈ o.after, Region.binds md e = true → L e.on = true) ∧
    ∃ x, a = A x ∧ (∀ i f, i < l.length → F[i]? = some f → L i = true → holds f x w) ∧ ∀ i j, i < l.length → j < l.length → i ≠ j → L i = true → L j = true → R i j (x i) (x j)

theorem wpAny_inv (hd : downB md l = true) (D : List (List Nat)) (hD : F.map (·.1) = D) (hlen : D.length = l.length) (hl : nearB md l D = true) (hR : ∀ i j u v, R i j u v → R j i v u) (hstep : Owed.each (StepOk P md l Q S A F R) 0 l)
    (hend : ∀ x w', S w' → (∀ i f, i < l.length → F[i]? = some f → holds f x w') → (∀ i j, i < l.length → j < l.length → i ≠ j → R i j (x i) (x j)) → Q .normal (A x) w') :
    ∀ (fuel : Nat) (listed : Array Bool) (a : Act) (w : World), listed.size = l.length → Owed.left listed ≤ fuel → Inv md l S A F R (fun i => listed.getD i true) a w → wpAny P md l.toArray Q fuel listed a w := by
  have hFl : F.length = l.length := by rw [← hlen, ← hD, List.length_map]
  have fin : ∀ (listed : Array Bool) (a : Act) (w : World), listed.size = l.length → Region.ready md l.toArray listed = [] → Inv md l S A F R (fun i => listed.getD i true) a w → Q .normal a w := fun listed a w hs hr h => by
    have all : ∀ i, i < l.length → listed.getD i true = true := fun i hi => by
      cases hv : listed.getD i true
      · obtain ⟨j, hj⟩ := ready_of_least (md := md) hd hs hi hv
        rw [hr] at hj
        cases hj
      · rfl
    obtain ⟨hS, _, x, rfl, hf, hrel⟩ := h
    exact hend x w hS (fun i f hi hfi => hf i f hi hfi (all i hi)) (fun i j hi hj hij => hrel i j hi hj hij (all i hi) (all j hj))
  intro fuel
  induction fuel with
  | zero =>
    intro listed a w hs hle h
    have hr : Region.ready md l.toArray listed = [] := by
      cases hr : Region.ready md l.toArray listed with
      | nil => rfl
      | cons i r =>
        have hun := (mem_ready.1 (show i ∈ Region.ready md l.toArray listed by rw [hr]; simp)).1
        have := Owed.left_set hun
        omega
    exact ⟨hr, fin listed a w hs hr h⟩
  | succ fuel ih =>
    intro listed a w hs hle h
    refine ⟨fun hr => fin listed a w hs hr h, fun i hi => ?_⟩
    obtain ⟨hun, o, ho, hall⟩ := mem_ready.1 hi
    have ho' : l[i]? = some o := by simpa using ho
    have hilt : i < l.length := (List.getElem?_eq_some_iff.1 ho').1
    have hst := Owed.each_at l 0 i o hstep ho'
    rw [Nat.zero_add] at hst
    obtain ⟨hS, hc, x, rfl, hf, hrel⟩ := h
    have hdep : ∀ e ∈ o.after, Region.binds md e = true → listed.getD e.on true = true ∧ e.on < l.length := fun e he hb => by
      have h1 := hall e he hb
      rcases Nat.lt_or_ge e.on listed.size with h' | h'
      · exact ⟨by simpa [h'] using h1, by omega⟩
      · simp [Array.getElem?_eq_none h'] at h1
    have old : ∀ j, j ≠ i → (listed.setIfInBounds i true).getD j true = listed.getD j true := fun j hj => getD_set_ne true (Ne.symm hj)
    refine wpOp_mono (fun a' w' h' => ?_) (hst x w hS (fun e he hb f hfe => hf e.on f (hdep e he hb).2 hfe (hdep e he hb).1) (fun e he hb e' he' hb' hne => hrel _ _ (hdep e he hb).2 (hdep e' he' hb').2 hne (hdep e he hb).1 (hdep e' he' hb').1))
    obtain ⟨u, rfl, hS', hfi, hoth, hrl⟩ := h'
    refine ih _ _ w' (by simp [hs]) (by have := Owed.left_set hun; omega) ⟨hS', fun j o' hj hLj e he hb => ?_, put x i u, rfl, fun j f hj hfj hLj => ?_, fun j k hj hk hjk hLj hLk => ?_⟩
    · by_cases e0 : e.on = i
      · rw [e0]
        have : i < listed.size := by omega
        simp [this]
      · show (listed.setIfInBounds i true).getD e.on true = true
        rw [old _ e0]
        by_cases e1 : j = i
        · subst e1
          obtain rfl : o = o' := by rw [ho'] at hj; exact Option.some.inj hj
          exact (hdep e he hb).1
        · refine hc j o' hj ?_ e he hb
          show listed.getD j true = true
          rw [← old j e1]
          exact hLj
    · by_cases e1 : j = i
      · subst e1; exact hfi f hfj
      · have hLj' : listed.getD j true = true := by rw [← old j e1]; exact hLj
        have h1 := hoth j f e1 hfj (hf j f hj hfj hLj')
        have e2 : f.1.map (put x i u) = f.1.map x := by
          apply List.map_congr_left
          intro k hk
          have hj' : l[j]? = some l[j] := List.getElem?_eq_getElem hj
          have hki : k ≠ i := by
            rcases nearB_spec hl hj' (by rw [← hD, List.getElem?_map, hfj]; rfl) hk with rfl | ⟨e, he, rfl, hb⟩
            · exact e1
            · intro h2
              have h3 : listed.getD e.on true = true := hc j _ hj' hLj' e he hb
              rw [h2, hun] at h3; cases h3
          simp [put, hki]
        unfold holds at *
        rw [e2]
        exact h1
    · have get : ∀ j, j < l.length → ∃ f, F[j]? = some f := fun j hj => ⟨F[j]'(by omega), List.getElem?_eq_getElem _⟩
      by_cases e1 : j = i
      · subst e1
        have hkj : k ≠ j := Ne.symm hjk
        have hLk' : listed.getD k true = true := by rw [← old k hkj]; exact hLk
        obtain ⟨f, hfk⟩ := get k hk
        have := hrl k f hkj hfk (hf k f hk hfk hLk')
        simpa [put, hkj] using this
      · have hLj' : listed.getD j true = true := by rw [← old j e1]; exact hLj
        by_cases e2 : k = i
        · subst e2
          obtain ⟨f, hfj⟩ := get j hj
          have := hR _ _ _ _ (hrl j f e1 hfj (hf j f hj hfj hLj'))
          simpa [put, e1] using this
        · have hLk' : listed.getD k true = true := by rw [← old k e2]; exact hLk
          have := hrel j k hj hk hjk hLj' hLk'
          simpa [put, e1, e2] using this

theorem region {id : Nat} {a : Act} {w : World} (hm : P.follows .mixedOrders = true) (hd : downB .any l = true) (S : World → Prop) (A : (Nat → Value) → Act) (F : List Fact) (R : Nat → Nat → Value → Value → Prop) (hR : ∀ i j u v, R i j u v → R j i v u)
    (D : List (List Nat)) (hD : F.map (·.1) = D) (hlen : D.length = l.length) (hl : nearB .any l D = true)
    (x0 : Nat → Value) (hA : a = A x0) (h0 : S w.drew) (hstep : Owed.each (StepOk P .any l Q S A F R) 0 l)
    (hend : ∀ x w', S w' → (∀ i f, i < l.length → F[i]? = some f → holds f x w') → (∀ i j, i < l.length → j < l.length → i ≠ j → R i j (x i) (x j)) → Q .normal (A x) w') : (Code.region id l.toArray true).wp P Q a w := by
  refine wp_region_any hm ?_
  refine wpAny_inv (md := .any) hd D hD hlen hl hR hstep hend l.toArray.size (Array.replicate l.toArray.size false) a w.drew (by simp) (by simp [Owed.left]) ⟨h0, fun i o hi hLi => ?_, x0, hA, fun i f hi _ hLi => ?_, fun i j hi _ _ hLi => ?_⟩
  · have : i < l.length := (List.getElem?_eq_some_iff.1 hi).1
    simp [this] at hLi
  · simp [hi] at hLi
  · simp [hi] at hLi

/-- By a step without guard and relation, where the guard lets it through. -/
theorem of {i : Nat} {o : Oper} (hi : l[i]? = some o) (hR : ∀ j u v, R i j u v)
    (hw : ∀ x w, S w → (∀ e ∈ o.after, Region.binds md e = true → ∀ f, F[e.on]? = some f → holds f x w) → Region.wanted o (yielded l.toArray (A x).tmps) = true)
    (h : Facts.StepOk P md Q S A F i o) : StepOk P md l Q S A F R i o := by
  intro x w hS hdep _
  unfold Go.wpOp
  have hi' : l.toArray[i]? = some o := by simpa using hi
  simp only [hi', hw x w hS hdep, if_true]
  refine .inl (Oper.wp_mono (fun a' w' hh => ?_) (h x w hS hdep))
  obtain ⟨u, h1, h2, h3, h4⟩ := hh
  exact ⟨u, h1, h2, h3, h4, fun j _ _ _ _ => hR j u _⟩
/-- The same, with the relation. -/
theorem ofR {i : Nat} {o : Oper} (hi : l[i]? = some o)
    (hw : ∀ x w, S w → (∀ e ∈ o.after, Region.binds md e = true → ∀ f, F[e.on]? = some f → holds f x w) → Region.wanted o (yielded l.toArray (A x).tmps) = true)
    (h : ∀ x w, S w → (∀ e ∈ o.after, Region.binds md e = true → ∀ f, F[e.on]? = some f → holds f x w) → (∀ e ∈ o.after, Region.binds md e = true → ∀ e' ∈ o.after, Region.binds md e' = true → e.on ≠ e'.on → R e.on e'.on (x e.on) (x e'.on)) →
      o.wp P (A x) w (fun a' w' => ∃ u, a' = A (put x i u) ∧ S w' ∧ (∀ f, F[i]? = some f → holds f (put x i u) w') ∧ (∀ j f, j ≠ i → F[j]? = some f → holds f x w → holds f x w') ∧ (∀ j f, j ≠ i → F[j]? = some f → holds f x w → R i j u (x j))) Q) : StepOk P md l Q S A F R i o := by
  intro x w hS hdep hrel
  unfold Go.wpOp
  have hi' : l.toArray[i]? = some o := by simpa using hi
  simp only [hi', hw x w hS hdep, if_true]
  exact .inl (h x w hS hdep hrel)
end
end Go.Proofs.Ytmcajjdijjcpkaa.FactsG
