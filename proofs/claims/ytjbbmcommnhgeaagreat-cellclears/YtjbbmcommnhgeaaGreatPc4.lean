import Derived.Test.YtjbbmcommnhgeaaGreatPc3
set_option maxRecDepth 100000
set_option maxHeartbeats 8000000
namespace Go.Proofs.YtjbbmcommnhgeaaGreat
open Go.RowKit
def Keeps (φ : Value → World → Prop) : Prop := ∀ v w w', φ v w → Below w.heap.size w w' → φ v w'
def pF (i : Nat) (φ : Value → World → Prop) : Facts.Fact := ([i], fun vs w => ∃ v, vs = [v] ∧ φ v w)
abbrev eqP (v : Value) : Value → World → Prop := fun u _ => u = v
def cP (x : X) : Value → World → Prop := fun u w => CHas w u x
def ownP (B e S n : Nat) (xs : List Value) : Value → World → Prop := fun u w => w.ownsRow B e S u n xs
theorem eqP_keeps (v : Value) : Keeps (eqP v) := fun _ _ _ h _ => h
theorem cP_keeps (x : X) : Keeps (cP x) := fun _ _ _ h hb => h.later hb
theorem ownP_keeps (B e S n : Nat) (xs : List Value) : Keeps (ownP B e S n xs) := fun _ _ _ h hb => own_later h hb
theorem pF_get {i : Nat} {φ : Value → World → Prop} {x : Nat → Value} {w : World} (h : Facts.holds (pF i φ) x w) : φ (x i) w := by
 obtain ⟨v, e, hv⟩ := h
 simp only [pF, List.map_cons, List.map_nil, List.cons.injEq, and_true] at e
 rw [e]
 exact hv
theorem pF_put {i : Nat} {φ : Value → World → Prop} {x : Nat → Value} {u : Value} {w : World} (h : φ u w) : Facts.holds (pF i φ) (Facts.put x i u) w := ⟨u, by simp [Facts.put, pF], h⟩
theorem stay_of {F : List Facts.Fact} (h : ∀ f ∈ F, ∃ i φ, f = pF i φ ∧ Keeps φ) : Facts.Stay F := fun _ f hj vs w w' hf hb => by
 obtain ⟨i, φ, rfl, hk⟩ := h f (List.mem_of_getElem? hj)
 obtain ⟨v, e, hv⟩ := hf
 exact ⟨v, e, hk v w w' hv hb⟩
section
variable {Q : Exit → Act → World → Prop} {S : World → Prop} {md : Region.Mode} {A : (Nat → Value) → Act} {F : List Facts.Fact} {i : Nat} {o : Oper} {φ : Value → World → Prop}
theorem Facts.pureP {v : Value} (hS : Calm.Stays S) (hF : Facts.Stay F) (hA : ∀ x u, (A x).put o.dst u = A (Facts.put x i u)) (hf : F[i]? = some (pF i (eqP v)))
  (h : ∀ x w, S w → (∀ e ∈ o.after, Region.binds md e = true → ∀ f, F[e.on]? = some f → Facts.holds f x w) → (execOp (A x).eval o).run Tryz.prog w = .ok (.value v) w) : Facts.StepOk Tryz.prog md Q S A F i o :=
 Facts.step hS hF hA fun x w hSw hdep => by
  unfold Oper.wp
  rw [h x w hSw hdep]
  refine ⟨v, rfl, Below.refl _ _, fun f hf' => ?_⟩
  rw [hf] at hf'
  obtain rfl := Option.some.inj hf'
  exact pF_put rfl
theorem Facts.loadP (hS : Calm.Stays S) (hF : Facts.Stay F) (hA : ∀ x u, (A x).put o.dst u = A (Facts.put x i u)) (t : TypeId) {d : TypeDesc} (hu : Tryz.prog.underlying t = some d) (hd : d.isRow = true) {b f : Nat} {cs : List Value} (hi : (Tryz.prog.info? t).map (·.size) = some cs.length) (u : Operand) (ho : o.op = .load t u)
  (hf : F[i]? = some (pF i (eqP (.agg cs.toArray)))) (hx : ∀ x w, S w → (∀ e ∈ o.after, Region.binds md e = true → ∀ f, F[e.on]? = some f → Facts.holds f x w) → (A x).eval u = .pointer (some ⟨b, f, none⟩)) (hc : ∀ w, S w → w.rangeAt b f cs) : Facts.StepOk Tryz.prog md Q S A F i o :=
 Facts.pureP hS hF hA hf fun x w hSw hdep => by
  have h2 := run_loadVar_mid (P := Tryz.prog) w b f t cs d (hc w hSw) hu hd hi
  unfold execOp
  simp only [ho, hx x w hSw hdep, Instr.loadAt, Instr.sureAddr, Sem.run_bind, Sem.run_pure, h2, Result.andThen_ok]
theorem Facts.call0P (hS : Calm.Stays S) (hF : Facts.Stay F) (hA : ∀ x u, (A x).put o.dst u = A (Facts.put x i u)) {fn : FuncId} {ts : Array TypeId} (ho : o.op = .call { callee := .value (.func fn), args := #[], argTypes := ts }) (hf : Calm.enters Tryz.prog fn = true) (hz : F[i]? = some (pF i φ))
  (h : ∀ x w, S w → (∀ e ∈ o.after, Region.binds md e = true → ∀ f, F[e.on]? = some f → Facts.holds f x w) → Calls Tryz.prog fn #[] w fun e w' => ∃ r, e = .returned r ∧ φ r w' ∧ Below w.heap.size w w') : Facts.StepOk Tryz.prog md Q S A F i o :=
 Facts.call (f := fn) hS hF hA fun x w hSw hdep => ⟨#[], by
  have e : ∀ args, (callFunc fn args).run Tryz.prog w = .ok (.enter fn args) w := fun args => Calm.enters_run hf args w
  unfold execOp
  simp [ho, go_sem, Act.eval, e], (h x w hSw hdep).mono fun e w' ⟨r, he, hr, hb⟩ => ⟨r, he, hb, fun f hf' => by
   rw [hz] at hf'
   obtain rfl := Option.some.inj hf'
   exact pF_put hr⟩⟩
theorem Facts.call1P (hS : Calm.Stays S) (hF : Facts.Stay F) (hA : ∀ x u, (A x).put o.dst u = A (Facts.put x i u)) {fn : FuncId} {ts : Array TypeId} {u1 : Operand} (ho : o.op = .call { callee := .value (.func fn), args := #[u1], argTypes := ts }) (hf : Calm.enters Tryz.prog fn = true) (hz : F[i]? = some (pF i φ))
  (h : ∀ x w, S w → (∀ e ∈ o.after, Region.binds md e = true → ∀ f, F[e.on]? = some f → Facts.holds f x w) → Calls Tryz.prog fn #[(A x).eval u1] w fun e w' => ∃ r, e = .returned r ∧ φ r w' ∧ Below w.heap.size w w') : Facts.StepOk Tryz.prog md Q S A F i o :=
 Facts.call (f := fn) hS hF hA fun x w hSw hdep => ⟨#[(A x).eval u1], by
  have e : ∀ args, (callFunc fn args).run Tryz.prog w = .ok (.enter fn args) w := fun args => Calm.enters_run hf args w
  unfold execOp
  simp [ho, go_sem, Act.eval, e], (h x w hSw hdep).mono fun e w' ⟨r, he, hr, hb⟩ => ⟨r, he, hb, fun f hf' => by
   rw [hz] at hf'
   obtain rfl := Option.some.inj hf'
   exact pF_put hr⟩⟩
theorem Facts.call2P (hS : Calm.Stays S) (hF : Facts.Stay F) (hA : ∀ x u, (A x).put o.dst u = A (Facts.put x i u)) {fn : FuncId} {ts : Array TypeId} {u1 u2 : Operand} (ho : o.op = .call { callee := .value (.func fn), args := #[u1, u2], argTypes := ts }) (hf : Calm.enters Tryz.prog fn = true) (hz : F[i]? = some (pF i φ))
  (h : ∀ x w, S w → (∀ e ∈ o.after, Region.binds md e = true → ∀ f, F[e.on]? = some f → Facts.holds f x w) → Calls Tryz.prog fn #[(A x).eval u1, (A x).eval u2] w fun e w' => ∃ r, e = .returned r ∧ φ r w' ∧ Below w.heap.size w w') : Facts.StepOk Tryz.prog md Q S A F i o :=
 Facts.call (f := fn) hS hF hA fun x w hSw hdep => ⟨#[(A x).eval u1, (A x).eval u2], by
  have e : ∀ args, (callFunc fn args).run Tryz.prog w = .ok (.enter fn args) w := fun args => Calm.enters_run hf args w
  unfold execOp
  simp [ho, go_sem, Act.eval, e], (h x w hSw hdep).mono fun e w' ⟨r, he, hr, hb⟩ => ⟨r, he, hb, fun f hf' => by
   rw [hz] at hf'
   obtain rfl := Option.some.inj hf'
   exact pF_put hr⟩⟩
theorem Facts.call3P (hS : Calm.Stays S) (hF : Facts.Stay F) (hA : ∀ x u, (A x).put o.dst u = A (Facts.put x i u)) {fn : FuncId} {ts : Array TypeId} {u1 u2 u3 : Operand} (ho : o.op = .call { callee := .value (.func fn), args := #[u1, u2, u3], argTypes := ts }) (hf : Calm.enters Tryz.prog fn = true) (hz : F[i]? = some (pF i φ))
  (h : ∀ x w, S w → (∀ e ∈ o.after, Region.binds md e = true → ∀ f, F[e.on]? = some f → Facts.holds f x w) → Calls Tryz.prog fn #[(A x).eval u1, (A x).eval u2, (A x).eval u3] w fun e w' => ∃ r, e = .returned r ∧ φ r w' ∧ Below w.heap.size w w') : Facts.StepOk Tryz.prog md Q S A F i o :=
 Facts.call (f := fn) hS hF hA fun x w hSw hdep => ⟨#[(A x).eval u1, (A x).eval u2, (A x).eval u3], by
  have e : ∀ args, (callFunc fn args).run Tryz.prog w = .ok (.enter fn args) w := fun args => Calm.enters_run hf args w
  unfold execOp
  simp [ho, go_sem, Act.eval, e], (h x w hSw hdep).mono fun e w' ⟨r, he, hr, hb⟩ => ⟨r, he, hb, fun f hf' => by
   rw [hz] at hf'
   obtain rfl := Option.some.inj hf'
   exact pF_put hr⟩⟩
theorem Facts.call4P (hS : Calm.Stays S) (hF : Facts.Stay F) (hA : ∀ x u, (A x).put o.dst u = A (Facts.put x i u)) {fn : FuncId} {ts : Array TypeId} {u1 u2 u3 u4 : Operand} (ho : o.op = .call { callee := .value (.func fn), args := #[u1, u2, u3, u4], argTypes := ts }) (hf : Calm.enters Tryz.prog fn = true) (hz : F[i]? = some (pF i φ))
  (h : ∀ x w, S w → (∀ e ∈ o.after, Region.binds md e = true → ∀ f, F[e.on]? = some f → Facts.holds f x w) → Calls Tryz.prog fn #[(A x).eval u1, (A x).eval u2, (A x).eval u3, (A x).eval u4] w fun e w' => ∃ r, e = .returned r ∧ φ r w' ∧ Below w.heap.size w w') : Facts.StepOk Tryz.prog md Q S A F i o :=
 Facts.call (f := fn) hS hF hA fun x w hSw hdep => ⟨#[(A x).eval u1, (A x).eval u2, (A x).eval u3, (A x).eval u4], by
  have e : ∀ args, (callFunc fn args).run Tryz.prog w = .ok (.enter fn args) w := fun args => Calm.enters_run hf args w
  unfold execOp
  simp [ho, go_sem, Act.eval, e], (h x w hSw hdep).mono fun e w' ⟨r, he, hr, hb⟩ => ⟨r, he, hb, fun f hf' => by
   rw [hz] at hf'
   obtain rfl := Option.some.inj hf'
   exact pF_put hr⟩⟩
end
theorem tells_p {v : Value} {w : World} {e : Ending} {w' : World} (h : Tells v w e w') : ∃ r, e = .returned r ∧ eqP v r w' ∧ Below w.heap.size w w' := ⟨v, h.1, rfl, h.2⟩
theorem gives_p {x : X} {w : World} {e : Ending} {w' : World} (h : Gives x w e w') : ∃ r, e = .returned r ∧ cP x r w' ∧ Below w.heap.size w w' := by
 obtain ⟨va, vw, vm, ve, he, hf, hb⟩ := h
 exact ⟨_, he, ⟨va, vw, vm, ve, rfl, hf⟩, hb⟩
end Go.Proofs.YtjbbmcommnhgeaaGreat
namespace Go.Proofs.YtjbbmcommnhgeaaGreat.Facts
open Go.RowKit
section
variable {P : Program} {Q : Exit → Act → World → Prop} {l : List Oper}
def deps (md : Region.Mode) (l : List Oper) (k : Nat) : List Nat := match l[k]? with
 | some o => (o.after.toList.filter fun e => Region.binds md e).map (·.on)
 | none => []
def grow (md : Region.Mode) (l : List Oper) : Nat → List Nat → List Nat
 | 0, R => R
 | k + 1, R => grow md l k (if R.contains k then R ++ deps md l k else R)
theorem grow_spec {md : Region.Mode} {L : Nat → Bool} (hc : ∀ i o, l[i]? = some o → L i = true → ∀ e ∈ o.after, Region.binds md e = true → L e.on = true) :
  ∀ (k : Nat) (R : List Nat), (∀ i ∈ R, L i = true) → ∀ i ∈ grow md l k R, L i = true
 | 0, _, h => h
 | k + 1, R, h => by
  refine grow_spec hc k _ ?_
  split
  ·rename_i hk
   intro i hi
   rcases List.mem_append.1 hi with h1 | h1
   ·exact h i h1
   ·unfold deps at h1
    cases e : l[k]? with
    | none => simp [e] at h1
    | some o =>
     simp only [e, List.mem_map, List.mem_filter, Array.mem_toList_iff] at h1
     obtain ⟨x, ⟨hx, hb⟩, rfl⟩ := h1
     exact hc k o e (h k (by simpa using hk)) x hx hb
  ·exact h
def tailB (md : Region.Mode) (l : List Oper) (k : Nat) : Bool := (List.range l.length).all fun j => decide (j < k) || (List.range j).all fun i => (grow md l j (deps md l j)).contains i
theorem tailB_spec {md : Region.Mode} {k : Nat} (h : tailB md l k = true) {L : Nat → Bool} (hc : ∀ i o, l[i]? = some o → L i = true → ∀ e ∈ o.after, Region.binds md e = true → L e.on = true)
  {j : Nat} {o : Oper} (ho : l[j]? = some o) (hkj : k ≤ j) (hd : ∀ e ∈ o.after, Region.binds md e = true → L e.on = true) (i : Nat) (hi : i < j) : L i = true := by
 have hj : j < l.length := (List.getElem?_eq_some_iff.1 ho).1
 have h1 := List.all_eq_true.1 h j (by simpa using hj)
 have h2 : ¬ j < k := by omega
 simp only [h2, decide_false, Bool.false_or] at h1
 have h3 := List.all_eq_true.1 h1 i (by simpa using hi)
 refine grow_spec hc j _ ?_ i (by simpa using h3)
 intro x hx
 unfold deps at hx
 simp only [ho, List.mem_map, List.mem_filter, Array.mem_toList_iff] at hx
 obtain ⟨e, ⟨he, hb⟩, rfl⟩ := hx
 exact hd e he hb
def tailWp (P : Program) (Q : Exit → Act → World → Prop) : List Oper → Act → World → Prop
 | [], a, w => Q .normal a w
 | o :: r, a, w => o.wp P a w (fun a' w' => tailWp P Q r a' w') Q
theorem tailWp_nil {a : Act} {w : World} (h : Q .normal a w) : tailWp P Q [] a w := h
theorem regionTail {id : Nat} {a : Act} {w : World} (hm : P.follows .mixedOrders = true) (hd : Owed.downB .any l = true) (k : Nat) (hk : k < l.length) (ht : tailB .any l k = true)
  (S : World → Prop) (A : (Nat → Value) → Act) (F : List Fact) (D : List (List Nat)) (hD : F.map (·.1) = D) (hDl : D.length = k) (hl : nearB .any l D = true)
  (x0 : Nat → Value) (hA : a = A x0) (h0 : S w.drew) (hstep : Owed.each (fun i o => i < k → StepOk P .any Q S A F i o) 0 l)
  (hend : ∀ x w', S w' → (∀ (i : Nat) (f : Fact), F[i]? = some f → holds f x w') → tailWp P Q (l.drop k) (A x) w') : (Code.region id l.toArray true).wp P Q a w := by
 have hFl : F.length = k := by rw [← hDl, ← hD, List.length_map]
 have cl : ∀ L L' : Nat → Bool, (∀ i, i < l.length → L i = L' i) → (∀ i o, l[i]? = some o → L i = true → ∀ e ∈ o.after, Region.binds .any e = true → L e.on = true) → (∀ i o, l[i]? = some o → L' i = true → ∀ e ∈ o.after, Region.binds .any e = true → L' e.on = true) := by
  intro L L' hL hc i o hi hLi e he hb
  have hilt : i < l.length := (List.getElem?_eq_some_iff.1 hi).1
  have := (Owed.downB_spec hd hi).2 e he hb
  rw [← hL e.on (by omega)]
  exact hc i o hi ((hL i hilt).trans hLi) e he hb
 refine Owed.region hm hd (fun L a w => (∃ m, k < m ∧ m ≤ l.length ∧ (∀ i, i < l.length → (L i = true ↔ i < m)) ∧ (∀ i o, l[i]? = some o → L i = true → ∀ e ∈ o.after, Region.binds .any e = true → L e.on = true) ∧ tailWp P Q (l.drop m) a w) ∨ ((∀ i, i < l.length → k ≤ i → L i = false) ∧ Inv .any l S A F L a w)) ?_ ?_ (each_imp l 0 hstep ?_) ?_
 ·rintro L L' a w hL (⟨m, h1, h2, h3, hc, h4⟩ | ⟨h1, hS, hc, x, hx, hf⟩)
  ·exact .inl ⟨m, h1, h2, fun i hi => by rw [← hL i hi]; exact h3 i hi, cl L L' hL hc, h4⟩
  ·exact .inr ⟨fun i hi hki => by rw [← hL i hi]; exact h1 i hi hki, hS, cl L L' hL hc, x, hx, fun i f hi hfi hLi => hf i f hi hfi ((hL i hi).trans hLi)⟩
 ·intro L hL
  refine .inr ⟨fun i hi _ => hL i hi, h0, fun i o hi hLi => ?_, x0, hA, fun i f hi _ hLi => ?_⟩
  ·rw [hL i (List.getElem?_eq_some_iff.1 hi).1] at hLi; cases hLi
  ·rw [hL i hi] at hLi; cases hLi
 ·intro i o' hi hok
  rw [Nat.zero_add] at hok ⊢
  have hilt : i < l.length := (List.getElem?_eq_some_iff.1 hi).1
  have clu : ∀ L : Nat → Bool, (∀ e ∈ o'.after, Region.binds .any e = true → L e.on = true) → (∀ i o, l[i]? = some o → L i = true → ∀ e ∈ o.after, Region.binds .any e = true → L e.on = true) → (∀ j o, l[j]? = some o → Owed.upd L i j = true → ∀ e ∈ o.after, Region.binds .any e = true → Owed.upd L i e.on = true) := by
   intro L hdep hc j o2 hj hLj e he hb
   by_cases e1 : j = i
   ·subst e1
    obtain rfl : o' = o2 := by rw [hi] at hj; exact Option.some.inj hj
    have := hdep e he hb
    unfold Owed.upd
    simp [this]
   ·rw [Owed.upd_ne L e1] at hLj
    have := hc j o2 hj hLj e he hb
    unfold Owed.upd
    simp [this]
  rintro L a w (⟨m, h1, h2, h3, hc, h4⟩ | ⟨h1, hS, hc, x, rfl, hf⟩) hLi hdep
  ·have hmi : ¬ i < m := fun h => by rw [(h3 i hilt).2 h] at hLi; cases hLi
   have all := tailB_spec ht hc hi (by omega) hdep
   have him : i = m := by
    rcases Nat.lt_or_ge m i with h | h
    ·have := (h3 m (by omega)).1 (all m h)
     omega
    ·omega
   subst him
   have hdr : l.drop i = o' :: l.drop (i + 1) := by
    rw [List.drop_eq_getElem_cons hilt]
    congr 1
    rw [List.getElem?_eq_getElem hilt] at hi
    exact Option.some.inj hi
   rw [hdr, tailWp] at h4
   refine Oper.wp_mono (fun a' w' h => .inl ⟨i + 1, by omega, by omega, fun j hj => ?_, clu L hdep hc, h⟩) h4
   by_cases e : j = i
   ·subst e
    simp [Owed.upd_self]
   ·rw [Owed.upd_ne L e, h3 j hj]
    omega
  ·by_cases hik : k ≤ i
   ·have all := tailB_spec ht hc hi hik hdep
    have him : i = k := by
     rcases Nat.lt_or_ge k i with h | h
     ·have := all k h
      rw [h1 k hk (Nat.le_refl _)] at this
      cases this
     ·omega
    subst him
    have hdr : l.drop i = o' :: l.drop (i + 1) := by
     rw [List.drop_eq_getElem_cons hilt]
     congr 1
     rw [List.getElem?_eq_getElem hilt] at hi
     exact Option.some.inj hi
    have h4 := hend x w hS fun j f hfj => hf j f (by have := (List.getElem?_eq_some_iff.1 hfj).1; omega) hfj (all j (by have := (List.getElem?_eq_some_iff.1 hfj).1; omega))
    rw [hdr, tailWp] at h4
    refine Oper.wp_mono (fun a' w' h => .inl ⟨i + 1, by omega, by omega, fun j hj => ?_, clu L hdep hc, h⟩) h4
    by_cases e : j = i
    ·subst e
     simp [Owed.upd_self]
    ·rw [Owed.upd_ne L e]
     constructor
     ·intro hLj
      rcases Nat.lt_or_ge j i with h | h
      ·omega
      ·rw [h1 j hj h] at hLj; cases hLj
     ·intro h
      exact all j (by omega)
   ·have hstep' := hok (by omega)
    have hdown := (Owed.downB_spec hd hi).2
    refine Oper.wp_mono (fun a' w' h => ?_) (hstep' x w hS (fun e he hb f hfe => hf e.on f (by have := hdown e he hb; omega) hfe (hdep e he hb)))
    obtain ⟨u, rfl, hS', hfi, hoth⟩ := h
    refine .inr ⟨fun j hj hkj => by rw [Owed.upd_ne L (by omega)]; exact h1 j hj hkj, hS', clu L hdep hc, put x i u, rfl, fun j f hj hfj hLj => ?_⟩
    by_cases e1 : j = i
    ·subst e1; exact hfi f hfj
    ·rw [Owed.upd_ne L e1] at hLj
     have h1' := hoth j f e1 hfj (hf j f hj hfj hLj)
     have e2 : f.1.map (put x i u) = f.1.map x := by
      apply List.map_congr_left
      intro k hk
      have hj' : l[j]? = some l[j] := List.getElem?_eq_getElem hj
      have hki : k ≠ i := by
       rcases nearB_spec hl hj' (by rw [← hD, List.getElem?_map, hfj]; rfl) hk with rfl | ⟨e, he, rfl, hb⟩
       ·exact e1
       ·intro h2
        have := hc j _ hj' hLj e he hb
        rw [h2, hLi] at this; cases this
      simp [put, hki]
     unfold holds at *
     rw [e2]
     exact h1'
 ·rintro L a w hL (⟨m, h1, h2, h3, _, h4⟩ | ⟨h1, _⟩)
  ·have : m = l.length := by
    rcases Nat.lt_or_ge m l.length with h | h
    ·have := (h3 m h).1 (hL m h)
     omega
    ·omega
   subst this
   rw [List.drop_length] at h4
   exact h4
  ·have := h1 k hk (Nat.le_refl _)
   rw [hL k hk] at this
   cases this
def StepR (P : Program) (md : Region.Mode) (Q : Exit → Act → World → Prop) (S : World → Prop) (A : (Nat → Value) → Act) (F : List Fact) (R : Nat → Nat → Value → Value → Prop) (i : Nat) (o : Oper) : Prop :=
 ∀ x w, S w → (∀ e ∈ o.after, Region.binds md e = true → ∀ f, F[e.on]? = some f → holds f x w) →
  o.wp P (A x) w (fun a' w' => ∃ u, a' = A (put x i u) ∧ S w' ∧ (∀ f, F[i]? = some f → holds f (put x i u) w') ∧ (∀ j f, j ≠ i → F[j]? = some f → holds f x w → holds f x w') ∧ (∀ j f, j ≠ i → F[j]? = some f → holds f x w → R i j u (x j))) Q
theorem StepR.of {md : Region.Mode} {S : World → Prop} {A : (Nat → Value) → Act} {F : List Fact} {R : Nat → Nat → Value → Value → Prop} {i : Nat} {o : Oper} (hR : ∀ j u v, R i j u v) (h : StepOk P md Q S A F i o) : StepR P md Q S A F R i o := fun x w hS hd =>
 Oper.wp_mono (fun _ _ ⟨u, h1, h2, h3, h4⟩ => ⟨u, h1, h2, h3, h4, fun j _ _ _ _ => hR j u _⟩) (h x w hS hd)
end
end Go.Proofs.YtjbbmcommnhgeaaGreat.Facts
namespace Go.Proofs.YtjbbmcommnhgeaaGreat
open Go.RowKit
def flat (xs : List Value) : Prop := ∀ u ∈ xs, ∀ p l c, u ≠ .slice p l c
theorem A.flat (l : List A) : flat (rows A.cells l) := rows_all (fun x u hu p n c => by
 simp only [List.mem_cons, List.not_mem_nil, or_false] at hu
 rcases hu with rfl | rfl | rfl | rfl <;> simp) l
theorem M.flat (l : List M) : flat (rows M.cells l) := rows_all (fun x u hu p n c => by
 simp only [List.mem_cons, List.not_mem_nil, or_false] at hu
 rcases hu with rfl | rfl | rfl <;> simp) l
theorem Wt.flat (l : List Wt) : flat (rows Wt.cells l) := rows_all (fun x u hu p n c => by
 simp only [List.mem_cons, List.not_mem_nil, or_false] at hu
 rcases hu with rfl | rfl | rfl | rfl | rfl <;> simp) l
theorem range_over {w : World} {g o b j : Nat} {xs : List Value} (h : w.rangeAt g o xs) (hf : flat xs) {p : Option Addr} {l c : Nat} (hc : w.cell? ⟨b, j, none⟩ = some (.slice p l c)) (u : Value) : (w.setCell ⟨b, j, none⟩ u).rangeAt g o xs := fun k v hv => by
 have h1 := h k v hv
 by_cases e : (⟨g, o + k, none⟩ : Addr) = ⟨b, j, none⟩
 ·rw [e, hc] at h1
  exact absurd (Option.some.inj h1).symm (hf v (List.mem_of_getElem? hv) p l c)
 ·rw [World.cell?_setCell_other _ _ _ _ (fun h => e h.symm)]
  exact h1
theorem SHas.over {S n : Nat} {w : World} {v : Value} {xs : List Value} (h : SHas S w v n xs) (hf : flat xs) {b j : Nat} {p : Option Addr} {l c : Nat} (hc : w.cell? ⟨b, j, none⟩ = some (.slice p l c)) (u : Value) : SHas S (w.setCell ⟨b, j, none⟩ u) v n xs := by
 obtain ⟨hm, hl, ⟨rfl, rfl⟩ | ⟨ad, cc, rfl, hc', hd⟩⟩ := h
 ·exact ⟨hm, hl, .inl ⟨rfl, rfl⟩⟩
 ·refine ⟨hm, hl, .inr ⟨ad, cc, rfl, hc', fun h => ?_⟩⟩
  obtain ⟨g, o, rfl, hd2⟩ := hd h
  exact ⟨g, o, rfl, range_over hd2 hf hc u⟩
theorem own_mono {w : World} {B B' e S n : Nat} {v : Value} {xs : List Value} (h : w.ownsRow B e S v n xs) (hB : B' ≤ B) : w.ownsRow B' e S v n xs := by
 obtain ⟨h1, h0 | ⟨g, cap, cur, rfl, hbg, h2⟩⟩ := h
 ·exact ⟨h1, .inl h0⟩
 ·exact ⟨h1, .inr ⟨g, cap, cur, rfl, Nat.le_trans hB hbg, h2⟩⟩
theorem own_over {w : World} {B e S n : Nat} {v : Value} {xs : List Value} (h : w.ownsRow B e S v n xs) {b : Nat} (hb : ∀ k, v.ownBlock = some k → k ≠ b) (j : Nat) (u : Value) : (w.setCell ⟨b, j, none⟩ u).ownsRow B e S v n xs := by
 obtain ⟨h1, ⟨rfl, h0⟩ | ⟨g, cap, cur, rfl, hbg, hg, h2⟩⟩ := h
 ·exact ⟨h1, .inl ⟨rfl, h0⟩⟩
 ·exact ⟨h1, .inr ⟨g, cap, cur, rfl, hbg, (Below.heap_setCell w _ u g (hb g rfl)).trans hg, h2⟩⟩
section
variable {Q : Exit → Act → World → Prop} {o : Oper} {r : List Oper} {a : Act} {w : World}
theorem tail_pure {v : Value} (h : (execOp a.eval o).run Tryz.prog w = .ok (.value v) w) (k : Facts.tailWp Tryz.prog Q r (a.put o.dst v) w) : Facts.tailWp Tryz.prog Q (o :: r) a w := by
 show o.wp Tryz.prog a w _ Q
 unfold Oper.wp
 rw [h]
 exact k
theorem tail_store (t : TypeId) (x y : Operand) (ho : o.op = .store t x y) (b j : Nat) (hx : a.eval x = .pointer (some ⟨b, j, none⟩)) {v : Value} (hy : a.eval y = v) {w1 : World} (hr : (Instr.storeAt t (.pointer (some ⟨b, j, none⟩)) v).run Tryz.prog w = .ok () w1) (k : Facts.tailWp Tryz.prog Q r (a.put o.dst undef) w1) : Facts.tailWp Tryz.prog Q (o :: r) a w := by
 show o.wp Tryz.prog a w _ Q
 unfold Oper.wp execOp
 simp only [ho, hx, hy, Sem.run_bind, hr, Result.andThen_ok, Sem.run_pure]
 exact k
end
theorem store82 {w : World} {b j : Nat} {p : Option Addr} {l c : Nat} {u : Value} (hc : w.cell? ⟨b, j, none⟩ = some u) (hf : w.frozen? ⟨b, j, none⟩ = false) : (Instr.storeAt 65 (.pointer (some ⟨b, j, none⟩)) (.slice p l c)).run Tryz.prog w = .ok () (w.setCell ⟨b, j, none⟩ (.slice p l c)) := by
 go_simp
theorem own_tag {w : World} {B B' e e' S S' n n' : Nat} {v v' : Value} {xs xs' : List Value} (h : w.ownsRow B e S v n xs) (h' : w.ownsRow B' e' S' v' n' xs') (hne : e ≠ e') {g : Nat} (hg : v'.ownBlock = some g) : ∀ k, v.ownBlock = some k → k ≠ g := by
 intro k hk ek
 subst ek
 obtain ⟨_, ⟨rfl, _⟩ | ⟨g1, cap, cur, rfl, _, h1, _⟩⟩ := h
 ·cases hk
 ·obtain ⟨_, ⟨rfl, _⟩ | ⟨g2, cap2, cur2, rfl, _, h2, _⟩⟩ := h'
  ·cases hg
  ·have e1 := Option.some.inj hk
   have e2 := Option.some.inj hg
   simp only at e1 e2
   subst e1
   subst e2
   rw [h1] at h2
   have := Option.some.inj h2
   simp at this
   exact hne this.2
theorem rows_set {α : Type} {f : α → List Value} {S : Nat} (hf : ∀ x, (f x).length = S) : ∀ (l : List α) (k j : Nat) (hk : k < l.length) (x : α) (u : Value), j < S → f x = (f l[k]).set j u → rows f (l.set k x) = (rows f l).set (k * S + j) u
 | y :: l, 0, j, _, x, u, hj, he => by
  simp only [List.getElem_cons_zero] at he
  rw [List.set_cons_zero, rows_cons, rows_cons, he, Nat.zero_mul, Nat.zero_add, List.set_append_left _ _ (by rw [hf]; exact hj)]
 | y :: l, k + 1, j, hk, x, u, hj, he => by
  simp only [List.getElem_cons_succ] at he
  rw [List.set_cons_succ, rows_cons, rows_cons, rows_set hf l k j (by simpa using hk) x u hj he, List.set_append_right _ _ (by rw [hf, Nat.succ_mul]; omega), hf, Nat.succ_mul]
  congr 2
  omega
theorem range_off {w : World} {g o b : Nat} {xs : List Value} (h : w.rangeAt g o xs) (hf : flat xs) (h3 : 3 ≤ xs.length) {t : TypeId} {k i : Int} {pa : Option Addr} {la ca : Nat} {pw : Option Addr} {lw cw : Nat} {pm : Option Addr} {lm cm : Nat} {pe : Option Addr} {le ce : Nat} (R : Rw w b t (cvc k i (.slice pa la ca) (.slice pw lw cw) (.slice pm lm cm) (.slice pe le ce))) : g ≠ b := by
 rintro rfl
 have h2 := h 2 _ (List.getElem?_eq_getElem (by omega))
 have hn := hf xs[2] (List.getElem_mem _)
 rw [R.cell] at h2
 match o, h2 with
 | 0, h2 => exact hn _ _ _ (Option.some.inj h2).symm
 | 1, h2 => exact hn _ _ _ (Option.some.inj h2).symm
 | 2, h2 => exact hn _ _ _ (Option.some.inj h2).symm
 | 3, h2 => exact hn _ _ _ (Option.some.inj h2).symm
 | o + 4, h2 => simp at h2
theorem range_row {w : World} {g o b : Nat} {xs : List Value} (h : w.rangeAt g o xs) (hne : g ≠ b) (cs : Array Value) : (w.setRow b cs).rangeAt g o xs := fun j v hv => by
 rw [World.cell?_of_block (w := w) (setRow_other w b g cs hne)]
 exact h j v hv
theorem SHas.row {S n : Nat} {w : World} {v : Value} {xs : List Value} (h : SHas S w v n xs) (hf : flat xs) (hS : 3 ≤ S) {b : Nat} {t : TypeId} {k i : Int} {pa : Option Addr} {la ca : Nat} {pw : Option Addr} {lw cw : Nat} {pm : Option Addr} {lm cm : Nat} {pe : Option Addr} {le ce : Nat} (R : Rw w b t (cvc k i (.slice pa la ca) (.slice pw lw cw) (.slice pm lm cm) (.slice pe le ce))) (cs : Array Value) : SHas S (w.setRow b cs) v n xs := by
 obtain ⟨hm, hl, ⟨rfl, rfl⟩ | ⟨ad, cc, rfl, hc', hd⟩⟩ := h
 ·exact ⟨hm, hl, .inl ⟨rfl, rfl⟩⟩
 ·refine ⟨hm, hl, .inr ⟨ad, cc, rfl, hc', fun h => ?_⟩⟩
  obtain ⟨g, o, rfl, hd2⟩ := hd h
  have h3 : 3 ≤ xs.length := by
   rw [hl]
   exact Nat.le_trans hS (Nat.le_mul_of_pos_left S h)
  exact ⟨g, o, rfl, range_row hd2 (range_off hd2 hf h3 R) cs⟩
theorem own_row {w : World} {B e S n : Nat} {v : Value} {xs : List Value} (h : w.ownsRow B e S v n xs) {b : Nat} (hb : b < B) (cs : Array Value) : (w.setRow b cs).ownsRow B e S v n xs := by
 obtain ⟨h1, ⟨rfl, h0⟩ | ⟨g, cap, cur, rfl, hbg, hg, h2⟩⟩ := h
 ·exact ⟨h1, .inl ⟨rfl, h0⟩⟩
 ·exact ⟨h1, .inr ⟨g, cap, cur, rfl, hbg, (setRow_other w b g cs (by omega)).trans hg, h2⟩⟩
theorem own_some {w : World} {B e S n c : Nat} {p : Option Addr} {xs : List Value} (h : w.ownsRow B e S (.slice p n c) n xs) (hn : 0 < n) : ∃ g, p = some ⟨g, 0, none⟩ ∧ B ≤ g := by
 obtain ⟨_, ⟨_, h0⟩ | ⟨g, cap, cur, h1, hb, _⟩⟩ := h
 ·omega
 ·simp only [Value.slice.injEq] at h1
  exact ⟨g, h1.1, hb⟩
theorem El.len (x : El × Value) : (El.cells x).length = 9 := rfl
theorem A.len (x : A) : x.cells.length = 4 := rfl
theorem Mb.one {ys : List (Mb × Value)} {w : World} (h : ∀ y ∈ ys, MHas w y.2 y.1.ms) : ∀ u ∈ rows Mb.cells ys, u.oneCell' = true := by
 intro u hu
 obtain ⟨y, hy, hx⟩ := List.mem_flatMap.1 hu
 obtain ⟨p, c, e⟩ := (h y hy).slice
 simp only [List.mem_cons, List.not_mem_nil, or_false] at hx
 rcases hx with rfl | rfl | rfl
 ·rfl
 ·rfl
 ·rw [e]; rfl
theorem El.one {ys : List (El × Value)} {w : World} (h : ∀ y ∈ ys, MHas w y.2 y.1.gone) : ∀ u ∈ rows El.cells ys, u.oneCell' = true := by
 intro u hu
 obtain ⟨y, hy, hx⟩ := List.mem_flatMap.1 hu
 obtain ⟨p, c, e⟩ := (h y hy).slice
 simp only [List.mem_cons, List.not_mem_nil, or_false] at hx
 rcases hx with rfl | rfl | rfl | rfl | rfl | rfl | rfl | rfl | rfl
 all_goals first | rfl | (rw [e]; rfl)
structure OwnB (B : Nat) (w : World) (ms : List (Mb × Value)) : Prop where
 o : ∀ y ∈ ms, w.ownsRow B 50 3 y.2 y.1.ms.length (rows M.cells y.1.ms)
 d : ms.Pairwise (fun a b => ∀ k, a.2.ownBlock = some k → b.2.ownBlock ≠ some k)
section
variable {B : Nat} {w w' : World} {ms : List (Mb × Value)}
theorem OwnB.later (h : OwnB B w ms) (hb : Below w.heap.size w w') : OwnB B w' ms := ⟨fun y hy => own_later (h.o y hy) hb, h.d⟩
theorem OwnB.row (h : OwnB B w ms) {b : Nat} (hb : b < B) (cs : Array Value) : OwnB B (w.setRow b cs) ms := ⟨fun y hy => own_row (h.o y hy) hb cs, h.d⟩
theorem OwnB.cell (h : OwnB B w ms) {b : Nat} (hb : b < B) (j : Nat) (u : Value) : OwnB B (w.setCell ⟨b, j, none⟩ u) ms := ⟨fun y hy => own_over (h.o y hy) (fun k hk => by have := (World.ownsRow.lt (h.o y hy) k hk).1; omega) j u, h.d⟩
theorem OwnB.tag (h : OwnB B w ms) {B' e' S' n' : Nat} {v' : Value} {xs' : List Value} (h' : w.ownsRow B' e' S' v' n' xs') (hne : 50 ≠ e') {g : Nat} (hg : v'.ownBlock = some g) (j : Nat) (u : Value) : OwnB B (w.setCell ⟨g, j, none⟩ u) ms := ⟨fun y hy => own_over (h.o y hy) (own_tag (h.o y hy) h' hne hg) j u, h.d⟩
theorem OwnB.has (h : OwnB B w ms) : ∀ y ∈ ms, MHas w y.2 y.1.ms := fun y hy => own_sh (h.o y hy)
theorem OwnB.mono (h : OwnB B w ms) {B' : Nat} (hB : B' ≤ B) : OwnB B' w ms := ⟨fun y hy => own_mono (h.o y hy) hB, h.d⟩
theorem OwnB.nil (B : Nat) (w : World) : OwnB B w [] := ⟨(fun _ h => by cases h), List.Pairwise.nil⟩
theorem OwnB.snoc (h : OwnB B w ms) {y : Mb × Value} (ho : w.ownsRow B 50 3 y.2 y.1.ms.length (rows M.cells y.1.ms)) (hn : ∀ k, y.2.ownBlock = some k → ∀ a ∈ ms, a.2.ownBlock ≠ some k) : OwnB B w (ms ++ [y]) := by
 refine ⟨fun a ha => ?_, ?_⟩
 ·rcases List.mem_append.1 ha with h1 | h1
  ·exact h.o a h1
  ·rw [List.mem_singleton.1 h1]
   exact ho
 ·rw [List.pairwise_append]
  refine ⟨h.d, by simp, fun a ha b hb k hk hb2 => ?_⟩
  rw [List.mem_singleton.1 hb] at hb2
  exact hn k hb2 a ha hk
end
def OwnG (B : Nat) (w : World) (es : List (El × Value)) : Prop := ∀ y ∈ es, w.ownsRow B 50 3 y.2 y.1.gone.length (rows M.cells y.1.gone)
theorem OwnG.has {B : Nat} {w : World} {es : List (El × Value)} (h : OwnG B w es) : ∀ y ∈ es, MHas w y.2 y.1.gone := fun y hy => own_sh (h y hy)
theorem OwnG.later {B : Nat} {w w' : World} {es : List (El × Value)} (h : OwnG B w es) (hb : Below w.heap.size w w') : OwnG B w' es := fun y hy => own_later (h y hy) hb
theorem OwnG.row {B : Nat} {w : World} {es : List (El × Value)} (h : OwnG B w es) {b : Nat} (hb : b < B) (cs : Array Value) : OwnG B (w.setRow b cs) es := fun y hy => own_row (h y hy) hb cs
theorem OwnG.mono {B B' : Nat} {w : World} {es : List (El × Value)} (h : OwnG B w es) (hB : B' ≤ B) : OwnG B' w es := fun y hy => own_mono (h y hy) hB
theorem OwnG.tag {B : Nat} {w : World} {es : List (El × Value)} (h : OwnG B w es) {B' e' S' n' : Nat} {v' : Value} {xs' : List Value} (h' : w.ownsRow B' e' S' v' n' xs') (hne : 50 ≠ e') {g : Nat} (hg : v'.ownBlock = some g) (j : Nat) (u : Value) : OwnG B (w.setCell ⟨g, j, none⟩ u) es := fun y hy => own_over (h y hy) (own_tag (h y hy) h' hne hg) j u
structure Own4 (B : Nat) (w : World) (x : X) (ua uw um ue : Value) : Prop where
 a : w.ownsRow B 71 4 ua x.am.length (rows A.cells x.am)
 t : w.ownsRow B 64 5 uw x.wr.length (rows Wt.cells x.wr)
 m : ∃ ms : List (Mb × Value), ms.map (·.1) = x.mb ∧ w.ownsRow B 67 3 um x.mb.length (rows Mb.cells ms) ∧ OwnB B w ms
 e : ∃ es : List (El × Value), es.map (·.1) = x.el ∧ w.ownsRow B 69 9 ue x.el.length (rows El.cells es) ∧ OwnG B w es
section
variable {B : Nat} {w w' : World} {x : X} {ua uw um ue : Value}
theorem Own4.four (h : Own4 B w x ua uw um ue) : Four w x ua uw um ue := by
 obtain ⟨ha, ht, ⟨ms, h1, h2, h3⟩, ⟨es, h4, h5, h6⟩⟩ := h
 exact ⟨own_sh ha, own_sh ht, ⟨ms, h1, own_sh h2, h3.has⟩, ⟨es, h4, own_sh h5, h6.has⟩⟩
theorem Own4.later (h : Own4 B w x ua uw um ue) (hb : Below w.heap.size w w') : Own4 B w' x ua uw um ue := by
 obtain ⟨ha, ht, ⟨ms, h1, h2, h3⟩, ⟨es, h4, h5, h6⟩⟩ := h
 exact ⟨own_later ha hb, own_later ht hb, ⟨ms, h1, own_later h2 hb, h3.later hb⟩, ⟨es, h4, own_later h5 hb, h6.later hb⟩⟩
theorem Own4.row (h : Own4 B w x ua uw um ue) {b : Nat} (hb : b < B) {t : TypeId} {k i : Int} {pa : Option Addr} {la ca : Nat} {pw : Option Addr} {lw cw : Nat} {pm : Option Addr} {lm cm : Nat} {pe : Option Addr} {le ce : Nat} (_R : Rw w b t (cvc k i (.slice pa la ca) (.slice pw lw cw) (.slice pm lm cm) (.slice pe le ce))) (cs : Array Value) : Own4 B (w.setRow b cs) x ua uw um ue := by
 obtain ⟨ha, ht, ⟨ms, h1, h2, h3⟩, ⟨es, h4, h5, h6⟩⟩ := h
 exact ⟨own_row ha hb cs, own_row ht hb cs, ⟨ms, h1, own_row h2 hb cs, h3.row hb cs⟩, ⟨es, h4, own_row h5 hb cs, h6.row hb cs⟩⟩
end
def CpPost (x : X) (w : World) (e : Ending) (w' : World) : Prop := ∃ ua uw um ue, e = .returned (CV x.k x.b ua uw um ue) ∧ Own4 w.heap.size w' x ua uw um ue ∧ Below w.heap.size w w'
end Go.Proofs.YtjbbmcommnhgeaaGreat
namespace Go.Proofs.YtjbbmcommnhgeaaGreat
open Go.RowKit Go.Sort
abbrev THas (w : World) (v : Value) (l : List Bs) : Prop := SHas 1 w v l.length (l.map encStr)
theorem THas.later {w w' : World} {v : Value} {l : List Bs} (h : THas w v l) (hb : Below w.heap.size w w') : THas w' v l := SHas.later h hb
abbrev VN (k n : Int) (u : Value) : Value := .agg #[.int .i64 k, .int .i64 n, u, .slice none 0 0]
abbrev VV (k : Int) (u : Value) : Value := .agg #[.int .i64 k, .int .i64 0, u, .slice none 0 0]
theorem info9 : (Tryz.prog.info? 9).map (fun i => (i.zero, i.size, i.bytes)) = some (some (.string noS), 1, 16) := by kernel_rfl
theorem THas.nil (w : World) : THas w (.slice none 0 0) [] := SHas.nil w 1
theorem THas.rowV {w : World} {v : Value} {l : List Bs} (h : THas w v l) {b : Nat} {k n : Int} {p q : Option Addr} {lp cp lq cq : Nat} (R : Rw w b 46 #[.int .i64 k, .int .i64 n, .slice p lp cp, .slice q lq cq]) (cs : Array Value) : THas (w.setRow b cs) v l := by
 obtain ⟨hm, hl, ⟨rfl, h0⟩ | ⟨ad, cc, rfl, hc', hd⟩⟩ := h
 ·exact ⟨hm, hl, .inl ⟨rfl, h0⟩⟩
 ·refine ⟨hm, hl, .inr ⟨ad, cc, rfl, hc', fun h => ?_⟩⟩
  obtain ⟨g, o, rfl, hd2⟩ := hd h
  refine ⟨g, o, rfl, range_row hd2 ?_ cs⟩
  rintro rfl
  have h0 : 0 < (l.map encStr).length := by simpa using h
  have h1 := hd2 0 _ (List.getElem?_eq_getElem h0)
  rw [R.cell, List.getElem_map] at h1
  match o, h1 with
  | 0, h1 => exact absurd (Option.some.inj h1) (by simp)
  | 1, h1 => exact absurd (Option.some.inj h1) (by simp)
  | 2, h1 => exact absurd (Option.some.inj h1) (by simp)
  | 3, h1 => exact absurd (Option.some.inj h1) (by simp)
  | o + 4, h1 => simp at h1
end Go.Proofs.YtjbbmcommnhgeaaGreat
namespace Go.Proofs.YtjbbmcommnhgeaaGreat
open Go.RowKit
def SePost {α : Type} (key : α → K) (l : List α) (x : K) (w : World) (e : Ending) (w' : World) : Prop := ∃ k : Nat, e = .returned (.int .i64 k) ∧ k ≤ l.length ∧ (∀ j (h : j < l.length), j < k → kl (key l[j]) x = true) ∧ (∀ j (h : j < l.length), k ≤ j → kl (key l[j]) x = false) ∧ Below w.heap.size w w'
def FdPost {α : Type} (key : α → K) (l : List α) (x : K) (w : World) (e : Ending) (w' : World) : Prop := ∃ (k : Nat) (b : Bool), e = .returned (.tuple #[.int .i64 k, .bool b]) ∧ k ≤ l.length ∧ (∀ j (h : j < l.length), j < k → kl (key l[j]) x = true) ∧ (∀ j (h : j < l.length), k ≤ j → kl (key l[j]) x = false) ∧ (b = true ↔ ∃ h : k < l.length, key l[k] = x) ∧ Below w.heap.size w w'
theorem kq (p s i : Int) (x : M) : decide (((p, s, i) : K) = kM x) = (decide (p = x.p) && decide (s = x.s) && decide (i = x.i)) := by
 unfold kM
 by_cases h1 : p = x.p <;> by_cases h2 : s = x.s <;> by_cases h3 : i = x.i <;> simp [h1, h2, h3]
theorem itself_any (p s i : Int) (w : World) : Calls Tryz.prog 121 #[MV p s i] w (Tells (MV p s i) w) := by
 go_enter Tryz.func121, Tryz.ntmps121
 go_wp2
 exact bodyPost_ret (results_r rfl rfl (rw_next _ (by simp) 50 _) rfl Tryz.underlying50 size50) rfl ⟨rfl, bel_alloc (bel_alloc (Below.refl _ _) _) _⟩
structure CapM (w : World) (b1 b2 b3 : Nat) (v : Value) (x : M) : Prop where
 f : w.cell? ⟨b1, 0, none⟩ = some (.func (.func 121) #[] #[])
 l : w.cell? ⟨b2, 0, none⟩ = some v
 m : Rw w b3 50 #[.int .i64 x.p, .int .i64 x.s, .int .i64 x.i]
theorem CapM.later {w w' : World} {b1 b2 b3 : Nat} {v : Value} {x : M} (h : CapM w b1 b2 b3 v x) (hb : Below w.heap.size w w') : CapM w' b1 b2 b3 v x := ⟨cell_later hb h.f, cell_later hb h.l, h.m.later hb⟩
theorem find1M_any (k : Nat) (b1 b2 b3 : Nat) (v : Value) (l : List M) (x : M) (w : World) (h : SHas 3 w v l.length (rows M.cells l)) (hk : k < l.length) (hC : CapM w b1 b2 b3 v x) :
  Calls Tryz.prog 145 #[.int .i64 k, .pointer (some ⟨b1, 0, none⟩), .pointer (some ⟨b2, 0, none⟩), .pointer (some ⟨b3, 0, none⟩)] w (Tells (.bool (!kl (kM l[k]) (kM x))) w) := by
 have hml := maxLen_lt h.1
 obtain ⟨p, c, rfl⟩ := h.slice
 obtain ⟨g, o, rfl, hd⟩ := h.at (by omega)
 have d := range_sub hd (k * 3) fun j u hu => rows_at M.len l k hk j u hu
 obtain ⟨y, HY⟩ := hid_ex l[k]
 rw [HY.out] at d ⊢
 clear HY h hd
 have ze : (Tryz.prog.info? 50).map (·.size) = some y.cells.length := size50
 have zm : (Tryz.prog.info? 50).map (·.size) = some [Value.int .i64 x.p, .int .i64 x.s, .int .i64 x.i].length := size50
 have C1 : ∀ w, Calls Tryz.prog 107 #[MV y.p y.s y.i, MV x.p x.s x.i] w (Tells (.bool (kl (kM y) (kM x))) w) := fun w => less_any y.p y.s y.i x.p x.s x.i w
 generalize kl (kM y) (kM x) = z at C1 ⊢
 have hbel := Below.refl w.heap.size w
 have hk0 : (0 : Int) ≤ (k : Int) := by omega
 have hk1 : (k : Int) < (l.length : Int) := by omega
 go_enter Tryz.func145, Tryz.ntmps145
 go_wp2_with fail
 have hs : Calm.Stays (fun w' => CapM w' b1 b2 b3 (.slice (some ⟨g, o, none⟩) l.length c) x ∧ w'.rangeAt g (o + k * 3) y.cells ∧ Below w.heap.size w w') := fun wa wb h hb => ⟨h.1.later hb, range_later h.2.1 hb, below_on h.2.2 hb⟩
 refine Calm.region (by kernel_rfl) (by kernel_rfl) (fun w' => CapM w' b1 b2 b3 (.slice (some ⟨g, o, none⟩) l.length c) x ∧ w'.rangeAt g (o + k * 3) y.cells ∧ Below w.heap.size w w') ⟨⟨hC.f, hC.l, hC.m⟩, d, hbel.drew⟩ ?_
 all_goals refine Calm.cl (fun _ h => h.1.f) ?_
 all_goals refine Calm.cl (fun _ h => h.1.l) ?_
 iterate 2 (all_goals refine Calm.sp ?_)
 all_goals refine Calm.lm ze (fun _ h => h.2.1) Tryz.underlying50 ?_
 all_goals refine Calm.kf1 hs (fun w1 h => itself_any y.p y.s y.i w1) ?_
 all_goals refine Calm.lm zm (fun _ h => Rw.whole h.1.m) Tryz.underlying50 ?_
 all_goals refine Calm.k2 hs (fun w1 h => C1 w1) ?_
 iterate 2 (all_goals refine Calm.sp ?_)
 all_goals
  rintro w9 ⟨_, _, hbel9⟩
 go_wp2_with fail
 go_ret
 exact ⟨rfl, hbel9⟩
theorem searchM_any (b1 b2 b3 : Nat) (v : Value) (l : List M) (x : M) (w : World) (h : SHas 3 w v l.length (rows M.cells l)) (hl : l.length ≤ 100) (hp : l.Pairwise (fun a b => kl (kM a) (kM b) = true)) (hC : CapM w b1 b2 b3 v x) :
  Calls Tryz.prog 105 #[.int .i64 l.length, .func (.func 145) #[] #[.pointer (some ⟨b1, 0, none⟩), .pointer (some ⟨b2, 0, none⟩), .pointer (some ⟨b3, 0, none⟩)]] w (SePost kM l (kM x) w) := by
 have HA : Hid (SHas 3 w v l.length (rows M.cells l)) := h
 have HP : Hid (l.Pairwise (fun a b => kl (kM a) (kM b) = true)) := hp
 have HC : Hid (CapM w b1 b2 b3 v x) := hC
 clear h hp hC
 go_enter Tryz.func105, Tryz.ntmps105
 go_wp2
 go_loopw [5, 6] (fun vi vj wr => ∃ a b : Nat, vi = .int .i64 a ∧ vj = .int .i64 b ∧ a ≤ b ∧ b ≤ l.length ∧ Hid (∀ j (h : j < l.length), j < a → kl (kM l[j]) (kM x) = true) ∧ Hid (∀ j (h : j < l.length), b ≤ j → kl (kM l[j]) (kM x) = false) ∧ Below w.heap.size w wr) (fun vi vj _ => (intOf vj).toNat - (intOf vi).toNat)
 case atStart => exact ⟨0, l.length, rfl, rfl, by omega, by omega, (show ∀ j (_ : j < l.length), j < 0 → _ from fun j _ h => by omega), (show ∀ j (_ : j < l.length), l.length ≤ j → _ from fun j h h' => by omega), Below.refl _ _⟩
 case round =>
  obtain ⟨a, b, rfl, rfl, hab, hbl, HV, HW, hbel⟩ := hrel
  by_cases hlt : a < b
  ·have hlt' : (a : Int) < (b : Int) := by omega
   obtain ⟨m, hm⟩ : ∃ m : Nat, m = (a + b) / 2 := ⟨_, rfl⟩
   have hmi : ((a : Int) + (b : Int)) / 2 = (m : Int) := by omega
   have hm1 : a ≤ m := by omega
   have hm2 : m < b := by omega
   have hml : m < l.length := by omega
   have C1 := find1M_any m b1 b2 b3 v l x wr (HA.out.later hbel) hml (HC.out.later hbel)
   obtain ⟨z, HZ⟩ := hid_ex (kl (kM l[m]) (kM x))
   rw [HZ.out] at C1
   clear hm
   go_wp2_with (first | rw [hmi])
   refine C1.mono ?_
   clear C1
   rintro e w1 ⟨rfl, hb1⟩
   cases z
   ·have HW2 : Hid (∀ j (h : j < l.length), m ≤ j → kl (kM l[j]) (kM x) = false) := fun j h hj => by
     rcases Nat.lt_or_ge m j with h' | h'
     ·cases k : kl (kM l[j]) (kM x)
      ·rfl
      ·have := kl_trans ((List.pairwise_iff_getElem.1 HP.out) m j hml h h') k
       rw [HZ.out] at this
       cases this
     ·obtain rfl : j = m := by omega
      exact HZ.out
    go_wp2_with fail
    go_roundw
    case rel => exact ⟨a, m, rfl, rfl, by omega, by omega, HV, HW2, below_on hbel hb1⟩
    case measure => simp [intOf]; omega
   ·have HV2 : Hid (∀ j (h : j < l.length), j < m + 1 → kl (kM l[j]) (kM x) = true) := fun j h hj => by
     rcases Nat.lt_or_ge j m with h' | h'
     ·exact kl_trans ((List.pairwise_iff_getElem.1 HP.out) j m h hml h') HZ.out
     ·obtain rfl : j = m := by omega
      exact HZ.out
    go_wp2_with fail
    go_roundw
    case rel => exact ⟨m + 1, b, by simp, rfl, by omega, by omega, HV2, HW, below_on hbel hb1⟩
    case measure => simp [intOf]; omega
  ·obtain rfl : a = b := by omega
   have hlt' : ¬ (a : Int) < (a : Int) := by omega
   clear HA HP HC
   go_wp2_with fail
   go_ret
   exact ⟨a, rfl, hbl, HV.out, HW.out, hbel⟩
theorem findM_any (v : Value) (l : List M) (x : M) (w : World) (h : SHas 3 w v l.length (rows M.cells l)) (hl : l.length ≤ 100) (hp : l.Pairwise (fun a b => kl (kM a) (kM b) = true)) :
  Calls Tryz.prog 120 #[v, MV x.p x.s x.i, .func (.func 121) #[] #[]] w (FdPost kM l (kM x) w) := by
 obtain ⟨pa, ca', rfl⟩ := h.slice
 have hbel := bel_alloc (bel_alloc (bel_alloc (Below.refl w.heap.size w) (.cells #[.slice pa l.length ca'] 65)) (.cells #[.int .i64 x.p, .int .i64 x.s, .int .i64 x.i] 50)) (.cells #[.func (.func 121) #[] #[]] 144)
 have r1 := ((rw_new w 65 #[.slice pa l.length ca']).alloc (.cells #[.int .i64 x.p, .int .i64 x.s, .int .i64 x.i] 50)).alloc (.cells #[.func (.func 121) #[] #[]] 144)
 have r2 := (rw_new (w.alloc (.cells #[.slice pa l.length ca'] 65)) 50 #[.int .i64 x.p, .int .i64 x.s, .int .i64 x.i]).alloc (.cells #[.func (.func 121) #[] #[]] 144)
 have r3 := rw_new ((w.alloc (.cells #[.slice pa l.length ca'] 65)).alloc (.cells #[.int .i64 x.p, .int .i64 x.s, .int .i64 x.i] 50)) 144 #[.func (.func 121) #[] #[]]
 generalize hW : ((w.alloc (.cells #[.slice pa l.length ca'] 65)).alloc (.cells #[.int .i64 x.p, .int .i64 x.s, .int .i64 x.i] 50)).alloc (.cells #[.func (.func 121) #[] #[]] 144) = w0 at hbel r1 r2 r3
 simp only [World.size_alloc, Nat.add_assoc, Nat.reduceAdd] at r2 r3
 have hC : CapM w0 (w.heap.size + 2) w.heap.size (w.heap.size + 1) (.slice pa l.length ca') x := ⟨r3.cell 0, r1.cell 0, r2⟩
 have c1 := hC.l
 replace h := h.later hbel
 clear r1 r2 r3
 go_enter Tryz.func120, Tryz.ntmps120
 go_wp2_with (first | rw [hW])
 clear hW
 refine (searchM_any (w.heap.size + 2) w.heap.size (w.heap.size + 1) _ l x w0 h hl hp hC).mono ?_
 rintro e w1 ⟨k, rfl, hk, h1, h2, hb1⟩
 have H1 : Hid (∀ j (h : j < l.length), j < k → kl (kM l[j]) (kM x) = true) := h1
 have H2 : Hid (∀ j (h : j < l.length), k ≤ j → kl (kM l[j]) (kM x) = false) := h2
 obtain ⟨t, HT⟩ := hid_ex (if h : k < l.length then decide (kM l[k] = kM x) else false)
 have hh := HT.out
 replace h := h.later hb1
 replace hC := hC.later hb1
 replace hbel := below_on hbel hb1
 clear h1 h2 hb1 hp c1
 by_cases hlt : k < l.length
 ·rw [dif_pos hlt] at hh
  have hlt' : (k : Int) < (l.length : Int) := by omega
  have hk0 : (0 : Int) ≤ (k : Int) := by omega
  obtain ⟨g, o, rfl, hd⟩ := h.at (by omega)
  have d := range_sub hd (k * 3) fun j u hu => rows_at M.len l k hlt j u hu
  obtain ⟨y, HY⟩ := hid_ex l[k]
  rw [HY.out] at d hh
  have E := fun w => eq_mark w y.p y.s y.i x.p x.s x.i
  rw [show (decide (y.p = x.p) && decide (y.s = x.s) && decide (y.i = x.i)) = t from (kq _ _ _ _).symm.trans hh] at E
  have ze : (Tryz.prog.info? 50).map (·.size) = some y.cells.length := size50
  have zm : (Tryz.prog.info? 50).map (·.size) = some [Value.int .i64 x.p, .int .i64 x.s, .int .i64 x.i].length := size50
  have HT2 : Hid (t = true ↔ ∃ h : k < l.length, kM l[k] = kM x) := by
   show _ ↔ _
   rw [← HT.out, dif_pos hlt, decide_eq_true_iff]
   exact ⟨fun e => ⟨hlt, e⟩, fun ⟨_, e⟩ => e⟩
  clear hh h hd HY HT
  go_wp2_with fail
  have hs : Calm.Stays (fun w' => CapM w' (w.heap.size + 2) w.heap.size (w.heap.size + 1) (.slice (some ⟨g, o, none⟩) l.length ca') x ∧ w'.rangeAt g (o + k * 3) y.cells ∧ Below w.heap.size w w') := fun wa wb h hb => ⟨h.1.later hb, range_later h.2.1 hb, below_on h.2.2 hb⟩
  refine Calm.region (by kernel_rfl) (by kernel_rfl) (fun w' => CapM w' (w.heap.size + 2) w.heap.size (w.heap.size + 1) (.slice (some ⟨g, o, none⟩) l.length ca') x ∧ w'.rangeAt g (o + k * 3) y.cells ∧ Below w.heap.size w w') ⟨⟨hC.f, hC.l, hC.m⟩, d, hbel.drew⟩ ?_
  iterate 2 (all_goals refine Calm.sp ?_)
  all_goals refine Calm.cl (fun _ h => h.1.l) ?_
  iterate 3 (all_goals refine Calm.sp ?_)
  all_goals first | refine Calm.sk ?_ | refine Calm.cl (fun _ h => h.1.f) ?_
  all_goals first | refine Calm.sk ?_ | refine Calm.cl (fun _ h => h.1.l) ?_
  iterate 2 (all_goals refine Calm.sp ?_)
  all_goals first | refine Calm.sk ?_ | refine Calm.lm ze (fun _ h => h.2.1) Tryz.underlying50 ?_
  all_goals first | refine Calm.sk ?_ | refine Calm.kf1 hs (fun w1 h => itself_any y.p y.s y.i w1) ?_
  all_goals first | refine Calm.sk ?_ | refine Calm.lm zm (fun _ h => Rw.whole h.1.m) Tryz.underlying50 ?_
  iterate 4 (all_goals refine Calm.sp ?_)
  all_goals
   rintro w9 ⟨_, _, hbel9⟩
  go_wp2_with fail
  refine bodyPost_ret (v := .tuple #[.int .i64 k, .bool t]) (by simp [results, Tryz.results120, go_sem]) rfl ?_
  exact ⟨k, _, rfl, hk, H1.out, H2.out, HT2.out, hbel9⟩
 ·rw [dif_neg hlt] at hh
  have hlt' : ¬ (k : Int) < (l.length : Int) := by omega
  subst hh
  have HT2 : Hid (false = true ↔ ∃ h : k < l.length, kM l[k] = kM x) := ⟨fun e => (by cases e), fun ⟨h, _⟩ => absurd h hlt⟩
  clear HT
  go_wp2_with fail
  have hs : Calm.Stays (fun w' => CapM w' (w.heap.size + 2) w.heap.size (w.heap.size + 1) (.slice pa l.length ca') x ∧ Below w.heap.size w w') := fun wa wb h hb => ⟨h.1.later hb, below_on h.2 hb⟩
  refine Calm.region (by kernel_rfl) (by kernel_rfl) (fun w' => CapM w' (w.heap.size + 2) w.heap.size (w.heap.size + 1) (.slice pa l.length ca') x ∧ Below w.heap.size w w') ⟨⟨hC.f, hC.l, hC.m⟩, hbel.drew⟩ ?_
  iterate 2 (all_goals refine Calm.sp ?_)
  all_goals refine Calm.cl (fun _ h => h.1.l) ?_
  iterate 14 (all_goals refine Calm.sp ?_)
  all_goals
   rintro w9 ⟨_, hbel9⟩
  go_wp2_with fail
  refine bodyPost_ret (v := .tuple #[.int .i64 k, .bool false]) (by simp [results, Tryz.results120, go_sem]) rfl ?_
  exact ⟨k, _, rfl, hk, H1.out, H2.out, HT2.out, hbel9⟩
end Go.Proofs.YtjbbmcommnhgeaaGreat
