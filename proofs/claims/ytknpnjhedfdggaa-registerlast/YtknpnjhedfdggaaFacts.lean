/- A region that draws its order, by a fact of each operation: what is known of its value and the memory as soon as it has come up, whatever came up ahead of it. Nothing of one program. -/
import Derived.Test.YtknpnjhedfdggaaOwed
namespace Go.Proofs.Ytknpnjhedfdggaa.Facts
open Go.RowKit

/-- A fact: of the values of which operations it speaks, and what it says. -/
abbrev Fact := List Nat × (List Value → World → Prop)
def holds (f : Fact) (x : Nat → Value) (w : World) : Prop := f.2 (f.1.map x) w
def put (x : Nat → Value) (i : Nat) (u : Value) : Nat → Value := fun j => if j = i then u else x j

section
variable {P : Program} {Q : Exit → Act → World → Prop} {S : World → Prop} {md : Region.Mode} {A : (Nat → Value) → Act} {F : List Fact} {l : List Oper}

/-- Each fact speaks of its own operation, and of those that it waits for. -/
def nearB (md : Region.Mode) (l : List Oper) (D : List (List Nat)) : Bool := (l.zip D).zipIdx.all fun p => p.1.2.all fun k => k == p.2 || p.1.1.after.any fun e => e.on == k && Region.binds md e
theorem nearB_spec {D : List (List Nat)} (h : nearB md l D = true) {i : Nat} {o : Oper} {d : List Nat} (hi : l[i]? = some o) (hf : D[i]? = some d) {k : Nat} (hk : k ∈ d) : k = i ∨ ∃ e ∈ o.after, e.on = k ∧ Region.binds md e = true := by
  have hm : ((o, d), i) ∈ (l.zip D).zipIdx := by
    rw [List.mem_zipIdx_iff_getElem?]
    simp [List.getElem?_zip_eq_some, hi, hf]
  have := List.all_eq_true.1 h _ hm
  have := List.all_eq_true.1 this _ hk
  simp only [Bool.or_eq_true, beq_iff_eq] at this
  rcases this with h | h
  · exact .inl h
  · rw [Array.any_eq_true] at h
    obtain ⟨j, hj, h⟩ := h
    simp only [Bool.and_eq_true, beq_iff_eq] at h
    exact .inr ⟨o.after[j], by simp, h.1, h.2⟩

/-- What an operation is asked for. -/
def StepOk (P : Program) (md : Region.Mode) (Q : Exit → Act → World → Prop) (S : World → Prop) (A : (Nat → Value) → Act) (F : List Fact) (i : Nat) (o : Oper) : Prop :=
  ∀ x w, S w → (∀ e ∈ o.after, Region.binds md e = true → ∀ f, F[e.on]? = some f → holds f x w) →
    o.wp P (A x) w (fun a' w' => ∃ u, a' = A (put x i u) ∧ S w' ∧ (∀ f, F[i]? = some f → holds f (put x i u) w') ∧ (∀ j f, j ≠ i → F[j]? = some f → holds f x w → holds f x w')) Q

def Inv (md : Region.Mode) (l : List Oper) (S : World → Prop) (A : (Nat → Value) → Act) (F : List Fact) (L : Nat → Bool) (a : Act) (w : World) : Prop :=
  S w ∧ (∀ i o, l[i]? = some o → L i = true → ∀ e ∈ o.after, Region.binds md e = true → L e.on = true) ∧ ∃ x, a = A x ∧ ∀ i f, i < l.length → F[i]? = some f → L i = true → holds f x w

theorem each_imp {R R' : Nat → Oper → Prop} : ∀ (l : List Oper) (k : Nat), Owed.each R k l → (∀ i o, l[i]? = some o → R (k + i) o → R' (k + i) o) → Owed.each R' k l
  | [], _, _, _ => trivial
  | o :: l, k, h, hi => ⟨hi 0 o rfl h.1, each_imp l (k + 1) h.2 (fun i o' ho hr => by
      have := hi (i + 1) o' (by simpa using ho)
      rw [show k + (i + 1) = k + 1 + i by omega] at this
      exact this hr)⟩

theorem region {id : Nat} {a : Act} {w : World} (hm : P.follows .mixedOrders = true) (hd : Owed.downB .any l = true) (S : World → Prop) (A : (Nat → Value) → Act) (F : List Fact) (D : List (List Nat)) (hD : F.map (·.1) = D) (hl : nearB .any l D = true)
    (x0 : Nat → Value) (hA : a = A x0) (h0 : S w.drew) (hstep : Owed.each (StepOk P .any Q S A F) 0 l)
    (hend : ∀ x w', S w' → (∀ i f, i < l.length → F[i]? = some f → holds f x w') → Q .normal (A x) w') : (Code.region id l.toArray true).wp P Q a w := by
  refine Owed.region hm hd (Inv .any l S A F) ?_ ?_ (each_imp l 0 hstep ?_) ?_
  · rintro L L' a w hL ⟨hS, hc, x, hx, hf⟩
    refine ⟨hS, fun i o hi hLi e he hb => ?_, x, hx, fun i f hi hfi hLi => hf i f hi hfi ((hL i hi).trans hLi)⟩
    have hilt : i < l.length := (List.getElem?_eq_some_iff.1 hi).1
    have := (Owed.downB_spec hd hi).2 e he hb
    rw [← hL e.on (by omega)]
    exact hc i o hi ((hL i hilt).trans hLi) e he hb
  · intro L hL
    refine ⟨h0, fun i o hi hLi => ?_, x0, hA, fun i f hi _ hLi => ?_⟩
    · rw [hL i (List.getElem?_eq_some_iff.1 hi).1] at hLi; cases hLi
    · rw [hL i hi] at hLi; cases hLi
  · intro i o hi hok
    rw [Nat.zero_add] at hok ⊢
    rintro L a w ⟨hS, hc, x, rfl, hf⟩ hLi hdep
    refine Oper.wp_mono (fun a' w' h => ?_) (hok x w hS (fun e he hb f hfe => ?_))
    · obtain ⟨u, rfl, hS', hfi, hoth⟩ := h
      refine ⟨hS', fun j o' hj hLj e he hb => ?_, put x i u, rfl, fun j f hj hfj hLj => ?_⟩
      · by_cases e1 : j = i
        · subst e1
          obtain rfl : o = o' := by rw [hi] at hj; exact Option.some.inj hj
          have := hdep e he hb
          unfold Owed.upd
          simp [this]
        · rw [Owed.upd_ne L e1] at hLj
          have := hc j o' hj hLj e he hb
          unfold Owed.upd
          simp [this]
      · by_cases e1 : j = i
        · subst e1; exact hfi f hfj
        · rw [Owed.upd_ne L e1] at hLj
          have h1 := hoth j f e1 hfj (hf j f hj hfj hLj)
          have e2 : f.1.map (put x i u) = f.1.map x := by
            apply List.map_congr_left
            intro k hk
            have hj' : l[j]? = some l[j] := List.getElem?_eq_getElem hj
            have hki : k ≠ i := by
              rcases nearB_spec hl hj' (by rw [← hD, List.getElem?_map, hfj]; rfl) hk with rfl | ⟨e, he, rfl, hb⟩
              · exact e1
              · intro h2
                have := hc j _ hj' hLj e he hb
                rw [h2, hLi] at this; cases this
            simp [put, hki]
          unfold holds at *
          rw [e2]
          exact h1
    · have h1 := (Owed.downB_spec hd hi).2 e he hb
      have h2 : i < l.length := (List.getElem?_eq_some_iff.1 hi).1
      exact hf e.on f (by omega) hfe (hdep e he hb)
  · rintro L a w hL ⟨hS, _, x, rfl, hf⟩
    exact hend x w hS fun i f hi hfi => hf i f hi hfi (hL i hi)

/-- All facts stay behind what leaves the memory that was there alone. -/
def Stay (F : List Fact) : Prop := ∀ (j : Nat) (f : Fact), F[j]? = some f → ∀ vs w w', f.2 vs w → Below w.heap.size w w' → f.2 vs w'

/-- An operation that leaves the memory that was there alone. -/
theorem step {i : Nat} {o : Oper} (hS : Calm.Stays S) (hF : Stay F) (hA : ∀ x u, (A x).put o.dst u = A (put x i u))
    (h : ∀ x w, S w → (∀ e ∈ o.after, Region.binds md e = true → ∀ f, F[e.on]? = some f → holds f x w) →
      o.wp P (A x) w (fun a' w' => ∃ u, a' = (A x).put o.dst u ∧ Below w.heap.size w w' ∧ ∀ f, F[i]? = some f → holds f (put x i u) w') Q) : StepOk P md Q S A F i o := by
  intro x w hSw hdep
  refine Oper.wp_mono (fun a' w' h => ?_) (h x w hSw hdep)
  obtain ⟨u, rfl, hb, hf⟩ := h
  exact ⟨u, hA x u, hS _ _ hSw hb, hf, fun j f _ hj hh => hF j f hj _ _ _ hh hb⟩
/-- It comes to v, and leaves the world as it is. -/
theorem pure {i : Nat} {o : Oper} {v : Value} (hS : Calm.Stays S) (hF : Stay F) (hA : ∀ x u, (A x).put o.dst u = A (put x i u)) (hf : F[i]? = some ([i], fun vs _ => vs = [v]))
    (h : ∀ x w, S w → (∀ e ∈ o.after, Region.binds md e = true → ∀ f, F[e.on]? = some f → holds f x w) → (execOp (A x).eval o).run P w = .ok (.value v) w) : StepOk P md Q S A F i o :=
  step hS hF hA fun x w hSw hdep => by
    unfold Oper.wp
    rw [h x w hSw hdep]
    refine ⟨v, rfl, Below.refl _ _, fun f hf' => ?_⟩
    rw [hf] at hf'
    obtain rfl := Option.some.inj hf'
    simp [holds, put]
/-- It calls a function. -/
theorem call {i : Nat} {o : Oper} (hS : Calm.Stays S) (hF : Stay F) (hA : ∀ x u, (A x).put o.dst u = A (put x i u)) {f : FuncId}
    (h : ∀ x w, S w → (∀ e ∈ o.after, Region.binds md e = true → ∀ f, F[e.on]? = some f → holds f x w) → ∃ args, (execOp (A x).eval o).run P w = .ok (.enter f args) w ∧
      Calls P f args w fun e w' => ∃ u, e = .returned u ∧ Below w.heap.size w w' ∧ ∀ f, F[i]? = some f → holds f (put x i u) w') : StepOk P md Q S A F i o :=
  step hS hF hA fun x w hSw hdep => by
    obtain ⟨args, hr, hc⟩ := h x w hSw hdep
    unfold Oper.wp
    rw [hr]
    refine hc.mono fun e w' he => ?_
    obtain ⟨u, rfl, hb, hf⟩ := he
    exact ⟨u, rfl, hb, hf⟩

theorem holds_eq {i : Nat} {v : Value} {x : Nat → Value} {w : World} (h : holds ([i], fun vs _ => vs = [v]) x w) : x i = v := by
  simpa [holds] using h
end
end Go.Proofs.Ytknpnjhedfdggaa.Facts
