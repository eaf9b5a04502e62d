/- A region that draws its order up to some operation, and goes on in the text's order from there: facts of the first ones, then a plain walk. Nothing of one program. -/
import Derived.Test.YtknpnjhedfdggaaFacts
namespace Go.Proofs.Ytknpnjhedfdggaa.Facts
open Go.RowKit

section
variable {P : Program} {Q : Exit → Act → World → Prop} {l : List Oper}
/-- What an operation waits for. -/
def deps (md : Region.Mode) (l : List Oper) (k : Nat) : List Nat := match l[k]? with
  | some o => (o.after.toList.filter fun e => Region.binds md e).map (·.on)
  | none => []
/-- And what that waits for, and so on. -/
def grow (md : Region.Mode) (l : List Oper) : Nat → List Nat → List Nat
  | 0, R => R
  | k + 1, R => grow md l k (if R.contains k then R ++ deps md l k else R)
theorem grow_spec {md : Region.Mode} {L : Nat → Bool} (hc : ∀ i o, l[i]? = some o → L i = true → ∀ e ∈ o.after, Region.binds md e = true → L e.on = true) :
    ∀ (k : Nat) (R : List Nat), (∀ i ∈ R, L i = true) → ∀ i ∈ grow md l k R, L i = true
  | 0, _, h => h
  | k + 1, R, h => by
    refine grow_spec hc k _ ?_
    split
    · rename_i hk
      intro i hi
      rcases List.mem_append.1 hi with h1 | h1
      · exact h i h1
      · unfold deps at h1
        cases e : l[k]? with
        | none => simp [e] at h1
        | some o =>
          simp only [e, List.mem_map, List.mem_filter, Array.mem_toList_iff] at h1
          obtain ⟨x, ⟨hx, hb⟩, rfl⟩ := h1
          exact hc k o e (h k (by simpa using hk)) x hx hb
    · exact h
/-- From k on each waits for all ahead of it. -/
def tailB (md : Region.Mode) (l : List Oper) (k : Nat) : Bool := (List.range l.length).all fun j => decide (j < k) || (List.range j).all fun i => (grow md l j (deps md l j)).contains i
theorem tailB_spec {md : Region.Mode} {k : Nat} (h : tailB md l k = true) {L : Nat → Bool} (hc : ∀ i o, l[i]? = some o → L i = true → ∀ e ∈ o.after, Region.binds md e = true → L e.on = true)
    {j : Nat} {o : Oper} (ho : l[j]? = some o) (hkj : k ≤ j) (hd : ∀ e ∈ o.after, Region.binds md e = true → L e.on = true) (i : Nat) (hi : i < j) : L i = true := by
  have hj : j < l.length := (List.getElem?_eq_some_iff.1 ho).1
  have h1 := List.all_eq_true.1 h j (by simpa using hj)
  have h2 : ¬ j < k := by omega
  simp only [h2, decide_false, Bool.false_or] at h1
  have h3 := List.all_eq_true.1 h1 i (by simpa using hi)
  refine grow_spec hc j _ ?_ i (by simpa using h3)
  intro x hx
  unfold deps at hx
  simp only [ho, List.mem_map, List.mem_filter, Array.mem_toList_iff] at hx
  obtain ⟨e, ⟨he, hb⟩, rfl⟩ := hx
  exact hd e he hb
/-- The walk of the last ones. -/
def tailWp (P : Program) (Q : Exit → Act → World → Prop) : List Oper → Act → World → Prop
  | [], a, w => Q .normal a w
  | o :: r, a, w => o.wp P a w (fun a' w' => tailWp P Q r a' w') Q

theorem tailWp_nil {a : Act} {w : World} (h : Q .normal a w) : tailWp P Q [] a w := h

theorem regionTail {id : Nat} {a : Act} {w : World} (hm : P.follows .mixedOrders = true) (hd : Owed.downB .any l = true) (k : Nat) (hk : k < l.length) (ht : tailB .any l k = true)
    (S : World → Prop) (A : (Nat → Value) → Act) (F : List Fact) (D : List (List Nat)) (hD : F.map (·.1) = D) (hDl : D.length = k) (hl : nearB .any l D = true)
    (x0 : Nat → Value) (hA : a = A x0) (h0 : S w.drew) (hstep : Owed.each (fun i o => i < k → StepOk P .any Q S A F i o) 0 l)
    (hend : ∀ x w', S w' → (∀ (i : Nat) (f : Fact), F[i]? = some f → holds f x w') → tailWp P Q (l.drop k) (A x) w') : (Code.region id l.toArray true).wp P Q a w := by
  have hFl : F.length = k := by rw [← hDl, ← hD, List.length_map]
  have cl : ∀ L L' : Nat → Bool, (∀ i, i < l.length → L i = L' i) → (∀ i o, l[i]? = some o → L i = true → ∀ e ∈ o.after, Region.binds .any e = true → L e.on = true) → (∀ i o, l[i]? = some o → L' i = true → ∀ e ∈ o.after, Region.binds .any e = true → L' e.on = true) := by
    intro L L' hL hc i o hi hLi e he hb
    have hilt : i < l.length := (List.getElem?_eq_some_iff.1 hi).1
    have := (Owed.downB_spec hd hi).2 e he hb
    rw [← hL e.on (by omega)]
    exact hc i o hi ((hL i hilt).trans hLi) e he hb
  refine Owed.region hm hd (fun L a w => (∃ m, k < m ∧ m ≤ l.length ∧ (∀ i, i < l.length → (L i = true ↔ i < m)) ∧ (∀ i o, l[i]? = some o → L i = true → ∀ e ∈ o.after, Region.binds .any e = true → L e.on = true) ∧ tailWp P Q (l.drop m) a w) ∨ ((∀ i, i < l.length → k ≤ i → L i = false) ∧ Inv .any l S A F L a w)) ?_ ?_ (each_imp l 0 hstep ?_) ?_
  · rintro L L' a w hL (⟨m, h1, h2, h3, hc, h4⟩ | ⟨h1, hS, hc, x, hx, hf⟩)
    · exact .inl ⟨m, h1, h2, fun i hi => by rw [← hL i hi]; exact h3 i hi, cl L L' hL hc, h4⟩
    · exact .inr ⟨fun i hi hki => by rw [← hL i hi]; exact h1 i hi hki, hS, cl L L' hL hc, x, hx, fun i f hi hfi hLi => hf i f hi hfi ((hL i hi).trans hLi)⟩
  · intro L hL
    refine .inr ⟨fun i hi _ => hL i hi, h0, fun i o hi hLi => ?_, x0, hA, fun i f hi _ hLi => ?_⟩
    · rw [hL i (List.getElem?_eq_some_iff.1 hi).1] at hLi; cases hLi
    · rw [hL i hi] at hLi; cases hLi
  · intro i o' hi hok
    rw [Nat.zero_add] at hok ⊢
    have hilt : i < l.length := (List.getElem?_eq_some_iff.1 hi).1
    have clu : ∀ L : Nat → Bool, (∀ e ∈ o'.after, Region.binds .any e = true → L e.on = true) → (∀ i o, l[i]? = some o → L i = true → ∀ e ∈ o.after, Region.binds .any e = true → L e.on = true) → (∀ j o, l[j]? = some o → Owed.upd L i j = true → ∀ e ∈ o.after, Region.binds .any e = true → Owed.upd L i e.on = true) := by
      intro L hdep hc j o2 hj hLj e he hb
      by_cases e1 : j = i
      · subst e1
        obtain rfl : o' = o2 := by rw [hi] at hj; exact Option.some.inj hj
        have := hdep e he hb
        unfold Owed.upd
        simp [this]
      · rw [Owed.upd_ne L e1] at hLj
        have := hc j o2 hj hLj e he hb
        unfold Owed.upd
        simp [this]
    rintro L a w (⟨m, h1, h2, h3, hc, h4⟩ | ⟨h1, hS, hc, x, rfl, hf⟩) hLi hdep
    · have hmi : ¬ i < m := fun h => by rw [(h3 i hilt).2 h] at hLi; cases hLi
      have all := tailB_spec ht hc hi (by omega) hdep
      have him : i = m := by
        rcases Nat.lt_or_ge m i with h | h
        · have := (h3 m (by omega)).1 (all m h)
          omega
        · omega
      subst him
      have hdr : l.drop i = o' :: l.drop (i + 1) := by
        rw [List.drop_eq_getElem_cons hilt]
        congr 1
        rw [List.getElem?_eq_getElem hilt] at hi
        exact Option.some.inj hi
      rw [hdr, tailWp] at h4
      refine Oper.wp_mono (fun a' w' h => .inl ⟨i + 1, by omega, by omega, fun j hj => ?_, clu L hdep hc, h⟩) h4
      by_cases e : j = i
      · subst e
        simp [Owed.upd_self]
      · rw [Owed.upd_ne L e, h3 j hj]
        omega
    · by_cases hik : k ≤ i
      · have all := tailB_spec ht hc hi hik hdep
        have him : i = k := by
          rcases Nat.lt_or_ge k i with h | h
          · have := all k h
            rw [h1 k hk (Nat.le_refl _)] at this
            cases this
          · omega
        subst him
        have hdr : l.drop i = o' :: l.drop (i + 1) := by
          rw [List.drop_eq_getElem_cons hilt]
          congr 1
          rw [List.getElem?_eq_getElem hilt] at hi
          exact Option.some.inj hi
        have h4 := hend x w hS fun j f hfj => hf j f (by have := (List.getElem?_eq_some_iff.1 hfj).1; omega) hfj (all j (by have := (List.getElem?_eq_some_iff.1 hfj).1; omega))
        rw [hdr, tailWp] at h4
        refine Oper.wp_mono (fun a' w' h => .inl ⟨i + 1, by omega, by omega, fun j hj => ?_, clu L hdep hc, h⟩) h4
        by_cases e : j = i
        · subst e
          simp [Owed.upd_self]
        · rw [Owed.upd_ne L e]
          constructor
          · intro hLj
            rcases Nat.lt_or_ge j i with h | h
            · omega
            · rw [h1 j hj h] at hLj; cases hLj
          · intro h
            exact all j (by omega)
      · have hstep' := hok (by omega)
        have hdown := (Owed.downB_spec hd hi).2
        refine Oper.wp_mono (fun a' w' h => ?_) (hstep' x w hS (fun e he hb f hfe => hf e.on f (by have := hdown e he hb; omega) hfe (hdep e he hb)))
        obtain ⟨u, rfl, hS', hfi, hoth⟩ := h
        refine .inr ⟨fun j hj hkj => by rw [Owed.upd_ne L (by omega)]; exact h1 j hj hkj, hS', clu L hdep hc, put x i u, rfl, fun j f hj hfj hLj => ?_⟩
        by_cases e1 : j = i
        · subst e1; exact hfi f hfj
        · rw [Owed.upd_ne L e1] at hLj
          have h1' := hoth j f e1 hfj (hf j f hj hfj hLj)
          have e2 : f.1.map (put x i u) = f.1.map x := by
            apply List.map_congr_left
            intro k hk
            have hj' : l[j]? = some l[j] := List.getElem?_eq_getElem hj
            have hki : k ≠ i := by
              rcases nearB_spec hl hj' (by rw [← hD, List.getElem?_map, hfj]; rfl) hk with rfl | ⟨e, he, rfl, hb⟩
              · exact e1
              · intro h2
                have := hc j _ hj' hLj e he hb
                rw [h2, hLi] at this; cases this
            simp [put, hki]
          unfold holds at *
          rw [e2]
          exact h1'
  · rintro L a w hL (⟨m, h1, h2, h3, _, h4⟩ | ⟨h1, _⟩)
    · have : m = l.length := by
        rcases Nat.lt_or_ge m l.length with h | h
        · have := (h3 m h).1 (hL m h)
          omega
        · omega
      subst this
      rw [List.drop_length] at h4
      exact h4
    · have := h1 k hk (Nat.le_refl _)
      rw [hL k hk] at this
      cases this
/-- What an operation is asked for, where the values of two are in a relation. -/
def StepR (P : Program) (md : Region.Mode) (Q : Exit → Act → World → Prop) (S : World → Prop) (A : (Nat → Value) → Act) (F : List Fact) (R : Nat → Nat → Value → Value → Prop) (i : Nat) (o : Oper) : Prop :=
  ∀ x w, S w → (∀ e ∈ o.after, Region.binds md e = true → ∀ f, F[e.on]? = some f → holds f x w) →
    o.wp P (A x) w (fun a' w' => ∃ u, a' = A (put x i u) ∧ S w' ∧ (∀ f, F[i]? = some f → holds f (put x i u) w') ∧ (∀ j f, j ≠ i → F[j]? = some f → holds f x w → holds f x w') ∧ (∀ j f, j ≠ i → F[j]? = some f → holds f x w → R i j u (x j))) Q
def InvR (md : Region.Mode) (l : List Oper) (S : World → Prop) (A : (Nat → Value) → Act) (F : List Fact) (R : Nat → Nat → Value → Value → Prop) (L : Nat → Bool) (a : Act) (w : World) : Prop :=
  S w ∧ (∀ i o, l[i]? = some o → L i = true → ∀ e ∈ o.after, Region.binds md e = true → L e.on = true) ∧ ∃ x, a = A x ∧ (∀ i f, i < l.length → F[i]? = some f → L i = true → holds f x w) ∧ ∀ i j, i < l.length → j < l.length → i ≠ j → L i = true → L j = true → R i j (x i) (x j)
theorem StepR.of {md : Region.Mode} {S : World → Prop} {A : (Nat → Value) → Act} {F : List Fact} {R : Nat → Nat → Value → Value → Prop} {i : Nat} {o : Oper} (hR : ∀ j u v, R i j u v) (h : StepOk P md Q S A F i o) : StepR P md Q S A F R i o := fun x w hS hd =>
  Oper.wp_mono (fun _ _ ⟨u, h1, h2, h3, h4⟩ => ⟨u, h1, h2, h3, h4, fun j _ _ _ _ => hR j u _⟩) (h x w hS hd)
theorem regionTailR {id : Nat} {a : Act} {w : World} (hm : P.follows .mixedOrders = true) (hd : Owed.downB .any l = true) (k : Nat) (hk : k < l.length) (ht : tailB .any l k = true)
    (S : World → Prop) (A : (Nat → Value) → Act) (F : List Fact) (R : Nat → Nat → Value → Value → Prop) (hR : ∀ i j u v, R i j u v → R j i v u) (D : List (List Nat)) (hD : F.map (·.1) = D) (hDl : D.length = k) (hl : nearB .any l D = true)
    (x0 : Nat → Value) (hA : a = A x0) (h0 : S w.drew) (hstep : Owed.each (fun i o => i < k → StepR P .any Q S A F R i o) 0 l)
    (hend : ∀ x w', S w' → (∀ (i : Nat) (f : Fact), F[i]? = some f → holds f x w') → (∀ i j, i < k → j < k → i ≠ j → R i j (x i) (x j)) → tailWp P Q (l.drop k) (A x) w') : (Code.region id l.toArray true).wp P Q a w := by
  have hFl : F.length = k := by rw [← hDl, ← hD, List.length_map]
  have cl : ∀ L L' : Nat → Bool, (∀ i, i < l.length → L i = L' i) → (∀ i o, l[i]? = some o → L i = true → ∀ e ∈ o.after, Region.binds .any e = true → L e.on = true) → (∀ i o, l[i]? = some o → L' i = true → ∀ e ∈ o.after, Region.binds .any e = true → L' e.on = true) := by
    intro L L' hL hc i o hi hLi e he hb
    have hilt : i < l.length := (List.getElem?_eq_some_iff.1 hi).1
    have := (Owed.downB_spec hd hi).2 e he hb
    rw [← hL e.on (by omega)]
    exact hc i o hi ((hL i hilt).trans hLi) e he hb
  refine Owed.region hm hd (fun L a w => (∃ m, k < m ∧ m ≤ l.length ∧ (∀ i, i < l.length → (L i = true ↔ i < m)) ∧ (∀ i o, l[i]? = some o → L i = true → ∀ e ∈ o.after, Region.binds .any e = true → L e.on = true) ∧ tailWp P Q (l.drop m) a w) ∨ ((∀ i, i < l.length → k ≤ i → L i = false) ∧ InvR .any l S A F R L a w)) ?_ ?_ (each_imp l 0 hstep ?_) ?_
  · rintro L L' a w hL (⟨m, h1, h2, h3, hc, h4⟩ | ⟨h1, hS, hc, x, hx, hf, hrel⟩)
    · exact .inl ⟨m, h1, h2, fun i hi => by rw [← hL i hi]; exact h3 i hi, cl L L' hL hc, h4⟩
    · exact .inr ⟨fun i hi hki => by rw [← hL i hi]; exact h1 i hi hki, hS, cl L L' hL hc, x, hx, fun i f hi hfi hLi => hf i f hi hfi ((hL i hi).trans hLi), fun i j hi hj hij hLi hLj => hrel i j hi hj hij ((hL i hi).trans hLi) ((hL j hj).trans hLj)⟩
  · intro L hL
    refine .inr ⟨fun i hi _ => hL i hi, h0, fun i o hi hLi => ?_, x0, hA, fun i f hi _ hLi => ?_, fun i j hi _ _ hLi => ?_⟩
    · rw [hL i (List.getElem?_eq_some_iff.1 hi).1] at hLi; cases hLi
    · rw [hL i hi] at hLi; cases hLi
    · rw [hL i hi] at hLi; cases hLi
  · intro i o' hi hok
    rw [Nat.zero_add] at hok ⊢
    have hilt : i < l.length := (List.getElem?_eq_some_iff.1 hi).1
    have clu : ∀ L : Nat → Bool, (∀ e ∈ o'.after, Region.binds .any e = true → L e.on = true) → (∀ i o, l[i]? = some o → L i = true → ∀ e ∈ o.after, Region.binds .any e = true → L e.on = true) → (∀ j o, l[j]? = some o → Owed.upd L i j = true → ∀ e ∈ o.after, Region.binds .any e = true → Owed.upd L i e.on = true) := by
      intro L hdep hc j o2 hj hLj e he hb
      by_cases e1 : j = i
      · subst e1
        obtain rfl : o' = o2 := by rw [hi] at hj; exact Option.some.inj hj
        have := hdep e he hb
        unfold Owed.upd
        simp [this]
      · rw [Owed.upd_ne L e1] at hLj
        have := hc j o2 hj hLj e he hb
        unfold Owed.upd
        simp [this]
    rintro L a w (⟨m, h1, h2, h3, hc, h4⟩ | ⟨h1, hS, hc, x, rfl, hf, hrel⟩) hLi hdep
    · have hmi : ¬ i < m := fun h => by rw [(h3 i hilt).2 h] at hLi; cases hLi
      have all := tailB_spec ht hc hi (by omega) hdep
      have him : i = m := by
        rcases Nat.lt_or_ge m i with h | h
        · have := (h3 m (by omega)).1 (all m h)
          omega
        · omega
      subst him
      have hdr : l.drop i = o' :: l.drop (i + 1) := by
        rw [List.drop_eq_getElem_cons hilt]
        congr 1
        rw [List.getElem?_eq_getElem hilt] at hi
        exact Option.some.inj hi
      rw [hdr, tailWp] at h4
      refine Oper.wp_mono (fun a' w' h => .inl ⟨i + 1, by omega, by omega, fun j hj => ?_, clu L hdep hc, h⟩) h4
      by_cases e : j = i
      · subst e
        simp [Owed.upd_self]
      · rw [Owed.upd_ne L e, h3 j hj]
        omega
    · by_cases hik : k ≤ i
      · have all := tailB_spec ht hc hi hik hdep
        have him : i = k := by
          rcases Nat.lt_or_ge k i with h | h
          · have := all k h
            rw [h1 k hk (Nat.le_refl _)] at this
            cases this
          · omega
        subst him
        have hdr : l.drop i = o' :: l.drop (i + 1) := by
          rw [List.drop_eq_getElem_cons hilt]
          congr 1
          rw [List.getElem?_eq_getElem hilt] at hi
          exact Option.some.inj hi
        have h4 := hend x w hS (fun j f hfj => hf j f (by have := (List.getElem?_eq_some_iff.1 hfj).1; omega) hfj (all j (by have := (List.getElem?_eq_some_iff.1 hfj).1; omega))) fun j j2 hj hj2 hne => hrel j j2 (by omega) (by omega) hne (all j hj) (all j2 hj2)
        rw [hdr, tailWp] at h4
        refine Oper.wp_mono (fun a' w' h => .inl ⟨i + 1, by omega, by omega, fun j hj => ?_, clu L hdep hc, h⟩) h4
        by_cases e : j = i
        · subst e
          simp [Owed.upd_self]
        · rw [Owed.upd_ne L e]
          constructor
          · intro hLj
            rcases Nat.lt_or_ge j i with h | h
            · omega
            · rw [h1 j hj h] at hLj; cases hLj
          · intro h
            exact all j (by omega)
      · have hstep' := hok (by omega)
        have hdown := (Owed.downB_spec hd hi).2
        refine Oper.wp_mono (fun a' w' h => ?_) (hstep' x w hS (fun e he hb f hfe => hf e.on f (by have := hdown e he hb; omega) hfe (hdep e he hb)))
        obtain ⟨u, rfl, hS', hfi, hoth, hrl⟩ := h
        refine .inr ⟨fun j hj hkj => by rw [Owed.upd_ne L (by omega)]; exact h1 j hj hkj, hS', clu L hdep hc, put x i u, rfl, fun j f hj hfj hLj => ?_, fun j j2 hj hj2 hne hLj hLj2 => ?_⟩
        rotate_left
        · have get : ∀ j, j < l.length → Owed.upd L i j = true → j ≠ i → L j = true ∧ ∃ f, F[j]? = some f := fun j hj hLj hne => by
            rw [Owed.upd_ne L hne] at hLj
            have hjk : j < k := by
              rcases Nat.lt_or_ge j k with h | h
              · exact h
              · rw [h1 j hj h] at hLj; cases hLj
            exact ⟨hLj, F[j]'(by omega), List.getElem?_eq_getElem _⟩
          by_cases e1 : j = i
          · subst e1
            obtain ⟨hL2, f, hf2⟩ := get j2 hj2 hLj2 (Ne.symm hne)
            have := hrl j2 f (Ne.symm hne) hf2 (hf j2 f hj2 hf2 hL2)
            simpa [put, Ne.symm hne] using this
          · by_cases e2 : j2 = i
            · subst e2
              obtain ⟨hL1, f, hf1⟩ := get j hj hLj e1
              have := hR _ _ _ _ (hrl j f e1 hf1 (hf j f hj hf1 hL1))
              simpa [put, e1] using this
            · have := hrel j j2 hj hj2 hne (get j hj hLj e1).1 (get j2 hj2 hLj2 e2).1
              simpa [put, e1, e2] using this
        by_cases e1 : j = i
        · subst e1; exact hfi f hfj
        · rw [Owed.upd_ne L e1] at hLj
          have h1' := hoth j f e1 hfj (hf j f hj hfj hLj)
          have e2 : f.1.map (put x i u) = f.1.map x := by
            apply List.map_congr_left
            intro k hk
            have hj' : l[j]? = some l[j] := List.getElem?_eq_getElem hj
            have hki : k ≠ i := by
              rcases nearB_spec hl hj' (by rw [← hD, List.getElem?_map, hfj]; rfl) hk with rfl | ⟨e, he, rfl, hb⟩
              · exact e1
              · intro h2
                have := hc j _ hj' hLj e he hb
                rw [h2, hLi] at this; cases this
            simp [put, hki]
          unfold holds at *
          rw [e2]
          exact h1'
  · rintro L a w hL (⟨m, h1, h2, h3, _, h4⟩ | ⟨h1, _⟩)
    · have : m = l.length := by
        rcases Nat.lt_or_ge m l.length with h | h
        · have := (h3 m h).1 (hL m h)
          omega
        · omega
      subst this
      rw [List.drop_length] at h4
      exact h4
    · have := h1 k hk (Nat.le_refl _)
      rw [hL k hk] at this
      cases this
end
end Go.Proofs.Ytknpnjhedfdggaa.Facts
