import Derived.Test.YthekfmodafmlgaaP1
import Derived.Test.YthekfmodafmlgaaP5
/- A region that draws its order up to some operation, and goes on in the text's order from there: facts of the first ones, then a plain walk. Nothing of one program. -/
namespace Go.Proofs.Ythekfmodafmlgaa.Facts
open Go.RowKit

section
variable {P : Program} {Q : Exit → Act → World → Prop} {l : List Oper}
/-- What an operation waits for. -/
def deps (md : Region.Mode) (l : List Oper) (k : Nat) : List Nat := match l[k]? with
  | some o => (o.after.toList.filter fun e => Region.binds md e).map (·.on)
  | none => []
/-- And what that waits for, and so on. -/
def grow (md : Region.Mode) (l : List Oper) : Nat → List Nat → List Nat
  | 0, R => R
  | k + 1, R => grow md l k (if R.contains k then R ++ deps md l k else R)
theorem grow_spec {md : Region.Mode} {L : Nat → Bool} (hc : ∀ i o, l[i]? = some o → L i = true → ∀ e ∈ o.after, Region.binds md e = true → L e.on = true) :
    ∀ (k : Nat) (R : List Nat), (∀ i ∈ R, L i = true) → ∀ i ∈ grow md l k R, L i = true
  | 0, _, h => h
  | k + 1, R, h => by
    refine grow_spec hc k _ ?_
    split
    · rename_i hk
      intro i hi
      rcases List.mem_append.1 hi with h1 | h1
      · exact h i h1
      · unfold deps at h1
        cases e : l[k]? with
        | none => simp [e] at h1
        | some o =>
          simp only [e, List.mem_map, List.mem_filter, Array.mem_toList_iff] at h1
          obtain ⟨x, ⟨hx, hb⟩, rfl⟩ := h1
          exact hc k o e (h k (by simpa using hk)) x hx hb
    · exact h
/-- From k on each waits for all ahead of it. -/
def tailB (md : Region.Mode) (l : List Oper) (k : Nat) : Bool := (List.range l.length).all fun j => decide (j < k) || (List.range j).all fun i => (grow md l j (deps md l j)).contains i
theorem tailB_spec {md : Region.Mode} {k : Nat} (h : tailB md l k = true) {L : Nat → Bool} (hc : ∀ i o, l[i]? = some o → L i = true → ∀ e ∈ o.after, Region.binds md e = true → L e.on = true)
    {j : Nat} {o : Oper} (ho : l[j]? = some o) (hkj : k ≤ j) (hd : ∀ e ∈ o.after, Region.binds md e = true → L e.on = true) (i : Nat) (hi : i < j) : L i = true := by
  have hj : j < l.length := (List.getElem?_eq_some_iff.1 ho).1
  have h1 := List.all_eq_true.1 h j (by simpa using hj)
  have h2 : ¬ j < k := by omega
  simp only [h2, decide_false, Bool.false_or] at h1
  have h3 := List.all_eq_true.1 h1 i (by simpa using hi)
  refine grow_spec hc j _ ?_ i (by simpa using h3)
  intro x hx
  unfold deps at hx
  simp only [ho, List.mem_map, List.mem_filter, Array.mem_toList_iff] at hx
  obtain ⟨e, ⟨he, hb⟩, rfl⟩ := hx
  exact hd e he hb
/-- The walk of the last ones. -/
def tailWp (P : Program) (Q : Exit → Act → World → Prop) : List Oper → Act → World → Prop
  | [], a, w => Q .normal a w
  | o :: r, a, w => o.wp P a w (fun a' w' => tailWp P Q r a' w') Q

theorem tailWp_nil {a : Act} {w : World} (h : Q .normal a w) : tailWp P Q [] a w := h

theorem regionTail {id : Nat} {a : Act} {w : World} (hm : P.follows .mixedOrders = true) (hd : Owed.downB .any l = true) (k : Nat) (hk : k < l.length) (ht : tailB .any l k = true)
    (S : World → Prop) (A : (Nat → Value) → Act) (F : List Fact) (D : List (List Nat)) (hD : F.map (·.1) = D) (hDl : D.length = k) (hl : nearB .any l D = true)
    (x0 : Nat → Value) (hA : a = A x0) (h0 : S w.drew) (hstep : Owed.each (fun i o => i < k → StepOk P .any Q S A F i o) 0 l)
    (hend : ∀ x w', S w' → (∀ (i : Nat) (f : Fact), F[i]? = some f → holds f x w') → tailWp P Q (l.drop k) (A x) w') : (Code.region id l.toArray true).wp P Q a w := by
  have hFl : F.length = k := by rw [← hDl, ← hD, List.length_map]
  have cl : ∀ L L' : Nat → Bool, (∀ i, i < l.length → L i = L' i) → (∀ i o, l[i]? = some o → L i = true → ∀ e ∈ o.after, Region.binds .any e = true → L e.on = true) → (∀ i o, l[i]? = some o → L' i = true → ∀ e ∈ o.after, Region.binds .any e = true → L' e.on = true) := by
    intro L L' hL hc i o hi hLi e he hb
    have hilt : i < l.length := (List.getElem?_eq_some_iff.1 hi).1
    have := (Owed.downB_spec hd hi).2 e he hb
    rw [← hL e.on (by omega)]
    exact hc i o hi ((hL i hilt).trans hLi) e he hb
  refine Owed.region hm hd (fun L a w => (∃ m, k < m ∧ m ≤ l.length ∧ (∀ i, i < l.length → (L i = true ↔ i < m)) ∧ (∀ i o, l[i]? = some o → L i = true → ∀ e ∈ o.after, Region.binds .any e = true → L e.on = true) ∧ tailWp P Q (l.drop m) a w) ∨ ((∀ i, i < l.length → k ≤ i → L i = false) ∧ Inv .any l S A F L a w)) ?_ ?_ (each_imp l 0 hstep ?_) ?_
  · rintro L L' a w hL (⟨m, h1, h2, h3, hc, h4⟩ | ⟨h1, hS, hc, x, hx, hf⟩)
    · exact .inl ⟨m, h1, h2, fun i hi => by rw [← hL i hi]; exact h3 i hi, cl L L' hL hc, h4⟩
    · exact .inr ⟨fun i hi hki => by rw [← hL i hi]; exact h1 i hi hki, hS, cl L L' hL hc, x, hx, fun i f hi hfi hLi => hf i f hi hfi ((hL i hi).trans hLi)⟩
  · intro L hL
    refine .inr ⟨fun i hi _ => hL i hi, h0, fun i o hi hLi => ?_, x0, hA, fun i f hi _ hLi => ?_⟩
    · rw [hL i (List.getElem?_eq_some_iff.1 hi).1] at hLi; cases hLi
    · rw [hL i hi] at hLi; cases hLi
  · intro i o' hi hok
    rw [Nat.zero_add] at hok ⊢
    have hilt : i < l.length := (List.getElem?_eq_some_iff.1 hi).1
    have clu : ∀ L : Nat → Bool, (∀ e ∈ o'.after, Region.binds .any e = true → L e.on = true) → (∀ i o, l[i]? = some o → L i = true → ∀ e ∈ o.after, Region.binds .any e = true → L e.on = true) → (∀ j o, l[j]? = some o → Owed.upd L i j = true → ∀ e ∈ o.after, Region.binds .any e = true → Owed.upd L i e.on = true) := by
      intro L hdep hc j o2 hj hLj e he hb
      by_cases e1 : j = i
      · subst e1
        obtain rfl : o' = o2 := by rw [hi] at hj; exact Option.some.inj hj
        have := hdep e he hb
        unfold Owed.upd
        simp [this]
      · rw [Owed.upd_ne L e1] at hLj
        have := hc j o2 hj hLj e he hb
        unfold Owed.upd
        simp [this]
    rintro L a w (⟨m, h1, h2, h3, hc, h4⟩ | ⟨h1, hS, hc, x, rfl, hf⟩) hLi hdep
    · have hmi : ¬ i < m := fun h => by rw [(h3 i hilt).2 h] at hLi; cases hLi
      have all := tailB_spec ht hc hi (by omega) hdep
      have him : i = m := by
        rcases Nat.lt_or_ge m i with h | h
        · have := (h3 m (by omega)).1 (all m h)
          omega
        · omega
      subst him
      have hdr : l.drop i = o' :: l.drop (i + 1) := by
        rw [List.drop_eq_getElem_cons hilt]
        congr 1
        rw [List.getElem?_eq_getElem hilt] at hi
        exact Option.some.inj hi
      rw [hdr, tailWp] at h4
      refine Oper.wp_mono (fun a' w' h => .inl ⟨i + 1, by omega, by omega, fun j hj => ?_, clu L hdep hc, h⟩) h4
      by_cases e : j = i
      · subst e
        simp [Owed.upd_self]
      · rw [Owed.upd_ne L e, h3 j hj]
        omega
    · by_cases hik : k ≤ i
      · have all := tailB_spec ht hc hi hik hdep
        have him : i = k := by
          rcases Nat.lt_or_ge k i with h | h
          · have := all k h
            rw [h1 k hk (Nat.le_refl _)] at this
            cases this
          · omega
        subst him
        have hdr : l.drop i = o' :: l.drop (i + 1) := by
          rw [List.drop_eq_getElem_cons hilt]
          congr 1
          rw [List.getElem?_eq_getElem hilt] at hi
          exact Option.some.inj hi
        have h4 := hend x w hS fun j f hfj => hf j f (by have := (List.getElem?_eq_some_iff.1 hfj).1; omega) hfj (all j (by have := (List.getElem?_eq_some_iff.1 hfj).1; omega))
        rw [hdr, tailWp] at h4
        refine Oper.wp_mono (fun a' w' h => .inl ⟨i + 1, by omega, by omega, fun j hj => ?_, clu L hdep hc, h⟩) h4
        by_cases e : j = i
        · subst e
          simp [Owed.upd_self]
        · rw [Owed.upd_ne L e]
          constructor
          · intro hLj
            rcases Nat.lt_or_ge j i with h | h
            · omega
            · rw [h1 j hj h] at hLj; cases hLj
          · intro h
            exact all j (by omega)
      · have hstep' := hok (by omega)
        have hdown := (Owed.downB_spec hd hi).2
        refine Oper.wp_mono (fun a' w' h => ?_) (hstep' x w hS (fun e he hb f hfe => hf e.on f (by have := hdown e he hb; omega) hfe (hdep e he hb)))
        obtain ⟨u, rfl, hS', hfi, hoth⟩ := h
        refine .inr ⟨fun j hj hkj => by rw [Owed.upd_ne L (by omega)]; exact h1 j hj hkj, hS', clu L hdep hc, put x i u, rfl, fun j f hj hfj hLj => ?_⟩
        by_cases e1 : j = i
        · subst e1; exact hfi f hfj
        · rw [Owed.upd_ne L e1] at hLj
          have h1' := hoth j f e1 hfj (hf j f hj hfj hLj)
          have e2 : f.1.map (put x i u) = f.1.map x := by
            apply List.map_congr_left
            intro k hk
            have hj' : l[j]? = some l[j] := List.getElem?_eq_getElem hj
            have hki : k ≠ i := by
              rcases nearB_spec hl hj' (by rw [← hD, List.getElem?_map, hfj]; rfl) hk with rfl | ⟨e, he, rfl, hb⟩
              · exact e1
              · intro h2
                have := hc j _ hj' hLj e he hb
                rw [h2, hLi] at this; cases this
            simp [put, hki]
          unfold holds at *
          rw [e2]
          exact h1'
  · rintro L a w hL (⟨m, h1, h2, h3, _, h4⟩ | ⟨h1, _⟩)
    · have : m = l.length := by
        rcases Nat.lt_or_ge m l.length with h | h
        · have := (h3 m h).1 (hL m h)
          omega
        · omega
      subst this
      rw [List.drop_length] at h4
      exact h4
    · have := h1 k hk (Nat.le_refl _)
      rw [hL k hk] at this
      cases this
/-- What an operation is asked for, where the values of two are in a relation. -/
def StepR (P : Program) (md : Region.Mode) (Q : Exit → Act → World → Prop) (S : World → Prop) (A : (Nat → Value) → Act) (F : List Fact) (R : Nat → Nat → Value → Value → Prop) (i : Nat) (o : Oper) : Prop :=
  ∀ x w, S w → (∀ e ∈ o.after, Region.binds md e = true → ∀ f, F[e.on]? = some f → holds f x w) →
    o.wp P (A x) w (fun a' w' => ∃ u, a' = A (put x i u) ∧ S w' ∧ (∀ f, F[i]? = some f → holds f (put x i u) w') ∧ (∀ j f, j ≠ i → F[j]? = some f → holds f x w → holds f x w') ∧ (∀ j f, j ≠ i → F[j]? = some f → holds f x w → R i j u (x j))) Q
def InvR (md : Region.Mode) (l : List Oper) (S : World → Prop) (A : (Nat → Value) → Act) (F : List Fact) (R : Nat → Nat → Value → Value → Prop) (L : Nat → Bool) (a : Act) (w : World) : Prop :=
  S w ∧ (∀ i o, l[i]? = some o → L i = true → ∀ e ∈ o.after, Region.binds md e = true → L e.on = true) ∧ ∃ x, a = A x ∧ (∀ i f, i < l.length → F[i]? = some f → L i = true → holds f x w) ∧ ∀ i j, i < l.length → j < l.length → i ≠ j → L i = true → L j = true → R i j (x i) (x j)
theorem StepR.of {md : Region.Mode} {S : World → Prop} {A : (Nat → Value) → Act} {F : List Fact} {R : Nat → Nat → Value → Value → Prop} {i : Nat} {o : Oper} (hR : ∀ j u v, R i j u v) (h : StepOk P md Q S A F i o) : StepR P md Q S A F R i o := fun x w hS hd =>
  Oper.wp_mono (fun _ _ ⟨u, h1, h2, h3, h4⟩ => ⟨u, h1, h2, h3, h4, fun j _ _ _ _ => hR j u _⟩) (h x w hS hd)
theorem regionTailR {id : Nat} {a : Act} {w : World} (hm : P.follows .mixedOrders = true) (hd : Owed.downB .any l = true) (k : Nat) (hk : k < l.length) (ht : tailB .any l k = true)
    (S : World → Prop) (A : (Nat → Value) → Act) (F : List Fact) (R : Nat → Nat → Value → Value → Prop) (hR : ∀ i j u v, R i j u v → R j i v u) (D : List (List Nat)) (hD : F.map (·.1) = D) (hDl : D.length = k) (hl : nearB .any l D = true)
    (x0 : Nat → Value) (hA : a = A x0) (h0 : S w.drew) (hstep : Owed.each (fun i o => i < k → StepR P .any Q S A F R i o) 0 l)
    (hend : ∀ x w', S w' → (∀ (i : Nat) (f : Fact), F[i]? = some f → holds f x w') → (∀ i j, i < k → j < k → i ≠ j → R i j (x i) (x j)) → tailWp P Q (l.drop k) (A x) w') : (Code.region id l.toArray true).wp P Q a w := by
  have hFl : F.length = k := by rw [← hDl, ← hD, List.length_map]
  have cl : ∀ L L' : Nat → Bool, (∀ i, i < l.length → L i = L' i) → (∀ i o, l[i]? = some o → L i = true → ∀ e ∈ o.after, Region.binds .any e = true → L e.on = true) → (∀ i o, l[i]? = some o → L' i = true → ∀ e ∈ o.after, Region.binds .any e = true → L' e.on = true) := by
    intro L L' hL hc i o hi hLi e he hb
    have hilt : i < l.length := (List.getElem?_eq_some_iff.1 hi).1
    have := (Owed.downB_spec hd hi).2 e he hb
    rw [← hL e.on (by omega)]
    exact hc i o hi ((hL i hilt).trans hLi) e he hb
  refine Owed.region hm hd (fun L a w => (∃ m, k < m ∧ m ≤ l.length ∧ (∀ i, i < l.length → (L i = true ↔ i < m)) ∧ (∀ i o, l[i]? = some o → L i = true → ∀ e ∈ o.after, Region.binds .any e = true → L e.on = true) ∧ tailWp P Q (l.drop m) a w) ∨ ((∀ i, i < l.length → k ≤ i → L i = false) ∧ InvR .any l S A F R L a w)) ?_ ?_ (each_imp l 0 hstep ?_) ?_
  · rintro L L' a w hL (⟨m, h1, h2, h3, hc, h4⟩ | ⟨h1, hS, hc, x, hx, hf, hrel⟩)
    · exact .inl ⟨m, h1, h2, fun i hi => by rw [← hL i hi]; exact h3 i hi, cl L L' hL hc, h4⟩
    · exact .inr ⟨fun i hi hki => by rw [← hL i hi]; exact h1 i hi hki, hS, cl L L' hL hc, x, hx, fun i f hi hfi hLi => hf i f hi hfi ((hL i hi).trans hLi), fun i j hi hj hij hLi hLj => hrel i j hi hj hij ((hL i hi).trans hLi) ((hL j hj).trans hLj)⟩
  · intro L hL
    refine .inr ⟨fun i hi _ => hL i hi, h0, fun i o hi hLi => ?_, x0, hA, fun i f hi _ hLi => ?_, fun i j hi _ _ hLi => ?_⟩
    · rw [hL i (List.getElem?_eq_some_iff.1 hi).1] at hLi; cases hLi
    · rw [hL i hi] at hLi; cases hLi
    · rw [hL i hi] at hLi; cases hLi
  · intro i o' hi hok
    rw [Nat.zero_add] at hok ⊢
    have hilt : i < l.length := (List.getElem?_eq_some_iff.1 hi).1
    have clu : ∀ L : Nat → Bool, (∀ e ∈ o'.after, Region.binds .any e = true → L e.on = true) → (∀ i o, l[i]? = some o → L i = true → ∀ e ∈ o.after, Region.binds .any e = true → L e.on = true) → (∀ j o, l[j]? = some o → Owed.upd L i j = true → ∀ e ∈ o.after, Region.binds .any e = true → Owed.upd L i e.on = true) := by
      intro L hdep hc j o2 hj hLj e he hb
      by_cases e1 : j = i
      · subst e1
        obtain rfl : o' = o2 := by rw [hi] at hj; exact Option.some.inj hj
        have := hdep e he hb
        unfold Owed.upd
        simp [this]
      · rw [Owed.upd_ne L e1] at hLj
        have := hc j o2 hj hLj e he hb
        unfold Owed.upd
        simp [this]
    rintro L a w (⟨m, h1, h2, h3, hc, h4⟩ | ⟨h1, hS, hc, x, rfl, hf, hrel⟩) hLi hdep
    · have hmi : ¬ i < m := fun h => by rw [(h3 i hilt).2 h] at hLi; cases hLi
      have all := tailB_spec ht hc hi (by omega) hdep
      have him : i = m := by
        rcases Nat.lt_or_ge m i with h | h
        · have := (h3 m (by omega)).1 (all m h)
          omega
        · omega
      subst him
      have hdr : l.drop i = o' :: l.drop (i + 1) := by
        rw [List.drop_eq_getElem_cons hilt]
        congr 1
        rw [List.getElem?_eq_getElem hilt] at hi
        exact Option.some.inj hi
      rw [hdr, tailWp] at h4
      refine Oper.wp_mono (fun a' w' h => .inl ⟨i + 1, by omega, by omega, fun j hj => ?_, clu L hdep hc, h⟩) h4
      by_cases e : j = i
      · subst e
        simp [Owed.upd_self]
      · rw [Owed.upd_ne L e, h3 j hj]
        omega
    · by_cases hik : k ≤ i
      · have all := tailB_spec ht hc hi hik hdep
        have him : i = k := by
          rcases Nat.lt_or_ge k i with h | h
          · have := all k h
            rw [h1 k hk (Nat.le_refl _)] at this
            cases this
          · omega
        subst him
        have hdr : l.drop i = o' :: l.drop (i + 1) := by
          rw [List.drop_eq_getElem_cons hilt]
          congr 1
          rw [List.getElem?_eq_getElem hilt] at hi
          exact Option.some.inj hi
        have h4 := hend x w hS (fun j f hfj => hf j f (by have := (List.getElem?_eq_some_iff.1 hfj).1; omega) hfj (all j (by have := (List.getElem?_eq_some_iff.1 hfj).1; omega))) fun j j2 hj hj2 hne => hrel j j2 (by omega) (by omega) hne (all j hj) (all j2 hj2)
        rw [hdr, tailWp] at h4
        refine Oper.wp_mono (fun a' w' h => .inl ⟨i + 1, by omega, by omega, fun j hj => ?_, clu L hdep hc, h⟩) h4
        by_cases e : j = i
        · subst e
          simp [Owed.upd_self]
        · rw [Owed.upd_ne L e]
          constructor
          · intro hLj
            rcases Nat.lt_or_ge j i with h | h
            · omega
            · rw [h1 j hj h] at hLj; cases hLj
          · intro h
            exact all j (by omega)
      · have hstep' := hok (by omega)
        have hdown := (Owed.downB_spec hd hi).2
        refine Oper.wp_mono (fun a' w' h => ?_) (hstep' x w hS (fun e he hb f hfe => hf e.on f (by have := hdown e he hb; omega) hfe (hdep e he hb)))
        obtain ⟨u, rfl, hS', hfi, hoth, hrl⟩ := h
        refine .inr ⟨fun j hj hkj => by rw [Owed.upd_ne L (by omega)]; exact h1 j hj hkj, hS', clu L hdep hc, put x i u, rfl, fun j f hj hfj hLj => ?_, fun j j2 hj hj2 hne hLj hLj2 => ?_⟩
        rotate_left
        · have get : ∀ j, j < l.length → Owed.upd L i j = true → j ≠ i → L j = true ∧ ∃ f, F[j]? = some f := fun j hj hLj hne => by
            rw [Owed.upd_ne L hne] at hLj
            have hjk : j < k := by
              rcases Nat.lt_or_ge j k with h | h
              · exact h
              · rw [h1 j hj h] at hLj; cases hLj
            exact ⟨hLj, F[j]'(by omega), List.getElem?_eq_getElem _⟩
          by_cases e1 : j = i
          · subst e1
            obtain ⟨hL2, f, hf2⟩ := get j2 hj2 hLj2 (Ne.symm hne)
            have := hrl j2 f (Ne.symm hne) hf2 (hf j2 f hj2 hf2 hL2)
            simpa [put, Ne.symm hne] using this
          · by_cases e2 : j2 = i
            · subst e2
              obtain ⟨hL1, f, hf1⟩ := get j hj hLj e1
              have := hR _ _ _ _ (hrl j f e1 hf1 (hf j f hj hf1 hL1))
              simpa [put, e1] using this
            · have := hrel j j2 hj hj2 hne (get j hj hLj e1).1 (get j2 hj2 hLj2 e2).1
              simpa [put, e1, e2] using this
        by_cases e1 : j = i
        · subst e1; exact hfi f hfj
        · rw [Owed.upd_ne L e1] at hLj
          have h1' := hoth j f e1 hfj (hf j f hj hfj hLj)
          have e2 : f.1.map (put x i u) = f.1.map x := by
            apply List.map_congr_left
            intro k hk
            have hj' : l[j]? = some l[j] := List.getElem?_eq_getElem hj
            have hki : k ≠ i := by
              rcases nearB_spec hl hj' (by rw [← hD, List.getElem?_map, hfj]; rfl) hk with rfl | ⟨e, he, rfl, hb⟩
              · exact e1
              · intro h2
                have := hc j _ hj' hLj e he hb
                rw [h2, hLi] at this; cases this
            simp [put, hki]
          unfold holds at *
          rw [e2]
          exact h1'
  · rintro L a w hL (⟨m, h1, h2, h3, _, h4⟩ | ⟨h1, _⟩)
    · have : m = l.length := by
        rcases Nat.lt_or_ge m l.length with h | h
        · have := (h3 m h).1 (hL m h)
          omega
        · omega
      subst this
      rw [List.drop_length] at h4
      exact h4
    · have := h1 k hk (Nat.le_refl _)
      rw [hL k hk] at this
      cases this
end
end Go.Proofs.Ythekfmodafmlgaa.Facts
/- checkMembers, Check of package orset. -/
namespace Go.Proofs.Ythekfmodafmlgaa
open Go.RowKit Go.Sort

theorem less_bytes : ∀ (x y : Bs), Op.bytesLess x y = decide (x < y)
  | [], [] => by simp [Op.bytesLess]
  | _ :: _, [] => by simp [Op.bytesLess]
  | [], _ :: _ => by simp [Op.bytesLess]
  | a :: x, b :: y => by
    rw [Op.bytesLess, less_bytes x y]
    simp only [List.cons_lt_cons_iff]
    by_cases h1 : a < b <;> by_cases h2 : a = b <;> by_cases h3 : x < y <;> simp [h1, h2, h3]
theorem less_str (a b : ByteArray) : Op.bytesLess a.toList b.toList = decide (bs a < bs b) := by rw [ByteArray.toList_eq, ByteArray.toList_eq, less_bytes]
theorem eq_str (a b : ByteArray) : (a.toList == b.toList) = decide (bs a = bs b) := by
  rw [ByteArray.toList_eq, ByteArray.toList_eq]
  by_cases h : bs a = bs b
  · rw [decide_eq_true h]
    simpa using h
  · rw [decide_eq_false h]
    simpa using h
set_option maxHeartbeats 2000000 in
set_option maxRecDepth 100000 in
theorem checkMembers_any (v : Value) (l : List Mb) (w : World) (h : BHas w v l) : Calls Try.prog 31 #[v] w (Tells (.bool (cb l)) w) := by
  obtain ⟨z, HZ⟩ := hid_ex (cb l)
  rw [HZ.out]
  obtain ⟨ys, hys, h, hy⟩ := h
  have hml := maxLen_lt h.1
  obtain ⟨p, c, rfl⟩ := h.slice
  have hyl : ys.length = l.length := by rw [← hys, List.length_map]
  have HR : Hid (SHas 3 w (.slice p l.length c) l.length (rows Mb.cells ys)) := h
  have HY : Hid (∀ y ∈ ys, MHas w y.2 y.1.ms) := hy
  have HL : Hid (∀ k (h1 : k < ys.length) (h2 : k < l.length), ys[k].1 = l[k]) := fun k h1 h2 => by
    subst hys
    rw [List.getElem_map]
  clear h hy hys
  go_enter Try.func31, Try.ntmps31
  go_wp2
  go_loopw [7] (fun vi wr => ∃ k : Nat, vi = .int .i64 k ∧ k ≤ l.length ∧ Hid (∀ i (h : i < l.length), i < k → okb l i h = true) ∧ Below w.heap.size w wr) (fun vi _ => l.length - (intOf vi).toNat)
  case atStart => exact ⟨0, rfl, by omega, (show ∀ i (_ : i < l.length), i < 0 → _ from fun i _ h => by omega), Below.refl _ _⟩
  case round =>
    obtain ⟨k, rfl, hk, HV, hbel⟩ := hrel
    by_cases hlt : k < l.length
    · have hlt' : (k : Int) < (l.length : Int) := by omega
      obtain ⟨g, o, rfl, hd0⟩ := HR.out.at (by omega)
      have hd := range_later hd0 hbel
      have d := Mb.elem hd k (by omega)
      have hyk := (HY.out ys[k] (List.getElem_mem _)).later hbel
      obtain ⟨yy, HX⟩ := hid_ex (ys[k]'(by omega))
      have HX2 : Hid (l[k] = yy.1) := by
        show _ = _
        rw [← HL.out k (by omega) hlt, HX.out]
      rw [HX.out] at d hyk
      obtain ⟨y, yv⟩ := yy
      replace hyk : MHas wr yv y.ms := hyk
      obtain ⟨py, cy, rfl⟩ := hyk.slice
      replace d : wr.rangeAt g (o + k * 3) [Value.string y.x, .bool y.b, .slice py y.ms.length cy] := d
      replace HX2 : Hid (l[k] = y) := HX2
      clear hd0 HR HY HX
      have zb : (Try.prog.info? 41).map (·.size) = some [Value.string y.x, .bool y.b, .slice py y.ms.length cy].length := size41
      have R := rw_new wr 41 #[.string y.x, .bool y.b, .slice py y.ms.length cy]
      have hbA := bel_alloc (Below.refl wr.heap.size wr) (.cells #[.string y.x, .bool y.b, .slice py y.ms.length cy] 41)
      replace hbel := bel_alloc hbel (.cells #[.string y.x, .bool y.b, .slice py y.ms.length cy] 41)
      replace hyk := hyk.later hbA
      obtain ⟨y1, HY1⟩ := hid_ex (ib y)
      have C1 : ∀ w, MHas w (.slice py y.ms.length cy) y.ms → Calls Try.prog 48 #[BV y (.slice py y.ms.length cy)] w (Tells (.bool y1) w) := fun w h => by rw [← HY1.out]; exact isMember_any y _ w h
      cases y1
      · have HF := cb_not HZ hlt (show okb l k hlt = false by unfold okb; rw [HX2.out, HY1.out]; rfl)
        have e := HF.out
        subst e
        clear HZ HF HV
        go_wp2_with (refine load_m 41 _ rfl rfl _ _ rfl d Try.underlying41 rfl zb ?_)
        clear hd d
        have hs : Calm.Stays (fun w' => Rw w' wr.heap.size 41 #[.string y.x, .bool y.b, .slice py y.ms.length cy] ∧ MHas w' (.slice py y.ms.length cy) y.ms ∧ Below w.heap.size w w') := fun wa wb h hb => ⟨h.1.later hb, h.2.1.later hb, below_on h.2.2 hb⟩
        refine Calm.region (by kernel_rfl) (by kernel_rfl) (fun w' => Rw w' wr.heap.size 41 #[.string y.x, .bool y.b, .slice py y.ms.length cy] ∧ MHas w' (.slice py y.ms.length cy) y.ms ∧ Below w.heap.size w w') ⟨R, hyk, hbel.drew⟩ ?_
        all_goals
          refine Calm.loadM 41 Try.underlying41 rfl zb (by rfl) _ rfl rfl (fun _ h => Rw.whole h.1) ?_
          simp only [Act.put, List.setIfInBounds_toArray, List.set_cons_zero, List.set_cons_succ]
        all_goals
          refine Calm.call1s (by rfl) rfl rfl (by kernel_rfl) hs (fun w1 h => C1 w1 h.2.1) ?_
          simp only [Act.put, List.setIfInBounds_toArray, List.set_cons_zero, List.set_cons_succ]
        all_goals
          refine Calm.pure (v := ?_) (by rfl) ?_ ?_
          rotate_left
          focus (intro w hSw; go_simp <;> rfl)
          simp only [Act.put, List.setIfInBounds_toArray, List.set_cons_zero, List.set_cons_succ]
        all_goals
          refine Calm.pure (v := ?_) (by rfl) ?_ ?_
          rotate_left
          focus (intro w hSw; go_simp <;> rfl)
          simp only [Act.put, List.setIfInBounds_toArray, List.set_cons_zero, List.set_cons_succ]
        all_goals
          first
            | (refine Calm.skip ?_ ?_; focus rfl)
            | (refine Calm.pure (v := ?_) (by rfl) ?_ ?_
               rotate_left
               focus (intro w hSw; go_simp <;> rfl))
          simp only [Act.put, List.setIfInBounds_toArray, List.set_cons_zero, List.set_cons_succ]
        all_goals
          first
            | (refine Calm.skip ?_ ?_; focus rfl)
            | (refine Calm.pure (v := ?_) (by rfl) ?_ ?_
               rotate_left
               focus (intro w hSw; go_simp <;> rfl))
          simp only [Act.put, List.setIfInBounds_toArray, List.set_cons_zero, List.set_cons_succ]
        all_goals
          first
            | (refine Calm.skip ?_ ?_; focus rfl)
            | (refine Calm.pure (v := ?_) (by rfl) ?_ ?_
               rotate_left
               focus (intro w hSw; go_simp <;> rfl))
          simp only [Act.put, List.setIfInBounds_toArray, List.set_cons_zero, List.set_cons_succ]
        all_goals
          first
            | (refine Calm.skip ?_ ?_; focus rfl)
            | (refine Calm.pure (v := ?_) (by rfl) ?_ ?_
               rotate_left
               focus (intro w hSw; go_simp <;> rfl))
          simp only [Act.put, List.setIfInBounds_toArray, List.set_cons_zero, List.set_cons_succ]
        all_goals
          first
            | (refine Calm.skip ?_ ?_; focus rfl)
            | (refine Calm.pure (v := ?_) (by rfl) ?_ ?_
               rotate_left
               focus (intro w hSw; go_simp <;> rfl))
          simp only [Act.put, List.setIfInBounds_toArray, List.set_cons_zero, List.set_cons_succ]
        all_goals
          first
            | (refine Calm.skip ?_ ?_; focus rfl)
            | (refine Calm.pure (v := ?_) (by rfl) ?_ ?_
               rotate_left
               focus (intro w hSw; go_simp <;> rfl))
          simp only [Act.put, List.setIfInBounds_toArray, List.set_cons_zero, List.set_cons_succ]
        all_goals
          first
            | (refine Calm.skip ?_ ?_; focus rfl)
            | (refine Calm.pure (v := ?_) (by rfl) ?_ ?_
               rotate_left
               focus (intro w hSw; go_simp <;> rfl))
          simp only [Act.put, List.setIfInBounds_toArray, List.set_cons_zero, List.set_cons_succ]
        all_goals
          first
            | (refine Calm.skip ?_ ?_; focus rfl)
            | (refine Calm.pure (v := ?_) (by rfl) ?_ ?_
               rotate_left
               focus (intro w hSw; go_simp <;> rfl))
          simp only [Act.put, List.setIfInBounds_toArray, List.set_cons_zero, List.set_cons_succ]
        all_goals
          first
            | (refine Calm.skip ?_ ?_; focus rfl)
            | (refine Calm.pure (v := ?_) (by rfl) ?_ ?_
               rotate_left
               focus (intro w hSw; go_simp <;> rfl))
          simp only [Act.put, List.setIfInBounds_toArray, List.set_cons_zero, List.set_cons_succ]
        all_goals
          first
            | (refine Calm.skip ?_ ?_; focus rfl)
            | (refine Calm.pure (v := ?_) (by rfl) ?_ ?_
               rotate_left
               focus (intro w hSw; go_simp <;> rfl))
          simp only [Act.put, List.setIfInBounds_toArray, List.set_cons_zero, List.set_cons_succ]
        all_goals
          first
            | (refine Calm.skip ?_ ?_; focus rfl)
            | (refine Calm.pure (v := ?_) (by rfl) ?_ ?_
               rotate_left
               focus (intro w hSw; go_simp <;> rfl))
          simp only [Act.put, List.setIfInBounds_toArray, List.set_cons_zero, List.set_cons_succ]
        all_goals
          first
            | (refine Calm.skip ?_ ?_; focus rfl)
            | (refine Calm.pure (v := ?_) (by rfl) ?_ ?_
               rotate_left
               focus (intro w hSw; go_simp <;> rfl))
          simp only [Act.put, List.setIfInBounds_toArray, List.set_cons_zero, List.set_cons_succ]
        all_goals
          first
            | (refine Calm.skip ?_ ?_; focus rfl)
            | (refine Calm.pure (v := ?_) (by rfl) ?_ ?_
               rotate_left
               focus (intro w hSw; go_simp <;> rfl))
          simp only [Act.put, List.setIfInBounds_toArray, List.set_cons_zero, List.set_cons_succ]
        all_goals
          refine Calm.pure (v := ?_) (by rfl) ?_ ?_
          rotate_left
          focus (intro w hSw; go_simp <;> rfl)
          simp only [Act.put, List.setIfInBounds_toArray, List.set_cons_zero, List.set_cons_succ]
        all_goals
          rintro w9 ⟨_, _, hbel9⟩
        go_wp2_with fail
        go_ret
        exact ⟨rfl, hbel9⟩
      · rcases Nat.eq_zero_or_pos k with rfl | hpos
        · have HV2 : Hid (∀ i (h : i < l.length), i < 0 + 1 → okb l i h = true) := fun i h hi => by
            obtain rfl : i = 0 := by omega
            unfold okb
            rw [HX2.out, HY1.out]
            rfl
          go_wp2_with (refine load_m 41 _ rfl rfl _ _ rfl d Try.underlying41 rfl zb ?_)
          clear hd d HV
          have hs : Calm.Stays (fun w' => Rw w' wr.heap.size 41 #[.string y.x, .bool y.b, .slice py y.ms.length cy] ∧ MHas w' (.slice py y.ms.length cy) y.ms ∧ Below w.heap.size w w') := fun wa wb h hb => ⟨h.1.later hb, h.2.1.later hb, below_on h.2.2 hb⟩
          refine Calm.region (by kernel_rfl) (by kernel_rfl) (fun w' => Rw w' wr.heap.size 41 #[.string y.x, .bool y.b, .slice py y.ms.length cy] ∧ MHas w' (.slice py y.ms.length cy) y.ms ∧ Below w.heap.size w w') ⟨R, hyk, hbel.drew⟩ ?_
          all_goals
            refine Calm.loadM 41 Try.underlying41 rfl zb (by rfl) _ rfl rfl (fun _ h => Rw.whole h.1) ?_
            simp only [Act.put, List.setIfInBounds_toArray, List.set_cons_zero, List.set_cons_succ]
          all_goals
            refine Calm.call1s (by rfl) rfl rfl (by kernel_rfl) hs (fun w1 h => C1 w1 h.2.1) ?_
            simp only [Act.put, List.setIfInBounds_toArray, List.set_cons_zero, List.set_cons_succ]
          all_goals
            refine Calm.pure (v := ?_) (by rfl) ?_ ?_
            rotate_left
            focus (intro w hSw; go_simp <;> rfl)
            simp only [Act.put, List.setIfInBounds_toArray, List.set_cons_zero, List.set_cons_succ]
          all_goals
            refine Calm.pure (v := ?_) (by rfl) ?_ ?_
            rotate_left
            focus (intro w hSw; go_simp <;> rfl)
            simp only [Act.put, List.setIfInBounds_toArray, List.set_cons_zero, List.set_cons_succ]
          all_goals
            first
              | (refine Calm.skip ?_ ?_; focus rfl)
              | (refine Calm.pure (v := ?_) (by rfl) ?_ ?_
                 rotate_left
                 focus (intro w hSw; go_simp <;> rfl))
            simp only [Act.put, List.setIfInBounds_toArray, List.set_cons_zero, List.set_cons_succ]
          all_goals
            first
              | (refine Calm.skip ?_ ?_; focus rfl)
              | (refine Calm.pure (v := ?_) (by rfl) ?_ ?_
                 rotate_left
                 focus (intro w hSw; go_simp <;> rfl))
            simp only [Act.put, List.setIfInBounds_toArray, List.set_cons_zero, List.set_cons_succ]
          all_goals
            first
              | (refine Calm.skip ?_ ?_; focus rfl)
              | (refine Calm.pure (v := ?_) (by rfl) ?_ ?_
                 rotate_left
                 focus (intro w hSw; go_simp <;> rfl))
            simp only [Act.put, List.setIfInBounds_toArray, List.set_cons_zero, List.set_cons_succ]
          all_goals
            first
              | (refine Calm.skip ?_ ?_; focus rfl)
              | (refine Calm.pure (v := ?_) (by rfl) ?_ ?_
                 rotate_left
                 focus (intro w hSw; go_simp <;> rfl))
            simp only [Act.put, List.setIfInBounds_toArray, List.set_cons_zero, List.set_cons_succ]
          all_goals
            first
              | (refine Calm.skip ?_ ?_; focus rfl)
              | (refine Calm.pure (v := ?_) (by rfl) ?_ ?_
                 rotate_left
                 focus (intro w hSw; go_simp <;> rfl))
            simp only [Act.put, List.setIfInBounds_toArray, List.set_cons_zero, List.set_cons_succ]
          all_goals
            first
              | (refine Calm.skip ?_ ?_; focus rfl)
              | (refine Calm.pure (v := ?_) (by rfl) ?_ ?_
                 rotate_left
                 focus (intro w hSw; go_simp <;> rfl))
            simp only [Act.put, List.setIfInBounds_toArray, List.set_cons_zero, List.set_cons_succ]
          all_goals
            first
              | (refine Calm.skip ?_ ?_; focus rfl)
              | (refine Calm.pure (v := ?_) (by rfl) ?_ ?_
                 rotate_left
                 focus (intro w hSw; go_simp <;> rfl))
            simp only [Act.put, List.setIfInBounds_toArray, List.set_cons_zero, List.set_cons_succ]
          all_goals
            first
              | (refine Calm.skip ?_ ?_; focus rfl)
              | (refine Calm.pure (v := ?_) (by rfl) ?_ ?_
                 rotate_left
                 focus (intro w hSw; go_simp <;> rfl))
            simp only [Act.put, List.setIfInBounds_toArray, List.set_cons_zero, List.set_cons_succ]
          all_goals
            first
              | (refine Calm.skip ?_ ?_; focus rfl)
              | (refine Calm.pure (v := ?_) (by rfl) ?_ ?_
                 rotate_left
                 focus (intro w hSw; go_simp <;> rfl))
            simp only [Act.put, List.setIfInBounds_toArray, List.set_cons_zero, List.set_cons_succ]
          all_goals
            first
              | (refine Calm.skip ?_ ?_; focus rfl)
              | (refine Calm.pure (v := ?_) (by rfl) ?_ ?_
                 rotate_left
                 focus (intro w hSw; go_simp <;> rfl))
            simp only [Act.put, List.setIfInBounds_toArray, List.set_cons_zero, List.set_cons_succ]
          all_goals
            first
              | (refine Calm.skip ?_ ?_; focus rfl)
              | (refine Calm.pure (v := ?_) (by rfl) ?_ ?_
                 rotate_left
                 focus (intro w hSw; go_simp <;> rfl))
            simp only [Act.put, List.setIfInBounds_toArray, List.set_cons_zero, List.set_cons_succ]
          all_goals
            first
              | (refine Calm.skip ?_ ?_; focus rfl)
              | (refine Calm.pure (v := ?_) (by rfl) ?_ ?_
                 rotate_left
                 focus (intro w hSw; go_simp <;> rfl))
            simp only [Act.put, List.setIfInBounds_toArray, List.set_cons_zero, List.set_cons_succ]
          all_goals
            first
              | (refine Calm.skip ?_ ?_; focus rfl)
              | (refine Calm.pure (v := ?_) (by rfl) ?_ ?_
                 rotate_left
                 focus (intro w hSw; go_simp <;> rfl))
            simp only [Act.put, List.setIfInBounds_toArray, List.set_cons_zero, List.set_cons_succ]
          all_goals
            refine Calm.pure (v := ?_) (by rfl) ?_ ?_
            rotate_left
            focus (intro w hSw; go_simp <;> rfl)
            simp only [Act.put, List.setIfInBounds_toArray, List.set_cons_zero, List.set_cons_succ]
          all_goals
            rintro w9 ⟨_, _, hbel9⟩
          go_wp2_with fail
          go_roundw
          case rel => exact ⟨0 + 1, by simp, by omega, HV2, hbel9⟩
          case measure => simp [intOf]; omega
        · obtain ⟨m, rfl⟩ : ∃ m, k = m + 1 := ⟨k - 1, by omega⟩
          have d2 := range_later (Mb.elem hd m (by omega)) hbA 0 _ rfl
          obtain ⟨u, HU⟩ := hid_ex (l[m]'(by omega))
          rw [HL.out m (by omega) (by omega), HU.out] at d2
          replace d2 : (wr.alloc (.cells #[.string y.x, .bool y.b, .slice py y.ms.length cy] 41)).cell? ⟨g, o + m * 3, none⟩ = some (.string u.x) := d2
          have hO : okb l (m + 1) hlt = tlt u y := by
            unfold okb
            simp only [Nat.add_sub_cancel]
            rw [HX2.out, HY1.out, HU.out]
            simp
          have HO : Hid (okb l (m + 1) hlt = tlt u y) := hO
          clear hO
          obtain ⟨y2, HY2⟩ := hid_ex (tlt u y)
          rw [HY2.out] at HO
          have E1 : Op.bytesLess u.x.toList y.x.toList = y2 := by rw [less_str, ← HY2.out]; rfl
          have hw1 : IntKind.i64.wrap (m : Int) = (m : Int) := by rw [IntKind.wrap_i64]; omega
          have hml2 : (m : Int) < (l.length : Int) := by omega
          go_wp2_with (refine load_m 41 _ rfl rfl _ _ rfl d Try.underlying41 rfl zb ?_)
          clear hd d
          cases y2
          · have HF := cb_not HZ hlt HO.out
            have e := HF.out
            subst e
            clear HZ HF HV
            have hs : Calm.Stays (fun w' => Rw w' wr.heap.size 41 #[.string y.x, .bool y.b, .slice py y.ms.length cy] ∧ MHas w' (.slice py y.ms.length cy) y.ms ∧ w'.cell? ⟨g, o + m * 3, none⟩ = some (.string u.x) ∧ Below w.heap.size w w') := fun wa wb h hb => ⟨h.1.later hb, h.2.1.later hb, cell_later hb h.2.2.1, below_on h.2.2.2 hb⟩
            refine Calm.region (by kernel_rfl) (by kernel_rfl) (fun w' => Rw w' wr.heap.size 41 #[.string y.x, .bool y.b, .slice py y.ms.length cy] ∧ MHas w' (.slice py y.ms.length cy) y.ms ∧ w'.cell? ⟨g, o + m * 3, none⟩ = some (.string u.x) ∧ Below w.heap.size w w') ⟨R, hyk, d2, hbel.drew⟩ ?_
            all_goals
              refine Calm.loadM 41 Try.underlying41 rfl zb (by rfl) _ rfl rfl (fun _ h => Rw.whole h.1) ?_
              simp only [Act.put, List.setIfInBounds_toArray, List.set_cons_zero, List.set_cons_succ]
            all_goals
              refine Calm.call1s (by rfl) rfl rfl (by kernel_rfl) hs (fun w1 h => C1 w1 h.2.1) ?_
              simp only [Act.put, List.setIfInBounds_toArray, List.set_cons_zero, List.set_cons_succ]
            all_goals
              refine Calm.pure (v := ?_) (by rfl) ?_ ?_
              rotate_left
              focus (intro w hSw; go_simp <;> rfl)
              simp only [Act.put, List.setIfInBounds_toArray, List.set_cons_zero, List.set_cons_succ]
            all_goals
              refine Calm.pure (v := ?_) (by rfl) ?_ ?_
              rotate_left
              focus (intro w hSw; go_simp <;> rfl)
              simp only [Act.put, List.setIfInBounds_toArray, List.set_cons_zero, List.set_cons_succ]
            all_goals
              first
                | (refine Calm.skip ?_ ?_; focus rfl)
                | (refine Calm.pure (v := ?_) (by rfl) ?_ ?_
                   rotate_left
                   focus (intro w hSw; go_simp <;> rfl))
              simp only [Act.put, List.setIfInBounds_toArray, List.set_cons_zero, List.set_cons_succ]
            all_goals
              first
                | (refine Calm.skip ?_ ?_; focus rfl)
                | (refine Calm.pure (v := ?_) (by rfl) ?_ ?_
                   rotate_left
                   focus (intro w hSw; go_simp <;> rfl))
              simp only [Act.put, List.setIfInBounds_toArray, List.set_cons_zero, List.set_cons_succ]
            all_goals
              first
                | (refine Calm.skip ?_ ?_; focus rfl)
                | (refine Calm.pure (v := ?_) (by rfl) ?_ ?_
                   rotate_left
                   focus (intro w hSw; go_simp <;> rfl))
              simp only [Act.put, List.setIfInBounds_toArray, List.set_cons_zero, List.set_cons_succ]
            all_goals
              first
                | (refine Calm.skip ?_ ?_; focus rfl)
                | (refine Calm.pure (v := ?_) (by rfl) ?_ ?_
                   rotate_left
                   focus (intro w hSw; go_simp <;> rfl))
              simp only [Act.put, List.setIfInBounds_toArray, List.set_cons_zero, List.set_cons_succ]
            all_goals
              first
                | (refine Calm.skip ?_ ?_; focus rfl)
                | (refine Calm.pure (v := ?_) (by rfl) ?_ ?_
                   rotate_left
                   focus (intro w hSw; go_simp <;> rfl))
              simp only [Act.put, List.setIfInBounds_toArray, List.set_cons_zero, List.set_cons_succ]
            all_goals
              first
                | (refine Calm.skip ?_ ?_; focus rfl)
                | (refine Calm.pure (v := ?_) (by rfl) ?_ ?_
                   rotate_left
                   focus (intro w hSw; go_simp <;> rfl))
              simp only [Act.put, List.setIfInBounds_toArray, List.set_cons_zero, List.set_cons_succ]
            all_goals
              first
                | (refine Calm.skip ?_ ?_; focus rfl)
                | (refine Calm.pure (v := ?_) (by rfl) ?_ ?_
                   rotate_left
                   focus (intro w hSw; go_simp <;> rfl))
              simp only [Act.put, List.setIfInBounds_toArray, List.set_cons_zero, List.set_cons_succ]
            all_goals
              first
                | (refine Calm.skip ?_ ?_; focus rfl)
                | (refine Calm.pure (v := ?_) (by rfl) ?_ ?_
                   rotate_left
                   focus (intro w hSw; go_simp <;> rfl))
              simp only [Act.put, List.setIfInBounds_toArray, List.set_cons_zero, List.set_cons_succ]
            all_goals
              first
                | (refine Calm.skip ?_ ?_; focus rfl)
                | (refine Calm.pure (v := .string u.x) (by rfl) ?_ ?_
                   focus (intro w hSw; have g1 : w.cell? ⟨g, o + m * 3, none⟩ = some (.string u.x) := hSw.2.2.1; go_simp))
              simp only [Act.put, List.setIfInBounds_toArray, List.set_cons_zero, List.set_cons_succ]
            all_goals
              first
                | (refine Calm.skip ?_ ?_; focus rfl)
                | (refine Calm.pure (v := ?_) (by rfl) ?_ ?_
                   rotate_left
                   focus (intro w hSw; go_simp <;> rfl))
              simp only [Act.put, List.setIfInBounds_toArray, List.set_cons_zero, List.set_cons_succ]
            all_goals
              first
                | (refine Calm.skip ?_ ?_; focus rfl)
                | (refine Calm.pure (v := .string y.x) (by rfl) ?_ ?_
                   focus (intro w hSw; have g1 : w.cell? ⟨wr.heap.size, 0, none⟩ = some (.string y.x) := hSw.1.cell 0; go_simp))
              simp only [Act.put, List.setIfInBounds_toArray, List.set_cons_zero, List.set_cons_succ]
            all_goals
              first
                | (refine Calm.skip ?_ ?_; focus rfl)
                | (refine Calm.pure (v := ?_) (by rfl) ?_ ?_
                   rotate_left
                   focus (intro w hSw; go_simp <;> rfl))
              simp only [Act.put, List.setIfInBounds_toArray, List.set_cons_zero, List.set_cons_succ]
            all_goals
              first
                | (refine Calm.skip ?_ ?_; focus rfl)
                | (refine Calm.pure (v := ?_) (by rfl) ?_ ?_
                   rotate_left
                   focus (intro w hSw; go_simp <;> rfl))
              simp only [Act.put, List.setIfInBounds_toArray, List.set_cons_zero, List.set_cons_succ]
            all_goals
              refine Calm.pure (v := ?_) (by rfl) ?_ ?_
              rotate_left
              focus (intro w hSw; go_simp <;> rfl)
              simp only [Act.put, List.setIfInBounds_toArray, List.set_cons_zero, List.set_cons_succ]
            all_goals
              rintro w9 ⟨_, _, _, hbel9⟩
            go_wp2_with fail
            go_ret
            exact ⟨rfl, hbel9⟩
          · have HV2 : Hid (∀ i (h : i < l.length), i < m + 1 + 1 → okb l i h = true) := fun i h hi => by
              rcases Nat.lt_or_ge i (m + 1) with h' | h'
              · exact HV.out i h h'
              · obtain rfl : i = m + 1 := by omega
                exact HO.out
            clear HV HO
            have hs : Calm.Stays (fun w' => Rw w' wr.heap.size 41 #[.string y.x, .bool y.b, .slice py y.ms.length cy] ∧ MHas w' (.slice py y.ms.length cy) y.ms ∧ w'.cell? ⟨g, o + m * 3, none⟩ = some (.string u.x) ∧ Below w.heap.size w w') := fun wa wb h hb => ⟨h.1.later hb, h.2.1.later hb, cell_later hb h.2.2.1, below_on h.2.2.2 hb⟩
            refine Calm.region (by kernel_rfl) (by kernel_rfl) (fun w' => Rw w' wr.heap.size 41 #[.string y.x, .bool y.b, .slice py y.ms.length cy] ∧ MHas w' (.slice py y.ms.length cy) y.ms ∧ w'.cell? ⟨g, o + m * 3, none⟩ = some (.string u.x) ∧ Below w.heap.size w w') ⟨R, hyk, d2, hbel.drew⟩ ?_
            all_goals
              refine Calm.loadM 41 Try.underlying41 rfl zb (by rfl) _ rfl rfl (fun _ h => Rw.whole h.1) ?_
              simp only [Act.put, List.setIfInBounds_toArray, List.set_cons_zero, List.set_cons_succ]
            all_goals
              refine Calm.call1s (by rfl) rfl rfl (by kernel_rfl) hs (fun w1 h => C1 w1 h.2.1) ?_
              simp only [Act.put, List.setIfInBounds_toArray, List.set_cons_zero, List.set_cons_succ]
            all_goals
              refine Calm.pure (v := ?_) (by rfl) ?_ ?_
              rotate_left
              focus (intro w hSw; go_simp <;> rfl)
              simp only [Act.put, List.setIfInBounds_toArray, List.set_cons_zero, List.set_cons_succ]
            all_goals
              refine Calm.pure (v := ?_) (by rfl) ?_ ?_
              rotate_left
              focus (intro w hSw; go_simp <;> rfl)
              simp only [Act.put, List.setIfInBounds_toArray, List.set_cons_zero, List.set_cons_succ]
            all_goals
              first
                | (refine Calm.skip ?_ ?_; focus rfl)
                | (refine Calm.pure (v := ?_) (by rfl) ?_ ?_
                   rotate_left
                   focus (intro w hSw; go_simp <;> rfl))
              simp only [Act.put, List.setIfInBounds_toArray, List.set_cons_zero, List.set_cons_succ]
            all_goals
              first
                | (refine Calm.skip ?_ ?_; focus rfl)
                | (refine Calm.pure (v := ?_) (by rfl) ?_ ?_
                   rotate_left
                   focus (intro w hSw; go_simp <;> rfl))
              simp only [Act.put, List.setIfInBounds_toArray, List.set_cons_zero, List.set_cons_succ]
            all_goals
              first
                | (refine Calm.skip ?_ ?_; focus rfl)
                | (refine Calm.pure (v := ?_) (by rfl) ?_ ?_
                   rotate_left
                   focus (intro w hSw; go_simp <;> rfl))
              simp only [Act.put, List.setIfInBounds_toArray, List.set_cons_zero, List.set_cons_succ]
            all_goals
              first
                | (refine Calm.skip ?_ ?_; focus rfl)
                | (refine Calm.pure (v := ?_) (by rfl) ?_ ?_
                   rotate_left
                   focus (intro w hSw; go_simp <;> rfl))
              simp only [Act.put, List.setIfInBounds_toArray, List.set_cons_zero, List.set_cons_succ]
            all_goals
              first
                | (refine Calm.skip ?_ ?_; focus rfl)
                | (refine Calm.pure (v := ?_) (by rfl) ?_ ?_
                   rotate_left
                   focus (intro w hSw; go_simp <;> rfl))
              simp only [Act.put, List.setIfInBounds_toArray, List.set_cons_zero, List.set_cons_succ]
            all_goals
              first
                | (refine Calm.skip ?_ ?_; focus rfl)
                | (refine Calm.pure (v := ?_) (by rfl) ?_ ?_
                   rotate_left
                   focus (intro w hSw; go_simp <;> rfl))
              simp only [Act.put, List.setIfInBounds_toArray, List.set_cons_zero, List.set_cons_succ]
            all_goals
              first
                | (refine Calm.skip ?_ ?_; focus rfl)
                | (refine Calm.pure (v := ?_) (by rfl) ?_ ?_
                   rotate_left
                   focus (intro w hSw; go_simp <;> rfl))
              simp only [Act.put, List.setIfInBounds_toArray, List.set_cons_zero, List.set_cons_succ]
            all_goals
              first
                | (refine Calm.skip ?_ ?_; focus rfl)
                | (refine Calm.pure (v := ?_) (by rfl) ?_ ?_
                   rotate_left
                   focus (intro w hSw; go_simp <;> rfl))
              simp only [Act.put, List.setIfInBounds_toArray, List.set_cons_zero, List.set_cons_succ]
            all_goals
              first
                | (refine Calm.skip ?_ ?_; focus rfl)
                | (refine Calm.pure (v := .string u.x) (by rfl) ?_ ?_
                   focus (intro w hSw; have g1 : w.cell? ⟨g, o + m * 3, none⟩ = some (.string u.x) := hSw.2.2.1; go_simp))
              simp only [Act.put, List.setIfInBounds_toArray, List.set_cons_zero, List.set_cons_succ]
            all_goals
              first
                | (refine Calm.skip ?_ ?_; focus rfl)
                | (refine Calm.pure (v := ?_) (by rfl) ?_ ?_
                   rotate_left
                   focus (intro w hSw; go_simp <;> rfl))
              simp only [Act.put, List.setIfInBounds_toArray, List.set_cons_zero, List.set_cons_succ]
            all_goals
              first
                | (refine Calm.skip ?_ ?_; focus rfl)
                | (refine Calm.pure (v := .string y.x) (by rfl) ?_ ?_
                   focus (intro w hSw; have g1 : w.cell? ⟨wr.heap.size, 0, none⟩ = some (.string y.x) := hSw.1.cell 0; go_simp))
              simp only [Act.put, List.setIfInBounds_toArray, List.set_cons_zero, List.set_cons_succ]
            all_goals
              first
                | (refine Calm.skip ?_ ?_; focus rfl)
                | (refine Calm.pure (v := ?_) (by rfl) ?_ ?_
                   rotate_left
                   focus (intro w hSw; go_simp <;> rfl))
              simp only [Act.put, List.setIfInBounds_toArray, List.set_cons_zero, List.set_cons_succ]
            all_goals
              first
                | (refine Calm.skip ?_ ?_; focus rfl)
                | (refine Calm.pure (v := ?_) (by rfl) ?_ ?_
                   rotate_left
                   focus (intro w hSw; go_simp <;> rfl))
              simp only [Act.put, List.setIfInBounds_toArray, List.set_cons_zero, List.set_cons_succ]
            all_goals
              refine Calm.pure (v := ?_) (by rfl) ?_ ?_
              rotate_left
              focus (intro w hSw; go_simp <;> rfl)
              simp only [Act.put, List.setIfInBounds_toArray, List.set_cons_zero, List.set_cons_succ]
            all_goals
              rintro w9 ⟨_, _, _, hbel9⟩
            go_wp2_with fail
            go_roundw
            case rel => exact ⟨m + 1 + 1, by simp, by omega, HV2, hbel9⟩
            case measure => simp [intOf]; omega
    · have hlt' : ¬ (k : Int) < (l.length : Int) := by omega
      have e := HZ.out
      rw [(cb_iff l).2 (fun i h => HV.out i h (by omega))] at e
      subst e
      clear HZ HV HR HY HL
      go_wp2_with fail
      go_ret
      exact ⟨rfl, hbel⟩
set_option maxHeartbeats 1000000 in
set_option maxRecDepth 100000 in
theorem check_any (x : X) (va vw vm ve : Value) (w : World) (h : Four w x va vw vm ve) (hs : Sm x) : Calls Try.prog 15 #[CV x.k x.b va vw vm ve] w (Tells (.bool (ck x)) w) := by
  obtain ⟨z, HZ⟩ := hid_ex (ck x)
  rw [HZ.out]
  obtain ⟨pa, ca', pw, cw, pm, cm, pe, ce, rfl, rfl, rfl, rfl⟩ := h.slices
  have HA : Hid (BHas w (.slice pm x.mb.length cm) x.mb) := h.m
  clear h
  obtain ⟨ha, ht, hm, he, _, _⟩ := hs
  have w1 : IntKind.i64.wrap ((x.am.length : Int) + (x.wr.length : Int)) = (x.am.length : Int) + (x.wr.length : Int) := by rw [IntKind.wrap_i64]; omega
  have w2 : IntKind.i64.wrap ((x.am.length : Int) + (x.wr.length : Int) + (x.el.length : Int)) = (x.am.length : Int) + (x.wr.length : Int) + (x.el.length : Int) := by rw [IntKind.wrap_i64]; omega
  have hz : Hid (z = (decide (x.k = 4) && (decide (x.b = 0) && (decide (x.am.length + x.wr.length + x.el.length = 0) && cb x.mb)))) := by
    show _ = _
    rw [← HZ.out]
    rfl
  clear HZ
  by_cases hk : x.k = 4
  · by_cases hb : x.b = 0
    · by_cases h0 : x.am.length + x.wr.length + x.el.length = 0
      · have h0' : (x.am.length : Int) + (x.wr.length : Int) + (x.el.length : Int) = 0 := by omega
        obtain rfl : z = cb x.mb := by have := hz.out; simpa [hk, hb, h0] using this
        clear hz
        go_enter Try.func15, Try.ntmps15
        go_wp2_with fail
        refine (checkMembers_any _ _ _ (HA.out.later (bel_alloc (Below.refl _ _) _))).mono ?_
        rintro e w2 ⟨rfl, hb2⟩
        go_wp2_with fail
        go_ret
        exact ⟨rfl, below_on (bel_alloc (Below.refl _ _) _) hb2⟩
      · have h0' : ¬ (x.am.length : Int) + (x.wr.length : Int) + (x.el.length : Int) = 0 := by omega
        obtain rfl : z = false := by have := hz.out; rw [decide_eq_false h0] at this; simpa using this
        clear hz h0
        go_enter Try.func15, Try.ntmps15
        go_wp2_with fail
        go_ret
        exact ⟨rfl, bel_alloc (Below.refl _ _) _⟩
    · obtain rfl : z = false := by have := hz.out; rw [decide_eq_false hb] at this; simpa using this
      clear hz
      go_enter Try.func15, Try.ntmps15
      go_wp2_with fail
      go_ret
      exact ⟨rfl, bel_alloc (Below.refl _ _) _⟩
  · obtain rfl : z = false := by have := hz.out; rw [decide_eq_false hk] at this; simpa using this
    clear hz
    go_enter Try.func15, Try.ntmps15
    go_wp2_with fail
    go_ret
    exact ⟨rfl, bel_alloc (Below.refl _ _) _⟩
end Go.Proofs.Ythekfmodafmlgaa
