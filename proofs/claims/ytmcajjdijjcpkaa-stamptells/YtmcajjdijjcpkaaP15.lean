import Derived.Test.YtmcajjdijjcpkaaP3
import Derived.Test.YtmcajjdijjcpkaaP14
import Derived.Test.YtmcajjdijjcpkaaP10
import Derived.Test.YtmcajjdijjcpkaaP5
import Derived.BigRegion
import Derived.Deep.AppendLies
import Derived.OwnWalk
import Derived.Lib.LazyBuf
/- A region that draws its order up to some operation, and goes on in the text's order from there: facts of the first ones, then a plain walk. Nothing of one program. -/
namespace Go.Proofs.Ytmcajjdijjcpkaa.Facts
open Go.RowKit

section
variable {P : Program} {Q : Exit → Act → World → Prop} {l : List Oper}
/-- What an operation waits for. -/
def deps (md : Region.Mode) (l : List Oper) (k : Nat) : List Nat := match l[k]? with
  | some o => (o.after.toList.filter fun e => Region.binds md e).map (·.on)
  | none => []
/-- And what that waits for, and so on. -/
def grow (md : Region.Mode) (l : List Oper) : Nat → List Nat → List Nat
  | 0, R => R
  | k + 1, R => grow md l k (if R.contains k then R ++ deps md l k else R)
theorem grow_spec {md : Region.Mode} {L : Nat → Bool} (hc : ∀ i o, l[i]? = some o → L i = true → ∀ e ∈ o.after, Region.binds md e = true → L e.on = true) :
    ∀ (k : Nat) (R : List Nat), (∀ i ∈ R, L i = true) → ∀ i ∈ grow md l k R, L i = true
  | 0, _, h => h
  | k + 1, R, h => by
    refine grow_spec hc k _ ?_
    split
    · rename_i hk
      intro i hi
      rcases List.mem_append.1 hi with h1 | h1
      · exact h i h1
      · unfold deps at h1
        cases e : l[k]? with
        | none => simp [e] at h1
        | some o =>
          simp only [e, List.mem_map, List.mem_filter, Array.mem_toList_iff] at h1
          obtain ⟨x, ⟨hx, hb⟩, rfl⟩ := h1
          exact hc k o e (h k (by simpa using hk)) x hx hb
    · exact h
/-- From k on each waits for all ahead of it. -/
def tailB (md : Region.Mode) (l : List Oper) (k : Nat) : Bool := (List.range l.length).all fun j => decide (j < k) || (List.range j).all fun i => (grow md l j (deps md l j)).contains i
theorem tailB_spec {md : Region.Mode} {k : Nat} (h : tailB md l k = true) {L : Nat → Bool} (hc : ∀ i o, l[i]? = some o → L i = true → ∀ e ∈ o.after, Region.binds md e = true → L e.on = true)
    {j : Nat} {o : Oper} (ho : l[j]? = some o) (hkj : k ≤ j) (hd : ∀ e ∈ o.after, Region.binds md e = true → L e.on = true) (i : Nat) (hi : i < j) : L i = true := by
  have hj : j < l.length := (List.getElem?_eq_some_iff.1 ho).1
  have h1 := List.all_eq_true.1 h j (by simpa using hj)
  have h2 : ¬ j < k := by omega
  simp only [h2, decide_false, Bool.false_or] at h1
  have h3 := List.all_eq_true.1 h1 i (by simpa using hi)
  refine grow_spec hc j _ ?_ i (by simpa using h3)
  intro x hx
  unfold deps at hx
  simp only [ho, List.mem_map, List.mem_filter, Array.mem_toList_iff] at hx
  obtain ⟨e, ⟨he, hb⟩, rfl⟩ := hx
  exact hd e he hb
/-- The walk of the last ones. -/
def tailWp (P : Program) (Q : Exit → Act → World → Prop) : List Oper → Act → World → Prop
  | [], a, w => Q .normal a w
  | o :: r, a, w => o.wp P a w (fun a' w' => tailWp P Q r a' w') Q

theorem tailWp_nil {a : Act} {w : World} (h : Q .normal a w) : tailWp P Q [] a w := h

theorem regionTail {id : Nat} {a : Act} {w : World} (hm : P.follows .mixedOrders = true) (hd : Owed.downB .any l = true) (k : Nat) (hk : k < l.length) (ht : tailB .any l k = true)
    (S : World → Prop) (A : (Nat → Value) → Act) (F : List Fact) (D : List (List Nat)) (hD : F.map (·.1) = D) (hDl : D.length = k) (hl : nearB .any l D = true)
    (x0 : Nat → Value) (hA : a = A x0) (h0 : S w.drew) (hstep : Owed.each (fun i o => i < k → StepOk P .any Q S A F i o) 0 l)
    (hend : ∀ x w', S w' → (∀ (i : Nat) (f : Fact), F[i]? = some f → holds f x w') → tailWp P Q (l.drop k) (A x) w') : (Code.region id l.toArray true).wp P Q a w := by
  have hFl : F.length = k := by rw [← hDl, ← hD, List.length_map]
  have cl : ∀ L L' : Nat → Bool, (∀ i, i < l.length → L i = L' i) → (∀ i o, l[i]? = some o → L i = true → ∀ e ∈ o.after, Region.binds .any e = true → L e.on = true) → (∀ i o, l[i]? = some o → L' i = true → ∀ e ∈ o.after, Region.binds .any e = true → L' e.on = true) := by
    intro L L' hL hc i o hi hLi e he hb
    have hilt : i < l.length := (List.getElem?_eq_some_iff.1 hi).1
    have := (Owed.downB_spec hd hi).2 e he hb
    rw [← hL e.on (by omega)]
    exact hc i o hi ((hL i hilt).trans hLi) e he hb
  refine Owed.region hm hd (fun L a w => (∃ m, k < m ∧ m ≤ l.length ∧ (∀ i, i < l.length → (L i = true ↔ i < m)) ∧ (∀ i o, l[i]? = some o → L i = true → ∀ e ∈ o.after, Region.binds .any e = true → L e.on = true) ∧ tailWp P Q (l.drop m) a w) ∨ ((∀ i, i < l.length → k ≤ i → L i = false) ∧ Inv .any l S A F L a w)) ?_ ?_ (each_imp l 0 hstep ?_) ?_
  · rintro L L' a w hL (⟨m, h1, h2, h3, hc, h4⟩ | ⟨h1, hS, hc, x, hx, hf⟩)
    · exact .inl ⟨m, h1, h2, fun i hi => by rw [← hL i hi]; exact h3 i hi, cl L L' hL hc, h4⟩
    · exact .inr ⟨fun i hi hki => by rw [← hL i hi]; exact h1 i hi hki, hS, cl L L' hL hc, x, hx, fun i f hi hfi hLi => hf i f hi hfi ((hL i hi).trans hLi)⟩
  · intro L hL
    refine .inr ⟨fun i hi _ => hL i hi, h0, fun i o hi hLi => ?_, x0, hA, fun i f hi _ hLi => ?_⟩
    · rw [hL i (List.getElem?_eq_some_iff.1 hi).1] at hLi; cases hLi
    · rw [hL i hi] at hLi; cases hLi
  · intro i o' hi hok
    rw [Nat.zero_add] at hok ⊢
    have hilt : i < l.length := (List.getElem?_eq_some_iff.1 hi).1
    have clu : ∀ L : Nat → Bool, (∀ e ∈ o'.after, Region.binds .any e = true → L e.on = true) → (∀ i o, l[i]? = some o → L i = true → ∀ e ∈ o.after, Region.binds .any e = true → L e.on = true) → (∀ j o, l[j]? = some o → Owed.upd L i j = true → ∀ e ∈ o.after, Region.binds .any e = true → Owed.upd L i e.on = true) := by
      intro L hdep hc j o2 hj hLj e he hb
      by_cases e1 : j = i
      · subst e1
        obtain rfl : o' = o2 := by rw [hi] at hj; exact Option.some.inj hj
        have := hdep e he hb
        unfold Owed.upd
        simp [this]
      · rw [Owed.upd_ne L e1] at hLj
        have := hc j o2 hj hLj e he hb
        unfold Owed.upd
        simp [this]
    rintro L a w (⟨m, h1, h2, h3, hc, h4⟩ | ⟨h1, hS, hc, x, rfl, hf⟩) hLi hdep
    · have hmi : ¬ i < m := fun h => by rw [(h3 i hilt).2 h] at hLi; cases hLi
      have all := tailB_spec ht hc hi (by omega) hdep
      have him : i = m := by
        rcases Nat.lt_or_ge m i with h | h
        · have := (h3 m (by omega)).1 (all m h)
          omega
        · omega
      subst him
      have hdr : l.drop i = o' :: l.drop (i + 1) := by
        rw [List.drop_eq_getElem_cons hilt]
        congr 1
        rw [List.getElem?_eq_getElem hilt] at hi
        exact Option.some.inj hi
      rw [hdr, tailWp] at h4
      refine Oper.wp_mono (fun a' w' h => .inl ⟨i + 1, by omega, by omega, fun j hj => ?_, clu L hdep hc, h⟩) h4
      by_cases e : j = i
      · subst e
        simp [Owed.upd_self]
      · rw [Owed.upd_ne L e, h3 j hj]
        omega
    · by_cases hik : k ≤ i
      · have all := tailB_spec ht hc hi hik hdep
        have him : i = k := by
          rcases Nat.lt_or_ge k i with h | h
          · have := all k h
            rw [h1 k hk (Nat.le_refl _)] at this
            cases this
          · omega
        subst him
        have hdr : l.drop i = o' :: l.drop (i + 1) := by
          rw [List.drop_eq_getElem_cons hilt]
          congr 1
          rw [List.getElem?_eq_getElem hilt] at hi
          exact Option.some.inj hi
        have h4 := hend x w hS fun j f hfj => hf j f (by have := (List.getElem?_eq_some_iff.1 hfj).1; omega) hfj (all j (by have := (List.getElem?_eq_some_iff.1 hfj).1; omega))
        rw [hdr, tailWp] at h4
        refine Oper.wp_mono (fun a' w' h => .inl ⟨i + 1, by omega, by omega, fun j hj => ?_, clu L hdep hc, h⟩) h4
        by_cases e : j = i
        · subst e
          simp [Owed.upd_self]
        · rw [Owed.upd_ne L e]
          constructor
          · intro hLj
            rcases Nat.lt_or_ge j i with h | h
            · omega
            · rw [h1 j hj h] at hLj; cases hLj
          · intro h
            exact all j (by omega)
      · have hstep' := hok (by omega)
        have hdown := (Owed.downB_spec hd hi).2
        refine Oper.wp_mono (fun a' w' h => ?_) (hstep' x w hS (fun e he hb f hfe => hf e.on f (by have := hdown e he hb; omega) hfe (hdep e he hb)))
        obtain ⟨u, rfl, hS', hfi, hoth⟩ := h
        refine .inr ⟨fun j hj hkj => by rw [Owed.upd_ne L (by omega)]; exact h1 j hj hkj, hS', clu L hdep hc, put x i u, rfl, fun j f hj hfj hLj => ?_⟩
        by_cases e1 : j = i
        · subst e1; exact hfi f hfj
        · rw [Owed.upd_ne L e1] at hLj
          have h1' := hoth j f e1 hfj (hf j f hj hfj hLj)
          have e2 : f.1.map (put x i u) = f.1.map x := by
            apply List.map_congr_left
            intro k hk
            have hj' : l[j]? = some l[j] := List.getElem?_eq_getElem hj
            have hki : k ≠ i := by
              rcases nearB_spec hl hj' (by rw [← hD, List.getElem?_map, hfj]; rfl) hk with rfl | ⟨e, he, rfl, hb⟩
              · exact e1
              · intro h2
                have := hc j _ hj' hLj e he hb
                rw [h2, hLi] at this; cases this
            simp [put, hki]
          unfold holds at *
          rw [e2]
          exact h1'
  · rintro L a w hL (⟨m, h1, h2, h3, _, h4⟩ | ⟨h1, _⟩)
    · have : m = l.length := by
        rcases Nat.lt_or_ge m l.length with h | h
        · have := (h3 m h).1 (hL m h)
          omega
        · omega
      subst this
      rw [List.drop_length] at h4
      exact h4
    · have := h1 k hk (Nat.le_refl _)
      rw [hL k hk] at this
      cases this
/-- What an operation is asked for, where the values of two are in a relation. -/
def StepR (P : Program) (md : Region.Mode) (Q : Exit → Act → World → Prop) (S : World → Prop) (A : (Nat → Value) → Act) (F : List Fact) (R : Nat → Nat → Value → Value → Prop) (i : Nat) (o : Oper) : Prop :=
  ∀ x w, S w → (∀ e ∈ o.after, Region.binds md e = true → ∀ f, F[e.on]? = some f → holds f x w) →
    o.wp P (A x) w (fun a' w' => ∃ u, a' = A (put x i u) ∧ S w' ∧ (∀ f, F[i]? = some f → holds f (put x i u) w') ∧ (∀ j f, j ≠ i → F[j]? = some f → holds f x w → holds f x w') ∧ (∀ j f, j ≠ i → F[j]? = some f → holds f x w → R i j u (x j))) Q
def InvR (md : Region.Mode) (l : List Oper) (S : World → Prop) (A : (Nat → Value) → Act) (F : List Fact) (R : Nat → Nat → Value → Value → Prop) (L : Nat → Bool) (a : Act) (w : World) : Prop :=
  S w ∧ (∀ i o, l[i]? = some o → L i = true → ∀ e ∈ o.after, Region.binds md e = true → L e.on = true) ∧ ∃ x, a = A x ∧ (∀ i f, i < l.length → F[i]? = some f → L i = true → holds f x w) ∧ ∀ i j, i < l.length → j < l.length → i ≠ j → L i = true → L j = true → R i j (x i) (x j)
theorem StepR.of {md : Region.Mode} {S : World → Prop} {A : (Nat → Value) → Act} {F : List Fact} {R : Nat → Nat → Value → Value → Prop} {i : Nat} {o : Oper} (hR : ∀ j u v, R i j u v) (h : StepOk P md Q S A F i o) : StepR P md Q S A F R i o := fun x w hS hd =>
  Oper.wp_mono (fun _ _ ⟨u, h1, h2, h3, h4⟩ => ⟨u, h1, h2, h3, h4, fun j _ _ _ _ => hR j u _⟩) (h x w hS hd)
theorem regionTailR {id : Nat} {a : Act} {w : World} (hm : P.follows .mixedOrders = true) (hd : Owed.downB .any l = true) (k : Nat) (hk : k < l.length) (ht : tailB .any l k = true)
    (S : World → Prop) (A : (Nat → Value) → Act) (F : List Fact) (R : Nat → Nat → Value → Value → Prop) (hR : ∀ i j u v, R i j u v → R j i v u) (D : List (List Nat)) (hD : F.map (·.1) = D) (hDl : D.length = k) (hl : nearB .any l D = true)
    (x0 : Nat → Value) (hA : a = A x0) (h0 : S w.drew) (hstep : Owed.each (fun i o => i < k → StepR P .any Q S A F R i o) 0 l)
    (hend : ∀ x w', S w' → (∀ (i : Nat) (f : Fact), F[i]? = some f → holds f x w') → (∀ i j, i < k → j < k → i ≠ j → R i j (x i) (x j)) → tailWp P Q (l.drop k) (A x) w') : (Code.region id l.toArray true).wp P Q a w := by
  have hFl : F.length = k := by rw [← hDl, ← hD, List.length_map]
  have cl : ∀ L L' : Nat → Bool, (∀ i, i < l.length → L i = L' i) → (∀ i o, l[i]? = some o → L i = true → ∀ e ∈ o.after, Region.binds .any e = true → L e.on = true) → (∀ i o, l[i]? = some o → L' i = true → ∀ e ∈ o.after, Region.binds .any e = true → L' e.on = true) := by
    intro L L' hL hc i o hi hLi e he hb
    have hilt : i < l.length := (List.getElem?_eq_some_iff.1 hi).1
    have := (Owed.downB_spec hd hi).2 e he hb
    rw [← hL e.on (by omega)]
    exact hc i o hi ((hL i hilt).trans hLi) e he hb
  refine Owed.region hm hd (fun L a w => (∃ m, k < m ∧ m ≤ l.length ∧ (∀ i, i < l.length → (L i = true ↔ i < m)) ∧ (∀ i o, l[i]? = some o → L i = true → ∀ e ∈ o.after, Region.binds .any e = true → L e.on = true) ∧ tailWp P Q (l.drop m) a w) ∨ ((∀ i, i < l.length → k ≤ i → L i = false) ∧ InvR .any l S A F R L a w)) ?_ ?_ (each_imp l 0 hstep ?_) ?_
  · rintro L L' a w hL (⟨m, h1, h2, h3, hc, h4⟩ | ⟨h1, hS, hc, x, hx, hf, hrel⟩)
    · exact .inl ⟨m, h1, h2, fun i hi => by rw [← hL i hi]; exact h3 i hi, cl L L' hL hc, h4⟩
    · exact .inr ⟨fun i hi hki => by rw [← hL i hi]; exact h1 i hi hki, hS, cl L L' hL hc, x, hx, fun i f hi hfi hLi => hf i f hi hfi ((hL i hi).trans hLi), fun i j hi hj hij hLi hLj => hrel i j hi hj hij ((hL i hi).trans hLi) ((hL j hj).trans hLj)⟩
  · intro L hL
    refine .inr ⟨fun i hi _ => hL i hi, h0, fun i o hi hLi => ?_, x0, hA, fun i f hi _ hLi => ?_, fun i j hi _ _ hLi => ?_⟩
    · rw [hL i (List.getElem?_eq_some_iff.1 hi).1] at hLi; cases hLi
    · rw [hL i hi] at hLi; cases hLi
    · rw [hL i hi] at hLi; cases hLi
  · intro i o' hi hok
    rw [Nat.zero_add] at hok ⊢
    have hilt : i < l.length := (List.getElem?_eq_some_iff.1 hi).1
    have clu : ∀ L : Nat → Bool, (∀ e ∈ o'.after, Region.binds .any e = true → L e.on = true) → (∀ i o, l[i]? = some o → L i = true → ∀ e ∈ o.after, Region.binds .any e = true → L e.on = true) → (∀ j o, l[j]? = some o → Owed.upd L i j = true → ∀ e ∈ o.after, Region.binds .any e = true → Owed.upd L i e.on = true) := by
      intro L hdep hc j o2 hj hLj e he hb
      by_cases e1 : j = i
      · subst e1
        obtain rfl : o' = o2 := by rw [hi] at hj; exact Option.some.inj hj
        have := hdep e he hb
        unfold Owed.upd
        simp [this]
      · rw [Owed.upd_ne L e1] at hLj
        have := hc j o2 hj hLj e he hb
        unfold Owed.upd
        simp [this]
    rintro L a w (⟨m, h1, h2, h3, hc, h4⟩ | ⟨h1, hS, hc, x, rfl, hf, hrel⟩) hLi hdep
    · have hmi : ¬ i < m := fun h => by rw [(h3 i hilt).2 h] at hLi; cases hLi
      have all := tailB_spec ht hc hi (by omega) hdep
      have him : i = m := by
        rcases Nat.lt_or_ge m i with h | h
        · have := (h3 m (by omega)).1 (all m h)
          omega
        · omega
      subst him
      have hdr : l.drop i = o' :: l.drop (i + 1) := by
        rw [List.drop_eq_getElem_cons hilt]
        congr 1
        rw [List.getElem?_eq_getElem hilt] at hi
        exact Option.some.inj hi
      rw [hdr, tailWp] at h4
      refine Oper.wp_mono (fun a' w' h => .inl ⟨i + 1, by omega, by omega, fun j hj => ?_, clu L hdep hc, h⟩) h4
      by_cases e : j = i
      · subst e
        simp [Owed.upd_self]
      · rw [Owed.upd_ne L e, h3 j hj]
        omega
    · by_cases hik : k ≤ i
      · have all := tailB_spec ht hc hi hik hdep
        have him : i = k := by
          rcases Nat.lt_or_ge k i with h | h
          · have := all k h
            rw [h1 k hk (Nat.le_refl _)] at this
            cases this
          · omega
        subst him
        have hdr : l.drop i = o' :: l.drop (i + 1) := by
          rw [List.drop_eq_getElem_cons hilt]
          congr 1
          rw [List.getElem?_eq_getElem hilt] at hi
          exact Option.some.inj hi
        have h4 := hend x w hS (fun j f hfj => hf j f (by have := (List.getElem?_eq_some_iff.1 hfj).1; omega) hfj (all j (by have := (List.getElem?_eq_some_iff.1 hfj).1; omega))) fun j j2 hj hj2 hne => hrel j j2 (by omega) (by omega) hne (all j hj) (all j2 hj2)
        rw [hdr, tailWp] at h4
        refine Oper.wp_mono (fun a' w' h => .inl ⟨i + 1, by omega, by omega, fun j hj => ?_, clu L hdep hc, h⟩) h4
        by_cases e : j = i
        · subst e
          simp [Owed.upd_self]
        · rw [Owed.upd_ne L e]
          constructor
          · intro hLj
            rcases Nat.lt_or_ge j i with h | h
            · omega
            · rw [h1 j hj h] at hLj; cases hLj
          · intro h
            exact all j (by omega)
      · have hstep' := hok (by omega)
        have hdown := (Owed.downB_spec hd hi).2
        refine Oper.wp_mono (fun a' w' h => ?_) (hstep' x w hS (fun e he hb f hfe => hf e.on f (by have := hdown e he hb; omega) hfe (hdep e he hb)))
        obtain ⟨u, rfl, hS', hfi, hoth, hrl⟩ := h
        refine .inr ⟨fun j hj hkj => by rw [Owed.upd_ne L (by omega)]; exact h1 j hj hkj, hS', clu L hdep hc, put x i u, rfl, fun j f hj hfj hLj => ?_, fun j j2 hj hj2 hne hLj hLj2 => ?_⟩
        rotate_left
        · have get : ∀ j, j < l.length → Owed.upd L i j = true → j ≠ i → L j = true ∧ ∃ f, F[j]? = some f := fun j hj hLj hne => by
            rw [Owed.upd_ne L hne] at hLj
            have hjk : j < k := by
              rcases Nat.lt_or_ge j k with h | h
              · exact h
              · rw [h1 j hj h] at hLj; cases hLj
            exact ⟨hLj, F[j]'(by omega), List.getElem?_eq_getElem _⟩
          by_cases e1 : j = i
          · subst e1
            obtain ⟨hL2, f, hf2⟩ := get j2 hj2 hLj2 (Ne.symm hne)
            have := hrl j2 f (Ne.symm hne) hf2 (hf j2 f hj2 hf2 hL2)
            simpa [put, Ne.symm hne] using this
          · by_cases e2 : j2 = i
            · subst e2
              obtain ⟨hL1, f, hf1⟩ := get j hj hLj e1
              have := hR _ _ _ _ (hrl j f e1 hf1 (hf j f hj hf1 hL1))
              simpa [put, e1] using this
            · have := hrel j j2 hj hj2 hne (get j hj hLj e1).1 (get j2 hj2 hLj2 e2).1
              simpa [put, e1, e2] using this
        by_cases e1 : j = i
        · subst e1; exact hfi f hfj
        · rw [Owed.upd_ne L e1] at hLj
          have h1' := hoth j f e1 hfj (hf j f hj hfj hLj)
          have e2 : f.1.map (put x i u) = f.1.map x := by
            apply List.map_congr_left
            intro k hk
            have hj' : l[j]? = some l[j] := List.getElem?_eq_getElem hj
            have hki : k ≠ i := by
              rcases nearB_spec hl hj' (by rw [← hD, List.getElem?_map, hfj]; rfl) hk with rfl | ⟨e, he, rfl, hb⟩
              · exact e1
              · intro h2
                have := hc j _ hj' hLj e he hb
                rw [h2, hLi] at this; cases this
            simp [put, hki]
          unfold holds at *
          rw [e2]
          exact h1'
  · rintro L a w hL (⟨m, h1, h2, h3, _, h4⟩ | ⟨h1, _⟩)
    · have : m = l.length := by
        rcases Nat.lt_or_ge m l.length with h | h
        · have := (h3 m h).1 (hL m h)
          omega
        · omega
      subst this
      rw [List.drop_length] at h4
      exact h4
    · have := h1 k hk (Nat.le_refl _)
      rw [hL k hk] at this
      cases this
end
end Go.Proofs.Ytmcajjdijjcpkaa.Facts
/- Facts of operations that load stamps and growths, make boxes and call, in a region that draws its order; the last operations' own steps. -/
namespace Go.Proofs.Ytmcajjdijjcpkaa
open Go.RowKit
open Idn (ID)

section
variable {Q : Exit → Act → World → Prop} {S : World → Prop} {md : Region.Mode} {A : (Nat → Value) → Act} {F : List Facts.Fact} {i : Nat} {o : Oper}
theorem Facts.loadR (hS : Calm.Stays S) (hF : Facts.Stay F) (hA : ∀ x u, (A x).put o.dst u = A (Facts.put x i u)) (t : TypeId) (u : Operand) (ho : o.op = .load t u) {cs : Array Value} (hf : F[i]? = some (eqF i (.agg cs))) {b : Nat} {d : TypeDesc}
    (hx : ∀ x w, S w → (∀ e ∈ o.after, Region.binds md e = true → ∀ f, F[e.on]? = some f → Facts.holds f x w) → (A x).eval u = .pointer (some ⟨b, 0, none⟩)) (hc : ∀ w, S w → Rw w b t cs) (hd : d.isRow = true) (hu : Try.prog.underlying t = some d) (hi : (Try.prog.info? t).map (·.size) = some cs.size) : Facts.StepOk Try.prog md Q S A F i o :=
  Facts.pure hS hF hA hf fun x w hSw hdep => by
    have h1 := hx x w hSw hdep
    have h2 := (hc w hSw).loadAt hd hu hi
    generalize (A x).eval = ρ at h1
    unfold execOp
    simp only [ho, h1, Sem.run_bind, h2, Result.andThen_ok, Sem.run_pure]
theorem Facts.loadR26 (hS : Calm.Stays S) (hF : Facts.Stay F) (hA : ∀ x u, (A x).put o.dst u = A (Facts.put x i u)) (u : Operand) (ho : o.op = .load 26 u) {n : Int} {p : Option Addr} {l c : Nat} {n' : Int} {p' : Option Addr} {l' c' : Nat} (hf : F[i]? = some (eqF i (SV n p l c n' p' l' c'))) {b : Nat}
    (hx : ∀ x w, S w → (∀ e ∈ o.after, Region.binds md e = true → ∀ f, F[e.on]? = some f → Facts.holds f x w) → (A x).eval u = .pointer (some ⟨b, 0, none⟩)) (hc : ∀ w, S w → Sx w b n p l c n' p' l' c') : Facts.StepOk Try.prog md Q S A F i o :=
  Facts.loadR hS hF hA 26 u ho hf hx hc rfl Try.underlying26 size26
theorem Facts.loadR61 (hS : Calm.Stays S) (hF : Facts.Stay F) (hA : ∀ x u, (A x).put o.dst u = A (Facts.put x i u)) (u : Operand) (ho : o.op = .load 60 u) {n : Int} {p : Option Addr} {l c : Nat} {n' : Int} {p' : Option Addr} {l' c' : Nat} (hf : F[i]? = some (eqF i (WV n p l c n' p' l' c'))) {b : Nat}
    (hx : ∀ x w, S w → (∀ e ∈ o.after, Region.binds md e = true → ∀ f, F[e.on]? = some f → Facts.holds f x w) → (A x).eval u = .pointer (some ⟨b, 0, none⟩)) (hc : ∀ w, S w → Wx w b n p l c n' p' l' c') : Facts.StepOk Try.prog md Q S A F i o :=
  Facts.loadR hS hF hA 60 u ho hf hx hc rfl Try.underlying60 size60
theorem Facts.call1F (hS : Calm.Stays S) (hF : Facts.Stay F) (hA : ∀ x u, (A x).put o.dst u = A (Facts.put x i u)) {fn : FuncId} {ts : Array TypeId} {u : Operand} (ho : o.op = .call { callee := .value (.func fn), args := #[u], argTypes := ts }) (hf : Calm.enters Try.prog fn = true) {f : Facts.Fact} (hz : F[i]? = some f)
    (h : ∀ x w, S w → (∀ e ∈ o.after, Region.binds md e = true → ∀ f, F[e.on]? = some f → Facts.holds f x w) → Calls Try.prog fn #[(A x).eval u] w fun e w' => ∃ v, e = .returned v ∧ Below w.heap.size w w' ∧ Facts.holds f (Facts.put x i v) w') : Facts.StepOk Try.prog md Q S A F i o :=
  Facts.call (f := fn) hS hF hA fun x w hSw hdep => ⟨#[(A x).eval u], by
    have e : ∀ args, (callFunc fn args).run Try.prog w = .ok (.enter fn args) w := fun args => Calm.enters_run hf args w
    unfold execOp
    simp [ho, go_sem, Act.eval, e], (h x w hSw hdep).mono fun e w' ⟨v, he, hb, hh⟩ => ⟨v, he, hb, fun f' hf' => by
      rw [hz] at hf'
      obtain rfl := Option.some.inj hf'
      exact hh⟩⟩
theorem Facts.call2F (hS : Calm.Stays S) (hF : Facts.Stay F) (hA : ∀ x u, (A x).put o.dst u = A (Facts.put x i u)) {fn : FuncId} {ts : Array TypeId} {u u' : Operand} (ho : o.op = .call { callee := .value (.func fn), args := #[u, u'], argTypes := ts }) (hf : Calm.enters Try.prog fn = true) {f : Facts.Fact} (hz : F[i]? = some f)
    (h : ∀ x w, S w → (∀ e ∈ o.after, Region.binds md e = true → ∀ f, F[e.on]? = some f → Facts.holds f x w) → Calls Try.prog fn #[(A x).eval u, (A x).eval u'] w fun e w' => ∃ v, e = .returned v ∧ Below w.heap.size w w' ∧ Facts.holds f (Facts.put x i v) w') : Facts.StepOk Try.prog md Q S A F i o :=
  Facts.call (f := fn) hS hF hA fun x w hSw hdep => ⟨#[(A x).eval u, (A x).eval u'], by
    have e : ∀ args, (callFunc fn args).run Try.prog w = .ok (.enter fn args) w := fun args => Calm.enters_run hf args w
    unfold execOp
    simp [ho, go_sem, Act.eval, e], (h x w hSw hdep).mono fun e w' ⟨v, he, hb, hh⟩ => ⟨v, he, hb, fun f' hf' => by
      rw [hz] at hf'
      obtain rfl := Option.some.inj hf'
      exact hh⟩⟩
theorem Facts.call3F (hS : Calm.Stays S) (hF : Facts.Stay F) (hA : ∀ x u, (A x).put o.dst u = A (Facts.put x i u)) {fn : FuncId} {ts : Array TypeId} {u u' u'' : Operand} (ho : o.op = .call { callee := .value (.func fn), args := #[u, u', u''], argTypes := ts }) (hf : Calm.enters Try.prog fn = true) {f : Facts.Fact} (hz : F[i]? = some f)
    (h : ∀ x w, S w → (∀ e ∈ o.after, Region.binds md e = true → ∀ f, F[e.on]? = some f → Facts.holds f x w) → Calls Try.prog fn #[(A x).eval u, (A x).eval u', (A x).eval u''] w fun e w' => ∃ v, e = .returned v ∧ Below w.heap.size w w' ∧ Facts.holds f (Facts.put x i v) w') : Facts.StepOk Try.prog md Q S A F i o :=
  Facts.call (f := fn) hS hF hA fun x w hSw hdep => ⟨#[(A x).eval u, (A x).eval u', (A x).eval u''], by
    have e : ∀ args, (callFunc fn args).run Try.prog w = .ok (.enter fn args) w := fun args => Calm.enters_run hf args w
    unfold execOp
    simp [ho, go_sem, Act.eval, e], (h x w hSw hdep).mono fun e w' ⟨v, he, hb, hh⟩ => ⟨v, he, hb, fun f' hf' => by
      rw [hz] at hf'
      obtain rfl := Option.some.inj hf'
      exact hh⟩⟩
/-- A new row. -/
def alR (i N : Nat) (t : TypeId) (cs : Array Value) : Facts.Fact := ([i], fun vs w => ∃ q, vs = [.pointer (some ⟨q, 0, none⟩)] ∧ N ≤ q ∧ Rw w q t cs)
theorem alR_get {N : Nat} {t : TypeId} {cs : Array Value} {x : Nat → Value} {w : World} (h : Facts.holds (alR i N t cs) x w) : ∃ q, x i = .pointer (some ⟨q, 0, none⟩) ∧ N ≤ q ∧ Rw w q t cs := by simpa [Facts.holds, alR] using h
theorem alR_stays (i N : Nat) (t : TypeId) (cs : Array Value) : staysF (alR i N t cs) := fun _ _ _ ⟨q, e, hN, h⟩ hb => ⟨q, e, hN, h.later hb⟩
theorem Facts.allocR {al : List Nat} (hS : Calm.Stays S) (hF : Facts.Stay F) (hA : ∀ x u, (A x).put o.dst u = A (Facts.put x i u)) (t : TypeId) (_ho : o.op = .alloc t) {N : Nat} {cs : Array Value} (hz : F[i]? = some (alR i N t cs)) (hN : ∀ w, S w → N ≤ w.heap.size)
    (hr : ∀ ρ w, (execOp ρ o).run Try.prog w = .ok (.value (.pointer (some ⟨w.heap.size, 0, none⟩))) (w.alloc (.cells cs t))) (hal : ∀ (j : Nat) (f : Facts.Fact), F[j]? = some f → j ∈ al → ∃ N t cs, f = alR j N t cs) : Facts.StepR Try.prog md Q S A F (NotOne al) i o := fun x w hSw hdep => by
  have hb : Below w.heap.size w (w.alloc (.cells cs t)) := (Below.refl _ _).alloc (Nat.le_refl _) _
  unfold Oper.wp
  rw [hr]
  refine ⟨_, hA x _, hS _ _ hSw hb, fun f hf' => ?_, fun j f _ hj hh => hF j f hj _ _ _ hh hb, fun j f _ hj hh _ hjal => ?_⟩
  · rw [hz] at hf'
    obtain rfl := Option.some.inj hf'
    exact ⟨w.heap.size, by simp [Facts.put, alR], hN w hSw, rw_new w t cs⟩
  · obtain ⟨N', t', cs', rfl⟩ := hal j f hj hjal
    obtain ⟨q, e, _, hq⟩ := alR_get hh
    rw [e]
    have := hq.lt
    intro h
    simp only [Value.pointer.injEq, Option.some.injEq, Addr.mk.injEq] at h
    omega
/-- A growth whose tree is x. -/
def gwF (i : Nat) (g : Gw) : Facts.Fact := ([i], fun vs w => ∃ n p l c, vs = [GV n p l c g.cost g.count] ∧ Is w g.ev (TV n p l c))
theorem gwF_get {g : Gw} {x : Nat → Value} {w : World} (h : Facts.holds (gwF i g) x w) : ∃ n p l c, x i = GV n p l c g.cost g.count ∧ Is w g.ev (TV n p l c) := by simpa [Facts.holds, gwF] using h
theorem gwF_stays (i : Nat) (g : Gw) : staysF (gwF i g) := fun _ _ _ ⟨n, p, l, c, e, h⟩ hb => ⟨n, p, l, c, e, h.later hb⟩
theorem gwF_put {g : Gw} {x : Nat → Value} {w : World} {n : Int} {p : Option Addr} {l c : Nat} (h : Is w g.ev (TV n p l c)) : Facts.holds (gwF i g) (Facts.put x i (GV n p l c g.cost g.count)) w := ⟨n, p, l, c, by simp [Facts.put, gwF], h⟩
end
/-- The call answers a growth. -/
abbrev GivesG (g : Gw) (w : World) (e : Ending) (w' : World) : Prop := ∃ n p l c, e = .returned (GV n p l c g.cost g.count) ∧ Is w' g.ev (TV n p l c) ∧ Below w.heap.size w w'
section
variable {op : Oper} {a : Act} {w : World} {K : Act → World → Prop} {Q : Exit → Act → World → Prop}
theorem wp_store_r (t : TypeId) (x y : Operand) (ho : op.op = .store t x y) (b : Nat) (cs' : Array Value) (hx : a.eval x = .pointer (some ⟨b, 0, none⟩)) (hy : a.eval y = .agg cs') {cs : Array Value} (hc : Rw w b t cs) (hi : (Try.prog.info? t).map (·.size) = some cs'.size) (hs : cs.size = cs'.size) (h1 : cs'.all (·.oneCell') = true)
    (h : K (a.put op.dst undef) (w.setRow b cs')) : op.wp Try.prog a w K Q := by
  unfold Oper.wp execOp
  simp only [ho, hx, hy, Sem.run_bind, hc.store cs' hi hs h1, Result.andThen_ok, Sem.run_pure]
  exact h
theorem wp_assign (x : Operand) (ho : op.op = .assign x) (h : K (a.put op.dst (a.eval x)) w) : op.wp Try.prog a w K Q := by
  unfold Oper.wp execOp
  simp only [ho, Sem.run_pure]
  exact h
end
theorem alloc24 {o : Oper} (ho : o.op = .alloc 24) (ρ : Operand → Value) (w : World) : (execOp ρ o).run Try.prog w = .ok (.value (.pointer (some ⟨w.heap.size, 0, none⟩))) (w.alloc (.cells #[.int .i64 0, .slice none 0 0] 24)) := by
  unfold execOp
  simp [ho, go_sem]
theorem alloc78 {o : Oper} (ho : o.op = .alloc 78) (ρ : Operand → Value) (w : World) : (execOp ρ o).run Try.prog w = .ok (.value (.pointer (some ⟨w.heap.size, 0, none⟩))) (w.alloc (.cells #[.int .i64 0, .slice none 0 0, .int .i64 0, .int .i64 0] 78)) := by
  unfold execOp
  simp [ho, go_sem]
end Go.Proofs.Ytmcajjdijjcpkaa
/- The method half of a stamp at work. -/
namespace Go.Proofs.Ytmcajjdijjcpkaa
open Go.RowKit

theorem two_r' (w : World) (t : TypeId) (cs : Array Value) (t' : TypeId) (cs' : Array Value) : ∀ w0, w0 = (w.alloc (.cells cs t)).alloc (.cells cs' t') → Rw w0 w.heap.size t cs ∧ Rw w0 (w.heap.size + 1) t' cs' ∧ Below w.heap.size w w0 := by
  rintro _ rfl
  exact ⟨(rw_new w t cs).alloc _, rw_next _ (by simp) t' cs', ((Below.refl _ _).alloc (Nat.le_refl _) _).alloc (by simp) _⟩
set_option maxHeartbeats 4000000 in
set_option maxRecDepth 100000 in
theorem half0 (ni : Int) (g o c : Nat) (ne : Int) (g' o' c' : Nat) (n0 : Int) (p0 : Option Addr) (l0 c0 : Nat) (n1 : Int) (p1 : Option Addr) (l1 c1 : Nat) (w : World) (t0 : Tat w g o n0 p0 l0 c0) (t1 : Tat w g' o' n1 p1 l1 c1) :
    Calls Try.prog 101 #[WV ni (some ⟨g, o, none⟩) 2 c ne (some ⟨g', o', none⟩) 2 c', .int .i64 0] w fun e w' => e = .returned (WV n0 p0 l0 c0 n1 p1 l1 c1) ∧ Below w.heap.size w w' := by
  obtain ⟨h1, h2, hbel⟩ := two_r' w 60 #[.int .i64 ni, .slice (some ⟨g, o, none⟩) 2 c, .int .i64 ne, .slice (some ⟨g', o', none⟩) 2 c', CH] 60 #[.int .i64 0, .slice none 0 0, .int .i64 0, .slice none 0 0, .nilFunc] _ rfl
  have B : ∀ x y, Below w.heap.size w ((w.alloc x).alloc y) := fun x y => ((Below.refl _ _).alloc (Nat.le_refl _) _).alloc (by simp) _
  have k0 := h1.cell 0
  have k1 := h1.cell 1
  have k2 := h1.cell 2
  have k3 := h1.cell 3
  simp at k0 k1 k2 k3
  have a0 : ∀ x y, ((w.alloc x).alloc y).cell? ⟨g, o, none⟩ = some (.int .i64 n0) := fun x y => (t0.later (B x y)).1
  have a1 : ∀ x y, ((w.alloc x).alloc y).cell? ⟨g, o + 1, none⟩ = some (.slice p0 l0 c0) := fun x y => (t0.later (B x y)).2
  have a2 : ∀ x y, ((w.alloc x).alloc y).cell? ⟨g', o', none⟩ = some (.int .i64 n1) := fun x y => (t1.later (B x y)).1
  have a3 : ∀ x y, ((w.alloc x).alloc y).cell? ⟨g', o' + 1, none⟩ = some (.slice p1 l1 c1) := fun x y => (t1.later (B x y)).2
  go_enter Try.func101, Try.ntmps101
  go_wp2
  go_region
  clear a0 a1 a2 a3 k0 k1 k2 k3 h1 h2 hbel
  obtain ⟨h1, h2, hbel⟩ := two_r' w 60 #[.int .i64 n0, .slice p0 l0 c0, .int .i64 n1, .slice p1 l1 c1, CH] 60 #[.int .i64 0, .slice none 0 0, .int .i64 0, .slice none 0 0, .nilFunc] _ rfl
  replace h1 := h1.later (Below.refl _ _).drew
  replace h2 := h2.later (Below.refl _ _).drew
  have R := below_setRow hbel.drew (g := w.heap.size + 1) (by omega) #[.int .i64 n0, .slice p0 l0 c0, .int .i64 n1, .slice p1 l1 c1, CH]
  clear B hbel t0 t1
  go_wp2_with (first | refine load_w _ rfl rfl _ rfl h1 ?_ | refine store_w rfl _ _ rfl _ n0 p0 l0 c0 n1 p1 l1 c1 rfl rfl h2 rfl ?_)
  exact bodyPost_ret (results_w rfl rfl (h2.row _)) rfl ⟨rfl, R⟩
set_option maxHeartbeats 4000000 in
set_option maxRecDepth 100000 in
theorem half1 (ni : Int) (g o c : Nat) (ne : Int) (g' o' c' : Nat) (n0 : Int) (p0 : Option Addr) (l0 c0 : Nat) (n1 : Int) (p1 : Option Addr) (l1 c1 : Nat) (w : World) (t0 : Tat w g (o + 2) n0 p0 l0 c0) (t1 : Tat w g' (o' + 2) n1 p1 l1 c1) :
    Calls Try.prog 101 #[WV ni (some ⟨g, o, none⟩) 2 c ne (some ⟨g', o', none⟩) 2 c', .int .i64 1] w fun e w' => e = .returned (WV n0 p0 l0 c0 n1 p1 l1 c1) ∧ Below w.heap.size w w' := by
  obtain ⟨h1, h2, hbel⟩ := two_r' w 60 #[.int .i64 ni, .slice (some ⟨g, o, none⟩) 2 c, .int .i64 ne, .slice (some ⟨g', o', none⟩) 2 c', CH] 60 #[.int .i64 0, .slice none 0 0, .int .i64 0, .slice none 0 0, .nilFunc] _ rfl
  have B : ∀ x y, Below w.heap.size w ((w.alloc x).alloc y) := fun x y => ((Below.refl _ _).alloc (Nat.le_refl _) _).alloc (by simp) _
  have k0 := h1.cell 0
  have k1 := h1.cell 1
  have k2 := h1.cell 2
  have k3 := h1.cell 3
  simp at k0 k1 k2 k3
  have a0 : ∀ x y, ((w.alloc x).alloc y).cell? ⟨g, o + 2, none⟩ = some (.int .i64 n0) := fun x y => (t0.later (B x y)).1
  have a1 : ∀ x y, ((w.alloc x).alloc y).cell? ⟨g, o + 2 + 1, none⟩ = some (.slice p0 l0 c0) := fun x y => (t0.later (B x y)).2
  have a2 : ∀ x y, ((w.alloc x).alloc y).cell? ⟨g', o' + 2, none⟩ = some (.int .i64 n1) := fun x y => (t1.later (B x y)).1
  have a3 : ∀ x y, ((w.alloc x).alloc y).cell? ⟨g', o' + 2 + 1, none⟩ = some (.slice p1 l1 c1) := fun x y => (t1.later (B x y)).2
  go_enter Try.func101, Try.ntmps101
  go_wp2
  go_region
  clear a0 a1 a2 a3 k0 k1 k2 k3 h1 h2 hbel
  obtain ⟨h1, h2, hbel⟩ := two_r' w 60 #[.int .i64 n0, .slice p0 l0 c0, .int .i64 n1, .slice p1 l1 c1, CH] 60 #[.int .i64 0, .slice none 0 0, .int .i64 0, .slice none 0 0, .nilFunc] _ rfl
  replace h1 := h1.later (Below.refl _ _).drew
  replace h2 := h2.later (Below.refl _ _).drew
  have R := below_setRow hbel.drew (g := w.heap.size + 1) (by omega) #[.int .i64 n0, .slice p0 l0 c0, .int .i64 n1, .slice p1 l1 c1, CH]
  clear B hbel t0 t1
  go_wp2_with (first | refine load_w _ rfl rfl _ rfl h1 ?_ | refine store_w rfl _ _ rfl _ n0 p0 l0 c0 n1 p1 l1 c1 rfl rfl h2 rfl ?_)
  exact bodyPost_ret (results_w rfl rfl (h2.row _)) rfl ⟨rfl, R⟩
end Go.Proofs.Ytmcajjdijjcpkaa
/- slices.Clone of a slice of two trees. -/
namespace Go.Proofs.Ytmcajjdijjcpkaa
open Go.RowKit

theorem info24 : (Try.prog.info? 24).map (fun i => (i.zero, i.size, i.bytes)) = some (some (.agg #[.int .i64 0, .slice none 0 0]), 2, 32) := by kernel_rfl
set_option maxHeartbeats 2000000 in
set_option maxRecDepth 100000 in
theorem clone2_any (g o c : Nat) (n0 : Int) (p0 : Option Addr) (l0 c0 : Nat) (n1 : Int) (p1 : Option Addr) (l1 c1 : Nat) (w : World) (t0 : Tat w g o n0 p0 l0 c0) (t1 : Tat w g (o + 2) n1 p1 l1 c1) :
    Calls Try.prog 88 #[.slice (some ⟨g, o, none⟩) 2 c] w fun e w' => ∃ q cap cur, e = .returned (.slice (some ⟨q, 0, none⟩) 2 cap) ∧ w.heap.size ≤ q ∧ Rw w' q 24 cur ∧ cur.size = cap * 2 ∧ 2 ≤ cap ∧ cur.toList.take 4 = [.int .i64 n0, .slice p0 l0 c0, .int .i64 n1, .slice p1 l1 c1] ∧ Below w.heap.size w w' := by
  obtain ⟨i0, hi, hz0, hz1, hz2⟩ := info_parts info24
  have hrow := rw_new w 24 #[]
  have hbel : Below w.heap.size w (w.alloc (.cells #[] 24)) := (Below.refl _ _).alloc (Nat.le_refl _) _
  replace t0 := t0.later hbel
  replace t1 := t1.later hbel
  have hown : (w.alloc (.cells #[] 24)).ownsRow w.heap.size 24 2 (.slice (some ⟨w.heap.size, 0, none⟩) 0 0) 0 [] := ⟨rfl, .inr ⟨w.heap.size, 0, #[], rfl, Nat.le_refl _, hrow, Nat.le_refl _, by decide, rfl, rfl⟩⟩
  have hsz : (w.alloc (.cells #[] 24)).heap.size = w.heap.size + 1 := by simp
  have hnews : ∀ (j : Nat) (u : Value), ([.int .i64 n0, .slice p0 l0 c0, .int .i64 n1, .slice p1 l1 c1] : List Value)[j]? = some u → (w.alloc (.cells #[] 24)).cell? ((⟨g, o, none⟩ : Addr).add j) = some u := by
    intro j u hu
    rw [Addr.add_mid]
    match j with
    | 0 => simp at hu; subst hu; exact t0.1
    | 1 => simp at hu; subst hu; exact t0.2
    | 2 => simp at hu; subst hu; exact t1.1
    | 3 => simp at hu; subst hu; exact t1.2
    | j + 4 => simp at hu
  have HO : Hid ((w.alloc (.cells #[] 24)).ownsRow w.heap.size 24 2 (.slice (some ⟨w.heap.size, 0, none⟩) 0 0) 0 []) := hown
  have HN : Hid (∀ (j : Nat) (u : Value), ([.int .i64 n0, .slice p0 l0 c0, .int .i64 n1, .slice p1 l1 c1] : List Value)[j]? = some u → (w.alloc (.cells #[] 24)).cell? ((⟨g, o, none⟩ : Addr).add j) = some u) := hnews
  clear hown hnews t0 t1
  have heq : ∀ w1, (binOp .eql 22 (.slice (some ⟨g, o, none⟩) 2 c) (.slice none 0 0)).run Try.prog w1 = .ok (.bool false) w1 := fun w1 => Go.run_eql_slice_nil w1 22 24 _ 2 c Try.underlying22
  go_enter Try.func88, Try.ntmps88
  go_wp2_with (at_builtin; refine wpList_append_lies _ rfl _ _ 22 rfl w.heap.size 24 i0 (.agg #[.int .i64 0, .slice none 0 0]) 2 32 Try.underlying22 hi hz0 hz1 hz2 rfl (by decide) (.slice (some ⟨w.heap.size, 0, none⟩) 0 0) 0 [] rfl HO.out ⟨g, o, none⟩ 2 c [.int .i64 n0, .slice p0 l0 c0, .int .i64 n1, .slice p1 l1 c1] rfl rfl HN.out ?c1 ?c2 ?c3 ?c4 ?c5 (w.heap.size + 1) ?c6 ?_)
  case c1 => simp [Value.oneCell']
  case c2 => omega
  case c3 => decide
  case c4 => decide
  case c5 => simp
  case c6 => simp
  intro q cap w1 hown hgrow hat hlt
  have hb := hbel.grown hgrow (by simp) (fun k hk => by simp [Value.ownBlock] at hk; omega)
  clear HO HN hrow hbel hgrow
  go_wp2
  go_ret
  rcases hown.2 with ⟨h, _⟩ | ⟨q', cap', cur, hv, hq, hrow, hn, hm, hs, ht⟩
  · simp at h
  · simp at hv
    obtain ⟨rfl, rfl⟩ := hv
    refine ⟨_, _, cur, rfl, hq, hrow, hs, hn, ht, hb⟩
end Go.Proofs.Ytmcajjdijjcpkaa
