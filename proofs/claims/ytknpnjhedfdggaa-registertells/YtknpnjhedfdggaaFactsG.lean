/- A region that draws its order, by a fact of each operation: also where operations are guarded, and where what two operations came to stands in a relation (two new boxes are not one). Nothing of one program. -/
import Derived.Test.YtknpnjhedfdggaaFacts
namespace Go.Proofs.Ytknpnjhedfdggaa.FactsG
open Go.RowKit Facts

section
variable {P : Program} {Q : Exit → Act → World → Prop} {S : World → Prop} {md : Region.Mode} {A : (Nat → Value) → Act} {F : List Fact} {l : List Oper} {R : Nat → Nat → Value → Value → Prop}

def downB (md : Region.Mode) (l : List Oper) : Bool := l.zipIdx.all fun (o, i) => o.after.all fun e => !Region.binds md e || decide (e.on < i)
theorem downB_spec (h : downB md l = true) {i : Nat} {o : Oper} (hi : l[i]? = some o) : ∀ e ∈ o.after, Region.binds md e = true → e.on < i := by
  have hm : (o, i) ∈ l.zipIdx := by
    rw [List.mem_zipIdx_iff_getElem?]
    exact hi
  have := List.all_eq_true.1 h _ hm
  exact fun e he hb => by have := Array.all_eq_true_iff_forall_mem.1 this e he; simpa [hb] using this
theorem ready_of_least (h : downB md l = true) {listed : Array Bool} (hs : listed.size = l.length) {n : Nat} (hn : n < l.length) (hun : listed.getD n true = false) : ∃ j, j ∈ Region.ready md l.toArray listed := by
  induction n using Nat.strongRecOn with
  | _ n ih =>
    by_cases hall : ∀ m, m < n → listed.getD m true = true
    · refine ⟨n, mem_ready.2 ⟨hun, l[n], by simp, fun e he hbd => ?_⟩⟩
      have hlt := downB_spec h (List.getElem?_eq_getElem hn) e he hbd
      have := hall e.on hlt
      have hb : e.on < listed.size := by omega
      simpa [hb] using this
    · simp only [Classical.not_forall] at hall
      obtain ⟨m, hm, hf⟩ := hall
      exact ih m hm (by omega) (by simpa using hf)

theorem wpOp_mono {ops : Array Oper} {i : Nat} {K K' : Act → World → Prop} {a : Act} {w : World} (hK : ∀ a w, K a w → K' a w) (h : Go.wpOp P ops Q i K a w) : Go.wpOp P ops Q i K' a w := by
  unfold Go.wpOp at *
  cases ho : ops[i]? with
  | none =>
    simp only [ho] at h ⊢
    exact hK _ _ h
  | some o =>
    simp only [ho] at h ⊢
    split
    · rename_i hw
      rw [if_pos hw] at h
      rcases h with h | h
      · exact .inl (Oper.wp_mono hK h)
      · exact .inr h
    · rename_i hw
      rw [if_neg hw] at h
      exact hK _ _ h

/-- What an operation is asked for. -/
def StepOk (P : Program) (md : Region.Mode) (l : List Oper) (Q : Exit → Act → World → Prop) (S : World → Prop) (A : (Nat → Value) → Act) (F : List Fact) (R : Nat → Nat → Value → Value → Prop) (i : Nat) (o : Oper) : Prop :=
  ∀ x w, S w → (∀ e ∈ o.after, Region.binds md e = true → ∀ f, F[e.on]? = some f → holds f x w) → (∀ e ∈ o.after, Region.binds md e = true → ∀ e' ∈ o.after, Region.binds md e' = true → e.on ≠ e'.on → R e.on e'.on (x e.on) (x e'.on)) →
    Go.wpOp P l.toArray Q i (fun a' w' => ∃ u, a' = A (put x i u) ∧ S w' ∧ (∀ f, F[i]? = some f → holds f (put x i u) w') ∧ (∀ j f, j ≠ i → F[j]? = some f → holds f x w → holds f x w') ∧ (∀ j f, j ≠ i → F[j]? = some f → holds f x w → R i j u (x j))) (A x) w

def Inv (md : Region.Mode) (l : List Oper) (S : World → Prop) (A : (Nat → Value) → Act) (F : List Fact) (R : Nat → Nat → Value → Value → Prop) (L : Nat → Bool) (a : Act) (w : World) : Prop :=
  S w ∧ (∀ i o, l[i]? = some o → L i = true → ∀ e ∈ o.after, Region.binds md e = true → L e.on = true) ∧
    ∃ x, a = A x ∧ (∀ i f, i < l.length → F[i]? = some f → L i = true → holds f x w) ∧ ∀ i j, i < l.length → j < l.length → i ≠ j → L i = true → L j = true → R i j (x i) (x j)

theorem wpAny_inv (hd : downB md l = true) (D : List (List Nat)) (hD : F.map (·.1) = D) (hlen : D.length = l.length) (hl : nearB md l D = true) (hR : ∀ i j u v, R i j u v → R j i v u) (hstep : Owed.each (StepOk P md l Q S A F R) 0 l)
    (hend : ∀ x w', S w' → (∀ i f, i < l.length → F[i]? = some f → holds f x w') → (∀ i j, i < l.length → j < l.length → i ≠ j → R i j (x i) (x j)) → Q .normal (A x) w') :
    ∀ (fuel : Nat) (listed : Array Bool) (a : Act) (w : World), listed.size = l.length → Owed.left listed ≤ fuel → Inv md l S A F R (fun i => listed.getD i true) a w → wpAny P md l.toArray Q fuel listed a w := by
  have hFl : F.length = l.length := by rw [← hlen, ← hD, List.length_map]
  have fin : ∀ (listed : Array Bool) (a : Act) (w : World), listed.size = l.length → Region.ready md l.toArray listed = [] → Inv md l S A F R (fun i => listed.getD i true) a w → Q .normal a w := fun listed a w hs hr h => by
    have all : ∀ i, i < l.length → listed.getD i true = true := fun i hi => by
      cases hv : listed.getD i true
      · obtain ⟨j, hj⟩ := ready_of_least (md := md) hd hs hi hv
        rw [hr] at hj
        cases hj
      · rfl
    obtain ⟨hS, _, x, rfl, hf, hrel⟩ := h
    exact hend x w hS (fun i f hi hfi => hf i f hi hfi (all i hi)) (fun i j hi hj hij => hrel i j hi hj hij (all i hi) (all j hj))
  intro fuel
  induction fuel with
  | zero =>
    intro listed a w hs hle h
    have hr : Region.ready md l.toArray listed = [] := by
      cases hr : Region.ready md l.toArray listed with
      | nil => rfl
      | cons i r =>
        have hun := (mem_ready.1 (show i ∈ Region.ready md l.toArray listed by rw [hr]; simp)).1
        have := Owed.left_set hun
        omega
    exact ⟨hr, fin listed a w hs hr h⟩
  | succ fuel ih =>
    intro listed a w hs hle h
    refine ⟨fun hr => fin listed a w hs hr h, fun i hi => ?_⟩
    obtain ⟨hun, o, ho, hall⟩ := mem_ready.1 hi
    have ho' : l[i]? = some o := by simpa using ho
    have hilt : i < l.length := (List.getElem?_eq_some_iff.1 ho').1
    have hst := Owed.each_at l 0 i o hstep ho'
    rw [Nat.zero_add] at hst
    obtain ⟨hS, hc, x, rfl, hf, hrel⟩ := h
    have hdep : ∀ e ∈ o.after, Region.binds md e = true → listed.getD e.on true = true ∧ e.on < l.length := fun e he hb => by
      have h1 := hall e he hb
      rcases Nat.lt_or_ge e.on listed.size with h' | h'
      · exact ⟨by simpa [h'] using h1, by omega⟩
      · simp [Array.getElem?_eq_none h'] at h1
    have old : ∀ j, j ≠ i → (listed.setIfInBounds i true).getD j true = listed.getD j true := fun j hj => getD_set_ne true (Ne.symm hj)
    refine wpOp_mono (fun a' w' h' => ?_) (hst x w hS (fun e he hb f hfe => hf e.on f (hdep e he hb).2 hfe (hdep e he hb).1) (fun e he hb e' he' hb' hne => hrel _ _ (hdep e he hb).2 (hdep e' he' hb').2 hne (hdep e he hb).1 (hdep e' he' hb').1))
    obtain ⟨u, rfl, hS', hfi, hoth, hrl⟩ := h'
    refine ih _ _ w' (by simp [hs]) (by have := Owed.left_set hun; omega) ⟨hS', fun j o' hj hLj e he hb => ?_, put x i u, rfl, fun j f hj hfj hLj => ?_, fun j k hj hk hjk hLj hLk => ?_⟩
    · by_cases e0 : e.on = i
      · rw [e0]
        have : i < listed.size := by omega
        simp [this]
      · show (listed.setIfInBounds i true).getD e.on true = true
        rw [old _ e0]
        by_cases e1 : j = i
        · subst e1
          obtain rfl : o = o' := by rw [ho'] at hj; exact Option.some.inj hj
          exact (hdep e he hb).1
        · refine hc j o' hj ?_ e he hb
          show listed.getD j true = true
          rw [← old j e1]
          exact hLj
    · by_cases e1 : j = i
      · subst e1; exact hfi f hfj
      · have hLj' : listed.getD j true = true := by rw [← old j e1]; exact hLj
        have h1 := hoth j f e1 hfj (hf j f hj hfj hLj')
        have e2 : f.1.map (put x i u) = f.1.map x := by
          apply List.map_congr_left
          intro k hk
          have hj' : l[j]? = some l[j] := List.getElem?_eq_getElem hj
          have hki : k ≠ i := by
            rcases nearB_spec hl hj' (by rw [← hD, List.getElem?_map, hfj]; rfl) hk with rfl | ⟨e, he, rfl, hb⟩
            · exact e1
            · intro h2
              have h3 : listed.getD e.on true = true := hc j _ hj' hLj' e he hb
              rw [h2, hun] at h3; cases h3
          simp [put, hki]
        unfold holds at *
        rw [e2]
        exact h1
    · have get : ∀ j, j < l.length → ∃ f, F[j]? = some f := fun j hj => ⟨F[j]'(by omega), List.getElem?_eq_getElem _⟩
      by_cases e1 : j = i
      · subst e1
        have hkj : k ≠ j := Ne.symm hjk
        have hLk' : listed.getD k true = true := by rw [← old k hkj]; exact hLk
        obtain ⟨f, hfk⟩ := get k hk
        have := hrl k f hkj hfk (hf k f hk hfk hLk')
        simpa [put, hkj] using this
      · have hLj' : listed.getD j true = true := by rw [← old j e1]; exact hLj
        by_cases e2 : k = i
        · subst e2
          obtain ⟨f, hfj⟩ := get j hj
          have := hR _ _ _ _ (hrl j f e1 hfj (hf j f hj hfj hLj'))
          simpa [put, e1] using this
        · have hLk' : listed.getD k true = true := by rw [← old k e2]; exact hLk
          have := hrel j k hj hk hjk hLj' hLk'
          simpa [put, e1, e2] using this

theorem region {id : Nat} {a : Act} {w : World} (hm : P.follows .mixedOrders = true) (hd : downB .any l = true) (S : World → Prop) (A : (Nat → Value) → Act) (F : List Fact) (R : Nat → Nat → Value → Value → Prop) (hR : ∀ i j u v, R i j u v → R j i v u)
    (D : List (List Nat)) (hD : F.map (·.1) = D) (hlen : D.length = l.length) (hl : nearB .any l D = true)
    (x0 : Nat → Value) (hA : a = A x0) (h0 : S w.drew) (hstep : Owed.each (StepOk P .any l Q S A F R) 0 l)
    (hend : ∀ x w', S w' → (∀ i f, i < l.length → F[i]? = some f → holds f x w') → (∀ i j, i < l.length → j < l.length → i ≠ j → R i j (x i) (x j)) → Q .normal (A x) w') : (Code.region id l.toArray true).wp P Q a w := by
  refine wp_region_any hm ?_
  refine wpAny_inv (md := .any) hd D hD hlen hl hR hstep hend l.toArray.size (Array.replicate l.toArray.size false) a w.drew (by simp) (by simp [Owed.left]) ⟨h0, fun i o hi hLi => ?_, x0, hA, fun i f hi _ hLi => ?_, fun i j hi _ _ hLi => ?_⟩
  · have : i < l.length := (List.getElem?_eq_some_iff.1 hi).1
    simp [this] at hLi
  · simp [hi] at hLi
  · simp [hi] at hLi

/-- By a step without guard and relation, where the guard lets it through. -/
theorem of {i : Nat} {o : Oper} (hi : l[i]? = some o) (hR : ∀ j u v, R i j u v)
    (hw : ∀ x w, S w → (∀ e ∈ o.after, Region.binds md e = true → ∀ f, F[e.on]? = some f → holds f x w) → Region.wanted o (yielded l.toArray (A x).tmps) = true)
    (h : Facts.StepOk P md Q S A F i o) : StepOk P md l Q S A F R i o := by
  intro x w hS hdep _
  unfold Go.wpOp
  have hi' : l.toArray[i]? = some o := by simpa using hi
  simp only [hi', hw x w hS hdep, if_true]
  refine .inl (Oper.wp_mono (fun a' w' hh => ?_) (h x w hS hdep))
  obtain ⟨u, h1, h2, h3, h4⟩ := hh
  exact ⟨u, h1, h2, h3, h4, fun j _ _ _ _ => hR j u _⟩
/-- The same, with the relation. -/
theorem ofR {i : Nat} {o : Oper} (hi : l[i]? = some o)
    (hw : ∀ x w, S w → (∀ e ∈ o.after, Region.binds md e = true → ∀ f, F[e.on]? = some f → holds f x w) → Region.wanted o (yielded l.toArray (A x).tmps) = true)
    (h : ∀ x w, S w → (∀ e ∈ o.after, Region.binds md e = true → ∀ f, F[e.on]? = some f → holds f x w) → (∀ e ∈ o.after, Region.binds md e = true → ∀ e' ∈ o.after, Region.binds md e' = true → e.on ≠ e'.on → R e.on e'.on (x e.on) (x e'.on)) →
      o.wp P (A x) w (fun a' w' => ∃ u, a' = A (put x i u) ∧ S w' ∧ (∀ f, F[i]? = some f → holds f (put x i u) w') ∧ (∀ j f, j ≠ i → F[j]? = some f → holds f x w → holds f x w') ∧ (∀ j f, j ≠ i → F[j]? = some f → holds f x w → R i j u (x j))) Q) : StepOk P md l Q S A F R i o := by
  intro x w hS hdep hrel
  unfold Go.wpOp
  have hi' : l.toArray[i]? = some o := by simpa using hi
  simp only [hi', hw x w hS hdep, if_true]
  exact .inl (h x w hS hdep hrel)
end
end Go.Proofs.Ytknpnjhedfdggaa.FactsG
