import Derived.Test.YtdnppcbdifckcaaP1
import Derived.Test.YtdnppcbdifckcaaRows
import Derived.WalkKit
import Derived.WalkSpells
import Derived.WalkLawsBesides
import Derived.WalkMore
import Derived.Deep.RegionHeld3
import Derived.Deep.WholeRow
import Derived.Deep.MidRow
import Derived.Laws.CopyOwn
import Derived.ProofKit
import Derived.OpenShut
/- A region that draws its order, by a fact of each operation: also where operations are guarded, and where what two operations came to stands in a relation (two new boxes are not one). Nothing of one program. -/
namespace Go.Proofs.Ytdnppcbdifckcaa.FactsG
open Go.RowKit Facts

section
variable {P : Program} {Q : Exit → Act → World → Prop} {S : World → Prop} {md : Region.Mode} {A : (Nat → Value) → Act} {F : List Fact} {l : List Oper} {R : Nat → Nat → Value → Value → Prop}

def downB (md : Region.Mode) (l : List Oper) : Bool := l.zipIdx.all fun (o, i) => o.after.all fun e => !Region.binds md e || decide (e.on < i)
theorem downB_spec (h : downB md l = true) {i : Nat} {o : Oper} (hi : l[i]? = some o) : ∀ e ∈ o.after, Region.binds md e = true → e.on < i := by
  have hm : (o, i) ∈ l.zipIdx := by
    rw [List.mem_zipIdx_iff_getElem?]
    exact hi
  have := List.all_eq_true.1 h _ hm
  exact fun e he hb => by have := Array.all_eq_true_iff_forall_mem.1 this e he; simpa [hb] using this
theorem ready_of_least (h : downB md l = true) {listed : Array Bool} (hs : listed.size = l.length) {n : Nat} (hn : n < l.length) (hun : listed.getD n true = false) : ∃ j, j ∈ Region.ready md l.toArray listed := by
  induction n using Nat.strongRecOn with
  | _ n ih =>
    by_cases hall : ∀ m, m < n → listed.getD m true = true
    · refine ⟨n, mem_ready.2 ⟨hun, l[n], by simp, fun e he hbd => ?_⟩⟩
      have hlt := downB_spec h (List.getElem?_eq_getElem hn) e he hbd
      have := hall e.on hlt
      have hb : e.on < listed.size := by omega
      simpa [hb] using this
    · simp only [Classical.not_forall] at hall
      obtain ⟨m, hm, hf⟩ := hall
      exact ih m hm (by omega) (by simpa using hf)

theorem wpOp_mono {ops : Array Oper} {i : Nat} {K K' : Act → World → Prop} {a : Act} {w : World} (hK : ∀ a w, K a w → K' a w) (h : Go.wpOp P ops Q i K a w) : Go.wpOp P ops Q i K' a w := by
  unfold Go.wpOp at *
  cases ho : ops[i]? with
  | none =>
    simp only [ho] at h ⊢
    exact hK _ _ h
  | some o =>
    simp only [ho] at h ⊢
    split
    · rename_i hw
      rw [if_pos hw] at h
      rcases h with h | h
      · exact .inl (Oper.wp_mono hK h)
      · exact .inr h
    · rename_i hw
      rw [if_neg hw] at h
      exact hK _ _ h

/-- What an operation is asked for. -/
def StepOk (P : Program) (md : Region.Mode) (l : List Oper) (Q : Exit → Act → World → Prop) (S : World → Prop) (A : (Nat → Value) → Act) (F : List Fact) (R : Nat → Nat → Value → Value → Prop) (i : Nat) (o : Oper) : Prop :=
  ∀ x w, S w → (∀ e ∈ o.after, Region.binds md e = true → ∀ f, F[e.on]? = some f → holds f x w) → (∀ e ∈ o.after, Region.binds md e = true → ∀ e' ∈ o.after, Region.binds md e' = true → e.on ≠ e'.on → R e.on e'.on (x e.on) (x e'.on)) →
    Go.wpOp P l.toArray Q i (fun a' w' => ∃ u, a' = A (put x i u) ∧ S w' ∧ (∀ f, F[i]? = some f → holds f (put x i u) w') ∧ (∀ j f, j ≠ i → F[j]? = some f → holds f x w → holds f x w') ∧ (∀ j f, j ≠ i → F[j]? = some f → holds f x w → R i j u (x j))) (A x) w

def Inv (md : Region.Mode) (l : List Oper) (S : World → Prop) (A : (Nat → Value) → Act) (F : List Fact) (R : Nat → Nat → Value → Value → Prop) (L : Nat → Bool) (a : Act) (w : World) : Prop :=
  S w ∧ (∀ i o, l[i]? = some o → L i = true → ∀ e ∈ o.after, Region.binds md e = true → L e.on = true) ∧
    ∃ x, a = A x ∧ (∀ i f, i < l.length → F[i]? = some f → L i = true → holds f x w) ∧ ∀ i j, i < l.length → j < l.length → i ≠ j → L i = true → L j = true → R i j (x i) (x j)

theorem wpAny_inv (hd : downB md l = true) (D : List (List Nat)) (hD : F.map (·.1) = D) (hlen : D.length = l.length) (hl : nearB md l D = true) (hR : ∀ i j u v, R i j u v → R j i v u) (hstep : Owed.each (StepOk P md l Q S A F R) 0 l)
    (hend : ∀ x w', S w' → (∀ i f, i < l.length → F[i]? = some f → holds f x w') → (∀ i j, i < l.length → j < l.length → i ≠ j → R i j (x i) (x j)) → Q .normal (A x) w') :
    ∀ (fuel : Nat) (listed : Array Bool) (a : Act) (w : World), listed.size = l.length → Owed.left listed ≤ fuel → Inv md l S A F R (fun i => listed.getD i true) a w → wpAny P md l.toArray Q fuel listed a w := by
  have hFl : F.length = l.length := by rw [← hlen, ← hD, List.length_map]
  have fin : ∀ (listed : Array Bool) (a : Act) (w : World), listed.size = l.length → Region.ready md l.toArray listed = [] → Inv md l S A F R (fun i => listed.getD i true) a w → Q .normal a w := fun listed a w hs hr h => by
    have all : ∀ i, i < l.length → listed.getD i true = true := fun i hi => by
      cases hv : listed.getD i true
      · obtain ⟨j, hj⟩ := ready_of_least (md := md) hd hs hi hv
        rw [hr] at hj
        cases hj
      · rfl
    obtain ⟨hS, _, x, rfl, hf, hrel⟩ := h
    exact hend x w hS (fun i f hi hfi => hf i f hi hfi (all i hi)) (fun i j hi hj hij => hrel i j hi hj hij (all i hi) (all j hj))
  intro fuel
  induction fuel with
  | zero =>
    intro listed a w hs hle h
    have hr : Region.ready md l.toArray listed = [] := by
      cases hr : Region.ready md l.toArray listed with
      | nil => rfl
      | cons i r =>
        have hun := (mem_ready.1 (show i ∈ Region.ready md l.toArray listed by rw [hr]; simp)).1
        have := Owed.left_set hun
        omega
    exact ⟨hr, fin listed a w hs hr h⟩
  | succ fuel ih =>
    intro listed a w hs hle h
    refine ⟨fun hr => fin listed a w hs hr h, fun i hi => ?_⟩
    obtain ⟨hun, o, ho, hall⟩ := mem_ready.1 hi
    have ho' : l[i]? = some o := by simpa using ho
    have hilt : i < l.length := (List.getElem?_eq_some_iff.1 ho').1
    have hst := Owed.each_at l 0 i o hstep ho'
    rw [Nat.zero_add] at hst
    obtain ⟨hS, hc, x, rfl, hf, hrel⟩ := h
    have hdep : ∀ e ∈ o.after, Region.binds md e = true → listed.getD e.on true = true ∧ e.on < l.length := fun e he hb => by
      have h1 := hall e he hb
      rcases Nat.lt_or_ge e.on listed.size with h' | h'
      · exact ⟨by simpa [h'] using h1, by omega⟩
      · simp [Array.getElem?_eq_none h'] at h1
    have old : ∀ j, j ≠ i → (listed.setIfInBounds i true).getD j true = listed.getD j true := fun j hj => getD_set_ne true (Ne.symm hj)
    refine wpOp_mono (fun a' w' h' => ?_) (hst x w hS (fun e he hb f hfe => hf e.on f (hdep e he hb).2 hfe (hdep e he hb).1) (fun e he hb e' he' hb' hne => hrel _ _ (hdep e he hb).2 (hdep e' he' hb').2 hne (hdep e he hb).1 (hdep e' he' hb').1))
    obtain ⟨u, rfl, hS', hfi, hoth, hrl⟩ := h'
    refine ih _ _ w' (by simp [hs]) (by have := Owed.left_set hun; omega) ⟨hS', fun j o' hj hLj e he hb => ?_, put x i u, rfl, fun j f hj hfj hLj => ?_, fun j k hj hk hjk hLj hLk => ?_⟩
    · by_cases e0 : e.on = i
      · rw [e0]
        have : i < listed.size := by omega
        simp [this]
      · show (listed.setIfInBounds i true).getD e.on true = true
        rw [old _ e0]
        by_cases e1 : j = i
        · subst e1
          obtain rfl : o = o' := by rw [ho'] at hj; exact Option.some.inj hj
          exact (hdep e he hb).1
        · refine hc j o' hj ?_ e he hb
          show listed.getD j true = true
          rw [← old j e1]
          exact hLj
    · by_cases e1 : j = i
      · subst e1; exact hfi f hfj
      · have hLj' : listed.getD j true = true := by rw [← old j e1]; exact hLj
        have h1 := hoth j f e1 hfj (hf j f hj hfj hLj')
        have e2 : f.1.map (put x i u) = f.1.map x := by
          apply List.map_congr_left
          intro k hk
          have hj' : l[j]? = some l[j] := List.getElem?_eq_getElem hj
          have hki : k ≠ i := by
            rcases nearB_spec hl hj' (by rw [← hD, List.getElem?_map, hfj]; rfl) hk with rfl | ⟨e, he, rfl, hb⟩
            · exact e1
            · intro h2
              have h3 : listed.getD e.on true = true := hc j _ hj' hLj' e he hb
              rw [h2, hun] at h3; cases h3
          simp [put, hki]
        unfold holds at *
        rw [e2]
        exact h1
    · have get : ∀ j, j < l.length → ∃ f, F[j]? = some f := fun j hj => ⟨F[j]'(by omega), List.getElem?_eq_getElem _⟩
      by_cases e1 : j = i
      · subst e1
        have hkj : k ≠ j := Ne.symm hjk
        have hLk' : listed.getD k true = true := by rw [← old k hkj]; exact hLk
        obtain ⟨f, hfk⟩ := get k hk
        have := hrl k f hkj hfk (hf k f hk hfk hLk')
        simpa [put, hkj] using this
      · have hLj' : listed.getD j true = true := by rw [← old j e1]; exact hLj
        by_cases e2 : k = i
        · subst e2
          obtain ⟨f, hfj⟩ := get j hj
          have := hR _ _ _ _ (hrl j f e1 hfj (hf j f hj hfj hLj'))
          simpa [put, e1] using this
        · have hLk' : listed.getD k true = true := by rw [← old k e2]; exact hLk
          have := hrel j k hj hk hjk hLj' hLk'
          simpa [put, e1, e2] using this

theorem region {id : Nat} {a : Act} {w : World} (hm : P.follows .mixedOrders = true) (hd : downB .any l = true) (S : World → Prop) (A : (Nat → Value) → Act) (F : List Fact) (R : Nat → Nat → Value → Value → Prop) (hR : ∀ i j u v, R i j u v → R j i v u)
    (D : List (List Nat)) (hD : F.map (·.1) = D) (hlen : D.length = l.length) (hl : nearB .any l D = true)
    (x0 : Nat → Value) (hA : a = A x0) (h0 : S w.drew) (hstep : Owed.each (StepOk P .any l Q S A F R) 0 l)
    (hend : ∀ x w', S w' → (∀ i f, i < l.length → F[i]? = some f → holds f x w') → (∀ i j, i < l.length → j < l.length → i ≠ j → R i j (x i) (x j)) → Q .normal (A x) w') : (Code.region id l.toArray true).wp P Q a w := by
  refine wp_region_any hm ?_
  refine wpAny_inv (md := .any) hd D hD hlen hl hR hstep hend l.toArray.size (Array.replicate l.toArray.size false) a w.drew (by simp) (by simp [Owed.left]) ⟨h0, fun i o hi hLi => ?_, x0, hA, fun i f hi _ hLi => ?_, fun i j hi _ _ hLi => ?_⟩
  · have : i < l.length := (List.getElem?_eq_some_iff.1 hi).1
    simp [this] at hLi
  · simp [hi] at hLi
  · simp [hi] at hLi

/-- By a step without guard and relation, where the guard lets it through. -/
theorem of {i : Nat} {o : Oper} (hi : l[i]? = some o) (hR : ∀ j u v, R i j u v)
    (hw : ∀ x w, S w → (∀ e ∈ o.after, Region.binds md e = true → ∀ f, F[e.on]? = some f → holds f x w) → Region.wanted o (yielded l.toArray (A x).tmps) = true)
    (h : Facts.StepOk P md Q S A F i o) : StepOk P md l Q S A F R i o := by
  intro x w hS hdep _
  unfold Go.wpOp
  have hi' : l.toArray[i]? = some o := by simpa using hi
  simp only [hi', hw x w hS hdep, if_true]
  refine .inl (Oper.wp_mono (fun a' w' hh => ?_) (h x w hS hdep))
  obtain ⟨u, h1, h2, h3, h4⟩ := hh
  exact ⟨u, h1, h2, h3, h4, fun j _ _ _ _ => hR j u _⟩
/-- The same, with the relation. -/
theorem ofR {i : Nat} {o : Oper} (hi : l[i]? = some o)
    (hw : ∀ x w, S w → (∀ e ∈ o.after, Region.binds md e = true → ∀ f, F[e.on]? = some f → holds f x w) → Region.wanted o (yielded l.toArray (A x).tmps) = true)
    (h : ∀ x w, S w → (∀ e ∈ o.after, Region.binds md e = true → ∀ f, F[e.on]? = some f → holds f x w) → (∀ e ∈ o.after, Region.binds md e = true → ∀ e' ∈ o.after, Region.binds md e' = true → e.on ≠ e'.on → R e.on e'.on (x e.on) (x e'.on)) →
      o.wp P (A x) w (fun a' w' => ∃ u, a' = A (put x i u) ∧ S w' ∧ (∀ f, F[i]? = some f → holds f (put x i u) w') ∧ (∀ j f, j ≠ i → F[j]? = some f → holds f x w → holds f x w') ∧ (∀ j f, j ≠ i → F[j]? = some f → holds f x w → R i j u (x j))) Q) : StepOk P md l Q S A F R i o := by
  intro x w hS hdep hrel
  unfold Go.wpOp
  have hi' : l.toArray[i]? = some o := by simpa using hi
  simp only [hi', hw x w hS hdep, if_true]
  exact .inl (h x w hS hdep hrel)
end
end Go.Proofs.Ytdnppcbdifckcaa.FactsG
/- A region that draws its order, whose last operation waits for all others: facts of the others, and what the last one does. Nothing of one program. -/
namespace Go.Proofs.Ytdnppcbdifckcaa.Facts
open Go.RowKit

section
variable {P : Program} {Q : Exit → Act → World → Prop} {l : List Oper}
/-- The operation waits for all ahead of it. -/
def waitsB (md : Region.Mode) (o : Oper) (n : Nat) : Bool := (List.range n).all fun j => o.after.any fun e => e.on == j && Region.binds md e
theorem waitsB_spec {md : Region.Mode} {o : Oper} {n : Nat} (h : waitsB md o n = true) (j : Nat) (hj : j < n) : ∃ e ∈ o.after, e.on = j ∧ Region.binds md e = true := by
  have := List.all_eq_true.1 h j (by simpa using hj)
  rw [Array.any_eq_true] at this
  obtain ⟨k, hk, h⟩ := this
  simp only [Bool.and_eq_true, beq_iff_eq] at h
  exact ⟨o.after[k], by simp, h.1, h.2⟩

theorem regionLast {id : Nat} {a : Act} {w : World} (hm : P.follows .mixedOrders = true) (hd : Owed.downB .any l = true) (n : Nat) (o : Oper) (hn : l.length = n + 1) (ho : l[n]? = some o) (hw : waitsB .any o n = true)
    (S : World → Prop) (A : (Nat → Value) → Act) (F : List Fact) (D : List (List Nat)) (hD : F.map (·.1) = D) (hDl : D.length = n) (hl : nearB .any l D = true)
    (x0 : Nat → Value) (hA : a = A x0) (h0 : S w.drew) (hstep : Owed.each (fun i o => i < n → StepOk P .any Q S A F i o) 0 l)
    (hend : ∀ x w', S w' → (∀ (i : Nat) (f : Fact), F[i]? = some f → holds f x w') → o.wp P (A x) w' (fun a' w'' => Q .normal a' w'') Q) : (Code.region id l.toArray true).wp P Q a w := by
  have hFl : F.length = n := by rw [← hDl, ← hD, List.length_map]
  refine Owed.region hm hd (fun L a w => (L n = true ∧ (∀ i, i < l.length → L i = true) ∧ Q .normal a w) ∨ (L n = false ∧ Inv .any l S A F L a w)) ?_ ?_ (each_imp l 0 hstep ?_) ?_
  · rintro L L' a w hL (⟨h1, h2, h3⟩ | ⟨h1, hS, hc, x, hx, hf⟩)
    · exact .inl ⟨by rw [← hL n (by omega)]; exact h1, fun i hi => by rw [← hL i hi]; exact h2 i hi, h3⟩
    · refine .inr ⟨by rw [← hL n (by omega)]; exact h1, hS, fun i o hi hLi e he hb => ?_, x, hx, fun i f hi hfi hLi => hf i f hi hfi ((hL i hi).trans hLi)⟩
      have hilt : i < l.length := (List.getElem?_eq_some_iff.1 hi).1
      have := (Owed.downB_spec hd hi).2 e he hb
      rw [← hL e.on (by omega)]
      exact hc i o hi ((hL i hilt).trans hLi) e he hb
  · intro L hL
    refine .inr ⟨hL n (by omega), h0, fun i o hi hLi => ?_, x0, hA, fun i f hi _ hLi => ?_⟩
    · rw [hL i (List.getElem?_eq_some_iff.1 hi).1] at hLi; cases hLi
    · rw [hL i hi] at hLi; cases hLi
  · intro i o' hi hok
    rw [Nat.zero_add] at hok ⊢
    have hilt : i < l.length := (List.getElem?_eq_some_iff.1 hi).1
    rintro L a w (⟨_, h2, _⟩ | ⟨h1, hS, hc, x, rfl, hf⟩) hLi hdep
    · rw [h2 i hilt] at hLi; cases hLi
    · by_cases hin : i = n
      · subst hin
        obtain rfl : o = o' := by rw [ho] at hi; exact Option.some.inj hi
        have all : ∀ j, j < i → L j = true := fun j hj => by
          obtain ⟨e, he, rfl, hb⟩ := waitsB_spec hw j hj
          exact hdep e he hb
        refine Oper.wp_mono (fun a' w' h => .inl ⟨Owed.upd_self L i, fun j hj => ?_, h⟩) (hend x w hS fun j f hfj => ?_)
        · by_cases e : j = i
          · subst e; exact Owed.upd_self L j
          · rw [Owed.upd_ne L e]
            exact all j (by omega)
        · have hj : j < i := by have := (List.getElem?_eq_some_iff.1 hfj).1; omega
          exact hf j f (by omega) hfj (all j hj)
      · have hstep' := hok (by omega)
        have hdown := (Owed.downB_spec hd hi).2
        refine Oper.wp_mono (fun a' w' h => ?_) (hstep' x w hS (fun e he hb f hfe => hf e.on f (by have := hdown e he hb; omega) hfe (hdep e he hb)))
        obtain ⟨u, rfl, hS', hfi, hoth⟩ := h
        refine .inr ⟨by rw [Owed.upd_ne L (Ne.symm hin)]; exact h1, hS', fun j o2 hj hLj e he hb => ?_, put x i u, rfl, fun j f hj hfj hLj => ?_⟩
        · by_cases e1 : j = i
          · subst e1
            obtain rfl : o' = o2 := by rw [hi] at hj; exact Option.some.inj hj
            have := hdep e he hb
            unfold Owed.upd
            simp [this]
          · rw [Owed.upd_ne L e1] at hLj
            have := hc j o2 hj hLj e he hb
            unfold Owed.upd
            simp [this]
        · by_cases e1 : j = i
          · subst e1; exact hfi f hfj
          · rw [Owed.upd_ne L e1] at hLj
            have h1' := hoth j f e1 hfj (hf j f hj hfj hLj)
            have e2 : f.1.map (put x i u) = f.1.map x := by
              apply List.map_congr_left
              intro k hk
              have hj' : l[j]? = some l[j] := List.getElem?_eq_getElem hj
              have hki : k ≠ i := by
                rcases nearB_spec hl hj' (by rw [← hD, List.getElem?_map, hfj]; rfl) hk with rfl | ⟨e, he, rfl, hb⟩
                · exact e1
                · intro h2
                  have := hc j _ hj' hLj e he hb
                  rw [h2, hLi] at this; cases this
              simp [put, hki]
            unfold holds at *
            rw [e2]
            exact h1'
  · rintro L a w hL (⟨_, _, h⟩ | ⟨h1, _⟩)
    · exact h
    · rw [hL n (by omega)] at h1; cases h1
end
end Go.Proofs.Ytdnppcbdifckcaa.Facts
/- An array of thirteen ints (api.Vec) in a block of its own: read, written, whole or at a place; and that a call leaves it alone. Nothing of one function. -/
namespace Go.Proofs.Ytdnppcbdifckcaa
open Go.ChangeShapes Go.WideShapes Go.ChangeAt Go.RowKit

/-- Ints as cells. -/
def vals (l : List Int) : List Value := l.map (Value.int .i64)
/-- The array by value. -/
abbrev V (l : List Int) : Value := .agg (vals l).toArray
/-- The block b is an array of thirteen that holds l. -/
def At (w : World) (b : Nat) (l : List Int) : Prop := l.length = 13 ∧ w.heap[b]? = some (.cells (vals l).toArray 31)

theorem vals_length (l : List Int) : (vals l).length = l.length := by simp [vals]
theorem vals_size (l : List Int) : (vals l).toArray.size = l.length := by simp [vals]
theorem vals_one (l : List Int) : (vals l).toArray.all (·.oneCell') = true := by
  rw [List.all_toArray, List.all_eq_true]
  intro u hu
  obtain ⟨_, _, rfl⟩ := List.mem_map.1 hu
  rfl
theorem size31 : (Try.prog.info? 31).map (·.size) = some 13 := by kernel_rfl
abbrev zeros : List Int := [0, 0, 0, 0, 0, 0, 0, 0, 0, 0, 0, 0, 0]

theorem at_new (w : World) (l : List Int) (hl : l.length = 13) : At (w.alloc (.cells (vals l).toArray 31)) w.heap.size l := ⟨hl, heap_alloc_last w _⟩
theorem at_next (w : World) {b : Nat} (hb : b = w.heap.size) (l : List Int) (hl : l.length = 13) : At (w.alloc (.cells (vals l).toArray 31)) b l := by
  subst hb
  exact at_new w l hl
theorem At.lt {w : World} {b : Nat} {l : List Int} (h : At w b l) : b < w.heap.size := (Array.getElem?_eq_some_iff.1 h.2).1
theorem At.alloc {w : World} {b : Nat} {l : List Int} (h : At w b l) (o : Obj) : At (w.alloc o) b l := ⟨h.1, (Below.heap_alloc w o b h.lt).trans h.2⟩
theorem At.drew {w : World} {b : Nat} {l : List Int} (h : At w b l) : At w.drew b l := h
theorem At.below {w w' : World} {B b : Nat} {l : List Int} (h : At w b l) (hb : Below B w w') (hB : b < B) : At w' b l := ⟨h.1, (hb.block b hB).trans h.2⟩
theorem At.later {w w' : World} {b : Nat} {l : List Int} (h : At w b l) (hb : Below w.heap.size w w') : At w' b l := h.below hb h.lt
theorem At.cell {w : World} {b i : Nat} {l : List Int} (h : At w b l) (hi : i < 13) : w.cell? ⟨b, i, none⟩ = some (.int .i64 (l.getD i 0)) := by
  have hi' : i < l.length := by rw [h.1]; exact hi
  rw [cell_of_row _ _ i _ 31 (0, 0) h.2]
  simp [vals, List.getElem?_eq_getElem hi']
theorem At.frozen {w : World} {b : Nat} {l : List Int} (h : At w b l) (i : Nat) : w.frozen? ⟨b, i, none⟩ = false := by
  have h2 := h.2
  simp [World.frozen?, h2]
theorem At.row {w : World} {b : Nat} {l0 : List Int} (h : At w b l0) {l : List Int} (hl : l.length = 13) : At (w.setRow b (vals l).toArray) b l := ⟨hl, setRow_heap w b _ _ 31 (0, 0) h.2⟩
theorem At.rowOther {w : World} {b c : Nat} {l : List Int} (h : At w b l) (hne : b ≠ c) (cs : Array Value) : At (w.setRow c cs) b l := ⟨h.1, (setRow_other w c b cs hne).trans h.2⟩
theorem At.set {w : World} {b i : Nat} {l : List Int} (h : At w b l) (z : Int) : At (w.setCell ⟨b, i, none⟩ (.int .i64 z)) b (l.set i z) := by
  rw [setCell_eq_setRow w b i _ 31 (0, 0) _ h.2]
  have : (vals l).toArray.setIfInBounds i (.int .i64 z) = (vals (l.set i z)).toArray := by simp [vals, List.map_set]
  rw [this]
  exact h.row (by rw [List.length_set]; exact h.1)
theorem At.setOther {w : World} {b c i : Nat} {l : List Int} (h : At w b l) (hne : b ≠ c) (v : Value) : At (w.setCell ⟨c, i, none⟩ v) b l := ⟨h.1, (Below.heap_setCell w _ v b hne).trans h.2⟩
theorem At.loadVar {w : World} {b : Nat} {l : List Int} (h : At w b l) : (loadVar 31 ⟨b, 0, none⟩).run Try.prog w = .ok (V l) w :=
  run_loadVar_row w b 31 31 _ (0, 0) _ h.2 Try.underlying31 rfl (by rw [vals_size, h.1]; exact size31)
theorem At.load {w : World} {b : Nat} {l : List Int} (h : At w b l) : (Instr.loadAt 31 (.pointer (some ⟨b, 0, none⟩))).run Try.prog w = .ok (V l) w := by
  simp only [Instr.loadAt, Instr.sureAddr, Sem.run_bind, Sem.run_pure, Result.andThen]
  exact h.loadVar
theorem At.store {w : World} {b : Nat} {l0 l : List Int} (h : At w b l0) (hl : l.length = 13) : (Instr.storeAt 31 (.pointer (some ⟨b, 0, none⟩)) (V l)).run Try.prog w = .ok () (w.setRow b (vals l).toArray) := by
  simp only [Instr.storeAt, Instr.sureAddr, Sem.run_bind, Sem.run_pure, Result.andThen]
  exact run_storeVar_row w b 31 31 _ _ h.2 (by rw [vals_size, hl]; exact size31) (by rw [vals_size, vals_size, h.1, hl]) (vals_one l)

theorem At.range {w : World} {b : Nat} {l : List Int} (h : At w b l) : w.rangeAt b 0 (vals l) := by
  intro j v hv
  have hj : j < (vals l).length := (List.getElem?_eq_some_iff.1 hv).1
  rw [vals_length, h.1] at hj
  rw [Nat.zero_add, h.cell hj, ← hv]
  simp [vals, List.getElem?_eq_getElem (show j < l.length by rw [h.1]; exact hj)]
theorem info_vals {l : List Int} (h : l.length = 13) : (Try.prog.info? 31).map (·.size) = some (vals l).length := by rw [vals_length, h]; exact size31

/-- The array is loaded whole, at the head of a plain region's operations. -/
theorem load_at {ops : Array Oper} {rest : List Oper} {op : Oper} {a : Act} {w : World} {Q : Exit → Act → World → Prop} (hgd : op.guard = none) (x : Operand) (ho : op.op = .load 31 x)
    (b : Nat) (hx : a.eval x = .pointer (some ⟨b, 0, none⟩)) {l : List Int} (hc : At w b l)
    (h : wpList Try.prog ops Q rest (a.put op.dst (V l)) w) : wpList Try.prog ops Q (op :: rest) a w :=
  wpList_plain hgd fun _ hK => by
    unfold Oper.wp execOp
    simp only [ho, hx, Sem.run_bind, hc.load, Result.andThen_ok, Sem.run_pure]
    exact hK _ _ h

/-- The array is stored whole. -/
theorem store_at {ops : Array Oper} {rest : List Oper} {op : Oper} {a : Act} {w : World} {Q : Exit → Act → World → Prop} (hgd : op.guard = none) (x y : Operand) (ho : op.op = .store 31 x y)
    (b : Nat) (l : List Int) (hx : a.eval x = .pointer (some ⟨b, 0, none⟩)) (hy : a.eval y = V l) {l0 : List Int} (hc : At w b l0) (hl : l.length = 13)
    (h : wpList Try.prog ops Q rest (a.put op.dst undef) (w.setRow b (vals l).toArray)) : wpList Try.prog ops Q (op :: rest) a w :=
  wpList_plain hgd fun _ hK => by
    unfold Oper.wp execOp
    simp only [ho, hx, hy, Sem.run_bind, hc.store hl, Result.andThen_ok, Sem.run_pure]
    exact hK _ _ h

/-- In a region that draws its order. -/
theorem yields_at {ops : Array Oper} {S : World → Prop} {op : Oper} {a : Act} (hw : Region.wanted op (yielded ops a.tmps) = true) (x : Operand) (ho : op.op = .load 31 x)
    (b : Nat) (hx : a.eval x = .pointer (some ⟨b, 0, none⟩)) (l : List Int) (hS : ∀ w, S w → At w b l) : YieldsIf Try.prog ops S op (V l) a :=
  .inl ⟨hw, fun w hw' => by
    unfold execOp
    simp only [ho, hx, Sem.run_bind, (hS w hw').load, Result.andThen_ok, Sem.run_pure]⟩

/-- A result that lies in a block. -/
theorem results_at {fn : Func} {t : Tmp} (h : fn.results = #[.cell t 31]) {tmps : Array Value} {w : World} {b : Nat} {l : List Int} (hp : tmps.getD t undef = .pointer (some ⟨b, 0, none⟩)) (hc : At w b l) :
    (results fn tmps).run Try.prog w = .ok (V l) w := by
  have h2 := hc.loadVar
  unfold results
  rw [h]
  simp only [List.mapM_toArray, List.mapM_cons, List.mapM_nil, hp, asAddr]
  simp [h2]

theorem results_at2 {fn : Func} {t u : Tmp} (h : fn.results = #[.cell t 31, .tmp u]) {tmps : Array Value} {w : World} {b : Nat} {l : List Int} (hp : tmps.getD t undef = .pointer (some ⟨b, 0, none⟩)) (hc : At w b l) :
    (results fn tmps).run Try.prog w = .ok (.tuple #[V l, tmps.getD u undef]) w := by
  have h2 := hc.loadVar
  unfold results
  rw [h]
  simp only [List.mapM_toArray, List.mapM_cons, List.mapM_nil, hp, asAddr]
  simp [h2]

theorem all_range_ints : ∀ (xs ys : List Int), xs.length = ys.length → ((List.range xs.length).all fun i => xs.getD i 0 == ys.getD i 0) = (xs == ys)
  | [], [], _ => rfl
  | x :: xs, y :: ys, h => by
    have ih := all_range_ints xs ys (by simpa using h)
    rw [List.length_cons, List.range_succ_eq_map, List.all_cons, List.all_map]
    simp only [List.getD_cons_zero, Function.comp_def, List.getD_cons_succ, ih]
    simp [List.cons_beq_cons]
  | [], _ :: _, h => by simp at h
  | _ :: _, [], h => by simp at h

/-- Two arrays are compared whole. -/
theorem eq_arrays (w : World) (xs ys : List Int) (hx : xs.length = 13) (hy : ys.length = 13) : (Op.equalIn 10000 31 (V xs) (V ys)).run Try.prog w = .ok (xs == ys) w := by
  have hsz : ∀ w, (sizeOf 3).run Try.prog w = .ok 1 w := fun _ => by kernel_rfl
  rw [← all_range_ints xs ys (hx.trans hy.symm), hx, List.range_eq_range', Op.equalIn]
  simp only [Sem.run_bind, run_underlying Try.underlying31, Result.andThen_ok, hsz, Std.Legacy.Range.forIn_eq_forIn_range', Std.Legacy.Range.size, Nat.sub_zero, Nat.add_sub_cancel, Nat.div_one]
  have hl : ∀ i ∈ List.range' 0 13 1, i < 13 := fun i hi => by simpa using (List.mem_range'_1.1 hi).2
  generalize List.range' 0 13 1 = l at hl ⊢
  induction l with
  | nil => simp
  | cons i l ih =>
    have hi : i < 13 := hl i (by simp)
    have px : (part 3 (vals xs).toArray (i * 1)).run Try.prog w = .ok (.int .i64 (xs.getD i 0)) w := by
      simp [part, isAgg, run_underlying Try.underlying3, vals, List.getD, List.getElem?_eq_getElem (show i < xs.length by omega)]
    have py : (part 3 (vals ys).toArray (i * 1)).run Try.prog w = .ok (.int .i64 (ys.getD i 0)) w := by
      simp [part, isAgg, run_underlying Try.underlying3, vals, List.getD, List.getElem?_eq_getElem (show i < ys.length by omega)]
    have pe : (Op.equalIn 9999 3 (.int .i64 (xs.getD i 0)) (.int .i64 (ys.getD i 0))).run Try.prog w = .ok (xs.getD i 0 == ys.getD i 0) w :=
      run_equalIn_int w 9998 3 .i64 .i64 _ _ Try.underlying3
    simp only [List.forIn_cons, Sem.run_bind, px, py, pe, Result.andThen_ok, List.all_cons]
    cases hb : (xs.getD i 0 == ys.getD i 0)
    · simp
    · simp only [Bool.not_true, Bool.false_eq_true, if_false, Sem.run_pure, Result.andThen_ok, Bool.true_and]
      exact ih fun j hj => hl j (by simp [hj])

end Go.Proofs.Ytdnppcbdifckcaa
/- Calls within a region that draws its order, whose contracts ask for S. Nothing of one program. -/
namespace Go.Proofs.Ytdnppcbdifckcaa.Calm

section
variable {P : Program} {ops : Array Oper} {S : World → Prop} {K : Act → Prop}
theorem call1s {o : Oper} {l : List Oper} {a : Act} {r x : Value} {f : FuncId} {ts : Array TypeId} {u : Operand} (hw : Region.wanted o (yielded ops a.tmps) = true)
    (ho : o.op = .call { callee := .value (.func f), args := #[u], argTypes := ts }) (hu : a.eval u = x) (hf : enters P f = true) (hs : Stays S)
    (hc : ∀ w, S w → Calls P f #[x] w fun e w' => e = .returned r ∧ RowKit.Below w.heap.size w w')
    (h : calmList P ops S K l (a.put o.dst r)) : calmList P ops S K (o :: l) a :=
  call (f := f) (args := #[x]) hw (fun w => by
    have e : ∀ args, (callFunc f args).run P w = .ok (.enter f args) w := fun args => enters_run hf args w
    subst hu
    unfold execOp
    simp [ho, go_sem, Act.eval, e]) (fun w hS => (hc w hS).mono fun e w' he => ⟨he.1, hs w w' hS he.2⟩) h
theorem call2s {o : Oper} {l : List Oper} {a : Act} {r x y : Value} {f : FuncId} {ts : Array TypeId} {u v : Operand} (hw : Region.wanted o (yielded ops a.tmps) = true)
    (ho : o.op = .call { callee := .value (.func f), args := #[u, v], argTypes := ts }) (hu : a.eval u = x) (hv : a.eval v = y) (hf : enters P f = true) (hs : Stays S)
    (hc : ∀ w, S w → Calls P f #[x, y] w fun e w' => e = .returned r ∧ RowKit.Below w.heap.size w w')
    (h : calmList P ops S K l (a.put o.dst r)) : calmList P ops S K (o :: l) a :=
  call (f := f) (args := #[x, y]) hw (fun w => by
    have e : ∀ args, (callFunc f args).run P w = .ok (.enter f args) w := fun args => enters_run hf args w
    subst hu
    subst hv
    unfold execOp
    simp [ho, go_sem, Act.eval, e]) (fun w hS => (hc w hS).mono fun e w' he => ⟨he.1, hs w w' hS he.2⟩) h
end
end Go.Proofs.Ytdnppcbdifckcaa.Calm
/- Calls of three and four arguments within a region that draws its order, whose contracts ask for S. Nothing of one program. -/
namespace Go.Proofs.Ytdnppcbdifckcaa.Calm

section
variable {P : Program} {ops : Array Oper} {S : World → Prop} {K : Act → Prop}
theorem call3s {o : Oper} {l : List Oper} {a : Act} {r x y z : Value} {f : FuncId} {ts : Array TypeId} {u v t : Operand} (hw : Region.wanted o (yielded ops a.tmps) = true)
    (ho : o.op = .call { callee := .value (.func f), args := #[u, v, t], argTypes := ts }) (hu : a.eval u = x) (hv : a.eval v = y) (ht : a.eval t = z) (hf : enters P f = true) (hs : Stays S)
    (hc : ∀ w, S w → Calls P f #[x, y, z] w fun e w' => e = .returned r ∧ RowKit.Below w.heap.size w w')
    (h : calmList P ops S K l (a.put o.dst r)) : calmList P ops S K (o :: l) a :=
  call (f := f) (args := #[x, y, z]) hw (fun w => by
    have e : ∀ args, (callFunc f args).run P w = .ok (.enter f args) w := fun args => enters_run hf args w
    subst hu
    subst hv
    subst ht
    unfold execOp
    simp [ho, go_sem, Act.eval, e]) (fun w hS => (hc w hS).mono fun e w' he => ⟨he.1, hs w w' hS he.2⟩) h
theorem call4s {o : Oper} {l : List Oper} {a : Act} {r x y z q : Value} {f : FuncId} {ts : Array TypeId} {u v t s : Operand} (hw : Region.wanted o (yielded ops a.tmps) = true)
    (ho : o.op = .call { callee := .value (.func f), args := #[u, v, t, s], argTypes := ts }) (hu : a.eval u = x) (hv : a.eval v = y) (ht : a.eval t = z) (hq : a.eval s = q) (hf : enters P f = true) (hs : Stays S)
    (hc : ∀ w, S w → Calls P f #[x, y, z, q] w fun e w' => e = .returned r ∧ RowKit.Below w.heap.size w w')
    (h : calmList P ops S K l (a.put o.dst r)) : calmList P ops S K (o :: l) a :=
  call (f := f) (args := #[x, y, z, q]) hw (fun w => by
    have e : ∀ args, (callFunc f args).run P w = .ok (.enter f args) w := fun args => enters_run hf args w
    subst hu
    subst hv
    subst ht
    subst hq
    unfold execOp
    simp [ho, go_sem, Act.eval, e]) (fun w hS => (hc w hS).mono fun e w' he => ⟨he.1, hs w w' hS he.2⟩) h
end
end Go.Proofs.Ytdnppcbdifckcaa.Calm
/- Structs by value and in boxes: dots, marks, updates, ops, transactions; loads, stores, comparisons of them. Nothing of one function. -/
namespace Go.Proofs.Ytdnppcbdifckcaa
open Go.ChangeShapes Go.WideShapes Go.ChangeAt Go.RowKit

/-- The block b is a row of these cells. -/
def Rw (w : World) (b : Nat) (t : TypeId) (cs : Array Value) : Prop := w.heap[b]? = some (.cells cs t)
section
variable {w w' : World} {b : Nat} {t : TypeId} {cs : Array Value}
theorem Rw.lt (h : Rw w b t cs) : b < w.heap.size := (Array.getElem?_eq_some_iff.1 h).1
theorem rw_new (w : World) (t : TypeId) (cs : Array Value) : Rw (w.alloc (.cells cs t)) w.heap.size t cs := heap_alloc_last w _
theorem rw_next (w : World) {b : Nat} (hb : b = w.heap.size) (t : TypeId) (cs : Array Value) : Rw (w.alloc (.cells cs t)) b t cs := by subst hb; exact rw_new w t cs
theorem Rw.later (h : Rw w b t cs) (hb : Below w.heap.size w w') : Rw w' b t cs := (hb.block b h.lt).trans h
theorem Rw.alloc (h : Rw w b t cs) (x : Obj) : Rw (w.alloc x) b t cs := (Below.heap_alloc w x b h.lt).trans h
theorem Rw.row (h : Rw w b t cs) (cs' : Array Value) : Rw (w.setRow b cs') b t cs' := setRow_heap w b _ _ t (0, 0) h
theorem Rw.rowOther (h : Rw w b t cs) {q : Nat} (hne : b ≠ q) (cs' : Array Value) : Rw (w.setRow q cs') b t cs := (setRow_other w q b cs' hne).trans h
theorem Rw.set (h : Rw w b t cs) (i : Nat) (v : Value) : Rw (w.setCell ⟨b, i, none⟩ v) b t (cs.setIfInBounds i v) := by
  rw [setCell_eq_setRow w b i _ t (0, 0) _ h]
  exact h.row _
theorem Rw.setOther (h : Rw w b t cs) {q : Nat} (hne : b ≠ q) (i : Nat) (v : Value) : Rw (w.setCell ⟨q, i, none⟩ v) b t cs := (Below.heap_setCell w _ v b hne).trans h
theorem Rw.cell (h : Rw w b t cs) (i : Nat) : w.cell? ⟨b, i, none⟩ = cs[i]? := cell_of_row _ _ i _ t (0, 0) h
theorem Rw.frozen (h : Rw w b t cs) (i : Nat) : w.frozen? ⟨b, i, none⟩ = false := by
  unfold Rw at h
  simp [World.frozen?, h]
theorem Rw.range (h : Rw w b t cs) (o : Nat) (l : List Value) (hl : ∀ j v, l[j]? = some v → cs[o + j]? = some v) : w.rangeAt b o l := fun j v hv => by
  rw [h.cell]
  exact hl j v hv
theorem Rw.drew (h : Rw w b t cs) : Rw w.drew b t cs := h
theorem Rw.load (h : Rw w b t cs) {d : TypeDesc} (hd : d.isRow = true) (hu : Try.prog.underlying t = some d) (hi : (Try.prog.info? t).map (·.size) = some cs.size) : (loadVar t ⟨b, 0, none⟩).run Try.prog w = .ok (.agg cs) w :=
  run_loadVar_row w b t t _ (0, 0) d h hu (by cases d <;> first | rfl | exact hd) hi
theorem Rw.loadAt (h : Rw w b t cs) {d : TypeDesc} (hd : d.isRow = true) (hu : Try.prog.underlying t = some d) (hi : (Try.prog.info? t).map (·.size) = some cs.size) : (Instr.loadAt t (.pointer (some ⟨b, 0, none⟩))).run Try.prog w = .ok (.agg cs) w := by
  simp only [Instr.loadAt, Instr.sureAddr, Sem.run_bind, Sem.run_pure, Result.andThen_ok, h.load hd hu hi]
theorem Rw.store (h : Rw w b t cs) (cs' : Array Value) (hi : (Try.prog.info? t).map (·.size) = some cs'.size) (ho : cs.size = cs'.size) (h1 : cs'.all (·.oneCell') = true) : (Instr.storeAt t (.pointer (some ⟨b, 0, none⟩)) (.agg cs')).run Try.prog w = .ok () (w.setRow b cs') := by
  simp only [Instr.storeAt, Instr.sureAddr, Sem.run_bind, Sem.run_pure, Result.andThen]
  exact run_storeVar_row w b t t _ _ h hi ho h1
end
theorem below_on {w v u : World} (h : Below w.heap.size w v) (k : Below v.heap.size v u) : Below w.heap.size w u := h.trans (k.mono h.size)
theorem cell_later {w w' : World} {b i : Nat} {v : Value} (hb : Below w.heap.size w w') (h : w.cell? ⟨b, i, none⟩ = some v) : w'.cell? ⟨b, i, none⟩ = some v := by
  have hlt : b < w.heap.size := by
    rcases Nat.lt_or_ge b w.heap.size with h' | h'
    · exact h'
    · simp [World.cell?, Array.getElem?_eq_none h'] at h
  rw [World.cell?_of_block (w := w) (hb.block b hlt)]
  exact h

/-- A dot by value, a mark. -/
abbrev D (p s : Int) : Value := .agg #[.int .i64 p, .int .i64 s]
abbrev MV (p s i : Int) : Value := .agg #[.int .i64 p, .int .i64 s, .int .i64 i]
theorem size29 : (Try.prog.info? 29).map (·.size) = some 2 := by kernel_rfl
theorem size44 : (Try.prog.info? 44).map (·.size) = some 3 := by kernel_rfl
theorem size66 : (Try.prog.info? 66).map (·.size) = some 10 := by kernel_rfl
theorem size34 : (Try.prog.info? 34).map (·.size) = some 17 := by kernel_rfl

section
variable {ops : Array Oper} {rest : List Oper} {op : Oper} {a : Act} {w : World} {Q : Exit → Act → World → Prop}
/-- A struct is loaded whole, out of a block or out of its midst. -/
theorem load_m (t : TypeId) (x : Operand) (ho : op.op = .load t x) (hw : Region.wanted op (yielded ops a.tmps) = true) (b o : Nat) (hx : a.eval x = .pointer (some ⟨b, o, none⟩)) {cs : List Value} (hc : w.rangeAt b o cs) {d : TypeDesc} (hu : Try.prog.underlying t = some d) (hd : d.isRow = true) (hi : (Try.prog.info? t).map (·.size) = some cs.length)
    (h : wpList Try.prog ops Q rest (a.put op.dst (.agg cs.toArray)) w) : wpList Try.prog ops Q (op :: rest) a w :=
  BigFrame.wpList_want hw fun _ hK => by
    have h2 := run_loadVar_mid (P := Try.prog) w b o t cs d hc hu hd hi
    unfold Oper.wp execOp
    simp only [ho, hx, Instr.loadAt, Instr.sureAddr, Sem.run_bind, Sem.run_pure, h2, Result.andThen_ok]
    exact hK _ _ h
theorem load_r (t : TypeId) (x : Operand) (ho : op.op = .load t x) (hw : Region.wanted op (yielded ops a.tmps) = true) (b : Nat) (hx : a.eval x = .pointer (some ⟨b, 0, none⟩)) {cs : Array Value} (hc : Rw w b t cs) {d : TypeDesc} (hu : Try.prog.underlying t = some d) (hd : d.isRow = true) (hi : (Try.prog.info? t).map (·.size) = some cs.size)
    (h : wpList Try.prog ops Q rest (a.put op.dst (.agg cs)) w) : wpList Try.prog ops Q (op :: rest) a w :=
  BigFrame.wpList_want hw fun _ hK => by
    unfold Oper.wp execOp
    simp only [ho, hx, Sem.run_bind, hc.loadAt hd hu hi, Result.andThen_ok, Sem.run_pure]
    exact hK _ _ h
theorem store_r (hgd : op.guard = none) (t : TypeId) (x y : Operand) (ho : op.op = .store t x y) (b : Nat) (cs' : Array Value) (hx : a.eval x = .pointer (some ⟨b, 0, none⟩)) (hy : a.eval y = .agg cs') {cs : Array Value} (hc : Rw w b t cs) (hi : (Try.prog.info? t).map (·.size) = some cs'.size) (hs : cs.size = cs'.size) (h1 : cs'.all (·.oneCell') = true)
    (h : wpList Try.prog ops Q rest (a.put op.dst undef) (w.setRow b cs')) : wpList Try.prog ops Q (op :: rest) a w :=
  wpList_plain hgd fun _ hK => by
    unfold Oper.wp execOp
    simp only [ho, hx, hy, Sem.run_bind, hc.store cs' hi hs h1, Result.andThen_ok, Sem.run_pure]
    exact hK _ _ h
end

/-- Results that lie in boxes. -/
theorem results_r {fn : Func} {t : Tmp} {ty : TypeId} (h : fn.results = #[.cell t ty]) {tmps : Array Value} {w : World} {b : Nat} {cs : Array Value} {d : TypeDesc} (hp : tmps.getD t undef = .pointer (some ⟨b, 0, none⟩)) (hc : Rw w b ty cs)
    (hd : d.isRow = true) (hu : Try.prog.underlying ty = some d) (hi : (Try.prog.info? ty).map (·.size) = some cs.size) : (results fn tmps).run Try.prog w = .ok (.agg cs) w := by
  have h2 := hc.load hd hu hi
  unfold results
  rw [h]
  simp only [List.mapM_toArray, List.mapM_cons, List.mapM_nil, hp, asAddr]
  simp [h2]
theorem results_rt {fn : Func} {t u : Tmp} {ty : TypeId} (h : fn.results = #[.cell t ty, .tmp u]) {tmps : Array Value} {w : World} {b : Nat} {cs : Array Value} {d : TypeDesc} (hp : tmps.getD t undef = .pointer (some ⟨b, 0, none⟩)) (hc : Rw w b ty cs)
    (hd : d.isRow = true) (hu : Try.prog.underlying ty = some d) (hi : (Try.prog.info? ty).map (·.size) = some cs.size) : (results fn tmps).run Try.prog w = .ok (.tuple #[.agg cs, tmps.getD u undef]) w := by
  have h2 := hc.load hd hu hi
  unfold results
  rw [h]
  simp only [List.mapM_toArray, List.mapM_cons, List.mapM_nil, hp, asAddr]
  simp [h2]
end Go.Proofs.Ytdnppcbdifckcaa
