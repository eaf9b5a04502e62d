/- A region that draws its order, whose last operation waits for all others: facts of the others, and what the last one does. Nothing of one program. -/
import Derived.Test.YtknpnjhedfdggaaFacts
namespace Go.Proofs.Ytknpnjhedfdggaa.Facts
open Go.RowKit

section
variable {P : Program} {Q : Exit → Act → World → Prop} {l : List Oper}
/-- The operation waits for all ahead of it. -/
def waitsB (md : Region.Mode) (o : Oper) (n : Nat) : Bool := (List.range n).all fun j => o.after.any fun e => e.on == j && Region.binds md e
theorem waitsB_spec {md : Region.Mode} {o : Oper} {n : Nat} (h : waitsB md o n = true) (j : Nat) (hj : j < n) : ∃ e ∈ o.after, e.on = j ∧ Region.binds md e = true := by
  have := List.all_eq_true.1 h j (by simpa using hj)
  rw [Array.any_eq_true] at this
  obtain ⟨k, hk, h⟩ := this
  simp only [Bool.and_eq_true, beq_iff_eq] at h
  exact ⟨o.after[k], by simp, h.1, h.2⟩

theorem regionLast {id : Nat} {a : Act} {w : World} (hm : P.follows .mixedOrders = true) (hd : Owed.downB .any l = true) (n : Nat) (o : Oper) (hn : l.length = n + 1) (ho : l[n]? = some o) (hw : waitsB .any o n = true)
    (S : World → Prop) (A : (Nat → Value) → Act) (F : List Fact) (D : List (List Nat)) (hD : F.map (·.1) = D) (hDl : D.length = n) (hl : nearB .any l D = true)
    (x0 : Nat → Value) (hA : a = A x0) (h0 : S w.drew) (hstep : Owed.each (fun i o => i < n → StepOk P .any Q S A F i o) 0 l)
    (hend : ∀ x w', S w' → (∀ (i : Nat) (f : Fact), F[i]? = some f → holds f x w') → o.wp P (A x) w' (fun a' w'' => Q .normal a' w'') Q) : (Code.region id l.toArray true).wp P Q a w := by
  have hFl : F.length = n := by rw [← hDl, ← hD, List.length_map]
  refine Owed.region hm hd (fun L a w => (L n = true ∧ (∀ i, i < l.length → L i = true) ∧ Q .normal a w) ∨ (L n = false ∧ Inv .any l S A F L a w)) ?_ ?_ (each_imp l 0 hstep ?_) ?_
  · rintro L L' a w hL (⟨h1, h2, h3⟩ | ⟨h1, hS, hc, x, hx, hf⟩)
    · exact .inl ⟨by rw [← hL n (by omega)]; exact h1, fun i hi => by rw [← hL i hi]; exact h2 i hi, h3⟩
    · refine .inr ⟨by rw [← hL n (by omega)]; exact h1, hS, fun i o hi hLi e he hb => ?_, x, hx, fun i f hi hfi hLi => hf i f hi hfi ((hL i hi).trans hLi)⟩
      have hilt : i < l.length := (List.getElem?_eq_some_iff.1 hi).1
      have := (Owed.downB_spec hd hi).2 e he hb
      rw [← hL e.on (by omega)]
      exact hc i o hi ((hL i hilt).trans hLi) e he hb
  · intro L hL
    refine .inr ⟨hL n (by omega), h0, fun i o hi hLi => ?_, x0, hA, fun i f hi _ hLi => ?_⟩
    · rw [hL i (List.getElem?_eq_some_iff.1 hi).1] at hLi; cases hLi
    · rw [hL i hi] at hLi; cases hLi
  · intro i o' hi hok
    rw [Nat.zero_add] at hok ⊢
    have hilt : i < l.length := (List.getElem?_eq_some_iff.1 hi).1
    rintro L a w (⟨_, h2, _⟩ | ⟨h1, hS, hc, x, rfl, hf⟩) hLi hdep
    · rw [h2 i hilt] at hLi; cases hLi
    · by_cases hin : i = n
      · subst hin
        obtain rfl : o = o' := by rw [ho] at hi; exact Option.some.inj hi
        have all : ∀ j, j < i → L j = true := fun j hj => by
          obtain ⟨e, he, rfl, hb⟩ := waitsB_spec hw j hj
          exact hdep e he hb
        refine Oper.wp_mono (fun a' w' h => .inl ⟨Owed.upd_self L i, fun j hj => ?_, h⟩) (hend x w hS fun j f hfj => ?_)
        · by_cases e : j = i
          · subst e; exact Owed.upd_self L j
          · rw [Owed.upd_ne L e]
            exact all j (by omega)
        · have hj : j < i := by have := (List.getElem?_eq_some_iff.1 hfj).1; omega
          exact hf j f (by omega) hfj (all j hj)
      · have hstep' := hok (by omega)
        have hdown := (Owed.downB_spec hd hi).2
        refine Oper.wp_mono (fun a' w' h => ?_) (hstep' x w hS (fun e he hb f hfe => hf e.on f (by have := hdown e he hb; omega) hfe (hdep e he hb)))
        obtain ⟨u, rfl, hS', hfi, hoth⟩ := h
        refine .inr ⟨by rw [Owed.upd_ne L (Ne.symm hin)]; exact h1, hS', fun j o2 hj hLj e he hb => ?_, put x i u, rfl, fun j f hj hfj hLj => ?_⟩
        · by_cases e1 : j = i
          · subst e1
            obtain rfl : o' = o2 := by rw [hi] at hj; exact Option.some.inj hj
            have := hdep e he hb
            unfold Owed.upd
            simp [this]
          · rw [Owed.upd_ne L e1] at hLj
            have := hc j o2 hj hLj e he hb
            unfold Owed.upd
            simp [this]
        · by_cases e1 : j = i
          · subst e1; exact hfi f hfj
          · rw [Owed.upd_ne L e1] at hLj
            have h1' := hoth j f e1 hfj (hf j f hj hfj hLj)
            have e2 : f.1.map (put x i u) = f.1.map x := by
              apply List.map_congr_left
              intro k hk
              have hj' : l[j]? = some l[j] := List.getElem?_eq_getElem hj
              have hki : k ≠ i := by
                rcases nearB_spec hl hj' (by rw [← hD, List.getElem?_map, hfj]; rfl) hk with rfl | ⟨e, he, rfl, hb⟩
                · exact e1
                · intro h2
                  have := hc j _ hj' hLj e he hb
                  rw [h2, hLi] at this; cases this
              simp [put, hki]
            unfold holds at *
            rw [e2]
            exact h1'
  · rintro L a w hL (⟨_, _, h⟩ | ⟨h1, _⟩)
    · exact h
    · rw [hL n (by omega)] at h1; cases h1
end
end Go.Proofs.Ytknpnjhedfdggaa.Facts
