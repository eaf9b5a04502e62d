/- The statement VecOrder, and three arrays that lie in boxes. -/
import Derived.Test.YtbeehmcoeblbcaaHeads
namespace Go.Proofs.Ytbeehmcoeblbcaa
open Go.RowKit

theorem three_boxes (a b c : List Int) (w : World) (ha : a.length = 13) (hb : b.length = 13) (hc : c.length = 13) : ∀ w0, w0 = ((w.alloc (.cells (vals a).toArray 23)).alloc (.cells (vals b).toArray 23)).alloc (.cells (vals c).toArray 23) →
    At w0 w.heap.size a ∧ At w0 (w.heap.size + 1) b ∧ At w0 (w.heap.size + 1 + 1) c ∧ Below w.heap.size w w0 := by
  rintro w0 rfl
  exact ⟨((at_new w a ha).alloc _).alloc _, (at_next _ (by simp) b hb).alloc _, at_next _ (by simp) c hc, (((Below.refl _ _).alloc (Nat.le_refl _) _).alloc (by simp) _).alloc (by simp; omega) _⟩

theorem lq_refl {a : List Int} (ha : a.length = 13) : lq a a = true := (lq_iff ha ha).2 fun _ _ => Int.le_refl _
theorem lq_trans {a b c : List Int} (ha : a.length = 13) (hb : b.length = 13) (hc : c.length = 13) (h1 : lq a b = true) (h2 : lq b c = true) : lq a c = true :=
  (lq_iff ha hc).2 fun i hi => Int.le_trans ((lq_iff ha hb).1 h1 i hi) ((lq_iff hb hc).1 h2 i hi)
theorem lq_both {a b : List Int} (ha : a.length = 13) (hb : b.length = 13) : (lq a b && lq b a) = (a == b) := by
  rw [Bool.eq_iff_iff, Bool.and_eq_true, lq_iff ha hb, lq_iff hb ha, beq_iff_eq]
  constructor
  · rintro ⟨h1, h2⟩
    exact ext13 ha hb fun i hi => Int.le_antisymm (h1 i hi) (h2 i hi)
  · rintro rfl
    exact ⟨fun _ _ => Int.le_refl _, fun _ _ => Int.le_refl _⟩

set_option maxHeartbeats 2000000 in
set_option maxRecDepth 100000 in
theorem order_walk (a b c : List Int) (w : World) (ha : a.length = 13) (hb : b.length = 13) (hc : c.length = 13) :
    Calls Try.prog 6 #[V a, V b, V c] w fun e w' => e = .returned (.bool true) ∧ Below w.heap.size w w' := by
  have hAA := fun w1 => leq_any a a w1 ha ha
  have hAB := fun w1 => leq_any a b w1 ha hb
  have hBA := fun w1 => leq_any b a w1 hb ha
  have hBC := fun w1 => leq_any b c w1 hb hc
  have hAC := fun w1 => leq_any a c w1 ha hc
  have heq := fun w1 => eq_arrays w1 a b ha hb
  have hz : lq a b = true → lq b c = true → lq a c = true := lq_trans ha hb hc
  rw [lq_refl ha] at hAA
  rw [← lq_both ha hb] at heq
  obtain ⟨h1, h2, h3, hbel⟩ := three_boxes a b c w ha hb hc _ rfl
  clear ha hb hc
  generalize lq a b = x at hAB hz heq
  generalize lq b a = u at hBA heq
  generalize lq b c = y at hBC hz
  generalize lq a c = z at hAC hz
  have hs : Calm.Stays (fun w' => At w' w.heap.size a ∧ At w' (w.heap.size + 1) b ∧ At w' (w.heap.size + 1 + 1) c ∧ Below w.heap.size w w') := fun w1 w2 h hb => ⟨h.1.later hb, h.2.1.later hb, h.2.2.1.later hb, below_on h.2.2.2 hb⟩
  have hcase : (x = false) ∨ (x = true ∧ y = false) ∨ (x = true ∧ y = true ∧ z = true) := by
    cases x
    · exact .inl rfl
    · cases y
      · exact .inr (.inl ⟨rfl, rfl⟩)
      · exact .inr (.inr ⟨rfl, rfl, hz rfl rfl⟩)
  clear hz
  go_enter Try.func6, Try.ntmps6
  go_wp2_with (first | refine load_atg _ rfl rfl _ rfl h1 ?_ | refine load_atg _ rfl rfl _ rfl h2 ?_ | refine load_atg _ rfl rfl _ rfl h3 ?_)
  refine (hAB _).mono ?_
  rintro e w1 ⟨rfl, hb1⟩
  replace h1 := h1.later hb1
  replace h2 := h2.later hb1
  replace h3 := h3.later hb1
  replace hbel := below_on hbel hb1
  clear hb1
  rcases hcase with rfl | ⟨rfl, rfl⟩ | ⟨rfl, rfl, rfl⟩
  · go_wp2
    refine Calm.region (by kernel_rfl) (by kernel_rfl) (fun w' => At w' w.heap.size a ∧ At w' (w.heap.size + 1) b ∧ At w' (w.heap.size + 1 + 1) c ∧ Below w.heap.size w w') ⟨h1, h2, h3, hbel.drew⟩ ?_
    clear h1 h2 h3 hbel
    cases u
    all_goals
      refine Calm.load (by rfl) _ rfl rfl (fun _ h => by go_split_ands; assumption) ?_
      simp only [Act.put, List.setIfInBounds_toArray, List.set_cons_zero, List.set_cons_succ]
    all_goals
      refine Calm.load (by rfl) _ rfl rfl (fun _ h => by go_split_ands; assumption) ?_
      simp only [Act.put, List.setIfInBounds_toArray, List.set_cons_zero, List.set_cons_succ]
    all_goals
      refine Calm.call2 (by rfl) rfl rfl rfl (by kernel_rfl) hs hAA ?_
      simp only [Act.put, List.setIfInBounds_toArray, List.set_cons_zero, List.set_cons_succ]
    all_goals
      refine Calm.pure (v := ?_) (by rfl) ?_ ?_
      rotate_left
      focus (intro w hSw; go_simp <;> rfl)
      simp only [Act.put, List.setIfInBounds_toArray, List.set_cons_zero, List.set_cons_succ]
    all_goals
      first
        | (refine Calm.skip ?_ ?_; focus rfl)
        | (refine Calm.load (by rfl) _ rfl rfl (fun _ h => by go_split_ands; assumption) ?_)
      simp only [Act.put, List.setIfInBounds_toArray, List.set_cons_zero, List.set_cons_succ]
    all_goals
      first
        | (refine Calm.skip ?_ ?_; focus rfl)
        | (refine Calm.load (by rfl) _ rfl rfl (fun _ h => by go_split_ands; assumption) ?_)
      simp only [Act.put, List.setIfInBounds_toArray, List.set_cons_zero, List.set_cons_succ]
    all_goals
      first
        | (refine Calm.skip ?_ ?_; focus rfl)
        | (refine Calm.call2 (by rfl) rfl rfl rfl (by kernel_rfl) hs hAB ?_)
      simp only [Act.put, List.setIfInBounds_toArray, List.set_cons_zero, List.set_cons_succ]
    all_goals
      first
        | (refine Calm.skip ?_ ?_; focus rfl)
        | (refine Calm.pure (v := ?_) (by rfl) ?_ ?_
           rotate_left
           focus (intro w hSw; go_simp <;> rfl))
      simp only [Act.put, List.setIfInBounds_toArray, List.set_cons_zero, List.set_cons_succ]
    all_goals
      first
        | (refine Calm.skip ?_ ?_; focus rfl)
        | (refine Calm.load (by rfl) _ rfl rfl (fun _ h => by go_split_ands; assumption) ?_)
      simp only [Act.put, List.setIfInBounds_toArray, List.set_cons_zero, List.set_cons_succ]
    all_goals
      first
        | (refine Calm.skip ?_ ?_; focus rfl)
        | (refine Calm.load (by rfl) _ rfl rfl (fun _ h => by go_split_ands; assumption) ?_)
      simp only [Act.put, List.setIfInBounds_toArray, List.set_cons_zero, List.set_cons_succ]
    all_goals
      first
        | (refine Calm.skip ?_ ?_; focus rfl)
        | (refine Calm.call2 (by rfl) rfl rfl rfl (by kernel_rfl) hs hBA ?_)
      simp only [Act.put, List.setIfInBounds_toArray, List.set_cons_zero, List.set_cons_succ]
    all_goals
      first
        | (refine Calm.skip ?_ ?_; focus rfl)
        | (refine Calm.pure (v := ?_) (by rfl) ?_ ?_
           rotate_left
           focus (intro w hSw; go_simp <;> rfl))
      simp only [Act.put, List.setIfInBounds_toArray, List.set_cons_zero, List.set_cons_succ]
    all_goals
      first
        | (refine Calm.skip ?_ ?_; focus rfl)
        | (refine Calm.load (by rfl) _ rfl rfl (fun _ h => by go_split_ands; assumption) ?_)
      simp only [Act.put, List.setIfInBounds_toArray, List.set_cons_zero, List.set_cons_succ]
    all_goals
      first
        | (refine Calm.skip ?_ ?_; focus rfl)
        | (refine Calm.load (by rfl) _ rfl rfl (fun _ h => by go_split_ands; assumption) ?_)
      simp only [Act.put, List.setIfInBounds_toArray, List.set_cons_zero, List.set_cons_succ]
    all_goals
      first
        | (refine Calm.skip ?_ ?_; focus rfl)
        | (refine Calm.pure (v := ?_) (by rfl) ?_ ?_
           rotate_left
           focus (intro w hSw; go_simp <;> rfl))
      simp only [Act.put, List.setIfInBounds_toArray, List.set_cons_zero, List.set_cons_succ]
    all_goals
      first
        | (refine Calm.skip ?_ ?_; focus rfl)
        | (refine Calm.pure (v := ?_) (by rfl) ?_ ?_
           rotate_left
           focus (intro w hSw; go_simp <;> rfl))
      simp only [Act.put, List.setIfInBounds_toArray, List.set_cons_zero, List.set_cons_succ]
    all_goals
      refine Calm.pure (v := ?_) (by rfl) ?_ ?_
      rotate_left
      focus (intro w hSw; go_simp <;> rfl)
      simp only [Act.put, List.setIfInBounds_toArray, List.set_cons_zero, List.set_cons_succ]
    all_goals
      refine Calm.pure (v := ?_) (by rfl) ?_ ?_
      rotate_left
      focus (intro w hSw; go_simp <;> rfl)
      simp only [Act.put, List.setIfInBounds_toArray, List.set_cons_zero, List.set_cons_succ]
    all_goals
      first
        | (refine Calm.skip ?_ ?_; focus rfl)
        | (refine Calm.call0 (by rfl) rfl (by kernel_rfl) hs heads_any ?_)
      simp only [Act.put, List.setIfInBounds_toArray, List.set_cons_zero, List.set_cons_succ]
    all_goals
      refine Calm.pure (v := ?_) (by rfl) ?_ ?_
      rotate_left
      focus (intro w hSw; go_simp <;> rfl)
      simp only [Act.put, List.setIfInBounds_toArray, List.set_cons_zero, List.set_cons_succ]
    all_goals
      refine Calm.pure (v := ?_) (by rfl) ?_ ?_
      rotate_left
      focus (intro w hSw; go_simp <;> rfl)
      simp only [Act.put, List.setIfInBounds_toArray, List.set_cons_zero, List.set_cons_succ]
    all_goals
      rintro w9 ⟨_, _, _, hbel9⟩
      go_wp2
      go_ret
      exact ⟨rfl, hbel9⟩
  · go_wp2_with (first | refine load_atg _ rfl rfl _ rfl h1 ?_ | refine load_atg _ rfl rfl _ rfl h2 ?_ | refine load_atg _ rfl rfl _ rfl h3 ?_)
    refine (hBC _).mono ?_
    rintro e w2 ⟨rfl, hb2⟩
    replace h1 := h1.later hb2
    replace h2 := h2.later hb2
    replace h3 := h3.later hb2
    replace hbel := below_on hbel hb2
    clear hb2
    go_wp2
    refine Calm.region (by kernel_rfl) (by kernel_rfl) (fun w' => At w' w.heap.size a ∧ At w' (w.heap.size + 1) b ∧ At w' (w.heap.size + 1 + 1) c ∧ Below w.heap.size w w') ⟨h1, h2, h3, hbel.drew⟩ ?_
    clear h1 h2 h3 hbel
    cases u
    all_goals
      refine Calm.load (by rfl) _ rfl rfl (fun _ h => by go_split_ands; assumption) ?_
      simp only [Act.put, List.setIfInBounds_toArray, List.set_cons_zero, List.set_cons_succ]
    all_goals
      refine Calm.load (by rfl) _ rfl rfl (fun _ h => by go_split_ands; assumption) ?_
      simp only [Act.put, List.setIfInBounds_toArray, List.set_cons_zero, List.set_cons_succ]
    all_goals
      refine Calm.call2 (by rfl) rfl rfl rfl (by kernel_rfl) hs hAA ?_
      simp only [Act.put, List.setIfInBounds_toArray, List.set_cons_zero, List.set_cons_succ]
    all_goals
      refine Calm.pure (v := ?_) (by rfl) ?_ ?_
      rotate_left
      focus (intro w hSw; go_simp <;> rfl)
      simp only [Act.put, List.setIfInBounds_toArray, List.set_cons_zero, List.set_cons_succ]
    all_goals
      first
        | (refine Calm.skip ?_ ?_; focus rfl)
        | (refine Calm.load (by rfl) _ rfl rfl (fun _ h => by go_split_ands; assumption) ?_)
      simp only [Act.put, List.setIfInBounds_toArray, List.set_cons_zero, List.set_cons_succ]
    all_goals
      first
        | (refine Calm.skip ?_ ?_; focus rfl)
        | (refine Calm.load (by rfl) _ rfl rfl (fun _ h => by go_split_ands; assumption) ?_)
      simp only [Act.put, List.setIfInBounds_toArray, List.set_cons_zero, List.set_cons_succ]
    all_goals
      first
        | (refine Calm.skip ?_ ?_; focus rfl)
        | (refine Calm.call2 (by rfl) rfl rfl rfl (by kernel_rfl) hs hAB ?_)
      simp only [Act.put, List.setIfInBounds_toArray, List.set_cons_zero, List.set_cons_succ]
    all_goals
      first
        | (refine Calm.skip ?_ ?_; focus rfl)
        | (refine Calm.pure (v := ?_) (by rfl) ?_ ?_
           rotate_left
           focus (intro w hSw; go_simp <;> rfl))
      simp only [Act.put, List.setIfInBounds_toArray, List.set_cons_zero, List.set_cons_succ]
    all_goals
      first
        | (refine Calm.skip ?_ ?_; focus rfl)
        | (refine Calm.load (by rfl) _ rfl rfl (fun _ h => by go_split_ands; assumption) ?_)
      simp only [Act.put, List.setIfInBounds_toArray, List.set_cons_zero, List.set_cons_succ]
    all_goals
      first
        | (refine Calm.skip ?_ ?_; focus rfl)
        | (refine Calm.load (by rfl) _ rfl rfl (fun _ h => by go_split_ands; assumption) ?_)
      simp only [Act.put, List.setIfInBounds_toArray, List.set_cons_zero, List.set_cons_succ]
    all_goals
      first
        | (refine Calm.skip ?_ ?_; focus rfl)
        | (refine Calm.call2 (by rfl) rfl rfl rfl (by kernel_rfl) hs hBA ?_)
      simp only [Act.put, List.setIfInBounds_toArray, List.set_cons_zero, List.set_cons_succ]
    all_goals
      first
        | (refine Calm.skip ?_ ?_; focus rfl)
        | (refine Calm.pure (v := ?_) (by rfl) ?_ ?_
           rotate_left
           focus (intro w hSw; go_simp <;> rfl))
      simp only [Act.put, List.setIfInBounds_toArray, List.set_cons_zero, List.set_cons_succ]
    all_goals
      first
        | (refine Calm.skip ?_ ?_; focus rfl)
        | (refine Calm.load (by rfl) _ rfl rfl (fun _ h => by go_split_ands; assumption) ?_)
      simp only [Act.put, List.setIfInBounds_toArray, List.set_cons_zero, List.set_cons_succ]
    all_goals
      first
        | (refine Calm.skip ?_ ?_; focus rfl)
        | (refine Calm.load (by rfl) _ rfl rfl (fun _ h => by go_split_ands; assumption) ?_)
      simp only [Act.put, List.setIfInBounds_toArray, List.set_cons_zero, List.set_cons_succ]
    all_goals
      first
        | (refine Calm.skip ?_ ?_; focus rfl)
        | (refine Calm.pure (v := ?_) (by rfl) ?_ ?_
           rotate_left
           focus (intro w hSw; go_simp <;> rfl))
      simp only [Act.put, List.setIfInBounds_toArray, List.set_cons_zero, List.set_cons_succ]
    all_goals
      first
        | (refine Calm.skip ?_ ?_; focus rfl)
        | (refine Calm.pure (v := ?_) (by rfl) ?_ ?_
           rotate_left
           focus (intro w hSw; go_simp <;> rfl))
      simp only [Act.put, List.setIfInBounds_toArray, List.set_cons_zero, List.set_cons_succ]
    all_goals
      refine Calm.pure (v := ?_) (by rfl) ?_ ?_
      rotate_left
      focus (intro w hSw; go_simp <;> rfl)
      simp only [Act.put, List.setIfInBounds_toArray, List.set_cons_zero, List.set_cons_succ]
    all_goals
      refine Calm.pure (v := ?_) (by rfl) ?_ ?_
      rotate_left
      focus (intro w hSw; go_simp <;> rfl)
      simp only [Act.put, List.setIfInBounds_toArray, List.set_cons_zero, List.set_cons_succ]
    all_goals
      first
        | (refine Calm.skip ?_ ?_; focus rfl)
        | (refine Calm.call0 (by rfl) rfl (by kernel_rfl) hs heads_any ?_)
      simp only [Act.put, List.setIfInBounds_toArray, List.set_cons_zero, List.set_cons_succ]
    all_goals
      refine Calm.pure (v := ?_) (by rfl) ?_ ?_
      rotate_left
      focus (intro w hSw; go_simp <;> rfl)
      simp only [Act.put, List.setIfInBounds_toArray, List.set_cons_zero, List.set_cons_succ]
    all_goals
      refine Calm.pure (v := ?_) (by rfl) ?_ ?_
      rotate_left
      focus (intro w hSw; go_simp <;> rfl)
      simp only [Act.put, List.setIfInBounds_toArray, List.set_cons_zero, List.set_cons_succ]
    all_goals
      rintro w9 ⟨_, _, _, hbel9⟩
      go_wp2
      go_ret
      exact ⟨rfl, hbel9⟩
  · go_wp2_with (first | refine load_atg _ rfl rfl _ rfl h1 ?_ | refine load_atg _ rfl rfl _ rfl h2 ?_ | refine load_atg _ rfl rfl _ rfl h3 ?_)
    refine (hBC _).mono ?_
    rintro e w2 ⟨rfl, hb2⟩
    replace h1 := h1.later hb2
    replace h2 := h2.later hb2
    replace h3 := h3.later hb2
    replace hbel := below_on hbel hb2
    clear hb2
    go_wp2_with (first | refine load_atg _ rfl rfl _ rfl h1 ?_ | refine load_atg _ rfl rfl _ rfl h2 ?_ | refine load_atg _ rfl rfl _ rfl h3 ?_)
    refine (hAC _).mono ?_
    rintro e w3 ⟨rfl, hb3⟩
    replace h1 := h1.later hb3
    replace h2 := h2.later hb3
    replace h3 := h3.later hb3
    replace hbel := below_on hbel hb3
    clear hb3
    go_wp2
    refine Calm.region (by kernel_rfl) (by kernel_rfl) (fun w' => At w' w.heap.size a ∧ At w' (w.heap.size + 1) b ∧ At w' (w.heap.size + 1 + 1) c ∧ Below w.heap.size w w') ⟨h1, h2, h3, hbel.drew⟩ ?_
    clear h1 h2 h3 hbel
    cases u
    all_goals
      refine Calm.load (by rfl) _ rfl rfl (fun _ h => by go_split_ands; assumption) ?_
      simp only [Act.put, List.setIfInBounds_toArray, List.set_cons_zero, List.set_cons_succ]
    all_goals
      refine Calm.load (by rfl) _ rfl rfl (fun _ h => by go_split_ands; assumption) ?_
      simp only [Act.put, List.setIfInBounds_toArray, List.set_cons_zero, List.set_cons_succ]
    all_goals
      refine Calm.call2 (by rfl) rfl rfl rfl (by kernel_rfl) hs hAA ?_
      simp only [Act.put, List.setIfInBounds_toArray, List.set_cons_zero, List.set_cons_succ]
    all_goals
      refine Calm.pure (v := ?_) (by rfl) ?_ ?_
      rotate_left
      focus (intro w hSw; go_simp <;> rfl)
      simp only [Act.put, List.setIfInBounds_toArray, List.set_cons_zero, List.set_cons_succ]
    all_goals
      first
        | (refine Calm.skip ?_ ?_; focus rfl)
        | (refine Calm.load (by rfl) _ rfl rfl (fun _ h => by go_split_ands; assumption) ?_)
      simp only [Act.put, List.setIfInBounds_toArray, List.set_cons_zero, List.set_cons_succ]
    all_goals
      first
        | (refine Calm.skip ?_ ?_; focus rfl)
        | (refine Calm.load (by rfl) _ rfl rfl (fun _ h => by go_split_ands; assumption) ?_)
      simp only [Act.put, List.setIfInBounds_toArray, List.set_cons_zero, List.set_cons_succ]
    all_goals
      first
        | (refine Calm.skip ?_ ?_; focus rfl)
        | (refine Calm.call2 (by rfl) rfl rfl rfl (by kernel_rfl) hs hAB ?_)
      simp only [Act.put, List.setIfInBounds_toArray, List.set_cons_zero, List.set_cons_succ]
    all_goals
      first
        | (refine Calm.skip ?_ ?_; focus rfl)
        | (refine Calm.pure (v := ?_) (by rfl) ?_ ?_
           rotate_left
           focus (intro w hSw; go_simp <;> rfl))
      simp only [Act.put, List.setIfInBounds_toArray, List.set_cons_zero, List.set_cons_succ]
    all_goals
      first
        | (refine Calm.skip ?_ ?_; focus rfl)
        | (refine Calm.load (by rfl) _ rfl rfl (fun _ h => by go_split_ands; assumption) ?_)
      simp only [Act.put, List.setIfInBounds_toArray, List.set_cons_zero, List.set_cons_succ]
    all_goals
      first
        | (refine Calm.skip ?_ ?_; focus rfl)
        | (refine Calm.load (by rfl) _ rfl rfl (fun _ h => by go_split_ands; assumption) ?_)
      simp only [Act.put, List.setIfInBounds_toArray, List.set_cons_zero, List.set_cons_succ]
    all_goals
      first
        | (refine Calm.skip ?_ ?_; focus rfl)
        | (refine Calm.call2 (by rfl) rfl rfl rfl (by kernel_rfl) hs hBA ?_)
      simp only [Act.put, List.setIfInBounds_toArray, List.set_cons_zero, List.set_cons_succ]
    all_goals
      first
        | (refine Calm.skip ?_ ?_; focus rfl)
        | (refine Calm.pure (v := ?_) (by rfl) ?_ ?_
           rotate_left
           focus (intro w hSw; go_simp <;> rfl))
      simp only [Act.put, List.setIfInBounds_toArray, List.set_cons_zero, List.set_cons_succ]
    all_goals
      first
        | (refine Calm.skip ?_ ?_; focus rfl)
        | (refine Calm.load (by rfl) _ rfl rfl (fun _ h => by go_split_ands; assumption) ?_)
      simp only [Act.put, List.setIfInBounds_toArray, List.set_cons_zero, List.set_cons_succ]
    all_goals
      first
        | (refine Calm.skip ?_ ?_; focus rfl)
        | (refine Calm.load (by rfl) _ rfl rfl (fun _ h => by go_split_ands; assumption) ?_)
      simp only [Act.put, List.setIfInBounds_toArray, List.set_cons_zero, List.set_cons_succ]
    all_goals
      first
        | (refine Calm.skip ?_ ?_; focus rfl)
        | (refine Calm.pure (v := ?_) (by rfl) ?_ ?_
           rotate_left
           focus (intro w hSw; go_simp <;> rfl))
      simp only [Act.put, List.setIfInBounds_toArray, List.set_cons_zero, List.set_cons_succ]
    all_goals
      first
        | (refine Calm.skip ?_ ?_; focus rfl)
        | (refine Calm.pure (v := ?_) (by rfl) ?_ ?_
           rotate_left
           focus (intro w hSw; go_simp <;> rfl))
      simp only [Act.put, List.setIfInBounds_toArray, List.set_cons_zero, List.set_cons_succ]
    all_goals
      refine Calm.pure (v := ?_) (by rfl) ?_ ?_
      rotate_left
      focus (intro w hSw; go_simp <;> rfl)
      simp only [Act.put, List.setIfInBounds_toArray, List.set_cons_zero, List.set_cons_succ]
    all_goals
      refine Calm.pure (v := ?_) (by rfl) ?_ ?_
      rotate_left
      focus (intro w hSw; go_simp <;> rfl)
      simp only [Act.put, List.setIfInBounds_toArray, List.set_cons_zero, List.set_cons_succ]
    all_goals
      first
        | (refine Calm.skip ?_ ?_; focus rfl)
        | (refine Calm.call0 (by rfl) rfl (by kernel_rfl) hs heads_any ?_)
      simp only [Act.put, List.setIfInBounds_toArray, List.set_cons_zero, List.set_cons_succ]
    all_goals
      refine Calm.pure (v := ?_) (by rfl) ?_ ?_
      rotate_left
      focus (intro w hSw; go_simp <;> rfl)
      simp only [Act.put, List.setIfInBounds_toArray, List.set_cons_zero, List.set_cons_succ]
    all_goals
      refine Calm.pure (v := ?_) (by rfl) ?_ ?_
      rotate_left
      focus (intro w hSw; go_simp <;> rfl)
      simp only [Act.put, List.setIfInBounds_toArray, List.set_cons_zero, List.set_cons_succ]
    all_goals
      rintro w9 ⟨_, _, _, hbel9⟩
      go_wp2
      go_ret
      exact ⟨rfl, hbel9⟩

end Go.Proofs.Ytbeehmcoeblbcaa
