/- find of package counter. -/
import Derived.Test.YtfjpjodaaofgbaaFind
namespace Go.Proofs.Ytfjpjodaaofgbaa
open Go.RowKit

/-- What find answers: whether it is there, and where it would stand. -/
def FdPost (l : List A) (x : A) (w : World) (e : Ending) (w' : World) : Prop := ∃ k : Nat, e = .returned (.tuple #[.int .i64 k, .bool (has x l)]) ∧ k ≤ l.length ∧ l.take k ++ x :: l.drop k = insF x l ∧ Below w.heap.size w w'
theorem has_at {x : A} {l : List A} {k : Nat} (hp : l.Pairwise (fun a b => lt a b = true)) (h1 : ∀ j (h : j < l.length), j < k → lt l[j] x = true) (h2 : ∀ j (h : j < l.length), k ≤ j → lt l[j] x = false) : has x l = (if h : k < l.length then mk l[k] x else false) := by
  split
  · rename_i h
    cases e : mk l[k] x
    · rw [has_false]
      intro y hy
      obtain ⟨j, hj, rfl⟩ := List.getElem_of_mem hy
      cases e2 : mk l[j] x
      · rfl
      · exfalso
        rcases Nat.lt_trichotomy j k with h' | h' | h'
        · have := h1 j hj h'
          rw [mk_lt e2] at this
          cases this
        · subst h'
          rw [e] at e2
          cases e2
        · have a1 := pair_at hp k j hj h'
          have a2 := h2 k h (Nat.le_refl _)
          have a3 : lt l[k] x = true := by
            rw [lt_iff] at a1 ⊢
            rw [mk_iff] at e2
            omega
          rw [a3] at a2
          cases a2
    · unfold has
      rw [List.any_eq_true]
      exact ⟨l[k], List.getElem_mem _, e⟩
  · rename_i h
    rw [has_false]
    intro y hy
    obtain ⟨j, hj, rfl⟩ := List.getElem_of_mem hy
    have := h1 j hj (by omega)
    cases e2 : mk l[j] x
    · rfl
    · rw [mk_lt e2] at this
      cases this
set_option maxHeartbeats 2000000 in
set_option maxRecDepth 100000 in
theorem find_any (v : Value) (l : List A) (x : A) (w : World) (h : AHas w v l) (hl : l.length ≤ 100) (hp : l.Pairwise (fun a b => lt a b = true)) :
    Calls Try.prog 37 #[v, MV x.p x.s x.i, .func (.func 38) #[] #[]] w (FdPost l x w) := by
  obtain ⟨pa, ca', rfl⟩ := h.slice
  have hbel := bel_alloc (bel_alloc (bel_alloc (Below.refl w.heap.size w) (.cells #[.slice pa l.length ca'] 22)) (.cells #[.int .i64 x.p, .int .i64 x.s, .int .i64 x.i] 40)) (.cells #[.func (.func 38) #[] #[]] 79)
  have r1 := ((rw_new w 22 #[.slice pa l.length ca']).alloc (.cells #[.int .i64 x.p, .int .i64 x.s, .int .i64 x.i] 40)).alloc (.cells #[.func (.func 38) #[] #[]] 79)
  have r2 := (rw_new (w.alloc (.cells #[.slice pa l.length ca'] 22)) 40 #[.int .i64 x.p, .int .i64 x.s, .int .i64 x.i]).alloc (.cells #[.func (.func 38) #[] #[]] 79)
  have r3 := rw_new ((w.alloc (.cells #[.slice pa l.length ca'] 22)).alloc (.cells #[.int .i64 x.p, .int .i64 x.s, .int .i64 x.i] 40)) 79 #[.func (.func 38) #[] #[]]
  generalize hW : ((w.alloc (.cells #[.slice pa l.length ca'] 22)).alloc (.cells #[.int .i64 x.p, .int .i64 x.s, .int .i64 x.i] 40)).alloc (.cells #[.func (.func 38) #[] #[]] 79) = w0 at hbel r1 r2 r3
  simp only [World.size_alloc, Nat.add_assoc, Nat.reduceAdd] at r2 r3
  have hC : Cap w0 (w.heap.size + 2) w.heap.size (w.heap.size + 1) (.slice pa l.length ca') x := ⟨r3.cell 0, r1.cell 0, r2⟩
  have c1 := hC.l
  replace h := h.later hbel
  clear r1 r2 r3
  go_enter Try.func37, Try.ntmps37
  go_wp2_with (first | rw [hW])
  clear hW
  refine (search_any (w.heap.size + 2) w.heap.size (w.heap.size + 1) _ l x w0 h hl hp hC).mono ?_
  rintro e w1 ⟨k, rfl, hk, h1, h2, hb1⟩
  have HI : Hid (l.take k ++ x :: l.drop k = insF x l) := insF_at h1 h2
  have hh := has_at hp h1 h2
  obtain ⟨t, HT⟩ := hid_ex (has x l)
  have HF : Hid (∀ e w', FdPost l x w e w' ↔ ∃ k : Nat, e = .returned (.tuple #[.int .i64 k, .bool t]) ∧ k ≤ l.length ∧ l.take k ++ x :: l.drop k = insF x l ∧ Below w.heap.size w w') := fun e w' => by unfold FdPost; rw [HT.out]
  replace h := h.later hb1
  replace hC := hC.later hb1
  replace hbel := below_on hbel hb1
  clear h1 h2 hb1 hp c1
  rw [HT.out] at hh
  by_cases hlt : k < l.length
  · rw [dif_pos hlt] at hh
    have hlt' : (k : Int) < (l.length : Int) := by omega
    have hk0 : (0 : Int) ≤ (k : Int) := by omega
    obtain ⟨g, o, rfl, hd⟩ := h.at (by omega)
    have d := AHas.elem hd k hlt
    obtain ⟨y, HY⟩ := hid_ex l[k]
    rw [HY.out] at d hh
    have E := fun w => eq_mark w y.p y.s y.i x.p x.s x.i
    rw [show (decide (y.p = x.p) && decide (y.s = x.s) && decide (y.i = x.i)) = t from hh.symm] at E
    have z42 : (Try.prog.info? 42).map (·.size) = some y.cells.length := size42
    have zm : (Try.prog.info? 40).map (·.size) = some [Value.int .i64 x.p, .int .i64 x.s, .int .i64 x.i].length := size40
    clear hh h hd HY HT
    go_wp2_with fail
    have hs : Calm.Stays (fun w' => Cap w' (w.heap.size + 2) w.heap.size (w.heap.size + 1) (.slice (some ⟨g, o, none⟩) l.length ca') x ∧ w'.rangeAt g (o + k * 4) y.cells ∧ Below w.heap.size w w') := fun wa wb h hb => ⟨h.1.later hb, range_later h.2.1 hb, below_on h.2.2 hb⟩
    refine Calm.region (by kernel_rfl) (by kernel_rfl) (fun w' => Cap w' (w.heap.size + 2) w.heap.size (w.heap.size + 1) (.slice (some ⟨g, o, none⟩) l.length ca') x ∧ w'.rangeAt g (o + k * 4) y.cells ∧ Below w.heap.size w w') ⟨⟨hC.f, hC.l, hC.m⟩, d, hbel.drew⟩ ?_
    all_goals
      refine Calm.pure (v := ?_) (by rfl) ?_ ?_
      rotate_left
      focus (intro w hSw; go_simp <;> rfl)
      simp only [Act.put, List.setIfInBounds_toArray, List.set_cons_zero, List.set_cons_succ]
    all_goals
      refine Calm.pure (v := ?_) (by rfl) ?_ ?_
      rotate_left
      focus (intro w hSw; go_simp <;> rfl)
      simp only [Act.put, List.setIfInBounds_toArray, List.set_cons_zero, List.set_cons_succ]
    all_goals
      refine Calm.pure (v := ?_) (by rfl) ?_ ?_
      rotate_left
      focus (intro w hSw; have g1 := hSw.1.l; go_simp <;> rfl)
      simp only [Act.put, List.setIfInBounds_toArray, List.set_cons_zero, List.set_cons_succ]
    all_goals
      refine Calm.pure (v := ?_) (by rfl) ?_ ?_
      rotate_left
      focus (intro w hSw; go_simp <;> rfl)
      simp only [Act.put, List.setIfInBounds_toArray, List.set_cons_zero, List.set_cons_succ]
    all_goals
      refine Calm.pure (v := ?_) (by rfl) ?_ ?_
      rotate_left
      focus (intro w hSw; go_simp <;> rfl)
      simp only [Act.put, List.setIfInBounds_toArray, List.set_cons_zero, List.set_cons_succ]
    all_goals
      refine Calm.pure (v := ?_) (by rfl) ?_ ?_
      rotate_left
      focus (intro w hSw; go_simp <;> rfl)
      simp only [Act.put, List.setIfInBounds_toArray, List.set_cons_zero, List.set_cons_succ]
    all_goals
      first
        | (refine Calm.skip ?_ ?_; focus rfl)
        | (refine Calm.pure (v := ?_) (by rfl) ?_ ?_
           rotate_left
           focus (intro w hSw; have g1 := hSw.1.f; go_simp <;> rfl))
      simp only [Act.put, List.setIfInBounds_toArray, List.set_cons_zero, List.set_cons_succ]
    all_goals
      first
        | (refine Calm.skip ?_ ?_; focus rfl)
        | (refine Calm.pure (v := ?_) (by rfl) ?_ ?_
           rotate_left
           focus (intro w hSw; have g1 := hSw.1.l; go_simp <;> rfl))
      simp only [Act.put, List.setIfInBounds_toArray, List.set_cons_zero, List.set_cons_succ]
    all_goals
      first
        | (refine Calm.skip ?_ ?_; focus rfl)
        | (refine Calm.pure (v := ?_) (by rfl) ?_ ?_
           rotate_left
           focus (intro w hSw; go_simp <;> rfl))
      simp only [Act.put, List.setIfInBounds_toArray, List.set_cons_zero, List.set_cons_succ]
    all_goals
      first
        | (refine Calm.skip ?_ ?_; focus rfl)
        | (refine Calm.pure (v := ?_) (by rfl) ?_ ?_
           rotate_left
           focus (intro w hSw; go_simp <;> rfl))
      simp only [Act.put, List.setIfInBounds_toArray, List.set_cons_zero, List.set_cons_succ]
    all_goals
      first
        | (refine Calm.skip ?_ ?_; focus rfl)
        | (refine Calm.loadM 42 Try.underlying42 rfl z42 (by rfl) _ rfl rfl (fun _ h => h.2.1) ?_)
      simp only [Act.put, List.setIfInBounds_toArray, List.set_cons_zero, List.set_cons_succ]
    all_goals
      first
        | (refine Calm.skip ?_ ?_; focus rfl)
        | (refine Calm.callF1s (by rfl) rfl rfl rfl (by kernel_rfl) hs (fun w1 h => markOf_any y.p y.s y.i y.n w1) ?_)
      simp only [Act.put, List.setIfInBounds_toArray, List.set_cons_zero, List.set_cons_succ]
    all_goals
      first
        | (refine Calm.skip ?_ ?_; focus rfl)
        | (refine Calm.loadM 40 Try.underlying40 rfl zm (by rfl) _ rfl rfl (fun _ h => Rw.whole h.1.m) ?_)
      simp only [Act.put, List.setIfInBounds_toArray, List.set_cons_zero, List.set_cons_succ]
    all_goals
      first
        | (refine Calm.skip ?_ ?_; focus rfl)
        | (refine Calm.pure (v := ?_) (by rfl) ?_ ?_
           rotate_left
           focus (intro w hSw; go_simp <;> rfl))
      simp only [Act.put, List.setIfInBounds_toArray, List.set_cons_zero, List.set_cons_succ]
    all_goals
      refine Calm.pure (v := ?_) (by rfl) ?_ ?_
      rotate_left
      focus (intro w hSw; go_simp <;> rfl)
      simp only [Act.put, List.setIfInBounds_toArray, List.set_cons_zero, List.set_cons_succ]
    all_goals
      refine Calm.pure (v := ?_) (by rfl) ?_ ?_
      rotate_left
      focus (intro w hSw; go_simp <;> rfl)
      simp only [Act.put, List.setIfInBounds_toArray, List.set_cons_zero, List.set_cons_succ]
    all_goals
      refine Calm.pure (v := ?_) (by rfl) ?_ ?_
      rotate_left
      focus (intro w hSw; go_simp <;> rfl)
      simp only [Act.put, List.setIfInBounds_toArray, List.set_cons_zero, List.set_cons_succ]
    all_goals
      rintro w9 ⟨_, _, hbel9⟩
    go_wp2_with fail
    refine bodyPost_ret (v := .tuple #[.int .i64 k, .bool t]) (by simp [results, Try.results37, go_sem]) rfl ?_
    rw [HF.out]
    exact ⟨k, rfl, hk, HI.out, hbel9⟩
  · rw [dif_neg hlt] at hh
    have hlt' : ¬ (k : Int) < (l.length : Int) := by omega
    have e := hh
    subst e
    clear HT hh
    go_wp2_with fail
    have hs : Calm.Stays (fun w' => Cap w' (w.heap.size + 2) w.heap.size (w.heap.size + 1) (.slice pa l.length ca') x ∧ Below w.heap.size w w') := fun wa wb h hb => ⟨h.1.later hb, below_on h.2 hb⟩
    refine Calm.region (by kernel_rfl) (by kernel_rfl) (fun w' => Cap w' (w.heap.size + 2) w.heap.size (w.heap.size + 1) (.slice pa l.length ca') x ∧ Below w.heap.size w w') ⟨⟨hC.f, hC.l, hC.m⟩, hbel.drew⟩ ?_
    all_goals
      refine Calm.pure (v := ?_) (by rfl) ?_ ?_
      rotate_left
      focus (intro w hSw; go_simp <;> rfl)
      simp only [Act.put, List.setIfInBounds_toArray, List.set_cons_zero, List.set_cons_succ]
    all_goals
      refine Calm.pure (v := ?_) (by rfl) ?_ ?_
      rotate_left
      focus (intro w hSw; go_simp <;> rfl)
      simp only [Act.put, List.setIfInBounds_toArray, List.set_cons_zero, List.set_cons_succ]
    all_goals
      refine Calm.pure (v := ?_) (by rfl) ?_ ?_
      rotate_left
      focus (intro w hSw; have g1 := hSw.1.l; go_simp <;> rfl)
      simp only [Act.put, List.setIfInBounds_toArray, List.set_cons_zero, List.set_cons_succ]
    all_goals
      refine Calm.pure (v := ?_) (by rfl) ?_ ?_
      rotate_left
      focus (intro w hSw; go_simp <;> rfl)
      simp only [Act.put, List.setIfInBounds_toArray, List.set_cons_zero, List.set_cons_succ]
    all_goals
      refine Calm.pure (v := ?_) (by rfl) ?_ ?_
      rotate_left
      focus (intro w hSw; go_simp <;> rfl)
      simp only [Act.put, List.setIfInBounds_toArray, List.set_cons_zero, List.set_cons_succ]
    all_goals
      refine Calm.pure (v := ?_) (by rfl) ?_ ?_
      rotate_left
      focus (intro w hSw; go_simp <;> rfl)
      simp only [Act.put, List.setIfInBounds_toArray, List.set_cons_zero, List.set_cons_succ]
    all_goals
      first
        | (refine Calm.skip ?_ ?_; focus rfl)
        | (refine Calm.pure (v := ?_) (by rfl) ?_ ?_
           rotate_left
           focus (intro w hSw; go_simp <;> rfl))
      simp only [Act.put, List.setIfInBounds_toArray, List.set_cons_zero, List.set_cons_succ]
    all_goals
      first
        | (refine Calm.skip ?_ ?_; focus rfl)
        | (refine Calm.pure (v := ?_) (by rfl) ?_ ?_
           rotate_left
           focus (intro w hSw; go_simp <;> rfl))
      simp only [Act.put, List.setIfInBounds_toArray, List.set_cons_zero, List.set_cons_succ]
    all_goals
      first
        | (refine Calm.skip ?_ ?_; focus rfl)
        | (refine Calm.pure (v := ?_) (by rfl) ?_ ?_
           rotate_left
           focus (intro w hSw; go_simp <;> rfl))
      simp only [Act.put, List.setIfInBounds_toArray, List.set_cons_zero, List.set_cons_succ]
    all_goals
      first
        | (refine Calm.skip ?_ ?_; focus rfl)
        | (refine Calm.pure (v := ?_) (by rfl) ?_ ?_
           rotate_left
           focus (intro w hSw; go_simp <;> rfl))
      simp only [Act.put, List.setIfInBounds_toArray, List.set_cons_zero, List.set_cons_succ]
    all_goals
      first
        | (refine Calm.skip ?_ ?_; focus rfl)
        | (refine Calm.pure (v := ?_) (by rfl) ?_ ?_
           rotate_left
           focus (intro w hSw; go_simp <;> rfl))
      simp only [Act.put, List.setIfInBounds_toArray, List.set_cons_zero, List.set_cons_succ]
    all_goals
      first
        | (refine Calm.skip ?_ ?_; focus rfl)
        | (refine Calm.pure (v := ?_) (by rfl) ?_ ?_
           rotate_left
           focus (intro w hSw; go_simp <;> rfl))
      simp only [Act.put, List.setIfInBounds_toArray, List.set_cons_zero, List.set_cons_succ]
    all_goals
      first
        | (refine Calm.skip ?_ ?_; focus rfl)
        | (refine Calm.pure (v := ?_) (by rfl) ?_ ?_
           rotate_left
           focus (intro w hSw; go_simp <;> rfl))
      simp only [Act.put, List.setIfInBounds_toArray, List.set_cons_zero, List.set_cons_succ]
    all_goals
      first
        | (refine Calm.skip ?_ ?_; focus rfl)
        | (refine Calm.pure (v := ?_) (by rfl) ?_ ?_
           rotate_left
           focus (intro w hSw; go_simp <;> rfl))
      simp only [Act.put, List.setIfInBounds_toArray, List.set_cons_zero, List.set_cons_succ]
    all_goals
      refine Calm.pure (v := ?_) (by rfl) ?_ ?_
      rotate_left
      focus (intro w hSw; go_simp <;> rfl)
      simp only [Act.put, List.setIfInBounds_toArray, List.set_cons_zero, List.set_cons_succ]
    all_goals
      refine Calm.pure (v := ?_) (by rfl) ?_ ?_
      rotate_left
      focus (intro w hSw; go_simp <;> rfl)
      simp only [Act.put, List.setIfInBounds_toArray, List.set_cons_zero, List.set_cons_succ]
    all_goals
      refine Calm.pure (v := ?_) (by rfl) ?_ ?_
      rotate_left
      focus (intro w hSw; go_simp <;> rfl)
      simp only [Act.put, List.setIfInBounds_toArray, List.set_cons_zero, List.set_cons_succ]
    all_goals
      rintro w9 ⟨_, hbel9⟩
    go_wp2_with fail
    refine bodyPost_ret (v := .tuple #[.int .i64 k, .bool false]) (by simp [results, Try.results37, go_sem]) rfl ?_
    rw [HF.out]
    exact ⟨k, rfl, hk, HI.out, hbel9⟩
end Go.Proofs.Ytfjpjodaaofgbaa
