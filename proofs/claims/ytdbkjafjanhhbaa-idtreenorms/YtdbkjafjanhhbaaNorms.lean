/- The walk of IdtreeNorms. -/
import Derived.Test.YtdbkjafjanhhbaaHeads
namespace Go.Proofs.Ytdbkjafjanhhbaa
open Go.RowKit

theorem short_mk {x y : ID} (hx : short x = true) (hy : short y = true) : short (mk x y) = true := by
  unfold mk
  cases h : tw x y
  · simp [short, h, hx, hy]
  · simpa using hx
theorem short_norm : ∀ x : ID, short (norm x) = true
  | ⟨.inl _⟩ => rfl
  | ⟨.inr (x, y)⟩ => short_mk (short_norm x) (short_norm y)
theorem norm_short : ∀ x : ID, short x = true → norm x = x
  | ⟨.inl _⟩, _ => rfl
  | ⟨.inr (x, y)⟩, h => by
    simp only [short, Bool.and_eq_true, Bool.not_eq_true'] at h
    simp only [norm, norm_short x h.1.2, norm_short y h.2, mk, h.1.1]
    rfl
theorem norm_norm (x : ID) : norm (norm x) = norm x := norm_short _ (short_norm x)
theorem norm_eq (x : ID) : eqb (norm x) x = short x := by
  cases h : short x
  · have : norm x ≠ x := fun e => by have := short_norm x; rw [e, h] at this; cases this
    cases e : eqb (norm x) x
    · rfl
    · exact absurd (eq_of_eqb e) this
  · exact (eqb_iff _ _).2 (norm_short x h)
theorem depth_mk (x y : ID) : depth (mk x y) ≤ 1 + max (depth x) (depth y) := by
  unfold mk
  split
  · omega
  · simp [depth]
theorem depth_norm : ∀ x : ID, depth (norm x) ≤ depth x
  | ⟨.inl _⟩ => Nat.le_refl _
  | ⟨.inr (x, y)⟩ => by
    have h1 := depth_norm x
    have h2 := depth_norm y
    have h3 := depth_mk (norm x) (norm y)
    simp only [norm, depth]
    omega
theorem ok_norm {x : ID} (h : depth x ≤ 16) : ok (norm x) = true := by
  have := depth_norm x
  simp only [ok, short_norm, Bool.and_true, decide_eq_true_eq]
  omega

set_option maxHeartbeats 8000000 in
set_option maxRecDepth 100000 in
theorem norms_any (t : Tr) (n : Int) (p : Option Addr) (l c : Nat) (w : World) (ht : Lies w t (TV n p l c)) : Calls Try.prog 6 #[TV n p l c] w fun e w' => e = .returned (.bool true) ∧ Below w.heap.size w w' := by
  obtain ⟨h1, hbel⟩ := one_box w n p l c _ rfl
  have rF := few_any t n p l c _ (ht.later hbel)
  have rN := fun w1 (hb : Below w.heap.size w w1) => norm_tr t n p l c w1 (ht.later hb)
  have rC := fun w1 (hb : Below w.heap.size w w1) => check_tr t n p l c w1 (ht.later hb)
  have HT : Hid (Lies w t (TV n p l c)) := ht
  clear ht
  go_enter Try.func6, Try.ntmps6
  go_wp2_with (refine load_t _ rfl rfl _ _ rfl h1.tat ?_)
  refine rF.mono ?_
  rintro e w1 ⟨b, rfl, hb1⟩
  replace h1 := h1.later hb1
  replace hbel := below_on hbel hb1
  clear hb1 rF
  cases b
  · clear rN rC
    go_wp2_with fail
    refine (heads_any _).mono ?_
    rintro e w2 ⟨rfl, hb1⟩
    go_wp2
    go_ret
    exact ⟨rfl, below_on hbel hb1⟩
  · go_wp2_with (refine load_t _ rfl rfl _ _ rfl h1.tat ?_)
    refine (rN _ hbel).mono ?_
    clear rN
    have HK : Hid (okT t = (rough t 16 && short (idOf t))) := rfl
    cases hr : rough t 16
    · rw [hr] at HK
      have hk : okT t = false := HK.out
      rw [hk] at rC
      clear HK hk hr HT
      simp only [Bool.false_eq_true, if_false]
      rintro e w2 ⟨n2, p2, l2, c2, rfl, i2, hb1⟩
      replace h1 := (h1.later hb1).later (new_below w2 n2 p2 l2 c2)
      replace hbel := below_on (below_on hbel hb1) (new_below w2 n2 p2 l2 c2)
      clear hb1 i2
      go_wp2_with (first | refine store_t rfl _ _ rfl _ n2 p2 l2 c2 rfl rfl (bx_new w2 0 none 0 0) ?_ | refine load_t _ rfl rfl _ _ rfl h1.tat ?_)
      refine (rC _ hbel).mono ?_
      rintro e w3 ⟨rfl, hb1⟩
      replace hbel := below_on hbel hb1
      clear hb1 rC h1
      go_wp2_with fail
      refine (heads_any _).mono ?_
      rintro e w4 ⟨rfl, hb1⟩
      replace hbel := below_on hbel hb1
      go_wp2
      go_ret
      exact ⟨rfl, hbel⟩
    · obtain ⟨hi, hd⟩ := is_of_lies t 16 _ hr HT.out
      rw [hr, Bool.true_and] at HK
      rw [HK.out] at rC
      clear HK hr HT
      simp only [if_true]
      generalize idOf t = x at hi hd rC ⊢
      have hdn : depth (norm x) ≤ 16 := Nat.le_trans (depth_norm x) hd
      have HO : Hid (ok (norm x) = true) := ok_norm hd
      have HNN : Hid (norm (norm x) = norm x) := norm_norm x
      have HE : Hid (eqb (norm x) x = short x) := norm_eq x
      rintro e w2 ⟨n2, p2, l2, c2, rfl, i2, hb1⟩
      have b2 := new_box w2 n2 p2 l2 c2
      have m0 := bx_new w2 0 none 0 0
      replace i2 := i2.later (new_below w2 n2 p2 l2 c2)
      replace h1 := (h1.later hb1).later (new_below w2 n2 p2 l2 c2)
      replace hbel := below_on (below_on hbel hb1) (new_below w2 n2 p2 l2 c2)
      clear hb1
      generalize hw : (w2.alloc (.cells #[.int .i64 0, .slice none 0 0] 24)).setRow w2.heap.size #[.int .i64 n2, .slice p2 l2 c2] = v2 at b2 i2 h1 hbel
      have rN2 := norm_any (norm x) n2 p2 l2 c2 v2 i2 hdn
      rw [HNN.out] at rN2
      generalize hy : norm x = y at i2 HO HE rN2
      clear HNN hdn hd hy
      go_wp2_with (first | rw [hw] | refine store_t rfl _ _ rfl _ n2 p2 l2 c2 rfl rfl m0 ?_ | refine load_t _ rfl rfl _ _ rfl b2.tat ?_)
      clear hw m0
      refine rN2.mono ?_
      rintro e w3 ⟨n3, p3, l3, c3, rfl, i3, hb1⟩
      have b3 := new_box w3 n3 p3 l3 c3
      have m0 := bx_new w3 0 none 0 0
      have hbn := below_on hb1 (new_below w3 n3 p3 l3 c3)
      replace i3 := i3.later (new_below w3 n3 p3 l3 c3)
      replace i2 := i2.later hbn
      replace h1 := h1.later hbn
      replace b2 := b2.later hbn
      replace hbel := below_on hbel hbn
      generalize hw : (w3.alloc (.cells #[.int .i64 0, .slice none 0 0] 24)).setRow w3.heap.size #[.int .i64 n3, .slice p3 l3 c3] = v3 at b3 i3 i2 h1 b2 hbel
      clear hb1 hbn rN2
      go_wp2_with (first | rw [hw] | refine store_t rfl _ _ rfl _ n3 p3 l3 c3 rfl rfl m0 ?_)
      clear hw m0
      have rS1 := fun w1 (h : Is w1 y (TV n2 p2 l2 c2)) (h' : Is w1 y (TV n3 p3 l3 c3)) => same_any y y n2 p2 l2 c2 n3 p3 l3 c3 w1 h h'
      rw [show eqb y y = true from eqb_refl y] at rS1
      have rS2 := fun w1 (h : Is w1 y (TV n2 p2 l2 c2)) (h' : Is w1 x (TV n p l c)) => same_any y x n2 p2 l2 c2 n p l c w1 h h'
      rw [HE.out] at rS2
      have rC2 := fun w1 (h : Is w1 y (TV n2 p2 l2 c2)) => check_any y n2 p2 l2 c2 w1 h
      rw [HO.out] at rC2
      replace hi := hi.later hbel
      generalize w2.heap.size = q2 at b2 ⊢
      generalize w3.heap.size = q3 at b3 ⊢
      have hs : Calm.Stays (fun w' => Tat w' w.heap.size 0 n p l c ∧ Tat w' q2 0 n2 p2 l2 c2 ∧ Tat w' q3 0 n3 p3 l3 c3 ∧ Is w' x (TV n p l c) ∧ Is w' y (TV n2 p2 l2 c2) ∧ Is w' y (TV n3 p3 l3 c3) ∧ Below w.heap.size w w') :=
        fun wa wb h hb => ⟨h.1.later hb, h.2.1.later hb, h.2.2.1.later hb, h.2.2.2.1.later hb, h.2.2.2.2.1.later hb, h.2.2.2.2.2.1.later hb, below_on h.2.2.2.2.2.2 hb⟩
      refine Calm.region (by kernel_rfl) (by kernel_rfl) (fun w' => Tat w' w.heap.size 0 n p l c ∧ Tat w' q2 0 n2 p2 l2 c2 ∧ Tat w' q3 0 n3 p3 l3 c3 ∧ Is w' x (TV n p l c) ∧ Is w' y (TV n2 p2 l2 c2) ∧ Is w' y (TV n3 p3 l3 c3) ∧ Below w.heap.size w w')
        ⟨h1.tat, b2.tat, b3.tat, hi.later (Below.refl _ _).drew, i2.later (Below.refl _ _).drew, i3.later (Below.refl _ _).drew, hbel.drew⟩ ?_
      clear h1 b2 b3 hi i2 i3 hbel HO HE
      generalize short x = bb at rC rS2
      cases bb
      all_goals
        refine Calm.loadT (by rfl) _ rfl rfl (fun _ h => by go_split_ands; assumption) ?_
        simp only [Act.put, List.setIfInBounds_toArray, List.set_cons_zero, List.set_cons_succ]
      all_goals
        refine Calm.call1s (by rfl) rfl rfl (by kernel_rfl) hs (fun w1 h => rC2 w1 h.2.2.2.2.1) ?_
        simp only [Act.put, List.setIfInBounds_toArray, List.set_cons_zero, List.set_cons_succ]
      all_goals
        refine Calm.pure (v := ?_) (by rfl) ?_ ?_
        rotate_left
        focus (intro w hSw; go_simp <;> rfl)
        simp only [Act.put, List.setIfInBounds_toArray, List.set_cons_zero, List.set_cons_succ]
      all_goals
        first
          | (refine Calm.skip ?_ ?_; focus rfl)
          | (refine Calm.pure (v := ?_) (by rfl) ?_ ?_
             rotate_left
             focus (intro w hSw; go_simp <;> rfl))
        simp only [Act.put, List.setIfInBounds_toArray, List.set_cons_zero, List.set_cons_succ]
      all_goals
        first
          | (refine Calm.skip ?_ ?_; focus rfl)
          | (refine Calm.pure (v := ?_) (by rfl) ?_ ?_
             rotate_left
             focus (intro w hSw; go_simp <;> rfl))
        simp only [Act.put, List.setIfInBounds_toArray, List.set_cons_zero, List.set_cons_succ]
      all_goals
        refine Calm.pure (v := ?_) (by rfl) ?_ ?_
        rotate_left
        focus (intro w hSw; go_simp <;> rfl)
        simp only [Act.put, List.setIfInBounds_toArray, List.set_cons_zero, List.set_cons_succ]
      all_goals
        refine Calm.pure (v := ?_) (by rfl) ?_ ?_
        rotate_left
        focus (intro w hSw; go_simp <;> rfl)
        simp only [Act.put, List.setIfInBounds_toArray, List.set_cons_zero, List.set_cons_succ]
      all_goals
        first
          | (refine Calm.skip ?_ ?_; focus rfl)
          | (refine Calm.loadT (by rfl) _ rfl rfl (fun _ h => by go_split_ands; assumption) ?_)
        simp only [Act.put, List.setIfInBounds_toArray, List.set_cons_zero, List.set_cons_succ]
      all_goals
        first
          | (refine Calm.skip ?_ ?_; focus rfl)
          | (refine Calm.loadT (by rfl) _ rfl rfl (fun _ h => by go_split_ands; assumption) ?_)
        simp only [Act.put, List.setIfInBounds_toArray, List.set_cons_zero, List.set_cons_succ]
      all_goals
        first
          | (refine Calm.skip ?_ ?_; focus rfl)
          | (refine Calm.call2s (by rfl) rfl rfl rfl (by kernel_rfl) hs (fun w1 h => rS1 w1 h.2.2.2.2.1 h.2.2.2.2.2.1) ?_)
        simp only [Act.put, List.setIfInBounds_toArray, List.set_cons_zero, List.set_cons_succ]
      all_goals
        refine Calm.pure (v := ?_) (by rfl) ?_ ?_
        rotate_left
        focus (intro w hSw; go_simp <;> rfl)
        simp only [Act.put, List.setIfInBounds_toArray, List.set_cons_zero, List.set_cons_succ]
      all_goals
        refine Calm.pure (v := ?_) (by rfl) ?_ ?_
        rotate_left
        focus (intro w hSw; go_simp <;> rfl)
        simp only [Act.put, List.setIfInBounds_toArray, List.set_cons_zero, List.set_cons_succ]
      all_goals
        first
          | (refine Calm.skip ?_ ?_; focus rfl)
          | (refine Calm.loadT (by rfl) _ rfl rfl (fun _ h => by go_split_ands; assumption) ?_)
        simp only [Act.put, List.setIfInBounds_toArray, List.set_cons_zero, List.set_cons_succ]
      all_goals
        first
          | (refine Calm.skip ?_ ?_; focus rfl)
          | (refine Calm.call1s (by rfl) rfl rfl (by kernel_rfl) hs (fun w1 h => rC w1 h.2.2.2.2.2.2) ?_)
        simp only [Act.put, List.setIfInBounds_toArray, List.set_cons_zero, List.set_cons_succ]
      all_goals
        first
          | (refine Calm.skip ?_ ?_; focus rfl)
          | (refine Calm.loadT (by rfl) _ rfl rfl (fun _ h => by go_split_ands; assumption) ?_)
        simp only [Act.put, List.setIfInBounds_toArray, List.set_cons_zero, List.set_cons_succ]
      all_goals
        first
          | (refine Calm.skip ?_ ?_; focus rfl)
          | (refine Calm.loadT (by rfl) _ rfl rfl (fun _ h => by go_split_ands; assumption) ?_)
        simp only [Act.put, List.setIfInBounds_toArray, List.set_cons_zero, List.set_cons_succ]
      all_goals
        first
          | (refine Calm.skip ?_ ?_; focus rfl)
          | (refine Calm.call2s (by rfl) rfl rfl rfl (by kernel_rfl) hs (fun w1 h => rS2 w1 h.2.2.2.2.1 h.2.2.2.1) ?_)
        simp only [Act.put, List.setIfInBounds_toArray, List.set_cons_zero, List.set_cons_succ]
      all_goals
        first
          | (refine Calm.skip ?_ ?_; focus rfl)
          | (refine Calm.pure (v := ?_) (by rfl) ?_ ?_
             rotate_left
             focus (intro w hSw; go_simp <;> rfl))
        simp only [Act.put, List.setIfInBounds_toArray, List.set_cons_zero, List.set_cons_succ]
      all_goals
        refine Calm.pure (v := ?_) (by rfl) ?_ ?_
        rotate_left
        focus (intro w hSw; go_simp <;> rfl)
        simp only [Act.put, List.setIfInBounds_toArray, List.set_cons_zero, List.set_cons_succ]
      all_goals
        refine Calm.pure (v := ?_) (by rfl) ?_ ?_
        rotate_left
        focus (intro w hSw; go_simp <;> rfl)
        simp only [Act.put, List.setIfInBounds_toArray, List.set_cons_zero, List.set_cons_succ]
      all_goals
        first
          | (refine Calm.skip ?_ ?_; focus rfl)
          | (refine Calm.call0 (by rfl) rfl (by kernel_rfl) hs heads_any ?_)
        simp only [Act.put, List.setIfInBounds_toArray, List.set_cons_zero, List.set_cons_succ]
      all_goals
        refine Calm.pure (v := ?_) (by rfl) ?_ ?_
        rotate_left
        focus (intro w hSw; go_simp <;> rfl)
        simp only [Act.put, List.setIfInBounds_toArray, List.set_cons_zero, List.set_cons_succ]
      all_goals
        refine Calm.pure (v := ?_) (by rfl) ?_ ?_
        rotate_left
        focus (intro w hSw; go_simp <;> rfl)
        simp only [Act.put, List.setIfInBounds_toArray, List.set_cons_zero, List.set_cons_succ]
      all_goals
        rintro w9 ⟨_, _, _, _, _, _, hbel9⟩
        go_wp2
        go_ret
        exact ⟨rfl, hbel9⟩
end Go.Proofs.Ytdbkjafjanhhbaa
