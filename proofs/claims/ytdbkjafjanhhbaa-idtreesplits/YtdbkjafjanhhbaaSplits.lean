/- The walk of IdtreeSplits. -/
import Derived.Test.YtdbkjafjanhhbaaMath
namespace Go.Proofs.Ytdbkjafjanhhbaa
open Go.RowKit

theorem ok_parts {x : ID} (h : ok x = true) : depth x ≤ 16 ∧ short x = true := by
  unfold ok at h
  simpa using h
theorem ok_of {x : ID} (h : depth x ≤ 16) (h' : short x = true) : ok x = true := by
  unfold ok
  simp [h, h']
theorem okT_ok {w : World} {t : Tr} {v : Value} (h : Lies w t v) (hk : okT t = true) : ok (idOf t) = true := by
  unfold okT at hk
  simp only [Bool.and_eq_true] at hk
  exact ok_of (is_of_lies t 16 _ hk.1 h).2 hk.2
theorem sumX_ok {x y : ID} (hx : ok x = true) (hy : ok y = true) : sumX (toTr x) (toTr y) = uT (unite x y) := by simp [sumX, okT_to, hx, hy, idOf_to]
theorem sumE_ok {x y : ID} (hx : ok x = true) (hy : ok y = true) : sumE (toTr x) (toTr y) = uE (unite x y) := by simp [sumE, okT_to, hx, hy, idOf_to]
theorem shareT_ok {x : ID} (hx : ok x = true) : shareT (toTr x) = own x 65536 := by simp [shareT, okT_to, hx, idOf_to]
theorem ownsT_ok {x : ID} (hx : ok x = true) (m : Int) : ownsT (toTr x) m = (decide (0 ≤ m ∧ m < 65536) && has x 16 m.toNat) := by simp [ownsT, okT_to, hx, idOf_to]

/-- All that is asked of a good split. -/
structure Good (m : Int) (x a b : ID) (A B C : Nat) (oa ob ot : Bool) : Prop where
  x1 : sumX (toTr a) (toTr b) = x
  e1 : sumE (toTr a) (toTr b) = 0
  x2 : sumX (toTr b) (toTr a) = x
  e2 : sumE (toTr b) (toTr a) = 0
  sa : shareT (toTr a) = A
  sb : shareT (toTr b) = B
  sx : shareT (toTr x) = C
  eoa : ownsT (toTr a) m = oa
  eob : ownsT (toTr b) m = ob
  eot : ownsT (toTr x) m = ot
  sum : A + B = C
  pa : 0 < A
  pb : 0 < B
  le : C ≤ 65536
  eor : (oa || ob) = ot
  eand : (oa && ob) = false

theorem good (m : Int) (x a b : ID) (hx : ok x = true) (ha : ok a = true) (hb : ok b = true) (hu : unite a b = some x) (hna : nil a = false) (hnb : nil b = false) :
    Good m x a b (own a 65536) (own b 65536) (own x 65536) (ownsT (toTr a) m) (ownsT (toTr b) m) (ownsT (toTr x) m) := by
  obtain ⟨da, sa⟩ := ok_parts ha
  obtain ⟨db, sb⟩ := ok_parts hb
  have hu' : unite b a = some x := by rw [unite_comm, hu]
  have hh := has_unite a b x 16 m.toNat hu
  have eO := own_unite a b x 16 da db hu
  have eA := own_pos a 16 sa hna da
  have eB := own_pos b 16 sb hnb db
  have e16 : (2 : Nat) ^ 16 = 65536 := rfl
  rw [e16] at eO eA eB
  refine ⟨by rw [sumX_ok ha hb, hu]; rfl, by rw [sumE_ok ha hb, hu]; rfl, by rw [sumX_ok hb ha, hu']; rfl, by rw [sumE_ok hb ha, hu']; rfl, shareT_ok ha, shareT_ok hb, shareT_ok hx, rfl, rfl, rfl, eO.symm, eA, eB, own_le x 65536, ?_, ?_⟩
  · rw [ownsT_ok ha, ownsT_ok hb, ownsT_ok hx, hh.1]
    cases decide (0 ≤ m ∧ m < 65536) <;> simp
  · rw [ownsT_ok ha, ownsT_ok hb]
    cases decide (0 ≤ m ∧ m < 65536)
    · simp
    · simpa using hh.2

set_option maxHeartbeats 8000000 in
set_option maxRecDepth 100000 in
theorem splits_good (w : World) (m : Int) (x a b : ID) (A B C : Nat) (oa ob ot : Bool) (HG : Hid (Good m x a b A B C oa ob ot)) (n : Int) (p : Option Addr) (l c : Nat) (hi : Is w x (TV n p l c))
    (rF : ∀ w1, Below w.heap.size w w1 → Calls Try.prog 7 #[TV n p l c] w1 fun e w' => ∃ b : Bool, e = .returned (.bool b) ∧ Below w1.heap.size w1 w')
    (rP : ∀ w1, Below w.heap.size w w1 → Calls Try.prog 11 #[TV n p l c] w1 (GivesTE a b 0 w1)) :
    Calls Try.prog 4 #[TV n p l c, .int .i64 m] w fun e w' => e = .returned (.bool true) ∧ Below w.heap.size w w' := by
  obtain ⟨h1, hbel⟩ := one_box w n p l c _ rfl
  go_enter Try.func4, Try.ntmps4
  go_wp2_with (refine load_t _ rfl rfl _ _ rfl h1.tat ?_)
  refine (rF _ hbel).mono ?_
  rintro e w1 ⟨few, rfl, hb1⟩
  replace h1 := h1.later hb1
  replace hbel := below_on hbel hb1
  clear hb1 rF
  cases few
  · clear rP
    go_wp2_with fail
    refine (heads_any _).mono ?_
    rintro e w2 ⟨rfl, hb1⟩
    go_wp2
    go_ret
    exact ⟨rfl, below_on hbel hb1⟩
  · go_wp2_with (refine load_t _ rfl rfl _ _ rfl h1.tat ?_)
    refine (rP _ hbel).mono ?_
    rintro e w2 ⟨na, pa, la, ca, nb, pb, lb, cb, rfl, ia, ib, hb1⟩
    replace h1 := h1.later hb1
    replace hbel := below_on hbel hb1
    clear hb1 rP
    have m0 := two_new0 w2
    have m1 := two_new1 w2 na pa la ca
    obtain ⟨ba, bb, hb1⟩ := two_new w2 na pa la ca nb pb lb cb _ rfl
    generalize hw : (((w2.alloc (.cells #[.int .i64 0, .slice none 0 0] 24)).alloc (.cells #[.int .i64 0, .slice none 0 0] 24)).setRow w2.heap.size #[.int .i64 na, .slice pa la ca]).setRow (w2.heap.size + 1) #[.int .i64 nb, .slice pb lb cb] = v2 at ba bb hb1
    replace h1 := h1.later hb1
    replace ia := ia.later hb1
    replace ib := ib.later hb1
    replace hbel := below_on hbel hb1
    clear hb1
    have rS1 := sum_any a b na pa la ca nb pb lb cb v2 ia ib
    rw [HG.out.x1, HG.out.e1] at rS1
    go_wp2_with (first | rw [hw] | refine store_t rfl _ _ rfl _ na pa la ca rfl rfl m0 ?_ | refine store_t rfl _ _ rfl _ nb pb lb cb rfl rfl m1 ?_ | refine load_t _ rfl rfl _ _ rfl ba.tat ?_ | refine load_t _ rfl rfl _ _ rfl bb.tat ?_)
    clear m0 m1 hw
    refine rS1.mono ?_
    rintro e w3 ⟨n3, p3, l3, c3, rfl, i3, hb1⟩
    have m0 := bx_new w3 0 none 0 0
    have b3 := new_box w3 n3 p3 l3 c3
    have hbn := below_on hb1 (new_below w3 n3 p3 l3 c3)
    replace i3 := i3.later (new_below w3 n3 p3 l3 c3)
    generalize hw : (w3.alloc (.cells #[.int .i64 0, .slice none 0 0] 24)).setRow w3.heap.size #[.int .i64 n3, .slice p3 l3 c3] = v3 at b3 i3 hbn
    replace h1 := h1.later hbn
    replace ia := ia.later hbn
    replace ib := ib.later hbn
    replace ba := ba.later hbn
    replace bb := bb.later hbn
    replace hbel := below_on hbel hbn
    clear hb1 hbn rS1
    have rS2 := sum_any b a nb pb lb cb na pa la ca v3 ib ia
    rw [HG.out.x2, HG.out.e2] at rS2
    go_wp2_with (first | rw [hw] | refine store_t rfl _ _ rfl _ n3 p3 l3 c3 rfl rfl m0 ?_ | refine load_t _ rfl rfl _ _ rfl ba.tat ?_ | refine load_t _ rfl rfl _ _ rfl bb.tat ?_)
    clear m0 hw
    refine rS2.mono ?_
    rintro e w4 ⟨n4, p4, l4, c4, rfl, i4, hb1⟩
    have m0 := bx_new w4 0 none 0 0
    have b4 := new_box w4 n4 p4 l4 c4
    have hbn := below_on hb1 (new_below w4 n4 p4 l4 c4)
    replace i4 := i4.later (new_below w4 n4 p4 l4 c4)
    generalize hw : (w4.alloc (.cells #[.int .i64 0, .slice none 0 0] 24)).setRow w4.heap.size #[.int .i64 n4, .slice p4 l4 c4] = v4 at b4 i4 hbn
    replace h1 := h1.later hbn
    replace ia := ia.later hbn
    replace ib := ib.later hbn
    replace ba := ba.later hbn
    replace bb := bb.later hbn
    replace i3 := i3.later hbn
    replace b3 := b3.later hbn
    replace hbel := below_on hbel hbn
    clear hb1 hbn rS2
    go_wp2_with (first | rw [hw] | refine store_t rfl _ _ rfl _ n4 p4 l4 c4 rfl rfl m0 ?_)
    clear m0 hw
    replace hi := hi.later hbel
    generalize w2.heap.size = q at ba bb ⊢
    generalize w3.heap.size = q3 at b3 ⊢
    generalize w4.heap.size = q4 at b4 ⊢
    have rSs := fun w1 (h : Is w1 x (TV n3 p3 l3 c3)) (h' : Is w1 x (TV n p l c)) => same_any x x n3 p3 l3 c3 n p l c w1 h h'
    have rSs2 := fun w1 (h : Is w1 x (TV n4 p4 l4 c4)) (h' : Is w1 x (TV n p l c)) => same_any x x n4 p4 l4 c4 n p l c w1 h h'
    rw [show eqb x x = true from eqb_refl x] at rSs rSs2
    have rAp := fun w1 (h : Is w1 a (TV na pa la ca)) (h' : Is w1 b (TV nb pb lb cb)) => apart_any a b na pa la ca nb pb lb cb w1 h h'
    rw [HG.out.e1, show ((0 : Int) == 0) = true from rfl] at rAp
    have rHa := fun w1 (h : Is w1 a (TV na pa la ca)) => share_any a na pa la ca w1 h
    have rHb := fun w1 (h : Is w1 b (TV nb pb lb cb)) => share_any b nb pb lb cb w1 h
    have rHt := fun w1 (h : Is w1 x (TV n p l c)) => share_any x n p l c w1 h
    rw [HG.out.sa] at rHa
    rw [HG.out.sb] at rHb
    rw [HG.out.sx] at rHt
    have rOa := fun w1 (h : Is w1 a (TV na pa la ca)) => owns_any a m na pa la ca w1 h
    have rOb := fun w1 (h : Is w1 b (TV nb pb lb cb)) => owns_any b m nb pb lb cb w1 h
    have rOt := fun w1 (h : Is w1 x (TV n p l c)) => owns_any x m n p l c w1 h
    rw [HG.out.eoa] at rOa
    rw [HG.out.eob] at rOb
    rw [HG.out.eot] at rOt
    have e1 : IntKind.i64.wrap ((A : Int) + (B : Int)) = (C : Int) := by
      have h1 := HG.out.sum
      have h2 := HG.out.le
      rw [IntKind.wrap_i64]; omega
    have hA : 0 < A := HG.out.pa
    have hB : 0 < B := HG.out.pb
    have hor : (oa || ob) = ot := HG.out.eor
    have hand : (oa && ob) = false := HG.out.eand
    clear HG
    have hs : Calm.Stays (fun w' => Tat w' w.heap.size 0 n p l c ∧ Tat w' q 0 na pa la ca ∧ Tat w' (q + 1) 0 nb pb lb cb ∧ Tat w' q3 0 n3 p3 l3 c3 ∧ Tat w' q4 0 n4 p4 l4 c4 ∧ Is w' x (TV n p l c) ∧ Is w' a (TV na pa la ca) ∧ Is w' b (TV nb pb lb cb) ∧ Is w' x (TV n3 p3 l3 c3) ∧ Is w' x (TV n4 p4 l4 c4) ∧ Below w.heap.size w w') := fun wa wb h hb => ⟨h.1.later hb, h.2.1.later hb, h.2.2.1.later hb, h.2.2.2.1.later hb, h.2.2.2.2.1.later hb, h.2.2.2.2.2.1.later hb, h.2.2.2.2.2.2.1.later hb, h.2.2.2.2.2.2.2.1.later hb, h.2.2.2.2.2.2.2.2.1.later hb, h.2.2.2.2.2.2.2.2.2.1.later hb, below_on h.2.2.2.2.2.2.2.2.2.2 hb⟩
    refine Calm.region (by kernel_rfl) (by kernel_rfl) (fun w' => Tat w' w.heap.size 0 n p l c ∧ Tat w' q 0 na pa la ca ∧ Tat w' (q + 1) 0 nb pb lb cb ∧ Tat w' q3 0 n3 p3 l3 c3 ∧ Tat w' q4 0 n4 p4 l4 c4 ∧ Is w' x (TV n p l c) ∧ Is w' a (TV na pa la ca) ∧ Is w' b (TV nb pb lb cb) ∧ Is w' x (TV n3 p3 l3 c3) ∧ Is w' x (TV n4 p4 l4 c4) ∧ Below w.heap.size w w')
      ⟨h1.tat, ba.tat, bb.tat, b3.tat, b4.tat, hi.later (Below.refl _ _).drew, ia.later (Below.refl _ _).drew, ib.later (Below.refl _ _).drew, i3.later (Below.refl _ _).drew, i4.later (Below.refl _ _).drew, hbel.drew⟩ ?_
    clear h1 ba bb b3 b4 hi ia ib i3 i4 hbel
    cases oa <;> cases ob <;> first | (simp at hand; done) | (simp at hor; subst hor; clear hand)
    all_goals
      refine Calm.pure (v := ?_) (by rfl) ?_ ?_
      rotate_left
      focus (intro w hSw; go_simp <;> rfl)
      simp only [Act.put, List.setIfInBounds_toArray, List.set_cons_zero, List.set_cons_succ]
    all_goals
      refine Calm.pure (v := ?_) (by rfl) ?_ ?_
      rotate_left
      focus (intro w hSw; go_simp <;> rfl)
      simp only [Act.put, List.setIfInBounds_toArray, List.set_cons_zero, List.set_cons_succ]
    all_goals
      refine Calm.pure (v := ?_) (by rfl) ?_ ?_
      rotate_left
      focus (intro w hSw; go_simp <;> rfl)
      simp only [Act.put, List.setIfInBounds_toArray, List.set_cons_zero, List.set_cons_succ]
    all_goals
      first
        | (refine Calm.skip ?_ ?_; focus rfl)
        | (refine Calm.pure (v := ?_) (by rfl) ?_ ?_
           rotate_left
           focus (intro w hSw; go_simp <;> rfl))
      simp only [Act.put, List.setIfInBounds_toArray, List.set_cons_zero, List.set_cons_succ]
    all_goals
      first
        | (refine Calm.skip ?_ ?_; focus rfl)
        | (refine Calm.pure (v := ?_) (by rfl) ?_ ?_
           rotate_left
           focus (intro w hSw; go_simp <;> rfl))
      simp only [Act.put, List.setIfInBounds_toArray, List.set_cons_zero, List.set_cons_succ]
    all_goals
      refine Calm.pure (v := ?_) (by rfl) ?_ ?_
      rotate_left
      focus (intro w hSw; go_simp <;> rfl)
      simp only [Act.put, List.setIfInBounds_toArray, List.set_cons_zero, List.set_cons_succ]
    all_goals
      refine Calm.pure (v := ?_) (by rfl) ?_ ?_
      rotate_left
      focus (intro w hSw; go_simp <;> rfl)
      simp only [Act.put, List.setIfInBounds_toArray, List.set_cons_zero, List.set_cons_succ]
    all_goals
      first
        | (refine Calm.skip ?_ ?_; focus rfl)
        | (refine Calm.loadT (by rfl) _ rfl rfl (fun _ h => by go_split_ands; assumption) ?_)
      simp only [Act.put, List.setIfInBounds_toArray, List.set_cons_zero, List.set_cons_succ]
    all_goals
      first
        | (refine Calm.skip ?_ ?_; focus rfl)
        | (refine Calm.loadT (by rfl) _ rfl rfl (fun _ h => by go_split_ands; assumption) ?_)
      simp only [Act.put, List.setIfInBounds_toArray, List.set_cons_zero, List.set_cons_succ]
    all_goals
      first
        | (refine Calm.skip ?_ ?_; focus rfl)
        | (refine Calm.call2s (by rfl) rfl rfl rfl (by kernel_rfl) hs (fun w1 h => rSs w1 h.2.2.2.2.2.2.2.2.1 h.2.2.2.2.2.1) ?_)
      simp only [Act.put, List.setIfInBounds_toArray, List.set_cons_zero, List.set_cons_succ]
    all_goals
      refine Calm.pure (v := ?_) (by rfl) ?_ ?_
      rotate_left
      focus (intro w hSw; go_simp <;> rfl)
      simp only [Act.put, List.setIfInBounds_toArray, List.set_cons_zero, List.set_cons_succ]
    all_goals
      refine Calm.pure (v := ?_) (by rfl) ?_ ?_
      rotate_left
      focus (intro w hSw; go_simp <;> rfl)
      simp only [Act.put, List.setIfInBounds_toArray, List.set_cons_zero, List.set_cons_succ]
    all_goals
      first
        | (refine Calm.skip ?_ ?_; focus rfl)
        | (refine Calm.loadT (by rfl) _ rfl rfl (fun _ h => by go_split_ands; assumption) ?_)
      simp only [Act.put, List.setIfInBounds_toArray, List.set_cons_zero, List.set_cons_succ]
    all_goals
      first
        | (refine Calm.skip ?_ ?_; focus rfl)
        | (refine Calm.loadT (by rfl) _ rfl rfl (fun _ h => by go_split_ands; assumption) ?_)
      simp only [Act.put, List.setIfInBounds_toArray, List.set_cons_zero, List.set_cons_succ]
    all_goals
      first
        | (refine Calm.skip ?_ ?_; focus rfl)
        | (refine Calm.call2s (by rfl) rfl rfl rfl (by kernel_rfl) hs (fun w1 h => rSs2 w1 h.2.2.2.2.2.2.2.2.2.1 h.2.2.2.2.2.1) ?_)
      simp only [Act.put, List.setIfInBounds_toArray, List.set_cons_zero, List.set_cons_succ]
    all_goals
      refine Calm.pure (v := ?_) (by rfl) ?_ ?_
      rotate_left
      focus (intro w hSw; go_simp <;> rfl)
      simp only [Act.put, List.setIfInBounds_toArray, List.set_cons_zero, List.set_cons_succ]
    all_goals
      refine Calm.pure (v := ?_) (by rfl) ?_ ?_
      rotate_left
      focus (intro w hSw; go_simp <;> rfl)
      simp only [Act.put, List.setIfInBounds_toArray, List.set_cons_zero, List.set_cons_succ]
    all_goals
      first
        | (refine Calm.skip ?_ ?_; focus rfl)
        | (refine Calm.loadT (by rfl) _ rfl rfl (fun _ h => by go_split_ands; assumption) ?_)
      simp only [Act.put, List.setIfInBounds_toArray, List.set_cons_zero, List.set_cons_succ]
    all_goals
      first
        | (refine Calm.skip ?_ ?_; focus rfl)
        | (refine Calm.loadT (by rfl) _ rfl rfl (fun _ h => by go_split_ands; assumption) ?_)
      simp only [Act.put, List.setIfInBounds_toArray, List.set_cons_zero, List.set_cons_succ]
    all_goals
      first
        | (refine Calm.skip ?_ ?_; focus rfl)
        | (refine Calm.call2s (by rfl) rfl rfl rfl (by kernel_rfl) hs (fun w1 h => rAp w1 h.2.2.2.2.2.2.1 h.2.2.2.2.2.2.2.1) ?_)
      simp only [Act.put, List.setIfInBounds_toArray, List.set_cons_zero, List.set_cons_succ]
    all_goals
      refine Calm.pure (v := ?_) (by rfl) ?_ ?_
      rotate_left
      focus (intro w hSw; go_simp <;> rfl)
      simp only [Act.put, List.setIfInBounds_toArray, List.set_cons_zero, List.set_cons_succ]
    all_goals
      refine Calm.pure (v := ?_) (by rfl) ?_ ?_
      rotate_left
      focus (intro w hSw; go_simp <;> rfl)
      simp only [Act.put, List.setIfInBounds_toArray, List.set_cons_zero, List.set_cons_succ]
    all_goals
      first
        | (refine Calm.skip ?_ ?_; focus rfl)
        | (refine Calm.loadT (by rfl) _ rfl rfl (fun _ h => by go_split_ands; assumption) ?_)
      simp only [Act.put, List.setIfInBounds_toArray, List.set_cons_zero, List.set_cons_succ]
    all_goals
      first
        | (refine Calm.skip ?_ ?_; focus rfl)
        | (refine Calm.call1s (by rfl) rfl rfl (by kernel_rfl) hs (fun w1 h => rHa w1 h.2.2.2.2.2.2.1) ?_)
      simp only [Act.put, List.setIfInBounds_toArray, List.set_cons_zero, List.set_cons_succ]
    all_goals
      first
        | (refine Calm.skip ?_ ?_; focus rfl)
        | (refine Calm.loadT (by rfl) _ rfl rfl (fun _ h => by go_split_ands; assumption) ?_)
      simp only [Act.put, List.setIfInBounds_toArray, List.set_cons_zero, List.set_cons_succ]
    all_goals
      first
        | (refine Calm.skip ?_ ?_; focus rfl)
        | (refine Calm.call1s (by rfl) rfl rfl (by kernel_rfl) hs (fun w1 h => rHb w1 h.2.2.2.2.2.2.2.1) ?_)
      simp only [Act.put, List.setIfInBounds_toArray, List.set_cons_zero, List.set_cons_succ]
    all_goals
      first
        | (refine Calm.skip ?_ ?_; focus rfl)
        | (refine Calm.pure (v := ?_) (by rfl) ?_ ?_
           rotate_left
           focus (intro w hSw; go_simp <;> rfl))
      simp only [Act.put, List.setIfInBounds_toArray, List.set_cons_zero, List.set_cons_succ]
    all_goals
      first
        | (refine Calm.skip ?_ ?_; focus rfl)
        | (refine Calm.loadT (by rfl) _ rfl rfl (fun _ h => by go_split_ands; assumption) ?_)
      simp only [Act.put, List.setIfInBounds_toArray, List.set_cons_zero, List.set_cons_succ]
    all_goals
      first
        | (refine Calm.skip ?_ ?_; focus rfl)
        | (refine Calm.call1s (by rfl) rfl rfl (by kernel_rfl) hs (fun w1 h => rHt w1 h.2.2.2.2.2.1) ?_)
      simp only [Act.put, List.setIfInBounds_toArray, List.set_cons_zero, List.set_cons_succ]
    all_goals
      first
        | (refine Calm.skip ?_ ?_; focus rfl)
        | (refine Calm.pure (v := ?_) (by rfl) ?_ ?_
           rotate_left
           focus (intro w hSw; go_simp <;> rfl))
      simp only [Act.put, List.setIfInBounds_toArray, List.set_cons_zero, List.set_cons_succ]
    all_goals
      refine Calm.pure (v := ?_) (by rfl) ?_ ?_
      rotate_left
      focus (intro w hSw; go_simp <;> rfl)
      simp only [Act.put, List.setIfInBounds_toArray, List.set_cons_zero, List.set_cons_succ]
    all_goals
      refine Calm.pure (v := ?_) (by rfl) ?_ ?_
      rotate_left
      focus (intro w hSw; go_simp <;> rfl)
      simp only [Act.put, List.setIfInBounds_toArray, List.set_cons_zero, List.set_cons_succ]
    all_goals
      first
        | (refine Calm.skip ?_ ?_; focus rfl)
        | (refine Calm.loadT (by rfl) _ rfl rfl (fun _ h => by go_split_ands; assumption) ?_)
      simp only [Act.put, List.setIfInBounds_toArray, List.set_cons_zero, List.set_cons_succ]
    all_goals
      first
        | (refine Calm.skip ?_ ?_; focus rfl)
        | (refine Calm.call1s (by rfl) rfl rfl (by kernel_rfl) hs (fun w1 h => rHa w1 h.2.2.2.2.2.2.1) ?_)
      simp only [Act.put, List.setIfInBounds_toArray, List.set_cons_zero, List.set_cons_succ]
    all_goals
      first
        | (refine Calm.skip ?_ ?_; focus rfl)
        | (refine Calm.pure (v := ?_) (by rfl) ?_ ?_
           rotate_left
           focus (intro w hSw; go_simp <;> rfl))
      simp only [Act.put, List.setIfInBounds_toArray, List.set_cons_zero, List.set_cons_succ]
    all_goals
      refine Calm.pure (v := ?_) (by rfl) ?_ ?_
      rotate_left
      focus (intro w hSw; go_simp <;> rfl)
      simp only [Act.put, List.setIfInBounds_toArray, List.set_cons_zero, List.set_cons_succ]
    all_goals
      refine Calm.pure (v := ?_) (by rfl) ?_ ?_
      rotate_left
      focus (intro w hSw; go_simp <;> rfl)
      simp only [Act.put, List.setIfInBounds_toArray, List.set_cons_zero, List.set_cons_succ]
    all_goals
      first
        | (refine Calm.skip ?_ ?_; focus rfl)
        | (refine Calm.loadT (by rfl) _ rfl rfl (fun _ h => by go_split_ands; assumption) ?_)
      simp only [Act.put, List.setIfInBounds_toArray, List.set_cons_zero, List.set_cons_succ]
    all_goals
      first
        | (refine Calm.skip ?_ ?_; focus rfl)
        | (refine Calm.call1s (by rfl) rfl rfl (by kernel_rfl) hs (fun w1 h => rHb w1 h.2.2.2.2.2.2.2.1) ?_)
      simp only [Act.put, List.setIfInBounds_toArray, List.set_cons_zero, List.set_cons_succ]
    all_goals
      first
        | (refine Calm.skip ?_ ?_; focus rfl)
        | (refine Calm.pure (v := ?_) (by rfl) ?_ ?_
           rotate_left
           focus (intro w hSw; go_simp <;> rfl))
      simp only [Act.put, List.setIfInBounds_toArray, List.set_cons_zero, List.set_cons_succ]
    all_goals
      refine Calm.pure (v := ?_) (by rfl) ?_ ?_
      rotate_left
      focus (intro w hSw; go_simp <;> rfl)
      simp only [Act.put, List.setIfInBounds_toArray, List.set_cons_zero, List.set_cons_succ]
    all_goals
      refine Calm.pure (v := ?_) (by rfl) ?_ ?_
      rotate_left
      focus (intro w hSw; go_simp <;> rfl)
      simp only [Act.put, List.setIfInBounds_toArray, List.set_cons_zero, List.set_cons_succ]
    all_goals
      first
        | (refine Calm.skip ?_ ?_; focus rfl)
        | (refine Calm.loadT (by rfl) _ rfl rfl (fun _ h => by go_split_ands; assumption) ?_)
      simp only [Act.put, List.setIfInBounds_toArray, List.set_cons_zero, List.set_cons_succ]
    all_goals
      first
        | (refine Calm.skip ?_ ?_; focus rfl)
        | (refine Calm.pure (v := ?_) (by rfl) ?_ ?_
           rotate_left
           focus (intro w hSw; go_simp <;> rfl))
      simp only [Act.put, List.setIfInBounds_toArray, List.set_cons_zero, List.set_cons_succ]
    all_goals
      first
        | (refine Calm.skip ?_ ?_; focus rfl)
        | (refine Calm.call2s (by rfl) rfl rfl rfl (by kernel_rfl) hs (fun w1 h => rOa w1 h.2.2.2.2.2.2.1) ?_)
      simp only [Act.put, List.setIfInBounds_toArray, List.set_cons_zero, List.set_cons_succ]
    all_goals
      first
        | (refine Calm.skip ?_ ?_; focus rfl)
        | (refine Calm.pure (v := ?_) (by rfl) ?_ ?_
           rotate_left
           focus (intro w hSw; go_simp <;> rfl))
      simp only [Act.put, List.setIfInBounds_toArray, List.set_cons_zero, List.set_cons_succ]
    all_goals
      first
        | (refine Calm.skip ?_ ?_; focus rfl)
        | (refine Calm.loadT (by rfl) _ rfl rfl (fun _ h => by go_split_ands; assumption) ?_)
      simp only [Act.put, List.setIfInBounds_toArray, List.set_cons_zero, List.set_cons_succ]
    all_goals
      first
        | (refine Calm.skip ?_ ?_; focus rfl)
        | (refine Calm.pure (v := ?_) (by rfl) ?_ ?_
           rotate_left
           focus (intro w hSw; go_simp <;> rfl))
      simp only [Act.put, List.setIfInBounds_toArray, List.set_cons_zero, List.set_cons_succ]
    all_goals
      first
        | (refine Calm.skip ?_ ?_; focus rfl)
        | (refine Calm.call2s (by rfl) rfl rfl rfl (by kernel_rfl) hs (fun w1 h => rOb w1 h.2.2.2.2.2.2.2.1) ?_)
      simp only [Act.put, List.setIfInBounds_toArray, List.set_cons_zero, List.set_cons_succ]
    all_goals
      first
        | (refine Calm.skip ?_ ?_; focus rfl)
        | (refine Calm.pure (v := ?_) (by rfl) ?_ ?_
           rotate_left
           focus (intro w hSw; go_simp <;> rfl))
      simp only [Act.put, List.setIfInBounds_toArray, List.set_cons_zero, List.set_cons_succ]
    all_goals
      first
        | (refine Calm.skip ?_ ?_; focus rfl)
        | (refine Calm.loadT (by rfl) _ rfl rfl (fun _ h => by go_split_ands; assumption) ?_)
      simp only [Act.put, List.setIfInBounds_toArray, List.set_cons_zero, List.set_cons_succ]
    all_goals
      first
        | (refine Calm.skip ?_ ?_; focus rfl)
        | (refine Calm.pure (v := ?_) (by rfl) ?_ ?_
           rotate_left
           focus (intro w hSw; go_simp <;> rfl))
      simp only [Act.put, List.setIfInBounds_toArray, List.set_cons_zero, List.set_cons_succ]
    all_goals
      first
        | (refine Calm.skip ?_ ?_; focus rfl)
        | (refine Calm.call2s (by rfl) rfl rfl rfl (by kernel_rfl) hs (fun w1 h => rOt w1 h.2.2.2.2.2.1) ?_)
      simp only [Act.put, List.setIfInBounds_toArray, List.set_cons_zero, List.set_cons_succ]
    all_goals
      first
        | (refine Calm.skip ?_ ?_; focus rfl)
        | (refine Calm.pure (v := ?_) (by rfl) ?_ ?_
           rotate_left
           focus (intro w hSw; go_simp <;> rfl))
      simp only [Act.put, List.setIfInBounds_toArray, List.set_cons_zero, List.set_cons_succ]
    all_goals
      refine Calm.pure (v := ?_) (by rfl) ?_ ?_
      rotate_left
      focus (intro w hSw; go_simp <;> rfl)
      simp only [Act.put, List.setIfInBounds_toArray, List.set_cons_zero, List.set_cons_succ]
    all_goals
      refine Calm.pure (v := ?_) (by rfl) ?_ ?_
      rotate_left
      focus (intro w hSw; go_simp <;> rfl)
      simp only [Act.put, List.setIfInBounds_toArray, List.set_cons_zero, List.set_cons_succ]
    all_goals
      first
        | (refine Calm.skip ?_ ?_; focus rfl)
        | (refine Calm.loadT (by rfl) _ rfl rfl (fun _ h => by go_split_ands; assumption) ?_)
      simp only [Act.put, List.setIfInBounds_toArray, List.set_cons_zero, List.set_cons_succ]
    all_goals
      first
        | (refine Calm.skip ?_ ?_; focus rfl)
        | (refine Calm.pure (v := ?_) (by rfl) ?_ ?_
           rotate_left
           focus (intro w hSw; go_simp <;> rfl))
      simp only [Act.put, List.setIfInBounds_toArray, List.set_cons_zero, List.set_cons_succ]
    all_goals
      first
        | (refine Calm.skip ?_ ?_; focus rfl)
        | (refine Calm.call2s (by rfl) rfl rfl rfl (by kernel_rfl) hs (fun w1 h => rOa w1 h.2.2.2.2.2.2.1) ?_)
      simp only [Act.put, List.setIfInBounds_toArray, List.set_cons_zero, List.set_cons_succ]
    all_goals
      first
        | (refine Calm.skip ?_ ?_; focus rfl)
        | (refine Calm.pure (v := ?_) (by rfl) ?_ ?_
           rotate_left
           focus (intro w hSw; go_simp <;> rfl))
      simp only [Act.put, List.setIfInBounds_toArray, List.set_cons_zero, List.set_cons_succ]
    all_goals
      first
        | (refine Calm.skip ?_ ?_; focus rfl)
        | (refine Calm.loadT (by rfl) _ rfl rfl (fun _ h => by go_split_ands; assumption) ?_)
      simp only [Act.put, List.setIfInBounds_toArray, List.set_cons_zero, List.set_cons_succ]
    all_goals
      first
        | (refine Calm.skip ?_ ?_; focus rfl)
        | (refine Calm.pure (v := ?_) (by rfl) ?_ ?_
           rotate_left
           focus (intro w hSw; go_simp <;> rfl))
      simp only [Act.put, List.setIfInBounds_toArray, List.set_cons_zero, List.set_cons_succ]
    all_goals
      first
        | (refine Calm.skip ?_ ?_; focus rfl)
        | (refine Calm.call2s (by rfl) rfl rfl rfl (by kernel_rfl) hs (fun w1 h => rOb w1 h.2.2.2.2.2.2.2.1) ?_)
      simp only [Act.put, List.setIfInBounds_toArray, List.set_cons_zero, List.set_cons_succ]
    all_goals
      first
        | (refine Calm.skip ?_ ?_; focus rfl)
        | (refine Calm.pure (v := ?_) (by rfl) ?_ ?_
           rotate_left
           focus (intro w hSw; go_simp <;> rfl))
      simp only [Act.put, List.setIfInBounds_toArray, List.set_cons_zero, List.set_cons_succ]
    all_goals
      first
        | (refine Calm.skip ?_ ?_; focus rfl)
        | (refine Calm.pure (v := ?_) (by rfl) ?_ ?_
           rotate_left
           focus (intro w hSw; go_simp <;> rfl))
      simp only [Act.put, List.setIfInBounds_toArray, List.set_cons_zero, List.set_cons_succ]
    all_goals
      refine Calm.pure (v := ?_) (by rfl) ?_ ?_
      rotate_left
      focus (intro w hSw; go_simp <;> rfl)
      simp only [Act.put, List.setIfInBounds_toArray, List.set_cons_zero, List.set_cons_succ]
    all_goals
      refine Calm.pure (v := ?_) (by rfl) ?_ ?_
      rotate_left
      focus (intro w hSw; go_simp <;> rfl)
      simp only [Act.put, List.setIfInBounds_toArray, List.set_cons_zero, List.set_cons_succ]
    all_goals
      first
        | (refine Calm.skip ?_ ?_; focus rfl)
        | (refine Calm.call0 (by rfl) rfl (by kernel_rfl) hs heads_any ?_)
      simp only [Act.put, List.setIfInBounds_toArray, List.set_cons_zero, List.set_cons_succ]
    all_goals
      refine Calm.pure (v := ?_) (by rfl) ?_ ?_
      rotate_left
      focus (intro w hSw; go_simp <;> rfl)
      simp only [Act.put, List.setIfInBounds_toArray, List.set_cons_zero, List.set_cons_succ]
    all_goals
      refine Calm.pure (v := ?_) (by rfl) ?_ ?_
      rotate_left
      focus (intro w hSw; go_simp <;> rfl)
      simp only [Act.put, List.setIfInBounds_toArray, List.set_cons_zero, List.set_cons_succ]
    all_goals
      rintro w9 h
      have hbel9 := h.2.2.2.2.2.2.2.2.2.2
      clear h
      go_wp2
      go_ret
      exact ⟨rfl, hbel9⟩
end Go.Proofs.Ytdbkjafjanhhbaa
