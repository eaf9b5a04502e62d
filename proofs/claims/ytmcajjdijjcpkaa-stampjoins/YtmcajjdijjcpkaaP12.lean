import Derived.Test.YtmcajjdijjcpkaaP11
/- The function together of package events, at bools. -/
namespace Go.Proofs.Ytmcajjdijjcpkaa
open Go.RowKit

set_option maxHeartbeats 8000000 in
set_option maxRecDepth 100000 in
theorem cmp_step (X Y : Bool) (x0 x1 y0 y1 : EV) (na : Int) (pa : Option Addr) (la ca : Nat) (nb : Int) (pb : Option Addr) (lb cb : Nat) (w : World) (hl : ¬ (la = 0 ∧ lb = 0))
    (rA : ∀ w1, Below w.heap.size w w1 → Calls Try.prog 91 #[TV na pa la ca] w1 (GivesT x0 x1 w1)) (rB : ∀ w1, Below w.heap.size w w1 → Calls Try.prog 91 #[TV nb pb lb cb] w1 (GivesT y0 y1 w1))
    (r0 : ∀ w1 n p l c n' p' l' c', Is w1 x0 (TV n p l c) → Is w1 y0 (TV n' p' l' c') → Calls Try.prog 67 #[TV n p l c, TV n' p' l' c', .func (.func 68) #[] #[], .func (.func 69) #[] #[]] w1 (Tells (.bool X) w1))
    (r1 : ∀ w1 n p l c n' p' l' c', Is w1 x1 (TV n p l c) → Is w1 y1 (TV n' p' l' c') → Calls Try.prog 67 #[TV n p l c, TV n' p' l' c', .func (.func 68) #[] #[], .func (.func 69) #[] #[]] w1 (Tells (.bool Y) w1)) :
    Calls Try.prog 67 #[TV na pa la ca, TV nb pb lb cb, .func (.func 68) #[] #[], .func (.func 69) #[] #[]] w (Tells (.bool (X && Y)) w) := by
  obtain ⟨h1, h2, hbel⟩ := two_box w na pa la ca nb pb lb cb _ rfl
  have hC := isLeaf_any na pa la ca
  have hC' := isLeaf_any nb pb lb cb
  have HL : Hid ((decide (la = 0) && decide (lb = 0)) = false) := by show _ = _; rw [Bool.eq_false_iff]; simpa using hl
  clear hl
  generalize decide (la = 0) = fa at hC HL
  generalize decide (lb = 0) = fb at hC' HL
  go_enter Try.func67, Try.ntmps67
  go_wp2_with (refine load_t _ rfl rfl _ _ rfl h1.tat ?_)
  refine (hC _).mono ?_
  rintro e w1 ⟨rfl, hb1⟩
  replace h1 := h1.later hb1
  replace h2 := h2.later hb1
  replace hbel := below_on hbel hb1
  clear hb1 hC
  cases fa
  · clear hC' HL
    go_wp2_with (first | refine load_t _ rfl rfl _ _ rfl h1.tat ?_)
    refine (rA _ hbel).mono ?_
    rintro e w3 ⟨na0, pa0, la0, ca0, na1, pa1, la1, ca1, rfl, i1, i2, hb1⟩
    replace h1 := h1.later hb1
    replace h2 := h2.later hb1
    replace hbel := below_on hbel hb1
    clear hb1
    have m0 := two_new0 w3
    have m1 := two_new1 w3 na0 pa0 la0 ca0
    obtain ⟨k1, k2, hb1⟩ := two_new w3 na0 pa0 la0 ca0 na1 pa1 la1 ca1 _ rfl
    generalize hw : (((w3.alloc (.cells #[.int .i64 0, .slice none 0 0] 24)).alloc (.cells #[.int .i64 0, .slice none 0 0] 24)).setRow w3.heap.size #[.int .i64 na0, .slice pa0 la0 ca0]).setRow (w3.heap.size + 1) #[.int .i64 na1, .slice pa1 la1 ca1] = vw3 at k1 k2 hb1
    replace h1 := h1.later hb1
    replace h2 := h2.later hb1
    replace i1 := i1.later hb1
    replace i2 := i2.later hb1
    replace hbel := below_on hbel hb1
    clear hb1
    go_wp2_with (first | rw [hw] | refine store_t rfl _ _ rfl _ na0 pa0 la0 ca0 rfl rfl m0 ?_ | refine store_t rfl _ _ rfl _ na1 pa1 la1 ca1 rfl rfl m1 ?_ | refine load_t _ rfl rfl _ _ rfl h2.tat ?_)
    clear m0 m1 hw
    generalize w3.heap.size = q at k1 k2  ⊢
    refine (rB _ hbel).mono ?_
    rintro e w4 ⟨nb0, pb0, lb0, cb0, nb1, pb1, lb1, cb1, rfl, i3, i4, hb1⟩
    replace h1 := h1.later hb1
    replace h2 := h2.later hb1
    replace i1 := i1.later hb1
    replace i2 := i2.later hb1
    replace k1 := k1.later hb1
    replace k2 := k2.later hb1
    replace hbel := below_on hbel hb1
    clear hb1
    have m0 := two_new0 w4
    have m1 := two_new1 w4 nb0 pb0 lb0 cb0
    obtain ⟨k3, k4, hb1⟩ := two_new w4 nb0 pb0 lb0 cb0 nb1 pb1 lb1 cb1 _ rfl
    generalize hw : (((w4.alloc (.cells #[.int .i64 0, .slice none 0 0] 24)).alloc (.cells #[.int .i64 0, .slice none 0 0] 24)).setRow w4.heap.size #[.int .i64 nb0, .slice pb0 lb0 cb0]).setRow (w4.heap.size + 1) #[.int .i64 nb1, .slice pb1 lb1 cb1] = vw4 at k3 k4 hb1
    replace h1 := h1.later hb1
    replace h2 := h2.later hb1
    replace i1 := i1.later hb1
    replace i2 := i2.later hb1
    replace k1 := k1.later hb1
    replace k2 := k2.later hb1
    replace i3 := i3.later hb1
    replace i4 := i4.later hb1
    replace hbel := below_on hbel hb1
    clear hb1
    go_wp2_with (first | rw [hw] | refine store_t rfl _ _ rfl _ nb0 pb0 lb0 cb0 rfl rfl m0 ?_ | refine store_t rfl _ _ rfl _ nb1 pb1 lb1 cb1 rfl rfl m1 ?_ | refine load_t _ rfl rfl _ _ rfl h2.tat ?_)
    clear m0 m1 hw
    generalize w4.heap.size = r at k3 k4  ⊢
    have hS : Calm.Stays (fun w' => Bx w' q na0 pa0 la0 ca0 ∧ Bx w' (q + 1) na1 pa1 la1 ca1 ∧ Bx w' r nb0 pb0 lb0 cb0 ∧ Bx w' (r + 1) nb1 pb1 lb1 cb1 ∧ Is w' x0 (TV na0 pa0 la0 ca0) ∧ Is w' x1 (TV na1 pa1 la1 ca1) ∧ Is w' y0 (TV nb0 pb0 lb0 cb0) ∧ Is w' y1 (TV nb1 pb1 lb1 cb1) ∧ Below w.heap.size w w') := fun wa wb h hb => ⟨h.1.later hb, h.2.1.later hb, h.2.2.1.later hb, h.2.2.2.1.later hb, h.2.2.2.2.1.later hb, h.2.2.2.2.2.1.later hb, h.2.2.2.2.2.2.1.later hb, h.2.2.2.2.2.2.2.1.later hb, below_on h.2.2.2.2.2.2.2.2 hb⟩
    have hF : Facts.Stay [eqF 0 (.func (.func 69) #[] #[]), eqF 1 (TV na0 pa0 la0 ca0), eqF 2 (TV nb0 pb0 lb0 cb0), eqF 3 (.func (.func 68) #[] #[]), eqF 4 (.func (.func 69) #[] #[]), eqF 5 (.bool X), eqF 6 (TV na1 pa1 la1 ca1), eqF 7 (TV nb1 pb1 lb1 cb1), eqF 8 (.func (.func 68) #[] #[]), eqF 9 (.func (.func 69) #[] #[]), eqF 10 (.bool Y), eqF 11 (.bool (X && Y)), eqF 12 (.bool (X && Y))] := stay_of (by simp only [List.forall_mem_cons]; exact ⟨eqF_stays _ _, eqF_stays _ _, eqF_stays _ _, eqF_stays _ _, eqF_stays _ _, eqF_stays _ _, eqF_stays _ _, eqF_stays _ _, eqF_stays _ _, eqF_stays _ _, eqF_stays _ _, eqF_stays _ _, eqF_stays _ _, fun _ h => by cases h⟩)
    refine Facts.region (by kernel_rfl) (by kernel_rfl) (fun w' => Bx w' q na0 pa0 la0 ca0 ∧ Bx w' (q + 1) na1 pa1 la1 ca1 ∧ Bx w' r nb0 pb0 lb0 cb0 ∧ Bx w' (r + 1) nb1 pb1 lb1 cb1 ∧ Is w' x0 (TV na0 pa0 la0 ca0) ∧ Is w' x1 (TV na1 pa1 la1 ca1) ∧ Is w' y0 (TV nb0 pb0 lb0 cb0) ∧ Is w' y1 (TV nb1 pb1 lb1 cb1) ∧ Below w.heap.size w w') (fun x => { tmps := #[TV na pa la ca, TV nb pb lb cb, .func (.func 68) #[] #[], .func (.func 69) #[] #[], .pointer (some ⟨w.heap.size, 0, none⟩), .pointer (some ⟨w.heap.size + 1, 0, none⟩), undef, undef, x 12, .pointer (some ⟨q, 0, none⟩), .pointer (some ⟨q + 1, 0, none⟩), .pointer (some ⟨r, 0, none⟩), .pointer (some ⟨r + 1, 0, none⟩), TV na pa la ca, .bool false, .bool false, undef, undef, .bool false, undef, undef, undef, undef, undef, undef, .tuple #[TV na0 pa0 la0 ca0, TV na1 pa1 la1 ca1], TV na pa la ca, .tuple #[TV na0 pa0 la0 ca0, TV na1 pa1 la1 ca1], TV na0 pa0 la0 ca0, TV na1 pa1 la1 ca1, .tuple #[TV nb0 pb0 lb0 cb0, TV nb1 pb1 lb1 cb1], TV nb pb lb cb, .tuple #[TV nb0 pb0 lb0 cb0, TV nb1 pb1 lb1 cb1], TV nb0 pb0 lb0 cb0, TV nb1 pb1 lb1 cb1, x 0, x 1, x 2, x 3, x 4, x 5, x 6, x 7, x 8, x 9, x 10, x 11], defers := [] }) [eqF 0 (.func (.func 69) #[] #[]), eqF 1 (TV na0 pa0 la0 ca0), eqF 2 (TV nb0 pb0 lb0 cb0), eqF 3 (.func (.func 68) #[] #[]), eqF 4 (.func (.func 69) #[] #[]), eqF 5 (.bool X), eqF 6 (TV na1 pa1 la1 ca1), eqF 7 (TV nb1 pb1 lb1 cb1), eqF 8 (.func (.func 68) #[] #[]), eqF 9 (.func (.func 69) #[] #[]), eqF 10 (.bool Y), eqF 11 (.bool (X && Y)), eqF 12 (.bool (X && Y))] _ rfl (by kernel_rfl) (fun k => if k = 12 then .bool false else undef) rfl (⟨k1, k2, k3, k4, i1.later (Below.refl _ _).drew, i2.later (Below.refl _ _).drew, i3.later (Below.refl _ _).drew, i4.later (Below.refl _ _).drew, hbel.drew⟩) ⟨?_, ?_, ?_, ?_, ?_, ?_, ?_, ?_, ?_, ?_, ?_, ?_, ?_, trivial⟩ ?_
    · exact Facts.pure hS hF (fun _ _ => rfl) rfl (fun x wv hSw hd => by
        go_simp)
    · exact Facts.loadT hS hF (fun _ _ => rfl) _ rfl rfl (fun x wv hSw hd => by rfl) (fun wv hSw => hSw.1.tat)
    · exact Facts.loadT hS hF (fun _ _ => rfl) _ rfl rfl (fun x wv hSw hd => by rfl) (fun wv hSw => hSw.2.2.1.tat)
    · exact Facts.pure hS hF (fun _ _ => rfl) rfl (fun x wv hSw hd => by
        go_simp)
    · exact Facts.pure hS hF (fun _ _ => rfl) rfl (fun x wv hSw hd => by
        go_simp)
    · refine Facts.call4V hS hF (fun _ _ => rfl) rfl (by kernel_rfl) rfl (fun x wv hSw hd => ?_)
      have d1 := eqF_get (hd ⟨1, .data⟩ (by simp) rfl _ rfl)
      have d2 := eqF_get (hd ⟨2, .data⟩ (by simp) rfl _ rfl)
      have d3 := eqF_get (hd ⟨3, .data⟩ (by simp) rfl _ rfl)
      have d4 := eqF_get (hd ⟨4, .data⟩ (by simp) rfl _ rfl)
      have hc := r0 wv _ _ _ _ _ _ _ _ hSw.2.2.2.2.1 hSw.2.2.2.2.2.2.1
      rw [← d1, ← d2, ← d3, ← d4] at hc
      exact hc
    · exact Facts.loadT hS hF (fun _ _ => rfl) _ rfl rfl (fun x wv hSw hd => by rfl) (fun wv hSw => hSw.2.1.tat)
    · exact Facts.loadT hS hF (fun _ _ => rfl) _ rfl rfl (fun x wv hSw hd => by rfl) (fun wv hSw => hSw.2.2.2.1.tat)
    · exact Facts.pure hS hF (fun _ _ => rfl) rfl (fun x wv hSw hd => by
        go_simp)
    · exact Facts.pure hS hF (fun _ _ => rfl) rfl (fun x wv hSw hd => by
        go_simp)
    · refine Facts.call4V hS hF (fun _ _ => rfl) rfl (by kernel_rfl) rfl (fun x wv hSw hd => ?_)
      have d6 := eqF_get (hd ⟨6, .data⟩ (by simp) rfl _ rfl)
      have d7 := eqF_get (hd ⟨7, .data⟩ (by simp) rfl _ rfl)
      have d8 := eqF_get (hd ⟨8, .data⟩ (by simp) rfl _ rfl)
      have d9 := eqF_get (hd ⟨9, .data⟩ (by simp) rfl _ rfl)
      have hc := r1 wv _ _ _ _ _ _ _ _ hSw.2.2.2.2.2.1 hSw.2.2.2.2.2.2.2.1
      rw [← d6, ← d7, ← d8, ← d9] at hc
      exact hc
    · refine Facts.callF2V (fn := 69) hS hF (fun _ _ => rfl) rfl (by kernel_rfl) rfl (fun x wv hSw hd => ?_)
      have d0 := eqF_get (hd ⟨0, .data⟩ (by simp) rfl _ rfl)
      have d5 := eqF_get (hd ⟨5, .data⟩ (by simp) rfl _ rfl)
      have d10 := eqF_get (hd ⟨10, .data⟩ (by simp) rfl _ rfl)
      refine ⟨d0, ?_⟩
      have hc := and_any X Y wv
      rw [← d5, ← d10] at hc
      exact hc
    · exact Facts.pure hS hF (fun _ _ => rfl) rfl (fun x wv hSw hd => by
        have d11 := eqF_get (hd ⟨11, .data⟩ (by simp) rfl _ rfl)
        simp only [d11]
        go_simp)
    · rintro xv w9 ⟨_, _, _, _, _, _, _, _, hbel9⟩ hf
      have d12 := eqF_get (hf 12 _ (by decide) rfl)
      clear hf hS hF
      simp only [d12]
      go_wp2
      go_ret
      exact ⟨rfl, hbel9⟩
  · obtain rfl : fb = false := HL.out
    clear HL
    go_wp2_with (refine load_t _ rfl rfl _ _ rfl h2.tat ?_)
    refine (hC' _).mono ?_
    rintro e w2 ⟨rfl, hb1⟩
    replace h1 := h1.later hb1
    replace h2 := h2.later hb1
    replace hbel := below_on hbel hb1
    clear hb1 hC'
    go_wp2_with (first | refine load_t _ rfl rfl _ _ rfl h1.tat ?_)
    refine (rA _ hbel).mono ?_
    rintro e w3 ⟨na0, pa0, la0, ca0, na1, pa1, la1, ca1, rfl, i1, i2, hb1⟩
    replace h1 := h1.later hb1
    replace h2 := h2.later hb1
    replace hbel := below_on hbel hb1
    clear hb1
    have m0 := two_new0 w3
    have m1 := two_new1 w3 na0 pa0 la0 ca0
    obtain ⟨k1, k2, hb1⟩ := two_new w3 na0 pa0 la0 ca0 na1 pa1 la1 ca1 _ rfl
    generalize hw : (((w3.alloc (.cells #[.int .i64 0, .slice none 0 0] 24)).alloc (.cells #[.int .i64 0, .slice none 0 0] 24)).setRow w3.heap.size #[.int .i64 na0, .slice pa0 la0 ca0]).setRow (w3.heap.size + 1) #[.int .i64 na1, .slice pa1 la1 ca1] = vw3 at k1 k2 hb1
    replace h1 := h1.later hb1
    replace h2 := h2.later hb1
    replace i1 := i1.later hb1
    replace i2 := i2.later hb1
    replace hbel := below_on hbel hb1
    clear hb1
    go_wp2_with (first | rw [hw] | refine store_t rfl _ _ rfl _ na0 pa0 la0 ca0 rfl rfl m0 ?_ | refine store_t rfl _ _ rfl _ na1 pa1 la1 ca1 rfl rfl m1 ?_ | refine load_t _ rfl rfl _ _ rfl h2.tat ?_)
    clear m0 m1 hw
    generalize w3.heap.size = q at k1 k2  ⊢
    refine (rB _ hbel).mono ?_
    rintro e w4 ⟨nb0, pb0, lb0, cb0, nb1, pb1, lb1, cb1, rfl, i3, i4, hb1⟩
    replace h1 := h1.later hb1
    replace h2 := h2.later hb1
    replace i1 := i1.later hb1
    replace i2 := i2.later hb1
    replace k1 := k1.later hb1
    replace k2 := k2.later hb1
    replace hbel := below_on hbel hb1
    clear hb1
    have m0 := two_new0 w4
    have m1 := two_new1 w4 nb0 pb0 lb0 cb0
    obtain ⟨k3, k4, hb1⟩ := two_new w4 nb0 pb0 lb0 cb0 nb1 pb1 lb1 cb1 _ rfl
    generalize hw : (((w4.alloc (.cells #[.int .i64 0, .slice none 0 0] 24)).alloc (.cells #[.int .i64 0, .slice none 0 0] 24)).setRow w4.heap.size #[.int .i64 nb0, .slice pb0 lb0 cb0]).setRow (w4.heap.size + 1) #[.int .i64 nb1, .slice pb1 lb1 cb1] = vw4 at k3 k4 hb1
    replace h1 := h1.later hb1
    replace h2 := h2.later hb1
    replace i1 := i1.later hb1
    replace i2 := i2.later hb1
    replace k1 := k1.later hb1
    replace k2 := k2.later hb1
    replace i3 := i3.later hb1
    replace i4 := i4.later hb1
    replace hbel := below_on hbel hb1
    clear hb1
    go_wp2_with (first | rw [hw] | refine store_t rfl _ _ rfl _ nb0 pb0 lb0 cb0 rfl rfl m0 ?_ | refine store_t rfl _ _ rfl _ nb1 pb1 lb1 cb1 rfl rfl m1 ?_ | refine load_t _ rfl rfl _ _ rfl h2.tat ?_)
    clear m0 m1 hw
    generalize w4.heap.size = r at k3 k4  ⊢
    have hS : Calm.Stays (fun w' => Bx w' q na0 pa0 la0 ca0 ∧ Bx w' (q + 1) na1 pa1 la1 ca1 ∧ Bx w' r nb0 pb0 lb0 cb0 ∧ Bx w' (r + 1) nb1 pb1 lb1 cb1 ∧ Is w' x0 (TV na0 pa0 la0 ca0) ∧ Is w' x1 (TV na1 pa1 la1 ca1) ∧ Is w' y0 (TV nb0 pb0 lb0 cb0) ∧ Is w' y1 (TV nb1 pb1 lb1 cb1) ∧ Below w.heap.size w w') := fun wa wb h hb => ⟨h.1.later hb, h.2.1.later hb, h.2.2.1.later hb, h.2.2.2.1.later hb, h.2.2.2.2.1.later hb, h.2.2.2.2.2.1.later hb, h.2.2.2.2.2.2.1.later hb, h.2.2.2.2.2.2.2.1.later hb, below_on h.2.2.2.2.2.2.2.2 hb⟩
    have hF : Facts.Stay [eqF 0 (.func (.func 69) #[] #[]), eqF 1 (TV na0 pa0 la0 ca0), eqF 2 (TV nb0 pb0 lb0 cb0), eqF 3 (.func (.func 68) #[] #[]), eqF 4 (.func (.func 69) #[] #[]), eqF 5 (.bool X), eqF 6 (TV na1 pa1 la1 ca1), eqF 7 (TV nb1 pb1 lb1 cb1), eqF 8 (.func (.func 68) #[] #[]), eqF 9 (.func (.func 69) #[] #[]), eqF 10 (.bool Y), eqF 11 (.bool (X && Y)), eqF 12 (.bool (X && Y))] := stay_of (by simp only [List.forall_mem_cons]; exact ⟨eqF_stays _ _, eqF_stays _ _, eqF_stays _ _, eqF_stays _ _, eqF_stays _ _, eqF_stays _ _, eqF_stays _ _, eqF_stays _ _, eqF_stays _ _, eqF_stays _ _, eqF_stays _ _, eqF_stays _ _, eqF_stays _ _, fun _ h => by cases h⟩)
    refine Facts.region (by kernel_rfl) (by kernel_rfl) (fun w' => Bx w' q na0 pa0 la0 ca0 ∧ Bx w' (q + 1) na1 pa1 la1 ca1 ∧ Bx w' r nb0 pb0 lb0 cb0 ∧ Bx w' (r + 1) nb1 pb1 lb1 cb1 ∧ Is w' x0 (TV na0 pa0 la0 ca0) ∧ Is w' x1 (TV na1 pa1 la1 ca1) ∧ Is w' y0 (TV nb0 pb0 lb0 cb0) ∧ Is w' y1 (TV nb1 pb1 lb1 cb1) ∧ Below w.heap.size w w') (fun x => { tmps := #[TV na pa la ca, TV nb pb lb cb, .func (.func 68) #[] #[], .func (.func 69) #[] #[], .pointer (some ⟨w.heap.size, 0, none⟩), .pointer (some ⟨w.heap.size + 1, 0, none⟩), undef, undef, x 12, .pointer (some ⟨q, 0, none⟩), .pointer (some ⟨q + 1, 0, none⟩), .pointer (some ⟨r, 0, none⟩), .pointer (some ⟨r + 1, 0, none⟩), TV na pa la ca, .bool true, .bool true, TV nb pb lb cb, .bool false, .bool false, undef, undef, undef, undef, undef, undef, .tuple #[TV na0 pa0 la0 ca0, TV na1 pa1 la1 ca1], TV na pa la ca, .tuple #[TV na0 pa0 la0 ca0, TV na1 pa1 la1 ca1], TV na0 pa0 la0 ca0, TV na1 pa1 la1 ca1, .tuple #[TV nb0 pb0 lb0 cb0, TV nb1 pb1 lb1 cb1], TV nb pb lb cb, .tuple #[TV nb0 pb0 lb0 cb0, TV nb1 pb1 lb1 cb1], TV nb0 pb0 lb0 cb0, TV nb1 pb1 lb1 cb1, x 0, x 1, x 2, x 3, x 4, x 5, x 6, x 7, x 8, x 9, x 10, x 11], defers := [] }) [eqF 0 (.func (.func 69) #[] #[]), eqF 1 (TV na0 pa0 la0 ca0), eqF 2 (TV nb0 pb0 lb0 cb0), eqF 3 (.func (.func 68) #[] #[]), eqF 4 (.func (.func 69) #[] #[]), eqF 5 (.bool X), eqF 6 (TV na1 pa1 la1 ca1), eqF 7 (TV nb1 pb1 lb1 cb1), eqF 8 (.func (.func 68) #[] #[]), eqF 9 (.func (.func 69) #[] #[]), eqF 10 (.bool Y), eqF 11 (.bool (X && Y)), eqF 12 (.bool (X && Y))] _ rfl (by kernel_rfl) (fun k => if k = 12 then .bool false else undef) rfl (⟨k1, k2, k3, k4, i1.later (Below.refl _ _).drew, i2.later (Below.refl _ _).drew, i3.later (Below.refl _ _).drew, i4.later (Below.refl _ _).drew, hbel.drew⟩) ⟨?_, ?_, ?_, ?_, ?_, ?_, ?_, ?_, ?_, ?_, ?_, ?_, ?_, trivial⟩ ?_
    · exact Facts.pure hS hF (fun _ _ => rfl) rfl (fun x wv hSw hd => by
        go_simp)
    · exact Facts.loadT hS hF (fun _ _ => rfl) _ rfl rfl (fun x wv hSw hd => by rfl) (fun wv hSw => hSw.1.tat)
    · exact Facts.loadT hS hF (fun _ _ => rfl) _ rfl rfl (fun x wv hSw hd => by rfl) (fun wv hSw => hSw.2.2.1.tat)
    · exact Facts.pure hS hF (fun _ _ => rfl) rfl (fun x wv hSw hd => by
        go_simp)
    · exact Facts.pure hS hF (fun _ _ => rfl) rfl (fun x wv hSw hd => by
        go_simp)
    · refine Facts.call4V hS hF (fun _ _ => rfl) rfl (by kernel_rfl) rfl (fun x wv hSw hd => ?_)
      have d1 := eqF_get (hd ⟨1, .data⟩ (by simp) rfl _ rfl)
      have d2 := eqF_get (hd ⟨2, .data⟩ (by simp) rfl _ rfl)
      have d3 := eqF_get (hd ⟨3, .data⟩ (by simp) rfl _ rfl)
      have d4 := eqF_get (hd ⟨4, .data⟩ (by simp) rfl _ rfl)
      have hc := r0 wv _ _ _ _ _ _ _ _ hSw.2.2.2.2.1 hSw.2.2.2.2.2.2.1
      rw [← d1, ← d2, ← d3, ← d4] at hc
      exact hc
    · exact Facts.loadT hS hF (fun _ _ => rfl) _ rfl rfl (fun x wv hSw hd => by rfl) (fun wv hSw => hSw.2.1.tat)
    · exact Facts.loadT hS hF (fun _ _ => rfl) _ rfl rfl (fun x wv hSw hd => by rfl) (fun wv hSw => hSw.2.2.2.1.tat)
    · exact Facts.pure hS hF (fun _ _ => rfl) rfl (fun x wv hSw hd => by
        go_simp)
    · exact Facts.pure hS hF (fun _ _ => rfl) rfl (fun x wv hSw hd => by
        go_simp)
    · refine Facts.call4V hS hF (fun _ _ => rfl) rfl (by kernel_rfl) rfl (fun x wv hSw hd => ?_)
      have d6 := eqF_get (hd ⟨6, .data⟩ (by simp) rfl _ rfl)
      have d7 := eqF_get (hd ⟨7, .data⟩ (by simp) rfl _ rfl)
      have d8 := eqF_get (hd ⟨8, .data⟩ (by simp) rfl _ rfl)
      have d9 := eqF_get (hd ⟨9, .data⟩ (by simp) rfl _ rfl)
      have hc := r1 wv _ _ _ _ _ _ _ _ hSw.2.2.2.2.2.1 hSw.2.2.2.2.2.2.2.1
      rw [← d6, ← d7, ← d8, ← d9] at hc
      exact hc
    · refine Facts.callF2V (fn := 69) hS hF (fun _ _ => rfl) rfl (by kernel_rfl) rfl (fun x wv hSw hd => ?_)
      have d0 := eqF_get (hd ⟨0, .data⟩ (by simp) rfl _ rfl)
      have d5 := eqF_get (hd ⟨5, .data⟩ (by simp) rfl _ rfl)
      have d10 := eqF_get (hd ⟨10, .data⟩ (by simp) rfl _ rfl)
      refine ⟨d0, ?_⟩
      have hc := and_any X Y wv
      rw [← d5, ← d10] at hc
      exact hc
    · exact Facts.pure hS hF (fun _ _ => rfl) rfl (fun x wv hSw hd => by
        have d11 := eqF_get (hd ⟨11, .data⟩ (by simp) rfl _ rfl)
        simp only [d11]
        go_simp)
    · rintro xv w9 ⟨_, _, _, _, _, _, _, _, hbel9⟩ hf
      have d12 := eqF_get (hf 12 _ (by decide) rfl)
      clear hf hS hF
      simp only [d12]
      go_wp2
      go_ret
      exact ⟨rfl, hbel9⟩

set_option maxHeartbeats 2000000 in
set_option maxRecDepth 100000 in
theorem cmp_leaf (na : Int) (pa : Option Addr) (ca : Nat) (nb : Int) (pb : Option Addr) (cb : Nat) (w : World) :
    Calls Try.prog 67 #[TV na pa 0 ca, TV nb pb 0 cb, .func (.func 68) #[] #[], .func (.func 69) #[] #[]] w (Tells (.bool (decide (na ≤ nb))) w) := by
  obtain ⟨h1, h2, hbel⟩ := two_box w na pa 0 ca nb pb 0 cb _ rfl
  have hM := isAtMost_any na nb
  generalize decide (na ≤ nb) = bb at hM ⊢
  go_enter Try.func67, Try.ntmps67
  go_wp2_with (refine load_t _ rfl rfl _ _ rfl h1.tat ?_)
  refine (isLeaf_any na pa 0 ca _).mono ?_
  rintro e w1 ⟨rfl, hb1⟩
  replace h1 := h1.later hb1
  replace h2 := h2.later hb1
  replace hbel := below_on hbel hb1
  clear hb1
  go_wp2_with (refine load_t _ rfl rfl _ _ rfl h2.tat ?_)
  refine (isLeaf_any nb pb 0 cb _).mono ?_
  rintro e w2 ⟨rfl, hb1⟩
  replace h1 := h1.later hb1
  replace h2 := h2.later hb1
  replace hbel := below_on hbel hb1
  clear hb1
  have g0 := h1.cell0
  have g1 := h2.cell0
  go_wp2_with fail
  refine (hM _).mono ?_
  rintro e w3 ⟨rfl, hb1⟩
  replace hbel := below_on hbel hb1
  clear hb1 g0 g1 h1 h2
  go_wp2
  go_ret
  exact ⟨rfl, hbel⟩

theorem cmp_any : ∀ (k : Nat) (a b : EV) (left : Int) (na : Int) (pa : Option Addr) (la ca : Nat) (nb : Int) (pb : Option Addr) (lb cb : Nat) (w : World), rg a k left = true → rg b k left = true → left ≤ 1073741824 → Is w a (TV na pa la ca) → Is w b (TV nb pb lb cb) →
    Calls Try.prog 67 #[TV na pa la ca, TV nb pb lb cb, .func (.func 68) #[] #[], .func (.func 69) #[] #[]] w (Tells (.bool (leq k a b)) w) := by
  intro k
  induction k with
  | zero =>
    intro a b left na pa la ca nb pb lb cb w ra rb hl ha hb
    have ea := leaf_of_depth (rg_depth ra)
    have eb := leaf_of_depth (rg_depth rb)
    rw [ea] at ha ⊢
    rw [eb] at hb ⊢
    obtain ⟨_, _, e⟩ := ha
    obtain ⟨_, _, e'⟩ := hb
    simp at e e'
    obtain ⟨rfl, rfl, rfl, rfl⟩ := e
    obtain ⟨rfl, rfl, rfl, rfl⟩ := e'
    exact cmp_leaf _ pa ca _ pb cb w
  | succ k ih =>
    intro a b left na pa la ca nb pb lb cb w ra rb hl ha hb
    have pa' := (is_parts ha).2
    have pb' := (is_parts hb).2
    by_cases hlf : la = 0 ∧ lb = 0
    · have ea : a = .leaf a.n := by
        rcases a with ⟨n, ⟨⟩ | ⟨_, _⟩⟩
        · rfl
        · rw [pa'] at hlf; exact absurd hlf.1 (by simp [len])
      have eb : b = .leaf b.n := by
        rcases b with ⟨n, ⟨⟩ | ⟨_, _⟩⟩
        · rfl
        · rw [pb'] at hlf; exact absurd hlf.2 (by simp [len])
      obtain ⟨rfl, rfl⟩ := hlf
      have h := cmp_leaf na pa ca nb pb cb w
      rw [ea, eb, leq_leaf, ← (is_parts ha).1, ← (is_parts hb).1]
      exact h
    · have ra' := rg_h ra
      have rb' := rg_h rb
      exact cmp_step (leq k (h0 a) (h0 b)) (leq k (h1 a) (h1 b)) (h0 a) (h1 a) (h0 b) (h1 b) na pa la ca nb pb lb cb w hlf (fun w1 hb1 => halves_any a _ _ na pa la ca w1 (ha.later hb1) ra hl) (fun w1 hb1 => halves_any b _ _ nb pb lb cb w1 (hb.later hb1) rb hl)
        (fun w1 n p l c n' p' l' c' h h' => ih _ _ left n p l c n' p' l' c' w1 ra'.1 rb'.1 hl h h') (fun w1 n p l c n' p' l' c' h h' => ih _ _ left n p l c n' p' l' c' w1 ra'.2 rb'.2 hl h h')
end Go.Proofs.Ytmcajjdijjcpkaa
/- The functions Join and Leq of package events. -/
namespace Go.Proofs.Ytmcajjdijjcpkaa
open Go.RowKit

/-- What Join and Leq answer. -/
def jnX (ta tb : Tr) : EV := if okT ta && okT tb then join 16 (evOf ta) (evOf tb) else .leaf 0
def jnE (ta tb : Tr) : Int := if okT ta && okT tb then 0 else 3
def lqT (ta tb : Tr) : Bool := okT ta && (okT tb && leq 16 (evOf ta) (evOf tb))

set_option maxHeartbeats 4000000 in
set_option maxRecDepth 100000 in
theorem join_tr (ta tb : Tr) (na : Int) (pa : Option Addr) (la ca : Nat) (nb : Int) (pb : Option Addr) (lb cb : Nat) (w : World) (ha : Lies w ta (TV na pa la ca)) (hb : Lies w tb (TV nb pb lb cb)) :
    Calls Try.prog 34 #[TV na pa la ca, TV nb pb lb cb] w (GivesE (jnX ta tb) (jnE ta tb) w) := by
  obtain ⟨h1, h2, h3, hbel⟩ := three_box w na pa la ca nb pb lb cb 0 none 0 0 _ rfl
  have rA := fun w1 (hb1 : Below w.heap.size w w1) => check_tr ta na pa la ca w1 (ha.later hb1)
  have rB := fun w1 (hb1 : Below w.heap.size w w1) => check_tr tb nb pb lb cb w1 (hb.later hb1)
  have rJ := fun w1 (hb1 : Below w.heap.size w w1) (ka : okT ta = true) (kb : okT tb = true) => tog_any 16 (evOf ta) (evOf tb) 1073741824 na pa la ca nb pb lb cb w1 (ok_parts (ok_of ha ka).2).1 (ok_parts (ok_of hb kb).2).1 (by omega) ((ok_of ha ka).1.later hb1) ((ok_of hb kb).1.later hb1) 
  unfold jnX jnE
  generalize okT ta = ka at rA rJ ⊢
  generalize okT tb = kb at rB rJ ⊢
  obtain ⟨zx, HX⟩ : ∃ zx, Hid ((if (ka && kb) = true then join 16 (evOf ta) (evOf tb) else .leaf 0) = zx) := ⟨_, rfl⟩
  obtain ⟨ze, HE⟩ : ∃ ze : Int, Hid ((if (ka && kb) = true then 0 else 3) = ze) := ⟨_, rfl⟩
  rw [HX.out, HE.out]
  clear ha hb
  go_enter Try.func34, Try.ntmps34
  go_wp2_with (refine load_t _ rfl rfl _ _ rfl h1.tat ?_)
  refine (rA _ hbel).mono ?_
  rintro e w1 ⟨rfl, hb1⟩
  replace h1 := h1.later hb1
  replace h2 := h2.later hb1
  replace h3 := h3.later hb1
  replace hbel := below_on hbel hb1
  clear hb1 rA
  cases ka
  · have R := below_setRow hbel (g := w.heap.size + 1 + 1) (by omega) #[.int .i64 0, .slice none 0 0]
    obtain rfl : zx = .leaf 0 := by rw [← HX.out]; rfl
    obtain rfl : ze = 3 := by rw [← HE.out]; rfl
    clear HX HE rB rJ h1 h2 hbel
    go_wp2_with (refine store_t rfl _ _ rfl _ 0 none 0 0 rfl rfl h3 ?_)
    exact bodyPost_ret (results_te rfl rfl (h3.row _ _ _ _)) rfl ⟨_, _, _, _, rfl, is_leaf _ 0 _ _, R⟩
  · go_wp2_with (refine load_t _ rfl rfl _ _ rfl h2.tat ?_)
    refine (rB _ hbel).mono ?_
    rintro e w2 ⟨rfl, hb1⟩
    replace h1 := h1.later hb1
    replace h2 := h2.later hb1
    replace h3 := h3.later hb1
    replace hbel := below_on hbel hb1
    clear hb1 rB
    cases kb
    · have R := below_setRow hbel (g := w.heap.size + 1 + 1) (by omega) #[.int .i64 0, .slice none 0 0]
      obtain rfl : zx = .leaf 0 := by rw [← HX.out]; rfl
      obtain rfl : ze = 3 := by rw [← HE.out]; rfl
      clear HX HE rJ h1 h2 hbel
      go_wp2_with (refine store_t rfl _ _ rfl _ 0 none 0 0 rfl rfl h3 ?_)
      exact bodyPost_ret (results_te rfl rfl (h3.row _ _ _ _)) rfl ⟨_, _, _, _, rfl, is_leaf _ 0 _ _, R⟩
    · obtain rfl : zx = join 16 (evOf ta) (evOf tb) := by rw [← HX.out]; rfl
      obtain rfl : ze = 0 := by rw [← HE.out]; rfl
      clear HX HE
      go_wp2_with (first | refine load_t _ rfl rfl _ _ rfl h1.tat ?_ | refine load_t _ rfl rfl _ _ rfl h2.tat ?_)
      refine (rJ _ hbel trivial trivial).mono ?_
      rintro e w3 ⟨n', p', l', c', rfl, hi, hb1⟩
      replace h3 := h3.later hb1
      have R := below_setRow (below_on hbel hb1) (g := w.heap.size + 1 + 1) (by omega) #[.int .i64 n', .slice p' l' c']
      clear hbel hb1 h1 h2 rJ
      go_wp2_with (refine store_t rfl _ _ rfl _ n' p' l' c' rfl rfl h3 ?_)
      exact bodyPost_ret (results_te rfl rfl (h3.row _ _ _ _)) rfl ⟨_, _, _, _, rfl, hi.box h3 _, R⟩

set_option maxHeartbeats 4000000 in
set_option maxRecDepth 100000 in
theorem leq_tr (ta tb : Tr) (na : Int) (pa : Option Addr) (la ca : Nat) (nb : Int) (pb : Option Addr) (lb cb : Nat) (w : World) (ha : Lies w ta (TV na pa la ca)) (hb : Lies w tb (TV nb pb lb cb)) :
    Calls Try.prog 35 #[TV na pa la ca, TV nb pb lb cb] w (Tells (.bool (lqT ta tb)) w) := by
  obtain ⟨h1, h2, hbel⟩ := two_box w na pa la ca nb pb lb cb _ rfl
  have rA := fun w1 (hb1 : Below w.heap.size w w1) => check_tr ta na pa la ca w1 (ha.later hb1)
  have rB := fun w1 (hb1 : Below w.heap.size w w1) => check_tr tb nb pb lb cb w1 (hb.later hb1)
  have rJ := fun w1 (hb1 : Below w.heap.size w w1) (ka : okT ta = true) (kb : okT tb = true) => cmp_any 16 (evOf ta) (evOf tb) 1073741824 na pa la ca nb pb lb cb w1 (ok_parts (ok_of ha ka).2).1 (ok_parts (ok_of hb kb).2).1 (by omega) ((ok_of ha ka).1.later hb1) ((ok_of hb kb).1.later hb1)
  unfold lqT
  generalize okT ta = ka at rA rJ ⊢
  generalize okT tb = kb at rB rJ ⊢
  generalize leq 16 (evOf ta) (evOf tb) = r at rJ ⊢
  clear ha hb
  go_enter Try.func35, Try.ntmps35
  go_wp2_with (refine load_t _ rfl rfl _ _ rfl h1.tat ?_)
  refine (rA _ hbel).mono ?_
  rintro e w1 ⟨rfl, hb1⟩
  replace h1 := h1.later hb1
  replace h2 := h2.later hb1
  replace hbel := below_on hbel hb1
  clear hb1 rA
  cases ka
  · clear rB rJ h1 h2
    go_wp2
    go_ret
    exact ⟨rfl, hbel⟩
  · go_wp2_with (refine load_t _ rfl rfl _ _ rfl h2.tat ?_)
    refine (rB _ hbel).mono ?_
    rintro e w2 ⟨rfl, hb1⟩
    replace h1 := h1.later hb1
    replace h2 := h2.later hb1
    replace hbel := below_on hbel hb1
    clear hb1 rB
    cases kb
    · clear rJ h1 h2
      go_wp2
      go_ret
      exact ⟨rfl, hbel⟩
    · go_wp2_with (first | refine load_t _ rfl rfl _ _ rfl h1.tat ?_ | refine load_t _ rfl rfl _ _ rfl h2.tat ?_)
      refine (rJ _ hbel trivial trivial).mono ?_
      rintro e w3 ⟨rfl, hb1⟩
      replace hbel := below_on hbel hb1
      clear hb1 h1 h2 rJ
      go_wp2
      go_ret
      exact ⟨rfl, hbel⟩

end Go.Proofs.Ytmcajjdijjcpkaa
/- The functions highest, Least and Greatest of package events. -/
namespace Go.Proofs.Ytmcajjdijjcpkaa
open Go.RowKit

set_option maxHeartbeats 4000000 in
set_option maxRecDepth 100000 in
theorem highest_node (X Y : Int) (n : Int) (g o c : Nat) (n0 : Int) (p0 : Option Addr) (l0 c0 : Nat) (n1 : Int) (p1 : Option Addr) (l1 c1 : Nat) (w : World) (t0 : Tat w g o n0 p0 l0 c0) (t1 : Tat w g (o + 2) n1 p1 l1 c1)
    (bx : 0 ≤ X ∧ X ≤ 1073741824) (by_ : 0 ≤ Y ∧ Y ≤ 1073741824) (bn : 0 ≤ n ∧ n ≤ 1073741824)
    (r0 : ∀ w1, Below w.heap.size w w1 → Calls Try.prog 110 #[TV n0 p0 l0 c0] w1 (Tells (.int .i64 X) w1)) (r1 : ∀ w1, Below w.heap.size w w1 → Calls Try.prog 110 #[TV n1 p1 l1 c1] w1 (Tells (.int .i64 Y) w1)) :
    Calls Try.prog 110 #[TV n (some ⟨g, o, none⟩) 2 c] w (Tells (.int .i64 (n + max X Y)) w) := by
  obtain ⟨h1, hbel⟩ := one_box w n (some ⟨g, o, none⟩) 2 c _ rfl
  obtain ⟨z, HZ⟩ : ∃ z, Hid (n + max X Y = z) := ⟨_, rfl⟩
  rw [HZ.out]
  go_enter Try.func110, Try.ntmps110
  go_wp2_with (refine load_t _ rfl rfl _ _ rfl h1.tat ?_)
  refine (isLeaf_any _ _ 2 c _).mono ?_
  rintro e w1 ⟨rfl, hb1⟩
  replace h1 := h1.later hb1
  replace hbel := below_on hbel hb1
  clear hb1
  go_wp2_with fail
  by_cases hlt : X < Y
  · have HM : Hid (n + Y = z) := by show _ = _; rw [← HZ.out]; omega
    have hw : IntKind.i64.wrap (n + Y) = n + Y := by rw [IntKind.wrap_i64]; omega
    clear HZ bx by_ bn
    have hS : Calm.Stays (fun w' => Bx w' w.heap.size n (some ⟨g, o, none⟩) 2 c ∧ Below w.heap.size w w') := fun wa wb h hb => ⟨h.1.later hb, below_on h.2 hb⟩
    have hF : Facts.Stay [eqF 0 (.pointer (some ⟨w.heap.size, 0, none⟩)), eqF 1 (.int .i64 n), eqF 2 (.pointer (some ⟨w.heap.size, 1, none⟩)), eqF 3 (.slice (some ⟨g, o, none⟩) 2 c), eqF 4 (.pointer (some ⟨g, o, none⟩)), eqF 5 (TV n0 p0 l0 c0), eqF 6 (.int .i64 X), eqF 7 (.pointer (some ⟨w.heap.size, 1, none⟩)), eqF 8 (.slice (some ⟨g, o, none⟩) 2 c), eqF 9 (.pointer (some ⟨g, o + 2, none⟩)), eqF 10 (TV n1 p1 l1 c1), eqF 11 (.int .i64 Y), eqF 12 (.int .i64 Y), eqF 13 (.int .i64 (n + Y)), eqF 14 (.int .i64 (n + Y))] := stay_of (by simp only [List.forall_mem_cons]; exact ⟨eqF_stays _ _, eqF_stays _ _, eqF_stays _ _, eqF_stays _ _, eqF_stays _ _, eqF_stays _ _, eqF_stays _ _, eqF_stays _ _, eqF_stays _ _, eqF_stays _ _, eqF_stays _ _, eqF_stays _ _, eqF_stays _ _, eqF_stays _ _, eqF_stays _ _, fun _ h => by cases h⟩)
    refine Facts.region (by kernel_rfl) (by kernel_rfl) (fun w' => Bx w' w.heap.size n (some ⟨g, o, none⟩) 2 c ∧ Below w.heap.size w w') (fun x => { tmps := #[TV n (some ⟨g, o, none⟩) 2 c, .pointer (some ⟨w.heap.size, 0, none⟩), x 14, TV n (some ⟨g, o, none⟩) 2 c, .bool false, undef, undef, x 0, x 1, x 2, x 3, x 4, x 5, x 6, x 7, x 8, x 9, x 10, x 11, x 12, x 13], defers := [] }) [eqF 0 (.pointer (some ⟨w.heap.size, 0, none⟩)), eqF 1 (.int .i64 n), eqF 2 (.pointer (some ⟨w.heap.size, 1, none⟩)), eqF 3 (.slice (some ⟨g, o, none⟩) 2 c), eqF 4 (.pointer (some ⟨g, o, none⟩)), eqF 5 (TV n0 p0 l0 c0), eqF 6 (.int .i64 X), eqF 7 (.pointer (some ⟨w.heap.size, 1, none⟩)), eqF 8 (.slice (some ⟨g, o, none⟩) 2 c), eqF 9 (.pointer (some ⟨g, o + 2, none⟩)), eqF 10 (TV n1 p1 l1 c1), eqF 11 (.int .i64 Y), eqF 12 (.int .i64 Y), eqF 13 (.int .i64 (n + Y)), eqF 14 (.int .i64 (n + Y))] _ rfl (by kernel_rfl) (fun k => if k = 14 then .int .i64 0 else undef) rfl (⟨h1, hbel.drew⟩) ⟨?_, ?_, ?_, ?_, ?_, ?_, ?_, ?_, ?_, ?_, ?_, ?_, ?_, ?_, ?_, trivial⟩ ?_
    · exact Facts.pure hS hF (fun _ _ => rfl) rfl (fun x wv hSw hd => by
        go_simp)
    · exact Facts.pure hS hF (fun _ _ => rfl) rfl (fun x wv hSw hd => by
        have d0 := eqF_get (hd ⟨0, .data⟩ (by simp) rfl _ rfl)
        have g0 := hSw.1.cell0
        have g1 := hSw.1.cell1
        simp only [d0]
        go_simp)
    · exact Facts.pure hS hF (fun _ _ => rfl) rfl (fun x wv hSw hd => by
        go_simp)
    · exact Facts.pure hS hF (fun _ _ => rfl) rfl (fun x wv hSw hd => by
        have d2 := eqF_get (hd ⟨2, .data⟩ (by simp) rfl _ rfl)
        have g0 := hSw.1.cell0
        have g1 := hSw.1.cell1
        simp only [d2]
        go_simp)
    · exact Facts.pure hS hF (fun _ _ => rfl) rfl (fun x wv hSw hd => by
        have d3 := eqF_get (hd ⟨3, .data⟩ (by simp) rfl _ rfl)
        simp only [d3]
        go_simp)
    · exact Facts.loadT hS hF (fun _ _ => rfl) _ rfl rfl (fun x wv hSw hd => by have d4 := eqF_get (hd ⟨4, .data⟩ (by simp) rfl _ rfl); exact d4) (fun wv hSw => t0.later hSw.2)
    · refine Facts.call1V hS hF (fun _ _ => rfl) rfl (by kernel_rfl) rfl (fun x wv hSw hd => ?_)
      have d5 := eqF_get (hd ⟨5, .data⟩ (by simp) rfl _ rfl)
      have hc := r0 _ hSw.2
      rw [← d5] at hc
      exact hc
    · exact Facts.pure hS hF (fun _ _ => rfl) rfl (fun x wv hSw hd => by
        go_simp)
    · exact Facts.pure hS hF (fun _ _ => rfl) rfl (fun x wv hSw hd => by
        have d7 := eqF_get (hd ⟨7, .data⟩ (by simp) rfl _ rfl)
        have g0 := hSw.1.cell0
        have g1 := hSw.1.cell1
        simp only [d7]
        go_simp)
    · exact Facts.pure hS hF (fun _ _ => rfl) rfl (fun x wv hSw hd => by
        have d8 := eqF_get (hd ⟨8, .data⟩ (by simp) rfl _ rfl)
        simp only [d8]
        go_simp)
    · exact Facts.loadT hS hF (fun _ _ => rfl) _ rfl rfl (fun x wv hSw hd => by have d9 := eqF_get (hd ⟨9, .data⟩ (by simp) rfl _ rfl); exact d9) (fun wv hSw => t1.later hSw.2)
    · refine Facts.call1V hS hF (fun _ _ => rfl) rfl (by kernel_rfl) rfl (fun x wv hSw hd => ?_)
      have d10 := eqF_get (hd ⟨10, .data⟩ (by simp) rfl _ rfl)
      have hc := r1 _ hSw.2
      rw [← d10] at hc
      exact hc
    · exact Facts.pure hS hF (fun _ _ => rfl) rfl (fun x wv hSw hd => by
        have d6 := eqF_get (hd ⟨6, .data⟩ (by simp) rfl _ rfl)
        have d11 := eqF_get (hd ⟨11, .data⟩ (by simp) rfl _ rfl)
        simp only [d6, d11]
        go_simp)
    · exact Facts.pure hS hF (fun _ _ => rfl) rfl (fun x wv hSw hd => by
        have d1 := eqF_get (hd ⟨1, .data⟩ (by simp) rfl _ rfl)
        have d12 := eqF_get (hd ⟨12, .data⟩ (by simp) rfl _ rfl)
        simp only [d1, d12]
        go_simp)
    · exact Facts.pure hS hF (fun _ _ => rfl) rfl (fun x wv hSw hd => by
        have d13 := eqF_get (hd ⟨13, .data⟩ (by simp) rfl _ rfl)
        simp only [d13]
        go_simp)
    · rintro xv w9 ⟨_, hbel9⟩ hf
      have d14 := eqF_get (hf 14 _ (by decide) rfl)
      clear hf hS hF
      simp only [d14]
      go_wp2
      go_ret
      exact ⟨by rw [HM.out]; rfl, hbel9⟩
  · have HM : Hid (n + X = z) := by show _ = _; rw [← HZ.out]; omega
    have hw : IntKind.i64.wrap (n + X) = n + X := by rw [IntKind.wrap_i64]; omega
    clear HZ bx by_ bn
    have hS : Calm.Stays (fun w' => Bx w' w.heap.size n (some ⟨g, o, none⟩) 2 c ∧ Below w.heap.size w w') := fun wa wb h hb => ⟨h.1.later hb, below_on h.2 hb⟩
    have hF : Facts.Stay [eqF 0 (.pointer (some ⟨w.heap.size, 0, none⟩)), eqF 1 (.int .i64 n), eqF 2 (.pointer (some ⟨w.heap.size, 1, none⟩)), eqF 3 (.slice (some ⟨g, o, none⟩) 2 c), eqF 4 (.pointer (some ⟨g, o, none⟩)), eqF 5 (TV n0 p0 l0 c0), eqF 6 (.int .i64 X), eqF 7 (.pointer (some ⟨w.heap.size, 1, none⟩)), eqF 8 (.slice (some ⟨g, o, none⟩) 2 c), eqF 9 (.pointer (some ⟨g, o + 2, none⟩)), eqF 10 (TV n1 p1 l1 c1), eqF 11 (.int .i64 Y), eqF 12 (.int .i64 X), eqF 13 (.int .i64 (n + X)), eqF 14 (.int .i64 (n + X))] := stay_of (by simp only [List.forall_mem_cons]; exact ⟨eqF_stays _ _, eqF_stays _ _, eqF_stays _ _, eqF_stays _ _, eqF_stays _ _, eqF_stays _ _, eqF_stays _ _, eqF_stays _ _, eqF_stays _ _, eqF_stays _ _, eqF_stays _ _, eqF_stays _ _, eqF_stays _ _, eqF_stays _ _, eqF_stays _ _, fun _ h => by cases h⟩)
    refine Facts.region (by kernel_rfl) (by kernel_rfl) (fun w' => Bx w' w.heap.size n (some ⟨g, o, none⟩) 2 c ∧ Below w.heap.size w w') (fun x => { tmps := #[TV n (some ⟨g, o, none⟩) 2 c, .pointer (some ⟨w.heap.size, 0, none⟩), x 14, TV n (some ⟨g, o, none⟩) 2 c, .bool false, undef, undef, x 0, x 1, x 2, x 3, x 4, x 5, x 6, x 7, x 8, x 9, x 10, x 11, x 12, x 13], defers := [] }) [eqF 0 (.pointer (some ⟨w.heap.size, 0, none⟩)), eqF 1 (.int .i64 n), eqF 2 (.pointer (some ⟨w.heap.size, 1, none⟩)), eqF 3 (.slice (some ⟨g, o, none⟩) 2 c), eqF 4 (.pointer (some ⟨g, o, none⟩)), eqF 5 (TV n0 p0 l0 c0), eqF 6 (.int .i64 X), eqF 7 (.pointer (some ⟨w.heap.size, 1, none⟩)), eqF 8 (.slice (some ⟨g, o, none⟩) 2 c), eqF 9 (.pointer (some ⟨g, o + 2, none⟩)), eqF 10 (TV n1 p1 l1 c1), eqF 11 (.int .i64 Y), eqF 12 (.int .i64 X), eqF 13 (.int .i64 (n + X)), eqF 14 (.int .i64 (n + X))] _ rfl (by kernel_rfl) (fun k => if k = 14 then .int .i64 0 else undef) rfl (⟨h1, hbel.drew⟩) ⟨?_, ?_, ?_, ?_, ?_, ?_, ?_, ?_, ?_, ?_, ?_, ?_, ?_, ?_, ?_, trivial⟩ ?_
    · exact Facts.pure hS hF (fun _ _ => rfl) rfl (fun x wv hSw hd => by
        go_simp)
    · exact Facts.pure hS hF (fun _ _ => rfl) rfl (fun x wv hSw hd => by
        have d0 := eqF_get (hd ⟨0, .data⟩ (by simp) rfl _ rfl)
        have g0 := hSw.1.cell0
        have g1 := hSw.1.cell1
        simp only [d0]
        go_simp)
    · exact Facts.pure hS hF (fun _ _ => rfl) rfl (fun x wv hSw hd => by
        go_simp)
    · exact Facts.pure hS hF (fun _ _ => rfl) rfl (fun x wv hSw hd => by
        have d2 := eqF_get (hd ⟨2, .data⟩ (by simp) rfl _ rfl)
        have g0 := hSw.1.cell0
        have g1 := hSw.1.cell1
        simp only [d2]
        go_simp)
    · exact Facts.pure hS hF (fun _ _ => rfl) rfl (fun x wv hSw hd => by
        have d3 := eqF_get (hd ⟨3, .data⟩ (by simp) rfl _ rfl)
        simp only [d3]
        go_simp)
    · exact Facts.loadT hS hF (fun _ _ => rfl) _ rfl rfl (fun x wv hSw hd => by have d4 := eqF_get (hd ⟨4, .data⟩ (by simp) rfl _ rfl); exact d4) (fun wv hSw => t0.later hSw.2)
    · refine Facts.call1V hS hF (fun _ _ => rfl) rfl (by kernel_rfl) rfl (fun x wv hSw hd => ?_)
      have d5 := eqF_get (hd ⟨5, .data⟩ (by simp) rfl _ rfl)
      have hc := r0 _ hSw.2
      rw [← d5] at hc
      exact hc
    · exact Facts.pure hS hF (fun _ _ => rfl) rfl (fun x wv hSw hd => by
        go_simp)
    · exact Facts.pure hS hF (fun _ _ => rfl) rfl (fun x wv hSw hd => by
        have d7 := eqF_get (hd ⟨7, .data⟩ (by simp) rfl _ rfl)
        have g0 := hSw.1.cell0
        have g1 := hSw.1.cell1
        simp only [d7]
        go_simp)
    · exact Facts.pure hS hF (fun _ _ => rfl) rfl (fun x wv hSw hd => by
        have d8 := eqF_get (hd ⟨8, .data⟩ (by simp) rfl _ rfl)
        simp only [d8]
        go_simp)
    · exact Facts.loadT hS hF (fun _ _ => rfl) _ rfl rfl (fun x wv hSw hd => by have d9 := eqF_get (hd ⟨9, .data⟩ (by simp) rfl _ rfl); exact d9) (fun wv hSw => t1.later hSw.2)
    · refine Facts.call1V hS hF (fun _ _ => rfl) rfl (by kernel_rfl) rfl (fun x wv hSw hd => ?_)
      have d10 := eqF_get (hd ⟨10, .data⟩ (by simp) rfl _ rfl)
      have hc := r1 _ hSw.2
      rw [← d10] at hc
      exact hc
    · exact Facts.pure hS hF (fun _ _ => rfl) rfl (fun x wv hSw hd => by
        have d6 := eqF_get (hd ⟨6, .data⟩ (by simp) rfl _ rfl)
        have d11 := eqF_get (hd ⟨11, .data⟩ (by simp) rfl _ rfl)
        simp only [d6, d11]
        go_simp)
    · exact Facts.pure hS hF (fun _ _ => rfl) rfl (fun x wv hSw hd => by
        have d1 := eqF_get (hd ⟨1, .data⟩ (by simp) rfl _ rfl)
        have d12 := eqF_get (hd ⟨12, .data⟩ (by simp) rfl _ rfl)
        simp only [d1, d12]
        go_simp)
    · exact Facts.pure hS hF (fun _ _ => rfl) rfl (fun x wv hSw hd => by
        have d13 := eqF_get (hd ⟨13, .data⟩ (by simp) rfl _ rfl)
        simp only [d13]
        go_simp)
    · rintro xv w9 ⟨_, hbel9⟩ hf
      have d14 := eqF_get (hf 14 _ (by decide) rfl)
      clear hf hS hF
      simp only [d14]
      go_wp2
      go_ret
      exact ⟨by rw [HM.out]; rfl, hbel9⟩

set_option maxHeartbeats 4000000 in
set_option maxRecDepth 100000 in
theorem highest_leaf (n : Int) (p : Option Addr) (c : Nat) (w : World) : Calls Try.prog 110 #[TV n p 0 c] w (Tells (.int .i64 n) w) := by
  obtain ⟨h1, hbel⟩ := one_box w n p 0 c _ rfl
  go_enter Try.func110, Try.ntmps110
  go_wp2_with (refine load_t _ rfl rfl _ _ rfl h1.tat ?_)
  refine (isLeaf_any _ p 0 c _).mono ?_
  rintro e w1 ⟨rfl, hb1⟩
  replace h1 := (h1.later hb1).cell0
  replace hbel := below_on hbel hb1
  clear hb1
  go_wp2
  go_ret
  exact ⟨rfl, hbel⟩

theorem highest_any : ∀ (x : EV) (room : Nat) (left : Int) (n : Int) (p : Option Addr) (l c : Nat) (w : World), Is w x (TV n p l c) → rg x room left = true → left ≤ 1073741824 → Calls Try.prog 110 #[TV n p l c] w (Tells (.int .i64 (high x)) w)
  | ⟨m, .inl _⟩, _, _, n, p, l, c, w, ⟨_, _, e⟩, _, _ => by
    simp at e
    obtain ⟨rfl, rfl, rfl, rfl⟩ := e
    exact highest_leaf n p c w
  | ⟨m, .inr (x, y)⟩, room, left, n, p, l, c, w, ⟨g, o, c', n0, p0, l0, c0, n1, p1, l1, c1, e, t0, t1, hx, hy⟩, hr, hl => by
    simp at e
    obtain ⟨rfl, rfl, rfl, rfl⟩ := e
    obtain ⟨b0, _, b1, b2⟩ := rg_kids hr
    have d1 := rg_high b1
    have d2 := rg_high b2
    exact highest_node (high x) (high y) n g o c n0 p0 l0 c0 n1 p1 l1 c1 w t0 t1 (by omega) (by omega) (by omega) (fun w1 hb => highest_any x _ _ _ _ _ _ w1 (hx.later hb) b1 (by omega)) (fun w1 hb => highest_any y _ _ _ _ _ _ w1 (hy.later hb) b2 (by omega))

/-- What Least and Greatest answer. -/
def loT (t : Tr) : Int := if okT t then low (evOf t) else 0
def hiT (t : Tr) : Int := if okT t then high (evOf t) else 0

set_option maxHeartbeats 4000000 in
set_option maxRecDepth 100000 in
theorem least_tr (t : Tr) (n : Int) (p : Option Addr) (l c : Nat) (w : World) (h : Lies w t (TV n p l c)) : Calls Try.prog 102 #[TV n p l c] w (Tells (.int .i64 (loT t)) w) := by
  obtain ⟨h1, hbel⟩ := one_box w n p l c _ rfl
  have rC := fun w1 (hb1 : Below w.heap.size w w1) => check_tr t n p l c w1 (h.later hb1)
  have HV : Hid (okT t = true → low (evOf t) = n) := show _ → _ from fun ht => by
    have hk := ok_of h ht
    rw [low_short (ok_parts hk.2).2, ← (is_parts hk.1).1]
  unfold loT
  generalize okT t = b at rC HV ⊢
  obtain ⟨z, HZ⟩ : ∃ z, Hid ((if b = true then low (evOf t) else 0) = z) := ⟨_, rfl⟩
  rw [HZ.out]
  clear h
  go_enter Try.func102, Try.ntmps102
  go_wp2_with (refine load_t _ rfl rfl _ _ rfl h1.tat ?_)
  refine (rC _ hbel).mono ?_
  rintro e w1 ⟨rfl, hb1⟩
  replace h1 := (h1.later hb1).cell0
  replace hbel := below_on hbel hb1
  clear hb1 rC
  cases b
  · obtain rfl : z = 0 := by rw [← HZ.out]; rfl
    go_wp2
    go_ret
    exact ⟨rfl, hbel⟩
  · have HE : Hid (n = z) := by show _ = _; rw [← HZ.out, if_pos rfl, HV.out rfl]
    clear HZ HV
    go_wp2
    go_ret
    exact ⟨by rw [HE.out]; rfl, hbel⟩
set_option maxHeartbeats 4000000 in
set_option maxRecDepth 100000 in
theorem greatest_tr (t : Tr) (n : Int) (p : Option Addr) (l c : Nat) (w : World) (h : Lies w t (TV n p l c)) : Calls Try.prog 100 #[TV n p l c] w (Tells (.int .i64 (hiT t)) w) := by
  obtain ⟨h1, hbel⟩ := one_box w n p l c _ rfl
  have rC := fun w1 (hb1 : Below w.heap.size w w1) => check_tr t n p l c w1 (h.later hb1)
  have rH := fun w1 (hb1 : Below w.heap.size w w1) (ht : okT t = true) => highest_any (evOf t) 16 1073741824 n p l c w1 ((ok_of h ht).1.later hb1) (ok_parts (ok_of h ht).2).1 (by omega)
  unfold hiT
  generalize okT t = b at rC rH ⊢
  generalize high (evOf t) = v at rH ⊢
  obtain ⟨z, HZ⟩ : ∃ z, Hid ((if b = true then v else 0) = z) := ⟨_, rfl⟩
  rw [HZ.out]
  clear h
  go_enter Try.func100, Try.ntmps100
  go_wp2_with (refine load_t _ rfl rfl _ _ rfl h1.tat ?_)
  refine (rC _ hbel).mono ?_
  rintro e w1 ⟨rfl, hb1⟩
  replace h1 := h1.later hb1
  replace hbel := below_on hbel hb1
  clear hb1 rC
  cases b
  · obtain rfl : z = 0 := by rw [← HZ.out]; rfl
    clear rH
    go_wp2
    go_ret
    exact ⟨rfl, hbel⟩
  · obtain rfl : z = v := by rw [← HZ.out]; rfl
    clear HZ
    go_wp2_with (refine load_t _ rfl rfl _ _ rfl h1.tat ?_)
    refine (rH _ hbel trivial).mono ?_
    rintro e w2 ⟨rfl, hb1⟩
    replace hbel := below_on hbel hb1
    clear hb1 rH h1
    go_wp2
    go_ret
    exact ⟨rfl, hbel⟩

end Go.Proofs.Ytmcajjdijjcpkaa
