/- The function pair of package events. -/
import Derived.Test.YtlfbabepbajcjaaFactsT
namespace Go.Proofs.Ytlfbabepbajcjaa
open Go.RowKit

set_option maxHeartbeats 4000000 in
set_option maxRecDepth 100000 in
theorem pair_any (x y : EV) (n : Int) (p : Option Addr) (l c : Nat) (n' : Int) (p' : Option Addr) (l' c' : Nat) (w : World) (hx : Is w x (TV n p l c)) (hy : Is w y (TV n' p' l' c')) (bx : 0 ≤ x.n ∧ x.n ≤ 1073741824) (by_ : 0 ≤ y.n ∧ y.n ≤ 1073741824) :
    Calls Try.prog 32 #[TV n p l c, TV n' p' l' c'] w (Gives (mk x y) w) := by
  obtain ⟨h1, h2, h3, hbel⟩ := three_box w n p l c n' p' l' c' 0 none 0 0 _ rfl
  have HX : Hid (n = x.n ∧ l = len x) := is_parts hx
  have HY : Hid (n' = y.n ∧ l' = len y) := is_parts hy
  have bn : 0 ≤ n ∧ n ≤ 1073741824 := by rw [HX.out.1]; exact bx
  have bn' : 0 ≤ n' ∧ n' ≤ 1073741824 := by rw [HY.out.1]; exact by_
  have hC := sameLeaf_any n p l c n' p' l' c'
  rw [show (decide (l = 0) && (decide (l' = 0) && n == n')) = tw x y by rw [HX.out.1, HX.out.2, HY.out.1, HY.out.2, tw_eq]] at hC
  obtain ⟨z, HZ⟩ : ∃ z, Hid (mk x y = z) := ⟨_, rfl⟩
  rw [HZ.out]
  replace hx := hx.later hbel
  replace hy := hy.later hbel
  go_enter Try.func32, Try.ntmps32
  go_wp2_with (first | refine load_t _ rfl rfl _ _ rfl h1.tat ?_ | refine load_t _ rfl rfl _ _ rfl h2.tat ?_)
  refine (hC _).mono ?_
  rintro e w1 ⟨rfl, hb1⟩
  replace h1 := h1.later hb1
  replace h2 := h2.later hb1
  replace h3 := h3.later hb1
  replace hx := hx.later hb1
  replace hy := hy.later hb1
  replace hbel := below_on hbel hb1
  clear hC hb1
  have g0 := h1.cell0
  have g1 := h2.cell0
  cases ht : tw x y
  · have HZ' : Hid (.node (min x.n y.n) (lift x (-min x.n y.n)) (lift y (-min x.n y.n)) = z) := by show _ = _; rw [← HZ.out, mk, ht]; rfl
    have HL : Hid ((n' < n → min x.n y.n = n') ∧ (n ≤ n' → min x.n y.n = n)) := by show _ ∧ _; rw [← HX.out.1, ← HY.out.1]; omega
    obtain ⟨m, HQ⟩ : ∃ m, Hid (min x.n y.n = m) := ⟨_, rfl⟩
    have HB : Hid ((-9223372036854775808 ≤ x.n + -m) ∧ (x.n + -m ≤ 9223372036854775807) ∧ (-9223372036854775808 ≤ y.n + -m) ∧ (y.n + -m ≤ 9223372036854775807)) := by show _ ∧ _; rw [← HQ.out]; omega
    rw [HQ.out] at HZ' HL
    clear bx by_ ht HZ HX HY
    by_cases hlt : n' < n
    · have HM : Hid (m = n') := HL.out.1 hlt
      clear HL HQ
      go_wp2_with fail
      refine (lifter_any _ _).mono ?_
      rintro e w2 ⟨b, rfl, hby, hb1⟩
      have hby : By w2 b (-m) := by rw [HM.out]; exact hby
      replace h1 := h1.later hb1
      replace h2 := h2.later hb1
      replace h3 := h3.later hb1
      replace hx := hx.later hb1
      replace hy := hy.later hb1
      replace hbel := below_on hbel hb1
      clear hb1 g0 g1
      go_wp2_with fail
      have hS : Calm.Stays (fun w' => Bx w' (w.heap.size) n p l c ∧ Bx w' (w.heap.size + 1) n' p' l' c' ∧ (∃ n p l c, Bx w' (w.heap.size + 1 + 1) n p l c) ∧ Is w' x (TV n p l c) ∧ Is w' y (TV n' p' l' c') ∧ By w' b (-m) ∧ Below w.heap.size w w') := fun wa wb h hb => ⟨h.1.later hb, h.2.1.later hb, (by obtain ⟨n, p, l, c, h2⟩ := h.2.2.1; exact ⟨n, p, l, c, h2.later hb⟩), h.2.2.2.1.later hb, h.2.2.2.2.1.later hb, h.2.2.2.2.2.1.later hb, below_on h.2.2.2.2.2.2 hb⟩
      have hF : Facts.Stay [eqF 0 (.int .i64 m), eqF 1 (LF b), eqF 2 (TV n p l c), isF 3 (lift x (-m)), eqF 4 (LF b), eqF 5 (TV n' p' l' c'), isF 6 (lift y (-m)), rsF 7 (lift x (-m)) (lift y (-m)), isF 8 (.node m (lift x (-m)) (lift y (-m))), bxF 8 (w.heap.size + 1 + 1) (.node m (lift x (-m)) (lift y (-m)))] := stay_of (by simp only [List.forall_mem_cons]; exact ⟨eqF_stays _ _, eqF_stays _ _, eqF_stays _ _, isF_stays _ _, eqF_stays _ _, eqF_stays _ _, isF_stays _ _, rsF_stays _ _ _, isF_stays _ _, bxF_stays _ _ _, fun _ h => by cases h⟩)
      refine Facts.region (by kernel_rfl) (by kernel_rfl) (fun w' => Bx w' (w.heap.size) n p l c ∧ Bx w' (w.heap.size + 1) n' p' l' c' ∧ (∃ n p l c, Bx w' (w.heap.size + 1 + 1) n p l c) ∧ Is w' x (TV n p l c) ∧ Is w' y (TV n' p' l' c') ∧ By w' b (-m) ∧ Below w.heap.size w w') (fun x => { tmps := #[TV n p l c, TV n' p' l' c', .pointer (some ⟨w.heap.size, 0, none⟩), .pointer (some ⟨w.heap.size + 1, 0, none⟩), .pointer (some ⟨w.heap.size + 1 + 1, 0, none⟩), .int .i64 m, LF b, TV n p l c, TV n' p' l' c', .bool false, undef, undef, undef, .pointer (some ⟨w.heap.size, 0, none⟩), .int .i64 n, .pointer (some ⟨w.heap.size + 1, 0, none⟩), .int .i64 n', .int .i64 m, .int .i64 m, .int .i64 (-m), LF b, x 0, x 1, x 2, x 3, x 4, x 5, x 6, x 7, x 8], defers := [] }) [eqF 0 (.int .i64 m), eqF 1 (LF b), eqF 2 (TV n p l c), isF 3 (lift x (-m)), eqF 4 (LF b), eqF 5 (TV n' p' l' c'), isF 6 (lift y (-m)), rsF 7 (lift x (-m)) (lift y (-m)), isF 8 (.node m (lift x (-m)) (lift y (-m))), bxF 8 (w.heap.size + 1 + 1) (.node m (lift x (-m)) (lift y (-m)))] _ rfl (by kernel_rfl) (fun _ => undef) (by have e := HM.out; subst e; rfl) (⟨h1, h2, ⟨_, _, _, _, h3⟩, hx.later (Below.refl _ _).drew, hy.later (Below.refl _ _).drew, hby.later (Below.refl _ _).drew, hbel.drew⟩) ⟨?_, ?_, ?_, ?_, ?_, ?_, ?_, ?_, ?_, ?_, trivial⟩ ?_
      · exact Facts.pure hS hF (fun _ _ => rfl) rfl (fun x wv hSw hd => by
          go_simp)
      · exact Facts.pure hS hF (fun _ _ => rfl) rfl (fun x wv hSw hd => by
          go_simp)
      · exact Facts.loadT hS hF (fun _ _ => rfl) _ rfl rfl (fun x wv hSw hd => by rfl) (fun wv hSw => hSw.1.tat)
      · refine Facts.callC (b := b) hS hF (fun _ _ => rfl) rfl rfl (fun x wv hSw hd => ?_)
        have d1 := eqF_get (hd ⟨1, .data⟩ (by simp) rfl _ rfl)
        have d2 := eqF_get (hd ⟨2, .data⟩ (by simp) rfl _ rfl)
        refine ⟨d1, ?_⟩
        have hc := lifted_is n p l c b (-m) wv hSw.2.2.2.1 hSw.2.2.2.2.2.1 HB.out.1 HB.out.2.1
        rw [← d2] at hc
        exact hc
      · exact Facts.pure hS hF (fun _ _ => rfl) rfl (fun x wv hSw hd => by
          go_simp)
      · exact Facts.loadT hS hF (fun _ _ => rfl) _ rfl rfl (fun x wv hSw hd => by rfl) (fun wv hSw => hSw.2.1.tat)
      · refine Facts.callC (b := b) hS hF (fun _ _ => rfl) rfl rfl (fun x wv hSw hd => ?_)
        have d4 := eqF_get (hd ⟨4, .data⟩ (by simp) rfl _ rfl)
        have d5 := eqF_get (hd ⟨5, .data⟩ (by simp) rfl _ rfl)
        refine ⟨d4, ?_⟩
        have hc := lifted_is n' p' l' c' b (-m) wv hSw.2.2.2.2.1 hSw.2.2.2.2.2.1 HB.out.2.2.1 HB.out.2.2.2
        rw [← d5] at hc
        exact hc
      · exact Facts.sliceT hS hF (fun _ _ => rfl) rfl rfl (fun _ => rfl) (fun _ => rfl) (fun x wv hSw hd => ⟨hd ⟨3, .data⟩ (by simp) rfl _ rfl, hd ⟨6, .data⟩ (by simp) rfl _ rfl⟩)
      · exact Facts.buildT hS hF (fun _ _ => rfl) rfl rfl (fun _ => rfl) (fun x wv hSw hd => ⟨eqF_get (hd ⟨0, .data⟩ (by simp) rfl _ rfl), hd ⟨7, .data⟩ (by simp) rfl _ rfl⟩)
      · exact Facts.storeT (fun _ _ => rfl) _ _ rfl (by decide) rfl (fun _ => rfl) (fun _ => rfl) (fun x wv hSw hd => isF_get (hd ⟨8, .data⟩ (by simp) rfl _ rfl)) (fun wv hSw => ⟨hSw.2.2.1, fun n p l c => (by obtain ⟨s1, s2, ⟨_, _, _, _, s3⟩, s4, s5, s6, s7⟩ := hSw; exact ⟨s1.rowOther (by omega) _, s2.rowOther (by omega) _, ⟨_, _, _, _, s3.row n p l c⟩, s4.box s3 _, s5.box s3 _, s6.box s3 _, below_setRow s7 (by omega) _⟩)⟩) (fun j f hj hfj => by
          match j with
          | 0 => obtain rfl := Option.some.inj hfj; exact eqF_box _ _ _
          | 1 => obtain rfl := Option.some.inj hfj; exact eqF_box _ _ _
          | 2 => obtain rfl := Option.some.inj hfj; exact eqF_box _ _ _
          | 3 => obtain rfl := Option.some.inj hfj; exact isF_box _ _ _
          | 4 => obtain rfl := Option.some.inj hfj; exact eqF_box _ _ _
          | 5 => obtain rfl := Option.some.inj hfj; exact eqF_box _ _ _
          | 6 => obtain rfl := Option.some.inj hfj; exact isF_box _ _ _
          | 7 => obtain rfl := Option.some.inj hfj; exact rsF_box _ _ _ _
          | 8 => obtain rfl := Option.some.inj hfj; exact isF_box _ _ _
          | 9 => exact absurd rfl hj
          | j + 10 => simp at hfj)
      · rintro xv w9 ⟨_, _, _, _, _, _, hbel9⟩ hf
        obtain ⟨n9, p9, l9, c9, _, hbx, hi⟩ := bxF_get (hf 9 _ (by decide) rfl)
        rw [HZ'.out] at hi
        clear hf hS hF
        go_wp2
        exact bodyPost_ret (results_t rfl rfl hbx) rfl ⟨_, _, _, _, rfl, hi, hbel9⟩
    · have HM : Hid (m = n) := HL.out.2 (by omega)
      clear HL HQ
      go_wp2_with fail
      refine (lifter_any _ _).mono ?_
      rintro e w2 ⟨b, rfl, hby, hb1⟩
      have hby : By w2 b (-m) := by rw [HM.out]; exact hby
      replace h1 := h1.later hb1
      replace h2 := h2.later hb1
      replace h3 := h3.later hb1
      replace hx := hx.later hb1
      replace hy := hy.later hb1
      replace hbel := below_on hbel hb1
      clear hb1 g0 g1
      go_wp2_with fail
      have hS : Calm.Stays (fun w' => Bx w' (w.heap.size) n p l c ∧ Bx w' (w.heap.size + 1) n' p' l' c' ∧ (∃ n p l c, Bx w' (w.heap.size + 1 + 1) n p l c) ∧ Is w' x (TV n p l c) ∧ Is w' y (TV n' p' l' c') ∧ By w' b (-m) ∧ Below w.heap.size w w') := fun wa wb h hb => ⟨h.1.later hb, h.2.1.later hb, (by obtain ⟨n, p, l, c, h2⟩ := h.2.2.1; exact ⟨n, p, l, c, h2.later hb⟩), h.2.2.2.1.later hb, h.2.2.2.2.1.later hb, h.2.2.2.2.2.1.later hb, below_on h.2.2.2.2.2.2 hb⟩
      have hF : Facts.Stay [eqF 0 (.int .i64 m), eqF 1 (LF b), eqF 2 (TV n p l c), isF 3 (lift x (-m)), eqF 4 (LF b), eqF 5 (TV n' p' l' c'), isF 6 (lift y (-m)), rsF 7 (lift x (-m)) (lift y (-m)), isF 8 (.node m (lift x (-m)) (lift y (-m))), bxF 8 (w.heap.size + 1 + 1) (.node m (lift x (-m)) (lift y (-m)))] := stay_of (by simp only [List.forall_mem_cons]; exact ⟨eqF_stays _ _, eqF_stays _ _, eqF_stays _ _, isF_stays _ _, eqF_stays _ _, eqF_stays _ _, isF_stays _ _, rsF_stays _ _ _, isF_stays _ _, bxF_stays _ _ _, fun _ h => by cases h⟩)
      refine Facts.region (by kernel_rfl) (by kernel_rfl) (fun w' => Bx w' (w.heap.size) n p l c ∧ Bx w' (w.heap.size + 1) n' p' l' c' ∧ (∃ n p l c, Bx w' (w.heap.size + 1 + 1) n p l c) ∧ Is w' x (TV n p l c) ∧ Is w' y (TV n' p' l' c') ∧ By w' b (-m) ∧ Below w.heap.size w w') (fun x => { tmps := #[TV n p l c, TV n' p' l' c', .pointer (some ⟨w.heap.size, 0, none⟩), .pointer (some ⟨w.heap.size + 1, 0, none⟩), .pointer (some ⟨w.heap.size + 1 + 1, 0, none⟩), .int .i64 m, LF b, TV n p l c, TV n' p' l' c', .bool false, undef, undef, undef, .pointer (some ⟨w.heap.size, 0, none⟩), .int .i64 n, .pointer (some ⟨w.heap.size + 1, 0, none⟩), .int .i64 n', .int .i64 m, .int .i64 m, .int .i64 (-m), LF b, x 0, x 1, x 2, x 3, x 4, x 5, x 6, x 7, x 8], defers := [] }) [eqF 0 (.int .i64 m), eqF 1 (LF b), eqF 2 (TV n p l c), isF 3 (lift x (-m)), eqF 4 (LF b), eqF 5 (TV n' p' l' c'), isF 6 (lift y (-m)), rsF 7 (lift x (-m)) (lift y (-m)), isF 8 (.node m (lift x (-m)) (lift y (-m))), bxF 8 (w.heap.size + 1 + 1) (.node m (lift x (-m)) (lift y (-m)))] _ rfl (by kernel_rfl) (fun _ => undef) (by have e := HM.out; subst e; rfl) (⟨h1, h2, ⟨_, _, _, _, h3⟩, hx.later (Below.refl _ _).drew, hy.later (Below.refl _ _).drew, hby.later (Below.refl _ _).drew, hbel.drew⟩) ⟨?_, ?_, ?_, ?_, ?_, ?_, ?_, ?_, ?_, ?_, trivial⟩ ?_
      · exact Facts.pure hS hF (fun _ _ => rfl) rfl (fun x wv hSw hd => by
          go_simp)
      · exact Facts.pure hS hF (fun _ _ => rfl) rfl (fun x wv hSw hd => by
          go_simp)
      · exact Facts.loadT hS hF (fun _ _ => rfl) _ rfl rfl (fun x wv hSw hd => by rfl) (fun wv hSw => hSw.1.tat)
      · refine Facts.callC (b := b) hS hF (fun _ _ => rfl) rfl rfl (fun x wv hSw hd => ?_)
        have d1 := eqF_get (hd ⟨1, .data⟩ (by simp) rfl _ rfl)
        have d2 := eqF_get (hd ⟨2, .data⟩ (by simp) rfl _ rfl)
        refine ⟨d1, ?_⟩
        have hc := lifted_is n p l c b (-m) wv hSw.2.2.2.1 hSw.2.2.2.2.2.1 HB.out.1 HB.out.2.1
        rw [← d2] at hc
        exact hc
      · exact Facts.pure hS hF (fun _ _ => rfl) rfl (fun x wv hSw hd => by
          go_simp)
      · exact Facts.loadT hS hF (fun _ _ => rfl) _ rfl rfl (fun x wv hSw hd => by rfl) (fun wv hSw => hSw.2.1.tat)
      · refine Facts.callC (b := b) hS hF (fun _ _ => rfl) rfl rfl (fun x wv hSw hd => ?_)
        have d4 := eqF_get (hd ⟨4, .data⟩ (by simp) rfl _ rfl)
        have d5 := eqF_get (hd ⟨5, .data⟩ (by simp) rfl _ rfl)
        refine ⟨d4, ?_⟩
        have hc := lifted_is n' p' l' c' b (-m) wv hSw.2.2.2.2.1 hSw.2.2.2.2.2.1 HB.out.2.2.1 HB.out.2.2.2
        rw [← d5] at hc
        exact hc
      · exact Facts.sliceT hS hF (fun _ _ => rfl) rfl rfl (fun _ => rfl) (fun _ => rfl) (fun x wv hSw hd => ⟨hd ⟨3, .data⟩ (by simp) rfl _ rfl, hd ⟨6, .data⟩ (by simp) rfl _ rfl⟩)
      · exact Facts.buildT hS hF (fun _ _ => rfl) rfl rfl (fun _ => rfl) (fun x wv hSw hd => ⟨eqF_get (hd ⟨0, .data⟩ (by simp) rfl _ rfl), hd ⟨7, .data⟩ (by simp) rfl _ rfl⟩)
      · exact Facts.storeT (fun _ _ => rfl) _ _ rfl (by decide) rfl (fun _ => rfl) (fun _ => rfl) (fun x wv hSw hd => isF_get (hd ⟨8, .data⟩ (by simp) rfl _ rfl)) (fun wv hSw => ⟨hSw.2.2.1, fun n p l c => (by obtain ⟨s1, s2, ⟨_, _, _, _, s3⟩, s4, s5, s6, s7⟩ := hSw; exact ⟨s1.rowOther (by omega) _, s2.rowOther (by omega) _, ⟨_, _, _, _, s3.row n p l c⟩, s4.box s3 _, s5.box s3 _, s6.box s3 _, below_setRow s7 (by omega) _⟩)⟩) (fun j f hj hfj => by
          match j with
          | 0 => obtain rfl := Option.some.inj hfj; exact eqF_box _ _ _
          | 1 => obtain rfl := Option.some.inj hfj; exact eqF_box _ _ _
          | 2 => obtain rfl := Option.some.inj hfj; exact eqF_box _ _ _
          | 3 => obtain rfl := Option.some.inj hfj; exact isF_box _ _ _
          | 4 => obtain rfl := Option.some.inj hfj; exact eqF_box _ _ _
          | 5 => obtain rfl := Option.some.inj hfj; exact eqF_box _ _ _
          | 6 => obtain rfl := Option.some.inj hfj; exact isF_box _ _ _
          | 7 => obtain rfl := Option.some.inj hfj; exact rsF_box _ _ _ _
          | 8 => obtain rfl := Option.some.inj hfj; exact isF_box _ _ _
          | 9 => exact absurd rfl hj
          | j + 10 => simp at hfj)
      · rintro xv w9 ⟨_, _, _, _, _, _, hbel9⟩ hf
        obtain ⟨n9, p9, l9, c9, _, hbx, hi⟩ := bxF_get (hf 9 _ (by decide) rfl)
        rw [HZ'.out] at hi
        clear hf hS hF
        go_wp2
        exact bodyPost_ret (results_t rfl rfl hbx) rfl ⟨_, _, _, _, rfl, hi, hbel9⟩
  · have HZ' : Hid (.leaf x.n = z) := by show _ = _; rw [← HZ.out, mk, ht]; rfl
    go_wp2_with fail
    refine (leaf_any n _).mono ?_
    rintro e w2 ⟨rfl, hb1⟩
    replace h3 := h3.later hb1
    have R := below_setRow (below_on hbel hb1) (g := w.heap.size + 1 + 1) (by omega) #[.int .i64 n, .slice none 0 0]
    have hI : Is (w2.setRow (w.heap.size + 1 + 1) #[.int .i64 n, .slice none 0 0]) z (TV n none 0 0) := by
      rw [← HZ'.out, ← HX.out.1]
      exact is_leaf _ _ _ _
    clear g0 g1 hbel hb1
    go_wp2_with (refine store_t rfl _ _ rfl _ n none 0 0 rfl rfl h3 ?_)
    exact bodyPost_ret (results_t rfl rfl (h3.row _ _ _ _)) rfl ⟨_, _, _, _, rfl, hI, R⟩
end Go.Proofs.Ytlfbabepbajcjaa
