import Derived.Test.YtmcajjdijjcpkaaP20
import Derived.Test.YtmcajjdijjcpkaaP10
/- The functions node and norm of the document's answer. -/
namespace Go.Proofs.Ytmcajjdijjcpkaa
open Go.RowKit

set_option maxHeartbeats 8000000 in
set_option maxRecDepth 100000 in
theorem refNode_any (k : Int) (x y : EV) (na : Int) (pa : Option Addr) (la ca : Nat) (nb : Int) (pb : Option Addr) (lb cb : Nat) (w : World) (hx : Is w x (TV na pa la ca)) (hy : Is w y (TV nb pb lb cb)) (bx : 0 ≤ x.n ∧ x.n ≤ 1073741824) (by_ : 0 ≤ y.n ∧ y.n ≤ 1073741824) (bk : 0 ≤ k ∧ k ≤ 1073741824) :
    Calls Try.prog 87 #[.int .i64 k, TV na pa la ca, TV nb pb lb cb] w (Gives (lift (mk x y) k) w) := by
  obtain ⟨h1, h2, h3, hbel⟩ := three_box w na pa la ca nb pb lb cb 0 none 0 0 _ rfl
  have HX : Hid (na = x.n ∧ la = len x) := is_parts hx
  have HY : Hid (nb = y.n ∧ lb = len y) := is_parts hy
  have bn : 0 ≤ na ∧ na ≤ 1073741824 := by rw [HX.out.1]; exact bx
  have bn' : 0 ≤ nb ∧ nb ≤ 1073741824 := by rw [HY.out.1]; exact by_
  obtain ⟨z, HZ⟩ : ∃ z, Hid (lift (mk x y) k = z) := ⟨_, rfl⟩
  rw [HZ.out]
  replace hx := hx.later hbel
  replace hy := hy.later hbel
  have g0 := h1.cell0
  have g1 := h2.cell0
  have g2 := h1.cell1
  have g3 := h2.cell1
  have HT : Hid ((decide (la = 0) && (decide (lb = 0) && na == nb)) = tw x y) := by show _ = _; rw [HX.out.1, HX.out.2, HY.out.1, HY.out.2, tw_eq]
  cases ht : tw x y
  · have HZ0 : Hid (.node (k + min x.n y.n) (lift x (-min x.n y.n)) (lift y (-min x.n y.n)) = z) := by show _ = _; rw [← HZ.out, mk, ht, Int.add_comm k]; rfl
    have HL : Hid ((nb < na → min x.n y.n = nb) ∧ (na ≤ nb → min x.n y.n = na)) := by show _ ∧ _; rw [← HX.out.1, ← HY.out.1]; omega
    obtain ⟨m, HQ⟩ : ∃ m, Hid (min x.n y.n = m) := ⟨_, rfl⟩
    have HB : Hid ((-9223372036854775808 ≤ x.n + -m) ∧ (x.n + -m ≤ 9223372036854775807) ∧ (-9223372036854775808 ≤ y.n + -m) ∧ (y.n + -m ≤ 9223372036854775807)) := by show _ ∧ _; rw [← HQ.out]; omega
    have HB2 : Hid ((0 ≤ m ∧ m ≤ 1073741824) ∧ (0 ≤ k ∧ k ≤ 1073741824)) := by show _ ∧ _; rw [← HQ.out]; omega
    rw [HQ.out] at HZ0 HL
    rw [ht] at HT
    have HZ' : Hid (.node (k + m) (lift x (-m)) (lift y (-m)) = z) := HZ0.out
    clear bx by_ ht HZ HX HY HZ0
    by_cases ea : la = 0
    · subst ea
      by_cases eb : lb = 0
      · subst eb
        have f0 : (na == nb) = false := HT.out
        clear HT
        by_cases hlt : nb < na
        · have HM : Hid (m = nb) := HL.out.1 hlt
          clear HL HQ
          go_enter Try.func87, Try.ntmps87
          go_wp2_with fail
          have w1 : IntKind.i64.wrap (k + m) = k + m := by rw [IntKind.wrap_i64]; have := HB2.out; omega
          have w2 : IntKind.i64.wrap (-m) = -m := by rw [IntKind.wrap_i64]; have := HB2.out; omega
          clear g0 g1 g2 g3
          have hS : Calm.Stays (fun w' => Bx w' (w.heap.size) na pa 0 ca ∧ Bx w' (w.heap.size + 1) nb pb 0 cb ∧ (∃ n p l c, Bx w' (w.heap.size + 1 + 1) n p l c) ∧ Is w' x (TV na pa 0 ca) ∧ Is w' y (TV nb pb 0 cb) ∧ Below w.heap.size w w') := fun wa wb h hb => ⟨h.1.later hb, h.2.1.later hb, (by obtain ⟨n, p, l, c, h2⟩ := h.2.2.1; exact ⟨n, p, l, c, h2.later hb⟩), h.2.2.2.1.later hb, h.2.2.2.2.1.later hb, below_on h.2.2.2.2.2 hb⟩
          have hF : Facts.Stay [eqF 0 (.int .i64 k), eqF 1 (.int .i64 m), eqF 2 (.int .i64 (k + m)), eqF 3 (TV na pa 0 ca), eqF 4 (.int .i64 m), eqF 5 (.int .i64 (-m)), isF 6 (lift x (-m)), eqF 7 (TV nb pb 0 cb), eqF 8 (.int .i64 m), eqF 9 (.int .i64 (-m)), isF 10 (lift y (-m)), isF 11 (.node (k + m) (lift x (-m)) (lift y (-m))), bxF 11 (w.heap.size + 1 + 1) (.node (k + m) (lift x (-m)) (lift y (-m)))] := stay_of (by simp only [List.forall_mem_cons]; exact ⟨eqF_stays _ _, eqF_stays _ _, eqF_stays _ _, eqF_stays _ _, eqF_stays _ _, eqF_stays _ _, isF_stays _ _, eqF_stays _ _, eqF_stays _ _, eqF_stays _ _, isF_stays _ _, isF_stays _ _, bxF_stays _ _ _, fun _ h => by cases h⟩)
          refine Facts.region (by kernel_rfl) (by kernel_rfl) (fun w' => Bx w' (w.heap.size) na pa 0 ca ∧ Bx w' (w.heap.size + 1) nb pb 0 cb ∧ (∃ n p l c, Bx w' (w.heap.size + 1 + 1) n p l c) ∧ Is w' x (TV na pa 0 ca) ∧ Is w' y (TV nb pb 0 cb) ∧ Below w.heap.size w w') (fun x => { tmps := #[.int .i64 k, TV na pa 0 ca, TV nb pb 0 cb, undef, .pointer (some ⟨w.heap.size, 0, none⟩), .pointer (some ⟨w.heap.size + 1, 0, none⟩), .pointer (some ⟨w.heap.size + 1 + 1, 0, none⟩), .int .i64 m, .pointer (some ⟨w.heap.size, 0, none⟩), .int .i64 na, .pointer (some ⟨w.heap.size + 1, 0, none⟩), .int .i64 nb, .int .i64 m, .pointer (some ⟨w.heap.size, 1, none⟩), .slice pa 0 ca, .int .i64 0, .bool true, .bool true, .pointer (some ⟨w.heap.size + 1, 1, none⟩), .slice pb 0 cb, .int .i64 0, .bool true, .bool true, .bool true, .pointer (some ⟨w.heap.size, 0, none⟩), .int .i64 na, .pointer (some ⟨w.heap.size + 1, 0, none⟩), .int .i64 nb, .bool false, .bool false, undef, undef, undef, undef, x 0, x 1, x 2, x 3, x 4, x 5, x 6, x 7, x 8, x 9, x 10, x 11], defers := [] }) [eqF 0 (.int .i64 k), eqF 1 (.int .i64 m), eqF 2 (.int .i64 (k + m)), eqF 3 (TV na pa 0 ca), eqF 4 (.int .i64 m), eqF 5 (.int .i64 (-m)), isF 6 (lift x (-m)), eqF 7 (TV nb pb 0 cb), eqF 8 (.int .i64 m), eqF 9 (.int .i64 (-m)), isF 10 (lift y (-m)), isF 11 (.node (k + m) (lift x (-m)) (lift y (-m))), bxF 11 (w.heap.size + 1 + 1) (.node (k + m) (lift x (-m)) (lift y (-m)))] _ rfl (by kernel_rfl) (fun _ => undef) (by have e := HM.out; subst e; rfl) (⟨h1, h2, ⟨_, _, _, _, h3⟩, hx.later (Below.refl _ _).drew, hy.later (Below.refl _ _).drew, hbel.drew⟩) ⟨?_, ?_, ?_, ?_, ?_, ?_, ?_, ?_, ?_, ?_, ?_, ?_, ?_, trivial⟩ ?_
          · exact Facts.pure hS hF (fun _ _ => rfl) rfl (fun x wv hSw hd => by
              go_simp)
          · exact Facts.pure hS hF (fun _ _ => rfl) rfl (fun x wv hSw hd => by
              go_simp)
          · exact Facts.pure hS hF (fun _ _ => rfl) rfl (fun x wv hSw hd => by
              have d0 := eqF_get (hd ⟨0, .data⟩ (by simp) rfl _ rfl)
              have d1 := eqF_get (hd ⟨1, .data⟩ (by simp) rfl _ rfl)
              simp only [d0, d1]
              go_simp)
          · exact Facts.loadT hS hF (fun _ _ => rfl) _ rfl rfl (fun x wv hSw hd => by rfl) (fun wv hSw => hSw.1.tat)
          · exact Facts.pure hS hF (fun _ _ => rfl) rfl (fun x wv hSw hd => by
              go_simp)
          · exact Facts.pure hS hF (fun _ _ => rfl) rfl (fun x wv hSw hd => by
              have d4 := eqF_get (hd ⟨4, .data⟩ (by simp) rfl _ rfl)
              simp only [d4]
              go_simp)
          · refine Facts.call2T hS hF (fun _ _ => rfl) rfl (by kernel_rfl) rfl (fun x wv hSw hd => ?_)
            have d3 := eqF_get (hd ⟨3, .data⟩ (by simp) rfl _ rfl)
            have d5 := eqF_get (hd ⟨5, .data⟩ (by simp) rfl _ rfl)
            have hc := refLift_is na pa 0 ca (-m) wv hSw.2.2.2.1 HB.out.1 HB.out.2.1
            rw [← d3, ← d5] at hc
            exact hc
          · exact Facts.loadT hS hF (fun _ _ => rfl) _ rfl rfl (fun x wv hSw hd => by rfl) (fun wv hSw => hSw.2.1.tat)
          · exact Facts.pure hS hF (fun _ _ => rfl) rfl (fun x wv hSw hd => by
              go_simp)
          · exact Facts.pure hS hF (fun _ _ => rfl) rfl (fun x wv hSw hd => by
              have d8 := eqF_get (hd ⟨8, .data⟩ (by simp) rfl _ rfl)
              simp only [d8]
              go_simp)
          · refine Facts.call2T hS hF (fun _ _ => rfl) rfl (by kernel_rfl) rfl (fun x wv hSw hd => ?_)
            have d7 := eqF_get (hd ⟨7, .data⟩ (by simp) rfl _ rfl)
            have d9 := eqF_get (hd ⟨9, .data⟩ (by simp) rfl _ rfl)
            have hc := refLift_is nb pb 0 cb (-m) wv hSw.2.2.2.2.1 HB.out.2.2.1 HB.out.2.2.2
            rw [← d7, ← d9] at hc
            exact hc
          · refine Facts.call3T hS hF (fun _ _ => rfl) rfl (by kernel_rfl) rfl (fun x wv hSw hd => ?_)
            have d2 := eqF_get (hd ⟨2, .data⟩ (by simp) rfl _ rfl)
            obtain ⟨n6i, p6i, l6i, c6i, d6, e6⟩ := isF_get (hd ⟨6, .data⟩ (by simp) rfl _ rfl)
            obtain ⟨n10i, p10i, l10i, c10i, d10, e10⟩ := isF_get (hd ⟨10, .data⟩ (by simp) rfl _ rfl)
            have hc := inner_any (k + m) _ _ _ _ _ _ _ _ _ _ _ e6 e10
            rw [← d2, ← d6, ← d10] at hc
            exact hc
          · exact Facts.storeT (fun _ _ => rfl) _ _ rfl (by decide) rfl (fun _ => rfl) (fun _ => rfl) (fun x wv hSw hd => isF_get (hd ⟨11, .data⟩ (by simp) rfl _ rfl)) (fun wv hSw => ⟨hSw.2.2.1, fun n p l c => (by obtain ⟨s1, s2, ⟨_, _, _, _, s3⟩, s4, s5, s7⟩ := hSw; exact ⟨s1.rowOther (by omega) _, s2.rowOther (by omega) _, ⟨_, _, _, _, s3.row n p l c⟩, s4.box s3 _, s5.box s3 _, below_setRow s7 (by omega) _⟩)⟩) (fun j f hj hfj => by
              match j with
              | 0 => obtain rfl := Option.some.inj hfj; exact eqF_box _ _ _
              | 1 => obtain rfl := Option.some.inj hfj; exact eqF_box _ _ _
              | 2 => obtain rfl := Option.some.inj hfj; exact eqF_box _ _ _
              | 3 => obtain rfl := Option.some.inj hfj; exact eqF_box _ _ _
              | 4 => obtain rfl := Option.some.inj hfj; exact eqF_box _ _ _
              | 5 => obtain rfl := Option.some.inj hfj; exact eqF_box _ _ _
              | 6 => obtain rfl := Option.some.inj hfj; exact isF_box _ _ _
              | 7 => obtain rfl := Option.some.inj hfj; exact eqF_box _ _ _
              | 8 => obtain rfl := Option.some.inj hfj; exact eqF_box _ _ _
              | 9 => obtain rfl := Option.some.inj hfj; exact eqF_box _ _ _
              | 10 => obtain rfl := Option.some.inj hfj; exact isF_box _ _ _
              | 11 => obtain rfl := Option.some.inj hfj; exact isF_box _ _ _
              | 12 => exact absurd rfl hj
              | j + 13 => simp at hfj)
          · rintro xv w9 ⟨_, _, _, _, _, hbel9⟩ hf
            obtain ⟨n9, p9, l9, c9, _, hbx, hi⟩ := bxF_get (hf 12 _ (by decide) rfl)
            rw [HZ'.out] at hi
            clear hf hS hF
            go_wp2
            exact bodyPost_ret (results_t rfl rfl hbx) rfl ⟨_, _, _, _, rfl, hi, hbel9⟩
        · have HM : Hid (m = na) := HL.out.2 (by omega)
          clear HL HQ
          go_enter Try.func87, Try.ntmps87
          go_wp2_with fail
          have w1 : IntKind.i64.wrap (k + m) = k + m := by rw [IntKind.wrap_i64]; have := HB2.out; omega
          have w2 : IntKind.i64.wrap (-m) = -m := by rw [IntKind.wrap_i64]; have := HB2.out; omega
          clear g0 g1 g2 g3
          have hS : Calm.Stays (fun w' => Bx w' (w.heap.size) na pa 0 ca ∧ Bx w' (w.heap.size + 1) nb pb 0 cb ∧ (∃ n p l c, Bx w' (w.heap.size + 1 + 1) n p l c) ∧ Is w' x (TV na pa 0 ca) ∧ Is w' y (TV nb pb 0 cb) ∧ Below w.heap.size w w') := fun wa wb h hb => ⟨h.1.later hb, h.2.1.later hb, (by obtain ⟨n, p, l, c, h2⟩ := h.2.2.1; exact ⟨n, p, l, c, h2.later hb⟩), h.2.2.2.1.later hb, h.2.2.2.2.1.later hb, below_on h.2.2.2.2.2 hb⟩
          have hF : Facts.Stay [eqF 0 (.int .i64 k), eqF 1 (.int .i64 m), eqF 2 (.int .i64 (k + m)), eqF 3 (TV na pa 0 ca), eqF 4 (.int .i64 m), eqF 5 (.int .i64 (-m)), isF 6 (lift x (-m)), eqF 7 (TV nb pb 0 cb), eqF 8 (.int .i64 m), eqF 9 (.int .i64 (-m)), isF 10 (lift y (-m)), isF 11 (.node (k + m) (lift x (-m)) (lift y (-m))), bxF 11 (w.heap.size + 1 + 1) (.node (k + m) (lift x (-m)) (lift y (-m)))] := stay_of (by simp only [List.forall_mem_cons]; exact ⟨eqF_stays _ _, eqF_stays _ _, eqF_stays _ _, eqF_stays _ _, eqF_stays _ _, eqF_stays _ _, isF_stays _ _, eqF_stays _ _, eqF_stays _ _, eqF_stays _ _, isF_stays _ _, isF_stays _ _, bxF_stays _ _ _, fun _ h => by cases h⟩)
          refine Facts.region (by kernel_rfl) (by kernel_rfl) (fun w' => Bx w' (w.heap.size) na pa 0 ca ∧ Bx w' (w.heap.size + 1) nb pb 0 cb ∧ (∃ n p l c, Bx w' (w.heap.size + 1 + 1) n p l c) ∧ Is w' x (TV na pa 0 ca) ∧ Is w' y (TV nb pb 0 cb) ∧ Below w.heap.size w w') (fun x => { tmps := #[.int .i64 k, TV na pa 0 ca, TV nb pb 0 cb, undef, .pointer (some ⟨w.heap.size, 0, none⟩), .pointer (some ⟨w.heap.size + 1, 0, none⟩), .pointer (some ⟨w.heap.size + 1 + 1, 0, none⟩), .int .i64 m, .pointer (some ⟨w.heap.size, 0, none⟩), .int .i64 na, .pointer (some ⟨w.heap.size + 1, 0, none⟩), .int .i64 nb, .int .i64 m, .pointer (some ⟨w.heap.size, 1, none⟩), .slice pa 0 ca, .int .i64 0, .bool true, .bool true, .pointer (some ⟨w.heap.size + 1, 1, none⟩), .slice pb 0 cb, .int .i64 0, .bool true, .bool true, .bool true, .pointer (some ⟨w.heap.size, 0, none⟩), .int .i64 na, .pointer (some ⟨w.heap.size + 1, 0, none⟩), .int .i64 nb, .bool false, .bool false, undef, undef, undef, undef, x 0, x 1, x 2, x 3, x 4, x 5, x 6, x 7, x 8, x 9, x 10, x 11], defers := [] }) [eqF 0 (.int .i64 k), eqF 1 (.int .i64 m), eqF 2 (.int .i64 (k + m)), eqF 3 (TV na pa 0 ca), eqF 4 (.int .i64 m), eqF 5 (.int .i64 (-m)), isF 6 (lift x (-m)), eqF 7 (TV nb pb 0 cb), eqF 8 (.int .i64 m), eqF 9 (.int .i64 (-m)), isF 10 (lift y (-m)), isF 11 (.node (k + m) (lift x (-m)) (lift y (-m))), bxF 11 (w.heap.size + 1 + 1) (.node (k + m) (lift x (-m)) (lift y (-m)))] _ rfl (by kernel_rfl) (fun _ => undef) (by have e := HM.out; subst e; rfl) (⟨h1, h2, ⟨_, _, _, _, h3⟩, hx.later (Below.refl _ _).drew, hy.later (Below.refl _ _).drew, hbel.drew⟩) ⟨?_, ?_, ?_, ?_, ?_, ?_, ?_, ?_, ?_, ?_, ?_, ?_, ?_, trivial⟩ ?_
          · exact Facts.pure hS hF (fun _ _ => rfl) rfl (fun x wv hSw hd => by
              go_simp)
          · exact Facts.pure hS hF (fun _ _ => rfl) rfl (fun x wv hSw hd => by
              go_simp)
          · exact Facts.pure hS hF (fun _ _ => rfl) rfl (fun x wv hSw hd => by
              have d0 := eqF_get (hd ⟨0, .data⟩ (by simp) rfl _ rfl)
              have d1 := eqF_get (hd ⟨1, .data⟩ (by simp) rfl _ rfl)
              simp only [d0, d1]
              go_simp)
          · exact Facts.loadT hS hF (fun _ _ => rfl) _ rfl rfl (fun x wv hSw hd => by rfl) (fun wv hSw => hSw.1.tat)
          · exact Facts.pure hS hF (fun _ _ => rfl) rfl (fun x wv hSw hd => by
              go_simp)
          · exact Facts.pure hS hF (fun _ _ => rfl) rfl (fun x wv hSw hd => by
              have d4 := eqF_get (hd ⟨4, .data⟩ (by simp) rfl _ rfl)
              simp only [d4]
              go_simp)
          · refine Facts.call2T hS hF (fun _ _ => rfl) rfl (by kernel_rfl) rfl (fun x wv hSw hd => ?_)
            have d3 := eqF_get (hd ⟨3, .data⟩ (by simp) rfl _ rfl)
            have d5 := eqF_get (hd ⟨5, .data⟩ (by simp) rfl _ rfl)
            have hc := refLift_is na pa 0 ca (-m) wv hSw.2.2.2.1 HB.out.1 HB.out.2.1
            rw [← d3, ← d5] at hc
            exact hc
          · exact Facts.loadT hS hF (fun _ _ => rfl) _ rfl rfl (fun x wv hSw hd => by rfl) (fun wv hSw => hSw.2.1.tat)
          · exact Facts.pure hS hF (fun _ _ => rfl) rfl (fun x wv hSw hd => by
              go_simp)
          · exact Facts.pure hS hF (fun _ _ => rfl) rfl (fun x wv hSw hd => by
              have d8 := eqF_get (hd ⟨8, .data⟩ (by simp) rfl _ rfl)
              simp only [d8]
              go_simp)
          · refine Facts.call2T hS hF (fun _ _ => rfl) rfl (by kernel_rfl) rfl (fun x wv hSw hd => ?_)
            have d7 := eqF_get (hd ⟨7, .data⟩ (by simp) rfl _ rfl)
            have d9 := eqF_get (hd ⟨9, .data⟩ (by simp) rfl _ rfl)
            have hc := refLift_is nb pb 0 cb (-m) wv hSw.2.2.2.2.1 HB.out.2.2.1 HB.out.2.2.2
            rw [← d7, ← d9] at hc
            exact hc
          · refine Facts.call3T hS hF (fun _ _ => rfl) rfl (by kernel_rfl) rfl (fun x wv hSw hd => ?_)
            have d2 := eqF_get (hd ⟨2, .data⟩ (by simp) rfl _ rfl)
            obtain ⟨n6i, p6i, l6i, c6i, d6, e6⟩ := isF_get (hd ⟨6, .data⟩ (by simp) rfl _ rfl)
            obtain ⟨n10i, p10i, l10i, c10i, d10, e10⟩ := isF_get (hd ⟨10, .data⟩ (by simp) rfl _ rfl)
            have hc := inner_any (k + m) _ _ _ _ _ _ _ _ _ _ _ e6 e10
            rw [← d2, ← d6, ← d10] at hc
            exact hc
          · exact Facts.storeT (fun _ _ => rfl) _ _ rfl (by decide) rfl (fun _ => rfl) (fun _ => rfl) (fun x wv hSw hd => isF_get (hd ⟨11, .data⟩ (by simp) rfl _ rfl)) (fun wv hSw => ⟨hSw.2.2.1, fun n p l c => (by obtain ⟨s1, s2, ⟨_, _, _, _, s3⟩, s4, s5, s7⟩ := hSw; exact ⟨s1.rowOther (by omega) _, s2.rowOther (by omega) _, ⟨_, _, _, _, s3.row n p l c⟩, s4.box s3 _, s5.box s3 _, below_setRow s7 (by omega) _⟩)⟩) (fun j f hj hfj => by
              match j with
              | 0 => obtain rfl := Option.some.inj hfj; exact eqF_box _ _ _
              | 1 => obtain rfl := Option.some.inj hfj; exact eqF_box _ _ _
              | 2 => obtain rfl := Option.some.inj hfj; exact eqF_box _ _ _
              | 3 => obtain rfl := Option.some.inj hfj; exact eqF_box _ _ _
              | 4 => obtain rfl := Option.some.inj hfj; exact eqF_box _ _ _
              | 5 => obtain rfl := Option.some.inj hfj; exact eqF_box _ _ _
              | 6 => obtain rfl := Option.some.inj hfj; exact isF_box _ _ _
              | 7 => obtain rfl := Option.some.inj hfj; exact eqF_box _ _ _
              | 8 => obtain rfl := Option.some.inj hfj; exact eqF_box _ _ _
              | 9 => obtain rfl := Option.some.inj hfj; exact eqF_box _ _ _
              | 10 => obtain rfl := Option.some.inj hfj; exact isF_box _ _ _
              | 11 => obtain rfl := Option.some.inj hfj; exact isF_box _ _ _
              | 12 => exact absurd rfl hj
              | j + 13 => simp at hfj)
          · rintro xv w9 ⟨_, _, _, _, _, hbel9⟩ hf
            obtain ⟨n9, p9, l9, c9, _, hbx, hi⟩ := bxF_get (hf 12 _ (by decide) rfl)
            rw [HZ'.out] at hi
            clear hf hS hF
            go_wp2
            exact bodyPost_ret (results_t rfl rfl hbx) rfl ⟨_, _, _, _, rfl, hi, hbel9⟩
      · have f0 : ((lb : Int) == 0) = false := by simpa using eb
        clear HT eb
        by_cases hlt : nb < na
        · have HM : Hid (m = nb) := HL.out.1 hlt
          clear HL HQ
          go_enter Try.func87, Try.ntmps87
          go_wp2_with fail
          have w1 : IntKind.i64.wrap (k + m) = k + m := by rw [IntKind.wrap_i64]; have := HB2.out; omega
          have w2 : IntKind.i64.wrap (-m) = -m := by rw [IntKind.wrap_i64]; have := HB2.out; omega
          clear g0 g1 g2 g3
          have hS : Calm.Stays (fun w' => Bx w' (w.heap.size) na pa 0 ca ∧ Bx w' (w.heap.size + 1) nb pb lb cb ∧ (∃ n p l c, Bx w' (w.heap.size + 1 + 1) n p l c) ∧ Is w' x (TV na pa 0 ca) ∧ Is w' y (TV nb pb lb cb) ∧ Below w.heap.size w w') := fun wa wb h hb => ⟨h.1.later hb, h.2.1.later hb, (by obtain ⟨n, p, l, c, h2⟩ := h.2.2.1; exact ⟨n, p, l, c, h2.later hb⟩), h.2.2.2.1.later hb, h.2.2.2.2.1.later hb, below_on h.2.2.2.2.2 hb⟩
          have hF : Facts.Stay [eqF 0 (.int .i64 k), eqF 1 (.int .i64 m), eqF 2 (.int .i64 (k + m)), eqF 3 (TV na pa 0 ca), eqF 4 (.int .i64 m), eqF 5 (.int .i64 (-m)), isF 6 (lift x (-m)), eqF 7 (TV nb pb lb cb), eqF 8 (.int .i64 m), eqF 9 (.int .i64 (-m)), isF 10 (lift y (-m)), isF 11 (.node (k + m) (lift x (-m)) (lift y (-m))), bxF 11 (w.heap.size + 1 + 1) (.node (k + m) (lift x (-m)) (lift y (-m)))] := stay_of (by simp only [List.forall_mem_cons]; exact ⟨eqF_stays _ _, eqF_stays _ _, eqF_stays _ _, eqF_stays _ _, eqF_stays _ _, eqF_stays _ _, isF_stays _ _, eqF_stays _ _, eqF_stays _ _, eqF_stays _ _, isF_stays _ _, isF_stays _ _, bxF_stays _ _ _, fun _ h => by cases h⟩)
          refine Facts.region (by kernel_rfl) (by kernel_rfl) (fun w' => Bx w' (w.heap.size) na pa 0 ca ∧ Bx w' (w.heap.size + 1) nb pb lb cb ∧ (∃ n p l c, Bx w' (w.heap.size + 1 + 1) n p l c) ∧ Is w' x (TV na pa 0 ca) ∧ Is w' y (TV nb pb lb cb) ∧ Below w.heap.size w w') (fun x => { tmps := #[.int .i64 k, TV na pa 0 ca, TV nb pb lb cb, undef, .pointer (some ⟨w.heap.size, 0, none⟩), .pointer (some ⟨w.heap.size + 1, 0, none⟩), .pointer (some ⟨w.heap.size + 1 + 1, 0, none⟩), .int .i64 m, .pointer (some ⟨w.heap.size, 0, none⟩), .int .i64 na, .pointer (some ⟨w.heap.size + 1, 0, none⟩), .int .i64 nb, .int .i64 m, .pointer (some ⟨w.heap.size, 1, none⟩), .slice pa 0 ca, .int .i64 0, .bool true, .bool true, .pointer (some ⟨w.heap.size + 1, 1, none⟩), .slice pb lb cb, .int .i64 lb, .bool false, .bool false, .bool false, undef, undef, undef, undef, undef, .bool false, undef, undef, undef, undef, x 0, x 1, x 2, x 3, x 4, x 5, x 6, x 7, x 8, x 9, x 10, x 11], defers := [] }) [eqF 0 (.int .i64 k), eqF 1 (.int .i64 m), eqF 2 (.int .i64 (k + m)), eqF 3 (TV na pa 0 ca), eqF 4 (.int .i64 m), eqF 5 (.int .i64 (-m)), isF 6 (lift x (-m)), eqF 7 (TV nb pb lb cb), eqF 8 (.int .i64 m), eqF 9 (.int .i64 (-m)), isF 10 (lift y (-m)), isF 11 (.node (k + m) (lift x (-m)) (lift y (-m))), bxF 11 (w.heap.size + 1 + 1) (.node (k + m) (lift x (-m)) (lift y (-m)))] _ rfl (by kernel_rfl) (fun _ => undef) (by have e := HM.out; subst e; rfl) (⟨h1, h2, ⟨_, _, _, _, h3⟩, hx.later (Below.refl _ _).drew, hy.later (Below.refl _ _).drew, hbel.drew⟩) ⟨?_, ?_, ?_, ?_, ?_, ?_, ?_, ?_, ?_, ?_, ?_, ?_, ?_, trivial⟩ ?_
          · exact Facts.pure hS hF (fun _ _ => rfl) rfl (fun x wv hSw hd => by
              go_simp)
          · exact Facts.pure hS hF (fun _ _ => rfl) rfl (fun x wv hSw hd => by
              go_simp)
          · exact Facts.pure hS hF (fun _ _ => rfl) rfl (fun x wv hSw hd => by
              have d0 := eqF_get (hd ⟨0, .data⟩ (by simp) rfl _ rfl)
              have d1 := eqF_get (hd ⟨1, .data⟩ (by simp) rfl _ rfl)
              simp only [d0, d1]
              go_simp)
          · exact Facts.loadT hS hF (fun _ _ => rfl) _ rfl rfl (fun x wv hSw hd => by rfl) (fun wv hSw => hSw.1.tat)
          · exact Facts.pure hS hF (fun _ _ => rfl) rfl (fun x wv hSw hd => by
              go_simp)
          · exact Facts.pure hS hF (fun _ _ => rfl) rfl (fun x wv hSw hd => by
              have d4 := eqF_get (hd ⟨4, .data⟩ (by simp) rfl _ rfl)
              simp only [d4]
              go_simp)
          · refine Facts.call2T hS hF (fun _ _ => rfl) rfl (by kernel_rfl) rfl (fun x wv hSw hd => ?_)
            have d3 := eqF_get (hd ⟨3, .data⟩ (by simp) rfl _ rfl)
            have d5 := eqF_get (hd ⟨5, .data⟩ (by simp) rfl _ rfl)
            have hc := refLift_is na pa 0 ca (-m) wv hSw.2.2.2.1 HB.out.1 HB.out.2.1
            rw [← d3, ← d5] at hc
            exact hc
          · exact Facts.loadT hS hF (fun _ _ => rfl) _ rfl rfl (fun x wv hSw hd => by rfl) (fun wv hSw => hSw.2.1.tat)
          · exact Facts.pure hS hF (fun _ _ => rfl) rfl (fun x wv hSw hd => by
              go_simp)
          · exact Facts.pure hS hF (fun _ _ => rfl) rfl (fun x wv hSw hd => by
              have d8 := eqF_get (hd ⟨8, .data⟩ (by simp) rfl _ rfl)
              simp only [d8]
              go_simp)
          · refine Facts.call2T hS hF (fun _ _ => rfl) rfl (by kernel_rfl) rfl (fun x wv hSw hd => ?_)
            have d7 := eqF_get (hd ⟨7, .data⟩ (by simp) rfl _ rfl)
            have d9 := eqF_get (hd ⟨9, .data⟩ (by simp) rfl _ rfl)
            have hc := refLift_is nb pb lb cb (-m) wv hSw.2.2.2.2.1 HB.out.2.2.1 HB.out.2.2.2
            rw [← d7, ← d9] at hc
            exact hc
          · refine Facts.call3T hS hF (fun _ _ => rfl) rfl (by kernel_rfl) rfl (fun x wv hSw hd => ?_)
            have d2 := eqF_get (hd ⟨2, .data⟩ (by simp) rfl _ rfl)
            obtain ⟨n6i, p6i, l6i, c6i, d6, e6⟩ := isF_get (hd ⟨6, .data⟩ (by simp) rfl _ rfl)
            obtain ⟨n10i, p10i, l10i, c10i, d10, e10⟩ := isF_get (hd ⟨10, .data⟩ (by simp) rfl _ rfl)
            have hc := inner_any (k + m) _ _ _ _ _ _ _ _ _ _ _ e6 e10
            rw [← d2, ← d6, ← d10] at hc
            exact hc
          · exact Facts.storeT (fun _ _ => rfl) _ _ rfl (by decide) rfl (fun _ => rfl) (fun _ => rfl) (fun x wv hSw hd => isF_get (hd ⟨11, .data⟩ (by simp) rfl _ rfl)) (fun wv hSw => ⟨hSw.2.2.1, fun n p l c => (by obtain ⟨s1, s2, ⟨_, _, _, _, s3⟩, s4, s5, s7⟩ := hSw; exact ⟨s1.rowOther (by omega) _, s2.rowOther (by omega) _, ⟨_, _, _, _, s3.row n p l c⟩, s4.box s3 _, s5.box s3 _, below_setRow s7 (by omega) _⟩)⟩) (fun j f hj hfj => by
              match j with
              | 0 => obtain rfl := Option.some.inj hfj; exact eqF_box _ _ _
              | 1 => obtain rfl := Option.some.inj hfj; exact eqF_box _ _ _
              | 2 => obtain rfl := Option.some.inj hfj; exact eqF_box _ _ _
              | 3 => obtain rfl := Option.some.inj hfj; exact eqF_box _ _ _
              | 4 => obtain rfl := Option.some.inj hfj; exact eqF_box _ _ _
              | 5 => obtain rfl := Option.some.inj hfj; exact eqF_box _ _ _
              | 6 => obtain rfl := Option.some.inj hfj; exact isF_box _ _ _
              | 7 => obtain rfl := Option.some.inj hfj; exact eqF_box _ _ _
              | 8 => obtain rfl := Option.some.inj hfj; exact eqF_box _ _ _
              | 9 => obtain rfl := Option.some.inj hfj; exact eqF_box _ _ _
              | 10 => obtain rfl := Option.some.inj hfj; exact isF_box _ _ _
              | 11 => obtain rfl := Option.some.inj hfj; exact isF_box _ _ _
              | 12 => exact absurd rfl hj
              | j + 13 => simp at hfj)
          · rintro xv w9 ⟨_, _, _, _, _, hbel9⟩ hf
            obtain ⟨n9, p9, l9, c9, _, hbx, hi⟩ := bxF_get (hf 12 _ (by decide) rfl)
            rw [HZ'.out] at hi
            clear hf hS hF
            go_wp2
            exact bodyPost_ret (results_t rfl rfl hbx) rfl ⟨_, _, _, _, rfl, hi, hbel9⟩
        · have HM : Hid (m = na) := HL.out.2 (by omega)
          clear HL HQ
          go_enter Try.func87, Try.ntmps87
          go_wp2_with fail
          have w1 : IntKind.i64.wrap (k + m) = k + m := by rw [IntKind.wrap_i64]; have := HB2.out; omega
          have w2 : IntKind.i64.wrap (-m) = -m := by rw [IntKind.wrap_i64]; have := HB2.out; omega
          clear g0 g1 g2 g3
          have hS : Calm.Stays (fun w' => Bx w' (w.heap.size) na pa 0 ca ∧ Bx w' (w.heap.size + 1) nb pb lb cb ∧ (∃ n p l c, Bx w' (w.heap.size + 1 + 1) n p l c) ∧ Is w' x (TV na pa 0 ca) ∧ Is w' y (TV nb pb lb cb) ∧ Below w.heap.size w w') := fun wa wb h hb => ⟨h.1.later hb, h.2.1.later hb, (by obtain ⟨n, p, l, c, h2⟩ := h.2.2.1; exact ⟨n, p, l, c, h2.later hb⟩), h.2.2.2.1.later hb, h.2.2.2.2.1.later hb, below_on h.2.2.2.2.2 hb⟩
          have hF : Facts.Stay [eqF 0 (.int .i64 k), eqF 1 (.int .i64 m), eqF 2 (.int .i64 (k + m)), eqF 3 (TV na pa 0 ca), eqF 4 (.int .i64 m), eqF 5 (.int .i64 (-m)), isF 6 (lift x (-m)), eqF 7 (TV nb pb lb cb), eqF 8 (.int .i64 m), eqF 9 (.int .i64 (-m)), isF 10 (lift y (-m)), isF 11 (.node (k + m) (lift x (-m)) (lift y (-m))), bxF 11 (w.heap.size + 1 + 1) (.node (k + m) (lift x (-m)) (lift y (-m)))] := stay_of (by simp only [List.forall_mem_cons]; exact ⟨eqF_stays _ _, eqF_stays _ _, eqF_stays _ _, eqF_stays _ _, eqF_stays _ _, eqF_stays _ _, isF_stays _ _, eqF_stays _ _, eqF_stays _ _, eqF_stays _ _, isF_stays _ _, isF_stays _ _, bxF_stays _ _ _, fun _ h => by cases h⟩)
          refine Facts.region (by kernel_rfl) (by kernel_rfl) (fun w' => Bx w' (w.heap.size) na pa 0 ca ∧ Bx w' (w.heap.size + 1) nb pb lb cb ∧ (∃ n p l c, Bx w' (w.heap.size + 1 + 1) n p l c) ∧ Is w' x (TV na pa 0 ca) ∧ Is w' y (TV nb pb lb cb) ∧ Below w.heap.size w w') (fun x => { tmps := #[.int .i64 k, TV na pa 0 ca, TV nb pb lb cb, undef, .pointer (some ⟨w.heap.size, 0, none⟩), .pointer (some ⟨w.heap.size + 1, 0, none⟩), .pointer (some ⟨w.heap.size + 1 + 1, 0, none⟩), .int .i64 m, .pointer (some ⟨w.heap.size, 0, none⟩), .int .i64 na, .pointer (some ⟨w.heap.size + 1, 0, none⟩), .int .i64 nb, .int .i64 m, .pointer (some ⟨w.heap.size, 1, none⟩), .slice pa 0 ca, .int .i64 0, .bool true, .bool true, .pointer (some ⟨w.heap.size + 1, 1, none⟩), .slice pb lb cb, .int .i64 lb, .bool false, .bool false, .bool false, undef, undef, undef, undef, undef, .bool false, undef, undef, undef, undef, x 0, x 1, x 2, x 3, x 4, x 5, x 6, x 7, x 8, x 9, x 10, x 11], defers := [] }) [eqF 0 (.int .i64 k), eqF 1 (.int .i64 m), eqF 2 (.int .i64 (k + m)), eqF 3 (TV na pa 0 ca), eqF 4 (.int .i64 m), eqF 5 (.int .i64 (-m)), isF 6 (lift x (-m)), eqF 7 (TV nb pb lb cb), eqF 8 (.int .i64 m), eqF 9 (.int .i64 (-m)), isF 10 (lift y (-m)), isF 11 (.node (k + m) (lift x (-m)) (lift y (-m))), bxF 11 (w.heap.size + 1 + 1) (.node (k + m) (lift x (-m)) (lift y (-m)))] _ rfl (by kernel_rfl) (fun _ => undef) (by have e := HM.out; subst e; rfl) (⟨h1, h2, ⟨_, _, _, _, h3⟩, hx.later (Below.refl _ _).drew, hy.later (Below.refl _ _).drew, hbel.drew⟩) ⟨?_, ?_, ?_, ?_, ?_, ?_, ?_, ?_, ?_, ?_, ?_, ?_, ?_, trivial⟩ ?_
          · exact Facts.pure hS hF (fun _ _ => rfl) rfl (fun x wv hSw hd => by
              go_simp)
          · exact Facts.pure hS hF (fun _ _ => rfl) rfl (fun x wv hSw hd => by
              go_simp)
          · exact Facts.pure hS hF (fun _ _ => rfl) rfl (fun x wv hSw hd => by
              have d0 := eqF_get (hd ⟨0, .data⟩ (by simp) rfl _ rfl)
              have d1 := eqF_get (hd ⟨1, .data⟩ (by simp) rfl _ rfl)
              simp only [d0, d1]
              go_simp)
          · exact Facts.loadT hS hF (fun _ _ => rfl) _ rfl rfl (fun x wv hSw hd => by rfl) (fun wv hSw => hSw.1.tat)
          · exact Facts.pure hS hF (fun _ _ => rfl) rfl (fun x wv hSw hd => by
              go_simp)
          · exact Facts.pure hS hF (fun _ _ => rfl) rfl (fun x wv hSw hd => by
              have d4 := eqF_get (hd ⟨4, .data⟩ (by simp) rfl _ rfl)
              simp only [d4]
              go_simp)
          · refine Facts.call2T hS hF (fun _ _ => rfl) rfl (by kernel_rfl) rfl (fun x wv hSw hd => ?_)
            have d3 := eqF_get (hd ⟨3, .data⟩ (by simp) rfl _ rfl)
            have d5 := eqF_get (hd ⟨5, .data⟩ (by simp) rfl _ rfl)
            have hc := refLift_is na pa 0 ca (-m) wv hSw.2.2.2.1 HB.out.1 HB.out.2.1
            rw [← d3, ← d5] at hc
            exact hc
          · exact Facts.loadT hS hF (fun _ _ => rfl) _ rfl rfl (fun x wv hSw hd => by rfl) (fun wv hSw => hSw.2.1.tat)
          · exact Facts.pure hS hF (fun _ _ => rfl) rfl (fun x wv hSw hd => by
              go_simp)
          · exact Facts.pure hS hF (fun _ _ => rfl) rfl (fun x wv hSw hd => by
              have d8 := eqF_get (hd ⟨8, .data⟩ (by simp) rfl _ rfl)
              simp only [d8]
              go_simp)
          · refine Facts.call2T hS hF (fun _ _ => rfl) rfl (by kernel_rfl) rfl (fun x wv hSw hd => ?_)
            have d7 := eqF_get (hd ⟨7, .data⟩ (by simp) rfl _ rfl)
            have d9 := eqF_get (hd ⟨9, .data⟩ (by simp) rfl _ rfl)
            have hc := refLift_is nb pb lb cb (-m) wv hSw.2.2.2.2.1 HB.out.2.2.1 HB.out.2.2.2
            rw [← d7, ← d9] at hc
            exact hc
          · refine Facts.call3T hS hF (fun _ _ => rfl) rfl (by kernel_rfl) rfl (fun x wv hSw hd => ?_)
            have d2 := eqF_get (hd ⟨2, .data⟩ (by simp) rfl _ rfl)
            obtain ⟨n6i, p6i, l6i, c6i, d6, e6⟩ := isF_get (hd ⟨6, .data⟩ (by simp) rfl _ rfl)
            obtain ⟨n10i, p10i, l10i, c10i, d10, e10⟩ := isF_get (hd ⟨10, .data⟩ (by simp) rfl _ rfl)
            have hc := inner_any (k + m) _ _ _ _ _ _ _ _ _ _ _ e6 e10
            rw [← d2, ← d6, ← d10] at hc
            exact hc
          · exact Facts.storeT (fun _ _ => rfl) _ _ rfl (by decide) rfl (fun _ => rfl) (fun _ => rfl) (fun x wv hSw hd => isF_get (hd ⟨11, .data⟩ (by simp) rfl _ rfl)) (fun wv hSw => ⟨hSw.2.2.1, fun n p l c => (by obtain ⟨s1, s2, ⟨_, _, _, _, s3⟩, s4, s5, s7⟩ := hSw; exact ⟨s1.rowOther (by omega) _, s2.rowOther (by omega) _, ⟨_, _, _, _, s3.row n p l c⟩, s4.box s3 _, s5.box s3 _, below_setRow s7 (by omega) _⟩)⟩) (fun j f hj hfj => by
              match j with
              | 0 => obtain rfl := Option.some.inj hfj; exact eqF_box _ _ _
              | 1 => obtain rfl := Option.some.inj hfj; exact eqF_box _ _ _
              | 2 => obtain rfl := Option.some.inj hfj; exact eqF_box _ _ _
              | 3 => obtain rfl := Option.some.inj hfj; exact eqF_box _ _ _
              | 4 => obtain rfl := Option.some.inj hfj; exact eqF_box _ _ _
              | 5 => obtain rfl := Option.some.inj hfj; exact eqF_box _ _ _
              | 6 => obtain rfl := Option.some.inj hfj; exact isF_box _ _ _
              | 7 => obtain rfl := Option.some.inj hfj; exact eqF_box _ _ _
              | 8 => obtain rfl := Option.some.inj hfj; exact eqF_box _ _ _
              | 9 => obtain rfl := Option.some.inj hfj; exact eqF_box _ _ _
              | 10 => obtain rfl := Option.some.inj hfj; exact isF_box _ _ _
              | 11 => obtain rfl := Option.some.inj hfj; exact isF_box _ _ _
              | 12 => exact absurd rfl hj
              | j + 13 => simp at hfj)
          · rintro xv w9 ⟨_, _, _, _, _, hbel9⟩ hf
            obtain ⟨n9, p9, l9, c9, _, hbx, hi⟩ := bxF_get (hf 12 _ (by decide) rfl)
            rw [HZ'.out] at hi
            clear hf hS hF
            go_wp2
            exact bodyPost_ret (results_t rfl rfl hbx) rfl ⟨_, _, _, _, rfl, hi, hbel9⟩
    · have f0 : ((la : Int) == 0) = false := by simpa using ea
      clear HT ea
      by_cases hlt : nb < na
      · have HM : Hid (m = nb) := HL.out.1 hlt
        clear HL HQ
        go_enter Try.func87, Try.ntmps87
        go_wp2_with fail
        have w1 : IntKind.i64.wrap (k + m) = k + m := by rw [IntKind.wrap_i64]; have := HB2.out; omega
        have w2 : IntKind.i64.wrap (-m) = -m := by rw [IntKind.wrap_i64]; have := HB2.out; omega
        clear g0 g1 g2 g3
        have hS : Calm.Stays (fun w' => Bx w' (w.heap.size) na pa la ca ∧ Bx w' (w.heap.size + 1) nb pb lb cb ∧ (∃ n p l c, Bx w' (w.heap.size + 1 + 1) n p l c) ∧ Is w' x (TV na pa la ca) ∧ Is w' y (TV nb pb lb cb) ∧ Below w.heap.size w w') := fun wa wb h hb => ⟨h.1.later hb, h.2.1.later hb, (by obtain ⟨n, p, l, c, h2⟩ := h.2.2.1; exact ⟨n, p, l, c, h2.later hb⟩), h.2.2.2.1.later hb, h.2.2.2.2.1.later hb, below_on h.2.2.2.2.2 hb⟩
        have hF : Facts.Stay [eqF 0 (.int .i64 k), eqF 1 (.int .i64 m), eqF 2 (.int .i64 (k + m)), eqF 3 (TV na pa la ca), eqF 4 (.int .i64 m), eqF 5 (.int .i64 (-m)), isF 6 (lift x (-m)), eqF 7 (TV nb pb lb cb), eqF 8 (.int .i64 m), eqF 9 (.int .i64 (-m)), isF 10 (lift y (-m)), isF 11 (.node (k + m) (lift x (-m)) (lift y (-m))), bxF 11 (w.heap.size + 1 + 1) (.node (k + m) (lift x (-m)) (lift y (-m)))] := stay_of (by simp only [List.forall_mem_cons]; exact ⟨eqF_stays _ _, eqF_stays _ _, eqF_stays _ _, eqF_stays _ _, eqF_stays _ _, eqF_stays _ _, isF_stays _ _, eqF_stays _ _, eqF_stays _ _, eqF_stays _ _, isF_stays _ _, isF_stays _ _, bxF_stays _ _ _, fun _ h => by cases h⟩)
        refine Facts.region (by kernel_rfl) (by kernel_rfl) (fun w' => Bx w' (w.heap.size) na pa la ca ∧ Bx w' (w.heap.size + 1) nb pb lb cb ∧ (∃ n p l c, Bx w' (w.heap.size + 1 + 1) n p l c) ∧ Is w' x (TV na pa la ca) ∧ Is w' y (TV nb pb lb cb) ∧ Below w.heap.size w w') (fun x => { tmps := #[.int .i64 k, TV na pa la ca, TV nb pb lb cb, undef, .pointer (some ⟨w.heap.size, 0, none⟩), .pointer (some ⟨w.heap.size + 1, 0, none⟩), .pointer (some ⟨w.heap.size + 1 + 1, 0, none⟩), .int .i64 m, .pointer (some ⟨w.heap.size, 0, none⟩), .int .i64 na, .pointer (some ⟨w.heap.size + 1, 0, none⟩), .int .i64 nb, .int .i64 m, .pointer (some ⟨w.heap.size, 1, none⟩), .slice pa la ca, .int .i64 la, .bool false, .bool false, undef, undef, undef, undef, .bool false, .bool false, undef, undef, undef, undef, undef, .bool false, undef, undef, undef, undef, x 0, x 1, x 2, x 3, x 4, x 5, x 6, x 7, x 8, x 9, x 10, x 11], defers := [] }) [eqF 0 (.int .i64 k), eqF 1 (.int .i64 m), eqF 2 (.int .i64 (k + m)), eqF 3 (TV na pa la ca), eqF 4 (.int .i64 m), eqF 5 (.int .i64 (-m)), isF 6 (lift x (-m)), eqF 7 (TV nb pb lb cb), eqF 8 (.int .i64 m), eqF 9 (.int .i64 (-m)), isF 10 (lift y (-m)), isF 11 (.node (k + m) (lift x (-m)) (lift y (-m))), bxF 11 (w.heap.size + 1 + 1) (.node (k + m) (lift x (-m)) (lift y (-m)))] _ rfl (by kernel_rfl) (fun _ => undef) (by have e := HM.out; subst e; rfl) (⟨h1, h2, ⟨_, _, _, _, h3⟩, hx.later (Below.refl _ _).drew, hy.later (Below.refl _ _).drew, hbel.drew⟩) ⟨?_, ?_, ?_, ?_, ?_, ?_, ?_, ?_, ?_, ?_, ?_, ?_, ?_, trivial⟩ ?_
        · exact Facts.pure hS hF (fun _ _ => rfl) rfl (fun x wv hSw hd => by
            go_simp)
        · exact Facts.pure hS hF (fun _ _ => rfl) rfl (fun x wv hSw hd => by
            go_simp)
        · exact Facts.pure hS hF (fun _ _ => rfl) rfl (fun x wv hSw hd => by
            have d0 := eqF_get (hd ⟨0, .data⟩ (by simp) rfl _ rfl)
            have d1 := eqF_get (hd ⟨1, .data⟩ (by simp) rfl _ rfl)
            simp only [d0, d1]
            go_simp)
        · exact Facts.loadT hS hF (fun _ _ => rfl) _ rfl rfl (fun x wv hSw hd => by rfl) (fun wv hSw => hSw.1.tat)
        · exact Facts.pure hS hF (fun _ _ => rfl) rfl (fun x wv hSw hd => by
            go_simp)
        · exact Facts.pure hS hF (fun _ _ => rfl) rfl (fun x wv hSw hd => by
            have d4 := eqF_get (hd ⟨4, .data⟩ (by simp) rfl _ rfl)
            simp only [d4]
            go_simp)
        · refine Facts.call2T hS hF (fun _ _ => rfl) rfl (by kernel_rfl) rfl (fun x wv hSw hd => ?_)
          have d3 := eqF_get (hd ⟨3, .data⟩ (by simp) rfl _ rfl)
          have d5 := eqF_get (hd ⟨5, .data⟩ (by simp) rfl _ rfl)
          have hc := refLift_is na pa la ca (-m) wv hSw.2.2.2.1 HB.out.1 HB.out.2.1
          rw [← d3, ← d5] at hc
          exact hc
        · exact Facts.loadT hS hF (fun _ _ => rfl) _ rfl rfl (fun x wv hSw hd => by rfl) (fun wv hSw => hSw.2.1.tat)
        · exact Facts.pure hS hF (fun _ _ => rfl) rfl (fun x wv hSw hd => by
            go_simp)
        · exact Facts.pure hS hF (fun _ _ => rfl) rfl (fun x wv hSw hd => by
            have d8 := eqF_get (hd ⟨8, .data⟩ (by simp) rfl _ rfl)
            simp only [d8]
            go_simp)
        · refine Facts.call2T hS hF (fun _ _ => rfl) rfl (by kernel_rfl) rfl (fun x wv hSw hd => ?_)
          have d7 := eqF_get (hd ⟨7, .data⟩ (by simp) rfl _ rfl)
          have d9 := eqF_get (hd ⟨9, .data⟩ (by simp) rfl _ rfl)
          have hc := refLift_is nb pb lb cb (-m) wv hSw.2.2.2.2.1 HB.out.2.2.1 HB.out.2.2.2
          rw [← d7, ← d9] at hc
          exact hc
        · refine Facts.call3T hS hF (fun _ _ => rfl) rfl (by kernel_rfl) rfl (fun x wv hSw hd => ?_)
          have d2 := eqF_get (hd ⟨2, .data⟩ (by simp) rfl _ rfl)
          obtain ⟨n6i, p6i, l6i, c6i, d6, e6⟩ := isF_get (hd ⟨6, .data⟩ (by simp) rfl _ rfl)
          obtain ⟨n10i, p10i, l10i, c10i, d10, e10⟩ := isF_get (hd ⟨10, .data⟩ (by simp) rfl _ rfl)
          have hc := inner_any (k + m) _ _ _ _ _ _ _ _ _ _ _ e6 e10
          rw [← d2, ← d6, ← d10] at hc
          exact hc
        · exact Facts.storeT (fun _ _ => rfl) _ _ rfl (by decide) rfl (fun _ => rfl) (fun _ => rfl) (fun x wv hSw hd => isF_get (hd ⟨11, .data⟩ (by simp) rfl _ rfl)) (fun wv hSw => ⟨hSw.2.2.1, fun n p l c => (by obtain ⟨s1, s2, ⟨_, _, _, _, s3⟩, s4, s5, s7⟩ := hSw; exact ⟨s1.rowOther (by omega) _, s2.rowOther (by omega) _, ⟨_, _, _, _, s3.row n p l c⟩, s4.box s3 _, s5.box s3 _, below_setRow s7 (by omega) _⟩)⟩) (fun j f hj hfj => by
            match j with
            | 0 => obtain rfl := Option.some.inj hfj; exact eqF_box _ _ _
            | 1 => obtain rfl := Option.some.inj hfj; exact eqF_box _ _ _
            | 2 => obtain rfl := Option.some.inj hfj; exact eqF_box _ _ _
            | 3 => obtain rfl := Option.some.inj hfj; exact eqF_box _ _ _
            | 4 => obtain rfl := Option.some.inj hfj; exact eqF_box _ _ _
            | 5 => obtain rfl := Option.some.inj hfj; exact eqF_box _ _ _
            | 6 => obtain rfl := Option.some.inj hfj; exact isF_box _ _ _
            | 7 => obtain rfl := Option.some.inj hfj; exact eqF_box _ _ _
            | 8 => obtain rfl := Option.some.inj hfj; exact eqF_box _ _ _
            | 9 => obtain rfl := Option.some.inj hfj; exact eqF_box _ _ _
            | 10 => obtain rfl := Option.some.inj hfj; exact isF_box _ _ _
            | 11 => obtain rfl := Option.some.inj hfj; exact isF_box _ _ _
            | 12 => exact absurd rfl hj
            | j + 13 => simp at hfj)
        · rintro xv w9 ⟨_, _, _, _, _, hbel9⟩ hf
          obtain ⟨n9, p9, l9, c9, _, hbx, hi⟩ := bxF_get (hf 12 _ (by decide) rfl)
          rw [HZ'.out] at hi
          clear hf hS hF
          go_wp2
          exact bodyPost_ret (results_t rfl rfl hbx) rfl ⟨_, _, _, _, rfl, hi, hbel9⟩
      · have HM : Hid (m = na) := HL.out.2 (by omega)
        clear HL HQ
        go_enter Try.func87, Try.ntmps87
        go_wp2_with fail
        have w1 : IntKind.i64.wrap (k + m) = k + m := by rw [IntKind.wrap_i64]; have := HB2.out; omega
        have w2 : IntKind.i64.wrap (-m) = -m := by rw [IntKind.wrap_i64]; have := HB2.out; omega
        clear g0 g1 g2 g3
        have hS : Calm.Stays (fun w' => Bx w' (w.heap.size) na pa la ca ∧ Bx w' (w.heap.size + 1) nb pb lb cb ∧ (∃ n p l c, Bx w' (w.heap.size + 1 + 1) n p l c) ∧ Is w' x (TV na pa la ca) ∧ Is w' y (TV nb pb lb cb) ∧ Below w.heap.size w w') := fun wa wb h hb => ⟨h.1.later hb, h.2.1.later hb, (by obtain ⟨n, p, l, c, h2⟩ := h.2.2.1; exact ⟨n, p, l, c, h2.later hb⟩), h.2.2.2.1.later hb, h.2.2.2.2.1.later hb, below_on h.2.2.2.2.2 hb⟩
        have hF : Facts.Stay [eqF 0 (.int .i64 k), eqF 1 (.int .i64 m), eqF 2 (.int .i64 (k + m)), eqF 3 (TV na pa la ca), eqF 4 (.int .i64 m), eqF 5 (.int .i64 (-m)), isF 6 (lift x (-m)), eqF 7 (TV nb pb lb cb), eqF 8 (.int .i64 m), eqF 9 (.int .i64 (-m)), isF 10 (lift y (-m)), isF 11 (.node (k + m) (lift x (-m)) (lift y (-m))), bxF 11 (w.heap.size + 1 + 1) (.node (k + m) (lift x (-m)) (lift y (-m)))] := stay_of (by simp only [List.forall_mem_cons]; exact ⟨eqF_stays _ _, eqF_stays _ _, eqF_stays _ _, eqF_stays _ _, eqF_stays _ _, eqF_stays _ _, isF_stays _ _, eqF_stays _ _, eqF_stays _ _, eqF_stays _ _, isF_stays _ _, isF_stays _ _, bxF_stays _ _ _, fun _ h => by cases h⟩)
        refine Facts.region (by kernel_rfl) (by kernel_rfl) (fun w' => Bx w' (w.heap.size) na pa la ca ∧ Bx w' (w.heap.size + 1) nb pb lb cb ∧ (∃ n p l c, Bx w' (w.heap.size + 1 + 1) n p l c) ∧ Is w' x (TV na pa la ca) ∧ Is w' y (TV nb pb lb cb) ∧ Below w.heap.size w w') (fun x => { tmps := #[.int .i64 k, TV na pa la ca, TV nb pb lb cb, undef, .pointer (some ⟨w.heap.size, 0, none⟩), .pointer (some ⟨w.heap.size + 1, 0, none⟩), .pointer (some ⟨w.heap.size + 1 + 1, 0, none⟩), .int .i64 m, .pointer (some ⟨w.heap.size, 0, none⟩), .int .i64 na, .pointer (some ⟨w.heap.size + 1, 0, none⟩), .int .i64 nb, .int .i64 m, .pointer (some ⟨w.heap.size, 1, none⟩), .slice pa la ca, .int .i64 la, .bool false, .bool false, undef, undef, undef, undef, .bool false, .bool false, undef, undef, undef, undef, undef, .bool false, undef, undef, undef, undef, x 0, x 1, x 2, x 3, x 4, x 5, x 6, x 7, x 8, x 9, x 10, x 11], defers := [] }) [eqF 0 (.int .i64 k), eqF 1 (.int .i64 m), eqF 2 (.int .i64 (k + m)), eqF 3 (TV na pa la ca), eqF 4 (.int .i64 m), eqF 5 (.int .i64 (-m)), isF 6 (lift x (-m)), eqF 7 (TV nb pb lb cb), eqF 8 (.int .i64 m), eqF 9 (.int .i64 (-m)), isF 10 (lift y (-m)), isF 11 (.node (k + m) (lift x (-m)) (lift y (-m))), bxF 11 (w.heap.size + 1 + 1) (.node (k + m) (lift x (-m)) (lift y (-m)))] _ rfl (by kernel_rfl) (fun _ => undef) (by have e := HM.out; subst e; rfl) (⟨h1, h2, ⟨_, _, _, _, h3⟩, hx.later (Below.refl _ _).drew, hy.later (Below.refl _ _).drew, hbel.drew⟩) ⟨?_, ?_, ?_, ?_, ?_, ?_, ?_, ?_, ?_, ?_, ?_, ?_, ?_, trivial⟩ ?_
        · exact Facts.pure hS hF (fun _ _ => rfl) rfl (fun x wv hSw hd => by
            go_simp)
        · exact Facts.pure hS hF (fun _ _ => rfl) rfl (fun x wv hSw hd => by
            go_simp)
        · exact Facts.pure hS hF (fun _ _ => rfl) rfl (fun x wv hSw hd => by
            have d0 := eqF_get (hd ⟨0, .data⟩ (by simp) rfl _ rfl)
            have d1 := eqF_get (hd ⟨1, .data⟩ (by simp) rfl _ rfl)
            simp only [d0, d1]
            go_simp)
        · exact Facts.loadT hS hF (fun _ _ => rfl) _ rfl rfl (fun x wv hSw hd => by rfl) (fun wv hSw => hSw.1.tat)
        · exact Facts.pure hS hF (fun _ _ => rfl) rfl (fun x wv hSw hd => by
            go_simp)
        · exact Facts.pure hS hF (fun _ _ => rfl) rfl (fun x wv hSw hd => by
            have d4 := eqF_get (hd ⟨4, .data⟩ (by simp) rfl _ rfl)
            simp only [d4]
            go_simp)
        · refine Facts.call2T hS hF (fun _ _ => rfl) rfl (by kernel_rfl) rfl (fun x wv hSw hd => ?_)
          have d3 := eqF_get (hd ⟨3, .data⟩ (by simp) rfl _ rfl)
          have d5 := eqF_get (hd ⟨5, .data⟩ (by simp) rfl _ rfl)
          have hc := refLift_is na pa la ca (-m) wv hSw.2.2.2.1 HB.out.1 HB.out.2.1
          rw [← d3, ← d5] at hc
          exact hc
        · exact Facts.loadT hS hF (fun _ _ => rfl) _ rfl rfl (fun x wv hSw hd => by rfl) (fun wv hSw => hSw.2.1.tat)
        · exact Facts.pure hS hF (fun _ _ => rfl) rfl (fun x wv hSw hd => by
            go_simp)
        · exact Facts.pure hS hF (fun _ _ => rfl) rfl (fun x wv hSw hd => by
            have d8 := eqF_get (hd ⟨8, .data⟩ (by simp) rfl _ rfl)
            simp only [d8]
            go_simp)
        · refine Facts.call2T hS hF (fun _ _ => rfl) rfl (by kernel_rfl) rfl (fun x wv hSw hd => ?_)
          have d7 := eqF_get (hd ⟨7, .data⟩ (by simp) rfl _ rfl)
          have d9 := eqF_get (hd ⟨9, .data⟩ (by simp) rfl _ rfl)
          have hc := refLift_is nb pb lb cb (-m) wv hSw.2.2.2.2.1 HB.out.2.2.1 HB.out.2.2.2
          rw [← d7, ← d9] at hc
          exact hc
        · refine Facts.call3T hS hF (fun _ _ => rfl) rfl (by kernel_rfl) rfl (fun x wv hSw hd => ?_)
          have d2 := eqF_get (hd ⟨2, .data⟩ (by simp) rfl _ rfl)
          obtain ⟨n6i, p6i, l6i, c6i, d6, e6⟩ := isF_get (hd ⟨6, .data⟩ (by simp) rfl _ rfl)
          obtain ⟨n10i, p10i, l10i, c10i, d10, e10⟩ := isF_get (hd ⟨10, .data⟩ (by simp) rfl _ rfl)
          have hc := inner_any (k + m) _ _ _ _ _ _ _ _ _ _ _ e6 e10
          rw [← d2, ← d6, ← d10] at hc
          exact hc
        · exact Facts.storeT (fun _ _ => rfl) _ _ rfl (by decide) rfl (fun _ => rfl) (fun _ => rfl) (fun x wv hSw hd => isF_get (hd ⟨11, .data⟩ (by simp) rfl _ rfl)) (fun wv hSw => ⟨hSw.2.2.1, fun n p l c => (by obtain ⟨s1, s2, ⟨_, _, _, _, s3⟩, s4, s5, s7⟩ := hSw; exact ⟨s1.rowOther (by omega) _, s2.rowOther (by omega) _, ⟨_, _, _, _, s3.row n p l c⟩, s4.box s3 _, s5.box s3 _, below_setRow s7 (by omega) _⟩)⟩) (fun j f hj hfj => by
            match j with
            | 0 => obtain rfl := Option.some.inj hfj; exact eqF_box _ _ _
            | 1 => obtain rfl := Option.some.inj hfj; exact eqF_box _ _ _
            | 2 => obtain rfl := Option.some.inj hfj; exact eqF_box _ _ _
            | 3 => obtain rfl := Option.some.inj hfj; exact eqF_box _ _ _
            | 4 => obtain rfl := Option.some.inj hfj; exact eqF_box _ _ _
            | 5 => obtain rfl := Option.some.inj hfj; exact eqF_box _ _ _
            | 6 => obtain rfl := Option.some.inj hfj; exact isF_box _ _ _
            | 7 => obtain rfl := Option.some.inj hfj; exact eqF_box _ _ _
            | 8 => obtain rfl := Option.some.inj hfj; exact eqF_box _ _ _
            | 9 => obtain rfl := Option.some.inj hfj; exact eqF_box _ _ _
            | 10 => obtain rfl := Option.some.inj hfj; exact isF_box _ _ _
            | 11 => obtain rfl := Option.some.inj hfj; exact isF_box _ _ _
            | 12 => exact absurd rfl hj
            | j + 13 => simp at hfj)
        · rintro xv w9 ⟨_, _, _, _, _, hbel9⟩ hf
          obtain ⟨n9, p9, l9, c9, _, hbx, hi⟩ := bxF_get (hf 12 _ (by decide) rfl)
          rw [HZ'.out] at hi
          clear hf hS hF
          go_wp2
          exact bodyPost_ret (results_t rfl rfl hbx) rfl ⟨_, _, _, _, rfl, hi, hbel9⟩
  · have hz : Hid (.leaf (x.n + k) = z) := by show _ = _; rw [← HZ.out, mk, ht]; rfl
    rw [ht] at HT
    obtain ⟨rfl, rfl, rfl⟩ : la = 0 ∧ lb = 0 ∧ na = nb := by
      have h := HT.out
      simp only [Bool.and_eq_true, decide_eq_true_eq, beq_iff_eq] at h
      exact h
    have HE : Hid (.leaf (k + na) = z) := by show _ = _; rw [← hz.out, ← HX.out.1, Int.add_comm]
    clear HT HZ hz ht HX HY bx by_ hx hy
    go_enter Try.func87, Try.ntmps87
    go_wp2_with fail
    refine (refLeaf_any (k + na) _).mono ?_
    rintro e w2 ⟨rfl, hb1⟩
    replace h3 := h3.later hb1
    have R := below_setRow (below_on hbel hb1) (g := w.heap.size + 1 + 1) (by omega) #[.int .i64 (k + na), .slice none 0 0]
    have hI : Is (w2.setRow (w.heap.size + 1 + 1) #[.int .i64 (k + na), .slice none 0 0]) z (TV (k + na) none 0 0) := by
      rw [← HE.out]
      exact is_leaf _ _ _ _
    clear g0 g1 g2 g3 hbel hb1
    go_wp2_with (refine store_t rfl _ _ rfl _ (k + na) none 0 0 rfl rfl h3 ?_)
    exact bodyPost_ret (results_t rfl rfl (h3.row _ _ _ _)) rfl ⟨_, _, _, _, rfl, hI, R⟩
end Go.Proofs.Ytmcajjdijjcpkaa
