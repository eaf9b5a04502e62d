import Derived.Test.YtmcajjdijjcpkaaQStampTells1
import Derived.Test.YtmcajjdijjcpkaaP22
/- The functions both, Join and Leq of the document's answer. -/
namespace Go.Proofs.Ytmcajjdijjcpkaa
open Go.RowKit

set_option maxHeartbeats 8000000 in
set_option maxRecDepth 100000 in
theorem both_step (X Y : EV) (n m : Int) (na : Int) (pa : Option Addr) (la ca : Nat) (nb : Int) (pb : Option Addr) (lb cb : Nat) (na0 : Int) (pa0 : Option Addr) (la0 ca0 : Nat) (na1 : Int) (pa1 : Option Addr) (la1 ca1 : Nat) (nb0 : Int) (pb0 : Option Addr) (lb0 cb0 : Nat) (nb1 : Int) (pb1 : Option Addr) (lb1 cb1 : Nat) (w : World) (hl : ¬ (la = 0 ∧ lb = 0)) (HB : Hid ((0 ≤ X.n ∧ X.n ≤ 1073741824) ∧ (0 ≤ Y.n ∧ Y.n ≤ 1073741824)))
    (b1 : 0 ≤ n + na ∧ n + na ≤ 1073741824) (b2 : 0 ≤ m + nb ∧ m + nb ≤ 1073741824)
    (q0a : ∀ w1, Below w.heap.size w w1 → Calls Try.prog 98 #[TV na pa la ca, .int .i64 0] w1 (Tells (TV na0 pa0 la0 ca0) w1)) (q1a : ∀ w1, Below w.heap.size w w1 → Calls Try.prog 98 #[TV na pa la ca, .int .i64 1] w1 (Tells (TV na1 pa1 la1 ca1) w1)) (q0b : ∀ w1, Below w.heap.size w w1 → Calls Try.prog 98 #[TV nb pb lb cb, .int .i64 0] w1 (Tells (TV nb0 pb0 lb0 cb0) w1)) (q1b : ∀ w1, Below w.heap.size w w1 → Calls Try.prog 98 #[TV nb pb lb cb, .int .i64 1] w1 (Tells (TV nb1 pb1 lb1 cb1) w1))
    (r0 : ∀ w1, Below w.heap.size w w1 → Calls Try.prog 76 #[TV na0 pa0 la0 ca0, .int .i64 (n + na), TV nb0 pb0 lb0 cb0, .int .i64 (m + nb)] w1 (Gives X w1))
    (r1 : ∀ w1, Below w.heap.size w w1 → Calls Try.prog 76 #[TV na1 pa1 la1 ca1, .int .i64 (n + na), TV nb1 pb1 lb1 cb1, .int .i64 (m + nb)] w1 (Gives Y w1)) :
    Calls Try.prog 76 #[TV na pa la ca, .int .i64 n, TV nb pb lb cb, .int .i64 m] w (Gives (mk X Y) w) := by
  obtain ⟨h1, h2, h3, hbel⟩ := three_box w na pa la ca nb pb lb cb 0 none 0 0 _ rfl
  have HL : Hid ((((la : Int) == 0) && ((lb : Int) == 0)) = false) := by show _ = _; rw [Bool.eq_false_iff]; simpa using hl
  have hw1 : IntKind.i64.wrap (n + na) = n + na := by rw [IntKind.wrap_i64]; omega
  have hw2 : IntKind.i64.wrap (m + nb) = m + nb := by rw [IntKind.wrap_i64]; omega
  clear hl
  have g0 := h1.cell0
  have g1 := h2.cell0
  go_enter Try.func76, Try.ntmps76
  go_wp2_with fail
  have hs : Calm.Stays (fun w' => w'.cell? ⟨w.heap.size, 0, none⟩ = some (.int .i64 na) ∧ w'.cell? ⟨w.heap.size + 1, 0, none⟩ = some (.int .i64 nb) ∧ Bx w' w.heap.size na pa la ca ∧ Bx w' (w.heap.size + 1) nb pb lb cb ∧ Bx w' (w.heap.size + 1 + 1) 0 none 0 0 ∧ Below w.heap.size w w') := fun wa wb h hb => ⟨cell_later hb h.1, cell_later hb h.2.1, h.2.2.1.later hb, h.2.2.2.1.later hb, h.2.2.2.2.1.later hb, below_on h.2.2.2.2.2 hb⟩
  refine Calm.region (by kernel_rfl) (by kernel_rfl) (fun w' => w'.cell? ⟨w.heap.size, 0, none⟩ = some (.int .i64 na) ∧ w'.cell? ⟨w.heap.size + 1, 0, none⟩ = some (.int .i64 nb) ∧ Bx w' w.heap.size na pa la ca ∧ Bx w' (w.heap.size + 1) nb pb lb cb ∧ Bx w' (w.heap.size + 1 + 1) 0 none 0 0 ∧ Below w.heap.size w w') ⟨g0, g1, h1, h2, h3, hbel.drew⟩ ?_
  clear h1 h2 h3 hbel g0 g1
  all_goals
    refine Calm.pure (v := ?_) (by rfl) ?_ ?_
    rotate_left
    focus (intro w hSw; go_simp <;> rfl)
    simp only [Act.put, List.setIfInBounds_toArray, List.set_cons_zero, List.set_cons_succ]
  all_goals
    refine Calm.pure (v := ?_) (by rfl) ?_ ?_
    rotate_left
    focus (intro w hSw; go_simp <;> rfl)
    simp only [Act.put, List.setIfInBounds_toArray, List.set_cons_zero, List.set_cons_succ]
  all_goals
    refine Calm.pure (v := ?_) (by rfl) ?_ ?_
    rotate_left
    focus (intro w hSw; go_simp <;> rfl)
    simp only [Act.put, List.setIfInBounds_toArray, List.set_cons_zero, List.set_cons_succ]
  all_goals
    refine Calm.pure (v := ?_) (by rfl) ?_ ?_
    rotate_left
    focus (intro w hSw; go_simp <;> rfl)
    simp only [Act.put, List.setIfInBounds_toArray, List.set_cons_zero, List.set_cons_succ]
  all_goals
    refine Calm.pure (v := ?_) (by rfl) ?_ ?_
    rotate_left
    focus (intro w hSw; go_simp <;> rfl)
    simp only [Act.put, List.setIfInBounds_toArray, List.set_cons_zero, List.set_cons_succ]
  all_goals
    refine Calm.pure (v := ?_) (by rfl) ?_ ?_
    rotate_left
    focus (intro w hSw; go_simp <;> rfl)
    simp only [Act.put, List.setIfInBounds_toArray, List.set_cons_zero, List.set_cons_succ]
  all_goals
    refine Calm.pure (v := ?_) (by rfl) ?_ ?_
    rotate_left
    focus (intro w hSw; go_simp <;> rfl)
    simp only [Act.put, List.setIfInBounds_toArray, List.set_cons_zero, List.set_cons_succ]
  all_goals
    refine Calm.pure (v := ?_) (by rfl) ?_ ?_
    rotate_left
    focus (intro w hSw; go_simp <;> rfl)
    simp only [Act.put, List.setIfInBounds_toArray, List.set_cons_zero, List.set_cons_succ]
  all_goals
    refine Calm.pure (v := ?_) (by rfl) ?_ ?_
    rotate_left
    focus (intro w hSw; go_simp <;> rfl)
    simp only [Act.put, List.setIfInBounds_toArray, List.set_cons_zero, List.set_cons_succ]
  all_goals
    refine Calm.pure (v := ?_) (by rfl) ?_ ?_
    rotate_left
    focus (intro w hSw; go_simp <;> rfl)
    simp only [Act.put, List.setIfInBounds_toArray, List.set_cons_zero, List.set_cons_succ]
  rintro w9 ⟨_, _, h1, h2, h3, hbel⟩
  clear hs
  have g2 := h1.cell1
  have g3 := h2.cell1
  clear hw1 hw2
  cases hla : ((la : Int) == 0)
  · clear HL
    go_wp2_with fail
    clear g2 g3 hla
    have hS : Calm.Stays (fun w' => Bx w' (w.heap.size) na pa la ca ∧ Bx w' (w.heap.size + 1) nb pb lb cb ∧ (∃ n p l c, Bx w' (w.heap.size + 1 + 1) n p l c) ∧ Below w.heap.size w w') := fun wa wb h hb => ⟨h.1.later hb, h.2.1.later hb, (by obtain ⟨n, p, l, c, h2⟩ := h.2.2.1; exact ⟨n, p, l, c, h2.later hb⟩), below_on h.2.2.2 hb⟩
    have hF : Facts.Stay [eqF 0 (TV na pa la ca), eqF 1 (TV na0 pa0 la0 ca0), eqF 2 (.int .i64 (n + na)), eqF 3 (TV nb pb lb cb), eqF 4 (TV nb0 pb0 lb0 cb0), eqF 5 (.int .i64 (m + nb)), isF 6 X, eqF 7 (TV na pa la ca), eqF 8 (TV na1 pa1 la1 ca1), eqF 9 (.int .i64 (n + na)), eqF 10 (TV nb pb lb cb), eqF 11 (TV nb1 pb1 lb1 cb1), eqF 12 (.int .i64 (m + nb)), isF 13 Y, isF 14 (mk X Y), bxF 14 (w.heap.size + 1 + 1) (mk X Y)] := stay_of (by simp only [List.forall_mem_cons]; exact ⟨eqF_stays _ _, eqF_stays _ _, eqF_stays _ _, eqF_stays _ _, eqF_stays _ _, eqF_stays _ _, isF_stays _ _, eqF_stays _ _, eqF_stays _ _, eqF_stays _ _, eqF_stays _ _, eqF_stays _ _, eqF_stays _ _, isF_stays _ _, isF_stays _ _, bxF_stays _ _ _, fun _ h => by cases h⟩)
    refine Facts.region (by kernel_rfl) (by kernel_rfl) (fun w' => Bx w' (w.heap.size) na pa la ca ∧ Bx w' (w.heap.size + 1) nb pb lb cb ∧ (∃ n p l c, Bx w' (w.heap.size + 1 + 1) n p l c) ∧ Below w.heap.size w w') (fun x => { tmps := #[TV na pa la ca, .int .i64 (n + na), TV nb pb lb cb, .int .i64 (m + nb), .pointer (some ⟨w.heap.size, 0, none⟩), undef, .pointer (some ⟨w.heap.size + 1, 0, none⟩), undef, .pointer (some ⟨w.heap.size + 1 + 1, 0, none⟩), .int .i64 n, .pointer (some ⟨w.heap.size, 0, none⟩), .int .i64 na, .int .i64 (n + na), .int .i64 m, .pointer (some ⟨w.heap.size + 1, 0, none⟩), .int .i64 nb, .int .i64 (m + nb), .pointer (some ⟨w.heap.size, 1, none⟩), .slice pa la ca, .int .i64 la, .bool false, .bool false, undef, undef, undef, undef, .bool false, undef, undef, undef, undef, x 0, x 1, x 2, x 3, x 4, x 5, x 6, x 7, x 8, x 9, x 10, x 11, x 12, x 13, x 14], defers := [] }) [eqF 0 (TV na pa la ca), eqF 1 (TV na0 pa0 la0 ca0), eqF 2 (.int .i64 (n + na)), eqF 3 (TV nb pb lb cb), eqF 4 (TV nb0 pb0 lb0 cb0), eqF 5 (.int .i64 (m + nb)), isF 6 X, eqF 7 (TV na pa la ca), eqF 8 (TV na1 pa1 la1 ca1), eqF 9 (.int .i64 (n + na)), eqF 10 (TV nb pb lb cb), eqF 11 (TV nb1 pb1 lb1 cb1), eqF 12 (.int .i64 (m + nb)), isF 13 Y, isF 14 (mk X Y), bxF 14 (w.heap.size + 1 + 1) (mk X Y)] _ rfl (by kernel_rfl) (fun _ => undef) rfl (⟨h1, h2, ⟨_, _, _, _, h3⟩, hbel.drew⟩) ⟨?_, ?_, ?_, ?_, ?_, ?_, ?_, ?_, ?_, ?_, ?_, ?_, ?_, ?_, ?_, ?_, trivial⟩ ?_
    · exact Facts.loadT hS hF (fun _ _ => rfl) _ rfl rfl (fun x wv hSw hd => by rfl) (fun wv hSw => hSw.1.tat)
    · refine Facts.call2V hS hF (fun _ _ => rfl) rfl (by kernel_rfl) rfl (fun x wv hSw hd => ?_)
      have d0 := eqF_get (hd ⟨0, .data⟩ (by simp) rfl _ rfl)
      have hc := q0a _ hSw.2.2.2
      rw [← d0] at hc
      exact hc
    · exact Facts.pure hS hF (fun _ _ => rfl) rfl (fun x wv hSw hd => by
        go_simp)
    · exact Facts.loadT hS hF (fun _ _ => rfl) _ rfl rfl (fun x wv hSw hd => by rfl) (fun wv hSw => hSw.2.1.tat)
    · refine Facts.call2V hS hF (fun _ _ => rfl) rfl (by kernel_rfl) rfl (fun x wv hSw hd => ?_)
      have d3 := eqF_get (hd ⟨3, .data⟩ (by simp) rfl _ rfl)
      have hc := q0b _ hSw.2.2.2
      rw [← d3] at hc
      exact hc
    · exact Facts.pure hS hF (fun _ _ => rfl) rfl (fun x wv hSw hd => by
        go_simp)
    · refine Facts.call4T hS hF (fun _ _ => rfl) rfl (by kernel_rfl) rfl (fun x wv hSw hd => ?_)
      have d1 := eqF_get (hd ⟨1, .data⟩ (by simp) rfl _ rfl)
      have d2 := eqF_get (hd ⟨2, .data⟩ (by simp) rfl _ rfl)
      have d4 := eqF_get (hd ⟨4, .data⟩ (by simp) rfl _ rfl)
      have d5 := eqF_get (hd ⟨5, .data⟩ (by simp) rfl _ rfl)
      have hc := r0 _ hSw.2.2.2
      rw [← d1, ← d2, ← d4, ← d5] at hc
      exact hc
    · exact Facts.loadT hS hF (fun _ _ => rfl) _ rfl rfl (fun x wv hSw hd => by rfl) (fun wv hSw => hSw.1.tat)
    · refine Facts.call2V hS hF (fun _ _ => rfl) rfl (by kernel_rfl) rfl (fun x wv hSw hd => ?_)
      have d7 := eqF_get (hd ⟨7, .data⟩ (by simp) rfl _ rfl)
      have hc := q1a _ hSw.2.2.2
      rw [← d7] at hc
      exact hc
    · exact Facts.pure hS hF (fun _ _ => rfl) rfl (fun x wv hSw hd => by
        go_simp)
    · exact Facts.loadT hS hF (fun _ _ => rfl) _ rfl rfl (fun x wv hSw hd => by rfl) (fun wv hSw => hSw.2.1.tat)
    · refine Facts.call2V hS hF (fun _ _ => rfl) rfl (by kernel_rfl) rfl (fun x wv hSw hd => ?_)
      have d10 := eqF_get (hd ⟨10, .data⟩ (by simp) rfl _ rfl)
      have hc := q1b _ hSw.2.2.2
      rw [← d10] at hc
      exact hc
    · exact Facts.pure hS hF (fun _ _ => rfl) rfl (fun x wv hSw hd => by
        go_simp)
    · refine Facts.call4T hS hF (fun _ _ => rfl) rfl (by kernel_rfl) rfl (fun x wv hSw hd => ?_)
      have d8 := eqF_get (hd ⟨8, .data⟩ (by simp) rfl _ rfl)
      have d9 := eqF_get (hd ⟨9, .data⟩ (by simp) rfl _ rfl)
      have d11 := eqF_get (hd ⟨11, .data⟩ (by simp) rfl _ rfl)
      have d12 := eqF_get (hd ⟨12, .data⟩ (by simp) rfl _ rfl)
      have hc := r1 _ hSw.2.2.2
      rw [← d8, ← d9, ← d11, ← d12] at hc
      exact hc
    · refine Facts.call3T hS hF (fun _ _ => rfl) rfl (by kernel_rfl) rfl (fun x wv hSw hd => ?_)
      obtain ⟨n6i, p6i, l6i, c6i, d6, e6⟩ := isF_get (hd ⟨6, .data⟩ (by simp) rfl _ rfl)
      obtain ⟨n13i, p13i, l13i, c13i, d13, e13⟩ := isF_get (hd ⟨13, .data⟩ (by simp) rfl _ rfl)
      have hc := refNode_any 0 X Y _ _ _ _ _ _ _ _ _ e6 e13 HB.out.1 HB.out.2 (by omega)
      rw [← d6, ← d13, lift_zero] at hc
      exact hc
    · exact Facts.storeT (fun _ _ => rfl) _ _ rfl (by decide) rfl (fun _ => rfl) (fun _ => rfl) (fun x wv hSw hd => isF_get (hd ⟨14, .data⟩ (by simp) rfl _ rfl)) (fun wv hSw => ⟨hSw.2.2.1, fun n p l c => (by obtain ⟨s1, s2, ⟨_, _, _, _, s3⟩, s4⟩ := hSw; exact ⟨s1.rowOther (by omega) _, s2.rowOther (by omega) _, ⟨_, _, _, _, s3.row n p l c⟩, below_setRow s4 (by omega) _⟩)⟩) (fun j f hj hfj => by
        match j with
        | 0 => obtain rfl := Option.some.inj hfj; exact eqF_box _ _ _
        | 1 => obtain rfl := Option.some.inj hfj; exact eqF_box _ _ _
        | 2 => obtain rfl := Option.some.inj hfj; exact eqF_box _ _ _
        | 3 => obtain rfl := Option.some.inj hfj; exact eqF_box _ _ _
        | 4 => obtain rfl := Option.some.inj hfj; exact eqF_box _ _ _
        | 5 => obtain rfl := Option.some.inj hfj; exact eqF_box _ _ _
        | 6 => obtain rfl := Option.some.inj hfj; exact isF_box _ _ _
        | 7 => obtain rfl := Option.some.inj hfj; exact eqF_box _ _ _
        | 8 => obtain rfl := Option.some.inj hfj; exact eqF_box _ _ _
        | 9 => obtain rfl := Option.some.inj hfj; exact eqF_box _ _ _
        | 10 => obtain rfl := Option.some.inj hfj; exact eqF_box _ _ _
        | 11 => obtain rfl := Option.some.inj hfj; exact eqF_box _ _ _
        | 12 => obtain rfl := Option.some.inj hfj; exact eqF_box _ _ _
        | 13 => obtain rfl := Option.some.inj hfj; exact isF_box _ _ _
        | 14 => obtain rfl := Option.some.inj hfj; exact isF_box _ _ _
        | 15 => exact absurd rfl hj
        | j + 16 => simp at hfj)
    · rintro xv w9 ⟨_, _, _, hbel9⟩ hf
      obtain ⟨n9, p9, l9, c9, _, hbx, hi⟩ := bxF_get (hf 15 _ (by decide) rfl)
      clear hf hS hF
      go_wp2
      exact bodyPost_ret (results_t rfl rfl hbx) rfl ⟨_, _, _, _, rfl, hi, hbel9⟩
  · have hlb : ((lb : Int) == 0) = false := by have := HL.out; rw [hla] at this; exact this
    clear HL
    go_wp2_with fail
    clear g2 g3 hla hlb
    have hS : Calm.Stays (fun w' => Bx w' (w.heap.size) na pa la ca ∧ Bx w' (w.heap.size + 1) nb pb lb cb ∧ (∃ n p l c, Bx w' (w.heap.size + 1 + 1) n p l c) ∧ Below w.heap.size w w') := fun wa wb h hb => ⟨h.1.later hb, h.2.1.later hb, (by obtain ⟨n, p, l, c, h2⟩ := h.2.2.1; exact ⟨n, p, l, c, h2.later hb⟩), below_on h.2.2.2 hb⟩
    have hF : Facts.Stay [eqF 0 (TV na pa la ca), eqF 1 (TV na0 pa0 la0 ca0), eqF 2 (.int .i64 (n + na)), eqF 3 (TV nb pb lb cb), eqF 4 (TV nb0 pb0 lb0 cb0), eqF 5 (.int .i64 (m + nb)), isF 6 X, eqF 7 (TV na pa la ca), eqF 8 (TV na1 pa1 la1 ca1), eqF 9 (.int .i64 (n + na)), eqF 10 (TV nb pb lb cb), eqF 11 (TV nb1 pb1 lb1 cb1), eqF 12 (.int .i64 (m + nb)), isF 13 Y, isF 14 (mk X Y), bxF 14 (w.heap.size + 1 + 1) (mk X Y)] := stay_of (by simp only [List.forall_mem_cons]; exact ⟨eqF_stays _ _, eqF_stays _ _, eqF_stays _ _, eqF_stays _ _, eqF_stays _ _, eqF_stays _ _, isF_stays _ _, eqF_stays _ _, eqF_stays _ _, eqF_stays _ _, eqF_stays _ _, eqF_stays _ _, eqF_stays _ _, isF_stays _ _, isF_stays _ _, bxF_stays _ _ _, fun _ h => by cases h⟩)
    refine Facts.region (by kernel_rfl) (by kernel_rfl) (fun w' => Bx w' (w.heap.size) na pa la ca ∧ Bx w' (w.heap.size + 1) nb pb lb cb ∧ (∃ n p l c, Bx w' (w.heap.size + 1 + 1) n p l c) ∧ Below w.heap.size w w') (fun x => { tmps := #[TV na pa la ca, .int .i64 (n + na), TV nb pb lb cb, .int .i64 (m + nb), .pointer (some ⟨w.heap.size, 0, none⟩), undef, .pointer (some ⟨w.heap.size + 1, 0, none⟩), undef, .pointer (some ⟨w.heap.size + 1 + 1, 0, none⟩), .int .i64 n, .pointer (some ⟨w.heap.size, 0, none⟩), .int .i64 na, .int .i64 (n + na), .int .i64 m, .pointer (some ⟨w.heap.size + 1, 0, none⟩), .int .i64 nb, .int .i64 (m + nb), .pointer (some ⟨w.heap.size, 1, none⟩), .slice pa la ca, .int .i64 la, .bool true, .bool true, .pointer (some ⟨w.heap.size + 1, 1, none⟩), .slice pb lb cb, .int .i64 lb, .bool false, .bool false, undef, undef, undef, undef, x 0, x 1, x 2, x 3, x 4, x 5, x 6, x 7, x 8, x 9, x 10, x 11, x 12, x 13, x 14], defers := [] }) [eqF 0 (TV na pa la ca), eqF 1 (TV na0 pa0 la0 ca0), eqF 2 (.int .i64 (n + na)), eqF 3 (TV nb pb lb cb), eqF 4 (TV nb0 pb0 lb0 cb0), eqF 5 (.int .i64 (m + nb)), isF 6 X, eqF 7 (TV na pa la ca), eqF 8 (TV na1 pa1 la1 ca1), eqF 9 (.int .i64 (n + na)), eqF 10 (TV nb pb lb cb), eqF 11 (TV nb1 pb1 lb1 cb1), eqF 12 (.int .i64 (m + nb)), isF 13 Y, isF 14 (mk X Y), bxF 14 (w.heap.size + 1 + 1) (mk X Y)] _ rfl (by kernel_rfl) (fun _ => undef) rfl (⟨h1, h2, ⟨_, _, _, _, h3⟩, hbel.drew⟩) ⟨?_, ?_, ?_, ?_, ?_, ?_, ?_, ?_, ?_, ?_, ?_, ?_, ?_, ?_, ?_, ?_, trivial⟩ ?_
    · exact Facts.loadT hS hF (fun _ _ => rfl) _ rfl rfl (fun x wv hSw hd => by rfl) (fun wv hSw => hSw.1.tat)
    · refine Facts.call2V hS hF (fun _ _ => rfl) rfl (by kernel_rfl) rfl (fun x wv hSw hd => ?_)
      have d0 := eqF_get (hd ⟨0, .data⟩ (by simp) rfl _ rfl)
      have hc := q0a _ hSw.2.2.2
      rw [← d0] at hc
      exact hc
    · exact Facts.pure hS hF (fun _ _ => rfl) rfl (fun x wv hSw hd => by
        go_simp)
    · exact Facts.loadT hS hF (fun _ _ => rfl) _ rfl rfl (fun x wv hSw hd => by rfl) (fun wv hSw => hSw.2.1.tat)
    · refine Facts.call2V hS hF (fun _ _ => rfl) rfl (by kernel_rfl) rfl (fun x wv hSw hd => ?_)
      have d3 := eqF_get (hd ⟨3, .data⟩ (by simp) rfl _ rfl)
      have hc := q0b _ hSw.2.2.2
      rw [← d3] at hc
      exact hc
    · exact Facts.pure hS hF (fun _ _ => rfl) rfl (fun x wv hSw hd => by
        go_simp)
    · refine Facts.call4T hS hF (fun _ _ => rfl) rfl (by kernel_rfl) rfl (fun x wv hSw hd => ?_)
      have d1 := eqF_get (hd ⟨1, .data⟩ (by simp) rfl _ rfl)
      have d2 := eqF_get (hd ⟨2, .data⟩ (by simp) rfl _ rfl)
      have d4 := eqF_get (hd ⟨4, .data⟩ (by simp) rfl _ rfl)
      have d5 := eqF_get (hd ⟨5, .data⟩ (by simp) rfl _ rfl)
      have hc := r0 _ hSw.2.2.2
      rw [← d1, ← d2, ← d4, ← d5] at hc
      exact hc
    · exact Facts.loadT hS hF (fun _ _ => rfl) _ rfl rfl (fun x wv hSw hd => by rfl) (fun wv hSw => hSw.1.tat)
    · refine Facts.call2V hS hF (fun _ _ => rfl) rfl (by kernel_rfl) rfl (fun x wv hSw hd => ?_)
      have d7 := eqF_get (hd ⟨7, .data⟩ (by simp) rfl _ rfl)
      have hc := q1a _ hSw.2.2.2
      rw [← d7] at hc
      exact hc
    · exact Facts.pure hS hF (fun _ _ => rfl) rfl (fun x wv hSw hd => by
        go_simp)
    · exact Facts.loadT hS hF (fun _ _ => rfl) _ rfl rfl (fun x wv hSw hd => by rfl) (fun wv hSw => hSw.2.1.tat)
    · refine Facts.call2V hS hF (fun _ _ => rfl) rfl (by kernel_rfl) rfl (fun x wv hSw hd => ?_)
      have d10 := eqF_get (hd ⟨10, .data⟩ (by simp) rfl _ rfl)
      have hc := q1b _ hSw.2.2.2
      rw [← d10] at hc
      exact hc
    · exact Facts.pure hS hF (fun _ _ => rfl) rfl (fun x wv hSw hd => by
        go_simp)
    · refine Facts.call4T hS hF (fun _ _ => rfl) rfl (by kernel_rfl) rfl (fun x wv hSw hd => ?_)
      have d8 := eqF_get (hd ⟨8, .data⟩ (by simp) rfl _ rfl)
      have d9 := eqF_get (hd ⟨9, .data⟩ (by simp) rfl _ rfl)
      have d11 := eqF_get (hd ⟨11, .data⟩ (by simp) rfl _ rfl)
      have d12 := eqF_get (hd ⟨12, .data⟩ (by simp) rfl _ rfl)
      have hc := r1 _ hSw.2.2.2
      rw [← d8, ← d9, ← d11, ← d12] at hc
      exact hc
    · refine Facts.call3T hS hF (fun _ _ => rfl) rfl (by kernel_rfl) rfl (fun x wv hSw hd => ?_)
      obtain ⟨n6i, p6i, l6i, c6i, d6, e6⟩ := isF_get (hd ⟨6, .data⟩ (by simp) rfl _ rfl)
      obtain ⟨n13i, p13i, l13i, c13i, d13, e13⟩ := isF_get (hd ⟨13, .data⟩ (by simp) rfl _ rfl)
      have hc := refNode_any 0 X Y _ _ _ _ _ _ _ _ _ e6 e13 HB.out.1 HB.out.2 (by omega)
      rw [← d6, ← d13, lift_zero] at hc
      exact hc
    · exact Facts.storeT (fun _ _ => rfl) _ _ rfl (by decide) rfl (fun _ => rfl) (fun _ => rfl) (fun x wv hSw hd => isF_get (hd ⟨14, .data⟩ (by simp) rfl _ rfl)) (fun wv hSw => ⟨hSw.2.2.1, fun n p l c => (by obtain ⟨s1, s2, ⟨_, _, _, _, s3⟩, s4⟩ := hSw; exact ⟨s1.rowOther (by omega) _, s2.rowOther (by omega) _, ⟨_, _, _, _, s3.row n p l c⟩, below_setRow s4 (by omega) _⟩)⟩) (fun j f hj hfj => by
        match j with
        | 0 => obtain rfl := Option.some.inj hfj; exact eqF_box _ _ _
        | 1 => obtain rfl := Option.some.inj hfj; exact eqF_box _ _ _
        | 2 => obtain rfl := Option.some.inj hfj; exact eqF_box _ _ _
        | 3 => obtain rfl := Option.some.inj hfj; exact eqF_box _ _ _
        | 4 => obtain rfl := Option.some.inj hfj; exact eqF_box _ _ _
        | 5 => obtain rfl := Option.some.inj hfj; exact eqF_box _ _ _
        | 6 => obtain rfl := Option.some.inj hfj; exact isF_box _ _ _
        | 7 => obtain rfl := Option.some.inj hfj; exact eqF_box _ _ _
        | 8 => obtain rfl := Option.some.inj hfj; exact eqF_box _ _ _
        | 9 => obtain rfl := Option.some.inj hfj; exact eqF_box _ _ _
        | 10 => obtain rfl := Option.some.inj hfj; exact eqF_box _ _ _
        | 11 => obtain rfl := Option.some.inj hfj; exact eqF_box _ _ _
        | 12 => obtain rfl := Option.some.inj hfj; exact eqF_box _ _ _
        | 13 => obtain rfl := Option.some.inj hfj; exact isF_box _ _ _
        | 14 => obtain rfl := Option.some.inj hfj; exact isF_box _ _ _
        | 15 => exact absurd rfl hj
        | j + 16 => simp at hfj)
    · rintro xv w9 ⟨_, _, _, hbel9⟩ hf
      obtain ⟨n9, p9, l9, c9, _, hbx, hi⟩ := bxF_get (hf 15 _ (by decide) rfl)
      clear hf hS hF
      go_wp2
      exact bodyPost_ret (results_t rfl rfl hbx) rfl ⟨_, _, _, _, rfl, hi, hbel9⟩

set_option maxHeartbeats 4000000 in
set_option maxRecDepth 100000 in
theorem both_leaf (n m : Int) (na : Int) (pa : Option Addr) (ca : Nat) (nb : Int) (pb : Option Addr) (cb : Nat) (w : World) (b1 : 0 ≤ n + na ∧ n + na ≤ 1073741824) (b2 : 0 ≤ m + nb ∧ m + nb ≤ 1073741824) :
    Calls Try.prog 76 #[TV na pa 0 ca, .int .i64 n, TV nb pb 0 cb, .int .i64 m] w (Gives (.leaf (max (n + na) (m + nb))) w) := by
  obtain ⟨h1, h2, h3, hbel⟩ := three_box w na pa 0 ca nb pb 0 cb 0 none 0 0 _ rfl
  have hw1 : IntKind.i64.wrap (n + na) = n + na := by rw [IntKind.wrap_i64]; omega
  have hw2 : IntKind.i64.wrap (m + nb) = m + nb := by rw [IntKind.wrap_i64]; omega
  obtain ⟨z, HZ⟩ : ∃ z, Hid (max (n + na) (m + nb) = z) := ⟨_, rfl⟩
  rw [HZ.out]
  have g0 := h1.cell0
  have g1 := h2.cell0
  go_enter Try.func76, Try.ntmps76
  go_wp2_with fail
  have hs : Calm.Stays (fun w' => w'.cell? ⟨w.heap.size, 0, none⟩ = some (.int .i64 na) ∧ w'.cell? ⟨w.heap.size + 1, 0, none⟩ = some (.int .i64 nb) ∧ Bx w' w.heap.size na pa 0 ca ∧ Bx w' (w.heap.size + 1) nb pb 0 cb ∧ Bx w' (w.heap.size + 1 + 1) 0 none 0 0 ∧ Below w.heap.size w w') := fun wa wb h hb => ⟨cell_later hb h.1, cell_later hb h.2.1, h.2.2.1.later hb, h.2.2.2.1.later hb, h.2.2.2.2.1.later hb, below_on h.2.2.2.2.2 hb⟩
  refine Calm.region (by kernel_rfl) (by kernel_rfl) (fun w' => w'.cell? ⟨w.heap.size, 0, none⟩ = some (.int .i64 na) ∧ w'.cell? ⟨w.heap.size + 1, 0, none⟩ = some (.int .i64 nb) ∧ Bx w' w.heap.size na pa 0 ca ∧ Bx w' (w.heap.size + 1) nb pb 0 cb ∧ Bx w' (w.heap.size + 1 + 1) 0 none 0 0 ∧ Below w.heap.size w w') ⟨g0, g1, h1, h2, h3, hbel.drew⟩ ?_
  clear h1 h2 h3 hbel g0 g1
  all_goals
    refine Calm.pure (v := ?_) (by rfl) ?_ ?_
    rotate_left
    focus (intro w hSw; go_simp <;> rfl)
    simp only [Act.put, List.setIfInBounds_toArray, List.set_cons_zero, List.set_cons_succ]
  all_goals
    refine Calm.pure (v := ?_) (by rfl) ?_ ?_
    rotate_left
    focus (intro w hSw; go_simp <;> rfl)
    simp only [Act.put, List.setIfInBounds_toArray, List.set_cons_zero, List.set_cons_succ]
  all_goals
    refine Calm.pure (v := ?_) (by rfl) ?_ ?_
    rotate_left
    focus (intro w hSw; go_simp <;> rfl)
    simp only [Act.put, List.setIfInBounds_toArray, List.set_cons_zero, List.set_cons_succ]
  all_goals
    refine Calm.pure (v := ?_) (by rfl) ?_ ?_
    rotate_left
    focus (intro w hSw; go_simp <;> rfl)
    simp only [Act.put, List.setIfInBounds_toArray, List.set_cons_zero, List.set_cons_succ]
  all_goals
    refine Calm.pure (v := ?_) (by rfl) ?_ ?_
    rotate_left
    focus (intro w hSw; go_simp <;> rfl)
    simp only [Act.put, List.setIfInBounds_toArray, List.set_cons_zero, List.set_cons_succ]
  all_goals
    refine Calm.pure (v := ?_) (by rfl) ?_ ?_
    rotate_left
    focus (intro w hSw; go_simp <;> rfl)
    simp only [Act.put, List.setIfInBounds_toArray, List.set_cons_zero, List.set_cons_succ]
  all_goals
    refine Calm.pure (v := ?_) (by rfl) ?_ ?_
    rotate_left
    focus (intro w hSw; go_simp <;> rfl)
    simp only [Act.put, List.setIfInBounds_toArray, List.set_cons_zero, List.set_cons_succ]
  all_goals
    refine Calm.pure (v := ?_) (by rfl) ?_ ?_
    rotate_left
    focus (intro w hSw; go_simp <;> rfl)
    simp only [Act.put, List.setIfInBounds_toArray, List.set_cons_zero, List.set_cons_succ]
  all_goals
    refine Calm.pure (v := ?_) (by rfl) ?_ ?_
    rotate_left
    focus (intro w hSw; go_simp <;> rfl)
    simp only [Act.put, List.setIfInBounds_toArray, List.set_cons_zero, List.set_cons_succ]
  all_goals
    refine Calm.pure (v := ?_) (by rfl) ?_ ?_
    rotate_left
    focus (intro w hSw; go_simp <;> rfl)
    simp only [Act.put, List.setIfInBounds_toArray, List.set_cons_zero, List.set_cons_succ]
  rintro w9 ⟨_, _, h1, h2, h3, hbel⟩
  clear hs
  have g2 := h1.cell1
  have g3 := h2.cell1
  clear hw1 hw2
  by_cases hlt : n + na < m + nb
  · have HM : Hid (m + nb = z) := by show _ = _; rw [← HZ.out]; omega
    go_wp2_with fail
    refine (refLeaf_any (m + nb) _).mono ?_
    rintro e w3 ⟨rfl, hb1⟩
    replace h3 := h3.later hb1
    have R := below_setRow (below_on hbel hb1) (g := w.heap.size + 1 + 1) (by omega) #[.int .i64 (m + nb), .slice none 0 0]
    have hI : Is (w3.setRow (w.heap.size + 1 + 1) #[.int .i64 (m + nb), .slice none 0 0]) (.leaf z) (TV (m + nb) none 0 0) := by
      rw [← HM.out]
      exact is_leaf _ _ _ _
    clear hbel hb1 g2 g3
    go_wp2_with (refine store_t rfl _ _ rfl _ (m + nb) none 0 0 rfl rfl h3 ?_)
    exact bodyPost_ret (results_t rfl rfl (h3.row _ _ _ _)) rfl ⟨_, _, _, _, rfl, hI, R⟩
  · have HM : Hid (n + na = z) := by show _ = _; rw [← HZ.out]; omega
    go_wp2_with fail
    refine (refLeaf_any (n + na) _).mono ?_
    rintro e w3 ⟨rfl, hb1⟩
    replace h3 := h3.later hb1
    have R := below_setRow (below_on hbel hb1) (g := w.heap.size + 1 + 1) (by omega) #[.int .i64 (n + na), .slice none 0 0]
    have hI : Is (w3.setRow (w.heap.size + 1 + 1) #[.int .i64 (n + na), .slice none 0 0]) (.leaf z) (TV (n + na) none 0 0) := by
      rw [← HM.out]
      exact is_leaf _ _ _ _
    clear hbel hb1 g2 g3
    go_wp2_with (refine store_t rfl _ _ rfl _ (n + na) none 0 0 rfl rfl h3 ?_)
    exact bodyPost_ret (results_t rfl rfl (h3.row _ _ _ _)) rfl ⟨_, _, _, _, rfl, hI, R⟩

theorem both_any : ∀ (k : Nat) (a b : EV) (n m left : Int) (na : Int) (pa : Option Addr) (la ca : Nat) (nb : Int) (pb : Option Addr) (lb cb : Nat) (w : World), rg (lift a n) k left = true → rg (lift b m) k left = true → left ≤ 1073741824 → Is w a (TV na pa la ca) → Is w b (TV nb pb lb cb) →
    Calls Try.prog 76 #[TV na pa la ca, .int .i64 n, TV nb pb lb cb, .int .i64 m] w (Gives (join k (lift a n) (lift b m)) w) := by
  intro k
  induction k with
  | zero =>
    intro a b n m left na pa la ca nb pb lb cb w ra rb hl ha hb
    have ba := rg_n ra
    have bb := rg_n rb
    have ea := leaf_of_depth (show depth a ≤ 0 by have := rg_depth ra; rwa [depth_lift] at this)
    have eb := leaf_of_depth (show depth b ≤ 0 by have := rg_depth rb; rwa [depth_lift] at this)
    rw [lift_n, Int.add_comm] at ba bb
    rw [ea] at ha ⊢
    rw [eb] at hb ⊢
    obtain ⟨_, _, e⟩ := ha
    obtain ⟨_, _, e'⟩ := hb
    simp at e e'
    obtain ⟨rfl, rfl, rfl, rfl⟩ := e
    obtain ⟨rfl, rfl, rfl, rfl⟩ := e'
    have h := both_leaf n m a.n pa ca b.n pb cb w (by omega) (by omega)
    rw [show lift (EV.leaf a.n) n = .leaf (n + a.n) by rw [lift, Int.add_comm], show lift (EV.leaf b.n) m = .leaf (m + b.n) by rw [lift, Int.add_comm], join_leaf]
    exact h
  | succ k ih =>
    intro a b n m left na pa la ca nb pb lb cb w ra rb hl ha hb
    have ba := rg_n ra
    have bb := rg_n rb
    rw [lift_n, ← (is_parts ha).1, Int.add_comm] at ba
    rw [lift_n, ← (is_parts hb).1, Int.add_comm] at bb
    have pa' := (is_parts ha).2
    have pb' := (is_parts hb).2
    by_cases hlf : la = 0 ∧ lb = 0
    · have ea : a = .leaf a.n := by
        rcases a with ⟨n, ⟨⟩ | ⟨_, _⟩⟩
        · rfl
        · rw [pa'] at hlf; exact absurd hlf.1 (by simp [len])
      have eb : b = .leaf b.n := by
        rcases b with ⟨n, ⟨⟩ | ⟨_, _⟩⟩
        · rfl
        · rw [pb'] at hlf; exact absurd hlf.2 (by simp [len])
      obtain ⟨rfl, rfl⟩ := hlf
      have h := both_leaf n m na pa ca nb pb cb w (by omega) (by omega)
      rw [ea, eb, show lift (EV.leaf a.n) n = .leaf (n + na) by rw [lift, (is_parts ha).1, Int.add_comm], show lift (EV.leaf b.n) m = .leaf (m + nb) by rw [lift, (is_parts hb).1, Int.add_comm], join_leaf]
      exact h
    · have ra' := rg_h ra
      have rb' := rg_h rb
      have j0 := rg_n (rg_join ra'.1 rb'.1)
      have j1 := rg_n (rg_join ra'.2 rb'.2)
      obtain ⟨na0, pa0, la0, ca0, ia0, q0a⟩ := kid0_val ha
      obtain ⟨na1, pa1, la1, ca1, ia1, q1a⟩ := kid1_val ha
      obtain ⟨nb0, pb0, lb0, cb0, ib0, q0b⟩ := kid0_val hb
      obtain ⟨nb1, pb1, lb1, cb1, ib1, q1b⟩ := kid1_val hb
      have ea0 : h0 (lift a n) = lift (k0 a) (n + na) := by rw [(is_parts ha).1, lift_k0]
      have ea1 : h1 (lift a n) = lift (k1 a) (n + na) := by rw [(is_parts ha).1, lift_k1]
      have eb0 : h0 (lift b m) = lift (k0 b) (m + nb) := by rw [(is_parts hb).1, lift_k0]
      have eb1 : h1 (lift b m) = lift (k1 b) (m + nb) := by rw [(is_parts hb).1, lift_k1]
      rw [join]
      refine both_step (join k (h0 (lift a n)) (h0 (lift b m))) (join k (h1 (lift a n)) (h1 (lift b m))) n m na pa la ca nb pb lb cb na0 pa0 la0 ca0 na1 pa1 la1 ca1 nb0 pb0 lb0 cb0 nb1 pb1 lb1 cb1 w hlf (show _ ∧ _ by omega) (by omega) (by omega) q0a q1a q0b q1b (fun w1 hb1 => ?_) (fun w1 hb1 => ?_)
      · rw [ea0] at ra' ⊢
        rw [eb0] at rb' ⊢
        exact ih (k0 a) (k0 b) (n + na) (m + nb) left na0 pa0 la0 ca0 nb0 pb0 lb0 cb0 w1 ra'.1 rb'.1 hl (ia0.later hb1) (ib0.later hb1)
      · rw [ea1] at ra' ⊢
        rw [eb1] at rb' ⊢
        exact ih (k1 a) (k1 b) (n + na) (m + nb) left na1 pa1 la1 ca1 nb1 pb1 lb1 cb1 w1 ra'.2 rb'.2 hl (ia1.later hb1) (ib1.later hb1)
set_option maxHeartbeats 4000000 in
set_option maxRecDepth 100000 in
theorem refJoin_tr (ta tb : Tr) (na : Int) (pa : Option Addr) (la ca : Nat) (nb : Int) (pb : Option Addr) (lb cb : Nat) (w : World) (ha : Lies w ta (TV na pa la ca)) (hb : Lies w tb (TV nb pb lb cb)) :
    Calls Try.prog 41 #[TV na pa la ca, TV nb pb lb cb] w (GivesE (jnX ta tb) (jnE ta tb) w) := by
  obtain ⟨h1, h2, h3, hbel⟩ := three_box w na pa la ca nb pb lb cb 0 none 0 0 _ rfl
  have rA := fun w1 (hb1 : Below w.heap.size w w1) => refCheck_tr ta na pa la ca w1 (ha.later hb1)
  have rB := fun w1 (hb1 : Below w.heap.size w w1) => refCheck_tr tb nb pb lb cb w1 (hb.later hb1)
  have rJ := fun w1 (hb1 : Below w.heap.size w w1) (ka : okT ta = true) (kb : okT tb = true) => both_any 16 (evOf ta) (evOf tb) 0 0 1073741824 na pa la ca nb pb lb cb w1 (by rw [lift_zero]; exact (ok_parts (ok_of ha ka).2).1) (by rw [lift_zero]; exact (ok_parts (ok_of hb kb).2).1) (by omega) ((ok_of ha ka).1.later hb1) ((ok_of hb kb).1.later hb1) 
  simp only [lift_zero] at rJ
  unfold jnX jnE
  generalize okT ta = ka at rA rJ ⊢
  generalize okT tb = kb at rB rJ ⊢
  obtain ⟨zx, HX⟩ : ∃ zx, Hid ((if (ka && kb) = true then join 16 (evOf ta) (evOf tb) else .leaf 0) = zx) := ⟨_, rfl⟩
  obtain ⟨ze, HE⟩ : ∃ ze : Int, Hid ((if (ka && kb) = true then 0 else 3) = ze) := ⟨_, rfl⟩
  rw [HX.out, HE.out]
  clear ha hb
  go_enter Try.func41, Try.ntmps41
  go_wp2_with (refine load_t _ rfl rfl _ _ rfl h1.tat ?_)
  refine (rA _ hbel).mono ?_
  rintro e w1 ⟨rfl, hb1⟩
  replace h1 := h1.later hb1
  replace h2 := h2.later hb1
  replace h3 := h3.later hb1
  replace hbel := below_on hbel hb1
  clear hb1 rA
  cases ka
  · have R := below_setRow hbel (g := w.heap.size + 1 + 1) (by omega) #[.int .i64 0, .slice none 0 0]
    obtain rfl : zx = .leaf 0 := by rw [← HX.out]; rfl
    obtain rfl : ze = 3 := by rw [← HE.out]; rfl
    clear HX HE rB rJ h1 h2 hbel
    go_wp2_with (refine store_t rfl _ _ rfl _ 0 none 0 0 rfl rfl h3 ?_)
    exact bodyPost_ret (results_te rfl rfl (h3.row _ _ _ _)) rfl ⟨_, _, _, _, rfl, is_leaf _ 0 _ _, R⟩
  · go_wp2_with (refine load_t _ rfl rfl _ _ rfl h2.tat ?_)
    refine (rB _ hbel).mono ?_
    rintro e w2 ⟨rfl, hb1⟩
    replace h1 := h1.later hb1
    replace h2 := h2.later hb1
    replace h3 := h3.later hb1
    replace hbel := below_on hbel hb1
    clear hb1 rB
    cases kb
    · have R := below_setRow hbel (g := w.heap.size + 1 + 1) (by omega) #[.int .i64 0, .slice none 0 0]
      obtain rfl : zx = .leaf 0 := by rw [← HX.out]; rfl
      obtain rfl : ze = 3 := by rw [← HE.out]; rfl
      clear HX HE rJ h1 h2 hbel
      go_wp2_with (refine store_t rfl _ _ rfl _ 0 none 0 0 rfl rfl h3 ?_)
      exact bodyPost_ret (results_te rfl rfl (h3.row _ _ _ _)) rfl ⟨_, _, _, _, rfl, is_leaf _ 0 _ _, R⟩
    · obtain rfl : zx = join 16 (evOf ta) (evOf tb) := by rw [← HX.out]; rfl
      obtain rfl : ze = 0 := by rw [← HE.out]; rfl
      clear HX HE
      go_wp2_with (first | refine load_t _ rfl rfl _ _ rfl h1.tat ?_ | refine load_t _ rfl rfl _ _ rfl h2.tat ?_)
      refine (rJ _ hbel trivial trivial).mono ?_
      rintro e w3 ⟨n', p', l', c', rfl, hi, hb1⟩
      replace h3 := h3.later hb1
      have R := below_setRow (below_on hbel hb1) (g := w.heap.size + 1 + 1) (by omega) #[.int .i64 n', .slice p' l' c']
      clear hbel hb1 h1 h2 rJ
      go_wp2_with (refine store_t rfl _ _ rfl _ n' p' l' c' rfl rfl h3 ?_)
      exact bodyPost_ret (results_te rfl rfl (h3.row _ _ _ _)) rfl ⟨_, _, _, _, rfl, hi.box h3 _, R⟩

set_option maxHeartbeats 4000000 in
set_option maxRecDepth 100000 in
theorem refLeq_tr (ta tb : Tr) (na : Int) (pa : Option Addr) (la ca : Nat) (nb : Int) (pb : Option Addr) (lb cb : Nat) (w : World) (ha : Lies w ta (TV na pa la ca)) (hb : Lies w tb (TV nb pb lb cb)) :
    Calls Try.prog 51 #[TV na pa la ca, TV nb pb lb cb] w (Tells (.bool (lqT ta tb)) w) := by
  obtain ⟨h1, h2, hbel⟩ := two_box w na pa la ca nb pb lb cb _ rfl
  have rA := fun w1 (hb1 : Below w.heap.size w w1) => refCheck_tr ta na pa la ca w1 (ha.later hb1)
  have rB := fun w1 (hb1 : Below w.heap.size w w1) => refCheck_tr tb nb pb lb cb w1 (hb.later hb1)
  have rJ := fun w1 (hb1 : Below w.heap.size w w1) (ka : okT ta = true) (kb : okT tb = true) => rleq_any 16 (evOf ta) (evOf tb) 0 0 1073741824 na pa la ca nb pb lb cb w1 (by rw [lift_zero]; exact (ok_parts (ok_of ha ka).2).1) (by rw [lift_zero]; exact (ok_parts (ok_of hb kb).2).1) (by omega) ((ok_of ha ka).1.later hb1) ((ok_of hb kb).1.later hb1)
  simp only [lift_zero] at rJ
  unfold lqT
  generalize okT ta = ka at rA rJ ⊢
  generalize okT tb = kb at rB rJ ⊢
  generalize leq 16 (evOf ta) (evOf tb) = r at rJ ⊢
  clear ha hb
  go_enter Try.func51, Try.ntmps51
  go_wp2_with (refine load_t _ rfl rfl _ _ rfl h1.tat ?_)
  refine (rA _ hbel).mono ?_
  rintro e w1 ⟨rfl, hb1⟩
  replace h1 := h1.later hb1
  replace h2 := h2.later hb1
  replace hbel := below_on hbel hb1
  clear hb1 rA
  cases ka
  · clear rB rJ h1 h2
    go_wp2
    go_ret
    exact ⟨rfl, hbel⟩
  · go_wp2_with (refine load_t _ rfl rfl _ _ rfl h2.tat ?_)
    refine (rB _ hbel).mono ?_
    rintro e w2 ⟨rfl, hb1⟩
    replace h1 := h1.later hb1
    replace h2 := h2.later hb1
    replace hbel := below_on hbel hb1
    clear hb1 rB
    cases kb
    · clear rJ h1 h2
      go_wp2
      go_ret
      exact ⟨rfl, hbel⟩
    · go_wp2_with (first | refine load_t _ rfl rfl _ _ rfl h1.tat ?_ | refine load_t _ rfl rfl _ _ rfl h2.tat ?_)
      refine (rJ _ hbel trivial trivial).mono ?_
      rintro e w3 ⟨rfl, hb1⟩
      replace hbel := below_on hbel hb1
      clear hb1 h1 h2 rJ
      go_wp2
      go_ret
      exact ⟨rfl, hbel⟩
end Go.Proofs.Ytmcajjdijjcpkaa
/- A tree and another value, handed on within a region that draws its order. -/
namespace Go.Proofs.Ytmcajjdijjcpkaa.Idn
open Go.RowKit

/-- A tree and a value. -/
def tvF (i : Nat) (x : ID) (r : Value) : Facts.Fact := ([i], fun vs w => ∃ n p l c, vs = [.tuple #[TV n p l c, r]] ∧ Is w x (TV n p l c))
theorem tvF_get {i : Nat} {y : ID} {r : Value} {x : Nat → Value} {w : World} (h : Facts.holds (tvF i y r) x w) : ∃ n p l c, x i = .tuple #[TV n p l c, r] ∧ Is w y (TV n p l c) := by simpa [Facts.holds, tvF] using h
theorem tvF_stays (i : Nat) (x : ID) (r : Value) : staysF (tvF i x r) := fun _ _ _ ⟨n, p, l, c, e, h⟩ hb => ⟨n, p, l, c, e, h.later hb⟩
theorem tvF_box (i : Nat) (x : ID) (r : Value) (q : Nat) : boxF (tvF i x r) q := fun _ _ _ _ _ _ ⟨n, p, l, c, e, h⟩ ⟨_, _, _, _, hq⟩ => ⟨n, p, l, c, e, h.box hq _⟩

section
variable {Q : Exit → Act → World → Prop} {S : World → Prop} {md : Region.Mode} {A : (Nat → Value) → Act} {F : List Facts.Fact} {i : Nat} {o : Oper}
/-- A function is called with two trees, and answers a tree and a number. -/
theorem Facts.call2W (hS : Calm.Stays S) (hF : Facts.Stay F) (hA : ∀ x u, (A x).put o.dst u = A (Facts.put x i u)) {fn : FuncId} {ts : Array TypeId} {u v : Operand} (ho : o.op = .call { callee := .value (.func fn), args := #[u, v], argTypes := ts }) (hf : Calm.enters Try.prog fn = true) {z : ID} {r : Value} (hz : F[i]? = some (tvF i z r))
    (h : ∀ x w, S w → (∀ e ∈ o.after, Region.binds md e = true → ∀ f, F[e.on]? = some f → Facts.holds f x w) → Calls Try.prog fn #[(A x).eval u, (A x).eval v] w fun e w' => ∃ n p l c, e = .returned (.tuple #[TV n p l c, r]) ∧ Is w' z (TV n p l c) ∧ Below w.heap.size w w') : Facts.StepOk Try.prog md Q S A F i o :=
  Facts.call (f := fn) hS hF hA fun x w hSw hdep => ⟨#[(A x).eval u, (A x).eval v], by
    have e : ∀ args, (callFunc fn args).run Try.prog w = .ok (.enter fn args) w := fun args => Calm.enters_run hf args w
    unfold execOp
    simp [ho, go_sem, Act.eval, e], (h x w hSw hdep).mono fun e w' ⟨n, p, l, c, he, hi, hb⟩ => ⟨_, he, hb, fun f hf' => by
      rw [hz] at hf'
      obtain rfl := Option.some.inj hf'
      exact ⟨n, p, l, c, by simp [Facts.put, tvF], hi⟩⟩⟩
/-- A tree and a number are handed on; the tree is taken out. -/
theorem Facts.moveW (hS : Calm.Stays S) (hF : Facts.Stay F) (hA : ∀ x u, (A x).put o.dst u = A (Facts.put x i u)) {u : Operand} (ho : o.op = .move u) {k : Nat} {z : ID} {r : Value} (hz : F[i]? = some (tvF i z r)) (hu : ∀ x, (A x).eval u = x k)
    (h : ∀ x w, S w → (∀ e ∈ o.after, Region.binds md e = true → ∀ f, F[e.on]? = some f → Facts.holds f x w) → Facts.holds (tvF k z r) x w) : Facts.StepOk Try.prog md Q S A F i o :=
  Facts.step hS hF hA fun x w hSw hdep => by
    obtain ⟨n, p, l, c, e, hi⟩ := tvF_get (h x w hSw hdep)
    unfold Oper.wp execOp
    simp only [ho, hu x, e, Sem.run_pure]
    refine ⟨_, rfl, Below.refl _ _, fun f hf' => ?_⟩
    rw [hz] at hf'
    obtain rfl := Option.some.inj hf'
    exact ⟨n, p, l, c, by simp [Facts.put, tvF], hi⟩
theorem Facts.fstW (hS : Calm.Stays S) (hF : Facts.Stay F) (hA : ∀ x u, (A x).put o.dst u = A (Facts.put x i u)) {u : Operand} (ho : o.op = .extract u 0) {k : Nat} {z : ID} {r : Value} (hz : F[i]? = some (isF i z)) (hu : ∀ x, (A x).eval u = x k)
    (h : ∀ x w, S w → (∀ e ∈ o.after, Region.binds md e = true → ∀ f, F[e.on]? = some f → Facts.holds f x w) → Facts.holds (tvF k z r) x w) : Facts.StepOk Try.prog md Q S A F i o :=
  Facts.step hS hF hA fun x w hSw hdep => by
    obtain ⟨n, p, l, c, e, hi⟩ := tvF_get (h x w hSw hdep)
    have hr : (execOp (A x).eval o).run Try.prog w = .ok (.value (TV n p l c)) w := by
      have hv := (hu x).trans e
      generalize (A x).eval = ρ at hv
      unfold execOp
      simp [ho, hv, go_sem]
    unfold Oper.wp
    rw [hr]
    refine ⟨_, rfl, Below.refl _ _, fun f hf' => ?_⟩
    rw [hz] at hf'
    obtain rfl := Option.some.inj hf'
    exact isF_put hi
theorem Facts.sndW (hS : Calm.Stays S) (hF : Facts.Stay F) (hA : ∀ x u, (A x).put o.dst u = A (Facts.put x i u)) {u : Operand} (ho : o.op = .extract u 1) {k : Nat} {z : ID} {r : Value} (hz : F[i]? = some (eqF i r)) (hu : ∀ x, (A x).eval u = x k)
    (h : ∀ x w, S w → (∀ e ∈ o.after, Region.binds md e = true → ∀ f, F[e.on]? = some f → Facts.holds f x w) → Facts.holds (tvF k z r) x w) : Facts.StepOk Try.prog md Q S A F i o :=
  Facts.pure hS hF hA hz fun x w hSw hdep => by
    obtain ⟨n, p, l, c, e, hi⟩ := tvF_get (h x w hSw hdep)
    have hv := (hu x).trans e
    generalize (A x).eval = ρ at hv
    unfold execOp
    simp [ho, hv, go_sem]
end
end Go.Proofs.Ytmcajjdijjcpkaa.Idn
