/- The functions norm, Check and Norm of the document's answer. -/
import Derived.Test.YtlfbabepbajcjaaRefNode
namespace Go.Proofs.Ytlfbabepbajcjaa
open Go.RowKit

set_option maxHeartbeats 2000000 in
set_option maxRecDepth 100000 in
theorem refNorm_leaf (n : Int) (p : Option Addr) (c : Nat) (w : World) : Calls Try.prog 29 #[TV n p 0 c] w (Gives (.leaf n) w) := by
  obtain ⟨h1, h2, hbel⟩ := two_box w n p 0 c 0 none 0 0 _ rfl
  have g0 := h1.cell0
  have g1 := h1.cell1
  go_enter Try.func29, Try.ntmps29
  go_wp2_with fail
  refine (refLeaf_any _ _).mono ?_
  rintro e w2 ⟨rfl, hb1⟩
  replace h2 := h2.later hb1
  replace hbel := below_on hbel hb1
  clear hb1 h1 g0 g1
  have R := below_setRow hbel (g := w.heap.size + 1) (by omega) #[.int .i64 n, .slice none 0 0]
  go_wp2_with (refine store_t rfl _ _ rfl _ n none 0 0 rfl rfl h2 ?_)
  exact bodyPost_ret (results_t rfl rfl (h2.row _ _ _ _)) rfl ⟨_, _, _, _, rfl, is_leaf _ _ _ _, R⟩

set_option maxHeartbeats 4000000 in
set_option maxRecDepth 100000 in
theorem refNorm_node (x' y' : EV) (n : Int) (g o c : Nat) (n0 : Int) (p0 : Option Addr) (l0 c0 : Nat) (n1 : Int) (p1 : Option Addr) (l1 c1 : Nat) (w : World) (t0 : Tat w g o n0 p0 l0 c0) (t1 : Tat w g (o + 2) n1 p1 l1 c1)
    (HB : Hid ((0 ≤ x'.n ∧ x'.n ≤ 1073741824) ∧ (0 ≤ y'.n ∧ y'.n ≤ 1073741824) ∧ (0 ≤ n ∧ n ≤ 1073741824)))
    (r0 : ∀ w1, Below w.heap.size w w1 → Calls Try.prog 29 #[TV n0 p0 l0 c0] w1 (Gives x' w1)) (r1 : ∀ w1, Below w.heap.size w w1 → Calls Try.prog 29 #[TV n1 p1 l1 c1] w1 (Gives y' w1)) :
    Calls Try.prog 29 #[TV n (some ⟨g, o, none⟩) 2 c] w (Gives (lift (mk x' y') n) w) := by
  obtain ⟨h1, h2, hbel⟩ := two_box w n (some ⟨g, o, none⟩) 2 c 0 none 0 0 _ rfl
  obtain ⟨z, HZ⟩ : ∃ z, Hid (lift (mk x' y') n = z) := ⟨_, rfl⟩
  rw [HZ.out]
  have g1 := h1.cell1
  go_enter Try.func29, Try.ntmps29
  go_wp2_with fail
  clear g1
  have hS : Calm.Stays (fun w' => Bx w' (w.heap.size) n (some ⟨g, o, none⟩) 2 c ∧ (∃ n p l c, Bx w' (w.heap.size + 1) n p l c) ∧ Below w.heap.size w w') := fun wa wb h hb => ⟨h.1.later hb, (by obtain ⟨n, p, l, c, h2⟩ := h.2.1; exact ⟨n, p, l, c, h2.later hb⟩), below_on h.2.2 hb⟩
  have hF : Facts.Stay [eqF 0 (.pointer (some ⟨w.heap.size, 0, none⟩)), eqF 1 (.int .i64 n), eqF 2 (.pointer (some ⟨w.heap.size, 1, none⟩)), eqF 3 (.slice (some ⟨g, o, none⟩) 2 c), eqF 4 (.pointer (some ⟨g, o, none⟩)), eqF 5 (TV n0 p0 l0 c0), isF 6 x', eqF 7 (.pointer (some ⟨w.heap.size, 1, none⟩)), eqF 8 (.slice (some ⟨g, o, none⟩) 2 c), eqF 9 (.pointer (some ⟨g, o + 2, none⟩)), eqF 10 (TV n1 p1 l1 c1), isF 11 y', isF 12 z, bxF 12 (w.heap.size + 1) z] := stay_of (by simp only [List.forall_mem_cons]; exact ⟨eqF_stays _ _, eqF_stays _ _, eqF_stays _ _, eqF_stays _ _, eqF_stays _ _, eqF_stays _ _, isF_stays _ _, eqF_stays _ _, eqF_stays _ _, eqF_stays _ _, eqF_stays _ _, isF_stays _ _, isF_stays _ _, bxF_stays _ _ _, fun _ h => by cases h⟩)
  refine Facts.region (by kernel_rfl) (by kernel_rfl) (fun w' => Bx w' (w.heap.size) n (some ⟨g, o, none⟩) 2 c ∧ (∃ n p l c, Bx w' (w.heap.size + 1) n p l c) ∧ Below w.heap.size w w') (fun x => { tmps := #[TV n (some ⟨g, o, none⟩) 2 c, .pointer (some ⟨w.heap.size, 0, none⟩), .pointer (some ⟨w.heap.size + 1, 0, none⟩), .pointer (some ⟨w.heap.size, 1, none⟩), .slice (some ⟨g, o, none⟩) 2 c, .int .i64 2, .bool false, undef, undef, undef, x 0, x 1, x 2, x 3, x 4, x 5, x 6, x 7, x 8, x 9, x 10, x 11, x 12], defers := [] }) [eqF 0 (.pointer (some ⟨w.heap.size, 0, none⟩)), eqF 1 (.int .i64 n), eqF 2 (.pointer (some ⟨w.heap.size, 1, none⟩)), eqF 3 (.slice (some ⟨g, o, none⟩) 2 c), eqF 4 (.pointer (some ⟨g, o, none⟩)), eqF 5 (TV n0 p0 l0 c0), isF 6 x', eqF 7 (.pointer (some ⟨w.heap.size, 1, none⟩)), eqF 8 (.slice (some ⟨g, o, none⟩) 2 c), eqF 9 (.pointer (some ⟨g, o + 2, none⟩)), eqF 10 (TV n1 p1 l1 c1), isF 11 y', isF 12 z, bxF 12 (w.heap.size + 1) z] _ rfl (by kernel_rfl) (fun _ => undef) rfl (⟨h1, ⟨_, _, _, _, h2⟩, hbel.drew⟩) ⟨?_, ?_, ?_, ?_, ?_, ?_, ?_, ?_, ?_, ?_, ?_, ?_, ?_, ?_, trivial⟩ ?_
  · exact Facts.pure hS hF (fun _ _ => rfl) rfl (fun x wv hSw hd => by
      go_simp)
  · exact Facts.pure hS hF (fun _ _ => rfl) rfl (fun x wv hSw hd => by
      have d0 := eqF_get (hd ⟨0, .data⟩ (by simp) rfl _ rfl)
      have g0 := hSw.1.cell0
      have g1 := hSw.1.cell1
      simp only [d0]
      go_simp)
  · exact Facts.pure hS hF (fun _ _ => rfl) rfl (fun x wv hSw hd => by
      go_simp)
  · exact Facts.pure hS hF (fun _ _ => rfl) rfl (fun x wv hSw hd => by
      have d2 := eqF_get (hd ⟨2, .data⟩ (by simp) rfl _ rfl)
      have g0 := hSw.1.cell0
      have g1 := hSw.1.cell1
      simp only [d2]
      go_simp)
  · exact Facts.pure hS hF (fun _ _ => rfl) rfl (fun x wv hSw hd => by
      have d3 := eqF_get (hd ⟨3, .data⟩ (by simp) rfl _ rfl)
      simp only [d3]
      go_simp)
  · exact Facts.loadT hS hF (fun _ _ => rfl) _ rfl rfl (fun x wv hSw hd => by have d4 := eqF_get (hd ⟨4, .data⟩ (by simp) rfl _ rfl); exact d4) (fun wv hSw => t0.later hSw.2.2)
  · refine Facts.call1T hS hF (fun _ _ => rfl) rfl (by kernel_rfl) rfl (fun x wv hSw hd => ?_)
    have d5 := eqF_get (hd ⟨5, .data⟩ (by simp) rfl _ rfl)
    have hc := r0 _ hSw.2.2
    rw [← d5] at hc
    exact hc
  · exact Facts.pure hS hF (fun _ _ => rfl) rfl (fun x wv hSw hd => by
      go_simp)
  · exact Facts.pure hS hF (fun _ _ => rfl) rfl (fun x wv hSw hd => by
      have d7 := eqF_get (hd ⟨7, .data⟩ (by simp) rfl _ rfl)
      have g0 := hSw.1.cell0
      have g1 := hSw.1.cell1
      simp only [d7]
      go_simp)
  · exact Facts.pure hS hF (fun _ _ => rfl) rfl (fun x wv hSw hd => by
      have d8 := eqF_get (hd ⟨8, .data⟩ (by simp) rfl _ rfl)
      simp only [d8]
      go_simp)
  · exact Facts.loadT hS hF (fun _ _ => rfl) _ rfl rfl (fun x wv hSw hd => by have d9 := eqF_get (hd ⟨9, .data⟩ (by simp) rfl _ rfl); exact d9) (fun wv hSw => t1.later hSw.2.2)
  · refine Facts.call1T hS hF (fun _ _ => rfl) rfl (by kernel_rfl) rfl (fun x wv hSw hd => ?_)
    have d10 := eqF_get (hd ⟨10, .data⟩ (by simp) rfl _ rfl)
    have hc := r1 _ hSw.2.2
    rw [← d10] at hc
    exact hc
  · refine Facts.call3T hS hF (fun _ _ => rfl) rfl (by kernel_rfl) rfl (fun x wv hSw hd => ?_)
    have d1 := eqF_get (hd ⟨1, .data⟩ (by simp) rfl _ rfl)
    obtain ⟨n6i, p6i, l6i, c6i, d6, e6⟩ := isF_get (hd ⟨6, .data⟩ (by simp) rfl _ rfl)
    obtain ⟨n11i, p11i, l11i, c11i, d11, e11⟩ := isF_get (hd ⟨11, .data⟩ (by simp) rfl _ rfl)
    have hc := refNode_any n x' y' _ _ _ _ _ _ _ _ _ e6 e11 HB.out.1 HB.out.2.1 HB.out.2.2
    rw [← d1, ← d6, ← d11, HZ.out] at hc
    exact hc
  · exact Facts.storeT (fun _ _ => rfl) _ _ rfl (by decide) rfl (fun _ => rfl) (fun _ => rfl) (fun x wv hSw hd => isF_get (hd ⟨12, .data⟩ (by simp) rfl _ rfl)) (fun wv hSw => ⟨hSw.2.1, fun n p l c => (by obtain ⟨s1, ⟨_, _, _, _, s2⟩, s4⟩ := hSw; exact ⟨s1.rowOther (by omega) _, ⟨_, _, _, _, s2.row n p l c⟩, below_setRow s4 (by omega) _⟩)⟩) (fun j f hj hfj => by
      match j with
      | 0 => obtain rfl := Option.some.inj hfj; exact eqF_box _ _ _
      | 1 => obtain rfl := Option.some.inj hfj; exact eqF_box _ _ _
      | 2 => obtain rfl := Option.some.inj hfj; exact eqF_box _ _ _
      | 3 => obtain rfl := Option.some.inj hfj; exact eqF_box _ _ _
      | 4 => obtain rfl := Option.some.inj hfj; exact eqF_box _ _ _
      | 5 => obtain rfl := Option.some.inj hfj; exact eqF_box _ _ _
      | 6 => obtain rfl := Option.some.inj hfj; exact isF_box _ _ _
      | 7 => obtain rfl := Option.some.inj hfj; exact eqF_box _ _ _
      | 8 => obtain rfl := Option.some.inj hfj; exact eqF_box _ _ _
      | 9 => obtain rfl := Option.some.inj hfj; exact eqF_box _ _ _
      | 10 => obtain rfl := Option.some.inj hfj; exact eqF_box _ _ _
      | 11 => obtain rfl := Option.some.inj hfj; exact isF_box _ _ _
      | 12 => obtain rfl := Option.some.inj hfj; exact isF_box _ _ _
      | 13 => exact absurd rfl hj
      | j + 14 => simp at hfj)
  · rintro xv w9 ⟨_, _, hbel9⟩ hf
    obtain ⟨n, p, l, c, _, hbx, hi⟩ := bxF_get (hf 13 _ (by decide) rfl)
    clear hf hS hF
    go_wp2
    exact bodyPost_ret (results_t rfl rfl hbx) rfl ⟨_, _, _, _, rfl, hi, hbel9⟩

theorem refNorm_any : ∀ (x : EV) (room : Nat) (left : Int) (n : Int) (p : Option Addr) (l c : Nat) (w : World), Is w x (TV n p l c) → rg x room left = true → left ≤ 1073741824 → Calls Try.prog 29 #[TV n p l c] w (Gives (norm x) w)
  | ⟨m, .inl _⟩, _, _, n, p, l, c, w, ⟨_, _, e⟩, _, _ => by
    simp at e
    obtain ⟨rfl, rfl, rfl, rfl⟩ := e
    exact refNorm_leaf n p c w
  | ⟨m, .inr (x, y)⟩, room, left, n, p, l, c, w, ⟨g, o, c', n0, p0, l0, c0, n1, p1, l1, c1, e, t0, t1, hx, hy⟩, hr, hl => by
    simp at e
    obtain ⟨rfl, rfl, rfl, rfl⟩ := e
    obtain ⟨b0, _, b1, b2⟩ := rg_kids hr
    have c1' := rg_n (rg_norm b1)
    have c2' := rg_n (rg_norm b2)
    exact refNorm_node (norm x) (norm y) n g o c n0 p0 l0 c0 n1 p1 l1 c1 w t0 t1 (show _ ∧ _ by omega) (fun w1 hb => refNorm_any x _ _ _ _ _ _ w1 (hx.later hb) b1 (by omega)) (fun w1 hb => refNorm_any y _ _ _ _ _ _ w1 (hy.later hb) b2 (by omega))
set_option maxHeartbeats 2000000 in
set_option maxRecDepth 100000 in
theorem refNorm_tr (t : Tr) (n : Int) (p : Option Addr) (l c : Nat) (w : World) (h : Lies w t (TV n p l c)) :
    Calls Try.prog 12 #[TV n p l c] w (GivesE (nrmX t) (nrmE t) w) := by
  obtain ⟨h1, h2, hbel⟩ := two_box w n p l c 0 none 0 0 _ rfl
  have r0 := fun w1 (hb : Below w.heap.size w w1) => refRough_any t 16 1073741824 n p l c w1 (h.later hb) (by omega) (by omega) (by omega)
  have r1 := fun w1 (hb : Below w.heap.size w w1) (hr : rough t 16 1073741824 = true) => refNorm_any (evOf t) 16 1073741824 n p l c w1 ((is_of_lies t 16 1073741824 _ hr h).1.later hb) (is_of_lies t 16 1073741824 _ hr h).2 (by omega)
  unfold nrmX nrmE
  generalize rough t 16 1073741824 = b at r0 r1 ⊢
  clear h
  cases b
  · simp only [Bool.false_eq_true, if_false]
    go_enter Try.func12, Try.ntmps12
    go_wp2_with (refine load_t _ rfl rfl _ _ rfl h1.tat ?_)
    refine (r0 _ hbel).mono ?_
    rintro e w1 ⟨rfl, hb1⟩
    replace h2 := h2.later hb1
    have R := below_setRow (below_on hbel hb1) (g := w.heap.size + 1) (by omega) #[.int .i64 0, .slice none 0 0]
    clear hbel hb1 h1 r0 r1
    go_wp2_with (refine store_t rfl _ _ rfl _ 0 none 0 0 rfl rfl h2 ?_)
    exact bodyPost_ret (results_te rfl rfl (h2.row _ _ _ _)) rfl ⟨_, _, _, _, rfl, is_leaf _ 0 _ _, R⟩
  · simp only [if_true]
    go_enter Try.func12, Try.ntmps12
    go_wp2_with (refine load_t _ rfl rfl _ _ rfl h1.tat ?_)
    refine (r0 _ hbel).mono ?_
    rintro e w1 ⟨rfl, hb1⟩
    replace h1 := h1.later hb1
    replace h2 := h2.later hb1
    replace hbel := below_on hbel hb1
    clear hb1
    go_wp2_with (refine load_t _ rfl rfl _ _ rfl h1.tat ?_)
    refine (r1 _ hbel trivial).mono ?_
    rintro e w2 ⟨n', p', l', c', rfl, hi, hb1⟩
    replace h2 := h2.later hb1
    have R := below_setRow (below_on hbel hb1) (g := w.heap.size + 1) (by omega) #[.int .i64 n', .slice p' l' c']
    clear hbel hb1 h1 r0 r1
    go_wp2_with (refine store_t rfl _ _ rfl _ n' p' l' c' rfl rfl h2 ?_)
    exact bodyPost_ret (results_te rfl rfl (h2.row _ _ _ _)) rfl ⟨_, _, _, _, rfl, hi.box h2 _, R⟩

end Go.Proofs.Ytlfbabepbajcjaa
