/- The functions shorten and Norm of package events. -/
import Derived.Test.YtlfbabepbajcjaaRough
namespace Go.Proofs.Ytlfbabepbajcjaa
open Go.RowKit

set_option maxHeartbeats 2000000 in
set_option maxRecDepth 100000 in
theorem shorten_leaf (n : Int) (p : Option Addr) (c : Nat) (w : World) : Calls Try.prog 26 #[TV n p 0 c] w (Gives (.leaf n) w) := by
  obtain ⟨h1, h2, hbel⟩ := two_box w n p 0 c 0 none 0 0 _ rfl
  go_enter Try.func26, Try.ntmps26
  go_wp2_with (refine load_t _ rfl rfl _ _ rfl h1.tat ?_)
  refine (isLeaf_any _ p 0 c _).mono ?_
  rintro e w1 ⟨rfl, hb1⟩
  replace h1 := (h1.later hb1).cell0
  replace h2 := h2.later hb1
  replace hbel := below_on hbel hb1
  clear hb1
  go_wp2_with fail
  refine (leaf_any _ _).mono ?_
  rintro e w2 ⟨rfl, hb1⟩
  replace h2 := h2.later hb1
  replace hbel := below_on hbel hb1
  clear hb1 h1
  have R := below_setRow hbel (g := w.heap.size + 1) (by omega) #[.int .i64 n, .slice none 0 0]
  go_wp2_with (refine store_t rfl _ _ rfl _ n none 0 0 rfl rfl h2 ?_)
  exact bodyPost_ret (results_t rfl rfl (h2.row _ _ _ _)) rfl ⟨_, _, _, _, rfl, is_leaf _ _ _ _, R⟩

set_option maxHeartbeats 4000000 in
set_option maxRecDepth 100000 in
theorem shorten_node (x' y' : EV) (n : Int) (g o c : Nat) (n0 : Int) (p0 : Option Addr) (l0 c0 : Nat) (n1 : Int) (p1 : Option Addr) (l1 c1 : Nat) (w : World) (t0 : Tat w g o n0 p0 l0 c0) (t1 : Tat w g (o + 2) n1 p1 l1 c1)
    (bx : 0 ≤ x'.n ∧ x'.n ≤ 1073741824) (by_ : 0 ≤ y'.n ∧ y'.n ≤ 1073741824) (bn : 0 ≤ n ∧ n ≤ 1073741824)
    (r0 : ∀ w1, Below w.heap.size w w1 → Calls Try.prog 26 #[TV n0 p0 l0 c0] w1 (Gives x' w1)) (r1 : ∀ w1, Below w.heap.size w w1 → Calls Try.prog 26 #[TV n1 p1 l1 c1] w1 (Gives y' w1)) :
    Calls Try.prog 26 #[TV n (some ⟨g, o, none⟩) 2 c] w (Gives (lift (mk x' y') n) w) := by
  obtain ⟨h1, h2, hbel⟩ := two_box w n (some ⟨g, o, none⟩) 2 c 0 none 0 0 _ rfl
  have HB : Hid ((0 ≤ x'.n ∧ x'.n ≤ 1073741824) ∧ (0 ≤ y'.n ∧ y'.n ≤ 1073741824) ∧ (-9223372036854775808 ≤ (mk x' y').n + n) ∧ ((mk x' y').n + n ≤ 9223372036854775807)) := by
    show _ ∧ _
    rw [mk_n]
    omega
  obtain ⟨z, HZ⟩ : ∃ z, Hid (lift (mk x' y') n = z) := ⟨_, rfl⟩
  rw [HZ.out]
  clear bx by_ bn
  go_enter Try.func26, Try.ntmps26
  go_wp2_with (refine load_t _ rfl rfl _ _ rfl h1.tat ?_)
  refine (isLeaf_any _ _ 2 c _).mono ?_
  rintro e w1 ⟨rfl, hb1⟩
  replace h1 := h1.later hb1
  replace h2 := h2.later hb1
  replace hbel := below_on hbel hb1
  clear hb1
  have g0 := h1.cell0
  go_wp2_with fail
  refine (lifter_any _ _).mono ?_
  rintro e w2 ⟨b, rfl, hby, hb1⟩
  replace h1 := h1.later hb1
  replace h2 := h2.later hb1
  replace hbel := below_on hbel hb1
  clear hb1 g0
  go_wp2_with fail
  have hS : Calm.Stays (fun w' => Bx w' (w.heap.size) n (some ⟨g, o, none⟩) 2 c ∧ (∃ n p l c, Bx w' (w.heap.size + 1) n p l c) ∧ By w' b n ∧ Below w.heap.size w w') := fun wa wb h hb => ⟨h.1.later hb, (by obtain ⟨n, p, l, c, h2⟩ := h.2.1; exact ⟨n, p, l, c, h2.later hb⟩), h.2.2.1.later hb, below_on h.2.2.2 hb⟩
  have hF : Facts.Stay [eqF 0 (LF b), eqF 1 (.pointer (some ⟨w.heap.size, 1, none⟩)), eqF 2 (.slice (some ⟨g, o, none⟩) 2 c), eqF 3 (.pointer (some ⟨g, o, none⟩)), eqF 4 (TV n0 p0 l0 c0), isF 5 x', eqF 6 (.pointer (some ⟨w.heap.size, 1, none⟩)), eqF 7 (.slice (some ⟨g, o, none⟩) 2 c), eqF 8 (.pointer (some ⟨g, o + 2, none⟩)), eqF 9 (TV n1 p1 l1 c1), isF 10 y', isF 11 (mk x' y'), isF 12 z, bxF 12 (w.heap.size + 1) z] := stay_of (by simp only [List.forall_mem_cons]; exact ⟨eqF_stays _ _, eqF_stays _ _, eqF_stays _ _, eqF_stays _ _, eqF_stays _ _, isF_stays _ _, eqF_stays _ _, eqF_stays _ _, eqF_stays _ _, eqF_stays _ _, isF_stays _ _, isF_stays _ _, isF_stays _ _, bxF_stays _ _ _, fun _ h => by cases h⟩)
  refine Facts.region (by kernel_rfl) (by kernel_rfl) (fun w' => Bx w' (w.heap.size) n (some ⟨g, o, none⟩) 2 c ∧ (∃ n p l c, Bx w' (w.heap.size + 1) n p l c) ∧ By w' b n ∧ Below w.heap.size w w') (fun x => { tmps := #[TV n (some ⟨g, o, none⟩) 2 c, .pointer (some ⟨w.heap.size, 0, none⟩), .pointer (some ⟨w.heap.size + 1, 0, none⟩), LF b, TV n (some ⟨g, o, none⟩) 2 c, .bool false, undef, undef, undef, .pointer (some ⟨w.heap.size, 0, none⟩), .int .i64 n, LF b, x 0, x 1, x 2, x 3, x 4, x 5, x 6, x 7, x 8, x 9, x 10, x 11, x 12], defers := [] }) [eqF 0 (LF b), eqF 1 (.pointer (some ⟨w.heap.size, 1, none⟩)), eqF 2 (.slice (some ⟨g, o, none⟩) 2 c), eqF 3 (.pointer (some ⟨g, o, none⟩)), eqF 4 (TV n0 p0 l0 c0), isF 5 x', eqF 6 (.pointer (some ⟨w.heap.size, 1, none⟩)), eqF 7 (.slice (some ⟨g, o, none⟩) 2 c), eqF 8 (.pointer (some ⟨g, o + 2, none⟩)), eqF 9 (TV n1 p1 l1 c1), isF 10 y', isF 11 (mk x' y'), isF 12 z, bxF 12 (w.heap.size + 1) z] _ rfl (by kernel_rfl) (fun _ => undef) rfl (⟨h1, ⟨_, _, _, _, h2⟩, hby.later (Below.refl _ _).drew, hbel.drew⟩) ⟨?_, ?_, ?_, ?_, ?_, ?_, ?_, ?_, ?_, ?_, ?_, ?_, ?_, ?_, trivial⟩ ?_
  · exact Facts.pure hS hF (fun _ _ => rfl) rfl (fun x wv hSw hd => by
      go_simp)
  · exact Facts.pure hS hF (fun _ _ => rfl) rfl (fun x wv hSw hd => by
      go_simp)
  · exact Facts.pure hS hF (fun _ _ => rfl) rfl (fun x wv hSw hd => by
      have d1 := eqF_get (hd ⟨1, .data⟩ (by simp) rfl _ rfl)
      have g1 := hSw.1.cell1
      simp only [d1]
      go_simp)
  · exact Facts.pure hS hF (fun _ _ => rfl) rfl (fun x wv hSw hd => by
      have d2 := eqF_get (hd ⟨2, .data⟩ (by simp) rfl _ rfl)
      simp only [d2]
      go_simp)
  · exact Facts.loadT hS hF (fun _ _ => rfl) _ rfl rfl (fun x wv hSw hd => by have d3 := eqF_get (hd ⟨3, .data⟩ (by simp) rfl _ rfl); exact d3) (fun wv hSw => t0.later hSw.2.2.2)
  · refine Facts.call1T hS hF (fun _ _ => rfl) rfl (by kernel_rfl) rfl (fun x wv hSw hd => ?_)
    have d4 := eqF_get (hd ⟨4, .data⟩ (by simp) rfl _ rfl)
    have hc := r0 _ hSw.2.2.2
    rw [← d4] at hc
    exact hc
  · exact Facts.pure hS hF (fun _ _ => rfl) rfl (fun x wv hSw hd => by
      go_simp)
  · exact Facts.pure hS hF (fun _ _ => rfl) rfl (fun x wv hSw hd => by
      have d6 := eqF_get (hd ⟨6, .data⟩ (by simp) rfl _ rfl)
      have g1 := hSw.1.cell1
      simp only [d6]
      go_simp)
  · exact Facts.pure hS hF (fun _ _ => rfl) rfl (fun x wv hSw hd => by
      have d7 := eqF_get (hd ⟨7, .data⟩ (by simp) rfl _ rfl)
      simp only [d7]
      go_simp)
  · exact Facts.loadT hS hF (fun _ _ => rfl) _ rfl rfl (fun x wv hSw hd => by have d8 := eqF_get (hd ⟨8, .data⟩ (by simp) rfl _ rfl); exact d8) (fun wv hSw => t1.later hSw.2.2.2)
  · refine Facts.call1T hS hF (fun _ _ => rfl) rfl (by kernel_rfl) rfl (fun x wv hSw hd => ?_)
    have d9 := eqF_get (hd ⟨9, .data⟩ (by simp) rfl _ rfl)
    have hc := r1 _ hSw.2.2.2
    rw [← d9] at hc
    exact hc
  · refine Facts.call2T hS hF (fun _ _ => rfl) rfl (by kernel_rfl) rfl (fun x wv hSw hd => ?_)
    obtain ⟨n5i, p5i, l5i, c5i, d5, e5⟩ := isF_get (hd ⟨5, .data⟩ (by simp) rfl _ rfl)
    obtain ⟨n10i, p10i, l10i, c10i, d10, e10⟩ := isF_get (hd ⟨10, .data⟩ (by simp) rfl _ rfl)
    have hc := pair_any x' y' _ _ _ _ _ _ _ _ _ e5 e10 HB.out.1 HB.out.2.1
    rw [← d5, ← d10] at hc
    exact hc
  · refine Facts.callC (b := b) hS hF (fun _ _ => rfl) rfl rfl (fun x wv hSw hd => ?_)
    have d0 := eqF_get (hd ⟨0, .data⟩ (by simp) rfl _ rfl)
    obtain ⟨n11i, p11i, l11i, c11i, d11, e11⟩ := isF_get (hd ⟨11, .data⟩ (by simp) rfl _ rfl)
    refine ⟨d0, ?_⟩
    have hc := lifted_is n11i p11i l11i c11i b n wv e11 hSw.2.2.1 HB.out.2.2.1 HB.out.2.2.2
    rw [← d11, HZ.out] at hc
    exact hc
  · exact Facts.storeT (fun _ _ => rfl) _ _ rfl (by decide) rfl (fun _ => rfl) (fun _ => rfl) (fun x wv hSw hd => isF_get (hd ⟨12, .data⟩ (by simp) rfl _ rfl)) (fun wv hSw => ⟨hSw.2.1, fun n p l c => (by obtain ⟨s1, ⟨_, _, _, _, s2⟩, s3, s4⟩ := hSw; exact ⟨s1.rowOther (by omega) _, ⟨_, _, _, _, s2.row n p l c⟩, s3.box s2 _, below_setRow s4 (by omega) _⟩)⟩) (fun j f hj hfj => by
      match j with
      | 0 => obtain rfl := Option.some.inj hfj; exact eqF_box _ _ _
      | 1 => obtain rfl := Option.some.inj hfj; exact eqF_box _ _ _
      | 2 => obtain rfl := Option.some.inj hfj; exact eqF_box _ _ _
      | 3 => obtain rfl := Option.some.inj hfj; exact eqF_box _ _ _
      | 4 => obtain rfl := Option.some.inj hfj; exact eqF_box _ _ _
      | 5 => obtain rfl := Option.some.inj hfj; exact isF_box _ _ _
      | 6 => obtain rfl := Option.some.inj hfj; exact eqF_box _ _ _
      | 7 => obtain rfl := Option.some.inj hfj; exact eqF_box _ _ _
      | 8 => obtain rfl := Option.some.inj hfj; exact eqF_box _ _ _
      | 9 => obtain rfl := Option.some.inj hfj; exact eqF_box _ _ _
      | 10 => obtain rfl := Option.some.inj hfj; exact isF_box _ _ _
      | 11 => obtain rfl := Option.some.inj hfj; exact isF_box _ _ _
      | 12 => obtain rfl := Option.some.inj hfj; exact isF_box _ _ _
      | 13 => exact absurd rfl hj
      | j + 14 => simp at hfj)
  · rintro xv w9 ⟨_, _, _, hbel9⟩ hf
    obtain ⟨n, p, l, c, _, hbx, hi⟩ := bxF_get (hf 13 _ (by decide) rfl)
    clear hf hS hF
    go_wp2
    exact bodyPost_ret (results_t rfl rfl hbx) rfl ⟨_, _, _, _, rfl, hi, hbel9⟩

theorem shorten_any : ∀ (x : EV) (room : Nat) (left : Int) (n : Int) (p : Option Addr) (l c : Nat) (w : World), Is w x (TV n p l c) → rg x room left = true → left ≤ 1073741824 → Calls Try.prog 26 #[TV n p l c] w (Gives (norm x) w)
  | ⟨m, .inl _⟩, _, _, n, p, l, c, w, ⟨_, _, e⟩, _, _ => by
    simp at e
    obtain ⟨rfl, rfl, rfl, rfl⟩ := e
    exact shorten_leaf n p c w
  | ⟨m, .inr (x, y)⟩, room, left, n, p, l, c, w, ⟨g, o, c', n0, p0, l0, c0, n1, p1, l1, c1, e, t0, t1, hx, hy⟩, hr, hl => by
    simp at e
    obtain ⟨rfl, rfl, rfl, rfl⟩ := e
    obtain ⟨b0, _, b1, b2⟩ := rg_kids hr
    have c1' := rg_n (rg_norm b1)
    have c2' := rg_n (rg_norm b2)
    exact shorten_node (norm x) (norm y) n g o c n0 p0 l0 c0 n1 p1 l1 c1 w t0 t1 (by omega) (by omega) (by omega) (fun w1 hb => shorten_any x _ _ _ _ _ _ w1 (hx.later hb) b1 (by omega)) (fun w1 hb => shorten_any y _ _ _ _ _ _ w1 (hy.later hb) b2 (by omega))

/-- What Norm answers. -/
def nrmX (t : Tr) : EV := if rough t 16 1073741824 then norm (evOf t) else .leaf 0
def nrmE (t : Tr) : Int := if rough t 16 1073741824 then 0 else 3
set_option maxHeartbeats 2000000 in
set_option maxRecDepth 100000 in
theorem norm_tr (t : Tr) (n : Int) (p : Option Addr) (l c : Nat) (w : World) (h : Lies w t (TV n p l c)) :
    Calls Try.prog 9 #[TV n p l c] w (GivesE (nrmX t) (nrmE t) w) := by
  obtain ⟨h1, h2, hbel⟩ := two_box w n p l c 0 none 0 0 _ rfl
  have r0 := fun w1 (hb : Below w.heap.size w w1) => isRough_any t 16 1073741824 n p l c w1 (h.later hb) (by omega) (by omega) (by omega)
  have r1 := fun w1 (hb : Below w.heap.size w w1) (hr : rough t 16 1073741824 = true) => shorten_any (evOf t) 16 1073741824 n p l c w1 ((is_of_lies t 16 1073741824 _ hr h).1.later hb) (is_of_lies t 16 1073741824 _ hr h).2 (by omega)
  unfold nrmX nrmE
  generalize rough t 16 1073741824 = b at r0 r1 ⊢
  clear h
  cases b
  · simp only [Bool.false_eq_true, if_false]
    go_enter Try.func9, Try.ntmps9
    go_wp2_with (refine load_t _ rfl rfl _ _ rfl h1.tat ?_)
    refine (r0 _ hbel).mono ?_
    rintro e w1 ⟨rfl, hb1⟩
    replace h2 := h2.later hb1
    have R := below_setRow (below_on hbel hb1) (g := w.heap.size + 1) (by omega) #[.int .i64 0, .slice none 0 0]
    clear hbel hb1 h1 r0 r1
    go_wp2_with (refine store_t rfl _ _ rfl _ 0 none 0 0 rfl rfl h2 ?_)
    exact bodyPost_ret (results_te rfl rfl (h2.row _ _ _ _)) rfl ⟨_, _, _, _, rfl, is_leaf _ 0 _ _, R⟩
  · simp only [if_true]
    go_enter Try.func9, Try.ntmps9
    go_wp2_with (refine load_t _ rfl rfl _ _ rfl h1.tat ?_)
    refine (r0 _ hbel).mono ?_
    rintro e w1 ⟨rfl, hb1⟩
    replace h1 := h1.later hb1
    replace h2 := h2.later hb1
    replace hbel := below_on hbel hb1
    clear hb1
    go_wp2_with (refine load_t _ rfl rfl _ _ rfl h1.tat ?_)
    refine (r1 _ hbel trivial).mono ?_
    rintro e w2 ⟨n', p', l', c', rfl, hi, hb1⟩
    replace h2 := h2.later hb1
    have R := below_setRow (below_on hbel hb1) (g := w.heap.size + 1) (by omega) #[.int .i64 n', .slice p' l' c']
    clear hbel hb1 h1 r0 r1
    go_wp2_with (refine store_t rfl _ _ rfl _ n' p' l' c' rfl rfl h2 ?_)
    exact bodyPost_ret (results_te rfl rfl (h2.row _ _ _ _)) rfl ⟨_, _, _, _, rfl, hi.box h2 _, R⟩

theorem norm_any (x : EV) (n : Int) (p : Option Addr) (l c : Nat) (w : World) (h : Is w x (TV n p l c)) (hd : rg x 16 1073741824 = true) : Calls Try.prog 9 #[TV n p l c] w (GivesE (norm x) 0 w) := by
  have := norm_tr (toTr x) n p l c w (lies_is x 16 1073741824 _ hd (by omega) h)
  rw [nrmX, nrmE, rough_to, evOf_to] at this
  simpa [hd] using this
theorem check_any (x : EV) (n : Int) (p : Option Addr) (l c : Nat) (w : World) (h : Is w x (TV n p l c)) (hd : rg x 16 1073741824 = true) : Calls Try.prog 10 #[TV n p l c] w (Tells (.bool (short x)) w) := by
  have := check_tr (toTr x) n p l c w (lies_is x 16 1073741824 _ hd (by omega) h)
  rwa [okT_to, ok, hd, Bool.true_and] at this
end Go.Proofs.Ytlfbabepbajcjaa
