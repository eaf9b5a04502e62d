import Derived.Test.YtmcajjdijjcpkaaP21
import Derived.Test.YtmcajjdijjcpkaaP5
import Derived.Test.YtmcajjdijjcpkaaP3
import Derived.Test.YtmcajjdijjcpkaaP8
/- The functions norm, Check and Norm of the document's answer. -/
namespace Go.Proofs.Ytmcajjdijjcpkaa
open Go.RowKit

set_option maxHeartbeats 2000000 in
set_option maxRecDepth 100000 in
theorem refNorm_leaf (n : Int) (p : Option Addr) (c : Nat) (w : World) : Calls Try.prog 60 #[TV n p 0 c] w (Gives (.leaf n) w) := by
  obtain ⟨h1, h2, hbel⟩ := two_box w n p 0 c 0 none 0 0 _ rfl
  have g0 := h1.cell0
  have g1 := h1.cell1
  go_enter Try.func60, Try.ntmps60
  go_wp2_with fail
  refine (refLeaf_any _ _).mono ?_
  rintro e w2 ⟨rfl, hb1⟩
  replace h2 := h2.later hb1
  replace hbel := below_on hbel hb1
  clear hb1 h1 g0 g1
  have R := below_setRow hbel (g := w.heap.size + 1) (by omega) #[.int .i64 n, .slice none 0 0]
  go_wp2_with (refine store_t rfl _ _ rfl _ n none 0 0 rfl rfl h2 ?_)
  exact bodyPost_ret (results_t rfl rfl (h2.row _ _ _ _)) rfl ⟨_, _, _, _, rfl, is_leaf _ _ _ _, R⟩

set_option maxHeartbeats 4000000 in
set_option maxRecDepth 100000 in
theorem refNorm_node (x' y' : EV) (n : Int) (g o c : Nat) (n0 : Int) (p0 : Option Addr) (l0 c0 : Nat) (n1 : Int) (p1 : Option Addr) (l1 c1 : Nat) (w : World) (t0 : Tat w g o n0 p0 l0 c0) (t1 : Tat w g (o + 2) n1 p1 l1 c1)
    (HB : Hid ((0 ≤ x'.n ∧ x'.n ≤ 1073741824) ∧ (0 ≤ y'.n ∧ y'.n ≤ 1073741824) ∧ (0 ≤ n ∧ n ≤ 1073741824)))
    (r0 : ∀ w1, Below w.heap.size w w1 → Calls Try.prog 60 #[TV n0 p0 l0 c0] w1 (Gives x' w1)) (r1 : ∀ w1, Below w.heap.size w w1 → Calls Try.prog 60 #[TV n1 p1 l1 c1] w1 (Gives y' w1)) :
    Calls Try.prog 60 #[TV n (some ⟨g, o, none⟩) 2 c] w (Gives (lift (mk x' y') n) w) := by
  obtain ⟨h1, h2, hbel⟩ := two_box w n (some ⟨g, o, none⟩) 2 c 0 none 0 0 _ rfl
  obtain ⟨z, HZ⟩ : ∃ z, Hid (lift (mk x' y') n = z) := ⟨_, rfl⟩
  rw [HZ.out]
  have g1 := h1.cell1
  go_enter Try.func60, Try.ntmps60
  go_wp2_with fail
  clear g1
  have hS : Calm.Stays (fun w' => Bx w' (w.heap.size) n (some ⟨g, o, none⟩) 2 c ∧ (∃ n p l c, Bx w' (w.heap.size + 1) n p l c) ∧ Below w.heap.size w w') := fun wa wb h hb => ⟨h.1.later hb, (by obtain ⟨n, p, l, c, h2⟩ := h.2.1; exact ⟨n, p, l, c, h2.later hb⟩), below_on h.2.2 hb⟩
  have hF : Facts.Stay [eqF 0 (.pointer (some ⟨w.heap.size, 0, none⟩)), eqF 1 (.int .i64 n), eqF 2 (.pointer (some ⟨w.heap.size, 1, none⟩)), eqF 3 (.slice (some ⟨g, o, none⟩) 2 c), eqF 4 (.pointer (some ⟨g, o, none⟩)), eqF 5 (TV n0 p0 l0 c0), isF 6 x', eqF 7 (.pointer (some ⟨w.heap.size, 1, none⟩)), eqF 8 (.slice (some ⟨g, o, none⟩) 2 c), eqF 9 (.pointer (some ⟨g, o + 2, none⟩)), eqF 10 (TV n1 p1 l1 c1), isF 11 y', isF 12 z, bxF 12 (w.heap.size + 1) z] := stay_of (by simp only [List.forall_mem_cons]; exact ⟨eqF_stays _ _, eqF_stays _ _, eqF_stays _ _, eqF_stays _ _, eqF_stays _ _, eqF_stays _ _, isF_stays _ _, eqF_stays _ _, eqF_stays _ _, eqF_stays _ _, eqF_stays _ _, isF_stays _ _, isF_stays _ _, bxF_stays _ _ _, fun _ h => by cases h⟩)
  refine Facts.region (by kernel_rfl) (by kernel_rfl) (fun w' => Bx w' (w.heap.size) n (some ⟨g, o, none⟩) 2 c ∧ (∃ n p l c, Bx w' (w.heap.size + 1) n p l c) ∧ Below w.heap.size w w') (fun x => { tmps := #[TV n (some ⟨g, o, none⟩) 2 c, .pointer (some ⟨w.heap.size, 0, none⟩), .pointer (some ⟨w.heap.size + 1, 0, none⟩), .pointer (some ⟨w.heap.size, 1, none⟩), .slice (some ⟨g, o, none⟩) 2 c, .int .i64 2, .bool false, undef, undef, undef, x 0, x 1, x 2, x 3, x 4, x 5, x 6, x 7, x 8, x 9, x 10, x 11, x 12], defers := [] }) [eqF 0 (.pointer (some ⟨w.heap.size, 0, none⟩)), eqF 1 (.int .i64 n), eqF 2 (.pointer (some ⟨w.heap.size, 1, none⟩)), eqF 3 (.slice (some ⟨g, o, none⟩) 2 c), eqF 4 (.pointer (some ⟨g, o, none⟩)), eqF 5 (TV n0 p0 l0 c0), isF 6 x', eqF 7 (.pointer (some ⟨w.heap.size, 1, none⟩)), eqF 8 (.slice (some ⟨g, o, none⟩) 2 c), eqF 9 (.pointer (some ⟨g, o + 2, none⟩)), eqF 10 (TV n1 p1 l1 c1), isF 11 y', isF 12 z, bxF 12 (w.heap.size + 1) z] _ rfl (by kernel_rfl) (fun _ => undef) rfl (⟨h1, ⟨_, _, _, _, h2⟩, hbel.drew⟩) ⟨?_, ?_, ?_, ?_, ?_, ?_, ?_, ?_, ?_, ?_, ?_, ?_, ?_, ?_, trivial⟩ ?_
  · exact Facts.pure hS hF (fun _ _ => rfl) rfl (fun x wv hSw hd => by
      go_simp)
  · exact Facts.pure hS hF (fun _ _ => rfl) rfl (fun x wv hSw hd => by
      have d0 := eqF_get (hd ⟨0, .data⟩ (by simp) rfl _ rfl)
      have g0 := hSw.1.cell0
      have g1 := hSw.1.cell1
      simp only [d0]
      go_simp)
  · exact Facts.pure hS hF (fun _ _ => rfl) rfl (fun x wv hSw hd => by
      go_simp)
  · exact Facts.pure hS hF (fun _ _ => rfl) rfl (fun x wv hSw hd => by
      have d2 := eqF_get (hd ⟨2, .data⟩ (by simp) rfl _ rfl)
      have g0 := hSw.1.cell0
      have g1 := hSw.1.cell1
      simp only [d2]
      go_simp)
  · exact Facts.pure hS hF (fun _ _ => rfl) rfl (fun x wv hSw hd => by
      have d3 := eqF_get (hd ⟨3, .data⟩ (by simp) rfl _ rfl)
      simp only [d3]
      go_simp)
  · exact Facts.loadT hS hF (fun _ _ => rfl) _ rfl rfl (fun x wv hSw hd => by have d4 := eqF_get (hd ⟨4, .data⟩ (by simp) rfl _ rfl); exact d4) (fun wv hSw => t0.later hSw.2.2)
  · refine Facts.call1T hS hF (fun _ _ => rfl) rfl (by kernel_rfl) rfl (fun x wv hSw hd => ?_)
    have d5 := eqF_get (hd ⟨5, .data⟩ (by simp) rfl _ rfl)
    have hc := r0 _ hSw.2.2
    rw [← d5] at hc
    exact hc
  · exact Facts.pure hS hF (fun _ _ => rfl) rfl (fun x wv hSw hd => by
      go_simp)
  · exact Facts.pure hS hF (fun _ _ => rfl) rfl (fun x wv hSw hd => by
      have d7 := eqF_get (hd ⟨7, .data⟩ (by simp) rfl _ rfl)
      have g0 := hSw.1.cell0
      have g1 := hSw.1.cell1
      simp only [d7]
      go_simp)
  · exact Facts.pure hS hF (fun _ _ => rfl) rfl (fun x wv hSw hd => by
      have d8 := eqF_get (hd ⟨8, .data⟩ (by simp) rfl _ rfl)
      simp only [d8]
      go_simp)
  · exact Facts.loadT hS hF (fun _ _ => rfl) _ rfl rfl (fun x wv hSw hd => by have d9 := eqF_get (hd ⟨9, .data⟩ (by simp) rfl _ rfl); exact d9) (fun wv hSw => t1.later hSw.2.2)
  · refine Facts.call1T hS hF (fun _ _ => rfl) rfl (by kernel_rfl) rfl (fun x wv hSw hd => ?_)
    have d10 := eqF_get (hd ⟨10, .data⟩ (by simp) rfl _ rfl)
    have hc := r1 _ hSw.2.2
    rw [← d10] at hc
    exact hc
  · refine Facts.call3T hS hF (fun _ _ => rfl) rfl (by kernel_rfl) rfl (fun x wv hSw hd => ?_)
    have d1 := eqF_get (hd ⟨1, .data⟩ (by simp) rfl _ rfl)
    obtain ⟨n6i, p6i, l6i, c6i, d6, e6⟩ := isF_get (hd ⟨6, .data⟩ (by simp) rfl _ rfl)
    obtain ⟨n11i, p11i, l11i, c11i, d11, e11⟩ := isF_get (hd ⟨11, .data⟩ (by simp) rfl _ rfl)
    have hc := refNode_any n x' y' _ _ _ _ _ _ _ _ _ e6 e11 HB.out.1 HB.out.2.1 HB.out.2.2
    rw [← d1, ← d6, ← d11, HZ.out] at hc
    exact hc
  · exact Facts.storeT (fun _ _ => rfl) _ _ rfl (by decide) rfl (fun _ => rfl) (fun _ => rfl) (fun x wv hSw hd => isF_get (hd ⟨12, .data⟩ (by simp) rfl _ rfl)) (fun wv hSw => ⟨hSw.2.1, fun n p l c => (by obtain ⟨s1, ⟨_, _, _, _, s2⟩, s4⟩ := hSw; exact ⟨s1.rowOther (by omega) _, ⟨_, _, _, _, s2.row n p l c⟩, below_setRow s4 (by omega) _⟩)⟩) (fun j f hj hfj => by
      match j with
      | 0 => obtain rfl := Option.some.inj hfj; exact eqF_box _ _ _
      | 1 => obtain rfl := Option.some.inj hfj; exact eqF_box _ _ _
      | 2 => obtain rfl := Option.some.inj hfj; exact eqF_box _ _ _
      | 3 => obtain rfl := Option.some.inj hfj; exact eqF_box _ _ _
      | 4 => obtain rfl := Option.some.inj hfj; exact eqF_box _ _ _
      | 5 => obtain rfl := Option.some.inj hfj; exact eqF_box _ _ _
      | 6 => obtain rfl := Option.some.inj hfj; exact isF_box _ _ _
      | 7 => obtain rfl := Option.some.inj hfj; exact eqF_box _ _ _
      | 8 => obtain rfl := Option.some.inj hfj; exact eqF_box _ _ _
      | 9 => obtain rfl := Option.some.inj hfj; exact eqF_box _ _ _
      | 10 => obtain rfl := Option.some.inj hfj; exact eqF_box _ _ _
      | 11 => obtain rfl := Option.some.inj hfj; exact isF_box _ _ _
      | 12 => obtain rfl := Option.some.inj hfj; exact isF_box _ _ _
      | 13 => exact absurd rfl hj
      | j + 14 => simp at hfj)
  · rintro xv w9 ⟨_, _, hbel9⟩ hf
    obtain ⟨n, p, l, c, _, hbx, hi⟩ := bxF_get (hf 13 _ (by decide) rfl)
    clear hf hS hF
    go_wp2
    exact bodyPost_ret (results_t rfl rfl hbx) rfl ⟨_, _, _, _, rfl, hi, hbel9⟩

theorem refNorm_any : ∀ (x : EV) (room : Nat) (left : Int) (n : Int) (p : Option Addr) (l c : Nat) (w : World), Is w x (TV n p l c) → rg x room left = true → left ≤ 1073741824 → Calls Try.prog 60 #[TV n p l c] w (Gives (norm x) w)
  | ⟨m, .inl _⟩, _, _, n, p, l, c, w, ⟨_, _, e⟩, _, _ => by
    simp at e
    obtain ⟨rfl, rfl, rfl, rfl⟩ := e
    exact refNorm_leaf n p c w
  | ⟨m, .inr (x, y)⟩, room, left, n, p, l, c, w, ⟨g, o, c', n0, p0, l0, c0, n1, p1, l1, c1, e, t0, t1, hx, hy⟩, hr, hl => by
    simp at e
    obtain ⟨rfl, rfl, rfl, rfl⟩ := e
    obtain ⟨b0, _, b1, b2⟩ := rg_kids hr
    have c1' := rg_n (rg_norm b1)
    have c2' := rg_n (rg_norm b2)
    exact refNorm_node (norm x) (norm y) n g o c n0 p0 l0 c0 n1 p1 l1 c1 w t0 t1 (show _ ∧ _ by omega) (fun w1 hb => refNorm_any x _ _ _ _ _ _ w1 (hx.later hb) b1 (by omega)) (fun w1 hb => refNorm_any y _ _ _ _ _ _ w1 (hy.later hb) b2 (by omega))
set_option maxHeartbeats 2000000 in
set_option maxRecDepth 100000 in
theorem refNorm_tr (t : Tr) (n : Int) (p : Option Addr) (l c : Nat) (w : World) (h : Lies w t (TV n p l c)) :
    Calls Try.prog 107 #[TV n p l c] w (GivesE (nrmX t) (nrmE t) w) := by
  obtain ⟨h1, h2, hbel⟩ := two_box w n p l c 0 none 0 0 _ rfl
  have r0 := fun w1 (hb : Below w.heap.size w w1) => refRough_any t 16 1073741824 n p l c w1 (h.later hb) (by omega) (by omega) (by omega)
  have r1 := fun w1 (hb : Below w.heap.size w w1) (hr : rough t 16 1073741824 = true) => refNorm_any (evOf t) 16 1073741824 n p l c w1 ((is_of_lies t 16 1073741824 _ hr h).1.later hb) (is_of_lies t 16 1073741824 _ hr h).2 (by omega)
  unfold nrmX nrmE
  generalize rough t 16 1073741824 = b at r0 r1 ⊢
  clear h
  cases b
  · simp only [Bool.false_eq_true, if_false]
    go_enter Try.func107, Try.ntmps107
    go_wp2_with (refine load_t _ rfl rfl _ _ rfl h1.tat ?_)
    refine (r0 _ hbel).mono ?_
    rintro e w1 ⟨rfl, hb1⟩
    replace h2 := h2.later hb1
    have R := below_setRow (below_on hbel hb1) (g := w.heap.size + 1) (by omega) #[.int .i64 0, .slice none 0 0]
    clear hbel hb1 h1 r0 r1
    go_wp2_with (refine store_t rfl _ _ rfl _ 0 none 0 0 rfl rfl h2 ?_)
    exact bodyPost_ret (results_te rfl rfl (h2.row _ _ _ _)) rfl ⟨_, _, _, _, rfl, is_leaf _ 0 _ _, R⟩
  · simp only [if_true]
    go_enter Try.func107, Try.ntmps107
    go_wp2_with (refine load_t _ rfl rfl _ _ rfl h1.tat ?_)
    refine (r0 _ hbel).mono ?_
    rintro e w1 ⟨rfl, hb1⟩
    replace h1 := h1.later hb1
    replace h2 := h2.later hb1
    replace hbel := below_on hbel hb1
    clear hb1
    go_wp2_with (refine load_t _ rfl rfl _ _ rfl h1.tat ?_)
    refine (r1 _ hbel trivial).mono ?_
    rintro e w2 ⟨n', p', l', c', rfl, hi, hb1⟩
    replace h2 := h2.later hb1
    have R := below_setRow (below_on hbel hb1) (g := w.heap.size + 1) (by omega) #[.int .i64 n', .slice p' l' c']
    clear hbel hb1 h1 r0 r1
    go_wp2_with (refine store_t rfl _ _ rfl _ n' p' l' c' rfl rfl h2 ?_)
    exact bodyPost_ret (results_te rfl rfl (h2.row _ _ _ _)) rfl ⟨_, _, _, _, rfl, hi.box h2 _, R⟩

end Go.Proofs.Ytmcajjdijjcpkaa
/- The function Check of the document's answer. -/
namespace Go.Proofs.Ytmcajjdijjcpkaa
open Go.RowKit

set_option maxHeartbeats 4000000 in
set_option maxRecDepth 100000 in
theorem refCheck_yes (x : EV) (b : Bool) (hb : eqb (norm x) x = b) (hg : rg x 16 1073741824 = true) (n : Int) (p : Option Addr) (l c : Nat) (w : World) (hi : Is w x (TV n p l c))
    (rR : ∀ w1, Below w.heap.size w w1 → Calls Try.prog 59 #[TV n p l c, .int .i64 16, .int .i64 1073741824] w1 (Tells (.bool true) w1)) :
    Calls Try.prog 31 #[TV n p l c] w (Tells (.bool b) w) := by
  obtain ⟨h1, hbel⟩ := one_box w n p l c _ rfl
  replace hi := hi.later hbel
  go_enter Try.func31, Try.ntmps31
  go_wp2_with fail
  have hS : Calm.Stays (fun w' => Bx w' w.heap.size n p l c ∧ Is w' x (TV n p l c) ∧ Below w.heap.size w w') := fun wa wb h hb => ⟨h.1.later hb, h.2.1.later hb, below_on h.2.2 hb⟩
  have hF : Facts.Stay [eqF 0 (TV n p l c), eqF 1 (.bool true), eqF 2 (.bool true), eqF 3 (TV n p l c), isF 4 (norm x), eqF 5 (TV n p l c), eqF 6 (.bool b), eqF 7 (.bool b), eqF 8 (.bool b)] := stay_of (by simp only [List.forall_mem_cons]; exact ⟨eqF_stays _ _, eqF_stays _ _, eqF_stays _ _, eqF_stays _ _, isF_stays _ _, eqF_stays _ _, eqF_stays _ _, eqF_stays _ _, eqF_stays _ _, fun _ h => by cases h⟩)
  refine FactsG.region (by kernel_rfl) (by kernel_rfl) (fun w' => Bx w' w.heap.size n p l c ∧ Is w' x (TV n p l c) ∧ Below w.heap.size w w') (fun x => { tmps := #[TV n p l c, .pointer (some ⟨w.heap.size, 0, none⟩), x 8, x 0, x 1, x 2, x 3, x 4, x 5, x 6, x 7], defers := [] }) [eqF 0 (TV n p l c), eqF 1 (.bool true), eqF 2 (.bool true), eqF 3 (TV n p l c), isF 4 (norm x), eqF 5 (TV n p l c), eqF 6 (.bool b), eqF 7 (.bool b), eqF 8 (.bool b)] (NotOne []) (notOne_symm _) _ rfl rfl (by kernel_rfl) (fun k => if k = 8 then .bool false else undef) rfl (⟨h1, hi.later (Below.refl _ _).drew, hbel.drew⟩) ⟨?_, ?_, ?_, ?_, ?_, ?_, ?_, ?_, ?_, trivial⟩ ?_
  · exact FactsG.of rfl (fun _ _ _ h => absurd h (by decide)) (fun _ _ _ _ => rfl) (Facts.loadT hS hF (fun _ _ => rfl) _ rfl rfl (fun x wv hSw hd => by rfl) (fun wv hSw => hSw.1.tat))
  · refine FactsG.of rfl (fun _ _ _ h => absurd h (by decide)) (fun _ _ _ _ => rfl) (Facts.call3V hS hF (fun _ _ => rfl) rfl (by kernel_rfl) rfl (fun x wv hSw hd => ?_))
    have d0 := eqF_get (hd ⟨0, .data⟩ (by simp) rfl _ rfl)
    have hc := rR _ hSw.2.2
    rw [← d0] at hc
    exact hc
  · exact FactsG.of rfl (fun _ _ _ h => absurd h (by decide)) (fun _ _ _ _ => rfl) (Facts.pure hS hF (fun _ _ => rfl) rfl (fun x wv hSw hd => by
      have d1 := eqF_get (hd ⟨1, .data⟩ (by simp) rfl _ rfl)
      simp only [d1]
      go_simp))
  · exact FactsG.of rfl (fun _ _ _ h => absurd h (by decide)) (fun x wv hSw hd => by have dg := eqF_get (hd ⟨2, .guard⟩ (by simp) rfl _ rfl); simp only [dg]; rfl) (Facts.loadT hS hF (fun _ _ => rfl) _ rfl rfl (fun x wv hSw hd => by rfl) (fun wv hSw => hSw.1.tat))
  · refine FactsG.of rfl (fun _ _ _ h => absurd h (by decide)) (fun x wv hSw hd => by have dg := eqF_get (hd ⟨2, .guard⟩ (by simp) rfl _ rfl); simp only [dg]; rfl) (Facts.call1T hS hF (fun _ _ => rfl) rfl (by kernel_rfl) rfl (fun x wv hSw hd => ?_))
    have d3 := eqF_get (hd ⟨3, .data⟩ (by simp) rfl _ rfl)
    have hc := refNorm_any _ 16 1073741824 n p l c wv hSw.2.1 hg (by omega)
    rw [← d3] at hc
    exact hc
  · exact FactsG.of rfl (fun _ _ _ h => absurd h (by decide)) (fun x wv hSw hd => by have dg := eqF_get (hd ⟨2, .guard⟩ (by simp) rfl _ rfl); simp only [dg]; rfl) (Facts.loadT hS hF (fun _ _ => rfl) _ rfl rfl (fun x wv hSw hd => by rfl) (fun wv hSw => hSw.1.tat))
  · refine FactsG.of rfl (fun _ _ _ h => absurd h (by decide)) (fun x wv hSw hd => by have dg := eqF_get (hd ⟨2, .guard⟩ (by simp) rfl _ rfl); simp only [dg]; rfl) (Facts.call2V hS hF (fun _ _ => rfl) rfl (by kernel_rfl) rfl (fun x wv hSw hd => ?_))
    obtain ⟨n4i, p4i, l4i, c4i, d4, e4⟩ := isF_get (hd ⟨4, .data⟩ (by simp) rfl _ rfl)
    have d5 := eqF_get (hd ⟨5, .data⟩ (by simp) rfl _ rfl)
    have hc := same_any _ _ n4i p4i l4i c4i n p l c wv e4 hSw.2.1
    rw [← d4, ← d5, hb] at hc
    exact hc
  · exact FactsG.of rfl (fun _ _ _ h => absurd h (by decide)) (fun _ _ _ _ => rfl) (Facts.pure hS hF (fun _ _ => rfl) rfl (fun x wv hSw hd => by
      have d2 := eqF_get (hd ⟨2, .data⟩ (by simp) rfl _ rfl)
      have d6 := eqF_get (hd ⟨6, .data⟩ (by simp) rfl _ rfl)
      simp only [d2, d6]
      go_simp))
  · exact FactsG.of rfl (fun _ _ _ h => absurd h (by decide)) (fun _ _ _ _ => rfl) (Facts.pure hS hF (fun _ _ => rfl) rfl (fun x wv hSw hd => by
      have d7 := eqF_get (hd ⟨7, .data⟩ (by simp) rfl _ rfl)
      simp only [d7]
      go_simp))
  rintro xa w5 ⟨_, _, hbel⟩ hf _
  have d8 := eqF_get (hf 8 _ (by decide) rfl)
  clear hf
  simp only [d8]
  go_wp2
  go_ret
  exact ⟨rfl, hbel⟩

set_option maxHeartbeats 4000000 in
set_option maxRecDepth 100000 in
theorem refCheck_no (n : Int) (p : Option Addr) (l c : Nat) (w : World)
    (rR : ∀ w1, Below w.heap.size w w1 → Calls Try.prog 59 #[TV n p l c, .int .i64 16, .int .i64 1073741824] w1 (Tells (.bool false) w1)) :
    Calls Try.prog 31 #[TV n p l c] w (Tells (.bool false) w) := by
  obtain ⟨h1, hbel⟩ := one_box w n p l c _ rfl
  go_enter Try.func31, Try.ntmps31
  go_wp2_with fail
  have hs : Calm.Stays (fun w' => Tat w' w.heap.size 0 n p l c ∧ Below w.heap.size w w') := fun wa wb h hb => ⟨h.1.later hb, below_on h.2 hb⟩
  refine Calm.region (by kernel_rfl) (by kernel_rfl) (fun w' => Tat w' w.heap.size 0 n p l c ∧ Below w.heap.size w w') ⟨h1.tat, hbel.drew⟩ ?_
  all_goals
    refine Calm.loadT (by rfl) _ rfl rfl (fun _ h => by go_split_ands; assumption) ?_
    simp only [Act.put, List.setIfInBounds_toArray, List.set_cons_zero, List.set_cons_succ]
  all_goals
    refine Calm.call3s (by rfl) rfl rfl rfl rfl (by kernel_rfl) hs (fun w1 h => rR w1 h.2) ?_
    simp only [Act.put, List.setIfInBounds_toArray, List.set_cons_zero, List.set_cons_succ]
  all_goals
    refine Calm.pure (v := ?_) (by rfl) ?_ ?_
    rotate_left
    focus (intro w hSw; go_simp <;> rfl)
    simp only [Act.put, List.setIfInBounds_toArray, List.set_cons_zero, List.set_cons_succ]
  all_goals
    (refine Calm.skip ?_ ?_; focus rfl)
    simp only [Act.put, List.setIfInBounds_toArray, List.set_cons_zero, List.set_cons_succ]
  all_goals
    (refine Calm.skip ?_ ?_; focus rfl)
    simp only [Act.put, List.setIfInBounds_toArray, List.set_cons_zero, List.set_cons_succ]
  all_goals
    (refine Calm.skip ?_ ?_; focus rfl)
    simp only [Act.put, List.setIfInBounds_toArray, List.set_cons_zero, List.set_cons_succ]
  all_goals
    (refine Calm.skip ?_ ?_; focus rfl)
    simp only [Act.put, List.setIfInBounds_toArray, List.set_cons_zero, List.set_cons_succ]
  all_goals
    refine Calm.pure (v := ?_) (by rfl) ?_ ?_
    rotate_left
    focus (intro w hSw; go_simp <;> rfl)
    simp only [Act.put, List.setIfInBounds_toArray, List.set_cons_zero, List.set_cons_succ]
  all_goals
    refine Calm.pure (v := ?_) (by rfl) ?_ ?_
    rotate_left
    focus (intro w hSw; go_simp <;> rfl)
    simp only [Act.put, List.setIfInBounds_toArray, List.set_cons_zero, List.set_cons_succ]
  all_goals
    rintro w9 ⟨_, hbel9⟩
    go_wp2
    go_ret
    exact ⟨rfl, hbel9⟩

theorem refCheck_tr (t : Tr) (n : Int) (p : Option Addr) (l c : Nat) (w : World) (ht : Lies w t (TV n p l c)) : Calls Try.prog 31 #[TV n p l c] w (Tells (.bool (okT t)) w) := by
  have rR := fun w1 (hb : Below w.heap.size w w1) => refRough_any t 16 1073741824 n p l c w1 (ht.later hb) (by omega) (by omega) (by omega)
  unfold okT
  cases hr : rough t 16 1073741824
  · rw [hr] at rR
    exact refCheck_no n p l c w rR
  · rw [hr] at rR
    exact refCheck_yes (evOf t) _ (norm_eq _) (is_of_lies t 16 1073741824 _ hr ht).2 n p l c w (is_of_lies t 16 1073741824 _ hr ht).1 rR
end Go.Proofs.Ytmcajjdijjcpkaa
/- Facts of operations that load, store and answer trees, in a region that draws its order, guarded or not, with several new boxes. -/
namespace Go.Proofs.Ytmcajjdijjcpkaa.Idn
open Go.RowKit

/-- New boxes (the operations of al) are not one. -/
def NotOne (al : List Nat) (i j : Nat) (u v : Value) : Prop := i ∈ al → j ∈ al → u ≠ v
theorem notOne_symm (al : List Nat) : ∀ i j u v, NotOne al i j u v → NotOne al j i v u := fun _ _ _ _ h hj hi => (h hi hj).symm

section
variable {Q : Exit → Act → World → Prop} {S : World → Prop} {md : Region.Mode} {A : (Nat → Value) → Act} {F : List Facts.Fact} {i : Nat} {o : Oper} {l : List Oper} {al : List Nat}
/-- A function answers a value that is known. -/
theorem Facts.call1V (hS : Calm.Stays S) (hF : Facts.Stay F) (hA : ∀ x u, (A x).put o.dst u = A (Facts.put x i u)) {fn : FuncId} {ts : Array TypeId} {u : Operand} (ho : o.op = .call { callee := .value (.func fn), args := #[u], argTypes := ts }) (hf : Calm.enters Try.prog fn = true) {v : Value} (hz : F[i]? = some (eqF i v))
    (h : ∀ x w, S w → (∀ e ∈ o.after, Region.binds md e = true → ∀ f, F[e.on]? = some f → Facts.holds f x w) → Calls Try.prog fn #[(A x).eval u] w fun e w' => e = .returned v ∧ Below w.heap.size w w') : Facts.StepOk Try.prog md Q S A F i o :=
  Facts.call (f := fn) hS hF hA fun x w hSw hdep => ⟨#[(A x).eval u], by
    have e : ∀ args, (callFunc fn args).run Try.prog w = .ok (.enter fn args) w := fun args => Calm.enters_run hf args w
    unfold execOp
    simp [ho, go_sem, Act.eval, e], (h x w hSw hdep).mono fun e w' ⟨he, hb⟩ => ⟨_, he, hb, fun f hf' => by
      rw [hz] at hf'
      obtain rfl := Option.some.inj hf'
      simp [Facts.holds, eqF, Facts.put]⟩⟩
theorem Facts.call2V (hS : Calm.Stays S) (hF : Facts.Stay F) (hA : ∀ x u, (A x).put o.dst u = A (Facts.put x i u)) {fn : FuncId} {ts : Array TypeId} {u v' : Operand} (ho : o.op = .call { callee := .value (.func fn), args := #[u, v'], argTypes := ts }) (hf : Calm.enters Try.prog fn = true) {v : Value} (hz : F[i]? = some (eqF i v))
    (h : ∀ x w, S w → (∀ e ∈ o.after, Region.binds md e = true → ∀ f, F[e.on]? = some f → Facts.holds f x w) → Calls Try.prog fn #[(A x).eval u, (A x).eval v'] w fun e w' => e = .returned v ∧ Below w.heap.size w w') : Facts.StepOk Try.prog md Q S A F i o :=
  Facts.call (f := fn) hS hF hA fun x w hSw hdep => ⟨#[(A x).eval u, (A x).eval v'], by
    have e : ∀ args, (callFunc fn args).run Try.prog w = .ok (.enter fn args) w := fun args => Calm.enters_run hf args w
    unfold execOp
    simp [ho, go_sem, Act.eval, e], (h x w hSw hdep).mono fun e w' ⟨he, hb⟩ => ⟨_, he, hb, fun f hf' => by
      rw [hz] at hf'
      obtain rfl := Option.some.inj hf'
      simp [Facts.holds, eqF, Facts.put]⟩⟩
theorem Facts.call3T (hS : Calm.Stays S) (hF : Facts.Stay F) (hA : ∀ x u, (A x).put o.dst u = A (Facts.put x i u)) {fn : FuncId} {ts : Array TypeId} {u v t : Operand} (ho : o.op = .call { callee := .value (.func fn), args := #[u, v, t], argTypes := ts }) (hf : Calm.enters Try.prog fn = true) {z : ID} (hz : F[i]? = some (isF i z))
    (h : ∀ x w, S w → (∀ e ∈ o.after, Region.binds md e = true → ∀ f, F[e.on]? = some f → Facts.holds f x w) → Calls Try.prog fn #[(A x).eval u, (A x).eval v, (A x).eval t] w (Gives z w)) : Facts.StepOk Try.prog md Q S A F i o :=
  Facts.call (f := fn) hS hF hA fun x w hSw hdep => ⟨#[(A x).eval u, (A x).eval v, (A x).eval t], by
    have e : ∀ args, (callFunc fn args).run Try.prog w = .ok (.enter fn args) w := fun args => Calm.enters_run hf args w
    unfold execOp
    simp [ho, go_sem, Act.eval, e], (h x w hSw hdep).mono fun e w' ⟨n, p, l, c, he, hi, hb⟩ => ⟨_, he, hb, fun f hf' => by
      rw [hz] at hf'
      obtain rfl := Option.some.inj hf'
      exact isF_put hi⟩⟩
/-- A new box, among others. -/
theorem FactsG.allocT (hi : l[i]? = some o) (hg : o.guard = none) (hS : Calm.Stays S) (hF : Facts.Stay F) (hA : ∀ x u, (A x).put o.dst u = A (Facts.put x i u)) (ho : o.op = .alloc 24) {N : Nat} (hz : F[i]? = some (alF i N)) (hN : ∀ w, S w → N ≤ w.heap.size)
    (hal : ∀ (j : Nat) (f : Facts.Fact), F[j]? = some f → j ∈ al → ∃ N, f = alF j N) : FactsG.StepOk Try.prog md l Q S A F (NotOne al) i o :=
  FactsG.ofR hi (fun _ _ _ _ => by simp [Region.wanted, hg]) fun x w hSw hdep _ => by
    have hr : (execOp (A x).eval o).run Try.prog w = .ok (.value (.pointer (some ⟨w.heap.size, 0, none⟩))) (w.alloc (.cells #[.int .i64 0, .slice none 0 0] 24)) := by
      unfold execOp
      generalize (A x).eval = ρ
      simp [ho, go_sem]
    have hb : Below w.heap.size w (w.alloc (.cells #[.int .i64 0, .slice none 0 0] 24)) := (Below.refl _ _).alloc (Nat.le_refl _) _
    unfold Oper.wp
    rw [hr]
    refine ⟨_, hA x _, hS _ _ hSw hb, fun f hf' => ?_, fun j f _ hj hh => hF j f hj _ _ _ hh hb, fun j f _ hj hh _ hjal => ?_⟩
    · rw [hz] at hf'
      obtain rfl := Option.some.inj hf'
      exact ⟨w.heap.size, 0, none, 0, 0, by simp [Facts.put, alF], hN w hSw, bx_new w 0 none 0 0⟩
    · obtain ⟨N', rfl⟩ := hal j f hj hjal
      obtain ⟨q, n, p, l, c, e, _, hq⟩ := alF_get hh
      rw [e]
      have := hq.lt
      intro h
      simp only [Value.pointer.injEq, Option.some.injEq, Addr.mk.injEq] at h
      omega
theorem sbF_other {m k N : Nat} {z : ID} {x : Nat → Value} {w : World} {q : Nat} {n : Int} {p : Option Addr} {l c : Nat} (h : Facts.holds (sbF m k N z) x w) (hne : x m ≠ .pointer (some ⟨q, 0, none⟩)) (hq : ∃ n p l c, Bx w q n p l c) : Facts.holds (sbF m k N z) x (w.setRow q #[.int .i64 n, .slice p l c]) := by
  obtain ⟨q', n', p', l', c', e, hN, hb, hi⟩ := h
  obtain ⟨_, _, _, _, hq⟩ := hq
  have e' := e
  simp only [sbF, List.map_cons, List.map_nil, List.cons.injEq, and_true] at e'
  refine ⟨q', n', p', l', c', e, hN, hb.rowOther (fun h => hne ?_) _, hi.box hq _⟩
  rw [e'.1, h]
/-- A tree that operation k came to is stored in the new box that operation m made, among others. -/
theorem FactsG.storeP (hi : l[i]? = some o) (hg : o.guard = none) (hial : i ∉ al) (hA : ∀ x u, (A x).put o.dst u = A (Facts.put x i u)) (u v : Operand) (ho : o.op = .store 24 u v) {m k N : Nat} {z : ID} (hmi : m ≠ i) (hki : k ≠ i) (hz : F[i]? = some (sbF m k N z))
    (hx : ∀ x, (A x).eval u = x m) (hy : ∀ x, (A x).eval v = x k) (hm : ∀ x w, S w → (∀ e ∈ o.after, Region.binds md e = true → ∀ f, F[e.on]? = some f → Facts.holds f x w) → Facts.holds (alF m N) x w ∧ Facts.holds (isF k z) x w)
    (hb : ∀ w q n p l c n' p' l' c', S w → N ≤ q → Bx w q n' p' l' c' → S (w.setRow q #[.int .i64 n, .slice p l c]))
    (hoth : ∀ x w q n p l c, (∀ e ∈ o.after, Region.binds md e = true → ∀ e' ∈ o.after, Region.binds md e' = true → e.on ≠ e'.on → NotOne al e.on e'.on (x e.on) (x e'.on)) → x m = .pointer (some ⟨q, 0, none⟩) → N ≤ q → (∃ n p l c, Bx w q n p l c) →
      ∀ (j : Nat) (f : Facts.Fact), j ≠ i → F[j]? = some f → Facts.holds f x w → Facts.holds f x (w.setRow q #[.int .i64 n, .slice p l c])) : FactsG.StepOk Try.prog md l Q S A F (NotOne al) i o :=
  FactsG.ofR hi (fun _ _ _ _ => by simp [Region.wanted, hg]) fun x w hSw hdep hrel => by
    obtain ⟨h1, h2⟩ := hm x w hSw hdep
    obtain ⟨q, n0, p0, l0, c0, eq, hq, hbx⟩ := alF_get h1
    obtain ⟨n, p, l, c, e, hi⟩ := isF_get h2
    refine wp_store_t u v ho q n p l c ((hx x).trans eq) ((hy x).trans e) hbx ?_
    refine ⟨undef, hA x undef, hb w q n p l c _ _ _ _ hSw hq hbx, fun f hf' => ?_, fun j f hj hfj hh => hoth x w q n p l c hrel eq hq ⟨_, _, _, _, hbx⟩ j f hj hfj hh, fun j f _ _ _ h => absurd h hial⟩
    rw [hz] at hf'
    obtain rfl := Option.some.inj hf'
    exact ⟨q, n, p, l, c, by simp [Facts.put, sbF, hki, hmi, e, eq], hq, hbx.row n p l c, hi.box hbx _⟩
end
end Go.Proofs.Ytmcajjdijjcpkaa.Idn
/- The functions Leaf, Inner, IsLeaf and rough of the document's answer. -/
namespace Go.Proofs.Ytmcajjdijjcpkaa.Idn
open Go.RowKit

set_option maxRecDepth 100000 in
theorem refLeaf_any (n : Int) (w : World) :
    Calls Try.prog 53 #[.int .i64 n] w fun e w' => e = .returned (TV n none 0 0) ∧ Below w.heap.size w w' := by
  obtain ⟨h1, hbel⟩ := one_box w 0 none 0 0 _ rfl
  go_enter Try.func53, Try.ntmps53
  go_wp2_with (refine store_t rfl _ _ rfl _ n none 0 0 rfl rfl h1 ?_)
  exact bodyPost_ret (results_t rfl rfl (h1.row n none 0 0)) rfl ⟨rfl, below_setRow hbel (Nat.le_refl _) _⟩
theorem refLeaf_gives (b : Bool) (w : World) : Calls Try.prog 53 #[.int .i64 (bi b)] w (Gives (.leaf b) w) :=
  (refLeaf_any (bi b) w).mono fun _ _ ⟨he, hb⟩ => ⟨_, _, _, _, he, is_leaf _ b _ _, hb⟩

set_option maxHeartbeats 1000000 in
set_option maxRecDepth 100000 in
theorem inner_any (x y : ID) (n : Int) (p : Option Addr) (l c : Nat) (n' : Int) (p' : Option Addr) (l' c' : Nat) (w : World) (hx : Is w x (TV n p l c)) (hy : Is w y (TV n' p' l' c')) :
    Calls Try.prog 83 #[.int .i64 0, TV n p l c, TV n' p' l' c'] w (Gives (.node x y) w) := by
  obtain ⟨h1, h2, h3, hbel⟩ := three_box w n p l c n' p' l' c' 0 none 0 0 _ rfl
  generalize hw0 : ((w.alloc (.cells #[.int .i64 n, .slice p l c] 24)).alloc (.cells #[.int .i64 n', .slice p' l' c'] 24)).alloc (.cells #[.int .i64 0, .slice none 0 0] 24) = w0 at h1 h2 h3 hbel
  obtain ⟨t1, t2, hb1⟩ := row_tats w0 n p l c n' p' l' c' _ rfl
  generalize hw1 : w0.alloc (.cells #[.int .i64 n, .slice p l c, .int .i64 n', .slice p' l' c'] 24) = w1 at t1 t2 hb1
  have h4 := h3.later hb1
  have hbel2 := below_on hbel hb1
  have HI : Hid (Is w x (TV n p l c) ∧ Is w y (TV n' p' l' c')) := ⟨hx, hy⟩
  have R := below_setRow hbel2 (g := w.heap.size + 1 + 1) (by omega) #[.int .i64 0, .slice (some ⟨w0.heap.size, 0, none⟩) 2 2]
  have hI : Is (w1.setRow (w.heap.size + 1 + 1) #[.int .i64 0, .slice (some ⟨w0.heap.size, 0, none⟩) 2 2]) (.node x y) (TV 0 (some ⟨w0.heap.size, 0, none⟩) 2 2) :=
    ⟨w0.heap.size, 0, 2, n, p, l, c, n', p', l', c', rfl, t1.box_lo h4 t2 _, t2.box_hi h4 _, (HI.out.1.later hbel2).box h4 _, (HI.out.2.later hbel2).box h4 _⟩
  clear hx hy hbel hb1 t1 t2 hbel2 HI
  go_enter Try.func83, Try.ntmps83
  go_wp2_with (first | rw [hw0] | rw [hw1] | refine load_t _ rfl rfl _ _ rfl h1.tat ?_ | refine load_t _ rfl rfl _ _ rfl h2.tat ?_ | refine store_t rfl _ _ rfl _ 0 (some ⟨w0.heap.size, 0, none⟩) 2 2 rfl rfl h4 ?_)
  exact bodyPost_ret (results_t rfl rfl (h4.row _ _ _ _)) rfl ⟨_, _, _, _, rfl, hI, R⟩

set_option maxRecDepth 100000 in
theorem refIsLeaf_any (n k : Int) (p : Option Addr) (l c : Nat) (w : World) :
    Calls Try.prog 45 #[TV n p l c, .int .i64 k] w fun e w' => e = .returned (.bool (decide (l = 0) && n == k)) ∧ Below w.heap.size w w' := by
  obtain ⟨h1, hbel⟩ := one_box w n p l c _ rfl
  have g0 := h1.cell0
  have g1 := h1.cell1
  by_cases e0 : l = 0
  · subst e0
    go_enter Try.func45, Try.ntmps45
    go_wp2
    go_ret
    exact ⟨by simp, hbel⟩
  · obtain ⟨z, HZ⟩ : ∃ z, Hid ((decide (l = 0) && n == k) = z) := ⟨_, rfl⟩
    rw [HZ.out]
    have HZ' : Hid (false = z) := by have := HZ.out; rw [show decide (l = 0) = false by simpa using e0] at this; exact this
    have f0 : ((l : Int) == 0) = false := by simpa using e0
    clear HZ e0
    go_enter Try.func45, Try.ntmps45
    go_wp2
    go_ret
    exact ⟨by rw [← HZ'.out]; rfl, hbel⟩
theorem refIsNil_is {x : ID} {n : Int} {p : Option Addr} {l c : Nat} {w0 : World} (h : Is w0 x (TV n p l c)) (w : World) : Calls Try.prog 45 #[TV n p l c, .int .i64 0] w fun e w' => e = .returned (.bool (nil x)) ∧ Below w.heap.size w w' := by
  have := refIsLeaf_any n 0 p l c w
  obtain ⟨rfl, rfl⟩ := is_parts h
  rwa [nil_eq] at this

set_option maxHeartbeats 1000000 in
set_option maxRecDepth 100000 in
theorem refRough_any : ∀ (t : Tr) (room : Nat) (n : Int) (p : Option Addr) (l c : Nat) (w : World), Lies w t (TV n p l c) → room ≤ 100 →
    Calls Try.prog 57 #[TV n p l c, .int .i64 room] w fun e w' => e = .returned (.bool (rough t room)) ∧ Below w.heap.size w w'
  | ⟨m, len, kids⟩, room, n, p, l, c, w, ⟨_, hl, p', c', e, hk⟩, hroom => by
    have RR : Hid (∀ (i : Nat) (hi : i < len) (n0 : Int) (p0 : Option Addr) (l0 c0 : Nat) (w1 : World), Lies w1 (kids ⟨i, hi⟩) (TV n0 p0 l0 c0) → Calls Try.prog 57 #[TV n0 p0 l0 c0, .int .i64 (room - 1 : Nat)] w1 fun e w' => e = .returned (.bool (rough (kids ⟨i, hi⟩) (room - 1))) ∧ Below w1.heap.size w1 w') := fun i hi n0 p0 l0 c0 w1 h => refRough_any (kids ⟨i, hi⟩) (room - 1) n0 p0 l0 c0 w1 h (by omega)
    simp at e
    obtain ⟨rfl, rfl, rfl, rfl⟩ := e
    obtain ⟨h1, hbel⟩ := one_box w n p l c _ rfl
    have g0 := h1.cell0
    have g1 := h1.cell1
    obtain ⟨z, HZ⟩ : ∃ z, Hid (rough ⟨n, l, kids⟩ room = z) := ⟨_, rfl⟩
    rw [HZ.out]
    have HK : Hid (0 < l → ∃ g o, p = some ⟨g, o, none⟩ ∧ ∀ i, (hi : i < l) → ∃ n0 p0 l0 c0, Tat w g (o + i * 2) n0 p0 l0 c0 ∧ Lies w (kids ⟨i, hi⟩) (TV n0 p0 l0 c0)) := hk
    clear hk
    unfold rough at HZ
    by_cases e0 : l = 0
    · subst e0
      have HZ' : Hid ((n == 0 || n == 1) = z) := by have := HZ.out; simp at this; exact this
      clear HZ
      by_cases en : n = 0
      · subst en
        go_enter Try.func57, Try.ntmps57
        go_wp2
        go_ret
        exact ⟨by rw [← HZ'.out]; rfl, hbel⟩
      · go_enter Try.func57, Try.ntmps57
        go_wp2
        go_ret
        exact ⟨by rw [← HZ'.out]; simp, hbel⟩
    · by_cases e2 : l = 2
      · subst e2
        obtain ⟨g, o, rfl, hks⟩ := HK.out (by decide)
        obtain ⟨n0, p0, l0, c0, t0, k0⟩ := hks 0 (by decide)
        obtain ⟨n1, p1, l1, c1, t1, k1⟩ := hks 1 (by decide)
        have HZ' : Hid ((n == 0 && decide (0 < room) && rough (kids ⟨0, by decide⟩) (room - 1) && rough (kids ⟨1, by decide⟩) (room - 1)) = z) := by have := HZ.out; rw [if_neg (by decide), dif_pos rfl] at this; exact this
        have r0 := fun w1 (hb : Below w.heap.size w w1) => RR.out 0 (by decide) n0 p0 l0 c0 w1 (k0.later hb)
        have r1 := fun w1 (hb : Below w.heap.size w w1) => RR.out 1 (by decide) n1 p1 l1 c1 w1 (k1.later hb)
        clear HZ HK hks k0 k1
        simp only [Nat.zero_mul, Nat.add_zero, Nat.one_mul] at t0 t1
        by_cases en : n = 0
        · subst en
          by_cases er : 0 < room
          · have ei : (0 : Int) < (room : Int) := by omega
            have es : ((room - 1 : Nat) : Int) = (room : Int) - 1 := by omega
            rw [es] at r0 r1
            have HZ'' : Hid ((rough (kids ⟨0, by decide⟩) (room - 1) && rough (kids ⟨1, by decide⟩) (room - 1)) = z) := by have := HZ'.out; rw [show decide (0 < room) = true by simpa using er] at this; exact this
            generalize rough (kids ⟨0, by decide⟩) (room - 1) = b0 at r0 HZ''
            generalize rough (kids ⟨1, by decide⟩) (room - 1) = b1 at r1 HZ''
            clear HZ' es
            have tt0 := t0.later hbel
            go_enter Try.func57, Try.ntmps57
            go_wp2_with (refine load_t _ rfl rfl _ _ rfl tt0 ?_)
            refine (r0 _ hbel).mono ?_
            rintro e w1 ⟨rfl, hb1⟩
            have hbel1 := below_on hbel hb1
            cases b0
            · clear t0 t1 tt0 r0 r1
              go_wp2
              go_ret
              exact ⟨by rw [← HZ''.out]; rfl, hbel1⟩
            · have g2 := cell_later hb1 g1
              have tt1 := t1.later hbel1
              clear t0 t1 tt0 r0 g0 g1
              go_wp2_with (refine load_t _ rfl rfl _ _ rfl tt1 ?_)
              refine (r1 _ hbel1).mono ?_
              rintro e w2 ⟨rfl, hb2⟩
              have hbel2 := below_on hbel1 hb2
              clear tt1 r1 g2
              go_wp2
              go_ret
              exact ⟨by rw [← HZ''.out]; rfl, hbel2⟩
          · have ei : ¬ (0 : Int) < (room : Int) := by omega
            have HZ'' : Hid (false = z) := by have := HZ'.out; simp [er] at this; rw [this]; rfl
            clear HZ' r0 r1 t0 t1 er
            go_enter Try.func57, Try.ntmps57
            go_wp2
            go_ret
            exact ⟨by rw [← HZ''.out]; rfl, hbel⟩
        · have HZ'' : Hid (false = z) := by have := HZ'.out; rw [show (n == 0) = false by simpa using en] at this; exact this
          clear HZ' r0 r1 t0 t1
          go_enter Try.func57, Try.ntmps57
          go_wp2
          go_ret
          exact ⟨by rw [← HZ''.out]; rfl, hbel⟩
      · have HZ'' : Hid (false = z) := by have := HZ.out; rw [if_neg e0, dif_neg e2] at this; exact this
        have f0 : ¬ (l : Int) = 0 := by omega
        have f2 : ¬ (l : Int) = 2 := by omega
        clear HZ HK e0 e2
        go_enter Try.func57, Try.ntmps57
        go_wp2
        go_ret
        exact ⟨by rw [← HZ''.out]; rfl, hbel⟩

end Go.Proofs.Ytmcajjdijjcpkaa.Idn
