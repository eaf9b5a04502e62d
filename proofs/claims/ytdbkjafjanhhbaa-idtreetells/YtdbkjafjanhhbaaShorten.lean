/- The functions shorten and Norm of package idtree. -/
import Derived.Test.YtdbkjafjanhhbaaFactsT
namespace Go.Proofs.Ytdbkjafjanhhbaa
open Go.RowKit

set_option maxHeartbeats 2000000 in
set_option maxRecDepth 100000 in
theorem shorten_any : ∀ (x : ID) (n : Int) (p : Option Addr) (l c : Nat) (w : World), Is w x (TV n p l c) → Calls Try.prog 26 #[TV n p l c] w (Gives (norm x) w)
  | ⟨.inl b⟩, n, p, l, c, w, h => by
    obtain ⟨p', c', e⟩ := h
    simp at e
    obtain ⟨rfl, rfl, rfl, rfl⟩ := e
    obtain ⟨h1, h2, hbel⟩ := two_box w (bi b) p 0 c 0 none 0 0 _ rfl
    go_enter Try.func26, Try.ntmps26
    go_wp2_with (refine load_t _ rfl rfl _ _ rfl h1.tat ?_)
    refine (isLeaf_any _ p 0 c _).mono ?_
    rintro e w1 ⟨rfl, hb1⟩
    replace h1 := (h1.later hb1).cell0
    replace h2 := h2.later hb1
    replace hbel := below_on hbel hb1
    clear hb1
    go_wp2_with fail
    refine (leaf_any _ _).mono ?_
    rintro e w2 ⟨rfl, hb1⟩
    replace h2 := h2.later hb1
    replace hbel := below_on hbel hb1
    clear hb1 h1
    have R := below_setRow hbel (g := w.heap.size + 1) (by omega) #[.int .i64 (bi b), .slice none 0 0]
    go_wp2_with (refine store_t rfl _ _ rfl _ (bi b) none 0 0 rfl rfl h2 ?_)
    exact bodyPost_ret (results_t rfl rfl (h2.row _ _ _ _)) rfl ⟨_, _, _, _, rfl, is_leaf _ _ _ _, R⟩
  | ⟨.inr (x, y)⟩, n, p, l, c, w, ⟨g, o, c', n0, p0, l0, c0, n1, p1, l1, c1, e, t0, t1, hx, hy⟩ => by
    simp at e
    obtain ⟨rfl, rfl, rfl, rfl⟩ := e
    obtain ⟨h1, h2, hbel⟩ := two_box w 0 (some ⟨g, o, none⟩) 2 c 0 none 0 0 _ rfl
    have r0 := fun w1 (hb : Below w.heap.size w w1) => shorten_any x n0 p0 l0 c0 w1 (hx.later hb)
    have r1 := fun w1 (hb : Below w.heap.size w w1) => shorten_any y n1 p1 l1 c1 w1 (hy.later hb)
    obtain ⟨z, HZ⟩ : ∃ z, Hid (norm (.node x y) = z) := ⟨_, rfl⟩
    rw [HZ.out]
    unfold norm at HZ
    generalize norm x = x' at r0 HZ
    generalize norm y = y' at r1 HZ
    clear hx hy
    go_enter Try.func26, Try.ntmps26
    go_wp2_with (refine load_t _ rfl rfl _ _ rfl h1.tat ?_)
    refine (isLeaf_any _ _ 2 c _).mono ?_
    rintro e w1 ⟨rfl, hb1⟩
    replace h1 := h1.later hb1
    replace h2 := h2.later hb1
    replace hbel := below_on hbel hb1
    clear hb1
    go_wp2_with fail
    have hS : Calm.Stays (fun w' => Bx w' w.heap.size 0 (some ⟨g, o, none⟩) 2 c ∧ (∃ n p l c, Bx w' (w.heap.size + 1) n p l c) ∧ Below w.heap.size w w') := fun wa wb h hb => ⟨h.1.later hb, (by obtain ⟨n, p, l, c, h2⟩ := h.2.1; exact ⟨n, p, l, c, h2.later hb⟩), below_on h.2.2 hb⟩
    have hF : Facts.Stay [eqF 0 (.pointer (some ⟨w.heap.size, 1, none⟩)), eqF 1 (.slice (some ⟨g, o, none⟩) 2 c), eqF 2 (.pointer (some ⟨g, o, none⟩)), eqF 3 (TV n0 p0 l0 c0), isF 4 x', eqF 5 (.pointer (some ⟨w.heap.size, 1, none⟩)), eqF 6 (.slice (some ⟨g, o, none⟩) 2 c), eqF 7 (.pointer (some ⟨g, o + 2, none⟩)), eqF 8 (TV n1 p1 l1 c1), isF 9 y', isF 10 z, bxF 10 (w.heap.size + 1) z] := stay_of (by simp only [List.forall_mem_cons]; exact ⟨eqF_stays _ _, eqF_stays _ _, eqF_stays _ _, eqF_stays _ _, isF_stays _ _, eqF_stays _ _, eqF_stays _ _, eqF_stays _ _, eqF_stays _ _, isF_stays _ _, isF_stays _ _, bxF_stays _ _ _, fun _ h => by cases h⟩)
    refine Facts.region (by kernel_rfl) (by kernel_rfl) (fun w' => Bx w' w.heap.size 0 (some ⟨g, o, none⟩) 2 c ∧ (∃ n p l c, Bx w' (w.heap.size + 1) n p l c) ∧ Below w.heap.size w w') (fun x => { tmps := #[TV 0 (some ⟨g, o, none⟩) 2 c, .pointer (some ⟨w.heap.size, 0, none⟩), .pointer (some ⟨w.heap.size + 1, 0, none⟩), TV 0 (some ⟨g, o, none⟩) 2 c, .bool false, undef, undef, undef, x 0, x 1, x 2, x 3, x 4, x 5, x 6, x 7, x 8, x 9, x 10], defers := [] }) [eqF 0 (.pointer (some ⟨w.heap.size, 1, none⟩)), eqF 1 (.slice (some ⟨g, o, none⟩) 2 c), eqF 2 (.pointer (some ⟨g, o, none⟩)), eqF 3 (TV n0 p0 l0 c0), isF 4 x', eqF 5 (.pointer (some ⟨w.heap.size, 1, none⟩)), eqF 6 (.slice (some ⟨g, o, none⟩) 2 c), eqF 7 (.pointer (some ⟨g, o + 2, none⟩)), eqF 8 (TV n1 p1 l1 c1), isF 9 y', isF 10 z, bxF 10 (w.heap.size + 1) z] _ rfl (by kernel_rfl) (fun _ => undef) rfl (⟨h1, ⟨_, _, _, _, h2⟩, hbel.drew⟩) ⟨?_, ?_, ?_, ?_, ?_, ?_, ?_, ?_, ?_, ?_, ?_, ?_, trivial⟩ ?_
    · exact Facts.pure hS hF (fun _ _ => rfl) rfl (fun x wv hSw hd => by
        go_simp)
    · exact Facts.pure hS hF (fun _ _ => rfl) rfl (fun x wv hSw hd => by
        have d0 := eqF_get (hd ⟨0, .data⟩ (by simp) rfl _ rfl)
        have g1 := hSw.1.cell1
        simp only [d0]
        go_simp)
    · exact Facts.pure hS hF (fun _ _ => rfl) rfl (fun x wv hSw hd => by
        have d1 := eqF_get (hd ⟨1, .data⟩ (by simp) rfl _ rfl)
        simp only [d1]
        go_simp)
    · exact Facts.loadT hS hF (fun _ _ => rfl) _ rfl rfl (fun x wv hSw hd => by have d2 := eqF_get (hd ⟨2, .data⟩ (by simp) rfl _ rfl); exact d2) (fun wv hSw => t0.later hSw.2.2)
    · refine Facts.call1T hS hF (fun _ _ => rfl) rfl (by kernel_rfl) rfl (fun x wv hSw hd => ?_)
      have d3 := eqF_get (hd ⟨3, .data⟩ (by simp) rfl _ rfl)
      have hc := r0 _ hSw.2.2
      rw [← d3] at hc
      exact hc
    · exact Facts.pure hS hF (fun _ _ => rfl) rfl (fun x wv hSw hd => by
        go_simp)
    · exact Facts.pure hS hF (fun _ _ => rfl) rfl (fun x wv hSw hd => by
        have d5 := eqF_get (hd ⟨5, .data⟩ (by simp) rfl _ rfl)
        have g1 := hSw.1.cell1
        simp only [d5]
        go_simp)
    · exact Facts.pure hS hF (fun _ _ => rfl) rfl (fun x wv hSw hd => by
        have d6 := eqF_get (hd ⟨6, .data⟩ (by simp) rfl _ rfl)
        simp only [d6]
        go_simp)
    · exact Facts.loadT hS hF (fun _ _ => rfl) _ rfl rfl (fun x wv hSw hd => by have d7 := eqF_get (hd ⟨7, .data⟩ (by simp) rfl _ rfl); exact d7) (fun wv hSw => t1.later hSw.2.2)
    · refine Facts.call1T hS hF (fun _ _ => rfl) rfl (by kernel_rfl) rfl (fun x wv hSw hd => ?_)
      have d8 := eqF_get (hd ⟨8, .data⟩ (by simp) rfl _ rfl)
      have hc := r1 _ hSw.2.2
      rw [← d8] at hc
      exact hc
    · refine Facts.call2T hS hF (fun _ _ => rfl) rfl (by kernel_rfl) rfl (fun x wv hSw hd => ?_)
      obtain ⟨n4i, p4i, l4i, c4i, d4, e4⟩ := isF_get (hd ⟨4, .data⟩ (by simp) rfl _ rfl)
      obtain ⟨n9i, p9i, l9i, c9i, d9, e9⟩ := isF_get (hd ⟨9, .data⟩ (by simp) rfl _ rfl)
      have hc := pair_any x' y' _ _ _ _ _ _ _ _ _ e4 e9
      rw [← d4, ← d9, HZ.out] at hc
      exact hc
    · exact Facts.storeT (fun _ _ => rfl) _ _ rfl (by decide) rfl (fun _ => rfl) (fun _ => rfl) (fun x wv hSw hd => isF_get (hd ⟨10, .data⟩ (by simp) rfl _ rfl)) (fun wv hSw => ⟨hSw.2.1, fun n p l c => ⟨hSw.1.rowOther (by omega) _, (by obtain ⟨_, _, _, _, h⟩ := hSw.2.1; exact ⟨_, _, _, _, h.row n p l c⟩), below_setRow hSw.2.2 (by omega) _⟩⟩) (fun j f hj hfj => by
        match j with
        | 0 => obtain rfl := Option.some.inj hfj; exact eqF_box _ _ _
        | 1 => obtain rfl := Option.some.inj hfj; exact eqF_box _ _ _
        | 2 => obtain rfl := Option.some.inj hfj; exact eqF_box _ _ _
        | 3 => obtain rfl := Option.some.inj hfj; exact eqF_box _ _ _
        | 4 => obtain rfl := Option.some.inj hfj; exact isF_box _ _ _
        | 5 => obtain rfl := Option.some.inj hfj; exact eqF_box _ _ _
        | 6 => obtain rfl := Option.some.inj hfj; exact eqF_box _ _ _
        | 7 => obtain rfl := Option.some.inj hfj; exact eqF_box _ _ _
        | 8 => obtain rfl := Option.some.inj hfj; exact eqF_box _ _ _
        | 9 => obtain rfl := Option.some.inj hfj; exact isF_box _ _ _
        | 10 => obtain rfl := Option.some.inj hfj; exact isF_box _ _ _
        | 11 => exact absurd rfl hj
        | j + 12 => simp at hfj)
    · rintro x w9 ⟨_, _, hbel9⟩ hf
      obtain ⟨n, p, l, c, _, hbx, hi⟩ := bxF_get (hf 11 _ (by decide) rfl)
      go_wp2
      exact bodyPost_ret (results_t rfl rfl hbx) rfl ⟨_, _, _, _, rfl, hi, hbel9⟩

/-- The call answers the tree x, and the number r. -/
abbrev GivesE (x : ID) (r : Int) (w : World) (e : Ending) (w' : World) : Prop := ∃ n p l c, e = .returned (.tuple #[TV n p l c, .int .i64 r]) ∧ Is w' x (TV n p l c) ∧ Below w.heap.size w w'

set_option maxHeartbeats 2000000 in
set_option maxRecDepth 100000 in
theorem norm_tr (t : Tr) (n : Int) (p : Option Addr) (l c : Nat) (w : World) (h : Lies w t (TV n p l c)) :
    Calls Try.prog 9 #[TV n p l c] w (GivesE (if rough t 16 then norm (idOf t) else .leaf false) (if rough t 16 then 0 else 3) w) := by
  obtain ⟨h1, h2, hbel⟩ := two_box w n p l c 0 none 0 0 _ rfl
  have r0 := fun w1 (hb : Below w.heap.size w w1) => isRough_any t 16 n p l c w1 (h.later hb) (by omega)
  have r1 := fun w1 (hb : Below w.heap.size w w1) (hr : rough t 16 = true) => shorten_any (idOf t) n p l c w1 ((is_of_lies t 16 _ hr h).1.later hb)
  generalize rough t 16 = b at r0 r1 ⊢
  clear h
  cases b
  · simp only [Bool.false_eq_true, if_false]
    go_enter Try.func9, Try.ntmps9
    go_wp2_with (refine load_t _ rfl rfl _ _ rfl h1.tat ?_)
    refine (r0 _ hbel).mono ?_
    rintro e w1 ⟨rfl, hb1⟩
    replace h2 := h2.later hb1
    have R := below_setRow (below_on hbel hb1) (g := w.heap.size + 1) (by omega) #[.int .i64 0, .slice none 0 0]
    clear hbel hb1 h1 r0 r1
    go_wp2_with (refine store_t rfl _ _ rfl _ 0 none 0 0 rfl rfl h2 ?_)
    exact bodyPost_ret (results_te rfl rfl (h2.row _ _ _ _)) rfl ⟨_, _, _, _, rfl, is_leaf _ false _ _, R⟩
  · simp only [if_true]
    go_enter Try.func9, Try.ntmps9
    go_wp2_with (refine load_t _ rfl rfl _ _ rfl h1.tat ?_)
    refine (r0 _ hbel).mono ?_
    rintro e w1 ⟨rfl, hb1⟩
    replace h1 := h1.later hb1
    replace h2 := h2.later hb1
    replace hbel := below_on hbel hb1
    clear hb1
    go_wp2_with (refine load_t _ rfl rfl _ _ rfl h1.tat ?_)
    refine (r1 _ hbel trivial).mono ?_
    rintro e w2 ⟨n', p', l', c', rfl, hi, hb1⟩
    replace h2 := h2.later hb1
    have R := below_setRow (below_on hbel hb1) (g := w.heap.size + 1) (by omega) #[.int .i64 n', .slice p' l' c']
    clear hbel hb1 h1 r0 r1
    go_wp2_with (refine store_t rfl _ _ rfl _ n' p' l' c' rfl rfl h2 ?_)
    exact bodyPost_ret (results_te rfl rfl (h2.row _ _ _ _)) rfl ⟨_, _, _, _, rfl, hi.box h2 _, R⟩
theorem norm_any (x : ID) (n : Int) (p : Option Addr) (l c : Nat) (w : World) (h : Is w x (TV n p l c)) (hd : depth x ≤ 16) : Calls Try.prog 9 #[TV n p l c] w (GivesE (norm x) 0 w) := by
  have := norm_tr (toTr x) n p l c w (lies_is x _ h)
  rw [rough_to, idOf_to] at this
  simpa [hd] using this
end Go.Proofs.Ytdbkjafjanhhbaa
