import Derived.Test.YtmcajjdijjcpkaaP10
/- The function halves of package events. -/
namespace Go.Proofs.Ytmcajjdijjcpkaa
open Go.RowKit

/-- The call answers two trees. -/
abbrev GivesT (x y : EV) (w : World) (e : Ending) (w' : World) : Prop := ∃ n p l c n' p' l' c', e = .returned (.tuple #[TV n p l c, TV n' p' l' c']) ∧ Is w' x (TV n p l c) ∧ Is w' y (TV n' p' l' c') ∧ Below w.heap.size w w'

set_option maxHeartbeats 4000000 in
set_option maxRecDepth 100000 in
theorem halves_leaf (n : Int) (p : Option Addr) (c : Nat) (w : World) : Calls Try.prog 91 #[TV n p 0 c] w (GivesT (.leaf n) (.leaf n) w) := by
  obtain ⟨h1, h2, h3, hbel⟩ := three_box w n p 0 c 0 none 0 0 0 none 0 0 _ rfl
  go_enter Try.func91, Try.ntmps91
  go_wp2_with (refine load_t _ rfl rfl _ _ rfl h1.tat ?_)
  refine (isLeaf_any _ p 0 c _).mono ?_
  rintro e w1 ⟨rfl, hb1⟩
  replace h1 := h1.later hb1
  replace h2 := h2.later hb1
  replace h3 := h3.later hb1
  replace hbel := below_on hbel hb1
  clear hb1
  go_wp2_with fail
  have hS : Calm.Stays (fun w' => Bx w' (w.heap.size) n p 0 c ∧ (∃ n p l c, Bx w' (w.heap.size + 1) n p l c) ∧ (∃ n p l c, Bx w' (w.heap.size + 1 + 1) n p l c) ∧ Below w.heap.size w w') := fun wa wb h hb => ⟨h.1.later hb, (by obtain ⟨n, p, l, c, h2⟩ := h.2.1; exact ⟨n, p, l, c, h2.later hb⟩), (by obtain ⟨n, p, l, c, h2⟩ := h.2.2.1; exact ⟨n, p, l, c, h2.later hb⟩), below_on h.2.2.2 hb⟩
  have hF : Facts.Stay [eqF 0 (TV n p 0 c), eqF 1 (TV n p 0 c), bxF 0 (w.heap.size + 1) (.leaf n), bxF 1 (w.heap.size + 1 + 1) (.leaf n)] := stay_of (by simp only [List.forall_mem_cons]; exact ⟨eqF_stays _ _, eqF_stays _ _, bxF_stays _ _ _, bxF_stays _ _ _, fun _ h => by cases h⟩)
  refine Facts.region (by kernel_rfl) (by kernel_rfl) (fun w' => Bx w' (w.heap.size) n p 0 c ∧ (∃ n p l c, Bx w' (w.heap.size + 1) n p l c) ∧ (∃ n p l c, Bx w' (w.heap.size + 1 + 1) n p l c) ∧ Below w.heap.size w w') (fun x => { tmps := #[TV n p 0 c, .pointer (some ⟨w.heap.size, 0, none⟩), .pointer (some ⟨w.heap.size + 1, 0, none⟩), .pointer (some ⟨w.heap.size + 1 + 1, 0, none⟩), undef, TV n p 0 c, .bool true, x 0, x 1, undef, undef, undef, undef, undef, undef, undef, undef, undef, undef, undef, undef, undef, undef, undef], defers := [] }) [eqF 0 (TV n p 0 c), eqF 1 (TV n p 0 c), bxF 0 (w.heap.size + 1) (.leaf n), bxF 1 (w.heap.size + 1 + 1) (.leaf n)] _ rfl (by kernel_rfl) (fun _ => undef) rfl (⟨h1, ⟨_, _, _, _, h2⟩, ⟨_, _, _, _, h3⟩, hbel.drew⟩) ⟨?_, ?_, ?_, ?_, trivial⟩ ?_
  · exact Facts.loadT hS hF (fun _ _ => rfl) _ rfl rfl (fun x wv hSw hd => by rfl) (fun wv hSw => hSw.1.tat)
  · exact Facts.loadT hS hF (fun _ _ => rfl) _ rfl rfl (fun x wv hSw hd => by rfl) (fun wv hSw => hSw.1.tat)
  · exact Facts.storeT (fun _ _ => rfl) _ _ rfl (by decide) rfl (fun _ => rfl) (fun _ => rfl) (fun x wv hSw hd => ⟨_, _, _, _, eqF_get (hd ⟨0, .data⟩ (by simp) rfl _ rfl), is_leaf _ _ _ _⟩) (fun wv hSw => ⟨hSw.2.1, fun n p l c => (by obtain ⟨s1, ⟨_, _, _, _, s2⟩, ⟨_, _, _, _, s3⟩, s4⟩ := hSw; exact ⟨s1.rowOther (by omega) _, ⟨_, _, _, _, s2.row n p l c⟩, ⟨_, _, _, _, s3.rowOther (by omega) _⟩, below_setRow s4 (by omega) _⟩)⟩) (fun j f hj hfj => by
      match j with
      | 0 => obtain rfl := Option.some.inj hfj; exact eqF_box _ _ _
      | 1 => obtain rfl := Option.some.inj hfj; exact eqF_box _ _ _
      | 3 => obtain rfl := Option.some.inj hfj; exact bxF_box _ _ _ _ (by omega)
      | 2 => exact absurd rfl hj
      | j + 4 => simp at hfj)
  · exact Facts.storeT (fun _ _ => rfl) _ _ rfl (by decide) rfl (fun _ => rfl) (fun _ => rfl) (fun x wv hSw hd => ⟨_, _, _, _, eqF_get (hd ⟨1, .data⟩ (by simp) rfl _ rfl), is_leaf _ _ _ _⟩) (fun wv hSw => ⟨hSw.2.2.1, fun n p l c => (by obtain ⟨s1, ⟨_, _, _, _, s2⟩, ⟨_, _, _, _, s3⟩, s4⟩ := hSw; exact ⟨s1.rowOther (by omega) _, ⟨_, _, _, _, s2.rowOther (by omega) _⟩, ⟨_, _, _, _, s3.row n p l c⟩, below_setRow s4 (by omega) _⟩)⟩) (fun j f hj hfj => by
      match j with
      | 0 => obtain rfl := Option.some.inj hfj; exact eqF_box _ _ _
      | 1 => obtain rfl := Option.some.inj hfj; exact eqF_box _ _ _
      | 2 => obtain rfl := Option.some.inj hfj; exact bxF_box _ _ _ _ (by omega)
      | 3 => exact absurd rfl hj
      | j + 4 => simp at hfj)
  · rintro xv w9 ⟨_, _, _, hbel9⟩ hf
    obtain ⟨n2, p2, l2, c2, _, b2, i2⟩ := bxF_get (hf 2 _ (by decide) rfl)
    obtain ⟨n3, p3, l3, c3, _, b3, i3⟩ := bxF_get (hf 3 _ (by decide) rfl)
    clear hf hS hF
    go_wp2
    exact bodyPost_ret (results_tt rfl rfl b2 rfl b3) rfl ⟨_, _, _, _, _, _, _, _, rfl, i2, i3, hbel9⟩

set_option maxHeartbeats 4000000 in
set_option maxRecDepth 100000 in
theorem halves_node (x y : EV) (n : Int) (g o c : Nat) (n0 : Int) (p0 : Option Addr) (l0 c0 : Nat) (n1 : Int) (p1 : Option Addr) (l1 c1 : Nat) (w : World) (t0 : Tat w g o n0 p0 l0 c0) (t1 : Tat w g (o + 2) n1 p1 l1 c1) (hx : Is w x (TV n0 p0 l0 c0)) (hy : Is w y (TV n1 p1 l1 c1))
    (HB : Hid ((-9223372036854775808 ≤ x.n + n) ∧ (x.n + n ≤ 9223372036854775807) ∧ (-9223372036854775808 ≤ y.n + n) ∧ (y.n + n ≤ 9223372036854775807))) :
    Calls Try.prog 91 #[TV n (some ⟨g, o, none⟩) 2 c] w (GivesT (lift x n) (lift y n) w) := by
  obtain ⟨h1, h2, h3, hbel⟩ := three_box w n (some ⟨g, o, none⟩) 2 c 0 none 0 0 0 none 0 0 _ rfl
  go_enter Try.func91, Try.ntmps91
  go_wp2_with (refine load_t _ rfl rfl _ _ rfl h1.tat ?_)
  refine (isLeaf_any _ _ 2 c _).mono ?_
  rintro e w1 ⟨rfl, hb1⟩
  replace h1 := h1.later hb1
  replace h2 := h2.later hb1
  replace h3 := h3.later hb1
  replace hbel := below_on hbel hb1
  clear hb1
  have g0 := h1.cell0
  go_wp2_with fail
  refine (lifter_any _ _).mono ?_
  rintro e w2 ⟨b, rfl, hby, hb1⟩
  replace h1 := h1.later hb1
  replace h2 := h2.later hb1
  replace h3 := h3.later hb1
  replace hbel := below_on hbel hb1
  replace t0 := t0.later hbel
  replace t1 := t1.later hbel
  replace hx := hx.later hbel
  replace hy := hy.later hbel
  clear hb1 g0
  go_wp2_with fail
  have hS : Calm.Stays (fun w' => Bx w' (w.heap.size) n (some ⟨g, o, none⟩) 2 c ∧ Tat w' g o n0 p0 l0 c0 ∧ Tat w' g (o + 2) n1 p1 l1 c1 ∧ Is w' x (TV n0 p0 l0 c0) ∧ Is w' y (TV n1 p1 l1 c1) ∧ (∃ n p l c, Bx w' (w.heap.size + 1) n p l c) ∧ (∃ n p l c, Bx w' (w.heap.size + 1 + 1) n p l c) ∧ By w' b n ∧ Below w.heap.size w w') := fun wa wb h hb => ⟨h.1.later hb, h.2.1.later hb, h.2.2.1.later hb, h.2.2.2.1.later hb, h.2.2.2.2.1.later hb, (by obtain ⟨n, p, l, c, h2⟩ := h.2.2.2.2.2.1; exact ⟨n, p, l, c, h2.later hb⟩), (by obtain ⟨n, p, l, c, h2⟩ := h.2.2.2.2.2.2.1; exact ⟨n, p, l, c, h2.later hb⟩), h.2.2.2.2.2.2.2.1.later hb, below_on h.2.2.2.2.2.2.2.2 hb⟩
  have hF : Facts.Stay [eqF 0 (LF b), eqF 1 (.pointer (some ⟨w.heap.size, 1, none⟩)), eqF 2 (.slice (some ⟨g, o, none⟩) 2 c), eqF 3 (.pointer (some ⟨g, o, none⟩)), eqF 4 (TV n0 p0 l0 c0), isF 5 (lift x n), eqF 6 (LF b), eqF 7 (.pointer (some ⟨w.heap.size, 1, none⟩)), eqF 8 (.slice (some ⟨g, o, none⟩) 2 c), eqF 9 (.pointer (some ⟨g, o + 2, none⟩)), eqF 10 (TV n1 p1 l1 c1), isF 11 (lift y n), bxF 5 (w.heap.size + 1) (lift x n), bxF 11 (w.heap.size + 1 + 1) (lift y n)] := stay_of (by simp only [List.forall_mem_cons]; exact ⟨eqF_stays _ _, eqF_stays _ _, eqF_stays _ _, eqF_stays _ _, eqF_stays _ _, isF_stays _ _, eqF_stays _ _, eqF_stays _ _, eqF_stays _ _, eqF_stays _ _, eqF_stays _ _, isF_stays _ _, bxF_stays _ _ _, bxF_stays _ _ _, fun _ h => by cases h⟩)
  refine Facts.region (by kernel_rfl) (by kernel_rfl) (fun w' => Bx w' (w.heap.size) n (some ⟨g, o, none⟩) 2 c ∧ Tat w' g o n0 p0 l0 c0 ∧ Tat w' g (o + 2) n1 p1 l1 c1 ∧ Is w' x (TV n0 p0 l0 c0) ∧ Is w' y (TV n1 p1 l1 c1) ∧ (∃ n p l c, Bx w' (w.heap.size + 1) n p l c) ∧ (∃ n p l c, Bx w' (w.heap.size + 1 + 1) n p l c) ∧ By w' b n ∧ Below w.heap.size w w') (fun x => { tmps := #[TV n (some ⟨g, o, none⟩) 2 c, .pointer (some ⟨w.heap.size, 0, none⟩), .pointer (some ⟨w.heap.size + 1, 0, none⟩), .pointer (some ⟨w.heap.size + 1 + 1, 0, none⟩), LF b, TV n (some ⟨g, o, none⟩) 2 c, .bool false, undef, undef, .pointer (some ⟨w.heap.size, 0, none⟩), .int .i64 n, LF b, x 0, x 1, x 2, x 3, x 4, x 5, x 6, x 7, x 8, x 9, x 10, x 11], defers := [] }) [eqF 0 (LF b), eqF 1 (.pointer (some ⟨w.heap.size, 1, none⟩)), eqF 2 (.slice (some ⟨g, o, none⟩) 2 c), eqF 3 (.pointer (some ⟨g, o, none⟩)), eqF 4 (TV n0 p0 l0 c0), isF 5 (lift x n), eqF 6 (LF b), eqF 7 (.pointer (some ⟨w.heap.size, 1, none⟩)), eqF 8 (.slice (some ⟨g, o, none⟩) 2 c), eqF 9 (.pointer (some ⟨g, o + 2, none⟩)), eqF 10 (TV n1 p1 l1 c1), isF 11 (lift y n), bxF 5 (w.heap.size + 1) (lift x n), bxF 11 (w.heap.size + 1 + 1) (lift y n)] _ rfl (by kernel_rfl) (fun _ => undef) rfl (⟨h1, t0.later (Below.refl _ _).drew, t1.later (Below.refl _ _).drew, hx.later (Below.refl _ _).drew, hy.later (Below.refl _ _).drew, ⟨_, _, _, _, h2⟩, ⟨_, _, _, _, h3⟩, hby.later (Below.refl _ _).drew, hbel.drew⟩) ⟨?_, ?_, ?_, ?_, ?_, ?_, ?_, ?_, ?_, ?_, ?_, ?_, ?_, ?_, trivial⟩ ?_
  · exact Facts.pure hS hF (fun _ _ => rfl) rfl (fun x wv hSw hd => by
      go_simp)
  · exact Facts.pure hS hF (fun _ _ => rfl) rfl (fun x wv hSw hd => by
      go_simp)
  · exact Facts.pure hS hF (fun _ _ => rfl) rfl (fun x wv hSw hd => by
      have d1 := eqF_get (hd ⟨1, .data⟩ (by simp) rfl _ rfl)
      have g1 := hSw.1.cell1
      simp only [d1]
      go_simp)
  · exact Facts.pure hS hF (fun _ _ => rfl) rfl (fun x wv hSw hd => by
      have d2 := eqF_get (hd ⟨2, .data⟩ (by simp) rfl _ rfl)
      simp only [d2]
      go_simp)
  · exact Facts.loadT hS hF (fun _ _ => rfl) _ rfl rfl (fun x wv hSw hd => by have d3 := eqF_get (hd ⟨3, .data⟩ (by simp) rfl _ rfl); exact d3) (fun wv hSw => hSw.2.1)
  · refine Facts.callC (b := b) hS hF (fun _ _ => rfl) rfl rfl (fun x wv hSw hd => ?_)
    have d0 := eqF_get (hd ⟨0, .data⟩ (by simp) rfl _ rfl)
    have d4 := eqF_get (hd ⟨4, .data⟩ (by simp) rfl _ rfl)
    refine ⟨d0, ?_⟩
    have hc := lifted_is n0 p0 l0 c0 b n wv hSw.2.2.2.1 hSw.2.2.2.2.2.2.2.1 HB.out.1 HB.out.2.1
    rw [← d4] at hc
    exact hc
  · exact Facts.pure hS hF (fun _ _ => rfl) rfl (fun x wv hSw hd => by
      go_simp)
  · exact Facts.pure hS hF (fun _ _ => rfl) rfl (fun x wv hSw hd => by
      go_simp)
  · exact Facts.pure hS hF (fun _ _ => rfl) rfl (fun x wv hSw hd => by
      have d7 := eqF_get (hd ⟨7, .data⟩ (by simp) rfl _ rfl)
      have g1 := hSw.1.cell1
      simp only [d7]
      go_simp)
  · exact Facts.pure hS hF (fun _ _ => rfl) rfl (fun x wv hSw hd => by
      have d8 := eqF_get (hd ⟨8, .data⟩ (by simp) rfl _ rfl)
      simp only [d8]
      go_simp)
  · exact Facts.loadT hS hF (fun _ _ => rfl) _ rfl rfl (fun x wv hSw hd => by have d9 := eqF_get (hd ⟨9, .data⟩ (by simp) rfl _ rfl); exact d9) (fun wv hSw => hSw.2.2.1)
  · refine Facts.callC (b := b) hS hF (fun _ _ => rfl) rfl rfl (fun x wv hSw hd => ?_)
    have d6 := eqF_get (hd ⟨6, .data⟩ (by simp) rfl _ rfl)
    have d10 := eqF_get (hd ⟨10, .data⟩ (by simp) rfl _ rfl)
    refine ⟨d6, ?_⟩
    have hc := lifted_is n1 p1 l1 c1 b n wv hSw.2.2.2.2.1 hSw.2.2.2.2.2.2.2.1 HB.out.2.2.1 HB.out.2.2.2
    rw [← d10] at hc
    exact hc
  · exact Facts.storeT (fun _ _ => rfl) _ _ rfl (by decide) rfl (fun _ => rfl) (fun _ => rfl) (fun x wv hSw hd => isF_get (hd ⟨5, .data⟩ (by simp) rfl _ rfl)) (fun wv hSw => ⟨hSw.2.2.2.2.2.1, fun n p l c => (by obtain ⟨s1, s2, s3, s4, s5, ⟨_, _, _, _, s6⟩, ⟨_, _, _, _, s7⟩, s8, s9⟩ := hSw; exact ⟨s1.rowOther (by omega) _, s2.box_lo s6 s3 _, s3.box_hi s6 _, s4.box s6 _, s5.box s6 _, ⟨_, _, _, _, s6.row n p l c⟩, ⟨_, _, _, _, s7.rowOther (by omega) _⟩, s8.box s6 _, below_setRow s9 (by omega) _⟩)⟩) (fun j f hj hfj => by
      match j with
      | 0 => obtain rfl := Option.some.inj hfj; exact eqF_box _ _ _
      | 1 => obtain rfl := Option.some.inj hfj; exact eqF_box _ _ _
      | 2 => obtain rfl := Option.some.inj hfj; exact eqF_box _ _ _
      | 3 => obtain rfl := Option.some.inj hfj; exact eqF_box _ _ _
      | 4 => obtain rfl := Option.some.inj hfj; exact eqF_box _ _ _
      | 5 => obtain rfl := Option.some.inj hfj; exact isF_box _ _ _
      | 6 => obtain rfl := Option.some.inj hfj; exact eqF_box _ _ _
      | 7 => obtain rfl := Option.some.inj hfj; exact eqF_box _ _ _
      | 8 => obtain rfl := Option.some.inj hfj; exact eqF_box _ _ _
      | 9 => obtain rfl := Option.some.inj hfj; exact eqF_box _ _ _
      | 10 => obtain rfl := Option.some.inj hfj; exact eqF_box _ _ _
      | 11 => obtain rfl := Option.some.inj hfj; exact isF_box _ _ _
      | 13 => obtain rfl := Option.some.inj hfj; exact bxF_box _ _ _ _ (by omega)
      | 12 => exact absurd rfl hj
      | j + 14 => simp at hfj)
  · exact Facts.storeT (fun _ _ => rfl) _ _ rfl (by decide) rfl (fun _ => rfl) (fun _ => rfl) (fun x wv hSw hd => isF_get (hd ⟨11, .data⟩ (by simp) rfl _ rfl)) (fun wv hSw => ⟨hSw.2.2.2.2.2.2.1, fun n p l c => (by obtain ⟨s1, s2, s3, s4, s5, ⟨_, _, _, _, s6⟩, ⟨_, _, _, _, s7⟩, s8, s9⟩ := hSw; exact ⟨s1.rowOther (by omega) _, s2.box_lo s7 s3 _, s3.box_hi s7 _, s4.box s7 _, s5.box s7 _, ⟨_, _, _, _, s6.rowOther (by omega) _⟩, ⟨_, _, _, _, s7.row n p l c⟩, s8.box s7 _, below_setRow s9 (by omega) _⟩)⟩) (fun j f hj hfj => by
      match j with
      | 0 => obtain rfl := Option.some.inj hfj; exact eqF_box _ _ _
      | 1 => obtain rfl := Option.some.inj hfj; exact eqF_box _ _ _
      | 2 => obtain rfl := Option.some.inj hfj; exact eqF_box _ _ _
      | 3 => obtain rfl := Option.some.inj hfj; exact eqF_box _ _ _
      | 4 => obtain rfl := Option.some.inj hfj; exact eqF_box _ _ _
      | 5 => obtain rfl := Option.some.inj hfj; exact isF_box _ _ _
      | 6 => obtain rfl := Option.some.inj hfj; exact eqF_box _ _ _
      | 7 => obtain rfl := Option.some.inj hfj; exact eqF_box _ _ _
      | 8 => obtain rfl := Option.some.inj hfj; exact eqF_box _ _ _
      | 9 => obtain rfl := Option.some.inj hfj; exact eqF_box _ _ _
      | 10 => obtain rfl := Option.some.inj hfj; exact eqF_box _ _ _
      | 11 => obtain rfl := Option.some.inj hfj; exact isF_box _ _ _
      | 12 => obtain rfl := Option.some.inj hfj; exact bxF_box _ _ _ _ (by omega)
      | 13 => exact absurd rfl hj
      | j + 14 => simp at hfj)
  · rintro xv w9 ⟨_, _, _, _, _, _, _, _, hbel9⟩ hf
    obtain ⟨n2, p2, l2, c2, _, b2, i2⟩ := bxF_get (hf 12 _ (by decide) rfl)
    obtain ⟨n3, p3, l3, c3, _, b3, i3⟩ := bxF_get (hf 13 _ (by decide) rfl)
    clear hf hS hF
    go_wp2
    exact bodyPost_ret (results_tt rfl rfl b2 rfl b3) rfl ⟨_, _, _, _, _, _, _, _, rfl, i2, i3, hbel9⟩

theorem halves_any (x : EV) (room : Nat) (left : Int) (n : Int) (p : Option Addr) (l c : Nat) (w : World) (h : Is w x (TV n p l c)) (hr : rg x room left = true) (hl : left ≤ 1073741824) : Calls Try.prog 91 #[TV n p l c] w (GivesT (h0 x) (h1 x) w) := by
  rcases x with ⟨m, _ | ⟨x, y⟩⟩
  · obtain ⟨_, _, e⟩ := h
    simp at e
    obtain ⟨rfl, rfl, rfl, rfl⟩ := e
    exact halves_leaf n p c w
  · obtain ⟨g, o, c', n0, p0, l0, c0, n1, p1, l1, c1, e, t0, t1, hx, hy⟩ := h
    simp at e
    obtain ⟨rfl, rfl, rfl, rfl⟩ := e
    obtain ⟨b0, _, b1, b2⟩ := rg_kids hr
    have d1 := rg_n b1
    have d2 := rg_n b2
    exact halves_node x y n g o c n0 p0 l0 c0 n1 p1 l1 c1 w t0 t1 hx hy (show _ ∧ _ by omega)
end Go.Proofs.Ytmcajjdijjcpkaa
/- The function together of package events, at trees and at bools. -/
namespace Go.Proofs.Ytmcajjdijjcpkaa
open Go.RowKit

theorem two_new0 (w : World) : Bx ((w.alloc (.cells #[.int .i64 0, .slice none 0 0] 24)).alloc (.cells #[.int .i64 0, .slice none 0 0] 24)) w.heap.size 0 none 0 0 := (bx_new w 0 none 0 0).alloc _
theorem two_new1 (w : World) (n : Int) (p : Option Addr) (l c : Nat) : Bx (((w.alloc (.cells #[.int .i64 0, .slice none 0 0] 24)).alloc (.cells #[.int .i64 0, .slice none 0 0] 24)).setRow w.heap.size #[.int .i64 n, .slice p l c]) (w.heap.size + 1) 0 none 0 0 := (bx_next _ (by simp) 0 none 0 0).rowOther (by omega) _
theorem two_new (w : World) (n : Int) (p : Option Addr) (l c : Nat) (n' : Int) (p' : Option Addr) (l' c' : Nat) : ∀ w0, w0 = (((w.alloc (.cells #[.int .i64 0, .slice none 0 0] 24)).alloc (.cells #[.int .i64 0, .slice none 0 0] 24)).setRow w.heap.size #[.int .i64 n, .slice p l c]).setRow (w.heap.size + 1) #[.int .i64 n', .slice p' l' c'] →
    Bx w0 w.heap.size n p l c ∧ Bx w0 (w.heap.size + 1) n' p' l' c' ∧ Below w.heap.size w w0 := by
  rintro w0 rfl
  exact ⟨((two_new0 w).row n p l c).rowOther (by omega) _, (two_new1 w n p l c).row _ _ _ _, below_setRow (below_setRow (((Below.refl _ _).alloc (Nat.le_refl _) _).alloc (by simp) _) (Nat.le_refl _) _) (by omega) _⟩

set_option maxHeartbeats 8000000 in
set_option maxRecDepth 100000 in
theorem tog_step (X Y : EV) (x0 x1 y0 y1 : EV) (na : Int) (pa : Option Addr) (la ca : Nat) (nb : Int) (pb : Option Addr) (lb cb : Nat) (w : World) (hl : ¬ (la = 0 ∧ lb = 0)) (HB : Hid ((0 ≤ X.n ∧ X.n ≤ 1073741824) ∧ (0 ≤ Y.n ∧ Y.n ≤ 1073741824)))
    (rA : ∀ w1, Below w.heap.size w w1 → Calls Try.prog 91 #[TV na pa la ca] w1 (GivesT x0 x1 w1)) (rB : ∀ w1, Below w.heap.size w w1 → Calls Try.prog 91 #[TV nb pb lb cb] w1 (GivesT y0 y1 w1))
    (r0 : ∀ w1 n p l c n' p' l' c', Is w1 x0 (TV n p l c) → Is w1 y0 (TV n' p' l' c') → Calls Try.prog 64 #[TV n p l c, TV n' p' l' c', .func (.func 65) #[] #[], .func (.func 66) #[] #[]] w1 (Gives X w1))
    (r1 : ∀ w1 n p l c n' p' l' c', Is w1 x1 (TV n p l c) → Is w1 y1 (TV n' p' l' c') → Calls Try.prog 64 #[TV n p l c, TV n' p' l' c', .func (.func 65) #[] #[], .func (.func 66) #[] #[]] w1 (Gives Y w1)) :
    Calls Try.prog 64 #[TV na pa la ca, TV nb pb lb cb, .func (.func 65) #[] #[], .func (.func 66) #[] #[]] w (Gives (mk X Y) w) := by
  obtain ⟨h1, h2, h3, hbel⟩ := three_box w na pa la ca nb pb lb cb 0 none 0 0 _ rfl
  have hC := isLeaf_any na pa la ca
  have hC' := isLeaf_any nb pb lb cb
  have HL : Hid ((decide (la = 0) && decide (lb = 0)) = false) := by show _ = _; rw [Bool.eq_false_iff]; simpa using hl
  clear hl
  generalize decide (la = 0) = fa at hC HL
  generalize decide (lb = 0) = fb at hC' HL
  go_enter Try.func64, Try.ntmps64
  go_wp2_with (refine load_t _ rfl rfl _ _ rfl h1.tat ?_)
  refine (hC _).mono ?_
  rintro e w1 ⟨rfl, hb1⟩
  replace h1 := h1.later hb1
  replace h2 := h2.later hb1
  replace h3 := h3.later hb1
  replace hbel := below_on hbel hb1
  clear hb1 hC
  cases fa
  · clear hC' HL
    go_wp2_with (first | refine load_t _ rfl rfl _ _ rfl h1.tat ?_)
    refine (rA _ hbel).mono ?_
    rintro e w3 ⟨na0, pa0, la0, ca0, na1, pa1, la1, ca1, rfl, i1, i2, hb1⟩
    replace h1 := h1.later hb1
    replace h2 := h2.later hb1
    replace h3 := h3.later hb1
    replace hbel := below_on hbel hb1
    clear hb1
    have m0 := two_new0 w3
    have m1 := two_new1 w3 na0 pa0 la0 ca0
    obtain ⟨k1, k2, hb1⟩ := two_new w3 na0 pa0 la0 ca0 na1 pa1 la1 ca1 _ rfl
    generalize hw : (((w3.alloc (.cells #[.int .i64 0, .slice none 0 0] 24)).alloc (.cells #[.int .i64 0, .slice none 0 0] 24)).setRow w3.heap.size #[.int .i64 na0, .slice pa0 la0 ca0]).setRow (w3.heap.size + 1) #[.int .i64 na1, .slice pa1 la1 ca1] = vw3 at k1 k2 hb1
    have hqq := h3.lt
    replace h1 := h1.later hb1
    replace h2 := h2.later hb1
    replace h3 := h3.later hb1
    replace i1 := i1.later hb1
    replace i2 := i2.later hb1
    replace hbel := below_on hbel hb1
    clear hb1
    go_wp2_with (first | rw [hw] | refine store_t rfl _ _ rfl _ na0 pa0 la0 ca0 rfl rfl m0 ?_ | refine store_t rfl _ _ rfl _ na1 pa1 la1 ca1 rfl rfl m1 ?_ | refine load_t _ rfl rfl _ _ rfl h2.tat ?_)
    clear m0 m1 hw
    generalize w3.heap.size = q at k1 k2 hqq ⊢
    refine (rB _ hbel).mono ?_
    rintro e w4 ⟨nb0, pb0, lb0, cb0, nb1, pb1, lb1, cb1, rfl, i3, i4, hb1⟩
    replace h1 := h1.later hb1
    replace h2 := h2.later hb1
    replace h3 := h3.later hb1
    replace i1 := i1.later hb1
    replace i2 := i2.later hb1
    replace k1 := k1.later hb1
    replace k2 := k2.later hb1
    replace hbel := below_on hbel hb1
    clear hb1
    have m0 := two_new0 w4
    have m1 := two_new1 w4 nb0 pb0 lb0 cb0
    obtain ⟨k3, k4, hb1⟩ := two_new w4 nb0 pb0 lb0 cb0 nb1 pb1 lb1 cb1 _ rfl
    generalize hw : (((w4.alloc (.cells #[.int .i64 0, .slice none 0 0] 24)).alloc (.cells #[.int .i64 0, .slice none 0 0] 24)).setRow w4.heap.size #[.int .i64 nb0, .slice pb0 lb0 cb0]).setRow (w4.heap.size + 1) #[.int .i64 nb1, .slice pb1 lb1 cb1] = vw4 at k3 k4 hb1
    have hqr := h3.lt
    replace h1 := h1.later hb1
    replace h2 := h2.later hb1
    replace h3 := h3.later hb1
    replace i1 := i1.later hb1
    replace i2 := i2.later hb1
    replace k1 := k1.later hb1
    replace k2 := k2.later hb1
    replace i3 := i3.later hb1
    replace i4 := i4.later hb1
    replace hbel := below_on hbel hb1
    clear hb1
    go_wp2_with (first | rw [hw] | refine store_t rfl _ _ rfl _ nb0 pb0 lb0 cb0 rfl rfl m0 ?_ | refine store_t rfl _ _ rfl _ nb1 pb1 lb1 cb1 rfl rfl m1 ?_ | refine load_t _ rfl rfl _ _ rfl h2.tat ?_)
    clear m0 m1 hw
    generalize w4.heap.size = r at k3 k4 hqr ⊢
    have hS : Calm.Stays (fun w' => Bx w' q na0 pa0 la0 ca0 ∧ Bx w' (q + 1) na1 pa1 la1 ca1 ∧ Bx w' r nb0 pb0 lb0 cb0 ∧ Bx w' (r + 1) nb1 pb1 lb1 cb1 ∧ Is w' x0 (TV na0 pa0 la0 ca0) ∧ Is w' x1 (TV na1 pa1 la1 ca1) ∧ Is w' y0 (TV nb0 pb0 lb0 cb0) ∧ Is w' y1 (TV nb1 pb1 lb1 cb1) ∧ (∃ n p l c, Bx w' (w.heap.size + 1 + 1) n p l c) ∧ Below w.heap.size w w') := fun wa wb h hb => ⟨h.1.later hb, h.2.1.later hb, h.2.2.1.later hb, h.2.2.2.1.later hb, h.2.2.2.2.1.later hb, h.2.2.2.2.2.1.later hb, h.2.2.2.2.2.2.1.later hb, h.2.2.2.2.2.2.2.1.later hb, (by obtain ⟨n, p, l, c, h2⟩ := h.2.2.2.2.2.2.2.2.1; exact ⟨n, p, l, c, h2.later hb⟩), below_on h.2.2.2.2.2.2.2.2.2 hb⟩
    have hF : Facts.Stay [eqF 0 (.func (.func 66) #[] #[]), eqF 1 (TV na0 pa0 la0 ca0), eqF 2 (TV nb0 pb0 lb0 cb0), eqF 3 (.func (.func 65) #[] #[]), eqF 4 (.func (.func 66) #[] #[]), isF 5 X, eqF 6 (TV na1 pa1 la1 ca1), eqF 7 (TV nb1 pb1 lb1 cb1), eqF 8 (.func (.func 65) #[] #[]), eqF 9 (.func (.func 66) #[] #[]), isF 10 Y, isF 11 (mk X Y), bxF 11 (w.heap.size + 1 + 1) (mk X Y)] := stay_of (by simp only [List.forall_mem_cons]; exact ⟨eqF_stays _ _, eqF_stays _ _, eqF_stays _ _, eqF_stays _ _, eqF_stays _ _, isF_stays _ _, eqF_stays _ _, eqF_stays _ _, eqF_stays _ _, eqF_stays _ _, isF_stays _ _, isF_stays _ _, bxF_stays _ _ _, fun _ h => by cases h⟩)
    refine Facts.region (by kernel_rfl) (by kernel_rfl) (fun w' => Bx w' q na0 pa0 la0 ca0 ∧ Bx w' (q + 1) na1 pa1 la1 ca1 ∧ Bx w' r nb0 pb0 lb0 cb0 ∧ Bx w' (r + 1) nb1 pb1 lb1 cb1 ∧ Is w' x0 (TV na0 pa0 la0 ca0) ∧ Is w' x1 (TV na1 pa1 la1 ca1) ∧ Is w' y0 (TV nb0 pb0 lb0 cb0) ∧ Is w' y1 (TV nb1 pb1 lb1 cb1) ∧ (∃ n p l c, Bx w' (w.heap.size + 1 + 1) n p l c) ∧ Below w.heap.size w w') (fun x => { tmps := #[TV na pa la ca, TV nb pb lb cb, .func (.func 65) #[] #[], .func (.func 66) #[] #[], .pointer (some ⟨w.heap.size, 0, none⟩), .pointer (some ⟨w.heap.size + 1, 0, none⟩), undef, undef, .pointer (some ⟨w.heap.size + 1 + 1, 0, none⟩), .pointer (some ⟨q, 0, none⟩), .pointer (some ⟨q + 1, 0, none⟩), .pointer (some ⟨r, 0, none⟩), .pointer (some ⟨r + 1, 0, none⟩), TV na pa la ca, .bool false, .bool false, undef, undef, .bool false, undef, undef, undef, undef, undef, undef, .tuple #[TV na0 pa0 la0 ca0, TV na1 pa1 la1 ca1], TV na pa la ca, .tuple #[TV na0 pa0 la0 ca0, TV na1 pa1 la1 ca1], TV na0 pa0 la0 ca0, TV na1 pa1 la1 ca1, .tuple #[TV nb0 pb0 lb0 cb0, TV nb1 pb1 lb1 cb1], TV nb pb lb cb, .tuple #[TV nb0 pb0 lb0 cb0, TV nb1 pb1 lb1 cb1], TV nb0 pb0 lb0 cb0, TV nb1 pb1 lb1 cb1, x 0, x 1, x 2, x 3, x 4, x 5, x 6, x 7, x 8, x 9, x 10, x 11], defers := [] }) [eqF 0 (.func (.func 66) #[] #[]), eqF 1 (TV na0 pa0 la0 ca0), eqF 2 (TV nb0 pb0 lb0 cb0), eqF 3 (.func (.func 65) #[] #[]), eqF 4 (.func (.func 66) #[] #[]), isF 5 X, eqF 6 (TV na1 pa1 la1 ca1), eqF 7 (TV nb1 pb1 lb1 cb1), eqF 8 (.func (.func 65) #[] #[]), eqF 9 (.func (.func 66) #[] #[]), isF 10 Y, isF 11 (mk X Y), bxF 11 (w.heap.size + 1 + 1) (mk X Y)] _ rfl (by kernel_rfl) (fun _ => undef) rfl (⟨k1, k2, k3, k4, i1.later (Below.refl _ _).drew, i2.later (Below.refl _ _).drew, i3.later (Below.refl _ _).drew, i4.later (Below.refl _ _).drew, ⟨_, _, _, _, h3⟩, hbel.drew⟩) ⟨?_, ?_, ?_, ?_, ?_, ?_, ?_, ?_, ?_, ?_, ?_, ?_, ?_, trivial⟩ ?_
    · exact Facts.pure hS hF (fun _ _ => rfl) rfl (fun x wv hSw hd => by
        go_simp)
    · exact Facts.loadT hS hF (fun _ _ => rfl) _ rfl rfl (fun x wv hSw hd => by rfl) (fun wv hSw => hSw.1.tat)
    · exact Facts.loadT hS hF (fun _ _ => rfl) _ rfl rfl (fun x wv hSw hd => by rfl) (fun wv hSw => hSw.2.2.1.tat)
    · exact Facts.pure hS hF (fun _ _ => rfl) rfl (fun x wv hSw hd => by
        go_simp)
    · exact Facts.pure hS hF (fun _ _ => rfl) rfl (fun x wv hSw hd => by
        go_simp)
    · refine Facts.call4T hS hF (fun _ _ => rfl) rfl (by kernel_rfl) rfl (fun x wv hSw hd => ?_)
      have d1 := eqF_get (hd ⟨1, .data⟩ (by simp) rfl _ rfl)
      have d2 := eqF_get (hd ⟨2, .data⟩ (by simp) rfl _ rfl)
      have d3 := eqF_get (hd ⟨3, .data⟩ (by simp) rfl _ rfl)
      have d4 := eqF_get (hd ⟨4, .data⟩ (by simp) rfl _ rfl)
      have hc := r0 wv _ _ _ _ _ _ _ _ hSw.2.2.2.2.1 hSw.2.2.2.2.2.2.1
      rw [← d1, ← d2, ← d3, ← d4] at hc
      exact hc
    · exact Facts.loadT hS hF (fun _ _ => rfl) _ rfl rfl (fun x wv hSw hd => by rfl) (fun wv hSw => hSw.2.1.tat)
    · exact Facts.loadT hS hF (fun _ _ => rfl) _ rfl rfl (fun x wv hSw hd => by rfl) (fun wv hSw => hSw.2.2.2.1.tat)
    · exact Facts.pure hS hF (fun _ _ => rfl) rfl (fun x wv hSw hd => by
        go_simp)
    · exact Facts.pure hS hF (fun _ _ => rfl) rfl (fun x wv hSw hd => by
        go_simp)
    · refine Facts.call4T hS hF (fun _ _ => rfl) rfl (by kernel_rfl) rfl (fun x wv hSw hd => ?_)
      have d6 := eqF_get (hd ⟨6, .data⟩ (by simp) rfl _ rfl)
      have d7 := eqF_get (hd ⟨7, .data⟩ (by simp) rfl _ rfl)
      have d8 := eqF_get (hd ⟨8, .data⟩ (by simp) rfl _ rfl)
      have d9 := eqF_get (hd ⟨9, .data⟩ (by simp) rfl _ rfl)
      have hc := r1 wv _ _ _ _ _ _ _ _ hSw.2.2.2.2.2.1 hSw.2.2.2.2.2.2.2.1
      rw [← d6, ← d7, ← d8, ← d9] at hc
      exact hc
    · refine Facts.callF2T (fn := 66) hS hF (fun _ _ => rfl) rfl (by kernel_rfl) rfl (fun x wv hSw hd => ?_)
      have d0 := eqF_get (hd ⟨0, .data⟩ (by simp) rfl _ rfl)
      obtain ⟨n5i, p5i, l5i, c5i, d5, e5⟩ := isF_get (hd ⟨5, .data⟩ (by simp) rfl _ rfl)
      obtain ⟨n10i, p10i, l10i, c10i, d10, e10⟩ := isF_get (hd ⟨10, .data⟩ (by simp) rfl _ rfl)
      refine ⟨d0, ?_⟩
      have hc := pair_any X Y _ _ _ _ _ _ _ _ _ e5 e10 HB.out.1 HB.out.2
      rw [← d5, ← d10] at hc
      exact hc
    · exact Facts.storeT (fun _ _ => rfl) _ _ rfl (by decide) rfl (fun _ => rfl) (fun _ => rfl) (fun x wv hSw hd => isF_get (hd ⟨11, .data⟩ (by simp) rfl _ rfl)) (fun wv hSw => ⟨hSw.2.2.2.2.2.2.2.2.1, fun n p l c => (by obtain ⟨s1, s2, s3, s4, s5, s6, s7, s8, ⟨_, _, _, _, s9⟩, s0⟩ := hSw; exact ⟨s1.rowOther (by omega) _, s2.rowOther (by omega) _, s3.rowOther (by omega) _, s4.rowOther (by omega) _, s5.box s9 _, s6.box s9 _, s7.box s9 _, s8.box s9 _, ⟨_, _, _, _, s9.row n p l c⟩, below_setRow s0 (by omega) _⟩)⟩) (fun j f hj hfj => by
        match j with
        | 0 => obtain rfl := Option.some.inj hfj; exact eqF_box _ _ _
        | 1 => obtain rfl := Option.some.inj hfj; exact eqF_box _ _ _
        | 2 => obtain rfl := Option.some.inj hfj; exact eqF_box _ _ _
        | 3 => obtain rfl := Option.some.inj hfj; exact eqF_box _ _ _
        | 4 => obtain rfl := Option.some.inj hfj; exact eqF_box _ _ _
        | 5 => obtain rfl := Option.some.inj hfj; exact isF_box _ _ _
        | 6 => obtain rfl := Option.some.inj hfj; exact eqF_box _ _ _
        | 7 => obtain rfl := Option.some.inj hfj; exact eqF_box _ _ _
        | 8 => obtain rfl := Option.some.inj hfj; exact eqF_box _ _ _
        | 9 => obtain rfl := Option.some.inj hfj; exact eqF_box _ _ _
        | 10 => obtain rfl := Option.some.inj hfj; exact isF_box _ _ _
        | 11 => obtain rfl := Option.some.inj hfj; exact isF_box _ _ _
        | 12 => exact absurd rfl hj
        | j + 13 => simp at hfj)
    · rintro xv w9 ⟨_, _, _, _, _, _, _, _, _, hbel9⟩ hf
      obtain ⟨n9, p9, l9, c9, _, hbx, hi⟩ := bxF_get (hf 12 _ (by decide) rfl)
      clear hf hS hF
      go_wp2
      exact bodyPost_ret (results_t rfl rfl hbx) rfl ⟨_, _, _, _, rfl, hi, hbel9⟩
  · obtain rfl : fb = false := HL.out
    clear HL
    go_wp2_with (refine load_t _ rfl rfl _ _ rfl h2.tat ?_)
    refine (hC' _).mono ?_
    rintro e w2 ⟨rfl, hb1⟩
    replace h1 := h1.later hb1
    replace h2 := h2.later hb1
    replace h3 := h3.later hb1
    replace hbel := below_on hbel hb1
    clear hb1 hC'
    go_wp2_with (first | refine load_t _ rfl rfl _ _ rfl h1.tat ?_)
    refine (rA _ hbel).mono ?_
    rintro e w3 ⟨na0, pa0, la0, ca0, na1, pa1, la1, ca1, rfl, i1, i2, hb1⟩
    replace h1 := h1.later hb1
    replace h2 := h2.later hb1
    replace h3 := h3.later hb1
    replace hbel := below_on hbel hb1
    clear hb1
    have m0 := two_new0 w3
    have m1 := two_new1 w3 na0 pa0 la0 ca0
    obtain ⟨k1, k2, hb1⟩ := two_new w3 na0 pa0 la0 ca0 na1 pa1 la1 ca1 _ rfl
    generalize hw : (((w3.alloc (.cells #[.int .i64 0, .slice none 0 0] 24)).alloc (.cells #[.int .i64 0, .slice none 0 0] 24)).setRow w3.heap.size #[.int .i64 na0, .slice pa0 la0 ca0]).setRow (w3.heap.size + 1) #[.int .i64 na1, .slice pa1 la1 ca1] = vw3 at k1 k2 hb1
    have hqq := h3.lt
    replace h1 := h1.later hb1
    replace h2 := h2.later hb1
    replace h3 := h3.later hb1
    replace i1 := i1.later hb1
    replace i2 := i2.later hb1
    replace hbel := below_on hbel hb1
    clear hb1
    go_wp2_with (first | rw [hw] | refine store_t rfl _ _ rfl _ na0 pa0 la0 ca0 rfl rfl m0 ?_ | refine store_t rfl _ _ rfl _ na1 pa1 la1 ca1 rfl rfl m1 ?_ | refine load_t _ rfl rfl _ _ rfl h2.tat ?_)
    clear m0 m1 hw
    generalize w3.heap.size = q at k1 k2 hqq ⊢
    refine (rB _ hbel).mono ?_
    rintro e w4 ⟨nb0, pb0, lb0, cb0, nb1, pb1, lb1, cb1, rfl, i3, i4, hb1⟩
    replace h1 := h1.later hb1
    replace h2 := h2.later hb1
    replace h3 := h3.later hb1
    replace i1 := i1.later hb1
    replace i2 := i2.later hb1
    replace k1 := k1.later hb1
    replace k2 := k2.later hb1
    replace hbel := below_on hbel hb1
    clear hb1
    have m0 := two_new0 w4
    have m1 := two_new1 w4 nb0 pb0 lb0 cb0
    obtain ⟨k3, k4, hb1⟩ := two_new w4 nb0 pb0 lb0 cb0 nb1 pb1 lb1 cb1 _ rfl
    generalize hw : (((w4.alloc (.cells #[.int .i64 0, .slice none 0 0] 24)).alloc (.cells #[.int .i64 0, .slice none 0 0] 24)).setRow w4.heap.size #[.int .i64 nb0, .slice pb0 lb0 cb0]).setRow (w4.heap.size + 1) #[.int .i64 nb1, .slice pb1 lb1 cb1] = vw4 at k3 k4 hb1
    have hqr := h3.lt
    replace h1 := h1.later hb1
    replace h2 := h2.later hb1
    replace h3 := h3.later hb1
    replace i1 := i1.later hb1
    replace i2 := i2.later hb1
    replace k1 := k1.later hb1
    replace k2 := k2.later hb1
    replace i3 := i3.later hb1
    replace i4 := i4.later hb1
    replace hbel := below_on hbel hb1
    clear hb1
    go_wp2_with (first | rw [hw] | refine store_t rfl _ _ rfl _ nb0 pb0 lb0 cb0 rfl rfl m0 ?_ | refine store_t rfl _ _ rfl _ nb1 pb1 lb1 cb1 rfl rfl m1 ?_ | refine load_t _ rfl rfl _ _ rfl h2.tat ?_)
    clear m0 m1 hw
    generalize w4.heap.size = r at k3 k4 hqr ⊢
    have hS : Calm.Stays (fun w' => Bx w' q na0 pa0 la0 ca0 ∧ Bx w' (q + 1) na1 pa1 la1 ca1 ∧ Bx w' r nb0 pb0 lb0 cb0 ∧ Bx w' (r + 1) nb1 pb1 lb1 cb1 ∧ Is w' x0 (TV na0 pa0 la0 ca0) ∧ Is w' x1 (TV na1 pa1 la1 ca1) ∧ Is w' y0 (TV nb0 pb0 lb0 cb0) ∧ Is w' y1 (TV nb1 pb1 lb1 cb1) ∧ (∃ n p l c, Bx w' (w.heap.size + 1 + 1) n p l c) ∧ Below w.heap.size w w') := fun wa wb h hb => ⟨h.1.later hb, h.2.1.later hb, h.2.2.1.later hb, h.2.2.2.1.later hb, h.2.2.2.2.1.later hb, h.2.2.2.2.2.1.later hb, h.2.2.2.2.2.2.1.later hb, h.2.2.2.2.2.2.2.1.later hb, (by obtain ⟨n, p, l, c, h2⟩ := h.2.2.2.2.2.2.2.2.1; exact ⟨n, p, l, c, h2.later hb⟩), below_on h.2.2.2.2.2.2.2.2.2 hb⟩
    have hF : Facts.Stay [eqF 0 (.func (.func 66) #[] #[]), eqF 1 (TV na0 pa0 la0 ca0), eqF 2 (TV nb0 pb0 lb0 cb0), eqF 3 (.func (.func 65) #[] #[]), eqF 4 (.func (.func 66) #[] #[]), isF 5 X, eqF 6 (TV na1 pa1 la1 ca1), eqF 7 (TV nb1 pb1 lb1 cb1), eqF 8 (.func (.func 65) #[] #[]), eqF 9 (.func (.func 66) #[] #[]), isF 10 Y, isF 11 (mk X Y), bxF 11 (w.heap.size + 1 + 1) (mk X Y)] := stay_of (by simp only [List.forall_mem_cons]; exact ⟨eqF_stays _ _, eqF_stays _ _, eqF_stays _ _, eqF_stays _ _, eqF_stays _ _, isF_stays _ _, eqF_stays _ _, eqF_stays _ _, eqF_stays _ _, eqF_stays _ _, isF_stays _ _, isF_stays _ _, bxF_stays _ _ _, fun _ h => by cases h⟩)
    refine Facts.region (by kernel_rfl) (by kernel_rfl) (fun w' => Bx w' q na0 pa0 la0 ca0 ∧ Bx w' (q + 1) na1 pa1 la1 ca1 ∧ Bx w' r nb0 pb0 lb0 cb0 ∧ Bx w' (r + 1) nb1 pb1 lb1 cb1 ∧ Is w' x0 (TV na0 pa0 la0 ca0) ∧ Is w' x1 (TV na1 pa1 la1 ca1) ∧ Is w' y0 (TV nb0 pb0 lb0 cb0) ∧ Is w' y1 (TV nb1 pb1 lb1 cb1) ∧ (∃ n p l c, Bx w' (w.heap.size + 1 + 1) n p l c) ∧ Below w.heap.size w w') (fun x => { tmps := #[TV na pa la ca, TV nb pb lb cb, .func (.func 65) #[] #[], .func (.func 66) #[] #[], .pointer (some ⟨w.heap.size, 0, none⟩), .pointer (some ⟨w.heap.size + 1, 0, none⟩), undef, undef, .pointer (some ⟨w.heap.size + 1 + 1, 0, none⟩), .pointer (some ⟨q, 0, none⟩), .pointer (some ⟨q + 1, 0, none⟩), .pointer (some ⟨r, 0, none⟩), .pointer (some ⟨r + 1, 0, none⟩), TV na pa la ca, .bool true, .bool true, TV nb pb lb cb, .bool false, .bool false, undef, undef, undef, undef, undef, undef, .tuple #[TV na0 pa0 la0 ca0, TV na1 pa1 la1 ca1], TV na pa la ca, .tuple #[TV na0 pa0 la0 ca0, TV na1 pa1 la1 ca1], TV na0 pa0 la0 ca0, TV na1 pa1 la1 ca1, .tuple #[TV nb0 pb0 lb0 cb0, TV nb1 pb1 lb1 cb1], TV nb pb lb cb, .tuple #[TV nb0 pb0 lb0 cb0, TV nb1 pb1 lb1 cb1], TV nb0 pb0 lb0 cb0, TV nb1 pb1 lb1 cb1, x 0, x 1, x 2, x 3, x 4, x 5, x 6, x 7, x 8, x 9, x 10, x 11], defers := [] }) [eqF 0 (.func (.func 66) #[] #[]), eqF 1 (TV na0 pa0 la0 ca0), eqF 2 (TV nb0 pb0 lb0 cb0), eqF 3 (.func (.func 65) #[] #[]), eqF 4 (.func (.func 66) #[] #[]), isF 5 X, eqF 6 (TV na1 pa1 la1 ca1), eqF 7 (TV nb1 pb1 lb1 cb1), eqF 8 (.func (.func 65) #[] #[]), eqF 9 (.func (.func 66) #[] #[]), isF 10 Y, isF 11 (mk X Y), bxF 11 (w.heap.size + 1 + 1) (mk X Y)] _ rfl (by kernel_rfl) (fun _ => undef) rfl (⟨k1, k2, k3, k4, i1.later (Below.refl _ _).drew, i2.later (Below.refl _ _).drew, i3.later (Below.refl _ _).drew, i4.later (Below.refl _ _).drew, ⟨_, _, _, _, h3⟩, hbel.drew⟩) ⟨?_, ?_, ?_, ?_, ?_, ?_, ?_, ?_, ?_, ?_, ?_, ?_, ?_, trivial⟩ ?_
    · exact Facts.pure hS hF (fun _ _ => rfl) rfl (fun x wv hSw hd => by
        go_simp)
    · exact Facts.loadT hS hF (fun _ _ => rfl) _ rfl rfl (fun x wv hSw hd => by rfl) (fun wv hSw => hSw.1.tat)
    · exact Facts.loadT hS hF (fun _ _ => rfl) _ rfl rfl (fun x wv hSw hd => by rfl) (fun wv hSw => hSw.2.2.1.tat)
    · exact Facts.pure hS hF (fun _ _ => rfl) rfl (fun x wv hSw hd => by
        go_simp)
    · exact Facts.pure hS hF (fun _ _ => rfl) rfl (fun x wv hSw hd => by
        go_simp)
    · refine Facts.call4T hS hF (fun _ _ => rfl) rfl (by kernel_rfl) rfl (fun x wv hSw hd => ?_)
      have d1 := eqF_get (hd ⟨1, .data⟩ (by simp) rfl _ rfl)
      have d2 := eqF_get (hd ⟨2, .data⟩ (by simp) rfl _ rfl)
      have d3 := eqF_get (hd ⟨3, .data⟩ (by simp) rfl _ rfl)
      have d4 := eqF_get (hd ⟨4, .data⟩ (by simp) rfl _ rfl)
      have hc := r0 wv _ _ _ _ _ _ _ _ hSw.2.2.2.2.1 hSw.2.2.2.2.2.2.1
      rw [← d1, ← d2, ← d3, ← d4] at hc
      exact hc
    · exact Facts.loadT hS hF (fun _ _ => rfl) _ rfl rfl (fun x wv hSw hd => by rfl) (fun wv hSw => hSw.2.1.tat)
    · exact Facts.loadT hS hF (fun _ _ => rfl) _ rfl rfl (fun x wv hSw hd => by rfl) (fun wv hSw => hSw.2.2.2.1.tat)
    · exact Facts.pure hS hF (fun _ _ => rfl) rfl (fun x wv hSw hd => by
        go_simp)
    · exact Facts.pure hS hF (fun _ _ => rfl) rfl (fun x wv hSw hd => by
        go_simp)
    · refine Facts.call4T hS hF (fun _ _ => rfl) rfl (by kernel_rfl) rfl (fun x wv hSw hd => ?_)
      have d6 := eqF_get (hd ⟨6, .data⟩ (by simp) rfl _ rfl)
      have d7 := eqF_get (hd ⟨7, .data⟩ (by simp) rfl _ rfl)
      have d8 := eqF_get (hd ⟨8, .data⟩ (by simp) rfl _ rfl)
      have d9 := eqF_get (hd ⟨9, .data⟩ (by simp) rfl _ rfl)
      have hc := r1 wv _ _ _ _ _ _ _ _ hSw.2.2.2.2.2.1 hSw.2.2.2.2.2.2.2.1
      rw [← d6, ← d7, ← d8, ← d9] at hc
      exact hc
    · refine Facts.callF2T (fn := 66) hS hF (fun _ _ => rfl) rfl (by kernel_rfl) rfl (fun x wv hSw hd => ?_)
      have d0 := eqF_get (hd ⟨0, .data⟩ (by simp) rfl _ rfl)
      obtain ⟨n5i, p5i, l5i, c5i, d5, e5⟩ := isF_get (hd ⟨5, .data⟩ (by simp) rfl _ rfl)
      obtain ⟨n10i, p10i, l10i, c10i, d10, e10⟩ := isF_get (hd ⟨10, .data⟩ (by simp) rfl _ rfl)
      refine ⟨d0, ?_⟩
      have hc := pair_any X Y _ _ _ _ _ _ _ _ _ e5 e10 HB.out.1 HB.out.2
      rw [← d5, ← d10] at hc
      exact hc
    · exact Facts.storeT (fun _ _ => rfl) _ _ rfl (by decide) rfl (fun _ => rfl) (fun _ => rfl) (fun x wv hSw hd => isF_get (hd ⟨11, .data⟩ (by simp) rfl _ rfl)) (fun wv hSw => ⟨hSw.2.2.2.2.2.2.2.2.1, fun n p l c => (by obtain ⟨s1, s2, s3, s4, s5, s6, s7, s8, ⟨_, _, _, _, s9⟩, s0⟩ := hSw; exact ⟨s1.rowOther (by omega) _, s2.rowOther (by omega) _, s3.rowOther (by omega) _, s4.rowOther (by omega) _, s5.box s9 _, s6.box s9 _, s7.box s9 _, s8.box s9 _, ⟨_, _, _, _, s9.row n p l c⟩, below_setRow s0 (by omega) _⟩)⟩) (fun j f hj hfj => by
        match j with
        | 0 => obtain rfl := Option.some.inj hfj; exact eqF_box _ _ _
        | 1 => obtain rfl := Option.some.inj hfj; exact eqF_box _ _ _
        | 2 => obtain rfl := Option.some.inj hfj; exact eqF_box _ _ _
        | 3 => obtain rfl := Option.some.inj hfj; exact eqF_box _ _ _
        | 4 => obtain rfl := Option.some.inj hfj; exact eqF_box _ _ _
        | 5 => obtain rfl := Option.some.inj hfj; exact isF_box _ _ _
        | 6 => obtain rfl := Option.some.inj hfj; exact eqF_box _ _ _
        | 7 => obtain rfl := Option.some.inj hfj; exact eqF_box _ _ _
        | 8 => obtain rfl := Option.some.inj hfj; exact eqF_box _ _ _
        | 9 => obtain rfl := Option.some.inj hfj; exact eqF_box _ _ _
        | 10 => obtain rfl := Option.some.inj hfj; exact isF_box _ _ _
        | 11 => obtain rfl := Option.some.inj hfj; exact isF_box _ _ _
        | 12 => exact absurd rfl hj
        | j + 13 => simp at hfj)
    · rintro xv w9 ⟨_, _, _, _, _, _, _, _, _, hbel9⟩ hf
      obtain ⟨n9, p9, l9, c9, _, hbx, hi⟩ := bxF_get (hf 12 _ (by decide) rfl)
      clear hf hS hF
      go_wp2
      exact bodyPost_ret (results_t rfl rfl hbx) rfl ⟨_, _, _, _, rfl, hi, hbel9⟩

set_option maxHeartbeats 2000000 in
set_option maxRecDepth 100000 in
theorem tog_leaf (na : Int) (pa : Option Addr) (ca : Nat) (nb : Int) (pb : Option Addr) (cb : Nat) (w : World) :
    Calls Try.prog 64 #[TV na pa 0 ca, TV nb pb 0 cb, .func (.func 65) #[] #[], .func (.func 66) #[] #[]] w (Gives (.leaf (max na nb)) w) := by
  obtain ⟨h1, h2, h3, hbel⟩ := three_box w na pa 0 ca nb pb 0 cb 0 none 0 0 _ rfl
  go_enter Try.func64, Try.ntmps64
  go_wp2_with (refine load_t _ rfl rfl _ _ rfl h1.tat ?_)
  refine (isLeaf_any na pa 0 ca _).mono ?_
  rintro e w1 ⟨rfl, hb1⟩
  replace h1 := h1.later hb1
  replace h2 := h2.later hb1
  replace h3 := h3.later hb1
  replace hbel := below_on hbel hb1
  clear hb1
  go_wp2_with (refine load_t _ rfl rfl _ _ rfl h2.tat ?_)
  refine (isLeaf_any nb pb 0 cb _).mono ?_
  rintro e w2 ⟨rfl, hb1⟩
  replace h1 := h1.later hb1
  replace h2 := h2.later hb1
  replace h3 := h3.later hb1
  replace hbel := below_on hbel hb1
  clear hb1
  have g0 := h1.cell0
  have g1 := h2.cell0
  go_wp2_with fail
  refine (greaterLeaf_any na nb _).mono ?_
  rintro e w3 ⟨n3, p3, l3, c3, rfl, hi, hb1⟩
  replace h3 := h3.later hb1
  replace hbel := below_on hbel hb1
  have R := below_setRow hbel (g := w.heap.size + 1 + 1) (by omega) #[.int .i64 n3, .slice p3 l3 c3]
  clear hb1 g0 g1 h1 h2
  go_wp2_with (refine store_t rfl _ _ rfl _ n3 p3 l3 c3 rfl rfl h3 ?_)
  exact bodyPost_ret (results_t rfl rfl (h3.row _ _ _ _)) rfl ⟨_, _, _, _, rfl, hi.box h3 _, R⟩

theorem tog_any : ∀ (k : Nat) (a b : EV) (left : Int) (na : Int) (pa : Option Addr) (la ca : Nat) (nb : Int) (pb : Option Addr) (lb cb : Nat) (w : World), rg a k left = true → rg b k left = true → left ≤ 1073741824 → Is w a (TV na pa la ca) → Is w b (TV nb pb lb cb) →
    Calls Try.prog 64 #[TV na pa la ca, TV nb pb lb cb, .func (.func 65) #[] #[], .func (.func 66) #[] #[]] w (Gives (join k a b) w) := by
  intro k
  induction k with
  | zero =>
    intro a b left na pa la ca nb pb lb cb w ra rb hl ha hb
    have ea := leaf_of_depth (rg_depth ra)
    have eb := leaf_of_depth (rg_depth rb)
    rw [ea] at ha ⊢
    rw [eb] at hb ⊢
    obtain ⟨_, _, e⟩ := ha
    obtain ⟨_, _, e'⟩ := hb
    simp at e e'
    obtain ⟨rfl, rfl, rfl, rfl⟩ := e
    obtain ⟨rfl, rfl, rfl, rfl⟩ := e'
    exact tog_leaf _ pa ca _ pb cb w
  | succ k ih =>
    intro a b left na pa la ca nb pb lb cb w ra rb hl ha hb
    have pa' := (is_parts ha).2
    have pb' := (is_parts hb).2
    by_cases hlf : la = 0 ∧ lb = 0
    · have ea : a = .leaf a.n := by
        rcases a with ⟨n, ⟨⟩ | ⟨_, _⟩⟩
        · rfl
        · rw [pa'] at hlf; exact absurd hlf.1 (by simp [len])
      have eb : b = .leaf b.n := by
        rcases b with ⟨n, ⟨⟩ | ⟨_, _⟩⟩
        · rfl
        · rw [pb'] at hlf; exact absurd hlf.2 (by simp [len])
      obtain ⟨rfl, rfl⟩ := hlf
      have h := tog_leaf na pa ca nb pb cb w
      rw [ea, eb, join_leaf, ← (is_parts ha).1, ← (is_parts hb).1]
      exact h
    · have ra' := rg_h ra
      have rb' := rg_h rb
      have j0 := rg_n (rg_join ra'.1 rb'.1)
      have j1 := rg_n (rg_join ra'.2 rb'.2)
      exact tog_step (join k (h0 a) (h0 b)) (join k (h1 a) (h1 b)) (h0 a) (h1 a) (h0 b) (h1 b) na pa la ca nb pb lb cb w hlf (show _ ∧ _ by omega) (fun w1 hb1 => halves_any a _ _ na pa la ca w1 (ha.later hb1) ra hl) (fun w1 hb1 => halves_any b _ _ nb pb lb cb w1 (hb.later hb1) rb hl)
        (fun w1 n p l c n' p' l' c' h h' => ih _ _ left n p l c n' p' l' c' w1 ra'.1 rb'.1 hl h h') (fun w1 n p l c n' p' l' c' h h' => ih _ _ left n p l c n' p' l' c' w1 ra'.2 rb'.2 hl h h')
end Go.Proofs.Ytmcajjdijjcpkaa
