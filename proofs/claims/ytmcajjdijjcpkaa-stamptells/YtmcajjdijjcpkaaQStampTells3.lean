import Derived.Test.YtmcajjdijjcpkaaP23
import Derived.Test.YtmcajjdijjcpkaaQStampTells2
import Derived.Test.YtmcajjdijjcpkaaP9
/- The functions sum, Sum and Apart of the document's answer. -/
namespace Go.Proofs.Ytmcajjdijjcpkaa.Idn
open Go.RowKit

/-- The document's sum of two. -/
def rsum : ID → ID → Option ID
  | ⟨.inl false⟩, y => some y
  | ⟨.inl true⟩, ⟨.inl false⟩ => some (.leaf true)
  | ⟨.inl true⟩, ⟨.inl true⟩ => none
  | ⟨.inl true⟩, ⟨.inr (_, _)⟩ => none
  | ⟨.inr (a, b)⟩, ⟨.inl false⟩ => some (.node a b)
  | ⟨.inr (_, _)⟩, ⟨.inl true⟩ => none
  | ⟨.inr (a, b)⟩, ⟨.inr (c, d)⟩ => (rsum a c).bind fun x => (rsum b d).map fun y => norm (.node x y)
/-- The call answers the tree x, and whether there is one. -/
abbrev GivesB (x : ID) (r : Bool) (w : World) (e : Ending) (w' : World) : Prop := ∃ n p l c, e = .returned (.tuple #[TV n p l c, .bool r]) ∧ Is w' x (TV n p l c) ∧ Below w.heap.size w w'

set_option maxHeartbeats 4000000 in
set_option maxRecDepth 100000 in
theorem rsum_node (z0 z1 : Option ID) (g o c g' o' c' : Nat) (n0 : Int) (p0 : Option Addr) (l0 c0 : Nat) (n1 : Int) (p1 : Option Addr) (l1 c1 : Nat) (n2 : Int) (p2 : Option Addr) (l2 c2 : Nat) (n3 : Int) (p3 : Option Addr) (l3 c3 : Nat) (w : World)
    (t0 : Tat w g o n0 p0 l0 c0) (t1 : Tat w g (o + 2) n1 p1 l1 c1) (t2 : Tat w g' o' n2 p2 l2 c2) (t3 : Tat w g' (o' + 2) n3 p3 l3 c3)
    (r0 : ∀ w1, Below w.heap.size w w1 → Calls Try.prog 75 #[TV n0 p0 l0 c0, TV n2 p2 l2 c2] w1 (GivesB (uT z0) z0.isSome w1))
    (r1 : ∀ w1, Below w.heap.size w w1 → Calls Try.prog 75 #[TV n1 p1 l1 c1, TV n3 p3 l3 c3] w1 (GivesB (uT z1) z1.isSome w1)) :
    Calls Try.prog 75 #[TV 0 (some ⟨g, o, none⟩) 2 c, TV 0 (some ⟨g', o', none⟩) 2 c'] w (GivesB (uT (z0.bind fun x => z1.map fun y => norm (.node x y))) (z0.bind fun x => z1.map fun y => norm (.node x y)).isSome w) := by
  obtain ⟨h1, h2, h3, hbel⟩ := three_box w 0 (some ⟨g, o, none⟩) 2 c 0 (some ⟨g', o', none⟩) 2 c' 0 none 0 0 _ rfl
  have hN1 : ∀ w, Calls Try.prog 45 #[TV 0 (some ⟨g, o, none⟩) 2 c, .int .i64 0] w fun e w' => e = .returned (.bool false) ∧ Below w.heap.size w w' := refIsLeaf_any 0 0 (some ⟨g, o, none⟩) 2 c
  have hN2 : ∀ w, Calls Try.prog 45 #[TV 0 (some ⟨g', o', none⟩) 2 c', .int .i64 0] w fun e w' => e = .returned (.bool false) ∧ Below w.heap.size w w' := refIsLeaf_any 0 0 (some ⟨g', o', none⟩) 2 c'
  obtain ⟨z, HZ⟩ : ∃ z, Hid ((z0.bind fun x => z1.map fun y => norm (.node x y)) = z) := ⟨_, rfl⟩
  rw [HZ.out]
  obtain ⟨x0, e0, HX0, HE0⟩ : ∃ x e, Hid (uT z0 = x) ∧ Hid (z0.isSome = e) := ⟨_, _, rfl, rfl⟩
  obtain ⟨x1, e1, HX1, HE1⟩ : ∃ x e, Hid (uT z1 = x) ∧ Hid (z1.isSome = e) := ⟨_, _, rfl, rfl⟩
  obtain ⟨xz, ez, HXZ, HEZ⟩ : ∃ x e, Hid (uT z = x) ∧ Hid (z.isSome = e) := ⟨_, _, rfl, rfl⟩
  rw [HX0.out, HE0.out] at r0
  rw [HX1.out, HE1.out] at r1
  rw [HXZ.out, HEZ.out]
  go_enter Try.func75, Try.ntmps75
  go_wp2_with (refine load_t _ rfl rfl _ _ rfl h1.tat ?_)
  refine (hN1 _).mono ?_
  rintro e w1 ⟨rfl, hb1⟩
  replace h1 := h1.later hb1
  replace h2 := h2.later hb1
  replace h3 := h3.later hb1
  replace hbel := below_on hbel hb1
  clear hb1 hN1
  go_wp2_with (refine load_t _ rfl rfl _ _ rfl h2.tat ?_)
  refine (hN2 _).mono ?_
  rintro e w4 ⟨rfl, hb1⟩
  replace h1 := h1.later hb1
  replace h2 := h2.later hb1
  replace h3 := h3.later hb1
  replace hbel := below_on hbel hb1
  clear hb1 hN2
  have g1 := h1.cell1
  have g2 := h2.cell1
  go_wp2_with fail
  clear g1 g2
  have hlt := h3.lt
  have hS : Calm.Stays (fun w' => Bx w' (w.heap.size) 0 (some ⟨g, o, none⟩) 2 c ∧ Bx w' (w.heap.size + 1) 0 (some ⟨g', o', none⟩) 2 c' ∧ (∃ n p l c, Bx w' (w.heap.size + 1 + 1) n p l c) ∧ w4.heap.size ≤ w'.heap.size ∧ Below w.heap.size w w') := fun wa wb h hb => ⟨h.1.later hb, h.2.1.later hb, (by obtain ⟨n, p, l, c, h2⟩ := h.2.2.1; exact ⟨n, p, l, c, h2.later hb⟩), Nat.le_trans h.2.2.2.1 hb.size, below_on h.2.2.2.2 hb⟩
  have hF : Facts.Stay [eqF 0 (.pointer (some ⟨w.heap.size, 1, none⟩)), eqF 1 (.slice (some ⟨g, o, none⟩) 2 c), eqF 2 (.pointer (some ⟨g, o, none⟩)), eqF 3 (TV n0 p0 l0 c0), eqF 4 (.pointer (some ⟨w.heap.size + 1, 1, none⟩)), eqF 5 (.slice (some ⟨g', o', none⟩) 2 c'), eqF 6 (.pointer (some ⟨g', o', none⟩)), eqF 7 (TV n2 p2 l2 c2), tvF 8 x0 (.bool e0), tvF 9 x0 (.bool e0), isF 10 x0, eqF 11 (.bool e0), alF 12 w4.heap.size, sbF 12 10 w4.heap.size x0, eqF 14 (.bool e0)] := stay_of (by simp only [List.forall_mem_cons]; exact ⟨eqF_stays _ _, eqF_stays _ _, eqF_stays _ _, eqF_stays _ _, eqF_stays _ _, eqF_stays _ _, eqF_stays _ _, eqF_stays _ _, tvF_stays _ _ _, tvF_stays _ _ _, isF_stays _ _, eqF_stays _ _, alF_stays _ _, sbF_stays _ _ _ _, eqF_stays _ _, fun _ h => by cases h⟩)
  refine Facts.region (by kernel_rfl) (by kernel_rfl) (fun w' => Bx w' (w.heap.size) 0 (some ⟨g, o, none⟩) 2 c ∧ Bx w' (w.heap.size + 1) 0 (some ⟨g', o', none⟩) 2 c' ∧ (∃ n p l c, Bx w' (w.heap.size + 1 + 1) n p l c) ∧ w4.heap.size ≤ w'.heap.size ∧ Below w.heap.size w w') (fun x => { tmps := #[TV 0 (some ⟨g, o, none⟩) 2 c, TV 0 (some ⟨g', o', none⟩) 2 c', .pointer (some ⟨w.heap.size, 0, none⟩), .pointer (some ⟨w.heap.size + 1, 0, none⟩), .pointer (some ⟨w.heap.size + 1 + 1, 0, none⟩), .bool false, x 12, x 14, undef, undef, TV 0 (some ⟨g, o, none⟩) 2 c, .bool false, undef, TV 0 (some ⟨g', o', none⟩) 2 c', .bool false, undef, .pointer (some ⟨w.heap.size, 1, none⟩), .slice (some ⟨g, o, none⟩) 2 c, .int .i64 2, .bool false, .bool false, .pointer (some ⟨w.heap.size + 1, 1, none⟩), .slice (some ⟨g', o', none⟩) 2 c', .int .i64 2, .bool false, .bool false, undef, x 9, x 0, x 1, x 2, x 3, x 4, x 5, x 6, x 7, x 8, x 10, x 11, undef, undef, undef, undef, undef, undef, undef, undef, undef, undef, undef, undef, undef, undef, undef, undef, undef, undef, undef, undef, undef, undef, undef], defers := [] }) [eqF 0 (.pointer (some ⟨w.heap.size, 1, none⟩)), eqF 1 (.slice (some ⟨g, o, none⟩) 2 c), eqF 2 (.pointer (some ⟨g, o, none⟩)), eqF 3 (TV n0 p0 l0 c0), eqF 4 (.pointer (some ⟨w.heap.size + 1, 1, none⟩)), eqF 5 (.slice (some ⟨g', o', none⟩) 2 c'), eqF 6 (.pointer (some ⟨g', o', none⟩)), eqF 7 (TV n2 p2 l2 c2), tvF 8 x0 (.bool e0), tvF 9 x0 (.bool e0), isF 10 x0, eqF 11 (.bool e0), alF 12 w4.heap.size, sbF 12 10 w4.heap.size x0, eqF 14 (.bool e0)] _ rfl (by kernel_rfl) (fun _ => undef) rfl (⟨h1, h2, ⟨_, _, _, _, h3⟩, Nat.le_refl _, hbel.drew⟩) ⟨?_, ?_, ?_, ?_, ?_, ?_, ?_, ?_, ?_, ?_, ?_, ?_, ?_, ?_, ?_, trivial⟩ ?_
  · exact Facts.pure hS hF (fun _ _ => rfl) rfl (fun x wv hSw hd => by
      go_simp)
  · exact Facts.pure hS hF (fun _ _ => rfl) rfl (fun x wv hSw hd => by
      have d0 := eqF_get (hd ⟨0, .data⟩ (by simp) rfl _ rfl)
      have g1 := hSw.1.cell1
      have g2 := hSw.2.1.cell1
      simp only [d0]
      go_simp)
  · exact Facts.pure hS hF (fun _ _ => rfl) rfl (fun x wv hSw hd => by
      have d1 := eqF_get (hd ⟨1, .data⟩ (by simp) rfl _ rfl)
      simp only [d1]
      go_simp)
  · exact Facts.loadT hS hF (fun _ _ => rfl) _ rfl rfl (fun x wv hSw hd => by have d2 := eqF_get (hd ⟨2, .data⟩ (by simp) rfl _ rfl); exact d2) (fun wv hSw => t0.later hSw.2.2.2.2)
  · exact Facts.pure hS hF (fun _ _ => rfl) rfl (fun x wv hSw hd => by
      go_simp)
  · exact Facts.pure hS hF (fun _ _ => rfl) rfl (fun x wv hSw hd => by
      have d4 := eqF_get (hd ⟨4, .data⟩ (by simp) rfl _ rfl)
      have g1 := hSw.1.cell1
      have g2 := hSw.2.1.cell1
      simp only [d4]
      go_simp)
  · exact Facts.pure hS hF (fun _ _ => rfl) rfl (fun x wv hSw hd => by
      have d5 := eqF_get (hd ⟨5, .data⟩ (by simp) rfl _ rfl)
      simp only [d5]
      go_simp)
  · exact Facts.loadT hS hF (fun _ _ => rfl) _ rfl rfl (fun x wv hSw hd => by have d6 := eqF_get (hd ⟨6, .data⟩ (by simp) rfl _ rfl); exact d6) (fun wv hSw => t2.later hSw.2.2.2.2)
  · refine Facts.call2W hS hF (fun _ _ => rfl) rfl (by kernel_rfl) rfl (fun x wv hSw hd => ?_)
    have d3 := eqF_get (hd ⟨3, .data⟩ (by simp) rfl _ rfl)
    have d7 := eqF_get (hd ⟨7, .data⟩ (by simp) rfl _ rfl)
    have hc := r0 _ hSw.2.2.2.2
    rw [← d3, ← d7] at hc
    exact hc
  · exact Facts.moveW hS hF (fun _ _ => rfl) rfl rfl (fun _ => rfl) (fun x wv hSw hd => hd ⟨8, .data⟩ (by simp) rfl _ rfl)
  · exact Facts.fstW hS hF (fun _ _ => rfl) rfl rfl (fun _ => rfl) (fun x wv hSw hd => hd ⟨9, .data⟩ (by simp) rfl _ rfl)
  · exact Facts.sndW hS hF (fun _ _ => rfl) rfl rfl (fun _ => rfl) (fun x wv hSw hd => hd ⟨9, .data⟩ (by simp) rfl _ rfl)
  · exact Facts.allocT hS hF (fun _ _ => rfl) rfl rfl (fun wv hSw => hSw.2.2.2.1)
  · exact Facts.storeP (fun _ _ => rfl) _ _ rfl (by decide) (by decide) rfl (fun _ => rfl) (fun _ => rfl) (fun x wv hSw hd => ⟨hd ⟨12, .data⟩ (by simp) rfl _ rfl, hd ⟨10, .data⟩ (by simp) rfl _ rfl⟩) (fun wv q n p l c n' p' l' c' hSw hq hbx => ⟨hSw.1.rowOther (by omega) _, hSw.2.1.rowOther (by omega) _, (by obtain ⟨n, p, l, c, h⟩ := hSw.2.2.1; exact ⟨n, p, l, c, h.rowOther (by omega) _⟩), (by rw [setRow_size]; exact hSw.2.2.2.1), below_setRow hSw.2.2.2.2 (by omega) _⟩) (fun j f hj hfj q hq => by
      match j with
      | 0 => obtain rfl := Option.some.inj hfj; exact eqF_box _ _ _
      | 1 => obtain rfl := Option.some.inj hfj; exact eqF_box _ _ _
      | 2 => obtain rfl := Option.some.inj hfj; exact eqF_box _ _ _
      | 3 => obtain rfl := Option.some.inj hfj; exact eqF_box _ _ _
      | 4 => obtain rfl := Option.some.inj hfj; exact eqF_box _ _ _
      | 5 => obtain rfl := Option.some.inj hfj; exact eqF_box _ _ _
      | 6 => obtain rfl := Option.some.inj hfj; exact eqF_box _ _ _
      | 7 => obtain rfl := Option.some.inj hfj; exact eqF_box _ _ _
      | 8 => obtain rfl := Option.some.inj hfj; exact tvF_box _ _ _ _
      | 9 => obtain rfl := Option.some.inj hfj; exact tvF_box _ _ _ _
      | 10 => obtain rfl := Option.some.inj hfj; exact isF_box _ _ _
      | 11 => obtain rfl := Option.some.inj hfj; exact eqF_box _ _ _
      | 12 => obtain rfl := Option.some.inj hfj; exact alF_box _ _ _
      | 14 => obtain rfl := Option.some.inj hfj; exact eqF_box _ _ _
      | 13 => exact absurd rfl hj
      | j + 15 => simp at hfj)
  · exact Facts.pure hS hF (fun _ _ => rfl) rfl (fun x wv hSw hd => by
      have d11 := eqF_get (hd ⟨11, .data⟩ (by simp) rfl _ rfl)
      simp only [d11]
      go_simp)
  rintro xa w5 ⟨h1, h2, ⟨nr, pr, lr, cr, h3⟩, hN5, hbel⟩ hf
  have d14 := eqF_get (hf 14 _ (by decide) rfl)
  obtain ⟨q, nq, pq, lq, cq, d12, d10, hNq, hq, hiq⟩ := sbF_get (hf 13 _ (by decide) rfl)
  clear hf hS hF r0
  simp only [d14, d12, d10]
  clear d14 d12 d10
  go_wp2_with fail
  have hltq := hq.lt
  have hS : Calm.Stays (fun w' => Bx w' (w.heap.size) 0 (some ⟨g, o, none⟩) 2 c ∧ Bx w' (w.heap.size + 1) 0 (some ⟨g', o', none⟩) 2 c' ∧ (∃ n p l c, Bx w' (w.heap.size + 1 + 1) n p l c) ∧ w5.heap.size ≤ w'.heap.size ∧ Below w.heap.size w w' ∧ Bx w' q nq pq lq cq ∧ Is w' x0 (TV nq pq lq cq)) := fun wa wb h hb => ⟨h.1.later hb, h.2.1.later hb, (by obtain ⟨n, p, l, c, h2⟩ := h.2.2.1; exact ⟨n, p, l, c, h2.later hb⟩), Nat.le_trans h.2.2.2.1 hb.size, below_on h.2.2.2.2.1 hb, h.2.2.2.2.2.1.later hb, h.2.2.2.2.2.2.later hb⟩
  have hF : Facts.Stay [eqF 0 (.pointer (some ⟨w.heap.size, 1, none⟩)), eqF 1 (.slice (some ⟨g, o, none⟩) 2 c), eqF 2 (.pointer (some ⟨g, o + 2, none⟩)), eqF 3 (TV n1 p1 l1 c1), eqF 4 (.pointer (some ⟨w.heap.size + 1, 1, none⟩)), eqF 5 (.slice (some ⟨g', o', none⟩) 2 c'), eqF 6 (.pointer (some ⟨g', o' + 2, none⟩)), eqF 7 (TV n3 p3 l3 c3), tvF 8 x1 (.bool e1), tvF 9 x1 (.bool e1), isF 10 x1, eqF 11 (.bool e1), alF 12 w5.heap.size, sbF 12 10 w5.heap.size x1, eqF 14 (.bool e1)] := stay_of (by simp only [List.forall_mem_cons]; exact ⟨eqF_stays _ _, eqF_stays _ _, eqF_stays _ _, eqF_stays _ _, eqF_stays _ _, eqF_stays _ _, eqF_stays _ _, eqF_stays _ _, tvF_stays _ _ _, tvF_stays _ _ _, isF_stays _ _, eqF_stays _ _, alF_stays _ _, sbF_stays _ _ _ _, eqF_stays _ _, fun _ h => by cases h⟩)
  refine Facts.region (by kernel_rfl) (by kernel_rfl) (fun w' => Bx w' (w.heap.size) 0 (some ⟨g, o, none⟩) 2 c ∧ Bx w' (w.heap.size + 1) 0 (some ⟨g', o', none⟩) 2 c' ∧ (∃ n p l c, Bx w' (w.heap.size + 1 + 1) n p l c) ∧ w5.heap.size ≤ w'.heap.size ∧ Below w.heap.size w w' ∧ Bx w' q nq pq lq cq ∧ Is w' x0 (TV nq pq lq cq)) (fun x => { tmps := #[TV 0 (some ⟨g, o, none⟩) 2 c, TV 0 (some ⟨g', o', none⟩) 2 c', .pointer (some ⟨w.heap.size, 0, none⟩), .pointer (some ⟨w.heap.size + 1, 0, none⟩), .pointer (some ⟨w.heap.size + 1 + 1, 0, none⟩), .bool false, .pointer (some ⟨q, 0, none⟩), .bool e0, x 12, x 14, TV 0 (some ⟨g, o, none⟩) 2 c, .bool false, undef, TV 0 (some ⟨g', o', none⟩) 2 c', .bool false, undef, .pointer (some ⟨w.heap.size, 1, none⟩), .slice (some ⟨g, o, none⟩) 2 c, .int .i64 2, .bool false, .bool false, .pointer (some ⟨w.heap.size + 1, 1, none⟩), .slice (some ⟨g', o', none⟩) 2 c', .int .i64 2, .bool false, .bool false, undef, xa 9, xa 0, xa 1, xa 2, xa 3, xa 4, xa 5, xa 6, xa 7, xa 8, TV nq pq lq cq, xa 11, x 9, x 0, x 1, x 2, x 3, x 4, x 5, x 6, x 7, x 8, x 10, x 11, undef, undef, undef, undef, undef, undef, undef, undef, undef, undef, undef], defers := [] }) [eqF 0 (.pointer (some ⟨w.heap.size, 1, none⟩)), eqF 1 (.slice (some ⟨g, o, none⟩) 2 c), eqF 2 (.pointer (some ⟨g, o + 2, none⟩)), eqF 3 (TV n1 p1 l1 c1), eqF 4 (.pointer (some ⟨w.heap.size + 1, 1, none⟩)), eqF 5 (.slice (some ⟨g', o', none⟩) 2 c'), eqF 6 (.pointer (some ⟨g', o' + 2, none⟩)), eqF 7 (TV n3 p3 l3 c3), tvF 8 x1 (.bool e1), tvF 9 x1 (.bool e1), isF 10 x1, eqF 11 (.bool e1), alF 12 w5.heap.size, sbF 12 10 w5.heap.size x1, eqF 14 (.bool e1)] _ rfl (by kernel_rfl) (fun _ => undef) rfl (⟨h1, h2, ⟨_, _, _, _, h3⟩, Nat.le_refl _, hbel.drew, hq, hiq.later (Below.refl _ _).drew⟩) ⟨?_, ?_, ?_, ?_, ?_, ?_, ?_, ?_, ?_, ?_, ?_, ?_, ?_, ?_, ?_, trivial⟩ ?_
  · exact Facts.pure hS hF (fun _ _ => rfl) rfl (fun x wv hSw hd => by
      go_simp)
  · exact Facts.pure hS hF (fun _ _ => rfl) rfl (fun x wv hSw hd => by
      have d0 := eqF_get (hd ⟨0, .data⟩ (by simp) rfl _ rfl)
      have g1 := hSw.1.cell1
      have g2 := hSw.2.1.cell1
      simp only [d0]
      go_simp)
  · exact Facts.pure hS hF (fun _ _ => rfl) rfl (fun x wv hSw hd => by
      have d1 := eqF_get (hd ⟨1, .data⟩ (by simp) rfl _ rfl)
      simp only [d1]
      go_simp)
  · exact Facts.loadT hS hF (fun _ _ => rfl) _ rfl rfl (fun x wv hSw hd => by have d2 := eqF_get (hd ⟨2, .data⟩ (by simp) rfl _ rfl); exact d2) (fun wv hSw => t1.later hSw.2.2.2.2.1)
  · exact Facts.pure hS hF (fun _ _ => rfl) rfl (fun x wv hSw hd => by
      go_simp)
  · exact Facts.pure hS hF (fun _ _ => rfl) rfl (fun x wv hSw hd => by
      have d4 := eqF_get (hd ⟨4, .data⟩ (by simp) rfl _ rfl)
      have g1 := hSw.1.cell1
      have g2 := hSw.2.1.cell1
      simp only [d4]
      go_simp)
  · exact Facts.pure hS hF (fun _ _ => rfl) rfl (fun x wv hSw hd => by
      have d5 := eqF_get (hd ⟨5, .data⟩ (by simp) rfl _ rfl)
      simp only [d5]
      go_simp)
  · exact Facts.loadT hS hF (fun _ _ => rfl) _ rfl rfl (fun x wv hSw hd => by have d6 := eqF_get (hd ⟨6, .data⟩ (by simp) rfl _ rfl); exact d6) (fun wv hSw => t3.later hSw.2.2.2.2.1)
  · refine Facts.call2W hS hF (fun _ _ => rfl) rfl (by kernel_rfl) rfl (fun x wv hSw hd => ?_)
    have d3 := eqF_get (hd ⟨3, .data⟩ (by simp) rfl _ rfl)
    have d7 := eqF_get (hd ⟨7, .data⟩ (by simp) rfl _ rfl)
    have hc := r1 _ hSw.2.2.2.2.1
    rw [← d3, ← d7] at hc
    exact hc
  · exact Facts.moveW hS hF (fun _ _ => rfl) rfl rfl (fun _ => rfl) (fun x wv hSw hd => hd ⟨8, .data⟩ (by simp) rfl _ rfl)
  · exact Facts.fstW hS hF (fun _ _ => rfl) rfl rfl (fun _ => rfl) (fun x wv hSw hd => hd ⟨9, .data⟩ (by simp) rfl _ rfl)
  · exact Facts.sndW hS hF (fun _ _ => rfl) rfl rfl (fun _ => rfl) (fun x wv hSw hd => hd ⟨9, .data⟩ (by simp) rfl _ rfl)
  · exact Facts.allocT hS hF (fun _ _ => rfl) rfl rfl (fun wv hSw => hSw.2.2.2.1)
  · exact Facts.storeP (fun _ _ => rfl) _ _ rfl (by decide) (by decide) rfl (fun _ => rfl) (fun _ => rfl) (fun x wv hSw hd => ⟨hd ⟨12, .data⟩ (by simp) rfl _ rfl, hd ⟨10, .data⟩ (by simp) rfl _ rfl⟩) (fun wv q n p l c n' p' l' c' hSw hq hbx => ⟨hSw.1.rowOther (by omega) _, hSw.2.1.rowOther (by omega) _, (by obtain ⟨n, p, l, c, h⟩ := hSw.2.2.1; exact ⟨n, p, l, c, h.rowOther (by omega) _⟩), (by rw [setRow_size]; exact hSw.2.2.2.1), below_setRow hSw.2.2.2.2.1 (by omega) _, hSw.2.2.2.2.2.1.rowOther (by omega) _, hSw.2.2.2.2.2.2.box hbx _⟩) (fun j f hj hfj q hq => by
      match j with
      | 0 => obtain rfl := Option.some.inj hfj; exact eqF_box _ _ _
      | 1 => obtain rfl := Option.some.inj hfj; exact eqF_box _ _ _
      | 2 => obtain rfl := Option.some.inj hfj; exact eqF_box _ _ _
      | 3 => obtain rfl := Option.some.inj hfj; exact eqF_box _ _ _
      | 4 => obtain rfl := Option.some.inj hfj; exact eqF_box _ _ _
      | 5 => obtain rfl := Option.some.inj hfj; exact eqF_box _ _ _
      | 6 => obtain rfl := Option.some.inj hfj; exact eqF_box _ _ _
      | 7 => obtain rfl := Option.some.inj hfj; exact eqF_box _ _ _
      | 8 => obtain rfl := Option.some.inj hfj; exact tvF_box _ _ _ _
      | 9 => obtain rfl := Option.some.inj hfj; exact tvF_box _ _ _ _
      | 10 => obtain rfl := Option.some.inj hfj; exact isF_box _ _ _
      | 11 => obtain rfl := Option.some.inj hfj; exact eqF_box _ _ _
      | 12 => obtain rfl := Option.some.inj hfj; exact alF_box _ _ _
      | 14 => obtain rfl := Option.some.inj hfj; exact eqF_box _ _ _
      | 13 => exact absurd rfl hj
      | j + 15 => simp at hfj)
  · exact Facts.pure hS hF (fun _ _ => rfl) rfl (fun x wv hSw hd => by
      have d11 := eqF_get (hd ⟨11, .data⟩ (by simp) rfl _ rfl)
      simp only [d11]
      go_simp)
  rintro xb w6 ⟨h1, h2, ⟨nr, pr, lr, cr, h3⟩, hN6, hbel, hq, hiq⟩ hf
  have d14 := eqF_get (hf 14 _ (by decide) rfl)
  obtain ⟨q', nq', pq', lq', cq', d12, d10, hNq', hq', hiq'⟩ := sbF_get (hf 13 _ (by decide) rfl)
  clear hf hS hF r1
  simp only [d14, d12, d10]
  clear d14 d12 d10
  cases z0 with
  | none =>
    obtain rfl : e0 = false := by have := HE0.out; rw [← this]; rfl
    obtain rfl : ez = false := by have := HEZ.out; rw [← this, ← HZ.out]; rfl
    obtain rfl : xz = .leaf false := by have := HXZ.out; rw [← this, ← HZ.out]; rfl
    have R := below_setRow hbel (g := w.heap.size + 1 + 1) (by omega) #[.int .i64 0, .slice none 0 0]
    clear HX0 HE0 HX1 HE1 HXZ HEZ HZ
    go_wp2_with (refine store_t rfl _ _ rfl _ 0 none 0 0 rfl rfl h3 ?_)
    exact bodyPost_ret (results_te rfl rfl (h3.row _ _ _ _)) rfl ⟨_, _, _, _, rfl, is_leaf _ false _ _, R⟩
  | some y0 =>
    obtain rfl : e0 = true := by have := HE0.out; rw [← this]; rfl
    have HX0' : Hid (y0 = x0) := HX0.out
    clear HX0 HE0
    cases z1 with
    | none =>
      obtain rfl : e1 = false := by have := HE1.out; rw [← this]; rfl
      obtain rfl : ez = false := by have := HEZ.out; rw [← this, ← HZ.out]; rfl
      obtain rfl : xz = .leaf false := by have := HXZ.out; rw [← this, ← HZ.out]; rfl
      have R := below_setRow hbel (g := w.heap.size + 1 + 1) (by omega) #[.int .i64 0, .slice none 0 0]
      clear HX1 HE1 HXZ HEZ HZ
      go_wp2_with (refine store_t rfl _ _ rfl _ 0 none 0 0 rfl rfl h3 ?_)
      exact bodyPost_ret (results_te rfl rfl (h3.row _ _ _ _)) rfl ⟨_, _, _, _, rfl, is_leaf _ false _ _, R⟩
    | some y1 =>
      obtain rfl : e1 = true := by have := HE1.out; rw [← this]; rfl
      obtain rfl : ez = true := by have := HEZ.out; rw [← this, ← HZ.out]; rfl
      obtain rfl : xz = norm (.node x0 x1) := by rw [← HXZ.out, ← HZ.out, ← HX0'.out, ← HX1.out]; rfl
      clear HX1 HE1 HXZ HEZ HZ HX0'
      go_wp2_with (first | refine load_t _ rfl rfl _ _ rfl hq.tat ?_ | refine load_t _ rfl rfl _ _ rfl hq'.tat ?_)
      refine (inner_any x0 x1 _ _ _ _ _ _ _ _ _ hiq hiq').mono ?_
      rintro e w7 ⟨n4, p4, l4, c4, rfl, i4, hb1⟩
      replace h3 := h3.later hb1
      replace hbel := below_on hbel hb1
      clear hb1 hq hq' hiq hiq'
      go_wp2_with fail
      refine (refNorm_any (.node x0 x1) _ _ _ _ _ i4).mono ?_
      rintro e w8 ⟨n', p', l', c', rfl, hi, hb1⟩
      replace h3 := h3.later hb1
      have R := below_setRow (below_on hbel hb1) (g := w.heap.size + 1 + 1) (by omega) #[.int .i64 n', .slice p' l' c']
      clear hbel hb1 i4
      go_wp2_with (refine store_t rfl _ _ rfl _ n' p' l' c' rfl rfl h3 ?_)
      exact bodyPost_ret (results_te rfl rfl (h3.row _ _ _ _)) rfl ⟨_, _, _, _, rfl, hi.box h3 _, R⟩

set_option maxHeartbeats 2000000 in
set_option maxRecDepth 100000 in
theorem rsum_left (x y : ID) (n : Int) (p : Option Addr) (l c : Nat) (n' : Int) (p' : Option Addr) (l' c' : Nat) (w : World) (hx : Is w x (TV n p l c)) (hy : Is w y (TV n' p' l' c')) (h0 : nil x = true) :
    Calls Try.prog 75 #[TV n p l c, TV n' p' l' c'] w (GivesB y true w) := by
  obtain ⟨h1, h2, h3, hbel⟩ := three_box w n p l c n' p' l' c' 0 none 0 0 _ rfl
  have hN := refIsNil_is hx
  rw [h0] at hN
  clear hx h0
  go_enter Try.func75, Try.ntmps75
  go_wp2_with (refine load_t _ rfl rfl _ _ rfl h1.tat ?_)
  refine (hN _).mono ?_
  rintro e w1 ⟨rfl, hb1⟩
  replace h1 := h1.later hb1
  replace h2 := h2.later hb1
  replace h3 := h3.later hb1
  replace hbel := below_on hbel hb1
  replace hy := hy.later hbel
  have R := below_setRow hbel (g := w.heap.size + 1 + 1) (by omega) #[.int .i64 n', .slice p' l' c']
  clear hb1 hN h1 hbel
  go_wp2_with (first | refine load_t _ rfl rfl _ _ rfl h2.tat ?_ | refine store_t rfl _ _ rfl _ n' p' l' c' rfl rfl h3 ?_)
  exact bodyPost_ret (results_te rfl rfl (h3.row _ _ _ _)) rfl ⟨_, _, _, _, rfl, hy.box h3 _, R⟩

set_option maxHeartbeats 2000000 in
set_option maxRecDepth 100000 in
theorem rsum_right (x y : ID) (n : Int) (p : Option Addr) (l c : Nat) (n' : Int) (p' : Option Addr) (l' c' : Nat) (w : World) (hx : Is w x (TV n p l c)) (hy : Is w y (TV n' p' l' c')) (h0 : nil x = false) (h0' : nil y = true) :
    Calls Try.prog 75 #[TV n p l c, TV n' p' l' c'] w (GivesB x true w) := by
  obtain ⟨h1, h2, h3, hbel⟩ := three_box w n p l c n' p' l' c' 0 none 0 0 _ rfl
  have hN := refIsNil_is hx
  rw [h0] at hN
  have hN' := refIsNil_is hy
  rw [h0'] at hN'
  clear hy h0 h0'
  go_enter Try.func75, Try.ntmps75
  go_wp2_with (refine load_t _ rfl rfl _ _ rfl h1.tat ?_)
  refine (hN _).mono ?_
  rintro e w1 ⟨rfl, hb1⟩
  replace h1 := h1.later hb1
  replace h2 := h2.later hb1
  replace h3 := h3.later hb1
  replace hbel := below_on hbel hb1
  clear hb1 hN
  go_wp2_with (refine load_t _ rfl rfl _ _ rfl h2.tat ?_)
  refine (hN' _).mono ?_
  rintro e w2 ⟨rfl, hb1⟩
  replace h1 := h1.later hb1
  replace h2 := h2.later hb1
  replace h3 := h3.later hb1
  replace hbel := below_on hbel hb1
  replace hx := hx.later hbel
  have R := below_setRow hbel (g := w.heap.size + 1 + 1) (by omega) #[.int .i64 n, .slice p l c]
  clear hb1 hN' h2 hbel
  go_wp2_with (first | refine load_t _ rfl rfl _ _ rfl h1.tat ?_ | refine store_t rfl _ _ rfl _ n p l c rfl rfl h3 ?_)
  exact bodyPost_ret (results_te rfl rfl (h3.row _ _ _ _)) rfl ⟨_, _, _, _, rfl, hx.box h3 _, R⟩

set_option maxHeartbeats 2000000 in
set_option maxRecDepth 100000 in
theorem rsum_joint (x y : ID) (n : Int) (p : Option Addr) (l c : Nat) (n' : Int) (p' : Option Addr) (l' c' : Nat) (w : World) (hx : Is w x (TV n p l c)) (hy : Is w y (TV n' p' l' c')) (h0 : nil x = false) (h0' : nil y = false) (hl : lf x = true ∨ lf y = true) :
    Calls Try.prog 75 #[TV n p l c, TV n' p' l' c'] w (GivesB (.leaf false) false w) := by
  obtain ⟨h1, h2, h3, hbel⟩ := three_box w n p l c n' p' l' c' 0 none 0 0 _ rfl
  have hN := refIsNil_is hx
  rw [h0] at hN
  have hN' := refIsNil_is hy
  rw [h0'] at hN'
  have HL : Hid (l = 0 ∨ l' = 0) := by
    show _ ∨ _
    obtain ⟨_, rfl⟩ := is_parts hx
    obtain ⟨_, rfl⟩ := is_parts hy
    rw [← len_lf, ← len_lf] at hl
    simpa using hl
  clear hx hy h0 h0' hl
  go_enter Try.func75, Try.ntmps75
  go_wp2_with (refine load_t _ rfl rfl _ _ rfl h1.tat ?_)
  refine (hN _).mono ?_
  rintro e w1 ⟨rfl, hb1⟩
  replace h1 := h1.later hb1
  replace h2 := h2.later hb1
  replace h3 := h3.later hb1
  replace hbel := below_on hbel hb1
  clear hb1 hN
  go_wp2_with (refine load_t _ rfl rfl _ _ rfl h2.tat ?_)
  refine (hN' _).mono ?_
  rintro e w2 ⟨rfl, hb1⟩
  replace h1 := h1.later hb1
  replace h2 := h2.later hb1
  replace h3 := h3.later hb1
  replace hbel := below_on hbel hb1
  have R := below_setRow hbel (g := w.heap.size + 1 + 1) (by omega) #[.int .i64 0, .slice none 0 0]
  have g1 := h1.cell1
  have g2 := h2.cell1
  clear hb1 hN' hbel
  by_cases hl : l = 0
  · subst hl
    clear HL
    go_wp2_with (refine store_t rfl _ _ rfl _ 0 none 0 0 rfl rfl h3 ?_)
    exact bodyPost_ret (results_te rfl rfl (h3.row _ _ _ _)) rfl ⟨_, _, _, _, rfl, is_leaf _ false _ _, R⟩
  · obtain rfl : l' = 0 := by
      rcases HL.out with h | h
      · exact absurd h hl
      · exact h
    have f0 : ((l : Int) == 0) = false := by simpa using hl
    clear HL hl
    go_wp2_with (refine store_t rfl _ _ rfl _ 0 none 0 0 rfl rfl h3 ?_)
    exact bodyPost_ret (results_te rfl rfl (h3.row _ _ _ _)) rfl ⟨_, _, _, _, rfl, is_leaf _ false _ _, R⟩

theorem rsum_any : ∀ (x y : ID) (n : Int) (p : Option Addr) (l c : Nat) (n' : Int) (p' : Option Addr) (l' c' : Nat) (w : World), Is w x (TV n p l c) → Is w y (TV n' p' l' c') →
    Calls Try.prog 75 #[TV n p l c, TV n' p' l' c'] w (GivesB (uT (rsum x y)) (rsum x y).isSome w)
  | ⟨.inl false⟩, y, _, _, _, _, _, _, _, _, w, hx, hy => rsum_left _ y _ _ _ _ _ _ _ _ w hx hy rfl
  | ⟨.inl true⟩, ⟨.inl false⟩, _, _, _, _, _, _, _, _, w, hx, hy => rsum_right _ _ _ _ _ _ _ _ _ _ w hx hy rfl rfl
  | ⟨.inl true⟩, ⟨.inl true⟩, _, _, _, _, _, _, _, _, w, hx, hy => rsum_joint _ _ _ _ _ _ _ _ _ _ w hx hy rfl rfl (.inl rfl)
  | ⟨.inl true⟩, ⟨.inr (_, _)⟩, _, _, _, _, _, _, _, _, w, hx, hy => rsum_joint _ _ _ _ _ _ _ _ _ _ w hx hy rfl rfl (.inl rfl)
  | ⟨.inr (_, _)⟩, ⟨.inl false⟩, _, _, _, _, _, _, _, _, w, hx, hy => rsum_right _ _ _ _ _ _ _ _ _ _ w hx hy rfl rfl
  | ⟨.inr (_, _)⟩, ⟨.inl true⟩, _, _, _, _, _, _, _, _, w, hx, hy => rsum_joint _ _ _ _ _ _ _ _ _ _ w hx hy rfl rfl (.inr rfl)
  | ⟨.inr (x, y)⟩, ⟨.inr (x', y')⟩, n, p, l, c, n', p', l', c', w, ⟨g, o, cc, n0, p0, l0, c0, n1, p1, l1, c1, e, t0, t1, hx, hy⟩, ⟨g', o', cc', n2, p2, l2, c2, n3, p3, l3, c3, e', t2, t3, hx', hy'⟩ => by
    simp at e e'
    obtain ⟨rfl, rfl, rfl, rfl⟩ := e
    obtain ⟨rfl, rfl, rfl, rfl⟩ := e'
    exact rsum_node (rsum x x') (rsum y y') g o c g' o' c' n0 p0 l0 c0 n1 p1 l1 c1 n2 p2 l2 c2 n3 p3 l3 c3 w t0 t1 t2 t3
      (fun w1 hb => rsum_any x x' _ _ _ _ _ _ _ _ w1 (hx.later hb) (hx'.later hb)) (fun w1 hb => rsum_any y y' _ _ _ _ _ _ _ _ w1 (hy.later hb) (hy'.later hb))
end Go.Proofs.Ytmcajjdijjcpkaa.Idn
/- The functions Sum and Apart of the document's answer. -/
namespace Go.Proofs.Ytmcajjdijjcpkaa.Idn
open Go.RowKit

theorem rsum_eq : ∀ x y : ID, short x = true → short y = true → rsum x y = unite x y
  | ⟨.inl false⟩, y, _, hy => by simp only [rsum, unite, norm_short y hy]
  | ⟨.inl true⟩, ⟨.inl false⟩, _, _ => rfl
  | ⟨.inl true⟩, ⟨.inl true⟩, _, _ => rfl
  | ⟨.inl true⟩, ⟨.inr (_, _)⟩, _, _ => rfl
  | ⟨.inr (x, y)⟩, ⟨.inl false⟩, hx, _ => by simp only [rsum, unite, norm_short _ hx]
  | ⟨.inr (_, _)⟩, ⟨.inl true⟩, _, _ => rfl
  | ⟨.inr (x, y)⟩, ⟨.inr (x', y')⟩, hx, hy => by
    obtain ⟨_, hx0, hx1⟩ := short_node.1 hx
    obtain ⟨_, hy0, hy1⟩ := short_node.1 hy
    simp only [rsum, unite, rsum_eq x x' hx0 hy0, rsum_eq y y' hx1 hy1]
    cases h0 : unite x x' with
    | none => rfl
    | some a =>
      cases h1 : unite y y' with
      | none => rfl
      | some b =>
        have sa := short_unite x x' a hx0 hy0 h0
        have sb := short_unite y y' b hx1 hy1 h1
        simp only [Option.bind_some, Option.map_some, norm, norm_short a sa, norm_short b sb]

set_option maxHeartbeats 2000000 in
set_option maxRecDepth 100000 in
theorem refSum_tr (t u : Tr) (n : Int) (p : Option Addr) (l c : Nat) (n' : Int) (p' : Option Addr) (l' c' : Nat) (w : World) (ht : Lies w t (TV n p l c)) (hu : Lies w u (TV n' p' l' c')) :
    Calls Try.prog 40 #[TV n p l c, TV n' p' l' c'] w (GivesE (sumX t u) (sumE t u) w) := by
  obtain ⟨h1, h2, h3, hbel⟩ := three_box w n p l c n' p' l' c' 0 none 0 0 _ rfl
  have r0 := fun w1 (hb : Below w.heap.size w w1) => refCheck_tr t n p l c w1 (ht.later hb)
  have r1 := fun w1 (hb : Below w.heap.size w w1) => refCheck_tr u n' p' l' c' w1 (hu.later hb)
  have r2 := fun w1 (hb : Below w.heap.size w w1) (k0 : okT t = true) (k1 : okT u = true) => rsum_any (idOf t) (idOf u) n p l c n' p' l' c' w1 ((is_ok ht k0).later hb) ((is_ok hu k1).later hb)
  have r2 : ∀ w1, Below w.heap.size w w1 → okT t = true → okT u = true → Calls Try.prog 75 #[TV n p l c, TV n' p' l' c'] w1 (GivesB (uT (unite (idOf t) (idOf u))) (unite (idOf t) (idOf u)).isSome w1) := fun w1 hb k0 k1 => by
    have := r2 w1 hb k0 k1
    rwa [rsum_eq _ _ (ok_parts (okT_ok ht k0)).2 (ok_parts (okT_ok hu k1)).2] at this
  obtain ⟨xz, ez, HX, HE⟩ : ∃ x e, Hid (sumX t u = x) ∧ Hid (sumE t u = e) := ⟨_, _, rfl, rfl⟩
  rw [HX.out, HE.out]
  unfold sumX at HX
  unfold sumE at HE
  clear ht hu
  generalize okT t = b at r0 r2 HX HE
  generalize okT u = b' at r1 r2 HX HE
  generalize unite (idOf t) (idOf u) = z at r2 HX HE
  have HN : Hid (b = true → b' = true → z = none → xz = .leaf false) := fun h1 h2 h3 => by rw [← HX.out, h1, h2, h3]; rfl
  go_enter Try.func40, Try.ntmps40
  go_wp2_with (refine load_t _ rfl rfl _ _ rfl h1.tat ?_)
  refine (r0 _ hbel).mono ?_
  rintro e w1 ⟨rfl, hb1⟩
  replace h1 := h1.later hb1
  replace h2 := h2.later hb1
  replace h3 := h3.later hb1
  replace hbel := below_on hbel hb1
  clear hb1 r0
  cases b
  · obtain rfl : xz = .leaf false := HX.out.symm
    obtain rfl : ez = 3 := HE.out.symm
    have R := below_setRow hbel (g := w.heap.size + 1 + 1) (by omega) #[.int .i64 0, .slice none 0 0]
    clear HX HE r1 r2 h1 h2 hbel
    go_wp2_with (refine store_t rfl _ _ rfl _ 0 none 0 0 rfl rfl h3 ?_)
    exact bodyPost_ret (results_te rfl rfl (h3.row _ _ _ _)) rfl ⟨_, _, _, _, rfl, is_leaf _ false _ _, R⟩
  · go_wp2_with (refine load_t _ rfl rfl _ _ rfl h2.tat ?_)
    refine (r1 _ hbel).mono ?_
    rintro e w2 ⟨rfl, hb1⟩
    replace h1 := h1.later hb1
    replace h2 := h2.later hb1
    replace h3 := h3.later hb1
    replace hbel := below_on hbel hb1
    clear hb1 r1
    cases b'
    · obtain rfl : xz = .leaf false := HX.out.symm
      obtain rfl : ez = 3 := HE.out.symm
      have R := below_setRow hbel (g := w.heap.size + 1 + 1) (by omega) #[.int .i64 0, .slice none 0 0]
      clear HX HE r2 h1 h2 hbel
      go_wp2_with (refine store_t rfl _ _ rfl _ 0 none 0 0 rfl rfl h3 ?_)
      exact bodyPost_ret (results_te rfl rfl (h3.row _ _ _ _)) rfl ⟨_, _, _, _, rfl, is_leaf _ false _ _, R⟩
    · have ex : uT z = xz := HX.out
      have ee : uE z = ez := HE.out
      rw [ex] at r2
      clear HX HE ex
      go_wp2_with (first | refine load_t _ rfl rfl _ _ rfl h1.tat ?_ | refine load_t _ rfl rfl _ _ rfl h2.tat ?_)
      refine (r2 _ hbel trivial trivial).mono ?_
      clear r2
      have HZ : Hid (uE z = ez) := ee
      clear ee
      cases z with
      | none =>
        obtain rfl : ez = 42 := HZ.out.symm
        clear HZ
        rintro e w3 ⟨n2, p2, l2, c2, rfl, hi, hb1⟩
        obtain rfl : xz = .leaf false := HN.out (by first | rfl | trivial) (by first | rfl | trivial) (by first | rfl | trivial)
        replace h3 := (h3.later hb1).later (new_below w3 n2 p2 l2 c2)
        have R := below_setRow (below_on (below_on hbel hb1) (new_below w3 n2 p2 l2 c2)) (g := w.heap.size + 1 + 1) (by omega) #[.int .i64 0, .slice none 0 0]
        clear hbel hb1 h1 h2 hi HN
        go_wp2_with (first | refine store_t rfl _ _ rfl _ n2 p2 l2 c2 rfl rfl (bx_new w3 0 none 0 0) ?_ | refine store_t rfl _ _ rfl _ 0 none 0 0 rfl rfl h3 ?_)
        exact bodyPost_ret (results_te rfl rfl (h3.row _ _ _ _)) rfl ⟨_, _, _, _, rfl, is_leaf _ false _ _, R⟩
      | some y =>
        obtain rfl : ez = 0 := HZ.out.symm
        clear HZ HN
        rintro e w3 ⟨n2, p2, l2, c2, rfl, hi, hb1⟩
        have b3 := new_box w3 n2 p2 l2 c2
        replace hi := hi.later (new_below w3 n2 p2 l2 c2)
        replace h3 := (h3.later hb1).later (new_below w3 n2 p2 l2 c2)
        have R := below_setRow (below_on (below_on hbel hb1) (new_below w3 n2 p2 l2 c2)) (g := w.heap.size + 1 + 1) (by omega) #[.int .i64 n2, .slice p2 l2 c2]
        clear hbel hb1 h1 h2
        go_wp2_with (first | refine store_t rfl _ _ rfl _ n2 p2 l2 c2 rfl rfl (bx_new w3 0 none 0 0) ?_ | refine store_t rfl _ _ rfl _ n2 p2 l2 c2 rfl rfl h3 ?_ | refine load_t _ rfl rfl _ _ rfl b3.tat ?_)
        exact bodyPost_ret (results_te rfl rfl (h3.row _ _ _ _)) rfl ⟨_, _, _, _, rfl, hi.box h3 _, R⟩

end Go.Proofs.Ytmcajjdijjcpkaa.Idn
