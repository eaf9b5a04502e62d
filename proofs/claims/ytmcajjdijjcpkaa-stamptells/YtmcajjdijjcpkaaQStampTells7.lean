import Derived.Test.YtmcajjdijjcpkaaQStampTells6
/- The function grow of the document's answer for stamps. -/
namespace Go.Proofs.Ytmcajjdijjcpkaa
open Go.RowKit
open Idn (ID)

set_option maxHeartbeats 2000000 in
set_option maxRecDepth 100000 in
theorem rgrow_all (i : ID) (ni : Int) (pi : Option Addr) (li ci : Nat) (ne : Int) (pe : Option Addr) (ce : Nat) (w : World) (hi : Idn.Is w i (TV ni pi li ci)) (h : all i = true) (hn : 0 ≤ ne ∧ ne ≤ 1073741824) : Calls Try.prog 47 #[TV ni pi li ci, TV ne pe 0 ce] w (GivesE (.leaf (ne + 1)) 0 w) := by
  obtain ⟨b1, b2, b3, hbel⟩ := three_box w ni pi li ci ne pe 0 ce 0 none 0 0 _ rfl
  have r1 := fun w1 => rIsAll_is hi w1
  rw [h] at r1
  clear h hi
  go_enter Try.func47, Try.ntmps47
  go_wp2_with (refine load_t _ rfl rfl _ _ rfl b1.tat ?_)
  refine (r1 _).mono ?_
  rintro e1 w1 ⟨rfl, hb1⟩
  replace b2 := b2.later hb1
  replace b3 := b3.later hb1
  replace hbel := below_on hbel hb1
  clear hb1 r1 b1
  have g0 := b2.cell0
  have g1 := b2.cell1
  have R := below_setRow hbel (g := w.heap.size + 1 + 1) (by omega) #[.int .i64 (ne + 1), .slice pe 0 ce]
  go_wp2_with (refine store_t rfl _ _ rfl _ (ne + 1) pe 0 ce rfl rfl b3 ?_)
  exact bodyPost_ret (results_te rfl rfl (b3.row _ _ _ _)) rfl ⟨_, _, _, _, rfl, is_leaf _ (ne + 1) _ _, R⟩

set_option maxHeartbeats 8000000 in
set_option maxRecDepth 100000 in
theorem rgrow_leaf (n : Int) (Z : Gw) (g o c : Nat) (pe : Option Addr) (ce : Nat) (w : World) (hz : 0 ≤ Z.cost ∧ Z.cost ≤ 100000)
    (rG : ∀ w1 m p l k, Below w.heap.size w w1 → Is w1 (.node n (.leaf 0) (.leaf 0)) (TV m p l k) → Calls Try.prog 47 #[TV 0 (some ⟨g, o, none⟩) 2 c, TV m p l k] w1 (GivesE Z.ev Z.cost w1)) :
    Calls Try.prog 47 #[TV 0 (some ⟨g, o, none⟩) 2 c, TV n pe 0 ce] w (GivesE (dear Z).ev (dear Z).cost w) := by
  obtain ⟨b1, b2, b3, hbel⟩ := three_box w 0 (some ⟨g, o, none⟩) 2 c n pe 0 ce 0 none 0 0 _ rfl
  have x1 := fun w1 => Idn.refIsLeaf_any 0 1 (some ⟨g, o, none⟩) 2 c w1
  simp only [Nat.reduceEqDiff, decide_false, Bool.false_and] at x1
  obtain ⟨zc, HC⟩ : ∃ z, Hid (Z.cost = z) := ⟨_, rfl⟩
  rw [HC.out] at rG hz
  go_enter Try.func47, Try.ntmps47
  go_wp2_with (refine load_t _ rfl rfl _ _ rfl b1.tat ?_)
  refine (x1 _).mono ?_
  rintro e1 w1 ⟨rfl, hb1⟩
  replace b1 := b1.later hb1
  replace b2 := b2.later hb1
  replace b3 := b3.later hb1
  replace hbel := below_on hbel hb1
  clear hb1 x1
  have g1 := b2.cell1
  go_wp2_with fail
  clear g1
  have hS : Calm.Stays (fun w' => Bx w' w.heap.size 0 (some ⟨g, o, none⟩) 2 c ∧ Bx w' (w.heap.size + 1) n pe 0 ce ∧ Bx w' (w.heap.size + 1 + 1) 0 none 0 0 ∧ Below w.heap.size w w') := fun wa wb h hb => ⟨h.1.later hb, h.2.1.later hb, h.2.2.1.later hb, below_on h.2.2.2 hb⟩
  have hF : Facts.Stay [eqF 0 (TV 0 (some ⟨g, o, none⟩) 2 c), eqF 1 (.pointer (some ⟨w.heap.size + 1, 0, none⟩)), eqF 2 (.int .i64 n), eqF 3 (TV 0 none 0 0), eqF 4 (TV 0 none 0 0), isF 5 (.node n (.leaf 0) (.leaf 0)), teF 6 Z.ev zc, teF 7 Z.ev zc, isF 8 Z.ev, eqF 9 (.int .i64 zc), alF 10 (w.heap.size + 3), sbF 10 8 (w.heap.size + 3) Z.ev, eqF 12 (.int .i64 zc)] := stay_of (by simp only [List.forall_mem_cons]; exact ⟨eqF_stays _ _, eqF_stays _ _, eqF_stays _ _, eqF_stays _ _, eqF_stays _ _, isF_stays _ _, teF_stays _ _ _, teF_stays _ _ _, isF_stays _ _, eqF_stays _ _, alF_stays _ _, sbF_stays _ _ _ _, eqF_stays _ _, fun _ h => by cases h⟩)
  refine Facts.region (by kernel_rfl) (by kernel_rfl) (fun w' => Bx w' w.heap.size 0 (some ⟨g, o, none⟩) 2 c ∧ Bx w' (w.heap.size + 1) n pe 0 ce ∧ Bx w' (w.heap.size + 1 + 1) 0 none 0 0 ∧ Below w.heap.size w w') (fun x => { tmps := #[TV 0 (some { block := g, off := o }) 2 c, TV n pe 0 ce, Value.pointer (some { block := w.heap.size, off := 0 }), Value.pointer (some { block := w.heap.size + 1, off := 0 }), Value.pointer (some { block := w.heap.size + 1 + 1, off := 0 }), Value.int IntKind.i64 0, x 10, x 12, undef, undef, undef, undef, undef, undef, undef, undef, undef, undef, TV 0 (some { block := g, off := o }) 2 c, Value.bool false, undef, undef, undef, undef, undef, undef, Value.pointer (some { block := w.heap.size + 1, off := 1 }), Value.slice pe 0 ce, Value.int IntKind.i64 0, Value.bool true, x 7, x 0, x 1, x 2, x 3, x 4, x 5, x 6, x 8, x 9, undef, undef, undef, undef, undef, undef, undef, undef, undef, undef, undef, undef, undef, undef, undef, undef, undef, undef, undef, undef, undef, undef, undef, undef, undef, undef, undef, undef, undef, undef, undef, undef, undef, undef, undef, undef, undef, undef, undef, undef, undef, undef, undef, undef, undef, undef, undef, undef, undef, undef, undef, undef, undef, undef, undef, undef, undef, undef, undef, undef, undef, undef, undef, undef, undef, undef, undef, undef, undef, undef, undef, undef, undef, undef, undef, undef, undef, undef, undef, undef, undef, undef, undef, undef, undef, undef, undef, undef, undef, undef, undef, undef, undef, undef], defers := [] }) [eqF 0 (TV 0 (some ⟨g, o, none⟩) 2 c), eqF 1 (.pointer (some ⟨w.heap.size + 1, 0, none⟩)), eqF 2 (.int .i64 n), eqF 3 (TV 0 none 0 0), eqF 4 (TV 0 none 0 0), isF 5 (.node n (.leaf 0) (.leaf 0)), teF 6 Z.ev zc, teF 7 Z.ev zc, isF 8 Z.ev, eqF 9 (.int .i64 zc), alF 10 (w.heap.size + 3), sbF 10 8 (w.heap.size + 3) Z.ev, eqF 12 (.int .i64 zc)] _ rfl (by kernel_rfl) (fun _ => undef) rfl ⟨b1, b2, b3, hbel.drew⟩ ⟨?_, ?_, ?_, ?_, ?_, ?_, ?_, ?_, ?_, ?_, ?_, ?_, ?_, trivial⟩ ?_
  · exact Facts.loadT hS hF (fun _ _ => rfl) _ rfl rfl (fun x wv hSw hd => by rfl) (fun wv hSw => Bx.tat hSw.1)
  · exact Facts.pure hS hF (fun _ _ => rfl) rfl (fun x wv hSw hd => by
      go_simp)
  · exact Facts.pure hS hF (fun _ _ => rfl) rfl (fun x wv hSw hd => by
      have d1 := eqF_get (hd ⟨1, .data⟩ (by simp) rfl _ rfl)
      have g0 := Bx.cell0 hSw.2.1
      simp only [d1]
      go_simp)
  · refine Facts.call1V hS hF (fun _ _ => rfl) rfl (by kernel_rfl) rfl (fun x wv hSw hd => ?_)
    exact refLeaf_any 0 wv
  · refine Facts.call1V hS hF (fun _ _ => rfl) rfl (by kernel_rfl) rfl (fun x wv hSw hd => ?_)
    exact refLeaf_any 0 wv
  · refine Facts.call3T hS hF (fun _ _ => rfl) rfl (by kernel_rfl) rfl (fun x wv hSw hd => ?_)
    have d2 := eqF_get (hd ⟨2, .data⟩ (by simp) rfl _ rfl)
    have d3 := eqF_get (hd ⟨3, .data⟩ (by simp) rfl _ rfl)
    have d4 := eqF_get (hd ⟨4, .data⟩ (by simp) rfl _ rfl)
    have hc := inner_any n (.leaf 0) (.leaf 0) 0 none 0 0 0 none 0 0 wv (is_leaf wv 0 none 0) (is_leaf wv 0 none 0)
    rw [← d2] at hc
    rw [d3, d4] at *
    exact hc
  · refine Facts.call2E hS hF (fun _ _ => rfl) rfl (by kernel_rfl) rfl (fun x wv hSw hd => ?_)
    have d0 := eqF_get (hd ⟨0, .data⟩ (by simp) rfl _ rfl)
    obtain ⟨n5i, p5i, l5i, c5i, d5, e5⟩ := isF_get (hd ⟨5, .data⟩ (by simp) rfl _ rfl)
    have hc := rG wv _ _ _ _ hSw.2.2.2 e5
    rw [← d0, ← d5] at hc
    exact hc
  · exact Facts.moveE hS hF (fun _ _ => rfl) rfl rfl (fun _ => rfl) (fun x wv hSw hd => hd ⟨6, .data⟩ (by simp) rfl _ rfl)
  · exact Facts.fstE hS hF (fun _ _ => rfl) rfl rfl (fun _ => rfl) (fun x wv hSw hd => hd ⟨7, .data⟩ (by simp) rfl _ rfl)
  · exact Facts.sndE hS hF (fun _ _ => rfl) rfl rfl (fun _ => rfl) (fun x wv hSw hd => hd ⟨7, .data⟩ (by simp) rfl _ rfl)
  · exact Facts.allocT hS hF (fun _ _ => rfl) rfl rfl (fun wv hSw => (by have := Bx.lt hSw.2.2.1; omega))
  · exact Facts.storeP (fun _ _ => rfl) _ _ rfl (by decide) (by decide) rfl (fun _ => rfl) (fun _ => rfl) (fun x wv hSw hd => ⟨hd ⟨10, .data⟩ (by simp) rfl _ rfl, hd ⟨8, .data⟩ (by simp) rfl _ rfl⟩) (fun wv q n p l c n' p' l' c' hSw hq hbx => (by obtain ⟨s1, s2, s3, sB⟩ := hSw; exact ⟨s1.rowOther (by omega) _, s2.rowOther (by omega) _, s3.rowOther (by omega) _, below_setRow sB (by omega) _⟩)) (fun j f hj hfj q hq => by
      match j with
      | 0 => obtain rfl := Option.some.inj hfj; exact eqF_box _ _ _
      | 1 => obtain rfl := Option.some.inj hfj; exact eqF_box _ _ _
      | 2 => obtain rfl := Option.some.inj hfj; exact eqF_box _ _ _
      | 3 => obtain rfl := Option.some.inj hfj; exact eqF_box _ _ _
      | 4 => obtain rfl := Option.some.inj hfj; exact eqF_box _ _ _
      | 5 => obtain rfl := Option.some.inj hfj; exact isF_box _ _ _
      | 6 => obtain rfl := Option.some.inj hfj; exact teF_box _ _ _ _
      | 7 => obtain rfl := Option.some.inj hfj; exact teF_box _ _ _ _
      | 8 => obtain rfl := Option.some.inj hfj; exact isF_box _ _ _
      | 9 => obtain rfl := Option.some.inj hfj; exact eqF_box _ _ _
      | 10 => obtain rfl := Option.some.inj hfj; exact alF_box _ _ _
      | 12 => obtain rfl := Option.some.inj hfj; exact eqF_box _ _ _
      | 11 => exact absurd rfl hj
      | j + 13 => simp at hfj)
  · exact Facts.pure hS hF (fun _ _ => rfl) rfl (fun x wv hSw hd => by
      have d9 := eqF_get (hd ⟨9, .data⟩ (by simp) rfl _ rfl)
      simp only [d9]
      go_simp)
  rintro x w9 ⟨b1, b2, b3, hbel⟩ hf
  have e0 := eqF_get (hf 0 _ (by decide) rfl)
  have e12 := eqF_get (hf 12 _ (by decide) rfl)
  obtain ⟨q, nT, pT, lT, cT, e10, _, hq, bT, iT⟩ := sbF_get (hf 11 _ (by decide) rfl)
  clear hf hF hS rG
  simp only [e10, e12]
  clear e0 e10 e12
  have R := below_setRow hbel (g := w.heap.size + 1 + 1) (by omega) #[.int .i64 nT, .slice pT lT cT]
  go_wp2_with (first | refine load_t _ rfl rfl _ _ rfl bT.tat ?_ | refine store_t rfl _ _ rfl _ nT pT lT cT rfl rfl b3 ?_)
  exact bodyPost_ret (results_te rfl rfl (b3.row _ _ _ _)) rfl ⟨_, _, _, _, by rw [dear, HC.out]; rfl, iT.box b3 _, R⟩

set_option maxHeartbeats 16000000 in
set_option maxRecDepth 100000 in
theorem rgrow_node (l r : ID) (n : Int) (gl gr : Gw) (Z : Gw) (g o c g' o' c' : Nat) (m0 : Int) (q0 : Option Addr) (k0 j0 : Nat) (m1 : Int) (q1 : Option Addr) (k1 j1 : Nat) (n0 : Int) (p0 : Option Addr) (l0 c0 : Nat) (n1 : Int) (p1 : Option Addr) (l1 c1 : Nat) (w : World)
    (u0 : Tat w g o m0 q0 k0 j0) (u1 : Tat w g (o + 2) m1 q1 k1 j1) (t0 : Tat w g' o' n0 p0 l0 c0) (t1 : Tat w g' (o' + 2) n1 p1 l1 c1) (il : Idn.Is w l (TV m0 q0 k0 j0)) (ir : Idn.Is w r (TV m1 q1 k1 j1)) (a b : EV) (ia : Is w a (TV n0 p0 l0 c0)) (ib : Is w b (TV n1 p1 l1 c1))
    (rA : Idn.nil l = false → ∀ w1, Below w.heap.size w w1 → Calls Try.prog 47 #[TV m0 q0 k0 j0, TV n0 p0 l0 c0] w1 (GivesE gl.ev gl.cost w1)) (rB : Idn.nil r = false → ∀ w1, Below w.heap.size w w1 → Calls Try.prog 47 #[TV m1 q1 k1 j1, TV n1 p1 l1 c1] w1 (GivesE gr.ev gr.cost w1))
    (ht : Idn.tw l r = false) (hcl : Idn.nil l = false → 0 ≤ gl.cost ∧ gl.cost ≤ 100000) (hcr : Idn.nil r = false → 0 ≤ gr.cost ∧ gr.cost ≤ 100000) (hZ : Z = pk l r n a b gl gr) :
    Calls Try.prog 47 #[TV 0 (some ⟨g, o, none⟩) 2 c, TV n (some ⟨g', o', none⟩) 2 c'] w (GivesE Z.ev Z.cost w) := by
  obtain ⟨b1, b2, b3, hbel⟩ := three_box w 0 (some ⟨g, o, none⟩) 2 c n (some ⟨g', o', none⟩) 2 c' 0 none 0 0 _ rfl
  have x1 := fun w1 => Idn.refIsLeaf_any 0 1 (some ⟨g, o, none⟩) 2 c w1
  simp only [Nat.reduceEqDiff, decide_false, Bool.false_and] at x1
  have a0 := fun w1 => rIsNil_is il w1
  have a1 := fun w1 => rIsNil_is ir w1
  have HT : Hid (Idn.nil l = true → Idn.nil r = false) := show _ → _ from fun h => Idn.nil_other ht h
  have HZ : Hid (Z = pk l r n a b gl gr) := hZ
  have HL : Hid (Idn.nil l = false → 0 ≤ gl.cost ∧ gl.cost ≤ 100000) := hcl
  have HRR : Hid (Idn.nil r = false → 0 ≤ gr.cost ∧ gr.cost ≤ 100000) := hcr
  unfold pk at HZ
  clear ht hZ hcl hcr
  generalize Idn.nil l = bl at a0 HZ rA HT HL
  generalize Idn.nil r = br at a1 HZ rB HT HRR
  go_enter Try.func47, Try.ntmps47
  go_wp2_with (refine load_t _ rfl rfl _ _ rfl b1.tat ?_)
  refine (x1 _).mono ?_
  rintro e1 w1 ⟨rfl, hb1⟩
  replace b1 := b1.later hb1
  replace b2 := b2.later hb1
  replace b3 := b3.later hb1
  replace hbel := below_on hbel hb1
  clear hb1 x1
  have g1 := b2.cell1
  go_wp2_with fail
  clear g1
  have hS : Calm.Stays (fun w' => Bx w' w.heap.size 0 (some ⟨g, o, none⟩) 2 c ∧ Bx w' (w.heap.size + 1) n (some ⟨g', o', none⟩) 2 c' ∧ Bx w' (w.heap.size + 1 + 1) 0 none 0 0 ∧ Below w.heap.size w w') := fun wa wb h hb => ⟨h.1.later hb, h.2.1.later hb, h.2.2.1.later hb, below_on h.2.2.2 hb⟩
  have hF : Facts.Stay [eqF 0 (.pointer (some ⟨w.heap.size, 1, none⟩)), eqF 1 (.slice (some ⟨g, o, none⟩) 2 c), eqF 2 (.pointer (some ⟨g, o, none⟩)), eqF 3 (TV m0 q0 k0 j0), eqF 4 (.pointer (some ⟨w.heap.size, 1, none⟩)), eqF 5 (.slice (some ⟨g, o, none⟩) 2 c), eqF 6 (.pointer (some ⟨g, o + 2, none⟩)), eqF 7 (TV m1 q1 k1 j1), Idn.alF 8 (w.heap.size + 3), Idn.alF 9 (w.heap.size + 3), Idn.sbF 8 3 (w.heap.size + 3) l, Idn.sbF 9 7 (w.heap.size + 3) r] := stay_of (by simp only [List.forall_mem_cons]; exact ⟨eqF_stays _ _, eqF_stays _ _, eqF_stays _ _, eqF_stays _ _, eqF_stays _ _, eqF_stays _ _, eqF_stays _ _, eqF_stays _ _, Idn.alF_stays _ _, Idn.alF_stays _ _, Idn.sbF_stays _ _ _ _, Idn.sbF_stays _ _ _ _, fun _ h => by cases h⟩)
  refine FactsG.region (by kernel_rfl) (by kernel_rfl) (fun w' => Bx w' w.heap.size 0 (some ⟨g, o, none⟩) 2 c ∧ Bx w' (w.heap.size + 1) n (some ⟨g', o', none⟩) 2 c' ∧ Bx w' (w.heap.size + 1 + 1) 0 none 0 0 ∧ Below w.heap.size w w') (fun x => { tmps := #[TV 0 (some { block := g, off := o }) 2 c, TV n (some { block := g', off := o' }) 2 c', Value.pointer (some { block := w.heap.size, off := 0 }), Value.pointer (some { block := w.heap.size + 1, off := 0 }), Value.pointer (some { block := w.heap.size + 1 + 1, off := 0 }), Value.int IntKind.i64 0, undef, undef, x 8, x 9, undef, undef, undef, undef, undef, undef, undef, undef, TV 0 (some { block := g, off := o }) 2 c, Value.bool false, undef, undef, undef, undef, undef, undef, Value.pointer (some { block := w.heap.size + 1, off := 1 }), Value.slice (some { block := g', off := o' }) 2 c', Value.int IntKind.i64 2, Value.bool false, undef, undef, undef, undef, undef, undef, undef, undef, undef, undef, undef, undef, undef, x 0, x 1, x 2, x 3, x 4, x 5, x 6, x 7, undef, undef, undef, undef, undef, undef, undef, undef, undef, undef, undef, undef, undef, undef, undef, undef, undef, undef, undef, undef, undef, undef, undef, undef, undef, undef, undef, undef, undef, undef, undef, undef, undef, undef, undef, undef, undef, undef, undef, undef, undef, undef, undef, undef, undef, undef, undef, undef, undef, undef, undef, undef, undef, undef, undef, undef, undef, undef, undef, undef, undef, undef, undef, undef, undef, undef, undef, undef, undef, undef, undef, undef, undef, undef, undef, undef, undef, undef, undef, undef, undef, undef, undef], defers := [] }) [eqF 0 (.pointer (some ⟨w.heap.size, 1, none⟩)), eqF 1 (.slice (some ⟨g, o, none⟩) 2 c), eqF 2 (.pointer (some ⟨g, o, none⟩)), eqF 3 (TV m0 q0 k0 j0), eqF 4 (.pointer (some ⟨w.heap.size, 1, none⟩)), eqF 5 (.slice (some ⟨g, o, none⟩) 2 c), eqF 6 (.pointer (some ⟨g, o + 2, none⟩)), eqF 7 (TV m1 q1 k1 j1), Idn.alF 8 (w.heap.size + 3), Idn.alF 9 (w.heap.size + 3), Idn.sbF 8 3 (w.heap.size + 3) l, Idn.sbF 9 7 (w.heap.size + 3) r] (Idn.NotOne [8, 9]) (Idn.notOne_symm _) _ rfl rfl (by kernel_rfl) (fun _ => undef) rfl ⟨b1, b2, b3, hbel.drew⟩ ⟨?_, ?_, ?_, ?_, ?_, ?_, ?_, ?_, ?_, ?_, ?_, ?_, trivial⟩ ?_
  · exact FactsG.of rfl (fun _ _ _ h => absurd h (by decide)) (fun _ _ _ _ => rfl) (Facts.pure hS hF (fun _ _ => rfl) rfl (fun x wv hSw hd => by
      go_simp))
  · exact FactsG.of rfl (fun _ _ _ h => absurd h (by decide)) (fun _ _ _ _ => rfl) (Facts.pure hS hF (fun _ _ => rfl) rfl (fun x wv hSw hd => by
      have d0 := eqF_get (hd ⟨0, .data⟩ (by simp) rfl _ rfl)
      have g1 := Bx.cell1 hSw.1
      simp only [d0]
      go_simp))
  · exact FactsG.of rfl (fun _ _ _ h => absurd h (by decide)) (fun _ _ _ _ => rfl) (Facts.pure hS hF (fun _ _ => rfl) rfl (fun x wv hSw hd => by
      have d1 := eqF_get (hd ⟨1, .data⟩ (by simp) rfl _ rfl)
      simp only [d1]
      go_simp))
  · exact FactsG.of rfl (fun _ _ _ h => absurd h (by decide)) (fun _ _ _ _ => rfl) (Facts.loadT hS hF (fun _ _ => rfl) _ rfl rfl (fun x wv hSw hd => by have d2 := eqF_get (hd ⟨2, .data⟩ (by simp) rfl _ rfl); exact d2) (fun wv hSw => u0.later hSw.2.2.2))
  · exact FactsG.of rfl (fun _ _ _ h => absurd h (by decide)) (fun _ _ _ _ => rfl) (Facts.pure hS hF (fun _ _ => rfl) rfl (fun x wv hSw hd => by
      go_simp))
  · exact FactsG.of rfl (fun _ _ _ h => absurd h (by decide)) (fun _ _ _ _ => rfl) (Facts.pure hS hF (fun _ _ => rfl) rfl (fun x wv hSw hd => by
      have d4 := eqF_get (hd ⟨4, .data⟩ (by simp) rfl _ rfl)
      have g1 := Bx.cell1 hSw.1
      simp only [d4]
      go_simp))
  · exact FactsG.of rfl (fun _ _ _ h => absurd h (by decide)) (fun _ _ _ _ => rfl) (Facts.pure hS hF (fun _ _ => rfl) rfl (fun x wv hSw hd => by
      have d5 := eqF_get (hd ⟨5, .data⟩ (by simp) rfl _ rfl)
      simp only [d5]
      go_simp))
  · exact FactsG.of rfl (fun _ _ _ h => absurd h (by decide)) (fun _ _ _ _ => rfl) (Facts.loadT hS hF (fun _ _ => rfl) _ rfl rfl (fun x wv hSw hd => by have d6 := eqF_get (hd ⟨6, .data⟩ (by simp) rfl _ rfl); exact d6) (fun wv hSw => u1.later hSw.2.2.2))
  · exact Idn.FactsG.allocT rfl rfl hS hF (fun _ _ => rfl) rfl rfl (fun wv hSw => (by have := Bx.lt hSw.2.2.1; omega)) (fun j f hfj hj => by simp only [List.mem_cons, List.not_mem_nil, or_false] at hj; rcases hj with rfl | rfl <;> exact ⟨_, (Option.some.inj hfj).symm⟩)
  · exact Idn.FactsG.allocT rfl rfl hS hF (fun _ _ => rfl) rfl rfl (fun wv hSw => (by have := Bx.lt hSw.2.2.1; omega)) (fun j f hfj hj => by simp only [List.mem_cons, List.not_mem_nil, or_false] at hj; rcases hj with rfl | rfl <;> exact ⟨_, (Option.some.inj hfj).symm⟩)
  · exact Idn.FactsG.storeP rfl rfl (by decide) (fun _ _ => rfl) _ _ rfl (by decide) (by decide) rfl (fun _ => rfl) (fun _ => rfl) (fun x wv hSw hd => ⟨hd ⟨8, .data⟩ (by simp) rfl _ rfl, ⟨m0, q0, k0, j0, by simp [Idn.isF, eqF_get (hd ⟨3, .data⟩ (by simp) rfl _ rfl)], il.later hSw.2.2.2⟩⟩) (fun wv q n p l c n' p' l' c' hSw hq hbx => (by obtain ⟨s1, s2, s3, sB⟩ := hSw; exact ⟨s1.rowOther (by omega) _, s2.rowOther (by omega) _, s3.rowOther (by omega) _, below_setRow sB (by omega) _⟩)) (fun x wv q n p l c hrel hxm hNq hq j f hj hfj hh => by
      match j with
      | 0 => obtain rfl := Option.some.inj hfj; exact eqF_box _ _ _ _ _ n p l c hh hq
      | 1 => obtain rfl := Option.some.inj hfj; exact eqF_box _ _ _ _ _ n p l c hh hq
      | 2 => obtain rfl := Option.some.inj hfj; exact eqF_box _ _ _ _ _ n p l c hh hq
      | 3 => obtain rfl := Option.some.inj hfj; exact eqF_box _ _ _ _ _ n p l c hh hq
      | 4 => obtain rfl := Option.some.inj hfj; exact eqF_box _ _ _ _ _ n p l c hh hq
      | 5 => obtain rfl := Option.some.inj hfj; exact eqF_box _ _ _ _ _ n p l c hh hq
      | 6 => obtain rfl := Option.some.inj hfj; exact eqF_box _ _ _ _ _ n p l c hh hq
      | 7 => obtain rfl := Option.some.inj hfj; exact eqF_box _ _ _ _ _ n p l c hh hq
      | 8 => obtain rfl := Option.some.inj hfj; exact Idn.alF_box _ _ _ _ _ n p l c hh hq
      | 9 => obtain rfl := Option.some.inj hfj; exact Idn.alF_box _ _ _ _ _ n p l c hh hq
      | 11 => obtain rfl := Option.some.inj hfj; exact Idn.sbF_other hh (fun h => hrel ⟨9, .phase⟩ (by simp) rfl ⟨8, .phase⟩ (by simp) rfl (by decide) (by decide) (by decide) (h.trans hxm.symm)) hq
      | 10 => exact absurd rfl hj
      | j + 12 => simp at hfj)
  · exact Idn.FactsG.storeP rfl rfl (by decide) (fun _ _ => rfl) _ _ rfl (by decide) (by decide) rfl (fun _ => rfl) (fun _ => rfl) (fun x wv hSw hd => ⟨hd ⟨9, .data⟩ (by simp) rfl _ rfl, ⟨m1, q1, k1, j1, by simp [Idn.isF, eqF_get (hd ⟨7, .data⟩ (by simp) rfl _ rfl)], ir.later hSw.2.2.2⟩⟩) (fun wv q n p l c n' p' l' c' hSw hq hbx => (by obtain ⟨s1, s2, s3, sB⟩ := hSw; exact ⟨s1.rowOther (by omega) _, s2.rowOther (by omega) _, s3.rowOther (by omega) _, below_setRow sB (by omega) _⟩)) (fun x wv q n p l c hrel hxm hNq hq j f hj hfj hh => by
      match j with
      | 0 => obtain rfl := Option.some.inj hfj; exact eqF_box _ _ _ _ _ n p l c hh hq
      | 1 => obtain rfl := Option.some.inj hfj; exact eqF_box _ _ _ _ _ n p l c hh hq
      | 2 => obtain rfl := Option.some.inj hfj; exact eqF_box _ _ _ _ _ n p l c hh hq
      | 3 => obtain rfl := Option.some.inj hfj; exact eqF_box _ _ _ _ _ n p l c hh hq
      | 4 => obtain rfl := Option.some.inj hfj; exact eqF_box _ _ _ _ _ n p l c hh hq
      | 5 => obtain rfl := Option.some.inj hfj; exact eqF_box _ _ _ _ _ n p l c hh hq
      | 6 => obtain rfl := Option.some.inj hfj; exact eqF_box _ _ _ _ _ n p l c hh hq
      | 7 => obtain rfl := Option.some.inj hfj; exact eqF_box _ _ _ _ _ n p l c hh hq
      | 8 => obtain rfl := Option.some.inj hfj; exact Idn.alF_box _ _ _ _ _ n p l c hh hq
      | 9 => obtain rfl := Option.some.inj hfj; exact Idn.alF_box _ _ _ _ _ n p l c hh hq
      | 10 => obtain rfl := Option.some.inj hfj; exact Idn.sbF_other hh (fun h => hrel ⟨8, .phase⟩ (by simp) rfl ⟨9, .phase⟩ (by simp) rfl (by decide) (by decide) (by decide) (h.trans hxm.symm)) hq
      | 11 => exact absurd rfl hj
      | j + 12 => simp at hfj)
  rintro x w9 ⟨b1, b2, b3, hbel⟩ hf hrel
  have e0 := eqF_get (hf 0 _ (by decide) rfl)
  have e1 := eqF_get (hf 1 _ (by decide) rfl)
  have e2 := eqF_get (hf 2 _ (by decide) rfl)
  have e3 := eqF_get (hf 3 _ (by decide) rfl)
  have e4 := eqF_get (hf 4 _ (by decide) rfl)
  have e5 := eqF_get (hf 5 _ (by decide) rfl)
  have e6 := eqF_get (hf 6 _ (by decide) rfl)
  have e7 := eqF_get (hf 7 _ (by decide) rfl)
  obtain ⟨ql, nx, px, lx, cx, e8, f8, hqql, bql, iql⟩ := Idn.sbF_get (hf 10 _ (by decide) rfl)
  obtain ⟨qr, ny, py, ly, cy, e9, f9, hqqr, bqr, iqr⟩ := Idn.sbF_get (hf 11 _ (by decide) rfl)
  have hnqlqr : ql ≠ qr := by
    intro h
    have := hrel 8 9 (by decide) (by decide) (by decide) (by simp) (by simp)
    rw [e8, e9, h] at this
    exact this rfl
  rw [e3] at f8
  rw [e7] at f9
  simp at f8 f9
  obtain ⟨rfl, rfl, rfl, rfl⟩ := f8
  obtain ⟨rfl, rfl, rfl, rfl⟩ := f9
  clear hf hrel hF hS
  simp only [e0, e1, e2, e3, e4, e5, e6, e7, e8, e9]
  clear e0 e1 e2 e3 e4 e5 e6 e7 e8 e9 x
  clear iql iqr u0 u1 il ir
  go_wp2_with (first | refine load_t _ rfl rfl _ _ rfl bql.tat ?_ | refine load_t _ rfl rfl _ _ rfl bqr.tat ?_)
  refine (a0 _).mono ?_
  rintro e1 w10 ⟨rfl, hb1⟩
  replace b1 := b1.later hb1
  replace b2 := b2.later hb1
  replace b3 := b3.later hb1
  replace bql := bql.later hb1
  replace bqr := bqr.later hb1
  replace hbel := below_on hbel hb1
  clear hb1
  clear a0
  cases bl
  case' true =>
    obtain rfl := HT.out rfl
    have hc0 := HRR.out (by first | rfl | trivial)
    simp only [if_true, gB] at HZ
    obtain rfl := HZ.out
    replace rB := rB (by first | rfl | trivial)
    have hwr : IntKind.i64.wrap (gr.cost + 1) = gr.cost + 1 := by rw [IntKind.wrap_i64]; omega
    clear rA a1 HT HZ HL HRR hc0
    go_wp2_with fail
    have hl1 := bql.lt
    have hl2 := bqr.lt
    have hl3 := b3.lt
    have hd2 : w.heap.size + 3 ≤ ql ∧ w.heap.size + 3 ≤ qr := by omega
    have hS : Calm.Stays (fun w' => Bx w' w.heap.size 0 (some ⟨g, o, none⟩) 2 c ∧ Bx w' (w.heap.size + 1) n (some ⟨g', o', none⟩) 2 c' ∧ Bx w' (w.heap.size + 1 + 1) 0 none 0 0 ∧ Bx w' ql m0 q0 k0 j0 ∧ Bx w' qr m1 q1 k1 j1 ∧ w10.heap.size ≤ w'.heap.size ∧ Below w.heap.size w w') := fun wa wb h hb => ⟨h.1.later hb, h.2.1.later hb, h.2.2.1.later hb, h.2.2.2.1.later hb, h.2.2.2.2.1.later hb, Nat.le_trans h.2.2.2.2.2.1 hb.size, below_on h.2.2.2.2.2.2 hb⟩
    have hF : Facts.Stay [eqF 0 (TV m1 q1 k1 j1), eqF 1 (.pointer (some ⟨w.heap.size + 1, 1, none⟩)), eqF 2 (.slice (some ⟨g', o', none⟩) 2 c'), eqF 3 (.pointer (some ⟨g', o' + 2, none⟩)), eqF 4 (TV n1 p1 l1 c1), teF 5 gr.ev gr.cost, teF 6 gr.ev gr.cost, isF 7 gr.ev, eqF 8 (.int .i64 gr.cost), alF 9 (w10.heap.size), sbF 9 7 (w10.heap.size) gr.ev, eqF 11 (.int .i64 gr.cost)] := stay_of (by simp only [List.forall_mem_cons]; exact ⟨eqF_stays _ _, eqF_stays _ _, eqF_stays _ _, eqF_stays _ _, eqF_stays _ _, teF_stays _ _ _, teF_stays _ _ _, isF_stays _ _, eqF_stays _ _, alF_stays _ _, sbF_stays _ _ _ _, eqF_stays _ _, fun _ h => by cases h⟩)
    refine Facts.region (by kernel_rfl) (by kernel_rfl) (fun w' => Bx w' w.heap.size 0 (some ⟨g, o, none⟩) 2 c ∧ Bx w' (w.heap.size + 1) n (some ⟨g', o', none⟩) 2 c' ∧ Bx w' (w.heap.size + 1 + 1) 0 none 0 0 ∧ Bx w' ql m0 q0 k0 j0 ∧ Bx w' qr m1 q1 k1 j1 ∧ w10.heap.size ≤ w'.heap.size ∧ Below w.heap.size w w') (fun x => { tmps := #[TV 0 (some { block := g, off := o }) 2 c, TV n (some { block := g', off := o' }) 2 c', Value.pointer (some { block := w.heap.size, off := 0 }), Value.pointer (some { block := w.heap.size + 1, off := 0 }), Value.pointer (some { block := w.heap.size + 1 + 1, off := 0 }), Value.int IntKind.i64 0, undef, undef, Value.pointer (some { block := ql, off := 0 }), Value.pointer (some { block := qr, off := 0 }), x 9, x 11, undef, undef, undef, undef, undef, undef, TV 0 (some { block := g, off := o }) 2 c, Value.bool false, undef, undef, undef, undef, undef, undef, Value.pointer (some { block := w.heap.size + 1, off := 1 }), Value.slice (some { block := g', off := o' }) 2 c', Value.int IntKind.i64 2, Value.bool false, undef, undef, undef, undef, undef, undef, undef, undef, undef, undef, undef, undef, undef, Value.pointer (some { block := w.heap.size, off := 1 }), Value.slice (some { block := g, off := o }) 2 c, Value.pointer (some { block := g, off := o }), TV m0 q0 k0 j0, Value.pointer (some { block := w.heap.size, off := 1 }), Value.slice (some { block := g, off := o }) 2 c, Value.pointer (some { block := g, off := o + 2 }), TV m1 q1 k1 j1, TV m0 q0 k0 j0, Value.bool true, x 6, x 0, x 1, x 2, x 3, x 4, x 5, x 7, x 8, undef, undef, undef, undef, undef, undef, undef, undef, undef, undef, undef, undef, undef, undef, undef, undef, undef, undef, undef, undef, undef, undef, undef, undef, undef, undef, undef, undef, undef, undef, undef, undef, undef, undef, undef, undef, undef, undef, undef, undef, undef, undef, undef, undef, undef, undef, undef, undef, undef, undef, undef, undef, undef, undef, undef, undef, undef, undef, undef, undef, undef, undef, undef, undef, undef, undef, undef, undef, undef, undef, undef, undef], defers := [] }) [eqF 0 (TV m1 q1 k1 j1), eqF 1 (.pointer (some ⟨w.heap.size + 1, 1, none⟩)), eqF 2 (.slice (some ⟨g', o', none⟩) 2 c'), eqF 3 (.pointer (some ⟨g', o' + 2, none⟩)), eqF 4 (TV n1 p1 l1 c1), teF 5 gr.ev gr.cost, teF 6 gr.ev gr.cost, isF 7 gr.ev, eqF 8 (.int .i64 gr.cost), alF 9 (w10.heap.size), sbF 9 7 (w10.heap.size) gr.ev, eqF 11 (.int .i64 gr.cost)] _ rfl (by kernel_rfl) (fun _ => undef) rfl ⟨b1, b2, b3, bql, bqr, Nat.le_refl _, hbel.drew⟩ ⟨?_, ?_, ?_, ?_, ?_, ?_, ?_, ?_, ?_, ?_, ?_, ?_, trivial⟩ ?_
    · exact Facts.loadT hS hF (fun _ _ => rfl) _ rfl rfl (fun x wv hSw hd => by rfl) (fun wv hSw => Bx.tat hSw.2.2.2.2.1)
    · exact Facts.pure hS hF (fun _ _ => rfl) rfl (fun x wv hSw hd => by
        go_simp)
    · exact Facts.pure hS hF (fun _ _ => rfl) rfl (fun x wv hSw hd => by
        have d1 := eqF_get (hd ⟨1, .data⟩ (by simp) rfl _ rfl)
        have g1 := Bx.cell1 hSw.2.1
        simp only [d1]
        go_simp)
    · exact Facts.pure hS hF (fun _ _ => rfl) rfl (fun x wv hSw hd => by
        have d2 := eqF_get (hd ⟨2, .data⟩ (by simp) rfl _ rfl)
        simp only [d2]
        go_simp)
    · exact Facts.loadT hS hF (fun _ _ => rfl) _ rfl rfl (fun x wv hSw hd => by have d3 := eqF_get (hd ⟨3, .data⟩ (by simp) rfl _ rfl); exact d3) (fun wv hSw => t1.later hSw.2.2.2.2.2.2)
    · refine Facts.call2E hS hF (fun _ _ => rfl) rfl (by kernel_rfl) rfl (fun x wv hSw hd => ?_)
      have d0 := eqF_get (hd ⟨0, .data⟩ (by simp) rfl _ rfl)
      have d4 := eqF_get (hd ⟨4, .data⟩ (by simp) rfl _ rfl)
      have hc := rB wv hSw.2.2.2.2.2.2
      rw [← d0, ← d4] at hc
      exact hc
    · exact Facts.moveE hS hF (fun _ _ => rfl) rfl rfl (fun _ => rfl) (fun x wv hSw hd => hd ⟨5, .data⟩ (by simp) rfl _ rfl)
    · exact Facts.fstE hS hF (fun _ _ => rfl) rfl rfl (fun _ => rfl) (fun x wv hSw hd => hd ⟨6, .data⟩ (by simp) rfl _ rfl)
    · exact Facts.sndE hS hF (fun _ _ => rfl) rfl rfl (fun _ => rfl) (fun x wv hSw hd => hd ⟨6, .data⟩ (by simp) rfl _ rfl)
    · exact Facts.allocT hS hF (fun _ _ => rfl) rfl rfl (fun wv hSw => hSw.2.2.2.2.2.1)
    · exact Facts.storeP (fun _ _ => rfl) _ _ rfl (by decide) (by decide) rfl (fun _ => rfl) (fun _ => rfl) (fun x wv hSw hd => ⟨hd ⟨9, .data⟩ (by simp) rfl _ rfl, hd ⟨7, .data⟩ (by simp) rfl _ rfl⟩) (fun wv q n p l c n' p' l' c' hSw hq hbx => (by obtain ⟨s1, s2, s3, s4, s5, s6, sB⟩ := hSw; exact ⟨s1.rowOther (by omega) _, s2.rowOther (by omega) _, s3.rowOther (by omega) _, s4.rowOther (by omega) _, s5.rowOther (by omega) _, (by simpa using s6), below_setRow sB (by omega) _⟩)) (fun j f hj hfj q hq => by
        match j with
        | 0 => obtain rfl := Option.some.inj hfj; exact eqF_box _ _ _
        | 1 => obtain rfl := Option.some.inj hfj; exact eqF_box _ _ _
        | 2 => obtain rfl := Option.some.inj hfj; exact eqF_box _ _ _
        | 3 => obtain rfl := Option.some.inj hfj; exact eqF_box _ _ _
        | 4 => obtain rfl := Option.some.inj hfj; exact eqF_box _ _ _
        | 5 => obtain rfl := Option.some.inj hfj; exact teF_box _ _ _ _
        | 6 => obtain rfl := Option.some.inj hfj; exact teF_box _ _ _ _
        | 7 => obtain rfl := Option.some.inj hfj; exact isF_box _ _ _
        | 8 => obtain rfl := Option.some.inj hfj; exact eqF_box _ _ _
        | 9 => obtain rfl := Option.some.inj hfj; exact alF_box _ _ _
        | 11 => obtain rfl := Option.some.inj hfj; exact eqF_box _ _ _
        | 10 => exact absurd rfl hj
        | j + 12 => simp at hfj)
    · exact Facts.pure hS hF (fun _ _ => rfl) rfl (fun x wv hSw hd => by
        have d8 := eqF_get (hd ⟨8, .data⟩ (by simp) rfl _ rfl)
        simp only [d8]
        go_simp)
    rintro xqt w11 ⟨b1, b2, b3, bql, bqr, hNN, hbel⟩ hf
    have e0 := eqF_get (hf 0 _ (by decide) rfl)
    have e1 := eqF_get (hf 1 _ (by decide) rfl)
    have e2 := eqF_get (hf 2 _ (by decide) rfl)
    have e3 := eqF_get (hf 3 _ (by decide) rfl)
    have e4 := eqF_get (hf 4 _ (by decide) rfl)
    have e11 := eqF_get (hf 11 _ (by decide) rfl)
    obtain ⟨qt, nT, pT, lT, cT, e9, _, hqt, bqt, iqt⟩ := sbF_get (hf 10 _ (by decide) rfl)
    clear hf hF hS
    simp only [e0, e1, e2, e3, e4, e9, e11]
    clear e0 e1 e2 e3 e4 e9 e11
    have hlt := bqt.lt
    go_wp2_with fail
    have hS : Calm.Stays (fun w' => Bx w' w.heap.size 0 (some ⟨g, o, none⟩) 2 c ∧ Bx w' (w.heap.size + 1) n (some ⟨g', o', none⟩) 2 c' ∧ (∃ n p l c, Bx w' (w.heap.size + 1 + 1) n p l c) ∧ Bx w' ql m0 q0 k0 j0 ∧ Bx w' qr m1 q1 k1 j1 ∧ Bx w' qt nT pT lT cT ∧ Is w' gr.ev (TV nT pT lT cT) ∧ Below w.heap.size w w') := fun wa wb h hb => ⟨h.1.later hb, h.2.1.later hb, (by obtain ⟨n, p, l, c, h2⟩ := h.2.2.1; exact ⟨n, p, l, c, h2.later hb⟩), h.2.2.2.1.later hb, h.2.2.2.2.1.later hb, h.2.2.2.2.2.1.later hb, h.2.2.2.2.2.2.1.later hb, below_on h.2.2.2.2.2.2.2 hb⟩
    have hF : Facts.Stay [eqF 0 (.pointer (some ⟨w.heap.size + 1, 0, none⟩)), eqF 1 (.int .i64 n), eqF 2 (.pointer (some ⟨w.heap.size + 1, 1, none⟩)), eqF 3 (.slice (some ⟨g', o', none⟩) 2 c'), eqF 4 (.pointer (some ⟨g', o', none⟩)), eqF 5 (TV n0 p0 l0 c0), eqF 6 (TV nT pT lT cT), isF 7 (.node n a gr.ev), eqF 8 (.int .i64 gr.cost), eqF 9 (.int .i64 (gr.cost + 1)), bxF 7 (w.heap.size + 1 + 1) (.node n a gr.ev), eqF 11 (.int .i64 (gr.cost + 1))] := stay_of (by simp only [List.forall_mem_cons]; exact ⟨eqF_stays _ _, eqF_stays _ _, eqF_stays _ _, eqF_stays _ _, eqF_stays _ _, eqF_stays _ _, eqF_stays _ _, isF_stays _ _, eqF_stays _ _, eqF_stays _ _, bxF_stays _ _ _, eqF_stays _ _, fun _ h => by cases h⟩)
    refine Facts.region (by kernel_rfl) (by kernel_rfl) (fun w' => Bx w' w.heap.size 0 (some ⟨g, o, none⟩) 2 c ∧ Bx w' (w.heap.size + 1) n (some ⟨g', o', none⟩) 2 c' ∧ (∃ n p l c, Bx w' (w.heap.size + 1 + 1) n p l c) ∧ Bx w' ql m0 q0 k0 j0 ∧ Bx w' qr m1 q1 k1 j1 ∧ Bx w' qt nT pT lT cT ∧ Is w' gr.ev (TV nT pT lT cT) ∧ Below w.heap.size w w') (fun x => { tmps := #[TV 0 (some { block := g, off := o }) 2 c, TV n (some { block := g', off := o' }) 2 c', Value.pointer (some { block := w.heap.size, off := 0 }), Value.pointer (some { block := w.heap.size + 1, off := 0 }), Value.pointer (some { block := w.heap.size + 1 + 1, off := 0 }), x 11, undef, undef, Value.pointer (some { block := ql, off := 0 }), Value.pointer (some { block := qr, off := 0 }), Value.pointer (some { block := qt, off := 0 }), Value.int IntKind.i64 gr.cost, undef, undef, undef, undef, undef, undef, TV 0 (some { block := g, off := o }) 2 c, Value.bool false, undef, undef, undef, undef, undef, undef, Value.pointer (some { block := w.heap.size + 1, off := 1 }), Value.slice (some { block := g', off := o' }) 2 c', Value.int IntKind.i64 2, Value.bool false, undef, undef, undef, undef, undef, undef, undef, undef, undef, undef, undef, undef, undef, Value.pointer (some { block := w.heap.size, off := 1 }), Value.slice (some { block := g, off := o }) 2 c, Value.pointer (some { block := g, off := o }), TV m0 q0 k0 j0, Value.pointer (some { block := w.heap.size, off := 1 }), Value.slice (some { block := g, off := o }) 2 c, Value.pointer (some { block := g, off := o + 2 }), TV m1 q1 k1 j1, TV m0 q0 k0 j0, Value.bool true, xqt 6, TV m1 q1 k1 j1, Value.pointer (some { block := w.heap.size + 1, off := 1 }), Value.slice (some { block := g', off := o' }) 2 c', Value.pointer (some { block := g', off := o' + 2 }), TV n1 p1 l1 c1, xqt 5, xqt 7, xqt 8, x 0, x 1, x 2, x 3, x 4, x 5, x 6, x 7, x 8, x 9, undef, undef, undef, undef, undef, undef, undef, undef, undef, undef, undef, undef, undef, undef, undef, undef, undef, undef, undef, undef, undef, undef, undef, undef, undef, undef, undef, undef, undef, undef, undef, undef, undef, undef, undef, undef, undef, undef, undef, undef, undef, undef, undef, undef, undef, undef, undef, undef, undef, undef, undef, undef, undef, undef, undef, undef, undef, undef, undef, undef, undef, undef], defers := [] }) [eqF 0 (.pointer (some ⟨w.heap.size + 1, 0, none⟩)), eqF 1 (.int .i64 n), eqF 2 (.pointer (some ⟨w.heap.size + 1, 1, none⟩)), eqF 3 (.slice (some ⟨g', o', none⟩) 2 c'), eqF 4 (.pointer (some ⟨g', o', none⟩)), eqF 5 (TV n0 p0 l0 c0), eqF 6 (TV nT pT lT cT), isF 7 (.node n a gr.ev), eqF 8 (.int .i64 gr.cost), eqF 9 (.int .i64 (gr.cost + 1)), bxF 7 (w.heap.size + 1 + 1) (.node n a gr.ev), eqF 11 (.int .i64 (gr.cost + 1))] _ rfl (by kernel_rfl) (fun k => if k = 11 then .int .i64 0 else undef) rfl ⟨b1, b2, ⟨_, _, _, _, b3⟩, bql, bqr, bqt, iqt.later (Below.refl _ _).drew, hbel.drew⟩ ⟨?_, ?_, ?_, ?_, ?_, ?_, ?_, ?_, ?_, ?_, ?_, ?_, trivial⟩ ?_
    · exact Facts.pure hS hF (fun _ _ => rfl) rfl (fun x wv hSw hd => by
        go_simp)
    · exact Facts.pure hS hF (fun _ _ => rfl) rfl (fun x wv hSw hd => by
        have d0 := eqF_get (hd ⟨0, .data⟩ (by simp) rfl _ rfl)
        have g0 := Bx.cell0 hSw.2.1
        have g1 := Bx.cell1 hSw.2.1
        simp only [d0]
        go_simp)
    · exact Facts.pure hS hF (fun _ _ => rfl) rfl (fun x wv hSw hd => by
        go_simp)
    · exact Facts.pure hS hF (fun _ _ => rfl) rfl (fun x wv hSw hd => by
        have d2 := eqF_get (hd ⟨2, .data⟩ (by simp) rfl _ rfl)
        have g0 := Bx.cell0 hSw.2.1
        have g1 := Bx.cell1 hSw.2.1
        simp only [d2]
        go_simp)
    · exact Facts.pure hS hF (fun _ _ => rfl) rfl (fun x wv hSw hd => by
        have d3 := eqF_get (hd ⟨3, .data⟩ (by simp) rfl _ rfl)
        simp only [d3]
        go_simp)
    · exact Facts.loadT hS hF (fun _ _ => rfl) _ rfl rfl (fun x wv hSw hd => by have d4 := eqF_get (hd ⟨4, .data⟩ (by simp) rfl _ rfl); exact d4) (fun wv hSw => t0.later hSw.2.2.2.2.2.2.2)
    · exact Facts.loadT hS hF (fun _ _ => rfl) _ rfl rfl (fun x wv hSw hd => by rfl) (fun wv hSw => Bx.tat hSw.2.2.2.2.2.1)
    · refine Facts.call3T hS hF (fun _ _ => rfl) rfl (by kernel_rfl) rfl (fun x wv hSw hd => ?_)
      have d1 := eqF_get (hd ⟨1, .data⟩ (by simp) rfl _ rfl)
      have d5 := eqF_get (hd ⟨5, .data⟩ (by simp) rfl _ rfl)
      have d6 := eqF_get (hd ⟨6, .data⟩ (by simp) rfl _ rfl)
      have hc := inner_any n a gr.ev n0 p0 l0 c0 nT pT lT cT wv (ia.later hSw.2.2.2.2.2.2.2) hSw.2.2.2.2.2.2.1
      rw [← d1, ← d5, ← d6] at hc
      exact hc
    · exact Facts.pure hS hF (fun _ _ => rfl) rfl (fun x wv hSw hd => by
        go_simp)
    · exact Facts.pure hS hF (fun _ _ => rfl) rfl (fun x wv hSw hd => by
        have d8 := eqF_get (hd ⟨8, .data⟩ (by simp) rfl _ rfl)
        simp only [d8]
        go_simp <;> exact hwr)
    · exact Facts.storeT (fun _ _ => rfl) _ _ rfl (by decide) rfl (fun _ => rfl) (fun _ => rfl) (fun x wv hSw hd => isF_get (hd ⟨7, .data⟩ (by simp) rfl _ rfl)) (fun wv hSw => ⟨hSw.2.2.1, fun n p l c => (by obtain ⟨s1, s2, ⟨_, _, _, _, s3⟩, s4, s5, s6, s7, sB⟩ := hSw; exact ⟨s1.rowOther (by omega) _, s2.rowOther (by omega) _, ⟨_, _, _, _, s3.row n p l c⟩, s4.rowOther (by omega) _, s5.rowOther (by omega) _, s6.rowOther (by omega) _, s7.box s3 _, below_setRow sB (by omega) _⟩)⟩) (fun j f hj hfj => by
        match j with
        | 0 => obtain rfl := Option.some.inj hfj; exact eqF_box _ _ _
        | 1 => obtain rfl := Option.some.inj hfj; exact eqF_box _ _ _
        | 2 => obtain rfl := Option.some.inj hfj; exact eqF_box _ _ _
        | 3 => obtain rfl := Option.some.inj hfj; exact eqF_box _ _ _
        | 4 => obtain rfl := Option.some.inj hfj; exact eqF_box _ _ _
        | 5 => obtain rfl := Option.some.inj hfj; exact eqF_box _ _ _
        | 6 => obtain rfl := Option.some.inj hfj; exact eqF_box _ _ _
        | 7 => obtain rfl := Option.some.inj hfj; exact isF_box _ _ _
        | 8 => obtain rfl := Option.some.inj hfj; exact eqF_box _ _ _
        | 9 => obtain rfl := Option.some.inj hfj; exact eqF_box _ _ _
        | 11 => obtain rfl := Option.some.inj hfj; exact eqF_box _ _ _
        | 10 => exact absurd rfl hj
        | j + 12 => simp at hfj)
    · exact Facts.pure hS hF (fun _ _ => rfl) rfl (fun x wv hSw hd => by
        have d9 := eqF_get (hd ⟨9, .data⟩ (by simp) rfl _ rfl)
        simp only [d9]
        go_simp)
    rintro x w19 ⟨_, _, _, _, _, _, _, hbel9⟩ hf
    obtain ⟨nz, pz, lz, cz, _, hbx, hiz⟩ := bxF_get (hf 10 _ (by decide) rfl)
    have e11 := eqF_get (hf 11 _ (by decide) rfl)
    simp only [e11]
    go_wp2
    exact bodyPost_ret (results_te rfl rfl hbx) rfl ⟨_, _, _, _, rfl, hiz, hbel9⟩
  case' false =>
    have hc0 := HL.out (by first | rfl | trivial)
    simp only [Bool.false_eq_true, if_false] at HZ
    replace rA := rA (by first | rfl | trivial)
    clear HL HT
    go_wp2_with (first | refine load_t _ rfl rfl _ _ rfl bql.tat ?_ | refine load_t _ rfl rfl _ _ rfl bqr.tat ?_)
    refine (a1 _).mono ?_
    rintro e1 w12 ⟨rfl, hb1⟩
    replace b1 := b1.later hb1
    replace b2 := b2.later hb1
    replace b3 := b3.later hb1
    replace bql := bql.later hb1
    replace bqr := bqr.later hb1
    replace hbel := below_on hbel hb1
    clear hb1
    clear a1
    cases br
    case' true =>
      simp only [if_true, gA] at HZ
      obtain rfl := HZ.out
      have hwr : IntKind.i64.wrap (gl.cost + 1) = gl.cost + 1 := by rw [IntKind.wrap_i64]; omega
      clear rB HZ HRR hc0
      go_wp2_with fail
      have hl1 := bql.lt
      have hl2 := bqr.lt
      have hl3 := b3.lt
      have hd2 : w.heap.size + 3 ≤ ql ∧ w.heap.size + 3 ≤ qr := by omega
      have hS : Calm.Stays (fun w' => Bx w' w.heap.size 0 (some ⟨g, o, none⟩) 2 c ∧ Bx w' (w.heap.size + 1) n (some ⟨g', o', none⟩) 2 c' ∧ Bx w' (w.heap.size + 1 + 1) 0 none 0 0 ∧ Bx w' ql m0 q0 k0 j0 ∧ Bx w' qr m1 q1 k1 j1 ∧ w12.heap.size ≤ w'.heap.size ∧ Below w.heap.size w w') := fun wa wb h hb => ⟨h.1.later hb, h.2.1.later hb, h.2.2.1.later hb, h.2.2.2.1.later hb, h.2.2.2.2.1.later hb, Nat.le_trans h.2.2.2.2.2.1 hb.size, below_on h.2.2.2.2.2.2 hb⟩
      have hF : Facts.Stay [eqF 0 (TV m0 q0 k0 j0), eqF 1 (.pointer (some ⟨w.heap.size + 1, 1, none⟩)), eqF 2 (.slice (some ⟨g', o', none⟩) 2 c'), eqF 3 (.pointer (some ⟨g', o', none⟩)), eqF 4 (TV n0 p0 l0 c0), teF 5 gl.ev gl.cost, teF 6 gl.ev gl.cost, isF 7 gl.ev, eqF 8 (.int .i64 gl.cost), alF 9 (w12.heap.size), sbF 9 7 (w12.heap.size) gl.ev, eqF 11 (.int .i64 gl.cost)] := stay_of (by simp only [List.forall_mem_cons]; exact ⟨eqF_stays _ _, eqF_stays _ _, eqF_stays _ _, eqF_stays _ _, eqF_stays _ _, teF_stays _ _ _, teF_stays _ _ _, isF_stays _ _, eqF_stays _ _, alF_stays _ _, sbF_stays _ _ _ _, eqF_stays _ _, fun _ h => by cases h⟩)
      refine Facts.region (by kernel_rfl) (by kernel_rfl) (fun w' => Bx w' w.heap.size 0 (some ⟨g, o, none⟩) 2 c ∧ Bx w' (w.heap.size + 1) n (some ⟨g', o', none⟩) 2 c' ∧ Bx w' (w.heap.size + 1 + 1) 0 none 0 0 ∧ Bx w' ql m0 q0 k0 j0 ∧ Bx w' qr m1 q1 k1 j1 ∧ w12.heap.size ≤ w'.heap.size ∧ Below w.heap.size w w') (fun x => { tmps := #[TV 0 (some { block := g, off := o }) 2 c, TV n (some { block := g', off := o' }) 2 c', Value.pointer (some { block := w.heap.size, off := 0 }), Value.pointer (some { block := w.heap.size + 1, off := 0 }), Value.pointer (some { block := w.heap.size + 1 + 1, off := 0 }), Value.int IntKind.i64 0, undef, undef, Value.pointer (some { block := ql, off := 0 }), Value.pointer (some { block := qr, off := 0 }), undef, undef, x 9, x 11, undef, undef, undef, undef, TV 0 (some { block := g, off := o }) 2 c, Value.bool false, undef, undef, undef, undef, undef, undef, Value.pointer (some { block := w.heap.size + 1, off := 1 }), Value.slice (some { block := g', off := o' }) 2 c', Value.int IntKind.i64 2, Value.bool false, undef, undef, undef, undef, undef, undef, undef, undef, undef, undef, undef, undef, undef, Value.pointer (some { block := w.heap.size, off := 1 }), Value.slice (some { block := g, off := o }) 2 c, Value.pointer (some { block := g, off := o }), TV m0 q0 k0 j0, Value.pointer (some { block := w.heap.size, off := 1 }), Value.slice (some { block := g, off := o }) 2 c, Value.pointer (some { block := g, off := o + 2 }), TV m1 q1 k1 j1, TV m0 q0 k0 j0, Value.bool false, undef, undef, undef, undef, undef, undef, undef, undef, undef, undef, undef, undef, undef, undef, undef, undef, undef, undef, undef, TV m1 q1 k1 j1, Value.bool true, x 6, x 0, x 1, x 2, x 3, x 4, x 5, x 7, x 8, undef, undef, undef, undef, undef, undef, undef, undef, undef, undef, undef, undef, undef, undef, undef, undef, undef, undef, undef, undef, undef, undef, undef, undef, undef, undef, undef, undef, undef, undef, undef, undef, undef, undef, undef, undef, undef, undef, undef, undef, undef, undef, undef, undef, undef, undef, undef, undef, undef, undef, undef], defers := [] }) [eqF 0 (TV m0 q0 k0 j0), eqF 1 (.pointer (some ⟨w.heap.size + 1, 1, none⟩)), eqF 2 (.slice (some ⟨g', o', none⟩) 2 c'), eqF 3 (.pointer (some ⟨g', o', none⟩)), eqF 4 (TV n0 p0 l0 c0), teF 5 gl.ev gl.cost, teF 6 gl.ev gl.cost, isF 7 gl.ev, eqF 8 (.int .i64 gl.cost), alF 9 (w12.heap.size), sbF 9 7 (w12.heap.size) gl.ev, eqF 11 (.int .i64 gl.cost)] _ rfl (by kernel_rfl) (fun _ => undef) rfl ⟨b1, b2, b3, bql, bqr, Nat.le_refl _, hbel.drew⟩ ⟨?_, ?_, ?_, ?_, ?_, ?_, ?_, ?_, ?_, ?_, ?_, ?_, trivial⟩ ?_
      · exact Facts.loadT hS hF (fun _ _ => rfl) _ rfl rfl (fun x wv hSw hd => by rfl) (fun wv hSw => Bx.tat hSw.2.2.2.1)
      · exact Facts.pure hS hF (fun _ _ => rfl) rfl (fun x wv hSw hd => by
          go_simp)
      · exact Facts.pure hS hF (fun _ _ => rfl) rfl (fun x wv hSw hd => by
          have d1 := eqF_get (hd ⟨1, .data⟩ (by simp) rfl _ rfl)
          have g1 := Bx.cell1 hSw.2.1
          simp only [d1]
          go_simp)
      · exact Facts.pure hS hF (fun _ _ => rfl) rfl (fun x wv hSw hd => by
          have d2 := eqF_get (hd ⟨2, .data⟩ (by simp) rfl _ rfl)
          simp only [d2]
          go_simp)
      · exact Facts.loadT hS hF (fun _ _ => rfl) _ rfl rfl (fun x wv hSw hd => by have d3 := eqF_get (hd ⟨3, .data⟩ (by simp) rfl _ rfl); exact d3) (fun wv hSw => t0.later hSw.2.2.2.2.2.2)
      · refine Facts.call2E hS hF (fun _ _ => rfl) rfl (by kernel_rfl) rfl (fun x wv hSw hd => ?_)
        have d0 := eqF_get (hd ⟨0, .data⟩ (by simp) rfl _ rfl)
        have d4 := eqF_get (hd ⟨4, .data⟩ (by simp) rfl _ rfl)
        have hc := rA wv hSw.2.2.2.2.2.2
        rw [← d0, ← d4] at hc
        exact hc
      · exact Facts.moveE hS hF (fun _ _ => rfl) rfl rfl (fun _ => rfl) (fun x wv hSw hd => hd ⟨5, .data⟩ (by simp) rfl _ rfl)
      · exact Facts.fstE hS hF (fun _ _ => rfl) rfl rfl (fun _ => rfl) (fun x wv hSw hd => hd ⟨6, .data⟩ (by simp) rfl _ rfl)
      · exact Facts.sndE hS hF (fun _ _ => rfl) rfl rfl (fun _ => rfl) (fun x wv hSw hd => hd ⟨6, .data⟩ (by simp) rfl _ rfl)
      · exact Facts.allocT hS hF (fun _ _ => rfl) rfl rfl (fun wv hSw => hSw.2.2.2.2.2.1)
      · exact Facts.storeP (fun _ _ => rfl) _ _ rfl (by decide) (by decide) rfl (fun _ => rfl) (fun _ => rfl) (fun x wv hSw hd => ⟨hd ⟨9, .data⟩ (by simp) rfl _ rfl, hd ⟨7, .data⟩ (by simp) rfl _ rfl⟩) (fun wv q n p l c n' p' l' c' hSw hq hbx => (by obtain ⟨s1, s2, s3, s4, s5, s6, sB⟩ := hSw; exact ⟨s1.rowOther (by omega) _, s2.rowOther (by omega) _, s3.rowOther (by omega) _, s4.rowOther (by omega) _, s5.rowOther (by omega) _, (by simpa using s6), below_setRow sB (by omega) _⟩)) (fun j f hj hfj q hq => by
          match j with
          | 0 => obtain rfl := Option.some.inj hfj; exact eqF_box _ _ _
          | 1 => obtain rfl := Option.some.inj hfj; exact eqF_box _ _ _
          | 2 => obtain rfl := Option.some.inj hfj; exact eqF_box _ _ _
          | 3 => obtain rfl := Option.some.inj hfj; exact eqF_box _ _ _
          | 4 => obtain rfl := Option.some.inj hfj; exact eqF_box _ _ _
          | 5 => obtain rfl := Option.some.inj hfj; exact teF_box _ _ _ _
          | 6 => obtain rfl := Option.some.inj hfj; exact teF_box _ _ _ _
          | 7 => obtain rfl := Option.some.inj hfj; exact isF_box _ _ _
          | 8 => obtain rfl := Option.some.inj hfj; exact eqF_box _ _ _
          | 9 => obtain rfl := Option.some.inj hfj; exact alF_box _ _ _
          | 11 => obtain rfl := Option.some.inj hfj; exact eqF_box _ _ _
          | 10 => exact absurd rfl hj
          | j + 12 => simp at hfj)
      · exact Facts.pure hS hF (fun _ _ => rfl) rfl (fun x wv hSw hd => by
          have d8 := eqF_get (hd ⟨8, .data⟩ (by simp) rfl _ rfl)
          simp only [d8]
          go_simp)
      rintro xqt w13 ⟨b1, b2, b3, bql, bqr, hNN, hbel⟩ hf
      have e0 := eqF_get (hf 0 _ (by decide) rfl)
      have e1 := eqF_get (hf 1 _ (by decide) rfl)
      have e2 := eqF_get (hf 2 _ (by decide) rfl)
      have e3 := eqF_get (hf 3 _ (by decide) rfl)
      have e4 := eqF_get (hf 4 _ (by decide) rfl)
      have e11 := eqF_get (hf 11 _ (by decide) rfl)
      obtain ⟨qt, nT, pT, lT, cT, e9, _, hqt, bqt, iqt⟩ := sbF_get (hf 10 _ (by decide) rfl)
      clear hf hF hS
      simp only [e0, e1, e2, e3, e4, e9, e11]
      clear e0 e1 e2 e3 e4 e9 e11
      have hlt := bqt.lt
      go_wp2_with fail
      have hS : Calm.Stays (fun w' => Bx w' w.heap.size 0 (some ⟨g, o, none⟩) 2 c ∧ Bx w' (w.heap.size + 1) n (some ⟨g', o', none⟩) 2 c' ∧ (∃ n p l c, Bx w' (w.heap.size + 1 + 1) n p l c) ∧ Bx w' ql m0 q0 k0 j0 ∧ Bx w' qr m1 q1 k1 j1 ∧ Bx w' qt nT pT lT cT ∧ Is w' gl.ev (TV nT pT lT cT) ∧ Below w.heap.size w w') := fun wa wb h hb => ⟨h.1.later hb, h.2.1.later hb, (by obtain ⟨n, p, l, c, h2⟩ := h.2.2.1; exact ⟨n, p, l, c, h2.later hb⟩), h.2.2.2.1.later hb, h.2.2.2.2.1.later hb, h.2.2.2.2.2.1.later hb, h.2.2.2.2.2.2.1.later hb, below_on h.2.2.2.2.2.2.2 hb⟩
      have hF : Facts.Stay [eqF 0 (.pointer (some ⟨w.heap.size + 1, 0, none⟩)), eqF 1 (.int .i64 n), eqF 2 (TV nT pT lT cT), eqF 3 (.pointer (some ⟨w.heap.size + 1, 1, none⟩)), eqF 4 (.slice (some ⟨g', o', none⟩) 2 c'), eqF 5 (.pointer (some ⟨g', o' + 2, none⟩)), eqF 6 (TV n1 p1 l1 c1), isF 7 (.node n gl.ev b), eqF 8 (.int .i64 gl.cost), eqF 9 (.int .i64 (gl.cost + 1)), bxF 7 (w.heap.size + 1 + 1) (.node n gl.ev b), eqF 11 (.int .i64 (gl.cost + 1))] := stay_of (by simp only [List.forall_mem_cons]; exact ⟨eqF_stays _ _, eqF_stays _ _, eqF_stays _ _, eqF_stays _ _, eqF_stays _ _, eqF_stays _ _, eqF_stays _ _, isF_stays _ _, eqF_stays _ _, eqF_stays _ _, bxF_stays _ _ _, eqF_stays _ _, fun _ h => by cases h⟩)
      refine Facts.region (by kernel_rfl) (by kernel_rfl) (fun w' => Bx w' w.heap.size 0 (some ⟨g, o, none⟩) 2 c ∧ Bx w' (w.heap.size + 1) n (some ⟨g', o', none⟩) 2 c' ∧ (∃ n p l c, Bx w' (w.heap.size + 1 + 1) n p l c) ∧ Bx w' ql m0 q0 k0 j0 ∧ Bx w' qr m1 q1 k1 j1 ∧ Bx w' qt nT pT lT cT ∧ Is w' gl.ev (TV nT pT lT cT) ∧ Below w.heap.size w w') (fun x => { tmps := #[TV 0 (some { block := g, off := o }) 2 c, TV n (some { block := g', off := o' }) 2 c', Value.pointer (some { block := w.heap.size, off := 0 }), Value.pointer (some { block := w.heap.size + 1, off := 0 }), Value.pointer (some { block := w.heap.size + 1 + 1, off := 0 }), x 11, undef, undef, Value.pointer (some { block := ql, off := 0 }), Value.pointer (some { block := qr, off := 0 }), undef, undef, Value.pointer (some { block := qt, off := 0 }), Value.int IntKind.i64 gl.cost, undef, undef, undef, undef, TV 0 (some { block := g, off := o }) 2 c, Value.bool false, undef, undef, undef, undef, undef, undef, Value.pointer (some { block := w.heap.size + 1, off := 1 }), Value.slice (some { block := g', off := o' }) 2 c', Value.int IntKind.i64 2, Value.bool false, undef, undef, undef, undef, undef, undef, undef, undef, undef, undef, undef, undef, undef, Value.pointer (some { block := w.heap.size, off := 1 }), Value.slice (some { block := g, off := o }) 2 c, Value.pointer (some { block := g, off := o }), TV m0 q0 k0 j0, Value.pointer (some { block := w.heap.size, off := 1 }), Value.slice (some { block := g, off := o }) 2 c, Value.pointer (some { block := g, off := o + 2 }), TV m1 q1 k1 j1, TV m0 q0 k0 j0, Value.bool false, undef, undef, undef, undef, undef, undef, undef, undef, undef, undef, undef, undef, undef, undef, undef, undef, undef, undef, undef, TV m1 q1 k1 j1, Value.bool true, xqt 6, TV m0 q0 k0 j0, Value.pointer (some { block := w.heap.size + 1, off := 1 }), Value.slice (some { block := g', off := o' }) 2 c', Value.pointer (some { block := g', off := o' }), TV n0 p0 l0 c0, xqt 5, xqt 7, xqt 8, x 0, x 1, x 2, x 3, x 4, x 5, x 6, x 7, x 8, x 9, undef, undef, undef, undef, undef, undef, undef, undef, undef, undef, undef, undef, undef, undef, undef, undef, undef, undef, undef, undef, undef, undef, undef, undef, undef, undef, undef, undef, undef, undef, undef, undef, undef, undef, undef, undef, undef, undef, undef, undef, undef], defers := [] }) [eqF 0 (.pointer (some ⟨w.heap.size + 1, 0, none⟩)), eqF 1 (.int .i64 n), eqF 2 (TV nT pT lT cT), eqF 3 (.pointer (some ⟨w.heap.size + 1, 1, none⟩)), eqF 4 (.slice (some ⟨g', o', none⟩) 2 c'), eqF 5 (.pointer (some ⟨g', o' + 2, none⟩)), eqF 6 (TV n1 p1 l1 c1), isF 7 (.node n gl.ev b), eqF 8 (.int .i64 gl.cost), eqF 9 (.int .i64 (gl.cost + 1)), bxF 7 (w.heap.size + 1 + 1) (.node n gl.ev b), eqF 11 (.int .i64 (gl.cost + 1))] _ rfl (by kernel_rfl) (fun k => if k = 11 then .int .i64 0 else undef) rfl ⟨b1, b2, ⟨_, _, _, _, b3⟩, bql, bqr, bqt, iqt.later (Below.refl _ _).drew, hbel.drew⟩ ⟨?_, ?_, ?_, ?_, ?_, ?_, ?_, ?_, ?_, ?_, ?_, ?_, trivial⟩ ?_
      · exact Facts.pure hS hF (fun _ _ => rfl) rfl (fun x wv hSw hd => by
          go_simp)
      · exact Facts.pure hS hF (fun _ _ => rfl) rfl (fun x wv hSw hd => by
          have d0 := eqF_get (hd ⟨0, .data⟩ (by simp) rfl _ rfl)
          have g0 := Bx.cell0 hSw.2.1
          have g1 := Bx.cell1 hSw.2.1
          simp only [d0]
          go_simp)
      · exact Facts.loadT hS hF (fun _ _ => rfl) _ rfl rfl (fun x wv hSw hd => by rfl) (fun wv hSw => Bx.tat hSw.2.2.2.2.2.1)
      · exact Facts.pure hS hF (fun _ _ => rfl) rfl (fun x wv hSw hd => by
          go_simp)
      · exact Facts.pure hS hF (fun _ _ => rfl) rfl (fun x wv hSw hd => by
          have d3 := eqF_get (hd ⟨3, .data⟩ (by simp) rfl _ rfl)
          have g0 := Bx.cell0 hSw.2.1
          have g1 := Bx.cell1 hSw.2.1
          simp only [d3]
          go_simp)
      · exact Facts.pure hS hF (fun _ _ => rfl) rfl (fun x wv hSw hd => by
          have d4 := eqF_get (hd ⟨4, .data⟩ (by simp) rfl _ rfl)
          simp only [d4]
          go_simp)
      · exact Facts.loadT hS hF (fun _ _ => rfl) _ rfl rfl (fun x wv hSw hd => by have d5 := eqF_get (hd ⟨5, .data⟩ (by simp) rfl _ rfl); exact d5) (fun wv hSw => t1.later hSw.2.2.2.2.2.2.2)
      · refine Facts.call3T hS hF (fun _ _ => rfl) rfl (by kernel_rfl) rfl (fun x wv hSw hd => ?_)
        have d1 := eqF_get (hd ⟨1, .data⟩ (by simp) rfl _ rfl)
        have d2 := eqF_get (hd ⟨2, .data⟩ (by simp) rfl _ rfl)
        have d6 := eqF_get (hd ⟨6, .data⟩ (by simp) rfl _ rfl)
        have hc := inner_any n gl.ev b nT pT lT cT n1 p1 l1 c1 wv hSw.2.2.2.2.2.2.1 (ib.later hSw.2.2.2.2.2.2.2)
        rw [← d1, ← d2, ← d6] at hc
        exact hc
      · exact Facts.pure hS hF (fun _ _ => rfl) rfl (fun x wv hSw hd => by
          go_simp)
      · exact Facts.pure hS hF (fun _ _ => rfl) rfl (fun x wv hSw hd => by
          have d8 := eqF_get (hd ⟨8, .data⟩ (by simp) rfl _ rfl)
          simp only [d8]
          go_simp <;> exact hwr)
      · exact Facts.storeT (fun _ _ => rfl) _ _ rfl (by decide) rfl (fun _ => rfl) (fun _ => rfl) (fun x wv hSw hd => isF_get (hd ⟨7, .data⟩ (by simp) rfl _ rfl)) (fun wv hSw => ⟨hSw.2.2.1, fun n p l c => (by obtain ⟨s1, s2, ⟨_, _, _, _, s3⟩, s4, s5, s6, s7, sB⟩ := hSw; exact ⟨s1.rowOther (by omega) _, s2.rowOther (by omega) _, ⟨_, _, _, _, s3.row n p l c⟩, s4.rowOther (by omega) _, s5.rowOther (by omega) _, s6.rowOther (by omega) _, s7.box s3 _, below_setRow sB (by omega) _⟩)⟩) (fun j f hj hfj => by
          match j with
          | 0 => obtain rfl := Option.some.inj hfj; exact eqF_box _ _ _
          | 1 => obtain rfl := Option.some.inj hfj; exact eqF_box _ _ _
          | 2 => obtain rfl := Option.some.inj hfj; exact eqF_box _ _ _
          | 3 => obtain rfl := Option.some.inj hfj; exact eqF_box _ _ _
          | 4 => obtain rfl := Option.some.inj hfj; exact eqF_box _ _ _
          | 5 => obtain rfl := Option.some.inj hfj; exact eqF_box _ _ _
          | 6 => obtain rfl := Option.some.inj hfj; exact eqF_box _ _ _
          | 7 => obtain rfl := Option.some.inj hfj; exact isF_box _ _ _
          | 8 => obtain rfl := Option.some.inj hfj; exact eqF_box _ _ _
          | 9 => obtain rfl := Option.some.inj hfj; exact eqF_box _ _ _
          | 11 => obtain rfl := Option.some.inj hfj; exact eqF_box _ _ _
          | 10 => exact absurd rfl hj
          | j + 12 => simp at hfj)
      · exact Facts.pure hS hF (fun _ _ => rfl) rfl (fun x wv hSw hd => by
          have d9 := eqF_get (hd ⟨9, .data⟩ (by simp) rfl _ rfl)
          simp only [d9]
          go_simp)
      rintro x w19 ⟨_, _, _, _, _, _, _, hbel9⟩ hf
      obtain ⟨nz, pz, lz, cz, _, hbx, hiz⟩ := bxF_get (hf 10 _ (by decide) rfl)
      have e11 := eqF_get (hf 11 _ (by decide) rfl)
      simp only [e11]
      go_wp2
      exact bodyPost_ret (results_te rfl rfl hbx) rfl ⟨_, _, _, _, rfl, hiz, hbel9⟩
    case' false =>
      have hc1 := HRR.out (by first | rfl | trivial)
      simp only [Bool.false_eq_true, if_false] at HZ
      replace rB := rB (by first | rfl | trivial)
      clear HRR
      go_wp2_with fail
      have hl1 := bql.lt
      have hl2 := bqr.lt
      have hl3 := b3.lt
      have hd2 : w.heap.size + 3 ≤ ql ∧ w.heap.size + 3 ≤ qr := by omega
      have hS : Calm.Stays (fun w' => Bx w' w.heap.size 0 (some ⟨g, o, none⟩) 2 c ∧ Bx w' (w.heap.size + 1) n (some ⟨g', o', none⟩) 2 c' ∧ Bx w' (w.heap.size + 1 + 1) 0 none 0 0 ∧ Bx w' ql m0 q0 k0 j0 ∧ Bx w' qr m1 q1 k1 j1 ∧ w12.heap.size ≤ w'.heap.size ∧ Below w.heap.size w w') := fun wa wb h hb => ⟨h.1.later hb, h.2.1.later hb, h.2.2.1.later hb, h.2.2.2.1.later hb, h.2.2.2.2.1.later hb, Nat.le_trans h.2.2.2.2.2.1 hb.size, below_on h.2.2.2.2.2.2 hb⟩
      have hF : Facts.Stay [eqF 0 (TV m0 q0 k0 j0), eqF 1 (.pointer (some ⟨w.heap.size + 1, 1, none⟩)), eqF 2 (.slice (some ⟨g', o', none⟩) 2 c'), eqF 3 (.pointer (some ⟨g', o', none⟩)), eqF 4 (TV n0 p0 l0 c0), teF 5 gl.ev gl.cost, teF 6 gl.ev gl.cost, isF 7 gl.ev, eqF 8 (.int .i64 gl.cost), alF 9 (w12.heap.size), sbF 9 7 (w12.heap.size) gl.ev, eqF 11 (.int .i64 gl.cost)] := stay_of (by simp only [List.forall_mem_cons]; exact ⟨eqF_stays _ _, eqF_stays _ _, eqF_stays _ _, eqF_stays _ _, eqF_stays _ _, teF_stays _ _ _, teF_stays _ _ _, isF_stays _ _, eqF_stays _ _, alF_stays _ _, sbF_stays _ _ _ _, eqF_stays _ _, fun _ h => by cases h⟩)
      refine Facts.region (by kernel_rfl) (by kernel_rfl) (fun w' => Bx w' w.heap.size 0 (some ⟨g, o, none⟩) 2 c ∧ Bx w' (w.heap.size + 1) n (some ⟨g', o', none⟩) 2 c' ∧ Bx w' (w.heap.size + 1 + 1) 0 none 0 0 ∧ Bx w' ql m0 q0 k0 j0 ∧ Bx w' qr m1 q1 k1 j1 ∧ w12.heap.size ≤ w'.heap.size ∧ Below w.heap.size w w') (fun x => { tmps := #[TV 0 (some { block := g, off := o }) 2 c, TV n (some { block := g', off := o' }) 2 c', Value.pointer (some { block := w.heap.size, off := 0 }), Value.pointer (some { block := w.heap.size + 1, off := 0 }), Value.pointer (some { block := w.heap.size + 1 + 1, off := 0 }), Value.int IntKind.i64 0, undef, undef, Value.pointer (some { block := ql, off := 0 }), Value.pointer (some { block := qr, off := 0 }), undef, undef, undef, undef, x 9, x 11, undef, undef, TV 0 (some { block := g, off := o }) 2 c, Value.bool false, undef, undef, undef, undef, undef, undef, Value.pointer (some { block := w.heap.size + 1, off := 1 }), Value.slice (some { block := g', off := o' }) 2 c', Value.int IntKind.i64 2, Value.bool false, undef, undef, undef, undef, undef, undef, undef, undef, undef, undef, undef, undef, undef, Value.pointer (some { block := w.heap.size, off := 1 }), Value.slice (some { block := g, off := o }) 2 c, Value.pointer (some { block := g, off := o }), TV m0 q0 k0 j0, Value.pointer (some { block := w.heap.size, off := 1 }), Value.slice (some { block := g, off := o }) 2 c, Value.pointer (some { block := g, off := o + 2 }), TV m1 q1 k1 j1, TV m0 q0 k0 j0, Value.bool false, undef, undef, undef, undef, undef, undef, undef, undef, undef, undef, undef, undef, undef, undef, undef, undef, undef, undef, undef, TV m1 q1 k1 j1, Value.bool false, undef, undef, undef, undef, undef, undef, undef, undef, undef, undef, undef, undef, undef, undef, undef, undef, undef, undef, undef, x 6, x 0, x 1, x 2, x 3, x 4, x 5, x 7, x 8, undef, undef, undef, undef, undef, undef, undef, undef, undef, undef, undef, undef, undef, undef, undef, undef, undef, undef, undef, undef, undef, undef, undef, undef, undef, undef, undef, undef, undef, undef, undef, undef], defers := [] }) [eqF 0 (TV m0 q0 k0 j0), eqF 1 (.pointer (some ⟨w.heap.size + 1, 1, none⟩)), eqF 2 (.slice (some ⟨g', o', none⟩) 2 c'), eqF 3 (.pointer (some ⟨g', o', none⟩)), eqF 4 (TV n0 p0 l0 c0), teF 5 gl.ev gl.cost, teF 6 gl.ev gl.cost, isF 7 gl.ev, eqF 8 (.int .i64 gl.cost), alF 9 (w12.heap.size), sbF 9 7 (w12.heap.size) gl.ev, eqF 11 (.int .i64 gl.cost)] _ rfl (by kernel_rfl) (fun _ => undef) rfl ⟨b1, b2, b3, bql, bqr, Nat.le_refl _, hbel.drew⟩ ⟨?_, ?_, ?_, ?_, ?_, ?_, ?_, ?_, ?_, ?_, ?_, ?_, trivial⟩ ?_
      · exact Facts.loadT hS hF (fun _ _ => rfl) _ rfl rfl (fun x wv hSw hd => by rfl) (fun wv hSw => Bx.tat hSw.2.2.2.1)
      · exact Facts.pure hS hF (fun _ _ => rfl) rfl (fun x wv hSw hd => by
          go_simp)
      · exact Facts.pure hS hF (fun _ _ => rfl) rfl (fun x wv hSw hd => by
          have d1 := eqF_get (hd ⟨1, .data⟩ (by simp) rfl _ rfl)
          have g1 := Bx.cell1 hSw.2.1
          simp only [d1]
          go_simp)
      · exact Facts.pure hS hF (fun _ _ => rfl) rfl (fun x wv hSw hd => by
          have d2 := eqF_get (hd ⟨2, .data⟩ (by simp) rfl _ rfl)
          simp only [d2]
          go_simp)
      · exact Facts.loadT hS hF (fun _ _ => rfl) _ rfl rfl (fun x wv hSw hd => by have d3 := eqF_get (hd ⟨3, .data⟩ (by simp) rfl _ rfl); exact d3) (fun wv hSw => t0.later hSw.2.2.2.2.2.2)
      · refine Facts.call2E hS hF (fun _ _ => rfl) rfl (by kernel_rfl) rfl (fun x wv hSw hd => ?_)
        have d0 := eqF_get (hd ⟨0, .data⟩ (by simp) rfl _ rfl)
        have d4 := eqF_get (hd ⟨4, .data⟩ (by simp) rfl _ rfl)
        have hc := rA wv hSw.2.2.2.2.2.2
        rw [← d0, ← d4] at hc
        exact hc
      · exact Facts.moveE hS hF (fun _ _ => rfl) rfl rfl (fun _ => rfl) (fun x wv hSw hd => hd ⟨5, .data⟩ (by simp) rfl _ rfl)
      · exact Facts.fstE hS hF (fun _ _ => rfl) rfl rfl (fun _ => rfl) (fun x wv hSw hd => hd ⟨6, .data⟩ (by simp) rfl _ rfl)
      · exact Facts.sndE hS hF (fun _ _ => rfl) rfl rfl (fun _ => rfl) (fun x wv hSw hd => hd ⟨6, .data⟩ (by simp) rfl _ rfl)
      · exact Facts.allocT hS hF (fun _ _ => rfl) rfl rfl (fun wv hSw => hSw.2.2.2.2.2.1)
      · exact Facts.storeP (fun _ _ => rfl) _ _ rfl (by decide) (by decide) rfl (fun _ => rfl) (fun _ => rfl) (fun x wv hSw hd => ⟨hd ⟨9, .data⟩ (by simp) rfl _ rfl, hd ⟨7, .data⟩ (by simp) rfl _ rfl⟩) (fun wv q n p l c n' p' l' c' hSw hq hbx => (by obtain ⟨s1, s2, s3, s4, s5, s6, sB⟩ := hSw; exact ⟨s1.rowOther (by omega) _, s2.rowOther (by omega) _, s3.rowOther (by omega) _, s4.rowOther (by omega) _, s5.rowOther (by omega) _, (by simpa using s6), below_setRow sB (by omega) _⟩)) (fun j f hj hfj q hq => by
          match j with
          | 0 => obtain rfl := Option.some.inj hfj; exact eqF_box _ _ _
          | 1 => obtain rfl := Option.some.inj hfj; exact eqF_box _ _ _
          | 2 => obtain rfl := Option.some.inj hfj; exact eqF_box _ _ _
          | 3 => obtain rfl := Option.some.inj hfj; exact eqF_box _ _ _
          | 4 => obtain rfl := Option.some.inj hfj; exact eqF_box _ _ _
          | 5 => obtain rfl := Option.some.inj hfj; exact teF_box _ _ _ _
          | 6 => obtain rfl := Option.some.inj hfj; exact teF_box _ _ _ _
          | 7 => obtain rfl := Option.some.inj hfj; exact isF_box _ _ _
          | 8 => obtain rfl := Option.some.inj hfj; exact eqF_box _ _ _
          | 9 => obtain rfl := Option.some.inj hfj; exact alF_box _ _ _
          | 11 => obtain rfl := Option.some.inj hfj; exact eqF_box _ _ _
          | 10 => exact absurd rfl hj
          | j + 12 => simp at hfj)
      · exact Facts.pure hS hF (fun _ _ => rfl) rfl (fun x wv hSw hd => by
          have d8 := eqF_get (hd ⟨8, .data⟩ (by simp) rfl _ rfl)
          simp only [d8]
          go_simp)
      rintro xqt w13 ⟨b1, b2, b3, bql, bqr, hNN, hbel⟩ hf
      have e0 := eqF_get (hf 0 _ (by decide) rfl)
      have e1 := eqF_get (hf 1 _ (by decide) rfl)
      have e2 := eqF_get (hf 2 _ (by decide) rfl)
      have e3 := eqF_get (hf 3 _ (by decide) rfl)
      have e4 := eqF_get (hf 4 _ (by decide) rfl)
      have e11 := eqF_get (hf 11 _ (by decide) rfl)
      obtain ⟨qt, nT, pT, lT, cT, e9, _, hqt, bqt, iqt⟩ := sbF_get (hf 10 _ (by decide) rfl)
      clear hf hF hS
      simp only [e0, e1, e2, e3, e4, e9, e11]
      clear e0 e1 e2 e3 e4 e9 e11
      have hlt := bqt.lt
      clear hNN rA
      go_wp2_with fail
      have hS : Calm.Stays (fun w' => Bx w' w.heap.size 0 (some ⟨g, o, none⟩) 2 c ∧ Bx w' (w.heap.size + 1) n (some ⟨g', o', none⟩) 2 c' ∧ Bx w' (w.heap.size + 1 + 1) 0 none 0 0 ∧ Bx w' ql m0 q0 k0 j0 ∧ Bx w' qr m1 q1 k1 j1 ∧ Bx w' qt nT pT lT cT ∧ Is w' gl.ev (TV nT pT lT cT) ∧ w13.heap.size ≤ w'.heap.size ∧ Below w.heap.size w w') := fun wa wb h hb => ⟨h.1.later hb, h.2.1.later hb, h.2.2.1.later hb, h.2.2.2.1.later hb, h.2.2.2.2.1.later hb, h.2.2.2.2.2.1.later hb, h.2.2.2.2.2.2.1.later hb, Nat.le_trans h.2.2.2.2.2.2.2.1 hb.size, below_on h.2.2.2.2.2.2.2.2 hb⟩
      have hF : Facts.Stay [eqF 0 (TV m1 q1 k1 j1), eqF 1 (.pointer (some ⟨w.heap.size + 1, 1, none⟩)), eqF 2 (.slice (some ⟨g', o', none⟩) 2 c'), eqF 3 (.pointer (some ⟨g', o' + 2, none⟩)), eqF 4 (TV n1 p1 l1 c1), teF 5 gr.ev gr.cost, teF 6 gr.ev gr.cost, isF 7 gr.ev, eqF 8 (.int .i64 gr.cost), alF 9 (w13.heap.size), sbF 9 7 (w13.heap.size) gr.ev, eqF 11 (.int .i64 gr.cost)] := stay_of (by simp only [List.forall_mem_cons]; exact ⟨eqF_stays _ _, eqF_stays _ _, eqF_stays _ _, eqF_stays _ _, eqF_stays _ _, teF_stays _ _ _, teF_stays _ _ _, isF_stays _ _, eqF_stays _ _, alF_stays _ _, sbF_stays _ _ _ _, eqF_stays _ _, fun _ h => by cases h⟩)
      refine Facts.region (by kernel_rfl) (by kernel_rfl) (fun w' => Bx w' w.heap.size 0 (some ⟨g, o, none⟩) 2 c ∧ Bx w' (w.heap.size + 1) n (some ⟨g', o', none⟩) 2 c' ∧ Bx w' (w.heap.size + 1 + 1) 0 none 0 0 ∧ Bx w' ql m0 q0 k0 j0 ∧ Bx w' qr m1 q1 k1 j1 ∧ Bx w' qt nT pT lT cT ∧ Is w' gl.ev (TV nT pT lT cT) ∧ w13.heap.size ≤ w'.heap.size ∧ Below w.heap.size w w') (fun x => { tmps := #[TV 0 (some { block := g, off := o }) 2 c, TV n (some { block := g', off := o' }) 2 c', Value.pointer (some { block := w.heap.size, off := 0 }), Value.pointer (some { block := w.heap.size + 1, off := 0 }), Value.pointer (some { block := w.heap.size + 1 + 1, off := 0 }), Value.int IntKind.i64 0, undef, undef, Value.pointer (some { block := ql, off := 0 }), Value.pointer (some { block := qr, off := 0 }), undef, undef, undef, undef, Value.pointer (some { block := qt, off := 0 }), Value.int IntKind.i64 gl.cost, x 9, x 11, TV 0 (some { block := g, off := o }) 2 c, Value.bool false, undef, undef, undef, undef, undef, undef, Value.pointer (some { block := w.heap.size + 1, off := 1 }), Value.slice (some { block := g', off := o' }) 2 c', Value.int IntKind.i64 2, Value.bool false, undef, undef, undef, undef, undef, undef, undef, undef, undef, undef, undef, undef, undef, Value.pointer (some { block := w.heap.size, off := 1 }), Value.slice (some { block := g, off := o }) 2 c, Value.pointer (some { block := g, off := o }), TV m0 q0 k0 j0, Value.pointer (some { block := w.heap.size, off := 1 }), Value.slice (some { block := g, off := o }) 2 c, Value.pointer (some { block := g, off := o + 2 }), TV m1 q1 k1 j1, TV m0 q0 k0 j0, Value.bool false, undef, undef, undef, undef, undef, undef, undef, undef, undef, undef, undef, undef, undef, undef, undef, undef, undef, undef, undef, TV m1 q1 k1 j1, Value.bool false, undef, undef, undef, undef, undef, undef, undef, undef, undef, undef, undef, undef, undef, undef, undef, undef, undef, undef, undef, xqt 6, TV m0 q0 k0 j0, Value.pointer (some { block := w.heap.size + 1, off := 1 }), Value.slice (some { block := g', off := o' }) 2 c', Value.pointer (some { block := g', off := o' }), TV n0 p0 l0 c0, xqt 5, xqt 7, xqt 8, x 6, x 0, x 1, x 2, x 3, x 4, x 5, x 7, x 8, undef, undef, undef, undef, undef, undef, undef, undef, undef, undef, undef, undef, undef, undef, undef, undef, undef, undef, undef, undef, undef, undef, undef], defers := [] }) [eqF 0 (TV m1 q1 k1 j1), eqF 1 (.pointer (some ⟨w.heap.size + 1, 1, none⟩)), eqF 2 (.slice (some ⟨g', o', none⟩) 2 c'), eqF 3 (.pointer (some ⟨g', o' + 2, none⟩)), eqF 4 (TV n1 p1 l1 c1), teF 5 gr.ev gr.cost, teF 6 gr.ev gr.cost, isF 7 gr.ev, eqF 8 (.int .i64 gr.cost), alF 9 (w13.heap.size), sbF 9 7 (w13.heap.size) gr.ev, eqF 11 (.int .i64 gr.cost)] _ rfl (by kernel_rfl) (fun _ => undef) rfl ⟨b1, b2, b3, bql, bqr, bqt, iqt.later (Below.refl _ _).drew, Nat.le_refl _, hbel.drew⟩ ⟨?_, ?_, ?_, ?_, ?_, ?_, ?_, ?_, ?_, ?_, ?_, ?_, trivial⟩ ?_
      · exact Facts.loadT hS hF (fun _ _ => rfl) _ rfl rfl (fun x wv hSw hd => by rfl) (fun wv hSw => Bx.tat hSw.2.2.2.2.1)
      · exact Facts.pure hS hF (fun _ _ => rfl) rfl (fun x wv hSw hd => by
          go_simp)
      · exact Facts.pure hS hF (fun _ _ => rfl) rfl (fun x wv hSw hd => by
          have d1 := eqF_get (hd ⟨1, .data⟩ (by simp) rfl _ rfl)
          have g1 := Bx.cell1 hSw.2.1
          simp only [d1]
          go_simp)
      · exact Facts.pure hS hF (fun _ _ => rfl) rfl (fun x wv hSw hd => by
          have d2 := eqF_get (hd ⟨2, .data⟩ (by simp) rfl _ rfl)
          simp only [d2]
          go_simp)
      · exact Facts.loadT hS hF (fun _ _ => rfl) _ rfl rfl (fun x wv hSw hd => by have d3 := eqF_get (hd ⟨3, .data⟩ (by simp) rfl _ rfl); exact d3) (fun wv hSw => t1.later hSw.2.2.2.2.2.2.2.2)
      · refine Facts.call2E hS hF (fun _ _ => rfl) rfl (by kernel_rfl) rfl (fun x wv hSw hd => ?_)
        have d0 := eqF_get (hd ⟨0, .data⟩ (by simp) rfl _ rfl)
        have d4 := eqF_get (hd ⟨4, .data⟩ (by simp) rfl _ rfl)
        have hc := rB wv hSw.2.2.2.2.2.2.2.2
        rw [← d0, ← d4] at hc
        exact hc
      · exact Facts.moveE hS hF (fun _ _ => rfl) rfl rfl (fun _ => rfl) (fun x wv hSw hd => hd ⟨5, .data⟩ (by simp) rfl _ rfl)
      · exact Facts.fstE hS hF (fun _ _ => rfl) rfl rfl (fun _ => rfl) (fun x wv hSw hd => hd ⟨6, .data⟩ (by simp) rfl _ rfl)
      · exact Facts.sndE hS hF (fun _ _ => rfl) rfl rfl (fun _ => rfl) (fun x wv hSw hd => hd ⟨6, .data⟩ (by simp) rfl _ rfl)
      · exact Facts.allocT hS hF (fun _ _ => rfl) rfl rfl (fun wv hSw => hSw.2.2.2.2.2.2.2.1)
      · exact Facts.storeP (fun _ _ => rfl) _ _ rfl (by decide) (by decide) rfl (fun _ => rfl) (fun _ => rfl) (fun x wv hSw hd => ⟨hd ⟨9, .data⟩ (by simp) rfl _ rfl, hd ⟨7, .data⟩ (by simp) rfl _ rfl⟩) (fun wv q n p l c n' p' l' c' hSw hq hbx => (by obtain ⟨s1, s2, s3, s4, s5, s6, s7, s8, sB⟩ := hSw; exact ⟨s1.rowOther (by omega) _, s2.rowOther (by omega) _, s3.rowOther (by omega) _, s4.rowOther (by omega) _, s5.rowOther (by omega) _, s6.rowOther (by omega) _, s7.box hbx _, (by simpa using s8), below_setRow sB (by omega) _⟩)) (fun j f hj hfj q hq => by
          match j with
          | 0 => obtain rfl := Option.some.inj hfj; exact eqF_box _ _ _
          | 1 => obtain rfl := Option.some.inj hfj; exact eqF_box _ _ _
          | 2 => obtain rfl := Option.some.inj hfj; exact eqF_box _ _ _
          | 3 => obtain rfl := Option.some.inj hfj; exact eqF_box _ _ _
          | 4 => obtain rfl := Option.some.inj hfj; exact eqF_box _ _ _
          | 5 => obtain rfl := Option.some.inj hfj; exact teF_box _ _ _ _
          | 6 => obtain rfl := Option.some.inj hfj; exact teF_box _ _ _ _
          | 7 => obtain rfl := Option.some.inj hfj; exact isF_box _ _ _
          | 8 => obtain rfl := Option.some.inj hfj; exact eqF_box _ _ _
          | 9 => obtain rfl := Option.some.inj hfj; exact alF_box _ _ _
          | 11 => obtain rfl := Option.some.inj hfj; exact eqF_box _ _ _
          | 10 => exact absurd rfl hj
          | j + 12 => simp at hfj)
      · exact Facts.pure hS hF (fun _ _ => rfl) rfl (fun x wv hSw hd => by
          have d8 := eqF_get (hd ⟨8, .data⟩ (by simp) rfl _ rfl)
          simp only [d8]
          go_simp)
      rintro xqv w14 ⟨b1, b2, b3, bql, bqr, bqt, iqt, hNN, hbel⟩ hf
      have e0 := eqF_get (hf 0 _ (by decide) rfl)
      have e1 := eqF_get (hf 1 _ (by decide) rfl)
      have e2 := eqF_get (hf 2 _ (by decide) rfl)
      have e3 := eqF_get (hf 3 _ (by decide) rfl)
      have e4 := eqF_get (hf 4 _ (by decide) rfl)
      have e11 := eqF_get (hf 11 _ (by decide) rfl)
      obtain ⟨qv, nV, pV, lV, cV, e9, _, hqv, bqv, iqv⟩ := sbF_get (hf 10 _ (by decide) rfl)
      clear hf hF hS
      simp only [e0, e1, e2, e3, e4, e9, e11]
      clear e0 e1 e2 e3 e4 e9 e11
      have hlt2 := bqv.lt
      have hlt1 := bqt.lt
      clear hNN rB
      by_cases hlt0 : gl.cost < gr.cost
      case' pos =>
        rw [if_pos (show gl.cost + 1 < gr.cost + 1 by omega)] at HZ
        simp only [gA] at HZ
        obtain rfl := HZ.out
        have hwr : IntKind.i64.wrap (gl.cost + 1) = gl.cost + 1 := by rw [IntKind.wrap_i64]; omega
        clear HZ
        go_wp2_with fail
        have hS : Calm.Stays (fun w' => Bx w' w.heap.size 0 (some ⟨g, o, none⟩) 2 c ∧ Bx w' (w.heap.size + 1) n (some ⟨g', o', none⟩) 2 c' ∧ (∃ n p l c, Bx w' (w.heap.size + 1 + 1) n p l c) ∧ Bx w' ql m0 q0 k0 j0 ∧ Bx w' qr m1 q1 k1 j1 ∧ Bx w' qt nT pT lT cT ∧ Is w' gl.ev (TV nT pT lT cT) ∧ Bx w' qv nV pV lV cV ∧ Is w' gr.ev (TV nV pV lV cV) ∧ Below w.heap.size w w') := fun wa wb h hb => ⟨h.1.later hb, h.2.1.later hb, (by obtain ⟨n, p, l, c, h2⟩ := h.2.2.1; exact ⟨n, p, l, c, h2.later hb⟩), h.2.2.2.1.later hb, h.2.2.2.2.1.later hb, h.2.2.2.2.2.1.later hb, h.2.2.2.2.2.2.1.later hb, h.2.2.2.2.2.2.2.1.later hb, h.2.2.2.2.2.2.2.2.1.later hb, below_on h.2.2.2.2.2.2.2.2.2 hb⟩
        have hF : Facts.Stay [eqF 0 (.pointer (some ⟨w.heap.size + 1, 0, none⟩)), eqF 1 (.int .i64 n), eqF 2 (TV nT pT lT cT), eqF 3 (.pointer (some ⟨w.heap.size + 1, 1, none⟩)), eqF 4 (.slice (some ⟨g', o', none⟩) 2 c'), eqF 5 (.pointer (some ⟨g', o' + 2, none⟩)), eqF 6 (TV n1 p1 l1 c1), isF 7 (.node n gl.ev b), eqF 8 (.int .i64 gl.cost), eqF 9 (.int .i64 (gl.cost + 1)), bxF 7 (w.heap.size + 1 + 1) (.node n gl.ev b), eqF 11 (.int .i64 (gl.cost + 1))] := stay_of (by simp only [List.forall_mem_cons]; exact ⟨eqF_stays _ _, eqF_stays _ _, eqF_stays _ _, eqF_stays _ _, eqF_stays _ _, eqF_stays _ _, eqF_stays _ _, isF_stays _ _, eqF_stays _ _, eqF_stays _ _, bxF_stays _ _ _, eqF_stays _ _, fun _ h => by cases h⟩)
        refine Facts.region (by kernel_rfl) (by kernel_rfl) (fun w' => Bx w' w.heap.size 0 (some ⟨g, o, none⟩) 2 c ∧ Bx w' (w.heap.size + 1) n (some ⟨g', o', none⟩) 2 c' ∧ (∃ n p l c, Bx w' (w.heap.size + 1 + 1) n p l c) ∧ Bx w' ql m0 q0 k0 j0 ∧ Bx w' qr m1 q1 k1 j1 ∧ Bx w' qt nT pT lT cT ∧ Is w' gl.ev (TV nT pT lT cT) ∧ Bx w' qv nV pV lV cV ∧ Is w' gr.ev (TV nV pV lV cV) ∧ Below w.heap.size w w') (fun x => { tmps := #[TV 0 (some { block := g, off := o }) 2 c, TV n (some { block := g', off := o' }) 2 c', Value.pointer (some { block := w.heap.size, off := 0 }), Value.pointer (some { block := w.heap.size + 1, off := 0 }), Value.pointer (some { block := w.heap.size + 1 + 1, off := 0 }), x 11, undef, undef, Value.pointer (some { block := ql, off := 0 }), Value.pointer (some { block := qr, off := 0 }), undef, undef, undef, undef, Value.pointer (some { block := qt, off := 0 }), Value.int IntKind.i64 gl.cost, Value.pointer (some { block := qv, off := 0 }), Value.int IntKind.i64 gr.cost, TV 0 (some { block := g, off := o }) 2 c, Value.bool false, undef, undef, undef, undef, undef, undef, Value.pointer (some { block := w.heap.size + 1, off := 1 }), Value.slice (some { block := g', off := o' }) 2 c', Value.int IntKind.i64 2, Value.bool false, undef, undef, undef, undef, undef, undef, undef, undef, undef, undef, undef, undef, undef, Value.pointer (some { block := w.heap.size, off := 1 }), Value.slice (some { block := g, off := o }) 2 c, Value.pointer (some { block := g, off := o }), TV m0 q0 k0 j0, Value.pointer (some { block := w.heap.size, off := 1 }), Value.slice (some { block := g, off := o }) 2 c, Value.pointer (some { block := g, off := o + 2 }), TV m1 q1 k1 j1, TV m0 q0 k0 j0, Value.bool false, undef, undef, undef, undef, undef, undef, undef, undef, undef, undef, undef, undef, undef, undef, undef, undef, undef, undef, undef, TV m1 q1 k1 j1, Value.bool false, undef, undef, undef, undef, undef, undef, undef, undef, undef, undef, undef, undef, undef, undef, undef, undef, undef, undef, undef, xqt 6, TV m0 q0 k0 j0, Value.pointer (some { block := w.heap.size + 1, off := 1 }), Value.slice (some { block := g', off := o' }) 2 c', Value.pointer (some { block := g', off := o' }), TV n0 p0 l0 c0, xqt 5, TV nT pT lT cT, xqt 8, xqv 6, TV m1 q1 k1 j1, Value.pointer (some { block := w.heap.size + 1, off := 1 }), Value.slice (some { block := g', off := o' }) 2 c', Value.pointer (some { block := g', off := o' + 2 }), TV n1 p1 l1 c1, xqv 5, TV nV pV lV cV, xqv 8, Value.int IntKind.i64 gl.cost, Value.int IntKind.i64 gr.cost, Value.bool true, x 0, x 1, x 2, x 3, x 4, x 5, x 6, x 7, x 8, x 9, undef, undef, undef, undef, undef, undef, undef, undef, undef, undef], defers := [] }) [eqF 0 (.pointer (some ⟨w.heap.size + 1, 0, none⟩)), eqF 1 (.int .i64 n), eqF 2 (TV nT pT lT cT), eqF 3 (.pointer (some ⟨w.heap.size + 1, 1, none⟩)), eqF 4 (.slice (some ⟨g', o', none⟩) 2 c'), eqF 5 (.pointer (some ⟨g', o' + 2, none⟩)), eqF 6 (TV n1 p1 l1 c1), isF 7 (.node n gl.ev b), eqF 8 (.int .i64 gl.cost), eqF 9 (.int .i64 (gl.cost + 1)), bxF 7 (w.heap.size + 1 + 1) (.node n gl.ev b), eqF 11 (.int .i64 (gl.cost + 1))] _ rfl (by kernel_rfl) (fun k => if k = 11 then .int .i64 0 else undef) rfl ⟨b1, b2, ⟨_, _, _, _, b3⟩, bql, bqr, bqt, iqt.later (Below.refl _ _).drew, bqv, iqv.later (Below.refl _ _).drew, hbel.drew⟩ ⟨?_, ?_, ?_, ?_, ?_, ?_, ?_, ?_, ?_, ?_, ?_, ?_, trivial⟩ ?_
        · exact Facts.pure hS hF (fun _ _ => rfl) rfl (fun x wv hSw hd => by
            go_simp)
        · exact Facts.pure hS hF (fun _ _ => rfl) rfl (fun x wv hSw hd => by
            have d0 := eqF_get (hd ⟨0, .data⟩ (by simp) rfl _ rfl)
            have g0 := Bx.cell0 hSw.2.1
            have g1 := Bx.cell1 hSw.2.1
            simp only [d0]
            go_simp)
        · exact Facts.loadT hS hF (fun _ _ => rfl) _ rfl rfl (fun x wv hSw hd => by rfl) (fun wv hSw => Bx.tat hSw.2.2.2.2.2.1)
        · exact Facts.pure hS hF (fun _ _ => rfl) rfl (fun x wv hSw hd => by
            go_simp)
        · exact Facts.pure hS hF (fun _ _ => rfl) rfl (fun x wv hSw hd => by
            have d3 := eqF_get (hd ⟨3, .data⟩ (by simp) rfl _ rfl)
            have g0 := Bx.cell0 hSw.2.1
            have g1 := Bx.cell1 hSw.2.1
            simp only [d3]
            go_simp)
        · exact Facts.pure hS hF (fun _ _ => rfl) rfl (fun x wv hSw hd => by
            have d4 := eqF_get (hd ⟨4, .data⟩ (by simp) rfl _ rfl)
            simp only [d4]
            go_simp)
        · exact Facts.loadT hS hF (fun _ _ => rfl) _ rfl rfl (fun x wv hSw hd => by have d5 := eqF_get (hd ⟨5, .data⟩ (by simp) rfl _ rfl); exact d5) (fun wv hSw => t1.later hSw.2.2.2.2.2.2.2.2.2)
        · refine Facts.call3T hS hF (fun _ _ => rfl) rfl (by kernel_rfl) rfl (fun x wv hSw hd => ?_)
          have d1 := eqF_get (hd ⟨1, .data⟩ (by simp) rfl _ rfl)
          have d2 := eqF_get (hd ⟨2, .data⟩ (by simp) rfl _ rfl)
          have d6 := eqF_get (hd ⟨6, .data⟩ (by simp) rfl _ rfl)
          have hc := inner_any n gl.ev b nT pT lT cT n1 p1 l1 c1 wv hSw.2.2.2.2.2.2.1 (ib.later hSw.2.2.2.2.2.2.2.2.2)
          rw [← d1, ← d2, ← d6] at hc
          exact hc
        · exact Facts.pure hS hF (fun _ _ => rfl) rfl (fun x wv hSw hd => by
            go_simp)
        · exact Facts.pure hS hF (fun _ _ => rfl) rfl (fun x wv hSw hd => by
            have d8 := eqF_get (hd ⟨8, .data⟩ (by simp) rfl _ rfl)
            simp only [d8]
            go_simp <;> exact hwr)
        · exact Facts.storeT (fun _ _ => rfl) _ _ rfl (by decide) rfl (fun _ => rfl) (fun _ => rfl) (fun x wv hSw hd => isF_get (hd ⟨7, .data⟩ (by simp) rfl _ rfl)) (fun wv hSw => ⟨hSw.2.2.1, fun n p l c => (by obtain ⟨s1, s2, ⟨_, _, _, _, s3⟩, s4, s5, s6, s7, s8, s9, sB⟩ := hSw; exact ⟨s1.rowOther (by omega) _, s2.rowOther (by omega) _, ⟨_, _, _, _, s3.row n p l c⟩, s4.rowOther (by omega) _, s5.rowOther (by omega) _, s6.rowOther (by omega) _, s7.box s3 _, s8.rowOther (by omega) _, s9.box s3 _, below_setRow sB (by omega) _⟩)⟩) (fun j f hj hfj => by
            match j with
            | 0 => obtain rfl := Option.some.inj hfj; exact eqF_box _ _ _
            | 1 => obtain rfl := Option.some.inj hfj; exact eqF_box _ _ _
            | 2 => obtain rfl := Option.some.inj hfj; exact eqF_box _ _ _
            | 3 => obtain rfl := Option.some.inj hfj; exact eqF_box _ _ _
            | 4 => obtain rfl := Option.some.inj hfj; exact eqF_box _ _ _
            | 5 => obtain rfl := Option.some.inj hfj; exact eqF_box _ _ _
            | 6 => obtain rfl := Option.some.inj hfj; exact eqF_box _ _ _
            | 7 => obtain rfl := Option.some.inj hfj; exact isF_box _ _ _
            | 8 => obtain rfl := Option.some.inj hfj; exact eqF_box _ _ _
            | 9 => obtain rfl := Option.some.inj hfj; exact eqF_box _ _ _
            | 11 => obtain rfl := Option.some.inj hfj; exact eqF_box _ _ _
            | 10 => exact absurd rfl hj
            | j + 12 => simp at hfj)
        · exact Facts.pure hS hF (fun _ _ => rfl) rfl (fun x wv hSw hd => by
            have d9 := eqF_get (hd ⟨9, .data⟩ (by simp) rfl _ rfl)
            simp only [d9]
            go_simp)
        rintro x w19 ⟨_, _, _, _, _, _, _, _, _, hbel9⟩ hf
        obtain ⟨nz, pz, lz, cz, _, hbx, hiz⟩ := bxF_get (hf 10 _ (by decide) rfl)
        have e11 := eqF_get (hf 11 _ (by decide) rfl)
        simp only [e11]
        go_wp2
        exact bodyPost_ret (results_te rfl rfl hbx) rfl ⟨_, _, _, _, rfl, hiz, hbel9⟩
      case' neg =>
        rw [if_neg (show ¬ gl.cost + 1 < gr.cost + 1 by omega)] at HZ
        simp only [gB] at HZ
        obtain rfl := HZ.out
        have hwr : IntKind.i64.wrap (gr.cost + 1) = gr.cost + 1 := by rw [IntKind.wrap_i64]; omega
        clear HZ
        go_wp2_with fail
        have hS : Calm.Stays (fun w' => Bx w' w.heap.size 0 (some ⟨g, o, none⟩) 2 c ∧ Bx w' (w.heap.size + 1) n (some ⟨g', o', none⟩) 2 c' ∧ (∃ n p l c, Bx w' (w.heap.size + 1 + 1) n p l c) ∧ Bx w' ql m0 q0 k0 j0 ∧ Bx w' qr m1 q1 k1 j1 ∧ Bx w' qt nT pT lT cT ∧ Is w' gl.ev (TV nT pT lT cT) ∧ Bx w' qv nV pV lV cV ∧ Is w' gr.ev (TV nV pV lV cV) ∧ Below w.heap.size w w') := fun wa wb h hb => ⟨h.1.later hb, h.2.1.later hb, (by obtain ⟨n, p, l, c, h2⟩ := h.2.2.1; exact ⟨n, p, l, c, h2.later hb⟩), h.2.2.2.1.later hb, h.2.2.2.2.1.later hb, h.2.2.2.2.2.1.later hb, h.2.2.2.2.2.2.1.later hb, h.2.2.2.2.2.2.2.1.later hb, h.2.2.2.2.2.2.2.2.1.later hb, below_on h.2.2.2.2.2.2.2.2.2 hb⟩
        have hF : Facts.Stay [eqF 0 (.pointer (some ⟨w.heap.size + 1, 0, none⟩)), eqF 1 (.int .i64 n), eqF 2 (.pointer (some ⟨w.heap.size + 1, 1, none⟩)), eqF 3 (.slice (some ⟨g', o', none⟩) 2 c'), eqF 4 (.pointer (some ⟨g', o', none⟩)), eqF 5 (TV n0 p0 l0 c0), eqF 6 (TV nV pV lV cV), isF 7 (.node n a gr.ev), eqF 8 (.int .i64 gr.cost), eqF 9 (.int .i64 (gr.cost + 1)), bxF 7 (w.heap.size + 1 + 1) (.node n a gr.ev), eqF 11 (.int .i64 (gr.cost + 1))] := stay_of (by simp only [List.forall_mem_cons]; exact ⟨eqF_stays _ _, eqF_stays _ _, eqF_stays _ _, eqF_stays _ _, eqF_stays _ _, eqF_stays _ _, eqF_stays _ _, isF_stays _ _, eqF_stays _ _, eqF_stays _ _, bxF_stays _ _ _, eqF_stays _ _, fun _ h => by cases h⟩)
        refine Facts.region (by kernel_rfl) (by kernel_rfl) (fun w' => Bx w' w.heap.size 0 (some ⟨g, o, none⟩) 2 c ∧ Bx w' (w.heap.size + 1) n (some ⟨g', o', none⟩) 2 c' ∧ (∃ n p l c, Bx w' (w.heap.size + 1 + 1) n p l c) ∧ Bx w' ql m0 q0 k0 j0 ∧ Bx w' qr m1 q1 k1 j1 ∧ Bx w' qt nT pT lT cT ∧ Is w' gl.ev (TV nT pT lT cT) ∧ Bx w' qv nV pV lV cV ∧ Is w' gr.ev (TV nV pV lV cV) ∧ Below w.heap.size w w') (fun x => { tmps := #[TV 0 (some { block := g, off := o }) 2 c, TV n (some { block := g', off := o' }) 2 c', Value.pointer (some { block := w.heap.size, off := 0 }), Value.pointer (some { block := w.heap.size + 1, off := 0 }), Value.pointer (some { block := w.heap.size + 1 + 1, off := 0 }), x 11, undef, undef, Value.pointer (some { block := ql, off := 0 }), Value.pointer (some { block := qr, off := 0 }), undef, undef, undef, undef, Value.pointer (some { block := qt, off := 0 }), Value.int IntKind.i64 gl.cost, Value.pointer (some { block := qv, off := 0 }), Value.int IntKind.i64 gr.cost, TV 0 (some { block := g, off := o }) 2 c, Value.bool false, undef, undef, undef, undef, undef, undef, Value.pointer (some { block := w.heap.size + 1, off := 1 }), Value.slice (some { block := g', off := o' }) 2 c', Value.int IntKind.i64 2, Value.bool false, undef, undef, undef, undef, undef, undef, undef, undef, undef, undef, undef, undef, undef, Value.pointer (some { block := w.heap.size, off := 1 }), Value.slice (some { block := g, off := o }) 2 c, Value.pointer (some { block := g, off := o }), TV m0 q0 k0 j0, Value.pointer (some { block := w.heap.size, off := 1 }), Value.slice (some { block := g, off := o }) 2 c, Value.pointer (some { block := g, off := o + 2 }), TV m1 q1 k1 j1, TV m0 q0 k0 j0, Value.bool false, undef, undef, undef, undef, undef, undef, undef, undef, undef, undef, undef, undef, undef, undef, undef, undef, undef, undef, undef, TV m1 q1 k1 j1, Value.bool false, undef, undef, undef, undef, undef, undef, undef, undef, undef, undef, undef, undef, undef, undef, undef, undef, undef, undef, undef, xqt 6, TV m0 q0 k0 j0, Value.pointer (some { block := w.heap.size + 1, off := 1 }), Value.slice (some { block := g', off := o' }) 2 c', Value.pointer (some { block := g', off := o' }), TV n0 p0 l0 c0, xqt 5, TV nT pT lT cT, xqt 8, xqv 6, TV m1 q1 k1 j1, Value.pointer (some { block := w.heap.size + 1, off := 1 }), Value.slice (some { block := g', off := o' }) 2 c', Value.pointer (some { block := g', off := o' + 2 }), TV n1 p1 l1 c1, xqv 5, TV nV pV lV cV, xqv 8, Value.int IntKind.i64 gl.cost, Value.int IntKind.i64 gr.cost, Value.bool false, undef, undef, undef, undef, undef, undef, undef, undef, undef, undef, x 0, x 1, x 2, x 3, x 4, x 5, x 6, x 7, x 8, x 9], defers := [] }) [eqF 0 (.pointer (some ⟨w.heap.size + 1, 0, none⟩)), eqF 1 (.int .i64 n), eqF 2 (.pointer (some ⟨w.heap.size + 1, 1, none⟩)), eqF 3 (.slice (some ⟨g', o', none⟩) 2 c'), eqF 4 (.pointer (some ⟨g', o', none⟩)), eqF 5 (TV n0 p0 l0 c0), eqF 6 (TV nV pV lV cV), isF 7 (.node n a gr.ev), eqF 8 (.int .i64 gr.cost), eqF 9 (.int .i64 (gr.cost + 1)), bxF 7 (w.heap.size + 1 + 1) (.node n a gr.ev), eqF 11 (.int .i64 (gr.cost + 1))] _ rfl (by kernel_rfl) (fun k => if k = 11 then .int .i64 0 else undef) rfl ⟨b1, b2, ⟨_, _, _, _, b3⟩, bql, bqr, bqt, iqt.later (Below.refl _ _).drew, bqv, iqv.later (Below.refl _ _).drew, hbel.drew⟩ ⟨?_, ?_, ?_, ?_, ?_, ?_, ?_, ?_, ?_, ?_, ?_, ?_, trivial⟩ ?_
        · exact Facts.pure hS hF (fun _ _ => rfl) rfl (fun x wv hSw hd => by
            go_simp)
        · exact Facts.pure hS hF (fun _ _ => rfl) rfl (fun x wv hSw hd => by
            have d0 := eqF_get (hd ⟨0, .data⟩ (by simp) rfl _ rfl)
            have g0 := Bx.cell0 hSw.2.1
            have g1 := Bx.cell1 hSw.2.1
            simp only [d0]
            go_simp)
        · exact Facts.pure hS hF (fun _ _ => rfl) rfl (fun x wv hSw hd => by
            go_simp)
        · exact Facts.pure hS hF (fun _ _ => rfl) rfl (fun x wv hSw hd => by
            have d2 := eqF_get (hd ⟨2, .data⟩ (by simp) rfl _ rfl)
            have g0 := Bx.cell0 hSw.2.1
            have g1 := Bx.cell1 hSw.2.1
            simp only [d2]
            go_simp)
        · exact Facts.pure hS hF (fun _ _ => rfl) rfl (fun x wv hSw hd => by
            have d3 := eqF_get (hd ⟨3, .data⟩ (by simp) rfl _ rfl)
            simp only [d3]
            go_simp)
        · exact Facts.loadT hS hF (fun _ _ => rfl) _ rfl rfl (fun x wv hSw hd => by have d4 := eqF_get (hd ⟨4, .data⟩ (by simp) rfl _ rfl); exact d4) (fun wv hSw => t0.later hSw.2.2.2.2.2.2.2.2.2)
        · exact Facts.loadT hS hF (fun _ _ => rfl) _ rfl rfl (fun x wv hSw hd => by rfl) (fun wv hSw => Bx.tat hSw.2.2.2.2.2.2.2.1)
        · refine Facts.call3T hS hF (fun _ _ => rfl) rfl (by kernel_rfl) rfl (fun x wv hSw hd => ?_)
          have d1 := eqF_get (hd ⟨1, .data⟩ (by simp) rfl _ rfl)
          have d5 := eqF_get (hd ⟨5, .data⟩ (by simp) rfl _ rfl)
          have d6 := eqF_get (hd ⟨6, .data⟩ (by simp) rfl _ rfl)
          have hc := inner_any n a gr.ev n0 p0 l0 c0 nV pV lV cV wv (ia.later hSw.2.2.2.2.2.2.2.2.2) hSw.2.2.2.2.2.2.2.2.1
          rw [← d1, ← d5, ← d6] at hc
          exact hc
        · exact Facts.pure hS hF (fun _ _ => rfl) rfl (fun x wv hSw hd => by
            go_simp)
        · exact Facts.pure hS hF (fun _ _ => rfl) rfl (fun x wv hSw hd => by
            have d8 := eqF_get (hd ⟨8, .data⟩ (by simp) rfl _ rfl)
            simp only [d8]
            go_simp <;> exact hwr)
        · exact Facts.storeT (fun _ _ => rfl) _ _ rfl (by decide) rfl (fun _ => rfl) (fun _ => rfl) (fun x wv hSw hd => isF_get (hd ⟨7, .data⟩ (by simp) rfl _ rfl)) (fun wv hSw => ⟨hSw.2.2.1, fun n p l c => (by obtain ⟨s1, s2, ⟨_, _, _, _, s3⟩, s4, s5, s6, s7, s8, s9, sB⟩ := hSw; exact ⟨s1.rowOther (by omega) _, s2.rowOther (by omega) _, ⟨_, _, _, _, s3.row n p l c⟩, s4.rowOther (by omega) _, s5.rowOther (by omega) _, s6.rowOther (by omega) _, s7.box s3 _, s8.rowOther (by omega) _, s9.box s3 _, below_setRow sB (by omega) _⟩)⟩) (fun j f hj hfj => by
            match j with
            | 0 => obtain rfl := Option.some.inj hfj; exact eqF_box _ _ _
            | 1 => obtain rfl := Option.some.inj hfj; exact eqF_box _ _ _
            | 2 => obtain rfl := Option.some.inj hfj; exact eqF_box _ _ _
            | 3 => obtain rfl := Option.some.inj hfj; exact eqF_box _ _ _
            | 4 => obtain rfl := Option.some.inj hfj; exact eqF_box _ _ _
            | 5 => obtain rfl := Option.some.inj hfj; exact eqF_box _ _ _
            | 6 => obtain rfl := Option.some.inj hfj; exact eqF_box _ _ _
            | 7 => obtain rfl := Option.some.inj hfj; exact isF_box _ _ _
            | 8 => obtain rfl := Option.some.inj hfj; exact eqF_box _ _ _
            | 9 => obtain rfl := Option.some.inj hfj; exact eqF_box _ _ _
            | 11 => obtain rfl := Option.some.inj hfj; exact eqF_box _ _ _
            | 10 => exact absurd rfl hj
            | j + 12 => simp at hfj)
        · exact Facts.pure hS hF (fun _ _ => rfl) rfl (fun x wv hSw hd => by
            have d9 := eqF_get (hd ⟨9, .data⟩ (by simp) rfl _ rfl)
            simp only [d9]
            go_simp)
        rintro x w19 ⟨_, _, _, _, _, _, _, _, _, hbel9⟩ hf
        obtain ⟨nz, pz, lz, cz, _, hbx, hiz⟩ := bxF_get (hf 10 _ (by decide) rfl)
        have e11 := eqF_get (hf 11 _ (by decide) rfl)
        simp only [e11]
        go_wp2
        exact bodyPost_ret (results_te rfl rfl hbx) rfl ⟨_, _, _, _, rfl, hiz, hbel9⟩

theorem rgrow_any : ∀ (i : ID) (e : EV) (k : Nat) (left : Int) (ni : Int) (pi : Option Addr) (li ci : Nat) (ne : Int) (pe : Option Addr) (le ce : Nat) (w : World), Idn.Is w i (TV ni pi li ci) → Is w e (TV ne pe le ce) → Idn.short i = true → Idn.nil i = false → Idn.depth i ≤ k → short e = true → fl i e = e → rg e k left = true → k ≤ 16 → left ≤ 1073741824 →
    Calls Try.prog 47 #[TV ni pi li ci, TV ne pe le ce] w (GivesE (gr i e).ev (gr i e).cost w)
  | ⟨.inl b⟩, e, k, left, ni, pi, li, ci, ne, pe, le, ce, w, hi, he, _, hnl, _, hs, hf, hr, hk, hl => by
    cases b
    · simp [Idn.nil] at hnl
    · obtain ⟨m, rfl⟩ : ∃ m, e = .leaf m := ⟨_, leaf_of_fl hf⟩
      obtain ⟨p', c', ee⟩ := he
      simp at ee
      obtain ⟨rfl, rfl, rfl, rfl⟩ := ee
      have := rg_n hr
      simp only at this
      exact rgrow_all _ ni pi li ci ne pe ce w hi rfl (by omega)
  | ⟨.inr (l, r)⟩, ⟨n, .inl ()⟩, k, left, ni, pi, li, ci, ne, pe, le, ce, w, ⟨g, o, c, m0, q0, k0, j0, m1, q1, k1, j1, ei, u0, u1, il, ir⟩, ⟨p', c', ee⟩, hsi, _, hd, hs, hf, hr, hk, hl => by
    obtain ⟨ht, sl, sr⟩ := Idn.short_node.1 hsi
    simp only [Idn.depth] at hd
    have hn := rg_n hr
    simp only at hn
    have r0 : rg (.leaf 0) (k - 1) (left - n) = true := by simp only [rg, decide_eq_true_eq]; omega
    have R0 := fun (h : Idn.nil l = false) n0 p0 c0 w1 (hb : Below w.heap.size w w1) (h0 : Is w1 (.leaf 0) (TV n0 p0 0 c0)) => rgrow_any l (.leaf 0) (k - 1) (left - n) m0 q0 k0 j0 n0 p0 0 c0 w1 (il.later hb) h0 sl h (by omega) rfl (fl_leaf l 0) r0 (by omega) (by omega)
    have R1 := fun (h : Idn.nil r = false) n0 p0 c0 w1 (hb : Below w.heap.size w w1) (h0 : Is w1 (.leaf 0) (TV n0 p0 0 c0)) => rgrow_any r (.leaf 0) (k - 1) (left - n) m1 q1 k1 j1 n0 p0 0 c0 w1 (ir.later hb) h0 sr h (by omega) rfl (fl_leaf r 0) r0 (by omega) (by omega)
    have Gl := fun (h : Idn.nil l = false) => gr_good l (.leaf 0) (k - 1) (left - n) sl h (by omega) rfl r0 (fl_leaf l 0)
    have Gr := fun (h : Idn.nil r = false) => gr_good r (.leaf 0) (k - 1) (left - n) sr h (by omega) rfl r0 (fl_leaf r 0)
    simp at ei ee
    obtain ⟨rfl, rfl, rfl, rfl⟩ := ei
    obtain ⟨rfl, rfl, rfl, rfl⟩ := ee
    refine rgrow_leaf ne (pk l r ne (.leaf 0) (.leaf 0) (gr l (.leaf 0)) (gr r (.leaf 0))) g o ci pe ce w ?_ (fun w1 m p l' k' hb hI => ?_)
    · rcases pk_cases l r ne (.leaf 0) (.leaf 0) (gr l (.leaf 0)) (gr r (.leaf 0)) with ⟨e, h⟩ | ⟨e, h⟩
      · rw [e]
        have := (Gl h).cost
        simp only [gA]
        omega
      · rw [e]
        have h' : Idn.nil r = false := by
          rcases h with h | h
          · exact h
          · exact Idn.nil_other ht h
        have := (Gr h').cost
        simp only [gB]
        omega
    · obtain ⟨g', o', cc, n0, p0, l0, c0, n1, p1, l1, c1, e, t0, t1, ia, ib⟩ := hI
      simp at e
      obtain ⟨rfl, rfl, rfl, rfl⟩ := e
      obtain ⟨_, rfl⟩ := is_parts ia
      obtain ⟨_, rfl⟩ := is_parts ib
      exact rgrow_node l r m (gr l (.leaf 0)) (gr r (.leaf 0)) _ g o ci g' o' k' m0 q0 k0 j0 m1 q1 k1 j1 n0 p0 _ c0 n1 p1 _ c1 w1 (u0.later hb) (u1.later hb) t0 t1 (il.later hb) (ir.later hb) (.leaf 0) (.leaf 0) ia ib (fun h w2 hb2 => R0 h n0 p0 c0 w2 (below_on hb hb2) (ia.later hb2)) (fun h w2 hb2 => R1 h n1 p1 c1 w2 (below_on hb hb2) (ib.later hb2)) ht (fun h => (gr_bounds (Gl h) (by omega) r0 (by omega)).1) (fun h => (gr_bounds (Gr h) (by omega) r0 (by omega)).1) rfl
  | ⟨.inr (l, r)⟩, ⟨n, .inr (a, b)⟩, k, left, ni, pi, li, ci, ne, pe, le, ce, w, ⟨g, o, c, m0, q0, k0, j0, m1, q1, k1, j1, ei, u0, u1, il, ir⟩, ⟨g', o', c', n0, p0, l0, c0, n1, p1, l1, c1, ee, t0, t1, ia, ib⟩, hsi, _, hd, hs, hf, hr, hk, hl => by
    obtain ⟨ht, sl, sr⟩ := Idn.short_node.1 hsi
    simp only [Idn.depth] at hd
    obtain ⟨_, _, s0, s1⟩ := short_kids hs
    obtain ⟨⟨f0, f1⟩, _, _⟩ := fl_kids ht hs hf
    obtain ⟨hn, hk0, ra, rb⟩ := rg_kids hr
    have R0 := fun (h : Idn.nil l = false) w1 (hb : Below w.heap.size w w1) => rgrow_any l a (k - 1) (left - n) m0 q0 k0 j0 n0 p0 l0 c0 w1 (il.later hb) (ia.later hb) sl h (by omega) s0 f0 ra (by omega) (by omega)
    have R1 := fun (h : Idn.nil r = false) w1 (hb : Below w.heap.size w w1) => rgrow_any r b (k - 1) (left - n) m1 q1 k1 j1 n1 p1 l1 c1 w1 (ir.later hb) (ib.later hb) sr h (by omega) s1 f1 rb (by omega) (by omega)
    have Gl := fun (h : Idn.nil l = false) => gr_good l a (k - 1) (left - n) sl h (by omega) s0 ra f0
    have Gr := fun (h : Idn.nil r = false) => gr_good r b (k - 1) (left - n) sr h (by omega) s1 rb f1
    simp at ei ee
    obtain ⟨rfl, rfl, rfl, rfl⟩ := ei
    obtain ⟨rfl, rfl, rfl, rfl⟩ := ee
    exact rgrow_node l r ne (gr l a) (gr r b) _ g o ci g' o' ce m0 q0 k0 j0 m1 q1 k1 j1 n0 p0 l0 c0 n1 p1 l1 c1 w u0 u1 t0 t1 il ir a b ia ib R0 R1 ht (fun h => (gr_bounds (Gl h) (by omega) ra (by omega)).1) (fun h => (gr_bounds (Gr h) (by omega) rb (by omega)).1) rfl
end Go.Proofs.Ytmcajjdijjcpkaa
