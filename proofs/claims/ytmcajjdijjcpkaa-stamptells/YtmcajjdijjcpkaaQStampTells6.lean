import Derived.Test.YtmcajjdijjcpkaaQStampTells5
import Derived.Test.YtmcajjdijjcpkaaP18
import Derived.Test.YtmcajjdijjcpkaaQStampTells2
/- The function fill of the document's answer for stamps. -/
namespace Go.Proofs.Ytmcajjdijjcpkaa
open Go.RowKit
open Idn (ID)

theorem rIsAll_is {x : ID} {n : Int} {p : Option Addr} {l c : Nat} {w0 : World} (h : Idn.Is w0 x (TV n p l c)) (w : World) : Calls Try.prog 45 #[TV n p l c, .int .i64 1] w (Tells (.bool (all x)) w) := by
  rw [← all_is h]
  exact Idn.refIsLeaf_any n 1 p l c w
theorem rIsNil_is {x : ID} {n : Int} {p : Option Addr} {l c : Nat} {w0 : World} (h : Idn.Is w0 x (TV n p l c)) (w : World) : Calls Try.prog 45 #[TV n p l c, .int .i64 0] w (Tells (.bool (Idn.nil x)) w) := Idn.refIsNil_is h w
set_option maxHeartbeats 2000000 in
set_option maxRecDepth 100000 in
theorem rfill_nil (i : ID) (e : EV) (ni : Int) (pi : Option Addr) (li ci : Nat) (ne : Int) (pe : Option Addr) (le ce : Nat) (w : World) (hi : Idn.Is w i (TV ni pi li ci)) (he : Is w e (TV ne pe le ce)) (h : Idn.nil i = true) : Calls Try.prog 46 #[TV ni pi li ci, TV ne pe le ce] w (Gives e w) := by
  obtain ⟨b1, b2, b3, hbel⟩ := three_box w ni pi li ci ne pe le ce 0 none 0 0 _ rfl
  have r0 := fun w1 => rIsNil_is hi w1
  rw [h] at r0
  clear h hi
  go_enter Try.func46, Try.ntmps46
  go_wp2_with (refine load_t _ rfl rfl _ _ rfl b1.tat ?_)
  refine (r0 _).mono ?_
  rintro e1 w1 ⟨rfl, hb1⟩
  replace b2 := b2.later hb1
  replace b3 := b3.later hb1
  replace hbel := below_on hbel hb1
  clear hb1 r0 b1
  have R := below_setRow hbel (g := w.heap.size + 1 + 1) (by omega) #[.int .i64 ne, .slice pe le ce]
  go_wp2_with (first | refine load_t _ rfl rfl _ _ rfl b2.tat ?_ | refine store_t rfl _ _ rfl _ ne pe le ce rfl rfl b3 ?_)
  exact bodyPost_ret (results_t rfl rfl (b3.row _ _ _ _)) rfl ⟨_, _, _, _, rfl, (he.later hbel).box b3 _, R⟩
set_option maxHeartbeats 2000000 in
set_option maxRecDepth 100000 in
theorem rfill_leaf (i : ID) (ni : Int) (pi : Option Addr) (li ci : Nat) (ne : Int) (pe : Option Addr) (ce : Nat) (w : World) (hi : Idn.Is w i (TV ni pi li ci)) (h : Idn.nil i = false) : Calls Try.prog 46 #[TV ni pi li ci, TV ne pe 0 ce] w (Gives (.leaf ne) w) := by
  obtain ⟨b1, b2, b3, hbel⟩ := three_box w ni pi li ci ne pe 0 ce 0 none 0 0 _ rfl
  have r0 := fun w1 => rIsNil_is hi w1
  rw [h] at r0
  clear h hi
  go_enter Try.func46, Try.ntmps46
  go_wp2_with (refine load_t _ rfl rfl _ _ rfl b1.tat ?_)
  refine (r0 _).mono ?_
  rintro e1 w1 ⟨rfl, hb1⟩
  replace b2 := b2.later hb1
  replace b3 := b3.later hb1
  replace hbel := below_on hbel hb1
  clear hb1 r0 b1
  have g1 := b2.cell1
  have R := below_setRow hbel (g := w.heap.size + 1 + 1) (by omega) #[.int .i64 ne, .slice pe 0 ce]
  go_wp2_with (first | refine load_t _ rfl rfl _ _ rfl b2.tat ?_ | refine store_t rfl _ _ rfl _ ne pe 0 ce rfl rfl b3 ?_)
  exact bodyPost_ret (results_t rfl rfl (b3.row _ _ _ _)) rfl ⟨_, _, _, _, rfl, is_leaf _ ne _ _, R⟩
set_option maxHeartbeats 2000000 in
set_option maxRecDepth 100000 in
theorem rfill_all (i : ID) (z : Int) (ni : Int) (pi : Option Addr) (li ci : Nat) (ne : Int) (g o ce : Nat) (w : World) (hi : Idn.Is w i (TV ni pi li ci)) (h : all i = true) (rT : ∀ w1, Below w.heap.size w w1 → Calls Try.prog 48 #[TV ne (some ⟨g, o, none⟩) 2 ce] w1 (Tells (.int .i64 z) w1)) : Calls Try.prog 46 #[TV ni pi li ci, TV ne (some ⟨g, o, none⟩) 2 ce] w (Gives (.leaf z) w) := by
  obtain ⟨b1, b2, b3, hbel⟩ := three_box w ni pi li ci ne (some ⟨g, o, none⟩) 2 ce 0 none 0 0 _ rfl
  have r0 := fun w1 => rIsNil_is hi w1
  have r1 := fun w1 => rIsAll_is hi w1
  rw [nil_all h] at r0
  rw [h] at r1
  clear h hi
  go_enter Try.func46, Try.ntmps46
  go_wp2_with (refine load_t _ rfl rfl _ _ rfl b1.tat ?_)
  refine (r0 _).mono ?_
  rintro e1 w1 ⟨rfl, hb1⟩
  replace b1 := b1.later hb1
  replace b2 := b2.later hb1
  replace b3 := b3.later hb1
  replace hbel := below_on hbel hb1
  clear hb1 r0
  have g1 := b2.cell1
  go_wp2_with (refine load_t _ rfl rfl _ _ rfl b1.tat ?_)
  refine (r1 _).mono ?_
  rintro e1 w2 ⟨rfl, hb1⟩
  replace b2 := b2.later hb1
  replace b3 := b3.later hb1
  replace hbel := below_on hbel hb1
  clear hb1 r1 b1 g1
  go_wp2_with (refine load_t _ rfl rfl _ _ rfl b2.tat ?_)
  refine (rT _ hbel).mono ?_
  rintro e1 w3 ⟨rfl, hb1⟩
  replace b3 := b3.later hb1
  replace hbel := below_on hbel hb1
  clear hb1 rT b2
  go_wp2_with fail
  refine (refLeaf_any z _).mono ?_
  rintro e1 w4 ⟨rfl, hb1⟩
  replace b3 := b3.later hb1
  replace hbel := below_on hbel hb1
  have R := below_setRow hbel (g := w.heap.size + 1 + 1) (by omega) #[.int .i64 z, .slice none 0 0]
  clear hb1
  go_wp2_with (refine store_t rfl _ _ rfl _ z none 0 0 rfl rfl b3 ?_)
  exact bodyPost_ret (results_t rfl rfl (b3.row _ _ _ _)) rfl ⟨_, _, _, _, rfl, is_leaf _ z _ _, R⟩

set_option maxHeartbeats 16000000 in
set_option maxRecDepth 100000 in
theorem rfill_node (l r : ID) (n : Int) (A B : EV) (ha hb : Int) (Z : EV) (g o c g' o' c' : Nat) (m0 : Int) (q0 : Option Addr) (k0 j0 : Nat) (m1 : Int) (q1 : Option Addr) (k1 j1 : Nat) (n0 : Int) (p0 : Option Addr) (l0 c0 : Nat) (n1 : Int) (p1 : Option Addr) (l1 c1 : Nat) (w : World)
    (u0 : Tat w g o m0 q0 k0 j0) (u1 : Tat w g (o + 2) m1 q1 k1 j1) (t0 : Tat w g' o' n0 p0 l0 c0) (t1 : Tat w g' (o' + 2) n1 p1 l1 c1) (il : Idn.Is w l (TV m0 q0 k0 j0)) (ir : Idn.Is w r (TV m1 q1 k1 j1)) (a b : EV) (ia : Is w a (TV n0 p0 l0 c0)) (ib : Is w b (TV n1 p1 l1 c1))
    (r0 : ∀ w1, Below w.heap.size w w1 → Calls Try.prog 46 #[TV m0 q0 k0 j0, TV n0 p0 l0 c0] w1 (Gives A w1)) (r1 : ∀ w1, Below w.heap.size w w1 → Calls Try.prog 46 #[TV m1 q1 k1 j1, TV n1 p1 l1 c1] w1 (Gives B w1))
    (s0 : ∀ w1, Below w.heap.size w w1 → Calls Try.prog 48 #[TV n0 p0 l0 c0] w1 (Tells (.int .i64 ha) w1)) (s1 : ∀ w1, Below w.heap.size w w1 → Calls Try.prog 48 #[TV n1 p1 l1 c1] w1 (Tells (.int .i64 hb) w1))
    (hZ : Z = .node n (if all l then .leaf (max ha B.n) else A) (if all l then B else if all r then .leaf (max hb A.n) else B)) (hr : ∀ x y, Z = .node n x y → rg (.node 0 x y) 16 1073741824 = true) (hn : 0 ≤ n ∧ n ≤ 1073741824) :
    Calls Try.prog 46 #[TV 0 (some ⟨g, o, none⟩) 2 c, TV n (some ⟨g', o', none⟩) 2 c'] w (Gives (norm Z) w) := by
  obtain ⟨b1, b2, b3, hbel⟩ := three_box w 0 (some ⟨g, o, none⟩) 2 c n (some ⟨g', o', none⟩) 2 c' 0 none 0 0 _ rfl
  have x0 := fun w1 => Idn.refIsLeaf_any 0 0 (some ⟨g, o, none⟩) 2 c w1
  have x1 := fun w1 => Idn.refIsLeaf_any 0 1 (some ⟨g, o, none⟩) 2 c w1
  simp only [Nat.reduceEqDiff, decide_false, Bool.false_and] at x0 x1
  have a0 := fun w1 => rIsAll_is il w1
  have a1 := fun w1 => rIsAll_is ir w1
  have HZ : Hid (Z = .node n (if all l then .leaf (max ha B.n) else A) (if all l then B else if all r then .leaf (max hb A.n) else B)) := hZ
  have HR : Hid (∀ x y, Z = .node n x y → rg (.node 0 x y) 16 1073741824 = true) := hr
  clear hZ hr
  generalize all l = bl at a0 HZ
  generalize all r = br at a1 HZ
  go_enter Try.func46, Try.ntmps46
  go_wp2_with (refine load_t _ rfl rfl _ _ rfl b1.tat ?_)
  refine (x0 _).mono ?_
  rintro e1 w1 ⟨rfl, hb1⟩
  replace b1 := b1.later hb1
  replace b2 := b2.later hb1
  replace b3 := b3.later hb1
  replace hbel := below_on hbel hb1
  clear hb1 x0
  have g1 := b2.cell1
  go_wp2_with (refine load_t _ rfl rfl _ _ rfl b1.tat ?_)
  refine (x1 _).mono ?_
  rintro e1 w2 ⟨rfl, hb1⟩
  replace b1 := b1.later hb1
  replace b2 := b2.later hb1
  replace b3 := b3.later hb1
  replace hbel := below_on hbel hb1
  clear hb1 x1 g1
  go_wp2_with fail
  have hS : Calm.Stays (fun w' => Bx w' w.heap.size 0 (some ⟨g, o, none⟩) 2 c ∧ Bx w' (w.heap.size + 1) n (some ⟨g', o', none⟩) 2 c' ∧ Bx w' (w.heap.size + 1 + 1) 0 none 0 0 ∧ Below w.heap.size w w') := fun wa wb h hb => ⟨h.1.later hb, h.2.1.later hb, h.2.2.1.later hb, below_on h.2.2.2 hb⟩
  have hF : Facts.Stay [eqF 0 (.pointer (some ⟨w.heap.size, 1, none⟩)), eqF 1 (.slice (some ⟨g, o, none⟩) 2 c), eqF 2 (.pointer (some ⟨g, o, none⟩)), eqF 3 (TV m0 q0 k0 j0), eqF 4 (.pointer (some ⟨w.heap.size, 1, none⟩)), eqF 5 (.slice (some ⟨g, o, none⟩) 2 c), eqF 6 (.pointer (some ⟨g, o + 2, none⟩)), eqF 7 (TV m1 q1 k1 j1), Idn.alF 8 (w.heap.size + 3), Idn.alF 9 (w.heap.size + 3), Idn.sbF 8 3 (w.heap.size + 3) l, Idn.sbF 9 7 (w.heap.size + 3) r] := stay_of (by simp only [List.forall_mem_cons]; exact ⟨eqF_stays _ _, eqF_stays _ _, eqF_stays _ _, eqF_stays _ _, eqF_stays _ _, eqF_stays _ _, eqF_stays _ _, eqF_stays _ _, Idn.alF_stays _ _, Idn.alF_stays _ _, Idn.sbF_stays _ _ _ _, Idn.sbF_stays _ _ _ _, fun _ h => by cases h⟩)
  refine FactsG.region (by kernel_rfl) (by kernel_rfl) (fun w' => Bx w' w.heap.size 0 (some ⟨g, o, none⟩) 2 c ∧ Bx w' (w.heap.size + 1) n (some ⟨g', o', none⟩) 2 c' ∧ Bx w' (w.heap.size + 1 + 1) 0 none 0 0 ∧ Below w.heap.size w w') (fun x => { tmps := #[TV 0 (some { block := g, off := o }) 2 c, TV n (some { block := g', off := o' }) 2 c', Value.pointer (some { block := w.heap.size, off := 0 }), Value.pointer (some { block := w.heap.size + 1, off := 0 }), Value.pointer (some { block := w.heap.size + 1 + 1, off := 0 }), x 8, x 9, undef, undef, TV 0 (some { block := g, off := o }) 2 c, Value.bool false, Value.bool false, Value.pointer (some { block := w.heap.size + 1, off := 1 }), Value.slice (some { block := g', off := o' }) 2 c', Value.int IntKind.i64 2, Value.bool false, Value.bool false, undef, TV 0 (some { block := g, off := o }) 2 c, Value.bool false, undef, undef, undef, x 0, x 1, x 2, x 3, x 4, x 5, x 6, x 7, undef, undef, undef, undef, undef, undef, undef, undef, undef, undef, undef, undef, undef, undef, undef, undef, undef, undef, undef, undef, undef, undef, undef, undef, undef, undef, undef, undef, undef, undef, undef, undef, undef, undef, undef, undef, undef, undef, undef, undef, undef, undef, undef], defers := [] }) [eqF 0 (.pointer (some ⟨w.heap.size, 1, none⟩)), eqF 1 (.slice (some ⟨g, o, none⟩) 2 c), eqF 2 (.pointer (some ⟨g, o, none⟩)), eqF 3 (TV m0 q0 k0 j0), eqF 4 (.pointer (some ⟨w.heap.size, 1, none⟩)), eqF 5 (.slice (some ⟨g, o, none⟩) 2 c), eqF 6 (.pointer (some ⟨g, o + 2, none⟩)), eqF 7 (TV m1 q1 k1 j1), Idn.alF 8 (w.heap.size + 3), Idn.alF 9 (w.heap.size + 3), Idn.sbF 8 3 (w.heap.size + 3) l, Idn.sbF 9 7 (w.heap.size + 3) r] (Idn.NotOne [8, 9]) (Idn.notOne_symm _) _ rfl rfl (by kernel_rfl) (fun _ => undef) rfl ⟨b1, b2, b3, hbel.drew⟩ ⟨?_, ?_, ?_, ?_, ?_, ?_, ?_, ?_, ?_, ?_, ?_, ?_, trivial⟩ ?_
  · exact FactsG.of rfl (fun _ _ _ h => absurd h (by decide)) (fun _ _ _ _ => rfl) (Facts.pure hS hF (fun _ _ => rfl) rfl (fun x wv hSw hd => by
      go_simp))
  · exact FactsG.of rfl (fun _ _ _ h => absurd h (by decide)) (fun _ _ _ _ => rfl) (Facts.pure hS hF (fun _ _ => rfl) rfl (fun x wv hSw hd => by
      have d0 := eqF_get (hd ⟨0, .data⟩ (by simp) rfl _ rfl)
      have g1 := Bx.cell1 hSw.1
      simp only [d0]
      go_simp))
  · exact FactsG.of rfl (fun _ _ _ h => absurd h (by decide)) (fun _ _ _ _ => rfl) (Facts.pure hS hF (fun _ _ => rfl) rfl (fun x wv hSw hd => by
      have d1 := eqF_get (hd ⟨1, .data⟩ (by simp) rfl _ rfl)
      simp only [d1]
      go_simp))
  · exact FactsG.of rfl (fun _ _ _ h => absurd h (by decide)) (fun _ _ _ _ => rfl) (Facts.loadT hS hF (fun _ _ => rfl) _ rfl rfl (fun x wv hSw hd => by have d2 := eqF_get (hd ⟨2, .data⟩ (by simp) rfl _ rfl); exact d2) (fun wv hSw => u0.later hSw.2.2.2))
  · exact FactsG.of rfl (fun _ _ _ h => absurd h (by decide)) (fun _ _ _ _ => rfl) (Facts.pure hS hF (fun _ _ => rfl) rfl (fun x wv hSw hd => by
      go_simp))
  · exact FactsG.of rfl (fun _ _ _ h => absurd h (by decide)) (fun _ _ _ _ => rfl) (Facts.pure hS hF (fun _ _ => rfl) rfl (fun x wv hSw hd => by
      have d4 := eqF_get (hd ⟨4, .data⟩ (by simp) rfl _ rfl)
      have g1 := Bx.cell1 hSw.1
      simp only [d4]
      go_simp))
  · exact FactsG.of rfl (fun _ _ _ h => absurd h (by decide)) (fun _ _ _ _ => rfl) (Facts.pure hS hF (fun _ _ => rfl) rfl (fun x wv hSw hd => by
      have d5 := eqF_get (hd ⟨5, .data⟩ (by simp) rfl _ rfl)
      simp only [d5]
      go_simp))
  · exact FactsG.of rfl (fun _ _ _ h => absurd h (by decide)) (fun _ _ _ _ => rfl) (Facts.loadT hS hF (fun _ _ => rfl) _ rfl rfl (fun x wv hSw hd => by have d6 := eqF_get (hd ⟨6, .data⟩ (by simp) rfl _ rfl); exact d6) (fun wv hSw => u1.later hSw.2.2.2))
  · exact Idn.FactsG.allocT rfl rfl hS hF (fun _ _ => rfl) rfl rfl (fun wv hSw => (by have := Bx.lt hSw.2.2.1; omega)) (fun j f hfj hj => by simp only [List.mem_cons, List.not_mem_nil, or_false] at hj; rcases hj with rfl | rfl <;> exact ⟨_, (Option.some.inj hfj).symm⟩)
  · exact Idn.FactsG.allocT rfl rfl hS hF (fun _ _ => rfl) rfl rfl (fun wv hSw => (by have := Bx.lt hSw.2.2.1; omega)) (fun j f hfj hj => by simp only [List.mem_cons, List.not_mem_nil, or_false] at hj; rcases hj with rfl | rfl <;> exact ⟨_, (Option.some.inj hfj).symm⟩)
  · exact Idn.FactsG.storeP rfl rfl (by decide) (fun _ _ => rfl) _ _ rfl (by decide) (by decide) rfl (fun _ => rfl) (fun _ => rfl) (fun x wv hSw hd => ⟨hd ⟨8, .data⟩ (by simp) rfl _ rfl, ⟨m0, q0, k0, j0, by simp [Idn.isF, eqF_get (hd ⟨3, .data⟩ (by simp) rfl _ rfl)], il.later hSw.2.2.2⟩⟩) (fun wv q n p l c n' p' l' c' hSw hq hbx => (by obtain ⟨s1, s2, s3, sB⟩ := hSw; exact ⟨s1.rowOther (by omega) _, s2.rowOther (by omega) _, s3.rowOther (by omega) _, below_setRow sB (by omega) _⟩)) (fun x wv q n p l c hrel hxm hNq hq j f hj hfj hh => by
      match j with
      | 0 => obtain rfl := Option.some.inj hfj; exact eqF_box _ _ _ _ _ n p l c hh hq
      | 1 => obtain rfl := Option.some.inj hfj; exact eqF_box _ _ _ _ _ n p l c hh hq
      | 2 => obtain rfl := Option.some.inj hfj; exact eqF_box _ _ _ _ _ n p l c hh hq
      | 3 => obtain rfl := Option.some.inj hfj; exact eqF_box _ _ _ _ _ n p l c hh hq
      | 4 => obtain rfl := Option.some.inj hfj; exact eqF_box _ _ _ _ _ n p l c hh hq
      | 5 => obtain rfl := Option.some.inj hfj; exact eqF_box _ _ _ _ _ n p l c hh hq
      | 6 => obtain rfl := Option.some.inj hfj; exact eqF_box _ _ _ _ _ n p l c hh hq
      | 7 => obtain rfl := Option.some.inj hfj; exact eqF_box _ _ _ _ _ n p l c hh hq
      | 8 => obtain rfl := Option.some.inj hfj; exact Idn.alF_box _ _ _ _ _ n p l c hh hq
      | 9 => obtain rfl := Option.some.inj hfj; exact Idn.alF_box _ _ _ _ _ n p l c hh hq
      | 11 => obtain rfl := Option.some.inj hfj; exact Idn.sbF_other hh (fun h => hrel ⟨9, .phase⟩ (by simp) rfl ⟨8, .phase⟩ (by simp) rfl (by decide) (by decide) (by decide) (h.trans hxm.symm)) hq
      | 10 => exact absurd rfl hj
      | j + 12 => simp at hfj)
  · exact Idn.FactsG.storeP rfl rfl (by decide) (fun _ _ => rfl) _ _ rfl (by decide) (by decide) rfl (fun _ => rfl) (fun _ => rfl) (fun x wv hSw hd => ⟨hd ⟨9, .data⟩ (by simp) rfl _ rfl, ⟨m1, q1, k1, j1, by simp [Idn.isF, eqF_get (hd ⟨7, .data⟩ (by simp) rfl _ rfl)], ir.later hSw.2.2.2⟩⟩) (fun wv q n p l c n' p' l' c' hSw hq hbx => (by obtain ⟨s1, s2, s3, sB⟩ := hSw; exact ⟨s1.rowOther (by omega) _, s2.rowOther (by omega) _, s3.rowOther (by omega) _, below_setRow sB (by omega) _⟩)) (fun x wv q n p l c hrel hxm hNq hq j f hj hfj hh => by
      match j with
      | 0 => obtain rfl := Option.some.inj hfj; exact eqF_box _ _ _ _ _ n p l c hh hq
      | 1 => obtain rfl := Option.some.inj hfj; exact eqF_box _ _ _ _ _ n p l c hh hq
      | 2 => obtain rfl := Option.some.inj hfj; exact eqF_box _ _ _ _ _ n p l c hh hq
      | 3 => obtain rfl := Option.some.inj hfj; exact eqF_box _ _ _ _ _ n p l c hh hq
      | 4 => obtain rfl := Option.some.inj hfj; exact eqF_box _ _ _ _ _ n p l c hh hq
      | 5 => obtain rfl := Option.some.inj hfj; exact eqF_box _ _ _ _ _ n p l c hh hq
      | 6 => obtain rfl := Option.some.inj hfj; exact eqF_box _ _ _ _ _ n p l c hh hq
      | 7 => obtain rfl := Option.some.inj hfj; exact eqF_box _ _ _ _ _ n p l c hh hq
      | 8 => obtain rfl := Option.some.inj hfj; exact Idn.alF_box _ _ _ _ _ n p l c hh hq
      | 9 => obtain rfl := Option.some.inj hfj; exact Idn.alF_box _ _ _ _ _ n p l c hh hq
      | 10 => obtain rfl := Option.some.inj hfj; exact Idn.sbF_other hh (fun h => hrel ⟨8, .phase⟩ (by simp) rfl ⟨9, .phase⟩ (by simp) rfl (by decide) (by decide) (by decide) (h.trans hxm.symm)) hq
      | 11 => exact absurd rfl hj
      | j + 12 => simp at hfj)
  rintro x w9 ⟨b1, b2, b3, hbel⟩ hf hrel
  have e0 := eqF_get (hf 0 _ (by decide) rfl)
  have e1 := eqF_get (hf 1 _ (by decide) rfl)
  have e2 := eqF_get (hf 2 _ (by decide) rfl)
  have e3 := eqF_get (hf 3 _ (by decide) rfl)
  have e4 := eqF_get (hf 4 _ (by decide) rfl)
  have e5 := eqF_get (hf 5 _ (by decide) rfl)
  have e6 := eqF_get (hf 6 _ (by decide) rfl)
  have e7 := eqF_get (hf 7 _ (by decide) rfl)
  obtain ⟨ql, nx, px, lx, cx, e8, f8, hqql, bql, iql⟩ := Idn.sbF_get (hf 10 _ (by decide) rfl)
  obtain ⟨qr, ny, py, ly, cy, e9, f9, hqqr, bqr, iqr⟩ := Idn.sbF_get (hf 11 _ (by decide) rfl)
  have hnqlqr : ql ≠ qr := by
    intro h
    have := hrel 8 9 (by decide) (by decide) (by decide) (by simp) (by simp)
    rw [e8, e9, h] at this
    exact this rfl
  rw [e3] at f8
  rw [e7] at f9
  simp at f8 f9
  obtain ⟨rfl, rfl, rfl, rfl⟩ := f8
  obtain ⟨rfl, rfl, rfl, rfl⟩ := f9
  clear hf hrel hF hS
  simp only [e0, e1, e2, e3, e4, e5, e6, e7, e8, e9]
  clear e0 e1 e2 e3 e4 e5 e6 e7 e8 e9 x
  go_wp2_with fail
  have hl1 := bql.lt
  have hl2 := bqr.lt
  have hl3 := b3.lt
  clear iql iqr
  have hS : Calm.Stays (fun w' => Bx w' w.heap.size 0 (some ⟨g, o, none⟩) 2 c ∧ Bx w' (w.heap.size + 1) n (some ⟨g', o', none⟩) 2 c' ∧ Bx w' (w.heap.size + 1 + 1) 0 none 0 0 ∧ Bx w' ql m0 q0 k0 j0 ∧ Bx w' qr m1 q1 k1 j1 ∧ w9.heap.size ≤ w'.heap.size ∧ Below w.heap.size w w') := fun wa wb h hb => ⟨h.1.later hb, h.2.1.later hb, h.2.2.1.later hb, h.2.2.2.1.later hb, h.2.2.2.2.1.later hb, Nat.le_trans h.2.2.2.2.2.1 hb.size, below_on h.2.2.2.2.2.2 hb⟩
  have hF : Facts.Stay [eqF 0 (.pointer (some ⟨w.heap.size + 1, 1, none⟩)), eqF 1 (.slice (some ⟨g', o', none⟩) 2 c'), eqF 2 (.pointer (some ⟨g', o', none⟩)), eqF 3 (TV n0 p0 l0 c0), eqF 4 (.pointer (some ⟨w.heap.size + 1, 1, none⟩)), eqF 5 (.slice (some ⟨g', o', none⟩) 2 c'), eqF 6 (.pointer (some ⟨g', o' + 2, none⟩)), eqF 7 (TV n1 p1 l1 c1), alF 8 (w9.heap.size), alF 9 (w9.heap.size), sbF 8 3 (w9.heap.size) a, sbF 9 7 (w9.heap.size) b] := stay_of (by simp only [List.forall_mem_cons]; exact ⟨eqF_stays _ _, eqF_stays _ _, eqF_stays _ _, eqF_stays _ _, eqF_stays _ _, eqF_stays _ _, eqF_stays _ _, eqF_stays _ _, alF_stays _ _, alF_stays _ _, sbF_stays _ _ _ _, sbF_stays _ _ _ _, fun _ h => by cases h⟩)
  refine FactsG.region (by kernel_rfl) (by kernel_rfl) (fun w' => Bx w' w.heap.size 0 (some ⟨g, o, none⟩) 2 c ∧ Bx w' (w.heap.size + 1) n (some ⟨g', o', none⟩) 2 c' ∧ Bx w' (w.heap.size + 1 + 1) 0 none 0 0 ∧ Bx w' ql m0 q0 k0 j0 ∧ Bx w' qr m1 q1 k1 j1 ∧ w9.heap.size ≤ w'.heap.size ∧ Below w.heap.size w w') (fun x => { tmps := #[TV 0 (some { block := g, off := o }) 2 c, TV n (some { block := g', off := o' }) 2 c', Value.pointer (some { block := w.heap.size, off := 0 }), Value.pointer (some { block := w.heap.size + 1, off := 0 }), Value.pointer (some { block := w.heap.size + 1 + 1, off := 0 }), Value.pointer (some { block := ql, off := 0 }), Value.pointer (some { block := qr, off := 0 }), x 8, x 9, TV 0 (some { block := g, off := o }) 2 c, Value.bool false, Value.bool false, Value.pointer (some { block := w.heap.size + 1, off := 1 }), Value.slice (some { block := g', off := o' }) 2 c', Value.int IntKind.i64 2, Value.bool false, Value.bool false, undef, TV 0 (some { block := g, off := o }) 2 c, Value.bool false, undef, undef, undef, Value.pointer (some { block := w.heap.size, off := 1 }), Value.slice (some { block := g, off := o }) 2 c, Value.pointer (some { block := g, off := o }), TV m0 q0 k0 j0, Value.pointer (some { block := w.heap.size, off := 1 }), Value.slice (some { block := g, off := o }) 2 c, Value.pointer (some { block := g, off := o + 2 }), TV m1 q1 k1 j1, x 0, x 1, x 2, x 3, x 4, x 5, x 6, x 7, undef, undef, undef, undef, undef, undef, undef, undef, undef, undef, undef, undef, undef, undef, undef, undef, undef, undef, undef, undef, undef, undef, undef, undef, undef, undef, undef, undef, undef, undef, undef, undef, undef, undef, undef], defers := [] }) [eqF 0 (.pointer (some ⟨w.heap.size + 1, 1, none⟩)), eqF 1 (.slice (some ⟨g', o', none⟩) 2 c'), eqF 2 (.pointer (some ⟨g', o', none⟩)), eqF 3 (TV n0 p0 l0 c0), eqF 4 (.pointer (some ⟨w.heap.size + 1, 1, none⟩)), eqF 5 (.slice (some ⟨g', o', none⟩) 2 c'), eqF 6 (.pointer (some ⟨g', o' + 2, none⟩)), eqF 7 (TV n1 p1 l1 c1), alF 8 (w9.heap.size), alF 9 (w9.heap.size), sbF 8 3 (w9.heap.size) a, sbF 9 7 (w9.heap.size) b] (NotOne [8, 9]) (notOne_symm _) _ rfl rfl (by kernel_rfl) (fun _ => undef) rfl ⟨b1, b2, b3, bql, bqr, Nat.le_refl _, hbel.drew⟩ ⟨?_, ?_, ?_, ?_, ?_, ?_, ?_, ?_, ?_, ?_, ?_, ?_, trivial⟩ ?_
  · exact FactsG.of rfl (fun _ _ _ h => absurd h (by decide)) (fun _ _ _ _ => rfl) (Facts.pure hS hF (fun _ _ => rfl) rfl (fun x wv hSw hd => by
      go_simp))
  · exact FactsG.of rfl (fun _ _ _ h => absurd h (by decide)) (fun _ _ _ _ => rfl) (Facts.pure hS hF (fun _ _ => rfl) rfl (fun x wv hSw hd => by
      have d0 := eqF_get (hd ⟨0, .data⟩ (by simp) rfl _ rfl)
      have g1 := Bx.cell1 hSw.2.1
      simp only [d0]
      go_simp))
  · exact FactsG.of rfl (fun _ _ _ h => absurd h (by decide)) (fun _ _ _ _ => rfl) (Facts.pure hS hF (fun _ _ => rfl) rfl (fun x wv hSw hd => by
      have d1 := eqF_get (hd ⟨1, .data⟩ (by simp) rfl _ rfl)
      simp only [d1]
      go_simp))
  · exact FactsG.of rfl (fun _ _ _ h => absurd h (by decide)) (fun _ _ _ _ => rfl) (Facts.loadT hS hF (fun _ _ => rfl) _ rfl rfl (fun x wv hSw hd => by have d2 := eqF_get (hd ⟨2, .data⟩ (by simp) rfl _ rfl); exact d2) (fun wv hSw => t0.later hSw.2.2.2.2.2.2))
  · exact FactsG.of rfl (fun _ _ _ h => absurd h (by decide)) (fun _ _ _ _ => rfl) (Facts.pure hS hF (fun _ _ => rfl) rfl (fun x wv hSw hd => by
      go_simp))
  · exact FactsG.of rfl (fun _ _ _ h => absurd h (by decide)) (fun _ _ _ _ => rfl) (Facts.pure hS hF (fun _ _ => rfl) rfl (fun x wv hSw hd => by
      have d4 := eqF_get (hd ⟨4, .data⟩ (by simp) rfl _ rfl)
      have g1 := Bx.cell1 hSw.2.1
      simp only [d4]
      go_simp))
  · exact FactsG.of rfl (fun _ _ _ h => absurd h (by decide)) (fun _ _ _ _ => rfl) (Facts.pure hS hF (fun _ _ => rfl) rfl (fun x wv hSw hd => by
      have d5 := eqF_get (hd ⟨5, .data⟩ (by simp) rfl _ rfl)
      simp only [d5]
      go_simp))
  · exact FactsG.of rfl (fun _ _ _ h => absurd h (by decide)) (fun _ _ _ _ => rfl) (Facts.loadT hS hF (fun _ _ => rfl) _ rfl rfl (fun x wv hSw hd => by have d6 := eqF_get (hd ⟨6, .data⟩ (by simp) rfl _ rfl); exact d6) (fun wv hSw => t1.later hSw.2.2.2.2.2.2))
  · exact FactsG.allocT rfl rfl hS hF (fun _ _ => rfl) rfl rfl (fun wv hSw => hSw.2.2.2.2.2.1) (fun j f hfj hj => by simp only [List.mem_cons, List.not_mem_nil, or_false] at hj; rcases hj with rfl | rfl <;> exact ⟨_, (Option.some.inj hfj).symm⟩)
  · exact FactsG.allocT rfl rfl hS hF (fun _ _ => rfl) rfl rfl (fun wv hSw => hSw.2.2.2.2.2.1) (fun j f hfj hj => by simp only [List.mem_cons, List.not_mem_nil, or_false] at hj; rcases hj with rfl | rfl <;> exact ⟨_, (Option.some.inj hfj).symm⟩)
  · exact FactsG.storeP rfl rfl (by decide) (fun _ _ => rfl) _ _ rfl (by decide) (by decide) rfl (fun _ => rfl) (fun _ => rfl) (fun x wv hSw hd => ⟨hd ⟨8, .data⟩ (by simp) rfl _ rfl, ⟨n0, p0, l0, c0, by simp [isF, eqF_get (hd ⟨3, .data⟩ (by simp) rfl _ rfl)], ia.later hSw.2.2.2.2.2.2⟩⟩) (fun wv q n p l c n' p' l' c' hSw hq hbx => (by obtain ⟨s1, s2, s3, s4, s5, s6, sB⟩ := hSw; exact ⟨s1.rowOther (by omega) _, s2.rowOther (by omega) _, s3.rowOther (by omega) _, s4.rowOther (by omega) _, s5.rowOther (by omega) _, (by simpa using s6), below_setRow sB (by omega) _⟩)) (fun x wv q n p l c hrel hxm hNq hq j f hj hfj hh => by
      match j with
      | 0 => obtain rfl := Option.some.inj hfj; exact eqF_box _ _ _ _ _ n p l c hh hq
      | 1 => obtain rfl := Option.some.inj hfj; exact eqF_box _ _ _ _ _ n p l c hh hq
      | 2 => obtain rfl := Option.some.inj hfj; exact eqF_box _ _ _ _ _ n p l c hh hq
      | 3 => obtain rfl := Option.some.inj hfj; exact eqF_box _ _ _ _ _ n p l c hh hq
      | 4 => obtain rfl := Option.some.inj hfj; exact eqF_box _ _ _ _ _ n p l c hh hq
      | 5 => obtain rfl := Option.some.inj hfj; exact eqF_box _ _ _ _ _ n p l c hh hq
      | 6 => obtain rfl := Option.some.inj hfj; exact eqF_box _ _ _ _ _ n p l c hh hq
      | 7 => obtain rfl := Option.some.inj hfj; exact eqF_box _ _ _ _ _ n p l c hh hq
      | 8 => obtain rfl := Option.some.inj hfj; exact alF_box _ _ _ _ _ n p l c hh hq
      | 9 => obtain rfl := Option.some.inj hfj; exact alF_box _ _ _ _ _ n p l c hh hq
      | 11 => obtain rfl := Option.some.inj hfj; exact sbF_other hh (fun h => hrel ⟨9, .phase⟩ (by simp) rfl ⟨8, .phase⟩ (by simp) rfl (by decide) (by decide) (by decide) (h.trans hxm.symm)) hq
      | 10 => exact absurd rfl hj
      | j + 12 => simp at hfj)
  · exact FactsG.storeP rfl rfl (by decide) (fun _ _ => rfl) _ _ rfl (by decide) (by decide) rfl (fun _ => rfl) (fun _ => rfl) (fun x wv hSw hd => ⟨hd ⟨9, .data⟩ (by simp) rfl _ rfl, ⟨n1, p1, l1, c1, by simp [isF, eqF_get (hd ⟨7, .data⟩ (by simp) rfl _ rfl)], ib.later hSw.2.2.2.2.2.2⟩⟩) (fun wv q n p l c n' p' l' c' hSw hq hbx => (by obtain ⟨s1, s2, s3, s4, s5, s6, sB⟩ := hSw; exact ⟨s1.rowOther (by omega) _, s2.rowOther (by omega) _, s3.rowOther (by omega) _, s4.rowOther (by omega) _, s5.rowOther (by omega) _, (by simpa using s6), below_setRow sB (by omega) _⟩)) (fun x wv q n p l c hrel hxm hNq hq j f hj hfj hh => by
      match j with
      | 0 => obtain rfl := Option.some.inj hfj; exact eqF_box _ _ _ _ _ n p l c hh hq
      | 1 => obtain rfl := Option.some.inj hfj; exact eqF_box _ _ _ _ _ n p l c hh hq
      | 2 => obtain rfl := Option.some.inj hfj; exact eqF_box _ _ _ _ _ n p l c hh hq
      | 3 => obtain rfl := Option.some.inj hfj; exact eqF_box _ _ _ _ _ n p l c hh hq
      | 4 => obtain rfl := Option.some.inj hfj; exact eqF_box _ _ _ _ _ n p l c hh hq
      | 5 => obtain rfl := Option.some.inj hfj; exact eqF_box _ _ _ _ _ n p l c hh hq
      | 6 => obtain rfl := Option.some.inj hfj; exact eqF_box _ _ _ _ _ n p l c hh hq
      | 7 => obtain rfl := Option.some.inj hfj; exact eqF_box _ _ _ _ _ n p l c hh hq
      | 8 => obtain rfl := Option.some.inj hfj; exact alF_box _ _ _ _ _ n p l c hh hq
      | 9 => obtain rfl := Option.some.inj hfj; exact alF_box _ _ _ _ _ n p l c hh hq
      | 10 => obtain rfl := Option.some.inj hfj; exact sbF_other hh (fun h => hrel ⟨8, .phase⟩ (by simp) rfl ⟨9, .phase⟩ (by simp) rfl (by decide) (by decide) (by decide) (h.trans hxm.symm)) hq
      | 11 => exact absurd rfl hj
      | j + 12 => simp at hfj)
  rintro x w10 ⟨b1, b2, b3, bql, bqr, hNN, hbel⟩ hf hrel
  have e0 := eqF_get (hf 0 _ (by decide) rfl)
  have e1 := eqF_get (hf 1 _ (by decide) rfl)
  have e2 := eqF_get (hf 2 _ (by decide) rfl)
  have e3 := eqF_get (hf 3 _ (by decide) rfl)
  have e4 := eqF_get (hf 4 _ (by decide) rfl)
  have e5 := eqF_get (hf 5 _ (by decide) rfl)
  have e6 := eqF_get (hf 6 _ (by decide) rfl)
  have e7 := eqF_get (hf 7 _ (by decide) rfl)
  obtain ⟨qa, nx, px, lx, cx, e8, f8, hqqa, bqa, iqa⟩ := sbF_get (hf 10 _ (by decide) rfl)
  obtain ⟨qb, ny, py, ly, cy, e9, f9, hqqb, bqb, iqb⟩ := sbF_get (hf 11 _ (by decide) rfl)
  have hnqaqb : qa ≠ qb := by
    intro h
    have := hrel 8 9 (by decide) (by decide) (by decide) (by simp) (by simp)
    rw [e8, e9, h] at this
    exact this rfl
  rw [e3] at f8
  rw [e7] at f9
  simp at f8 f9
  obtain ⟨rfl, rfl, rfl, rfl⟩ := f8
  obtain ⟨rfl, rfl, rfl, rfl⟩ := f9
  clear hf hrel hF hS
  simp only [e0, e1, e2, e3, e4, e5, e6, e7, e8, e9]
  clear e0 e1 e2 e3 e4 e5 e6 e7 e8 e9 x
  have hd1 : ql ≠ qa ∧ ql ≠ qb ∧ qr ≠ qa ∧ qr ≠ qb := by omega
  have hd2 : w.heap.size + 3 ≤ ql ∧ w.heap.size + 3 ≤ qr ∧ w.heap.size + 3 ≤ qa ∧ w.heap.size + 3 ≤ qb := by omega
  clear hl1 hl2 hl3 hNN u0 u1 t0 t1 ia ib il ir
  go_wp2_with (first | refine load_t _ rfl rfl _ _ rfl bql.tat ?_ | refine load_t _ rfl rfl _ _ rfl bqr.tat ?_)
  refine (a0 _).mono ?_
  rintro e1 w11 ⟨rfl, hb1⟩
  replace b1 := b1.later hb1
  replace b2 := b2.later hb1
  replace b3 := b3.later hb1
  replace bql := bql.later hb1
  replace bqr := bqr.later hb1
  replace bqa := bqa.later hb1
  replace bqb := bqb.later hb1
  replace iqa := iqa.later hb1
  replace iqb := iqb.later hb1
  replace hbel := below_on hbel hb1
  clear hb1
  clear a0
  cases bl
  case' true =>
    simp only [if_true] at HZ
    clear a1 r0 s1
    go_wp2_with (first | refine load_t _ rfl rfl _ _ rfl bql.tat ?_ | refine load_t _ rfl rfl _ _ rfl bqr.tat ?_ | refine load_t _ rfl rfl _ _ rfl bqa.tat ?_ | refine load_t _ rfl rfl _ _ rfl bqb.tat ?_)
    refine (r1 _ hbel).mono ?_
    rintro e1 w12 ⟨nf, pf, lf, cf, rfl, iB, hb1⟩
    replace b1 := b1.later hb1
    replace b2 := b2.later hb1
    replace b3 := b3.later hb1
    replace bql := bql.later hb1
    replace bqr := bqr.later hb1
    replace bqa := bqa.later hb1
    replace bqb := bqb.later hb1
    replace iqa := iqa.later hb1
    replace hbel := below_on hbel hb1
    clear hb1
    have hz := bqb
    replace b1 := Bx.rowOther b1 (q := qb) (by omega) #[.int .i64 nf, .slice pf lf cf]
    replace b2 := Bx.rowOther b2 (q := qb) (by omega) #[.int .i64 nf, .slice pf lf cf]
    replace b3 := Bx.rowOther b3 (q := qb) (by omega) #[.int .i64 nf, .slice pf lf cf]
    replace bql := Bx.rowOther bql (q := qb) (by omega) #[.int .i64 nf, .slice pf lf cf]
    replace bqr := Bx.rowOther bqr (q := qb) (by omega) #[.int .i64 nf, .slice pf lf cf]
    replace bqa := Bx.rowOther bqa (q := qb) (by omega) #[.int .i64 nf, .slice pf lf cf]
    replace iB := iB.box bqb #[.int .i64 nf, .slice pf lf cf]
    replace iqa := iqa.box bqb #[.int .i64 nf, .slice pf lf cf]
    replace hbel := below_setRow hbel (g := qb) (by omega) #[.int .i64 nf, .slice pf lf cf]
    replace bqb := Bx.row bqb nf pf lf cf
    generalize hw : w12.setRow qb #[.int .i64 nf, .slice pf lf cf] = v12 at b1 b2 b3 bql bqr bqa bqb iB iqa hbel
    go_wp2_with (first | rw [hw] | refine store_t rfl _ _ rfl _ nf pf lf cf rfl rfl hz ?_)
    clear hz hw r1 iqa
    have eB : B.n = nf := (is_parts iB).1.symm
    rw [eB] at HZ
    clear eB
    by_cases hlt : ha < nf
    · rw [show max ha nf = nf by omega] at HZ
      have hS : Calm.Stays (fun w' => Bx w' w.heap.size 0 (some ⟨g, o, none⟩) 2 c ∧ Bx w' (w.heap.size + 1) n (some ⟨g', o', none⟩) 2 c' ∧ Bx w' (w.heap.size + 1 + 1) 0 none 0 0 ∧ Bx w' ql m0 q0 k0 j0 ∧ Bx w' qr m1 q1 k1 j1 ∧ Bx w' qa n0 p0 l0 c0 ∧ Bx w' qb nf pf lf cf ∧ Is w' B (TV nf pf lf cf) ∧ Below w.heap.size w w') := fun wa wb h hb => ⟨h.1.later hb, h.2.1.later hb, h.2.2.1.later hb, h.2.2.2.1.later hb, h.2.2.2.2.1.later hb, h.2.2.2.2.2.1.later hb, h.2.2.2.2.2.2.1.later hb, h.2.2.2.2.2.2.2.1.later hb, below_on h.2.2.2.2.2.2.2.2 hb⟩
      have hF : Facts.Stay [eqF 0 (TV n0 p0 l0 c0), eqF 1 (.int .i64 ha), eqF 2 (.pointer (some ⟨qb, 0, none⟩)), eqF 3 (.int .i64 nf), eqF 4 (.int .i64 nf), eqF 5 (TV nf none 0 0)] := stay_of (by simp only [List.forall_mem_cons]; exact ⟨eqF_stays _ _, eqF_stays _ _, eqF_stays _ _, eqF_stays _ _, eqF_stays _ _, eqF_stays _ _, fun _ h => by cases h⟩)
      refine Facts.regionTail (by kernel_rfl) (by kernel_rfl) 6 (by decide) (by kernel_rfl) (fun w' => Bx w' w.heap.size 0 (some ⟨g, o, none⟩) 2 c ∧ Bx w' (w.heap.size + 1) n (some ⟨g', o', none⟩) 2 c' ∧ Bx w' (w.heap.size + 1 + 1) 0 none 0 0 ∧ Bx w' ql m0 q0 k0 j0 ∧ Bx w' qr m1 q1 k1 j1 ∧ Bx w' qa n0 p0 l0 c0 ∧ Bx w' qb nf pf lf cf ∧ Is w' B (TV nf pf lf cf) ∧ Below w.heap.size w w') (fun x => { tmps := #[TV 0 (some { block := g, off := o }) 2 c, TV n (some { block := g', off := o' }) 2 c', Value.pointer (some { block := w.heap.size, off := 0 }), Value.pointer (some { block := w.heap.size + 1, off := 0 }), Value.pointer (some { block := w.heap.size + 1 + 1, off := 0 }), Value.pointer (some { block := ql, off := 0 }), Value.pointer (some { block := qr, off := 0 }), Value.pointer (some { block := qa, off := 0 }), Value.pointer (some { block := qb, off := 0 }), TV 0 (some { block := g, off := o }) 2 c, Value.bool false, Value.bool false, Value.pointer (some { block := w.heap.size + 1, off := 1 }), Value.slice (some { block := g', off := o' }) 2 c', Value.int IntKind.i64 2, Value.bool false, Value.bool false, undef, TV 0 (some { block := g, off := o }) 2 c, Value.bool false, undef, undef, undef, Value.pointer (some { block := w.heap.size, off := 1 }), Value.slice (some { block := g, off := o }) 2 c, Value.pointer (some { block := g, off := o }), TV m0 q0 k0 j0, Value.pointer (some { block := w.heap.size, off := 1 }), Value.slice (some { block := g, off := o }) 2 c, Value.pointer (some { block := g, off := o + 2 }), TV m1 q1 k1 j1, Value.pointer (some { block := w.heap.size + 1, off := 1 }), Value.slice (some { block := g', off := o' }) 2 c', Value.pointer (some { block := g', off := o' }), TV n0 p0 l0 c0, Value.pointer (some { block := w.heap.size + 1, off := 1 }), Value.slice (some { block := g', off := o' }) 2 c', Value.pointer (some { block := g', off := o' + 2 }), TV n1 p1 l1 c1, undef, undef, undef, undef, undef, undef, Value.bool true, TV m0 q0 k0 j0, Value.bool true, TV m1 q1 k1 j1, TV n1 p1 l1 c1, TV nf pf lf cf, x 0, x 1, x 2, x 3, x 4, x 5, undef, undef, undef, undef, undef, undef, undef, undef, undef, undef, undef, undef, undef, undef, undef, undef, undef], defers := [] }) [eqF 0 (TV n0 p0 l0 c0), eqF 1 (.int .i64 ha), eqF 2 (.pointer (some ⟨qb, 0, none⟩)), eqF 3 (.int .i64 nf), eqF 4 (.int .i64 nf), eqF 5 (TV nf none 0 0)] _ rfl rfl (by kernel_rfl) (fun _ => undef) rfl ⟨b1, b2, b3, bql, bqr, bqa, bqb, iB.later (Below.refl _ _).drew, hbel.drew⟩ ⟨?_, ?_, ?_, ?_, ?_, ?_, ?_, trivial⟩ ?_
      · exact fun _ => Facts.loadT hS hF (fun _ _ => rfl) _ rfl rfl (fun x wv hSw hd => by rfl) (fun wv hSw => Bx.tat hSw.2.2.2.2.2.1)
      · refine fun _ => Facts.call1V hS hF (fun _ _ => rfl) rfl (by kernel_rfl) rfl (fun x wv hSw hd => ?_)
        have d0 := eqF_get (hd ⟨0, .data⟩ (by simp) rfl _ rfl)
        have hc := s0 wv hSw.2.2.2.2.2.2.2.2
        rw [← d0] at hc
        exact hc
      · exact fun _ => Facts.pure hS hF (fun _ _ => rfl) rfl (fun x wv hSw hd => by
          go_simp)
      · exact fun _ => Facts.pure hS hF (fun _ _ => rfl) rfl (fun x wv hSw hd => by
          have d2 := eqF_get (hd ⟨2, .data⟩ (by simp) rfl _ rfl)
          have g0 := Bx.cell0 hSw.2.2.2.2.2.2.1
          simp only [d2]
          go_simp)
      · exact fun _ => Facts.pure hS hF (fun _ _ => rfl) rfl (fun x wv hSw hd => by
          have d1 := eqF_get (hd ⟨1, .data⟩ (by simp) rfl _ rfl)
          have d3 := eqF_get (hd ⟨3, .data⟩ (by simp) rfl _ rfl)
          simp only [d1, d3]
          go_simp)
      · refine fun _ => Facts.call1V hS hF (fun _ _ => rfl) rfl (by kernel_rfl) rfl (fun x wv hSw hd => ?_)
        have d4 := eqF_get (hd ⟨4, .data⟩ (by simp) rfl _ rfl)
        have hc := refLeaf_any nf wv
        rw [← d4] at hc
        exact hc
      · exact fun h => absurd h (by decide)
      rintro x w13 ⟨b1, b2, b3, bql, bqr, bqa, bqb, iB, hbel⟩ hf
      have e0 := eqF_get (hf 0 _ rfl)
      have e1 := eqF_get (hf 1 _ rfl)
      have e2 := eqF_get (hf 2 _ rfl)
      have e3 := eqF_get (hf 3 _ rfl)
      have e4 := eqF_get (hf 4 _ rfl)
      have e5 := eqF_get (hf 5 _ rfl)
      simp only [e0, e1, e2, e3, e4, e5]
      clear hf e0 e1 e2 e3 e4 e5 hF hS x
      refine wp_store_t _ _ rfl qa nf none 0 0 rfl rfl bqa ?_
      replace b1 := Bx.rowOther b1 (q := qa) (by omega) #[.int .i64 nf, .slice none 0 0]
      replace b2 := Bx.rowOther b2 (q := qa) (by omega) #[.int .i64 nf, .slice none 0 0]
      replace b3 := Bx.rowOther b3 (q := qa) (by omega) #[.int .i64 nf, .slice none 0 0]
      replace bql := Bx.rowOther bql (q := qa) (by omega) #[.int .i64 nf, .slice none 0 0]
      replace bqr := Bx.rowOther bqr (q := qa) (by omega) #[.int .i64 nf, .slice none 0 0]
      replace bqb := Bx.rowOther bqb (q := qa) (by omega) #[.int .i64 nf, .slice none 0 0]
      replace iB := iB.box bqa #[.int .i64 nf, .slice none 0 0]
      replace hbel := below_setRow hbel (g := qa) (by omega) #[.int .i64 nf, .slice none 0 0]
      replace bqa := Bx.row bqa nf none 0 0
      generalize w13.setRow qa #[.int .i64 nf, .slice none 0 0] = v13 at *
      have iA2 := is_leaf v13 nf none 0
      refine Facts.tailWp_nil ?_
      have gc0 := b2.cell0
      go_wp2_with (first | refine load_t _ rfl rfl _ _ rfl bqa.tat ?_ | refine load_t _ rfl rfl _ _ rfl bqb.tat ?_)
      refine (rnode_any n (.leaf nf) B _ _ _ _ _ _ _ _ _ iA2 iB (HR.out _ _ HZ.out) hn).mono ?_
      rintro e1 w20 ⟨nz, pz, lz, cz, rfl, iz, hb1⟩
      replace b3 := b3.later hb1
      replace hbel := below_on hbel hb1
      rw [norm_n, ← HZ.out] at iz
      have R := below_setRow hbel (g := w.heap.size + 1 + 1) (by omega) #[.int .i64 nz, .slice pz lz cz]
      clear hb1 hbel HR HZ
      go_wp2_with (refine store_t rfl _ _ rfl _ nz pz lz cz rfl rfl b3 ?_)
      exact bodyPost_ret (results_t rfl rfl (b3.row _ _ _ _)) rfl ⟨_, _, _, _, rfl, iz.box b3 _, R⟩
    · rw [show max ha nf = ha by omega] at HZ
      have hS : Calm.Stays (fun w' => Bx w' w.heap.size 0 (some ⟨g, o, none⟩) 2 c ∧ Bx w' (w.heap.size + 1) n (some ⟨g', o', none⟩) 2 c' ∧ Bx w' (w.heap.size + 1 + 1) 0 none 0 0 ∧ Bx w' ql m0 q0 k0 j0 ∧ Bx w' qr m1 q1 k1 j1 ∧ Bx w' qa n0 p0 l0 c0 ∧ Bx w' qb nf pf lf cf ∧ Is w' B (TV nf pf lf cf) ∧ Below w.heap.size w w') := fun wa wb h hb => ⟨h.1.later hb, h.2.1.later hb, h.2.2.1.later hb, h.2.2.2.1.later hb, h.2.2.2.2.1.later hb, h.2.2.2.2.2.1.later hb, h.2.2.2.2.2.2.1.later hb, h.2.2.2.2.2.2.2.1.later hb, below_on h.2.2.2.2.2.2.2.2 hb⟩
      have hF : Facts.Stay [eqF 0 (TV n0 p0 l0 c0), eqF 1 (.int .i64 ha), eqF 2 (.pointer (some ⟨qb, 0, none⟩)), eqF 3 (.int .i64 nf), eqF 4 (.int .i64 ha), eqF 5 (TV ha none 0 0)] := stay_of (by simp only [List.forall_mem_cons]; exact ⟨eqF_stays _ _, eqF_stays _ _, eqF_stays _ _, eqF_stays _ _, eqF_stays _ _, eqF_stays _ _, fun _ h => by cases h⟩)
      refine Facts.regionTail (by kernel_rfl) (by kernel_rfl) 6 (by decide) (by kernel_rfl) (fun w' => Bx w' w.heap.size 0 (some ⟨g, o, none⟩) 2 c ∧ Bx w' (w.heap.size + 1) n (some ⟨g', o', none⟩) 2 c' ∧ Bx w' (w.heap.size + 1 + 1) 0 none 0 0 ∧ Bx w' ql m0 q0 k0 j0 ∧ Bx w' qr m1 q1 k1 j1 ∧ Bx w' qa n0 p0 l0 c0 ∧ Bx w' qb nf pf lf cf ∧ Is w' B (TV nf pf lf cf) ∧ Below w.heap.size w w') (fun x => { tmps := #[TV 0 (some { block := g, off := o }) 2 c, TV n (some { block := g', off := o' }) 2 c', Value.pointer (some { block := w.heap.size, off := 0 }), Value.pointer (some { block := w.heap.size + 1, off := 0 }), Value.pointer (some { block := w.heap.size + 1 + 1, off := 0 }), Value.pointer (some { block := ql, off := 0 }), Value.pointer (some { block := qr, off := 0 }), Value.pointer (some { block := qa, off := 0 }), Value.pointer (some { block := qb, off := 0 }), TV 0 (some { block := g, off := o }) 2 c, Value.bool false, Value.bool false, Value.pointer (some { block := w.heap.size + 1, off := 1 }), Value.slice (some { block := g', off := o' }) 2 c', Value.int IntKind.i64 2, Value.bool false, Value.bool false, undef, TV 0 (some { block := g, off := o }) 2 c, Value.bool false, undef, undef, undef, Value.pointer (some { block := w.heap.size, off := 1 }), Value.slice (some { block := g, off := o }) 2 c, Value.pointer (some { block := g, off := o }), TV m0 q0 k0 j0, Value.pointer (some { block := w.heap.size, off := 1 }), Value.slice (some { block := g, off := o }) 2 c, Value.pointer (some { block := g, off := o + 2 }), TV m1 q1 k1 j1, Value.pointer (some { block := w.heap.size + 1, off := 1 }), Value.slice (some { block := g', off := o' }) 2 c', Value.pointer (some { block := g', off := o' }), TV n0 p0 l0 c0, Value.pointer (some { block := w.heap.size + 1, off := 1 }), Value.slice (some { block := g', off := o' }) 2 c', Value.pointer (some { block := g', off := o' + 2 }), TV n1 p1 l1 c1, undef, undef, undef, undef, undef, undef, Value.bool true, TV m0 q0 k0 j0, Value.bool true, TV m1 q1 k1 j1, TV n1 p1 l1 c1, TV nf pf lf cf, x 0, x 1, x 2, x 3, x 4, x 5, undef, undef, undef, undef, undef, undef, undef, undef, undef, undef, undef, undef, undef, undef, undef, undef, undef], defers := [] }) [eqF 0 (TV n0 p0 l0 c0), eqF 1 (.int .i64 ha), eqF 2 (.pointer (some ⟨qb, 0, none⟩)), eqF 3 (.int .i64 nf), eqF 4 (.int .i64 ha), eqF 5 (TV ha none 0 0)] _ rfl rfl (by kernel_rfl) (fun _ => undef) rfl ⟨b1, b2, b3, bql, bqr, bqa, bqb, iB.later (Below.refl _ _).drew, hbel.drew⟩ ⟨?_, ?_, ?_, ?_, ?_, ?_, ?_, trivial⟩ ?_
      · exact fun _ => Facts.loadT hS hF (fun _ _ => rfl) _ rfl rfl (fun x wv hSw hd => by rfl) (fun wv hSw => Bx.tat hSw.2.2.2.2.2.1)
      · refine fun _ => Facts.call1V hS hF (fun _ _ => rfl) rfl (by kernel_rfl) rfl (fun x wv hSw hd => ?_)
        have d0 := eqF_get (hd ⟨0, .data⟩ (by simp) rfl _ rfl)
        have hc := s0 wv hSw.2.2.2.2.2.2.2.2
        rw [← d0] at hc
        exact hc
      · exact fun _ => Facts.pure hS hF (fun _ _ => rfl) rfl (fun x wv hSw hd => by
          go_simp)
      · exact fun _ => Facts.pure hS hF (fun _ _ => rfl) rfl (fun x wv hSw hd => by
          have d2 := eqF_get (hd ⟨2, .data⟩ (by simp) rfl _ rfl)
          have g0 := Bx.cell0 hSw.2.2.2.2.2.2.1
          simp only [d2]
          go_simp)
      · exact fun _ => Facts.pure hS hF (fun _ _ => rfl) rfl (fun x wv hSw hd => by
          have d1 := eqF_get (hd ⟨1, .data⟩ (by simp) rfl _ rfl)
          have d3 := eqF_get (hd ⟨3, .data⟩ (by simp) rfl _ rfl)
          simp only [d1, d3]
          go_simp)
      · refine fun _ => Facts.call1V hS hF (fun _ _ => rfl) rfl (by kernel_rfl) rfl (fun x wv hSw hd => ?_)
        have d4 := eqF_get (hd ⟨4, .data⟩ (by simp) rfl _ rfl)
        have hc := refLeaf_any ha wv
        rw [← d4] at hc
        exact hc
      · exact fun h => absurd h (by decide)
      rintro x w13 ⟨b1, b2, b3, bql, bqr, bqa, bqb, iB, hbel⟩ hf
      have e0 := eqF_get (hf 0 _ rfl)
      have e1 := eqF_get (hf 1 _ rfl)
      have e2 := eqF_get (hf 2 _ rfl)
      have e3 := eqF_get (hf 3 _ rfl)
      have e4 := eqF_get (hf 4 _ rfl)
      have e5 := eqF_get (hf 5 _ rfl)
      simp only [e0, e1, e2, e3, e4, e5]
      clear hf e0 e1 e2 e3 e4 e5 hF hS x
      refine wp_store_t _ _ rfl qa ha none 0 0 rfl rfl bqa ?_
      replace b1 := Bx.rowOther b1 (q := qa) (by omega) #[.int .i64 ha, .slice none 0 0]
      replace b2 := Bx.rowOther b2 (q := qa) (by omega) #[.int .i64 ha, .slice none 0 0]
      replace b3 := Bx.rowOther b3 (q := qa) (by omega) #[.int .i64 ha, .slice none 0 0]
      replace bql := Bx.rowOther bql (q := qa) (by omega) #[.int .i64 ha, .slice none 0 0]
      replace bqr := Bx.rowOther bqr (q := qa) (by omega) #[.int .i64 ha, .slice none 0 0]
      replace bqb := Bx.rowOther bqb (q := qa) (by omega) #[.int .i64 ha, .slice none 0 0]
      replace iB := iB.box bqa #[.int .i64 ha, .slice none 0 0]
      replace hbel := below_setRow hbel (g := qa) (by omega) #[.int .i64 ha, .slice none 0 0]
      replace bqa := Bx.row bqa ha none 0 0
      generalize w13.setRow qa #[.int .i64 ha, .slice none 0 0] = v13 at *
      have iA2 := is_leaf v13 ha none 0
      refine Facts.tailWp_nil ?_
      have gc0 := b2.cell0
      go_wp2_with (first | refine load_t _ rfl rfl _ _ rfl bqa.tat ?_ | refine load_t _ rfl rfl _ _ rfl bqb.tat ?_)
      refine (rnode_any n (.leaf ha) B _ _ _ _ _ _ _ _ _ iA2 iB (HR.out _ _ HZ.out) hn).mono ?_
      rintro e1 w20 ⟨nz, pz, lz, cz, rfl, iz, hb1⟩
      replace b3 := b3.later hb1
      replace hbel := below_on hbel hb1
      rw [norm_n, ← HZ.out] at iz
      have R := below_setRow hbel (g := w.heap.size + 1 + 1) (by omega) #[.int .i64 nz, .slice pz lz cz]
      clear hb1 hbel HR HZ
      go_wp2_with (refine store_t rfl _ _ rfl _ nz pz lz cz rfl rfl b3 ?_)
      exact bodyPost_ret (results_t rfl rfl (b3.row _ _ _ _)) rfl ⟨_, _, _, _, rfl, iz.box b3 _, R⟩
  case' false =>
    simp only [Bool.false_eq_true, if_false] at HZ
    go_wp2_with (first | refine load_t _ rfl rfl _ _ rfl bql.tat ?_ | refine load_t _ rfl rfl _ _ rfl bqr.tat ?_)
    refine (a1 _).mono ?_
    rintro e1 w14 ⟨rfl, hb1⟩
    replace b1 := b1.later hb1
    replace b2 := b2.later hb1
    replace b3 := b3.later hb1
    replace bql := bql.later hb1
    replace bqr := bqr.later hb1
    replace bqa := bqa.later hb1
    replace bqb := bqb.later hb1
    replace iqa := iqa.later hb1
    replace iqb := iqb.later hb1
    replace hbel := below_on hbel hb1
    clear hb1
    clear a1
    cases br
    case' true =>
      simp only [if_true] at HZ
      clear r1 s0
      go_wp2_with (first | refine load_t _ rfl rfl _ _ rfl bql.tat ?_ | refine load_t _ rfl rfl _ _ rfl bqr.tat ?_ | refine load_t _ rfl rfl _ _ rfl bqa.tat ?_ | refine load_t _ rfl rfl _ _ rfl bqb.tat ?_)
      refine (r0 _ hbel).mono ?_
      rintro e1 w12 ⟨nf, pf, lf, cf, rfl, iA, hb1⟩
      replace b1 := b1.later hb1
      replace b2 := b2.later hb1
      replace b3 := b3.later hb1
      replace bql := bql.later hb1
      replace bqr := bqr.later hb1
      replace bqa := bqa.later hb1
      replace bqb := bqb.later hb1
      replace iqb := iqb.later hb1
      replace hbel := below_on hbel hb1
      clear hb1
      have hz := bqa
      replace b1 := Bx.rowOther b1 (q := qa) (by omega) #[.int .i64 nf, .slice pf lf cf]
      replace b2 := Bx.rowOther b2 (q := qa) (by omega) #[.int .i64 nf, .slice pf lf cf]
      replace b3 := Bx.rowOther b3 (q := qa) (by omega) #[.int .i64 nf, .slice pf lf cf]
      replace bql := Bx.rowOther bql (q := qa) (by omega) #[.int .i64 nf, .slice pf lf cf]
      replace bqr := Bx.rowOther bqr (q := qa) (by omega) #[.int .i64 nf, .slice pf lf cf]
      replace bqb := Bx.rowOther bqb (q := qa) (by omega) #[.int .i64 nf, .slice pf lf cf]
      replace iA := iA.box bqa #[.int .i64 nf, .slice pf lf cf]
      replace iqb := iqb.box bqa #[.int .i64 nf, .slice pf lf cf]
      replace hbel := below_setRow hbel (g := qa) (by omega) #[.int .i64 nf, .slice pf lf cf]
      replace bqa := Bx.row bqa nf pf lf cf
      generalize hw : w12.setRow qa #[.int .i64 nf, .slice pf lf cf] = v12 at b1 b2 b3 bql bqr bqa bqb iA iqb hbel
      go_wp2_with (first | rw [hw] | refine store_t rfl _ _ rfl _ nf pf lf cf rfl rfl hz ?_)
      clear hz hw r0 iqb
      have eA : A.n = nf := (is_parts iA).1.symm
      rw [eA] at HZ
      clear eA
      by_cases hlt : hb < nf
      · rw [show max hb nf = nf by omega] at HZ
        have hS : Calm.Stays (fun w' => Bx w' w.heap.size 0 (some ⟨g, o, none⟩) 2 c ∧ Bx w' (w.heap.size + 1) n (some ⟨g', o', none⟩) 2 c' ∧ Bx w' (w.heap.size + 1 + 1) 0 none 0 0 ∧ Bx w' ql m0 q0 k0 j0 ∧ Bx w' qr m1 q1 k1 j1 ∧ Bx w' qa nf pf lf cf ∧ Bx w' qb n1 p1 l1 c1 ∧ Is w' A (TV nf pf lf cf) ∧ Below w.heap.size w w') := fun wa wb h hb => ⟨h.1.later hb, h.2.1.later hb, h.2.2.1.later hb, h.2.2.2.1.later hb, h.2.2.2.2.1.later hb, h.2.2.2.2.2.1.later hb, h.2.2.2.2.2.2.1.later hb, h.2.2.2.2.2.2.2.1.later hb, below_on h.2.2.2.2.2.2.2.2 hb⟩
        have hF : Facts.Stay [eqF 0 (TV n1 p1 l1 c1), eqF 1 (.int .i64 hb), eqF 2 (.pointer (some ⟨qa, 0, none⟩)), eqF 3 (.int .i64 nf), eqF 4 (.int .i64 nf), eqF 5 (TV nf none 0 0)] := stay_of (by simp only [List.forall_mem_cons]; exact ⟨eqF_stays _ _, eqF_stays _ _, eqF_stays _ _, eqF_stays _ _, eqF_stays _ _, eqF_stays _ _, fun _ h => by cases h⟩)
        refine Facts.regionTail (by kernel_rfl) (by kernel_rfl) 6 (by decide) (by kernel_rfl) (fun w' => Bx w' w.heap.size 0 (some ⟨g, o, none⟩) 2 c ∧ Bx w' (w.heap.size + 1) n (some ⟨g', o', none⟩) 2 c' ∧ Bx w' (w.heap.size + 1 + 1) 0 none 0 0 ∧ Bx w' ql m0 q0 k0 j0 ∧ Bx w' qr m1 q1 k1 j1 ∧ Bx w' qa nf pf lf cf ∧ Bx w' qb n1 p1 l1 c1 ∧ Is w' A (TV nf pf lf cf) ∧ Below w.heap.size w w') (fun x => { tmps := #[TV 0 (some { block := g, off := o }) 2 c, TV n (some { block := g', off := o' }) 2 c', Value.pointer (some { block := w.heap.size, off := 0 }), Value.pointer (some { block := w.heap.size + 1, off := 0 }), Value.pointer (some { block := w.heap.size + 1 + 1, off := 0 }), Value.pointer (some { block := ql, off := 0 }), Value.pointer (some { block := qr, off := 0 }), Value.pointer (some { block := qa, off := 0 }), Value.pointer (some { block := qb, off := 0 }), TV 0 (some { block := g, off := o }) 2 c, Value.bool false, Value.bool false, Value.pointer (some { block := w.heap.size + 1, off := 1 }), Value.slice (some { block := g', off := o' }) 2 c', Value.int IntKind.i64 2, Value.bool false, Value.bool false, undef, TV 0 (some { block := g, off := o }) 2 c, Value.bool false, undef, undef, undef, Value.pointer (some { block := w.heap.size, off := 1 }), Value.slice (some { block := g, off := o }) 2 c, Value.pointer (some { block := g, off := o }), TV m0 q0 k0 j0, Value.pointer (some { block := w.heap.size, off := 1 }), Value.slice (some { block := g, off := o }) 2 c, Value.pointer (some { block := g, off := o + 2 }), TV m1 q1 k1 j1, Value.pointer (some { block := w.heap.size + 1, off := 1 }), Value.slice (some { block := g', off := o' }) 2 c', Value.pointer (some { block := g', off := o' }), TV n0 p0 l0 c0, Value.pointer (some { block := w.heap.size + 1, off := 1 }), Value.slice (some { block := g', off := o' }) 2 c', Value.pointer (some { block := g', off := o' + 2 }), TV n1 p1 l1 c1, undef, undef, undef, undef, undef, undef, Value.bool false, TV m0 q0 k0 j0, Value.bool false, undef, undef, undef, undef, undef, undef, undef, undef, undef, Value.bool true, TV m1 q1 k1 j1, Value.bool true, TV m0 q0 k0 j0, TV n0 p0 l0 c0, TV nf pf lf cf, x 0, x 1, x 2, x 3, x 4, x 5, undef, undef, undef, undef, undef], defers := [] }) [eqF 0 (TV n1 p1 l1 c1), eqF 1 (.int .i64 hb), eqF 2 (.pointer (some ⟨qa, 0, none⟩)), eqF 3 (.int .i64 nf), eqF 4 (.int .i64 nf), eqF 5 (TV nf none 0 0)] _ rfl rfl (by kernel_rfl) (fun _ => undef) rfl ⟨b1, b2, b3, bql, bqr, bqa, bqb, iA.later (Below.refl _ _).drew, hbel.drew⟩ ⟨?_, ?_, ?_, ?_, ?_, ?_, ?_, trivial⟩ ?_
        · exact fun _ => Facts.loadT hS hF (fun _ _ => rfl) _ rfl rfl (fun x wv hSw hd => by rfl) (fun wv hSw => Bx.tat hSw.2.2.2.2.2.2.1)
        · refine fun _ => Facts.call1V hS hF (fun _ _ => rfl) rfl (by kernel_rfl) rfl (fun x wv hSw hd => ?_)
          have d0 := eqF_get (hd ⟨0, .data⟩ (by simp) rfl _ rfl)
          have hc := s1 wv hSw.2.2.2.2.2.2.2.2
          rw [← d0] at hc
          exact hc
        · exact fun _ => Facts.pure hS hF (fun _ _ => rfl) rfl (fun x wv hSw hd => by
            go_simp)
        · exact fun _ => Facts.pure hS hF (fun _ _ => rfl) rfl (fun x wv hSw hd => by
            have d2 := eqF_get (hd ⟨2, .data⟩ (by simp) rfl _ rfl)
            have g0 := Bx.cell0 hSw.2.2.2.2.2.1
            simp only [d2]
            go_simp)
        · exact fun _ => Facts.pure hS hF (fun _ _ => rfl) rfl (fun x wv hSw hd => by
            have d1 := eqF_get (hd ⟨1, .data⟩ (by simp) rfl _ rfl)
            have d3 := eqF_get (hd ⟨3, .data⟩ (by simp) rfl _ rfl)
            simp only [d1, d3]
            go_simp)
        · refine fun _ => Facts.call1V hS hF (fun _ _ => rfl) rfl (by kernel_rfl) rfl (fun x wv hSw hd => ?_)
          have d4 := eqF_get (hd ⟨4, .data⟩ (by simp) rfl _ rfl)
          have hc := refLeaf_any nf wv
          rw [← d4] at hc
          exact hc
        · exact fun h => absurd h (by decide)
        rintro x w13 ⟨b1, b2, b3, bql, bqr, bqa, bqb, iA, hbel⟩ hf
        have e0 := eqF_get (hf 0 _ rfl)
        have e1 := eqF_get (hf 1 _ rfl)
        have e2 := eqF_get (hf 2 _ rfl)
        have e3 := eqF_get (hf 3 _ rfl)
        have e4 := eqF_get (hf 4 _ rfl)
        have e5 := eqF_get (hf 5 _ rfl)
        simp only [e0, e1, e2, e3, e4, e5]
        clear hf e0 e1 e2 e3 e4 e5 hF hS x
        refine wp_store_t _ _ rfl qb nf none 0 0 rfl rfl bqb ?_
        replace b1 := Bx.rowOther b1 (q := qb) (by omega) #[.int .i64 nf, .slice none 0 0]
        replace b2 := Bx.rowOther b2 (q := qb) (by omega) #[.int .i64 nf, .slice none 0 0]
        replace b3 := Bx.rowOther b3 (q := qb) (by omega) #[.int .i64 nf, .slice none 0 0]
        replace bql := Bx.rowOther bql (q := qb) (by omega) #[.int .i64 nf, .slice none 0 0]
        replace bqr := Bx.rowOther bqr (q := qb) (by omega) #[.int .i64 nf, .slice none 0 0]
        replace bqa := Bx.rowOther bqa (q := qb) (by omega) #[.int .i64 nf, .slice none 0 0]
        replace iA := iA.box bqb #[.int .i64 nf, .slice none 0 0]
        replace hbel := below_setRow hbel (g := qb) (by omega) #[.int .i64 nf, .slice none 0 0]
        replace bqb := Bx.row bqb nf none 0 0
        generalize w13.setRow qb #[.int .i64 nf, .slice none 0 0] = v13 at *
        have iB2 := is_leaf v13 nf none 0
        refine Facts.tailWp_nil ?_
        have gc0 := b2.cell0
        go_wp2_with (first | refine load_t _ rfl rfl _ _ rfl bqa.tat ?_ | refine load_t _ rfl rfl _ _ rfl bqb.tat ?_)
        refine (rnode_any n A (.leaf nf) _ _ _ _ _ _ _ _ _ iA iB2 (HR.out _ _ HZ.out) hn).mono ?_
        rintro e1 w20 ⟨nz, pz, lz, cz, rfl, iz, hb1⟩
        replace b3 := b3.later hb1
        replace hbel := below_on hbel hb1
        rw [norm_n, ← HZ.out] at iz
        have R := below_setRow hbel (g := w.heap.size + 1 + 1) (by omega) #[.int .i64 nz, .slice pz lz cz]
        clear hb1 hbel HR HZ
        go_wp2_with (refine store_t rfl _ _ rfl _ nz pz lz cz rfl rfl b3 ?_)
        exact bodyPost_ret (results_t rfl rfl (b3.row _ _ _ _)) rfl ⟨_, _, _, _, rfl, iz.box b3 _, R⟩
      · rw [show max hb nf = hb by omega] at HZ
        have hS : Calm.Stays (fun w' => Bx w' w.heap.size 0 (some ⟨g, o, none⟩) 2 c ∧ Bx w' (w.heap.size + 1) n (some ⟨g', o', none⟩) 2 c' ∧ Bx w' (w.heap.size + 1 + 1) 0 none 0 0 ∧ Bx w' ql m0 q0 k0 j0 ∧ Bx w' qr m1 q1 k1 j1 ∧ Bx w' qa nf pf lf cf ∧ Bx w' qb n1 p1 l1 c1 ∧ Is w' A (TV nf pf lf cf) ∧ Below w.heap.size w w') := fun wa wb h hb => ⟨h.1.later hb, h.2.1.later hb, h.2.2.1.later hb, h.2.2.2.1.later hb, h.2.2.2.2.1.later hb, h.2.2.2.2.2.1.later hb, h.2.2.2.2.2.2.1.later hb, h.2.2.2.2.2.2.2.1.later hb, below_on h.2.2.2.2.2.2.2.2 hb⟩
        have hF : Facts.Stay [eqF 0 (TV n1 p1 l1 c1), eqF 1 (.int .i64 hb), eqF 2 (.pointer (some ⟨qa, 0, none⟩)), eqF 3 (.int .i64 nf), eqF 4 (.int .i64 hb), eqF 5 (TV hb none 0 0)] := stay_of (by simp only [List.forall_mem_cons]; exact ⟨eqF_stays _ _, eqF_stays _ _, eqF_stays _ _, eqF_stays _ _, eqF_stays _ _, eqF_stays _ _, fun _ h => by cases h⟩)
        refine Facts.regionTail (by kernel_rfl) (by kernel_rfl) 6 (by decide) (by kernel_rfl) (fun w' => Bx w' w.heap.size 0 (some ⟨g, o, none⟩) 2 c ∧ Bx w' (w.heap.size + 1) n (some ⟨g', o', none⟩) 2 c' ∧ Bx w' (w.heap.size + 1 + 1) 0 none 0 0 ∧ Bx w' ql m0 q0 k0 j0 ∧ Bx w' qr m1 q1 k1 j1 ∧ Bx w' qa nf pf lf cf ∧ Bx w' qb n1 p1 l1 c1 ∧ Is w' A (TV nf pf lf cf) ∧ Below w.heap.size w w') (fun x => { tmps := #[TV 0 (some { block := g, off := o }) 2 c, TV n (some { block := g', off := o' }) 2 c', Value.pointer (some { block := w.heap.size, off := 0 }), Value.pointer (some { block := w.heap.size + 1, off := 0 }), Value.pointer (some { block := w.heap.size + 1 + 1, off := 0 }), Value.pointer (some { block := ql, off := 0 }), Value.pointer (some { block := qr, off := 0 }), Value.pointer (some { block := qa, off := 0 }), Value.pointer (some { block := qb, off := 0 }), TV 0 (some { block := g, off := o }) 2 c, Value.bool false, Value.bool false, Value.pointer (some { block := w.heap.size + 1, off := 1 }), Value.slice (some { block := g', off := o' }) 2 c', Value.int IntKind.i64 2, Value.bool false, Value.bool false, undef, TV 0 (some { block := g, off := o }) 2 c, Value.bool false, undef, undef, undef, Value.pointer (some { block := w.heap.size, off := 1 }), Value.slice (some { block := g, off := o }) 2 c, Value.pointer (some { block := g, off := o }), TV m0 q0 k0 j0, Value.pointer (some { block := w.heap.size, off := 1 }), Value.slice (some { block := g, off := o }) 2 c, Value.pointer (some { block := g, off := o + 2 }), TV m1 q1 k1 j1, Value.pointer (some { block := w.heap.size + 1, off := 1 }), Value.slice (some { block := g', off := o' }) 2 c', Value.pointer (some { block := g', off := o' }), TV n0 p0 l0 c0, Value.pointer (some { block := w.heap.size + 1, off := 1 }), Value.slice (some { block := g', off := o' }) 2 c', Value.pointer (some { block := g', off := o' + 2 }), TV n1 p1 l1 c1, undef, undef, undef, undef, undef, undef, Value.bool false, TV m0 q0 k0 j0, Value.bool false, undef, undef, undef, undef, undef, undef, undef, undef, undef, Value.bool true, TV m1 q1 k1 j1, Value.bool true, TV m0 q0 k0 j0, TV n0 p0 l0 c0, TV nf pf lf cf, x 0, x 1, x 2, x 3, x 4, x 5, undef, undef, undef, undef, undef], defers := [] }) [eqF 0 (TV n1 p1 l1 c1), eqF 1 (.int .i64 hb), eqF 2 (.pointer (some ⟨qa, 0, none⟩)), eqF 3 (.int .i64 nf), eqF 4 (.int .i64 hb), eqF 5 (TV hb none 0 0)] _ rfl rfl (by kernel_rfl) (fun _ => undef) rfl ⟨b1, b2, b3, bql, bqr, bqa, bqb, iA.later (Below.refl _ _).drew, hbel.drew⟩ ⟨?_, ?_, ?_, ?_, ?_, ?_, ?_, trivial⟩ ?_
        · exact fun _ => Facts.loadT hS hF (fun _ _ => rfl) _ rfl rfl (fun x wv hSw hd => by rfl) (fun wv hSw => Bx.tat hSw.2.2.2.2.2.2.1)
        · refine fun _ => Facts.call1V hS hF (fun _ _ => rfl) rfl (by kernel_rfl) rfl (fun x wv hSw hd => ?_)
          have d0 := eqF_get (hd ⟨0, .data⟩ (by simp) rfl _ rfl)
          have hc := s1 wv hSw.2.2.2.2.2.2.2.2
          rw [← d0] at hc
          exact hc
        · exact fun _ => Facts.pure hS hF (fun _ _ => rfl) rfl (fun x wv hSw hd => by
            go_simp)
        · exact fun _ => Facts.pure hS hF (fun _ _ => rfl) rfl (fun x wv hSw hd => by
            have d2 := eqF_get (hd ⟨2, .data⟩ (by simp) rfl _ rfl)
            have g0 := Bx.cell0 hSw.2.2.2.2.2.1
            simp only [d2]
            go_simp)
        · exact fun _ => Facts.pure hS hF (fun _ _ => rfl) rfl (fun x wv hSw hd => by
            have d1 := eqF_get (hd ⟨1, .data⟩ (by simp) rfl _ rfl)
            have d3 := eqF_get (hd ⟨3, .data⟩ (by simp) rfl _ rfl)
            simp only [d1, d3]
            go_simp)
        · refine fun _ => Facts.call1V hS hF (fun _ _ => rfl) rfl (by kernel_rfl) rfl (fun x wv hSw hd => ?_)
          have d4 := eqF_get (hd ⟨4, .data⟩ (by simp) rfl _ rfl)
          have hc := refLeaf_any hb wv
          rw [← d4] at hc
          exact hc
        · exact fun h => absurd h (by decide)
        rintro x w13 ⟨b1, b2, b3, bql, bqr, bqa, bqb, iA, hbel⟩ hf
        have e0 := eqF_get (hf 0 _ rfl)
        have e1 := eqF_get (hf 1 _ rfl)
        have e2 := eqF_get (hf 2 _ rfl)
        have e3 := eqF_get (hf 3 _ rfl)
        have e4 := eqF_get (hf 4 _ rfl)
        have e5 := eqF_get (hf 5 _ rfl)
        simp only [e0, e1, e2, e3, e4, e5]
        clear hf e0 e1 e2 e3 e4 e5 hF hS x
        refine wp_store_t _ _ rfl qb hb none 0 0 rfl rfl bqb ?_
        replace b1 := Bx.rowOther b1 (q := qb) (by omega) #[.int .i64 hb, .slice none 0 0]
        replace b2 := Bx.rowOther b2 (q := qb) (by omega) #[.int .i64 hb, .slice none 0 0]
        replace b3 := Bx.rowOther b3 (q := qb) (by omega) #[.int .i64 hb, .slice none 0 0]
        replace bql := Bx.rowOther bql (q := qb) (by omega) #[.int .i64 hb, .slice none 0 0]
        replace bqr := Bx.rowOther bqr (q := qb) (by omega) #[.int .i64 hb, .slice none 0 0]
        replace bqa := Bx.rowOther bqa (q := qb) (by omega) #[.int .i64 hb, .slice none 0 0]
        replace iA := iA.box bqb #[.int .i64 hb, .slice none 0 0]
        replace hbel := below_setRow hbel (g := qb) (by omega) #[.int .i64 hb, .slice none 0 0]
        replace bqb := Bx.row bqb hb none 0 0
        generalize w13.setRow qb #[.int .i64 hb, .slice none 0 0] = v13 at *
        have iB2 := is_leaf v13 hb none 0
        refine Facts.tailWp_nil ?_
        have gc0 := b2.cell0
        go_wp2_with (first | refine load_t _ rfl rfl _ _ rfl bqa.tat ?_ | refine load_t _ rfl rfl _ _ rfl bqb.tat ?_)
        refine (rnode_any n A (.leaf hb) _ _ _ _ _ _ _ _ _ iA iB2 (HR.out _ _ HZ.out) hn).mono ?_
        rintro e1 w20 ⟨nz, pz, lz, cz, rfl, iz, hb1⟩
        replace b3 := b3.later hb1
        replace hbel := below_on hbel hb1
        rw [norm_n, ← HZ.out] at iz
        have R := below_setRow hbel (g := w.heap.size + 1 + 1) (by omega) #[.int .i64 nz, .slice pz lz cz]
        clear hb1 hbel HR HZ
        go_wp2_with (refine store_t rfl _ _ rfl _ nz pz lz cz rfl rfl b3 ?_)
        exact bodyPost_ret (results_t rfl rfl (b3.row _ _ _ _)) rfl ⟨_, _, _, _, rfl, iz.box b3 _, R⟩
    case' false =>
      simp only [Bool.false_eq_true, if_false] at HZ
      clear s0 s1
      go_wp2_with fail
      have hS : Calm.Stays (fun w' => Bx w' w.heap.size 0 (some ⟨g, o, none⟩) 2 c ∧ Bx w' (w.heap.size + 1) n (some ⟨g', o', none⟩) 2 c' ∧ Bx w' (w.heap.size + 1 + 1) 0 none 0 0 ∧ Bx w' ql m0 q0 k0 j0 ∧ Bx w' qr m1 q1 k1 j1 ∧ Bx w' qa n0 p0 l0 c0 ∧ Bx w' qb n1 p1 l1 c1 ∧ Below w.heap.size w w') := fun wa wb h hb => ⟨h.1.later hb, h.2.1.later hb, h.2.2.1.later hb, h.2.2.2.1.later hb, h.2.2.2.2.1.later hb, h.2.2.2.2.2.1.later hb, h.2.2.2.2.2.2.1.later hb, below_on h.2.2.2.2.2.2.2 hb⟩
      have hF : Facts.Stay [eqF 0 (TV m0 q0 k0 j0), eqF 1 (TV n0 p0 l0 c0), isF 2 A, eqF 3 (TV m1 q1 k1 j1), eqF 4 (TV n1 p1 l1 c1), isF 5 B] := stay_of (by simp only [List.forall_mem_cons]; exact ⟨eqF_stays _ _, eqF_stays _ _, isF_stays _ _, eqF_stays _ _, eqF_stays _ _, isF_stays _ _, fun _ h => by cases h⟩)
      refine Facts.regionTail (by kernel_rfl) (by kernel_rfl) 6 (by decide) (by kernel_rfl) (fun w' => Bx w' w.heap.size 0 (some ⟨g, o, none⟩) 2 c ∧ Bx w' (w.heap.size + 1) n (some ⟨g', o', none⟩) 2 c' ∧ Bx w' (w.heap.size + 1 + 1) 0 none 0 0 ∧ Bx w' ql m0 q0 k0 j0 ∧ Bx w' qr m1 q1 k1 j1 ∧ Bx w' qa n0 p0 l0 c0 ∧ Bx w' qb n1 p1 l1 c1 ∧ Below w.heap.size w w') (fun x => { tmps := #[TV 0 (some { block := g, off := o }) 2 c, TV n (some { block := g', off := o' }) 2 c', Value.pointer (some { block := w.heap.size, off := 0 }), Value.pointer (some { block := w.heap.size + 1, off := 0 }), Value.pointer (some { block := w.heap.size + 1 + 1, off := 0 }), Value.pointer (some { block := ql, off := 0 }), Value.pointer (some { block := qr, off := 0 }), Value.pointer (some { block := qa, off := 0 }), Value.pointer (some { block := qb, off := 0 }), TV 0 (some { block := g, off := o }) 2 c, Value.bool false, Value.bool false, Value.pointer (some { block := w.heap.size + 1, off := 1 }), Value.slice (some { block := g', off := o' }) 2 c', Value.int IntKind.i64 2, Value.bool false, Value.bool false, undef, TV 0 (some { block := g, off := o }) 2 c, Value.bool false, undef, undef, undef, Value.pointer (some { block := w.heap.size, off := 1 }), Value.slice (some { block := g, off := o }) 2 c, Value.pointer (some { block := g, off := o }), TV m0 q0 k0 j0, Value.pointer (some { block := w.heap.size, off := 1 }), Value.slice (some { block := g, off := o }) 2 c, Value.pointer (some { block := g, off := o + 2 }), TV m1 q1 k1 j1, Value.pointer (some { block := w.heap.size + 1, off := 1 }), Value.slice (some { block := g', off := o' }) 2 c', Value.pointer (some { block := g', off := o' }), TV n0 p0 l0 c0, Value.pointer (some { block := w.heap.size + 1, off := 1 }), Value.slice (some { block := g', off := o' }) 2 c', Value.pointer (some { block := g', off := o' + 2 }), TV n1 p1 l1 c1, x 0, x 1, x 2, x 3, x 4, x 5, Value.bool false, TV m0 q0 k0 j0, Value.bool false, undef, undef, undef, undef, undef, undef, undef, undef, undef, Value.bool false, TV m1 q1 k1 j1, Value.bool false, undef, undef, undef, undef, undef, undef, undef, undef, undef, undef, undef, undef, undef, undef], defers := [] }) [eqF 0 (TV m0 q0 k0 j0), eqF 1 (TV n0 p0 l0 c0), isF 2 A, eqF 3 (TV m1 q1 k1 j1), eqF 4 (TV n1 p1 l1 c1), isF 5 B] _ rfl rfl (by kernel_rfl) (fun _ => undef) rfl ⟨b1, b2, b3, bql, bqr, bqa, bqb, hbel.drew⟩ ⟨?_, ?_, ?_, ?_, ?_, ?_, ?_, ?_, trivial⟩ ?_
      · exact fun _ => Facts.loadT hS hF (fun _ _ => rfl) _ rfl rfl (fun x wv hSw hd => by rfl) (fun wv hSw => Bx.tat hSw.2.2.2.1)
      · exact fun _ => Facts.loadT hS hF (fun _ _ => rfl) _ rfl rfl (fun x wv hSw hd => by rfl) (fun wv hSw => Bx.tat hSw.2.2.2.2.2.1)
      · refine fun _ => Facts.call2T hS hF (fun _ _ => rfl) rfl (by kernel_rfl) rfl (fun x wv hSw hd => ?_)
        have d0 := eqF_get (hd ⟨0, .data⟩ (by simp) rfl _ rfl)
        have d1 := eqF_get (hd ⟨1, .data⟩ (by simp) rfl _ rfl)
        have hc := r0 wv hSw.2.2.2.2.2.2.2
        rw [← d0, ← d1] at hc
        exact hc
      · exact fun _ => Facts.loadT hS hF (fun _ _ => rfl) _ rfl rfl (fun x wv hSw hd => by rfl) (fun wv hSw => Bx.tat hSw.2.2.2.2.1)
      · exact fun _ => Facts.loadT hS hF (fun _ _ => rfl) _ rfl rfl (fun x wv hSw hd => by rfl) (fun wv hSw => Bx.tat hSw.2.2.2.2.2.2.1)
      · refine fun _ => Facts.call2T hS hF (fun _ _ => rfl) rfl (by kernel_rfl) rfl (fun x wv hSw hd => ?_)
        have d3 := eqF_get (hd ⟨3, .data⟩ (by simp) rfl _ rfl)
        have d4 := eqF_get (hd ⟨4, .data⟩ (by simp) rfl _ rfl)
        have hc := r1 wv hSw.2.2.2.2.2.2.2
        rw [← d3, ← d4] at hc
        exact hc
      · exact fun h => absurd h (by decide)
      · exact fun h => absurd h (by decide)
      rintro x w13 ⟨b1, b2, b3, bql, bqr, bqa, bqb, hbel⟩ hf
      have e0 := eqF_get (hf 0 _ rfl)
      have e1 := eqF_get (hf 1 _ rfl)
      obtain ⟨nA, pA, lA, cA, e2, iA⟩ := isF_get (hf 2 _ rfl)
      have e3 := eqF_get (hf 3 _ rfl)
      have e4 := eqF_get (hf 4 _ rfl)
      obtain ⟨nB, pB, lB, cB, e5, iB⟩ := isF_get (hf 5 _ rfl)
      simp only [e0, e1, e2, e3, e4, e5]
      clear hf e0 e1 e2 e3 e4 e5 hF hS x r0 r1
      refine wp_store_t _ _ rfl qa nA pA lA cA rfl rfl bqa ?_
      replace b1 := Bx.rowOther b1 (q := qa) (by omega) #[.int .i64 nA, .slice pA lA cA]
      replace b2 := Bx.rowOther b2 (q := qa) (by omega) #[.int .i64 nA, .slice pA lA cA]
      replace b3 := Bx.rowOther b3 (q := qa) (by omega) #[.int .i64 nA, .slice pA lA cA]
      replace bql := Bx.rowOther bql (q := qa) (by omega) #[.int .i64 nA, .slice pA lA cA]
      replace bqr := Bx.rowOther bqr (q := qa) (by omega) #[.int .i64 nA, .slice pA lA cA]
      replace bqb := Bx.rowOther bqb (q := qa) (by omega) #[.int .i64 nA, .slice pA lA cA]
      replace iA := iA.box bqa #[.int .i64 nA, .slice pA lA cA]
      replace iB := iB.box bqa #[.int .i64 nA, .slice pA lA cA]
      replace hbel := below_setRow hbel (g := qa) (by omega) #[.int .i64 nA, .slice pA lA cA]
      replace bqa := Bx.row bqa nA pA lA cA
      generalize w13.setRow qa #[.int .i64 nA, .slice pA lA cA] = v13 at *
      refine wp_store_t _ _ rfl qb nB pB lB cB rfl rfl bqb ?_
      replace b1 := Bx.rowOther b1 (q := qb) (by omega) #[.int .i64 nB, .slice pB lB cB]
      replace b2 := Bx.rowOther b2 (q := qb) (by omega) #[.int .i64 nB, .slice pB lB cB]
      replace b3 := Bx.rowOther b3 (q := qb) (by omega) #[.int .i64 nB, .slice pB lB cB]
      replace bql := Bx.rowOther bql (q := qb) (by omega) #[.int .i64 nB, .slice pB lB cB]
      replace bqr := Bx.rowOther bqr (q := qb) (by omega) #[.int .i64 nB, .slice pB lB cB]
      replace bqa := Bx.rowOther bqa (q := qb) (by omega) #[.int .i64 nB, .slice pB lB cB]
      replace iA := iA.box bqb #[.int .i64 nB, .slice pB lB cB]
      replace iB := iB.box bqb #[.int .i64 nB, .slice pB lB cB]
      replace hbel := below_setRow hbel (g := qb) (by omega) #[.int .i64 nB, .slice pB lB cB]
      replace bqb := Bx.row bqb nB pB lB cB
      generalize v13.setRow qb #[.int .i64 nB, .slice pB lB cB] = v14 at *
      refine Facts.tailWp_nil ?_
      have gc0 := b2.cell0
      go_wp2_with (first | refine load_t _ rfl rfl _ _ rfl bqa.tat ?_ | refine load_t _ rfl rfl _ _ rfl bqb.tat ?_)
      refine (rnode_any n A B _ _ _ _ _ _ _ _ _ iA iB (HR.out _ _ HZ.out) hn).mono ?_
      rintro e1 w20 ⟨nz, pz, lz, cz, rfl, iz, hb1⟩
      replace b3 := b3.later hb1
      replace hbel := below_on hbel hb1
      rw [norm_n, ← HZ.out] at iz
      have R := below_setRow hbel (g := w.heap.size + 1 + 1) (by omega) #[.int .i64 nz, .slice pz lz cz]
      clear hb1 hbel HR HZ
      go_wp2_with (refine store_t rfl _ _ rfl _ nz pz lz cz rfl rfl b3 ?_)
      exact bodyPost_ret (results_t rfl rfl (b3.row _ _ _ _)) rfl ⟨_, _, _, _, rfl, iz.box b3 _, R⟩

theorem rfill_any : ∀ (i : ID) (e : EV) (k : Nat) (left : Int) (ni : Int) (pi : Option Addr) (li ci : Nat) (ne : Int) (pe : Option Addr) (le ce : Nat) (w : World), Idn.Is w i (TV ni pi li ci) → Is w e (TV ne pe le ce) → short e = true → rg e k left = true → k ≤ 16 → left ≤ 1073741824 →
    Calls Try.prog 46 #[TV ni pi li ci, TV ne pe le ce] w (Gives (fl i e) w)
  | ⟨.inl false⟩, e, k, left, ni, pi, li, ci, ne, pe, le, ce, w, hi, he, hs, hr, hk, hl => rfill_nil _ e ni pi li ci ne pe le ce w hi he rfl
  | ⟨.inl true⟩, ⟨n, .inl ()⟩, k, left, ni, pi, li, ci, ne, pe, le, ce, w, hi, ⟨p', c', e⟩, hs, hr, hk, hl => by
    simp at e
    obtain ⟨rfl, rfl, rfl, rfl⟩ := e
    exact rfill_leaf _ ni pi li ci ne pe ce w hi rfl
  | ⟨.inl true⟩, ⟨n, .inr (a, b)⟩, k, left, ni, pi, li, ci, ne, pe, le, ce, w, hi, he, hs, hr, hk, hl => by
    have rT := fun w1 (hb : Below w.heap.size w w1) => top_any (.node n a b) k left ne pe le ce w1 (he.later hb) hr (by omega)
    obtain ⟨g', o', c', n0, p0, l0, c0, n1, p1, l1, c1, ee, _⟩ := he
    simp at ee
    obtain ⟨rfl, rfl, rfl, rfl⟩ := ee
    exact rfill_all _ _ ni pi li ci ne g' o' ce w hi rfl rT
  | ⟨.inr (l, r)⟩, ⟨n, .inl ()⟩, k, left, ni, pi, li, ci, ne, pe, le, ce, w, hi, ⟨p', c', e⟩, hs, hr, hk, hl => by
    simp at e
    obtain ⟨rfl, rfl, rfl, rfl⟩ := e
    exact rfill_leaf _ ni pi li ci ne pe ce w hi rfl
  | ⟨.inr (l, r)⟩, ⟨n, .inr (a, b)⟩, k, left, ni, pi, li, ci, ne, pe, le, ce, w, ⟨g, o, c, m0, q0, k0, j0, m1, q1, k1, j1, ei, u0, u1, il, ir⟩, ⟨g', o', c', n0, p0, l0, c0, n1, p1, l1, c1, ee, t0, t1, ia, ib⟩, hs, hr, hk, hl => by
    obtain ⟨_, _, s0, s1⟩ := short_kids hs
    obtain ⟨hn, hk0, ra, rb⟩ := rg_kids hr
    have R0 := fun w1 (hb : Below w.heap.size w w1) => rfill_any l a (k - 1) (left - n) m0 q0 k0 j0 n0 p0 l0 c0 w1 (il.later hb) (ia.later hb) s0 ra (by omega) (by omega)
    have R1 := fun w1 (hb : Below w.heap.size w w1) => rfill_any r b (k - 1) (left - n) m1 q1 k1 j1 n1 p1 l1 c1 w1 (ir.later hb) (ib.later hb) s1 rb (by omega) (by omega)
    have T0 := fun w1 (hb : Below w.heap.size w w1) => top_any a (k - 1) (left - n) n0 p0 l0 c0 w1 (ia.later hb) ra (by omega)
    have T1 := fun w1 (hb : Below w.heap.size w w1) => top_any b (k - 1) (left - n) n1 p1 l1 c1 w1 (ib.later hb) rb (by omega)
    have fA := fl_rg l a _ _ ra
    have fB := fl_rg r b _ _ rb
    have lA := low_short (fl_short l a s0)
    have lB := low_short (fl_short r b s1)
    have eZ : EV.node n (fa l (fl l a) (fl r b)) (fb l r (fl l a) (fl r b)) = .node n (if all l then .leaf (max (high a) (fl r b).n) else fl l a) (if all l then fl r b else if all r then .leaf (max (high b) (fl l a).n) else fl r b) := by
      unfold fa fb
      rw [lA, lB]
      cases hal : all l
      · cases har : all r
        · rfl
        · simp only [Bool.false_eq_true, if_false, if_true, fl_all har]
      · simp only [if_true, fl_all hal]
    simp at ei ee
    obtain ⟨rfl, rfl, rfl, rfl⟩ := ei
    obtain ⟨rfl, rfl, rfl, rfl⟩ := ee
    refine rfill_node l r ne (fl l a) (fl r b) (high a) (high b) _ g o ci g' o' ce m0 q0 k0 j0 m1 q1 k1 j1 n0 p0 l0 c0 n1 p1 l1 c1 w u0 u1 t0 t1 il ir a b ia ib R0 R1 T0 T1 eZ (fun x y hxy => ?_) (by omega)
    have h1 : rg (.node ne (fa l (fl l a) (fl r b)) (fb l r (fl l a) (fl r b))) k left = true := by
      simp only [rg, Bool.and_eq_true, decide_eq_true_eq]
      exact ⟨hn, ⟨hk0, fa_rg fA fB⟩, fb_rg fA fB⟩
    rw [hxy] at h1
    obtain ⟨_, h2, h3, h4⟩ := rg_kids h1
    simp only [rg, Bool.and_eq_true, decide_eq_true_eq]
    exact ⟨by omega, ⟨by omega, rg_mono h3 (by omega) (by omega)⟩, rg_mono h4 (by omega) (by omega)⟩
end Go.Proofs.Ytmcajjdijjcpkaa
