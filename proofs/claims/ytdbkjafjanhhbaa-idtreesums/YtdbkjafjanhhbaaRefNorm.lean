/- The functions norm, Check and Norm of the document's answer. -/
import Derived.Test.YtdbkjafjanhhbaaRefSmall
namespace Go.Proofs.Ytdbkjafjanhhbaa
open Go.RowKit

theorem tw_eq2 (x y : ID) : (decide (len x = 0) && (decide (len y = 0) && num y == num x)) = tw x y := by
  rw [← tw_eq x y]
  rw [show (num y == num x) = (num x == num y) by rw [Bool.eq_iff_iff, beq_iff_eq, beq_iff_eq]; exact eq_comm]
  cases decide (len x = 0) <;> simp

set_option maxHeartbeats 4000000 in
set_option maxRecDepth 100000 in
theorem refNorm_node (x' y' : ID) (g o c : Nat) (n0 : Int) (p0 : Option Addr) (l0 c0 : Nat) (n1 : Int) (p1 : Option Addr) (l1 c1 : Nat) (w : World) (t0 : Tat w g o n0 p0 l0 c0) (t1 : Tat w g (o + 2) n1 p1 l1 c1)
    (r0 : ∀ w1, Below w.heap.size w w1 → Calls Try.prog 28 #[TV n0 p0 l0 c0] w1 (Gives x' w1)) (r1 : ∀ w1, Below w.heap.size w w1 → Calls Try.prog 28 #[TV n1 p1 l1 c1] w1 (Gives y' w1)) :
    Calls Try.prog 28 #[TV 0 (some ⟨g, o, none⟩) 2 c] w (Gives (mk x' y') w) := by
  obtain ⟨h1, h2, hbel⟩ := two_box w 0 (some ⟨g, o, none⟩) 2 c 0 none 0 0 _ rfl
  obtain ⟨z, HZ⟩ : ∃ z, Hid (mk x' y' = z) := ⟨_, rfl⟩
  rw [HZ.out]
  generalize hw0 : (w.alloc (.cells #[.int .i64 0, .slice (some ⟨g, o, none⟩) 2 c] 24)).alloc (.cells #[.int .i64 0, .slice none 0 0] 24) = w0 at h1 h2 hbel
  have g1 := h1.cell1
  go_enter Try.func28, Try.ntmps28
  go_wp2_with (rw [hw0])
  have hlt := h2.lt
  clear g1 hw0
  have hS : Calm.Stays (fun w' => Bx w' (w.heap.size) 0 (some ⟨g, o, none⟩) 2 c ∧ (∃ n p l c, Bx w' (w.heap.size + 1) n p l c) ∧ w0.heap.size ≤ w'.heap.size ∧ Below w.heap.size w w') := fun wa wb h hb => ⟨h.1.later hb, (by obtain ⟨n, p, l, c, h2⟩ := h.2.1; exact ⟨n, p, l, c, h2.later hb⟩), Nat.le_trans h.2.2.1 hb.size, below_on h.2.2.2 hb⟩
  have hF : Facts.Stay [eqF 0 (.pointer (some ⟨w.heap.size, 1, none⟩)), eqF 1 (.slice (some ⟨g, o, none⟩) 2 c), eqF 2 (.pointer (some ⟨g, o, none⟩)), eqF 3 (TV n0 p0 l0 c0), isF 4 x', eqF 5 (.pointer (some ⟨w.heap.size, 1, none⟩)), eqF 6 (.slice (some ⟨g, o, none⟩) 2 c), eqF 7 (.pointer (some ⟨g, o + 2, none⟩)), eqF 8 (TV n1 p1 l1 c1), isF 9 y', alF 10 w0.heap.size, alF 11 w0.heap.size, sbF 10 4 w0.heap.size x', sbF 11 9 w0.heap.size y'] := stay_of (by simp only [List.forall_mem_cons]; exact ⟨eqF_stays _ _, eqF_stays _ _, eqF_stays _ _, eqF_stays _ _, isF_stays _ _, eqF_stays _ _, eqF_stays _ _, eqF_stays _ _, eqF_stays _ _, isF_stays _ _, alF_stays _ _, alF_stays _ _, sbF_stays _ _ _ _, sbF_stays _ _ _ _, fun _ h => by cases h⟩)
  refine FactsG.region (by kernel_rfl) (by kernel_rfl) (fun w' => Bx w' (w.heap.size) 0 (some ⟨g, o, none⟩) 2 c ∧ (∃ n p l c, Bx w' (w.heap.size + 1) n p l c) ∧ w0.heap.size ≤ w'.heap.size ∧ Below w.heap.size w w') (fun x => { tmps := #[TV 0 (some ⟨g, o, none⟩) 2 c, .pointer (some ⟨w.heap.size, 0, none⟩), .pointer (some ⟨w.heap.size + 1, 0, none⟩), x 10, x 11, .pointer (some ⟨w.heap.size, 1, none⟩), .slice (some ⟨g, o, none⟩) 2 c, .int .i64 2, .bool false, undef, undef, undef, x 0, x 1, x 2, x 3, x 4, x 5, x 6, x 7, x 8, x 9, undef, undef, undef, undef, undef, undef, undef, undef, undef, undef, undef, undef, undef, undef], defers := [] }) [eqF 0 (.pointer (some ⟨w.heap.size, 1, none⟩)), eqF 1 (.slice (some ⟨g, o, none⟩) 2 c), eqF 2 (.pointer (some ⟨g, o, none⟩)), eqF 3 (TV n0 p0 l0 c0), isF 4 x', eqF 5 (.pointer (some ⟨w.heap.size, 1, none⟩)), eqF 6 (.slice (some ⟨g, o, none⟩) 2 c), eqF 7 (.pointer (some ⟨g, o + 2, none⟩)), eqF 8 (TV n1 p1 l1 c1), isF 9 y', alF 10 w0.heap.size, alF 11 w0.heap.size, sbF 10 4 w0.heap.size x', sbF 11 9 w0.heap.size y'] (NotOne [10, 11]) (notOne_symm _) _ rfl rfl (by kernel_rfl) (fun _ => undef) rfl (⟨h1, ⟨_, _, _, _, h2⟩, Nat.le_refl _, hbel.drew⟩) ⟨?_, ?_, ?_, ?_, ?_, ?_, ?_, ?_, ?_, ?_, ?_, ?_, ?_, ?_, trivial⟩ ?_
  · exact FactsG.of rfl (fun _ _ _ h => absurd h (by decide)) (fun _ _ _ _ => rfl) (Facts.pure hS hF (fun _ _ => rfl) rfl (fun x wv hSw hd => by
      go_simp))
  · exact FactsG.of rfl (fun _ _ _ h => absurd h (by decide)) (fun _ _ _ _ => rfl) (Facts.pure hS hF (fun _ _ => rfl) rfl (fun x wv hSw hd => by
      have d0 := eqF_get (hd ⟨0, .data⟩ (by simp) rfl _ rfl)
      have g1 := hSw.1.cell1
      simp only [d0]
      go_simp))
  · exact FactsG.of rfl (fun _ _ _ h => absurd h (by decide)) (fun _ _ _ _ => rfl) (Facts.pure hS hF (fun _ _ => rfl) rfl (fun x wv hSw hd => by
      have d1 := eqF_get (hd ⟨1, .data⟩ (by simp) rfl _ rfl)
      simp only [d1]
      go_simp))
  · exact FactsG.of rfl (fun _ _ _ h => absurd h (by decide)) (fun _ _ _ _ => rfl) (Facts.loadT hS hF (fun _ _ => rfl) _ rfl rfl (fun x wv hSw hd => by have d2 := eqF_get (hd ⟨2, .data⟩ (by simp) rfl _ rfl); exact d2) (fun wv hSw => t0.later hSw.2.2.2))
  · refine FactsG.of rfl (fun _ _ _ h => absurd h (by decide)) (fun _ _ _ _ => rfl) (Facts.call1T hS hF (fun _ _ => rfl) rfl (by kernel_rfl) rfl (fun x wv hSw hd => ?_))
    have d3 := eqF_get (hd ⟨3, .data⟩ (by simp) rfl _ rfl)
    have hc := r0 _ hSw.2.2.2
    rw [← d3] at hc
    exact hc
  · exact FactsG.of rfl (fun _ _ _ h => absurd h (by decide)) (fun _ _ _ _ => rfl) (Facts.pure hS hF (fun _ _ => rfl) rfl (fun x wv hSw hd => by
      go_simp))
  · exact FactsG.of rfl (fun _ _ _ h => absurd h (by decide)) (fun _ _ _ _ => rfl) (Facts.pure hS hF (fun _ _ => rfl) rfl (fun x wv hSw hd => by
      have d5 := eqF_get (hd ⟨5, .data⟩ (by simp) rfl _ rfl)
      have g1 := hSw.1.cell1
      simp only [d5]
      go_simp))
  · exact FactsG.of rfl (fun _ _ _ h => absurd h (by decide)) (fun _ _ _ _ => rfl) (Facts.pure hS hF (fun _ _ => rfl) rfl (fun x wv hSw hd => by
      have d6 := eqF_get (hd ⟨6, .data⟩ (by simp) rfl _ rfl)
      simp only [d6]
      go_simp))
  · exact FactsG.of rfl (fun _ _ _ h => absurd h (by decide)) (fun _ _ _ _ => rfl) (Facts.loadT hS hF (fun _ _ => rfl) _ rfl rfl (fun x wv hSw hd => by have d7 := eqF_get (hd ⟨7, .data⟩ (by simp) rfl _ rfl); exact d7) (fun wv hSw => t1.later hSw.2.2.2))
  · refine FactsG.of rfl (fun _ _ _ h => absurd h (by decide)) (fun _ _ _ _ => rfl) (Facts.call1T hS hF (fun _ _ => rfl) rfl (by kernel_rfl) rfl (fun x wv hSw hd => ?_))
    have d8 := eqF_get (hd ⟨8, .data⟩ (by simp) rfl _ rfl)
    have hc := r1 _ hSw.2.2.2
    rw [← d8] at hc
    exact hc
  · exact FactsG.allocT rfl rfl hS hF (fun _ _ => rfl) rfl rfl (fun wv hSw => hSw.2.2.1) (fun j f hfj hj => by simp only [List.mem_cons, List.not_mem_nil, or_false] at hj; rcases hj with rfl | rfl <;> exact ⟨_, (Option.some.inj hfj).symm⟩)
  · exact FactsG.allocT rfl rfl hS hF (fun _ _ => rfl) rfl rfl (fun wv hSw => hSw.2.2.1) (fun j f hfj hj => by simp only [List.mem_cons, List.not_mem_nil, or_false] at hj; rcases hj with rfl | rfl <;> exact ⟨_, (Option.some.inj hfj).symm⟩)
  · exact FactsG.storeP rfl rfl (by decide) (fun _ _ => rfl) _ _ rfl (by decide) (by decide) rfl (fun _ => rfl) (fun _ => rfl) (fun x wv hSw hd => ⟨hd ⟨10, .data⟩ (by simp) rfl _ rfl, hd ⟨4, .data⟩ (by simp) rfl _ rfl⟩) (fun wv q n p l c n' p' l' c' hSw hq hbx => ⟨hSw.1.rowOther (by omega) _, (by obtain ⟨n, p, l, c, h⟩ := hSw.2.1; exact ⟨n, p, l, c, h.rowOther (by omega) _⟩), (by rw [setRow_size]; exact hSw.2.2.1), below_setRow hSw.2.2.2 (by omega) _⟩) (fun x wv q n p l c hrel hxm hNq hq j f hj hfj hh => by
      match j with
      | 0 => obtain rfl := Option.some.inj hfj; exact eqF_box _ _ _ _ _ n p l c hh hq
      | 1 => obtain rfl := Option.some.inj hfj; exact eqF_box _ _ _ _ _ n p l c hh hq
      | 2 => obtain rfl := Option.some.inj hfj; exact eqF_box _ _ _ _ _ n p l c hh hq
      | 3 => obtain rfl := Option.some.inj hfj; exact eqF_box _ _ _ _ _ n p l c hh hq
      | 4 => obtain rfl := Option.some.inj hfj; exact isF_box _ _ _ _ _ n p l c hh hq
      | 5 => obtain rfl := Option.some.inj hfj; exact eqF_box _ _ _ _ _ n p l c hh hq
      | 6 => obtain rfl := Option.some.inj hfj; exact eqF_box _ _ _ _ _ n p l c hh hq
      | 7 => obtain rfl := Option.some.inj hfj; exact eqF_box _ _ _ _ _ n p l c hh hq
      | 8 => obtain rfl := Option.some.inj hfj; exact eqF_box _ _ _ _ _ n p l c hh hq
      | 9 => obtain rfl := Option.some.inj hfj; exact isF_box _ _ _ _ _ n p l c hh hq
      | 10 => obtain rfl := Option.some.inj hfj; exact alF_box _ _ _ _ _ n p l c hh hq
      | 11 => obtain rfl := Option.some.inj hfj; exact alF_box _ _ _ _ _ n p l c hh hq
      | 13 => obtain rfl := Option.some.inj hfj; exact sbF_other hh (fun h => hrel ⟨11, .phase⟩ (by simp) rfl ⟨10, .phase⟩ (by simp) rfl (by decide) (by decide) (by decide) (h.trans hxm.symm)) hq
      | 12 => exact absurd rfl hj
      | j + 14 => simp at hfj)
  · exact FactsG.storeP rfl rfl (by decide) (fun _ _ => rfl) _ _ rfl (by decide) (by decide) rfl (fun _ => rfl) (fun _ => rfl) (fun x wv hSw hd => ⟨hd ⟨11, .data⟩ (by simp) rfl _ rfl, hd ⟨9, .data⟩ (by simp) rfl _ rfl⟩) (fun wv q n p l c n' p' l' c' hSw hq hbx => ⟨hSw.1.rowOther (by omega) _, (by obtain ⟨n, p, l, c, h⟩ := hSw.2.1; exact ⟨n, p, l, c, h.rowOther (by omega) _⟩), (by rw [setRow_size]; exact hSw.2.2.1), below_setRow hSw.2.2.2 (by omega) _⟩) (fun x wv q n p l c hrel hxm hNq hq j f hj hfj hh => by
      match j with
      | 0 => obtain rfl := Option.some.inj hfj; exact eqF_box _ _ _ _ _ n p l c hh hq
      | 1 => obtain rfl := Option.some.inj hfj; exact eqF_box _ _ _ _ _ n p l c hh hq
      | 2 => obtain rfl := Option.some.inj hfj; exact eqF_box _ _ _ _ _ n p l c hh hq
      | 3 => obtain rfl := Option.some.inj hfj; exact eqF_box _ _ _ _ _ n p l c hh hq
      | 4 => obtain rfl := Option.some.inj hfj; exact isF_box _ _ _ _ _ n p l c hh hq
      | 5 => obtain rfl := Option.some.inj hfj; exact eqF_box _ _ _ _ _ n p l c hh hq
      | 6 => obtain rfl := Option.some.inj hfj; exact eqF_box _ _ _ _ _ n p l c hh hq
      | 7 => obtain rfl := Option.some.inj hfj; exact eqF_box _ _ _ _ _ n p l c hh hq
      | 8 => obtain rfl := Option.some.inj hfj; exact eqF_box _ _ _ _ _ n p l c hh hq
      | 9 => obtain rfl := Option.some.inj hfj; exact isF_box _ _ _ _ _ n p l c hh hq
      | 10 => obtain rfl := Option.some.inj hfj; exact alF_box _ _ _ _ _ n p l c hh hq
      | 11 => obtain rfl := Option.some.inj hfj; exact alF_box _ _ _ _ _ n p l c hh hq
      | 12 => obtain rfl := Option.some.inj hfj; exact sbF_other hh (fun h => hrel ⟨10, .phase⟩ (by simp) rfl ⟨11, .phase⟩ (by simp) rfl (by decide) (by decide) (by decide) (h.trans hxm.symm)) hq
      | 13 => exact absurd rfl hj
      | j + 14 => simp at hfj)
  rintro xa w5 ⟨h1, ⟨nr, pr, lr, cr, h2⟩, hN5, hbel⟩ hf hrel
  obtain ⟨q, na, pa, la, ca, d10, d4, hNq, hqa, ia⟩ := sbF_get (hf 12 _ (by decide) rfl)
  obtain ⟨q', nb, pb, lb, cb, d11, d9, hNq', hqb, ib⟩ := sbF_get (hf 13 _ (by decide) rfl)
  clear hf hS hF hrel r0 r1 t0 t1 h1
  simp only [d10, d4, d11, d9]
  clear d10 d4 d11 d9
  have HX : Hid (na = num x' ∧ la = len x') := is_parts ia
  have HY : Hid (nb = num y' ∧ lb = len y') := is_parts ib
  have HT : Hid ((decide (la = 0) && (decide (lb = 0) && nb == na)) = tw x' y') := by show _ = _; rw [HX.out.1, HX.out.2, HY.out.1, HY.out.2, tw_eq2]
  have g0 := hqa.cell0
  have g1 := hqa.cell1
  have hIL := refIsLeaf_any nb na pb lb cb
  by_cases hla : la = 0
  · subst hla
    have HT' : Hid ((decide (lb = 0) && nb == na) = tw x' y') := HT.out
    clear HT HY
    generalize (decide (lb = 0) && nb == na) = r at hIL HT'
    go_wp2_with (refine load_t _ rfl rfl _ _ rfl hqb.tat ?_)
    refine (hIL _).mono ?_
    rintro e w6 ⟨rfl, hb1⟩
    replace h2 := h2.later hb1
    replace hqa := hqa.later hb1
    replace hqb := hqb.later hb1
    replace ia := ia.later hb1
    replace ib := ib.later hb1
    replace hbel := below_on hbel hb1
    clear hb1 g0 g1 hIL HX
    cases r
    · obtain rfl : z = .node x' y' := by rw [← HZ.out, mk, ← HT'.out]; rfl
      clear HZ HT'
      go_wp2_with (first | refine load_t _ rfl rfl _ _ rfl hqa.tat ?_ | refine load_t _ rfl rfl _ _ rfl hqb.tat ?_)
      refine (inner_any x' y' _ _ _ _ _ _ _ _ _ ia ib).mono ?_
      rintro e w7 ⟨n', p', l', c', rfl, hi, hb1⟩
      replace h2 := h2.later hb1
      have R := below_setRow (below_on hbel hb1) (g := w.heap.size + 1) (by omega) #[.int .i64 n', .slice p' l' c']
      clear hbel hb1 hqa hqb
      go_wp2_with (refine store_t rfl _ _ rfl _ n' p' l' c' rfl rfl h2 ?_)
      exact bodyPost_ret (results_t rfl rfl (h2.row _ _ _ _)) rfl ⟨_, _, _, _, rfl, hi.box h2 _, R⟩
    · obtain rfl : z = x' := by rw [← HZ.out, mk, ← HT'.out]; rfl
      have R := below_setRow hbel (g := w.heap.size + 1) (by omega) #[.int .i64 na, .slice pa 0 ca]
      clear HZ HT' hbel
      go_wp2_with (first | refine load_t _ rfl rfl _ _ rfl hqa.tat ?_ | refine store_t rfl _ _ rfl _ na pa 0 ca rfl rfl h2 ?_)
      exact bodyPost_ret (results_t rfl rfl (h2.row _ _ _ _)) rfl ⟨_, _, _, _, rfl, ia.box h2 _, R⟩
  · obtain rfl : z = .node x' y' := by
      have h3 := HT.out
      rw [show decide (la = 0) = false by simpa using hla] at h3
      rw [← HZ.out, mk, ← h3]
      rfl
    have f0 : ((la : Int) == 0) = false := by simpa using hla
    clear HZ HT HX HY hla hIL
    go_wp2_with (first | refine load_t _ rfl rfl _ _ rfl hqa.tat ?_ | refine load_t _ rfl rfl _ _ rfl hqb.tat ?_)
    refine (inner_any x' y' _ _ _ _ _ _ _ _ _ ia ib).mono ?_
    rintro e w7 ⟨n', p', l', c', rfl, hi, hb1⟩
    replace h2 := h2.later hb1
    have R := below_setRow (below_on hbel hb1) (g := w.heap.size + 1) (by omega) #[.int .i64 n', .slice p' l' c']
    clear hbel hb1 hqa hqb g0 g1
    go_wp2_with (refine store_t rfl _ _ rfl _ n' p' l' c' rfl rfl h2 ?_)
    exact bodyPost_ret (results_t rfl rfl (h2.row _ _ _ _)) rfl ⟨_, _, _, _, rfl, hi.box h2 _, R⟩

set_option maxHeartbeats 2000000 in
set_option maxRecDepth 100000 in
theorem refNorm_leaf (b : Bool) (p : Option Addr) (c : Nat) (w : World) : Calls Try.prog 28 #[TV (bi b) p 0 c] w (Gives (.leaf b) w) := by
  obtain ⟨h1, h2, hbel⟩ := two_box w (bi b) p 0 c 0 none 0 0 _ rfl
  have g0 := h1.cell0
  have g1 := h1.cell1
  go_enter Try.func28, Try.ntmps28
  go_wp2_with fail
  refine (refLeaf_any _ _).mono ?_
  rintro e w2 ⟨rfl, hb1⟩
  replace h2 := h2.later hb1
  replace hbel := below_on hbel hb1
  clear hb1 h1 g0 g1
  have R := below_setRow hbel (g := w.heap.size + 1) (by omega) #[.int .i64 (bi b), .slice none 0 0]
  go_wp2_with (refine store_t rfl _ _ rfl _ (bi b) none 0 0 rfl rfl h2 ?_)
  exact bodyPost_ret (results_t rfl rfl (h2.row _ _ _ _)) rfl ⟨_, _, _, _, rfl, is_leaf _ _ _ _, R⟩

theorem refNorm_any : ∀ (x : ID) (n : Int) (p : Option Addr) (l c : Nat) (w : World), Is w x (TV n p l c) → Calls Try.prog 28 #[TV n p l c] w (Gives (norm x) w)
  | ⟨.inl b⟩, n, p, l, c, w, ⟨_, _, e⟩ => by
    simp at e
    obtain ⟨rfl, rfl, rfl, rfl⟩ := e
    exact refNorm_leaf b p c w
  | ⟨.inr (x, y)⟩, n, p, l, c, w, ⟨g, o, c', n0, p0, l0, c0, n1, p1, l1, c1, e, t0, t1, hx, hy⟩ => by
    simp at e
    obtain ⟨rfl, rfl, rfl, rfl⟩ := e
    exact refNorm_node (norm x) (norm y) g o c n0 p0 l0 c0 n1 p1 l1 c1 w t0 t1 (fun w1 hb => refNorm_any x _ _ _ _ w1 (hx.later hb)) (fun w1 hb => refNorm_any y _ _ _ _ w1 (hy.later hb))
end Go.Proofs.Ytdbkjafjanhhbaa
