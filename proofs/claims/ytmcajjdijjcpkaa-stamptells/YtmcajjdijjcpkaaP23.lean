import Derived.Test.YtmcajjdijjcpkaaP22
import Derived.Test.YtmcajjdijjcpkaaP8
import Derived.Test.YtmcajjdijjcpkaaP17
import Derived.Test.YtmcajjdijjcpkaaP19
/- The functions norm, Check and Norm of the document's answer. -/
namespace Go.Proofs.Ytmcajjdijjcpkaa.Idn
open Go.RowKit

theorem tw_eq2 (x y : ID) : (decide (len x = 0) && (decide (len y = 0) && num y == num x)) = tw x y := by
  rw [← tw_eq x y]
  rw [show (num y == num x) = (num x == num y) by rw [Bool.eq_iff_iff, beq_iff_eq, beq_iff_eq]; exact eq_comm]
  cases decide (len x = 0) <;> simp

set_option maxHeartbeats 4000000 in
set_option maxRecDepth 100000 in
theorem refNorm_node (x' y' : ID) (g o c : Nat) (n0 : Int) (p0 : Option Addr) (l0 c0 : Nat) (n1 : Int) (p1 : Option Addr) (l1 c1 : Nat) (w : World) (t0 : Tat w g o n0 p0 l0 c0) (t1 : Tat w g (o + 2) n1 p1 l1 c1)
    (r0 : ∀ w1, Below w.heap.size w w1 → Calls Try.prog 58 #[TV n0 p0 l0 c0] w1 (Gives x' w1)) (r1 : ∀ w1, Below w.heap.size w w1 → Calls Try.prog 58 #[TV n1 p1 l1 c1] w1 (Gives y' w1)) :
    Calls Try.prog 58 #[TV 0 (some ⟨g, o, none⟩) 2 c] w (Gives (mk x' y') w) := by
  obtain ⟨h1, h2, hbel⟩ := two_box w 0 (some ⟨g, o, none⟩) 2 c 0 none 0 0 _ rfl
  obtain ⟨z, HZ⟩ : ∃ z, Hid (mk x' y' = z) := ⟨_, rfl⟩
  rw [HZ.out]
  generalize hw0 : (w.alloc (.cells #[.int .i64 0, .slice (some ⟨g, o, none⟩) 2 c] 24)).alloc (.cells #[.int .i64 0, .slice none 0 0] 24) = w0 at h1 h2 hbel
  have g1 := h1.cell1
  go_enter Try.func58, Try.ntmps58
  go_wp2_with (rw [hw0])
  have hlt := h2.lt
  clear g1 hw0
  have hS : Calm.Stays (fun w' => Bx w' (w.heap.size) 0 (some ⟨g, o, none⟩) 2 c ∧ (∃ n p l c, Bx w' (w.heap.size + 1) n p l c) ∧ w0.heap.size ≤ w'.heap.size ∧ Below w.heap.size w w') := fun wa wb h hb => ⟨h.1.later hb, (by obtain ⟨n, p, l, c, h2⟩ := h.2.1; exact ⟨n, p, l, c, h2.later hb⟩), Nat.le_trans h.2.2.1 hb.size, below_on h.2.2.2 hb⟩
  have hF : Facts.Stay [eqF 0 (.pointer (some ⟨w.heap.size, 1, none⟩)), eqF 1 (.slice (some ⟨g, o, none⟩) 2 c), eqF 2 (.pointer (some ⟨g, o, none⟩)), eqF 3 (TV n0 p0 l0 c0), isF 4 x', eqF 5 (.pointer (some ⟨w.heap.size, 1, none⟩)), eqF 6 (.slice (some ⟨g, o, none⟩) 2 c), eqF 7 (.pointer (some ⟨g, o + 2, none⟩)), eqF 8 (TV n1 p1 l1 c1), isF 9 y', alF 10 w0.heap.size, alF 11 w0.heap.size, sbF 10 4 w0.heap.size x', sbF 11 9 w0.heap.size y'] := stay_of (by simp only [List.forall_mem_cons]; exact ⟨eqF_stays _ _, eqF_stays _ _, eqF_stays _ _, eqF_stays _ _, isF_stays _ _, eqF_stays _ _, eqF_stays _ _, eqF_stays _ _, eqF_stays _ _, isF_stays _ _, alF_stays _ _, alF_stays _ _, sbF_stays _ _ _ _, sbF_stays _ _ _ _, fun _ h => by cases h⟩)
  refine FactsG.region (by kernel_rfl) (by kernel_rfl) (fun w' => Bx w' (w.heap.size) 0 (some ⟨g, o, none⟩) 2 c ∧ (∃ n p l c, Bx w' (w.heap.size + 1) n p l c) ∧ w0.heap.size ≤ w'.heap.size ∧ Below w.heap.size w w') (fun x => { tmps := #[TV 0 (some ⟨g, o, none⟩) 2 c, .pointer (some ⟨w.heap.size, 0, none⟩), .pointer (some ⟨w.heap.size + 1, 0, none⟩), x 10, x 11, .pointer (some ⟨w.heap.size, 1, none⟩), .slice (some ⟨g, o, none⟩) 2 c, .int .i64 2, .bool false, undef, undef, undef, x 0, x 1, x 2, x 3, x 4, x 5, x 6, x 7, x 8, x 9, undef, undef, undef, undef, undef, undef, undef, undef, undef, undef, undef, undef, undef, undef], defers := [] }) [eqF 0 (.pointer (some ⟨w.heap.size, 1, none⟩)), eqF 1 (.slice (some ⟨g, o, none⟩) 2 c), eqF 2 (.pointer (some ⟨g, o, none⟩)), eqF 3 (TV n0 p0 l0 c0), isF 4 x', eqF 5 (.pointer (some ⟨w.heap.size, 1, none⟩)), eqF 6 (.slice (some ⟨g, o, none⟩) 2 c), eqF 7 (.pointer (some ⟨g, o + 2, none⟩)), eqF 8 (TV n1 p1 l1 c1), isF 9 y', alF 10 w0.heap.size, alF 11 w0.heap.size, sbF 10 4 w0.heap.size x', sbF 11 9 w0.heap.size y'] (NotOne [10, 11]) (notOne_symm _) _ rfl rfl (by kernel_rfl) (fun _ => undef) rfl (⟨h1, ⟨_, _, _, _, h2⟩, Nat.le_refl _, hbel.drew⟩) ⟨?_, ?_, ?_, ?_, ?_, ?_, ?_, ?_, ?_, ?_, ?_, ?_, ?_, ?_, trivial⟩ ?_
  · exact FactsG.of rfl (fun _ _ _ h => absurd h (by decide)) (fun _ _ _ _ => rfl) (Facts.pure hS hF (fun _ _ => rfl) rfl (fun x wv hSw hd => by
      go_simp))
  · exact FactsG.of rfl (fun _ _ _ h => absurd h (by decide)) (fun _ _ _ _ => rfl) (Facts.pure hS hF (fun _ _ => rfl) rfl (fun x wv hSw hd => by
      have d0 := eqF_get (hd ⟨0, .data⟩ (by simp) rfl _ rfl)
      have g1 := hSw.1.cell1
      simp only [d0]
      go_simp))
  · exact FactsG.of rfl (fun _ _ _ h => absurd h (by decide)) (fun _ _ _ _ => rfl) (Facts.pure hS hF (fun _ _ => rfl) rfl (fun x wv hSw hd => by
      have d1 := eqF_get (hd ⟨1, .data⟩ (by simp) rfl _ rfl)
      simp only [d1]
      go_simp))
  · exact FactsG.of rfl (fun _ _ _ h => absurd h (by decide)) (fun _ _ _ _ => rfl) (Facts.loadT hS hF (fun _ _ => rfl) _ rfl rfl (fun x wv hSw hd => by have d2 := eqF_get (hd ⟨2, .data⟩ (by simp) rfl _ rfl); exact d2) (fun wv hSw => t0.later hSw.2.2.2))
  · refine FactsG.of rfl (fun _ _ _ h => absurd h (by decide)) (fun _ _ _ _ => rfl) (Facts.call1T hS hF (fun _ _ => rfl) rfl (by kernel_rfl) rfl (fun x wv hSw hd => ?_))
    have d3 := eqF_get (hd ⟨3, .data⟩ (by simp) rfl _ rfl)
    have hc := r0 _ hSw.2.2.2
    rw [← d3] at hc
    exact hc
  · exact FactsG.of rfl (fun _ _ _ h => absurd h (by decide)) (fun _ _ _ _ => rfl) (Facts.pure hS hF (fun _ _ => rfl) rfl (fun x wv hSw hd => by
      go_simp))
  · exact FactsG.of rfl (fun _ _ _ h => absurd h (by decide)) (fun _ _ _ _ => rfl) (Facts.pure hS hF (fun _ _ => rfl) rfl (fun x wv hSw hd => by
      have d5 := eqF_get (hd ⟨5, .data⟩ (by simp) rfl _ rfl)
      have g1 := hSw.1.cell1
      simp only [d5]
      go_simp))
  · exact FactsG.of rfl (fun _ _ _ h => absurd h (by decide)) (fun _ _ _ _ => rfl) (Facts.pure hS hF (fun _ _ => rfl) rfl (fun x wv hSw hd => by
      have d6 := eqF_get (hd ⟨6, .data⟩ (by simp) rfl _ rfl)
      simp only [d6]
      go_simp))
  · exact FactsG.of rfl (fun _ _ _ h => absurd h (by decide)) (fun _ _ _ _ => rfl) (Facts.loadT hS hF (fun _ _ => rfl) _ rfl rfl (fun x wv hSw hd => by have d7 := eqF_get (hd ⟨7, .data⟩ (by simp) rfl _ rfl); exact d7) (fun wv hSw => t1.later hSw.2.2.2))
  · refine FactsG.of rfl (fun _ _ _ h => absurd h (by decide)) (fun _ _ _ _ => rfl) (Facts.call1T hS hF (fun _ _ => rfl) rfl (by kernel_rfl) rfl (fun x wv hSw hd => ?_))
    have d8 := eqF_get (hd ⟨8, .data⟩ (by simp) rfl _ rfl)
    have hc := r1 _ hSw.2.2.2
    rw [← d8] at hc
    exact hc
  · exact FactsG.allocT rfl rfl hS hF (fun _ _ => rfl) rfl rfl (fun wv hSw => hSw.2.2.1) (fun j f hfj hj => by simp only [List.mem_cons, List.not_mem_nil, or_false] at hj; rcases hj with rfl | rfl <;> exact ⟨_, (Option.some.inj hfj).symm⟩)
  · exact FactsG.allocT rfl rfl hS hF (fun _ _ => rfl) rfl rfl (fun wv hSw => hSw.2.2.1) (fun j f hfj hj => by simp only [List.mem_cons, List.not_mem_nil, or_false] at hj; rcases hj with rfl | rfl <;> exact ⟨_, (Option.some.inj hfj).symm⟩)
  · exact FactsG.storeP rfl rfl (by decide) (fun _ _ => rfl) _ _ rfl (by decide) (by decide) rfl (fun _ => rfl) (fun _ => rfl) (fun x wv hSw hd => ⟨hd ⟨10, .data⟩ (by simp) rfl _ rfl, hd ⟨4, .data⟩ (by simp) rfl _ rfl⟩) (fun wv q n p l c n' p' l' c' hSw hq hbx => ⟨hSw.1.rowOther (by omega) _, (by obtain ⟨n, p, l, c, h⟩ := hSw.2.1; exact ⟨n, p, l, c, h.rowOther (by omega) _⟩), (by rw [setRow_size]; exact hSw.2.2.1), below_setRow hSw.2.2.2 (by omega) _⟩) (fun x wv q n p l c hrel hxm hNq hq j f hj hfj hh => by
      match j with
      | 0 => obtain rfl := Option.some.inj hfj; exact eqF_box _ _ _ _ _ n p l c hh hq
      | 1 => obtain rfl := Option.some.inj hfj; exact eqF_box _ _ _ _ _ n p l c hh hq
      | 2 => obtain rfl := Option.some.inj hfj; exact eqF_box _ _ _ _ _ n p l c hh hq
      | 3 => obtain rfl := Option.some.inj hfj; exact eqF_box _ _ _ _ _ n p l c hh hq
      | 4 => obtain rfl := Option.some.inj hfj; exact isF_box _ _ _ _ _ n p l c hh hq
      | 5 => obtain rfl := Option.some.inj hfj; exact eqF_box _ _ _ _ _ n p l c hh hq
      | 6 => obtain rfl := Option.some.inj hfj; exact eqF_box _ _ _ _ _ n p l c hh hq
      | 7 => obtain rfl := Option.some.inj hfj; exact eqF_box _ _ _ _ _ n p l c hh hq
      | 8 => obtain rfl := Option.some.inj hfj; exact eqF_box _ _ _ _ _ n p l c hh hq
      | 9 => obtain rfl := Option.some.inj hfj; exact isF_box _ _ _ _ _ n p l c hh hq
      | 10 => obtain rfl := Option.some.inj hfj; exact alF_box _ _ _ _ _ n p l c hh hq
      | 11 => obtain rfl := Option.some.inj hfj; exact alF_box _ _ _ _ _ n p l c hh hq
      | 13 => obtain rfl := Option.some.inj hfj; exact sbF_other hh (fun h => hrel ⟨11, .phase⟩ (by simp) rfl ⟨10, .phase⟩ (by simp) rfl (by decide) (by decide) (by decide) (h.trans hxm.symm)) hq
      | 12 => exact absurd rfl hj
      | j + 14 => simp at hfj)
  · exact FactsG.storeP rfl rfl (by decide) (fun _ _ => rfl) _ _ rfl (by decide) (by decide) rfl (fun _ => rfl) (fun _ => rfl) (fun x wv hSw hd => ⟨hd ⟨11, .data⟩ (by simp) rfl _ rfl, hd ⟨9, .data⟩ (by simp) rfl _ rfl⟩) (fun wv q n p l c n' p' l' c' hSw hq hbx => ⟨hSw.1.rowOther (by omega) _, (by obtain ⟨n, p, l, c, h⟩ := hSw.2.1; exact ⟨n, p, l, c, h.rowOther (by omega) _⟩), (by rw [setRow_size]; exact hSw.2.2.1), below_setRow hSw.2.2.2 (by omega) _⟩) (fun x wv q n p l c hrel hxm hNq hq j f hj hfj hh => by
      match j with
      | 0 => obtain rfl := Option.some.inj hfj; exact eqF_box _ _ _ _ _ n p l c hh hq
      | 1 => obtain rfl := Option.some.inj hfj; exact eqF_box _ _ _ _ _ n p l c hh hq
      | 2 => obtain rfl := Option.some.inj hfj; exact eqF_box _ _ _ _ _ n p l c hh hq
      | 3 => obtain rfl := Option.some.inj hfj; exact eqF_box _ _ _ _ _ n p l c hh hq
      | 4 => obtain rfl := Option.some.inj hfj; exact isF_box _ _ _ _ _ n p l c hh hq
      | 5 => obtain rfl := Option.some.inj hfj; exact eqF_box _ _ _ _ _ n p l c hh hq
      | 6 => obtain rfl := Option.some.inj hfj; exact eqF_box _ _ _ _ _ n p l c hh hq
      | 7 => obtain rfl := Option.some.inj hfj; exact eqF_box _ _ _ _ _ n p l c hh hq
      | 8 => obtain rfl := Option.some.inj hfj; exact eqF_box _ _ _ _ _ n p l c hh hq
      | 9 => obtain rfl := Option.some.inj hfj; exact isF_box _ _ _ _ _ n p l c hh hq
      | 10 => obtain rfl := Option.some.inj hfj; exact alF_box _ _ _ _ _ n p l c hh hq
      | 11 => obtain rfl := Option.some.inj hfj; exact alF_box _ _ _ _ _ n p l c hh hq
      | 12 => obtain rfl := Option.some.inj hfj; exact sbF_other hh (fun h => hrel ⟨10, .phase⟩ (by simp) rfl ⟨11, .phase⟩ (by simp) rfl (by decide) (by decide) (by decide) (h.trans hxm.symm)) hq
      | 13 => exact absurd rfl hj
      | j + 14 => simp at hfj)
  rintro xa w5 ⟨h1, ⟨nr, pr, lr, cr, h2⟩, hN5, hbel⟩ hf hrel
  obtain ⟨q, na, pa, la, ca, d10, d4, hNq, hqa, ia⟩ := sbF_get (hf 12 _ (by decide) rfl)
  obtain ⟨q', nb, pb, lb, cb, d11, d9, hNq', hqb, ib⟩ := sbF_get (hf 13 _ (by decide) rfl)
  clear hf hS hF hrel r0 r1 t0 t1 h1
  simp only [d10, d4, d11, d9]
  clear d10 d4 d11 d9
  have HX : Hid (na = num x' ∧ la = len x') := is_parts ia
  have HY : Hid (nb = num y' ∧ lb = len y') := is_parts ib
  have HT : Hid ((decide (la = 0) && (decide (lb = 0) && nb == na)) = tw x' y') := by show _ = _; rw [HX.out.1, HX.out.2, HY.out.1, HY.out.2, tw_eq2]
  have g0 := hqa.cell0
  have g1 := hqa.cell1
  have hIL := refIsLeaf_any nb na pb lb cb
  by_cases hla : la = 0
  · subst hla
    have HT' : Hid ((decide (lb = 0) && nb == na) = tw x' y') := HT.out
    clear HT HY
    generalize (decide (lb = 0) && nb == na) = r at hIL HT'
    go_wp2_with (refine load_t _ rfl rfl _ _ rfl hqb.tat ?_)
    refine (hIL _).mono ?_
    rintro e w6 ⟨rfl, hb1⟩
    replace h2 := h2.later hb1
    replace hqa := hqa.later hb1
    replace hqb := hqb.later hb1
    replace ia := ia.later hb1
    replace ib := ib.later hb1
    replace hbel := below_on hbel hb1
    clear hb1 g0 g1 hIL HX
    cases r
    · obtain rfl : z = .node x' y' := by rw [← HZ.out, mk, ← HT'.out]; rfl
      clear HZ HT'
      go_wp2_with (first | refine load_t _ rfl rfl _ _ rfl hqa.tat ?_ | refine load_t _ rfl rfl _ _ rfl hqb.tat ?_)
      refine (inner_any x' y' _ _ _ _ _ _ _ _ _ ia ib).mono ?_
      rintro e w7 ⟨n', p', l', c', rfl, hi, hb1⟩
      replace h2 := h2.later hb1
      have R := below_setRow (below_on hbel hb1) (g := w.heap.size + 1) (by omega) #[.int .i64 n', .slice p' l' c']
      clear hbel hb1 hqa hqb
      go_wp2_with (refine store_t rfl _ _ rfl _ n' p' l' c' rfl rfl h2 ?_)
      exact bodyPost_ret (results_t rfl rfl (h2.row _ _ _ _)) rfl ⟨_, _, _, _, rfl, hi.box h2 _, R⟩
    · obtain rfl : z = x' := by rw [← HZ.out, mk, ← HT'.out]; rfl
      have R := below_setRow hbel (g := w.heap.size + 1) (by omega) #[.int .i64 na, .slice pa 0 ca]
      clear HZ HT' hbel
      go_wp2_with (first | refine load_t _ rfl rfl _ _ rfl hqa.tat ?_ | refine store_t rfl _ _ rfl _ na pa 0 ca rfl rfl h2 ?_)
      exact bodyPost_ret (results_t rfl rfl (h2.row _ _ _ _)) rfl ⟨_, _, _, _, rfl, ia.box h2 _, R⟩
  · obtain rfl : z = .node x' y' := by
      have h3 := HT.out
      rw [show decide (la = 0) = false by simpa using hla] at h3
      rw [← HZ.out, mk, ← h3]
      rfl
    have f0 : ((la : Int) == 0) = false := by simpa using hla
    clear HZ HT HX HY hla hIL
    go_wp2_with (first | refine load_t _ rfl rfl _ _ rfl hqa.tat ?_ | refine load_t _ rfl rfl _ _ rfl hqb.tat ?_)
    refine (inner_any x' y' _ _ _ _ _ _ _ _ _ ia ib).mono ?_
    rintro e w7 ⟨n', p', l', c', rfl, hi, hb1⟩
    replace h2 := h2.later hb1
    have R := below_setRow (below_on hbel hb1) (g := w.heap.size + 1) (by omega) #[.int .i64 n', .slice p' l' c']
    clear hbel hb1 hqa hqb g0 g1
    go_wp2_with (refine store_t rfl _ _ rfl _ n' p' l' c' rfl rfl h2 ?_)
    exact bodyPost_ret (results_t rfl rfl (h2.row _ _ _ _)) rfl ⟨_, _, _, _, rfl, hi.box h2 _, R⟩

set_option maxHeartbeats 2000000 in
set_option maxRecDepth 100000 in
theorem refNorm_leaf (b : Bool) (p : Option Addr) (c : Nat) (w : World) : Calls Try.prog 58 #[TV (bi b) p 0 c] w (Gives (.leaf b) w) := by
  obtain ⟨h1, h2, hbel⟩ := two_box w (bi b) p 0 c 0 none 0 0 _ rfl
  have g0 := h1.cell0
  have g1 := h1.cell1
  go_enter Try.func58, Try.ntmps58
  go_wp2_with fail
  refine (refLeaf_any _ _).mono ?_
  rintro e w2 ⟨rfl, hb1⟩
  replace h2 := h2.later hb1
  replace hbel := below_on hbel hb1
  clear hb1 h1 g0 g1
  have R := below_setRow hbel (g := w.heap.size + 1) (by omega) #[.int .i64 (bi b), .slice none 0 0]
  go_wp2_with (refine store_t rfl _ _ rfl _ (bi b) none 0 0 rfl rfl h2 ?_)
  exact bodyPost_ret (results_t rfl rfl (h2.row _ _ _ _)) rfl ⟨_, _, _, _, rfl, is_leaf _ _ _ _, R⟩

theorem refNorm_any : ∀ (x : ID) (n : Int) (p : Option Addr) (l c : Nat) (w : World), Is w x (TV n p l c) → Calls Try.prog 58 #[TV n p l c] w (Gives (norm x) w)
  | ⟨.inl b⟩, n, p, l, c, w, ⟨_, _, e⟩ => by
    simp at e
    obtain ⟨rfl, rfl, rfl, rfl⟩ := e
    exact refNorm_leaf b p c w
  | ⟨.inr (x, y)⟩, n, p, l, c, w, ⟨g, o, c', n0, p0, l0, c0, n1, p1, l1, c1, e, t0, t1, hx, hy⟩ => by
    simp at e
    obtain ⟨rfl, rfl, rfl, rfl⟩ := e
    exact refNorm_node (norm x) (norm y) g o c n0 p0 l0 c0 n1 p1 l1 c1 w t0 t1 (fun w1 hb => refNorm_any x _ _ _ _ w1 (hx.later hb)) (fun w1 hb => refNorm_any y _ _ _ _ w1 (hy.later hb))
end Go.Proofs.Ytmcajjdijjcpkaa.Idn
/- The functions Check and Norm of the document's answer. -/
namespace Go.Proofs.Ytmcajjdijjcpkaa.Idn
open Go.RowKit

set_option maxHeartbeats 4000000 in
set_option maxRecDepth 100000 in
theorem refCheck_yes (x : ID) (b : Bool) (hb : eqb (norm x) x = b) (n : Int) (p : Option Addr) (l c : Nat) (w : World) (hi : Is w x (TV n p l c))
    (rR : ∀ w1, Below w.heap.size w w1 → Calls Try.prog 57 #[TV n p l c, .int .i64 16] w1 fun e w' => e = .returned (.bool true) ∧ Below w1.heap.size w1 w') :
    Calls Try.prog 30 #[TV n p l c] w fun e w' => e = .returned (.bool b) ∧ Below w.heap.size w w' := by
  obtain ⟨h1, hbel⟩ := one_box w n p l c _ rfl
  replace hi := hi.later hbel
  go_enter Try.func30, Try.ntmps30
  go_wp2_with fail
  have hS : Calm.Stays (fun w' => Bx w' w.heap.size n p l c ∧ Is w' x (TV n p l c) ∧ Below w.heap.size w w') := fun wa wb h hb => ⟨h.1.later hb, h.2.1.later hb, below_on h.2.2 hb⟩
  have hF : Facts.Stay [eqF 0 (TV n p l c), eqF 1 (.bool true), eqF 2 (.bool true), eqF 3 (TV n p l c), isF 4 (norm x), eqF 5 (TV n p l c), eqF 6 (.bool b), eqF 7 (.bool b), eqF 8 (.bool b)] := stay_of (by simp only [List.forall_mem_cons]; exact ⟨eqF_stays _ _, eqF_stays _ _, eqF_stays _ _, eqF_stays _ _, isF_stays _ _, eqF_stays _ _, eqF_stays _ _, eqF_stays _ _, eqF_stays _ _, fun _ h => by cases h⟩)
  refine FactsG.region (by kernel_rfl) (by kernel_rfl) (fun w' => Bx w' w.heap.size n p l c ∧ Is w' x (TV n p l c) ∧ Below w.heap.size w w') (fun x => { tmps := #[TV n p l c, .pointer (some ⟨w.heap.size, 0, none⟩), x 8, x 0, x 1, x 2, x 3, x 4, x 5, x 6, x 7], defers := [] }) [eqF 0 (TV n p l c), eqF 1 (.bool true), eqF 2 (.bool true), eqF 3 (TV n p l c), isF 4 (norm x), eqF 5 (TV n p l c), eqF 6 (.bool b), eqF 7 (.bool b), eqF 8 (.bool b)] (NotOne []) (notOne_symm _) _ rfl rfl (by kernel_rfl) (fun k => if k = 8 then .bool false else undef) rfl (⟨h1, hi.later (Below.refl _ _).drew, hbel.drew⟩) ⟨?_, ?_, ?_, ?_, ?_, ?_, ?_, ?_, ?_, trivial⟩ ?_
  · exact FactsG.of rfl (fun _ _ _ h => absurd h (by decide)) (fun _ _ _ _ => rfl) (Facts.loadT hS hF (fun _ _ => rfl) _ rfl rfl (fun x wv hSw hd => by rfl) (fun wv hSw => hSw.1.tat))
  · refine FactsG.of rfl (fun _ _ _ h => absurd h (by decide)) (fun _ _ _ _ => rfl) (Facts.call2V hS hF (fun _ _ => rfl) rfl (by kernel_rfl) rfl (fun x wv hSw hd => ?_))
    have d0 := eqF_get (hd ⟨0, .data⟩ (by simp) rfl _ rfl)
    have hc := rR _ hSw.2.2
    rw [← d0] at hc
    exact hc
  · exact FactsG.of rfl (fun _ _ _ h => absurd h (by decide)) (fun _ _ _ _ => rfl) (Facts.pure hS hF (fun _ _ => rfl) rfl (fun x wv hSw hd => by
      have d1 := eqF_get (hd ⟨1, .data⟩ (by simp) rfl _ rfl)
      simp only [d1]
      go_simp))
  · exact FactsG.of rfl (fun _ _ _ h => absurd h (by decide)) (fun x wv hSw hd => by have dg := eqF_get (hd ⟨2, .guard⟩ (by simp) rfl _ rfl); simp only [dg]; rfl) (Facts.loadT hS hF (fun _ _ => rfl) _ rfl rfl (fun x wv hSw hd => by rfl) (fun wv hSw => hSw.1.tat))
  · refine FactsG.of rfl (fun _ _ _ h => absurd h (by decide)) (fun x wv hSw hd => by have dg := eqF_get (hd ⟨2, .guard⟩ (by simp) rfl _ rfl); simp only [dg]; rfl) (Facts.call1T hS hF (fun _ _ => rfl) rfl (by kernel_rfl) rfl (fun x wv hSw hd => ?_))
    have d3 := eqF_get (hd ⟨3, .data⟩ (by simp) rfl _ rfl)
    have hc := refNorm_any _ n p l c wv hSw.2.1
    rw [← d3] at hc
    exact hc
  · exact FactsG.of rfl (fun _ _ _ h => absurd h (by decide)) (fun x wv hSw hd => by have dg := eqF_get (hd ⟨2, .guard⟩ (by simp) rfl _ rfl); simp only [dg]; rfl) (Facts.loadT hS hF (fun _ _ => rfl) _ rfl rfl (fun x wv hSw hd => by rfl) (fun wv hSw => hSw.1.tat))
  · refine FactsG.of rfl (fun _ _ _ h => absurd h (by decide)) (fun x wv hSw hd => by have dg := eqF_get (hd ⟨2, .guard⟩ (by simp) rfl _ rfl); simp only [dg]; rfl) (Facts.call2V hS hF (fun _ _ => rfl) rfl (by kernel_rfl) rfl (fun x wv hSw hd => ?_))
    obtain ⟨n4i, p4i, l4i, c4i, d4, e4⟩ := isF_get (hd ⟨4, .data⟩ (by simp) rfl _ rfl)
    have d5 := eqF_get (hd ⟨5, .data⟩ (by simp) rfl _ rfl)
    have hc := same_any _ _ n4i p4i l4i c4i n p l c wv e4 hSw.2.1
    rw [← d4, ← d5, hb] at hc
    exact hc
  · exact FactsG.of rfl (fun _ _ _ h => absurd h (by decide)) (fun _ _ _ _ => rfl) (Facts.pure hS hF (fun _ _ => rfl) rfl (fun x wv hSw hd => by
      have d2 := eqF_get (hd ⟨2, .data⟩ (by simp) rfl _ rfl)
      have d6 := eqF_get (hd ⟨6, .data⟩ (by simp) rfl _ rfl)
      simp only [d2, d6]
      go_simp))
  · exact FactsG.of rfl (fun _ _ _ h => absurd h (by decide)) (fun _ _ _ _ => rfl) (Facts.pure hS hF (fun _ _ => rfl) rfl (fun x wv hSw hd => by
      have d7 := eqF_get (hd ⟨7, .data⟩ (by simp) rfl _ rfl)
      simp only [d7]
      go_simp))
  rintro xa w5 ⟨_, _, hbel⟩ hf _
  have d8 := eqF_get (hf 8 _ (by decide) rfl)
  clear hf
  simp only [d8]
  go_wp2
  go_ret
  exact ⟨rfl, hbel⟩

set_option maxHeartbeats 4000000 in
set_option maxRecDepth 100000 in
theorem refCheck_no (n : Int) (p : Option Addr) (l c : Nat) (w : World)
    (rR : ∀ w1, Below w.heap.size w w1 → Calls Try.prog 57 #[TV n p l c, .int .i64 16] w1 fun e w' => e = .returned (.bool false) ∧ Below w1.heap.size w1 w') :
    Calls Try.prog 30 #[TV n p l c] w fun e w' => e = .returned (.bool false) ∧ Below w.heap.size w w' := by
  obtain ⟨h1, hbel⟩ := one_box w n p l c _ rfl
  go_enter Try.func30, Try.ntmps30
  go_wp2_with fail
  have hs : Calm.Stays (fun w' => Tat w' w.heap.size 0 n p l c ∧ Below w.heap.size w w') := fun wa wb h hb => ⟨h.1.later hb, below_on h.2 hb⟩
  refine Calm.region (by kernel_rfl) (by kernel_rfl) (fun w' => Tat w' w.heap.size 0 n p l c ∧ Below w.heap.size w w') ⟨h1.tat, hbel.drew⟩ ?_
  all_goals
    refine Calm.loadT (by rfl) _ rfl rfl (fun _ h => by go_split_ands; assumption) ?_
    simp only [Act.put, List.setIfInBounds_toArray, List.set_cons_zero, List.set_cons_succ]
  all_goals
    refine Calm.call2s (by rfl) rfl rfl rfl (by kernel_rfl) hs (fun w1 h => rR w1 h.2) ?_
    simp only [Act.put, List.setIfInBounds_toArray, List.set_cons_zero, List.set_cons_succ]
  all_goals
    refine Calm.pure (v := ?_) (by rfl) ?_ ?_
    rotate_left
    focus (intro w hSw; go_simp <;> rfl)
    simp only [Act.put, List.setIfInBounds_toArray, List.set_cons_zero, List.set_cons_succ]
  all_goals
    (refine Calm.skip ?_ ?_; focus rfl)
    simp only [Act.put, List.setIfInBounds_toArray, List.set_cons_zero, List.set_cons_succ]
  all_goals
    (refine Calm.skip ?_ ?_; focus rfl)
    simp only [Act.put, List.setIfInBounds_toArray, List.set_cons_zero, List.set_cons_succ]
  all_goals
    (refine Calm.skip ?_ ?_; focus rfl)
    simp only [Act.put, List.setIfInBounds_toArray, List.set_cons_zero, List.set_cons_succ]
  all_goals
    (refine Calm.skip ?_ ?_; focus rfl)
    simp only [Act.put, List.setIfInBounds_toArray, List.set_cons_zero, List.set_cons_succ]
  all_goals
    refine Calm.pure (v := ?_) (by rfl) ?_ ?_
    rotate_left
    focus (intro w hSw; go_simp <;> rfl)
    simp only [Act.put, List.setIfInBounds_toArray, List.set_cons_zero, List.set_cons_succ]
  all_goals
    refine Calm.pure (v := ?_) (by rfl) ?_ ?_
    rotate_left
    focus (intro w hSw; go_simp <;> rfl)
    simp only [Act.put, List.setIfInBounds_toArray, List.set_cons_zero, List.set_cons_succ]
  rintro w9 ⟨_, hbel9⟩
  go_wp2
  go_ret
  exact ⟨rfl, hbel9⟩

theorem refCheck_tr (t : Tr) (n : Int) (p : Option Addr) (l c : Nat) (w : World) (ht : Lies w t (TV n p l c)) : Calls Try.prog 30 #[TV n p l c] w fun e w' => e = .returned (.bool (okT t)) ∧ Below w.heap.size w w' := by
  have rR := fun w1 (hb : Below w.heap.size w w1) => refRough_any t 16 n p l c w1 (ht.later hb) (by omega)
  unfold okT
  cases hr : rough t 16
  · rw [hr] at rR
    exact refCheck_no n p l c w rR
  · rw [hr] at rR
    exact refCheck_yes (idOf t) _ (norm_eq _) n p l c w (is_of_lies t 16 _ hr ht).1 rR

end Go.Proofs.Ytmcajjdijjcpkaa.Idn
/- Seed, Join and Peek of package stamp; Few and Check of the document's answer. -/
namespace Go.Proofs.Ytmcajjdijjcpkaa
open Go.RowKit
open Idn (ID)

/-- The call answers a stamp; a stamp and a number; two stamps and a number. -/
abbrev GivesS (x : ID) (y : EV) (w : World) (e : Ending) (w' : World) : Prop := ∃ n p l c n' p' l' c', e = .returned (SV n p l c n' p' l' c') ∧ Idn.Is w' x (TV n p l c) ∧ Is w' y (TV n' p' l' c') ∧ Below w.heap.size w w'
abbrev GivesSE (x : ID) (y : EV) (r : Int) (w : World) (e : Ending) (w' : World) : Prop := ∃ n p l c n' p' l' c', e = .returned (.tuple #[SV n p l c n' p' l' c', .int .i64 r]) ∧ Idn.Is w' x (TV n p l c) ∧ Is w' y (TV n' p' l' c') ∧ Below w.heap.size w w'
abbrev GivesSSE (x : ID) (y : EV) (x2 : ID) (y2 : EV) (r : Int) (w : World) (e : Ending) (w' : World) : Prop := ∃ n p l c n' p' l' c' m q k d m' q' k' d', e = .returned (.tuple #[SV n p l c n' p' l' c', SV m q k d m' q' k' d', .int .i64 r]) ∧ Idn.Is w' x (TV n p l c) ∧ Is w' y (TV n' p' l' c') ∧ Idn.Is w' x2 (TV m q k d) ∧ Is w' y2 (TV m' q' k' d') ∧ Below w.heap.size w w'
abbrev zI : ID := .leaf false
abbrev zE : EV := .leaf 0
theorem zI_is (w : World) : Idn.Is w zI (TV 0 none 0 0) := Idn.is_leaf w false none 0
theorem zE_is (w : World) : Is w zE (TV 0 none 0 0) := is_leaf w 0 none 0

set_option maxRecDepth 100000 in
theorem seed_any (w : World) : Calls Try.prog 24 #[] w (Tells (SV 1 none 0 0 0 none 0 0) w) := by
  obtain ⟨h1, hbel⟩ := one_r w 26 #[.int .i64 0, .slice none 0 0, .int .i64 0, .slice none 0 0] _ rfl
  go_enter Try.func24, Try.ntmps24
  go_wp2_with fail
  refine (sLeaf_any 1 _).mono ?_
  rintro e w1 ⟨rfl, hb1⟩
  replace h1 := h1.later hb1
  have R := below_setRow (below_on hbel hb1) (Nat.le_refl _) #[.int .i64 1, .slice none 0 0, .int .i64 0, .slice none 0 0]
  clear hb1 hbel
  go_wp2_with (refine store_s rfl _ _ rfl _ 1 none 0 0 0 none 0 0 rfl rfl h1 ?_)
  exact bodyPost_ret (results_s rfl rfl (h1.row _)) rfl ⟨rfl, R⟩
set_option maxHeartbeats 1000000 in
set_option maxRecDepth 100000 in
theorem peek_tr (u : Tr) (n : Int) (p : Option Addr) (l c : Nat) (n' : Int) (p' : Option Addr) (l' c' : Nat) (w : World) (hu : Lies w u (TV n' p' l' c')) (hz : sz u ≤ 120) :
    Calls Try.prog 10 #[SV n p l c n' p' l' c'] w fun e w' => ∃ m q k d, e = .returned (SV 0 none 0 0 m q k d) ∧ Lies w' u (TV m q k d) ∧ Below w.heap.size w w' := by
  obtain ⟨h1, h2, hbel⟩ := two_r w 26 #[.int .i64 n, .slice p l c, .int .i64 n', .slice p' l' c'] 26 #[.int .i64 0, .slice none 0 0, .int .i64 0, .slice none 0 0] _ rfl
  have r1 := fun w1 (hb : Below w.heap.size w w1) => tree_tr u 120 n' p' l' c' w1 (hu.later hb) (nar_of_sz u (by omega)) (dpt_of_sz 120 u (by omega)) (by omega) (by omega)
  clear hu hz
  go_enter Try.func10, Try.ntmps10
  go_wp2_with (refine load_t _ rfl rfl _ _ rfl (Sx.tat1 h1) ?_)
  refine (r1 _ hbel).mono ?_
  rintro e w2 ⟨m, q, k, d, rfl, hN, hb1⟩
  have hlt := h2.lt
  replace h2 := h2.later hb1
  have R := below_setRow (below_on hbel hb1) (g := w.heap.size + 1) (by omega) #[.int .i64 0, .slice none 0 0, .int .i64 m, .slice q k d]
  have hL := (hN.row (q := w.heap.size + 1) hlt #[.int .i64 0, .slice none 0 0, .int .i64 m, .slice q k d]).here
  clear hb1 hbel hN h1 r1
  go_wp2_with (refine store_s rfl _ _ rfl _ 0 none 0 0 m q k d rfl rfl h2 ?_)
  exact bodyPost_ret (results_s rfl rfl (h2.row _)) rfl ⟨_, _, _, _, rfl, hL, R⟩

set_option maxHeartbeats 2000000 in
set_option maxRecDepth 100000 in
theorem join_bad (t u t' u' : Tr) (n : Int) (p : Option Addr) (l c : Nat) (n' : Int) (p' : Option Addr) (l' c' : Nat) (m : Int) (q : Option Addr) (k d : Nat) (m' : Int) (q' : Option Addr) (k' d' : Nat) (w : World) (ht : Lies w t (TV n p l c)) (hu : Lies w u (TV n' p' l' c')) (ht' : Lies w t' (TV m q k d)) (hu' : Lies w u' (TV m' q' k' d'))
    (hb : ((Idn.okT t && okT u) && (Idn.okT t' && okT u')) = false) :
    Calls Try.prog 11 #[SV n p l c n' p' l' c', SV m q k d m' q' k' d'] w (GivesSE zI zE 3 w) := by
  obtain ⟨h1, h2, h3, hbel⟩ := three_r w 26 #[.int .i64 n, .slice p l c, .int .i64 n', .slice p' l' c'] 26 #[.int .i64 m, .slice q k d, .int .i64 m', .slice q' k' d'] 26 #[.int .i64 0, .slice none 0 0, .int .i64 0, .slice none 0 0] _ rfl
  have r0 := fun w1 (hb : Below w.heap.size w w1) => sCheck_tr t u n p l c n' p' l' c' w1 (ht.later hb) (hu.later hb)
  have r1 := fun w1 (hb : Below w.heap.size w w1) => sCheck_tr t' u' m q k d m' q' k' d' w1 (ht'.later hb) (hu'.later hb)
  have HB : Hid (((Idn.okT t && okT u) && (Idn.okT t' && okT u')) = false) := hb
  clear hb ht hu ht' hu'
  generalize (Idn.okT t && okT u) = b0 at r0 HB
  generalize (Idn.okT t' && okT u') = b1 at r1 HB
  go_enter Try.func11, Try.ntmps11
  go_wp2_with (refine load_s _ rfl rfl _ rfl h1 ?_)
  refine (r0 _ hbel).mono ?_
  rintro e w1 ⟨rfl, hb1⟩
  replace h2 := h2.later hb1
  replace h3 := h3.later hb1
  replace hbel := below_on hbel hb1
  clear hb1 r0 h1
  cases b0
  · have R := below_setRow hbel (g := w.heap.size + 1 + 1) (by omega) #[.int .i64 0, .slice none 0 0, .int .i64 0, .slice none 0 0]
    clear r1 HB h2 hbel
    go_wp2_with (refine store_s rfl _ _ rfl _ 0 none 0 0 0 none 0 0 rfl rfl h3 ?_)
    exact bodyPost_ret (results_se rfl rfl (h3.row _)) rfl ⟨_, _, _, _, _, _, _, _, rfl, zI_is _, zE_is _, R⟩
  · go_wp2_with (refine load_s _ rfl rfl _ rfl h2 ?_)
    refine (r1 _ hbel).mono ?_
    rintro e w2 ⟨rfl, hb1⟩
    replace h3 := h3.later hb1
    replace hbel := below_on hbel hb1
    obtain rfl : b1 = false := by simpa using HB.out
    have R := below_setRow hbel (g := w.heap.size + 1 + 1) (by omega) #[.int .i64 0, .slice none 0 0, .int .i64 0, .slice none 0 0]
    clear hb1 r1 HB h2 hbel
    go_wp2_with (refine store_s rfl _ _ rfl _ 0 none 0 0 0 none 0 0 rfl rfl h3 ?_)
    exact bodyPost_ret (results_se rfl rfl (h3.row _)) rfl ⟨_, _, _, _, _, _, _, _, rfl, zI_is _, zE_is _, R⟩
theorem sCheck_is {i : ID} {e : EV} {n : Int} {p : Option Addr} {l c : Nat} {n' : Int} {p' : Option Addr} {l' c' : Nat} {w : World} (hi : Idn.Is w i (TV n p l c)) (he : Is w e (TV n' p' l' c')) (ki : Idn.ok i = true) (ke : ok e = true) : Calls Try.prog 20 #[SV n p l c n' p' l' c'] w (Tells (.bool true) w) := by
  have := sCheck_tr (Idn.toTr i) (toTr e) n p l c n' p' l' c' w (Idn.lies_is i _ hi) (lies_ok he ke)
  rwa [Idn.okT_to, okT_to, ki, ke] at this
/-- What a Join of two that may be comes to. -/
def jI (x y : ID) : ID := Idn.uT (Idn.unite x y)
def jE (x y : ID) : Int := Idn.uE (Idn.unite x y)
def jX (x y : ID) (a b : EV) : EV := if (Idn.unite x y).isSome then join 16 a b else .leaf 0
set_option maxHeartbeats 4000000 in
set_option maxRecDepth 100000 in
theorem join_ok (x y : ID) (a b : EV) (n : Int) (p : Option Addr) (l c : Nat) (n' : Int) (p' : Option Addr) (l' c' : Nat) (m : Int) (q : Option Addr) (k d : Nat) (m' : Int) (q' : Option Addr) (k' d' : Nat) (w : World) (hx : Idn.Is w x (TV n p l c)) (ha : Is w a (TV n' p' l' c')) (hy : Idn.Is w y (TV m q k d)) (hb : Is w b (TV m' q' k' d'))
    (kx : Idn.ok x = true) (ka : ok a = true) (ky : Idn.ok y = true) (kb : ok b = true) :
    Calls Try.prog 11 #[SV n p l c n' p' l' c', SV m q k d m' q' k' d'] w (GivesSE (jI x y) (jX x y a b) (jE x y) w) := by
  obtain ⟨h1, h2, h3, hbel⟩ := three_r w 26 #[.int .i64 n, .slice p l c, .int .i64 n', .slice p' l' c'] 26 #[.int .i64 m, .slice q k d, .int .i64 m', .slice q' k' d'] 26 #[.int .i64 0, .slice none 0 0, .int .i64 0, .slice none 0 0] _ rfl
  have r0 := fun w1 (hb1 : Below w.heap.size w w1) => sCheck_is (hx.later hb1) (ha.later hb1) kx ka
  have r1 := fun w1 (hb1 : Below w.heap.size w w1) => sCheck_is (hy.later hb1) (hb.later hb1) ky kb
  have r2 := fun w1 (hb1 : Below w.heap.size w w1) => Idn.sum_any x y n p l c m q k d w1 (hx.later hb1) (hy.later hb1)
  rw [Idn.sumX_ok kx ky, Idn.sumE_ok kx ky] at r2
  have r3 := fun w1 (hb1 : Below w.heap.size w w1) => join_any a b n' p' l' c' m' q' k' d' w1 (ha.later hb1) (hb.later hb1) ka kb
  have HS : Hid (∀ z, Idn.unite x y = some z → Idn.short z = true) := show ∀ z, _ from fun z hz => Idn.short_unite x y z (Idn.ok_parts kx).2 (Idn.ok_parts ky).2 hz
  have HJ : Hid (short (join 16 a b) = true) := short_join 16 a b
  unfold jI jE jX
  clear hx ha hy hb kx ka ky kb
  generalize Idn.unite x y = U at r2 HS ⊢
  generalize join 16 a b = J at r3 HJ ⊢
  cases U
  case' none =>
    simp only [Idn.uT, Idn.uE, Option.getD_none, Option.isSome_none, Bool.false_eq_true, if_false] at r2 ⊢
    clear r3 HS HJ
  case' some z =>
    simp only [Idn.uT, Idn.uE, Option.getD_some, Option.isSome_some, if_true] at r2 ⊢
    have hsz : Idn.short z = true := HS.out z rfl
  all_goals
    go_enter Try.func11, Try.ntmps11
    go_wp2_with (refine load_s _ rfl rfl _ rfl h1 ?_)
    refine (r0 _ hbel).mono ?_
    rintro e w1 ⟨rfl, hb1⟩
    replace h1 := h1.later hb1
    replace h2 := h2.later hb1
    replace h3 := h3.later hb1
    replace hbel := below_on hbel hb1
    clear hb1 r0
    go_wp2_with (refine load_s _ rfl rfl _ rfl h2 ?_)
    refine (r1 _ hbel).mono ?_
    rintro e w2 ⟨rfl, hb1⟩
    replace h1 := h1.later hb1
    replace h2 := h2.later hb1
    replace h3 := h3.later hb1
    replace hbel := below_on hbel hb1
    clear hb1 r1
    go_wp2_with (first | refine load_t _ rfl rfl _ _ rfl (Sx.tat0 h1) ?_ | refine load_t _ rfl rfl _ _ rfl (Sx.tat0 h2) ?_)
    refine (r2 _ hbel).mono ?_
    rintro e w3 ⟨nz, pz, lz, cz, rfl, iz, hb1⟩
    replace h1 := h1.later hb1
    replace h2 := h2.later hb1
    replace h3 := h3.later hb1
    replace hbel := below_on hbel hb1
    clear hb1 r2
    have m0 := bx_new w3 0 none 0 0
    have bz := new_box w3 nz pz lz cz
    have hb1 := new_below w3 nz pz lz cz
    generalize hw : (w3.alloc (.cells #[.int .i64 0, .slice none 0 0] 24)).setRow w3.heap.size #[.int .i64 nz, .slice pz lz cz] = v at bz hb1
    replace h1 := h1.later hb1
    replace h2 := h2.later hb1
    replace h3 := h3.later hb1
    replace iz := iz.later hb1
    replace hbel := below_on hbel hb1
    clear hb1
  · go_wp2_with (first | rw [hw] | refine store_t rfl _ _ rfl _ nz pz lz cz rfl rfl m0 ?_ | refine load_t _ rfl rfl _ _ rfl (Sx.tat1 h1) ?_ | refine load_t _ rfl rfl _ _ rfl (Sx.tat1 h2) ?_)
    clear m0 hw
    refine (r3 _ hbel).mono ?_
    rintro e w4 ⟨nj, pj, lj, cj, rfl, ij, hb1⟩
    replace h3 := h3.later hb1
    replace bz := bz.later hb1
    replace iz := iz.later hb1
    replace hbel := below_on hbel hb1
    clear hb1 r3 h1 h2
    generalize w3.heap.size = g5 at bz ⊢
    have m0 := bx_new w4 0 none 0 0
    have bj := new_box w4 nj pj lj cj
    have hb1 := new_below w4 nj pj lj cj
    generalize hw : (w4.alloc (.cells #[.int .i64 0, .slice none 0 0] 24)).setRow w4.heap.size #[.int .i64 nj, .slice pj lj cj] = v4 at bj hb1
    replace h3 := h3.later hb1
    replace iz := iz.later hb1
    replace ij := ij.later hb1
    replace bz := bz.later hb1
    replace hbel := below_on hbel hb1
    clear hb1
    have R := below_setRow hbel (g := w.heap.size + 1 + 1) (by omega) #[.int .i64 nz, .slice pz lz cz, .int .i64 nj, .slice pj lj cj]
    go_wp2_with (first | rw [hw] | refine store_t rfl _ _ rfl _ nj pj lj cj rfl rfl m0 ?_ | refine load_t _ rfl rfl _ _ rfl bz.tat ?_ | refine load_t _ rfl rfl _ _ rfl bj.tat ?_ | refine store_s rfl _ _ rfl _ nz pz lz cz nj pj lj cj rfl rfl h3 ?_)
    exact bodyPost_ret (results_se rfl rfl (h3.row _)) rfl ⟨_, _, _, _, _, _, _, _, rfl, Idn.Is.zrow h3 hsz iz _, Is.zrow h3 HJ.out ij _, R⟩
  · have R := below_setRow hbel (g := w.heap.size + 1 + 1) (by omega) #[.int .i64 0, .slice none 0 0, .int .i64 0, .slice none 0 0]
    subst hw
    go_wp2_with (first | refine store_t rfl _ _ rfl _ nz pz lz cz rfl rfl m0 ?_ | refine store_s rfl _ _ rfl _ 0 none 0 0 0 none 0 0 rfl rfl h3 ?_)
    exact bodyPost_ret (results_se rfl rfl (h3.row _)) rfl ⟨_, _, _, _, _, _, _, _, rfl, zI_is _, zE_is _, R⟩
end Go.Proofs.Ytmcajjdijjcpkaa
