import Derived.Test.YtmcajjdijjcpkaaP23
import Derived.Test.YtmcajjdijjcpkaaQStampTells2
/- The function first of the document's answer. -/
namespace Go.Proofs.Ytmcajjdijjcpkaa.Idn
open Go.RowKit

/-- The document's two halves. -/
def rfirst : ID → ID × ID
  | ⟨.inl _⟩ => (.node (.leaf true) (.leaf false), .node (.leaf false) (.leaf true))
  | ⟨.inr (x, y)⟩ => if nil x then (.node x (rfirst y).1, .node x (rfirst y).2) else if nil y then (.node (rfirst x).1 y, .node (rfirst x).2 y) else (.node x (.leaf false), .node (.leaf false) y)

set_option maxHeartbeats 8000000 in
set_option maxRecDepth 100000 in
theorem first_node (a b da ea db eb : ID) (g o c : Nat) (n0 : Int) (p0 : Option Addr) (l0 c0 : Nat) (n1 : Int) (p1 : Option Addr) (l1 c1 : Nat) (w : World) (t0 : Tat w g o n0 p0 l0 c0) (t1 : Tat w g (o + 2) n1 p1 l1 c1) (hx : Is w a (TV n0 p0 l0 c0)) (hy : Is w b (TV n1 p1 l1 c1))
    (r0 : ∀ n p l c w1, Is w1 a (TV n p l c) → Calls Try.prog 74 #[TV n p l c] w1 (GivesT da ea w1)) (r1 : ∀ n p l c w1, Is w1 b (TV n p l c) → Calls Try.prog 74 #[TV n p l c] w1 (GivesT db eb w1)) :
    Calls Try.prog 74 #[TV 0 (some ⟨g, o, none⟩) 2 c] w (GivesT (if nil a then .node a db else if nil b then .node da b else .node a (.leaf false)) (if nil a then .node a eb else if nil b then .node ea b else .node (.leaf false) b) w) := by
  obtain ⟨h1, h2, h3, hbel⟩ := three_box w 0 (some ⟨g, o, none⟩) 2 c 0 none 0 0 0 none 0 0 _ rfl
  obtain ⟨za, zb, HA, HB⟩ : ∃ za zb, Hid ((if nil a then ID.node a db else if nil b then .node da b else .node a (.leaf false)) = za) ∧ Hid ((if nil a then ID.node a eb else if nil b then .node ea b else .node (.leaf false) b) = zb) := ⟨_, _, rfl, rfl⟩
  rw [HA.out, HB.out]
  generalize hw0 : ((w.alloc (.cells #[.int .i64 0, .slice (some ⟨g, o, none⟩) 2 c] 24)).alloc (.cells #[.int .i64 0, .slice none 0 0] 24)).alloc (.cells #[.int .i64 0, .slice none 0 0] 24) = w0 at h1 h2 h3 hbel
  have g1 := h1.cell1
  have HXY : Hid (Is w a (TV n0 p0 l0 c0) ∧ Is w b (TV n1 p1 l1 c1)) := ⟨hx, hy⟩
  clear hx hy
  go_enter Try.func74, Try.ntmps74
  go_wp2_with (rw [hw0])
  have hlt := h3.lt
  obtain ⟨hx, hy⟩ := HXY.out
  clear g1 hw0 HXY
  have hS : Calm.Stays (fun w' => Bx w' (w.heap.size) 0 (some ⟨g, o, none⟩) 2 c ∧ (∃ n p l c, Bx w' (w.heap.size + 1) n p l c) ∧ (∃ n p l c, Bx w' (w.heap.size + 1 + 1) n p l c) ∧ w0.heap.size ≤ w'.heap.size ∧ Below w.heap.size w w') := fun wa wb h hb => ⟨h.1.later hb, (by obtain ⟨n, p, l, c, h2⟩ := h.2.1; exact ⟨n, p, l, c, h2.later hb⟩), (by obtain ⟨n, p, l, c, h2⟩ := h.2.2.1; exact ⟨n, p, l, c, h2.later hb⟩), Nat.le_trans h.2.2.2.1 hb.size, below_on h.2.2.2.2 hb⟩
  have hF : Facts.Stay [eqF 0 (.pointer (some ⟨w.heap.size, 1, none⟩)), eqF 1 (.slice (some ⟨g, o, none⟩) 2 c), eqF 2 (.pointer (some ⟨g, o, none⟩)), eqF 3 (TV n0 p0 l0 c0), eqF 4 (.pointer (some ⟨w.heap.size, 1, none⟩)), eqF 5 (.slice (some ⟨g, o, none⟩) 2 c), eqF 6 (.pointer (some ⟨g, o + 2, none⟩)), eqF 7 (TV n1 p1 l1 c1), alF 8 w0.heap.size, alF 9 w0.heap.size, sbF 8 3 w0.heap.size a, sbF 9 7 w0.heap.size b] := stay_of (by simp only [List.forall_mem_cons]; exact ⟨eqF_stays _ _, eqF_stays _ _, eqF_stays _ _, eqF_stays _ _, eqF_stays _ _, eqF_stays _ _, eqF_stays _ _, eqF_stays _ _, alF_stays _ _, alF_stays _ _, sbF_stays _ _ _ _, sbF_stays _ _ _ _, fun _ h => by cases h⟩)
  refine FactsG.region (by kernel_rfl) (by kernel_rfl) (fun w' => Bx w' (w.heap.size) 0 (some ⟨g, o, none⟩) 2 c ∧ (∃ n p l c, Bx w' (w.heap.size + 1) n p l c) ∧ (∃ n p l c, Bx w' (w.heap.size + 1 + 1) n p l c) ∧ w0.heap.size ≤ w'.heap.size ∧ Below w.heap.size w w') (fun x => { tmps := #[TV 0 (some ⟨g, o, none⟩) 2 c, .pointer (some ⟨w.heap.size, 0, none⟩), .pointer (some ⟨w.heap.size + 1, 0, none⟩), .pointer (some ⟨w.heap.size + 1 + 1, 0, none⟩), x 8, x 9, undef, undef, undef, undef, .pointer (some ⟨w.heap.size, 1, none⟩), .slice (some ⟨g, o, none⟩) 2 c, .int .i64 2, .bool false, undef, undef, undef, undef, undef, undef, x 0, x 1, x 2, x 3, x 4, x 5, x 6, x 7, undef, undef, undef, undef, undef, undef, undef, undef, undef, undef, undef, undef, undef, undef, undef, undef, undef, undef, undef, undef, undef, undef, undef, undef, undef, undef, undef, undef, undef, undef, undef, undef], defers := [] }) [eqF 0 (.pointer (some ⟨w.heap.size, 1, none⟩)), eqF 1 (.slice (some ⟨g, o, none⟩) 2 c), eqF 2 (.pointer (some ⟨g, o, none⟩)), eqF 3 (TV n0 p0 l0 c0), eqF 4 (.pointer (some ⟨w.heap.size, 1, none⟩)), eqF 5 (.slice (some ⟨g, o, none⟩) 2 c), eqF 6 (.pointer (some ⟨g, o + 2, none⟩)), eqF 7 (TV n1 p1 l1 c1), alF 8 w0.heap.size, alF 9 w0.heap.size, sbF 8 3 w0.heap.size a, sbF 9 7 w0.heap.size b] (NotOne [8, 9]) (notOne_symm _) _ rfl rfl (by kernel_rfl) (fun _ => undef) rfl (⟨h1, ⟨_, _, _, _, h2⟩, ⟨_, _, _, _, h3⟩, Nat.le_refl _, hbel.drew⟩) ⟨?_, ?_, ?_, ?_, ?_, ?_, ?_, ?_, ?_, ?_, ?_, ?_, trivial⟩ ?_
  · exact FactsG.of rfl (fun _ _ _ h => absurd h (by decide)) (fun _ _ _ _ => rfl) (Facts.pure hS hF (fun _ _ => rfl) rfl (fun x wv hSw hd => by
      go_simp))
  · exact FactsG.of rfl (fun _ _ _ h => absurd h (by decide)) (fun _ _ _ _ => rfl) (Facts.pure hS hF (fun _ _ => rfl) rfl (fun x wv hSw hd => by
      have d0 := eqF_get (hd ⟨0, .data⟩ (by simp) rfl _ rfl)
      have g1 := hSw.1.cell1
      simp only [d0]
      go_simp))
  · exact FactsG.of rfl (fun _ _ _ h => absurd h (by decide)) (fun _ _ _ _ => rfl) (Facts.pure hS hF (fun _ _ => rfl) rfl (fun x wv hSw hd => by
      have d1 := eqF_get (hd ⟨1, .data⟩ (by simp) rfl _ rfl)
      simp only [d1]
      go_simp))
  · exact FactsG.of rfl (fun _ _ _ h => absurd h (by decide)) (fun _ _ _ _ => rfl) (Facts.loadT hS hF (fun _ _ => rfl) _ rfl rfl (fun x wv hSw hd => by have d2 := eqF_get (hd ⟨2, .data⟩ (by simp) rfl _ rfl); exact d2) (fun wv hSw => t0.later hSw.2.2.2.2))
  · exact FactsG.of rfl (fun _ _ _ h => absurd h (by decide)) (fun _ _ _ _ => rfl) (Facts.pure hS hF (fun _ _ => rfl) rfl (fun x wv hSw hd => by
      go_simp))
  · exact FactsG.of rfl (fun _ _ _ h => absurd h (by decide)) (fun _ _ _ _ => rfl) (Facts.pure hS hF (fun _ _ => rfl) rfl (fun x wv hSw hd => by
      have d4 := eqF_get (hd ⟨4, .data⟩ (by simp) rfl _ rfl)
      have g1 := hSw.1.cell1
      simp only [d4]
      go_simp))
  · exact FactsG.of rfl (fun _ _ _ h => absurd h (by decide)) (fun _ _ _ _ => rfl) (Facts.pure hS hF (fun _ _ => rfl) rfl (fun x wv hSw hd => by
      have d5 := eqF_get (hd ⟨5, .data⟩ (by simp) rfl _ rfl)
      simp only [d5]
      go_simp))
  · exact FactsG.of rfl (fun _ _ _ h => absurd h (by decide)) (fun _ _ _ _ => rfl) (Facts.loadT hS hF (fun _ _ => rfl) _ rfl rfl (fun x wv hSw hd => by have d6 := eqF_get (hd ⟨6, .data⟩ (by simp) rfl _ rfl); exact d6) (fun wv hSw => t1.later hSw.2.2.2.2))
  · exact FactsG.allocT rfl rfl hS hF (fun _ _ => rfl) rfl rfl (fun wv hSw => hSw.2.2.2.1) (fun j f hfj hj => by simp only [List.mem_cons, List.not_mem_nil, or_false] at hj; rcases hj with rfl | rfl <;> exact ⟨_, (Option.some.inj hfj).symm⟩)
  · exact FactsG.allocT rfl rfl hS hF (fun _ _ => rfl) rfl rfl (fun wv hSw => hSw.2.2.2.1) (fun j f hfj hj => by simp only [List.mem_cons, List.not_mem_nil, or_false] at hj; rcases hj with rfl | rfl <;> exact ⟨_, (Option.some.inj hfj).symm⟩)
  · exact FactsG.storeP rfl rfl (by decide) (fun _ _ => rfl) _ _ rfl (by decide) (by decide) rfl (fun _ => rfl) (fun _ => rfl) (fun x wv hSw hd => ⟨hd ⟨8, .data⟩ (by simp) rfl _ rfl, ⟨n0, p0, l0, c0, by simp [isF, eqF_get (hd ⟨3, .data⟩ (by simp) rfl _ rfl)], hx.later hSw.2.2.2.2⟩⟩) (fun wv q n p l c n' p' l' c' hSw hq hbx => ⟨hSw.1.rowOther (by omega) _, (by obtain ⟨n, p, l, c, h⟩ := hSw.2.1; exact ⟨n, p, l, c, h.rowOther (by omega) _⟩), (by obtain ⟨n, p, l, c, h⟩ := hSw.2.2.1; exact ⟨n, p, l, c, h.rowOther (by omega) _⟩), (by rw [setRow_size]; exact hSw.2.2.2.1), below_setRow hSw.2.2.2.2 (by omega) _⟩) (fun x wv q n p l c hrel hxm hNq hq j f hj hfj hh => by
      match j with
      | 0 => obtain rfl := Option.some.inj hfj; exact eqF_box _ _ _ _ _ n p l c hh hq
      | 1 => obtain rfl := Option.some.inj hfj; exact eqF_box _ _ _ _ _ n p l c hh hq
      | 2 => obtain rfl := Option.some.inj hfj; exact eqF_box _ _ _ _ _ n p l c hh hq
      | 3 => obtain rfl := Option.some.inj hfj; exact eqF_box _ _ _ _ _ n p l c hh hq
      | 4 => obtain rfl := Option.some.inj hfj; exact eqF_box _ _ _ _ _ n p l c hh hq
      | 5 => obtain rfl := Option.some.inj hfj; exact eqF_box _ _ _ _ _ n p l c hh hq
      | 6 => obtain rfl := Option.some.inj hfj; exact eqF_box _ _ _ _ _ n p l c hh hq
      | 7 => obtain rfl := Option.some.inj hfj; exact eqF_box _ _ _ _ _ n p l c hh hq
      | 8 => obtain rfl := Option.some.inj hfj; exact alF_box _ _ _ _ _ n p l c hh hq
      | 9 => obtain rfl := Option.some.inj hfj; exact alF_box _ _ _ _ _ n p l c hh hq
      | 11 => obtain rfl := Option.some.inj hfj; exact sbF_other hh (fun h => hrel ⟨9, .phase⟩ (by simp) rfl ⟨8, .phase⟩ (by simp) rfl (by decide) (by decide) (by decide) (h.trans hxm.symm)) hq
      | 10 => exact absurd rfl hj
      | j + 12 => simp at hfj)
  · exact FactsG.storeP rfl rfl (by decide) (fun _ _ => rfl) _ _ rfl (by decide) (by decide) rfl (fun _ => rfl) (fun _ => rfl) (fun x wv hSw hd => ⟨hd ⟨9, .data⟩ (by simp) rfl _ rfl, ⟨n1, p1, l1, c1, by simp [isF, eqF_get (hd ⟨7, .data⟩ (by simp) rfl _ rfl)], hy.later hSw.2.2.2.2⟩⟩) (fun wv q n p l c n' p' l' c' hSw hq hbx => ⟨hSw.1.rowOther (by omega) _, (by obtain ⟨n, p, l, c, h⟩ := hSw.2.1; exact ⟨n, p, l, c, h.rowOther (by omega) _⟩), (by obtain ⟨n, p, l, c, h⟩ := hSw.2.2.1; exact ⟨n, p, l, c, h.rowOther (by omega) _⟩), (by rw [setRow_size]; exact hSw.2.2.2.1), below_setRow hSw.2.2.2.2 (by omega) _⟩) (fun x wv q n p l c hrel hxm hNq hq j f hj hfj hh => by
      match j with
      | 0 => obtain rfl := Option.some.inj hfj; exact eqF_box _ _ _ _ _ n p l c hh hq
      | 1 => obtain rfl := Option.some.inj hfj; exact eqF_box _ _ _ _ _ n p l c hh hq
      | 2 => obtain rfl := Option.some.inj hfj; exact eqF_box _ _ _ _ _ n p l c hh hq
      | 3 => obtain rfl := Option.some.inj hfj; exact eqF_box _ _ _ _ _ n p l c hh hq
      | 4 => obtain rfl := Option.some.inj hfj; exact eqF_box _ _ _ _ _ n p l c hh hq
      | 5 => obtain rfl := Option.some.inj hfj; exact eqF_box _ _ _ _ _ n p l c hh hq
      | 6 => obtain rfl := Option.some.inj hfj; exact eqF_box _ _ _ _ _ n p l c hh hq
      | 7 => obtain rfl := Option.some.inj hfj; exact eqF_box _ _ _ _ _ n p l c hh hq
      | 8 => obtain rfl := Option.some.inj hfj; exact alF_box _ _ _ _ _ n p l c hh hq
      | 9 => obtain rfl := Option.some.inj hfj; exact alF_box _ _ _ _ _ n p l c hh hq
      | 10 => obtain rfl := Option.some.inj hfj; exact sbF_other hh (fun h => hrel ⟨8, .phase⟩ (by simp) rfl ⟨9, .phase⟩ (by simp) rfl (by decide) (by decide) (by decide) (h.trans hxm.symm)) hq
      | 11 => exact absurd rfl hj
      | j + 12 => simp at hfj)
  rintro xa w1 ⟨h1, ⟨nr, pr, lr, cr, h2⟩, ⟨nr', pr', lr', cr', h3⟩, hN5, hbel⟩ hf hrel
  obtain ⟨q, na, pa, la, ca, d8, d3, hNq, hqa, ia⟩ := sbF_get (hf 10 _ (by decide) rfl)
  obtain ⟨q', nb, pb, lb, cb, d9, d7, hNq', hqb, ib⟩ := sbF_get (hf 11 _ (by decide) rfl)
  clear hf hS hF hrel t0 t1 h1 hx hy
  simp only [d8, d3, d9, d7]
  clear d8 d3 d9 d7
  have hNa := refIsNil_is ia
  have hNb := refIsNil_is ib
  go_wp2_with (refine load_t _ rfl rfl _ _ rfl hqa.tat ?_)
  refine (hNa _).mono ?_
  rintro ex w2 ⟨rfl, hb1⟩
  replace h2 := h2.later hb1
  replace h3 := h3.later hb1
  replace hqa := hqa.later hb1
  replace hqb := hqb.later hb1
  replace ia := ia.later hb1
  replace ib := ib.later hb1
  replace hbel := below_on hbel hb1
  clear hb1
  clear hNa
  cases h0 : nil a
  · rw [h0] at HA HB
    go_wp2_with (refine load_t _ rfl rfl _ _ rfl hqb.tat ?_)
    refine (hNb _).mono ?_
    rintro ex w21 ⟨rfl, hb1⟩
    replace h2 := h2.later hb1
    replace h3 := h3.later hb1
    replace hqa := hqa.later hb1
    replace hqb := hqb.later hb1
    replace ia := ia.later hb1
    replace ib := ib.later hb1
    replace hbel := below_on hbel hb1
    clear hb1
    clear hNb
    cases h0' : nil b
    · rw [h0'] at HA HB
      obtain rfl : za = .node a (.leaf false) := HA.out.symm
      obtain rfl : zb = .node (.leaf false) b := HB.out.symm
      clear HA HB r0 r1 h0 h0'
      go_wp2_with fail
      have hS : Calm.Stays (fun w' => Bx w' q na pa la ca ∧ Bx w' q' nb pb lb cb ∧ Is w' a (TV na pa la ca) ∧ Is w' b (TV nb pb lb cb) ∧ (∃ n p l c, Bx w' (w.heap.size + 1) n p l c) ∧ (∃ n p l c, Bx w' (w.heap.size + 1 + 1) n p l c) ∧ Below w.heap.size w w') := fun wa wb h hb => ⟨h.1.later hb, h.2.1.later hb, h.2.2.1.later hb, h.2.2.2.1.later hb, (by obtain ⟨n, p, l, c, h2⟩ := h.2.2.2.2.1; exact ⟨n, p, l, c, h2.later hb⟩), (by obtain ⟨n, p, l, c, h2⟩ := h.2.2.2.2.2.1; exact ⟨n, p, l, c, h2.later hb⟩), below_on h.2.2.2.2.2.2 hb⟩
      have hF : Facts.Stay [eqF 0 (TV na pa la ca), isF 1 (.leaf false), isF 2 (.node a (.leaf false)), isF 3 (.leaf false), eqF 4 (TV nb pb lb cb), isF 5 (.node (.leaf false) b), bxF 2 (w.heap.size + 1) (.node a (.leaf false)), bxF 5 (w.heap.size + 1 + 1) (.node (.leaf false) b)] := stay_of (by simp only [List.forall_mem_cons]; exact ⟨eqF_stays _ _, isF_stays _ _, isF_stays _ _, isF_stays _ _, eqF_stays _ _, isF_stays _ _, bxF_stays _ _ _, bxF_stays _ _ _, fun _ h => by cases h⟩)
      refine Facts.region (by kernel_rfl) (by kernel_rfl) (fun w' => Bx w' q na pa la ca ∧ Bx w' q' nb pb lb cb ∧ Is w' a (TV na pa la ca) ∧ Is w' b (TV nb pb lb cb) ∧ (∃ n p l c, Bx w' (w.heap.size + 1) n p l c) ∧ (∃ n p l c, Bx w' (w.heap.size + 1 + 1) n p l c) ∧ Below w.heap.size w w') (fun x => { tmps := #[TV 0 (some ⟨g, o, none⟩) 2 c, .pointer (some ⟨w.heap.size, 0, none⟩), .pointer (some ⟨w.heap.size + 1, 0, none⟩), .pointer (some ⟨w.heap.size + 1 + 1, 0, none⟩), .pointer (some ⟨q, 0, none⟩), .pointer (some ⟨q', 0, none⟩), undef, undef, undef, undef, .pointer (some ⟨w.heap.size, 1, none⟩), .slice (some ⟨g, o, none⟩) 2 c, .int .i64 2, .bool false, undef, undef, undef, undef, undef, undef, xa 0, xa 1, xa 2, TV na pa la ca, xa 4, xa 5, xa 6, TV nb pb lb cb, TV na pa la ca, .bool false, undef, undef, undef, undef, undef, undef, undef, undef, undef, undef, undef, TV nb pb lb cb, .bool false, undef, undef, undef, undef, undef, undef, undef, undef, undef, undef, undef, x 0, x 1, x 2, x 3, x 4, x 5], defers := [] }) [eqF 0 (TV na pa la ca), isF 1 (.leaf false), isF 2 (.node a (.leaf false)), isF 3 (.leaf false), eqF 4 (TV nb pb lb cb), isF 5 (.node (.leaf false) b), bxF 2 (w.heap.size + 1) (.node a (.leaf false)), bxF 5 (w.heap.size + 1 + 1) (.node (.leaf false) b)] _ rfl (by kernel_rfl) (fun _ => undef) rfl (⟨hqa, hqb, ia.later (Below.refl _ _).drew, ib.later (Below.refl _ _).drew, ⟨_, _, _, _, h2⟩, ⟨_, _, _, _, h3⟩, hbel.drew⟩) ⟨?_, ?_, ?_, ?_, ?_, ?_, ?_, ?_, trivial⟩ ?_
      · exact Facts.loadT hS hF (fun _ _ => rfl) _ rfl rfl (fun x wv hSw hd => by rfl) (fun wv hSw => hSw.1.tat)
      · refine Facts.call1T hS hF (fun _ _ => rfl) rfl (by kernel_rfl) rfl (fun x wv hSw hd => ?_)
        exact refLeaf_gives false _
      · refine Facts.call3T hS hF (fun _ _ => rfl) rfl (by kernel_rfl) rfl (fun x wv hSw hd => ?_)
        have d0 := eqF_get (hd ⟨0, .data⟩ (by simp) rfl _ rfl)
        obtain ⟨n1i, p1i, l1i, c1i, d1, e1⟩ := isF_get (hd ⟨1, .data⟩ (by simp) rfl _ rfl)
        have hc := inner_any _ _ _ _ _ _ _ _ _ _ _ hSw.2.2.1 e1
        rw [← d0, ← d1] at hc
        exact hc
      · refine Facts.call1T hS hF (fun _ _ => rfl) rfl (by kernel_rfl) rfl (fun x wv hSw hd => ?_)
        exact refLeaf_gives false _
      · exact Facts.loadT hS hF (fun _ _ => rfl) _ rfl rfl (fun x wv hSw hd => by rfl) (fun wv hSw => hSw.2.1.tat)
      · refine Facts.call3T hS hF (fun _ _ => rfl) rfl (by kernel_rfl) rfl (fun x wv hSw hd => ?_)
        obtain ⟨n3i, p3i, l3i, c3i, d3, e3⟩ := isF_get (hd ⟨3, .data⟩ (by simp) rfl _ rfl)
        have d4 := eqF_get (hd ⟨4, .data⟩ (by simp) rfl _ rfl)
        have hc := inner_any _ _ _ _ _ _ _ _ _ _ _ e3 hSw.2.2.2.1
        rw [← d3, ← d4] at hc
        exact hc
      · exact Facts.storeT (fun _ _ => rfl) _ _ rfl (by decide) rfl (fun _ => rfl) (fun _ => rfl) (fun x wv hSw hd => isF_get (hd ⟨2, .data⟩ (by simp) rfl _ rfl)) (fun wv hSw => ⟨hSw.2.2.2.2.1, fun n p l c => (by obtain ⟨s1, s2, s3, s4, ⟨_, _, _, _, s7⟩, ⟨_, _, _, _, s8⟩, s9⟩ := hSw; exact ⟨s1.rowOther (by omega) _, s2.rowOther (by omega) _, s3.box s7 _, s4.box s7 _, ⟨_, _, _, _, s7.row n p l c⟩, ⟨_, _, _, _, s8.rowOther (by omega) _⟩, below_setRow s9 (by omega) _⟩)⟩) (fun j f hj hfj => by
          match j with
          | 0 => obtain rfl := Option.some.inj hfj; exact eqF_box _ _ _
          | 1 => obtain rfl := Option.some.inj hfj; exact isF_box _ _ _
          | 2 => obtain rfl := Option.some.inj hfj; exact isF_box _ _ _
          | 3 => obtain rfl := Option.some.inj hfj; exact isF_box _ _ _
          | 4 => obtain rfl := Option.some.inj hfj; exact eqF_box _ _ _
          | 5 => obtain rfl := Option.some.inj hfj; exact isF_box _ _ _
          | 7 => obtain rfl := Option.some.inj hfj; exact bxF_box _ _ _ _ (by omega)
          | 6 => exact absurd rfl hj
          | j + 8 => simp at hfj)
      · exact Facts.storeT (fun _ _ => rfl) _ _ rfl (by decide) rfl (fun _ => rfl) (fun _ => rfl) (fun x wv hSw hd => isF_get (hd ⟨5, .data⟩ (by simp) rfl _ rfl)) (fun wv hSw => ⟨hSw.2.2.2.2.2.1, fun n p l c => (by obtain ⟨s1, s2, s3, s4, ⟨_, _, _, _, s7⟩, ⟨_, _, _, _, s8⟩, s9⟩ := hSw; exact ⟨s1.rowOther (by omega) _, s2.rowOther (by omega) _, s3.box s8 _, s4.box s8 _, ⟨_, _, _, _, s7.rowOther (by omega) _⟩, ⟨_, _, _, _, s8.row n p l c⟩, below_setRow s9 (by omega) _⟩)⟩) (fun j f hj hfj => by
          match j with
          | 0 => obtain rfl := Option.some.inj hfj; exact eqF_box _ _ _
          | 1 => obtain rfl := Option.some.inj hfj; exact isF_box _ _ _
          | 2 => obtain rfl := Option.some.inj hfj; exact isF_box _ _ _
          | 3 => obtain rfl := Option.some.inj hfj; exact isF_box _ _ _
          | 4 => obtain rfl := Option.some.inj hfj; exact eqF_box _ _ _
          | 5 => obtain rfl := Option.some.inj hfj; exact isF_box _ _ _
          | 6 => obtain rfl := Option.some.inj hfj; exact bxF_box _ _ _ _ (by omega)
          | 7 => exact absurd rfl hj
          | j + 8 => simp at hfj)
      rintro xs w9 ⟨_, _, _, _, _, _, hbel⟩ hf
      obtain ⟨n4, p4, l4, c4, _, hq4, i4⟩ := bxF_get (hf 6 _ (by decide) rfl)
      obtain ⟨n7, p7, l7, c7, _, hq7, i7⟩ := bxF_get (hf 7 _ (by decide) rfl)
      go_wp2
      exact bodyPost_ret (results_tt rfl rfl hq4 rfl hq7) rfl ⟨_, _, _, _, _, _, _, _, rfl, i4, i7, hbel⟩
    · rw [h0'] at HA HB
      obtain rfl : za = .node da b := HA.out.symm
      obtain rfl : zb = .node ea b := HB.out.symm
      clear HA HB r1 h0 h0'
      go_wp2_with (refine load_t _ rfl rfl _ _ rfl hqa.tat ?_)
      refine (r0 _ _ _ _ _ ia).mono ?_
      rintro ex w3 ⟨nd, pd, ld, cd, ne, pe, le, ce, rfl, id, ie, hb1⟩
      replace h2 := h2.later hb1
      replace h3 := h3.later hb1
      replace hqa := hqa.later hb1
      replace hqb := hqb.later hb1
      replace ia := ia.later hb1
      replace ib := ib.later hb1
      replace hbel := below_on hbel hb1
      clear hb1
      have hql := hqa.lt
      have hql2 := hqb.lt
      have m0 := two_new0 w3
      have m1 := two_new1 w3 nd pd ld cd
      obtain ⟨k1, k2, hb1⟩ := two_new w3 nd pd ld cd ne pe le ce _ rfl
      generalize hw : (((w3.alloc (.cells #[.int .i64 0, .slice none 0 0] 24)).alloc (.cells #[.int .i64 0, .slice none 0 0] 24)).setRow w3.heap.size #[.int .i64 nd, .slice pd ld cd]).setRow (w3.heap.size + 1) #[.int .i64 ne, .slice pe le ce] = v3 at k1 k2 hb1
      replace h2 := h2.later hb1
      replace h3 := h3.later hb1
      replace hqa := hqa.later hb1
      replace hqb := hqb.later hb1
      replace ia := ia.later hb1
      replace ib := ib.later hb1
      replace id := id.later hb1
      replace ie := ie.later hb1
      replace hbel := below_on hbel hb1
      clear hb1
      go_wp2_with (first | rw [hw] | refine store_t rfl _ _ rfl _ nd pd ld cd rfl rfl m0 ?_ | refine store_t rfl _ _ rfl _ ne pe le ce rfl rfl m1 ?_)
      clear m0 m1 hw
      generalize w3.heap.size = q1 at k1 k2 hql hql2 ⊢
      clear r0
      have hS : Calm.Stays (fun w' => Bx w' q' nb pb lb cb ∧ Bx w' q1 nd pd ld cd ∧ Bx w' (q1 + 1) ne pe le ce ∧ Is w' b (TV nb pb lb cb) ∧ Is w' da (TV nd pd ld cd) ∧ Is w' ea (TV ne pe le ce) ∧ (∃ n p l c, Bx w' (w.heap.size + 1) n p l c) ∧ (∃ n p l c, Bx w' (w.heap.size + 1 + 1) n p l c) ∧ Below w.heap.size w w') := fun wa wb h hb => ⟨h.1.later hb, h.2.1.later hb, h.2.2.1.later hb, h.2.2.2.1.later hb, h.2.2.2.2.1.later hb, h.2.2.2.2.2.1.later hb, (by obtain ⟨n, p, l, c, h2⟩ := h.2.2.2.2.2.2.1; exact ⟨n, p, l, c, h2.later hb⟩), (by obtain ⟨n, p, l, c, h2⟩ := h.2.2.2.2.2.2.2.1; exact ⟨n, p, l, c, h2.later hb⟩), below_on h.2.2.2.2.2.2.2.2 hb⟩
      have hF : Facts.Stay [eqF 0 (TV nd pd ld cd), eqF 1 (TV nb pb lb cb), isF 2 (.node da b), eqF 3 (TV ne pe le ce), eqF 4 (TV nb pb lb cb), isF 5 (.node ea b), bxF 2 (w.heap.size + 1) (.node da b), bxF 5 (w.heap.size + 1 + 1) (.node ea b)] := stay_of (by simp only [List.forall_mem_cons]; exact ⟨eqF_stays _ _, eqF_stays _ _, isF_stays _ _, eqF_stays _ _, eqF_stays _ _, isF_stays _ _, bxF_stays _ _ _, bxF_stays _ _ _, fun _ h => by cases h⟩)
      refine Facts.region (by kernel_rfl) (by kernel_rfl) (fun w' => Bx w' q' nb pb lb cb ∧ Bx w' q1 nd pd ld cd ∧ Bx w' (q1 + 1) ne pe le ce ∧ Is w' b (TV nb pb lb cb) ∧ Is w' da (TV nd pd ld cd) ∧ Is w' ea (TV ne pe le ce) ∧ (∃ n p l c, Bx w' (w.heap.size + 1) n p l c) ∧ (∃ n p l c, Bx w' (w.heap.size + 1 + 1) n p l c) ∧ Below w.heap.size w w') (fun x => { tmps := #[TV 0 (some ⟨g, o, none⟩) 2 c, .pointer (some ⟨w.heap.size, 0, none⟩), .pointer (some ⟨w.heap.size + 1, 0, none⟩), .pointer (some ⟨w.heap.size + 1 + 1, 0, none⟩), .pointer (some ⟨q, 0, none⟩), .pointer (some ⟨q', 0, none⟩), undef, undef, .pointer (some ⟨q1, 0, none⟩), .pointer (some ⟨q1 + 1, 0, none⟩), .pointer (some ⟨w.heap.size, 1, none⟩), .slice (some ⟨g, o, none⟩) 2 c, .int .i64 2, .bool false, undef, undef, undef, undef, undef, undef, xa 0, xa 1, xa 2, TV na pa la ca, xa 4, xa 5, xa 6, TV nb pb lb cb, TV na pa la ca, .bool false, undef, undef, undef, undef, undef, undef, undef, undef, undef, undef, undef, TV nb pb lb cb, .bool true, .tuple #[TV nd pd ld cd, TV ne pe le ce], TV na pa la ca, .tuple #[TV nd pd ld cd, TV ne pe le ce], TV nd pd ld cd, TV ne pe le ce, x 0, x 1, x 2, x 3, x 4, x 5, undef, undef, undef, undef, undef, undef], defers := [] }) [eqF 0 (TV nd pd ld cd), eqF 1 (TV nb pb lb cb), isF 2 (.node da b), eqF 3 (TV ne pe le ce), eqF 4 (TV nb pb lb cb), isF 5 (.node ea b), bxF 2 (w.heap.size + 1) (.node da b), bxF 5 (w.heap.size + 1 + 1) (.node ea b)] _ rfl (by kernel_rfl) (fun _ => undef) rfl (⟨hqb, k1, k2, ib.later (Below.refl _ _).drew, id.later (Below.refl _ _).drew, ie.later (Below.refl _ _).drew, ⟨_, _, _, _, h2⟩, ⟨_, _, _, _, h3⟩, hbel.drew⟩) ⟨?_, ?_, ?_, ?_, ?_, ?_, ?_, ?_, trivial⟩ ?_
      · exact Facts.loadT hS hF (fun _ _ => rfl) _ rfl rfl (fun x wv hSw hd => by rfl) (fun wv hSw => hSw.2.1.tat)
      · exact Facts.loadT hS hF (fun _ _ => rfl) _ rfl rfl (fun x wv hSw hd => by rfl) (fun wv hSw => hSw.1.tat)
      · refine Facts.call3T hS hF (fun _ _ => rfl) rfl (by kernel_rfl) rfl (fun x wv hSw hd => ?_)
        have d0 := eqF_get (hd ⟨0, .data⟩ (by simp) rfl _ rfl)
        have d1 := eqF_get (hd ⟨1, .data⟩ (by simp) rfl _ rfl)
        have hc := inner_any _ _ _ _ _ _ _ _ _ _ _ hSw.2.2.2.2.1 hSw.2.2.2.1
        rw [← d0, ← d1] at hc
        exact hc
      · exact Facts.loadT hS hF (fun _ _ => rfl) _ rfl rfl (fun x wv hSw hd => by rfl) (fun wv hSw => hSw.2.2.1.tat)
      · exact Facts.loadT hS hF (fun _ _ => rfl) _ rfl rfl (fun x wv hSw hd => by rfl) (fun wv hSw => hSw.1.tat)
      · refine Facts.call3T hS hF (fun _ _ => rfl) rfl (by kernel_rfl) rfl (fun x wv hSw hd => ?_)
        have d3 := eqF_get (hd ⟨3, .data⟩ (by simp) rfl _ rfl)
        have d4 := eqF_get (hd ⟨4, .data⟩ (by simp) rfl _ rfl)
        have hc := inner_any _ _ _ _ _ _ _ _ _ _ _ hSw.2.2.2.2.2.1 hSw.2.2.2.1
        rw [← d3, ← d4] at hc
        exact hc
      · exact Facts.storeT (fun _ _ => rfl) _ _ rfl (by decide) rfl (fun _ => rfl) (fun _ => rfl) (fun x wv hSw hd => isF_get (hd ⟨2, .data⟩ (by simp) rfl _ rfl)) (fun wv hSw => ⟨hSw.2.2.2.2.2.2.1, fun n p l c => (by obtain ⟨s1, s2, s3, s4, s5, s6, ⟨_, _, _, _, s7⟩, ⟨_, _, _, _, s8⟩, s9⟩ := hSw; exact ⟨s1.rowOther (by omega) _, s2.rowOther (by omega) _, s3.rowOther (by omega) _, s4.box s7 _, s5.box s7 _, s6.box s7 _, ⟨_, _, _, _, s7.row n p l c⟩, ⟨_, _, _, _, s8.rowOther (by omega) _⟩, below_setRow s9 (by omega) _⟩)⟩) (fun j f hj hfj => by
          match j with
          | 0 => obtain rfl := Option.some.inj hfj; exact eqF_box _ _ _
          | 1 => obtain rfl := Option.some.inj hfj; exact eqF_box _ _ _
          | 2 => obtain rfl := Option.some.inj hfj; exact isF_box _ _ _
          | 3 => obtain rfl := Option.some.inj hfj; exact eqF_box _ _ _
          | 4 => obtain rfl := Option.some.inj hfj; exact eqF_box _ _ _
          | 5 => obtain rfl := Option.some.inj hfj; exact isF_box _ _ _
          | 7 => obtain rfl := Option.some.inj hfj; exact bxF_box _ _ _ _ (by omega)
          | 6 => exact absurd rfl hj
          | j + 8 => simp at hfj)
      · exact Facts.storeT (fun _ _ => rfl) _ _ rfl (by decide) rfl (fun _ => rfl) (fun _ => rfl) (fun x wv hSw hd => isF_get (hd ⟨5, .data⟩ (by simp) rfl _ rfl)) (fun wv hSw => ⟨hSw.2.2.2.2.2.2.2.1, fun n p l c => (by obtain ⟨s1, s2, s3, s4, s5, s6, ⟨_, _, _, _, s7⟩, ⟨_, _, _, _, s8⟩, s9⟩ := hSw; exact ⟨s1.rowOther (by omega) _, s2.rowOther (by omega) _, s3.rowOther (by omega) _, s4.box s8 _, s5.box s8 _, s6.box s8 _, ⟨_, _, _, _, s7.rowOther (by omega) _⟩, ⟨_, _, _, _, s8.row n p l c⟩, below_setRow s9 (by omega) _⟩)⟩) (fun j f hj hfj => by
          match j with
          | 0 => obtain rfl := Option.some.inj hfj; exact eqF_box _ _ _
          | 1 => obtain rfl := Option.some.inj hfj; exact eqF_box _ _ _
          | 2 => obtain rfl := Option.some.inj hfj; exact isF_box _ _ _
          | 3 => obtain rfl := Option.some.inj hfj; exact eqF_box _ _ _
          | 4 => obtain rfl := Option.some.inj hfj; exact eqF_box _ _ _
          | 5 => obtain rfl := Option.some.inj hfj; exact isF_box _ _ _
          | 6 => obtain rfl := Option.some.inj hfj; exact bxF_box _ _ _ _ (by omega)
          | 7 => exact absurd rfl hj
          | j + 8 => simp at hfj)
      rintro xs w9 ⟨_, _, _, _, _, _, _, _, hbel⟩ hf
      obtain ⟨n4, p4, l4, c4, _, hq4, i4⟩ := bxF_get (hf 6 _ (by decide) rfl)
      obtain ⟨n7, p7, l7, c7, _, hq7, i7⟩ := bxF_get (hf 7 _ (by decide) rfl)
      go_wp2
      exact bodyPost_ret (results_tt rfl rfl hq4 rfl hq7) rfl ⟨_, _, _, _, _, _, _, _, rfl, i4, i7, hbel⟩
  · rw [h0] at HA HB
    obtain rfl : za = .node a db := HA.out.symm
    obtain rfl : zb = .node a eb := HB.out.symm
    clear HA HB r0 h0 hNb
    go_wp2_with (refine load_t _ rfl rfl _ _ rfl hqb.tat ?_)
    refine (r1 _ _ _ _ _ ib).mono ?_
    rintro ex w3 ⟨nd, pd, ld, cd, ne, pe, le, ce, rfl, id, ie, hb1⟩
    replace h2 := h2.later hb1
    replace h3 := h3.later hb1
    replace hqa := hqa.later hb1
    replace hqb := hqb.later hb1
    replace ia := ia.later hb1
    replace ib := ib.later hb1
    replace hbel := below_on hbel hb1
    clear hb1
    have hql := hqa.lt
    have hql2 := hqb.lt
    have m0 := two_new0 w3
    have m1 := two_new1 w3 nd pd ld cd
    obtain ⟨k1, k2, hb1⟩ := two_new w3 nd pd ld cd ne pe le ce _ rfl
    generalize hw : (((w3.alloc (.cells #[.int .i64 0, .slice none 0 0] 24)).alloc (.cells #[.int .i64 0, .slice none 0 0] 24)).setRow w3.heap.size #[.int .i64 nd, .slice pd ld cd]).setRow (w3.heap.size + 1) #[.int .i64 ne, .slice pe le ce] = v3 at k1 k2 hb1
    replace h2 := h2.later hb1
    replace h3 := h3.later hb1
    replace hqa := hqa.later hb1
    replace hqb := hqb.later hb1
    replace ia := ia.later hb1
    replace ib := ib.later hb1
    replace id := id.later hb1
    replace ie := ie.later hb1
    replace hbel := below_on hbel hb1
    clear hb1
    go_wp2_with (first | rw [hw] | refine store_t rfl _ _ rfl _ nd pd ld cd rfl rfl m0 ?_ | refine store_t rfl _ _ rfl _ ne pe le ce rfl rfl m1 ?_)
    clear m0 m1 hw
    generalize w3.heap.size = q1 at k1 k2 hql hql2 ⊢
    clear r1
    have hS : Calm.Stays (fun w' => Bx w' q na pa la ca ∧ Bx w' q1 nd pd ld cd ∧ Bx w' (q1 + 1) ne pe le ce ∧ Is w' a (TV na pa la ca) ∧ Is w' db (TV nd pd ld cd) ∧ Is w' eb (TV ne pe le ce) ∧ (∃ n p l c, Bx w' (w.heap.size + 1) n p l c) ∧ (∃ n p l c, Bx w' (w.heap.size + 1 + 1) n p l c) ∧ Below w.heap.size w w') := fun wa wb h hb => ⟨h.1.later hb, h.2.1.later hb, h.2.2.1.later hb, h.2.2.2.1.later hb, h.2.2.2.2.1.later hb, h.2.2.2.2.2.1.later hb, (by obtain ⟨n, p, l, c, h2⟩ := h.2.2.2.2.2.2.1; exact ⟨n, p, l, c, h2.later hb⟩), (by obtain ⟨n, p, l, c, h2⟩ := h.2.2.2.2.2.2.2.1; exact ⟨n, p, l, c, h2.later hb⟩), below_on h.2.2.2.2.2.2.2.2 hb⟩
    have hF : Facts.Stay [eqF 0 (TV na pa la ca), eqF 1 (TV nd pd ld cd), isF 2 (.node a db), eqF 3 (TV na pa la ca), eqF 4 (TV ne pe le ce), isF 5 (.node a eb), bxF 2 (w.heap.size + 1) (.node a db), bxF 5 (w.heap.size + 1 + 1) (.node a eb)] := stay_of (by simp only [List.forall_mem_cons]; exact ⟨eqF_stays _ _, eqF_stays _ _, isF_stays _ _, eqF_stays _ _, eqF_stays _ _, isF_stays _ _, bxF_stays _ _ _, bxF_stays _ _ _, fun _ h => by cases h⟩)
    refine Facts.region (by kernel_rfl) (by kernel_rfl) (fun w' => Bx w' q na pa la ca ∧ Bx w' q1 nd pd ld cd ∧ Bx w' (q1 + 1) ne pe le ce ∧ Is w' a (TV na pa la ca) ∧ Is w' db (TV nd pd ld cd) ∧ Is w' eb (TV ne pe le ce) ∧ (∃ n p l c, Bx w' (w.heap.size + 1) n p l c) ∧ (∃ n p l c, Bx w' (w.heap.size + 1 + 1) n p l c) ∧ Below w.heap.size w w') (fun x => { tmps := #[TV 0 (some ⟨g, o, none⟩) 2 c, .pointer (some ⟨w.heap.size, 0, none⟩), .pointer (some ⟨w.heap.size + 1, 0, none⟩), .pointer (some ⟨w.heap.size + 1 + 1, 0, none⟩), .pointer (some ⟨q, 0, none⟩), .pointer (some ⟨q', 0, none⟩), .pointer (some ⟨q1, 0, none⟩), .pointer (some ⟨q1 + 1, 0, none⟩), undef, undef, .pointer (some ⟨w.heap.size, 1, none⟩), .slice (some ⟨g, o, none⟩) 2 c, .int .i64 2, .bool false, undef, undef, undef, undef, undef, undef, xa 0, xa 1, xa 2, TV na pa la ca, xa 4, xa 5, xa 6, TV nb pb lb cb, TV na pa la ca, .bool true, .tuple #[TV nd pd ld cd, TV ne pe le ce], TV nb pb lb cb, .tuple #[TV nd pd ld cd, TV ne pe le ce], TV nd pd ld cd, TV ne pe le ce, x 0, x 1, x 2, x 3, x 4, x 5, undef, undef, undef, undef, undef, undef, undef, undef, undef, undef, undef, undef, undef, undef, undef, undef, undef, undef, undef], defers := [] }) [eqF 0 (TV na pa la ca), eqF 1 (TV nd pd ld cd), isF 2 (.node a db), eqF 3 (TV na pa la ca), eqF 4 (TV ne pe le ce), isF 5 (.node a eb), bxF 2 (w.heap.size + 1) (.node a db), bxF 5 (w.heap.size + 1 + 1) (.node a eb)] _ rfl (by kernel_rfl) (fun _ => undef) rfl (⟨hqa, k1, k2, ia.later (Below.refl _ _).drew, id.later (Below.refl _ _).drew, ie.later (Below.refl _ _).drew, ⟨_, _, _, _, h2⟩, ⟨_, _, _, _, h3⟩, hbel.drew⟩) ⟨?_, ?_, ?_, ?_, ?_, ?_, ?_, ?_, trivial⟩ ?_
    · exact Facts.loadT hS hF (fun _ _ => rfl) _ rfl rfl (fun x wv hSw hd => by rfl) (fun wv hSw => hSw.1.tat)
    · exact Facts.loadT hS hF (fun _ _ => rfl) _ rfl rfl (fun x wv hSw hd => by rfl) (fun wv hSw => hSw.2.1.tat)
    · refine Facts.call3T hS hF (fun _ _ => rfl) rfl (by kernel_rfl) rfl (fun x wv hSw hd => ?_)
      have d0 := eqF_get (hd ⟨0, .data⟩ (by simp) rfl _ rfl)
      have d1 := eqF_get (hd ⟨1, .data⟩ (by simp) rfl _ rfl)
      have hc := inner_any _ _ _ _ _ _ _ _ _ _ _ hSw.2.2.2.1 hSw.2.2.2.2.1
      rw [← d0, ← d1] at hc
      exact hc
    · exact Facts.loadT hS hF (fun _ _ => rfl) _ rfl rfl (fun x wv hSw hd => by rfl) (fun wv hSw => hSw.1.tat)
    · exact Facts.loadT hS hF (fun _ _ => rfl) _ rfl rfl (fun x wv hSw hd => by rfl) (fun wv hSw => hSw.2.2.1.tat)
    · refine Facts.call3T hS hF (fun _ _ => rfl) rfl (by kernel_rfl) rfl (fun x wv hSw hd => ?_)
      have d3 := eqF_get (hd ⟨3, .data⟩ (by simp) rfl _ rfl)
      have d4 := eqF_get (hd ⟨4, .data⟩ (by simp) rfl _ rfl)
      have hc := inner_any _ _ _ _ _ _ _ _ _ _ _ hSw.2.2.2.1 hSw.2.2.2.2.2.1
      rw [← d3, ← d4] at hc
      exact hc
    · exact Facts.storeT (fun _ _ => rfl) _ _ rfl (by decide) rfl (fun _ => rfl) (fun _ => rfl) (fun x wv hSw hd => isF_get (hd ⟨2, .data⟩ (by simp) rfl _ rfl)) (fun wv hSw => ⟨hSw.2.2.2.2.2.2.1, fun n p l c => (by obtain ⟨s1, s2, s3, s4, s5, s6, ⟨_, _, _, _, s7⟩, ⟨_, _, _, _, s8⟩, s9⟩ := hSw; exact ⟨s1.rowOther (by omega) _, s2.rowOther (by omega) _, s3.rowOther (by omega) _, s4.box s7 _, s5.box s7 _, s6.box s7 _, ⟨_, _, _, _, s7.row n p l c⟩, ⟨_, _, _, _, s8.rowOther (by omega) _⟩, below_setRow s9 (by omega) _⟩)⟩) (fun j f hj hfj => by
        match j with
        | 0 => obtain rfl := Option.some.inj hfj; exact eqF_box _ _ _
        | 1 => obtain rfl := Option.some.inj hfj; exact eqF_box _ _ _
        | 2 => obtain rfl := Option.some.inj hfj; exact isF_box _ _ _
        | 3 => obtain rfl := Option.some.inj hfj; exact eqF_box _ _ _
        | 4 => obtain rfl := Option.some.inj hfj; exact eqF_box _ _ _
        | 5 => obtain rfl := Option.some.inj hfj; exact isF_box _ _ _
        | 7 => obtain rfl := Option.some.inj hfj; exact bxF_box _ _ _ _ (by omega)
        | 6 => exact absurd rfl hj
        | j + 8 => simp at hfj)
    · exact Facts.storeT (fun _ _ => rfl) _ _ rfl (by decide) rfl (fun _ => rfl) (fun _ => rfl) (fun x wv hSw hd => isF_get (hd ⟨5, .data⟩ (by simp) rfl _ rfl)) (fun wv hSw => ⟨hSw.2.2.2.2.2.2.2.1, fun n p l c => (by obtain ⟨s1, s2, s3, s4, s5, s6, ⟨_, _, _, _, s7⟩, ⟨_, _, _, _, s8⟩, s9⟩ := hSw; exact ⟨s1.rowOther (by omega) _, s2.rowOther (by omega) _, s3.rowOther (by omega) _, s4.box s8 _, s5.box s8 _, s6.box s8 _, ⟨_, _, _, _, s7.rowOther (by omega) _⟩, ⟨_, _, _, _, s8.row n p l c⟩, below_setRow s9 (by omega) _⟩)⟩) (fun j f hj hfj => by
        match j with
        | 0 => obtain rfl := Option.some.inj hfj; exact eqF_box _ _ _
        | 1 => obtain rfl := Option.some.inj hfj; exact eqF_box _ _ _
        | 2 => obtain rfl := Option.some.inj hfj; exact isF_box _ _ _
        | 3 => obtain rfl := Option.some.inj hfj; exact eqF_box _ _ _
        | 4 => obtain rfl := Option.some.inj hfj; exact eqF_box _ _ _
        | 5 => obtain rfl := Option.some.inj hfj; exact isF_box _ _ _
        | 6 => obtain rfl := Option.some.inj hfj; exact bxF_box _ _ _ _ (by omega)
        | 7 => exact absurd rfl hj
        | j + 8 => simp at hfj)
    rintro xs w9 ⟨_, _, _, _, _, _, _, _, hbel⟩ hf
    obtain ⟨n4, p4, l4, c4, _, hq4, i4⟩ := bxF_get (hf 6 _ (by decide) rfl)
    obtain ⟨n7, p7, l7, c7, _, hq7, i7⟩ := bxF_get (hf 7 _ (by decide) rfl)
    go_wp2
    exact bodyPost_ret (results_tt rfl rfl hq4 rfl hq7) rfl ⟨_, _, _, _, _, _, _, _, rfl, i4, i7, hbel⟩
end Go.Proofs.Ytmcajjdijjcpkaa.Idn
