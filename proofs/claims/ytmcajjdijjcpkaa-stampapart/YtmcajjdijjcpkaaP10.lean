import Derived.Test.YtmcajjdijjcpkaaP9
import Derived.Test.YtmcajjdijjcpkaaP4
/- The functions isRough, isShort and Check of package events. -/
namespace Go.Proofs.Ytmcajjdijjcpkaa
open Go.RowKit

set_option maxHeartbeats 4000000 in
set_option maxRecDepth 100000 in
theorem isRough_any : ∀ (t : Tr) (room : Nat) (most : Int) (n : Int) (p : Option Addr) (l c : Nat) (w : World), Lies w t (TV n p l c) → room ≤ 100 → 0 ≤ most → most ≤ 1073741824 →
    Calls Try.prog 84 #[TV n p l c, .int .i64 room, .int .i64 most] w (Tells (.bool (rough t room most)) w)
  | ⟨m, len, kids⟩, room, most, n, p, l, c, w, ⟨hmn, hl, p', c', e, hk⟩, hroom, hm0, hm1 => by
    have RR : Hid (∀ (i : Nat) (hi : i < len) (n0 : Int) (p0 : Option Addr) (l0 c0 : Nat) (w1 : World), Lies w1 (kids ⟨i, hi⟩) (TV n0 p0 l0 c0) → 0 ≤ most - m → most - m ≤ 1073741824 → Calls Try.prog 84 #[TV n0 p0 l0 c0, .int .i64 (room - 1 : Nat), .int .i64 (most - m)] w1 (Tells (.bool (rough (kids ⟨i, hi⟩) (room - 1) (most - m))) w1)) := fun i hi n0 p0 l0 c0 w1 h h1 h2 => isRough_any (kids ⟨i, hi⟩) (room - 1) (most - m) n0 p0 l0 c0 w1 h (by omega) h1 h2
    simp at e
    obtain ⟨rfl, rfl, rfl, rfl⟩ := e
    obtain ⟨h1, hbel⟩ := one_box w n p l c _ rfl
    have g0 := h1.cell0
    have g1 := h1.cell1
    obtain ⟨z, HZ⟩ : ∃ z, Hid (rough ⟨n, l, kids⟩ room most = z) := ⟨_, rfl⟩
    rw [HZ.out]
    have HK : Hid (0 < l → ∃ g o, p = some ⟨g, o, none⟩ ∧ ∀ i, (hi : i < l) → ∃ n0 p0 l0 c0, Tat w g (o + i * 2) n0 p0 l0 c0 ∧ Lies w (kids ⟨i, hi⟩) (TV n0 p0 l0 c0)) := hk
    clear hk
    unfold rough at HZ
    by_cases hn0 : n < 0
    · have HZ' : Hid (false = z) := by have := HZ.out; rw [show decide (0 ≤ n ∧ n ≤ most) = false by simp; omega] at this; exact this
      clear HZ HK RR
      go_enter Try.func84, Try.ntmps84
      go_wp2
      go_ret
      exact ⟨by rw [← HZ'.out]; rfl, hbel⟩
    · by_cases hn1 : n ≤ most
      · have HZ1 : Hid ((if l = 0 then true else if h : l = 2 then decide (0 < room) && rough (kids ⟨0, by omega⟩) (room - 1) (most - n) && rough (kids ⟨1, by omega⟩) (room - 1) (most - n) else false) = z) := by have := HZ.out; rw [show decide (0 ≤ n ∧ n ≤ most) = true by simp; omega, Bool.true_and] at this; exact this
        have hn2 : 0 ≤ n := by omega
        clear HZ
        by_cases e0 : l = 0
        · subst e0
          have HZ' : Hid (true = z) := by have := HZ1.out; simp at this; exact this.symm
          clear HZ1 HK RR
          go_enter Try.func84, Try.ntmps84
          go_wp2
          go_ret
          exact ⟨by rw [← HZ'.out]; rfl, hbel⟩
        · by_cases e2 : l = 2
          · subst e2
            obtain ⟨g, o, rfl, hks⟩ := HK.out (by decide)
            obtain ⟨n0, p0, l0, c0, t0, k0⟩ := hks 0 (by decide)
            obtain ⟨n1, p1, l1, c1, t1, k1⟩ := hks 1 (by decide)
            have HZ' : Hid ((decide (0 < room) && rough (kids ⟨0, by decide⟩) (room - 1) (most - n) && rough (kids ⟨1, by decide⟩) (room - 1) (most - n)) = z) := by have := HZ1.out; rw [if_neg (by decide), dif_pos rfl] at this; exact this
            have r0 := fun w1 (hb : Below w.heap.size w w1) => RR.out 0 (by decide) n0 p0 l0 c0 w1 (k0.later hb) (by omega) (by omega)
            have r1 := fun w1 (hb : Below w.heap.size w w1) => RR.out 1 (by decide) n1 p1 l1 c1 w1 (k1.later hb) (by omega) (by omega)
            clear HZ1 HK hks k0 k1 RR
            simp only [Nat.zero_mul, Nat.add_zero, Nat.one_mul] at t0 t1
            by_cases er : 0 < room
            · have ei : (0 : Int) < (room : Int) := by omega
              have es : ((room - 1 : Nat) : Int) = (room : Int) - 1 := by omega
              rw [es] at r0 r1
              have HZ'' : Hid ((rough (kids ⟨0, by decide⟩) (room - 1) (most - n) && rough (kids ⟨1, by decide⟩) (room - 1) (most - n)) = z) := by have := HZ'.out; rw [show decide (0 < room) = true by simpa using er] at this; exact this
              generalize rough (kids ⟨0, by decide⟩) (room - 1) (most - n) = b0 at r0 HZ''
              generalize rough (kids ⟨1, by decide⟩) (room - 1) (most - n) = b1 at r1 HZ''
              clear HZ' es
              have tt0 := t0.later hbel
              go_enter Try.func84, Try.ntmps84
              go_wp2_with (refine load_t _ rfl rfl _ _ rfl tt0 ?_)
              refine (r0 _ hbel).mono ?_
              rintro e w1 ⟨rfl, hb1⟩
              have hbel1 := below_on hbel hb1
              cases b0
              · clear t0 t1 tt0 r0 r1
                go_wp2
                go_ret
                exact ⟨by rw [← HZ''.out]; rfl, hbel1⟩
              · have g2 := cell_later hb1 g1
                have tt1 := t1.later hbel1
                clear t0 t1 tt0 r0 g0 g1
                go_wp2_with (refine load_t _ rfl rfl _ _ rfl tt1 ?_)
                refine (r1 _ hbel1).mono ?_
                rintro e w2 ⟨rfl, hb2⟩
                have hbel2 := below_on hbel1 hb2
                clear tt1 r1 g2
                go_wp2
                go_ret
                exact ⟨by rw [← HZ''.out]; rfl, hbel2⟩
            · have ei : ¬ (0 : Int) < (room : Int) := by omega
              have HZ'' : Hid (false = z) := by have := HZ'.out; simp [er] at this; rw [this]; rfl
              clear HZ' r0 r1 t0 t1 er
              go_enter Try.func84, Try.ntmps84
              go_wp2
              go_ret
              exact ⟨by rw [← HZ''.out]; rfl, hbel⟩
          · have HZ'' : Hid (false = z) := by have := HZ1.out; rw [if_neg e0, dif_neg e2] at this; exact this
            have f0 : ¬ (l : Int) = 0 := by omega
            have f2 : ¬ (l : Int) = 2 := by omega
            clear HZ1 HK RR e0 e2
            go_enter Try.func84, Try.ntmps84
            go_wp2
            go_ret
            exact ⟨by rw [← HZ''.out]; rfl, hbel⟩
      · have HZ' : Hid (false = z) := by have := HZ.out; rw [show decide (0 ≤ n ∧ n ≤ most) = false by simp; omega] at this; exact this
        clear HZ HK RR
        go_enter Try.func84, Try.ntmps84
        go_wp2
        go_ret
        exact ⟨by rw [← HZ'.out]; rfl, hbel⟩
theorem isF_of_eq {i : Nat} {y : EV} {x : Nat → Value} {w : World} {n : Int} {p : Option Addr} {l c : Nat} (h : Facts.holds (eqF i (TV n p l c)) x w) (hi : Is w y (TV n p l c)) : Facts.holds (isF i y) x w := by
  have := eqF_get h
  exact ⟨n, p, l, c, by simp [isF, this], hi⟩

set_option maxHeartbeats 8000000 in
set_option maxRecDepth 100000 in
theorem isShort_any : ∀ (x : EV) (n : Int) (p : Option Addr) (l c : Nat) (w : World), Is w x (TV n p l c) → Calls Try.prog 85 #[TV n p l c] w (Tells (.bool (short x)) w)
  | ⟨m, .inl _⟩, n, p, l, c, w, h => by
    obtain ⟨p', c', e⟩ := h
    simp at e
    obtain ⟨rfl, rfl, rfl, rfl⟩ := e
    obtain ⟨h1, hbel⟩ := one_box w n p 0 c _ rfl
    go_enter Try.func85, Try.ntmps85
    go_wp2_with (refine load_t _ rfl rfl _ _ rfl h1.tat ?_)
    refine (isLeaf_any _ p 0 c _).mono ?_
    rintro e w1 ⟨rfl, hb1⟩
    go_wp2
    go_ret
    exact ⟨rfl, below_on hbel hb1⟩
  | ⟨m, .inr (x, y)⟩, n, p, l, c, w, ⟨g, o, c', n0, p0, l0, c0, n1, p1, l1, c1, e, t0, t1, hx, hy⟩ => by
    simp at e
    obtain ⟨rfl, rfl, rfl, rfl⟩ := e
    obtain ⟨h1, hbel⟩ := one_box w n (some ⟨g, o, none⟩) 2 c _ rfl
    obtain ⟨z, HZ⟩ : ∃ z, Hid (short (.node n x y) = z) := ⟨_, rfl⟩
    rw [HZ.out]
    go_enter Try.func85, Try.ntmps85
    go_wp2_with (refine load_t _ rfl rfl _ _ rfl h1.tat ?_)
    refine (isLeaf_any n _ 2 c _).mono ?_
    rintro e w1 ⟨rfl, hb1⟩
    replace h1 := h1.later hb1
    replace hbel := below_on hbel hb1
    clear hb1
    replace t0 := t0.later hbel
    replace t1 := t1.later hbel
    replace hx := hx.later hbel
    replace hy := hy.later hbel
    go_wp2_with fail
    have hlt1 := h1.lt
    have hS : Calm.Stays (fun w' => Bx w' (w.heap.size) n (some ⟨g, o, none⟩) 2 c ∧ Tat w' g o n0 p0 l0 c0 ∧ Tat w' g (o + 2) n1 p1 l1 c1 ∧ Is w' x (TV n0 p0 l0 c0) ∧ Is w' y (TV n1 p1 l1 c1) ∧ w1.heap.size ≤ w'.heap.size ∧ Below w.heap.size w w') := fun wa wb h hb => ⟨h.1.later hb, h.2.1.later hb, h.2.2.1.later hb, h.2.2.2.1.later hb, h.2.2.2.2.1.later hb, Nat.le_trans h.2.2.2.2.2.1 hb.size, below_on h.2.2.2.2.2.2 hb⟩
    have hF : Facts.Stay [eqF 0 (.pointer (some ⟨w.heap.size, 1, none⟩)), eqF 1 (.slice (some ⟨g, o, none⟩) 2 c), eqF 2 (.pointer (some ⟨g, o, none⟩)), eqF 3 (TV n0 p0 l0 c0), eqF 4 (.pointer (some ⟨w.heap.size, 1, none⟩)), eqF 5 (.slice (some ⟨g, o, none⟩) 2 c), eqF 6 (.pointer (some ⟨g, o + 2, none⟩)), eqF 7 (TV n1 p1 l1 c1), alF 8 w1.heap.size, alF 9 w1.heap.size, sbF 8 3 w1.heap.size x, sbF 9 7 w1.heap.size y] := stay_of (by simp only [List.forall_mem_cons]; exact ⟨eqF_stays _ _, eqF_stays _ _, eqF_stays _ _, eqF_stays _ _, eqF_stays _ _, eqF_stays _ _, eqF_stays _ _, eqF_stays _ _, alF_stays _ _, alF_stays _ _, sbF_stays _ _ _ _, sbF_stays _ _ _ _, fun _ h => by cases h⟩)
    refine FactsG.region (by kernel_rfl) (by kernel_rfl) (fun w' => Bx w' (w.heap.size) n (some ⟨g, o, none⟩) 2 c ∧ Tat w' g o n0 p0 l0 c0 ∧ Tat w' g (o + 2) n1 p1 l1 c1 ∧ Is w' x (TV n0 p0 l0 c0) ∧ Is w' y (TV n1 p1 l1 c1) ∧ w1.heap.size ≤ w'.heap.size ∧ Below w.heap.size w w') (fun x => { tmps := #[TV n (some ⟨g, o, none⟩) 2 c, .pointer (some ⟨w.heap.size, 0, none⟩), .bool false, x 8, x 9, TV n (some ⟨g, o, none⟩) 2 c, .bool false, x 0, x 1, x 2, x 3, x 4, x 5, x 6, x 7, undef, undef, undef, undef, undef, undef, undef, undef, undef, undef, undef, undef, undef, undef, undef, undef, undef, undef, undef, undef], defers := [] }) [eqF 0 (.pointer (some ⟨w.heap.size, 1, none⟩)), eqF 1 (.slice (some ⟨g, o, none⟩) 2 c), eqF 2 (.pointer (some ⟨g, o, none⟩)), eqF 3 (TV n0 p0 l0 c0), eqF 4 (.pointer (some ⟨w.heap.size, 1, none⟩)), eqF 5 (.slice (some ⟨g, o, none⟩) 2 c), eqF 6 (.pointer (some ⟨g, o + 2, none⟩)), eqF 7 (TV n1 p1 l1 c1), alF 8 w1.heap.size, alF 9 w1.heap.size, sbF 8 3 w1.heap.size x, sbF 9 7 w1.heap.size y] (NotOne [8, 9]) (notOne_symm _) _ rfl rfl (by kernel_rfl) (fun _ => undef) rfl (⟨h1, t0.later (Below.refl _ _).drew, t1.later (Below.refl _ _).drew, hx.later (Below.refl _ _).drew, hy.later (Below.refl _ _).drew, Nat.le_refl _, hbel.drew⟩) ⟨?_, ?_, ?_, ?_, ?_, ?_, ?_, ?_, ?_, ?_, ?_, ?_, trivial⟩ ?_
    · exact FactsG.of rfl (fun _ _ _ h => absurd h (by decide)) (fun _ _ _ _ => rfl) (Facts.pure hS hF (fun _ _ => rfl) rfl (fun x wv hSw hd => by
        go_simp))
    · exact FactsG.of rfl (fun _ _ _ h => absurd h (by decide)) (fun _ _ _ _ => rfl) (Facts.pure hS hF (fun _ _ => rfl) rfl (fun x wv hSw hd => by
        have d0 := eqF_get (hd ⟨0, .data⟩ (by simp) rfl _ rfl)
        have g1 := hSw.1.cell1
        simp only [d0]
        go_simp))
    · exact FactsG.of rfl (fun _ _ _ h => absurd h (by decide)) (fun _ _ _ _ => rfl) (Facts.pure hS hF (fun _ _ => rfl) rfl (fun x wv hSw hd => by
        have d1 := eqF_get (hd ⟨1, .data⟩ (by simp) rfl _ rfl)
        simp only [d1]
        go_simp))
    · exact FactsG.of rfl (fun _ _ _ h => absurd h (by decide)) (fun _ _ _ _ => rfl) (Facts.loadT hS hF (fun _ _ => rfl) _ rfl rfl (fun x wv hSw hd => by have d2 := eqF_get (hd ⟨2, .data⟩ (by simp) rfl _ rfl); exact d2) (fun wv hSw => hSw.2.1))
    · exact FactsG.of rfl (fun _ _ _ h => absurd h (by decide)) (fun _ _ _ _ => rfl) (Facts.pure hS hF (fun _ _ => rfl) rfl (fun x wv hSw hd => by
        go_simp))
    · exact FactsG.of rfl (fun _ _ _ h => absurd h (by decide)) (fun _ _ _ _ => rfl) (Facts.pure hS hF (fun _ _ => rfl) rfl (fun x wv hSw hd => by
        have d4 := eqF_get (hd ⟨4, .data⟩ (by simp) rfl _ rfl)
        have g1 := hSw.1.cell1
        simp only [d4]
        go_simp))
    · exact FactsG.of rfl (fun _ _ _ h => absurd h (by decide)) (fun _ _ _ _ => rfl) (Facts.pure hS hF (fun _ _ => rfl) rfl (fun x wv hSw hd => by
        have d5 := eqF_get (hd ⟨5, .data⟩ (by simp) rfl _ rfl)
        simp only [d5]
        go_simp))
    · exact FactsG.of rfl (fun _ _ _ h => absurd h (by decide)) (fun _ _ _ _ => rfl) (Facts.loadT hS hF (fun _ _ => rfl) _ rfl rfl (fun x wv hSw hd => by have d6 := eqF_get (hd ⟨6, .data⟩ (by simp) rfl _ rfl); exact d6) (fun wv hSw => hSw.2.2.1))
    · exact FactsG.allocT rfl rfl hS hF (fun _ _ => rfl) rfl rfl (fun wv hSw => hSw.2.2.2.2.2.1) (fun j f hfj hj => by simp only [List.mem_cons, List.not_mem_nil, or_false] at hj; rcases hj with rfl | rfl <;> exact ⟨_, (Option.some.inj hfj).symm⟩)
    · exact FactsG.allocT rfl rfl hS hF (fun _ _ => rfl) rfl rfl (fun wv hSw => hSw.2.2.2.2.2.1) (fun j f hfj hj => by simp only [List.mem_cons, List.not_mem_nil, or_false] at hj; rcases hj with rfl | rfl <;> exact ⟨_, (Option.some.inj hfj).symm⟩)
    · exact FactsG.storeP rfl rfl (by decide) (fun _ _ => rfl) _ _ rfl (by decide) (by decide) rfl (fun _ => rfl) (fun _ => rfl) (fun x wv hSw hd => ⟨hd ⟨8, .data⟩ (by simp) rfl _ rfl, isF_of_eq (hd ⟨3, .data⟩ (by simp) rfl _ rfl) hSw.2.2.2.1⟩) (fun wv q n p l c n' p' l' c' hSw hq hbx => ⟨hSw.1.rowOther (by omega) _, hSw.2.1.box_lo hbx hSw.2.2.1 _, hSw.2.2.1.box_hi hbx _, hSw.2.2.2.1.box hbx _, hSw.2.2.2.2.1.box hbx _, (by rw [setRow_size]; exact hSw.2.2.2.2.2.1), below_setRow hSw.2.2.2.2.2.2 (by omega) _⟩) (fun x wv q n p l c hrel hxm hNq hq j f hj hfj hh => by
        match j with
        | 0 => obtain rfl := Option.some.inj hfj; exact eqF_box _ _ _ _ _ n p l c hh hq
        | 1 => obtain rfl := Option.some.inj hfj; exact eqF_box _ _ _ _ _ n p l c hh hq
        | 2 => obtain rfl := Option.some.inj hfj; exact eqF_box _ _ _ _ _ n p l c hh hq
        | 3 => obtain rfl := Option.some.inj hfj; exact eqF_box _ _ _ _ _ n p l c hh hq
        | 4 => obtain rfl := Option.some.inj hfj; exact eqF_box _ _ _ _ _ n p l c hh hq
        | 5 => obtain rfl := Option.some.inj hfj; exact eqF_box _ _ _ _ _ n p l c hh hq
        | 6 => obtain rfl := Option.some.inj hfj; exact eqF_box _ _ _ _ _ n p l c hh hq
        | 7 => obtain rfl := Option.some.inj hfj; exact eqF_box _ _ _ _ _ n p l c hh hq
        | 8 => obtain rfl := Option.some.inj hfj; exact alF_box _ _ _ _ _ n p l c hh hq
        | 9 => obtain rfl := Option.some.inj hfj; exact alF_box _ _ _ _ _ n p l c hh hq
        | 11 => obtain rfl := Option.some.inj hfj; exact sbF_other hh (fun h => hrel ⟨9, .phase⟩ (by simp) rfl ⟨8, .phase⟩ (by simp) rfl (by decide) (by decide) (by decide) (h.trans hxm.symm)) hq
        | 10 => exact absurd rfl hj
        | j + 12 => simp at hfj)
    · exact FactsG.storeP rfl rfl (by decide) (fun _ _ => rfl) _ _ rfl (by decide) (by decide) rfl (fun _ => rfl) (fun _ => rfl) (fun x wv hSw hd => ⟨hd ⟨9, .data⟩ (by simp) rfl _ rfl, isF_of_eq (hd ⟨7, .data⟩ (by simp) rfl _ rfl) hSw.2.2.2.2.1⟩) (fun wv q n p l c n' p' l' c' hSw hq hbx => ⟨hSw.1.rowOther (by omega) _, hSw.2.1.box_lo hbx hSw.2.2.1 _, hSw.2.2.1.box_hi hbx _, hSw.2.2.2.1.box hbx _, hSw.2.2.2.2.1.box hbx _, (by rw [setRow_size]; exact hSw.2.2.2.2.2.1), below_setRow hSw.2.2.2.2.2.2 (by omega) _⟩) (fun x wv q n p l c hrel hxm hNq hq j f hj hfj hh => by
        match j with
        | 0 => obtain rfl := Option.some.inj hfj; exact eqF_box _ _ _ _ _ n p l c hh hq
        | 1 => obtain rfl := Option.some.inj hfj; exact eqF_box _ _ _ _ _ n p l c hh hq
        | 2 => obtain rfl := Option.some.inj hfj; exact eqF_box _ _ _ _ _ n p l c hh hq
        | 3 => obtain rfl := Option.some.inj hfj; exact eqF_box _ _ _ _ _ n p l c hh hq
        | 4 => obtain rfl := Option.some.inj hfj; exact eqF_box _ _ _ _ _ n p l c hh hq
        | 5 => obtain rfl := Option.some.inj hfj; exact eqF_box _ _ _ _ _ n p l c hh hq
        | 6 => obtain rfl := Option.some.inj hfj; exact eqF_box _ _ _ _ _ n p l c hh hq
        | 7 => obtain rfl := Option.some.inj hfj; exact eqF_box _ _ _ _ _ n p l c hh hq
        | 8 => obtain rfl := Option.some.inj hfj; exact alF_box _ _ _ _ _ n p l c hh hq
        | 9 => obtain rfl := Option.some.inj hfj; exact alF_box _ _ _ _ _ n p l c hh hq
        | 10 => obtain rfl := Option.some.inj hfj; exact sbF_other hh (fun h => hrel ⟨8, .phase⟩ (by simp) rfl ⟨9, .phase⟩ (by simp) rfl (by decide) (by decide) (by decide) (h.trans hxm.symm)) hq
        | 11 => exact absurd rfl hj
        | j + 12 => simp at hfj)
    rintro xa w3 ⟨_, _, _, _, _, _, hbel⟩ hf hrel
    obtain ⟨q, na, pa, la, ca, d8, d3, hNq, qa, ia⟩ := sbF_get (hf 10 _ (by decide) rfl)
    obtain ⟨q', nb, pb, lb, cb, d9, d7, hNq', qb, ib⟩ := sbF_get (hf 11 _ (by decide) rfl)
    clear hf hS hF hrel t0 t1 h1 hx hy
    simp only [d8, d3, d9, d7]
    clear d8 d3 d9 d7
    have HX : Hid (na = x.n ∧ la = len x) := is_parts ia
    have HY : Hid (nb = y.n ∧ lb = len y) := is_parts ib
    have hC := sameLeaf_any na pa la ca nb pb lb cb
    rw [show (decide (la = 0) && (decide (lb = 0) && na == nb)) = tw x y by rw [HX.out.1, HX.out.2, HY.out.1, HY.out.2, tw_eq]] at hC
    have g0 := qa.cell0
    have g1 := qb.cell0
    by_cases hlt : nb < na
    · have hmin := hlt
      have HM : Hid (min x.n y.n = nb) := by show _ = _; rw [← HX.out.1, ← HY.out.1]; omega
      cases hz : (nb == (0 : Int))
      · have HF : Hid (z = false) := by
          show _ = _
          rw [← HZ.out, short, HM.out, hz]
          rfl
        go_wp2
        go_ret
        exact ⟨by rw [HF.out]; rfl, hbel⟩
      · have HZ1 : Hid ((!tw x y && (short x && short y)) = z) := by
          show _ = _
          rw [← HZ.out, short, HM.out, hz]
          rfl
        clear HZ HM
        go_wp2_with (first | refine load_t _ rfl rfl _ _ rfl qa.tat ?_ | refine load_t _ rfl rfl _ _ rfl qb.tat ?_)
        refine (hC _).mono ?_
        rintro e w4 ⟨rfl, hb1⟩
        replace qa := qa.later hb1
        replace qb := qb.later hb1
        replace ia := ia.later hb1
        replace ib := ib.later hb1
        replace hbel := below_on hbel hb1
        clear hb1 hC hz g0 g1 hlt
        generalize tw x y = bt at HZ1
        cases bt
        · have rx := isShort_any x na pa la ca w4 ia
          generalize short x = bx at HZ1 rx
          go_wp2_with (first | refine load_t _ rfl rfl _ _ rfl qa.tat ?_ | refine load_t _ rfl rfl _ _ rfl qb.tat ?_)
          refine rx.mono ?_
          rintro e w5 ⟨rfl, hb1⟩
          replace qb := qb.later hb1
          replace ib := ib.later hb1
          replace hbel := below_on hbel hb1
          clear hb1 rx qa ia
          cases bx
          · go_wp2
            go_ret
            exact ⟨by rw [← HZ1.out]; rfl, hbel⟩
          · have ry := isShort_any y nb pb lb cb w5 ib
            generalize short y = by_ at HZ1 ry
            go_wp2_with (first | refine load_t _ rfl rfl _ _ rfl qb.tat ?_)
            refine ry.mono ?_
            rintro e w6 ⟨rfl, hb1⟩
            replace hbel := below_on hbel hb1
            clear hb1 ry qb ib
            go_wp2
            go_ret
            exact ⟨by rw [← HZ1.out]; rfl, hbel⟩
        · go_wp2
          go_ret
          exact ⟨by rw [← HZ1.out]; rfl, hbel⟩
    · have hmin := hlt
      have HM : Hid (min x.n y.n = na) := by show _ = _; rw [← HX.out.1, ← HY.out.1]; omega
      cases hz : (na == (0 : Int))
      · have HF : Hid (z = false) := by
          show _ = _
          rw [← HZ.out, short, HM.out, hz]
          rfl
        go_wp2
        go_ret
        exact ⟨by rw [HF.out]; rfl, hbel⟩
      · have HZ1 : Hid ((!tw x y && (short x && short y)) = z) := by
          show _ = _
          rw [← HZ.out, short, HM.out, hz]
          rfl
        clear HZ HM
        go_wp2_with (first | refine load_t _ rfl rfl _ _ rfl qa.tat ?_ | refine load_t _ rfl rfl _ _ rfl qb.tat ?_)
        refine (hC _).mono ?_
        rintro e w4 ⟨rfl, hb1⟩
        replace qa := qa.later hb1
        replace qb := qb.later hb1
        replace ia := ia.later hb1
        replace ib := ib.later hb1
        replace hbel := below_on hbel hb1
        clear hb1 hC hz g0 g1 hlt
        generalize tw x y = bt at HZ1
        cases bt
        · have rx := isShort_any x na pa la ca w4 ia
          generalize short x = bx at HZ1 rx
          go_wp2_with (first | refine load_t _ rfl rfl _ _ rfl qa.tat ?_ | refine load_t _ rfl rfl _ _ rfl qb.tat ?_)
          refine rx.mono ?_
          rintro e w5 ⟨rfl, hb1⟩
          replace qb := qb.later hb1
          replace ib := ib.later hb1
          replace hbel := below_on hbel hb1
          clear hb1 rx qa ia
          cases bx
          · go_wp2
            go_ret
            exact ⟨by rw [← HZ1.out]; rfl, hbel⟩
          · have ry := isShort_any y nb pb lb cb w5 ib
            generalize short y = by_ at HZ1 ry
            go_wp2_with (first | refine load_t _ rfl rfl _ _ rfl qb.tat ?_)
            refine ry.mono ?_
            rintro e w6 ⟨rfl, hb1⟩
            replace hbel := below_on hbel hb1
            clear hb1 ry qb ib
            go_wp2
            go_ret
            exact ⟨by rw [← HZ1.out]; rfl, hbel⟩
        · go_wp2
          go_ret
          exact ⟨by rw [← HZ1.out]; rfl, hbel⟩

set_option maxHeartbeats 1000000 in
set_option maxRecDepth 100000 in
theorem check_tr (t : Tr) (n : Int) (p : Option Addr) (l c : Nat) (w : World) (h : Lies w t (TV n p l c)) : Calls Try.prog 50 #[TV n p l c] w (Tells (.bool (okT t)) w) := by
  obtain ⟨h1, hbel⟩ := one_box w n p l c _ rfl
  have r0 := fun w1 (hb : Below w.heap.size w w1) => isRough_any t 16 1073741824 n p l c w1 (h.later hb) (by omega) (by omega) (by omega)
  have r1 := fun w1 (hb : Below w.heap.size w w1) (hr : rough t 16 1073741824 = true) => isShort_any (evOf t) n p l c w1 ((is_of_lies t 16 1073741824 _ hr h).1.later hb)
  unfold okT
  generalize rough t 16 1073741824 = b at r0 r1 ⊢
  generalize short (evOf t) = b1 at r1 ⊢
  clear h
  go_enter Try.func50, Try.ntmps50
  go_wp2_with (refine load_t _ rfl rfl _ _ rfl h1.tat ?_)
  refine (r0 _ hbel).mono ?_
  rintro e w1 ⟨rfl, hb1⟩
  replace h1 := h1.later hb1
  replace hbel := below_on hbel hb1
  cases b
  · go_wp2
    go_ret
    exact ⟨rfl, hbel⟩
  · go_wp2_with (refine load_t _ rfl rfl _ _ rfl h1.tat ?_)
    refine (r1 _ hbel trivial).mono ?_
    rintro e w2 ⟨rfl, hb2⟩
    go_wp2
    go_ret
    exact ⟨rfl, below_on hbel hb2⟩
end Go.Proofs.Ytmcajjdijjcpkaa
/- The functions shorten and Norm of package events. -/
namespace Go.Proofs.Ytmcajjdijjcpkaa
open Go.RowKit

set_option maxHeartbeats 2000000 in
set_option maxRecDepth 100000 in
theorem shorten_leaf (n : Int) (p : Option Addr) (c : Nat) (w : World) : Calls Try.prog 111 #[TV n p 0 c] w (Gives (.leaf n) w) := by
  obtain ⟨h1, h2, hbel⟩ := two_box w n p 0 c 0 none 0 0 _ rfl
  go_enter Try.func111, Try.ntmps111
  go_wp2_with (refine load_t _ rfl rfl _ _ rfl h1.tat ?_)
  refine (isLeaf_any _ p 0 c _).mono ?_
  rintro e w1 ⟨rfl, hb1⟩
  replace h1 := (h1.later hb1).cell0
  replace h2 := h2.later hb1
  replace hbel := below_on hbel hb1
  clear hb1
  go_wp2_with fail
  refine (leaf_any _ _).mono ?_
  rintro e w2 ⟨rfl, hb1⟩
  replace h2 := h2.later hb1
  replace hbel := below_on hbel hb1
  clear hb1 h1
  have R := below_setRow hbel (g := w.heap.size + 1) (by omega) #[.int .i64 n, .slice none 0 0]
  go_wp2_with (refine store_t rfl _ _ rfl _ n none 0 0 rfl rfl h2 ?_)
  exact bodyPost_ret (results_t rfl rfl (h2.row _ _ _ _)) rfl ⟨_, _, _, _, rfl, is_leaf _ _ _ _, R⟩

set_option maxHeartbeats 4000000 in
set_option maxRecDepth 100000 in
theorem shorten_node (x' y' : EV) (n : Int) (g o c : Nat) (n0 : Int) (p0 : Option Addr) (l0 c0 : Nat) (n1 : Int) (p1 : Option Addr) (l1 c1 : Nat) (w : World) (t0 : Tat w g o n0 p0 l0 c0) (t1 : Tat w g (o + 2) n1 p1 l1 c1)
    (bx : 0 ≤ x'.n ∧ x'.n ≤ 1073741824) (by_ : 0 ≤ y'.n ∧ y'.n ≤ 1073741824) (bn : 0 ≤ n ∧ n ≤ 1073741824)
    (r0 : ∀ w1, Below w.heap.size w w1 → Calls Try.prog 111 #[TV n0 p0 l0 c0] w1 (Gives x' w1)) (r1 : ∀ w1, Below w.heap.size w w1 → Calls Try.prog 111 #[TV n1 p1 l1 c1] w1 (Gives y' w1)) :
    Calls Try.prog 111 #[TV n (some ⟨g, o, none⟩) 2 c] w (Gives (lift (mk x' y') n) w) := by
  obtain ⟨h1, h2, hbel⟩ := two_box w n (some ⟨g, o, none⟩) 2 c 0 none 0 0 _ rfl
  have HB : Hid ((0 ≤ x'.n ∧ x'.n ≤ 1073741824) ∧ (0 ≤ y'.n ∧ y'.n ≤ 1073741824) ∧ (-9223372036854775808 ≤ (mk x' y').n + n) ∧ ((mk x' y').n + n ≤ 9223372036854775807)) := by
    show _ ∧ _
    rw [mk_n]
    omega
  obtain ⟨z, HZ⟩ : ∃ z, Hid (lift (mk x' y') n = z) := ⟨_, rfl⟩
  rw [HZ.out]
  clear bx by_ bn
  go_enter Try.func111, Try.ntmps111
  go_wp2_with (refine load_t _ rfl rfl _ _ rfl h1.tat ?_)
  refine (isLeaf_any _ _ 2 c _).mono ?_
  rintro e w1 ⟨rfl, hb1⟩
  replace h1 := h1.later hb1
  replace h2 := h2.later hb1
  replace hbel := below_on hbel hb1
  clear hb1
  have g0 := h1.cell0
  go_wp2_with fail
  refine (lifter_any _ _).mono ?_
  rintro e w2 ⟨b, rfl, hby, hb1⟩
  replace h1 := h1.later hb1
  replace h2 := h2.later hb1
  replace hbel := below_on hbel hb1
  clear hb1 g0
  go_wp2_with fail
  have hS : Calm.Stays (fun w' => Bx w' (w.heap.size) n (some ⟨g, o, none⟩) 2 c ∧ (∃ n p l c, Bx w' (w.heap.size + 1) n p l c) ∧ By w' b n ∧ Below w.heap.size w w') := fun wa wb h hb => ⟨h.1.later hb, (by obtain ⟨n, p, l, c, h2⟩ := h.2.1; exact ⟨n, p, l, c, h2.later hb⟩), h.2.2.1.later hb, below_on h.2.2.2 hb⟩
  have hF : Facts.Stay [eqF 0 (LF b), eqF 1 (.pointer (some ⟨w.heap.size, 1, none⟩)), eqF 2 (.slice (some ⟨g, o, none⟩) 2 c), eqF 3 (.pointer (some ⟨g, o, none⟩)), eqF 4 (TV n0 p0 l0 c0), isF 5 x', eqF 6 (.pointer (some ⟨w.heap.size, 1, none⟩)), eqF 7 (.slice (some ⟨g, o, none⟩) 2 c), eqF 8 (.pointer (some ⟨g, o + 2, none⟩)), eqF 9 (TV n1 p1 l1 c1), isF 10 y', isF 11 (mk x' y'), isF 12 z, bxF 12 (w.heap.size + 1) z] := stay_of (by simp only [List.forall_mem_cons]; exact ⟨eqF_stays _ _, eqF_stays _ _, eqF_stays _ _, eqF_stays _ _, eqF_stays _ _, isF_stays _ _, eqF_stays _ _, eqF_stays _ _, eqF_stays _ _, eqF_stays _ _, isF_stays _ _, isF_stays _ _, isF_stays _ _, bxF_stays _ _ _, fun _ h => by cases h⟩)
  refine Facts.region (by kernel_rfl) (by kernel_rfl) (fun w' => Bx w' (w.heap.size) n (some ⟨g, o, none⟩) 2 c ∧ (∃ n p l c, Bx w' (w.heap.size + 1) n p l c) ∧ By w' b n ∧ Below w.heap.size w w') (fun x => { tmps := #[TV n (some ⟨g, o, none⟩) 2 c, .pointer (some ⟨w.heap.size, 0, none⟩), .pointer (some ⟨w.heap.size + 1, 0, none⟩), LF b, TV n (some ⟨g, o, none⟩) 2 c, .bool false, undef, undef, undef, .pointer (some ⟨w.heap.size, 0, none⟩), .int .i64 n, LF b, x 0, x 1, x 2, x 3, x 4, x 5, x 6, x 7, x 8, x 9, x 10, x 11, x 12], defers := [] }) [eqF 0 (LF b), eqF 1 (.pointer (some ⟨w.heap.size, 1, none⟩)), eqF 2 (.slice (some ⟨g, o, none⟩) 2 c), eqF 3 (.pointer (some ⟨g, o, none⟩)), eqF 4 (TV n0 p0 l0 c0), isF 5 x', eqF 6 (.pointer (some ⟨w.heap.size, 1, none⟩)), eqF 7 (.slice (some ⟨g, o, none⟩) 2 c), eqF 8 (.pointer (some ⟨g, o + 2, none⟩)), eqF 9 (TV n1 p1 l1 c1), isF 10 y', isF 11 (mk x' y'), isF 12 z, bxF 12 (w.heap.size + 1) z] _ rfl (by kernel_rfl) (fun _ => undef) rfl (⟨h1, ⟨_, _, _, _, h2⟩, hby.later (Below.refl _ _).drew, hbel.drew⟩) ⟨?_, ?_, ?_, ?_, ?_, ?_, ?_, ?_, ?_, ?_, ?_, ?_, ?_, ?_, trivial⟩ ?_
  · exact Facts.pure hS hF (fun _ _ => rfl) rfl (fun x wv hSw hd => by
      go_simp)
  · exact Facts.pure hS hF (fun _ _ => rfl) rfl (fun x wv hSw hd => by
      go_simp)
  · exact Facts.pure hS hF (fun _ _ => rfl) rfl (fun x wv hSw hd => by
      have d1 := eqF_get (hd ⟨1, .data⟩ (by simp) rfl _ rfl)
      have g1 := hSw.1.cell1
      simp only [d1]
      go_simp)
  · exact Facts.pure hS hF (fun _ _ => rfl) rfl (fun x wv hSw hd => by
      have d2 := eqF_get (hd ⟨2, .data⟩ (by simp) rfl _ rfl)
      simp only [d2]
      go_simp)
  · exact Facts.loadT hS hF (fun _ _ => rfl) _ rfl rfl (fun x wv hSw hd => by have d3 := eqF_get (hd ⟨3, .data⟩ (by simp) rfl _ rfl); exact d3) (fun wv hSw => t0.later hSw.2.2.2)
  · refine Facts.call1T hS hF (fun _ _ => rfl) rfl (by kernel_rfl) rfl (fun x wv hSw hd => ?_)
    have d4 := eqF_get (hd ⟨4, .data⟩ (by simp) rfl _ rfl)
    have hc := r0 _ hSw.2.2.2
    rw [← d4] at hc
    exact hc
  · exact Facts.pure hS hF (fun _ _ => rfl) rfl (fun x wv hSw hd => by
      go_simp)
  · exact Facts.pure hS hF (fun _ _ => rfl) rfl (fun x wv hSw hd => by
      have d6 := eqF_get (hd ⟨6, .data⟩ (by simp) rfl _ rfl)
      have g1 := hSw.1.cell1
      simp only [d6]
      go_simp)
  · exact Facts.pure hS hF (fun _ _ => rfl) rfl (fun x wv hSw hd => by
      have d7 := eqF_get (hd ⟨7, .data⟩ (by simp) rfl _ rfl)
      simp only [d7]
      go_simp)
  · exact Facts.loadT hS hF (fun _ _ => rfl) _ rfl rfl (fun x wv hSw hd => by have d8 := eqF_get (hd ⟨8, .data⟩ (by simp) rfl _ rfl); exact d8) (fun wv hSw => t1.later hSw.2.2.2)
  · refine Facts.call1T hS hF (fun _ _ => rfl) rfl (by kernel_rfl) rfl (fun x wv hSw hd => ?_)
    have d9 := eqF_get (hd ⟨9, .data⟩ (by simp) rfl _ rfl)
    have hc := r1 _ hSw.2.2.2
    rw [← d9] at hc
    exact hc
  · refine Facts.call2T hS hF (fun _ _ => rfl) rfl (by kernel_rfl) rfl (fun x wv hSw hd => ?_)
    obtain ⟨n5i, p5i, l5i, c5i, d5, e5⟩ := isF_get (hd ⟨5, .data⟩ (by simp) rfl _ rfl)
    obtain ⟨n10i, p10i, l10i, c10i, d10, e10⟩ := isF_get (hd ⟨10, .data⟩ (by simp) rfl _ rfl)
    have hc := pair_any x' y' _ _ _ _ _ _ _ _ _ e5 e10 HB.out.1 HB.out.2.1
    rw [← d5, ← d10] at hc
    exact hc
  · refine Facts.callC (b := b) hS hF (fun _ _ => rfl) rfl rfl (fun x wv hSw hd => ?_)
    have d0 := eqF_get (hd ⟨0, .data⟩ (by simp) rfl _ rfl)
    obtain ⟨n11i, p11i, l11i, c11i, d11, e11⟩ := isF_get (hd ⟨11, .data⟩ (by simp) rfl _ rfl)
    refine ⟨d0, ?_⟩
    have hc := lifted_is n11i p11i l11i c11i b n wv e11 hSw.2.2.1 HB.out.2.2.1 HB.out.2.2.2
    rw [← d11, HZ.out] at hc
    exact hc
  · exact Facts.storeT (fun _ _ => rfl) _ _ rfl (by decide) rfl (fun _ => rfl) (fun _ => rfl) (fun x wv hSw hd => isF_get (hd ⟨12, .data⟩ (by simp) rfl _ rfl)) (fun wv hSw => ⟨hSw.2.1, fun n p l c => (by obtain ⟨s1, ⟨_, _, _, _, s2⟩, s3, s4⟩ := hSw; exact ⟨s1.rowOther (by omega) _, ⟨_, _, _, _, s2.row n p l c⟩, s3.box s2 _, below_setRow s4 (by omega) _⟩)⟩) (fun j f hj hfj => by
      match j with
      | 0 => obtain rfl := Option.some.inj hfj; exact eqF_box _ _ _
      | 1 => obtain rfl := Option.some.inj hfj; exact eqF_box _ _ _
      | 2 => obtain rfl := Option.some.inj hfj; exact eqF_box _ _ _
      | 3 => obtain rfl := Option.some.inj hfj; exact eqF_box _ _ _
      | 4 => obtain rfl := Option.some.inj hfj; exact eqF_box _ _ _
      | 5 => obtain rfl := Option.some.inj hfj; exact isF_box _ _ _
      | 6 => obtain rfl := Option.some.inj hfj; exact eqF_box _ _ _
      | 7 => obtain rfl := Option.some.inj hfj; exact eqF_box _ _ _
      | 8 => obtain rfl := Option.some.inj hfj; exact eqF_box _ _ _
      | 9 => obtain rfl := Option.some.inj hfj; exact eqF_box _ _ _
      | 10 => obtain rfl := Option.some.inj hfj; exact isF_box _ _ _
      | 11 => obtain rfl := Option.some.inj hfj; exact isF_box _ _ _
      | 12 => obtain rfl := Option.some.inj hfj; exact isF_box _ _ _
      | 13 => exact absurd rfl hj
      | j + 14 => simp at hfj)
  · rintro xv w9 ⟨_, _, _, hbel9⟩ hf
    obtain ⟨n, p, l, c, _, hbx, hi⟩ := bxF_get (hf 13 _ (by decide) rfl)
    clear hf hS hF
    go_wp2
    exact bodyPost_ret (results_t rfl rfl hbx) rfl ⟨_, _, _, _, rfl, hi, hbel9⟩

theorem shorten_any : ∀ (x : EV) (room : Nat) (left : Int) (n : Int) (p : Option Addr) (l c : Nat) (w : World), Is w x (TV n p l c) → rg x room left = true → left ≤ 1073741824 → Calls Try.prog 111 #[TV n p l c] w (Gives (norm x) w)
  | ⟨m, .inl _⟩, _, _, n, p, l, c, w, ⟨_, _, e⟩, _, _ => by
    simp at e
    obtain ⟨rfl, rfl, rfl, rfl⟩ := e
    exact shorten_leaf n p c w
  | ⟨m, .inr (x, y)⟩, room, left, n, p, l, c, w, ⟨g, o, c', n0, p0, l0, c0, n1, p1, l1, c1, e, t0, t1, hx, hy⟩, hr, hl => by
    simp at e
    obtain ⟨rfl, rfl, rfl, rfl⟩ := e
    obtain ⟨b0, _, b1, b2⟩ := rg_kids hr
    have c1' := rg_n (rg_norm b1)
    have c2' := rg_n (rg_norm b2)
    exact shorten_node (norm x) (norm y) n g o c n0 p0 l0 c0 n1 p1 l1 c1 w t0 t1 (by omega) (by omega) (by omega) (fun w1 hb => shorten_any x _ _ _ _ _ _ w1 (hx.later hb) b1 (by omega)) (fun w1 hb => shorten_any y _ _ _ _ _ _ w1 (hy.later hb) b2 (by omega))

/-- What Norm answers. -/
def nrmX (t : Tr) : EV := if rough t 16 1073741824 then norm (evOf t) else .leaf 0
def nrmE (t : Tr) : Int := if rough t 16 1073741824 then 0 else 3
set_option maxHeartbeats 2000000 in
set_option maxRecDepth 100000 in
theorem norm_tr (t : Tr) (n : Int) (p : Option Addr) (l c : Nat) (w : World) (h : Lies w t (TV n p l c)) :
    Calls Try.prog 103 #[TV n p l c] w (GivesE (nrmX t) (nrmE t) w) := by
  obtain ⟨h1, h2, hbel⟩ := two_box w n p l c 0 none 0 0 _ rfl
  have r0 := fun w1 (hb : Below w.heap.size w w1) => isRough_any t 16 1073741824 n p l c w1 (h.later hb) (by omega) (by omega) (by omega)
  have r1 := fun w1 (hb : Below w.heap.size w w1) (hr : rough t 16 1073741824 = true) => shorten_any (evOf t) 16 1073741824 n p l c w1 ((is_of_lies t 16 1073741824 _ hr h).1.later hb) (is_of_lies t 16 1073741824 _ hr h).2 (by omega)
  unfold nrmX nrmE
  generalize rough t 16 1073741824 = b at r0 r1 ⊢
  clear h
  cases b
  · simp only [Bool.false_eq_true, if_false]
    go_enter Try.func103, Try.ntmps103
    go_wp2_with (refine load_t _ rfl rfl _ _ rfl h1.tat ?_)
    refine (r0 _ hbel).mono ?_
    rintro e w1 ⟨rfl, hb1⟩
    replace h2 := h2.later hb1
    have R := below_setRow (below_on hbel hb1) (g := w.heap.size + 1) (by omega) #[.int .i64 0, .slice none 0 0]
    clear hbel hb1 h1 r0 r1
    go_wp2_with (refine store_t rfl _ _ rfl _ 0 none 0 0 rfl rfl h2 ?_)
    exact bodyPost_ret (results_te rfl rfl (h2.row _ _ _ _)) rfl ⟨_, _, _, _, rfl, is_leaf _ 0 _ _, R⟩
  · simp only [if_true]
    go_enter Try.func103, Try.ntmps103
    go_wp2_with (refine load_t _ rfl rfl _ _ rfl h1.tat ?_)
    refine (r0 _ hbel).mono ?_
    rintro e w1 ⟨rfl, hb1⟩
    replace h1 := h1.later hb1
    replace h2 := h2.later hb1
    replace hbel := below_on hbel hb1
    clear hb1
    go_wp2_with (refine load_t _ rfl rfl _ _ rfl h1.tat ?_)
    refine (r1 _ hbel trivial).mono ?_
    rintro e w2 ⟨n', p', l', c', rfl, hi, hb1⟩
    replace h2 := h2.later hb1
    have R := below_setRow (below_on hbel hb1) (g := w.heap.size + 1) (by omega) #[.int .i64 n', .slice p' l' c']
    clear hbel hb1 h1 r0 r1
    go_wp2_with (refine store_t rfl _ _ rfl _ n' p' l' c' rfl rfl h2 ?_)
    exact bodyPost_ret (results_te rfl rfl (h2.row _ _ _ _)) rfl ⟨_, _, _, _, rfl, hi.box h2 _, R⟩

theorem norm_any (x : EV) (n : Int) (p : Option Addr) (l c : Nat) (w : World) (h : Is w x (TV n p l c)) (hd : rg x 16 1073741824 = true) : Calls Try.prog 103 #[TV n p l c] w (GivesE (norm x) 0 w) := by
  have := norm_tr (toTr x) n p l c w (lies_is x 16 1073741824 _ hd (by omega) h)
  rw [nrmX, nrmE, rough_to, evOf_to] at this
  simpa [hd] using this
theorem check_any (x : EV) (n : Int) (p : Option Addr) (l c : Nat) (w : World) (h : Is w x (TV n p l c)) (hd : rg x 16 1073741824 = true) : Calls Try.prog 50 #[TV n p l c] w (Tells (.bool (short x)) w) := by
  have := check_tr (toTr x) n p l c w (lies_is x 16 1073741824 _ hd (by omega) h)
  rwa [okT_to, ok, hd, Bool.true_and] at this
end Go.Proofs.Ytmcajjdijjcpkaa
/- Calls of three and four arguments, and of functions that are handed in, in a region that draws its order. -/
namespace Go.Proofs.Ytmcajjdijjcpkaa
open Go.RowKit

section
variable {Q : Exit → Act → World → Prop} {S : World → Prop} {md : Region.Mode} {A : (Nat → Value) → Act} {F : List Facts.Fact} {i : Nat} {o : Oper}
theorem Facts.call4T (hS : Calm.Stays S) (hF : Facts.Stay F) (hA : ∀ x u, (A x).put o.dst u = A (Facts.put x i u)) {fn : FuncId} {ts : Array TypeId} {u0 u1 u2 u3 : Operand} (ho : o.op = .call { callee := .value (.func fn), args := #[u0, u1, u2, u3], argTypes := ts }) (hf : Calm.enters Try.prog fn = true) {z : EV} (hz : F[i]? = some (isF i z))
    (h : ∀ x w, S w → (∀ e ∈ o.after, Region.binds md e = true → ∀ f, F[e.on]? = some f → Facts.holds f x w) → Calls Try.prog fn #[(A x).eval u0, (A x).eval u1, (A x).eval u2, (A x).eval u3] w (Gives z w)) : Facts.StepOk Try.prog md Q S A F i o :=
  Facts.call (f := fn) hS hF hA fun x w hSw hdep => ⟨#[(A x).eval u0, (A x).eval u1, (A x).eval u2, (A x).eval u3], by
    have e : ∀ args, (callFunc fn args).run Try.prog w = .ok (.enter fn args) w := fun args => Calm.enters_run hf args w
    unfold execOp
    simp [ho, go_sem, Act.eval, e], (h x w hSw hdep).mono fun e w' ⟨n, p, l, c, he, hi, hb⟩ => ⟨_, he, hb, fun f hf' => by
      rw [hz] at hf'
      obtain rfl := Option.some.inj hf'
      exact isF_put hi⟩⟩
theorem Facts.call4V (hS : Calm.Stays S) (hF : Facts.Stay F) (hA : ∀ x u, (A x).put o.dst u = A (Facts.put x i u)) {fn : FuncId} {ts : Array TypeId} {u0 u1 u2 u3 : Operand} (ho : o.op = .call { callee := .value (.func fn), args := #[u0, u1, u2, u3], argTypes := ts }) (hf : Calm.enters Try.prog fn = true) {v : Value} (hz : F[i]? = some (eqF i v))
    (h : ∀ x w, S w → (∀ e ∈ o.after, Region.binds md e = true → ∀ f, F[e.on]? = some f → Facts.holds f x w) → Calls Try.prog fn #[(A x).eval u0, (A x).eval u1, (A x).eval u2, (A x).eval u3] w (Tells v w)) : Facts.StepOk Try.prog md Q S A F i o :=
  Facts.call (f := fn) hS hF hA fun x w hSw hdep => ⟨#[(A x).eval u0, (A x).eval u1, (A x).eval u2, (A x).eval u3], by
    have e : ∀ args, (callFunc fn args).run Try.prog w = .ok (.enter fn args) w := fun args => Calm.enters_run hf args w
    unfold execOp
    simp [ho, go_sem, Act.eval, e], (h x w hSw hdep).mono fun e w' ⟨he, hb⟩ => ⟨_, he, hb, fun f hf' => by
      rw [hz] at hf'
      obtain rfl := Option.some.inj hf'
      simp [Facts.holds, eqF, Facts.put]⟩⟩
theorem Facts.call3V (hS : Calm.Stays S) (hF : Facts.Stay F) (hA : ∀ x u, (A x).put o.dst u = A (Facts.put x i u)) {fn : FuncId} {ts : Array TypeId} {u0 u1 u2 : Operand} (ho : o.op = .call { callee := .value (.func fn), args := #[u0, u1, u2], argTypes := ts }) (hf : Calm.enters Try.prog fn = true) {v : Value} (hz : F[i]? = some (eqF i v))
    (h : ∀ x w, S w → (∀ e ∈ o.after, Region.binds md e = true → ∀ f, F[e.on]? = some f → Facts.holds f x w) → Calls Try.prog fn #[(A x).eval u0, (A x).eval u1, (A x).eval u2] w (Tells v w)) : Facts.StepOk Try.prog md Q S A F i o :=
  Facts.call (f := fn) hS hF hA fun x w hSw hdep => ⟨#[(A x).eval u0, (A x).eval u1, (A x).eval u2], by
    have e : ∀ args, (callFunc fn args).run Try.prog w = .ok (.enter fn args) w := fun args => Calm.enters_run hf args w
    unfold execOp
    simp [ho, go_sem, Act.eval, e], (h x w hSw hdep).mono fun e w' ⟨he, hb⟩ => ⟨_, he, hb, fun f hf' => by
      rw [hz] at hf'
      obtain rfl := Option.some.inj hf'
      simp [Facts.holds, eqF, Facts.put]⟩⟩
theorem Facts.callF2T (hS : Calm.Stays S) (hF : Facts.Stay F) (hA : ∀ x u, (A x).put o.dst u = A (Facts.put x i u)) {fn : FuncId} {ts : Array TypeId} {u0 u1 t : Operand} (ho : o.op = .call { callee := .value t, args := #[u0, u1], argTypes := ts }) (hf : Calm.enters Try.prog fn = true) {z : EV} (hz : F[i]? = some (isF i z))
    (h : ∀ x w, S w → (∀ e ∈ o.after, Region.binds md e = true → ∀ f, F[e.on]? = some f → Facts.holds f x w) → (A x).eval t = .func (.func fn) #[] #[] ∧ Calls Try.prog fn #[(A x).eval u0, (A x).eval u1] w (Gives z w)) : Facts.StepOk Try.prog md Q S A F i o :=
  Facts.call (f := fn) hS hF hA fun x w hSw hdep => ⟨#[(A x).eval u0, (A x).eval u1], by
    have e : ∀ args, (callFunc fn args).run Try.prog w = .ok (.enter fn args) w := fun args => Calm.enters_run hf args w
    have hv := (h x w hSw hdep).1
    generalize (A x).eval = ρ at hv
    unfold execOp
    simp [ho, go_sem, hv, e], (h x w hSw hdep).2.mono fun e w' ⟨n, p, l, c, he, hi, hb⟩ => ⟨_, he, hb, fun f hf' => by
      rw [hz] at hf'
      obtain rfl := Option.some.inj hf'
      exact isF_put hi⟩⟩
theorem Facts.callF2V (hS : Calm.Stays S) (hF : Facts.Stay F) (hA : ∀ x u, (A x).put o.dst u = A (Facts.put x i u)) {fn : FuncId} {ts : Array TypeId} {u0 u1 t : Operand} (ho : o.op = .call { callee := .value t, args := #[u0, u1], argTypes := ts }) (hf : Calm.enters Try.prog fn = true) {v : Value} (hz : F[i]? = some (eqF i v))
    (h : ∀ x w, S w → (∀ e ∈ o.after, Region.binds md e = true → ∀ f, F[e.on]? = some f → Facts.holds f x w) → (A x).eval t = .func (.func fn) #[] #[] ∧ Calls Try.prog fn #[(A x).eval u0, (A x).eval u1] w (Tells v w)) : Facts.StepOk Try.prog md Q S A F i o :=
  Facts.call (f := fn) hS hF hA fun x w hSw hdep => ⟨#[(A x).eval u0, (A x).eval u1], by
    have e : ∀ args, (callFunc fn args).run Try.prog w = .ok (.enter fn args) w := fun args => Calm.enters_run hf args w
    have hv := (h x w hSw hdep).1
    generalize (A x).eval = ρ at hv
    unfold execOp
    simp [ho, go_sem, hv, e], (h x w hSw hdep).2.mono fun e w' ⟨he, hb⟩ => ⟨_, he, hb, fun f hf' => by
      rw [hz] at hf'
      obtain rfl := Option.some.inj hf'
      simp [Facts.holds, eqF, Facts.put]⟩⟩
end
end Go.Proofs.Ytmcajjdijjcpkaa
