/- The function Split of package idtree. -/
import Derived.Test.YtdbkjafjanhhbaaHalve
namespace Go.Proofs.Ytdbkjafjanhhbaa
open Go.RowKit

/-- The call answers two trees, and the number r. -/
abbrev GivesTE (x y : ID) (r : Int) (w : World) (e : Ending) (w' : World) : Prop := ∃ n p l c n' p' l' c', e = .returned (.tuple #[TV n p l c, TV n' p' l' c', .int .i64 r]) ∧ Is w' x (TV n p l c) ∧ Is w' y (TV n' p' l' c') ∧ Below w.heap.size w w'
/-- The Split of a tree of whatever form. -/
def splA (t : Tr) : ID := if okT t && !nil (idOf t) && ok (halve (idOf t)).1 && ok (halve (idOf t)).2 then (halve (idOf t)).1 else .leaf false
def splB (t : Tr) : ID := if okT t && !nil (idOf t) && ok (halve (idOf t)).1 && ok (halve (idOf t)).2 then (halve (idOf t)).2 else .leaf false
def splE (t : Tr) : Int := if okT t then if nil (idOf t) then 7 else if ok (halve (idOf t)).1 && ok (halve (idOf t)).2 then 0 else 40 else 3

set_option maxHeartbeats 2000000 in
set_option maxRecDepth 100000 in
theorem split_tr (t : Tr) (n : Int) (p : Option Addr) (l c : Nat) (w : World) (ht : Lies w t (TV n p l c)) : Calls Try.prog 11 #[TV n p l c] w (GivesTE (splA t) (splB t) (splE t) w) := by
  obtain ⟨h1, h2, h3, hbel⟩ := three_box w n p l c 0 none 0 0 0 none 0 0 _ rfl
  have r0 := fun w1 (hb : Below w.heap.size w w1) => check_tr t n p l c w1 (ht.later hb)
  have r1 := fun w1 (k0 : okT t = true) => isNothing_is (is_ok ht k0) w1
  have r2 := fun w1 (hb : Below w.heap.size w w1) (k0 : okT t = true) => halve_any (idOf t) n p l c w1 ((is_ok ht k0).later hb)
  obtain ⟨xa, xb, ez, HA, HB, HE⟩ : ∃ xa xb e, Hid (splA t = xa) ∧ Hid (splB t = xb) ∧ Hid (splE t = e) := ⟨_, _, _, rfl, rfl, rfl⟩
  rw [HA.out, HB.out, HE.out]
  unfold splA at HA
  unfold splB at HB
  unfold splE at HE
  clear ht
  generalize okT t = b0 at r0 r1 r2 HA HB HE
  generalize nil (idOf t) = b1 at r1 HA HB HE
  generalize (halve (idOf t)).1 = a at r2 HA HB HE
  generalize (halve (idOf t)).2 = b at r2 HA HB HE
  go_enter Try.func11, Try.ntmps11
  go_wp2_with (refine load_t _ rfl rfl _ _ rfl h1.tat ?_)
  refine (r0 _ hbel).mono ?_
  rintro e w1 ⟨rfl, hb1⟩
  replace h1 := h1.later hb1
  replace h2 := h2.later hb1
  replace h3 := h3.later hb1
  replace hbel := below_on hbel hb1
  clear hb1 r0
  cases b0
  · obtain rfl : xa = .leaf false := HA.out.symm
    obtain rfl : xb = .leaf false := HB.out.symm
    obtain rfl : ez = 3 := HE.out.symm
    have R := below_setRow (below_setRow hbel (g := w.heap.size + 1) (by omega) #[.int .i64 0, .slice none 0 0]) (g := w.heap.size + 1 + 1) (by omega) #[.int .i64 0, .slice none 0 0]
    have h3' := h3.rowOther (q := w.heap.size + 1) (by omega) #[.int .i64 0, .slice none 0 0]
    clear HA HB HE r1 r2 h1 hbel
    go_wp2_with (first | refine store_t rfl _ _ rfl _ 0 none 0 0 rfl rfl h2 ?_ | refine store_t rfl _ _ rfl _ 0 none 0 0 rfl rfl h3' ?_)
    exact bodyPost_ret (results_tte rfl rfl ((h2.row 0 none 0 0).rowOther (by omega) _) rfl (h3'.row 0 none 0 0)) rfl ⟨_, _, _, _, _, _, _, _, rfl, is_leaf _ false _ _, is_leaf _ false _ _, R⟩
  · go_wp2_with (refine load_t _ rfl rfl _ _ rfl h1.tat ?_)
    refine (r1 _ trivial).mono ?_
    rintro e w2 ⟨rfl, hb1⟩
    replace h1 := h1.later hb1
    replace h2 := h2.later hb1
    replace h3 := h3.later hb1
    replace hbel := below_on hbel hb1
    clear hb1 r1
    cases b1
    · go_wp2_with (refine load_t _ rfl rfl _ _ rfl h1.tat ?_)
      refine (r2 _ hbel trivial).mono ?_
      rintro e w3 ⟨na, pa, la, ca, nb, pb, lb, cb, rfl, ia, ib, hb1⟩
      replace h2 := h2.later hb1
      replace h3 := h3.later hb1
      replace hbel := below_on hbel hb1
      clear hb1 h1 r2
      have h3lt := h3.lt
      have m0 := two_new0 w3
      have m1 := two_new1 w3 na pa la ca
      obtain ⟨k1, k2, hb1⟩ := two_new w3 na pa la ca nb pb lb cb _ rfl
      generalize hw4 : (((w3.alloc (.cells #[.int .i64 0, .slice none 0 0] 24)).alloc (.cells #[.int .i64 0, .slice none 0 0] 24)).setRow w3.heap.size #[.int .i64 na, .slice pa la ca]).setRow (w3.heap.size + 1) #[.int .i64 nb, .slice pb lb cb] = w4 at k1 k2 hb1
      replace h2 := h2.later hb1
      replace h3 := h3.later hb1
      replace ia := ia.later hb1
      replace ib := ib.later hb1
      replace hbel := below_on hbel hb1
      clear hb1
      go_wp2_with (first | rw [hw4] | refine store_t rfl _ _ rfl _ na pa la ca rfl rfl m0 ?_ | refine store_t rfl _ _ rfl _ nb pb lb cb rfl rfl m1 ?_ | refine load_t _ rfl rfl _ _ rfl k1.tat ?_)
      clear m0 m1 hw4
      generalize w3.heap.size = q at h3lt k1 k2 ⊢
      refine (check_any a na pa la ca _ ia).mono ?_
      rintro e w5 ⟨rfl, hb1⟩
      replace h2 := h2.later hb1
      replace h3 := h3.later hb1
      replace ia := ia.later hb1
      replace ib := ib.later hb1
      replace k1 := k1.later hb1
      replace k2 := k2.later hb1
      replace hbel := below_on hbel hb1
      clear hb1
      cases hka : ok a
      · obtain rfl : xa = .leaf false := by rw [← HA.out, hka]; rfl
        obtain rfl : xb = .leaf false := by rw [← HB.out, hka]; rfl
        obtain rfl : ez = 40 := by rw [← HE.out, hka]; rfl
        have R := below_setRow (below_setRow hbel (g := w.heap.size + 1) (by omega) #[.int .i64 0, .slice none 0 0]) (g := w.heap.size + 1 + 1) (by omega) #[.int .i64 0, .slice none 0 0]
        have h3' := h3.rowOther (q := w.heap.size + 1) (by omega) #[.int .i64 0, .slice none 0 0]
        clear HA HB HE k1 k2 ia ib hbel hka
        go_wp2_with (first | refine store_t rfl _ _ rfl _ 0 none 0 0 rfl rfl h2 ?_ | refine store_t rfl _ _ rfl _ 0 none 0 0 rfl rfl h3' ?_)
        exact bodyPost_ret (results_tte rfl rfl ((h2.row 0 none 0 0).rowOther (by omega) _) rfl (h3'.row 0 none 0 0)) rfl ⟨_, _, _, _, _, _, _, _, rfl, is_leaf _ false _ _, is_leaf _ false _ _, R⟩
      · go_wp2_with (refine load_t _ rfl rfl _ _ rfl k2.tat ?_)
        refine (check_any b nb pb lb cb _ ib).mono ?_
        rintro e w6 ⟨rfl, hb1⟩
        replace h2 := h2.later hb1
        replace h3 := h3.later hb1
        replace ia := ia.later hb1
        replace ib := ib.later hb1
        replace k1 := k1.later hb1
        replace k2 := k2.later hb1
        replace hbel := below_on hbel hb1
        clear hb1
        cases hkb : ok b
        · obtain rfl : xa = .leaf false := by rw [← HA.out, hka, hkb]; rfl
          obtain rfl : xb = .leaf false := by rw [← HB.out, hka, hkb]; rfl
          obtain rfl : ez = 40 := by rw [← HE.out, hka, hkb]; rfl
          have R := below_setRow (below_setRow hbel (g := w.heap.size + 1) (by omega) #[.int .i64 0, .slice none 0 0]) (g := w.heap.size + 1 + 1) (by omega) #[.int .i64 0, .slice none 0 0]
          have h3' := h3.rowOther (q := w.heap.size + 1) (by omega) #[.int .i64 0, .slice none 0 0]
          clear HA HB HE k1 k2 ia ib hbel hka hkb
          go_wp2_with (first | refine store_t rfl _ _ rfl _ 0 none 0 0 rfl rfl h2 ?_ | refine store_t rfl _ _ rfl _ 0 none 0 0 rfl rfl h3' ?_)
          exact bodyPost_ret (results_tte rfl rfl ((h2.row 0 none 0 0).rowOther (by omega) _) rfl (h3'.row 0 none 0 0)) rfl ⟨_, _, _, _, _, _, _, _, rfl, is_leaf _ false _ _, is_leaf _ false _ _, R⟩
        · obtain rfl : a = xa := by rw [← HA.out, hka, hkb]; rfl
          obtain rfl : b = xb := by rw [← HB.out, hka, hkb]; rfl
          obtain rfl : ez = 0 := by rw [← HE.out, hka, hkb]; rfl
          clear HA HB HE hka hkb
          go_wp2_with fail
          have hS : Calm.Stays (fun w' => Bx w' q na pa la ca ∧ Bx w' (q + 1) nb pb lb cb ∧ Is w' a (TV na pa la ca) ∧ Is w' b (TV nb pb lb cb) ∧ (∃ n p l c, Bx w' (w.heap.size + 1) n p l c) ∧ (∃ n p l c, Bx w' (w.heap.size + 1 + 1) n p l c) ∧ Below w.heap.size w w') := fun wa wb h hb => ⟨h.1.later hb, h.2.1.later hb, h.2.2.1.later hb, h.2.2.2.1.later hb, (by obtain ⟨n, p, l, c, h2⟩ := h.2.2.2.2.1; exact ⟨n, p, l, c, h2.later hb⟩), (by obtain ⟨n, p, l, c, h2⟩ := h.2.2.2.2.2.1; exact ⟨n, p, l, c, h2.later hb⟩), below_on h.2.2.2.2.2.2 hb⟩
          have hF : Facts.Stay [eqF 0 (TV na pa la ca), eqF 1 (TV nb pb lb cb), bxF 0 (w.heap.size + 1) a, bxF 1 (w.heap.size + 1 + 1) b, eqF 4 (.int .i64 0)] := stay_of (by simp only [List.forall_mem_cons]; exact ⟨eqF_stays _ _, eqF_stays _ _, bxF_stays _ _ _, bxF_stays _ _ _, eqF_stays _ _, fun _ h => by cases h⟩)
          refine Facts.region (by kernel_rfl) (by kernel_rfl) (fun w' => Bx w' q na pa la ca ∧ Bx w' (q + 1) nb pb lb cb ∧ Is w' a (TV na pa la ca) ∧ Is w' b (TV nb pb lb cb) ∧ (∃ n p l c, Bx w' (w.heap.size + 1) n p l c) ∧ (∃ n p l c, Bx w' (w.heap.size + 1 + 1) n p l c) ∧ Below w.heap.size w w') (fun x => { tmps := #[TV n p l c, .pointer (some ⟨w.heap.size, 0, none⟩), .pointer (some ⟨w.heap.size + 1, 0, none⟩), .pointer (some ⟨w.heap.size + 1 + 1, 0, none⟩), x 4, .pointer (some ⟨q, 0, none⟩), .pointer (some ⟨q + 1, 0, none⟩), .bool false, TV n p l c, .bool true, .bool false, undef, undef, .bool false, TV n p l c, .bool false, undef, undef, .tuple #[TV na pa la ca, TV nb pb lb cb], TV n p l c, .tuple #[TV na pa la ca, TV nb pb lb cb], TV na pa la ca, TV nb pb lb cb, TV na pa la ca, .bool true, .bool false, .bool false, TV nb pb lb cb, .bool true, .bool false, .bool false, undef, undef, x 0, x 1], defers := [] }) [eqF 0 (TV na pa la ca), eqF 1 (TV nb pb lb cb), bxF 0 (w.heap.size + 1) a, bxF 1 (w.heap.size + 1 + 1) b, eqF 4 (.int .i64 0)] _ rfl (by kernel_rfl) (fun k => if k = 4 then .int .i64 0 else undef) rfl (⟨k1, k2, ia.later (Below.refl _ _).drew, ib.later (Below.refl _ _).drew, ⟨_, _, _, _, h2⟩, ⟨_, _, _, _, h3⟩, hbel.drew⟩) ⟨?_, ?_, ?_, ?_, ?_, trivial⟩ ?_
          · exact Facts.loadT hS hF (fun _ _ => rfl) _ rfl rfl (fun x wv hSw hd => by rfl) (fun wv hSw => hSw.1.tat)
          · exact Facts.loadT hS hF (fun _ _ => rfl) _ rfl rfl (fun x wv hSw hd => by rfl) (fun wv hSw => hSw.2.1.tat)
          · exact Facts.storeT (fun _ _ => rfl) _ _ rfl (by decide) rfl (fun _ => rfl) (fun _ => rfl) (fun x wv hSw hd => ⟨_, _, _, _, eqF_get (hd ⟨0, .data⟩ (by simp) rfl _ rfl), hSw.2.2.1⟩) (fun wv hSw => ⟨hSw.2.2.2.2.1, fun n p l c => (by obtain ⟨s1, s2, s3, s4, ⟨_, _, _, _, s5⟩, ⟨_, _, _, _, s6⟩, s7⟩ := hSw; exact ⟨s1.rowOther (by omega) _, s2.rowOther (by omega) _, s3.box s5 _, s4.box s5 _, ⟨_, _, _, _, s5.row n p l c⟩, ⟨_, _, _, _, s6.rowOther (by omega) _⟩, below_setRow s7 (by omega) _⟩)⟩) (fun j f hj hfj => by
                match j with
                | 0 => obtain rfl := Option.some.inj hfj; exact eqF_box _ _ _
                | 1 => obtain rfl := Option.some.inj hfj; exact eqF_box _ _ _
                | 3 => obtain rfl := Option.some.inj hfj; exact bxF_box _ _ _ _ (by omega)
                | 4 => obtain rfl := Option.some.inj hfj; exact eqF_box _ _ _
                | 2 => exact absurd rfl hj
                | j + 5 => simp at hfj)
          · exact Facts.storeT (fun _ _ => rfl) _ _ rfl (by decide) rfl (fun _ => rfl) (fun _ => rfl) (fun x wv hSw hd => ⟨_, _, _, _, eqF_get (hd ⟨1, .data⟩ (by simp) rfl _ rfl), hSw.2.2.2.1⟩) (fun wv hSw => ⟨hSw.2.2.2.2.2.1, fun n p l c => (by obtain ⟨s1, s2, s3, s4, ⟨_, _, _, _, s5⟩, ⟨_, _, _, _, s6⟩, s7⟩ := hSw; exact ⟨s1.rowOther (by omega) _, s2.rowOther (by omega) _, s3.box s6 _, s4.box s6 _, ⟨_, _, _, _, s5.rowOther (by omega) _⟩, ⟨_, _, _, _, s6.row n p l c⟩, below_setRow s7 (by omega) _⟩)⟩) (fun j f hj hfj => by
                match j with
                | 0 => obtain rfl := Option.some.inj hfj; exact eqF_box _ _ _
                | 1 => obtain rfl := Option.some.inj hfj; exact eqF_box _ _ _
                | 2 => obtain rfl := Option.some.inj hfj; exact bxF_box _ _ _ _ (by omega)
                | 4 => obtain rfl := Option.some.inj hfj; exact eqF_box _ _ _
                | 3 => exact absurd rfl hj
                | j + 5 => simp at hfj)
          · exact Facts.pure hS hF (fun _ _ => rfl) rfl (fun x wv hSw hd => by
              go_simp)
          rintro xs w7 ⟨_, _, _, _, _, _, hbel⟩ hf
          have d4 := eqF_get (hf 4 _ (by decide) rfl)
          obtain ⟨n4, p4, l4, c4, _, hq, i4⟩ := bxF_get (hf 2 _ (by decide) rfl)
          obtain ⟨n7, p7, l7, c7, _, hq', i7⟩ := bxF_get (hf 3 _ (by decide) rfl)
          simp only [d4]
          go_wp2
          exact bodyPost_ret (results_tte rfl rfl hq rfl hq') rfl ⟨_, _, _, _, _, _, _, _, rfl, i4, i7, hbel⟩
    · obtain rfl : xa = .leaf false := HA.out.symm
      obtain rfl : xb = .leaf false := HB.out.symm
      obtain rfl : ez = 7 := HE.out.symm
      have R := below_setRow (below_setRow hbel (g := w.heap.size + 1) (by omega) #[.int .i64 0, .slice none 0 0]) (g := w.heap.size + 1 + 1) (by omega) #[.int .i64 0, .slice none 0 0]
      have h3' := h3.rowOther (q := w.heap.size + 1) (by omega) #[.int .i64 0, .slice none 0 0]
      clear HA HB HE r2 h1 hbel
      go_wp2_with (first | refine store_t rfl _ _ rfl _ 0 none 0 0 rfl rfl h2 ?_ | refine store_t rfl _ _ rfl _ 0 none 0 0 rfl rfl h3' ?_)
      exact bodyPost_ret (results_tte rfl rfl ((h2.row 0 none 0 0).rowOther (by omega) _) rfl (h3'.row 0 none 0 0)) rfl ⟨_, _, _, _, _, _, _, _, rfl, is_leaf _ false _ _, is_leaf _ false _ _, R⟩
end Go.Proofs.Ytdbkjafjanhhbaa
