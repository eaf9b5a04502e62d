import Derived.Test.YtmcajjdijjcpkaaP7
/- The function Split of package idtree. -/
namespace Go.Proofs.Ytmcajjdijjcpkaa.Idn
open Go.RowKit

/-- The call answers two trees, and the number r. -/
abbrev GivesTE (x y : ID) (r : Int) (w : World) (e : Ending) (w' : World) : Prop := ∃ n p l c n' p' l' c', e = .returned (.tuple #[TV n p l c, TV n' p' l' c', .int .i64 r]) ∧ Is w' x (TV n p l c) ∧ Is w' y (TV n' p' l' c') ∧ Below w.heap.size w w'
/-- The Split of a tree of whatever form. -/
def splA (t : Tr) : ID := if okT t && !nil (idOf t) && ok (halve (idOf t)).1 && ok (halve (idOf t)).2 then (halve (idOf t)).1 else .leaf false
def splB (t : Tr) : ID := if okT t && !nil (idOf t) && ok (halve (idOf t)).1 && ok (halve (idOf t)).2 then (halve (idOf t)).2 else .leaf false
def splE (t : Tr) : Int := if okT t then if nil (idOf t) then 7 else if ok (halve (idOf t)).1 && ok (halve (idOf t)).2 then 0 else 40 else 3

set_option maxHeartbeats 2000000 in
set_option maxRecDepth 100000 in
theorem split_tr (t : Tr) (n : Int) (p : Option Addr) (l c : Nat) (w : World) (ht : Lies w t (TV n p l c)) : Calls Try.prog 38 #[TV n p l c] w (GivesTE (splA t) (splB t) (splE t) w) := by
  obtain ⟨h1, h2, h3, hbel⟩ := three_box w n p l c 0 none 0 0 0 none 0 0 _ rfl
  have r0 := fun w1 (hb : Below w.heap.size w w1) => check_tr t n p l c w1 (ht.later hb)
  have r1 := fun w1 (k0 : okT t = true) => isNothing_is (is_ok ht k0) w1
  have r2 := fun w1 (hb : Below w.heap.size w w1) (k0 : okT t = true) => halve_any (idOf t) n p l c w1 ((is_ok ht k0).later hb)
  obtain ⟨xa, xb, ez, HA, HB, HE⟩ : ∃ xa xb e, Hid (splA t = xa) ∧ Hid (splB t = xb) ∧ Hid (splE t = e) := ⟨_, _, _, rfl, rfl, rfl⟩
  rw [HA.out, HB.out, HE.out]
  unfold splA at HA
  unfold splB at HB
  unfold splE at HE
  clear ht
  generalize okT t = b0 at r0 r1 r2 HA HB HE
  generalize nil (idOf t) = b1 at r1 HA HB HE
  generalize (halve (idOf t)).1 = a at r2 HA HB HE
  generalize (halve (idOf t)).2 = b at r2 HA HB HE
  go_enter Try.func38, Try.ntmps38
  go_wp2_with (refine load_t _ rfl rfl _ _ rfl h1.tat ?_)
  refine (r0 _ hbel).mono ?_
  rintro e w1 ⟨rfl, hb1⟩
  replace h1 := h1.later hb1
  replace h2 := h2.later hb1
  replace h3 := h3.later hb1
  replace hbel := below_on hbel hb1
  clear hb1 r0
  cases b0
  · obtain rfl : xa = .leaf false := HA.out.symm
    obtain rfl : xb = .leaf false := HB.out.symm
    obtain rfl : ez = 3 := HE.out.symm
    have R := below_setRow (below_setRow hbel (g := w.heap.size + 1) (by omega) #[.int .i64 0, .slice none 0 0]) (g := w.heap.size + 1 + 1) (by omega) #[.int .i64 0, .slice none 0 0]
    have h3' := h3.rowOther (q := w.heap.size + 1) (by omega) #[.int .i64 0, .slice none 0 0]
    clear HA HB HE r1 r2 h1 hbel
    go_wp2_with (first | refine store_t rfl _ _ rfl _ 0 none 0 0 rfl rfl h2 ?_ | refine store_t rfl _ _ rfl _ 0 none 0 0 rfl rfl h3' ?_)
    exact bodyPost_ret (results_tte rfl rfl ((h2.row 0 none 0 0).rowOther (by omega) _) rfl (h3'.row 0 none 0 0)) rfl ⟨_, _, _, _, _, _, _, _, rfl, is_leaf _ false _ _, is_leaf _ false _ _, R⟩
  · go_wp2_with (refine load_t _ rfl rfl _ _ rfl h1.tat ?_)
    refine (r1 _ trivial).mono ?_
    rintro e w2 ⟨rfl, hb1⟩
    replace h1 := h1.later hb1
    replace h2 := h2.later hb1
    replace h3 := h3.later hb1
    replace hbel := below_on hbel hb1
    clear hb1 r1
    cases b1
    · go_wp2_with (refine load_t _ rfl rfl _ _ rfl h1.tat ?_)
      refine (r2 _ hbel trivial).mono ?_
      rintro e w3 ⟨na, pa, la, ca, nb, pb, lb, cb, rfl, ia, ib, hb1⟩
      replace h2 := h2.later hb1
      replace h3 := h3.later hb1
      replace hbel := below_on hbel hb1
      clear hb1 h1 r2
      have h3lt := h3.lt
      have m0 := two_new0 w3
      have m1 := two_new1 w3 na pa la ca
      obtain ⟨k1, k2, hb1⟩ := two_new w3 na pa la ca nb pb lb cb _ rfl
      generalize hw4 : (((w3.alloc (.cells #[.int .i64 0, .slice none 0 0] 24)).alloc (.cells #[.int .i64 0, .slice none 0 0] 24)).setRow w3.heap.size #[.int .i64 na, .slice pa la ca]).setRow (w3.heap.size + 1) #[.int .i64 nb, .slice pb lb cb] = w4 at k1 k2 hb1
      replace h2 := h2.later hb1
      replace h3 := h3.later hb1
      replace ia := ia.later hb1
      replace ib := ib.later hb1
      replace hbel := below_on hbel hb1
      clear hb1
      go_wp2_with (first | rw [hw4] | refine store_t rfl _ _ rfl _ na pa la ca rfl rfl m0 ?_ | refine store_t rfl _ _ rfl _ nb pb lb cb rfl rfl m1 ?_ | refine load_t _ rfl rfl _ _ rfl k1.tat ?_)
      clear m0 m1 hw4
      generalize w3.heap.size = q at h3lt k1 k2 ⊢
      refine (check_any a na pa la ca _ ia).mono ?_
      rintro e w5 ⟨rfl, hb1⟩
      replace h2 := h2.later hb1
      replace h3 := h3.later hb1
      replace ia := ia.later hb1
      replace ib := ib.later hb1
      replace k1 := k1.later hb1
      replace k2 := k2.later hb1
      replace hbel := below_on hbel hb1
      clear hb1
      cases hka : ok a
      · obtain rfl : xa = .leaf false := by rw [← HA.out, hka]; rfl
        obtain rfl : xb = .leaf false := by rw [← HB.out, hka]; rfl
        obtain rfl : ez = 40 := by rw [← HE.out, hka]; rfl
        have R := below_setRow (below_setRow hbel (g := w.heap.size + 1) (by omega) #[.int .i64 0, .slice none 0 0]) (g := w.heap.size + 1 + 1) (by omega) #[.int .i64 0, .slice none 0 0]
        have h3' := h3.rowOther (q := w.heap.size + 1) (by omega) #[.int .i64 0, .slice none 0 0]
        clear HA HB HE k1 k2 ia ib hbel hka
        go_wp2_with (first | refine store_t rfl _ _ rfl _ 0 none 0 0 rfl rfl h2 ?_ | refine store_t rfl _ _ rfl _ 0 none 0 0 rfl rfl h3' ?_)
        exact bodyPost_ret (results_tte rfl rfl ((h2.row 0 none 0 0).rowOther (by omega) _) rfl (h3'.row 0 none 0 0)) rfl ⟨_, _, _, _, _, _, _, _, rfl, is_leaf _ false _ _, is_leaf _ false _ _, R⟩
      · go_wp2_with (refine load_t _ rfl rfl _ _ rfl k2.tat ?_)
        refine (check_any b nb pb lb cb _ ib).mono ?_
        rintro e w6 ⟨rfl, hb1⟩
        replace h2 := h2.later hb1
        replace h3 := h3.later hb1
        replace ia := ia.later hb1
        replace ib := ib.later hb1
        replace k1 := k1.later hb1
        replace k2 := k2.later hb1
        replace hbel := below_on hbel hb1
        clear hb1
        cases hkb : ok b
        · obtain rfl : xa = .leaf false := by rw [← HA.out, hka, hkb]; rfl
          obtain rfl : xb = .leaf false := by rw [← HB.out, hka, hkb]; rfl
          obtain rfl : ez = 40 := by rw [← HE.out, hka, hkb]; rfl
          have R := below_setRow (below_setRow hbel (g := w.heap.size + 1) (by omega) #[.int .i64 0, .slice none 0 0]) (g := w.heap.size + 1 + 1) (by omega) #[.int .i64 0, .slice none 0 0]
          have h3' := h3.rowOther (q := w.heap.size + 1) (by omega) #[.int .i64 0, .slice none 0 0]
          clear HA HB HE k1 k2 ia ib hbel hka hkb
          go_wp2_with (first | refine store_t rfl _ _ rfl _ 0 none 0 0 rfl rfl h2 ?_ | refine store_t rfl _ _ rfl _ 0 none 0 0 rfl rfl h3' ?_)
          exact bodyPost_ret (results_tte rfl rfl ((h2.row 0 none 0 0).rowOther (by omega) _) rfl (h3'.row 0 none 0 0)) rfl ⟨_, _, _, _, _, _, _, _, rfl, is_leaf _ false _ _, is_leaf _ false _ _, R⟩
        · obtain rfl : a = xa := by rw [← HA.out, hka, hkb]; rfl
          obtain rfl : b = xb := by rw [← HB.out, hka, hkb]; rfl
          obtain rfl : ez = 0 := by rw [← HE.out, hka, hkb]; rfl
          clear HA HB HE hka hkb
          go_wp2_with fail
          have hS : Calm.Stays (fun w' => Bx w' q na pa la ca ∧ Bx w' (q + 1) nb pb lb cb ∧ Is w' a (TV na pa la ca) ∧ Is w' b (TV nb pb lb cb) ∧ (∃ n p l c, Bx w' (w.heap.size + 1) n p l c) ∧ (∃ n p l c, Bx w' (w.heap.size + 1 + 1) n p l c) ∧ Below w.heap.size w w') := fun wa wb h hb => ⟨h.1.later hb, h.2.1.later hb, h.2.2.1.later hb, h.2.2.2.1.later hb, (by obtain ⟨n, p, l, c, h2⟩ := h.2.2.2.2.1; exact ⟨n, p, l, c, h2.later hb⟩), (by obtain ⟨n, p, l, c, h2⟩ := h.2.2.2.2.2.1; exact ⟨n, p, l, c, h2.later hb⟩), below_on h.2.2.2.2.2.2 hb⟩
          have hF : Facts.Stay [eqF 0 (TV na pa la ca), eqF 1 (TV nb pb lb cb), bxF 0 (w.heap.size + 1) a, bxF 1 (w.heap.size + 1 + 1) b, eqF 4 (.int .i64 0)] := stay_of (by simp only [List.forall_mem_cons]; exact ⟨eqF_stays _ _, eqF_stays _ _, bxF_stays _ _ _, bxF_stays _ _ _, eqF_stays _ _, fun _ h => by cases h⟩)
          refine Facts.region (by kernel_rfl) (by kernel_rfl) (fun w' => Bx w' q na pa la ca ∧ Bx w' (q + 1) nb pb lb cb ∧ Is w' a (TV na pa la ca) ∧ Is w' b (TV nb pb lb cb) ∧ (∃ n p l c, Bx w' (w.heap.size + 1) n p l c) ∧ (∃ n p l c, Bx w' (w.heap.size + 1 + 1) n p l c) ∧ Below w.heap.size w w') (fun x => { tmps := #[TV n p l c, .pointer (some ⟨w.heap.size, 0, none⟩), .pointer (some ⟨w.heap.size + 1, 0, none⟩), .pointer (some ⟨w.heap.size + 1 + 1, 0, none⟩), x 4, .pointer (some ⟨q, 0, none⟩), .pointer (some ⟨q + 1, 0, none⟩), .bool false, TV n p l c, .bool true, .bool false, undef, undef, .bool false, TV n p l c, .bool false, undef, undef, .tuple #[TV na pa la ca, TV nb pb lb cb], TV n p l c, .tuple #[TV na pa la ca, TV nb pb lb cb], TV na pa la ca, TV nb pb lb cb, TV na pa la ca, .bool true, .bool false, .bool false, TV nb pb lb cb, .bool true, .bool false, .bool false, undef, undef, x 0, x 1], defers := [] }) [eqF 0 (TV na pa la ca), eqF 1 (TV nb pb lb cb), bxF 0 (w.heap.size + 1) a, bxF 1 (w.heap.size + 1 + 1) b, eqF 4 (.int .i64 0)] _ rfl (by kernel_rfl) (fun k => if k = 4 then .int .i64 0 else undef) rfl (⟨k1, k2, ia.later (Below.refl _ _).drew, ib.later (Below.refl _ _).drew, ⟨_, _, _, _, h2⟩, ⟨_, _, _, _, h3⟩, hbel.drew⟩) ⟨?_, ?_, ?_, ?_, ?_, trivial⟩ ?_
          · exact Facts.loadT hS hF (fun _ _ => rfl) _ rfl rfl (fun x wv hSw hd => by rfl) (fun wv hSw => hSw.1.tat)
          · exact Facts.loadT hS hF (fun _ _ => rfl) _ rfl rfl (fun x wv hSw hd => by rfl) (fun wv hSw => hSw.2.1.tat)
          · exact Facts.storeT (fun _ _ => rfl) _ _ rfl (by decide) rfl (fun _ => rfl) (fun _ => rfl) (fun x wv hSw hd => ⟨_, _, _, _, eqF_get (hd ⟨0, .data⟩ (by simp) rfl _ rfl), hSw.2.2.1⟩) (fun wv hSw => ⟨hSw.2.2.2.2.1, fun n p l c => (by obtain ⟨s1, s2, s3, s4, ⟨_, _, _, _, s5⟩, ⟨_, _, _, _, s6⟩, s7⟩ := hSw; exact ⟨s1.rowOther (by omega) _, s2.rowOther (by omega) _, s3.box s5 _, s4.box s5 _, ⟨_, _, _, _, s5.row n p l c⟩, ⟨_, _, _, _, s6.rowOther (by omega) _⟩, below_setRow s7 (by omega) _⟩)⟩) (fun j f hj hfj => by
                match j with
                | 0 => obtain rfl := Option.some.inj hfj; exact eqF_box _ _ _
                | 1 => obtain rfl := Option.some.inj hfj; exact eqF_box _ _ _
                | 3 => obtain rfl := Option.some.inj hfj; exact bxF_box _ _ _ _ (by omega)
                | 4 => obtain rfl := Option.some.inj hfj; exact eqF_box _ _ _
                | 2 => exact absurd rfl hj
                | j + 5 => simp at hfj)
          · exact Facts.storeT (fun _ _ => rfl) _ _ rfl (by decide) rfl (fun _ => rfl) (fun _ => rfl) (fun x wv hSw hd => ⟨_, _, _, _, eqF_get (hd ⟨1, .data⟩ (by simp) rfl _ rfl), hSw.2.2.2.1⟩) (fun wv hSw => ⟨hSw.2.2.2.2.2.1, fun n p l c => (by obtain ⟨s1, s2, s3, s4, ⟨_, _, _, _, s5⟩, ⟨_, _, _, _, s6⟩, s7⟩ := hSw; exact ⟨s1.rowOther (by omega) _, s2.rowOther (by omega) _, s3.box s6 _, s4.box s6 _, ⟨_, _, _, _, s5.rowOther (by omega) _⟩, ⟨_, _, _, _, s6.row n p l c⟩, below_setRow s7 (by omega) _⟩)⟩) (fun j f hj hfj => by
                match j with
                | 0 => obtain rfl := Option.some.inj hfj; exact eqF_box _ _ _
                | 1 => obtain rfl := Option.some.inj hfj; exact eqF_box _ _ _
                | 2 => obtain rfl := Option.some.inj hfj; exact bxF_box _ _ _ _ (by omega)
                | 4 => obtain rfl := Option.some.inj hfj; exact eqF_box _ _ _
                | 3 => exact absurd rfl hj
                | j + 5 => simp at hfj)
          · exact Facts.pure hS hF (fun _ _ => rfl) rfl (fun x wv hSw hd => by
              go_simp)
          rintro xs w7 ⟨_, _, _, _, _, _, hbel⟩ hf
          have d4 := eqF_get (hf 4 _ (by decide) rfl)
          obtain ⟨n4, p4, l4, c4, _, hq, i4⟩ := bxF_get (hf 2 _ (by decide) rfl)
          obtain ⟨n7, p7, l7, c7, _, hq', i7⟩ := bxF_get (hf 3 _ (by decide) rfl)
          simp only [d4]
          go_wp2
          exact bodyPost_ret (results_tte rfl rfl hq rfl hq') rfl ⟨_, _, _, _, _, _, _, _, rfl, i4, i7, hbel⟩
    · obtain rfl : xa = .leaf false := HA.out.symm
      obtain rfl : xb = .leaf false := HB.out.symm
      obtain rfl : ez = 7 := HE.out.symm
      have R := below_setRow (below_setRow hbel (g := w.heap.size + 1) (by omega) #[.int .i64 0, .slice none 0 0]) (g := w.heap.size + 1 + 1) (by omega) #[.int .i64 0, .slice none 0 0]
      have h3' := h3.rowOther (q := w.heap.size + 1) (by omega) #[.int .i64 0, .slice none 0 0]
      clear HA HB HE r2 h1 hbel
      go_wp2_with (first | refine store_t rfl _ _ rfl _ 0 none 0 0 rfl rfl h2 ?_ | refine store_t rfl _ _ rfl _ 0 none 0 0 rfl rfl h3' ?_)
      exact bodyPost_ret (results_tte rfl rfl ((h2.row 0 none 0 0).rowOther (by omega) _) rfl (h3'.row 0 none 0 0)) rfl ⟨_, _, _, _, _, _, _, _, rfl, is_leaf _ false _ _, is_leaf _ false _ _, R⟩
end Go.Proofs.Ytmcajjdijjcpkaa.Idn
/- The functions owned, Share and Owns of package idtree. -/
namespace Go.Proofs.Ytmcajjdijjcpkaa.Idn
open Go.RowKit

/-- How many of so many places are owned. -/
def own : ID → Nat → Nat
  | ⟨.inl b⟩, room => if b then room else 0
  | ⟨.inr (x, y)⟩, room => own x (room / 2) + own y (room / 2)
theorem own_le : ∀ (x : ID) (room : Nat), own x room ≤ room
  | ⟨.inl b⟩, room => by cases b <;> simp [own]
  | ⟨.inr (x, y)⟩, room => by
    have h1 := own_le x (room / 2)
    have h2 := own_le y (room / 2)
    simp only [own]
    omega

set_option maxHeartbeats 2000000 in
set_option maxRecDepth 100000 in
theorem owned_node (room z0 z1 : Nat) (g o c : Nat) (n0 : Int) (p0 : Option Addr) (l0 c0 : Nat) (n1 : Int) (p1 : Option Addr) (l1 c1 : Nat) (w : World) (t0 : Tat w g o n0 p0 l0 c0) (t1 : Tat w g (o + 2) n1 p1 l1 c1) (hr : room ≤ 65536) (b0 : z0 ≤ room / 2) (b1 : z1 ≤ room / 2)
    (r0 : ∀ w1, Below w.heap.size w w1 → Calls Try.prog 37 #[TV n0 p0 l0 c0, .int .i64 (room / 2 : Nat)] w1 fun e w' => e = .returned (.int .i64 z0) ∧ Below w1.heap.size w1 w')
    (r1 : ∀ w1, Below w.heap.size w w1 → Calls Try.prog 37 #[TV n1 p1 l1 c1, .int .i64 (room / 2 : Nat)] w1 fun e w' => e = .returned (.int .i64 z1) ∧ Below w1.heap.size w1 w') :
    Calls Try.prog 37 #[TV 0 (some ⟨g, o, none⟩) 2 c, .int .i64 room] w fun e w' => e = .returned (.int .i64 (z0 + z1 : Nat)) ∧ Below w.heap.size w w' := by
  obtain ⟨h1, hbel⟩ := one_box w 0 (some ⟨g, o, none⟩) 2 c _ rfl
  have hL : ∀ w, Calls Try.prog 55 #[TV 0 (some ⟨g, o, none⟩) 2 c] w fun e w' => e = .returned (.bool false) ∧ Below w.heap.size w w' := isLeaf_any 0 (some ⟨g, o, none⟩) 2 c
  go_enter Try.func37, Try.ntmps37
  go_wp2_with (refine load_t _ rfl rfl _ _ rfl h1.tat ?_)
  refine (hL _).mono ?_
  rintro e w1 ⟨rfl, hb1⟩
  replace h1 := h1.later hb1
  have g1 := h1.cell1
  replace hbel := below_on hbel hb1
  replace t0 := t0.later hbel
  replace t1 := t1.later hbel
  clear hb1 hL
  go_wp2_with fail
  have hs : Calm.Stays (fun w' => Tat w' g o n0 p0 l0 c0 ∧ Tat w' g (o + 2) n1 p1 l1 c1 ∧ w'.cell? ⟨w.heap.size, 1, none⟩ = some (.slice (some ⟨g, o, none⟩) 2 c) ∧ Below w.heap.size w w') := fun wa wb h hb => ⟨h.1.later hb, h.2.1.later hb, cell_later hb h.2.2.1, below_on h.2.2.2 hb⟩
  have e2 : IntKind.i64.wrap ((room : Int) / 2) = ((room / 2 : Nat) : Int) := by rw [IntKind.wrap_i64]; omega
  have e3 : IntKind.i64.wrap ((z0 : Int) + (z1 : Int)) = ((z0 + z1 : Nat) : Int) := by rw [IntKind.wrap_i64]; omega
  refine Calm.region (by kernel_rfl) (by kernel_rfl) (fun w' => Tat w' g o n0 p0 l0 c0 ∧ Tat w' g (o + 2) n1 p1 l1 c1 ∧ w'.cell? ⟨w.heap.size, 1, none⟩ = some (.slice (some ⟨g, o, none⟩) 2 c) ∧ Below w.heap.size w w') ⟨t0, t1, g1, hbel.drew⟩ ?_
  all_goals
    refine Calm.pure (v := ?_) (by rfl) ?_ ?_
    rotate_left
    focus (intro w hSw; go_simp <;> rfl)
    simp only [Act.put, List.setIfInBounds_toArray, List.set_cons_zero, List.set_cons_succ]
  all_goals
    refine Calm.pure (v := ?_) (by rfl) ?_ ?_
    rotate_left
    focus (intro w hSw; go_simp <;> rfl)
    simp only [Act.put, List.setIfInBounds_toArray, List.set_cons_zero, List.set_cons_succ]
  all_goals
    refine Calm.pure (v := ?_) (by rfl) ?_ ?_
    rotate_left
    focus (intro w hSw; go_simp <;> rfl)
    simp only [Act.put, List.setIfInBounds_toArray, List.set_cons_zero, List.set_cons_succ]
  all_goals
    refine Calm.loadT (by rfl) _ rfl rfl (fun _ h => by go_split_ands; assumption) ?_
    simp only [Act.put, List.setIfInBounds_toArray, List.set_cons_zero, List.set_cons_succ]
  all_goals
    refine Calm.pure (v := ?_) (by rfl) ?_ ?_
    rotate_left
    focus (intro w hSw; go_simp <;> rfl)
    simp only [Act.put, List.setIfInBounds_toArray, List.set_cons_zero, List.set_cons_succ]
  all_goals
    refine Calm.pure (v := ?_) (by rfl) ?_ ?_
    rotate_left
    focus (intro w hSw; go_simp <;> rfl)
    simp only [Act.put, List.setIfInBounds_toArray, List.set_cons_zero, List.set_cons_succ]
  all_goals
    (try simp only [e2])
    refine Calm.call2s (by rfl) rfl rfl rfl (by kernel_rfl) hs (fun w1 h => r0 w1 h.2.2.2) ?_
    simp only [Act.put, List.setIfInBounds_toArray, List.set_cons_zero, List.set_cons_succ]
  all_goals
    refine Calm.pure (v := ?_) (by rfl) ?_ ?_
    rotate_left
    focus (intro w hSw; go_simp <;> rfl)
    simp only [Act.put, List.setIfInBounds_toArray, List.set_cons_zero, List.set_cons_succ]
  all_goals
    refine Calm.pure (v := ?_) (by rfl) ?_ ?_
    rotate_left
    focus (intro w hSw; go_simp <;> rfl)
    simp only [Act.put, List.setIfInBounds_toArray, List.set_cons_zero, List.set_cons_succ]
  all_goals
    refine Calm.pure (v := ?_) (by rfl) ?_ ?_
    rotate_left
    focus (intro w hSw; go_simp <;> rfl)
    simp only [Act.put, List.setIfInBounds_toArray, List.set_cons_zero, List.set_cons_succ]
  all_goals
    refine Calm.loadT (by rfl) _ rfl rfl (fun _ h => by go_split_ands; assumption) ?_
    simp only [Act.put, List.setIfInBounds_toArray, List.set_cons_zero, List.set_cons_succ]
  all_goals
    refine Calm.pure (v := ?_) (by rfl) ?_ ?_
    rotate_left
    focus (intro w hSw; go_simp <;> rfl)
    simp only [Act.put, List.setIfInBounds_toArray, List.set_cons_zero, List.set_cons_succ]
  all_goals
    refine Calm.pure (v := ?_) (by rfl) ?_ ?_
    rotate_left
    focus (intro w hSw; go_simp <;> rfl)
    simp only [Act.put, List.setIfInBounds_toArray, List.set_cons_zero, List.set_cons_succ]
  all_goals
    (try simp only [e2])
    refine Calm.call2s (by rfl) rfl rfl rfl (by kernel_rfl) hs (fun w1 h => r1 w1 h.2.2.2) ?_
    simp only [Act.put, List.setIfInBounds_toArray, List.set_cons_zero, List.set_cons_succ]
  all_goals
    refine Calm.pure (v := ?_) (by rfl) ?_ ?_
    rotate_left
    focus (intro w hSw; go_simp <;> rfl)
    simp only [Act.put, List.setIfInBounds_toArray, List.set_cons_zero, List.set_cons_succ]
  all_goals
    refine Calm.pure (v := ?_) (by rfl) ?_ ?_
    rotate_left
    focus (intro w hSw; go_simp <;> rfl)
    simp only [Act.put, List.setIfInBounds_toArray, List.set_cons_zero, List.set_cons_succ]
  rintro w9 ⟨_, _, _, hbel9⟩
  go_wp2
  go_ret
  exact ⟨by simp, hbel9⟩

set_option maxHeartbeats 2000000 in
set_option maxRecDepth 100000 in
theorem owned_any : ∀ (x : ID) (room : Nat) (n : Int) (p : Option Addr) (l c : Nat) (w : World), Is w x (TV n p l c) → room ≤ 65536 →
    Calls Try.prog 37 #[TV n p l c, .int .i64 room] w fun e w' => e = .returned (.int .i64 (own x room)) ∧ Below w.heap.size w w'
  | ⟨.inl b⟩, room, n, p, l, c, w, ⟨_, _, e⟩, hr => by
    simp at e
    obtain ⟨rfl, rfl, rfl, rfl⟩ := e
    obtain ⟨h1, hbel⟩ := one_box w (bi b) p 0 c _ rfl
    have hL : ∀ w, Calls Try.prog 55 #[TV (bi b) p 0 c] w fun e w' => e = .returned (.bool true) ∧ Below w.heap.size w w' := isLeaf_any (bi b) p 0 c
    have HE : Hid (wrap64 (bi b * room) = (own (.leaf b) room : Nat)) := by
      show _ = _
      cases b
      · simp [own, bi, wrap64]
      · simp only [own, bi, if_true, Int.one_mul, wrap64]
        omega
    go_enter Try.func37, Try.ntmps37
    go_wp2_with (refine load_t _ rfl rfl _ _ rfl h1.tat ?_)
    refine (hL _).mono ?_
    rintro e w1 ⟨rfl, hb1⟩
    replace h1 := (h1.later hb1).cell0
    replace hbel := below_on hbel hb1
    clear hb1
    go_wp2
    go_ret
    exact ⟨by rw [← HE.out]; rfl, hbel⟩
  | ⟨.inr (x, y)⟩, room, n, p, l, c, w, ⟨g, o, c', n0, p0, l0, c0, n1, p1, l1, c1, e, t0, t1, hx, hy⟩, hr => by
    simp at e
    obtain ⟨rfl, rfl, rfl, rfl⟩ := e
    exact owned_node room (own x (room / 2)) (own y (room / 2)) g o c n0 p0 l0 c0 n1 p1 l1 c1 w t0 t1 hr (own_le x _) (own_le y _)
      (fun w1 hb => owned_any x (room / 2) n0 p0 l0 c0 w1 (hx.later hb) (by omega)) (fun w1 hb => owned_any y (room / 2) n1 p1 l1 c1 w1 (hy.later hb) (by omega))

def shareT (t : Tr) : Nat := if okT t then own (idOf t) 65536 else 0
set_option maxHeartbeats 2000000 in
set_option maxRecDepth 100000 in
theorem share_tr (t : Tr) (n : Int) (p : Option Addr) (l c : Nat) (w : World) (ht : Lies w t (TV n p l c)) : Calls Try.prog 14 #[TV n p l c] w fun e w' => e = .returned (.int .i64 (shareT t)) ∧ Below w.heap.size w w' := by
  obtain ⟨h1, hbel⟩ := one_box w n p l c _ rfl
  have r0 := fun w1 (hb : Below w.heap.size w w1) => check_tr t n p l c w1 (ht.later hb)
  have r1 := fun w1 (hb : Below w.heap.size w w1) (k0 : okT t = true) => owned_any (idOf t) 65536 n p l c w1 ((is_ok ht k0).later hb) (by omega)
  obtain ⟨z, HZ⟩ : ∃ z, Hid (shareT t = z) := ⟨_, rfl⟩
  rw [HZ.out]
  unfold shareT at HZ
  clear ht
  generalize okT t = b0 at r0 r1 HZ
  generalize own (idOf t) 65536 = s at r1 HZ
  go_enter Try.func14, Try.ntmps14
  go_wp2_with (refine load_t _ rfl rfl _ _ rfl h1.tat ?_)
  refine (r0 _ hbel).mono ?_
  rintro e w1 ⟨rfl, hb1⟩
  replace h1 := h1.later hb1
  replace hbel := below_on hbel hb1
  clear hb1 r0
  cases b0
  · go_wp2
    go_ret
    exact ⟨by rw [← HZ.out]; rfl, hbel⟩
  · go_wp2_with (refine load_t _ rfl rfl _ _ rfl h1.tat ?_)
    refine (r1 _ hbel trivial).mono ?_
    rintro e w2 ⟨rfl, hb1⟩
    go_wp2
    go_ret
    exact ⟨by rw [← HZ.out]; rfl, below_on hbel hb1⟩
end Go.Proofs.Ytmcajjdijjcpkaa.Idn
/- The function Owns of package idtree. -/
namespace Go.Proofs.Ytmcajjdijjcpkaa.Idn
open Go.RowKit

/-- Going down by the k bits of m. -/
def has : ID → Nat → Nat → Bool
  | ⟨.inl b⟩, _, _ => b
  | ⟨.inr (x, y)⟩, k, m => if m.testBit (k - 1) then has y (k - 1) m else has x (k - 1) m

theorem and_pow (m j : Nat) : m &&& 2 ^ j = if m.testBit j then 2 ^ j else 0 := by
  apply Nat.eq_of_testBit_eq
  intro i
  rw [Nat.testBit_and, Nat.testBit_two_pow]
  by_cases h : j = i
  · subst h
    cases m.testBit j <;> simp
  · cases m.testBit j <;> simp [h]
theorem i64_and_nat (a b : Nat) (ha : a < 65536) (hb : b < 65536) : bits .and .i64 (a : Int) (b : Int) = ((a &&& b : Nat) : Int) := by
  have h1 : ∀ x : Nat, x < 65536 → (BitVec.ofInt 64 (x : Int)).toNat = x := fun x hx => by simp; omega
  have h2 : a &&& b < 65536 := Nat.lt_of_le_of_lt Nat.and_le_left ha
  show IntKind.i64.wrap ((BitVec.ofInt 64 (a : Int) &&& BitVec.ofInt 64 (b : Int)).toNat : Int) = _
  rw [BitVec.toNat_and, h1 a ha, h1 b hb, IntKind.wrap_i64]
  omega

set_option maxHeartbeats 2000000 in
set_option maxRecDepth 100000 in
theorem owns_ok (x : ID) (m : Nat) (n : Int) (p : Option Addr) (l c : Nat) (w : World) (hx : Is w x (TV n p l c)) (hk : ok x = true) (hm : m < 65536) :
    Calls Try.prog 28 #[TV n p l c, .int .i64 m] w fun e w' => e = .returned (.bool (has x 16 m)) ∧ Below w.heap.size w w' := by
  obtain ⟨h1, hbel⟩ := one_box w n p l c _ rfl
  have r0 := check_any x n p l c _ (hx.later hbel)
  rw [hk] at r0
  have hd : depth x ≤ 16 := by
    unfold ok at hk
    simp only [Bool.and_eq_true, decide_eq_true_eq] at hk
    exact hk.1
  have hm0 : decide ((m : Int) < 0) = false := by simp only [decide_eq_false_iff_not]; omega
  have hm1 : decide ((65536 : Int) ≤ (m : Int)) = false := by simp only [decide_eq_false_iff_not]; omega
  obtain ⟨z, HZ⟩ : ∃ z, Hid (has x 16 m = z) := ⟨_, rfl⟩
  rw [HZ.out]
  have HX : Hid (Is w x (TV n p l c) ∧ depth x ≤ 16 ∧ m < 65536) := ⟨hx, hd, hm⟩
  clear hx hk hd hm
  go_enter Try.func28, Try.ntmps28
  go_wp2_with fail
  go_step3
  go_wp2_with (refine load_t _ rfl rfl _ _ rfl h1.tat ?_)
  refine r0.mono ?_
  rintro e w1 ⟨rfl, hb1⟩
  replace h1 := h1.later hb1
  replace hbel := below_on hbel hb1
  clear hb1 hm0 hm1 r0
  go_wp2_with fail
  go_step3
  go_wp2_with fail
  go_loopw [5] (fun vb wr => ∃ (k B : Nat) (y : ID) (n : Int) (p : Option Addr) (l c : Nat), vb = .int .i64 B ∧ Hid (B = 2 ^ k / 2 ∧ k ≤ 16) ∧ Bx wr w.heap.size n p l c ∧ Hid (Is w y (TV n p l c) ∧ depth y ≤ k ∧ has y k m = z) ∧ Below w.heap.size w wr) (fun vb _ => (intOf vb).toNat)
  case atStart => exact ⟨16, 32768, x, n, p, l, c, rfl, ⟨rfl, Nat.le_refl _⟩, h1, ⟨HX.out.1, HX.out.2.1, HZ.out⟩, hbel⟩
  case round =>
    clear h1 hbel
    obtain ⟨k, B, y, n', p', l', c', rfl, HB, h1, HY, hbel⟩ := hrel
    have hL := isLeaf_is HY.out.1
    by_cases hk : k = 0
    · obtain ⟨b, rfl⟩ : ∃ b, y = .leaf b := by
        rcases y with ⟨b | ⟨_, _⟩⟩
        · exact ⟨b, rfl⟩
        · have := HY.out.2.1; simp [depth] at this; omega
      obtain rfl : B = 0 := by have := HB.out.1; rw [hk] at this; simpa using this
      obtain ⟨q1, q2, e⟩ := HY.out.1
      simp at e
      obtain ⟨rfl, rfl, rfl, rfl⟩ := e
      have hz : b = z := HY.out.2.2
      have HZ' : Hid ((bi b == 1) = z) := by show _ = _; rw [← hz]; cases b <;> rfl
      have g0 := h1.cell0
      clear hL hz HY HB hk
      go_wp2_with fail
      rw [Exit.noGoto_ret]
      show bodyPost Try.prog Try.f28 _ _ _ _
      go_ret
      exact ⟨by rw [← HZ'.out]; rfl, hbel⟩
    · obtain ⟨j, rfl⟩ : ∃ j, k = j + 1 := ⟨k - 1, by omega⟩
      have hBe : B = 2 ^ j := by have := HB.out.1; rw [Nat.pow_succ] at this; omega
      have hj : j ≤ 15 := by have := HB.out.2; omega
      have hB1 : 1 ≤ B := by rw [hBe]; exact Nat.one_le_two_pow
      have hB2 : B ≤ 32768 := by rw [hBe]; exact Nat.pow_le_pow_right (by decide) hj
      have hi0 : decide ((B : Int) > 0) = true := by simp only [decide_eq_true_eq]; omega
      have HB' : Hid (B = 2 ^ j ∧ j ≤ 15) := ⟨hBe, hj⟩
      have hm := HX.out.2.2
      have ha := i64_and_nat m B (by omega) (by omega)
      have hae : ((m &&& B : Nat) : Int) = if m.testBit j then (B : Int) else 0 := by
        rw [hBe, and_pow]
        cases m.testBit j <;> simp
      rw [hae] at ha
      clear hBe hj hae hm HB hk
      rcases y with ⟨b | ⟨y0, y1⟩⟩
      · obtain ⟨q1, q2, e⟩ := HY.out.1
        simp at e
        obtain ⟨rfl, rfl, rfl, rfl⟩ := e
        have hz : b = z := HY.out.2.2
        have HZ' : Hid ((bi b == 1) = z) := by show _ = _; rw [← hz]; cases b <;> rfl
        clear hz HY ha
        go_wp2_with (refine load_t _ rfl rfl _ _ rfl h1.tat ?_)
        refine (hL _).mono ?_
        rintro e w2 ⟨rfl, hb1⟩
        have g0 := (h1.later hb1).cell0
        replace hbel := below_on hbel hb1
        clear hb1 h1 hL
        go_wp2_with fail
        rw [Exit.noGoto_ret]
        show bodyPost Try.prog Try.f28 _ _ _ _
        go_ret
        exact ⟨by rw [← HZ'.out]; rfl, hbel⟩
      · obtain ⟨⟨g, o, cc, n0, p0, l0, c0, n1, p1, l1, c1, e, t0, t1, hy0, hy1⟩, hd, hz⟩ := HY.out
        simp at e
        obtain ⟨rfl, rfl, rfl, rfl⟩ := e
        have hL2 : ∀ w, Calls Try.prog 55 #[TV 0 (some ⟨g, o, none⟩) 2 c'] w fun e w' => e = .returned (.bool false) ∧ Below w.heap.size w w' := isLeaf_any 0 (some ⟨g, o, none⟩) 2 c'
        simp only [depth] at hd
        simp only [has, Nat.add_sub_cancel] at hz
        have HC : Hid (m.testBit j = true ∨ m.testBit j = false) := by show _ ∨ _; cases m.testBit j <;> simp
        rcases HC.out with hb | hb
        · rw [hb] at ha hz
          simp only [if_true] at ha hz
          have HN : Hid (Is w y1 (TV n1 p1 l1 c1) ∧ depth y1 ≤ j ∧ has y1 j m = z) := ⟨hy1, by omega, hz⟩
          have hne : ¬ (B : Int) = 0 := by omega
          clear hy0 hy1 hd hz hb HC HY hL t0
          go_wp2_with (refine load_t _ rfl rfl _ _ rfl h1.tat ?_)
          refine (hL2 _).mono ?_
          rintro e w2 ⟨rfl, hb1⟩
          replace h1 := h1.later hb1
          replace hbel := below_on hbel hb1
          clear hb1 hL2
          have g1 := h1.cell1
          have tt := t1.later hbel
          have R := below_setRow hbel (g := w.heap.size) (Nat.le_refl _) #[.int .i64 n1, .slice p1 l1 c1]
          have h1' := h1.row n1 p1 l1 c1
          clear hbel t1
          go_wp2_with (first | refine load_t _ rfl rfl _ _ rfl tt ?_ | refine store_t rfl _ _ rfl _ n1 p1 l1 c1 rfl rfl h1 ?_)
          go_roundw
          case rel => exact ⟨j, B / 2, y1, n1, p1, l1, c1, by simp, ⟨by rw [HB'.out.1], by have := HB'.out.2; omega⟩, h1', HN, R⟩
          case measure => simp [intOf]; omega
        · rw [hb] at ha hz
          simp only [Bool.false_eq_true, if_false] at ha hz
          have HN : Hid (Is w y0 (TV n0 p0 l0 c0) ∧ depth y0 ≤ j ∧ has y0 j m = z) := ⟨hy0, by omega, hz⟩
          clear hy0 hy1 hd hz hb HC HY hL t1
          go_wp2_with (refine load_t _ rfl rfl _ _ rfl h1.tat ?_)
          refine (hL2 _).mono ?_
          rintro e w2 ⟨rfl, hb1⟩
          replace h1 := h1.later hb1
          replace hbel := below_on hbel hb1
          clear hb1 hL2
          have g1 := h1.cell1
          have tt := t0.later hbel
          have R := below_setRow hbel (g := w.heap.size) (Nat.le_refl _) #[.int .i64 n0, .slice p0 l0 c0]
          have h1' := h1.row n0 p0 l0 c0
          clear hbel t0
          go_wp2_with (first | refine load_t _ rfl rfl _ _ rfl tt ?_ | refine store_t rfl _ _ rfl _ n0 p0 l0 c0 rfl rfl h1 ?_)
          go_roundw
          case rel => exact ⟨j, B / 2, y0, n0, p0, l0, c0, by simp, ⟨by rw [HB'.out.1], by have := HB'.out.2; omega⟩, h1', HN, R⟩
          case measure => simp [intOf]; omega

set_option maxHeartbeats 2000000 in
set_option maxRecDepth 100000 in
theorem owns_bad (t : Tr) (m : Int) (n : Int) (p : Option Addr) (l c : Nat) (w : World) (ht : Lies w t (TV n p l c)) (hk : okT t = false) (h0 : 0 ≤ m) (h1 : m < 65536) :
    Calls Try.prog 28 #[TV n p l c, .int .i64 m] w fun e w' => e = .returned (.bool false) ∧ Below w.heap.size w w' := by
  obtain ⟨hx, hbel⟩ := one_box w n p l c _ rfl
  have r0 := check_tr t n p l c _ (ht.later hbel)
  rw [hk] at r0
  have hm0 : decide (m < 0) = false := by simp only [decide_eq_false_iff_not]; omega
  have hm1 : decide ((65536 : Int) ≤ m) = false := by simp only [decide_eq_false_iff_not]; omega
  clear ht hk h0 h1
  go_enter Try.func28, Try.ntmps28
  go_wp2_with fail
  go_step3
  go_wp2_with (refine load_t _ rfl rfl _ _ rfl hx.tat ?_)
  refine r0.mono ?_
  rintro e w1 ⟨rfl, hb1⟩
  replace hbel := below_on hbel hb1
  clear hb1 hm0 hm1 r0
  go_wp2_with fail
  (try rw [Exit.noGoto_ret])
  show bodyPost Try.prog Try.f28 _ _ _ _
  go_ret
  exact ⟨rfl, hbel⟩

set_option maxHeartbeats 2000000 in
set_option maxRecDepth 100000 in
theorem owns_out (m : Int) (n : Int) (p : Option Addr) (l c : Nat) (w : World) (h : m < 0 ∨ 65536 ≤ m) :
    Calls Try.prog 28 #[TV n p l c, .int .i64 m] w fun e w' => e = .returned (.bool false) ∧ Below w.heap.size w w' := by
  obtain ⟨hx, hbel⟩ := one_box w n p l c _ rfl
  by_cases h0 : m < 0
  · have hm0 : decide (m < 0) = true := by simp only [decide_eq_true_eq]; omega
    clear h h0
    go_enter Try.func28, Try.ntmps28
    go_wp2_with fail
    go_step3
    go_wp2_with fail
    (try rw [Exit.noGoto_ret])
    show bodyPost Try.prog Try.f28 _ _ _ _
    go_ret
    exact ⟨rfl, hbel⟩
  · have hm0 : decide (m < 0) = false := by simp only [decide_eq_false_iff_not]; omega
    have hm1 : decide ((65536 : Int) ≤ m) = true := by simp only [decide_eq_true_eq]; omega
    clear h h0
    go_enter Try.func28, Try.ntmps28
    go_wp2_with fail
    go_step3
    go_wp2_with fail
    (try rw [Exit.noGoto_ret])
    show bodyPost Try.prog Try.f28 _ _ _ _
    go_ret
    exact ⟨rfl, hbel⟩

def ownsT (t : Tr) (m : Int) : Bool := decide (0 ≤ m ∧ m < 65536) && okT t && has (idOf t) 16 m.toNat
theorem owns_tr (t : Tr) (m : Int) (n : Int) (p : Option Addr) (l c : Nat) (w : World) (ht : Lies w t (TV n p l c)) :
    Calls Try.prog 28 #[TV n p l c, .int .i64 m] w fun e w' => e = .returned (.bool (ownsT t m)) ∧ Below w.heap.size w w' := by
  unfold ownsT
  by_cases hm : 0 ≤ m ∧ m < 65536
  · cases hk : okT t
    · simpa using owns_bad t m n p l c w ht hk hm.1 hm.2
    · have h1 := is_ok ht hk
      have h2 : ok (idOf t) = true := by
        unfold okT at hk
        simp only [Bool.and_eq_true] at hk
        unfold ok
        simp only [Bool.and_eq_true, decide_eq_true_eq]
        exact ⟨(is_of_lies t 16 _ hk.1 ht).2, hk.2⟩
      have h3 := owns_ok (idOf t) m.toNat n p l c w h1 h2 (by omega)
      rw [show ((m.toNat : Nat) : Int) = m by omega] at h3
      simpa [hm] using h3
  · simpa [hm] using owns_out m n p l c w (by omega)
theorem owns_any (x : ID) (m : Int) (n : Int) (p : Option Addr) (l c : Nat) (w : World) (hx : Is w x (TV n p l c)) :
    Calls Try.prog 28 #[TV n p l c, .int .i64 m] w fun e w' => e = .returned (.bool (ownsT (toTr x) m)) ∧ Below w.heap.size w w' := owns_tr _ m n p l c w (lies_is x _ hx)
theorem share_any (x : ID) (n : Int) (p : Option Addr) (l c : Nat) (w : World) (hx : Is w x (TV n p l c)) :
    Calls Try.prog 14 #[TV n p l c] w fun e w' => e = .returned (.int .i64 (shareT (toTr x))) ∧ Below w.heap.size w w' := share_tr _ n p l c w (lies_is x _ hx)
theorem split_any (x : ID) (n : Int) (p : Option Addr) (l c : Nat) (w : World) (hx : Is w x (TV n p l c)) :
    Calls Try.prog 38 #[TV n p l c] w (GivesTE (splA (toTr x)) (splB (toTr x)) (splE (toTr x)) w) := split_tr _ n p l c w (lies_is x _ hx)
end Go.Proofs.Ytmcajjdijjcpkaa.Idn
/- The walk of IdtreeNorms. -/
namespace Go.Proofs.Ytmcajjdijjcpkaa.Idn
open Go.RowKit

theorem short_mk {x y : ID} (hx : short x = true) (hy : short y = true) : short (mk x y) = true := by
  unfold mk
  cases h : tw x y
  · simp [short, h, hx, hy]
  · simpa using hx
theorem short_norm : ∀ x : ID, short (norm x) = true
  | ⟨.inl _⟩ => rfl
  | ⟨.inr (x, y)⟩ => short_mk (short_norm x) (short_norm y)
theorem norm_short : ∀ x : ID, short x = true → norm x = x
  | ⟨.inl _⟩, _ => rfl
  | ⟨.inr (x, y)⟩, h => by
    simp only [short, Bool.and_eq_true, Bool.not_eq_true'] at h
    simp only [norm, norm_short x h.1.2, norm_short y h.2, mk, h.1.1]
    rfl
theorem norm_norm (x : ID) : norm (norm x) = norm x := norm_short _ (short_norm x)
theorem norm_eq (x : ID) : eqb (norm x) x = short x := by
  cases h : short x
  · have : norm x ≠ x := fun e => by have := short_norm x; rw [e, h] at this; cases this
    cases e : eqb (norm x) x
    · rfl
    · exact absurd (eq_of_eqb e) this
  · exact (eqb_iff _ _).2 (norm_short x h)
theorem depth_mk (x y : ID) : depth (mk x y) ≤ 1 + max (depth x) (depth y) := by
  unfold mk
  split
  · omega
  · simp [depth]
theorem depth_norm : ∀ x : ID, depth (norm x) ≤ depth x
  | ⟨.inl _⟩ => Nat.le_refl _
  | ⟨.inr (x, y)⟩ => by
    have h1 := depth_norm x
    have h2 := depth_norm y
    have h3 := depth_mk (norm x) (norm y)
    simp only [norm, depth]
    omega
theorem ok_norm {x : ID} (h : depth x ≤ 16) : ok (norm x) = true := by
  have := depth_norm x
  simp only [ok, short_norm, Bool.and_true, decide_eq_true_eq]
  omega

end Go.Proofs.Ytmcajjdijjcpkaa.Idn
