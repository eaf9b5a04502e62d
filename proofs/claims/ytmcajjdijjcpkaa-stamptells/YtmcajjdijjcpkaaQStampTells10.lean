import Derived.Test.YtmcajjdijjcpkaaQStampTells9
import Derived.Test.YtmcajjdijjcpkaaQStampTells4
import Derived.Test.YtmcajjdijjcpkaaP9
/- The functions first and Split of the document's answer. -/
namespace Go.Proofs.Ytmcajjdijjcpkaa.Idn
open Go.RowKit

set_option maxHeartbeats 2000000 in
set_option maxRecDepth 100000 in
theorem first_leaf (b : Bool) (p : Option Addr) (c : Nat) (w : World) : Calls Try.prog 74 #[TV (bi b) p 0 c] w (GivesT (.node (.leaf true) (.leaf false)) (.node (.leaf false) (.leaf true)) w) := by
  obtain ⟨h1, h2, h3, hbel⟩ := three_box w (bi b) p 0 c 0 none 0 0 0 none 0 0 _ rfl
  generalize bi b = m at h1 h2 h3 hbel ⊢
  have g1 := h1.cell1
  go_enter Try.func74, Try.ntmps74
  go_wp2_with fail
  refine (refLeaf_gives true _).mono ?_
  rintro e w2 ⟨n2, p2, l2, c2, rfl, i2, hb1⟩
  replace h2 := h2.later hb1
  replace h3 := h3.later hb1
  replace hbel := below_on hbel hb1
  clear hb1
  go_wp2_with fail
  refine (refLeaf_gives false _).mono ?_
  rintro e w3 ⟨n3, p3, l3, c3, rfl, i3, hb1⟩
  replace h2 := h2.later hb1
  replace h3 := h3.later hb1
  replace i2 := i2.later hb1
  replace hbel := below_on hbel hb1
  clear hb1
  go_wp2_with fail
  refine (inner_any _ _ _ _ _ _ _ _ _ _ _ i2 i3).mono ?_
  rintro e w4 ⟨n4, p4, l4, c4, rfl, i4, hb1⟩
  replace h2 := h2.later hb1
  replace h3 := h3.later hb1
  replace hbel := below_on hbel hb1
  clear hb1 i2 i3
  go_wp2_with fail
  refine (refLeaf_gives false _).mono ?_
  rintro e w5 ⟨n5, p5, l5, c5, rfl, i5, hb1⟩
  replace h2 := h2.later hb1
  replace h3 := h3.later hb1
  replace i4 := i4.later hb1
  replace hbel := below_on hbel hb1
  clear hb1
  go_wp2_with fail
  refine (refLeaf_gives true _).mono ?_
  rintro e w6 ⟨n6, p6, l6, c6, rfl, i6, hb1⟩
  replace h2 := h2.later hb1
  replace h3 := h3.later hb1
  replace i4 := i4.later hb1
  replace i5 := i5.later hb1
  replace hbel := below_on hbel hb1
  clear hb1
  go_wp2_with fail
  refine (inner_any _ _ _ _ _ _ _ _ _ _ _ i5 i6).mono ?_
  rintro e w7 ⟨n7, p7, l7, c7, rfl, i7, hb1⟩
  replace h2 := h2.later hb1
  replace h3 := h3.later hb1
  replace i4 := i4.later hb1
  replace hbel := below_on hbel hb1
  clear hb1 i5 i6
  have R := below_setRow (below_setRow hbel (g := w.heap.size + 1) (by omega) #[.int .i64 n4, .slice p4 l4 c4]) (g := w.heap.size + 1 + 1) (by omega) #[.int .i64 n7, .slice p7 l7 c7]
  have h3' := h3.rowOther (q := w.heap.size + 1) (by omega) #[.int .i64 n4, .slice p4 l4 c4]
  go_wp2_with (first | refine store_t rfl _ _ rfl _ n4 p4 l4 c4 rfl rfl h2 ?_ | refine store_t rfl _ _ rfl _ n7 p7 l7 c7 rfl rfl h3' ?_)
  exact bodyPost_ret (results_tt rfl rfl ((h2.row n4 p4 l4 c4).rowOther (by omega) _) rfl (h3'.row n7 p7 l7 c7)) rfl ⟨_, _, _, _, _, _, _, _, rfl, (i4.box h2 _).box h3' _, (i7.box h2 _).box h3' _, R⟩

theorem first_any : ∀ (x : ID) (n : Int) (p : Option Addr) (l c : Nat) (w : World), Is w x (TV n p l c) → Calls Try.prog 74 #[TV n p l c] w (GivesT (rfirst x).1 (rfirst x).2 w)
  | ⟨.inl b⟩, n, p, l, c, w, ⟨_, _, e⟩ => by
    simp at e
    obtain ⟨rfl, rfl, rfl, rfl⟩ := e
    exact first_leaf b p c w
  | ⟨.inr (x, y)⟩, n, p, l, c, w, ⟨g, o, c', n0, p0, l0, c0, n1, p1, l1, c1, e, t0, t1, hx, hy⟩ => by
    simp at e
    obtain ⟨rfl, rfl, rfl, rfl⟩ := e
    have := first_node x y (rfirst x).1 (rfirst x).2 (rfirst y).1 (rfirst y).2 g o c n0 p0 l0 c0 n1 p1 l1 c1 w t0 t1 hx hy (fun n p l c w1 h => first_any x n p l c w1 h) (fun n p l c w1 h => first_any y n p l c w1 h)
    unfold rfirst
    cases h0 : nil x
    · cases h1 : nil y
      · simpa [h0, h1] using this
      · simpa [h0, h1] using this
    · simpa [h0] using this
theorem rfirst_eq : ∀ x : ID, short x = true → nil x = false → rfirst x = halve x
  | ⟨.inl _⟩, _, _ => rfl
  | ⟨.inr (x, y)⟩, h, _ => by
    obtain ⟨ht, hx, hy⟩ := short_node.1 h
    cases h0 : nil x
    · cases h1 : nil y
      · rw [halve_eq3 h0 h1, norm_short x hx, norm_short y hy, mk_right h0, mk_left h1, rfirst, if_neg (by rw [h0]; decide), if_neg (by rw [h1]; decide)]
      · have hn := halve_nil x hx h0
        rw [halve_eq2 h0 h1, mk_right hn.1, mk_right hn.2, rfirst, if_neg (by rw [h0]; decide), if_pos h1, rfirst_eq x hx h0, nil_iff.1 h1]
    · have h1 := nil_other ht h0
      have hn := halve_nil y hy h1
      rw [halve_eq1 h0, mk_left hn.1, mk_left hn.2, rfirst, if_pos h0, rfirst_eq y hy h1, nil_iff.1 h0]
theorem tw_nil_left {y : ID} (h : nil y = false) : tw (.leaf false) y = false := by
  rcases y with ⟨b | ⟨_, _⟩⟩
  · cases b
    · simp [nil] at h
    · rfl
  · rfl
theorem tw_nil_right {y : ID} (h : nil y = false) : tw y (.leaf false) = false := by
  rcases y with ⟨b | ⟨_, _⟩⟩
  · cases b
    · simp [nil] at h
    · rfl
  · rfl
theorem short_halve : ∀ x : ID, short x = true → nil x = false → short (halve x).1 = true ∧ short (halve x).2 = true
  | ⟨.inl _⟩, _, _ => ⟨rfl, rfl⟩
  | ⟨.inr (x, y)⟩, h, _ => by
    obtain ⟨ht, hx, hy⟩ := short_node.1 h
    cases h0 : nil x
    · cases h1 : nil y
      · rw [halve_eq3 h0 h1, norm_short x hx, norm_short y hy, mk_right h0, mk_left h1]
        exact ⟨short_node.2 ⟨tw_nil_right h0, hx, rfl⟩, short_node.2 ⟨tw_nil_left h1, rfl, hy⟩⟩
      · have hn := halve_nil x hx h0
        have ih := short_halve x hx h0
        rw [halve_eq2 h0 h1, mk_right hn.1, mk_right hn.2]
        exact ⟨short_node.2 ⟨tw_nil_right hn.1, ih.1, rfl⟩, short_node.2 ⟨tw_nil_right hn.2, ih.2, rfl⟩⟩
    · have h1 := nil_other ht h0
      have hn := halve_nil y hy h1
      have ih := short_halve y hy h1
      rw [halve_eq1 h0, mk_left hn.1, mk_left hn.2]
      exact ⟨short_node.2 ⟨tw_nil_left hn.1, rfl, ih.1⟩, short_node.2 ⟨tw_nil_left hn.2, rfl, ih.2⟩⟩
theorem first_halve (x : ID) (n : Int) (p : Option Addr) (l c : Nat) (w : World) (h : Is w x (TV n p l c)) (hs : short x = true) (hn : nil x = false) : Calls Try.prog 74 #[TV n p l c] w (GivesT (halve x).1 (halve x).2 w) := by
  have := first_any x n p l c w h
  rwa [rfirst_eq x hs hn] at this

set_option maxHeartbeats 2000000 in
set_option maxRecDepth 100000 in
theorem refSplit_tr (t : Tr) (n : Int) (p : Option Addr) (l c : Nat) (w : World) (ht : Lies w t (TV n p l c)) : Calls Try.prog 39 #[TV n p l c] w (GivesTE (splA t) (splB t) (splE t) w) := by
  obtain ⟨h1, h2, h3, hbel⟩ := three_box w n p l c 0 none 0 0 0 none 0 0 _ rfl
  have r0 := fun w1 (hb : Below w.heap.size w w1) => refCheck_tr t n p l c w1 (ht.later hb)
  have r1 := fun w1 (k0 : okT t = true) => refIsNil_is (is_ok ht k0) w1
  have r2 := fun w1 (hb : Below w.heap.size w w1) (k0 : okT t = true) (k1 : nil (idOf t) = false) => first_halve (idOf t) n p l c w1 ((is_ok ht k0).later hb) (ok_parts (okT_ok ht k0)).2 k1
  have HS : Hid (okT t = true → nil (idOf t) = false → (ok (halve (idOf t)).1 = decide (depth (halve (idOf t)).1 ≤ 16)) ∧ (ok (halve (idOf t)).2 = decide (depth (halve (idOf t)).2 ≤ 16))) := fun k0 k1 => by
    have h := short_halve _ (ok_parts (okT_ok ht k0)).2 k1
    simp [ok, h.1, h.2]
  obtain ⟨xa, xb, ez, HA, HB, HE⟩ : ∃ xa xb e, Hid (splA t = xa) ∧ Hid (splB t = xb) ∧ Hid (splE t = e) := ⟨_, _, _, rfl, rfl, rfl⟩
  rw [HA.out, HB.out, HE.out]
  unfold splA at HA
  unfold splB at HB
  unfold splE at HE
  clear ht
  generalize okT t = b0 at r0 r1 r2 HA HB HE HS
  generalize nil (idOf t) = b1 at r1 r2 HA HB HE HS
  generalize (halve (idOf t)).1 = a at r2 HA HB HE HS
  generalize (halve (idOf t)).2 = b at r2 HA HB HE HS
  go_enter Try.func39, Try.ntmps39
  go_wp2_with (refine load_t _ rfl rfl _ _ rfl h1.tat ?_)
  refine (r0 _ hbel).mono ?_
  rintro e w1 ⟨rfl, hb1⟩
  replace h1 := h1.later hb1
  replace h2 := h2.later hb1
  replace h3 := h3.later hb1
  replace hbel := below_on hbel hb1
  clear hb1 r0
  cases b0
  · obtain rfl : xa = .leaf false := HA.out.symm
    obtain rfl : xb = .leaf false := HB.out.symm
    obtain rfl : ez = 3 := HE.out.symm
    have R := below_setRow (below_setRow hbel (g := w.heap.size + 1) (by omega) #[.int .i64 0, .slice none 0 0]) (g := w.heap.size + 1 + 1) (by omega) #[.int .i64 0, .slice none 0 0]
    have h3' := h3.rowOther (q := w.heap.size + 1) (by omega) #[.int .i64 0, .slice none 0 0]
    clear HA HB HE r1 r2 h1 hbel
    go_wp2_with (first | refine store_t rfl _ _ rfl _ 0 none 0 0 rfl rfl h2 ?_ | refine store_t rfl _ _ rfl _ 0 none 0 0 rfl rfl h3' ?_)
    exact bodyPost_ret (results_tte rfl rfl ((h2.row 0 none 0 0).rowOther (by omega) _) rfl (h3'.row 0 none 0 0)) rfl ⟨_, _, _, _, _, _, _, _, rfl, is_leaf _ false _ _, is_leaf _ false _ _, R⟩
  · go_wp2_with (refine load_t _ rfl rfl _ _ rfl h1.tat ?_)
    refine (r1 _ trivial).mono ?_
    rintro e w2 ⟨rfl, hb1⟩
    replace h1 := h1.later hb1
    replace h2 := h2.later hb1
    replace h3 := h3.later hb1
    replace hbel := below_on hbel hb1
    clear hb1 r1
    cases b1
    · go_wp2_with (refine load_t _ rfl rfl _ _ rfl h1.tat ?_)
      refine (r2 _ hbel (by first | rfl | trivial) (by first | rfl | trivial)).mono ?_
      rintro e w3 ⟨na, pa, la, ca, nb, pb, lb, cb, rfl, ia, ib, hb1⟩
      replace h2 := h2.later hb1
      replace h3 := h3.later hb1
      replace hbel := below_on hbel hb1
      clear hb1 h1 r2
      have h3lt := h3.lt
      have m0 := two_new0 w3
      have m1 := two_new1 w3 na pa la ca
      obtain ⟨k1, k2, hb1⟩ := two_new w3 na pa la ca nb pb lb cb _ rfl
      generalize hw4 : (((w3.alloc (.cells #[.int .i64 0, .slice none 0 0] 24)).alloc (.cells #[.int .i64 0, .slice none 0 0] 24)).setRow w3.heap.size #[.int .i64 na, .slice pa la ca]).setRow (w3.heap.size + 1) #[.int .i64 nb, .slice pb lb cb] = w4 at k1 k2 hb1
      replace h2 := h2.later hb1
      replace h3 := h3.later hb1
      replace ia := ia.later hb1
      replace ib := ib.later hb1
      replace hbel := below_on hbel hb1
      clear hb1
      go_wp2_with (first | rw [hw4] | refine store_t rfl _ _ rfl _ na pa la ca rfl rfl m0 ?_ | refine store_t rfl _ _ rfl _ nb pb lb cb rfl rfl m1 ?_ | refine load_t _ rfl rfl _ _ rfl k1.tat ?_)
      clear m0 m1 hw4
      generalize w3.heap.size = q at h3lt k1 k2 ⊢
      have hKA : ok a = decide (depth a ≤ 16) := (HS.out (by first | rfl | trivial) (by first | rfl | trivial)).1
      have hKB : ok b = decide (depth b ≤ 16) := (HS.out (by first | rfl | trivial) (by first | rfl | trivial)).2
      have rD := refDepth_any a 30 na pa la ca _ ia (by omega)
      obtain ⟨dpa, HDA⟩ : ∃ dpa, Hid (min (depth a) 30 = dpa) := ⟨_, rfl⟩
      rw [HDA.out] at rD
      refine rD.mono ?_
      rintro e w5 ⟨rfl, hb1⟩
      clear rD
      replace h2 := h2.later hb1
      replace h3 := h3.later hb1
      replace ia := ia.later hb1
      replace ib := ib.later hb1
      replace k1 := k1.later hb1
      replace k2 := k2.later hb1
      replace hbel := below_on hbel hb1
      clear hb1
      cases hka : ok a
      · have hgt : decide ((16 : Int) < (dpa : Int)) = true := by
          rw [hKA] at hka
          have h1 := HDA.out
          simp only [decide_eq_false_iff_not] at hka
          simp only [decide_eq_true_eq]
          omega
        clear hKA hKB HDA HS
        obtain rfl : xa = .leaf false := by rw [← HA.out, hka]; rfl
        obtain rfl : xb = .leaf false := by rw [← HB.out, hka]; rfl
        obtain rfl : ez = 40 := by rw [← HE.out, hka]; rfl
        have R := below_setRow (below_setRow hbel (g := w.heap.size + 1) (by omega) #[.int .i64 0, .slice none 0 0]) (g := w.heap.size + 1 + 1) (by omega) #[.int .i64 0, .slice none 0 0]
        have h3' := h3.rowOther (q := w.heap.size + 1) (by omega) #[.int .i64 0, .slice none 0 0]
        clear HA HB HE k1 k2 ia ib hbel hka
        go_wp2_with (first | refine store_t rfl _ _ rfl _ 0 none 0 0 rfl rfl h2 ?_ | refine store_t rfl _ _ rfl _ 0 none 0 0 rfl rfl h3' ?_)
        exact bodyPost_ret (results_tte rfl rfl ((h2.row 0 none 0 0).rowOther (by omega) _) rfl (h3'.row 0 none 0 0)) rfl ⟨_, _, _, _, _, _, _, _, rfl, is_leaf _ false _ _, is_leaf _ false _ _, R⟩
      · have hle : decide ((16 : Int) < (dpa : Int)) = false := by
          rw [hKA] at hka
          have h1 := HDA.out
          simp only [decide_eq_true_eq] at hka
          simp only [decide_eq_false_iff_not]
          omega
        clear hKA HDA HS
        have rD := refDepth_any b 30 nb pb lb cb _ ib (by omega)
        obtain ⟨dpb, HDB⟩ : ∃ dpb, Hid (min (depth b) 30 = dpb) := ⟨_, rfl⟩
        rw [HDB.out] at rD
        have HKB : Hid (ok b = decide (depth b ≤ 16)) := hKB
        have HKA : Hid (ok a = true) := hka
        clear hKB hka
        go_wp2_with (refine load_t _ rfl rfl _ _ rfl k2.tat ?_)
        refine rD.mono ?_
        rintro e w6 ⟨rfl, hb1⟩
        clear rD
        have hka := HKA.out
        have hKB := HKB.out
        clear HKA HKB hle
        replace h2 := h2.later hb1
        replace h3 := h3.later hb1
        replace ia := ia.later hb1
        replace ib := ib.later hb1
        replace k1 := k1.later hb1
        replace k2 := k2.later hb1
        replace hbel := below_on hbel hb1
        clear hb1
        cases hkb : ok b
        · have hgt : decide ((16 : Int) < (dpb : Int)) = true := by
            rw [hKB] at hkb
            have h1 := HDB.out
            simp only [decide_eq_false_iff_not] at hkb
            simp only [decide_eq_true_eq]
            omega
          clear hKB HDB
          obtain rfl : xa = .leaf false := by rw [← HA.out, hka, hkb]; rfl
          obtain rfl : xb = .leaf false := by rw [← HB.out, hka, hkb]; rfl
          obtain rfl : ez = 40 := by rw [← HE.out, hka, hkb]; rfl
          have R := below_setRow (below_setRow hbel (g := w.heap.size + 1) (by omega) #[.int .i64 0, .slice none 0 0]) (g := w.heap.size + 1 + 1) (by omega) #[.int .i64 0, .slice none 0 0]
          have h3' := h3.rowOther (q := w.heap.size + 1) (by omega) #[.int .i64 0, .slice none 0 0]
          clear HA HB HE k1 k2 ia ib hbel hka hkb
          go_wp2_with (first | refine store_t rfl _ _ rfl _ 0 none 0 0 rfl rfl h2 ?_ | refine store_t rfl _ _ rfl _ 0 none 0 0 rfl rfl h3' ?_)
          exact bodyPost_ret (results_tte rfl rfl ((h2.row 0 none 0 0).rowOther (by omega) _) rfl (h3'.row 0 none 0 0)) rfl ⟨_, _, _, _, _, _, _, _, rfl, is_leaf _ false _ _, is_leaf _ false _ _, R⟩
        · have hle : decide ((16 : Int) < (dpb : Int)) = false := by
            rw [hKB] at hkb
            have h1 := HDB.out
            simp only [decide_eq_true_eq] at hkb
            simp only [decide_eq_false_iff_not]
            omega
          clear hKB HDB
          obtain rfl : a = xa := by rw [← HA.out, hka, hkb]; rfl
          obtain rfl : b = xb := by rw [← HB.out, hka, hkb]; rfl
          obtain rfl : ez = 0 := by rw [← HE.out, hka, hkb]; rfl
          clear HA HB HE hka hkb
          go_wp2_with fail
          have hS : Calm.Stays (fun w' => Bx w' q na pa la ca ∧ Bx w' (q + 1) nb pb lb cb ∧ Is w' a (TV na pa la ca) ∧ Is w' b (TV nb pb lb cb) ∧ (∃ n p l c, Bx w' (w.heap.size + 1) n p l c) ∧ (∃ n p l c, Bx w' (w.heap.size + 1 + 1) n p l c) ∧ Below w.heap.size w w') := fun wa wb h hb => ⟨h.1.later hb, h.2.1.later hb, h.2.2.1.later hb, h.2.2.2.1.later hb, (by obtain ⟨n, p, l, c, h2⟩ := h.2.2.2.2.1; exact ⟨n, p, l, c, h2.later hb⟩), (by obtain ⟨n, p, l, c, h2⟩ := h.2.2.2.2.2.1; exact ⟨n, p, l, c, h2.later hb⟩), below_on h.2.2.2.2.2.2 hb⟩
          have hF : Facts.Stay [eqF 0 (TV na pa la ca), eqF 1 (TV nb pb lb cb), bxF 0 (w.heap.size + 1) a, bxF 1 (w.heap.size + 1 + 1) b, eqF 4 (.int .i64 0)] := stay_of (by simp only [List.forall_mem_cons]; exact ⟨eqF_stays _ _, eqF_stays _ _, bxF_stays _ _ _, bxF_stays _ _ _, eqF_stays _ _, fun _ h => by cases h⟩)
          refine Facts.region (by kernel_rfl) (by kernel_rfl) (fun w' => Bx w' q na pa la ca ∧ Bx w' (q + 1) nb pb lb cb ∧ Is w' a (TV na pa la ca) ∧ Is w' b (TV nb pb lb cb) ∧ (∃ n p l c, Bx w' (w.heap.size + 1) n p l c) ∧ (∃ n p l c, Bx w' (w.heap.size + 1 + 1) n p l c) ∧ Below w.heap.size w w') (fun x => { tmps := #[TV n p l c, .pointer (some ⟨w.heap.size, 0, none⟩), .pointer (some ⟨w.heap.size + 1, 0, none⟩), .pointer (some ⟨w.heap.size + 1 + 1, 0, none⟩), x 4, .pointer (some ⟨q, 0, none⟩), .pointer (some ⟨q + 1, 0, none⟩), TV n p l c, .bool true, .bool false, undef, undef, TV n p l c, .bool false, undef, undef, .tuple #[TV na pa la ca, TV nb pb lb cb], TV n p l c, .tuple #[TV na pa la ca, TV nb pb lb cb], TV na pa la ca, TV nb pb lb cb, TV na pa la ca, .int .i64 dpa, .bool false, .bool false, TV nb pb lb cb, .int .i64 dpb, .bool false, .bool false, undef, undef, x 0, x 1], defers := [] }) [eqF 0 (TV na pa la ca), eqF 1 (TV nb pb lb cb), bxF 0 (w.heap.size + 1) a, bxF 1 (w.heap.size + 1 + 1) b, eqF 4 (.int .i64 0)] _ rfl (by kernel_rfl) (fun k => if k = 4 then .int .i64 0 else undef) rfl (⟨k1, k2, ia.later (Below.refl _ _).drew, ib.later (Below.refl _ _).drew, ⟨_, _, _, _, h2⟩, ⟨_, _, _, _, h3⟩, hbel.drew⟩) ⟨?_, ?_, ?_, ?_, ?_, trivial⟩ ?_
          · exact Facts.loadT hS hF (fun _ _ => rfl) _ rfl rfl (fun x wv hSw hd => by rfl) (fun wv hSw => hSw.1.tat)
          · exact Facts.loadT hS hF (fun _ _ => rfl) _ rfl rfl (fun x wv hSw hd => by rfl) (fun wv hSw => hSw.2.1.tat)
          · exact Facts.storeT (fun _ _ => rfl) _ _ rfl (by decide) rfl (fun _ => rfl) (fun _ => rfl) (fun x wv hSw hd => ⟨_, _, _, _, eqF_get (hd ⟨0, .data⟩ (by simp) rfl _ rfl), hSw.2.2.1⟩) (fun wv hSw => ⟨hSw.2.2.2.2.1, fun n p l c => (by obtain ⟨s1, s2, s3, s4, ⟨_, _, _, _, s5⟩, ⟨_, _, _, _, s6⟩, s7⟩ := hSw; exact ⟨s1.rowOther (by omega) _, s2.rowOther (by omega) _, s3.box s5 _, s4.box s5 _, ⟨_, _, _, _, s5.row n p l c⟩, ⟨_, _, _, _, s6.rowOther (by omega) _⟩, below_setRow s7 (by omega) _⟩)⟩) (fun j f hj hfj => by
                match j with
                | 0 => obtain rfl := Option.some.inj hfj; exact eqF_box _ _ _
                | 1 => obtain rfl := Option.some.inj hfj; exact eqF_box _ _ _
                | 3 => obtain rfl := Option.some.inj hfj; exact bxF_box _ _ _ _ (by omega)
                | 4 => obtain rfl := Option.some.inj hfj; exact eqF_box _ _ _
                | 2 => exact absurd rfl hj
                | j + 5 => simp at hfj)
          · exact Facts.storeT (fun _ _ => rfl) _ _ rfl (by decide) rfl (fun _ => rfl) (fun _ => rfl) (fun x wv hSw hd => ⟨_, _, _, _, eqF_get (hd ⟨1, .data⟩ (by simp) rfl _ rfl), hSw.2.2.2.1⟩) (fun wv hSw => ⟨hSw.2.2.2.2.2.1, fun n p l c => (by obtain ⟨s1, s2, s3, s4, ⟨_, _, _, _, s5⟩, ⟨_, _, _, _, s6⟩, s7⟩ := hSw; exact ⟨s1.rowOther (by omega) _, s2.rowOther (by omega) _, s3.box s6 _, s4.box s6 _, ⟨_, _, _, _, s5.rowOther (by omega) _⟩, ⟨_, _, _, _, s6.row n p l c⟩, below_setRow s7 (by omega) _⟩)⟩) (fun j f hj hfj => by
                match j with
                | 0 => obtain rfl := Option.some.inj hfj; exact eqF_box _ _ _
                | 1 => obtain rfl := Option.some.inj hfj; exact eqF_box _ _ _
                | 2 => obtain rfl := Option.some.inj hfj; exact bxF_box _ _ _ _ (by omega)
                | 4 => obtain rfl := Option.some.inj hfj; exact eqF_box _ _ _
                | 3 => exact absurd rfl hj
                | j + 5 => simp at hfj)
          · exact Facts.pure hS hF (fun _ _ => rfl) rfl (fun x wv hSw hd => by
              go_simp)
          rintro xs w7 ⟨_, _, _, _, _, _, hbel⟩ hf
          have d4 := eqF_get (hf 4 _ (by decide) rfl)
          obtain ⟨n4, p4, l4, c4, _, hq, i4⟩ := bxF_get (hf 2 _ (by decide) rfl)
          obtain ⟨n7, p7, l7, c7, _, hq', i7⟩ := bxF_get (hf 3 _ (by decide) rfl)
          simp only [d4]
          go_wp2
          exact bodyPost_ret (results_tte rfl rfl hq rfl hq') rfl ⟨_, _, _, _, _, _, _, _, rfl, i4, i7, hbel⟩
    · obtain rfl : xa = .leaf false := HA.out.symm
      obtain rfl : xb = .leaf false := HB.out.symm
      obtain rfl : ez = 7 := HE.out.symm
      have R := below_setRow (below_setRow hbel (g := w.heap.size + 1) (by omega) #[.int .i64 0, .slice none 0 0]) (g := w.heap.size + 1 + 1) (by omega) #[.int .i64 0, .slice none 0 0]
      have h3' := h3.rowOther (q := w.heap.size + 1) (by omega) #[.int .i64 0, .slice none 0 0]
      clear HA HB HE r2 h1 hbel
      go_wp2_with (first | refine store_t rfl _ _ rfl _ 0 none 0 0 rfl rfl h2 ?_ | refine store_t rfl _ _ rfl _ 0 none 0 0 rfl rfl h3' ?_)
      exact bodyPost_ret (results_tte rfl rfl ((h2.row 0 none 0 0).rowOther (by omega) _) rfl (h3'.row 0 none 0 0)) rfl ⟨_, _, _, _, _, _, _, _, rfl, is_leaf _ false _ _, is_leaf _ false _ _, R⟩
end Go.Proofs.Ytmcajjdijjcpkaa.Idn
/- Fork of the document's answer for stamps. -/
namespace Go.Proofs.Ytmcajjdijjcpkaa
open Go.RowKit
open Idn (ID)

def sxF (b : Nat) (n : Int) (p : Option Addr) (l c : Nat) (m : Int) (q : Option Addr) (j d : Nat) : Facts.Fact := ([], fun _ w => Sx w b n p l c m q j d)
theorem sxF_get {b : Nat} {n : Int} {p : Option Addr} {l c : Nat} {m : Int} {q : Option Addr} {j d : Nat} {x : Nat → Value} {w : World} (h : Facts.holds (sxF b n p l c m q j d) x w) : Sx w b n p l c m q j d := h
theorem sxF_stays (b : Nat) (n : Int) (p : Option Addr) (l c : Nat) (m : Int) (q : Option Addr) (j d : Nat) : staysF (sxF b n p l c m q j d) := fun _ _ _ h hb => Rw.later h hb
theorem sxF_row {b : Nat} {n : Int} {p : Option Addr} {l c : Nat} {m : Int} {r : Option Addr} {j d : Nat} {x : Nat → Value} {w : World} (h : Facts.holds (sxF b n p l c m r j d) x w) {q : Nat} (hq : b ≠ q) (cs : Array Value) : Facts.holds (sxF b n p l c m r j d) x (w.setRow q cs) := Rw.rowOther h hq cs
theorem Facts.build26e {Q : Exit → Act → World → Prop} {S : World → Prop} {md : Region.Mode} {A : (Nat → Value) → Act} {F : List Facts.Fact} {i : Nat} {o : Oper} (hS : Calm.Stays S) (hF : Facts.Stay F) (hA : ∀ x u, (A x).put o.dst u = A (Facts.put x i u)) {u v : Operand} (ho : o.op = .build 26 #[(0, u), (1, v)]) {n : Int} {p : Option Addr} {l c : Nat} {m : Int} {q : Option Addr} {j d : Nat} (hf : F[i]? = some (eqF i (SV n p l c m q j d)))
    (h : ∀ x w, S w → (∀ e ∈ o.after, Region.binds md e = true → ∀ f, F[e.on]? = some f → Facts.holds f x w) → (A x).eval u = TV n p l c ∧ (A x).eval v = TV m q j d) : Facts.StepOk Try.prog md Q S A F i o :=
  Facts.step hS hF hA fun x w hSw hdep => by
    obtain ⟨h1, h2⟩ := h x w hSw hdep
    unfold Oper.wp
    rw [run_build26 ho h1 h2]
    refine ⟨_, rfl, Below.refl _ _, fun f hf' => ?_⟩
    rw [hf] at hf'
    obtain rfl := Option.some.inj hf'
    simp [Facts.holds, eqF, Facts.put]

set_option maxHeartbeats 8000000 in
set_option maxRecDepth 100000 in
theorem rfork_ok (i : ID) (e : EV) (n : Int) (p : Option Addr) (l c : Nat) (n' : Int) (p' : Option Addr) (l' c' : Nat) (w : World) (hi : Idn.Is w i (TV n p l c)) (he : Is w e (TV n' p' l' c')) (ki : Idn.ok i = true) (ke : ok e = true) :
    Calls Try.prog 16 #[SV n p l c n' p' l' c'] w (GivesSSE (fkA i) (fkX i e) (fkB i) (fkX i e) (fkE i) w) := by
  obtain ⟨h1, h2, h3, hbel⟩ := three_r w 26 #[.int .i64 n, .slice p l c, .int .i64 n', .slice p' l' c'] 26 #[.int .i64 0, .slice none 0 0, .int .i64 0, .slice none 0 0] 26 #[.int .i64 0, .slice none 0 0, .int .i64 0, .slice none 0 0] _ rfl
  have r0 := fun w1 (hb : Below w.heap.size w w1) => rCheck_is (hi.later hb) (he.later hb) ki ke
  have r1 : ∀ w1 (hb : Below w.heap.size w w1), Calls Try.prog 39 #[TV n p l c] w1 (Idn.GivesTE (fkA i) (fkB i) (fkE i) w1) := fun w1 hb => Idn.refSplit_tr (Idn.toTr i) n p l c w1 (Idn.lies_is i _ (hi.later hb))
  have HC := fk_cases i ki
  unfold fkX
  generalize fkE i = E at r1 HC ⊢
  generalize fkA i = A at r1 HC ⊢
  generalize fkB i = B at r1 HC ⊢
  have H2 : Hid ((E = 0 ∧ Idn.short A = true ∧ Idn.short B = true) ∨ (¬ E = 0 ∧ A = .leaf false ∧ B = .leaf false)) := by
    show _ ∨ _
    rcases HC with ⟨h, _, h'⟩ | h
    · exact .inl ⟨h, (Idn.ok_parts h'.1).2, (Idn.ok_parts h'.2).2⟩
    · exact .inr h
  obtain ⟨zx, HX⟩ : ∃ z, Hid ((if E = 0 then e else .leaf 0) = z) := ⟨_, rfl⟩
  rw [HX.out]
  clear hi ki ke HC
  go_enter Try.func16, Try.ntmps16
  go_wp2_with (refine load_s _ rfl rfl _ rfl h1 ?_)
  refine (r0 _ hbel).mono ?_
  rintro e1 w1 ⟨rfl, hb1⟩
  replace h1 := h1.later hb1
  replace h2 := h2.later hb1
  replace h3 := h3.later hb1
  replace hbel := below_on hbel hb1
  clear hb1 r0
  go_wp2_with (refine load_t _ rfl rfl _ _ rfl (Sx.tat0 h1) ?_)
  refine (r1 _ hbel).mono ?_
  rintro e1 w2 ⟨na, pa, la, ca, nb, pb, lb, cb, rfl, ia, ib, hb1⟩
  replace h1 := h1.later hb1
  replace h2 := h2.later hb1
  replace h3 := h3.later hb1
  replace hbel := below_on hbel hb1
  clear hb1 r1
  have h3lt := h3.lt
  have m0 := Idn.two_new0 w2
  have m1 := Idn.two_new1 w2 na pa la ca
  obtain ⟨k1, k2, hb1⟩ := Idn.two_new w2 na pa la ca nb pb lb cb _ rfl
  rcases H2.out with ⟨h0, sA, sB⟩ | ⟨h0, rfl, rfl⟩
  rotate_left
  · obtain rfl : EV.leaf 0 = zx := by rw [← HX.out, if_neg h0]
    generalize hw4 : (((w2.alloc (.cells #[.int .i64 0, .slice none 0 0] 24)).alloc (.cells #[.int .i64 0, .slice none 0 0] 24)).setRow w2.heap.size #[.int .i64 na, .slice pa la ca]).setRow (w2.heap.size + 1) #[.int .i64 nb, .slice pb lb cb] = w4 at k1 k2 hb1
    replace h2 := h2.later hb1
    replace h3 := h3.later hb1
    replace hbel := below_on hbel hb1
    have R := below_setRow (below_setRow hbel (g := w.heap.size + 1) (by omega) #[.int .i64 0, .slice none 0 0, .int .i64 0, .slice none 0 0]) (g := w.heap.size + 1 + 1) (by omega) #[.int .i64 0, .slice none 0 0, .int .i64 0, .slice none 0 0]
    have h3' := h3.rowOther (q := w.heap.size + 1) (by omega) #[.int .i64 0, .slice none 0 0, .int .i64 0, .slice none 0 0]
    clear hb1 H2 HX hbel ia ib h1 k1 k2
    go_wp2_with (first | rw [hw4] | refine store_t rfl _ _ rfl _ na pa la ca rfl rfl m0 ?_ | refine store_t rfl _ _ rfl _ nb pb lb cb rfl rfl m1 ?_ | refine store_s rfl _ _ rfl _ 0 none 0 0 0 none 0 0 rfl rfl h2 ?_ | refine store_s rfl _ _ rfl _ 0 none 0 0 0 none 0 0 rfl rfl h3' ?_)
    exact bodyPost_ret (results_sse rfl rfl ((h2.row _).rowOther (by omega) _) rfl (h3'.row _)) rfl ⟨_, _, _, _, _, _, _, _, _, _, _, _, _, _, _, _, rfl, zI_is _, zE_is _, zI_is _, zE_is _, R⟩
  · subst h0
    obtain rfl : e = zx := by rw [← HX.out, if_pos rfl]
    generalize hw4 : (((w2.alloc (.cells #[.int .i64 0, .slice none 0 0] 24)).alloc (.cells #[.int .i64 0, .slice none 0 0] 24)).setRow w2.heap.size #[.int .i64 na, .slice pa la ca]).setRow (w2.heap.size + 1) #[.int .i64 nb, .slice pb lb cb] = w4 at k1 k2 hb1
    replace h1 := h1.later hb1
    replace h2 := h2.later hb1
    replace h3 := h3.later hb1
    replace ia := ia.later hb1
    replace ib := ib.later hb1
    replace hbel := below_on hbel hb1
    clear hb1 H2 HX
    go_wp2_with (first | rw [hw4] | refine store_t rfl _ _ rfl _ na pa la ca rfl rfl m0 ?_ | refine store_t rfl _ _ rfl _ nb pb lb cb rfl rfl m1 ?_)
    clear m0 m1 hw4
    generalize w2.heap.size = g4 at h3lt k1 k2 ⊢
    have hS : Calm.Stays (fun w' => Sx w' w.heap.size n p l c n' p' l' c' ∧ Bx w' g4 na pa la ca ∧ Bx w' (g4 + 1) nb pb lb cb ∧ (∃ cs, cs.size = 4 ∧ Rw w' (w.heap.size + 1) 26 cs) ∧ (∃ cs, cs.size = 4 ∧ Rw w' (w.heap.size + 1 + 1) 26 cs) ∧ w4.heap.size ≤ w'.heap.size ∧ Ag w4.heap.size (w.heap.size + 1) (w.heap.size + 1 + 1) w4 w' ∧ Below w.heap.size w w') := fun wa wb h hb => ⟨h.1.later hb, h.2.1.later hb, h.2.2.1.later hb, (by obtain ⟨cs, hc, h2⟩ := h.2.2.2.1; exact ⟨cs, hc, h2.later hb⟩), (by obtain ⟨cs, hc, h2⟩ := h.2.2.2.2.1; exact ⟨cs, hc, h2.later hb⟩), Nat.le_trans h.2.2.2.2.2.1 hb.size, (fun b h0 h1 h2 => (hb.block b (Nat.lt_of_lt_of_le h0 h.2.2.2.2.2.1)).trans (h.2.2.2.2.2.2.1 b h0 h1 h2)), below_on h.2.2.2.2.2.2.2 hb⟩
    have hF : Facts.Stay [eqF 0 (TV na pa la ca), eqF 1 (.pointer (some ⟨w.heap.size, 2, none⟩)), eqF 2 (TV n' p' l' c'), eqF 3 (SV na pa la ca n' p' l' c'), eqF 4 (TV nb pb lb cb), eqF 5 (.pointer (some ⟨w.heap.size, 2, none⟩)), eqF 6 (TV n' p' l' c'), eqF 7 (SV nb pb lb cb n' p' l' c'), sxF (w.heap.size + 1) na pa la ca n' p' l' c', sxF (w.heap.size + 1 + 1) nb pb lb cb n' p' l' c', eqF 10 (.int .i64 0)] := stay_of (by simp only [List.forall_mem_cons]; exact ⟨eqF_stays _ _, eqF_stays _ _, eqF_stays _ _, eqF_stays _ _, eqF_stays _ _, eqF_stays _ _, eqF_stays _ _, eqF_stays _ _, sxF_stays _ _ _ _ _ _ _ _ _, sxF_stays _ _ _ _ _ _ _ _ _, eqF_stays _ _, fun _ h => by cases h⟩)
    refine Facts.region (by kernel_rfl) (by kernel_rfl) (fun w' => Sx w' w.heap.size n p l c n' p' l' c' ∧ Bx w' g4 na pa la ca ∧ Bx w' (g4 + 1) nb pb lb cb ∧ (∃ cs, cs.size = 4 ∧ Rw w' (w.heap.size + 1) 26 cs) ∧ (∃ cs, cs.size = 4 ∧ Rw w' (w.heap.size + 1 + 1) 26 cs) ∧ w4.heap.size ≤ w'.heap.size ∧ Ag w4.heap.size (w.heap.size + 1) (w.heap.size + 1 + 1) w4 w' ∧ Below w.heap.size w w') (fun x => { tmps := #[SV n p l c n' p' l' c', Value.pointer (some { block := w.heap.size, off := 0 }), Value.pointer (some { block := w.heap.size + 1, off := 0 }), Value.pointer (some { block := w.heap.size + 1 + 1, off := 0 }), x 10, Value.pointer (some { block := g4, off := 0 }), Value.pointer (some { block := g4 + 1, off := 0 }), Value.int IntKind.i64 0, SV n p l c n' p' l' c', Value.bool true, Value.bool false, undef, undef, Value.tuple #[TV na pa la ca, TV nb pb lb cb, Value.int IntKind.i64 0], Value.pointer (some { block := w.heap.size, off := 0 }), TV n p l c, Value.tuple #[TV na pa la ca, TV nb pb lb cb, Value.int IntKind.i64 0], TV na pa la ca, TV nb pb lb cb, Value.int IntKind.i64 0, Value.int IntKind.i64 0, Value.bool false, undef, undef, undef, x 0, x 1, x 2, x 3, x 4, x 5, x 6, x 7], defers := [] }) [eqF 0 (TV na pa la ca), eqF 1 (.pointer (some ⟨w.heap.size, 2, none⟩)), eqF 2 (TV n' p' l' c'), eqF 3 (SV na pa la ca n' p' l' c'), eqF 4 (TV nb pb lb cb), eqF 5 (.pointer (some ⟨w.heap.size, 2, none⟩)), eqF 6 (TV n' p' l' c'), eqF 7 (SV nb pb lb cb n' p' l' c'), sxF (w.heap.size + 1) na pa la ca n' p' l' c', sxF (w.heap.size + 1 + 1) nb pb lb cb n' p' l' c', eqF 10 (.int .i64 0)] _ rfl (by kernel_rfl) (fun k => if k = 10 then .int .i64 0 else undef) rfl ⟨h1, k1, k2, ⟨_, rfl, h2⟩, ⟨_, rfl, h3⟩, Nat.le_refl _, fun _ _ _ _ => rfl, hbel.drew⟩ ⟨?_, ?_, ?_, ?_, ?_, ?_, ?_, ?_, ?_, ?_, ?_, trivial⟩ ?_
    · exact Facts.loadT hS hF (fun _ _ => rfl) _ rfl rfl (fun x wv hSw hd => by rfl) (fun wv hSw => Bx.tat hSw.2.1)
    · exact Facts.pure hS hF (fun _ _ => rfl) rfl (fun x wv hSw hd => by
        go_simp)
    · exact Facts.loadT hS hF (fun _ _ => rfl) _ rfl rfl (fun x wv hSw hd => by have d1 := eqF_get (hd ⟨1, .data⟩ (by simp) rfl _ rfl); exact d1) (fun wv hSw => Sx.tat1 hSw.1)
    · refine Facts.build26e hS hF (fun _ _ => rfl) rfl rfl (fun x wv hSw hd => ?_)
      have d0 := eqF_get (hd ⟨0, .data⟩ (by simp) rfl _ rfl)
      have d2 := eqF_get (hd ⟨2, .data⟩ (by simp) rfl _ rfl)
      exact ⟨d0, d2⟩
    · exact Facts.loadT hS hF (fun _ _ => rfl) _ rfl rfl (fun x wv hSw hd => by rfl) (fun wv hSw => Bx.tat hSw.2.2.1)
    · exact Facts.pure hS hF (fun _ _ => rfl) rfl (fun x wv hSw hd => by
        go_simp)
    · exact Facts.loadT hS hF (fun _ _ => rfl) _ rfl rfl (fun x wv hSw hd => by have d5 := eqF_get (hd ⟨5, .data⟩ (by simp) rfl _ rfl); exact d5) (fun wv hSw => Sx.tat1 hSw.1)
    · refine Facts.build26e hS hF (fun _ _ => rfl) rfl rfl (fun x wv hSw hd => ?_)
      have d4 := eqF_get (hd ⟨4, .data⟩ (by simp) rfl _ rfl)
      have d6 := eqF_get (hd ⟨6, .data⟩ (by simp) rfl _ rfl)
      exact ⟨d4, d6⟩
    · refine (show Facts.StepOk _ _ _ _ _ _ _ _ from ?_)
      intro x wv hSw hd
      have eb := eqF_get (hd ⟨3, .data⟩ (by simp) rfl _ rfl)
      obtain ⟨s1, s2, s3, ⟨cs4, c4, s4⟩, ⟨cs5, c5, s5⟩, s6, s7, s8⟩ := hSw
      refine wp_store_r 26 _ _ rfl (w.heap.size + 1) #[.int .i64 na, .slice pa la ca, .int .i64 n', .slice p' l' c'] rfl eb s4 size26 c4 (by simp [Value.oneCell']) ?_
      refine ⟨undef, rfl, ⟨Rw.rowOther s1 (by omega) _, Bx.rowOther s2 (by omega) _, Bx.rowOther s3 (by omega) _, ⟨_, rfl, s4.row _⟩, ⟨_, c5, s5.rowOther (by omega) _⟩, (by simpa using s6), (fun b h0 h1 h2 => (setRow_other _ _ _ _ (by omega)).trans (s7 b h0 h1 h2)), below_setRow s8 (by omega) _⟩, fun f hf' => ?_, fun j f hj hfj hh => ?_⟩
      · obtain rfl := Option.some.inj hf'
        exact Rw.row s4 _
      · match j with
          | 0 => obtain rfl := Option.some.inj hfj; exact hh
          | 1 => obtain rfl := Option.some.inj hfj; exact hh
          | 2 => obtain rfl := Option.some.inj hfj; exact hh
          | 3 => obtain rfl := Option.some.inj hfj; exact hh
          | 4 => obtain rfl := Option.some.inj hfj; exact hh
          | 5 => obtain rfl := Option.some.inj hfj; exact hh
          | 6 => obtain rfl := Option.some.inj hfj; exact hh
          | 7 => obtain rfl := Option.some.inj hfj; exact hh
          | 9 => obtain rfl := Option.some.inj hfj; exact sxF_row hh (by omega) _
          | 10 => obtain rfl := Option.some.inj hfj; exact hh
          | 8 => exact absurd rfl hj
          | j + 11 => simp at hfj
    · refine (show Facts.StepOk _ _ _ _ _ _ _ _ from ?_)
      intro x wv hSw hd
      have eb := eqF_get (hd ⟨7, .data⟩ (by simp) rfl _ rfl)
      obtain ⟨s1, s2, s3, ⟨cs4, c4, s4⟩, ⟨cs5, c5, s5⟩, s6, s7, s8⟩ := hSw
      refine wp_store_r 26 _ _ rfl (w.heap.size + 1 + 1) #[.int .i64 nb, .slice pb lb cb, .int .i64 n', .slice p' l' c'] rfl eb s5 size26 c5 (by simp [Value.oneCell']) ?_
      refine ⟨undef, rfl, ⟨Rw.rowOther s1 (by omega) _, Bx.rowOther s2 (by omega) _, Bx.rowOther s3 (by omega) _, ⟨_, c4, s4.rowOther (by omega) _⟩, ⟨_, rfl, s5.row _⟩, (by simpa using s6), (fun b h0 h1 h2 => (setRow_other _ _ _ _ (by omega)).trans (s7 b h0 h1 h2)), below_setRow s8 (by omega) _⟩, fun f hf' => ?_, fun j f hj hfj hh => ?_⟩
      · obtain rfl := Option.some.inj hf'
        exact Rw.row s5 _
      · match j with
          | 0 => obtain rfl := Option.some.inj hfj; exact hh
          | 1 => obtain rfl := Option.some.inj hfj; exact hh
          | 2 => obtain rfl := Option.some.inj hfj; exact hh
          | 3 => obtain rfl := Option.some.inj hfj; exact hh
          | 4 => obtain rfl := Option.some.inj hfj; exact hh
          | 5 => obtain rfl := Option.some.inj hfj; exact hh
          | 6 => obtain rfl := Option.some.inj hfj; exact hh
          | 7 => obtain rfl := Option.some.inj hfj; exact hh
          | 8 => obtain rfl := Option.some.inj hfj; exact sxF_row hh (by omega) _
          | 10 => obtain rfl := Option.some.inj hfj; exact hh
          | 9 => exact absurd rfl hj
          | j + 11 => simp at hfj
    · exact Facts.pure hS hF (fun _ _ => rfl) rfl (fun x wv hSw hd => by
        go_simp)
    rintro x w9 ⟨_, _, _, _, _, _, hA, hbel9⟩ hf
    have e0 := eqF_get (hf 0 _ (by decide) rfl)
    have b10 := sxF_get (hf 8 _ (by decide) rfl)
    have b11 := sxF_get (hf 9 _ (by decide) rfl)
    have e12 := eqF_get (hf 10 _ (by decide) rfl)
    have i1 := Idn.Is.off h2 h3 hA sA ia
    have i2 := Idn.Is.off h2 h3 hA sB ib
    have i3 := he.later hbel9
    simp only [e12]
    go_wp2
    exact bodyPost_ret (results_sse rfl rfl b10 rfl b11) rfl ⟨_, _, _, _, _, _, _, _, _, _, _, _, _, _, _, _, rfl, i1, i3, i2, i3, hbel9⟩
end Go.Proofs.Ytmcajjdijjcpkaa
