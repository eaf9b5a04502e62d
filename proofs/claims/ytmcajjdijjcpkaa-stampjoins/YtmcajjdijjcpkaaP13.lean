import Derived.Test.YtmcajjdijjcpkaaP12
import Derived.Test.YtmcajjdijjcpkaaP10
import Derived.Test.YtmcajjdijjcpkaaP6
/- The function At of package events. -/
namespace Go.Proofs.Ytmcajjdijjcpkaa
open Go.RowKit

theorem and_pow (m j : Nat) : m &&& 2 ^ j = if m.testBit j then 2 ^ j else 0 := by
  apply Nat.eq_of_testBit_eq
  intro i
  rw [Nat.testBit_and, Nat.testBit_two_pow]
  by_cases h : j = i
  · subst h
    cases m.testBit j <;> simp
  · cases m.testBit j <;> simp [h]
theorem i64_and_nat (a b : Nat) (ha : a < 65536) (hb : b < 65536) : bits .and .i64 (a : Int) (b : Int) = ((a &&& b : Nat) : Int) := by
  have h1 : ∀ x : Nat, x < 65536 → (BitVec.ofInt 64 (x : Int)).toNat = x := fun x hx => by simp; omega
  have h2 : a &&& b < 65536 := Nat.lt_of_le_of_lt Nat.and_le_left ha
  show IntKind.i64.wrap ((BitVec.ofInt 64 (a : Int) &&& BitVec.ofInt 64 (b : Int)).toNat : Int) = _
  rw [BitVec.toNat_and, h1 a ha, h1 b hb, IntKind.wrap_i64]
  omega

theorem val_down (j : Nat) (n c : Int) (x y : EV) (m : Nat) : val (j + 1) (lift (.node n x y) c) m = if m.testBit j then val j (lift y (c + n)) m else val j (lift x (c + n)) m := by
  rw [val, h0_lift, h1_lift, h0, h1, lift_lift, lift_lift, Int.add_comm n c]
  split <;> rfl

set_option maxHeartbeats 4000000 in
set_option maxRecDepth 100000 in
theorem at_ok (x : EV) (m : Nat) (n : Int) (p : Option Addr) (l c : Nat) (w : World) (hx : Is w x (TV n p l c)) (hr : rg x 16 1073741824 = true) (hm : m < 65536)
    (r0 : ∀ w1, Below w.heap.size w w1 → Calls Try.prog 50 #[TV n p l c] w1 (Tells (.bool true) w1)) :
    Calls Try.prog 27 #[TV n p l c, .int .i64 m] w (Tells (.int .i64 (val 16 x m)) w) := by
  obtain ⟨h1, hbel⟩ := one_box w n p l c _ rfl
  have hm0 : decide ((m : Int) < 0) = false := by simp only [decide_eq_false_iff_not]; omega
  have hm1 : decide ((65536 : Int) ≤ (m : Int)) = false := by simp only [decide_eq_false_iff_not]; omega
  obtain ⟨z, HZ⟩ : ∃ z, Hid (val 16 x m = z) := ⟨_, rfl⟩
  rw [HZ.out]
  have HX : Hid (Is w x (TV n p l c) ∧ rg x 16 1073741824 = true ∧ m < 65536) := ⟨hx, hr, hm⟩
  have bn := rg_n hr
  rw [← (is_parts hx).1] at bn
  clear hx hr hm
  go_enter Try.func27, Try.ntmps27
  go_wp2_with (refine load_t _ rfl rfl _ _ rfl h1.tat ?_)
  refine (r0 _ hbel).mono ?_
  rintro e w1 ⟨rfl, hb1⟩
  replace h1 := h1.later hb1
  replace hbel := below_on hbel hb1
  clear hb1 hm0 hm1 r0
  have g0 := h1.cell0
  go_wp2_with fail
  clear g0
  go_loopw [5, 6] (fun vs vb wr => ∃ (k B : Nat) (y : EV) (s cc0 : Int) (n : Int) (p : Option Addr) (l c : Nat), vb = .int .i64 B ∧ vs = .int .i64 s ∧ Hid (B = 2 ^ k / 2 ∧ k ≤ 16) ∧ Bx wr w.heap.size n p l c ∧ Hid (Is w y (TV n p l c) ∧ 0 ≤ cc0 ∧ s = cc0 + y.n ∧ rg y k (1073741824 - cc0) = true ∧ val k (lift y cc0) m = z) ∧ (0 ≤ s ∧ s ≤ 1073741824) ∧ Below w.heap.size w wr) (fun _ vb _ => (intOf vb).toNat)
  case atStart => exact ⟨16, 32768, x, n, 0, n, p, l, c, rfl, rfl, ⟨rfl, Nat.le_refl _⟩, h1, ⟨HX.out.1, by omega, by rw [(is_parts HX.out.1).1]; omega, by rw [show (1073741824 : Int) - 0 = 1073741824 by omega]; exact HX.out.2.1, by rw [lift_zero]; exact HZ.out⟩, bn, hbel⟩
  case round =>
    clear h1 hbel bn
    obtain ⟨k, B, y, s, cc0, n', p', l', c', rfl, rfl, HB, h1, HY, hs, hbel⟩ := hrel
    have hL := isLeaf_is HY.out.1
    rcases y with ⟨yn, ⟨⟩ | ⟨y0, y1⟩⟩
    · have HZ' : Hid (s = z) := by
        show _ = _
        have h2 := HY.out.2.2.2.2
        rw [show lift (EV.leaf yn) cc0 = .leaf (yn + cc0) from rfl, val_leaf] at h2
        have h3 := HY.out.2.2.1
        dsimp only at h3
        omega
      clear HY HB
      replace hL := fun w1 => hL w1
      simp only [lf] at hL
      go_wp2_with (refine load_t _ rfl rfl _ _ rfl h1.tat ?_)
      refine (hL _).mono ?_
      rintro e w2 ⟨rfl, hb1⟩
      replace hbel := below_on hbel hb1
      clear hb1 h1 hL
      go_wp2_with fail
      go_ret
      exact ⟨by rw [← HZ'.out]; rfl, hbel⟩
    · obtain ⟨⟨g, o, cc, n0, p0, l0, c0, n1, p1, l1, c1, e, t0, t1, hy0, hy1⟩, hc0, hsn, hr, hz⟩ := HY.out
      simp at e
      obtain ⟨rfl, rfl, rfl, rfl⟩ := e
      have hL2 : ∀ w, Calls Try.prog 54 #[TV n' (some ⟨g, o, none⟩) 2 c'] w (Tells (.bool false) w) := isLeaf_any n' (some ⟨g, o, none⟩) 2 c'
      obtain ⟨hn, hk, hr0, hr1⟩ := rg_kids hr
      obtain ⟨j, rfl⟩ : ∃ j, k = j + 1 := ⟨k - 1, by omega⟩
      simp only [Nat.add_sub_cancel] at hr0 hr1
      have hBe : B = 2 ^ j := by have := HB.out.1; rw [Nat.pow_succ] at this; omega
      have hj : j ≤ 15 := by have := HB.out.2; omega
      have hB1 : 1 ≤ B := by rw [hBe]; exact Nat.one_le_two_pow
      have hB2 : B ≤ 32768 := by rw [hBe]; exact Nat.pow_le_pow_right (by decide) hj
      have HB' : Hid (B = 2 ^ j ∧ j ≤ 15) := ⟨hBe, hj⟩
      have hm := HX.out.2.2
      have ha := i64_and_nat m B (by omega) (by omega)
      have hae : ((m &&& B : Nat) : Int) = if m.testBit j then (B : Int) else 0 := by
        rw [hBe, and_pow]
        cases m.testBit j <;> simp
      rw [hae] at ha
      rw [val_down] at hz
      clear hBe hj hae hm HB hk hsn
      have HC : Hid (m.testBit j = true ∨ m.testBit j = false) := by show _ ∨ _; cases m.testBit j <;> simp
      rcases HC.out with hb | hb
      · rw [hb] at ha hz
        simp only [if_true] at ha hz
        have hne : ¬ (B : Int) = 0 := by omega
        · have HN : Hid (Is w y1 (TV n1 p1 l1 c1) ∧ 0 ≤ cc0 + n' ∧ rg y1 j (1073741824 - (cc0 + n')) = true ∧ val j (lift y1 (cc0 + n')) m = z) := ⟨hy1, by omega, by rw [show 1073741824 - (cc0 + n') = 1073741824 - cc0 - n' by omega]; exact hr1, hz⟩
          have HS : Hid (s + n1 = cc0 + n' + y1.n) := by show _ = _; rw [HY.out.2.2.1, ← (is_parts hy1).1]
          have hs1 : 0 ≤ n1 ∧ s + n1 ≤ 1073741824 := by
            have h1 := rg_n hr1
            rw [(is_parts hy1).1, HY.out.2.2.1]
            dsimp only
            omega
          clear hy0 hy1 hr hr0 hr1 hz hb HC HY hL t0
          go_wp2_with (refine load_t _ rfl rfl _ _ rfl h1.tat ?_)
          refine (hL2 _).mono ?_
          rintro e w2 ⟨rfl, hb1⟩
          replace h1 := h1.later hb1
          replace hbel := below_on hbel hb1
          clear hb1 hL2
          have g1 := h1.cell1
          have tt := t1.later hbel
          have R := below_setRow hbel (g := w.heap.size) (Nat.le_refl _) #[.int .i64 n1, .slice p1 l1 c1]
          have h1' := h1.row n1 p1 l1 c1
          have g0' := h1'.cell0
          clear hbel t1
          go_wp2_with (first | refine load_t _ rfl rfl _ _ rfl tt ?_ | refine store_t rfl _ _ rfl _ n1 p1 l1 c1 rfl rfl h1 ?_)
          go_roundw
          case rel => exact ⟨j, B / 2, y1, s + n1, cc0 + n', n1, p1, l1, c1, by simp, by simp, ⟨by rw [HB'.out.1], by have := HB'.out.2; omega⟩, h1', ⟨HN.out.1, HN.out.2.1, HS.out, HN.out.2.2.1, HN.out.2.2.2⟩, by omega, R⟩
          case measure => simp [intOf]; omega
      · rw [hb] at ha hz
        simp only [Bool.false_eq_true, if_false] at ha hz
        · have HN : Hid (Is w y0 (TV n0 p0 l0 c0) ∧ 0 ≤ cc0 + n' ∧ rg y0 j (1073741824 - (cc0 + n')) = true ∧ val j (lift y0 (cc0 + n')) m = z) := ⟨hy0, by omega, by rw [show 1073741824 - (cc0 + n') = 1073741824 - cc0 - n' by omega]; exact hr0, hz⟩
          have HS : Hid (s + n0 = cc0 + n' + y0.n) := by show _ = _; rw [HY.out.2.2.1, ← (is_parts hy0).1]
          have hs1 : 0 ≤ n0 ∧ s + n0 ≤ 1073741824 := by
            have h1 := rg_n hr0
            rw [(is_parts hy0).1, HY.out.2.2.1]
            dsimp only
            omega
          clear hy0 hy1 hr hr0 hr1 hz hb HC HY hL t1
          go_wp2_with (refine load_t _ rfl rfl _ _ rfl h1.tat ?_)
          refine (hL2 _).mono ?_
          rintro e w2 ⟨rfl, hb1⟩
          replace h1 := h1.later hb1
          replace hbel := below_on hbel hb1
          clear hb1 hL2
          have g1 := h1.cell1
          have tt := t0.later hbel
          have R := below_setRow hbel (g := w.heap.size) (Nat.le_refl _) #[.int .i64 n0, .slice p0 l0 c0]
          have h1' := h1.row n0 p0 l0 c0
          have g0' := h1'.cell0
          clear hbel t0
          go_wp2_with (first | refine load_t _ rfl rfl _ _ rfl tt ?_ | refine store_t rfl _ _ rfl _ n0 p0 l0 c0 rfl rfl h1 ?_)
          go_roundw
          case rel => exact ⟨j, B / 2, y0, s + n0, cc0 + n', n0, p0, l0, c0, by simp, by simp, ⟨by rw [HB'.out.1], by have := HB'.out.2; omega⟩, h1', ⟨HN.out.1, HN.out.2.1, HS.out, HN.out.2.2.1, HN.out.2.2.2⟩, by omega, R⟩
          case measure => simp [intOf]; omega

set_option maxHeartbeats 2000000 in
set_option maxRecDepth 100000 in
theorem at_bad (m : Int) (n : Int) (p : Option Addr) (l c : Nat) (w : World) (k : Bool) (h : k = false ∨ m < 0 ∨ 65536 ≤ m)
    (r0 : ∀ w1, Below w.heap.size w w1 → Calls Try.prog 50 #[TV n p l c] w1 (Tells (.bool k) w1)) :
    Calls Try.prog 27 #[TV n p l c, .int .i64 m] w (Tells (.int .i64 0) w) := by
  obtain ⟨hx, hbel⟩ := one_box w n p l c _ rfl
  have HH : Hid (k = false ∨ m < 0 ∨ 65536 ≤ m) := h
  clear h
  by_cases h0 : m < 0
  · have hm0 : decide (m < 0) = true := by simp only [decide_eq_true_eq]; omega
    clear HH h0
    go_enter Try.func27, Try.ntmps27
    go_wp2_with fail
    go_ret
    exact ⟨rfl, hbel⟩
  · have hm0 : decide (m < 0) = false := by simp only [decide_eq_false_iff_not]; omega
    by_cases h1 : 65536 ≤ m
    · have hm1 : decide ((65536 : Int) ≤ m) = true := by simp only [decide_eq_true_eq]; omega
      clear HH h0 h1
      go_enter Try.func27, Try.ntmps27
      go_wp2_with fail
      go_ret
      exact ⟨rfl, hbel⟩
    · have hm1 : decide ((65536 : Int) ≤ m) = false := by simp only [decide_eq_false_iff_not]; omega
      obtain rfl : k = false := by
        rcases HH.out with h | h | h
        · exact h
        · exact absurd h h0
        · exact absurd h h1
      clear HH h0 h1
      go_enter Try.func27, Try.ntmps27
      go_wp2_with (refine load_t _ rfl rfl _ _ rfl hx.tat ?_)
      refine (r0 _ hbel).mono ?_
      rintro e w1 ⟨rfl, hb1⟩
      replace hbel := below_on hbel hb1
      clear hb1 hm0 hm1 r0 hx
      go_wp2_with fail
      go_ret
      exact ⟨rfl, hbel⟩

/-- What At answers. -/
def atT (t : Tr) (m : Int) : Int := if (decide (0 ≤ m ∧ m < 65536) && okT t) = true then val 16 (evOf t) m.toNat else 0
theorem at_tr (t : Tr) (m : Int) (n : Int) (p : Option Addr) (l c : Nat) (w : World) (ht : Lies w t (TV n p l c)) :
    Calls Try.prog 27 #[TV n p l c, .int .i64 m] w (Tells (.int .i64 (atT t m)) w) := by
  have r0 := fun w1 (hb : Below w.heap.size w w1) => check_tr t n p l c w1 (ht.later hb)
  unfold atT
  by_cases hm : 0 ≤ m ∧ m < 65536
  · cases hk : okT t
    · simpa using at_bad m n p l c w (okT t) (.inl hk) r0
    · rw [hk] at r0
      have h3 := at_ok (evOf t) m.toNat n p l c w (ok_of ht hk).1 (ok_parts (ok_of ht hk).2).1 (by omega) r0
      rw [show ((m.toNat : Nat) : Int) = m by omega] at h3
      simpa [hm] using h3
  · simpa [hm] using at_bad m n p l c w (okT t) (.inr (by omega)) r0

end Go.Proofs.Ytmcajjdijjcpkaa
/- The functions Same, Size and Few of the document's answer. -/
namespace Go.Proofs.Ytmcajjdijjcpkaa
open Go.RowKit

theorem node_eq (m : Int) (x y x' y' : EV) : eqb (EV.node m x y) (EV.node m x' y') = (eqb x x' && eqb y y') := by simp [eqb]

set_option maxHeartbeats 2000000 in
set_option maxRecDepth 100000 in
theorem same_node (m : Int) (x y x' y' : EV) (g o c g' o' c' : Nat) (n0 : Int) (p0 : Option Addr) (l0 c0 : Nat) (n1 : Int) (p1 : Option Addr) (l1 c1 : Nat) (n2 : Int) (p2 : Option Addr) (l2 c2 : Nat) (n3 : Int) (p3 : Option Addr) (l3 c3 : Nat) (w : World)
    (t0 : Tat w g o n0 p0 l0 c0) (t1 : Tat w g (o + 2) n1 p1 l1 c1) (t2 : Tat w g' o' n2 p2 l2 c2) (t3 : Tat w g' (o' + 2) n3 p3 l3 c3)
    (r0 : ∀ w1, Below w.heap.size w w1 → Calls Try.prog 26 #[TV n0 p0 l0 c0, TV n2 p2 l2 c2] w1 fun e w' => e = .returned (.bool (eqb x x')) ∧ Below w1.heap.size w1 w')
    (r1 : ∀ w1, Below w.heap.size w w1 → Calls Try.prog 26 #[TV n1 p1 l1 c1, TV n3 p3 l3 c3] w1 fun e w' => e = .returned (.bool (eqb y y')) ∧ Below w1.heap.size w1 w') :
    Calls Try.prog 26 #[TV m (some ⟨g, o, none⟩) 2 c, TV m (some ⟨g', o', none⟩) 2 c'] w fun e w' => e = .returned (.bool (eqb (EV.node m x y) (EV.node m x' y'))) ∧ Below w.heap.size w w' := by
  rw [node_eq]
  obtain ⟨h1, h2, hbel⟩ := two_box w m (some ⟨g, o, none⟩) 2 c m (some ⟨g', o', none⟩) 2 c' _ rfl
  have g0 := h1.cell0
  have g1 := h1.cell1
  have g2 := h2.cell0
  have g3 := h2.cell1
  generalize eqb x x' = b0 at r0 ⊢
  generalize eqb y y' = b1 at r1 ⊢
  obtain ⟨z, HZ⟩ : ∃ z, Hid ((b0 && b1) = z) := ⟨_, rfl⟩
  rw [HZ.out]
  go_enter Try.func26, Try.ntmps26
  go_wp2
  go_loopw [5] (fun vi wr => ∃ k : Nat, vi = .int .i64 k ∧ k ≤ 2 ∧ Hid (1 ≤ k → b0 = true) ∧ Hid (2 ≤ k → b1 = true) ∧ Bx wr w.heap.size m (some ⟨g, o, none⟩) 2 c ∧ Bx wr (w.heap.size + 1) m (some ⟨g', o', none⟩) 2 c' ∧ Below w.heap.size w wr) (fun vi _ => 2 - (intOf vi).toNat)
  case atStart => exact ⟨0, rfl, by omega, (show 1 ≤ 0 → _ from fun h => by omega), (show 2 ≤ 0 → _ from fun h => by omega), h1, h2, hbel⟩
  case round =>
    clear g0 g1 g2 g3 h1 h2 hbel
    obtain ⟨k, rfl, hk, H1, H2, h1, h2, hbel⟩ := hrel
    have g1 := h1.cell1
    have g3 := h2.cell1
    by_cases hlt : k < 2
    · obtain ⟨n, p, l, cc, n', p', l', cc', b, ta, tb, rr, HS⟩ : ∃ n p l cc n' p' l' cc' b, Tat w g (o + k * 2) n p l cc ∧ Tat w g' (o' + k * 2) n' p' l' cc' ∧ (∀ w1, Below w.heap.size w w1 → Calls Try.prog 26 #[TV n p l cc, TV n' p' l' cc'] w1 fun e w' => e = .returned (.bool b) ∧ Below w1.heap.size w1 w') ∧ Hid ((k = 0 ∧ b = b0) ∨ (k = 1 ∧ b = b1)) := by
        match k, hlt with
        | 0, _ => exact ⟨n0, p0, l0, c0, n2, p2, l2, c2, b0, by simpa using t0, by simpa using t2, r0, .inl ⟨rfl, rfl⟩⟩
        | 1, _ => exact ⟨n1, p1, l1, c1, n3, p3, l3, c3, b1, by simpa using t1, by simpa using t3, r1, .inr ⟨rfl, rfl⟩⟩
      replace ta := ta.later hbel
      replace tb := tb.later hbel
      have hi1 : (k : Int) < 2 := by omega
      clear t0 t1 t2 t3 r0 r1
      have hs : Calm.Stays (fun w' => Tat w' g (o + k * 2) n p l cc ∧ Tat w' g' (o' + k * 2) n' p' l' cc' ∧ w'.cell? ⟨w.heap.size, 1, none⟩ = some (.slice (some ⟨g, o, none⟩) 2 c) ∧ w'.cell? ⟨w.heap.size + 1, 1, none⟩ = some (.slice (some ⟨g', o', none⟩) 2 c') ∧ Bx w' w.heap.size m (some ⟨g, o, none⟩) 2 c ∧ Bx w' (w.heap.size + 1) m (some ⟨g', o', none⟩) 2 c' ∧ Below w.heap.size w w') :=
        fun w1 w2 h hb => ⟨h.1.later hb, h.2.1.later hb, cell_later hb h.2.2.1, cell_later hb h.2.2.2.1, h.2.2.2.2.1.later hb, h.2.2.2.2.2.1.later hb, below_on h.2.2.2.2.2.2 hb⟩
      go_wp2
      refine Calm.region (by kernel_rfl) (by kernel_rfl) (fun w' => Tat w' g (o + k * 2) n p l cc ∧ Tat w' g' (o' + k * 2) n' p' l' cc' ∧ w'.cell? ⟨w.heap.size, 1, none⟩ = some (.slice (some ⟨g, o, none⟩) 2 c) ∧ w'.cell? ⟨w.heap.size + 1, 1, none⟩ = some (.slice (some ⟨g', o', none⟩) 2 c') ∧ Bx w' w.heap.size m (some ⟨g, o, none⟩) 2 c ∧ Bx w' (w.heap.size + 1) m (some ⟨g', o', none⟩) 2 c' ∧ Below w.heap.size w w') ⟨ta, tb, g1, g3, h1, h2, hbel.drew⟩ ?_
      all_goals
        refine Calm.pure (v := ?_) (by rfl) ?_ ?_
        rotate_left
        focus (intro w hSw; go_simp <;> rfl)
        simp only [Act.put, List.setIfInBounds_toArray, List.set_cons_zero, List.set_cons_succ]
      all_goals
        refine Calm.pure (v := ?_) (by rfl) ?_ ?_
        rotate_left
        focus (intro w hSw; go_simp <;> rfl)
        simp only [Act.put, List.setIfInBounds_toArray, List.set_cons_zero, List.set_cons_succ]
      all_goals
        refine Calm.pure (v := ?_) (by rfl) ?_ ?_
        rotate_left
        focus (intro w hSw; go_simp <;> rfl)
        simp only [Act.put, List.setIfInBounds_toArray, List.set_cons_zero, List.set_cons_succ]
      all_goals
        refine Calm.pure (v := ?_) (by rfl) ?_ ?_
        rotate_left
        focus (intro w hSw; go_simp <;> rfl)
        simp only [Act.put, List.setIfInBounds_toArray, List.set_cons_zero, List.set_cons_succ]
      all_goals
        refine Calm.loadT (by rfl) _ rfl rfl (fun _ h => by go_split_ands; assumption) ?_
        simp only [Act.put, List.setIfInBounds_toArray, List.set_cons_zero, List.set_cons_succ]
      all_goals
        refine Calm.pure (v := ?_) (by rfl) ?_ ?_
        rotate_left
        focus (intro w hSw; go_simp <;> rfl)
        simp only [Act.put, List.setIfInBounds_toArray, List.set_cons_zero, List.set_cons_succ]
      all_goals
        refine Calm.pure (v := ?_) (by rfl) ?_ ?_
        rotate_left
        focus (intro w hSw; go_simp <;> rfl)
        simp only [Act.put, List.setIfInBounds_toArray, List.set_cons_zero, List.set_cons_succ]
      all_goals
        refine Calm.pure (v := ?_) (by rfl) ?_ ?_
        rotate_left
        focus (intro w hSw; go_simp <;> rfl)
        simp only [Act.put, List.setIfInBounds_toArray, List.set_cons_zero, List.set_cons_succ]
      all_goals
        refine Calm.pure (v := ?_) (by rfl) ?_ ?_
        rotate_left
        focus (intro w hSw; go_simp <;> rfl)
        simp only [Act.put, List.setIfInBounds_toArray, List.set_cons_zero, List.set_cons_succ]
      all_goals
        refine Calm.loadT (by rfl) _ rfl rfl (fun _ h => by go_split_ands; assumption) ?_
        simp only [Act.put, List.setIfInBounds_toArray, List.set_cons_zero, List.set_cons_succ]
      all_goals
        refine Calm.call2s (by rfl) rfl rfl rfl (by kernel_rfl) hs (fun w1 h => rr w1 h.2.2.2.2.2.2) ?_
        simp only [Act.put, List.setIfInBounds_toArray, List.set_cons_zero, List.set_cons_succ]
      all_goals
        refine Calm.pure (v := ?_) (by rfl) ?_ ?_
        rotate_left
        focus (intro w hSw; go_simp <;> rfl)
        simp only [Act.put, List.setIfInBounds_toArray, List.set_cons_zero, List.set_cons_succ]
      rintro w9 ⟨_, _, _, _, h1, h2, hbel9⟩
      cases b
      · have HF : Hid (z = false) := by
          show _ = _
          rw [← HZ.out]
          rcases HS.out with ⟨_, rfl⟩ | ⟨_, rfl⟩
          · rfl
          · simp
        go_wp2
        go_ret
        exact ⟨by rw [HF.out]; rfl, hbel9⟩
      · have HA : Hid (1 ≤ k + 1 → b0 = true) := show _ → _ from fun _ => by
          rcases HS.out with ⟨_, rfl⟩ | ⟨h3, _⟩
          · rfl
          · exact H1.out (by omega)
        have HB : Hid (2 ≤ k + 1 → b1 = true) := show _ → _ from fun h => by
          rcases HS.out with ⟨h3, rfl⟩ | ⟨_, rfl⟩
          · omega
          · rfl
        clear H1 H2
        go_wp2
        go_roundw
        case rel => exact ⟨k + 1, by simp, by omega, HA, HB, h1, h2, hbel9⟩
        case measure => simp [intOf]; omega
    · have hk : k = 2 := by omega
      subst hk
      have HF : Hid (z = true) := by
        show _ = _
        rw [← HZ.out, H1.out (by omega), H2.out (by omega)]
        rfl
      go_wp2
      go_ret
      exact ⟨by rw [HF.out]; rfl, hbel⟩

theorem leaf_eq (a b : Int) : eqb (EV.leaf a) (EV.leaf b) = (a == b) := rfl

set_option maxHeartbeats 2000000 in
set_option maxRecDepth 100000 in
theorem same_num (n n' : Int) (p : Option Addr) (l c : Nat) (p' : Option Addr) (l' c' : Nat) (w : World) (hne : ¬ n = n') :
    Calls Try.prog 26 #[TV n p l c, TV n' p' l' c'] w (Tells (.bool false) w) := by
  obtain ⟨h1, h2, hbel⟩ := two_box w n p l c n' p' l' c' _ rfl
  have g0 := h1.cell0
  have g2 := h2.cell0
  go_enter Try.func26, Try.ntmps26
  go_wp2
  go_ret
  exact ⟨rfl, hbel⟩

set_option maxHeartbeats 2000000 in
set_option maxRecDepth 100000 in
theorem same_leaf (a b : Int) (p : Option Addr) (c : Nat) (p' : Option Addr) (c' : Nat) (w : World) :
    Calls Try.prog 26 #[TV a p 0 c, TV b p' 0 c'] w (Tells (.bool (eqb (EV.leaf a) (EV.leaf b))) w) := by
  by_cases hab : a = b
  · subst hab
    obtain ⟨h1, h2, hbel⟩ := two_box w a p 0 c a p' 0 c' _ rfl
    have g0 := h1.cell0
    have g1 := h1.cell1
    have g2 := h2.cell0
    have g3 := h2.cell1
    rw [eqb_refl]
    go_enter Try.func26, Try.ntmps26
    go_wp2
    go_loopw [5] (fun vi wr => vi = .int .i64 0 ∧ Bx wr w.heap.size a p 0 c ∧ Below w.heap.size w wr) (fun vi _ => 0)
    case atStart => exact ⟨rfl, h1, hbel⟩
    case round =>
      clear g0 g1 g2 g3 h1 hbel
      obtain ⟨rfl, h1, hbel⟩ := hrel
      have g1 := h1.cell1
      go_wp2
      go_ret
      exact ⟨rfl, hbel⟩
  · rw [leaf_eq, show (a == b) = false by simpa using hab]
    exact same_num a b p 0 c p' 0 c' w hab

set_option maxHeartbeats 2000000 in
set_option maxRecDepth 100000 in
theorem same_len (m m' : Int) (p : Option Addr) (l c : Nat) (p' : Option Addr) (l' c' : Nat) (w : World) (hne : ¬ l = l') :
    Calls Try.prog 26 #[TV m p l c, TV m' p' l' c'] w fun e w' => e = .returned (.bool false) ∧ Below w.heap.size w w' := by
  obtain ⟨h1, h2, hbel⟩ := two_box w m p l c m' p' l' c' _ rfl
  have g0 := h1.cell0
  have g1 := h1.cell1
  have g2 := h2.cell0
  have g3 := h2.cell1
  have hne' : ¬ (l : Int) = (l' : Int) := by omega
  by_cases hm : m = m'
  · subst hm
    go_enter Try.func26, Try.ntmps26
    go_wp2
    go_ret
    exact ⟨rfl, hbel⟩
  · go_enter Try.func26, Try.ntmps26
    go_wp2
    go_ret
    exact ⟨rfl, hbel⟩

theorem same_any : ∀ (x y : EV) (n : Int) (p : Option Addr) (l c : Nat) (n' : Int) (p' : Option Addr) (l' c' : Nat) (w : World), Is w x (TV n p l c) → Is w y (TV n' p' l' c') →
    Calls Try.prog 26 #[TV n p l c, TV n' p' l' c'] w (Tells (.bool (eqb x y)) w)
  | ⟨a, .inl _⟩, ⟨b, .inl _⟩, n, p, l, c, n', p', l', c', w, ⟨_, _, e⟩, ⟨_, _, e'⟩ => by
    simp at e e'
    obtain ⟨rfl, rfl, rfl, rfl⟩ := e
    obtain ⟨rfl, rfl, rfl, rfl⟩ := e'
    exact same_leaf n n' p c p' c' w
  | ⟨a, .inl ()⟩, ⟨b, .inr (x, y)⟩, n, p, l, c, n', p', l', c', w, h, h' => by
    obtain ⟨_, rfl⟩ := is_parts h
    obtain ⟨_, rfl⟩ := is_parts h'
    have := same_len n n' p 0 c p' 2 c' w (by decide)
    rw [show eqb (EV.leaf a) (EV.node b x y) = false from rfl]
    exact this
  | ⟨b, .inr (x, y)⟩, ⟨a, .inl ()⟩, n, p, l, c, n', p', l', c', w, h, h' => by
    obtain ⟨_, rfl⟩ := is_parts h
    obtain ⟨_, rfl⟩ := is_parts h'
    have := same_len n n' p 2 c p' 0 c' w (by decide)
    rw [show eqb (EV.node b x y) (EV.leaf a) = false from rfl]
    exact this
  | ⟨a, .inr (x, y)⟩, ⟨b, .inr (x', y')⟩, n, p, l, c, n', p', l', c', w, ⟨g, o, cc, n0, p0, l0, c0, n1, p1, l1, c1, e, t0, t1, hx, hy⟩, ⟨g', o', cc', n2, p2, l2, c2, n3, p3, l3, c3, e', t2, t3, hx', hy'⟩ => by
    have R0 : Hid (∀ w1, Below w.heap.size w w1 → Calls Try.prog 26 #[TV n0 p0 l0 c0, TV n2 p2 l2 c2] w1 (Tells (.bool (eqb x x')) w1)) := fun w1 hb => same_any x x' _ _ _ _ _ _ _ _ w1 (hx.later hb) (hx'.later hb)
    have R1 : Hid (∀ w1, Below w.heap.size w w1 → Calls Try.prog 26 #[TV n1 p1 l1 c1, TV n3 p3 l3 c3] w1 (Tells (.bool (eqb y y')) w1)) := fun w1 hb => same_any y y' _ _ _ _ _ _ _ _ w1 (hy.later hb) (hy'.later hb)
    simp at e e'
    obtain ⟨rfl, rfl, rfl, rfl⟩ := e
    obtain ⟨rfl, rfl, rfl, rfl⟩ := e'
    by_cases hab : n = n'
    · subst hab
      exact same_node n x y x' y' g o c g' o' c' n0 p0 l0 c0 n1 p1 l1 c1 n2 p2 l2 c2 n3 p3 l3 c3 w t0 t1 t2 t3 R0.out R1.out
    · rw [show eqb (EV.node n x y) (EV.node n' x' y') = false by simp [eqb, hab]]
      exact same_num n n' _ 2 c _ 2 c' w hab

set_option maxHeartbeats 2000000 in
set_option maxRecDepth 100000 in
theorem size_any : ∀ (t : Tr) (most : Int) (n : Int) (p : Option Addr) (l c : Nat) (w : World), Lies w t (TV n p l c) → 0 ≤ most → most ≤ 1000 →
    Calls Try.prog 56 #[TV n p l c, .int .i64 most] w fun e w' => ∃ z : Int, e = .returned (.int .i64 z) ∧ 1 ≤ z ∧ z ≤ most + 1 ∧ Below w.heap.size w w'
  | ⟨m, len, kids⟩, most, n, p, l, c, w, ⟨_, hl, p', c', e, hk⟩, hm0, hm1 => by
    have RR : Hid (∀ (i : Nat) (hi : i < len) (mo : Int) (n0 : Int) (p0 : Option Addr) (l0 c0 : Nat) (w1 : World), Lies w1 (kids ⟨i, hi⟩) (TV n0 p0 l0 c0) → 0 ≤ mo → mo ≤ 1000 → Calls Try.prog 56 #[TV n0 p0 l0 c0, .int .i64 mo] w1 fun e w' => ∃ z : Int, e = .returned (.int .i64 z) ∧ 1 ≤ z ∧ z ≤ mo + 1 ∧ Below w1.heap.size w1 w') := fun i hi mo n0 p0 l0 c0 w1 h h0 h1 => size_any (kids ⟨i, hi⟩) mo n0 p0 l0 c0 w1 h h0 h1
    simp at e
    obtain ⟨rfl, rfl, rfl, rfl⟩ := e
    obtain ⟨h1, hbel⟩ := one_box w n p l c _ rfl
    have rr : ∀ i, i < l → ∃ g o n0 p0 l0 c0, p = some ⟨g, o, none⟩ ∧ Tat w g (o + i * 2) n0 p0 l0 c0 ∧ ∀ w1, Below w.heap.size w w1 → ∀ mo : Int, 0 ≤ mo → mo ≤ 1000 → Calls Try.prog 56 #[TV n0 p0 l0 c0, .int .i64 mo] w1 fun e w' => ∃ z : Int, e = .returned (.int .i64 z) ∧ 1 ≤ z ∧ z ≤ mo + 1 ∧ Below w1.heap.size w1 w' := by
      intro i hi
      obtain ⟨g, o, hp, hks⟩ := hk (by omega)
      obtain ⟨n0, p0, l0, c0, t0, k0⟩ := hks i hi
      exact ⟨g, o, n0, p0, l0, c0, hp, t0, fun w1 hb mo h0 h1 => RR.out i hi mo n0 p0 l0 c0 w1 (k0.later hb) h0 h1⟩
    clear hk
    have HR : Hid (∀ i, i < l → ∃ g o n0 p0 l0 c0, p = some ⟨g, o, none⟩ ∧ Tat w g (o + i * 2) n0 p0 l0 c0 ∧ ∀ w1, Below w.heap.size w w1 → ∀ mo : Int, 0 ≤ mo → mo ≤ 1000 → Calls Try.prog 56 #[TV n0 p0 l0 c0, .int .i64 mo] w1 fun e w' => ∃ z : Int, e = .returned (.int .i64 z) ∧ 1 ≤ z ∧ z ≤ mo + 1 ∧ Below w1.heap.size w1 w') := rr
    clear rr
    have hml : l ≤ 9223372036854775807 := by unfold maxLen at hl; omega
    go_enter Try.func56, Try.ntmps56
    go_wp2
    go_loopw [5, 6] (fun vz vi wr => ∃ (k : Nat) (z : Int), vi = .int .i64 k ∧ vz = .int .i64 z ∧ k ≤ l ∧ 1 ≤ z ∧ z ≤ most + 1 ∧ Bx wr w.heap.size n p l c ∧ Below w.heap.size w wr) (fun _ vi _ => l - (intOf vi).toNat)
    case atStart => exact ⟨0, 1, rfl, rfl, by omega, by omega, by omega, h1, hbel⟩
    case round =>
      clear h1 hbel
      obtain ⟨k, z, rfl, rfl, hk, hz1, hz2, h1, hbel⟩ := hrel
      have g1 := h1.cell1
      by_cases hlt : k < l
      · by_cases hzm : z ≤ most
        · obtain ⟨g, o, n0, p0, l0, c0, rfl, t0, hC⟩ := HR.out k hlt
          replace t0 := t0.later hbel
          replace hC := hC wr hbel (most - z) (by omega) (by omega)
          have hi1 : (k : Int) < (l : Int) := by omega
          clear HR
          go_wp2_with (refine load_t _ rfl rfl _ _ rfl t0 ?_)
          refine hC.mono ?_
          rintro e w1 ⟨s, rfl, hs1, hs2, hb1⟩
          replace h1 := h1.later hb1
          replace hbel := below_on hbel hb1
          clear hC hb1 t0 g1
          go_wp2
          go_roundw
          case rel => exact ⟨k + 1, z + s, by simp, by simp, by omega, by omega, by omega, h1, hbel⟩
          case measure => simp [intOf]; omega
        · have hi1 : (k : Int) < (l : Int) := by omega
          have hi2 : ¬ z ≤ most := hzm
          clear HR
          go_wp2
          go_ret
          exact ⟨_, rfl, hz1, hz2, hbel⟩
      · have hk : k = l := by omega
        subst hk
        clear HR
        go_wp2
        go_ret
        exact ⟨_, rfl, hz1, hz2, hbel⟩

set_option maxHeartbeats 2000000 in
set_option maxRecDepth 100000 in
theorem few_any (t : Tr) (n : Int) (p : Option Addr) (l c : Nat) (w : World) (h : Lies w t (TV n p l c)) : Calls Try.prog 29 #[TV n p l c] w fun e w' => ∃ b : Bool, e = .returned (.bool b) ∧ Below w.heap.size w w' := by
  obtain ⟨h1, hbel⟩ := one_box w n p l c _ rfl
  have hC := size_any t 120 n p l c _ (h.later hbel) (by omega) (by omega)
  clear h
  go_enter Try.func29, Try.ntmps29
  go_wp2_with (refine load_t _ rfl rfl _ _ rfl h1.tat ?_)
  refine hC.mono ?_
  rintro e w1 ⟨s, rfl, hs1, hs2, hb1⟩
  replace hbel := below_on hbel hb1
  clear hC hb1 h1
  go_wp2
  go_ret
  exact ⟨_, rfl, hbel⟩
end Go.Proofs.Ytmcajjdijjcpkaa
/- What the functions of package events answer at trees that may be; what must come at any rate (heads). -/
namespace Go.Proofs.Ytmcajjdijjcpkaa
open Go.RowKit

theorem lies_ok {w : World} {x : EV} {v : Value} (h : Is w x v) (hk : ok x = true) : Lies w (toTr x) v := lies_is x 16 1073741824 v (ok_parts hk).1 (by omega) h
theorem join_any (x y : EV) (n : Int) (p : Option Addr) (l c : Nat) (n' : Int) (p' : Option Addr) (l' c' : Nat) (w : World) (hx : Is w x (TV n p l c)) (hy : Is w y (TV n' p' l' c')) (kx : ok x = true) (ky : ok y = true) :
    Calls Try.prog 34 #[TV n p l c, TV n' p' l' c'] w (GivesE (join 16 x y) 0 w) := by
  have := join_tr (toTr x) (toTr y) n p l c n' p' l' c' w (lies_ok hx kx) (lies_ok hy ky)
  rw [jnX, jnE, okT_to, okT_to, evOf_to, evOf_to, kx, ky] at this
  exact this
theorem leq_any (x y : EV) (n : Int) (p : Option Addr) (l c : Nat) (n' : Int) (p' : Option Addr) (l' c' : Nat) (w : World) (hx : Is w x (TV n p l c)) (hy : Is w y (TV n' p' l' c')) (kx : ok x = true) (ky : ok y = true) :
    Calls Try.prog 35 #[TV n p l c, TV n' p' l' c'] w (Tells (.bool (leq 16 x y)) w) := by
  have := leq_tr (toTr x) (toTr y) n p l c n' p' l' c' w (lies_ok hx kx) (lies_ok hy ky)
  rw [lqT, okT_to, okT_to, evOf_to, evOf_to, kx, ky] at this
  exact this
/-- The count at a place, or 0. -/
def atX (x : EV) (m : Int) : Int := if 0 ≤ m ∧ m < 65536 then val 16 x m.toNat else 0
theorem at_any (x : EV) (m : Int) (n : Int) (p : Option Addr) (l c : Nat) (w : World) (hx : Is w x (TV n p l c)) (kx : ok x = true) : Calls Try.prog 27 #[TV n p l c, .int .i64 m] w (Tells (.int .i64 (atX x m)) w) := by
  have := at_tr (toTr x) m n p l c w (lies_ok hx kx)
  rw [atT, okT_to, evOf_to, kx] at this
  unfold atX
  simpa using this
theorem least_any (x : EV) (n : Int) (p : Option Addr) (l c : Nat) (w : World) (hx : Is w x (TV n p l c)) (kx : ok x = true) : Calls Try.prog 102 #[TV n p l c] w (Tells (.int .i64 (low x)) w) := by
  have := least_tr (toTr x) n p l c w (lies_ok hx kx)
  rw [loT, okT_to, evOf_to, kx] at this
  exact this
theorem greatest_any (x : EV) (n : Int) (p : Option Addr) (l c : Nat) (w : World) (hx : Is w x (TV n p l c)) (kx : ok x = true) : Calls Try.prog 100 #[TV n p l c] w (Tells (.int .i64 (high x)) w) := by
  have := greatest_tr (toTr x) n p l c w (lies_ok hx kx)
  rw [hiT, okT_to, evOf_to, kx] at this
  exact this

end Go.Proofs.Ytmcajjdijjcpkaa
