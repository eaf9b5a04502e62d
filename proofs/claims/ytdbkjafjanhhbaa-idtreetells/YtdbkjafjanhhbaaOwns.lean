/- The function Owns of package idtree. -/
import Derived.Test.YtdbkjafjanhhbaaOwned
namespace Go.Proofs.Ytdbkjafjanhhbaa
open Go.RowKit

/-- Going down by the k bits of m. -/
def has : ID → Nat → Nat → Bool
  | ⟨.inl b⟩, _, _ => b
  | ⟨.inr (x, y)⟩, k, m => if m.testBit (k - 1) then has y (k - 1) m else has x (k - 1) m

theorem and_pow (m j : Nat) : m &&& 2 ^ j = if m.testBit j then 2 ^ j else 0 := by
  apply Nat.eq_of_testBit_eq
  intro i
  rw [Nat.testBit_and, Nat.testBit_two_pow]
  by_cases h : j = i
  · subst h
    cases m.testBit j <;> simp
  · cases m.testBit j <;> simp [h]
theorem i64_and_nat (a b : Nat) (ha : a < 65536) (hb : b < 65536) : bits .and .i64 (a : Int) (b : Int) = ((a &&& b : Nat) : Int) := by
  have h1 : ∀ x : Nat, x < 65536 → (BitVec.ofInt 64 (x : Int)).toNat = x := fun x hx => by simp; omega
  have h2 : a &&& b < 65536 := Nat.lt_of_le_of_lt Nat.and_le_left ha
  show IntKind.i64.wrap ((BitVec.ofInt 64 (a : Int) &&& BitVec.ofInt 64 (b : Int)).toNat : Int) = _
  rw [BitVec.toNat_and, h1 a ha, h1 b hb, IntKind.wrap_i64]
  omega

set_option maxHeartbeats 2000000 in
set_option maxRecDepth 100000 in
theorem owns_ok (x : ID) (m : Nat) (n : Int) (p : Option Addr) (l c : Nat) (w : World) (hx : Is w x (TV n p l c)) (hk : ok x = true) (hm : m < 65536) :
    Calls Try.prog 20 #[TV n p l c, .int .i64 m] w fun e w' => e = .returned (.bool (has x 16 m)) ∧ Below w.heap.size w w' := by
  obtain ⟨h1, hbel⟩ := one_box w n p l c _ rfl
  have r0 := check_any x n p l c _ (hx.later hbel)
  rw [hk] at r0
  have hd : depth x ≤ 16 := by
    unfold ok at hk
    simp only [Bool.and_eq_true, decide_eq_true_eq] at hk
    exact hk.1
  have hm0 : decide ((m : Int) < 0) = false := by simp only [decide_eq_false_iff_not]; omega
  have hm1 : decide ((65536 : Int) ≤ (m : Int)) = false := by simp only [decide_eq_false_iff_not]; omega
  obtain ⟨z, HZ⟩ : ∃ z, Hid (has x 16 m = z) := ⟨_, rfl⟩
  rw [HZ.out]
  have HX : Hid (Is w x (TV n p l c) ∧ depth x ≤ 16 ∧ m < 65536) := ⟨hx, hd, hm⟩
  clear hx hk hd hm
  go_enter Try.func20, Try.ntmps20
  go_wp2_with fail
  go_step3
  go_wp2_with (refine load_t _ rfl rfl _ _ rfl h1.tat ?_)
  refine r0.mono ?_
  rintro e w1 ⟨rfl, hb1⟩
  replace h1 := h1.later hb1
  replace hbel := below_on hbel hb1
  clear hb1 hm0 hm1 r0
  go_wp2_with fail
  go_step3
  go_wp2_with fail
  go_loopw [5] (fun vb wr => ∃ (k B : Nat) (y : ID) (n : Int) (p : Option Addr) (l c : Nat), vb = .int .i64 B ∧ Hid (B = 2 ^ k / 2 ∧ k ≤ 16) ∧ Bx wr w.heap.size n p l c ∧ Hid (Is w y (TV n p l c) ∧ depth y ≤ k ∧ has y k m = z) ∧ Below w.heap.size w wr) (fun vb _ => (intOf vb).toNat)
  case atStart => exact ⟨16, 32768, x, n, p, l, c, rfl, ⟨rfl, Nat.le_refl _⟩, h1, ⟨HX.out.1, HX.out.2.1, HZ.out⟩, hbel⟩
  case round =>
    clear h1 hbel
    obtain ⟨k, B, y, n', p', l', c', rfl, HB, h1, HY, hbel⟩ := hrel
    have hL := isLeaf_is HY.out.1
    by_cases hk : k = 0
    · obtain ⟨b, rfl⟩ : ∃ b, y = .leaf b := by
        rcases y with ⟨b | ⟨_, _⟩⟩
        · exact ⟨b, rfl⟩
        · have := HY.out.2.1; simp [depth] at this; omega
      obtain rfl : B = 0 := by have := HB.out.1; rw [hk] at this; simpa using this
      obtain ⟨q1, q2, e⟩ := HY.out.1
      simp at e
      obtain ⟨rfl, rfl, rfl, rfl⟩ := e
      have hz : b = z := HY.out.2.2
      have HZ' : Hid ((bi b == 1) = z) := by show _ = _; rw [← hz]; cases b <;> rfl
      have g0 := h1.cell0
      clear hL hz HY HB hk
      go_wp2_with fail
      rw [Exit.noGoto_ret]
      show bodyPost Try.prog Try.f20 _ _ _ _
      go_ret
      exact ⟨by rw [← HZ'.out]; rfl, hbel⟩
    · obtain ⟨j, rfl⟩ : ∃ j, k = j + 1 := ⟨k - 1, by omega⟩
      have hBe : B = 2 ^ j := by have := HB.out.1; rw [Nat.pow_succ] at this; omega
      have hj : j ≤ 15 := by have := HB.out.2; omega
      have hB1 : 1 ≤ B := by rw [hBe]; exact Nat.one_le_two_pow
      have hB2 : B ≤ 32768 := by rw [hBe]; exact Nat.pow_le_pow_right (by decide) hj
      have hi0 : decide ((B : Int) > 0) = true := by simp only [decide_eq_true_eq]; omega
      have HB' : Hid (B = 2 ^ j ∧ j ≤ 15) := ⟨hBe, hj⟩
      have hm := HX.out.2.2
      have ha := i64_and_nat m B (by omega) (by omega)
      have hae : ((m &&& B : Nat) : Int) = if m.testBit j then (B : Int) else 0 := by
        rw [hBe, and_pow]
        cases m.testBit j <;> simp
      rw [hae] at ha
      clear hBe hj hae hm HB hk
      rcases y with ⟨b | ⟨y0, y1⟩⟩
      · obtain ⟨q1, q2, e⟩ := HY.out.1
        simp at e
        obtain ⟨rfl, rfl, rfl, rfl⟩ := e
        have hz : b = z := HY.out.2.2
        have HZ' : Hid ((bi b == 1) = z) := by show _ = _; rw [← hz]; cases b <;> rfl
        clear hz HY ha
        go_wp2_with (refine load_t _ rfl rfl _ _ rfl h1.tat ?_)
        refine (hL _).mono ?_
        rintro e w2 ⟨rfl, hb1⟩
        have g0 := (h1.later hb1).cell0
        replace hbel := below_on hbel hb1
        clear hb1 h1 hL
        go_wp2_with fail
        rw [Exit.noGoto_ret]
        show bodyPost Try.prog Try.f20 _ _ _ _
        go_ret
        exact ⟨by rw [← HZ'.out]; rfl, hbel⟩
      · obtain ⟨⟨g, o, cc, n0, p0, l0, c0, n1, p1, l1, c1, e, t0, t1, hy0, hy1⟩, hd, hz⟩ := HY.out
        simp at e
        obtain ⟨rfl, rfl, rfl, rfl⟩ := e
        have hL2 : ∀ w, Calls Try.prog 37 #[TV 0 (some ⟨g, o, none⟩) 2 c'] w fun e w' => e = .returned (.bool false) ∧ Below w.heap.size w w' := isLeaf_any 0 (some ⟨g, o, none⟩) 2 c'
        simp only [depth] at hd
        simp only [has, Nat.add_sub_cancel] at hz
        have HC : Hid (m.testBit j = true ∨ m.testBit j = false) := by show _ ∨ _; cases m.testBit j <;> simp
        rcases HC.out with hb | hb
        · rw [hb] at ha hz
          simp only [if_true] at ha hz
          have HN : Hid (Is w y1 (TV n1 p1 l1 c1) ∧ depth y1 ≤ j ∧ has y1 j m = z) := ⟨hy1, by omega, hz⟩
          have hne : ¬ (B : Int) = 0 := by omega
          clear hy0 hy1 hd hz hb HC HY hL t0
          go_wp2_with (refine load_t _ rfl rfl _ _ rfl h1.tat ?_)
          refine (hL2 _).mono ?_
          rintro e w2 ⟨rfl, hb1⟩
          replace h1 := h1.later hb1
          replace hbel := below_on hbel hb1
          clear hb1 hL2
          have g1 := h1.cell1
          have tt := t1.later hbel
          have R := below_setRow hbel (g := w.heap.size) (Nat.le_refl _) #[.int .i64 n1, .slice p1 l1 c1]
          have h1' := h1.row n1 p1 l1 c1
          clear hbel t1
          go_wp2_with (first | refine load_t _ rfl rfl _ _ rfl tt ?_ | refine store_t rfl _ _ rfl _ n1 p1 l1 c1 rfl rfl h1 ?_)
          go_roundw
          case rel => exact ⟨j, B / 2, y1, n1, p1, l1, c1, by simp, ⟨by rw [HB'.out.1], by have := HB'.out.2; omega⟩, h1', HN, R⟩
          case measure => simp [intOf]; omega
        · rw [hb] at ha hz
          simp only [Bool.false_eq_true, if_false] at ha hz
          have HN : Hid (Is w y0 (TV n0 p0 l0 c0) ∧ depth y0 ≤ j ∧ has y0 j m = z) := ⟨hy0, by omega, hz⟩
          clear hy0 hy1 hd hz hb HC HY hL t1
          go_wp2_with (refine load_t _ rfl rfl _ _ rfl h1.tat ?_)
          refine (hL2 _).mono ?_
          rintro e w2 ⟨rfl, hb1⟩
          replace h1 := h1.later hb1
          replace hbel := below_on hbel hb1
          clear hb1 hL2
          have g1 := h1.cell1
          have tt := t0.later hbel
          have R := below_setRow hbel (g := w.heap.size) (Nat.le_refl _) #[.int .i64 n0, .slice p0 l0 c0]
          have h1' := h1.row n0 p0 l0 c0
          clear hbel t0
          go_wp2_with (first | refine load_t _ rfl rfl _ _ rfl tt ?_ | refine store_t rfl _ _ rfl _ n0 p0 l0 c0 rfl rfl h1 ?_)
          go_roundw
          case rel => exact ⟨j, B / 2, y0, n0, p0, l0, c0, by simp, ⟨by rw [HB'.out.1], by have := HB'.out.2; omega⟩, h1', HN, R⟩
          case measure => simp [intOf]; omega

set_option maxHeartbeats 2000000 in
set_option maxRecDepth 100000 in
theorem owns_bad (t : Tr) (m : Int) (n : Int) (p : Option Addr) (l c : Nat) (w : World) (ht : Lies w t (TV n p l c)) (hk : okT t = false) (h0 : 0 ≤ m) (h1 : m < 65536) :
    Calls Try.prog 20 #[TV n p l c, .int .i64 m] w fun e w' => e = .returned (.bool false) ∧ Below w.heap.size w w' := by
  obtain ⟨hx, hbel⟩ := one_box w n p l c _ rfl
  have r0 := check_tr t n p l c _ (ht.later hbel)
  rw [hk] at r0
  have hm0 : decide (m < 0) = false := by simp only [decide_eq_false_iff_not]; omega
  have hm1 : decide ((65536 : Int) ≤ m) = false := by simp only [decide_eq_false_iff_not]; omega
  clear ht hk h0 h1
  go_enter Try.func20, Try.ntmps20
  go_wp2_with fail
  go_step3
  go_wp2_with (refine load_t _ rfl rfl _ _ rfl hx.tat ?_)
  refine r0.mono ?_
  rintro e w1 ⟨rfl, hb1⟩
  replace hbel := below_on hbel hb1
  clear hb1 hm0 hm1 r0
  go_wp2_with fail
  (try rw [Exit.noGoto_ret])
  show bodyPost Try.prog Try.f20 _ _ _ _
  go_ret
  exact ⟨rfl, hbel⟩

set_option maxHeartbeats 2000000 in
set_option maxRecDepth 100000 in
theorem owns_out (m : Int) (n : Int) (p : Option Addr) (l c : Nat) (w : World) (h : m < 0 ∨ 65536 ≤ m) :
    Calls Try.prog 20 #[TV n p l c, .int .i64 m] w fun e w' => e = .returned (.bool false) ∧ Below w.heap.size w w' := by
  obtain ⟨hx, hbel⟩ := one_box w n p l c _ rfl
  by_cases h0 : m < 0
  · have hm0 : decide (m < 0) = true := by simp only [decide_eq_true_eq]; omega
    clear h h0
    go_enter Try.func20, Try.ntmps20
    go_wp2_with fail
    go_step3
    go_wp2_with fail
    (try rw [Exit.noGoto_ret])
    show bodyPost Try.prog Try.f20 _ _ _ _
    go_ret
    exact ⟨rfl, hbel⟩
  · have hm0 : decide (m < 0) = false := by simp only [decide_eq_false_iff_not]; omega
    have hm1 : decide ((65536 : Int) ≤ m) = true := by simp only [decide_eq_true_eq]; omega
    clear h h0
    go_enter Try.func20, Try.ntmps20
    go_wp2_with fail
    go_step3
    go_wp2_with fail
    (try rw [Exit.noGoto_ret])
    show bodyPost Try.prog Try.f20 _ _ _ _
    go_ret
    exact ⟨rfl, hbel⟩

def ownsT (t : Tr) (m : Int) : Bool := decide (0 ≤ m ∧ m < 65536) && okT t && has (idOf t) 16 m.toNat
theorem owns_tr (t : Tr) (m : Int) (n : Int) (p : Option Addr) (l c : Nat) (w : World) (ht : Lies w t (TV n p l c)) :
    Calls Try.prog 20 #[TV n p l c, .int .i64 m] w fun e w' => e = .returned (.bool (ownsT t m)) ∧ Below w.heap.size w w' := by
  unfold ownsT
  by_cases hm : 0 ≤ m ∧ m < 65536
  · cases hk : okT t
    · simpa using owns_bad t m n p l c w ht hk hm.1 hm.2
    · have h1 := is_ok ht hk
      have h2 : ok (idOf t) = true := by
        unfold okT at hk
        simp only [Bool.and_eq_true] at hk
        unfold ok
        simp only [Bool.and_eq_true, decide_eq_true_eq]
        exact ⟨(is_of_lies t 16 _ hk.1 ht).2, hk.2⟩
      have h3 := owns_ok (idOf t) m.toNat n p l c w h1 h2 (by omega)
      rw [show ((m.toNat : Nat) : Int) = m by omega] at h3
      simpa [hm] using h3
  · simpa [hm] using owns_out m n p l c w (by omega)
theorem owns_any (x : ID) (m : Int) (n : Int) (p : Option Addr) (l c : Nat) (w : World) (hx : Is w x (TV n p l c)) :
    Calls Try.prog 20 #[TV n p l c, .int .i64 m] w fun e w' => e = .returned (.bool (ownsT (toTr x) m)) ∧ Below w.heap.size w w' := owns_tr _ m n p l c w (lies_is x _ hx)
theorem share_any (x : ID) (n : Int) (p : Option Addr) (l c : Nat) (w : World) (hx : Is w x (TV n p l c)) :
    Calls Try.prog 22 #[TV n p l c] w fun e w' => e = .returned (.int .i64 (shareT (toTr x))) ∧ Below w.heap.size w w' := share_tr _ n p l c w (lies_is x _ hx)
theorem split_any (x : ID) (n : Int) (p : Option Addr) (l c : Nat) (w : World) (hx : Is w x (TV n p l c)) :
    Calls Try.prog 11 #[TV n p l c] w (GivesTE (splA (toTr x)) (splB (toTr x)) (splE (toTr x)) w) := split_tr _ n p l c w (lies_is x _ hx)
end Go.Proofs.Ytdbkjafjanhhbaa
