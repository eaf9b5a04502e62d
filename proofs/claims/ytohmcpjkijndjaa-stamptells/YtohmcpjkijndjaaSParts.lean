import Derived.Test.YtohmcpjkijndjaaSGrownInOn
/- How many parts a tree has: partsLeft of package stamp; Size and Few of the document's answer. -/
namespace Go.Proofs.Ytohmcpjkijndjaa
open Go.RowKit
open Idn (ID)

def sumN : Nat → (Nat → Nat) → Nat
  | 0, _ => 0
  | k + 1, f => sumN k f + f k
/-- How many nodes. -/
def sz : Tr → Nat
  | ⟨_, len, kids⟩ => 1 + sumN len fun i => if h : i < len then sz (kids ⟨i, h⟩) else 0
theorem sumN_le : ∀ (k n : Nat) (f : Nat → Nat), k ≤ n → sumN k f ≤ sumN n f
  | k, 0, f, h => by
    obtain rfl : k = 0 := by omega
    exact Nat.le_refl _
  | k, n + 1, f, h => by
    rcases Nat.lt_or_ge k (n + 1) with h1 | h1
    · have := sumN_le k n f (by omega)
      simp only [sumN]
      omega
    · obtain rfl : k = n + 1 := by omega
      exact Nat.le_refl _
theorem sumN_at (n : Nat) (f : Nat → Nat) (k : Nat) (h : k < n) : sumN k f + f k ≤ sumN n f := sumN_le (k + 1) n f h
theorem sumN_ge : ∀ (n : Nat) (f : Nat → Nat), (∀ i, i < n → 1 ≤ f i) → n ≤ sumN n f
  | 0, _, _ => Nat.le_refl _
  | n + 1, f, h => by
    have := sumN_ge n f fun i hi => h i (by omega)
    have := h n (by omega)
    simp only [sumN]
    omega
theorem sz_pos : ∀ t : Tr, 1 ≤ sz t
  | ⟨_, _, _⟩ => by
    unfold sz
    omega
theorem nar_of_sz : ∀ t : Tr, sz t ≤ 1000 → nar t
  | ⟨n, len, kids⟩, h => by
    have RR : ∀ (i : Nat) (hi : i < len), sz (kids ⟨i, hi⟩) ≤ 1000 → nar (kids ⟨i, hi⟩) := fun i hi => nar_of_sz (kids ⟨i, hi⟩)
    unfold sz at h
    unfold nar
    constructor
    · have := sumN_ge len (fun i => if h : i < len then sz (kids ⟨i, h⟩) else 0) fun i hi => by simp only [hi, dif_pos]; exact sz_pos _
      omega
    · rintro ⟨i, hi⟩
      have := sumN_at len (fun i => if h : i < len then sz (kids ⟨i, h⟩) else 0) i hi
      simp only [hi, dif_pos] at this
      exact RR i hi (by omega)

set_option maxHeartbeats 2000000 in
set_option maxRecDepth 100000 in
theorem size_sz : ∀ (t : Tr) (most : Int) (n : Int) (p : Option Addr) (l c : Nat) (w : World), Lies w t (TV n p l c) → 0 ≤ most → most ≤ 1000 →
    Calls Try.prog 57 #[TV n p l c, .int .i64 most] w fun e w' => ∃ z : Int, e = .returned (.int .i64 z) ∧ 1 ≤ z ∧ z ≤ most + 1 ∧ (z ≤ most → (sz t : Int) = z) ∧ Below w.heap.size w w'
  | ⟨m, len, kids⟩, most, n, p, l, c, w, ⟨_, hl, p', c', e, hk⟩, hm0, hm1 => by
    have RR : Hid (∀ (i : Nat) (hi : i < len) (mo : Int) (n0 : Int) (p0 : Option Addr) (l0 c0 : Nat) (w1 : World), Lies w1 (kids ⟨i, hi⟩) (TV n0 p0 l0 c0) → 0 ≤ mo → mo ≤ 1000 → Calls Try.prog 57 #[TV n0 p0 l0 c0, .int .i64 mo] w1 fun e w' => ∃ z : Int, e = .returned (.int .i64 z) ∧ 1 ≤ z ∧ z ≤ mo + 1 ∧ (z ≤ mo → (sz (kids ⟨i, hi⟩) : Int) = z) ∧ Below w1.heap.size w1 w') := fun i hi mo n0 p0 l0 c0 w1 h h0 h1 => size_sz (kids ⟨i, hi⟩) mo n0 p0 l0 c0 w1 h h0 h1
    simp at e
    obtain ⟨rfl, rfl, rfl, rfl⟩ := e
    obtain ⟨h1, hbel⟩ := one_box w n p l c _ rfl
    obtain ⟨f, HF⟩ : ∃ f : Nat → Nat, Hid (∀ i (hi : i < l), f i = sz (kids ⟨i, hi⟩)) := ⟨fun i => if h : i < l then sz (kids ⟨i, h⟩) else 0, show ∀ i, _ from fun i hi => by simp only [hi, dif_pos]⟩
    have HT : Hid (sz ⟨n, l, kids⟩ = 1 + sumN l f) := by
      show _ = _
      unfold sz
      congr 1
      have : ∀ k, k ≤ l → sumN k (fun i => if h : i < l then sz (kids ⟨i, h⟩) else 0) = sumN k f := by
        intro k
        induction k with
        | zero => intro _; rfl
        | succ k ih =>
          intro hk
          simp only [sumN]
          rw [ih (by omega), HF.out k (by omega), dif_pos (by omega)]
      exact this l (Nat.le_refl _)
    obtain ⟨T, HT2⟩ : ∃ T : Nat, Hid (sz ⟨n, l, kids⟩ = T) := ⟨_, rfl⟩
    rw [HT2.out] at HT
    have rr : ∀ i, i < l → ∃ g o n0 p0 l0 c0, p = some ⟨g, o, none⟩ ∧ Tat w g (o + i * 2) n0 p0 l0 c0 ∧ ∀ w1, Below w.heap.size w w1 → ∀ mo : Int, 0 ≤ mo → mo ≤ 1000 → Calls Try.prog 57 #[TV n0 p0 l0 c0, .int .i64 mo] w1 fun e w' => ∃ z : Int, e = .returned (.int .i64 z) ∧ 1 ≤ z ∧ z ≤ mo + 1 ∧ (z ≤ mo → (f i : Int) = z) ∧ Below w1.heap.size w1 w' := by
      intro i hi
      obtain ⟨g, o, hp, hks⟩ := hk (by omega)
      obtain ⟨n0, p0, l0, c0, t0, k0⟩ := hks i hi
      refine ⟨g, o, n0, p0, l0, c0, hp, t0, fun w1 hb mo h0 h1 => ?_⟩
      rw [HF.out i hi]
      exact RR.out i hi mo n0 p0 l0 c0 w1 (k0.later hb) h0 h1
    clear hk RR HF
    have HR : Hid (∀ i, i < l → ∃ g o n0 p0 l0 c0, p = some ⟨g, o, none⟩ ∧ Tat w g (o + i * 2) n0 p0 l0 c0 ∧ ∀ w1, Below w.heap.size w w1 → ∀ mo : Int, 0 ≤ mo → mo ≤ 1000 → Calls Try.prog 57 #[TV n0 p0 l0 c0, .int .i64 mo] w1 fun e w' => ∃ z : Int, e = .returned (.int .i64 z) ∧ 1 ≤ z ∧ z ≤ mo + 1 ∧ (z ≤ mo → (f i : Int) = z) ∧ Below w1.heap.size w1 w') := rr
    clear rr
    have hml : l ≤ 9223372036854775807 := by unfold maxLen at hl; omega
    rw [HT2.out]
    clear HT2
    go_enter Try.func57, Try.ntmps57
    go_wp2
    go_loopw [5, 6] (fun vz vi wr => ∃ (k : Nat) (z : Int), vi = .int .i64 k ∧ vz = .int .i64 z ∧ k ≤ l ∧ 1 ≤ z ∧ z ≤ most + 1 ∧ Hid (z ≤ most → (z : Int) = 1 + (sumN k f : Nat)) ∧ Bx wr w.heap.size n p l c ∧ Below w.heap.size w wr) (fun _ vi _ => l - (intOf vi).toNat)
    case atStart => exact ⟨0, 1, rfl, rfl, by omega, by omega, by omega, (show _ → _ from fun _ => rfl), h1, hbel⟩
    case round =>
      clear h1 hbel
      obtain ⟨k, z, rfl, rfl, hk, hz1, hz2, HS, h1, hbel⟩ := hrel
      have g1 := h1.cell1
      by_cases hlt : k < l
      · by_cases hzm : z ≤ most
        · obtain ⟨g, o, n0, p0, l0, c0, rfl, t0, hC⟩ := HR.out k hlt
          replace t0 := t0.later hbel
          replace hC := hC wr hbel (most - z) (by omega) (by omega)
          have hi1 : (k : Int) < (l : Int) := by omega
          have hS := HS.out hzm
          clear HR HS
          have HS : Hid (z = 1 + (sumN k f : Nat)) := hS
          clear hS
          go_wp2_with (refine load_t _ rfl rfl _ _ rfl t0 ?_)
          refine hC.mono ?_
          rintro e w1 ⟨s, rfl, hs1, hs2, hs3, hb1⟩
          replace h1 := h1.later hb1
          replace hbel := below_on hbel hb1
          have HS2 : Hid (z + s ≤ most → (z + s : Int) = 1 + (sumN (k + 1) f : Nat)) := show _ → _ from fun h => by
            have := hs3 (by omega)
            have := HS.out
            simp only [sumN]
            omega
          clear hC hb1 t0 g1 hs3 HS
          go_wp2
          go_roundw
          case rel => exact ⟨k + 1, z + s, by simp, by simp, by omega, by omega, by omega, HS2, h1, hbel⟩
          case measure => simp [intOf]; omega
        · have hi1 : (k : Int) < (l : Int) := by omega
          have hi2 : ¬ z ≤ most := hzm
          have H9 : Hid (z ≤ most → (T : Int) = z) := show _ → _ from fun h => absurd h hzm
          clear HR HS
          go_wp2
          go_ret
          exact ⟨_, rfl, hz1, hz2, H9.out, hbel⟩
      · have hk : k = l := by omega
        subst hk
        have H9 : Hid (z ≤ most → (T : Int) = z) := show _ → _ from fun h => by
          have := HS.out h
          have := HT.out
          omega
        clear HR HS
        go_wp2
        go_ret
        exact ⟨_, rfl, hz1, hz2, H9.out, hbel⟩
set_option maxHeartbeats 2000000 in
set_option maxRecDepth 100000 in
theorem few_sz (t : Tr) (n : Int) (p : Option Addr) (l c : Nat) (w : World) (h : Lies w t (TV n p l c)) : Calls Try.prog 29 #[TV n p l c] w fun e w' => ∃ b : Bool, e = .returned (.bool b) ∧ (b = true → sz t ≤ 120) ∧ Below w.heap.size w w' := by
  obtain ⟨h1, hbel⟩ := one_box w n p l c _ rfl
  have hC := size_sz t 120 n p l c _ (h.later hbel) (by omega) (by omega)
  clear h
  go_enter Try.func29, Try.ntmps29
  go_wp2_with (refine load_t _ rfl rfl _ _ rfl h1.tat ?_)
  refine hC.mono ?_
  rintro e w1 ⟨s, rfl, hs1, hs2, hs3, hb1⟩
  replace hbel := below_on hbel hb1
  have HS : Hid (decide (s ≤ 120) = true → sz t ≤ 120) := show _ → _ from fun h => by
    have h' : s ≤ 120 := by simpa using h
    have := hs3 h'
    omega
  clear hC hb1 h1 hs3
  go_wp2
  go_ret
  exact ⟨_, rfl, HS.out, hbel⟩
set_option maxHeartbeats 4000000 in
set_option maxRecDepth 100000 in
theorem parts_tr : ∀ (t : Tr) (within left : Int) (n : Int) (p : Option Addr) (l c : Nat) (w : World), Lies w t (TV n p l c) → (sz t : Int) ≤ within → (sz t : Int) ≤ left → within ≤ 100000 → left ≤ 100000000 →
    Calls Try.prog 32 #[TV n p l c, .int .i64 within, .int .i64 left] w (Tells (.int .i64 (left - (sz t : Int))) w)
  | ⟨m, len, kids⟩, within, left, n, p, l, c, w, ⟨_, hl, p', c', e, hk⟩, hw, hL, hw1, hL1 => by
    have RR : Hid (∀ (i : Nat) (hi : i < len) (wi le : Int) (n0 : Int) (p0 : Option Addr) (l0 c0 : Nat) (w1 : World), Lies w1 (kids ⟨i, hi⟩) (TV n0 p0 l0 c0) → (sz (kids ⟨i, hi⟩) : Int) ≤ wi → (sz (kids ⟨i, hi⟩) : Int) ≤ le → wi ≤ 100000 → le ≤ 100000000 → Calls Try.prog 32 #[TV n0 p0 l0 c0, .int .i64 wi, .int .i64 le] w1 (Tells (.int .i64 (le - (sz (kids ⟨i, hi⟩) : Int))) w1)) := fun i hi wi le n0 p0 l0 c0 w1 h a b c d => parts_tr (kids ⟨i, hi⟩) wi le n0 p0 l0 c0 w1 h a b c d
    simp at e
    obtain ⟨rfl, rfl, rfl, rfl⟩ := e
    obtain ⟨h1, hbel⟩ := one_box w n p l c _ rfl
    obtain ⟨f, HF⟩ : ∃ f : Nat → Nat, Hid (∀ i (hi : i < l), f i = sz (kids ⟨i, hi⟩)) := ⟨fun i => if h : i < l then sz (kids ⟨i, h⟩) else 0, show ∀ i, _ from fun i hi => by simp only [hi, dif_pos]⟩
    have HT : Hid (sz ⟨n, l, kids⟩ = 1 + sumN l f) := by
      show _ = _
      unfold sz
      congr 1
      have : ∀ k, k ≤ l → sumN k (fun i => if h : i < l then sz (kids ⟨i, h⟩) else 0) = sumN k f := by
        intro k
        induction k with
        | zero => intro _; rfl
        | succ k ih =>
          intro hk
          simp only [sumN]
          rw [ih (by omega), HF.out k (by omega), dif_pos (by omega)]
      exact this l (Nat.le_refl _)
    obtain ⟨T, HT2⟩ : ∃ T : Nat, Hid (sz ⟨n, l, kids⟩ = T) := ⟨_, rfl⟩
    rw [HT2.out] at HT hw hL ⊢
    have HU : ∀ k, k < l → sumN k f + f k ≤ sumN l f := fun k hk => sumN_at l f k hk
    have rr : ∀ i, i < l → ∃ g o n0 p0 l0 c0, p = some ⟨g, o, none⟩ ∧ Tat w g (o + i * 2) n0 p0 l0 c0 ∧ ∀ w1, Below w.heap.size w w1 → ∀ wi le : Int, (f i : Int) ≤ wi → (f i : Int) ≤ le → wi ≤ 100000 → le ≤ 100000000 → Calls Try.prog 32 #[TV n0 p0 l0 c0, .int .i64 wi, .int .i64 le] w1 (Tells (.int .i64 (le - (f i : Int))) w1) := by
      intro i hi
      obtain ⟨g, o, hp, hks⟩ := hk (by omega)
      obtain ⟨n0, p0, l0, c0, t0, k0⟩ := hks i hi
      refine ⟨g, o, n0, p0, l0, c0, hp, t0, fun w1 hb wi le a b c d => ?_⟩
      rw [HF.out i hi] at a b ⊢
      exact RR.out i hi wi le n0 p0 l0 c0 w1 (k0.later hb) a b c d
    have HR : Hid (∀ i, i < l → ∃ g o n0 p0 l0 c0, p = some ⟨g, o, none⟩ ∧ Tat w g (o + i * 2) n0 p0 l0 c0 ∧ ∀ w1, Below w.heap.size w w1 → ∀ wi le : Int, (f i : Int) ≤ wi → (f i : Int) ≤ le → wi ≤ 100000 → le ≤ 100000000 → Calls Try.prog 32 #[TV n0 p0 l0 c0, .int .i64 wi, .int .i64 le] w1 (Tells (.int .i64 (le - (f i : Int))) w1)) := rr
    have HUU : Hid (∀ k, k < l → sumN k f + f k ≤ sumN l f) := HU
    clear hk RR HF rr HT2 HU
    have hml : l ≤ 9223372036854775807 := by unfold maxLen at hl; omega
    have hT1 : 1 ≤ T := by have := HT.out; omega
    obtain ⟨res, HRES⟩ : ∃ r : Int, Hid (left - (T : Int) = r) := ⟨_, rfl⟩
    rw [HRES.out]
    have g1 := h1.cell1
    go_enter Try.func32, Try.ntmps32
    go_wp2
    go_loopw [2, 14] (fun vL vi wr => ∃ (k : Nat) (z : Int), vi = .int .i64 k ∧ vL = .int .i64 z ∧ k ≤ l ∧ Hid (z = left - 1 - (sumN k f : Nat)) ∧ Below w.heap.size w wr) (fun _ vi _ => l - (intOf vi).toNat)
    case atStart => exact ⟨0, left - 1, rfl, rfl, by omega, (show _ = _ by simp [sumN]), hbel⟩
    case round =>
      clear h1 hbel g1
      obtain ⟨k, z, rfl, rfl, hk, HS, hbel⟩ := hrel
      by_cases hlt : k < l
      · obtain ⟨g, o, n0, p0, l0, c0, rfl, t0, hC⟩ := HR.out k hlt
        replace t0 := t0.later hbel
        have hi1 : (k : Int) < (l : Int) := by omega
        have hz0 : (0 ≤ z ∧ z ≤ 100000000) ∧ (f k : Int) ≤ z ∧ (f k : Int) ≤ within - 1 := by
          have := HS.out
          have := HUU.out k hlt
          have := HT.out
          omega
        obtain ⟨⟨hz1, hz2⟩, hz3, hz4⟩ := hz0
        have hz5 : ¬ z < 0 := by omega
        have hw0 : ¬ within = 0 := by omega
        have m5 := bx_new wr 0 none 0 0
        have b5 := new_box wr n0 p0 l0 c0
        have hb1 := new_below wr n0 p0 l0 c0
        generalize hw : (wr.alloc (.cells #[.int .i64 0, .slice none 0 0] 24)).setRow wr.heap.size #[.int .i64 n0, .slice p0 l0 c0] = v at b5 hb1
        replace hbel := below_on hbel hb1
        replace hC := hC v hbel (within - 1) z hz4 hz3 (by omega) (by omega)
        have HS2 : Hid (z - (f k : Int) = left - 1 - (sumN (k + 1) f : Nat)) := by
          show _ = _
          have := HS.out
          simp only [sumN]
          omega
        have hwb : -9223372036854775808 ≤ within := by omega
        obtain ⟨y, HY⟩ : ∃ y : Int, Hid (z - (f k : Int) = y) := ⟨_, rfl⟩
        rw [HY.out] at hC HS2
        clear hb1 HR HS HUU hz3 hz4
        go_wp2_with (first | rw [hw] | refine load_t _ rfl rfl _ _ rfl t0 ?_ | refine store_t rfl _ _ rfl _ n0 p0 l0 c0 rfl rfl m5 ?_ | refine load_t _ rfl rfl _ _ rfl b5.tat ?_)
        refine hC.mono ?_
        rintro e w3 ⟨rfl, hb1⟩
        replace hbel := below_on hbel hb1
        clear hC hb1 t0 m5 b5 hw hz1 hz2 hz5 hw0
        go_wp2
        go_roundw
        case rel => exact ⟨k + 1, y, by simp, rfl, by omega, HS2, hbel⟩
        case measure => simp [intOf]; omega
      · have hk : k = l := by omega
        subst hk
        obtain rfl : z = res := by
          have := HS.out
          have := HT.out
          have := HRES.out
          omega
        clear HR HS HUU
        go_wp2
        go_ret
        exact ⟨rfl, hbel⟩
end Go.Proofs.Ytohmcpjkijndjaa
