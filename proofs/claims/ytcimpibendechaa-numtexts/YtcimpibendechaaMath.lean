/- Plain mathematics of numbers as bytes: reading what was written gives the number back, what is read was written so, and what is cut short is told as short. -/
import Derived.Lib.Varint
namespace Go.Proofs.Ytcimpibendechaa.Num
open Go.Lib (uvarint uvarint_small uvarint_big)

/-- What the k-th byte adds: its seven bits, moved up by 7 k, within 64 bits. -/
def sv (d : UInt8) (k : Nat) : Nat := (d.toNat % 128 * 2 ^ min (7 * k) 64) % 18446744073709551616

/-- Reading from the k-th byte on: what was gathered, and whether the tenth byte was too great. -/
def rdF : List UInt8 → Nat → Nat → Bool → Nat × Nat × Int
  | [], _, _, _ => (0, 0, 5)
  | d :: r, k, u, g =>
    if 128 ≤ d.toNat then rdF r (k + 1) (u ||| sv d k) (g || (k == 9 && decide (1 < d.toNat)))
    else if 0 < k ∧ d.toNat = 0 then (0, 0, 3)
    else if (g || (k == 9 && decide (1 < d.toNat))) = true then (0, 0, 3)
    else (u ||| sv d k, k + 1, 0)

def rd (l : List UInt8) : Nat × Nat × Int := rdF l 0 0 false

theorem or_add {u k : Nat} (c : Nat) (h : u < 2 ^ k) : u ||| (c * 2 ^ k) = u + c * 2 ^ k := by
  have := Nat.two_pow_add_eq_or_of_lt h c
  rw [Nat.or_comm, Nat.mul_comm, ← this, Nat.add_comm]

theorem sv_small {d : UInt8} {k : Nat} (hk : k ≤ 8) : sv d k = d.toNat % 128 * 2 ^ (7 * k) := by
  have hm : min (7 * k) 64 = 7 * k := by omega
  unfold sv
  rw [hm]
  apply Nat.mod_eq_of_lt
  have h1 : d.toNat % 128 ≤ 127 := by omega
  have h2 : 2 ^ (7 * k) ≤ 2 ^ 56 := Nat.pow_le_pow_right (by decide) (by omega)
  have h3 := Nat.mul_le_mul h1 h2
  have e : (2 : Nat) ^ 56 = 72057594037927936 := by decide
  omega

theorem sv_nine {d : UInt8} (hd : d.toNat ≤ 1) : sv d 9 = d.toNat * 2 ^ (7 * 9) := by
  unfold sv
  have e : (2 : Nat) ^ (7 * 9) = 9223372036854775808 := by decide
  have hm : min (7 * 9) 64 = 7 * 9 := by decide
  rw [hm, e]
  omega

/-- Reading what was written, from the k-th byte on. -/
theorem rdF_enc : ∀ (f x : Nat) (r : List UInt8) (k u : Nat), x < 128 ^ (f + 1) → k ≤ 9 → x * 2 ^ (7 * k) < 18446744073709551616 → u < 2 ^ (7 * k) → (k = 0 ∨ 0 < x) →
    rdF (uvarint x ++ r) k u false = (u + x * 2 ^ (7 * k), k + (uvarint x).length, 0) := by
  intro f
  induction f with
  | zero =>
    intro x r k u hf hk hx hu h0
    have hs : x < 128 := by simpa using hf
    rw [uvarint_small hs]
    have ht : x.toUInt8.toNat = x := by simp; omega
    have h1 : ¬ 128 ≤ x.toUInt8.toNat := by rw [ht]; omega
    have h2 : ¬ (0 < k ∧ x.toUInt8.toNat = 0) := by rw [ht]; omega
    have h9 : k = 9 → x ≤ 1 := by
      intro e; subst e
      have e2 : (2 : Nat) ^ (7 * 9) = 9223372036854775808 := by decide
      rw [e2] at hx; omega
    have h3 : ¬ ((false || (k == 9 && decide (1 < x.toUInt8.toNat))) = true) := by
      rw [ht]; simp; intro e; exact h9 e
    have hsv : sv x.toUInt8 k = x * 2 ^ (7 * k) := by
      rcases Nat.lt_or_ge k 9 with h | h
      · rw [sv_small (by omega), ht, Nat.mod_eq_of_lt hs]
      · have e : k = 9 := by omega
        subst e
        rw [sv_nine (by rw [ht]; exact h9 rfl), ht]
    show rdF (x.toUInt8 :: r) k u false = _
    unfold rdF
    rw [if_neg h1, if_neg h2, if_neg h3, hsv, or_add x hu]
    rfl
  | succ f ih =>
    intro x r k u hf hk hx hu h0
    by_cases hs : x < 128
    · have hp : 128 ^ 1 ≤ 128 ^ (f + 1) := Nat.pow_le_pow_right (by decide) (by omega)
      exact ih x r k u (by omega) hk hx hu h0
    · have hk8 : k ≤ 8 := by
        rcases Nat.lt_or_ge k 9 with h | h
        · omega
        · have e : k = 9 := by omega
          subst e
          have e2 : (2 : Nat) ^ (7 * 9) = 9223372036854775808 := by decide
          rw [e2] at hx; omega
      rw [uvarint_big (by omega)]
      have ht : (x % 128 + 128).toUInt8.toNat = x % 128 + 128 := by simp; omega
      have h1 : 128 ≤ (x % 128 + 128).toUInt8.toNat := by rw [ht]; omega
      have h9 : (k == 9) = false := by simp; omega
      have hsv : sv (x % 128 + 128).toUInt8 k = x % 128 * 2 ^ (7 * k) := by
        rw [sv_small hk8, ht]
        have : (x % 128 + 128) % 128 = x % 128 := by omega
        rw [this]
      have hP : 2 ^ (7 * (k + 1)) = 2 ^ (7 * k) * 128 := by rw [Nat.mul_add, Nat.pow_add]
      show rdF ((x % 128 + 128).toUInt8 :: (uvarint (x / 128) ++ r)) k u false = _
      unfold rdF
      rw [if_pos h1, hsv, or_add _ hu, h9]
      have hx' : x / 128 * 2 ^ (7 * (k + 1)) ≤ x * 2 ^ (7 * k) := by
        rw [hP, Nat.mul_comm (2 ^ (7 * k)) 128, ← Nat.mul_assoc]
        exact Nat.mul_le_mul_right _ (by omega)
      have hu' : u + x % 128 * 2 ^ (7 * k) < 2 ^ (7 * (k + 1)) := by
        rw [hP]
        have h127 : x % 128 ≤ 127 := by omega
        have hm : x % 128 * 2 ^ (7 * k) ≤ 127 * 2 ^ (7 * k) := Nat.mul_le_mul_right _ h127
        omega
      have hr := ih (x / 128) r (k + 1) (u + x % 128 * 2 ^ (7 * k)) (by rw [Nat.pow_succ] at hf; exact Nat.div_lt_of_lt_mul (by rw [Nat.mul_comm]; exact hf)) (by omega) (by omega) hu' (by omega)
      simp only [Bool.false_and, Bool.or_false]
      rw [hr]
      have hsum : u + x % 128 * 2 ^ (7 * k) + x / 128 * 2 ^ (7 * (k + 1)) = u + x * 2 ^ (7 * k) := by
        rw [hP]
        have e : x * 2 ^ (7 * k) = (x % 128 + 128 * (x / 128)) * 2 ^ (7 * k) := by rw [Nat.mod_add_div]
        rw [e, Nat.add_mul, Nat.add_assoc]
        congr 2
        rw [Nat.mul_comm (2 ^ (7 * k)) 128, ← Nat.mul_assoc, Nat.mul_comm (x / 128) 128]
      rw [hsum]
      simp only [List.length_cons]
      congr 2
      omega

theorem rd_enc (x : Nat) (r : List UInt8) (hx : x < 18446744073709551616) : rd (uvarint x ++ r) = (x, (uvarint x).length, 0) := by
  have h := rdF_enc 9 x r 0 0 (Nat.lt_of_lt_of_le hx (by decide)) (by omega) (by simpa using hx) (by simp) (Or.inl rfl)
  simpa [rd] using h

/-- Where something was wrong there is no number. -/
theorem rdF_bad : ∀ (l : List UInt8) (k u : Nat) (g : Bool), (rdF l k u g).2.2 ≠ 0 → (rdF l k u g).1 = 0 ∧ (rdF l k u g).2.1 = 0
  | [], _, _, _ => by intro _; exact ⟨rfl, rfl⟩
  | d :: r, k, u, g => by
    unfold rdF
    by_cases h1 : 128 ≤ d.toNat
    · rw [if_pos h1]; exact rdF_bad r _ _ _
    · rw [if_neg h1]
      by_cases h2 : 0 < k ∧ d.toNat = 0
      · rw [if_pos h2]; intro _; exact ⟨rfl, rfl⟩
      · rw [if_neg h2]
        by_cases h3 : (g || (k == 9 && decide (1 < d.toNat))) = true
        · rw [if_pos h3]; intro _; exact ⟨rfl, rfl⟩
        · rw [if_neg h3]; intro h; exact absurd rfl h

theorem rdF_great : ∀ (l : List UInt8) (k u : Nat), (rdF l k u true).2.2 ≠ 0
  | [], _, _ => by simp [rdF]
  | d :: r, k, u => by
    unfold rdF
    by_cases h1 : 128 ≤ d.toNat
    · rw [if_pos h1]; simp only [Bool.true_or]; exact rdF_great r _ _
    · rw [if_neg h1]
      by_cases h2 : 0 < k ∧ d.toNat = 0
      · rw [if_pos h2]; decide
      · rw [if_neg h2, if_pos (by simp)]; decide

theorem rdF_err : ∀ (l : List UInt8) (k u : Nat) (g : Bool), (rdF l k u g).2.2 = 0 ∨ (rdF l k u g).2.2 = 3 ∨ (rdF l k u g).2.2 = 5
  | [], _, _, _ => by simp [rdF]
  | d :: r, k, u, g => by
    unfold rdF
    by_cases h1 : 128 ≤ d.toNat
    · rw [if_pos h1]; exact rdF_err r _ _ _
    · rw [if_neg h1]
      by_cases h2 : 0 < k ∧ d.toNat = 0
      · rw [if_pos h2]; simp
      · rw [if_neg h2]
        by_cases h3 : (g || (k == 9 && decide (1 < d.toNat))) = true
        · rw [if_pos h3]; simp
        · rw [if_neg h3]; simp

/-- What is read was written so. -/
theorem rdF_one : ∀ (l : List UInt8) (k u : Nat), k ≤ 9 → u < 2 ^ (7 * k) → (rdF l k u false).2.2 = 0 →
    ∃ x j, (rdF l k u false).1 = u + x * 2 ^ (7 * k) ∧ (rdF l k u false).2.1 = k + j ∧ j ≤ l.length ∧ 1 ≤ j ∧ l.take j = uvarint x ∧ x * 2 ^ (7 * k) < 18446744073709551616 ∧ (0 < k → 0 < x)
  | [], k, u, _, _, h => by simp [rdF] at h
  | d :: r, k, u, hk, hu, h => by
    have hd := d.toNat_lt
    unfold rdF at h ⊢
    by_cases h1 : 128 ≤ d.toNat
    · rw [if_pos h1] at h ⊢
      have hk8 : k ≤ 8 := by
        rcases Nat.lt_or_ge k 9 with hh | hh
        · omega
        · have e : k = 9 := by omega
          subst e
          have hg : (false || ((9 : Nat) == 9 && decide (1 < d.toNat))) = true := by simp; omega
          rw [hg] at h
          exact absurd h (rdF_great _ _ _)
      have h9 : (k == 9) = false := by simp; omega
      rw [h9] at h ⊢
      simp only [Bool.false_and, Bool.or_false] at h ⊢
      have hP : 2 ^ (7 * (k + 1)) = 2 ^ (7 * k) * 128 := by rw [Nat.mul_add, Nat.pow_add]
      have hsv : u ||| sv d k = u + d.toNat % 128 * 2 ^ (7 * k) := by rw [sv_small hk8, or_add _ hu]
      rw [hsv] at h ⊢
      have hu' : u + d.toNat % 128 * 2 ^ (7 * k) < 2 ^ (7 * (k + 1)) := by
        rw [hP]
        have h127 : d.toNat % 128 ≤ 127 := by omega
        have hm : d.toNat % 128 * 2 ^ (7 * k) ≤ 127 * 2 ^ (7 * k) := Nat.mul_le_mul_right _ h127
        omega
      obtain ⟨x, j, e1, e2, hj, hj1, ht, hx, hx0⟩ := rdF_one r (k + 1) _ (by omega) hu' h
      have hxp := hx0 (by omega)
      refine ⟨d.toNat % 128 + 128 * x, j + 1, ?_, ?_, by simp; omega, by omega, ?_, ?_, by omega⟩
      · rw [e1, hP, Nat.add_mul, Nat.add_assoc]
        congr 2
        rw [Nat.mul_comm (2 ^ (7 * k)) 128, ← Nat.mul_assoc, Nat.mul_comm x 128]
      · rw [e2]; omega
      · rw [uvarint_big (by omega), List.take_succ_cons, ht]
        have e3 : (d.toNat % 128 + 128 * x) / 128 = x := by omega
        have e4 : (d.toNat % 128 + 128 * x) % 128 + 128 = d.toNat := by omega
        rw [e3, e4]
        simp
      · rw [hP] at hx
        have hPd : ∃ t, 18446744073709551616 = t * (2 ^ (7 * k) * 128) := by
          have : k = 0 ∨ k = 1 ∨ k = 2 ∨ k = 3 ∨ k = 4 ∨ k = 5 ∨ k = 6 ∨ k = 7 ∨ k = 8 := by omega
          rcases this with rfl | rfl | rfl | rfl | rfl | rfl | rfl | rfl | rfl
          · exact ⟨144115188075855872, by decide⟩
          · exact ⟨1125899906842624, by decide⟩
          · exact ⟨8796093022208, by decide⟩
          · exact ⟨68719476736, by decide⟩
          · exact ⟨536870912, by decide⟩
          · exact ⟨4194304, by decide⟩
          · exact ⟨32768, by decide⟩
          · exact ⟨256, by decide⟩
          · exact ⟨2, by decide⟩
        obtain ⟨t, ht2⟩ := hPd
        have hpos : 0 < 2 ^ (7 * k) * 128 := Nat.mul_pos (Nat.two_pow_pos _) (by decide)
        rw [ht2] at hx ⊢
        have hxt : x < t := Nat.lt_of_mul_lt_mul_right hx
        have hpp : 0 < 2 ^ (7 * k) := Nat.two_pow_pos _
        have : d.toNat % 128 + 128 * x < 128 * t := by omega
        calc (d.toNat % 128 + 128 * x) * 2 ^ (7 * k) < 128 * t * 2 ^ (7 * k) := Nat.mul_lt_mul_of_pos_right this hpp
          _ = t * (2 ^ (7 * k) * 128) := by rw [Nat.mul_comm 128 t, Nat.mul_assoc, Nat.mul_comm 128 (2 ^ (7 * k))]
    · rw [if_neg h1] at h ⊢
      by_cases h2 : 0 < k ∧ d.toNat = 0
      · rw [if_pos h2] at h; exact absurd h (by decide)
      · rw [if_neg h2] at h ⊢
        by_cases h3 : (false || (k == 9 && decide (1 < d.toNat))) = true
        · rw [if_pos h3] at h; exact absurd h (by decide)
        · rw [if_neg h3] at h ⊢
          have h9 : k = 9 → d.toNat ≤ 1 := by
            intro e; subst e
            simp at h3; omega
          have hsv : sv d k = d.toNat * 2 ^ (7 * k) := by
            rcases Nat.lt_or_ge k 9 with hh | hh
            · rw [sv_small (by omega), Nat.mod_eq_of_lt (by omega)]
            · have e : k = 9 := by omega
              subst e
              exact sv_nine (h9 rfl)
          have hlt : d.toNat * 2 ^ (7 * k) < 18446744073709551616 := by
            rcases Nat.lt_or_ge k 9 with hh | hh
            · have h127 : d.toNat ≤ 127 := by omega
              have h2 : 2 ^ (7 * k) ≤ 2 ^ 56 := Nat.pow_le_pow_right (by decide) (by omega)
              have h3 := Nat.mul_le_mul h127 h2
              have e : (2 : Nat) ^ 56 = 72057594037927936 := by decide
              omega
            · have e : k = 9 := by omega
              subst e
              have := h9 rfl
              have e2 : (2 : Nat) ^ (7 * 9) = 9223372036854775808 := by decide
              rw [e2]; omega
          refine ⟨d.toNat, 1, ?_, rfl, by simp, by omega, ?_, hlt, by omega⟩
          · rw [hsv, or_add _ hu]
          · rw [uvarint_small (by omega)]; simp

theorem rd_one (l : List UInt8) (h : (rd l).2.2 = 0) : l.take (rd l).2.1 = uvarint (rd l).1 ∧ (rd l).1 < 18446744073709551616 ∧ 1 ≤ (rd l).2.1 ∧ (rd l).2.1 ≤ l.length := by
  obtain ⟨x, j, e1, e2, hj, hj1, ht, hx, _⟩ := rdF_one l 0 0 (by omega) (by simp) h
  have e1' : (rd l).1 = x := by simpa [rd] using e1
  have e2' : (rd l).2.1 = j := by simpa [rd] using e2
  rw [e1', e2']
  exact ⟨ht, by simpa using hx, hj1, hj⟩

theorem rd_bad (l : List UInt8) (h : (rd l).2.2 ≠ 0) : (rd l).1 = 0 ∧ (rd l).2.1 = 0 := rdF_bad l 0 0 false h

/-- What never ends is short. -/
theorem rdF_short : ∀ (l : List UInt8) (k u : Nat) (g : Bool), (∀ d ∈ l, 128 ≤ d.toNat) → rdF l k u g = (0, 0, 5)
  | [], _, _, _, _ => rfl
  | d :: r, k, u, g, h => by
    unfold rdF
    rw [if_pos (h d (by simp))]
    exact rdF_short r _ _ _ fun e he => h e (by simp [he])

theorem enc_goes_on : ∀ (f x j : Nat), x < 128 ^ (f + 1) → j < (uvarint x).length → ∀ d ∈ (uvarint x).take j, 128 ≤ d.toNat := by
  intro f
  induction f with
  | zero =>
    intro x j hf hj d hd
    rw [uvarint_small (by simpa using hf)] at hj hd
    have : j = 0 := by simpa using hj
    subst this
    simp at hd
  | succ f ih =>
    intro x j hf hj d hd
    by_cases hs : x < 128
    · rw [uvarint_small hs] at hj hd
      have : j = 0 := by simpa using hj
      subst this
      simp at hd
    · rw [uvarint_big (by omega)] at hj hd
      match j, hj, hd with
      | 0, _, hd => simp at hd
      | j + 1, hj, hd =>
        rw [List.take_succ_cons] at hd
        rcases List.mem_cons.1 hd with e | hd
        · subst e; simp; omega
        · exact ih (x / 128) j (by rw [Nat.pow_succ] at hf; exact Nat.div_lt_of_lt_mul (by rw [Nat.mul_comm]; exact hf)) (by simpa using hj) d hd

theorem rd_cut (x j : Nat) (hx : x < 18446744073709551616) (hj : j < (uvarint x).length) : rd ((uvarint x).take j) = (0, 0, 5) :=
  rdF_short _ _ _ _ (enc_goes_on 9 x j (Nat.lt_of_lt_of_le hx (by decide)) hj)

/-- Back from the number without a sign. -/
def unz (u : Nat) : Int := if u % 2 = 1 then -((u / 2 : Nat) : Int) - 1 else ((u / 2 : Nat) : Int)

theorem unz_zigzag (n : Int) : unz (Lib.zigzag n) = n := by
  unfold unz Lib.zigzag
  by_cases h : 0 ≤ n
  · rw [if_pos h]; rw [if_neg (by omega)]; omega
  · rw [if_neg h]; rw [if_pos (by omega)]; omega

theorem zigzag_unz (u : Nat) : Lib.zigzag (unz u) = u := by
  unfold unz Lib.zigzag
  by_cases h : u % 2 = 1
  · rw [if_pos h, if_neg (by omega)]; omega
  · rw [if_neg h, if_pos (by omega)]; omega

/-- The bytes of a number. -/
def enc (n : Int) : List UInt8 := uvarint (Lib.zigzag n)

end Go.Proofs.Ytcimpibendechaa.Num
