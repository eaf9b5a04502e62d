/- A number's numeral is parsed as that number. -/
import Derived.Test.YtcimpibendechaaParse
namespace Go.Proofs.Ytcimpibendechaa
open Go.RowKit

theorem decFrom_append (a b : List UInt8) : ∀ acc, Lib.decFrom acc (a ++ b) = (Lib.decFrom acc a).bind fun x => Lib.decFrom x b := by
  induction a with
  | nil => intro acc; rfl
  | cons d r ih =>
    intro acc
    simp only [List.cons_append, Lib.decFrom]
    cases Lib.digitVal d with
    | none => rfl
    | some e => exact ih _

theorem digitVal_mk (k : Nat) (hk : k < 10) : Lib.digitVal (UInt8.ofNat (48 + k)) = some k := by
  have h : (UInt8.ofNat (48 + k)).toNat = 48 + k := by rw [UInt8.toNat_ofNat']; omega
  unfold Lib.digitVal
  rw [h, if_pos (by omega)]
  congr 1
  omega

theorem decDigits_small {m : Nat} (h : m < 10) : Lib.decDigits m = [UInt8.ofNat (48 + m)] := Lib.decDigits_one h
theorem decDigits_big {m : Nat} (h : ¬ m < 10) : Lib.decDigits m = Lib.decDigits (m / 10) ++ [UInt8.ofNat (48 + m % 10)] := by rw [Lib.decDigits, dif_neg h]

theorem decFrom_one (acc k : Nat) (hk : k < 10) : Lib.decFrom acc [UInt8.ofNat (48 + k)] = some (acc * 10 + k) := by
  unfold Lib.decFrom
  rw [digitVal_mk k hk]
  rfl

theorem decFrom_dec (m : Nat) : Lib.decFrom 0 (Lib.decDigits m) = some m := by
  induction m using Nat.strongRecOn with
  | _ m ih =>
    by_cases h : m < 10
    · rw [decDigits_small h, decFrom_one 0 m h, Nat.zero_mul, Nat.zero_add]
    · rw [decDigits_big h, decFrom_append, ih (m / 10) (by omega), Option.bind_some, decFrom_one _ _ (by omega)]
      congr 1
      omega

theorem dec_digits (m : Nat) : ∀ d ∈ Lib.decDigits m, 48 ≤ d.toNat ∧ d.toNat ≤ 57 := by
  induction m using Nat.strongRecOn with
  | _ m ih =>
    intro d hd
    have key : ∀ k, k < 10 → (UInt8.ofNat (48 + k)).toNat = 48 + k := fun k hk => by rw [UInt8.toNat_ofNat']; omega
    by_cases h : m < 10
    · rw [decDigits_small h] at hd
      obtain rfl := List.mem_singleton.1 hd
      rw [key m h]; omega
    · rw [decDigits_big h] at hd
      rcases List.mem_append.1 hd with hd | hd
      · exact ih (m / 10) (by omega) d hd
      · obtain rfl := List.mem_singleton.1 hd
        rw [key _ (by omega)]; omega

theorem nDigits_le (k : Nat) : ∀ m, m < 10 ^ (k + 1) → Lib.nDigits m ≤ k + 1 := by
  induction k with
  | zero => intro m h; rw [Lib.nDigits_small (by simpa using h)]; omega
  | succ k ih =>
    intro m h
    by_cases h10 : m < 10
    · rw [Lib.nDigits_small h10]; omega
    · rw [Lib.nDigits_big h10]
      have := ih (m / 10) (by rw [Nat.pow_succ] at h; exact Nat.div_lt_of_lt_mul (by rw [Nat.mul_comm]; exact h))
      omega

theorem neg_dec (m : Nat) : neg (Lib.decDigits m) = false := by
  unfold neg
  have h := dec_digits m
  cases hd : Lib.decDigits m with
  | nil => rfl
  | cons d r =>
    have h1 := h d (by rw [hd]; simp)
    simp only [List.take_succ_cons, List.take_zero]
    apply beq_eq_false_iff_ne.2
    intro e
    have e2 : d = 45 := by simpa using e
    rw [e2] at h1
    exact absurd h1.1 (by decide)

theorem pdg_dec (m : Nat) (hm : m ≤ 9223372036854775808) : pdg (Lib.decDigits m) = (m, true) := by
  refine pdg_some ?_ (decFrom_dec m)
  rw [Lib.decDigits_length]
  have := nDigits_le 18 m (Nat.lt_of_le_of_lt hm (by decide))
  omega

/-- WHAT IS WRITTEN IS READ. -/
theorem prs_itoa (n : Int) (h0 : -9223372036854775808 ≤ n) (h1 : n ≤ 9223372036854775807) : prs (Lib.itoa n) = (n, true) := by
  by_cases hn : n < 0
  · have e : Lib.itoa n = 45 :: Lib.decDigits n.natAbs := by unfold Lib.itoa; rw [if_pos hn]
    have hneg : neg (Lib.itoa n) = true := by rw [e]; rfl
    have hb : behind (Lib.itoa n) = Lib.decDigits n.natAbs := by unfold behind; rw [if_pos hneg, e]; rfl
    have hp := pdg_dec n.natAbs (by omega)
    refine prs_yes (by rw [hb, hp]) ?_ rfl
    unfold pn
    rw [if_pos hneg, hb, hp, wrap64_is, wrap64_is]
    simp only
    omega
  · have e : Lib.itoa n = Lib.decDigits n.toNat := by unfold Lib.itoa; rw [if_neg hn]
    have hneg : neg (Lib.itoa n) = false := by rw [e]; exact neg_dec _
    have hb : behind (Lib.itoa n) = Lib.decDigits n.toNat := by unfold behind; rw [hneg, e]; rfl
    have hp := pdg_dec n.toNat (by omega)
    refine prs_yes (by rw [hb, hp]) ?_ rfl
    unfold pn
    rw [if_neg (by rw [hneg]; decide), hb, hp, wrap64_is]
    simp only
    omega

end Go.Proofs.Ytcimpibendechaa
