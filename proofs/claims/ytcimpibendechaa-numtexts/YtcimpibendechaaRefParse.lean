/- The document's answer Parse tells the same as the program's Parse, for every text. -/
import Derived.Test.YtcimpibendechaaRefDec
namespace Go.Proofs.Ytcimpibendechaa
open Go.RowKit

/-- The number that the document's answer holds against the text. -/
def rz (l : List UInt8) (V : Nat) : Int := if neg l = true then wrap64 (IntKind.u64.wrap (-((V % 18446744073709551616 : Nat) : Int))) else wrap64 ((V % 18446744073709551616 : Nat) : Int)

theorem rz_range (l : List UInt8) (V : Nat) : -9223372036854775808 ≤ rz l V ∧ rz l V ≤ 9223372036854775807 := by
  unfold rz
  split
  · exact ⟨wrap64_lo _, wrap64_hi _⟩
  · exact ⟨wrap64_lo _, wrap64_hi _⟩

theorem len_itoa {z : Int} (h0 : -9223372036854775808 ≤ z) (h1 : z ≤ 9223372036854775807) (hz : 0 ≤ z) : (Lib.itoa z).length ≤ 19 := by
  obtain ⟨M, rfl⟩ := Int.eq_ofNat_of_zero_le hz
  rw [Lib.itoa_nonneg, Lib.decDigits_length]
  exact nDigits_le 18 M (Nat.lt_of_le_of_lt (show M ≤ 9223372036854775807 by omega) (by decide))

theorem rz_pn {l : List UInt8} {V : Nat} (h19 : (behind l).length ≤ 19) (hV : Lib.decFrom 0 (behind l) = some V) : rz l V = pn l := by
  have hp := pdg_some (show ¬ 19 < (behind l).length by omega) hV
  have hlt : V < 10 ^ 19 := by
    have h := Lib.decFrom_lt _ 0 V hV
    have h2 : (10 : Nat) ^ (behind l).length ≤ 10 ^ 19 := Nat.pow_le_pow_right (by decide) h19
    omega
  have e19 : (10 : Nat) ^ 19 = 10000000000000000000 := by decide
  rw [e19] at hlt
  have hm : V % 18446744073709551616 = V := Nat.mod_eq_of_lt (by omega)
  unfold rz pn
  rw [hp, hm]
  by_cases hn : neg l = true
  · rw [if_pos hn, if_pos hn, IntKind.wrap_u64, wrap64_is, wrap64_is, wrap64_is]
    simp only
    omega
  · rw [if_neg hn, if_neg hn]

/-- WITHIN TWENTY BYTES THE TWO ARE ONE. -/
theorem same_yes {l : List UInt8} {V : Nat} (hl : l.length ≤ 20) (hV : Lib.decFrom 0 (behind l) = some V) (h : Lib.itoa (rz l V) = l) : prs l = (rz l V, true) := by
  rcases Nat.lt_or_ge 19 (behind l).length with h19 | h19
  · exfalso
    have hr := rz_range l V
    by_cases hn : neg l = true
    · unfold behind at h19
      rw [if_pos hn, List.length_drop] at h19
      omega
    · by_cases hz : rz l V < 0
      · apply hn
        rw [← h]
        unfold Lib.itoa
        rw [if_pos hz]
        rfl
      · have := len_itoa hr.1 hr.2 (by omega)
        rw [h] at this
        unfold behind at h19
        rw [if_neg hn] at h19
        omega
  · have hp := pdg_some (show ¬ 19 < (behind l).length by omega) hV
    exact prs_yes (by rw [hp]) (rz_pn h19 hV).symm h

theorem same_no {l : List UInt8} {V : Nat} (hV : Lib.decFrom 0 (behind l) = some V) (h : ¬ Lib.itoa (rz l V) = l) : prs l = (0, false) := by
  rcases Nat.lt_or_ge 19 (behind l).length with h19 | h19
  · exact prs_bad (by rw [pdg_long h19])
  · have hp := pdg_some (show ¬ 19 < (behind l).length by omega) hV
    exact prs_no (by rw [hp]) (rz_pn h19 hV).symm h

theorem same_bad {l : List UInt8} (hV : Lib.decFrom 0 (behind l) = none) : prs l = (0, false) := by
  rcases Nat.lt_or_ge 19 (behind l).length with h19 | h19
  · exact prs_bad (by rw [pdg_long h19])
  · exact prs_bad (by rw [pdg_none (by omega) hV])

theorem same_long {l : List UInt8} (hl : 20 < l.length) : prs l = (0, false) := by
  apply prs_bad
  rw [pdg_long]
  unfold behind
  split
  · rw [List.length_drop]; omega
  · omega

theorem step10 (acc A d : Nat) (hA : acc % 18446744073709551616 = A) (hd : 48 ≤ d) : IntKind.u64.wrap (IntKind.u64.wrap (10 * (A : Int)) + ((d : Int) - 48)) = (((acc * 10 + (d - 48)) % 18446744073709551616 : Nat) : Int) := by
  rw [IntKind.wrap_u64, IntKind.wrap_u64]
  omega

theorem decFrom_at (l : List UInt8) (i k acc : Nat) (b : UInt8) (hik : i ≤ k) (h : Lib.decFrom 0 ((l.drop i).take (k - i)) = some acc) (hb : l[k]? = some b) (h1 : 48 ≤ b.toNat) (h2 : b.toNat ≤ 57) :
    Lib.decFrom 0 ((l.drop i).take (k + 1 - i)) = some (acc * 10 + (b.toNat - 48)) := by
  have h3 := Lib.decFrom_take (l.drop i) (k - i) 0 acc b _ h (by rw [List.getElem?_drop, show i + (k - i) = k by omega]; exact hb) (digit_yes b h1 h2)
  rw [show k + 1 - i = k - i + 1 by omega]
  exact h3

theorem decFrom_bad (l : List UInt8) (i k : Nat) (b : UInt8) (hik : i ≤ k) (hb : l[k]? = some b) (h : ¬ (48 ≤ b.toNat ∧ b.toNat ≤ 57)) : Lib.decFrom 0 (l.drop i) = none :=
  decFrom_not _ (k - i) b (by rw [List.getElem?_drop, show i + (k - i) = k by omega]; exact hb) (digit_no b h)

set_option maxHeartbeats 400000 in
set_option maxRecDepth 100000 in
theorem rparse_long (s : ByteArray) (w : World) (hm : s.size ≤ maxLen) (hl : 20 < s.size) :
    Calls Try.prog 19 #[.string s] w fun e w' => e = .returned (.tuple #[.int .i64 (prs s.data.toList).1, .bool (prs s.data.toList).2]) ∧ Below w.heap.size w w' := by
  rw [same_long (by rw [size_list]; exact hl)]
  unfold maxLen at hm
  go_enter Try.func19, Try.ntmps19
  go_wp2
  go_ret2
  exact ⟨rfl, Below.refl _ _⟩

set_option maxHeartbeats 1000000 in
set_option maxRecDepth 100000 in
theorem rparse_neg (s : ByteArray) (w : World) (hs : s.size ≤ 20) (hpos : 0 < s.size) (h45 : ((s[0].toNat : Int) == 45) = true) (hneg : neg s.data.toList = true) :
    Calls Try.prog 19 #[.string s] w fun e w' => e = .returned (.tuple #[.int .i64 (prs s.data.toList).1, .bool (prs s.data.toList).2]) ∧ Below w.heap.size w w' := by
  have HBE : Hid (behind s.data.toList = s.data.toList.drop 1) := by
    show _ = _
    unfold behind; rw [if_pos hneg]
  have HRZ : Hid (∀ V, rz s.data.toList V = wrap64 (IntKind.u64.wrap (-((V % 18446744073709551616 : Nat) : Int)))) := by
    intro V
    unfold rz
    rw [if_pos hneg]
  clear hneg
  have hpz : (0 : Int) < (s.size : Int) := by omega
  go_enter Try.func19, Try.ntmps19
  go_wp2
  go_loop [4, 6] (fun vn vk => ∃ k acc : Nat, vk = .int .i64 k ∧ vn = .int .u64 (acc % 18446744073709551616 : Nat) ∧ 1 ≤ k ∧ k ≤ s.size ∧ Lib.decFrom 0 ((s.data.toList.drop 1).take (k - 1)) = some acc) (fun _ vk => s.size - (intOf vk).toNat)
  case atStart => exact ⟨1, 0, rfl, rfl, by omega, by omega, by simp [Lib.decFrom]⟩
  case round =>
    obtain ⟨k, acc, rfl, rfl, hk1, hk, hm⟩ := hrel
    have HM : Hid (Lib.decFrom 0 ((s.data.toList.drop 1).take (k - 1)) = some acc) := hm
    clear hm
    have hA : acc % 18446744073709551616 < 18446744073709551616 := Nat.mod_lt _ (by decide)
    generalize hAA : acc % 18446744073709551616 = A at hA
    have HA : Hid (acc % 18446744073709551616 = A) := hAA
    clear hAA
    by_cases hlt : k < s.size
    · have hb := byte_list s k hlt
      by_cases hd : 48 ≤ s[k].toNat ∧ s[k].toNat ≤ 57
      · obtain ⟨hd1, hd2⟩ := hd
        have R1 : Hid (IntKind.u64.wrap (IntKind.u64.wrap (10 * (A : Int)) + ((s[k].toNat : Int) - 48)) = (((acc * 10 + (s[k].toNat - 48)) % 18446744073709551616 : Nat) : Int)) := step10 acc A _ HA.out hd1
        have R2 : Hid (Lib.decFrom 0 ((s.data.toList.drop 1).take (k + 1 - 1)) = some (acc * 10 + (s[k].toNat - 48))) := decFrom_at _ _ k acc _ hk1 HM.out hb hd1 hd2
        clear hb HA HM
        go_wp2
        go_round
        case rel => exact ⟨k + 1, _, by go_num, by rw [R1.out], by omega, by omega, R2.out⟩
        case measure => simp [intOf]; omega
      · have R : Hid (prs s.data.toList = (0, false)) := same_bad (by rw [HBE.out]; exact decFrom_bad _ _ k _ hk1 hb hd)
        clear hb HA HM
        have hd2 : (s[k].toNat : Int) < 48 ∨ ((48 : Int) ≤ (s[k].toNat : Int) ∧ (57 : Int) < (s[k].toNat : Int)) := by omega
        clear hd
        rcases hd2 with hd2 | ⟨hd2, hd3⟩
        · go_wp2
          go_ret2
          exact ⟨by rw [R.out]; rfl, Below.refl _ _⟩
        · go_wp2
          go_ret2
          exact ⟨by rw [R.out]; rfl, Below.refl _ _⟩
    · have hV : Lib.decFrom 0 (behind s.data.toList) = some acc := by
        have h := HM.out
        rw [List.take_of_length_le (by rw [List.length_drop, size_list]; omega)] at h
        rw [HBE.out]; exact h
      have hrz := HRZ.out acc
      rw [HA.out] at hrz
      have hrr := rz_range s.data.toList acc
      rw [hrz] at hrr
      have CD := rdec_any _ w hrr.1 hrr.2
      have HVV : Hid (Lib.decFrom 0 (behind s.data.toList) = some acc) := hV
      have HZZ : Hid (rz s.data.toList acc = wrap64 (IntKind.u64.wrap (-(A : Int)))) := hrz
      clear hV hrz hrr HM HA HRZ HBE
      go_wp2_with fail
      refine CD.mono ?_
      rintro e w1 ⟨r, rfl, hr, hbel⟩
      clear CD
      have hz := HZZ.out
      clear HZZ
      generalize wrap64 (IntKind.u64.wrap (-(A : Int))) = z at hr hz ⊢
      by_cases h : Lib.itoa z = s.data.toList
      · have hb := str_yes hr h
        have R : Hid (prs s.data.toList = (z, true)) := by
          have := same_yes (by rw [size_list]; exact hs) HVV.out (by rw [hz]; exact h)
          rw [hz] at this
          exact this
        clear hr h hz HVV
        go_wp2
        go_ret2
        exact ⟨by rw [R.out]; rfl, hbel⟩
      · have hb := str_no hr h
        have R : Hid (prs s.data.toList = (0, false)) := same_no HVV.out (by rw [hz]; exact h)
        clear hr h hz HVV
        go_wp2
        go_ret2
        exact ⟨by rw [R.out]; rfl, hbel⟩

set_option maxHeartbeats 1000000 in
set_option maxRecDepth 100000 in
theorem rparse_pos (s : ByteArray) (w : World) (hs : s.size ≤ 20) (hpos : 0 < s.size) (h45 : ((s[0].toNat : Int) == 45) = false) (hneg : ¬ neg s.data.toList = true) :
    Calls Try.prog 19 #[.string s] w fun e w' => e = .returned (.tuple #[.int .i64 (prs s.data.toList).1, .bool (prs s.data.toList).2]) ∧ Below w.heap.size w w' := by
  have HBE : Hid (behind s.data.toList = s.data.toList.drop 0) := by
    show _ = _
    unfold behind; rw [if_neg hneg]; rfl
  have HRZ : Hid (∀ V, rz s.data.toList V = wrap64 ((V % 18446744073709551616 : Nat) : Int)) := by
    intro V
    unfold rz
    rw [if_neg hneg]
  clear hneg
  have hpz : (0 : Int) < (s.size : Int) := by omega
  go_enter Try.func19, Try.ntmps19
  go_wp2
  go_loop [4, 6] (fun vn vk => ∃ k acc : Nat, vk = .int .i64 k ∧ vn = .int .u64 (acc % 18446744073709551616 : Nat) ∧ 0 ≤ k ∧ k ≤ s.size ∧ Lib.decFrom 0 ((s.data.toList.drop 0).take (k - 0)) = some acc) (fun _ vk => s.size - (intOf vk).toNat)
  case atStart => exact ⟨0, 0, rfl, rfl, by omega, by omega, by simp [Lib.decFrom]⟩
  case round =>
    obtain ⟨k, acc, rfl, rfl, hk1, hk, hm⟩ := hrel
    have HM : Hid (Lib.decFrom 0 ((s.data.toList.drop 0).take (k - 0)) = some acc) := hm
    clear hm
    have hA : acc % 18446744073709551616 < 18446744073709551616 := Nat.mod_lt _ (by decide)
    generalize hAA : acc % 18446744073709551616 = A at hA
    have HA : Hid (acc % 18446744073709551616 = A) := hAA
    clear hAA
    by_cases hlt : k < s.size
    · have hb := byte_list s k hlt
      by_cases hd : 48 ≤ s[k].toNat ∧ s[k].toNat ≤ 57
      · obtain ⟨hd1, hd2⟩ := hd
        have R1 : Hid (IntKind.u64.wrap (IntKind.u64.wrap (10 * (A : Int)) + ((s[k].toNat : Int) - 48)) = (((acc * 10 + (s[k].toNat - 48)) % 18446744073709551616 : Nat) : Int)) := step10 acc A _ HA.out hd1
        have R2 : Hid (Lib.decFrom 0 ((s.data.toList.drop 0).take (k + 1 - 0)) = some (acc * 10 + (s[k].toNat - 48))) := decFrom_at _ _ k acc _ hk1 HM.out hb hd1 hd2
        clear hb HA HM
        go_wp2
        go_round
        case rel => exact ⟨k + 1, _, by go_num, by rw [R1.out], by omega, by omega, R2.out⟩
        case measure => simp [intOf]; omega
      · have R : Hid (prs s.data.toList = (0, false)) := same_bad (by rw [HBE.out]; exact decFrom_bad _ _ k _ hk1 hb hd)
        clear hb HA HM
        have hd2 : (s[k].toNat : Int) < 48 ∨ ((48 : Int) ≤ (s[k].toNat : Int) ∧ (57 : Int) < (s[k].toNat : Int)) := by omega
        clear hd
        rcases hd2 with hd2 | ⟨hd2, hd3⟩
        · go_wp2
          go_ret2
          exact ⟨by rw [R.out]; rfl, Below.refl _ _⟩
        · go_wp2
          go_ret2
          exact ⟨by rw [R.out]; rfl, Below.refl _ _⟩
    · have hV : Lib.decFrom 0 (behind s.data.toList) = some acc := by
        have h := HM.out
        rw [List.take_of_length_le (by rw [List.length_drop, size_list]; omega)] at h
        rw [HBE.out]; exact h
      have hrz := HRZ.out acc
      rw [HA.out] at hrz
      have hrr := rz_range s.data.toList acc
      rw [hrz] at hrr
      have CD := rdec_any _ w hrr.1 hrr.2
      have HVV : Hid (Lib.decFrom 0 (behind s.data.toList) = some acc) := hV
      have HZZ : Hid (rz s.data.toList acc = wrap64 (A : Int)) := hrz
      clear hV hrz hrr HM HA HRZ HBE
      go_wp2_with fail
      refine CD.mono ?_
      rintro e w1 ⟨r, rfl, hr, hbel⟩
      clear CD
      have hz := HZZ.out
      clear HZZ
      generalize wrap64 (A : Int) = z at hr hz ⊢
      by_cases h : Lib.itoa z = s.data.toList
      · have hb := str_yes hr h
        have R : Hid (prs s.data.toList = (z, true)) := by
          have := same_yes (by rw [size_list]; exact hs) HVV.out (by rw [hz]; exact h)
          rw [hz] at this
          exact this
        clear hr h hz HVV
        go_wp2
        go_ret2
        exact ⟨by rw [R.out]; rfl, hbel⟩
      · have hb := str_no hr h
        have R : Hid (prs s.data.toList = (0, false)) := same_no HVV.out (by rw [hz]; exact h)
        clear hr h hz HVV
        go_wp2
        go_ret2
        exact ⟨by rw [R.out]; rfl, hbel⟩

set_option maxHeartbeats 1000000 in
set_option maxRecDepth 100000 in
theorem rparse_nil (s : ByteArray) (w : World) (hs : s.size ≤ 20) (hpos : (s.size : Int) ≤ 0) (hneg : ¬ neg s.data.toList = true) :
    Calls Try.prog 19 #[.string s] w fun e w' => e = .returned (.tuple #[.int .i64 (prs s.data.toList).1, .bool (prs s.data.toList).2]) ∧ Below w.heap.size w w' := by
  have HBE : Hid (behind s.data.toList = s.data.toList.drop 0) := by
    show _ = _
    unfold behind; rw [if_neg hneg]; rfl
  have HRZ : Hid (∀ V, rz s.data.toList V = wrap64 ((V % 18446744073709551616 : Nat) : Int)) := by
    intro V
    unfold rz
    rw [if_neg hneg]
  clear hneg
  go_enter Try.func19, Try.ntmps19
  go_wp2
  go_loop [4, 6] (fun vn vk => ∃ k acc : Nat, vk = .int .i64 k ∧ vn = .int .u64 (acc % 18446744073709551616 : Nat) ∧ 0 ≤ k ∧ k ≤ s.size ∧ Lib.decFrom 0 ((s.data.toList.drop 0).take (k - 0)) = some acc) (fun _ vk => s.size - (intOf vk).toNat)
  case atStart => exact ⟨0, 0, rfl, rfl, by omega, by omega, by simp [Lib.decFrom]⟩
  case round =>
    obtain ⟨k, acc, rfl, rfl, hk1, hk, hm⟩ := hrel
    have HM : Hid (Lib.decFrom 0 ((s.data.toList.drop 0).take (k - 0)) = some acc) := hm
    clear hm
    have hA : acc % 18446744073709551616 < 18446744073709551616 := Nat.mod_lt _ (by decide)
    generalize hAA : acc % 18446744073709551616 = A at hA
    have HA : Hid (acc % 18446744073709551616 = A) := hAA
    clear hAA
    by_cases hlt : k < s.size
    · exact absurd hlt (by omega)
    · have hV : Lib.decFrom 0 (behind s.data.toList) = some acc := by
        have h := HM.out
        rw [List.take_of_length_le (by rw [List.length_drop, size_list]; omega)] at h
        rw [HBE.out]; exact h
      have hrz := HRZ.out acc
      rw [HA.out] at hrz
      have hrr := rz_range s.data.toList acc
      rw [hrz] at hrr
      have CD := rdec_any _ w hrr.1 hrr.2
      have HVV : Hid (Lib.decFrom 0 (behind s.data.toList) = some acc) := hV
      have HZZ : Hid (rz s.data.toList acc = wrap64 (A : Int)) := hrz
      clear hV hrz hrr HM HA HRZ HBE
      go_wp2_with fail
      refine CD.mono ?_
      rintro e w1 ⟨r, rfl, hr, hbel⟩
      clear CD
      have hz := HZZ.out
      clear HZZ
      generalize wrap64 (A : Int) = z at hr hz ⊢
      by_cases h : Lib.itoa z = s.data.toList
      · have hb := str_yes hr h
        have R : Hid (prs s.data.toList = (z, true)) := by
          have := same_yes (by rw [size_list]; exact hs) HVV.out (by rw [hz]; exact h)
          rw [hz] at this
          exact this
        clear hr h hz HVV
        go_wp2
        go_ret2
        exact ⟨by rw [R.out]; rfl, hbel⟩
      · have hb := str_no hr h
        have R : Hid (prs s.data.toList = (0, false)) := same_no HVV.out (by rw [hz]; exact h)
        clear hr h hz HVV
        go_wp2
        go_ret2
        exact ⟨by rw [R.out]; rfl, hbel⟩

theorem neg_head (s : ByteArray) (h : 0 < s.size) : neg s.data.toList = (s[0].toNat == 45) := by
  have hb := byte_list s 0 h
  cases hl : s.data.toList with
  | nil => rw [hl] at hb; cases hb
  | cons d r =>
    rw [hl] at hb
    have e : d = s[0] := by simpa using hb
    rw [← e]
    unfold neg
    simp only [List.take_succ_cons, List.take_zero]
    rw [Bool.eq_iff_iff]
    simp only [beq_iff_eq, List.cons.injEq, and_true]
    constructor
    · intro h; rw [h]; rfl
    · intro h; exact UInt8.toNat_inj.1 h

theorem rparse_any (s : ByteArray) (w : World) (hm : s.size ≤ maxLen) :
    Calls Try.prog 19 #[.string s] w fun e w' => e = .returned (.tuple #[.int .i64 (prs s.data.toList).1, .bool (prs s.data.toList).2]) ∧ Below w.heap.size w w' := by
  rcases Nat.lt_or_ge 20 s.size with h | h
  · exact rparse_long s w hm h
  · rcases Nat.eq_zero_or_pos s.size with h0 | h0
    · have : s.data.toList = [] := List.eq_nil_of_length_eq_zero (by rw [size_list]; exact h0)
      exact rparse_nil s w h (by omega) (by rw [this]; decide)
    · have hh := neg_head s h0
      by_cases hn : neg s.data.toList = true
      · rw [hn] at hh
        have h45 : s[0].toNat = 45 := by simpa using hh.symm
        exact rparse_neg s w h h0 (by simp; omega) hn
      · have hn' : neg s.data.toList = false := by simpa using hn
        rw [hn'] at hh
        have h45 : ¬ s[0].toNat = 45 := by
          intro e; rw [e] at hh; exact absurd hh (by decide)
        exact rparse_pos s w h h0 (beq_eq_false_iff_ne.2 (by omega)) hn

end Go.Proofs.Ytcimpibendechaa
