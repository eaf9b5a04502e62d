/- The functions of package num that only reckon (fold, unfold, countDigits, parseDigits), and the library's CutPrefix, answer what plain functions say, and turn nothing in memory. -/
import Derived.Test.YtcimpibendechaaRows
import Derived.WalkKit
import Derived.WalkSpells
import Derived.WalkLawsBesides
import Derived.Lib.Zigzag
import Derived.Laws.Bits64b
import Derived.Lib.ItoaNum
import Derived.Lib.ItoaLen
import Derived.Lib.Atoi
import Derived.Lib.Strings
import Derived.Test.YtcimpibendechaaMath
namespace Go.Proofs.Ytcimpibendechaa
open Go.RowKit

set_option maxHeartbeats 400000 in
theorem fold_neg (n : Int) (w : World) (h0 : -9223372036854775808 ≤ n) (hn : n < 0) :
    Calls Try.prog 22 #[.int .i64 n] w fun e w' => e = .returned (.int .u64 (Lib.zigzag n : Nat)) ∧ w' = w := by
  have hz := Lib.zigzag_neg h0 hn
  go_enter Try.func22, Try.ntmps22
  go_wp2
  go_ret
  exact ⟨rfl, rfl⟩

set_option maxHeartbeats 400000 in
theorem fold_pos (n : Int) (w : World) (h0 : 0 ≤ n) (hn : n ≤ 9223372036854775807) :
    Calls Try.prog 22 #[.int .i64 n] w fun e w' => e = .returned (.int .u64 (Lib.zigzag n : Nat)) ∧ w' = w := by
  have H : Hid (((Lib.zigzag n : Nat) : Int) = n * 2) := Lib.zigzag_nonneg h0
  go_enter Try.func22, Try.ntmps22
  go_wp2
  go_ret
  exact ⟨by rw [H.out]; rfl, rfl⟩

theorem fold_any (n : Int) (w : World) (h0 : -9223372036854775808 ≤ n) (h1 : n ≤ 9223372036854775807) :
    Calls Try.prog 22 #[.int .i64 n] w fun e w' => e = .returned (.int .u64 (Lib.zigzag n : Nat)) ∧ w' = w := by
  rcases Int.lt_or_le n 0 with h | h
  · exact fold_neg n w h0 h
  · exact fold_pos n w h h1

theorem not_shr (u : Nat) (hu : u < 18446744073709551616) : bits .xor .u64 IntKind.u64.max ((u : Int) / 2) = ((18446744073709551615 - u / 2 : Nat) : Int) := by
  have e2 : IntKind.u64.max = ((2 ^ 64 - 1 : Nat) : Int) := by decide
  have e3 : (u : Int) / 2 = ((u / 2 : Nat) : Int) := by omega
  rw [e2, e3, bits_xor_u64_nat _ _ (by decide) (by omega), Lib.xor_ones64 _ (by omega)]

theorem ret_int {k : IntKind} {a b : Int} (h : a = b) : Ending.returned (.int k a) = .returned (.int k b) := by rw [h]

theorem wrap64_is (n : Int) : wrap64 n = (n + 9223372036854775808) % 18446744073709551616 - 9223372036854775808 := by
  unfold wrap64
  rfl

set_option maxHeartbeats 400000 in
theorem unfold_any (u : Nat) (w : World) (hu : u < 18446744073709551616) :
    Calls Try.prog 24 #[.int .u64 u] w fun e w' => e = .returned (.int .i64 (Num.unz u)) ∧ w' = w := by
  have hx := not_shr u hu
  by_cases h : u % 2 = 1
  · have hb : ((u : Int) % 2 == 1) = true := by simp; omega
    have HV : Hid (wrap64 ((18446744073709551615 - u / 2 : Nat) : Int) = Num.unz u) := by
      show _ = _
      rw [wrap64_is]; unfold Num.unz; rw [if_pos h]; omega
    go_enter Try.func24, Try.ntmps24
    go_wp2
    go_ret
    exact ⟨ret_int HV.out, rfl⟩
  · have hb : ((u : Int) % 2 == 1) = false := by simp; omega
    have HV : Hid ((u : Int) / 2 = Num.unz u) := by
      show _ = _
      unfold Num.unz; rw [if_neg h]; omega
    go_enter Try.func24, Try.ntmps24
    go_wp2
    go_ret
    exact ⟨ret_int HV.out, rfl⟩

set_option maxHeartbeats 400000 in
set_option maxRecDepth 100000 in
theorem count_any (m : Nat) (w : World) (hm : m < 18446744073709551616) :
    Calls Try.prog 29 #[.int .u64 m] w fun e w' => e = .returned (.int .i64 (Lib.nDigits m : Nat)) ∧ w' = w := by
  go_enter Try.func29, Try.ntmps29
  go_wp2
  go_loop [0, 3] (fun vm vc => ∃ x c : Nat, vm = .int .u64 x ∧ vc = .int .i64 c ∧ x ≤ m ∧ Lib.nDigits m + 1 = c + Lib.nDigits x) (fun vm _ => (intOf vm).toNat)
  case atStart => exact ⟨m, 1, rfl, rfl, by omega, by omega⟩
  case round =>
    obtain ⟨x, c, rfl, rfl, hx, hnd⟩ := hrel
    have HN : Hid (Lib.nDigits m + 1 = c + Lib.nDigits x) := hnd
    clear hnd
    by_cases h10 : 10 ≤ x
    · have HN2 := Lib.nDigits_big (u := x) (by omega)
      have HN3 : Hid (Lib.nDigits m + 1 = (c + 1) + Lib.nDigits (x / 10)) := by
        show _ = _
        have := HN.out; omega
      have hc : c ≤ 20 := by
        have h1 := HN.out
        have h2 := Lib.nDigits_le20 m hm
        have h3 := Lib.nDigits_pos x
        omega
      clear HN HN2
      go_wp2
      go_round
      case rel => exact ⟨x / 10, c + 1, by go_num, by go_num, by omega, HN3.out⟩
      case measure => simp [intOf]; omega
    · have HN2 := Lib.nDigits_small (u := x) (by omega)
      have HN3 : Hid (c = Lib.nDigits m) := by
        show _ = _
        have := HN.out; omega
      clear HN HN2
      go_wp2
      go_ret
      exact ⟨by rw [← HN3.out]; rfl, rfl⟩

/-- What a row of digits says: at most 19 of them. -/
def pdg (l : List UInt8) : Nat × Bool := if 19 < l.length then (0, false) else match Lib.decFrom 0 l with
  | some m => (m, true)
  | none => (0, false)

theorem pdg_long {l : List UInt8} (h : 19 < l.length) : pdg l = (0, false) := by unfold pdg; rw [if_pos h]
theorem pdg_some {l : List UInt8} {m : Nat} (h : ¬ 19 < l.length) (hd : Lib.decFrom 0 l = some m) : pdg l = (m, true) := by unfold pdg; rw [if_neg h, hd]
theorem pdg_none {l : List UInt8} (h : ¬ 19 < l.length) (hd : Lib.decFrom 0 l = none) : pdg l = (0, false) := by unfold pdg; rw [if_neg h, hd]

theorem size_list (s : ByteArray) : s.data.toList.length = s.size := by rw [Array.length_toList]; rfl

theorem byte_list (s : ByteArray) (k : Nat) (h : k < s.size) : s.data.toList[k]? = some s[k] := by
  rw [List.getElem?_eq_getElem (by rw [size_list]; exact h)]; rfl

theorem decFrom_not (l : List UInt8) (k : Nat) (b : UInt8) (hb : l[k]? = some b) (hn : Lib.digitVal b = none) : Lib.decFrom 0 l = none := by
  cases h : Lib.decFrom 0 l with
  | none => rfl
  | some n =>
    obtain ⟨d, hd⟩ := Lib.digit_of_decFrom l 0 n h k b hb
    rw [hn] at hd; cases hd

theorem digit_yes (b : UInt8) (h1 : 48 ≤ b.toNat) (h2 : b.toNat ≤ 57) : Lib.digitVal b = some (b.toNat - 48) := by unfold Lib.digitVal; rw [if_pos ⟨h1, h2⟩]
theorem digit_no (b : UInt8) (h : ¬ (48 ≤ b.toNat ∧ b.toNat ≤ 57)) : Lib.digitVal b = none := by unfold Lib.digitVal; rw [if_neg h]

set_option maxHeartbeats 400000 in
set_option maxRecDepth 100000 in
theorem pdig_long (s : ByteArray) (w : World) (hs : s.size ≤ maxLen) (hl : 19 < s.size) :
    Calls Try.prog 28 #[.string s] w fun e w' => e = .returned (.tuple #[.int .u64 (0 : Nat), .bool false]) ∧ w' = w := by
  unfold maxLen at hs
  go_enter Try.func28, Try.ntmps28
  go_wp2
  go_ret2
  exact ⟨rfl, rfl⟩

set_option maxHeartbeats 400000 in
set_option maxRecDepth 100000 in
theorem pdig_short (s : ByteArray) (w : World) (hl : s.size ≤ 19) :
    Calls Try.prog 28 #[.string s] w fun e w' => e = .returned (.tuple #[.int .u64 ((pdg s.data.toList).1 : Nat), .bool (pdg s.data.toList).2]) ∧ w' = w := by
  go_enter Try.func28, Try.ntmps28
  go_wp2
  go_loop [4, 12] (fun vm vi => ∃ k m : Nat, vi = .int .i64 k ∧ vm = .int .u64 m ∧ k ≤ s.size ∧ Lib.decFrom 0 (s.data.toList.take k) = some m) (fun _ vi => s.size - (intOf vi).toNat)
  case atStart => exact ⟨0, 0, rfl, rfl, by omega, rfl⟩
  case round =>
    obtain ⟨k, m, rfl, rfl, hk, hm⟩ := hrel
    have HM : Hid (Lib.decFrom 0 (s.data.toList.take k) = some m) := hm
    have hmb : m < 10 ^ k := by
      have h := Lib.decFrom_lt _ 0 m hm
      have hl2 : (s.data.toList.take k).length = k := by rw [List.length_take, size_list]; omega
      rw [hl2] at h; simpa using h
    clear hm
    by_cases hlt : k < s.size
    · have hb := byte_list s k hlt
      have hb256 : s[k].toNat < 256 := s[k].toNat_lt
      have hm18 : m < 1000000000000000000 := Nat.lt_of_lt_of_le hmb (Nat.le_trans (Nat.pow_le_pow_right (by decide) (show k ≤ 18 by omega)) (by decide))
      clear hmb
      by_cases hd : 48 ≤ s[k].toNat ∧ s[k].toNat ≤ 57
      · obtain ⟨hd1, hd2⟩ := hd
        have HS : Hid (Lib.decFrom 0 (s.data.toList.take (k + 1)) = some (m * 10 + (s[k].toNat - 48))) := Lib.decFrom_take _ k 0 m _ _ HM.out hb (digit_yes _ hd1 hd2)
        clear HM hb
        go_wp2
        go_round
        case rel => exact ⟨k + 1, m * 10 + (s[k].toNat - 48), by go_num, by congr 1; omega, by omega, HS.out⟩
        case measure => simp [intOf]; omega
      · have HS : Hid (pdg s.data.toList = (0, false)) := pdg_none (by rw [size_list]; omega) (decFrom_not _ k _ hb (digit_no _ hd))
        clear HM hb
        have hdd : ¬ IntKind.u8.wrap ((s[k].toNat : Int) - 48) ≤ 9 := by rw [IntKind.wrap_u8]; omega
        clear hd
        go_wp2
        go_ret2
        exact ⟨by rw [HS.out]; rfl, rfl⟩
    · have HS : Hid (pdg s.data.toList = (m, true)) := by
        refine pdg_some (by rw [size_list]; omega) ?_
        have h := HM.out
        rw [List.take_of_length_le (by rw [size_list]; omega)] at h
        exact h
      clear HM hmb
      go_wp2
      go_ret2
      exact ⟨by rw [HS.out]; rfl, rfl⟩

theorem pdig_any (s : ByteArray) (w : World) (hs : s.size ≤ maxLen) :
    Calls Try.prog 28 #[.string s] w fun e w' => e = .returned (.tuple #[.int .u64 ((pdg s.data.toList).1 : Nat), .bool (pdg s.data.toList).2]) ∧ w' = w := by
  rcases Nat.lt_or_ge 19 s.size with h | h
  · rw [pdg_long (by rw [size_list]; exact h)]
    exact pdig_long s w hs h
  · exact pdig_short s w h

/-- Does a text begin with the minus sign? -/
def neg (l : List UInt8) : Bool := l.take 1 == [45]

set_option maxHeartbeats 400000 in
set_option maxRecDepth 100000 in
theorem hasp_nil (s : ByteArray) (w : World) (hs : s.size = 0) :
    Calls Try.prog 32 #[.string s, .string ⟨#[45]⟩] w fun e w' => e = .returned (.bool (neg s.data.toList)) ∧ w' = w := by
  have hs' : ((s.size : Nat) : Int) < 1 := by omega
  have HN : Hid (neg s.data.toList = false) := by
    have : s.data.toList = [] := List.eq_nil_of_length_eq_zero (by rw [size_list]; exact hs)
    show _ = _
    rw [this]; rfl
  clear hs
  go_enter Try.func32, Try.ntmps32
  go_wp2
  go_ret
  exact ⟨by rw [HN.out]; rfl, rfl⟩

set_option maxHeartbeats 400000 in
set_option maxRecDepth 100000 in
theorem hasp_pos (s : ByteArray) (w : World) (hs : 0 < s.size) (hm : s.size ≤ maxLen) :
    Calls Try.prog 32 #[.string s, .string ⟨#[45]⟩] w fun e w' => e = .returned (.bool (neg s.data.toList)) ∧ w' = w := by
  unfold maxLen at hm
  have HN : Hid (((s.extract 0 1).toList == [45]) = neg s.data.toList) := by
    show _ = _
    rw [Lib.extract_toList]; rfl
  go_enter Try.func32, Try.ntmps32
  go_wp2
  go_ret
  exact ⟨by rw [← HN.out]; rfl, rfl⟩

theorem hasp_any (s : ByteArray) (w : World) (hm : s.size ≤ maxLen) :
    Calls Try.prog 32 #[.string s, .string ⟨#[45]⟩] w fun e w' => e = .returned (.bool (neg s.data.toList)) ∧ w' = w := by
  rcases Nat.eq_zero_or_pos s.size with h | h
  · exact hasp_nil s w h
  · exact hasp_pos s w h hm

/-- What stands behind the sign. -/
def behind (l : List UInt8) : List UInt8 := if neg l = true then l.drop 1 else l

set_option maxHeartbeats 400000 in
set_option maxRecDepth 100000 in
theorem cutl_yes (s : ByteArray) (w : World) (hm : s.size ≤ maxLen) (hn : neg s.data.toList = true) :
    Calls Try.prog 31 #[.string s, .string ⟨#[45]⟩] w fun e w' => (∃ t : ByteArray, e = .returned (.tuple #[.string t, .bool (neg s.data.toList)]) ∧ t.data.toList = behind s.data.toList ∧ t.size ≤ maxLen) ∧ w' = w := by
  have hpos : 0 < s.size := by
    rcases Nat.eq_zero_or_pos s.size with h | h
    · have : s.data.toList = [] := List.eq_nil_of_length_eq_zero (by rw [size_list]; exact h)
      rw [this] at hn; exact absurd hn (by decide)
    · exact h
  have HE : Hid ((s.extract 1 s.size).data.toList = behind s.data.toList) := by
    show _ = _
    rw [Lib.extract_data, behind, if_pos hn, List.take_of_length_le (by rw [List.length_drop, size_list]; omega)]
  have HZ : Hid ((s.extract 1 s.size).size ≤ maxLen) := by
    show _ ≤ _
    rw [← size_list, HE.out, behind, if_pos hn, List.length_drop, size_list]; omega
  have HM := hasp_any s w hm
  unfold maxLen at hm
  rw [hn] at HM ⊢
  clear hn
  go_enter Try.func31, Try.ntmps31
  go_wp2_with fail
  refine HM.mono ?_
  rintro e w' ⟨rfl, rfl⟩
  clear HM
  go_wp2
  go_ret2
  exact ⟨⟨_, rfl, HE.out, HZ.out⟩, rfl⟩

set_option maxHeartbeats 400000 in
set_option maxRecDepth 100000 in
theorem cutl_no (s : ByteArray) (w : World) (hm : s.size ≤ maxLen) (hn : neg s.data.toList = false) :
    Calls Try.prog 31 #[.string s, .string ⟨#[45]⟩] w fun e w' => (∃ t : ByteArray, e = .returned (.tuple #[.string t, .bool (neg s.data.toList)]) ∧ t.data.toList = behind s.data.toList ∧ t.size ≤ maxLen) ∧ w' = w := by
  have HE : Hid (s.data.toList = behind s.data.toList) := by
    show _ = _
    rw [behind, hn]; rfl
  have HZ : Hid (s.size ≤ maxLen) := hm
  have HM := hasp_any s w hm
  unfold maxLen at hm
  rw [hn] at HM ⊢
  clear hn
  go_enter Try.func31, Try.ntmps31
  go_wp2_with fail
  refine HM.mono ?_
  rintro e w' ⟨rfl, rfl⟩
  clear HM
  go_wp2
  go_ret2
  exact ⟨⟨_, rfl, HE.out, HZ.out⟩, rfl⟩

set_option maxHeartbeats 400000 in
set_option maxRecDepth 100000 in
theorem cut_any (s : ByteArray) (w : World) (hm : s.size ≤ maxLen) :
    Calls Try.prog 27 #[.string s, .string ⟨#[45]⟩] w fun e w' => (∃ t : ByteArray, e = .returned (.tuple #[.string t, .bool (neg s.data.toList)]) ∧ t.data.toList = behind s.data.toList ∧ t.size ≤ maxLen) ∧ w' = w := by
  have HM : Calls Try.prog 31 #[.string s, .string ⟨#[45]⟩] w fun e w' => (∃ t : ByteArray, e = .returned (.tuple #[.string t, .bool (neg s.data.toList)]) ∧ t.data.toList = behind s.data.toList ∧ t.size ≤ maxLen) ∧ w' = w := by
    cases hn : neg s.data.toList
    · have := cutl_no s w hm hn
      rw [hn] at this
      exact this
    · have := cutl_yes s w hm hn
      rw [hn] at this
      exact this
  go_enter Try.func27, Try.ntmps27
  go_wp2_with fail
  refine HM.mono ?_
  rintro e w' ⟨⟨t, rfl, ht, hz⟩, rfl⟩
  have HT : Hid (t.data.toList = behind s.data.toList) := ht
  clear HM ht
  go_wp2
  go_ret2
  exact ⟨⟨t, rfl, HT.out, hz⟩, rfl⟩

end Go.Proofs.Ytcimpibendechaa
