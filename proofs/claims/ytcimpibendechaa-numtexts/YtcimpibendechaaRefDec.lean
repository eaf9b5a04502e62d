/- The document's answers digits and Dec give the decimal numeral of a number, and turn nothing that was there. -/
import Derived.Test.YtcimpibendechaaHas
import Derived.Test.YtcimpibendechaaNumeral
namespace Go.Proofs.Ytcimpibendechaa
open Go.RowKit

theorem one_string (w : World) (b : UInt8) (z : Int) (hz : z = (b.toNat : Int)) :
    (convert 22 9 (.slice (some ⟨w.heap.size, 0, none⟩) 1 1)).run Try.prog (w.alloc (.cells #[.int .u8 z] 5)) = .ok (.string ⟨#[b]⟩) (w.alloc (.cells #[.int .u8 z] 5)) := by
  subst hz
  obtain ⟨p, c, hv, hr, _⟩ := built_has w [b] #[.int .u8 b.toNat] rfl (by unfold maxLen; simp)
  have h := run_string hr c
  rw [← hv] at h
  exact h

theorem cons_bytes (b : UInt8) (t : ByteArray) : ((⟨#[b]⟩ : ByteArray) ++ t).data.toList = b :: t.data.toList := by
  have h := ByteArray.mk_append_mk [b] t.data.toList
  have e : (⟨t.data.toList.toArray⟩ : ByteArray) = t := by cases t; simp
  rw [e] at h
  have h2 := congrArg (fun x : ByteArray => x.data.toList) h
  exact h2

theorem ofNat_toNat (k : Nat) (h : k < 10) : ((UInt8.ofNat (48 + k)).toNat : Int) = 48 + (k : Int) := by
  rw [UInt8.toNat_ofNat']; omega

set_option maxHeartbeats 1000000 in
set_option maxRecDepth 100000 in
theorem digits_any (M : Nat) (w : World) (hM : M < 18446744073709551616) :
    Calls Try.prog 30 #[.int .u64 M] w fun e w' => ∃ s : ByteArray, e = .returned (.string s) ∧ s.data.toList = Lib.decDigits M ∧ Below w.heap.size w w' := by
  have h20 : (Lib.decDigits M).length ≤ 20 := by rw [Lib.decDigits_length]; exact Lib.nDigits_le20 M hM
  go_enter Try.func30, Try.ntmps30
  go_wp2
  go_loopw [0, 3] (fun vu vs wr => ∃ (x : Nat) (t : ByteArray), vu = .int .u64 x ∧ vs = .string t ∧ x ≤ M ∧ Lib.decDigits M = Lib.decDigits x ++ t.data.toList ∧ Below w.heap.size w wr) (fun vu _ _ => (intOf vu).toNat)
  case atStart => exact ⟨M, ⟨#[]⟩, rfl, rfl, Nat.le_refl _, by simp, Below.refl _ _⟩
  case round =>
    obtain ⟨x, t, rfl, rfl, hx, heq, hbel⟩ := hrel
    have hts : t.size ≤ 20 := by
      have h1 := congrArg List.length heq
      rw [List.length_append, size_list] at h1
      omega
    have HQ : Hid (Lib.decDigits M = Lib.decDigits x ++ t.data.toList) := heq
    clear heq
    by_cases h10 : 10 ≤ x
    · have hcv := one_string wr (UInt8.ofNat (48 + x % 10)) (48 + (x : Int) % 10) (by rw [ofNat_toNat _ (by omega)]; omega)
      have R1 : Below w.heap.size w (wr.alloc (.cells #[.int .u8 (48 + (x : Int) % 10)] 5)) := hbel.alloc hbel.size _
      have R2 : Hid (Lib.decDigits M = Lib.decDigits (x / 10) ++ ((⟨#[UInt8.ofNat (48 + x % 10)]⟩ : ByteArray) ++ t).data.toList) := by
        show _ = _
        rw [HQ.out, decDigits_big (by omega), cons_bytes, List.append_assoc]; rfl
      generalize UInt8.ofNat (48 + x % 10) = b at hcv R2
      clear HQ hbel
      go_wp2
      go_roundw
      case rel => exact ⟨x / 10, _, by go_num, rfl, by omega, R2.out, R1⟩
      case measure => simp [intOf]; omega
    · have hcv := one_string wr (UInt8.ofNat (48 + x)) (48 + (x : Int)) (by rw [ofNat_toNat _ (by omega)])
      have R1 : Below w.heap.size w (wr.alloc (.cells #[.int .u8 (48 + (x : Int))] 5)) := hbel.alloc hbel.size _
      have R2 : Hid (((⟨#[UInt8.ofNat (48 + x)]⟩ : ByteArray) ++ t).data.toList = Lib.decDigits M) := by
        show _ = _
        rw [HQ.out, decDigits_small (by omega), cons_bytes]; rfl
      generalize UInt8.ofNat (48 + x) = b at hcv R2
      clear HQ hbel
      go_wp2
      go_ret
      exact ⟨_, rfl, R2.out, R1⟩

set_option maxHeartbeats 1000000 in
set_option maxRecDepth 100000 in
theorem rdec_neg (n : Int) (w : World) (h0 : -9223372036854775808 ≤ n) (hn : n < 0) :
    Calls Try.prog 21 #[.int .i64 n] w fun e w' => ∃ s : ByteArray, e = .returned (.string s) ∧ s.data.toList = Lib.itoa n ∧ Below w.heap.size w w' := by
  have HI : Hid (Lib.itoa n = 45 :: Lib.decDigits n.natAbs) := by
    show _ = _
    unfold Lib.itoa; rw [if_pos hn]
  have hM : n.natAbs < 18446744073709551616 := by omega
  have HC := digits_any n.natAbs w hM
  have h20 : (Lib.decDigits n.natAbs).length ≤ 20 := by rw [Lib.decDigits_length]; exact Lib.nDigits_le20 _ hM
  have hab : ((n.natAbs : Nat) : Int) = -1 - n + 1 := by omega
  rw [hab] at HC
  clear hab hM
  go_enter Try.func21, Try.ntmps21
  go_wp2_with fail
  refine HC.mono ?_
  rintro e w1 ⟨t, rfl, ht, hb⟩
  have hts : t.size ≤ 20 := by rw [← size_list, ht]; exact h20
  have R : Hid (((⟨#[45]⟩ : ByteArray) ++ t).data.toList = Lib.itoa n) := by
    show _ = _
    rw [cons_bytes, ht, HI.out]
  clear HC ht HI h20
  go_wp2
  go_ret
  exact ⟨_, rfl, R.out, hb⟩

set_option maxHeartbeats 1000000 in
set_option maxRecDepth 100000 in
theorem rdec_pos (n : Int) (w : World) (h0 : 0 ≤ n) (hn : n ≤ 9223372036854775807) :
    Calls Try.prog 21 #[.int .i64 n] w fun e w' => ∃ s : ByteArray, e = .returned (.string s) ∧ s.data.toList = Lib.itoa n ∧ Below w.heap.size w w' := by
  obtain ⟨M, rfl⟩ := Int.eq_ofNat_of_zero_le h0
  have HI : Hid (Lib.itoa (M : Int) = Lib.decDigits M) := Lib.itoa_nonneg M
  have HC := digits_any M w (by omega)
  go_enter Try.func21, Try.ntmps21
  go_wp2_with fail
  refine HC.mono ?_
  rintro e w1 ⟨t, rfl, ht, hb⟩
  have R : Hid (t.data.toList = Lib.itoa (M : Int)) := by
    show _ = _
    rw [ht, HI.out]
  clear HC ht HI
  go_wp2
  go_ret
  exact ⟨_, rfl, R.out, hb⟩

theorem rdec_any (n : Int) (w : World) (h0 : -9223372036854775808 ≤ n) (h1 : n ≤ 9223372036854775807) :
    Calls Try.prog 21 #[.int .i64 n] w fun e w' => ∃ s : ByteArray, e = .returned (.string s) ∧ s.data.toList = Lib.itoa n ∧ Below w.heap.size w w' := by
  rcases Int.lt_or_le n 0 with h | h
  · exact rdec_neg n w h0 h
  · exact rdec_pos n w h h1

end Go.Proofs.Ytcimpibendechaa
