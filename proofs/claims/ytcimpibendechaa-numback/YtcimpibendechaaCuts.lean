/- NumCuts: for every number and every place the call returns true: a number that is cut short is told as short. -/
import Derived.Test.YtcimpibendechaaHeads
namespace Go.Proofs.Ytcimpibendechaa
open Go.RowKit

theorem enc_len (n : Int) (h0 : -9223372036854775808 ≤ n) (h1 : n ≤ 9223372036854775807) : 1 ≤ (Num.enc n).length ∧ (Num.enc n).length ≤ 10 :=
  ⟨Lib.uvarint_pos _, Lib.uvarint_length64 (Lib.zigzag_lt h0 h1)⟩

set_option maxHeartbeats 1000000 in
set_option maxRecDepth 100000 in
theorem cuts_neg (n a : Int) (w : World) (h0 : -9223372036854775808 ≤ n) (h1 : n ≤ 9223372036854775807) (ha : a < 0) :
    Calls Try.prog 3 #[.int .i64 n, .int .i64 a] w fun e w' => e = .returned (.bool true) ∧ Below w.heap.size w w' := by
  have C1 := put_has _ [] n w (nil_has w) (by simp) h0 h1
  rw [List.nil_append] at C1
  obtain ⟨hl1, hl2⟩ := enc_len n h0 h1
  generalize Num.enc n = l at C1 hl1 hl2
  go_enter Try.func3, Try.ntmps3
  go_wp2_with fail
  refine C1.mono ?_
  rintro e w1 ⟨v1, rfl, hv1, hb1⟩
  clear C1
  obtain ⟨p, c, rfl, hr, hpc, hlc, hcm⟩ := hv1
  clear hr hpc hcm
  have hz : ((l.length : Int) == 0) = false := beq_eq_false_iff_ne.2 (by omega)
  have hp : (0 : Int) < (l.length : Int) := by omega
  have CH := heads_any w1
  go_wp2_with fail
  refine CH.mono ?_
  rintro e w2 ⟨rfl, hb2⟩
  replace hb2 := below_on hb1 hb2
  clear CH
  go_wp2
  go_ret
  exact ⟨rfl, hb2⟩

set_option maxHeartbeats 1000000 in
set_option maxRecDepth 100000 in
theorem cuts_pos (n : Int) (m : Nat) (w : World) (h0 : -9223372036854775808 ≤ n) (h1 : n ≤ 9223372036854775807) (hm : (m : Int) ≤ 9223372036854775807) :
    Calls Try.prog 3 #[.int .i64 n, .int .i64 m] w fun e w' => e = .returned (.bool true) ∧ Below w.heap.size w w' := by
  have C1 := put_has _ [] n w (nil_has w) (by simp) h0 h1
  rw [List.nil_append] at C1
  obtain ⟨hl1, hl2⟩ := enc_len n h0 h1
  have hcut : ∀ j, j < (Num.enc n).length → Num.rd ((Num.enc n).take j) = (0, 0, 5) := fun j hj => Num.rd_cut _ j (Lib.zigzag_lt h0 h1) hj
  have HC := hcut (m % (Num.enc n).length) (Nat.mod_lt _ (by omega))
  clear hcut
  generalize Num.enc n = l at C1 hl1 hl2 HC
  go_enter Try.func3, Try.ntmps3
  go_wp2_with fail
  refine C1.mono ?_
  rintro e w1 ⟨v1, rfl, hv1, hb1⟩
  clear C1
  obtain ⟨p, c, rfl, hr, hpc, hlc, hcm⟩ := hv1
  have hz : ((l.length : Int) == 0) = false := beq_eq_false_iff_ne.2 (by omega)
  have hp : (0 : Int) < (l.length : Int) := by omega
  have hm0 : (0 : Int) ≤ (m : Int) := by omega
  have hj : (m : Int) % (l.length : Int) = ((m % l.length : Nat) : Int) := by simp
  have hjl : m % l.length < l.length := Nat.mod_lt _ (by omega)
  have hr2 := hr.take (m % l.length)
  have C2 : Calls Try.prog 10 #[.slice p (m % l.length) c] w1 fun e w' => e = .returned (.tuple #[.int .i64 0, .slice none 0 0, .int .i64 5]) ∧ w' = w1 := by
    have h := get_bad p c (l.take (m % l.length)) 5 w1 hr2 (by rw [List.length_take]; omega) HC rfl
    rw [List.length_take, Nat.min_eq_left (by omega)] at h
    exact h
  clear hr hpc hr2 HC
  unfold maxLen at hcm
  generalize m % l.length = j at hj hjl C2
  go_wp2_with fail
  refine C2.mono ?_
  rintro e w2 ⟨rfl, hw⟩
  rw [hw]
  clear C2 hw
  have CH := heads_any w1
  go_wp2_with fail
  refine CH.mono ?_
  rintro e w2 ⟨rfl, hb2⟩
  replace hb2 := below_on hb1 hb2
  clear CH
  go_wp2
  go_ret
  exact ⟨rfl, hb2⟩

theorem cuts_walk (n a : Int) (w : World) (h0 : -9223372036854775808 ≤ n) (h1 : n ≤ 9223372036854775807) (ha : a ≤ 9223372036854775807) :
    Calls Try.prog 3 #[.int .i64 n, .int .i64 a] w fun e w' => e = .returned (.bool true) ∧ Below w.heap.size w w' := by
  rcases Int.lt_or_le a 0 with h | h
  · exact cuts_neg n a w h0 h1 h
  · obtain ⟨m, rfl⟩ := Int.eq_ofNat_of_zero_le h
    exact cuts_pos n m w h0 h1 ha

end Go.Proofs.Ytcimpibendechaa
