/- NumOne: whatever the bytes are, the call returns true: bytes that are read are those that the number has. -/
import Derived.Test.YtcimpibendechaaCuts
namespace Go.Proofs.Ytcimpibendechaa
open Go.RowKit

theorem put_new (n : Int) (w : World) (h0 : -9223372036854775808 ≤ n) (h1 : n ≤ 9223372036854775807) (l : List UInt8) (hl : l = Num.enc n) :
    Calls Try.prog 8 #[.slice none 0 0, .int .i64 n] w fun e w' => ∃ v', e = .returned v' ∧ Has w' v' l ∧ Below w.heap.size w w' := by
  have h := put_has _ [] n w (nil_has w) (by simp) h0 h1
  rw [List.nil_append, ← hl] at h
  exact h

theorem bytes_same (v u : Value) (l : List UInt8) (w : World) (hv : Has w v l) (hu : Has w u l) :
    Calls Try.prog 14 #[v, u] w fun e w' => e = .returned (.bool true) ∧ w' = w := by
  have h := bytes_has v u l l w hv hu
  rw [beq_self_eq_true] at h
  exact h

theorem Has.drew {w : World} {v : Value} {l : List UInt8} (h : Has w v l) : Has w.drew v l := h.later (Below.refl _ _).drew

theorem unz_lo {x : Nat} (hx : x < 18446744073709551616) : -9223372036854775808 ≤ Num.unz x := by unfold Num.unz; split <;> omega
theorem unz_hi {x : Nat} (hx : x < 18446744073709551616) : Num.unz x ≤ 9223372036854775807 := by unfold Num.unz; split <;> omega

set_option maxHeartbeats 1000000 in
set_option maxRecDepth 100000 in
theorem one_long (p : Option Addr) (len c : Nat) (w : World) (hl : 1000 < len) (hm : len ≤ maxLen) :
    Calls Try.prog 7 #[.slice p len c] w fun e w' => e = .returned (.bool true) ∧ Below w.heap.size w w' := by
  unfold maxLen at hm
  have CH := heads_any w
  go_enter Try.func7, Try.ntmps7
  go_wp2_with fail
  refine CH.mono ?_
  rintro e w2 ⟨rfl, hb2⟩
  clear CH
  go_wp2
  go_ret
  exact ⟨rfl, hb2⟩

set_option maxHeartbeats 1000000 in
set_option maxRecDepth 100000 in
theorem one_bad (p : Option Addr) (c : Nat) (l : List UInt8) (w : World) (hv : Has w (.slice p l.length c) l) (hl : l.length ≤ 1000) (er : Int) (hrd : Num.rd l = (0, 0, er)) (he : (er != 0) = true) :
    Calls Try.prog 7 #[.slice p l.length c] w fun e w' => e = .returned (.bool true) ∧ Below w.heap.size w w' := by
  have C1 := getbad_has _ l er w hv (by omega) hrd he
  have CH := heads_any w
  clear hv hrd
  go_enter Try.func7, Try.ntmps7
  go_wp2_with fail
  refine C1.mono ?_
  rintro e w2 ⟨rfl, hw⟩
  rw [hw]
  clear C1 hw
  go_wp2_with fail
  refine CH.mono ?_
  rintro e w2 ⟨rfl, hb2⟩
  clear CH
  go_wp2
  go_ret
  exact ⟨rfl, hb2⟩

set_option maxHeartbeats 2000000 in
set_option maxRecDepth 100000 in
theorem one_ok (p : Option Addr) (c : Nat) (l : List UInt8) (w : World) (hv : Has w (.slice p l.length c) l) (hl : l.length ≤ 1000) (x z : Nat) (hrd : Num.rd l = (x, z, 0)) :
    Calls Try.prog 7 #[.slice p l.length c] w fun e w' => e = .returned (.bool true) ∧ Below w.heap.size w w' := by
  have C1 := get_has _ l x z w hv (by omega) hrd
  have h1 := Num.rd_one l (by rw [hrd])
  rw [hrd] at h1
  obtain ⟨ht, hx, hz1, hz⟩ := h1
  simp only at ht hx hz1 hz
  have HT : Hid (l.take z = Num.enc (Num.unz x)) := by
    show _ = _
    rw [ht]; unfold Num.enc; rw [Num.zigzag_unz]
  have hn0 := unz_lo hx
  have hn1 := unz_hi hx
  have HV : Hid (Has w (.slice p z c) (l.take z)) := by
    obtain ⟨p', c', e, hr, hpc, hlc, hcm⟩ := hv
    cases e
    refine ⟨p, c, by rw [List.length_take, Nat.min_eq_left hz], hr.take z, fun h => ?_, by rw [List.length_take]; omega, hcm⟩
    have := hpc h
    rw [List.length_take]; omega
  have hlc : l.length ≤ c := by
    obtain ⟨p', c', e, hr, hpc, hlc, hcm⟩ := hv
    cases e; exact hlc
  clear hv hrd ht
  generalize Num.unz x = n at C1 HT hn0 hn1
  go_enter Try.func7, Try.ntmps7
  go_wp2_with fail
  refine C1.mono ?_
  rintro e w1 ⟨v1, rfl, hv1, hb1⟩
  clear C1
  obtain ⟨q, d, rfl, _, _, _, _⟩ := hv1
  have HV1 : Hid (Has w1.drew (.slice p z c) (l.take z)) := (HV.out.later hb1).drew
  clear HV
  rw [List.length_drop]
  have hzz : IntKind.i64.wrap ((l.length : Int) - ((l.length - z : Nat) : Int)) = (z : Int) := by rw [IntKind.wrap_i64]; omega
  have hi1 : (0 : Int) ≤ (z : Int) := by omega
  have hi2 : (z : Int) ≤ (c : Int) := by omega
  go_wp2_with fail
  go_region_held3 (fun w' => True) (trivial)
    (first | (go_at_call 8; refine (put_new n _ hn0 hn1 _ HT.out).mono ?_; rintro e w2 ⟨v2, rfl, hv2, hb2⟩) | (go_at_call 14; refine (bytes_same _ _ _ _ hv2 (HV1.out.later hb2)).mono ?_; rintro e w3 ⟨rfl, rfl⟩) | (go_at_call 9; refine (heads_any _).mono ?_; rintro e w4 ⟨rfl, hb4⟩))
  go_wp2
  go_ret
  exact ⟨rfl, below_on (below_on hb1.drew hb2) hb4⟩

theorem one_walk (p : Option Addr) (c : Nat) (l : List UInt8) (w : World) (hv : Has w (.slice p l.length c) l) (hm : l.length ≤ maxLen) :
    Calls Try.prog 7 #[.slice p l.length c] w fun e w' => e = .returned (.bool true) ∧ Below w.heap.size w w' := by
  rcases Nat.lt_or_ge 1000 l.length with h | h
  · exact one_long p l.length c w h hm
  · by_cases h0 : (Num.rd l).2.2 = 0
    · exact one_ok p c l w hv h (Num.rd l).1 (Num.rd l).2.1 (by rw [← h0])
    · have hb := Num.rd_bad l h0
      exact one_bad p c l w hv h (Num.rd l).2.2 (Prod.ext hb.1 (Prod.ext hb.2 rfl)) (by simpa using h0)

end Go.Proofs.Ytcimpibendechaa
