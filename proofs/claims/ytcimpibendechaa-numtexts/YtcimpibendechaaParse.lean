/- The function Parse of package num answers what the plain function prs says: the number whose numeral the text is, or none. -/
import Derived.Test.YtcimpibendechaaDec
namespace Go.Proofs.Ytcimpibendechaa
open Go.RowKit

/-- The number that is held against the text. -/
def pn (l : List UInt8) : Int := if neg l = true then wrap64 (-wrap64 ((pdg (behind l)).1 : Nat)) else wrap64 ((pdg (behind l)).1 : Nat)

/-- What Parse answers. -/
def prs (l : List UInt8) : Int × Bool := if (pdg (behind l)).2 = false then (0, false) else if Lib.itoa (pn l) = l then (pn l, true) else (0, false)

theorem wrap64_lo (n : Int) : -9223372036854775808 ≤ wrap64 n := by rw [wrap64_is]; omega
theorem wrap64_hi (n : Int) : wrap64 n ≤ 9223372036854775807 := by rw [wrap64_is]; omega

set_option maxHeartbeats 1000000 in
set_option maxRecDepth 100000 in
theorem parse_no (s : ByteArray) (w : World) (hm : s.size ≤ maxLen) (hd : (pdg (behind s.data.toList)).2 = false) :
    Calls Try.prog 18 #[.string s] w fun e w' => e = .returned (.tuple #[.int .i64 0, .bool false]) ∧ w' = w := by
  have HC := cut_any s w hm
  unfold maxLen at hm
  go_enter Try.func18, Try.ntmps18
  go_wp2_with fail
  refine HC.mono ?_
  rintro e w1 ⟨⟨t, rfl, ht, hz⟩, hw⟩
  rw [hw]
  have HP := pdig_any t w hz
  rw [ht, hd] at HP
  clear HC hw ht hd hz
  generalize neg s.data.toList = b
  go_wp2_with fail
  refine HP.mono ?_
  rintro e w1 ⟨rfl, hw⟩
  rw [hw]
  clear HP hw
  go_wp2
  go_ret2
  exact ⟨rfl, rfl⟩

theorem prs_yes {l : List UInt8} {z : Int} (hd : (pdg (behind l)).2 = true) (hz : pn l = z) (h : Lib.itoa z = l) : prs l = (z, true) := by
  unfold prs; rw [hd, hz]; rw [if_neg (by decide), if_pos h]
theorem prs_no {l : List UInt8} {z : Int} (hd : (pdg (behind l)).2 = true) (hz : pn l = z) (h : ¬ Lib.itoa z = l) : prs l = (0, false) := by
  unfold prs; rw [hd, hz]; rw [if_neg (by decide), if_neg h]
theorem prs_bad {l : List UInt8} (hd : (pdg (behind l)).2 = false) : prs l = (0, false) := by
  unfold prs; rw [hd]; rfl

theorem str_yes {r s : ByteArray} {z : Int} (hr : r.data.toList = Lib.itoa z) (h : Lib.itoa z = s.data.toList) : (r.toList == s.toList) = true := by
  rw [Lib.toList_data, Lib.toList_data, hr, h]; simp
theorem str_no {r s : ByteArray} {z : Int} (hr : r.data.toList = Lib.itoa z) (h : ¬ Lib.itoa z = s.data.toList) : (r.toList == s.toList) = false := by
  rw [Lib.toList_data, Lib.toList_data, hr]; simp [h]

set_option maxHeartbeats 1000000 in
set_option maxRecDepth 100000 in
theorem parse_neg (s : ByteArray) (w : World) (hm : s.size ≤ maxLen) (hd : (pdg (behind s.data.toList)).2 = true) (hn : neg s.data.toList = true) :
    Calls Try.prog 18 #[.string s] w fun e w' => e = .returned (.tuple #[.int .i64 (prs s.data.toList).1, .bool (prs s.data.toList).2]) ∧ Below w.heap.size w w' := by
  have HC := cut_any s w hm
  have HX : Hid (pn s.data.toList = wrap64 (-wrap64 ((pdg (behind s.data.toList)).1 : Nat))) := by
    show _ = _
    unfold pn; rw [if_pos hn]
  rw [hn] at HC
  unfold maxLen at hm
  go_enter Try.func18, Try.ntmps18
  go_wp2_with fail
  refine HC.mono ?_
  rintro e w1 ⟨⟨t, rfl, ht, hz⟩, hw⟩
  rw [hw]
  have HP := pdig_any t w hz
  rw [ht, hd] at HP
  have HD : Hid ((pdg (behind s.data.toList)).2 = true) := hd
  clear HC hw ht hz hd hn
  go_wp2_with fail
  refine HP.mono ?_
  rintro e w1 ⟨rfl, hw⟩
  rw [hw]
  clear HP hw
  have HQ := dec_any _ w (wrap64_lo (-wrap64 ((pdg (behind s.data.toList)).1 : Nat))) (wrap64_hi _)
  go_wp2_with fail
  refine HQ.mono ?_
  rintro e w1 ⟨r, rfl, hr, hbel⟩
  have HX2 := HX.out
  clear HQ HX
  generalize wrap64 (-wrap64 ((pdg (behind s.data.toList)).1 : Nat)) = z at hr HX2 ⊢
  by_cases h : Lib.itoa z = s.data.toList
  · have hb := str_yes hr h
    have HV : Hid (prs s.data.toList = (z, true)) := prs_yes HD.out HX2 h
    clear hr h HX2 HD
    go_wp2
    go_ret2
    exact ⟨by rw [HV.out]; rfl, hbel⟩
  · have hb := str_no hr h
    have HV : Hid (prs s.data.toList = (0, false)) := prs_no HD.out HX2 h
    clear hr h HX2 HD
    go_wp2
    go_ret2
    exact ⟨by rw [HV.out]; rfl, hbel⟩

set_option maxHeartbeats 1000000 in
set_option maxRecDepth 100000 in
theorem parse_pos (s : ByteArray) (w : World) (hm : s.size ≤ maxLen) (hd : (pdg (behind s.data.toList)).2 = true) (hn : neg s.data.toList = false) :
    Calls Try.prog 18 #[.string s] w fun e w' => e = .returned (.tuple #[.int .i64 (prs s.data.toList).1, .bool (prs s.data.toList).2]) ∧ Below w.heap.size w w' := by
  have HC := cut_any s w hm
  have HX : Hid (pn s.data.toList = wrap64 ((pdg (behind s.data.toList)).1 : Nat)) := by
    show _ = _
    unfold pn; rw [if_neg (by rw [hn]; decide)]
  rw [hn] at HC
  unfold maxLen at hm
  go_enter Try.func18, Try.ntmps18
  go_wp2_with fail
  refine HC.mono ?_
  rintro e w1 ⟨⟨t, rfl, ht, hz⟩, hw⟩
  rw [hw]
  have HP := pdig_any t w hz
  rw [ht, hd] at HP
  have HD : Hid ((pdg (behind s.data.toList)).2 = true) := hd
  clear HC hw ht hz hd hn
  go_wp2_with fail
  refine HP.mono ?_
  rintro e w1 ⟨rfl, hw⟩
  rw [hw]
  clear HP hw
  have HQ := dec_any _ w (wrap64_lo ((pdg (behind s.data.toList)).1 : Nat)) (wrap64_hi _)
  go_wp2_with fail
  refine HQ.mono ?_
  rintro e w1 ⟨r, rfl, hr, hbel⟩
  have HX2 := HX.out
  clear HQ HX
  generalize wrap64 ((pdg (behind s.data.toList)).1 : Nat) = z at hr HX2 ⊢
  by_cases h : Lib.itoa z = s.data.toList
  · have hb := str_yes hr h
    have HV : Hid (prs s.data.toList = (z, true)) := prs_yes HD.out HX2 h
    clear hr h HX2 HD
    go_wp2
    go_ret2
    exact ⟨by rw [HV.out]; rfl, hbel⟩
  · have hb := str_no hr h
    have HV : Hid (prs s.data.toList = (0, false)) := prs_no HD.out HX2 h
    clear hr h HX2 HD
    go_wp2
    go_ret2
    exact ⟨by rw [HV.out]; rfl, hbel⟩

theorem parse_any (s : ByteArray) (w : World) (hm : s.size ≤ maxLen) :
    Calls Try.prog 18 #[.string s] w fun e w' => e = .returned (.tuple #[.int .i64 (prs s.data.toList).1, .bool (prs s.data.toList).2]) ∧ Below w.heap.size w w' := by
  cases hd : (pdg (behind s.data.toList)).2
  · rw [prs_bad hd]
    exact (parse_no s w hm hd).mono fun e w' ⟨he, hw⟩ => ⟨he, by rw [hw]; exact Below.refl _ _⟩
  · cases hn : neg s.data.toList
    · exact parse_pos s w hm hd hn
    · exact parse_neg s w hm hd hn

end Go.Proofs.Ytcimpibendechaa
