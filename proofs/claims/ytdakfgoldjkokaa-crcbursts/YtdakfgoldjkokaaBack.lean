/- CrcBack: whatever the bytes are, the call returns true: what is sealed is opened, and what is opened was sealed. -/
import Derived.Test.YtdakfgoldjkokaaHeads
namespace Go.Proofs.Ytdakfgoldjkokaa
open Go.RowKit Crc

set_option maxHeartbeats 400000 in
set_option maxRecDepth 100000 in
theorem bytes_has (v u : Value) (l m : List UInt8) (w : World) (hv : Has w v l) (hu : Has w u m) :
    Calls Try.prog 15 #[v, u] w fun e w' => e = .returned (.bool (l == m)) ∧ w' = w := by
  obtain ⟨p, c, rfl, hl, _, _, _⟩ := hv
  obtain ⟨q, d, rfl, hm, _, _, _⟩ := hu
  have h1 := run_string hl c
  have h2 := run_string hm d
  clear hl hm
  go_enter Try.func15, Try.ntmps15
  go_wp2
  go_ret
  exact ⟨rfl, rfl⟩

theorem bytes_same (v u : Value) (l : List UInt8) (w : World) (hv : Has w v l) (hu : Has w u l) :
    Calls Try.prog 15 #[v, u] w fun e w' => e = .returned (.bool true) ∧ w' = w := by
  have h := bytes_has v u l l w hv hu
  rw [beq_self_eq_true] at h
  exact h

/-- What is opened was sealed. -/
theorem seal_open (l : List UInt8) (hs : sealed l = true) : l.take (l.length - 4) ++ le4 (sm (l.take (l.length - 4))) = l := by
  have h : l.drop (l.length - 4) = le4 (sm (l.take (l.length - 4))) := by simpa [sealed] using hs
  rw [← h, List.take_append_drop]

set_option maxHeartbeats 1000000 in
set_option maxRecDepth 100000 in
theorem back_long (p : Option Addr) (n c : Nat) (w : World) (hl : 3000 < n) (hn : n ≤ maxLen) :
    Calls Try.prog 5 #[.slice p n c] w fun e w' => e = .returned (.bool true) ∧ Below w.heap.size w w' := by
  unfold maxLen at hn
  have CH := heads_any w
  go_enter Try.func5, Try.ntmps5
  go_wp2_with fail
  refine CH.mono ?_
  rintro e w2 ⟨rfl, hb2⟩
  clear CH
  go_wp2
  go_ret
  exact ⟨rfl, hb2⟩

set_option maxHeartbeats 2000000 in
set_option maxRecDepth 100000 in
theorem back_ok (p : Option Addr) (c : Nat) (l : List UInt8) (w : World) (h : Has w (.slice p l.length c) l) (hl : l.length ≤ 3000) :
    Calls Try.prog 5 #[.slice p l.length c] w fun e w' => e = .returned (.bool true) ∧ Below w.heap.size w w' := by
  have HL : Hid (Has w (.slice p l.length c) l) := h
  have C1 := seal_has _ l w h (by omega)
  clear h
  go_enter Try.func5, Try.ntmps5
  go_wp2_with fail
  refine C1.mono ?_
  rintro e w1 ⟨v1, rfl, hv1, hb1⟩
  clear C1
  have C2 := open_any v1 _ w1 hv1 (by rw [List.length_append, le4_length]; omega) ⟨by rw [List.length_append, le4_length]; omega, sealed_seal l⟩
  rw [take_seal] at C2
  clear hv1
  go_wp2_with fail
  refine C2.mono ?_
  rintro e w2 ⟨v2, rfl, hv2, hb2⟩
  clear C2
  replace hb2 := below_on hb1 hb2
  clear hb1
  by_cases hs : 4 ≤ l.length ∧ sealed l = true
  · have C3 := open_any _ l w2 (HL.out.later hb2) (by omega) hs
    go_wp2_with fail
    refine C3.mono ?_
    rintro e w3 ⟨v3, rfl, hv3, hb3⟩
    clear C3
    replace hv2 := hv2.later hb3
    replace hb3 := below_on hb2 hb3
    clear hb2
    have C4 := seal_has v3 _ w3 hv3 (by rw [List.length_take]; omega)
    rw [seal_open l hs.2] at C4
    clear hv3 hs
    go_wp2_with fail
    refine C4.mono ?_
    rintro e w4 ⟨v4, rfl, hv4, hb4⟩
    clear C4
    replace hv2 := hv2.later hb4
    replace hb4 := below_on hb3 hb4
    clear hb3
    have C5 := bytes_same v4 _ l w4 hv4 (HL.out.later hb4)
    go_wp2_with fail
    refine C5.mono ?_
    rintro e w5 ⟨rfl, hw⟩
    rw [hw]
    clear C5 hw hv4
    have C6 := bytes_same v2 _ l w4 hv2 (HL.out.later hb4)
    have CH := heads_any w4
    go_wp2_with fail
    refine C6.mono ?_
    rintro e w5 ⟨rfl, hw⟩
    rw [hw]
    clear C6 hw hv2
    go_wp2_with fail
    refine CH.mono ?_
    rintro e w6 ⟨rfl, hb6⟩
    clear CH
    go_wp2
    go_ret
    exact ⟨rfl, below_on hb4 hb6⟩
  · have C3 := open_none _ l w2 (HL.out.later hb2) (by omega) hs
    go_wp2_with fail
    refine C3.mono ?_
    rintro e w3 ⟨rfl, hb3⟩
    clear C3
    replace hv2 := hv2.later hb3
    replace hb3 := below_on hb2 hb3
    clear hb2 hs
    have C6 := bytes_same v2 _ l w3 hv2 (HL.out.later hb3)
    have CH := heads_any w3
    go_wp2_with fail
    refine C6.mono ?_
    rintro e w5 ⟨rfl, hw⟩
    rw [hw]
    clear C6 hw hv2
    go_wp2_with fail
    refine CH.mono ?_
    rintro e w6 ⟨rfl, hb6⟩
    clear CH
    go_wp2
    go_ret
    exact ⟨rfl, below_on hb3 hb6⟩

theorem back_walk (p : Option Addr) (c : Nat) (l : List UInt8) (w : World) (h : Has w (.slice p l.length c) l) (hm : l.length ≤ maxLen) :
    Calls Try.prog 5 #[.slice p l.length c] w fun e w' => e = .returned (.bool true) ∧ Below w.heap.size w w' := by
  rcases Nat.lt_or_ge 3000 l.length with h2 | h2
  · exact back_long p _ c w h2 hm
  · exact back_ok p c l w h h2

end Go.Proofs.Ytdakfgoldjkokaa
