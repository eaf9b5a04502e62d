/- CrcSums: whatever the bytes, the state and the byte are, the call returns true: the program's answers are the document's. -/
import Derived.Test.YtdakfgoldjkokaaRef
namespace Go.Proofs.Ytdakfgoldjkokaa
open Go.RowKit Crc

/-- What Open answers. -/
def opened (l : List UInt8) : List UInt8 × Bool := if 4 ≤ l.length ∧ sealed l = true then (l.take (l.length - 4), true) else ([], false)

theorem open_all (v : Value) (l : List UInt8) (w : World) (h : Has w v l) (hl : l.length ≤ 100000) :
    Calls Try.prog 11 #[v] w fun e w' => ∃ v', e = .returned (.tuple #[v', .bool (opened l).2]) ∧ Has w' v' (opened l).1 ∧ Below w.heap.size w w' := by
  by_cases hs : 4 ≤ l.length ∧ sealed l = true
  · unfold opened; rw [if_pos hs]; exact open_any v l w h hl hs
  · unfold opened; rw [if_neg hs]
    exact (open_none v l w h hl hs).mono fun e w' ⟨he, hb⟩ => ⟨_, he, nil_has w', hb⟩

theorem refopen_all (v : Value) (l : List UInt8) (w : World) (h : Has w v l) (hl : l.length ≤ 100000) :
    Calls Try.prog 12 #[v] w fun e w' => ∃ v', e = .returned (.tuple #[v', .bool (opened l).2]) ∧ Has w' v' (opened l).1 ∧ Below w.heap.size w w' := by
  by_cases hs : 4 ≤ l.length ∧ sealed l = true
  · unfold opened; rw [if_pos hs]; exact refopen_any v l w h hl hs
  · unfold opened; rw [if_neg hs]
    exact (refopen_none v l w h hl hs).mono fun e w' ⟨he, hb⟩ => ⟨_, he, nil_has w', hb⟩

set_option maxHeartbeats 1000000 in
set_option maxRecDepth 100000 in
theorem sums_long (p : Option Addr) (n c : Nat) (x y : Int) (w : World) (hl : 3000 < n) (hn : n ≤ maxLen) :
    Calls Try.prog 4 #[.slice p n c, .int .u32 x, .int .u8 y] w fun e w' => e = .returned (.bool true) ∧ Below w.heap.size w w' := by
  unfold maxLen at hn
  have CH := heads_any w
  go_enter Try.func4, Try.ntmps4
  go_wp2_with fail
  refine CH.mono ?_
  rintro e w2 ⟨rfl, hb2⟩
  clear CH
  go_wp2
  go_ret
  exact ⟨rfl, hb2⟩

set_option maxHeartbeats 2000000 in
set_option maxRecDepth 100000 in
theorem sums_ok (p : Option Addr) (c : Nat) (l : List UInt8) (x : Nat) (y : UInt8) (w : World) (h : Has w (.slice p l.length c) l) (hl : l.length ≤ 3000) (hx : x < 4294967296) :
    Calls Try.prog 4 #[.slice p l.length c, .int .u32 x, .int .u8 y.toNat] w fun e w' => e = .returned (.bool true) ∧ Below w.heap.size w w' := by
  have HL : Hid (Has w (.slice p l.length c) l) := h
  have C1 := open_all _ l w h (by omega)
  clear h
  go_enter Try.func4, Try.ntmps4
  go_wp2_with fail
  refine C1.mono ?_
  rintro e w1 ⟨v1, rfl, hv1, hb1⟩
  clear C1
  have C2 := refopen_all _ l w1 (HL.out.later hb1) (by omega)
  go_wp2_with fail
  refine C2.mono ?_
  rintro e w2 ⟨v2, rfl, hv2, hb2⟩
  clear C2
  generalize (opened l).1 = body at hv1 hv2
  generalize (opened l).2 = r
  replace hv1 := hv1.later hb2
  replace hb2 := below_on hb1 hb2
  clear hb1
  have C3 := sum_any _ l w2 (HL.out.later hb2) (by omega)
  go_wp2_with fail
  refine C3.mono ?_
  rintro e w3 ⟨rfl, hb3⟩
  clear C3
  replace hv1 := hv1.later hb3
  replace hv2 := hv2.later hb3
  replace hb3 := below_on hb2 hb3
  clear hb2
  have C4 := refsum_any _ l w3 (HL.out.later hb3) (by omega)
  go_wp2_with fail
  refine C4.mono ?_
  rintro e w4 ⟨rfl, hw⟩
  rw [hw]
  clear C4 hw
  have C5 := step_any x y w3 hx
  go_wp2_with fail
  refine C5.mono ?_
  rintro e w5 ⟨rfl, hb5⟩
  clear C5
  replace hv1 := hv1.later hb5
  replace hv2 := hv2.later hb5
  replace hb5 := below_on hb3 hb5
  clear hb3
  have C6 := refstep_any x y w5 hx
  go_wp2_with fail
  refine C6.mono ?_
  rintro e w6 ⟨rfl, hw⟩
  rw [hw]
  clear C6 hw
  have C7 := seal_has _ l w5 (HL.out.later hb5) (by omega)
  go_wp2_with fail
  refine C7.mono ?_
  rintro e w7 ⟨v7, rfl, hv7, hb7⟩
  clear C7
  replace hv1 := hv1.later hb7
  replace hv2 := hv2.later hb7
  replace hb7 := below_on hb5 hb7
  clear hb5
  have C8 := refseal_has _ l w7 (HL.out.later hb7) (by omega)
  go_wp2_with fail
  refine C8.mono ?_
  rintro e w8 ⟨v8, rfl, hv8, hb8⟩
  clear C8
  replace hv1 := hv1.later hb8
  replace hv2 := hv2.later hb8
  replace hv7 := hv7.later hb8
  replace hb8 := below_on hb7 hb8
  clear hb7
  have C9 := bytes_same v7 v8 _ w8 hv7 hv8
  go_wp2_with fail
  refine C9.mono ?_
  rintro e w9 ⟨rfl, hw⟩
  rw [hw]
  clear C9 hw hv7 hv8
  have C10 := bytes_same v1 v2 _ w8 hv1 hv2
  go_wp2_with fail
  refine C10.mono ?_
  rintro e w9 ⟨rfl, hw⟩
  rw [hw]
  clear C10 hw hv1 hv2
  have CH := heads_any w8
  have hrr : (r == r) = true := beq_self_eq_true r
  go_wp2_with fail
  refine CH.mono ?_
  rintro e w10 ⟨rfl, hb10⟩
  clear CH
  go_wp2
  go_ret
  exact ⟨rfl, below_on hb8 hb10⟩

theorem u8_of (y : Int) (h0 : 0 ≤ y) (h1 : y ≤ 255) : ∃ c : UInt8, y = (c.toNat : Int) := ⟨y.toNat.toUInt8, by simp; omega⟩
theorem u32_of (y : Int) (h0 : 0 ≤ y) (h1 : y ≤ 4294967295) : ∃ c : Nat, y = (c : Int) ∧ c < 4294967296 := ⟨y.toNat, by omega, by omega⟩

theorem sums_walk (p : Option Addr) (c : Nat) (l : List UInt8) (x y : Int) (w : World) (h : Has w (.slice p l.length c) l) (hm : l.length ≤ maxLen) (x0 : 0 ≤ x) (x1 : x ≤ 4294967295) (y0 : 0 ≤ y) (y1 : y ≤ 255) :
    Calls Try.prog 4 #[.slice p l.length c, .int .u32 x, .int .u8 y] w fun e w' => e = .returned (.bool true) ∧ Below w.heap.size w w' := by
  rcases Nat.lt_or_ge 3000 l.length with h2 | h2
  · exact sums_long p _ c x y w h2 hm
  · obtain ⟨z, rfl⟩ := u8_of y y0 y1
    obtain ⟨q, rfl, hq⟩ := u32_of x x0 x1
    exact sums_ok p c l q z w h h2 hq

end Go.Proofs.Ytdakfgoldjkokaa
