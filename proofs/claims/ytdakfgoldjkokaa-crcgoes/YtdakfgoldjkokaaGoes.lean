/- CrcGoes: whatever the two slices of bytes are, the call returns true: a sum goes on from that of what is ahead. -/
import Derived.Test.YtdakfgoldjkokaaHeads
namespace Go.Proofs.Ytdakfgoldjkokaa
open Go.RowKit Crc

set_option maxHeartbeats 1000000 in
set_option maxRecDepth 100000 in
theorem goes_long1 (p q : Option Addr) (n m c d : Nat) (w : World) (hl : 2000 < n) (hn : n ≤ maxLen) :
    Calls Try.prog 3 #[.slice p n c, .slice q m d] w fun e w' => e = .returned (.bool true) ∧ Below w.heap.size w w' := by
  unfold maxLen at hn
  have CH := heads_any w
  go_enter Try.func3, Try.ntmps3
  go_wp2_with fail
  refine CH.mono ?_
  rintro e w2 ⟨rfl, hb2⟩
  clear CH
  go_wp2
  go_ret
  exact ⟨rfl, hb2⟩

set_option maxHeartbeats 1000000 in
set_option maxRecDepth 100000 in
theorem goes_long2 (p q : Option Addr) (n m c d : Nat) (w : World) (hn : n ≤ 2000) (hl : 2000 < m) (hm : m ≤ maxLen) :
    Calls Try.prog 3 #[.slice p n c, .slice q m d] w fun e w' => e = .returned (.bool true) ∧ Below w.heap.size w w' := by
  unfold maxLen at hm
  have CH := heads_any w
  go_enter Try.func3, Try.ntmps3
  go_wp2_with fail
  refine CH.mono ?_
  rintro e w2 ⟨rfl, hb2⟩
  clear CH
  go_wp2
  go_ret
  exact ⟨rfl, hb2⟩

set_option maxHeartbeats 2000000 in
set_option maxRecDepth 100000 in
theorem goes_ok (p q : Option Addr) (c d : Nat) (a b : List UInt8) (w : World) (ha : Has w (.slice p a.length c) a) (hb : Has w (.slice q b.length d) b) (hla : a.length ≤ 2000) (hlb : b.length ≤ 2000) :
    Calls Try.prog 3 #[.slice p a.length c, .slice q b.length d] w fun e w' => e = .returned (.bool true) ∧ Below w.heap.size w w' := by
  obtain ⟨i0, hi, hz0, hz1, hz2⟩ := info_parts info5
  have HA : Hid (Has w (.slice p a.length c) a) := ha
  have HB : Hid (Has w (.slice q b.length d) b) := hb
  have C1 := sum_any _ a w ha (by omega)
  have h1 : (4294967295 : Int) - (sm a : Nat) = (run 4294967295 a : Nat) := by
    have := run_lt a (x := 4294967295) (by decide)
    unfold sm; omega
  have hs1 := sm_lt a
  clear ha hb
  go_enter Try.func3, Try.ntmps3
  go_wp2_with fail
  refine C1.mono ?_
  rintro e w1 ⟨rfl, hb1⟩
  clear C1
  go_wp2
  go_loopw [5, 6] (fun vx vi wr => ∃ k : Nat, vi = .int .i64 k ∧ vx = .int .u32 (run (run 4294967295 a) (b.take k) : Nat) ∧ k ≤ b.length ∧ Below w.heap.size w wr) (fun _ vi _ => b.length - (intOf vi).toNat)
  case atStart => exact ⟨0, rfl, rfl, by omega, hb1⟩
  case round =>
    obtain ⟨k, rfl, rfl, hk, hbr⟩ := hrel
    clear hb1
    by_cases hlt : k < b.length
    · obtain ⟨q', d', e, hr, _, _, _⟩ := HB.out.later hbr
      cases e
      obtain ⟨bb, oo, rfl, hcell⟩ := hr (by omega)
      have hc := hcell k hlt
      have C1 := step_any (run (run 4294967295 a) (b.take k)) b[k] wr (run_lt _ (run_lt _ (by decide)))
      rw [← run_last _ _ _ hlt] at C1
      clear hcell hr HB HA h1 hs1
      generalize b[k] = x at hc C1
      go_wp2_with (go_at_call 10; refine C1.mono ?_; rintro e w2 ⟨rfl, hb2⟩)
      clear C1
      go_roundw
      case rel => exact ⟨k + 1, by go_num, rfl, by omega, below_on hbr hb2⟩
      case measure => simp [intOf]; omega
    · obtain rfl : k = b.length := by omega
      rw [List.take_length]
      clear h1 hs1
      have h2 : (4294967295 : Int) - (run (run 4294967295 a) b : Nat) = (sm (a ++ b) : Nat) := by
        have := run_lt (a ++ b) (x := 4294967295) (by decide)
        unfold sm; rw [← run_append]; omega
      have hs2 := sm_lt (a ++ b)
      have hr2 := run_lt b (run_lt a (x := 4294967295) (by decide))
      have HA2 : Hid (Has wr (.slice p a.length c) a) := HA.out.later hbr
      have HA3 : Hid (Has (wr.alloc (.cells #[] 5)) (.slice p a.length c) a) := HA2.out.later ((Below.refl _ _).alloc (Nat.le_refl _) _)
      have HPa : Hid (p = none → a.length = 0 ∧ c = 0) := by
        obtain ⟨p', c', e, _, hpc, _, _⟩ := HA2.out
        cases e; exact hpc
      have HPb : Hid (q = none → b.length = 0 ∧ d = 0) := by
        obtain ⟨p', c', e, _, hpc, _, _⟩ := HB.out
        cases e; exact hpc
      have HCa : Hid (∀ ad, p = some ad → ∀ j u, (cel a)[j]? = some u → (wr.alloc (.cells #[] 5)).cell? (ad.add j) = some u) := by
        obtain ⟨p', c', e, hr, _, _, _⟩ := HA3.out
        cases e; exact hr.cells
      clear HA HA2 HA3
      go_wp2_with (at_builtin; refine wpList_append_any rfl _ _ 22 rfl w.heap.size 5 i0 (.int .u8 0) 1 1 Try.underlying22 hi hz0 hz1 hz2 rfl (by decide) _ _ _ rfl (own_empty wr _ hbr.size) p a.length c (cel a) rfl HPa.out ?c0 HCa.out (cel_one a) ?c3 ?c4 ?c5 ?_)
      case c0 => rw [cel_length, Nat.mul_one]
      case c3 => unfold maxLen; omega
      case c4 => omega
      case c5 => have := hbr.size; simp; omega
      intro v3 w3 hown3 hg3
      have hb3 : Below w.heap.size w w3 := (hbr.alloc hbr.size _).grown hg3 (by have := hbr.size; simp; omega) (fun k hk => by cases hk; exact hbr.size)
      have HCb : Hid (∀ ad, q = some ad → ∀ j u, (cel b)[j]? = some u → w3.cell? (ad.add j) = some u) := by
        obtain ⟨p', c', e, hr, _, _, _⟩ := HB.out.later hb3
        cases e; exact hr.cells
      clear hg3 HCa HPa hbr HB
      go_wp2_with (at_builtin; refine wpList_append_any rfl _ _ 22 rfl w.heap.size 5 i0 (.int .u8 0) 1 1 Try.underlying22 hi hz0 hz1 hz2 rfl (by decide) _ _ _ rfl hown3 q b.length d (cel b) rfl HPb.out ?c0 HCb.out (cel_one b) ?c3 ?c4 ?c5 ?_)
      case c0 => rw [cel_length, Nat.mul_one]
      case c3 => unfold maxLen; omega
      case c4 => omega
      case c5 => exact hb3.size
      intro v4 w4 hown4 hg4
      have hb4 : Below w.heap.size w w4 := hb3.grown hg4 hb3.size (fun k hk => (hown3.lt k hk).1)
      have hv4 := own_join (l := a) (r := b) (by simpa using hown4)
      clear hown4 hg4 hown3 HCb HPb hb3
      have C5 := sum_any v4 _ w4 hv4 (by rw [List.length_append]; omega)
      clear hv4
      go_wp2_with fail
      refine C5.mono ?_
      rintro e w5 ⟨rfl, hb5⟩
      clear C5
      have CH := heads_any w5
      go_wp2_with fail
      refine CH.mono ?_
      rintro e w6 ⟨rfl, hb6⟩
      clear CH
      go_wp2
      go_ret
      exact ⟨rfl, below_on (below_on hb4 hb5) hb6⟩

theorem goes_walk (p q : Option Addr) (c d : Nat) (a b : List UInt8) (w : World) (ha : Has w (.slice p a.length c) a) (hb : Has w (.slice q b.length d) b) (hma : a.length ≤ maxLen) (hmb : b.length ≤ maxLen) :
    Calls Try.prog 3 #[.slice p a.length c, .slice q b.length d] w fun e w' => e = .returned (.bool true) ∧ Below w.heap.size w w' := by
  rcases Nat.lt_or_ge 2000 a.length with h | h
  · exact goes_long1 p q _ _ c d w h hma
  · rcases Nat.lt_or_ge 2000 b.length with h2 | h2
    · exact goes_long2 p q _ _ c d w h h2 hmb
    · exact goes_ok p q c d a b w ha hb h h2

end Go.Proofs.Ytdakfgoldjkokaa
