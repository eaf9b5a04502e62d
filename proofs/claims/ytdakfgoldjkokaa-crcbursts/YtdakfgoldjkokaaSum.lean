/- The functions Sum, split and Seal of package crc: what they answer, and that nothing that was there is turned. -/
import Derived.Test.YtdakfgoldjkokaaStep
namespace Go.Proofs.Ytdakfgoldjkokaa
open Go.RowKit Crc

theorem run_last (x : Nat) (l : List UInt8) (k : Nat) (hk : k < l.length) : run x (l.take (k + 1)) = stp (run x (l.take k)) l[k].toNat := by
  rw [List.take_succ_eq_append_getElem hk, run_append]; rfl

theorem not_sm (l : List UInt8) : bits .xor .u32 IntKind.u32.max (run 4294967295 l : Nat) = ((sm l : Nat) : Int) := by
  have h1 := run_lt l (x := 4294967295) (by decide)
  have h2 := bits_xor_u32 4294967295 (run 4294967295 l) (by decide) h1
  have h3 := not_xor h1
  rw [Nat.xor_comm] at h3
  rw [← xor_same h3] at h2
  exact h2

set_option maxHeartbeats 1000000 in
set_option maxRecDepth 100000 in
theorem sum_any (v : Value) (l : List UInt8) (w : World) (h : Has w v l) (hl : l.length ≤ 100000) :
    Calls Try.prog 9 #[v] w fun e w' => e = .returned (.int .u32 (sm l : Nat)) ∧ Below w.heap.size w w' := by
  obtain ⟨p, c, rfl, hr, _, _, _⟩ := h
  have HR : Hid (Row w p l) := hr
  clear hr
  go_enter Try.func9, Try.ntmps9
  go_wp2
  go_loopw [3, 8] (fun vx vi wr => ∃ k : Nat, vi = .int .i64 k ∧ vx = .int .u32 (run 4294967295 (l.take k) : Nat) ∧ k ≤ l.length ∧ Below w.heap.size w wr) (fun _ vi _ => l.length - (intOf vi).toNat)
  case atStart => exact ⟨0, rfl, rfl, by omega, Below.refl _ _⟩
  case round =>
    obtain ⟨k, rfl, rfl, hk, hb⟩ := hrel
    by_cases hlt : k < l.length
    · obtain ⟨b, o, rfl, hcell⟩ := (HR.out.later hb) (by omega)
      have hc := hcell k hlt
      have C1 := step_any (run 4294967295 (l.take k)) l[k] wr (run_lt _ (by decide))
      rw [← run_last _ _ _ hlt] at C1
      clear hcell HR
      generalize l[k] = d at hc C1
      go_wp2_with (go_at_call 10; refine C1.mono ?_; rintro e w2 ⟨rfl, hb2⟩)
      clear C1
      go_roundw
      case rel => exact ⟨k + 1, by go_num, rfl, by omega, below_on hb hb2⟩
      case measure => simp [intOf]; omega
    · obtain rfl : k = l.length := by omega
      rw [List.take_length] at *
      have h1 := run_lt l (x := 4294967295) (by decide)
      go_wp2
      go_ret
      exact ⟨by rw [← not_sm l]; rfl, hb⟩

/-- The four bytes of a sum, as an array. -/
def arr4 (s : Nat) : Value := .agg (cel (le4 s)).toArray

theorem arr4_is (s : Nat) (hs : s < 4294967296) : arr4 s = .agg #[.int .u8 ((s : Int) % 256), .int .u8 ((s : Int) / 256 % 256), .int .u8 ((s : Int) / 65536 % 256), .int .u8 ((s : Int) / 16777216)] := by
  have e : ((s : Int) / 16777216) = (s : Int) / 16777216 % 256 := by omega
  rw [e]
  simp [arr4, le4, cel]

set_option maxHeartbeats 1000000 in
set_option maxRecDepth 100000 in
theorem split_any (s : Nat) (w : World) (hs : s < 4294967296) :
    Calls Try.prog 19 #[.int .u32 s] w fun e w' => e = .returned (arr4 s) ∧ Below w.heap.size w w' := by
  have HE : Hid (arr4 s = _) := arr4_is s hs
  go_enter Try.func19, Try.ntmps19
  go_wp2
  refine bodyPost_ret (v := .agg #[.int .u8 ((s : Int) % 256), .int .u8 ((s : Int) / 256 % 256), .int .u8 ((s : Int) / 65536 % 256), .int .u8 ((s : Int) / 16777216)]) (by simp [results, Try.results19, go_sem]) rfl ⟨by rw [HE.out], (Below.refl _ _).alloc (Nat.le_refl _) _⟩

end Go.Proofs.Ytdakfgoldjkokaa
