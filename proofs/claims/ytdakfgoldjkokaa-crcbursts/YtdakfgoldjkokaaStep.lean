/- The function Step of package crc, its mover and what the mover makes: one byte taken in, as the plain mathematics says. -/
import Derived.Test.YtdakfgoldjkokaaBase
import Derived.Test.YtdakfgoldjkokaaMath
namespace Go.Proofs.Ytdakfgoldjkokaa
open Go.RowKit Crc

theorem u32_nat (n : Nat) (h : n < 4294967296) : (BitVec.ofInt 32 (n : Int)).toNat = n := by
  rw [BitVec.ofInt_natCast, BitVec.toNat_ofNat]; exact Nat.mod_eq_of_lt (by omega)

theorem bits_xor_u32 (a b : Nat) (ha : a < 4294967296) (hb : b < 4294967296) : bits .xor .u32 (a : Int) (b : Int) = ((a ^^^ b : Nat) : Int) := by
  have hx : a ^^^ b < 2 ^ 32 := Nat.xor_lt_two_pow (by omega) (by omega)
  show IntKind.u32.wrap ((BitVec.ofInt 32 (a : Int) ^^^ BitVec.ofInt 32 (b : Int)).toNat : Int) = _
  rw [BitVec.toNat_xor, u32_nat a ha, u32_nat b hb, IntKind.wrap_u32]
  omega

theorem bits_and_one (a : Nat) (ha : a < 4294967296) : bits .and .u32 (a : Int) 1 = ((a % 2 : Nat) : Int) := by
  have hx : a &&& 1 = a % 2 := Nat.and_one_is_mod a
  show IntKind.u32.wrap ((BitVec.ofInt 32 (a : Int) &&& BitVec.ofInt 32 ((1 : Nat) : Int)).toNat : Int) = _
  rw [BitVec.toNat_and, u32_nat a ha, u32_nat 1 (by decide), hx, IntKind.wrap_u32]
  omega

theorem move_xor (x : Nat) (hx : x < 4294967296) (hodd : x % 2 = 1) : bits .xor .u32 ((x : Int) / 2) 3988292384 = ((mv x : Nat) : Int) := by
  have h := bits_xor_u32 (x / 2) 3988292384 (by omega) (by decide)
  unfold mv
  rw [if_pos hodd, ← h]
  rfl

set_option maxHeartbeats 400000 in
set_option maxRecDepth 100000 in
theorem move_any (x B : Nat) (w : World) (hx : x < 4294967296) (hc : w.cell? ⟨B, 0, none⟩ = some (.int .u32 3988292384)) :
    Calls Try.prog 20 #[.int .u32 x, .pointer (some ⟨B, 0, none⟩)] w fun e w' => e = .returned (.int .u32 (mv x : Nat)) ∧ w' = w := by
  have h1 := bits_and_one x hx
  rcases Nat.mod_two_eq_zero_or_one x with h2 | h2
  · rw [h2] at h1
    have h3 : (x : Int) / 2 = ((mv x : Nat) : Int) := by unfold mv; rw [if_neg (by omega)]; omega
    clear h2
    go_enter Try.func20, Try.ntmps20
    go_wp2
    go_ret
    exact ⟨by rw [← h3]; rfl, rfl⟩
  · have h3 := move_xor x hx h2
    rw [h2] at h1
    clear h2
    go_enter Try.func20, Try.ntmps20
    go_wp2
    go_ret
    exact ⟨by rw [← h3]; rfl, rfl⟩

theorem mvs_last (n x : Nat) : mvs (n + 1) x = mv (mvs n x) := by rw [mvs_add]; rfl

set_option maxHeartbeats 400000 in
set_option maxRecDepth 100000 in
theorem mover_any (w : World) :
    Calls Try.prog 18 #[.int .u32 3988292384] w fun e w' => e = .returned (.func (.func 20) #[] #[.pointer (some ⟨w.heap.size, 0, none⟩)]) ∧ w' = w.alloc (.cells #[.int .u32 3988292384] 24) := by
  have hmf : ∀ (fn : Fn) (first cap : Array Value) (w : World), (Instr.makeFunc fn first cap).run Try.prog w = .ok (.func fn first cap) w := fun _ _ _ _ => rfl
  go_enter Try.func18, Try.ntmps18
  go_wp2
  go_ret
  exact ⟨rfl, rfl⟩

set_option maxHeartbeats 1000000 in
set_option maxRecDepth 100000 in
theorem step_any (x : Nat) (c : UInt8) (w : World) (hx : x < 4294967296) :
    Calls Try.prog 10 #[.int .u32 x, .int .u8 c.toNat] w fun e w' => e = .returned (.int .u32 (stp x c.toNat : Nat)) ∧ Below w.heap.size w w' := by
  have hlt := c.toNat_lt
  have h1 := bits_xor_u32 x c.toNat hx (by omega)
  have HLT : Hid (x ^^^ c.toNat < 4294967296) := Nat.xor_lt_two_pow (n := 32) hx (by omega)
  have HB : Hid (Below w.heap.size w (w.alloc (.cells #[.int .u32 3988292384] 24))) := (Below.refl _ _).alloc (Nat.le_refl _) _
  have HC : Hid ((w.alloc (.cells #[.int .u32 3988292384] 24)).cell? ⟨w.heap.size, 0, none⟩ = some (.int .u32 3988292384)) := cell_of_one (heap_alloc_new w _)
  have CM := mover_any w
  go_enter Try.func10, Try.ntmps10
  go_wp2_with fail
  refine CM.mono ?_
  rintro e w1 ⟨rfl, hw⟩
  rw [hw]
  clear CM hw
  generalize w.alloc (.cells #[.int .u32 3988292384] 24) = w1 at HB HC ⊢
  generalize w.heap.size = B at HC ⊢
  go_wp2
  generalize hy : x ^^^ c.toNat = y at HLT ⊢
  have HY : Hid (stp x c.toNat = mvs 8 y) := by
    show _ = _
    unfold stp; rw [hy]
  clear hy h1
  go_loop [0, 11] (fun vx vi => ∃ k : Nat, vi = .int .i64 k ∧ vx = .int .u32 (mvs k y : Nat) ∧ k ≤ 8) (fun _ vi => 8 - (intOf vi).toNat)
  case atStart => exact ⟨0, rfl, rfl, by omega⟩
  case round =>
    obtain ⟨k, rfl, rfl, hk⟩ := hrel
    by_cases h8 : k < 8
    · have C1 := move_any (mvs k y) B w1 (mvs_lt k HLT.out) HC.out
      rw [← mvs_last] at C1
      go_wp2_with (go_at_call 20; refine C1.mono ?_; rintro e w2 ⟨rfl, hw⟩; rw [hw])
      clear C1
      go_round
      case rel => exact ⟨k + 1, by go_num, rfl, by omega⟩
      case measure => simp [intOf]; omega
    · obtain rfl : k = 8 := by omega
      go_wp2
      go_ret
      exact ⟨by rw [HY.out]; rfl, HB.out⟩

end Go.Proofs.Ytdakfgoldjkokaa
