/- CrcBursts: whatever the bytes, the place and the bits are, the call returns true: sealed bytes of which bits within 32 side by side are turned are not opened. -/
import Derived.Test.YtdakfgoldjkokaaTurned
namespace Go.Proofs.Ytdakfgoldjkokaa
open Go.RowKit Crc

set_option maxHeartbeats 1000000 in
set_option maxRecDepth 100000 in
theorem bursts_long (p : Option Addr) (n c : Nat) (x y : Int) (w : World) (hl : 3000 < n) (hn : n ≤ maxLen) :
    Calls Try.prog 7 #[.slice p n c, .int .i64 x, .int .u32 y] w fun e w' => e = .returned (.bool true) ∧ Below w.heap.size w w' := by
  unfold maxLen at hn
  have CH := heads_any w
  go_enter Try.func7, Try.ntmps7
  go_wp2_with fail
  refine CH.mono ?_
  rintro e w2 ⟨rfl, hb2⟩
  clear CH
  go_wp2
  go_ret
  exact ⟨rfl, hb2⟩

set_option maxHeartbeats 1000000 in
set_option maxRecDepth 100000 in
theorem bursts_neg (p : Option Addr) (n c : Nat) (x y : Int) (w : World) (hl : n ≤ 3000) (hx : x < 0) :
    Calls Try.prog 7 #[.slice p n c, .int .i64 x, .int .u32 y] w fun e w' => e = .returned (.bool true) ∧ Below w.heap.size w w' := by
  have CH := heads_any w
  go_enter Try.func7, Try.ntmps7
  go_wp2_with fail
  refine CH.mono ?_
  rintro e w2 ⟨rfl, hb2⟩
  clear CH
  go_wp2
  go_ret
  exact ⟨rfl, hb2⟩

set_option maxHeartbeats 1000000 in
set_option maxRecDepth 100000 in
theorem bursts_none (p : Option Addr) (n c : Nat) (x y : Int) (w : World) (hl : n ≤ 3000) (hx : ¬ x < 0) (hy : (y == 0) = true) :
    Calls Try.prog 7 #[.slice p n c, .int .i64 x, .int .u32 y] w fun e w' => e = .returned (.bool true) ∧ Below w.heap.size w w' := by
  have CH := heads_any w
  go_enter Try.func7, Try.ntmps7
  go_wp2_with fail
  refine CH.mono ?_
  rintro e w2 ⟨rfl, hb2⟩
  clear CH
  go_wp2
  go_ret
  exact ⟨rfl, hb2⟩

theorem pow_byte (e : Nat) (h : e < 8) : ∃ u : UInt8, (2 : Int) ^ e % 256 = (u.toNat : Int) ∧ u.toNat = 2 ^ e := by
  have hlt : 2 ^ e < 256 := Nat.pow_lt_pow_right (by decide) h
  refine ⟨(2 ^ e).toUInt8, ?_, ?_⟩
  · rw [ofNat_mod, Int.natCast_emod, Int.natCast_pow]; rfl
  · rw [ofNat_mod, Nat.mod_eq_of_lt hlt]

set_option maxHeartbeats 4000000 in
set_option maxRecDepth 100000 in
theorem bursts_ok (p : Option Addr) (c : Nat) (l : List UInt8) (m y : Nat) (w : World) (h : Has w (.slice p l.length c) l) (hl : l.length ≤ 3000) (hm : (m : Int) ≤ 9223372036854775807) (hy : ((y : Int) == 0) = false) (hy32 : y < 4294967296) :
    Calls Try.prog 7 #[.slice p l.length c, .int .i64 m, .int .u32 y] w fun e w' => e = .returned (.bool true) ∧ Below w.heap.size w w' := by
  obtain ⟨i0, hi, hz0, hz1, hz2⟩ := info_parts info5
  have C1 := seal_has _ l (w.alloc (.cells #[] 5)) (h.later ((Below.refl _ _).alloc (Nat.le_refl _) _)) (by omega)
  clear h
  go_enter Try.func7, Try.ntmps7
  go_wp2_with fail
  refine C1.mono ?_
  rintro e w1 ⟨v1, rfl, hv1, hb1⟩
  clear C1
  have hB1 := below_on ((Below.refl _ _).alloc (Nat.le_refl _) _) hb1
  have hown1 := own_later (own_empty w w.heap.size (Nat.le_refl _)) hb1
  obtain ⟨q, cq, rfl, hrq, hpq, _, _⟩ := hv1
  have hS : run 4294967295 (l ++ le4 (sm l)) = fin := run_seal l
  have HS : Hid (run 4294967295 (l ++ le4 (sm l)) = fin) := hS
  have HLEN : Hid ((l ++ le4 (sm l)).length = l.length + 4) := by
    show _ = _
    rw [List.length_append, le4_length]
  clear hS hb1
  generalize l ++ le4 (sm l) = s at hrq hpq HS HLEN ⊢
  have hlen1 : s.length ≤ 3004 := by have := HLEN.out; omega
  have HP : Hid (q = none → s.length = 0 ∧ cq = 0) := hpq
  have HC : Hid (∀ ad, q = some ad → ∀ j u, (cel s)[j]? = some u → w1.cell? (ad.add j) = some u) := hrq.cells
  clear hpq hrq
  go_wp2_with (at_builtin; refine wpList_append_any rfl _ _ 22 rfl w.heap.size 5 i0 (.int .u8 0) 1 1 Try.underlying22 hi hz0 hz1 hz2 rfl (by decide) _ _ _ rfl hown1 q s.length cq (cel s) rfl HP.out ?c0 HC.out (cel_one s) ?c3 ?c4 ?c5 ?_)
  case c0 => rw [cel_length, Nat.mul_one]
  case c3 => unfold maxLen; omega
  case c4 => omega
  case c5 => exact hB1.size
  intro v2 w2 hown2 hg2
  have hb2 : Below w.heap.size w w2 := hB1.grown hg2 hB1.size (fun k hk => (hown1.lt k hk).1)
  have hown : w2.ownsRow w.heap.size 5 1 v2 s.length (cel s) := by simpa using hown2
  clear hown2 hg2 HC HP hown1 hB1
  obtain ⟨g, cap, rfl, hBg, hsc, hcm⟩ := own_some hown (by have := HLEN.out; omega)
  unfold maxLen at hcm
  have hlen2 : (s.length : Int) = (l.length : Int) + 4 := by have := HLEN.out; omega
  have hn4 : 4 ≤ s.length := by have := HLEN.out; omega
  have HO : Hid (w2.ownsRow w.heap.size 5 1 (.slice (some ⟨g, 0, none⟩) s.length cap) s.length (cel s)) := hown
  clear hown
  have hf1 : m % (8 * s.length - 31) < 8 * s.length - 31 := Nat.mod_lt _ (by omega)
  have hfe : (m : Int) % (8 * ((l.length : Int) + 4) - 31) = ((m % (8 * s.length - 31) : Nat) : Int) := by
    have e : 8 * ((l.length : Int) + 4) - 31 = ((8 * s.length - 31 : Nat) : Int) := by have := HLEN.out; omega
    rw [e]; rfl
  generalize m % (8 * s.length - 31) = f at hf1 hfe
  go_wp2
  rw [hfe]
  have HY : Hid (((y : Int) == 0) = false) := hy
  clear hfe hm hlen2 hy
  have R0 : run 4294967295 s = fin ^^^ mvs (8 * s.length - f) (y % 2 ^ 0) := by
    rw [HS.out, Nat.pow_zero, Nat.mod_one, mvs_nil, Nat.xor_zero]
  generalize hn : s.length = n at *
  go_loopw [2, 9] (fun vb vi wr => ∃ (k : Nat) (t : List UInt8), vi = .int .i64 k ∧ vb = .int .u32 (y / 2 ^ k : Nat) ∧ k ≤ 32 ∧ t.length = n ∧ wr.ownsRow w.heap.size 5 1 (.slice (some ⟨g, 0, none⟩) n cap) n (cel t) ∧ run 4294967295 t = fin ^^^ mvs (8 * n - f) (y % 2 ^ k) ∧ Below w.heap.size w wr) (fun _ vi _ => 32 - (intOf vi).toNat)
  case atStart => exact ⟨0, s, rfl, by simp, by omega, hn, HO.out, R0, hb2⟩
  case round =>
    obtain ⟨k, t, rfl, rfl, hk, ht, hown, hrun, hbel⟩ := hrel
    clear R0 HO hb2
    by_cases h32 : k < 32
    · have HB : Hid (y % 2 ^ (k + 1) = _) := mod_bit y k
      have HD : Hid (y / 2 ^ k / 2 = y / 2 ^ (k + 1)) := by
        show _ = _
        rw [Nat.div_div_eq_div_mul, ← Nat.pow_succ]
      have hz : y / 2 ^ k < 4294967296 := Nat.lt_of_le_of_lt (Nat.div_le_self _ _) hy32
      have HRUN : Hid (run 4294967295 t = fin ^^^ mvs (8 * n - f) (y % 2 ^ k)) := hrun
      have HT : Hid (t.length = n) := ht
      clear hrun ht
      generalize hzz : y / 2 ^ k = z at HB HD hz ⊢
      rcases Nat.mod_two_eq_zero_or_one z with h2 | h2
      · have h2' : ((z : Int) % 2 == 1) = false := by simp; omega
        have HR2 : Hid (run 4294967295 t = fin ^^^ mvs (8 * n - f) (y % 2 ^ (k + 1))) := by
          show _ = _
          rw [HRUN.out, HB.out, if_neg (by omega), Nat.xor_zero]
        have HO2 : Hid (wr.ownsRow w.heap.size 5 1 (.slice (some ⟨g, 0, none⟩) n cap) n (cel t)) := hown
        clear h2 HRUN HB hown hzz
        go_wp2
        go_roundw
        case rel => exact ⟨k + 1, t, by go_num, by rw [← HD.out]; rfl, by omega, HT.out, HO2.out, HR2.out, hbel⟩
        case measure => simp [intOf]; omega
      · have h2' : ((z : Int) % 2 == 1) = true := by simp; omega
        have hj : (f + k) / 8 < t.length := by have := HT.out; omega
        have hown' : wr.ownsRow w.heap.size 5 1 (.slice (some ⟨g, 0, none⟩) t.length cap) t.length (cel t) := by rw [HT.out]; exact hown
        have hc := own_cell hown' _ hj
        have hfr := hown'.frozenAt ((f + k) / 8)
        generalize hd : t[(f + k) / 8] = d at hc
        have HD2 : Hid (t[(f + k) / 8] = d) := hd
        obtain ⟨u, hu, hun⟩ := pow_byte ((f + k) % 8) (Nat.mod_lt _ (by decide))
        have HX : Hid (bits .xor .u8 (d.toNat : Int) ((2 : Int) ^ ((f + k) % 8) % 256) = ((d ^^^ u).toNat : Int)) := by
          show _ = _
          rw [hu]; exact bits_xor_u8 d u
        have HO3 := own_set hown' ((f + k) / 8) (d ^^^ u)
        have HO2 : Hid ((wr.setCell ⟨g, (f + k) / 8, none⟩ (.int .u8 ((d ^^^ u).toNat : Int))).ownsRow w.heap.size 5 1 (.slice (some ⟨g, 0, none⟩) n cap) n (cel (t.set ((f + k) / 8) (d ^^^ u)))) := by
          rw [List.length_set, HT.out] at HO3
          exact HO3
        have HR2 : Hid (run 4294967295 (t.set ((f + k) / 8) (d ^^^ u)) = fin ^^^ mvs (8 * n - f) (y % 2 ^ (k + 1))) := by
          show _ = _
          have hr := run_set t 4294967295 ((f + k) / 8) u hj
          rw [HD2.out, HRUN.out, HT.out, hun, turn_bit n (f + k) f k rfl (by omega), Nat.xor_assoc, ← mvs_xor] at hr
          rw [hr, HB.out, if_pos h2]
        have HB3 : Hid (Below w.heap.size w (wr.setCell ⟨g, (f + k) / 8, none⟩ (.int .u8 ((d ^^^ u).toNat : Int)))) := hbel.setCell hBg _
        clear hd hown HO3 hu hun hown' HRUN HB HD2 h2 hzz
        go_wp2
        rw [HX.out]
        go_roundw
        case rel => exact ⟨k + 1, _, by go_num, by rw [← HD.out]; rfl, by omega, by rw [List.length_set]; exact HT.out, HO2.out, HR2.out, HB3.out⟩
        case measure => simp [intOf]; omega
    · obtain rfl : k = 32 := by omega
      have hNS : sealed t = false := sealed_not t (by omega) (8 * n - f) y hy32 (fun h0 => by have := HY.out; rw [h0] at this; exact absurd this (by decide)) (by rw [hrun, Nat.mod_eq_of_lt (show y < 2 ^ 32 from hy32)])
      have hv : Has wr (.slice (some ⟨g, 0, none⟩) n cap) t := own_has (B := w.heap.size) (by rw [ht]; exact hown)
      have C4 := open_none _ _ wr hv (by omega) (fun h => by rw [hNS] at h; cases h.2)
      clear hv hNS hown hrun ht
      go_wp2_with fail
      refine C4.mono ?_
      rintro e w4 ⟨rfl, hb4⟩
      clear C4
      have CH := heads_any w4
      go_wp2_with fail
      refine CH.mono ?_
      rintro e w5 ⟨rfl, hb5⟩
      clear CH
      go_wp2
      go_ret
      exact ⟨rfl, below_on (below_on hbel hb4) hb5⟩

theorem bursts_walk (p : Option Addr) (c : Nat) (l : List UInt8) (x y : Int) (w : World) (h : Has w (.slice p l.length c) l) (hm : l.length ≤ maxLen) (x1 : x ≤ 9223372036854775807) (y0 : 0 ≤ y) (y1 : y ≤ 4294967295) :
    Calls Try.prog 7 #[.slice p l.length c, .int .i64 x, .int .u32 y] w fun e w' => e = .returned (.bool true) ∧ Below w.heap.size w w' := by
  rcases Nat.lt_or_ge 3000 l.length with h2 | h2
  · exact bursts_long p _ c x y w h2 hm
  · by_cases hx : x < 0
    · exact bursts_neg p _ c x y w h2 hx
    · cases hy : (y == 0)
      · obtain ⟨z, rfl, hz⟩ := u32_of y y0 y1
        obtain ⟨m, rfl⟩ : ∃ m : Nat, x = m := ⟨x.toNat, by omega⟩
        exact bursts_ok p c l m z w h h2 x1 hy hz
      · exact bursts_none p _ c x y w h2 hx hy

end Go.Proofs.Ytdakfgoldjkokaa
