/- CrcTurned: whatever the bytes, the place and the bits are, the call returns true: sealed bytes of which one is another one are not opened. -/
import Derived.Test.YtdakfgoldjkokaaSums
namespace Go.Proofs.Ytdakfgoldjkokaa
open Go.RowKit Crc

set_option maxHeartbeats 1000000 in
set_option maxRecDepth 100000 in
theorem turned_long (p : Option Addr) (n c : Nat) (x y : Int) (w : World) (hl : 3000 < n) (hn : n ≤ maxLen) :
    Calls Try.prog 6 #[.slice p n c, .int .i64 x, .int .u8 y] w fun e w' => e = .returned (.bool true) ∧ Below w.heap.size w w' := by
  unfold maxLen at hn
  have CH := heads_any w
  go_enter Try.func6, Try.ntmps6
  go_wp2_with fail
  refine CH.mono ?_
  rintro e w2 ⟨rfl, hb2⟩
  clear CH
  go_wp2
  go_ret
  exact ⟨rfl, hb2⟩

set_option maxHeartbeats 1000000 in
set_option maxRecDepth 100000 in
theorem turned_neg (p : Option Addr) (n c : Nat) (x y : Int) (w : World) (hl : n ≤ 3000) (hx : x < 0) :
    Calls Try.prog 6 #[.slice p n c, .int .i64 x, .int .u8 y] w fun e w' => e = .returned (.bool true) ∧ Below w.heap.size w w' := by
  have CH := heads_any w
  go_enter Try.func6, Try.ntmps6
  go_wp2_with fail
  refine CH.mono ?_
  rintro e w2 ⟨rfl, hb2⟩
  clear CH
  go_wp2
  go_ret
  exact ⟨rfl, hb2⟩

set_option maxHeartbeats 1000000 in
set_option maxRecDepth 100000 in
theorem turned_none (p : Option Addr) (n c : Nat) (x y : Int) (w : World) (hl : n ≤ 3000) (hx : ¬ x < 0) (hy : (y == 0) = true) :
    Calls Try.prog 6 #[.slice p n c, .int .i64 x, .int .u8 y] w fun e w' => e = .returned (.bool true) ∧ Below w.heap.size w w' := by
  have CH := heads_any w
  go_enter Try.func6, Try.ntmps6
  go_wp2_with fail
  refine CH.mono ?_
  rintro e w2 ⟨rfl, hb2⟩
  clear CH
  go_wp2
  go_ret
  exact ⟨rfl, hb2⟩

theorem bits_xor_u8 (a b : UInt8) : bits .xor .u8 (a.toNat : Int) (b.toNat : Int) = ((a ^^^ b).toNat : Int) := by
  have ha := a.toNat_lt
  have hb := b.toNat_lt
  have hx : a.toNat ^^^ b.toNat < 2 ^ 8 := Nat.xor_lt_two_pow (by omega) (by omega)
  have e : ∀ n : Nat, n < 256 → (BitVec.ofInt 8 (n : Int)).toNat = n := fun n h => by
    rw [BitVec.ofInt_natCast, BitVec.toNat_ofNat]; exact Nat.mod_eq_of_lt (by omega)
  show IntKind.u8.wrap ((BitVec.ofInt 8 (a.toNat : Int) ^^^ BitVec.ofInt 8 (b.toNat : Int)).toNat : Int) = _
  rw [BitVec.toNat_xor, e _ ha, e _ hb, IntKind.wrap_u8, UInt8.toNat_xor]
  omega

/-- What a call owns, where there is a byte. -/
theorem own_some {w : World} {B : Nat} {v : Value} {l : List UInt8} (h : w.ownsRow B 5 1 v l.length (cel l)) (hl : 0 < l.length) : ∃ g cap, v = .slice (some ⟨g, 0, none⟩) l.length cap ∧ B ≤ g ∧ l.length ≤ cap ∧ cap ≤ maxLen := by
  rcases h.2 with ⟨_, h0⟩ | ⟨g, cap, cur, rfl, hbg, _, hnc, hcm, _, _⟩
  · omega
  · exact ⟨g, cap, rfl, hbg, hnc, hcm⟩

/-- A byte of it is written. -/
theorem own_set {w : World} {B g cap : Nat} {l : List UInt8} (h : w.ownsRow B 5 1 (.slice (some ⟨g, 0, none⟩) l.length cap) l.length (cel l)) (j : Nat) (x : UInt8) :
    (w.setCell ⟨g, j, none⟩ (.int .u8 x.toNat)).ownsRow B 5 1 (.slice (some ⟨g, 0, none⟩) (l.set j x).length cap) (l.set j x).length (cel (l.set j x)) := by
  have hs := h.stored j (.int .u8 x.toNat)
  have e : cel (l.set j x) = (cel l).set j (.int .u8 x.toNat) := by simp [cel, List.map_set]
  rw [e, List.length_set]
  exact hs.1

theorem own_cell {w : World} {B g cap : Nat} {l : List UInt8} (h : w.ownsRow B 5 1 (.slice (some ⟨g, 0, none⟩) l.length cap) l.length (cel l)) (j : Nat) (hj : j < l.length) : w.cell? ⟨g, j, none⟩ = some (.int .u8 (l[j]).toNat) := by
  rw [h.cellAt j (by omega)]
  simp [cel, List.getElem?_eq_getElem hj]

set_option maxHeartbeats 2000000 in
set_option maxRecDepth 100000 in
theorem turned_ok (p : Option Addr) (c : Nat) (l : List UInt8) (m : Nat) (y : UInt8) (w : World) (h : Has w (.slice p l.length c) l) (hl : l.length ≤ 3000) (hm : (m : Int) ≤ 9223372036854775807) (hy : ((y.toNat : Int) == 0) = false) :
    Calls Try.prog 6 #[.slice p l.length c, .int .i64 m, .int .u8 y.toNat] w fun e w' => e = .returned (.bool true) ∧ Below w.heap.size w w' := by
  obtain ⟨i0, hi, hz0, hz1, hz2⟩ := info_parts info5
  have C1 := seal_has _ l (w.alloc (.cells #[] 5)) (h.later ((Below.refl _ _).alloc (Nat.le_refl _) _)) (by omega)
  clear h
  have hy256 := y.toNat_lt
  go_enter Try.func6, Try.ntmps6
  go_wp2_with fail
  refine C1.mono ?_
  rintro e w1 ⟨v1, rfl, hv1, hb1⟩
  clear C1
  have hB1 := below_on ((Below.refl _ _).alloc (Nat.le_refl _) _) hb1
  have hown1 := own_later (own_empty w w.heap.size (Nat.le_refl _)) hb1
  obtain ⟨q, cq, rfl, hrq, hpq, _, _⟩ := hv1
  have hS : run 4294967295 (l ++ le4 (sm l)) = fin := run_seal l
  have HS : Hid (run 4294967295 (l ++ le4 (sm l)) = fin) := hS
  have HLEN : Hid ((l ++ le4 (sm l)).length = l.length + 4) := by
    show _ = _
    rw [List.length_append, le4_length]
  clear hS hb1
  generalize l ++ le4 (sm l) = s at hrq hpq HS HLEN ⊢
  have hlen1 : s.length ≤ 3004 := by have := HLEN.out; omega
  have HP : Hid (q = none → s.length = 0 ∧ cq = 0) := hpq
  have HC : Hid (∀ ad, q = some ad → ∀ j u, (cel s)[j]? = some u → w1.cell? (ad.add j) = some u) := hrq.cells
  clear hpq hrq
  go_wp2_with (at_builtin; refine wpList_append_any rfl _ _ 22 rfl w.heap.size 5 i0 (.int .u8 0) 1 1 Try.underlying22 hi hz0 hz1 hz2 rfl (by decide) _ _ _ rfl hown1 q s.length cq (cel s) rfl HP.out ?c0 HC.out (cel_one s) ?c3 ?c4 ?c5 ?_)
  case c0 => rw [cel_length, Nat.mul_one]
  case c3 => unfold maxLen; omega
  case c4 => omega
  case c5 => exact hB1.size
  intro v2 w2 hown2 hg2
  have hb2 : Below w.heap.size w w2 := hB1.grown hg2 hB1.size (fun k hk => (hown1.lt k hk).1)
  have hown : w2.ownsRow w.heap.size 5 1 v2 s.length (cel s) := by simpa using hown2
  clear hown2 hg2 HC HP hown1 hB1
  obtain ⟨g, cap, rfl, hBg, hsc, hcm⟩ := own_some hown (by have := HLEN.out; omega)
  unfold maxLen at hcm
  have hj : m % s.length < s.length := Nat.mod_lt _ (by have := HLEN.out; omega)
  have hc := own_cell hown _ hj
  have hf := hown.frozenAt (m % s.length)
  have hx := bits_xor_u8 (s[m % s.length]) y
  generalize hJ : m % s.length = j at hj hc hf hx
  generalize hZ : s[j] = z at hc hx
  have hmod : (m : Int) % (s.length : Int) = (j : Int) := by omega
  have hlen2 : (s.length : Int) = (l.length : Int) + 4 := by have := HLEN.out; omega
  have hlen3 : ¬ s.length = 0 := by have := HLEN.out; omega
  go_wp2
  clear hlen2
  have hc1 : w2.drew.cell? ⟨g, j, none⟩ = some (.int .u8 z.toNat) := hc
  have hf1 : w2.drew.frozen? ⟨g, j, none⟩ = false := hf
  have hj1 : (0 : Int) ≤ (j : Int) ∧ (j : Int) < (s.length : Int) := by omega
  have HNS : Hid (sealed (s.set j (z ^^^ y)) = false) := by
    show _ = _
    have hr := run_set s 4294967295 j y hj
    rw [hZ, HS.out] at hr
    refine sealed_not _ (by rw [List.length_set, HLEN.out]; omega) _ _ (by omega) (fun h0 => ?_) hr
    rw [h0] at hy
    exact absurd hy (by decide)
  have HW := own_set hown j (z ^^^ y)
  rw [UInt8.toNat_xor] at HW
  have hv3 := (own_has HW).drew
  have hb3 : Below w.heap.size w (w2.setCell ⟨g, j, none⟩ (.int .u8 ((z.toNat ^^^ y.toNat : Nat) : Int))).drew := (hb2.setCell hBg _).drew
  have HV3 : Hid (Has (w2.setCell ⟨g, j, none⟩ (.int .u8 ((z.toNat ^^^ y.toNat : Nat) : Int))).drew (.slice (some ⟨g, 0, none⟩) s.length cap) (s.set j (z ^^^ y))) := by
    rw [List.length_set] at hv3
    exact hv3
  clear hJ hZ HW hown hv3
  go_region
  clear hc hf hc1 hf1 hx
  generalize (w2.setCell ⟨g, j, none⟩ (.int .u8 ((z.toNat ^^^ y.toNat : Nat) : Int))).drew = w3 at HV3 hb3 ⊢
  have C4 := open_none _ _ w3 HV3.out (by rw [List.length_set]; omega) (fun h => by rw [HNS.out] at h; cases h.2)
  clear HV3 HNS
  go_wp2_with fail
  refine C4.mono ?_
  rintro e w4 ⟨rfl, hb4⟩
  clear C4
  have CH := heads_any w4
  go_wp2_with fail
  refine CH.mono ?_
  rintro e w5 ⟨rfl, hb5⟩
  clear CH
  go_wp2
  go_ret
  exact ⟨rfl, below_on (below_on hb3 hb4) hb5⟩

theorem turned_walk (p : Option Addr) (c : Nat) (l : List UInt8) (x y : Int) (w : World) (h : Has w (.slice p l.length c) l) (hm : l.length ≤ maxLen) (x1 : x ≤ 9223372036854775807) (y0 : 0 ≤ y) (y1 : y ≤ 255) :
    Calls Try.prog 6 #[.slice p l.length c, .int .i64 x, .int .u8 y] w fun e w' => e = .returned (.bool true) ∧ Below w.heap.size w w' := by
  rcases Nat.lt_or_ge 3000 l.length with h2 | h2
  · exact turned_long p _ c x y w h2 hm
  · by_cases hx : x < 0
    · exact turned_neg p _ c x y w h2 hx
    · cases hy : (y == 0)
      · obtain ⟨z, rfl⟩ := u8_of y y0 y1
        obtain ⟨m, rfl⟩ : ∃ m : Nat, x = m := ⟨x.toNat, by omega⟩
        exact turned_ok p c l m z w h h2 x1 hy
      · exact turned_none p _ c x y w h2 hx hy

end Go.Proofs.Ytdakfgoldjkokaa
