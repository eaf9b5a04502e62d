import Derived.Test.YtjjncmenkepcoaaP9
import Derived.Lib.SlBytesConst
import Derived.Test.YtjjncmenkepcoaaP3
import Derived.Test.YtjjncmenkepcoaaP4
/- The statements' own examples, over the program's calls. -/
namespace Go.Proofs.Ytjjncmenkepcoaa
open Go.RowKit

theorem tm0 : Tm h0 := ⟨by decide, by decide, by decide, by decide, by decide, by decide⟩
theorem tm1 : Tm h1 := ⟨by decide, by decide, by decide, by decide, by decide, by decide⟩
theorem tm2 : Tm h2 := ⟨by decide, by decide, by decide, by decide, by decide, by decide⟩
theorem tm3 : Tm h3 := ⟨by decide, by decide, by decide, by decide, by decide, by decide⟩
theorem tm4 : Tm h4 := ⟨by decide, by decide, by decide, by decide, by decide, by decide⟩
theorem tm5 : Tm h5 := ⟨by decide, by decide, by decide, by decide, by decide, by decide⟩
theorem tm6 : Tm h6 := ⟨by decide, by decide, by decide, by decide, by decide, by decide⟩
theorem tm7 : Tm h7 := ⟨by decide, by decide, by decide, by decide, by decide, by decide⟩
theorem lit_db (w : World) (l : List UInt8) (cs : Array Value) (fr : Nat × Nat) (hcs : cs.toList = cel l) (hm : l.length ≤ maxLen) : DB (w.alloc (.cells cs 5 fr)) (.slice (some ⟨w.heap.size, 0, none⟩) l.length l.length) l :=
  ⟨hm, by rw [cel_length]; omega, .inr ⟨_, _, rfl, ⟨Nat.le_refl _, hm⟩, fun _ => ⟨_, _, rfl, fun j u hu => by
    rw [Nat.zero_add, cell_of_row (w.alloc (.cells cs 5 fr)) w.heap.size j cs 5 fr (heap_alloc_new w _), ← Array.getElem?_toList, hcs]
    exact hu⟩⟩⟩
theorem lit_ts (w : World) (l : List ByteArray) (cs : Array Value) (hcs : cs.toList = sts l) (hm : l.length ≤ maxLen) : THas (w.alloc (.cells cs 9)) (.slice (some ⟨w.heap.size, 0, none⟩) l.length l.length) l :=
  ⟨hm, by rw [sts_length]; omega, .inr ⟨_, _, rfl, ⟨Nat.le_refl _, hm⟩, fun _ => ⟨_, _, rfl, fun j u hu => by
    rw [Nat.zero_add, cell_of_row _ _ j _ 9 (0, 0) (heap_alloc_last w _), ← Array.getElem?_toList, hcs]
    exact hu⟩⟩⟩
set_option maxHeartbeats 16000000 in
set_option maxRecDepth 100000 in
theorem heads_any (K : Prk) (w : World) : Calls Try.prog 6 #[] w (Tells (.bool true) w) := by
  obtain ⟨D0, E0⟩ := hid_ex h0
  obtain ⟨D1, E1⟩ := hid_ex h1
  obtain ⟨D2, E2⟩ := hid_ex h2
  obtain ⟨D3, E3⟩ := hid_ex h3
  obtain ⟨D4, E4⟩ := hid_ex h4
  obtain ⟨D5, E5⟩ := hid_ex h5
  obtain ⟨D6, E6⟩ := hid_ex h6
  obtain ⟨D7, E7⟩ := hid_ex h7
  have P0 : ∀ w' : World, Calls Try.prog 7 #[.int .i64 6] w' (DQ D0 0 w') := fun w' => by
    have := K.new 6 w' (by omega) (by omega)
    rw [hv0, E0.out] at this
    exact this
  have P1 : ∀ (w' : World) (p : Option Addr) (c : Nat) (u : Value), FHas w' (.slice p D0.fs.length c) D0.fs → DB w' u [97, 98] → Calls Try.prog 14 #[DKV.of (.slice p D0.fs.length c) D0, .string L108, u] w' (DQ D1 0 w') := by
    intro w' p c u h hu 
    have := K.app D0 _ L108 [97, 98] u w' h (show Tm D0 from by rw [← E0.out]; exact tm0) (by decide) hu (by decide)
    rw [(show appD D0 L108 [97, 98] = (D1, 0) from by rw [← E0.out]; rw [← E1.out]; exact hv1)] at this
    exact this
  have P2 : ∀ (w' : World) (p : Option Addr) (c : Nat), FHas w' (.slice p D1.fs.length c) D1.fs → Calls Try.prog 17 #[DKV.of (.slice p D1.fs.length c) D1, .string L108] w' (DQ D2 0 w') := by
    intro w' p c h 
    have := K.sync D1 _ L108 w' h (show Tm D1 from by rw [← E1.out]; exact tm1) (by decide)
    rw [(show synD D1 L108 = (D2, 0) from by rw [← E1.out]; rw [← E2.out]; exact hv2)] at this
    exact this
  have P3 : ∀ (w' : World) (p : Option Addr) (c : Nat) (u : Value), FHas w' (.slice p D2.fs.length c) D2.fs → DB w' u [99, 100] → Calls Try.prog 14 #[DKV.of (.slice p D2.fs.length c) D2, .string L108, u] w' (DQ D3 0 w') := by
    intro w' p c u h hu 
    have := K.app D2 _ L108 [99, 100] u w' h (show Tm D2 from by rw [← E2.out]; exact tm2) (by decide) hu (by decide)
    rw [(show appD D2 L108 [99, 100] = (D3, 0) from by rw [← E2.out]; rw [← E3.out]; exact hv3)] at this
    exact this
  have P4 : ∀ (w' : World) (p : Option Addr) (c : Nat), FHas w' (.slice p D3.fs.length c) D3.fs → Calls Try.prog 11 #[DKV.of (.slice p D3.fs.length c) D3, .int .i64 1] w' (DkPost D4 w') := by
    intro w' p c h 
    have := K.crash D3 _ 1 w' h (show Tm D3 from by rw [← E3.out]; exact tm3) (by omega) (by omega)
    rw [(show craD D3 1 = D4 from by rw [← E3.out]; rw [← E4.out]; exact hv4)] at this
    exact this
  have P5 : ∀ (w' : World) (p : Option Addr) (c : Nat), FHas w' (.slice p D4.fs.length c) D4.fs → Calls Try.prog 10 #[DKV.of (.slice p D4.fs.length c) D4, .string L108] w' (fun e w'' => ∃ u, e = .returned (.tuple #[u, .int .i64 0]) ∧ DB w'' u [97, 98, 99] ∧ Below w'.heap.size w' w'') := by
    intro w' p c h 
    have := K.read D4 _ L108 w' h (show Tm D4 from by rw [← E4.out]; exact tm4) (by decide)
    rw [(show reaD D4 L108 = ([97, 98, 99], 0) from by rw [← E4.out]; exact hv5)] at this
    exact this
  have P6 : ∀ (w' : World) (p : Option Addr) (c : Nat) (u : Value), FHas w' (.slice p D3.fs.length c) D3.fs → DB w' u [101, 102, 103] → Calls Try.prog 14 #[DKV.of (.slice p D3.fs.length c) D3, .string L108, u] w' (DQ D3 4 w') := by
    intro w' p c u h hu 
    have := K.app D3 _ L108 [101, 102, 103] u w' h (show Tm D3 from by rw [← E3.out]; exact tm3) (by decide) hu (by decide)
    rw [(show appD D3 L108 [101, 102, 103] = (D3, 4) from by rw [← E3.out]; exact hv6)] at this
    exact this
  have P7 : ∀ (w' : World) (p : Option Addr) (c : Nat), FHas w' (.slice p D3.fs.length c) D3.fs → Calls Try.prog 8 #[DKV.of (.slice p D3.fs.length c) D3, .int .i64 0] w' (DQ D5 0 w') := by
    intro w' p c h 
    have := K.arm D3 _ 0 w' h (show Tm D3 from by rw [← E3.out]; exact tm3) (by omega) (by omega)
    rw [(show armD D3 0 = (D5, 0) from by rw [← E3.out]; rw [← E5.out]; exact hv7)] at this
    exact this
  have P8 : ∀ (w' : World) (p : Option Addr) (c : Nat), FHas w' (.slice p D5.fs.length c) D5.fs → Calls Try.prog 9 #[DKV.of (.slice p D5.fs.length c) D5, .string L108, .slice none 0 0] w' (DQ D6 220 w') := by
    intro w' p c h 
    have := K.put D5 _ L108 [] _ w' h (show Tm D5 from by rw [← E5.out]; exact tm5) (by decide) (DB.nil w') (by decide)
    rw [(show putD D5 L108 [] = (D6, 220) from by rw [← E5.out]; rw [← E6.out]; exact hv8)] at this
    exact this
  have P9 : ∀ (w' : World) (p : Option Addr) (c : Nat), FHas w' (.slice p D6.fs.length c) D6.fs → Calls Try.prog 10 #[DKV.of (.slice p D6.fs.length c) D6, .string L108] w' (fun e w'' => ∃ u, e = .returned (.tuple #[u, .int .i64 220]) ∧ DB w'' u [] ∧ Below w'.heap.size w' w'') := by
    intro w' p c h 
    have := K.read D6 _ L108 w' h (show Tm D6 from by rw [← E6.out]; exact tm6) (by decide)
    rw [(show reaD D6 L108 = ([], 220) from by rw [← E6.out]; exact hv9)] at this
    exact this
  have P10 : ∀ (w' : World) (p : Option Addr) (c : Nat) (u : Value), FHas w' (.slice p D3.fs.length c) D3.fs → DB w' u [122] → Calls Try.prog 9 #[DKV.of (.slice p D3.fs.length c) D3, .string K107, u] w' (DQ D7 0 w') := by
    intro w' p c u h hu 
    have := K.put D3 _ K107 [122] u w' h (show Tm D3 from by rw [← E3.out]; exact tm3) (by decide) hu (by decide)
    rw [(show putD D3 K107 [122] = (D7, 0) from by rw [← E3.out]; rw [← E7.out]; exact hv10)] at this
    exact this
  have P11 : ∀ (w' : World) (p : Option Addr) (c : Nat), FHas w' (.slice p D0.fs.length c) D0.fs → Calls Try.prog 19 #[DKV.of (.slice p D0.fs.length c) D0, .string K107] w' (DQ D0 7 w') := by
    intro w' p c h 
    have := K.drop D0 _ K107 w' h (show Tm D0 from by rw [← E0.out]; exact tm0) (by decide)
    rw [(show droD D0 K107 = (D0, 7) from by rw [← E0.out]; exact hv11)] at this
    exact this
  have P12 : ∀ (w' : World) (p : Option Addr) (c : Nat), FHas w' (.slice p D7.fs.length c) D7.fs → Calls Try.prog 28 #[DKV.of (.slice p D7.fs.length c) D7] w' (NmPost [K107, L108] w') := by
    intro w' p c h 
    have := K.names D7 _ w' h (show Tm D7 from by rw [← E7.out]; exact tm7)
    rw [(show namD D7 = [K107, L108] from by rw [← E7.out]; exact hv12)] at this
    exact this
  have P13 : ∀ (w' : World) (p : Option Addr) (c : Nat), FHas w' (.slice p D6.fs.length c) D6.fs → Calls Try.prog 25 #[DKV.of (.slice p D6.fs.length c) D6] w' (Tells (.bool true) w') := by
    intro w' p c h 
    have := K.check D6 _ w' h (show Tm D6 from by rw [← E6.out]; exact tm6)
    rw [(show ckD D6 = true from by rw [← E6.out]; exact hv13)] at this
    exact this
  clear K E0 E1 E2 E3 E4 E5 E6 E7
  have kc := fun (w : World) (C : Array Value) (n c : Nat) => Lib.run_convert_bytes_const (P := Try.prog) w 22 5 C n c Try.underlying22 Try.underlying5
  go_enter Try.func6, Try.ntmps6
  have hbel := Below.refl w.heap.size w
  go_wp2_with fail
  refine (P0 w).mono ?_
  rintro e w1 ⟨p1, c1, rfl, F, hb⟩
  replace hbel := below_on hbel hb
  clear hb
  have hba := bel_alloc (Below.refl w1.heap.size w1) (.cells (dkc p1 c1 D0) 26)
  have lt1 : w.heap.size ≤ w1.heap.size := hbel.size
  replace hbel := below_on hbel hba
  have B1 := Bx.new F
  generalize hW : w1.alloc (.cells (dkc p1 c1 D0) 26) = v1 at B1  hbel
  clear F hba
  have hba := bel_alloc (Below.refl v1.heap.size v1) (.cells #[.int .u8 97, .int .u8 98] 5 (2, 3))
  have ul := lit_db v1 [97, 98] #[.int .u8 97, .int .u8 98] (2, 3) rfl (by decide)
  have A1 := B1
  replace B1 := B1.later hba
  replace hbel := below_on hbel hba
  generalize hL : v1.alloc (.cells #[.int .u8 97, .int .u8 98] 5 (2, 3)) = u2 at ul hbel B1
  clear hba
  go_wp2_with (first | rw [hW] | refine load_r 26 _ rfl rfl _ rfl A1.r Try.underlying26 rfl size26 ?_ | rw [hL])
  clear hW
  clear hL A1
  refine (P1 u2 _ _ _ B1.f ul).mono ?_
  rintro e w2 ⟨p2, c2, rfl, F, hb⟩
  replace B1 := B1.later hb
  replace hbel := below_on hbel hb
  clear hb
  have hba := bel_alloc (Below.refl w2.heap.size w2) (.cells (dkc p2 c2 D1) 26)
  have lt3 : w1.heap.size < w2.heap.size := B1.lt
  replace B1 := B1.later hba
  replace hbel := below_on hbel hba
  have B3 := Bx.new F
  generalize hW : w2.alloc (.cells (dkc p2 c2 D1) 26) = v2 at B3 B1 hbel
  clear F hba
  go_wp2_with (first | rw [hW] | refine load_r 26 _ rfl rfl _ rfl B3.r Try.underlying26 rfl size26 ?_)
  clear hW
  refine (P2 v2 _ _ B3.f).mono ?_
  rintro e w3 ⟨p3, c3, rfl, F, hb⟩
  replace B1 := B1.later hb
  replace B3 := B3.later hb
  replace hbel := below_on hbel hb
  clear hb
  have Bs := B3
  replace B1 := B1.other Bs (by omega) (dkc p3 c3 D2)
  replace B3 := B3.put F
  replace hbel := bel_row hbel (b := w2.heap.size) (by omega) (dkc p3 c3 D2)
  generalize hW : w3.setRow w2.heap.size (dkc p3 c3 D2) = v3 at B1 B3 hbel
  clear F
  have hba := bel_alloc (Below.refl v3.heap.size v3) (.cells #[.int .u8 99, .int .u8 100] 5 (2, 3))
  have ul := lit_db v3 [99, 100] #[.int .u8 99, .int .u8 100] (2, 3) rfl (by decide)
  have A1 := B1
  have A3 := B3
  replace B1 := B1.later hba
  replace B3 := B3.later hba
  replace hbel := below_on hbel hba
  generalize hL : v3.alloc (.cells #[.int .u8 99, .int .u8 100] 5 (2, 3)) = u4 at ul hbel B1 B3
  clear hba
  go_wp2_with (first | rw [hW] | refine store_r rfl 26 _ _ rfl _ _ rfl rfl Bs.r size26 rfl (by simp [Value.oneCell']) ?_ | refine load_r 26 _ rfl rfl _ rfl A3.r Try.underlying26 rfl size26 ?_ | rw [hL])
  clear hW Bs
  clear hL A1 A3
  refine (P3 u4 _ _ _ B3.f ul).mono ?_
  rintro e w4 ⟨p4, c4, rfl, F, hb⟩
  replace B1 := B1.later hb
  replace B3 := B3.later hb
  replace hbel := below_on hbel hb
  clear hb
  have hba := bel_alloc (Below.refl w4.heap.size w4) (.cells (dkc p4 c4 D3) 26)
  have lt6 : w2.heap.size < w4.heap.size := B3.lt
  replace B1 := B1.later hba
  replace B3 := B3.later hba
  replace hbel := below_on hbel hba
  have B6 := Bx.new F
  generalize hW : w4.alloc (.cells (dkc p4 c4 D3) 26) = v4 at B6 B1 B3 hbel
  clear F hba
  go_wp2_with (first | rw [hW] | refine load_r 26 _ rfl rfl _ rfl B6.r Try.underlying26 rfl size26 ?_)
  clear hW
  refine (P4 v4 _ _ B6.f).mono ?_
  rintro e w5 ⟨p4, c4, rfl, F4, hb⟩
  replace B1 := B1.later hb
  replace B3 := B3.later hb
  replace B6 := B6.later hb
  replace hbel := below_on hbel hb
  clear hb
  go_wp2_with fail
  refine (P5 w5 _ _ F4).mono ?_
  rintro e w6 ⟨u5, rfl, a5, hb⟩
  replace B1 := B1.later hb
  replace B3 := B3.later hb
  replace B6 := B6.later hb
  replace hbel := below_on hbel hb
  clear hb
  obtain ⟨pz, cz, rfl⟩ := SHas.slice a5
  clear F4
  have hba := bel_alloc (Below.refl w6.heap.size w6) (.cells #[.int .u8 101, .int .u8 102, .int .u8 103] 5 (3, 4))
  have ul := lit_db w6 [101, 102, 103] #[.int .u8 101, .int .u8 102, .int .u8 103] (3, 4) rfl (by decide)
  have A1 := B1
  have A3 := B3
  have A6 := B6
  replace B1 := B1.later hba
  replace B3 := B3.later hba
  replace B6 := B6.later hba
  replace hbel := below_on hbel hba
  replace a5 := SHas.later a5 hba
  generalize hL : w6.alloc (.cells #[.int .u8 101, .int .u8 102, .int .u8 103] 5 (3, 4)) = u7 at ul hbel a5 B1 B3 B6
  clear hba
  go_wp2_with (first | refine load_r 26 _ rfl rfl _ rfl A6.r Try.underlying26 rfl size26 ?_ | rw [hL])
  clear hL A1 A3 A6
  refine (P6 u7 _ _ _ B6.f ul).mono ?_
  rintro e w7 ⟨p7, c7, rfl, F, hb⟩
  replace B1 := B1.later hb
  replace B3 := B3.later hb
  replace B6 := B6.later hb
  replace hbel := below_on hbel hb
  replace a5 := SHas.later a5 hb
  clear hb
  have hba := bel_alloc (Below.refl w7.heap.size w7) (.cells (dkc p7 c7 D3) 26)
  have lt10 : w4.heap.size < w7.heap.size := B6.lt
  replace B1 := B1.later hba
  replace B3 := B3.later hba
  replace B6 := B6.later hba
  replace hbel := below_on hbel hba
  replace a5 := SHas.later a5 hba
  have B10 := Bx.new F
  generalize hW : w7.alloc (.cells (dkc p7 c7 D3) 26) = v7 at B10 B1 B3 B6 hbel a5
  clear F hba
  go_wp2_with (first | rw [hW] | refine load_r 26 _ rfl rfl _ rfl B6.r Try.underlying26 rfl size26 ?_)
  clear hW
  refine (P7 v7 _ _ B6.f).mono ?_
  rintro e w8 ⟨p8, c8, rfl, F, hb⟩
  replace B1 := B1.later hb
  replace B3 := B3.later hb
  replace B6 := B6.later hb
  replace B10 := B10.later hb
  replace hbel := below_on hbel hb
  replace a5 := SHas.later a5 hb
  clear hb
  have hba := bel_alloc (Below.refl w8.heap.size w8) (.cells (dkc p8 c8 D5) 26)
  have lt12 : w7.heap.size < w8.heap.size := B10.lt
  replace B1 := B1.later hba
  replace B3 := B3.later hba
  replace B6 := B6.later hba
  replace B10 := B10.later hba
  replace hbel := below_on hbel hba
  replace a5 := SHas.later a5 hba
  have B12 := Bx.new F
  generalize hW : w8.alloc (.cells (dkc p8 c8 D5) 26) = v8 at B12 B1 B3 B6 B10 hbel a5
  clear F hba
  go_wp2_with (first | rw [hW] | refine load_r 26 _ rfl rfl _ rfl B12.r Try.underlying26 rfl size26 ?_)
  clear hW
  refine (P8 v8 _ _ B12.f).mono ?_
  rintro e w9 ⟨p9, c9, rfl, F, hb⟩
  replace B1 := B1.later hb
  replace B3 := B3.later hb
  replace B6 := B6.later hb
  replace B10 := B10.later hb
  replace B12 := B12.later hb
  replace hbel := below_on hbel hb
  replace a5 := SHas.later a5 hb
  clear hb
  have Bs := B12
  replace B1 := B1.other Bs (by omega) (dkc p9 c9 D6)
  replace B3 := B3.other Bs (by omega) (dkc p9 c9 D6)
  replace B6 := B6.other Bs (by omega) (dkc p9 c9 D6)
  replace B10 := B10.other Bs (by omega) (dkc p9 c9 D6)
  replace B12 := B12.put F
  replace hbel := bel_row hbel (b := w8.heap.size) (by omega) (dkc p9 c9 D6)
  replace a5 := DB.rowBx a5 Bs (dkc p9 c9 D6)
  generalize hW : w9.setRow w8.heap.size (dkc p9 c9 D6) = v9 at B1 B3 B6 B10 B12 hbel a5
  clear F
  go_wp2_with (first | rw [hW] | refine store_r rfl 26 _ _ rfl _ _ rfl rfl Bs.r size26 rfl (by simp [Value.oneCell']) ?_ | refine load_r 26 _ rfl rfl _ rfl B12.r Try.underlying26 rfl size26 ?_)
  clear hW Bs
  refine (P9 v9 _ _ B12.f).mono ?_
  rintro e w10 ⟨u9, rfl, _, hb⟩
  replace B1 := B1.later hb
  replace B3 := B3.later hb
  replace B6 := B6.later hb
  replace B10 := B10.later hb
  replace B12 := B12.later hb
  replace hbel := below_on hbel hb
  replace a5 := SHas.later a5 hb
  clear hb
  have hba := bel_alloc (Below.refl w10.heap.size w10) (.cells #[.int .u8 122] 5 (1, 2))
  have ul := lit_db w10 [122] #[.int .u8 122] (1, 2) rfl (by decide)
  have A1 := B1
  have A3 := B3
  have A6 := B6
  have A10 := B10
  have A12 := B12
  replace B1 := B1.later hba
  replace B3 := B3.later hba
  replace B6 := B6.later hba
  replace B10 := B10.later hba
  replace B12 := B12.later hba
  replace hbel := below_on hbel hba
  replace a5 := SHas.later a5 hba
  generalize hL : w10.alloc (.cells #[.int .u8 122] 5 (1, 2)) = u11 at ul hbel a5 B1 B3 B6 B10 B12
  clear hba
  go_wp2_with (first | refine load_r 26 _ rfl rfl _ rfl A6.r Try.underlying26 rfl size26 ?_ | rw [hL])
  clear hL A1 A3 A6 A10 A12
  refine (P10 u11 _ _ _ B6.f ul).mono ?_
  rintro e w11 ⟨p11, c11, rfl, F, hb⟩
  replace B1 := B1.later hb
  replace B3 := B3.later hb
  replace B6 := B6.later hb
  replace B10 := B10.later hb
  replace B12 := B12.later hb
  replace hbel := below_on hbel hb
  replace a5 := SHas.later a5 hb
  clear hb
  have hba := bel_alloc (Below.refl w11.heap.size w11) (.cells (dkc p11 c11 D7) 26)
  have lt17 : w8.heap.size < w11.heap.size := B12.lt
  replace B1 := B1.later hba
  replace B3 := B3.later hba
  replace B6 := B6.later hba
  replace B10 := B10.later hba
  replace B12 := B12.later hba
  replace hbel := below_on hbel hba
  replace a5 := SHas.later a5 hba
  have B17 := Bx.new F
  generalize hW : w11.alloc (.cells (dkc p11 c11 D7) 26) = v11 at B17 B1 B3 B6 B10 B12 hbel a5
  clear F hba
  go_wp2_with (first | rw [hW] | refine load_r 26 _ rfl rfl _ rfl B1.r Try.underlying26 rfl size26 ?_)
  clear hW
  refine (P11 v11 _ _ B1.f).mono ?_
  rintro e w12 ⟨p12, c12, rfl, F, hb⟩
  replace B1 := B1.later hb
  replace B3 := B3.later hb
  replace B6 := B6.later hb
  replace B10 := B10.later hb
  replace B12 := B12.later hb
  replace B17 := B17.later hb
  replace hbel := below_on hbel hb
  replace a5 := SHas.later a5 hb
  clear hb
  have hba := bel_alloc (Below.refl w12.heap.size w12) (.cells (dkc p12 c12 D0) 26)
  have lt19 : w11.heap.size < w12.heap.size := B17.lt
  replace B1 := B1.later hba
  replace B3 := B3.later hba
  replace B6 := B6.later hba
  replace B10 := B10.later hba
  replace B12 := B12.later hba
  replace B17 := B17.later hba
  replace hbel := below_on hbel hba
  replace a5 := SHas.later a5 hba
  have B19 := Bx.new F
  generalize hW : w12.alloc (.cells (dkc p12 c12 D0) 26) = v12 at B19 B1 B3 B6 B10 B12 B17 hbel a5
  clear F hba
  have hs5 : (convert 22 9 (.slice pz 3 cz)).run Try.prog v12 = .ok (.string ⟨#[97, 98, 99]⟩) v12 := run_string a5
  go_wp2_with (first | rw [hW] | refine load_r 26 _ rfl rfl _ rfl B17.r Try.underlying26 rfl size26 ?_)
  clear hW
  refine (P12 v12 _ _ B17.f).mono ?_
  rintro e w13 ⟨un, rfl, t1, hb⟩
  replace B1 := B1.later hb
  replace B3 := B3.later hb
  replace B6 := B6.later hb
  replace B10 := B10.later hb
  replace B12 := B12.later hb
  replace B17 := B17.later hb
  replace B19 := B19.later hb
  replace hbel := below_on hbel hb
  clear hb hs5 a5
  have hba := bel_alloc (Below.refl w13.heap.size w13) (.cells #[.string K107, .string L108] 9)
  have t2 := lit_ts w13 [K107, L108] #[.string K107, .string L108] rfl (by decide)
  replace t1 := SHas.later t1 hba
  replace B1 := B1.later hba
  replace B3 := B3.later hba
  replace B6 := B6.later hba
  replace B10 := B10.later hba
  replace B12 := B12.later hba
  replace B17 := B17.later hba
  replace B19 := B19.later hba
  replace hbel := below_on hbel hba
  generalize hL : w13.alloc (.cells #[.string K107, .string L108] 9) = wl at t1 t2 hbel B1 B3 B6 B10 B12 B17 B19
  clear hba
  go_wp2_with (first | rw [hL])
  refine (rTexts_any un _ [K107, L108] wl t1 t2).mono ?_
  rintro e w14 ⟨rfl, hb⟩
  replace B1 := B1.later hb
  replace B3 := B3.later hb
  replace B6 := B6.later hb
  replace B10 := B10.later hb
  replace B12 := B12.later hb
  replace B17 := B17.later hb
  replace B19 := B19.later hb
  replace hbel := below_on hbel hb
  clear hb hL t1 t2
  go_wp2_with (first | refine load_r 26 _ rfl rfl _ rfl B12.r Try.underlying26 rfl size26 ?_)
  refine (P13 w14 _ _ B12.f).mono ?_
  rintro e w15 ⟨rfl, hb⟩
  go_wp2_with fail
  go_ret
  exact ⟨rfl, below_on hbel hb⟩
end Go.Proofs.Ytjjncmenkepcoaa
/- Small functions of the program for layer 22: isNaN, Compare, the comparison of a file's name, isName, filled. -/
namespace Go.Proofs.Ytjjncmenkepcoaa
open Go.RowKit

/-- What Compare answers of two texts. -/
def cmpS (x y : ByteArray) : Int := if bs x < bs y then -1 else if bs y < bs x then 1 else 0
theorem isNaN_any (x : ByteArray) (w : World) : Calls Try.prog 68 #[.string x] w (Leaves (.bool false) w) := by
  have g1 := str_eq (rfl : x = x)
  go_enter Try.func68, Try.ntmps68
  go_wp2
  go_ret
  exact ⟨rfl, rfl⟩
set_option maxHeartbeats 2000000 in
theorem compare_any (x y : ByteArray) (w : World) : Calls Try.prog 64 #[.string x, .string y] w (Leaves (.int .i64 (cmpS x y)) w) := by
  have C1 := isNaN_any x w
  have C2 := isNaN_any y w
  have HL : Hid (Op.bytesLess x.toList y.toList = decide (bs x < bs y)) := less_str x y
  have HG : Hid (Op.bytesLess y.toList x.toList = decide (bs y < bs x)) := less_str y x
  obtain ⟨z, HZ⟩ := hid_ex (cmpS x y)
  rw [HZ.out]
  go_enter Try.func64, Try.ntmps64
  go_wp2_with fail
  refine C1.mono ?_
  rintro e w1 ⟨rfl, rfl⟩
  go_wp2_with fail
  refine C2.mono ?_
  rintro e w1 ⟨rfl, rfl⟩
  by_cases h1 : bs x < bs y
  · have g1 := HL.out
    rw [decide_eq_true h1] at g1
    obtain rfl : z = -1 := by rw [← HZ.out]; unfold cmpS; rw [if_pos h1]
    go_wp2_with fail
    go_ret
    exact ⟨rfl, rfl⟩
  · have g1 := HL.out
    rw [decide_eq_false h1] at g1
    by_cases h2 : bs y < bs x
    · have g2 := HG.out
      rw [decide_eq_true h2] at g2
      have g3 := str_ne (fun e => Bs.irr _ (e ▸ h2) : ¬ x = y)
      obtain rfl : z = 1 := by rw [← HZ.out]; unfold cmpS; rw [if_neg h1, if_pos h2]
      go_wp2_with fail
      go_ret
      exact ⟨rfl, rfl⟩
    · have g2 := HG.out
      rw [decide_eq_false h2] at g2
      have g3 := str_eq (bs_inj (Classical.byContradiction fun e => h2 (Bs.tri h1 e)) : x = y)
      obtain rfl : z = 0 := by rw [← HZ.out]; unfold cmpS; rw [if_neg h1, if_neg h2]
      go_wp2_with fail
      go_ret
      exact ⟨rfl, rfl⟩
theorem findc_any (f : FV) (sl : Value) (x : ByteArray) (w : World) : Calls Try.prog 63 #[FLV f.x sl f.k, .string x] w (Tells (.int .i64 (cmpS f.x x)) w) := by
  have R0 := rw_new w 57 #[.string f.x, sl, .int .i64 f.k]
  have hbel := bel_alloc (Below.refl w.heap.size w) (.cells #[.string f.x, sl, .int .i64 f.k] 57)
  generalize hW : w.alloc (.cells #[.string f.x, sl, .int .i64 f.k] 57) = w0 at R0 hbel
  have k0 : w0.cell? ⟨w.heap.size, 0, none⟩ = some (.string f.x) := R0.cell 0
  have C1 := compare_any f.x x w0
  go_enter Try.func63, Try.ntmps63
  go_wp2_with (rw [hW])
  refine C1.mono ?_
  rintro e w1 ⟨rfl, rfl⟩
  go_wp2_with fail
  go_ret
  exact ⟨rfl, hbel⟩
theorem isName_any (s : ByteArray) (w : World) : Calls Try.prog 57 #[.string s] w (Tells (.bool (nmd s)) w) := by
  unfold nmd
  go_enter Try.func57, Try.ntmps57
  go_wp2
  all_goals
    go_ret
    refine tells_bool ?_ ?_
    focus (first | (simp_all; done) | grind)
    repeat refine bel_alloc ?_ _
    exact Below.refl _ _
set_option maxHeartbeats 2000000 in
set_option maxRecDepth 100000 in
theorem filled_any (l : List FV) (sl : Value) (w : World) (h : FHas w sl l) (hu : us l ≤ 1000000000) : Calls Try.prog 58 #[sl] w (Tells (.int .i64 (us l)) w) := by
  obtain ⟨q, c, rfl⟩ := h.slice
  obtain ⟨z, HZ⟩ := hid_ex (us l)
  rw [HZ.out]
  have hml := maxLen_lt h.max
  have H : Hid (FHas w (.slice q l.length c) l) := h
  clear h
  go_enter Try.func58, Try.ntmps58
  go_wp2
  go_loopw [3, 8] (fun vn vi wr => ∃ k : Nat, vi = .int .i64 k ∧ vn = .int .i64 (us (l.take k)) ∧ k ≤ l.length ∧ Below w.heap.size w wr) (fun _ vi _ => l.length - (intOf vi).toNat)
  case atStart => exact ⟨0, rfl, rfl, by omega, Below.refl _ _⟩
  case round =>
    obtain ⟨k, rfl, rfl, hk, hbel⟩ := hrel
    by_cases hlt : k < l.length
    · have hlt' : (k : Int) < (l.length : Int) := by omega
      obtain ⟨g, o, s1, rfl, d00, a0⟩ := H.out.at k hlt
      have d0 := range_later d00 hbel
      obtain ⟨p1, c1, rfl⟩ := SHas.slice a0
      have hat := us_at hlt
      have HS := us_take_succ hlt
      obtain ⟨f, HF⟩ := hid_ex l[k]
      obtain ⟨u, HU⟩ := hid_ex (us (l.take k))
      rw [HF.out] at d0 HS hat
      rw [HU.out] at HS hat ⊢
      have HS2 : Hid (us (l.take (k + 1)) = u + f.d.length) := HS
      have zf : (Try.prog.info? 57).map (·.size) = some [Value.string f.x, .slice p1 f.d.length c1, .int .i64 f.k].length := sizeF
      have RB := rw_new wr 57 #[.string f.x, .slice p1 f.d.length c1, .int .i64 f.k]
      have hba := bel_alloc (Below.refl wr.heap.size wr) (.cells #[.string f.x, .slice p1 f.d.length c1, .int .i64 f.k] 57)
      generalize hW : wr.alloc (.cells #[.string f.x, .slice p1 f.d.length c1, .int .i64 f.k] 57) = wx at RB hba
      have c2 : wx.cell? ⟨wr.heap.size, 1, none⟩ = some (.slice p1 f.d.length c1) := RB.cell 1
      have hbx := below_on hbel hba
      clear d00 a0 HS HF HU RB hba
      go_wp2_with (first | rw [hW] | refine load_m 57 _ rfl rfl _ _ rfl d0 Try.underlying57 rfl zf ?_)
      go_roundw
      case rel => exact ⟨k + 1, by simp, by rw [HS2.out]; simp, by omega, hbx⟩
      case measure => simp [intOf]; omega
    · have hlt' : ¬ (k : Int) < (l.length : Int) := by omega
      rw [List.take_of_length_le (by omega)]
      go_wp2_with fail
      go_ret
      exact ⟨by rw [HZ.out]; rfl, hbel⟩
end Go.Proofs.Ytjjncmenkepcoaa
/- Check of the program for layer 22, and what is asked first of each call. -/
namespace Go.Proofs.Ytjjncmenkepcoaa
open Go.RowKit

/-- What is asked of each file, but for the bytes of all. -/
def okP (l : List FV) (k : Nat) (h : k < l.length) : Bool := nmd l[k].x && ((decide (k = 0) || decide (fn (l[k - 1]'(by omega)) < fn l[k])) && (decide (0 ≤ l[k].k) && decide (l[k].k ≤ l[k].d.length)))
def ckP (l : List FV) : Bool := decide (∀ k (h : k < l.length), okP l k h = true)
theorem ckP_iff (l : List FV) : ckP l = true ↔ ∀ k (h : k < l.length), okP l k h = true := by simp [ckP]
theorem ckP_not {l : List FV} {k : Nat} (h : k < l.length) (h' : okP l k h = false) : ckP l = false := decide_eq_false fun e => by rw [e k h] at h'; cases h'
theorem okP_of (l : List FV) (k : Nat) (h : k < l.length) : okP l k h = okf (us l) l k h := by
  have := us_at h
  unfold okP okf
  rw [decide_eq_true (show (l[k].d.length : Int) ≤ (us l : Int) - us (l.take k) by omega)]
  simp
theorem ckP_ckF (l : List FV) : ckP l = true ↔ (∀ f ∈ l, okO f = true) ∧ upf l := by
  rw [ckP_iff]
  have h := ckF_all (room := us l) (by omega) l
  rw [ckF_iff] at h
  constructor
  · intro k
    have := h.1 fun i hi => by rw [← okP_of]; exact k i hi
    exact ⟨this.1, this.2.1⟩
  · rintro ⟨h1, h2⟩ i hi
    rw [okP_of]
    exact h.2 ⟨h1, h2, Int.le_refl _⟩ i hi
theorem ckD_eq (d : DV) : ckD d = (ckH d && (ckP d.fs && decide ((us d.fs : Int) ≤ d.room))) := by
  unfold ckD
  cases h : ckH d with
  | false => rfl
  | true =>
    rw [Bool.true_and, Bool.true_and]
    have hr : 0 ≤ d.room := by
      unfold ckH at h
      simp only [Bool.and_eq_true, decide_eq_true_eq] at h
      exact h.1
    have h1 := ckF_all hr d.fs
    have h2 := ckP_ckF d.fs
    rw [Bool.eq_iff_iff, Bool.and_eq_true, h1, h2, decide_eq_true_eq, and_assoc]
theorem nmd_some {x : ByteArray} (h : nmd x = true) : bs noS < bs x := by
  unfold nmd at h
  simp only [Bool.and_eq_true, decide_eq_true_eq] at h
  have := bs_size x
  cases hx : bs x with
  | nil => rw [hx] at this; simp at this; omega
  | cons a l => simp [bs]
def offD (d : DV) : Int := if ckD d = false then 3 else if d.dead = true then 220 else 0
theorem askD_eq (d : DV) (x : ByteArray) : askD d x = if offD d ≠ 0 then offD d else if nmd x = false then 2 else 0 := by
  unfold askD offD
  cases ckD d <;> cases d.dead <;> simp
abbrev DK26 (q : Option Addr) (c : Nat) (d : DV) : Array Value := #[.slice q d.fs.length c, .int .i64 d.room, .int .i64 d.arm, .bool d.dead]
set_option maxHeartbeats 8000000 in
set_option maxRecDepth 100000 in
theorem check_any (d : DV) (sl : Value) (w : World) (h : FHas w sl d.fs) (hus : us d.fs ≤ 1000000000) : Calls Try.prog 25 #[DKV.of sl d] w (Tells (.bool (ckD d)) w) := by
  obtain ⟨q, c, rfl⟩ := h.slice
  have hml := maxLen_lt h.max
  have H : Hid (FHas w (.slice q d.fs.length c) d.fs) := h
  clear h
  obtain ⟨z, HZ⟩ := hid_ex (ckD d)
  rw [HZ.out]
  rw [ckD_eq] at HZ
  have R0 := rw_new w 26 #[.slice q d.fs.length c, .int .i64 d.room, .int .i64 d.arm, .bool d.dead]
  have hbel := bel_alloc (Below.refl w.heap.size w) (.cells #[.slice q d.fs.length c, .int .i64 d.room, .int .i64 d.arm, .bool d.dead] 26)
  generalize hW : w.alloc (.cells #[.slice q d.fs.length c, .int .i64 d.room, .int .i64 d.arm, .bool d.dead] 26) = w0 at R0 hbel
  have k0 : w0.cell? ⟨w.heap.size, 0, none⟩ = some (.slice q d.fs.length c) := R0.cell 0
  have k1 : w0.cell? ⟨w.heap.size, 1, none⟩ = some (.int .i64 d.room) := R0.cell 1
  have k2 : w0.cell? ⟨w.heap.size, 2, none⟩ = some (.int .i64 d.arm) := R0.cell 2
  go_enter Try.func25, Try.ntmps25
  by_cases h1 : d.room < 0
  · obtain rfl : false = z := by rw [← HZ.out]; unfold ckH; rw [decide_eq_false (show ¬ 0 ≤ d.room by omega)]; rfl
    go_wp2_with (rw [hW])
    go_ret
    exact ⟨rfl, hbel⟩
  by_cases h2 : 1048576 < d.room
  · obtain rfl : false = z := by rw [← HZ.out]; unfold ckH; rw [decide_eq_false (show ¬ d.room ≤ 1048576 by omega)]; simp
    go_wp2_with (rw [hW])
    go_ret
    exact ⟨rfl, hbel⟩
  by_cases h3 : d.arm < -1
  · obtain rfl : false = z := by rw [← HZ.out]; unfold ckH; rw [decide_eq_false (show ¬ -1 ≤ d.arm by omega)]; simp
    go_wp2_with (rw [hW])
    go_ret
    exact ⟨rfl, hbel⟩
  by_cases h64 : (64 : Int) < (d.fs.length : Int)
  · obtain rfl : false = z := by rw [← HZ.out]; unfold ckH; rw [decide_eq_false (show ¬ d.fs.length ≤ 64 by omega)]; simp
    go_wp2_with (rw [hW])
    go_ret
    exact ⟨rfl, hbel⟩
  have HZ2 : Hid ((ckP d.fs && decide ((us d.fs : Int) ≤ d.room)) = z) := by
    show _ = _
    rw [← HZ.out]
    unfold ckH
    rw [decide_eq_true (show 0 ≤ d.room by omega), decide_eq_true (show d.room ≤ 1048576 by omega), decide_eq_true (show -1 ≤ d.arm by omega), decide_eq_true (show d.fs.length ≤ 64 by omega)]
    rfl
  clear HZ
  go_wp2_with (rw [hW])
  clear hW k0 k1 k2 h64 h3
  go_loopw [3, 28] (fun vn vi wr => ∃ (k : Nat) (t : ByteArray), vi = .int .i64 k ∧ vn = .string t ∧ k ≤ d.fs.length ∧ Hid (∀ i (h : i < d.fs.length), i < k → okP d.fs i h = true) ∧ Hid (k = 0 → t = noS) ∧ Hid (∀ (h : 0 < k) (h2 : k - 1 < d.fs.length), t = d.fs[k - 1].x) ∧ Rw wr w.heap.size 26 #[.slice q d.fs.length c, .int .i64 d.room, .int .i64 d.arm, .bool d.dead] ∧ Below w.heap.size w wr) (fun _ vi _ => d.fs.length - (intOf vi).toNat)
  case atStart => exact ⟨0, noS, rfl, rfl, by omega, (show ∀ i (h : i < d.fs.length), i < 0 → _ from fun i _ h => by omega), (show 0 = 0 → noS = noS from fun _ => rfl), (show ∀ (h : 0 < 0) (h2 : 0 - 1 < d.fs.length), noS = d.fs[0 - 1].x from fun h => by omega), R0, hbel⟩
  case round =>
    clear R0 hbel
    obtain ⟨k, t, rfl, rfl, hk, HK, HT0, HT1, R0, hbel⟩ := hrel
    have k0 : wr.cell? ⟨w.heap.size, 0, none⟩ = some (.slice q d.fs.length c) := R0.cell 0
    by_cases hlt : k < d.fs.length
    · have hlt' : (k : Int) < (d.fs.length : Int) := by omega
      obtain ⟨g, o, s1, rfl, d00, a0⟩ := H.out.at k hlt
      have d0 := range_later d00 hbel
      obtain ⟨p1, c1, rfl⟩ := SHas.slice a0
      have hbad0 : okP d.fs k hlt = false → z = false := fun e => by rw [← HZ2.out, ckP_not hlt e]; rfl
      have hbad : Hid (okP d.fs k hlt = false → z = false) := hbad0
      have hmf := maxLen_lt a0.1
      have OKA0 : okP d.fs k hlt = (nmd d.fs[k].x && ((decide (k = 0) || decide (fn (d.fs[k - 1]'(by omega)) < fn d.fs[k])) && (decide (0 ≤ d.fs[k].k) && decide (d.fs[k].k ≤ d.fs[k].d.length)))) := rfl
      have HP : Hid (nmd d.fs[k].x = true → (decide (k = 0) || decide (fn (d.fs[k - 1]'(by omega)) < fn d.fs[k])) = decide (bs t < bs d.fs[k].x)) := fun hn => by
        rcases Nat.eq_zero_or_pos k with h0 | h0
        · rw [decide_eq_true h0, Bool.true_or, HT0.out h0, decide_eq_true (nmd_some hn)]
        · rw [decide_eq_false (by omega), Bool.false_or, HT1.out h0 (by omega)]
      obtain ⟨f, HF⟩ := hid_ex d.fs[k]
      rw [HF.out] at d0 hmf OKA0 HP
      have HXX : Hid (∀ (h : 0 < k + 1) (h2 : k + 1 - 1 < d.fs.length), f.x = d.fs[k + 1 - 1].x) := fun _ _ => (congrArg FV.x HF.out).symm
      have OKA : Hid (okP d.fs k hlt = (nmd f.x && (decide (bs t < bs f.x) && (decide (0 ≤ f.k) && decide (f.k ≤ f.d.length))))) := by
        show _ = _
        rw [OKA0]
        cases hn : nmd f.x
        · rfl
        · rw [HP.out hn]
      have zf : (Try.prog.info? 57).map (·.size) = some [Value.string f.x, .slice p1 f.d.length c1, .int .i64 f.k].length := sizeF
      have RB := rw_new wr 57 #[.string f.x, .slice p1 f.d.length c1, .int .i64 f.k]
      have hba := bel_alloc (Below.refl wr.heap.size wr) (.cells #[.string f.x, .slice p1 f.d.length c1, .int .i64 f.k] 57)
      generalize hW : wr.alloc (.cells #[.string f.x, .slice p1 f.d.length c1, .int .i64 f.k] 57) = wx at RB hba
      have hbelx := below_on hbel hba
      replace R0 := R0.later hba
      have f0 : wx.cell? ⟨wr.heap.size, 0, none⟩ = some (.string f.x) := RB.cell 0
      have C1 := isName_any f.x wx
      obtain ⟨r1, HR1⟩ := hid_ex (nmd f.x)
      rw [HR1.out] at C1
      have HR2 : Hid (nmd f.x = r1) := HR1
      clear d00 a0 hbad0 OKA0 HP HT0 HT1 HF HR1 hba hbel
      go_wp2_with (first | rw [hW] | refine load_m 57 _ rfl rfl _ _ rfl d0 Try.underlying57 rfl zf ?_)
      clear hW d0 zf k0 f0
      refine C1.mono ?_
      rintro e w2 ⟨rfl, hb2⟩
      clear C1
      replace R0 := R0.later hb2
      replace RB := RB.later hb2
      replace hbelx := below_on hbelx hb2
      clear hb2
      have f0 : w2.cell? ⟨wr.heap.size, 0, none⟩ = some (.string f.x) := RB.cell 0
      have f1 : w2.cell? ⟨wr.heap.size, 1, none⟩ = some (.slice p1 f.d.length c1) := RB.cell 1
      have f2 : w2.cell? ⟨wr.heap.size, 2, none⟩ = some (.int .i64 f.k) := RB.cell 2
      cases r1
      · obtain rfl : false = z := (hbad.out (by rw [OKA.out, HR2.out]; rfl)).symm
        clear hbad HK HZ2 OKA HR2
        go_wp2_with fail
        go_ret
        exact ⟨rfl, hbelx⟩
      · have HL := leq_str t f.x
        by_cases hb : bs t < bs f.x
        · rw [decide_eq_true hb] at HL
          by_cases h4 : f.k < 0
          · obtain rfl : false = z := (hbad.out (by rw [OKA.out]; rw [decide_eq_false (show ¬ 0 ≤ f.k by omega)]; simp)).symm
            clear hbad HK HZ2 OKA HR2
            go_wp2_with fail
            go_ret
            exact ⟨rfl, hbelx⟩
          · by_cases h5 : (f.d.length : Int) < f.k
            · obtain rfl : false = z := (hbad.out (by rw [OKA.out]; rw [decide_eq_false (show ¬ f.k ≤ f.d.length by omega)]; simp)).symm
              clear hbad HK HZ2 OKA HR2
              go_wp2_with fail
              go_ret
              exact ⟨rfl, hbelx⟩
            · have HK2 : Hid (∀ i (h : i < d.fs.length), i < k + 1 → okP d.fs i h = true) := fun i hi h => by
                rcases Nat.lt_or_ge i k with h' | h'
                · exact HK.out i hi h'
                · obtain rfl : i = k := by omega
                  rw [OKA.out, HR2.out, decide_eq_true hb, decide_eq_true (show 0 ≤ f.k by omega), decide_eq_true (show f.k ≤ f.d.length by omega)]
                  rfl
              have HT2 : Hid (k + 1 = 0 → f.x = noS) := fun h => by omega
              clear hbad HK HZ2 OKA HR2
              go_wp2_with fail
              go_roundw
              case rel => exact ⟨k + 1, f.x, by simp, rfl, by omega, HK2, HT2, HXX, R0, hbelx⟩
              case measure => simp [intOf]; omega
        · rw [decide_eq_false hb] at HL
          obtain rfl : false = z := (hbad.out (by rw [OKA.out, decide_eq_false hb]; simp)).symm
          clear hbad HK HZ2 OKA HR2
          go_wp2_with fail
          go_ret
          exact ⟨rfl, hbelx⟩
    · obtain rfl : k = d.fs.length := by omega
      have hlt' : ¬ ((d.fs.length : Int) < (d.fs.length : Int)) := by omega
      have hp : ckP d.fs = true := (ckP_iff _).2 fun i hi => HK.out i hi hi
      have HZ3 : Hid (decide ((us d.fs : Int) ≤ d.room) = z) := by
        show _ = _
        rw [← HZ2.out, hp]
        rfl
      have C2 := fun (w' : World) (h : Below w.heap.size w w') => filled_any d.fs _ w' (H.out.later h) hus
      have k1 : wr.cell? ⟨w.heap.size, 1, none⟩ = some (.int .i64 d.room) := R0.cell 1
      clear HK HZ2 HT0 HT1 hp H
      obtain ⟨u, HU⟩ := hid_ex (us d.fs)
      rw [HU.out] at C2 HZ3
      clear HU
      go_wp2_with fail
      have ST : Calm.Stays (fun w' : World => w'.cell? ⟨w.heap.size, 0, none⟩ = some (.slice q d.fs.length c) ∧ w'.cell? ⟨w.heap.size, 1, none⟩ = some (.int .i64 d.room) ∧ Below w.heap.size w w') := fun a b h hb => ⟨cell_later hb h.1, cell_later hb h.2.1, below_on h.2.2 hb⟩
      refine Calm.region (by kernel_rfl) (by kernel_rfl) (fun w' : World => w'.cell? ⟨w.heap.size, 0, none⟩ = some (.slice q d.fs.length c) ∧ w'.cell? ⟨w.heap.size, 1, none⟩ = some (.int .i64 d.room) ∧ Below w.heap.size w w') ⟨k0, k1, hbel.drew⟩ ?_
      refine Calm.pu ?_
      refine Calm.ce (fun _ h => h.1) ?_
      refine Calm.k1 ST (fun w' h => C2 w' h.2.2) ?_
      refine Calm.pu ?_
      refine Calm.ce (fun _ h => h.2.1) ?_
      iterate 2 (refine Calm.pu ?_)
      intro w6 hS6
      have hb6 := hS6.2.2
      clear hS6 ST C2 k0 k1
      go_wp2_with fail
      go_ret
      exact ⟨by rw [← HZ3.out]; rfl, hb6⟩
set_option maxHeartbeats 2000000 in
theorem off_any (d : DV) (sl : Value) (w : World) (h : FHas w sl d.fs) (hus : us d.fs ≤ 1000000000) : Calls Try.prog 33 #[DKV.of sl d] w (Tells (.int .i64 (offD d)) w) := by
  obtain ⟨z, HZ⟩ := hid_ex (offD d)
  rw [HZ.out]
  have hsl : sl.oneCell' = true := by obtain ⟨q, c, rfl⟩ := h.slice; rfl
  have R0 := rw_new w 26 #[sl, .int .i64 d.room, .int .i64 d.arm, .bool d.dead]
  have hbel := bel_alloc (Below.refl w.heap.size w) (.cells #[sl, .int .i64 d.room, .int .i64 d.arm, .bool d.dead] 26)
  obtain ⟨q, c, rfl⟩ := h.slice
  generalize hW : w.alloc (.cells #[.slice q d.fs.length c, .int .i64 d.room, .int .i64 d.arm, .bool d.dead] 26) = w0 at R0 hbel
  have C1 := check_any d _ w0 (h.later hbel) hus
  obtain ⟨r, HR⟩ := hid_ex (ckD d)
  rw [HR.out] at C1
  go_enter Try.func33, Try.ntmps33
  go_wp2_with (first | rw [hW] | refine load_r 26 _ rfl rfl _ rfl R0 Try.underlying26 rfl size26 ?_)
  clear hW
  refine C1.mono ?_
  rintro e w1 ⟨rfl, hb1⟩
  replace R0 := R0.later hb1
  replace hbel := below_on hbel hb1
  have k3 : w1.cell? ⟨w.heap.size, 3, none⟩ = some (.bool d.dead) := R0.cell 3
  clear C1 hb1 R0
  cases r
  · obtain rfl : 3 = z := by rw [← HZ.out]; unfold offD; rw [HR.out]; rfl
    clear HZ HR
    go_wp2_with fail
    go_ret
    exact ⟨rfl, hbel⟩
  · cases hd : d.dead
    · rw [hd] at k3
      obtain rfl : 0 = z := by rw [← HZ.out]; unfold offD; rw [HR.out, hd]; rfl
      clear HZ HR
      go_wp2_with fail
      go_ret
      exact ⟨rfl, hbel⟩
    · rw [hd] at k3
      obtain rfl : 220 = z := by rw [← HZ.out]; unfold offD; rw [HR.out, hd]; rfl
      clear HZ HR
      go_wp2_with fail
      go_ret
      exact ⟨rfl, hbel⟩
set_option maxHeartbeats 2000000 in
theorem refused_any (d : DV) (sl : Value) (x : ByteArray) (w : World) (h : FHas w sl d.fs) (hus : us d.fs ≤ 1000000000) : Calls Try.prog 42 #[DKV.of sl d, .string x] w (Tells (.int .i64 (askD d x)) w) := by
  obtain ⟨z, HZ⟩ := hid_ex (askD d x)
  rw [HZ.out]
  rw [askD_eq] at HZ
  obtain ⟨q, c, rfl⟩ := h.slice
  have R0 := rw_new w 26 #[.slice q d.fs.length c, .int .i64 d.room, .int .i64 d.arm, .bool d.dead]
  have hbel := bel_alloc (Below.refl w.heap.size w) (.cells #[.slice q d.fs.length c, .int .i64 d.room, .int .i64 d.arm, .bool d.dead] 26)
  generalize hW : w.alloc (.cells #[.slice q d.fs.length c, .int .i64 d.room, .int .i64 d.arm, .bool d.dead] 26) = w0 at R0 hbel
  have C1 := off_any d _ w0 (h.later hbel) hus
  obtain ⟨r, HR⟩ := hid_ex (offD d)
  rw [HR.out] at C1 HZ
  have C2 := fun w' => isName_any x w'
  obtain ⟨n, HN⟩ := hid_ex (nmd x)
  simp only [HN.out] at C2
  rw [HN.out] at HZ
  clear HN HR
  go_enter Try.func42, Try.ntmps42
  go_wp2_with (first | rw [hW] | refine load_r 26 _ rfl rfl _ rfl R0 Try.underlying26 rfl size26 ?_)
  clear hW
  refine C1.mono ?_
  rintro e w1 ⟨rfl, hb1⟩
  replace hbel := below_on hbel hb1
  clear C1 hb1 R0
  by_cases h0 : r = 0
  · subst h0
    go_wp2_with fail
    refine (C2 w1).mono ?_
    rintro e w2 ⟨rfl, hb2⟩
    replace hbel := below_on hbel hb2
    clear C2 hb2
    cases n
    · obtain rfl : 2 = z := HZ.out
      go_wp2_with fail
      go_ret
      exact ⟨rfl, hbel⟩
    · obtain rfl : 0 = z := HZ.out
      go_wp2_with fail
      go_ret
      exact ⟨rfl, hbel⟩
  · obtain rfl : r = z := by rw [← HZ.out, if_pos h0]
    have g0 : (r == 0) = false := by rw [beq_eq_false_iff_ne]; exact h0
    go_wp2_with fail
    go_ret
    exact ⟨rfl, hbel⟩
end Go.Proofs.Ytjjncmenkepcoaa
