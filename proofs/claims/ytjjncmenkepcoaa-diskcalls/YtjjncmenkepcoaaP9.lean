import Derived.Test.YtjjncmenkepcoaaP8
import Derived.Test.YtjjncmenkepcoaaP1
/- What DiskTells says, over the program's calls. -/
namespace Go.Proofs.Ytjjncmenkepcoaa
open Go.RowKit

def DQ (d : DV) (z : Int) (w : World) (e : Ending) (w' : World) : Prop := ∃ p c, e = .returned (.tuple #[DKV.of (.slice p d.fs.length c) d, .int .i64 z]) ∧ FHas w' (.slice p d.fs.length c) d.fs ∧ Below w.heap.size w w'
theorem DB.rowBx {w : World} {v : Value} {l : List UInt8} {b c : Nat} {p : Option Addr} {d : DV} (h : DB w v l) (B : Bx w b p c d) (cs : Array Value) : DB (w.setRow b cs) v l := by
  refine SHas.row h (fun a m c' e hm e2 => ?_) cs
  obtain ⟨p', c'', e3⟩ := SHas.slice h
  rw [e3] at e h
  simp only [Value.slice.injEq] at e
  obtain ⟨rfl, rfl, rfl⟩ := e
  obtain ⟨g, o, e, hd⟩ := SHas.at h hm
  simp only [Option.some.injEq] at e
  subst e
  have h5 := hd 0 (.int .u8 (l[0]).toNat) (by simp [cel, List.getElem?_eq_getElem hm])
  rw [show g = b from e2, B.r.cell] at h5
  exact (dk_cells _ ⟨_, _, _, rfl⟩ _ _ _ _ _ h5).2 _ rfl
theorem few_tm {l : List FV} (h : fewD l = true) : l.length ≤ 80 ∧ us l ≤ 40000 := by
  unfold fewD fewF at h
  simp only [Bool.and_eq_true, decide_eq_true_eq] at h
  refine ⟨h.1, ?_⟩
  rcases Nat.eq_zero_or_pos l.length with h0 | h0
  · rw [List.length_eq_zero_iff.1 h0]
    exact Nat.zero_le _
  · have h1 := (h.2 (l.length - 1) (by omega)).2
    have h3 := us_take_succ (l := l) (k := l.length - 1) (by omega)
    rw [show l.length - 1 + 1 = l.length by omega, List.take_length] at h3
    omega
set_option maxHeartbeats 16000000 in
set_option maxRecDepth 100000 in
theorem dtells_law (K : Prk) (KH : ∀ w : World, Calls Try.prog 6 #[] w (Tells (.bool true) w)) (d : DV) (sl : Value) (x : ByteArray) (data : List UInt8) (u : Value) (n : Int) (w : World) (h : FHas w sl d.fs) (hu : DB w u data) (hr1 : -9223372036854775808 ≤ d.room) (hr2 : d.room ≤ 9223372036854775807) (ha1 : -9223372036854775808 ≤ d.arm) (ha2 : d.arm ≤ 9223372036854775807) (hn1 : -9223372036854775808 ≤ n) (hn2 : n ≤ 9223372036854775807) : Calls Try.prog 4 #[DKV.of sl d, .string x, u, .int .i64 n] w (Tells (.bool true) w) := by
  obtain ⟨q, c, rfl⟩ := h.slice
  obtain ⟨pu, cu, rfl⟩ := SHas.slice hu
  have hml := maxLen_lt h.max
  have hmu := maxLen_lt hu.1
  have HU : Hid (∀ w', Below w.heap.size w w' → DB w' (.slice pu data.length cu) data) := fun w' hb => SHas.later hu hb
  clear hu
  have B4 : Bx (w.alloc (.cells (dkc q c d) 26)) w.heap.size q c d := Bx.new h
  have hbel := bel_alloc (Below.refl w.heap.size w) (.cells (dkc q c d) 26)
  generalize hW : w.alloc (.cells (dkc q c d) 26) = w0 at B4 hbel
  clear h
  obtain ⟨few, HFW⟩ := hid_ex (fewD d.fs)
  have C0 := rFew_any d _ w0 B4.f
  rw [HFW.out] at C0
  go_enter Try.func4, Try.ntmps4
  go_wp2_with (first | rw [hW] | refine load_r 26 _ rfl rfl _ rfl B4.r Try.underlying26 rfl size26 ?_)
  clear hW
  refine C0.mono ?_
  rintro e w00 ⟨rfl, hb⟩
  replace B4 := B4.later hb
  replace hbel := below_on hbel hb
  clear C0 hb
  cases few
  case false =>
    go_wp2_with fail
    refine (KH w00).mono ?_
    rintro e w1 ⟨rfl, hb⟩
    go_wp2_with fail
    go_ret
    exact ⟨rfl, below_on hbel hb⟩
  by_cases h1 : (100 : Int) < (x.size : Int)
  · go_wp2_with fail
    refine (KH w00).mono ?_
    rintro e w1 ⟨rfl, hb⟩
    go_wp2_with fail
    go_ret
    exact ⟨rfl, below_on hbel hb⟩
  by_cases h2 : (3000 : Int) < (data.length : Int)
  · go_wp2_with fail
    refine (KH w00).mono ?_
    rintro e w1 ⟨rfl, hb⟩
    go_wp2_with fail
    go_ret
    exact ⟨rfl, below_on hbel hb⟩
  have hx : x.size ≤ 100 := by omega
  have hdl : data.length ≤ 6000 := by omega
  have hft := few_tm HFW.out
  have TM : Tm d := ⟨hft.1, by omega, hr1, hr2, ha1, ha2⟩
  clear hft HFW
  obtain ⟨⟨D1, z1⟩, E1⟩ := hid_ex (putD d x data)
  obtain ⟨⟨D2, z2⟩, E2⟩ := hid_ex (appD d x data)
  obtain ⟨⟨D3, z3⟩, E3⟩ := hid_ex (synD d x)
  obtain ⟨⟨D4, z4⟩, E4⟩ := hid_ex (droD d x)
  obtain ⟨⟨RB, z5⟩, E5⟩ := hid_ex (reaD d x)
  obtain ⟨⟨D6, z6⟩, E6⟩ := hid_ex (armD d n)
  obtain ⟨⟨D7, z7⟩, E7⟩ := hid_ex (newD n)
  obtain ⟨rc, E8⟩ := hid_ex (ckD d)
  obtain ⟨NL, E9⟩ := hid_ex (namD d)
  obtain ⟨DX, E10⟩ := hid_ex (craD d n)
  have P1 : ∀ w', FHas w' (.slice q d.fs.length c) d.fs → DB w' (.slice pu data.length cu) data → Calls Try.prog 9 #[DKV.of (.slice q d.fs.length c) d, .string x, (.slice pu data.length cu)] w' (DQ D1 z1 w') := fun w' h hu => by have := K.put d _ x data _ w' h TM hx hu hdl; rw [E1.out] at this; exact this
  have Q1 : ∀ w', FHas w' (.slice q d.fs.length c) d.fs → DB w' (.slice pu data.length cu) data → Calls Try.prog 13 #[DKV.of (.slice q d.fs.length c) d, .string x, (.slice pu data.length cu)] w' (DQ D1 z1 w') := fun w' h hu => by have := rPut_any d _ x data _ w' h hu (by omega) ha2; rw [E1.out] at this; exact this
  have P2 : ∀ w', FHas w' (.slice q d.fs.length c) d.fs → DB w' (.slice pu data.length cu) data → Calls Try.prog 14 #[DKV.of (.slice q d.fs.length c) d, .string x, (.slice pu data.length cu)] w' (DQ D2 z2 w') := fun w' h hu => by have := K.app d _ x data _ w' h TM hx hu hdl; rw [E2.out] at this; exact this
  have Q2 : ∀ w', FHas w' (.slice q d.fs.length c) d.fs → DB w' (.slice pu data.length cu) data → Calls Try.prog 15 #[DKV.of (.slice q d.fs.length c) d, .string x, (.slice pu data.length cu)] w' (DQ D2 z2 w') := fun w' h hu => by have := rAppend_any d _ x data _ w' h hu (by omega) ha2; rw [E2.out] at this; exact this
  have P3 : ∀ w', FHas w' (.slice q d.fs.length c) d.fs → Calls Try.prog 17 #[DKV.of (.slice q d.fs.length c) d, .string x] w' (DQ D3 z3 w') := fun w' h => by have := K.sync d _ x w' h TM hx; rw [E3.out] at this; exact this
  have Q3 : ∀ w', FHas w' (.slice q d.fs.length c) d.fs → Calls Try.prog 18 #[DKV.of (.slice q d.fs.length c) d, .string x] w' (DQ D3 z3 w') := fun w' h => by have := rSync_any d _ x w' h ha2; rw [E3.out] at this; exact this
  have P4 : ∀ w', FHas w' (.slice q d.fs.length c) d.fs → Calls Try.prog 19 #[DKV.of (.slice q d.fs.length c) d, .string x] w' (DQ D4 z4 w') := fun w' h => by have := K.drop d _ x w' h TM hx; rw [E4.out] at this; exact this
  have Q4 : ∀ w', FHas w' (.slice q d.fs.length c) d.fs → Calls Try.prog 20 #[DKV.of (.slice q d.fs.length c) d, .string x] w' (DQ D4 z4 w') := fun w' h => by have := rDrop_any d _ x w' h ha2; rw [E4.out] at this; exact this
  have P5 : ∀ w', FHas w' (.slice q d.fs.length c) d.fs → Calls Try.prog 10 #[DKV.of (.slice q d.fs.length c) d, .string x] w' (fun e w'' => ∃ u, e = .returned (.tuple #[u, .int .i64 z5]) ∧ DB w'' u RB ∧ Below w'.heap.size w' w'') := fun w' h => by have := K.read d _ x w' h TM hx; rw [E5.out] at this; exact this
  have Q5 : ∀ w', FHas w' (.slice q d.fs.length c) d.fs → Calls Try.prog 21 #[DKV.of (.slice q d.fs.length c) d, .string x] w' (fun e w'' => ∃ u, e = .returned (.tuple #[u, .int .i64 z5]) ∧ DB w'' u RB ∧ Below w'.heap.size w' w'') := fun w' h => by have := rRead_any d _ x w' h; rw [E5.out] at this; exact this
  have P6 : ∀ w', FHas w' (.slice q d.fs.length c) d.fs → Calls Try.prog 8 #[DKV.of (.slice q d.fs.length c) d, .int .i64 n] w' (DQ D6 z6 w') := fun w' h => by have := K.arm d _ n w' h TM hn1 hn2; rw [E6.out] at this; exact this
  have Q6 : ∀ w', FHas w' (.slice q d.fs.length c) d.fs → Calls Try.prog 22 #[DKV.of (.slice q d.fs.length c) d, .int .i64 n] w' (DQ D6 z6 w') := fun w' h => by have := rArm_any d _ n w' h; rw [E6.out] at this; exact this
  have P7 : ∀ w', Calls Try.prog 7 #[.int .i64 n] w' (DQ D7 z7 w') := fun w' => by have := K.new n w' hn1 hn2; rw [E7.out] at this; exact this
  have Q7 : ∀ w', Calls Try.prog 23 #[.int .i64 n] w' (DQ D7 z7 w') := fun w' => by have := rNew_any n w'; rw [E7.out] at this; exact this
  have P8 : ∀ w', FHas w' (.slice q d.fs.length c) d.fs → Calls Try.prog 25 #[DKV.of (.slice q d.fs.length c) d] w' (Tells (.bool rc) w') := fun w' h => by have := K.check d _ w' h TM; rw [E8.out] at this; exact this
  have Q8 : ∀ w', FHas w' (.slice q d.fs.length c) d.fs → Calls Try.prog 26 #[DKV.of (.slice q d.fs.length c) d] w' (Tells (.bool rc) w') := fun w' h => by have := rCheck_any d _ w' h; rw [E8.out] at this; exact this
  have P9 : ∀ w', FHas w' (.slice q d.fs.length c) d.fs → Calls Try.prog 28 #[DKV.of (.slice q d.fs.length c) d] w' (NmPost NL w') := fun w' h => by have := K.names d _ w' h TM; rw [E9.out] at this; exact this
  have Q9 : ∀ w', FHas w' (.slice q d.fs.length c) d.fs → Calls Try.prog 29 #[DKV.of (.slice q d.fs.length c) d] w' (NmPost NL w') := fun w' h => by have := rNames_any d _ w' h; rw [E9.out] at this; exact this
  have P10 : ∀ w', FHas w' (.slice q d.fs.length c) d.fs → Calls Try.prog 11 #[DKV.of (.slice q d.fs.length c) d, .int .i64 n] w' (DkPost DX w') := fun w' h => by have := K.crash d _ n w' h TM hn1 hn2; rw [E10.out] at this; exact this
  have Q10 : ∀ w', FHas w' (.slice q d.fs.length c) d.fs → Calls Try.prog 30 #[DKV.of (.slice q d.fs.length c) d, .int .i64 n] w' (DkPost DX w') := fun w' h => by have := rCrash_any d _ n w' h hn1 hn2; rw [E10.out] at this; exact this
  clear E1 E2 E3 E4 E5 E6 E7 E8 E9 E10 TM K
  go_wp2_with (first | refine load_r 26 _ rfl rfl _ rfl B4.r Try.underlying26 rfl size26 ?_)
  refine (P1 w00 B4.f (HU.out w00 hbel)).mono ?_
  rintro e w1 ⟨p1, c1, rfl, F, hb⟩
  replace B4 := B4.later hb
  replace hbel := below_on hbel hb
  clear hb
  have lt9 : w.heap.size < w1.heap.size := B4.lt
  have hba := bel_alloc (Below.refl w1.heap.size w1) (.cells (dkc p1 c1 D1) 26)
  replace B4 := B4.later hba
  replace hbel := below_on hbel hba
  have B9 := Bx.new F
  generalize hW : w1.alloc (.cells (dkc p1 c1 D1) 26) = v1 at B9 B4  hbel
  clear F hba
  go_wp2_with (first | rw [hW] | refine load_r 26 _ rfl rfl _ rfl B4.r Try.underlying26 rfl size26 ?_)
  clear hW
  refine (Q1 v1 B4.f (HU.out v1 hbel)).mono ?_
  rintro e w2 ⟨p2, c2, rfl, F, hb⟩
  replace B4 := B4.later hb
  replace B9 := B9.later hb
  replace hbel := below_on hbel hb
  clear hb
  have lt11 : w1.heap.size < w2.heap.size := B9.lt
  have hba := bel_alloc (Below.refl w2.heap.size w2) (.cells (dkc p2 c2 D1) 26)
  replace B4 := B4.later hba
  replace B9 := B9.later hba
  replace hbel := below_on hbel hba
  have B11 := Bx.new F
  generalize hW : w2.alloc (.cells (dkc p2 c2 D1) 26) = v2 at B11 B4 B9  hbel
  clear F hba
  go_wp2_with (first | rw [hW] | refine load_r 26 _ rfl rfl _ rfl B4.r Try.underlying26 rfl size26 ?_)
  clear hW
  refine (P2 v2 B4.f (HU.out v2 hbel)).mono ?_
  rintro e w3 ⟨p3, c3, rfl, F, hb⟩
  replace B4 := B4.later hb
  replace B9 := B9.later hb
  replace B11 := B11.later hb
  replace hbel := below_on hbel hb
  clear hb
  have lt13 : w2.heap.size < w3.heap.size := B11.lt
  have hba := bel_alloc (Below.refl w3.heap.size w3) (.cells (dkc p3 c3 D2) 26)
  replace B4 := B4.later hba
  replace B9 := B9.later hba
  replace B11 := B11.later hba
  replace hbel := below_on hbel hba
  have B13 := Bx.new F
  generalize hW : w3.alloc (.cells (dkc p3 c3 D2) 26) = v3 at B13 B4 B9 B11  hbel
  clear F hba
  go_wp2_with (first | rw [hW] | refine load_r 26 _ rfl rfl _ rfl B4.r Try.underlying26 rfl size26 ?_)
  clear hW
  refine (Q2 v3 B4.f (HU.out v3 hbel)).mono ?_
  rintro e w4 ⟨p4, c4, rfl, F, hb⟩
  replace B4 := B4.later hb
  replace B9 := B9.later hb
  replace B11 := B11.later hb
  replace B13 := B13.later hb
  replace hbel := below_on hbel hb
  clear hb
  have lt15 : w3.heap.size < w4.heap.size := B13.lt
  have hba := bel_alloc (Below.refl w4.heap.size w4) (.cells (dkc p4 c4 D2) 26)
  replace B4 := B4.later hba
  replace B9 := B9.later hba
  replace B11 := B11.later hba
  replace B13 := B13.later hba
  replace hbel := below_on hbel hba
  have B15 := Bx.new F
  generalize hW : w4.alloc (.cells (dkc p4 c4 D2) 26) = v4 at B15 B4 B9 B11 B13  hbel
  clear F hba
  go_wp2_with (first | rw [hW] | refine load_r 26 _ rfl rfl _ rfl B9.r Try.underlying26 rfl size26 ?_ | refine load_r 26 _ rfl rfl _ rfl B11.r Try.underlying26 rfl size26 ?_)
  clear hW
  refine (rSame_any D1 _ _ v4 B9.has B11.has).mono ?_
  rintro e w5 ⟨rfl, hb⟩
  replace B4 := B4.later hb
  replace B9 := B9.later hb
  replace B11 := B11.later hb
  replace B13 := B13.later hb
  replace B15 := B15.later hb
  replace hbel := below_on hbel hb
  clear hb
  go_wp2_with (first | refine load_r 26 _ rfl rfl _ rfl B13.r Try.underlying26 rfl size26 ?_ | refine load_r 26 _ rfl rfl _ rfl B15.r Try.underlying26 rfl size26 ?_)
  refine (rSame_any D2 _ _ w5 B13.has B15.has).mono ?_
  rintro e w6 ⟨rfl, hb⟩
  replace B4 := B4.later hb
  replace B9 := B9.later hb
  replace B11 := B11.later hb
  replace B13 := B13.later hb
  replace B15 := B15.later hb
  replace hbel := below_on hbel hb
  clear hb
  go_wp2_with (first | refine load_r 26 _ rfl rfl _ rfl B4.r Try.underlying26 rfl size26 ?_)
  refine (P3 w6 B4.f).mono ?_
  rintro e w7 ⟨p7, c7, rfl, F, hb⟩
  replace B4 := B4.later hb
  replace B9 := B9.later hb
  replace B11 := B11.later hb
  replace B13 := B13.later hb
  replace B15 := B15.later hb
  replace hbel := below_on hbel hb
  clear hb
  have Bs := B9
  replace B4 := B4.other Bs (by omega) (dkc p7 c7 D3)
  replace B11 := B11.other Bs (by omega) (dkc p7 c7 D3)
  replace B13 := B13.other Bs (by omega) (dkc p7 c7 D3)
  replace B15 := B15.other Bs (by omega) (dkc p7 c7 D3)
  replace B9 := B9.put F
  replace hbel := bel_row hbel (b := w1.heap.size) (by omega) (dkc p7 c7 D3)
  generalize hW : w7.setRow w1.heap.size (dkc p7 c7 D3) = v7 at B4 B9 B11 B13 B15  hbel
  clear F
  go_wp2_with (first | rw [hW] | refine store_r rfl 26 _ _ rfl _ _ rfl rfl Bs.r size26 rfl (by simp [Value.oneCell']) ?_ | refine load_r 26 _ rfl rfl _ rfl B4.r Try.underlying26 rfl size26 ?_)
  clear hW Bs
  refine (Q3 v7 B4.f).mono ?_
  rintro e w8 ⟨p8, c8, rfl, F, hb⟩
  replace B4 := B4.later hb
  replace B9 := B9.later hb
  replace B11 := B11.later hb
  replace B13 := B13.later hb
  replace B15 := B15.later hb
  replace hbel := below_on hbel hb
  clear hb
  have Bs := B11
  replace B4 := B4.other Bs (by omega) (dkc p8 c8 D3)
  replace B9 := B9.other Bs (by omega) (dkc p8 c8 D3)
  replace B13 := B13.other Bs (by omega) (dkc p8 c8 D3)
  replace B15 := B15.other Bs (by omega) (dkc p8 c8 D3)
  replace B11 := B11.put F
  replace hbel := bel_row hbel (b := w2.heap.size) (by omega) (dkc p8 c8 D3)
  generalize hW : w8.setRow w2.heap.size (dkc p8 c8 D3) = v8 at B4 B9 B11 B13 B15  hbel
  clear F
  go_wp2_with (first | rw [hW] | refine store_r rfl 26 _ _ rfl _ _ rfl rfl Bs.r size26 rfl (by simp [Value.oneCell']) ?_ | refine load_r 26 _ rfl rfl _ rfl B4.r Try.underlying26 rfl size26 ?_)
  clear hW Bs
  refine (P4 v8 B4.f).mono ?_
  rintro e w9 ⟨p9, c9, rfl, F, hb⟩
  replace B4 := B4.later hb
  replace B9 := B9.later hb
  replace B11 := B11.later hb
  replace B13 := B13.later hb
  replace B15 := B15.later hb
  replace hbel := below_on hbel hb
  clear hb
  have Bs := B13
  replace B4 := B4.other Bs (by omega) (dkc p9 c9 D4)
  replace B9 := B9.other Bs (by omega) (dkc p9 c9 D4)
  replace B11 := B11.other Bs (by omega) (dkc p9 c9 D4)
  replace B15 := B15.other Bs (by omega) (dkc p9 c9 D4)
  replace B13 := B13.put F
  replace hbel := bel_row hbel (b := w3.heap.size) (by omega) (dkc p9 c9 D4)
  generalize hW : w9.setRow w3.heap.size (dkc p9 c9 D4) = v9 at B4 B9 B11 B13 B15  hbel
  clear F
  go_wp2_with (first | rw [hW] | refine store_r rfl 26 _ _ rfl _ _ rfl rfl Bs.r size26 rfl (by simp [Value.oneCell']) ?_ | refine load_r 26 _ rfl rfl _ rfl B4.r Try.underlying26 rfl size26 ?_)
  clear hW Bs
  refine (Q4 v9 B4.f).mono ?_
  rintro e w10 ⟨p10, c10, rfl, F, hb⟩
  replace B4 := B4.later hb
  replace B9 := B9.later hb
  replace B11 := B11.later hb
  replace B13 := B13.later hb
  replace B15 := B15.later hb
  replace hbel := below_on hbel hb
  clear hb
  have Bs := B15
  replace B4 := B4.other Bs (by omega) (dkc p10 c10 D4)
  replace B9 := B9.other Bs (by omega) (dkc p10 c10 D4)
  replace B11 := B11.other Bs (by omega) (dkc p10 c10 D4)
  replace B13 := B13.other Bs (by omega) (dkc p10 c10 D4)
  replace B15 := B15.put F
  replace hbel := bel_row hbel (b := w4.heap.size) (by omega) (dkc p10 c10 D4)
  generalize hW : w10.setRow w4.heap.size (dkc p10 c10 D4) = v10 at B4 B9 B11 B13 B15  hbel
  clear F
  go_wp2_with (first | rw [hW] | refine store_r rfl 26 _ _ rfl _ _ rfl rfl Bs.r size26 rfl (by simp [Value.oneCell']) ?_ | refine load_r 26 _ rfl rfl _ rfl B9.r Try.underlying26 rfl size26 ?_ | refine load_r 26 _ rfl rfl _ rfl B11.r Try.underlying26 rfl size26 ?_)
  clear hW Bs
  refine (rSame_any D3 _ _ v10 B9.has B11.has).mono ?_
  rintro e w11 ⟨rfl, hb⟩
  replace B4 := B4.later hb
  replace B9 := B9.later hb
  replace B11 := B11.later hb
  replace B13 := B13.later hb
  replace B15 := B15.later hb
  replace hbel := below_on hbel hb
  clear hb
  go_wp2_with (first | refine load_r 26 _ rfl rfl _ rfl B13.r Try.underlying26 rfl size26 ?_ | refine load_r 26 _ rfl rfl _ rfl B15.r Try.underlying26 rfl size26 ?_)
  refine (rSame_any D4 _ _ w11 B13.has B15.has).mono ?_
  rintro e w12 ⟨rfl, hb⟩
  replace B4 := B4.later hb
  replace B9 := B9.later hb
  replace B11 := B11.later hb
  replace B13 := B13.later hb
  replace B15 := B15.later hb
  replace hbel := below_on hbel hb
  clear hb
  go_wp2_with (first | refine load_r 26 _ rfl rfl _ rfl B4.r Try.underlying26 rfl size26 ?_)
  refine (P5 w12 B4.f).mono ?_
  rintro e w13 ⟨ua, rfl, a1, hb⟩
  replace B4 := B4.later hb
  replace B9 := B9.later hb
  replace B11 := B11.later hb
  replace B13 := B13.later hb
  replace B15 := B15.later hb
  replace hbel := below_on hbel hb
  clear hb
  go_wp2_with (first | refine load_r 26 _ rfl rfl _ rfl B4.r Try.underlying26 rfl size26 ?_)
  refine (Q5 w13 B4.f).mono ?_
  rintro e w14 ⟨ub, rfl, a2, hb⟩
  replace B4 := B4.later hb
  replace B9 := B9.later hb
  replace B11 := B11.later hb
  replace B13 := B13.later hb
  replace B15 := B15.later hb
  replace a1 := SHas.later a1 hb
  replace hbel := below_on hbel hb
  clear hb
  go_wp2_with (first | refine load_r 26 _ rfl rfl _ rfl B4.r Try.underlying26 rfl size26 ?_)
  refine (P6 w14 B4.f).mono ?_
  rintro e w15 ⟨p15, c15, rfl, F, hb⟩
  replace B4 := B4.later hb
  replace B9 := B9.later hb
  replace B11 := B11.later hb
  replace B13 := B13.later hb
  replace B15 := B15.later hb
  replace a1 := SHas.later a1 hb
  replace a2 := SHas.later a2 hb
  replace hbel := below_on hbel hb
  clear hb
  have Bs := B9
  replace B4 := B4.other Bs (by omega) (dkc p15 c15 D6)
  replace B11 := B11.other Bs (by omega) (dkc p15 c15 D6)
  replace B13 := B13.other Bs (by omega) (dkc p15 c15 D6)
  replace B15 := B15.other Bs (by omega) (dkc p15 c15 D6)
  replace a1 := DB.rowBx a1 Bs (dkc p15 c15 D6)
  replace a2 := DB.rowBx a2 Bs (dkc p15 c15 D6)
  replace B9 := B9.put F
  replace hbel := bel_row hbel (b := w1.heap.size) (by omega) (dkc p15 c15 D6)
  generalize hW : w15.setRow w1.heap.size (dkc p15 c15 D6) = v15 at B4 B9 B11 B13 B15 a1 a2 hbel
  clear F
  go_wp2_with (first | rw [hW] | refine store_r rfl 26 _ _ rfl _ _ rfl rfl Bs.r size26 rfl (by simp [Value.oneCell']) ?_ | refine load_r 26 _ rfl rfl _ rfl B4.r Try.underlying26 rfl size26 ?_)
  clear hW Bs
  refine (Q6 v15 B4.f).mono ?_
  rintro e w16 ⟨p16, c16, rfl, F, hb⟩
  replace B4 := B4.later hb
  replace B9 := B9.later hb
  replace B11 := B11.later hb
  replace B13 := B13.later hb
  replace B15 := B15.later hb
  replace a1 := SHas.later a1 hb
  replace a2 := SHas.later a2 hb
  replace hbel := below_on hbel hb
  clear hb
  have Bs := B11
  replace B4 := B4.other Bs (by omega) (dkc p16 c16 D6)
  replace B9 := B9.other Bs (by omega) (dkc p16 c16 D6)
  replace B13 := B13.other Bs (by omega) (dkc p16 c16 D6)
  replace B15 := B15.other Bs (by omega) (dkc p16 c16 D6)
  replace a1 := DB.rowBx a1 Bs (dkc p16 c16 D6)
  replace a2 := DB.rowBx a2 Bs (dkc p16 c16 D6)
  replace B11 := B11.put F
  replace hbel := bel_row hbel (b := w2.heap.size) (by omega) (dkc p16 c16 D6)
  generalize hW : w16.setRow w2.heap.size (dkc p16 c16 D6) = v16 at B4 B9 B11 B13 B15 a1 a2 hbel
  clear F
  go_wp2_with (first | rw [hW] | refine store_r rfl 26 _ _ rfl _ _ rfl rfl Bs.r size26 rfl (by simp [Value.oneCell']) ?_)
  clear hW Bs
  refine (P7 v16).mono ?_
  rintro e w17 ⟨p17, c17, rfl, F, hb⟩
  replace B4 := B4.later hb
  replace B9 := B9.later hb
  replace B11 := B11.later hb
  replace B13 := B13.later hb
  replace B15 := B15.later hb
  replace a1 := SHas.later a1 hb
  replace a2 := SHas.later a2 hb
  replace hbel := below_on hbel hb
  clear hb
  have Bs := B13
  replace B4 := B4.other Bs (by omega) (dkc p17 c17 D7)
  replace B9 := B9.other Bs (by omega) (dkc p17 c17 D7)
  replace B11 := B11.other Bs (by omega) (dkc p17 c17 D7)
  replace B15 := B15.other Bs (by omega) (dkc p17 c17 D7)
  replace a1 := DB.rowBx a1 Bs (dkc p17 c17 D7)
  replace a2 := DB.rowBx a2 Bs (dkc p17 c17 D7)
  replace B13 := B13.put F
  replace hbel := bel_row hbel (b := w3.heap.size) (by omega) (dkc p17 c17 D7)
  generalize hW : w17.setRow w3.heap.size (dkc p17 c17 D7) = v17 at B4 B9 B11 B13 B15 a1 a2 hbel
  clear F
  go_wp2_with (first | rw [hW] | refine store_r rfl 26 _ _ rfl _ _ rfl rfl Bs.r size26 rfl (by simp [Value.oneCell']) ?_)
  clear hW Bs
  refine (Q7 v17).mono ?_
  rintro e w18 ⟨p18, c18, rfl, F, hb⟩
  replace B4 := B4.later hb
  replace B9 := B9.later hb
  replace B11 := B11.later hb
  replace B13 := B13.later hb
  replace B15 := B15.later hb
  replace a1 := SHas.later a1 hb
  replace a2 := SHas.later a2 hb
  replace hbel := below_on hbel hb
  clear hb
  have Bs := B15
  replace B4 := B4.other Bs (by omega) (dkc p18 c18 D7)
  replace B9 := B9.other Bs (by omega) (dkc p18 c18 D7)
  replace B11 := B11.other Bs (by omega) (dkc p18 c18 D7)
  replace B13 := B13.other Bs (by omega) (dkc p18 c18 D7)
  replace a1 := DB.rowBx a1 Bs (dkc p18 c18 D7)
  replace a2 := DB.rowBx a2 Bs (dkc p18 c18 D7)
  replace B15 := B15.put F
  replace hbel := bel_row hbel (b := w4.heap.size) (by omega) (dkc p18 c18 D7)
  generalize hW : w18.setRow w4.heap.size (dkc p18 c18 D7) = v18 at B4 B9 B11 B13 B15 a1 a2 hbel
  clear F
  go_wp2_with (first | rw [hW] | refine store_r rfl 26 _ _ rfl _ _ rfl rfl Bs.r size26 rfl (by simp [Value.oneCell']) ?_)
  clear hW Bs
  replace B4 := B4.drew
  replace B9 := B9.drew
  replace B11 := B11.drew
  replace B13 := B13.drew
  replace B15 := B15.drew
  replace a1 := SHas.drew a1
  replace a2 := SHas.drew a2
  replace hbel := hbel.drew
  refine HeldI.region (fun w' : World => w'.rangeAt (w.heap.size) 0 [.slice q d.fs.length c, .int .i64 d.room, .int .i64 d.arm, .bool d.dead] ∧ w'.rangeAt (w1.heap.size) 0 [.slice p15 D6.fs.length c15, .int .i64 D6.room, .int .i64 D6.arm, .bool D6.dead] ∧ w'.rangeAt (w2.heap.size) 0 [.slice p16 D6.fs.length c16, .int .i64 D6.room, .int .i64 D6.arm, .bool D6.dead] ∧ w'.rangeAt (w3.heap.size) 0 [.slice p17 D7.fs.length c17, .int .i64 D7.room, .int .i64 D7.arm, .bool D7.dead] ∧ w'.rangeAt (w4.heap.size) 0 [.slice p18 D7.fs.length c18, .int .i64 D7.room, .int .i64 D7.arm, .bool D7.dead]) (by kernel_rfl) ?_
  generalize v18.drew = wd at B4 B9 B11 B13 B15 a1 a2 hbel ⊢
  have hS := And.intro B4.range (And.intro B9.range (And.intro B11.range (And.intro B13.range (B15.range))))
  refine HeldI.pu 0 hS ?_
  refine HeldI.pu 1 hS ?_
  refine HeldI.kn 2 (rBytes_any ua ub RB wd a1 a2) ?_
  rintro e w19 ⟨rfl, hb⟩
  replace B4 := B4.later hb
  replace B9 := B9.later hb
  replace B11 := B11.later hb
  replace B13 := B13.later hb
  replace B15 := B15.later hb
  replace a1 := SHas.later a1 hb
  replace a2 := SHas.later a2 hb
  replace hbel := below_on hbel hb
  clear hb hS
  have hS := And.intro B4.range (And.intro B9.range (And.intro B11.range (And.intro B13.range (B15.range))))
  refine ⟨_, rfl, hS, ?_⟩
  refine HeldI.pu 3 hS ?_
  refine HeldI.pu 4 hS ?_
  refine HeldI.pu 5 hS ?_
  refine HeldI.pu 6 hS ?_
  refine HeldI.pu 7 hS ?_
  refine HeldI.pu 8 hS ?_
  refine HeldI.lm 9 size26 (fun _ h => h.2.1) Try.underlying26 hS ?_
  refine HeldI.lm 10 size26 (fun _ h => h.2.2.1) Try.underlying26 hS ?_
  refine HeldI.kn 11 (rSame_any D6 _ _ w19 B9.has B11.has) ?_
  rintro e w20 ⟨rfl, hb⟩
  replace B4 := B4.later hb
  replace B9 := B9.later hb
  replace B11 := B11.later hb
  replace B13 := B13.later hb
  replace B15 := B15.later hb
  replace a1 := SHas.later a1 hb
  replace a2 := SHas.later a2 hb
  replace hbel := below_on hbel hb
  clear hb hS
  have hS := And.intro B4.range (And.intro B9.range (And.intro B11.range (And.intro B13.range (B15.range))))
  refine ⟨_, rfl, hS, ?_⟩
  refine HeldI.pu 12 hS ?_
  refine HeldI.pu 13 hS ?_
  refine HeldI.pu 14 hS ?_
  refine HeldI.pu 15 hS ?_
  refine HeldI.pu 16 hS ?_
  refine HeldI.pu 17 hS ?_
  refine HeldI.pu 18 hS ?_
  refine HeldI.lm 19 size26 (fun _ h => h.2.2.2.1) Try.underlying26 hS ?_
  refine HeldI.lm 20 size26 (fun _ h => h.2.2.2.2) Try.underlying26 hS ?_
  refine HeldI.kn 21 (rSame_any D7 _ _ w20 B13.has B15.has) ?_
  rintro e w21 ⟨rfl, hb⟩
  replace B4 := B4.later hb
  replace B9 := B9.later hb
  replace B11 := B11.later hb
  replace B13 := B13.later hb
  replace B15 := B15.later hb
  replace a1 := SHas.later a1 hb
  replace a2 := SHas.later a2 hb
  replace hbel := below_on hbel hb
  clear hb hS
  have hS := And.intro B4.range (And.intro B9.range (And.intro B11.range (And.intro B13.range (B15.range))))
  refine ⟨_, rfl, hS, ?_⟩
  refine HeldI.pu 22 hS ?_
  refine HeldI.pu 23 hS ?_
  refine HeldI.pu 24 hS ?_
  refine HeldI.pu 25 hS ?_
  refine HeldI.pu 26 hS ?_
  refine HeldI.pu 27 hS ?_
  refine HeldI.pu 28 hS ?_
  refine HeldI.lm 29 size26 (fun _ h => h.1) Try.underlying26 hS ?_
  refine HeldI.lm 31 size26 (fun _ h => h.1) Try.underlying26 hS ?_
  refine HeldI.kn 30 (P8 w21 B4.f) ?_
  rintro e w22 ⟨rfl, hb⟩
  replace B4 := B4.later hb
  replace B9 := B9.later hb
  replace B11 := B11.later hb
  replace B13 := B13.later hb
  replace B15 := B15.later hb
  replace a1 := SHas.later a1 hb
  replace a2 := SHas.later a2 hb
  replace hbel := below_on hbel hb
  clear hb hS
  have hS := And.intro B4.range (And.intro B9.range (And.intro B11.range (And.intro B13.range (B15.range))))
  refine ⟨_, rfl, hS, ?_⟩
  refine HeldI.kn 32 (Q8 w22 B4.f) ?_
  rintro e w23 ⟨rfl, hb⟩
  replace B4 := B4.later hb
  replace B9 := B9.later hb
  replace B11 := B11.later hb
  replace B13 := B13.later hb
  replace B15 := B15.later hb
  replace a1 := SHas.later a1 hb
  replace a2 := SHas.later a2 hb
  replace hbel := below_on hbel hb
  clear hb hS
  have hS := And.intro B4.range (And.intro B9.range (And.intro B11.range (And.intro B13.range (B15.range))))
  refine ⟨_, rfl, hS, ?_⟩
  refine HeldI.pu 33 hS ?_
  refine HeldI.pu 34 hS ?_
  refine HeldI.pu 35 hS ?_
  refine HeldI.lm 36 size26 (fun _ h => h.1) Try.underlying26 hS ?_
  refine HeldI.lm 38 size26 (fun _ h => h.1) Try.underlying26 hS ?_
  refine HeldI.kn 37 (P9 w23 B4.f) ?_
  rintro e w24 ⟨un, rfl, t1, hb⟩
  replace B4 := B4.later hb
  replace B9 := B9.later hb
  replace B11 := B11.later hb
  replace B13 := B13.later hb
  replace B15 := B15.later hb
  replace a1 := SHas.later a1 hb
  replace a2 := SHas.later a2 hb
  replace hbel := below_on hbel hb
  clear hb hS
  have hS := And.intro B4.range (And.intro B9.range (And.intro B11.range (And.intro B13.range (B15.range))))
  refine ⟨_, rfl, hS, ?_⟩
  refine HeldI.kn 39 (Q9 w24 B4.f) ?_
  rintro e w25 ⟨um, rfl, t2, hb⟩
  replace B4 := B4.later hb
  replace B9 := B9.later hb
  replace B11 := B11.later hb
  replace B13 := B13.later hb
  replace B15 := B15.later hb
  replace a1 := SHas.later a1 hb
  replace a2 := SHas.later a2 hb
  replace hbel := below_on hbel hb
  replace t1 := SHas.later t1 hb
  clear hb hS
  have hS := And.intro B4.range (And.intro B9.range (And.intro B11.range (And.intro B13.range (B15.range))))
  refine ⟨_, rfl, hS, ?_⟩
  refine HeldI.kn 40 (rTexts_any un um NL w25 t1 t2) ?_
  rintro e w26 ⟨rfl, hb⟩
  replace B4 := B4.later hb
  replace B9 := B9.later hb
  replace B11 := B11.later hb
  replace B13 := B13.later hb
  replace B15 := B15.later hb
  replace a1 := SHas.later a1 hb
  replace a2 := SHas.later a2 hb
  replace hbel := below_on hbel hb
  clear hb hS
  have hS := And.intro B4.range (And.intro B9.range (And.intro B11.range (And.intro B13.range (B15.range))))
  refine ⟨_, rfl, hS, ?_⟩
  refine HeldI.pu 41 hS ?_
  refine HeldI.pu 42 hS ?_
  refine HeldI.lm 43 size26 (fun _ h => h.1) Try.underlying26 hS ?_
  refine HeldI.pu 44 hS ?_
  refine HeldI.lm 46 size26 (fun _ h => h.1) Try.underlying26 hS ?_
  refine HeldI.pu 47 hS ?_
  refine HeldI.kn 45 (P10 w26 B4.f) ?_
  rintro e w27 ⟨px, cx, rfl, g1, hb⟩
  replace B4 := B4.later hb
  replace B9 := B9.later hb
  replace B11 := B11.later hb
  replace B13 := B13.later hb
  replace B15 := B15.later hb
  replace a1 := SHas.later a1 hb
  replace a2 := SHas.later a2 hb
  replace hbel := below_on hbel hb
  clear hb hS
  have hS := And.intro B4.range (And.intro B9.range (And.intro B11.range (And.intro B13.range (B15.range))))
  refine ⟨_, rfl, hS, ?_⟩
  have H1 : DHas _ _ DX := ⟨_, rfl, g1⟩
  refine HeldI.kn 48 (Q10 w27 B4.f) ?_
  rintro e w28 ⟨py, cy, rfl, g2, hb⟩
  replace B4 := B4.later hb
  replace B9 := B9.later hb
  replace B11 := B11.later hb
  replace B13 := B13.later hb
  replace B15 := B15.later hb
  replace a1 := SHas.later a1 hb
  replace a2 := SHas.later a2 hb
  replace hbel := below_on hbel hb
  replace H1 := DHas.later H1 hb
  clear hb hS
  have hS := And.intro B4.range (And.intro B9.range (And.intro B11.range (And.intro B13.range (B15.range))))
  refine ⟨_, rfl, hS, ?_⟩
  have H2 : DHas _ _ DX := ⟨_, rfl, g2⟩
  refine HeldI.kn 49 (rSame_any DX _ _ w28 H1 H2) ?_
  rintro e w29 ⟨rfl, hb⟩
  replace B4 := B4.later hb
  replace B9 := B9.later hb
  replace B11 := B11.later hb
  replace B13 := B13.later hb
  replace B15 := B15.later hb
  replace a1 := SHas.later a1 hb
  replace a2 := SHas.later a2 hb
  replace hbel := below_on hbel hb
  clear hb hS
  have hS := And.intro B4.range (And.intro B9.range (And.intro B11.range (And.intro B13.range (B15.range))))
  refine ⟨_, rfl, hS, ?_⟩
  refine HeldI.pu 50 hS ?_
  refine HeldI.pu 51 hS ?_
  refine HeldI.kn 52 (KH w29) ?_
  rintro e w30 ⟨rfl, hb⟩
  replace B4 := B4.later hb
  replace B9 := B9.later hb
  replace B11 := B11.later hb
  replace B13 := B13.later hb
  replace B15 := B15.later hb
  replace a1 := SHas.later a1 hb
  replace a2 := SHas.later a2 hb
  replace hbel := below_on hbel hb
  clear hb hS
  have hS := And.intro B4.range (And.intro B9.range (And.intro B11.range (And.intro B13.range (B15.range))))
  refine ⟨_, rfl, hS, ?_⟩
  refine HeldI.pu 53 hS ?_
  refine HeldI.pu 54 hS ?_
  refine HeldI.dn ?_
  go_wp2_with fail
  go_ret
  exact ⟨rfl, hbel⟩
end Go.Proofs.Ytjjncmenkepcoaa
/- What the calls of the statements' own examples come to. Nothing of the program. -/
namespace Go.Proofs.Ytjjncmenkepcoaa
open Go.RowKit

abbrev L108 : ByteArray := ⟨#[108]⟩
abbrev K107 : ByteArray := ⟨#[107]⟩
abbrev h0 : DV := ⟨[], 6, -1, false⟩
abbrev h1 : DV := ⟨[⟨L108, [97, 98], 0⟩], 6, -1, false⟩
abbrev h2 : DV := ⟨[⟨L108, [97, 98], 2⟩], 6, -1, false⟩
abbrev h3 : DV := ⟨[⟨L108, [97, 98, 99, 100], 2⟩], 6, -1, false⟩
abbrev h4 : DV := ⟨[⟨L108, [97, 98, 99], 3⟩], 6, -1, false⟩
abbrev h5 : DV := ⟨[⟨L108, [97, 98, 99, 100], 2⟩], 6, 0, false⟩
abbrev h6 : DV := ⟨[⟨L108, [97, 98, 99, 100], 2⟩], 6, 0, true⟩
abbrev h7 : DV := ⟨[⟨K107, [122], 1⟩, ⟨L108, [97, 98, 99, 100], 2⟩], 6, -1, false⟩
theorem hv0 : newD 6 = (h0, 0) := by kernel_rfl
theorem hv1 : appD h0 L108 [97, 98] = (h1, 0) := by kernel_rfl
theorem hv2 : synD h1 L108 = (h2, 0) := by kernel_rfl
theorem hv3 : appD h2 L108 [99, 100] = (h3, 0) := by kernel_rfl
theorem hv4 : craD h3 1 = h4 := by kernel_rfl
theorem hv5 : reaD h4 L108 = ([97, 98, 99], 0) := by kernel_rfl
theorem hv6 : appD h3 L108 [101, 102, 103] = (h3, 4) := by kernel_rfl
theorem hv7 : armD h3 0 = (h5, 0) := by kernel_rfl
theorem hv8 : putD h5 L108 [] = (h6, 220) := by kernel_rfl
theorem hv9 : reaD h6 L108 = ([], 220) := by kernel_rfl
theorem hv10 : putD h3 K107 [122] = (h7, 0) := by kernel_rfl
theorem hv11 : droD h0 K107 = (h0, 7) := by kernel_rfl
theorem hv12 : namD h7 = [K107, L108] := by kernel_rfl
theorem hv13 : ckD h6 = true := by kernel_rfl
end Go.Proofs.Ytjjncmenkepcoaa
