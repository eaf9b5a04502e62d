/- What must come at any rate (heads). -/
import Derived.Test.YtefpdcpcjfjblaaRap
import Derived.Test.YtefpdcpcjfjblaaRli
namespace Go.Proofs.Ytefpdcpcjfjblaa
open Go.RowKit

abbrev o1 : O := ⟨7, ⟨#[]⟩, ⟨#[]⟩, 0, 1, 2, ⟨#[]⟩, 0, 0, 0⟩
abbrev o2 : O := ⟨7, ⟨#[]⟩, ⟨#[]⟩, 0, 2, 1, ⟨#[]⟩, 0, 0, 0⟩
theorem new_oh (w : World) (x : O) : OHas (w.alloc (.cells x.cells.toArray 46)) (.slice (some ⟨w.heap.size, 0, none⟩) 1 1) [x] :=
  ⟨_, 1, rfl, (by show 1 ≤ maxLen; decide), fun _ => ⟨_, 0, rfl, fun i hi => by
    obtain rfl : i = 0 := by simpa using hi
    exact (rw_new w 46 x.cells.toArray).range _ _ (fun j u hu => by simpa using hu)⟩⟩
theorem new_ints (w : World) (l : List Int) (hl : l.length ≤ maxLen) : IHas (w.alloc (.cells (vals l).toArray 3)) (.slice (some ⟨w.heap.size, 0, none⟩) l.length l.length) l :=
  ⟨hl, by rw [vals_length, Nat.mul_one], .inr ⟨_, l.length, rfl, ⟨Nat.le_refl _, hl⟩, fun _ => ⟨_, 0, rfl, (rw_new w 3 (vals l).toArray).range _ _ (fun j u hu => by rw [Nat.zero_add, List.getElem?_toArray]; exact hu)⟩⟩⟩
theorem new1 (w : World) : IHas (w.alloc (.cells #[.int .i64 1] 3)) (.slice (some ⟨w.heap.size, 0, none⟩) 1 1) [1] := new_ints w [1] (by decide)
theorem new2 (w : World) : IHas (w.alloc (.cells #[.int .i64 2] 3)) (.slice (some ⟨w.heap.size, 0, none⟩) 1 1) [2] := new_ints w [2] (by decide)
theorem new12 (w : World) : IHas (w.alloc (.cells #[.int .i64 1, .int .i64 2] 3)) (.slice (some ⟨w.heap.size, 0, none⟩) 2 2) [1, 2] := new_ints w [1, 2] (by decide)
theorem new21 (w : World) : IHas (w.alloc (.cells #[.int .i64 2, .int .i64 1] 3)) (.slice (some ⟨w.heap.size, 0, none⟩) 2 2) [2, 1] := new_ints w [2, 1] (by decide)
theorem hd_a1 : apJ [1] [] 1 1 zeros 1 [o1] = [1, 2] ∧ apL [1] [] 1 1 zeros 1 [o1] = [] := by decide +kernel
theorem hd_a2 : apJ [1, 2] [] 2 1 zeros 1 [o2] = [1, 2] ∧ apL [1, 2] [] 2 1 zeros 1 [o2] = [1] := by decide +kernel
theorem hd_l : lvL [1, 2] [] = [1, 2] ∧ lvL [1, 2] [1] = [2] ∧ ep [1, 2] [] = 2 ∧ ep [1, 2] [1] = 3 ∧ ckI [1, 2] = true ∧ ckI [2, 1] = false := by decide +kernel
theorem hd_apply1 (w : World) (va vb sl : Value) (ha : IHas w va [1]) (hb : IHas w vb []) (ho : OHas w sl [o1]) : Calls Try.prog 12 #[va, vb, TxV 1 1 zeros 1 sl] w (ApPost [1, 2] [] w) := by
  have C := apply_any [1] [] va vb 1 1 zeros 1 sl [o1] w ha hb rfl ho (by decide) (by decide)
  rwa [hd_a1.1, hd_a1.2] at C
theorem hd_apply2 (w : World) (va vb sl : Value) (ha : IHas w va [1, 2]) (hb : IHas w vb []) (ho : OHas w sl [o2]) : Calls Try.prog 12 #[va, vb, TxV 2 1 zeros 1 sl] w (ApPost [1, 2] [1] w) := by
  have C := apply_any [1, 2] [] va vb 2 1 zeros 1 sl [o2] w ha hb rfl ho (by decide) (by decide)
  rwa [hd_a2.1, hd_a2.2] at C
theorem hd_live1 (w : World) (va vb : Value) (ha : IHas w va [1, 2]) (hb : IHas w vb []) : Calls Try.prog 8 #[va, vb] w (IPost [1, 2] w) := by
  have C := live_any [1, 2] [] va vb w ha hb
  rwa [hd_l.1] at C
theorem hd_live2 (w : World) (va vb : Value) (ha : IHas w va [1, 2]) (hb : IHas w vb [1]) : Calls Try.prog 8 #[va, vb] w (IPost [2] w) := by
  have C := live_any [1, 2] [1] va vb w ha hb
  rwa [hd_l.2.1] at C
theorem hd_ep1 (w : World) (va vb : Value) (ha : IHas w va [1, 2]) (hb : IHas w vb []) : Calls Try.prog 16 #[va, vb] w (Tells (.int .i64 2) w) := by
  have C := epoch_any [1, 2] [] va vb w ha hb
  rwa [hd_l.2.2.1] at C
theorem hd_ep2 (w : World) (va vb : Value) (ha : IHas w va [1, 2]) (hb : IHas w vb [1]) : Calls Try.prog 16 #[va, vb] w (Tells (.int .i64 3) w) := by
  have C := epoch_any [1, 2] [1] va vb w ha hb
  rwa [hd_l.2.2.2.1] at C
theorem hd_ck1 (w : World) (va : Value) (ha : IHas w va [1, 2]) : Calls Try.prog 10 #[va] w (Tells (.bool true) w) := by
  have C := rosCheck_any [1, 2] va w ha
  rwa [hd_l.2.2.2.2.1] at C
theorem hd_ck2 (w : World) (va : Value) (ha : IHas w va [2, 1]) : Calls Try.prog 10 #[va] w (Tells (.bool false) w) := by
  have C := rosCheck_any [2, 1] va w ha
  rwa [hd_l.2.2.2.2.2] at C
theorem hd_ints (w : World) (l : List Int) (va vb : Value) (ha : IHas w va l) (hb : IHas w vb l) : Calls Try.prog 14 #[va, vb] w (Tells (.bool true) w) := by
  have C := ints_any l l va vb w ha hb
  rwa [decide_eq_true rfl] at C
set_option maxHeartbeats 4000000 in
set_option maxRecDepth 100000 in
theorem heads_any (w : World) : Calls Try.prog 7 #[] w (Tells (.bool true) w) := by
  go_enter Try.func7, Try.ntmps7
  go_upto_region 2 with fail
  have O1 := (new_oh w o1).later (bel_alloc (Below.refl _ _) (.cells (txc 1 1 zeros 1 (.slice (some ⟨w.heap.size, 0, none⟩) 1 1)).toArray 34))
  have R1 := rw_new (w.alloc (.cells o1.cells.toArray 46)) 34 (txc 1 1 zeros 1 (.slice (some ⟨w.heap.size, 0, none⟩) 1 1)).toArray
  have B1 : Below w.heap.size w ((w.alloc (.cells o1.cells.toArray 46)).alloc (.cells (txc 1 1 zeros 1 (.slice (some ⟨w.heap.size, 0, none⟩) 1 1)).toArray 34)) := bel_alloc (bel_alloc (Below.refl _ _) _) _
  have e1 : (w.alloc (.cells o1.cells.toArray 46)).heap.size = w.heap.size + 1 := by simp
  rw [e1] at R1
  clear e1
  generalize hW1 : (w.alloc (.cells #[.int .i64 7, .string ⟨#[]⟩, .string ⟨#[]⟩, .int .i64 0, .int .i64 1, .int .i64 2, .string ⟨#[]⟩, .int .i64 0, .int .i64 0, .int .i64 0] 46)).alloc (.cells #[.int .i64 1, .int .i64 1, .int .i64 0, .int .i64 0, .int .i64 0, .int .i64 0, .int .i64 0, .int .i64 0, .int .i64 0, .int .i64 0, .int .i64 0, .int .i64 0, .int .i64 0, .int .i64 0, .int .i64 0, .int .i64 1, .slice (some ⟨w.heap.size, 0, none⟩) 1 1] 34) = w1
  change OHas _ _ _ at O1
  have O1' : OHas w1 (.slice (some ⟨w.heap.size, 0, none⟩) 1 1) [o1] := hW1 ▸ O1
  have R1' : Rw w1 (w.heap.size + 1) 34 (txc 1 1 zeros 1 (.slice (some ⟨w.heap.size, 0, none⟩) 1 1)).toArray := hW1 ▸ R1
  have B1' : Below w.heap.size w w1 := hW1 ▸ B1
  clear hW1 O1 R1 B1
  go_upto_region 3 with fail
  have O2 := (new_oh w1 o2).later (bel_alloc (Below.refl _ _) (.cells (txc 2 1 zeros 1 (.slice (some ⟨w1.heap.size, 0, none⟩) 1 1)).toArray 34))
  have R2 := rw_new (w1.alloc (.cells o2.cells.toArray 46)) 34 (txc 2 1 zeros 1 (.slice (some ⟨w1.heap.size, 0, none⟩) 1 1)).toArray
  have B2 : Below w1.heap.size w1 ((w1.alloc (.cells o2.cells.toArray 46)).alloc (.cells (txc 2 1 zeros 1 (.slice (some ⟨w1.heap.size, 0, none⟩) 1 1)).toArray 34)) := bel_alloc (bel_alloc (Below.refl _ _) _) _
  have e1 : (w1.alloc (.cells o2.cells.toArray 46)).heap.size = w1.heap.size + 1 := by simp
  rw [e1] at R2
  clear e1
  generalize hW2 : (w1.alloc (.cells #[.int .i64 7, .string ⟨#[]⟩, .string ⟨#[]⟩, .int .i64 0, .int .i64 2, .int .i64 1, .string ⟨#[]⟩, .int .i64 0, .int .i64 0, .int .i64 0] 46)).alloc (.cells #[.int .i64 2, .int .i64 1, .int .i64 0, .int .i64 0, .int .i64 0, .int .i64 0, .int .i64 0, .int .i64 0, .int .i64 0, .int .i64 0, .int .i64 0, .int .i64 0, .int .i64 0, .int .i64 0, .int .i64 0, .int .i64 1, .slice (some ⟨w1.heap.size, 0, none⟩) 1 1] 34) = w2
  have O2' : OHas w2 (.slice (some ⟨w1.heap.size, 0, none⟩) 1 1) [o2] := hW2 ▸ O2
  have R2' : Rw w2 (w1.heap.size + 1) 34 (txc 2 1 zeros 1 (.slice (some ⟨w1.heap.size, 0, none⟩) 1 1)).toArray := hW2 ▸ R2
  have B2' : Below w1.heap.size w1 w2 := hW2 ▸ B2
  replace O1' := O1'.later B2'
  replace R1' := R1'.later B2'
  replace B1' := below_on B1' B2'
  clear hW2 O2 R2 B2 B2'
  generalize w1.heap.size = s1 at O2' R2'
  have N1 := new1 w2
  have hbA := bel_alloc (Below.refl w2.heap.size w2) (.cells #[.int .i64 1] 3)
  generalize hW3 : w2.alloc (.cells #[.int .i64 1] 3) = w3 at N1 hbA
  have R3 := R1'.later hbA
  have R4 := R2'.later hbA
  have C1 := hd_apply1 w3 _ _ _ N1 (SHas.nil _ _) (O1'.later hbA)
  have O3 := O2'.later hbA
  replace B1' := below_on B1' hbA
  clear O1' O2' R1' R2' hbA N1
  go_wp2_with (first | rw [hW3] | refine load_r 34 _ rfl rfl _ rfl R3 Try.underlying34 rfl (size_tx rfl) ?_)
  clear hW3
  refine C1.mono ?_
  rintro e w4 ⟨ua, ub, rfl, hA, hB, hb4⟩
  replace R4 := R4.later hb4
  have C2 := hd_apply2 w4 _ _ _ hA hB (O3.later hb4)
  replace B1' := below_on B1' hb4
  clear C1 R3 O3 hb4
  obtain ⟨qa, ca, rfl⟩ := SHas.slice hA
  obtain ⟨qb, cb, rfl⟩ := SHas.slice hB
  go_wp2_with (refine load_r 34 _ rfl rfl _ rfl R4 Try.underlying34 rfl (size_tx rfl) ?_)
  refine C2.mono ?_
  rintro e w5 ⟨uc, ud, rfl, hC, hD, hb5⟩
  replace hA := SHas.later hA hb5
  replace hB := SHas.later hB hb5
  replace B1' := below_on B1' hb5
  clear C2 R4 hb5
  obtain ⟨qc, cc, rfl⟩ := SHas.slice hC
  obtain ⟨qd, cd, rfl⟩ := SHas.slice hD
  have hbA := bel_alloc (Below.refl w5.heap.size w5) (.cells #[.int .i64 1, .int .i64 2] 3)
  have C := hd_ints _ [1, 2] _ _ (SHas.later hA hbA) (new12 w5)
  replace hA := SHas.later hA hbA
  replace hB := SHas.later hB hbA
  replace hC := SHas.later hC hbA
  replace hD := SHas.later hD hbA
  replace B1' := below_on B1' hbA
  clear hbA
  generalize hW6 : w5.alloc (.cells #[.int .i64 1, .int .i64 2] 3) = w6 at C hA hB hC hD B1'
  go_wp2_with (rw [hW6])
  clear hW6
  refine C.mono ?_
  rintro e w7 ⟨rfl, hb⟩
  replace hA := SHas.later hA hb
  replace hB := SHas.later hB hb
  replace hC := SHas.later hC hb
  replace hD := SHas.later hD hb
  replace B1' := below_on B1' hb
  clear hb C
  go_wp2_with fail
  refine (hd_live1 w7 _ _ hA hB).mono ?_
  rintro e w8 ⟨u8, rfl, hE, hb⟩
  replace hA := SHas.later hA hb
  replace hB := SHas.later hB hb
  replace hC := SHas.later hC hb
  replace hD := SHas.later hD hb
  replace B1' := below_on B1' hb
  clear hb
  obtain ⟨qe, ce, rfl⟩ := SHas.slice hE
  have hbA := bel_alloc (Below.refl w8.heap.size w8) (.cells #[.int .i64 1, .int .i64 2] 3)
  have C := hd_ints _ [1, 2] _ _ (SHas.later hE hbA) (new12 w8)
  replace hA := SHas.later hA hbA
  replace hB := SHas.later hB hbA
  replace hC := SHas.later hC hbA
  replace hD := SHas.later hD hbA
  replace B1' := below_on B1' hbA
  clear hbA hE
  generalize hW9 : w8.alloc (.cells #[.int .i64 1, .int .i64 2] 3) = w9 at C hA hB hC hD B1'
  go_wp2_with (rw [hW9])
  clear hW9
  refine C.mono ?_
  rintro e w10 ⟨rfl, hb⟩
  replace hA := SHas.later hA hb
  replace hB := SHas.later hB hb
  replace hC := SHas.later hC hb
  replace hD := SHas.later hD hb
  replace B1' := below_on B1' hb
  clear hb C
  go_wp2_with fail
  refine (hd_ep1 w10 _ _ hA hB).mono ?_
  rintro e w11 ⟨rfl, hb⟩
  replace hC := SHas.later hC hb
  replace hD := SHas.later hD hb
  replace B1' := below_on B1' hb
  clear hb hA hB
  go_wp2_with fail
  refine (hd_live2 w11 _ _ hC hD).mono ?_
  rintro e w12 ⟨u8, rfl, hE, hb⟩
  replace hC := SHas.later hC hb
  replace hD := SHas.later hD hb
  replace B1' := below_on B1' hb
  clear hb
  obtain ⟨qe, ce, rfl⟩ := SHas.slice hE
  have hbA := bel_alloc (Below.refl w12.heap.size w12) (.cells #[.int .i64 2] 3)
  have C := hd_ints _ [2] _ _ (SHas.later hE hbA) (new2 w12)
  replace hC := SHas.later hC hbA
  replace hD := SHas.later hD hbA
  replace B1' := below_on B1' hbA
  clear hbA hE
  generalize hW13 : w12.alloc (.cells #[.int .i64 2] 3) = w13 at C hC hD B1'
  go_wp2_with (rw [hW13])
  clear hW13
  refine C.mono ?_
  rintro e w14 ⟨rfl, hb⟩
  replace hC := SHas.later hC hb
  replace hD := SHas.later hD hb
  replace B1' := below_on B1' hb
  clear hb C
  go_wp2_with fail
  refine (hd_ep2 w14 _ _ hC hD).mono ?_
  rintro e w15 ⟨rfl, hb⟩
  replace hC := SHas.later hC hb
  replace B1' := below_on B1' hb
  clear hb hD
  go_wp2_with fail
  refine (hd_ck1 w15 _ hC).mono ?_
  rintro e w16 ⟨rfl, hb⟩
  replace B1' := below_on B1' hb
  clear hb hC
  have C := hd_ck2 _ _ (new21 w16)
  have hbA := bel_alloc (Below.refl w16.heap.size w16) (.cells #[.int .i64 2, .int .i64 1] 3)
  replace B1' := below_on B1' hbA
  clear hbA
  generalize hW17 : w16.alloc (.cells #[.int .i64 2, .int .i64 1] 3) = w17 at C B1'
  go_wp2_with (rw [hW17])
  clear hW17
  refine C.mono ?_
  rintro e w18 ⟨rfl, hb⟩
  replace B1' := below_on B1' hb
  go_wp2_with fail
  go_ret
  exact ⟨rfl, B1'⟩
end Go.Proofs.Ytefpdcpcjfjblaa
