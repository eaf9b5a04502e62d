import Derived.Test.YtcebchjokmampaaP8
/- What StableBelow says. -/
namespace Go.Proofs.Ytcebchjokmampaa
open Go.RowKit

theorem lq_self (a : Vc) : lq a.l a.l = true := (lq_iff a.h a.h).2 fun _ _ => Int.le_refl _
theorem lq_trans {a b c : Vc} (h1 : lq a.l b.l = true) (h2 : lq b.l c.l = true) : lq a.l c.l = true :=
  (lq_iff a.h c.h).2 fun i hi => Int.le_trans ((lq_iff a.h b.h).1 h1 i hi) ((lq_iff b.h c.h).1 h2 i hi)
/-- What is stable is the greatest that is below all of them. -/
theorem ctL_iff (M : List Vc) (self : Int) (c : Vc) : ∀ (live : List Int) (own : Vc), lq c.l (ctL M self own live).l = true ↔ lq c.l own.l = true ∧ ∀ p ∈ live, p ≠ self → lq c.l (M.getD p.toNat z0).l = true
  | [], own => by simp [ctL]
  | p :: live, own => by
    have ih := ctL_iff M self c live (ctS M self own p)
    have e : ctL M self own (p :: live) = ctL M self (ctS M self own p) live := rfl
    rw [e, ih]
    by_cases hp : p = self
    · rw [ctS, if_pos hp]
      simp [hp]
    · rw [ctS, if_neg hp, show (mtV own (M.getD p.toNat z0)).l = mt own.l (M.getD p.toNat z0).l from rfl, bound_m own.h (M.getD p.toNat z0).h c.h, Bool.and_eq_true]
      simp only [List.mem_cons, forall_eq_or_imp]
      constructor
      · rintro ⟨⟨h1, h2⟩, h3⟩
        exact ⟨h1, fun _ => h2, h3⟩
      · rintro ⟨h1, h2, h3⟩
        exact ⟨⟨h1, h2 hp⟩, h3⟩
theorem ctL_own (M : List Vc) (self : Int) (own : Vc) (live : List Int) : lq (ctL M self own live).l own.l = true := ((ctL_iff M self _ live own).1 (lq_self _)).1
theorem ctL_row (M : List Vc) (self : Int) (own : Vc) (live : List Int) {p : Int} (hp : p ∈ live) (hs : p ≠ self) : lq (ctL M self own live).l (M.getD p.toNat z0).l = true := ((ctL_iff M self _ live own).1 (lq_self _)).2 p hp hs
theorem ctL_rises (M : List Vc) (hM : M.length = 13) (self : Int) (own : Vc) (live : List Int) (p : Int) (r v : Vc) (ha : acb M p r v = true) : lq (ctL M self own live).l (ctL (acM M p r v) self own live).l = true := by
  refine (ctL_iff _ self _ live own).2 ⟨ctL_own M self own live, fun x hx hs => ?_⟩
  have h1 := ctL_row M self own live hx hs
  rw [acM, if_pos ha]
  simp only [acb, Bool.and_eq_true] at ha
  have hw := wi_iff.1 ha.1
  by_cases e : x.toNat = p.toNat
  · have : ((M.set p.toNat r).getD x.toNat z0) = r := by
      rw [e, List.getD_eq_getElem?_getD, List.getElem?_set_self (by omega)]
      rfl
    rw [this]
    rw [e] at h1
    exact lq_trans h1 ha.2.2.2
  · have : ((M.set p.toNat r).getD x.toNat z0) = M.getD x.toNat z0 := by
      rw [List.getD_eq_getElem?_getD, List.getElem?_set_ne (Ne.symm e), ← List.getD_eq_getElem?_getD]
    rw [this]
    exact h1
set_option maxHeartbeats 8000000 in
set_option maxRecDepth 100000 in
theorem below_law (K : Prs) (M : List Vc) (hM : M.length = 13) (self : Int) (own : Vc) (live : List Int) (sv : Value) (p : Int) (r : Vc) (w : World) (h : IHas w sv live) : Calls Try.prog 5 #[RV M, .int .i64 self, V own.l, sv, .int .i64 p, V r.l] w (Tells (.bool true) w) := by
  obtain ⟨q, c, rfl⟩ := SHas.slice h
  have hml := maxLen_lt h.1
  obtain ⟨R1, R2, R3, hbel⟩ := three_rows w (rows Vc.cells M).toArray 24 (vals own.l).toArray 23 (vals r.l).toArray 23
  generalize hW : ((w.alloc (.cells (rows Vc.cells M).toArray 24)).alloc (.cells (vals own.l).toArray 23)).alloc (.cells (vals r.l).toArray 23) = w0 at R1 R2 R3 hbel
  have hzM := size_r hM
  have zr := size_v r.h
  have zv := size_v own.h
  have ZV := zv24
  have ZN := zc24_ne
  go_enter Try.func5, Try.ntmps5
  go_upto_region 1 with (rw [hW])
  clear hW
  by_cases h40 : live.length ≤ 40
  case neg =>
    have h40' : (40 : Int) < (live.length : Int) := by omega
    go_wp2_with fail
    refine (K.heads _).mono ?_
    rintro e w2 ⟨rfl, hb2⟩
    go_wp2_with fail
    go_ret
    exact ⟨rfl, below_on hbel hb2⟩
  have h40' : ¬ (40 : Int) < (live.length : Int) := by omega
  obtain ⟨y, HY⟩ := hid_ex (cutV M self own live)
  have C1 := fun (w' : World) (hb : Below w.heap.size w w') => K.cut M self own live (.slice q live.length c) w' hM (SHas.later h hb)
  rw [HY.out] at C1
  go_wp2_with (first | refine load_r 24 _ rfl rfl _ rfl R1 Try.underlying24 rfl hzM ?_ | refine load_r 23 _ rfl rfl _ rfl R2 Try.underlying23 rfl zv ?_)
  refine (C1 _ hbel).mono ?_
  rintro e w1 ⟨rfl, hb1⟩
  replace R1 := R1.later hb1
  replace R2 := R2.later hb1
  replace R3 := R3.later hb1
  replace hbel := below_on hbel hb1
  have A13 : At (w1.alloc (.cells #[.int .i64 0, .int .i64 0, .int .i64 0, .int .i64 0, .int .i64 0, .int .i64 0, .int .i64 0, .int .i64 0, .int .i64 0, .int .i64 0, .int .i64 0, .int .i64 0, .int .i64 0] 23)) w1.heap.size zeros := at_new w1 zeros rfl
  have hbA := bel_alloc (Below.refl w1.heap.size w1) (.cells #[.int .i64 0, .int .i64 0, .int .i64 0, .int .i64 0, .int .i64 0, .int .i64 0, .int .i64 0, .int .i64 0, .int .i64 0, .int .i64 0, .int .i64 0, .int .i64 0, .int .i64 0] 23)
  generalize hW1 : w1.alloc (.cells #[.int .i64 0, .int .i64 0, .int .i64 0, .int .i64 0, .int .i64 0, .int .i64 0, .int .i64 0, .int .i64 0, .int .i64 0, .int .i64 0, .int .i64 0, .int .i64 0, .int .i64 0] 23) = w2 at A13 hbA
  have Q2 := A13.row (l := y.l) y.h
  have hb2 := below_setRow hbA (Nat.le_refl _) (vals y.l).toArray
  generalize hW2 : w2.setRow w1.heap.size (vals y.l).toArray = w3 at Q2 hb2
  replace R1 := R1.later hb2
  replace R2 := R2.later hb2
  replace R3 := R3.later hb2
  replace hbel := below_on hbel hb2
  have hyh := y.h
  obtain ⟨b, HB⟩ := hid_ex (y.l == zeros)
  have E : ∀ w', (Op.equalIn 10000 23 (V y.l) (.agg #[.int .i64 0, .int .i64 0, .int .i64 0, .int .i64 0, .int .i64 0, .int .i64 0, .int .i64 0, .int .i64 0, .int .i64 0, .int .i64 0, .int .i64 0, .int .i64 0, .int .i64 0])).run Try.prog w' = .ok b w' := fun w' => by rw [← HB.out]; exact eq_arrays w' y.l zeros y.h rfl
  cases b
  case true =>
    go_wp2_with (first | rw [hW1] | (refine store_at rfl _ _ rfl w1.heap.size y.l rfl rfl A13 hyh ?_; rw [hW2]) | refine load_at rfl _ rfl _ rfl Q2 ?_)
    refine (K.heads _).mono ?_
    rintro e w4 ⟨rfl, hb4⟩
    go_wp2_with fail
    go_ret
    exact ⟨rfl, below_on hbel hb4⟩
  have hcb : ctB self live = true := by
    cases e : ctB self live with
    | true => rfl
    | false =>
      have h1 : y = z0 := by rw [← HY.out, cutV, if_neg (by simp [e])]
      have := HB.out
      rw [h1] at this
      simp [z0] at this
  have hy : y = ctL M self own live := by rw [← HY.out, cutV, if_pos hcb]
  have HCI : Hid (ckI live = true) := by
    simp only [ctB, Bool.and_eq_true] at hcb
    exact hcb.1
  have HLE : Hid (lq y.l own.l = true) := by rw [hy]; exact ctL_own M self own live
  have HRO : Hid (∀ x ∈ live, x ≠ self → lq y.l (M.getD x.toNat z0).l = true) := by
    rw [hy]
    exact fun x hx hs => ctL_row M self own live hx hs
  have HRI : Hid (acb M p r own = true → lq y.l (cutV (acM M p r own) self own live).l = true) := fun ha => by
    rw [cutV, if_pos hcb, hy]
    exact ctL_rises M hM self own live p r own ha
  clear hcb hy HY HB
  go_wp2_with (first | rw [hW1] | (refine store_at rfl _ _ rfl w1.heap.size y.l rfl rfl A13 hyh ?_; rw [hW2]) | refine load_at rfl _ rfl _ rfl Q2 ?_)
  generalize w1.heap.size = b13 at Q2 ⊢
  clear hW1 hW2 A13 hbA hb1 hb2 C1 E
  go_loopw [14] (fun vi wr => ∃ k : Nat, vi = .int .i64 k ∧ k ≤ live.length ∧ Rw wr w.heap.size 24 (rows Vc.cells M).toArray ∧ Rw wr (w.heap.size + 1) 23 (vals own.l).toArray ∧ Rw wr (w.heap.size + 1 + 1) 23 (vals r.l).toArray ∧ At wr b13 y.l ∧ Below w.heap.size w wr) (fun vi _ => live.length - (intOf vi).toNat)
  case atStart => exact ⟨0, rfl, by omega, R1, R2, R3, Q2, hbel⟩
  case round =>
    clear R1 R2 R3 Q2 hbel
    obtain ⟨k, rfl, hk, R1, R2, R3, Q2, hbel⟩ := hrel
    by_cases hlt : k < live.length
    · have hlt' : (k : Int) < (live.length : Int) := by omega
      obtain ⟨g, o, rfl, hd0⟩ := IHas.at h k hlt
      have c1 := cell_later hbel (hd0 k hlt)
      have hw := ((ckI_iff live).1 HCI.out).1 k hlt
      have hro := HRO.out live[k] (List.getElem_mem _)
      obtain ⟨x, HX⟩ := hid_ex live[k]
      rw [HX.out] at c1 hw hro
      obtain ⟨hx1, hx2⟩ := wi_iff.1 hw
      obtain ⟨n, rfl⟩ : ∃ n : Nat, x = (n : Int) := ⟨x.toNat, by omega⟩
      have hn : n < M.length := by omega
      have hn' : (n : Int) < 13 := by omega
      clear hd0 hw
      by_cases hs : (n : Int) = self
      · have ST : Calm.Stays (fun w' : World => w'.cell? ⟨g, o + k, none⟩ = some (.int .i64 n) ∧ Below wr.heap.size wr w') := fun a b h hb => ⟨cell_later hb h.1, below_on h.2 hb⟩
        subst hs
        go_wp2_with fail
        refine Calm.region (by kernel_rfl) (by kernel_rfl) (fun w' : World => w'.cell? ⟨g, o + k, none⟩ = some (.int .i64 n) ∧ Below wr.heap.size wr w') ⟨c1, (Below.refl _ _).drew⟩ ?_
        iterate 3 (refine Calm.pu ?_)
        refine Calm.ce (fun _ h => h.1) ?_
        iterate 3 (refine Calm.pu ?_)
        iterate 9 (refine Calm.sk ?_)
        refine Calm.pu ?_
        intro w4 hS4
        have hb4 := hS4.2
        go_wp2_with fail
        go_roundw
        case rel => exact ⟨k + 1, by simp, by omega, R1.later hb4, R2.later hb4, R3.later hb4, Q2.later hb4, below_on hbel hb4⟩
        case measure => simp [intOf]; omega
      · have dn := row_at R1 n hn
        have eg : M.getD (n : Int).toNat z0 = M[n] := by simp [List.getD_eq_getElem?_getD, List.getElem?_eq_getElem hn]
        have hro2 := hro hs
        rw [eg] at hro2
        clear hro
        have C := fun w' => refLeq_any y.l M[n].l w' y.h M[n].h
        rw [hro2] at C
        have z1 := info_vals y.h
        have z2 := info_vals M[n].h
        have ST : Calm.Stays (fun w' : World => w'.cell? ⟨g, o + k, none⟩ = some (.int .i64 n) ∧ w'.rangeAt w.heap.size (n * 13) (vals M[n].l) ∧ w'.rangeAt b13 0 (vals y.l) ∧ Below wr.heap.size wr w') := fun a b h hb => ⟨cell_later hb h.1, range_later h.2.1 hb, range_later h.2.2.1 hb, below_on h.2.2.2 hb⟩
        go_wp2_with fail
        have gb : ((n : Int) != self) = true := bne_iff_ne.2 hs
        refine Calm.region (by kernel_rfl) (by kernel_rfl) (fun w' : World => w'.cell? ⟨g, o + k, none⟩ = some (.int .i64 n) ∧ w'.rangeAt w.heap.size (n * 13) (vals M[n].l) ∧ w'.rangeAt b13 0 (vals y.l) ∧ Below wr.heap.size wr w') ⟨c1, dn, Q2.range0, (Below.refl _ _).drew⟩ ?_
        iterate 3 (refine Calm.pu ?_)
        refine Calm.ce (fun _ h => h.1) ?_
        iterate 3 (refine Calm.pu ?_)
        refine Calm.lm z1 (fun _ h => h.2.2.1) Try.underlying23 ?_
        iterate 3 (refine Calm.pu ?_)
        refine Calm.ce (fun _ h => h.1) ?_
        refine Calm.pu ?_
        refine Calm.lm z2 (fun _ h => h.2.1) Try.underlying23 ?_
        refine Calm.k2 ST (fun w' _ => C w') ?_
        iterate 2 (refine Calm.pu ?_)
        intro w4 hS4
        have hb4 := hS4.2.2.2
        go_wp2_with fail
        go_roundw
        case rel => exact ⟨k + 1, by simp, by omega, R1.later hb4, R2.later hb4, R3.later hb4, Q2.later hb4, below_on hbel hb4⟩
        case measure => simp [intOf]; omega
    · have hlt' : ¬ (k : Int) < (live.length : Int) := by omega
      obtain ⟨A, HA⟩ := hid_ex (acM M p r own)
      obtain ⟨z, HZ⟩ := hid_ex (acb M p r own)
      have hA : A.length = 13 := by rw [← HA.out]; exact acM_len hM p r own
      have hzA := size_r hA
      have hsz : (rows Vc.cells (List.replicate 13 z0)).toArray.size = (rows Vc.cells A).toArray.size := by rw [List.size_toArray, List.size_toArray, rows_size hA, rows_size (by simp)]
      have ho := rows_one13 A
      have C1 := fun w' => K.accept M p r own w' hM
      rw [HA.out, HZ.out] at C1
      go_wp2_with (first | refine load_r 24 _ rfl rfl _ rfl R1 Try.underlying24 rfl hzM ?_ | refine load_r 23 _ rfl rfl _ rfl R2 Try.underlying23 rfl zv ?_ | refine load_r 23 _ rfl rfl _ rfl R3 Try.underlying23 rfl zr ?_)
      refine (C1 _).mono ?_
      rintro e w4 ⟨rfl, hb1⟩
      replace R2 := R2.later hb1
      replace Q2 := Q2.later hb1
      replace hbel := below_on hbel hb1
      have Q1 := rw_new w4 24 zc24
      have hbA := bel_alloc (Below.refl w4.heap.size w4) (.cells zc24 24)
      generalize hW1 : w4.alloc (.cells zc24 24) = w5 at Q1 hbA
      rw [zero_rows] at Q1
      have Q3 := Q1.row (rows Vc.cells A).toArray
      have hb2 := below_setRow hbA (Nat.le_refl _) (rows Vc.cells A).toArray
      generalize hW2 : w5.setRow w4.heap.size (rows Vc.cells A).toArray = w6 at Q3 hb2
      replace R2 := R2.later hb2
      replace Q2 := Q2.later hb2
      replace hbel := below_on hbel hb2
      go_wp2_with (first | rw [hW1] | (refine store_r rfl 24 _ _ rfl w4.heap.size _ rfl rfl Q1 hzA hsz ho ?_; rw [hW2]))
      generalize w4.heap.size = b15 at Q3 ⊢
      clear hW1 hW2 Q1 hbA hb1 hb2 C1 R1 R3
      obtain ⟨y2, HY2⟩ := hid_ex (cutV A self own live)
      have hri := HRI.out
      rw [HA.out, HY2.out, HZ.out] at hri
      have hI := SHas.later h hbel
      have C3 := fun (w' : World) (hb : Below w6.heap.size w6 w') => K.cut A self own live (.slice q live.length c) w' hA (SHas.later hI hb)
      rw [HY2.out] at C3
      have C4 := fun w' => refLeq_any y.l own.l w' y.h own.h
      rw [HLE.out] at C4
      have C5 := fun w' => refLeq_any y.l y2.l w' y.h y2.h
      have iA := info_rows hA
      have iv := info_vals own.h
      have iy := info_vals y.h
      have ST : Calm.Stays (fun w' : World => w'.rangeAt b13 0 (vals y.l) ∧ w'.rangeAt (w.heap.size + 1) 0 (vals own.l) ∧ w'.rangeAt b15 0 (rows Vc.cells A) ∧ Below w6.heap.size w6 w') := fun a b h hb => ⟨range_later h.1 hb, range_later h.2.1 hb, range_later h.2.2.1 hb, below_on h.2.2.2 hb⟩
      cases z
      · refine Calm.region (by kernel_rfl) (by kernel_rfl) (fun w' : World => w'.rangeAt b13 0 (vals y.l) ∧ w'.rangeAt (w.heap.size + 1) 0 (vals own.l) ∧ w'.rangeAt b15 0 (rows Vc.cells A) ∧ Below w6.heap.size w6 w') ⟨Q2.range0, range_of R2, range_r Q3, (Below.refl _ _).drew⟩ ?_
        refine Calm.lm iy (fun _ h => h.1) Try.underlying23 ?_
        refine Calm.lm iv (fun _ h => h.2.1) Try.underlying23 ?_
        refine Calm.k2 ST (fun w' _ => C4 w') ?_
        iterate 4 (refine Calm.pu ?_)
        iterate 7 (refine Calm.sk ?_)
        iterate 3 (refine Calm.pu ?_)
        refine Calm.k0 ST (fun w' _ => K.heads w') ?_
        iterate 2 (refine Calm.pu ?_)
        intro w7 hS7
        go_wp2_with fail
        go_ret
        exact ⟨rfl, below_on hbel hS7.2.2.2⟩
      · rw [hri rfl] at C5
        refine Calm.region (by kernel_rfl) (by kernel_rfl) (fun w' : World => w'.rangeAt b13 0 (vals y.l) ∧ w'.rangeAt (w.heap.size + 1) 0 (vals own.l) ∧ w'.rangeAt b15 0 (rows Vc.cells A) ∧ Below w6.heap.size w6 w') ⟨Q2.range0, range_of R2, range_r Q3, (Below.refl _ _).drew⟩ ?_
        refine Calm.lm iy (fun _ h => h.1) Try.underlying23 ?_
        refine Calm.lm iv (fun _ h => h.2.1) Try.underlying23 ?_
        refine Calm.k2 ST (fun w' _ => C4 w') ?_
        iterate 4 (refine Calm.pu ?_)
        refine Calm.lm iy (fun _ h => h.1) Try.underlying23 ?_
        refine Calm.lm iA (fun _ h => h.2.2.1) Try.underlying24 ?_
        refine Calm.pu ?_
        refine Calm.lm iv (fun _ h => h.2.1) Try.underlying23 ?_
        refine Calm.pu ?_
        refine Calm.k4 ST (fun w' h => C3 w' h.2.2.2) ?_
        refine Calm.k2 ST (fun w' _ => C5 w') ?_
        iterate 3 (refine Calm.pu ?_)
        refine Calm.k0 ST (fun w' _ => K.heads w') ?_
        iterate 2 (refine Calm.pu ?_)
        intro w7 hS7
        go_wp2_with fail
        go_ret
        exact ⟨rfl, below_on hbel hS7.2.2.2⟩
end Go.Proofs.Ytcebchjokmampaa
