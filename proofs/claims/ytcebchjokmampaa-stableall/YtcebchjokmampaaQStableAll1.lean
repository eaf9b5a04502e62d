import Derived.Test.YtcebchjokmampaaP8
/- What StableBelow says. -/
namespace Go.Proofs.Ytcebchjokmampaa
open Go.RowKit

theorem lq_self (a : Vc) : lq a.l a.l = true := (lq_iff a.h a.h).2 fun _ _ => Int.le_refl _
theorem lq_trans {a b c : Vc} (h1 : lq a.l b.l = true) (h2 : lq b.l c.l = true) : lq a.l c.l = true :=
  (lq_iff a.h c.h).2 fun i hi => Int.le_trans ((lq_iff a.h b.h).1 h1 i hi) ((lq_iff b.h c.h).1 h2 i hi)
/-- What is stable is the greatest that is below all of them. -/
theorem ctL_iff (M : List Vc) (self : Int) (c : Vc) : ∀ (live : List Int) (own : Vc), lq c.l (ctL M self own live).l = true ↔ lq c.l own.l = true ∧ ∀ p ∈ live, p ≠ self → lq c.l (M.getD p.toNat z0).l = true
  | [], own => by simp [ctL]
  | p :: live, own => by
    have ih := ctL_iff M self c live (ctS M self own p)
    have e : ctL M self own (p :: live) = ctL M self (ctS M self own p) live := rfl
    rw [e, ih]
    by_cases hp : p = self
    · rw [ctS, if_pos hp]
      simp [hp]
    · rw [ctS, if_neg hp, show (mtV own (M.getD p.toNat z0)).l = mt own.l (M.getD p.toNat z0).l from rfl, bound_m own.h (M.getD p.toNat z0).h c.h, Bool.and_eq_true]
      simp only [List.mem_cons, forall_eq_or_imp]
      constructor
      · rintro ⟨⟨h1, h2⟩, h3⟩
        exact ⟨h1, fun _ => h2, h3⟩
      · rintro ⟨h1, h2, h3⟩
        exact ⟨⟨h1, h2 hp⟩, h3⟩
theorem ctL_own (M : List Vc) (self : Int) (own : Vc) (live : List Int) : lq (ctL M self own live).l own.l = true := ((ctL_iff M self _ live own).1 (lq_self _)).1
theorem ctL_row (M : List Vc) (self : Int) (own : Vc) (live : List Int) {p : Int} (hp : p ∈ live) (hs : p ≠ self) : lq (ctL M self own live).l (M.getD p.toNat z0).l = true := ((ctL_iff M self _ live own).1 (lq_self _)).2 p hp hs
theorem ctL_rises (M : List Vc) (hM : M.length = 13) (self : Int) (own : Vc) (live : List Int) (p : Int) (r v : Vc) (ha : acb M p r v = true) : lq (ctL M self own live).l (ctL (acM M p r v) self own live).l = true := by
  refine (ctL_iff _ self _ live own).2 ⟨ctL_own M self own live, fun x hx hs => ?_⟩
  have h1 := ctL_row M self own live hx hs
  rw [acM, if_pos ha]
  simp only [acb, Bool.and_eq_true] at ha
  have hw := wi_iff.1 ha.1
  by_cases e : x.toNat = p.toNat
  · have : ((M.set p.toNat r).getD x.toNat z0) = r := by
      rw [e, List.getD_eq_getElem?_getD, List.getElem?_set_self (by omega)]
      rfl
    rw [this]
    rw [e] at h1
    exact lq_trans h1 ha.2.2.2
  · have : ((M.set p.toNat r).getD x.toNat z0) = M.getD x.toNat z0 := by
      rw [List.getD_eq_getElem?_getD, List.getElem?_set_ne (Ne.symm e), ← List.getD_eq_getElem?_getD]
    rw [this]
    exact h1
set_option maxHeartbeats 8000000 in
set_option maxRecDepth 100000 in
theorem below_law (K : Prs) (M : List Vc) (hM : M.length = 13) (self : Int) (own : Vc) (live : List Int) (sv : Value) (p : Int) (r : Vc) (w : World) (h : IHas w sv live) : Calls Try.prog 5 #[RV M, .int .i64 self, V own.l, sv, .int .i64 p, V r.l] w (Tells (.bool true) w) := by
  obtain ⟨q, c, rfl⟩ := SHas.slice h
  have hml := maxLen_lt h.1
  obtain ⟨R1, R2, R3, hbel⟩ := three_rows w (rows Vc.cells M).toArray 24 (vals own.l).toArray 23 (vals r.l).toArray 23
  generalize hW : ((w.alloc (.cells (rows Vc.cells M).toArray 24)).alloc (.cells (vals own.l).toArray 23)).alloc (.cells (vals r.l).toArray 23) = w0 at R1 R2 R3 hbel
  have hzM := size_r hM
  have zr := size_v r.h
  have zv := size_v own.h
  have ZV := zv24
  have ZN := zc24_ne
  go_enter Try.func5, Try.ntmps5
  go_upto_region 1 with (rw [hW])
  clear hW
  by_cases h40 : live.length ≤ 40
  case neg =>
    have h40' : (40 : Int) < (live.length : Int) := by omega
    go_wp2_with fail
    refine (K.heads _).mono ?_
    rintro e w2 ⟨rfl, hb2⟩
    go_wp2_with fail
    go_ret
    exact ⟨rfl, below_on hbel hb2⟩
  have h40' : ¬ (40 : Int) < (live.length : Int) := by omega
  obtain ⟨y, HY⟩ := hid_ex (cutV M self own live)
  have C1 := fun (w' : World) (hb : Below w.heap.size w w') => K.cut M self own live (.slice q live.length c) w' hM (SHas.later h hb)
  rw [HY.out] at C1
  go_wp2_with (first | refine load_r 24 _ rfl rfl _ rfl R1 Try.underlying24 rfl hzM ?_ | refine load_r 23 _ rfl rfl _ rfl R2 Try.underlying23 rfl zv ?_)
  refine (C1 _ hbel).mono ?_
  rintro e w1 ⟨rfl, hb1⟩
  replace R1 := R1.later hb1
  replace R2 := R2.later hb1
  replace R3 := R3.later hb1
  replace hbel := below_on hbel hb1
  have A13 : At (w1.alloc (.cells #[.int .i64 0, .int .i64 0, .int .i64 0, .int .i64 0, .int .i64 0, .int .i64 0, .int .i64 0, .int .i64 0, .int .i64 0, .int .i64 0, .int .i64 0, .int .i64 0, .int .i64 0] 23)) w1.heap.size zeros := at_new w1 zeros rfl
  have hbA := bel_alloc (Below.refl w1.heap.size w1) (.cells #[.int .i64 0, .int .i64 0, .int .i64 0, .int .i64 0, .int .i64 0, .int .i64 0, .int .i64 0, .int .i64 0, .int .i64 0, .int .i64 0, .int .i64 0, .int .i64 0, .int .i64 0] 23)
  generalize hW1 : w1.alloc (.cells #[.int .i64 0, .int .i64 0, .int .i64 0, .int .i64 0, .int .i64 0, .int .i64 0, .int .i64 0, .int .i64 0, .int .i64 0, .int .i64 0, .int .i64 0, .int .i64 0, .int .i64 0] 23) = w2 at A13 hbA
  have Q2 := A13.row (l := y.l) y.h
  have hb2 := below_setRow hbA (Nat.le_refl _) (vals y.l).toArray
  generalize hW2 : w2.setRow w1.heap.size (vals y.l).toArray = w3 at Q2 hb2
  replace R1 := R1.later hb2
  replace R2 := R2.later hb2
  replace R3 := R3.later hb2
  replace hbel := below_on hbel hb2
  have hyh := y.h
  obtain ⟨b, HB⟩ := hid_ex (y.l == zeros)
  have E : ∀ w', (Op.equalIn 10000 23 (V y.l) (.agg #[.int .i64 0, .int .i64 0, .int .i64 0, .int .i64 0, .int .i64 0, .int .i64 0, .int .i64 0, .int .i64 0, .int .i64 0, .int .i64 0, .int .i64 0, .int .i64 0, .int .i64 0])).run Try.prog w' = .ok b w' := fun w' => by rw [← HB.out]; exact eq_arrays w' y.l zeros y.h rfl
  cases b
  case true =>
    go_wp2_with (first | rw [hW1] | (refine store_at rfl _ _ rfl w1.heap.size y.l rfl rfl A13 hyh ?_; rw [hW2]) | refine load_at rfl _ rfl _ rfl Q2 ?_)
    refine (K.heads _).mono ?_
    rintro e w4 ⟨rfl, hb4⟩
    go_wp2_with fail
    go_ret
    exact ⟨rfl, below_on hbel hb4⟩
  have hcb : ctB self live = true := by
    cases e : ctB self live with
    | true => rfl
    | false =>
      have h1 : y = z0 := by rw [← HY.out, cutV, if_neg (by simp [e])]
      have := HB.out
      rw [h1] at this
      simp [z0] at this
  have hy : y = ctL M self own live := by rw [← HY.out, cutV, if_pos hcb]
  have HCI : Hid (ckI live = true) := by
    simp only [ctB, Bool.and_eq_true] at hcb
    exact hcb.1
  have HLE : Hid (lq y.l own.l = true) := by rw [hy]; exact ctL_own M self own live
  have HRO : Hid (∀ x ∈ live, x ≠ self → lq y.l (M.getD x.toNat z0).l = true) := by
    rw [hy]
    exact fun x hx hs => ctL_row M self own live hx hs
  have HRI : Hid (acb M p r own = true → lq y.l (cutV (acM M p r own) self own live).l = true) := fun ha => by
    rw [cutV, if_pos hcb, hy]
    exact ctL_rises M hM self own live p r own ha
  clear hcb hy HY HB
  go_wp2_with (first | rw [hW1] | (refine store_at rfl _ _ rfl w1.heap.size y.l rfl rfl A13 hyh ?_; rw [hW2]) | refine load_at rfl _ rfl _ rfl Q2 ?_)
  generalize w1.heap.size = b13 at Q2 ⊢
  clear hW1 hW2 A13 hbA hb1 hb2 C1 E
  go_loopw [14] (fun vi wr => ∃ k : Nat, vi = .int .i64 k ∧ k ≤ live.length ∧ Rw wr w.heap.size 24 (rows Vc.cells M).toArray ∧ Rw wr (w.heap.size + 1) 23 (vals own.l).toArray ∧ Rw wr (w.heap.size + 1 + 1) 23 (vals r.l).toArray ∧ At wr b13 y.l ∧ Below w.heap.size w wr) (fun vi _ => live.length - (intOf vi).toNat)
  case atStart => exact ⟨0, rfl, by omega, R1, R2, R3, Q2, hbel⟩
  case round =>
    clear R1 R2 R3 Q2 hbel
    obtain ⟨k, rfl, hk, R1, R2, R3, Q2, hbel⟩ := hrel
    by_cases hlt : k < live.length
    · have hlt' : (k : Int) < (live.length : Int) := by omega
      obtain ⟨g, o, rfl, hd0⟩ := IHas.at h k hlt
      have c1 := cell_later hbel (hd0 k hlt)
      have hw := ((ckI_iff live).1 HCI.out).1 k hlt
      have hro := HRO.out live[k] (List.getElem_mem _)
      obtain ⟨x, HX⟩ := hid_ex live[k]
      rw [HX.out] at c1 hw hro
      obtain ⟨hx1, hx2⟩ := wi_iff.1 hw
      obtain ⟨n, rfl⟩ : ∃ n : Nat, x = (n : Int) := ⟨x.toNat, by omega⟩
      have hn : n < M.length := by omega
      have hn' : (n : Int) < 13 := by omega
      clear hd0 hw
      by_cases hs : (n : Int) = self
      · have ST : Calm.Stays (fun w' : World => w'.cell? ⟨g, o + k, none⟩ = some (.int .i64 n) ∧ Below wr.heap.size wr w') := fun a b h hb => ⟨cell_later hb h.1, below_on h.2 hb⟩
        subst hs
        go_wp2_with fail
        refine Calm.region (by kernel_rfl) (by kernel_rfl) (fun w' : World => w'.cell? ⟨g, o + k, none⟩ = some (.int .i64 n) ∧ Below wr.heap.size wr w') ⟨c1, (Below.refl _ _).drew⟩ ?_
        iterate 3 (refine Calm.pu ?_)
        refine Calm.ce (fun _ h => h.1) ?_
        iterate 3 (refine Calm.pu ?_)
        iterate 9 (refine Calm.sk ?_)
        refine Calm.pu ?_
        intro w4 hS4
        have hb4 := hS4.2
        go_wp2_with fail
        go_roundw
        case rel => exact ⟨k + 1, by simp, by omega, R1.later hb4, R2.later hb4, R3.later hb4, Q2.later hb4, below_on hbel hb4⟩
        case measure => simp [intOf]; omega
      · have dn := row_at R1 n hn
        have eg : M.getD (n : Int).toNat z0 = M[n] := by simp [List.getD_eq_getElem?_getD, List.getElem?_eq_getElem hn]
        have hro2 := hro hs
        rw [eg] at hro2
        clear hro
        have C := fun w' => refLeq_any y.l M[n].l w' y.h M[n].h
        rw [hro2] at C
        have z1 := info_vals y.h
        have z2 := info_vals M[n].h
        have ST : Calm.Stays (fun w' : World => w'.cell? ⟨g, o + k, none⟩ = some (.int .i64 n) ∧ w'.rangeAt w.heap.size (n * 13) (vals M[n].l) ∧ w'.rangeAt b13 0 (vals y.l) ∧ Below wr.heap.size wr w') := fun a b h hb => ⟨cell_later hb h.1, range_later h.2.1 hb, range_later h.2.2.1 hb, below_on h.2.2.2 hb⟩
        go_wp2_with fail
        have gb : ((n : Int) != self) = true := bne_iff_ne.2 hs
        refine Calm.region (by kernel_rfl) (by kernel_rfl) (fun w' : World => w'.cell? ⟨g, o + k, none⟩ = some (.int .i64 n) ∧ w'.rangeAt w.heap.size (n * 13) (vals M[n].l) ∧ w'.rangeAt b13 0 (vals y.l) ∧ Below wr.heap.size wr w') ⟨c1, dn, Q2.range0, (Below.refl _ _).drew⟩ ?_
        iterate 3 (refine Calm.pu ?_)
        refine Calm.ce (fun _ h => h.1) ?_
        iterate 3 (refine Calm.pu ?_)
        refine Calm.lm z1 (fun _ h => h.2.2.1) Try.underlying23 ?_
        iterate 3 (refine Calm.pu ?_)
        refine Calm.ce (fun _ h => h.1) ?_
        refine Calm.pu ?_
        refine Calm.lm z2 (fun _ h => h.2.1) Try.underlying23 ?_
        refine Calm.k2 ST (fun w' _ => C w') ?_
        iterate 2 (refine Calm.pu ?_)
        intro w4 hS4
        have hb4 := hS4.2.2.2
        go_wp2_with fail
        go_roundw
        case rel => exact ⟨k + 1, by simp, by omega, R1.later hb4, R2.later hb4, R3.later hb4, Q2.later hb4, below_on hbel hb4⟩
        case measure => simp [intOf]; omega
    · have hlt' : ¬ (k : Int) < (live.length : Int) := by omega
      obtain ⟨A, HA⟩ := hid_ex (acM M p r own)
      obtain ⟨z, HZ⟩ := hid_ex (acb M p r own)
      have hA : A.length = 13 := by rw [← HA.out]; exact acM_len hM p r own
      have hzA := size_r hA
      have hsz : (rows Vc.cells (List.replicate 13 z0)).toArray.size = (rows Vc.cells A).toArray.size := by rw [List.size_toArray, List.size_toArray, rows_size hA, rows_size (by simp)]
      have ho := rows_one13 A
      have C1 := fun w' => K.accept M p r own w' hM
      rw [HA.out, HZ.out] at C1
      go_wp2_with (first | refine load_r 24 _ rfl rfl _ rfl R1 Try.underlying24 rfl hzM ?_ | refine load_r 23 _ rfl rfl _ rfl R2 Try.underlying23 rfl zv ?_ | refine load_r 23 _ rfl rfl _ rfl R3 Try.underlying23 rfl zr ?_)
      refine (C1 _).mono ?_
      rintro e w4 ⟨rfl, hb1⟩
      replace R2 := R2.later hb1
      replace Q2 := Q2.later hb1
      replace hbel := below_on hbel hb1
      have Q1 := rw_new w4 24 zc24
      have hbA := bel_alloc (Below.refl w4.heap.size w4) (.cells zc24 24)
      generalize hW1 : w4.alloc (.cells zc24 24) = w5 at Q1 hbA
      rw [zero_rows] at Q1
      have Q3 := Q1.row (rows Vc.cells A).toArray
      have hb2 := below_setRow hbA (Nat.le_refl _) (rows Vc.cells A).toArray
      generalize hW2 : w5.setRow w4.heap.size (rows Vc.cells A).toArray = w6 at Q3 hb2
      replace R2 := R2.later hb2
      replace Q2 := Q2.later hb2
      replace hbel := below_on hbel hb2
      go_wp2_with (first | rw [hW1] | (refine store_r rfl 24 _ _ rfl w4.heap.size _ rfl rfl Q1 hzA hsz ho ?_; rw [hW2]))
      generalize w4.heap.size = b15 at Q3 ⊢
      clear hW1 hW2 Q1 hbA hb1 hb2 C1 R1 R3
      obtain ⟨y2, HY2⟩ := hid_ex (cutV A self own live)
      have hri := HRI.out
      rw [HA.out, HY2.out, HZ.out] at hri
      have hI := SHas.later h hbel
      have C3 := fun (w' : World) (hb : Below w6.heap.size w6 w') => K.cut A self own live (.slice q live.length c) w' hA (SHas.later hI hb)
      rw [HY2.out] at C3
      have C4 := fun w' => refLeq_any y.l own.l w' y.h own.h
      rw [HLE.out] at C4
      have C5 := fun w' => refLeq_any y.l y2.l w' y.h y2.h
      have iA := info_rows hA
      have iv := info_vals own.h
      have iy := info_vals y.h
      have ST : Calm.Stays (fun w' : World => w'.rangeAt b13 0 (vals y.l) ∧ w'.rangeAt (w.heap.size + 1) 0 (vals own.l) ∧ w'.rangeAt b15 0 (rows Vc.cells A) ∧ Below w6.heap.size w6 w') := fun a b h hb => ⟨range_later h.1 hb, range_later h.2.1 hb, range_later h.2.2.1 hb, below_on h.2.2.2 hb⟩
      cases z
      · refine Calm.region (by kernel_rfl) (by kernel_rfl) (fun w' : World => w'.rangeAt b13 0 (vals y.l) ∧ w'.rangeAt (w.heap.size + 1) 0 (vals own.l) ∧ w'.rangeAt b15 0 (rows Vc.cells A) ∧ Below w6.heap.size w6 w') ⟨Q2.range0, range_of R2, range_r Q3, (Below.refl _ _).drew⟩ ?_
        refine Calm.lm iy (fun _ h => h.1) Try.underlying23 ?_
        refine Calm.lm iv (fun _ h => h.2.1) Try.underlying23 ?_
        refine Calm.k2 ST (fun w' _ => C4 w') ?_
        iterate 4 (refine Calm.pu ?_)
        iterate 7 (refine Calm.sk ?_)
        iterate 3 (refine Calm.pu ?_)
        refine Calm.k0 ST (fun w' _ => K.heads w') ?_
        iterate 2 (refine Calm.pu ?_)
        intro w7 hS7
        go_wp2_with fail
        go_ret
        exact ⟨rfl, below_on hbel hS7.2.2.2⟩
      · rw [hri rfl] at C5
        refine Calm.region (by kernel_rfl) (by kernel_rfl) (fun w' : World => w'.rangeAt b13 0 (vals y.l) ∧ w'.rangeAt (w.heap.size + 1) 0 (vals own.l) ∧ w'.rangeAt b15 0 (rows Vc.cells A) ∧ Below w6.heap.size w6 w') ⟨Q2.range0, range_of R2, range_r Q3, (Below.refl _ _).drew⟩ ?_
        refine Calm.lm iy (fun _ h => h.1) Try.underlying23 ?_
        refine Calm.lm iv (fun _ h => h.2.1) Try.underlying23 ?_
        refine Calm.k2 ST (fun w' _ => C4 w') ?_
        iterate 4 (refine Calm.pu ?_)
        refine Calm.lm iy (fun _ h => h.1) Try.underlying23 ?_
        refine Calm.lm iA (fun _ h => h.2.2.1) Try.underlying24 ?_
        refine Calm.pu ?_
        refine Calm.lm iv (fun _ h => h.2.1) Try.underlying23 ?_
        refine Calm.pu ?_
        refine Calm.k4 ST (fun w' h => C3 w' h.2.2.2) ?_
        refine Calm.k2 ST (fun w' _ => C5 w') ?_
        iterate 3 (refine Calm.pu ?_)
        refine Calm.k0 ST (fun w' _ => K.heads w') ?_
        iterate 2 (refine Calm.pu ?_)
        intro w7 hS7
        go_wp2_with fail
        go_ret
        exact ⟨rfl, below_on hbel hS7.2.2.2⟩
end Go.Proofs.Ytcebchjokmampaa
/- What StableAll says. -/
namespace Go.Proofs.Ytcebchjokmampaa
open Go.RowKit

def jnV (a b : Vc) : Vc := ⟨jn a.l b.l, jn_length a.h b.h⟩
theorem lq_jn (a b : Vc) : lq b.l (jnV a b).l = true := (lq_iff b.h (jnV a b).h).2 fun i hi => by
  rw [show (jnV a b).l = jn a.l b.l from rfl, jn_at a.h b.h i hi]
  omega
theorem lq_anti {a b : Vc} (h1 : lq a.l b.l = true) (h2 : lq b.l a.l = true) : a = b :=
  Vc.ext (ext13 a.h b.h fun i hi => Int.le_antisymm ((lq_iff a.h b.h).1 h1 i hi) ((lq_iff b.h a.h).1 h2 i hi))
theorem ctL_all (M : List Vc) (self : Int) (own : Vc) (live : List Int) (h : ∀ p ∈ live, lq own.l (M.getD p.toNat z0).l = true) : ctL M self own live = own :=
  lq_anti (ctL_own M self own live) ((ctL_iff M self own live own).2 ⟨lq_self own, fun p hp _ => h p hp⟩)
set_option maxHeartbeats 8000000 in
set_option maxRecDepth 100000 in
theorem all20_law (K : Prs) (M : List Vc) (hM : M.length = 13) (self : Int) (own : Vc) (live : List Int) (sv : Value) (w : World) (h : IHas w sv live) : Calls Try.prog 3 #[RV M, .int .i64 self, V own.l, sv] w (Tells (.bool true) w) := by
  obtain ⟨q, c, rfl⟩ := SHas.slice h
  have hml := maxLen_lt h.1
  obtain ⟨R1, R2, hbel⟩ := two_rows w (rows Vc.cells M).toArray 24 (vals own.l).toArray 23
  generalize hW : (w.alloc (.cells (rows Vc.cells M).toArray 24)).alloc (.cells (vals own.l).toArray 23) = w0 at R1 R2 hbel
  have zv := size_v own.h
  go_enter Try.func3, Try.ntmps3
  go_upto_region 1 with (rw [hW])
  clear hW
  by_cases h40 : live.length ≤ 40
  case neg =>
    have h40' : (40 : Int) < (live.length : Int) := by omega
    go_wp2_with fail
    refine (K.heads _).mono ?_
    rintro e w2 ⟨rfl, hb2⟩
    go_wp2_with fail
    go_ret
    exact ⟨rfl, below_on hbel hb2⟩
  have h40' : ¬ (40 : Int) < (live.length : Int) := by omega
  by_cases hs1 : self < 1
  · go_wp2_with fail
    refine (K.heads _).mono ?_
    rintro e w2 ⟨rfl, hb2⟩
    go_wp2_with fail
    go_ret
    exact ⟨rfl, below_on hbel hb2⟩
  by_cases hs2 : 12 < self
  · go_wp2_with fail
    refine (K.heads _).mono ?_
    rintro e w2 ⟨rfl, hb2⟩
    go_wp2_with fail
    go_ret
    exact ⟨rfl, below_on hbel hb2⟩
  have HS : Hid (wi self 1 12 = true) := wi_iff.2 ⟨by omega, by omega⟩
  go_wp2_with fail
  clear hs1 hs2 h40'
  go_loopw [9] (fun vi wr => ∃ (k : Nat) (Mk : List Vc), vi = .int .i64 k ∧ k ≤ live.length ∧ Mk.length = 13 ∧ Hid ((∀ i (h : i < live.length), i < k → wi live[i] 1 12 = true) ∧ ∀ i (h : i + 1 < live.length), i + 1 < k → live[i]'(by omega) < live[i + 1]) ∧ Hid (∀ i (h : i < live.length), i < k → lq own.l (Mk.getD live[i].toNat z0).l = true) ∧ Rw wr w.heap.size 24 (rows Vc.cells Mk).toArray ∧ Rw wr (w.heap.size + 1) 23 (vals own.l).toArray ∧ Below w.heap.size w wr) (fun vi _ => live.length - (intOf vi).toNat)
  case atStart => exact ⟨0, M, rfl, by omega, hM, (show _ ∧ _ from ⟨fun i _ h => by omega, fun i _ h => by omega⟩), (show ∀ i (_ : i < live.length), i < 0 → _ from fun i _ h => by omega), R1, R2, hbel⟩
  case round =>
    clear R1 R2 hbel
    obtain ⟨k, Mk, rfl, hk, hMk, HV, HQ, R1, R2, hbel⟩ := hrel
    by_cases hlt : k < live.length
    · have hlt' : (k : Int) < (live.length : Int) := by omega
      obtain ⟨g, o, rfl, hd0⟩ := IHas.at h k hlt
      have hgl : g < w.heap.size := SHas.block (by decide) h rfl (show 0 < live.length by omega)
      have hd : ∀ i (hi : i < live.length), wr.cell? ⟨g, o + i, none⟩ = some (.int .i64 live[i]) := fun i hi => cell_later hbel (hd0 i hi)
      clear hd0
      have c1 := hd k hlt
      obtain ⟨x, HX⟩ := hid_ex live[k]
      rw [HX.out] at c1
      have hb0 : Hid (∀ w', Below wr.heap.size wr w' → Below w.heap.size w w') := fun w' hb => below_on hbel hb
      obtain ⟨bad, HBAD⟩ : ∃ b : Bool, Hid (b = true ↔ (x < 1 ∨ 12 < x ∨ ∃ j, ∃ hj : k = j + 1, x ≤ live[j]'(by omega))) := by
        by_cases hp : (x < 1 ∨ 12 < x ∨ ∃ j, ∃ hj : k = j + 1, x ≤ live[j]'(by omega))
        · exact ⟨true, (show _ ↔ _ from ⟨fun _ => hp, fun _ => rfl⟩)⟩
        · exact ⟨false, (show _ ↔ _ from ⟨(fun e => by cases e), fun e => absurd e hp⟩)⟩
      go_upto_region 6 with fail
      go_cut [55] from 22 to 69 (fun vb wx => vb = .bool bad ∧ Below wr.heap.size wr wx)
      case first =>
        by_cases hk0 : k = 0
        · subst hk0
          rw [Nat.add_zero] at c1
          by_cases hx1 : x < 1
          · obtain rfl : true = bad := (HBAD.out.2 (.inl hx1)).symm
            refine Calm.region (by kernel_rfl) (by kernel_rfl) (fun w' : World => w'.cell? ⟨g, o, none⟩ = some (.int .i64 x) ∧ Below wr.heap.size wr w') ⟨c1, (Below.refl _ _).drew⟩ ?_
            iterate 3 (refine Calm.pu ?_)
            refine Calm.ce (fun _ h => h.1) ?_
            iterate 24 (first | refine Calm.sk ?_ | refine Calm.pu ?_)
            intro w4 hS4
            go_wp2_with fail
            go_meet
            case rel => exact ⟨rfl, hS4.2⟩
          · by_cases hx2 : 12 < x
            · obtain rfl : true = bad := (HBAD.out.2 (.inr (.inl hx2))).symm
              refine Calm.region (by kernel_rfl) (by kernel_rfl) (fun w' : World => w'.cell? ⟨g, o, none⟩ = some (.int .i64 x) ∧ Below wr.heap.size wr w') ⟨c1, (Below.refl _ _).drew⟩ ?_
              iterate 3 (refine Calm.pu ?_)
              refine Calm.ce (fun _ h => h.1) ?_
              iterate 5 (refine Calm.pu ?_)
              refine Calm.ce (fun _ h => h.1) ?_
              iterate 18 (first | refine Calm.sk ?_ | refine Calm.pu ?_)
              intro w4 hS4
              go_wp2_with fail
              go_meet
              case rel => exact ⟨rfl, hS4.2⟩
            · obtain rfl : false = bad := by
                refine (Bool.eq_false_iff.2 fun e => ?_).symm
                rcases HBAD.out.1 e with h1 | h1 | ⟨j, hj, _⟩
                · exact hx1 h1
                · exact hx2 h1
                · omega
              refine Calm.region (by kernel_rfl) (by kernel_rfl) (fun w' : World => w'.cell? ⟨g, o, none⟩ = some (.int .i64 x) ∧ Below wr.heap.size wr w') ⟨c1, (Below.refl _ _).drew⟩ ?_
              iterate 3 (refine Calm.pu ?_)
              refine Calm.ce (fun _ h => h.1) ?_
              iterate 5 (refine Calm.pu ?_)
              refine Calm.ce (fun _ h => h.1) ?_
              iterate 18 (first | refine Calm.sk ?_ | refine Calm.pu ?_)
              intro w4 hS4
              go_wp2_with fail
              go_meet
              case rel => exact ⟨rfl, hS4.2⟩
        · obtain ⟨j, rfl⟩ : ∃ j, k = j + 1 := ⟨k - 1, by omega⟩
          have c2 := hd j (by omega)
          obtain ⟨y, HY⟩ := hid_ex (live[j]'(by omega))
          rw [HY.out] at c2
          have hk0' : (0 : Int) < (j : Int) + 1 := by omega
          have e1 : IntKind.i64.wrap (j : Int) = (j : Int) := by rw [IntKind.wrap_i64]; omega
          have hj0 : (0 : Int) ≤ (j : Int) + 1 := by omega
          have hj1 : (j : Int) + 1 < (live.length : Int) := by omega
          have hj2 : (j : Int) < (live.length : Int) := by omega
          rcases (show (x < 1 ∧ true = bad) ∨ (¬ x < 1 ∧ 12 < x ∧ true = bad) ∨ (¬ x < 1 ∧ ¬ 12 < x ∧ x ≤ y ∧ true = bad) ∨ (¬ x < 1 ∧ ¬ 12 < x ∧ ¬ x ≤ y ∧ false = bad) by
            by_cases hx1 : x < 1
            · exact .inl ⟨hx1, (HBAD.out.2 (.inl hx1)).symm⟩
            · by_cases hx2 : 12 < x
              · exact .inr (.inl ⟨hx1, hx2, (HBAD.out.2 (.inr (.inl hx2))).symm⟩)
              · by_cases hxy : x ≤ y
                · exact .inr (.inr (.inl ⟨hx1, hx2, hxy, (HBAD.out.2 (.inr (.inr ⟨j, rfl, by rw [HY.out]; exact hxy⟩))).symm⟩))
                · refine .inr (.inr (.inr ⟨hx1, hx2, hxy, (Bool.eq_false_iff.2 fun e => ?_).symm⟩))
                  rcases HBAD.out.1 e with h1 | h1 | ⟨i, hi, h1⟩
                  · exact hx1 h1
                  · exact hx2 h1
                  · obtain rfl : j = i := by omega
                    rw [HY.out] at h1
                    exact hxy h1) with ⟨hx1, rfl⟩ | ⟨hx1, hx2, rfl⟩ | ⟨hx1, hx2, hxy, rfl⟩ | ⟨hx1, hx2, hxy, rfl⟩
          all_goals
            refine Calm.region (by kernel_rfl) (by kernel_rfl) (fun w' : World => w'.cell? ⟨g, o + (j + 1), none⟩ = some (.int .i64 x) ∧ w'.cell? ⟨g, o + j, none⟩ = some (.int .i64 y) ∧ Below wr.heap.size wr w') ⟨c1, c2, (Below.refl _ _).drew⟩ ?_
            iterate 3 (refine Calm.pu ?_)
            refine Calm.ce (fun _ h => h.1) ?_
            iterate 5 (first | refine Calm.sk ?_ | refine Calm.pu ?_)
            first | refine Calm.sk ?_ | refine Calm.ce (fun _ h => h.1) ?_
            iterate 9 (first | refine Calm.sk ?_ | refine Calm.pu ?_)
            first | refine Calm.sk ?_ | refine Calm.ce (fun _ h => h.1) ?_
            iterate 4 (first | refine Calm.sk ?_ | refine Calm.pu ?_)
            first | refine Calm.sk ?_ | refine Calm.ce (fun _ h => h.2.1) ?_
            iterate 3 (first | refine Calm.sk ?_ | refine Calm.pu ?_)
            intro w4 hS4
            go_wp2_with fail
            go_meet
            case rel => exact ⟨rfl, hS4.2.2⟩
      case rest =>
        obtain ⟨rfl, hb1⟩ := hcut
        cases bad
        case true =>
          go_wp2_with fail
          refine (K.heads _).mono ?_
          rintro e w2 ⟨rfl, hb2⟩
          go_wp2_with fail
          go_ret
          exact ⟨rfl, below_on (below_on hbel hb1) hb2⟩
        have hbd : ¬ (x < 1 ∨ 12 < x ∨ ∃ j, ∃ hj : k = j + 1, x ≤ live[j]'(by omega)) := fun e => by
          have := HBAD.out.2 e
          cases this
        have hx1 : 1 ≤ x := by
          rcases Int.lt_or_le x 1 with h' | h'
          · exact absurd (.inl h') hbd
          · exact h'
        have hx2 : x ≤ 12 := by
          rcases Int.lt_or_le 12 x with h' | h'
          · exact absurd (.inr (.inl h')) hbd
          · exact h'
        have HV2 : Hid ((∀ i (h : i < live.length), i < k + 1 → wi live[i] 1 12 = true) ∧ ∀ i (h : i + 1 < live.length), i + 1 < k + 1 → live[i]'(by omega) < live[i + 1]) := show _ ∧ _ from ⟨fun i h hi => by
            rcases Nat.lt_or_ge i k with h3 | h3
            · exact HV.out.1 i h h3
            · obtain rfl : i = k := by omega
              rw [HX.out]
              exact wi_iff.2 ⟨hx1, hx2⟩, fun i h hi => by
            rcases Nat.lt_or_ge (i + 1) k with h3 | h3
            · exact HV.out.2 i h h3
            · obtain rfl : i + 1 = k := by omega
              rw [HX.out]
              rcases Int.lt_or_le (live[i]'(by omega)) x with h' | h'
              · exact h'
              · exact absurd (.inr (.inr ⟨i, rfl, h'⟩)) hbd⟩
        obtain ⟨n, en⟩ : ∃ n : Nat, x = (n : Int) := ⟨x.toNat, by omega⟩
        subst en
        have hn : n < Mk.length := by omega
        have hn' : (n : Int) < 13 := by omega
        have hbw : Below w.heap.size w wc := below_on hbel hb1
        replace R1 := R1.later hb1
        replace R2 := R2.later hb1
        replace c1 := cell_later hb1 c1
        clear hbd HBAD hd hb0 hbel hb1
        have dn := row_at R1 n hn
        have dv := range_of R2
        have z1 := info_vals Mk[n].h
        have z2 := info_vals own.h
        have hS : wc.cell? ⟨g, o + k, none⟩ = some (.int .i64 n) ∧ wc.rangeAt (w.heap.size + 1) 0 (vals own.l) := ⟨c1, dv⟩
        go_wp2_with fail
        refine HeldI.region (fun w' => w'.cell? ⟨g, o + k, none⟩ = some (.int .i64 n) ∧ w'.rangeAt (w.heap.size + 1) 0 (vals own.l)) (by kernel_rfl) ?_
        refine HeldI.pu 0 hS ?_
        refine HeldI.pu 1 hS ?_
        refine HeldI.pu 2 hS ?_
        refine HeldI.ce 3 (fun _ h => h.1) hS ?_
        refine HeldI.pu 4 hS ?_
        refine HeldI.pu 5 hS ?_
        refine HeldI.pu 6 hS ?_
        refine HeldI.ce 7 (fun _ h => h.1) hS ?_
        refine HeldI.pu 8 hS ?_
        refine HeldI.lm 10 z2 (fun _ h => h.2) Try.underlying23 hS ?_
        refine HeldI.la 9 z1 (show wc.drew.rangeAt w.heap.size (n * 13) (vals Mk[n].l) from dn) Try.underlying23 hS ?_
        refine HeldI.kn 11 (refJoin_any Mk[n].l own.l _ Mk[n].h own.h) ?_
        rintro e w3 ⟨rfl, hb3⟩
        have hb3' : Below wc.heap.size wc w3 := below_on (Below.refl _ _).drew hb3
        have hS3 : w3.cell? ⟨g, o + k, none⟩ = some (.int .i64 n) ∧ w3.rangeAt (w.heap.size + 1) 0 (vals own.l) := ⟨cell_later hb3' hS.1, range_later hS.2 hb3'⟩
        refine ⟨_, rfl, hS3, ?_⟩
        replace R1 := R1.later hb3'
        replace R2 := R2.later hb3'
        have ht := there_row R1 n hn
        have P1 := put_row R1 n hn (jnV Mk[n] own)
        have hst : (Instr.storeAt 23 (.pointer (some ⟨w.heap.size, n * 13, none⟩)) (V (jn Mk[n].l own.l))).run Try.prog w3 = .ok () (w3.setCells w.heap.size (n * 13) (vals (jn Mk[n].l own.l))) := by
          have := run_storeAt_mid (P := Try.prog) w3 w.heap.size (n * 13) 23 (vals (jn Mk[n].l own.l)).toArray (by rw [vals_size, jn_length Mk[n].h own.h]; exact ht) (size_v (jn_length Mk[n].h own.h)) (vals_one _)
          rw [List.toList_toArray] at this
          exact this
        refine HeldI.pu 12 hS3 ?_
        refine HeldI.ss 13 hst ?_ ?_
        · exact ⟨(World.cell?_of_block (setCells_ne (b := g) (g := w.heap.size) (by omega) _ _)).trans hS3.1, range_same hS3.2 (setCells_ne (g := w.heap.size) (by omega) _ _)⟩
        refine HeldI.dn ?_
        go_wp2_with fail
        go_roundw
        case rel =>
          refine ⟨k + 1, Mk.set n (jnV Mk[n] own), by simp, by omega, by rw [List.length_set]; exact hMk, HV2, (show ∀ i (_ : i < live.length), i < k + 1 → _ from fun i hi hik => ?_), P1, rw_setCells R2 (by omega) _ _, bel_setCells (below_on hbw hb3') (Nat.le_refl _) _ _⟩
          by_cases e : live[i].toNat = n
          · rw [e, List.getD_eq_getElem?_getD, List.getElem?_set_self hn]
            exact lq_jn Mk[n] own
          · rw [List.getD_eq_getElem?_getD, List.getElem?_set_ne (Ne.symm e), ← List.getD_eq_getElem?_getD]
            rcases Nat.lt_or_ge i k with h3 | h3
            · exact HQ.out i hi h3
            · obtain rfl : i = k := by omega
              rw [HX.out] at e
              simp at e
        case measure => simp [intOf]; omega
    · have hlt' : ¬ (k : Int) < (live.length : Int) := by omega
      have HCK : Hid (ckI live = true) := (ckI_iff live).2 ⟨fun i h => HV.out.1 i h (by omega), fun i h => HV.out.2 i h (by omega)⟩
      have HAL : Hid (∀ p ∈ live, lq own.l (Mk.getD p.toNat z0).l = true) := fun p hp => by
        obtain ⟨i, hi, rfl⟩ := List.getElem_of_mem hp
        exact HQ.out i hi (by omega)
      clear HV HQ
      have E := fun w' => eq_arrays w' own.l own.l own.h own.h
      simp only [BEq.rfl] at E
      have iM := info_rows hMk
      have iv := info_vals own.h
      have hI := SHas.later h hbel
      by_cases hl0 : live.length = 0
      · have gb : ((live.length : Int) == 0) = true := by rw [beq_iff_eq]; omega
        have ST : Calm.Stays (fun w' : World => Below wr.heap.size wr w') := fun a b h hb => below_on h hb
        clear hl0
        go_wp2_with fail
        refine Calm.region (by kernel_rfl) (by kernel_rfl) (fun w' : World => Below wr.heap.size wr w') (Below.refl _ _).drew ?_
        iterate 4 (refine Calm.pu ?_)
        iterate 7 (refine Calm.sk ?_)
        iterate 2 (refine Calm.pu ?_)
        refine Calm.k0 ST (fun w' _ => K.heads w') ?_
        iterate 2 (refine Calm.pu ?_)
        intro w7 hS7
        go_wp2_with fail
        go_ret
        exact ⟨rfl, below_on hbel hS7⟩
      · have gb : ((live.length : Int) == 0) = false := by rw [beq_eq_false_iff_ne]; omega
        have C3 := fun (w' : World) (hb : Below wr.heap.size wr w') => K.cut Mk self own live (.slice q live.length c) w' hMk (SHas.later hI hb)
        have hcb : ctB self live = true := by
          unfold ctB
          rw [HCK.out, HS.out, decide_eq_true hl0]
          rfl
        rw [cutV, if_pos hcb, ctL_all Mk self own live HAL.out] at C3
        have ST : Calm.Stays (fun w' : World => w'.rangeAt w.heap.size 0 (rows Vc.cells Mk) ∧ w'.rangeAt (w.heap.size + 1) 0 (vals own.l) ∧ Below wr.heap.size wr w') := fun a b h hb => ⟨range_later h.1 hb, range_later h.2.1 hb, below_on h.2.2 hb⟩
        clear hl0 hcb
        go_wp2_with fail
        refine Calm.region (by kernel_rfl) (by kernel_rfl) (fun w' : World => w'.rangeAt w.heap.size 0 (rows Vc.cells Mk) ∧ w'.rangeAt (w.heap.size + 1) 0 (vals own.l) ∧ Below wr.heap.size wr w') ⟨range_r R1, range_of R2, (Below.refl _ _).drew⟩ ?_
        iterate 4 (refine Calm.pu ?_)
        refine Calm.lm iM (fun _ h => h.1) Try.underlying24 ?_
        refine Calm.pu ?_
        refine Calm.lm iv (fun _ h => h.2.1) Try.underlying23 ?_
        refine Calm.pu ?_
        refine Calm.k4 ST (fun w' h => C3 w' h.2.2) ?_
        refine Calm.lm iv (fun _ h => h.2.1) Try.underlying23 ?_
        iterate 3 (refine Calm.pu ?_)
        refine Calm.k0 ST (fun w' _ => K.heads w') ?_
        iterate 2 (refine Calm.pu ?_)
        intro w7 hS7
        go_wp2_with fail
        go_ret
        exact ⟨rfl, below_on hbel hS7.2.2⟩
end Go.Proofs.Ytcebchjokmampaa
