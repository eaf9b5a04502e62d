import Derived.Test.YtjjncmenkepcoaaP2
/- Check of the document's answer for layer 22. -/
namespace Go.Proofs.Ytjjncmenkepcoaa
open Go.RowKit

theorem less_bytes : ∀ (x y : Bs), Op.bytesLess x y = decide (x < y)
  | [], [] => by simp [Op.bytesLess]
  | _ :: _, [] => by simp [Op.bytesLess]
  | [], _ :: _ => by simp [Op.bytesLess]
  | a :: x, b :: y => by
    rw [Op.bytesLess, less_bytes x y]
    simp only [List.cons_lt_cons_iff]
    by_cases h1 : a < b <;> by_cases h2 : a = b <;> by_cases h3 : x < y <;> simp [h1, h2, h3]
theorem less_str (a b : ByteArray) : Op.bytesLess a.toList b.toList = decide (bs a < bs b) := by rw [ByteArray.toList_eq, ByteArray.toList_eq, less_bytes]
theorem eq_str (a b : ByteArray) : (a.toList == b.toList) = decide (bs a = bs b) := by
  rw [ByteArray.toList_eq, ByteArray.toList_eq]
  by_cases h : bs a = bs b
  · rw [decide_eq_true h]
    simpa using h
  · rw [decide_eq_false h]
    simpa using h

theorem leq_str (a b : ByteArray) : (Op.bytesLess b.toList a.toList || b.toList == a.toList) = !decide (bs a < bs b) := by
  rw [less_str, eq_str]
  by_cases h : bs a < bs b
  · have h1 : ¬ bs b < bs a := Bs.asymm h
    have h2 : ¬ bs b = bs a := fun e => Bs.irr _ (e ▸ h)
    simp only [h, h1, h2, decide_true, decide_false]
    rfl
  · by_cases h2 : bs b = bs a
    · simp [h2]
    · have h1 : bs b < bs a := Bs.tri h (fun e => h2 e.symm)
      simp only [h, h1, decide_true, decide_false]
      rfl
set_option maxHeartbeats 16000000 in
set_option maxRecDepth 100000 in
theorem rCheck_any (d : DV) (sl : Value) (w : World) (h : FHas w sl d.fs) : Calls Try.prog 26 #[DKV.of sl d] w (Tells (.bool (ckD d)) w) := by
  obtain ⟨q, c, rfl⟩ := h.slice
  have hml := maxLen_lt h.max
  have H : Hid (FHas w (.slice q d.fs.length c) d.fs) := h
  clear h
  obtain ⟨z, HZ⟩ := hid_ex (ckD d)
  rw [HZ.out]
  have R0 := rw_new w 26 #[.slice q d.fs.length c, .int .i64 d.room, .int .i64 d.arm, .bool d.dead]
  have hbel := bel_alloc (Below.refl w.heap.size w) (.cells #[.slice q d.fs.length c, .int .i64 d.room, .int .i64 d.arm, .bool d.dead] 26)
  generalize hW : w.alloc (.cells #[.slice q d.fs.length c, .int .i64 d.room, .int .i64 d.arm, .bool d.dead] 26) = w0 at R0 hbel
  have k0 : w0.cell? ⟨w.heap.size, 0, none⟩ = some (.slice q d.fs.length c) := R0.cell 0
  have k1 : w0.cell? ⟨w.heap.size, 1, none⟩ = some (.int .i64 d.room) := R0.cell 1
  have k2 : w0.cell? ⟨w.heap.size, 2, none⟩ = some (.int .i64 d.arm) := R0.cell 2
  go_enter Try.func26, Try.ntmps26
  by_cases h1 : d.room < 0
  · obtain rfl : false = z := by rw [← HZ.out]; unfold ckD ckH; rw [decide_eq_false (show ¬ 0 ≤ d.room by omega)]; rfl
    go_wp2_with (rw [hW])
    go_ret
    exact ⟨rfl, hbel⟩
  by_cases h2 : 1048576 < d.room
  · obtain rfl : false = z := by rw [← HZ.out]; unfold ckD ckH; rw [decide_eq_false (show ¬ d.room ≤ 1048576 by omega)]; simp
    go_wp2_with (rw [hW])
    go_ret
    exact ⟨rfl, hbel⟩
  by_cases h3 : d.arm < -1
  · obtain rfl : false = z := by rw [← HZ.out]; unfold ckD ckH; rw [decide_eq_false (show ¬ -1 ≤ d.arm by omega)]; simp
    go_wp2_with (rw [hW])
    go_ret
    exact ⟨rfl, hbel⟩
  by_cases h64 : (64 : Int) < (d.fs.length : Int)
  · obtain rfl : false = z := by rw [← HZ.out]; unfold ckD ckH; rw [decide_eq_false (show ¬ d.fs.length ≤ 64 by omega)]; simp
    go_wp2_with (rw [hW])
    go_ret
    exact ⟨rfl, hbel⟩
  have HZ2 : Hid (ckF d.room d.fs = z) := by
    show _ = _
    rw [← HZ.out]
    unfold ckD ckH
    rw [decide_eq_true (show 0 ≤ d.room by omega), decide_eq_true (show d.room ≤ 1048576 by omega), decide_eq_true (show -1 ≤ d.arm by omega), decide_eq_true (show d.fs.length ≤ 64 by omega)]
    rfl
  clear HZ
  go_wp2_with (rw [hW])
  clear hW k0 k1 k2 h64 h3
  go_loopw [3, 4] (fun vn vi wr => ∃ k : Nat, vi = .int .i64 k ∧ vn = .int .i64 (us (d.fs.take k)) ∧ k ≤ d.fs.length ∧ Hid (∀ i (h : i < d.fs.length), i < k → okf d.room d.fs i h = true) ∧ (us (d.fs.take k) : Int) ≤ d.room ∧ Rw wr w.heap.size 26 #[.slice q d.fs.length c, .int .i64 d.room, .int .i64 d.arm, .bool d.dead] ∧ Below w.heap.size w wr) (fun _ vi _ => d.fs.length - (intOf vi).toNat)
  case atStart => exact ⟨0, rfl, rfl, by omega, (show ∀ i (h : i < d.fs.length), i < 0 → _ from fun i _ h => by omega), by show ((0 : Nat) : Int) ≤ _; omega, R0, hbel⟩
  case round =>
    clear R0 hbel
    obtain ⟨k, rfl, rfl, hk, HK, hur, R0, hbel⟩ := hrel
    have k0 : wr.cell? ⟨w.heap.size, 0, none⟩ = some (.slice q d.fs.length c) := R0.cell 0
    by_cases hlt : k < d.fs.length
    · have hlt' : (k : Int) < (d.fs.length : Int) := by omega
      obtain ⟨g, o, s1, rfl, d00, a0⟩ := H.out.at k hlt
      have d0 := range_later d00 hbel
      obtain ⟨p1, c1, rfl⟩ := SHas.slice a0
      have hbad0 : okf d.room d.fs k hlt = false → z = false := fun e => (ckF_not HZ2 hlt e).out
      have hbad : Hid (okf d.room d.fs k hlt = false → z = false) := hbad0
      clear hbad0
      have HS := us_take_succ hlt
      have hmf := maxLen_lt a0.1
      obtain ⟨f, HF⟩ := hid_ex d.fs[k]
      obtain ⟨u, HU⟩ := hid_ex (us (d.fs.take k))
      rw [HF.out] at d0 HS hmf
      rw [HU.out] at HS hur ⊢
      have HUS : Hid (us (d.fs.take (k + 1)) = u + f.d.length) := HS
      have HUX : Hid (us (d.fs.take k) = u) := HU
      have zf : (Try.prog.info? 57).map (·.size) = some [Value.string f.x, .slice p1 f.d.length c1, .int .i64 f.k].length := sizeF
      have RB := rw_new wr 57 #[.string f.x, .slice p1 f.d.length c1, .int .i64 f.k]
      have hba := bel_alloc (Below.refl wr.heap.size wr) (.cells #[.string f.x, .slice p1 f.d.length c1, .int .i64 f.k] 57)
      have hfp : ∃ pg po pn, (wr.alloc (.cells #[.string f.x, .slice p1 f.d.length c1, .int .i64 f.k] 57)).cell? ⟨pg, po, none⟩ = some (.string pn) ∧ (0 < k → pg = g ∧ po = o + (k - 1) * 3 ∧ pn = (d.fs[k - 1]'(by omega)).x) := by
        rcases Nat.eq_zero_or_pos k with h0 | h0
        · exact ⟨wr.heap.size, 0, f.x, RB.cell 0, fun h => by omega⟩
        · obtain ⟨g2, o2, s2, e2, d2, _⟩ := H.out.at (k - 1) (by omega)
          simp only [Option.some.injEq, Addr.mk.injEq, and_true] at e2
          obtain ⟨rfl, rfl⟩ := e2
          exact ⟨g, o + (k - 1) * 3, _, cell_later hba (f_cells (range_later d2 hbel)).1, fun _ => ⟨rfl, rfl, rfl⟩⟩
      generalize hW : wr.alloc (.cells #[.string f.x, .slice p1 f.d.length c1, .int .i64 f.k] 57) = wx at RB hba hfp
      obtain ⟨pg, po, pn, fp, HPN⟩ := hfp
      have HP : Hid (0 < k → pg = g ∧ po = o + (k - 1) * 3 ∧ pn = (d.fs[k - 1]'(by omega)).x) := HPN
      clear HPN d00 a0 HS
      go_wp2_with (first | rw [hW] | refine load_m 57 _ rfl rfl _ _ rfl d0 Try.underlying57 rfl zf ?_)
      clear hW d0 zf k0
      replace R0 := R0.later hba
      have hbelx := below_on hbel hba
      have k0 : wx.cell? ⟨w.heap.size, 0, none⟩ = some (.slice (some ⟨g, o, none⟩) d.fs.length c) := R0.cell 0
      have k1 : wx.cell? ⟨w.heap.size, 1, none⟩ = some (.int .i64 d.room) := R0.cell 1
      have f0 : wx.cell? ⟨wr.heap.size, 0, none⟩ = some (.string f.x) := RB.cell 0
      have f1 : wx.cell? ⟨wr.heap.size, 1, none⟩ = some (.slice p1 f.d.length c1) := RB.cell 1
      have f2 : wx.cell? ⟨wr.heap.size, 2, none⟩ = some (.int .i64 f.k) := RB.cell 2
      clear RB hba hbel
      have C1 := fun w' : World => rNamed_any f.x w'
      obtain ⟨r1, HR1⟩ := hid_ex (nmd f.x)
      rw [HR1.out] at C1
      cases r1
      · obtain rfl : false = z := (hbad.out (by simp only [okf, HF.out, HR1.out]; rfl)).symm
        clear hbad HK HZ2 HUX
        have ST : Calm.Stays (fun w' : World => w'.cell? ⟨w.heap.size, 0, none⟩ = some (.slice (some ⟨g, o, none⟩) d.fs.length c) ∧ w'.cell? ⟨w.heap.size, 1, none⟩ = some (.int .i64 d.room) ∧ w'.cell? ⟨wr.heap.size, 0, none⟩ = some (.string f.x) ∧ w'.cell? ⟨wr.heap.size, 1, none⟩ = some (.slice p1 f.d.length c1) ∧ w'.cell? ⟨wr.heap.size, 2, none⟩ = some (.int .i64 f.k) ∧ w'.cell? ⟨pg, po, none⟩ = some (.string pn) ∧ Below wx.heap.size wx w') := fun a b h hb => ⟨cell_later hb h.1, cell_later hb h.2.1, cell_later hb h.2.2.1, cell_later hb h.2.2.2.1, cell_later hb h.2.2.2.2.1, cell_later hb h.2.2.2.2.2.1, below_on h.2.2.2.2.2.2 hb⟩
        refine Calm.region (by kernel_rfl) (by kernel_rfl) (fun w' : World => w'.cell? ⟨w.heap.size, 0, none⟩ = some (.slice (some ⟨g, o, none⟩) d.fs.length c) ∧ w'.cell? ⟨w.heap.size, 1, none⟩ = some (.int .i64 d.room) ∧ w'.cell? ⟨wr.heap.size, 0, none⟩ = some (.string f.x) ∧ w'.cell? ⟨wr.heap.size, 1, none⟩ = some (.slice p1 f.d.length c1) ∧ w'.cell? ⟨wr.heap.size, 2, none⟩ = some (.int .i64 f.k) ∧ w'.cell? ⟨pg, po, none⟩ = some (.string pn) ∧ Below wx.heap.size wx w') ⟨k0, k1, f0, f1, f2, fp, (Below.refl _ _).drew⟩ ?_
        refine Calm.pu ?_
        refine Calm.ce (fun _ h => h.2.2.1) ?_
        refine Calm.k1 ST (fun w' _ => C1 w') ?_
        iterate 2 (refine Calm.pu ?_)
        iterate 14 (refine Calm.sk ?_)
        iterate 2 (refine Calm.pu ?_)
        iterate 3 (refine Calm.sk ?_)
        iterate 2 (refine Calm.pu ?_)
        iterate 6 (refine Calm.sk ?_)
        iterate 2 (refine Calm.pu ?_)
        iterate 8 (refine Calm.sk ?_)
        refine Calm.pu ?_
        intro w6 hS6
        have hb6 := hS6.2.2.2.2.2.2
        clear hS6 ST C1 k0 k1 f0 f1 f2 fp
        go_wp2_with fail
        go_ret
        exact ⟨rfl, below_on hbelx hb6⟩
      · by_cases hk0 : k = 0
        · have e2 : decide (0 < k) = false := decide_eq_false (by omega)
          have OKA : okf d.room d.fs k hlt = (decide (0 ≤ f.k) && (decide (f.k ≤ f.d.length) && decide ((f.d.length : Int) ≤ d.room - u))) := by
            simp only [okf, HF.out, HUX.out, HR1.out, decide_eq_true hk0, Bool.true_and, Bool.true_or]
          clear hk0
          have ew : IntKind.i64.wrap (d.room - (u : Int)) = d.room - (u : Int) := by rw [IntKind.wrap_i64]; omega
          by_cases h4 : f.k < 0
          · have e4 : decide (f.k < 0) = true := decide_eq_true h4
            obtain rfl : false = z := (hbad.out (by rw [OKA]; rw [decide_eq_false (show ¬ 0 ≤ f.k by omega)]; simp)).symm
            clear h4 hbad HK HZ2 OKA HUX
            have ST : Calm.Stays (fun w' : World => w'.cell? ⟨w.heap.size, 0, none⟩ = some (.slice (some ⟨g, o, none⟩) d.fs.length c) ∧ w'.cell? ⟨w.heap.size, 1, none⟩ = some (.int .i64 d.room) ∧ w'.cell? ⟨wr.heap.size, 0, none⟩ = some (.string f.x) ∧ w'.cell? ⟨wr.heap.size, 1, none⟩ = some (.slice p1 f.d.length c1) ∧ w'.cell? ⟨wr.heap.size, 2, none⟩ = some (.int .i64 f.k) ∧ w'.cell? ⟨pg, po, none⟩ = some (.string pn) ∧ Below wx.heap.size wx w') := fun a b h hb => ⟨cell_later hb h.1, cell_later hb h.2.1, cell_later hb h.2.2.1, cell_later hb h.2.2.2.1, cell_later hb h.2.2.2.2.1, cell_later hb h.2.2.2.2.2.1, below_on h.2.2.2.2.2.2 hb⟩
            refine Calm.region (by kernel_rfl) (by kernel_rfl) (fun w' : World => w'.cell? ⟨w.heap.size, 0, none⟩ = some (.slice (some ⟨g, o, none⟩) d.fs.length c) ∧ w'.cell? ⟨w.heap.size, 1, none⟩ = some (.int .i64 d.room) ∧ w'.cell? ⟨wr.heap.size, 0, none⟩ = some (.string f.x) ∧ w'.cell? ⟨wr.heap.size, 1, none⟩ = some (.slice p1 f.d.length c1) ∧ w'.cell? ⟨wr.heap.size, 2, none⟩ = some (.int .i64 f.k) ∧ w'.cell? ⟨pg, po, none⟩ = some (.string pn) ∧ Below wx.heap.size wx w') ⟨k0, k1, f0, f1, f2, fp, (Below.refl _ _).drew⟩ ?_
            refine Calm.pu ?_
            refine Calm.ce (fun _ h => h.2.2.1) ?_
            refine Calm.k1 ST (fun w' _ => C1 w') ?_
            iterate 5 (refine Calm.pu ?_)
            iterate 10 (refine Calm.sk ?_)
            iterate 4 (refine Calm.pu ?_)
            refine Calm.ce (fun _ h => h.2.2.2.2.1) ?_
            iterate 3 (refine Calm.pu ?_)
            iterate 6 (refine Calm.sk ?_)
            iterate 2 (refine Calm.pu ?_)
            iterate 8 (refine Calm.sk ?_)
            refine Calm.pu ?_
            intro w6 hS6
            have hb6 := hS6.2.2.2.2.2.2
            clear hS6 ST C1 k0 k1 f0 f1 f2 fp
            go_wp2_with fail
            go_ret
            exact ⟨rfl, below_on hbelx hb6⟩
          have e4 : decide (f.k < 0) = false := decide_eq_false h4
          by_cases h5 : (f.d.length : Int) < f.k
          · have e5 : decide ((f.d.length : Int) < f.k) = true := decide_eq_true h5
            obtain rfl : false = z := (hbad.out (by rw [OKA]; rw [decide_eq_false (show ¬ f.k ≤ f.d.length by omega)]; simp)).symm
            clear h4 h5 hbad HK HZ2 OKA HUX
            have ST : Calm.Stays (fun w' : World => w'.cell? ⟨w.heap.size, 0, none⟩ = some (.slice (some ⟨g, o, none⟩) d.fs.length c) ∧ w'.cell? ⟨w.heap.size, 1, none⟩ = some (.int .i64 d.room) ∧ w'.cell? ⟨wr.heap.size, 0, none⟩ = some (.string f.x) ∧ w'.cell? ⟨wr.heap.size, 1, none⟩ = some (.slice p1 f.d.length c1) ∧ w'.cell? ⟨wr.heap.size, 2, none⟩ = some (.int .i64 f.k) ∧ w'.cell? ⟨pg, po, none⟩ = some (.string pn) ∧ Below wx.heap.size wx w') := fun a b h hb => ⟨cell_later hb h.1, cell_later hb h.2.1, cell_later hb h.2.2.1, cell_later hb h.2.2.2.1, cell_later hb h.2.2.2.2.1, cell_later hb h.2.2.2.2.2.1, below_on h.2.2.2.2.2.2 hb⟩
            refine Calm.region (by kernel_rfl) (by kernel_rfl) (fun w' : World => w'.cell? ⟨w.heap.size, 0, none⟩ = some (.slice (some ⟨g, o, none⟩) d.fs.length c) ∧ w'.cell? ⟨w.heap.size, 1, none⟩ = some (.int .i64 d.room) ∧ w'.cell? ⟨wr.heap.size, 0, none⟩ = some (.string f.x) ∧ w'.cell? ⟨wr.heap.size, 1, none⟩ = some (.slice p1 f.d.length c1) ∧ w'.cell? ⟨wr.heap.size, 2, none⟩ = some (.int .i64 f.k) ∧ w'.cell? ⟨pg, po, none⟩ = some (.string pn) ∧ Below wx.heap.size wx w') ⟨k0, k1, f0, f1, f2, fp, (Below.refl _ _).drew⟩ ?_
            refine Calm.pu ?_
            refine Calm.ce (fun _ h => h.2.2.1) ?_
            refine Calm.k1 ST (fun w' _ => C1 w') ?_
            iterate 5 (refine Calm.pu ?_)
            iterate 10 (refine Calm.sk ?_)
            iterate 4 (refine Calm.pu ?_)
            refine Calm.ce (fun _ h => h.2.2.2.2.1) ?_
            iterate 4 (refine Calm.pu ?_)
            refine Calm.ce (fun _ h => h.2.2.2.2.1) ?_
            refine Calm.pu ?_
            refine Calm.ce (fun _ h => h.2.2.2.1) ?_
            iterate 4 (refine Calm.pu ?_)
            iterate 8 (refine Calm.sk ?_)
            refine Calm.pu ?_
            intro w6 hS6
            have hb6 := hS6.2.2.2.2.2.2
            clear hS6 ST C1 k0 k1 f0 f1 f2 fp
            go_wp2_with fail
            go_ret
            exact ⟨rfl, below_on hbelx hb6⟩
          have e5 : decide ((f.d.length : Int) < f.k) = false := decide_eq_false h5
          by_cases h6 : d.room - (u : Int) < (f.d.length : Int)
          · have e6 : decide (d.room - (u : Int) < (f.d.length : Int)) = true := decide_eq_true h6
            obtain rfl : false = z := (hbad.out (by rw [OKA]; rw [decide_eq_false (show ¬ (f.d.length : Int) ≤ d.room - u by omega)]; simp)).symm
            clear h4 h5 h6 hbad HK HZ2 OKA HUX
            have ST : Calm.Stays (fun w' : World => w'.cell? ⟨w.heap.size, 0, none⟩ = some (.slice (some ⟨g, o, none⟩) d.fs.length c) ∧ w'.cell? ⟨w.heap.size, 1, none⟩ = some (.int .i64 d.room) ∧ w'.cell? ⟨wr.heap.size, 0, none⟩ = some (.string f.x) ∧ w'.cell? ⟨wr.heap.size, 1, none⟩ = some (.slice p1 f.d.length c1) ∧ w'.cell? ⟨wr.heap.size, 2, none⟩ = some (.int .i64 f.k) ∧ w'.cell? ⟨pg, po, none⟩ = some (.string pn) ∧ Below wx.heap.size wx w') := fun a b h hb => ⟨cell_later hb h.1, cell_later hb h.2.1, cell_later hb h.2.2.1, cell_later hb h.2.2.2.1, cell_later hb h.2.2.2.2.1, cell_later hb h.2.2.2.2.2.1, below_on h.2.2.2.2.2.2 hb⟩
            refine Calm.region (by kernel_rfl) (by kernel_rfl) (fun w' : World => w'.cell? ⟨w.heap.size, 0, none⟩ = some (.slice (some ⟨g, o, none⟩) d.fs.length c) ∧ w'.cell? ⟨w.heap.size, 1, none⟩ = some (.int .i64 d.room) ∧ w'.cell? ⟨wr.heap.size, 0, none⟩ = some (.string f.x) ∧ w'.cell? ⟨wr.heap.size, 1, none⟩ = some (.slice p1 f.d.length c1) ∧ w'.cell? ⟨wr.heap.size, 2, none⟩ = some (.int .i64 f.k) ∧ w'.cell? ⟨pg, po, none⟩ = some (.string pn) ∧ Below wx.heap.size wx w') ⟨k0, k1, f0, f1, f2, fp, (Below.refl _ _).drew⟩ ?_
            refine Calm.pu ?_
            refine Calm.ce (fun _ h => h.2.2.1) ?_
            refine Calm.k1 ST (fun w' _ => C1 w') ?_
            iterate 5 (refine Calm.pu ?_)
            iterate 10 (refine Calm.sk ?_)
            iterate 4 (refine Calm.pu ?_)
            refine Calm.ce (fun _ h => h.2.2.2.2.1) ?_
            iterate 4 (refine Calm.pu ?_)
            refine Calm.ce (fun _ h => h.2.2.2.2.1) ?_
            refine Calm.pu ?_
            refine Calm.ce (fun _ h => h.2.2.2.1) ?_
            iterate 5 (refine Calm.pu ?_)
            refine Calm.ce (fun _ h => h.2.2.2.1) ?_
            iterate 2 (refine Calm.pu ?_)
            refine Calm.ce (fun _ h => h.2.1) ?_
            iterate 4 (refine Calm.pu ?_)
            intro w6 hS6
            have hb6 := hS6.2.2.2.2.2.2
            clear hS6 ST C1 k0 k1 f0 f1 f2 fp
            go_wp2_with fail
            go_ret
            exact ⟨rfl, below_on hbelx hb6⟩
          have e6 : decide (d.room - (u : Int) < (f.d.length : Int)) = false := decide_eq_false h6
          have HK2 : Hid (∀ i (h : i < d.fs.length), i < k + 1 → okf d.room d.fs i h = true) := fun i hi hik => by
            rcases Nat.lt_or_ge i k with h' | h'
            · exact HK.out i hi h'
            · obtain rfl : i = k := by omega
              rw [OKA, decide_eq_true (show 0 ≤ f.k by omega), decide_eq_true (show f.k ≤ f.d.length by omega), decide_eq_true (show (f.d.length : Int) ≤ d.room - u by omega)]
              simp
          have HUR : (us (d.fs.take (k + 1)) : Int) ≤ d.room := by rw [HUS.out]; omega
          have HUL : u + f.d.length ≤ 1048576 := by omega
          clear h4 h5 h6 hbad HK HZ2 OKA HF
          have ST : Calm.Stays (fun w' : World => w'.cell? ⟨w.heap.size, 0, none⟩ = some (.slice (some ⟨g, o, none⟩) d.fs.length c) ∧ w'.cell? ⟨w.heap.size, 1, none⟩ = some (.int .i64 d.room) ∧ w'.cell? ⟨wr.heap.size, 0, none⟩ = some (.string f.x) ∧ w'.cell? ⟨wr.heap.size, 1, none⟩ = some (.slice p1 f.d.length c1) ∧ w'.cell? ⟨wr.heap.size, 2, none⟩ = some (.int .i64 f.k) ∧ w'.cell? ⟨pg, po, none⟩ = some (.string pn) ∧ Below wx.heap.size wx w') := fun a b h hb => ⟨cell_later hb h.1, cell_later hb h.2.1, cell_later hb h.2.2.1, cell_later hb h.2.2.2.1, cell_later hb h.2.2.2.2.1, cell_later hb h.2.2.2.2.2.1, below_on h.2.2.2.2.2.2 hb⟩
          refine Calm.region (by kernel_rfl) (by kernel_rfl) (fun w' : World => w'.cell? ⟨w.heap.size, 0, none⟩ = some (.slice (some ⟨g, o, none⟩) d.fs.length c) ∧ w'.cell? ⟨w.heap.size, 1, none⟩ = some (.int .i64 d.room) ∧ w'.cell? ⟨wr.heap.size, 0, none⟩ = some (.string f.x) ∧ w'.cell? ⟨wr.heap.size, 1, none⟩ = some (.slice p1 f.d.length c1) ∧ w'.cell? ⟨wr.heap.size, 2, none⟩ = some (.int .i64 f.k) ∧ w'.cell? ⟨pg, po, none⟩ = some (.string pn) ∧ Below wx.heap.size wx w') ⟨k0, k1, f0, f1, f2, fp, (Below.refl _ _).drew⟩ ?_
          refine Calm.pu ?_
          refine Calm.ce (fun _ h => h.2.2.1) ?_
          refine Calm.k1 ST (fun w' _ => C1 w') ?_
          iterate 5 (refine Calm.pu ?_)
          iterate 10 (refine Calm.sk ?_)
          iterate 4 (refine Calm.pu ?_)
          refine Calm.ce (fun _ h => h.2.2.2.2.1) ?_
          iterate 4 (refine Calm.pu ?_)
          refine Calm.ce (fun _ h => h.2.2.2.2.1) ?_
          refine Calm.pu ?_
          refine Calm.ce (fun _ h => h.2.2.2.1) ?_
          iterate 5 (refine Calm.pu ?_)
          refine Calm.ce (fun _ h => h.2.2.2.1) ?_
          iterate 2 (refine Calm.pu ?_)
          refine Calm.ce (fun _ h => h.2.1) ?_
          iterate 4 (refine Calm.pu ?_)
          intro w6 hS6
          have hb6 := hS6.2.2.2.2.2.2
          replace f1 := hS6.2.2.2.1
          clear hS6 ST C1 k0 k1 f0 f2 fp
          go_wp2_with fail
          go_roundw
          case rel => exact ⟨k + 1, by simp, by rw [HUS.out]; simp, by omega, HK2, HUR, R0.later hb6, below_on hbelx hb6⟩
          case measure => simp [intOf]; omega
        · have e2 : decide (0 < k) = true := decide_eq_true (by omega)
          have hk1 : 0 < k := by omega
          obtain ⟨hpg, hpo, hpn⟩ := HP.out hk1
          rw [hpg, hpo] at fp
          have EQ := leq_str pn f.x
          obtain ⟨r2, HR2⟩ := hid_ex (decide (bs pn < bs f.x))
          rw [HR2.out] at EQ
          have HR3 : Hid (decide (fn (d.fs[k - 1]'(by omega)) < fn f) = r2) := by
            show _ = _
            rw [← HR2.out, hpn]
          have hw1 : IntKind.i64.wrap ((k : Int) - 1) = ((k - 1 : Nat) : Int) := by rw [IntKind.wrap_i64]; omega
          have hi2 : ((k - 1 : Nat) : Int) < (d.fs.length : Int) := by omega
          have hi4 : k - 1 < d.fs.length := by omega
          clear hpg hpo hpn HP HR2
          cases r2
          · obtain rfl : false = z := (hbad.out (by simp only [okf, HF.out, HR1.out, HR3.out]; rw [decide_eq_false hk0]; rfl)).symm
            clear hbad HK HZ2 HUX
            have ST : Calm.Stays (fun w' : World => w'.cell? ⟨w.heap.size, 0, none⟩ = some (.slice (some ⟨g, o, none⟩) d.fs.length c) ∧ w'.cell? ⟨w.heap.size, 1, none⟩ = some (.int .i64 d.room) ∧ w'.cell? ⟨wr.heap.size, 0, none⟩ = some (.string f.x) ∧ w'.cell? ⟨wr.heap.size, 1, none⟩ = some (.slice p1 f.d.length c1) ∧ w'.cell? ⟨wr.heap.size, 2, none⟩ = some (.int .i64 f.k) ∧ w'.cell? ⟨g, o + (k - 1) * 3, none⟩ = some (.string pn) ∧ Below wx.heap.size wx w') := fun a b h hb => ⟨cell_later hb h.1, cell_later hb h.2.1, cell_later hb h.2.2.1, cell_later hb h.2.2.2.1, cell_later hb h.2.2.2.2.1, cell_later hb h.2.2.2.2.2.1, below_on h.2.2.2.2.2.2 hb⟩
            refine Calm.region (by kernel_rfl) (by kernel_rfl) (fun w' : World => w'.cell? ⟨w.heap.size, 0, none⟩ = some (.slice (some ⟨g, o, none⟩) d.fs.length c) ∧ w'.cell? ⟨w.heap.size, 1, none⟩ = some (.int .i64 d.room) ∧ w'.cell? ⟨wr.heap.size, 0, none⟩ = some (.string f.x) ∧ w'.cell? ⟨wr.heap.size, 1, none⟩ = some (.slice p1 f.d.length c1) ∧ w'.cell? ⟨wr.heap.size, 2, none⟩ = some (.int .i64 f.k) ∧ w'.cell? ⟨g, o + (k - 1) * 3, none⟩ = some (.string pn) ∧ Below wx.heap.size wx w') ⟨k0, k1, f0, f1, f2, fp, (Below.refl _ _).drew⟩ ?_
            refine Calm.pu ?_
            refine Calm.ce (fun _ h => h.2.2.1) ?_
            refine Calm.k1 ST (fun w' _ => C1 w') ?_
            iterate 6 (refine Calm.pu ?_)
            refine Calm.ce (fun _ h => h.2.2.1) ?_
            refine Calm.pu ?_
            refine Calm.ce (fun _ h => h.1) ?_
            iterate 4 (refine Calm.pu ?_)
            refine Calm.ce (fun _ h => h.2.2.2.2.2.1) ?_
            iterate 4 (refine Calm.pu ?_)
            iterate 3 (refine Calm.sk ?_)
            iterate 2 (refine Calm.pu ?_)
            iterate 6 (refine Calm.sk ?_)
            iterate 2 (refine Calm.pu ?_)
            iterate 8 (refine Calm.sk ?_)
            refine Calm.pu ?_
            intro w6 hS6
            have hb6 := hS6.2.2.2.2.2.2
            clear hS6 ST C1 k0 k1 f0 f1 f2 fp
            go_wp2_with fail
            go_ret
            exact ⟨rfl, below_on hbelx hb6⟩
          · have OKA : okf d.room d.fs k hlt = (decide (0 ≤ f.k) && (decide (f.k ≤ f.d.length) && decide ((f.d.length : Int) ≤ d.room - u))) := by
              simp only [okf, HF.out, HUX.out, HR1.out, HR3.out, Bool.true_and, Bool.or_true]
            clear hk0 HR3
            have ew : IntKind.i64.wrap (d.room - (u : Int)) = d.room - (u : Int) := by rw [IntKind.wrap_i64]; omega
            by_cases h4 : f.k < 0
            · have e4 : decide (f.k < 0) = true := decide_eq_true h4
              obtain rfl : false = z := (hbad.out (by rw [OKA]; rw [decide_eq_false (show ¬ 0 ≤ f.k by omega)]; simp)).symm
              clear h4 hbad HK HZ2 OKA HUX
              have ST : Calm.Stays (fun w' : World => w'.cell? ⟨w.heap.size, 0, none⟩ = some (.slice (some ⟨g, o, none⟩) d.fs.length c) ∧ w'.cell? ⟨w.heap.size, 1, none⟩ = some (.int .i64 d.room) ∧ w'.cell? ⟨wr.heap.size, 0, none⟩ = some (.string f.x) ∧ w'.cell? ⟨wr.heap.size, 1, none⟩ = some (.slice p1 f.d.length c1) ∧ w'.cell? ⟨wr.heap.size, 2, none⟩ = some (.int .i64 f.k) ∧ w'.cell? ⟨g, o + (k - 1) * 3, none⟩ = some (.string pn) ∧ Below wx.heap.size wx w') := fun a b h hb => ⟨cell_later hb h.1, cell_later hb h.2.1, cell_later hb h.2.2.1, cell_later hb h.2.2.2.1, cell_later hb h.2.2.2.2.1, cell_later hb h.2.2.2.2.2.1, below_on h.2.2.2.2.2.2 hb⟩
              refine Calm.region (by kernel_rfl) (by kernel_rfl) (fun w' : World => w'.cell? ⟨w.heap.size, 0, none⟩ = some (.slice (some ⟨g, o, none⟩) d.fs.length c) ∧ w'.cell? ⟨w.heap.size, 1, none⟩ = some (.int .i64 d.room) ∧ w'.cell? ⟨wr.heap.size, 0, none⟩ = some (.string f.x) ∧ w'.cell? ⟨wr.heap.size, 1, none⟩ = some (.slice p1 f.d.length c1) ∧ w'.cell? ⟨wr.heap.size, 2, none⟩ = some (.int .i64 f.k) ∧ w'.cell? ⟨g, o + (k - 1) * 3, none⟩ = some (.string pn) ∧ Below wx.heap.size wx w') ⟨k0, k1, f0, f1, f2, fp, (Below.refl _ _).drew⟩ ?_
              refine Calm.pu ?_
              refine Calm.ce (fun _ h => h.2.2.1) ?_
              refine Calm.k1 ST (fun w' _ => C1 w') ?_
              iterate 6 (refine Calm.pu ?_)
              refine Calm.ce (fun _ h => h.2.2.1) ?_
              refine Calm.pu ?_
              refine Calm.ce (fun _ h => h.1) ?_
              iterate 4 (refine Calm.pu ?_)
              refine Calm.ce (fun _ h => h.2.2.2.2.2.1) ?_
              iterate 5 (refine Calm.pu ?_)
              refine Calm.ce (fun _ h => h.2.2.2.2.1) ?_
              iterate 3 (refine Calm.pu ?_)
              iterate 6 (refine Calm.sk ?_)
              iterate 2 (refine Calm.pu ?_)
              iterate 8 (refine Calm.sk ?_)
              refine Calm.pu ?_
              intro w6 hS6
              have hb6 := hS6.2.2.2.2.2.2
              clear hS6 ST C1 k0 k1 f0 f1 f2 fp
              go_wp2_with fail
              go_ret
              exact ⟨rfl, below_on hbelx hb6⟩
            have e4 : decide (f.k < 0) = false := decide_eq_false h4
            by_cases h5 : (f.d.length : Int) < f.k
            · have e5 : decide ((f.d.length : Int) < f.k) = true := decide_eq_true h5
              obtain rfl : false = z := (hbad.out (by rw [OKA]; rw [decide_eq_false (show ¬ f.k ≤ f.d.length by omega)]; simp)).symm
              clear h4 h5 hbad HK HZ2 OKA HUX
              have ST : Calm.Stays (fun w' : World => w'.cell? ⟨w.heap.size, 0, none⟩ = some (.slice (some ⟨g, o, none⟩) d.fs.length c) ∧ w'.cell? ⟨w.heap.size, 1, none⟩ = some (.int .i64 d.room) ∧ w'.cell? ⟨wr.heap.size, 0, none⟩ = some (.string f.x) ∧ w'.cell? ⟨wr.heap.size, 1, none⟩ = some (.slice p1 f.d.length c1) ∧ w'.cell? ⟨wr.heap.size, 2, none⟩ = some (.int .i64 f.k) ∧ w'.cell? ⟨g, o + (k - 1) * 3, none⟩ = some (.string pn) ∧ Below wx.heap.size wx w') := fun a b h hb => ⟨cell_later hb h.1, cell_later hb h.2.1, cell_later hb h.2.2.1, cell_later hb h.2.2.2.1, cell_later hb h.2.2.2.2.1, cell_later hb h.2.2.2.2.2.1, below_on h.2.2.2.2.2.2 hb⟩
              refine Calm.region (by kernel_rfl) (by kernel_rfl) (fun w' : World => w'.cell? ⟨w.heap.size, 0, none⟩ = some (.slice (some ⟨g, o, none⟩) d.fs.length c) ∧ w'.cell? ⟨w.heap.size, 1, none⟩ = some (.int .i64 d.room) ∧ w'.cell? ⟨wr.heap.size, 0, none⟩ = some (.string f.x) ∧ w'.cell? ⟨wr.heap.size, 1, none⟩ = some (.slice p1 f.d.length c1) ∧ w'.cell? ⟨wr.heap.size, 2, none⟩ = some (.int .i64 f.k) ∧ w'.cell? ⟨g, o + (k - 1) * 3, none⟩ = some (.string pn) ∧ Below wx.heap.size wx w') ⟨k0, k1, f0, f1, f2, fp, (Below.refl _ _).drew⟩ ?_
              refine Calm.pu ?_
              refine Calm.ce (fun _ h => h.2.2.1) ?_
              refine Calm.k1 ST (fun w' _ => C1 w') ?_
              iterate 6 (refine Calm.pu ?_)
              refine Calm.ce (fun _ h => h.2.2.1) ?_
              refine Calm.pu ?_
              refine Calm.ce (fun _ h => h.1) ?_
              iterate 4 (refine Calm.pu ?_)
              refine Calm.ce (fun _ h => h.2.2.2.2.2.1) ?_
              iterate 5 (refine Calm.pu ?_)
              refine Calm.ce (fun _ h => h.2.2.2.2.1) ?_
              iterate 4 (refine Calm.pu ?_)
              refine Calm.ce (fun _ h => h.2.2.2.2.1) ?_
              refine Calm.pu ?_
              refine Calm.ce (fun _ h => h.2.2.2.1) ?_
              iterate 4 (refine Calm.pu ?_)
              iterate 8 (refine Calm.sk ?_)
              refine Calm.pu ?_
              intro w6 hS6
              have hb6 := hS6.2.2.2.2.2.2
              clear hS6 ST C1 k0 k1 f0 f1 f2 fp
              go_wp2_with fail
              go_ret
              exact ⟨rfl, below_on hbelx hb6⟩
            have e5 : decide ((f.d.length : Int) < f.k) = false := decide_eq_false h5
            by_cases h6 : d.room - (u : Int) < (f.d.length : Int)
            · have e6 : decide (d.room - (u : Int) < (f.d.length : Int)) = true := decide_eq_true h6
              obtain rfl : false = z := (hbad.out (by rw [OKA]; rw [decide_eq_false (show ¬ (f.d.length : Int) ≤ d.room - u by omega)]; simp)).symm
              clear h4 h5 h6 hbad HK HZ2 OKA HUX
              have ST : Calm.Stays (fun w' : World => w'.cell? ⟨w.heap.size, 0, none⟩ = some (.slice (some ⟨g, o, none⟩) d.fs.length c) ∧ w'.cell? ⟨w.heap.size, 1, none⟩ = some (.int .i64 d.room) ∧ w'.cell? ⟨wr.heap.size, 0, none⟩ = some (.string f.x) ∧ w'.cell? ⟨wr.heap.size, 1, none⟩ = some (.slice p1 f.d.length c1) ∧ w'.cell? ⟨wr.heap.size, 2, none⟩ = some (.int .i64 f.k) ∧ w'.cell? ⟨g, o + (k - 1) * 3, none⟩ = some (.string pn) ∧ Below wx.heap.size wx w') := fun a b h hb => ⟨cell_later hb h.1, cell_later hb h.2.1, cell_later hb h.2.2.1, cell_later hb h.2.2.2.1, cell_later hb h.2.2.2.2.1, cell_later hb h.2.2.2.2.2.1, below_on h.2.2.2.2.2.2 hb⟩
              refine Calm.region (by kernel_rfl) (by kernel_rfl) (fun w' : World => w'.cell? ⟨w.heap.size, 0, none⟩ = some (.slice (some ⟨g, o, none⟩) d.fs.length c) ∧ w'.cell? ⟨w.heap.size, 1, none⟩ = some (.int .i64 d.room) ∧ w'.cell? ⟨wr.heap.size, 0, none⟩ = some (.string f.x) ∧ w'.cell? ⟨wr.heap.size, 1, none⟩ = some (.slice p1 f.d.length c1) ∧ w'.cell? ⟨wr.heap.size, 2, none⟩ = some (.int .i64 f.k) ∧ w'.cell? ⟨g, o + (k - 1) * 3, none⟩ = some (.string pn) ∧ Below wx.heap.size wx w') ⟨k0, k1, f0, f1, f2, fp, (Below.refl _ _).drew⟩ ?_
              refine Calm.pu ?_
              refine Calm.ce (fun _ h => h.2.2.1) ?_
              refine Calm.k1 ST (fun w' _ => C1 w') ?_
              iterate 6 (refine Calm.pu ?_)
              refine Calm.ce (fun _ h => h.2.2.1) ?_
              refine Calm.pu ?_
              refine Calm.ce (fun _ h => h.1) ?_
              iterate 4 (refine Calm.pu ?_)
              refine Calm.ce (fun _ h => h.2.2.2.2.2.1) ?_
              iterate 5 (refine Calm.pu ?_)
              refine Calm.ce (fun _ h => h.2.2.2.2.1) ?_
              iterate 4 (refine Calm.pu ?_)
              refine Calm.ce (fun _ h => h.2.2.2.2.1) ?_
              refine Calm.pu ?_
              refine Calm.ce (fun _ h => h.2.2.2.1) ?_
              iterate 5 (refine Calm.pu ?_)
              refine Calm.ce (fun _ h => h.2.2.2.1) ?_
              iterate 2 (refine Calm.pu ?_)
              refine Calm.ce (fun _ h => h.2.1) ?_
              iterate 4 (refine Calm.pu ?_)
              intro w6 hS6
              have hb6 := hS6.2.2.2.2.2.2
              clear hS6 ST C1 k0 k1 f0 f1 f2 fp
              go_wp2_with fail
              go_ret
              exact ⟨rfl, below_on hbelx hb6⟩
            have e6 : decide (d.room - (u : Int) < (f.d.length : Int)) = false := decide_eq_false h6
            have HK2 : Hid (∀ i (h : i < d.fs.length), i < k + 1 → okf d.room d.fs i h = true) := fun i hi hik => by
              rcases Nat.lt_or_ge i k with h' | h'
              · exact HK.out i hi h'
              · obtain rfl : i = k := by omega
                rw [OKA, decide_eq_true (show 0 ≤ f.k by omega), decide_eq_true (show f.k ≤ f.d.length by omega), decide_eq_true (show (f.d.length : Int) ≤ d.room - u by omega)]
                simp
            have HUR : (us (d.fs.take (k + 1)) : Int) ≤ d.room := by rw [HUS.out]; omega
            have HUL : u + f.d.length ≤ 1048576 := by omega
            clear h4 h5 h6 hbad HK HZ2 OKA HF
            have ST : Calm.Stays (fun w' : World => w'.cell? ⟨w.heap.size, 0, none⟩ = some (.slice (some ⟨g, o, none⟩) d.fs.length c) ∧ w'.cell? ⟨w.heap.size, 1, none⟩ = some (.int .i64 d.room) ∧ w'.cell? ⟨wr.heap.size, 0, none⟩ = some (.string f.x) ∧ w'.cell? ⟨wr.heap.size, 1, none⟩ = some (.slice p1 f.d.length c1) ∧ w'.cell? ⟨wr.heap.size, 2, none⟩ = some (.int .i64 f.k) ∧ w'.cell? ⟨g, o + (k - 1) * 3, none⟩ = some (.string pn) ∧ Below wx.heap.size wx w') := fun a b h hb => ⟨cell_later hb h.1, cell_later hb h.2.1, cell_later hb h.2.2.1, cell_later hb h.2.2.2.1, cell_later hb h.2.2.2.2.1, cell_later hb h.2.2.2.2.2.1, below_on h.2.2.2.2.2.2 hb⟩
            refine Calm.region (by kernel_rfl) (by kernel_rfl) (fun w' : World => w'.cell? ⟨w.heap.size, 0, none⟩ = some (.slice (some ⟨g, o, none⟩) d.fs.length c) ∧ w'.cell? ⟨w.heap.size, 1, none⟩ = some (.int .i64 d.room) ∧ w'.cell? ⟨wr.heap.size, 0, none⟩ = some (.string f.x) ∧ w'.cell? ⟨wr.heap.size, 1, none⟩ = some (.slice p1 f.d.length c1) ∧ w'.cell? ⟨wr.heap.size, 2, none⟩ = some (.int .i64 f.k) ∧ w'.cell? ⟨g, o + (k - 1) * 3, none⟩ = some (.string pn) ∧ Below wx.heap.size wx w') ⟨k0, k1, f0, f1, f2, fp, (Below.refl _ _).drew⟩ ?_
            refine Calm.pu ?_
            refine Calm.ce (fun _ h => h.2.2.1) ?_
            refine Calm.k1 ST (fun w' _ => C1 w') ?_
            iterate 6 (refine Calm.pu ?_)
            refine Calm.ce (fun _ h => h.2.2.1) ?_
            refine Calm.pu ?_
            refine Calm.ce (fun _ h => h.1) ?_
            iterate 4 (refine Calm.pu ?_)
            refine Calm.ce (fun _ h => h.2.2.2.2.2.1) ?_
            iterate 5 (refine Calm.pu ?_)
            refine Calm.ce (fun _ h => h.2.2.2.2.1) ?_
            iterate 4 (refine Calm.pu ?_)
            refine Calm.ce (fun _ h => h.2.2.2.2.1) ?_
            refine Calm.pu ?_
            refine Calm.ce (fun _ h => h.2.2.2.1) ?_
            iterate 5 (refine Calm.pu ?_)
            refine Calm.ce (fun _ h => h.2.2.2.1) ?_
            iterate 2 (refine Calm.pu ?_)
            refine Calm.ce (fun _ h => h.2.1) ?_
            iterate 4 (refine Calm.pu ?_)
            intro w6 hS6
            have hb6 := hS6.2.2.2.2.2.2
            replace f1 := hS6.2.2.2.1
            clear hS6 ST C1 k0 k1 f0 f2 fp
            go_wp2_with fail
            go_roundw
            case rel => exact ⟨k + 1, by simp, by rw [HUS.out]; simp, by omega, HK2, HUR, R0.later hb6, below_on hbelx hb6⟩
            case measure => simp [intOf]; omega
    · have hlt' : ¬ (k : Int) < (d.fs.length : Int) := by omega
      obtain rfl : true = z := by
        rw [← HZ2.out]
        exact ((ckF_iff _ _).2 fun i hi => HK.out i hi (by omega)).symm
      clear HK HZ2
      go_wp2_with fail
      go_ret
      exact ⟨rfl, hbel⟩
end Go.Proofs.Ytjjncmenkepcoaa
/- The document's answer for layer 22: what is asked first, and the power. -/
namespace Go.Proofs.Ytjjncmenkepcoaa
open Go.RowKit

theorem bel_row {w w1 : World} (h : Below w.heap.size w w1) {b : Nat} (hb : w.heap.size ≤ b) (cs : Array Value) : Below w.heap.size w (w1.setRow b cs) := h.grown (grown_row w1 b cs) h.size fun k e => by
  simp only [Option.some.injEq] at e
  omega
theorem bel_set {w w1 : World} (h : Below w.heap.size w w1) {b i : Nat} (hb : w.heap.size ≤ b) (u : Value) : Below w.heap.size w (w1.setCell ⟨b, i, none⟩ u) := h.setCell (p := ⟨b, i, none⟩) hb u
set_option maxHeartbeats 2000000 in
set_option maxRecDepth 100000 in
theorem rAsk_any (d : DV) (sl : Value) (x : ByteArray) (w : World) (h : FHas w sl d.fs) : Calls Try.prog 45 #[DKV.of sl d, .string x] w (Tells (.int .i64 (askD d x)) w) := by
  obtain ⟨q, c, rfl⟩ := h.slice
  have H : Hid (∀ w', Below w.heap.size w w' → FHas w' (.slice q d.fs.length c) d.fs) := fun w' hb => h.later hb
  clear h
  obtain ⟨z, HZ⟩ := hid_ex (askD d x)
  rw [HZ.out]
  have R0 := rw_new w 26 #[(.slice q d.fs.length c), .int .i64 d.room, .int .i64 d.arm, .bool d.dead]
  have hbel := bel_alloc (Below.refl w.heap.size w) (.cells #[(.slice q d.fs.length c), .int .i64 d.room, .int .i64 d.arm, .bool d.dead] 26)
  generalize hW : w.alloc (.cells #[(.slice q d.fs.length c), .int .i64 d.room, .int .i64 d.arm, .bool d.dead] 26) = w0 at R0 hbel
  obtain ⟨r1, H1⟩ := hid_ex (ckD d)
  obtain ⟨r3, H3⟩ := hid_ex (nmd x)
  have C1 := rCheck_any d _ w0 (H.out w0 hbel)
  rw [H1.out] at C1
  have HV : Hid ((if r1 = false then 3 else if d.dead = true then 220 else if r3 = false then 2 else 0 : Int) = z) := by
    show _ = _
    rw [← HZ.out]
    unfold askD
    rw [H1.out, H3.out]
  clear HZ
  go_enter Try.func45, Try.ntmps45
  go_wp2_with (first | rw [hW] | refine load_r 26 _ rfl rfl _ rfl R0 Try.underlying26 rfl size26 ?_)
  clear hW
  refine C1.mono ?_
  rintro e w1 ⟨rfl, hb1⟩
  replace R0 := R0.later hb1
  replace hbel := below_on hbel hb1
  have c3 := R0.cell 3
  clear C1
  cases r1
  · obtain rfl : (3 : Int) = z := HV.out
    go_wp2_with fail
    go_ret
    exact ⟨rfl, hbel⟩
  · obtain ⟨r2, H2⟩ := hid_ex d.dead
    rw [H2.out] at HV
    have c3' : w1.cell? ⟨w.heap.size, 3, none⟩ = some (.bool r2) := by rw [← H2.out]; exact c3
    clear c3 H2
    cases r2
    · go_wp2_with fail
      refine (rNamed_any x w1).mono ?_
      rw [H3.out]
      rintro e w2 ⟨rfl, hb2⟩
      cases r3
      · obtain rfl : (2 : Int) = z := HV.out
        go_wp2_with fail
        go_ret
        exact ⟨rfl, below_on hbel hb2⟩
      · obtain rfl : (0 : Int) = z := HV.out
        go_wp2_with fail
        go_ret
        exact ⟨rfl, below_on hbel hb2⟩
    · obtain rfl : (220 : Int) = z := HV.out
      go_wp2_with fail
      go_ret
      exact ⟨rfl, hbel⟩
set_option maxHeartbeats 2000000 in
set_option maxRecDepth 100000 in
theorem rPower_any (d : DV) (q : Option Addr) (c : Nat) (w : World) (ha : d.arm ≤ 9223372036854775807) : Calls Try.prog 48 #[DKV.of (.slice q d.fs.length c) d] w (Tells (.tuple #[DKV.of (.slice q d.fs.length c) (pwD d), .bool (!decide (d.arm = 0))]) w) := by
  obtain ⟨fs, room, arm, dead⟩ := d
  replace ha : arm ≤ 9223372036854775807 := ha
  obtain ⟨z, HZ⟩ := hid_ex (pwD ⟨fs, room, arm, dead⟩)
  obtain ⟨r, HR⟩ := hid_ex (!decide (arm = 0))
  rw [HZ.out, show (!decide ((⟨fs, room, arm, dead⟩ : DV).arm = 0)) = r from HR.out]
  go_enter Try.func48, Try.ntmps48
  by_cases h0 : arm = 0
  · subst h0
    obtain rfl : (⟨fs, room, 0, true⟩ : DV) = z := HZ.out
    obtain rfl : false = r := HR.out
    go_wp2_with fail
    refine bodyPost_ret (results_rt rfl rfl (rw_next _ (by simp) 26 _) rfl Try.underlying26 size26) rfl ⟨rfl, ?_⟩
    repeat refine bel_alloc ?_ _
    exact Below.refl _ _
  · have g0 : (arm == 0) = false := by rw [beq_eq_false_iff_ne]; exact h0
    obtain rfl : true = r := by rw [← HR.out, decide_eq_false h0]; rfl
    by_cases h1 : 0 < arm
    · have ew : IntKind.i64.wrap (arm - 1) = arm - 1 := by rw [IntKind.wrap_i64]; omega
      obtain rfl : (⟨fs, room, arm - 1, dead⟩ : DV) = z := by rw [← HZ.out]; unfold pwD; rw [if_neg h0, if_pos h1]
      go_wp2_with fail
      refine bodyPost_ret (results_rt rfl rfl (rw_next _ (by simp) 26 _) rfl Try.underlying26 size26) rfl ⟨rfl, ?_⟩
      repeat refine bel_alloc ?_ _
      exact Below.refl _ _
    · obtain rfl : (⟨fs, room, arm, dead⟩ : DV) = z := by rw [← HZ.out]; unfold pwD; rw [if_neg h0, if_neg h1]
      go_wp2_with fail
      refine bodyPost_ret (results_rt rfl rfl (rw_next _ (by simp) 26 _) rfl Try.underlying26 size26) rfl ⟨rfl, ?_⟩
      repeat refine bel_alloc ?_ _
      exact Below.refl _ _
end Go.Proofs.Ytjjncmenkepcoaa
