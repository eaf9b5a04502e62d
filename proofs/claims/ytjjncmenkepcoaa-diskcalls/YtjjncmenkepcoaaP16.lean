import Derived.Test.YtjjncmenkepcoaaP15
/- New, Arm, Read, Names of the program. -/
namespace Go.Proofs.Ytjjncmenkepcoaa
open Go.RowKit

set_option maxHeartbeats 2000000 in
theorem new_any (n : Int) (w : World) : Calls Try.prog 7 #[.int .i64 n] w (DEPost (newD n) w) := by
  obtain ⟨z, HZ⟩ := hid_ex (newD n)
  rw [HZ.out]
  unfold newD at HZ
  go_enter Try.func7, Try.ntmps7
  by_cases h1 : n < 0
  · rw [if_pos (.inl h1)] at HZ
    obtain rfl := HZ.out
    go_wp2_with fail
    refine bodyPost_ret (results_rt rfl rfl (rw_new w 26 _) rfl Try.underlying26 size26) rfl ⟨none, 0, rfl, FHas.nil _, ?_⟩
    repeat refine bel_alloc ?_ _
    exact Below.refl _ _
  · by_cases h2 : 1048576 < n
    · rw [if_pos (.inr h2)] at HZ
      obtain rfl := HZ.out
      go_wp2_with fail
      refine bodyPost_ret (results_rt rfl rfl (rw_new w 26 _) rfl Try.underlying26 size26) rfl ⟨none, 0, rfl, FHas.nil _, ?_⟩
      repeat refine bel_alloc ?_ _
      exact Below.refl _ _
    · rw [if_neg (by omega)] at HZ
      obtain rfl := HZ.out
      go_wp2_with fail
      refine bodyPost_ret (results_rt rfl rfl (rw_new w 26 _) rfl Try.underlying26 size26) rfl ⟨none, 0, rfl, FHas.nil _, ?_⟩
      repeat refine bel_alloc ?_ _
      exact Below.refl _ _
theorem offD_ask (d : DV) : askD d Xn1 = offD d := by
  rw [askD_eq, show nmd Xn1 = true from rfl]
  by_cases h : offD d = 0
  · simp [h]
  · simp [h]
theorem CpPost.has {d : DV} {w : World} {e : Ending} {w' : World} (h : CpPost d w e w') : DkPost d w e w' := by
  obtain ⟨p, c, ys, h1, h2, h3, h4⟩ := h
  refine ⟨p, c, h1, ?_, h4⟩
  have := h3.has
  rwa [h2] at this
set_option maxHeartbeats 2000000 in
set_option maxRecDepth 100000 in
theorem arm_any (d : DV) (sl : Value) (n : Int) (w : World) (h : FHas w sl d.fs) (hd : Tm d) : Calls Try.prog 8 #[DKV.of sl d, .int .i64 n] w (DEPost (armD d n) w) := by
  obtain ⟨z, HZ⟩ := hid_ex (armD d n)
  rw [HZ.out]
  unfold armD at HZ
  rw [offD_ask] at HZ
  obtain ⟨q, c0, rfl⟩ := h.slice
  have R0 := (rw_new w 26 #[.slice q d.fs.length c0, .int .i64 d.room, .int .i64 d.arm, .bool d.dead]).alloc (.cells #[.slice none 0 0, .int .i64 0, .int .i64 0, .bool false] 26)
  have R1 := rw_next (w.alloc (.cells #[.slice q d.fs.length c0, .int .i64 d.room, .int .i64 d.arm, .bool d.dead] 26)) (b := w.heap.size + 1) (by simp) 26 #[.slice none 0 0, .int .i64 0, .int .i64 0, .bool false]
  have hbel := bel_alloc (bel_alloc (Below.refl w.heap.size w) (.cells #[.slice q d.fs.length c0, .int .i64 d.room, .int .i64 d.arm, .bool d.dead] 26)) (.cells #[.slice none 0 0, .int .i64 0, .int .i64 0, .bool false] 26)
  generalize hW : (w.alloc (.cells #[.slice q d.fs.length c0, .int .i64 d.room, .int .i64 d.arm, .bool d.dead] 26)).alloc (.cells #[.slice none 0 0, .int .i64 0, .int .i64 0, .bool false] 26) = w0 at R0 R1 hbel
  have H : Hid (FHas w (.slice q d.fs.length c0) d.fs) := h
  have C1 := off_any d _ w0 (h.later hbel) (by have := hd.u; omega)
  have C2 := fun w' (hb : Below w.heap.size w w') => copyDisk_any d _ w' (H.out.later hb) (by have := hd.n; omega) (by have := hd.u; omega)
  obtain ⟨er, HE⟩ := hid_ex (offD d)
  rw [HE.out] at C1 HZ
  clear h
  go_enter Try.func8, Try.ntmps8
  go_wp2_with (first | rw [hW] | refine load_r 26 _ rfl rfl _ rfl R0 Try.underlying26 rfl size26 ?_)
  clear hW
  refine C1.mono ?_
  clear C1
  rintro e w1 ⟨rfl, hb1⟩
  replace R0 := R0.later hb1
  replace R1 := R1.later hb1
  replace hbel := below_on hbel hb1
  clear hb1
  go_wp2_with (first | refine load_r 26 _ rfl rfl _ rfl R0 Try.underlying26 rfl size26 ?_)
  refine (C2 w1 hbel).mono ?_
  clear C2
  intro e w2 hp
  obtain ⟨p, c, rfl, hF, hb2⟩ := hp.has
  clear hp
  replace R0 := R0.later hb2
  replace R1 := R1.later hb2
  replace hbel := below_on hbel hb2
  clear hb2
  have HF3 := hF.row R0 #[.slice p d.fs.length c, .int .i64 d.room, .int .i64 d.arm, .bool d.dead]
  have R03 := R0.row #[.slice p d.fs.length c, .int .i64 d.room, .int .i64 d.arm, .bool d.dead]
  have R13 := R1.rowOther (q := w.heap.size) (by omega) #[.slice p d.fs.length c, .int .i64 d.room, .int .i64 d.arm, .bool d.dead]
  replace hbel := bel_row hbel (b := w.heap.size) (Nat.le_refl _) #[.slice p d.fs.length c, .int .i64 d.room, .int .i64 d.arm, .bool d.dead]
  generalize hW3 : w2.setRow w.heap.size #[.slice p d.fs.length c, .int .i64 d.room, .int .i64 d.arm, .bool d.dead] = w3 at HF3 R03 R13 hbel
  by_cases h0 : er = 0
  case neg =>
    have g0 : (er == 0) = false := by rw [beq_eq_false_iff_ne]; exact h0
    obtain rfl : (d, er) = z := by rw [← HZ.out, if_pos h0]
    have HF : Hid (FHas (w3.setRow (w.heap.size + 1) #[.slice p d.fs.length c, .int .i64 d.room, .int .i64 d.arm, .bool d.dead]) (.slice p d.fs.length c) d.fs) := HF3.row R13 _
    have R1a := R13.row #[.slice p d.fs.length c, .int .i64 d.room, .int .i64 d.arm, .bool d.dead]
    have hb10 := bel_row hbel (b := w.heap.size + 1) (by omega) #[.slice p d.fs.length c, .int .i64 d.room, .int .i64 d.arm, .bool d.dead]
    clear HF3 hF HZ HE H
    go_wp2_with (first | rw [hW3] | refine load_r 26 _ rfl rfl _ rfl R03 Try.underlying26 rfl size26 ?_ | refine store_r rfl 26 _ _ rfl _ _ rfl rfl R0 size26 rfl (by simp [Value.oneCell']) ?_ | refine store_r rfl 26 _ _ rfl _ _ rfl rfl R13 size26 rfl (by simp [Value.oneCell']) ?_)
    refine bodyPost_ret (results_rt rfl rfl R1a rfl Try.underlying26 size26) rfl ⟨p, c, rfl, HF.out, hb10⟩
  subst h0
  rw [if_neg (show ¬ (0 : Int) ≠ 0 from fun h => h rfl)] at HZ
  by_cases hn : n < -1
  · rw [if_pos hn] at HZ
    obtain rfl := HZ.out
    have HF : Hid (FHas (w3.setRow (w.heap.size + 1) #[.slice p d.fs.length c, .int .i64 d.room, .int .i64 d.arm, .bool d.dead]) (.slice p d.fs.length c) d.fs) := HF3.row R13 _
    have R1a := R13.row #[.slice p d.fs.length c, .int .i64 d.room, .int .i64 d.arm, .bool d.dead]
    have hb10 := bel_row hbel (b := w.heap.size + 1) (by omega) #[.slice p d.fs.length c, .int .i64 d.room, .int .i64 d.arm, .bool d.dead]
    clear HF3 hF HZ HE H
    go_wp2_with (first | rw [hW3] | refine load_r 26 _ rfl rfl _ rfl R03 Try.underlying26 rfl size26 ?_ | refine store_r rfl 26 _ _ rfl _ _ rfl rfl R0 size26 rfl (by simp [Value.oneCell']) ?_ | refine store_r rfl 26 _ _ rfl _ _ rfl rfl R13 size26 rfl (by simp [Value.oneCell']) ?_)
    refine bodyPost_ret (results_rt rfl rfl R1a rfl Try.underlying26 size26) rfl ⟨p, c, rfl, HF.out, hb10⟩
  · rw [if_neg hn] at HZ
    obtain rfl := HZ.out
    have k2 : w3.cell? ⟨w.heap.size, 2, none⟩ = some (.int .i64 d.arm) := R03.cell 2
    have f2 := R03.frozen 2
    have R04 : Rw (w3.setCell ⟨w.heap.size, 2, none⟩ (.int .i64 n)) w.heap.size 26 #[.slice p d.fs.length c, .int .i64 d.room, .int .i64 n, .bool d.dead] := R03.set 2 (.int .i64 n)
    have R14 := R13.setOther (q := w.heap.size) (by omega) 2 (.int .i64 n)
    have hb4 := hbel.setCell (p := ⟨w.heap.size, 2, none⟩) (Nat.le_refl _) (.int .i64 n)
    have HF4 : FHas (w3.setCell ⟨w.heap.size, 2, none⟩ (.int .i64 n)) (.slice p d.fs.length c) d.fs := by
      obtain ⟨ys, h1, h2⟩ := HF3.off R03 (dk_cells _ ⟨_, _, _, rfl⟩ _ _ _)
      have := (h2.grown (grown_cell w3 w.heap.size 2 (.int .i64 n)) (fun k hk => by simp only [Option.some.injEq] at hk; exact hk.symm)).has
      rwa [h1] at this
    generalize hW4 : w3.setCell ⟨w.heap.size, 2, none⟩ (.int .i64 n) = w4 at R04 R14 hb4 HF4
    have HF : Hid (FHas (w4.setRow (w.heap.size + 1) #[.slice p d.fs.length c, .int .i64 d.room, .int .i64 n, .bool d.dead]) (.slice p d.fs.length c) d.fs) := HF4.row R14 _
    have R1a := R14.row #[.slice p d.fs.length c, .int .i64 d.room, .int .i64 n, .bool d.dead]
    have hb10 := bel_row hb4 (b := w.heap.size + 1) (by omega) #[.slice p d.fs.length c, .int .i64 d.room, .int .i64 n, .bool d.dead]
    clear HF3 HF4 hF HZ HE H
    go_wp2_with (first | rw [hW3] | rw [hW4] | refine load_r 26 _ rfl rfl _ rfl R04 Try.underlying26 rfl size26 ?_ | refine store_r rfl 26 _ _ rfl _ _ rfl rfl R0 size26 rfl (by simp [Value.oneCell']) ?_ | refine store_r rfl 26 _ _ rfl _ _ rfl rfl R14 size26 rfl (by simp [Value.oneCell']) ?_)
    refine bodyPost_ret (results_rt rfl rfl R1a rfl Try.underlying26 size26) rfl ⟨p, c, rfl, HF.out, hb10⟩
end Go.Proofs.Ytjjncmenkepcoaa
/- Read and Names of the program. -/
namespace Go.Proofs.Ytjjncmenkepcoaa
open Go.RowKit

theorem fdx_yes {l : List FV} {x : ByteArray} {p : Nat} {b : Bool} (hu : upf l) (h : Fdx l x p b) (hb : b = true) : ∃ hp : p < l.length, fiF l x = l[p] ∧ ¬ plF l x < 0 := by
  obtain ⟨hp, e⟩ := h.is.1 hb
  have hn : ¬ plF l x < 0 := by
    rcases plF_spec l x with ⟨_, h2⟩ | ⟨k, hk, h1, _⟩
    · exact absurd e (h2 _ (List.getElem_mem hp))
    · rw [h1]
      omega
  obtain ⟨k, hk, h1, h2, h3⟩ := fi_at hn
  refine ⟨hp, ?_, hn⟩
  rw [h2]
  have e2 : fn l[k] = fn l[p] := by unfold fn; rw [h3, e]
  rcases Nat.lt_trichotomy k p with hkp | rfl | hkp
  · exact absurd (up_lt hu hk hp hkp) (e2 ▸ Bs.irr _)
  · rfl
  · exact absurd (up_lt hu hp hk hkp) (e2 ▸ Bs.irr _)
theorem fdx_no {l : List FV} {x : ByteArray} {p : Nat} {b : Bool} (hu : upf l) (h : Fdx l x p b) (hb : b = false) : plF l x < 0 := by
  rcases plF_spec l x with ⟨h1, _⟩ | ⟨k, hk, _, h2⟩
  · rw [h1]
    decide
  · exfalso
    have e : fn l[k] = bs x := by unfold fn; rw [h2]
    rcases Nat.lt_trichotomy k p with hkp | rfl | hkp
    · have := h.lo hu k hk hkp
      rw [e] at this
      exact Bs.irr _ this
    · have := h.is.2 ⟨hk, h2⟩
      rw [hb] at this
      cases this
    · have h3 := h.hi hu p (by omega) (Nat.le_refl _)
      have h4 := up_lt hu (by omega) hk hkp
      rw [e] at h4
      exact h3 h4
set_option maxHeartbeats 2000000 in
set_option maxRecDepth 100000 in
theorem read_any (d : DV) (sl : Value) (x : ByteArray) (w : World) (h : FHas w sl d.fs) (hd : Tm d) : Calls Try.prog 10 #[DKV.of sl d, .string x] w (RePost (reaD d x) w) := by
  obtain ⟨z, HZ⟩ := hid_ex (reaD d x)
  rw [HZ.out]
  unfold reaD at HZ
  obtain ⟨q, c0, rfl⟩ := h.slice
  have R0 := rw_new w 26 #[.slice q d.fs.length c0, .int .i64 d.room, .int .i64 d.arm, .bool d.dead]
  have hbel := bel_alloc (Below.refl w.heap.size w) (.cells #[.slice q d.fs.length c0, .int .i64 d.room, .int .i64 d.arm, .bool d.dead] 26)
  generalize hW : w.alloc (.cells #[.slice q d.fs.length c0, .int .i64 d.room, .int .i64 d.arm, .bool d.dead] 26) = w0 at R0 hbel
  have H : Hid (FHas w (.slice q d.fs.length c0) d.fs) := h
  have C1 := refused_any d _ x w0 (h.later hbel) (by have := hd.u; omega)
  have C2 := fun w' (hb : Below w.heap.size w w') => find_any d.fs _ x w' (H.out.later hb) (by have := hd.n; omega)
  obtain ⟨er, HE⟩ := hid_ex (askD d x)
  rw [HE.out] at C1 HZ
  clear h
  go_enter Try.func10, Try.ntmps10
  go_wp2_with (first | rw [hW] | refine load_r 26 _ rfl rfl _ rfl R0 Try.underlying26 rfl size26 ?_)
  clear hW
  refine C1.mono ?_
  clear C1
  rintro e w1 ⟨rfl, hb1⟩
  replace R0 := R0.later hb1
  replace hbel := below_on hbel hb1
  clear hb1
  by_cases h0 : er = 0
  case neg =>
    have g0 : (er == 0) = false := by rw [beq_eq_false_iff_ne]; exact h0
    obtain rfl : ([], er) = z := by rw [← HZ.out, if_pos h0]
    clear HZ HE H C2
    go_wp2_with fail
    refine bodyPost_ret (v := .tuple #[.slice none 0 0, .int .i64 er]) (by simp [results, Try.results10, go_sem]) rfl ⟨_, rfl, DB.nil _, hbel⟩
  subst h0
  rw [if_neg (show ¬ (0 : Int) ≠ 0 from fun h => h rfl)] at HZ
  have HUP : Hid (upf d.fs) := ((ckD_iff d).1 (ask_ok HE.out).1).2.2.2.2.2.1
  have k0 : w1.cell? ⟨w.heap.size, 0, none⟩ = some (.slice q d.fs.length c0) := R0.cell 0
  go_wp2_with fail
  refine (C2 w1 hbel).mono ?_
  clear C2 k0
  rintro e w2 ⟨p, b, rfl, hf, hb2⟩
  have HF : Hid (Fdx d.fs x p b) := hf
  replace R0 := R0.later hb2
  replace hbel := below_on hbel hb2
  clear hb2 hf
  cases b with
  | false =>
    obtain rfl : ([], 7) = z := by rw [← HZ.out, if_pos (fdx_no HUP.out HF.out rfl)]
    clear HZ HE H HUP HF
    go_wp2_with fail
    refine bodyPost_ret (v := .tuple #[.slice none 0 0, .int .i64 7]) (by simp [results, Try.results10, go_sem]) rfl ⟨_, rfl, DB.nil _, hbel⟩
  | true =>
    obtain ⟨hp, hfi, hpl⟩ := fdx_yes HUP.out HF.out rfl
    rw [if_neg hpl, hfi] at HZ
    have hp' : (p : Int) < (d.fs.length : Int) := by omega
    have hp0 : (0 : Int) ≤ (p : Int) := by omega
    have hlf : d.fs[p].d.length ≤ 5000000 := by
      have h1 := us_mem (List.getElem_mem hp)
      have := hd.u
      omega
    obtain ⟨g, o, s1, rfl, d00, a00⟩ := H.out.at p hp
    have d0 := range_later d00 hbel
    have a0 := SHas.later a00 hbel
    obtain ⟨f, HFF⟩ := hid_ex d.fs[p]
    rw [HFF.out] at d0 a0 HZ hlf
    obtain rfl := HZ.out
    obtain ⟨p1, c1, rfl⟩ := SHas.slice a0
    have k1 := (f_cells d0).2.1
    have k0 : w2.cell? ⟨w.heap.size, 0, none⟩ = some (.slice (some ⟨g, o, none⟩) d.fs.length c0) := R0.cell 0
    have CB := cloneBytes_any _ f.d w2 a0 hlf
    clear HZ HE H HUP HF HFF d00 a00 d0 a0 hfi hpl
    go_wp2_with fail
    refine CB.mono ?_
    clear CB
    rintro e w3 ⟨u, rfl, ho, hb3⟩
    have HO : Hid (DB w3 u f.d) := own_sh ho
    replace hbel := below_on hbel hb3
    clear ho
    go_wp2_with fail
    refine bodyPost_ret (v := .tuple #[u, .int .i64 0]) (by simp [results, Try.results10, go_sem]) rfl ⟨u, rfl, HO.out, hbel⟩
set_option maxHeartbeats 2000000 in
set_option maxRecDepth 100000 in
theorem names_any (d : DV) (sl : Value) (w : World) (h : FHas w sl d.fs) (hd : Tm d) : Calls Try.prog 28 #[DKV.of sl d] w (NmPost (namD d) w) := by
  obtain ⟨z, HZ⟩ := hid_ex (namD d)
  rw [HZ.out]
  unfold namD at HZ
  obtain ⟨i0, hi, hz0, hz1, hz2⟩ := info_split info9
  obtain ⟨q, c, rfl⟩ := h.slice
  have hml := maxLen_lt h.max
  have H : Hid (∀ w', Below w.heap.size w w' → FHas w' (.slice q d.fs.length c) d.fs) := fun w' hb => h.later hb
  clear h
  have R0 := rw_new w 26 #[(.slice q d.fs.length c), .int .i64 d.room, .int .i64 d.arm, .bool d.dead]
  have hbel := bel_alloc (Below.refl w.heap.size w) (.cells #[(.slice q d.fs.length c), .int .i64 d.room, .int .i64 d.arm, .bool d.dead] 26)
  generalize hW : w.alloc (.cells #[(.slice q d.fs.length c), .int .i64 d.room, .int .i64 d.arm, .bool d.dead] 26) = w0 at R0 hbel
  have C1 := off_any d _ w0 (H.out w0 hbel) (by have := hd.u; omega)
  obtain ⟨er, HE⟩ := hid_ex (offD d)
  rw [HE.out] at C1
  have hl80 : d.fs.length ≤ 80 := hd.n
  go_enter Try.func28, Try.ntmps28
  go_wp2_with (first | rw [hW] | refine load_r 26 _ rfl rfl _ rfl R0 Try.underlying26 rfl size26 ?_)
  clear hW
  refine C1.mono ?_
  rintro e w1 ⟨rfl, hb1⟩
  replace R0 := R0.later hb1
  replace hbel := below_on hbel hb1
  clear C1 hb1
  by_cases h0 : er = 0
  case neg =>
    have g0 : (er == 0) = false := by rw [beq_eq_false_iff_ne]; exact h0
    have hc : ckD d = false ∨ d.dead = true := by
      cases h1 : ckD d
      · exact .inl rfl
      · cases h2 : d.dead
        · exact absurd (by rw [← HE.out]; unfold offD; rw [h1, h2]; rfl) h0
        · exact .inr rfl
    rw [if_pos hc] at HZ
    obtain rfl := HZ.out
    clear hc HE
    go_wp2_with fail
    go_ret
    exact ⟨_, rfl, SHas.nil _ 1, hbel⟩
  subst h0
  have hc : ¬ (ckD d = false ∨ d.dead = true) := by
    have h1 := HE.out
    unfold offD at h1
    rintro (h | h)
    · rw [h] at h1
      cases h1
    · by_cases h2 : ckD d = false
      · rw [if_pos h2] at h1
        cases h1
      · rw [if_neg h2, if_pos h] at h1
        cases h1
  rw [if_neg hc] at HZ
  clear hc HE
  have k0 : w1.cell? ⟨w.heap.size, 0, none⟩ = some (.slice q d.fs.length c) := R0.cell 0
  go_wp2_with fail
  clear k0
  go_loopw [3, 12] (fun vo vi wr => ∃ (k : Nat), vi = .int .i64 k ∧ k ≤ d.fs.length ∧ wr.ownsRow (w.heap.size + 1) 9 1 vo k (sts ((d.fs.take k).map (·.x))) ∧ Rw wr w.heap.size 26 #[(.slice q d.fs.length c), .int .i64 d.room, .int .i64 d.arm, .bool d.dead] ∧ Below w.heap.size w wr) (fun _ vi _ => d.fs.length - (intOf vi).toNat)
  case atStart => exact ⟨0, rfl, by omega, ⟨rfl, .inl ⟨rfl, rfl⟩⟩, R0, hbel⟩
  case round =>
    clear R0 hbel
    obtain ⟨k, rfl, hk, hO, R0, hbel⟩ := hrel
    have k0 : wr.cell? ⟨w.heap.size, 0, none⟩ = some (.slice q d.fs.length c) := R0.cell 0
    by_cases hlt : k < d.fs.length
    · have hlt' : (k : Int) < (d.fs.length : Int) := by omega
      obtain ⟨g, o, s1, rfl, d1, e1⟩ := (H.out wr hbel).at k hlt
      have HT : Hid (sts ((d.fs.take (k + 1)).map (·.x)) = sts ((d.fs.take k).map (·.x)) ++ [.string d.fs[k].x]) := by
        show _ = _
        rw [List.take_succ_eq_append_getElem hlt]
        simp only [sts, List.map_append, List.map_cons, List.map_nil]
      obtain ⟨p1, c1, rfl⟩ := SHas.slice e1
      obtain ⟨f, HX⟩ := hid_ex d.fs[k]
      rw [HX.out] at d1 HT
      have zf : (Try.prog.info? 57).map (·.size) = some [Value.string f.x, .slice p1 f.d.length c1, .int .i64 f.k].length := sizeF
      have RB := rw_new wr 57 #[.string f.x, .slice p1 f.d.length c1, .int .i64 f.k]
      have hba := bel_alloc (Below.refl wr.heap.size wr) (.cells #[.string f.x, .slice p1 f.d.length c1, .int .i64 f.k] 57)
      have hOx := own_later hO hba
      have R0x := R0.later hba
      have hbx := below_on hbel hba
      generalize hWB : wr.alloc (.cells #[.string f.x, .slice p1 f.d.length c1, .int .i64 f.k] 57) = wx at RB hba hOx R0x hbx
      have c0 : wx.cell? ⟨wr.heap.size, 0, none⟩ = some (.string f.x) := RB.cell 0
      clear HX e1 hO R0 hbel
      go_upto_region 7 with (first | rw [hWB] | refine load_m 57 _ rfl rfl _ _ rfl d1 Try.underlying57 rfl zf ?_)
      clear hWB d1 zf k0
      go_wp2_with (first | (at_builtin; refine wpList_append_own _ rfl _ _ 48 rfl (w.heap.size + 1) 9 i0 (.string ByteArray.empty) 1 16 Try.underlying48 hi hz0 hz1 hz2 rfl (by decide) _ _ _ rfl (hOx.alloc _) ⟨wx.heap.size, 0, none⟩ 1 1 [.string f.x] rfl rfl (cell_one_new _ _ _) (by simp [Value.oneCell']) (by unfold maxLen; omega) (by omega) (by have := R0x.lt; simp; omega) ?_; intro v2 w2 o_v2 g_v2 _))
      have hlt2 := fun j hj => (World.ownsRow.lt hOx j hj).1
      have hb2 := (bel_alloc hbx (.cells #[.string f.x] 9)).grown g_v2 (bel_alloc hbx (.cells #[.string f.x] 9)).size (fun j hj => by have := hlt2 j hj; omega)
      have R2 := (R0x.alloc (.cells #[.string f.x] 9)).grown g_v2 (fun j hj => by have := hlt2 j hj; omega)
      rw [← HT.out] at o_v2
      clear hOx g_v2 R0x hbx c0 HT hlt2 RB hba
      go_wp2_with fail
      go_roundw
      case rel => exact ⟨k + 1, by simp, by omega, o_v2, R2, hb2⟩
      case measure => simp [intOf]; omega
    · have hlt' : ¬ (k : Int) < (d.fs.length : Int) := by omega
      obtain rfl : k = d.fs.length := by omega
      rw [List.take_length, HZ.out] at hO
      have hzl : z.length = d.fs.length := by rw [← HZ.out, List.length_map]
      rw [← hzl] at hO
      have hT := own_sh hO
      clear hO HZ
      go_wp2_with fail
      go_ret
      exact ⟨_, rfl, hT, hbel⟩
end Go.Proofs.Ytjjncmenkepcoaa
/- Crash of the program. -/
namespace Go.Proofs.Ytjjncmenkepcoaa
open Go.RowKit

theorem clip_any (p : Option Addr) (n c : Nat) (w : World) (h : n ≤ c) (_hc : (c : Int) ≤ 9223372036854775807) : Calls Try.prog 44 #[.slice p n c] w (Leaves (.slice p n n) w) := by
  have h1 : (n : Int) ≤ (c : Int) := by omega
  have h2 : (0 : Int) ≤ (n : Int) := by omega
  go_enter Try.func44, Try.ntmps44
  go_wp2_with fail
  go_ret
  exact ⟨rfl, rfl⟩
/-- A slice cut, with no room behind it. -/
def clipS : Value → Nat → Value
  | .slice p _ _, n => .slice p n n
  | v, _ => v
/-- What a crash leaves of a file, where it lies. -/
def cz (keep : Int) (y : FV × Value) : FV × Value := (crF y.1 keep, clipS y.2 (kpN y.1 keep).toNat)
theorem DB.clip {w : World} {p : Option Addr} {c : Nat} {l : List UInt8} (h : DB w (.slice p l.length c) l) (n : Nat) (hn : n ≤ l.length) : DB w (.slice p n n) (l.take n) := by
  obtain ⟨h4, h5, h6⟩ := h.pre n hn
  have hl : (l.take n).length = n := by rw [List.length_take]; omega
  rw [hl] at h4 h5 h6
  show SHas 1 w _ (l.take n).length _
  rw [hl]
  refine ⟨h4, h5, ?_⟩
  rcases h6 with ⟨e, h0⟩ | ⟨ad, c', e, h7, h8⟩
  · simp only [Value.slice.injEq] at e
    obtain ⟨rfl, _, _⟩ := e
    subst h0
    exact .inl ⟨rfl, rfl⟩
  · simp only [Value.slice.injEq] at e
    obtain ⟨rfl, _, _⟩ := e
    exact .inr ⟨ad, n, rfl, ⟨Nat.le_refl _, h4⟩, h8⟩
theorem set_step {ys : List (FV × Value)} (keep : Int) {k : Nat} (hk : k < ys.length) : ((ys.take k).map (cz keep) ++ ys.drop k).set k (cz keep ys[k]) = (ys.take (k + 1)).map (cz keep) ++ ys.drop (k + 1) := by
  have h1 : ((ys.take k).map (cz keep)).length = k := by simp; omega
  rw [List.set_append_right _ _ (by omega), h1, Nat.sub_self, List.drop_eq_getElem_cons hk, List.set_cons_zero, List.take_succ_eq_append_getElem hk, List.map_append, List.append_assoc]
  rfl
theorem get_step {ys : List (FV × Value)} (keep : Int) {k : Nat} (hk : k < ys.length) (h : k < ((ys.take k).map (cz keep) ++ ys.drop k).length) : ((ys.take k).map (cz keep) ++ ys.drop k)[k] = ys[k] := by
  have h1 : ((ys.take k).map (cz keep)).length = k := by simp; omega
  have e : ((ys.take k).map (cz keep) ++ ys.drop k)[k]? = some ys[k] := by
    rw [List.getElem?_append_right (by omega), h1, Nat.sub_self, List.getElem?_drop]
    simp [hk]
  rw [List.getElem?_eq_getElem h] at e
  exact Option.some.inj e
theorem kp_eq {f : FV} (h : okO f = true) (keep : Int) : f.k + min (max keep 0) (f.d.length - f.k) = kpN f keep := by
  unfold okO at h
  simp only [Bool.and_eq_true, decide_eq_true_eq] at h
  unfold kpN
  omega
set_option maxHeartbeats 2000000 in
set_option maxRecDepth 100000 in
theorem crash_any (d : DV) (sl : Value) (keep : Int) (w : World) (h : FHas w sl d.fs) (hd : Tm d) (_hk1 : -9223372036854775808 ≤ keep) (_hk2 : keep ≤ 9223372036854775807) : Calls Try.prog 11 #[DKV.of sl d, .int .i64 keep] w (DkPost (craD d keep) w) := by
  obtain ⟨z, HZ⟩ := hid_ex (craD d keep)
  rw [HZ.out]
  unfold craD at HZ
  obtain ⟨q, c0, rfl⟩ := h.slice
  have R0 := (rw_new w 26 #[.slice q d.fs.length c0, .int .i64 d.room, .int .i64 d.arm, .bool d.dead]).alloc (.cells #[.slice none 0 0, .int .i64 0, .int .i64 0, .bool false] 26)
  have R1 := rw_next (w.alloc (.cells #[.slice q d.fs.length c0, .int .i64 d.room, .int .i64 d.arm, .bool d.dead] 26)) (b := w.heap.size + 1) (by simp) 26 #[.slice none 0 0, .int .i64 0, .int .i64 0, .bool false]
  have hbel := bel_alloc (bel_alloc (Below.refl w.heap.size w) (.cells #[.slice q d.fs.length c0, .int .i64 d.room, .int .i64 d.arm, .bool d.dead] 26)) (.cells #[.slice none 0 0, .int .i64 0, .int .i64 0, .bool false] 26)
  generalize hW : (w.alloc (.cells #[.slice q d.fs.length c0, .int .i64 d.room, .int .i64 d.arm, .bool d.dead] 26)).alloc (.cells #[.slice none 0 0, .int .i64 0, .int .i64 0, .bool false] 26) = w0 at R0 R1 hbel
  have C1 := copyDisk_any d _ w0 (h.later hbel) (by have := hd.n; omega) (by have := hd.u; omega)
  clear h
  go_enter Try.func11, Try.ntmps11
  go_wp2_with (first | rw [hW] | refine load_r 26 _ rfl rfl _ rfl R0 Try.underlying26 rfl size26 ?_)
  clear hW
  refine C1.mono ?_
  clear C1
  rintro e w1 ⟨p, c, ys, rfl, hm, hG, hb1⟩
  have h10 : w.heap.size + 1 < w0.heap.size := R1.lt
  replace R0 := R0.later hb1
  replace R1 := R1.later hb1
  replace hbel := below_on hbel hb1
  have hlen : ys.length = d.fs.length := by rw [← hm, List.length_map]
  have HM : Hid (ys.map (·.1) = d.fs) := hm
  replace hG := hG.base (B' := w.heap.size + 2) h10
  have R02 := R0.row #[.slice p d.fs.length c, .int .i64 d.room, .int .i64 d.arm, .bool d.dead]
  have R12 := R1.rowOther (q := w.heap.size) (by omega) #[.slice p d.fs.length c, .int .i64 d.room, .int .i64 d.arm, .bool d.dead]
  have hb2 := bel_row hbel (b := w.heap.size) (Nat.le_refl _) #[.slice p d.fs.length c, .int .i64 d.room, .int .i64 d.arm, .bool d.dead]
  have hG2 : OwnG (w1.setRow w.heap.size #[.slice p d.fs.length c, .int .i64 d.room, .int .i64 d.arm, .bool d.dead]) (w.heap.size + 2) (.slice p d.fs.length c) ys := ⟨own_low hG.r (grown_row _ _ _) (by omega), fun y hy => own_low (hG.o y hy) (grown_row _ _ _) (by omega), hG.n⟩
  generalize hW2 : w1.setRow w.heap.size #[.slice p d.fs.length c, .int .i64 d.room, .int .i64 d.arm, .bool d.dead] = w2 at R02 R12 hb2 hG2
  have hF2 : FHas w2 (.slice p d.fs.length c) d.fs := by
    have := hG2.has
    rwa [HM.out] at this
  have HG2 : Hid (OwnG w2 (w.heap.size + 2) (.slice p d.fs.length c) ys) := hG2
  have C2 := check_any d _ w2 hF2 (by have := hd.u; omega)
  obtain ⟨r, HR⟩ := hid_ex (ckD d)
  rw [HR.out] at C2 HZ
  have HF2 : Hid (FHas w2 (.slice p d.fs.length c) d.fs) := hF2
  clear hG hG2 hm hb1 hF2
  go_wp2_with (first | rw [hW2] | refine load_r 26 _ rfl rfl _ rfl R02 Try.underlying26 rfl size26 ?_ | refine store_r rfl 26 _ _ rfl _ _ rfl rfl R0 size26 rfl (by simp [Value.oneCell']) ?_)
  clear hW2 R0 R1 hbel
  refine C2.mono ?_
  clear C2
  rintro e w3 ⟨rfl, hb3⟩
  replace R02 := R02.later hb3
  replace R12 := R12.later hb3
  replace hb2 := below_on hb2 hb3
  cases r with
  | false =>
    rw [if_pos rfl] at HZ
    obtain rfl := HZ.out
    have hF3 := HF2.out.later hb3
    have HF : Hid (FHas (w3.setRow (w.heap.size + 1) #[.slice p d.fs.length c, .int .i64 d.room, .int .i64 d.arm, .bool d.dead]) (.slice p d.fs.length c) d.fs) := hF3.row R12 _
    have R1a := R12.row #[.slice p d.fs.length c, .int .i64 d.room, .int .i64 d.arm, .bool d.dead]
    have hb10 := bel_row hb2 (b := w.heap.size + 1) (by omega) #[.slice p d.fs.length c, .int .i64 d.room, .int .i64 d.arm, .bool d.dead]
    clear HF2 HG2 HZ HR HM hF3
    go_wp2_with (first | refine load_r 26 _ rfl rfl _ rfl R02 Try.underlying26 rfl size26 ?_ | refine store_r rfl 26 _ _ rfl _ _ rfl rfl R12 size26 rfl (by simp [Value.oneCell']) ?_)
    refine bodyPost_ret (results_r rfl rfl R1a rfl Try.underlying26 size26) rfl ⟨p, c, rfl, HF.out, hb10⟩
  | true =>
    rw [if_neg (fun e => by cases e)] at HZ
    have HOK : Hid (∀ f ∈ d.fs, okO f = true) := ((ckD_iff d).1 HR.out).2.2.2.2.1
    have HG3 : Hid (OwnG w3 (w.heap.size + 2) (.slice p d.fs.length c) ys) := HG2.out.later hb3
    have k0 : w3.cell? ⟨w.heap.size, 0, none⟩ = some (.slice p d.fs.length c) := R02.cell 0
    clear HF2 HG2 HR hb3
    go_wp2_with fail
    clear k0
    have hlk : d.fs.length ≤ 80 := hd.n
    have HML : Hid (∀ f ∈ d.fs, f.d.length ≤ 1048576) := fun f hf => Nat.le_trans (us_mem hf) hd.u
    have HR0 : Hid (w3.ownsRow (w.heap.size + 2) 57 3 (.slice p d.fs.length c) d.fs.length (rows FV.cells ([].map (cz keep) ++ ys))) := by
      have := HG3.out.r
      rw [hlen] at this
      exact this
    go_loopw [17] (fun vk wr => ∃ (k : Nat), vk = .int .i64 k ∧ k ≤ d.fs.length ∧ Hid (wr.ownsRow (w.heap.size + 2) 57 3 (.slice p d.fs.length c) d.fs.length (rows FV.cells ((ys.take k).map (cz keep) ++ ys.drop k))) ∧ Hid (∀ y ∈ ys, wr.ownsRow (w.heap.size + 2) 5 1 y.2 y.1.d.length (cel y.1.d)) ∧ Rw wr w.heap.size 26 #[.slice p d.fs.length c, .int .i64 d.room, .int .i64 d.arm, .bool d.dead] ∧ Rw wr (w.heap.size + 1) 26 #[.slice none 0 0, .int .i64 0, .int .i64 0, .bool false] ∧ Below w.heap.size w wr) (fun vk _ => d.fs.length - (intOf vk).toNat)
    case atStart => exact ⟨0, rfl, by omega, HR0, HG3.out.o, R02, R12, hb2⟩
    case round =>
      clear HR0 HG3 R02 R12 hb2
      obtain ⟨k, rfl, hk, HW, HD, R0, R1, hb⟩ := hrel
      by_cases hlt : k < d.fs.length
      · have hlt' : (k : Int) < (d.fs.length : Int) := by omega
        have hky : k < ys.length := by omega
        have hql : ((ys.take k).map (cz keep) ++ ys.drop k).length = d.fs.length := by simp; omega
        have hkq : k < ((ys.take k).map (cz keep) ++ ys.drop k).length := by omega
        obtain ⟨g, rfl⟩ : ∃ g, p = some ⟨g, 0, none⟩ := by
          rcases HW.out.2 with ⟨e, h0⟩ | ⟨g, cap, cur, e, _⟩
          · omega
          · simp only [Value.slice.injEq] at e
            exact ⟨g, e.1⟩
        have d0 : wr.rangeAt g (k * 3) (FV.cells ys[k]) := fun j u hu => by
          rw [HW.out.cellAt (k * 3 + j) (by have := (List.getElem?_eq_some_iff.1 hu).1; rw [FV.len] at this; omega)]
          rw [← get_step keep hky hkq] at hu
          exact rows_at FV.len _ k hkq j u hu
        have ho := HD.out ys[k] (List.getElem_mem _)
        have hok := HOK.out ys[k].1 (by rw [← HM.out]; exact List.mem_map.2 ⟨_, List.getElem_mem _, rfl⟩)
        have hml := HML.out ys[k].1 (by rw [← HM.out]; exact List.mem_map.2 ⟨_, List.getElem_mem _, rfl⟩)
        have hgs := get_step keep hky hkq
        have hst := set_step keep hky
        obtain ⟨⟨f, s1⟩, HX⟩ := hid_ex ys[k]
        rw [HX.out] at d0 ho hok hml hgs hst
        replace ho : wr.ownsRow (w.heap.size + 2) 5 1 s1 f.d.length (cel f.d) := ho
        replace hok : okO f = true := hok
        replace hml : f.d.length ≤ 1048576 := hml
        obtain ⟨p1, c1, rfl⟩ : ∃ p c, s1 = .slice p f.d.length c := own_sl ho
        replace d0 : wr.rangeAt g (k * 3) [.string f.x, .slice p1 f.d.length c1, .int .i64 f.k] := d0
        have hc1 := (own_sh ho).cap
        have hcm := maxLen_lt hc1.2
        obtain ⟨h01, h02, h03⟩ := kp_of hok keep
        obtain ⟨m, hm⟩ : ∃ m : Nat, kpN f keep = m := ⟨(kpN f keep).toNat, by omega⟩
        have hke := kp_eq hok keep
        rw [hm] at hke h01 h02 h03
        have hcz : cz keep (f, .slice p1 f.d.length c1) = (⟨f.x, f.d.take m, m⟩, .slice p1 m m) := by
          unfold cz crF clipS
          simp only [hm, Int.toNat_natCast]
        have zf : (Try.prog.info? 57).map (·.size) = some [Value.string f.x, .slice p1 f.d.length c1, .int .i64 f.k].length := sizeF
        have RB := rw_new wr 57 #[.string f.x, .slice p1 f.d.length c1, .int .i64 f.k]
        have hba := bel_alloc (Below.refl wr.heap.size wr) (.cells #[.string f.x, .slice p1 f.d.length c1, .int .i64 f.k] 57)
        generalize hWB : wr.alloc (.cells #[.string f.x, .slice p1 f.d.length c1, .int .i64 f.k] 57) = wx at RB hba
        have k0 : wr.cell? ⟨w.heap.size, 0, none⟩ = some (.slice (some ⟨g, 0, none⟩) d.fs.length c) := R0.cell 0
        have f1 : wx.cell? ⟨wr.heap.size, 1, none⟩ = some (.slice p1 f.d.length c1) := RB.cell 1
        have f2 : wx.cell? ⟨wr.heap.size, 2, none⟩ = some (.int .i64 f.k) := RB.cell 2
        clear hm
        unfold okO at hok
        simp only [Bool.and_eq_true, decide_eq_true_eq] at hok
        have ew : IntKind.i64.wrap ((f.d.length : Int) - f.k) = (f.d.length : Int) - f.k := by rw [IntKind.wrap_i64]; omega
        have HQ : Hid (f.k + min (max keep 0) ((f.d.length : Int) - f.k) = m) := hke
        go_upto_region 8 with (first | rw [hWB] | refine load_m 57 _ rfl rfl _ _ rfl d0 Try.underlying57 rfl zf ?_)
        clear hWB d0 zf k0 f1 f2 ew hke
        have hbx := below_on hb hba
        have R0x := R0.later hba
        have hS : wx.drew.cell? ⟨w.heap.size, 0, none⟩ = some (.slice (some ⟨g, 0, none⟩) d.fs.length c) ∧ wx.drew.cell? ⟨wr.heap.size, 1, none⟩ = some (.slice p1 f.d.length c1) := ⟨R0x.cell 0, RB.cell 1⟩
        have hbd : Below wr.heap.size wr wx.drew := hba.drew
        clear hba R0x hbx
        refine HeldI.region (fun w' : World => w'.cell? ⟨w.heap.size, 0, none⟩ = some (.slice (some ⟨g, 0, none⟩) d.fs.length c) ∧ w'.cell? ⟨wr.heap.size, 1, none⟩ = some (.slice p1 f.d.length c1)) (by kernel_rfl) ?_
        generalize wx.drew = wd at hS hbd ⊢
        have hm0 : (0 : Int) ≤ (m : Int) := by omega
        have hm1 : (m : Int) ≤ (c1 : Int) := by omega
        have hk0 : (0 : Int) ≤ (k : Int) := by omega
        refine HeldI.pu 0 hS ?_
        refine HeldI.ce 1 (fun _ h => h.1) hS ?_
        refine HeldI.pu 2 hS ?_
        refine HeldI.pu 3 hS ?_
        refine HeldI.ce 4 (fun _ h => h.1) hS ?_
        refine HeldI.pu 5 hS ?_
        refine HeldI.pu 6 hS ?_
        refine HeldI.ce 7 (fun _ h => h.2) hS ?_
        refine HeldI.pu 8 hS ?_
        refine HeldI.pu 9 hS ?_
        refine HeldI.pu 11 hS ?_
        refine HeldI.kn 10 (clip_any p1 m c1 wd (by omega) hcm) ?_
        rintro e w6 ⟨rfl, rfl⟩
        refine ⟨_, rfl, hS, ?_⟩
        refine HeldI.pu 12 hS ?_
        refine HeldI.pu 13 hS ?_
        have W6 := own_later HW.out hbd
        have hgl := (HW.out.lt g rfl)
        obtain ⟨_, cur, hgc⟩ := row_cur W6
        obtain ⟨⟨old, hold⟩, hfz⟩ := row_there W6 (k * 3 + 1) (by omega)
        obtain ⟨O2, G2⟩ := W6.stored (k * 3 + 1) (.slice p1 m m)
        have hw0g : w.heap.size ≠ g := by omega
        have hwrg : wr.heap.size ≠ g := by omega
        have hS2 : (w6.setCell ⟨g, k * 3 + 1, none⟩ (.slice p1 m m)).cell? ⟨w.heap.size, 0, none⟩ = some (.slice (some ⟨g, 0, none⟩) d.fs.length c) ∧ (w6.setCell ⟨g, k * 3 + 1, none⟩ (.slice p1 m m)).cell? ⟨wr.heap.size, 1, none⟩ = some (.slice p1 f.d.length c1) := by
          rw [World.cell?_of_block (w := w6) (a := ⟨w.heap.size, 0, none⟩) (Below.heap_setCell _ _ _ _ hw0g), World.cell?_of_block (w := w6) (a := ⟨wr.heap.size, 1, none⟩) (Below.heap_setCell _ _ _ _ hwrg)]
          exact hS
        refine HeldI.ss 14 (store_b22 hold hfz p1 m m) hS2 ?_
        refine HeldI.pu 15 hS2 ?_
        refine HeldI.pu 16 hS2 ?_
        obtain ⟨⟨old2, hold2⟩, hfz2⟩ := row_there O2 (k * 3 + 2) (by omega)
        obtain ⟨O3, G3⟩ := O2.stored (k * 3 + 2) (.int .i64 m)
        have hS3 : ((w6.setCell ⟨g, k * 3 + 1, none⟩ (.slice p1 m m)).setCell ⟨g, k * 3 + 2, none⟩ (.int .i64 m)).cell? ⟨w.heap.size, 0, none⟩ = some (.slice (some ⟨g, 0, none⟩) d.fs.length c) ∧ ((w6.setCell ⟨g, k * 3 + 1, none⟩ (.slice p1 m m)).setCell ⟨g, k * 3 + 2, none⟩ (.int .i64 m)).cell? ⟨wr.heap.size, 1, none⟩ = some (.slice p1 f.d.length c1) := by
          rw [World.cell?_of_block (w := w6.setCell ⟨g, k * 3 + 1, none⟩ (.slice p1 m m)) (a := ⟨w.heap.size, 0, none⟩) (Below.heap_setCell _ _ _ _ hw0g), World.cell?_of_block (w := w6.setCell ⟨g, k * 3 + 1, none⟩ (.slice p1 m m)) (a := ⟨wr.heap.size, 1, none⟩) (Below.heap_setCell _ _ _ _ hwrg)]
          exact hS2
        refine HeldI.ss 17 (store_b3 hold2 hfz2 m) hS3 ?_
        refine HeldI.dn ?_
        rw [set_both hkq (.slice p1 m m) (f.d.take m) (m : Int)] at O3
        have ez : (⟨((ys.take k).map (cz keep) ++ ys.drop k)[k].1.x, f.d.take m, (m : Int)⟩, Value.slice p1 m m) = cz keep (f, .slice p1 f.d.length c1) := by rw [hgs, hcz]
        rw [ez, hst] at O3
        have hG : w6.grownBy ((w6.setCell ⟨g, k * 3 + 1, none⟩ (.slice p1 m m)).setCell ⟨g, k * 3 + 2, none⟩ (.int .i64 m)) (some g) := ⟨G3.os.trans G2.os, G3.tape.trans G2.tape, G3.output.trans G2.output, Nat.le_trans G2.size G3.size, fun j hj hne => (G3.block j (Nat.lt_of_lt_of_le hj G2.size) hne).trans (G2.block j hj hne)⟩
        have R02 := ((R0.later hbd).setOther (q := g) hw0g (k * 3 + 1) (.slice p1 m m)).setOther (q := g) hw0g (k * 3 + 2) (.int .i64 m)
        have R12 := ((R1.later hbd).setOther (q := g) (by omega) (k * 3 + 1) (.slice p1 m m)).setOther (q := g) (by omega) (k * 3 + 2) (.int .i64 m)
        have hb2 := ((below_on hb hbd).setCell (p := ⟨g, k * 3 + 1, none⟩) (show w.heap.size ≤ g by omega) (.slice p1 m m)).setCell (p := ⟨g, k * 3 + 2, none⟩) (show w.heap.size ≤ g by omega) (.int .i64 m)
        have HD2 : Hid (∀ y ∈ ys, ((w6.setCell ⟨g, k * 3 + 1, none⟩ (.slice p1 m m)).setCell ⟨g, k * 3 + 2, none⟩ (.int .i64 m)).ownsRow (w.heap.size + 2) 5 1 y.2 y.1.d.length (cel y.1.d)) := fun y hy => own_apart (own_later (HD.out y hy) hbd) hG hgc (by decide)
        have HW2 : Hid (World.ownsRow ((w6.setCell ⟨g, k * 3 + 1, none⟩ (.slice p1 m m)).setCell ⟨g, k * 3 + 2, none⟩ (.int .i64 m)) (w.heap.size + 2) 57 3 (.slice (some ⟨g, 0, none⟩) d.fs.length c) d.fs.length (rows FV.cells ((ys.take (k + 1)).map (cz keep) ++ ys.drop (k + 1)))) := O3
        clear hold hold2 hfz hfz2 hS hS2 hS3 G2 G3 O2 O3 hG W6 hgc HW HD R0 R1 hb RB hcz hgs hst ez hbd ho HX HQ hc1
        generalize (w6.setCell ⟨g, k * 3 + 1, none⟩ (.slice p1 m m)).setCell ⟨g, k * 3 + 2, none⟩ (.int .i64 m) = w9 at HW2 HD2 R02 R12 hb2 ⊢
        go_wp2_with fail
        go_roundw
        case rel => exact ⟨k + 1, by simp, by omega, HW2, HD2, R02, R12, hb2⟩
        case measure => simp [intOf]; omega
      · obtain rfl : k = d.fs.length := by omega
        have hlt' : ¬ ((d.fs.length : Int) < (d.fs.length : Int)) := by omega
        have hW' := HW.out
        rw [← hlen, List.take_length, List.drop_length, List.append_nil] at hW'
        have k2 : wr.cell? ⟨w.heap.size, 2, none⟩ = some (.int .i64 d.arm) := R0.cell 2
        have f2 := R0.frozen 2
        have R04 : Rw (wr.setCell ⟨w.heap.size, 2, none⟩ (.int .i64 (-1))) w.heap.size 26 #[.slice p d.fs.length c, .int .i64 d.room, .int .i64 (-1), .bool d.dead] := R0.set 2 (.int .i64 (-1))
        have R14 := R1.setOther (q := w.heap.size) (by omega) 2 (.int .i64 (-1))
        have hb4 := hb.setCell (p := ⟨w.heap.size, 2, none⟩) (Nat.le_refl _) (.int .i64 (-1))
        have O4 := own_low hW' (grown_cell wr w.heap.size 2 (.int .i64 (-1))) (by omega)
        have D4 : ∀ y ∈ ys, (wr.setCell ⟨w.heap.size, 2, none⟩ (.int .i64 (-1))).ownsRow (w.heap.size + 2) 5 1 y.2 y.1.d.length (cel y.1.d) := fun y hy => own_low (HD.out y hy) (grown_cell wr w.heap.size 2 (.int .i64 (-1))) (by omega)
        generalize hW4 : wr.setCell ⟨w.heap.size, 2, none⟩ (.int .i64 (-1)) = w4 at R04 R14 hb4 O4 D4
        have k3 : w4.cell? ⟨w.heap.size, 3, none⟩ = some (.bool d.dead) := R04.cell 3
        have f3 := R04.frozen 3
        have R05 : Rw (w4.setCell ⟨w.heap.size, 3, none⟩ (.bool false)) w.heap.size 26 #[.slice p d.fs.length c, .int .i64 d.room, .int .i64 (-1), .bool false] := R04.set 3 (.bool false)
        have R15 := R14.setOther (q := w.heap.size) (by omega) 3 (.bool false)
        have hb5 := hb4.setCell (p := ⟨w.heap.size, 3, none⟩) (Nat.le_refl _) (.bool false)
        have O5 := own_low O4 (grown_cell w4 w.heap.size 3 (.bool false)) (by omega)
        have D5 : ∀ y ∈ ys, (w4.setCell ⟨w.heap.size, 3, none⟩ (.bool false)).ownsRow (w.heap.size + 2) 5 1 y.2 y.1.d.length (cel y.1.d) := fun y hy => own_low (D4 y hy) (grown_cell w4 w.heap.size 3 (.bool false)) (by omega)
        generalize hW5 : w4.setCell ⟨w.heap.size, 3, none⟩ (.bool false) = w5 at R05 R15 hb5 O5 D5
        have R16 := R15.row #[.slice p d.fs.length c, .int .i64 d.room, .int .i64 (-1), .bool false]
        have hb6 := bel_row hb5 (b := w.heap.size + 1) (by omega) #[.slice p d.fs.length c, .int .i64 d.room, .int .i64 (-1), .bool false]
        have O6 := own_low O5 (grown_row w5 (w.heap.size + 1) #[.slice p d.fs.length c, .int .i64 d.room, .int .i64 (-1), .bool false]) (by omega)
        have HF : Hid (FHas (w5.setRow (w.heap.size + 1) #[.slice p d.fs.length c, .int .i64 d.room, .int .i64 (-1), .bool false]) (.slice p (d.fs.map (crF · keep)).length c) (d.fs.map (crF · keep))) := by
          refine ⟨ys.map (cz keep), ?_, ?_, ?_⟩
          · rw [← HM.out, List.map_map, List.map_map]
            rfl
          · have h6 := own_sh O6
            rw [hlen] at h6
            rw [List.length_map]
            exact h6
          · intro y hy
            obtain ⟨y0, hy0, rfl⟩ := List.mem_map.1 hy
            have hok := HOK.out y0.1 (by rw [← HM.out]; exact List.mem_map.2 ⟨_, hy0, rfl⟩)
            have h5 := own_low (D5 y0 hy0) (grown_row w5 (w.heap.size + 1) #[.slice p d.fs.length c, .int .i64 d.room, .int .i64 (-1), .bool false]) (by omega)
            obtain ⟨p1, c1, e1⟩ := own_sl h5
            obtain ⟨h01, h02, h03⟩ := kp_of hok keep
            have h6 := own_sh h5
            rw [e1] at h6
            have h7 := DB.clip h6 (kpN y0.1 keep).toNat (by omega)
            show DB _ (clipS y0.2 (kpN y0.1 keep).toNat) (y0.1.d.take (kpN y0.1 keep).toNat)
            rw [e1]
            exact h7
        have HZ2 : Hid (d.fs.map (crF · keep) = z.fs ∧ d.room = z.room ∧ -1 = z.arm ∧ false = z.dead) := by
          have := HZ.out
          subst this
          exact ⟨rfl, rfl, rfl, rfl⟩
        clear HW HD hW' O4 D4 O5 D5 O6 R1 HML HOK HM hlen HZ
        go_wp2_with (first | rw [hW4] | rw [hW5] | refine load_r 26 _ rfl rfl _ rfl R05 Try.underlying26 rfl size26 ?_ | refine store_r rfl 26 _ _ rfl _ _ rfl rfl R15 size26 rfl (by simp [Value.oneCell']) ?_)
        refine bodyPost_ret (results_r rfl rfl R16 rfl Try.underlying26 size26) rfl ⟨p, c, ?_, ?_, hb6⟩
        · obtain ⟨h1, h2, h3, h4⟩ := HZ2.out
          rw [← h1, List.length_map, DKV.of, ← h2, ← h3, ← h4]
        · have := HF.out
          rwa [HZ2.out.1] at this
end Go.Proofs.Ytjjncmenkepcoaa
/- All ten calls of the program of layer 22. -/
namespace Go.Proofs.Ytjjncmenkepcoaa

theorem prk_all : Prk where
  new n w _ _ := new_any n w
  arm d sl n w h hd _ _ := arm_any d sl n w h hd
  put d sl x b u w h hd _ hu hb := putMain_any d sl x b u w h hd hu hb
  read d sl x w h hd _ := read_any d sl x w h hd
  crash d sl n w h hd h1 h2 := crash_any d sl n w h hd h1 h2
  app d sl x b u w h hd _ hu hb := append_any d sl x b u w h hd hu hb
  sync d sl x w h hd _ := sync_any d sl x w h hd
  drop d sl x w h hd _ := drop_any d sl x w h hd
  check d sl w h hd := check_any d sl w h (by have := hd.u; omega)
  names d sl w h hd := names_any d sl w h hd
end Go.Proofs.Ytjjncmenkepcoaa
