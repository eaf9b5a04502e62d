import Derived.Test.YtjjncmenkepcoaaP6
import Derived.Deep.CutRange
import Derived.Lib.AppendStr
import Derived.Laws.BytesArg
/- The document's answer for layer 22: Put, Append. -/
namespace Go.Proofs.Ytjjncmenkepcoaa
open Go.RowKit

set_option maxHeartbeats 8000000 in
set_option maxRecDepth 100000 in
theorem rPut_any (d : DV) (sl : Value) (x : ByteArray) (b : List UInt8) (u : Value) (w : World) (h : FHas w sl d.fs) (hu : DB w u b) (hb0 : b.length ≤ 1000000) (ha : d.arm ≤ 9223372036854775807) : Calls Try.prog 13 #[DKV.of sl d, .string x, u] w (DEPost (putD d x b) w) := by
  obtain ⟨z, HZ⟩ := hid_ex (putD d x b)
  rw [HZ.out]
  unfold putD at HZ
  obtain ⟨pu, cu, rfl⟩ := SHas.slice hu
  have HU0 : Hid (∀ w', Below w.heap.size w w' → DB w' (.slice pu b.length cu) b) := fun w' hb => SHas.later hu hb
  clear hu
  obtain ⟨q, c, rfl⟩ := h.slice
  have hml := maxLen_lt h.max
  have H : Hid (∀ w', Below w.heap.size w w' → FHas w' (.slice q d.fs.length c) d.fs) := fun w' hb => h.later hb
  clear h
  have R0 := (rw_new w 26 #[(.slice q d.fs.length c), .int .i64 d.room, .int .i64 d.arm, .bool d.dead]).alloc (.cells #[.slice none 0 0, .int .i64 0, .int .i64 0, .bool false] 26)
  have R1 := rw_next (w.alloc (.cells #[(.slice q d.fs.length c), .int .i64 d.room, .int .i64 d.arm, .bool d.dead] 26)) (b := w.heap.size + 1) (by simp) 26 #[.slice none 0 0, .int .i64 0, .int .i64 0, .bool false]
  have hbel := bel_alloc (bel_alloc (Below.refl w.heap.size w) (.cells #[(.slice q d.fs.length c), .int .i64 d.room, .int .i64 d.arm, .bool d.dead] 26)) (.cells #[.slice none 0 0, .int .i64 0, .int .i64 0, .bool false] 26)
  generalize hW : (w.alloc (.cells #[(.slice q d.fs.length c), .int .i64 d.room, .int .i64 d.arm, .bool d.dead] 26)).alloc (.cells #[.slice none 0 0, .int .i64 0, .int .i64 0, .bool false] 26) = w0 at R0 R1 hbel
  obtain ⟨e0, HE⟩ := hid_ex (askD d x)
  have C1 := rAsk_any d _ x w0 (H.out w0 hbel)
  rw [HE.out] at C1
  go_enter Try.func13, Try.ntmps13
  go_wp2_with (first | rw [hW] | refine load_r 26 _ rfl rfl _ rfl R0 Try.underlying26 rfl size26 ?_)
  clear hW
  refine C1.mono ?_
  rintro e w1 ⟨rfl, hb1⟩
  replace R0 := R0.later hb1
  replace R1 := R1.later hb1
  replace hbel := below_on hbel hb1
  clear C1 hb1
  by_cases h0 : e0 = 0
  case neg =>
    have g0 : (e0 == 0) = false := by rw [beq_eq_false_iff_ne]; exact h0
    obtain rfl := (show (d, e0) = z by rw [← HZ.out, HE.out, if_pos h0])
    have R1a := R1.row #[(.slice q d.fs.length c), .int .i64 d.room, .int .i64 d.arm, .bool d.dead]
    have hb10 := bel_row hbel (b := w.heap.size + 1) (by omega) #[(.slice q d.fs.length c), .int .i64 d.room, .int .i64 d.arm, .bool d.dead]
    have H9 := H.out _ hb10
    go_wp2_with (first | refine load_r 26 _ rfl rfl _ rfl R0 Try.underlying26 rfl size26 ?_ | refine store_r rfl 26 _ _ rfl _ _ rfl rfl R1 size26 rfl (by simp [Value.oneCell']) ?_)
    refine bodyPost_ret (results_rt rfl rfl R1a rfl Try.underlying26 size26) rfl (DEPost.mk2 rfl H9 hb10)
  subst h0
  have HCK : Hid (ckD d = true) := (ask_ok HE.out).1
  rw [HE.out, if_neg (show ¬ (0 : Int) ≠ 0 from fun h => h rfl)] at HZ
  clear HE
  have C2 := rPlace_any d _ x w1 (H.out w1 hbel)
  obtain ⟨k, HK⟩ := hid_ex (plF d.fs x)
  rw [HK.out] at C2
  go_wp2_with (first | refine load_r 26 _ rfl rfl _ rfl R0 Try.underlying26 rfl size26 ?_)
  refine C2.mono ?_
  rintro e w2 ⟨rfl, hb2⟩
  replace R0 := R0.later hb2
  replace R1 := R1.later hb2
  replace hbel := below_on hbel hb2
  clear C2 hb2
  have hcd := (ckD_iff d).1 HCK.out
  have hr1 := hcd.1
  have hr2 := hcd.2.1
  have hus : us d.fs ≤ 1000000000 := by have := hcd.2.2.2.2.2.2; omega
  have hl : d.fs.length ≤ 1000 := by have := hcd.2.2.2.1; omega
  have hfu := fi_us d.fs x
  clear hcd
  have C3 := fun w' (hb : Below w.heap.size w w') => rFile_any d _ x ((b.length : Int) - ((fiF d.fs x).d.length : Int)) w' (H.out w' hb) hr1 hr2 hus
  unfold FiPost at C3
  obtain ⟨f, HF⟩ := hid_ex (fiF d.fs x)
  simp only [HF.out] at C3
  obtain ⟨r, HR⟩ := hid_ex (fit d x ((b.length : Int) - (f.d.length : Int)))
  simp only [HR.out] at C3
  rw [HF.out] at hfu
  rw [HF.out] at HZ
  go_upto_if 24 with fail
  go_cut [10] from 25 to 31 (fun v wx => v = .int .i64 f.d.length ∧ wx = w2)
  case first =>
    by_cases hk : k < 0
    · have e : f = ⟨x, [], 0⟩ := by rw [← HF.out]; exact fi_none (by rw [HK.out]; exact hk)
      go_wp2_with fail
      go_meet
      case rel => exact ⟨by rw [e]; rfl, rfl⟩
    · obtain ⟨kk, hkl, h1, h2, h3⟩ := fi_at (l := d.fs) (x := x) (by rw [HK.out]; exact hk)
      rw [HK.out] at h1
      subst h1
      obtain ⟨g, o, s1, rfl, d0, a0⟩ := (H.out w2 hbel).at kk hkl
      rw [← h2, HF.out] at d0 a0
      obtain ⟨p1, c1, rfl⟩ := SHas.slice a0
      have hkl' : (kk : Int) < (d.fs.length : Int) := by omega
      obtain ⟨_, k1, _⟩ := f_cells d0
      have k0 : w2.cell? ⟨w.heap.size, 0, none⟩ = some (.slice (some ⟨g, o, none⟩) d.fs.length c) := R0.cell 0
      clear d0 a0 h2 h3
      go_wp2_with fail
      go_meet
      case rel => exact ⟨rfl, rfl⟩
  case rest =>
    obtain ⟨rfl, hwx⟩ := hcut
    subst hwx
    have ew : IntKind.i64.wrap ((b.length : Int) - (f.d.length : Int)) = (b.length : Int) - (f.d.length : Int) := by rw [IntKind.wrap_i64]; omega
    go_wp2_with (first | refine load_r 26 _ rfl rfl _ rfl R0 Try.underlying26 rfl size26 ?_)
    refine (C3 _ hbel).mono ?_
    rintro e w3 ⟨u2, rfl, a2, hb3⟩
    obtain ⟨p2, c2, rfl⟩ := SHas.slice a2
    replace R0 := R0.later hb3
    replace R1 := R1.later hb3
    replace hbel := below_on hbel hb3
    have hba := bel_alloc (Below.refl w3.heap.size w3) (.cells #[.string f.x, .slice p2 f.d.length c2, .int .i64 f.k] 57)
    replace R0 := R0.later hba
    replace R1 := R1.later hba
    replace hbel := below_on hbel hba
    clear C3 hb3 a2 ew
    generalize hWB : w3.alloc (.cells #[.string f.x, .slice p2 f.d.length c2, .int .i64 f.k] 57) = wb at R0 R1 hbel
    rw [HR.out] at HZ
    cases r
    · rw [if_pos rfl] at HZ
      obtain rfl := HZ.out
      have R1a := R1.row #[(.slice q d.fs.length c), .int .i64 d.room, .int .i64 d.arm, .bool d.dead]
      have hb10 := bel_row hbel (b := w.heap.size + 1) (by omega) #[(.slice q d.fs.length c), .int .i64 d.room, .int .i64 d.arm, .bool d.dead]
      have H9 := H.out _ hb10
      go_wp2_with (first | rw [hWB] | refine load_r 26 _ rfl rfl _ rfl R0 Try.underlying26 rfl size26 ?_ | refine store_r rfl 26 _ _ rfl _ _ rfl rfl R1 size26 rfl (by simp [Value.oneCell']) ?_)
      refine bodyPost_ret (results_rt rfl rfl R1a rfl Try.underlying26 size26) rfl (DEPost.mk2 rfl H9 hb10)
    · rw [if_neg (by simp)] at HZ
      have C4 := fun w' : World => rPower_any d q c w' ha
      obtain ⟨r4, HR4⟩ := hid_ex (!decide (d.arm = 0))
      have hpf := pw_fs d
      obtain ⟨pd, HPD⟩ := hid_ex (pwD d)
      rw [HPD.out] at HZ hpf
      rw [HR4.out, HPD.out] at C4
      obtain ⟨pf, pr, pa, pdd⟩ := pd
      obtain rfl : pf = d.fs := hpf
      go_wp2_with (first | rw [hWB] | refine load_r 26 _ rfl rfl _ rfl R0 Try.underlying26 rfl size26 ?_)
      refine (C4 wb).mono ?_
      rintro e w4 ⟨rfl, hb4⟩
      replace R0 := R0.later hb4
      replace R1 := R1.later hb4
      replace hbel := below_on hbel hb4
      clear C4 hb4
      replace hbel := bel_row hbel (b := w.heap.size) (Nat.le_refl _) #[.slice q d.fs.length c, .int .i64 pr, .int .i64 pa, .bool pdd]
      have R0s := R0
      replace R1 := R1.rowOther (q := w.heap.size) (by omega) #[.slice q d.fs.length c, .int .i64 pr, .int .i64 pa, .bool pdd]
      replace R0 := R0.row #[.slice q d.fs.length c, .int .i64 pr, .int .i64 pa, .bool pdd]
      generalize hW3 : w4.setRow w.heap.size #[.slice q d.fs.length c, .int .i64 pr, .int .i64 pa, .bool pdd] = w5 at R0 R1 hbel
      cases r4
      · have harm : d.arm = 0 := by simpa using HR4.out
        rw [if_pos harm] at HZ
        clear HR4 harm
        obtain rfl := HZ.out
        have R1a := R1.row #[.slice q d.fs.length c, .int .i64 pr, .int .i64 pa, .bool pdd]
        have hb10 := bel_row hbel (b := w.heap.size + 1) (by omega) #[.slice q d.fs.length c, .int .i64 pr, .int .i64 pa, .bool pdd]
        have H9 := H.out _ hb10
        go_wp2_with (first | rw [hW3] | refine store_r rfl 26 _ _ rfl _ _ rfl rfl R0s size26 rfl (by simp [Value.oneCell']) ?_ | refine load_r 26 _ rfl rfl _ rfl R0 Try.underlying26 rfl size26 ?_ | refine store_r rfl 26 _ _ rfl _ _ rfl rfl R1 size26 rfl (by simp [Value.oneCell']) ?_)
        refine bodyPost_ret (results_rt rfl rfl R1a rfl Try.underlying26 size26) rfl (DEPost.mk2 rfl H9 hb10)
      · have harm : ¬ d.arm = 0 := by simpa using HR4.out
        rw [if_neg harm] at HZ
        clear HR4 harm HK HR HF
        obtain rfl := HZ.out
        clear hWB
        go_wp2_with (first | rw [hW3] | refine store_r rfl 26 _ _ rfl _ _ rfl rfl R0s size26 rfl (by simp [Value.oneCell']) ?_)
        have hS : w5.drew.rangeAt w.heap.size 0 [.slice q d.fs.length c, .int .i64 pr, .int .i64 pa, .bool pdd] := fun j v hv => (R0.cell (0 + j)).trans (by simpa using hv)
        have hB : Below w.heap.size w w5.drew := hbel.drew
        replace R1 := R1.drew
        refine HeldI.region (fun w' : World => w'.rangeAt w.heap.size 0 [.slice q d.fs.length c, .int .i64 pr, .int .i64 pa, .bool pdd]) (by kernel_rfl) ?_
        generalize w5.drew = wd at hS hB R1 ⊢
        clear R0 R0s hW3
        refine HeldI.lm 0 size26 (fun _ h => h) Try.underlying26 hS ?_
        refine HeldI.pu 1 hS ?_
        refine HeldI.pu 3 hS ?_
        refine HeldI.pu 5 hS ?_
        refine HeldI.pu 6 hS ?_
        have hba := bel_alloc (Below.refl wd.heap.size wd) (.cells #[] 5)
        have OE := own_empty wd wd.heap.size (Nat.le_refl _)
        refine HeldI.vl (w1 := wd.alloc (.cells #[] 5)) (v := .slice (some ⟨wd.heap.size, 0, none⟩) 0 0) 2 ?hv (range_later hS hba) ?_
        case hv => go_simp
        obtain ⟨v5, w6, hrun, O5, hg5⟩ := run_app (l := []) 22 OE (HU0.out _ (below_on hB hba)) (by show 0 + _ ≤ _; omega) hba.size
        have hb6 : Below wd.heap.size wd w6 := hba.grown hg5 hba.size (fun k' hk' => own_block OE k' hk')
        replace hS := range_later hS hb6
        refine HeldI.ap 4 hrun hS ?_
        replace R1 := R1.later hb6
        replace hbel := below_on hB hb6
        have hu5 : DB w6 v5 b := own_db O5
        obtain ⟨p6, c6, rfl⟩ := SHas.slice hu5
        refine HeldI.pu 7 hS ?_
        have C5 := rWith_any ⟨d.fs, pr, pa, pdd⟩ ⟨x, b, b.length⟩ q c (.slice p6 b.length c6) w6 (H.out w6 hbel) hu5 hl
        refine HeldI.kn 8 C5 ?_
        rintro e w7 ⟨p5, c5, rfl, F5, hb7⟩
        replace hS := range_later hS hb7
        refine ⟨_, rfl, hS, ?_⟩
        replace R1 := R1.later hb7
        replace hbel := below_on hbel hb7
        have F9 := F5.row R1 #[.slice p5 (withF ⟨x, b, b.length⟩ d.fs).length c5, .int .i64 pr, .int .i64 pa, .bool pdd]
        have R1a := R1.row #[.slice p5 (withF ⟨x, b, b.length⟩ d.fs).length c5, .int .i64 pr, .int .i64 pa, .bool pdd]
        have hb10 := bel_row hbel (b := w.heap.size + 1) (by omega) #[.slice p5 (withF ⟨x, b, b.length⟩ d.fs).length c5, .int .i64 pr, .int .i64 pa, .bool pdd]
        refine HeldI.ss 9 (R1.store #[.slice p5 (withF ⟨x, b, b.length⟩ d.fs).length c5, .int .i64 pr, .int .i64 pa, .bool pdd] size26 rfl (by simp [Value.oneCell'])) (range_row (by omega) hS) ?_
        refine HeldI.pu 10 (range_row (by omega) hS) ?_
        refine HeldI.dn ?_
        go_wp2_with fail
        refine bodyPost_ret (results_rt rfl rfl R1a rfl Try.underlying26 size26) rfl ⟨_, _, rfl, F9, hb10⟩
end Go.Proofs.Ytjjncmenkepcoaa
/- The document's answer for layer 22: Append. -/
namespace Go.Proofs.Ytjjncmenkepcoaa
open Go.RowKit

set_option maxHeartbeats 8000000 in
set_option maxRecDepth 100000 in
theorem rAppend_any (d : DV) (sl : Value) (x : ByteArray) (b : List UInt8) (u : Value) (w : World) (h : FHas w sl d.fs) (hu : DB w u b) (hb0 : b.length ≤ 1000000) (ha : d.arm ≤ 9223372036854775807) : Calls Try.prog 15 #[DKV.of sl d, .string x, u] w (DEPost (appD d x b) w) := by
  obtain ⟨z, HZ⟩ := hid_ex (appD d x b)
  rw [HZ.out]
  unfold appD at HZ
  obtain ⟨pu, cu, rfl⟩ := SHas.slice hu
  have HU0 : Hid (∀ w', Below w.heap.size w w' → DB w' (.slice pu b.length cu) b) := fun w' hb => SHas.later hu hb
  clear hu
  obtain ⟨q, c, rfl⟩ := h.slice
  have hml := maxLen_lt h.max
  have H : Hid (∀ w', Below w.heap.size w w' → FHas w' (.slice q d.fs.length c) d.fs) := fun w' hb => h.later hb
  clear h
  have R0 := (rw_new w 26 #[(.slice q d.fs.length c), .int .i64 d.room, .int .i64 d.arm, .bool d.dead]).alloc (.cells #[.slice none 0 0, .int .i64 0, .int .i64 0, .bool false] 26)
  have R1 := rw_next (w.alloc (.cells #[(.slice q d.fs.length c), .int .i64 d.room, .int .i64 d.arm, .bool d.dead] 26)) (b := w.heap.size + 1) (by simp) 26 #[.slice none 0 0, .int .i64 0, .int .i64 0, .bool false]
  have hbel := bel_alloc (bel_alloc (Below.refl w.heap.size w) (.cells #[(.slice q d.fs.length c), .int .i64 d.room, .int .i64 d.arm, .bool d.dead] 26)) (.cells #[.slice none 0 0, .int .i64 0, .int .i64 0, .bool false] 26)
  generalize hW : (w.alloc (.cells #[(.slice q d.fs.length c), .int .i64 d.room, .int .i64 d.arm, .bool d.dead] 26)).alloc (.cells #[.slice none 0 0, .int .i64 0, .int .i64 0, .bool false] 26) = w0 at R0 R1 hbel
  obtain ⟨e0, HE⟩ := hid_ex (askD d x)
  have C1 := rAsk_any d _ x w0 (H.out w0 hbel)
  rw [HE.out] at C1
  go_enter Try.func15, Try.ntmps15
  go_wp2_with (first | rw [hW] | refine load_r 26 _ rfl rfl _ rfl R0 Try.underlying26 rfl size26 ?_)
  clear hW
  refine C1.mono ?_
  rintro e w1 ⟨rfl, hb1⟩
  replace R0 := R0.later hb1
  replace R1 := R1.later hb1
  replace hbel := below_on hbel hb1
  clear C1 hb1
  by_cases h0 : e0 = 0
  case neg =>
    have g0 : (e0 == 0) = false := by rw [beq_eq_false_iff_ne]; exact h0
    obtain rfl := (show (d, e0) = z by rw [← HZ.out, HE.out, if_pos h0])
    have R1a := R1.row #[(.slice q d.fs.length c), .int .i64 d.room, .int .i64 d.arm, .bool d.dead]
    have hb10 := bel_row hbel (b := w.heap.size + 1) (by omega) #[(.slice q d.fs.length c), .int .i64 d.room, .int .i64 d.arm, .bool d.dead]
    have H9 := H.out _ hb10
    go_wp2_with (first | refine load_r 26 _ rfl rfl _ rfl R0 Try.underlying26 rfl size26 ?_ | refine store_r rfl 26 _ _ rfl _ _ rfl rfl R1 size26 rfl (by simp [Value.oneCell']) ?_)
    refine bodyPost_ret (results_rt rfl rfl R1a rfl Try.underlying26 size26) rfl (DEPost.mk2 rfl H9 hb10)
  subst h0
  have HCK : Hid (ckD d = true) := (ask_ok HE.out).1
  rw [HE.out, if_neg (show ¬ (0 : Int) ≠ 0 from fun h => h rfl)] at HZ
  clear HE
  have hcd := (ckD_iff d).1 HCK.out
  have hr1 := hcd.1
  have hr2 := hcd.2.1
  have hus : us d.fs ≤ 1000000000 := by have := hcd.2.2.2.2.2.2; omega
  have hl : d.fs.length ≤ 1000 := by have := hcd.2.2.2.1; omega
  have hus3 : us d.fs ≤ 1048576 := by have := hcd.2.2.2.2.2.2; have := hcd.2.1; omega
  have hfu := fi_us d.fs x
  clear hcd
  have C3 := fun w' (hb : Below w.heap.size w w') => rFile_any d _ x ((b.length : Int)) w' (H.out w' hb) hr1 hr2 hus
  unfold FiPost at C3
  obtain ⟨f, HF⟩ := hid_ex (fiF d.fs x)
  simp only [HF.out] at C3
  obtain ⟨r, HR⟩ := hid_ex (fit d x ((b.length : Int)))
  simp only [HR.out] at C3
  rw [HF.out] at hfu
  rw [HF.out, HR.out] at HZ
  have hfx : f.x = x := by
    rw [← HF.out]
    rcases find_pl d.fs x with ⟨_, h2⟩ | ⟨g, h1, _, h2, _⟩
    · rw [fi_none (by omega)]
    · unfold fiF
      rw [h1]
      exact h2
  subst hfx
  go_wp2_with (first | refine load_r 26 _ rfl rfl _ rfl R0 Try.underlying26 rfl size26 ?_)
  refine (C3 _ hbel).mono ?_
  rintro e w3 ⟨u2, rfl, a2, hb3⟩
  obtain ⟨p2, c2, rfl⟩ := SHas.slice a2
  replace R0 := R0.later hb3
  replace R1 := R1.later hb3
  replace hbel := below_on hbel hb3
  have hfb : w.heap.size + 1 < w3.heap.size := R1.lt
  have hba := bel_alloc (Below.refl w3.heap.size w3) (.cells #[.string f.x, .slice p2 f.d.length c2, .int .i64 f.k] 57)
  have RB := rw_new w3 57 #[.string f.x, .slice p2 f.d.length c2, .int .i64 f.k]
  replace R0 := R0.later hba
  replace R1 := R1.later hba
  replace hbel := below_on hbel hba
  have a2b := SHas.later a2 hba
  clear C3 hb3
  generalize hWB : w3.alloc (.cells #[.string f.x, .slice p2 f.d.length c2, .int .i64 f.k] 57) = wb at R0 R1 RB hbel hba a2b
  cases r
  · rw [if_pos rfl] at HZ
    obtain rfl := HZ.out
    have R1a := R1.row #[(.slice q d.fs.length c), .int .i64 d.room, .int .i64 d.arm, .bool d.dead]
    have hb10 := bel_row hbel (b := w.heap.size + 1) (by omega) #[(.slice q d.fs.length c), .int .i64 d.room, .int .i64 d.arm, .bool d.dead]
    have H9 := H.out _ hb10
    go_wp2_with (first | rw [hWB] | refine load_r 26 _ rfl rfl _ rfl R0 Try.underlying26 rfl size26 ?_ | refine store_r rfl 26 _ _ rfl _ _ rfl rfl R1 size26 rfl (by simp [Value.oneCell']) ?_)
    refine bodyPost_ret (results_rt rfl rfl R1a rfl Try.underlying26 size26) rfl (DEPost.mk2 rfl H9 hb10)
  · rw [if_neg (by simp)] at HZ
    have C4 := fun w' : World => rPower_any d q c w' ha
    obtain ⟨r4, HR4⟩ := hid_ex (!decide (d.arm = 0))
    have hpf := pw_fs d
    obtain ⟨pd, HPD⟩ := hid_ex (pwD d)
    rw [HPD.out] at HZ hpf
    rw [HR4.out, HPD.out] at C4
    obtain ⟨pf, pr, pa, pdd⟩ := pd
    obtain rfl : pf = d.fs := hpf
    go_wp2_with (first | rw [hWB] | refine load_r 26 _ rfl rfl _ rfl R0 Try.underlying26 rfl size26 ?_)
    refine (C4 wb).mono ?_
    rintro e w4 ⟨rfl, hb4⟩
    replace R0 := R0.later hb4
    replace R1 := R1.later hb4
    replace RB := RB.later hb4
    replace hbel := below_on hbel hb4
    replace a2 := SHas.later a2b hb4
    clear C4 a2b hWB
    replace hbel := bel_row hbel (b := w.heap.size) (Nat.le_refl _) #[.slice q d.fs.length c, .int .i64 pr, .int .i64 pa, .bool pdd]
    have R0s := R0
    replace R1 := R1.rowOther (q := w.heap.size) (by omega) #[.slice q d.fs.length c, .int .i64 pr, .int .i64 pa, .bool pdd]
    replace RB := RB.rowOther (q := w.heap.size) (by omega) #[.slice q d.fs.length c, .int .i64 pr, .int .i64 pa, .bool pdd]
    replace R0 := R0.row #[.slice q d.fs.length c, .int .i64 pr, .int .i64 pa, .bool pdd]
    -- the bytes that the file has lie apart from the box of the disk
    have hoff : ∀ a m c, Value.slice p2 f.d.length c2 = .slice (some a) m c → 0 < m → a.block ≠ w.heap.size := fun a m c e hm e2 => by
      obtain ⟨p', c', e3⟩ := SHas.slice a2
      simp only [Value.slice.injEq] at e
      obtain ⟨rfl, rfl, rfl⟩ := e
      obtain ⟨g, o, e, hd⟩ := SHas.at a2 hm
      simp only [Option.some.injEq] at e
      subst e
      have h5 := hd 0 (.int .u8 (f.d[0]).toNat) (by simp [cel, List.getElem?_eq_getElem hm])
      rw [show g = w.heap.size from e2, R0s.cell] at h5
      exact (dk_cells _ ⟨_, _, _, rfl⟩ _ _ _ _ _ h5).2 _ rfl
    replace a2 := SHas.row a2 hoff #[.slice q d.fs.length c, .int .i64 pr, .int .i64 pa, .bool pdd]
    clear hoff
    generalize hW3 : w4.setRow w.heap.size #[.slice q d.fs.length c, .int .i64 pr, .int .i64 pa, .bool pdd] = w5 at R0 R1 RB hbel a2
    obtain ⟨r5, HR5⟩ := hid_ex (decide (d.arm = 0))
    have hr45 : r4 = !r5 := by rw [← HR4.out, ← HR5.out]
    have HZ2 : Hid (z = (⟨withF ⟨f.x, f.d ++ b, f.k⟩ d.fs, pr, pa, pdd⟩, if r5 = true then 220 else 0)) := by
      show _ = _
      rw [← HZ.out]
      by_cases e : d.arm = 0
      · rw [← HR5.out, decide_eq_true e, if_pos e]
        rfl
      · rw [← HR5.out, decide_eq_false e, if_neg e]
        rfl
    clear HZ HR4 HR5 HF HR
    subst hr45
    have hba5 := bel_alloc (Below.refl w5.heap.size w5) (.cells #[] 5)
    have OE := own_empty w5 w5.heap.size (Nat.le_refl _)
    have k1 : w5.cell? ⟨w3.heap.size, 1, none⟩ = some (.slice p2 f.d.length c2) := RB.cell 1
    have k1e := cell_later hba5 k1
    have ae := SHas.later a2 hba5
    have hfb5 : w3.heap.size < w5.heap.size := RB.lt
    have hbe := below_on hbel hba5
    have R0e := R0.later hba5
    have R1e := R1.later hba5
    have RBe := RB.later hba5
    go_upto_region 8 with (first | rw [hW3] | refine store_r rfl 26 _ _ rfl _ _ rfl rfl R0s size26 rfl (by simp [Value.oneCell']) ?_)
    go_wp2_with (at_builtin; refine append_db (l := []) rfl _ _ rfl rfl rfl OE ae (by show 0 + _ ≤ _; omega) hba5.size ?_)
    intro v1 w6 O1 hg1
    have hb6 : Below w5.heap.size w5 w6 := hba5.grown hg1 hba5.size (fun k' hk' => own_block OE k' hk')
    have hb6e : Below w.heap.size w w6 := below_on hbel hb6
    have hu6 := HU0.out w6 hb6e
    clear R0e R1e RBe hbe ae k1e OE hg1 hba5
    go_wp2_with (first | (at_builtin; refine append_db rfl _ _ rfl rfl rfl O1 hu6 (by show f.d.length + _ ≤ _; omega) hb6.size ?_))
    intro v6 w7 O2 hg2
    have hb7 : Below w5.heap.size w5 w7 := hb6.grown hg2 hb6.size (fun k' hk' => own_block O1 k' hk')
    replace R0 := R0.later hb7
    replace R1 := R1.later hb7
    replace RB := RB.later hb7
    replace hbel := below_on hbel hb7
    clear O1 hg2 hb6 hb6e hu6 k1 hW3 R0s a2 hba
    have O2' : w7.ownsRow w5.heap.size 5 1 v6 (f.d ++ b).length (cel (f.d ++ b)) := by rw [List.length_append]; exact O2
    obtain ⟨p6, c6, rfl⟩ := own_sl O2
    have hu7 : DB w7 (.slice p6 (f.d.length + b.length) c6) (f.d ++ b) := own_db O2'
    have hof7 : Off w3.heap.size (.slice p6 (f.d.length + b.length) c6) := own_off O2' hfb5
    have k1 : w7.cell? ⟨w3.heap.size, 1, none⟩ = some (.slice p2 f.d.length c2) := RB.cell 1
    have e1 : w7.frozen? ⟨w3.heap.size, 1, none⟩ = false := RB.frozen 1
    have RB2 : Rw (w7.setCell ⟨w3.heap.size, 1, none⟩ (.slice p6 (f.d.length + b.length) c6)) w3.heap.size 57 #[.string f.x, .slice p6 (f.d.length + b.length) c6, .int .i64 f.k] := RB.set 1 _
    have R0b := R0.setOther (q := w3.heap.size) (by omega) 1 (.slice p6 (f.d.length + b.length) c6)
    have R1b := R1.setOther (q := w3.heap.size) (by omega) 1 (.slice p6 (f.d.length + b.length) c6)
    have hbelb := bel_set hbel (i := 1) (b := w3.heap.size) (by omega) (.slice p6 (f.d.length + b.length) c6)
    have hu8 := SHas.grown (by decide) hu7 (grown_cell w7 w3.heap.size 1 (.slice p6 (f.d.length + b.length) c6)) (fun b' hb' => by simp only [Option.some.injEq] at hb'; exact hb' ▸ hof7)
    generalize hW8 : w7.setCell ⟨w3.heap.size, 1, none⟩ (.slice p6 (f.d.length + b.length) c6) = w8 at RB2 R0b R1b hbelb hu8
    have C5 := rWith_any ⟨d.fs, pr, pa, pdd⟩ ⟨f.x, f.d ++ b, f.k⟩ q c (.slice p6 (f.d.length + b.length) c6) w8 (H.out w8 hbelb) hu8 hl
    clear R0 R1 RB hbel O2 O2' hof7
    go_wp2_with (first | rw [hW8] | refine load_r 26 _ rfl rfl _ rfl R0b Try.underlying26 rfl size26 ?_ | refine load_r 57 _ rfl rfl _ rfl RB2 Try.underlying57 rfl sizeF ?_)
    refine C5.mono ?_
    rintro e w9 ⟨p5, c5, rfl, F5, hb9⟩
    have R0 := R0b.later hb9
    have R1 := R1b.later hb9
    have hbel := below_on hbelb hb9
    have F6 := F5.row R0 #[.slice p5 (withF ⟨f.x, f.d ++ b, f.k⟩ d.fs).length c5, .int .i64 pr, .int .i64 pa, .bool pdd]
    have R0s := R0
    replace hbel := bel_row hbel (b := w.heap.size) (Nat.le_refl _) #[.slice p5 (withF ⟨f.x, f.d ++ b, f.k⟩ d.fs).length c5, .int .i64 pr, .int .i64 pa, .bool pdd]
    replace R1 := R1.rowOther (q := w.heap.size) (by omega) #[.slice p5 (withF ⟨f.x, f.d ++ b, f.k⟩ d.fs).length c5, .int .i64 pr, .int .i64 pa, .bool pdd]
    replace R0 := R0.row #[.slice p5 (withF ⟨f.x, f.d ++ b, f.k⟩ d.fs).length c5, .int .i64 pr, .int .i64 pa, .bool pdd]
    generalize hWA : w9.setRow w.heap.size #[.slice p5 (withF ⟨f.x, f.d ++ b, f.k⟩ d.fs).length c5, .int .i64 pr, .int .i64 pa, .bool pdd] = wa at R0 R1 hbel F6
    have F9 := F6.row R1 #[.slice p5 (withF ⟨f.x, f.d ++ b, f.k⟩ d.fs).length c5, .int .i64 pr, .int .i64 pa, .bool pdd]
    have R1a := R1.row #[.slice p5 (withF ⟨f.x, f.d ++ b, f.k⟩ d.fs).length c5, .int .i64 pr, .int .i64 pa, .bool pdd]
    have hb10 := bel_row hbel (b := w.heap.size + 1) (by omega) #[.slice p5 (withF ⟨f.x, f.d ++ b, f.k⟩ d.fs).length c5, .int .i64 pr, .int .i64 pa, .bool pdd]
    clear F5 hb9 C5 hW8 R0b R1b RB2 hbelb hu8 hu7
    cases r5
    · obtain rfl := HZ2.out
      go_wp2_with (first | rw [hWA] | refine store_r rfl 26 _ _ rfl _ _ rfl rfl R0s size26 rfl (by simp [Value.oneCell']) ?_ | refine load_r 26 _ rfl rfl _ rfl R0 Try.underlying26 rfl size26 ?_ | refine store_r rfl 26 _ _ rfl _ _ rfl rfl R1 size26 rfl (by simp [Value.oneCell']) ?_)
      refine bodyPost_ret (results_rt rfl rfl R1a rfl Try.underlying26 size26) rfl ⟨_, _, rfl, F9, hb10⟩
    · obtain rfl := HZ2.out
      go_wp2_with (first | rw [hWA] | refine store_r rfl 26 _ _ rfl _ _ rfl rfl R0s size26 rfl (by simp [Value.oneCell']) ?_ | refine load_r 26 _ rfl rfl _ rfl R0 Try.underlying26 rfl size26 ?_ | refine store_r rfl 26 _ _ rfl _ _ rfl rfl R1 size26 rfl (by simp [Value.oneCell']) ?_)
      refine bodyPost_ret (results_rt rfl rfl R1a rfl Try.underlying26 size26) rfl ⟨_, _, rfl, F9, hb10⟩
end Go.Proofs.Ytjjncmenkepcoaa
/- The document's answer for layer 22: Same of equal ones, Few, Names; and bytes and texts that are equal. -/
namespace Go.Proofs.Ytjjncmenkepcoaa
open Go.RowKit

theorem run_string {w : World} {p : Option Addr} {c : Nat} {l : List UInt8} (h : DB w (.slice p l.length c) l) : (convert 22 9 (.slice p l.length c)).run Try.prog w = .ok (.string ⟨l.toArray⟩) w := by
  rcases Nat.eq_zero_or_pos l.length with hz | hz
  · obtain rfl : l = [] := List.eq_nil_of_length_eq_zero hz
    rw [run_convert_bytes_string w 22 9 5 _ _ c Try.underlying22 Try.underlying5 Try.underlying9]
    cases p <;> simp [Conv.bytesToString, loadCells]
    all_goals rfl
  · obtain ⟨b, o, rfl, hd⟩ := SHas.at h hz
    have hc : ∀ j (hj : j < l.length), w.cell? ⟨b, o + j, none⟩ = some (.int .u8 (l[j]).toNat) := fun j hj => hd j _ (by simp [cel, List.getElem?_eq_getElem hj])
    have := run_convert_bytes_arg (P := Try.prog) w 22 5 Try.underlying22 Try.underlying5 b o l.length c (l.map fun x => (x.toNat : Int)) (by simp) (fun i hi => by
      rw [hc i hi]; simp [List.getD, List.getElem?_eq_getElem hi]) 9 Try.underlying9
    rw [this]
    congr 2
    apply ByteArray.ext
    apply Array.toList_inj.1
    rw [strOfNums_data, List.map_map]
    show _ = l
    conv => rhs; rw [← List.map_id l]
    apply List.map_congr_left
    intro x _
    simp
theorem rBytes_any (v u : Value) (l : List UInt8) (w : World) (hv : DB w v l) (hu : DB w u l) : Calls Try.prog 24 #[v, u] w (Tells (.bool true) w) := by
  obtain ⟨p, c, rfl⟩ := SHas.slice hv
  obtain ⟨q, d, rfl⟩ := SHas.slice hu
  have h1 := run_string hv
  have h2 := run_string hu
  clear hv hu
  go_enter Try.func24, Try.ntmps24
  go_wp2
  go_ret
  exact ⟨rfl, Below.refl _ _⟩
/-- Is a disk not great? -/
def fewF (l : List FV) : Bool := decide (∀ k (h : k < l.length), l[k].x.size ≤ 100 ∧ l[k].d.length + us (l.take k) ≤ 40000)
def fewD (l : List FV) : Bool := decide (l.length ≤ 80) && fewF l
theorem fewF_not {l : List FV} {k : Nat} (h : k < l.length) (h2 : ¬ (l[k].x.size ≤ 100 ∧ l[k].d.length + us (l.take k) ≤ 40000)) : fewF l = false := decide_eq_false fun e => h2 (e k h)
set_option maxHeartbeats 4000000 in
set_option maxRecDepth 100000 in
theorem rFew_any (d : DV) (sl : Value) (w : World) (h : FHas w sl d.fs) : Calls Try.prog 12 #[DKV.of sl d] w (Tells (.bool (fewD d.fs)) w) := by
  obtain ⟨q, c, rfl⟩ := h.slice
  have hml := maxLen_lt h.max
  obtain ⟨z, HZ⟩ := hid_ex (fewD d.fs)
  rw [HZ.out]
  have H : Hid (FHas w (.slice q d.fs.length c) d.fs) := h
  clear h
  have R0 := rw_new w 26 #[(.slice q d.fs.length c), .int .i64 d.room, .int .i64 d.arm, .bool d.dead]
  have hbel := bel_alloc (Below.refl w.heap.size w) (.cells #[(.slice q d.fs.length c), .int .i64 d.room, .int .i64 d.arm, .bool d.dead] 26)
  generalize hW : w.alloc (.cells #[(.slice q d.fs.length c), .int .i64 d.room, .int .i64 d.arm, .bool d.dead] 26) = w0 at R0 hbel
  go_enter Try.func12, Try.ntmps12
  go_wp2_with (rw [hW])
  clear hW
  by_cases h80 : d.fs.length ≤ 80
  · have g80 : ¬ (80 : Int) < (d.fs.length : Int) := by omega
    have g80b : (d.fs.length : Int) ≤ 80 := by omega
    have HZ2 : Hid (fewF d.fs = z) := by
      show _ = _
      rw [← HZ.out]
      unfold fewD
      rw [decide_eq_true h80, Bool.true_and]
    clear HZ
    go_loopw [3, 4] (fun vn vi wr => ∃ k : Nat, vi = .int .i64 k ∧ vn = .int .i64 (us (d.fs.take k)) ∧ k ≤ d.fs.length ∧ Hid (∀ i (h : i < d.fs.length), i < k → d.fs[i].x.size ≤ 100 ∧ d.fs[i].d.length + us (d.fs.take i) ≤ 40000) ∧ us (d.fs.take k) ≤ 40000 ∧ Rw wr w.heap.size 26 #[(.slice q d.fs.length c), .int .i64 d.room, .int .i64 d.arm, .bool d.dead] ∧ Below w.heap.size w wr) (fun _ vi _ => d.fs.length - (intOf vi).toNat)
    case atStart => exact ⟨0, rfl, rfl, by omega, (show ∀ i (h : i < d.fs.length), i < 0 → _ from fun i _ h => by omega), Nat.zero_le _, R0, hbel⟩
    case round =>
      clear R0 hbel
      obtain ⟨k, rfl, rfl, hk, HK, hur, R0, hbel⟩ := hrel
      have k0 : wr.cell? ⟨w.heap.size, 0, none⟩ = some (.slice q d.fs.length c) := R0.cell 0
      by_cases hlt : k < d.fs.length
      · have hlt' : (k : Int) < (d.fs.length : Int) := by omega
        obtain ⟨g, o, s1, rfl, d00, a0⟩ := H.out.at k hlt
        have d0 := range_later d00 hbel
        obtain ⟨p1, c1, rfl⟩ := SHas.slice a0
        obtain ⟨c0, c2, _⟩ := f_cells d0
        have HS := us_take_succ hlt
        have hno : Hid (¬ (d.fs[k].x.size ≤ 100 ∧ d.fs[k].d.length + us (d.fs.take k) ≤ 40000) → fewF d.fs = false) := fewF_not hlt
        have hmf := maxLen_lt a0.1
        obtain ⟨f, HF⟩ := hid_ex d.fs[k]
        obtain ⟨u, HU⟩ := hid_ex (us (d.fs.take k))
        rw [HF.out] at c0 c2 HS hmf
        rw [HU.out] at HS hur ⊢
        rw [show d.fs[k].d.length = f.d.length by rw [HF.out]] at *
        have HS2 : Hid (us (d.fs.take (k + 1)) = u + f.d.length) := HS
        clear d0 d00 a0 HS
        have ew : IntKind.i64.wrap (40000 - (u : Int)) = 40000 - (u : Int) := by rw [IntKind.wrap_i64]; omega
        by_cases h1 : (100 : Int) < (f.x.size : Int)
        · obtain rfl : false = z := by
            rw [← HZ2.out]
            exact (hno.out (fun e => by rw [HF.out] at e; omega)).symm
          clear hno HK HS2 HU HF
          go_wp2_with fail
          go_ret
          exact ⟨rfl, hbel⟩
        · by_cases h2 : 40000 - (u : Int) < (f.d.length : Int)
          · obtain rfl : false = z := by
              rw [← HZ2.out]
              exact (hno.out (fun e => by rw [HF.out, HU.out] at e; omega)).symm
            clear hno HK HS2 HU HF
            go_wp2_with fail
            go_ret
            exact ⟨rfl, hbel⟩
          · have HK2 : Hid (∀ i (h : i < d.fs.length), i < k + 1 → d.fs[i].x.size ≤ 100 ∧ d.fs[i].d.length + us (d.fs.take i) ≤ 40000) := fun i hi hik => by
              rcases Nat.lt_or_ge i k with h' | h'
              · exact HK.out i hi h'
              · obtain rfl : i = k := by omega
                rw [HF.out, HU.out]
                omega
            have hu4 : u + f.d.length ≤ 40000 := by omega
            clear hno HK HU HF
            go_wp2_with fail
            go_roundw
            case rel => exact ⟨k + 1, by simp, by rw [HS2.out]; simp, by omega, HK2, by rw [HS2.out]; exact hu4, R0, hbel⟩
            case measure => simp [intOf]; omega
      · have hlt' : ¬ (k : Int) < (d.fs.length : Int) := by omega
        obtain rfl : true = z := by
          rw [← HZ2.out]
          exact (decide_eq_true fun i hi => HK.out i hi (by omega)).symm
        clear HK HZ2
        go_wp2_with fail
        go_ret
        exact ⟨rfl, hbel⟩
  · have g80 : (80 : Int) < (d.fs.length : Int) := by omega
    have g80b : ¬ (d.fs.length : Int) ≤ 80 := by omega
    obtain rfl : false = z := by
      rw [← HZ.out]
      unfold fewD
      rw [decide_eq_false h80]
      rfl
    go_loopw [3, 4] (fun vn vi wr => vi = .int .i64 0 ∧ Rw wr w.heap.size 26 #[(.slice q d.fs.length c), .int .i64 d.room, .int .i64 d.arm, .bool d.dead] ∧ Below w.heap.size w wr) (fun _ _ _ => 0)
    case atStart => exact ⟨rfl, R0, hbel⟩
    case round =>
      clear R0 hbel
      obtain ⟨rfl, R0, hbel⟩ := hrel
      have k0 : wr.cell? ⟨w.heap.size, 0, none⟩ = some (.slice q d.fs.length c) := R0.cell 0
      go_wp2_with fail
      go_ret
      exact ⟨rfl, hbel⟩
set_option maxHeartbeats 8000000 in
set_option maxRecDepth 100000 in
theorem rSame_any (d : DV) (va vb : Value) (w : World) (ha : DHas w va d) (hb : DHas w vb d) : Calls Try.prog 16 #[va, vb] w (Tells (.bool true) w) := by
  obtain ⟨s1, rfl, ha⟩ := ha
  obtain ⟨s2, rfl, hb⟩ := hb
  obtain ⟨q, c, rfl⟩ := ha.slice
  obtain ⟨q2, c2, rfl⟩ := hb.slice
  have hml := maxLen_lt ha.max
  have H : Hid (∀ w', Below w.heap.size w w' → FHas w' (.slice q d.fs.length c) d.fs) := fun w' hb => ha.later hb
  have H2 : Hid (∀ w', Below w.heap.size w w' → FHas w' (.slice q2 d.fs.length c2) d.fs) := fun w' hb' => hb.later hb'
  clear ha hb
  have R0 := (rw_new w 26 #[.slice q d.fs.length c, .int .i64 d.room, .int .i64 d.arm, .bool d.dead]).alloc (.cells #[.slice q2 d.fs.length c2, .int .i64 d.room, .int .i64 d.arm, .bool d.dead] 26)
  have R1 := rw_next (w.alloc (.cells #[.slice q d.fs.length c, .int .i64 d.room, .int .i64 d.arm, .bool d.dead] 26)) (b := w.heap.size + 1) (by simp) 26 #[.slice q2 d.fs.length c2, .int .i64 d.room, .int .i64 d.arm, .bool d.dead]
  have hbel := bel_alloc (bel_alloc (Below.refl w.heap.size w) (.cells #[.slice q d.fs.length c, .int .i64 d.room, .int .i64 d.arm, .bool d.dead] 26)) (.cells #[.slice q2 d.fs.length c2, .int .i64 d.room, .int .i64 d.arm, .bool d.dead] 26)
  generalize hW : (w.alloc (.cells #[.slice q d.fs.length c, .int .i64 d.room, .int .i64 d.arm, .bool d.dead] 26)).alloc (.cells #[.slice q2 d.fs.length c2, .int .i64 d.room, .int .i64 d.arm, .bool d.dead] 26) = w0 at R0 R1 hbel
  have a0 : w0.cell? ⟨w.heap.size, 0, none⟩ = some (.slice q d.fs.length c) := R0.cell 0
  have a1 : w0.cell? ⟨w.heap.size, 1, none⟩ = some (.int .i64 d.room) := R0.cell 1
  have a2 : w0.cell? ⟨w.heap.size, 2, none⟩ = some (.int .i64 d.arm) := R0.cell 2
  have a3 : w0.cell? ⟨w.heap.size, 3, none⟩ = some (.bool d.dead) := R0.cell 3
  have b0 : w0.cell? ⟨w.heap.size + 1, 0, none⟩ = some (.slice q2 d.fs.length c2) := R1.cell 0
  have b1 : w0.cell? ⟨w.heap.size + 1, 1, none⟩ = some (.int .i64 d.room) := R1.cell 1
  have b2 : w0.cell? ⟨w.heap.size + 1, 2, none⟩ = some (.int .i64 d.arm) := R1.cell 2
  have b3 : w0.cell? ⟨w.heap.size + 1, 3, none⟩ = some (.bool d.dead) := R1.cell 3
  go_enter Try.func16, Try.ntmps16
  go_wp2_with (rw [hW])
  clear hW a0 a1 a2 a3 b0 b1 b2 b3
  go_loopw [5] (fun vi wr => ∃ k : Nat, vi = .int .i64 k ∧ k ≤ d.fs.length ∧ Rw wr w.heap.size 26 #[.slice q d.fs.length c, .int .i64 d.room, .int .i64 d.arm, .bool d.dead] ∧ Rw wr (w.heap.size + 1) 26 #[.slice q2 d.fs.length c2, .int .i64 d.room, .int .i64 d.arm, .bool d.dead] ∧ Below w.heap.size w wr) (fun vi _ => d.fs.length - (intOf vi).toNat)
  case atStart => exact ⟨0, rfl, by omega, R0, R1, hbel⟩
  case round =>
    clear R0 R1 hbel
    obtain ⟨k, rfl, hk, R0, R1, hbel⟩ := hrel
    have k0 : wr.cell? ⟨w.heap.size, 0, none⟩ = some (.slice q d.fs.length c) := R0.cell 0
    have k1 : wr.cell? ⟨w.heap.size + 1, 0, none⟩ = some (.slice q2 d.fs.length c2) := R1.cell 0
    by_cases hlt : k < d.fs.length
    · have hlt' : (k : Int) < (d.fs.length : Int) := by omega
      obtain ⟨g, o, s1, rfl, d1, e1⟩ := (H.out wr hbel).at k hlt
      obtain ⟨g2, o2, s2, rfl, d2, e2⟩ := (H2.out wr hbel).at k hlt
      obtain ⟨f, HF⟩ := hid_ex d.fs[k]
      rw [HF.out] at d1 d2 e1 e2
      obtain ⟨p1, c1, rfl⟩ := SHas.slice e1
      obtain ⟨p2, c3, rfl⟩ := SHas.slice e2
      clear HF
      go_wp2_with fail
      refine Calm.region (by kernel_rfl) (by kernel_rfl) (fun w' : World => w'.cell? ⟨w.heap.size, 0, none⟩ = some (.slice (some ⟨g, o, none⟩) d.fs.length c) ∧ w'.cell? ⟨w.heap.size + 1, 0, none⟩ = some (.slice (some ⟨g2, o2, none⟩) d.fs.length c2) ∧ w'.rangeAt g (o + k * 3) [.string f.x, .slice p1 f.d.length c1, .int .i64 f.k] ∧ w'.rangeAt g2 (o2 + k * 3) [.string f.x, .slice p2 f.d.length c3, .int .i64 f.k] ∧ DB w' (.slice p1 f.d.length c1) f.d ∧ DB w' (.slice p2 f.d.length c3) f.d ∧ Below wr.heap.size wr w') ⟨k0, k1, d1, d2, e1, e2, (Below.refl _ _).drew⟩ ?_
      refine Calm.pu ?_
      refine Calm.ce (fun _ h => h.1) ?_
      iterate 3 (refine Calm.pu ?_)
      refine Calm.ce (fun _ h => (f_cells h.2.2.1).1) ?_
      refine Calm.pu ?_
      refine Calm.ce (fun _ h => h.2.1) ?_
      iterate 3 (refine Calm.pu ?_)
      refine Calm.ce (fun _ h => (f_cells h.2.2.2.1).1) ?_
      iterate 3 (refine Calm.pu ?_)
      refine Calm.ce (fun _ h => h.1) ?_
      iterate 3 (refine Calm.pu ?_)
      refine Calm.ce (fun _ h => (f_cells h.2.2.1).2.2) ?_
      refine Calm.pu ?_
      refine Calm.ce (fun _ h => h.2.1) ?_
      iterate 3 (refine Calm.pu ?_)
      refine Calm.ce (fun _ h => (f_cells h.2.2.2.1).2.2) ?_
      iterate 4 (refine Calm.pu ?_)
      refine Calm.ce (fun _ h => h.1) ?_
      iterate 3 (refine Calm.pu ?_)
      refine Calm.ce (fun _ h => (f_cells h.2.2.1).2.1) ?_
      refine Calm.cl (fun _ h => run_string h.2.2.2.2.1) ?_
      refine Calm.pu ?_
      refine Calm.ce (fun _ h => h.2.1) ?_
      iterate 3 (refine Calm.pu ?_)
      refine Calm.ce (fun _ h => (f_cells h.2.2.2.1).2.1) ?_
      refine Calm.cl (fun _ h => run_string h.2.2.2.2.2.1) ?_
      iterate 2 (refine Calm.pu ?_)
      intro w6 hS6
      have hb6 := hS6.2.2.2.2.2.2
      clear hS6 k0 k1 d1 d2 e1 e2
      go_wp2_with fail
      go_roundw
      case rel => exact ⟨k + 1, by simp, by omega, R0.later hb6, R1.later hb6, below_on hbel hb6⟩
      case measure => simp [intOf]; omega
    · have hlt' : ¬ (k : Int) < (d.fs.length : Int) := by omega
      go_wp2_with fail
      go_ret
      exact ⟨rfl, hbel⟩
end Go.Proofs.Ytjjncmenkepcoaa
