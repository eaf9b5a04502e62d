import Derived.Test.YtjjncmenkepcoaaP17
import Derived.Test.YtjjncmenkepcoaaP12
/- Whether acts are few and small; what acts leave of a disk. -/
namespace Go.Proofs.Ytjjncmenkepcoaa
open Go.RowKit

set_option maxHeartbeats 4000000 in
set_option maxRecDepth 100000 in
theorem small_any (l : List AV) (sl : Value) (w : World) (h : AHas w sl l) : Calls Try.prog 31 #[sl] w (Tells (.bool (smA l)) w) := by
  obtain ⟨q, c, rfl⟩ := h.slice
  have hml := maxLen_lt h.max
  obtain ⟨z, HZ⟩ := hid_ex (smA l)
  rw [HZ.out]
  have H : Hid (AHas w (.slice q l.length c) l) := h
  clear h
  go_enter Try.func31, Try.ntmps31
  go_wp2_with fail
  by_cases h80 : l.length ≤ 60
  · have g80 : ¬ (60 : Int) < (l.length : Int) := by omega
    have g80b : (l.length : Int) ≤ 60 := by omega
    have HZ2 : Hid (smF l = z) := by
      show _ = _
      rw [← HZ.out]
      unfold smA
      rw [decide_eq_true h80, Bool.true_and]
    clear HZ
    go_loopw [3, 4] (fun vn vi wr => ∃ k : Nat, vi = .int .i64 k ∧ vn = .int .i64 (asu (l.take k)) ∧ k ≤ l.length ∧ Hid (∀ i (h : i < l.length), i < k → l[i].x.size ≤ 100 ∧ l[i].d.length + asu (l.take i) ≤ 6000) ∧ asu (l.take k) ≤ 6000 ∧ Below w.heap.size w wr) (fun _ vi _ => l.length - (intOf vi).toNat)
    case atStart => exact ⟨0, rfl, rfl, by omega, (show ∀ i (h : i < l.length), i < 0 → _ from fun i _ h => by omega), Nat.zero_le _, Below.refl _ _⟩
    case round =>
      obtain ⟨k, rfl, rfl, hk, HK, hur, hbel⟩ := hrel
      by_cases hlt : k < l.length
      · have hlt' : (k : Int) < (l.length : Int) := by omega
        obtain ⟨g, o, s1, rfl, d00, a0⟩ := H.out.at k hlt
        have d0 := range_later d00 hbel
        obtain ⟨p1, c1, rfl⟩ := SHas.slice a0
        have c0 : wr.cell? ⟨g, o + k * 4 + 1, none⟩ = some (.string l[k].x) := d0 1 _ rfl
        have c2 : wr.cell? ⟨g, o + k * 4 + 2, none⟩ = some (.slice p1 l[k].d.length c1) := d0 2 _ rfl
        have HS := asu_take_succ hlt
        have hno : Hid (¬ (l[k].x.size ≤ 100 ∧ l[k].d.length + asu (l.take k) ≤ 6000) → smF l = false) := smF_not hlt
        have hmf := maxLen_lt a0.1
        obtain ⟨f, HF⟩ := hid_ex l[k]
        obtain ⟨u, HU⟩ := hid_ex (asu (l.take k))
        rw [HF.out] at c0 c2 HS hmf
        rw [HU.out] at HS hur ⊢
        have HS2 : Hid (asu (l.take (k + 1)) = u + f.d.length) := HS
        clear d0 d00 a0 HS
        have ew : IntKind.i64.wrap (6000 - (u : Int)) = 6000 - (u : Int) := by rw [IntKind.wrap_i64]; omega
        by_cases h1 : (100 : Int) < (f.x.size : Int)
        · obtain rfl : false = z := by
            rw [← HZ2.out]
            exact (hno.out (fun e => by rw [HF.out] at e; omega)).symm
          clear hno HK HS2 HU HF
          go_wp2_with fail
          go_ret
          exact ⟨rfl, hbel⟩
        · by_cases h2 : 6000 - (u : Int) < (f.d.length : Int)
          · obtain rfl : false = z := by
              rw [← HZ2.out]
              exact (hno.out (fun e => by rw [HF.out, HU.out] at e; omega)).symm
            clear hno HK HS2 HU HF
            go_wp2_with fail
            go_ret
            exact ⟨rfl, hbel⟩
          · have HK2 : Hid (∀ i (h : i < l.length), i < k + 1 → l[i].x.size ≤ 100 ∧ l[i].d.length + asu (l.take i) ≤ 6000) := fun i hi hik => by
              rcases Nat.lt_or_ge i k with h' | h'
              · exact HK.out i hi h'
              · obtain rfl : i = k := by omega
                rw [HF.out, HU.out]
                omega
            have hu4 : u + f.d.length ≤ 6000 := by omega
            clear hno HK HU HF
            go_wp2_with fail
            go_roundw
            case rel => exact ⟨k + 1, by simp, by rw [HS2.out]; simp, by omega, HK2, by rw [HS2.out]; exact hu4, hbel⟩
            case measure => simp [intOf]; omega
      · have hlt' : ¬ (k : Int) < (l.length : Int) := by omega
        obtain rfl : true = z := by
          rw [← HZ2.out]
          exact (decide_eq_true fun i hi => HK.out i hi (by omega)).symm
        clear HK HZ2
        go_wp2_with fail
        go_ret
        exact ⟨rfl, hbel⟩
  · have g80 : (60 : Int) < (l.length : Int) := by omega
    have g80b : ¬ (l.length : Int) ≤ 60 := by omega
    obtain rfl : false = z := by
      rw [← HZ.out]
      unfold smA
      rw [decide_eq_false h80]
      rfl
    go_loopw [3, 4] (fun vn vi wr => vi = .int .i64 0 ∧ Below w.heap.size w wr) (fun _ _ _ => 0)
    case atStart => exact ⟨rfl, Below.refl _ _⟩
    case round =>
      obtain ⟨rfl, hbel⟩ := hrel
      go_wp2_with fail
      go_ret
      exact ⟨rfl, hbel⟩
/-- A disk that may be, its number of calls one of a machine. -/
structure Okd (d : DV) : Prop where
  c : ckD d = true
  a : d.arm ≤ 9223372036854775807
theorem Okd.tm {d : DV} (h : Okd d) : Tm d := by
  have hc := (ckD_iff d).1 h.c
  exact ⟨by omega, by have := hc.2.2.2.2.2.2; omega, by omega, by omega, by omega, h.a⟩
theorem pw_arm_le {d : DV} (h : d.arm ≤ 9223372036854775807) : (pwD d).arm ≤ 9223372036854775807 := by
  unfold pwD
  split
  · exact h
  · split
    · show d.arm - 1 ≤ _
      omega
    · exact h
theorem Okd.put {d : DV} (h : Okd d) (x : ByteArray) (b : List UInt8) : Okd (putD d x b).1 := ⟨ck_put h.c x b, by
  unfold putD
  repeat' split
  all_goals first | exact h.a | exact pw_arm_le h.a⟩
theorem Okd.doD {d : DV} (h : Okd d) (a : AV) (ha : a.n ≤ 9223372036854775807) : Okd (doD d a).1 := by
  unfold Go.Proofs.Ytjjncmenkepcoaa.doD
  split
  · exact h.put _ _
  · split
    · exact ⟨ck_app h.c _ _, by unfold appD; repeat' split
                                all_goals first | exact h.a | exact pw_arm_le h.a⟩
    · split
      · exact ⟨ck_syn h.c _, by unfold synD; repeat' split
                                all_goals first | exact h.a | exact pw_arm_le h.a⟩
      · split
        · exact ⟨ck_dro h.c _, by unfold droD; repeat' split
                                  all_goals first | exact h.a | exact pw_arm_le h.a⟩
        · split
          · exact ⟨ck_arm h.c _, by unfold armD; repeat' split
                                    all_goals first | exact h.a | exact ha⟩
          · split
            · exact ⟨ck_cra h.c _, by unfold craD; rw [h.c]; show (-1 : Int) ≤ _; omega⟩
            · exact h
theorem keep_do (d : DV) (a : AV) : Keep d (doD d a) := by
  unfold doD
  repeat' split
  · exact keep_put _ _ _
  · exact keep_app _ _ _
  · exact keep_syn _ _
  · exact keep_dro _ _
  · exact keep_arm _ _
  · exact .inl rfl
  · exact .inl rfl
theorem cra_ok {d : DV} (h : ckD d = true) (keep : Int) : craD d keep = ⟨d.fs.map (crF · keep), d.room, -1, false⟩ := by
  unfold craD
  rw [h]
  rfl
end Go.Proofs.Ytjjncmenkepcoaa
/- What DiskKeeps says, over the program's calls. -/
namespace Go.Proofs.Ytjjncmenkepcoaa
open Go.RowKit

theorem run_string2 {w : World} {p : Option Addr} {c n : Nat} {l : List UInt8} (hn : l.length = n) (h : DB w (.slice p n c) l) : (convert 22 9 (.slice p n c)).run Try.prog w = .ok (.string ⟨l.toArray⟩) w := by
  subst hn
  exact run_string h
set_option maxHeartbeats 16000000 in
set_option maxRecDepth 100000 in
theorem dkeeps_law (K : Prk) (KH : ∀ w : World, Calls Try.prog 6 #[] w (Tells (.bool true) w)) (room : Int) (l : List AV) (sl : Value) (keep : Int) (w : World) (h : AHas w sl l) (hl : ∀ a ∈ l, -9223372036854775808 ≤ a.n ∧ a.n ≤ 9223372036854775807) (hr1 : -9223372036854775808 ≤ room) (hr2 : room ≤ 9223372036854775807) (hn1 : -9223372036854775808 ≤ keep) (hn2 : keep ≤ 9223372036854775807) : Calls Try.prog 5 #[.int .i64 room, sl, .int .i64 keep] w (Tells (.bool true) w) := by
  obtain ⟨q, c, rfl⟩ := h.slice
  have hml := maxLen_lt h.max
  have H : Hid (∀ w', Below w.heap.size w w' → AHas w' (.slice q l.length c) l) := fun w' hb => h.later hb
  have HLN : Hid (∀ a ∈ l, -9223372036854775808 ≤ a.n ∧ a.n ≤ 9223372036854775807) := hl
  have hS0 := small_any l _ w h
  clear h hl
  have C1 := K.new room w hr1 hr2
  obtain ⟨⟨D0, z0⟩, E0⟩ := hid_ex (newD room)
  rw [E0.out] at C1
  replace C1 := show Calls Try.prog 7 #[.int .i64 room] w (DQ D0 z0 w) from C1
  have HK0 : Hid (z0 = 0 → Okd D0) := fun e => by
    have h1 : (newD room).2 = 0 := by rw [E0.out]; exact e
    have h2 := ck_new h1
    rw [E0.out] at h2
    refine ⟨h2, ?_⟩
    have h3 : (newD room).1.arm ≤ 9223372036854775807 := by unfold newD; split <;> (show (_ : Int) ≤ _) <;> simp
    rw [E0.out] at h3
    exact h3
  go_enter Try.func5, Try.ntmps5
  go_wp2_with fail
  refine C1.mono ?_
  rintro e w1 ⟨p, c0, rfl, F, hb1⟩
  have hba := bel_alloc (Below.refl w1.heap.size w1) (.cells (dkc p c0 D0) 26)
  have B7 := Bx.new F
  have hbel := below_on hb1 hba
  have hb7 : w.heap.size ≤ w1.heap.size := hb1.size
  generalize hW : w1.alloc (.cells (dkc p c0 D0) 26) = w2 at B7 hbel
  clear F hb1 hba C1 hS0 E0
  obtain ⟨sm, HSM⟩ := hid_ex (smA l)
  have C2 := small_any l _ w2 (H.out w2 hbel)
  rw [HSM.out] at C2
  go_wp2_with (rw [hW])
  clear hW
  refine C2.mono ?_
  rintro e w3 ⟨rfl, hb3⟩
  replace B7 := B7.later hb3
  replace hbel := below_on hbel hb3
  clear C2 hb3
  cases sm
  case false =>
    go_wp2_with fail
    refine (KH w3).mono ?_
    rintro e w4 ⟨rfl, hb⟩
    go_wp2_with fail
    go_ret
    exact ⟨rfl, below_on hbel hb⟩
  by_cases hz : z0 = 0
  case neg =>
    have gz : (z0 == 0) = false := by rw [beq_eq_false_iff_ne]; exact hz
    go_wp2_with fail
    refine (KH w3).mono ?_
    rintro e w4 ⟨rfl, hb⟩
    go_wp2_with fail
    go_ret
    exact ⟨rfl, below_on hbel hb⟩
  have HOK0 : Hid (Okd D0) := HK0.out hz
  subst hz
  clear HK0
  by_cases hrm : (10000 : Int) < room
  · go_wp2_with fail
    refine (KH w3).mono ?_
    rintro e w4 ⟨rfl, hb⟩
    go_wp2_with fail
    go_ret
    exact ⟨rfl, below_on hbel hb⟩
  have HSF : Hid (∀ k (h : k < l.length), l[k].x.size ≤ 100 ∧ l[k].d.length + asu (l.take k) ≤ 6000) := by
    have := HSM.out
    unfold smA smF at this
    simp only [Bool.and_eq_true, decide_eq_true_eq] at this
    exact this.2
  clear HSM
  go_wp2_with fail
  generalize w1.heap.size = b7 at B7 hb7 ⊢
  go_loopw [9] (fun vi wr => ∃ (k : Nat) (p : Option Addr) (c : Nat) (D : DV), vi = .int .i64 k ∧ k ≤ l.length ∧ Bx wr b7 p c D ∧ Hid (Okd D) ∧ Below w.heap.size w wr) (fun vi _ => l.length - (intOf vi).toNat)
  case atStart => exact ⟨0, p, c0, D0, rfl, by omega, B7, HOK0, hbel⟩
  case round =>
    clear B7 HOK0 hbel
    obtain ⟨k, pD, cD, D, rfl, hk, B7, HOK, hbel⟩ := hrel
    by_cases hlt : k < l.length
    case neg =>
      have hlt' : ¬ (k : Int) < (l.length : Int) := by omega
      go_wp2_with fail
      refine (KH wr).mono ?_
      rintro e w4 ⟨rfl, hb⟩
      go_wp2_with fail
      go_ret
      exact ⟨rfl, below_on hbel hb⟩
    have hlt' : (k : Int) < (l.length : Int) := by omega
    obtain ⟨g, o, s1, rfl, d00, a00⟩ := (H.out w (Below.refl _ _)).at k hlt
    have hgl : g < w.heap.size := range_block d00 (by simp)
    have hsf := HSF.out k hlt
    have hln := HLN.out _ (List.getElem_mem hlt)
    obtain ⟨a, HA⟩ := hid_ex l[k]
    rw [HA.out] at d00 a00 hsf hln
    obtain ⟨pa, ca, rfl⟩ := SHas.slice a00
    have hd := range_later d00 hbel
    have zA : (Try.prog.info? 55).map (·.size) = some ([.int .i64 a.k, .string a.x, .slice pa a.d.length ca, .int .i64 a.n] : List Value).length := size55
    have HU : Hid (∀ w', Below w.heap.size w w' → DB w' (.slice pa a.d.length ca) a.d) := fun w' hb => SHas.later a00 hb
    have HKE := keep_do D a
    have HO5 := HOK.out.doD a hln.2
    obtain ⟨⟨D5, z5⟩, E5⟩ := hid_ex (doD D a)
    have CD : ∀ w', FHas w' (.slice pD D.fs.length cD) D.fs → DB w' (.slice pa a.d.length ca) a.d → Calls Try.prog 32 #[DKV.of (.slice pD D.fs.length cD) D, .agg #[.int .i64 a.k, .string a.x, .slice pa a.d.length ca, .int .i64 a.n]] w' (DQ D5 z5 w') := fun w' h hu => by
      have := do_any K D pD cD a.k a.x a.d a.n _ w' h HOK.out.tm hu hsf.1 (by omega) hln.1 hln.2
      rw [show doD D ⟨a.k, a.x, a.d, a.n⟩ = (D5, z5) from E5.out] at this
      exact this
    rw [E5.out] at HKE HO5
    have HKP : Hid (z5 = 0 ∨ z5 = 220 ∨ D5 = D) := HKE
    have HOK5 : Hid (Okd D5) := HO5
    clear E5 HKE HO5 d00 a00 HA hsf hln
    go_upto_region 7 with fail
    go_cut [10, 11] from 39 to 47 (fun v10 v11 wx => ∃ (b : Nat) (p5 : Option Addr) (c5 : Nat), v10 = .pointer (some ⟨b, 0, none⟩) ∧ v11 = .int .i64 z5 ∧ b7 < b ∧ Bx wx b p5 c5 D5 ∧ Bx wx b7 pD cD D ∧ Below w.heap.size w wx)
    case first =>
      have hS : wr.drew.rangeAt b7 0 [.slice pD D.fs.length cD, .int .i64 D.room, .int .i64 D.arm, .bool D.dead] ∧ wr.drew.rangeAt g (o + k * 4) [.int .i64 a.k, .string a.x, .slice pa a.d.length ca, .int .i64 a.n] := ⟨B7.range, hd⟩
      replace B7 := B7.drew
      replace hbel := hbel.drew
      refine HeldI.region (fun w' : World => w'.rangeAt b7 0 [.slice pD D.fs.length cD, .int .i64 D.room, .int .i64 D.arm, .bool D.dead] ∧ w'.rangeAt g (o + k * 4) [.int .i64 a.k, .string a.x, .slice pa a.d.length ca, .int .i64 a.n]) (by kernel_rfl) ?_
      generalize wr.drew = wd at hS B7 hbel ⊢
      refine HeldI.lm 0 size26 (fun _ h => h.1) Try.underlying26 hS ?_
      refine HeldI.pu 1 hS ?_
      refine HeldI.pu 2 hS ?_
      refine HeldI.pu 3 hS ?_
      refine HeldI.lm 4 zA (fun _ h => h.2) Try.underlying55 hS ?_
      have hba0 := bel_alloc (Below.refl wd.heap.size wd) (.cells #[.slice none 0 0, .int .i64 0, .int .i64 0, .bool false] 26)
      have hSa := And.intro (range_later hS.1 hba0) (range_later hS.2 hba0)
      refine HeldI.knvl (w1 := wd.alloc (.cells #[.slice none 0 0, .int .i64 0, .int .i64 0, .bool false] 26)) (v := .pointer (some ⟨wd.heap.size, 0, none⟩)) 5 9 (CD wd B7.f (HU.out wd hbel)) ?_ ?hv hSa ?_
      case hv => go_simp
      · rintro e w2 ⟨p5, c5, rfl, F5, hb⟩
        replace B7 := B7.later hb
        replace hS := And.intro (range_later hS.1 hb) (range_later hS.2 hb)
        replace hbel := below_on hbel hb
        refine ⟨_, rfl, hS, ?_⟩
        refine HeldI.pu 6 hS ?_
        refine HeldI.pu 7 hS ?_
        refine HeldI.pu 8 hS ?_
        have hba := bel_alloc (Below.refl w2.heap.size w2) (.cells #[.slice none 0 0, .int .i64 0, .int .i64 0, .bool false] 26)
        have hlt7 : b7 < w2.heap.size := B7.lt
        have hS2 := And.intro (range_later hS.1 hba) (range_later hS.2 hba)
        refine HeldI.vl (w1 := w2.alloc (.cells #[.slice none 0 0, .int .i64 0, .int .i64 0, .bool false] 26)) (v := .pointer (some ⟨w2.heap.size, 0, none⟩)) 9 ?hv hS2 ?_
        case hv => go_simp
        have RX := rw_new w2 26 #[.slice none 0 0, .int .i64 0, .int .i64 0, .bool false]
        have F6 := F5.later hba
        replace B7 := B7.later hba
        replace hbel := below_on hbel hba
        generalize hbX : w2.heap.size = bX at RX hlt7 ⊢
        generalize w2.alloc (.cells #[.slice none 0 0, .int .i64 0, .int .i64 0, .bool false] 26) = w3 at RX F6 B7 hbel hS2 ⊢
        have B10 : Bx (w3.setRow bX (dkc p5 c5 D5)) bX p5 c5 D5 := ⟨RX.row _, F6.row RX _⟩
        have hg3 : g ≠ bX := by have := hgl; omega
        have hS3 := And.intro (range_row (cs := dkc p5 c5 D5) (by omega : b7 ≠ bX) hS2.1) (range_row (cs := dkc p5 c5 D5) hg3 hS2.2)
        refine HeldI.ss 10 (RX.store (dkc p5 c5 D5) size26 rfl (by simp [Value.oneCell'])) hS3 ?_
        replace B7 : Bx _ _ _ _ _ := ⟨B7.r.rowOther (q := bX) (by omega) (dkc p5 c5 D5), B7.f.row RX (dkc p5 c5 D5)⟩
        replace hbel := bel_row hbel (b := bX) (by omega) (dkc p5 c5 D5)
        refine HeldI.pu 11 hS3 ?_
        refine HeldI.dn ?_
        go_wp2_with fail
        go_meet
        case rel => exact ⟨bX, p5, c5, rfl, rfl, hlt7, B10, B7, hbel⟩
      · have hlt7 : b7 < wd.heap.size := B7.lt
        have RX := rw_new wd 26 #[.slice none 0 0, .int .i64 0, .int .i64 0, .bool false]
        replace B7 := B7.later hba0
        replace hbel := below_on hbel hba0
        generalize hbX : wd.heap.size = bX at RX hlt7 ⊢
        generalize wd.alloc (.cells #[.slice none 0 0, .int .i64 0, .int .i64 0, .bool false] 26) = w3 at RX B7 hbel hSa ⊢
        refine HeldI.kn 5 (CD w3 B7.f (HU.out w3 hbel)) ?_
        rintro e w2 ⟨p5, c5, rfl, F5, hb⟩
        replace B7 := B7.later hb
        replace RX := RX.later hb
        replace hSa := And.intro (range_later hSa.1 hb) (range_later hSa.2 hb)
        replace hbel := below_on hbel hb
        refine ⟨_, rfl, hSa, ?_⟩
        refine HeldI.pu 6 hSa ?_
        refine HeldI.pu 7 hSa ?_
        refine HeldI.pu 8 hSa ?_
        have B10 : Bx (w2.setRow bX (dkc p5 c5 D5)) bX p5 c5 D5 := ⟨RX.row _, F5.row RX _⟩
        have hg3 : g ≠ bX := by have := hgl; omega
        have hS3 := And.intro (range_row (cs := dkc p5 c5 D5) (by omega : b7 ≠ bX) hSa.1) (range_row (cs := dkc p5 c5 D5) hg3 hSa.2)
        refine HeldI.ss 10 (RX.store (dkc p5 c5 D5) size26 rfl (by simp [Value.oneCell'])) hS3 ?_
        replace B7 : Bx _ _ _ _ _ := ⟨B7.r.rowOther (q := bX) (by omega) (dkc p5 c5 D5), B7.f.row RX (dkc p5 c5 D5)⟩
        replace hbel := bel_row hbel (b := bX) (by omega) (dkc p5 c5 D5)
        refine HeldI.pu 11 hS3 ?_
        refine HeldI.dn ?_
        go_wp2_with fail
        go_meet
        case rel => exact ⟨bX, p5, c5, rfl, rfl, hlt7, B10, B7, hbel⟩
    case rest =>
      clear B7 hbel hd CD
      obtain ⟨b10, p5, c5, rfl, rfl, hb710, B10, B7, hbel⟩ := hcut
      go_upto_region 8 with fail
      go_cut [64] from 48 to 64 (fun v wx => v = .bool false ∧ Bx wx b10 p5 c5 D5 ∧ Bx wx b7 pD cD D ∧ Below w.heap.size w wx)
      case first =>
        go_wp2_with (first | refine load_r 26 _ rfl rfl _ rfl B10.r Try.underlying26 rfl size26 ?_)
        refine (K.check D5 _ wc B10.f HOK5.out.tm).mono ?_
        rw [HOK5.out.c]
        rintro e w8 ⟨rfl, hb8⟩
        replace B10 := B10.later hb8
        replace B7 := B7.later hb8
        replace hbel := below_on hbel hb8
        clear hb8
        by_cases hz1 : z5 = 0
        · subst hz1
          go_wp2_with fail
          go_meet
          case rel => exact ⟨rfl, B10, B7, hbel⟩
        · have gz1 : (z5 != 0) = true := by rw [bne_iff_ne]; exact hz1
          by_cases hz2 : z5 = 220
          · subst hz2
            go_wp2_with fail
            go_meet
            case rel => exact ⟨rfl, B10, B7, hbel⟩
          · have gz2 : (z5 != 220) = true := by rw [bne_iff_ne]; exact hz2
            obtain rfl : D5 = D := by
              rcases HKP.out with e | e | e
              · exact absurd e hz1
              · exact absurd e hz2
              · exact e
            go_wp2_with (first | refine load_r 26 _ rfl rfl _ rfl B10.r Try.underlying26 rfl size26 ?_ | refine load_r 26 _ rfl rfl _ rfl B7.r Try.underlying26 rfl size26 ?_)
            refine (rSame_any D5 _ _ w8 B10.has B7.has).mono ?_
            rintro e w9 ⟨rfl, hb9⟩
            go_wp2_with fail
            go_meet
            case rel => exact ⟨rfl, B10.later hb9, B7.later hb9, below_on hbel hb9⟩
      case rest =>
        clear B10 B7 hbel
        obtain ⟨rfl, B10, B7, hbel⟩ := hcut
        clear HKP
        have F5 := B10.f
        have B10a := B10
        have Bs := B7
        have hCR : ∀ w', FHas w' (.slice p5 D5.fs.length c5) D5.fs → Calls Try.prog 11 #[DKV.of (.slice p5 D5.fs.length c5) D5, .int .i64 keep] w' (DkPost (craD D5 keep) w') := fun w' h => K.crash D5 _ keep w' h HOK5.out.tm hn1 hn2
        have hcx := cra_ok HOK5.out.c keep
        have HOX : Hid (Okd (craD D5 keep)) := ⟨ck_cra HOK5.out.c keep, by rw [hcx]; show (-1 : Int) ≤ _; omega⟩
        obtain ⟨CX, HCX⟩ := hid_ex (craD D5 keep)
        rw [HCX.out] at hCR hcx HOX
        have HXd : Hid (CX.dead = false) := by show _ = _; rw [hcx]
        have HXl : Hid (CX.fs.length = D5.fs.length) := by show _ = _; rw [hcx]; exact List.length_map _
        have HXa : Hid (∀ j (h : j < D5.fs.length) (h' : j < CX.fs.length), CX.fs[j] = crF D5.fs[j] keep) := by
          subst hcx
          intro j h h'
          simp
        clear hcx HCX
        replace B7 : Bx (wc.setRow b7 (dkc p5 c5 D5)) b7 p5 c5 D5 := B7.put F5
        replace hbel := bel_row hbel (b := b7) (by omega) (dkc p5 c5 D5)
        generalize hW : wc.setRow b7 (dkc p5 c5 D5) = w4 at B7 hbel
        clear F5 B10
        go_wp2_with (first | refine load_r 26 _ rfl rfl _ rfl B10a.r Try.underlying26 rfl size26 ?_ | rw [hW] | refine store_r rfl 26 _ _ rfl _ _ rfl rfl Bs.r size26 rfl (by simp [Value.oneCell']) ?_ | refine load_r 26 _ rfl rfl _ rfl B7.r Try.underlying26 rfl size26 ?_)
        refine (hCR w4 B7.f).mono ?_
        rintro e w5 ⟨p6, c6, rfl, F6, hb5⟩
        replace B7 := B7.later hb5
        replace hbel := below_on hbel hb5
        clear hb5 hCR B10a Bs hW
        have lt12 : b7 < w5.heap.size := B7.lt
        have hba := bel_alloc (Below.refl w5.heap.size w5) (.cells (dkc p6 c6 CX) 26)
        replace B7 := B7.later hba
        replace hbel := below_on hbel hba
        have B12 := Bx.new F6
        generalize hW : w5.alloc (.cells (dkc p6 c6 CX) 26) = w6 at B7 B12 hbel
        clear hba F6
        go_wp2_with (first | rw [hW] | refine load_r 26 _ rfl rfl _ rfl B12.r Try.underlying26 rfl size26 ?_)
        refine (K.check CX _ w6 B12.f HOX.out.tm).mono ?_
        rw [HOX.out.c]
        rintro e w7 ⟨rfl, hb7'⟩
        replace B7 := B7.later hb7'
        replace B12 := B12.later hb7'
        replace hbel := below_on hbel hb7'
        clear hb7' hW
        generalize w5.heap.size = b12 at B12 lt12 ⊢
        have c3 : w7.cell? ⟨b12, 3, none⟩ = some (.bool false) := by rw [← HXd.out]; exact B12.r.cell 3
        have k12 : w7.cell? ⟨b12, 0, none⟩ = some (.slice p6 D5.fs.length c6) := by rw [← HXl.out]; exact B12.r.cell 0
        have k7 : w7.cell? ⟨b7, 0, none⟩ = some (.slice p5 D5.fs.length c5) := B7.r.cell 0
        have hm5 := maxLen_lt B7.f.max
        go_wp2_with fail
        clear c3 k12 k7
        go_loopw [13] (fun vj wr => ∃ j : Nat, vj = .int .i64 j ∧ j ≤ D5.fs.length ∧ Bx wr b7 p5 c5 D5 ∧ Bx wr b12 p6 c6 CX ∧ Below w.heap.size w wr) (fun vj _ => D5.fs.length - (intOf vj).toNat)
        case atStart => exact ⟨0, rfl, by omega, B7, B12, hbel⟩
        case round =>
          clear B7 B12 hbel
          obtain ⟨j, rfl, hj, B7, B12, hbel⟩ := hrel
          have k7 : wr.cell? ⟨b7, 0, none⟩ = some (.slice p5 D5.fs.length c5) := B7.r.cell 0
          by_cases hjl : j < D5.fs.length
          case neg =>
            have hjl' : ¬ (j : Int) < (D5.fs.length : Int) := by omega
            go_wp2_with fail
            go_roundw
            case rel => exact ⟨k + 1, p5, c5, D5, by simp, by omega, B7, HOK5, hbel⟩
            case measure => simp [intOf]; omega
          have hjl' : (j : Int) < (D5.fs.length : Int) := by omega
          obtain ⟨g1, o1, s1, e1, d1, a1⟩ := B7.f.at j hjl
          obtain ⟨g2, o2, s2, e2, d2, a2⟩ := B12.f.at j (by rw [HXl.out]; exact hjl)
          have hcf := HXa.out j hjl (by rw [HXl.out]; exact hjl)
          have hok : okO D5.fs[j] = true := ((ckD_iff D5).1 HOK5.out.c).2.2.2.2.1 _ (List.getElem_mem hjl)
          obtain ⟨f, HF⟩ := hid_ex D5.fs[j]
          rw [HF.out] at d1 a1 hok hcf
          obtain ⟨hkp1, hkp2, hkp3⟩ := kp_of hok keep
          obtain ⟨n, hn⟩ : ∃ n : Nat, kpN f keep = (n : Int) := ⟨(kpN f keep).toNat, by omega⟩
          have hcf2 : crF f keep = ⟨f.x, f.d.take n, (n : Int)⟩ := by
            unfold crF
            rw [hn]
            rfl
          rw [hcf, hcf2] at d2 a2
          rw [hn] at hkp1 hkp3
          have hnl : (f.d.take n).length = n := by rw [List.length_take]; omega
          obtain ⟨p1, c1, rfl⟩ := SHas.slice a1
          obtain ⟨p2, c2, es2⟩ := SHas.slice a2
          replace es2 : s2 = .slice p2 n c2 := by rw [es2]; show Value.slice p2 (f.d.take n).length c2 = _; rw [hnl]
          subst es2
          subst e1
          subst e2
          have hcap := SHas.cap a1
          have hmf := maxLen_lt a1.1
          have ap := DB.pre a1 n (by omega)
          have zf1 : (Try.prog.info? 57).map (·.size) = some ([.string f.x, .slice p1 f.d.length c1, .int .i64 f.k] : List Value).length := sizeF
          have zf2 : (Try.prog.info? 57).map (·.size) = some ([.string f.x, .slice p2 n c2, .int .i64 n] : List Value).length := sizeF
          clear hcf hcf2 hok hkp2 hn HF
          have k12 : wr.cell? ⟨b12, 0, none⟩ = some (.slice (some ⟨g2, o2, none⟩) D5.fs.length c6) := by rw [← HXl.out]; exact B12.r.cell 0
          go_upto_region 17 with fail
          go_cut [14, 15] from 92 to 101 (fun v14 v15 wx => ∃ b14 b15 : Nat, v14 = .pointer (some ⟨b14, 0, none⟩) ∧ v15 = .pointer (some ⟨b15, 0, none⟩) ∧ Rw wx b14 57 #[.string f.x, .slice p1 f.d.length c1, .int .i64 f.k] ∧ Rw wx b15 57 #[.string f.x, .slice p2 n c2, .int .i64 n] ∧ Below wr.heap.size wr wx)
          case first =>
            have hS0 : (fun w' : World => w'.cell? ⟨b7, 0, none⟩ = some (.slice (some ⟨g1, o1, none⟩) D5.fs.length c5) ∧ w'.cell? ⟨b12, 0, none⟩ = some (.slice (some ⟨g2, o2, none⟩) D5.fs.length c6) ∧ w'.rangeAt g1 (o1 + j * 3) [.string f.x, .slice p1 f.d.length c1, .int .i64 f.k] ∧ w'.rangeAt g2 (o2 + j * 3) [.string f.x, .slice p2 n c2, .int .i64 n]) wr := ⟨k7, k12, d1, d2⟩
            have hSo : ∀ w', Below wr.heap.size wr w' → (fun w' : World => w'.cell? ⟨b7, 0, none⟩ = some (.slice (some ⟨g1, o1, none⟩) D5.fs.length c5) ∧ w'.cell? ⟨b12, 0, none⟩ = some (.slice (some ⟨g2, o2, none⟩) D5.fs.length c6) ∧ w'.rangeAt g1 (o1 + j * 3) [.string f.x, .slice p1 f.d.length c1, .int .i64 f.k] ∧ w'.rangeAt g2 (o2 + j * 3) [.string f.x, .slice p2 n c2, .int .i64 n]) w' := fun w' hb => ⟨cell_later hb hS0.1, cell_later hb hS0.2.1, range_later hS0.2.2.1 hb, range_later hS0.2.2.2 hb⟩
            have hb0 := (Below.refl wr.heap.size wr).drew
            have hS := hSo _ hb0
            have hsz : wr.heap.size ≤ wr.drew.heap.size := hb0.size
            refine HeldI.region (fun w' : World => w'.cell? ⟨b7, 0, none⟩ = some (.slice (some ⟨g1, o1, none⟩) D5.fs.length c5) ∧ w'.cell? ⟨b12, 0, none⟩ = some (.slice (some ⟨g2, o2, none⟩) D5.fs.length c6) ∧ w'.rangeAt g1 (o1 + j * 3) [.string f.x, .slice p1 f.d.length c1, .int .i64 f.k] ∧ w'.rangeAt g2 (o2 + j * 3) [.string f.x, .slice p2 n c2, .int .i64 n]) (by kernel_rfl) ?_
            generalize wr.drew = wd at hS hb0 hsz ⊢
            refine HeldI.pu 0 hS ?_
            refine HeldI.ce 1 (fun _ h => h.1) hS ?_
            refine HeldI.pu 2 hS ?_
            refine HeldI.pu 3 hS ?_
            refine HeldI.lm 4 zf1 (fun _ h => h.2.2.1) Try.underlying57 hS ?_
            refine HeldI.pu 5 hS ?_
            refine HeldI.ce 6 (fun _ h => h.2.1) hS ?_
            refine HeldI.pu 7 hS ?_
            refine HeldI.pu 8 hS ?_
            refine HeldI.lm 9 zf2 (fun _ h => h.2.2.2) Try.underlying57 hS ?_
            have hb1 := hb0.alloc hsz (.cells #[.string noS, .slice none 0 0, .int .i64 0] 57)
            have hs1 : wr.heap.size ≤ (wd.alloc (.cells #[.string noS, .slice none 0 0, .int .i64 0] 57)).heap.size := hb1.size
            have hb2 := hb1.alloc hs1 (.cells #[.string noS, .slice none 0 0, .int .i64 0] 57)
            have RA := rw_new wd 57 #[.string noS, .slice none 0 0, .int .i64 0]
            have RB := rw_new (wd.alloc (.cells #[.string noS, .slice none 0 0, .int .i64 0] 57)) 57 #[.string noS, .slice none 0 0, .int .i64 0]
            have RA2 := RA.alloc (.cells #[.string noS, .slice none 0 0, .int .i64 0] 57)
            have hwn : (wd.alloc (.cells #[.string noS, .slice none 0 0, .int .i64 0] 57)).heap.size = wd.heap.size + 1 := by simp
            refine HeldI.al2 10 11 (HeldI.wpv (v := .pointer (some ⟨wd.heap.size, 0, none⟩)) (w1 := wd.alloc (.cells #[.string noS, .slice none 0 0, .int .i64 0] 57)) ?hv1 (hSo _ hb1) ?_) (HeldI.wpv (v := .pointer (some ⟨wd.heap.size, 0, none⟩)) (w1 := wd.alloc (.cells #[.string noS, .slice none 0 0, .int .i64 0] 57)) ?hv2 (hSo _ hb1) ?_)
            case hv1 => go_simp
            case hv2 => go_simp
            · have hne : wd.heap.size ≠ (wd.alloc (.cells #[.string noS, .slice none 0 0, .int .i64 0] 57)).heap.size := by omega
              refine HeldI.vl (w1 := (wd.alloc (.cells #[.string noS, .slice none 0 0, .int .i64 0] 57)).alloc (.cells #[.string noS, .slice none 0 0, .int .i64 0] 57)) (v := .pointer (some ⟨(wd.alloc (.cells #[.string noS, .slice none 0 0, .int .i64 0] 57)).heap.size, 0, none⟩)) 11 ?hv3 (hSo _ hb2) ?_
              case hv3 => go_simp
              have hb3 := bel_row hb2 (b := wd.heap.size) hsz #[.string f.x, .slice p1 f.d.length c1, .int .i64 f.k]
              have R3 := RA2.row #[.string f.x, .slice p1 f.d.length c1, .int .i64 f.k]
              have RB3 := RB.rowOther (q := wd.heap.size) hne.symm #[.string f.x, .slice p1 f.d.length c1, .int .i64 f.k]
              have hb4 := bel_row hb3 (b := (wd.alloc (.cells #[.string noS, .slice none 0 0, .int .i64 0] 57)).heap.size) hs1 #[.string f.x, .slice p2 n c2, .int .i64 n]
              have R4 := R3.rowOther (q := (wd.alloc (.cells #[.string noS, .slice none 0 0, .int .i64 0] 57)).heap.size) hne #[.string f.x, .slice p2 n c2, .int .i64 n]
              have RB4 := RB3.row #[.string f.x, .slice p2 n c2, .int .i64 n]
              refine HeldI.ss 12 (RA2.store #[.string f.x, .slice p1 f.d.length c1, .int .i64 f.k] sizeF rfl (by simp [Value.oneCell'])) (hSo _ hb3) ?_
              refine HeldI.ss 13 (RB3.store #[.string f.x, .slice p2 n c2, .int .i64 n] sizeF rfl (by simp [Value.oneCell'])) (hSo _ hb4) ?_
              generalize hWF : ((((wd.alloc (.cells #[.string noS, .slice none 0 0, .int .i64 0] 57)).alloc (.cells #[.string noS, .slice none 0 0, .int .i64 0] 57)).setRow wd.heap.size #[.string f.x, .slice p1 f.d.length c1, .int .i64 f.k]).setRow (wd.alloc (.cells #[.string noS, .slice none 0 0, .int .i64 0] 57)).heap.size #[.string f.x, .slice p2 n c2, .int .i64 n]) = wf at R4 RB4 hb4 ⊢
              rw [hwn] at RB4
              refine HeldI.dn ?_
              go_wp2_with fail
              go_meet
              case rel => exact ⟨_, _, rfl, rfl, R4, RB4, hb4⟩
            · have hne : wd.heap.size ≠ (wd.alloc (.cells #[.string noS, .slice none 0 0, .int .i64 0] 57)).heap.size := by omega
              refine HeldI.vl (w1 := (wd.alloc (.cells #[.string noS, .slice none 0 0, .int .i64 0] 57)).alloc (.cells #[.string noS, .slice none 0 0, .int .i64 0] 57)) (v := .pointer (some ⟨(wd.alloc (.cells #[.string noS, .slice none 0 0, .int .i64 0] 57)).heap.size, 0, none⟩)) 10 ?hv5 (hSo _ hb2) ?_
              case hv5 => go_simp
              have hb3 := bel_row hb2 (b := (wd.alloc (.cells #[.string noS, .slice none 0 0, .int .i64 0] 57)).heap.size) hs1 #[.string f.x, .slice p1 f.d.length c1, .int .i64 f.k]
              have R3 := RB.row #[.string f.x, .slice p1 f.d.length c1, .int .i64 f.k]
              have RA3 := RA2.rowOther (q := (wd.alloc (.cells #[.string noS, .slice none 0 0, .int .i64 0] 57)).heap.size) hne #[.string f.x, .slice p1 f.d.length c1, .int .i64 f.k]
              have hb4 := bel_row hb3 (b := wd.heap.size) hsz #[.string f.x, .slice p2 n c2, .int .i64 n]
              have R4 := R3.rowOther (q := wd.heap.size) hne.symm #[.string f.x, .slice p2 n c2, .int .i64 n]
              have RA4 := RA3.row #[.string f.x, .slice p2 n c2, .int .i64 n]
              refine HeldI.ss 12 (RB.store #[.string f.x, .slice p1 f.d.length c1, .int .i64 f.k] sizeF rfl (by simp [Value.oneCell'])) (hSo _ hb3) ?_
              refine HeldI.ss 13 (RA3.store #[.string f.x, .slice p2 n c2, .int .i64 n] sizeF rfl (by simp [Value.oneCell'])) (hSo _ hb4) ?_
              generalize hWF : ((((wd.alloc (.cells #[.string noS, .slice none 0 0, .int .i64 0] 57)).alloc (.cells #[.string noS, .slice none 0 0, .int .i64 0] 57)).setRow (wd.alloc (.cells #[.string noS, .slice none 0 0, .int .i64 0] 57)).heap.size #[.string f.x, .slice p1 f.d.length c1, .int .i64 f.k]).setRow wd.heap.size #[.string f.x, .slice p2 n c2, .int .i64 n]) = wf at R4 RA4 hb4 ⊢
              rw [hwn] at R4
              refine HeldI.dn ?_
              go_wp2_with fail
              go_meet
              case rel => exact ⟨_, _, rfl, rfl, R4, RA4, hb4⟩
          case rest =>
            obtain ⟨b14, b15, rfl, rfl, R14, R15, hby⟩ := hcut
            replace B7 := B7.later hby
            replace B12 := B12.later hby
            replace hbel := below_on hbel hby
            replace a2 := SHas.later a2 hby
            replace ap := SHas.later ap hby
            have hnl2 : f.d.take n = f.d.take n := rfl
            obtain ⟨t, HT⟩ := hid_ex (f.d.take n)
            rw [HT.out] at a2 ap hnl
            clear hby d1 d2 a1 k12 k7 zf1 zf2 HT hnl2
            have x0 : wc.cell? ⟨b14, 0, none⟩ = some (.string f.x) := R14.cell 0
            have x1 : wc.cell? ⟨b14, 1, none⟩ = some (.slice p1 f.d.length c1) := R14.cell 1
            have x2 : wc.cell? ⟨b14, 2, none⟩ = some (.int .i64 f.k) := R14.cell 2
            have y0 : wc.cell? ⟨b15, 0, none⟩ = some (.string f.x) := R15.cell 0
            have y1 : wc.cell? ⟨b15, 1, none⟩ = some (.slice p2 n c2) := R15.cell 1
            have y2 : wc.cell? ⟨b15, 2, none⟩ = some (.int .i64 n) := R15.cell 2
            have g1 : decide ((n : Int) < f.k) = false := decide_eq_false (by omega)
            have g2 : decide ((f.d.length : Int) < (n : Int)) = false := decide_eq_false (by omega)
            have g2n : decide (f.d.length < n) = false := decide_eq_false (by omega)
            have hnc : (n : Int) ≤ (c1 : Int) := by omega
            have hncn : n ≤ c1 := by omega
            have hn0 : (0 : Int) ≤ (n : Int) := by omega
            go_wp2_with fail
            refine Calm.region (by kernel_rfl) (by kernel_rfl) (fun w' : World => w'.cell? ⟨b14, 0, none⟩ = some (.string f.x) ∧ w'.cell? ⟨b14, 1, none⟩ = some (.slice p1 f.d.length c1) ∧ w'.cell? ⟨b14, 2, none⟩ = some (.int .i64 f.k) ∧ w'.cell? ⟨b15, 0, none⟩ = some (.string f.x) ∧ w'.cell? ⟨b15, 1, none⟩ = some (.slice p2 n c2) ∧ w'.cell? ⟨b15, 2, none⟩ = some (.int .i64 n) ∧ DB w' (.slice p1 n c1) t ∧ DB w' (.slice p2 n c2) t ∧ Below wc.heap.size wc w') ⟨x0, x1, x2, y0, y1, y2, ap, a2, (Below.refl _ _).drew⟩ ?_
            refine Calm.pu ?_
            refine Calm.ce (fun _ h => h.1) ?_
            refine Calm.pu ?_
            refine Calm.ce (fun _ h => h.2.2.2.1) ?_
            iterate 3 (refine Calm.pu ?_)
            refine Calm.ce (fun _ h => h.2.2.2.2.1) ?_
            iterate 2 (refine Calm.pu ?_)
            refine Calm.ce (fun _ h => h.2.2.1) ?_
            iterate 4 (refine Calm.pu ?_)
            refine Calm.ce (fun _ h => h.2.2.2.2.1) ?_
            iterate 2 (refine Calm.pu ?_)
            refine Calm.ce (fun _ h => h.2.1) ?_
            iterate 5 (refine Calm.pu ?_)
            refine Calm.ce (fun _ h => h.2.1) ?_
            refine Calm.pu ?_
            refine Calm.ce (fun _ h => h.2.2.2.2.1) ?_
            iterate 2 (refine Calm.pu ?_)
            refine Calm.cl (fun _ h => run_string2 hnl h.2.2.2.2.2.2.1) ?_
            refine Calm.pu ?_
            refine Calm.ce (fun _ h => h.2.2.2.2.1) ?_
            refine Calm.cl (fun _ h => run_string2 hnl h.2.2.2.2.2.2.2.1) ?_
            iterate 4 (refine Calm.pu ?_)
            refine Calm.ce (fun _ h => h.2.2.2.2.2.1) ?_
            refine Calm.pu ?_
            refine Calm.ce (fun _ h => h.2.2.2.2.1) ?_
            iterate 3 (refine Calm.pu ?_)
            intro w9 hS9
            have hb9 := hS9.2.2.2.2.2.2.2.2
            clear hS9 x0 x1 x2 y0 y1 y2 ap a2 R14 R15
            go_wp2_with fail
            go_roundw
            case rel => exact ⟨j + 1, by simp, by omega, B7.later hb9, B12.later hb9, below_on hbel hb9⟩
            case measure => simp [intOf]; omega
end Go.Proofs.Ytjjncmenkepcoaa
