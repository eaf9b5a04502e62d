import Derived.Test.YtjjncmenkepcoaaP17
/- Whether acts are few and small; what acts leave of a disk. -/
namespace Go.Proofs.Ytjjncmenkepcoaa
open Go.RowKit

set_option maxHeartbeats 4000000 in
set_option maxRecDepth 100000 in
theorem small_any (l : List AV) (sl : Value) (w : World) (h : AHas w sl l) : Calls Try.prog 31 #[sl] w (Tells (.bool (smA l)) w) := by
  obtain ⟨q, c, rfl⟩ := h.slice
  have hml := maxLen_lt h.max
  obtain ⟨z, HZ⟩ := hid_ex (smA l)
  rw [HZ.out]
  have H : Hid (AHas w (.slice q l.length c) l) := h
  clear h
  go_enter Try.func31, Try.ntmps31
  go_wp2_with fail
  by_cases h80 : l.length ≤ 60
  · have g80 : ¬ (60 : Int) < (l.length : Int) := by omega
    have g80b : (l.length : Int) ≤ 60 := by omega
    have HZ2 : Hid (smF l = z) := by
      show _ = _
      rw [← HZ.out]
      unfold smA
      rw [decide_eq_true h80, Bool.true_and]
    clear HZ
    go_loopw [3, 4] (fun vn vi wr => ∃ k : Nat, vi = .int .i64 k ∧ vn = .int .i64 (asu (l.take k)) ∧ k ≤ l.length ∧ Hid (∀ i (h : i < l.length), i < k → l[i].x.size ≤ 100 ∧ l[i].d.length + asu (l.take i) ≤ 6000) ∧ asu (l.take k) ≤ 6000 ∧ Below w.heap.size w wr) (fun _ vi _ => l.length - (intOf vi).toNat)
    case atStart => exact ⟨0, rfl, rfl, by omega, (show ∀ i (h : i < l.length), i < 0 → _ from fun i _ h => by omega), Nat.zero_le _, Below.refl _ _⟩
    case round =>
      obtain ⟨k, rfl, rfl, hk, HK, hur, hbel⟩ := hrel
      by_cases hlt : k < l.length
      · have hlt' : (k : Int) < (l.length : Int) := by omega
        obtain ⟨g, o, s1, rfl, d00, a0⟩ := H.out.at k hlt
        have d0 := range_later d00 hbel
        obtain ⟨p1, c1, rfl⟩ := SHas.slice a0
        have c0 : wr.cell? ⟨g, o + k * 4 + 1, none⟩ = some (.string l[k].x) := d0 1 _ rfl
        have c2 : wr.cell? ⟨g, o + k * 4 + 2, none⟩ = some (.slice p1 l[k].d.length c1) := d0 2 _ rfl
        have HS := asu_take_succ hlt
        have hno : Hid (¬ (l[k].x.size ≤ 100 ∧ l[k].d.length + asu (l.take k) ≤ 6000) → smF l = false) := smF_not hlt
        have hmf := maxLen_lt a0.1
        obtain ⟨f, HF⟩ := hid_ex l[k]
        obtain ⟨u, HU⟩ := hid_ex (asu (l.take k))
        rw [HF.out] at c0 c2 HS hmf
        rw [HU.out] at HS hur ⊢
        have HS2 : Hid (asu (l.take (k + 1)) = u + f.d.length) := HS
        clear d0 d00 a0 HS
        have ew : IntKind.i64.wrap (6000 - (u : Int)) = 6000 - (u : Int) := by rw [IntKind.wrap_i64]; omega
        by_cases h1 : (100 : Int) < (f.x.size : Int)
        · obtain rfl : false = z := by
            rw [← HZ2.out]
            exact (hno.out (fun e => by rw [HF.out] at e; omega)).symm
          clear hno HK HS2 HU HF
          go_wp2_with fail
          go_ret
          exact ⟨rfl, hbel⟩
        · by_cases h2 : 6000 - (u : Int) < (f.d.length : Int)
          · obtain rfl : false = z := by
              rw [← HZ2.out]
              exact (hno.out (fun e => by rw [HF.out, HU.out] at e; omega)).symm
            clear hno HK HS2 HU HF
            go_wp2_with fail
            go_ret
            exact ⟨rfl, hbel⟩
          · have HK2 : Hid (∀ i (h : i < l.length), i < k + 1 → l[i].x.size ≤ 100 ∧ l[i].d.length + asu (l.take i) ≤ 6000) := fun i hi hik => by
              rcases Nat.lt_or_ge i k with h' | h'
              · exact HK.out i hi h'
              · obtain rfl : i = k := by omega
                rw [HF.out, HU.out]
                omega
            have hu4 : u + f.d.length ≤ 6000 := by omega
            clear hno HK HU HF
            go_wp2_with fail
            go_roundw
            case rel => exact ⟨k + 1, by simp, by rw [HS2.out]; simp, by omega, HK2, by rw [HS2.out]; exact hu4, hbel⟩
            case measure => simp [intOf]; omega
      · have hlt' : ¬ (k : Int) < (l.length : Int) := by omega
        obtain rfl : true = z := by
          rw [← HZ2.out]
          exact (decide_eq_true fun i hi => HK.out i hi (by omega)).symm
        clear HK HZ2
        go_wp2_with fail
        go_ret
        exact ⟨rfl, hbel⟩
  · have g80 : (60 : Int) < (l.length : Int) := by omega
    have g80b : ¬ (l.length : Int) ≤ 60 := by omega
    obtain rfl : false = z := by
      rw [← HZ.out]
      unfold smA
      rw [decide_eq_false h80]
      rfl
    go_loopw [3, 4] (fun vn vi wr => vi = .int .i64 0 ∧ Below w.heap.size w wr) (fun _ _ _ => 0)
    case atStart => exact ⟨rfl, Below.refl _ _⟩
    case round =>
      obtain ⟨rfl, hbel⟩ := hrel
      go_wp2_with fail
      go_ret
      exact ⟨rfl, hbel⟩
/-- A disk that may be, its number of calls one of a machine. -/
structure Okd (d : DV) : Prop where
  c : ckD d = true
  a : d.arm ≤ 9223372036854775807
theorem Okd.tm {d : DV} (h : Okd d) : Tm d := by
  have hc := (ckD_iff d).1 h.c
  exact ⟨by omega, by have := hc.2.2.2.2.2.2; omega, by omega, by omega, by omega, h.a⟩
theorem pw_arm_le {d : DV} (h : d.arm ≤ 9223372036854775807) : (pwD d).arm ≤ 9223372036854775807 := by
  unfold pwD
  split
  · exact h
  · split
    · show d.arm - 1 ≤ _
      omega
    · exact h
theorem Okd.put {d : DV} (h : Okd d) (x : ByteArray) (b : List UInt8) : Okd (putD d x b).1 := ⟨ck_put h.c x b, by
  unfold putD
  repeat' split
  all_goals first | exact h.a | exact pw_arm_le h.a⟩
theorem Okd.doD {d : DV} (h : Okd d) (a : AV) (ha : a.n ≤ 9223372036854775807) : Okd (doD d a).1 := by
  unfold Go.Proofs.Ytjjncmenkepcoaa.doD
  split
  · exact h.put _ _
  · split
    · exact ⟨ck_app h.c _ _, by unfold appD; repeat' split
                                all_goals first | exact h.a | exact pw_arm_le h.a⟩
    · split
      · exact ⟨ck_syn h.c _, by unfold synD; repeat' split
                                all_goals first | exact h.a | exact pw_arm_le h.a⟩
      · split
        · exact ⟨ck_dro h.c _, by unfold droD; repeat' split
                                  all_goals first | exact h.a | exact pw_arm_le h.a⟩
        · split
          · exact ⟨ck_arm h.c _, by unfold armD; repeat' split
                                    all_goals first | exact h.a | exact ha⟩
          · split
            · exact ⟨ck_cra h.c _, by unfold craD; rw [h.c]; show (-1 : Int) ≤ _; omega⟩
            · exact h
theorem keep_do (d : DV) (a : AV) : Keep d (doD d a) := by
  unfold doD
  repeat' split
  · exact keep_put _ _ _
  · exact keep_app _ _ _
  · exact keep_syn _ _
  · exact keep_dro _ _
  · exact keep_arm _ _
  · exact .inl rfl
  · exact .inl rfl
theorem cra_ok {d : DV} (h : ckD d = true) (keep : Int) : craD d keep = ⟨d.fs.map (crF · keep), d.room, -1, false⟩ := by
  unfold craD
  rw [h]
  rfl
end Go.Proofs.Ytjjncmenkepcoaa
/- Disks of one file that are armed: what comes of puts. Nothing of the program. -/
namespace Go.Proofs.Ytjjncmenkepcoaa
open Go.RowKit

abbrev A97 : ByteArray := ⟨#[97]⟩
abbrev B98 : ByteArray := ⟨#[98]⟩
/-- The one file, if any call was done. -/
def fsI (b : List UInt8) : Nat → List FV
  | 0 => []
  | _ + 1 => [⟨A97, b, b.length⟩]
theorem fsI_len (b : List UInt8) (i : Nat) : (fsI b i).length = min i 1 := by
  cases i with
  | zero => rfl
  | succ i => show 1 = min (i + 1) 1; omega
theorem fsI_us (b : List UInt8) (i : Nat) : us (fsI b i) ≤ b.length := by
  cases i with
  | zero => exact Nat.zero_le _
  | succ i => simp [fsI, us]
theorem nm97 : nmd A97 = true := rfl
theorem nm98 : nmd B98 = true := rfl
theorem ck_small {b : List UInt8} {i : Nat} {room arm : Int} {dead : Bool} (hb : b.length ≤ 20) (hr : 100 ≤ room) (hr2 : room ≤ 2000) (ha : -1 ≤ arm) : ckD ⟨fsI b i, room, arm, dead⟩ = true := by
  rw [ckD_iff]
  have h1 := fsI_us b i
  have h2 := fsI_len b i
  refine ⟨by show 0 ≤ room; omega, by show room ≤ 1048576; omega, ha, by show (fsI b i).length ≤ 64; omega, ?_, ?_, by show ((us (fsI b i) : Nat) : Int) ≤ room; omega⟩
  · intro f hf
    cases i with
    | zero => cases hf
    | succ i =>
      obtain rfl := List.mem_singleton.1 hf
      simp [okO, nm97]
  · cases i with
    | zero => exact List.Pairwise.nil
    | succ i => exact List.pairwise_singleton _ _
theorem ask_small {b : List UInt8} {i : Nat} {room arm : Int} {x : ByteArray} (hb : b.length ≤ 20) (hr : 100 ≤ room) (hr2 : room ≤ 2000) (ha : -1 ≤ arm) (hx : nmd x = true) : askD ⟨fsI b i, room, arm, false⟩ x = 0 := by
  unfold askD
  rw [ck_small hb hr hr2 ha, hx]
  rfl
theorem new_small {room : Int} (hr : 100 ≤ room) (hr2 : room ≤ 2000) : newD room = (⟨[], room, -1, false⟩, 0) := by
  unfold newD
  rw [if_neg (by omega)]
theorem arm_small {room n : Int} (hr : 100 ≤ room) (hr2 : room ≤ 2000) (hn : 0 ≤ n) : armD ⟨[], room, -1, false⟩ n = (⟨[], room, n, false⟩, 0) := by
  unfold armD
  rw [show askD ⟨[], room, -1, false⟩ Xn1 = 0 from ask_small (b := []) (i := 0) (by simp) hr hr2 (by omega) rfl, if_neg (by simp), if_neg (by omega)]
theorem fi_small (b : List UInt8) (i : Nat) : (fiF (fsI b i) A97).d.length ≤ b.length ∧ us (fsI b i) = (fiF (fsI b i) A97).d.length := by
  cases i with
  | zero => exact ⟨Nat.zero_le _, rfl⟩
  | succ i => simp [fsI, fiF, us]
theorem with_small (b : List UInt8) (i : Nat) : withF ⟨A97, b, b.length⟩ (fsI b i) = fsI b (i + 1) := by
  have hu : upf (fsI b i) := by
    cases i with
    | zero => exact List.Pairwise.nil
    | succ i => exact List.pairwise_singleton _ _
  rw [withF_up hu]
  cases i with
  | zero => rfl
  | succ i =>
    have h : ¬ fn (⟨A97, b, b.length⟩ : FV) < fn (⟨A97, b, b.length⟩ : FV) := Bs.irr _
    simp only [fsI, List.filter_cons, List.filter_nil, h, decide_false, Bool.false_eq_true, if_false, List.nil_append]
theorem put_small {b : List UInt8} {i : Nat} {room arm : Int} (hb : b.length ≤ 20) (hr : 100 ≤ room) (hr2 : room ≤ 2000) (ha : 0 < arm) : putD ⟨fsI b i, room, arm, false⟩ A97 b = (⟨fsI b (i + 1), room, arm - 1, false⟩, 0) := by
  have hf := fi_small b i
  have hl := fsI_len b i
  unfold putD
  rw [ask_small hb hr hr2 (by omega) nm97, if_neg (by simp), if_neg, if_neg (by show ¬ arm = 0; omega)]
  · unfold pwD
    rw [if_neg (by show ¬ arm = 0; omega), if_pos (by show 0 < arm; omega)]
    show ((⟨withF _ (fsI b i), room, arm - 1, false⟩ : DV), (0 : Int)) = _
    rw [with_small]
  · rw [Bool.eq_false_iff, Ne, Classical.not_not, fit_iff]
    exact ⟨.inr (by show (fsI b i).length < 64; omega), by show (b.length : Int) - ((fiF (fsI b i) A97).d.length : Nat) ≤ room - (us (fsI b i) : Nat); omega⟩
theorem fi98 (b : List UInt8) (i : Nat) : fiF (fsI b i) B98 = ⟨B98, [], 0⟩ := by
  cases i with
  | zero => rfl
  | succ i =>
    have h : ¬ A97 = B98 := by decide
    simp [fsI, fiF, h]
theorem put_off {b : List UInt8} {i : Nat} {room : Int} (hb : b.length ≤ 20) (hr : 100 ≤ room) (hr2 : room ≤ 2000) : putD ⟨fsI b i, room, 0, false⟩ B98 b = (⟨fsI b i, room, 0, true⟩, 220) := by
  have hf := fsI_us b i
  have hl := fsI_len b i
  unfold putD
  rw [ask_small hb hr hr2 (by omega) nm98, if_neg (by simp), if_neg, if_pos rfl]
  · rfl
  · rw [Bool.eq_false_iff, Ne, Classical.not_not, fit_iff]
    refine ⟨.inr (by show (fsI b i).length < 64; omega), ?_⟩
    show (b.length : Int) - ((fiF (fsI b i) B98).d.length : Nat) ≤ room - (us (fsI b i) : Nat)
    rw [fi98]
    show (b.length : Int) - ((0 : Nat) : Int) ≤ _
    omega
theorem rea_off {b : List UInt8} {i : Nat} {room : Int} (hb : b.length ≤ 20) (hr : 100 ≤ room) (hr2 : room ≤ 2000) : reaD ⟨fsI b i, room, 0, true⟩ A97 = ([], 220) := by
  unfold reaD askD
  rw [ck_small hb hr hr2 (by omega)]
  simp
theorem cra_off {b : List UInt8} {i : Nat} {room : Int} (hb : b.length ≤ 20) (hr : 100 ≤ room) (hr2 : room ≤ 2000) : (craD ⟨fsI b i, room, 0, true⟩ 0).fs.length = min i 1 := by
  rw [cra_ok (ck_small hb hr hr2 (by omega))]
  show ((fsI b i).map _).length = _
  rw [List.length_map, fsI_len]
end Go.Proofs.Ytjjncmenkepcoaa
/- What DiskCalls says, over the program's calls. -/
namespace Go.Proofs.Ytjjncmenkepcoaa
open Go.RowKit

theorem field26_0 (p : Option Addr) (n c : Nat) (a b : Int) (d : Bool) (w : World) : (Instr.field 26 (DKV (.slice p n c) a b d) 0).run Try.prog w = .ok (.slice p n c) w := by simp [Instr.field, go_sem, asAgg]
set_option maxHeartbeats 16000000 in
set_option maxRecDepth 100000 in
theorem dcalls_law (K : Prk) (KH : ∀ w : World, Calls Try.prog 6 #[] w (Tells (.bool true) w)) (room n : Int) (data : List UInt8) (u : Value) (w : World) (hu : DB w u data) : Calls Try.prog 3 #[.int .i64 room, .int .i64 n, u] w (Tells (.bool true) w) := by
  obtain ⟨pu, cu, rfl⟩ := SHas.slice hu
  have hmu := maxLen_lt hu.1
  have HU : Hid (∀ w', Below w.heap.size w w' → DB w' (.slice pu data.length cu) data) := fun w' hb => SHas.later hu hb
  clear hu
  go_enter Try.func3, Try.ntmps3
  by_cases h1 : room < 100
  · go_wp2_with fail
    refine (KH w).mono ?_
    rintro e w1 ⟨rfl, hb⟩
    go_wp2_with fail
    go_ret
    exact ⟨rfl, hb⟩
  by_cases h2 : 2000 < room
  · go_wp2_with fail
    refine (KH w).mono ?_
    rintro e w1 ⟨rfl, hb⟩
    go_wp2_with fail
    go_ret
    exact ⟨rfl, hb⟩
  by_cases h3 : n < 0
  · go_wp2_with fail
    refine (KH w).mono ?_
    rintro e w1 ⟨rfl, hb⟩
    go_wp2_with fail
    go_ret
    exact ⟨rfl, hb⟩
  by_cases h4 : 20 < n
  · go_wp2_with fail
    refine (KH w).mono ?_
    rintro e w1 ⟨rfl, hb⟩
    go_wp2_with fail
    go_ret
    exact ⟨rfl, hb⟩
  by_cases h5 : (20 : Int) < (data.length : Int)
  · go_wp2_with fail
    refine (KH w).mono ?_
    rintro e w1 ⟨rfl, hb⟩
    go_wp2_with fail
    go_ret
    exact ⟨rfl, hb⟩
  have hb20 : data.length ≤ 20 := by omega
  have hr1 : 100 ≤ room := by omega
  have hr2 : room ≤ 2000 := by omega
  obtain ⟨m, rfl⟩ : ∃ m : Nat, n = (m : Int) := ⟨n.toNat, by omega⟩
  have TMi : ∀ (i : Nat) (a : Int) (b : Bool), -1 ≤ a → a ≤ 20 → Tm ⟨fsI data i, room, a, b⟩ := fun i a b ha hb => by
    have := fsI_us data i
    have := fsI_len data i
    exact ⟨by show (fsI data i).length ≤ 80; omega, by show us (fsI data i) ≤ 1048576; omega, by show -9223372036854775808 ≤ room; omega, by show room ≤ _; omega, by show -9223372036854775808 ≤ a; omega, by show a ≤ _; omega⟩
  have HTM : Hid (∀ (i : Nat) (a : Int) (b : Bool), -1 ≤ a → a ≤ 20 → Tm ⟨fsI data i, room, a, b⟩) := TMi
  clear TMi
  have C1 := K.new room w (by omega) (by omega)
  rw [new_small hr1 hr2] at C1
  have hTa := HTM.out 0 (-1) false (by omega) (by omega)
  have hAr : armD ⟨fsI data 0, room, -1, false⟩ (m : Int) = (⟨fsI data 0, room, m, false⟩, 0) := arm_small hr1 hr2 (by omega)
  obtain ⟨Da, HDa⟩ := hid_ex (⟨fsI data 0, room, -1, false⟩ : DV)
  obtain ⟨Db, HDb⟩ := hid_ex (⟨fsI data 0, room, m, false⟩ : DV)
  rw [HDa.out] at hTa hAr
  rw [HDb.out] at hAr
  replace C1 : Calls Try.prog 7 #[.int .i64 room] w (DQ Da 0 w) := by rw [← HDa.out]; exact C1
  have HTa : Hid (Tm Da) := hTa
  have HAr : Hid (armD Da (m : Int) = (Db, 0)) := hAr
  clear hTa hAr
  go_wp2_with fail
  refine C1.mono ?_
  rintro e w1 ⟨p, c, rfl, F, hb1⟩
  have hba := bel_alloc (Below.refl w1.heap.size w1) (.cells (dkc p c Da) 26)
  have B7 := Bx.new F
  have hbel := below_on hb1 hba
  have hb7 : w.heap.size ≤ w1.heap.size := hb1.size
  generalize hW : w1.alloc (.cells (dkc p c Da) 26) = w2 at B7 hbel
  clear F hb1 hba C1
  have C2 := K.arm Da _ (m : Int) w2 B7.f HTa.out (by omega) (by omega)
  rw [HAr.out] at C2
  replace C2 := show Calls Try.prog 8 #[DKV.of (.slice p Da.fs.length c) Da, .int .i64 m] w2 (DQ Db 0 w2) from C2
  go_wp2_with (first | rw [hW] | refine load_r 26 _ rfl rfl _ rfl B7.r Try.underlying26 rfl size26 ?_)
  refine C2.mono ?_
  rintro e w3 ⟨p3, c3, rfl, F, hb3⟩
  replace B7 := B7.later hb3
  replace hbel := below_on hbel hb3
  clear hb3 hW C2
  have Bs := B7
  replace B7 := B7.put F
  replace hbel := bel_row hbel (b := w1.heap.size) hb7 (dkc p3 c3 Db)
  generalize hW : w3.setRow w1.heap.size (dkc p3 c3 Db) = w4 at B7 hbel
  clear F HAr HTa
  have HP : ∀ (i : Nat) (w' : World) (p : Option Addr) (c : Nat), i < m → FHas w' (.slice p (fsI data i).length c) (fsI data i) → DB w' (.slice pu data.length cu) data → Calls Try.prog 9 #[DKV.of (.slice p (fsI data i).length c) ⟨fsI data i, room, (m : Int) - i, false⟩, .string A97, (.slice pu data.length cu)] w' (DQ ⟨fsI data (i + 1), room, (m : Int) - (i + 1 : Nat), false⟩ 0 w') := fun i w' p c hi h hu => by
    have := K.put ⟨fsI data i, room, (m : Int) - i, false⟩ (.slice p (fsI data i).length c) A97 data _ w' h (HTM.out i _ _ (by omega) (by omega)) (by decide) hu (by omega)
    rw [put_small hb20 hr1 hr2 (by omega)] at this
    have e : (m : Int) - (i : Int) - 1 = (m : Int) - ((i + 1 : Nat) : Int) := by omega
    rw [e] at this
    exact this
  have HPP : Hid (∀ (i : Nat) (w' : World) (p : Option Addr) (c : Nat), i < m → FHas w' (.slice p (fsI data i).length c) (fsI data i) → DB w' (.slice pu data.length cu) data → Calls Try.prog 9 #[DKV.of (.slice p (fsI data i).length c) ⟨fsI data i, room, (m : Int) - i, false⟩, .string A97, (.slice pu data.length cu)] w' (DQ ⟨fsI data (i + 1), room, (m : Int) - (i + 1 : Nat), false⟩ 0 w')) := HP
  clear HP
  go_wp2_with (first | rw [hW] | refine store_r rfl 26 _ _ rfl _ _ rfl rfl Bs.r size26 rfl (by simp [Value.oneCell']) ?_)
  clear hW Bs
  generalize w1.heap.size = b7 at B7 hb7 ⊢
  have B7i : Bx w4 b7 p3 c3 ⟨fsI data 0, room, (m : Int) - (0 : Nat), false⟩ := by
    have e : (m : Int) - ((0 : Nat) : Int) = m := by omega
    rw [e, HDb.out]
    exact B7
  clear B7
  go_loopw [10] (fun vi wr => ∃ (k : Nat) (p : Option Addr) (c : Nat), vi = .int .i64 k ∧ k ≤ m ∧ Bx wr b7 p c ⟨fsI data k, room, (m : Int) - k, false⟩ ∧ Below w.heap.size w wr) (fun vi _ => m - (intOf vi).toNat)
  case atStart => exact ⟨0, p3, c3, rfl, by omega, B7i, hbel⟩
  case round =>
    clear B7i hbel
    obtain ⟨k, pk, ck, rfl, hk, B7, hbel⟩ := hrel
    by_cases hlt : k < m
    · have hlt' : (k : Int) < (m : Int) := by omega
      have C := HPP.out k wr pk ck hlt B7.f (HU.out wr hbel)
      obtain ⟨Dn, HDn⟩ := hid_ex (⟨fsI data (k + 1), room, (m : Int) - (k + 1 : Nat), false⟩ : DV)
      rw [HDn.out] at C
      have hdd : Hid (Dn.dead = false) := by show _ = _; rw [← HDn.out]
      obtain ⟨Dk, HDk⟩ := hid_ex (⟨fsI data k, room, (m : Int) - k, false⟩ : DV)
      have C' : Calls Try.prog 9 #[DKV.of (.slice pk Dk.fs.length ck) Dk, .string A97, (.slice pu data.length cu)] wr (DQ Dn 0 wr) := by rw [← HDk.out]; exact C
      rw [HDk.out] at B7
      clear C HDk
      go_wp2_with (first | refine load_r 26 _ rfl rfl _ rfl B7.r Try.underlying26 rfl size26 ?_)
      refine C'.mono ?_
      rintro e w5 ⟨p5, c5, rfl, F5, hb5⟩
      replace B7 := B7.later hb5
      replace hbel := below_on hbel hb5
      clear hb5 C'
      have lt11 : b7 < w5.heap.size := B7.lt
      have hba := bel_alloc (Below.refl w5.heap.size w5) (.cells (dkc p5 c5 Dn) 26)
      replace B7 := B7.later hba
      replace hbel := below_on hbel hba
      have B11 := Bx.new F5
      generalize hW : w5.alloc (.cells (dkc p5 c5 Dn) 26) = w6 at B7 B11 hbel
      have c3 : w6.cell? ⟨w5.heap.size, 3, none⟩ = some (.bool false) := by rw [← hdd.out]; exact B11.r.cell 3
      have F6 := B11.f
      have Bs := B7
      replace B7 := B7.put F6
      replace hbel := bel_row hbel (b := b7) hb7 (dkc p5 c5 Dn)
      generalize hW2 : w6.setRow b7 (dkc p5 c5 Dn) = w7 at B7 hbel
      clear hba F5 F6
      go_wp2_with (first | rw [hW] | refine load_r 26 _ rfl rfl _ rfl B11.r Try.underlying26 rfl size26 ?_ | rw [hW2] | refine store_r rfl 26 _ _ rfl _ _ rfl rfl Bs.r size26 rfl (by simp [Value.oneCell']) ?_)
      try rw [hW2]
      go_roundw
      case rel => exact ⟨k + 1, p5, c5, by simp, by omega, by rw [HDn.out]; exact B7, hbel⟩
      case measure => simp [intOf]; omega
    · have hlt' : ¬ (k : Int) < (m : Int) := by omega
      obtain rfl : k = m := by omega
      have e0 : (k : Int) - (k : Int) = 0 := by omega
      rw [e0] at B7
      clear HPP
      have C := K.put ⟨fsI data k, room, 0, false⟩ _ B98 data _ wr B7.f (HTM.out k _ _ (by omega) (by omega)) (by decide) (HU.out wr hbel) (by omega)
      rw [put_off hb20 hr1 hr2] at C
      have hT := HTM.out k 0 true (by omega) (by omega)
      have hR := rea_off (b := data) (i := k) hb20 hr1 hr2
      have hCx := cra_off (b := data) (i := k) hb20 hr1 hr2
      obtain ⟨Dn, HDn⟩ := hid_ex (⟨fsI data k, room, 0, true⟩ : DV)
      rw [HDn.out] at hT hR hCx
      have hdd : Hid (Dn.dead = true) := by show _ = _; rw [← HDn.out]
      have hdl : Hid (Dn.fs.length = min k 1) := by show _ = _; rw [← HDn.out]; exact fsI_len data k
      have hCxx : Hid ((craD Dn 0).fs.length = min k 1) := hCx
      have hRR : Hid (reaD Dn A97 = ([], 220)) := hR
      clear hCx hR
      obtain ⟨Dk, HDk⟩ := hid_ex (⟨fsI data k, room, 0, false⟩ : DV)
      have C' : Calls Try.prog 9 #[DKV.of (.slice pk Dk.fs.length ck) Dk, .string B98, (.slice pu data.length cu)] wr (DQ Dn 220 wr) := by rw [← HDk.out, ← HDn.out]; exact C
      rw [HDk.out] at B7
      have HT : Hid (Tm Dn) := hT
      clear C HDk HDn hT e0
      go_wp2_with (first | refine load_r 26 _ rfl rfl _ rfl B7.r Try.underlying26 rfl size26 ?_)
      refine C'.mono ?_
      rintro e w5 ⟨p5, c5, rfl, F5, hb5⟩
      replace hbel := below_on hbel hb5
      clear hb5 C' B7
      have hba := bel_alloc (Below.refl w5.heap.size w5) (.cells (dkc p5 c5 Dn) 26)
      replace hbel := below_on hbel hba
      have B13 := Bx.new F5
      generalize hW : w5.alloc (.cells (dkc p5 c5 Dn) 26) = w6 at B13 hbel
      clear hba F5
      have C2 := K.read Dn _ A97 w6 B13.f HT.out (by decide)
      rw [hRR.out] at C2
      go_wp2_with (first | rw [hW] | refine load_r 26 _ rfl rfl _ rfl B13.r Try.underlying26 rfl size26 ?_)
      refine C2.mono ?_
      rintro e w7 ⟨ur, rfl, _, hb7'⟩
      replace B13 := B13.later hb7'
      replace hbel := below_on hbel hb7'
      clear hb7' hW C2 hRR
      have c3 : w7.cell? ⟨w5.heap.size, 3, none⟩ = some (.bool true) := by rw [← hdd.out]; exact B13.r.cell 3
      have c0 : w7.cell? ⟨w5.heap.size, 0, none⟩ = some (.slice p5 Dn.fs.length c5) := B13.r.cell 0
      have C3 := K.crash Dn _ 0 w7 B13.f HT.out (by omega) (by omega)
      obtain ⟨CX, HCX⟩ := hid_ex (craD Dn 0)
      rw [HCX.out] at C3 hCxx
      by_cases h1k : (1 : Int) < (k : Int)
      · have gl : ((Dn.fs.length : Int) == 1) = true := by rw [beq_iff_eq]; have := hdl.out; omega
        have gl2 : ((CX.fs.length : Int) == 1) = true := by rw [beq_iff_eq]; have := hCxx.out; omega
        clear hdl hCxx HCX
        go_wp2_with (first | refine load_r 26 _ rfl rfl _ rfl B13.r Try.underlying26 rfl size26 ?_)
        refine C3.mono ?_
        rintro e w8 ⟨p8, c8, rfl, _, hb8⟩
        have hF1 := fun w => field26_0 p8 CX.fs.length c8 CX.room CX.arm CX.dead w
        go_wp2_with fail
        refine (KH w8).mono ?_
        rintro e w9 ⟨rfl, hb9⟩
        go_wp2_with fail
        go_ret
        exact ⟨rfl, below_on (below_on hbel hb8) hb9⟩
      · have gl : ((Dn.fs.length : Int) == (k : Int)) = true := by rw [beq_iff_eq]; have := hdl.out; omega
        have gl2 : ((CX.fs.length : Int) == (k : Int)) = true := by rw [beq_iff_eq]; have := hCxx.out; omega
        clear hdl hCxx HCX
        go_wp2_with (first | refine load_r 26 _ rfl rfl _ rfl B13.r Try.underlying26 rfl size26 ?_)
        refine C3.mono ?_
        rintro e w8 ⟨p8, c8, rfl, _, hb8⟩
        have hF1 := fun w => field26_0 p8 CX.fs.length c8 CX.room CX.arm CX.dead w
        go_wp2_with fail
        refine (KH w8).mono ?_
        rintro e w9 ⟨rfl, hb9⟩
        go_wp2_with fail
        go_ret
        exact ⟨rfl, below_on (below_on hbel hb8) hb9⟩
end Go.Proofs.Ytjjncmenkepcoaa
