/- What RosterLives says. -/
import Derived.Test.YtefpdcpcjfjblaaHds
namespace Go.Proofs.Ytefpdcpcjfjblaa
open Go.RowKit

theorem lives_eq (a b : List Int) (n : Int) : (lv a b).contains n = (a.contains n && !b.contains n) := by
  rw [Bool.eq_iff_iff]
  simp [mem_lv]
theorem ck_lv {a b : List Int} (h : ckI a = true) : ckI (lv a b) = true := by
  obtain ⟨h1, h2⟩ := (ckI_up a).1 h
  exact (ckI_up _).2 ⟨up_lv h1, fun x hx => h2 x (mem_lv.1 hx).1⟩
set_option maxHeartbeats 4000000 in
set_option maxRecDepth 100000 in
theorem lives_any (a b : List Int) (n : Int) (va vb : Value) (w : World) (ha : IHas w va a) (hb : IHas w vb b) : Calls Try.prog 3 #[va, vb, .int .i64 n] w (Tells (.bool true) w) := by
  have hma := maxLen_lt ha.1
  have hmb := maxLen_lt hb.1
  have C0 := refRoster_any a va w ha
  have C1 := fun (w1 : World) (hb1 : Below w.heap.size w w1) => refRoster_any b vb w1 (SHas.later hb hb1)
  have CL := fun (w1 : World) (hb1 : Below w.heap.size w w1) => live_any a b va vb w1 (SHas.later ha hb1) (SHas.later hb hb1)
  have CA := fun (w1 : World) (hb1 : Below w.heap.size w w1) => refHasI_any a n va w1 (SHas.later ha hb1)
  have CB := fun (w1 : World) (hb1 : Below w.heap.size w w1) => refHasI_any b n vb w1 (SHas.later hb hb1)
  have CH := fun (w1 : World) => heads_any w1
  obtain ⟨q, c, rfl⟩ := SHas.slice ha
  obtain ⟨q2, c2, rfl⟩ := SHas.slice hb
  clear ha hb
  by_cases h1 : 40 < a.length
  · have g1 : (40 : Int) < (a.length : Int) := by omega
    clear C0 C1 CL CA CB
    go_enter Try.func3, Try.ntmps3
    go_wp2_with fail
    refine (CH w).mono ?_
    rintro e w1 ⟨rfl, hb1⟩
    go_wp2_with fail
    go_ret
    exact ⟨rfl, hb1⟩
  have g1 : ¬ (40 : Int) < (a.length : Int) := by omega
  by_cases h2 : 40 < b.length
  · have g2 : (40 : Int) < (b.length : Int) := by omega
    clear C0 C1 CL CA CB
    go_enter Try.func3, Try.ntmps3
    go_wp2_with fail
    refine (CH w).mono ?_
    rintro e w1 ⟨rfl, hb1⟩
    go_wp2_with fail
    go_ret
    exact ⟨rfl, hb1⟩
  have g2 : ¬ (40 : Int) < (b.length : Int) := by omega
  cases h3 : ckI a
  · rw [h3] at C0
    clear C1 CL CA CB
    go_enter Try.func3, Try.ntmps3
    go_wp2_with fail
    refine C0.mono ?_
    rintro e w1 ⟨rfl, hb1⟩
    go_wp2_with fail
    refine (CH w1).mono ?_
    rintro e w2 ⟨rfl, hb2⟩
    replace hb2 := below_on hb1 hb2
    go_wp2_with fail
    go_ret
    exact ⟨rfl, hb2⟩
  rw [h3] at C0
  cases h4 : ckI b
  · rw [h4] at C1
    clear CL CA CB
    go_enter Try.func3, Try.ntmps3
    go_wp2_with fail
    refine C0.mono ?_
    rintro e w1 ⟨rfl, hb1⟩
    go_wp2_with fail
    refine (C1 w1 hb1).mono ?_
    rintro e w2 ⟨rfl, hb2⟩
    replace hb2 := below_on hb1 hb2
    go_wp2_with fail
    refine (CH w2).mono ?_
    rintro e w3 ⟨rfl, hb3⟩
    replace hb3 := below_on hb2 hb3
    go_wp2_with fail
    go_ret
    exact ⟨rfl, hb3⟩
  rw [h4] at C1
  have el : lvL a b = lv a b := by simp [lvL, h3, h4]
  have hk := ck_lv (b := b) h3
  have CK := fun (w1 : World) (u : Value) (hI : IHas w1 u (lv a b)) => rosCheck_any (lv a b) u w1 hI
  rw [hk] at CK
  have CX := fun (w1 : World) (u : Value) (hI : IHas w1 u (lv a b)) => refHasI_any (lv a b) n u w1 hI
  rw [lives_eq] at CX
  rw [el] at CL
  obtain ⟨x, HX⟩ := hid_ex (a.contains n)
  obtain ⟨y, HY⟩ := hid_ex (b.contains n)
  rw [HX.out, HY.out] at CX
  rw [HX.out] at CA
  rw [HY.out] at CB
  clear HX HY el h3 h4 hk
  go_enter Try.func3, Try.ntmps3
  go_wp2_with fail
  refine C0.mono ?_
  rintro e w1 ⟨rfl, hb1⟩
  go_wp2_with fail
  refine (C1 w1 hb1).mono ?_
  rintro e w2 ⟨rfl, hb2⟩
  replace hb2 := below_on hb1 hb2
  go_wp2_with fail
  refine (CL w2 hb2).mono ?_
  rintro e w3 ⟨u3, rfl, hI, hb3⟩
  replace hb3 := below_on hb2 hb3
  obtain ⟨q3, c3, rfl⟩ := SHas.slice hI
  clear C0 C1 CL hb1 hb2
  cases x
  · simp only [Bool.false_and] at CX
    go_wp2_with fail
    refine (CX w3 _ hI).mono ?_
    rintro e w4 ⟨rfl, hb4⟩
    replace hI := SHas.later hI hb4
    replace hb4 := below_on hb3 hb4
    go_wp2_with fail
    refine (CA w4 hb4).mono ?_
    rintro e w5 ⟨rfl, hb5⟩
    replace hI := SHas.later hI hb5
    replace hb5 := below_on hb4 hb5
    go_wp2_with fail
    refine (CK w5 _ hI).mono ?_
    rintro e w6 ⟨rfl, hb6⟩
    replace hb6 := below_on hb5 hb6
    go_wp2_with fail
    refine (CH w6).mono ?_
    rintro e w7 ⟨rfl, hb7⟩
    replace hb7 := below_on hb6 hb7
    go_wp2_with fail
    go_ret
    exact ⟨rfl, hb7⟩
  · simp only [Bool.true_and] at CX
    cases y
    all_goals
      go_wp2_with fail
      refine (CX w3 _ hI).mono ?_
      rintro e w4 ⟨rfl, hb4⟩
      replace hI := SHas.later hI hb4
      replace hb4 := below_on hb3 hb4
      go_wp2_with fail
      refine (CA w4 hb4).mono ?_
      rintro e w5 ⟨rfl, hb5⟩
      replace hI := SHas.later hI hb5
      replace hb5 := below_on hb4 hb5
      go_wp2_with fail
      refine (CB w5 hb5).mono ?_
      rintro e w5' ⟨rfl, hb5'⟩
      replace hI := SHas.later hI hb5'
      replace hb5' := below_on hb5 hb5'
      go_wp2_with fail
      refine (CK w5' _ hI).mono ?_
      rintro e w6 ⟨rfl, hb6⟩
      replace hb6 := below_on hb5' hb6
      go_wp2_with fail
      refine (CH w6).mono ?_
      rintro e w7 ⟨rfl, hb7⟩
      replace hb7 := below_on hb6 hb7
      go_wp2_with fail
      go_ret
      exact ⟨rfl, hb7⟩
end Go.Proofs.Ytefpdcpcjfjblaa
