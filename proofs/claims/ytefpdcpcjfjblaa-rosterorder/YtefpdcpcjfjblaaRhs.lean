/- Has, Ints and With of the document's roster. -/
import Derived.Test.YtefpdcpcjfjblaaCrl
namespace Go.Proofs.Ytefpdcpcjfjblaa
open Go.RowKit Go.Sort

set_option maxHeartbeats 2000000 in
set_option maxRecDepth 100000 in
theorem refHasI_any (l : List Int) (n : Int) (sv : Value) (w : World) (h : IHas w sv l) : Calls Try.prog 9 #[sv, .int .i64 n] w (Tells (.bool (l.contains n)) w) := by
  obtain ⟨q, c, rfl⟩ := SHas.slice h
  have hml := maxLen_lt h.1
  obtain ⟨z, HZ⟩ := hid_ex (l.contains n)
  rw [HZ.out]
  have H : Hid (IHas w (.slice q l.length c) l) := h
  have H0 : Hid ((l.drop 0).contains n = z) := HZ.out
  clear h HZ
  go_enter Try.func9, Try.ntmps9
  go_wp2
  go_loopw [5] (fun vi wr => ∃ (k : Nat), vi = .int .i64 k ∧ k ≤ l.length ∧ Hid ((l.drop k).contains n = z) ∧ Below w.heap.size w wr) (fun vi _ => l.length - (intOf vi).toNat)
  case atStart => exact ⟨0, rfl, by omega, H0, Below.refl _ _⟩
  case round =>
    obtain ⟨k, rfl, hk, HV, hbel⟩ := hrel
    by_cases hlt : k < l.length
    · have hlt' : (k : Int) < (l.length : Int) := by omega
      obtain ⟨g, o, rfl, hd0⟩ := H.out.at k hlt
      have c1 := cell_later hbel (hd0 k hlt)
      clear hd0 H H0
      obtain ⟨x, HX⟩ := hid_ex l[k]
      rw [HX.out] at c1
      have HE : Hid (l.drop k = x :: l.drop (k + 1)) := by
        show _ = _
        rw [List.drop_eq_getElem_cons hlt, HX.out]
      clear HX
      by_cases h1 : x = n
      · obtain rfl : true = z := by
          rw [← HV.out, HE.out, h1]
          simp
        clear HV HE
        subst h1
        go_wp2
        go_ret
        exact ⟨rfl, hbel⟩
      · have HN : Hid ((l.drop (k + 1)).contains n = z) := by
          show _ = _
          rw [← HV.out, HE.out]
          have : ¬ n = x := fun e => h1 e.symm
          simp [this]
        clear HV HE
        go_wp2
        go_roundw
        case rel => exact ⟨k + 1, by simp, by omega, HN, hbel⟩
        case measure => simp [intOf]; omega
    · have hlt' : ¬ (k : Int) < (l.length : Int) := by omega
      obtain rfl : k = l.length := by omega
      obtain rfl : false = z := by
        rw [← HV.out, List.drop_length]
        rfl
      clear HV H H0
      go_wp2
      go_ret
      exact ⟨rfl, hbel⟩
set_option maxHeartbeats 2000000 in
set_option maxRecDepth 100000 in
theorem ints_any (l m : List Int) (va vb : Value) (w : World) (ha : IHas w va l) (hb : IHas w vb m) : Calls Try.prog 14 #[va, vb] w (Tells (.bool (decide (l = m))) w) := by
  obtain ⟨q, c, rfl⟩ := SHas.slice ha
  obtain ⟨q2, c2, rfl⟩ := SHas.slice hb
  have hml := maxLen_lt ha.1
  have hml2 := maxLen_lt hb.1
  by_cases hne : l.length = m.length
  · obtain ⟨z, HZ⟩ := hid_ex (decide (l = m))
    rw [HZ.out]
    have H : Hid (IHas w (.slice q l.length c) l) := ha
    have H2 : Hid (IHas w (.slice q2 m.length c2) m) := hb
    have H0 : Hid (decide (l.drop 0 = m.drop 0) = z) := HZ.out
    have HLM : Hid (l.length = m.length) := hne
    have e1 : ((l.length : Int) != (m.length : Int)) = false := by
      rw [hne]
      simp
    have e2 : decide ((l.length : Int) = (m.length : Int)) = true := decide_eq_true (by omega)
    have e3 : ¬ (l.length : Int) ≠ (m.length : Int) := by omega
    clear ha hb HZ hne
    go_enter Try.func14, Try.ntmps14
    go_wp2
    go_loopw [5] (fun vi wr => ∃ (k : Nat), vi = .int .i64 k ∧ k ≤ l.length ∧ Hid (decide (l.drop k = m.drop k) = z) ∧ Below w.heap.size w wr) (fun vi _ => l.length - (intOf vi).toNat)
    case atStart => exact ⟨0, rfl, by omega, H0, Below.refl _ _⟩
    case round =>
      clear e1 e2 e3
      obtain ⟨k, rfl, hk, HV, hbel⟩ := hrel
      by_cases hlt : k < l.length
      · have hlt' : (k : Int) < (l.length : Int) := by omega
        have hlm : k < m.length := by have := HLM.out; omega
        have hlm' : (k : Int) < (m.length : Int) := by omega
        obtain ⟨g, o, rfl, hd0⟩ := H.out.at k hlt
        obtain ⟨g2, o2, rfl, hd2⟩ := H2.out.at k hlm
        have c1 := cell_later hbel (hd0 k hlt)
        have c2 := cell_later hbel (hd2 k hlm)
        clear hd0 H H0 hd2 H2
        obtain ⟨x, HX⟩ := hid_ex l[k]
        obtain ⟨y, HY⟩ := hid_ex m[k]
        rw [HX.out] at c1
        rw [HY.out] at c2
        have HE : Hid (decide (l.drop k = m.drop k) = (decide (x = y) && decide (l.drop (k + 1) = m.drop (k + 1)))) := by
          show _ = _
          rw [List.drop_eq_getElem_cons hlt, List.drop_eq_getElem_cons hlm, HX.out, HY.out]
          simp
        clear HX HY
        have ST : Calm.Stays (fun w' : World => w'.cell? ⟨g, o + k, none⟩ = some (.int .i64 x) ∧ w'.cell? ⟨g2, o2 + k, none⟩ = some (.int .i64 y) ∧ Below wr.heap.size wr w') := fun a b h hb => ⟨cell_later hb h.1, cell_later hb h.2.1, below_on h.2.2 hb⟩
        by_cases h1 : x = y
        · have HN : Hid (decide (l.drop (k + 1) = m.drop (k + 1)) = z) := by
            show _ = _
            rw [← HV.out, HE.out, h1]
            simp
          clear HV HE HLM
          subst h1
          go_wp2_with fail
          refine Calm.region (by kernel_rfl) (by kernel_rfl) (fun w' : World => w'.cell? ⟨g, o + k, none⟩ = some (.int .i64 x) ∧ w'.cell? ⟨g2, o2 + k, none⟩ = some (.int .i64 x) ∧ Below wr.heap.size wr w') ⟨c1, c2, (Below.refl _ _).drew⟩ ?_
          iterate 3 (refine Calm.pu ?_)
          refine Calm.ce (fun _ h => h.1) ?_
          iterate 3 (refine Calm.pu ?_)
          refine Calm.ce (fun _ h => h.2.1) ?_
          refine Calm.pu ?_
          intro w6 hS6
          go_wp2_with fail
          go_roundw
          case rel => exact ⟨k + 1, by simp, by omega, HN, below_on hbel hS6.2.2⟩
          case measure => simp [intOf]; omega
        · obtain rfl : false = z := by
            rw [← HV.out, HE.out]
            simp [h1]
          have h1' : (x != y) = true := bne_iff_ne.2 h1
          clear HV HE HLM
          go_wp2_with fail
          refine Calm.region (by kernel_rfl) (by kernel_rfl) (fun w' : World => w'.cell? ⟨g, o + k, none⟩ = some (.int .i64 x) ∧ w'.cell? ⟨g2, o2 + k, none⟩ = some (.int .i64 y) ∧ Below wr.heap.size wr w') ⟨c1, c2, (Below.refl _ _).drew⟩ ?_
          iterate 3 (refine Calm.pu ?_)
          refine Calm.ce (fun _ h => h.1) ?_
          iterate 3 (refine Calm.pu ?_)
          refine Calm.ce (fun _ h => h.2.1) ?_
          refine Calm.pu ?_
          intro w6 hS6
          go_wp2_with fail
          go_ret
          exact ⟨rfl, below_on hbel hS6.2.2⟩
      · have hlt' : ¬ (k : Int) < (l.length : Int) := by omega
        obtain rfl : k = l.length := by omega
        obtain rfl : true = z := by
          rw [← HV.out, List.drop_length]
          conv => rhs; rw [HLM.out, List.drop_length]
          rfl
        clear HV H H0 H2 HLM
        go_wp2_with fail
        go_ret
        exact ⟨rfl, hbel⟩
  · have e0 : decide (l = m) = false := decide_eq_false fun e => hne (by rw [e])
    rw [e0]
    have e3 : ((l.length : Int) != (m.length : Int)) = true := bne_iff_ne.2 (by omega)
    have e4 : (l.length : Int) ≠ (m.length : Int) := by omega
    clear ha hb e0 hne
    go_enter Try.func14, Try.ntmps14
    go_wp2
    go_ret
    exact ⟨rfl, Below.refl _ _⟩
end Go.Proofs.Ytefpdcpcjfjblaa
