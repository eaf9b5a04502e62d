/- Check, checkBoth, crowdOf and list of package roster. -/
import Derived.Test.YtefpdcpcjfjblaaRm
import Derived.Test.YtefpdcpcjfjblaaSrt
import Derived.Maps.RangeWalk
import Derived.Maps.OwnSet
import Derived.Sort.OwnSortedInts
namespace Go.Proofs.Ytefpdcpcjfjblaa
open Go.RowKit Go.Sort Go.Maps Go.WideMaps

/-- Numbers rise, from the one ahead on. -/
def ckF (m : Int) : List Int → Bool
  | [] => true
  | x :: l => (decide (m < x) && decide (x ≤ 12)) && ckF x l
theorem ckF_iff : ∀ (l : List Int) (m : Int), ckF m l = true ↔ Up l ∧ ∀ x ∈ l, m < x ∧ x ≤ 12
  | [], m => by simp [ckF, Up]
  | x :: l, m => by
    rw [ckF, Bool.and_eq_true, Bool.and_eq_true, decide_eq_true_eq, decide_eq_true_eq, ckF_iff l x]
    constructor
    · rintro ⟨⟨h1, h2⟩, h3, h4⟩
      refine ⟨List.pairwise_cons.2 ⟨fun z hz => (h4 z hz).1, h3⟩, fun z hz => ?_⟩
      rcases List.mem_cons.1 hz with e | e
      · subst e
        exact ⟨h1, h2⟩
      · have := h4 z e
        omega
    · rintro ⟨h1, h2⟩
      obtain ⟨h3, h4⟩ := List.pairwise_cons.1 h1
      have := h2 x (List.mem_cons_self ..)
      exact ⟨this, h4, fun z hz => ⟨h3 z hz, (h2 z (List.mem_cons_of_mem _ hz)).2⟩⟩
theorem ckF_zero (l : List Int) : ckF 0 l = ckI l := by
  have : ckF 0 l = true ↔ ckI l = true := by
    rw [ckF_iff, ckI_up]
    constructor
    · rintro ⟨h1, h2⟩
      exact ⟨h1, fun x hx => by have := h2 x hx; omega⟩
    · rintro ⟨h1, h2⟩
      exact ⟨h1, fun x hx => by have := h2 x hx; omega⟩
  cases h : ckI l
  · cases h2 : ckF 0 l
    · rfl
    · rw [this.1 h2] at h
      cases h
  · exact this.2 h
set_option maxHeartbeats 2000000 in
set_option maxRecDepth 100000 in
theorem rosCheck_any (l : List Int) (sv : Value) (w : World) (h : IHas w sv l) : Calls Try.prog 10 #[sv] w (Tells (.bool (ckI l)) w) := by
  obtain ⟨q, c, rfl⟩ := SHas.slice h
  have hml := maxLen_lt h.1
  obtain ⟨z, HZ⟩ := hid_ex (ckI l)
  rw [HZ.out]
  have H : Hid (IHas w (.slice q l.length c) l) := h
  have H0 : Hid (ckF 0 (l.drop 0) = z) := by
    show _ = _
    rw [List.drop_zero, ckF_zero]
    exact HZ.out
  clear h HZ
  go_enter Try.func10, Try.ntmps10
  go_wp2
  go_loopw [3, 8] (fun va vi wr => ∃ (k : Nat) (m : Int), vi = .int .i64 k ∧ va = .int .i64 m ∧ k ≤ l.length ∧ Hid (ckF m (l.drop k) = z) ∧ Below w.heap.size w wr) (fun _ vi _ => l.length - (intOf vi).toNat)
  case atStart => exact ⟨0, 0, rfl, rfl, by omega, H0, Below.refl _ _⟩
  case round =>
    obtain ⟨k, m, rfl, rfl, hk, HV, hbel⟩ := hrel
    by_cases hlt : k < l.length
    · have hlt' : (k : Int) < (l.length : Int) := by omega
      obtain ⟨g, o, rfl, hd0⟩ := H.out.at k hlt
      have c1 := cell_later hbel (hd0 k hlt)
      clear hd0 H H0
      obtain ⟨x, HX⟩ := hid_ex l[k]
      rw [HX.out] at c1
      have HE : Hid (l.drop k = x :: l.drop (k + 1)) := by
        show _ = _
        rw [List.drop_eq_getElem_cons hlt, HX.out]
      clear HX
      by_cases h1 : x ≤ m
      · obtain rfl : false = z := by
          rw [← HV.out, HE.out]
          have : ¬ m < x := by omega
          simp [ckF, this]
        go_wp2
        go_ret
        exact ⟨rfl, hbel⟩
      · by_cases h2 : 12 < x
        · obtain rfl : false = z := by
            rw [← HV.out, HE.out]
            have : ¬ x ≤ 12 := by omega
            simp [ckF, this]
          go_wp2
          go_ret
          exact ⟨rfl, hbel⟩
        · have HN : Hid (ckF x (l.drop (k + 1)) = z) := by
            show _ = _
            rw [← HV.out, HE.out, ckF]
            have e1 : m < x := by omega
            have e2 : x ≤ 12 := by omega
            simp [e1, e2]
          clear HV HE
          go_wp2
          go_roundw
          case rel => exact ⟨k + 1, x, by simp, rfl, by omega, HN, hbel⟩
          case measure => simp [intOf]; omega
    · have hlt' : ¬ (k : Int) < (l.length : Int) := by omega
      obtain rfl : k = l.length := by omega
      obtain rfl : true = z := by
        rw [← HV.out, List.drop_length]
        rfl
      clear HV H H0
      go_wp2
      go_ret
      exact ⟨rfl, hbel⟩
set_option maxHeartbeats 2000000 in
set_option maxRecDepth 100000 in
theorem checkBoth_any (l m : List Int) (sv sm : Value) (w : World) (h : IHas w sv l) (hm : IHas w sm m) : Calls Try.prog 19 #[sv, sm] w (Tells (.bool (ckI l && ckI m)) w) := by
  have C1 := rosCheck_any l sv w h
  have C2 := fun (w1 : World) (hb : Below w.heap.size w w1) => rosCheck_any m sm w1 (SHas.later hm hb)
  obtain ⟨a, HA⟩ := hid_ex (ckI l)
  obtain ⟨b, HB⟩ := hid_ex (ckI m)
  rw [HA.out] at C1 ⊢
  rw [HB.out] at C2 ⊢
  clear HA HB h hm
  cases a
  · go_enter Try.func19, Try.ntmps19
    go_wp2_with fail
    refine C1.mono ?_
    rintro e w1 ⟨rfl, hb1⟩
    go_wp2_with fail
    go_ret
    exact ⟨rfl, hb1⟩
  · go_enter Try.func19, Try.ntmps19
    go_wp2_with fail
    refine C1.mono ?_
    rintro e w1 ⟨rfl, hb1⟩
    go_wp2_with fail
    refine (C2 w1 hb1).mono ?_
    rintro e w2 ⟨rfl, hb2⟩
    go_wp2_with fail
    go_ret
    exact ⟨by simp, below_on hb1 hb2⟩
end Go.Proofs.Ytefpdcpcjfjblaa
