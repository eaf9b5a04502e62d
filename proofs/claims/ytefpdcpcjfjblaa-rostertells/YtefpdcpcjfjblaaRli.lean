/- Live and Epoch of the document's roster. -/
import Derived.Test.YtefpdcpcjfjblaaRwi
import Derived.Test.YtefpdcpcjfjblaaLiv
namespace Go.Proofs.Ytefpdcpcjfjblaa
open Go.RowKit Go.Sort

theorem own_later {w w' : World} {B e S n : Nat} {v : Value} {xs : List Value} (h : w.ownsRow B e S v n xs) (hb : Below w.heap.size w w') : w'.ownsRow B e S v n xs := by
  obtain ⟨h1, ⟨rfl, h0⟩ | ⟨g, cap, cur, rfl, hbg, hg, h2⟩⟩ := h
  · exact ⟨h1, .inl ⟨rfl, h0⟩⟩
  · exact ⟨h1, .inr ⟨g, cap, cur, rfl, hbg, (hb.block g (Array.getElem?_eq_some_iff.1 hg).1).trans hg, h2⟩⟩
theorem lv_take (a b : List Int) (k : Nat) (h : k < a.length) : lv (a.take (k + 1)) b = if b.contains a[k] then lv (a.take k) b else lv (a.take k) b ++ [a[k]] := by
  unfold lv
  rw [List.take_succ_eq_append_getElem h, List.filter_append]
  cases e : b.contains a[k]
  · rw [List.filter_cons_of_pos (by rw [e]; rfl)]
    simp
  · rw [List.filter_cons_of_neg (by rw [e]; simp)]
    simp
theorem lv_le (a b : List Int) : (lv a b).length ≤ a.length := List.length_filter_le ..
set_option maxHeartbeats 4000000 in
set_option maxRecDepth 100000 in
theorem refLive_any (a b : List Int) (va vb : Value) (w : World) (ha : IHas w va a) (hb : IHas w vb b) : Calls Try.prog 15 #[va, vb] w (IPost (lvL a b) w) := by
  obtain ⟨i0, hi, hz0, hz1, hz2⟩ := info_parts info3
  have C0 := refRoster_any a va w ha
  have C1 := fun (w1 : World) (hb1 : Below w.heap.size w w1) => refRoster_any b vb w1 (SHas.later hb hb1)
  unfold lvL
  cases h1 : ckI a
  · rw [h1] at C0
    simp only [Bool.false_and, Bool.false_eq_true, if_false]
    clear ha hb C1
    go_enter Try.func15, Try.ntmps15
    go_wp2_with fail
    refine C0.mono ?_
    rintro e w1 ⟨rfl, hb1⟩
    go_wp2_with fail
    go_ret
    exact ⟨_, rfl, SHas.nil _ _, hb1⟩
  rw [h1] at C0
  cases h2 : ckI b
  · rw [h2] at C1
    simp only [Bool.and_false, Bool.false_eq_true, if_false]
    clear ha hb
    go_enter Try.func15, Try.ntmps15
    go_wp2_with fail
    refine C0.mono ?_
    rintro e w1 ⟨rfl, hb1⟩
    go_wp2_with fail
    refine (C1 w1 hb1).mono ?_
    rintro e w2 ⟨rfl, hb2⟩
    replace hb2 := below_on hb1 hb2
    go_wp2_with fail
    go_ret
    exact ⟨_, rfl, SHas.nil _ _, hb2⟩
  rw [h2] at C1
  simp only [Bool.and_true, if_true]
  have hla := ck_len h1
  obtain ⟨q, c, rfl⟩ := SHas.slice ha
  have H : Hid (IHas w (.slice q a.length c) a) := ha
  have CH := fun (n : Int) (w1 : World) (hb1 : Below w.heap.size w w1) => refHasI_any b n vb w1 (SHas.later hb hb1)
  clear ha hb h1 h2
  go_enter Try.func15, Try.ntmps15
  go_wp2_with fail
  refine C0.mono ?_
  rintro e w1 ⟨rfl, hb1⟩
  go_wp2_with fail
  refine (C1 w1 hb1).mono ?_
  rintro e w2 ⟨rfl, hb2⟩
  replace hb2 := below_on hb1 hb2
  clear C0 C1 hb1
  go_wp2_with fail
  go_loopw [5, 6] (fun vo vi wr => ∃ (k : Nat) (out : List Int), vi = .int .i64 k ∧ k ≤ a.length ∧ Hid (lv (a.take k) b = out) ∧ out.length ≤ k ∧ wr.ownsRow w.heap.size 3 1 vo out.length (vals out) ∧ Below w.heap.size w wr) (fun _ vi _ => a.length - (intOf vi).toNat)
  case atStart => exact ⟨0, [], rfl, by omega, (by rw [List.take_zero]; rfl), by simp, ⟨rfl, .inl ⟨rfl, rfl⟩⟩, hb2⟩
  case round =>
    clear hb2
    obtain ⟨k, out, rfl, hk, HV, hout, hrow, hbel⟩ := hrel
    by_cases hlt : k < a.length
    · have hlt' : (k : Int) < (a.length : Int) := by omega
      obtain ⟨g, o, rfl, hd0⟩ := H.out.at k hlt
      have H1 := hd0 k hlt
      have HE := lv_take a b k hlt
      rw [HV.out] at HE
      clear hd0 H HV
      generalize a[k] = x at H1 HE
      have c1 := cell_later hbel H1
      have C := CH x wr hbel
      clear CH
      cases hc : b.contains x
      · rw [hc] at C HE
        have HE2 : Hid (lv (a.take (k + 1)) b = out ++ [x]) := HE
        clear HE hc
        go_wp2_with fail
        refine C.mono ?_
        rintro e w3 ⟨rfl, hb3⟩
        have c2 := cell_later hb3 c1
        have hrow3 := own_later hrow hb3
        replace hbel := below_on hbel hb3
        clear c1 C hb3 hrow
        go_wp2_with (first | (at_builtin; refine wpList_append_own _ rfl _ _ 22 rfl w.heap.size 3 i0 (.int .i64 0) 1 8 Try.underlying22 hi hz0 hz1 hz2 rfl (by decide) _ _ _ rfl (hrow3.alloc _) ⟨w3.heap.size, 0, none⟩ 1 1 [.int .i64 x] rfl rfl (cell_one_new _ _ _) (by simp [Value.oneCell']) (by unfold maxLen; omega) (by omega) (by have := hbel.size; simp; omega) ?_; intro v2 w4 o_v2 g_v2 _))
        have hb4 := (bel_alloc hbel (.cells #[.int .i64 x] 3)).grown g_v2 (bel_alloc hbel (.cells #[.int .i64 x] 3)).size (fun j hj => (World.ownsRow.lt hrow3 j hj).1)
        have hr2 : w4.ownsRow w.heap.size 3 1 v2 (out ++ [x]).length (vals (out ++ [x])) := by
          rw [List.length_append, vals_map, List.map_append]
          exact o_v2
        go_wp2_with fail
        go_roundw
        case rel => exact ⟨k + 1, out ++ [x], by simp, by omega, HE2, by simp; omega, hr2, hb4⟩
        case measure => simp [intOf]; omega
      · rw [hc] at C HE
        have HE2 : Hid (lv (a.take (k + 1)) b = out) := HE
        clear HE hc
        go_wp2_with fail
        refine C.mono ?_
        rintro e w3 ⟨rfl, hb3⟩
        have hrow3 := own_later hrow hb3
        replace hbel := below_on hbel hb3
        clear c1 C hb3 hrow
        go_wp2_with fail
        go_roundw
        case rel => exact ⟨k + 1, out, by simp, by omega, HE2, by omega, hrow3, hbel⟩
        case measure => simp [intOf]; omega
    · have hlt' : ¬ (k : Int) < (a.length : Int) := by omega
      obtain rfl : k = a.length := by omega
      have e := HV.out
      rw [List.take_length] at e
      subst e
      clear HV H CH
      obtain ⟨qq, cc, rfl⟩ := own_sl hrow
      go_wp2_with fail
      go_ret
      exact ⟨_, rfl, own_sh hrow, hbel⟩
set_option maxHeartbeats 2000000 in
set_option maxRecDepth 100000 in
theorem refEpoch_any (a b : List Int) (va vb : Value) (w : World) (ha : IHas w va a) (hb : IHas w vb b) : Calls Try.prog 17 #[va, vb] w (Tells (.int .i64 (ep a b)) w) := by
  have C0 := refRoster_any a va w ha
  have C1 := fun (w1 : World) (hb1 : Below w.heap.size w w1) => refRoster_any b vb w1 (SHas.later hb hb1)
  unfold ep
  cases h1 : ckI a
  · rw [h1] at C0
    simp only [Bool.false_and, Bool.false_eq_true, if_false]
    clear ha hb C1
    go_enter Try.func17, Try.ntmps17
    go_wp2_with fail
    refine C0.mono ?_
    rintro e w1 ⟨rfl, hb1⟩
    go_wp2_with fail
    go_ret
    exact ⟨rfl, hb1⟩
  rw [h1] at C0
  cases h2 : ckI b
  · rw [h2] at C1
    simp only [Bool.and_false, Bool.false_eq_true, if_false]
    clear ha hb
    go_enter Try.func17, Try.ntmps17
    go_wp2_with fail
    refine C0.mono ?_
    rintro e w1 ⟨rfl, hb1⟩
    go_wp2_with fail
    refine (C1 w1 hb1).mono ?_
    rintro e w2 ⟨rfl, hb2⟩
    replace hb2 := below_on hb1 hb2
    go_wp2_with fail
    go_ret
    exact ⟨rfl, hb2⟩
  rw [h2] at C1
  simp only [Bool.and_true, if_true]
  have hla := ck_len h1
  have hlb := ck_len h2
  obtain ⟨q, c, rfl⟩ := SHas.slice ha
  obtain ⟨q2, c2, rfl⟩ := SHas.slice hb
  have hs : IntKind.i64.wrap ((a.length : Int) + (b.length : Int)) = (a.length : Int) + (b.length : Int) := by rw [IntKind.wrap_i64]; omega
  clear ha hb h1 h2
  go_enter Try.func17, Try.ntmps17
  go_wp2_with fail
  refine C0.mono ?_
  rintro e w1 ⟨rfl, hb1⟩
  go_wp2_with fail
  refine (C1 w1 hb1).mono ?_
  rintro e w2 ⟨rfl, hb2⟩
  replace hb2 := below_on hb1 hb2
  go_wp2_with fail
  go_ret
  exact ⟨rfl, hb2⟩
end Go.Proofs.Ytefpdcpcjfjblaa
