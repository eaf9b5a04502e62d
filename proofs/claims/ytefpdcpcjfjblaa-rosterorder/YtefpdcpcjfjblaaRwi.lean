/- With of the document's roster. -/
import Derived.Test.YtefpdcpcjfjblaaRhs
namespace Go.Proofs.Ytefpdcpcjfjblaa
open Go.RowKit Go.Sort

set_option maxHeartbeats 4000000 in
set_option maxRecDepth 100000 in
theorem refWith_any (l : List Int) (n : Int) (sv : Value) (w : World) (h : IHas w sv l) (hu : Up l) (hl : l.length ≤ 1000) : Calls Try.prog 26 #[sv, .int .i64 n] w (IPost (insI n l) w) := by
  obtain ⟨i0, hi, hz0, hz1, hz2⟩ := info_parts info3
  have C0 := refHasI_any l n sv w h
  obtain ⟨q, c, rfl⟩ := SHas.slice h
  cases hc : l.contains n
  · rw [hc] at C0
    have hn : n ∉ l := by
      intro hh
      rw [List.contains_iff_mem.2 hh] at hc
      cases hc
    have H : Hid (IHas w (.slice q l.length c) l) := h
    have HN : Hid (n ∉ l) := hn
    clear h hc hn hu
    have H0 : Hid (([] : List Int) ++ (if false = true then l.drop 0 else insI n (l.drop 0)) = insI n l) := by
      show _ = _
      rw [List.drop_zero]
      rfl
    go_enter Try.func26, Try.ntmps26
    go_wp2_with fail
    refine C0.mono ?_
    rintro e w1 ⟨rfl, hb1⟩
    go_wp2_with fail
    go_loopw [5, 6, 7] (fun vo vd vi wr => ∃ (k : Nat) (d : Bool) (out : List Int), vi = .int .i64 k ∧ vd = .bool d ∧ k ≤ l.length ∧ out.length ≤ k + d.toNat ∧ wr.ownsRow w.heap.size 3 1 vo out.length (vals out) ∧ Hid (out ++ (if d = true then l.drop k else insI n (l.drop k)) = insI n l) ∧ Below w.heap.size w wr) (fun _ _ vi _ => l.length - (intOf vi).toNat)
    case atStart => exact ⟨0, false, [], rfl, rfl, by omega, by simp, ⟨rfl, .inl ⟨rfl, rfl⟩⟩, H0, hb1⟩
    case round =>
      clear hb1 H0 C0
      obtain ⟨k, d, out, rfl, rfl, hk, hout, hrow, HV, hbel⟩ := hrel
      by_cases hlt : k < l.length
      · have hlt' : (k : Int) < (l.length : Int) := by omega
        obtain ⟨g, o, rfl, hd0⟩ := H.out.at k hlt
        have H1 := hd0 k hlt
        have c1 := cell_later hbel H1
        clear hd0 H
        have hxn : l[k] ≠ n := fun e => HN.out (by rw [← e]; exact List.getElem_mem _)
        obtain ⟨x, HX⟩ := hid_ex l[k]
        rw [HX.out] at c1 hxn H1
        have HE : Hid (l.drop k = x :: l.drop (k + 1)) := by
          show _ = _
          rw [List.drop_eq_getElem_cons hlt, HX.out]
        clear HX HN
        cases d
        · by_cases h1 : n < x
          · have HV2 : Hid ((out ++ [n] ++ [x]) ++ (if true = true then l.drop (k + 1) else insI n (l.drop (k + 1))) = insI n l) := by
              show _ = _
              rw [← HV.out, HE.out]
              simp [insI, h1]
            clear HV HE
            simp at hout
            go_upto_region 11 with (first | (at_builtin; refine wpList_append_own _ rfl _ _ 22 rfl w.heap.size 3 i0 (.int .i64 0) 1 8 Try.underlying22 hi hz0 hz1 hz2 rfl (by decide) _ _ _ rfl (hrow.alloc _) ⟨wr.heap.size, 0, none⟩ 1 1 [.int .i64 n] rfl rfl (cell_one_new _ _ _) (by simp [Value.oneCell']) (by unfold maxLen; omega) (by omega) (by have := hbel.size; simp; omega) ?_; intro v2 w2 o_v2 g_v2 _))
            have hb2 := (bel_alloc hbel (.cells #[.int .i64 n] 3)).grown g_v2 (bel_alloc hbel (.cells #[.int .i64 n] 3)).size (fun j hj => (World.ownsRow.lt hrow j hj).1)
            have hr2 : w2.ownsRow w.heap.size 3 1 v2 (out.length + 1) (vals (out ++ [n])) := by
              rw [vals_map, List.map_append]
              exact o_v2
            have c2 : w2.cell? ⟨g, o + k, none⟩ = some (.int .i64 x) := cell_later hb2 H1
            clear hbel hrow c1 g_v2 o_v2
            have hbel := hb2
            go_wp2_with (first | (at_builtin; refine wpList_append_own _ rfl _ _ 22 rfl w.heap.size 3 i0 (.int .i64 0) 1 8 Try.underlying22 hi hz0 hz1 hz2 rfl (by decide) _ _ _ rfl (hr2.alloc _) ⟨w2.heap.size, 0, none⟩ 1 1 [.int .i64 x] rfl rfl (cell_one_new _ _ _) (by simp [Value.oneCell']) (by unfold maxLen; omega) (by omega) (by have := hbel.size; simp; omega) ?_; intro v3 w3 o_v3 g_v3 _))
            have hb3 := (bel_alloc hbel (.cells #[.int .i64 x] 3)).grown g_v3 (bel_alloc hbel (.cells #[.int .i64 x] 3)).size (fun j hj => (World.ownsRow.lt hr2 j hj).1)
            have hr3 : w3.ownsRow w.heap.size 3 1 v3 (out ++ [n] ++ [x]).length (vals (out ++ [n] ++ [x])) := by
              have e : (out ++ [n] ++ [x]).length = out.length + 1 + 1 := by simp
              rw [e, vals_map, List.map_append]
              exact o_v3
            go_wp2_with fail
            go_roundw
            case rel => exact ⟨k + 1, true, out ++ [n] ++ [x], by simp, rfl, by omega, by simp; omega, hr3, HV2, hb3⟩
            case measure => simp [intOf]; omega
          · have HV2 : Hid ((out ++ [x]) ++ (if false = true then l.drop (k + 1) else insI n (l.drop (k + 1))) = insI n l) := by
              show _ = _
              rw [← HV.out, HE.out]
              have : ¬ n = x := fun e => hxn e.symm
              simp [insI, h1, this]
            clear HV HE
            simp at hout
            go_wp2_with (first | (at_builtin; refine wpList_append_own _ rfl _ _ 22 rfl w.heap.size 3 i0 (.int .i64 0) 1 8 Try.underlying22 hi hz0 hz1 hz2 rfl (by decide) _ _ _ rfl (hrow.alloc _) ⟨wr.heap.size, 0, none⟩ 1 1 [.int .i64 x] rfl rfl (cell_one_new _ _ _) (by simp [Value.oneCell']) (by unfold maxLen; omega) (by omega) (by have := hbel.size; simp; omega) ?_; intro v2 w2 o_v2 g_v2 _))
            have hb2 := (bel_alloc hbel (.cells #[.int .i64 x] 3)).grown g_v2 (bel_alloc hbel (.cells #[.int .i64 x] 3)).size (fun j hj => (World.ownsRow.lt hrow j hj).1)
            have hr2 : w2.ownsRow w.heap.size 3 1 v2 (out ++ [x]).length (vals (out ++ [x])) := by
              rw [List.length_append, vals_map, List.map_append]
              exact o_v2
            have hl2 : (out ++ [x]).length ≤ k + 1 + Bool.toNat false := by simp; omega
            go_wp2_with fail
            go_roundw
            case rel => exact ⟨k + 1, false, out ++ [x], by simp, rfl, by omega, hl2, hr2, HV2, hb2⟩
            case measure => simp [intOf]; omega
        · have HV2 : Hid ((out ++ [x]) ++ (if true = true then l.drop (k + 1) else insI n (l.drop (k + 1))) = insI n l) := by
            show _ = _
            rw [← HV.out, HE.out]
            simp
          clear HV HE
          simp at hout
          go_wp2_with (first | (at_builtin; refine wpList_append_own _ rfl _ _ 22 rfl w.heap.size 3 i0 (.int .i64 0) 1 8 Try.underlying22 hi hz0 hz1 hz2 rfl (by decide) _ _ _ rfl (hrow.alloc _) ⟨wr.heap.size, 0, none⟩ 1 1 [.int .i64 x] rfl rfl (cell_one_new _ _ _) (by simp [Value.oneCell']) (by unfold maxLen; omega) (by omega) (by have := hbel.size; simp; omega) ?_; intro v2 w2 o_v2 g_v2 _))
          have hb2 := (bel_alloc hbel (.cells #[.int .i64 x] 3)).grown g_v2 (bel_alloc hbel (.cells #[.int .i64 x] 3)).size (fun j hj => (World.ownsRow.lt hrow j hj).1)
          have hr2 : w2.ownsRow w.heap.size 3 1 v2 (out ++ [x]).length (vals (out ++ [x])) := by
            rw [List.length_append, vals_map, List.map_append]
            exact o_v2
          have hl2 : (out ++ [x]).length ≤ k + 1 + Bool.toNat true := by simp; omega
          go_wp2_with fail
          go_roundw
          case rel => exact ⟨k + 1, true, out ++ [x], by simp, rfl, by omega, hl2, hr2, HV2, hb2⟩
          case measure => simp [intOf]; omega
      · have hlt' : ¬ (k : Int) < (l.length : Int) := by omega
        obtain rfl : k = l.length := by omega
        have HV2 := HV.out
        rw [List.drop_length] at HV2
        clear HV H HN
        cases d
        · have HV3 : Hid (out ++ [n] = insI n l) := HV2
          simp at hout
          clear HV2
          go_wp2_with (first | (at_builtin; refine wpList_append_own _ rfl _ _ 22 rfl w.heap.size 3 i0 (.int .i64 0) 1 8 Try.underlying22 hi hz0 hz1 hz2 rfl (by decide) _ _ _ rfl (hrow.alloc _) ⟨wr.heap.size, 0, none⟩ 1 1 [.int .i64 n] rfl rfl (cell_one_new _ _ _) (by simp [Value.oneCell']) (by unfold maxLen; omega) (by omega) (by have := hbel.size; simp; omega) ?_; intro v2 w2 o_v2 g_v2 _))
          have hb2 := (bel_alloc hbel (.cells #[.int .i64 n] 3)).grown g_v2 (bel_alloc hbel (.cells #[.int .i64 n] 3)).size (fun j hj => (World.ownsRow.lt hrow j hj).1)
          have hr2 : w2.ownsRow w.heap.size 3 1 v2 (out ++ [n]).length (vals (out ++ [n])) := by
            rw [List.length_append, vals_map, List.map_append]
            exact o_v2
          rw [HV3.out] at hr2
          obtain ⟨qq, cc, rfl⟩ := own_sl hr2
          go_wp2_with fail
          go_ret
          exact ⟨_, rfl, own_sh hr2, hb2⟩
        · have HV3 : Hid (out = insI n l) := by
            show _ = _
            rw [← HV2]
            simp
          rw [HV3.out] at hrow
          clear HV2 HV3
          obtain ⟨qq, cc, rfl⟩ := own_sl hrow
          go_wp2_with fail
          go_ret
          exact ⟨_, rfl, own_sh hrow, hbel⟩
  · rw [hc] at C0
    rw [ins_mem hu (List.contains_iff_mem.1 hc)]
    clear hc
    go_enter Try.func26, Try.ntmps26
    go_wp2_with fail
    refine C0.mono ?_
    rintro e w1 ⟨rfl, hb1⟩
    go_wp2_with fail
    go_ret
    exact ⟨_, rfl, SHas.later h hb1, hb1⟩
end Go.Proofs.Ytefpdcpcjfjblaa
