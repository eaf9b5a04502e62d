/- OrsetGoes is proved of every cell, transaction and text: the call returns true, and the arguments read afterwards as they read before; no condition. -/
import Derived.Test.YthekfmodafmlgaaQ1
import Derived.Test.YthekfmodafmlgaaP21
import Derived.ShutString
import Derived.ChangeOld
import Derived.SizedLaws
/- What OrsetGoes says, of every cell, transaction and text. -/
namespace Go.Proofs.Ythekfmodafmlgaa
open Go.RowKit
open Go.Sort

set_option maxHeartbeats 16000000 in
set_option maxRecDepth 100000 in
theorem goes_law (x : X) (va vw vm ve : Value) (tp ts : Int) (tv : List Int) (tt : Int) (tl : Value) (lo : List O) (sa : ByteArray) (w : World) (hv : tv.length = 13) (ho : OHas w tl lo) (h : Four w x va vw vm ve) (hl : Lk x) : Calls Try.prog 3 #[CV x.k x.b va vw vm ve, TxV tp ts tv tt tl, .string sa] w (Tells (.bool true) w) := by
  obtain ⟨i0, hi, hz0, hz1, hz2⟩ := info_parts info9
  obtain ⟨pa, ca', pw, cw, pm, cm, pe, ce, rfl, rfl, rfl, rfl⟩ := h.slices
  have R0 := (rw_new w 27 (cvc x.k x.b (.slice pa x.am.length ca') (.slice pw x.wr.length cw) (.slice pm x.mb.length cm) (.slice pe x.el.length ce))).alloc (.cells (txc tp ts tv tt tl).toArray 34)
  have R1 := rw_new (w.alloc (.cells (cvc x.k x.b (.slice pa x.am.length ca') (.slice pw x.wr.length cw) (.slice pm x.mb.length cm) (.slice pe x.el.length ce)) 27)) 34 (txc tp ts tv tt tl).toArray
  have hbel := bel_alloc (bel_alloc (Below.refl w.heap.size w) (.cells (cvc x.k x.b (.slice pa x.am.length ca') (.slice pw x.wr.length cw) (.slice pm x.mb.length cm) (.slice pe x.el.length ce)) 27)) (.cells (txc tp ts tv tt tl).toArray 34)
  have hB : w.heap.size + 2 ≤ ((w.alloc (.cells (cvc x.k x.b (.slice pa x.am.length ca') (.slice pw x.wr.length cw) (.slice pm x.mb.length cm) (.slice pe x.el.length ce)) 27)).alloc (.cells (txc tp ts tv tt tl).toArray 34)).heap.size := by simp
  have HF : Hid (Four w x (.slice pa x.am.length ca') (.slice pw x.wr.length cw) (.slice pm x.mb.length cm) (.slice pe x.el.length ce)) := h
  replace h := h.later hbel
  replace ho := ho.later hbel
  generalize hW : (w.alloc (.cells (cvc x.k x.b (.slice pa x.am.length ca') (.slice pw x.wr.length cw) (.slice pm x.mb.length cm) (.slice pe x.el.length ce)) 27)).alloc (.cells (txc tp ts tv tt tl).toArray 34) = w0 at R0 R1 hbel h ho hB
  simp only [World.size_alloc] at R1
  have zt := size_tx (p := tp) (s := ts) (t := tt) (sl := tl) hv
  have ztx : (Try.prog.info? 34).map (·.size) = some (txc tp ts tv tt tl).length := by rw [txc_length hv]; exact size34
  go_enter Try.func3, Try.ntmps3
  go_wp2_with (first | rw [hW] | refine load_r 27 _ rfl rfl _ rfl R0 Try.underlying27 rfl size27 ?_)
  clear hW
  refine (few_any x _ _ _ _ w0 h hl).mono ?_
  rintro e w1 ⟨bf1, rfl, hfw, hb1⟩
  have HFW : Hid (bf1 = true → Fw x) := hfw
  replace R0 := R0.later hb1
  replace R1 := R1.later hb1
  replace h := h.later hb1
  replace ho := ho.later hb1
  replace hbel := below_on hbel hb1
  replace hB := Nat.le_trans hB hb1.size
  clear hb1 hfw hl
  cases bf1
  case' false =>
    clear HFW
    go_wp2_with fail
    refine (heads_any _).mono ?_
    rintro e w9 ⟨rfl, hb9⟩
    go_wp2_with fail
    go_ret
    exact ⟨rfl, below_on hbel hb9⟩
  case' true =>
    have hz := (HFW.out rfl).sz
    have hs := hz.sm (by decide) (by decide)
    clear HFW
    go_wp2_with (first | refine load_r 27 _ rfl rfl _ rfl R0 Try.underlying27 rfl size27 ?_)
    refine (refCheck_any x _ _ _ _ w1 h hs).mono ?_
    rintro e w2 ⟨rfl, hb1⟩
    replace R0 := R0.later hb1
    replace R1 := R1.later hb1
    replace ho := ho.later hb1
    replace hbel := below_on hbel hb1
    replace hB := Nat.le_trans hB hb1.size
    clear hb1 h
    obtain ⟨y1, HY1⟩ := hid_ex (ck x)
    rw [HY1.out]
    cases y1
    case' false =>
      go_wp2_with fail
      refine (heads_any _).mono ?_
      rintro e w9 ⟨rfl, hb9⟩
      go_wp2_with fail
      go_ret
      exact ⟨rfl, below_on hbel hb9⟩
    case' true =>
      go_wp2_with (first | refine load_r 34 _ rfl rfl _ rfl R1 Try.underlying34 rfl zt ?_)
      refine (small_any tp ts tv tt tl lo w2 hv ho).mono ?_
      rintro e w3 ⟨b1, rfl, _, hb1⟩
      replace R0 := R0.later hb1
      replace R1 := R1.later hb1
      replace hbel := below_on hbel hb1
      replace hB := Nat.le_trans hB hb1.size
      clear hb1 ho
      cases b1
      case' false =>
        go_wp2_with fail
        refine (heads_any _).mono ?_
        rintro e w9 ⟨rfl, hb9⟩
        go_wp2_with fail
        go_ret
        exact ⟨rfl, below_on hbel hb9⟩
      case' true =>
        by_cases ha : 64 < sa.size
        case' pos =>
          have ha' : decide ((64 : Int) < (sa.size : Int)) = true := decide_eq_true (by omega)
          go_wp2_with fail
          refine (heads_any _).mono ?_
          rintro e w9 ⟨rfl, hb9⟩
          go_wp2_with fail
          go_ret
          exact ⟨rfl, below_on hbel hb9⟩
        case' neg =>
          have ha' : decide ((64 : Int) < (sa.size : Int)) = false := decide_eq_false (by omega)
          have h1000 : sa.size ≤ 1000 := by omega
          clear ha
          obtain ⟨ys, hys, HS, HYS⟩ := HF.out.m
          have hyl : ys.length = x.mb.length := by rw [← hys, List.length_map]
          have HR : Hid (SHas 3 w (.slice pm x.mb.length cm) x.mb.length (rows Mb.cells ys)) := HS
          have HYY : Hid (∀ y ∈ ys, MHas w y.2 y.1.ms) := HYS
          have HL : Hid (∀ k (h1 : k < ys.length) (h2 : k < x.mb.length), ys[k].1 = x.mb[k]) := fun k h1 h2 => by
            have := congrArg (fun l => l[k]?) hys
            simp only [List.getElem?_map, List.getElem?_eq_getElem h1, List.getElem?_eq_getElem h2, Option.map_some, Option.some.injEq] at this
            exact this
          have HMI : Hid (∀ m ∈ x.mb, m.ms.length ≤ 100) := hs.mi
          have hm100 := hs.m
          clear hys HS HYS
          go_wp2_with fail
          clear ha'
          go_loopw [7, 8] (fun vn vi wr => ∃ k : Nat, vi = .int .i64 k ∧ k ≤ x.mb.length ∧ wr.ownsRow (w.heap.size + 2) 9 1 vn (txL ((x.mb.take k).filter (fun y => decide (tx y ≠ bs sa)))).length ((txL ((x.mb.take k).filter (fun y => decide (tx y ≠ bs sa)))).map encStr) ∧ Hid (∀ j (h : j < x.mb.length), j < k → tx x.mb[j] = bs sa → ∀ m ∈ x.mb[j].ms, bfP tp ts tv 1 m = true) ∧ Rw wr w.heap.size 27 (cvc x.k x.b (.slice pa x.am.length ca') (.slice pw x.wr.length cw) (.slice pm x.mb.length cm) (.slice pe x.el.length ce)) ∧ Rw wr (w.heap.size + 1) 34 (txc tp ts tv tt tl).toArray ∧ Below w.heap.size w wr ∧ w.heap.size + 2 ≤ wr.heap.size) (fun _ vi _ => x.mb.length - (intOf vi).toNat)
          case atStart => exact ⟨0, rfl, by omega, World.ownsRow_nil _ _ _ _, (show ∀ j (_ : j < x.mb.length), j < 0 → _ from fun j _ h => by omega), R0, R1, hbel, hB⟩
          case round =>
            clear R0 R1 hbel hB
            obtain ⟨k, rfl, hk, hown, HV, R0, R1, hbel, hB⟩ := hrel
            have hL100 : (txL ((x.mb.take k).filter (fun y => decide (tx y ≠ bs sa)))).length ≤ 100 := by
              unfold txL
              rw [List.length_map]
              exact Nat.le_trans (List.length_filter_le _ _) (by rw [List.length_take]; omega)
            obtain ⟨L, HLL⟩ := hid_ex (txL ((x.mb.take k).filter (fun y => decide (tx y ≠ bs sa))))
            rw [HLL.out] at hown hL100
            obtain ⟨P, cc, rfl⟩ := own_sl hown
            have c4 : wr.cell? ⟨w.heap.size, 4, none⟩ = some (.slice pm x.mb.length cm) := R0.cell 4
            by_cases hlt : k < x.mb.length
            case' pos =>
              have hlt' : (k : Int) < (x.mb.length : Int) := by omega
              have hk0 : (0 : Int) ≤ (k : Int) := by omega
              obtain ⟨g, o, rfl, hd0⟩ := HR.out.at (by omega)
              have d := Mb.elem (range_later hd0 hbel) k (by omega)
              have hyk := HYY.out ys[k] (List.getElem_mem _)
              obtain ⟨yy, HX⟩ := hid_ex (ys[k]'(by omega))
              have HX2 : Hid (x.mb[k] = yy.1) := by
                show _ = _
                rw [← HL.out k (by omega) hlt, HX.out]
              rw [HX.out] at d hyk
              obtain ⟨y, yv⟩ := yy
              replace hyk : MHas w yv y.ms := hyk
              have HMI2 : y.ms.length ≤ 100 := by
                have := HMI.out x.mb[k] (List.getElem_mem _)
                rw [HX2.out] at this
                exact this
              obtain ⟨py, cy, rfl⟩ := hyk.slice
              replace d : wr.rangeAt g (o + k * 3) [Value.string y.x, .bool y.b, .slice py y.ms.length cy] := d
              replace HX2 : Hid (x.mb[k] = y) := HX2
              have HTK : Hid (x.mb.take (k + 1) = x.mb.take k ++ [y]) := by
                show _ = _
                rw [List.take_succ_eq_append_getElem hlt, HX2.out]
              clear hd0 HX
              have zb : (Try.prog.info? 41).map (·.size) = some [Value.string y.x, .bool y.b, .slice py y.ms.length cy].length := size41
              have RB := rw_new wr 41 #[.string y.x, .bool y.b, .slice py y.ms.length cy]
              have hbA := bel_alloc (Below.refl wr.heap.size wr) (.cells #[.string y.x, .bool y.b, .slice py y.ms.length cy] 41)
              replace R0 := R0.later hbA
              replace R1 := R1.later hbA
              replace hown := own_later hown hbA
              replace hbel := below_on hbel hbA
              replace hB := Nat.le_trans hB hbA.size
              generalize hW : wr.alloc (.cells #[.string y.x, .bool y.b, .slice py y.ms.length cy] 41) = w1 at RB R0 R1 hown hbel hB
              have c0 : w1.cell? ⟨wr.heap.size, 0, none⟩ = some (.string y.x) := RB.cell 0
              clear hbA
              obtain ⟨z1, HZ1⟩ := hid_ex (decide (tx y = bs sa))
              have E1 : (y.x.toList == sa.toList) = z1 := by rw [eq_str, ← HZ1.out]
              cases z1
              case' false =>
                have HN : Hid (txL ((x.mb.take (k + 1)).filter (fun y => decide (tx y ≠ bs sa))) = L ++ [bs y.x]) := by
                  show _ = _
                  rw [HTK.out, List.filter_append, List.filter_cons_of_pos (by simpa using of_decide_eq_false HZ1.out), ← HLL.out]
                  unfold txL
                  rw [List.map_append]
                  rfl
                have HV2 : Hid (∀ j (h : j < x.mb.length), j < k + 1 → tx x.mb[j] = bs sa → ∀ m ∈ x.mb[j].ms, bfP tp ts tv 1 m = true) := fun j h hj => by
                  rcases Nat.lt_or_ge j k with h' | h'
                  · exact HV.out j h h'
                  · obtain rfl : j = k := by omega
                    rw [HX2.out]
                    exact fun e => absurd e (of_decide_eq_false HZ1.out)
                clear HV HZ1 HX2 HTK
                have hBg : ∀ q', (Value.slice P L.length cc).ownBlock = some q' → w.heap.size + 2 ≤ q' := fun q' hq => (World.ownsRow.lt hown q' hq).1
                have hc1 : ∀ q u, ([Value.string y.x] : List Value)[q]? = some u → (w1.alloc (.cells #[Value.string y.x] 9)).cell? ((⟨w1.heap.size, 0, none⟩ : Addr).add q) = some u := fun q u hq => (cells_new w1 [Value.string y.x] 9 q).trans hq
                have hc2 : ∀ u ∈ ([Value.string y.x] : List Value), u.oneCell' = true := one_str y.x
                have hc3 : L.length + 1 ≤ maxLen := by unfold maxLen; omega
                have hc4 : (L.length + 1) * 16 ≤ 140737488355328 := by omega
                have hc5 : w.heap.size + 2 ≤ (w1.alloc (.cells #[Value.string y.x] 9)).heap.size := by simp; omega
                go_wp2_with (first
                  | rw [hW]
                  | refine load_m 41 _ rfl rfl _ _ rfl d Try.underlying41 rfl zb ?_
                  | (at_builtin; refine wpList_append_own _ rfl _ _ 38 rfl (w.heap.size + 2) 9 i0 (.string noS) 1 16 Try.underlying38 hi hz0 hz1 hz2 rfl (by decide) _ _ _ rfl (hown.alloc _) ⟨w1.heap.size, 0, none⟩ 1 1 [Value.string y.x] rfl rfl hc1 hc2 hc3 hc4 hc5 ?_))
                intro v2 w9 hown9 hg9 _
                have hbA := bel_alloc (Below.refl w1.heap.size w1) (.cells #[Value.string y.x] 9)
                have hgk : w1.grownBy w9 (Value.slice P L.length cc).ownBlock := ⟨hg9.os, hg9.tape, hg9.output, Nat.le_trans hbA.size hg9.size, fun k' h1 h2 => (hg9.block k' (Nat.lt_of_lt_of_le h1 hbA.size) h2).trans (hbA.block k' h1)⟩
                have hb9 := hbel.grown hgk hbel.size (fun q' hq => by have := hBg q' hq; omega)
                have R09 := R0.grown hgk (fun q' hq => by have := hBg q' hq; omega)
                have R19 := R1.grown hgk (fun q' hq => by have := hBg q' hq; omega)
                have hB9 : w.heap.size + 2 ≤ w9.heap.size := Nat.le_trans hB hgk.size
                have hown9' : w9.ownsRow (w.heap.size + 2) 9 1 v2 (L ++ [bs y.x]).length ((L ++ [bs y.x]).map encStr) := by
                  rw [List.length_append, List.map_append]
                  exact hown9
                clear hg9 hgk hbA hown9 hc1 hc2 hc3 hc4 hc5 hW d zb c0 c4
                go_wp2_with fail
                go_roundw
                case rel => exact ⟨k + 1, by simp, by omega, by rw [HN.out]; exact hown9', HV2, R09, R19, hb9, hB9⟩
                case measure => simp [intOf]; omega
              case' true =>
                have HN : Hid (txL ((x.mb.take (k + 1)).filter (fun y => decide (tx y ≠ bs sa))) = L) := by
                  show _ = _
                  rw [HTK.out, List.filter_append, List.filter_cons_of_neg (by simpa using of_decide_eq_true HZ1.out), ← HLL.out]
                  simp
                go_wp2_with (first | rw [hW] | refine load_m 41 _ rfl rfl _ _ rfl d Try.underlying41 rfl zb ?_)
                clear hW d zb c0 c4
                have HO : Hid (w1.ownsRow (w.heap.size + 2) 9 1 (.slice P L.length cc) L.length (L.map encStr)) := hown
                have HR0 : Hid (Rw w1 w.heap.size 27 (cvc x.k x.b (.slice pa x.am.length ca') (.slice pw x.wr.length cw) (.slice (some ⟨g, o, none⟩) x.mb.length cm) (.slice pe x.el.length ce))) := R0
                have HB1 : Hid (Below w.heap.size w w1) := hbel
                have HB2 : Hid (w.heap.size + 2 ≤ w1.heap.size) := hB
                clear hown R0
                obtain ⟨bx, HBX⟩ := hid_ex wr.heap.size
                rw [HBX.out] at RB ⊢
                go_loopw [10] (fun vj wr => ∃ j : Nat, vj = .int .i64 j ∧ j ≤ y.ms.length ∧ Hid (∀ i (h : i < y.ms.length), i < j → bfP tp ts tv 1 y.ms[i] = true) ∧ Rw wr bx 41 #[.string y.x, .bool y.b, .slice py y.ms.length cy] ∧ Rw wr (w.heap.size + 1) 34 (txc tp ts tv tt tl).toArray ∧ Below w1.heap.size w1 wr) (fun vj _ => y.ms.length - (intOf vj).toNat)
                case atStart => exact ⟨0, rfl, by omega, (show ∀ i (_ : i < y.ms.length), i < 0 → _ from fun j _ h => by omega), RB, R1, Below.refl _ _⟩
                case round =>
                  clear RB R1 hbel
                  obtain ⟨j, rfl, hj, HW, RB, R1, hb1⟩ := hrel
                  have hbel := below_on HB1.out hb1
                  have c2 : wr.cell? ⟨bx, 2, none⟩ = some (.slice py y.ms.length cy) := RB.cell 2
                  by_cases hlj : j < y.ms.length
                  case' pos =>
                    have hlj' : (j : Int) < (y.ms.length : Int) := by omega
                    have hj0 : (0 : Int) ≤ (j : Int) := by omega
                    obtain ⟨g2, o2, rfl, hd0⟩ := hyk.at (by omega)
                    have d2 := M.elem (range_later hd0 hbel) j hlj
                    obtain ⟨m, HM⟩ := hid_ex y.ms[j]
                    rw [HM.out] at d2
                    clear hd0
                    have zm : (Try.prog.info? 44).map (·.size) = some m.cells.length := size44
                    have CB := fun w => refBefore_any m.p m.s m.i tp ts tv tt tl 1 w hv
                    obtain ⟨z2, HZ2⟩ := hid_ex (bf m.p m.s m.i tp ts tv 1)
                    rw [HZ2.out] at CB
                    go_wp2_with fail
                    clear c2
                    cases z2
                    case' false =>
                      have hs : Calm.Stays (fun w' => Rw w' bx 41 #[.string y.x, .bool y.b, .slice (some ⟨g2, o2, none⟩) y.ms.length cy] ∧ Rw w' (w.heap.size + 1) 34 (txc tp ts tv tt tl).toArray ∧ w'.rangeAt g2 (o2 + j * 3) m.cells ∧ Below w1.heap.size w1 w' ∧ Below w.heap.size w w') := fun wa wb h hb => ⟨h.1.later hb, h.2.1.later hb, range_later h.2.2.1 hb, below_on h.2.2.2.1 hb, below_on h.2.2.2.2 hb⟩
                      refine Calm.region (by kernel_rfl) (by kernel_rfl) (fun w' => Rw w' bx 41 #[.string y.x, .bool y.b, .slice (some ⟨g2, o2, none⟩) y.ms.length cy] ∧ Rw w' (w.heap.size + 1) 34 (txc tp ts tv tt tl).toArray ∧ w'.rangeAt g2 (o2 + j * 3) m.cells ∧ Below w1.heap.size w1 w' ∧ Below w.heap.size w w') ⟨RB, R1, d2, hb1.drew, hbel.drew⟩ ?_
                      all_goals
                        refine Calm.pure (v := ?_) (by rfl) ?_ ?_
                        rotate_left
                        focus (intro w hSw; go_simp <;> rfl)
                        simp only [Act.put, List.setIfInBounds_toArray, List.set_cons_zero, List.set_cons_succ]
                      all_goals
                        refine Calm.pure (v := ?_) (by rfl) ?_ ?_
                        rotate_left
                        focus (intro w hSw; have g1 := hSw.1.cell 2; simp at g1; go_simp <;> rfl)
                        simp only [Act.put, List.setIfInBounds_toArray, List.set_cons_zero, List.set_cons_succ]
                      all_goals
                        refine Calm.pure (v := ?_) (by rfl) ?_ ?_
                        rotate_left
                        focus (intro w hSw; go_simp <;> rfl)
                        simp only [Act.put, List.setIfInBounds_toArray, List.set_cons_zero, List.set_cons_succ]
                      all_goals
                        refine Calm.pure (v := ?_) (by rfl) ?_ ?_
                        rotate_left
                        focus (intro w hSw; go_simp <;> rfl)
                        simp only [Act.put, List.setIfInBounds_toArray, List.set_cons_zero, List.set_cons_succ]
                      all_goals
                        refine Calm.loadM 44 Try.underlying44 rfl zm (by rfl) _ rfl rfl (fun _ h => h.2.2.1) ?_
                        simp only [Act.put, List.setIfInBounds_toArray, List.set_cons_zero, List.set_cons_succ]
                      all_goals
                        refine Calm.loadM 34 Try.underlying34 rfl ztx (by rfl) _ rfl rfl (fun _ h => Rw.whole (cs := (txc tp ts tv tt tl)) h.2.1) ?_
                        simp only [Act.put, List.setIfInBounds_toArray, List.set_cons_zero, List.set_cons_succ]
                      all_goals
                        refine Calm.call3s (by rfl) rfl rfl rfl rfl (by kernel_rfl) hs (fun w1 h => CB w1) ?_
                        simp only [Act.put, List.setIfInBounds_toArray, List.set_cons_zero, List.set_cons_succ]
                      all_goals
                        refine Calm.pure (v := ?_) (by rfl) ?_ ?_
                        rotate_left
                        focus (intro w hSw; go_simp <;> rfl)
                        simp only [Act.put, List.setIfInBounds_toArray, List.set_cons_zero, List.set_cons_succ]
                      all_goals
                        rintro w9 ⟨_, _, _, _, hbel9⟩
                      go_wp2_with fail
                      refine (heads_any _).mono ?_
                      rintro e w10 ⟨rfl, hb9⟩
                      go_wp2_with fail
                      go_ret
                      exact ⟨rfl, below_on hbel9 hb9⟩
                    case' true =>
                      have HW2 : Hid (∀ i (h : i < y.ms.length), i < j + 1 → bfP tp ts tv 1 y.ms[i] = true) := fun i h hi' => by
                        rcases Nat.lt_or_ge i j with h' | h'
                        · exact HW.out i h h'
                        · obtain rfl : i = j := by omega
                          rw [HM.out]
                          exact HZ2.out
                      clear HW
                      have hs : Calm.Stays (fun w' => Rw w' bx 41 #[.string y.x, .bool y.b, .slice (some ⟨g2, o2, none⟩) y.ms.length cy] ∧ Rw w' (w.heap.size + 1) 34 (txc tp ts tv tt tl).toArray ∧ w'.rangeAt g2 (o2 + j * 3) m.cells ∧ Below w1.heap.size w1 w' ∧ Below w.heap.size w w') := fun wa wb h hb => ⟨h.1.later hb, h.2.1.later hb, range_later h.2.2.1 hb, below_on h.2.2.2.1 hb, below_on h.2.2.2.2 hb⟩
                      refine Calm.region (by kernel_rfl) (by kernel_rfl) (fun w' => Rw w' bx 41 #[.string y.x, .bool y.b, .slice (some ⟨g2, o2, none⟩) y.ms.length cy] ∧ Rw w' (w.heap.size + 1) 34 (txc tp ts tv tt tl).toArray ∧ w'.rangeAt g2 (o2 + j * 3) m.cells ∧ Below w1.heap.size w1 w' ∧ Below w.heap.size w w') ⟨RB, R1, d2, hb1.drew, hbel.drew⟩ ?_
                      all_goals
                        refine Calm.pure (v := ?_) (by rfl) ?_ ?_
                        rotate_left
                        focus (intro w hSw; go_simp <;> rfl)
                        simp only [Act.put, List.setIfInBounds_toArray, List.set_cons_zero, List.set_cons_succ]
                      all_goals
                        refine Calm.pure (v := ?_) (by rfl) ?_ ?_
                        rotate_left
                        focus (intro w hSw; have g1 := hSw.1.cell 2; simp at g1; go_simp <;> rfl)
                        simp only [Act.put, List.setIfInBounds_toArray, List.set_cons_zero, List.set_cons_succ]
                      all_goals
                        refine Calm.pure (v := ?_) (by rfl) ?_ ?_
                        rotate_left
                        focus (intro w hSw; go_simp <;> rfl)
                        simp only [Act.put, List.setIfInBounds_toArray, List.set_cons_zero, List.set_cons_succ]
                      all_goals
                        refine Calm.pure (v := ?_) (by rfl) ?_ ?_
                        rotate_left
                        focus (intro w hSw; go_simp <;> rfl)
                        simp only [Act.put, List.setIfInBounds_toArray, List.set_cons_zero, List.set_cons_succ]
                      all_goals
                        refine Calm.loadM 44 Try.underlying44 rfl zm (by rfl) _ rfl rfl (fun _ h => h.2.2.1) ?_
                        simp only [Act.put, List.setIfInBounds_toArray, List.set_cons_zero, List.set_cons_succ]
                      all_goals
                        refine Calm.loadM 34 Try.underlying34 rfl ztx (by rfl) _ rfl rfl (fun _ h => Rw.whole (cs := (txc tp ts tv tt tl)) h.2.1) ?_
                        simp only [Act.put, List.setIfInBounds_toArray, List.set_cons_zero, List.set_cons_succ]
                      all_goals
                        refine Calm.call3s (by rfl) rfl rfl rfl rfl (by kernel_rfl) hs (fun w1 h => CB w1) ?_
                        simp only [Act.put, List.setIfInBounds_toArray, List.set_cons_zero, List.set_cons_succ]
                      all_goals
                        refine Calm.pure (v := ?_) (by rfl) ?_ ?_
                        rotate_left
                        focus (intro w hSw; go_simp <;> rfl)
                        simp only [Act.put, List.setIfInBounds_toArray, List.set_cons_zero, List.set_cons_succ]
                      all_goals
                        rintro w9 ⟨RB9, R19, _, b19, _⟩
                      go_wp2_with fail
                      go_roundw
                      case rel => exact ⟨j + 1, by simp, by omega, HW2, RB9, R19, b19⟩
                      case measure => simp [intOf]; omega
                  case' neg =>
                    obtain rfl : j = y.ms.length := by omega
                    have hlj' : ¬ (y.ms.length : Int) < (y.ms.length : Int) := by omega
                    have HV2 : Hid (∀ j (h : j < x.mb.length), j < k + 1 → tx x.mb[j] = bs sa → ∀ m ∈ x.mb[j].ms, bfP tp ts tv 1 m = true) := fun j h hj => by
                      rcases Nat.lt_or_ge j k with h' | h'
                      · exact HV.out j h h'
                      · obtain rfl : j = k := by omega
                        rw [HX2.out]
                        intro _ m hm
                        obtain ⟨i, hi', rfl⟩ := List.getElem_of_mem hm
                        exact HW.out i hi' hi'
                    have R09 := HR0.out.later hb1
                    have ho9 := own_later HO.out hb1
                    have hB9 := Nat.le_trans HB2.out hb1.size
                    clear HV HW HZ1 HX2 HTK
                    go_wp2_with fail
                    go_roundw
                    case rel => exact ⟨k + 1, by simp, by omega, by rw [HN.out]; exact ho9, HV2, R09, R1, hbel, hB9⟩
                    case measure => simp [intOf]; omega
            case' neg =>
              obtain rfl : k = x.mb.length := by omega
              have hlt' : ¬ (x.mb.length : Int) < (x.mb.length : Int) := by omega
              rw [List.take_length] at HLL
              have hm1 : im (1 : Int) = true := by decide
              obtain ⟨xd, HD⟩ := hid_ex (delX x tp ts tv 1 sa)
              have kd : ck xd = true := by rw [← HD.out]; exact ck_woX HY1.out _ _ _
              have sd : Sm xd := by rw [← HD.out]; exact (sz_wo hz _ _ _).sm (by decide) (by decide)
              have HRK : Hid (rdK xd = 4) := rdK_ck kd
              have HRT : Hid (rdT xd = L) := by
                show _ = _
                rw [rdT_ck kd, ← HD.out, ← HLL.out]
                unfold delX
                rw [woX_ck HY1.out hm1]
                refine goes_txL (fun y hy e => ?_)
                obtain ⟨j, hj, rfl⟩ := List.getElem_of_mem hy
                exact HV.out j hj hj e
              have HTH : Hid (THas wr (.slice P L.length cc) L) := own_sh hown
              have C0 := del_any x _ _ _ _ tp ts tv tt tl 1 sa wr hv (HF.out.later hbel) hs h1000
              rw [HD.out] at C0
              clear hown HV kd hm1 HLL
              go_wp2_with (first | refine load_r 27 _ rfl rfl _ rfl R0 Try.underlying27 rfl size27 ?_ | refine load_r 34 _ rfl rfl _ rfl R1 Try.underlying34 rfl zt ?_)
              refine C0.mono ?_
              clear C0
              rintro e w4 ⟨va, vw, vm, ve, rfl, Fd, hb4⟩
              have C1 := read_any xd va vw vm ve w4 Fd sd
              unfold RdPost at C1
              rw [HRK.out, HRT.out] at C1
              go_wp2_with fail
              refine C1.mono ?_
              clear C1
              rintro e w5 ⟨u, rfl, ht, hb5⟩
              obtain ⟨p, c, rfl⟩ := ht.slice
              have hFd := fun w => field48_2 4 p L.length c w
              have CT := refTexts_any _ _ L w5 ht ((HTH.out.later hb4).later hb5)
              go_wp2_with fail
              refine CT.mono ?_
              clear CT
              rintro e w6 ⟨rfl, hb6⟩
              go_wp2_with fail
              refine (heads_any _).mono ?_
              rintro e w9 ⟨rfl, hb9⟩
              go_wp2_with fail
              go_ret
              exact ⟨rfl, below_on (below_on (below_on (below_on hbel hb4) hb5) hb6) hb9⟩
end Go.Proofs.Ythekfmodafmlgaa
namespace Go.Proofs.Ythekfmodafmlgaa
open Go.ChangeShapes Go.WideShapes Go.ChangeAt Go.RowKit
open Go.ChangeMaps (open_string shut_string)

theorem orsetGoes_own : ownKnob Try.prog.godebug = none := by kernel_rfl
theorem orsetGoes_laidOut : laidOutB Try.prog = true := by kernel_rfl

set_option maxRecDepth 100000 in
theorem orsetGoes_lifted (os : Os) (started : os.Started) (H : Type) (enc : TypeId × Value → H) :
    ReturnsInHanded {} Try.checked os 3 .any (Rows.orsetGoesSpec.pre6 enc Try.prog Try.f3 Rows.orsetGoesRow.domain false) (Rows.orsetGoesSpec.post enc Try.prog Try.f3 false true false false) := by
  refine returnsInHanded_of_change_sized (C := Try.checked) orsetGoes_own started (by kernel_rfl) Try.func3
    (ChangeSpec.witness6 (enc := enc) (C := Try.checked) false ⟨#[], #[.agg #[.int .i64 0, .int .i64 0, .slice none 0 0, .slice none 0 0, .slice none 0 0, .slice none 0 0], .agg #[.int .i64 0, .int .i64 0, .int .i64 0, .int .i64 0, .int .i64 0, .int .i64 0, .int .i64 0, .int .i64 0, .int .i64 0, .int .i64 0, .int .i64 0, .int .i64 0, .int .i64 0, .int .i64 0, .int .i64 0, .int .i64 0, .slice none 0 0], .string ByteArray.empty], []⟩ 8 (by kernel_rfl) (by kernel_rfl) (by kernel_rfl) (by kernel_rfl)) ?_
  intro W base args ds gs before hval0 hW hcnd hsz0 _
  have hsz : (DataW.weightsEach Try.prog (Try.f3.params.toList ++ Rows.orsetGoesSpec.plain.varTypes Try.prog) (ds ++ gs)).all (· ≤ reachBytes) = true := hsz0
  clear hsz0
  have hval : ∀ (j : Nat) t v, Try.f3.params[j]? = some t → args[j]? = some v → Value.okWide Try.prog W .any base t v := hval0
  have hW' := hW
  obtain ⟨p, q, hA0, hV, rfl, hfz, hnd⟩ := hW
  have hA : DataW.TrodAll enc Try.prog W 0 (fun _ => true) true Try.f3.params.toList args.toList ds p := hA0
  rw [Try.params3] at hA hval hsz
  obtain ⟨v0, vs0, d0, ds0, p0, q0, hargs, rfl, rfl, h0, r0⟩ := trodAll_cons hA
  obtain ⟨v1, vs1, d1, ds1, p1, q1, rfl, rfl, rfl, h1, r1⟩ := trodAll_cons r0
  obtain ⟨v2, vs2, d2, ds2, p2, q2, rfl, rfl, rfl, h2, r2⟩ := trodAll_cons r1
  obtain ⟨rfl, rfl, rfl⟩ := trodAll_nil r2
  obtain rfl : args = #[v0, v1, v2] := by cases args; simp_all
  obtain ⟨rfl, rfl⟩ := trodVars_none hV
  obtain ⟨x0_, va0, vw0, vm0, ve0, rfl, hf0, hk0⟩ := open_cell (hval 0 27 v0 rfl rfl) h0
  have lk0 : Lk x0_ := hk0 (by simp only [List.cons_append, DataW.weightsEach, List.all_append, Bool.and_eq_true] at hsz; exact hsz.1)
  clear hk0
  obtain ⟨p1_, s1_, u1_, t1_, sl1_, l1_, rfl, hu1_, ho1_⟩ := open_tx (hval 1 34 v1 rfl rfl) h1
  obtain ⟨a2, rfl, rfl, rfl, w2⟩ := open_string Try.underlying9 (hval 2 9 v2 rfl rfl) h2
  clear hA0 hval0 hval hA hsz
  have k0 := h0
  have lt0 : ∀ x ∈ p0, x.block < W.heap.size := by obtain ⟨m, hm⟩ := k0; exact DataW.trod_lt m _ _ _ hm
  have k1 := h1
  have lt1 : ∀ x ∈ p1, x.block < W.heap.size := by obtain ⟨m, hm⟩ := k1; exact DataW.trod_lt m _ _ _ hm
  refine (goes_law x0_ va0 vw0 vm0 ve0 p1_ s1_ u1_ t1_ sl1_ l1_ a2 W hu1_ ho1_.has hf0 lk0).mono fun e W' ⟨he, bel⟩ => ?_
  subst he
  exact ⟨_, rfl, _, _, _, [], _, [], hW', trodAll_mk1 (shut_bool Try.underlying4 _), (trodAll_cons_mk (Below.trod orsetGoes_laidOut (by kernel_rfl) (of_decide_eq_true (by kernel_rfl)) k0 bel lt0) (trodAll_cons_mk (Below.trod orsetGoes_laidOut (by kernel_rfl) (of_decide_eq_true (by kernel_rfl)) k1 bel lt1) (trodAll_cons_mk (shut_string Try.underlying9 w2) trodAll_mk0))), rfl, bel.frame _, fun h => by cases h⟩

theorem orsetGoes_holds : Rows.OrsetGoesSaid :=
  OpenClaim.holds_of_wide 3 Try.f3 rfl rfl rfl rfl rfl rfl rfl ⟨rfl, rfl, rfl, rfl, rfl⟩ rfl rfl rfl rfl rfl (by kernel_rfl) Try.func3 (by kernel_rfl)
    (of_decide_eq_true (by kernel_rfl)) (by unfold Func.isWrapper; first | (rw [if_pos (by decide +kernel)]; kernel_rfl) | (rw [if_neg (by decide +kernel)]; exact ⟨rfl, rfl⟩))
    (fun os started H enc _ => orsetGoes_lifted os started H enc)

#print axioms orsetGoes_holds
end Go.Proofs.Ythekfmodafmlgaa
