/- What CounterOrder says, of every cell, two transactions and two numbers. -/
import Derived.Test.YtfjpjodaaofgbaaHeads
namespace Go.Proofs.Ytfjpjodaaofgbaa
open Go.RowKit

/-- The cell with other amounts. -/
abbrev xi (x : X) (l : List A) : X := { x with am := l }
theorem ck_xi {x : X} {l : List A} (hc : ck x = true) (hl : ca l = true) : ck (xi x l) = true := by
  obtain ⟨h1, h2, h3, h4, h5, h6⟩ := ck_parts hc
  unfold ck
  show (decide (x.k = 1) && (decide (x.wr.length + x.mb.length + x.el.length = 0) && (wi x.b (-1152921504606846976) 1152921504606846976 && ca l))) = true
  rw [hl, h5, h1, h2, h3, h4]
  rfl
theorem do_xi {x : X} {a : A} (hc : ck x = true) (hi : ia a.i a.n = true) (hn : has a x.am = false) : doX x a = xi x (insF a x.am) := by
  unfold doX
  rw [hc, hi, hn]
  rfl
theorem sm_xi {x : X} (h : Sm x) {l : List A} (hl : l.length ≤ 100) : Sm (xi x l) := ⟨hl, h.t, h.m, h.e, h.mi, h.ei⟩
theorem has_dots {l : List A} {a : A} (h : ∀ i (hi : i < l.length), (decide (l[i].p = a.p) && decide (l[i].s = a.s)) = false) : has a l = false := by
  rw [has_false]
  intro y hy
  obtain ⟨i, hi, rfl⟩ := List.getElem_of_mem hy
  unfold mk
  rw [h i hi]
  rfl
set_option maxHeartbeats 8000000 in
set_option maxRecDepth 100000 in
theorem order_any (x : X) (va vw vm ve : Value) (tp ts : Int) (tv : List Int) (tt : Int) (tl : Value) (up us : Int) (uv : List Int) (ut : Int) (ul : Value) (n m : Int) (w : World) (hv : tv.length = 13) (hu : uv.length = 13) (h : Four w x va vw vm ve) (hl : Lk x) : Calls Try.prog 6 #[CV x.k x.b va vw vm ve, TxV tp ts tv tt tl, TxV up us uv ut ul, .int .i64 n, .int .i64 m] w (Tells (.bool true) w) := by
  obtain ⟨pa, ca', pw, cw, pm, cm, pe, ce, rfl, rfl, rfl, rfl⟩ := h.slices
  obtain ⟨R0, R1, R2, hbel⟩ := three_rows w (cvc x.k x.b (.slice pa x.am.length ca') (.slice pw x.wr.length cw) (.slice pm x.mb.length cm) (.slice pe x.el.length ce)) 27 (txc tp ts tv tt tl).toArray 34 (txc up us uv ut ul).toArray 34
  replace h := h.later hbel
  generalize hW : ((w.alloc (.cells (cvc x.k x.b (.slice pa x.am.length ca') (.slice pw x.wr.length cw) (.slice pm x.mb.length cm) (.slice pe x.el.length ce)) 27)).alloc (.cells (txc tp ts tv tt tl).toArray 34)).alloc (.cells (txc up us uv ut ul).toArray 34) = w0 at R0 R1 R2 hbel h
  have zd1 : (Try.prog.info? 29).map (·.size) = some [Value.int .i64 tp, .int .i64 ts].length := size29
  have zd2 : (Try.prog.info? 29).map (·.size) = some [Value.int .i64 up, .int .i64 us].length := size29
  go_enter Try.func6, Try.ntmps6
  go_wp2_with (first | rw [hW] | refine load_r 27 _ rfl rfl _ rfl R0 Try.underlying27 rfl size27 ?_)
  clear hW
  refine (few_any x _ _ _ _ w0 h hl).mono ?_
  rintro e w1 ⟨bf1, rfl, hfw, hb1⟩
  have HFW : Hid (bf1 = true → Fw x) := hfw
  replace R0 := R0.later hb1
  replace R1 := R1.later hb1
  replace R2 := R2.later hb1
  replace h := h.later hb1
  replace hbel := below_on hbel hb1
  clear hb1 hfw hl
  cases bf1
  · clear HFW
    go_wp2_with fail
    refine (heads_any _).mono ?_
    rintro e w9 ⟨rfl, hb9⟩
    go_wp2_with fail
    go_ret
    exact ⟨rfl, below_on hbel hb9⟩
  · have hf := HFW.out rfl
    have hs := hf.sm
    have h60 : x.am.length ≤ 60 := by have := hf.n; omega
    clear HFW hf
    go_wp2_with (first | refine load_r 27 _ rfl rfl _ rfl R0 Try.underlying27 rfl size27 ?_)
    refine (refCheck_any x _ _ _ _ w1 h hs).mono ?_
    rintro e w2 ⟨rfl, hb1⟩
    replace R0 := R0.later hb1
    replace R1 := R1.later hb1
    replace R2 := R2.later hb1
    replace h := h.later hb1
    replace hbel := below_on hbel hb1
    clear hb1
    obtain ⟨y1, HY1⟩ := hid_ex (ck x)
    rw [HY1.out]
    cases y1
    · go_wp2_with fail
      refine (heads_any _).mono ?_
      rintro e w9 ⟨rfl, hb9⟩
      go_wp2_with fail
      go_ret
      exact ⟨rfl, below_on hbel hb9⟩
    · have E := fun w => eq_dot w tp ts up us
      obtain ⟨y2, HY2⟩ := hid_ex (decide (tp = up) && decide (ts = us))
      rw [HY2.out] at E
      cases y2
      case' true =>
        go_wp2_with (first | refine load_m 29 _ rfl rfl _ _ rfl (tx_dot R1) Try.underlying29 rfl zd1 ?_ | refine load_m 29 _ rfl rfl _ _ rfl (tx_dot R2) Try.underlying29 rfl zd2 ?_)
        refine (heads_any _).mono ?_
        rintro e w9 ⟨rfl, hb9⟩
        go_wp2_with fail
        go_ret
        exact ⟨rfl, below_on hbel hb9⟩
      case' false =>
        by_cases hn1 : n < -1073741824
        case' pos =>
          have hd1 : decide (n < -1073741824) = true := decide_eq_true hn1
          go_wp2_with (first | refine load_m 29 _ rfl rfl _ _ rfl (tx_dot R1) Try.underlying29 rfl zd1 ?_ | refine load_m 29 _ rfl rfl _ _ rfl (tx_dot R2) Try.underlying29 rfl zd2 ?_)
          refine (heads_any _).mono ?_
          rintro e w9 ⟨rfl, hb9⟩
          go_wp2_with fail
          go_ret
          exact ⟨rfl, below_on hbel hb9⟩
        case' neg =>
          have hd1 : decide (n < -1073741824) = false := decide_eq_false hn1
          by_cases hn2 : 1073741824 < n
          case' pos =>
            have hd2 : decide (1073741824 < n) = true := decide_eq_true hn2
            go_wp2_with (first | refine load_m 29 _ rfl rfl _ _ rfl (tx_dot R1) Try.underlying29 rfl zd1 ?_ | refine load_m 29 _ rfl rfl _ _ rfl (tx_dot R2) Try.underlying29 rfl zd2 ?_)
            refine (heads_any _).mono ?_
            rintro e w9 ⟨rfl, hb9⟩
            go_wp2_with fail
            go_ret
            exact ⟨rfl, below_on hbel hb9⟩
          case' neg =>
            have hd2 : decide (1073741824 < n) = false := decide_eq_false hn2
            by_cases hm1 : m < -1073741824
            case' pos =>
              have hd3 : decide (m < -1073741824) = true := decide_eq_true hm1
              go_wp2_with (first | refine load_m 29 _ rfl rfl _ _ rfl (tx_dot R1) Try.underlying29 rfl zd1 ?_ | refine load_m 29 _ rfl rfl _ _ rfl (tx_dot R2) Try.underlying29 rfl zd2 ?_)
              refine (heads_any _).mono ?_
              rintro e w9 ⟨rfl, hb9⟩
              go_wp2_with fail
              go_ret
              exact ⟨rfl, below_on hbel hb9⟩
            case' neg =>
              have hd3 : decide (m < -1073741824) = false := decide_eq_false hm1
              by_cases hm2 : 1073741824 < m
              case' pos =>
                have hd4 : decide (1073741824 < m) = true := decide_eq_true hm2
                go_wp2_with (first | refine load_m 29 _ rfl rfl _ _ rfl (tx_dot R1) Try.underlying29 rfl zd1 ?_ | refine load_m 29 _ rfl rfl _ _ rfl (tx_dot R2) Try.underlying29 rfl zd2 ?_)
                refine (heads_any _).mono ?_
                rintro e w9 ⟨rfl, hb9⟩
                go_wp2_with fail
                go_ret
                exact ⟨rfl, below_on hbel hb9⟩
              case' neg =>
                have hd4 : decide (1073741824 < m) = false := decide_eq_false hm2
                go_wp2_with (first | refine load_m 29 _ rfl rfl _ _ rfl (tx_dot R1) Try.underlying29 rfl zd1 ?_ | refine load_m 29 _ rfl rfl _ _ rfl (tx_dot R2) Try.underlying29 rfl zd2 ?_)
                clear E hd1 hd2 hd3 hd4
                have HA : Hid (Four w2 x (.slice pa x.am.length ca') (.slice pw x.wr.length cw) (.slice pm x.mb.length cm) (.slice pe x.el.length ce)) := h
                have HIN : Hid (ia 1 n = true) := by
                  show _ = _
                  unfold ia wi
                  simp only [Bool.and_eq_true, decide_eq_true_eq]
                  omega
                have HIM : Hid (ia 1 m = true) := by
                  show _ = _
                  unfold ia wi
                  simp only [Bool.and_eq_true, decide_eq_true_eq]
                  omega
                have hbel3 := Below.refl w2.heap.size w2
                clear h
                go_loopw [11] (fun vi wr => ∃ k : Nat, vi = .int .i64 k ∧ k ≤ x.am.length ∧ Hid (∀ i (h : i < x.am.length), i < k → (decide (x.am[i].p = tp) && decide (x.am[i].s = ts)) = false ∧ (decide (x.am[i].p = up) && decide (x.am[i].s = us)) = false) ∧ Rw wr w.heap.size 27 (cvc x.k x.b (.slice pa x.am.length ca') (.slice pw x.wr.length cw) (.slice pm x.mb.length cm) (.slice pe x.el.length ce)) ∧ Rw wr (w.heap.size + 1) 34 (txc tp ts tv tt tl).toArray ∧ Rw wr (w.heap.size + 2) 34 (txc up us uv ut ul).toArray ∧ Below w2.heap.size w2 wr) (fun vi _ => x.am.length - (intOf vi).toNat)
                case atStart => exact ⟨0, rfl, by omega, (show ∀ i (_ : i < x.am.length), i < 0 → _ from fun i _ h => by omega), R0, R1, R2, hbel3⟩
                case round =>
                  clear R0 R1 R2 hbel3
                  obtain ⟨k, rfl, hk, HV, R0, R1, R2, hbel3⟩ := hrel
                  have c2 : wr.cell? ⟨w.heap.size, 2, none⟩ = some (.slice pa x.am.length ca') := R0.cell 2
                  by_cases hlt : k < x.am.length
                  · have hlt' : (k : Int) < (x.am.length : Int) := by omega
                    obtain ⟨g, o, rfl, hd0⟩ := HA.out.a.at (by omega)
                    have d := AHas.elem (range_later hd0 hbel3) k hlt
                    obtain ⟨y, HY⟩ := hid_ex x.am[k]
                    rw [HY.out] at d
                    clear hd0
                    have E1 := fun w => eq_dot w y.p y.s tp ts
                    have E2 := fun w => eq_dot w y.p y.s up us
                    obtain ⟨z1, HZ1⟩ := hid_ex (decide (y.p = tp) && decide (y.s = ts))
                    obtain ⟨z2, HZ2⟩ := hid_ex (decide (y.p = up) && decide (y.s = us))
                    rw [HZ1.out] at E1
                    rw [HZ2.out] at E2
                    have zy : (Try.prog.info? 29).map (·.size) = some [Value.int .i64 y.p, .int .i64 y.s].length := size29
                    replace d : wr.rangeAt g (o + k * 4) [.int .i64 y.p, .int .i64 y.s] := fun j u hu => d j u (by
                      match j, hu with
                      | 0, hu => exact hu
                      | 1, hu => exact hu
                      | j + 2, hu => simp at hu)
                    go_wp2_with fail
                    clear c2
                    cases z1
                    · cases z2
                      · have HV2 : Hid (∀ i (h : i < x.am.length), i < k + 1 → (decide (x.am[i].p = tp) && decide (x.am[i].s = ts)) = false ∧ (decide (x.am[i].p = up) && decide (x.am[i].s = us)) = false) := fun i h hi => by
                          rcases Nat.lt_or_ge i k with h' | h'
                          · exact HV.out i h h'
                          · obtain rfl : i = k := by omega
                            rw [HY.out]
                            exact ⟨HZ1.out, HZ2.out⟩
                        clear HV
                        have hs : Calm.Stays (fun w' => Rw w' w.heap.size 27 (cvc x.k x.b (.slice (some ⟨g, o, none⟩) x.am.length ca') (.slice pw x.wr.length cw) (.slice pm x.mb.length cm) (.slice pe x.el.length ce)) ∧ Rw w' (w.heap.size + 1) 34 (txc tp ts tv tt tl).toArray ∧ Rw w' (w.heap.size + 2) 34 (txc up us uv ut ul).toArray ∧ w'.rangeAt g (o + k * 4) [.int .i64 y.p, .int .i64 y.s] ∧ Below w2.heap.size w2 w') := fun wa wb h hb => ⟨h.1.later hb, h.2.1.later hb, h.2.2.1.later hb, range_later h.2.2.2.1 hb, below_on h.2.2.2.2 hb⟩
                        refine Calm.region (by kernel_rfl) (by kernel_rfl) (fun w' => Rw w' w.heap.size 27 (cvc x.k x.b (.slice (some ⟨g, o, none⟩) x.am.length ca') (.slice pw x.wr.length cw) (.slice pm x.mb.length cm) (.slice pe x.el.length ce)) ∧ Rw w' (w.heap.size + 1) 34 (txc tp ts tv tt tl).toArray ∧ Rw w' (w.heap.size + 2) 34 (txc up us uv ut ul).toArray ∧ w'.rangeAt g (o + k * 4) [.int .i64 y.p, .int .i64 y.s] ∧ Below w2.heap.size w2 w') ⟨R0, R1, R2, d, hbel3.drew⟩ ?_
                        all_goals
                          refine Calm.pure (v := ?_) (by rfl) ?_ ?_
                          rotate_left
                          focus (intro w hSw; go_simp <;> rfl)
                          simp only [Act.put, List.setIfInBounds_toArray, List.set_cons_zero, List.set_cons_succ]
                        all_goals
                          refine Calm.pure (v := ?_) (by rfl) ?_ ?_
                          rotate_left
                          focus (intro w hSw; have g1 := hSw.1.cell 2; simp at g1; go_simp <;> rfl)
                          simp only [Act.put, List.setIfInBounds_toArray, List.set_cons_zero, List.set_cons_succ]
                        all_goals
                          refine Calm.pure (v := ?_) (by rfl) ?_ ?_
                          rotate_left
                          focus (intro w hSw; go_simp <;> rfl)
                          simp only [Act.put, List.setIfInBounds_toArray, List.set_cons_zero, List.set_cons_succ]
                        all_goals
                          refine Calm.pure (v := ?_) (by rfl) ?_ ?_
                          rotate_left
                          focus (intro w hSw; go_simp <;> rfl)
                          simp only [Act.put, List.setIfInBounds_toArray, List.set_cons_zero, List.set_cons_succ]
                        all_goals
                          refine Calm.pure (v := ?_) (by rfl) ?_ ?_
                          rotate_left
                          focus (intro w hSw; go_simp <;> rfl)
                          simp only [Act.put, List.setIfInBounds_toArray, List.set_cons_zero, List.set_cons_succ]
                        all_goals
                          refine Calm.pure (v := ?_) (by rfl) ?_ ?_
                          rotate_left
                          focus (intro w hSw; go_simp <;> rfl)
                          simp only [Act.put, List.setIfInBounds_toArray, List.set_cons_zero, List.set_cons_succ]
                        all_goals
                          first | (refine Calm.loadM 29 Try.underlying29 rfl zy (by rfl) _ rfl rfl (fun _ h => h.2.2.2.1) ?_) | (refine Calm.loadM 29 Try.underlying29 rfl zd1 (by rfl) _ rfl rfl (fun _ h => tx_dot h.2.1) ?_) | (refine Calm.loadM 29 Try.underlying29 rfl zd2 (by rfl) _ rfl rfl (fun _ h => tx_dot h.2.2.1) ?_)
                          simp only [Act.put, List.setIfInBounds_toArray, List.set_cons_zero, List.set_cons_succ]
                        all_goals
                          refine Calm.pure (v := ?_) (by rfl) ?_ ?_
                          rotate_left
                          focus (intro w hSw; go_simp <;> rfl)
                          simp only [Act.put, List.setIfInBounds_toArray, List.set_cons_zero, List.set_cons_succ]
                        all_goals
                          first | (refine Calm.loadM 29 Try.underlying29 rfl zy (by rfl) _ rfl rfl (fun _ h => h.2.2.2.1) ?_) | (refine Calm.loadM 29 Try.underlying29 rfl zd1 (by rfl) _ rfl rfl (fun _ h => tx_dot h.2.1) ?_) | (refine Calm.loadM 29 Try.underlying29 rfl zd2 (by rfl) _ rfl rfl (fun _ h => tx_dot h.2.2.1) ?_)
                          simp only [Act.put, List.setIfInBounds_toArray, List.set_cons_zero, List.set_cons_succ]
                        all_goals
                          refine Calm.pure (v := ?_) (by rfl) ?_ ?_
                          rotate_left
                          focus (intro w hSw; go_simp <;> rfl)
                          simp only [Act.put, List.setIfInBounds_toArray, List.set_cons_zero, List.set_cons_succ]
                        all_goals
                          refine Calm.pure (v := ?_) (by rfl) ?_ ?_
                          rotate_left
                          focus (intro w hSw; go_simp <;> rfl)
                          simp only [Act.put, List.setIfInBounds_toArray, List.set_cons_zero, List.set_cons_succ]
                        all_goals
                          first
                            | (refine Calm.skip ?_ ?_; focus rfl)
                            | (refine Calm.pure (v := ?_) (by rfl) ?_ ?_
                               rotate_left
                               focus (intro w hSw; go_simp <;> rfl))
                          simp only [Act.put, List.setIfInBounds_toArray, List.set_cons_zero, List.set_cons_succ]
                        all_goals
                          first
                            | (refine Calm.skip ?_ ?_; focus rfl)
                            | (refine Calm.pure (v := ?_) (by rfl) ?_ ?_
                               rotate_left
                               focus (intro w hSw; have g1 := hSw.1.cell 2; simp at g1; go_simp <;> rfl))
                          simp only [Act.put, List.setIfInBounds_toArray, List.set_cons_zero, List.set_cons_succ]
                        all_goals
                          first
                            | (refine Calm.skip ?_ ?_; focus rfl)
                            | (refine Calm.pure (v := ?_) (by rfl) ?_ ?_
                               rotate_left
                               focus (intro w hSw; go_simp <;> rfl))
                          simp only [Act.put, List.setIfInBounds_toArray, List.set_cons_zero, List.set_cons_succ]
                        all_goals
                          first
                            | (refine Calm.skip ?_ ?_; focus rfl)
                            | (refine Calm.pure (v := ?_) (by rfl) ?_ ?_
                               rotate_left
                               focus (intro w hSw; go_simp <;> rfl))
                          simp only [Act.put, List.setIfInBounds_toArray, List.set_cons_zero, List.set_cons_succ]
                        all_goals
                          first
                            | (refine Calm.skip ?_ ?_; focus rfl)
                            | (refine Calm.pure (v := ?_) (by rfl) ?_ ?_
                               rotate_left
                               focus (intro w hSw; go_simp <;> rfl))
                          simp only [Act.put, List.setIfInBounds_toArray, List.set_cons_zero, List.set_cons_succ]
                        all_goals
                          first
                            | (refine Calm.skip ?_ ?_; focus rfl)
                            | (refine Calm.pure (v := ?_) (by rfl) ?_ ?_
                               rotate_left
                               focus (intro w hSw; go_simp <;> rfl))
                          simp only [Act.put, List.setIfInBounds_toArray, List.set_cons_zero, List.set_cons_succ]
                        all_goals
                          first
                            | (refine Calm.skip ?_ ?_; focus rfl)
                            | (first | (refine Calm.loadM 29 Try.underlying29 rfl zy (by rfl) _ rfl rfl (fun _ h => h.2.2.2.1) ?_) | (refine Calm.loadM 29 Try.underlying29 rfl zd1 (by rfl) _ rfl rfl (fun _ h => tx_dot h.2.1) ?_) | (refine Calm.loadM 29 Try.underlying29 rfl zd2 (by rfl) _ rfl rfl (fun _ h => tx_dot h.2.2.1) ?_))
                          simp only [Act.put, List.setIfInBounds_toArray, List.set_cons_zero, List.set_cons_succ]
                        all_goals
                          first
                            | (refine Calm.skip ?_ ?_; focus rfl)
                            | (refine Calm.pure (v := ?_) (by rfl) ?_ ?_
                               rotate_left
                               focus (intro w hSw; go_simp <;> rfl))
                          simp only [Act.put, List.setIfInBounds_toArray, List.set_cons_zero, List.set_cons_succ]
                        all_goals
                          first
                            | (refine Calm.skip ?_ ?_; focus rfl)
                            | (first | (refine Calm.loadM 29 Try.underlying29 rfl zy (by rfl) _ rfl rfl (fun _ h => h.2.2.2.1) ?_) | (refine Calm.loadM 29 Try.underlying29 rfl zd1 (by rfl) _ rfl rfl (fun _ h => tx_dot h.2.1) ?_) | (refine Calm.loadM 29 Try.underlying29 rfl zd2 (by rfl) _ rfl rfl (fun _ h => tx_dot h.2.2.1) ?_))
                          simp only [Act.put, List.setIfInBounds_toArray, List.set_cons_zero, List.set_cons_succ]
                        all_goals
                          first
                            | (refine Calm.skip ?_ ?_; focus rfl)
                            | (refine Calm.pure (v := ?_) (by rfl) ?_ ?_
                               rotate_left
                               focus (intro w hSw; go_simp <;> rfl))
                          simp only [Act.put, List.setIfInBounds_toArray, List.set_cons_zero, List.set_cons_succ]
                        all_goals
                          refine Calm.pure (v := ?_) (by rfl) ?_ ?_
                          rotate_left
                          focus (intro w hSw; go_simp <;> rfl)
                          simp only [Act.put, List.setIfInBounds_toArray, List.set_cons_zero, List.set_cons_succ]
                        all_goals
                          rintro w9 ⟨R09, R19, R29, _, hbel9⟩
                        go_wp2_with fail
                        go_roundw
                        case rel => exact ⟨k + 1, by simp, by omega, HV2, R09, R19, R29, hbel9⟩
                        case measure => simp [intOf]; omega
                      · clear HV
                        have hs : Calm.Stays (fun w' => Rw w' w.heap.size 27 (cvc x.k x.b (.slice (some ⟨g, o, none⟩) x.am.length ca') (.slice pw x.wr.length cw) (.slice pm x.mb.length cm) (.slice pe x.el.length ce)) ∧ Rw w' (w.heap.size + 1) 34 (txc tp ts tv tt tl).toArray ∧ Rw w' (w.heap.size + 2) 34 (txc up us uv ut ul).toArray ∧ w'.rangeAt g (o + k * 4) [.int .i64 y.p, .int .i64 y.s] ∧ Below w2.heap.size w2 w') := fun wa wb h hb => ⟨h.1.later hb, h.2.1.later hb, h.2.2.1.later hb, range_later h.2.2.2.1 hb, below_on h.2.2.2.2 hb⟩
                        refine Calm.region (by kernel_rfl) (by kernel_rfl) (fun w' => Rw w' w.heap.size 27 (cvc x.k x.b (.slice (some ⟨g, o, none⟩) x.am.length ca') (.slice pw x.wr.length cw) (.slice pm x.mb.length cm) (.slice pe x.el.length ce)) ∧ Rw w' (w.heap.size + 1) 34 (txc tp ts tv tt tl).toArray ∧ Rw w' (w.heap.size + 2) 34 (txc up us uv ut ul).toArray ∧ w'.rangeAt g (o + k * 4) [.int .i64 y.p, .int .i64 y.s] ∧ Below w2.heap.size w2 w') ⟨R0, R1, R2, d, hbel3.drew⟩ ?_
                        all_goals
                          refine Calm.pure (v := ?_) (by rfl) ?_ ?_
                          rotate_left
                          focus (intro w hSw; go_simp <;> rfl)
                          simp only [Act.put, List.setIfInBounds_toArray, List.set_cons_zero, List.set_cons_succ]
                        all_goals
                          refine Calm.pure (v := ?_) (by rfl) ?_ ?_
                          rotate_left
                          focus (intro w hSw; have g1 := hSw.1.cell 2; simp at g1; go_simp <;> rfl)
                          simp only [Act.put, List.setIfInBounds_toArray, List.set_cons_zero, List.set_cons_succ]
                        all_goals
                          refine Calm.pure (v := ?_) (by rfl) ?_ ?_
                          rotate_left
                          focus (intro w hSw; go_simp <;> rfl)
                          simp only [Act.put, List.setIfInBounds_toArray, List.set_cons_zero, List.set_cons_succ]
                        all_goals
                          refine Calm.pure (v := ?_) (by rfl) ?_ ?_
                          rotate_left
                          focus (intro w hSw; go_simp <;> rfl)
                          simp only [Act.put, List.setIfInBounds_toArray, List.set_cons_zero, List.set_cons_succ]
                        all_goals
                          refine Calm.pure (v := ?_) (by rfl) ?_ ?_
                          rotate_left
                          focus (intro w hSw; go_simp <;> rfl)
                          simp only [Act.put, List.setIfInBounds_toArray, List.set_cons_zero, List.set_cons_succ]
                        all_goals
                          refine Calm.pure (v := ?_) (by rfl) ?_ ?_
                          rotate_left
                          focus (intro w hSw; go_simp <;> rfl)
                          simp only [Act.put, List.setIfInBounds_toArray, List.set_cons_zero, List.set_cons_succ]
                        all_goals
                          first | (refine Calm.loadM 29 Try.underlying29 rfl zy (by rfl) _ rfl rfl (fun _ h => h.2.2.2.1) ?_) | (refine Calm.loadM 29 Try.underlying29 rfl zd1 (by rfl) _ rfl rfl (fun _ h => tx_dot h.2.1) ?_) | (refine Calm.loadM 29 Try.underlying29 rfl zd2 (by rfl) _ rfl rfl (fun _ h => tx_dot h.2.2.1) ?_)
                          simp only [Act.put, List.setIfInBounds_toArray, List.set_cons_zero, List.set_cons_succ]
                        all_goals
                          refine Calm.pure (v := ?_) (by rfl) ?_ ?_
                          rotate_left
                          focus (intro w hSw; go_simp <;> rfl)
                          simp only [Act.put, List.setIfInBounds_toArray, List.set_cons_zero, List.set_cons_succ]
                        all_goals
                          first | (refine Calm.loadM 29 Try.underlying29 rfl zy (by rfl) _ rfl rfl (fun _ h => h.2.2.2.1) ?_) | (refine Calm.loadM 29 Try.underlying29 rfl zd1 (by rfl) _ rfl rfl (fun _ h => tx_dot h.2.1) ?_) | (refine Calm.loadM 29 Try.underlying29 rfl zd2 (by rfl) _ rfl rfl (fun _ h => tx_dot h.2.2.1) ?_)
                          simp only [Act.put, List.setIfInBounds_toArray, List.set_cons_zero, List.set_cons_succ]
                        all_goals
                          refine Calm.pure (v := ?_) (by rfl) ?_ ?_
                          rotate_left
                          focus (intro w hSw; go_simp <;> rfl)
                          simp only [Act.put, List.setIfInBounds_toArray, List.set_cons_zero, List.set_cons_succ]
                        all_goals
                          refine Calm.pure (v := ?_) (by rfl) ?_ ?_
                          rotate_left
                          focus (intro w hSw; go_simp <;> rfl)
                          simp only [Act.put, List.setIfInBounds_toArray, List.set_cons_zero, List.set_cons_succ]
                        all_goals
                          first
                            | (refine Calm.skip ?_ ?_; focus rfl)
                            | (refine Calm.pure (v := ?_) (by rfl) ?_ ?_
                               rotate_left
                               focus (intro w hSw; go_simp <;> rfl))
                          simp only [Act.put, List.setIfInBounds_toArray, List.set_cons_zero, List.set_cons_succ]
                        all_goals
                          first
                            | (refine Calm.skip ?_ ?_; focus rfl)
                            | (refine Calm.pure (v := ?_) (by rfl) ?_ ?_
                               rotate_left
                               focus (intro w hSw; have g1 := hSw.1.cell 2; simp at g1; go_simp <;> rfl))
                          simp only [Act.put, List.setIfInBounds_toArray, List.set_cons_zero, List.set_cons_succ]
                        all_goals
                          first
                            | (refine Calm.skip ?_ ?_; focus rfl)
                            | (refine Calm.pure (v := ?_) (by rfl) ?_ ?_
                               rotate_left
                               focus (intro w hSw; go_simp <;> rfl))
                          simp only [Act.put, List.setIfInBounds_toArray, List.set_cons_zero, List.set_cons_succ]
                        all_goals
                          first
                            | (refine Calm.skip ?_ ?_; focus rfl)
                            | (refine Calm.pure (v := ?_) (by rfl) ?_ ?_
                               rotate_left
                               focus (intro w hSw; go_simp <;> rfl))
                          simp only [Act.put, List.setIfInBounds_toArray, List.set_cons_zero, List.set_cons_succ]
                        all_goals
                          first
                            | (refine Calm.skip ?_ ?_; focus rfl)
                            | (refine Calm.pure (v := ?_) (by rfl) ?_ ?_
                               rotate_left
                               focus (intro w hSw; go_simp <;> rfl))
                          simp only [Act.put, List.setIfInBounds_toArray, List.set_cons_zero, List.set_cons_succ]
                        all_goals
                          first
                            | (refine Calm.skip ?_ ?_; focus rfl)
                            | (refine Calm.pure (v := ?_) (by rfl) ?_ ?_
                               rotate_left
                               focus (intro w hSw; go_simp <;> rfl))
                          simp only [Act.put, List.setIfInBounds_toArray, List.set_cons_zero, List.set_cons_succ]
                        all_goals
                          first
                            | (refine Calm.skip ?_ ?_; focus rfl)
                            | (first | (refine Calm.loadM 29 Try.underlying29 rfl zy (by rfl) _ rfl rfl (fun _ h => h.2.2.2.1) ?_) | (refine Calm.loadM 29 Try.underlying29 rfl zd1 (by rfl) _ rfl rfl (fun _ h => tx_dot h.2.1) ?_) | (refine Calm.loadM 29 Try.underlying29 rfl zd2 (by rfl) _ rfl rfl (fun _ h => tx_dot h.2.2.1) ?_))
                          simp only [Act.put, List.setIfInBounds_toArray, List.set_cons_zero, List.set_cons_succ]
                        all_goals
                          first
                            | (refine Calm.skip ?_ ?_; focus rfl)
                            | (refine Calm.pure (v := ?_) (by rfl) ?_ ?_
                               rotate_left
                               focus (intro w hSw; go_simp <;> rfl))
                          simp only [Act.put, List.setIfInBounds_toArray, List.set_cons_zero, List.set_cons_succ]
                        all_goals
                          first
                            | (refine Calm.skip ?_ ?_; focus rfl)
                            | (first | (refine Calm.loadM 29 Try.underlying29 rfl zy (by rfl) _ rfl rfl (fun _ h => h.2.2.2.1) ?_) | (refine Calm.loadM 29 Try.underlying29 rfl zd1 (by rfl) _ rfl rfl (fun _ h => tx_dot h.2.1) ?_) | (refine Calm.loadM 29 Try.underlying29 rfl zd2 (by rfl) _ rfl rfl (fun _ h => tx_dot h.2.2.1) ?_))
                          simp only [Act.put, List.setIfInBounds_toArray, List.set_cons_zero, List.set_cons_succ]
                        all_goals
                          first
                            | (refine Calm.skip ?_ ?_; focus rfl)
                            | (refine Calm.pure (v := ?_) (by rfl) ?_ ?_
                               rotate_left
                               focus (intro w hSw; go_simp <;> rfl))
                          simp only [Act.put, List.setIfInBounds_toArray, List.set_cons_zero, List.set_cons_succ]
                        all_goals
                          refine Calm.pure (v := ?_) (by rfl) ?_ ?_
                          rotate_left
                          focus (intro w hSw; go_simp <;> rfl)
                          simp only [Act.put, List.setIfInBounds_toArray, List.set_cons_zero, List.set_cons_succ]
                        all_goals
                          rintro w9 ⟨R09, R19, R29, _, hbel9⟩
                        replace hbel := below_on hbel hbel9
                        go_wp2_with fail
                        refine (heads_any _).mono ?_
                        rintro e w9 ⟨rfl, hb9⟩
                        go_wp2_with fail
                        go_ret
                        exact ⟨rfl, below_on hbel hb9⟩
                    · clear HV
                      have hs : Calm.Stays (fun w' => Rw w' w.heap.size 27 (cvc x.k x.b (.slice (some ⟨g, o, none⟩) x.am.length ca') (.slice pw x.wr.length cw) (.slice pm x.mb.length cm) (.slice pe x.el.length ce)) ∧ Rw w' (w.heap.size + 1) 34 (txc tp ts tv tt tl).toArray ∧ Rw w' (w.heap.size + 2) 34 (txc up us uv ut ul).toArray ∧ w'.rangeAt g (o + k * 4) [.int .i64 y.p, .int .i64 y.s] ∧ Below w2.heap.size w2 w') := fun wa wb h hb => ⟨h.1.later hb, h.2.1.later hb, h.2.2.1.later hb, range_later h.2.2.2.1 hb, below_on h.2.2.2.2 hb⟩
                      refine Calm.region (by kernel_rfl) (by kernel_rfl) (fun w' => Rw w' w.heap.size 27 (cvc x.k x.b (.slice (some ⟨g, o, none⟩) x.am.length ca') (.slice pw x.wr.length cw) (.slice pm x.mb.length cm) (.slice pe x.el.length ce)) ∧ Rw w' (w.heap.size + 1) 34 (txc tp ts tv tt tl).toArray ∧ Rw w' (w.heap.size + 2) 34 (txc up us uv ut ul).toArray ∧ w'.rangeAt g (o + k * 4) [.int .i64 y.p, .int .i64 y.s] ∧ Below w2.heap.size w2 w') ⟨R0, R1, R2, d, hbel3.drew⟩ ?_
                      all_goals
                        refine Calm.pure (v := ?_) (by rfl) ?_ ?_
                        rotate_left
                        focus (intro w hSw; go_simp <;> rfl)
                        simp only [Act.put, List.setIfInBounds_toArray, List.set_cons_zero, List.set_cons_succ]
                      all_goals
                        refine Calm.pure (v := ?_) (by rfl) ?_ ?_
                        rotate_left
                        focus (intro w hSw; have g1 := hSw.1.cell 2; simp at g1; go_simp <;> rfl)
                        simp only [Act.put, List.setIfInBounds_toArray, List.set_cons_zero, List.set_cons_succ]
                      all_goals
                        refine Calm.pure (v := ?_) (by rfl) ?_ ?_
                        rotate_left
                        focus (intro w hSw; go_simp <;> rfl)
                        simp only [Act.put, List.setIfInBounds_toArray, List.set_cons_zero, List.set_cons_succ]
                      all_goals
                        refine Calm.pure (v := ?_) (by rfl) ?_ ?_
                        rotate_left
                        focus (intro w hSw; go_simp <;> rfl)
                        simp only [Act.put, List.setIfInBounds_toArray, List.set_cons_zero, List.set_cons_succ]
                      all_goals
                        refine Calm.pure (v := ?_) (by rfl) ?_ ?_
                        rotate_left
                        focus (intro w hSw; go_simp <;> rfl)
                        simp only [Act.put, List.setIfInBounds_toArray, List.set_cons_zero, List.set_cons_succ]
                      all_goals
                        refine Calm.pure (v := ?_) (by rfl) ?_ ?_
                        rotate_left
                        focus (intro w hSw; go_simp <;> rfl)
                        simp only [Act.put, List.setIfInBounds_toArray, List.set_cons_zero, List.set_cons_succ]
                      all_goals
                        first | (refine Calm.loadM 29 Try.underlying29 rfl zy (by rfl) _ rfl rfl (fun _ h => h.2.2.2.1) ?_) | (refine Calm.loadM 29 Try.underlying29 rfl zd1 (by rfl) _ rfl rfl (fun _ h => tx_dot h.2.1) ?_) | (refine Calm.loadM 29 Try.underlying29 rfl zd2 (by rfl) _ rfl rfl (fun _ h => tx_dot h.2.2.1) ?_)
                        simp only [Act.put, List.setIfInBounds_toArray, List.set_cons_zero, List.set_cons_succ]
                      all_goals
                        refine Calm.pure (v := ?_) (by rfl) ?_ ?_
                        rotate_left
                        focus (intro w hSw; go_simp <;> rfl)
                        simp only [Act.put, List.setIfInBounds_toArray, List.set_cons_zero, List.set_cons_succ]
                      all_goals
                        first | (refine Calm.loadM 29 Try.underlying29 rfl zy (by rfl) _ rfl rfl (fun _ h => h.2.2.2.1) ?_) | (refine Calm.loadM 29 Try.underlying29 rfl zd1 (by rfl) _ rfl rfl (fun _ h => tx_dot h.2.1) ?_) | (refine Calm.loadM 29 Try.underlying29 rfl zd2 (by rfl) _ rfl rfl (fun _ h => tx_dot h.2.2.1) ?_)
                        simp only [Act.put, List.setIfInBounds_toArray, List.set_cons_zero, List.set_cons_succ]
                      all_goals
                        refine Calm.pure (v := ?_) (by rfl) ?_ ?_
                        rotate_left
                        focus (intro w hSw; go_simp <;> rfl)
                        simp only [Act.put, List.setIfInBounds_toArray, List.set_cons_zero, List.set_cons_succ]
                      all_goals
                        refine Calm.pure (v := ?_) (by rfl) ?_ ?_
                        rotate_left
                        focus (intro w hSw; go_simp <;> rfl)
                        simp only [Act.put, List.setIfInBounds_toArray, List.set_cons_zero, List.set_cons_succ]
                      all_goals
                        first
                          | (refine Calm.skip ?_ ?_; focus rfl)
                          | (refine Calm.pure (v := ?_) (by rfl) ?_ ?_
                             rotate_left
                             focus (intro w hSw; go_simp <;> rfl))
                        simp only [Act.put, List.setIfInBounds_toArray, List.set_cons_zero, List.set_cons_succ]
                      all_goals
                        first
                          | (refine Calm.skip ?_ ?_; focus rfl)
                          | (refine Calm.pure (v := ?_) (by rfl) ?_ ?_
                             rotate_left
                             focus (intro w hSw; have g1 := hSw.1.cell 2; simp at g1; go_simp <;> rfl))
                        simp only [Act.put, List.setIfInBounds_toArray, List.set_cons_zero, List.set_cons_succ]
                      all_goals
                        first
                          | (refine Calm.skip ?_ ?_; focus rfl)
                          | (refine Calm.pure (v := ?_) (by rfl) ?_ ?_
                             rotate_left
                             focus (intro w hSw; go_simp <;> rfl))
                        simp only [Act.put, List.setIfInBounds_toArray, List.set_cons_zero, List.set_cons_succ]
                      all_goals
                        first
                          | (refine Calm.skip ?_ ?_; focus rfl)
                          | (refine Calm.pure (v := ?_) (by rfl) ?_ ?_
                             rotate_left
                             focus (intro w hSw; go_simp <;> rfl))
                        simp only [Act.put, List.setIfInBounds_toArray, List.set_cons_zero, List.set_cons_succ]
                      all_goals
                        first
                          | (refine Calm.skip ?_ ?_; focus rfl)
                          | (refine Calm.pure (v := ?_) (by rfl) ?_ ?_
                             rotate_left
                             focus (intro w hSw; go_simp <;> rfl))
                        simp only [Act.put, List.setIfInBounds_toArray, List.set_cons_zero, List.set_cons_succ]
                      all_goals
                        first
                          | (refine Calm.skip ?_ ?_; focus rfl)
                          | (refine Calm.pure (v := ?_) (by rfl) ?_ ?_
                             rotate_left
                             focus (intro w hSw; go_simp <;> rfl))
                        simp only [Act.put, List.setIfInBounds_toArray, List.set_cons_zero, List.set_cons_succ]
                      all_goals
                        first
                          | (refine Calm.skip ?_ ?_; focus rfl)
                          | (first | (refine Calm.loadM 29 Try.underlying29 rfl zy (by rfl) _ rfl rfl (fun _ h => h.2.2.2.1) ?_) | (refine Calm.loadM 29 Try.underlying29 rfl zd1 (by rfl) _ rfl rfl (fun _ h => tx_dot h.2.1) ?_) | (refine Calm.loadM 29 Try.underlying29 rfl zd2 (by rfl) _ rfl rfl (fun _ h => tx_dot h.2.2.1) ?_))
                        simp only [Act.put, List.setIfInBounds_toArray, List.set_cons_zero, List.set_cons_succ]
                      all_goals
                        first
                          | (refine Calm.skip ?_ ?_; focus rfl)
                          | (refine Calm.pure (v := ?_) (by rfl) ?_ ?_
                             rotate_left
                             focus (intro w hSw; go_simp <;> rfl))
                        simp only [Act.put, List.setIfInBounds_toArray, List.set_cons_zero, List.set_cons_succ]
                      all_goals
                        first
                          | (refine Calm.skip ?_ ?_; focus rfl)
                          | (first | (refine Calm.loadM 29 Try.underlying29 rfl zy (by rfl) _ rfl rfl (fun _ h => h.2.2.2.1) ?_) | (refine Calm.loadM 29 Try.underlying29 rfl zd1 (by rfl) _ rfl rfl (fun _ h => tx_dot h.2.1) ?_) | (refine Calm.loadM 29 Try.underlying29 rfl zd2 (by rfl) _ rfl rfl (fun _ h => tx_dot h.2.2.1) ?_))
                        simp only [Act.put, List.setIfInBounds_toArray, List.set_cons_zero, List.set_cons_succ]
                      all_goals
                        first
                          | (refine Calm.skip ?_ ?_; focus rfl)
                          | (refine Calm.pure (v := ?_) (by rfl) ?_ ?_
                             rotate_left
                             focus (intro w hSw; go_simp <;> rfl))
                        simp only [Act.put, List.setIfInBounds_toArray, List.set_cons_zero, List.set_cons_succ]
                      all_goals
                        refine Calm.pure (v := ?_) (by rfl) ?_ ?_
                        rotate_left
                        focus (intro w hSw; go_simp <;> rfl)
                        simp only [Act.put, List.setIfInBounds_toArray, List.set_cons_zero, List.set_cons_succ]
                      all_goals
                        rintro w9 ⟨R09, R19, R29, _, hbel9⟩
                      replace hbel := below_on hbel hbel9
                      go_wp2_with fail
                      refine (heads_any _).mono ?_
                      rintro e w9 ⟨rfl, hb9⟩
                      go_wp2_with fail
                      go_ret
                      exact ⟨rfl, below_on hbel hb9⟩
                  · obtain rfl : k = x.am.length := by omega
                    have hlt' : ¬ (x.am.length : Int) < (x.am.length : Int) := by omega
                    have hT : has ⟨tp, ts, 1, n⟩ x.am = false := has_dots fun i hi => (HV.out i hi hi).1
                    have hU : has ⟨up, us, 1, m⟩ x.am = false := has_dots fun i hi => (HV.out i hi hi).2
                    have hmk : mk ⟨tp, ts, 1, n⟩ ⟨up, us, 1, m⟩ = false := by
                      unfold mk
                      show (decide (tp = up) && decide (ts = us) && _) = false
                      rw [HY2.out]
                      rfl
                    have hmk2 : mk ⟨up, us, 1, m⟩ ⟨tp, ts, 1, n⟩ = false := by
                      cases e : mk ⟨up, us, 1, m⟩ ⟨tp, ts, 1, n⟩
                      · rfl
                      · rw [mk_iff] at e
                        rw [show mk ⟨tp, ts, 1, n⟩ ⟨up, us, 1, m⟩ = true from (mk_iff _ _).2 ⟨e.1.symm, e.2.1.symm, e.2.2.symm⟩] at hmk
                        cases hmk
                    have hca := (ck_parts HY1.out).2.2.2.2.2
                    have k1 : ca (insF ⟨tp, ts, 1, n⟩ x.am) = true := insF_ca hca HIN.out hT
                    have k2 : ca (insF ⟨up, us, 1, m⟩ x.am) = true := insF_ca hca HIM.out hU
                    have hU1 : has ⟨up, us, 1, m⟩ (insF ⟨tp, ts, 1, n⟩ x.am) = false := by rw [has_insF hmk]; exact hU
                    have hT1 : has ⟨tp, ts, 1, n⟩ (insF ⟨up, us, 1, m⟩ x.am) = false := by rw [has_insF hmk2]; exact hT
                    have k3 : ca (insF ⟨up, us, 1, m⟩ (insF ⟨tp, ts, 1, n⟩ x.am)) = true := insF_ca k1 HIM.out hU1
                    have D1 : Hid (doX x ⟨tp, ts, 1, n⟩ = xi x (insF ⟨tp, ts, 1, n⟩ x.am)) := do_xi HY1.out HIN.out hT
                    have D2 : Hid (doX (xi x (insF ⟨tp, ts, 1, n⟩ x.am)) ⟨up, us, 1, m⟩ = xi x (insF ⟨up, us, 1, m⟩ (insF ⟨tp, ts, 1, n⟩ x.am))) := do_xi (ck_xi HY1.out k1) HIM.out hU1
                    have D3 : Hid (doX x ⟨up, us, 1, m⟩ = xi x (insF ⟨up, us, 1, m⟩ x.am)) := do_xi HY1.out HIM.out hU
                    have D4 : Hid (doX (xi x (insF ⟨up, us, 1, m⟩ x.am)) ⟨tp, ts, 1, n⟩ = xi x (insF ⟨up, us, 1, m⟩ (insF ⟨tp, ts, 1, n⟩ x.am))) := by
                      show _ = _
                      rw [do_xi (ck_xi HY1.out k2) HIN.out hT1]
                      show xi x (insF ⟨tp, ts, 1, n⟩ (insF ⟨up, us, 1, m⟩ x.am)) = _
                      rw [insF_comm hmk]
                    have KA : Hid (ck (xi x (insF ⟨up, us, 1, m⟩ (insF ⟨tp, ts, 1, n⟩ x.am))) = true) := ck_xi HY1.out k3
                    have s1 : Sm (xi x (insF ⟨tp, ts, 1, n⟩ x.am)) := sm_xi hs (by rw [insF_length]; omega)
                    have s2 : Sm (xi x (insF ⟨up, us, 1, m⟩ x.am)) := sm_xi hs (by rw [insF_length]; omega)
                    have s3 : Sm (xi x (insF ⟨up, us, 1, m⟩ (insF ⟨tp, ts, 1, n⟩ x.am))) := sm_xi hs (by rw [insF_length, insF_length]; omega)
                    have hll : (insF ⟨up, us, 1, m⟩ (insF ⟨tp, ts, 1, n⟩ x.am)).length = x.am.length + 1 + 1 := by rw [insF_length, insF_length]
                    have HRA : Hid (rdN (xi x (insF ⟨up, us, 1, m⟩ (insF ⟨tp, ts, 1, n⟩ x.am))) = x.b + sm x.am + n + m) := by
                      show _ = _
                      rw [(rd_ok KA.out).2]
                      show x.b + sm (insF ⟨up, us, 1, m⟩ (insF ⟨tp, ts, 1, n⟩ x.am)) = _
                      rw [insF_sm, insF_sm]
                      show x.b + (sm x.am + n + m) = _
                      omega
                    have hsb := sm_bound _ (ca_nb hca)
                    have hbx : -1152921504606846976 ≤ x.b ∧ x.b ≤ 1152921504606846976 := by have := (ck_parts HY1.out).2.2.2.2.1; simpa [wi] using this
                    have hz0 := ck_parts HY1.out
                    have h := HA.out.later hbel3
                    replace hbel := below_on hbel hbel3
                    have hN : w.heap.size + 2 < wr.heap.size := R2.lt
                    clear HA hbel3 HV hT hU hmk hmk2 hca k1 k2 hU1 hT1 k3
                    have zx : (Try.prog.info? 27).map (·.size) = some ([Value.int .i64 x.k, .int .i64 x.b, .slice pa x.am.length ca', .slice pw x.wr.length cw, .slice pm x.mb.length cm, .slice pe x.el.length ce] : List Value).length := size27
                    have zt1 : (Try.prog.info? 34).map (·.size) = some (txc tp ts tv tt tl).length := by rw [txc_length hv]; exact size34
                    have zt2 : (Try.prog.info? 34).map (·.size) = some (txc up us uv ut ul).length := by rw [txc_length hu]; exact size34
                    obtain ⟨l1, HL1⟩ := hid_ex (insF ⟨tp, ts, 1, n⟩ x.am)
                    obtain ⟨l2, HL2⟩ := hid_ex (insF ⟨up, us, 1, m⟩ x.am)
                    rw [HL1.out] at s1 s3 D1 D2 D4 KA HRA hll
                    rw [HL2.out] at s2 D3 D4
                    obtain ⟨l3, HL3⟩ := hid_ex (insF ⟨up, us, 1, m⟩ l1)
                    rw [HL3.out] at s3 D2 D4 KA HRA hll
                    go_wp2_with fail
                    clear c2 HL1 HL2 HL3 hlt'
                    have hS : Calm.Stays (fun w' => Below wr.heap.size wr w') := fun wa wb h hb => below_on h hb
                    have hF : Facts.Stay [pF 0 (eqP (.agg ([Value.int .i64 x.k, .int .i64 x.b, .slice pa x.am.length ca', .slice pw x.wr.length cw, .slice pm x.mb.length cm, .slice pe x.el.length ce] : List Value).toArray)), pF 1 (eqP (.agg (txc tp ts tv tt tl).toArray)), pF 2 (eqP (.int .i64 n)), pF 3 (cP (xi x l1)), pF 4 (eqP (.agg (txc up us uv ut ul).toArray)), pF 5 (eqP (.int .i64 m)), pF 6 (cP (xi x l3)), pF 7 (boxP wr.heap.size 27 (cvc 0 0 (.slice none 0 0) (.slice none 0 0) (.slice none 0 0) (.slice none 0 0)))] := stay_of (by simp only [List.forall_mem_cons]; exact ⟨⟨_, _, rfl, eqP_keeps _⟩, ⟨_, _, rfl, eqP_keeps _⟩, ⟨_, _, rfl, eqP_keeps _⟩, ⟨_, _, rfl, cP_keeps _⟩, ⟨_, _, rfl, eqP_keeps _⟩, ⟨_, _, rfl, eqP_keeps _⟩, ⟨_, _, rfl, cP_keeps _⟩, ⟨_, _, rfl, boxP_keeps _ _ _⟩, fun _ h => by cases h⟩)
                    refine Facts.regionTail (by kernel_rfl) (by kernel_rfl) 8 (by decide) (by kernel_rfl) (fun w' => Below wr.heap.size wr w') (fun xv => { tmps := #[CV 1 x.b (Value.slice pa x.am.length ca') (Value.slice pw 0 cw) (Value.slice pm 0 cm) (Value.slice pe 0 ce), TxV tp ts tv tt tl, TxV up us uv ut ul, Value.int IntKind.i64 n, Value.int IntKind.i64 m, Value.pointer (some { block := w.heap.size, off := 0 }), Value.pointer (some { block := w.heap.size + 1, off := 0 }), Value.pointer (some { block := w.heap.size + 1 + 1, off := 0 }), undef, undef, u10, Value.int IntKind.i64 ↑x.am.length, xv 7, undef, Value.agg (cvc 1 x.b (Value.slice pa x.am.length ca') (Value.slice pw 0 cw) (Value.slice pm 0 cm) (Value.slice pe 0 ce)), Value.bool true, Value.bool false, Value.bool false, Value.agg (cvc 1 x.b (Value.slice pa x.am.length ca') (Value.slice pw 0 cw) (Value.slice pm 0 cm) (Value.slice pe 0 ce)), Value.bool true, Value.bool false, Value.bool false, Value.bool false, Value.pointer (some { block := w.heap.size + 1, off := 0 }), Value.agg #[Value.int IntKind.i64 tp, Value.int IntKind.i64 ts], Value.pointer (some { block := w.heap.size + 1 + 1, off := 0 }), Value.agg #[Value.int IntKind.i64 up, Value.int IntKind.i64 us], Value.bool false, Value.bool false, Value.bool false, Value.int IntKind.i64 n, Value.bool false, Value.bool false, Value.bool false, Value.int IntKind.i64 n, Value.bool false, Value.bool false, Value.bool false, Value.int IntKind.i64 m, Value.bool false, Value.bool false, Value.bool false, Value.int IntKind.i64 m, Value.bool false, Value.bool false, undef, Value.int IntKind.i64 ↑x.am.length, Value.pointer (some { block := w.heap.size, off := 2 }), Value.slice pa x.am.length ca', Value.int IntKind.i64 ↑x.am.length, Value.bool false, u51, u52, u53, u54, u55, u56, u57, u58, u59, u60, u61, u62, u63, u64, u65, u66, u67, u68, u69, u70, u71, u72, u73, u74, u75, xv 0, xv 1, xv 2, xv 3, xv 4, xv 5, xv 6, undef, undef, undef, undef, undef, undef, undef, undef, undef, undef, undef, undef, undef, undef, undef, undef, undef, undef, undef, undef, undef, undef, undef, undef, undef, undef, undef, undef, undef, undef], defers := [] }) [pF 0 (eqP (.agg ([Value.int .i64 x.k, .int .i64 x.b, .slice pa x.am.length ca', .slice pw x.wr.length cw, .slice pm x.mb.length cm, .slice pe x.el.length ce] : List Value).toArray)), pF 1 (eqP (.agg (txc tp ts tv tt tl).toArray)), pF 2 (eqP (.int .i64 n)), pF 3 (cP (xi x l1)), pF 4 (eqP (.agg (txc up us uv ut ul).toArray)), pF 5 (eqP (.int .i64 m)), pF 6 (cP (xi x l3)), pF 7 (boxP wr.heap.size 27 (cvc 0 0 (.slice none 0 0) (.slice none 0 0) (.slice none 0 0) (.slice none 0 0)))] _ rfl rfl (by kernel_rfl) (fun j => [undef, undef, undef, undef, undef, undef, undef, undef].getD j undef) rfl (Below.refl _ wr).drew ⟨?_, ?_, ?_, ?_, ?_, ?_, ?_, ?_, ?_, trivial⟩ ?_
                    · exact fun _ => Facts.loadP hS hF (fun _ _ => rfl) 27 Try.underlying27 rfl zx _ rfl rfl (fun xv wv hSw hd => by rfl) (fun wv hSw => Rw.whole (cs := [Value.int .i64 x.k, .int .i64 x.b, .slice pa x.am.length ca', .slice pw x.wr.length cw, .slice pm x.mb.length cm, .slice pe x.el.length ce]) (R0.later hSw))
                    · exact fun _ => Facts.loadP hS hF (fun _ _ => rfl) 34 Try.underlying34 rfl zt1 _ rfl rfl (fun xv wv hSw hd => by rfl) (fun wv hSw => Rw.whole (R1.later hSw))
                    · exact fun _ => Facts.pureP hS hF (fun _ _ => rfl) rfl (fun xv wv hSw hd => by
                        go_simp)
                    · refine fun _ => Facts.call4P hS hF (fun _ _ => rfl) rfl (by kernel_rfl) rfl (fun xv wv hSw hd => ?_)
                      have d0 : xv 0 = _ := pF_get (hd ⟨0, .data⟩ (by simp) rfl _ rfl)
                      have d1 : xv 1 = _ := pF_get (hd ⟨1, .data⟩ (by simp) rfl _ rfl)
                      have d2 : xv 2 = _ := pF_get (hd ⟨2, .data⟩ (by simp) rfl _ rfl)
                      show Calls Try.prog 16 #[xv 0, xv 1, .int .i64 1, xv 2] wv _
                      rw [d0, d1, d2]
                      have hc := do_any x _ _ _ _ tp ts tv tt tl 1 n wv hv (h.later hSw) hs
                      rw [D1.out] at hc
                      exact hc.mono fun e w' h => gives_p h
                    · exact fun _ => Facts.loadP hS hF (fun _ _ => rfl) 34 Try.underlying34 rfl zt2 _ rfl rfl (fun xv wv hSw hd => by rfl) (fun wv hSw => Rw.whole (R2.later hSw))
                    · exact fun _ => Facts.pureP hS hF (fun _ _ => rfl) rfl (fun xv wv hSw hd => by
                        go_simp)
                    · refine fun _ => Facts.call4P hS hF (fun _ _ => rfl) rfl (by kernel_rfl) rfl (fun xv wv hSw hd => ?_)
                      have d3 := pF_get (hd ⟨3, .data⟩ (by simp) rfl _ rfl)
                      have d4 : xv 4 = _ := pF_get (hd ⟨4, .data⟩ (by simp) rfl _ rfl)
                      have d5 : xv 5 = _ := pF_get (hd ⟨5, .data⟩ (by simp) rfl _ rfl)
                      show Calls Try.prog 16 #[xv 3, xv 4, .int .i64 1, xv 5] wv _
                      obtain ⟨va, vw, vm, ve, e2, f2⟩ := d3
                      rw [e2, d4, d5]
                      have hc := do_any (xi x l1) va vw vm ve up us uv ut ul 1 m wv hu f2 s1
                      rw [D2.out] at hc
                      exact hc.mono fun e w' h => gives_p h
                    · exact fun _ => Facts.allocP hS hF (fun _ _ => rfl) 27 rfl (fun wv hSw => hSw.size) (fun _ _ => rfl)
                    · exact fun h => absurd h (by decide)
                    intro xq w5 hb5 hf
                    obtain ⟨va, vw, vm, ve, e6, FA⟩ := pF_get (hf 6 _ rfl)
                    obtain ⟨qA, eq, hNqA, hq⟩ := pF_get (hf 7 _ rfl)
                    clear hf hS hF
                    obtain ⟨fa, f1, fw, f2, fm, f3, fe, f4, rfl, rfl, rfl, rfl⟩ := (show ∃ pa ca pw cw pm cm pe ce, va = .slice pa l3.length ca ∧ vw = .slice pw x.wr.length cw ∧ vm = .slice pm x.mb.length cm ∧ ve = .slice pe x.el.length ce from FA.slices)
                    replace e6 : xq 6 = .agg (cvc x.k x.b (.slice fa l3.length f1) (.slice fw x.wr.length f2) (.slice fm x.mb.length f3) (.slice fe x.el.length f4)) := e6
                    refine tail_store 27 _ _ rfl qA 0 eq e6 (hq.store (cvc x.k x.b (.slice fa l3.length f1) (.slice fw x.wr.length f2) (.slice fm x.mb.length f3) (.slice fe x.el.length f4)) size27 rfl (by simp [Value.oneCell'])) ?_
                    refine Facts.tailWp_nil ?_
                    simp only [eq]
                    replace R0 := (R0.later hb5).rowOther (q := qA) (by have := R0.lt; omega) (cvc x.k x.b (.slice fa l3.length f1) (.slice fw x.wr.length f2) (.slice fm x.mb.length f3) (.slice fe x.el.length f4))
                    replace R1 := (R1.later hb5).rowOther (q := qA) (by have := R1.lt; omega) (cvc x.k x.b (.slice fa l3.length f1) (.slice fw x.wr.length f2) (.slice fm x.mb.length f3) (.slice fe x.el.length f4))
                    replace R2 := (R2.later hb5).rowOther (q := qA) (by have := R2.lt; omega) (cvc x.k x.b (.slice fa l3.length f1) (.slice fw x.wr.length f2) (.slice fm x.mb.length f3) (.slice fe x.el.length f4))
                    replace h := four_row (h.later hb5) hz0.2.1 hz0.2.2.1 hz0.2.2.2.1 hq (cvc x.k x.b (.slice fa l3.length f1) (.slice fw x.wr.length f2) (.slice fm x.mb.length f3) (.slice fe x.el.length f4))
                    replace hbel := below_setRow (below_on hbel hb5) (g := qA) (by omega) (cvc x.k x.b (.slice fa l3.length f1) (.slice fw x.wr.length f2) (.slice fm x.mb.length f3) (.slice fe x.el.length f4))
                    replace FA := four_row FA hz0.2.1 hz0.2.2.1 hz0.2.2.2.1 hq (cvc x.k x.b (.slice fa l3.length f1) (.slice fw x.wr.length f2) (.slice fm x.mb.length f3) (.slice fe x.el.length f4))
                    have RqA := hq.row (cvc x.k x.b (.slice fa l3.length f1) (.slice fw x.wr.length f2) (.slice fm x.mb.length f3) (.slice fe x.el.length f4))
                    have hszw6 : wr.heap.size ≤ (w5.setRow qA (cvc x.k x.b (.slice fa l3.length f1) (.slice fw x.wr.length f2) (.slice fm x.mb.length f3) (.slice fe x.el.length f4))).heap.size := by simpa [World.setRow] using hb5.size
                    clear hb5 hq
                    generalize w5.setRow qA (cvc x.k x.b (.slice fa l3.length f1) (.slice fw x.wr.length f2) (.slice fm x.mb.length f3) (.slice fe x.el.length f4)) = w6 at R0 R1 R2 h hbel FA RqA hszw6 ⊢
                    go_wp2_with fail
                    have hS : Calm.Stays (fun w' => Below w6.heap.size w6 w') := fun wa wb h hb => below_on h hb
                    have hF : Facts.Stay [pF 0 (eqP (.agg ([Value.int .i64 x.k, .int .i64 x.b, .slice pa x.am.length ca', .slice pw x.wr.length cw, .slice pm x.mb.length cm, .slice pe x.el.length ce] : List Value).toArray)), pF 1 (eqP (.agg (txc up us uv ut ul).toArray)), pF 2 (eqP (.int .i64 m)), pF 3 (cP (xi x l2)), pF 4 (eqP (.agg (txc tp ts tv tt tl).toArray)), pF 5 (eqP (.int .i64 n)), pF 6 (cP (xi x l3)), pF 7 (boxP w6.heap.size 27 (cvc 0 0 (.slice none 0 0) (.slice none 0 0) (.slice none 0 0) (.slice none 0 0)))] := stay_of (by simp only [List.forall_mem_cons]; exact ⟨⟨_, _, rfl, eqP_keeps _⟩, ⟨_, _, rfl, eqP_keeps _⟩, ⟨_, _, rfl, eqP_keeps _⟩, ⟨_, _, rfl, cP_keeps _⟩, ⟨_, _, rfl, eqP_keeps _⟩, ⟨_, _, rfl, eqP_keeps _⟩, ⟨_, _, rfl, cP_keeps _⟩, ⟨_, _, rfl, boxP_keeps _ _ _⟩, fun _ h => by cases h⟩)
                    refine Facts.regionTail (by kernel_rfl) (by kernel_rfl) 8 (by decide) (by kernel_rfl) (fun w' => Below w6.heap.size w6 w') (fun xv => { tmps := #[CV 1 x.b (Value.slice pa x.am.length ca') (Value.slice pw 0 cw) (Value.slice pm 0 cm) (Value.slice pe 0 ce), TxV tp ts tv tt tl, TxV up us uv ut ul, Value.int IntKind.i64 n, Value.int IntKind.i64 m, Value.pointer (some { block := w.heap.size, off := 0 }), Value.pointer (some { block := w.heap.size + 1, off := 0 }), Value.pointer (some { block := w.heap.size + 1 + 1, off := 0 }), undef, undef, u10, Value.int IntKind.i64 ↑x.am.length, Value.pointer (some { block := qA, off := 0 }), xv 7, Value.agg (cvc 1 x.b (Value.slice pa x.am.length ca') (Value.slice pw 0 cw) (Value.slice pm 0 cm) (Value.slice pe 0 ce)), Value.bool true, Value.bool false, Value.bool false, Value.agg (cvc 1 x.b (Value.slice pa x.am.length ca') (Value.slice pw 0 cw) (Value.slice pm 0 cm) (Value.slice pe 0 ce)), Value.bool true, Value.bool false, Value.bool false, Value.bool false, Value.pointer (some { block := w.heap.size + 1, off := 0 }), Value.agg #[Value.int IntKind.i64 tp, Value.int IntKind.i64 ts], Value.pointer (some { block := w.heap.size + 1 + 1, off := 0 }), Value.agg #[Value.int IntKind.i64 up, Value.int IntKind.i64 us], Value.bool false, Value.bool false, Value.bool false, Value.int IntKind.i64 n, Value.bool false, Value.bool false, Value.bool false, Value.int IntKind.i64 n, Value.bool false, Value.bool false, Value.bool false, Value.int IntKind.i64 m, Value.bool false, Value.bool false, Value.bool false, Value.int IntKind.i64 m, Value.bool false, Value.bool false, undef, Value.int IntKind.i64 ↑x.am.length, Value.pointer (some { block := w.heap.size, off := 2 }), Value.slice pa x.am.length ca', Value.int IntKind.i64 ↑x.am.length, Value.bool false, u51, u52, u53, u54, u55, u56, u57, u58, u59, u60, u61, u62, u63, u64, u65, u66, u67, u68, u69, u70, u71, u72, u73, u74, u75, xq 0, xq 1, xq 2, xq 3, xq 4, xq 5, xq 6, xv 0, xv 1, xv 2, xv 3, xv 4, xv 5, xv 6, undef, undef, undef, undef, undef, undef, undef, undef, undef, undef, undef, undef, undef, undef, undef, undef, undef, undef, undef, undef, undef, undef, undef], defers := [] }) [pF 0 (eqP (.agg ([Value.int .i64 x.k, .int .i64 x.b, .slice pa x.am.length ca', .slice pw x.wr.length cw, .slice pm x.mb.length cm, .slice pe x.el.length ce] : List Value).toArray)), pF 1 (eqP (.agg (txc up us uv ut ul).toArray)), pF 2 (eqP (.int .i64 m)), pF 3 (cP (xi x l2)), pF 4 (eqP (.agg (txc tp ts tv tt tl).toArray)), pF 5 (eqP (.int .i64 n)), pF 6 (cP (xi x l3)), pF 7 (boxP w6.heap.size 27 (cvc 0 0 (.slice none 0 0) (.slice none 0 0) (.slice none 0 0) (.slice none 0 0)))] _ rfl rfl (by kernel_rfl) (fun j => [undef, undef, undef, undef, undef, undef, undef, undef].getD j undef) rfl (Below.refl _ w6).drew ⟨?_, ?_, ?_, ?_, ?_, ?_, ?_, ?_, ?_, trivial⟩ ?_
                    · exact fun _ => Facts.loadP hS hF (fun _ _ => rfl) 27 Try.underlying27 rfl zx _ rfl rfl (fun xv wv hSw hd => by rfl) (fun wv hSw => Rw.whole (cs := [Value.int .i64 x.k, .int .i64 x.b, .slice pa x.am.length ca', .slice pw x.wr.length cw, .slice pm x.mb.length cm, .slice pe x.el.length ce]) (R0.later hSw))
                    · exact fun _ => Facts.loadP hS hF (fun _ _ => rfl) 34 Try.underlying34 rfl zt2 _ rfl rfl (fun xv wv hSw hd => by rfl) (fun wv hSw => Rw.whole (R2.later hSw))
                    · exact fun _ => Facts.pureP hS hF (fun _ _ => rfl) rfl (fun xv wv hSw hd => by
                        go_simp)
                    · refine fun _ => Facts.call4P hS hF (fun _ _ => rfl) rfl (by kernel_rfl) rfl (fun xv wv hSw hd => ?_)
                      have d0 : xv 0 = _ := pF_get (hd ⟨0, .data⟩ (by simp) rfl _ rfl)
                      have d1 : xv 1 = _ := pF_get (hd ⟨1, .data⟩ (by simp) rfl _ rfl)
                      have d2 : xv 2 = _ := pF_get (hd ⟨2, .data⟩ (by simp) rfl _ rfl)
                      show Calls Try.prog 16 #[xv 0, xv 1, .int .i64 1, xv 2] wv _
                      rw [d0, d1, d2]
                      have hc := do_any x _ _ _ _ up us uv ut ul 1 m wv hu (h.later hSw) hs
                      rw [D3.out] at hc
                      exact hc.mono fun e w' h => gives_p h
                    · exact fun _ => Facts.loadP hS hF (fun _ _ => rfl) 34 Try.underlying34 rfl zt1 _ rfl rfl (fun xv wv hSw hd => by rfl) (fun wv hSw => Rw.whole (R1.later hSw))
                    · exact fun _ => Facts.pureP hS hF (fun _ _ => rfl) rfl (fun xv wv hSw hd => by
                        go_simp)
                    · refine fun _ => Facts.call4P hS hF (fun _ _ => rfl) rfl (by kernel_rfl) rfl (fun xv wv hSw hd => ?_)
                      have d3 := pF_get (hd ⟨3, .data⟩ (by simp) rfl _ rfl)
                      have d4 : xv 4 = _ := pF_get (hd ⟨4, .data⟩ (by simp) rfl _ rfl)
                      have d5 : xv 5 = _ := pF_get (hd ⟨5, .data⟩ (by simp) rfl _ rfl)
                      show Calls Try.prog 16 #[xv 3, xv 4, .int .i64 1, xv 5] wv _
                      obtain ⟨va, vw, vm, ve, e2, f2⟩ := d3
                      rw [e2, d4, d5]
                      have hc := do_any (xi x l2) va vw vm ve tp ts tv tt tl 1 n wv hv f2 s2
                      rw [D4.out] at hc
                      exact hc.mono fun e w' h => gives_p h
                    · exact fun _ => Facts.allocP hS hF (fun _ _ => rfl) 27 rfl (fun wv hSw => hSw.size) (fun _ _ => rfl)
                    · exact fun h => absurd h (by decide)
                    intro xr w7 hb5 hf
                    obtain ⟨va, vw, vm, ve, e6, FB⟩ := pF_get (hf 6 _ rfl)
                    obtain ⟨qB, eq, hNqB, hq⟩ := pF_get (hf 7 _ rfl)
                    clear hf hS hF
                    obtain ⟨ga, g1, gw, g2, gm, g3, ge, g4, rfl, rfl, rfl, rfl⟩ := (show ∃ pa ca pw cw pm cm pe ce, va = .slice pa l3.length ca ∧ vw = .slice pw x.wr.length cw ∧ vm = .slice pm x.mb.length cm ∧ ve = .slice pe x.el.length ce from FB.slices)
                    replace e6 : xr 6 = .agg (cvc x.k x.b (.slice ga l3.length g1) (.slice gw x.wr.length g2) (.slice gm x.mb.length g3) (.slice ge x.el.length g4)) := e6
                    refine tail_store 27 _ _ rfl qB 0 eq e6 (hq.store (cvc x.k x.b (.slice ga l3.length g1) (.slice gw x.wr.length g2) (.slice gm x.mb.length g3) (.slice ge x.el.length g4)) size27 rfl (by simp [Value.oneCell'])) ?_
                    refine Facts.tailWp_nil ?_
                    simp only [eq]
                    replace R0 := (R0.later hb5).rowOther (q := qB) (by have := R0.lt; omega) (cvc x.k x.b (.slice ga l3.length g1) (.slice gw x.wr.length g2) (.slice gm x.mb.length g3) (.slice ge x.el.length g4))
                    replace R1 := (R1.later hb5).rowOther (q := qB) (by have := R1.lt; omega) (cvc x.k x.b (.slice ga l3.length g1) (.slice gw x.wr.length g2) (.slice gm x.mb.length g3) (.slice ge x.el.length g4))
                    replace R2 := (R2.later hb5).rowOther (q := qB) (by have := R2.lt; omega) (cvc x.k x.b (.slice ga l3.length g1) (.slice gw x.wr.length g2) (.slice gm x.mb.length g3) (.slice ge x.el.length g4))
                    replace RqA := (RqA.later hb5).rowOther (q := qB) (by have := RqA.lt; omega) (cvc x.k x.b (.slice ga l3.length g1) (.slice gw x.wr.length g2) (.slice gm x.mb.length g3) (.slice ge x.el.length g4))
                    replace h := four_row (h.later hb5) hz0.2.1 hz0.2.2.1 hz0.2.2.2.1 hq (cvc x.k x.b (.slice ga l3.length g1) (.slice gw x.wr.length g2) (.slice gm x.mb.length g3) (.slice ge x.el.length g4))
                    replace FA := four_row (FA.later hb5) hz0.2.1 hz0.2.2.1 hz0.2.2.2.1 hq (cvc x.k x.b (.slice ga l3.length g1) (.slice gw x.wr.length g2) (.slice gm x.mb.length g3) (.slice ge x.el.length g4))
                    replace hbel := below_setRow (below_on hbel hb5) (g := qB) (by omega) (cvc x.k x.b (.slice ga l3.length g1) (.slice gw x.wr.length g2) (.slice gm x.mb.length g3) (.slice ge x.el.length g4))
                    replace FB := four_row FB hz0.2.1 hz0.2.2.1 hz0.2.2.2.1 hq (cvc x.k x.b (.slice ga l3.length g1) (.slice gw x.wr.length g2) (.slice gm x.mb.length g3) (.slice ge x.el.length g4))
                    have RqB := hq.row (cvc x.k x.b (.slice ga l3.length g1) (.slice gw x.wr.length g2) (.slice gm x.mb.length g3) (.slice ge x.el.length g4))
                    have hszw8 : w6.heap.size ≤ (w7.setRow qB (cvc x.k x.b (.slice ga l3.length g1) (.slice gw x.wr.length g2) (.slice gm x.mb.length g3) (.slice ge x.el.length g4))).heap.size := by simpa [World.setRow] using hb5.size
                    clear hb5 hq
                    generalize w7.setRow qB (cvc x.k x.b (.slice ga l3.length g1) (.slice gw x.wr.length g2) (.slice gm x.mb.length g3) (.slice ge x.el.length g4)) = w8 at R0 R1 R2 h RqA FA hbel FB RqB hszw8 ⊢
                    go_wp2_with fail
                    have za : (Try.prog.info? 27).map (·.size) = some ([Value.int .i64 x.k, .int .i64 x.b, .slice fa l3.length f1, .slice fw x.wr.length f2, .slice fm x.mb.length f3, .slice fe x.el.length f4] : List Value).length := size27
                    have zb : (Try.prog.info? 27).map (·.size) = some ([Value.int .i64 x.k, .int .i64 x.b, .slice ga l3.length g1, .slice gw x.wr.length g2, .slice gm x.mb.length g3, .slice ge x.el.length g4] : List Value).length := size27
                    have C1 := fun w' (hb : Below w8.heap.size w8 w') => check_any _ _ _ _ _ w' (FA.later hb) s3
                    have C2 := fun w' (hb : Below w8.heap.size w8 w') => read_any _ _ _ _ _ w' (FA.later hb) s3
                    have C3 := fun w' (hb : Below w8.heap.size w8 w') => read_any _ _ _ _ _ w' (h.later hb) hs
                    rw [KA.out] at C1
                    rw [HRA.out, (rd_ok KA.out).1] at C2
                    rw [(rd_ok HY1.out).1, (rd_ok HY1.out).2] at C3
                    obtain ⟨c, HC⟩ := hid_ex (x.b + sm x.am)
                    rw [HC.out] at C2 C3
                    have hcb : -1152921600000000000 ≤ c ∧ c ≤ 1152921600000000000 := by
                      have := HC.out
                      omega
                    obtain ⟨hc1, hc2⟩ := hcb
                    have q1 : IntKind.i64.wrap (c + n) = c + n := by rw [IntKind.wrap_i64]; omega
                    have q2 : IntKind.i64.wrap (c + n + m) = c + n + m := by rw [IntKind.wrap_i64]; omega
                    clear HC hsb hbx KA HRA D1 D2 D3 D4
                    have hS : Calm.Stays (fun w' => Below w8.heap.size w8 w') := fun wa wb h hb => below_on h hb
                    have hF : Facts.Stay [pF 0 (eqP (.agg ([Value.int .i64 x.k, .int .i64 x.b, .slice fa l3.length f1, .slice fw x.wr.length f2, .slice fm x.mb.length f3, .slice fe x.el.length f4] : List Value).toArray)), pF 1 (eqP (.agg ([Value.int .i64 x.k, .int .i64 x.b, .slice ga l3.length g1, .slice gw x.wr.length g2, .slice gm x.mb.length g3, .slice ge x.el.length g4] : List Value).toArray)), pF 2 (eqP (.bool true)), pF 3 (eqP (.bool true)), pF 4 (eqP (.agg ([Value.int .i64 x.k, .int .i64 x.b, .slice fa l3.length f1, .slice fw x.wr.length f2, .slice fm x.mb.length f3, .slice fe x.el.length f4] : List Value).toArray)), pF 5 (eqP (.bool true)), pF 6 (eqP (.bool true)), pF 7 (eqP (.bool true)), pF 8 (eqP (.agg ([Value.int .i64 x.k, .int .i64 x.b, .slice fa l3.length f1, .slice fw x.wr.length f2, .slice fm x.mb.length f3, .slice fe x.el.length f4] : List Value).toArray)), pF 9 (eqP (VV 1 (c + n + m))), pF 10 (eqP (.int .i64 (c + n + m))), pF 11 (eqP (.agg ([Value.int .i64 x.k, .int .i64 x.b, .slice pa x.am.length ca', .slice pw x.wr.length cw, .slice pm x.mb.length cm, .slice pe x.el.length ce] : List Value).toArray)), pF 12 (eqP (VV 1 c)), pF 13 (eqP (.int .i64 c)), pF 14 (eqP (.int .i64 n)), pF 15 (eqP (.int .i64 (c + n))), pF 16 (eqP (.int .i64 m)), pF 17 (eqP (.int .i64 (c + n + m))), pF 18 (eqP (.bool true)), pF 19 (eqP (.bool true)), pF 20 (eqP (.bool true)), pF 21 (eqP (.bool true)), pF 22 (eqP (.bool true)), pF 23 (eqP (.bool true))] := stay_of (by simp only [List.forall_mem_cons]; exact ⟨⟨_, _, rfl, eqP_keeps _⟩, ⟨_, _, rfl, eqP_keeps _⟩, ⟨_, _, rfl, eqP_keeps _⟩, ⟨_, _, rfl, eqP_keeps _⟩, ⟨_, _, rfl, eqP_keeps _⟩, ⟨_, _, rfl, eqP_keeps _⟩, ⟨_, _, rfl, eqP_keeps _⟩, ⟨_, _, rfl, eqP_keeps _⟩, ⟨_, _, rfl, eqP_keeps _⟩, ⟨_, _, rfl, eqP_keeps _⟩, ⟨_, _, rfl, eqP_keeps _⟩, ⟨_, _, rfl, eqP_keeps _⟩, ⟨_, _, rfl, eqP_keeps _⟩, ⟨_, _, rfl, eqP_keeps _⟩, ⟨_, _, rfl, eqP_keeps _⟩, ⟨_, _, rfl, eqP_keeps _⟩, ⟨_, _, rfl, eqP_keeps _⟩, ⟨_, _, rfl, eqP_keeps _⟩, ⟨_, _, rfl, eqP_keeps _⟩, ⟨_, _, rfl, eqP_keeps _⟩, ⟨_, _, rfl, eqP_keeps _⟩, ⟨_, _, rfl, eqP_keeps _⟩, ⟨_, _, rfl, eqP_keeps _⟩, ⟨_, _, rfl, eqP_keeps _⟩, fun _ h => by cases h⟩)
                    refine FactsG.region (by kernel_rfl) (by kernel_rfl) (fun w' => Below w8.heap.size w8 w') (fun xv => { tmps := #[CV 1 x.b (Value.slice pa x.am.length ca') (Value.slice pw 0 cw) (Value.slice pm 0 cm) (Value.slice pe 0 ce), TxV tp ts tv tt tl, TxV up us uv ut ul, Value.int IntKind.i64 n, Value.int IntKind.i64 m, Value.pointer (some { block := w.heap.size, off := 0 }), Value.pointer (some { block := w.heap.size + 1, off := 0 }), Value.pointer (some { block := w.heap.size + 1 + 1, off := 0 }), undef, undef, xv 23, Value.int IntKind.i64 ↑x.am.length, Value.pointer (some { block := qA, off := 0 }), Value.pointer (some { block := qB, off := 0 }), Value.agg (cvc 1 x.b (Value.slice pa x.am.length ca') (Value.slice pw 0 cw) (Value.slice pm 0 cm) (Value.slice pe 0 ce)), Value.bool true, Value.bool false, Value.bool false, Value.agg (cvc 1 x.b (Value.slice pa x.am.length ca') (Value.slice pw 0 cw) (Value.slice pm 0 cm) (Value.slice pe 0 ce)), Value.bool true, Value.bool false, Value.bool false, Value.bool false, Value.pointer (some { block := w.heap.size + 1, off := 0 }), Value.agg #[Value.int IntKind.i64 tp, Value.int IntKind.i64 ts], Value.pointer (some { block := w.heap.size + 1 + 1, off := 0 }), Value.agg #[Value.int IntKind.i64 up, Value.int IntKind.i64 us], Value.bool false, Value.bool false, Value.bool false, Value.int IntKind.i64 n, Value.bool false, Value.bool false, Value.bool false, Value.int IntKind.i64 n, Value.bool false, Value.bool false, Value.bool false, Value.int IntKind.i64 m, Value.bool false, Value.bool false, Value.bool false, Value.int IntKind.i64 m, Value.bool false, Value.bool false, undef, Value.int IntKind.i64 ↑x.am.length, Value.pointer (some { block := w.heap.size, off := 2 }), Value.slice pa x.am.length ca', Value.int IntKind.i64 ↑x.am.length, Value.bool false, u51, u52, u53, u54, u55, u56, u57, u58, u59, u60, u61, u62, u63, u64, u65, u66, u67, u68, u69, u70, u71, u72, u73, u74, u75, xq 0, xq 1, xq 2, xq 3, xq 4, xq 5, xq 6, xr 0, xr 1, xr 2, xr 3, xr 4, xr 5, xr 6, xv 0, xv 1, xv 2, xv 3, xv 4, xv 5, xv 6, xv 7, xv 8, xv 9, xv 10, xv 11, xv 12, xv 13, xv 14, xv 15, xv 16, xv 17, xv 18, xv 19, xv 20, xv 21, xv 22], defers := [] }) [pF 0 (eqP (.agg ([Value.int .i64 x.k, .int .i64 x.b, .slice fa l3.length f1, .slice fw x.wr.length f2, .slice fm x.mb.length f3, .slice fe x.el.length f4] : List Value).toArray)), pF 1 (eqP (.agg ([Value.int .i64 x.k, .int .i64 x.b, .slice ga l3.length g1, .slice gw x.wr.length g2, .slice gm x.mb.length g3, .slice ge x.el.length g4] : List Value).toArray)), pF 2 (eqP (.bool true)), pF 3 (eqP (.bool true)), pF 4 (eqP (.agg ([Value.int .i64 x.k, .int .i64 x.b, .slice fa l3.length f1, .slice fw x.wr.length f2, .slice fm x.mb.length f3, .slice fe x.el.length f4] : List Value).toArray)), pF 5 (eqP (.bool true)), pF 6 (eqP (.bool true)), pF 7 (eqP (.bool true)), pF 8 (eqP (.agg ([Value.int .i64 x.k, .int .i64 x.b, .slice fa l3.length f1, .slice fw x.wr.length f2, .slice fm x.mb.length f3, .slice fe x.el.length f4] : List Value).toArray)), pF 9 (eqP (VV 1 (c + n + m))), pF 10 (eqP (.int .i64 (c + n + m))), pF 11 (eqP (.agg ([Value.int .i64 x.k, .int .i64 x.b, .slice pa x.am.length ca', .slice pw x.wr.length cw, .slice pm x.mb.length cm, .slice pe x.el.length ce] : List Value).toArray)), pF 12 (eqP (VV 1 c)), pF 13 (eqP (.int .i64 c)), pF 14 (eqP (.int .i64 n)), pF 15 (eqP (.int .i64 (c + n))), pF 16 (eqP (.int .i64 m)), pF 17 (eqP (.int .i64 (c + n + m))), pF 18 (eqP (.bool true)), pF 19 (eqP (.bool true)), pF 20 (eqP (.bool true)), pF 21 (eqP (.bool true)), pF 22 (eqP (.bool true)), pF 23 (eqP (.bool true))] (fun _ _ _ _ => True) (fun _ _ _ _ _ => trivial) _ rfl rfl (by kernel_rfl) (fun j => [undef, undef, undef, undef, undef, undef, undef, undef, undef, undef, undef, undef, undef, undef, undef, undef, undef, undef, undef, undef, undef, undef, undef, u10].getD j undef) rfl (Below.refl _ w8).drew ⟨?_, ?_, ?_, ?_, ?_, ?_, ?_, ?_, ?_, ?_, ?_, ?_, ?_, ?_, ?_, ?_, ?_, ?_, ?_, ?_, ?_, ?_, ?_, ?_, trivial⟩ ?_
                    · exact FactsG.of rfl (fun _ _ _ => trivial) (fun _ _ _ _ => rfl) (Facts.loadP hS hF (fun _ _ => rfl) 27 Try.underlying27 rfl za _ rfl rfl (fun xv wv hSw hd => by rfl) (fun wv hSw => Rw.whole (cs := [Value.int .i64 x.k, .int .i64 x.b, .slice fa l3.length f1, .slice fw x.wr.length f2, .slice fm x.mb.length f3, .slice fe x.el.length f4]) (RqA.later hSw)))
                    · exact FactsG.of rfl (fun _ _ _ => trivial) (fun _ _ _ _ => rfl) (Facts.loadP hS hF (fun _ _ => rfl) 27 Try.underlying27 rfl zb _ rfl rfl (fun xv wv hSw hd => by rfl) (fun wv hSw => Rw.whole (cs := [Value.int .i64 x.k, .int .i64 x.b, .slice ga l3.length g1, .slice gw x.wr.length g2, .slice gm x.mb.length g3, .slice ge x.el.length g4]) (RqB.later hSw)))
                    · refine FactsG.of rfl (fun _ _ _ => trivial) (fun _ _ _ _ => rfl) (Facts.call2P hS hF (fun _ _ => rfl) rfl (by kernel_rfl) rfl (fun xv wv hSw hd => ?_))
                      have d0 : xv 0 = _ := pF_get (hd ⟨0, .data⟩ (by simp) rfl _ rfl)
                      have d1 : xv 1 = _ := pF_get (hd ⟨1, .data⟩ (by simp) rfl _ rfl)
                      show Calls Try.prog 15 #[xv 0, xv 1] wv _
                      rw [d0, d1]
                      exact (same_any _ _ _ _ _ _ _ _ _ wv (FA.later hSw) (FB.later hSw) s3).mono fun e w' h => tells_p h
                    · exact FactsG.of rfl (fun _ _ _ => trivial) (fun _ _ _ _ => rfl) (Facts.pureP hS hF (fun _ _ => rfl) rfl (fun xv wv hSw hd => by
                        have d2 : xv 2 = _ := pF_get (hd ⟨2, .data⟩ (by simp) rfl _ rfl)
                        simp only [d2]
                        go_simp))
                    · exact FactsG.of rfl (fun _ _ _ => trivial) (fun xv wv hSw hd => by have dg : xv 3 = _ := pF_get (hd ⟨3, .guard⟩ (by simp) rfl _ rfl); simp only [dg]; rfl) (Facts.loadP hS hF (fun _ _ => rfl) 27 Try.underlying27 rfl za _ rfl rfl (fun xv wv hSw hd => by rfl) (fun wv hSw => Rw.whole (cs := [Value.int .i64 x.k, .int .i64 x.b, .slice fa l3.length f1, .slice fw x.wr.length f2, .slice fm x.mb.length f3, .slice fe x.el.length f4]) (RqA.later hSw)))
                    · refine FactsG.of rfl (fun _ _ _ => trivial) (fun xv wv hSw hd => by have dg : xv 3 = _ := pF_get (hd ⟨3, .guard⟩ (by simp) rfl _ rfl); simp only [dg]; rfl) (Facts.call1P hS hF (fun _ _ => rfl) rfl (by kernel_rfl) rfl (fun xv wv hSw hd => ?_))
                      have d4 : xv 4 = _ := pF_get (hd ⟨4, .data⟩ (by simp) rfl _ rfl)
                      show Calls Try.prog 14 #[xv 4] wv _
                      rw [d4]
                      exact (C1 wv hSw).mono fun e w' h => tells_p h
                    · exact FactsG.of rfl (fun _ _ _ => trivial) (fun _ _ _ _ => rfl) (Facts.pureP hS hF (fun _ _ => rfl) rfl (fun xv wv hSw hd => by
                        have d3 : xv 3 = _ := pF_get (hd ⟨3, .data⟩ (by simp) rfl _ rfl)
                        have d5 : xv 5 = _ := pF_get (hd ⟨5, .data⟩ (by simp) rfl _ rfl)
                        simp only [d3, d5]
                        go_simp))
                    · exact FactsG.of rfl (fun _ _ _ => trivial) (fun _ _ _ _ => rfl) (Facts.pureP hS hF (fun _ _ => rfl) rfl (fun xv wv hSw hd => by
                        have d6 : xv 6 = _ := pF_get (hd ⟨6, .data⟩ (by simp) rfl _ rfl)
                        simp only [d6]
                        go_simp))
                    · exact FactsG.of rfl (fun _ _ _ => trivial) (fun xv wv hSw hd => by have dg : xv 7 = _ := pF_get (hd ⟨7, .guard⟩ (by simp) rfl _ rfl); simp only [dg]; rfl) (Facts.loadP hS hF (fun _ _ => rfl) 27 Try.underlying27 rfl za _ rfl rfl (fun xv wv hSw hd => by rfl) (fun wv hSw => Rw.whole (cs := [Value.int .i64 x.k, .int .i64 x.b, .slice fa l3.length f1, .slice fw x.wr.length f2, .slice fm x.mb.length f3, .slice fe x.el.length f4]) (RqA.later hSw)))
                    · refine FactsG.of rfl (fun _ _ _ => trivial) (fun xv wv hSw hd => by have dg : xv 7 = _ := pF_get (hd ⟨7, .guard⟩ (by simp) rfl _ rfl); simp only [dg]; rfl) (Facts.call1P hS hF (fun _ _ => rfl) rfl (by kernel_rfl) rfl (fun xv wv hSw hd => ?_))
                      have d8 : xv 8 = _ := pF_get (hd ⟨8, .data⟩ (by simp) rfl _ rfl)
                      show Calls Try.prog 13 #[xv 8] wv _
                      rw [d8]
                      exact (C2 wv hSw).mono fun e w' h => tells_p h
                    · exact FactsG.of rfl (fun _ _ _ => trivial) (fun xv wv hSw hd => by have dg : xv 7 = _ := pF_get (hd ⟨7, .guard⟩ (by simp) rfl _ rfl); simp only [dg]; rfl) (Facts.pureP hS hF (fun _ _ => rfl) rfl (fun xv wv hSw hd => by
                        have d9 : xv 9 = _ := pF_get (hd ⟨9, .data⟩ (by simp) rfl _ rfl)
                        simp only [d9]
                        unfold execOp
                        simp [go_sem, Act.eval, field47_1]))
                    · exact FactsG.of rfl (fun _ _ _ => trivial) (fun xv wv hSw hd => by have dg : xv 7 = _ := pF_get (hd ⟨7, .guard⟩ (by simp) rfl _ rfl); simp only [dg]; rfl) (Facts.loadP hS hF (fun _ _ => rfl) 27 Try.underlying27 rfl zx _ rfl rfl (fun xv wv hSw hd => by rfl) (fun wv hSw => Rw.whole (cs := [Value.int .i64 x.k, .int .i64 x.b, .slice pa x.am.length ca', .slice pw x.wr.length cw, .slice pm x.mb.length cm, .slice pe x.el.length ce]) (R0.later hSw)))
                    · refine FactsG.of rfl (fun _ _ _ => trivial) (fun xv wv hSw hd => by have dg : xv 7 = _ := pF_get (hd ⟨7, .guard⟩ (by simp) rfl _ rfl); simp only [dg]; rfl) (Facts.call1P hS hF (fun _ _ => rfl) rfl (by kernel_rfl) rfl (fun xv wv hSw hd => ?_))
                      have d11 : xv 11 = _ := pF_get (hd ⟨11, .data⟩ (by simp) rfl _ rfl)
                      show Calls Try.prog 13 #[xv 11] wv _
                      rw [d11]
                      exact (C3 wv hSw).mono fun e w' h => tells_p h
                    · exact FactsG.of rfl (fun _ _ _ => trivial) (fun xv wv hSw hd => by have dg : xv 7 = _ := pF_get (hd ⟨7, .guard⟩ (by simp) rfl _ rfl); simp only [dg]; rfl) (Facts.pureP hS hF (fun _ _ => rfl) rfl (fun xv wv hSw hd => by
                        have d12 : xv 12 = _ := pF_get (hd ⟨12, .data⟩ (by simp) rfl _ rfl)
                        simp only [d12]
                        unfold execOp
                        simp [go_sem, Act.eval, field47_1]))
                    · exact FactsG.of rfl (fun _ _ _ => trivial) (fun xv wv hSw hd => by have dg : xv 7 = _ := pF_get (hd ⟨7, .guard⟩ (by simp) rfl _ rfl); simp only [dg]; rfl) (Facts.pureP hS hF (fun _ _ => rfl) rfl (fun xv wv hSw hd => by
                        go_simp))
                    · exact FactsG.of rfl (fun _ _ _ => trivial) (fun xv wv hSw hd => by have dg : xv 7 = _ := pF_get (hd ⟨7, .guard⟩ (by simp) rfl _ rfl); simp only [dg]; rfl) (Facts.pureP hS hF (fun _ _ => rfl) rfl (fun xv wv hSw hd => by
                        have d13 : xv 13 = _ := pF_get (hd ⟨13, .data⟩ (by simp) rfl _ rfl)
                        have d14 : xv 14 = _ := pF_get (hd ⟨14, .data⟩ (by simp) rfl _ rfl)
                        simp only [d13, d14]
                        go_simp))
                    · exact FactsG.of rfl (fun _ _ _ => trivial) (fun xv wv hSw hd => by have dg : xv 7 = _ := pF_get (hd ⟨7, .guard⟩ (by simp) rfl _ rfl); simp only [dg]; rfl) (Facts.pureP hS hF (fun _ _ => rfl) rfl (fun xv wv hSw hd => by
                        go_simp))
                    · exact FactsG.of rfl (fun _ _ _ => trivial) (fun xv wv hSw hd => by have dg : xv 7 = _ := pF_get (hd ⟨7, .guard⟩ (by simp) rfl _ rfl); simp only [dg]; rfl) (Facts.pureP hS hF (fun _ _ => rfl) rfl (fun xv wv hSw hd => by
                        have d15 : xv 15 = _ := pF_get (hd ⟨15, .data⟩ (by simp) rfl _ rfl)
                        have d16 : xv 16 = _ := pF_get (hd ⟨16, .data⟩ (by simp) rfl _ rfl)
                        simp only [d15, d16]
                        go_simp))
                    · exact FactsG.of rfl (fun _ _ _ => trivial) (fun xv wv hSw hd => by have dg : xv 7 = _ := pF_get (hd ⟨7, .guard⟩ (by simp) rfl _ rfl); simp only [dg]; rfl) (Facts.pureP hS hF (fun _ _ => rfl) rfl (fun xv wv hSw hd => by
                        have d10 : xv 10 = _ := pF_get (hd ⟨10, .data⟩ (by simp) rfl _ rfl)
                        have d17 : xv 17 = _ := pF_get (hd ⟨17, .data⟩ (by simp) rfl _ rfl)
                        simp only [d10, d17]
                        go_simp))
                    · exact FactsG.of rfl (fun _ _ _ => trivial) (fun _ _ _ _ => rfl) (Facts.pureP hS hF (fun _ _ => rfl) rfl (fun xv wv hSw hd => by
                        have d7 : xv 7 = _ := pF_get (hd ⟨7, .data⟩ (by simp) rfl _ rfl)
                        have d18 : xv 18 = _ := pF_get (hd ⟨18, .data⟩ (by simp) rfl _ rfl)
                        simp only [d7, d18]
                        go_simp))
                    · exact FactsG.of rfl (fun _ _ _ => trivial) (fun _ _ _ _ => rfl) (Facts.pureP hS hF (fun _ _ => rfl) rfl (fun xv wv hSw hd => by
                        have d19 : xv 19 = _ := pF_get (hd ⟨19, .data⟩ (by simp) rfl _ rfl)
                        simp only [d19]
                        go_simp))
                    · refine FactsG.of rfl (fun _ _ _ => trivial) (fun xv wv hSw hd => by have dg : xv 20 = _ := pF_get (hd ⟨20, .guard⟩ (by simp) rfl _ rfl); simp only [dg]; rfl) (Facts.call0P hS hF (fun _ _ => rfl) rfl (by kernel_rfl) rfl (fun xv wv hSw hd => ?_))
                      exact (heads_any wv).mono fun e w' h => tells_p h
                    · exact FactsG.of rfl (fun _ _ _ => trivial) (fun _ _ _ _ => rfl) (Facts.pureP hS hF (fun _ _ => rfl) rfl (fun xv wv hSw hd => by
                        have d20 : xv 20 = _ := pF_get (hd ⟨20, .data⟩ (by simp) rfl _ rfl)
                        have d21 : xv 21 = _ := pF_get (hd ⟨21, .data⟩ (by simp) rfl _ rfl)
                        simp only [d20, d21]
                        go_simp))
                    · exact FactsG.of rfl (fun _ _ _ => trivial) (fun _ _ _ _ => rfl) (Facts.pureP hS hF (fun _ _ => rfl) rfl (fun xv wv hSw hd => by
                        have d22 : xv 22 = _ := pF_get (hd ⟨22, .data⟩ (by simp) rfl _ rfl)
                        simp only [d22]
                        go_simp))
                    rintro xv w9 hb9 hf _
                    have e23 : xv 23 = _ := pF_get (hf 23 _ (by decide) rfl)
                    simp only [e23]
                    go_wp2_with fail
                    go_ret
                    exact ⟨rfl, below_on hbel hb9⟩
end Go.Proofs.Ytfjpjodaaofgbaa
