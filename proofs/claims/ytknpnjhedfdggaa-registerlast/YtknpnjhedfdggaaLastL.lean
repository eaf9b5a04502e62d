/- What RegisterLast says, of every cell, transaction and text. -/
import Derived.Test.YtknpnjhedfdggaaHeads
import Derived.Test.YtknpnjhedfdggaaSml
namespace Go.Proofs.Ytknpnjhedfdggaa
open Go.RowKit
open Go.Sort

theorem Wt.dot {w : World} {b o : Nat} {x : Wt} (h : w.rangeAt b o x.cells) : w.rangeAt b o [.int .i64 x.p, .int .i64 x.s] := fun j u hu => by
  refine h j u ?_
  match j, hu with
  | 0, hu => exact hu
  | 1, hu => exact hu
  | j + 2, hu => simp at hu
/-- What has seen all is alone then. -/
theorem lef_nil {l : List Wt} {p s : Int} {u : List Int} {i : Int} (h : ∀ j (h : j < l.length), bf l[j].p l[j].s l[j].i p s u i = true) : lef l p s u i = [] := by
  unfold lef
  rw [List.filter_eq_nil_iff]
  intro y hy
  obtain ⟨j, hj, rfl⟩ := List.getElem_of_mem hy
  rw [h j hj]
  simp
theorem has_dots {l : List Wt} {a : Wt} (h : ∀ j (h : j < l.length), (decide (l[j].p = a.p) && decide (l[j].s = a.s)) = false) : has a l = false := has_false.2 fun y hy => by
  obtain ⟨j, hj, rfl⟩ := List.getElem_of_mem hy
  unfold mk
  rw [h j hj]
  rfl
theorem ck_wr {x : X} (hc : ck x = true) {l : List Wt} (hl : ca l = true) : ck { x with wr := l } = true := by
  have h := ck_parts hc
  unfold ck
  simp only [Bool.and_eq_true, Bool.or_eq_true, decide_eq_true_eq]
  exact ⟨h.1, h.2.1, by omega, hl⟩
theorem ca_one {a : Wt} (h : iw a.i a.x = true) : ca [a] = true := by
  rw [ca_pair]
  exact ⟨fun y hy => by rw [List.mem_singleton.1 hy]; exact h, List.pairwise_singleton _ _⟩
theorem ca_nil : ca [] = true := by decide +kernel
theorem rd_wr {x : X} (hc : ck x = true) {a : Wt} (h : iw a.i a.x = true) : rdT { x with wr := [a] } = [bs a.x] := by
  unfold rdT
  rw [if_pos (ck_wr hc (ca_one h))]
  unfold rdW
  split
  · exact txs_one _
  · exact txs_one _
theorem rd_none {x : X} (hc : ck x = true) : rdT { x with wr := [] } = [] := by
  unfold rdT
  rw [if_pos (ck_wr hc ca_nil)]
  unfold rdW
  split <;> rfl
set_option maxHeartbeats 8000000 in
set_option maxRecDepth 100000 in
theorem last_law (x : X) (va vw vm ve : Value) (p s : Int) (u : List Int) (t : Int) (sl : Value) (lo : List O) (tx : ByteArray) (w : World) (hu : u.length = 13) (ho : OHas w sl lo) (h : Four w x va vw vm ve) (hl : Lk x) : Calls Try.prog 6 #[CV x.k x.b va vw vm ve, TxV p s u t sl, .string tx] w (Tells (.bool true) w) := by
  obtain ⟨pa, ca', pw, cw, pm, cm, pe, ce, rfl, rfl, rfl, rfl⟩ := h.slices
  obtain ⟨R0, R1, hbel⟩ := two_rows w (cvc x.k x.b (.slice pa x.am.length ca') (.slice pw x.wr.length cw) (.slice pm x.mb.length cm) (.slice pe x.el.length ce)) 27 (txc p s u t sl).toArray 34
  replace h := h.later hbel
  replace ho := ho.later hbel
  generalize hW : (w.alloc (.cells (cvc x.k x.b (.slice pa x.am.length ca') (.slice pw x.wr.length cw) (.slice pm x.mb.length cm) (.slice pe x.el.length ce)) 27)).alloc (.cells (txc p s u t sl).toArray 34) = w0 at R0 R1 hbel h ho
  have zt := size_tx (p := p) (s := s) (t := t) (sl := sl) hu
  go_enter Try.func6, Try.ntmps6
  go_wp2_with (first | rw [hW] | refine load_r 27 _ rfl rfl _ rfl R0 Try.underlying27 rfl size27 ?_)
  clear hW
  refine (few_any x _ _ _ _ w0 h hl).mono ?_
  rintro e w1 ⟨bf1, rfl, hfw, hb1⟩
  have HFW : Hid (bf1 = true → Fw x) := hfw
  replace R0 := R0.later hb1
  replace R1 := R1.later hb1
  replace h := h.later hb1
  replace ho := ho.later hb1
  replace hbel := below_on hbel hb1
  clear hb1 hfw hl
  cases bf1
  · clear HFW
    go_wp2_with fail
    refine (heads_any _).mono ?_
    rintro e w9 ⟨rfl, hb9⟩
    go_wp2_with fail
    go_ret
    exact ⟨rfl, below_on hbel hb9⟩
  · have hs := (HFW.out rfl).sm
    clear HFW
    go_wp2_with (first | refine load_r 27 _ rfl rfl _ rfl R0 Try.underlying27 rfl size27 ?_)
    refine (refCheck_any x _ _ _ _ w1 h hs).mono ?_
    rintro e w2 ⟨rfl, hb1⟩
    replace R0 := R0.later hb1
    replace R1 := R1.later hb1
    replace h := h.later hb1
    replace ho := ho.later hb1
    replace hbel := below_on hbel hb1
    clear hb1
    obtain ⟨y1, HY1⟩ := hid_ex (ck x)
    rw [HY1.out]
    cases y1
    · go_wp2_with fail
      refine (heads_any _).mono ?_
      rintro e w9 ⟨rfl, hb9⟩
      go_wp2_with fail
      go_ret
      exact ⟨rfl, below_on hbel hb9⟩
    · by_cases htx : 64 < tx.size
      · have htx' : decide ((64 : Int) < (tx.size : Int)) = true := decide_eq_true (by omega)
        go_wp2_with fail
        refine (heads_any _).mono ?_
        rintro e w9 ⟨rfl, hb9⟩
        go_wp2_with fail
        go_ret
        exact ⟨rfl, below_on hbel hb9⟩
      · have htx' : decide ((64 : Int) < (tx.size : Int)) = false := decide_eq_false (by omega)
        go_wp2_with (first | refine load_r 34 _ rfl rfl _ rfl R1 Try.underlying34 rfl zt ?_)
        refine (small_any p s u t sl lo w2 hu ho).mono ?_
        rintro e w3 ⟨b1, rfl, _, hb1⟩
        replace R0 := R0.later hb1
        replace R1 := R1.later hb1
        replace h := h.later hb1
        replace hbel := below_on hbel hb1
        clear hb1 ho
        cases b1
        · go_wp2_with fail
          refine (heads_any _).mono ?_
          rintro e w9 ⟨rfl, hb9⟩
          go_wp2_with fail
          go_ret
          exact ⟨rfl, below_on hbel hb9⟩
        · have HIA : Hid (iw 1 tx = true) := by
            show _ = _
            unfold iw
            rw [decide_eq_true (show tx.size ≤ 64 by omega)]
            rfl
          have hst := hs.t
          have HH : Hid (Four w3 x (.slice pa x.am.length ca') (.slice pw x.wr.length cw) (.slice pm x.mb.length cm) (.slice pe x.el.length ce)) := h
          have HB3 : Hid (Below w.heap.size w w3) := hbel
          clear h
          have ztx : (Try.prog.info? 34).map (·.size) = some (txc p s u t sl).length := by rw [txc_length hu]; exact size34
          have zt2 : (Try.prog.info? 29).map (·.size) = some [Value.int .i64 p, .int .i64 s].length := size29
          go_wp2_with fail
          go_loopw [7] (fun vi wr => ∃ k : Nat, vi = .int .i64 k ∧ k ≤ x.wr.length ∧ Hid (∀ j (h : j < x.wr.length), j < k → bf x.wr[j].p x.wr[j].s x.wr[j].i p s u 1 = true ∧ (decide (x.wr[j].p = p) && decide (x.wr[j].s = s)) = false) ∧ Rw wr w.heap.size 27 (cvc x.k x.b (.slice pa x.am.length ca') (.slice pw x.wr.length cw) (.slice pm x.mb.length cm) (.slice pe x.el.length ce)) ∧ Rw wr (w.heap.size + 1) 34 (txc p s u t sl).toArray ∧ Below w3.heap.size w3 wr) (fun vi _ => x.wr.length - (intOf vi).toNat)
          case atStart => exact ⟨0, rfl, by omega, (show ∀ j (_ : j < x.wr.length), j < 0 → _ from fun j _ h => by omega), R0, R1, Below.refl _ _⟩
          case round =>
            clear R0 R1 hbel
            obtain ⟨k, rfl, hk, HV, R0, R1, hbel⟩ := hrel
            have c3 : wr.cell? ⟨w.heap.size, 3, none⟩ = some (.slice pw x.wr.length cw) := R0.cell 3
            by_cases hlt : k < x.wr.length
            · have hlt' : (k : Int) < (x.wr.length : Int) := by omega
              have hk0 : (0 : Int) ≤ (k : Int) := by omega
              obtain ⟨g, o, rfl, hd0⟩ := HH.out.t.at (by omega)
              have d := Wt.elem (range_later hd0 hbel) k hlt
              obtain ⟨y, HY⟩ := hid_ex x.wr[k]
              rw [HY.out] at d
              clear hd0
              have zm : (Try.prog.info? 39).map (·.size) = some [Value.int .i64 y.p, .int .i64 y.s, .int .i64 y.i].length := size39
              have zd : (Try.prog.info? 29).map (·.size) = some [Value.int .i64 y.p, .int .i64 y.s].length := size29
              have C1 := fun w => refBefore_any y.p y.s y.i p s u t sl 1 w hu
              obtain ⟨z1, HZ1⟩ := hid_ex (bf y.p y.s y.i p s u 1)
              rw [HZ1.out] at C1
              have E := fun w => eq_dot w y.p y.s p s
              obtain ⟨z2, HZ2⟩ := hid_ex (decide (y.p = p) && decide (y.s = s))
              rw [HZ2.out] at E
              go_wp2_with fail
              clear c3
              replace hbel : Below w3.heap.size w3 wr := hbel
              have hbel3 := hbel
              replace hbel : Below w.heap.size w wr := below_on HB3.out hbel
              cases z1
              · clear HZ1 HZ2 HV
                have hs : Calm.Stays (fun w' => Rw w' w.heap.size 27 (cvc x.k x.b (.slice pa x.am.length ca') (.slice (some ⟨g, o, none⟩) x.wr.length cw) (.slice pm x.mb.length cm) (.slice pe x.el.length ce)) ∧ Rw w' (w.heap.size + 1) 34 (txc p s u t sl).toArray ∧ w'.rangeAt g (o + k * 5) y.cells ∧ Below w3.heap.size w3 w' ∧ Below w.heap.size w w') := fun wa wb h hb => ⟨h.1.later hb, h.2.1.later hb, range_later h.2.2.1 hb, below_on h.2.2.2.1 hb, below_on h.2.2.2.2 hb⟩
                refine Calm.region (by kernel_rfl) (by kernel_rfl) (fun w' => Rw w' w.heap.size 27 (cvc x.k x.b (.slice pa x.am.length ca') (.slice (some ⟨g, o, none⟩) x.wr.length cw) (.slice pm x.mb.length cm) (.slice pe x.el.length ce)) ∧ Rw w' (w.heap.size + 1) 34 (txc p s u t sl).toArray ∧ w'.rangeAt g (o + k * 5) y.cells ∧ Below w3.heap.size w3 w' ∧ Below w.heap.size w w') ⟨R0, R1, d, hbel3.drew, hbel.drew⟩ ?_
                all_goals
                  refine Calm.pure (v := ?_) (by rfl) ?_ ?_
                  rotate_left
                  focus (intro w hSw; go_simp <;> rfl)
                  simp only [Act.put, List.setIfInBounds_toArray, List.set_cons_zero, List.set_cons_succ]
                all_goals
                  refine Calm.pure (v := ?_) (by rfl) ?_ ?_
                  rotate_left
                  focus (intro w hSw; have g1 := hSw.1.cell 3; simp at g1; go_simp <;> rfl)
                  simp only [Act.put, List.setIfInBounds_toArray, List.set_cons_zero, List.set_cons_succ]
                all_goals
                  refine Calm.pure (v := ?_) (by rfl) ?_ ?_
                  rotate_left
                  focus (intro w hSw; go_simp <;> rfl)
                  simp only [Act.put, List.setIfInBounds_toArray, List.set_cons_zero, List.set_cons_succ]
                all_goals
                  refine Calm.pure (v := ?_) (by rfl) ?_ ?_
                  rotate_left
                  focus (intro w hSw; go_simp <;> rfl)
                  simp only [Act.put, List.setIfInBounds_toArray, List.set_cons_zero, List.set_cons_succ]
                all_goals
                  refine Calm.pure (v := ?_) (by rfl) ?_ ?_
                  rotate_left
                  focus (intro w hSw; go_simp <;> rfl)
                  simp only [Act.put, List.setIfInBounds_toArray, List.set_cons_zero, List.set_cons_succ]
                all_goals
                  refine Calm.loadM 39 Try.underlying39 rfl zm (by rfl) _ rfl rfl (fun _ h => Wt.mark h.2.2.1) ?_
                  simp only [Act.put, List.setIfInBounds_toArray, List.set_cons_zero, List.set_cons_succ]
                all_goals
                  refine Calm.loadM 34 Try.underlying34 rfl ztx (by rfl) _ rfl rfl (fun _ h => Rw.whole (cs := (txc p s u t sl)) h.2.1) ?_
                  simp only [Act.put, List.setIfInBounds_toArray, List.set_cons_zero, List.set_cons_succ]
                all_goals
                  refine Calm.call3s (by rfl) rfl rfl rfl rfl (by kernel_rfl) hs (fun w1 h => C1 w1) ?_
                  simp only [Act.put, List.setIfInBounds_toArray, List.set_cons_zero, List.set_cons_succ]
                all_goals
                  refine Calm.pure (v := ?_) (by rfl) ?_ ?_
                  rotate_left
                  focus (intro w hSw; go_simp <;> rfl)
                  simp only [Act.put, List.setIfInBounds_toArray, List.set_cons_zero, List.set_cons_succ]
                all_goals
                  refine Calm.pure (v := ?_) (by rfl) ?_ ?_
                  rotate_left
                  focus (intro w hSw; go_simp <;> rfl)
                  simp only [Act.put, List.setIfInBounds_toArray, List.set_cons_zero, List.set_cons_succ]
                all_goals
                  first
                    | (refine Calm.skip ?_ ?_; focus rfl)
                    | (refine Calm.pure (v := ?_) (by rfl) ?_ ?_
                       rotate_left
                       focus (intro w hSw; go_simp <;> rfl))
                  simp only [Act.put, List.setIfInBounds_toArray, List.set_cons_zero, List.set_cons_succ]
                all_goals
                  first
                    | (refine Calm.skip ?_ ?_; focus rfl)
                    | (refine Calm.pure (v := ?_) (by rfl) ?_ ?_
                       rotate_left
                       focus (intro w hSw; have g1 := hSw.1.cell 3; simp at g1; go_simp <;> rfl))
                  simp only [Act.put, List.setIfInBounds_toArray, List.set_cons_zero, List.set_cons_succ]
                all_goals
                  first
                    | (refine Calm.skip ?_ ?_; focus rfl)
                    | (refine Calm.pure (v := ?_) (by rfl) ?_ ?_
                       rotate_left
                       focus (intro w hSw; go_simp <;> rfl))
                  simp only [Act.put, List.setIfInBounds_toArray, List.set_cons_zero, List.set_cons_succ]
                all_goals
                  first
                    | (refine Calm.skip ?_ ?_; focus rfl)
                    | (refine Calm.pure (v := ?_) (by rfl) ?_ ?_
                       rotate_left
                       focus (intro w hSw; go_simp <;> rfl))
                  simp only [Act.put, List.setIfInBounds_toArray, List.set_cons_zero, List.set_cons_succ]
                all_goals
                  first
                    | (refine Calm.skip ?_ ?_; focus rfl)
                    | (refine Calm.pure (v := ?_) (by rfl) ?_ ?_
                       rotate_left
                       focus (intro w hSw; go_simp <;> rfl))
                  simp only [Act.put, List.setIfInBounds_toArray, List.set_cons_zero, List.set_cons_succ]
                all_goals
                  first
                    | (refine Calm.skip ?_ ?_; focus rfl)
                    | (refine Calm.pure (v := ?_) (by rfl) ?_ ?_
                       rotate_left
                       focus (intro w hSw; go_simp <;> rfl))
                  simp only [Act.put, List.setIfInBounds_toArray, List.set_cons_zero, List.set_cons_succ]
                all_goals
                  first
                    | (refine Calm.skip ?_ ?_; focus rfl)
                    | (first | (refine Calm.loadM 29 Try.underlying29 rfl zd (by rfl) _ rfl rfl (fun _ h => Wt.dot h.2.2.1) ?_) | (refine Calm.loadM 29 Try.underlying29 rfl zt2 (by rfl) _ rfl rfl (fun _ h => tx_dot h.2.1) ?_))
                  simp only [Act.put, List.setIfInBounds_toArray, List.set_cons_zero, List.set_cons_succ]
                all_goals
                  first
                    | (refine Calm.skip ?_ ?_; focus rfl)
                    | (refine Calm.pure (v := ?_) (by rfl) ?_ ?_
                       rotate_left
                       focus (intro w hSw; go_simp <;> rfl))
                  simp only [Act.put, List.setIfInBounds_toArray, List.set_cons_zero, List.set_cons_succ]
                all_goals
                  first
                    | (refine Calm.skip ?_ ?_; focus rfl)
                    | (first | (refine Calm.loadM 29 Try.underlying29 rfl zd (by rfl) _ rfl rfl (fun _ h => Wt.dot h.2.2.1) ?_) | (refine Calm.loadM 29 Try.underlying29 rfl zt2 (by rfl) _ rfl rfl (fun _ h => tx_dot h.2.1) ?_))
                  simp only [Act.put, List.setIfInBounds_toArray, List.set_cons_zero, List.set_cons_succ]
                all_goals
                  first
                    | (refine Calm.skip ?_ ?_; focus rfl)
                    | (refine Calm.pure (v := ?_) (by rfl) ?_ ?_
                       rotate_left
                       focus (intro w hSw; go_simp <;> rfl))
                  simp only [Act.put, List.setIfInBounds_toArray, List.set_cons_zero, List.set_cons_succ]
                all_goals
                  refine Calm.pure (v := ?_) (by rfl) ?_ ?_
                  rotate_left
                  focus (intro w hSw; go_simp <;> rfl)
                  simp only [Act.put, List.setIfInBounds_toArray, List.set_cons_zero, List.set_cons_succ]
                all_goals
                  rintro w9 ⟨_, _, _, _, hbel9⟩
                replace hbel := hbel9
                go_wp2_with fail
                refine (heads_any _).mono ?_
                rintro e w9 ⟨rfl, hb9⟩
                go_wp2_with fail
                go_ret
                exact ⟨rfl, below_on hbel hb9⟩
              · cases z2
                · have HV2 : Hid (∀ j (h : j < x.wr.length), j < k + 1 → bf x.wr[j].p x.wr[j].s x.wr[j].i p s u 1 = true ∧ (decide (x.wr[j].p = p) && decide (x.wr[j].s = s)) = false) := fun j h hj => by
                    rcases Nat.lt_or_ge j k with h' | h'
                    · exact HV.out j h h'
                    · obtain rfl : j = k := by omega
                      rw [HY.out]
                      exact ⟨HZ1.out, HZ2.out⟩
                  clear HZ1 HZ2 HV
                  have hs : Calm.Stays (fun w' => Rw w' w.heap.size 27 (cvc x.k x.b (.slice pa x.am.length ca') (.slice (some ⟨g, o, none⟩) x.wr.length cw) (.slice pm x.mb.length cm) (.slice pe x.el.length ce)) ∧ Rw w' (w.heap.size + 1) 34 (txc p s u t sl).toArray ∧ w'.rangeAt g (o + k * 5) y.cells ∧ Below w3.heap.size w3 w' ∧ Below w.heap.size w w') := fun wa wb h hb => ⟨h.1.later hb, h.2.1.later hb, range_later h.2.2.1 hb, below_on h.2.2.2.1 hb, below_on h.2.2.2.2 hb⟩
                  refine Calm.region (by kernel_rfl) (by kernel_rfl) (fun w' => Rw w' w.heap.size 27 (cvc x.k x.b (.slice pa x.am.length ca') (.slice (some ⟨g, o, none⟩) x.wr.length cw) (.slice pm x.mb.length cm) (.slice pe x.el.length ce)) ∧ Rw w' (w.heap.size + 1) 34 (txc p s u t sl).toArray ∧ w'.rangeAt g (o + k * 5) y.cells ∧ Below w3.heap.size w3 w' ∧ Below w.heap.size w w') ⟨R0, R1, d, hbel3.drew, hbel.drew⟩ ?_
                  all_goals
                    refine Calm.pure (v := ?_) (by rfl) ?_ ?_
                    rotate_left
                    focus (intro w hSw; go_simp <;> rfl)
                    simp only [Act.put, List.setIfInBounds_toArray, List.set_cons_zero, List.set_cons_succ]
                  all_goals
                    refine Calm.pure (v := ?_) (by rfl) ?_ ?_
                    rotate_left
                    focus (intro w hSw; have g1 := hSw.1.cell 3; simp at g1; go_simp <;> rfl)
                    simp only [Act.put, List.setIfInBounds_toArray, List.set_cons_zero, List.set_cons_succ]
                  all_goals
                    refine Calm.pure (v := ?_) (by rfl) ?_ ?_
                    rotate_left
                    focus (intro w hSw; go_simp <;> rfl)
                    simp only [Act.put, List.setIfInBounds_toArray, List.set_cons_zero, List.set_cons_succ]
                  all_goals
                    refine Calm.pure (v := ?_) (by rfl) ?_ ?_
                    rotate_left
                    focus (intro w hSw; go_simp <;> rfl)
                    simp only [Act.put, List.setIfInBounds_toArray, List.set_cons_zero, List.set_cons_succ]
                  all_goals
                    refine Calm.pure (v := ?_) (by rfl) ?_ ?_
                    rotate_left
                    focus (intro w hSw; go_simp <;> rfl)
                    simp only [Act.put, List.setIfInBounds_toArray, List.set_cons_zero, List.set_cons_succ]
                  all_goals
                    refine Calm.loadM 39 Try.underlying39 rfl zm (by rfl) _ rfl rfl (fun _ h => Wt.mark h.2.2.1) ?_
                    simp only [Act.put, List.setIfInBounds_toArray, List.set_cons_zero, List.set_cons_succ]
                  all_goals
                    refine Calm.loadM 34 Try.underlying34 rfl ztx (by rfl) _ rfl rfl (fun _ h => Rw.whole (cs := (txc p s u t sl)) h.2.1) ?_
                    simp only [Act.put, List.setIfInBounds_toArray, List.set_cons_zero, List.set_cons_succ]
                  all_goals
                    refine Calm.call3s (by rfl) rfl rfl rfl rfl (by kernel_rfl) hs (fun w1 h => C1 w1) ?_
                    simp only [Act.put, List.setIfInBounds_toArray, List.set_cons_zero, List.set_cons_succ]
                  all_goals
                    refine Calm.pure (v := ?_) (by rfl) ?_ ?_
                    rotate_left
                    focus (intro w hSw; go_simp <;> rfl)
                    simp only [Act.put, List.setIfInBounds_toArray, List.set_cons_zero, List.set_cons_succ]
                  all_goals
                    refine Calm.pure (v := ?_) (by rfl) ?_ ?_
                    rotate_left
                    focus (intro w hSw; go_simp <;> rfl)
                    simp only [Act.put, List.setIfInBounds_toArray, List.set_cons_zero, List.set_cons_succ]
                  all_goals
                    first
                      | (refine Calm.skip ?_ ?_; focus rfl)
                      | (refine Calm.pure (v := ?_) (by rfl) ?_ ?_
                         rotate_left
                         focus (intro w hSw; go_simp <;> rfl))
                    simp only [Act.put, List.setIfInBounds_toArray, List.set_cons_zero, List.set_cons_succ]
                  all_goals
                    first
                      | (refine Calm.skip ?_ ?_; focus rfl)
                      | (refine Calm.pure (v := ?_) (by rfl) ?_ ?_
                         rotate_left
                         focus (intro w hSw; have g1 := hSw.1.cell 3; simp at g1; go_simp <;> rfl))
                    simp only [Act.put, List.setIfInBounds_toArray, List.set_cons_zero, List.set_cons_succ]
                  all_goals
                    first
                      | (refine Calm.skip ?_ ?_; focus rfl)
                      | (refine Calm.pure (v := ?_) (by rfl) ?_ ?_
                         rotate_left
                         focus (intro w hSw; go_simp <;> rfl))
                    simp only [Act.put, List.setIfInBounds_toArray, List.set_cons_zero, List.set_cons_succ]
                  all_goals
                    first
                      | (refine Calm.skip ?_ ?_; focus rfl)
                      | (refine Calm.pure (v := ?_) (by rfl) ?_ ?_
                         rotate_left
                         focus (intro w hSw; go_simp <;> rfl))
                    simp only [Act.put, List.setIfInBounds_toArray, List.set_cons_zero, List.set_cons_succ]
                  all_goals
                    first
                      | (refine Calm.skip ?_ ?_; focus rfl)
                      | (refine Calm.pure (v := ?_) (by rfl) ?_ ?_
                         rotate_left
                         focus (intro w hSw; go_simp <;> rfl))
                    simp only [Act.put, List.setIfInBounds_toArray, List.set_cons_zero, List.set_cons_succ]
                  all_goals
                    first
                      | (refine Calm.skip ?_ ?_; focus rfl)
                      | (refine Calm.pure (v := ?_) (by rfl) ?_ ?_
                         rotate_left
                         focus (intro w hSw; go_simp <;> rfl))
                    simp only [Act.put, List.setIfInBounds_toArray, List.set_cons_zero, List.set_cons_succ]
                  all_goals
                    first
                      | (refine Calm.skip ?_ ?_; focus rfl)
                      | (first | (refine Calm.loadM 29 Try.underlying29 rfl zd (by rfl) _ rfl rfl (fun _ h => Wt.dot h.2.2.1) ?_) | (refine Calm.loadM 29 Try.underlying29 rfl zt2 (by rfl) _ rfl rfl (fun _ h => tx_dot h.2.1) ?_))
                    simp only [Act.put, List.setIfInBounds_toArray, List.set_cons_zero, List.set_cons_succ]
                  all_goals
                    first
                      | (refine Calm.skip ?_ ?_; focus rfl)
                      | (refine Calm.pure (v := ?_) (by rfl) ?_ ?_
                         rotate_left
                         focus (intro w hSw; go_simp <;> rfl))
                    simp only [Act.put, List.setIfInBounds_toArray, List.set_cons_zero, List.set_cons_succ]
                  all_goals
                    first
                      | (refine Calm.skip ?_ ?_; focus rfl)
                      | (first | (refine Calm.loadM 29 Try.underlying29 rfl zd (by rfl) _ rfl rfl (fun _ h => Wt.dot h.2.2.1) ?_) | (refine Calm.loadM 29 Try.underlying29 rfl zt2 (by rfl) _ rfl rfl (fun _ h => tx_dot h.2.1) ?_))
                    simp only [Act.put, List.setIfInBounds_toArray, List.set_cons_zero, List.set_cons_succ]
                  all_goals
                    first
                      | (refine Calm.skip ?_ ?_; focus rfl)
                      | (refine Calm.pure (v := ?_) (by rfl) ?_ ?_
                         rotate_left
                         focus (intro w hSw; go_simp <;> rfl))
                    simp only [Act.put, List.setIfInBounds_toArray, List.set_cons_zero, List.set_cons_succ]
                  all_goals
                    refine Calm.pure (v := ?_) (by rfl) ?_ ?_
                    rotate_left
                    focus (intro w hSw; go_simp <;> rfl)
                    simp only [Act.put, List.setIfInBounds_toArray, List.set_cons_zero, List.set_cons_succ]
                  all_goals
                    rintro w9 ⟨R09, R19, _, hbel39, _⟩
                  go_wp2_with fail
                  go_roundw
                  case rel => exact ⟨k + 1, by simp, by omega, HV2, R09, R19, hbel39⟩
                  case measure => simp [intOf]; omega
                · clear HZ1 HZ2 HV
                  have hs : Calm.Stays (fun w' => Rw w' w.heap.size 27 (cvc x.k x.b (.slice pa x.am.length ca') (.slice (some ⟨g, o, none⟩) x.wr.length cw) (.slice pm x.mb.length cm) (.slice pe x.el.length ce)) ∧ Rw w' (w.heap.size + 1) 34 (txc p s u t sl).toArray ∧ w'.rangeAt g (o + k * 5) y.cells ∧ Below w3.heap.size w3 w' ∧ Below w.heap.size w w') := fun wa wb h hb => ⟨h.1.later hb, h.2.1.later hb, range_later h.2.2.1 hb, below_on h.2.2.2.1 hb, below_on h.2.2.2.2 hb⟩
                  refine Calm.region (by kernel_rfl) (by kernel_rfl) (fun w' => Rw w' w.heap.size 27 (cvc x.k x.b (.slice pa x.am.length ca') (.slice (some ⟨g, o, none⟩) x.wr.length cw) (.slice pm x.mb.length cm) (.slice pe x.el.length ce)) ∧ Rw w' (w.heap.size + 1) 34 (txc p s u t sl).toArray ∧ w'.rangeAt g (o + k * 5) y.cells ∧ Below w3.heap.size w3 w' ∧ Below w.heap.size w w') ⟨R0, R1, d, hbel3.drew, hbel.drew⟩ ?_
                  all_goals
                    refine Calm.pure (v := ?_) (by rfl) ?_ ?_
                    rotate_left
                    focus (intro w hSw; go_simp <;> rfl)
                    simp only [Act.put, List.setIfInBounds_toArray, List.set_cons_zero, List.set_cons_succ]
                  all_goals
                    refine Calm.pure (v := ?_) (by rfl) ?_ ?_
                    rotate_left
                    focus (intro w hSw; have g1 := hSw.1.cell 3; simp at g1; go_simp <;> rfl)
                    simp only [Act.put, List.setIfInBounds_toArray, List.set_cons_zero, List.set_cons_succ]
                  all_goals
                    refine Calm.pure (v := ?_) (by rfl) ?_ ?_
                    rotate_left
                    focus (intro w hSw; go_simp <;> rfl)
                    simp only [Act.put, List.setIfInBounds_toArray, List.set_cons_zero, List.set_cons_succ]
                  all_goals
                    refine Calm.pure (v := ?_) (by rfl) ?_ ?_
                    rotate_left
                    focus (intro w hSw; go_simp <;> rfl)
                    simp only [Act.put, List.setIfInBounds_toArray, List.set_cons_zero, List.set_cons_succ]
                  all_goals
                    refine Calm.pure (v := ?_) (by rfl) ?_ ?_
                    rotate_left
                    focus (intro w hSw; go_simp <;> rfl)
                    simp only [Act.put, List.setIfInBounds_toArray, List.set_cons_zero, List.set_cons_succ]
                  all_goals
                    refine Calm.loadM 39 Try.underlying39 rfl zm (by rfl) _ rfl rfl (fun _ h => Wt.mark h.2.2.1) ?_
                    simp only [Act.put, List.setIfInBounds_toArray, List.set_cons_zero, List.set_cons_succ]
                  all_goals
                    refine Calm.loadM 34 Try.underlying34 rfl ztx (by rfl) _ rfl rfl (fun _ h => Rw.whole (cs := (txc p s u t sl)) h.2.1) ?_
                    simp only [Act.put, List.setIfInBounds_toArray, List.set_cons_zero, List.set_cons_succ]
                  all_goals
                    refine Calm.call3s (by rfl) rfl rfl rfl rfl (by kernel_rfl) hs (fun w1 h => C1 w1) ?_
                    simp only [Act.put, List.setIfInBounds_toArray, List.set_cons_zero, List.set_cons_succ]
                  all_goals
                    refine Calm.pure (v := ?_) (by rfl) ?_ ?_
                    rotate_left
                    focus (intro w hSw; go_simp <;> rfl)
                    simp only [Act.put, List.setIfInBounds_toArray, List.set_cons_zero, List.set_cons_succ]
                  all_goals
                    refine Calm.pure (v := ?_) (by rfl) ?_ ?_
                    rotate_left
                    focus (intro w hSw; go_simp <;> rfl)
                    simp only [Act.put, List.setIfInBounds_toArray, List.set_cons_zero, List.set_cons_succ]
                  all_goals
                    first
                      | (refine Calm.skip ?_ ?_; focus rfl)
                      | (refine Calm.pure (v := ?_) (by rfl) ?_ ?_
                         rotate_left
                         focus (intro w hSw; go_simp <;> rfl))
                    simp only [Act.put, List.setIfInBounds_toArray, List.set_cons_zero, List.set_cons_succ]
                  all_goals
                    first
                      | (refine Calm.skip ?_ ?_; focus rfl)
                      | (refine Calm.pure (v := ?_) (by rfl) ?_ ?_
                         rotate_left
                         focus (intro w hSw; have g1 := hSw.1.cell 3; simp at g1; go_simp <;> rfl))
                    simp only [Act.put, List.setIfInBounds_toArray, List.set_cons_zero, List.set_cons_succ]
                  all_goals
                    first
                      | (refine Calm.skip ?_ ?_; focus rfl)
                      | (refine Calm.pure (v := ?_) (by rfl) ?_ ?_
                         rotate_left
                         focus (intro w hSw; go_simp <;> rfl))
                    simp only [Act.put, List.setIfInBounds_toArray, List.set_cons_zero, List.set_cons_succ]
                  all_goals
                    first
                      | (refine Calm.skip ?_ ?_; focus rfl)
                      | (refine Calm.pure (v := ?_) (by rfl) ?_ ?_
                         rotate_left
                         focus (intro w hSw; go_simp <;> rfl))
                    simp only [Act.put, List.setIfInBounds_toArray, List.set_cons_zero, List.set_cons_succ]
                  all_goals
                    first
                      | (refine Calm.skip ?_ ?_; focus rfl)
                      | (refine Calm.pure (v := ?_) (by rfl) ?_ ?_
                         rotate_left
                         focus (intro w hSw; go_simp <;> rfl))
                    simp only [Act.put, List.setIfInBounds_toArray, List.set_cons_zero, List.set_cons_succ]
                  all_goals
                    first
                      | (refine Calm.skip ?_ ?_; focus rfl)
                      | (refine Calm.pure (v := ?_) (by rfl) ?_ ?_
                         rotate_left
                         focus (intro w hSw; go_simp <;> rfl))
                    simp only [Act.put, List.setIfInBounds_toArray, List.set_cons_zero, List.set_cons_succ]
                  all_goals
                    first
                      | (refine Calm.skip ?_ ?_; focus rfl)
                      | (first | (refine Calm.loadM 29 Try.underlying29 rfl zd (by rfl) _ rfl rfl (fun _ h => Wt.dot h.2.2.1) ?_) | (refine Calm.loadM 29 Try.underlying29 rfl zt2 (by rfl) _ rfl rfl (fun _ h => tx_dot h.2.1) ?_))
                    simp only [Act.put, List.setIfInBounds_toArray, List.set_cons_zero, List.set_cons_succ]
                  all_goals
                    first
                      | (refine Calm.skip ?_ ?_; focus rfl)
                      | (refine Calm.pure (v := ?_) (by rfl) ?_ ?_
                         rotate_left
                         focus (intro w hSw; go_simp <;> rfl))
                    simp only [Act.put, List.setIfInBounds_toArray, List.set_cons_zero, List.set_cons_succ]
                  all_goals
                    first
                      | (refine Calm.skip ?_ ?_; focus rfl)
                      | (first | (refine Calm.loadM 29 Try.underlying29 rfl zd (by rfl) _ rfl rfl (fun _ h => Wt.dot h.2.2.1) ?_) | (refine Calm.loadM 29 Try.underlying29 rfl zt2 (by rfl) _ rfl rfl (fun _ h => tx_dot h.2.1) ?_))
                    simp only [Act.put, List.setIfInBounds_toArray, List.set_cons_zero, List.set_cons_succ]
                  all_goals
                    first
                      | (refine Calm.skip ?_ ?_; focus rfl)
                      | (refine Calm.pure (v := ?_) (by rfl) ?_ ?_
                         rotate_left
                         focus (intro w hSw; go_simp <;> rfl))
                    simp only [Act.put, List.setIfInBounds_toArray, List.set_cons_zero, List.set_cons_succ]
                  all_goals
                    refine Calm.pure (v := ?_) (by rfl) ?_ ?_
                    rotate_left
                    focus (intro w hSw; go_simp <;> rfl)
                    simp only [Act.put, List.setIfInBounds_toArray, List.set_cons_zero, List.set_cons_succ]
                  all_goals
                    rintro w9 ⟨_, _, _, _, hbel9⟩
                  replace hbel := hbel9
                  go_wp2_with fail
                  refine (heads_any _).mono ?_
                  rintro e w9 ⟨rfl, hb9⟩
                  go_wp2_with fail
                  go_ret
                  exact ⟨rfl, below_on hbel hb9⟩
            · obtain rfl : k = x.wr.length := by omega
              have hlt' : ¬ (x.wr.length : Int) < (x.wr.length : Int) := by omega
              have hnil : lef x.wr p s u 1 = [] := lef_nil fun j hj => (HV.out j hj hj).1
              have hno : has ⟨p, s, 1, t, tx⟩ x.wr = false := has_dots (a := ⟨p, s, 1, t, tx⟩) fun j hj => (HV.out j hj hj).2
              have hins : insF ⟨p, s, 1, t, tx⟩ [] = [⟨p, s, 1, t, tx⟩] := rfl
              have HD : Hid (doX x ⟨p, s, 1, t, tx⟩ u = { x with wr := [⟨p, s, 1, t, tx⟩] }) := by
                show _ = _
                unfold doX
                rw [HY1.out, hno]
                simp only [HIA.out, hnil, hins]
                rfl
              have HC : Hid (clX x p s u 1 = { x with wr := [] }) := by
                show _ = _
                unfold clX
                rw [HY1.out, hnil]
                rfl
              have hsd : Sm { x with wr := [⟨p, s, 1, t, tx⟩] } := ⟨hs.a, by show 1 ≤ 100; decide, hs.m, hs.e, hs.mi, hs.ei⟩
              have hsc : Sm { x with wr := [] } := ⟨hs.a, by show 0 ≤ 100; decide, hs.m, hs.e, hs.mi, hs.ei⟩
              have HRD : Hid (rdT { x with wr := [⟨p, s, 1, t, tx⟩] } = [bs tx]) := rd_wr HY1.out HIA.out
              have HRC : Hid (rdT { x with wr := [] } = []) := rd_none HY1.out
              clear HV hnil hno hins HY1
              replace hbel : Below w3.heap.size w3 wr := hbel
              have hf := HH.out.later hbel
              replace hbel : Below w.heap.size w wr := below_on HB3.out hbel
              have hc := do_any x _ _ _ _ p s u t sl 1 tx wr hu hf hs
              rw [HD.out] at hc
              go_wp2_with (first | refine load_r 27 _ rfl rfl _ rfl R0 Try.underlying27 rfl size27 ?_ | refine load_r 34 _ rfl rfl _ rfl R1 Try.underlying34 rfl zt ?_)
              refine hc.mono ?_
              clear hc c3
              rintro e w4 ⟨ua, uw, um, ue, rfl, hd4, hb1⟩
              obtain ⟨qa, da, qw, dw, qm, dm, qe, de, rfl, rfl, rfl, rfl⟩ := hd4.slices
              simp only [List.length_cons, List.length_nil, Nat.zero_add] at hd4
              replace R0 := R0.later hb1
              replace R1 := R1.later hb1
              replace hf := hf.later hb1
              replace hbel := below_on hbel hb1
              clear hb1
              have hbA := bel_alloc (Below.refl w4.heap.size w4) (.cells (cvc x.k x.b (.slice qa x.am.length da) (.slice qw 1 dw) (.slice qm x.mb.length dm) (.slice qe x.el.length de)) 27)
              have R8 := rw_new w4 27 (cvc x.k x.b (.slice qa x.am.length da) (.slice qw 1 dw) (.slice qm x.mb.length dm) (.slice qe x.el.length de))
              replace R0 := R0.later hbA
              replace R1 := R1.later hbA
              replace hf := hf.later hbA
              replace hd4 := hd4.later hbA
              replace hbel := below_on hbel hbA
              clear hbA
              generalize hW : w4.alloc (.cells (cvc x.k x.b (.slice qa x.am.length da) (.slice qw 1 dw) (.slice qm x.mb.length dm) (.slice qe x.el.length de)) 27) = w5 at R8 R0 R1 hf hd4 hbel
              have hr := read_any _ _ _ _ _ w5 hd4 hsd
              unfold RdPost at hr
              rw [HRD.out] at hr
              obtain ⟨rk, HRK⟩ := hid_ex (rdK { x with wr := [⟨p, s, 1, t, tx⟩] })
              rw [HRK.out] at hr
              go_wp2_with (first | rw [hW] | refine load_r 27 _ rfl rfl _ rfl R8 Try.underlying27 rfl size27 ?_)
              clear hW
              refine hr.mono ?_
              clear hr
              rintro e w6 ⟨uu, rfl, hth, hb1⟩
              obtain ⟨pu, cu, rfl⟩ := hth.slice
              replace R0 := R0.later hb1
              replace R1 := R1.later hb1
              replace hf := hf.later hb1
              replace hbel := below_on hbel hb1
              clear hb1
              have fe := field46_2 rk pu 1 cu w6
              have hla := thas_lit w6 [bs tx] (by simp)
              have hbA := bel_alloc (Below.refl w6.heap.size w6) (.cells #[.string tx] 9)
              have C := refTexts_any _ _ _ _ (hth.later hbA) hla
              go_wp2_with fail
              refine C.mono ?_
              clear C fe hla hth
              rintro e w7 ⟨rfl, hb2⟩
              have hb1 := below_on hbA hb2
              replace R0 := R0.later hb1
              replace R1 := R1.later hb1
              replace hf := hf.later hb1
              replace hbel := below_on hbel hb1
              clear hb1 hb2 hbA
              have hc := clear_any x _ _ _ _ p s u t sl 1 w7 hu hf hs
              rw [HC.out] at hc
              go_wp2_with (first | refine load_r 27 _ rfl rfl _ rfl R0 Try.underlying27 rfl size27 ?_ | refine load_r 34 _ rfl rfl _ rfl R1 Try.underlying34 rfl zt ?_)
              refine hc.mono ?_
              clear hc
              rintro e w8 ⟨ua, uw, um, ue, rfl, hd8, hb1⟩
              replace hbel := below_on hbel hb1
              clear hb1
              have hr := read_any _ _ _ _ _ w8 hd8 hsc
              unfold RdPost at hr
              rw [HRC.out] at hr
              obtain ⟨rk2, HRK2⟩ := hid_ex (rdK { x with wr := [] })
              rw [HRK2.out] at hr
              go_wp2_with fail
              refine hr.mono ?_
              clear hr
              rintro e w10 ⟨uu, rfl, hth, hb1⟩
              obtain ⟨pu, cu, rfl⟩ := hth.slice
              replace hbel := below_on hbel hb1
              clear hb1
              have fe := field46_2 rk2 pu 0 cu w10
              go_wp2_with fail
              refine (heads_any _).mono ?_
              rintro e w9 ⟨rfl, hb9⟩
              go_wp2_with fail
              go_ret
              exact ⟨rfl, below_on hbel hb9⟩
end Go.Proofs.Ytknpnjhedfdggaa
