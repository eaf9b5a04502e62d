import Derived.Test.YthekfmodafmlgaaP4
/- Rising of the document's answer. -/
namespace Go.Proofs.Ythekfmodafmlgaa
open Go.RowKit

set_option maxHeartbeats 2000000 in
set_option maxRecDepth 100000 in
theorem rising_any (v : Value) (l : List M) (w : World) (h : MHas w v l) : Calls Try.prog 27 #[v] w (Tells (.bool (ca l)) w) := by
  obtain ⟨z, HZ⟩ := hid_ex (ca l)
  rw [HZ.out]
  have hml := maxLen_lt h.1
  obtain ⟨p, c, rfl⟩ := h.slice
  have HR : Hid (MHas w (.slice p l.length c) l) := h
  clear h
  go_enter Try.func27, Try.ntmps27
  go_wp2
  go_loopw [3] (fun vi wr => ∃ k : Nat, vi = .int .i64 k ∧ k ≤ l.length ∧ Hid (∀ i (h : i < l.length), i < k → okk l i h = true) ∧ Below w.heap.size w wr) (fun vi _ => l.length - (intOf vi).toNat)
  case atStart => exact ⟨0, rfl, by omega, (show ∀ i (_ : i < l.length), i < 0 → _ from fun i _ h => by omega), Below.refl _ _⟩
  case round =>
    obtain ⟨k, rfl, hk, HV, hbel⟩ := hrel
    by_cases hlt : k < l.length
    · have hlt' : (k : Int) < (l.length : Int) := by omega
      have hk0 : (0 : Int) ≤ (k : Int) := by omega
      obtain ⟨g, o, rfl, hd0⟩ := HR.out.at (by omega)
      have hd := range_later hd0 hbel
      clear hd0 HR
      have d := M.elem hd k hlt
      obtain ⟨x, HX⟩ := hid_ex l[k]
      rw [HX.out] at d
      have zm : (Try.prog.info? 44).map (·.size) = some x.cells.length := size44
      have hxi : (decide (x.i < 1)) = !im x.i := by unfold im; by_cases h : x.i < 1 <;> simp [h] <;> omega
      obtain ⟨y1, HY1⟩ := hid_ex (im x.i)
      rw [HY1.out] at hxi
      cases y1
      · have HF := ca_not HZ hlt (show okk l k hlt = false by unfold okk; rw [HX.out, HY1.out]; rfl)
        have e := HF.out
        subst e
        have hxd : decide (x.i < 1) = true := by simpa using hxi
        clear HZ HF HV hxi
        go_wp2_with fail
        clear hd
        have hs : Calm.Stays (fun w' => w'.rangeAt g (o + k * 3) x.cells ∧ Below w.heap.size w w') := fun wa wb h hb => ⟨range_later h.1 hb, below_on h.2 hb⟩
        refine Calm.region (by kernel_rfl) (by kernel_rfl) (fun w' => w'.rangeAt g (o + k * 3) x.cells ∧ Below w.heap.size w w') ⟨d, hbel.drew⟩ ?_
        all_goals
          refine Calm.pure (v := ?_) (by rfl) ?_ ?_
          rotate_left
          focus (intro w hSw; go_simp <;> rfl)
          simp only [Act.put, List.setIfInBounds_toArray, List.set_cons_zero, List.set_cons_succ]
        all_goals
          refine Calm.pure (v := ?_) (by rfl) ?_ ?_
          rotate_left
          focus (intro w hSw; go_simp <;> rfl)
          simp only [Act.put, List.setIfInBounds_toArray, List.set_cons_zero, List.set_cons_succ]
        all_goals
          refine Calm.pure (v := ?_) (by rfl) ?_ ?_
          rotate_left
          focus (intro w hSw; go_simp <;> rfl)
          simp only [Act.put, List.setIfInBounds_toArray, List.set_cons_zero, List.set_cons_succ]
        all_goals
          refine Calm.pure (v := ?_) (by rfl) ?_ ?_
          rotate_left
          focus (intro w hSw; go_simp <;> rfl)
          simp only [Act.put, List.setIfInBounds_toArray, List.set_cons_zero, List.set_cons_succ]
        all_goals
          refine Calm.pure (v := .int .i64 x.i) (by rfl) ?_ ?_
          focus (intro w hSw; have g1 : w.cell? ⟨g, o + k * 3 + 2, none⟩ = some (.int .i64 x.i) := hSw.1 2 _ rfl; go_simp)
          simp only [Act.put, List.setIfInBounds_toArray, List.set_cons_zero, List.set_cons_succ]
        all_goals
          refine Calm.pure (v := ?_) (by rfl) ?_ ?_
          rotate_left
          focus (intro w hSw; go_simp <;> rfl)
          simp only [Act.put, List.setIfInBounds_toArray, List.set_cons_zero, List.set_cons_succ]
        all_goals
          refine Calm.pure (v := ?_) (by rfl) ?_ ?_
          rotate_left
          focus (intro w hSw; go_simp <;> rfl)
          simp only [Act.put, List.setIfInBounds_toArray, List.set_cons_zero, List.set_cons_succ]
        all_goals
          first
            | (refine Calm.skip ?_ ?_; focus rfl)
            | (refine Calm.pure (v := ?_) (by rfl) ?_ ?_
               rotate_left
               focus (intro w hSw; go_simp <;> rfl))
          simp only [Act.put, List.setIfInBounds_toArray, List.set_cons_zero, List.set_cons_succ]
        all_goals
          first
            | (refine Calm.skip ?_ ?_; focus rfl)
            | (refine Calm.pure (v := ?_) (by rfl) ?_ ?_
               rotate_left
               focus (intro w hSw; go_simp <;> rfl))
          simp only [Act.put, List.setIfInBounds_toArray, List.set_cons_zero, List.set_cons_succ]
        all_goals
          first
            | (refine Calm.skip ?_ ?_; focus rfl)
            | (refine Calm.pure (v := ?_) (by rfl) ?_ ?_
               rotate_left
               focus (intro w hSw; go_simp <;> rfl))
          simp only [Act.put, List.setIfInBounds_toArray, List.set_cons_zero, List.set_cons_succ]
        all_goals
          first
            | (refine Calm.skip ?_ ?_; focus rfl)
            | (refine Calm.pure (v := ?_) (by rfl) ?_ ?_
               rotate_left
               focus (intro w hSw; go_simp <;> rfl))
          simp only [Act.put, List.setIfInBounds_toArray, List.set_cons_zero, List.set_cons_succ]
        all_goals
          first
            | (refine Calm.skip ?_ ?_; focus rfl)
            | (refine Calm.pure (v := ?_) (by rfl) ?_ ?_
               rotate_left
               focus (intro w hSw; go_simp <;> rfl))
          simp only [Act.put, List.setIfInBounds_toArray, List.set_cons_zero, List.set_cons_succ]
        all_goals
          first
            | (refine Calm.skip ?_ ?_; focus rfl)
            | (refine Calm.pure (v := ?_) (by rfl) ?_ ?_
               rotate_left
               focus (intro w hSw; go_simp <;> rfl))
          simp only [Act.put, List.setIfInBounds_toArray, List.set_cons_zero, List.set_cons_succ]
        all_goals
          first
            | (refine Calm.skip ?_ ?_; focus rfl)
            | (refine Calm.pure (v := ?_) (by rfl) ?_ ?_
               rotate_left
               focus (intro w hSw; go_simp <;> rfl))
          simp only [Act.put, List.setIfInBounds_toArray, List.set_cons_zero, List.set_cons_succ]
        all_goals
          first
            | (refine Calm.skip ?_ ?_; focus rfl)
            | (refine Calm.loadM 44 Try.underlying44 rfl zm (by rfl) _ rfl rfl (fun _ h => h.1) ?_)
          simp only [Act.put, List.setIfInBounds_toArray, List.set_cons_zero, List.set_cons_succ]
        all_goals
          first
            | (refine Calm.skip ?_ ?_; focus rfl)
            | (refine Calm.pure (v := ?_) (by rfl) ?_ ?_
               rotate_left
               focus (intro w hSw; go_simp <;> rfl))
          simp only [Act.put, List.setIfInBounds_toArray, List.set_cons_zero, List.set_cons_succ]
        all_goals
          first
            | (refine Calm.skip ?_ ?_; focus rfl)
            | (refine Calm.pure (v := ?_) (by rfl) ?_ ?_
               rotate_left
               focus (intro w hSw; go_simp <;> rfl))
          simp only [Act.put, List.setIfInBounds_toArray, List.set_cons_zero, List.set_cons_succ]
        all_goals
          first
            | (refine Calm.skip ?_ ?_; focus rfl)
            | (refine Calm.pure (v := ?_) (by rfl) ?_ ?_
               rotate_left
               focus (intro w hSw; go_simp <;> rfl))
          simp only [Act.put, List.setIfInBounds_toArray, List.set_cons_zero, List.set_cons_succ]
        all_goals
          first
            | (refine Calm.skip ?_ ?_; focus rfl)
            | (refine Calm.loadM 44 Try.underlying44 rfl zm (by rfl) _ rfl rfl (fun _ h => h.1) ?_)
          simp only [Act.put, List.setIfInBounds_toArray, List.set_cons_zero, List.set_cons_succ]
        all_goals
          first
            | (refine Calm.skip ?_ ?_; focus rfl)
            | (refine Calm.call2s (by rfl) rfl rfl rfl (by kernel_rfl) hs (fun w1 h => refLess_any 0 0 0 0 0 0 w1) ?_)
          simp only [Act.put, List.setIfInBounds_toArray, List.set_cons_zero, List.set_cons_succ]
        all_goals
          first
            | (refine Calm.skip ?_ ?_; focus rfl)
            | (refine Calm.pure (v := ?_) (by rfl) ?_ ?_
               rotate_left
               focus (intro w hSw; go_simp <;> rfl))
          simp only [Act.put, List.setIfInBounds_toArray, List.set_cons_zero, List.set_cons_succ]
        all_goals
          first
            | (refine Calm.skip ?_ ?_; focus rfl)
            | (refine Calm.pure (v := ?_) (by rfl) ?_ ?_
               rotate_left
               focus (intro w hSw; go_simp <;> rfl))
          simp only [Act.put, List.setIfInBounds_toArray, List.set_cons_zero, List.set_cons_succ]
        all_goals
          refine Calm.pure (v := ?_) (by rfl) ?_ ?_
          rotate_left
          focus (intro w hSw; go_simp <;> rfl)
          simp only [Act.put, List.setIfInBounds_toArray, List.set_cons_zero, List.set_cons_succ]
        all_goals
          rintro w9 ⟨_, hbel9⟩
        go_wp2_with fail
        go_ret
        exact ⟨rfl, hbel9⟩
      · have hxd : decide (x.i < 1) = false := by simpa using hxi
        clear hxi
        rcases Nat.eq_zero_or_pos k with rfl | hpos
        · have HV2 : Hid (∀ i (h : i < l.length), i < 0 + 1 → okk l i h = true) := fun i h hi => by
            obtain rfl : i = 0 := by omega
            unfold okk
            rw [HX.out, HY1.out]
            rfl
          go_wp2_with fail
          clear hd HV
          have hs : Calm.Stays (fun w' => w'.rangeAt g (o + 0 * 3) x.cells ∧ Below w.heap.size w w') := fun wa wb h hb => ⟨range_later h.1 hb, below_on h.2 hb⟩
          refine Calm.region (by kernel_rfl) (by kernel_rfl) (fun w' => w'.rangeAt g (o + 0 * 3) x.cells ∧ Below w.heap.size w w') ⟨d, hbel.drew⟩ ?_
          all_goals
            refine Calm.pure (v := ?_) (by rfl) ?_ ?_
            rotate_left
            focus (intro w hSw; go_simp <;> rfl)
            simp only [Act.put, List.setIfInBounds_toArray, List.set_cons_zero, List.set_cons_succ]
          all_goals
            refine Calm.pure (v := ?_) (by rfl) ?_ ?_
            rotate_left
            focus (intro w hSw; go_simp <;> rfl)
            simp only [Act.put, List.setIfInBounds_toArray, List.set_cons_zero, List.set_cons_succ]
          all_goals
            refine Calm.pure (v := ?_) (by rfl) ?_ ?_
            rotate_left
            focus (intro w hSw; go_simp <;> rfl)
            simp only [Act.put, List.setIfInBounds_toArray, List.set_cons_zero, List.set_cons_succ]
          all_goals
            refine Calm.pure (v := ?_) (by rfl) ?_ ?_
            rotate_left
            focus (intro w hSw; go_simp <;> rfl)
            simp only [Act.put, List.setIfInBounds_toArray, List.set_cons_zero, List.set_cons_succ]
          all_goals
            refine Calm.pure (v := .int .i64 x.i) (by rfl) ?_ ?_
            focus (intro w hSw; have g1 : w.cell? ⟨g, o + 0 * 3 + 2, none⟩ = some (.int .i64 x.i) := hSw.1 2 _ rfl; go_simp)
            simp only [Act.put, List.setIfInBounds_toArray, List.set_cons_zero, List.set_cons_succ]
          all_goals
            refine Calm.pure (v := ?_) (by rfl) ?_ ?_
            rotate_left
            focus (intro w hSw; go_simp <;> rfl)
            simp only [Act.put, List.setIfInBounds_toArray, List.set_cons_zero, List.set_cons_succ]
          all_goals
            refine Calm.pure (v := ?_) (by rfl) ?_ ?_
            rotate_left
            focus (intro w hSw; go_simp <;> rfl)
            simp only [Act.put, List.setIfInBounds_toArray, List.set_cons_zero, List.set_cons_succ]
          all_goals
            first
              | (refine Calm.skip ?_ ?_; focus rfl)
              | (refine Calm.pure (v := ?_) (by rfl) ?_ ?_
                 rotate_left
                 focus (intro w hSw; go_simp <;> rfl))
            simp only [Act.put, List.setIfInBounds_toArray, List.set_cons_zero, List.set_cons_succ]
          all_goals
            first
              | (refine Calm.skip ?_ ?_; focus rfl)
              | (refine Calm.pure (v := ?_) (by rfl) ?_ ?_
                 rotate_left
                 focus (intro w hSw; go_simp <;> rfl))
            simp only [Act.put, List.setIfInBounds_toArray, List.set_cons_zero, List.set_cons_succ]
          all_goals
            first
              | (refine Calm.skip ?_ ?_; focus rfl)
              | (refine Calm.pure (v := ?_) (by rfl) ?_ ?_
                 rotate_left
                 focus (intro w hSw; go_simp <;> rfl))
            simp only [Act.put, List.setIfInBounds_toArray, List.set_cons_zero, List.set_cons_succ]
          all_goals
            first
              | (refine Calm.skip ?_ ?_; focus rfl)
              | (refine Calm.pure (v := ?_) (by rfl) ?_ ?_
                 rotate_left
                 focus (intro w hSw; go_simp <;> rfl))
            simp only [Act.put, List.setIfInBounds_toArray, List.set_cons_zero, List.set_cons_succ]
          all_goals
            first
              | (refine Calm.skip ?_ ?_; focus rfl)
              | (refine Calm.pure (v := ?_) (by rfl) ?_ ?_
                 rotate_left
                 focus (intro w hSw; go_simp <;> rfl))
            simp only [Act.put, List.setIfInBounds_toArray, List.set_cons_zero, List.set_cons_succ]
          all_goals
            first
              | (refine Calm.skip ?_ ?_; focus rfl)
              | (refine Calm.pure (v := ?_) (by rfl) ?_ ?_
                 rotate_left
                 focus (intro w hSw; go_simp <;> rfl))
            simp only [Act.put, List.setIfInBounds_toArray, List.set_cons_zero, List.set_cons_succ]
          all_goals
            first
              | (refine Calm.skip ?_ ?_; focus rfl)
              | (refine Calm.pure (v := ?_) (by rfl) ?_ ?_
                 rotate_left
                 focus (intro w hSw; go_simp <;> rfl))
            simp only [Act.put, List.setIfInBounds_toArray, List.set_cons_zero, List.set_cons_succ]
          all_goals
            first
              | (refine Calm.skip ?_ ?_; focus rfl)
              | (refine Calm.loadM 44 Try.underlying44 rfl zm (by rfl) _ rfl rfl (fun _ h => h.1) ?_)
            simp only [Act.put, List.setIfInBounds_toArray, List.set_cons_zero, List.set_cons_succ]
          all_goals
            first
              | (refine Calm.skip ?_ ?_; focus rfl)
              | (refine Calm.pure (v := ?_) (by rfl) ?_ ?_
                 rotate_left
                 focus (intro w hSw; go_simp <;> rfl))
            simp only [Act.put, List.setIfInBounds_toArray, List.set_cons_zero, List.set_cons_succ]
          all_goals
            first
              | (refine Calm.skip ?_ ?_; focus rfl)
              | (refine Calm.pure (v := ?_) (by rfl) ?_ ?_
                 rotate_left
                 focus (intro w hSw; go_simp <;> rfl))
            simp only [Act.put, List.setIfInBounds_toArray, List.set_cons_zero, List.set_cons_succ]
          all_goals
            first
              | (refine Calm.skip ?_ ?_; focus rfl)
              | (refine Calm.pure (v := ?_) (by rfl) ?_ ?_
                 rotate_left
                 focus (intro w hSw; go_simp <;> rfl))
            simp only [Act.put, List.setIfInBounds_toArray, List.set_cons_zero, List.set_cons_succ]
          all_goals
            first
              | (refine Calm.skip ?_ ?_; focus rfl)
              | (refine Calm.loadM 44 Try.underlying44 rfl zm (by rfl) _ rfl rfl (fun _ h => h.1) ?_)
            simp only [Act.put, List.setIfInBounds_toArray, List.set_cons_zero, List.set_cons_succ]
          all_goals
            first
              | (refine Calm.skip ?_ ?_; focus rfl)
              | (refine Calm.call2s (by rfl) rfl rfl rfl (by kernel_rfl) hs (fun w1 h => refLess_any 0 0 0 0 0 0 w1) ?_)
            simp only [Act.put, List.setIfInBounds_toArray, List.set_cons_zero, List.set_cons_succ]
          all_goals
            first
              | (refine Calm.skip ?_ ?_; focus rfl)
              | (refine Calm.pure (v := ?_) (by rfl) ?_ ?_
                 rotate_left
                 focus (intro w hSw; go_simp <;> rfl))
            simp only [Act.put, List.setIfInBounds_toArray, List.set_cons_zero, List.set_cons_succ]
          all_goals
            first
              | (refine Calm.skip ?_ ?_; focus rfl)
              | (refine Calm.pure (v := ?_) (by rfl) ?_ ?_
                 rotate_left
                 focus (intro w hSw; go_simp <;> rfl))
            simp only [Act.put, List.setIfInBounds_toArray, List.set_cons_zero, List.set_cons_succ]
          all_goals
            refine Calm.pure (v := ?_) (by rfl) ?_ ?_
            rotate_left
            focus (intro w hSw; go_simp <;> rfl)
            simp only [Act.put, List.setIfInBounds_toArray, List.set_cons_zero, List.set_cons_succ]
          all_goals
            rintro w9 ⟨_, hbel9⟩
          go_wp2_with fail
          go_roundw
          case rel => exact ⟨0 + 1, by simp, by omega, HV2, hbel9⟩
          case measure => simp [intOf]; omega
        · obtain ⟨m, rfl⟩ : ∃ m, k = m + 1 := ⟨k - 1, by omega⟩
          have d2 := M.elem hd m (by omega)
          obtain ⟨y, HY⟩ := hid_ex (l[m]'(by omega))
          rw [HY.out] at d2
          have zy : (Try.prog.info? 44).map (·.size) = some y.cells.length := size44
          have C2 : ∀ w, Calls Try.prog 44 #[MV y.p y.s y.i, MV x.p x.s x.i] w (Tells (.bool (lt y x)) w) := fun w => refLess_any y.p y.s y.i x.p x.s x.i w
          have hO : okk l (m + 1) hlt = lt y x := by
            unfold okk
            simp only [Nat.add_sub_cancel]
            rw [HX.out, HY1.out, HY.out]
            simp
          have HO : Hid (okk l (m + 1) hlt = lt y x) := hO
          clear hO
          obtain ⟨y2, HY2⟩ := hid_ex (lt y x)
          rw [HY2.out] at C2 HO
          have hw1 : IntKind.i64.wrap (m : Int) = (m : Int) := by rw [IntKind.wrap_i64]; omega
          have hml2 : (m : Int) < (l.length : Int) := by omega
          go_wp2_with fail
          clear hd
          cases y2
          · have HF := ca_not HZ hlt HO.out
            have e := HF.out
            subst e
            clear HZ HF HV
            have hs : Calm.Stays (fun w' => w'.rangeAt g (o + (m + 1) * 3) x.cells ∧ w'.rangeAt g (o + m * 3) y.cells ∧ Below w.heap.size w w') := fun wa wb h hb => ⟨range_later h.1 hb, range_later h.2.1 hb, below_on h.2.2 hb⟩
            refine Calm.region (by kernel_rfl) (by kernel_rfl) (fun w' => w'.rangeAt g (o + (m + 1) * 3) x.cells ∧ w'.rangeAt g (o + m * 3) y.cells ∧ Below w.heap.size w w') ⟨d, d2, hbel.drew⟩ ?_
            all_goals
              refine Calm.pure (v := ?_) (by rfl) ?_ ?_
              rotate_left
              focus (intro w hSw; go_simp <;> rfl)
              simp only [Act.put, List.setIfInBounds_toArray, List.set_cons_zero, List.set_cons_succ]
            all_goals
              refine Calm.pure (v := ?_) (by rfl) ?_ ?_
              rotate_left
              focus (intro w hSw; go_simp <;> rfl)
              simp only [Act.put, List.setIfInBounds_toArray, List.set_cons_zero, List.set_cons_succ]
            all_goals
              refine Calm.pure (v := ?_) (by rfl) ?_ ?_
              rotate_left
              focus (intro w hSw; go_simp <;> rfl)
              simp only [Act.put, List.setIfInBounds_toArray, List.set_cons_zero, List.set_cons_succ]
            all_goals
              refine Calm.pure (v := ?_) (by rfl) ?_ ?_
              rotate_left
              focus (intro w hSw; go_simp <;> rfl)
              simp only [Act.put, List.setIfInBounds_toArray, List.set_cons_zero, List.set_cons_succ]
            all_goals
              refine Calm.pure (v := .int .i64 x.i) (by rfl) ?_ ?_
              focus (intro w hSw; have g1 : w.cell? ⟨g, o + (m + 1) * 3 + 2, none⟩ = some (.int .i64 x.i) := hSw.1 2 _ rfl; go_simp)
              simp only [Act.put, List.setIfInBounds_toArray, List.set_cons_zero, List.set_cons_succ]
            all_goals
              refine Calm.pure (v := ?_) (by rfl) ?_ ?_
              rotate_left
              focus (intro w hSw; go_simp <;> rfl)
              simp only [Act.put, List.setIfInBounds_toArray, List.set_cons_zero, List.set_cons_succ]
            all_goals
              refine Calm.pure (v := ?_) (by rfl) ?_ ?_
              rotate_left
              focus (intro w hSw; go_simp <;> rfl)
              simp only [Act.put, List.setIfInBounds_toArray, List.set_cons_zero, List.set_cons_succ]
            all_goals
              first
                | (refine Calm.skip ?_ ?_; focus rfl)
                | (refine Calm.pure (v := ?_) (by rfl) ?_ ?_
                   rotate_left
                   focus (intro w hSw; go_simp <;> rfl))
              simp only [Act.put, List.setIfInBounds_toArray, List.set_cons_zero, List.set_cons_succ]
            all_goals
              first
                | (refine Calm.skip ?_ ?_; focus rfl)
                | (refine Calm.pure (v := ?_) (by rfl) ?_ ?_
                   rotate_left
                   focus (intro w hSw; go_simp <;> rfl))
              simp only [Act.put, List.setIfInBounds_toArray, List.set_cons_zero, List.set_cons_succ]
            all_goals
              first
                | (refine Calm.skip ?_ ?_; focus rfl)
                | (refine Calm.pure (v := ?_) (by rfl) ?_ ?_
                   rotate_left
                   focus (intro w hSw; go_simp <;> rfl))
              simp only [Act.put, List.setIfInBounds_toArray, List.set_cons_zero, List.set_cons_succ]
            all_goals
              first
                | (refine Calm.skip ?_ ?_; focus rfl)
                | (refine Calm.pure (v := ?_) (by rfl) ?_ ?_
                   rotate_left
                   focus (intro w hSw; go_simp <;> rfl))
              simp only [Act.put, List.setIfInBounds_toArray, List.set_cons_zero, List.set_cons_succ]
            all_goals
              first
                | (refine Calm.skip ?_ ?_; focus rfl)
                | (refine Calm.pure (v := ?_) (by rfl) ?_ ?_
                   rotate_left
                   focus (intro w hSw; go_simp <;> rfl))
              simp only [Act.put, List.setIfInBounds_toArray, List.set_cons_zero, List.set_cons_succ]
            all_goals
              first
                | (refine Calm.skip ?_ ?_; focus rfl)
                | (refine Calm.pure (v := ?_) (by rfl) ?_ ?_
                   rotate_left
                   focus (intro w hSw; go_simp <;> rfl))
              simp only [Act.put, List.setIfInBounds_toArray, List.set_cons_zero, List.set_cons_succ]
            all_goals
              first
                | (refine Calm.skip ?_ ?_; focus rfl)
                | (refine Calm.pure (v := ?_) (by rfl) ?_ ?_
                   rotate_left
                   focus (intro w hSw; go_simp <;> rfl))
              simp only [Act.put, List.setIfInBounds_toArray, List.set_cons_zero, List.set_cons_succ]
            all_goals
              first
                | (refine Calm.skip ?_ ?_; focus rfl)
                | (first | (refine Calm.loadM 44 Try.underlying44 rfl zy (by rfl) _ rfl rfl (fun _ h => h.2.1) ?_) | (refine Calm.loadM 44 Try.underlying44 rfl zm (by rfl) _ rfl rfl (fun _ h => h.1) ?_))
              simp only [Act.put, List.setIfInBounds_toArray, List.set_cons_zero, List.set_cons_succ]
            all_goals
              first
                | (refine Calm.skip ?_ ?_; focus rfl)
                | (refine Calm.pure (v := ?_) (by rfl) ?_ ?_
                   rotate_left
                   focus (intro w hSw; go_simp <;> rfl))
              simp only [Act.put, List.setIfInBounds_toArray, List.set_cons_zero, List.set_cons_succ]
            all_goals
              first
                | (refine Calm.skip ?_ ?_; focus rfl)
                | (refine Calm.pure (v := ?_) (by rfl) ?_ ?_
                   rotate_left
                   focus (intro w hSw; go_simp <;> rfl))
              simp only [Act.put, List.setIfInBounds_toArray, List.set_cons_zero, List.set_cons_succ]
            all_goals
              first
                | (refine Calm.skip ?_ ?_; focus rfl)
                | (refine Calm.pure (v := ?_) (by rfl) ?_ ?_
                   rotate_left
                   focus (intro w hSw; go_simp <;> rfl))
              simp only [Act.put, List.setIfInBounds_toArray, List.set_cons_zero, List.set_cons_succ]
            all_goals
              first
                | (refine Calm.skip ?_ ?_; focus rfl)
                | (first | (refine Calm.loadM 44 Try.underlying44 rfl zy (by rfl) _ rfl rfl (fun _ h => h.2.1) ?_) | (refine Calm.loadM 44 Try.underlying44 rfl zm (by rfl) _ rfl rfl (fun _ h => h.1) ?_))
              simp only [Act.put, List.setIfInBounds_toArray, List.set_cons_zero, List.set_cons_succ]
            all_goals
              first
                | (refine Calm.skip ?_ ?_; focus rfl)
                | (refine Calm.call2s (by rfl) rfl rfl rfl (by kernel_rfl) hs (fun w1 h => C2 w1) ?_)
              simp only [Act.put, List.setIfInBounds_toArray, List.set_cons_zero, List.set_cons_succ]
            all_goals
              first
                | (refine Calm.skip ?_ ?_; focus rfl)
                | (refine Calm.pure (v := ?_) (by rfl) ?_ ?_
                   rotate_left
                   focus (intro w hSw; go_simp <;> rfl))
              simp only [Act.put, List.setIfInBounds_toArray, List.set_cons_zero, List.set_cons_succ]
            all_goals
              first
                | (refine Calm.skip ?_ ?_; focus rfl)
                | (refine Calm.pure (v := ?_) (by rfl) ?_ ?_
                   rotate_left
                   focus (intro w hSw; go_simp <;> rfl))
              simp only [Act.put, List.setIfInBounds_toArray, List.set_cons_zero, List.set_cons_succ]
            all_goals
              refine Calm.pure (v := ?_) (by rfl) ?_ ?_
              rotate_left
              focus (intro w hSw; go_simp <;> rfl)
              simp only [Act.put, List.setIfInBounds_toArray, List.set_cons_zero, List.set_cons_succ]
            all_goals
              rintro w9 ⟨_, _, hbel9⟩
            go_wp2_with fail
            go_ret
            exact ⟨rfl, hbel9⟩
          · have HV2 : Hid (∀ i (h : i < l.length), i < m + 1 + 1 → okk l i h = true) := fun i h hi => by
              rcases Nat.lt_or_ge i (m + 1) with h' | h'
              · exact HV.out i h h'
              · obtain rfl : i = m + 1 := by omega
                exact HO.out
            clear HV HO
            have hs : Calm.Stays (fun w' => w'.rangeAt g (o + (m + 1) * 3) x.cells ∧ w'.rangeAt g (o + m * 3) y.cells ∧ Below w.heap.size w w') := fun wa wb h hb => ⟨range_later h.1 hb, range_later h.2.1 hb, below_on h.2.2 hb⟩
            refine Calm.region (by kernel_rfl) (by kernel_rfl) (fun w' => w'.rangeAt g (o + (m + 1) * 3) x.cells ∧ w'.rangeAt g (o + m * 3) y.cells ∧ Below w.heap.size w w') ⟨d, d2, hbel.drew⟩ ?_
            all_goals
              refine Calm.pure (v := ?_) (by rfl) ?_ ?_
              rotate_left
              focus (intro w hSw; go_simp <;> rfl)
              simp only [Act.put, List.setIfInBounds_toArray, List.set_cons_zero, List.set_cons_succ]
            all_goals
              refine Calm.pure (v := ?_) (by rfl) ?_ ?_
              rotate_left
              focus (intro w hSw; go_simp <;> rfl)
              simp only [Act.put, List.setIfInBounds_toArray, List.set_cons_zero, List.set_cons_succ]
            all_goals
              refine Calm.pure (v := ?_) (by rfl) ?_ ?_
              rotate_left
              focus (intro w hSw; go_simp <;> rfl)
              simp only [Act.put, List.setIfInBounds_toArray, List.set_cons_zero, List.set_cons_succ]
            all_goals
              refine Calm.pure (v := ?_) (by rfl) ?_ ?_
              rotate_left
              focus (intro w hSw; go_simp <;> rfl)
              simp only [Act.put, List.setIfInBounds_toArray, List.set_cons_zero, List.set_cons_succ]
            all_goals
              refine Calm.pure (v := .int .i64 x.i) (by rfl) ?_ ?_
              focus (intro w hSw; have g1 : w.cell? ⟨g, o + (m + 1) * 3 + 2, none⟩ = some (.int .i64 x.i) := hSw.1 2 _ rfl; go_simp)
              simp only [Act.put, List.setIfInBounds_toArray, List.set_cons_zero, List.set_cons_succ]
            all_goals
              refine Calm.pure (v := ?_) (by rfl) ?_ ?_
              rotate_left
              focus (intro w hSw; go_simp <;> rfl)
              simp only [Act.put, List.setIfInBounds_toArray, List.set_cons_zero, List.set_cons_succ]
            all_goals
              refine Calm.pure (v := ?_) (by rfl) ?_ ?_
              rotate_left
              focus (intro w hSw; go_simp <;> rfl)
              simp only [Act.put, List.setIfInBounds_toArray, List.set_cons_zero, List.set_cons_succ]
            all_goals
              first
                | (refine Calm.skip ?_ ?_; focus rfl)
                | (refine Calm.pure (v := ?_) (by rfl) ?_ ?_
                   rotate_left
                   focus (intro w hSw; go_simp <;> rfl))
              simp only [Act.put, List.setIfInBounds_toArray, List.set_cons_zero, List.set_cons_succ]
            all_goals
              first
                | (refine Calm.skip ?_ ?_; focus rfl)
                | (refine Calm.pure (v := ?_) (by rfl) ?_ ?_
                   rotate_left
                   focus (intro w hSw; go_simp <;> rfl))
              simp only [Act.put, List.setIfInBounds_toArray, List.set_cons_zero, List.set_cons_succ]
            all_goals
              first
                | (refine Calm.skip ?_ ?_; focus rfl)
                | (refine Calm.pure (v := ?_) (by rfl) ?_ ?_
                   rotate_left
                   focus (intro w hSw; go_simp <;> rfl))
              simp only [Act.put, List.setIfInBounds_toArray, List.set_cons_zero, List.set_cons_succ]
            all_goals
              first
                | (refine Calm.skip ?_ ?_; focus rfl)
                | (refine Calm.pure (v := ?_) (by rfl) ?_ ?_
                   rotate_left
                   focus (intro w hSw; go_simp <;> rfl))
              simp only [Act.put, List.setIfInBounds_toArray, List.set_cons_zero, List.set_cons_succ]
            all_goals
              first
                | (refine Calm.skip ?_ ?_; focus rfl)
                | (refine Calm.pure (v := ?_) (by rfl) ?_ ?_
                   rotate_left
                   focus (intro w hSw; go_simp <;> rfl))
              simp only [Act.put, List.setIfInBounds_toArray, List.set_cons_zero, List.set_cons_succ]
            all_goals
              first
                | (refine Calm.skip ?_ ?_; focus rfl)
                | (refine Calm.pure (v := ?_) (by rfl) ?_ ?_
                   rotate_left
                   focus (intro w hSw; go_simp <;> rfl))
              simp only [Act.put, List.setIfInBounds_toArray, List.set_cons_zero, List.set_cons_succ]
            all_goals
              first
                | (refine Calm.skip ?_ ?_; focus rfl)
                | (refine Calm.pure (v := ?_) (by rfl) ?_ ?_
                   rotate_left
                   focus (intro w hSw; go_simp <;> rfl))
              simp only [Act.put, List.setIfInBounds_toArray, List.set_cons_zero, List.set_cons_succ]
            all_goals
              first
                | (refine Calm.skip ?_ ?_; focus rfl)
                | (first | (refine Calm.loadM 44 Try.underlying44 rfl zy (by rfl) _ rfl rfl (fun _ h => h.2.1) ?_) | (refine Calm.loadM 44 Try.underlying44 rfl zm (by rfl) _ rfl rfl (fun _ h => h.1) ?_))
              simp only [Act.put, List.setIfInBounds_toArray, List.set_cons_zero, List.set_cons_succ]
            all_goals
              first
                | (refine Calm.skip ?_ ?_; focus rfl)
                | (refine Calm.pure (v := ?_) (by rfl) ?_ ?_
                   rotate_left
                   focus (intro w hSw; go_simp <;> rfl))
              simp only [Act.put, List.setIfInBounds_toArray, List.set_cons_zero, List.set_cons_succ]
            all_goals
              first
                | (refine Calm.skip ?_ ?_; focus rfl)
                | (refine Calm.pure (v := ?_) (by rfl) ?_ ?_
                   rotate_left
                   focus (intro w hSw; go_simp <;> rfl))
              simp only [Act.put, List.setIfInBounds_toArray, List.set_cons_zero, List.set_cons_succ]
            all_goals
              first
                | (refine Calm.skip ?_ ?_; focus rfl)
                | (refine Calm.pure (v := ?_) (by rfl) ?_ ?_
                   rotate_left
                   focus (intro w hSw; go_simp <;> rfl))
              simp only [Act.put, List.setIfInBounds_toArray, List.set_cons_zero, List.set_cons_succ]
            all_goals
              first
                | (refine Calm.skip ?_ ?_; focus rfl)
                | (first | (refine Calm.loadM 44 Try.underlying44 rfl zy (by rfl) _ rfl rfl (fun _ h => h.2.1) ?_) | (refine Calm.loadM 44 Try.underlying44 rfl zm (by rfl) _ rfl rfl (fun _ h => h.1) ?_))
              simp only [Act.put, List.setIfInBounds_toArray, List.set_cons_zero, List.set_cons_succ]
            all_goals
              first
                | (refine Calm.skip ?_ ?_; focus rfl)
                | (refine Calm.call2s (by rfl) rfl rfl rfl (by kernel_rfl) hs (fun w1 h => C2 w1) ?_)
              simp only [Act.put, List.setIfInBounds_toArray, List.set_cons_zero, List.set_cons_succ]
            all_goals
              first
                | (refine Calm.skip ?_ ?_; focus rfl)
                | (refine Calm.pure (v := ?_) (by rfl) ?_ ?_
                   rotate_left
                   focus (intro w hSw; go_simp <;> rfl))
              simp only [Act.put, List.setIfInBounds_toArray, List.set_cons_zero, List.set_cons_succ]
            all_goals
              first
                | (refine Calm.skip ?_ ?_; focus rfl)
                | (refine Calm.pure (v := ?_) (by rfl) ?_ ?_
                   rotate_left
                   focus (intro w hSw; go_simp <;> rfl))
              simp only [Act.put, List.setIfInBounds_toArray, List.set_cons_zero, List.set_cons_succ]
            all_goals
              refine Calm.pure (v := ?_) (by rfl) ?_ ?_
              rotate_left
              focus (intro w hSw; go_simp <;> rfl)
              simp only [Act.put, List.setIfInBounds_toArray, List.set_cons_zero, List.set_cons_succ]
            all_goals
              rintro w9 ⟨_, _, hbel9⟩
            go_wp2_with fail
            go_roundw
            case rel => exact ⟨m + 1 + 1, by simp, by omega, HV2, hbel9⟩
            case measure => simp [intOf]; omega
    · have hlt' : ¬ (k : Int) < (l.length : Int) := by omega
      have e := HZ.out
      rw [(ca_iff l).2 (fun i h => HV.out i h (by omega))] at e
      subst e
      clear HZ HV HR
      go_wp2_with fail
      go_ret
      exact ⟨rfl, hbel⟩
end Go.Proofs.Ythekfmodafmlgaa
