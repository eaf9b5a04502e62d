import Derived.Test.YtfjpbmdmkcihcaaP3
import Derived.Test.YtfjpbmdmkcihcaaP5
/- Rising of the document's answer. -/
namespace Go.Proofs.Ytfjpbmdmkcihcaa
open Go.RowKit

set_option maxHeartbeats 2000000 in
set_option maxRecDepth 100000 in
theorem refRising_any (v : Value) (l : List M) (w : World) (h : MHas w v l) : Calls Try.prog 23 #[v] w (Tells (.bool (ca l)) w) := by
  obtain ⟨z, HZ⟩ := hid_ex (ca l)
  rw [HZ.out]
  have hml := maxLen_lt h.1
  obtain ⟨p, c, rfl⟩ := h.slice
  have HR : Hid (MHas w (.slice p l.length c) l) := h
  clear h
  go_enter Try.func23, Try.ntmps23
  go_wp2
  go_loopw [3] (fun vi wr => ∃ k : Nat, vi = .int .i64 k ∧ k ≤ l.length ∧ Hid (∀ i (h : i < l.length), i < k → okk l i h = true) ∧ Below w.heap.size w wr) (fun vi _ => l.length - (intOf vi).toNat)
  case atStart => exact ⟨0, rfl, by omega, (show ∀ i (_ : i < l.length), i < 0 → _ from fun i _ h => by omega), Below.refl _ _⟩
  case round =>
    obtain ⟨k, rfl, hk, HV, hbel⟩ := hrel
    by_cases hlt : k < l.length
    · have hlt' : (k : Int) < (l.length : Int) := by omega
      have hk0 : (0 : Int) ≤ (k : Int) := by omega
      obtain ⟨g, o, rfl, hd0⟩ := HR.out.at (by omega)
      have hd := range_later hd0 hbel
      clear hd0 HR
      have d := M.elem hd k hlt
      obtain ⟨x, HX⟩ := hid_ex l[k]
      rw [HX.out] at d
      have zm : (Try.prog.info? 39).map (·.size) = some x.cells.length := size39
      have hxi : (decide (x.i < 1)) = !im x.i := by unfold im; by_cases h : x.i < 1 <;> simp [h] <;> omega
      obtain ⟨y1, HY1⟩ := hid_ex (im x.i)
      rw [HY1.out] at hxi
      cases y1
      · have HF := ca_not HZ hlt (show okk l k hlt = false by unfold okk; rw [HX.out, HY1.out]; rfl)
        have e := HF.out
        subst e
        have hxd : decide (x.i < 1) = true := by simpa using hxi
        clear HZ HF HV hxi
        go_wp2_with fail
        clear hd
        have hs : Calm.Stays (fun w' => w'.rangeAt g (o + k * 3) x.cells ∧ Below w.heap.size w w') := fun wa wb h hb => ⟨range_later h.1 hb, below_on h.2 hb⟩
        refine Calm.region (by kernel_rfl) (by kernel_rfl) (fun w' => w'.rangeAt g (o + k * 3) x.cells ∧ Below w.heap.size w w') ⟨d, hbel.drew⟩ ?_
        all_goals
          refine Calm.pure (v := ?_) (by rfl) ?_ ?_
          rotate_left
          focus (intro w hSw; go_simp <;> rfl)
          simp only [Act.put, List.setIfInBounds_toArray, List.set_cons_zero, List.set_cons_succ]
        all_goals
          refine Calm.pure (v := ?_) (by rfl) ?_ ?_
          rotate_left
          focus (intro w hSw; go_simp <;> rfl)
          simp only [Act.put, List.setIfInBounds_toArray, List.set_cons_zero, List.set_cons_succ]
        all_goals
          refine Calm.pure (v := ?_) (by rfl) ?_ ?_
          rotate_left
          focus (intro w hSw; go_simp <;> rfl)
          simp only [Act.put, List.setIfInBounds_toArray, List.set_cons_zero, List.set_cons_succ]
        all_goals
          refine Calm.pure (v := ?_) (by rfl) ?_ ?_
          rotate_left
          focus (intro w hSw; go_simp <;> rfl)
          simp only [Act.put, List.setIfInBounds_toArray, List.set_cons_zero, List.set_cons_succ]
        all_goals
          refine Calm.pure (v := .int .i64 x.i) (by rfl) ?_ ?_
          focus (intro w hSw; have g1 : w.cell? ⟨g, o + k * 3 + 2, none⟩ = some (.int .i64 x.i) := hSw.1 2 _ rfl; go_simp)
          simp only [Act.put, List.setIfInBounds_toArray, List.set_cons_zero, List.set_cons_succ]
        all_goals
          refine Calm.pure (v := ?_) (by rfl) ?_ ?_
          rotate_left
          focus (intro w hSw; go_simp <;> rfl)
          simp only [Act.put, List.setIfInBounds_toArray, List.set_cons_zero, List.set_cons_succ]
        all_goals
          refine Calm.pure (v := ?_) (by rfl) ?_ ?_
          rotate_left
          focus (intro w hSw; go_simp <;> rfl)
          simp only [Act.put, List.setIfInBounds_toArray, List.set_cons_zero, List.set_cons_succ]
        all_goals
          first
            | (refine Calm.skip ?_ ?_; focus rfl)
            | (refine Calm.pure (v := ?_) (by rfl) ?_ ?_
               rotate_left
               focus (intro w hSw; go_simp <;> rfl))
          simp only [Act.put, List.setIfInBounds_toArray, List.set_cons_zero, List.set_cons_succ]
        all_goals
          first
            | (refine Calm.skip ?_ ?_; focus rfl)
            | (refine Calm.pure (v := ?_) (by rfl) ?_ ?_
               rotate_left
               focus (intro w hSw; go_simp <;> rfl))
          simp only [Act.put, List.setIfInBounds_toArray, List.set_cons_zero, List.set_cons_succ]
        all_goals
          first
            | (refine Calm.skip ?_ ?_; focus rfl)
            | (refine Calm.pure (v := ?_) (by rfl) ?_ ?_
               rotate_left
               focus (intro w hSw; go_simp <;> rfl))
          simp only [Act.put, List.setIfInBounds_toArray, List.set_cons_zero, List.set_cons_succ]
        all_goals
          first
            | (refine Calm.skip ?_ ?_; focus rfl)
            | (refine Calm.pure (v := ?_) (by rfl) ?_ ?_
               rotate_left
               focus (intro w hSw; go_simp <;> rfl))
          simp only [Act.put, List.setIfInBounds_toArray, List.set_cons_zero, List.set_cons_succ]
        all_goals
          first
            | (refine Calm.skip ?_ ?_; focus rfl)
            | (refine Calm.pure (v := ?_) (by rfl) ?_ ?_
               rotate_left
               focus (intro w hSw; go_simp <;> rfl))
          simp only [Act.put, List.setIfInBounds_toArray, List.set_cons_zero, List.set_cons_succ]
        all_goals
          first
            | (refine Calm.skip ?_ ?_; focus rfl)
            | (refine Calm.pure (v := ?_) (by rfl) ?_ ?_
               rotate_left
               focus (intro w hSw; go_simp <;> rfl))
          simp only [Act.put, List.setIfInBounds_toArray, List.set_cons_zero, List.set_cons_succ]
        all_goals
          first
            | (refine Calm.skip ?_ ?_; focus rfl)
            | (refine Calm.pure (v := ?_) (by rfl) ?_ ?_
               rotate_left
               focus (intro w hSw; go_simp <;> rfl))
          simp only [Act.put, List.setIfInBounds_toArray, List.set_cons_zero, List.set_cons_succ]
        all_goals
          first
            | (refine Calm.skip ?_ ?_; focus rfl)
            | (refine Calm.loadM 39 Try.underlying39 rfl zm (by rfl) _ rfl rfl (fun _ h => h.1) ?_)
          simp only [Act.put, List.setIfInBounds_toArray, List.set_cons_zero, List.set_cons_succ]
        all_goals
          first
            | (refine Calm.skip ?_ ?_; focus rfl)
            | (refine Calm.pure (v := ?_) (by rfl) ?_ ?_
               rotate_left
               focus (intro w hSw; go_simp <;> rfl))
          simp only [Act.put, List.setIfInBounds_toArray, List.set_cons_zero, List.set_cons_succ]
        all_goals
          first
            | (refine Calm.skip ?_ ?_; focus rfl)
            | (refine Calm.pure (v := ?_) (by rfl) ?_ ?_
               rotate_left
               focus (intro w hSw; go_simp <;> rfl))
          simp only [Act.put, List.setIfInBounds_toArray, List.set_cons_zero, List.set_cons_succ]
        all_goals
          first
            | (refine Calm.skip ?_ ?_; focus rfl)
            | (refine Calm.pure (v := ?_) (by rfl) ?_ ?_
               rotate_left
               focus (intro w hSw; go_simp <;> rfl))
          simp only [Act.put, List.setIfInBounds_toArray, List.set_cons_zero, List.set_cons_succ]
        all_goals
          first
            | (refine Calm.skip ?_ ?_; focus rfl)
            | (refine Calm.loadM 39 Try.underlying39 rfl zm (by rfl) _ rfl rfl (fun _ h => h.1) ?_)
          simp only [Act.put, List.setIfInBounds_toArray, List.set_cons_zero, List.set_cons_succ]
        all_goals
          first
            | (refine Calm.skip ?_ ?_; focus rfl)
            | (refine Calm.call2s (by rfl) rfl rfl rfl (by kernel_rfl) hs (fun w1 h => refLess_any 0 0 0 0 0 0 w1) ?_)
          simp only [Act.put, List.setIfInBounds_toArray, List.set_cons_zero, List.set_cons_succ]
        all_goals
          first
            | (refine Calm.skip ?_ ?_; focus rfl)
            | (refine Calm.pure (v := ?_) (by rfl) ?_ ?_
               rotate_left
               focus (intro w hSw; go_simp <;> rfl))
          simp only [Act.put, List.setIfInBounds_toArray, List.set_cons_zero, List.set_cons_succ]
        all_goals
          first
            | (refine Calm.skip ?_ ?_; focus rfl)
            | (refine Calm.pure (v := ?_) (by rfl) ?_ ?_
               rotate_left
               focus (intro w hSw; go_simp <;> rfl))
          simp only [Act.put, List.setIfInBounds_toArray, List.set_cons_zero, List.set_cons_succ]
        all_goals
          refine Calm.pure (v := ?_) (by rfl) ?_ ?_
          rotate_left
          focus (intro w hSw; go_simp <;> rfl)
          simp only [Act.put, List.setIfInBounds_toArray, List.set_cons_zero, List.set_cons_succ]
        all_goals
          rintro w9 ⟨_, hbel9⟩
        go_wp2_with fail
        go_ret
        exact ⟨rfl, hbel9⟩
      · have hxd : decide (x.i < 1) = false := by simpa using hxi
        clear hxi
        rcases Nat.eq_zero_or_pos k with rfl | hpos
        · have HV2 : Hid (∀ i (h : i < l.length), i < 0 + 1 → okk l i h = true) := fun i h hi => by
            obtain rfl : i = 0 := by omega
            unfold okk
            rw [HX.out, HY1.out]
            rfl
          go_wp2_with fail
          clear hd HV
          have hs : Calm.Stays (fun w' => w'.rangeAt g (o + 0 * 3) x.cells ∧ Below w.heap.size w w') := fun wa wb h hb => ⟨range_later h.1 hb, below_on h.2 hb⟩
          refine Calm.region (by kernel_rfl) (by kernel_rfl) (fun w' => w'.rangeAt g (o + 0 * 3) x.cells ∧ Below w.heap.size w w') ⟨d, hbel.drew⟩ ?_
          all_goals
            refine Calm.pure (v := ?_) (by rfl) ?_ ?_
            rotate_left
            focus (intro w hSw; go_simp <;> rfl)
            simp only [Act.put, List.setIfInBounds_toArray, List.set_cons_zero, List.set_cons_succ]
          all_goals
            refine Calm.pure (v := ?_) (by rfl) ?_ ?_
            rotate_left
            focus (intro w hSw; go_simp <;> rfl)
            simp only [Act.put, List.setIfInBounds_toArray, List.set_cons_zero, List.set_cons_succ]
          all_goals
            refine Calm.pure (v := ?_) (by rfl) ?_ ?_
            rotate_left
            focus (intro w hSw; go_simp <;> rfl)
            simp only [Act.put, List.setIfInBounds_toArray, List.set_cons_zero, List.set_cons_succ]
          all_goals
            refine Calm.pure (v := ?_) (by rfl) ?_ ?_
            rotate_left
            focus (intro w hSw; go_simp <;> rfl)
            simp only [Act.put, List.setIfInBounds_toArray, List.set_cons_zero, List.set_cons_succ]
          all_goals
            refine Calm.pure (v := .int .i64 x.i) (by rfl) ?_ ?_
            focus (intro w hSw; have g1 : w.cell? ⟨g, o + 0 * 3 + 2, none⟩ = some (.int .i64 x.i) := hSw.1 2 _ rfl; go_simp)
            simp only [Act.put, List.setIfInBounds_toArray, List.set_cons_zero, List.set_cons_succ]
          all_goals
            refine Calm.pure (v := ?_) (by rfl) ?_ ?_
            rotate_left
            focus (intro w hSw; go_simp <;> rfl)
            simp only [Act.put, List.setIfInBounds_toArray, List.set_cons_zero, List.set_cons_succ]
          all_goals
            refine Calm.pure (v := ?_) (by rfl) ?_ ?_
            rotate_left
            focus (intro w hSw; go_simp <;> rfl)
            simp only [Act.put, List.setIfInBounds_toArray, List.set_cons_zero, List.set_cons_succ]
          all_goals
            first
              | (refine Calm.skip ?_ ?_; focus rfl)
              | (refine Calm.pure (v := ?_) (by rfl) ?_ ?_
                 rotate_left
                 focus (intro w hSw; go_simp <;> rfl))
            simp only [Act.put, List.setIfInBounds_toArray, List.set_cons_zero, List.set_cons_succ]
          all_goals
            first
              | (refine Calm.skip ?_ ?_; focus rfl)
              | (refine Calm.pure (v := ?_) (by rfl) ?_ ?_
                 rotate_left
                 focus (intro w hSw; go_simp <;> rfl))
            simp only [Act.put, List.setIfInBounds_toArray, List.set_cons_zero, List.set_cons_succ]
          all_goals
            first
              | (refine Calm.skip ?_ ?_; focus rfl)
              | (refine Calm.pure (v := ?_) (by rfl) ?_ ?_
                 rotate_left
                 focus (intro w hSw; go_simp <;> rfl))
            simp only [Act.put, List.setIfInBounds_toArray, List.set_cons_zero, List.set_cons_succ]
          all_goals
            first
              | (refine Calm.skip ?_ ?_; focus rfl)
              | (refine Calm.pure (v := ?_) (by rfl) ?_ ?_
                 rotate_left
                 focus (intro w hSw; go_simp <;> rfl))
            simp only [Act.put, List.setIfInBounds_toArray, List.set_cons_zero, List.set_cons_succ]
          all_goals
            first
              | (refine Calm.skip ?_ ?_; focus rfl)
              | (refine Calm.pure (v := ?_) (by rfl) ?_ ?_
                 rotate_left
                 focus (intro w hSw; go_simp <;> rfl))
            simp only [Act.put, List.setIfInBounds_toArray, List.set_cons_zero, List.set_cons_succ]
          all_goals
            first
              | (refine Calm.skip ?_ ?_; focus rfl)
              | (refine Calm.pure (v := ?_) (by rfl) ?_ ?_
                 rotate_left
                 focus (intro w hSw; go_simp <;> rfl))
            simp only [Act.put, List.setIfInBounds_toArray, List.set_cons_zero, List.set_cons_succ]
          all_goals
            first
              | (refine Calm.skip ?_ ?_; focus rfl)
              | (refine Calm.pure (v := ?_) (by rfl) ?_ ?_
                 rotate_left
                 focus (intro w hSw; go_simp <;> rfl))
            simp only [Act.put, List.setIfInBounds_toArray, List.set_cons_zero, List.set_cons_succ]
          all_goals
            first
              | (refine Calm.skip ?_ ?_; focus rfl)
              | (refine Calm.loadM 39 Try.underlying39 rfl zm (by rfl) _ rfl rfl (fun _ h => h.1) ?_)
            simp only [Act.put, List.setIfInBounds_toArray, List.set_cons_zero, List.set_cons_succ]
          all_goals
            first
              | (refine Calm.skip ?_ ?_; focus rfl)
              | (refine Calm.pure (v := ?_) (by rfl) ?_ ?_
                 rotate_left
                 focus (intro w hSw; go_simp <;> rfl))
            simp only [Act.put, List.setIfInBounds_toArray, List.set_cons_zero, List.set_cons_succ]
          all_goals
            first
              | (refine Calm.skip ?_ ?_; focus rfl)
              | (refine Calm.pure (v := ?_) (by rfl) ?_ ?_
                 rotate_left
                 focus (intro w hSw; go_simp <;> rfl))
            simp only [Act.put, List.setIfInBounds_toArray, List.set_cons_zero, List.set_cons_succ]
          all_goals
            first
              | (refine Calm.skip ?_ ?_; focus rfl)
              | (refine Calm.pure (v := ?_) (by rfl) ?_ ?_
                 rotate_left
                 focus (intro w hSw; go_simp <;> rfl))
            simp only [Act.put, List.setIfInBounds_toArray, List.set_cons_zero, List.set_cons_succ]
          all_goals
            first
              | (refine Calm.skip ?_ ?_; focus rfl)
              | (refine Calm.loadM 39 Try.underlying39 rfl zm (by rfl) _ rfl rfl (fun _ h => h.1) ?_)
            simp only [Act.put, List.setIfInBounds_toArray, List.set_cons_zero, List.set_cons_succ]
          all_goals
            first
              | (refine Calm.skip ?_ ?_; focus rfl)
              | (refine Calm.call2s (by rfl) rfl rfl rfl (by kernel_rfl) hs (fun w1 h => refLess_any 0 0 0 0 0 0 w1) ?_)
            simp only [Act.put, List.setIfInBounds_toArray, List.set_cons_zero, List.set_cons_succ]
          all_goals
            first
              | (refine Calm.skip ?_ ?_; focus rfl)
              | (refine Calm.pure (v := ?_) (by rfl) ?_ ?_
                 rotate_left
                 focus (intro w hSw; go_simp <;> rfl))
            simp only [Act.put, List.setIfInBounds_toArray, List.set_cons_zero, List.set_cons_succ]
          all_goals
            first
              | (refine Calm.skip ?_ ?_; focus rfl)
              | (refine Calm.pure (v := ?_) (by rfl) ?_ ?_
                 rotate_left
                 focus (intro w hSw; go_simp <;> rfl))
            simp only [Act.put, List.setIfInBounds_toArray, List.set_cons_zero, List.set_cons_succ]
          all_goals
            refine Calm.pure (v := ?_) (by rfl) ?_ ?_
            rotate_left
            focus (intro w hSw; go_simp <;> rfl)
            simp only [Act.put, List.setIfInBounds_toArray, List.set_cons_zero, List.set_cons_succ]
          all_goals
            rintro w9 ⟨_, hbel9⟩
          go_wp2_with fail
          go_roundw
          case rel => exact ⟨0 + 1, by simp, by omega, HV2, hbel9⟩
          case measure => simp [intOf]; omega
        · obtain ⟨m, rfl⟩ : ∃ m, k = m + 1 := ⟨k - 1, by omega⟩
          have d2 := M.elem hd m (by omega)
          obtain ⟨y, HY⟩ := hid_ex (l[m]'(by omega))
          rw [HY.out] at d2
          have zy : (Try.prog.info? 39).map (·.size) = some y.cells.length := size39
          have C2 : ∀ w, Calls Try.prog 24 #[MV y.p y.s y.i, MV x.p x.s x.i] w (Tells (.bool (lt y x)) w) := fun w => refLess_any y.p y.s y.i x.p x.s x.i w
          have hO : okk l (m + 1) hlt = lt y x := by
            unfold okk
            simp only [Nat.add_sub_cancel]
            rw [HX.out, HY1.out, HY.out]
            simp
          have HO : Hid (okk l (m + 1) hlt = lt y x) := hO
          clear hO
          obtain ⟨y2, HY2⟩ := hid_ex (lt y x)
          rw [HY2.out] at C2 HO
          have hw1 : IntKind.i64.wrap (m : Int) = (m : Int) := by rw [IntKind.wrap_i64]; omega
          have hml2 : (m : Int) < (l.length : Int) := by omega
          go_wp2_with fail
          clear hd
          cases y2
          · have HF := ca_not HZ hlt HO.out
            have e := HF.out
            subst e
            clear HZ HF HV
            have hs : Calm.Stays (fun w' => w'.rangeAt g (o + (m + 1) * 3) x.cells ∧ w'.rangeAt g (o + m * 3) y.cells ∧ Below w.heap.size w w') := fun wa wb h hb => ⟨range_later h.1 hb, range_later h.2.1 hb, below_on h.2.2 hb⟩
            refine Calm.region (by kernel_rfl) (by kernel_rfl) (fun w' => w'.rangeAt g (o + (m + 1) * 3) x.cells ∧ w'.rangeAt g (o + m * 3) y.cells ∧ Below w.heap.size w w') ⟨d, d2, hbel.drew⟩ ?_
            all_goals
              refine Calm.pure (v := ?_) (by rfl) ?_ ?_
              rotate_left
              focus (intro w hSw; go_simp <;> rfl)
              simp only [Act.put, List.setIfInBounds_toArray, List.set_cons_zero, List.set_cons_succ]
            all_goals
              refine Calm.pure (v := ?_) (by rfl) ?_ ?_
              rotate_left
              focus (intro w hSw; go_simp <;> rfl)
              simp only [Act.put, List.setIfInBounds_toArray, List.set_cons_zero, List.set_cons_succ]
            all_goals
              refine Calm.pure (v := ?_) (by rfl) ?_ ?_
              rotate_left
              focus (intro w hSw; go_simp <;> rfl)
              simp only [Act.put, List.setIfInBounds_toArray, List.set_cons_zero, List.set_cons_succ]
            all_goals
              refine Calm.pure (v := ?_) (by rfl) ?_ ?_
              rotate_left
              focus (intro w hSw; go_simp <;> rfl)
              simp only [Act.put, List.setIfInBounds_toArray, List.set_cons_zero, List.set_cons_succ]
            all_goals
              refine Calm.pure (v := .int .i64 x.i) (by rfl) ?_ ?_
              focus (intro w hSw; have g1 : w.cell? ⟨g, o + (m + 1) * 3 + 2, none⟩ = some (.int .i64 x.i) := hSw.1 2 _ rfl; go_simp)
              simp only [Act.put, List.setIfInBounds_toArray, List.set_cons_zero, List.set_cons_succ]
            all_goals
              refine Calm.pure (v := ?_) (by rfl) ?_ ?_
              rotate_left
              focus (intro w hSw; go_simp <;> rfl)
              simp only [Act.put, List.setIfInBounds_toArray, List.set_cons_zero, List.set_cons_succ]
            all_goals
              refine Calm.pure (v := ?_) (by rfl) ?_ ?_
              rotate_left
              focus (intro w hSw; go_simp <;> rfl)
              simp only [Act.put, List.setIfInBounds_toArray, List.set_cons_zero, List.set_cons_succ]
            all_goals
              first
                | (refine Calm.skip ?_ ?_; focus rfl)
                | (refine Calm.pure (v := ?_) (by rfl) ?_ ?_
                   rotate_left
                   focus (intro w hSw; go_simp <;> rfl))
              simp only [Act.put, List.setIfInBounds_toArray, List.set_cons_zero, List.set_cons_succ]
            all_goals
              first
                | (refine Calm.skip ?_ ?_; focus rfl)
                | (refine Calm.pure (v := ?_) (by rfl) ?_ ?_
                   rotate_left
                   focus (intro w hSw; go_simp <;> rfl))
              simp only [Act.put, List.setIfInBounds_toArray, List.set_cons_zero, List.set_cons_succ]
            all_goals
              first
                | (refine Calm.skip ?_ ?_; focus rfl)
                | (refine Calm.pure (v := ?_) (by rfl) ?_ ?_
                   rotate_left
                   focus (intro w hSw; go_simp <;> rfl))
              simp only [Act.put, List.setIfInBounds_toArray, List.set_cons_zero, List.set_cons_succ]
            all_goals
              first
                | (refine Calm.skip ?_ ?_; focus rfl)
                | (refine Calm.pure (v := ?_) (by rfl) ?_ ?_
                   rotate_left
                   focus (intro w hSw; go_simp <;> rfl))
              simp only [Act.put, List.setIfInBounds_toArray, List.set_cons_zero, List.set_cons_succ]
            all_goals
              first
                | (refine Calm.skip ?_ ?_; focus rfl)
                | (refine Calm.pure (v := ?_) (by rfl) ?_ ?_
                   rotate_left
                   focus (intro w hSw; go_simp <;> rfl))
              simp only [Act.put, List.setIfInBounds_toArray, List.set_cons_zero, List.set_cons_succ]
            all_goals
              first
                | (refine Calm.skip ?_ ?_; focus rfl)
                | (refine Calm.pure (v := ?_) (by rfl) ?_ ?_
                   rotate_left
                   focus (intro w hSw; go_simp <;> rfl))
              simp only [Act.put, List.setIfInBounds_toArray, List.set_cons_zero, List.set_cons_succ]
            all_goals
              first
                | (refine Calm.skip ?_ ?_; focus rfl)
                | (refine Calm.pure (v := ?_) (by rfl) ?_ ?_
                   rotate_left
                   focus (intro w hSw; go_simp <;> rfl))
              simp only [Act.put, List.setIfInBounds_toArray, List.set_cons_zero, List.set_cons_succ]
            all_goals
              first
                | (refine Calm.skip ?_ ?_; focus rfl)
                | (first | (refine Calm.loadM 39 Try.underlying39 rfl zy (by rfl) _ rfl rfl (fun _ h => h.2.1) ?_) | (refine Calm.loadM 39 Try.underlying39 rfl zm (by rfl) _ rfl rfl (fun _ h => h.1) ?_))
              simp only [Act.put, List.setIfInBounds_toArray, List.set_cons_zero, List.set_cons_succ]
            all_goals
              first
                | (refine Calm.skip ?_ ?_; focus rfl)
                | (refine Calm.pure (v := ?_) (by rfl) ?_ ?_
                   rotate_left
                   focus (intro w hSw; go_simp <;> rfl))
              simp only [Act.put, List.setIfInBounds_toArray, List.set_cons_zero, List.set_cons_succ]
            all_goals
              first
                | (refine Calm.skip ?_ ?_; focus rfl)
                | (refine Calm.pure (v := ?_) (by rfl) ?_ ?_
                   rotate_left
                   focus (intro w hSw; go_simp <;> rfl))
              simp only [Act.put, List.setIfInBounds_toArray, List.set_cons_zero, List.set_cons_succ]
            all_goals
              first
                | (refine Calm.skip ?_ ?_; focus rfl)
                | (refine Calm.pure (v := ?_) (by rfl) ?_ ?_
                   rotate_left
                   focus (intro w hSw; go_simp <;> rfl))
              simp only [Act.put, List.setIfInBounds_toArray, List.set_cons_zero, List.set_cons_succ]
            all_goals
              first
                | (refine Calm.skip ?_ ?_; focus rfl)
                | (first | (refine Calm.loadM 39 Try.underlying39 rfl zy (by rfl) _ rfl rfl (fun _ h => h.2.1) ?_) | (refine Calm.loadM 39 Try.underlying39 rfl zm (by rfl) _ rfl rfl (fun _ h => h.1) ?_))
              simp only [Act.put, List.setIfInBounds_toArray, List.set_cons_zero, List.set_cons_succ]
            all_goals
              first
                | (refine Calm.skip ?_ ?_; focus rfl)
                | (refine Calm.call2s (by rfl) rfl rfl rfl (by kernel_rfl) hs (fun w1 h => C2 w1) ?_)
              simp only [Act.put, List.setIfInBounds_toArray, List.set_cons_zero, List.set_cons_succ]
            all_goals
              first
                | (refine Calm.skip ?_ ?_; focus rfl)
                | (refine Calm.pure (v := ?_) (by rfl) ?_ ?_
                   rotate_left
                   focus (intro w hSw; go_simp <;> rfl))
              simp only [Act.put, List.setIfInBounds_toArray, List.set_cons_zero, List.set_cons_succ]
            all_goals
              first
                | (refine Calm.skip ?_ ?_; focus rfl)
                | (refine Calm.pure (v := ?_) (by rfl) ?_ ?_
                   rotate_left
                   focus (intro w hSw; go_simp <;> rfl))
              simp only [Act.put, List.setIfInBounds_toArray, List.set_cons_zero, List.set_cons_succ]
            all_goals
              refine Calm.pure (v := ?_) (by rfl) ?_ ?_
              rotate_left
              focus (intro w hSw; go_simp <;> rfl)
              simp only [Act.put, List.setIfInBounds_toArray, List.set_cons_zero, List.set_cons_succ]
            all_goals
              rintro w9 ⟨_, _, hbel9⟩
            go_wp2_with fail
            go_ret
            exact ⟨rfl, hbel9⟩
          · have HV2 : Hid (∀ i (h : i < l.length), i < m + 1 + 1 → okk l i h = true) := fun i h hi => by
              rcases Nat.lt_or_ge i (m + 1) with h' | h'
              · exact HV.out i h h'
              · obtain rfl : i = m + 1 := by omega
                exact HO.out
            clear HV HO
            have hs : Calm.Stays (fun w' => w'.rangeAt g (o + (m + 1) * 3) x.cells ∧ w'.rangeAt g (o + m * 3) y.cells ∧ Below w.heap.size w w') := fun wa wb h hb => ⟨range_later h.1 hb, range_later h.2.1 hb, below_on h.2.2 hb⟩
            refine Calm.region (by kernel_rfl) (by kernel_rfl) (fun w' => w'.rangeAt g (o + (m + 1) * 3) x.cells ∧ w'.rangeAt g (o + m * 3) y.cells ∧ Below w.heap.size w w') ⟨d, d2, hbel.drew⟩ ?_
            all_goals
              refine Calm.pure (v := ?_) (by rfl) ?_ ?_
              rotate_left
              focus (intro w hSw; go_simp <;> rfl)
              simp only [Act.put, List.setIfInBounds_toArray, List.set_cons_zero, List.set_cons_succ]
            all_goals
              refine Calm.pure (v := ?_) (by rfl) ?_ ?_
              rotate_left
              focus (intro w hSw; go_simp <;> rfl)
              simp only [Act.put, List.setIfInBounds_toArray, List.set_cons_zero, List.set_cons_succ]
            all_goals
              refine Calm.pure (v := ?_) (by rfl) ?_ ?_
              rotate_left
              focus (intro w hSw; go_simp <;> rfl)
              simp only [Act.put, List.setIfInBounds_toArray, List.set_cons_zero, List.set_cons_succ]
            all_goals
              refine Calm.pure (v := ?_) (by rfl) ?_ ?_
              rotate_left
              focus (intro w hSw; go_simp <;> rfl)
              simp only [Act.put, List.setIfInBounds_toArray, List.set_cons_zero, List.set_cons_succ]
            all_goals
              refine Calm.pure (v := .int .i64 x.i) (by rfl) ?_ ?_
              focus (intro w hSw; have g1 : w.cell? ⟨g, o + (m + 1) * 3 + 2, none⟩ = some (.int .i64 x.i) := hSw.1 2 _ rfl; go_simp)
              simp only [Act.put, List.setIfInBounds_toArray, List.set_cons_zero, List.set_cons_succ]
            all_goals
              refine Calm.pure (v := ?_) (by rfl) ?_ ?_
              rotate_left
              focus (intro w hSw; go_simp <;> rfl)
              simp only [Act.put, List.setIfInBounds_toArray, List.set_cons_zero, List.set_cons_succ]
            all_goals
              refine Calm.pure (v := ?_) (by rfl) ?_ ?_
              rotate_left
              focus (intro w hSw; go_simp <;> rfl)
              simp only [Act.put, List.setIfInBounds_toArray, List.set_cons_zero, List.set_cons_succ]
            all_goals
              first
                | (refine Calm.skip ?_ ?_; focus rfl)
                | (refine Calm.pure (v := ?_) (by rfl) ?_ ?_
                   rotate_left
                   focus (intro w hSw; go_simp <;> rfl))
              simp only [Act.put, List.setIfInBounds_toArray, List.set_cons_zero, List.set_cons_succ]
            all_goals
              first
                | (refine Calm.skip ?_ ?_; focus rfl)
                | (refine Calm.pure (v := ?_) (by rfl) ?_ ?_
                   rotate_left
                   focus (intro w hSw; go_simp <;> rfl))
              simp only [Act.put, List.setIfInBounds_toArray, List.set_cons_zero, List.set_cons_succ]
            all_goals
              first
                | (refine Calm.skip ?_ ?_; focus rfl)
                | (refine Calm.pure (v := ?_) (by rfl) ?_ ?_
                   rotate_left
                   focus (intro w hSw; go_simp <;> rfl))
              simp only [Act.put, List.setIfInBounds_toArray, List.set_cons_zero, List.set_cons_succ]
            all_goals
              first
                | (refine Calm.skip ?_ ?_; focus rfl)
                | (refine Calm.pure (v := ?_) (by rfl) ?_ ?_
                   rotate_left
                   focus (intro w hSw; go_simp <;> rfl))
              simp only [Act.put, List.setIfInBounds_toArray, List.set_cons_zero, List.set_cons_succ]
            all_goals
              first
                | (refine Calm.skip ?_ ?_; focus rfl)
                | (refine Calm.pure (v := ?_) (by rfl) ?_ ?_
                   rotate_left
                   focus (intro w hSw; go_simp <;> rfl))
              simp only [Act.put, List.setIfInBounds_toArray, List.set_cons_zero, List.set_cons_succ]
            all_goals
              first
                | (refine Calm.skip ?_ ?_; focus rfl)
                | (refine Calm.pure (v := ?_) (by rfl) ?_ ?_
                   rotate_left
                   focus (intro w hSw; go_simp <;> rfl))
              simp only [Act.put, List.setIfInBounds_toArray, List.set_cons_zero, List.set_cons_succ]
            all_goals
              first
                | (refine Calm.skip ?_ ?_; focus rfl)
                | (refine Calm.pure (v := ?_) (by rfl) ?_ ?_
                   rotate_left
                   focus (intro w hSw; go_simp <;> rfl))
              simp only [Act.put, List.setIfInBounds_toArray, List.set_cons_zero, List.set_cons_succ]
            all_goals
              first
                | (refine Calm.skip ?_ ?_; focus rfl)
                | (first | (refine Calm.loadM 39 Try.underlying39 rfl zy (by rfl) _ rfl rfl (fun _ h => h.2.1) ?_) | (refine Calm.loadM 39 Try.underlying39 rfl zm (by rfl) _ rfl rfl (fun _ h => h.1) ?_))
              simp only [Act.put, List.setIfInBounds_toArray, List.set_cons_zero, List.set_cons_succ]
            all_goals
              first
                | (refine Calm.skip ?_ ?_; focus rfl)
                | (refine Calm.pure (v := ?_) (by rfl) ?_ ?_
                   rotate_left
                   focus (intro w hSw; go_simp <;> rfl))
              simp only [Act.put, List.setIfInBounds_toArray, List.set_cons_zero, List.set_cons_succ]
            all_goals
              first
                | (refine Calm.skip ?_ ?_; focus rfl)
                | (refine Calm.pure (v := ?_) (by rfl) ?_ ?_
                   rotate_left
                   focus (intro w hSw; go_simp <;> rfl))
              simp only [Act.put, List.setIfInBounds_toArray, List.set_cons_zero, List.set_cons_succ]
            all_goals
              first
                | (refine Calm.skip ?_ ?_; focus rfl)
                | (refine Calm.pure (v := ?_) (by rfl) ?_ ?_
                   rotate_left
                   focus (intro w hSw; go_simp <;> rfl))
              simp only [Act.put, List.setIfInBounds_toArray, List.set_cons_zero, List.set_cons_succ]
            all_goals
              first
                | (refine Calm.skip ?_ ?_; focus rfl)
                | (first | (refine Calm.loadM 39 Try.underlying39 rfl zy (by rfl) _ rfl rfl (fun _ h => h.2.1) ?_) | (refine Calm.loadM 39 Try.underlying39 rfl zm (by rfl) _ rfl rfl (fun _ h => h.1) ?_))
              simp only [Act.put, List.setIfInBounds_toArray, List.set_cons_zero, List.set_cons_succ]
            all_goals
              first
                | (refine Calm.skip ?_ ?_; focus rfl)
                | (refine Calm.call2s (by rfl) rfl rfl rfl (by kernel_rfl) hs (fun w1 h => C2 w1) ?_)
              simp only [Act.put, List.setIfInBounds_toArray, List.set_cons_zero, List.set_cons_succ]
            all_goals
              first
                | (refine Calm.skip ?_ ?_; focus rfl)
                | (refine Calm.pure (v := ?_) (by rfl) ?_ ?_
                   rotate_left
                   focus (intro w hSw; go_simp <;> rfl))
              simp only [Act.put, List.setIfInBounds_toArray, List.set_cons_zero, List.set_cons_succ]
            all_goals
              first
                | (refine Calm.skip ?_ ?_; focus rfl)
                | (refine Calm.pure (v := ?_) (by rfl) ?_ ?_
                   rotate_left
                   focus (intro w hSw; go_simp <;> rfl))
              simp only [Act.put, List.setIfInBounds_toArray, List.set_cons_zero, List.set_cons_succ]
            all_goals
              refine Calm.pure (v := ?_) (by rfl) ?_ ?_
              rotate_left
              focus (intro w hSw; go_simp <;> rfl)
              simp only [Act.put, List.setIfInBounds_toArray, List.set_cons_zero, List.set_cons_succ]
            all_goals
              rintro w9 ⟨_, _, hbel9⟩
            go_wp2_with fail
            go_roundw
            case rel => exact ⟨m + 1 + 1, by simp, by omega, HV2, hbel9⟩
            case measure => simp [intOf]; omega
    · have hlt' : ¬ (k : Int) < (l.length : Int) := by omega
      have e := HZ.out
      rw [(ca_iff l).2 (fun i h => HV.out i h (by omega))] at e
      subst e
      clear HZ HV HR
      go_wp2_with fail
      go_ret
      exact ⟨rfl, hbel⟩
end Go.Proofs.Ytfjpbmdmkcihcaa
/- Place of the document's answer. -/
namespace Go.Proofs.Ytfjpbmdmkcihcaa
open Go.RowKit

/-- Where one of that mark stands; -1: nowhere. -/
def plI (l : List El) (m : K) : Int := match pl l m with
  | some k => (k : Int)
  | none => -1
theorem km_eq (y : El) (m : M) : decide (kE y = kM m) = (decide (y.p = m.p) && decide (y.s = m.s) && decide (y.i = m.i)) := by
  unfold kE kM
  by_cases h1 : y.p = m.p <;> by_cases h2 : y.s = m.s <;> by_cases h3 : y.i = m.i <;> simp [h1, h2, h3]
theorem pl_first {l : List El} {m : K} {k : Nat} (hk : k < l.length) (h : ∀ i (_ : i < l.length), i < k → kE l[i] ≠ m) (e : kE l[k] = m) : pl l m = some k := by
  unfold pl
  rw [List.findIdx?_eq_some_iff_getElem]
  exact ⟨hk, by simpa using e, fun j hj => by simpa using h j (by omega) hj⟩
set_option maxHeartbeats 2000000 in
set_option maxRecDepth 100000 in
theorem place_any (v : Value) (l : List El) (m : M) (w : World) (h : EHas w v l) : Calls Try.prog 16 #[v, MV m.p m.s m.i] w (Tells (.int .i64 (plI l (kM m))) w) := by
  obtain ⟨z, HZ⟩ := hid_ex (plI l (kM m))
  rw [HZ.out]
  obtain ⟨ys, hys, h, hy⟩ := h
  have hml := maxLen_lt h.1
  obtain ⟨p, c, rfl⟩ := h.slice
  have hyl : ys.length = l.length := by rw [← hys, List.length_map]
  have HR : Hid (SHas 9 w (.slice p l.length c) l.length (rows El.cells ys)) := h
  have HL : Hid (∀ k (h1 : k < ys.length) (h2 : k < l.length), ys[k].1 = l[k]) := fun k h1 h2 => by
    subst hys
    rw [List.getElem_map]
  clear h hy hys
  have R0 := rw_new w 39 #[.int .i64 m.p, .int .i64 m.s, .int .i64 m.i]
  have db0 : (w.alloc (.cells #[.int .i64 m.p, .int .i64 m.s, .int .i64 m.i] 39)).rangeAt w.heap.size 0 [Value.int .i64 m.p, .int .i64 m.s, .int .i64 m.i] := Rw.whole R0
  have hb0 := bel_alloc (Below.refl w.heap.size w) (.cells #[.int .i64 m.p, .int .i64 m.s, .int .i64 m.i] 39)
  have zm : (Try.prog.info? 39).map (·.size) = some [Value.int .i64 m.p, .int .i64 m.s, .int .i64 m.i].length := size39
  go_enter Try.func16, Try.ntmps16
  go_wp2_with fail
  go_loopw [5] (fun vi wr => ∃ k : Nat, vi = .int .i64 k ∧ k ≤ l.length ∧ Hid (∀ i (h : i < l.length), i < k → kE l[i] ≠ kM m) ∧ wr.rangeAt w.heap.size 0 [Value.int .i64 m.p, .int .i64 m.s, .int .i64 m.i] ∧ Below w.heap.size w wr) (fun vi _ => l.length - (intOf vi).toNat)
  case atStart => exact ⟨0, rfl, by omega, (show ∀ i (_ : i < l.length), i < 0 → _ from fun i _ h => by omega), db0, hb0⟩
  case round =>
    obtain ⟨k, rfl, hk, HV, db, hbel⟩ := hrel
    by_cases hlt : k < l.length
    · have hlt' : (k : Int) < (l.length : Int) := by omega
      obtain ⟨g, o, rfl, hd0⟩ := HR.out.at (by omega)
      have d0 : wr.rangeAt g (o + k * 9) (El.cells (ys[k]'(by omega))) := range_sub (range_later hd0 hbel) (k * 9) fun j u hu => rows_at El.len ys k (by omega) j u hu
      obtain ⟨yy, HX⟩ := hid_ex (ys[k]'(by omega))
      have HX2 : Hid (l[k] = yy.1) := by
        show _ = _
        rw [← HL.out k (by omega) hlt, HX.out]
      rw [HX.out] at d0
      obtain ⟨y, yv⟩ := yy
      replace HX2 : Hid (l[k] = y) := HX2
      have d : wr.rangeAt g (o + k * 9) [Value.int .i64 y.p, .int .i64 y.s, .int .i64 y.i] := range_sub (o := o + k * 9) (xs := El.cells (y, yv)) d0 0 (fun j a ha => by
        rw [Nat.zero_add]
        match j, ha with
        | 0, h => exact h
        | 1, h => exact h
        | 2, h => exact h
        | j + 3, h => simp at h)
      have zu : (Try.prog.info? 39).map (·.size) = some [Value.int .i64 y.p, .int .i64 y.s, .int .i64 y.i].length := size39
      clear hd0 HR HX d0
      have E := fun w => eq_mark w y.p y.s y.i m.p m.s m.i
      obtain ⟨t, HT⟩ := hid_ex (decide (kE y = kM m))
      rw [show (decide (y.p = m.p) && decide (y.s = m.s) && decide (y.i = m.i)) = t from (km_eq _ _).symm.trans HT.out] at E
      cases t
      · have HV2 : Hid (∀ i (h : i < l.length), i < k + 1 → kE l[i] ≠ kM m) := fun i h hi => by
          rcases Nat.lt_or_ge i k with h' | h'
          · exact HV.out i h h'
          · obtain rfl : i = k := by omega
            rw [HX2.out]
            simpa using HT.out
        clear HV HX2 HT HZ
        go_wp2_with fail
        have hs : Calm.Stays (fun w' => w'.rangeAt g (o + k * 9) [Value.int .i64 y.p, .int .i64 y.s, .int .i64 y.i] ∧ w'.rangeAt w.heap.size 0 [Value.int .i64 m.p, .int .i64 m.s, .int .i64 m.i] ∧ Below w.heap.size w w') := fun wa wb h hb => ⟨range_later h.1 hb, range_later h.2.1 hb, below_on h.2.2 hb⟩
        refine Calm.region (by kernel_rfl) (by kernel_rfl) (fun w' => w'.rangeAt g (o + k * 9) [Value.int .i64 y.p, .int .i64 y.s, .int .i64 y.i] ∧ w'.rangeAt w.heap.size 0 [Value.int .i64 m.p, .int .i64 m.s, .int .i64 m.i] ∧ Below w.heap.size w w') ⟨d, db, hbel.drew⟩ ?_
        all_goals
          refine Calm.pure (v := ?_) (by rfl) ?_ ?_
          rotate_left
          focus (intro w hSw; go_simp <;> rfl)
          simp only [Act.put, List.setIfInBounds_toArray, List.set_cons_zero, List.set_cons_succ]
        all_goals
          refine Calm.pure (v := ?_) (by rfl) ?_ ?_
          rotate_left
          focus (intro w hSw; go_simp <;> rfl)
          simp only [Act.put, List.setIfInBounds_toArray, List.set_cons_zero, List.set_cons_succ]
        all_goals
          refine Calm.pure (v := ?_) (by rfl) ?_ ?_
          rotate_left
          focus (intro w hSw; go_simp <;> rfl)
          simp only [Act.put, List.setIfInBounds_toArray, List.set_cons_zero, List.set_cons_succ]
        all_goals
          refine Calm.pure (v := ?_) (by rfl) ?_ ?_
          rotate_left
          focus (intro w hSw; go_simp <;> rfl)
          simp only [Act.put, List.setIfInBounds_toArray, List.set_cons_zero, List.set_cons_succ]
        all_goals
          first | (refine Calm.loadM 39 Try.underlying39 rfl zu (by rfl) _ rfl rfl (fun _ h => h.1) ?_) | (refine Calm.loadM 39 Try.underlying39 rfl zm (by rfl) _ rfl rfl (fun _ h => h.2.1) ?_)
          simp only [Act.put, List.setIfInBounds_toArray, List.set_cons_zero, List.set_cons_succ]
        all_goals
          first | (refine Calm.loadM 39 Try.underlying39 rfl zu (by rfl) _ rfl rfl (fun _ h => h.1) ?_) | (refine Calm.loadM 39 Try.underlying39 rfl zm (by rfl) _ rfl rfl (fun _ h => h.2.1) ?_)
          simp only [Act.put, List.setIfInBounds_toArray, List.set_cons_zero, List.set_cons_succ]
        all_goals
          refine Calm.pure (v := ?_) (by rfl) ?_ ?_
          rotate_left
          focus (intro w hSw; go_simp <;> rfl)
          simp only [Act.put, List.setIfInBounds_toArray, List.set_cons_zero, List.set_cons_succ]
        all_goals
          rintro w9 ⟨_, db9, hbel9⟩
        go_wp2_with fail
        go_roundw
        case rel => exact ⟨k + 1, by simp, by omega, HV2, db9, hbel9⟩
        case measure => simp [intOf]; omega
      · have e := HZ.out
        unfold plI at e
        rw [pl_first hlt HV.out (by rw [HX2.out]; simpa using HT.out)] at e
        replace e : (k : Int) = z := e
        subst e
        clear HV HX2 HT HZ
        go_wp2_with fail
        have hs : Calm.Stays (fun w' => w'.rangeAt g (o + k * 9) [Value.int .i64 y.p, .int .i64 y.s, .int .i64 y.i] ∧ w'.rangeAt w.heap.size 0 [Value.int .i64 m.p, .int .i64 m.s, .int .i64 m.i] ∧ Below w.heap.size w w') := fun wa wb h hb => ⟨range_later h.1 hb, range_later h.2.1 hb, below_on h.2.2 hb⟩
        refine Calm.region (by kernel_rfl) (by kernel_rfl) (fun w' => w'.rangeAt g (o + k * 9) [Value.int .i64 y.p, .int .i64 y.s, .int .i64 y.i] ∧ w'.rangeAt w.heap.size 0 [Value.int .i64 m.p, .int .i64 m.s, .int .i64 m.i] ∧ Below w.heap.size w w') ⟨d, db, hbel.drew⟩ ?_
        all_goals
          refine Calm.pure (v := ?_) (by rfl) ?_ ?_
          rotate_left
          focus (intro w hSw; go_simp <;> rfl)
          simp only [Act.put, List.setIfInBounds_toArray, List.set_cons_zero, List.set_cons_succ]
        all_goals
          refine Calm.pure (v := ?_) (by rfl) ?_ ?_
          rotate_left
          focus (intro w hSw; go_simp <;> rfl)
          simp only [Act.put, List.setIfInBounds_toArray, List.set_cons_zero, List.set_cons_succ]
        all_goals
          refine Calm.pure (v := ?_) (by rfl) ?_ ?_
          rotate_left
          focus (intro w hSw; go_simp <;> rfl)
          simp only [Act.put, List.setIfInBounds_toArray, List.set_cons_zero, List.set_cons_succ]
        all_goals
          refine Calm.pure (v := ?_) (by rfl) ?_ ?_
          rotate_left
          focus (intro w hSw; go_simp <;> rfl)
          simp only [Act.put, List.setIfInBounds_toArray, List.set_cons_zero, List.set_cons_succ]
        all_goals
          first | (refine Calm.loadM 39 Try.underlying39 rfl zu (by rfl) _ rfl rfl (fun _ h => h.1) ?_) | (refine Calm.loadM 39 Try.underlying39 rfl zm (by rfl) _ rfl rfl (fun _ h => h.2.1) ?_)
          simp only [Act.put, List.setIfInBounds_toArray, List.set_cons_zero, List.set_cons_succ]
        all_goals
          first | (refine Calm.loadM 39 Try.underlying39 rfl zu (by rfl) _ rfl rfl (fun _ h => h.1) ?_) | (refine Calm.loadM 39 Try.underlying39 rfl zm (by rfl) _ rfl rfl (fun _ h => h.2.1) ?_)
          simp only [Act.put, List.setIfInBounds_toArray, List.set_cons_zero, List.set_cons_succ]
        all_goals
          refine Calm.pure (v := ?_) (by rfl) ?_ ?_
          rotate_left
          focus (intro w hSw; go_simp <;> rfl)
          simp only [Act.put, List.setIfInBounds_toArray, List.set_cons_zero, List.set_cons_succ]
        all_goals
          rintro w9 ⟨_, _, hbel9⟩
        go_wp2_with fail
        go_ret
        exact ⟨rfl, hbel9⟩
    · have hlt' : ¬ (k : Int) < (l.length : Int) := by omega
      have e := HZ.out
      unfold plI at e
      rw [pl_none.2 (fun x hx => by
        obtain ⟨i, hi, rfl⟩ := List.getElem_of_mem hx
        exact HV.out i hi (by omega))] at e
      replace e : (-1 : Int) = z := e
      subst e
      clear HZ HV HR HL
      go_wp2_with fail
      go_ret
      exact ⟨rfl, hbel⟩
end Go.Proofs.Ytfjpbmdmkcihcaa
/- ends of the document's answer. -/
namespace Go.Proofs.Ytfjpbmdmkcihcaa
open Go.RowKit

/-- Does one come to the zero Ref from place i, by so many steps? -/
def en (l : List El) : Nat → Nat → Bool
  | 0, _ => false
  | f + 1, i => match l[i]? with
    | none => false
    | some e => decide (rE e = zK) || (match pl l (rE e) with
      | none => false
      | some j => en l f j)
theorem en_succ {l : List El} {f i : Nat} (hi : i < l.length) : en l (f + 1) i = (decide (rE l[i] = zK) || (match pl l (rE l[i]) with
      | none => false
      | some j => en l f j)) := by
  rw [en, List.getElem?_eq_getElem hi]
theorem en_rt {l : List El} : ∀ (f i : Nat), i < l.length → en l f i = true → rt (upL l) (i + 1)
  | 0, _, _, h => by simp [en] at h
  | f + 1, i, hi, h => by
    rw [en_succ hi] at h
    refine rt_up ?_
    rw [upL_succ hi]
    by_cases hz : rE l[i] = zK
    · rw [if_pos hz]
      exact rt_zero
    · rw [if_neg hz]
      rw [decide_eq_false hz, Bool.false_or] at h
      cases e : pl l (rE l[i]) with
      | none => exact rt_zero
      | some j =>
        rw [e] at h
        exact en_rt f j (pl_some e).1 h
theorem en_of {l : List El} (hok : okR l = true) : ∀ (j f i : Nat), i < l.length → j ≤ f → it (upL l) j (i + 1) = 0 → en l f i = true
  | 0, _, i, _, _, h => by simp [it] at h
  | j + 1, 0, _, _, h, _ => by omega
  | j + 1, f + 1, i, hi, hj, h => by
    rw [en_succ hi]
    by_cases hz : rE l[i] = zK
    · simp [hz]
    · rcases okR_iff.1 hok _ (List.getElem_mem hi) with h' | ⟨a, e⟩
      · exact absurd h' hz
      · rw [decide_eq_false hz, e, Bool.false_or]
        refine en_of hok j f a (pl_some e).1 (by omega) ?_
        rw [it, upL_succ hi, if_neg hz, e] at h
        exact h
theorem en_cr (l : List El) : cr l = true ↔ ∀ i, i < l.length → en l (l.length + 1) i = true := by
  constructor
  · intro h i hi
    obtain ⟨h1, h2⟩ := Bool.and_eq_true_iff.1 h
    obtain ⟨j, hj, e⟩ := rt_soon (f := upL l) (fun k _ => upL_le l k) (show i + 1 ≤ l.length by omega) (noR_iff.1 h2 _ (by omega))
    exact en_of h1 j _ i hi (by omega) e
  · intro h
    refine Bool.and_eq_true_iff.2 ⟨?_, ?_⟩
    · rw [okR_iff]
      intro e he
      obtain ⟨i, hi, rfl⟩ := List.getElem_of_mem he
      have := h i hi
      rw [en_succ hi] at this
      by_cases hz : rE l[i] = zK
      · exact Or.inl hz
      · refine Or.inr ?_
        cases e : pl l (rE l[i]) with
        | none =>
          rw [decide_eq_false hz, e] at this
          cases this
        | some j => exact ⟨j, rfl⟩
    · rw [noR_iff]
      intro k hk
      cases k with
      | zero => exact rt_zero
      | succ k => exact en_rt _ k (by omega) (h k (by omega))
set_option maxHeartbeats 2000000 in
set_option maxRecDepth 100000 in
theorem ends_any (v : Value) (l : List El) (i0 : Nat) (w : World) (h : EHas w v l) (hl : l.length ≤ 100) (hi0 : i0 < l.length) : Calls Try.prog 25 #[v, .int .i64 i0] w (Tells (.bool (en l (l.length + 1) i0)) w) := by
  obtain ⟨z, HZ⟩ := hid_ex (en l (l.length + 1) i0)
  rw [HZ.out]
  have HE : Hid (EHas w v l) := h
  obtain ⟨ys, hys, h, hy⟩ := h
  have hml := maxLen_lt h.1
  obtain ⟨p, c, rfl⟩ := h.slice
  have hyl : ys.length = l.length := by rw [← hys, List.length_map]
  have HR : Hid (SHas 9 w (.slice p l.length c) l.length (rows El.cells ys)) := h
  have HL : Hid (∀ k (h1 : k < ys.length) (h2 : k < l.length), ys[k].1 = l[k]) := fun k h1 h2 => by
    subst hys
    rw [List.getElem_map]
  clear h hy hys
  have R0 := rw_new w 39 #[.int .i64 0, .int .i64 0, .int .i64 0]
  have db0 : (w.alloc (.cells #[.int .i64 0, .int .i64 0, .int .i64 0] 39)).rangeAt w.heap.size 0 [Value.int .i64 0, .int .i64 0, .int .i64 0] := Rw.whole R0
  have hb0 := bel_alloc (Below.refl w.heap.size w) (.cells #[.int .i64 0, .int .i64 0, .int .i64 0] 39)
  have zm : (Try.prog.info? 39).map (·.size) = some [Value.int .i64 0, .int .i64 0, .int .i64 0].length := size39
  go_enter Try.func25, Try.ntmps25
  go_wp2_with fail
  go_loopw [1, 6] (fun v1 vi wr => ∃ i k : Nat, v1 = .int .i64 i ∧ vi = .int .i64 k ∧ i < l.length ∧ k ≤ l.length + 1 ∧ Hid (en l (l.length + 1 - k) i = z) ∧ wr.rangeAt w.heap.size 0 [Value.int .i64 0, .int .i64 0, .int .i64 0] ∧ Below w.heap.size w wr) (fun _ vi _ => l.length + 1 - (intOf vi).toNat)
  case atStart => exact ⟨i0, 0, rfl, rfl, hi0, by omega, HZ, db0, hb0⟩
  case round =>
    clear HZ hi0 i0 db0 hb0 R0
    obtain ⟨i, k, rfl, rfl, hi, hk, HZ, db, hbel⟩ := hrel
    by_cases hlt : k ≤ l.length
    · have hlt' : (k : Int) ≤ (l.length : Int) := by omega
      have hi' : (i : Int) < (l.length : Int) := by omega
      have hi2 : (0 : Int) ≤ (i : Int) := by omega
      obtain ⟨g, o, rfl, hd0⟩ := HR.out.at (by omega)
      have d0 : wr.rangeAt g (o + i * 9) (El.cells (ys[i]'(by omega))) := range_sub (range_later hd0 hbel) (i * 9) fun j u hu => rows_at El.len ys i (by omega) j u hu
      obtain ⟨yy, HX⟩ := hid_ex (ys[i]'(by omega))
      have HX2 : Hid (l[i] = yy.1) := by
        show _ = _
        rw [← HL.out i (by omega) hi, HX.out]
      rw [HX.out] at d0
      obtain ⟨y, yv⟩ := yy
      replace HX2 : Hid (l[i] = y) := HX2
      have d : wr.rangeAt g (o + i * 9 + 4) [Value.int .i64 y.q, .int .i64 y.u, .int .i64 y.j] := range_sub (o := o + i * 9) (xs := El.cells (y, yv)) d0 4 (fun j a ha => by
        match j, ha with
        | 0, h => exact h
        | 1, h => exact h
        | 2, h => exact h
        | j + 3, h => simp at h)
      have zu : (Try.prog.info? 39).map (·.size) = some [Value.int .i64 y.q, .int .i64 y.u, .int .i64 y.j].length := size39
      clear hd0 HX d0 HR HL
      have E := fun w => eq_mark w y.q y.u y.j 0 0 0
      obtain ⟨t, HT⟩ := hid_ex (decide (rE y = zK))
      rw [show (decide (y.q = 0) && decide (y.u = 0) && decide (y.j = 0)) = t from (kz_eq _ _ _).symm.trans HT.out] at E
      obtain ⟨f, hf⟩ : ∃ f, l.length + 1 - k = f + 1 := ⟨l.length - k, by omega⟩
      have hf2 : l.length + 1 - (k + 1) = f := by omega
      have HZ2 : Hid ((t || (match pl l (rE y) with
        | none => false
        | some j => en l f j)) = z) := by
        show _ = _
        rw [← HZ.out, hf, en_succ hi, HX2.out, HT.out]
      clear HZ
      cases t
      · have HK : Hid (rE y ≠ zK) := by
          show _ ≠ _
          simpa using HT.out
        have C1 : ∀ wa, Below w.heap.size w wa → Calls Try.prog 16 #[.slice (some ⟨g, o, none⟩) l.length c, MV y.q y.u y.j] wa (Tells (.int .i64 (plI l (rE y))) wa) := fun wa hb => place_any _ l (rM y) wa (HE.out.later hb)
        clear HX2 HT
        go_wp2_with fail
        have hs : Calm.Stays (fun w' => w'.rangeAt g (o + i * 9 + 4) [Value.int .i64 y.q, .int .i64 y.u, .int .i64 y.j] ∧ w'.rangeAt w.heap.size 0 [Value.int .i64 0, .int .i64 0, .int .i64 0] ∧ Below w.heap.size w w') := fun wa wb h hb => ⟨range_later h.1 hb, range_later h.2.1 hb, below_on h.2.2 hb⟩
        refine Calm.region (by kernel_rfl) (by kernel_rfl) (fun w' => w'.rangeAt g (o + i * 9 + 4) [Value.int .i64 y.q, .int .i64 y.u, .int .i64 y.j] ∧ w'.rangeAt w.heap.size 0 [Value.int .i64 0, .int .i64 0, .int .i64 0] ∧ Below w.heap.size w w') ⟨d, db, hbel.drew⟩ ?_
        all_goals
          refine Calm.pure (v := ?_) (by rfl) ?_ ?_
          rotate_left
          focus (intro w hSw; go_simp <;> rfl)
          simp only [Act.put, List.setIfInBounds_toArray, List.set_cons_zero, List.set_cons_succ]
        all_goals
          refine Calm.pure (v := ?_) (by rfl) ?_ ?_
          rotate_left
          focus (intro w hSw; go_simp <;> rfl)
          simp only [Act.put, List.setIfInBounds_toArray, List.set_cons_zero, List.set_cons_succ]
        all_goals
          refine Calm.pure (v := ?_) (by rfl) ?_ ?_
          rotate_left
          focus (intro w hSw; go_simp <;> rfl)
          simp only [Act.put, List.setIfInBounds_toArray, List.set_cons_zero, List.set_cons_succ]
        all_goals
          refine Calm.pure (v := ?_) (by rfl) ?_ ?_
          rotate_left
          focus (intro w hSw; go_simp <;> rfl)
          simp only [Act.put, List.setIfInBounds_toArray, List.set_cons_zero, List.set_cons_succ]
        all_goals
          first | (refine Calm.loadM 39 Try.underlying39 rfl zu (by rfl) _ rfl rfl (fun _ h => h.1) ?_) | (refine Calm.loadM 39 Try.underlying39 rfl zm (by rfl) _ rfl rfl (fun _ h => h.2.1) ?_)
          simp only [Act.put, List.setIfInBounds_toArray, List.set_cons_zero, List.set_cons_succ]
        all_goals
          first | (refine Calm.loadM 39 Try.underlying39 rfl zu (by rfl) _ rfl rfl (fun _ h => h.1) ?_) | (refine Calm.loadM 39 Try.underlying39 rfl zm (by rfl) _ rfl rfl (fun _ h => h.2.1) ?_)
          simp only [Act.put, List.setIfInBounds_toArray, List.set_cons_zero, List.set_cons_succ]
        all_goals
          refine Calm.pure (v := ?_) (by rfl) ?_ ?_
          rotate_left
          focus (intro w hSw; go_simp <;> rfl)
          simp only [Act.put, List.setIfInBounds_toArray, List.set_cons_zero, List.set_cons_succ]
        all_goals
          rintro w9 ⟨d9, db9, hbel9⟩
        go_wp2_with (refine load_m 39 _ rfl rfl _ _ rfl d9 Try.underlying39 rfl zu ?_)
        refine (C1 _ hbel9).mono ?_
        rintro e w2 ⟨rfl, hb2⟩
        replace hbel9 := below_on hbel9 hb2
        replace db9 := range_later db9 hb2
        cases e : pl l (rE y) with
        | none =>
          have e2 := HZ2.out
          rw [e] at e2
          replace e2 : false = z := e2
          subst e2
          rw [show plI l (rE y) = -1 by unfold plI; rw [e]]
          clear HZ2 e HK C1
          go_wp2_with fail
          go_ret
          exact ⟨rfl, hbel9⟩
        | some j =>
          have e2 := HZ2.out
          rw [e] at e2
          replace e2 : en l f j = z := e2
          have hj := (pl_some e).1
          have HZ3 : Hid (en l (l.length + 1 - (k + 1)) j = z) := by
            show _ = _
            rw [hf2, e2]
          rw [show plI l (rE y) = (j : Int) by unfold plI; rw [e]]
          have hj0 : ¬ (j : Int) < 0 := by omega
          have wk : IntKind.i64.wrap ((k : Int) + 1) = (k : Int) + 1 := by rw [IntKind.wrap_i64]; omega
          clear HZ2 e HK C1 e2 hf hf2
          go_wp2_with fail
          go_roundw
          case rel => exact ⟨j, k + 1, rfl, by simp, hj, by omega, HZ3, db9, hbel9⟩
          case measure => simp [intOf]; omega
      · have e := HZ2.out
        rw [Bool.true_or] at e
        subst e
        clear HZ2 HX2 HT HE
        go_wp2_with fail
        have hs : Calm.Stays (fun w' => w'.rangeAt g (o + i * 9 + 4) [Value.int .i64 y.q, .int .i64 y.u, .int .i64 y.j] ∧ w'.rangeAt w.heap.size 0 [Value.int .i64 0, .int .i64 0, .int .i64 0] ∧ Below w.heap.size w w') := fun wa wb h hb => ⟨range_later h.1 hb, range_later h.2.1 hb, below_on h.2.2 hb⟩
        refine Calm.region (by kernel_rfl) (by kernel_rfl) (fun w' => w'.rangeAt g (o + i * 9 + 4) [Value.int .i64 y.q, .int .i64 y.u, .int .i64 y.j] ∧ w'.rangeAt w.heap.size 0 [Value.int .i64 0, .int .i64 0, .int .i64 0] ∧ Below w.heap.size w w') ⟨d, db, hbel.drew⟩ ?_
        all_goals
          refine Calm.pure (v := ?_) (by rfl) ?_ ?_
          rotate_left
          focus (intro w hSw; go_simp <;> rfl)
          simp only [Act.put, List.setIfInBounds_toArray, List.set_cons_zero, List.set_cons_succ]
        all_goals
          refine Calm.pure (v := ?_) (by rfl) ?_ ?_
          rotate_left
          focus (intro w hSw; go_simp <;> rfl)
          simp only [Act.put, List.setIfInBounds_toArray, List.set_cons_zero, List.set_cons_succ]
        all_goals
          refine Calm.pure (v := ?_) (by rfl) ?_ ?_
          rotate_left
          focus (intro w hSw; go_simp <;> rfl)
          simp only [Act.put, List.setIfInBounds_toArray, List.set_cons_zero, List.set_cons_succ]
        all_goals
          refine Calm.pure (v := ?_) (by rfl) ?_ ?_
          rotate_left
          focus (intro w hSw; go_simp <;> rfl)
          simp only [Act.put, List.setIfInBounds_toArray, List.set_cons_zero, List.set_cons_succ]
        all_goals
          first | (refine Calm.loadM 39 Try.underlying39 rfl zu (by rfl) _ rfl rfl (fun _ h => h.1) ?_) | (refine Calm.loadM 39 Try.underlying39 rfl zm (by rfl) _ rfl rfl (fun _ h => h.2.1) ?_)
          simp only [Act.put, List.setIfInBounds_toArray, List.set_cons_zero, List.set_cons_succ]
        all_goals
          first | (refine Calm.loadM 39 Try.underlying39 rfl zu (by rfl) _ rfl rfl (fun _ h => h.1) ?_) | (refine Calm.loadM 39 Try.underlying39 rfl zm (by rfl) _ rfl rfl (fun _ h => h.2.1) ?_)
          simp only [Act.put, List.setIfInBounds_toArray, List.set_cons_zero, List.set_cons_succ]
        all_goals
          refine Calm.pure (v := ?_) (by rfl) ?_ ?_
          rotate_left
          focus (intro w hSw; go_simp <;> rfl)
          simp only [Act.put, List.setIfInBounds_toArray, List.set_cons_zero, List.set_cons_succ]
        all_goals
          rintro w9 ⟨_, _, hbel9⟩
        go_wp2_with fail
        go_ret
        exact ⟨rfl, hbel9⟩
    · have hlt' : ¬ (k : Int) ≤ (l.length : Int) := by omega
      have e := HZ.out
      rw [show l.length + 1 - k = 0 by omega] at e
      replace e : false = z := e
      subst e
      clear HZ HR HL HE
      go_wp2_with fail
      go_ret
      exact ⟨rfl, hbel⟩
end Go.Proofs.Ytfjpbmdmkcihcaa
