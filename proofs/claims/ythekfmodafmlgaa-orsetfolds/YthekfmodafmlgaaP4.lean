import Derived.Test.YthekfmodafmlgaaP3
import Derived.Test.YthekfmodafmlgaaP2
import Derived.Sort.KeysCollected
/- checkMarks of package orset. -/
namespace Go.Proofs.Ythekfmodafmlgaa
open Go.RowKit

theorem Calm.loadM {ops : Array Oper} {S : World → Prop} {K : Act → Prop} {o : Oper} {l : List Oper} {a : Act} {b f : Nat} {cs : List Value} (t : TypeId) {d : TypeDesc} (hu : Try.prog.underlying t = some d) (hd : d.isRow = true) (hi : (Try.prog.info? t).map (·.size) = some cs.length) (hw : Region.wanted o (yielded ops a.tmps) = true) (x : Operand) (ho : o.op = .load t x)
    (hx : a.eval x = .pointer (some ⟨b, f, none⟩)) (hS : ∀ w, S w → w.rangeAt b f cs) (h : Calm.calmList Try.prog ops S K l (a.put o.dst (.agg cs.toArray))) : Calm.calmList Try.prog ops S K (o :: l) a :=
  Calm.pure hw (fun w hw' => by
    have h2 := run_loadVar_mid (P := Try.prog) w b f t cs d (hS w hw') hu hd hi
    unfold execOp
    simp only [ho, hx, Instr.loadAt, Instr.sureAddr, Sem.run_bind, Sem.run_pure, h2, Result.andThen_ok]) h
set_option maxHeartbeats 2000000 in
set_option maxRecDepth 100000 in
theorem checkMarks_any (v : Value) (l : List M) (w : World) (h : MHas w v l) : Calls Try.prog 62 #[v] w (Tells (.bool (ca l)) w) := by
  obtain ⟨z, HZ⟩ := hid_ex (ca l)
  rw [HZ.out]
  have hml := maxLen_lt h.1
  obtain ⟨p, c, rfl⟩ := h.slice
  have HR : Hid (MHas w (.slice p l.length c) l) := h
  clear h
  go_enter Try.func62, Try.ntmps62
  go_wp2
  go_loopw [7] (fun vi wr => ∃ k : Nat, vi = .int .i64 k ∧ k ≤ l.length ∧ Hid (∀ i (h : i < l.length), i < k → okk l i h = true) ∧ Below w.heap.size w wr) (fun vi _ => l.length - (intOf vi).toNat)
  case atStart => exact ⟨0, rfl, by omega, (show ∀ i (_ : i < l.length), i < 0 → _ from fun i _ h => by omega), Below.refl _ _⟩
  case round =>
    obtain ⟨k, rfl, hk, HV, hbel⟩ := hrel
    by_cases hlt : k < l.length
    · have hlt' : (k : Int) < (l.length : Int) := by omega
      obtain ⟨g, o, rfl, hd0⟩ := HR.out.at (by omega)
      have hd := range_later hd0 hbel
      clear hd0 HR
      have d := M.elem hd k hlt
      obtain ⟨x, HX⟩ := hid_ex l[k]
      rw [HX.out] at d
      have zm : (Try.prog.info? 44).map (·.size) = some x.cells.length := size44
      have R := rw_new wr 44 #[.int .i64 x.p, .int .i64 x.s, .int .i64 x.i]
      replace hbel := bel_alloc hbel (.cells #[.int .i64 x.p, .int .i64 x.s, .int .i64 x.i] 44)
      have hxi : (decide (x.i < 1)) = !im x.i := by unfold im; by_cases h : x.i < 1 <;> simp [h] <;> omega
      obtain ⟨y1, HY1⟩ := hid_ex (im x.i)
      rw [HY1.out] at hxi
      cases y1
      · have HF := ca_not HZ hlt (show okk l k hlt = false by unfold okk; rw [HX.out, HY1.out]; rfl)
        have e := HF.out
        subst e
        have hxd : decide (x.i < 1) = true := by simpa using hxi
        clear HZ HF HV hxi
        go_wp2_with (refine load_m 44 _ rfl rfl _ _ rfl d Try.underlying44 rfl zm ?_)
        clear hd d
        have hs : Calm.Stays (fun w' => Rw w' wr.heap.size 44 #[.int .i64 x.p, .int .i64 x.s, .int .i64 x.i] ∧ Below w.heap.size w w') := fun wa wb h hb => ⟨h.1.later hb, below_on h.2 hb⟩
        refine Calm.region (by kernel_rfl) (by kernel_rfl) (fun w' => Rw w' wr.heap.size 44 #[.int .i64 x.p, .int .i64 x.s, .int .i64 x.i] ∧ Below w.heap.size w w') ⟨R, hbel.drew⟩ ?_
        all_goals
          refine Calm.pure (v := ?_) (by rfl) ?_ ?_
          rotate_left
          focus (intro w hSw; go_simp <;> rfl)
          simp only [Act.put, List.setIfInBounds_toArray, List.set_cons_zero, List.set_cons_succ]
        all_goals
          refine Calm.pure (v := .int .i64 x.i) (by rfl) ?_ ?_
          focus (intro w hSw; have g1 : w.cell? ⟨wr.heap.size, 2, none⟩ = some (.int .i64 x.i) := hSw.1.cell 2; go_simp)
          simp only [Act.put, List.setIfInBounds_toArray, List.set_cons_zero, List.set_cons_succ]
        all_goals
          refine Calm.pure (v := ?_) (by rfl) ?_ ?_
          rotate_left
          focus (intro w hSw; go_simp <;> rfl)
          simp only [Act.put, List.setIfInBounds_toArray, List.set_cons_zero, List.set_cons_succ]
        all_goals
          refine Calm.pure (v := ?_) (by rfl) ?_ ?_
          rotate_left
          focus (intro w hSw; go_simp <;> rfl)
          simp only [Act.put, List.setIfInBounds_toArray, List.set_cons_zero, List.set_cons_succ]
        all_goals
          first
            | (refine Calm.skip ?_ ?_; focus rfl)
            | (refine Calm.pure (v := ?_) (by rfl) ?_ ?_
               rotate_left
               focus (intro w hSw; go_simp <;> rfl))
          simp only [Act.put, List.setIfInBounds_toArray, List.set_cons_zero, List.set_cons_succ]
        all_goals
          first
            | (refine Calm.skip ?_ ?_; focus rfl)
            | (refine Calm.pure (v := ?_) (by rfl) ?_ ?_
               rotate_left
               focus (intro w hSw; go_simp <;> rfl))
          simp only [Act.put, List.setIfInBounds_toArray, List.set_cons_zero, List.set_cons_succ]
        all_goals
          first
            | (refine Calm.skip ?_ ?_; focus rfl)
            | (refine Calm.pure (v := ?_) (by rfl) ?_ ?_
               rotate_left
               focus (intro w hSw; go_simp <;> rfl))
          simp only [Act.put, List.setIfInBounds_toArray, List.set_cons_zero, List.set_cons_succ]
        all_goals
          first
            | (refine Calm.skip ?_ ?_; focus rfl)
            | (refine Calm.pure (v := ?_) (by rfl) ?_ ?_
               rotate_left
               focus (intro w hSw; go_simp <;> rfl))
          simp only [Act.put, List.setIfInBounds_toArray, List.set_cons_zero, List.set_cons_succ]
        all_goals
          first
            | (refine Calm.skip ?_ ?_; focus rfl)
            | (refine Calm.pure (v := ?_) (by rfl) ?_ ?_
               rotate_left
               focus (intro w hSw; go_simp <;> rfl))
          simp only [Act.put, List.setIfInBounds_toArray, List.set_cons_zero, List.set_cons_succ]
        all_goals
          first
            | (refine Calm.skip ?_ ?_; focus rfl)
            | (refine Calm.pure (v := ?_) (by rfl) ?_ ?_
               rotate_left
               focus (intro w hSw; go_simp <;> rfl))
          simp only [Act.put, List.setIfInBounds_toArray, List.set_cons_zero, List.set_cons_succ]
        all_goals
          first
            | (refine Calm.skip ?_ ?_; focus rfl)
            | (refine Calm.pure (v := ?_) (by rfl) ?_ ?_
               rotate_left
               focus (intro w hSw; go_simp <;> rfl))
          simp only [Act.put, List.setIfInBounds_toArray, List.set_cons_zero, List.set_cons_succ]
        all_goals
          first
            | (refine Calm.skip ?_ ?_; focus rfl)
            | (refine Calm.loadM 44 Try.underlying44 rfl zm (by rfl) _ rfl rfl (fun _ h => Rw.whole h.1) ?_)
          simp only [Act.put, List.setIfInBounds_toArray, List.set_cons_zero, List.set_cons_succ]
        all_goals
          first
            | (refine Calm.skip ?_ ?_; focus rfl)
            | (refine Calm.loadM 44 Try.underlying44 rfl zm (by rfl) _ rfl rfl (fun _ h => Rw.whole h.1) ?_)
          simp only [Act.put, List.setIfInBounds_toArray, List.set_cons_zero, List.set_cons_succ]
        all_goals
          first
            | (refine Calm.skip ?_ ?_; focus rfl)
            | (refine Calm.call2s (by rfl) rfl rfl rfl (by kernel_rfl) hs (fun w1 h => less_any 0 0 0 0 0 0 w1) ?_)
          simp only [Act.put, List.setIfInBounds_toArray, List.set_cons_zero, List.set_cons_succ]
        all_goals
          first
            | (refine Calm.skip ?_ ?_; focus rfl)
            | (refine Calm.pure (v := ?_) (by rfl) ?_ ?_
               rotate_left
               focus (intro w hSw; go_simp <;> rfl))
          simp only [Act.put, List.setIfInBounds_toArray, List.set_cons_zero, List.set_cons_succ]
        all_goals
          first
            | (refine Calm.skip ?_ ?_; focus rfl)
            | (refine Calm.pure (v := ?_) (by rfl) ?_ ?_
               rotate_left
               focus (intro w hSw; go_simp <;> rfl))
          simp only [Act.put, List.setIfInBounds_toArray, List.set_cons_zero, List.set_cons_succ]
        all_goals
          refine Calm.pure (v := ?_) (by rfl) ?_ ?_
          rotate_left
          focus (intro w hSw; go_simp <;> rfl)
          simp only [Act.put, List.setIfInBounds_toArray, List.set_cons_zero, List.set_cons_succ]
        all_goals
          rintro w9 ⟨_, hbel9⟩
        go_wp2_with fail
        go_ret
        exact ⟨rfl, hbel9⟩
      · have hxd : decide (x.i < 1) = false := by simpa using hxi
        clear hxi
        rcases Nat.eq_zero_or_pos k with rfl | hpos
        · have HV2 : Hid (∀ i (h : i < l.length), i < 0 + 1 → okk l i h = true) := fun i h hi => by
            obtain rfl : i = 0 := by omega
            unfold okk
            rw [HX.out, HY1.out]
            rfl
          go_wp2_with (refine load_m 44 _ rfl rfl _ _ rfl d Try.underlying44 rfl zm ?_)
          clear hd d HV
          have hs : Calm.Stays (fun w' => Rw w' wr.heap.size 44 #[.int .i64 x.p, .int .i64 x.s, .int .i64 x.i] ∧ Below w.heap.size w w') := fun wa wb h hb => ⟨h.1.later hb, below_on h.2 hb⟩
          refine Calm.region (by kernel_rfl) (by kernel_rfl) (fun w' => Rw w' wr.heap.size 44 #[.int .i64 x.p, .int .i64 x.s, .int .i64 x.i] ∧ Below w.heap.size w w') ⟨R, hbel.drew⟩ ?_
          all_goals
            refine Calm.pure (v := ?_) (by rfl) ?_ ?_
            rotate_left
            focus (intro w hSw; go_simp <;> rfl)
            simp only [Act.put, List.setIfInBounds_toArray, List.set_cons_zero, List.set_cons_succ]
          all_goals
            refine Calm.pure (v := .int .i64 x.i) (by rfl) ?_ ?_
            focus (intro w hSw; have g1 : w.cell? ⟨wr.heap.size, 2, none⟩ = some (.int .i64 x.i) := hSw.1.cell 2; go_simp)
            simp only [Act.put, List.setIfInBounds_toArray, List.set_cons_zero, List.set_cons_succ]
          all_goals
            refine Calm.pure (v := ?_) (by rfl) ?_ ?_
            rotate_left
            focus (intro w hSw; go_simp <;> rfl)
            simp only [Act.put, List.setIfInBounds_toArray, List.set_cons_zero, List.set_cons_succ]
          all_goals
            refine Calm.pure (v := ?_) (by rfl) ?_ ?_
            rotate_left
            focus (intro w hSw; go_simp <;> rfl)
            simp only [Act.put, List.setIfInBounds_toArray, List.set_cons_zero, List.set_cons_succ]
          all_goals
            first
              | (refine Calm.skip ?_ ?_; focus rfl)
              | (refine Calm.pure (v := ?_) (by rfl) ?_ ?_
                 rotate_left
                 focus (intro w hSw; go_simp <;> rfl))
            simp only [Act.put, List.setIfInBounds_toArray, List.set_cons_zero, List.set_cons_succ]
          all_goals
            first
              | (refine Calm.skip ?_ ?_; focus rfl)
              | (refine Calm.pure (v := ?_) (by rfl) ?_ ?_
                 rotate_left
                 focus (intro w hSw; go_simp <;> rfl))
            simp only [Act.put, List.setIfInBounds_toArray, List.set_cons_zero, List.set_cons_succ]
          all_goals
            first
              | (refine Calm.skip ?_ ?_; focus rfl)
              | (refine Calm.pure (v := ?_) (by rfl) ?_ ?_
                 rotate_left
                 focus (intro w hSw; go_simp <;> rfl))
            simp only [Act.put, List.setIfInBounds_toArray, List.set_cons_zero, List.set_cons_succ]
          all_goals
            first
              | (refine Calm.skip ?_ ?_; focus rfl)
              | (refine Calm.pure (v := ?_) (by rfl) ?_ ?_
                 rotate_left
                 focus (intro w hSw; go_simp <;> rfl))
            simp only [Act.put, List.setIfInBounds_toArray, List.set_cons_zero, List.set_cons_succ]
          all_goals
            first
              | (refine Calm.skip ?_ ?_; focus rfl)
              | (refine Calm.pure (v := ?_) (by rfl) ?_ ?_
                 rotate_left
                 focus (intro w hSw; go_simp <;> rfl))
            simp only [Act.put, List.setIfInBounds_toArray, List.set_cons_zero, List.set_cons_succ]
          all_goals
            first
              | (refine Calm.skip ?_ ?_; focus rfl)
              | (refine Calm.pure (v := ?_) (by rfl) ?_ ?_
                 rotate_left
                 focus (intro w hSw; go_simp <;> rfl))
            simp only [Act.put, List.setIfInBounds_toArray, List.set_cons_zero, List.set_cons_succ]
          all_goals
            first
              | (refine Calm.skip ?_ ?_; focus rfl)
              | (refine Calm.pure (v := ?_) (by rfl) ?_ ?_
                 rotate_left
                 focus (intro w hSw; go_simp <;> rfl))
            simp only [Act.put, List.setIfInBounds_toArray, List.set_cons_zero, List.set_cons_succ]
          all_goals
            first
              | (refine Calm.skip ?_ ?_; focus rfl)
              | (refine Calm.loadM 44 Try.underlying44 rfl zm (by rfl) _ rfl rfl (fun _ h => Rw.whole h.1) ?_)
            simp only [Act.put, List.setIfInBounds_toArray, List.set_cons_zero, List.set_cons_succ]
          all_goals
            first
              | (refine Calm.skip ?_ ?_; focus rfl)
              | (refine Calm.loadM 44 Try.underlying44 rfl zm (by rfl) _ rfl rfl (fun _ h => Rw.whole h.1) ?_)
            simp only [Act.put, List.setIfInBounds_toArray, List.set_cons_zero, List.set_cons_succ]
          all_goals
            first
              | (refine Calm.skip ?_ ?_; focus rfl)
              | (refine Calm.call2s (by rfl) rfl rfl rfl (by kernel_rfl) hs (fun w1 h => less_any 0 0 0 0 0 0 w1) ?_)
            simp only [Act.put, List.setIfInBounds_toArray, List.set_cons_zero, List.set_cons_succ]
          all_goals
            first
              | (refine Calm.skip ?_ ?_; focus rfl)
              | (refine Calm.pure (v := ?_) (by rfl) ?_ ?_
                 rotate_left
                 focus (intro w hSw; go_simp <;> rfl))
            simp only [Act.put, List.setIfInBounds_toArray, List.set_cons_zero, List.set_cons_succ]
          all_goals
            first
              | (refine Calm.skip ?_ ?_; focus rfl)
              | (refine Calm.pure (v := ?_) (by rfl) ?_ ?_
                 rotate_left
                 focus (intro w hSw; go_simp <;> rfl))
            simp only [Act.put, List.setIfInBounds_toArray, List.set_cons_zero, List.set_cons_succ]
          all_goals
            refine Calm.pure (v := ?_) (by rfl) ?_ ?_
            rotate_left
            focus (intro w hSw; go_simp <;> rfl)
            simp only [Act.put, List.setIfInBounds_toArray, List.set_cons_zero, List.set_cons_succ]
          all_goals
            rintro w9 ⟨_, hbel9⟩
          go_wp2_with fail
          go_roundw
          case rel => exact ⟨0 + 1, by simp, by omega, HV2, hbel9⟩
          case measure => simp [intOf]; omega
        · obtain ⟨m, rfl⟩ : ∃ m, k = m + 1 := ⟨k - 1, by omega⟩
          have d2 := range_later (M.elem hd m (by omega)) (bel_alloc (Below.refl _ _) (.cells #[.int .i64 x.p, .int .i64 x.s, .int .i64 x.i] 44))
          obtain ⟨y, HY⟩ := hid_ex (l[m]'(by omega))
          rw [HY.out] at d2
          have zy : (Try.prog.info? 44).map (·.size) = some y.cells.length := size44
          have C2 : ∀ w, Calls Try.prog 65 #[MV y.p y.s y.i, MV x.p x.s x.i] w (Tells (.bool (lt y x)) w) := fun w => less_any y.p y.s y.i x.p x.s x.i w
          have hO : okk l (m + 1) hlt = lt y x := by
            unfold okk
            simp only [Nat.add_sub_cancel]
            rw [HX.out, HY1.out, HY.out]
            simp
          have HO : Hid (okk l (m + 1) hlt = lt y x) := hO
          clear hO
          obtain ⟨y2, HY2⟩ := hid_ex (lt y x)
          rw [HY2.out] at C2 HO
          have hw1 : IntKind.i64.wrap (m : Int) = (m : Int) := by rw [IntKind.wrap_i64]; omega
          have hml2 : (m : Int) < (l.length : Int) := by omega
          go_wp2_with (refine load_m 44 _ rfl rfl _ _ rfl d Try.underlying44 rfl zm ?_)
          clear hd d
          cases y2
          · have HF := ca_not HZ hlt HO.out
            have e := HF.out
            subst e
            clear HZ HF HV
            have hs : Calm.Stays (fun w' => Rw w' wr.heap.size 44 #[.int .i64 x.p, .int .i64 x.s, .int .i64 x.i] ∧ w'.rangeAt g (o + m * 3) y.cells ∧ Below w.heap.size w w') := fun wa wb h hb => ⟨h.1.later hb, range_later h.2.1 hb, below_on h.2.2 hb⟩
            refine Calm.region (by kernel_rfl) (by kernel_rfl) (fun w' => Rw w' wr.heap.size 44 #[.int .i64 x.p, .int .i64 x.s, .int .i64 x.i] ∧ w'.rangeAt g (o + m * 3) y.cells ∧ Below w.heap.size w w') ⟨R, d2, hbel.drew⟩ ?_
            all_goals
              refine Calm.pure (v := ?_) (by rfl) ?_ ?_
              rotate_left
              focus (intro w hSw; go_simp <;> rfl)
              simp only [Act.put, List.setIfInBounds_toArray, List.set_cons_zero, List.set_cons_succ]
            all_goals
              refine Calm.pure (v := .int .i64 x.i) (by rfl) ?_ ?_
              focus (intro w hSw; have g1 : w.cell? ⟨wr.heap.size, 2, none⟩ = some (.int .i64 x.i) := hSw.1.cell 2; go_simp)
              simp only [Act.put, List.setIfInBounds_toArray, List.set_cons_zero, List.set_cons_succ]
            all_goals
              refine Calm.pure (v := ?_) (by rfl) ?_ ?_
              rotate_left
              focus (intro w hSw; go_simp <;> rfl)
              simp only [Act.put, List.setIfInBounds_toArray, List.set_cons_zero, List.set_cons_succ]
            all_goals
              refine Calm.pure (v := ?_) (by rfl) ?_ ?_
              rotate_left
              focus (intro w hSw; go_simp <;> rfl)
              simp only [Act.put, List.setIfInBounds_toArray, List.set_cons_zero, List.set_cons_succ]
            all_goals
              first
                | (refine Calm.skip ?_ ?_; focus rfl)
                | (refine Calm.pure (v := ?_) (by rfl) ?_ ?_
                   rotate_left
                   focus (intro w hSw; go_simp <;> rfl))
              simp only [Act.put, List.setIfInBounds_toArray, List.set_cons_zero, List.set_cons_succ]
            all_goals
              first
                | (refine Calm.skip ?_ ?_; focus rfl)
                | (refine Calm.pure (v := ?_) (by rfl) ?_ ?_
                   rotate_left
                   focus (intro w hSw; go_simp <;> rfl))
              simp only [Act.put, List.setIfInBounds_toArray, List.set_cons_zero, List.set_cons_succ]
            all_goals
              first
                | (refine Calm.skip ?_ ?_; focus rfl)
                | (refine Calm.pure (v := ?_) (by rfl) ?_ ?_
                   rotate_left
                   focus (intro w hSw; go_simp <;> rfl))
              simp only [Act.put, List.setIfInBounds_toArray, List.set_cons_zero, List.set_cons_succ]
            all_goals
              first
                | (refine Calm.skip ?_ ?_; focus rfl)
                | (refine Calm.pure (v := ?_) (by rfl) ?_ ?_
                   rotate_left
                   focus (intro w hSw; go_simp <;> rfl))
              simp only [Act.put, List.setIfInBounds_toArray, List.set_cons_zero, List.set_cons_succ]
            all_goals
              first
                | (refine Calm.skip ?_ ?_; focus rfl)
                | (refine Calm.pure (v := ?_) (by rfl) ?_ ?_
                   rotate_left
                   focus (intro w hSw; go_simp <;> rfl))
              simp only [Act.put, List.setIfInBounds_toArray, List.set_cons_zero, List.set_cons_succ]
            all_goals
              first
                | (refine Calm.skip ?_ ?_; focus rfl)
                | (refine Calm.pure (v := ?_) (by rfl) ?_ ?_
                   rotate_left
                   focus (intro w hSw; go_simp <;> rfl))
              simp only [Act.put, List.setIfInBounds_toArray, List.set_cons_zero, List.set_cons_succ]
            all_goals
              first
                | (refine Calm.skip ?_ ?_; focus rfl)
                | (refine Calm.pure (v := ?_) (by rfl) ?_ ?_
                   rotate_left
                   focus (intro w hSw; go_simp <;> rfl))
              simp only [Act.put, List.setIfInBounds_toArray, List.set_cons_zero, List.set_cons_succ]
            all_goals
              first
                | (refine Calm.skip ?_ ?_; focus rfl)
                | (first | (refine Calm.loadM 44 Try.underlying44 rfl zy (by rfl) _ rfl rfl (fun _ h => h.2.1) ?_) | (refine Calm.loadM 44 Try.underlying44 rfl zm (by rfl) _ rfl rfl (fun _ h => Rw.whole h.1) ?_))
              simp only [Act.put, List.setIfInBounds_toArray, List.set_cons_zero, List.set_cons_succ]
            all_goals
              first
                | (refine Calm.skip ?_ ?_; focus rfl)
                | (first | (refine Calm.loadM 44 Try.underlying44 rfl zy (by rfl) _ rfl rfl (fun _ h => h.2.1) ?_) | (refine Calm.loadM 44 Try.underlying44 rfl zm (by rfl) _ rfl rfl (fun _ h => Rw.whole h.1) ?_))
              simp only [Act.put, List.setIfInBounds_toArray, List.set_cons_zero, List.set_cons_succ]
            all_goals
              first
                | (refine Calm.skip ?_ ?_; focus rfl)
                | (refine Calm.call2s (by rfl) rfl rfl rfl (by kernel_rfl) hs (fun w1 h => C2 w1) ?_)
              simp only [Act.put, List.setIfInBounds_toArray, List.set_cons_zero, List.set_cons_succ]
            all_goals
              first
                | (refine Calm.skip ?_ ?_; focus rfl)
                | (refine Calm.pure (v := ?_) (by rfl) ?_ ?_
                   rotate_left
                   focus (intro w hSw; go_simp <;> rfl))
              simp only [Act.put, List.setIfInBounds_toArray, List.set_cons_zero, List.set_cons_succ]
            all_goals
              first
                | (refine Calm.skip ?_ ?_; focus rfl)
                | (refine Calm.pure (v := ?_) (by rfl) ?_ ?_
                   rotate_left
                   focus (intro w hSw; go_simp <;> rfl))
              simp only [Act.put, List.setIfInBounds_toArray, List.set_cons_zero, List.set_cons_succ]
            all_goals
              refine Calm.pure (v := ?_) (by rfl) ?_ ?_
              rotate_left
              focus (intro w hSw; go_simp <;> rfl)
              simp only [Act.put, List.setIfInBounds_toArray, List.set_cons_zero, List.set_cons_succ]
            all_goals
              rintro w9 ⟨_, _, hbel9⟩
            go_wp2_with fail
            go_ret
            exact ⟨rfl, hbel9⟩
          · have HV2 : Hid (∀ i (h : i < l.length), i < m + 1 + 1 → okk l i h = true) := fun i h hi => by
              rcases Nat.lt_or_ge i (m + 1) with h' | h'
              · exact HV.out i h h'
              · obtain rfl : i = m + 1 := by omega
                exact HO.out
            clear HV HO
            have hs : Calm.Stays (fun w' => Rw w' wr.heap.size 44 #[.int .i64 x.p, .int .i64 x.s, .int .i64 x.i] ∧ w'.rangeAt g (o + m * 3) y.cells ∧ Below w.heap.size w w') := fun wa wb h hb => ⟨h.1.later hb, range_later h.2.1 hb, below_on h.2.2 hb⟩
            refine Calm.region (by kernel_rfl) (by kernel_rfl) (fun w' => Rw w' wr.heap.size 44 #[.int .i64 x.p, .int .i64 x.s, .int .i64 x.i] ∧ w'.rangeAt g (o + m * 3) y.cells ∧ Below w.heap.size w w') ⟨R, d2, hbel.drew⟩ ?_
            all_goals
              refine Calm.pure (v := ?_) (by rfl) ?_ ?_
              rotate_left
              focus (intro w hSw; go_simp <;> rfl)
              simp only [Act.put, List.setIfInBounds_toArray, List.set_cons_zero, List.set_cons_succ]
            all_goals
              refine Calm.pure (v := .int .i64 x.i) (by rfl) ?_ ?_
              focus (intro w hSw; have g1 : w.cell? ⟨wr.heap.size, 2, none⟩ = some (.int .i64 x.i) := hSw.1.cell 2; go_simp)
              simp only [Act.put, List.setIfInBounds_toArray, List.set_cons_zero, List.set_cons_succ]
            all_goals
              refine Calm.pure (v := ?_) (by rfl) ?_ ?_
              rotate_left
              focus (intro w hSw; go_simp <;> rfl)
              simp only [Act.put, List.setIfInBounds_toArray, List.set_cons_zero, List.set_cons_succ]
            all_goals
              refine Calm.pure (v := ?_) (by rfl) ?_ ?_
              rotate_left
              focus (intro w hSw; go_simp <;> rfl)
              simp only [Act.put, List.setIfInBounds_toArray, List.set_cons_zero, List.set_cons_succ]
            all_goals
              first
                | (refine Calm.skip ?_ ?_; focus rfl)
                | (refine Calm.pure (v := ?_) (by rfl) ?_ ?_
                   rotate_left
                   focus (intro w hSw; go_simp <;> rfl))
              simp only [Act.put, List.setIfInBounds_toArray, List.set_cons_zero, List.set_cons_succ]
            all_goals
              first
                | (refine Calm.skip ?_ ?_; focus rfl)
                | (refine Calm.pure (v := ?_) (by rfl) ?_ ?_
                   rotate_left
                   focus (intro w hSw; go_simp <;> rfl))
              simp only [Act.put, List.setIfInBounds_toArray, List.set_cons_zero, List.set_cons_succ]
            all_goals
              first
                | (refine Calm.skip ?_ ?_; focus rfl)
                | (refine Calm.pure (v := ?_) (by rfl) ?_ ?_
                   rotate_left
                   focus (intro w hSw; go_simp <;> rfl))
              simp only [Act.put, List.setIfInBounds_toArray, List.set_cons_zero, List.set_cons_succ]
            all_goals
              first
                | (refine Calm.skip ?_ ?_; focus rfl)
                | (refine Calm.pure (v := ?_) (by rfl) ?_ ?_
                   rotate_left
                   focus (intro w hSw; go_simp <;> rfl))
              simp only [Act.put, List.setIfInBounds_toArray, List.set_cons_zero, List.set_cons_succ]
            all_goals
              first
                | (refine Calm.skip ?_ ?_; focus rfl)
                | (refine Calm.pure (v := ?_) (by rfl) ?_ ?_
                   rotate_left
                   focus (intro w hSw; go_simp <;> rfl))
              simp only [Act.put, List.setIfInBounds_toArray, List.set_cons_zero, List.set_cons_succ]
            all_goals
              first
                | (refine Calm.skip ?_ ?_; focus rfl)
                | (refine Calm.pure (v := ?_) (by rfl) ?_ ?_
                   rotate_left
                   focus (intro w hSw; go_simp <;> rfl))
              simp only [Act.put, List.setIfInBounds_toArray, List.set_cons_zero, List.set_cons_succ]
            all_goals
              first
                | (refine Calm.skip ?_ ?_; focus rfl)
                | (refine Calm.pure (v := ?_) (by rfl) ?_ ?_
                   rotate_left
                   focus (intro w hSw; go_simp <;> rfl))
              simp only [Act.put, List.setIfInBounds_toArray, List.set_cons_zero, List.set_cons_succ]
            all_goals
              first
                | (refine Calm.skip ?_ ?_; focus rfl)
                | (first | (refine Calm.loadM 44 Try.underlying44 rfl zy (by rfl) _ rfl rfl (fun _ h => h.2.1) ?_) | (refine Calm.loadM 44 Try.underlying44 rfl zm (by rfl) _ rfl rfl (fun _ h => Rw.whole h.1) ?_))
              simp only [Act.put, List.setIfInBounds_toArray, List.set_cons_zero, List.set_cons_succ]
            all_goals
              first
                | (refine Calm.skip ?_ ?_; focus rfl)
                | (first | (refine Calm.loadM 44 Try.underlying44 rfl zy (by rfl) _ rfl rfl (fun _ h => h.2.1) ?_) | (refine Calm.loadM 44 Try.underlying44 rfl zm (by rfl) _ rfl rfl (fun _ h => Rw.whole h.1) ?_))
              simp only [Act.put, List.setIfInBounds_toArray, List.set_cons_zero, List.set_cons_succ]
            all_goals
              first
                | (refine Calm.skip ?_ ?_; focus rfl)
                | (refine Calm.call2s (by rfl) rfl rfl rfl (by kernel_rfl) hs (fun w1 h => C2 w1) ?_)
              simp only [Act.put, List.setIfInBounds_toArray, List.set_cons_zero, List.set_cons_succ]
            all_goals
              first
                | (refine Calm.skip ?_ ?_; focus rfl)
                | (refine Calm.pure (v := ?_) (by rfl) ?_ ?_
                   rotate_left
                   focus (intro w hSw; go_simp <;> rfl))
              simp only [Act.put, List.setIfInBounds_toArray, List.set_cons_zero, List.set_cons_succ]
            all_goals
              first
                | (refine Calm.skip ?_ ?_; focus rfl)
                | (refine Calm.pure (v := ?_) (by rfl) ?_ ?_
                   rotate_left
                   focus (intro w hSw; go_simp <;> rfl))
              simp only [Act.put, List.setIfInBounds_toArray, List.set_cons_zero, List.set_cons_succ]
            all_goals
              refine Calm.pure (v := ?_) (by rfl) ?_ ?_
              rotate_left
              focus (intro w hSw; go_simp <;> rfl)
              simp only [Act.put, List.setIfInBounds_toArray, List.set_cons_zero, List.set_cons_succ]
            all_goals
              rintro w9 ⟨_, _, hbel9⟩
            go_wp2_with fail
            go_roundw
            case rel => exact ⟨m + 1 + 1, by simp, by omega, HV2, hbel9⟩
            case measure => simp [intOf]; omega
    · have hlt' : ¬ (k : Int) < (l.length : Int) := by omega
      have e := HZ.out
      rw [(ca_iff l).2 (fun i h => HV.out i h (by omega))] at e
      subst e
      clear HZ HV HR
      go_wp2_with fail
      go_ret
      exact ⟨rfl, hbel⟩
end Go.Proofs.Ythekfmodafmlgaa
/- Texts that rise, each once. Nothing of the program. -/
namespace Go.Proofs.Ythekfmodafmlgaa
open Go.RowKit Go.Sort

/-- A text as bytes. -/
abbrev Bs := List UInt8
abbrev bs (x : ByteArray) : Bs := x.data.toList
theorem Bs.irr (a : Bs) : ¬ a < a := List.lt_irrefl a
theorem Bs.le_of {a b : Bs} (h : a < b) : a ≤ b := by
  rcases List.le_total a b with k | k
  · exact k
  · exact absurd h (List.not_lt.2 k)
theorem Bs.tri {a b : Bs} (h : ¬ a < b) (k : a ≠ b) : b < a := by
  have h1 : b ≤ a := List.not_lt.1 h
  rcases Classical.em (b < a) with h2 | h2
  · exact h2
  · exact absurd (List.le_antisymm (List.not_lt.1 h2) h1) k
theorem Bs.trans {a b c : Bs} (h : a < b) (k : b < c) : a < c := List.lt_trans h k
theorem Bs.asymm {a b : Bs} (h : a < b) : ¬ b < a := fun k => Bs.irr a (Bs.trans h k)
/-- A text put among rising ones, once. -/
def insT (l : List Bs) (s : Bs) : List Bs := l.filter (fun y => decide (y < s)) ++ s :: l.filter (fun y => !decide (y < s))
def rise (l : List Bs) (s : Bs) : List Bs := if s ∈ l then l else insT l s
def txs (l : List Bs) : List Bs := l.foldl rise []
abbrev up (l : List Bs) : Prop := l.Pairwise (fun a b => a < b)
theorem txs_snoc (l : List Bs) (s : Bs) : txs (l ++ [s]) = rise (txs l) s := by simp [txs]
theorem txs_nil : txs [] = [] := rfl
theorem txs_one (s : Bs) : txs [s] = [s] := by simp [txs, rise, insT]
theorem insT_mem (l : List Bs) (s x : Bs) : x ∈ insT l s ↔ x = s ∨ x ∈ l := by
  unfold insT
  simp only [List.mem_append, List.mem_cons, List.mem_filter]
  by_cases h : x < s
  · simp [h]
    exact ⟨fun k => k.elim .inr .inl, fun k => k.elim .inr .inl⟩
  · simp [h]
theorem rise_mem (l : List Bs) (s x : Bs) : x ∈ rise l s ↔ x = s ∨ x ∈ l := by
  unfold rise
  split
  · rename_i h
    exact ⟨.inr, fun k => k.elim (fun e => e ▸ h) id⟩
  · exact insT_mem l s x
theorem insT_up {l : List Bs} (h : up l) {s : Bs} (hs : s ∉ l) : up (insT l s) := by
  unfold insT up
  rw [List.pairwise_append]
  refine ⟨h.filter _, ?_, ?_⟩
  · rw [List.pairwise_cons]
    refine ⟨fun y hy => ?_, h.filter _⟩
    obtain ⟨h1, h2⟩ := List.mem_filter.1 hy
    exact Bs.tri (by simpa using h2) (fun e => hs (e ▸ h1))
  · intro y hy z hz
    obtain ⟨_, h2⟩ := List.mem_filter.1 hy
    have h2 : y < s := by simpa using h2
    rcases List.mem_cons.1 hz with rfl | hz
    · exact h2
    · obtain ⟨h3, h4⟩ := List.mem_filter.1 hz
      exact Bs.trans h2 (Bs.tri (by simpa using h4) (fun e => hs (e ▸ h3)))
theorem rise_up {l : List Bs} (h : up l) (s : Bs) : up (rise l s) := by
  unfold rise
  split
  · exact h
  · rename_i hs
    exact insT_up h hs
theorem rise_length (l : List Bs) (s : Bs) : (rise l s).length ≤ l.length + 1 := by
  unfold rise
  split
  · omega
  · unfold insT
    rw [List.length_append, List.length_cons]
    have : (l.filter (fun y => decide (y < s))).length + (l.filter (fun y => !decide (y < s))).length = l.length := by
      induction l with
      | nil => rfl
      | cons y l ih =>
        rename_i h
        have ih := ih (fun k => h (by simp [k]))
        rw [List.filter_cons, List.filter_cons]
        by_cases k : y < s
        · simp [k]
          omega
        · simp [k]
          omega
    omega
theorem fold_mem (l : List Bs) : ∀ (m : List Bs) (x : Bs), x ∈ l.foldl rise m ↔ x ∈ l ∨ x ∈ m := by
  induction l with
  | nil => simp
  | cons y l ih =>
    intro m x
    rw [List.foldl_cons, ih, rise_mem, List.mem_cons]
    constructor
    · rintro (h | h | h)
      · exact .inl (.inr h)
      · exact .inl (.inl h)
      · exact .inr h
    · rintro ((h | h) | h)
      · exact .inr (.inl h)
      · exact .inl h
      · exact .inr (.inr h)
theorem fold_up (l : List Bs) : ∀ (m : List Bs), up m → up (l.foldl rise m) := by
  induction l with
  | nil => exact fun _ h => h
  | cons y l ih => exact fun m h => ih _ (rise_up h y)
theorem fold_length (l : List Bs) : ∀ (m : List Bs), (l.foldl rise m).length ≤ m.length + l.length := by
  induction l with
  | nil => intro m; simp
  | cons y l ih =>
    intro m
    rw [List.foldl_cons]
    have h1 := ih (rise m y)
    have h2 := rise_length m y
    rw [List.length_cons]
    omega
theorem txs_mem (l : List Bs) (x : Bs) : x ∈ txs l ↔ x ∈ l := by
  unfold txs
  rw [fold_mem]
  simp
theorem txs_up (l : List Bs) : up (txs l) := fold_up l [] List.Pairwise.nil
theorem txs_length (l : List Bs) : (txs l).length ≤ l.length := by
  have := fold_length l []
  unfold txs
  simpa using this
/-- What holds of each two holds of what follows of it. -/
theorem pair_of {α : Type} {R S : α → α → Prop} {l : List α} (h : l.Pairwise R) (hi : ∀ a b, R a b → S a b) : l.Pairwise S := by
  rw [List.pairwise_iff_getElem] at *
  exact fun i j hi' hj hij => hi _ _ (h i j hi' hj hij)
theorem up_nodup {l : List Bs} (h : up l) : l.Nodup := by
  unfold List.Nodup
  exact pair_of h (fun a b k (e : a = b) => Bs.irr a (by rw [← e] at k; exact k))
/-- Whatever holds each once comes, sorted, to the rising ones. -/
theorem sorted_txs {ss l : List Bs} (hnd : ss.Nodup) (hm : ∀ x, x ∈ ss ↔ x ∈ l) : ss.mergeSort (fun x y => decide (x ≤ y)) = txs l := by
  have hp : ss.Perm (txs l) := (List.perm_ext_iff_of_nodup hnd (up_nodup (txs_up l))).2 fun x => by rw [hm, txs_mem]
  rw [mergeSort_of_perm hp]
  have tr : ∀ a b c : List UInt8, leB a b = true → leB b c = true → leB a c = true := fun a b c h1 h2 => by simp only [leB, decide_eq_true_eq] at *; exact List.le_trans h1 h2
  have to : ∀ a b : List UInt8, (leB a b || leB b a) = true := fun a b => by simp only [leB, Bool.or_eq_true, decide_eq_true_eq]; exact List.le_total a b
  refine List.Perm.eq_of_pairwise (le := fun a b => leB a b = true) (fun a b _ _ h1 h2 => ?_) (List.pairwise_mergeSort tr to _) (pair_of (txs_up l) (fun a b k => by simp only [leB, decide_eq_true_eq]; exact Bs.le_of k)) (List.mergeSort_perm _ leB)
  simp only [leB, decide_eq_true_eq] at h1 h2
  exact List.le_antisymm h1 h2
/-- Strictly rising lists of the same texts are one. -/
theorem up_eq {l m : List Bs} (hl : up l) (hm : up m) (h : ∀ x, x ∈ l ↔ x ∈ m) : l = m := by
  have hp : l.Perm m := (List.perm_ext_iff_of_nodup (up_nodup hl) (up_nodup hm)).2 h
  refine List.Perm.eq_of_pairwise (le := fun a b => a < b) (fun a b _ _ h1 h2 => absurd h2 (Bs.asymm h1)) hl hm hp
/-- The write of the greatest time, of these the last one. -/
def bst (b : Wt) (l : List Wt) : Wt := l.foldl (fun b y => if b.t ≤ y.t then y else b) b
def lastW : List Wt → List Wt
  | [] => []
  | y :: l => [bst y l]
theorem bst_snoc (b : Wt) (l : List Wt) (y : Wt) : bst b (l ++ [y]) = if (bst b l).t ≤ y.t then y else bst b l := by
  unfold bst
  rw [List.foldl_append]
  rfl
theorem bst_mem (b : Wt) (l : List Wt) : bst b l ∈ b :: l := by
  unfold bst
  induction l generalizing b with
  | nil => simp
  | cons y l ih =>
    rw [List.foldl_cons]
    have := ih (if b.t ≤ y.t then y else b)
    rcases List.mem_cons.1 this with h | h
    · rw [h]
      split <;> simp
    · simp [h]
theorem lastW_mem {l : List Wt} {y : Wt} (h : y ∈ lastW l) : y ∈ l := by
  cases l with
  | nil => exact h
  | cons b l =>
    simp only [lastW, List.mem_singleton] at h
    rw [h]
    exact bst_mem b l
theorem lastW_length (l : List Wt) : (lastW l).length ≤ 1 := by cases l <;> simp [lastW]
end Go.Proofs.Ythekfmodafmlgaa
/- Members in order: which may be, and what becomes of them. Nothing of the program. -/
namespace Go.Proofs.Ythekfmodafmlgaa
open Go.RowKit Go.Sort

/-- A member's text. -/
abbrev tx (y : Mb) : Bs := bs y.x
/-- May it be a member? -/
def ib (y : Mb) : Bool := (y.b || decide (0 < y.ms.length)) && (decide (y.x.size ≤ 64) && ca y.ms)
def tlt (x y : Mb) : Bool := decide (tx x < tx y)
/-- The k-th may stand there. -/
def okb (l : List Mb) (k : Nat) (h : k < l.length) : Bool := ib l[k] && (decide (k = 0) || tlt (l[k - 1]'(by omega)) l[k])
def cb (l : List Mb) : Bool := decide (∀ k (h : k < l.length), okb l k h = true)
theorem cb_iff (l : List Mb) : cb l = true ↔ ∀ k (h : k < l.length), okb l k h = true := by simp [cb]
theorem cb_not {l : List Mb} {z : Bool} (HZ : Hid (cb l = z)) {k : Nat} (h : k < l.length) (h' : okb l k h = false) : Hid (z = false) := by
  show z = false
  have hz := HZ.out
  cases z
  · rfl
  · rw [(cb_iff l).1 hz k h] at h'
    cases h'
abbrev upm (l : List Mb) : Prop := l.Pairwise (fun a b => tx a < tx b)
theorem cb_pair (l : List Mb) : cb l = true ↔ (∀ y ∈ l, ib y = true) ∧ upm l := by
  rw [cb_iff]
  constructor
  · intro h
    refine ⟨fun y hy => ?_, ?_⟩
    · obtain ⟨k, hk, rfl⟩ := List.getElem_of_mem hy
      have := h k hk
      unfold okb at this
      exact (Bool.and_eq_true _ _ ▸ this).1
    · unfold upm
      rw [List.pairwise_iff_getElem]
      intro i j hi hj hij
      obtain ⟨d, rfl⟩ : ∃ d, j = i + 1 + d := ⟨j - (i + 1), by omega⟩
      clear hij
      have step : ∀ k (hk : k + 1 < l.length), tx l[k] < tx l[k + 1] := fun k hk => by
        have := h (k + 1) hk
        unfold okb at this
        have := (Bool.and_eq_true _ _ ▸ this).2
        simpa [tlt] using this
      induction d with
      | zero => exact step i hj
      | succ d ih => exact Bs.trans (ih (by omega) step) (step (i + 1 + d) (by omega))
  · rintro ⟨h1, h2⟩ k hk
    unfold okb
    rw [h1 _ (List.getElem_mem _), Bool.true_and]
    rcases Nat.eq_zero_or_pos k with rfl | hp
    · rfl
    · unfold upm at h2
      rw [List.pairwise_iff_getElem] at h2
      have := h2 (k - 1) k (by omega) hk (by omega)
      simp [tlt, this]
/-- Marks with one more, where it belongs, once. -/
def wth (l : List M) (m : M) : List M := if has m l = true then l else insF m l
theorem wth_length (l : List M) (m : M) : (wth l m).length ≤ l.length + 1 := by
  unfold wth
  split
  · omega
  · rw [insF_length]
    omega
theorem wth_ca {l : List M} {m : M} (h : ca l = true) (hi : im m.i = true) : ca (wth l m) = true := by
  unfold wth
  split
  · exact h
  · rename_i hn
    exact insF_ca h hi (by simpa using hn)
theorem insF_mem (x : M) (l : List M) (y : M) : y ∈ insF x l ↔ y = x ∨ y ∈ l := by
  unfold insF
  simp only [List.mem_append, List.mem_cons, List.mem_filter]
  cases h : lt y x
  · simp
  · simp
    exact ⟨fun k => k.elim .inr .inl, fun k => k.elim .inr .inl⟩
theorem mk_eq {x y : M} (h : mk x y = true) : x = y := by
  rw [mk_iff] at h
  obtain ⟨p, s, i⟩ := x
  obtain ⟨q, u, j⟩ := y
  simp only at h
  obtain ⟨rfl, rfl, rfl⟩ := h
  rfl
theorem wth_mem (l : List M) (m : M) : m ∈ wth l m := by
  unfold wth
  split
  · rename_i h
    unfold has at h
    obtain ⟨y, hy, e⟩ := List.any_eq_true.1 h
    rw [← mk_eq e]
    exact hy
  · exact (insF_mem m l m).2 (.inl rfl)
theorem wth_ne (l : List M) (m : M) : 0 < (wth l m).length := List.length_pos_of_mem (wth_mem l m)
/-- The member of a text. -/
def look (l : List Mb) (s : Bs) : Option Mb := l.find? (fun y => decide (tx y = s))
/-- A member put among rising ones, in its text's place. -/
def putL (y : Mb) (l : List Mb) : List Mb := l.filter (fun a => decide (tx a < tx y)) ++ y :: l.filter (fun a => decide (tx y < tx a))
def addY (l : List Mb) (s : ByteArray) (m : M) : Mb := ⟨s, ((look l (bs s)).map (·.b)).getD false, wth (((look l (bs s)).map (·.ms)).getD []) m⟩
def addL (l : List Mb) (s : ByteArray) (m : M) : List Mb := putL (addY l s m) l
/-- What is left of a member. -/
def dm (p : M → Bool) (y : Mb) : Option Mb := if (y.ms.filter (fun m => !p m)).length = 0 then none else some ⟨y.x, false, y.ms.filter (fun m => !p m)⟩
def wo (G : Mb → Bool) (p : M → Bool) (l : List Mb) : List Mb := l.filterMap (fun y => if G y = true then dm p y else some y)
/-- What is folded of a member. -/
def fdM (q : M → Bool) (y : Mb) : Mb := ⟨y.x, y.b || decide ((y.ms.filter (fun m => !q m)).length < y.ms.length), y.ms.filter (fun m => !q m)⟩
def fdL (q : M → Bool) (l : List Mb) : List Mb := l.map (fdM q)
def txL (l : List Mb) : List Bs := l.map tx
theorem upm_txL {l : List Mb} (h : upm l) : up (txL l) := by
  unfold up txL
  rw [List.pairwise_map]
  exact h
theorem upm_split {l : List Mb} (h : upm l) (s : Bs) : (∀ y ∈ l, tx y ≠ s) ∨ ∃ A y C, l = A ++ y :: C ∧ tx y = s ∧ (∀ a ∈ A, tx a < s) ∧ ∀ c ∈ C, s < tx c := by
  by_cases hs : ∃ y ∈ l, tx y = s
  · obtain ⟨y, hy, e⟩ := hs
    obtain ⟨A, C, rfl⟩ := List.append_of_mem hy
    right
    unfold upm at h
    rw [List.pairwise_append, List.pairwise_cons] at h
    exact ⟨A, y, C, rfl, e, fun a ha => by rw [← e]; exact h.2.2 a ha y (by simp), fun c hc => by rw [← e]; exact h.2.1.1 c hc⟩
  · left
    exact fun y hy e => hs ⟨y, hy, e⟩
theorem look_none {l : List Mb} {s : Bs} (h : ∀ y ∈ l, tx y ≠ s) : look l s = none := by
  unfold look
  rw [List.find?_eq_none]
  exact fun y hy => by simpa using h y hy
theorem look_mid {A C : List Mb} {y : Mb} {s : Bs} (e : tx y = s) (h : ∀ a ∈ A, tx a < s) : look (A ++ y :: C) s = some y := by
  unfold look
  rw [List.find?_append, List.find?_eq_none.2, Option.none_or, List.find?_cons_of_pos (by simpa using e)]
  intro a ha k
  have e2 : tx a = s := by simpa using k
  have h2 := h a ha
  rw [e2] at h2
  exact Bs.irr s h2
theorem putL_mid {A C : List Mb} {y z : Mb} (e : tx y = tx z) (h1 : ∀ a ∈ A, tx a < tx z) (h2 : ∀ c ∈ C, tx z < tx c) : putL z (A ++ y :: C) = A ++ z :: C := by
  unfold putL
  have e1 : A.filter (fun a => decide (tx a < tx z)) = A := List.filter_eq_self.2 (fun a ha => decide_eq_true (h1 a ha))
  have e2 : A.filter (fun a => decide (tx z < tx a)) = [] := List.filter_eq_nil_iff.2 (fun a ha => by simpa using Bs.le_of (h1 a ha))
  have e3 : C.filter (fun a => decide (tx a < tx z)) = [] := List.filter_eq_nil_iff.2 (fun a ha => by simpa using Bs.le_of (h2 a ha))
  have e4 : C.filter (fun a => decide (tx z < tx a)) = C := List.filter_eq_self.2 (fun a ha => decide_eq_true (h2 a ha))
  have n1 : ¬ tx y < tx z := by rw [e]; exact Bs.irr _
  have n2 : ¬ tx z < tx y := by rw [e]; exact Bs.irr _
  rw [List.filter_append, List.filter_append, List.filter_cons_of_neg (by simpa using n1), List.filter_cons_of_neg (by simpa using n2), e1, e2, e3, e4]
  simp
theorem filter_dm (p : M → Bool) (l : List M) : (l.filter (fun m => !p m)).filter (fun m => !p m) = l.filter (fun m => !p m) := by
  rw [List.filter_filter]
  congr 1
  funext m
  cases p m <;> rfl
theorem dm_tx {p : M → Bool} {y z : Mb} (h : dm p y = some z) : z.x = y.x := by
  unfold dm at h
  split at h
  · cases h
  · rw [← Option.some.inj h]
theorem dm_dm {p : M → Bool} {y z : Mb} (h : dm p y = some z) : dm p z = some z := by
  unfold dm at h
  split at h
  · cases h
  · rename_i hn
    rw [← Option.some.inj h]
    unfold dm
    simp only [filter_dm]
    rw [if_neg hn]
theorem wo_append (G : Mb → Bool) (p : M → Bool) (a b : List Mb) : wo G p (a ++ b) = wo G p a ++ wo G p b := by simp [wo]
theorem wo_none {G : Mb → Bool} {l : List Mb} (p : M → Bool) (h : ∀ y ∈ l, G y = false) : wo G p l = l := by
  unfold wo
  induction l with
  | nil => rfl
  | cons y l ih =>
    rw [List.filterMap_cons_some (b := y) (by rw [h y (by simp)]; rfl), ih (fun z hz => h z (by simp [hz]))]
/-- One text more. -/
theorem wo_more (G : List Bs) (s : Bs) (p : M → Bool) (l : List Mb) : wo (fun y => decide (tx y = s)) p (wo (fun y => decide (tx y ∈ G)) p l) = wo (fun y => decide (tx y ∈ G ++ [s])) p l := by
  unfold wo
  rw [List.filterMap_filterMap]
  congr 1
  funext y
  by_cases h1 : tx y ∈ G
  · have h2 : tx y ∈ G ++ [s] := by simp [h1]
    simp only [h1, h2, decide_true, if_true]
    cases h3 : dm p y with
    | none => rfl
    | some z =>
      simp only [Option.bind_some]
      by_cases h4 : tx z = s
      · simp only [h4, decide_true, if_true]
        exact dm_dm h3
      · simp [h4]
  · by_cases h4 : tx y = s
    · have h2 : s ∉ G := fun h => h1 (by rw [h4]; exact h)
      simp [h4, h2]
    · have h2 : tx y ∉ G ++ [s] := by simp [h1, h4]
      simp only [h1, h2, decide_false]
      simp [h4]
theorem wo_sub {G : Mb → Bool} {p : M → Bool} {l : List Mb} {z : Mb} (h : z ∈ wo G p l) : ∃ y ∈ l, (z = y ∨ dm p y = some z) := by
  unfold wo at h
  obtain ⟨y, hy, e⟩ := List.mem_filterMap.1 h
  refine ⟨y, hy, ?_⟩
  split at e
  · exact .inr e
  · exact .inl (Option.some.inj e).symm
theorem wo_tx {G : Mb → Bool} {p : M → Bool} {y z : Mb} (h : (if G y = true then dm p y else some y) = some z) : z.x = y.x := by
  split at h
  · exact dm_tx h
  · rw [← Option.some.inj h]
theorem wo_upm {l : List Mb} (h : upm l) (G : Mb → Bool) (p : M → Bool) : upm (wo G p l) := by
  unfold upm wo
  rw [List.pairwise_filterMap]
  refine pair_of h fun a b hab c hc d hd => ?_
  have e1 : tx c = tx a := by unfold tx; rw [wo_tx hc]
  have e2 : tx d = tx b := by unfold tx; rw [wo_tx hd]
  rw [e1, e2]
  exact hab
theorem dm_ib {p : M → Bool} {y z : Mb} (h : dm p y = some z) (hy : ib y = true) : ib z = true := by
  unfold dm at h
  split at h
  · cases h
  · rename_i hn
    rw [← Option.some.inj h]
    unfold ib at *
    simp only [Bool.and_eq_true, decide_eq_true_eq] at *
    refine ⟨by simpa using Nat.pos_of_ne_zero hn, hy.2.1, ca_filter hy.2.2 _⟩
theorem wo_cb {l : List Mb} (h : cb l = true) (G : Mb → Bool) (p : M → Bool) : cb (wo G p l) = true := by
  rw [cb_pair] at *
  refine ⟨fun z hz => ?_, wo_upm h.2 G p⟩
  obtain ⟨y, hy, rfl | e⟩ := wo_sub hz
  · exact h.1 _ hy
  · exact dm_ib e (h.1 _ hy)
theorem putL_upm {l : List Mb} (h : upm l) (y : Mb) : upm (putL y l) := by
  unfold upm putL
  rw [List.pairwise_append, List.pairwise_cons]
  refine ⟨h.filter _, ⟨fun a ha => by simpa using (List.mem_filter.1 ha).2, h.filter _⟩, fun a ha b hb => ?_⟩
  have h1 : tx a < tx y := by simpa using (List.mem_filter.1 ha).2
  rcases List.mem_cons.1 hb with rfl | hb
  · exact h1
  · exact Bs.trans h1 (by simpa using (List.mem_filter.1 hb).2)
theorem putL_sub {y z : Mb} {l : List Mb} (h : z ∈ putL y l) : z = y ∨ z ∈ l := by
  unfold putL at h
  rcases List.mem_append.1 h with h | h
  · exact .inr (List.mem_filter.1 h).1
  · rcases List.mem_cons.1 h with h | h
    · exact .inl h
    · exact .inr (List.mem_filter.1 h).1
theorem putL_cb {l : List Mb} (h : cb l = true) {y : Mb} (hy : ib y = true) : cb (putL y l) = true := by
  rw [cb_pair] at *
  refine ⟨fun z hz => ?_, putL_upm h.2 y⟩
  rcases putL_sub hz with rfl | k
  · exact hy
  · exact h.1 _ k
theorem look_mem {l : List Mb} {s : Bs} {y : Mb} (h : look l s = some y) : y ∈ l ∧ tx y = s := by
  unfold look at h
  exact ⟨List.mem_of_find?_eq_some h, by simpa using List.find?_some h⟩
theorem addY_ib {l : List Mb} (h : cb l = true) {s : ByteArray} {m : M} (hs : s.size ≤ 64) (hm : im m.i = true) : ib (addY l s m) = true := by
  unfold ib addY
  simp only [Bool.and_eq_true, decide_eq_true_eq]
  refine ⟨by simp [wth_ne], hs, wth_ca ?_ hm⟩
  cases e : look l (bs s) with
  | none => rfl
  | some y =>
    have := ((cb_pair l).1 h).1 y (look_mem e).1
    unfold ib at this
    simp only [Bool.and_eq_true, decide_eq_true_eq] at this
    exact this.2.2
theorem addL_cb {l : List Mb} (h : cb l = true) {s : ByteArray} {m : M} (hs : s.size ≤ 64) (hm : im m.i = true) : cb (addL l s m) = true := putL_cb h (addY_ib h hs hm)
theorem fdM_ib {y : Mb} (h : ib y = true) (q : M → Bool) : ib (fdM q y) = true := by
  unfold ib fdM at *
  simp only [Bool.and_eq_true, decide_eq_true_eq] at *
  refine ⟨?_, h.2.1, ca_filter h.2.2 _⟩
  have h1 := h.1
  have h2 := List.length_filter_le (fun m => !q m) y.ms
  rw [Bool.or_eq_true, decide_eq_true_eq] at h1
  rw [Bool.or_eq_true, Bool.or_eq_true, decide_eq_true_eq, decide_eq_true_eq]
  rcases h1 with h1 | h1
  · exact .inl (.inl h1)
  · by_cases h3 : (y.ms.filter (fun m => !q m)).length < y.ms.length
    · exact .inl (.inr h3)
    · exact .inr (by omega)
theorem fdL_cb {l : List Mb} (h : cb l = true) (q : M → Bool) : cb (fdL q l) = true := by
  rw [cb_pair] at *
  refine ⟨fun z hz => ?_, ?_⟩
  · obtain ⟨y, hy, rfl⟩ := List.mem_map.1 hz
    exact fdM_ib (h.1 y hy) q
  · unfold upm fdL
    rw [List.pairwise_map]
    exact h.2
/-- How long they become. -/
theorem putL_length (y : Mb) (l : List Mb) : (putL y l).length ≤ l.length + 1 := by
  unfold putL
  rw [List.length_append, List.length_cons]
  have : (l.filter (fun a => decide (tx a < tx y))).length + (l.filter (fun a => decide (tx y < tx a))).length ≤ l.length := by
    induction l with
    | nil => simp
    | cons a l ih =>
      rw [List.filter_cons, List.filter_cons, List.length_cons]
      by_cases h1 : tx a < tx y
      · have h2 : ¬ tx y < tx a := Bs.asymm h1
        rw [if_pos (decide_eq_true h1), if_neg (by simpa using h2), List.length_cons]
        omega
      · rw [if_neg (by simpa using h1)]
        split
        · rw [List.length_cons]
          omega
        · omega
  omega
theorem wo_length (G : Mb → Bool) (p : M → Bool) (l : List Mb) : (wo G p l).length ≤ l.length := List.length_filterMap_le _ _
theorem dm_length {p : M → Bool} {y z : Mb} (h : dm p y = some z) : z.ms.length ≤ y.ms.length := by
  unfold dm at h
  split at h
  · cases h
  · rw [← Option.some.inj h]
    exact List.length_filter_le _ _
end Go.Proofs.Ythekfmodafmlgaa
