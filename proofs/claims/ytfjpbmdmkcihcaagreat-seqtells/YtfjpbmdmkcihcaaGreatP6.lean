import Derived.Test.YtfjpbmdmkcihcaaGreatP5
import Derived.OwnWalk
import Derived.WalkMore
import Derived.Test.YtfjpbmdmkcihcaaGreatP1
import Derived.Shelf.SlSortCmp.NoneTotal
import Derived.Test.YtfjpbmdmkcihcaaGreatProg
/- isElem, checkElems of package seq. -/
namespace Go.Proofs.YtfjpbmdmkcihcaaGreat
open Go.RowKit

set_option maxHeartbeats 1000000 in
set_option maxRecDepth 100000 in
theorem isElem_any (y : El) (v : Value) (w : World) (h : MHas w v y.gone) : Calls Tryz.prog 32 #[EV (y, v)] w (Tells (.bool (ie y)) w) := by
  obtain ⟨z, HZ⟩ := hid_ex (ie y); rw [HZ.out]; obtain ⟨p, c, rfl⟩ := h.slice; have HM : Hid (MHas w (.slice p y.gone.length c) y.gone) := h; clear h
  have hz : Hid (z = (decide (1 ≤ y.i) && (decide (y.x.size ≤ 64) && ca y.gone))) := by
    show _ = _
    rw [← HZ.out]
    rfl
  clear HZ
  by_cases h1 : 1 ≤ y.i
  · by_cases h2 : y.x.size ≤ 64
    · obtain rfl : z = ca y.gone := by
        have := hz.out
        simpa [decide_eq_true h1, decide_eq_true h2] using this
      clear hz
      have h2' : (y.x.size : Int) ≤ 64 := by omega
      go_enter Tryz.func32, Tryz.ntmps32
      go_wp2_with fail; refine (checkMarks_any _ _ _ (HM.out.later (bel_alloc (Below.refl _ _) _))).mono ?_; rintro e w2 ⟨rfl, hb2⟩; go_wp2_with fail; go_ret; exact ⟨rfl, below_on (bel_alloc (Below.refl _ _) _) hb2⟩
    · obtain rfl : z = false := by
        have := hz.out
        simpa [decide_eq_false h2] using this
      clear hz
      have h2' : ¬ (y.x.size : Int) ≤ 64 := by omega
      go_enter Tryz.func32, Tryz.ntmps32
      go_wp2_with fail; go_ret; exact ⟨rfl, bel_alloc (Below.refl _ _) _⟩
  · obtain rfl : z = false := by
      have := hz.out
      simpa [decide_eq_false h1] using this
    clear hz
    go_enter Tryz.func32, Tryz.ntmps32
    go_wp2_with fail; go_ret; exact ⟨rfl, bel_alloc (Below.refl _ _) _⟩
set_option maxHeartbeats 4000000 in
set_option maxRecDepth 100000 in
theorem checkElems_any (v : Value) (l : List El) (w : World) (h : EHas w v l) : Calls Tryz.prog 25 #[v] w (Tells (.bool (ce l)) w) := by
  obtain ⟨z, HZ⟩ := hid_ex (ce l); rw [HZ.out]; obtain ⟨ys, hys, h, hy⟩ := h; have hml := maxLen_lt h.1; obtain ⟨p, c, rfl⟩ := h.slice
  have hyl : ys.length = l.length := by rw [← hys, List.length_map]
  have HR : Hid (SHas 9 w (.slice p l.length c) l.length (rows El.cells ys)) := h; have HY : Hid (∀ y ∈ ys, MHas w y.2 y.1.gone) := hy
  have HL : Hid (∀ k (h1 : k < ys.length) (h2 : k < l.length), ys[k].1 = l[k]) := fun k h1 h2 => by
    subst hys; rw [List.getElem_map]
  clear h hy hys
  go_enter Tryz.func25, Tryz.ntmps25
  go_wp2
  go_loopw [7] (fun vi wr => ∃ k : Nat, vi = .int .i64 k ∧ k ≤ l.length ∧ Hid (∀ i (h : i < l.length), i < k → oke l i h = true) ∧ Below w.heap.size w wr) (fun vi _ => l.length - (intOf vi).toNat)
  case atStart => exact ⟨0, rfl, by omega, (show ∀ i (_ : i < l.length), i < 0 → _ from fun i _ h => by omega), Below.refl _ _⟩
  case round =>
    obtain ⟨k, rfl, hk, HV, hbel⟩ := hrel
    by_cases hlt : k < l.length
    · have hlt' : (k : Int) < (l.length : Int) := by omega
      obtain ⟨g, o, rfl, hd0⟩ := HR.out.at (by omega); have hd := range_later hd0 hbel; have d : wr.rangeAt g (o + k * 9) (El.cells (ys[k]'(by omega))) := range_sub hd (k * 9) fun j u hu => rows_at El.len ys k (by omega) j u hu; have hyk := (HY.out ys[k] (List.getElem_mem _)).later hbel; obtain ⟨yy, HX⟩ := hid_ex (ys[k]'(by omega))
      have HX2 : Hid (l[k] = yy.1) := by
        show _ = _
        rw [← HL.out k (by omega) hlt, HX.out]
      rw [HX.out] at d hyk; obtain ⟨y, yv⟩ := yy; replace hyk : MHas wr yv y.gone := hyk; obtain ⟨py, cy, rfl⟩ := hyk.slice; replace d : wr.rangeAt g (o + k * 9) [Value.int .i64 y.p, .int .i64 y.s, .int .i64 y.i, .int .i64 y.t, .int .i64 y.q, .int .i64 y.u, .int .i64 y.j, .string y.x, .slice py y.gone.length cy] := d; replace HX2 : Hid (l[k] = y) := HX2; clear hd0 HR HY HX; have zb : (Tryz.prog.info? 60).map (·.size) = some [Value.int .i64 y.p, .int .i64 y.s, .int .i64 y.i, .int .i64 y.t, .int .i64 y.q, .int .i64 y.u, .int .i64 y.j, .string y.x, .slice py y.gone.length cy].length := size60; have R := rw_new wr 60 #[.int .i64 y.p, .int .i64 y.s, .int .i64 y.i, .int .i64 y.t, .int .i64 y.q, .int .i64 y.u, .int .i64 y.j, .string y.x, .slice py y.gone.length cy]; have hbA := bel_alloc (Below.refl wr.heap.size wr) (.cells #[.int .i64 y.p, .int .i64 y.s, .int .i64 y.i, .int .i64 y.t, .int .i64 y.q, .int .i64 y.u, .int .i64 y.j, .string y.x, .slice py y.gone.length cy] 60); replace hbel := bel_alloc hbel (.cells #[.int .i64 y.p, .int .i64 y.s, .int .i64 y.i, .int .i64 y.t, .int .i64 y.q, .int .i64 y.u, .int .i64 y.j, .string y.x, .slice py y.gone.length cy] 60); replace hyk := hyk.later hbA; obtain ⟨y1, HY1⟩ := hid_ex (ie y)
      have C1 : ∀ w, MHas w (.slice py y.gone.length cy) y.gone → Calls Tryz.prog 32 #[EV (y, .slice py y.gone.length cy)] w (Tells (.bool y1) w) := fun w h => by rw [← HY1.out]; exact isElem_any y _ w h
      cases y1
      · have HF := ce_not HZ hlt (show oke l k hlt = false by unfold oke; rw [HX2.out, HY1.out]; rfl)
        have e := HF.out; subst e; clear HZ HF HV
        go_wp2_with (refine load_m 60 _ rfl rfl _ _ rfl d Tryz.underlying60 rfl zb ?_)
        clear hd d
        have hs : Calm.Stays (fun w' => Rw w' wr.heap.size 60 #[.int .i64 y.p, .int .i64 y.s, .int .i64 y.i, .int .i64 y.t, .int .i64 y.q, .int .i64 y.u, .int .i64 y.j, .string y.x, .slice py y.gone.length cy] ∧ MHas w' (.slice py y.gone.length cy) y.gone ∧ Below w.heap.size w w') := fun wa wb h hb => ⟨h.1.later hb, h.2.1.later hb, below_on h.2.2 hb⟩
        refine Calm.region (by kernel_rfl) (by kernel_rfl) (fun w' => Rw w' wr.heap.size 60 #[.int .i64 y.p, .int .i64 y.s, .int .i64 y.i, .int .i64 y.t, .int .i64 y.q, .int .i64 y.u, .int .i64 y.j, .string y.x, .slice py y.gone.length cy] ∧ MHas w' (.slice py y.gone.length cy) y.gone ∧ Below w.heap.size w w') ⟨R, hyk, hbel.drew⟩ ?_
        all_goals
          refine Calm.loadM 60 Tryz.underlying60 rfl zb (by rfl) _ rfl rfl (fun _ h => Rw.whole h.1) ?_; simp only [put4]
        all_goals
          refine Calm.call1s (by rfl) rfl rfl (by kernel_rfl) hs (fun w1 h => C1 w1 h.2.1) ?_; simp only [put4]
        iterate 2
          all_goals
            refine Calm.pure (v := ?_) (by rfl) ?_ ?_; rotate_left; focus (intro w hSw; go_simp <;> rfl)
            simp only [put4]
        iterate 11
          all_goals
            first
              | (refine Calm.skip ?_ ?_; focus rfl)
              | (refine Calm.pure (v := ?_) (by rfl) ?_ ?_
                 rotate_left
                 focus (intro w hSw; go_simp <;> rfl))
            simp only [put4]
        all_goals
          first
            | (refine Calm.skip ?_ ?_; focus rfl)
            | (refine Calm.call2s (by rfl) rfl rfl rfl (by kernel_rfl) hs (fun w1 h => C1 w1 h.2.1) ?_)
          simp only [put4]
        iterate 2
          all_goals
            first
              | (refine Calm.skip ?_ ?_; focus rfl)
              | (refine Calm.pure (v := ?_) (by rfl) ?_ ?_
                 rotate_left
                 focus (intro w hSw; go_simp <;> rfl))
            simp only [put4]
        all_goals
          refine Calm.pure (v := ?_) (by rfl) ?_ ?_; rotate_left; focus (intro w hSw; go_simp <;> rfl)
          simp only [put4]
        all_goals
          rintro w9 ⟨_, _, hbel9⟩
        go_wp2_with fail; go_ret; exact ⟨rfl, hbel9⟩
      · rcases Nat.eq_zero_or_pos k with rfl | hpos
        · have HV2 : Hid (∀ i (h : i < l.length), i < 0 + 1 → oke l i h = true) := fun i h hi => by
            obtain rfl : i = 0 := by omega
            unfold oke; rw [HX2.out, HY1.out]
            rfl
          go_wp2_with (refine load_m 60 _ rfl rfl _ _ rfl d Tryz.underlying60 rfl zb ?_)
          clear hd d HV
          have hs : Calm.Stays (fun w' => Rw w' wr.heap.size 60 #[.int .i64 y.p, .int .i64 y.s, .int .i64 y.i, .int .i64 y.t, .int .i64 y.q, .int .i64 y.u, .int .i64 y.j, .string y.x, .slice py y.gone.length cy] ∧ MHas w' (.slice py y.gone.length cy) y.gone ∧ Below w.heap.size w w') := fun wa wb h hb => ⟨h.1.later hb, h.2.1.later hb, below_on h.2.2 hb⟩
          refine Calm.region (by kernel_rfl) (by kernel_rfl) (fun w' => Rw w' wr.heap.size 60 #[.int .i64 y.p, .int .i64 y.s, .int .i64 y.i, .int .i64 y.t, .int .i64 y.q, .int .i64 y.u, .int .i64 y.j, .string y.x, .slice py y.gone.length cy] ∧ MHas w' (.slice py y.gone.length cy) y.gone ∧ Below w.heap.size w w') ⟨R, hyk, hbel.drew⟩ ?_
          all_goals
            refine Calm.loadM 60 Tryz.underlying60 rfl zb (by rfl) _ rfl rfl (fun _ h => Rw.whole h.1) ?_; simp only [put4]
          all_goals
            refine Calm.call1s (by rfl) rfl rfl (by kernel_rfl) hs (fun w1 h => C1 w1 h.2.1) ?_; simp only [put4]
          iterate 2
            all_goals
              refine Calm.pure (v := ?_) (by rfl) ?_ ?_; rotate_left; focus (intro w hSw; go_simp <;> rfl)
              simp only [put4]
          iterate 11
            all_goals
              first
                | (refine Calm.skip ?_ ?_; focus rfl)
                | (refine Calm.pure (v := ?_) (by rfl) ?_ ?_
                   rotate_left
                   focus (intro w hSw; go_simp <;> rfl))
              simp only [put4]
          all_goals
            first
              | (refine Calm.skip ?_ ?_; focus rfl)
              | (refine Calm.call2s (by rfl) rfl rfl rfl (by kernel_rfl) hs (fun w1 h => C1 w1 h.2.1) ?_)
            simp only [put4]
          iterate 2
            all_goals
              first
                | (refine Calm.skip ?_ ?_; focus rfl)
                | (refine Calm.pure (v := ?_) (by rfl) ?_ ?_
                   rotate_left
                   focus (intro w hSw; go_simp <;> rfl))
              simp only [put4]
          all_goals
            refine Calm.pure (v := ?_) (by rfl) ?_ ?_; rotate_left; focus (intro w hSw; go_simp <;> rfl)
            simp only [put4]
          all_goals
            rintro w9 ⟨_, _, hbel9⟩
          go_wp2_with fail; go_roundw
          case rel => exact ⟨0 + 1, by simp, by omega, HV2, hbel9⟩
          case measure => simp [intOf]; omega
        · obtain ⟨m, rfl⟩ : ∃ m, k = m + 1 := ⟨k - 1, by omega⟩
          have d2' : wr.rangeAt g (o + m * 9) (El.cells (ys[m]'(by omega))) := range_sub hd (m * 9) fun j u hu => rows_at El.len ys m (by omega) j u hu; obtain ⟨uu, HU⟩ := hid_ex (ys[m]'(by omega))
          have HU2 : Hid (l[m] = uu.1) := by
            show _ = _
            rw [← HL.out m (by omega) (by omega), HU.out]
          rw [HU.out] at d2'; obtain ⟨u, uv⟩ := uu; replace HU2 : Hid (l[m] = u) := HU2
          have d2 : (wr.alloc (.cells #[.int .i64 y.p, .int .i64 y.s, .int .i64 y.i, .int .i64 y.t, .int .i64 y.q, .int .i64 y.u, .int .i64 y.j, .string y.x, .slice py y.gone.length cy] 60)).rangeAt g (o + m * 9) [Value.int .i64 u.p, .int .i64 u.s, .int .i64 u.i] := range_later (range_sub (o := o + m * 9) (xs := El.cells (u, uv)) d2' 0 (fun j a ha => by
            rw [Nat.zero_add]
            match j, ha with
            | 0, h => exact h
            | 1, h => exact h
            | 2, h => exact h
            | j + 3, h => simp at h)) hbA
          have d3 : (wr.alloc (.cells #[.int .i64 y.p, .int .i64 y.s, .int .i64 y.i, .int .i64 y.t, .int .i64 y.q, .int .i64 y.u, .int .i64 y.j, .string y.x, .slice py y.gone.length cy] 60)).rangeAt wr.heap.size 0 [Value.int .i64 y.p, .int .i64 y.s, .int .i64 y.i] := R.range 0 _ (fun j a ha => by
            rw [Nat.zero_add]
            match j, ha with
            | 0, h => exact h
            | 1, h => exact h
            | 2, h => exact h
            | j + 3, h => simp at h)
          have zu : (Tryz.prog.info? 36).map (·.size) = some [Value.int .i64 u.p, .int .i64 u.s, .int .i64 u.i].length := size36; have zy : (Tryz.prog.info? 36).map (·.size) = some [Value.int .i64 y.p, .int .i64 y.s, .int .i64 y.i].length := size36
          have hm1 : IntKind.i64.wrap (((m + 1 : Nat) : Int) - 1) = (m : Int) := by rw [IntKind.wrap_i64]; omega
          have hm3 : IntKind.i64.wrap (m : Int) = (m : Int) := by rw [IntKind.wrap_i64]; omega
          have hpos' : (0 : Int) < ((m + 1 : Nat) : Int) := by omega
          have hm0 : (0 : Int) ≤ (m : Int) := by omega
          have hm2 : (m : Int) < (l.length : Int) := by omega
          have HO : Hid (oke l (m + 1) hlt = kl (kE u) (kE y)) := by
            show _ = _
            unfold oke; rw [HX2.out, HY1.out]; simp only [Nat.add_sub_cancel, HU2.out]
            simp
          obtain ⟨y2, HY2⟩ := hid_ex (kl (kE u) (kE y))
          have C2 : ∀ w, Calls Tryz.prog 50 #[MV u.p u.s u.i, MV y.p y.s y.i] w (Tells (.bool y2) w) := fun w => by rw [← HY2.out]; exact less_any u.p u.s u.i y.p y.s y.i w
          rw [HY2.out] at HO; clear HU HU2 HX2 HY1 HY2 d2'
          cases y2
          · have HF := ce_not HZ hlt HO.out
            have e := HF.out; subst e; clear HZ HF HV HO
            go_wp2_with (refine load_m 60 _ rfl rfl _ _ rfl d Tryz.underlying60 rfl zb ?_)
            clear hd d
            have hs : Calm.Stays (fun w' => Rw w' wr.heap.size 60 #[.int .i64 y.p, .int .i64 y.s, .int .i64 y.i, .int .i64 y.t, .int .i64 y.q, .int .i64 y.u, .int .i64 y.j, .string y.x, .slice py y.gone.length cy] ∧ MHas w' (.slice py y.gone.length cy) y.gone ∧ w'.rangeAt g (o + m * 9) [Value.int .i64 u.p, .int .i64 u.s, .int .i64 u.i] ∧ w'.rangeAt wr.heap.size 0 [Value.int .i64 y.p, .int .i64 y.s, .int .i64 y.i] ∧ Below w.heap.size w w') := fun wa wb h hb => ⟨h.1.later hb, h.2.1.later hb, range_later h.2.2.1 hb, range_later h.2.2.2.1 hb, below_on h.2.2.2.2 hb⟩
            refine Calm.region (by kernel_rfl) (by kernel_rfl) (fun w' => Rw w' wr.heap.size 60 #[.int .i64 y.p, .int .i64 y.s, .int .i64 y.i, .int .i64 y.t, .int .i64 y.q, .int .i64 y.u, .int .i64 y.j, .string y.x, .slice py y.gone.length cy] ∧ MHas w' (.slice py y.gone.length cy) y.gone ∧ w'.rangeAt g (o + m * 9) [Value.int .i64 u.p, .int .i64 u.s, .int .i64 u.i] ∧ w'.rangeAt wr.heap.size 0 [Value.int .i64 y.p, .int .i64 y.s, .int .i64 y.i] ∧ Below w.heap.size w w') ⟨R, hyk, d2, d3, hbel.drew⟩ ?_
            all_goals
              refine Calm.loadM 60 Tryz.underlying60 rfl zb (by rfl) _ rfl rfl (fun _ h => Rw.whole h.1) ?_; simp only [put4]
            all_goals
              refine Calm.call1s (by rfl) rfl rfl (by kernel_rfl) hs (fun w1 h => C1 w1 h.2.1) ?_; simp only [put4]
            iterate 2
              all_goals
                refine Calm.pure (v := ?_) (by rfl) ?_ ?_; rotate_left; focus (intro w hSw; go_simp <;> rfl)
                simp only [put4]
            iterate 8
              all_goals
                first
                  | (refine Calm.skip ?_ ?_; focus rfl)
                  | (refine Calm.pure (v := ?_) (by rfl) ?_ ?_
                     rotate_left
                     focus (intro w hSw; go_simp <;> rfl))
                simp only [put4]
            all_goals
              first
                | (refine Calm.skip ?_ ?_; focus rfl)
                | (first | (refine Calm.loadM 36 Tryz.underlying36 rfl zu (by rfl) _ rfl rfl (fun _ h => h.2.2.1) ?_) | (refine Calm.loadM 36 Tryz.underlying36 rfl zy (by rfl) _ rfl rfl (fun _ h => h.2.2.2.1) ?_))
              simp only [put4]
            all_goals
              first
                | (refine Calm.skip ?_ ?_; focus rfl)
                | (refine Calm.pure (v := ?_) (by rfl) ?_ ?_
                   rotate_left
                   focus (intro w hSw; go_simp <;> rfl))
              simp only [put4]
            all_goals
              first
                | (refine Calm.skip ?_ ?_; focus rfl)
                | (first | (refine Calm.loadM 36 Tryz.underlying36 rfl zu (by rfl) _ rfl rfl (fun _ h => h.2.2.1) ?_) | (refine Calm.loadM 36 Tryz.underlying36 rfl zy (by rfl) _ rfl rfl (fun _ h => h.2.2.2.1) ?_))
              simp only [put4]
            all_goals
              first
                | (refine Calm.skip ?_ ?_; focus rfl)
                | (refine Calm.call2s (by rfl) rfl rfl rfl (by kernel_rfl) hs (fun w1 h => C2 w1) ?_)
              simp only [put4]
            iterate 2
              all_goals
                first
                  | (refine Calm.skip ?_ ?_; focus rfl)
                  | (refine Calm.pure (v := ?_) (by rfl) ?_ ?_
                     rotate_left
                     focus (intro w hSw; go_simp <;> rfl))
                simp only [put4]
            all_goals
              refine Calm.pure (v := ?_) (by rfl) ?_ ?_; rotate_left; focus (intro w hSw; go_simp <;> rfl)
              simp only [put4]
            all_goals
              rintro w9 ⟨_, _, _, _, hbel9⟩
            go_wp2_with fail; go_ret; exact ⟨rfl, hbel9⟩
          · have HV2 : Hid (∀ i (h : i < l.length), i < m + 1 + 1 → oke l i h = true) := fun i h hi => by
              rcases Nat.lt_or_ge i (m + 1) with h' | h'
              · exact HV.out i h h'
              · obtain rfl : i = m + 1 := by omega
                exact HO.out
            clear HV HO
            go_wp2_with (refine load_m 60 _ rfl rfl _ _ rfl d Tryz.underlying60 rfl zb ?_)
            clear hd d
            have hs : Calm.Stays (fun w' => Rw w' wr.heap.size 60 #[.int .i64 y.p, .int .i64 y.s, .int .i64 y.i, .int .i64 y.t, .int .i64 y.q, .int .i64 y.u, .int .i64 y.j, .string y.x, .slice py y.gone.length cy] ∧ MHas w' (.slice py y.gone.length cy) y.gone ∧ w'.rangeAt g (o + m * 9) [Value.int .i64 u.p, .int .i64 u.s, .int .i64 u.i] ∧ w'.rangeAt wr.heap.size 0 [Value.int .i64 y.p, .int .i64 y.s, .int .i64 y.i] ∧ Below w.heap.size w w') := fun wa wb h hb => ⟨h.1.later hb, h.2.1.later hb, range_later h.2.2.1 hb, range_later h.2.2.2.1 hb, below_on h.2.2.2.2 hb⟩
            refine Calm.region (by kernel_rfl) (by kernel_rfl) (fun w' => Rw w' wr.heap.size 60 #[.int .i64 y.p, .int .i64 y.s, .int .i64 y.i, .int .i64 y.t, .int .i64 y.q, .int .i64 y.u, .int .i64 y.j, .string y.x, .slice py y.gone.length cy] ∧ MHas w' (.slice py y.gone.length cy) y.gone ∧ w'.rangeAt g (o + m * 9) [Value.int .i64 u.p, .int .i64 u.s, .int .i64 u.i] ∧ w'.rangeAt wr.heap.size 0 [Value.int .i64 y.p, .int .i64 y.s, .int .i64 y.i] ∧ Below w.heap.size w w') ⟨R, hyk, d2, d3, hbel.drew⟩ ?_
            all_goals
              refine Calm.loadM 60 Tryz.underlying60 rfl zb (by rfl) _ rfl rfl (fun _ h => Rw.whole h.1) ?_; simp only [put4]
            all_goals
              refine Calm.call1s (by rfl) rfl rfl (by kernel_rfl) hs (fun w1 h => C1 w1 h.2.1) ?_; simp only [put4]
            iterate 2
              all_goals
                refine Calm.pure (v := ?_) (by rfl) ?_ ?_; rotate_left; focus (intro w hSw; go_simp <;> rfl)
                simp only [put4]
            iterate 8
              all_goals
                first
                  | (refine Calm.skip ?_ ?_; focus rfl)
                  | (refine Calm.pure (v := ?_) (by rfl) ?_ ?_
                     rotate_left
                     focus (intro w hSw; go_simp <;> rfl))
                simp only [put4]
            all_goals
              first
                | (refine Calm.skip ?_ ?_; focus rfl)
                | (first | (refine Calm.loadM 36 Tryz.underlying36 rfl zu (by rfl) _ rfl rfl (fun _ h => h.2.2.1) ?_) | (refine Calm.loadM 36 Tryz.underlying36 rfl zy (by rfl) _ rfl rfl (fun _ h => h.2.2.2.1) ?_))
              simp only [put4]
            all_goals
              first
                | (refine Calm.skip ?_ ?_; focus rfl)
                | (refine Calm.pure (v := ?_) (by rfl) ?_ ?_
                   rotate_left
                   focus (intro w hSw; go_simp <;> rfl))
              simp only [put4]
            all_goals
              first
                | (refine Calm.skip ?_ ?_; focus rfl)
                | (first | (refine Calm.loadM 36 Tryz.underlying36 rfl zu (by rfl) _ rfl rfl (fun _ h => h.2.2.1) ?_) | (refine Calm.loadM 36 Tryz.underlying36 rfl zy (by rfl) _ rfl rfl (fun _ h => h.2.2.2.1) ?_))
              simp only [put4]
            all_goals
              first
                | (refine Calm.skip ?_ ?_; focus rfl)
                | (refine Calm.call2s (by rfl) rfl rfl rfl (by kernel_rfl) hs (fun w1 h => C2 w1) ?_)
              simp only [put4]
            iterate 2
              all_goals
                first
                  | (refine Calm.skip ?_ ?_; focus rfl)
                  | (refine Calm.pure (v := ?_) (by rfl) ?_ ?_
                     rotate_left
                     focus (intro w hSw; go_simp <;> rfl))
                simp only [put4]
            all_goals
              refine Calm.pure (v := ?_) (by rfl) ?_ ?_; rotate_left; focus (intro w hSw; go_simp <;> rfl)
              simp only [put4]
            all_goals
              rintro w9 ⟨_, _, _, _, hbel9⟩
            go_wp2_with fail; go_roundw
            case rel => exact ⟨m + 1 + 1, by simp, by omega, HV2, hbel9⟩
            case measure => simp [intOf]; omega
    · have hlt' : ¬ (k : Int) < (l.length : Int) := by omega
      have e := HZ.out; rw [(ce_iff l).2 (fun i h => HV.out i h (by omega))] at e; subst e; clear HZ HV HR HY HL; go_wp2_with fail; go_ret; exact ⟨rfl, hbel⟩
end Go.Proofs.YtfjpbmdmkcihcaaGreat
/- find of package seq; rows of numbers of one's own. -/
namespace Go.Proofs.YtfjpbmdmkcihcaaGreat
open Go.RowKit

/-- Where an element of a mark stands, or would stand, and whether it is there. -/
def FePost (l : List El) (x : K) (w : World) (e : Ending) (w' : World) : Prop := ∃ (k : Nat) (b : Bool), e = .returned (.tuple #[.int .i64 k, .bool b]) ∧ k ≤ l.length ∧ (∀ j (h : j < l.length), j < k → kl (kE l[j]) x = true) ∧ (∀ j (h : j < l.length), k ≤ j → kl (kE l[j]) x = false) ∧ pl l x = (if b = true then some k else none) ∧ Below w.heap.size w w'
theorem fd_pl {l : List El} {x : K} {k : Nat} {b : Bool} (hp : l.Pairwise (fun a b => kl (kE a) (kE b) = true)) (h1 : ∀ j (h : j < l.length), j < k → kl (kE l[j]) x = true) (h2 : ∀ j (h : j < l.length), k ≤ j → kl (kE l[j]) x = false) (hb : b = true ↔ ∃ h : k < l.length, kE l[k] = x) : pl l x = (if b = true then some k else none) := by
  cases b
  · rw [if_neg (by simp), pl_none]
    intro y hy e; obtain ⟨j, hj, rfl⟩ := List.getElem_of_mem hy
    rcases Nat.lt_trichotomy j k with h' | h' | h'
    · have := h1 j hj h'
      rw [e, kl_irr] at this
      cases this
    · subst h'
      have := hb.2 ⟨hj, e⟩
      cases this
    · have a1 := h2 k (by omega) (Nat.le_refl _)
      have a2 : kl (kE l[k]) (kE l[j]) = true := (List.pairwise_iff_getElem.1 hp) k j (by omega) hj h'; rw [e, a1] at a2
      cases a2
  · obtain ⟨h, e⟩ := hb.1 rfl
    rw [if_pos rfl, ← e, pl_at hp h]
set_option maxHeartbeats 1000000 in
set_option maxRecDepth 100000 in
theorem find_any (v : Value) (l : List El) (x : M) (w : World) (h : EHas w v l) (hl : l.length ≤ 100) (hp : l.Pairwise (fun a b => kl (kE a) (kE b) = true)) : Calls Tryz.prog 34 #[v, MV x.p x.s x.i] w (FePost l (kM x) w) := by
  obtain ⟨ys, hys, h, hy⟩ := h
  have hyl : l.length = ys.length := by rw [← hys, List.length_map]
  have hbA := bel_alloc (Below.refl w.heap.size w) (.cells #[.int .i64 x.p, .int .i64 x.s, .int .i64 x.i] 36); replace h := h.later hbA
  have hpy : ys.Pairwise (fun a b => kl (kY a) (kY b) = true) := by
    rw [← hys, List.pairwise_map] at hp; exact hp
  rw [hyl] at h; have C1 := findE_any v ys x _ h (by omega) hpy; obtain ⟨p, c, rfl⟩ := h.slice
  have HH : Hid (∀ (k : Nat) (b : Bool) (w1 : World), k ≤ ys.length → (∀ j (h : j < ys.length), j < k → kl (kY ys[j]) (kM x) = true) → (∀ j (h : j < ys.length), k ≤ j → kl (kY ys[j]) (kM x) = false) → (b = true ↔ ∃ h : k < ys.length, kY ys[k] = kM x) → Below w.heap.size w w1 → FePost l (kM x) w (.returned (.tuple #[.int .i64 k, .bool b])) w1) := fun k b w1 a1 a2 a3 a4 a5 => by
    subst hys
    have g : ∀ j (h : j < (ys.map (·.1)).length), kE (ys.map (·.1))[j] = kY (ys[j]'(by simpa using h)) := fun j h => by rw [List.getElem_map]
    have b1 : ∀ j (h : j < (ys.map (·.1)).length), j < k → kl (kE (ys.map (·.1))[j]) (kM x) = true := fun j h hj => by rw [g j h]; exact a2 j _ hj
    have b2 : ∀ j (h : j < (ys.map (·.1)).length), k ≤ j → kl (kE (ys.map (·.1))[j]) (kM x) = false := fun j h hj => by rw [g j h]; exact a3 j _ hj
    refine ⟨k, b, rfl, by rw [List.length_map]; exact a1, b1, b2, fd_pl hp b1 b2 ?_, a5⟩; rw [a4]
    constructor
    · rintro ⟨h, e⟩
      exact ⟨by rw [List.length_map]; exact h, by rw [g]; exact e⟩
    · rintro ⟨h, e⟩
      rw [g] at e; exact ⟨_, e⟩
  clear hys hy hp hpy h; have R := rw_new w 36 #[.int .i64 x.p, .int .i64 x.s, .int .i64 x.i]; generalize hW : w.alloc (.cells #[.int .i64 x.p, .int .i64 x.s, .int .i64 x.i] 36) = w0 at hbA C1 R; have c0 : w0.cell? ⟨w.heap.size, 0, none⟩ = some (.int .i64 x.p) := R.cell 0; have c1 : w0.cell? ⟨w.heap.size, 1, none⟩ = some (.int .i64 x.s) := R.cell 1; have c2 : w0.cell? ⟨w.heap.size, 2, none⟩ = some (.int .i64 x.i) := R.cell 2
  go_enter Tryz.func34, Tryz.ntmps34
  go_wp2_with (first | rw [hW])
  clear hW c0 c1 c2 R; refine C1.mono ?_; rintro e w1 ⟨k, b, rfl, a1, a2, a3, a4, hb1⟩; have HF := HH.out k b w1 a1 a2 a3 a4 (below_on hbA hb1); have HG : Hid (FePost l (kM x) w (.returned (.tuple #[.int .i64 k, .bool b])) w1) := HF; clear HF HH a1 a2 a3 a4 hb1 hbA C1; go_wp2_with fail; refine bodyPost_ret (v := .tuple #[.int .i64 k, .bool b]) (by simp [results, Tryz.results34, go_sem]) rfl ?_; exact HG.out
/-- Numbers, as cells; and truths. -/
def iv (l : List Nat) : List Value := l.map (fun a : Nat => Value.int .i64 (a : Int))
def bv (l : List Bool) : List Value := l.map Value.bool
theorem iv_len (l : List Nat) : (iv l).length = l.length := List.length_map _
theorem bv_len (l : List Bool) : (bv l).length = l.length := List.length_map _
theorem iv_at {l : List Nat} {k : Nat} (h : k < l.length) : (iv l)[k]? = some (.int .i64 (l[k] : Int)) := by simp [iv, List.getElem?_eq_getElem h]
theorem bv_at {l : List Bool} {k : Nat} (h : k < l.length) : (bv l)[k]? = some (.bool l[k]) := by simp [bv, List.getElem?_eq_getElem h]
theorem iv_set (l : List Nat) (k a : Nat) : iv (l.set k a) = (iv l).set k (.int .i64 (a : Int)) := List.map_set
theorem bv_set (l : List Bool) (k : Nat) (a : Bool) : bv (l.set k a) = (bv l).set k (.bool a) := List.map_set
theorem iv_made (n : Nat) : (madeCells #[Value.int .i64 0] n).toList = iv (List.replicate n 0) := by
  apply List.ext_getElem?
  intro i
  simp [madeCells, iv]
  by_cases h : i < n <;> simp [h, Nat.mod_one]
theorem bv_made (n : Nat) : (madeCells #[Value.bool false] n).toList = bv (List.replicate n false) := by
  apply List.ext_getElem?
  intro i
  simp [madeCells, bv]
  by_cases h : i < n <;> simp [h, Nat.mod_one]
theorem own_fz {w : World} {B e S n g c : Nat} {xs : List Value} (h : w.ownsRow B e S (.slice (some ⟨g, 0, none⟩) n c) n xs) (i : Nat) : w.frozen? ⟨g, i, none⟩ = false := by
  obtain ⟨h1, ⟨h0, _⟩ | ⟨g', cap, cur, h', hbg, hg, h2⟩⟩ := h
  · cases h0
  · simp only [Value.slice.injEq, Option.some.injEq, Addr.mk.injEq, and_true, true_and] at h'
    obtain ⟨rfl, rfl⟩ := h'; exact Rw.frozen hg i
theorem own_ge {w : World} {B e S n g c : Nat} {xs : List Value} (h : w.ownsRow B e S (.slice (some ⟨g, 0, none⟩) n c) n xs) : B ≤ g ∧ g < w.heap.size := World.ownsRow.lt h g rfl
/-- A number of a row is written. -/
theorem own_iset {w : World} {B e n g c : Nat} {l : List Nat} (h : w.ownsRow B e 1 (.slice (some ⟨g, 0, none⟩) n c) n (iv l)) (k a : Nat) : (w.setCell ⟨g, k, none⟩ (.int .i64 (a : Int))).ownsRow B e 1 (.slice (some ⟨g, 0, none⟩) n c) n (iv (l.set k a)) := by
  rw [iv_set]; exact (h.stored k _).1
theorem own_bset {w : World} {B e n g c : Nat} {l : List Bool} (h : w.ownsRow B e 1 (.slice (some ⟨g, 0, none⟩) n c) n (bv l)) (k : Nat) (a : Bool) : (w.setCell ⟨g, k, none⟩ (.bool a)).ownsRow B e 1 (.slice (some ⟨g, 0, none⟩) n c) n (bv (l.set k a)) := by
  rw [bv_set]; exact (h.stored k _).1
theorem own_iat {w : World} {B e n g c : Nat} {l : List Nat} (h : w.ownsRow B e 1 (.slice (some ⟨g, 0, none⟩) n c) n (iv l)) {k : Nat} (hk : k < l.length) : w.cell? ⟨g, k, none⟩ = some (.int .i64 (l[k] : Int)) := by
  have := h.1
  rw [iv_len] at this; rw [h.cellAt k (by omega)]; exact iv_at hk
theorem own_bat {w : World} {B e n g c : Nat} {l : List Bool} (h : w.ownsRow B e 1 (.slice (some ⟨g, 0, none⟩) n c) n (bv l)) {k : Nat} (hk : k < l.length) : w.cell? ⟨g, k, none⟩ = some (.bool l[k]) := by
  have := h.1
  rw [bv_len] at this; rw [h.cellAt k (by omega)]; exact bv_at hk
theorem below_cell {w w' : World} {B g : Nat} (h : Below B w w') (hg : B ≤ g) (k : Nat) (u : Value) : Below B w (w'.setCell ⟨g, k, none⟩ u) :=
  ⟨h.os, h.tape, h.output, by rw [World.size_setCell]; exact h.size, fun b hb => (Below.heap_setCell w' ⟨g, k, none⟩ u b (by simp; omega)).trans (h.block b hb)⟩
theorem bel_grown {a b : World} (h : a.grownBy b none) : Below a.heap.size a b := ⟨h.os, h.tape, h.output, h.size, fun k hk => h.block k hk (by simp)⟩
theorem info3 : (Tryz.prog.info? 3).map (fun i => (i.zero, i.size, i.bytes)) = some (some (.int .i64 0), 1, 8) := by kernel_rfl
theorem info4 : (Tryz.prog.info? 4).map (fun i => (i.zero, i.size, i.bytes)) = some (some (.bool false), 1, 1) := by kernel_rfl
end Go.Proofs.YtfjpbmdmkcihcaaGreat
/- aheads of package seq: the place that each element stands behind. -/
namespace Go.Proofs.YtfjpbmdmkcihcaaGreat
open Go.RowKit

/-- All places' places ahead. -/
def ups (l : List El) : List Nat := (List.range (l.length + 1)).map (upL l)
theorem ups_len (l : List El) : (ups l).length = l.length + 1 := by simp [ups]
theorem ups_at {l : List El} {k : Nat} (h : k < (ups l).length) : (ups l)[k] = upL l k := by simp [ups]
/-- As far as k elements. -/
def upk (l : List El) (k : Nat) : List Nat := (List.range (l.length + 1)).map (fun i => if i ≤ k then upL l i else 0)
theorem upk_len (l : List El) (k : Nat) : (upk l k).length = l.length + 1 := by simp [upk]
theorem upk_zero (l : List El) : upk l 0 = List.replicate (l.length + 1) 0 := by
  apply List.ext_getElem
  · simp [upk]
  · intro i h1 h2
    simp [upk]
    intro h; subst h; exact upL_zero l
theorem upk_all (l : List El) : upk l l.length = ups l := by
  apply List.ext_getElem
  · simp [upk, ups]
  · intro i h1 h2
    rw [upk_len] at h1; simp only [upk, ups, List.getElem_map, List.getElem_range]; rw [if_pos (by omega)]
theorem upk_same {l : List El} {k : Nat} (h : upL l (k + 1) = 0) : upk l (k + 1) = upk l k := by
  apply List.ext_getElem
  · simp [upk]
  · intro i h1 h2
    simp only [upk, List.getElem_map, List.getElem_range]
    by_cases h3 : i ≤ k
    · rw [if_pos h3, if_pos (by omega)]
    · rw [if_neg h3]
      split
      · obtain rfl : i = k + 1 := by omega
        exact h
      · rfl
theorem upk_set (l : List El) (k : Nat) : upk l (k + 1) = (upk l k).set (k + 1) (upL l (k + 1)) := by
  apply List.ext_getElem
  · simp [upk]
  · intro i h1 h2
    simp only [upk, List.getElem_map, List.getElem_range, List.getElem_set]
    by_cases h3 : k + 1 = i
    · rw [if_pos h3, if_pos (by omega), h3]
    · rw [if_neg h3]
      by_cases h4 : i ≤ k
      · rw [if_pos h4, if_pos (by omega)]
      · rw [if_neg h4, if_neg (by omega)]
/-- What aheads answers. -/
def AhPost (l : List El) (w : World) (e : Ending) (w' : World) : Prop := (okR l = true ∧ ∃ g c, e = .returned (.tuple #[.slice (some ⟨g, 0, none⟩) (l.length + 1) c, .bool true]) ∧ w'.ownsRow w.heap.size 3 1 (.slice (some ⟨g, 0, none⟩) (l.length + 1) c) (l.length + 1) (iv (ups l)) ∧ Below w.heap.size w w') ∨ (okR l = false ∧ e = .returned (.tuple #[.slice none 0 0, .bool false]) ∧ Below w.heap.size w w')
theorem kz_eq (q u j : Int) : decide (((q, u, j) : K) = zK) = (decide (q = 0) && decide (u = 0) && decide (j = 0)) := by
  unfold zK
  by_cases h1 : q = 0 <;> by_cases h2 : u = 0 <;> by_cases h3 : j = 0 <;> simp [h1, h2, h3]
set_option maxHeartbeats 4000000 in
set_option maxRecDepth 100000 in
theorem aheads_any (v : Value) (l : List El) (w : World) (h : EHas w v l) (hl : l.length ≤ 100) (hp : l.Pairwise (fun a b => kl (kE a) (kE b) = true)) : Calls Tryz.prog 51 #[v] w (AhPost l w) := by
  have HE : Hid (EHas w v l) := h; have HP : Hid (l.Pairwise (fun a b => kl (kE a) (kE b) = true)) := hp; obtain ⟨ys, hys, h, hy⟩ := h; have hml := maxLen_lt h.1; obtain ⟨p, c, rfl⟩ := h.slice
  have hyl : ys.length = l.length := by rw [← hys, List.length_map]
  have HR : Hid (SHas 9 w (.slice p l.length c) l.length (rows El.cells ys)) := h; have HY : Hid (∀ y ∈ ys, MHas w y.2 y.1.gone) := hy
  have HL : Hid (∀ k (h1 : k < ys.length) (h2 : k < l.length), ys[k].1 = l[k]) := fun k h1 h2 => by
    subst hys; rw [List.getElem_map]
  obtain ⟨i0, hi, hz0, hz1, hz2⟩ := info_parts info3
  have wl : IntKind.i64.wrap ((l.length : Int) + 1) = ((l.length + 1 : Nat) : Int) := by rw [IntKind.wrap_i64]; omega
  have hmx : l.length + 1 ≤ maxLen := by simp [maxLen]; omega
  clear h hy hys hp
  go_enter Tryz.func51, Tryz.ntmps51
  go_wp2_with (first | refine wpList_make_full _ rfl _ _ 87 rfl w.heap.size 3 i0 (.int .i64 0) 1 Tryz.underlying87 hi hz0 hz1 .i64 .i64 _ _ (l.length + 1) rfl rfl (by go_simp) (by go_simp) (by rw [hz2]; omega) hmx (Nat.le_refl _) ?_)
  intro w1 ho hg1; rw [iv_made] at ho; have hb1 := bel_grown hg1; generalize hG : w.heap.size = g at ho ⊢; have HG : Hid (g = w.heap.size) := hG.symm; clear hG hg1; rw [← upk_zero] at ho
  have HOK : Hid (∀ k (h : k < l.length), okR l = true → rE l[k] = zK ∨ ∃ j, pl l (rE l[k]) = some j) := fun k h hk => okR_iff.1 hk _ (List.getElem_mem h)
  go_wp2_with fail
  go_loopw [15] (fun vi wr => ∃ k : Nat, vi = .int .i64 k ∧ k ≤ l.length ∧ Hid (∀ i (h : i < l.length), i < k → rE l[i] = zK ∨ ∃ j, pl l (rE l[i]) = some j) ∧ wr.ownsRow w.heap.size 3 1 (.slice (some ⟨g, 0, none⟩) (l.length + 1) (l.length + 1)) (l.length + 1) (iv (upk l k)) ∧ Below w.heap.size w wr) (fun vi _ => l.length - (intOf vi).toNat)
  case atStart => exact ⟨0, rfl, by omega, (show ∀ i (_ : i < l.length), i < 0 → _ from fun i _ h => by omega), by rw [HG.out] at ho ⊢; exact ho, hb1⟩
  case round =>
    obtain ⟨k, rfl, hk, HV, ho, hbel⟩ := hrel
    by_cases hlt : k < l.length
    · have hlt' : (k : Int) < (l.length : Int) := by omega
      obtain ⟨g1, o, rfl, hd0⟩ := HR.out.at (by omega); have hd := range_later hd0 hbel; have d : wr.rangeAt g1 (o + k * 9) (El.cells (ys[k]'(by omega))) := range_sub hd (k * 9) fun j u hu => rows_at El.len ys k (by omega) j u hu; have hyk := (HY.out ys[k] (List.getElem_mem _)).later hbel; obtain ⟨yy, HX⟩ := hid_ex (ys[k]'(by omega))
      have HX2 : Hid (l[k] = yy.1) := by
        show _ = _
        rw [← HL.out k (by omega) hlt, HX.out]
      rw [HX.out] at d hyk; obtain ⟨y, yv⟩ := yy; replace hyk : MHas wr yv y.gone := hyk; obtain ⟨py, cy, rfl⟩ := hyk.slice; replace d : wr.rangeAt g1 (o + k * 9) [Value.int .i64 y.p, .int .i64 y.s, .int .i64 y.i, .int .i64 y.t, .int .i64 y.q, .int .i64 y.u, .int .i64 y.j, .string y.x, .slice py y.gone.length cy] := d; replace HX2 : Hid (l[k] = y) := HX2; clear hd0 HR HY HX hyk hd; have zb : (Tryz.prog.info? 60).map (·.size) = some [Value.int .i64 y.p, .int .i64 y.s, .int .i64 y.i, .int .i64 y.t, .int .i64 y.q, .int .i64 y.u, .int .i64 y.j, .string y.x, .slice py y.gone.length cy].length := size60; have R := rw_new wr 60 #[.int .i64 y.p, .int .i64 y.s, .int .i64 y.i, .int .i64 y.t, .int .i64 y.q, .int .i64 y.u, .int .i64 y.j, .string y.x, .slice py y.gone.length cy]; have hbA := bel_alloc (Below.refl wr.heap.size wr) (.cells #[.int .i64 y.p, .int .i64 y.s, .int .i64 y.i, .int .i64 y.t, .int .i64 y.q, .int .i64 y.u, .int .i64 y.j, .string y.x, .slice py y.gone.length cy] 60); replace ho := own_later ho hbA; have hbB := below_on hbel hbA
      have E := fun w => eq_mark w y.q y.u y.j 0 0 0
      obtain ⟨t, HT⟩ := hid_ex (decide (rE y = zK)); rw [show (decide (y.q = 0) && decide (y.u = 0) && decide (y.j = 0)) = t from (kz_eq _ _ _).symm.trans HT.out] at E; have EV0 := HE.out.later hbB; generalize hWA : wr.alloc (.cells #[.int .i64 y.p, .int .i64 y.s, .int .i64 y.i, .int .i64 y.t, .int .i64 y.q, .int .i64 y.u, .int .i64 y.j, .string y.x, .slice py y.gone.length cy] 60) = wa at R hbA hbB ho EV0; have c0 : wa.cell? ⟨wr.heap.size, 4, none⟩ = some (.int .i64 y.q) := R.cell 4; have c1 : wa.cell? ⟨wr.heap.size, 5, none⟩ = some (.int .i64 y.u) := R.cell 5; have c2 : wa.cell? ⟨wr.heap.size, 6, none⟩ = some (.int .i64 y.j) := R.cell 6
      cases t
      · have C1 := find_any _ l (rM y) wa EV0 hl HP.out
        have hne : rE y ≠ zK := by simpa using HT.out
        go_wp2_with (first | refine load_m 60 _ rfl rfl _ _ rfl d Tryz.underlying60 rfl zb ?_ | rw [hWA] | rw [E])
        refine C1.mono ?_; clear C1 c0 c1 c2 hWA R d; rintro e w2 ⟨k2, b, rfl, hk2, _, _, hpl, hb2⟩; replace ho := own_later ho hb2; replace hbB := below_on hbB hb2
        cases b
        · have hok : okR l = false := by
            cases e : okR l
            · rfl
            · rcases okR_iff.1 e _ (List.getElem_mem hlt) with h | ⟨j, h⟩
              · rw [HX2.out] at h
                exact absurd h hne
              · rw [HX2.out] at h
                rw [if_neg (by simp)] at hpl; rw [show rE y = kM (rM y) from rfl, hpl] at h
                cases h
          have HF : Hid (AhPost l w (.returned (.tuple #[.slice none 0 0, .bool false])) w2) := Or.inr ⟨hok, rfl, hbB⟩; clear hok hpl HX2 HT HV ho; go_wp2_with fail; refine bodyPost_ret (v := .tuple #[.slice none 0 0, .bool false]) (by simp [results, Tryz.results51, go_sem]) rfl ?_; exact HF.out
        · have hu : upL l (k + 1) = k2 + 1 := by
            rw [if_pos rfl] at hpl; rw [upL_succ hlt, HX2.out, if_neg hne, show rE y = kM (rM y) from rfl, hpl]
          have HV2 : Hid (∀ i (h : i < l.length), i < k + 1 → rE l[i] = zK ∨ ∃ j, pl l (rE l[i]) = some j) := fun i h hi => by
            rcases Nat.lt_or_ge i k with h' | h'
            · exact HV.out i h h'
            · obtain rfl : i = k := by omega
              rw [HX2.out]; exact Or.inr ⟨k2, hpl⟩
          have hcl : w2.cell? ⟨g, k + 1, none⟩ = some (.int .i64 ((upk l k)[k + 1]'(by rw [upk_len]; omega) : Int)) := own_iat ho (by rw [upk_len]; omega); have hfz := own_fz ho (k + 1); have ho2 := own_iset ho (k + 1) (k2 + 1); rw [← hu, ← upk_set, hu] at ho2; have hge := (own_ge ho).1
          have w3 : IntKind.i64.wrap ((k : Int) + 1) = ((k + 1 : Nat) : Int) := by rw [IntKind.wrap_i64]; omega
          have w4 : IntKind.i64.wrap ((k2 : Int) + 1) = ((k2 + 1 : Nat) : Int) := by rw [IntKind.wrap_i64]; omega
          have hk3 : ((k + 1 : Nat) : Int) < ((l.length + 1 : Nat) : Int) := by omega
          have hbC := below_cell hbB hge (k + 1) (.int .i64 ((k2 + 1 : Nat) : Int)); clear hpl HX2 HT HV ho hu hbB; go_wp2_with fail; go_roundw
          case rel => exact ⟨k + 1, by simp, by omega, HV2, ho2, hbC⟩
          case measure => simp [intOf]; omega
      · have he : rE y = zK := by simpa using HT.out
        have HV2 : Hid (∀ i (h : i < l.length), i < k + 1 → rE l[i] = zK ∨ ∃ j, pl l (rE l[i]) = some j) := fun i h hi => by
          rcases Nat.lt_or_ge i k with h' | h'
          · exact HV.out i h h'
          · obtain rfl : i = k := by omega
            rw [HX2.out]; exact Or.inl he
        have hu : upL l (k + 1) = 0 := by rw [upL_succ hlt, HX2.out, if_pos he]
        rw [← upk_same hu] at ho; clear HX2 HT HV
        go_wp2_with (first | refine load_m 60 _ rfl rfl _ _ rfl d Tryz.underlying60 rfl zb ?_ | rw [hWA] | rw [E])
        go_roundw
        case rel => exact ⟨k + 1, by simp, by omega, HV2, ho, hbB⟩
        case measure => simp [intOf]; omega
    · have hlt' : ¬ (k : Int) < (l.length : Int) := by omega
      obtain rfl : k = l.length := by omega
      have hok : okR l = true := okR_iff.2 (fun e he => by
        obtain ⟨i, hi, rfl⟩ := List.getElem_of_mem he
        exact HV.out i hi hi)
      rw [upk_all] at ho; have HF : Hid (AhPost l w (.returned (.tuple #[.slice (some ⟨g, 0, none⟩) (l.length + 1) (l.length + 1), .bool true])) wr) := Or.inl ⟨hok, _, _, rfl, ho, hbel⟩; clear ho HV hok HOK HR HY HL HE HP; go_wp2_with fail; refine bodyPost_ret (v := .tuple #[.slice (some ⟨g, 0, none⟩) (l.length + 1) (l.length + 1), .bool true]) (by simp [results, Tryz.results51, go_sem]) rfl ?_; exact HF.out
end Go.Proofs.YtfjpbmdmkcihcaaGreat
/- hasRing of package seq: does an element stand behind itself? -/
namespace Go.Proofs.YtfjpbmdmkcihcaaGreat
open Go.RowKit

theorem rt_on {f : Nat → Nat} (h0 : f 0 = 0) {k : Nat} (h : rt f k) : ∀ i, rt f (it f i k)
  | 0 => h
  | i + 1 => by rw [it_succ]; exact rt_down h0 (rt_on h0 h i)
/-- How many zeros lie there. -/
def isZ : Option Value → Bool
  | some (.int _ v) => decide (v = 0)
  | _ => false
def mz (g n : Nat) (w : World) : Nat := (List.range n).countP (fun i => isZ (w.cell? ⟨g, i, none⟩))
theorem mz_eq {w : World} {B e g c n : Nat} {W : List Nat} (h : w.ownsRow B e 1 (.slice (some ⟨g, 0, none⟩) n c) n (iv W)) : mz g n w = (List.range W.length).countP (fun i => decide (W[i]? = some 0)) := by
  have hn : W.length = n := by
    have := h.1
    rw [iv_len] at this
    omega
  subst hn; unfold mz
  apply List.countP_congr
  intro i hi; rw [List.mem_range] at hi; rw [own_iat h hi, List.getElem?_eq_getElem hi]
  simp [isZ]
theorem mz_less {W : List Nat} {a k : Nat} (ha : a < W.length) (h0 : W[a] = 0) (hk : k ≠ 0) : (List.range (W.set a k).length).countP (fun i => decide ((W.set a k)[i]? = some 0)) < (List.range W.length).countP (fun i => decide (W[i]? = some 0)) := by
  rw [List.length_set]; obtain ⟨b, hb⟩ : ∃ b, W.length = a + 1 + b := ⟨W.length - (a + 1), by omega⟩
  have e : List.range W.length = List.range a ++ a :: (List.range b).map (a + 1 + ·) := by
    rw [hb, List.range_add, List.range_succ, List.append_assoc]
    rfl
  rw [e, List.countP_append, List.countP_append, List.countP_cons, List.countP_cons]
  have e1 : (List.range a).countP (fun i => decide ((W.set a k)[i]? = some 0)) = (List.range a).countP (fun i => decide (W[i]? = some 0)) := List.countP_congr (fun i hi => by
    rw [List.mem_range] at hi
    rw [List.getElem?_set_ne (by omega)])
  have e2 : ((List.range b).map (a + 1 + ·)).countP (fun i => decide ((W.set a k)[i]? = some 0)) = ((List.range b).map (a + 1 + ·)).countP (fun i => decide (W[i]? = some 0)) := List.countP_congr (fun i hi => by
    rw [List.mem_map] at hi; obtain ⟨j, _, rfl⟩ := hi
    rw [List.getElem?_set_ne (by omega)])
  rw [e1, e2]
  simp [ha, h0, hk]
/-- What hasRing answers. -/
def RgPost (up : List Nat) (w : World) (e : Ending) (w' : World) : Prop := ∃ b : Bool, e = .returned (.bool b) ∧ (b = false ↔ ∀ k, k < up.length → rt (fun i => up.getD i 0) k) ∧ Below w.heap.size w w'
set_option maxHeartbeats 4000000 in
set_option maxRecDepth 100000 in
theorem hasRing_any (B g1 c : Nat) (up : List Nat) (w : World) (h : w.ownsRow B 3 1 (.slice (some ⟨g1, 0, none⟩) up.length c) up.length (iv up)) (hl : up.length ≤ 101) (h0 : up.getD 0 0 = 0) (hu : ∀ k (h : k < up.length), up[k] < up.length) : Calls Tryz.prog 52 #[.slice (some ⟨g1, 0, none⟩) up.length c] w (RgPost up w) := by
  obtain ⟨f, hf⟩ : ∃ f : Nat → Nat, f = fun i => up.getD i 0 := ⟨_, rfl⟩; have HR : Hid (w.ownsRow B 3 1 (.slice (some ⟨g1, 0, none⟩) up.length c) up.length (iv up)) := h
  have HZ : Hid (f 0 = 0) := by rw [hf]; exact h0
  have HU : Hid (∀ k (h : k < up.length), up[k] = f k ∧ f k < up.length) := fun k h => by
    have e : f k = up[k] := by rw [hf]; simp [h]
    rw [e]; exact ⟨rfl, hu k h⟩
  have HP : Hid (∀ e w', RgPost up w e w' ↔ ∃ b : Bool, e = .returned (.bool b) ∧ (b = false ↔ ∀ k, k < up.length → rt f k) ∧ Below w.heap.size w w') := fun e w' => by unfold RgPost; rw [hf]
  obtain ⟨Q, HQ⟩ : ∃ Q, Hid (RgPost up w = Q) := ⟨_, rfl⟩; rw [HQ.out]; obtain ⟨i0, hi, hz0, hz1, hz2⟩ := info_parts info3
  have hmx : up.length ≤ maxLen := by simp [maxLen]; omega
  clear h h0 hu hf
  go_enter Tryz.func52, Tryz.ntmps52
  go_wp2_with fail
  go_step3
  go_wp2_with (first | refine wpList_make_full _ rfl _ _ 87 rfl w.heap.size 3 i0 (.int .i64 0) 1 Tryz.underlying87 hi hz0 hz1 .i64 .i64 _ _ up.length rfl rfl rfl rfl (by rw [hz2]; omega) hmx (Nat.le_refl _) ?_)
  intro w1 ho hg1; rw [iv_made] at ho; have hb1 := bel_grown hg1; generalize hG : w.heap.size = g at ho ⊢; have HG : Hid (g = w.heap.size) := hG.symm; clear hG hg1; go_wp2_with fail
  go_step3
  go_wp2_with fail
  go_loopw [11] (fun vi wr => ∃ (k : Nat) (W : List Nat), vi = .int .i64 k ∧ k ≤ up.length ∧ W.length = up.length ∧ Hid (∀ a (h : a < W.length), W[a] ≠ 0 → rt f a ∧ W[a] < k) ∧ Hid (∀ j, j < k → rt f j) ∧ wr.ownsRow w.heap.size 3 1 (.slice (some ⟨g, 0, none⟩) up.length up.length) up.length (iv W) ∧ Below w.heap.size w wr) (fun vi _ => up.length - (intOf vi).toNat)
  case atStart => exact ⟨0, List.replicate up.length 0, rfl, by omega, by simp, (show ∀ a (_ : a < _), _ from fun a h hn => absurd (by simp) hn), (show ∀ j, j < 0 → _ from fun j h => by omega), by rw [HG.out] at ho ⊢; exact ho, hb1⟩
  case round =>
    obtain ⟨k, W, rfl, hk, hW, HV, HJ, ho, hbel⟩ := hrel
    by_cases hlt : k < up.length
    · have hlt' : (k : Int) < (up.length : Int) := by omega
      go_wp2_with fail
      go_loopw [5] (fun va wr => ∃ (j : Nat) (W : List Nat), va = .int .i64 (it f j k) ∧ it f j k < up.length ∧ W.length = up.length ∧ Hid (∀ i, i < j → it f i k ≠ 0) ∧ Hid (∀ a (h : a < W.length), W[a] ≠ 0 → (rt f a ∧ W[a] < k) ∨ (W[a] = k ∧ ∃ i, i < j ∧ a = it f i k)) ∧ wr.ownsRow w.heap.size 3 1 (.slice (some ⟨g, 0, none⟩) up.length up.length) up.length (iv W) ∧ Below w.heap.size w wr) (fun _ wr => mz g up.length wr)
      case atStart => exact ⟨0, W, rfl, hlt, hW, (show ∀ i, i < 0 → _ from fun i h => by omega), (show ∀ a (_ : a < _), _ from fun a h hn => Or.inl (HV.out a h hn)), ho, hbel⟩
      case round =>
        clear HV ho hbel hW W; obtain ⟨j, W, rfl, hat, hW, HN, HV, ho, hbel⟩ := hrel; obtain ⟨a, HA⟩ := hid_ex (it f j k); rw [HA.out] at hat ⊢
        by_cases ha : a = 0
        · subst ha
          have HV2 : Hid (∀ a (h : a < W.length), W[a] ≠ 0 → rt f a ∧ W[a] < k + 1) := fun b hb hn => by
            have hrk : rt f k := ⟨j, HA.out⟩
            rcases HV.out b hb hn with h | ⟨h, i, hi, e⟩
            · exact ⟨h.1, by omega⟩
            · rw [h, e]
              exact ⟨rt_on HZ.out hrk i, by omega⟩
          have HJ2 : Hid (∀ j, j < k + 1 → rt f j) := fun i hi => by
            rcases Nat.lt_or_ge i k with h' | h'
            · exact HJ.out i h'
            · obtain rfl : i = k := by omega
              exact ⟨j, HA.out⟩
          clear HV HJ HN; go_wp2_with fail; go_roundw
          case rel => exact ⟨k + 1, W, by simp, by omega, hW, HV2, HJ2, ho, hbel⟩
          case measure => simp [intOf]; omega
        · have ha' : ¬ ((a : Int) = 0) := by omega
          have haW : a < W.length := by omega
          have hcl := own_iat ho haW; have hfz := own_fz ho a
          have hal : (a : Int) < (up.length : Int) := by omega
          have ha0 : (0 : Int) ≤ (a : Int) := by omega
          have hup := own_iat (own_later HR.out hbel) hat; have HUa := HU.out a hat; rw [HUa.1] at hup; obtain ⟨x, HX⟩ := hid_ex (W[a]); rw [HX.out] at hcl
          by_cases hx0 : x = 0
          · subst hx0
            have hk0 : k ≠ 0 := fun e => by
              rw [e, it_zero HZ.out] at HA; exact ha HA.out.symm
            have ho2 := own_iset ho a k; have hge := (own_ge ho).1; have hlo := (own_ge HR.out).2; have hup2 := own_iat (own_over (own_later HR.out hbel) (b := g) (fun q hq => by simp [Value.ownBlock] at hq; omega) a (.int .i64 (k : Int))) hat; rw [HUa.1] at hup2; have hbC := below_cell hbel hge a (.int .i64 (k : Int))
            have HN2 : Hid (∀ i, i < j + 1 → it f i k ≠ 0) := fun i hi => by
              rcases Nat.lt_or_ge i j with h' | h'
              · exact HN.out i h'
              · obtain rfl : i = j := by omega
                rw [HA.out]; exact ha
            have HV2 : Hid (∀ b (h : b < (W.set a k).length), (W.set a k)[b] ≠ 0 → (rt f b ∧ (W.set a k)[b] < k) ∨ ((W.set a k)[b] = k ∧ ∃ i, i < j + 1 ∧ b = it f i k)) := fun b hb hn => by
              rw [List.getElem_set] at hn ⊢
              by_cases hab : a = b
              · rw [if_pos hab]
                exact Or.inr ⟨rfl, j, by omega, by rw [HA.out, hab]⟩
              · rw [if_neg hab] at hn ⊢
                rw [List.length_set] at hb
                rcases HV.out b hb hn with h | ⟨h, i, hi, e⟩
                · exact Or.inl h
                · exact Or.inr ⟨h, i, by omega, e⟩
            have HS : Hid (f a = it f (j + 1) k) := by
              show _ = _
              rw [it_succ, HA.out]
            have hms : mz g up.length (wr.setCell ⟨g, a, none⟩ (.int .i64 (k : Int))) < mz g up.length wr := by
              rw [mz_eq ho2, mz_eq ho]; exact mz_less haW HX.out hk0
            have HMS : Hid (mz g up.length (wr.setCell ⟨g, a, none⟩ (.int .i64 (k : Int))) < mz g up.length wr) := hms; clear hms HV HN hup HX; go_wp2_with fail; go_roundw
            case rel => exact ⟨j + 1, W.set a k, by rw [HS.out], by rw [← HS.out]; exact HUa.2, by rw [List.length_set]; exact hW, HN2, HV2, ho2, hbC⟩
            case measure => exact HMS.out
          · have hx0' : ¬ ((x : Int) = 0) := by omega
            by_cases hxk : x = k
            · have HF : Hid (Q (.returned (.bool true)) wr) := by
                show Q _ _
                rw [← HQ.out, HP.out]; refine ⟨true, rfl, ⟨fun e => by (cases e), fun hall => ?_⟩, hbel⟩; obtain ⟨m, hm⟩ := hall k hlt
                rcases HV.out a haW (by rw [HX.out]; exact hx0) with h | ⟨_, i, hi, e⟩
                · rw [HX.out] at h
                  omega
                · exact absurd hm (ring_not hi HN.out (by rw [HA.out, e]) m)
              subst hxk; clear HP HQ HV HN HX HA HU HJ; go_wp2_with fail; exact HF.out
            · have hxk' : ¬ ((x : Int) = (k : Int)) := by omega
              have hra : rt f a := by
                rcases HV.out a haW (by rw [HX.out]; exact hx0) with h | ⟨h, _⟩
                · exact h.1
                · rw [HX.out] at h
                  exact absurd h hxk
              have hrk : rt f k := rt_it j (by rw [HA.out]; exact hra)
              have HV2 : Hid (∀ a (h : a < W.length), W[a] ≠ 0 → rt f a ∧ W[a] < k + 1) := fun b hb hn => by
                rcases HV.out b hb hn with h | ⟨h, i, hi, e⟩
                · exact ⟨h.1, by omega⟩
                · rw [h, e]
                  exact ⟨rt_on HZ.out hrk i, by omega⟩
              have HJ2 : Hid (∀ j, j < k + 1 → rt f j) := fun i hi => by
                rcases Nat.lt_or_ge i k with h' | h'
                · exact HJ.out i h'
                · obtain rfl : i = k := by omega
                  exact hrk
              clear HV HJ HN HX; go_wp2_with fail; go_roundw
              case rel => exact ⟨k + 1, W, by simp, by omega, hW, HV2, HJ2, ho, hbel⟩
              case measure => simp [intOf]; omega
    · have hlt' : ¬ (k : Int) < (up.length : Int) := by omega
      obtain rfl : k = up.length := by omega
      have HF : Hid (Q (.returned (.bool false)) wr) := by
        show Q _ _
        rw [← HQ.out, HP.out]; exact ⟨false, rfl, ⟨fun _ => HJ.out, fun _ => rfl⟩, hbel⟩
      clear ho HV HJ HR HU HP HQ; go_wp2_with fail; exact HF.out
end Go.Proofs.YtfjpbmdmkcihcaaGreat
/- checkRefs, Check of package seq. -/
namespace Go.Proofs.YtfjpbmdmkcihcaaGreat
open Go.RowKit

theorem ups_fun (l : List El) : (fun i => (ups l).getD i 0) = upL l := by
  funext i
  by_cases h : i < l.length + 1
  · rw [List.getD_eq_getElem?_getD, List.getElem?_eq_getElem (by rw [ups_len]; exact h), Option.getD_some, ups_at]
  · rw [List.getD_eq_getElem?_getD, List.getElem?_eq_none (by rw [ups_len]; omega)]
    unfold upL; rw [if_neg (by omega), List.getElem?_eq_none (by omega)]
    rfl
set_option maxHeartbeats 1000000 in
set_option maxRecDepth 100000 in
theorem checkRefs_any (v : Value) (l : List El) (w : World) (h : EHas w v l) (hl : l.length ≤ 100) (hp : l.Pairwise (fun a b => kl (kE a) (kE b) = true)) : Calls Tryz.prog 26 #[v] w (Tells (.bool (cr l)) w) := by
  obtain ⟨z, HZ⟩ := hid_ex (cr l); rw [HZ.out]; have C1 := aheads_any v l w h hl hp; obtain ⟨p, c, rfl⟩ := h.slice; clear h hp
  go_enter Tryz.func26, Tryz.ntmps26
  go_wp2_with fail; refine C1.mono ?_; clear C1; rintro e w1 (⟨hok, g, c1, rfl, ho, hb1⟩ | ⟨hok, rfl, hb1⟩)
  · have C2 := hasRing_any w.heap.size g c1 (ups l) w1 (by rw [ups_len]; exact ho) (by rw [ups_len]; omega) (by rw [show (ups l).getD 0 0 = (fun i => (ups l).getD i 0) 0 from rfl, ups_fun]; rfl) (fun k h => by rw [ups_at, ups_len]; have := upL_le l k; omega)
    rw [ups_len] at C2
    have HE : Hid (∀ b : Bool, (b = false ↔ ∀ k, k < (ups l).length → rt (fun i => (ups l).getD i 0) k) → (!b) = z) := fun b hb => by
      rw [ups_fun, ups_len] at hb; rw [← HZ.out]; unfold cr; rw [hok, Bool.true_and]
      cases b
      · rw [Bool.not_false, noR_iff.2 (fun k hk => hb.1 rfl k (by omega))]
      · cases e : noR l
        · rfl
        · have := hb.2 (fun k hk => noR_iff.1 e k (by omega))
          cases this
    clear HZ hok ho; go_wp2_with fail; refine C2.mono ?_; rintro e w2 ⟨b, rfl, hb, hb2⟩; have e := HE.out b hb; subst e; clear hb HE C2; go_wp2_with fail; go_ret; exact ⟨rfl, below_on hb1 hb2⟩
  · obtain rfl : z = false := by
      rw [← HZ.out]; unfold cr; rw [hok]
      rfl
    clear HZ hok; go_wp2_with fail; go_ret; exact ⟨rfl, hb1⟩
set_option maxHeartbeats 1000000 in
set_option maxRecDepth 100000 in
theorem check_any (x : X) (va vw vm ve : Value) (w : World) (h : Four w x va vw vm ve) (hs : Sm x) : Calls Tryz.prog 7 #[CV x.k x.b va vw vm ve] w (Tells (.bool (ck x)) w) := by
  obtain ⟨z, HZ⟩ := hid_ex (ck x); rw [HZ.out]; obtain ⟨pa, ca', pw, cw, pm, cm, pe, ce', rfl, rfl, rfl, rfl⟩ := h.slices; have HA : Hid (EHas w (.slice pe x.el.length ce') x.el) := h.e; clear h; obtain ⟨ha, ht, hm, he, _, _⟩ := hs
  have w1 : IntKind.i64.wrap ((x.am.length : Int) + (x.wr.length : Int)) = (x.am.length : Int) + (x.wr.length : Int) := by rw [IntKind.wrap_i64]; omega
  have w2 : IntKind.i64.wrap ((x.am.length : Int) + (x.wr.length : Int) + (x.mb.length : Int)) = (x.am.length : Int) + (x.wr.length : Int) + (x.mb.length : Int) := by rw [IntKind.wrap_i64]; omega
  have hz : Hid (z = (decide (x.k = 5) && (decide (x.b = 0) && (decide (x.am.length + x.wr.length + x.mb.length = 0) && (ce x.el && cr x.el))))) := by
    show _ = _
    rw [← HZ.out]
    rfl
  clear HZ
  by_cases hk : x.k = 5
  · by_cases hb : x.b = 0
    · by_cases h0 : x.am.length + x.wr.length + x.mb.length = 0
      · have h0' : (x.am.length : Int) + (x.wr.length : Int) + (x.mb.length : Int) = 0 := by omega
        obtain ⟨y1, HY1⟩ := hid_ex (ce x.el)
        have hz2 : Hid (z = (y1 && cr x.el)) := by
          show _ = _
          have := hz.out
          rw [HY1.out] at this
          simpa [hk, hb, h0] using this
        clear hz
        go_enter Tryz.func7, Tryz.ntmps7
        go_wp2_with fail; refine (checkElems_any _ _ _ (HA.out.later (bel_alloc (Below.refl _ _) _))).mono ?_; rintro e w2 ⟨rfl, hb2⟩; rw [HY1.out]; have cE : w2.cell? ⟨w.heap.size, 5, none⟩ = some (.slice pe x.el.length ce') := ((rw_new w 27 (cvc 5 0 (.slice pa x.am.length ca') (.slice pw x.wr.length cw) (.slice pm x.mb.length cm) (.slice pe x.el.length ce'))).later hb2).cell 5; replace hb2 := below_on (bel_alloc (Below.refl _ _) _) hb2
        cases y1
        · obtain rfl : z = false := by have := hz2.out; simpa using this
          clear HY1 hz2; go_wp2_with fail; go_ret; exact ⟨rfl, hb2⟩
        · obtain rfl : z = cr x.el := by have := hz2.out; simpa using this
          have C2 := checkRefs_any _ _ w2 (HA.out.later hb2) he (ce_up HY1.out); clear HY1 hz2; go_wp2_with fail; refine C2.mono ?_; clear C2; rintro e w3 ⟨rfl, hb3⟩; go_wp2_with fail; go_ret; exact ⟨rfl, below_on hb2 hb3⟩
      · have h0' : ¬ (x.am.length : Int) + (x.wr.length : Int) + (x.mb.length : Int) = 0 := by omega
        obtain rfl : z = false := by have := hz.out; rw [decide_eq_false h0] at this; simpa using this
        clear hz h0
        go_enter Tryz.func7, Tryz.ntmps7
        go_wp2_with fail; go_ret; exact ⟨rfl, bel_alloc (Below.refl _ _) _⟩
    · obtain rfl : z = false := by have := hz.out; rw [decide_eq_false hb] at this; simpa using this
      clear hz
      go_enter Tryz.func7, Tryz.ntmps7
      go_wp2_with fail; go_ret; exact ⟨rfl, bel_alloc (Below.refl _ _) _⟩
  · obtain rfl : z = false := by have := hz.out; rw [decide_eq_false hk] at this; simpa using this
    clear hz
    go_enter Tryz.func7, Tryz.ntmps7
    go_wp2_with fail; go_ret; exact ⟨rfl, bel_alloc (Below.refl _ _) _⟩
end Go.Proofs.YtfjpbmdmkcihcaaGreat
/- The order of rising: cmp.Or of two comparisons; the closure of package seq that slices.SortFunc calls. -/
namespace Go.Proofs.YtfjpbmdmkcihcaaGreat
open Go.RowKit

/-- The first of two that is not zero. -/
def or2 (a b : Int) : Int := if a ≠ 0 then a else b
/-- A slice of two ints. -/
def Two (w : World) (v : Value) (a b : Int) : Prop := ∃ g, v = .slice (some ⟨g, 0, none⟩) 2 2 ∧ Rw w g 3 #[.int .i64 a, .int .i64 b]
theorem Two.later {w w' : World} {v : Value} {a b : Int} (h : Two w v a b) (hb : Below w.heap.size w w') : Two w' v a b := by
  obtain ⟨g, e, h⟩ := h; exact ⟨g, e, h.later hb⟩
set_option maxRecDepth 100000 in
theorem or2_any (v : Value) (a b : Int) (w : World) (h : Two w v a b) : Calls Tryz.prog 72 #[v] w (Leaves (.int .i64 (or2 a b)) w) := by
  obtain ⟨g, rfl, hr⟩ := h; have c0 : w.cell? ⟨g, 0, none⟩ = some (.int .i64 a) := hr.cell 0; have c1 : w.cell? ⟨g, 1, none⟩ = some (.int .i64 b) := hr.cell 1; clear hr; obtain ⟨z, HZ⟩ : ∃ z, Hid (or2 a b = z) := ⟨_, rfl⟩; rw [HZ.out]
  go_enter Tryz.func72, Tryz.ntmps72
  go_wp2
  go_loopw [8] (fun vi wr => ∃ k : Nat, vi = .int .i64 k ∧ k ≤ 2 ∧ wr = w ∧ Hid ((1 ≤ k → a = 0) ∧ (2 ≤ k → b = 0))) (fun vi _ => 2 - (intOf vi).toNat)
  case atStart => exact ⟨0, rfl, by omega, rfl, (show _ ∧ _ from ⟨fun h => by omega, fun h => by omega⟩)⟩
  case round =>
    obtain ⟨k, rfl, hk, rfl, HV⟩ := hrel
    have hk3 : k = 0 ∨ k = 1 ∨ k = 2 := by omega
    have hv := HV.out
    rcases hk3 with rfl | rfl | rfl
    · by_cases hx : a = 0
      · have HV2 : Hid ((1 ≤ 1 → a = 0) ∧ (2 ≤ 1 → b = 0)) := (show _ ∧ _ from ⟨fun _ => by omega, fun _ => by omega⟩)
        clear hv HV; rw [hx] at c0; have HX : Hid (a = 0) := hx; clear hx
        go_wp2
        go_roundw
        case rel => exact ⟨1, by simp, by omega, by trivial, HV2⟩
        case measure => simp [intOf]
      · have HR : Hid (z = a) := by
          have e := HZ.out; unfold or2 at e
          show z = _
          rw [← e]; rw [if_pos (by omega)]
        clear hv HV HZ
        go_wp2
        go_ret; exact ⟨by rw [HR.out]; rfl, rfl⟩
    · by_cases hx : b = 0
      · have HV2 : Hid ((1 ≤ 2 → a = 0) ∧ (2 ≤ 2 → b = 0)) := (show _ ∧ _ from ⟨fun _ => by omega, fun _ => by omega⟩)
        clear hv HV; rw [hx] at c1; have HX : Hid (b = 0) := hx; clear hx
        go_wp2
        go_roundw
        case rel => exact ⟨2, by simp, by omega, by trivial, HV2⟩
        case measure => simp [intOf]
      · have HR : Hid (z = b) := by
          have e := HZ.out; unfold or2 at e
          show z = _
          rw [← e]; rw [if_neg (by omega)]
        clear hv HV HZ
        go_wp2
        go_ret; exact ⟨by rw [HR.out]; rfl, rfl⟩
    · have HR : Hid (z = 0) := by
        have e := HZ.out; unfold or2 at e
        show z = _
        rw [← e, if_neg (by omega)]
        omega
      clear hv HV HZ
      go_wp2
      go_ret; exact ⟨by rw [HR.out]; rfl, rfl⟩
/-- What is known of a value: it is no slice, or the elements, or it holds the two. -/
def T2 (L : Value) (a b : Int) (v : Value) (w : World) : Prop := nosl v = true ∨ v = L ∨ Two w v a b
/-- A new slice of two. -/
def nw2 (B : Nat) (v : Value) : Prop := ∃ g, B ≤ g ∧ v = .slice (some ⟨g, 0, none⟩) 2 2
theorem nw2_two {w : World} {B g o n c : Nat} {v : Value} {a b : Int} (hg : g < B) (h : nw2 B v) (ht : T2 (.slice (some ⟨g, o, none⟩) n c) a b v w) : Two w v a b := by
  obtain ⟨g', hB, rfl⟩ := h
  rcases ht with h' | h' | h'
  · cases h'
  · simp only [Value.slice.injEq, Option.some.injEq, Addr.mk.injEq] at h'
    omega
  · exact h'
theorem T2.later {L : Value} {a b : Int} (v : Value) (w w' : World) (h : T2 L a b v w) (hb : Tam2.Bl w w') : T2 L a b v w' := by
  rcases h with h | h | h
  · exact Or.inl h
  · exact Or.inr (Or.inl h)
  · exact Or.inr (Or.inr (h.later hb.1))
theorem build_two {o : Oper} {ac : Act} {x y : Operand} {a b : Int} (ho : o.op = .buildSlice 87 2 #[(0, x), (1, y)]) (hx : ac.eval x = .int .i64 a) (hy : ac.eval y = .int .i64 b) (w : World) :
    (execOp ac.eval o).run Tryz.prog w = .ok (.value (.slice (some ⟨w.heap.size, 0, none⟩) 2 2)) (w.alloc (.cells #[.int .i64 a, .int .i64 b] 3)) := by
  unfold execOp; generalize ac.eval = ρ at hx hy
  simp [ho, hx, hy, go_sem]
theorem known_all2 {L : Value} {a b : Int} {ac : Act} (h : ac.tmps.toList.all nosl = true) (w : World) : Tam2.Known (T2 L a b) ac w := by
  intro t; refine .inl ?_; rw [Array.getD_eq_getD_getElem?]
  rcases Nat.lt_or_ge t ac.tmps.size with hlt | hge
  · rw [Array.getElem?_eq_getElem hlt]
    exact List.all_eq_true.1 h _ (by simp)
  · rw [Array.getElem?_eq_none hge]
    rfl
set_option maxHeartbeats 2000000 in
set_option maxRecDepth 100000 in
theorem rising1_any (x y : Nat) (bl g o n c : Nat) (ta tb : Int) (w : World) (hx : 1 ≤ x ∧ x ≤ n) (hy : 1 ≤ y ∧ y ≤ n) (hn : n ≤ 100) (cl : w.cell? ⟨bl, 0, none⟩ = some (.slice (some ⟨g, o, none⟩) n c)) (hg : g < w.heap.size)
    (ca : w.cell? ⟨g, o + (x - 1) * 9 + 3, none⟩ = some (.int .i64 ta)) (cb : w.cell? ⟨g, o + (y - 1) * 9 + 3, none⟩ = some (.int .i64 tb)) :
    Calls Tryz.prog 91 #[.int .i64 x, .int .i64 y, .pointer (some ⟨bl, 0, none⟩)] w (fun e w' => e = .returned (.int .i64 (or2 (cmpI ta tb) (cmpI x y))) ∧ Tam2.Bl w w') := by
  have C1 : ∀ w, Calls Tryz.prog 73 #[.int .i64 ta, .int .i64 tb] w (fun e w' => e = .returned (.int .i64 (cmpI ta tb)) ∧ Tam2.Bl w w') := fun w => (compare_any ta tb w).mono fun e w' ⟨he, hw⟩ => ⟨he, by rw [hw]; exact Tam2.Bl.refl _⟩
  have C2 : ∀ w, Calls Tryz.prog 73 #[.int .i64 (x : Int), .int .i64 (y : Int)] w (fun e w' => e = .returned (.int .i64 (cmpI x y)) ∧ Tam2.Bl w w') := fun w => (compare_any x y w).mono fun e w' ⟨he, hw⟩ => ⟨he, by rw [hw]; exact Tam2.Bl.refl _⟩
  generalize cmpI ta tb = a at C1 ⊢; generalize cmpI (x : Int) (y : Int) = b at C2 ⊢
  have C4 : ∀ v w, Two w v a b → Calls Tryz.prog 72 #[v] w (fun e w' => e = .returned (.int .i64 (or2 a b)) ∧ Tam2.Bl w w') := fun v w h => (or2_any v a b w h).mono fun e w' ⟨he, hw⟩ => ⟨he, by rw [hw]; exact Tam2.Bl.refl _⟩
  generalize or2 a b = r at C4 ⊢; obtain ⟨x1, hx1⟩ : ∃ x1 : Nat, x = x1 + 1 := ⟨x - 1, by omega⟩; obtain ⟨y1, hy1⟩ : ∃ y1 : Nat, y = y1 + 1 := ⟨y - 1, by omega⟩
  have ex : IntKind.i64.wrap ((x : Int) - 1) = (x1 : Int) := by rw [IntKind.wrap_i64]; omega
  have ey : IntKind.i64.wrap ((y : Int) - 1) = (y1 : Int) := by rw [IntKind.wrap_i64]; omega
  have hx2 : (0 : Int) ≤ (x1 : Int) ∧ (x1 : Int) < (n : Int) := by omega
  have hy2 : (0 : Int) ≤ (y1 : Int) ∧ (y1 : Int) < (n : Int) := by omega
  have ex2 : IntKind.i64.wrap (x1 : Int) = (x1 : Int) := by rw [IntKind.wrap_i64]; omega
  have ey2 : IntKind.i64.wrap (y1 : Int) = (y1 : Int) := by rw [IntKind.wrap_i64]; omega
  have hx3 := hx2.1; have hx4 := hx2.2; have hy3 := hy2.1; have hy4 := hy2.2; rw [show x - 1 = x1 by omega] at ca; rw [show y - 1 = y1 by omega] at cb; generalize (x : Int) = X at C2 ex hx ⊢; generalize (y : Int) = Y at C2 ey hy ⊢; clear hx hy
  go_enter Tryz.func91, Tryz.ntmps91
  go_wp2_with fail
  refine Tam2.region (by kernel_rfl) (by kernel_rfl) (fun w' => w'.cell? ⟨bl, 0, none⟩ = some (.slice (some ⟨g, o, none⟩) n c) ∧ w'.cell? ⟨g, o + x1 * 9 + 3, none⟩ = some (.int .i64 ta) ∧ w'.cell? ⟨g, o + y1 * 9 + 3, none⟩ = some (.int .i64 tb) ∧ Tam2.Bl w w') (T2 (.slice (some ⟨g, o, none⟩) n c) a b)
    (fun wa wb h hb => ⟨cell_later hb.1 h.1, cell_later hb.1 h.2.1, cell_later hb.1 h.2.2.1, h.2.2.2.on hb⟩) T2.later (fun _ => .inl rfl) ⟨cl, ca, cb, ⟨(Below.refl _ _).drew, Nat.le_succ _⟩⟩ (known_all2 (by rfl) _) ?_
  clear cl ca cb; refine Tam2.pure (v := ?_) (fun _ => by rfl) ?_ ?_ ?_; rotate_left; focus (intro p hp w hSw; go_simp <;> rfl)
  focus (intro w; exact .inr (.inl rfl))
  simp only [put4]; refine Tam2.pure (v := ?_) (fun _ => by rfl) ?_ ?_ ?_; rotate_left; focus (intro p hp w hSw; go_simp <;> rfl)
  focus (intro w; exact .inl rfl)
  simp only [put4]; refine Tam2.pure (v := ?_) (fun _ => by rfl) ?_ ?_ ?_; rotate_left; focus (intro p hp w hSw; go_simp <;> rfl)
  focus (intro w; exact .inl rfl)
  simp only [put4]; refine Tam2.pure (v := ?_) (fun _ => by rfl) ?_ ?_ ?_; rotate_left; focus (intro p hp w hSw; go_simp <;> rfl)
  focus (intro w; exact .inl rfl)
  simp only [put4]; refine Tam2.pure (v := ?_) (fun _ => by rfl) ?_ ?_ ?_; rotate_left; focus (intro p hp w hSw; go_simp <;> rfl)
  focus (intro w; exact .inl rfl)
  simp only [put4]; refine Tam2.pure (v := ?_) (fun _ => by rfl) ?_ ?_ ?_; rotate_left; focus (intro p hp w hSw; go_simp <;> rfl)
  focus (intro w; exact .inl rfl)
  simp only [put4]; refine Tam2.pure (v := ?_) (fun _ => by rfl) ?_ ?_ ?_; rotate_left; focus (intro p hp w hSw; go_simp <;> rfl)
  focus (intro w; exact .inr (.inl rfl))
  simp only [put4]; refine Tam2.pure (v := ?_) (fun _ => by rfl) ?_ ?_ ?_; rotate_left; focus (intro p hp w hSw; go_simp <;> rfl)
  focus (intro w; exact .inl rfl)
  simp only [put4]; refine Tam2.pure (v := ?_) (fun _ => by rfl) ?_ ?_ ?_; rotate_left; focus (intro p hp w hSw; go_simp <;> rfl)
  focus (intro w; exact .inl rfl)
  simp only [put4]; refine Tam2.pure (v := ?_) (fun _ => by rfl) ?_ ?_ ?_; rotate_left; focus (intro p hp w hSw; go_simp <;> rfl)
  focus (intro w; exact .inl rfl)
  simp only [put4]; refine Tam2.pure (v := ?_) (fun _ => by rfl) ?_ ?_ ?_; rotate_left; focus (intro p hp w hSw; go_simp <;> rfl)
  focus (intro w; exact .inl rfl)
  simp only [put4]; refine Tam2.pure (v := ?_) (fun _ => by rfl) ?_ ?_ ?_; rotate_left; focus (intro p hp w hSw; go_simp <;> rfl)
  focus (intro w; exact .inl rfl)
  simp only [put4]; refine Tam2.call2 (fun _ => by rfl) rfl (fun _ => rfl) (fun _ => rfl) (by kernel_rfl) (fun _ => .inl rfl) (fun _ w _ _ _ => C1 w) ?_; simp only [put4]; refine Tam2.pure (v := ?_) (fun _ => by rfl) ?_ ?_ ?_; rotate_left; focus (intro p hp w hSw; go_simp <;> rfl)
  focus (intro w; exact .inl rfl)
  simp only [put4]; refine Tam2.pure (v := ?_) (fun _ => by rfl) ?_ ?_ ?_; rotate_left; focus (intro p hp w hSw; go_simp <;> rfl)
  focus (intro w; exact .inl rfl)
  simp only [put4]; refine Tam2.call2 (fun _ => by rfl) rfl (fun _ => rfl) (fun _ => rfl) (by kernel_rfl) (fun _ => .inl rfl) (fun _ w _ _ _ => C2 w) ?_; simp only [put4]; refine Tam2.fresh (nw2 w.heap.size) ⟨.slice (some ⟨w.heap.size, 0, none⟩) 2 2, _, Nat.le_refl _, rfl⟩ (fun p hp => .inl ⟨by rfl, fun w' hS ht => ?_⟩) ?_; focus (rw [build_two rfl rfl rfl w']; exact ⟨⟨_, hS.2.2.2.1.size, rfl⟩, .inr (.inr ⟨w'.heap.size, rfl, rw_new w' 3 _⟩), ⟨bel_alloc (Below.refl _ _) _, Nat.le_refl _⟩⟩)
  simp only [put4]; refine Tam2.call1 (fun _ => by rfl) rfl (fun _ => rfl) (by kernel_rfl) (fun _ => .inl rfl) (fun p w' hp hS ht => C4 _ w' (nw2_two hg hp.2 (ht 22 (by simp [Op.operands, Call.operands])))) ?_; simp only [put4]; refine Tam2.pure (v := ?_) (fun _ => by rfl) ?_ ?_ ?_; rotate_left; focus (intro p hp w hSw; go_simp <;> rfl)
  focus (intro w; exact .inl rfl)
  simp only [put4]; refine Tam2.done fun p hp w9 hS9 => ?_
  go_wp2
  go_ret; exact ⟨rfl, hS9.2.2.2⟩
end Go.Proofs.YtfjpbmdmkcihcaaGreat
/- slices.SortFunc at this program: what the library's contract asks. -/
namespace Go.Proofs.YtfjpbmdmkcihcaaGreat
open Go.RowKit Go.Sort Go.Shelf Go.Proofs

def sortL_ren : Go.Shelf.Ren := ⟨fun | 6 => 90 | 15 => 94 | 14 => 93 | 28 => 104 | 29 => 105 | 20 => 96 | 21 => 97 | 22 => 98 | 23 => 99 | 24 => 100 | 25 => 101 | 26 => 102 | 27 => 103 | 46 => 106 | 47 => 107 | 48 => 108 | 49 => 109 | 50 => 110 | 57 => 111 | n => n, fun | 22 => 87 | 24 => 3 | 25 => 111 | 3 => 3 | 39 => 119 | 0 => 0 | 53 => 134 | 55 => 136 | 4 => 4 | 46 => 128 | 45 => 127 | 50 => 74 | 5 => 5 | 9 => 9 | 66 => 137 | 70 => 141 | 76 => 143 | 77 => 144 | n => n, fun | n => n⟩
theorem sortL : Go.Proofs.SlLaysF.n6 Tryz.prog sortL_ren := {
  mixed := by kernel_rfl
  f6 := ⟨Tryz.f90.name, by decide, Tryz.func90.trans (congrArg some (by kernel_rfl))⟩
  f14 := ⟨Tryz.f93.name, by decide, Tryz.func93.trans (congrArg some (by kernel_rfl))⟩
  f15 := Tryz.func94.trans (congrArg some (by kernel_rfl))
  f20 := ⟨Tryz.f96.name, by decide, Tryz.func96.trans (congrArg some (by kernel_rfl))⟩
  f21 := ⟨Tryz.f97.name, by decide, Tryz.func97.trans (congrArg some (by kernel_rfl))⟩
  f22 := ⟨Tryz.f98.name, by decide, Tryz.func98.trans (congrArg some (by kernel_rfl))⟩
  f23 := ⟨Tryz.f99.name, by decide, Tryz.func99.trans (congrArg some (by kernel_rfl))⟩
  f24 := ⟨Tryz.f100.name, by decide, Tryz.func100.trans (congrArg some (by kernel_rfl))⟩
  f25 := ⟨Tryz.f101.name, by decide, Tryz.func101.trans (congrArg some (by kernel_rfl))⟩
  f26 := ⟨Tryz.f102.name, by decide, Tryz.func102.trans (congrArg some (by kernel_rfl))⟩
  f27 := ⟨Tryz.f103.name, by decide, Tryz.func103.trans (congrArg some (by kernel_rfl))⟩
  f28 := Tryz.func104.trans (congrArg some (by kernel_rfl))
  f29 := Tryz.func105.trans (congrArg some (by kernel_rfl))
  f46 := ⟨Tryz.f106.name, by decide, Tryz.func106.trans (congrArg some (by kernel_rfl))⟩
  f47 := Tryz.func107.trans (congrArg some (by kernel_rfl))
  f48 := Tryz.func108.trans (congrArg some (by kernel_rfl))
  f49 := ⟨Tryz.f109.name, by decide, Tryz.func109.trans (congrArg some (by kernel_rfl))⟩
  f50 := ⟨Tryz.f110.name, by decide, Tryz.func110.trans (congrArg some (by kernel_rfl))⟩
  f57 := ⟨Tryz.f111.name, by decide, Tryz.func111.trans (congrArg some (by kernel_rfl))⟩
  t0 := Tryz.underlying0
  a0 := Tryz.isAgg0
  z0 := Tryz.sizeOf0
  v0 := Tryz.zeroValue0
  t3 := Tryz.underlying3
  a3 := Tryz.isAgg3
  z3 := Tryz.sizeOf3
  v3 := Tryz.zeroValue3
  t4 := Tryz.underlying4
  a4 := Tryz.isAgg4
  z4 := Tryz.sizeOf4
  v4 := Tryz.zeroValue4
  t5 := Tryz.underlying5
  a5 := Tryz.isAgg5
  z5 := Tryz.sizeOf5
  v5 := Tryz.zeroValue5
  t9 := Tryz.underlying9
  a9 := Tryz.isAgg9
  z9 := Tryz.sizeOf9
  v9 := Tryz.zeroValue9
  t22 := Tryz.underlying87
  a22 := Tryz.isAgg87
  z22 := Tryz.sizeOf87
  v22 := Tryz.zeroValue87
  a24 := Tryz.isAgg3
  z24 := Tryz.sizeOf3
  t25 := Tryz.underlying111
  a25 := Tryz.isAgg111
  z25 := Tryz.sizeOf111
  v25 := Tryz.zeroValue111
  t39 := Tryz.underlying119
  a39 := Tryz.isAgg119
  z39 := Tryz.sizeOf119
  v39 := Tryz.zeroValue119
  t45 := Tryz.underlying127
  a45 := Tryz.isAgg127
  z45 := Tryz.sizeOf127
  v45 := Tryz.zeroValue127
  t46 := Tryz.underlying128
  a46 := Tryz.isAgg128
  z46 := Tryz.sizeOf128
  v46 := Tryz.zeroValue128
  t50 := Tryz.underlying74
  a50 := Tryz.isAgg74
  z50 := Tryz.sizeOf74
  v50 := Tryz.zeroValue74
  t53 := Tryz.underlying134
  a53 := Tryz.isAgg134
  z53 := Tryz.sizeOf134
  v53 := Tryz.zeroValue134
  t55 := Tryz.underlying136
  a55 := Tryz.isAgg136
  z55 := Tryz.sizeOf136
  v55 := Tryz.zeroValue136
  t66 := Tryz.underlying137
  a66 := Tryz.isAgg137
  z66 := Tryz.sizeOf137
  v66 := Tryz.zeroValue137
  t70 := Tryz.underlying141
  a70 := Tryz.isAgg141
  z70 := Tryz.sizeOf141
  v70 := Tryz.zeroValue141
  t76 := Tryz.underlying143
  a76 := Tryz.isAgg143
  z76 := Tryz.sizeOf143
  v76 := Tryz.zeroValue143
  t77 := Tryz.underlying144
  a77 := Tryz.isAgg144
  z77 := Tryz.sizeOf144
  v77 := Tryz.zeroValue144 }
end Go.Proofs.YtfjpbmdmkcihcaaGreat
