/- OpsOne: what the statement answers. -/
import Derived.Test.YtiijkoefhmohcaaHeads
import Derived.Test.YtiijkoefhmohcaaSml
import Derived.Test.YtiijkoefhmohcaaRefTxs
namespace Go.Proofs.Ytiijkoefhmohcaa
open Go.RowKit

/-- Of two that have seen one another, and all that the other one has seen, none may be. -/
theorem one_way {p s : Int} {v : List Int} {t : Int} {l : List O} {p' s' : Int} {v' : List Int} {i k : Int} (hc : ct p s v t l = true) (hne : (decide (p = p') && decide (s = s')) = false)
    (ha : bf p s i p' s' v' k = true) (hle : ∀ n, n < 13 → v'.getD n 0 ≤ v.getD n 0) : False := by
  unfold ct at hc
  unfold bf hs at ha
  have h1 : wi p 1 12 = true := by grind
  have h2 : v.getD p.toNat 0 < s := by grind
  have h3 : s ≤ v'.getD p.toNat 0 := by grind
  have h4 := hle p.toNat (by unfold wi at h1; grind)
  omega
theorem zm (p s i : Int) : (Try.prog.info? 33).map (·.size) = some [Value.int .i64 p, Value.int .i64 s, Value.int .i64 i].length := size33

set_option maxHeartbeats 8000000 in
set_option maxRecDepth 100000 in
theorem one_any (p s : Int) (v : List Int) (t : Int) (sl : Value) (l : List O) (p' s' : Int) (v' : List Int) (t' : Int) (sl' : Value) (l' : List O) (i k : Int) (w : World) (hv : v.length = 13) (hv' : v'.length = 13) (ho : OIs w sl l) (ho' : OIs w sl' l') : Calls Try.prog 5 #[TxV p s v t sl, TxV p' s' v' t' sl', .int .i64 i, .int .i64 k] w (Tells (.bool true) w) := by
  obtain ⟨q, c, rfl⟩ := ho.has.slice
  obtain ⟨q', c', rfl⟩ := ho'.has.slice
  have CM := fun (w1 : World) (h : OHas w1 (.slice q l.length c) l) => small_any p s v t (.slice q l.length c) l w1 hv h
  have CM' := fun (w1 : World) (h : OHas w1 (.slice q' l'.length c') l') => small_any p' s' v' t' (.slice q' l'.length c') l' w1 hv' h
  have CC := fun (w1 : World) (h : OHas w1 (.slice q l.length c) l) => refCheckTx_any p s v t (.slice q l.length c) l w1 hv h
  have CC' := fun (w1 : World) (h : OHas w1 (.slice q' l'.length c') l') => refCheckTx_any p' s' v' t' (.slice q' l'.length c') l' w1 hv' h
  have CB := fun (w1 : World) => before_any p s i p' s' v' t' (.slice q' l'.length c') k w1 hv'
  have CB' := fun (w1 : World) => before_any p' s' k p s v t (.slice q l.length c) i w1 hv
  have CH := heads_any
  have E := fun w => eq_dot w p s p' s'
  obtain ⟨y, HY⟩ := hid_ex (decide (p = p') && decide (s = s'))
  rw [HY.out] at E
  obtain ⟨g, HG⟩ := hid_ex (ct p s v t l)
  obtain ⟨g', HG'⟩ := hid_ex (ct p' s' v' t' l')
  rw [HG.out] at CC
  rw [HG'.out] at CC'
  obtain ⟨a, HA⟩ := hid_ex (bf p s i p' s' v' k)
  obtain ⟨b, HB⟩ := hid_ex (bf p' s' k p s v i)
  rw [HA.out] at CB
  rw [HB.out] at CB'
  obtain ⟨R0, R1, hbel⟩ := two_rows w (txc p s v t (.slice q l.length c)).toArray 28 (txc p' s' v' t' (.slice q' l'.length c')).toArray 28
  replace ho := ho.later (bel_alloc (bel_alloc (Below.refl _ _) (.cells (txc p s v t (.slice q l.length c)).toArray 28)) (.cells (txc p' s' v' t' (.slice q' l'.length c')).toArray 28))
  replace ho' := ho'.later (bel_alloc (bel_alloc (Below.refl _ _) (.cells (txc p s v t (.slice q l.length c)).toArray 28)) (.cells (txc p' s' v' t' (.slice q' l'.length c')).toArray 28))
  have zt := size_tx (p := p) (s := s) (t := t) (sl := .slice q l.length c) hv
  have zt' := size_tx (p := p') (s := s') (t := t') (sl := .slice q' l'.length c') hv'
  have z2 := zd p s
  have z2' := zd p' s'
  generalize hW : (w.alloc (.cells (txc p s v t (.slice q l.length c)).toArray 28)).alloc (.cells (txc p' s' v' t' (.slice q' l'.length c')).toArray 28) = w0 at R0 R1 hbel ho ho'
  go_enter Try.func5, Try.ntmps5
  go_wp2_with (first | refine load_r 28 _ rfl rfl _ rfl R0 Try.underlying28 rfl zt ?_)
  refine (CM _ ho.has).mono ?_
  rintro e w1 ⟨x, rfl, hx, hb1⟩
  clear hW CM
  replace R0 := R0.later hb1
  replace R1 := R1.later hb1
  replace ho := ho.later hb1
  replace ho' := ho'.later hb1
  replace hbel := below_on hbel hb1
  clear hb1
  cases x
  · clear hx
    go_wp2_with fail
    refine (CH _).mono ?_
    rintro e wh ⟨rfl, hbh⟩
    go_wp2_with fail
    go_ret
    exact ⟨rfl, below_on hbel hbh⟩
  clear hx
  go_wp2_with (first | refine load_r 28 _ rfl rfl _ rfl R1 Try.underlying28 rfl zt' ?_)
  refine (CM' _ ho'.has).mono ?_
  rintro e w1 ⟨x, rfl, hx, hb1⟩
  clear CM' hx
  replace R0 := R0.later hb1
  replace R1 := R1.later hb1
  replace ho := ho.later hb1
  replace ho' := ho'.later hb1
  replace hbel := below_on hbel hb1
  clear hb1
  cases x
  · go_wp2_with fail
    refine (CH _).mono ?_
    rintro e wh ⟨rfl, hbh⟩
    go_wp2_with fail
    go_ret
    exact ⟨rfl, below_on hbel hbh⟩
  go_wp2_with (first | refine load_r 28 _ rfl rfl _ rfl R0 Try.underlying28 rfl zt ?_)
  refine (CC _ ho.has).mono ?_
  rintro e w1 ⟨rfl, hb1⟩
  clear CC
  replace R0 := R0.later hb1
  replace R1 := R1.later hb1
  replace ho := ho.later hb1
  replace ho' := ho'.later hb1
  replace hbel := below_on hbel hb1
  clear hb1
  cases g
  · go_wp2_with fail
    refine (CH _).mono ?_
    rintro e wh ⟨rfl, hbh⟩
    go_wp2_with fail
    go_ret
    exact ⟨rfl, below_on hbel hbh⟩
  go_wp2_with (first | refine load_r 28 _ rfl rfl _ rfl R1 Try.underlying28 rfl zt' ?_)
  refine (CC' _ ho'.has).mono ?_
  rintro e w1 ⟨rfl, hb1⟩
  clear CC'
  replace R0 := R0.later hb1
  replace R1 := R1.later hb1
  replace ho := ho.later hb1
  replace ho' := ho'.later hb1
  replace hbel := below_on hbel hb1
  clear hb1
  cases g'
  · go_wp2_with fail
    refine (CH _).mono ?_
    rintro e wh ⟨rfl, hbh⟩
    go_wp2_with fail
    go_ret
    exact ⟨rfl, below_on hbel hbh⟩
  have c0 := tx_p R0
  have c1 := tx_s R0
  have d0 := tx_p R1
  have d1 := tx_s R1
  cases y
  case true =>
    go_wp2_with fail
    refine (CH _).mono ?_
    rintro e wh ⟨rfl, hbh⟩
    go_wp2_with fail
    go_ret
    exact ⟨rfl, below_on hbel hbh⟩
  case false =>
    by_cases hi : i < 1
    · go_wp2_with fail
      refine (CH _).mono ?_
      rintro e wh ⟨rfl, hbh⟩
      go_wp2_with fail
      go_ret
      exact ⟨rfl, below_on hbel hbh⟩
    by_cases hk : k < 1
    · go_wp2_with fail
      refine (CH _).mono ?_
      rintro e wh ⟨rfl, hbh⟩
      go_wp2_with fail
      go_ret
      exact ⟨rfl, below_on hbel hbh⟩
    go_wp2_with (first | refine load_r 28 _ rfl rfl _ rfl R1 Try.underlying28 rfl zt' ?_)
    refine (CB _).mono ?_
    rintro e w1 ⟨rfl, hb1⟩
    clear CB c0 c1 d0 d1
    replace R0 := R0.later hb1
    replace R1 := R1.later hb1
    replace ho := ho.later hb1
    replace ho' := ho'.later hb1
    replace hbel := below_on hbel hb1
    clear hb1
    have d0 := tx_p R1
    have d1 := tx_s R1
    go_wp2_with (first | refine load_r 28 _ rfl rfl _ rfl R0 Try.underlying28 rfl zt ?_)
    refine (CB' _).mono ?_
    rintro e w1 ⟨rfl, hb1⟩
    clear CB' d0 d1
    replace R0 := R0.later hb1
    replace R1 := R1.later hb1
    replace ho := ho.later hb1
    replace ho' := ho'.later hb1
    replace hbel := below_on hbel hb1
    clear hb1
    go_wp2_with fail
    clear E z2 z2' zt zt' hi hk
    go_loopw [11] (fun vi wr => ∃ n : Nat, vi = .int .i64 n ∧ n ≤ 13 ∧ Hid (∀ m, m < n → (a = true → v.getD m 0 ≤ v'.getD m 0) ∧ (b = true → v'.getD m 0 ≤ v.getD m 0)) ∧ Rw wr w.heap.size 28 (txc p s v t (.slice q l.length c)).toArray ∧ Rw wr (w.heap.size + 1) 28 (txc p' s' v' t' (.slice q' l'.length c')).toArray ∧ Below w.heap.size w wr) (fun vi _ => 13 - (intOf vi).toNat)
    case atStart => exact ⟨0, rfl, by omega, (show ∀ m, m < 0 → _ from fun m h => by omega), R0, R1, hbel⟩
    case round =>
      clear R0 R1 ho ho' hbel
      obtain ⟨n, rfl, hn, HV, R0, R1, hbel⟩ := hrel
      by_cases hlt : n < 13
      · have hlt' : (n : Int) ≤ 12 := by omega
        have hlt2 : (n : Int) < 13 := by omega
        have cc := tx_at R0 hv n hlt
        have cc' := tx_at R1 hv' n hlt
        obtain ⟨m, HM⟩ := hid_ex (v.getD n 0)
        obtain ⟨m', HM'⟩ := hid_ex (v'.getD n 0)
        rw [HM.out] at cc
        rw [HM'.out] at cc'
        obtain ⟨f, HF⟩ := hid_ex (decide (m' < m))
        obtain ⟨f', HF'⟩ := hid_ex (decide (m < m'))
        have hf : decide (m' < m) = f := HF.out
        have hf' : decide (m < m') = f' := HF'.out
        have HT : Hid (((a && f) || (b && f')) = false → ∀ m, m < n + 1 → (a = true → v.getD m 0 ≤ v'.getD m 0) ∧ (b = true → v'.getD m 0 ≤ v.getD m 0)) := by
          show ((a && f) || (b && f')) = false → ∀ m, m < n + 1 → (a = true → v.getD m 0 ≤ v'.getD m 0) ∧ (b = true → v'.getD m 0 ≤ v.getD m 0)
          intro h j hj
          by_cases e : j = n
          · subst e
            rw [HM.out, HM'.out]
            have h1 := HF.out
            have h2 := HF'.out
            constructor
            · intro ea
              rw [ea] at h
              have : f = false := by cases f <;> simp_all
              rw [this] at h1
              have := of_decide_eq_false h1
              omega
            · intro eb
              rw [eb] at h
              have : f' = false := by cases f' <;> simp_all
              rw [this] at h2
              have := of_decide_eq_false h2
              omega
          · exact HV.out j (by omega)
        clear HF HF' HM HM' HV
        cases a <;> cases b <;> cases f <;> cases f'
        all_goals
          go_wp2_with fail
          have hs : Calm.Stays (fun w' => w'.cell? ⟨w.heap.size, 2 + n, none⟩ = some (.int .i64 m) ∧ w'.cell? ⟨w.heap.size + 1, 2 + n, none⟩ = some (.int .i64 m') ∧ Rw w' w.heap.size 28 (txc p s v t (.slice q l.length c)).toArray ∧ Rw w' (w.heap.size + 1) 28 (txc p' s' v' t' (.slice q' l'.length c')).toArray ∧ Below w.heap.size w w') := fun wa wb h hb => ⟨cell_later hb h.1, cell_later hb h.2.1, h.2.2.1.later hb, h.2.2.2.1.later hb, below_on h.2.2.2.2 hb⟩
          refine Calm.region (by kernel_rfl) (by kernel_rfl) (fun w' => w'.cell? ⟨w.heap.size, 2 + n, none⟩ = some (.int .i64 m) ∧ w'.cell? ⟨w.heap.size + 1, 2 + n, none⟩ = some (.int .i64 m') ∧ Rw w' w.heap.size 28 (txc p s v t (.slice q l.length c)).toArray ∧ Rw w' (w.heap.size + 1) 28 (txc p' s' v' t' (.slice q' l'.length c')).toArray ∧ Below w.heap.size w w') ⟨cc, cc', R0, R1, hbel.drew⟩ ?_
          clear R0 R1 hbel cc cc'
        all_goals
          refine Calm.pure (v := ?_) (by rfl) ?_ ?_
          rotate_left
          focus (intro w hSw; go_simp <;> rfl)
          simp only [Act.put, List.setIfInBounds_toArray, List.set_cons_zero, List.set_cons_succ]
        all_goals
          refine Calm.pure (v := ?_) (by rfl) ?_ ?_
          rotate_left
          focus (intro w hSw; go_simp <;> rfl)
          simp only [Act.put, List.setIfInBounds_toArray, List.set_cons_zero, List.set_cons_succ]
        all_goals
          first
            | (refine Calm.skip ?_ ?_; focus rfl)
            | (refine Calm.pure (v := ?_) (by rfl) ?_ ?_
               rotate_left
               focus (intro w hSw; go_simp <;> rfl))
          simp only [Act.put, List.setIfInBounds_toArray, List.set_cons_zero, List.set_cons_succ]
        all_goals
          first
            | (refine Calm.skip ?_ ?_; focus rfl)
            | (refine Calm.pure (v := ?_) (by rfl) ?_ ?_
               rotate_left
               focus (intro w hSw; go_simp <;> rfl))
          simp only [Act.put, List.setIfInBounds_toArray, List.set_cons_zero, List.set_cons_succ]
        all_goals
          first
            | (refine Calm.skip ?_ ?_; focus rfl)
            | (refine Calm.pure (v := ?_) (by rfl) ?_ ?_
               rotate_left
               focus (intro w hSw; go_simp <;> rfl))
          simp only [Act.put, List.setIfInBounds_toArray, List.set_cons_zero, List.set_cons_succ]
        all_goals
          first
            | (refine Calm.skip ?_ ?_; focus rfl)
            | (refine Calm.pure (v := ?_) (by rfl) ?_ ?_
               rotate_left
               focus (intro w hSw; go_simp <;> rfl))
          simp only [Act.put, List.setIfInBounds_toArray, List.set_cons_zero, List.set_cons_succ]
        all_goals
          first
            | (refine Calm.skip ?_ ?_; focus rfl)
            | (refine Calm.pure (v := ?_) (by rfl) ?_ ?_
               rotate_left
               focus (intro w hSw; go_simp <;> rfl))
          simp only [Act.put, List.setIfInBounds_toArray, List.set_cons_zero, List.set_cons_succ]
        all_goals
          first
            | (refine Calm.skip ?_ ?_; focus rfl)
            | (refine Calm.pure (v := ?_) (by rfl) ?_ ?_
               rotate_left
               focus (intro w hSw; go_simp <;> rfl))
          simp only [Act.put, List.setIfInBounds_toArray, List.set_cons_zero, List.set_cons_succ]
        all_goals
          first
            | (refine Calm.skip ?_ ?_; focus rfl)
            | (refine Calm.pure (v := ?_) (by rfl) ?_ ?_
               rotate_left
               focus (intro w hSw; go_simp <;> rfl))
          simp only [Act.put, List.setIfInBounds_toArray, List.set_cons_zero, List.set_cons_succ]
        all_goals
          first
            | (refine Calm.skip ?_ ?_; focus rfl)
            | (refine Calm.pure (v := ?_) (by rfl) ?_ ?_
               rotate_left
               focus (intro w hSw; go_simp <;> rfl))
          simp only [Act.put, List.setIfInBounds_toArray, List.set_cons_zero, List.set_cons_succ]
        all_goals
          first
            | (refine Calm.skip ?_ ?_; focus rfl)
            | (refine Calm.pure (v := ?_) (by rfl) ?_ ?_
               rotate_left
               focus (intro w hSw; go_simp <;> rfl))
          simp only [Act.put, List.setIfInBounds_toArray, List.set_cons_zero, List.set_cons_succ]
        all_goals
          refine Calm.pure (v := ?_) (by rfl) ?_ ?_
          rotate_left
          focus (intro w hSw; go_simp <;> rfl)
          simp only [Act.put, List.setIfInBounds_toArray, List.set_cons_zero, List.set_cons_succ]
        all_goals
          refine Calm.pure (v := ?_) (by rfl) ?_ ?_
          rotate_left
          focus (intro w hSw; go_simp <;> rfl)
          simp only [Act.put, List.setIfInBounds_toArray, List.set_cons_zero, List.set_cons_succ]
        all_goals
          first
            | (refine Calm.skip ?_ ?_; focus rfl)
            | (refine Calm.pure (v := ?_) (by rfl) ?_ ?_
               rotate_left
               focus (intro w hSw; go_simp <;> rfl))
          simp only [Act.put, List.setIfInBounds_toArray, List.set_cons_zero, List.set_cons_succ]
        all_goals
          first
            | (refine Calm.skip ?_ ?_; focus rfl)
            | (refine Calm.pure (v := ?_) (by rfl) ?_ ?_
               rotate_left
               focus (intro w hSw; go_simp <;> rfl))
          simp only [Act.put, List.setIfInBounds_toArray, List.set_cons_zero, List.set_cons_succ]
        all_goals
          first
            | (refine Calm.skip ?_ ?_; focus rfl)
            | (refine Calm.pure (v := ?_) (by rfl) ?_ ?_
               rotate_left
               focus (intro w hSw; go_simp <;> rfl))
          simp only [Act.put, List.setIfInBounds_toArray, List.set_cons_zero, List.set_cons_succ]
        all_goals
          first
            | (refine Calm.skip ?_ ?_; focus rfl)
            | (refine Calm.pure (v := ?_) (by rfl) ?_ ?_
               rotate_left
               focus (intro w hSw; go_simp <;> rfl))
          simp only [Act.put, List.setIfInBounds_toArray, List.set_cons_zero, List.set_cons_succ]
        all_goals
          first
            | (refine Calm.skip ?_ ?_; focus rfl)
            | (refine Calm.pure (v := ?_) (by rfl) ?_ ?_
               rotate_left
               focus (intro w hSw; go_simp <;> rfl))
          simp only [Act.put, List.setIfInBounds_toArray, List.set_cons_zero, List.set_cons_succ]
        all_goals
          first
            | (refine Calm.skip ?_ ?_; focus rfl)
            | (refine Calm.pure (v := ?_) (by rfl) ?_ ?_
               rotate_left
               focus (intro w hSw; go_simp <;> rfl))
          simp only [Act.put, List.setIfInBounds_toArray, List.set_cons_zero, List.set_cons_succ]
        all_goals
          first
            | (refine Calm.skip ?_ ?_; focus rfl)
            | (refine Calm.pure (v := ?_) (by rfl) ?_ ?_
               rotate_left
               focus (intro w hSw; go_simp <;> rfl))
          simp only [Act.put, List.setIfInBounds_toArray, List.set_cons_zero, List.set_cons_succ]
        all_goals
          first
            | (refine Calm.skip ?_ ?_; focus rfl)
            | (refine Calm.pure (v := ?_) (by rfl) ?_ ?_
               rotate_left
               focus (intro w hSw; go_simp <;> rfl))
          simp only [Act.put, List.setIfInBounds_toArray, List.set_cons_zero, List.set_cons_succ]
        all_goals
          first
            | (refine Calm.skip ?_ ?_; focus rfl)
            | (refine Calm.pure (v := ?_) (by rfl) ?_ ?_
               rotate_left
               focus (intro w hSw; go_simp <;> rfl))
          simp only [Act.put, List.setIfInBounds_toArray, List.set_cons_zero, List.set_cons_succ]
        all_goals
          first
            | (refine Calm.skip ?_ ?_; focus rfl)
            | (refine Calm.pure (v := ?_) (by rfl) ?_ ?_
               rotate_left
               focus (intro w hSw; go_simp <;> rfl))
          simp only [Act.put, List.setIfInBounds_toArray, List.set_cons_zero, List.set_cons_succ]
        all_goals
          first
            | (refine Calm.skip ?_ ?_; focus rfl)
            | (refine Calm.pure (v := ?_) (by rfl) ?_ ?_
               rotate_left
               focus (intro w hSw; go_simp <;> rfl))
          simp only [Act.put, List.setIfInBounds_toArray, List.set_cons_zero, List.set_cons_succ]
        all_goals
          first
            | (refine Calm.skip ?_ ?_; focus rfl)
            | (refine Calm.pure (v := ?_) (by rfl) ?_ ?_
               rotate_left
               focus (intro w hSw; go_simp <;> rfl))
          simp only [Act.put, List.setIfInBounds_toArray, List.set_cons_zero, List.set_cons_succ]
        all_goals
          refine Calm.pure (v := ?_) (by rfl) ?_ ?_
          rotate_left
          focus (intro w hSw; go_simp <;> rfl)
          simp only [Act.put, List.setIfInBounds_toArray, List.set_cons_zero, List.set_cons_succ]
        all_goals
          rintro w9 ⟨_, _, T0, T1, hbel9⟩
        all_goals
          go_wp2_with fail
        all_goals first
          | (refine (CH _).mono ?_
             rintro e wh ⟨rfl, hbh⟩
             go_wp2_with fail
             go_ret
             exact ⟨rfl, below_on hbel9 hbh⟩)
          | (go_roundw
             case rel => exact ⟨n + 1, by simp, by omega, HT.out rfl, T0, T1, hbel9⟩
             case measure => simp [intOf]; omega)
      · obtain rfl : n = 13 := by omega
        cases a <;> cases b
        case true.true =>
          exact (one_way HG.out HY.out HA.out (fun n hn => (HV.out n hn).2 rfl)).elim
        all_goals
          clear HA HB HG HG' HY HV
          go_wp2_with fail
          refine (CH _).mono ?_
          rintro e wh ⟨rfl, hbh⟩
          go_wp2_with fail
          go_ret
          exact ⟨rfl, below_on hbel hbh⟩
end Go.Proofs.Ytiijkoefhmohcaa
