import Derived.Test.YtcebchjokmampaaP5
import Derived.Test.YtcebchjokmampaaP3
import Derived.Test.YtcebchjokmampaaP4
import Derived.Laws.CopyOwn
import Derived.Deep.CutRange
import Derived.Deep.RegionHeld3
/- CheckTx and CheckOpen of the document's answer. -/
namespace Go.Proofs.Ytcebchjokmampaa
open Go.RowKit

set_option maxHeartbeats 4000000 in
set_option maxRecDepth 100000 in
theorem refCheckTx_any (p s : Int) (v : List Int) (t : Int) (sl : Value) (l : List O) (w : World) (hv : v.length = 13) (ho : OHas w sl l) : Calls Try.prog 34 #[TxV p s v t sl] w (Tells (.bool (ct p s v t l)) w) := by
  have CS := fun (w1 : World) (h : OHas w1 sl l) => rest_any p s v t sl l w1 hv h
  obtain ⟨u, HU⟩ := hid_ex (sn p s v t l)
  unfold ct
  rw [HU.out] at CS ⊢
  clear HU
  obtain ⟨q, c, rfl⟩ := ho.slice
  have CD := fun w => peer_any p w
  obtain ⟨x, HX⟩ := hid_ex (wi p 1 12)
  obtain ⟨x2, HX2⟩ := hid_ex (decide (1 ≤ s))
  obtain ⟨x3, HX3⟩ := hid_ex (decide (s ≤ 1048576))
  have ew : wi s 1 1048576 = (x2 && x3) := by unfold wi; rw [HX2.out, HX3.out]
  rw [ew, HX.out]
  rw [HX.out] at CD
  clear ew
  obtain ⟨y, HY⟩ := hid_ex (decide (v.getD p.toNat 0 < s))
  obtain ⟨z, HZ⟩ := hid_ex (decide (1 ≤ l.length))
  rw [HY.out, HZ.out]
  have HP : Hid (x = true → ∃ n : Nat, p = n ∧ n < 13) := by
    show x = true → ∃ n : Nat, p = n ∧ n < 13
    intro e
    have h := HX.out
    rw [e] at h
    have h1 : 1 ≤ p ∧ p ≤ 12 := by unfold wi at h; grind
    exact ⟨p.toNat, by omega, by omega⟩
  clear HX
  have R := rw_new w 43 (txc p s v t (.slice q l.length c)).toArray
  have hbel : Below w.heap.size w (w.alloc (.cells (txc p s v t (.slice q l.length c)).toArray 43)) := bel_alloc (Below.refl _ _) _
  replace ho := ho.later (bel_alloc (Below.refl _ _) (.cells (txc p s v t (.slice q l.length c)).toArray 43))
  have c0 := tx_p R
  have c1 := tx_s R
  have c16 := tx_ops R hv
  have zt := size_tx (p := p) (s := s) (t := t) (sl := .slice q l.length c) hv
  have z2 := zd p s
  cases x
  case false =>
    generalize hW : w.alloc (.cells (txc p s v t (.slice q l.length c)).toArray 43) = w0 at R hbel ho c0 c1 c16
    have D := rw_new w0 40 #[.int .i64 p, .int .i64 s]
    have R' := R
    have A1 := tx_p (R.alloc (.cells #[.int .i64 p, .int .i64 s] 40))
    have A2 := tx_s (R.alloc (.cells #[.int .i64 p, .int .i64 s] 40))
    have A3 := tx_ops (R.alloc (.cells #[.int .i64 p, .int .i64 s] 40)) hv
    replace R := R.alloc (.cells #[.int .i64 p, .int .i64 s] 40)
    replace ho := ho.later (bel_alloc (Below.refl _ _) (.cells #[.int .i64 p, .int .i64 s] 40))
    replace hbel := bel_alloc hbel (.cells #[.int .i64 p, .int .i64 s] 40)
    clear c0 c1 c16
    go_enter Try.func34, Try.ntmps34
    go_wp2_with (first | rw [hW] | refine load_m 40 _ rfl rfl _ _ rfl (tx_dot R') Try.underlying40 rfl z2 ?_)
    clear hW R'
    have hs : Calm.Stays (fun w' => w'.cell? ⟨w.heap.size, 0, none⟩ = some (.int .i64 p) ∧ w'.cell? ⟨w.heap.size, 1, none⟩ = some (.int .i64 s) ∧ w'.cell? ⟨w.heap.size, 16, none⟩ = some (.slice q l.length c) ∧ w'.cell? ⟨w0.heap.size, 0, none⟩ = some (.int .i64 p) ∧ w'.cell? ⟨w0.heap.size, 1, none⟩ = some (.int .i64 s) ∧ Rw w' w.heap.size 43 (txc p s v t (.slice q l.length c)).toArray ∧ OHas w' (.slice q l.length c) l ∧ Below w.heap.size w w') := fun wa wb h hb => ⟨cell_later hb h.1, cell_later hb h.2.1, cell_later hb h.2.2.1, cell_later hb h.2.2.2.1, cell_later hb h.2.2.2.2.1, h.2.2.2.2.2.1.later hb, h.2.2.2.2.2.2.1.later hb, below_on h.2.2.2.2.2.2.2 hb⟩
    refine Calm.region (by kernel_rfl) (by kernel_rfl) (fun w' => w'.cell? ⟨w.heap.size, 0, none⟩ = some (.int .i64 p) ∧ w'.cell? ⟨w.heap.size, 1, none⟩ = some (.int .i64 s) ∧ w'.cell? ⟨w.heap.size, 16, none⟩ = some (.slice q l.length c) ∧ w'.cell? ⟨w0.heap.size, 0, none⟩ = some (.int .i64 p) ∧ w'.cell? ⟨w0.heap.size, 1, none⟩ = some (.int .i64 s) ∧ Rw w' w.heap.size 43 (txc p s v t (.slice q l.length c)).toArray ∧ OHas w' (.slice q l.length c) l ∧ Below w.heap.size w w') ⟨A1, A2, A3, D.cell 0, D.cell 1, R, ho, hbel.drew⟩ ?_
    clear R hbel ho A1 A2 A3 D
    all_goals
      refine Calm.pure (v := ?_) (by rfl) ?_ ?_
      rotate_left
      focus (intro w hSw; go_simp <;> rfl)
      simp only [Act.put, List.setIfInBounds_toArray, List.set_cons_zero, List.set_cons_succ]
    all_goals
      refine Calm.pure (v := ?_) (by rfl) ?_ ?_
      rotate_left
      focus (intro w hSw; go_simp <;> rfl)
      simp only [Act.put, List.setIfInBounds_toArray, List.set_cons_zero, List.set_cons_succ]
    all_goals
      refine Calm.call1s (by rfl) rfl rfl (by kernel_rfl) hs (fun w1 h => CD w1) ?_
      simp only [Act.put, List.setIfInBounds_toArray, List.set_cons_zero, List.set_cons_succ]
    all_goals
      refine Calm.pure (v := ?_) (by rfl) ?_ ?_
      rotate_left
      focus (intro w hSw; go_simp <;> rfl)
      simp only [Act.put, List.setIfInBounds_toArray, List.set_cons_zero, List.set_cons_succ]
    all_goals
      first
        | (refine Calm.skip ?_ ?_; focus rfl)
        | (refine Calm.pure (v := ?_) (by rfl) ?_ ?_
           rotate_left
           focus (intro w hSw; go_simp <;> rfl))
      simp only [Act.put, List.setIfInBounds_toArray, List.set_cons_zero, List.set_cons_succ]
    all_goals
      first
        | (refine Calm.skip ?_ ?_; focus rfl)
        | (refine Calm.pure (v := ?_) (by rfl) ?_ ?_
           rotate_left
           focus (intro w hSw; go_simp <;> rfl))
      simp only [Act.put, List.setIfInBounds_toArray, List.set_cons_zero, List.set_cons_succ]
    all_goals
      first
        | (refine Calm.skip ?_ ?_; focus rfl)
        | (refine Calm.pure (v := ?_) (by rfl) ?_ ?_
           rotate_left
           focus (intro w hSw; go_simp <;> rfl))
      simp only [Act.put, List.setIfInBounds_toArray, List.set_cons_zero, List.set_cons_succ]
    all_goals
      refine Calm.pure (v := ?_) (by rfl) ?_ ?_
      rotate_left
      focus (intro w hSw; go_simp <;> rfl)
      simp only [Act.put, List.setIfInBounds_toArray, List.set_cons_zero, List.set_cons_succ]
    all_goals
      refine Calm.pure (v := ?_) (by rfl) ?_ ?_
      rotate_left
      focus (intro w hSw; go_simp <;> rfl)
      simp only [Act.put, List.setIfInBounds_toArray, List.set_cons_zero, List.set_cons_succ]
    all_goals
      first
        | (refine Calm.skip ?_ ?_; focus rfl)
        | (refine Calm.pure (v := ?_) (by rfl) ?_ ?_
           rotate_left
           focus (intro w hSw; go_simp <;> rfl))
      simp only [Act.put, List.setIfInBounds_toArray, List.set_cons_zero, List.set_cons_succ]
    all_goals
      first
        | (refine Calm.skip ?_ ?_; focus rfl)
        | (refine Calm.pure (v := ?_) (by rfl) ?_ ?_
           rotate_left
           focus (intro w hSw; go_simp <;> rfl))
      simp only [Act.put, List.setIfInBounds_toArray, List.set_cons_zero, List.set_cons_succ]
    all_goals
      first
        | (refine Calm.skip ?_ ?_; focus rfl)
        | (refine Calm.pure (v := ?_) (by rfl) ?_ ?_
           rotate_left
           focus (intro w hSw; go_simp <;> rfl))
      simp only [Act.put, List.setIfInBounds_toArray, List.set_cons_zero, List.set_cons_succ]
    all_goals
      refine Calm.pure (v := ?_) (by rfl) ?_ ?_
      rotate_left
      focus (intro w hSw; go_simp <;> rfl)
      simp only [Act.put, List.setIfInBounds_toArray, List.set_cons_zero, List.set_cons_succ]
    all_goals
      refine Calm.pure (v := ?_) (by rfl) ?_ ?_
      rotate_left
      focus (intro w hSw; go_simp <;> rfl)
      simp only [Act.put, List.setIfInBounds_toArray, List.set_cons_zero, List.set_cons_succ]
    all_goals
      first
        | (refine Calm.skip ?_ ?_; focus rfl)
        | (refine Calm.pure (v := ?_) (by rfl) ?_ ?_
           rotate_left
           focus (intro w hSw; go_simp <;> rfl))
      simp only [Act.put, List.setIfInBounds_toArray, List.set_cons_zero, List.set_cons_succ]
    all_goals
      first
        | (refine Calm.skip ?_ ?_; focus rfl)
        | (refine Calm.pure (v := ?_) (by rfl) ?_ ?_
           rotate_left
           focus (intro w hSw; go_simp <;> rfl))
      simp only [Act.put, List.setIfInBounds_toArray, List.set_cons_zero, List.set_cons_succ]
    all_goals
      first
        | (refine Calm.skip ?_ ?_; focus rfl)
        | (refine Calm.pure (v := ?_) (by rfl) ?_ ?_
           rotate_left
           focus (intro w hSw; go_simp <;> rfl))
      simp only [Act.put, List.setIfInBounds_toArray, List.set_cons_zero, List.set_cons_succ]
    all_goals
      first
        | (refine Calm.skip ?_ ?_; focus rfl)
        | (refine Calm.pure (v := ?_) (by rfl) ?_ ?_
           rotate_left
           focus (intro w hSw; go_simp <;> rfl))
      simp only [Act.put, List.setIfInBounds_toArray, List.set_cons_zero, List.set_cons_succ]
    all_goals
      refine Calm.pure (v := ?_) (by rfl) ?_ ?_
      rotate_left
      focus (intro w hSw; go_simp <;> rfl)
      simp only [Act.put, List.setIfInBounds_toArray, List.set_cons_zero, List.set_cons_succ]
    all_goals
      refine Calm.pure (v := ?_) (by rfl) ?_ ?_
      rotate_left
      focus (intro w hSw; go_simp <;> rfl)
      simp only [Act.put, List.setIfInBounds_toArray, List.set_cons_zero, List.set_cons_succ]
    all_goals
      first
        | (refine Calm.skip ?_ ?_; focus rfl)
        | (refine Calm.loadW 43 Try.underlying43 rfl zt (by rfl) _ rfl rfl (fun _ h => h.2.2.2.2.2.1) ?_)
      simp only [Act.put, List.setIfInBounds_toArray, List.set_cons_zero, List.set_cons_succ]
    all_goals
      first
        | (refine Calm.skip ?_ ?_; focus rfl)
        | (refine Calm.call1s (by rfl) rfl rfl (by kernel_rfl) hs (fun w1 h => CS w1 h.2.2.2.2.2.2.1) ?_)
      simp only [Act.put, List.setIfInBounds_toArray, List.set_cons_zero, List.set_cons_succ]
    all_goals
      refine Calm.pure (v := ?_) (by rfl) ?_ ?_
      rotate_left
      focus (intro w hSw; go_simp <;> rfl)
      simp only [Act.put, List.setIfInBounds_toArray, List.set_cons_zero, List.set_cons_succ]
    all_goals
      refine Calm.pure (v := ?_) (by rfl) ?_ ?_
      rotate_left
      focus (intro w hSw; go_simp <;> rfl)
      simp only [Act.put, List.setIfInBounds_toArray, List.set_cons_zero, List.set_cons_succ]
    all_goals
      first
        | (refine Calm.skip ?_ ?_; focus rfl)
        | (refine Calm.pure (v := ?_) (by rfl) ?_ ?_
           rotate_left
           focus (intro w hSw; go_simp <;> rfl))
      simp only [Act.put, List.setIfInBounds_toArray, List.set_cons_zero, List.set_cons_succ]
    all_goals
      first
        | (refine Calm.skip ?_ ?_; focus rfl)
        | (refine Calm.pure (v := ?_) (by rfl) ?_ ?_
           rotate_left
           focus (intro w hSw; go_simp <;> rfl))
      simp only [Act.put, List.setIfInBounds_toArray, List.set_cons_zero, List.set_cons_succ]
    all_goals
      first
        | (refine Calm.skip ?_ ?_; focus rfl)
        | (refine Calm.pure (v := ?_) (by rfl) ?_ ?_
           rotate_left
           focus (intro w hSw; go_simp <;> rfl))
      simp only [Act.put, List.setIfInBounds_toArray, List.set_cons_zero, List.set_cons_succ]
    all_goals
      first
        | (refine Calm.skip ?_ ?_; focus rfl)
        | (refine Calm.pure (v := ?_) (by rfl) ?_ ?_
           rotate_left
           focus (intro w hSw; go_simp <;> rfl))
      simp only [Act.put, List.setIfInBounds_toArray, List.set_cons_zero, List.set_cons_succ]
    all_goals
      first
        | (refine Calm.skip ?_ ?_; focus rfl)
        | (refine Calm.pure (v := ?_) (by rfl) ?_ ?_
           rotate_left
           focus (intro w hSw; go_simp <;> rfl))
      simp only [Act.put, List.setIfInBounds_toArray, List.set_cons_zero, List.set_cons_succ]
    all_goals
      first
        | (refine Calm.skip ?_ ?_; focus rfl)
        | (refine Calm.pure (v := ?_) (by rfl) ?_ ?_
           rotate_left
           focus (intro w hSw; go_simp <;> rfl))
      simp only [Act.put, List.setIfInBounds_toArray, List.set_cons_zero, List.set_cons_succ]
    all_goals
      first
        | (refine Calm.skip ?_ ?_; focus rfl)
        | (refine Calm.pure (v := ?_) (by rfl) ?_ ?_
           rotate_left
           focus (intro w hSw; go_simp <;> rfl))
      simp only [Act.put, List.setIfInBounds_toArray, List.set_cons_zero, List.set_cons_succ]
    all_goals
      first
        | (refine Calm.skip ?_ ?_; focus rfl)
        | (refine Calm.pure (v := ?_) (by rfl) ?_ ?_
           rotate_left
           focus (intro w hSw; go_simp <;> rfl))
      simp only [Act.put, List.setIfInBounds_toArray, List.set_cons_zero, List.set_cons_succ]
    all_goals
      refine Calm.pure (v := ?_) (by rfl) ?_ ?_
      rotate_left
      focus (intro w hSw; go_simp <;> rfl)
      simp only [Act.put, List.setIfInBounds_toArray, List.set_cons_zero, List.set_cons_succ]
    all_goals
      refine Calm.pure (v := ?_) (by rfl) ?_ ?_
      rotate_left
      focus (intro w hSw; go_simp <;> rfl)
      simp only [Act.put, List.setIfInBounds_toArray, List.set_cons_zero, List.set_cons_succ]
    all_goals
      rintro w9 ⟨_, _, _, _, _, _, _, hbel9⟩
    all_goals
      go_wp2_with fail
      go_ret
      exact ⟨by simp, hbel9⟩
  case true =>
    obtain ⟨n, rfl, hn⟩ := HP.out rfl
    have hn' : (n : Int) < 13 := by omega
    rw [show ((n : Int)).toNat = n by omega] at HY
    have cn := tx_at (R.alloc (.cells #[.int .i64 n, .int .i64 s] 40)) hv n hn
    obtain ⟨m, HM⟩ := hid_ex (v.getD n 0)
    rw [HM.out] at cn HY
    clear HM HP
    have hy : decide (m < s) = y := HY.out
    have hx2 : decide (1 ≤ s) = x2 := HX2.out
    have hx3 : decide (s ≤ 1048576) = x3 := HX3.out
    have hz : decide (1 ≤ (l.length : Int)) = z := by
      rw [← HZ.out, decide_eq_decide]
      omega
    clear HY HZ HX2 HX3
    generalize hW : w.alloc (.cells (txc (n : Int) s v t (.slice q l.length c)).toArray 43) = w0 at R hbel ho c0 c1 c16 cn
    have D := rw_new w0 40 #[.int .i64 n, .int .i64 s]
    have R' := R
    have A1 := tx_p (R.alloc (.cells #[.int .i64 n, .int .i64 s] 40))
    have A2 := tx_s (R.alloc (.cells #[.int .i64 n, .int .i64 s] 40))
    have A3 := tx_ops (R.alloc (.cells #[.int .i64 n, .int .i64 s] 40)) hv
    replace R := R.alloc (.cells #[.int .i64 n, .int .i64 s] 40)
    replace ho := ho.later (bel_alloc (Below.refl _ _) (.cells #[.int .i64 n, .int .i64 s] 40))
    replace hbel := bel_alloc hbel (.cells #[.int .i64 n, .int .i64 s] 40)
    clear c0 c1 c16
    cases x2
    rotate_left
    cases x3
    rotate_left
    cases z
    rotate_left
    cases u
    all_goals
      go_enter Try.func34, Try.ntmps34
      go_wp2_with (first | rw [hW] | refine load_m 40 _ rfl rfl _ _ rfl (tx_dot R') Try.underlying40 rfl z2 ?_)
      clear hW R'
      have hs : Calm.Stays (fun w' => w'.cell? ⟨w.heap.size, 0, none⟩ = some (.int .i64 n) ∧ w'.cell? ⟨w.heap.size, 1, none⟩ = some (.int .i64 s) ∧ w'.cell? ⟨w.heap.size, 16, none⟩ = some (.slice q l.length c) ∧ w'.cell? ⟨w.heap.size, 2 + n, none⟩ = some (.int .i64 m) ∧ w'.cell? ⟨w0.heap.size, 0, none⟩ = some (.int .i64 n) ∧ w'.cell? ⟨w0.heap.size, 1, none⟩ = some (.int .i64 s) ∧ Rw w' w.heap.size 43 (txc (n : Int) s v t (.slice q l.length c)).toArray ∧ OHas w' (.slice q l.length c) l ∧ Below w.heap.size w w') := fun wa wb h hb => ⟨cell_later hb h.1, cell_later hb h.2.1, cell_later hb h.2.2.1, cell_later hb h.2.2.2.1, cell_later hb h.2.2.2.2.1, cell_later hb h.2.2.2.2.2.1, h.2.2.2.2.2.2.1.later hb, h.2.2.2.2.2.2.2.1.later hb, below_on h.2.2.2.2.2.2.2.2 hb⟩
      refine Calm.region (by kernel_rfl) (by kernel_rfl) (fun w' => w'.cell? ⟨w.heap.size, 0, none⟩ = some (.int .i64 n) ∧ w'.cell? ⟨w.heap.size, 1, none⟩ = some (.int .i64 s) ∧ w'.cell? ⟨w.heap.size, 16, none⟩ = some (.slice q l.length c) ∧ w'.cell? ⟨w.heap.size, 2 + n, none⟩ = some (.int .i64 m) ∧ w'.cell? ⟨w0.heap.size, 0, none⟩ = some (.int .i64 n) ∧ w'.cell? ⟨w0.heap.size, 1, none⟩ = some (.int .i64 s) ∧ Rw w' w.heap.size 43 (txc (n : Int) s v t (.slice q l.length c)).toArray ∧ OHas w' (.slice q l.length c) l ∧ Below w.heap.size w w') ⟨A1, A2, A3, cn, D.cell 0, D.cell 1, R, ho, hbel.drew⟩ ?_
      clear R hbel ho A1 A2 A3 cn D
      all_goals
        refine Calm.pure (v := ?_) (by rfl) ?_ ?_
        rotate_left
        focus (intro w hSw; go_simp <;> rfl)
        simp only [Act.put, List.setIfInBounds_toArray, List.set_cons_zero, List.set_cons_succ]
      all_goals
        refine Calm.pure (v := ?_) (by rfl) ?_ ?_
        rotate_left
        focus (intro w hSw; go_simp <;> rfl)
        simp only [Act.put, List.setIfInBounds_toArray, List.set_cons_zero, List.set_cons_succ]
      all_goals
        refine Calm.call1s (by rfl) rfl rfl (by kernel_rfl) hs (fun w1 h => CD w1) ?_
        simp only [Act.put, List.setIfInBounds_toArray, List.set_cons_zero, List.set_cons_succ]
      all_goals
        refine Calm.pure (v := ?_) (by rfl) ?_ ?_
        rotate_left
        focus (intro w hSw; go_simp <;> rfl)
        simp only [Act.put, List.setIfInBounds_toArray, List.set_cons_zero, List.set_cons_succ]
      all_goals
        first
          | (refine Calm.skip ?_ ?_; focus rfl)
          | (refine Calm.pure (v := ?_) (by rfl) ?_ ?_
             rotate_left
             focus (intro w hSw; go_simp <;> rfl))
        simp only [Act.put, List.setIfInBounds_toArray, List.set_cons_zero, List.set_cons_succ]
      all_goals
        first
          | (refine Calm.skip ?_ ?_; focus rfl)
          | (refine Calm.pure (v := ?_) (by rfl) ?_ ?_
             rotate_left
             focus (intro w hSw; go_simp <;> rfl))
        simp only [Act.put, List.setIfInBounds_toArray, List.set_cons_zero, List.set_cons_succ]
      all_goals
        first
          | (refine Calm.skip ?_ ?_; focus rfl)
          | (refine Calm.pure (v := ?_) (by rfl) ?_ ?_
             rotate_left
             focus (intro w hSw; go_simp <;> rfl))
        simp only [Act.put, List.setIfInBounds_toArray, List.set_cons_zero, List.set_cons_succ]
      all_goals
        refine Calm.pure (v := ?_) (by rfl) ?_ ?_
        rotate_left
        focus (intro w hSw; go_simp <;> rfl)
        simp only [Act.put, List.setIfInBounds_toArray, List.set_cons_zero, List.set_cons_succ]
      all_goals
        refine Calm.pure (v := ?_) (by rfl) ?_ ?_
        rotate_left
        focus (intro w hSw; go_simp <;> rfl)
        simp only [Act.put, List.setIfInBounds_toArray, List.set_cons_zero, List.set_cons_succ]
      all_goals
        first
          | (refine Calm.skip ?_ ?_; focus rfl)
          | (refine Calm.pure (v := ?_) (by rfl) ?_ ?_
             rotate_left
             focus (intro w hSw; go_simp <;> rfl))
        simp only [Act.put, List.setIfInBounds_toArray, List.set_cons_zero, List.set_cons_succ]
      all_goals
        first
          | (refine Calm.skip ?_ ?_; focus rfl)
          | (refine Calm.pure (v := ?_) (by rfl) ?_ ?_
             rotate_left
             focus (intro w hSw; go_simp <;> rfl))
        simp only [Act.put, List.setIfInBounds_toArray, List.set_cons_zero, List.set_cons_succ]
      all_goals
        first
          | (refine Calm.skip ?_ ?_; focus rfl)
          | (refine Calm.pure (v := ?_) (by rfl) ?_ ?_
             rotate_left
             focus (intro w hSw; go_simp <;> rfl))
        simp only [Act.put, List.setIfInBounds_toArray, List.set_cons_zero, List.set_cons_succ]
      all_goals
        refine Calm.pure (v := ?_) (by rfl) ?_ ?_
        rotate_left
        focus (intro w hSw; go_simp <;> rfl)
        simp only [Act.put, List.setIfInBounds_toArray, List.set_cons_zero, List.set_cons_succ]
      all_goals
        refine Calm.pure (v := ?_) (by rfl) ?_ ?_
        rotate_left
        focus (intro w hSw; go_simp <;> rfl)
        simp only [Act.put, List.setIfInBounds_toArray, List.set_cons_zero, List.set_cons_succ]
      all_goals
        first
          | (refine Calm.skip ?_ ?_; focus rfl)
          | (refine Calm.pure (v := ?_) (by rfl) ?_ ?_
             rotate_left
             focus (intro w hSw; go_simp <;> rfl))
        simp only [Act.put, List.setIfInBounds_toArray, List.set_cons_zero, List.set_cons_succ]
      all_goals
        first
          | (refine Calm.skip ?_ ?_; focus rfl)
          | (refine Calm.pure (v := ?_) (by rfl) ?_ ?_
             rotate_left
             focus (intro w hSw; go_simp <;> rfl))
        simp only [Act.put, List.setIfInBounds_toArray, List.set_cons_zero, List.set_cons_succ]
      all_goals
        first
          | (refine Calm.skip ?_ ?_; focus rfl)
          | (refine Calm.pure (v := ?_) (by rfl) ?_ ?_
             rotate_left
             focus (intro w hSw; go_simp <;> rfl))
        simp only [Act.put, List.setIfInBounds_toArray, List.set_cons_zero, List.set_cons_succ]
      all_goals
        first
          | (refine Calm.skip ?_ ?_; focus rfl)
          | (refine Calm.pure (v := ?_) (by rfl) ?_ ?_
             rotate_left
             focus (intro w hSw; go_simp <;> rfl))
        simp only [Act.put, List.setIfInBounds_toArray, List.set_cons_zero, List.set_cons_succ]
      all_goals
        refine Calm.pure (v := ?_) (by rfl) ?_ ?_
        rotate_left
        focus (intro w hSw; go_simp <;> rfl)
        simp only [Act.put, List.setIfInBounds_toArray, List.set_cons_zero, List.set_cons_succ]
      all_goals
        refine Calm.pure (v := ?_) (by rfl) ?_ ?_
        rotate_left
        focus (intro w hSw; go_simp <;> rfl)
        simp only [Act.put, List.setIfInBounds_toArray, List.set_cons_zero, List.set_cons_succ]
      all_goals
        first
          | (refine Calm.skip ?_ ?_; focus rfl)
          | (refine Calm.loadW 43 Try.underlying43 rfl zt (by rfl) _ rfl rfl (fun _ h => h.2.2.2.2.2.2.1) ?_)
        simp only [Act.put, List.setIfInBounds_toArray, List.set_cons_zero, List.set_cons_succ]
      all_goals
        first
          | (refine Calm.skip ?_ ?_; focus rfl)
          | (refine Calm.call1s (by rfl) rfl rfl (by kernel_rfl) hs (fun w1 h => CS w1 h.2.2.2.2.2.2.2.1) ?_)
        simp only [Act.put, List.setIfInBounds_toArray, List.set_cons_zero, List.set_cons_succ]
      all_goals
        refine Calm.pure (v := ?_) (by rfl) ?_ ?_
        rotate_left
        focus (intro w hSw; go_simp <;> rfl)
        simp only [Act.put, List.setIfInBounds_toArray, List.set_cons_zero, List.set_cons_succ]
      all_goals
        refine Calm.pure (v := ?_) (by rfl) ?_ ?_
        rotate_left
        focus (intro w hSw; go_simp <;> rfl)
        simp only [Act.put, List.setIfInBounds_toArray, List.set_cons_zero, List.set_cons_succ]
      all_goals
        first
          | (refine Calm.skip ?_ ?_; focus rfl)
          | (refine Calm.pure (v := ?_) (by rfl) ?_ ?_
             rotate_left
             focus (intro w hSw; go_simp <;> rfl))
        simp only [Act.put, List.setIfInBounds_toArray, List.set_cons_zero, List.set_cons_succ]
      all_goals
        first
          | (refine Calm.skip ?_ ?_; focus rfl)
          | (refine Calm.pure (v := ?_) (by rfl) ?_ ?_
             rotate_left
             focus (intro w hSw; go_simp <;> rfl))
        simp only [Act.put, List.setIfInBounds_toArray, List.set_cons_zero, List.set_cons_succ]
      all_goals
        first
          | (refine Calm.skip ?_ ?_; focus rfl)
          | (refine Calm.pure (v := ?_) (by rfl) ?_ ?_
             rotate_left
             focus (intro w hSw; go_simp <;> rfl))
        simp only [Act.put, List.setIfInBounds_toArray, List.set_cons_zero, List.set_cons_succ]
      all_goals
        first
          | (refine Calm.skip ?_ ?_; focus rfl)
          | (refine Calm.pure (v := ?_) (by rfl) ?_ ?_
             rotate_left
             focus (intro w hSw; go_simp <;> rfl))
        simp only [Act.put, List.setIfInBounds_toArray, List.set_cons_zero, List.set_cons_succ]
      all_goals
        first
          | (refine Calm.skip ?_ ?_; focus rfl)
          | (refine Calm.pure (v := ?_) (by rfl) ?_ ?_
             rotate_left
             focus (intro w hSw; go_simp <;> rfl))
        simp only [Act.put, List.setIfInBounds_toArray, List.set_cons_zero, List.set_cons_succ]
      all_goals
        first
          | (refine Calm.skip ?_ ?_; focus rfl)
          | (refine Calm.pure (v := ?_) (by rfl) ?_ ?_
             rotate_left
             focus (intro w hSw; go_simp <;> rfl))
        simp only [Act.put, List.setIfInBounds_toArray, List.set_cons_zero, List.set_cons_succ]
      all_goals
        first
          | (refine Calm.skip ?_ ?_; focus rfl)
          | (refine Calm.pure (v := ?_) (by rfl) ?_ ?_
             rotate_left
             focus (intro w hSw; go_simp <;> rfl))
        simp only [Act.put, List.setIfInBounds_toArray, List.set_cons_zero, List.set_cons_succ]
      all_goals
        first
          | (refine Calm.skip ?_ ?_; focus rfl)
          | (refine Calm.pure (v := ?_) (by rfl) ?_ ?_
             rotate_left
             focus (intro w hSw; go_simp <;> rfl))
        simp only [Act.put, List.setIfInBounds_toArray, List.set_cons_zero, List.set_cons_succ]
      all_goals
        refine Calm.pure (v := ?_) (by rfl) ?_ ?_
        rotate_left
        focus (intro w hSw; go_simp <;> rfl)
        simp only [Act.put, List.setIfInBounds_toArray, List.set_cons_zero, List.set_cons_succ]
      all_goals
        refine Calm.pure (v := ?_) (by rfl) ?_ ?_
        rotate_left
        focus (intro w hSw; go_simp <;> rfl)
        simp only [Act.put, List.setIfInBounds_toArray, List.set_cons_zero, List.set_cons_succ]
      all_goals
        rintro w9 ⟨_, _, _, _, _, _, _, _, hbel9⟩
    all_goals
      go_wp2_with fail
      go_ret
      exact ⟨by first | rfl | simp | (cases y <;> rfl), hbel9⟩
end Go.Proofs.Ytcebchjokmampaa
/- Ready and Closed of the document's answer. -/
namespace Go.Proofs.Ytcebchjokmampaa
open Go.RowKit

theorem At.range0 {w : World} {b : Nat} {v : List Int} (h : At w b v) : w.rangeAt b 0 (vals v) := h.range
theorem clb_at : ∀ (l : List T) (v : List Int), clb v l = true → ∀ k (h : k < l.length), rdy (run v (l.take k)) l[k] = true
  | x :: l, v, hc, 0, _ => by
    simp only [clb, Bool.and_eq_true] at hc
    exact hc.1
  | x :: l, v, hc, k + 1, h => by
    simp only [clb, Bool.and_eq_true] at hc
    simpa [run] using clb_at l (stp v x) hc.2 k (by simpa using h)
theorem run_take : ∀ (l : List T) (v : List Int) (k : Nat) (h : k < l.length), run v (l.take (k + 1)) = stp (run v (l.take k)) l[k]
  | x :: l, v, 0, _ => by simp [run]
  | x :: l, v, k + 1, h => by simpa [run] using run_take l (stp v x) k (by simpa using h)
theorem grown_cell (w : World) (b i : Nat) (v : Value) : w.grownBy (w.setCell ⟨b, i, none⟩ v) (some b) := ⟨rfl, rfl, rfl, by simp [World.setCell], fun k _ h => Below.heap_setCell w _ v k fun e => h (by rw [e])⟩
theorem size_v {v : List Int} (h : v.length = 13) : (Try.prog.info? 23).map (·.size) = some (vals v).toArray.size := by rw [List.size_toArray]; exact info_vals h
set_option maxHeartbeats 4000000 in
set_option maxRecDepth 100000 in
theorem refReady16_any (v : List Int) (x : T) (sl : Value) (w : World) (hv : v.length = 13) (ho : OHas w sl x.ops) : Calls Try.prog 29 #[V v, TxV x.p x.s x.v x.t sl] w (Tells (.bool (rdy v x)) w) := by
  obtain ⟨R1, R2, hbel⟩ := two_rows w (vals v).toArray 23 (txc x.p x.s x.v x.t sl).toArray 43
  generalize hW : (w.alloc (.cells (vals v).toArray 23)).alloc (.cells (txc x.p x.s x.v x.t sl).toArray 43) = w0 at R1 R2 hbel
  have zt := size_tx (p := x.p) (s := x.s) (t := x.t) (sl := sl) x.hv
  have zv := size_v hv
  have z2 := zd x.p x.s
  have z3 := info_vals x.hv
  replace ho := ho.later hbel
  obtain ⟨z, HZ⟩ := hid_ex (rdy v x)
  rw [HZ.out]
  obtain ⟨r, HR⟩ := hid_ex x.ok
  go_enter Try.func29, Try.ntmps29
  go_upto_region 1 with (rw [hW])
  clear hW
  go_wp2_with (refine load_r 43 _ rfl rfl _ rfl R2 Try.underlying43 rfl zt ?_)
  refine (refCheckTx_any x.p x.s x.v x.t sl x.ops _ x.hv ho).mono ?_
  rw [show ct x.p x.s x.v x.t x.ops = r from HR.out]
  rintro e w1 ⟨rfl, hb1⟩
  replace R1 := R1.later hb1
  replace R2 := R2.later hb1
  replace hbel := below_on hbel hb1
  clear hb1
  cases r
  · go_wp2_with fail
    go_ret
    refine tells_bool ?_ hbel
    rw [← HZ.out, rdy, show x.ok = false from HR.out]
    rfl
  · have d2 := tx_dot R2
    go_wp2_with (first | refine load_r 23 _ rfl rfl _ rfl R1 Try.underlying23 rfl zv ?_ | refine load_m 40 _ rfl rfl _ _ rfl d2 Try.underlying40 rfl z2 ?_)
    refine (refNext_any v x.p x.s _ hv (T.ok_p HR.out) (T.ok_s HR.out)).mono ?_
    unfold nxt
    obtain ⟨r2, HR2⟩ := hid_ex (decide (v.getD x.p.toNat 0 + 1 = x.s))
    rw [HR2.out]
    rintro e w2 ⟨rfl, hb1⟩
    replace R1 := R1.later hb1
    replace R2 := R2.later hb1
    replace hbel := below_on hbel hb1
    clear hb1 d2
    cases r2
    · go_wp2_with fail
      go_ret
      refine tells_bool ?_ hbel
      rw [← HZ.out, rdy, show decide (v.getD x.p.toNat 0 + 1 = x.s) = false from HR2.out]
      simp
    · have d2 := tx_vec R2
      go_wp2_with (first | refine load_m 23 _ rfl rfl _ _ rfl d2 Try.underlying23 rfl z3 ?_ | refine load_r 23 _ rfl rfl _ rfl R1 Try.underlying23 rfl zv ?_)
      refine (refLeq_any x.v v _ x.hv hv).mono ?_
      obtain ⟨r3, HR3⟩ := hid_ex (lq x.v v)
      rw [HR3.out]
      rintro e w3 ⟨rfl, hb1⟩
      replace hbel := below_on hbel hb1
      go_wp2_with fail
      go_ret
      refine tells_bool ?_ hbel
      rw [← HZ.out, rdy, show x.ok = true from HR.out, show decide (v.getD x.p.toNat 0 + 1 = x.s) = true from HR2.out, show lq x.v v = r3 from HR3.out]
      rfl
end Go.Proofs.Ytcebchjokmampaa
/- Meet of package vec; Meet and Join of the document's vectors. -/
namespace Go.Proofs.Ytcebchjokmampaa
open Go.RowKit

theorem mt_length {a b : List Int} (ha : a.length = 13) (hb : b.length = 13) : (mt a b).length = 13 := by simp [mt, ha, hb]
theorem mt_at {a b : List Int} (ha : a.length = 13) (hb : b.length = 13) (i : Nat) (hi : i < 13) : (mt a b).getD i 0 = min (a.getD i 0) (b.getD i 0) := by
  simp [mt, List.getD, List.getElem?_zipWith, List.getElem?_eq_getElem (show i < a.length by omega), List.getElem?_eq_getElem (show i < b.length by omega)]


set_option maxHeartbeats 1000000 in
set_option maxRecDepth 100000 in
theorem meet_any (a b : List Int) (w : World) (ha : a.length = 13) (hb : b.length = 13) :
    Calls Try.prog 20 #[V a, V b] w fun e w' => e = .returned (V (mt a b)) ∧ Below w.heap.size w w' := by
  have HA : Hid (a.length = 13) := ha
  have HB : Hid (b.length = 13) := hb
  clear ha hb
  go_enter Try.func20, Try.ntmps20
  go_wp2
  go_loopw [6] (fun vi wr => ∃ (k : Nat) (l : List Int), vi = .int .i64 k ∧ k ≤ 13 ∧ Hid (∀ i, i < 13 → l.getD i 0 = if i < k then min (a.getD i 0) (b.getD i 0) else a.getD i 0) ∧ At wr w.heap.size l ∧ At wr (w.heap.size + 1) b ∧ (∃ z, At wr (w.heap.size + 1 + 1) z) ∧ Below w.heap.size w wr) (fun vi _ => 13 - (intOf vi).toNat)
  case atStart =>
    refine ⟨0, a, rfl, by omega, (show ∀ i, i < 13 → _ from fun i _ => by simp), ((at_new w a HA.out).alloc _).alloc _, (at_next _ (by simp) b HB.out).alloc _, ⟨zeros, at_next _ (by simp) zeros rfl⟩, ?_⟩
    exact (((Below.refl _ _).alloc (Nat.le_refl _) _).alloc (by simp) _).alloc (by simp; omega) _
  case round =>
    obtain ⟨k, l, rfl, hk, HV, h1, h2, ⟨z, h3⟩, hbel⟩ := hrel
    by_cases hlt : k < 13
    · have c1 := h1.cell hlt
      have c2 := h2.cell hlt
      have f1 := h1.frozen k
      have hx : Hid (l.getD k 0 = a.getD k 0) := by
        show _ = _
        have := HV.out k hlt
        simpa using this
      obtain ⟨x, HX⟩ : ∃ x, Hid (l.getD k 0 = x) := ⟨_, rfl⟩
      obtain ⟨y, HY⟩ : ∃ y, Hid (b.getD k 0 = y) := ⟨_, rfl⟩
      rw [HX.out] at c1
      rw [HY.out] at c2
      have R1 := h1.set (i := k) (if y < x then y else x)
      have R2 := h2.setOther (c := w.heap.size) (i := k) (by omega) (.int .i64 (if y < x then y else x))
      have R3 := h3.setOther (c := w.heap.size) (i := k) (by omega) (.int .i64 (if y < x then y else x))
      have R4 : Below w.heap.size w (wr.setCell ⟨w.heap.size, k, none⟩ (.int .i64 (if y < x then y else x))) := hbel.setCell (Nat.le_refl _) _
      have HV2 : Hid (∀ i, i < 13 → (l.set k (if y < x then y else x)).getD i 0 = if i < k + 1 then min (a.getD i 0) (b.getD i 0) else a.getD i 0) := by
        show ∀ i, i < 13 → _
        intro i hi
        rw [set_at l k _ (by have := h1.1; omega)]
        have h0 := HV.out i hi
        have h4 := HX.out
        have h5 := HY.out
        have h6 := hx.out
        by_cases hik : i = k
        · subst hik
          rw [if_pos rfl, if_pos (show i < i + 1 by omega), ← h6, h4, h5]
          split <;> omega
        · rw [if_neg hik, h0]
          by_cases h7 : i < k
          · rw [if_pos h7, if_pos (by omega)]
          · rw [if_neg h7, if_neg (by omega)]
      generalize l.set k (if y < x then y else x) = l2 at R1 HV2
      clear h1 h2 h3 hbel HX HY hx HV
      go_wp2
      go_region
      go_wp2
      go_roundw
      case rel => exact ⟨k + 1, l2, by simp, by omega, HV2, R1, R2, ⟨z, R3⟩, R4.drew⟩
      case measure => simp [intOf]; omega
    · have hk13 : k = 13 := by omega
      subst hk13
      have e : Hid (l = mt a b) := by
        show _ = _
        refine ext13 h1.1 (mt_length HA.out HB.out) fun i hi => ?_
        rw [HV.out i hi, if_pos hi, mt_at HA.out HB.out i hi]
      have R := below_setRow hbel (g := w.heap.size + 1 + 1) (by omega) (vals l).toArray
      rw [e.out] at h1 R
      have h13 := h1.1
      clear h2 hbel HV
      go_wp2_with (first | refine load_at rfl _ rfl _ rfl h1 ?_ | refine store_at rfl _ _ rfl _ _ rfl rfl h3 h13 ?_)
      exact bodyPost_ret (results_at rfl rfl (h3.row h13)) rfl ⟨rfl, R⟩


set_option maxHeartbeats 1000000 in
set_option maxRecDepth 100000 in
theorem refMeet_any (a b : List Int) (w : World) (ha : a.length = 13) (hb : b.length = 13) :
    Calls Try.prog 26 #[V a, V b] w fun e w' => e = .returned (V (mt a b)) ∧ Below w.heap.size w w' := by
  have HA : Hid (a.length = 13) := ha
  have HB : Hid (b.length = 13) := hb
  clear ha hb
  go_enter Try.func26, Try.ntmps26
  go_wp2
  go_loopw [5] (fun vi wr => ∃ (k : Nat) (l : List Int), vi = .int .i64 k ∧ k ≤ 13 ∧ Hid (∀ i, i < 13 → l.getD i 0 = if i < k then min (a.getD i 0) (b.getD i 0) else a.getD i 0) ∧ At wr w.heap.size l ∧ At wr (w.heap.size + 1) b ∧ (∃ z, At wr (w.heap.size + 1 + 1) z) ∧ Below w.heap.size w wr) (fun vi _ => 13 - (intOf vi).toNat)
  case atStart =>
    refine ⟨0, a, rfl, by omega, (show ∀ i, i < 13 → _ from fun i _ => by simp), ((at_new w a HA.out).alloc _).alloc _, (at_next _ (by simp) b HB.out).alloc _, ⟨zeros, at_next _ (by simp) zeros rfl⟩, ?_⟩
    exact (((Below.refl _ _).alloc (Nat.le_refl _) _).alloc (by simp) _).alloc (by simp; omega) _
  case round =>
    obtain ⟨k, l, rfl, hk, HV, h1, h2, ⟨z, h3⟩, hbel⟩ := hrel
    by_cases hlt : k < 13
    · have c1 := h1.cell hlt
      have c2 := h2.cell hlt
      have f1 := h1.frozen k
      have hx : Hid (l.getD k 0 = a.getD k 0) := by
        show _ = _
        have := HV.out k hlt
        simpa using this
      obtain ⟨x, HX⟩ : ∃ x, Hid (l.getD k 0 = x) := ⟨_, rfl⟩
      obtain ⟨y, HY⟩ : ∃ y, Hid (b.getD k 0 = y) := ⟨_, rfl⟩
      rw [HX.out] at c1
      rw [HY.out] at c2
      have R1 := h1.set (i := k) (if y < x then y else x)
      have R2 := h2.setOther (c := w.heap.size) (i := k) (by omega) (.int .i64 (if y < x then y else x))
      have R3 := h3.setOther (c := w.heap.size) (i := k) (by omega) (.int .i64 (if y < x then y else x))
      have R4 : Below w.heap.size w (wr.setCell ⟨w.heap.size, k, none⟩ (.int .i64 (if y < x then y else x))) := hbel.setCell (Nat.le_refl _) _
      have HV2 : Hid (∀ i, i < 13 → (l.set k (if y < x then y else x)).getD i 0 = if i < k + 1 then min (a.getD i 0) (b.getD i 0) else a.getD i 0) := by
        show ∀ i, i < 13 → _
        intro i hi
        rw [set_at l k _ (by have := h1.1; omega)]
        have h0 := HV.out i hi
        have h4 := HX.out
        have h5 := HY.out
        have h6 := hx.out
        by_cases hik : i = k
        · subst hik
          rw [if_pos rfl, if_pos (show i < i + 1 by omega), ← h6, h4, h5]
          split <;> omega
        · rw [if_neg hik, h0]
          by_cases h7 : i < k
          · rw [if_pos h7, if_pos (by omega)]
          · rw [if_neg h7, if_neg (by omega)]
      generalize l.set k (if y < x then y else x) = l2 at R1 HV2
      clear h1 h2 h3 hbel HX HY hx HV
      go_wp2
      go_region
      go_wp2
      go_roundw
      case rel => exact ⟨k + 1, l2, by simp, by omega, HV2, R1, R2, ⟨z, R3⟩, R4.drew⟩
      case measure => simp [intOf]; omega
    · have hk13 : k = 13 := by omega
      subst hk13
      have e : Hid (l = mt a b) := by
        show _ = _
        refine ext13 h1.1 (mt_length HA.out HB.out) fun i hi => ?_
        rw [HV.out i hi, if_pos hi, mt_at HA.out HB.out i hi]
      have R := below_setRow hbel (g := w.heap.size + 1 + 1) (by omega) (vals l).toArray
      rw [e.out] at h1 R
      have h13 := h1.1
      clear h2 hbel HV
      go_wp2_with (first | refine load_at rfl _ rfl _ rfl h1 ?_ | refine store_at rfl _ _ rfl _ _ rfl rfl h3 h13 ?_)
      exact bodyPost_ret (results_at rfl rfl (h3.row h13)) rfl ⟨rfl, R⟩


set_option maxHeartbeats 1000000 in
set_option maxRecDepth 100000 in
theorem refJoin_any (a b : List Int) (w : World) (ha : a.length = 13) (hb : b.length = 13) :
    Calls Try.prog 8 #[V a, V b] w fun e w' => e = .returned (V (jn a b)) ∧ Below w.heap.size w w' := by
  have HA : Hid (a.length = 13) := ha
  have HB : Hid (b.length = 13) := hb
  clear ha hb
  go_enter Try.func8, Try.ntmps8
  go_wp2
  go_loopw [5] (fun vi wr => ∃ (k : Nat) (l : List Int), vi = .int .i64 k ∧ k ≤ 13 ∧ Hid (∀ i, i < 13 → l.getD i 0 = if i < k then max (a.getD i 0) (b.getD i 0) else a.getD i 0) ∧ At wr w.heap.size l ∧ At wr (w.heap.size + 1) b ∧ (∃ z, At wr (w.heap.size + 1 + 1) z) ∧ Below w.heap.size w wr) (fun vi _ => 13 - (intOf vi).toNat)
  case atStart =>
    refine ⟨0, a, rfl, by omega, (show ∀ i, i < 13 → _ from fun i _ => by simp), ((at_new w a HA.out).alloc _).alloc _, (at_next _ (by simp) b HB.out).alloc _, ⟨zeros, at_next _ (by simp) zeros rfl⟩, ?_⟩
    exact (((Below.refl _ _).alloc (Nat.le_refl _) _).alloc (by simp) _).alloc (by simp; omega) _
  case round =>
    obtain ⟨k, l, rfl, hk, HV, h1, h2, ⟨z, h3⟩, hbel⟩ := hrel
    by_cases hlt : k < 13
    · have c1 := h1.cell hlt
      have c2 := h2.cell hlt
      have f1 := h1.frozen k
      have hx : Hid (l.getD k 0 = a.getD k 0) := by
        show _ = _
        have := HV.out k hlt
        simpa using this
      obtain ⟨x, HX⟩ : ∃ x, Hid (l.getD k 0 = x) := ⟨_, rfl⟩
      obtain ⟨y, HY⟩ : ∃ y, Hid (b.getD k 0 = y) := ⟨_, rfl⟩
      rw [HX.out] at c1
      rw [HY.out] at c2
      have R1 := h1.set (i := k) (if x < y then y else x)
      have R2 := h2.setOther (c := w.heap.size) (i := k) (by omega) (.int .i64 (if x < y then y else x))
      have R3 := h3.setOther (c := w.heap.size) (i := k) (by omega) (.int .i64 (if x < y then y else x))
      have R4 : Below w.heap.size w (wr.setCell ⟨w.heap.size, k, none⟩ (.int .i64 (if x < y then y else x))) := hbel.setCell (Nat.le_refl _) _
      have HV2 : Hid (∀ i, i < 13 → (l.set k (if x < y then y else x)).getD i 0 = if i < k + 1 then max (a.getD i 0) (b.getD i 0) else a.getD i 0) := by
        show ∀ i, i < 13 → _
        intro i hi
        rw [set_at l k _ (by have := h1.1; omega)]
        have h0 := HV.out i hi
        have h4 := HX.out
        have h5 := HY.out
        have h6 := hx.out
        by_cases hik : i = k
        · subst hik
          rw [if_pos rfl, if_pos (show i < i + 1 by omega), ← h6, h4, h5]
          split <;> omega
        · rw [if_neg hik, h0]
          by_cases h7 : i < k
          · rw [if_pos h7, if_pos (by omega)]
          · rw [if_neg h7, if_neg (by omega)]
      generalize l.set k (if x < y then y else x) = l2 at R1 HV2
      clear h1 h2 h3 hbel HX HY hx HV
      go_wp2
      go_region
      go_wp2
      go_roundw
      case rel => exact ⟨k + 1, l2, by simp, by omega, HV2, R1, R2, ⟨z, R3⟩, R4.drew⟩
      case measure => simp [intOf]; omega
    · have hk13 : k = 13 := by omega
      subst hk13
      have e : Hid (l = jn a b) := by
        show _ = _
        refine ext13 h1.1 (jn_length HA.out HB.out) fun i hi => ?_
        rw [HV.out i hi, if_pos hi, jn_at HA.out HB.out i hi]
      have R := below_setRow hbel (g := w.heap.size + 1 + 1) (by omega) (vals l).toArray
      rw [e.out] at h1 R
      have h13 := h1.1
      clear h2 hbel HV
      go_wp2_with (first | refine load_at rfl _ rfl _ rfl h1 ?_ | refine store_at rfl _ _ rfl _ _ rfl rfl h3 h13 ?_)
      exact bodyPost_ret (results_at rfl rfl (h3.row h13)) rfl ⟨rfl, R⟩


theorem bound_j {a b c : List Int} (ha : a.length = 13) (hb : b.length = 13) (hc : c.length = 13) : lq (jn a b) c = (lq a c && lq b c) := by
  rw [Bool.eq_iff_iff, Bool.and_eq_true, lq_iff (jn_length ha hb) hc, lq_iff ha hc, lq_iff hb hc]
  constructor
  · intro h
    exact ⟨fun i hi => by have := h i hi; rw [jn_at ha hb i hi] at this; omega, fun i hi => by have := h i hi; rw [jn_at ha hb i hi] at this; omega⟩
  · rintro ⟨h1, h2⟩ i hi
    rw [jn_at ha hb i hi]
    have := h1 i hi
    have := h2 i hi
    omega
theorem bound_m {a b c : List Int} (ha : a.length = 13) (hb : b.length = 13) (hc : c.length = 13) : lq c (mt a b) = (lq c a && lq c b) := by
  rw [Bool.eq_iff_iff, Bool.and_eq_true, lq_iff hc (mt_length ha hb), lq_iff hc ha, lq_iff hc hb]
  constructor
  · intro h
    exact ⟨fun i hi => by have := h i hi; rw [mt_at ha hb i hi] at this; omega, fun i hi => by have := h i hi; rw [mt_at ha hb i hi] at this; omega⟩
  · rintro ⟨h1, h2⟩ i hi
    rw [mt_at ha hb i hi]
    have := h1 i hi
    have := h2 i hi
    omega

end Go.Proofs.Ytcebchjokmampaa
