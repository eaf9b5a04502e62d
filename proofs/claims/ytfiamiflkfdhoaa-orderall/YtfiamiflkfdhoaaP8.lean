import Derived.Test.YtfiamiflkfdhoaaP7
import Derived.Test.YtfiamiflkfdhoaaP5
import Derived.Laws.CopyOwn
import Derived.Deep.CutRange
/- CheckTx and CheckOpen of the document's answer. -/
namespace Go.Proofs.Ytfiamiflkfdhoaa
open Go.RowKit

set_option maxHeartbeats 4000000 in
set_option maxRecDepth 100000 in
theorem refCheckTx_any (p s : Int) (v : List Int) (t : Int) (sl : Value) (l : List O) (w : World) (hv : v.length = 13) (ho : OHas w sl l) : Calls Try.prog 9 #[TxV p s v t sl] w (Tells (.bool (ct p s v t l)) w) := by
  have CS := fun (w1 : World) (h : OHas w1 sl l) => rest_any p s v t sl l w1 hv h
  obtain ⟨u, HU⟩ := hid_ex (sn p s v t l)
  unfold ct
  rw [HU.out] at CS ⊢
  clear HU
  obtain ⟨q, c, rfl⟩ := ho.slice
  have CD := fun w => peer_any p w
  obtain ⟨x, HX⟩ := hid_ex (wi p 1 12)
  obtain ⟨x2, HX2⟩ := hid_ex (decide (1 ≤ s))
  obtain ⟨x3, HX3⟩ := hid_ex (decide (s ≤ 1048576))
  have ew : wi s 1 1048576 = (x2 && x3) := by unfold wi; rw [HX2.out, HX3.out]
  rw [ew, HX.out]
  rw [HX.out] at CD
  clear ew
  obtain ⟨y, HY⟩ := hid_ex (decide (v.getD p.toNat 0 < s))
  obtain ⟨z, HZ⟩ := hid_ex (decide (1 ≤ l.length))
  rw [HY.out, HZ.out]
  have HP : Hid (x = true → ∃ n : Nat, p = n ∧ n < 13) := by
    show x = true → ∃ n : Nat, p = n ∧ n < 13
    intro e
    have h := HX.out
    rw [e] at h
    have h1 : 1 ≤ p ∧ p ≤ 12 := by unfold wi at h; grind
    exact ⟨p.toNat, by omega, by omega⟩
  clear HX
  have R := rw_new w 34 (txc p s v t (.slice q l.length c)).toArray
  have hbel : Below w.heap.size w (w.alloc (.cells (txc p s v t (.slice q l.length c)).toArray 34)) := bel_alloc (Below.refl _ _) _
  replace ho := ho.later (bel_alloc (Below.refl _ _) (.cells (txc p s v t (.slice q l.length c)).toArray 34))
  have c0 := tx_p R
  have c1 := tx_s R
  have c16 := tx_ops R hv
  have zt := size_tx (p := p) (s := s) (t := t) (sl := .slice q l.length c) hv
  have z2 := zd p s
  cases x
  case false =>
    generalize hW : w.alloc (.cells (txc p s v t (.slice q l.length c)).toArray 34) = w0 at R hbel ho c0 c1 c16
    have D := rw_new w0 31 #[.int .i64 p, .int .i64 s]
    have R' := R
    have A1 := tx_p (R.alloc (.cells #[.int .i64 p, .int .i64 s] 31))
    have A2 := tx_s (R.alloc (.cells #[.int .i64 p, .int .i64 s] 31))
    have A3 := tx_ops (R.alloc (.cells #[.int .i64 p, .int .i64 s] 31)) hv
    replace R := R.alloc (.cells #[.int .i64 p, .int .i64 s] 31)
    replace ho := ho.later (bel_alloc (Below.refl _ _) (.cells #[.int .i64 p, .int .i64 s] 31))
    replace hbel := bel_alloc hbel (.cells #[.int .i64 p, .int .i64 s] 31)
    clear c0 c1 c16
    go_enter Try.func9, Try.ntmps9
    go_wp2_with (first | rw [hW] | refine load_m 31 _ rfl rfl _ _ rfl (tx_dot R') Try.underlying31 rfl z2 ?_)
    clear hW R'
    have hs : Calm.Stays (fun w' => w'.cell? ⟨w.heap.size, 0, none⟩ = some (.int .i64 p) ∧ w'.cell? ⟨w.heap.size, 1, none⟩ = some (.int .i64 s) ∧ w'.cell? ⟨w.heap.size, 16, none⟩ = some (.slice q l.length c) ∧ w'.cell? ⟨w0.heap.size, 0, none⟩ = some (.int .i64 p) ∧ w'.cell? ⟨w0.heap.size, 1, none⟩ = some (.int .i64 s) ∧ Rw w' w.heap.size 34 (txc p s v t (.slice q l.length c)).toArray ∧ OHas w' (.slice q l.length c) l ∧ Below w.heap.size w w') := fun wa wb h hb => ⟨cell_later hb h.1, cell_later hb h.2.1, cell_later hb h.2.2.1, cell_later hb h.2.2.2.1, cell_later hb h.2.2.2.2.1, h.2.2.2.2.2.1.later hb, h.2.2.2.2.2.2.1.later hb, below_on h.2.2.2.2.2.2.2 hb⟩
    refine Calm.region (by kernel_rfl) (by kernel_rfl) (fun w' => w'.cell? ⟨w.heap.size, 0, none⟩ = some (.int .i64 p) ∧ w'.cell? ⟨w.heap.size, 1, none⟩ = some (.int .i64 s) ∧ w'.cell? ⟨w.heap.size, 16, none⟩ = some (.slice q l.length c) ∧ w'.cell? ⟨w0.heap.size, 0, none⟩ = some (.int .i64 p) ∧ w'.cell? ⟨w0.heap.size, 1, none⟩ = some (.int .i64 s) ∧ Rw w' w.heap.size 34 (txc p s v t (.slice q l.length c)).toArray ∧ OHas w' (.slice q l.length c) l ∧ Below w.heap.size w w') ⟨A1, A2, A3, D.cell 0, D.cell 1, R, ho, hbel.drew⟩ ?_
    clear R hbel ho A1 A2 A3 D
    all_goals
      refine Calm.pure (v := ?_) (by rfl) ?_ ?_
      rotate_left
      focus (intro w hSw; go_simp <;> rfl)
      simp only [Act.put, List.setIfInBounds_toArray, List.set_cons_zero, List.set_cons_succ]
    all_goals
      refine Calm.pure (v := ?_) (by rfl) ?_ ?_
      rotate_left
      focus (intro w hSw; go_simp <;> rfl)
      simp only [Act.put, List.setIfInBounds_toArray, List.set_cons_zero, List.set_cons_succ]
    all_goals
      refine Calm.call1s (by rfl) rfl rfl (by kernel_rfl) hs (fun w1 h => CD w1) ?_
      simp only [Act.put, List.setIfInBounds_toArray, List.set_cons_zero, List.set_cons_succ]
    all_goals
      refine Calm.pure (v := ?_) (by rfl) ?_ ?_
      rotate_left
      focus (intro w hSw; go_simp <;> rfl)
      simp only [Act.put, List.setIfInBounds_toArray, List.set_cons_zero, List.set_cons_succ]
    all_goals
      first
        | (refine Calm.skip ?_ ?_; focus rfl)
        | (refine Calm.pure (v := ?_) (by rfl) ?_ ?_
           rotate_left
           focus (intro w hSw; go_simp <;> rfl))
      simp only [Act.put, List.setIfInBounds_toArray, List.set_cons_zero, List.set_cons_succ]
    all_goals
      first
        | (refine Calm.skip ?_ ?_; focus rfl)
        | (refine Calm.pure (v := ?_) (by rfl) ?_ ?_
           rotate_left
           focus (intro w hSw; go_simp <;> rfl))
      simp only [Act.put, List.setIfInBounds_toArray, List.set_cons_zero, List.set_cons_succ]
    all_goals
      first
        | (refine Calm.skip ?_ ?_; focus rfl)
        | (refine Calm.pure (v := ?_) (by rfl) ?_ ?_
           rotate_left
           focus (intro w hSw; go_simp <;> rfl))
      simp only [Act.put, List.setIfInBounds_toArray, List.set_cons_zero, List.set_cons_succ]
    all_goals
      refine Calm.pure (v := ?_) (by rfl) ?_ ?_
      rotate_left
      focus (intro w hSw; go_simp <;> rfl)
      simp only [Act.put, List.setIfInBounds_toArray, List.set_cons_zero, List.set_cons_succ]
    all_goals
      refine Calm.pure (v := ?_) (by rfl) ?_ ?_
      rotate_left
      focus (intro w hSw; go_simp <;> rfl)
      simp only [Act.put, List.setIfInBounds_toArray, List.set_cons_zero, List.set_cons_succ]
    all_goals
      first
        | (refine Calm.skip ?_ ?_; focus rfl)
        | (refine Calm.pure (v := ?_) (by rfl) ?_ ?_
           rotate_left
           focus (intro w hSw; go_simp <;> rfl))
      simp only [Act.put, List.setIfInBounds_toArray, List.set_cons_zero, List.set_cons_succ]
    all_goals
      first
        | (refine Calm.skip ?_ ?_; focus rfl)
        | (refine Calm.pure (v := ?_) (by rfl) ?_ ?_
           rotate_left
           focus (intro w hSw; go_simp <;> rfl))
      simp only [Act.put, List.setIfInBounds_toArray, List.set_cons_zero, List.set_cons_succ]
    all_goals
      first
        | (refine Calm.skip ?_ ?_; focus rfl)
        | (refine Calm.pure (v := ?_) (by rfl) ?_ ?_
           rotate_left
           focus (intro w hSw; go_simp <;> rfl))
      simp only [Act.put, List.setIfInBounds_toArray, List.set_cons_zero, List.set_cons_succ]
    all_goals
      refine Calm.pure (v := ?_) (by rfl) ?_ ?_
      rotate_left
      focus (intro w hSw; go_simp <;> rfl)
      simp only [Act.put, List.setIfInBounds_toArray, List.set_cons_zero, List.set_cons_succ]
    all_goals
      refine Calm.pure (v := ?_) (by rfl) ?_ ?_
      rotate_left
      focus (intro w hSw; go_simp <;> rfl)
      simp only [Act.put, List.setIfInBounds_toArray, List.set_cons_zero, List.set_cons_succ]
    all_goals
      first
        | (refine Calm.skip ?_ ?_; focus rfl)
        | (refine Calm.pure (v := ?_) (by rfl) ?_ ?_
           rotate_left
           focus (intro w hSw; go_simp <;> rfl))
      simp only [Act.put, List.setIfInBounds_toArray, List.set_cons_zero, List.set_cons_succ]
    all_goals
      first
        | (refine Calm.skip ?_ ?_; focus rfl)
        | (refine Calm.pure (v := ?_) (by rfl) ?_ ?_
           rotate_left
           focus (intro w hSw; go_simp <;> rfl))
      simp only [Act.put, List.setIfInBounds_toArray, List.set_cons_zero, List.set_cons_succ]
    all_goals
      first
        | (refine Calm.skip ?_ ?_; focus rfl)
        | (refine Calm.pure (v := ?_) (by rfl) ?_ ?_
           rotate_left
           focus (intro w hSw; go_simp <;> rfl))
      simp only [Act.put, List.setIfInBounds_toArray, List.set_cons_zero, List.set_cons_succ]
    all_goals
      first
        | (refine Calm.skip ?_ ?_; focus rfl)
        | (refine Calm.pure (v := ?_) (by rfl) ?_ ?_
           rotate_left
           focus (intro w hSw; go_simp <;> rfl))
      simp only [Act.put, List.setIfInBounds_toArray, List.set_cons_zero, List.set_cons_succ]
    all_goals
      refine Calm.pure (v := ?_) (by rfl) ?_ ?_
      rotate_left
      focus (intro w hSw; go_simp <;> rfl)
      simp only [Act.put, List.setIfInBounds_toArray, List.set_cons_zero, List.set_cons_succ]
    all_goals
      refine Calm.pure (v := ?_) (by rfl) ?_ ?_
      rotate_left
      focus (intro w hSw; go_simp <;> rfl)
      simp only [Act.put, List.setIfInBounds_toArray, List.set_cons_zero, List.set_cons_succ]
    all_goals
      first
        | (refine Calm.skip ?_ ?_; focus rfl)
        | (refine Calm.loadW 34 Try.underlying34 rfl zt (by rfl) _ rfl rfl (fun _ h => h.2.2.2.2.2.1) ?_)
      simp only [Act.put, List.setIfInBounds_toArray, List.set_cons_zero, List.set_cons_succ]
    all_goals
      first
        | (refine Calm.skip ?_ ?_; focus rfl)
        | (refine Calm.call1s (by rfl) rfl rfl (by kernel_rfl) hs (fun w1 h => CS w1 h.2.2.2.2.2.2.1) ?_)
      simp only [Act.put, List.setIfInBounds_toArray, List.set_cons_zero, List.set_cons_succ]
    all_goals
      refine Calm.pure (v := ?_) (by rfl) ?_ ?_
      rotate_left
      focus (intro w hSw; go_simp <;> rfl)
      simp only [Act.put, List.setIfInBounds_toArray, List.set_cons_zero, List.set_cons_succ]
    all_goals
      refine Calm.pure (v := ?_) (by rfl) ?_ ?_
      rotate_left
      focus (intro w hSw; go_simp <;> rfl)
      simp only [Act.put, List.setIfInBounds_toArray, List.set_cons_zero, List.set_cons_succ]
    all_goals
      first
        | (refine Calm.skip ?_ ?_; focus rfl)
        | (refine Calm.pure (v := ?_) (by rfl) ?_ ?_
           rotate_left
           focus (intro w hSw; go_simp <;> rfl))
      simp only [Act.put, List.setIfInBounds_toArray, List.set_cons_zero, List.set_cons_succ]
    all_goals
      first
        | (refine Calm.skip ?_ ?_; focus rfl)
        | (refine Calm.pure (v := ?_) (by rfl) ?_ ?_
           rotate_left
           focus (intro w hSw; go_simp <;> rfl))
      simp only [Act.put, List.setIfInBounds_toArray, List.set_cons_zero, List.set_cons_succ]
    all_goals
      first
        | (refine Calm.skip ?_ ?_; focus rfl)
        | (refine Calm.pure (v := ?_) (by rfl) ?_ ?_
           rotate_left
           focus (intro w hSw; go_simp <;> rfl))
      simp only [Act.put, List.setIfInBounds_toArray, List.set_cons_zero, List.set_cons_succ]
    all_goals
      first
        | (refine Calm.skip ?_ ?_; focus rfl)
        | (refine Calm.pure (v := ?_) (by rfl) ?_ ?_
           rotate_left
           focus (intro w hSw; go_simp <;> rfl))
      simp only [Act.put, List.setIfInBounds_toArray, List.set_cons_zero, List.set_cons_succ]
    all_goals
      first
        | (refine Calm.skip ?_ ?_; focus rfl)
        | (refine Calm.pure (v := ?_) (by rfl) ?_ ?_
           rotate_left
           focus (intro w hSw; go_simp <;> rfl))
      simp only [Act.put, List.setIfInBounds_toArray, List.set_cons_zero, List.set_cons_succ]
    all_goals
      first
        | (refine Calm.skip ?_ ?_; focus rfl)
        | (refine Calm.pure (v := ?_) (by rfl) ?_ ?_
           rotate_left
           focus (intro w hSw; go_simp <;> rfl))
      simp only [Act.put, List.setIfInBounds_toArray, List.set_cons_zero, List.set_cons_succ]
    all_goals
      first
        | (refine Calm.skip ?_ ?_; focus rfl)
        | (refine Calm.pure (v := ?_) (by rfl) ?_ ?_
           rotate_left
           focus (intro w hSw; go_simp <;> rfl))
      simp only [Act.put, List.setIfInBounds_toArray, List.set_cons_zero, List.set_cons_succ]
    all_goals
      first
        | (refine Calm.skip ?_ ?_; focus rfl)
        | (refine Calm.pure (v := ?_) (by rfl) ?_ ?_
           rotate_left
           focus (intro w hSw; go_simp <;> rfl))
      simp only [Act.put, List.setIfInBounds_toArray, List.set_cons_zero, List.set_cons_succ]
    all_goals
      refine Calm.pure (v := ?_) (by rfl) ?_ ?_
      rotate_left
      focus (intro w hSw; go_simp <;> rfl)
      simp only [Act.put, List.setIfInBounds_toArray, List.set_cons_zero, List.set_cons_succ]
    all_goals
      refine Calm.pure (v := ?_) (by rfl) ?_ ?_
      rotate_left
      focus (intro w hSw; go_simp <;> rfl)
      simp only [Act.put, List.setIfInBounds_toArray, List.set_cons_zero, List.set_cons_succ]
    all_goals
      rintro w9 ⟨_, _, _, _, _, _, _, hbel9⟩
    all_goals
      go_wp2_with fail
      go_ret
      exact ⟨by simp, hbel9⟩
  case true =>
    obtain ⟨n, rfl, hn⟩ := HP.out rfl
    have hn' : (n : Int) < 13 := by omega
    rw [show ((n : Int)).toNat = n by omega] at HY
    have cn := tx_at (R.alloc (.cells #[.int .i64 n, .int .i64 s] 31)) hv n hn
    obtain ⟨m, HM⟩ := hid_ex (v.getD n 0)
    rw [HM.out] at cn HY
    clear HM HP
    have hy : decide (m < s) = y := HY.out
    have hx2 : decide (1 ≤ s) = x2 := HX2.out
    have hx3 : decide (s ≤ 1048576) = x3 := HX3.out
    have hz : decide (1 ≤ (l.length : Int)) = z := by
      rw [← HZ.out, decide_eq_decide]
      omega
    clear HY HZ HX2 HX3
    generalize hW : w.alloc (.cells (txc (n : Int) s v t (.slice q l.length c)).toArray 34) = w0 at R hbel ho c0 c1 c16 cn
    have D := rw_new w0 31 #[.int .i64 n, .int .i64 s]
    have R' := R
    have A1 := tx_p (R.alloc (.cells #[.int .i64 n, .int .i64 s] 31))
    have A2 := tx_s (R.alloc (.cells #[.int .i64 n, .int .i64 s] 31))
    have A3 := tx_ops (R.alloc (.cells #[.int .i64 n, .int .i64 s] 31)) hv
    replace R := R.alloc (.cells #[.int .i64 n, .int .i64 s] 31)
    replace ho := ho.later (bel_alloc (Below.refl _ _) (.cells #[.int .i64 n, .int .i64 s] 31))
    replace hbel := bel_alloc hbel (.cells #[.int .i64 n, .int .i64 s] 31)
    clear c0 c1 c16
    cases x2
    rotate_left
    cases x3
    rotate_left
    cases z
    rotate_left
    cases u
    all_goals
      go_enter Try.func9, Try.ntmps9
      go_wp2_with (first | rw [hW] | refine load_m 31 _ rfl rfl _ _ rfl (tx_dot R') Try.underlying31 rfl z2 ?_)
      clear hW R'
      have hs : Calm.Stays (fun w' => w'.cell? ⟨w.heap.size, 0, none⟩ = some (.int .i64 n) ∧ w'.cell? ⟨w.heap.size, 1, none⟩ = some (.int .i64 s) ∧ w'.cell? ⟨w.heap.size, 16, none⟩ = some (.slice q l.length c) ∧ w'.cell? ⟨w.heap.size, 2 + n, none⟩ = some (.int .i64 m) ∧ w'.cell? ⟨w0.heap.size, 0, none⟩ = some (.int .i64 n) ∧ w'.cell? ⟨w0.heap.size, 1, none⟩ = some (.int .i64 s) ∧ Rw w' w.heap.size 34 (txc (n : Int) s v t (.slice q l.length c)).toArray ∧ OHas w' (.slice q l.length c) l ∧ Below w.heap.size w w') := fun wa wb h hb => ⟨cell_later hb h.1, cell_later hb h.2.1, cell_later hb h.2.2.1, cell_later hb h.2.2.2.1, cell_later hb h.2.2.2.2.1, cell_later hb h.2.2.2.2.2.1, h.2.2.2.2.2.2.1.later hb, h.2.2.2.2.2.2.2.1.later hb, below_on h.2.2.2.2.2.2.2.2 hb⟩
      refine Calm.region (by kernel_rfl) (by kernel_rfl) (fun w' => w'.cell? ⟨w.heap.size, 0, none⟩ = some (.int .i64 n) ∧ w'.cell? ⟨w.heap.size, 1, none⟩ = some (.int .i64 s) ∧ w'.cell? ⟨w.heap.size, 16, none⟩ = some (.slice q l.length c) ∧ w'.cell? ⟨w.heap.size, 2 + n, none⟩ = some (.int .i64 m) ∧ w'.cell? ⟨w0.heap.size, 0, none⟩ = some (.int .i64 n) ∧ w'.cell? ⟨w0.heap.size, 1, none⟩ = some (.int .i64 s) ∧ Rw w' w.heap.size 34 (txc (n : Int) s v t (.slice q l.length c)).toArray ∧ OHas w' (.slice q l.length c) l ∧ Below w.heap.size w w') ⟨A1, A2, A3, cn, D.cell 0, D.cell 1, R, ho, hbel.drew⟩ ?_
      clear R hbel ho A1 A2 A3 cn D
      all_goals
        refine Calm.pure (v := ?_) (by rfl) ?_ ?_
        rotate_left
        focus (intro w hSw; go_simp <;> rfl)
        simp only [Act.put, List.setIfInBounds_toArray, List.set_cons_zero, List.set_cons_succ]
      all_goals
        refine Calm.pure (v := ?_) (by rfl) ?_ ?_
        rotate_left
        focus (intro w hSw; go_simp <;> rfl)
        simp only [Act.put, List.setIfInBounds_toArray, List.set_cons_zero, List.set_cons_succ]
      all_goals
        refine Calm.call1s (by rfl) rfl rfl (by kernel_rfl) hs (fun w1 h => CD w1) ?_
        simp only [Act.put, List.setIfInBounds_toArray, List.set_cons_zero, List.set_cons_succ]
      all_goals
        refine Calm.pure (v := ?_) (by rfl) ?_ ?_
        rotate_left
        focus (intro w hSw; go_simp <;> rfl)
        simp only [Act.put, List.setIfInBounds_toArray, List.set_cons_zero, List.set_cons_succ]
      all_goals
        first
          | (refine Calm.skip ?_ ?_; focus rfl)
          | (refine Calm.pure (v := ?_) (by rfl) ?_ ?_
             rotate_left
             focus (intro w hSw; go_simp <;> rfl))
        simp only [Act.put, List.setIfInBounds_toArray, List.set_cons_zero, List.set_cons_succ]
      all_goals
        first
          | (refine Calm.skip ?_ ?_; focus rfl)
          | (refine Calm.pure (v := ?_) (by rfl) ?_ ?_
             rotate_left
             focus (intro w hSw; go_simp <;> rfl))
        simp only [Act.put, List.setIfInBounds_toArray, List.set_cons_zero, List.set_cons_succ]
      all_goals
        first
          | (refine Calm.skip ?_ ?_; focus rfl)
          | (refine Calm.pure (v := ?_) (by rfl) ?_ ?_
             rotate_left
             focus (intro w hSw; go_simp <;> rfl))
        simp only [Act.put, List.setIfInBounds_toArray, List.set_cons_zero, List.set_cons_succ]
      all_goals
        refine Calm.pure (v := ?_) (by rfl) ?_ ?_
        rotate_left
        focus (intro w hSw; go_simp <;> rfl)
        simp only [Act.put, List.setIfInBounds_toArray, List.set_cons_zero, List.set_cons_succ]
      all_goals
        refine Calm.pure (v := ?_) (by rfl) ?_ ?_
        rotate_left
        focus (intro w hSw; go_simp <;> rfl)
        simp only [Act.put, List.setIfInBounds_toArray, List.set_cons_zero, List.set_cons_succ]
      all_goals
        first
          | (refine Calm.skip ?_ ?_; focus rfl)
          | (refine Calm.pure (v := ?_) (by rfl) ?_ ?_
             rotate_left
             focus (intro w hSw; go_simp <;> rfl))
        simp only [Act.put, List.setIfInBounds_toArray, List.set_cons_zero, List.set_cons_succ]
      all_goals
        first
          | (refine Calm.skip ?_ ?_; focus rfl)
          | (refine Calm.pure (v := ?_) (by rfl) ?_ ?_
             rotate_left
             focus (intro w hSw; go_simp <;> rfl))
        simp only [Act.put, List.setIfInBounds_toArray, List.set_cons_zero, List.set_cons_succ]
      all_goals
        first
          | (refine Calm.skip ?_ ?_; focus rfl)
          | (refine Calm.pure (v := ?_) (by rfl) ?_ ?_
             rotate_left
             focus (intro w hSw; go_simp <;> rfl))
        simp only [Act.put, List.setIfInBounds_toArray, List.set_cons_zero, List.set_cons_succ]
      all_goals
        refine Calm.pure (v := ?_) (by rfl) ?_ ?_
        rotate_left
        focus (intro w hSw; go_simp <;> rfl)
        simp only [Act.put, List.setIfInBounds_toArray, List.set_cons_zero, List.set_cons_succ]
      all_goals
        refine Calm.pure (v := ?_) (by rfl) ?_ ?_
        rotate_left
        focus (intro w hSw; go_simp <;> rfl)
        simp only [Act.put, List.setIfInBounds_toArray, List.set_cons_zero, List.set_cons_succ]
      all_goals
        first
          | (refine Calm.skip ?_ ?_; focus rfl)
          | (refine Calm.pure (v := ?_) (by rfl) ?_ ?_
             rotate_left
             focus (intro w hSw; go_simp <;> rfl))
        simp only [Act.put, List.setIfInBounds_toArray, List.set_cons_zero, List.set_cons_succ]
      all_goals
        first
          | (refine Calm.skip ?_ ?_; focus rfl)
          | (refine Calm.pure (v := ?_) (by rfl) ?_ ?_
             rotate_left
             focus (intro w hSw; go_simp <;> rfl))
        simp only [Act.put, List.setIfInBounds_toArray, List.set_cons_zero, List.set_cons_succ]
      all_goals
        first
          | (refine Calm.skip ?_ ?_; focus rfl)
          | (refine Calm.pure (v := ?_) (by rfl) ?_ ?_
             rotate_left
             focus (intro w hSw; go_simp <;> rfl))
        simp only [Act.put, List.setIfInBounds_toArray, List.set_cons_zero, List.set_cons_succ]
      all_goals
        first
          | (refine Calm.skip ?_ ?_; focus rfl)
          | (refine Calm.pure (v := ?_) (by rfl) ?_ ?_
             rotate_left
             focus (intro w hSw; go_simp <;> rfl))
        simp only [Act.put, List.setIfInBounds_toArray, List.set_cons_zero, List.set_cons_succ]
      all_goals
        refine Calm.pure (v := ?_) (by rfl) ?_ ?_
        rotate_left
        focus (intro w hSw; go_simp <;> rfl)
        simp only [Act.put, List.setIfInBounds_toArray, List.set_cons_zero, List.set_cons_succ]
      all_goals
        refine Calm.pure (v := ?_) (by rfl) ?_ ?_
        rotate_left
        focus (intro w hSw; go_simp <;> rfl)
        simp only [Act.put, List.setIfInBounds_toArray, List.set_cons_zero, List.set_cons_succ]
      all_goals
        first
          | (refine Calm.skip ?_ ?_; focus rfl)
          | (refine Calm.loadW 34 Try.underlying34 rfl zt (by rfl) _ rfl rfl (fun _ h => h.2.2.2.2.2.2.1) ?_)
        simp only [Act.put, List.setIfInBounds_toArray, List.set_cons_zero, List.set_cons_succ]
      all_goals
        first
          | (refine Calm.skip ?_ ?_; focus rfl)
          | (refine Calm.call1s (by rfl) rfl rfl (by kernel_rfl) hs (fun w1 h => CS w1 h.2.2.2.2.2.2.2.1) ?_)
        simp only [Act.put, List.setIfInBounds_toArray, List.set_cons_zero, List.set_cons_succ]
      all_goals
        refine Calm.pure (v := ?_) (by rfl) ?_ ?_
        rotate_left
        focus (intro w hSw; go_simp <;> rfl)
        simp only [Act.put, List.setIfInBounds_toArray, List.set_cons_zero, List.set_cons_succ]
      all_goals
        refine Calm.pure (v := ?_) (by rfl) ?_ ?_
        rotate_left
        focus (intro w hSw; go_simp <;> rfl)
        simp only [Act.put, List.setIfInBounds_toArray, List.set_cons_zero, List.set_cons_succ]
      all_goals
        first
          | (refine Calm.skip ?_ ?_; focus rfl)
          | (refine Calm.pure (v := ?_) (by rfl) ?_ ?_
             rotate_left
             focus (intro w hSw; go_simp <;> rfl))
        simp only [Act.put, List.setIfInBounds_toArray, List.set_cons_zero, List.set_cons_succ]
      all_goals
        first
          | (refine Calm.skip ?_ ?_; focus rfl)
          | (refine Calm.pure (v := ?_) (by rfl) ?_ ?_
             rotate_left
             focus (intro w hSw; go_simp <;> rfl))
        simp only [Act.put, List.setIfInBounds_toArray, List.set_cons_zero, List.set_cons_succ]
      all_goals
        first
          | (refine Calm.skip ?_ ?_; focus rfl)
          | (refine Calm.pure (v := ?_) (by rfl) ?_ ?_
             rotate_left
             focus (intro w hSw; go_simp <;> rfl))
        simp only [Act.put, List.setIfInBounds_toArray, List.set_cons_zero, List.set_cons_succ]
      all_goals
        first
          | (refine Calm.skip ?_ ?_; focus rfl)
          | (refine Calm.pure (v := ?_) (by rfl) ?_ ?_
             rotate_left
             focus (intro w hSw; go_simp <;> rfl))
        simp only [Act.put, List.setIfInBounds_toArray, List.set_cons_zero, List.set_cons_succ]
      all_goals
        first
          | (refine Calm.skip ?_ ?_; focus rfl)
          | (refine Calm.pure (v := ?_) (by rfl) ?_ ?_
             rotate_left
             focus (intro w hSw; go_simp <;> rfl))
        simp only [Act.put, List.setIfInBounds_toArray, List.set_cons_zero, List.set_cons_succ]
      all_goals
        first
          | (refine Calm.skip ?_ ?_; focus rfl)
          | (refine Calm.pure (v := ?_) (by rfl) ?_ ?_
             rotate_left
             focus (intro w hSw; go_simp <;> rfl))
        simp only [Act.put, List.setIfInBounds_toArray, List.set_cons_zero, List.set_cons_succ]
      all_goals
        first
          | (refine Calm.skip ?_ ?_; focus rfl)
          | (refine Calm.pure (v := ?_) (by rfl) ?_ ?_
             rotate_left
             focus (intro w hSw; go_simp <;> rfl))
        simp only [Act.put, List.setIfInBounds_toArray, List.set_cons_zero, List.set_cons_succ]
      all_goals
        first
          | (refine Calm.skip ?_ ?_; focus rfl)
          | (refine Calm.pure (v := ?_) (by rfl) ?_ ?_
             rotate_left
             focus (intro w hSw; go_simp <;> rfl))
        simp only [Act.put, List.setIfInBounds_toArray, List.set_cons_zero, List.set_cons_succ]
      all_goals
        refine Calm.pure (v := ?_) (by rfl) ?_ ?_
        rotate_left
        focus (intro w hSw; go_simp <;> rfl)
        simp only [Act.put, List.setIfInBounds_toArray, List.set_cons_zero, List.set_cons_succ]
      all_goals
        refine Calm.pure (v := ?_) (by rfl) ?_ ?_
        rotate_left
        focus (intro w hSw; go_simp <;> rfl)
        simp only [Act.put, List.setIfInBounds_toArray, List.set_cons_zero, List.set_cons_succ]
      all_goals
        rintro w9 ⟨_, _, _, _, _, _, _, _, hbel9⟩
    all_goals
      go_wp2_with fail
      go_ret
      exact ⟨by first | rfl | simp | (cases y <;> rfl), hbel9⟩
end Go.Proofs.Ytfiamiflkfdhoaa
/- Ready and Closed of the document's answer. -/
namespace Go.Proofs.Ytfiamiflkfdhoaa
open Go.RowKit

theorem At.range0 {w : World} {b : Nat} {v : List Int} (h : At w b v) : w.rangeAt b 0 (vals v) := h.range
theorem clb_at : ∀ (l : List T) (v : List Int), clb v l = true → ∀ k (h : k < l.length), rdy (run v (l.take k)) l[k] = true
  | x :: l, v, hc, 0, _ => by
    simp only [clb, Bool.and_eq_true] at hc
    exact hc.1
  | x :: l, v, hc, k + 1, h => by
    simp only [clb, Bool.and_eq_true] at hc
    simpa [run] using clb_at l (stp v x) hc.2 k (by simpa using h)
theorem run_take : ∀ (l : List T) (v : List Int) (k : Nat) (h : k < l.length), run v (l.take (k + 1)) = stp (run v (l.take k)) l[k]
  | x :: l, v, 0, _ => by simp [run]
  | x :: l, v, k + 1, h => by simpa [run] using run_take l (stp v x) k (by simpa using h)
theorem grown_cell (w : World) (b i : Nat) (v : Value) : w.grownBy (w.setCell ⟨b, i, none⟩ v) (some b) := ⟨rfl, rfl, rfl, by simp [World.setCell], fun k _ h => Below.heap_setCell w _ v k fun e => h (by rw [e])⟩
theorem size_v {v : List Int} (h : v.length = 13) : (Try.prog.info? 26).map (·.size) = some (vals v).toArray.size := by rw [List.size_toArray]; exact info_vals h
set_option maxHeartbeats 4000000 in
set_option maxRecDepth 100000 in
theorem refReady16_any (v : List Int) (x : T) (sl : Value) (w : World) (hv : v.length = 13) (ho : OHas w sl x.ops) : Calls Try.prog 53 #[V v, TxV x.p x.s x.v x.t sl] w (Tells (.bool (rdy v x)) w) := by
  obtain ⟨R1, R2, hbel⟩ := two_rows w (vals v).toArray 26 (txc x.p x.s x.v x.t sl).toArray 34
  generalize hW : (w.alloc (.cells (vals v).toArray 26)).alloc (.cells (txc x.p x.s x.v x.t sl).toArray 34) = w0 at R1 R2 hbel
  have zt := size_tx (p := x.p) (s := x.s) (t := x.t) (sl := sl) x.hv
  have zv := size_v hv
  have z2 := zd x.p x.s
  have z3 := info_vals x.hv
  replace ho := ho.later hbel
  obtain ⟨z, HZ⟩ := hid_ex (rdy v x)
  rw [HZ.out]
  obtain ⟨r, HR⟩ := hid_ex x.ok
  go_enter Try.func53, Try.ntmps53
  go_upto_region 1 with (rw [hW])
  clear hW
  go_wp2_with (refine load_r 34 _ rfl rfl _ rfl R2 Try.underlying34 rfl zt ?_)
  refine (refCheckTx_any x.p x.s x.v x.t sl x.ops _ x.hv ho).mono ?_
  rw [show ct x.p x.s x.v x.t x.ops = r from HR.out]
  rintro e w1 ⟨rfl, hb1⟩
  replace R1 := R1.later hb1
  replace R2 := R2.later hb1
  replace hbel := below_on hbel hb1
  clear hb1
  cases r
  · go_wp2_with fail
    go_ret
    refine tells_bool ?_ hbel
    rw [← HZ.out, rdy, show x.ok = false from HR.out]
    rfl
  · have d2 := tx_dot R2
    go_wp2_with (first | refine load_r 26 _ rfl rfl _ rfl R1 Try.underlying26 rfl zv ?_ | refine load_m 31 _ rfl rfl _ _ rfl d2 Try.underlying31 rfl z2 ?_)
    refine (refNext_any v x.p x.s _ hv (T.ok_p HR.out) (T.ok_s HR.out)).mono ?_
    unfold nxt
    obtain ⟨r2, HR2⟩ := hid_ex (decide (v.getD x.p.toNat 0 + 1 = x.s))
    rw [HR2.out]
    rintro e w2 ⟨rfl, hb1⟩
    replace R1 := R1.later hb1
    replace R2 := R2.later hb1
    replace hbel := below_on hbel hb1
    clear hb1 d2
    cases r2
    · go_wp2_with fail
      go_ret
      refine tells_bool ?_ hbel
      rw [← HZ.out, rdy, show decide (v.getD x.p.toNat 0 + 1 = x.s) = false from HR2.out]
      simp
    · have d2 := tx_vec R2
      go_wp2_with (first | refine load_m 26 _ rfl rfl _ _ rfl d2 Try.underlying26 rfl z3 ?_ | refine load_r 26 _ rfl rfl _ rfl R1 Try.underlying26 rfl zv ?_)
      refine (refLeq_any x.v v _ x.hv hv).mono ?_
      obtain ⟨r3, HR3⟩ := hid_ex (lq x.v v)
      rw [HR3.out]
      rintro e w3 ⟨rfl, hb1⟩
      replace hbel := below_on hbel hb1
      go_wp2_with fail
      go_ret
      refine tells_bool ?_ hbel
      rw [← HZ.out, rdy, show x.ok = true from HR.out, show decide (v.getD x.p.toNat 0 + 1 = x.s) = true from HR2.out, show lq x.v v = r3 from HR3.out]
      rfl
set_option maxHeartbeats 4000000 in
set_option maxRecDepth 100000 in
theorem refReady_any (v : List Int) (x : T) (sl : Value) (w : World) (hv : v.length = 13) (ho : OHas w sl x.ops) : Calls Try.prog 31 #[V v, TxV x.p x.s x.v x.t sl] w (Tells (.bool (rdy v x)) w) := by
  obtain ⟨R1, R2, hbel⟩ := two_rows w (vals v).toArray 26 (txc x.p x.s x.v x.t sl).toArray 34
  generalize hW : (w.alloc (.cells (vals v).toArray 26)).alloc (.cells (txc x.p x.s x.v x.t sl).toArray 34) = w0 at R1 R2 hbel
  have zt := size_tx (p := x.p) (s := x.s) (t := x.t) (sl := sl) x.hv
  have zv := size_v hv
  replace ho := ho.later hbel
  obtain ⟨r, HR⟩ := hid_ex (rdy v x)
  rw [HR.out]
  go_enter Try.func31, Try.ntmps31
  go_wp2_with (first | rw [hW] | refine load_r 34 _ rfl rfl _ rfl R2 Try.underlying34 rfl zt ?_ | refine load_r 26 _ rfl rfl _ rfl R1 Try.underlying26 rfl zv ?_)
  clear hW
  refine (refReady16_any v x sl _ hv ho).mono ?_
  rw [HR.out]
  rintro e w1 ⟨rfl, hb1⟩
  go_wp2_with fail
  go_ret
  exact ⟨rfl, below_on hbel hb1⟩
end Go.Proofs.Ytfiamiflkfdhoaa
/- Closed of the document's answer. -/
namespace Go.Proofs.Ytfiamiflkfdhoaa
open Go.RowKit

theorem clb_take : ∀ (l : List T) (v : List Int) (k : Nat) (h : k < l.length), clb v l = true → rdy (run v (l.take k)) l[k] = true := fun l v k h hc => clb_at l v hc k h
theorem clb_of : ∀ (l : List T) (v : List Int), (∀ k (h : k < l.length), rdy (run v (l.take k)) l[k] = true) → clb v l = true
  | [], _, _ => rfl
  | x :: l, v, h => by
    simp only [clb, Bool.and_eq_true]
    refine ⟨h 0 (by simp), clb_of l (stp v x) fun k hk => ?_⟩
    have := h (k + 1) (by simpa using hk)
    rw [List.take_succ_cons, run] at this
    exact this
set_option maxHeartbeats 8000000 in
set_option maxRecDepth 100000 in
theorem refClosed_any (l : List T) (sv : Value) (w : World) (h : XHas w sv l) : Calls Try.prog 15 #[sv] w (Tells (.bool (clb zeros l)) w) := by
  obtain ⟨q, c, rfl⟩ := h.slice
  have hml := maxLen_lt h.max
  obtain ⟨z, HZ⟩ := hid_ex (clb zeros l)
  rw [HZ.out]
  have H : Hid (XHas w (.slice q l.length c) l) := h
  clear h
  have A3 : At (w.alloc (.cells #[.int .i64 0, .int .i64 0, .int .i64 0, .int .i64 0, .int .i64 0, .int .i64 0, .int .i64 0, .int .i64 0, .int .i64 0, .int .i64 0, .int .i64 0, .int .i64 0, .int .i64 0] 26)) w.heap.size zeros := at_new w zeros rfl
  have hbel := bel_alloc (Below.refl w.heap.size w) (.cells #[.int .i64 0, .int .i64 0, .int .i64 0, .int .i64 0, .int .i64 0, .int .i64 0, .int .i64 0, .int .i64 0, .int .i64 0, .int .i64 0, .int .i64 0, .int .i64 0, .int .i64 0] 26)
  go_enter Try.func15, Try.ntmps15
  go_wp2_with fail
  generalize w.alloc (.cells #[.int .i64 0, .int .i64 0, .int .i64 0, .int .i64 0, .int .i64 0, .int .i64 0, .int .i64 0, .int .i64 0, .int .i64 0, .int .i64 0, .int .i64 0, .int .i64 0, .int .i64 0] 26) = w2 at A3 hbel ⊢
  go_loopw [4] (fun vi wr => ∃ k : Nat, vi = .int .i64 k ∧ k ≤ l.length ∧ Hid (∀ i (h : i < l.length), i < k → rdy (run zeros (l.take i)) l[i] = true) ∧ At wr w.heap.size (run zeros (l.take k)) ∧ Below w.heap.size w wr) (fun vi _ => l.length - (intOf vi).toNat)
  case atStart => exact ⟨0, rfl, by omega, (show ∀ i (_ : i < l.length), i < 0 → _ from fun i _ h => by omega), A3, hbel⟩
  case round =>
    clear A3 hbel
    obtain ⟨k, rfl, hk, HV, A3, hbel⟩ := hrel
    by_cases hlt : k < l.length
    · have hlt' : (k : Int) < (l.length : Int) := by omega
      obtain ⟨g, o, s1, rfl, d0, a0⟩ := H.out.at k hlt
      have hgl : g < w.heap.size := range_block d0 (by rw [txc_length l[k].hv]; omega)
      have d := range_later d0 hbel
      have ao := a0.later hbel
      have hrun := run_take l zeros k hlt
      have hown := A3.1
      obtain ⟨x, HX⟩ := hid_ex l[k]
      rw [HX.out] at d ao hrun
      obtain ⟨own, HO⟩ := hid_ex (run zeros (l.take k))
      rw [HO.out] at hrun A3 hown
      obtain ⟨r, HR⟩ := hid_ex (rdy own x)
      have C := fun (w' : World) (hb : Below wr.heap.size wr w') => refReady_any own x s1 w' hown (ao.later hb)
      rw [HR.out] at C
      have z1 := tx_size x s1
      have z4 := info_vals hown
      have ST : Calm.Stays (fun w' : World => w'.rangeAt g (o + k * 17) (txc x.p x.s x.v x.t s1) ∧ w'.rangeAt w.heap.size 0 (vals own) ∧ Below wr.heap.size wr w') := fun a b h hb => ⟨range_later h.1 hb, range_later h.2.1 hb, below_on h.2.2 hb⟩
      clear d0 a0
      go_wp2_with fail
      refine Calm.region (by kernel_rfl) (by kernel_rfl) (fun w' : World => w'.rangeAt g (o + k * 17) (txc x.p x.s x.v x.t s1) ∧ w'.rangeAt w.heap.size 0 (vals own) ∧ Below wr.heap.size wr w') ⟨d, A3.range0, (Below.refl _ _).drew⟩ ?_
      refine Calm.lm z4 (fun _ h => h.2.1) Try.underlying26 ?_
      iterate 3 (refine Calm.pu ?_)
      refine Calm.lm z1 (fun _ h => h.1) Try.underlying34 ?_
      refine Calm.k2 ST (fun w' h => C w' h.2.2) ?_
      refine Calm.pu ?_
      intro w6 hS6
      have hb6 := hS6.2.2
      clear hS6 ST C z1 z4
      cases r
      · obtain rfl : false = z := by
          rw [← HZ.out]
          cases e : clb zeros l with
          | false => rfl
          | true =>
            have := clb_take l zeros k hlt e
            rw [HO.out, HX.out, HR.out] at this
            cases this
        go_wp2_with fail
        go_ret
        exact ⟨rfl, below_on hbel hb6⟩
      · have HV2 : Hid (∀ i (h : i < l.length), i < k + 1 → rdy (run zeros (l.take i)) l[i] = true) := fun i h hi => by
          rcases Nat.lt_or_ge i k with h3 | h3
          · exact HV.out i h h3
          · obtain rfl : i = k := by omega
            rw [HO.out, HX.out]
            exact HR.out
        have hp := T.ok_p (rdy_ok HR.out)
        obtain ⟨n, en⟩ : ∃ n : Nat, x.p = (n : Int) := ⟨x.p.toNat, by omega⟩
        have hn13 : n < 13 := by omega
        have hn13' : (n : Int) < 13 := by omega
        have hg12 : g ≠ w.heap.size := by omega
        have hb7 : Below wr.heap.size wr w6.drew := below_on hb6 (Below.refl _ _).drew
        go_wp2_with fail
        refine Held.region (fun w' => w'.cell? ⟨g, o + k * 17, none⟩ = some (.int .i64 n) ∧ w'.cell? ⟨g, o + k * 17 + 1, none⟩ = some (.int .i64 x.s)) (by kernel_rfl) ?_
        generalize w6.drew = w7 at hb7 ⊢
        replace d := range_later d hb7
        have cp := at_p d
        rw [en] at cp
        have cs := at_s d
        replace A3 := A3.later hb7
        have c1 := A3.cell hn13
        have f1 := A3.frozen n
        generalize own.getD n 0 = y0 at c1
        have hS : w7.cell? ⟨g, o + k * 17, none⟩ = some (.int .i64 n) ∧ w7.cell? ⟨g, o + k * 17 + 1, none⟩ = some (.int .i64 x.s) := ⟨cp, cs⟩
        have hst : stp own x = own.set n x.s := by unfold stp; rw [en]; simp
        iterate 5 (refine Held.pu hS ?_)
        refine Held.ce (fun _ h => h.1) hS ?_
        iterate 5 (refine Held.pu hS ?_)
        refine Held.ce (fun _ h => h.2) hS ?_
        refine Held.pu hS ?_
        refine Held.st (w1 := w7.setCell ⟨w.heap.size, n, none⟩ (.int .i64 x.s)) (by go_simp) ?_ ?_
        · have e : (w7.setCell ⟨w.heap.size, n, none⟩ (.int .i64 x.s)).heap[g]? = w7.heap[g]? := Below.heap_setCell w7 _ _ g hg12
          exact ⟨(World.cell?_of_block e).trans cp, (World.cell?_of_block e).trans cs⟩
        refine Held.dn ?_
        go_wp2_with fail
        go_roundw
        case rel => exact ⟨k + 1, by simp, by omega, HV2, by rw [hrun, hst]; exact A3.set _, (below_on hbel hb7).setCell (Nat.le_refl _) _⟩
        case measure => simp [intOf]; omega
    · have hlt' : ¬ (k : Int) < (l.length : Int) := by omega
      obtain rfl : true = z := by
        rw [← HZ.out]
        exact (clb_of l zeros fun i h => HV.out i h (by omega)).symm
      clear H
      go_wp2_with fail
      go_ret
      exact ⟨rfl, hbel⟩
end Go.Proofs.Ytfiamiflkfdhoaa
