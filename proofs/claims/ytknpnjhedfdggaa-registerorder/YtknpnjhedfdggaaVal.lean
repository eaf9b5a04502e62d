/- Texts and Values of the document's answer: what is the same is told so. -/
import Derived.Test.YtknpnjhedfdggaaRd
import Derived.Test.YtknpnjhedfdggaaSam
namespace Go.Proofs.Ytknpnjhedfdggaa
open Go.RowKit Go.Sort

theorem THas.elem {w : World} {l : List Bs} {g o : Nat} (h : w.rangeAt g o (l.map encStr)) (k : Nat) (hk : k < l.length) : w.cell? ⟨g, o + k, none⟩ = some (encStr l[k]) := h k _ (by simp [hk])
set_option maxHeartbeats 2000000 in
set_option maxRecDepth 100000 in
theorem refTexts_any (v1 v2 : Value) (l : List Bs) (w : World) (h1 : THas w v1 l) (h2 : THas w v2 l) : Calls Try.prog 21 #[v1, v2] w (Tells (.bool true) w) := by
  have hml := maxLen_lt h1.1
  obtain ⟨p1, c1, rfl⟩ := h1.slice
  obtain ⟨p2, c2, rfl⟩ := h2.slice
  have H1 : Hid (THas w (.slice p1 l.length c1) l) := h1
  have H2 : Hid (THas w (.slice p2 l.length c2) l) := h2
  clear h1 h2
  go_enter Try.func21, Try.ntmps21
  go_wp2
  go_loopw [5] (fun vi wr => ∃ k : Nat, vi = .int .i64 k ∧ k ≤ l.length ∧ Below w.heap.size w wr) (fun vi _ => l.length - (intOf vi).toNat)
  case atStart => exact ⟨0, rfl, by omega, Below.refl _ _⟩
  case round =>
    obtain ⟨k, rfl, hk, hbel⟩ := hrel
    by_cases hlt : k < l.length
    · have hlt' : (k : Int) < (l.length : Int) := by omega
      have hk0 : (0 : Int) ≤ (k : Int) := by omega
      obtain ⟨g, o, rfl, hd1⟩ := H1.out.at (by omega)
      obtain ⟨g', o', rfl, hd2⟩ := H2.out.at (by omega)
      have c1 := THas.elem (range_later hd1 hbel) k hlt
      have c2 := THas.elem (range_later hd2 hbel) k hlt
      obtain ⟨s, HS⟩ := hid_ex l[k]
      rw [HS.out] at c1 c2
      clear hd1 hd2 H1 H2 HS
      go_wp2_with fail
      have hs : Calm.Stays (fun w' => w'.cell? ⟨g, o + k, none⟩ = some (encStr s) ∧ w'.cell? ⟨g', o' + k, none⟩ = some (encStr s) ∧ Below w.heap.size w w') := fun wa wb h hb => ⟨cell_later hb h.1, cell_later hb h.2.1, below_on h.2.2 hb⟩
      refine Calm.region (by kernel_rfl) (by kernel_rfl) (fun w' => w'.cell? ⟨g, o + k, none⟩ = some (encStr s) ∧ w'.cell? ⟨g', o' + k, none⟩ = some (encStr s) ∧ Below w.heap.size w w') ⟨c1, c2, hbel.drew⟩ ?_
      all_goals
        refine Calm.pure (v := ?_) (by rfl) ?_ ?_
        rotate_left
        focus (intro w hSw; go_simp <;> rfl)
        simp only [Act.put, List.setIfInBounds_toArray, List.set_cons_zero, List.set_cons_succ]
      all_goals
        refine Calm.pure (v := ?_) (by rfl) ?_ ?_
        rotate_left
        focus (intro w hSw; go_simp <;> rfl)
        simp only [Act.put, List.setIfInBounds_toArray, List.set_cons_zero, List.set_cons_succ]
      all_goals
        refine Calm.pure (v := ?_) (by rfl) ?_ ?_
        rotate_left
        focus (intro w hSw; go_simp <;> rfl)
        simp only [Act.put, List.setIfInBounds_toArray, List.set_cons_zero, List.set_cons_succ]
      all_goals
        refine Calm.pure (v := ?_) (by rfl) ?_ ?_
        rotate_left
        focus (intro w hSw; have g1 := hSw.1; go_simp <;> rfl)
        simp only [Act.put, List.setIfInBounds_toArray, List.set_cons_zero, List.set_cons_succ]
      all_goals
        refine Calm.pure (v := ?_) (by rfl) ?_ ?_
        rotate_left
        focus (intro w hSw; go_simp <;> rfl)
        simp only [Act.put, List.setIfInBounds_toArray, List.set_cons_zero, List.set_cons_succ]
      all_goals
        refine Calm.pure (v := ?_) (by rfl) ?_ ?_
        rotate_left
        focus (intro w hSw; go_simp <;> rfl)
        simp only [Act.put, List.setIfInBounds_toArray, List.set_cons_zero, List.set_cons_succ]
      all_goals
        refine Calm.pure (v := ?_) (by rfl) ?_ ?_
        rotate_left
        focus (intro w hSw; go_simp <;> rfl)
        simp only [Act.put, List.setIfInBounds_toArray, List.set_cons_zero, List.set_cons_succ]
      all_goals
        refine Calm.pure (v := ?_) (by rfl) ?_ ?_
        rotate_left
        focus (intro w hSw; have g1 := hSw.2.1; go_simp <;> rfl)
        simp only [Act.put, List.setIfInBounds_toArray, List.set_cons_zero, List.set_cons_succ]
      all_goals
        refine Calm.pure (v := ?_) (by rfl) ?_ ?_
        rotate_left
        focus (intro w hSw; go_simp <;> rfl)
        simp only [Act.put, List.setIfInBounds_toArray, List.set_cons_zero, List.set_cons_succ]
      all_goals
        rintro w9 ⟨_, _, hbel9⟩
      go_wp2_with fail
      go_roundw
      case rel => exact ⟨k + 1, by simp, by omega, hbel9⟩
      case measure => simp [intOf]; omega
    · have hlt' : ¬ (k : Int) < (l.length : Int) := by omega
      clear H1 H2
      go_wp2_with fail
      go_ret
      exact ⟨rfl, hbel⟩
set_option maxHeartbeats 2000000 in
set_option maxRecDepth 100000 in
theorem values_any (k : Int) (u1 u2 : Value) (l : List Bs) (w : World) (h1 : THas w u1 l) (h2 : THas w u2 l) : Calls Try.prog 19 #[VV k u1, VV k u2] w (Tells (.bool true) w) := by
  obtain ⟨p1, c1, rfl⟩ := h1.slice
  obtain ⟨p2, c2, rfl⟩ := h2.slice
  obtain ⟨R0, R1, hbel⟩ := two_rows w #[.int .i64 k, .int .i64 0, .slice p1 l.length c1, .slice none 0 0] 46 #[.int .i64 k, .int .i64 0, .slice p2 l.length c2, .slice none 0 0] 46
  generalize hW : (w.alloc (.cells #[.int .i64 k, .int .i64 0, .slice p1 l.length c1, .slice none 0 0] 46)).alloc (.cells #[.int .i64 k, .int .i64 0, .slice p2 l.length c2, .slice none 0 0] 46) = w0 at R0 R1 hbel
  have a0 : w0.cell? ⟨w.heap.size, 0, none⟩ = some (.int .i64 k) := R0.cell 0
  have a1 : w0.cell? ⟨w.heap.size, 1, none⟩ = some (.int .i64 0) := R0.cell 1
  have a2 : w0.cell? ⟨w.heap.size, 2, none⟩ = some (.slice p1 l.length c1) := R0.cell 2
  have e0 : w0.cell? ⟨w.heap.size + 1, 0, none⟩ = some (.int .i64 k) := R1.cell 0
  have e1 : w0.cell? ⟨w.heap.size + 1, 1, none⟩ = some (.int .i64 0) := R1.cell 1
  have e2 : w0.cell? ⟨w.heap.size + 1, 2, none⟩ = some (.slice p2 l.length c2) := R1.cell 2
  have C := refTexts_any _ _ l w0 (h1.later hbel) (h2.later hbel)
  clear h1 h2
  go_enter Try.func19, Try.ntmps19
  go_wp2_with (first | rw [hW])
  refine C.mono ?_
  rintro e w1 ⟨rfl, hb1⟩
  have a3 : w1.cell? ⟨w.heap.size, 3, none⟩ = some (.slice none 0 0) := (R0.later hb1).cell 3
  have e3 : w1.cell? ⟨w.heap.size + 1, 3, none⟩ = some (.slice none 0 0) := (R1.later hb1).cell 3
  go_wp2_with fail
  have R := R0.later hb1
  replace hbel := below_on hbel hb1
  clear a0 a1 a2 a3 e0 e1 e2 e3 hb1 hW R0 R1
  go_loopw [5] (fun vi wr => vi = .int .i64 0 ∧ wr.cell? ⟨w.heap.size, 3, none⟩ = some (.slice none 0 0) ∧ Below w.heap.size w wr) (fun _ _ => 0)
  case atStart => exact ⟨rfl, R.cell 3, hbel⟩
  case round =>
    clear hbel
    obtain ⟨rfl, c3, hbel⟩ := hrel
    go_wp2_with fail
    go_ret
    exact ⟨rfl, hbel⟩
end Go.Proofs.Ytknpnjhedfdggaa
