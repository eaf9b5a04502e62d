import Derived.Test.YtcebchjokmampaaP2
import Derived.Test.YtcebchjokmampaaP1
/- The functions Peer, Has and Next of the document's answer. -/
namespace Go.Proofs.Ytcebchjokmampaa
open Go.RowKit

set_option maxRecDepth 100000 in
theorem refPeer_not (p : Int) (w : World) (hp : ¬ (1 ≤ p ∧ p ≤ 12)) :
    Calls Try.prog 23 #[.int .i64 p] w fun e w' => e = .returned (.bool false) ∧ Below w.heap.size w w' := by
  by_cases h : 1 ≤ p
  · have h2 : ¬ p ≤ 12 := by omega
    go_enter Try.func23, Try.ntmps23
    go_wp2
    go_ret
    exact ⟨by simp, Below.refl _ _⟩
  · go_enter Try.func23, Try.ntmps23
    go_wp2
    go_ret
    exact ⟨by simp, Below.refl _ _⟩

set_option maxRecDepth 100000 in
theorem refPeer_yes (n : Nat) (w : World) (h1 : 1 ≤ n) (h2 : n ≤ 12) :
    Calls Try.prog 23 #[.int .i64 n] w fun e w' => e = .returned (.bool true) ∧ Below w.heap.size w w' := by
  have h3 : (1 : Int) ≤ (n : Int) := by omega
  have h4 : (n : Int) ≤ 12 := by omega
  go_enter Try.func23, Try.ntmps23
  go_wp2
  go_ret
  exact ⟨by simp, Below.refl _ _⟩

set_option maxHeartbeats 1000000 in
set_option maxRecDepth 100000 in
theorem refHas_not (v : List Int) (p s : Int) (w : World) (hp : ¬ (1 ≤ p ∧ p ≤ 12)) :
    Calls Try.prog 17 #[V v, D p s] w fun e w' => e = .returned (.bool false) ∧ Below w.heap.size w w' := by
  have hC28 := fun w1 => refPeer_not p w1 hp
  go_enter Try.func17, Try.ntmps17
  go_wp2
  obtain ⟨w0, hw0⟩ : ∃ w0, w0 = (w.alloc (.cells (vals v).toArray 23)).alloc (.cells #[.int .i64 p, .int .i64 s] 40) := ⟨_, rfl⟩
  have g1 : w0.cell? ⟨w.heap.size + 1, 0, none⟩ = some (.int .i64 p) := by rw [hw0]; exact dot_cell0 _ (by simp) p s
  have g2 : w0.cell? ⟨w.heap.size + 1, 1, none⟩ = some (.int .i64 s) := by rw [hw0]; exact dot_cell1 _ (by simp) p s
  have hbel : Below w.heap.size w w0 := by rw [hw0]; exact ((Below.refl _ _).alloc (Nat.le_refl _) _).alloc (by simp) _
  have hs : Calm.Stays (fun w' => w'.cell? ⟨w.heap.size + 1, 0, none⟩ = some (.int .i64 p) ∧ w'.cell? ⟨w.heap.size + 1, 1, none⟩ = some (.int .i64 s) ∧ Below w.heap.size w w') := fun w1 w2 h hb => ⟨cell_later hb h.1, cell_later hb h.2.1, below_on h.2.2 hb⟩
  rw [← hw0]
  clear hw0
  refine Calm.region (by kernel_rfl) (by kernel_rfl) (fun w' => w'.cell? ⟨w.heap.size + 1, 0, none⟩ = some (.int .i64 p) ∧ w'.cell? ⟨w.heap.size + 1, 1, none⟩ = some (.int .i64 s) ∧ Below w.heap.size w w') ⟨g1, g2, hbel.drew⟩ ?_
  clear g1 g2 hbel
  all_goals
    refine Calm.pure (v := ?_) (by rfl) ?_ ?_
    rotate_left
    focus (intro w hSw; go_simp <;> rfl)
    simp only [Act.put, List.setIfInBounds_toArray, List.set_cons_zero, List.set_cons_succ]
  all_goals
    refine Calm.pure (v := ?_) (by rfl) ?_ ?_
    rotate_left
    focus (intro w hSw; go_simp <;> rfl)
    simp only [Act.put, List.setIfInBounds_toArray, List.set_cons_zero, List.set_cons_succ]
  all_goals
    refine Calm.call1 (by rfl) rfl rfl (by kernel_rfl) hs hC28 ?_
    simp only [Act.put, List.setIfInBounds_toArray, List.set_cons_zero, List.set_cons_succ]
  all_goals
    refine Calm.pure (v := ?_) (by rfl) ?_ ?_
    rotate_left
    focus (intro w hSw; go_simp <;> rfl)
    simp only [Act.put, List.setIfInBounds_toArray, List.set_cons_zero, List.set_cons_succ]
  all_goals
    first
      | (refine Calm.skip ?_ ?_; focus rfl)
      | (refine Calm.pure (v := ?_) (by rfl) ?_ ?_
         rotate_left
         focus (intro w hSw; go_simp <;> rfl))
    simp only [Act.put, List.setIfInBounds_toArray, List.set_cons_zero, List.set_cons_succ]
  all_goals
    first
      | (refine Calm.skip ?_ ?_; focus rfl)
      | (refine Calm.pure (v := ?_) (by rfl) ?_ ?_
         rotate_left
         focus (intro w hSw; go_simp <;> rfl))
    simp only [Act.put, List.setIfInBounds_toArray, List.set_cons_zero, List.set_cons_succ]
  all_goals
    first
      | (refine Calm.skip ?_ ?_; focus rfl)
      | (refine Calm.pure (v := ?_) (by rfl) ?_ ?_
         rotate_left
         focus (intro w hSw; go_simp <;> rfl))
    simp only [Act.put, List.setIfInBounds_toArray, List.set_cons_zero, List.set_cons_succ]
  all_goals
    refine Calm.pure (v := ?_) (by rfl) ?_ ?_
    rotate_left
    focus (intro w hSw; go_simp <;> rfl)
    simp only [Act.put, List.setIfInBounds_toArray, List.set_cons_zero, List.set_cons_succ]
  all_goals
    refine Calm.pure (v := ?_) (by rfl) ?_ ?_
    rotate_left
    focus (intro w hSw; go_simp <;> rfl)
    simp only [Act.put, List.setIfInBounds_toArray, List.set_cons_zero, List.set_cons_succ]
  all_goals
    first
      | (refine Calm.skip ?_ ?_; focus rfl)
      | (refine Calm.pure (v := ?_) (by rfl) ?_ ?_
         rotate_left
         focus (intro w hSw; go_simp <;> rfl))
    simp only [Act.put, List.setIfInBounds_toArray, List.set_cons_zero, List.set_cons_succ]
  all_goals
    first
      | (refine Calm.skip ?_ ?_; focus rfl)
      | (refine Calm.pure (v := ?_) (by rfl) ?_ ?_
         rotate_left
         focus (intro w hSw; go_simp <;> rfl))
    simp only [Act.put, List.setIfInBounds_toArray, List.set_cons_zero, List.set_cons_succ]
  all_goals
    first
      | (refine Calm.skip ?_ ?_; focus rfl)
      | (refine Calm.pure (v := ?_) (by rfl) ?_ ?_
         rotate_left
         focus (intro w hSw; go_simp <;> rfl))
    simp only [Act.put, List.setIfInBounds_toArray, List.set_cons_zero, List.set_cons_succ]
  all_goals
    first
      | (refine Calm.skip ?_ ?_; focus rfl)
      | (refine Calm.pure (v := ?_) (by rfl) ?_ ?_
         rotate_left
         focus (intro w hSw; go_simp <;> rfl))
    simp only [Act.put, List.setIfInBounds_toArray, List.set_cons_zero, List.set_cons_succ]
  all_goals
    first
      | (refine Calm.skip ?_ ?_; focus rfl)
      | (refine Calm.pure (v := ?_) (by rfl) ?_ ?_
         rotate_left
         focus (intro w hSw; go_simp <;> rfl))
    simp only [Act.put, List.setIfInBounds_toArray, List.set_cons_zero, List.set_cons_succ]
  all_goals
    first
      | (refine Calm.skip ?_ ?_; focus rfl)
      | (refine Calm.pure (v := ?_) (by rfl) ?_ ?_
         rotate_left
         focus (intro w hSw; go_simp <;> rfl))
    simp only [Act.put, List.setIfInBounds_toArray, List.set_cons_zero, List.set_cons_succ]
  all_goals
    first
      | (refine Calm.skip ?_ ?_; focus rfl)
      | (refine Calm.pure (v := ?_) (by rfl) ?_ ?_
         rotate_left
         focus (intro w hSw; go_simp <;> rfl))
    simp only [Act.put, List.setIfInBounds_toArray, List.set_cons_zero, List.set_cons_succ]
  all_goals
    refine Calm.pure (v := ?_) (by rfl) ?_ ?_
    rotate_left
    focus (intro w hSw; go_simp <;> rfl)
    simp only [Act.put, List.setIfInBounds_toArray, List.set_cons_zero, List.set_cons_succ]
  all_goals
    refine Calm.pure (v := ?_) (by rfl) ?_ ?_
    rotate_left
    focus (intro w hSw; go_simp <;> rfl)
    simp only [Act.put, List.setIfInBounds_toArray, List.set_cons_zero, List.set_cons_succ]
  rintro w9 ⟨_, _, hbel9⟩
  go_wp2
  go_ret
  exact ⟨rfl, hbel9⟩

set_option maxHeartbeats 1000000 in
set_option maxRecDepth 100000 in
theorem refHas_peer (v : List Int) (n : Nat) (s : Int) (w : World) (hv : v.length = 13) (hn1 : 1 ≤ n) (hn2 : n ≤ 12) :
    Calls Try.prog 17 #[V v, D n s] w fun e w' => e = .returned (.bool (decide (1 ≤ s) && decide (s ≤ v.getD n 0))) ∧ Below w.heap.size w w' := by
  have hC28 := fun w1 => refPeer_yes n w1 hn1 hn2
  obtain ⟨x, HX⟩ : ∃ x, Hid (v.getD n 0 = x) := ⟨_, rfl⟩
  rw [HX.out]
  have hat := at_new w v hv
  go_enter Try.func17, Try.ntmps17
  go_wp2
  obtain ⟨w0, hw0⟩ : ∃ w0, w0 = (w.alloc (.cells (vals v).toArray 23)).alloc (.cells #[.int .i64 n, .int .i64 s] 40) := ⟨_, rfl⟩
  have g1 : w0.cell? ⟨w.heap.size + 1, 0, none⟩ = some (.int .i64 n) := by rw [hw0]; exact dot_cell0 _ (by simp) n s
  have g2 : w0.cell? ⟨w.heap.size + 1, 1, none⟩ = some (.int .i64 s) := by rw [hw0]; exact dot_cell1 _ (by simp) n s
  have g3 : w0.cell? ⟨w.heap.size, n, none⟩ = some (.int .i64 x) := by
    rw [hw0, ← HX.out]
    exact (hat.alloc _).cell (by omega)
  have hbel : Below w.heap.size w w0 := by rw [hw0]; exact ((Below.refl _ _).alloc (Nat.le_refl _) _).alloc (by simp) _
  have hs : Calm.Stays (fun w' => w'.cell? ⟨w.heap.size + 1, 0, none⟩ = some (.int .i64 n) ∧ w'.cell? ⟨w.heap.size + 1, 1, none⟩ = some (.int .i64 s) ∧ w'.cell? ⟨w.heap.size, n, none⟩ = some (.int .i64 x) ∧ Below w.heap.size w w') := fun w1 w2 h hb => ⟨cell_later hb h.1, cell_later hb h.2.1, cell_later hb h.2.2.1, below_on h.2.2.2 hb⟩
  rw [← hw0]
  clear hw0 hat
  refine Calm.region (by kernel_rfl) (by kernel_rfl) (fun w' => w'.cell? ⟨w.heap.size + 1, 0, none⟩ = some (.int .i64 n) ∧ w'.cell? ⟨w.heap.size + 1, 1, none⟩ = some (.int .i64 s) ∧ w'.cell? ⟨w.heap.size, n, none⟩ = some (.int .i64 x) ∧ Below w.heap.size w w') ⟨g1, g2, g3, hbel.drew⟩ ?_
  clear g1 g2 g3 hbel
  have hi1 : (0 : Int) ≤ (n : Int) := by omega
  have hi2 : (n : Int) < 13 := by omega
  by_cases hs1 : 1 ≤ s <;> by_cases hs2 : s ≤ x
  all_goals
    all_goals
      refine Calm.pure (v := ?_) (by rfl) ?_ ?_
      rotate_left
      focus (intro w hSw; go_simp <;> rfl)
      simp only [Act.put, List.setIfInBounds_toArray, List.set_cons_zero, List.set_cons_succ]
    all_goals
      refine Calm.pure (v := ?_) (by rfl) ?_ ?_
      rotate_left
      focus (intro w hSw; go_simp <;> rfl)
      simp only [Act.put, List.setIfInBounds_toArray, List.set_cons_zero, List.set_cons_succ]
    all_goals
      refine Calm.call1 (by rfl) rfl rfl (by kernel_rfl) hs hC28 ?_
      simp only [Act.put, List.setIfInBounds_toArray, List.set_cons_zero, List.set_cons_succ]
    all_goals
      refine Calm.pure (v := ?_) (by rfl) ?_ ?_
      rotate_left
      focus (intro w hSw; go_simp <;> rfl)
      simp only [Act.put, List.setIfInBounds_toArray, List.set_cons_zero, List.set_cons_succ]
    all_goals
      first
        | (refine Calm.skip ?_ ?_; focus rfl)
        | (refine Calm.pure (v := ?_) (by rfl) ?_ ?_
           rotate_left
           focus (intro w hSw; go_simp <;> rfl))
      simp only [Act.put, List.setIfInBounds_toArray, List.set_cons_zero, List.set_cons_succ]
    all_goals
      first
        | (refine Calm.skip ?_ ?_; focus rfl)
        | (refine Calm.pure (v := ?_) (by rfl) ?_ ?_
           rotate_left
           focus (intro w hSw; go_simp <;> rfl))
      simp only [Act.put, List.setIfInBounds_toArray, List.set_cons_zero, List.set_cons_succ]
    all_goals
      first
        | (refine Calm.skip ?_ ?_; focus rfl)
        | (refine Calm.pure (v := ?_) (by rfl) ?_ ?_
           rotate_left
           focus (intro w hSw; go_simp <;> rfl))
      simp only [Act.put, List.setIfInBounds_toArray, List.set_cons_zero, List.set_cons_succ]
    all_goals
      refine Calm.pure (v := ?_) (by rfl) ?_ ?_
      rotate_left
      focus (intro w hSw; go_simp <;> rfl)
      simp only [Act.put, List.setIfInBounds_toArray, List.set_cons_zero, List.set_cons_succ]
    all_goals
      refine Calm.pure (v := ?_) (by rfl) ?_ ?_
      rotate_left
      focus (intro w hSw; go_simp <;> rfl)
      simp only [Act.put, List.setIfInBounds_toArray, List.set_cons_zero, List.set_cons_succ]
    all_goals
      first
        | (refine Calm.skip ?_ ?_; focus rfl)
        | (refine Calm.pure (v := ?_) (by rfl) ?_ ?_
           rotate_left
           focus (intro w hSw; go_simp <;> rfl))
      simp only [Act.put, List.setIfInBounds_toArray, List.set_cons_zero, List.set_cons_succ]
    all_goals
      first
        | (refine Calm.skip ?_ ?_; focus rfl)
        | (refine Calm.pure (v := ?_) (by rfl) ?_ ?_
           rotate_left
           focus (intro w hSw; go_simp <;> rfl))
      simp only [Act.put, List.setIfInBounds_toArray, List.set_cons_zero, List.set_cons_succ]
    all_goals
      first
        | (refine Calm.skip ?_ ?_; focus rfl)
        | (refine Calm.pure (v := ?_) (by rfl) ?_ ?_
           rotate_left
           focus (intro w hSw; go_simp <;> rfl))
      simp only [Act.put, List.setIfInBounds_toArray, List.set_cons_zero, List.set_cons_succ]
    all_goals
      first
        | (refine Calm.skip ?_ ?_; focus rfl)
        | (refine Calm.pure (v := ?_) (by rfl) ?_ ?_
           rotate_left
           focus (intro w hSw; go_simp <;> rfl))
      simp only [Act.put, List.setIfInBounds_toArray, List.set_cons_zero, List.set_cons_succ]
    all_goals
      first
        | (refine Calm.skip ?_ ?_; focus rfl)
        | (refine Calm.pure (v := ?_) (by rfl) ?_ ?_
           rotate_left
           focus (intro w hSw; go_simp <;> rfl))
      simp only [Act.put, List.setIfInBounds_toArray, List.set_cons_zero, List.set_cons_succ]
    all_goals
      first
        | (refine Calm.skip ?_ ?_; focus rfl)
        | (refine Calm.pure (v := ?_) (by rfl) ?_ ?_
           rotate_left
           focus (intro w hSw; go_simp <;> rfl))
      simp only [Act.put, List.setIfInBounds_toArray, List.set_cons_zero, List.set_cons_succ]
    all_goals
      first
        | (refine Calm.skip ?_ ?_; focus rfl)
        | (refine Calm.pure (v := ?_) (by rfl) ?_ ?_
           rotate_left
           focus (intro w hSw; go_simp <;> rfl))
      simp only [Act.put, List.setIfInBounds_toArray, List.set_cons_zero, List.set_cons_succ]
    all_goals
      refine Calm.pure (v := ?_) (by rfl) ?_ ?_
      rotate_left
      focus (intro w hSw; go_simp <;> rfl)
      simp only [Act.put, List.setIfInBounds_toArray, List.set_cons_zero, List.set_cons_succ]
    all_goals
      refine Calm.pure (v := ?_) (by rfl) ?_ ?_
      rotate_left
      focus (intro w hSw; go_simp <;> rfl)
      simp only [Act.put, List.setIfInBounds_toArray, List.set_cons_zero, List.set_cons_succ]
    rintro w9 ⟨_, _, _, hbel9⟩
    go_wp2
    go_ret
    refine ⟨?_, hbel9⟩
    first
      | (simp [*]; done)
      | (simp [*]; omega)

/-- What Has tells. -/
def hs (v : List Int) (p s : Int) : Bool := wi p 1 12 && (decide (1 ≤ s) && decide (s ≤ v.getD p.toNat 0))
theorem refHas_any (v : List Int) (p s : Int) (w : World) (hv : v.length = 13) : Calls Try.prog 17 #[V v, D p s] w (Tells (.bool (hs v p s)) w) := by
  by_cases hp : 1 ≤ p ∧ p ≤ 12
  · obtain ⟨n, rfl⟩ : ∃ n : Nat, p = n := ⟨p.toNat, by omega⟩
    refine (refHas_peer v n s w hv (by omega) (by omega)).mono fun e w' ⟨he, hb⟩ => ⟨?_, hb⟩
    rw [he]
    unfold hs wi
    rw [decide_eq_true hp.1, decide_eq_true hp.2]
    simp
  · refine (refHas_not v p s w hp).mono fun e w' ⟨he, hb⟩ => ⟨?_, hb⟩
    rw [he]
    have : wi p 1 12 = false := by unfold wi; grind
    unfold hs
    rw [this]
    rfl
end Go.Proofs.Ytcebchjokmampaa
/- Before of package ops, and of the document's answer. -/
namespace Go.Proofs.Ytcebchjokmampaa
open Go.RowKit

/-- What Before tells. -/
def bf (p s i : Int) (q u : Int) (v : List Int) (idx : Int) : Bool := decide (1 ≤ i) && (((decide (p = q) && decide (s = u)) && decide (i < idx)) || hs v p s)
theorem info23 {v : List Int} (h : v.length = 13) : (Try.prog.info? 23).map (·.size) = some (vals v).length := by rw [vals_length, h]; exact size23
theorem two_rows (w : World) (c1 : Array Value) (t1 : TypeId) (c2 : Array Value) (t2 : TypeId) : Rw ((w.alloc (.cells c1 t1)).alloc (.cells c2 t2)) w.heap.size t1 c1 ∧ Rw ((w.alloc (.cells c1 t1)).alloc (.cells c2 t2)) (w.heap.size + 1) t2 c2 ∧ Below w.heap.size w ((w.alloc (.cells c1 t1)).alloc (.cells c2 t2)) :=
  ⟨(rw_new w t1 c1).alloc _, rw_next _ (by simp) t2 c2, bel_alloc (bel_alloc (Below.refl _ _) _) _⟩
theorem mk_dot {w : World} {b : Nat} {p s i : Int} (h : Rw w b 55 #[.int .i64 p, .int .i64 s, .int .i64 i]) : w.rangeAt b 0 [.int .i64 p, .int .i64 s] := h.range 0 _ fun j u hu => by
  rw [Nat.zero_add]
  match j with
  | 0 => simpa using hu
  | 1 => simpa using hu
  | j + 2 => simp at hu

set_option maxHeartbeats 2000000 in
set_option maxRecDepth 100000 in
theorem refBefore_any (p s i : Int) (q u : Int) (v : List Int) (t : Int) (sl : Value) (idx : Int) (w : World) (hv : v.length = 13) : Calls Try.prog 38 #[MV p s i, TxV q u v t sl, .int .i64 idx] w (Tells (.bool (bf p s i q u v idx)) w) := by
  unfold bf
  have E := fun w => eq_dot w p s q u
  generalize (decide (p = q) && decide (s = u)) = x at E ⊢
  have C := fun w => refHas_any v p s w hv
  generalize hs v p s = y at C ⊢
  obtain ⟨R0, R1, hbel⟩ := two_rows w #[.int .i64 p, .int .i64 s, .int .i64 i] 55 (txc q u v t sl).toArray 43
  have z3 := info23 hv
  have c0 : ((w.alloc (.cells #[.int .i64 p, .int .i64 s, .int .i64 i] 55)).alloc (.cells (txc q u v t sl).toArray 43)).cell? ⟨w.heap.size, 0, none⟩ = some (.int .i64 p) := R0.cell 0
  have c1 : ((w.alloc (.cells #[.int .i64 p, .int .i64 s, .int .i64 i] 55)).alloc (.cells (txc q u v t sl).toArray 43)).cell? ⟨w.heap.size, 1, none⟩ = some (.int .i64 s) := R0.cell 1
  have c2 : ((w.alloc (.cells #[.int .i64 p, .int .i64 s, .int .i64 i] 55)).alloc (.cells (txc q u v t sl).toArray 43)).cell? ⟨w.heap.size, 2, none⟩ = some (.int .i64 i) := R0.cell 2
  have d0 := tx_p R1
  have d1 := tx_s R1
  generalize hW : (w.alloc (.cells #[.int .i64 p, .int .i64 s, .int .i64 i] 55)).alloc (.cells (txc q u v t sl).toArray 43) = w0 at R1 hbel c0 c1 c2 d0 d1
  clear R0
  cases x
  · by_cases hi : 1 ≤ i
    · go_enter Try.func38, Try.ntmps38
      go_wp2_with (first | refine load_m 23 _ rfl rfl _ _ rfl (tx_vec R1) Try.underlying23 rfl z3 ?_)
      refine (C _).mono ?_
      rintro e w1 ⟨rfl, hb1⟩
      replace hbel := below_on hbel hb1
      clear hb1
      go_wp2_with fail
      go_ret
      refine tells_bool ?_ hbel
      clear R1 hbel c0 c1 c2 d0 d1 hW C
      first | rfl | (simp_all; done) | grind
    · go_enter Try.func38, Try.ntmps38
      go_wp2_with fail
      go_ret
      refine tells_bool ?_ hbel
      clear R1 hbel c0 c1 c2 d0 d1 hW C
      first | rfl | (simp_all; done) | grind
  · by_cases hj : i < idx
    · by_cases hi : 1 ≤ i
      · go_enter Try.func38, Try.ntmps38
        go_wp2_with fail
        go_ret
        refine tells_bool ?_ hbel
        clear R1 hbel c0 c1 c2 d0 d1 hW C
        first | rfl | (simp_all; done) | grind
      · go_enter Try.func38, Try.ntmps38
        go_wp2_with fail
        go_ret
        refine tells_bool ?_ hbel
        clear R1 hbel c0 c1 c2 d0 d1 hW C
        first | rfl | (simp_all; done) | grind
    · by_cases hi : 1 ≤ i
      · go_enter Try.func38, Try.ntmps38
        go_wp2_with (first | refine load_m 23 _ rfl rfl _ _ rfl (tx_vec R1) Try.underlying23 rfl z3 ?_)
        refine (C _).mono ?_
        rintro e w1 ⟨rfl, hb1⟩
        replace hbel := below_on hbel hb1
        clear hb1
        go_wp2_with fail
        go_ret
        refine tells_bool ?_ hbel
        clear R1 hbel c0 c1 c2 d0 d1 hW C
        first | rfl | (simp_all; done) | grind
      · go_enter Try.func38, Try.ntmps38
        go_wp2_with fail
        go_ret
        refine tells_bool ?_ hbel
        clear R1 hbel c0 c1 c2 d0 d1 hW C
        first | rfl | (simp_all; done) | grind
end Go.Proofs.Ytcebchjokmampaa
/- withoutUsed and withoutName of package ops. -/
namespace Go.Proofs.Ytcebchjokmampaa
open Go.RowKit
/-- What withoutUsed tells, and leaves. -/
def uOk (d act n : Int) (text : ByteArray) (pl : Int) : Bool :=
  if d = 1 ∧ act = 1 then wi n (-1073741824) 1073741824
  else if d = 5 ∧ act = 2 then wi pl 0 1048576
  else if d = 5 ∧ act = 4 then wi pl 0 1048576 && decide ((text.size : Int) ≤ 64)
  else if (d = 2 ∧ act = 3) ∨ (d = 3 ∧ act = 3) ∨ (d = 4 ∧ act = 1) ∨ (d = 4 ∧ act = 2) then decide ((text.size : Int) ≤ 64)
  else decide (d = 6 ∧ act = 5)
def uN (d act n : Int) : Int := if d = 1 ∧ act = 1 then 0 else n
def uP (d act pl : Int) : Int := if d = 5 ∧ (act = 2 ∨ act = 4) then 0 else pl
def uT (d act : Int) (text : ByteArray) : ByteArray := if (d = 5 ∧ act = 4) ∨ (d = 2 ∧ act = 3) ∨ (d = 3 ∧ act = 3) ∨ (d = 4 ∧ act = 1) ∨ (d = 4 ∧ act = 2) then noS else text

theorem uv_eq {k : Int} {key field : ByteArray} {inner act n n' : Int} {text t' : ByteArray} {pl p' : Int} (hn : n = n') (ht : text = t') (hp : pl = p') : UV k key field inner act n text pl = UV k key field inner act n' t' p' := by subst hn ht hp; rfl
end Go.Proofs.Ytcebchjokmampaa
/- CheckUpdate of package ops. -/
namespace Go.Proofs.Ytcebchjokmampaa
open Go.RowKit

/-- What CheckUpdate tells. -/
def cu (k : Int) (key field : ByteArray) (inner act n : Int) (text : ByteArray) (pl : Int) : Bool :=
  uOk (dk k inner act) act n text pl && (wi key.size 1 64 && (!decide (k = 6) || (wi field.size 1 64 && wi inner 1 5))) &&
  (decide ((if k = 6 then noS else field) = noS) && decide ((if k = 6 then 0 else inner) = 0) && decide (uN (dk k inner act) act n = 0) && decide (uT (dk k inner act) act text = noS) && decide (uP (dk k inner act) act pl = 0))

end Go.Proofs.Ytcebchjokmampaa
/- CheckOp of package ops. -/
namespace Go.Proofs.Ytcebchjokmampaa
open Go.RowKit

/-- What checkRoster tells. -/
def crost (key field : ByteArray) (inner act n : Int) (text : ByteArray) (p s i : Int) : Bool :=
  wi act 1 2 && wi n 1 12 && (decide (key = noS) && decide (field = noS) && decide (inner = 0) && decide (text = noS) && z3 p s i)
/-- What checkRef tells. -/
def isRef (p s i : Int) : Bool := wi i 1 16 && (z2 p s || (wi p 1 12 && wi s 1 1048576))
def cref (d act p s i : Int) : Bool := if d = 5 ∧ act = 4 then z3 p s i || isRef p s i else if d = 5 ∧ act = 2 then isRef p s i else z3 p s i
/-- What CheckOp tells. -/
def co (k : Int) (key field : ByteArray) (inner act n : Int) (text : ByteArray) (p s i : Int) : Bool :=
  if k = 7 then crost key field inner act n text p s i else cref (dk k inner act) act p s i && cu k key field inner act n text 0
end Go.Proofs.Ytcebchjokmampaa
/- CheckUpdate of the document's answer. -/
namespace Go.Proofs.Ytcebchjokmampaa
open Go.RowKit

theorem leaves_bool {x y : Bool} {w : World} (h : x = y) : Leaves (.bool y) w (.returned (.bool x)) w := ⟨by rw [h], rfl⟩
def fit (k act n : Int) : Bool :=
  if k = 1 then decide (act = 1) && wi n (-1073741824) 1073741824
  else if k = 2 ∨ k = 3 then decide (act = 3) && decide (n = 0)
  else if k = 4 then (decide (act = 1) || decide (act = 2)) && decide (n = 0)
  else if k = 5 then (decide (act = 4) || decide (act = 2)) && decide (n = 0)
  else false
def txt (k act : Int) (s : ByteArray) : Bool := if k = 1 ∨ act = 5 ∨ (k = 5 ∧ act = 2) then decide (s = noS) else decide ((s.size : Int) ≤ 64)
set_option maxHeartbeats 1000000 in
set_option maxRecDepth 100000 in
theorem fits_any (k act n : Int) (w : World) : Calls Try.prog 43 #[.int .i64 k, .int .i64 act, .int .i64 n] w (Leaves (.bool (fit k act n)) w) := by
  obtain ⟨z, HZ⟩ : ∃ z, Hid (fit k act n = z) := ⟨_, rfl⟩
  rw [HZ.out]
  go_enter Try.func43, Try.ntmps43
  go_wp2
  all_goals
    go_ret
    refine leaves_bool ?_
    have hz := HZ.out
    unfold fit wi at hz
    rw [← hz]
    clear hz HZ
    first | rfl | grind
set_option maxHeartbeats 1000000 in
set_option maxRecDepth 100000 in
theorem texts_any (k act : Int) (s : ByteArray) (w : World) : Calls Try.prog 44 #[.int .i64 k, .int .i64 act, .string s] w (Leaves (.bool (txt k act s)) w) := by
  obtain ⟨z, HZ⟩ : ∃ z, Hid (txt k act s = z) := ⟨_, rfl⟩
  rw [HZ.out]
  go_enter Try.func44, Try.ntmps44
  go_wp2
  all_goals
    go_ret
    refine leaves_bool ?_
    have hz := HZ.out
    unfold txt at hz
    rw [← hz]
    clear hz HZ
    first | rfl | grind [tl_nil]
end Go.Proofs.Ytcebchjokmampaa
/- CheckUpdate of the document's answer. -/
namespace Go.Proofs.Ytcebchjokmampaa
open Go.RowKit

set_option maxRecDepth 100000 in
theorem named_l (s : ByteArray) (w : World) : Calls Try.prog 42 #[.string s] w (Leaves (.bool (wi s.size 1 64)) w) := by
  unfold wi
  go_enter Try.func42, Try.ntmps42
  go_wp2
  all_goals
    go_ret
    refine leaves_bool ?_
    first | (simp_all; done) | grind
set_option maxRecDepth 100000 in
theorem places_l (leaf act : Int) (w : World) : Calls Try.prog 40 #[.int .i64 leaf, .int .i64 act] w (Leaves (.bool (decide (leaf = 5) && !decide (act = 5))) w) := by
  go_enter Try.func40, Try.ntmps40
  go_wp2
  all_goals
    go_ret
    refine leaves_bool ?_
    first | (simp_all; done) | grind
/-- The leaf's kind, and what shape tells. -/
def lf (k inner : Int) : Int := if k = 6 then inner else k
def shp (k : Int) (key field : ByteArray) (inner act n : Int) (text : ByteArray) : Bool :=
  wi k 1 6 && wi key.size 1 64 && (if k = 6 then wi field.size 1 64 && wi inner 1 5 && (if act = 5 then decide (n = 0) && decide (text = noS) else fit inner act n && txt inner act text) else decide (field = noS) && decide (inner = 0) && (fit k act n && txt k act text))
/-- What shape answers. -/
def ShPost (z : Bool) (y : Int) (w : World) (e : Ending) (w' : World) : Prop := ∃ l b, e = .returned (.tuple #[.int .i64 l, .bool b]) ∧ b = z ∧ (b = true → l = y) ∧ w' = w
set_option maxHeartbeats 1000000 in
set_option maxRecDepth 100000 in
theorem shape_any (k : Int) (key field : ByteArray) (inner act n : Int) (text : ByteArray) (w : World) : Calls Try.prog 39 #[.int .i64 k, .string key, .string field, .int .i64 inner, .int .i64 act, .int .i64 n, .string text] w (ShPost (shp k key field inner act n text) (lf k inner) w) := by
  obtain ⟨z, HZ⟩ : ∃ z, Hid (shp k key field inner act n text = z) := ⟨_, rfl⟩
  obtain ⟨y, HY⟩ : ∃ y, Hid (lf k inner = y) := ⟨_, rfl⟩
  rw [HZ.out, HY.out]
  go_enter Try.func39, Try.ntmps39
  go_wp2_with (first | (refine (named_l _ _).mono ?_; rintro e w1 ⟨rfl, rfl⟩) | (refine (fits_any _ _ _ _).mono ?_; rintro e w1 ⟨rfl, rfl⟩) | (refine (texts_any _ _ _ _).mono ?_; rintro e w1 ⟨rfl, rfl⟩))
  all_goals
    go_ret2
    refine ⟨_, _, rfl, ?_, ?_, rfl⟩
    focus
      have hz := HZ.out
      unfold shp at hz
      rw [← hz]
      clear hz HZ HY
      first | rfl | grind [tl_nil, wi]
    focus
      have hz := HY.out
      unfold lf at hz
      rw [← hz]
      clear hz HZ HY
      first | rfl | grind

set_option maxHeartbeats 1000000 in
/-- The document's CheckUpdate and the program's are one. -/
theorem cu_eq (k : Int) (key field : ByteArray) (inner act n : Int) (text : ByteArray) (pl : Int) :
    (shp k key field inner act n text && (if lf k inner = 5 ∧ act ≠ 5 then wi pl 0 1048576 else decide (pl = 0))) = cu k key field inner act n text pl := by
  have hs : text = noS → (text.size : Int) ≤ 64 := fun h => by subst h; decide
  unfold cu shp lf uOk uN uT uP dk fit txt wi
  by_cases hk : 1 ≤ k ∧ k ≤ 6
  · have hk' : k = 1 ∨ k = 2 ∨ k = 3 ∨ k = 4 ∨ k = 5 ∨ k = 6 := by omega
    rcases hk' with rfl | rfl | rfl | rfl | rfl | rfl
    case inr.inr.inr.inr.inr =>
      by_cases hi : 1 ≤ inner ∧ inner ≤ 5
      · have hi' : inner = 1 ∨ inner = 2 ∨ inner = 3 ∨ inner = 4 ∨ inner = 5 := by omega
        rcases hi' with rfl | rfl | rfl | rfl | rfl <;> grind
      · grind
    all_goals grind
  · grind

end Go.Proofs.Ytcebchjokmampaa
/- CheckOp of the document's answer. -/
namespace Go.Proofs.Ytcebchjokmampaa
open Go.RowKit

set_option maxHeartbeats 1000000 in
/-- The document's CheckOp and the program's are one. -/
theorem co_eq (k : Int) (key field : ByteArray) (inner act n : Int) (text : ByteArray) (p s i : Int) :
    (if k = 7 then crost key field inner act n text p s i else shp k key field inner act n text && (if lf k inner = 5 ∧ act ≠ 5 then isRef p s i || (z3 p s i && decide (act = 4)) else z3 p s i)) = co k key field inner act n text p s i := by
  unfold co
  by_cases h7 : k = 7
  · rw [if_pos h7, if_pos h7]
  · rw [if_neg h7, if_neg h7, ← cu_eq]
    have e : (if lf k inner = 5 ∧ act ≠ 5 then wi 0 0 1048576 else decide ((0 : Int) = 0)) = true := by split <;> rfl
    rw [e, Bool.and_true]
    cases hs : shp k key field inner act n text
    · simp
    · rw [Bool.true_and, Bool.and_true]
      have h2 : fit (lf k inner) act n = true ∨ act = 5 := by
        unfold shp at hs
        unfold lf
        grind
      have h3 : lf k inner = 5 → act = 4 ∨ act = 2 ∨ act = 5 := by
        intro h
        rw [h] at h2
        unfold fit at h2
        grind
      unfold cref dk lf at *
      grind

set_option maxHeartbeats 1000000 in
set_option maxRecDepth 100000 in
theorem refOp_any (k : Int) (key field : ByteArray) (inner act n : Int) (text : ByteArray) (p s i : Int) (w : World) : Calls Try.prog 37 #[OV k key field inner act n text p s i] w (Tells (.bool (co k key field inner act n text p s i)) w) := by
  rw [← co_eq]
  obtain ⟨z, HZ⟩ : ∃ z, Hid ((if k = 7 then crost key field inner act n text p s i else shp k key field inner act n text && (if lf k inner = 5 ∧ act ≠ 5 then isRef p s i || (z3 p s i && decide (act = 4)) else z3 p s i)) = z) := ⟨_, rfl⟩
  rw [HZ.out]
  by_cases h7 : k = 7
  · have HZ2 : Hid (crost key field inner act n text p s i = z) := by
      have := HZ.out
      rw [if_pos h7] at this
      exact this
    clear HZ
    subst h7
    go_enter Try.func37, Try.ntmps37
    go_wp2
    all_goals
      go_ret
      refine tells_bool ?_ ?_
      focus
        have hz := HZ2.out
        unfold crost z3 wi at hz
        rw [← hz]
        clear hz HZ2
        first | rfl | grind [tl_nil]
      repeat refine bel_alloc ?_ _
      exact Below.refl _ _
  · have HZ2 : Hid ((shp k key field inner act n text && (if lf k inner = 5 ∧ act ≠ 5 then isRef p s i || (z3 p s i && decide (act = 4)) else z3 p s i)) = z) := by
      have := HZ.out
      rw [if_neg h7] at this
      exact this
    clear HZ
    go_enter Try.func37, Try.ntmps37
    go_wp2_with fail
    refine (shape_any _ _ _ _ _ _ _ _).mono ?_
    rintro e w1 ⟨l, b, rfl, hb, hl, rfl⟩
    rw [← hb] at HZ2
    clear hb
    cases b
    · clear hl
      go_wp2
      go_ret
      refine tells_bool ?_ (bel_alloc (bel_alloc (Below.refl _ _) _) _)
      have hz := HZ2.out
      rw [← hz]
      rfl
    · obtain rfl := hl rfl
      clear hl
      generalize lf k inner = y at HZ2 ⊢
      go_wp2
      all_goals
        go_ret
        refine tells_bool ?_ ?_
        focus
          have hz := HZ2.out
          unfold isRef z3 z2 wi at hz
          rw [← hz]
          clear hz HZ2
          first | rfl | grind
        repeat refine bel_alloc ?_ _
        exact Below.refl _ _
end Go.Proofs.Ytcebchjokmampaa
/- checkSeen of package ops, rest of the document's answer. -/
namespace Go.Proofs.Ytcebchjokmampaa
open Go.RowKit

/-- All of a row, with their places. -/
def allB (f : Nat → O → Bool) : Nat → List O → Bool
  | _, [] => true
  | k, o :: l => f k o && allB f (k + 1) l
theorem allB_iff (f : Nat → O → Bool) : ∀ (l : List O) (k : Nat), allB f k l = true ↔ ∀ i (h : i < l.length), f (k + i) l[i] = true
  | [], _ => by simp [allB]
  | o :: l, k => by
    rw [allB, Bool.and_eq_true, allB_iff f l (k + 1)]
    constructor
    · rintro ⟨h1, h2⟩ i hi
      match i with
      | 0 => simpa using h1
      | i + 1 =>
        have := h2 i (by simpa using hi)
        simpa [Nat.add_assoc, Nat.add_comm 1 i] using this
    · intro h
      refine ⟨by have h0 := h 0 (by simp); simp only [Nat.add_zero, List.getElem_cons_zero] at h0; exact h0, fun i hi => ?_⟩
      have := h (i + 1) (by simpa using hi)
      simpa [Nat.add_assoc, Nat.add_comm 1 i] using this
/-- An op of a transaction that may be, at its place. -/
def gd (p s : Int) (v : List Int) (i : Nat) (x : O) : Bool := co x.k x.key x.field x.inner x.act x.n x.text x.p x.s x.i && (z3 x.p x.s x.i || bf x.p x.s x.i p s v ((i : Int) + 1))
/-- What checkSeen tells. -/
def sn (p s : Int) (v : List Int) (t : Int) (l : List O) : Bool := chk v && wi t 1 1099511627776 && decide (l.length ≤ 16) && allB (gd p s v) 0 l
section
variable {p s : Int} {v : List Int} {k : Nat} {x : O}
theorem gd_ref (ha : co x.k x.key x.field x.inner x.act x.n x.text x.p x.s x.i = true) (hb : (decide (x.p = 0) && decide (x.s = 0) && decide (x.i = 0)) = true) : gd p s v k x = true := by
  unfold gd z3
  rw [ha, hb]
  rfl
theorem gd_bef (ha : co x.k x.key x.field x.inner x.act x.n x.text x.p x.s x.i = true) (hc : bf x.p x.s x.i p s v ((k : Int) + 1) = true) : gd p s v k x = true := by
  unfold gd
  rw [ha, hc, Bool.or_true]
  rfl
theorem gd_not (ha : co x.k x.key x.field x.inner x.act x.n x.text x.p x.s x.i = false) : gd p s v k x = false := by
  unfold gd
  rw [ha, Bool.false_and]
theorem gd_none (hb : (decide (x.p = 0) && decide (x.s = 0) && decide (x.i = 0)) = false) (hc : bf x.p x.s x.i p s v ((k : Int) + 1) = false) : gd p s v k x = false := by
  unfold gd z3
  rw [hb, hc, Bool.or_false, Bool.and_false]
theorem all_not {l : List O} {z : Bool} (HZ : Hid (allB (gd p s v) 0 l = z)) (hlt : k < l.length) (HX : Hid (l[k] = x)) (h : gd p s v k x = false) : Hid (z = false) := by
  show z = false
  have hz := HZ.out
  cases z
  · rfl
  · exfalso
    have hz2 := (allB_iff _ l 0).1 hz k hlt
    rw [Nat.zero_add, HX.out, h] at hz2
    cases hz2
end
theorem ok_next {p s : Int} {v : List Int} {l : List O} {k : Nat} (H : Hid (∀ i (h : i < l.length), i < k → gd p s v i l[i] = true)) (hlt : k < l.length) (h : gd p s v k l[k] = true) : Hid (∀ i (h : i < l.length), i < k + 1 → gd p s v i l[i] = true) := by
  show ∀ i (h : i < l.length), i < k + 1 → gd p s v i l[i] = true
  intro i hi hik
  by_cases e : i = k
  · subst e; exact h
  · exact H.out i hi (by omega)
theorem op_ref {w : World} {b : Nat} {x : O} (h : Rw w b 57 #[.int .i64 x.k, .string x.key, .string x.field, .int .i64 x.inner, .int .i64 x.act, .int .i64 x.n, .string x.text, .int .i64 x.p, .int .i64 x.s, .int .i64 x.i]) : w.rangeAt b 7 [.int .i64 x.p, .int .i64 x.s, .int .i64 x.i] := h.range 7 _ fun j u hu => by
  match j with
  | 0 => simpa using hu
  | 1 => simpa using hu
  | 2 => simpa using hu
  | j + 3 => simp at hu
end Go.Proofs.Ytcebchjokmampaa
/- checkSeen of package ops. -/
namespace Go.Proofs.Ytcebchjokmampaa
open Go.RowKit

end Go.Proofs.Ytcebchjokmampaa
/- Calls within a region that draws its order, whose contracts ask for S. Nothing of one program. -/
namespace Go.Proofs.Ytcebchjokmampaa.Calm

section
variable {P : Program} {ops : Array Oper} {S : World → Prop} {K : Act → Prop}
theorem call1s {o : Oper} {l : List Oper} {a : Act} {r x : Value} {f : FuncId} {ts : Array TypeId} {u : Operand} (hw : Region.wanted o (yielded ops a.tmps) = true)
    (ho : o.op = .call { callee := .value (.func f), args := #[u], argTypes := ts }) (hu : a.eval u = x) (hf : enters P f = true) (hs : Stays S)
    (hc : ∀ w, S w → Calls P f #[x] w fun e w' => e = .returned r ∧ RowKit.Below w.heap.size w w')
    (h : calmList P ops S K l (a.put o.dst r)) : calmList P ops S K (o :: l) a :=
  call (f := f) (args := #[x]) hw (fun w => by
    have e : ∀ args, (callFunc f args).run P w = .ok (.enter f args) w := fun args => enters_run hf args w
    subst hu
    unfold execOp
    simp [ho, go_sem, Act.eval, e]) (fun w hS => (hc w hS).mono fun e w' he => ⟨he.1, hs w w' hS he.2⟩) h
theorem call2s {o : Oper} {l : List Oper} {a : Act} {r x y : Value} {f : FuncId} {ts : Array TypeId} {u v : Operand} (hw : Region.wanted o (yielded ops a.tmps) = true)
    (ho : o.op = .call { callee := .value (.func f), args := #[u, v], argTypes := ts }) (hu : a.eval u = x) (hv : a.eval v = y) (hf : enters P f = true) (hs : Stays S)
    (hc : ∀ w, S w → Calls P f #[x, y] w fun e w' => e = .returned r ∧ RowKit.Below w.heap.size w w')
    (h : calmList P ops S K l (a.put o.dst r)) : calmList P ops S K (o :: l) a :=
  call (f := f) (args := #[x, y]) hw (fun w => by
    have e : ∀ args, (callFunc f args).run P w = .ok (.enter f args) w := fun args => enters_run hf args w
    subst hu
    subst hv
    unfold execOp
    simp [ho, go_sem, Act.eval, e]) (fun w hS => (hc w hS).mono fun e w' he => ⟨he.1, hs w w' hS he.2⟩) h
end
end Go.Proofs.Ytcebchjokmampaa.Calm
/- Calls of three and four arguments within a region that draws its order, whose contracts ask for S. Nothing of one program. -/
namespace Go.Proofs.Ytcebchjokmampaa.Calm

section
variable {P : Program} {ops : Array Oper} {S : World → Prop} {K : Act → Prop}
theorem call3s {o : Oper} {l : List Oper} {a : Act} {r x y z : Value} {f : FuncId} {ts : Array TypeId} {u v t : Operand} (hw : Region.wanted o (yielded ops a.tmps) = true)
    (ho : o.op = .call { callee := .value (.func f), args := #[u, v, t], argTypes := ts }) (hu : a.eval u = x) (hv : a.eval v = y) (ht : a.eval t = z) (hf : enters P f = true) (hs : Stays S)
    (hc : ∀ w, S w → Calls P f #[x, y, z] w fun e w' => e = .returned r ∧ RowKit.Below w.heap.size w w')
    (h : calmList P ops S K l (a.put o.dst r)) : calmList P ops S K (o :: l) a :=
  call (f := f) (args := #[x, y, z]) hw (fun w => by
    have e : ∀ args, (callFunc f args).run P w = .ok (.enter f args) w := fun args => enters_run hf args w
    subst hu
    subst hv
    subst ht
    unfold execOp
    simp [ho, go_sem, Act.eval, e]) (fun w hS => (hc w hS).mono fun e w' he => ⟨he.1, hs w w' hS he.2⟩) h
theorem call4s {o : Oper} {l : List Oper} {a : Act} {r x y z q : Value} {f : FuncId} {ts : Array TypeId} {u v t s : Operand} (hw : Region.wanted o (yielded ops a.tmps) = true)
    (ho : o.op = .call { callee := .value (.func f), args := #[u, v, t, s], argTypes := ts }) (hu : a.eval u = x) (hv : a.eval v = y) (ht : a.eval t = z) (hq : a.eval s = q) (hf : enters P f = true) (hs : Stays S)
    (hc : ∀ w, S w → Calls P f #[x, y, z, q] w fun e w' => e = .returned r ∧ RowKit.Below w.heap.size w w')
    (h : calmList P ops S K l (a.put o.dst r)) : calmList P ops S K (o :: l) a :=
  call (f := f) (args := #[x, y, z, q]) hw (fun w => by
    have e : ∀ args, (callFunc f args).run P w = .ok (.enter f args) w := fun args => enters_run hf args w
    subst hu
    subst hv
    subst ht
    subst hq
    unfold execOp
    simp [ho, go_sem, Act.eval, e]) (fun w hS => (hc w hS).mono fun e w' he => ⟨he.1, hs w w' hS he.2⟩) h
end
end Go.Proofs.Ytcebchjokmampaa.Calm
/- CheckTx and CheckOpen of package ops, and of the document's answer. -/
namespace Go.Proofs.Ytcebchjokmampaa
open Go.RowKit

/-- What CheckTx, CheckOpen tell. -/
def ct (p s : Int) (v : List Int) (t : Int) (l : List O) : Bool := (wi p 1 12 && wi s 1 1048576) && decide (v.getD p.toNat 0 < s) && decide (1 ≤ l.length) && sn p s v t l
def cop (p s : Int) (v : List Int) (t : Int) (l : List O) : Bool := (decide (p = 0) && decide (s = 0)) && sn p s v t l
theorem OHas.slice {w : World} {sl : Value} {l : List O} (h : OHas w sl l) : ∃ q c, sl = .slice q l.length c := by
  obtain ⟨q, c, e, _⟩ := h
  exact ⟨q, c, e⟩
theorem zd (p s : Int) : (Try.prog.info? 40).map (·.size) = some [Value.int .i64 p, Value.int .i64 s].length := size40
theorem Calm.loadW {ops : Array Oper} {S : World → Prop} {K : Act → Prop} {o : Oper} {l : List Oper} {a : Act} {b : Nat} {cs : Array Value} (t : TypeId) {d : TypeDesc} (hu : Try.prog.underlying t = some d) (hd : d.isRow = true) (hi : (Try.prog.info? t).map (·.size) = some cs.size) (hw : Region.wanted o (yielded ops a.tmps) = true) (x : Operand) (ho : o.op = .load t x)
    (hx : a.eval x = .pointer (some ⟨b, 0, none⟩)) (hS : ∀ w, S w → Rw w b t cs) (h : Calm.calmList Try.prog ops S K l (a.put o.dst (.agg cs))) : Calm.calmList Try.prog ops S K (o :: l) a :=
  Calm.pure hw (fun w hw' => by
    unfold execOp
    simp only [ho, hx, Sem.run_bind, (hS w hw').loadAt hd hu hi, Result.andThen_ok, Sem.run_pure]) h

end Go.Proofs.Ytcebchjokmampaa
