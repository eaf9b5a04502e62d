import Derived.Test.YtmcajjdijjcpkaaP22
/- The functions kid and leq of the document's answer. -/
namespace Go.Proofs.Ytmcajjdijjcpkaa
open Go.RowKit

theorem lift_k0 (a : EV) (n : Int) : h0 (lift a n) = lift (k0 a) (n + a.n) := by
  rcases a with ⟨m, ⟨⟩ | ⟨x, y⟩⟩
  · simp [h0, k0, lift, Int.add_comm]
  · rw [h0_lift, h0, lift_lift, Int.add_comm m n]
    rfl
theorem lift_k1 (a : EV) (n : Int) : h1 (lift a n) = lift (k1 a) (n + a.n) := by
  rcases a with ⟨m, ⟨⟩ | ⟨x, y⟩⟩
  · simp [h1, k1, lift, Int.add_comm]
  · rw [h1_lift, h1, lift_lift, Int.add_comm m n]
    rfl
set_option maxHeartbeats 1000000 in
set_option maxRecDepth 100000 in
theorem kid0_leaf (n : Int) (p : Option Addr) (c : Nat) (w : World) : Calls Try.prog 98 #[TV n p 0 c, .int .i64 0] w (Tells (TV 0 none 0 0) w) := by
  obtain ⟨b1, b2, hbel⟩ := two_box w n p 0 c 0 none 0 0 _ rfl
  have g1 := b1.cell1
  have R := below_setRow hbel (g := w.heap.size + 1) (by omega) #[.int .i64 0, .slice none 0 0]
  clear hbel
  go_enter Try.func98, Try.ntmps98
  go_wp2_with (refine store_t rfl _ _ rfl _ 0 none 0 0 rfl rfl b2 ?_)
  exact bodyPost_ret (results_t rfl rfl (b2.row _ _ _ _)) rfl ⟨rfl, R⟩
set_option maxHeartbeats 1000000 in
set_option maxRecDepth 100000 in
theorem kid0_node (n : Int) (g o c : Nat) (n0 : Int) (p0 : Option Addr) (l0 c0 : Nat) (w : World) (t0 : Tat w g o n0 p0 l0 c0) : Calls Try.prog 98 #[TV n (some ⟨g, o, none⟩) 2 c, .int .i64 0] w (Tells (TV n0 p0 l0 c0) w) := by
  obtain ⟨b1, b2, hbel⟩ := two_box w n (some ⟨g, o, none⟩) 2 c 0 none 0 0 _ rfl
  have g1 := b1.cell1
  replace t0 := t0.later hbel
  have R := below_setRow hbel (g := w.heap.size + 1) (by omega) #[.int .i64 n0, .slice p0 l0 c0]
  clear hbel
  go_enter Try.func98, Try.ntmps98
  go_wp2_with (first | refine load_t _ rfl rfl _ _ rfl t0 ?_ | refine store_t rfl _ _ rfl _ n0 p0 l0 c0 rfl rfl b2 ?_)
  exact bodyPost_ret (results_t rfl rfl (b2.row _ _ _ _)) rfl ⟨rfl, R⟩
theorem kid0_val {w : World} {x : EV} {n : Int} {p : Option Addr} {l c : Nat} (h : Is w x (TV n p l c)) : ∃ n0 p0 l0 c0, Is w (k0 x) (TV n0 p0 l0 c0) ∧ ∀ w1, Below w.heap.size w w1 → Calls Try.prog 98 #[TV n p l c, .int .i64 0] w1 (Tells (TV n0 p0 l0 c0) w1) := by
  rcases x with ⟨m, _ | ⟨x, y⟩⟩
  · obtain ⟨_, _, e⟩ := h
    simp at e
    obtain ⟨rfl, rfl, rfl, rfl⟩ := e
    exact ⟨0, none, 0, 0, is_leaf _ _ _ _, fun w1 _ => kid0_leaf n p c w1⟩
  · obtain ⟨g, o, cc, n0, p0, l0, c0, n1, p1, l1, c1, e, t0, t1, hx, hy⟩ := h
    simp at e
    obtain ⟨rfl, rfl, rfl, rfl⟩ := e
    exact ⟨n0, p0, l0, c0, hx, fun w1 hb => kid0_node n g o c n0 p0 l0 c0 w1 (t0.later hb)⟩
set_option maxHeartbeats 1000000 in
set_option maxRecDepth 100000 in
theorem kid1_leaf (n : Int) (p : Option Addr) (c : Nat) (w : World) : Calls Try.prog 98 #[TV n p 0 c, .int .i64 1] w (Tells (TV 0 none 0 0) w) := by
  obtain ⟨b1, b2, hbel⟩ := two_box w n p 0 c 0 none 0 0 _ rfl
  have g1 := b1.cell1
  have R := below_setRow hbel (g := w.heap.size + 1) (by omega) #[.int .i64 0, .slice none 0 0]
  clear hbel
  go_enter Try.func98, Try.ntmps98
  go_wp2_with (refine store_t rfl _ _ rfl _ 0 none 0 0 rfl rfl b2 ?_)
  exact bodyPost_ret (results_t rfl rfl (b2.row _ _ _ _)) rfl ⟨rfl, R⟩
set_option maxHeartbeats 1000000 in
set_option maxRecDepth 100000 in
theorem kid1_node (n : Int) (g o c : Nat) (n0 : Int) (p0 : Option Addr) (l0 c0 : Nat) (w : World) (t0 : Tat w g (o + 2) n0 p0 l0 c0) : Calls Try.prog 98 #[TV n (some ⟨g, o, none⟩) 2 c, .int .i64 1] w (Tells (TV n0 p0 l0 c0) w) := by
  obtain ⟨b1, b2, hbel⟩ := two_box w n (some ⟨g, o, none⟩) 2 c 0 none 0 0 _ rfl
  have g1 := b1.cell1
  replace t0 := t0.later hbel
  have R := below_setRow hbel (g := w.heap.size + 1) (by omega) #[.int .i64 n0, .slice p0 l0 c0]
  clear hbel
  go_enter Try.func98, Try.ntmps98
  go_wp2_with (first | refine load_t _ rfl rfl _ _ rfl t0 ?_ | refine store_t rfl _ _ rfl _ n0 p0 l0 c0 rfl rfl b2 ?_)
  exact bodyPost_ret (results_t rfl rfl (b2.row _ _ _ _)) rfl ⟨rfl, R⟩
theorem kid1_val {w : World} {x : EV} {n : Int} {p : Option Addr} {l c : Nat} (h : Is w x (TV n p l c)) : ∃ n0 p0 l0 c0, Is w (k1 x) (TV n0 p0 l0 c0) ∧ ∀ w1, Below w.heap.size w w1 → Calls Try.prog 98 #[TV n p l c, .int .i64 1] w1 (Tells (TV n0 p0 l0 c0) w1) := by
  rcases x with ⟨m, _ | ⟨x, y⟩⟩
  · obtain ⟨_, _, e⟩ := h
    simp at e
    obtain ⟨rfl, rfl, rfl, rfl⟩ := e
    exact ⟨0, none, 0, 0, is_leaf _ _ _ _, fun w1 _ => kid1_leaf n p c w1⟩
  · obtain ⟨g, o, cc, n0, p0, l0, c0, n1, p1, l1, c1, e, t0, t1, hx, hy⟩ := h
    simp at e
    obtain ⟨rfl, rfl, rfl, rfl⟩ := e
    exact ⟨n1, p1, l1, c1, hy, fun w1 hb => kid1_node n g o c n1 p1 l1 c1 w1 (t1.later hb)⟩

set_option maxHeartbeats 8000000 in
set_option maxRecDepth 100000 in
theorem rleq_step (X Y : Bool) (n m : Int) (na : Int) (pa : Option Addr) (la ca : Nat) (nb : Int) (pb : Option Addr) (lb cb : Nat) (na0 : Int) (pa0 : Option Addr) (la0 ca0 : Nat) (na1 : Int) (pa1 : Option Addr) (la1 ca1 : Nat) (nb0 : Int) (pb0 : Option Addr) (lb0 cb0 : Nat) (nb1 : Int) (pb1 : Option Addr) (lb1 cb1 : Nat) (w : World) (hl : ¬ (la = 0 ∧ lb = 0))
    (b1 : 0 ≤ n + na ∧ n + na ≤ 1073741824) (b2 : 0 ≤ m + nb ∧ m + nb ≤ 1073741824)
    (q0a : ∀ w1, Below w.heap.size w w1 → Calls Try.prog 98 #[TV na pa la ca, .int .i64 0] w1 (Tells (TV na0 pa0 la0 ca0) w1)) (q1a : ∀ w1, Below w.heap.size w w1 → Calls Try.prog 98 #[TV na pa la ca, .int .i64 1] w1 (Tells (TV na1 pa1 la1 ca1) w1)) (q0b : ∀ w1, Below w.heap.size w w1 → Calls Try.prog 98 #[TV nb pb lb cb, .int .i64 0] w1 (Tells (TV nb0 pb0 lb0 cb0) w1)) (q1b : ∀ w1, Below w.heap.size w w1 → Calls Try.prog 98 #[TV nb pb lb cb, .int .i64 1] w1 (Tells (TV nb1 pb1 lb1 cb1) w1))
    (r0 : ∀ w1, Below w.heap.size w w1 → Calls Try.prog 86 #[TV na0 pa0 la0 ca0, .int .i64 (n + na), TV nb0 pb0 lb0 cb0, .int .i64 (m + nb)] w1 (Tells (.bool X) w1))
    (r1 : ∀ w1, Below w.heap.size w w1 → Calls Try.prog 86 #[TV na1 pa1 la1 ca1, .int .i64 (n + na), TV nb1 pb1 lb1 cb1, .int .i64 (m + nb)] w1 (Tells (.bool Y) w1)) :
    Calls Try.prog 86 #[TV na pa la ca, .int .i64 n, TV nb pb lb cb, .int .i64 m] w (Tells (.bool (X && Y)) w) := by
  obtain ⟨h1, h2, hbel⟩ := two_box w na pa la ca nb pb lb cb _ rfl
  have HL : Hid ((((la : Int) == 0) && ((lb : Int) == 0)) = false) := by show _ = _; rw [Bool.eq_false_iff]; simpa using hl
  have hw1 : IntKind.i64.wrap (n + na) = n + na := by rw [IntKind.wrap_i64]; omega
  have hw2 : IntKind.i64.wrap (m + nb) = m + nb := by rw [IntKind.wrap_i64]; omega
  clear hl
  have g0 := h1.cell0
  have g1 := h2.cell0
  go_enter Try.func86, Try.ntmps86
  go_wp2_with fail
  have hs : Calm.Stays (fun w' => w'.cell? ⟨w.heap.size, 0, none⟩ = some (.int .i64 na) ∧ w'.cell? ⟨w.heap.size + 1, 0, none⟩ = some (.int .i64 nb) ∧ Bx w' w.heap.size na pa la ca ∧ Bx w' (w.heap.size + 1) nb pb lb cb ∧ Below w.heap.size w w') := fun wa wb h hb => ⟨cell_later hb h.1, cell_later hb h.2.1, h.2.2.1.later hb, h.2.2.2.1.later hb, below_on h.2.2.2.2 hb⟩
  refine Calm.region (by kernel_rfl) (by kernel_rfl) (fun w' => w'.cell? ⟨w.heap.size, 0, none⟩ = some (.int .i64 na) ∧ w'.cell? ⟨w.heap.size + 1, 0, none⟩ = some (.int .i64 nb) ∧ Bx w' w.heap.size na pa la ca ∧ Bx w' (w.heap.size + 1) nb pb lb cb ∧ Below w.heap.size w w') ⟨g0, g1, h1, h2, hbel.drew⟩ ?_
  clear h1 h2 hbel g0 g1
  all_goals
    refine Calm.pure (v := ?_) (by rfl) ?_ ?_
    rotate_left
    focus (intro w hSw; go_simp <;> rfl)
    simp only [Act.put, List.setIfInBounds_toArray, List.set_cons_zero, List.set_cons_succ]
  all_goals
    refine Calm.pure (v := ?_) (by rfl) ?_ ?_
    rotate_left
    focus (intro w hSw; go_simp <;> rfl)
    simp only [Act.put, List.setIfInBounds_toArray, List.set_cons_zero, List.set_cons_succ]
  all_goals
    refine Calm.pure (v := ?_) (by rfl) ?_ ?_
    rotate_left
    focus (intro w hSw; go_simp <;> rfl)
    simp only [Act.put, List.setIfInBounds_toArray, List.set_cons_zero, List.set_cons_succ]
  all_goals
    refine Calm.pure (v := ?_) (by rfl) ?_ ?_
    rotate_left
    focus (intro w hSw; go_simp <;> rfl)
    simp only [Act.put, List.setIfInBounds_toArray, List.set_cons_zero, List.set_cons_succ]
  all_goals
    refine Calm.pure (v := ?_) (by rfl) ?_ ?_
    rotate_left
    focus (intro w hSw; go_simp <;> rfl)
    simp only [Act.put, List.setIfInBounds_toArray, List.set_cons_zero, List.set_cons_succ]
  all_goals
    refine Calm.pure (v := ?_) (by rfl) ?_ ?_
    rotate_left
    focus (intro w hSw; go_simp <;> rfl)
    simp only [Act.put, List.setIfInBounds_toArray, List.set_cons_zero, List.set_cons_succ]
  all_goals
    refine Calm.pure (v := ?_) (by rfl) ?_ ?_
    rotate_left
    focus (intro w hSw; go_simp <;> rfl)
    simp only [Act.put, List.setIfInBounds_toArray, List.set_cons_zero, List.set_cons_succ]
  all_goals
    refine Calm.pure (v := ?_) (by rfl) ?_ ?_
    rotate_left
    focus (intro w hSw; go_simp <;> rfl)
    simp only [Act.put, List.setIfInBounds_toArray, List.set_cons_zero, List.set_cons_succ]
  all_goals
    refine Calm.pure (v := ?_) (by rfl) ?_ ?_
    rotate_left
    focus (intro w hSw; go_simp <;> rfl)
    simp only [Act.put, List.setIfInBounds_toArray, List.set_cons_zero, List.set_cons_succ]
  all_goals
    refine Calm.pure (v := ?_) (by rfl) ?_ ?_
    rotate_left
    focus (intro w hSw; go_simp <;> rfl)
    simp only [Act.put, List.setIfInBounds_toArray, List.set_cons_zero, List.set_cons_succ]
  rintro w9 ⟨_, _, h1, h2, hbel⟩
  clear hs
  have g2 := h1.cell1
  have g3 := h2.cell1
  clear hw1 hw2
  cases hla : ((la : Int) == 0)
  · clear HL
    go_wp2_with fail
    clear g2 g3 hla
    have hs : Calm.Stays (fun w' => Tat w' w.heap.size 0 na pa la ca ∧ Tat w' (w.heap.size + 1) 0 nb pb lb cb ∧ Below w.heap.size w w') := fun wa wb h hb => ⟨h.1.later hb, h.2.1.later hb, below_on h.2.2 hb⟩
    refine Calm.region (by kernel_rfl) (by kernel_rfl) (fun w' => Tat w' w.heap.size 0 na pa la ca ∧ Tat w' (w.heap.size + 1) 0 nb pb lb cb ∧ Below w.heap.size w w') ⟨h1.tat, h2.tat, hbel.drew⟩ ?_
    clear h1 h2 hbel
    all_goals
      refine Calm.loadT (by rfl) _ rfl rfl (fun _ h => by go_split_ands; assumption) ?_
      simp only [Act.put, List.setIfInBounds_toArray, List.set_cons_zero, List.set_cons_succ]
    all_goals
      refine Calm.call2s (by rfl) rfl rfl rfl (by kernel_rfl) hs (fun w1 h => q0a w1 h.2.2) ?_
      simp only [Act.put, List.setIfInBounds_toArray, List.set_cons_zero, List.set_cons_succ]
    all_goals
      refine Calm.pure (v := ?_) (by rfl) ?_ ?_
      rotate_left
      focus (intro w hSw; go_simp <;> rfl)
      simp only [Act.put, List.setIfInBounds_toArray, List.set_cons_zero, List.set_cons_succ]
    all_goals
      refine Calm.loadT (by rfl) _ rfl rfl (fun _ h => by go_split_ands; assumption) ?_
      simp only [Act.put, List.setIfInBounds_toArray, List.set_cons_zero, List.set_cons_succ]
    all_goals
      refine Calm.call2s (by rfl) rfl rfl rfl (by kernel_rfl) hs (fun w1 h => q0b w1 h.2.2) ?_
      simp only [Act.put, List.setIfInBounds_toArray, List.set_cons_zero, List.set_cons_succ]
    all_goals
      refine Calm.pure (v := ?_) (by rfl) ?_ ?_
      rotate_left
      focus (intro w hSw; go_simp <;> rfl)
      simp only [Act.put, List.setIfInBounds_toArray, List.set_cons_zero, List.set_cons_succ]
    all_goals
      refine Calm.call4s (by rfl) rfl rfl rfl rfl rfl (by kernel_rfl) hs (fun w1 h => r0 w1 h.2.2) ?_
      simp only [Act.put, List.setIfInBounds_toArray, List.set_cons_zero, List.set_cons_succ]
    cases X
    all_goals
      refine Calm.pure (v := ?_) (by rfl) ?_ ?_
      rotate_left
      focus (intro w hSw; go_simp <;> rfl)
      simp only [Act.put, List.setIfInBounds_toArray, List.set_cons_zero, List.set_cons_succ]
    all_goals
      first
        | (refine Calm.skip ?_ ?_; focus rfl)
        | (refine Calm.loadT (by rfl) _ rfl rfl (fun _ h => by go_split_ands; assumption) ?_)
      simp only [Act.put, List.setIfInBounds_toArray, List.set_cons_zero, List.set_cons_succ]
    all_goals
      first
        | (refine Calm.skip ?_ ?_; focus rfl)
        | (refine Calm.call2s (by rfl) rfl rfl rfl (by kernel_rfl) hs (fun w1 h => q1a w1 h.2.2) ?_)
      simp only [Act.put, List.setIfInBounds_toArray, List.set_cons_zero, List.set_cons_succ]
    all_goals
      first
        | (refine Calm.skip ?_ ?_; focus rfl)
        | (refine Calm.pure (v := ?_) (by rfl) ?_ ?_
           rotate_left
           focus (intro w hSw; go_simp <;> rfl))
      simp only [Act.put, List.setIfInBounds_toArray, List.set_cons_zero, List.set_cons_succ]
    all_goals
      first
        | (refine Calm.skip ?_ ?_; focus rfl)
        | (refine Calm.loadT (by rfl) _ rfl rfl (fun _ h => by go_split_ands; assumption) ?_)
      simp only [Act.put, List.setIfInBounds_toArray, List.set_cons_zero, List.set_cons_succ]
    all_goals
      first
        | (refine Calm.skip ?_ ?_; focus rfl)
        | (refine Calm.call2s (by rfl) rfl rfl rfl (by kernel_rfl) hs (fun w1 h => q1b w1 h.2.2) ?_)
      simp only [Act.put, List.setIfInBounds_toArray, List.set_cons_zero, List.set_cons_succ]
    all_goals
      first
        | (refine Calm.skip ?_ ?_; focus rfl)
        | (refine Calm.pure (v := ?_) (by rfl) ?_ ?_
           rotate_left
           focus (intro w hSw; go_simp <;> rfl))
      simp only [Act.put, List.setIfInBounds_toArray, List.set_cons_zero, List.set_cons_succ]
    all_goals
      first
        | (refine Calm.skip ?_ ?_; focus rfl)
        | (refine Calm.call4s (by rfl) rfl rfl rfl rfl rfl (by kernel_rfl) hs (fun w1 h => r1 w1 h.2.2) ?_)
      simp only [Act.put, List.setIfInBounds_toArray, List.set_cons_zero, List.set_cons_succ]
    all_goals
      refine Calm.pure (v := ?_) (by rfl) ?_ ?_
      rotate_left
      focus (intro w hSw; go_simp <;> rfl)
      simp only [Act.put, List.setIfInBounds_toArray, List.set_cons_zero, List.set_cons_succ]
    all_goals
      refine Calm.pure (v := ?_) (by rfl) ?_ ?_
      rotate_left
      focus (intro w hSw; go_simp <;> rfl)
      simp only [Act.put, List.setIfInBounds_toArray, List.set_cons_zero, List.set_cons_succ]
    all_goals
      rintro w9 ⟨_, _, hbel9⟩
      go_wp2
      go_ret
      exact ⟨rfl, hbel9⟩
  · have hlb : ((lb : Int) == 0) = false := by have := HL.out; rw [hla] at this; exact this
    clear HL
    go_wp2_with fail
    clear g2 g3 hla hlb
    have hs : Calm.Stays (fun w' => Tat w' w.heap.size 0 na pa la ca ∧ Tat w' (w.heap.size + 1) 0 nb pb lb cb ∧ Below w.heap.size w w') := fun wa wb h hb => ⟨h.1.later hb, h.2.1.later hb, below_on h.2.2 hb⟩
    refine Calm.region (by kernel_rfl) (by kernel_rfl) (fun w' => Tat w' w.heap.size 0 na pa la ca ∧ Tat w' (w.heap.size + 1) 0 nb pb lb cb ∧ Below w.heap.size w w') ⟨h1.tat, h2.tat, hbel.drew⟩ ?_
    clear h1 h2 hbel
    all_goals
      refine Calm.loadT (by rfl) _ rfl rfl (fun _ h => by go_split_ands; assumption) ?_
      simp only [Act.put, List.setIfInBounds_toArray, List.set_cons_zero, List.set_cons_succ]
    all_goals
      refine Calm.call2s (by rfl) rfl rfl rfl (by kernel_rfl) hs (fun w1 h => q0a w1 h.2.2) ?_
      simp only [Act.put, List.setIfInBounds_toArray, List.set_cons_zero, List.set_cons_succ]
    all_goals
      refine Calm.pure (v := ?_) (by rfl) ?_ ?_
      rotate_left
      focus (intro w hSw; go_simp <;> rfl)
      simp only [Act.put, List.setIfInBounds_toArray, List.set_cons_zero, List.set_cons_succ]
    all_goals
      refine Calm.loadT (by rfl) _ rfl rfl (fun _ h => by go_split_ands; assumption) ?_
      simp only [Act.put, List.setIfInBounds_toArray, List.set_cons_zero, List.set_cons_succ]
    all_goals
      refine Calm.call2s (by rfl) rfl rfl rfl (by kernel_rfl) hs (fun w1 h => q0b w1 h.2.2) ?_
      simp only [Act.put, List.setIfInBounds_toArray, List.set_cons_zero, List.set_cons_succ]
    all_goals
      refine Calm.pure (v := ?_) (by rfl) ?_ ?_
      rotate_left
      focus (intro w hSw; go_simp <;> rfl)
      simp only [Act.put, List.setIfInBounds_toArray, List.set_cons_zero, List.set_cons_succ]
    all_goals
      refine Calm.call4s (by rfl) rfl rfl rfl rfl rfl (by kernel_rfl) hs (fun w1 h => r0 w1 h.2.2) ?_
      simp only [Act.put, List.setIfInBounds_toArray, List.set_cons_zero, List.set_cons_succ]
    cases X
    all_goals
      refine Calm.pure (v := ?_) (by rfl) ?_ ?_
      rotate_left
      focus (intro w hSw; go_simp <;> rfl)
      simp only [Act.put, List.setIfInBounds_toArray, List.set_cons_zero, List.set_cons_succ]
    all_goals
      first
        | (refine Calm.skip ?_ ?_; focus rfl)
        | (refine Calm.loadT (by rfl) _ rfl rfl (fun _ h => by go_split_ands; assumption) ?_)
      simp only [Act.put, List.setIfInBounds_toArray, List.set_cons_zero, List.set_cons_succ]
    all_goals
      first
        | (refine Calm.skip ?_ ?_; focus rfl)
        | (refine Calm.call2s (by rfl) rfl rfl rfl (by kernel_rfl) hs (fun w1 h => q1a w1 h.2.2) ?_)
      simp only [Act.put, List.setIfInBounds_toArray, List.set_cons_zero, List.set_cons_succ]
    all_goals
      first
        | (refine Calm.skip ?_ ?_; focus rfl)
        | (refine Calm.pure (v := ?_) (by rfl) ?_ ?_
           rotate_left
           focus (intro w hSw; go_simp <;> rfl))
      simp only [Act.put, List.setIfInBounds_toArray, List.set_cons_zero, List.set_cons_succ]
    all_goals
      first
        | (refine Calm.skip ?_ ?_; focus rfl)
        | (refine Calm.loadT (by rfl) _ rfl rfl (fun _ h => by go_split_ands; assumption) ?_)
      simp only [Act.put, List.setIfInBounds_toArray, List.set_cons_zero, List.set_cons_succ]
    all_goals
      first
        | (refine Calm.skip ?_ ?_; focus rfl)
        | (refine Calm.call2s (by rfl) rfl rfl rfl (by kernel_rfl) hs (fun w1 h => q1b w1 h.2.2) ?_)
      simp only [Act.put, List.setIfInBounds_toArray, List.set_cons_zero, List.set_cons_succ]
    all_goals
      first
        | (refine Calm.skip ?_ ?_; focus rfl)
        | (refine Calm.pure (v := ?_) (by rfl) ?_ ?_
           rotate_left
           focus (intro w hSw; go_simp <;> rfl))
      simp only [Act.put, List.setIfInBounds_toArray, List.set_cons_zero, List.set_cons_succ]
    all_goals
      first
        | (refine Calm.skip ?_ ?_; focus rfl)
        | (refine Calm.call4s (by rfl) rfl rfl rfl rfl rfl (by kernel_rfl) hs (fun w1 h => r1 w1 h.2.2) ?_)
      simp only [Act.put, List.setIfInBounds_toArray, List.set_cons_zero, List.set_cons_succ]
    all_goals
      refine Calm.pure (v := ?_) (by rfl) ?_ ?_
      rotate_left
      focus (intro w hSw; go_simp <;> rfl)
      simp only [Act.put, List.setIfInBounds_toArray, List.set_cons_zero, List.set_cons_succ]
    all_goals
      refine Calm.pure (v := ?_) (by rfl) ?_ ?_
      rotate_left
      focus (intro w hSw; go_simp <;> rfl)
      simp only [Act.put, List.setIfInBounds_toArray, List.set_cons_zero, List.set_cons_succ]
    all_goals
      rintro w9 ⟨_, _, hbel9⟩
      go_wp2
      go_ret
      exact ⟨rfl, hbel9⟩

set_option maxHeartbeats 4000000 in
set_option maxRecDepth 100000 in
theorem rleq_leaf (n m : Int) (na : Int) (pa : Option Addr) (ca : Nat) (nb : Int) (pb : Option Addr) (cb : Nat) (w : World) (b1 : 0 ≤ n + na ∧ n + na ≤ 1073741824) (b2 : 0 ≤ m + nb ∧ m + nb ≤ 1073741824) :
    Calls Try.prog 86 #[TV na pa 0 ca, .int .i64 n, TV nb pb 0 cb, .int .i64 m] w (Tells (.bool (decide (n + na ≤ m + nb))) w) := by
  obtain ⟨h1, h2, hbel⟩ := two_box w na pa 0 ca nb pb 0 cb _ rfl
  have hw1 : IntKind.i64.wrap (n + na) = n + na := by rw [IntKind.wrap_i64]; omega
  have hw2 : IntKind.i64.wrap (m + nb) = m + nb := by rw [IntKind.wrap_i64]; omega
  obtain ⟨z, HZ⟩ : ∃ z, Hid (decide (n + na ≤ m + nb) = z) := ⟨_, rfl⟩
  rw [HZ.out]
  have g0 := h1.cell0
  have g1 := h2.cell0
  go_enter Try.func86, Try.ntmps86
  go_wp2_with fail
  have hs : Calm.Stays (fun w' => w'.cell? ⟨w.heap.size, 0, none⟩ = some (.int .i64 na) ∧ w'.cell? ⟨w.heap.size + 1, 0, none⟩ = some (.int .i64 nb) ∧ Bx w' w.heap.size na pa 0 ca ∧ Bx w' (w.heap.size + 1) nb pb 0 cb ∧ Below w.heap.size w w') := fun wa wb h hb => ⟨cell_later hb h.1, cell_later hb h.2.1, h.2.2.1.later hb, h.2.2.2.1.later hb, below_on h.2.2.2.2 hb⟩
  refine Calm.region (by kernel_rfl) (by kernel_rfl) (fun w' => w'.cell? ⟨w.heap.size, 0, none⟩ = some (.int .i64 na) ∧ w'.cell? ⟨w.heap.size + 1, 0, none⟩ = some (.int .i64 nb) ∧ Bx w' w.heap.size na pa 0 ca ∧ Bx w' (w.heap.size + 1) nb pb 0 cb ∧ Below w.heap.size w w') ⟨g0, g1, h1, h2, hbel.drew⟩ ?_
  clear h1 h2 hbel g0 g1
  all_goals
    refine Calm.pure (v := ?_) (by rfl) ?_ ?_
    rotate_left
    focus (intro w hSw; go_simp <;> rfl)
    simp only [Act.put, List.setIfInBounds_toArray, List.set_cons_zero, List.set_cons_succ]
  all_goals
    refine Calm.pure (v := ?_) (by rfl) ?_ ?_
    rotate_left
    focus (intro w hSw; go_simp <;> rfl)
    simp only [Act.put, List.setIfInBounds_toArray, List.set_cons_zero, List.set_cons_succ]
  all_goals
    refine Calm.pure (v := ?_) (by rfl) ?_ ?_
    rotate_left
    focus (intro w hSw; go_simp <;> rfl)
    simp only [Act.put, List.setIfInBounds_toArray, List.set_cons_zero, List.set_cons_succ]
  all_goals
    refine Calm.pure (v := ?_) (by rfl) ?_ ?_
    rotate_left
    focus (intro w hSw; go_simp <;> rfl)
    simp only [Act.put, List.setIfInBounds_toArray, List.set_cons_zero, List.set_cons_succ]
  all_goals
    refine Calm.pure (v := ?_) (by rfl) ?_ ?_
    rotate_left
    focus (intro w hSw; go_simp <;> rfl)
    simp only [Act.put, List.setIfInBounds_toArray, List.set_cons_zero, List.set_cons_succ]
  all_goals
    refine Calm.pure (v := ?_) (by rfl) ?_ ?_
    rotate_left
    focus (intro w hSw; go_simp <;> rfl)
    simp only [Act.put, List.setIfInBounds_toArray, List.set_cons_zero, List.set_cons_succ]
  all_goals
    refine Calm.pure (v := ?_) (by rfl) ?_ ?_
    rotate_left
    focus (intro w hSw; go_simp <;> rfl)
    simp only [Act.put, List.setIfInBounds_toArray, List.set_cons_zero, List.set_cons_succ]
  all_goals
    refine Calm.pure (v := ?_) (by rfl) ?_ ?_
    rotate_left
    focus (intro w hSw; go_simp <;> rfl)
    simp only [Act.put, List.setIfInBounds_toArray, List.set_cons_zero, List.set_cons_succ]
  all_goals
    refine Calm.pure (v := ?_) (by rfl) ?_ ?_
    rotate_left
    focus (intro w hSw; go_simp <;> rfl)
    simp only [Act.put, List.setIfInBounds_toArray, List.set_cons_zero, List.set_cons_succ]
  all_goals
    refine Calm.pure (v := ?_) (by rfl) ?_ ?_
    rotate_left
    focus (intro w hSw; go_simp <;> rfl)
    simp only [Act.put, List.setIfInBounds_toArray, List.set_cons_zero, List.set_cons_succ]
  rintro w9 ⟨_, _, h1, h2, hbel⟩
  clear hs
  have g2 := h1.cell1
  have g3 := h2.cell1
  clear hw1 hw2
  by_cases hle : n + na ≤ m + nb
  · have HM : Hid (true = z) := by show _ = _; rw [← HZ.out]; simpa using hle
    go_wp2_with fail
    go_ret
    exact ⟨by rw [← HM.out]; rfl, hbel⟩
  · have HM : Hid (false = z) := by show _ = _; rw [← HZ.out]; symm; simpa using hle
    have hld : decide (n + na ≤ m + nb) = false := by simpa using hle
    go_wp2_with fail
    go_ret
    exact ⟨by rw [← HM.out]; rfl, hbel⟩

theorem rleq_any : ∀ (k : Nat) (a b : EV) (n m left : Int) (na : Int) (pa : Option Addr) (la ca : Nat) (nb : Int) (pb : Option Addr) (lb cb : Nat) (w : World), rg (lift a n) k left = true → rg (lift b m) k left = true → left ≤ 1073741824 → Is w a (TV na pa la ca) → Is w b (TV nb pb lb cb) →
    Calls Try.prog 86 #[TV na pa la ca, .int .i64 n, TV nb pb lb cb, .int .i64 m] w (Tells (.bool (leq k (lift a n) (lift b m))) w) := by
  intro k
  induction k with
  | zero =>
    intro a b n m left na pa la ca nb pb lb cb w ra rb hl ha hb
    have ba := rg_n ra
    have bb := rg_n rb
    have ea := leaf_of_depth (show depth a ≤ 0 by have := rg_depth ra; rwa [depth_lift] at this)
    have eb := leaf_of_depth (show depth b ≤ 0 by have := rg_depth rb; rwa [depth_lift] at this)
    rw [lift_n, Int.add_comm] at ba bb
    rw [ea] at ha ⊢
    rw [eb] at hb ⊢
    obtain ⟨_, _, e⟩ := ha
    obtain ⟨_, _, e'⟩ := hb
    simp at e e'
    obtain ⟨rfl, rfl, rfl, rfl⟩ := e
    obtain ⟨rfl, rfl, rfl, rfl⟩ := e'
    have h := rleq_leaf n m a.n pa ca b.n pb cb w (by omega) (by omega)
    rw [show lift (EV.leaf a.n) n = .leaf (n + a.n) by rw [lift, Int.add_comm], show lift (EV.leaf b.n) m = .leaf (m + b.n) by rw [lift, Int.add_comm], leq_leaf]
    exact h
  | succ k ih =>
    intro a b n m left na pa la ca nb pb lb cb w ra rb hl ha hb
    have ba := rg_n ra
    have bb := rg_n rb
    rw [lift_n, ← (is_parts ha).1, Int.add_comm] at ba
    rw [lift_n, ← (is_parts hb).1, Int.add_comm] at bb
    have pa' := (is_parts ha).2
    have pb' := (is_parts hb).2
    by_cases hlf : la = 0 ∧ lb = 0
    · have ea : a = .leaf a.n := by
        rcases a with ⟨n, ⟨⟩ | ⟨_, _⟩⟩
        · rfl
        · rw [pa'] at hlf; exact absurd hlf.1 (by simp [len])
      have eb : b = .leaf b.n := by
        rcases b with ⟨n, ⟨⟩ | ⟨_, _⟩⟩
        · rfl
        · rw [pb'] at hlf; exact absurd hlf.2 (by simp [len])
      obtain ⟨rfl, rfl⟩ := hlf
      have h := rleq_leaf n m na pa ca nb pb cb w (by omega) (by omega)
      rw [ea, eb, show lift (EV.leaf a.n) n = .leaf (n + na) by rw [lift, (is_parts ha).1, Int.add_comm], show lift (EV.leaf b.n) m = .leaf (m + nb) by rw [lift, (is_parts hb).1, Int.add_comm], leq_leaf]
      exact h
    · have ra' := rg_h ra
      have rb' := rg_h rb
      obtain ⟨na0, pa0, la0, ca0, ia0, q0a⟩ := kid0_val ha
      obtain ⟨na1, pa1, la1, ca1, ia1, q1a⟩ := kid1_val ha
      obtain ⟨nb0, pb0, lb0, cb0, ib0, q0b⟩ := kid0_val hb
      obtain ⟨nb1, pb1, lb1, cb1, ib1, q1b⟩ := kid1_val hb
      have ea0 : h0 (lift a n) = lift (k0 a) (n + na) := by rw [(is_parts ha).1, lift_k0]
      have ea1 : h1 (lift a n) = lift (k1 a) (n + na) := by rw [(is_parts ha).1, lift_k1]
      have eb0 : h0 (lift b m) = lift (k0 b) (m + nb) := by rw [(is_parts hb).1, lift_k0]
      have eb1 : h1 (lift b m) = lift (k1 b) (m + nb) := by rw [(is_parts hb).1, lift_k1]
      rw [leq]
      refine rleq_step (leq k (h0 (lift a n)) (h0 (lift b m))) (leq k (h1 (lift a n)) (h1 (lift b m))) n m na pa la ca nb pb lb cb na0 pa0 la0 ca0 na1 pa1 la1 ca1 nb0 pb0 lb0 cb0 nb1 pb1 lb1 cb1 w hlf (by omega) (by omega) q0a q1a q0b q1b (fun w1 hb1 => ?_) (fun w1 hb1 => ?_)
      · rw [ea0] at ra' ⊢
        rw [eb0] at rb' ⊢
        exact ih (k0 a) (k0 b) (n + na) (m + nb) left na0 pa0 la0 ca0 nb0 pb0 lb0 cb0 w1 ra'.1 rb'.1 hl (ia0.later hb1) (ib0.later hb1)
      · rw [ea1] at ra' ⊢
        rw [eb1] at rb' ⊢
        exact ih (k1 a) (k1 b) (n + na) (m + nb) left na1 pa1 la1 ca1 nb1 pb1 lb1 cb1 w1 ra'.2 rb'.2 hl (ia1.later hb1) (ib1.later hb1)
end Go.Proofs.Ytmcajjdijjcpkaa
