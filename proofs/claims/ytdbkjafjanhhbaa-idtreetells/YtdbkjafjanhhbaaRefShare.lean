/- The functions share and Share of the document's answer. -/
import Derived.Test.YtdbkjafjanhhbaaRefCheck
namespace Go.Proofs.Ytdbkjafjanhhbaa
open Go.RowKit

set_option maxHeartbeats 2000000 in
set_option maxRecDepth 100000 in
theorem refShare_node (room z0 z1 : Nat) (g o c : Nat) (n0 : Int) (p0 : Option Addr) (l0 c0 : Nat) (n1 : Int) (p1 : Option Addr) (l1 c1 : Nat) (w : World) (t0 : Tat w g o n0 p0 l0 c0) (t1 : Tat w g (o + 2) n1 p1 l1 c1) (hr : room ≤ 65536) (b0 : z0 ≤ room / 2) (b1 : z1 ≤ room / 2)
    (r0 : ∀ w1, Below w.heap.size w w1 → Calls Try.prog 39 #[TV n0 p0 l0 c0, .int .i64 (room / 2 : Nat)] w1 fun e w' => e = .returned (.int .i64 z0) ∧ Below w1.heap.size w1 w')
    (r1 : ∀ w1, Below w.heap.size w w1 → Calls Try.prog 39 #[TV n1 p1 l1 c1, .int .i64 (room / 2 : Nat)] w1 fun e w' => e = .returned (.int .i64 z1) ∧ Below w1.heap.size w1 w') :
    Calls Try.prog 39 #[TV 0 (some ⟨g, o, none⟩) 2 c, .int .i64 room] w fun e w' => e = .returned (.int .i64 (z0 + z1 : Nat)) ∧ Below w.heap.size w w' := by
  obtain ⟨h1, hbel⟩ := one_box w 0 (some ⟨g, o, none⟩) 2 c _ rfl
  have g1 := h1.cell1
  replace t0 := t0.later hbel
  replace t1 := t1.later hbel
  go_enter Try.func39, Try.ntmps39
  go_wp2_with fail
  have hs : Calm.Stays (fun w' => Tat w' g o n0 p0 l0 c0 ∧ Tat w' g (o + 2) n1 p1 l1 c1 ∧ w'.cell? ⟨w.heap.size, 1, none⟩ = some (.slice (some ⟨g, o, none⟩) 2 c) ∧ Below w.heap.size w w') := fun wa wb h hb => ⟨h.1.later hb, h.2.1.later hb, cell_later hb h.2.2.1, below_on h.2.2.2 hb⟩
  have e2 : IntKind.i64.wrap ((room : Int) / 2) = ((room / 2 : Nat) : Int) := by rw [IntKind.wrap_i64]; omega
  have e3 : IntKind.i64.wrap ((z0 : Int) + (z1 : Int)) = ((z0 + z1 : Nat) : Int) := by rw [IntKind.wrap_i64]; omega
  refine Calm.region (by kernel_rfl) (by kernel_rfl) (fun w' => Tat w' g o n0 p0 l0 c0 ∧ Tat w' g (o + 2) n1 p1 l1 c1 ∧ w'.cell? ⟨w.heap.size, 1, none⟩ = some (.slice (some ⟨g, o, none⟩) 2 c) ∧ Below w.heap.size w w') ⟨t0, t1, g1, hbel.drew⟩ ?_
  all_goals
    refine Calm.pure (v := ?_) (by rfl) ?_ ?_
    rotate_left
    focus (intro w hSw; go_simp <;> rfl)
    simp only [Act.put, List.setIfInBounds_toArray, List.set_cons_zero, List.set_cons_succ]
  all_goals
    refine Calm.pure (v := ?_) (by rfl) ?_ ?_
    rotate_left
    focus (intro w hSw; go_simp <;> rfl)
    simp only [Act.put, List.setIfInBounds_toArray, List.set_cons_zero, List.set_cons_succ]
  all_goals
    refine Calm.pure (v := ?_) (by rfl) ?_ ?_
    rotate_left
    focus (intro w hSw; go_simp <;> rfl)
    simp only [Act.put, List.setIfInBounds_toArray, List.set_cons_zero, List.set_cons_succ]
  all_goals
    refine Calm.loadT (by rfl) _ rfl rfl (fun _ h => by go_split_ands; assumption) ?_
    simp only [Act.put, List.setIfInBounds_toArray, List.set_cons_zero, List.set_cons_succ]
  all_goals
    refine Calm.pure (v := ?_) (by rfl) ?_ ?_
    rotate_left
    focus (intro w hSw; go_simp <;> rfl)
    simp only [Act.put, List.setIfInBounds_toArray, List.set_cons_zero, List.set_cons_succ]
  all_goals
    refine Calm.pure (v := ?_) (by rfl) ?_ ?_
    rotate_left
    focus (intro w hSw; go_simp <;> rfl)
    simp only [Act.put, List.setIfInBounds_toArray, List.set_cons_zero, List.set_cons_succ]
  all_goals
    (try simp only [e2])
    refine Calm.call2s (by rfl) rfl rfl rfl (by kernel_rfl) hs (fun w1 h => r0 w1 h.2.2.2) ?_
    simp only [Act.put, List.setIfInBounds_toArray, List.set_cons_zero, List.set_cons_succ]
  all_goals
    refine Calm.pure (v := ?_) (by rfl) ?_ ?_
    rotate_left
    focus (intro w hSw; go_simp <;> rfl)
    simp only [Act.put, List.setIfInBounds_toArray, List.set_cons_zero, List.set_cons_succ]
  all_goals
    refine Calm.pure (v := ?_) (by rfl) ?_ ?_
    rotate_left
    focus (intro w hSw; go_simp <;> rfl)
    simp only [Act.put, List.setIfInBounds_toArray, List.set_cons_zero, List.set_cons_succ]
  all_goals
    refine Calm.pure (v := ?_) (by rfl) ?_ ?_
    rotate_left
    focus (intro w hSw; go_simp <;> rfl)
    simp only [Act.put, List.setIfInBounds_toArray, List.set_cons_zero, List.set_cons_succ]
  all_goals
    refine Calm.loadT (by rfl) _ rfl rfl (fun _ h => by go_split_ands; assumption) ?_
    simp only [Act.put, List.setIfInBounds_toArray, List.set_cons_zero, List.set_cons_succ]
  all_goals
    refine Calm.pure (v := ?_) (by rfl) ?_ ?_
    rotate_left
    focus (intro w hSw; go_simp <;> rfl)
    simp only [Act.put, List.setIfInBounds_toArray, List.set_cons_zero, List.set_cons_succ]
  all_goals
    refine Calm.pure (v := ?_) (by rfl) ?_ ?_
    rotate_left
    focus (intro w hSw; go_simp <;> rfl)
    simp only [Act.put, List.setIfInBounds_toArray, List.set_cons_zero, List.set_cons_succ]
  all_goals
    (try simp only [e2])
    refine Calm.call2s (by rfl) rfl rfl rfl (by kernel_rfl) hs (fun w1 h => r1 w1 h.2.2.2) ?_
    simp only [Act.put, List.setIfInBounds_toArray, List.set_cons_zero, List.set_cons_succ]
  all_goals
    refine Calm.pure (v := ?_) (by rfl) ?_ ?_
    rotate_left
    focus (intro w hSw; go_simp <;> rfl)
    simp only [Act.put, List.setIfInBounds_toArray, List.set_cons_zero, List.set_cons_succ]
  all_goals
    refine Calm.pure (v := ?_) (by rfl) ?_ ?_
    rotate_left
    focus (intro w hSw; go_simp <;> rfl)
    simp only [Act.put, List.setIfInBounds_toArray, List.set_cons_zero, List.set_cons_succ]
  rintro w9 ⟨_, _, _, hbel9⟩
  go_wp2
  go_ret
  exact ⟨by simp, hbel9⟩

set_option maxHeartbeats 2000000 in
set_option maxRecDepth 100000 in
theorem refShare_any : ∀ (x : ID) (room : Nat) (n : Int) (p : Option Addr) (l c : Nat) (w : World), Is w x (TV n p l c) → room ≤ 65536 →
    Calls Try.prog 39 #[TV n p l c, .int .i64 room] w fun e w' => e = .returned (.int .i64 (own x room)) ∧ Below w.heap.size w w'
  | ⟨.inl b⟩, room, n, p, l, c, w, ⟨_, _, e⟩, hr => by
    simp at e
    obtain ⟨rfl, rfl, rfl, rfl⟩ := e
    obtain ⟨h1, hbel⟩ := one_box w (bi b) p 0 c _ rfl
    have HE : Hid (wrap64 (bi b * room) = (own (.leaf b) room : Nat)) := by
      show _ = _
      cases b
      · simp [own, bi, wrap64]
      · simp only [own, bi, if_true, Int.one_mul, wrap64]
        omega
    have g0 := h1.cell0
    have g1 := h1.cell1
    go_enter Try.func39, Try.ntmps39
    go_wp2
    go_ret
    exact ⟨by rw [← HE.out]; rfl, hbel⟩
  | ⟨.inr (x, y)⟩, room, n, p, l, c, w, ⟨g, o, c', n0, p0, l0, c0, n1, p1, l1, c1, e, t0, t1, hx, hy⟩, hr => by
    simp at e
    obtain ⟨rfl, rfl, rfl, rfl⟩ := e
    exact refShare_node room (own x (room / 2)) (own y (room / 2)) g o c n0 p0 l0 c0 n1 p1 l1 c1 w t0 t1 hr (own_le x _) (own_le y _)
      (fun w1 hb => refShare_any x (room / 2) n0 p0 l0 c0 w1 (hx.later hb) (by omega)) (fun w1 hb => refShare_any y (room / 2) n1 p1 l1 c1 w1 (hy.later hb) (by omega))

set_option maxHeartbeats 2000000 in
set_option maxRecDepth 100000 in
theorem refShare_tr (t : Tr) (n : Int) (p : Option Addr) (l c : Nat) (w : World) (ht : Lies w t (TV n p l c)) : Calls Try.prog 23 #[TV n p l c] w fun e w' => e = .returned (.int .i64 (shareT t)) ∧ Below w.heap.size w w' := by
  obtain ⟨h1, hbel⟩ := one_box w n p l c _ rfl
  have r0 := fun w1 (hb : Below w.heap.size w w1) => refCheck_tr t n p l c w1 (ht.later hb)
  have r1 := fun w1 (hb : Below w.heap.size w w1) (k0 : okT t = true) => refShare_any (idOf t) 65536 n p l c w1 ((is_ok ht k0).later hb) (by omega)
  obtain ⟨z, HZ⟩ : ∃ z, Hid (shareT t = z) := ⟨_, rfl⟩
  rw [HZ.out]
  unfold shareT at HZ
  clear ht
  generalize okT t = b0 at r0 r1 HZ
  generalize own (idOf t) 65536 = s at r1 HZ
  go_enter Try.func23, Try.ntmps23
  go_wp2_with (refine load_t _ rfl rfl _ _ rfl h1.tat ?_)
  refine (r0 _ hbel).mono ?_
  rintro e w1 ⟨rfl, hb1⟩
  replace h1 := h1.later hb1
  replace hbel := below_on hbel hb1
  clear hb1 r0
  cases b0
  · go_wp2
    go_ret
    exact ⟨by rw [← HZ.out]; rfl, hbel⟩
  · go_wp2_with (refine load_t _ rfl rfl _ _ rfl h1.tat ?_)
    refine (r1 _ hbel trivial).mono ?_
    rintro e w2 ⟨rfl, hb1⟩
    go_wp2
    go_ret
    exact ⟨by rw [← HZ.out]; rfl, below_on hbel hb1⟩
end Go.Proofs.Ytdbkjafjanhhbaa
