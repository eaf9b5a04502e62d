/- The functions end, Least and Greatest of the document's answer. -/
import Derived.Test.YtlfbabepbajcjaaRefCheck
namespace Go.Proofs.Ytlfbabepbajcjaa
open Go.RowKit

set_option maxHeartbeats 4000000 in
set_option maxRecDepth 100000 in
theorem endLo_node (X Y : Int) (n : Int) (g o c : Nat) (n0 : Int) (p0 : Option Addr) (l0 c0 : Nat) (n1 : Int) (p1 : Option Addr) (l1 c1 : Nat) (w : World) (t0 : Tat w g o n0 p0 l0 c0) (t1 : Tat w g (o + 2) n1 p1 l1 c1)
    (bx : 0 ≤ X ∧ X ≤ 1073741824) (by_ : 0 ≤ Y ∧ Y ≤ 1073741824) (bn : 0 ≤ n ∧ n ≤ 1073741824)
    (r0 : ∀ w1, Below w.heap.size w w1 → Calls Try.prog 39 #[TV n0 p0 l0 c0, .bool false] w1 (Tells (.int .i64 X) w1)) (r1 : ∀ w1, Below w.heap.size w w1 → Calls Try.prog 39 #[TV n1 p1 l1 c1, .bool false] w1 (Tells (.int .i64 Y) w1)) :
    Calls Try.prog 39 #[TV n (some ⟨g, o, none⟩) 2 c, .bool false] w (Tells (.int .i64 (n + min X Y)) w) := by
  obtain ⟨h1, hbel⟩ := one_box w n (some ⟨g, o, none⟩) 2 c _ rfl
  obtain ⟨z, HZ⟩ : ∃ z, Hid (n + min X Y = z) := ⟨_, rfl⟩
  rw [HZ.out]
  have g1 := h1.cell1
  go_enter Try.func39, Try.ntmps39
  go_wp2_with fail
  clear g1
  have hS : Calm.Stays (fun w' => Bx w' w.heap.size n (some ⟨g, o, none⟩) 2 c ∧ Below w.heap.size w w') := fun wa wb h hb => ⟨h.1.later hb, below_on h.2 hb⟩
  have hF : Facts.Stay [eqF 0 (.pointer (some ⟨w.heap.size, 1, none⟩)), eqF 1 (.slice (some ⟨g, o, none⟩) 2 c), eqF 2 (.pointer (some ⟨g, o, none⟩)), eqF 3 (TV n0 p0 l0 c0), eqF 4 (.bool false), eqF 5 (.int .i64 X), eqF 6 (.pointer (some ⟨w.heap.size, 1, none⟩)), eqF 7 (.slice (some ⟨g, o, none⟩) 2 c), eqF 8 (.pointer (some ⟨g, o + 2, none⟩)), eqF 9 (TV n1 p1 l1 c1), eqF 10 (.bool false), eqF 11 (.int .i64 Y), eqF 12 (.int .i64 X), eqF 13 (.int .i64 Y)] := stay_of (by simp only [List.forall_mem_cons]; exact ⟨eqF_stays _ _, eqF_stays _ _, eqF_stays _ _, eqF_stays _ _, eqF_stays _ _, eqF_stays _ _, eqF_stays _ _, eqF_stays _ _, eqF_stays _ _, eqF_stays _ _, eqF_stays _ _, eqF_stays _ _, eqF_stays _ _, eqF_stays _ _, fun _ h => by cases h⟩)
  refine Facts.region (by kernel_rfl) (by kernel_rfl) (fun w' => Bx w' w.heap.size n (some ⟨g, o, none⟩) 2 c ∧ Below w.heap.size w w') (fun x => { tmps := #[TV n (some ⟨g, o, none⟩) 2 c, .bool false, .pointer (some ⟨w.heap.size, 0, none⟩), undef, .int .i64 0, x 12, x 13, .pointer (some ⟨w.heap.size, 1, none⟩), .slice (some ⟨g, o, none⟩) 2 c, .int .i64 2, .bool false, undef, undef, x 0, x 1, x 2, x 3, x 4, x 5, x 6, x 7, x 8, x 9, x 10, x 11, undef, undef, undef, undef, undef, undef, undef, undef, undef, undef, undef, undef, undef], defers := [] }) [eqF 0 (.pointer (some ⟨w.heap.size, 1, none⟩)), eqF 1 (.slice (some ⟨g, o, none⟩) 2 c), eqF 2 (.pointer (some ⟨g, o, none⟩)), eqF 3 (TV n0 p0 l0 c0), eqF 4 (.bool false), eqF 5 (.int .i64 X), eqF 6 (.pointer (some ⟨w.heap.size, 1, none⟩)), eqF 7 (.slice (some ⟨g, o, none⟩) 2 c), eqF 8 (.pointer (some ⟨g, o + 2, none⟩)), eqF 9 (TV n1 p1 l1 c1), eqF 10 (.bool false), eqF 11 (.int .i64 Y), eqF 12 (.int .i64 X), eqF 13 (.int .i64 Y)] _ rfl (by kernel_rfl) (fun _ => undef) rfl (⟨h1, hbel.drew⟩) ⟨?_, ?_, ?_, ?_, ?_, ?_, ?_, ?_, ?_, ?_, ?_, ?_, ?_, ?_, trivial⟩ ?_
  · exact Facts.pure hS hF (fun _ _ => rfl) rfl (fun x wv hSw hd => by
      go_simp)
  · exact Facts.pure hS hF (fun _ _ => rfl) rfl (fun x wv hSw hd => by
      have d0 := eqF_get (hd ⟨0, .data⟩ (by simp) rfl _ rfl)
      have g1 := hSw.1.cell1
      simp only [d0]
      go_simp)
  · exact Facts.pure hS hF (fun _ _ => rfl) rfl (fun x wv hSw hd => by
      have d1 := eqF_get (hd ⟨1, .data⟩ (by simp) rfl _ rfl)
      simp only [d1]
      go_simp)
  · exact Facts.loadT hS hF (fun _ _ => rfl) _ rfl rfl (fun x wv hSw hd => by have d2 := eqF_get (hd ⟨2, .data⟩ (by simp) rfl _ rfl); exact d2) (fun wv hSw => t0.later hSw.2)
  · exact Facts.pure hS hF (fun _ _ => rfl) rfl (fun x wv hSw hd => by
      go_simp)
  · refine Facts.call2V hS hF (fun _ _ => rfl) rfl (by kernel_rfl) rfl (fun x wv hSw hd => ?_)
    have d3 := eqF_get (hd ⟨3, .data⟩ (by simp) rfl _ rfl)
    have d4 := eqF_get (hd ⟨4, .data⟩ (by simp) rfl _ rfl)
    have hc := r0 _ hSw.2
    rw [← d3, ← d4] at hc
    exact hc
  · exact Facts.pure hS hF (fun _ _ => rfl) rfl (fun x wv hSw hd => by
      go_simp)
  · exact Facts.pure hS hF (fun _ _ => rfl) rfl (fun x wv hSw hd => by
      have d6 := eqF_get (hd ⟨6, .data⟩ (by simp) rfl _ rfl)
      have g1 := hSw.1.cell1
      simp only [d6]
      go_simp)
  · exact Facts.pure hS hF (fun _ _ => rfl) rfl (fun x wv hSw hd => by
      have d7 := eqF_get (hd ⟨7, .data⟩ (by simp) rfl _ rfl)
      simp only [d7]
      go_simp)
  · exact Facts.loadT hS hF (fun _ _ => rfl) _ rfl rfl (fun x wv hSw hd => by have d8 := eqF_get (hd ⟨8, .data⟩ (by simp) rfl _ rfl); exact d8) (fun wv hSw => t1.later hSw.2)
  · exact Facts.pure hS hF (fun _ _ => rfl) rfl (fun x wv hSw hd => by
      go_simp)
  · refine Facts.call2V hS hF (fun _ _ => rfl) rfl (by kernel_rfl) rfl (fun x wv hSw hd => ?_)
    have d9 := eqF_get (hd ⟨9, .data⟩ (by simp) rfl _ rfl)
    have d10 := eqF_get (hd ⟨10, .data⟩ (by simp) rfl _ rfl)
    have hc := r1 _ hSw.2
    rw [← d9, ← d10] at hc
    exact hc
  · exact Facts.pure hS hF (fun _ _ => rfl) rfl (fun x wv hSw hd => by
      have d5 := eqF_get (hd ⟨5, .data⟩ (by simp) rfl _ rfl)
      simp only [d5]
      go_simp)
  · exact Facts.pure hS hF (fun _ _ => rfl) rfl (fun x wv hSw hd => by
      have d11 := eqF_get (hd ⟨11, .data⟩ (by simp) rfl _ rfl)
      simp only [d11]
      go_simp)
  · rintro xv w9 ⟨h1, hbel9⟩ hf
    have d12 := eqF_get (hf 12 _ (by decide) rfl)
    have d13 := eqF_get (hf 13 _ (by decide) rfl)
    clear hf hS hF r0 r1 t0 t1
    simp only [d12, d13]
    clear d12 d13
    have g0 := h1.cell0
    by_cases hlt : Y < X
    · have HM : Hid (n + Y = z) := by show _ = _; rw [← HZ.out]; omega
      clear HZ
      go_wp2
      go_ret
      exact ⟨by rw [HM.out]; rfl, hbel9⟩
    · have HM : Hid (n + X = z) := by show _ = _; rw [← HZ.out]; omega
      clear HZ
      go_wp2
      go_ret
      exact ⟨by rw [HM.out]; rfl, hbel9⟩

set_option maxHeartbeats 4000000 in
set_option maxRecDepth 100000 in
theorem endLo_leaf (n : Int) (p : Option Addr) (c : Nat) (w : World) : Calls Try.prog 39 #[TV n p 0 c, .bool false] w (Tells (.int .i64 n) w) := by
  obtain ⟨h1, hbel⟩ := one_box w n p 0 c _ rfl
  have g0 := h1.cell0
  have g1 := h1.cell1
  go_enter Try.func39, Try.ntmps39
  go_wp2
  go_ret
  exact ⟨rfl, hbel⟩

theorem endLo_any : ∀ (x : EV) (room : Nat) (left : Int) (n : Int) (p : Option Addr) (l c : Nat) (w : World), Is w x (TV n p l c) → rg x room left = true → left ≤ 1073741824 → Calls Try.prog 39 #[TV n p l c, .bool false] w (Tells (.int .i64 (low x)) w)
  | ⟨m, .inl _⟩, _, _, n, p, l, c, w, ⟨_, _, e⟩, _, _ => by
    simp at e
    obtain ⟨rfl, rfl, rfl, rfl⟩ := e
    exact endLo_leaf n p c w
  | ⟨m, .inr (x, y)⟩, room, left, n, p, l, c, w, ⟨g, o, c', n0, p0, l0, c0, n1, p1, l1, c1, e, t0, t1, hx, hy⟩, hr, hl => by
    simp at e
    obtain ⟨rfl, rfl, rfl, rfl⟩ := e
    obtain ⟨b0, _, b1, b2⟩ := rg_kids hr
    have d1 := rg_high b1
    have d2 := rg_high b2
    exact endLo_node (low x) (low y) n g o c n0 p0 l0 c0 n1 p1 l1 c1 w t0 t1 (by omega) (by omega) (by omega) (fun w1 hb => endLo_any x _ _ _ _ _ _ w1 (hx.later hb) b1 (by omega)) (fun w1 hb => endLo_any y _ _ _ _ _ _ w1 (hy.later hb) b2 (by omega))

set_option maxHeartbeats 4000000 in
set_option maxRecDepth 100000 in
theorem endHi_node (X Y : Int) (n : Int) (g o c : Nat) (n0 : Int) (p0 : Option Addr) (l0 c0 : Nat) (n1 : Int) (p1 : Option Addr) (l1 c1 : Nat) (w : World) (t0 : Tat w g o n0 p0 l0 c0) (t1 : Tat w g (o + 2) n1 p1 l1 c1)
    (bx : 0 ≤ X ∧ X ≤ 1073741824) (by_ : 0 ≤ Y ∧ Y ≤ 1073741824) (bn : 0 ≤ n ∧ n ≤ 1073741824)
    (r0 : ∀ w1, Below w.heap.size w w1 → Calls Try.prog 39 #[TV n0 p0 l0 c0, .bool true] w1 (Tells (.int .i64 X) w1)) (r1 : ∀ w1, Below w.heap.size w w1 → Calls Try.prog 39 #[TV n1 p1 l1 c1, .bool true] w1 (Tells (.int .i64 Y) w1)) :
    Calls Try.prog 39 #[TV n (some ⟨g, o, none⟩) 2 c, .bool true] w (Tells (.int .i64 (n + max X Y)) w) := by
  obtain ⟨h1, hbel⟩ := one_box w n (some ⟨g, o, none⟩) 2 c _ rfl
  obtain ⟨z, HZ⟩ : ∃ z, Hid (n + max X Y = z) := ⟨_, rfl⟩
  rw [HZ.out]
  have g1 := h1.cell1
  go_enter Try.func39, Try.ntmps39
  go_wp2_with fail
  clear g1
  have hS : Calm.Stays (fun w' => Bx w' w.heap.size n (some ⟨g, o, none⟩) 2 c ∧ Below w.heap.size w w') := fun wa wb h hb => ⟨h.1.later hb, below_on h.2 hb⟩
  have hF : Facts.Stay [eqF 0 (.pointer (some ⟨w.heap.size, 1, none⟩)), eqF 1 (.slice (some ⟨g, o, none⟩) 2 c), eqF 2 (.pointer (some ⟨g, o, none⟩)), eqF 3 (TV n0 p0 l0 c0), eqF 4 (.bool true), eqF 5 (.int .i64 X), eqF 6 (.pointer (some ⟨w.heap.size, 1, none⟩)), eqF 7 (.slice (some ⟨g, o, none⟩) 2 c), eqF 8 (.pointer (some ⟨g, o + 2, none⟩)), eqF 9 (TV n1 p1 l1 c1), eqF 10 (.bool true), eqF 11 (.int .i64 Y), eqF 12 (.int .i64 X), eqF 13 (.int .i64 Y)] := stay_of (by simp only [List.forall_mem_cons]; exact ⟨eqF_stays _ _, eqF_stays _ _, eqF_stays _ _, eqF_stays _ _, eqF_stays _ _, eqF_stays _ _, eqF_stays _ _, eqF_stays _ _, eqF_stays _ _, eqF_stays _ _, eqF_stays _ _, eqF_stays _ _, eqF_stays _ _, eqF_stays _ _, fun _ h => by cases h⟩)
  refine Facts.region (by kernel_rfl) (by kernel_rfl) (fun w' => Bx w' w.heap.size n (some ⟨g, o, none⟩) 2 c ∧ Below w.heap.size w w') (fun x => { tmps := #[TV n (some ⟨g, o, none⟩) 2 c, .bool true, .pointer (some ⟨w.heap.size, 0, none⟩), undef, .int .i64 0, x 12, x 13, .pointer (some ⟨w.heap.size, 1, none⟩), .slice (some ⟨g, o, none⟩) 2 c, .int .i64 2, .bool false, undef, undef, x 0, x 1, x 2, x 3, x 4, x 5, x 6, x 7, x 8, x 9, x 10, x 11, undef, undef, undef, undef, undef, undef, undef, undef, undef, undef, undef, undef, undef], defers := [] }) [eqF 0 (.pointer (some ⟨w.heap.size, 1, none⟩)), eqF 1 (.slice (some ⟨g, o, none⟩) 2 c), eqF 2 (.pointer (some ⟨g, o, none⟩)), eqF 3 (TV n0 p0 l0 c0), eqF 4 (.bool true), eqF 5 (.int .i64 X), eqF 6 (.pointer (some ⟨w.heap.size, 1, none⟩)), eqF 7 (.slice (some ⟨g, o, none⟩) 2 c), eqF 8 (.pointer (some ⟨g, o + 2, none⟩)), eqF 9 (TV n1 p1 l1 c1), eqF 10 (.bool true), eqF 11 (.int .i64 Y), eqF 12 (.int .i64 X), eqF 13 (.int .i64 Y)] _ rfl (by kernel_rfl) (fun _ => undef) rfl (⟨h1, hbel.drew⟩) ⟨?_, ?_, ?_, ?_, ?_, ?_, ?_, ?_, ?_, ?_, ?_, ?_, ?_, ?_, trivial⟩ ?_
  · exact Facts.pure hS hF (fun _ _ => rfl) rfl (fun x wv hSw hd => by
      go_simp)
  · exact Facts.pure hS hF (fun _ _ => rfl) rfl (fun x wv hSw hd => by
      have d0 := eqF_get (hd ⟨0, .data⟩ (by simp) rfl _ rfl)
      have g1 := hSw.1.cell1
      simp only [d0]
      go_simp)
  · exact Facts.pure hS hF (fun _ _ => rfl) rfl (fun x wv hSw hd => by
      have d1 := eqF_get (hd ⟨1, .data⟩ (by simp) rfl _ rfl)
      simp only [d1]
      go_simp)
  · exact Facts.loadT hS hF (fun _ _ => rfl) _ rfl rfl (fun x wv hSw hd => by have d2 := eqF_get (hd ⟨2, .data⟩ (by simp) rfl _ rfl); exact d2) (fun wv hSw => t0.later hSw.2)
  · exact Facts.pure hS hF (fun _ _ => rfl) rfl (fun x wv hSw hd => by
      go_simp)
  · refine Facts.call2V hS hF (fun _ _ => rfl) rfl (by kernel_rfl) rfl (fun x wv hSw hd => ?_)
    have d3 := eqF_get (hd ⟨3, .data⟩ (by simp) rfl _ rfl)
    have d4 := eqF_get (hd ⟨4, .data⟩ (by simp) rfl _ rfl)
    have hc := r0 _ hSw.2
    rw [← d3, ← d4] at hc
    exact hc
  · exact Facts.pure hS hF (fun _ _ => rfl) rfl (fun x wv hSw hd => by
      go_simp)
  · exact Facts.pure hS hF (fun _ _ => rfl) rfl (fun x wv hSw hd => by
      have d6 := eqF_get (hd ⟨6, .data⟩ (by simp) rfl _ rfl)
      have g1 := hSw.1.cell1
      simp only [d6]
      go_simp)
  · exact Facts.pure hS hF (fun _ _ => rfl) rfl (fun x wv hSw hd => by
      have d7 := eqF_get (hd ⟨7, .data⟩ (by simp) rfl _ rfl)
      simp only [d7]
      go_simp)
  · exact Facts.loadT hS hF (fun _ _ => rfl) _ rfl rfl (fun x wv hSw hd => by have d8 := eqF_get (hd ⟨8, .data⟩ (by simp) rfl _ rfl); exact d8) (fun wv hSw => t1.later hSw.2)
  · exact Facts.pure hS hF (fun _ _ => rfl) rfl (fun x wv hSw hd => by
      go_simp)
  · refine Facts.call2V hS hF (fun _ _ => rfl) rfl (by kernel_rfl) rfl (fun x wv hSw hd => ?_)
    have d9 := eqF_get (hd ⟨9, .data⟩ (by simp) rfl _ rfl)
    have d10 := eqF_get (hd ⟨10, .data⟩ (by simp) rfl _ rfl)
    have hc := r1 _ hSw.2
    rw [← d9, ← d10] at hc
    exact hc
  · exact Facts.pure hS hF (fun _ _ => rfl) rfl (fun x wv hSw hd => by
      have d5 := eqF_get (hd ⟨5, .data⟩ (by simp) rfl _ rfl)
      simp only [d5]
      go_simp)
  · exact Facts.pure hS hF (fun _ _ => rfl) rfl (fun x wv hSw hd => by
      have d11 := eqF_get (hd ⟨11, .data⟩ (by simp) rfl _ rfl)
      simp only [d11]
      go_simp)
  · rintro xv w9 ⟨h1, hbel9⟩ hf
    have d12 := eqF_get (hf 12 _ (by decide) rfl)
    have d13 := eqF_get (hf 13 _ (by decide) rfl)
    clear hf hS hF r0 r1 t0 t1
    simp only [d12, d13]
    clear d12 d13
    have g0 := h1.cell0
    by_cases hlt : X < Y
    · have HM : Hid (n + Y = z) := by show _ = _; rw [← HZ.out]; omega
      clear HZ
      go_wp2
      go_ret
      exact ⟨by rw [HM.out]; rfl, hbel9⟩
    · have HM : Hid (n + X = z) := by show _ = _; rw [← HZ.out]; omega
      clear HZ
      go_wp2
      go_ret
      exact ⟨by rw [HM.out]; rfl, hbel9⟩

set_option maxHeartbeats 4000000 in
set_option maxRecDepth 100000 in
theorem endHi_leaf (n : Int) (p : Option Addr) (c : Nat) (w : World) : Calls Try.prog 39 #[TV n p 0 c, .bool true] w (Tells (.int .i64 n) w) := by
  obtain ⟨h1, hbel⟩ := one_box w n p 0 c _ rfl
  have g0 := h1.cell0
  have g1 := h1.cell1
  go_enter Try.func39, Try.ntmps39
  go_wp2
  go_ret
  exact ⟨rfl, hbel⟩

theorem endHi_any : ∀ (x : EV) (room : Nat) (left : Int) (n : Int) (p : Option Addr) (l c : Nat) (w : World), Is w x (TV n p l c) → rg x room left = true → left ≤ 1073741824 → Calls Try.prog 39 #[TV n p l c, .bool true] w (Tells (.int .i64 (high x)) w)
  | ⟨m, .inl _⟩, _, _, n, p, l, c, w, ⟨_, _, e⟩, _, _ => by
    simp at e
    obtain ⟨rfl, rfl, rfl, rfl⟩ := e
    exact endHi_leaf n p c w
  | ⟨m, .inr (x, y)⟩, room, left, n, p, l, c, w, ⟨g, o, c', n0, p0, l0, c0, n1, p1, l1, c1, e, t0, t1, hx, hy⟩, hr, hl => by
    simp at e
    obtain ⟨rfl, rfl, rfl, rfl⟩ := e
    obtain ⟨b0, _, b1, b2⟩ := rg_kids hr
    have d1 := rg_high b1
    have d2 := rg_high b2
    exact endHi_node (high x) (high y) n g o c n0 p0 l0 c0 n1 p1 l1 c1 w t0 t1 (by omega) (by omega) (by omega) (fun w1 hb => endHi_any x _ _ _ _ _ _ w1 (hx.later hb) b1 (by omega)) (fun w1 hb => endHi_any y _ _ _ _ _ _ w1 (hy.later hb) b2 (by omega))

set_option maxHeartbeats 4000000 in
set_option maxRecDepth 100000 in
theorem refLeast_tr (t : Tr) (n : Int) (p : Option Addr) (l c : Nat) (w : World) (h : Lies w t (TV n p l c)) : Calls Try.prog 21 #[TV n p l c] w (Tells (.int .i64 (loT t)) w) := by
  obtain ⟨h1, hbel⟩ := one_box w n p l c _ rfl
  have rC := fun w1 (hb1 : Below w.heap.size w w1) => refCheck_tr t n p l c w1 (h.later hb1)
  have rH := fun w1 (hb1 : Below w.heap.size w w1) (ht : okT t = true) => endLo_any (evOf t) 16 1073741824 n p l c w1 ((ok_of h ht).1.later hb1) (ok_parts (ok_of h ht).2).1 (by omega)
  unfold loT
  generalize okT t = b at rC rH ⊢
  generalize low (evOf t) = v at rH ⊢
  obtain ⟨z, HZ⟩ : ∃ z, Hid ((if b = true then v else 0) = z) := ⟨_, rfl⟩
  rw [HZ.out]
  clear h
  go_enter Try.func21, Try.ntmps21
  go_wp2_with (refine load_t _ rfl rfl _ _ rfl h1.tat ?_)
  refine (rC _ hbel).mono ?_
  rintro e w1 ⟨rfl, hb1⟩
  replace h1 := h1.later hb1
  replace hbel := below_on hbel hb1
  clear hb1 rC
  cases b
  · obtain rfl : z = 0 := by rw [← HZ.out]; rfl
    clear rH
    go_wp2
    go_ret
    exact ⟨rfl, hbel⟩
  · obtain rfl : z = v := by rw [← HZ.out]; rfl
    clear HZ
    go_wp2_with (refine load_t _ rfl rfl _ _ rfl h1.tat ?_)
    refine (rH _ hbel trivial).mono ?_
    rintro e w2 ⟨rfl, hb1⟩
    replace hbel := below_on hbel hb1
    clear hb1 rH h1
    go_wp2
    go_ret
    exact ⟨rfl, hbel⟩

set_option maxHeartbeats 4000000 in
set_option maxRecDepth 100000 in
theorem refGreatest_tr (t : Tr) (n : Int) (p : Option Addr) (l c : Nat) (w : World) (h : Lies w t (TV n p l c)) : Calls Try.prog 23 #[TV n p l c] w (Tells (.int .i64 (hiT t)) w) := by
  obtain ⟨h1, hbel⟩ := one_box w n p l c _ rfl
  have rC := fun w1 (hb1 : Below w.heap.size w w1) => refCheck_tr t n p l c w1 (h.later hb1)
  have rH := fun w1 (hb1 : Below w.heap.size w w1) (ht : okT t = true) => endHi_any (evOf t) 16 1073741824 n p l c w1 ((ok_of h ht).1.later hb1) (ok_parts (ok_of h ht).2).1 (by omega)
  unfold hiT
  generalize okT t = b at rC rH ⊢
  generalize high (evOf t) = v at rH ⊢
  obtain ⟨z, HZ⟩ : ∃ z, Hid ((if b = true then v else 0) = z) := ⟨_, rfl⟩
  rw [HZ.out]
  clear h
  go_enter Try.func23, Try.ntmps23
  go_wp2_with (refine load_t _ rfl rfl _ _ rfl h1.tat ?_)
  refine (rC _ hbel).mono ?_
  rintro e w1 ⟨rfl, hb1⟩
  replace h1 := h1.later hb1
  replace hbel := below_on hbel hb1
  clear hb1 rC
  cases b
  · obtain rfl : z = 0 := by rw [← HZ.out]; rfl
    clear rH
    go_wp2
    go_ret
    exact ⟨rfl, hbel⟩
  · obtain rfl : z = v := by rw [← HZ.out]; rfl
    clear HZ
    go_wp2_with (refine load_t _ rfl rfl _ _ rfl h1.tat ?_)
    refine (rH _ hbel trivial).mono ?_
    rintro e w2 ⟨rfl, hb1⟩
    replace hbel := below_on hbel hb1
    clear hb1 rH h1
    go_wp2
    go_ret
    exact ⟨rfl, hbel⟩

end Go.Proofs.Ytlfbabepbajcjaa
