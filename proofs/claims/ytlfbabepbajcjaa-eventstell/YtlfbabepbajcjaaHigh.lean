/- The functions highest, Least and Greatest of package events. -/
import Derived.Test.YtlfbabepbajcjaaJoin
namespace Go.Proofs.Ytlfbabepbajcjaa
open Go.RowKit

set_option maxHeartbeats 4000000 in
set_option maxRecDepth 100000 in
theorem highest_node (X Y : Int) (n : Int) (g o c : Nat) (n0 : Int) (p0 : Option Addr) (l0 c0 : Nat) (n1 : Int) (p1 : Option Addr) (l1 c1 : Nat) (w : World) (t0 : Tat w g o n0 p0 l0 c0) (t1 : Tat w g (o + 2) n1 p1 l1 c1)
    (bx : 0 ≤ X ∧ X ≤ 1073741824) (by_ : 0 ≤ Y ∧ Y ≤ 1073741824) (bn : 0 ≤ n ∧ n ≤ 1073741824)
    (r0 : ∀ w1, Below w.heap.size w w1 → Calls Try.prog 40 #[TV n0 p0 l0 c0] w1 (Tells (.int .i64 X) w1)) (r1 : ∀ w1, Below w.heap.size w w1 → Calls Try.prog 40 #[TV n1 p1 l1 c1] w1 (Tells (.int .i64 Y) w1)) :
    Calls Try.prog 40 #[TV n (some ⟨g, o, none⟩) 2 c] w (Tells (.int .i64 (n + max X Y)) w) := by
  obtain ⟨h1, hbel⟩ := one_box w n (some ⟨g, o, none⟩) 2 c _ rfl
  obtain ⟨z, HZ⟩ : ∃ z, Hid (n + max X Y = z) := ⟨_, rfl⟩
  rw [HZ.out]
  go_enter Try.func40, Try.ntmps40
  go_wp2_with (refine load_t _ rfl rfl _ _ rfl h1.tat ?_)
  refine (isLeaf_any _ _ 2 c _).mono ?_
  rintro e w1 ⟨rfl, hb1⟩
  replace h1 := h1.later hb1
  replace hbel := below_on hbel hb1
  clear hb1
  go_wp2_with fail
  by_cases hlt : X < Y
  · have HM : Hid (n + Y = z) := by show _ = _; rw [← HZ.out]; omega
    have hw : IntKind.i64.wrap (n + Y) = n + Y := by rw [IntKind.wrap_i64]; omega
    clear HZ bx by_ bn
    have hS : Calm.Stays (fun w' => Bx w' w.heap.size n (some ⟨g, o, none⟩) 2 c ∧ Below w.heap.size w w') := fun wa wb h hb => ⟨h.1.later hb, below_on h.2 hb⟩
    have hF : Facts.Stay [eqF 0 (.pointer (some ⟨w.heap.size, 0, none⟩)), eqF 1 (.int .i64 n), eqF 2 (.pointer (some ⟨w.heap.size, 1, none⟩)), eqF 3 (.slice (some ⟨g, o, none⟩) 2 c), eqF 4 (.pointer (some ⟨g, o, none⟩)), eqF 5 (TV n0 p0 l0 c0), eqF 6 (.int .i64 X), eqF 7 (.pointer (some ⟨w.heap.size, 1, none⟩)), eqF 8 (.slice (some ⟨g, o, none⟩) 2 c), eqF 9 (.pointer (some ⟨g, o + 2, none⟩)), eqF 10 (TV n1 p1 l1 c1), eqF 11 (.int .i64 Y), eqF 12 (.int .i64 Y), eqF 13 (.int .i64 (n + Y)), eqF 14 (.int .i64 (n + Y))] := stay_of (by simp only [List.forall_mem_cons]; exact ⟨eqF_stays _ _, eqF_stays _ _, eqF_stays _ _, eqF_stays _ _, eqF_stays _ _, eqF_stays _ _, eqF_stays _ _, eqF_stays _ _, eqF_stays _ _, eqF_stays _ _, eqF_stays _ _, eqF_stays _ _, eqF_stays _ _, eqF_stays _ _, eqF_stays _ _, fun _ h => by cases h⟩)
    refine Facts.region (by kernel_rfl) (by kernel_rfl) (fun w' => Bx w' w.heap.size n (some ⟨g, o, none⟩) 2 c ∧ Below w.heap.size w w') (fun x => { tmps := #[TV n (some ⟨g, o, none⟩) 2 c, .pointer (some ⟨w.heap.size, 0, none⟩), x 14, TV n (some ⟨g, o, none⟩) 2 c, .bool false, undef, undef, x 0, x 1, x 2, x 3, x 4, x 5, x 6, x 7, x 8, x 9, x 10, x 11, x 12, x 13], defers := [] }) [eqF 0 (.pointer (some ⟨w.heap.size, 0, none⟩)), eqF 1 (.int .i64 n), eqF 2 (.pointer (some ⟨w.heap.size, 1, none⟩)), eqF 3 (.slice (some ⟨g, o, none⟩) 2 c), eqF 4 (.pointer (some ⟨g, o, none⟩)), eqF 5 (TV n0 p0 l0 c0), eqF 6 (.int .i64 X), eqF 7 (.pointer (some ⟨w.heap.size, 1, none⟩)), eqF 8 (.slice (some ⟨g, o, none⟩) 2 c), eqF 9 (.pointer (some ⟨g, o + 2, none⟩)), eqF 10 (TV n1 p1 l1 c1), eqF 11 (.int .i64 Y), eqF 12 (.int .i64 Y), eqF 13 (.int .i64 (n + Y)), eqF 14 (.int .i64 (n + Y))] _ rfl (by kernel_rfl) (fun k => if k = 14 then .int .i64 0 else undef) rfl (⟨h1, hbel.drew⟩) ⟨?_, ?_, ?_, ?_, ?_, ?_, ?_, ?_, ?_, ?_, ?_, ?_, ?_, ?_, ?_, trivial⟩ ?_
    · exact Facts.pure hS hF (fun _ _ => rfl) rfl (fun x wv hSw hd => by
        go_simp)
    · exact Facts.pure hS hF (fun _ _ => rfl) rfl (fun x wv hSw hd => by
        have d0 := eqF_get (hd ⟨0, .data⟩ (by simp) rfl _ rfl)
        have g0 := hSw.1.cell0
        have g1 := hSw.1.cell1
        simp only [d0]
        go_simp)
    · exact Facts.pure hS hF (fun _ _ => rfl) rfl (fun x wv hSw hd => by
        go_simp)
    · exact Facts.pure hS hF (fun _ _ => rfl) rfl (fun x wv hSw hd => by
        have d2 := eqF_get (hd ⟨2, .data⟩ (by simp) rfl _ rfl)
        have g0 := hSw.1.cell0
        have g1 := hSw.1.cell1
        simp only [d2]
        go_simp)
    · exact Facts.pure hS hF (fun _ _ => rfl) rfl (fun x wv hSw hd => by
        have d3 := eqF_get (hd ⟨3, .data⟩ (by simp) rfl _ rfl)
        simp only [d3]
        go_simp)
    · exact Facts.loadT hS hF (fun _ _ => rfl) _ rfl rfl (fun x wv hSw hd => by have d4 := eqF_get (hd ⟨4, .data⟩ (by simp) rfl _ rfl); exact d4) (fun wv hSw => t0.later hSw.2)
    · refine Facts.call1V hS hF (fun _ _ => rfl) rfl (by kernel_rfl) rfl (fun x wv hSw hd => ?_)
      have d5 := eqF_get (hd ⟨5, .data⟩ (by simp) rfl _ rfl)
      have hc := r0 _ hSw.2
      rw [← d5] at hc
      exact hc
    · exact Facts.pure hS hF (fun _ _ => rfl) rfl (fun x wv hSw hd => by
        go_simp)
    · exact Facts.pure hS hF (fun _ _ => rfl) rfl (fun x wv hSw hd => by
        have d7 := eqF_get (hd ⟨7, .data⟩ (by simp) rfl _ rfl)
        have g0 := hSw.1.cell0
        have g1 := hSw.1.cell1
        simp only [d7]
        go_simp)
    · exact Facts.pure hS hF (fun _ _ => rfl) rfl (fun x wv hSw hd => by
        have d8 := eqF_get (hd ⟨8, .data⟩ (by simp) rfl _ rfl)
        simp only [d8]
        go_simp)
    · exact Facts.loadT hS hF (fun _ _ => rfl) _ rfl rfl (fun x wv hSw hd => by have d9 := eqF_get (hd ⟨9, .data⟩ (by simp) rfl _ rfl); exact d9) (fun wv hSw => t1.later hSw.2)
    · refine Facts.call1V hS hF (fun _ _ => rfl) rfl (by kernel_rfl) rfl (fun x wv hSw hd => ?_)
      have d10 := eqF_get (hd ⟨10, .data⟩ (by simp) rfl _ rfl)
      have hc := r1 _ hSw.2
      rw [← d10] at hc
      exact hc
    · exact Facts.pure hS hF (fun _ _ => rfl) rfl (fun x wv hSw hd => by
        have d6 := eqF_get (hd ⟨6, .data⟩ (by simp) rfl _ rfl)
        have d11 := eqF_get (hd ⟨11, .data⟩ (by simp) rfl _ rfl)
        simp only [d6, d11]
        go_simp)
    · exact Facts.pure hS hF (fun _ _ => rfl) rfl (fun x wv hSw hd => by
        have d1 := eqF_get (hd ⟨1, .data⟩ (by simp) rfl _ rfl)
        have d12 := eqF_get (hd ⟨12, .data⟩ (by simp) rfl _ rfl)
        simp only [d1, d12]
        go_simp)
    · exact Facts.pure hS hF (fun _ _ => rfl) rfl (fun x wv hSw hd => by
        have d13 := eqF_get (hd ⟨13, .data⟩ (by simp) rfl _ rfl)
        simp only [d13]
        go_simp)
    · rintro xv w9 ⟨_, hbel9⟩ hf
      have d14 := eqF_get (hf 14 _ (by decide) rfl)
      clear hf hS hF
      simp only [d14]
      go_wp2
      go_ret
      exact ⟨by rw [HM.out]; rfl, hbel9⟩
  · have HM : Hid (n + X = z) := by show _ = _; rw [← HZ.out]; omega
    have hw : IntKind.i64.wrap (n + X) = n + X := by rw [IntKind.wrap_i64]; omega
    clear HZ bx by_ bn
    have hS : Calm.Stays (fun w' => Bx w' w.heap.size n (some ⟨g, o, none⟩) 2 c ∧ Below w.heap.size w w') := fun wa wb h hb => ⟨h.1.later hb, below_on h.2 hb⟩
    have hF : Facts.Stay [eqF 0 (.pointer (some ⟨w.heap.size, 0, none⟩)), eqF 1 (.int .i64 n), eqF 2 (.pointer (some ⟨w.heap.size, 1, none⟩)), eqF 3 (.slice (some ⟨g, o, none⟩) 2 c), eqF 4 (.pointer (some ⟨g, o, none⟩)), eqF 5 (TV n0 p0 l0 c0), eqF 6 (.int .i64 X), eqF 7 (.pointer (some ⟨w.heap.size, 1, none⟩)), eqF 8 (.slice (some ⟨g, o, none⟩) 2 c), eqF 9 (.pointer (some ⟨g, o + 2, none⟩)), eqF 10 (TV n1 p1 l1 c1), eqF 11 (.int .i64 Y), eqF 12 (.int .i64 X), eqF 13 (.int .i64 (n + X)), eqF 14 (.int .i64 (n + X))] := stay_of (by simp only [List.forall_mem_cons]; exact ⟨eqF_stays _ _, eqF_stays _ _, eqF_stays _ _, eqF_stays _ _, eqF_stays _ _, eqF_stays _ _, eqF_stays _ _, eqF_stays _ _, eqF_stays _ _, eqF_stays _ _, eqF_stays _ _, eqF_stays _ _, eqF_stays _ _, eqF_stays _ _, eqF_stays _ _, fun _ h => by cases h⟩)
    refine Facts.region (by kernel_rfl) (by kernel_rfl) (fun w' => Bx w' w.heap.size n (some ⟨g, o, none⟩) 2 c ∧ Below w.heap.size w w') (fun x => { tmps := #[TV n (some ⟨g, o, none⟩) 2 c, .pointer (some ⟨w.heap.size, 0, none⟩), x 14, TV n (some ⟨g, o, none⟩) 2 c, .bool false, undef, undef, x 0, x 1, x 2, x 3, x 4, x 5, x 6, x 7, x 8, x 9, x 10, x 11, x 12, x 13], defers := [] }) [eqF 0 (.pointer (some ⟨w.heap.size, 0, none⟩)), eqF 1 (.int .i64 n), eqF 2 (.pointer (some ⟨w.heap.size, 1, none⟩)), eqF 3 (.slice (some ⟨g, o, none⟩) 2 c), eqF 4 (.pointer (some ⟨g, o, none⟩)), eqF 5 (TV n0 p0 l0 c0), eqF 6 (.int .i64 X), eqF 7 (.pointer (some ⟨w.heap.size, 1, none⟩)), eqF 8 (.slice (some ⟨g, o, none⟩) 2 c), eqF 9 (.pointer (some ⟨g, o + 2, none⟩)), eqF 10 (TV n1 p1 l1 c1), eqF 11 (.int .i64 Y), eqF 12 (.int .i64 X), eqF 13 (.int .i64 (n + X)), eqF 14 (.int .i64 (n + X))] _ rfl (by kernel_rfl) (fun k => if k = 14 then .int .i64 0 else undef) rfl (⟨h1, hbel.drew⟩) ⟨?_, ?_, ?_, ?_, ?_, ?_, ?_, ?_, ?_, ?_, ?_, ?_, ?_, ?_, ?_, trivial⟩ ?_
    · exact Facts.pure hS hF (fun _ _ => rfl) rfl (fun x wv hSw hd => by
        go_simp)
    · exact Facts.pure hS hF (fun _ _ => rfl) rfl (fun x wv hSw hd => by
        have d0 := eqF_get (hd ⟨0, .data⟩ (by simp) rfl _ rfl)
        have g0 := hSw.1.cell0
        have g1 := hSw.1.cell1
        simp only [d0]
        go_simp)
    · exact Facts.pure hS hF (fun _ _ => rfl) rfl (fun x wv hSw hd => by
        go_simp)
    · exact Facts.pure hS hF (fun _ _ => rfl) rfl (fun x wv hSw hd => by
        have d2 := eqF_get (hd ⟨2, .data⟩ (by simp) rfl _ rfl)
        have g0 := hSw.1.cell0
        have g1 := hSw.1.cell1
        simp only [d2]
        go_simp)
    · exact Facts.pure hS hF (fun _ _ => rfl) rfl (fun x wv hSw hd => by
        have d3 := eqF_get (hd ⟨3, .data⟩ (by simp) rfl _ rfl)
        simp only [d3]
        go_simp)
    · exact Facts.loadT hS hF (fun _ _ => rfl) _ rfl rfl (fun x wv hSw hd => by have d4 := eqF_get (hd ⟨4, .data⟩ (by simp) rfl _ rfl); exact d4) (fun wv hSw => t0.later hSw.2)
    · refine Facts.call1V hS hF (fun _ _ => rfl) rfl (by kernel_rfl) rfl (fun x wv hSw hd => ?_)
      have d5 := eqF_get (hd ⟨5, .data⟩ (by simp) rfl _ rfl)
      have hc := r0 _ hSw.2
      rw [← d5] at hc
      exact hc
    · exact Facts.pure hS hF (fun _ _ => rfl) rfl (fun x wv hSw hd => by
        go_simp)
    · exact Facts.pure hS hF (fun _ _ => rfl) rfl (fun x wv hSw hd => by
        have d7 := eqF_get (hd ⟨7, .data⟩ (by simp) rfl _ rfl)
        have g0 := hSw.1.cell0
        have g1 := hSw.1.cell1
        simp only [d7]
        go_simp)
    · exact Facts.pure hS hF (fun _ _ => rfl) rfl (fun x wv hSw hd => by
        have d8 := eqF_get (hd ⟨8, .data⟩ (by simp) rfl _ rfl)
        simp only [d8]
        go_simp)
    · exact Facts.loadT hS hF (fun _ _ => rfl) _ rfl rfl (fun x wv hSw hd => by have d9 := eqF_get (hd ⟨9, .data⟩ (by simp) rfl _ rfl); exact d9) (fun wv hSw => t1.later hSw.2)
    · refine Facts.call1V hS hF (fun _ _ => rfl) rfl (by kernel_rfl) rfl (fun x wv hSw hd => ?_)
      have d10 := eqF_get (hd ⟨10, .data⟩ (by simp) rfl _ rfl)
      have hc := r1 _ hSw.2
      rw [← d10] at hc
      exact hc
    · exact Facts.pure hS hF (fun _ _ => rfl) rfl (fun x wv hSw hd => by
        have d6 := eqF_get (hd ⟨6, .data⟩ (by simp) rfl _ rfl)
        have d11 := eqF_get (hd ⟨11, .data⟩ (by simp) rfl _ rfl)
        simp only [d6, d11]
        go_simp)
    · exact Facts.pure hS hF (fun _ _ => rfl) rfl (fun x wv hSw hd => by
        have d1 := eqF_get (hd ⟨1, .data⟩ (by simp) rfl _ rfl)
        have d12 := eqF_get (hd ⟨12, .data⟩ (by simp) rfl _ rfl)
        simp only [d1, d12]
        go_simp)
    · exact Facts.pure hS hF (fun _ _ => rfl) rfl (fun x wv hSw hd => by
        have d13 := eqF_get (hd ⟨13, .data⟩ (by simp) rfl _ rfl)
        simp only [d13]
        go_simp)
    · rintro xv w9 ⟨_, hbel9⟩ hf
      have d14 := eqF_get (hf 14 _ (by decide) rfl)
      clear hf hS hF
      simp only [d14]
      go_wp2
      go_ret
      exact ⟨by rw [HM.out]; rfl, hbel9⟩

set_option maxHeartbeats 4000000 in
set_option maxRecDepth 100000 in
theorem highest_leaf (n : Int) (p : Option Addr) (c : Nat) (w : World) : Calls Try.prog 40 #[TV n p 0 c] w (Tells (.int .i64 n) w) := by
  obtain ⟨h1, hbel⟩ := one_box w n p 0 c _ rfl
  go_enter Try.func40, Try.ntmps40
  go_wp2_with (refine load_t _ rfl rfl _ _ rfl h1.tat ?_)
  refine (isLeaf_any _ p 0 c _).mono ?_
  rintro e w1 ⟨rfl, hb1⟩
  replace h1 := (h1.later hb1).cell0
  replace hbel := below_on hbel hb1
  clear hb1
  go_wp2
  go_ret
  exact ⟨rfl, hbel⟩

theorem highest_any : ∀ (x : EV) (room : Nat) (left : Int) (n : Int) (p : Option Addr) (l c : Nat) (w : World), Is w x (TV n p l c) → rg x room left = true → left ≤ 1073741824 → Calls Try.prog 40 #[TV n p l c] w (Tells (.int .i64 (high x)) w)
  | ⟨m, .inl _⟩, _, _, n, p, l, c, w, ⟨_, _, e⟩, _, _ => by
    simp at e
    obtain ⟨rfl, rfl, rfl, rfl⟩ := e
    exact highest_leaf n p c w
  | ⟨m, .inr (x, y)⟩, room, left, n, p, l, c, w, ⟨g, o, c', n0, p0, l0, c0, n1, p1, l1, c1, e, t0, t1, hx, hy⟩, hr, hl => by
    simp at e
    obtain ⟨rfl, rfl, rfl, rfl⟩ := e
    obtain ⟨b0, _, b1, b2⟩ := rg_kids hr
    have d1 := rg_high b1
    have d2 := rg_high b2
    exact highest_node (high x) (high y) n g o c n0 p0 l0 c0 n1 p1 l1 c1 w t0 t1 (by omega) (by omega) (by omega) (fun w1 hb => highest_any x _ _ _ _ _ _ w1 (hx.later hb) b1 (by omega)) (fun w1 hb => highest_any y _ _ _ _ _ _ w1 (hy.later hb) b2 (by omega))

/-- What Least and Greatest answer. -/
def loT (t : Tr) : Int := if okT t then low (evOf t) else 0
def hiT (t : Tr) : Int := if okT t then high (evOf t) else 0

set_option maxHeartbeats 4000000 in
set_option maxRecDepth 100000 in
theorem least_tr (t : Tr) (n : Int) (p : Option Addr) (l c : Nat) (w : World) (h : Lies w t (TV n p l c)) : Calls Try.prog 20 #[TV n p l c] w (Tells (.int .i64 (loT t)) w) := by
  obtain ⟨h1, hbel⟩ := one_box w n p l c _ rfl
  have rC := fun w1 (hb1 : Below w.heap.size w w1) => check_tr t n p l c w1 (h.later hb1)
  have HV : Hid (okT t = true → low (evOf t) = n) := show _ → _ from fun ht => by
    have hk := ok_of h ht
    rw [low_short (ok_parts hk.2).2, ← (is_parts hk.1).1]
  unfold loT
  generalize okT t = b at rC HV ⊢
  obtain ⟨z, HZ⟩ : ∃ z, Hid ((if b = true then low (evOf t) else 0) = z) := ⟨_, rfl⟩
  rw [HZ.out]
  clear h
  go_enter Try.func20, Try.ntmps20
  go_wp2_with (refine load_t _ rfl rfl _ _ rfl h1.tat ?_)
  refine (rC _ hbel).mono ?_
  rintro e w1 ⟨rfl, hb1⟩
  replace h1 := (h1.later hb1).cell0
  replace hbel := below_on hbel hb1
  clear hb1 rC
  cases b
  · obtain rfl : z = 0 := by rw [← HZ.out]; rfl
    go_wp2
    go_ret
    exact ⟨rfl, hbel⟩
  · have HE : Hid (n = z) := by show _ = _; rw [← HZ.out, if_pos rfl, HV.out rfl]
    clear HZ HV
    go_wp2
    go_ret
    exact ⟨by rw [HE.out]; rfl, hbel⟩
set_option maxHeartbeats 4000000 in
set_option maxRecDepth 100000 in
theorem greatest_tr (t : Tr) (n : Int) (p : Option Addr) (l c : Nat) (w : World) (h : Lies w t (TV n p l c)) : Calls Try.prog 22 #[TV n p l c] w (Tells (.int .i64 (hiT t)) w) := by
  obtain ⟨h1, hbel⟩ := one_box w n p l c _ rfl
  have rC := fun w1 (hb1 : Below w.heap.size w w1) => check_tr t n p l c w1 (h.later hb1)
  have rH := fun w1 (hb1 : Below w.heap.size w w1) (ht : okT t = true) => highest_any (evOf t) 16 1073741824 n p l c w1 ((ok_of h ht).1.later hb1) (ok_parts (ok_of h ht).2).1 (by omega)
  unfold hiT
  generalize okT t = b at rC rH ⊢
  generalize high (evOf t) = v at rH ⊢
  obtain ⟨z, HZ⟩ : ∃ z, Hid ((if b = true then v else 0) = z) := ⟨_, rfl⟩
  rw [HZ.out]
  clear h
  go_enter Try.func22, Try.ntmps22
  go_wp2_with (refine load_t _ rfl rfl _ _ rfl h1.tat ?_)
  refine (rC _ hbel).mono ?_
  rintro e w1 ⟨rfl, hb1⟩
  replace h1 := h1.later hb1
  replace hbel := below_on hbel hb1
  clear hb1 rC
  cases b
  · obtain rfl : z = 0 := by rw [← HZ.out]; rfl
    clear rH
    go_wp2
    go_ret
    exact ⟨rfl, hbel⟩
  · obtain rfl : z = v := by rw [← HZ.out]; rfl
    clear HZ
    go_wp2_with (refine load_t _ rfl rfl _ _ rfl h1.tat ?_)
    refine (rH _ hbel trivial).mono ?_
    rintro e w2 ⟨rfl, hb1⟩
    replace hbel := below_on hbel hb1
    clear hb1 rH h1
    go_wp2
    go_ret
    exact ⟨rfl, hbel⟩

end Go.Proofs.Ytlfbabepbajcjaa
