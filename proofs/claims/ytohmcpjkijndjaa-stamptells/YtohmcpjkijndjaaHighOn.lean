import Derived.Test.YtohmcpjkijndjaaCmpOn
/- The functions highest, Least and Greatest of package events. -/
namespace Go.Proofs.Ytohmcpjkijndjaa
open Go.RowKit

set_option maxHeartbeats 4000000 in
set_option maxRecDepth 100000 in
theorem highest_node (X Y : Int) (n : Int) (g o c : Nat) (n0 : Int) (p0 : Option Addr) (l0 c0 : Nat) (n1 : Int) (p1 : Option Addr) (l1 c1 : Nat) (w : World) (t0 : Tat w g o n0 p0 l0 c0) (t1 : Tat w g (o + 2) n1 p1 l1 c1)
    (bx : 0 ≤ X ∧ X ≤ 1073741824) (by_ : 0 ≤ Y ∧ Y ≤ 1073741824) (bn : 0 ≤ n ∧ n ≤ 1073741824)
    (r0 : ∀ w1, Below w.heap.size w w1 → Calls Try.prog 108 #[TV n0 p0 l0 c0] w1 (Tells (.int .i64 X) w1)) (r1 : ∀ w1, Below w.heap.size w w1 → Calls Try.prog 108 #[TV n1 p1 l1 c1] w1 (Tells (.int .i64 Y) w1)) :
    Calls Try.prog 108 #[TV n (some ⟨g, o, none⟩) 2 c] w (Tells (.int .i64 (n + max X Y)) w) := by
  obtain ⟨h1, hbel⟩ := one_box w n (some ⟨g, o, none⟩) 2 c _ rfl
  obtain ⟨z, HZ⟩ : ∃ z, Hid (n + max X Y = z) := ⟨_, rfl⟩
  rw [HZ.out]
  go_enter Try.func108, Try.ntmps108
  go_wp2_with (refine load_t _ rfl rfl _ _ rfl h1.tat ?_)
  refine (isLeaf_any _ _ 2 c _).mono ?_
  rintro e w1 ⟨rfl, hb1⟩
  replace h1 := h1.later hb1
  replace hbel := below_on hbel hb1
  clear hb1
  go_wp2_with fail
  by_cases hlt : X < Y
  · have HM : Hid (n + Y = z) := by show _ = _; rw [← HZ.out]; omega
    have hw : IntKind.i64.wrap (n + Y) = n + Y := by rw [IntKind.wrap_i64]; omega
    clear HZ bx by_ bn
    have hS : Calm.Stays (fun w' => Bx w' w.heap.size n (some ⟨g, o, none⟩) 2 c ∧ Below w.heap.size w w') := fun wa wb h hb => ⟨h.1.later hb, below_on h.2 hb⟩
    have hF : Facts.Stay [eqF 0 (.pointer (some ⟨w.heap.size, 0, none⟩)), eqF 1 (.int .i64 n), eqF 2 (.pointer (some ⟨w.heap.size, 1, none⟩)), eqF 3 (.slice (some ⟨g, o, none⟩) 2 c), eqF 4 (.pointer (some ⟨g, o, none⟩)), eqF 5 (TV n0 p0 l0 c0), eqF 6 (.int .i64 X), eqF 7 (.pointer (some ⟨w.heap.size, 1, none⟩)), eqF 8 (.slice (some ⟨g, o, none⟩) 2 c), eqF 9 (.pointer (some ⟨g, o + 2, none⟩)), eqF 10 (TV n1 p1 l1 c1), eqF 11 (.int .i64 Y), eqF 12 (.int .i64 Y), eqF 13 (.int .i64 (n + Y)), eqF 14 (.int .i64 (n + Y))] := stay_of (by simp only [List.forall_mem_cons]; exact ⟨eqF_stays _ _, eqF_stays _ _, eqF_stays _ _, eqF_stays _ _, eqF_stays _ _, eqF_stays _ _, eqF_stays _ _, eqF_stays _ _, eqF_stays _ _, eqF_stays _ _, eqF_stays _ _, eqF_stays _ _, eqF_stays _ _, eqF_stays _ _, eqF_stays _ _, fun _ h => by cases h⟩)
    refine Facts.region (by kernel_rfl) (by kernel_rfl) (fun w' => Bx w' w.heap.size n (some ⟨g, o, none⟩) 2 c ∧ Below w.heap.size w w') (fun x => { tmps := #[TV n (some ⟨g, o, none⟩) 2 c, .pointer (some ⟨w.heap.size, 0, none⟩), x 14, TV n (some ⟨g, o, none⟩) 2 c, .bool false, undef, undef, x 0, x 1, x 2, x 3, x 4, x 5, x 6, x 7, x 8, x 9, x 10, x 11, x 12, x 13], defers := [] }) [eqF 0 (.pointer (some ⟨w.heap.size, 0, none⟩)), eqF 1 (.int .i64 n), eqF 2 (.pointer (some ⟨w.heap.size, 1, none⟩)), eqF 3 (.slice (some ⟨g, o, none⟩) 2 c), eqF 4 (.pointer (some ⟨g, o, none⟩)), eqF 5 (TV n0 p0 l0 c0), eqF 6 (.int .i64 X), eqF 7 (.pointer (some ⟨w.heap.size, 1, none⟩)), eqF 8 (.slice (some ⟨g, o, none⟩) 2 c), eqF 9 (.pointer (some ⟨g, o + 2, none⟩)), eqF 10 (TV n1 p1 l1 c1), eqF 11 (.int .i64 Y), eqF 12 (.int .i64 Y), eqF 13 (.int .i64 (n + Y)), eqF 14 (.int .i64 (n + Y))] _ rfl (by kernel_rfl) (fun k => if k = 14 then .int .i64 0 else undef) rfl (⟨h1, hbel.drew⟩) ⟨?_, ?_, ?_, ?_, ?_, ?_, ?_, ?_, ?_, ?_, ?_, ?_, ?_, ?_, ?_, trivial⟩ ?_
    · exact Facts.pure hS hF (fun _ _ => rfl) rfl (fun x wv hSw hd => by
        go_simp)
    · exact Facts.pure hS hF (fun _ _ => rfl) rfl (fun x wv hSw hd => by
        have d0 := eqF_get (hd ⟨0, .data⟩ (by simp) rfl _ rfl)
        have g0 := hSw.1.cell0
        have g1 := hSw.1.cell1
        simp only [d0]
        go_simp)
    · exact Facts.pure hS hF (fun _ _ => rfl) rfl (fun x wv hSw hd => by
        go_simp)
    · exact Facts.pure hS hF (fun _ _ => rfl) rfl (fun x wv hSw hd => by
        have d2 := eqF_get (hd ⟨2, .data⟩ (by simp) rfl _ rfl)
        have g0 := hSw.1.cell0
        have g1 := hSw.1.cell1
        simp only [d2]
        go_simp)
    · exact Facts.pure hS hF (fun _ _ => rfl) rfl (fun x wv hSw hd => by
        have d3 := eqF_get (hd ⟨3, .data⟩ (by simp) rfl _ rfl)
        simp only [d3]
        go_simp)
    · exact Facts.loadT hS hF (fun _ _ => rfl) _ rfl rfl (fun x wv hSw hd => by have d4 := eqF_get (hd ⟨4, .data⟩ (by simp) rfl _ rfl); exact d4) (fun wv hSw => t0.later hSw.2)
    · refine Facts.call1V hS hF (fun _ _ => rfl) rfl (by kernel_rfl) rfl (fun x wv hSw hd => ?_)
      have d5 := eqF_get (hd ⟨5, .data⟩ (by simp) rfl _ rfl)
      have hc := r0 _ hSw.2
      rw [← d5] at hc
      exact hc
    · exact Facts.pure hS hF (fun _ _ => rfl) rfl (fun x wv hSw hd => by
        go_simp)
    · exact Facts.pure hS hF (fun _ _ => rfl) rfl (fun x wv hSw hd => by
        have d7 := eqF_get (hd ⟨7, .data⟩ (by simp) rfl _ rfl)
        have g0 := hSw.1.cell0
        have g1 := hSw.1.cell1
        simp only [d7]
        go_simp)
    · exact Facts.pure hS hF (fun _ _ => rfl) rfl (fun x wv hSw hd => by
        have d8 := eqF_get (hd ⟨8, .data⟩ (by simp) rfl _ rfl)
        simp only [d8]
        go_simp)
    · exact Facts.loadT hS hF (fun _ _ => rfl) _ rfl rfl (fun x wv hSw hd => by have d9 := eqF_get (hd ⟨9, .data⟩ (by simp) rfl _ rfl); exact d9) (fun wv hSw => t1.later hSw.2)
    · refine Facts.call1V hS hF (fun _ _ => rfl) rfl (by kernel_rfl) rfl (fun x wv hSw hd => ?_)
      have d10 := eqF_get (hd ⟨10, .data⟩ (by simp) rfl _ rfl)
      have hc := r1 _ hSw.2
      rw [← d10] at hc
      exact hc
    · exact Facts.pure hS hF (fun _ _ => rfl) rfl (fun x wv hSw hd => by
        have d6 := eqF_get (hd ⟨6, .data⟩ (by simp) rfl _ rfl)
        have d11 := eqF_get (hd ⟨11, .data⟩ (by simp) rfl _ rfl)
        simp only [d6, d11]
        go_simp)
    · exact Facts.pure hS hF (fun _ _ => rfl) rfl (fun x wv hSw hd => by
        have d1 := eqF_get (hd ⟨1, .data⟩ (by simp) rfl _ rfl)
        have d12 := eqF_get (hd ⟨12, .data⟩ (by simp) rfl _ rfl)
        simp only [d1, d12]
        go_simp)
    · exact Facts.pure hS hF (fun _ _ => rfl) rfl (fun x wv hSw hd => by
        have d13 := eqF_get (hd ⟨13, .data⟩ (by simp) rfl _ rfl)
        simp only [d13]
        go_simp)
    · rintro xv w9 ⟨_, hbel9⟩ hf
      have d14 := eqF_get (hf 14 _ (by decide) rfl)
      clear hf hS hF
      simp only [d14]
      go_wp2
      go_ret
      exact ⟨by rw [HM.out]; rfl, hbel9⟩
  · have HM : Hid (n + X = z) := by show _ = _; rw [← HZ.out]; omega
    have hw : IntKind.i64.wrap (n + X) = n + X := by rw [IntKind.wrap_i64]; omega
    clear HZ bx by_ bn
    have hS : Calm.Stays (fun w' => Bx w' w.heap.size n (some ⟨g, o, none⟩) 2 c ∧ Below w.heap.size w w') := fun wa wb h hb => ⟨h.1.later hb, below_on h.2 hb⟩
    have hF : Facts.Stay [eqF 0 (.pointer (some ⟨w.heap.size, 0, none⟩)), eqF 1 (.int .i64 n), eqF 2 (.pointer (some ⟨w.heap.size, 1, none⟩)), eqF 3 (.slice (some ⟨g, o, none⟩) 2 c), eqF 4 (.pointer (some ⟨g, o, none⟩)), eqF 5 (TV n0 p0 l0 c0), eqF 6 (.int .i64 X), eqF 7 (.pointer (some ⟨w.heap.size, 1, none⟩)), eqF 8 (.slice (some ⟨g, o, none⟩) 2 c), eqF 9 (.pointer (some ⟨g, o + 2, none⟩)), eqF 10 (TV n1 p1 l1 c1), eqF 11 (.int .i64 Y), eqF 12 (.int .i64 X), eqF 13 (.int .i64 (n + X)), eqF 14 (.int .i64 (n + X))] := stay_of (by simp only [List.forall_mem_cons]; exact ⟨eqF_stays _ _, eqF_stays _ _, eqF_stays _ _, eqF_stays _ _, eqF_stays _ _, eqF_stays _ _, eqF_stays _ _, eqF_stays _ _, eqF_stays _ _, eqF_stays _ _, eqF_stays _ _, eqF_stays _ _, eqF_stays _ _, eqF_stays _ _, eqF_stays _ _, fun _ h => by cases h⟩)
    refine Facts.region (by kernel_rfl) (by kernel_rfl) (fun w' => Bx w' w.heap.size n (some ⟨g, o, none⟩) 2 c ∧ Below w.heap.size w w') (fun x => { tmps := #[TV n (some ⟨g, o, none⟩) 2 c, .pointer (some ⟨w.heap.size, 0, none⟩), x 14, TV n (some ⟨g, o, none⟩) 2 c, .bool false, undef, undef, x 0, x 1, x 2, x 3, x 4, x 5, x 6, x 7, x 8, x 9, x 10, x 11, x 12, x 13], defers := [] }) [eqF 0 (.pointer (some ⟨w.heap.size, 0, none⟩)), eqF 1 (.int .i64 n), eqF 2 (.pointer (some ⟨w.heap.size, 1, none⟩)), eqF 3 (.slice (some ⟨g, o, none⟩) 2 c), eqF 4 (.pointer (some ⟨g, o, none⟩)), eqF 5 (TV n0 p0 l0 c0), eqF 6 (.int .i64 X), eqF 7 (.pointer (some ⟨w.heap.size, 1, none⟩)), eqF 8 (.slice (some ⟨g, o, none⟩) 2 c), eqF 9 (.pointer (some ⟨g, o + 2, none⟩)), eqF 10 (TV n1 p1 l1 c1), eqF 11 (.int .i64 Y), eqF 12 (.int .i64 X), eqF 13 (.int .i64 (n + X)), eqF 14 (.int .i64 (n + X))] _ rfl (by kernel_rfl) (fun k => if k = 14 then .int .i64 0 else undef) rfl (⟨h1, hbel.drew⟩) ⟨?_, ?_, ?_, ?_, ?_, ?_, ?_, ?_, ?_, ?_, ?_, ?_, ?_, ?_, ?_, trivial⟩ ?_
    · exact Facts.pure hS hF (fun _ _ => rfl) rfl (fun x wv hSw hd => by
        go_simp)
    · exact Facts.pure hS hF (fun _ _ => rfl) rfl (fun x wv hSw hd => by
        have d0 := eqF_get (hd ⟨0, .data⟩ (by simp) rfl _ rfl)
        have g0 := hSw.1.cell0
        have g1 := hSw.1.cell1
        simp only [d0]
        go_simp)
    · exact Facts.pure hS hF (fun _ _ => rfl) rfl (fun x wv hSw hd => by
        go_simp)
    · exact Facts.pure hS hF (fun _ _ => rfl) rfl (fun x wv hSw hd => by
        have d2 := eqF_get (hd ⟨2, .data⟩ (by simp) rfl _ rfl)
        have g0 := hSw.1.cell0
        have g1 := hSw.1.cell1
        simp only [d2]
        go_simp)
    · exact Facts.pure hS hF (fun _ _ => rfl) rfl (fun x wv hSw hd => by
        have d3 := eqF_get (hd ⟨3, .data⟩ (by simp) rfl _ rfl)
        simp only [d3]
        go_simp)
    · exact Facts.loadT hS hF (fun _ _ => rfl) _ rfl rfl (fun x wv hSw hd => by have d4 := eqF_get (hd ⟨4, .data⟩ (by simp) rfl _ rfl); exact d4) (fun wv hSw => t0.later hSw.2)
    · refine Facts.call1V hS hF (fun _ _ => rfl) rfl (by kernel_rfl) rfl (fun x wv hSw hd => ?_)
      have d5 := eqF_get (hd ⟨5, .data⟩ (by simp) rfl _ rfl)
      have hc := r0 _ hSw.2
      rw [← d5] at hc
      exact hc
    · exact Facts.pure hS hF (fun _ _ => rfl) rfl (fun x wv hSw hd => by
        go_simp)
    · exact Facts.pure hS hF (fun _ _ => rfl) rfl (fun x wv hSw hd => by
        have d7 := eqF_get (hd ⟨7, .data⟩ (by simp) rfl _ rfl)
        have g0 := hSw.1.cell0
        have g1 := hSw.1.cell1
        simp only [d7]
        go_simp)
    · exact Facts.pure hS hF (fun _ _ => rfl) rfl (fun x wv hSw hd => by
        have d8 := eqF_get (hd ⟨8, .data⟩ (by simp) rfl _ rfl)
        simp only [d8]
        go_simp)
    · exact Facts.loadT hS hF (fun _ _ => rfl) _ rfl rfl (fun x wv hSw hd => by have d9 := eqF_get (hd ⟨9, .data⟩ (by simp) rfl _ rfl); exact d9) (fun wv hSw => t1.later hSw.2)
    · refine Facts.call1V hS hF (fun _ _ => rfl) rfl (by kernel_rfl) rfl (fun x wv hSw hd => ?_)
      have d10 := eqF_get (hd ⟨10, .data⟩ (by simp) rfl _ rfl)
      have hc := r1 _ hSw.2
      rw [← d10] at hc
      exact hc
    · exact Facts.pure hS hF (fun _ _ => rfl) rfl (fun x wv hSw hd => by
        have d6 := eqF_get (hd ⟨6, .data⟩ (by simp) rfl _ rfl)
        have d11 := eqF_get (hd ⟨11, .data⟩ (by simp) rfl _ rfl)
        simp only [d6, d11]
        go_simp)
    · exact Facts.pure hS hF (fun _ _ => rfl) rfl (fun x wv hSw hd => by
        have d1 := eqF_get (hd ⟨1, .data⟩ (by simp) rfl _ rfl)
        have d12 := eqF_get (hd ⟨12, .data⟩ (by simp) rfl _ rfl)
        simp only [d1, d12]
        go_simp)
    · exact Facts.pure hS hF (fun _ _ => rfl) rfl (fun x wv hSw hd => by
        have d13 := eqF_get (hd ⟨13, .data⟩ (by simp) rfl _ rfl)
        simp only [d13]
        go_simp)
    · rintro xv w9 ⟨_, hbel9⟩ hf
      have d14 := eqF_get (hf 14 _ (by decide) rfl)
      clear hf hS hF
      simp only [d14]
      go_wp2
      go_ret
      exact ⟨by rw [HM.out]; rfl, hbel9⟩

set_option maxHeartbeats 4000000 in
set_option maxRecDepth 100000 in
theorem highest_leaf (n : Int) (p : Option Addr) (c : Nat) (w : World) : Calls Try.prog 108 #[TV n p 0 c] w (Tells (.int .i64 n) w) := by
  obtain ⟨h1, hbel⟩ := one_box w n p 0 c _ rfl
  go_enter Try.func108, Try.ntmps108
  go_wp2_with (refine load_t _ rfl rfl _ _ rfl h1.tat ?_)
  refine (isLeaf_any _ p 0 c _).mono ?_
  rintro e w1 ⟨rfl, hb1⟩
  replace h1 := (h1.later hb1).cell0
  replace hbel := below_on hbel hb1
  clear hb1
  go_wp2
  go_ret
  exact ⟨rfl, hbel⟩

theorem highest_any : ∀ (x : EV) (room : Nat) (left : Int) (n : Int) (p : Option Addr) (l c : Nat) (w : World), Is w x (TV n p l c) → rg x room left = true → left ≤ 1073741824 → Calls Try.prog 108 #[TV n p l c] w (Tells (.int .i64 (high x)) w)
  | ⟨m, .inl _⟩, _, _, n, p, l, c, w, ⟨_, _, e⟩, _, _ => by
    simp at e
    obtain ⟨rfl, rfl, rfl, rfl⟩ := e
    exact highest_leaf n p c w
  | ⟨m, .inr (x, y)⟩, room, left, n, p, l, c, w, ⟨g, o, c', n0, p0, l0, c0, n1, p1, l1, c1, e, t0, t1, hx, hy⟩, hr, hl => by
    simp at e
    obtain ⟨rfl, rfl, rfl, rfl⟩ := e
    obtain ⟨b0, _, b1, b2⟩ := rg_kids hr
    have d1 := rg_high b1
    have d2 := rg_high b2
    exact highest_node (high x) (high y) n g o c n0 p0 l0 c0 n1 p1 l1 c1 w t0 t1 (by omega) (by omega) (by omega) (fun w1 hb => highest_any x _ _ _ _ _ _ w1 (hx.later hb) b1 (by omega)) (fun w1 hb => highest_any y _ _ _ _ _ _ w1 (hy.later hb) b2 (by omega))

/-- What Least and Greatest answer. -/
def loT (t : Tr) : Int := if okT t then low (evOf t) else 0
def hiT (t : Tr) : Int := if okT t then high (evOf t) else 0

set_option maxHeartbeats 4000000 in
set_option maxRecDepth 100000 in
theorem least_tr (t : Tr) (n : Int) (p : Option Addr) (l c : Nat) (w : World) (h : Lies w t (TV n p l c)) : Calls Try.prog 100 #[TV n p l c] w (Tells (.int .i64 (loT t)) w) := by
  obtain ⟨h1, hbel⟩ := one_box w n p l c _ rfl
  have rC := fun w1 (hb1 : Below w.heap.size w w1) => check_tr t n p l c w1 (h.later hb1)
  have HV : Hid (okT t = true → low (evOf t) = n) := show _ → _ from fun ht => by
    have hk := ok_of h ht
    rw [low_short (ok_parts hk.2).2, ← (is_parts hk.1).1]
  unfold loT
  generalize okT t = b at rC HV ⊢
  obtain ⟨z, HZ⟩ : ∃ z, Hid ((if b = true then low (evOf t) else 0) = z) := ⟨_, rfl⟩
  rw [HZ.out]
  clear h
  go_enter Try.func100, Try.ntmps100
  go_wp2_with (refine load_t _ rfl rfl _ _ rfl h1.tat ?_)
  refine (rC _ hbel).mono ?_
  rintro e w1 ⟨rfl, hb1⟩
  replace h1 := (h1.later hb1).cell0
  replace hbel := below_on hbel hb1
  clear hb1 rC
  cases b
  · obtain rfl : z = 0 := by rw [← HZ.out]; rfl
    go_wp2
    go_ret
    exact ⟨rfl, hbel⟩
  · have HE : Hid (n = z) := by show _ = _; rw [← HZ.out, if_pos rfl, HV.out rfl]
    clear HZ HV
    go_wp2
    go_ret
    exact ⟨by rw [HE.out]; rfl, hbel⟩
set_option maxHeartbeats 4000000 in
set_option maxRecDepth 100000 in
theorem greatest_tr (t : Tr) (n : Int) (p : Option Addr) (l c : Nat) (w : World) (h : Lies w t (TV n p l c)) : Calls Try.prog 98 #[TV n p l c] w (Tells (.int .i64 (hiT t)) w) := by
  obtain ⟨h1, hbel⟩ := one_box w n p l c _ rfl
  have rC := fun w1 (hb1 : Below w.heap.size w w1) => check_tr t n p l c w1 (h.later hb1)
  have rH := fun w1 (hb1 : Below w.heap.size w w1) (ht : okT t = true) => highest_any (evOf t) 16 1073741824 n p l c w1 ((ok_of h ht).1.later hb1) (ok_parts (ok_of h ht).2).1 (by omega)
  unfold hiT
  generalize okT t = b at rC rH ⊢
  generalize high (evOf t) = v at rH ⊢
  obtain ⟨z, HZ⟩ : ∃ z, Hid ((if b = true then v else 0) = z) := ⟨_, rfl⟩
  rw [HZ.out]
  clear h
  go_enter Try.func98, Try.ntmps98
  go_wp2_with (refine load_t _ rfl rfl _ _ rfl h1.tat ?_)
  refine (rC _ hbel).mono ?_
  rintro e w1 ⟨rfl, hb1⟩
  replace h1 := h1.later hb1
  replace hbel := below_on hbel hb1
  clear hb1 rC
  cases b
  · obtain rfl : z = 0 := by rw [← HZ.out]; rfl
    clear rH
    go_wp2
    go_ret
    exact ⟨rfl, hbel⟩
  · obtain rfl : z = v := by rw [← HZ.out]; rfl
    clear HZ
    go_wp2_with (refine load_t _ rfl rfl _ _ rfl h1.tat ?_)
    refine (rH _ hbel trivial).mono ?_
    rintro e w2 ⟨rfl, hb1⟩
    replace hbel := below_on hbel hb1
    clear hb1 rH h1
    go_wp2
    go_ret
    exact ⟨rfl, hbel⟩

end Go.Proofs.Ytohmcpjkijndjaa
/- The function At of package events. -/
namespace Go.Proofs.Ytohmcpjkijndjaa
open Go.RowKit

theorem and_pow (m j : Nat) : m &&& 2 ^ j = if m.testBit j then 2 ^ j else 0 := by
  apply Nat.eq_of_testBit_eq
  intro i
  rw [Nat.testBit_and, Nat.testBit_two_pow]
  by_cases h : j = i
  · subst h
    cases m.testBit j <;> simp
  · cases m.testBit j <;> simp [h]
theorem i64_and_nat (a b : Nat) (ha : a < 65536) (hb : b < 65536) : bits .and .i64 (a : Int) (b : Int) = ((a &&& b : Nat) : Int) := by
  have h1 : ∀ x : Nat, x < 65536 → (BitVec.ofInt 64 (x : Int)).toNat = x := fun x hx => by simp; omega
  have h2 : a &&& b < 65536 := Nat.lt_of_le_of_lt Nat.and_le_left ha
  show IntKind.i64.wrap ((BitVec.ofInt 64 (a : Int) &&& BitVec.ofInt 64 (b : Int)).toNat : Int) = _
  rw [BitVec.toNat_and, h1 a ha, h1 b hb, IntKind.wrap_i64]
  omega

theorem val_down (j : Nat) (n c : Int) (x y : EV) (m : Nat) : val (j + 1) (lift (.node n x y) c) m = if m.testBit j then val j (lift y (c + n)) m else val j (lift x (c + n)) m := by
  rw [val, h0_lift, h1_lift, h0, h1, lift_lift, lift_lift, Int.add_comm n c]
  split <;> rfl

set_option maxHeartbeats 4000000 in
set_option maxRecDepth 100000 in
theorem at_ok (x : EV) (m : Nat) (n : Int) (p : Option Addr) (l c : Nat) (w : World) (hx : Is w x (TV n p l c)) (hr : rg x 16 1073741824 = true) (hm : m < 65536)
    (r0 : ∀ w1, Below w.heap.size w w1 → Calls Try.prog 51 #[TV n p l c] w1 (Tells (.bool true) w1)) :
    Calls Try.prog 27 #[TV n p l c, .int .i64 m] w (Tells (.int .i64 (val 16 x m)) w) := by
  obtain ⟨h1, hbel⟩ := one_box w n p l c _ rfl
  have hm0 : decide ((m : Int) < 0) = false := by simp only [decide_eq_false_iff_not]; omega
  have hm1 : decide ((65536 : Int) ≤ (m : Int)) = false := by simp only [decide_eq_false_iff_not]; omega
  obtain ⟨z, HZ⟩ : ∃ z, Hid (val 16 x m = z) := ⟨_, rfl⟩
  rw [HZ.out]
  have HX : Hid (Is w x (TV n p l c) ∧ rg x 16 1073741824 = true ∧ m < 65536) := ⟨hx, hr, hm⟩
  have bn := rg_n hr
  rw [← (is_parts hx).1] at bn
  clear hx hr hm
  go_enter Try.func27, Try.ntmps27
  go_wp2_with (refine load_t _ rfl rfl _ _ rfl h1.tat ?_)
  refine (r0 _ hbel).mono ?_
  rintro e w1 ⟨rfl, hb1⟩
  replace h1 := h1.later hb1
  replace hbel := below_on hbel hb1
  clear hb1 hm0 hm1 r0
  have g0 := h1.cell0
  go_wp2_with fail
  clear g0
  go_loopw [5, 6] (fun vs vb wr => ∃ (k B : Nat) (y : EV) (s cc0 : Int) (n : Int) (p : Option Addr) (l c : Nat), vb = .int .i64 B ∧ vs = .int .i64 s ∧ Hid (B = 2 ^ k / 2 ∧ k ≤ 16) ∧ Bx wr w.heap.size n p l c ∧ Hid (Is w y (TV n p l c) ∧ 0 ≤ cc0 ∧ s = cc0 + y.n ∧ rg y k (1073741824 - cc0) = true ∧ val k (lift y cc0) m = z) ∧ (0 ≤ s ∧ s ≤ 1073741824) ∧ Below w.heap.size w wr) (fun _ vb _ => (intOf vb).toNat)
  case atStart => exact ⟨16, 32768, x, n, 0, n, p, l, c, rfl, rfl, ⟨rfl, Nat.le_refl _⟩, h1, ⟨HX.out.1, by omega, by rw [(is_parts HX.out.1).1]; omega, by rw [show (1073741824 : Int) - 0 = 1073741824 by omega]; exact HX.out.2.1, by rw [lift_zero]; exact HZ.out⟩, bn, hbel⟩
  case round =>
    clear h1 hbel bn
    obtain ⟨k, B, y, s, cc0, n', p', l', c', rfl, rfl, HB, h1, HY, hs, hbel⟩ := hrel
    have hL := isLeaf_is HY.out.1
    rcases y with ⟨yn, ⟨⟩ | ⟨y0, y1⟩⟩
    · have HZ' : Hid (s = z) := by
        show _ = _
        have h2 := HY.out.2.2.2.2
        rw [show lift (EV.leaf yn) cc0 = .leaf (yn + cc0) from rfl, val_leaf] at h2
        have h3 := HY.out.2.2.1
        dsimp only at h3
        omega
      clear HY HB
      replace hL := fun w1 => hL w1
      simp only [lf] at hL
      go_wp2_with (refine load_t _ rfl rfl _ _ rfl h1.tat ?_)
      refine (hL _).mono ?_
      rintro e w2 ⟨rfl, hb1⟩
      replace hbel := below_on hbel hb1
      clear hb1 h1 hL
      go_wp2_with fail
      go_ret
      exact ⟨by rw [← HZ'.out]; rfl, hbel⟩
    · obtain ⟨⟨g, o, cc, n0, p0, l0, c0, n1, p1, l1, c1, e, t0, t1, hy0, hy1⟩, hc0, hsn, hr, hz⟩ := HY.out
      simp at e
      obtain ⟨rfl, rfl, rfl, rfl⟩ := e
      have hL2 : ∀ w, Calls Try.prog 55 #[TV n' (some ⟨g, o, none⟩) 2 c'] w (Tells (.bool false) w) := isLeaf_any n' (some ⟨g, o, none⟩) 2 c'
      obtain ⟨hn, hk, hr0, hr1⟩ := rg_kids hr
      obtain ⟨j, rfl⟩ : ∃ j, k = j + 1 := ⟨k - 1, by omega⟩
      simp only [Nat.add_sub_cancel] at hr0 hr1
      have hBe : B = 2 ^ j := by have := HB.out.1; rw [Nat.pow_succ] at this; omega
      have hj : j ≤ 15 := by have := HB.out.2; omega
      have hB1 : 1 ≤ B := by rw [hBe]; exact Nat.one_le_two_pow
      have hB2 : B ≤ 32768 := by rw [hBe]; exact Nat.pow_le_pow_right (by decide) hj
      have HB' : Hid (B = 2 ^ j ∧ j ≤ 15) := ⟨hBe, hj⟩
      have hm := HX.out.2.2
      have ha := i64_and_nat m B (by omega) (by omega)
      have hae : ((m &&& B : Nat) : Int) = if m.testBit j then (B : Int) else 0 := by
        rw [hBe, and_pow]
        cases m.testBit j <;> simp
      rw [hae] at ha
      rw [val_down] at hz
      clear hBe hj hae hm HB hk hsn
      have HC : Hid (m.testBit j = true ∨ m.testBit j = false) := by show _ ∨ _; cases m.testBit j <;> simp
      rcases HC.out with hb | hb
      · rw [hb] at ha hz
        simp only [if_true] at ha hz
        have hne : ¬ (B : Int) = 0 := by omega
        · have HN : Hid (Is w y1 (TV n1 p1 l1 c1) ∧ 0 ≤ cc0 + n' ∧ rg y1 j (1073741824 - (cc0 + n')) = true ∧ val j (lift y1 (cc0 + n')) m = z) := ⟨hy1, by omega, by rw [show 1073741824 - (cc0 + n') = 1073741824 - cc0 - n' by omega]; exact hr1, hz⟩
          have HS : Hid (s + n1 = cc0 + n' + y1.n) := by show _ = _; rw [HY.out.2.2.1, ← (is_parts hy1).1]
          have hs1 : 0 ≤ n1 ∧ s + n1 ≤ 1073741824 := by
            have h1 := rg_n hr1
            rw [(is_parts hy1).1, HY.out.2.2.1]
            dsimp only
            omega
          clear hy0 hy1 hr hr0 hr1 hz hb HC HY hL t0
          go_wp2_with (refine load_t _ rfl rfl _ _ rfl h1.tat ?_)
          refine (hL2 _).mono ?_
          rintro e w2 ⟨rfl, hb1⟩
          replace h1 := h1.later hb1
          replace hbel := below_on hbel hb1
          clear hb1 hL2
          have g1 := h1.cell1
          have tt := t1.later hbel
          have R := below_setRow hbel (g := w.heap.size) (Nat.le_refl _) #[.int .i64 n1, .slice p1 l1 c1]
          have h1' := h1.row n1 p1 l1 c1
          have g0' := h1'.cell0
          clear hbel t1
          go_wp2_with (first | refine load_t _ rfl rfl _ _ rfl tt ?_ | refine store_t rfl _ _ rfl _ n1 p1 l1 c1 rfl rfl h1 ?_)
          go_roundw
          case rel => exact ⟨j, B / 2, y1, s + n1, cc0 + n', n1, p1, l1, c1, by simp, by simp, ⟨by rw [HB'.out.1], by have := HB'.out.2; omega⟩, h1', ⟨HN.out.1, HN.out.2.1, HS.out, HN.out.2.2.1, HN.out.2.2.2⟩, by omega, R⟩
          case measure => simp [intOf]; omega
      · rw [hb] at ha hz
        simp only [Bool.false_eq_true, if_false] at ha hz
        · have HN : Hid (Is w y0 (TV n0 p0 l0 c0) ∧ 0 ≤ cc0 + n' ∧ rg y0 j (1073741824 - (cc0 + n')) = true ∧ val j (lift y0 (cc0 + n')) m = z) := ⟨hy0, by omega, by rw [show 1073741824 - (cc0 + n') = 1073741824 - cc0 - n' by omega]; exact hr0, hz⟩
          have HS : Hid (s + n0 = cc0 + n' + y0.n) := by show _ = _; rw [HY.out.2.2.1, ← (is_parts hy0).1]
          have hs1 : 0 ≤ n0 ∧ s + n0 ≤ 1073741824 := by
            have h1 := rg_n hr0
            rw [(is_parts hy0).1, HY.out.2.2.1]
            dsimp only
            omega
          clear hy0 hy1 hr hr0 hr1 hz hb HC HY hL t1
          go_wp2_with (refine load_t _ rfl rfl _ _ rfl h1.tat ?_)
          refine (hL2 _).mono ?_
          rintro e w2 ⟨rfl, hb1⟩
          replace h1 := h1.later hb1
          replace hbel := below_on hbel hb1
          clear hb1 hL2
          have g1 := h1.cell1
          have tt := t0.later hbel
          have R := below_setRow hbel (g := w.heap.size) (Nat.le_refl _) #[.int .i64 n0, .slice p0 l0 c0]
          have h1' := h1.row n0 p0 l0 c0
          have g0' := h1'.cell0
          clear hbel t0
          go_wp2_with (first | refine load_t _ rfl rfl _ _ rfl tt ?_ | refine store_t rfl _ _ rfl _ n0 p0 l0 c0 rfl rfl h1 ?_)
          go_roundw
          case rel => exact ⟨j, B / 2, y0, s + n0, cc0 + n', n0, p0, l0, c0, by simp, by simp, ⟨by rw [HB'.out.1], by have := HB'.out.2; omega⟩, h1', ⟨HN.out.1, HN.out.2.1, HS.out, HN.out.2.2.1, HN.out.2.2.2⟩, by omega, R⟩
          case measure => simp [intOf]; omega

set_option maxHeartbeats 2000000 in
set_option maxRecDepth 100000 in
theorem at_bad (m : Int) (n : Int) (p : Option Addr) (l c : Nat) (w : World) (k : Bool) (h : k = false ∨ m < 0 ∨ 65536 ≤ m)
    (r0 : ∀ w1, Below w.heap.size w w1 → Calls Try.prog 51 #[TV n p l c] w1 (Tells (.bool k) w1)) :
    Calls Try.prog 27 #[TV n p l c, .int .i64 m] w (Tells (.int .i64 0) w) := by
  obtain ⟨hx, hbel⟩ := one_box w n p l c _ rfl
  have HH : Hid (k = false ∨ m < 0 ∨ 65536 ≤ m) := h
  clear h
  by_cases h0 : m < 0
  · have hm0 : decide (m < 0) = true := by simp only [decide_eq_true_eq]; omega
    clear HH h0
    go_enter Try.func27, Try.ntmps27
    go_wp2_with fail
    go_ret
    exact ⟨rfl, hbel⟩
  · have hm0 : decide (m < 0) = false := by simp only [decide_eq_false_iff_not]; omega
    by_cases h1 : 65536 ≤ m
    · have hm1 : decide ((65536 : Int) ≤ m) = true := by simp only [decide_eq_true_eq]; omega
      clear HH h0 h1
      go_enter Try.func27, Try.ntmps27
      go_wp2_with fail
      go_ret
      exact ⟨rfl, hbel⟩
    · have hm1 : decide ((65536 : Int) ≤ m) = false := by simp only [decide_eq_false_iff_not]; omega
      obtain rfl : k = false := by
        rcases HH.out with h | h | h
        · exact h
        · exact absurd h h0
        · exact absurd h h1
      clear HH h0 h1
      go_enter Try.func27, Try.ntmps27
      go_wp2_with (refine load_t _ rfl rfl _ _ rfl hx.tat ?_)
      refine (r0 _ hbel).mono ?_
      rintro e w1 ⟨rfl, hb1⟩
      replace hbel := below_on hbel hb1
      clear hb1 hm0 hm1 r0 hx
      go_wp2_with fail
      go_ret
      exact ⟨rfl, hbel⟩

/-- What At answers. -/
def atT (t : Tr) (m : Int) : Int := if (decide (0 ≤ m ∧ m < 65536) && okT t) = true then val 16 (evOf t) m.toNat else 0
theorem at_tr (t : Tr) (m : Int) (n : Int) (p : Option Addr) (l c : Nat) (w : World) (ht : Lies w t (TV n p l c)) :
    Calls Try.prog 27 #[TV n p l c, .int .i64 m] w (Tells (.int .i64 (atT t m)) w) := by
  have r0 := fun w1 (hb : Below w.heap.size w w1) => check_tr t n p l c w1 (ht.later hb)
  unfold atT
  by_cases hm : 0 ≤ m ∧ m < 65536
  · cases hk : okT t
    · simpa using at_bad m n p l c w (okT t) (.inl hk) r0
    · rw [hk] at r0
      have h3 := at_ok (evOf t) m.toNat n p l c w (ok_of ht hk).1 (ok_parts (ok_of ht hk).2).1 (by omega) r0
      rw [show ((m.toNat : Nat) : Int) = m by omega] at h3
      simpa [hm] using h3
  · simpa [hm] using at_bad m n p l c w (okT t) (.inr (by omega)) r0

end Go.Proofs.Ytohmcpjkijndjaa
