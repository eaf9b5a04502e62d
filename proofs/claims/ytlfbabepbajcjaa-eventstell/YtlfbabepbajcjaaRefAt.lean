/- The function At of the document's answer. -/
import Derived.Test.YtlfbabepbajcjaaRefCheck
import Derived.Test.YtlfbabepbajcjaaFactsL
namespace Go.Proofs.Ytlfbabepbajcjaa
open Go.RowKit

/-- Has the tree of the box Kids? -/
def kidsAt (w : World) (b : Nat) : Nat := match w.cell? ⟨b, 1, none⟩ with
  | some (.slice _ l _) => if l = 0 then 0 else 1
  | _ => 0
theorem kidsAt_bx {w : World} {b : Nat} {n : Int} {p : Option Addr} {l c : Nat} (h : Bx w b n p l c) : kidsAt w b = if l = 0 then 0 else 1 := by
  unfold kidsAt
  rw [h.cell1]
theorem testBit_div (m k : Nat) : m.testBit k = decide (m / 2 ^ k % 2 = 1) := by
  rw [Nat.testBit_eq_decide_div_mod_eq]

set_option maxHeartbeats 8000000 in
set_option maxRecDepth 100000 in
theorem refAt_ok (x : EV) (m : Nat) (n : Int) (p : Option Addr) (l c : Nat) (w : World) (hx : Is w x (TV n p l c)) (hrx : rg x 16 1073741824 = true) (hm : m < 65536)
    (r0 : ∀ w1, Below w.heap.size w w1 → Calls Try.prog 15 #[TV n p l c] w1 (Tells (.bool true) w1)) :
    Calls Try.prog 19 #[TV n p l c, .int .i64 m] w (Tells (.int .i64 (val 16 x m)) w) := by
  obtain ⟨h1, hbel⟩ := one_box w n p l c _ rfl
  have hm0 : decide ((m : Int) < 0) = false := by simp only [decide_eq_false_iff_not]; omega
  have hm1 : decide ((65536 : Int) ≤ (m : Int)) = false := by simp only [decide_eq_false_iff_not]; omega
  obtain ⟨z, HZ⟩ : ∃ z, Hid (val 16 x m = z) := ⟨_, rfl⟩
  rw [HZ.out]
  have HX : Hid (Is w x (TV n p l c) ∧ rg x 16 1073741824 = true ∧ m < 65536) := ⟨hx, hrx, hm⟩
  have bn := rg_n hrx
  rw [← (is_parts hx).1] at bn
  clear hx hrx hm
  go_enter Try.func19, Try.ntmps19
  go_wp2_with (refine load_t _ rfl rfl _ _ rfl h1.tat ?_)
  refine (r0 _ hbel).mono ?_
  rintro e w1 ⟨rfl, hb1⟩
  replace h1 := h1.later hb1
  replace hbel := below_on hbel hb1
  clear hb1 r0
  have g0 := h1.cell0
  go_wp2_with fail
  clear hm0 hm1 g0
  go_loopw [5, 6] (fun vs vh wr => ∃ (k H : Nat) (y : EV) (s cc0 : Int) (n : Int) (p : Option Addr) (l c : Nat), vh = .int .i64 H ∧ vs = .int .i64 s ∧ Hid (H = (if k = 0 then 1 else 2 ^ (k - 1)) ∧ k ≤ 16) ∧ Bx wr w.heap.size n p l c ∧ Hid (Is w y (TV n p l c) ∧ 0 ≤ cc0 ∧ s = cc0 + y.n ∧ rg y k (1073741824 - cc0) = true ∧ val k (lift y cc0) m = z) ∧ (0 ≤ s ∧ s ≤ 1073741824) ∧ Below w.heap.size w wr) (fun _ vh wr => 2 * (intOf vh).toNat + kidsAt wr w.heap.size)
  case atStart => exact ⟨16, 32768, x, n, 0, n, p, l, c, rfl, rfl, ⟨rfl, Nat.le_refl _⟩, h1, ⟨HX.out.1, by omega, by rw [(is_parts HX.out.1).1]; omega, by rw [show (1073741824 : Int) - 0 = 1073741824 by omega]; exact HX.out.2.1, by rw [lift_zero]; exact HZ.out⟩, bn, hbel⟩
  case round =>
    clear h1 hbel bn
    obtain ⟨k, H, y, s, cc0, n', p', l', c', rfl, rfl, HB, h1, HY, hs, hbel⟩ := hrel
    have g1 := h1.cell1
    rcases y with ⟨yn, ⟨⟩ | ⟨y0, y1⟩⟩
    · obtain ⟨q1, q2, e⟩ := HY.out.1
      simp at e
      obtain ⟨rfl, rfl, rfl, rfl⟩ := e
      have HZ' : Hid (s = z) := by
        show _ = _
        have h2 := HY.out.2.2.2.2
        rw [show lift (EV.leaf n') cc0 = .leaf (n' + cc0) from rfl, val_leaf] at h2
        have h3 := HY.out.2.2.1
        dsimp only at h3
        omega
      clear HY HB
      go_wp2_with fail
      go_ret
      exact ⟨by rw [← HZ'.out]; rfl, hbel⟩
    · obtain ⟨⟨g, o, cc, n0, p0, l0, c0, n1, p1, l1, c1, e, t0, t1, hy0, hy1⟩, hc0, hsn, hrr, hz⟩ := HY.out
      simp at e
      obtain ⟨rfl, rfl, rfl, rfl⟩ := e
      obtain ⟨hn, hk, hr0, hr1⟩ := rg_kids hrr
      obtain ⟨j, rfl⟩ : ∃ j, k = j + 1 := ⟨k - 1, by omega⟩
      simp only [Nat.add_sub_cancel] at hr0 hr1
      have hHe : H = 2 ^ j := by have := HB.out.1; simpa using this
      have hj : j ≤ 15 := by have := HB.out.2; omega
      have hH1 : 1 ≤ H := by rw [hHe]; exact Nat.one_le_two_pow
      have hH2 : H ≤ 32768 := by rw [hHe]; exact Nat.pow_le_pow_right (by decide) hj
      have hm := HX.out.2.2
      rw [val_down] at hz
      simp only [testBit_div, ← hHe] at hz
      have HH : Hid (H = 2 ^ j ∧ j ≤ 15) := ⟨hHe, hj⟩
      have HW : Hid (Bx wr w.heap.size n' (some ⟨g, o, none⟩) 2 c') := h1
      have hq0 : (m : Int) / (H : Int) = ((m / H : Nat) : Int) := (Int.natCast_ediv m H).symm
      have hDl := Nat.div_le_self m H
      generalize m / H = D at hq0 hz hDl
      have hq1 : IntKind.i64.wrap ((m : Int) / (H : Int)) = (D : Int) := by
        rw [hq0, IntKind.wrap_i64]
        omega
      have hq2 : Int.tdiv (m : Int) (H : Int) = (D : Int) := by rw [Int.tdiv_eq_ediv_of_nonneg (by omega)]; exact hq0
      have hq3 : IntKind.i64.wrap (D : Int) = (D : Int) := by rw [IntKind.wrap_i64]; omega
      have hH0 : ¬ (H : Int) = 0 := by omega
      have hHn : ¬ H = 0 := by omega
      clear hHe hj hm HB hk hsn
      rcases Nat.mod_two_eq_zero_or_one D with hr | hr
      · simp only [hr, show ¬ ((0 : Nat) = 1) by decide, decide_false, Bool.false_eq_true, if_false] at hz
        have HN : Hid (Is w y0 (TV n0 p0 l0 c0) ∧ 0 ≤ cc0 + n' ∧ rg y0 j (1073741824 - (cc0 + n')) = true ∧ val j (lift y0 (cc0 + n')) m = z) := ⟨hy0, by omega, by rw [show 1073741824 - (cc0 + n') = 1073741824 - cc0 - n' by omega]; exact hr0, hz⟩
        have HS : Hid (s + n0 = cc0 + n' + y0.n) := by show _ = _; rw [HY.out.2.2.1, ← (is_parts hy0).1]
        have hs1 : 0 ≤ n0 ∧ s + n0 ≤ 1073741824 := by
          have h1 := rg_n hr0
          rw [(is_parts hy0).1, HY.out.2.2.1]
          dsimp only
          omega
        have hr2 : (D : Int) % 2 = 0 := by omega
        have hr3 : IntKind.i64.wrap ((D : Int) % 2) = 0 := by rw [IntKind.wrap_i64]; omega
        have hr4 : Int.tmod (D : Int) 2 = 0 := by rw [Int.tmod_eq_emod_of_nonneg (by omega)]; exact hr2
        have htk := t0
        clear hr hz hy0 hy1 t0 t1 hrr hr0 hr1 HY
        go_wp2_with fail
        have hS : Calm.Stays (fun w' => Bx w' w.heap.size n' (some ⟨g, o, none⟩) 2 c' ∧ Below w.heap.size w w') := fun wa wb h hb => ⟨h.1.later hb, below_on h.2 hb⟩
        have hF : Facts.Stay [eqF 0 (.pointer (some ⟨w.heap.size, 1, none⟩)), eqF 1 (.slice (some ⟨g, o, none⟩) 2 c'), eqF 2 (.int .i64 m), eqF 3 (.int .i64 H), eqF 4 (.int .i64 D), eqF 5 (.int .i64 0), eqF 6 (.pointer (some ⟨g, o, none⟩)), eqF 7 (TV n0 p0 l0 c0)] := stay_of (by simp only [List.forall_mem_cons]; exact ⟨eqF_stays _ _, eqF_stays _ _, eqF_stays _ _, eqF_stays _ _, eqF_stays _ _, eqF_stays _ _, eqF_stays _ _, eqF_stays _ _, fun _ h => by cases h⟩)
        refine Facts.regionLast (by kernel_rfl) (by kernel_rfl) 8 _ rfl rfl (by kernel_rfl) (fun w' => Bx w' w.heap.size n' (some ⟨g, o, none⟩) 2 c' ∧ Below w.heap.size w w') (fun x => { tmps := #[TV n p l c, .int .i64 m, .pointer (some ⟨w.heap.size, 0, none⟩), undef, .int .i64 0, .int .i64 s, .int .i64 H, TV n p l c, .bool true, .bool false, .bool false, .int .i64 m, .bool false, .bool false, .bool false, .int .i64 m, .bool false, .bool false, .pointer (some ⟨w.heap.size, 0, none⟩), .int .i64 n, .pointer (some ⟨w.heap.size, 1, none⟩), .slice (some ⟨g, o, none⟩) 2 c', .int .i64 2, .bool true, x 0, x 1, x 2, x 3, x 4, x 5, x 6, x 7, u32, u33, u34, u35, u36, u37, u38, undef], defers := [] }) [eqF 0 (.pointer (some ⟨w.heap.size, 1, none⟩)), eqF 1 (.slice (some ⟨g, o, none⟩) 2 c'), eqF 2 (.int .i64 m), eqF 3 (.int .i64 H), eqF 4 (.int .i64 D), eqF 5 (.int .i64 0), eqF 6 (.pointer (some ⟨g, o, none⟩)), eqF 7 (TV n0 p0 l0 c0)] _ rfl rfl (by kernel_rfl) (fun k => if k = 0 then u24 else if k = 1 then u25 else if k = 2 then u26 else if k = 3 then u27 else if k = 4 then u28 else if k = 5 then u29 else if k = 6 then u30 else u31) rfl ⟨h1, hbel.drew⟩ ⟨fun _ => ?_, fun _ => ?_, fun _ => ?_, fun _ => ?_, fun _ => ?_, fun _ => ?_, fun _ => ?_, fun _ => ?_, fun h => absurd h (by decide), trivial⟩ ?_
        · exact Facts.pure hS hF (fun _ _ => rfl) rfl (fun x wv hSw hd => by
            go_simp)
        · exact Facts.pure hS hF (fun _ _ => rfl) rfl (fun x wv hSw hd => by
            have d0 := eqF_get (hd ⟨0, .data⟩ (by simp) rfl _ rfl)
            have g1 := hSw.1.cell1
            simp only [d0]
            go_simp)
        · exact Facts.pure hS hF (fun _ _ => rfl) rfl (fun x wv hSw hd => by
            go_simp)
        · exact Facts.pure hS hF (fun _ _ => rfl) rfl (fun x wv hSw hd => by
            go_simp)
        · exact Facts.pure hS hF (fun _ _ => rfl) rfl (fun x wv hSw hd => by
            have d2 := eqF_get (hd ⟨2, .data⟩ (by simp) rfl _ rfl)
            have d3 := eqF_get (hd ⟨3, .data⟩ (by simp) rfl _ rfl)
            simp only [d2, d3]
            go_simp)
        · exact Facts.pure hS hF (fun _ _ => rfl) rfl (fun x wv hSw hd => by
            have d4 := eqF_get (hd ⟨4, .data⟩ (by simp) rfl _ rfl)
            simp only [d4]
            go_simp)
        · exact Facts.pure hS hF (fun _ _ => rfl) rfl (fun x wv hSw hd => by
            have d1 := eqF_get (hd ⟨1, .data⟩ (by simp) rfl _ rfl)
            have d5 := eqF_get (hd ⟨5, .data⟩ (by simp) rfl _ rfl)
            simp only [d1, d5]
            go_simp)
        · exact Facts.loadT hS hF (fun _ _ => rfl) _ rfl rfl (fun x wv hSw hd => by have d6 := eqF_get (hd ⟨6, .data⟩ (by simp) rfl _ rfl); exact d6) (fun wv hSw => htk.later hSw.2)
        · rintro xa w2 ⟨h1, hbel⟩ hf
          have d7 := eqF_get (hf 7 _ rfl)
          clear hf hS hF
          refine wp_store_t _ _ rfl w.heap.size n0 p0 l0 c0 rfl d7 h1 ?_
          have R := below_setRow hbel (g := w.heap.size) (Nat.le_refl _) #[.int .i64 n0, .slice p0 l0 c0]
          have h1' := h1.row n0 p0 l0 c0
          have g0' := h1'.cell0
          have HM : Hid (2 * H + kidsAt wr w.heap.size = 2 * H + 1) := by show _ = _; rw [kidsAt_bx HW.out]; rfl
          have HK : Hid (kidsAt (w2.setRow w.heap.size #[.int .i64 n0, .slice p0 l0 c0]) w.heap.size = if l0 = 0 then 0 else 1) := kidsAt_bx h1'
          have HL0 : Hid (j = 0 → l0 = 0) := fun hj0 => by
            have h2 := rg_depth HN.out.2.2.1
            obtain ⟨_, h3⟩ := is_parts HN.out.1
            rw [h3]
            rcases y0 with ⟨_, _ | ⟨_, _⟩⟩
            · rfl
            · simp only [depth] at h2; omega
          clear hbel h1 d7 htk
          simp only [Act.put]
          by_cases hj0 : j = 0
          · obtain rfl : H = 1 := by have := HH.out.1; rw [hj0] at this; simpa using this
            have hl0 : Hid (l0 = 0) := HL0.out hj0
            have HJ : Hid (j = 0) := hj0
            clear hj0 HL0 hH1 hH2
            go_wp2_with fail
            go_roundw
            case rel => exact ⟨j, 1, y0, s + n0, cc0 + n', n0, p0, l0, c0, by simp, by simp, ⟨by rw [HJ.out]; rfl, by have := HH.out.2; omega⟩, h1', ⟨HN.out.1, HN.out.2.1, HS.out, HN.out.2.2.1, HN.out.2.2.2⟩, by omega, R⟩
            case measure =>
              have e1 := HM.out
              have e2 := HK.out
              rw [if_pos hl0.out] at e2
              simp [intOf] at e1 ⊢
              omega
          · by_cases hj1 : j = 1
            · obtain rfl : H = 2 := by have := HH.out.1; rw [hj1] at this; simpa using this
              have HJ : Hid (j = 1) := hj1
              clear hj0 hj1 HL0 hH1 hH2
              go_wp2_with fail
              go_roundw
              case rel => exact ⟨j, 1, y0, s + n0, cc0 + n', n0, p0, l0, c0, by simp, by simp, ⟨by rw [HJ.out]; rfl, by have := HH.out.2; omega⟩, h1', ⟨HN.out.1, HN.out.2.1, HS.out, HN.out.2.2.1, HN.out.2.2.2⟩, by omega, R⟩
              case measure =>
                have e1 := HM.out
                have e2 := HK.out
                simp [intOf] at e1 e2 ⊢
                split at e2 <;> omega
            · have he : Hid (H = 2 * (H / 2) ∧ H / 2 = 2 ^ (j - 1)) := by
                show _ ∧ _
                obtain ⟨i, rfl⟩ : ∃ i, j = i + 1 := ⟨j - 1, by omega⟩
                rw [HH.out.1, Nat.pow_succ]
                constructor
                · omega
                · simp
              have hbig : (1 : Int) < (H : Int) / 2 := by
                have h5 := he.out
                obtain ⟨i, hi⟩ : ∃ i, j - 1 = i + 1 := ⟨j - 2, by omega⟩
                have h6 : 1 ≤ 2 ^ i := Nat.one_le_two_pow
                rw [hi, Nat.pow_succ] at h5
                omega
              have hbg : decide ((1 : Int) < (H : Int) / 2) = true := by simpa using hbig
              have HJ : Hid (¬ j = 0) := hj0
              clear hj0 hj1 HL0
              go_wp2_with fail
              go_roundw
              case rel => exact ⟨j, H / 2, y0, s + n0, cc0 + n', n0, p0, l0, c0, by simp, by simp, ⟨by rw [if_neg HJ.out]; exact he.out.2, by have := HH.out.2; omega⟩, h1', ⟨HN.out.1, HN.out.2.1, HS.out, HN.out.2.2.1, HN.out.2.2.2⟩, by omega, R⟩
              case measure =>
                have e1 := HM.out
                have e2 := HK.out
                have e3 := he.out.1
                simp [intOf] at e1 e2 ⊢
                split at e2 <;> omega
      · simp only [hr, decide_true, if_true] at hz
        have HN : Hid (Is w y1 (TV n1 p1 l1 c1) ∧ 0 ≤ cc0 + n' ∧ rg y1 j (1073741824 - (cc0 + n')) = true ∧ val j (lift y1 (cc0 + n')) m = z) := ⟨hy1, by omega, by rw [show 1073741824 - (cc0 + n') = 1073741824 - cc0 - n' by omega]; exact hr1, hz⟩
        have HS : Hid (s + n1 = cc0 + n' + y1.n) := by show _ = _; rw [HY.out.2.2.1, ← (is_parts hy1).1]
        have hs1 : 0 ≤ n1 ∧ s + n1 ≤ 1073741824 := by
          have h1 := rg_n hr1
          rw [(is_parts hy1).1, HY.out.2.2.1]
          dsimp only
          omega
        have hr2 : (D : Int) % 2 = 1 := by omega
        have hr3 : IntKind.i64.wrap ((D : Int) % 2) = 1 := by rw [IntKind.wrap_i64]; omega
        have hr4 : Int.tmod (D : Int) 2 = 1 := by rw [Int.tmod_eq_emod_of_nonneg (by omega)]; exact hr2
        have htk := t1
        clear hr hz hy0 hy1 t0 t1 hrr hr0 hr1 HY
        go_wp2_with fail
        have hS : Calm.Stays (fun w' => Bx w' w.heap.size n' (some ⟨g, o, none⟩) 2 c' ∧ Below w.heap.size w w') := fun wa wb h hb => ⟨h.1.later hb, below_on h.2 hb⟩
        have hF : Facts.Stay [eqF 0 (.pointer (some ⟨w.heap.size, 1, none⟩)), eqF 1 (.slice (some ⟨g, o, none⟩) 2 c'), eqF 2 (.int .i64 m), eqF 3 (.int .i64 H), eqF 4 (.int .i64 D), eqF 5 (.int .i64 1), eqF 6 (.pointer (some ⟨g, o + 2, none⟩)), eqF 7 (TV n1 p1 l1 c1)] := stay_of (by simp only [List.forall_mem_cons]; exact ⟨eqF_stays _ _, eqF_stays _ _, eqF_stays _ _, eqF_stays _ _, eqF_stays _ _, eqF_stays _ _, eqF_stays _ _, eqF_stays _ _, fun _ h => by cases h⟩)
        refine Facts.regionLast (by kernel_rfl) (by kernel_rfl) 8 _ rfl rfl (by kernel_rfl) (fun w' => Bx w' w.heap.size n' (some ⟨g, o, none⟩) 2 c' ∧ Below w.heap.size w w') (fun x => { tmps := #[TV n p l c, .int .i64 m, .pointer (some ⟨w.heap.size, 0, none⟩), undef, .int .i64 0, .int .i64 s, .int .i64 H, TV n p l c, .bool true, .bool false, .bool false, .int .i64 m, .bool false, .bool false, .bool false, .int .i64 m, .bool false, .bool false, .pointer (some ⟨w.heap.size, 0, none⟩), .int .i64 n, .pointer (some ⟨w.heap.size, 1, none⟩), .slice (some ⟨g, o, none⟩) 2 c', .int .i64 2, .bool true, x 0, x 1, x 2, x 3, x 4, x 5, x 6, x 7, u32, u33, u34, u35, u36, u37, u38, undef], defers := [] }) [eqF 0 (.pointer (some ⟨w.heap.size, 1, none⟩)), eqF 1 (.slice (some ⟨g, o, none⟩) 2 c'), eqF 2 (.int .i64 m), eqF 3 (.int .i64 H), eqF 4 (.int .i64 D), eqF 5 (.int .i64 1), eqF 6 (.pointer (some ⟨g, o + 2, none⟩)), eqF 7 (TV n1 p1 l1 c1)] _ rfl rfl (by kernel_rfl) (fun k => if k = 0 then u24 else if k = 1 then u25 else if k = 2 then u26 else if k = 3 then u27 else if k = 4 then u28 else if k = 5 then u29 else if k = 6 then u30 else u31) rfl ⟨h1, hbel.drew⟩ ⟨fun _ => ?_, fun _ => ?_, fun _ => ?_, fun _ => ?_, fun _ => ?_, fun _ => ?_, fun _ => ?_, fun _ => ?_, fun h => absurd h (by decide), trivial⟩ ?_
        · exact Facts.pure hS hF (fun _ _ => rfl) rfl (fun x wv hSw hd => by
            go_simp)
        · exact Facts.pure hS hF (fun _ _ => rfl) rfl (fun x wv hSw hd => by
            have d0 := eqF_get (hd ⟨0, .data⟩ (by simp) rfl _ rfl)
            have g1 := hSw.1.cell1
            simp only [d0]
            go_simp)
        · exact Facts.pure hS hF (fun _ _ => rfl) rfl (fun x wv hSw hd => by
            go_simp)
        · exact Facts.pure hS hF (fun _ _ => rfl) rfl (fun x wv hSw hd => by
            go_simp)
        · exact Facts.pure hS hF (fun _ _ => rfl) rfl (fun x wv hSw hd => by
            have d2 := eqF_get (hd ⟨2, .data⟩ (by simp) rfl _ rfl)
            have d3 := eqF_get (hd ⟨3, .data⟩ (by simp) rfl _ rfl)
            simp only [d2, d3]
            go_simp)
        · exact Facts.pure hS hF (fun _ _ => rfl) rfl (fun x wv hSw hd => by
            have d4 := eqF_get (hd ⟨4, .data⟩ (by simp) rfl _ rfl)
            simp only [d4]
            go_simp)
        · exact Facts.pure hS hF (fun _ _ => rfl) rfl (fun x wv hSw hd => by
            have d1 := eqF_get (hd ⟨1, .data⟩ (by simp) rfl _ rfl)
            have d5 := eqF_get (hd ⟨5, .data⟩ (by simp) rfl _ rfl)
            simp only [d1, d5]
            go_simp)
        · exact Facts.loadT hS hF (fun _ _ => rfl) _ rfl rfl (fun x wv hSw hd => by have d6 := eqF_get (hd ⟨6, .data⟩ (by simp) rfl _ rfl); exact d6) (fun wv hSw => htk.later hSw.2)
        · rintro xa w2 ⟨h1, hbel⟩ hf
          have d7 := eqF_get (hf 7 _ rfl)
          clear hf hS hF
          refine wp_store_t _ _ rfl w.heap.size n1 p1 l1 c1 rfl d7 h1 ?_
          have R := below_setRow hbel (g := w.heap.size) (Nat.le_refl _) #[.int .i64 n1, .slice p1 l1 c1]
          have h1' := h1.row n1 p1 l1 c1
          have g0' := h1'.cell0
          have HM : Hid (2 * H + kidsAt wr w.heap.size = 2 * H + 1) := by show _ = _; rw [kidsAt_bx HW.out]; rfl
          have HK : Hid (kidsAt (w2.setRow w.heap.size #[.int .i64 n1, .slice p1 l1 c1]) w.heap.size = if l1 = 0 then 0 else 1) := kidsAt_bx h1'
          have HL0 : Hid (j = 0 → l1 = 0) := fun hj0 => by
            have h2 := rg_depth HN.out.2.2.1
            obtain ⟨_, h3⟩ := is_parts HN.out.1
            rw [h3]
            rcases y1 with ⟨_, _ | ⟨_, _⟩⟩
            · rfl
            · simp only [depth] at h2; omega
          clear hbel h1 d7 htk
          simp only [Act.put]
          by_cases hj0 : j = 0
          · obtain rfl : H = 1 := by have := HH.out.1; rw [hj0] at this; simpa using this
            have hl0 : Hid (l1 = 0) := HL0.out hj0
            have HJ : Hid (j = 0) := hj0
            clear hj0 HL0 hH1 hH2
            go_wp2_with fail
            go_roundw
            case rel => exact ⟨j, 1, y1, s + n1, cc0 + n', n1, p1, l1, c1, by simp, by simp, ⟨by rw [HJ.out]; rfl, by have := HH.out.2; omega⟩, h1', ⟨HN.out.1, HN.out.2.1, HS.out, HN.out.2.2.1, HN.out.2.2.2⟩, by omega, R⟩
            case measure =>
              have e1 := HM.out
              have e2 := HK.out
              rw [if_pos hl0.out] at e2
              simp [intOf] at e1 ⊢
              omega
          · by_cases hj1 : j = 1
            · obtain rfl : H = 2 := by have := HH.out.1; rw [hj1] at this; simpa using this
              have HJ : Hid (j = 1) := hj1
              clear hj0 hj1 HL0 hH1 hH2
              go_wp2_with fail
              go_roundw
              case rel => exact ⟨j, 1, y1, s + n1, cc0 + n', n1, p1, l1, c1, by simp, by simp, ⟨by rw [HJ.out]; rfl, by have := HH.out.2; omega⟩, h1', ⟨HN.out.1, HN.out.2.1, HS.out, HN.out.2.2.1, HN.out.2.2.2⟩, by omega, R⟩
              case measure =>
                have e1 := HM.out
                have e2 := HK.out
                simp [intOf] at e1 e2 ⊢
                split at e2 <;> omega
            · have he : Hid (H = 2 * (H / 2) ∧ H / 2 = 2 ^ (j - 1)) := by
                show _ ∧ _
                obtain ⟨i, rfl⟩ : ∃ i, j = i + 1 := ⟨j - 1, by omega⟩
                rw [HH.out.1, Nat.pow_succ]
                constructor
                · omega
                · simp
              have hbig : (1 : Int) < (H : Int) / 2 := by
                have h5 := he.out
                obtain ⟨i, hi⟩ : ∃ i, j - 1 = i + 1 := ⟨j - 2, by omega⟩
                have h6 : 1 ≤ 2 ^ i := Nat.one_le_two_pow
                rw [hi, Nat.pow_succ] at h5
                omega
              have hbg : decide ((1 : Int) < (H : Int) / 2) = true := by simpa using hbig
              have HJ : Hid (¬ j = 0) := hj0
              clear hj0 hj1 HL0
              go_wp2_with fail
              go_roundw
              case rel => exact ⟨j, H / 2, y1, s + n1, cc0 + n', n1, p1, l1, c1, by simp, by simp, ⟨by rw [if_neg HJ.out]; exact he.out.2, by have := HH.out.2; omega⟩, h1', ⟨HN.out.1, HN.out.2.1, HS.out, HN.out.2.2.1, HN.out.2.2.2⟩, by omega, R⟩
              case measure =>
                have e1 := HM.out
                have e2 := HK.out
                have e3 := he.out.1
                simp [intOf] at e1 e2 ⊢
                split at e2 <;> omega

set_option maxHeartbeats 2000000 in
set_option maxRecDepth 100000 in
theorem refAt_bad (m : Int) (n : Int) (p : Option Addr) (l c : Nat) (w : World) (k : Bool) (h : k = false ∨ m < 0 ∨ 65536 ≤ m)
    (r0 : ∀ w1, Below w.heap.size w w1 → Calls Try.prog 15 #[TV n p l c] w1 (Tells (.bool k) w1)) :
    Calls Try.prog 19 #[TV n p l c, .int .i64 m] w (Tells (.int .i64 0) w) := by
  obtain ⟨hx, hbel⟩ := one_box w n p l c _ rfl
  have HH : Hid (k = false ∨ m < 0 ∨ 65536 ≤ m) := h
  clear h
  go_enter Try.func19, Try.ntmps19
  go_wp2_with (refine load_t _ rfl rfl _ _ rfl hx.tat ?_)
  refine (r0 _ hbel).mono ?_
  rintro e w1 ⟨rfl, hb1⟩
  replace hbel := below_on hbel hb1
  clear hb1 r0 hx
  cases k
  · go_wp2_with fail
    go_ret
    exact ⟨rfl, hbel⟩
  · by_cases h0 : m < 0
    · have hm0 : decide (m < 0) = true := by simp only [decide_eq_true_eq]; omega
      clear HH h0
      go_wp2_with fail
      go_ret
      exact ⟨rfl, hbel⟩
    · have hm0 : decide (m < 0) = false := by simp only [decide_eq_false_iff_not]; omega
      have hm1 : decide ((65536 : Int) ≤ m) = true := by
        simp only [decide_eq_true_eq]
        rcases HH.out with h | h | h
        · cases h
        · exact absurd h h0
        · exact h
      clear HH h0
      go_wp2_with fail
      go_ret
      exact ⟨rfl, hbel⟩

theorem refAt_tr (t : Tr) (m : Int) (n : Int) (p : Option Addr) (l c : Nat) (w : World) (ht : Lies w t (TV n p l c)) :
    Calls Try.prog 19 #[TV n p l c, .int .i64 m] w (Tells (.int .i64 (atT t m)) w) := by
  have r0 := fun w1 (hb : Below w.heap.size w w1) => refCheck_tr t n p l c w1 (ht.later hb)
  unfold atT
  by_cases hm : 0 ≤ m ∧ m < 65536
  · cases hk : okT t
    · simpa using refAt_bad m n p l c w (okT t) (.inl hk) r0
    · rw [hk] at r0
      have h3 := refAt_ok (evOf t) m.toNat n p l c w (ok_of ht hk).1 (ok_parts (ok_of ht hk).2).1 (by omega) r0
      rw [show ((m.toNat : Nat) : Int) = m by omega] at h3
      simpa [hm] using h3
  · simpa [hm] using refAt_bad m n p l c w (okT t) (.inr (by omega)) r0

end Go.Proofs.Ytlfbabepbajcjaa
