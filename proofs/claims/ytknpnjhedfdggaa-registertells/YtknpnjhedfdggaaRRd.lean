/- Read of the document's answer. -/
import Derived.Test.YtknpnjhedfdggaaRse
import Derived.Test.YtknpnjhedfdggaaRChk
namespace Go.Proofs.Ytknpnjhedfdggaa
open Go.RowKit
open Go.Sort

theorem lastW_snoc {l : List Wt} {b : Wt} (h : lastW l = [b]) (y : Wt) : lastW (l ++ [y]) = [if b.t ≤ y.t then y else b] := by
  cases l with
  | nil => cases h
  | cons z l =>
    simp only [lastW, List.cons.injEq, and_true] at h
    show [bst z (l ++ [y])] = _
    rw [bst_snoc, h]
theorem thas_one (w : World) (s : ByteArray) : THas (w.alloc (.cells #[.string s] 9)) (.slice (some ⟨w.heap.size, 0, none⟩) 1 1) [bs s] := by
  refine ⟨by show 1 ≤ maxLen; unfold maxLen; decide, rfl, .inr ⟨_, _, rfl, ⟨Nat.le_refl _, by unfold maxLen; decide⟩, fun _ => ⟨_, _, rfl, ?_⟩⟩⟩
  exact Rw.whole (cs := [.string s]) (rw_new w 9 _)
/-- Texts stay where a slice of a value is written over. -/
theorem THas.overV {w : World} {v : Value} {l : List Bs} (h : THas w v l) {b j : Nat} {p : Option Addr} {n c : Nat} (hc : w.cell? ⟨b, j, none⟩ = some (.slice p n c)) (u : Value) : THas (w.setCell ⟨b, j, none⟩ u) v l :=
  SHas.over h (fun u' hu p' n' c' e => by
    obtain ⟨z, _, rfl⟩ := List.mem_map.1 hu
    cases e) hc u
theorem store43 {w : World} {b j : Nat} {p : Option Addr} {l c : Nat} {u : Value} (hc : w.cell? ⟨b, j, none⟩ = some u) (hf : w.frozen? ⟨b, j, none⟩ = false) : (Instr.storeAt 43 (.pointer (some ⟨b, j, none⟩)) (.slice p l c)).run Try.prog w = .ok () (w.setCell ⟨b, j, none⟩ (.slice p l c)) := by
  go_simp
set_option maxHeartbeats 4000000 in
set_option maxRecDepth 100000 in
theorem refRead_any (x : X) (va vw vm ve : Value) (w : World) (h : Four w x va vw vm ve) (hs : Sm x) : Calls Try.prog 20 #[CV x.k x.b va vw vm ve] w (RdPost x w) := by
  obtain ⟨pa, ca', pw, cw, pm, cm, pe, ce, rfl, rfl, rfl, rfl⟩ := h.slices
  have HF : Hid (Four w x (.slice pa x.am.length ca') (.slice pw x.wr.length cw) (.slice pm x.mb.length cm) (.slice pe x.el.length ce)) := h
  clear h
  obtain ⟨R0, R1, hbel⟩ := two_rows w (cvc x.k x.b (.slice pa x.am.length ca') (.slice pw x.wr.length cw) (.slice pm x.mb.length cm) (.slice pe x.el.length ce)) 27 #[.int .i64 0, .int .i64 0, .slice none 0 0, .slice none 0 0] 46
  have hsz : ((w.alloc (.cells (cvc x.k x.b (.slice pa x.am.length ca') (.slice pw x.wr.length cw) (.slice pm x.mb.length cm) (.slice pe x.el.length ce)) 27)).alloc (.cells #[.int .i64 0, .int .i64 0, .slice none 0 0, .slice none 0 0] 46)).heap.size = w.heap.size + 2 := by simp
  generalize hW : (w.alloc (.cells (cvc x.k x.b (.slice pa x.am.length ca') (.slice pw x.wr.length cw) (.slice pm x.mb.length cm) (.slice pe x.el.length ce)) 27)).alloc (.cells #[.int .i64 0, .int .i64 0, .slice none 0 0, .slice none 0 0] 46) = w0 at R0 R1 hbel hsz
  go_enter Try.func20, Try.ntmps20
  go_wp2_with (first | rw [hW] | refine load_r 27 _ rfl rfl _ rfl R0 Try.underlying27 rfl size27 ?_)
  clear hW
  refine (refCheck_any x _ _ _ _ w0 (HF.out.later hbel) hs).mono ?_
  rintro e w1 ⟨rfl, hb1⟩
  replace R0 := R0.later hb1
  replace R1 := R1.later hb1
  replace hbel := below_on hbel hb1
  have hB : w.heap.size + 2 ≤ w1.heap.size := by have := hb1.size; omega
  clear hb1 hsz
  obtain ⟨y1, HY1⟩ := hid_ex (ck x)
  rw [HY1.out]
  cases y1
  · go_wp2_with (first | refine store_r rfl 46 _ _ rfl _ #[.int .i64 0, .int .i64 0, .slice none 0 0, .slice none 0 0] rfl rfl R1 size46 rfl (by simp [Value.oneCell']) ?_)
    refine bodyPost_ret (v := VV 0 (.slice none 0 0)) (results_r rfl rfl (R1.row #[.int .i64 0, .int .i64 0, .slice none 0 0, .slice none 0 0]) rfl Try.underlying46 size46) rfl ?_
    refine ⟨.slice none 0 0, ?_, ?_, below_setRow hbel (by omega) _⟩
    · unfold rdK
      rw [HY1.out]
      rfl
    · unfold rdT
      rw [HY1.out]
      exact THas.nil _
  · have HP : Hid (∀ (u : Value) (w' : World), THas w' u (txs (wtx (rdW x))) → Below w.heap.size w w' → RdPost x w (.returned (VV x.k u)) w') := fun u w' h1 h2 => by
      refine ⟨u, ?_, ?_, h2⟩
      · unfold rdK
        rw [HY1.out]
        rfl
      · unfold rdT
        rw [HY1.out]
        exact h1
    have hk := (ck_parts HY1.out).1
    have hst := hs.t
    clear HY1 hs
    rcases hk with hk | hk
    · have HE : Hid (rdW x = lastW x.wr) := if_pos hk
      rw [hk] at R0 HP ⊢
      have R3 := rw_new w1 46 #[.int .i64 2, .int .i64 0, .slice none 0 0, .slice none 0 0]
      have hbA := bel_alloc (Below.refl w1.heap.size w1) (.cells #[.int .i64 2, .int .i64 0, .slice none 0 0, .slice none 0 0] 46)
      have c0 : w1.cell? ⟨w.heap.size, 0, none⟩ = some (.int .i64 2) := R0.cell 0
      have HK : Hid (x.k = 2) := hk
      clear hk
      replace R0 := R0.later hbA
      replace R1 := R1.later hbA
      replace hbel := below_on hbel hbA
      generalize hW : w1.alloc (.cells #[.int .i64 2, .int .i64 0, .slice none 0 0, .slice none 0 0] 46) = w2 at R0 R1 R3 hbel hbA
      have HW : Hid (w1.alloc (.cells #[.int .i64 2, .int .i64 0, .slice none 0 0, .slice none 0 0] 46) = w2) := hW
      clear hW
      have c02 : w2.cell? ⟨w.heap.size, 0, none⟩ = some (.int .i64 2) := R0.cell 0
      have hq3 : w1.heap.size < w2.heap.size := R3.lt
      go_wp2_with (first | rw [HW.out])
      clear HW c0 c02 hbA
      generalize w1.heap.size = q3 at R3 hB hq3 ⊢
      go_loopw [5, 6] (fun vb vi wr => ∃ k : Nat, vi = .int .i64 k ∧ k ≤ x.wr.length ∧ ((k = 0 ∧ vb = .int .i64 (-1)) ∨ (∃ (b : Nat) (hb : b < x.wr.length), b < k ∧ vb = .int .i64 b ∧ Hid (lastW (x.wr.take k) = [x.wr[b]]))) ∧ Rw wr w.heap.size 27 (cvc 2 x.b (.slice pa x.am.length ca') (.slice pw x.wr.length cw) (.slice pm x.mb.length cm) (.slice pe x.el.length ce)) ∧ Rw wr (w.heap.size + 1) 46 #[.int .i64 0, .int .i64 0, .slice none 0 0, .slice none 0 0] ∧ Rw wr q3 46 #[.int .i64 2, .int .i64 0, .slice none 0 0, .slice none 0 0] ∧ Below w.heap.size w wr) (fun _ vi _ => x.wr.length - (intOf vi).toNat)
      case atStart => exact ⟨0, rfl, by omega, .inl ⟨rfl, rfl⟩, R0, R1, R3, hbel⟩
      case round =>
        clear R0 R1 R3 hbel
        obtain ⟨k, rfl, hk, hor, R0, R1, R3, hbel⟩ := hrel
        have c3 : wr.cell? ⟨w.heap.size, 3, none⟩ = some (.slice pw x.wr.length cw) := R0.cell 3
        by_cases hlt : k < x.wr.length
        · have hlt' : (k : Int) < (x.wr.length : Int) := by omega
          have hk0 : (0 : Int) ≤ (k : Int) := by omega
          obtain ⟨g, o, rfl, hd0⟩ := HF.out.t.at (by omega)
          have hd := range_later hd0 hbel
          have d := Wt.elem hd k hlt
          obtain ⟨y, HY⟩ := hid_ex x.wr[k]
          rw [HY.out] at d
          have c1 : wr.cell? ⟨g, o + k * 5 + 3, none⟩ = some (.int .i64 y.t) := d 3 _ rfl
          have HTK : Hid (x.wr.take (k + 1) = x.wr.take k ++ [y]) := by
            show _ = _
            rw [List.take_succ_eq_append_getElem hlt, HY.out]
          rcases hor with ⟨rfl, rfl⟩ | ⟨b, hb, hbk, rfl, HL⟩
          · have HL2 : Hid (lastW (x.wr.take (0 + 1)) = [x.wr[0]]) := by
              show _ = _
              rw [HTK.out, HY.out]
              rfl
            clear hd0 hd d HTK
            go_wp2_with fail
            clear c3
            have hs : Calm.Stays (fun w' => Rw w' w.heap.size 27 (cvc 2 x.b (.slice pa x.am.length ca') (.slice (some ⟨g, o, none⟩) x.wr.length cw) (.slice pm x.mb.length cm) (.slice pe x.el.length ce)) ∧ Rw w' (w.heap.size + 1) 46 #[.int .i64 0, .int .i64 0, .slice none 0 0, .slice none 0 0] ∧ Rw w' q3 46 #[.int .i64 2, .int .i64 0, .slice none 0 0, .slice none 0 0] ∧ Below w.heap.size w w') := fun wa wb h hb => ⟨h.1.later hb, h.2.1.later hb, h.2.2.1.later hb, below_on h.2.2.2 hb⟩
            refine Calm.region (by kernel_rfl) (by kernel_rfl) (fun w' => Rw w' w.heap.size 27 (cvc 2 x.b (.slice pa x.am.length ca') (.slice (some ⟨g, o, none⟩) x.wr.length cw) (.slice pm x.mb.length cm) (.slice pe x.el.length ce)) ∧ Rw w' (w.heap.size + 1) 46 #[.int .i64 0, .int .i64 0, .slice none 0 0, .slice none 0 0] ∧ Rw w' q3 46 #[.int .i64 2, .int .i64 0, .slice none 0 0, .slice none 0 0] ∧ Below w.heap.size w w') ⟨R0, R1, R3, hbel.drew⟩ ?_
            all_goals
              refine Calm.pure (v := ?_) (by rfl) ?_ ?_
              rotate_left
              focus (intro w hSw; go_simp <;> rfl)
              simp only [Act.put, List.setIfInBounds_toArray, List.set_cons_zero, List.set_cons_succ]
            all_goals
              refine Calm.pure (v := ?_) (by rfl) ?_ ?_
              rotate_left
              focus (intro w hSw; go_simp <;> rfl)
              simp only [Act.put, List.setIfInBounds_toArray, List.set_cons_zero, List.set_cons_succ]
            all_goals
              refine Calm.pure (v := ?_) (by rfl) ?_ ?_
              rotate_left
              focus (intro w hSw; go_simp <;> rfl)
              simp only [Act.put, List.setIfInBounds_toArray, List.set_cons_zero, List.set_cons_succ]
            all_goals
              first
                | (refine Calm.skip ?_ ?_; focus rfl)
                | (refine Calm.pure (v := ?_) (by rfl) ?_ ?_
                   rotate_left
                   focus (intro w hSw; go_simp <;> rfl))
              simp only [Act.put, List.setIfInBounds_toArray, List.set_cons_zero, List.set_cons_succ]
            all_goals
              first
                | (refine Calm.skip ?_ ?_; focus rfl)
                | (refine Calm.pure (v := ?_) (by rfl) ?_ ?_
                   rotate_left
                   focus (intro w hSw; have g1 := hSw.1.cell 3; simp at g1; go_simp <;> rfl))
              simp only [Act.put, List.setIfInBounds_toArray, List.set_cons_zero, List.set_cons_succ]
            all_goals
              first
                | (refine Calm.skip ?_ ?_; focus rfl)
                | (refine Calm.pure (v := ?_) (by rfl) ?_ ?_
                   rotate_left
                   focus (intro w hSw; go_simp <;> rfl))
              simp only [Act.put, List.setIfInBounds_toArray, List.set_cons_zero, List.set_cons_succ]
            all_goals
              first
                | (refine Calm.skip ?_ ?_; focus rfl)
                | (refine Calm.pure (v := ?_) (by rfl) ?_ ?_
                   rotate_left
                   focus (intro w hSw; go_simp <;> rfl))
              simp only [Act.put, List.setIfInBounds_toArray, List.set_cons_zero, List.set_cons_succ]
            all_goals
              first
                | (refine Calm.skip ?_ ?_; focus rfl)
                | (refine Calm.pure (v := ?_) (by rfl) ?_ ?_
                   rotate_left
                   focus (intro w hSw; go_simp <;> rfl))
              simp only [Act.put, List.setIfInBounds_toArray, List.set_cons_zero, List.set_cons_succ]
            all_goals
              first
                | (refine Calm.skip ?_ ?_; focus rfl)
                | (refine Calm.pure (v := ?_) (by rfl) ?_ ?_
                   rotate_left
                   focus (intro w hSw; go_simp <;> rfl))
              simp only [Act.put, List.setIfInBounds_toArray, List.set_cons_zero, List.set_cons_succ]
            all_goals
              first
                | (refine Calm.skip ?_ ?_; focus rfl)
                | (refine Calm.pure (v := ?_) (by rfl) ?_ ?_
                   rotate_left
                   focus (intro w hSw; go_simp <;> rfl))
              simp only [Act.put, List.setIfInBounds_toArray, List.set_cons_zero, List.set_cons_succ]
            all_goals
              first
                | (refine Calm.skip ?_ ?_; focus rfl)
                | (refine Calm.pure (v := ?_) (by rfl) ?_ ?_
                   rotate_left
                   focus (intro w hSw; have g1 := hSw.1.cell 3; simp at g1; go_simp <;> rfl))
              simp only [Act.put, List.setIfInBounds_toArray, List.set_cons_zero, List.set_cons_succ]
            all_goals
              first
                | (refine Calm.skip ?_ ?_; focus rfl)
                | (refine Calm.pure (v := ?_) (by rfl) ?_ ?_
                   rotate_left
                   focus (intro w hSw; go_simp <;> rfl))
              simp only [Act.put, List.setIfInBounds_toArray, List.set_cons_zero, List.set_cons_succ]
            all_goals
              first
                | (refine Calm.skip ?_ ?_; focus rfl)
                | (refine Calm.pure (v := ?_) (by rfl) ?_ ?_
                   rotate_left
                   focus (intro w hSw; go_simp <;> rfl))
              simp only [Act.put, List.setIfInBounds_toArray, List.set_cons_zero, List.set_cons_succ]
            all_goals
              first
                | (refine Calm.skip ?_ ?_; focus rfl)
                | (refine Calm.pure (v := ?_) (by rfl) ?_ ?_
                   rotate_left
                   focus (intro w hSw; go_simp <;> rfl))
              simp only [Act.put, List.setIfInBounds_toArray, List.set_cons_zero, List.set_cons_succ]
            all_goals
              first
                | (refine Calm.skip ?_ ?_; focus rfl)
                | (refine Calm.pure (v := ?_) (by rfl) ?_ ?_
                   rotate_left
                   focus (intro w hSw; go_simp <;> rfl))
              simp only [Act.put, List.setIfInBounds_toArray, List.set_cons_zero, List.set_cons_succ]
            all_goals
              first
                | (refine Calm.skip ?_ ?_; focus rfl)
                | (refine Calm.pure (v := ?_) (by rfl) ?_ ?_
                   rotate_left
                   focus (intro w hSw; go_simp <;> rfl))
              simp only [Act.put, List.setIfInBounds_toArray, List.set_cons_zero, List.set_cons_succ]
            all_goals
              refine Calm.pure (v := ?_) (by rfl) ?_ ?_
              rotate_left
              focus (intro w hSw; go_simp <;> rfl)
              simp only [Act.put, List.setIfInBounds_toArray, List.set_cons_zero, List.set_cons_succ]
            all_goals
              rintro w9 ⟨R09, R19, R39, hbel9⟩
            go_wp2_with fail
            go_roundw
            case rel => exact ⟨0 + 1, by simp, by omega, .inr ⟨0, hlt, by omega, rfl, HL2⟩, R09, R19, R39, hbel9⟩
            case measure => simp [intOf]; omega
          · have db := Wt.elem hd b hb
            obtain ⟨yb, HYB⟩ := hid_ex x.wr[b]
            rw [HYB.out] at db HL
            have c2 : wr.cell? ⟨g, o + b * 5 + 3, none⟩ = some (.int .i64 yb.t) := db 3 _ rfl
            have HS : Hid (lastW (x.wr.take (k + 1)) = [if yb.t ≤ y.t then y else yb]) := by
              show _ = _
              rw [HTK.out, lastW_snoc HL.out]
            have hblt : (b : Int) < (x.wr.length : Int) := by omega
            have hb0 : (0 : Int) ≤ (b : Int) := by omega
            have hbn : decide ((b : Int) < 0) = false := decide_eq_false (by omega)
            clear hd0 hd d db HTK HL
            go_wp2_with fail
            clear c3
            by_cases hge : yb.t ≤ y.t
            · rw [if_pos hge] at HS
              have hgd : decide (yb.t ≤ y.t) = true := decide_eq_true hge
              have HL2 : Hid (lastW (x.wr.take (k + 1)) = [x.wr[k]]) := by
                show _ = _
                rw [HS.out, HY.out]
              have hs : Calm.Stays (fun w' => Rw w' w.heap.size 27 (cvc 2 x.b (.slice pa x.am.length ca') (.slice (some ⟨g, o, none⟩) x.wr.length cw) (.slice pm x.mb.length cm) (.slice pe x.el.length ce)) ∧ Rw w' (w.heap.size + 1) 46 #[.int .i64 0, .int .i64 0, .slice none 0 0, .slice none 0 0] ∧ Rw w' q3 46 #[.int .i64 2, .int .i64 0, .slice none 0 0, .slice none 0 0] ∧ w'.cell? ⟨g, o + k * 5 + 3, none⟩ = some (.int .i64 y.t) ∧ w'.cell? ⟨g, o + b * 5 + 3, none⟩ = some (.int .i64 yb.t) ∧ Below w.heap.size w w') := fun wa wb h hb => ⟨h.1.later hb, h.2.1.later hb, h.2.2.1.later hb, cell_later hb h.2.2.2.1, cell_later hb h.2.2.2.2.1, below_on h.2.2.2.2.2 hb⟩
              refine Calm.region (by kernel_rfl) (by kernel_rfl) (fun w' => Rw w' w.heap.size 27 (cvc 2 x.b (.slice pa x.am.length ca') (.slice (some ⟨g, o, none⟩) x.wr.length cw) (.slice pm x.mb.length cm) (.slice pe x.el.length ce)) ∧ Rw w' (w.heap.size + 1) 46 #[.int .i64 0, .int .i64 0, .slice none 0 0, .slice none 0 0] ∧ Rw w' q3 46 #[.int .i64 2, .int .i64 0, .slice none 0 0, .slice none 0 0] ∧ w'.cell? ⟨g, o + k * 5 + 3, none⟩ = some (.int .i64 y.t) ∧ w'.cell? ⟨g, o + b * 5 + 3, none⟩ = some (.int .i64 yb.t) ∧ Below w.heap.size w w') ⟨R0, R1, R3, c1, c2, hbel.drew⟩ ?_
              all_goals
                refine Calm.pure (v := ?_) (by rfl) ?_ ?_
                rotate_left
                focus (intro w hSw; go_simp <;> rfl)
                simp only [Act.put, List.setIfInBounds_toArray, List.set_cons_zero, List.set_cons_succ]
              all_goals
                refine Calm.pure (v := ?_) (by rfl) ?_ ?_
                rotate_left
                focus (intro w hSw; go_simp <;> rfl)
                simp only [Act.put, List.setIfInBounds_toArray, List.set_cons_zero, List.set_cons_succ]
              all_goals
                refine Calm.pure (v := ?_) (by rfl) ?_ ?_
                rotate_left
                focus (intro w hSw; go_simp <;> rfl)
                simp only [Act.put, List.setIfInBounds_toArray, List.set_cons_zero, List.set_cons_succ]
              all_goals
                first
                  | (refine Calm.skip ?_ ?_; focus rfl)
                  | (refine Calm.pure (v := ?_) (by rfl) ?_ ?_
                     rotate_left
                     focus (intro w hSw; go_simp <;> rfl))
                simp only [Act.put, List.setIfInBounds_toArray, List.set_cons_zero, List.set_cons_succ]
              all_goals
                first
                  | (refine Calm.skip ?_ ?_; focus rfl)
                  | (refine Calm.pure (v := ?_) (by rfl) ?_ ?_
                     rotate_left
                     focus (intro w hSw; have g1 := hSw.1.cell 3; simp at g1; go_simp <;> rfl))
                simp only [Act.put, List.setIfInBounds_toArray, List.set_cons_zero, List.set_cons_succ]
              all_goals
                first
                  | (refine Calm.skip ?_ ?_; focus rfl)
                  | (refine Calm.pure (v := ?_) (by rfl) ?_ ?_
                     rotate_left
                     focus (intro w hSw; go_simp <;> rfl))
                simp only [Act.put, List.setIfInBounds_toArray, List.set_cons_zero, List.set_cons_succ]
              all_goals
                first
                  | (refine Calm.skip ?_ ?_; focus rfl)
                  | (refine Calm.pure (v := ?_) (by rfl) ?_ ?_
                     rotate_left
                     focus (intro w hSw; go_simp <;> rfl))
                simp only [Act.put, List.setIfInBounds_toArray, List.set_cons_zero, List.set_cons_succ]
              all_goals
                first
                  | (refine Calm.skip ?_ ?_; focus rfl)
                  | (refine Calm.pure (v := ?_) (by rfl) ?_ ?_
                     rotate_left
                     focus (intro w hSw; go_simp <;> rfl))
                simp only [Act.put, List.setIfInBounds_toArray, List.set_cons_zero, List.set_cons_succ]
              all_goals
                first
                  | (refine Calm.skip ?_ ?_; focus rfl)
                  | (refine Calm.pure (v := ?_) (by rfl) ?_ ?_
                     rotate_left
                     focus (intro w hSw; have g1 := hSw.2.2.2.1; go_simp <;> rfl))
                simp only [Act.put, List.setIfInBounds_toArray, List.set_cons_zero, List.set_cons_succ]
              all_goals
                first
                  | (refine Calm.skip ?_ ?_; focus rfl)
                  | (refine Calm.pure (v := ?_) (by rfl) ?_ ?_
                     rotate_left
                     focus (intro w hSw; go_simp <;> rfl))
                simp only [Act.put, List.setIfInBounds_toArray, List.set_cons_zero, List.set_cons_succ]
              all_goals
                first
                  | (refine Calm.skip ?_ ?_; focus rfl)
                  | (refine Calm.pure (v := ?_) (by rfl) ?_ ?_
                     rotate_left
                     focus (intro w hSw; have g1 := hSw.1.cell 3; simp at g1; go_simp <;> rfl))
                simp only [Act.put, List.setIfInBounds_toArray, List.set_cons_zero, List.set_cons_succ]
              all_goals
                first
                  | (refine Calm.skip ?_ ?_; focus rfl)
                  | (refine Calm.pure (v := ?_) (by rfl) ?_ ?_
                     rotate_left
                     focus (intro w hSw; go_simp <;> rfl))
                simp only [Act.put, List.setIfInBounds_toArray, List.set_cons_zero, List.set_cons_succ]
              all_goals
                first
                  | (refine Calm.skip ?_ ?_; focus rfl)
                  | (refine Calm.pure (v := ?_) (by rfl) ?_ ?_
                     rotate_left
                     focus (intro w hSw; go_simp <;> rfl))
                simp only [Act.put, List.setIfInBounds_toArray, List.set_cons_zero, List.set_cons_succ]
              all_goals
                first
                  | (refine Calm.skip ?_ ?_; focus rfl)
                  | (refine Calm.pure (v := ?_) (by rfl) ?_ ?_
                     rotate_left
                     focus (intro w hSw; go_simp <;> rfl))
                simp only [Act.put, List.setIfInBounds_toArray, List.set_cons_zero, List.set_cons_succ]
              all_goals
                first
                  | (refine Calm.skip ?_ ?_; focus rfl)
                  | (refine Calm.pure (v := ?_) (by rfl) ?_ ?_
                     rotate_left
                     focus (intro w hSw; have g1 := hSw.2.2.2.2.1; go_simp <;> rfl))
                simp only [Act.put, List.setIfInBounds_toArray, List.set_cons_zero, List.set_cons_succ]
              all_goals
                first
                  | (refine Calm.skip ?_ ?_; focus rfl)
                  | (refine Calm.pure (v := ?_) (by rfl) ?_ ?_
                     rotate_left
                     focus (intro w hSw; go_simp <;> rfl))
                simp only [Act.put, List.setIfInBounds_toArray, List.set_cons_zero, List.set_cons_succ]
              all_goals
                refine Calm.pure (v := ?_) (by rfl) ?_ ?_
                rotate_left
                focus (intro w hSw; go_simp <;> rfl)
                simp only [Act.put, List.setIfInBounds_toArray, List.set_cons_zero, List.set_cons_succ]
              all_goals
                rintro w9 ⟨R09, R19, R39, _, _, hbel9⟩
              go_wp2_with fail
              go_roundw
              case rel => exact ⟨k + 1, by simp, by omega, .inr ⟨k, hlt, by omega, rfl, HL2⟩, R09, R19, R39, hbel9⟩
              case measure => simp [intOf]; omega
            · rw [if_neg hge] at HS
              have hgd : decide (yb.t ≤ y.t) = false := decide_eq_false hge
              have HL2 : Hid (lastW (x.wr.take (k + 1)) = [x.wr[b]]) := by
                show _ = _
                rw [HS.out, HYB.out]
              have hs : Calm.Stays (fun w' => Rw w' w.heap.size 27 (cvc 2 x.b (.slice pa x.am.length ca') (.slice (some ⟨g, o, none⟩) x.wr.length cw) (.slice pm x.mb.length cm) (.slice pe x.el.length ce)) ∧ Rw w' (w.heap.size + 1) 46 #[.int .i64 0, .int .i64 0, .slice none 0 0, .slice none 0 0] ∧ Rw w' q3 46 #[.int .i64 2, .int .i64 0, .slice none 0 0, .slice none 0 0] ∧ w'.cell? ⟨g, o + k * 5 + 3, none⟩ = some (.int .i64 y.t) ∧ w'.cell? ⟨g, o + b * 5 + 3, none⟩ = some (.int .i64 yb.t) ∧ Below w.heap.size w w') := fun wa wb h hb => ⟨h.1.later hb, h.2.1.later hb, h.2.2.1.later hb, cell_later hb h.2.2.2.1, cell_later hb h.2.2.2.2.1, below_on h.2.2.2.2.2 hb⟩
              refine Calm.region (by kernel_rfl) (by kernel_rfl) (fun w' => Rw w' w.heap.size 27 (cvc 2 x.b (.slice pa x.am.length ca') (.slice (some ⟨g, o, none⟩) x.wr.length cw) (.slice pm x.mb.length cm) (.slice pe x.el.length ce)) ∧ Rw w' (w.heap.size + 1) 46 #[.int .i64 0, .int .i64 0, .slice none 0 0, .slice none 0 0] ∧ Rw w' q3 46 #[.int .i64 2, .int .i64 0, .slice none 0 0, .slice none 0 0] ∧ w'.cell? ⟨g, o + k * 5 + 3, none⟩ = some (.int .i64 y.t) ∧ w'.cell? ⟨g, o + b * 5 + 3, none⟩ = some (.int .i64 yb.t) ∧ Below w.heap.size w w') ⟨R0, R1, R3, c1, c2, hbel.drew⟩ ?_
              all_goals
                refine Calm.pure (v := ?_) (by rfl) ?_ ?_
                rotate_left
                focus (intro w hSw; go_simp <;> rfl)
                simp only [Act.put, List.setIfInBounds_toArray, List.set_cons_zero, List.set_cons_succ]
              all_goals
                refine Calm.pure (v := ?_) (by rfl) ?_ ?_
                rotate_left
                focus (intro w hSw; go_simp <;> rfl)
                simp only [Act.put, List.setIfInBounds_toArray, List.set_cons_zero, List.set_cons_succ]
              all_goals
                refine Calm.pure (v := ?_) (by rfl) ?_ ?_
                rotate_left
                focus (intro w hSw; go_simp <;> rfl)
                simp only [Act.put, List.setIfInBounds_toArray, List.set_cons_zero, List.set_cons_succ]
              all_goals
                first
                  | (refine Calm.skip ?_ ?_; focus rfl)
                  | (refine Calm.pure (v := ?_) (by rfl) ?_ ?_
                     rotate_left
                     focus (intro w hSw; go_simp <;> rfl))
                simp only [Act.put, List.setIfInBounds_toArray, List.set_cons_zero, List.set_cons_succ]
              all_goals
                first
                  | (refine Calm.skip ?_ ?_; focus rfl)
                  | (refine Calm.pure (v := ?_) (by rfl) ?_ ?_
                     rotate_left
                     focus (intro w hSw; have g1 := hSw.1.cell 3; simp at g1; go_simp <;> rfl))
                simp only [Act.put, List.setIfInBounds_toArray, List.set_cons_zero, List.set_cons_succ]
              all_goals
                first
                  | (refine Calm.skip ?_ ?_; focus rfl)
                  | (refine Calm.pure (v := ?_) (by rfl) ?_ ?_
                     rotate_left
                     focus (intro w hSw; go_simp <;> rfl))
                simp only [Act.put, List.setIfInBounds_toArray, List.set_cons_zero, List.set_cons_succ]
              all_goals
                first
                  | (refine Calm.skip ?_ ?_; focus rfl)
                  | (refine Calm.pure (v := ?_) (by rfl) ?_ ?_
                     rotate_left
                     focus (intro w hSw; go_simp <;> rfl))
                simp only [Act.put, List.setIfInBounds_toArray, List.set_cons_zero, List.set_cons_succ]
              all_goals
                first
                  | (refine Calm.skip ?_ ?_; focus rfl)
                  | (refine Calm.pure (v := ?_) (by rfl) ?_ ?_
                     rotate_left
                     focus (intro w hSw; go_simp <;> rfl))
                simp only [Act.put, List.setIfInBounds_toArray, List.set_cons_zero, List.set_cons_succ]
              all_goals
                first
                  | (refine Calm.skip ?_ ?_; focus rfl)
                  | (refine Calm.pure (v := ?_) (by rfl) ?_ ?_
                     rotate_left
                     focus (intro w hSw; have g1 := hSw.2.2.2.1; go_simp <;> rfl))
                simp only [Act.put, List.setIfInBounds_toArray, List.set_cons_zero, List.set_cons_succ]
              all_goals
                first
                  | (refine Calm.skip ?_ ?_; focus rfl)
                  | (refine Calm.pure (v := ?_) (by rfl) ?_ ?_
                     rotate_left
                     focus (intro w hSw; go_simp <;> rfl))
                simp only [Act.put, List.setIfInBounds_toArray, List.set_cons_zero, List.set_cons_succ]
              all_goals
                first
                  | (refine Calm.skip ?_ ?_; focus rfl)
                  | (refine Calm.pure (v := ?_) (by rfl) ?_ ?_
                     rotate_left
                     focus (intro w hSw; have g1 := hSw.1.cell 3; simp at g1; go_simp <;> rfl))
                simp only [Act.put, List.setIfInBounds_toArray, List.set_cons_zero, List.set_cons_succ]
              all_goals
                first
                  | (refine Calm.skip ?_ ?_; focus rfl)
                  | (refine Calm.pure (v := ?_) (by rfl) ?_ ?_
                     rotate_left
                     focus (intro w hSw; go_simp <;> rfl))
                simp only [Act.put, List.setIfInBounds_toArray, List.set_cons_zero, List.set_cons_succ]
              all_goals
                first
                  | (refine Calm.skip ?_ ?_; focus rfl)
                  | (refine Calm.pure (v := ?_) (by rfl) ?_ ?_
                     rotate_left
                     focus (intro w hSw; go_simp <;> rfl))
                simp only [Act.put, List.setIfInBounds_toArray, List.set_cons_zero, List.set_cons_succ]
              all_goals
                first
                  | (refine Calm.skip ?_ ?_; focus rfl)
                  | (refine Calm.pure (v := ?_) (by rfl) ?_ ?_
                     rotate_left
                     focus (intro w hSw; go_simp <;> rfl))
                simp only [Act.put, List.setIfInBounds_toArray, List.set_cons_zero, List.set_cons_succ]
              all_goals
                first
                  | (refine Calm.skip ?_ ?_; focus rfl)
                  | (refine Calm.pure (v := ?_) (by rfl) ?_ ?_
                     rotate_left
                     focus (intro w hSw; have g1 := hSw.2.2.2.2.1; go_simp <;> rfl))
                simp only [Act.put, List.setIfInBounds_toArray, List.set_cons_zero, List.set_cons_succ]
              all_goals
                first
                  | (refine Calm.skip ?_ ?_; focus rfl)
                  | (refine Calm.pure (v := ?_) (by rfl) ?_ ?_
                     rotate_left
                     focus (intro w hSw; go_simp <;> rfl))
                simp only [Act.put, List.setIfInBounds_toArray, List.set_cons_zero, List.set_cons_succ]
              all_goals
                refine Calm.pure (v := ?_) (by rfl) ?_ ?_
                rotate_left
                focus (intro w hSw; go_simp <;> rfl)
                simp only [Act.put, List.setIfInBounds_toArray, List.set_cons_zero, List.set_cons_succ]
              all_goals
                rintro w9 ⟨R09, R19, R39, _, _, hbel9⟩
              go_wp2_with fail
              go_roundw
              case rel => exact ⟨k + 1, by simp, by omega, .inr ⟨b, hb, by omega, rfl, HL2⟩, R09, R19, R39, hbel9⟩
              case measure => simp [intOf]; omega
        · obtain rfl : k = x.wr.length := by omega
          have hlt' : ¬ (x.wr.length : Int) < (x.wr.length : Int) := by omega
          rw [List.take_length] at hor
          rcases hor with ⟨h0, rfl⟩ | ⟨b, hb, hbk, rfl, HL⟩
          · have HE2 : Hid (txs (wtx (lastW x.wr)) = []) := by
              show _ = _
              rw [List.eq_nil_of_length_eq_zero h0]
              rfl
            have hth : THas wr (.slice none 0 0) (txs (wtx (lastW x.wr))) := by rw [HE2.out]; exact THas.nil wr
            clear HE2 h0
            go_wp2_with (first | refine load_r 46 _ rfl rfl _ rfl R3 Try.underlying46 rfl size46 ?_ | refine store_r rfl 46 _ _ rfl _ #[.int .i64 2, .int .i64 0, .slice none 0 0, .slice none 0 0] rfl rfl R1 size46 rfl (by simp [Value.oneCell']) ?_)
            refine bodyPost_ret (results_r rfl rfl (R1.row #[.int .i64 2, .int .i64 0, .slice none 0 0, .slice none 0 0]) rfl Try.underlying46 size46) rfl ?_
            refine HP.out _ _ ?_ (below_setRow hbel (by omega) _)
            rw [HE.out]
            exact THas.rowV hth R1 _
          · have hblt : (b : Int) < (x.wr.length : Int) := by omega
            have hb0 : (0 : Int) ≤ (b : Int) := by omega
            obtain ⟨g, o, rfl, hd0⟩ := HF.out.t.at (by omega)
            have db := Wt.elem (range_later hd0 hbel) b hb
            obtain ⟨yb, HYB⟩ := hid_ex x.wr[b]
            rw [HYB.out] at db HL
            have c4 : wr.cell? ⟨g, o + b * 5 + 4, none⟩ = some (.string yb.x) := db 4 _ rfl
            have HE2 : Hid (txs (wtx (lastW x.wr)) = [bs yb.x]) := by
              show _ = _
              rw [HL.out]
              exact txs_one _
            have hth : THas (wr.alloc (.cells #[.string yb.x] 9)) (.slice (some ⟨wr.heap.size, 0, none⟩) 1 1) (txs (wtx (lastW x.wr))) := by rw [HE2.out]; exact thas_one wr _
            have hbA := bel_alloc (Below.refl wr.heap.size wr) (.cells #[.string yb.x] 9)
            replace R0 := R0.later hbA
            replace R1 := R1.later hbA
            replace R3 := R3.later hbA
            replace hbel := below_on hbel hbA
            clear hd0 db HL HYB hbA HE2
            have hwq : w.heap.size ≤ q3 := by omega
            obtain ⟨PP, hPP⟩ : ∃ PP, PP = some (⟨wr.heap.size, 0, none⟩ : Addr) := ⟨_, rfl⟩
            rw [← hPP] at hth
            generalize hW : wr.alloc (.cells #[.string yb.x] 9) = w3 at R0 R1 R3 hbel hth
            have c33 : w3.cell? ⟨q3, 2, none⟩ = some (.slice none 0 0) := R3.cell 2
            have f33 : w3.frozen? ⟨q3, 2, none⟩ = false := R3.frozen 2
            have R3' : Rw (w3.setCell ⟨q3, 2, none⟩ (.slice PP 1 1)) q3 46 #[.int .i64 2, .int .i64 0, .slice PP 1 1, .slice none 0 0] := R3.set 2 _
            have R1' := R1.setOther (q := q3) (by omega) 2 (.slice PP 1 1)
            have hth' := hth.overV c33 (.slice PP 1 1)
            have hbel' := hbel.setCell (p := ⟨q3, 2, none⟩) hwq (.slice PP 1 1)
            clear R1 hth hbel
            have R1 := R1'
            have hth := hth'
            have hbel := hbel'
            clear R1' hth' hbel'
            rw [hPP] at R3' R1 hth hbel
            generalize hW4 : w3.setCell ⟨q3, 2, none⟩ (.slice (some ⟨wr.heap.size, 0, none⟩) 1 1) = w4 at R3' R1 hth hbel
            go_wp2_with (first | rw [hW] | rw [hW4] | refine load_r 46 _ rfl rfl _ rfl R3' Try.underlying46 rfl size46 ?_ | refine store_r rfl 46 _ _ rfl _ #[.int .i64 2, .int .i64 0, .slice (some ⟨wr.heap.size, 0, none⟩) 1 1, .slice none 0 0] rfl rfl R1 size46 rfl (by simp [Value.oneCell']) ?_)
            refine bodyPost_ret (results_r rfl rfl (R1.row #[.int .i64 2, .int .i64 0, .slice (some ⟨wr.heap.size, 0, none⟩) 1 1, .slice none 0 0]) rfl Try.underlying46 size46) rfl ?_
            refine HP.out _ _ ?_ (below_setRow hbel (by omega) _)
            rw [HE.out]
            exact THas.rowV hth R1 _
    · have HE : Hid (rdW x = x.wr) := if_neg (by omega)
      rw [hk] at R0 HP ⊢
      have R3 := rw_new w1 46 #[.int .i64 3, .int .i64 0, .slice none 0 0, .slice none 0 0]
      have hbA := bel_alloc (Below.refl w1.heap.size w1) (.cells #[.int .i64 3, .int .i64 0, .slice none 0 0, .slice none 0 0] 46)
      have c0 : w1.cell? ⟨w.heap.size, 0, none⟩ = some (.int .i64 3) := R0.cell 0
      have HK : Hid (x.k = 3) := hk
      clear hk
      replace R0 := R0.later hbA
      replace R1 := R1.later hbA
      replace hbel := below_on hbel hbA
      generalize hW : w1.alloc (.cells #[.int .i64 3, .int .i64 0, .slice none 0 0, .slice none 0 0] 46) = w2 at R0 R1 R3 hbel hbA
      have HW : Hid (w1.alloc (.cells #[.int .i64 3, .int .i64 0, .slice none 0 0, .slice none 0 0] 46) = w2) := hW
      clear hW
      have c02 : w2.cell? ⟨w.heap.size, 0, none⟩ = some (.int .i64 3) := R0.cell 0
      have hq3 : w1.heap.size < w2.heap.size := R3.lt
      go_wp2_with (first | rw [HW.out])
      clear HW c0 c02 hbA
      generalize w1.heap.size = q3 at R3 hB hq3 ⊢
      go_loopw [4] (fun vi wr => ∃ (k : Nat) (pt : Option Addr) (ct : Nat) (L : List Bs), vi = .int .i64 k ∧ k ≤ x.wr.length ∧ Hid (L = txs (wtx (x.wr.take k))) ∧ Rw wr w.heap.size 27 (cvc 3 x.b (.slice pa x.am.length ca') (.slice pw x.wr.length cw) (.slice pm x.mb.length cm) (.slice pe x.el.length ce)) ∧ Rw wr (w.heap.size + 1) 46 #[.int .i64 0, .int .i64 0, .slice none 0 0, .slice none 0 0] ∧ Rw wr q3 46 #[.int .i64 3, .int .i64 0, .slice pt L.length ct, .slice none 0 0] ∧ THas wr (.slice pt L.length ct) L ∧ Below w.heap.size w wr) (fun vi _ => x.wr.length - (intOf vi).toNat)
      case atStart => exact ⟨0, none, 0, [], rfl, by omega, (rfl : _ = _), R0, R1, R3, THas.nil _, hbel⟩
      case round =>
        clear R0 R1 R3 hbel
        obtain ⟨k, pt, ct, L, rfl, hk, HL, R0, R1, R3, hth, hbel⟩ := hrel
        have c3 : wr.cell? ⟨w.heap.size, 3, none⟩ = some (.slice pw x.wr.length cw) := R0.cell 3
        by_cases hlt : k < x.wr.length
        · have hlt' : (k : Int) < (x.wr.length : Int) := by omega
          have hk0 : (0 : Int) ≤ (k : Int) := by omega
          obtain ⟨g, o, rfl, hd0⟩ := HF.out.t.at (by omega)
          have d := Wt.elem (range_later hd0 hbel) k hlt
          obtain ⟨y, HY⟩ := hid_ex x.wr[k]
          rw [HY.out] at d
          have c1 : wr.cell? ⟨g, o + k * 5 + 4, none⟩ = some (.string y.x) := d 4 _ rfl
          have HS : Hid (rise L (bs y.x) = txs (wtx (x.wr.take (k + 1)))) := by
            show _ = _
            rw [HL.out]
            unfold wtx
            rw [List.take_succ_eq_append_getElem hlt, List.map_append, List.map_cons, List.map_nil, txs_snoc, HY.out]
          have hup : up L := by rw [HL.out]; exact txs_up _
          have hl200 : L.length ≤ 200 := by
            rw [HL.out]
            have h1 := txs_length (wtx (x.wr.take k))
            rw [List.length_map, List.length_take] at h1
            omega
          clear hd0 d HY
          go_wp2_with fail
          clear c3
          have hS : Calm.Stays (fun w' => Below wr.heap.size wr w') := fun wa wb h hb => below_on h hb
          have hF : Facts.Stay [pF 0 (eqP (.pointer (some ⟨q3, 2, none⟩))), pF 1 (eqP (.slice pt L.length ct)), pF 2 (eqP (.pointer (some ⟨w.heap.size, 3, none⟩))), pF 3 (eqP (.slice (some ⟨g, o, none⟩) x.wr.length cw)), pF 4 (eqP (.int .i64 k)), pF 5 (eqP (.pointer (some ⟨g, o + k * 5, none⟩))), pF 6 (eqP (.pointer (some ⟨g, o + k * 5 + 4, none⟩))), pF 7 (eqP (.string y.x)), pF 8 (thP (rise L (bs y.x)))] := stay_of (by simp only [List.forall_mem_cons]; exact ⟨⟨_, _, rfl, eqP_keeps _⟩, ⟨_, _, rfl, eqP_keeps _⟩, ⟨_, _, rfl, eqP_keeps _⟩, ⟨_, _, rfl, eqP_keeps _⟩, ⟨_, _, rfl, eqP_keeps _⟩, ⟨_, _, rfl, eqP_keeps _⟩, ⟨_, _, rfl, eqP_keeps _⟩, ⟨_, _, rfl, eqP_keeps _⟩, ⟨_, _, rfl, thP_keeps _⟩, fun _ h => by cases h⟩)
          refine Facts.regionTail (by kernel_rfl) (by kernel_rfl) 9 (by decide) (by kernel_rfl) (fun w' => Below wr.heap.size wr w') (fun xv => { tmps := #[CV 3 x.b (Value.slice pa x.am.length ca') (Value.slice (some { block := g, off := o }) x.wr.length cw) (Value.slice pm x.mb.length cm) (Value.slice pe x.el.length ce), Value.pointer (some { block := w.heap.size, off := 0 }), Value.pointer (some { block := w.heap.size + 1, off := 0 }), Value.pointer (some { block := q3, off := 0 }), Value.int IntKind.i64 ↑k, undef, undef, Value.agg (cvc 3 x.b (Value.slice pa x.am.length ca') (Value.slice (some { block := g, off := o }) x.wr.length cw) (Value.slice pm x.mb.length cm) (Value.slice pe x.el.length ce)), Value.bool true, Value.bool false, undef, Value.pointer (some { block := w.heap.size, off := 0 }), Value.int IntKind.i64 3, Value.agg #[Value.int IntKind.i64 3, Value.int IntKind.i64 0, Value.slice none 0 0, Value.slice none 0 0], Value.pointer (some { block := w.heap.size, off := 0 }), Value.int IntKind.i64 3, Value.bool true, Value.int IntKind.i64 ↑k, Value.pointer (some { block := w.heap.size, off := 3 }), Value.slice (some { block := g, off := o }) x.wr.length cw, Value.int IntKind.i64 ↑x.wr.length, Value.bool true, u22, u23, xv 0, xv 1, xv 2, xv 3, xv 4, xv 5, xv 6, xv 7, xv 8, u33, undef, undef, undef, undef, undef, undef, undef, undef, undef, undef, undef, undef, undef, undef, undef, undef, undef, undef, undef, undef, undef, undef, undef, undef, undef, undef, undef, undef, undef, undef, undef, undef, undef, undef, undef, undef, undef], defers := [] }) [pF 0 (eqP (.pointer (some ⟨q3, 2, none⟩))), pF 1 (eqP (.slice pt L.length ct)), pF 2 (eqP (.pointer (some ⟨w.heap.size, 3, none⟩))), pF 3 (eqP (.slice (some ⟨g, o, none⟩) x.wr.length cw)), pF 4 (eqP (.int .i64 k)), pF 5 (eqP (.pointer (some ⟨g, o + k * 5, none⟩))), pF 6 (eqP (.pointer (some ⟨g, o + k * 5 + 4, none⟩))), pF 7 (eqP (.string y.x)), pF 8 (thP (rise L (bs y.x)))] _ rfl rfl (by kernel_rfl) (fun j => [u24, u25, u26, u27, u28, u29, u30, u31, u32].getD j undef) rfl (Below.refl _ wr).drew ⟨?_, ?_, ?_, ?_, ?_, ?_, ?_, ?_, ?_, ?_, ?_, trivial⟩ ?_
          · exact fun _ => Facts.pureP hS hF (fun _ _ => rfl) rfl (fun xv wv hSw hd => by
              go_simp)
          · exact fun _ => Facts.pureP hS hF (fun _ _ => rfl) rfl (fun xv wv hSw hd => by
              have d0 : xv 0 = _ := pF_get (hd ⟨0, .data⟩ (by simp) rfl _ rfl)
              have g1 : wr.cell? ⟨w.heap.size, 3, none⟩ = some (.slice (some ⟨g, o, none⟩) x.wr.length cw) := R0.cell 3
              have g2 := cell_later hSw g1
              have g3 : wr.cell? ⟨q3, 2, none⟩ = some (.slice pt L.length ct) := R3.cell 2
              have g4 := cell_later hSw g3
              have g5 := cell_later hSw c1
              simp only [d0]
              go_simp)
          · exact fun _ => Facts.pureP hS hF (fun _ _ => rfl) rfl (fun xv wv hSw hd => by
              go_simp)
          · exact fun _ => Facts.pureP hS hF (fun _ _ => rfl) rfl (fun xv wv hSw hd => by
              have d2 : xv 2 = _ := pF_get (hd ⟨2, .data⟩ (by simp) rfl _ rfl)
              have g1 : wr.cell? ⟨w.heap.size, 3, none⟩ = some (.slice (some ⟨g, o, none⟩) x.wr.length cw) := R0.cell 3
              have g2 := cell_later hSw g1
              have g3 : wr.cell? ⟨q3, 2, none⟩ = some (.slice pt L.length ct) := R3.cell 2
              have g4 := cell_later hSw g3
              have g5 := cell_later hSw c1
              simp only [d2]
              go_simp)
          · exact fun _ => Facts.pureP hS hF (fun _ _ => rfl) rfl (fun xv wv hSw hd => by
              go_simp)
          · exact fun _ => Facts.pureP hS hF (fun _ _ => rfl) rfl (fun xv wv hSw hd => by
              have d3 : xv 3 = _ := pF_get (hd ⟨3, .data⟩ (by simp) rfl _ rfl)
              have d4 : xv 4 = _ := pF_get (hd ⟨4, .data⟩ (by simp) rfl _ rfl)
              simp only [d3, d4]
              go_simp)
          · exact fun _ => Facts.pureP hS hF (fun _ _ => rfl) rfl (fun xv wv hSw hd => by
              have d5 : xv 5 = _ := pF_get (hd ⟨5, .data⟩ (by simp) rfl _ rfl)
              simp only [d5]
              go_simp)
          · exact fun _ => Facts.pureP hS hF (fun _ _ => rfl) rfl (fun xv wv hSw hd => by
              have d6 : xv 6 = _ := pF_get (hd ⟨6, .data⟩ (by simp) rfl _ rfl)
              have g1 : wr.cell? ⟨w.heap.size, 3, none⟩ = some (.slice (some ⟨g, o, none⟩) x.wr.length cw) := R0.cell 3
              have g2 := cell_later hSw g1
              have g3 : wr.cell? ⟨q3, 2, none⟩ = some (.slice pt L.length ct) := R3.cell 2
              have g4 := cell_later hSw g3
              have g5 := cell_later hSw c1
              simp only [d6]
              go_simp)
          · refine fun _ => Facts.call2P hS hF (fun _ _ => rfl) rfl (by kernel_rfl) rfl (fun xv wv hSw hd => ?_)
            have d1 : xv 1 = _ := pF_get (hd ⟨1, .data⟩ (by simp) rfl _ rfl)
            have d7 : xv 7 = _ := pF_get (hd ⟨7, .data⟩ (by simp) rfl _ rfl)
            rw [show Act.eval _ _ = xv 1 from rfl, d1, show Act.eval _ _ = xv 7 from rfl, d7]
            refine (rise_any _ _ _ _ (hth.later hSw) hl200 hup).mono ?_
            rintro e w' ⟨u, he, ho, hb⟩
            exact ⟨u, he, ho, hb⟩
          · exact fun h => absurd h (by decide)
          · exact fun h => absurd h (by decide)
          intro x9 w5 hb5 hf
          have e8 := pF_get (hf 8 _ rfl)
          replace e8 : THas w5 (x9 8) (rise L (bs y.x)) := e8
          clear hS hF hf
          obtain ⟨pz, cz, hz⟩ := e8.slice
          rw [hz] at e8
          replace R0 := R0.later hb5
          replace R1 := R1.later hb5
          replace R3 := R3.later hb5
          replace hbel := below_on hbel hb5
          clear hb5 c1 hth
          have c33 : w5.cell? ⟨q3, 2, none⟩ = some (.slice pt L.length ct) := R3.cell 2
          have f33 : w5.frozen? ⟨q3, 2, none⟩ = false := R3.frozen 2
          refine tail_pure (v := .pointer (some ⟨q3, 2, none⟩)) (by go_simp) ?_
          refine tail_store 43 _ _ rfl _ _ rfl (show _ = Value.slice pz (rise L (bs y.x)).length cz from hz) (store43 c33 f33) ?_
          refine Facts.tailWp_nil ?_
          have R3' : Rw (w5.setCell ⟨q3, 2, none⟩ (.slice pz (rise L (bs y.x)).length cz)) q3 46 #[.int .i64 3, .int .i64 0, .slice pz (rise L (bs y.x)).length cz, .slice none 0 0] := R3.set 2 _
          replace R0 := R0.setOther (q := q3) (by omega) 2 (.slice pz (rise L (bs y.x)).length cz)
          replace R1 := R1.setOther (q := q3) (by omega) 2 (.slice pz (rise L (bs y.x)).length cz)
          replace e8 := e8.overV c33 (.slice pz (rise L (bs y.x)).length cz)
          replace hbel := hbel.setCell (p := ⟨q3, 2, none⟩) (show w.heap.size ≤ q3 by omega) (.slice pz (rise L (bs y.x)).length cz)
          generalize w5.setCell ⟨q3, 2, none⟩ (.slice pz (rise L (bs y.x)).length cz) = w6 at R3' R0 R1 e8 hbel ⊢
          go_wp2_with fail
          go_roundw
          case rel => exact ⟨k + 1, pz, cz, _, by simp, by omega, HS, R0, R1, R3', e8, hbel⟩
          case measure => simp [intOf]; omega
        · obtain rfl : k = x.wr.length := by omega
          have hlt' : ¬ (x.wr.length : Int) < (x.wr.length : Int) := by omega
          rw [List.take_length] at HL
          have HTH : Hid (∀ w', THas w' (.slice pt L.length ct) L → THas w' (.slice pt L.length ct) (txs (wtx x.wr))) := fun w' h => by rw [← HL.out]; exact h
          go_wp2_with (first | refine load_r 46 _ rfl rfl _ rfl R3 Try.underlying46 rfl size46 ?_ | refine store_r rfl 46 _ _ rfl _ #[.int .i64 3, .int .i64 0, .slice pt L.length ct, .slice none 0 0] rfl rfl R1 size46 rfl (by simp [Value.oneCell']) ?_)
          refine bodyPost_ret (results_r rfl rfl (R1.row #[.int .i64 3, .int .i64 0, .slice pt L.length ct, .slice none 0 0]) rfl Try.underlying46 size46) rfl ?_
          refine HP.out _ _ ?_ (below_setRow hbel (by omega) _)
          rw [HE.out]
          exact HTH.out _ (THas.rowV hth R1 _)
end Go.Proofs.Ytknpnjhedfdggaa
