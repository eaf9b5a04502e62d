/- What CounterClears says, of every cell, transaction and index. -/
import Derived.Test.YtfjpjodaaofgbaaHeads
import Derived.Test.YtfjpjodaaofgbaaSml
namespace Go.Proofs.Ytfjpjodaaofgbaa
open Go.RowKit

/-- What a clearing leaves: of a cell that may be. -/
abbrev cY (x : X) (q u : Int) (v : List Int) (idx : Int) : X := ⟨1, 0, lef x q u v idx, [], [], []⟩
theorem ck_clear {x : X} {q u : Int} {v : List Int} {idx : Int} (hc : ck x = true) : ck (cY x q u v idx) = true := by
  unfold ck wi
  have e1 : ca (lef x q u v idx) = true := ca_filter (ck_parts hc).2.2.2.2.2 _
  simp only [e1, Bool.and_true, Bool.and_eq_true, decide_eq_true_eq, List.length_nil]
  decide
theorem clear_again {x : X} {q u : Int} {v : List Int} {idx : Int} (hc : ck (cY x q u v idx) = true) : clX (cY x q u v idx) q u v idx = cY x q u v idx := by
  have e1 : lef (cY x q u v idx) q u v idx = lef x q u v idx := by
    show (x.am.filter _).filter _ = _
    rw [List.filter_filter]
    simp [lef]
  unfold clX
  rw [if_pos hc, e1]
theorem filter_take_succ {l : List A} {f : A → Bool} {k : Nat} (h : k < l.length) : sm ((l.take (k + 1)).filter f) = sm ((l.take k).filter f) + (if f l[k] = true then l[k].n else 0) := by
  rw [List.take_succ_eq_append_getElem h, List.filter_append, sm_append]
  congr 1
  cases e : f l[k]
  · rw [List.filter_cons_of_neg (by rw [e]; simp)]
    simp [sm]
  · rw [List.filter_cons_of_pos e]
    simp [sm]
set_option maxHeartbeats 8000000 in
set_option maxRecDepth 100000 in
theorem clears_any (x : X) (va vw vm ve : Value) (q u : Int) (v : List Int) (t : Int) (sl : Value) (lo : List O) (idx : Int) (w : World) (hv : v.length = 13) (ho : OHas w sl lo) (h : Four w x va vw vm ve) (hl : Lk x) : Calls Try.prog 3 #[CV x.k x.b va vw vm ve, TxV q u v t sl, .int .i64 idx] w (Tells (.bool true) w) := by
  obtain ⟨pa, ca', pw, cw, pm, cm, pe, ce, rfl, rfl, rfl, rfl⟩ := h.slices
  obtain ⟨R0, R1, hbel⟩ := two_rows w (cvc x.k x.b (.slice pa x.am.length ca') (.slice pw x.wr.length cw) (.slice pm x.mb.length cm) (.slice pe x.el.length ce)) 27 (txc q u v t sl).toArray 34
  replace h := h.later hbel
  replace ho := ho.later hbel
  generalize hW : (w.alloc (.cells (cvc x.k x.b (.slice pa x.am.length ca') (.slice pw x.wr.length cw) (.slice pm x.mb.length cm) (.slice pe x.el.length ce)) 27)).alloc (.cells (txc q u v t sl).toArray 34) = w0 at R0 R1 hbel h ho
  have zt := size_tx (p := q) (s := u) (t := t) (sl := sl) hv
  go_enter Try.func3, Try.ntmps3
  go_wp2_with (first | rw [hW] | refine load_r 27 _ rfl rfl _ rfl R0 Try.underlying27 rfl size27 ?_)
  clear hW
  refine (few_any x _ _ _ _ w0 h hl).mono ?_
  rintro e w1 ⟨bf1, rfl, hfw, hb1⟩
  have HFW : Hid (bf1 = true → Fw x) := hfw
  replace R0 := R0.later hb1
  replace R1 := R1.later hb1
  replace h := h.later hb1
  replace ho := ho.later hb1
  replace hbel := below_on hbel hb1
  clear hb1 hfw hl
  cases bf1
  · clear HFW
    go_wp2_with fail
    refine (heads_any _).mono ?_
    rintro e w9 ⟨rfl, hb9⟩
    go_wp2_with fail
    go_ret
    exact ⟨rfl, below_on hbel hb9⟩
  · have hf := HFW.out rfl
    have hs := hf.sm
    have h60 : x.am.length ≤ 60 := by have := hf.n; omega
    clear HFW hf
    go_wp2_with (first | refine load_r 27 _ rfl rfl _ rfl R0 Try.underlying27 rfl size27 ?_)
    refine (refCheck_any x _ _ _ _ w1 h hs).mono ?_
    rintro e w2 ⟨rfl, hb1⟩
    replace R0 := R0.later hb1
    replace R1 := R1.later hb1
    replace h := h.later hb1
    replace ho := ho.later hb1
    replace hbel := below_on hbel hb1
    clear hb1
    obtain ⟨y1, HY1⟩ := hid_ex (ck x)
    rw [HY1.out]
    cases y1
    · go_wp2_with fail
      refine (heads_any _).mono ?_
      rintro e w9 ⟨rfl, hb9⟩
      go_wp2_with fail
      go_ret
      exact ⟨rfl, below_on hbel hb9⟩
    · go_wp2_with (first | refine load_r 34 _ rfl rfl _ rfl R1 Try.underlying34 rfl zt ?_)
      refine (small_any q u v t sl lo w2 hv ho).mono ?_
      rintro e w3 ⟨bs, rfl, _, hb1⟩
      replace R0 := R0.later hb1
      replace R1 := R1.later hb1
      replace h := h.later hb1
      replace hbel := below_on hbel hb1
      clear hb1 ho
      cases bs
      · go_wp2_with fail
        refine (heads_any _).mono ?_
        rintro e w9 ⟨rfl, hb9⟩
        go_wp2_with fail
        go_ret
        exact ⟨rfl, below_on hbel hb9⟩
      · have HNB : Hid (nb x.am) := ca_nb (ck_parts HY1.out).2.2.2.2.2
        have HA : Hid (Four w3 x (.slice pa x.am.length ca') (.slice pw x.wr.length cw) (.slice pm x.mb.length cm) (.slice pe x.el.length ce)) := h
        have hbel3 := Below.refl w3.heap.size w3
        clear h
        go_wp2_with fail
        go_loopw [7, 8] (fun vn vi wr => ∃ k : Nat, vi = .int .i64 k ∧ k ≤ x.am.length ∧ vn = .int .i64 (sm ((x.am.take k).filter (fun a => !bf a.p a.s a.i q u v idx))) ∧ Rw wr w.heap.size 27 (cvc x.k x.b (.slice pa x.am.length ca') (.slice pw x.wr.length cw) (.slice pm x.mb.length cm) (.slice pe x.el.length ce)) ∧ Rw wr (w.heap.size + 1) 34 (txc q u v t sl).toArray ∧ Below w3.heap.size w3 wr) (fun _ vi _ => x.am.length - (intOf vi).toNat)
        case atStart => exact ⟨0, rfl, by omega, rfl, R0, R1, hbel3⟩
        case round =>
          clear R0 R1 hbel3
          obtain ⟨k, rfl, hk, rfl, R0, R1, hbel3⟩ := hrel
          have c2 : wr.cell? ⟨w.heap.size, 2, none⟩ = some (.slice pa x.am.length ca') := R0.cell 2
          by_cases hlt : k < x.am.length
          · have hlt' : (k : Int) < (x.am.length : Int) := by omega
            obtain ⟨g, o, rfl, hd0⟩ := HA.out.a.at (by omega)
            have d := AHas.elem (range_later hd0 hbel3) k hlt
            have hst := filter_take_succ (f := fun a => !bf a.p a.s a.i q u v idx) hlt
            obtain ⟨y, HY⟩ := hid_ex x.am[k]
            have hyn := HNB.out x.am[k] (List.getElem_mem _)
            rw [HY.out] at d hst hyn
            clear hd0 HY
            have hsb := sm_bound _ (nb_filter (nb_take HNB.out k) (fun a => !bf a.p a.s a.i q u v idx))
            have hlk : ((x.am.take k).filter (fun a => !bf a.p a.s a.i q u v idx)).length ≤ 60 := by
              have h1 := List.length_filter_le (fun a => !bf a.p a.s a.i q u v idx) (x.am.take k)
              rw [List.length_take] at h1
              omega
            obtain ⟨n, HN⟩ := hid_ex (sm ((x.am.take k).filter (fun a => !bf a.p a.s a.i q u v idx)))
            rw [HN.out] at hst hsb
            rw [HN.out]
            have hnb : -64424509440 ≤ n ∧ n ≤ 64424509440 := by omega
            clear hsb hlk
            obtain ⟨hn1, hn2⟩ := hnb
            obtain ⟨hy1, hy2⟩ := hyn
            have d3 : wr.cell? ⟨g, o + k * 4 + 3, none⟩ = some (.int .i64 y.n) := d 3 _ rfl
            have C1 := fun w => refBefore_any y.p y.s y.i q u v t sl idx w hv
            obtain ⟨z, HZ⟩ := hid_ex (bf y.p y.s y.i q u v idx)
            rw [HZ.out] at C1 hst
            have HST : Hid (sm ((x.am.take (k + 1)).filter (fun a => !bf a.p a.s a.i q u v idx)) = n + (if (!z) = true then y.n else 0)) := hst
            clear hst
            have zm : (Try.prog.info? 40).map (·.size) = some [Value.int .i64 y.p, .int .i64 y.s, .int .i64 y.i].length := size40
            have ztx : (Try.prog.info? 34).map (·.size) = some (txc q u v t sl).length := by rw [txc_length hv]; exact size34
            go_wp2_with fail
            cases z
            · -- it is not ahead
              have hs : Calm.Stays (fun w' => Rw w' w.heap.size 27 (cvc x.k x.b (.slice (some ⟨g, o, none⟩) x.am.length ca') (.slice pw x.wr.length cw) (.slice pm x.mb.length cm) (.slice pe x.el.length ce)) ∧ Rw w' (w.heap.size + 1) 34 (txc q u v t sl).toArray ∧ w'.rangeAt g (o + k * 4) y.cells ∧ Below w3.heap.size w3 w') := fun wa wb h hb => ⟨h.1.later hb, h.2.1.later hb, range_later h.2.2.1 hb, below_on h.2.2.2 hb⟩
              refine Calm.region (by kernel_rfl) (by kernel_rfl) (fun w' => Rw w' w.heap.size 27 (cvc x.k x.b (.slice (some ⟨g, o, none⟩) x.am.length ca') (.slice pw x.wr.length cw) (.slice pm x.mb.length cm) (.slice pe x.el.length ce)) ∧ Rw w' (w.heap.size + 1) 34 (txc q u v t sl).toArray ∧ w'.rangeAt g (o + k * 4) y.cells ∧ Below w3.heap.size w3 w') ⟨R0, R1, d, hbel3.drew⟩ ?_
              all_goals
                refine Calm.pure (v := ?_) (by rfl) ?_ ?_
                rotate_left
                focus (intro w hSw; go_simp <;> rfl)
                simp only [Act.put, List.setIfInBounds_toArray, List.set_cons_zero, List.set_cons_succ]
              all_goals
                refine Calm.pure (v := ?_) (by rfl) ?_ ?_
                rotate_left
                focus (intro w hSw; have g1 := hSw.1.cell 2; simp at g1; go_simp <;> rfl)
                simp only [Act.put, List.setIfInBounds_toArray, List.set_cons_zero, List.set_cons_succ]
              all_goals
                refine Calm.pure (v := ?_) (by rfl) ?_ ?_
                rotate_left
                focus (intro w hSw; go_simp <;> rfl)
                simp only [Act.put, List.setIfInBounds_toArray, List.set_cons_zero, List.set_cons_succ]
              all_goals
                refine Calm.pure (v := ?_) (by rfl) ?_ ?_
                rotate_left
                focus (intro w hSw; go_simp <;> rfl)
                simp only [Act.put, List.setIfInBounds_toArray, List.set_cons_zero, List.set_cons_succ]
              all_goals
                refine Calm.pure (v := ?_) (by rfl) ?_ ?_
                rotate_left
                focus (intro w hSw; go_simp <;> rfl)
                simp only [Act.put, List.setIfInBounds_toArray, List.set_cons_zero, List.set_cons_succ]
              all_goals
                refine Calm.loadM 40 Try.underlying40 rfl zm (by rfl) _ rfl rfl (fun _ h => A.mark h.2.2.1) ?_
                simp only [Act.put, List.setIfInBounds_toArray, List.set_cons_zero, List.set_cons_succ]
              all_goals
                refine Calm.loadM 34 Try.underlying34 rfl ztx (by rfl) _ rfl rfl (fun _ h => Rw.whole h.2.1) ?_
                simp only [Act.put, List.setIfInBounds_toArray, List.set_cons_zero, List.set_cons_succ]
              all_goals
                refine Calm.pure (v := ?_) (by rfl) ?_ ?_
                rotate_left
                focus (intro w hSw; go_simp <;> rfl)
                simp only [Act.put, List.setIfInBounds_toArray, List.set_cons_zero, List.set_cons_succ]
              all_goals
                refine Calm.call3s (by rfl) rfl rfl rfl rfl (by kernel_rfl) hs (fun w1 h => C1 w1) ?_
                simp only [Act.put, List.setIfInBounds_toArray, List.set_cons_zero, List.set_cons_succ]
              all_goals
                refine Calm.pure (v := ?_) (by rfl) ?_ ?_
                rotate_left
                focus (intro w hSw; go_simp <;> rfl)
                simp only [Act.put, List.setIfInBounds_toArray, List.set_cons_zero, List.set_cons_succ]
              all_goals
                rintro w9 ⟨R09, R19, d9, hbel9⟩
              have c29 : w9.cell? ⟨w.heap.size, 2, none⟩ = some (.slice (some ⟨g, o, none⟩) x.am.length ca') := R09.cell 2
              have d39 : w9.cell? ⟨g, o + k * 4 + 3, none⟩ = some (.int .i64 y.n) := d9 3 _ rfl
              go_wp2_with fail
              go_roundw
              case rel =>
                refine ⟨k + 1, by simp, by omega, ?_, R09, R19, hbel9⟩
                rw [HST.out]
                simp
              case measure => simp [intOf]; omega
            · -- it is
              have hs : Calm.Stays (fun w' => Rw w' w.heap.size 27 (cvc x.k x.b (.slice (some ⟨g, o, none⟩) x.am.length ca') (.slice pw x.wr.length cw) (.slice pm x.mb.length cm) (.slice pe x.el.length ce)) ∧ Rw w' (w.heap.size + 1) 34 (txc q u v t sl).toArray ∧ w'.rangeAt g (o + k * 4) y.cells ∧ Below w3.heap.size w3 w') := fun wa wb h hb => ⟨h.1.later hb, h.2.1.later hb, range_later h.2.2.1 hb, below_on h.2.2.2 hb⟩
              refine Calm.region (by kernel_rfl) (by kernel_rfl) (fun w' => Rw w' w.heap.size 27 (cvc x.k x.b (.slice (some ⟨g, o, none⟩) x.am.length ca') (.slice pw x.wr.length cw) (.slice pm x.mb.length cm) (.slice pe x.el.length ce)) ∧ Rw w' (w.heap.size + 1) 34 (txc q u v t sl).toArray ∧ w'.rangeAt g (o + k * 4) y.cells ∧ Below w3.heap.size w3 w') ⟨R0, R1, d, hbel3.drew⟩ ?_
              all_goals
                refine Calm.pure (v := ?_) (by rfl) ?_ ?_
                rotate_left
                focus (intro w hSw; go_simp <;> rfl)
                simp only [Act.put, List.setIfInBounds_toArray, List.set_cons_zero, List.set_cons_succ]
              all_goals
                refine Calm.pure (v := ?_) (by rfl) ?_ ?_
                rotate_left
                focus (intro w hSw; have g1 := hSw.1.cell 2; simp at g1; go_simp <;> rfl)
                simp only [Act.put, List.setIfInBounds_toArray, List.set_cons_zero, List.set_cons_succ]
              all_goals
                refine Calm.pure (v := ?_) (by rfl) ?_ ?_
                rotate_left
                focus (intro w hSw; go_simp <;> rfl)
                simp only [Act.put, List.setIfInBounds_toArray, List.set_cons_zero, List.set_cons_succ]
              all_goals
                refine Calm.pure (v := ?_) (by rfl) ?_ ?_
                rotate_left
                focus (intro w hSw; go_simp <;> rfl)
                simp only [Act.put, List.setIfInBounds_toArray, List.set_cons_zero, List.set_cons_succ]
              all_goals
                refine Calm.pure (v := ?_) (by rfl) ?_ ?_
                rotate_left
                focus (intro w hSw; go_simp <;> rfl)
                simp only [Act.put, List.setIfInBounds_toArray, List.set_cons_zero, List.set_cons_succ]
              all_goals
                refine Calm.loadM 40 Try.underlying40 rfl zm (by rfl) _ rfl rfl (fun _ h => A.mark h.2.2.1) ?_
                simp only [Act.put, List.setIfInBounds_toArray, List.set_cons_zero, List.set_cons_succ]
              all_goals
                refine Calm.loadM 34 Try.underlying34 rfl ztx (by rfl) _ rfl rfl (fun _ h => Rw.whole h.2.1) ?_
                simp only [Act.put, List.setIfInBounds_toArray, List.set_cons_zero, List.set_cons_succ]
              all_goals
                refine Calm.pure (v := ?_) (by rfl) ?_ ?_
                rotate_left
                focus (intro w hSw; go_simp <;> rfl)
                simp only [Act.put, List.setIfInBounds_toArray, List.set_cons_zero, List.set_cons_succ]
              all_goals
                refine Calm.call3s (by rfl) rfl rfl rfl rfl (by kernel_rfl) hs (fun w1 h => C1 w1) ?_
                simp only [Act.put, List.setIfInBounds_toArray, List.set_cons_zero, List.set_cons_succ]
              all_goals
                refine Calm.pure (v := ?_) (by rfl) ?_ ?_
                rotate_left
                focus (intro w hSw; go_simp <;> rfl)
                simp only [Act.put, List.setIfInBounds_toArray, List.set_cons_zero, List.set_cons_succ]
              all_goals
                rintro w9 ⟨R09, R19, d9, hbel9⟩
              go_wp2_with fail
              go_roundw
              case rel =>
                refine ⟨k + 1, by simp, by omega, ?_, R09, R19, hbel9⟩
                rw [HST.out]
                simp
              case measure => simp [intOf]; omega
          · obtain rfl : k = x.am.length := by omega
            have hlt' : ¬ (x.am.length : Int) < (x.am.length : Int) := by omega
            rw [List.take_length]
            obtain ⟨n, HN⟩ := hid_ex (sm (x.am.filter (fun a => !bf a.p a.s a.i q u v idx)))
            rw [HN.out]
            have h := HA.out.later hbel3
            replace hbel := below_on hbel hbel3
            clear HA HNB hbel3
            go_wp2_with (first | refine load_r 27 _ rfl rfl _ rfl R0 Try.underlying27 rfl size27 ?_ | refine load_r 34 _ rfl rfl _ rfl R1 Try.underlying34 rfl zt ?_)
            clear c2
            have hc := clear_any x _ _ _ _ q u v t sl idx wr hv h hs
            rw [show clX x q u v idx = cY x q u v idx by unfold clX; rw [if_pos HY1.out]] at hc
            have HCF : Hid (ck (cY x q u v idx) = true) := ck_clear HY1.out
            replace hc : Calls Try.prog 12 _ wr (fun e w' => ∃ va vw vm ve, e = .returned (CV 1 0 va vw vm ve) ∧ Four w' (cY x q u v idx) va vw vm ve ∧ Below wr.heap.size wr w') := hc
            refine hc.mono ?_
            clear hc
            rintro e w5 ⟨va, vw, vm, ve, rfl, Ff, hb1⟩
            obtain ⟨qa, da, qw, dw, qm, dm, qe, de, rfl, rfl, rfl, rfl⟩ := (show ∃ pa ca pw cw pm cm pe ce, va = .slice pa (lef x q u v idx).length ca ∧ vw = .slice pw 0 cw ∧ vm = .slice pm 0 cm ∧ ve = .slice pe 0 ce from Ff.slices)
            replace R1 := R1.later hb1
            replace hbel := below_on hbel hb1
            clear hb1 h R0
            have hba := bel_alloc (Below.refl w5.heap.size w5) (.cells (cvc 1 0 (.slice qa (lef x q u v idx).length da) (.slice qw 0 dw) (.slice qm 0 dm) (.slice qe 0 de)) 27)
            have Rp := rw_new w5 27 (cvc 1 0 (.slice qa (lef x q u v idx).length da) (.slice qw 0 dw) (.slice qm 0 dm) (.slice qe 0 de))
            generalize hW : w5.alloc (.cells (cvc 1 0 (.slice qa (lef x q u v idx).length da) (.slice qw 0 dw) (.slice qm 0 dm) (.slice qe 0 de)) 27) = w4 at hba Rp
            go_wp2_with (first | rw [hW])
            clear hW
            replace R1 := R1.later hba
            replace Ff := Ff.later hba
            replace hbel := below_on hbel hba
            clear hba
            generalize w5.heap.size = p at Rp ⊢
            have hsf : Sm (cY x q u v idx) := ⟨Nat.le_trans (List.length_filter_le _ _) hs.a, by simp, by simp, by simp, (fun _ h => by cases h), (fun _ h => by cases h)⟩
            have hrn : rdN (cY x q u v idx) = n := by
              rw [(rd_ok HCF.out).2]
              show 0 + sm (lef x q u v idx) = n
              rw [← HN.out, Int.zero_add]
              rfl
            have C1 := fun w' (hb : Below w4.heap.size w4 w') => check_any _ _ _ _ _ w' (Ff.later hb) hsf
            have C2 := fun w' (hb : Below w4.heap.size w4 w') => read_any _ _ _ _ _ w' (Ff.later hb) hsf
            have C4 := fun w' (hb : Below w4.heap.size w4 w') => clear_any _ _ _ _ _ q u v t sl idx w' hv (Ff.later hb) hsf
            rw [HCF.out] at C1
            rw [hrn, (rd_ok HCF.out).1] at C2
            rw [clear_again HCF.out] at C4
            clear hrn HCF HN
            have zf : (Try.prog.info? 27).map (·.size) = some ([Value.int .i64 1, .int .i64 0, .slice qa (lef x q u v idx).length da, .slice qw 0 dw, .slice qm 0 dm, .slice qe 0 de] : List Value).length := size27
            have zc : (Try.prog.info? 34).map (·.size) = some (txc q u v t sl).length := by rw [txc_length hv]; exact size34
            have hS : Calm.Stays (fun w' => Below w4.heap.size w4 w') := fun wa wb h hb => below_on h hb
            have hF : Facts.Stay [pF 0 (eqP (.agg ([Value.int .i64 1, .int .i64 0, .slice qa (lef x q u v idx).length da, .slice qw 0 dw, .slice qm 0 dm, .slice qe 0 de] : List Value).toArray)), pF 1 (eqP (VV 1 n)), pF 2 (eqP (.int .i64 n)), pF 3 (eqP (.int .i64 n)), pF 4 (eqP (.bool true)), pF 5 (eqP (.bool true)), pF 6 (eqP (.agg ([Value.int .i64 1, .int .i64 0, .slice qa (lef x q u v idx).length da, .slice qw 0 dw, .slice qm 0 dm, .slice qe 0 de] : List Value).toArray)), pF 7 (eqP (.bool true)), pF 8 (eqP (.bool true)), pF 9 (eqP (.bool true)), pF 10 (eqP (.agg ([Value.int .i64 1, .int .i64 0, .slice qa (lef x q u v idx).length da, .slice qw 0 dw, .slice qm 0 dm, .slice qe 0 de] : List Value).toArray)), pF 11 (eqP (.agg (txc q u v t sl).toArray)), pF 12 (eqP (.int .i64 idx)), pF 13 (cP (cY x q u v idx)), pF 14 (eqP (.agg ([Value.int .i64 1, .int .i64 0, .slice qa (lef x q u v idx).length da, .slice qw 0 dw, .slice qm 0 dm, .slice qe 0 de] : List Value).toArray)), pF 15 (eqP (.bool true)), pF 16 (eqP (.bool true)), pF 17 (eqP (.bool true)), pF 18 (eqP (.bool true)), pF 19 (eqP (.bool true)), pF 20 (eqP (.bool true))] := stay_of (by simp only [List.forall_mem_cons]; exact ⟨⟨_, _, rfl, eqP_keeps _⟩, ⟨_, _, rfl, eqP_keeps _⟩, ⟨_, _, rfl, eqP_keeps _⟩, ⟨_, _, rfl, eqP_keeps _⟩, ⟨_, _, rfl, eqP_keeps _⟩, ⟨_, _, rfl, eqP_keeps _⟩, ⟨_, _, rfl, eqP_keeps _⟩, ⟨_, _, rfl, eqP_keeps _⟩, ⟨_, _, rfl, eqP_keeps _⟩, ⟨_, _, rfl, eqP_keeps _⟩, ⟨_, _, rfl, eqP_keeps _⟩, ⟨_, _, rfl, eqP_keeps _⟩, ⟨_, _, rfl, eqP_keeps _⟩, ⟨_, _, rfl, cP_keeps _⟩, ⟨_, _, rfl, eqP_keeps _⟩, ⟨_, _, rfl, eqP_keeps _⟩, ⟨_, _, rfl, eqP_keeps _⟩, ⟨_, _, rfl, eqP_keeps _⟩, ⟨_, _, rfl, eqP_keeps _⟩, ⟨_, _, rfl, eqP_keeps _⟩, ⟨_, _, rfl, eqP_keeps _⟩, fun _ h => by cases h⟩)
            refine FactsG.region (by kernel_rfl) (by kernel_rfl) (fun w' => Below w4.heap.size w4 w') (fun xv => { tmps := #[CV x.k x.b (Value.slice pa x.am.length ca') (Value.slice pw x.wr.length cw) (Value.slice pm x.mb.length cm) (Value.slice pe x.el.length ce), TxV q u v t sl, Value.int IntKind.i64 idx, Value.pointer (some { block := w.heap.size, off := 0 }), Value.pointer (some { block := w.heap.size + 1, off := 0 }), undef, xv 20, Value.int IntKind.i64 n, Value.int IntKind.i64 ↑x.am.length, Value.pointer (some { block := p, off := 0 }), Value.agg (cvc x.k x.b (Value.slice pa x.am.length ca') (Value.slice pw x.wr.length cw) (Value.slice pm x.mb.length cm) (Value.slice pe x.el.length ce)), Value.bool true, Value.bool false, Value.bool false, Value.agg (cvc x.k x.b (Value.slice pa x.am.length ca') (Value.slice pw x.wr.length cw) (Value.slice pm x.mb.length cm) (Value.slice pe x.el.length ce)), Value.bool true, Value.bool false, Value.bool false, Value.bool false, Value.agg (txc q u v t sl).toArray, Value.bool true, Value.bool false, Value.bool false, undef, Value.int IntKind.i64 ↑x.am.length, Value.pointer (some { block := w.heap.size, off := 2 }), Value.slice pa x.am.length ca', Value.int IntKind.i64 ↑x.am.length, Value.bool false, u29, u30, u31, u32, u33, u34, u35, u36, u37, u38, u39, u40, u41, u42, u43, u44, u45, u46, u47, u48, Value.agg (cvc x.k x.b (Value.slice pa x.am.length ca') (Value.slice pw x.wr.length cw) (Value.slice pm x.mb.length cm) (Value.slice pe x.el.length ce)), Value.agg (txc q u v t sl).toArray, Value.int IntKind.i64 idx, CV 1 0 (Value.slice qa (lef x q u v idx).length da) (Value.slice qw 0 dw) (Value.slice qm 0 dm) (Value.slice qe 0 de), xv 0, xv 1, xv 2, xv 3, xv 4, xv 5, xv 6, xv 7, xv 8, xv 9, xv 10, xv 11, xv 12, xv 13, xv 14, xv 15, xv 16, xv 17, xv 18, xv 19], defers := [] }) [pF 0 (eqP (.agg ([Value.int .i64 1, .int .i64 0, .slice qa (lef x q u v idx).length da, .slice qw 0 dw, .slice qm 0 dm, .slice qe 0 de] : List Value).toArray)), pF 1 (eqP (VV 1 n)), pF 2 (eqP (.int .i64 n)), pF 3 (eqP (.int .i64 n)), pF 4 (eqP (.bool true)), pF 5 (eqP (.bool true)), pF 6 (eqP (.agg ([Value.int .i64 1, .int .i64 0, .slice qa (lef x q u v idx).length da, .slice qw 0 dw, .slice qm 0 dm, .slice qe 0 de] : List Value).toArray)), pF 7 (eqP (.bool true)), pF 8 (eqP (.bool true)), pF 9 (eqP (.bool true)), pF 10 (eqP (.agg ([Value.int .i64 1, .int .i64 0, .slice qa (lef x q u v idx).length da, .slice qw 0 dw, .slice qm 0 dm, .slice qe 0 de] : List Value).toArray)), pF 11 (eqP (.agg (txc q u v t sl).toArray)), pF 12 (eqP (.int .i64 idx)), pF 13 (cP (cY x q u v idx)), pF 14 (eqP (.agg ([Value.int .i64 1, .int .i64 0, .slice qa (lef x q u v idx).length da, .slice qw 0 dw, .slice qm 0 dm, .slice qe 0 de] : List Value).toArray)), pF 15 (eqP (.bool true)), pF 16 (eqP (.bool true)), pF 17 (eqP (.bool true)), pF 18 (eqP (.bool true)), pF 19 (eqP (.bool true)), pF 20 (eqP (.bool true))] (fun _ _ _ _ => True) (fun _ _ _ _ _ => trivial) _ rfl rfl (by kernel_rfl) (fun j => [undef, undef, undef, undef, undef, undef, undef, undef, undef, undef, undef, undef, undef, undef, undef, undef, undef, undef, undef, undef, Value.bool false].getD j undef) rfl (Below.refl _ w4).drew ⟨?_, ?_, ?_, ?_, ?_, ?_, ?_, ?_, ?_, ?_, ?_, ?_, ?_, ?_, ?_, ?_, ?_, ?_, ?_, ?_, ?_, trivial⟩ ?_
            · exact FactsG.of rfl (fun _ _ _ => trivial) (fun _ _ _ _ => rfl) (Facts.loadP hS hF (fun _ _ => rfl) 27 Try.underlying27 rfl zf _ rfl rfl (fun xv wv hSw hd => by rfl) (fun wv hSw => Rw.whole (cs := [Value.int .i64 1, .int .i64 0, .slice qa (lef x q u v idx).length da, .slice qw 0 dw, .slice qm 0 dm, .slice qe 0 de]) (Rp.later hSw)))
            · refine FactsG.of rfl (fun _ _ _ => trivial) (fun _ _ _ _ => rfl) (Facts.call1P hS hF (fun _ _ => rfl) rfl (by kernel_rfl) rfl (fun xv wv hSw hd => ?_))
              have d0 : xv 0 = _ := pF_get (hd ⟨0, .data⟩ (by simp) rfl _ rfl)
              show Calls Try.prog 13 #[xv 0] wv _
              rw [d0]
              exact (C2 wv hSw).mono fun e w' h => tells_p h
            · exact FactsG.of rfl (fun _ _ _ => trivial) (fun _ _ _ _ => rfl) (Facts.pureP hS hF (fun _ _ => rfl) rfl (fun xv wv hSw hd => by
                have d1 : xv 1 = _ := pF_get (hd ⟨1, .data⟩ (by simp) rfl _ rfl)
                simp only [d1]
                unfold execOp
                simp [go_sem, Act.eval, field47_1]))
            · exact FactsG.of rfl (fun _ _ _ => trivial) (fun _ _ _ _ => rfl) (Facts.pureP hS hF (fun _ _ => rfl) rfl (fun xv wv hSw hd => by
                go_simp))
            · exact FactsG.of rfl (fun _ _ _ => trivial) (fun _ _ _ _ => rfl) (Facts.pureP hS hF (fun _ _ => rfl) rfl (fun xv wv hSw hd => by
                have d2 : xv 2 = _ := pF_get (hd ⟨2, .data⟩ (by simp) rfl _ rfl)
                have d3 : xv 3 = _ := pF_get (hd ⟨3, .data⟩ (by simp) rfl _ rfl)
                simp only [d2, d3]
                go_simp))
            · exact FactsG.of rfl (fun _ _ _ => trivial) (fun _ _ _ _ => rfl) (Facts.pureP hS hF (fun _ _ => rfl) rfl (fun xv wv hSw hd => by
                have d4 : xv 4 = _ := pF_get (hd ⟨4, .data⟩ (by simp) rfl _ rfl)
                simp only [d4]
                go_simp))
            · exact FactsG.of rfl (fun _ _ _ => trivial) (fun xv wv hSw hd => by have dg : xv 5 = _ := pF_get (hd ⟨5, .guard⟩ (by simp) rfl _ rfl); simp only [dg]; rfl) (Facts.loadP hS hF (fun _ _ => rfl) 27 Try.underlying27 rfl zf _ rfl rfl (fun xv wv hSw hd => by rfl) (fun wv hSw => Rw.whole (cs := [Value.int .i64 1, .int .i64 0, .slice qa (lef x q u v idx).length da, .slice qw 0 dw, .slice qm 0 dm, .slice qe 0 de]) (Rp.later hSw)))
            · refine FactsG.of rfl (fun _ _ _ => trivial) (fun xv wv hSw hd => by have dg : xv 5 = _ := pF_get (hd ⟨5, .guard⟩ (by simp) rfl _ rfl); simp only [dg]; rfl) (Facts.call1P hS hF (fun _ _ => rfl) rfl (by kernel_rfl) rfl (fun xv wv hSw hd => ?_))
              have d6 : xv 6 = _ := pF_get (hd ⟨6, .data⟩ (by simp) rfl _ rfl)
              show Calls Try.prog 14 #[xv 6] wv _
              rw [d6]
              exact (C1 wv hSw).mono fun e w' h => tells_p h
            · exact FactsG.of rfl (fun _ _ _ => trivial) (fun _ _ _ _ => rfl) (Facts.pureP hS hF (fun _ _ => rfl) rfl (fun xv wv hSw hd => by
                have d5 : xv 5 = _ := pF_get (hd ⟨5, .data⟩ (by simp) rfl _ rfl)
                have d7 : xv 7 = _ := pF_get (hd ⟨7, .data⟩ (by simp) rfl _ rfl)
                simp only [d5, d7]
                go_simp))
            · exact FactsG.of rfl (fun _ _ _ => trivial) (fun _ _ _ _ => rfl) (Facts.pureP hS hF (fun _ _ => rfl) rfl (fun xv wv hSw hd => by
                have d8 : xv 8 = _ := pF_get (hd ⟨8, .data⟩ (by simp) rfl _ rfl)
                simp only [d8]
                go_simp))
            · exact FactsG.of rfl (fun _ _ _ => trivial) (fun xv wv hSw hd => by have dg : xv 9 = _ := pF_get (hd ⟨9, .guard⟩ (by simp) rfl _ rfl); simp only [dg]; rfl) (Facts.loadP hS hF (fun _ _ => rfl) 27 Try.underlying27 rfl zf _ rfl rfl (fun xv wv hSw hd => by rfl) (fun wv hSw => Rw.whole (cs := [Value.int .i64 1, .int .i64 0, .slice qa (lef x q u v idx).length da, .slice qw 0 dw, .slice qm 0 dm, .slice qe 0 de]) (Rp.later hSw)))
            · exact FactsG.of rfl (fun _ _ _ => trivial) (fun xv wv hSw hd => by have dg : xv 9 = _ := pF_get (hd ⟨9, .guard⟩ (by simp) rfl _ rfl); simp only [dg]; rfl) (Facts.loadP hS hF (fun _ _ => rfl) 34 Try.underlying34 rfl zc _ rfl rfl (fun xv wv hSw hd => by rfl) (fun wv hSw => Rw.whole (R1.later hSw)))
            · exact FactsG.of rfl (fun _ _ _ => trivial) (fun xv wv hSw hd => by have dg : xv 9 = _ := pF_get (hd ⟨9, .guard⟩ (by simp) rfl _ rfl); simp only [dg]; rfl) (Facts.pureP hS hF (fun _ _ => rfl) rfl (fun xv wv hSw hd => by
                go_simp))
            · refine FactsG.of rfl (fun _ _ _ => trivial) (fun xv wv hSw hd => by have dg : xv 9 = _ := pF_get (hd ⟨9, .guard⟩ (by simp) rfl _ rfl); simp only [dg]; rfl) (Facts.call3P hS hF (fun _ _ => rfl) rfl (by kernel_rfl) rfl (fun xv wv hSw hd => ?_))
              have d10 : xv 10 = _ := pF_get (hd ⟨10, .data⟩ (by simp) rfl _ rfl)
              have d11 : xv 11 = _ := pF_get (hd ⟨11, .data⟩ (by simp) rfl _ rfl)
              have d12 : xv 12 = _ := pF_get (hd ⟨12, .data⟩ (by simp) rfl _ rfl)
              show Calls Try.prog 12 #[xv 10, xv 11, xv 12] wv _
              rw [d10, d11, d12]
              exact (C4 wv hSw).mono fun e w' h => gives_p h
            · exact FactsG.of rfl (fun _ _ _ => trivial) (fun xv wv hSw hd => by have dg : xv 9 = _ := pF_get (hd ⟨9, .guard⟩ (by simp) rfl _ rfl); simp only [dg]; rfl) (Facts.loadP hS hF (fun _ _ => rfl) 27 Try.underlying27 rfl zf _ rfl rfl (fun xv wv hSw hd => by rfl) (fun wv hSw => Rw.whole (cs := [Value.int .i64 1, .int .i64 0, .slice qa (lef x q u v idx).length da, .slice qw 0 dw, .slice qm 0 dm, .slice qe 0 de]) (Rp.later hSw)))
            · refine FactsG.of rfl (fun _ _ _ => trivial) (fun xv wv hSw hd => by have dg : xv 9 = _ := pF_get (hd ⟨9, .guard⟩ (by simp) rfl _ rfl); simp only [dg]; rfl) (Facts.call2P hS hF (fun _ _ => rfl) rfl (by kernel_rfl) rfl (fun xv wv hSw hd => ?_))
              have d13 := pF_get (hd ⟨13, .data⟩ (by simp) rfl _ rfl)
              have d14 : xv 14 = _ := pF_get (hd ⟨14, .data⟩ (by simp) rfl _ rfl)
              show Calls Try.prog 15 #[xv 13, xv 14] wv _
              obtain ⟨va, vw, vm, ve, e2, f2⟩ := d13
              rw [e2, d14]
              exact (same_any _ _ _ _ _ _ _ _ _ wv f2 (Ff.later hSw) hsf).mono fun e w' h => tells_p h
            · exact FactsG.of rfl (fun _ _ _ => trivial) (fun _ _ _ _ => rfl) (Facts.pureP hS hF (fun _ _ => rfl) rfl (fun xv wv hSw hd => by
                have d9 : xv 9 = _ := pF_get (hd ⟨9, .data⟩ (by simp) rfl _ rfl)
                have d15 : xv 15 = _ := pF_get (hd ⟨15, .data⟩ (by simp) rfl _ rfl)
                simp only [d9, d15]
                go_simp))
            · exact FactsG.of rfl (fun _ _ _ => trivial) (fun _ _ _ _ => rfl) (Facts.pureP hS hF (fun _ _ => rfl) rfl (fun xv wv hSw hd => by
                have d16 : xv 16 = _ := pF_get (hd ⟨16, .data⟩ (by simp) rfl _ rfl)
                simp only [d16]
                go_simp))
            · refine FactsG.of rfl (fun _ _ _ => trivial) (fun xv wv hSw hd => by have dg : xv 17 = _ := pF_get (hd ⟨17, .guard⟩ (by simp) rfl _ rfl); simp only [dg]; rfl) (Facts.call0P hS hF (fun _ _ => rfl) rfl (by kernel_rfl) rfl (fun xv wv hSw hd => ?_))
              exact (heads_any wv).mono fun e w' h => tells_p h
            · exact FactsG.of rfl (fun _ _ _ => trivial) (fun _ _ _ _ => rfl) (Facts.pureP hS hF (fun _ _ => rfl) rfl (fun xv wv hSw hd => by
                have d17 : xv 17 = _ := pF_get (hd ⟨17, .data⟩ (by simp) rfl _ rfl)
                have d18 : xv 18 = _ := pF_get (hd ⟨18, .data⟩ (by simp) rfl _ rfl)
                simp only [d17, d18]
                go_simp))
            · exact FactsG.of rfl (fun _ _ _ => trivial) (fun _ _ _ _ => rfl) (Facts.pureP hS hF (fun _ _ => rfl) rfl (fun xv wv hSw hd => by
                have d19 : xv 19 = _ := pF_get (hd ⟨19, .data⟩ (by simp) rfl _ rfl)
                simp only [d19]
                go_simp))
            rintro xv w9 hb9 hf _
            have e20 : xv 20 = _ := pF_get (hf 20 _ (by decide) rfl)
            simp only [e20]
            go_wp2_with fail
            go_ret
            exact ⟨rfl, below_on hbel hb9⟩
end Go.Proofs.Ytfjpjodaaofgbaa
