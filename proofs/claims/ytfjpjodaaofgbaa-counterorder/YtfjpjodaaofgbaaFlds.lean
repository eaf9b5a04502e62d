/- What CounterFolds says, of every cell and cut. -/
import Derived.Test.YtfjpjodaaofgbaaHeads
namespace Go.Proofs.Ytfjpjodaaofgbaa
open Go.RowKit

theorem rst_sm (x : X) (v : List Int) : sm (rst x v) + sm (x.am.filter (fun a => hs v a.p a.s)) = sm x.am := by
  have := sm_split x.am (fun a => hs v a.p a.s)
  unfold rst
  omega
theorem fold_ok {x : X} {v : List Int} (hc : ck x = true) (hl : x.am.length ≤ 60) (h1 : -576460752303423488 ≤ x.b) (h2 : x.b ≤ 576460752303423488) : foX x v = ⟨1, bsX x v, rst x v, [], [], []⟩ := by
  have hb := sm_bound _ (nb_filter (ca_nb (ck_parts hc).2.2.2.2.2) (fun a => hs v a.p a.s))
  have hs' := rst_sm x v
  have hl2 : (x.am.filter (fun a => hs v a.p a.s)).length ≤ 60 := Nat.le_trans (List.length_filter_le _ _) hl
  unfold foX
  rw [hc, if_pos]
  unfold wi bsX
  simp only [Bool.true_and, Bool.and_eq_true, decide_eq_true_eq]
  omega
theorem ck_fold {x : X} {v : List Int} (hc : ck x = true) (hl : x.am.length ≤ 60) (h1 : -576460752303423488 ≤ x.b) (h2 : x.b ≤ 576460752303423488) : ck ⟨1, bsX x v, rst x v, [], [], []⟩ = true := by
  have hb := sm_bound _ (nb_filter (ca_nb (ck_parts hc).2.2.2.2.2) (fun a => hs v a.p a.s))
  have hs' := rst_sm x v
  have hl2 : (x.am.filter (fun a => hs v a.p a.s)).length ≤ 60 := Nat.le_trans (List.length_filter_le _ _) hl
  unfold ck wi
  have e1 : ca (rst x v) = true := ca_filter (ck_parts hc).2.2.2.2.2 _
  simp only [e1, Bool.and_true, Bool.and_eq_true, decide_eq_true_eq, List.length_nil]
  unfold bsX
  refine ⟨trivial, trivial, ?_, ?_⟩ <;> omega
theorem fold_again {x : X} {v : List Int} (_hc : ck ⟨1, bsX x v, rst x v, [], [], []⟩ = true) : foX ⟨1, bsX x v, rst x v, [], [], []⟩ v = ⟨1, bsX x v, rst x v, [], [], []⟩ := by
  have e1 : rst ⟨1, bsX x v, rst x v, [], [], []⟩ v = rst x v := by
    show (x.am.filter _).filter _ = _
    rw [List.filter_filter]
    simp [rst]
  have e2 : bsX ⟨1, bsX x v, rst x v, [], [], []⟩ v = bsX x v := by
    show bsX x v + sm (rst x v) - sm (rst ⟨1, bsX x v, rst x v, [], [], []⟩ v) = bsX x v
    rw [e1]
    omega
  unfold foX
  rw [e1, e2]
  split <;> rfl
theorem fold_read {x : X} {v : List Int} (hc : ck x = true) (hf : ck ⟨1, bsX x v, rst x v, [], [], []⟩ = true) : rdN ⟨1, bsX x v, rst x v, [], [], []⟩ = rdN x ∧ rdK ⟨1, bsX x v, rst x v, [], [], []⟩ = 1 ∧ rdK x = 1 := by
  have a1 := rd_ok hc
  have a2 := rd_ok hf
  refine ⟨?_, a2.1, a1.1⟩
  rw [a1.2, a2.2]
  show bsX x v + sm (rst x v) = x.b + sm x.am
  unfold bsX
  omega
set_option maxHeartbeats 8000000 in
set_option maxRecDepth 100000 in
theorem folds_any (x : X) (va vw vm ve : Value) (v : List Int) (w : World) (hv : v.length = 13) (h : Four w x va vw vm ve) (hl : Lk x) : Calls Try.prog 5 #[CV x.k x.b va vw vm ve, V v] w (Tells (.bool true) w) := by
  obtain ⟨pa, ca', pw, cw, pm, cm, pe, ce, rfl, rfl, rfl, rfl⟩ := h.slices
  obtain ⟨R0, R1, hbel⟩ := two_rows w (cvc x.k x.b (.slice pa x.am.length ca') (.slice pw x.wr.length cw) (.slice pm x.mb.length cm) (.slice pe x.el.length ce)) 27 (vals v).toArray 31
  replace h := h.later hbel
  generalize hW : (w.alloc (.cells (cvc x.k x.b (.slice pa x.am.length ca') (.slice pw x.wr.length cw) (.slice pm x.mb.length cm) (.slice pe x.el.length ce)) 27)).alloc (.cells (vals v).toArray 31) = w0 at R0 R1 hbel h
  have zv : (Try.prog.info? 31).map (·.size) = some (vals v).toArray.size := by rw [List.size_toArray]; exact info31 hv
  go_enter Try.func5, Try.ntmps5
  go_wp2_with (first | rw [hW] | refine load_r 27 _ rfl rfl _ rfl R0 Try.underlying27 rfl size27 ?_)
  clear hW
  refine (few_any x _ _ _ _ w0 h hl).mono ?_
  rintro e w1 ⟨bf1, rfl, hfw, hb1⟩
  have HFW : Hid (bf1 = true → Fw x) := hfw
  replace R0 := R0.later hb1
  replace R1 := R1.later hb1
  replace h := h.later hb1
  replace hbel := below_on hbel hb1
  clear hb1 hfw hl
  cases bf1
  · clear HFW
    go_wp2_with fail
    refine (heads_any _).mono ?_
    rintro e w9 ⟨rfl, hb9⟩
    go_wp2_with fail
    go_ret
    exact ⟨rfl, below_on hbel hb9⟩
  · have hf := HFW.out rfl
    have hs := hf.sm
    have h60 : x.am.length ≤ 60 := by have := hf.n; omega
    clear HFW hf
    go_wp2_with (first | refine load_r 27 _ rfl rfl _ rfl R0 Try.underlying27 rfl size27 ?_)
    refine (refCheck_any x _ _ _ _ w1 h hs).mono ?_
    rintro e w2 ⟨rfl, hb1⟩
    replace R0 := R0.later hb1
    replace R1 := R1.later hb1
    replace h := h.later hb1
    replace hbel := below_on hbel hb1
    clear hb1
    obtain ⟨y1, HY1⟩ := hid_ex (ck x)
    rw [HY1.out]
    have c1 : w2.cell? ⟨w.heap.size, 1, none⟩ = some (.int .i64 x.b) := R0.cell 1
    cases y1
    · go_wp2_with fail
      refine (heads_any _).mono ?_
      rintro e w9 ⟨rfl, hb9⟩
      go_wp2_with fail
      go_ret
      exact ⟨rfl, below_on hbel hb9⟩
    · by_cases hb1 : x.b < -576460752303423488
      · have hd1 : decide (x.b < -576460752303423488) = true := decide_eq_true hb1
        go_wp2_with fail
        refine (heads_any _).mono ?_
        rintro e w9 ⟨rfl, hb9⟩
        go_wp2_with fail
        go_ret
        exact ⟨rfl, below_on hbel hb9⟩
      · have hd1 : decide (x.b < -576460752303423488) = false := decide_eq_false hb1
        by_cases hb2 : 576460752303423488 < x.b
        · have hd2 : decide (576460752303423488 < x.b) = true := decide_eq_true hb2
          go_wp2_with fail
          refine (heads_any _).mono ?_
          rintro e w9 ⟨rfl, hb9⟩
          go_wp2_with fail
          go_ret
          exact ⟨rfl, below_on hbel hb9⟩
        · have hd2 : decide (576460752303423488 < x.b) = false := decide_eq_false hb2
          have HFO : Hid (foX x v = ⟨1, bsX x v, rst x v, [], [], []⟩) := fold_ok HY1.out h60 (by omega) (by omega)
          have HCF : Hid (ck ⟨1, bsX x v, rst x v, [], [], []⟩ = true) := ck_fold HY1.out h60 (by omega) (by omega)
          go_wp2_with (first | refine load_r 27 _ rfl rfl _ rfl R0 Try.underlying27 rfl size27 ?_ | refine load_r 31 _ rfl rfl _ rfl R1 Try.underlying31 rfl zv ?_)
          clear c1 hd1 hd2 hb1 hb2
          have hc := fold_any x _ _ _ _ v w2 hv h hs
          rw [HFO.out] at hc
          replace hc : Calls Try.prog 19 _ w2 (fun e w' => ∃ va vw vm ve, e = .returned (CV 1 (bsX x v) va vw vm ve) ∧ Four w' ⟨1, bsX x v, rst x v, [], [], []⟩ va vw vm ve ∧ Below w2.heap.size w2 w') := hc
          refine hc.mono ?_
          clear hc
          rintro e w3 ⟨va, vw, vm, ve, rfl, Ff, hb1⟩
          obtain ⟨qa, da, qw, dw, qm, dm, qe, de, rfl, rfl, rfl, rfl⟩ := (show ∃ pa ca pw cw pm cm pe ce, va = .slice pa (rst x v).length ca ∧ vw = .slice pw 0 cw ∧ vm = .slice pm 0 cm ∧ ve = .slice pe 0 ce from Ff.slices)
          replace R0 := R0.later hb1
          replace R1 := R1.later hb1
          replace h := h.later hb1
          replace hbel := below_on hbel hb1
          clear hb1
          have hba := bel_alloc (Below.refl w3.heap.size w3) (.cells (cvc 1 (bsX x v) (.slice qa (rst x v).length da) (.slice qw 0 dw) (.slice qm 0 dm) (.slice qe 0 de)) 27)
          have Rp := rw_new w3 27 (cvc 1 (bsX x v) (.slice qa (rst x v).length da) (.slice qw 0 dw) (.slice qm 0 dm) (.slice qe 0 de))
          generalize hW : w3.alloc (.cells (cvc 1 (bsX x v) (.slice qa (rst x v).length da) (.slice qw 0 dw) (.slice qm 0 dm) (.slice qe 0 de)) 27) = w4 at hba Rp
          go_wp2_with (first | rw [hW])
          clear hW
          replace R0 := R0.later hba
          replace R1 := R1.later hba
          replace h := h.later hba
          replace Ff := Ff.later hba
          replace hbel := below_on hbel hba
          clear hba
          generalize w3.heap.size = p at Rp ⊢
          have hsf : Sm ⟨1, bsX x v, rst x v, [], [], []⟩ := ⟨Nat.le_trans (List.length_filter_le _ _) hs.a, by simp, by simp, by simp, (fun _ h => by cases h), (fun _ h => by cases h)⟩
          obtain ⟨hr1, hr2, hr3⟩ := fold_read HY1.out HCF.out
          have C1 := fun w' (hb : Below w4.heap.size w4 w') => check_any _ _ _ _ _ w' (Ff.later hb) hsf
          have C2 := fun w' (hb : Below w4.heap.size w4 w') => read_any _ _ _ _ _ w' (Ff.later hb) hsf
          have C3 := fun w' (hb : Below w4.heap.size w4 w') => read_any _ _ _ _ _ w' (h.later hb) hs
          have C4 := fun w' (hb : Below w4.heap.size w4 w') => fold_any _ _ _ _ _ v w' hv (Ff.later hb) hsf
          rw [HCF.out] at C1
          rw [hr1, hr2] at C2
          rw [hr3] at C3
          rw [fold_again HCF.out] at C4
          obtain ⟨rn, HRN⟩ := hid_ex (rdN x)
          rw [HRN.out] at C2 C3
          clear hr1 hr2 hr3 HFO HCF
          have zx : (Try.prog.info? 27).map (·.size) = some ([Value.int .i64 x.k, .int .i64 x.b, .slice pa x.am.length ca', .slice pw x.wr.length cw, .slice pm x.mb.length cm, .slice pe x.el.length ce] : List Value).length := size27
          have zf : (Try.prog.info? 27).map (·.size) = some ([Value.int .i64 1, .int .i64 (bsX x v), .slice qa (rst x v).length da, .slice qw 0 dw, .slice qm 0 dm, .slice qe 0 de] : List Value).length := size27
          have zc : (Try.prog.info? 31).map (·.size) = some (vals v).length := info31 hv
          have hS : Calm.Stays (fun w' => Below w4.heap.size w4 w') := fun wa wb h hb => below_on h hb
          have hF : Facts.Stay [pF 0 (eqP (.agg ([Value.int .i64 1, .int .i64 (bsX x v), .slice qa (rst x v).length da, .slice qw 0 dw, .slice qm 0 dm, .slice qe 0 de] : List Value).toArray)), pF 1 (eqP (.bool true)), pF 2 (eqP (.bool true)), pF 3 (eqP (.agg ([Value.int .i64 1, .int .i64 (bsX x v), .slice qa (rst x v).length da, .slice qw 0 dw, .slice qm 0 dm, .slice qe 0 de] : List Value).toArray)), pF 4 (eqP (VV 1 rn)), pF 5 (eqP (.agg ([Value.int .i64 x.k, .int .i64 x.b, .slice pa x.am.length ca', .slice pw x.wr.length cw, .slice pm x.mb.length cm, .slice pe x.el.length ce] : List Value).toArray)), pF 6 (eqP (VV 1 rn)), pF 7 (eqP (.bool true)), pF 8 (eqP (.bool true)), pF 9 (eqP (.bool true)), pF 10 (eqP (.agg ([Value.int .i64 1, .int .i64 (bsX x v), .slice qa (rst x v).length da, .slice qw 0 dw, .slice qm 0 dm, .slice qe 0 de] : List Value).toArray)), pF 11 (eqP (.agg (vals v).toArray)), pF 12 (cP ⟨1, bsX x v, rst x v, [], [], []⟩), pF 13 (eqP (.agg ([Value.int .i64 1, .int .i64 (bsX x v), .slice qa (rst x v).length da, .slice qw 0 dw, .slice qm 0 dm, .slice qe 0 de] : List Value).toArray)), pF 14 (eqP (.bool true)), pF 15 (eqP (.bool true)), pF 16 (eqP (.bool true)), pF 17 (eqP (.bool true)), pF 18 (eqP (.bool true)), pF 19 (eqP (.bool true))] := stay_of (by simp only [List.forall_mem_cons]; exact ⟨⟨_, _, rfl, eqP_keeps _⟩, ⟨_, _, rfl, eqP_keeps _⟩, ⟨_, _, rfl, eqP_keeps _⟩, ⟨_, _, rfl, eqP_keeps _⟩, ⟨_, _, rfl, eqP_keeps _⟩, ⟨_, _, rfl, eqP_keeps _⟩, ⟨_, _, rfl, eqP_keeps _⟩, ⟨_, _, rfl, eqP_keeps _⟩, ⟨_, _, rfl, eqP_keeps _⟩, ⟨_, _, rfl, eqP_keeps _⟩, ⟨_, _, rfl, eqP_keeps _⟩, ⟨_, _, rfl, eqP_keeps _⟩, ⟨_, _, rfl, cP_keeps _⟩, ⟨_, _, rfl, eqP_keeps _⟩, ⟨_, _, rfl, eqP_keeps _⟩, ⟨_, _, rfl, eqP_keeps _⟩, ⟨_, _, rfl, eqP_keeps _⟩, ⟨_, _, rfl, eqP_keeps _⟩, ⟨_, _, rfl, eqP_keeps _⟩, ⟨_, _, rfl, eqP_keeps _⟩, fun _ h => by cases h⟩)
          refine FactsG.region (by kernel_rfl) (by kernel_rfl) (fun w' => Below w4.heap.size w4 w') (fun xv => { tmps := #[CV x.k x.b (Value.slice pa x.am.length ca') (Value.slice pw x.wr.length cw) (Value.slice pm x.mb.length cm) (Value.slice pe x.el.length ce), V v, Value.pointer (some { block := w.heap.size, off := 0 }), Value.pointer (some { block := w.heap.size + 1, off := 0 }), xv 19, Value.pointer (some { block := p, off := 0 }), Value.agg (cvc x.k x.b (Value.slice pa x.am.length ca') (Value.slice pw x.wr.length cw) (Value.slice pm x.mb.length cm) (Value.slice pe x.el.length ce)), Value.bool true, Value.bool false, Value.bool false, Value.agg (cvc x.k x.b (Value.slice pa x.am.length ca') (Value.slice pw x.wr.length cw) (Value.slice pm x.mb.length cm) (Value.slice pe x.el.length ce)), Value.bool true, Value.bool false, Value.bool false, Value.bool false, Value.pointer (some { block := w.heap.size, off := 1 }), Value.int IntKind.i64 x.b, Value.bool false, Value.bool false, Value.bool false, Value.pointer (some { block := w.heap.size, off := 1 }), Value.int IntKind.i64 x.b, Value.bool false, Value.bool false, undef, Value.agg (cvc x.k x.b (Value.slice pa x.am.length ca') (Value.slice pw x.wr.length cw) (Value.slice pm x.mb.length cm) (Value.slice pe x.el.length ce)), Value.agg (vals v).toArray, CV 1 (bsX x v) (Value.slice qa (rst x v).length da) (Value.slice qw 0 dw) (Value.slice qm 0 dm) (Value.slice qe 0 de), xv 0, xv 1, xv 2, xv 3, xv 4, xv 5, xv 6, xv 7, xv 8, xv 9, xv 10, xv 11, xv 12, xv 13, xv 14, xv 15, xv 16, xv 17, xv 18], defers := [] }) [pF 0 (eqP (.agg ([Value.int .i64 1, .int .i64 (bsX x v), .slice qa (rst x v).length da, .slice qw 0 dw, .slice qm 0 dm, .slice qe 0 de] : List Value).toArray)), pF 1 (eqP (.bool true)), pF 2 (eqP (.bool true)), pF 3 (eqP (.agg ([Value.int .i64 1, .int .i64 (bsX x v), .slice qa (rst x v).length da, .slice qw 0 dw, .slice qm 0 dm, .slice qe 0 de] : List Value).toArray)), pF 4 (eqP (VV 1 rn)), pF 5 (eqP (.agg ([Value.int .i64 x.k, .int .i64 x.b, .slice pa x.am.length ca', .slice pw x.wr.length cw, .slice pm x.mb.length cm, .slice pe x.el.length ce] : List Value).toArray)), pF 6 (eqP (VV 1 rn)), pF 7 (eqP (.bool true)), pF 8 (eqP (.bool true)), pF 9 (eqP (.bool true)), pF 10 (eqP (.agg ([Value.int .i64 1, .int .i64 (bsX x v), .slice qa (rst x v).length da, .slice qw 0 dw, .slice qm 0 dm, .slice qe 0 de] : List Value).toArray)), pF 11 (eqP (.agg (vals v).toArray)), pF 12 (cP ⟨1, bsX x v, rst x v, [], [], []⟩), pF 13 (eqP (.agg ([Value.int .i64 1, .int .i64 (bsX x v), .slice qa (rst x v).length da, .slice qw 0 dw, .slice qm 0 dm, .slice qe 0 de] : List Value).toArray)), pF 14 (eqP (.bool true)), pF 15 (eqP (.bool true)), pF 16 (eqP (.bool true)), pF 17 (eqP (.bool true)), pF 18 (eqP (.bool true)), pF 19 (eqP (.bool true))] (fun _ _ _ _ => True) (fun _ _ _ _ _ => trivial) _ rfl rfl (by kernel_rfl) (fun j => [undef, undef, undef, undef, undef, undef, undef, undef, undef, undef, undef, undef, undef, undef, undef, undef, undef, undef, undef, Value.bool false].getD j undef) rfl (Below.refl _ w4).drew ⟨?_, ?_, ?_, ?_, ?_, ?_, ?_, ?_, ?_, ?_, ?_, ?_, ?_, ?_, ?_, ?_, ?_, ?_, ?_, ?_, trivial⟩ ?_
          · exact FactsG.of rfl (fun _ _ _ => trivial) (fun _ _ _ _ => rfl) (Facts.loadP hS hF (fun _ _ => rfl) 27 Try.underlying27 rfl zf _ rfl rfl (fun xv wv hSw hd => by rfl) (fun wv hSw => Rw.whole (cs := [Value.int .i64 1, .int .i64 (bsX x v), .slice qa (rst x v).length da, .slice qw 0 dw, .slice qm 0 dm, .slice qe 0 de]) (Rp.later hSw)))
          · refine FactsG.of rfl (fun _ _ _ => trivial) (fun _ _ _ _ => rfl) (Facts.call1P hS hF (fun _ _ => rfl) rfl (by kernel_rfl) rfl (fun xv wv hSw hd => ?_))
            have d0 : xv 0 = _ := pF_get (hd ⟨0, .data⟩ (by simp) rfl _ rfl)
            show Calls Try.prog 14 #[xv 0] wv _
            rw [d0]
            exact (C1 wv hSw).mono fun e w' h => tells_p h
          · exact FactsG.of rfl (fun _ _ _ => trivial) (fun _ _ _ _ => rfl) (Facts.pureP hS hF (fun _ _ => rfl) rfl (fun xv wv hSw hd => by
              have d1 : xv 1 = _ := pF_get (hd ⟨1, .data⟩ (by simp) rfl _ rfl)
              simp only [d1]
              go_simp))
          · exact FactsG.of rfl (fun _ _ _ => trivial) (fun xv wv hSw hd => by have dg : xv 2 = _ := pF_get (hd ⟨2, .guard⟩ (by simp) rfl _ rfl); simp only [dg]; rfl) (Facts.loadP hS hF (fun _ _ => rfl) 27 Try.underlying27 rfl zf _ rfl rfl (fun xv wv hSw hd => by rfl) (fun wv hSw => Rw.whole (cs := [Value.int .i64 1, .int .i64 (bsX x v), .slice qa (rst x v).length da, .slice qw 0 dw, .slice qm 0 dm, .slice qe 0 de]) (Rp.later hSw)))
          · refine FactsG.of rfl (fun _ _ _ => trivial) (fun xv wv hSw hd => by have dg : xv 2 = _ := pF_get (hd ⟨2, .guard⟩ (by simp) rfl _ rfl); simp only [dg]; rfl) (Facts.call1P hS hF (fun _ _ => rfl) rfl (by kernel_rfl) rfl (fun xv wv hSw hd => ?_))
            have d3 : xv 3 = _ := pF_get (hd ⟨3, .data⟩ (by simp) rfl _ rfl)
            show Calls Try.prog 13 #[xv 3] wv _
            rw [d3]
            exact (C2 wv hSw).mono fun e w' h => tells_p h
          · exact FactsG.of rfl (fun _ _ _ => trivial) (fun xv wv hSw hd => by have dg : xv 2 = _ := pF_get (hd ⟨2, .guard⟩ (by simp) rfl _ rfl); simp only [dg]; rfl) (Facts.loadP hS hF (fun _ _ => rfl) 27 Try.underlying27 rfl zx _ rfl rfl (fun xv wv hSw hd => by rfl) (fun wv hSw => Rw.whole (cs := [Value.int .i64 x.k, .int .i64 x.b, .slice pa x.am.length ca', .slice pw x.wr.length cw, .slice pm x.mb.length cm, .slice pe x.el.length ce]) (R0.later hSw)))
          · refine FactsG.of rfl (fun _ _ _ => trivial) (fun xv wv hSw hd => by have dg : xv 2 = _ := pF_get (hd ⟨2, .guard⟩ (by simp) rfl _ rfl); simp only [dg]; rfl) (Facts.call1P hS hF (fun _ _ => rfl) rfl (by kernel_rfl) rfl (fun xv wv hSw hd => ?_))
            have d5 : xv 5 = _ := pF_get (hd ⟨5, .data⟩ (by simp) rfl _ rfl)
            show Calls Try.prog 13 #[xv 5] wv _
            rw [d5]
            exact (C3 wv hSw).mono fun e w' h => tells_p h
          · refine FactsG.of rfl (fun _ _ _ => trivial) (fun xv wv hSw hd => by have dg : xv 2 = _ := pF_get (hd ⟨2, .guard⟩ (by simp) rfl _ rfl); simp only [dg]; rfl) (Facts.call2P hS hF (fun _ _ => rfl) rfl (by kernel_rfl) rfl (fun xv wv hSw hd => ?_))
            have d4 : xv 4 = _ := pF_get (hd ⟨4, .data⟩ (by simp) rfl _ rfl)
            have d6 : xv 6 = _ := pF_get (hd ⟨6, .data⟩ (by simp) rfl _ rfl)
            show Calls Try.prog 21 #[xv 4, xv 6] wv _
            rw [d4, d6]
            exact (values_any 1 rn wv).mono fun e w' h => tells_p h
          · exact FactsG.of rfl (fun _ _ _ => trivial) (fun _ _ _ _ => rfl) (Facts.pureP hS hF (fun _ _ => rfl) rfl (fun xv wv hSw hd => by
              have d2 : xv 2 = _ := pF_get (hd ⟨2, .data⟩ (by simp) rfl _ rfl)
              have d7 : xv 7 = _ := pF_get (hd ⟨7, .data⟩ (by simp) rfl _ rfl)
              simp only [d2, d7]
              go_simp))
          · exact FactsG.of rfl (fun _ _ _ => trivial) (fun _ _ _ _ => rfl) (Facts.pureP hS hF (fun _ _ => rfl) rfl (fun xv wv hSw hd => by
              have d8 : xv 8 = _ := pF_get (hd ⟨8, .data⟩ (by simp) rfl _ rfl)
              simp only [d8]
              go_simp))
          · exact FactsG.of rfl (fun _ _ _ => trivial) (fun xv wv hSw hd => by have dg : xv 9 = _ := pF_get (hd ⟨9, .guard⟩ (by simp) rfl _ rfl); simp only [dg]; rfl) (Facts.loadP hS hF (fun _ _ => rfl) 27 Try.underlying27 rfl zf _ rfl rfl (fun xv wv hSw hd => by rfl) (fun wv hSw => Rw.whole (cs := [Value.int .i64 1, .int .i64 (bsX x v), .slice qa (rst x v).length da, .slice qw 0 dw, .slice qm 0 dm, .slice qe 0 de]) (Rp.later hSw)))
          · exact FactsG.of rfl (fun _ _ _ => trivial) (fun xv wv hSw hd => by have dg : xv 9 = _ := pF_get (hd ⟨9, .guard⟩ (by simp) rfl _ rfl); simp only [dg]; rfl) (Facts.loadP hS hF (fun _ _ => rfl) 31 Try.underlying31 rfl zc _ rfl rfl (fun xv wv hSw hd => by rfl) (fun wv hSw => Rw.whole (R1.later hSw)))
          · refine FactsG.of rfl (fun _ _ _ => trivial) (fun xv wv hSw hd => by have dg : xv 9 = _ := pF_get (hd ⟨9, .guard⟩ (by simp) rfl _ rfl); simp only [dg]; rfl) (Facts.call2P hS hF (fun _ _ => rfl) rfl (by kernel_rfl) rfl (fun xv wv hSw hd => ?_))
            have d10 : xv 10 = _ := pF_get (hd ⟨10, .data⟩ (by simp) rfl _ rfl)
            have d11 : xv 11 = _ := pF_get (hd ⟨11, .data⟩ (by simp) rfl _ rfl)
            show Calls Try.prog 19 #[xv 10, xv 11] wv _
            rw [d10, d11]
            exact (C4 wv hSw).mono fun e w' h => gives_p h
          · exact FactsG.of rfl (fun _ _ _ => trivial) (fun xv wv hSw hd => by have dg : xv 9 = _ := pF_get (hd ⟨9, .guard⟩ (by simp) rfl _ rfl); simp only [dg]; rfl) (Facts.loadP hS hF (fun _ _ => rfl) 27 Try.underlying27 rfl zf _ rfl rfl (fun xv wv hSw hd => by rfl) (fun wv hSw => Rw.whole (cs := [Value.int .i64 1, .int .i64 (bsX x v), .slice qa (rst x v).length da, .slice qw 0 dw, .slice qm 0 dm, .slice qe 0 de]) (Rp.later hSw)))
          · refine FactsG.of rfl (fun _ _ _ => trivial) (fun xv wv hSw hd => by have dg : xv 9 = _ := pF_get (hd ⟨9, .guard⟩ (by simp) rfl _ rfl); simp only [dg]; rfl) (Facts.call2P hS hF (fun _ _ => rfl) rfl (by kernel_rfl) rfl (fun xv wv hSw hd => ?_))
            have d12 := pF_get (hd ⟨12, .data⟩ (by simp) rfl _ rfl)
            have d13 : xv 13 = _ := pF_get (hd ⟨13, .data⟩ (by simp) rfl _ rfl)
            show Calls Try.prog 15 #[xv 12, xv 13] wv _
            obtain ⟨va, vw, vm, ve, e2, f2⟩ := d12
            rw [e2, d13]
            exact (same_any _ _ _ _ _ _ _ _ _ wv f2 (Ff.later hSw) hsf).mono fun e w' h => tells_p h
          · exact FactsG.of rfl (fun _ _ _ => trivial) (fun _ _ _ _ => rfl) (Facts.pureP hS hF (fun _ _ => rfl) rfl (fun xv wv hSw hd => by
              have d9 : xv 9 = _ := pF_get (hd ⟨9, .data⟩ (by simp) rfl _ rfl)
              have d14 : xv 14 = _ := pF_get (hd ⟨14, .data⟩ (by simp) rfl _ rfl)
              simp only [d9, d14]
              go_simp))
          · exact FactsG.of rfl (fun _ _ _ => trivial) (fun _ _ _ _ => rfl) (Facts.pureP hS hF (fun _ _ => rfl) rfl (fun xv wv hSw hd => by
              have d15 : xv 15 = _ := pF_get (hd ⟨15, .data⟩ (by simp) rfl _ rfl)
              simp only [d15]
              go_simp))
          · refine FactsG.of rfl (fun _ _ _ => trivial) (fun xv wv hSw hd => by have dg : xv 16 = _ := pF_get (hd ⟨16, .guard⟩ (by simp) rfl _ rfl); simp only [dg]; rfl) (Facts.call0P hS hF (fun _ _ => rfl) rfl (by kernel_rfl) rfl (fun xv wv hSw hd => ?_))
            exact (heads_any wv).mono fun e w' h => tells_p h
          · exact FactsG.of rfl (fun _ _ _ => trivial) (fun _ _ _ _ => rfl) (Facts.pureP hS hF (fun _ _ => rfl) rfl (fun xv wv hSw hd => by
              have d16 : xv 16 = _ := pF_get (hd ⟨16, .data⟩ (by simp) rfl _ rfl)
              have d17 : xv 17 = _ := pF_get (hd ⟨17, .data⟩ (by simp) rfl _ rfl)
              simp only [d16, d17]
              go_simp))
          · exact FactsG.of rfl (fun _ _ _ => trivial) (fun _ _ _ _ => rfl) (Facts.pureP hS hF (fun _ _ => rfl) rfl (fun xv wv hSw hd => by
              have d18 : xv 18 = _ := pF_get (hd ⟨18, .data⟩ (by simp) rfl _ rfl)
              simp only [d18]
              go_simp))
          rintro xv w9 hb9 hf _
          have e19 : xv 19 = _ := pF_get (hf 19 _ (by decide) rfl)
          simp only [e19]
          go_wp2_with fail
          go_ret
          exact ⟨rfl, below_on hbel hb9⟩
end Go.Proofs.Ytfjpjodaaofgbaa
