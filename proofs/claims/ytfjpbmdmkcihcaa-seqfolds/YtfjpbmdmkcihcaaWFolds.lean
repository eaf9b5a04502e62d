/- SeqFolds is proved of every cell, a transaction, a place and a cut: the call returns true, and the arguments read afterwards as they read before; no condition. -/
import Derived.Test.YtfjpbmdmkcihcaaP11
import Derived.Test.YtfjpbmdmkcihcaaP8
import Derived.Test.YtfjpbmdmkcihcaaP13
import Derived.Test.YtfjpbmdmkcihcaaP9
import Derived.Test.YtfjpbmdmkcihcaaP12
import Derived.Test.YtfjpbmdmkcihcaaQ1
import Derived.Test.YtfjpbmdmkcihcaaP14
import Derived.ChangeOld
import Derived.SizedLaws
/- What SeqFolds says, of every cell, a transaction, a place and a cut. -/
namespace Go.Proofs.Ytfjpbmdmkcihcaa
open Go.RowKit
open Go.Sort

theorem pl_neg {l : List El} {m : K} (h : ¬ 0 ≤ plI l m) : ∀ y ∈ l, kE y ≠ m := by
  unfold plI at h
  cases hp : pl l m with
  | none => exact pl_none.1 hp
  | some k => rw [hp] at h; exact absurd (Int.natCast_nonneg k) h
theorem or_mem {x : X} (h : ck x = true) {m : M} (hm : m ∈ orX x) : ∃ a ∈ x.el, nog a = true ∧ kE a = kM m := by
  rw [orX_oE h] at hm
  obtain ⟨a, ha, rfl⟩ := List.mem_map.1 hm
  obtain ⟨h1, h2⟩ := List.mem_filter.1 ha
  exact ⟨a, (oE_perm (tre_ck h)).mem_iff.1 h1, h2, rfl⟩
theorem ie_new (q u t : Int) (r : M) (s : ByteArray) (hs : s.size ≤ 64) : ie ⟨q, u, 1, t, r.p, r.s, r.i, s, []⟩ = true := by
  unfold ie
  rw [Bool.and_eq_true, Bool.and_eq_true, decide_eq_true_iff]
  exact ⟨by show im (1 : Int) = true; decide, hs, by show ca [] = true; decide⟩
set_option maxHeartbeats 16000000 in
set_option maxRecDepth 100000 in
theorem folds_law (x : X) (va vw vm ve : Value) (tp ts : Int) (tv : List Int) (tt : Int) (tl : Value) (n : Int) (cv : List Int) (w : World) (hv : tv.length = 13) (hcv : cv.length = 13) (h : Four w x va vw vm ve) (hl : Lk x) : Calls Try.prog 5 #[CV x.k x.b va vw vm ve, TxV tp ts tv tt tl, .int .i64 n, V cv] w (Tells (.bool true) w) := by
  obtain ⟨pa, ca', pw, cw, pm, cm, pe, ce, rfl, rfl, rfl, rfl⟩ := h.slices
  obtain ⟨R0, R1, R2, hbel⟩ := three_rows w (cvc x.k x.b (.slice pa x.am.length ca') (.slice pw x.wr.length cw) (.slice pm x.mb.length cm) (.slice pe x.el.length ce)) 27 (txc tp ts tv tt tl).toArray 34 (vals cv).toArray 31
  replace h := h.later hbel
  generalize hW : ((w.alloc (.cells (cvc x.k x.b (.slice pa x.am.length ca') (.slice pw x.wr.length cw) (.slice pm x.mb.length cm) (.slice pe x.el.length ce)) 27)).alloc (.cells (txc tp ts tv tt tl).toArray 34)).alloc (.cells (vals cv).toArray 31) = w0 at R0 R1 R2 hbel h
  have zt := size_tx (p := tp) (s := ts) (t := tt) (sl := tl) hv
  have zd1 : (Try.prog.info? 29).map (·.size) = some [Value.int .i64 tp, .int .i64 ts].length := size29
  have zv : (Try.prog.info? 31).map (·.size) = some (vals cv).toArray.size := by rw [List.size_toArray]; exact info31 hcv
  go_enter Try.func5, Try.ntmps5
  go_wp2_with (first | rw [hW] | refine load_r 27 _ rfl rfl _ rfl R0 Try.underlying27 rfl size27 ?_)
  clear hW
  refine (few_any x _ _ _ _ w0 h hl).mono ?_
  rintro e w1 ⟨bf1, rfl, hfw, hb1⟩
  have HFW : Hid (bf1 = true → Fw x) := hfw
  replace R0 := R0.later hb1
  replace R1 := R1.later hb1
  replace R2 := R2.later hb1
  replace h := h.later hb1
  replace hbel := below_on hbel hb1
  clear hb1 hfw hl
  cases bf1
  case' false =>
    clear HFW
    go_wp2_with fail
    refine (heads_any _).mono ?_
    rintro e w9 ⟨rfl, hb9⟩
    go_wp2_with fail
    go_ret
    exact ⟨rfl, below_on hbel hb9⟩
  case' true =>
    have hz := (HFW.out rfl).sz
    have hs := hz.sm (by decide) (by decide)
    clear HFW
    go_wp2_with (first | refine load_r 27 _ rfl rfl _ rfl R0 Try.underlying27 rfl size27 ?_)
    refine (refCheck_any x _ _ _ _ w1 h hs).mono ?_
    rintro e w2 ⟨rfl, hb1⟩
    replace R0 := R0.later hb1
    replace R1 := R1.later hb1
    replace R2 := R2.later hb1
    replace h := h.later hb1
    replace hbel := below_on hbel hb1
    clear hb1
    obtain ⟨y1, HY1⟩ := hid_ex (ck x)
    rw [HY1.out]
    cases y1
    case' false =>
      go_wp2_with fail
      refine (heads_any _).mono ?_
      rintro e w9 ⟨rfl, hb9⟩
      go_wp2_with fail
      go_ret
      exact ⟨rfl, below_on hbel hb9⟩
    case' true =>
      have c5 : w2.cell? ⟨w.heap.size, 5, none⟩ = some (.slice pe x.el.length ce) := R0.cell 5
      have C1 := fun w (h : EHas w (.slice pe x.el.length ce) x.el) => place_any _ x.el ⟨tp, ts, 1⟩ w h
      obtain ⟨z1, HZ1⟩ := hid_ex (plI x.el (kM ⟨tp, ts, 1⟩))
      rw [HZ1.out] at C1
      go_wp2_with (first | refine load_m 29 _ rfl rfl _ _ rfl (tx_dot R1) Try.underlying29 rfl zd1 ?_)
      refine (C1 _ h.e).mono ?_
      clear C1 c5
      rintro e w3 ⟨rfl, hb1⟩
      replace R0 := R0.later hb1
      replace R1 := R1.later hb1
      replace R2 := R2.later hb1
      replace h := h.later hb1
      replace hbel := below_on hbel hb1
      clear hb1
      by_cases hp : 0 ≤ z1
      case' pos =>
        have hp' : decide (0 ≤ z1) = true := decide_eq_true hp
        go_wp2_with fail
        refine (heads_any _).mono ?_
        rintro e w9 ⟨rfl, hb9⟩
        go_wp2_with fail
        go_ret
        exact ⟨rfl, below_on hbel hb9⟩
      case' neg =>
        have hp' : decide (0 ≤ z1) = false := decide_eq_false hp
        have HN : Hid (∀ y ∈ x.el, kE y ≠ (tp, ts, 1)) := pl_neg (by show ¬ 0 ≤ plI x.el (kM ⟨tp, ts, 1⟩); rw [HZ1.out]; exact hp)
        by_cases hn : n < 0
        case' pos =>
          have hn' : decide (n < 0) = true := decide_eq_true hn
          go_wp2_with fail
          refine (heads_any _).mono ?_
          rintro e w9 ⟨rfl, hb9⟩
          go_wp2_with fail
          go_ret
          exact ⟨rfl, below_on hbel hb9⟩
        case' neg =>
          have hn' : decide (n < 0) = false := decide_eq_false hn
          obtain ⟨xf, HXF⟩ := hid_ex (fdX x (hsP cv))
          have hzf : Sz 60 30 xf := by rw [← HXF.out]; exact sz_fd hz _
          have sf := hzf.sm (by decide) (by decide)
          have C1 := fold_any x _ _ _ _ cv w3 hcv h hs
          rw [HXF.out] at C1
          go_wp2_with (first | refine load_r 27 _ rfl rfl _ rfl R0 Try.underlying27 rfl size27 ?_ | refine load_r 31 _ rfl rfl _ rfl R2 Try.underlying31 rfl zv ?_)
          clear hn' hp' hp HZ1
          refine C1.mono ?_
          clear C1
          rintro e w4 ⟨ua, uw, um, ue, rfl, hf, hb⟩
          obtain ⟨qa, da, qw, dw, qm, dx, qe, de, rfl, rfl, rfl, rfl⟩ := hf.slices
          replace R0 := R0.later hb
          replace R1 := R1.later hb
          replace R2 := R2.later hb
          replace h := h.later hb
          replace hbel := below_on hbel hb
          clear hb
          have hbA := bel_alloc (Below.refl w4.heap.size w4) (.cells (cvc xf.k xf.b (.slice qa xf.am.length da) (.slice qw xf.wr.length dw) (.slice qm xf.mb.length dx) (.slice qe xf.el.length de)) 27)
          have RF := rw_new w4 27 (cvc xf.k xf.b (.slice qa xf.am.length da) (.slice qw xf.wr.length dw) (.slice qm xf.mb.length dx) (.slice qe xf.el.length de))
          replace R0 := R0.later hbA
          replace R1 := R1.later hbA
          replace R2 := R2.later hbA
          replace h := h.later hbA
          replace hf := hf.later hbA
          replace hbel := below_on hbel hbA
          clear hbA
          generalize hW : w4.alloc (.cells (cvc xf.k xf.b (.slice qa xf.am.length da) (.slice qw xf.wr.length dw) (.slice qm xf.mb.length dx) (.slice qe xf.el.length de)) 27) = w5 at RF R0 R1 R2 h hf hbel
          go_wp2_with (first | rw [hW])
          clear hW
          obtain ⟨rt, HRT⟩ := hid_ex (rdT x)
          obtain ⟨lo, HLO⟩ := hid_ex (orX x)
          have kf : ck xf = true := by rw [← HXF.out]; exact ck_fd HY1.out _
          have HKF : Hid (ck xf = true) := kf
          have HRF : Hid (rdT xf = rt) := by show _ = _; rw [← HXF.out, rdT_fd HY1.out]; exact HRT.out
          have HLF : Hid (orX xf = lo) := by show _ = _; rw [← HXF.out, orX_fd HY1.out]; exact HLO.out
          have HFF : Hid (fdX xf (hsP cv) = xf) := by show _ = _; rw [← HXF.out, fdX_fdX HY1.out]
          have HRK : Hid (rdK x = 5) := by show _ = _; unfold rdK; rw [if_pos HY1.out]
          have HRKF : Hid (rdK xf = 5) := by show _ = _; unfold rdK; rw [if_pos kf]
          clear kf
          have zx : (Try.prog.info? 27).map (·.size) = some ([Value.int .i64 x.k, .int .i64 x.b, .slice pa x.am.length ca', .slice pw x.wr.length cw, .slice pm x.mb.length cm, .slice pe x.el.length ce] : List Value).length := size27
          have zf : (Try.prog.info? 27).map (·.size) = some ([Value.int .i64 xf.k, .int .i64 xf.b, .slice qa xf.am.length da, .slice qw xf.wr.length dw, .slice qm xf.mb.length dx, .slice qe xf.el.length de] : List Value).length := size27
          have ztx : (Try.prog.info? 34).map (·.size) = some (txc tp ts tv tt tl).length := by rw [txc_length hv]; exact size34
          have zvx : (Try.prog.info? 31).map (·.size) = some (vals cv).length := info31 hcv
          have C1 := fun w' (hb : Below w5.heap.size w5 w') => check_any xf _ _ _ _ w' (hf.later hb) sf
          rw [HKF.out] at C1
          have C2 := fun w' (hb : Below w5.heap.size w5 w') => read_any xf _ _ _ _ w' (hf.later hb) sf
          have C3 := fun w' (hb : Below w5.heap.size w5 w') => read_any x _ _ _ _ w' (h.later hb) hs
          unfold RdPost at C2 C3
          rw [HRF.out, HRKF.out] at C2
          rw [HRT.out, HRK.out] at C3
          have C4 := fun w' (hb : Below w5.heap.size w5 w') => order_any xf _ _ _ _ w' (hf.later hb) sf
          have C5 := fun w' (hb : Below w5.heap.size w5 w') => order_any x _ _ _ _ w' (h.later hb) hs
          unfold OrPost at C4 C5
          rw [HLF.out] at C4
          rw [HLO.out] at C5
          have C6 := fun w' (hb : Below w5.heap.size w5 w') => fold_any xf _ _ _ _ cv w' hcv (hf.later hb) sf
          rw [HFF.out] at C6
          have hS : Calm.Stays (fun w' => Below w5.heap.size w5 w') := fun wa wb h hb => below_on h hb
          have hF : Facts.Stay [pF 0 (eqP (.agg ([Value.int .i64 xf.k, .int .i64 xf.b, .slice qa xf.am.length da, .slice qw xf.wr.length dw, .slice qm xf.mb.length dx, .slice qe xf.el.length de] : List Value).toArray)), pF 1 (eqP (.bool true)), pF 2 (eqP (.bool false)), pF 3 (eqP (.bool false)), pF 4 (eqP (.agg ([Value.int .i64 xf.k, .int .i64 xf.b, .slice qa xf.am.length da, .slice qw xf.wr.length dw, .slice qm xf.mb.length dx, .slice qe xf.el.length de] : List Value).toArray)), pF 5 (vP 5 rt), pF 6 (eqP (.agg ([Value.int .i64 x.k, .int .i64 x.b, .slice pa x.am.length ca', .slice pw x.wr.length cw, .slice pm x.mb.length cm, .slice pe x.el.length ce] : List Value).toArray)), pF 7 (vP 5 rt), pF 8 (eqP (.bool true)), pF 9 (eqP (.bool false)), pF 10 (eqP (.bool false)), pF 11 (eqP (.bool false)), pF 12 (eqP (.agg ([Value.int .i64 xf.k, .int .i64 xf.b, .slice qa xf.am.length da, .slice qw xf.wr.length dw, .slice qm xf.mb.length dx, .slice qe xf.el.length de] : List Value).toArray)), pF 13 (mkP lo), pF 14 (eqP (.agg ([Value.int .i64 x.k, .int .i64 x.b, .slice pa x.am.length ca', .slice pw x.wr.length cw, .slice pm x.mb.length cm, .slice pe x.el.length ce] : List Value).toArray)), pF 15 (mkP lo), pF 16 (eqP (.bool true)), pF 17 (eqP (.bool false)), pF 18 (eqP (.bool false)), pF 19 (eqP (.bool false)), pF 20 (eqP (.agg ([Value.int .i64 xf.k, .int .i64 xf.b, .slice qa xf.am.length da, .slice qw xf.wr.length dw, .slice qm xf.mb.length dx, .slice qe xf.el.length de] : List Value).toArray)), pF 21 (eqP (.agg (vals cv).toArray)), pF 22 (cP xf), pF 23 (eqP (.agg ([Value.int .i64 xf.k, .int .i64 xf.b, .slice qa xf.am.length da, .slice qw xf.wr.length dw, .slice qm xf.mb.length dx, .slice qe xf.el.length de] : List Value).toArray)), pF 24 (eqP (.bool true)), pF 25 (eqP (.bool false)), pF 26 (eqP (.bool false))] := stay_of (by simp only [List.forall_mem_cons]; exact ⟨⟨_, _, rfl, eqP_keeps _⟩, ⟨_, _, rfl, eqP_keeps _⟩, ⟨_, _, rfl, eqP_keeps _⟩, ⟨_, _, rfl, eqP_keeps _⟩, ⟨_, _, rfl, eqP_keeps _⟩, ⟨_, _, rfl, vP_keeps _ _⟩, ⟨_, _, rfl, eqP_keeps _⟩, ⟨_, _, rfl, vP_keeps _ _⟩, ⟨_, _, rfl, eqP_keeps _⟩, ⟨_, _, rfl, eqP_keeps _⟩, ⟨_, _, rfl, eqP_keeps _⟩, ⟨_, _, rfl, eqP_keeps _⟩, ⟨_, _, rfl, eqP_keeps _⟩, ⟨_, _, rfl, mkP_keeps _⟩, ⟨_, _, rfl, eqP_keeps _⟩, ⟨_, _, rfl, mkP_keeps _⟩, ⟨_, _, rfl, eqP_keeps _⟩, ⟨_, _, rfl, eqP_keeps _⟩, ⟨_, _, rfl, eqP_keeps _⟩, ⟨_, _, rfl, eqP_keeps _⟩, ⟨_, _, rfl, eqP_keeps _⟩, ⟨_, _, rfl, eqP_keeps _⟩, ⟨_, _, rfl, cP_keeps _⟩, ⟨_, _, rfl, eqP_keeps _⟩, ⟨_, _, rfl, eqP_keeps _⟩, ⟨_, _, rfl, eqP_keeps _⟩, ⟨_, _, rfl, eqP_keeps _⟩, fun _ h => by cases h⟩)
          refine FactsG.region (by kernel_rfl) (by kernel_rfl) (fun w' => Below w5.heap.size w5 w') (fun xv => { tmps := #[CV x.k x.b (Value.slice pa x.am.length ca') (Value.slice pw x.wr.length cw) (Value.slice pm x.mb.length cm) (Value.slice pe x.el.length ce), TxV tp ts tv tt tl, Value.int IntKind.i64 n, V cv, Value.pointer (some { block := w.heap.size, off := 0 }), Value.pointer (some { block := w.heap.size + 1, off := 0 }), undef, Value.pointer (some { block := w.heap.size + 1 + 1, off := 0 }), Value.bool false, Value.pointer (some { block := w4.heap.size, off := 0 }), undef, undef, Value.agg (cvc x.k x.b (Value.slice pa x.am.length ca') (Value.slice pw x.wr.length cw) (Value.slice pm x.mb.length cm) (Value.slice pe x.el.length ce)), Value.bool true, Value.bool false, Value.bool false, Value.agg (cvc x.k x.b (Value.slice pa x.am.length ca') (Value.slice pw x.wr.length cw) (Value.slice pm x.mb.length cm) (Value.slice pe x.el.length ce)), Value.bool true, Value.bool false, Value.bool false, Value.bool false, Value.pointer (some { block := w.heap.size, off := 5 }), Value.slice pe x.el.length ce, Value.pointer (some { block := w.heap.size + 1, off := 0 }), Value.agg #[Value.int IntKind.i64 tp, Value.int IntKind.i64 ts], Value.agg #[Value.int IntKind.i64 tp, Value.int IntKind.i64 ts, Value.int IntKind.i64 1], Value.int IntKind.i64 z1, Value.bool false, Value.bool false, Value.bool false, Value.int IntKind.i64 n, Value.bool false, Value.bool false, undef, Value.agg (cvc x.k x.b (Value.slice pa x.am.length ca') (Value.slice pw x.wr.length cw) (Value.slice pm x.mb.length cm) (Value.slice pe x.el.length ce)), Value.agg (vals cv).toArray, CV xf.k xf.b (Value.slice qa xf.am.length da) (Value.slice qw xf.wr.length dw) (Value.slice qm xf.mb.length dx) (Value.slice qe xf.el.length de), xv 0, xv 1, xv 2, xv 3, xv 4, xv 5, xv 6, xv 7, xv 8, xv 9, xv 10, xv 11, xv 12, xv 13, xv 14, xv 15, xv 16, xv 17, xv 18, xv 19, xv 20, xv 21, xv 22, xv 23, xv 24, xv 25, xv 26, undef, undef, undef, undef, undef, undef, undef, undef, undef, undef, undef, undef, undef, undef, undef, undef, undef, undef, undef, undef, undef, undef, undef, undef, undef, undef, undef, undef, undef, undef], defers := [] }) [pF 0 (eqP (.agg ([Value.int .i64 xf.k, .int .i64 xf.b, .slice qa xf.am.length da, .slice qw xf.wr.length dw, .slice qm xf.mb.length dx, .slice qe xf.el.length de] : List Value).toArray)), pF 1 (eqP (.bool true)), pF 2 (eqP (.bool false)), pF 3 (eqP (.bool false)), pF 4 (eqP (.agg ([Value.int .i64 xf.k, .int .i64 xf.b, .slice qa xf.am.length da, .slice qw xf.wr.length dw, .slice qm xf.mb.length dx, .slice qe xf.el.length de] : List Value).toArray)), pF 5 (vP 5 rt), pF 6 (eqP (.agg ([Value.int .i64 x.k, .int .i64 x.b, .slice pa x.am.length ca', .slice pw x.wr.length cw, .slice pm x.mb.length cm, .slice pe x.el.length ce] : List Value).toArray)), pF 7 (vP 5 rt), pF 8 (eqP (.bool true)), pF 9 (eqP (.bool false)), pF 10 (eqP (.bool false)), pF 11 (eqP (.bool false)), pF 12 (eqP (.agg ([Value.int .i64 xf.k, .int .i64 xf.b, .slice qa xf.am.length da, .slice qw xf.wr.length dw, .slice qm xf.mb.length dx, .slice qe xf.el.length de] : List Value).toArray)), pF 13 (mkP lo), pF 14 (eqP (.agg ([Value.int .i64 x.k, .int .i64 x.b, .slice pa x.am.length ca', .slice pw x.wr.length cw, .slice pm x.mb.length cm, .slice pe x.el.length ce] : List Value).toArray)), pF 15 (mkP lo), pF 16 (eqP (.bool true)), pF 17 (eqP (.bool false)), pF 18 (eqP (.bool false)), pF 19 (eqP (.bool false)), pF 20 (eqP (.agg ([Value.int .i64 xf.k, .int .i64 xf.b, .slice qa xf.am.length da, .slice qw xf.wr.length dw, .slice qm xf.mb.length dx, .slice qe xf.el.length de] : List Value).toArray)), pF 21 (eqP (.agg (vals cv).toArray)), pF 22 (cP xf), pF 23 (eqP (.agg ([Value.int .i64 xf.k, .int .i64 xf.b, .slice qa xf.am.length da, .slice qw xf.wr.length dw, .slice qm xf.mb.length dx, .slice qe xf.el.length de] : List Value).toArray)), pF 24 (eqP (.bool true)), pF 25 (eqP (.bool false)), pF 26 (eqP (.bool false))] (fun _ _ _ _ => True) (fun _ _ _ _ _ => trivial) _ rfl rfl (by kernel_rfl) (fun j => [undef, undef, undef, undef, undef, undef, undef, undef, undef, undef, undef, undef, undef, undef, undef, undef, undef, undef, undef, undef, undef, undef, undef, undef, undef, undef, undef].getD j undef) rfl (Below.refl _ w5).drew ⟨?_, ?_, ?_, ?_, ?_, ?_, ?_, ?_, ?_, ?_, ?_, ?_, ?_, ?_, ?_, ?_, ?_, ?_, ?_, ?_, ?_, ?_, ?_, ?_, ?_, ?_, ?_, trivial⟩ ?_
          · exact FactsG.of rfl (fun _ _ _ => trivial) (fun _ _ _ _ => rfl) (Facts.loadP hS hF (fun _ _ => rfl) 27 Try.underlying27 rfl zf _ rfl rfl (fun xv wv hSw hd => by rfl) (fun wv hSw => Rw.whole (cs := [Value.int .i64 xf.k, .int .i64 xf.b, .slice qa xf.am.length da, .slice qw xf.wr.length dw, .slice qm xf.mb.length dx, .slice qe xf.el.length de]) (RF.later hSw)))
          · refine FactsG.of rfl (fun _ _ _ => trivial) (fun _ _ _ _ => rfl) (Facts.call1P hS hF (fun _ _ => rfl) rfl (by kernel_rfl) rfl (fun xv wv hSw hd => ?_))
            have d0 : xv 0 = _ := pF_get (hd ⟨0, .data⟩ (by simp) rfl _ rfl)
            show Calls Try.prog 18 #[xv 0] wv _
            rw [d0]
            exact (C1 wv hSw).mono fun e w' h => tells_p h
          · exact FactsG.of rfl (fun _ _ _ => trivial) (fun _ _ _ _ => rfl) (Facts.pureP hS hF (fun _ _ => rfl) rfl (fun xv wv hSw hd => by
              have d1 : xv 1 = _ := pF_get (hd ⟨1, .data⟩ (by simp) rfl _ rfl)
              simp only [d1]
              go_simp))
          · exact FactsG.of rfl (fun _ _ _ => trivial) (fun _ _ _ _ => rfl) (Facts.pureP hS hF (fun _ _ => rfl) rfl (fun xv wv hSw hd => by
              have d2 : xv 2 = _ := pF_get (hd ⟨2, .data⟩ (by simp) rfl _ rfl)
              simp only [d2]
              go_simp))
          · exact FactsG.of rfl (fun _ _ _ => trivial) (fun xv wv hSw hd => by have dg : xv 3 = _ := pF_get (hd ⟨3, .guard⟩ (by simp) rfl _ rfl); simp only [dg]; rfl) (Facts.loadP hS hF (fun _ _ => rfl) 27 Try.underlying27 rfl zf _ rfl rfl (fun xv wv hSw hd => by rfl) (fun wv hSw => Rw.whole (cs := [Value.int .i64 xf.k, .int .i64 xf.b, .slice qa xf.am.length da, .slice qw xf.wr.length dw, .slice qm xf.mb.length dx, .slice qe xf.el.length de]) (RF.later hSw)))
          · refine FactsG.of rfl (fun _ _ _ => trivial) (fun xv wv hSw hd => by have dg : xv 3 = _ := pF_get (hd ⟨3, .guard⟩ (by simp) rfl _ rfl); simp only [dg]; rfl) (Facts.call1P hS hF (fun _ _ => rfl) rfl (by kernel_rfl) rfl (fun xv wv hSw hd => ?_))
            have d4 : xv 4 = _ := pF_get (hd ⟨4, .data⟩ (by simp) rfl _ rfl)
            show Calls Try.prog 21 #[xv 4] wv _
            rw [d4]
            refine (C2 wv hSw).mono ?_
            rintro e w' ⟨u, he, ht, hb⟩
            exact ⟨_, he, ⟨u, rfl, ht⟩, hb⟩
          · exact FactsG.of rfl (fun _ _ _ => trivial) (fun xv wv hSw hd => by have dg : xv 3 = _ := pF_get (hd ⟨3, .guard⟩ (by simp) rfl _ rfl); simp only [dg]; rfl) (Facts.loadP hS hF (fun _ _ => rfl) 27 Try.underlying27 rfl zx _ rfl rfl (fun xv wv hSw hd => by rfl) (fun wv hSw => Rw.whole (cs := [Value.int .i64 x.k, .int .i64 x.b, .slice pa x.am.length ca', .slice pw x.wr.length cw, .slice pm x.mb.length cm, .slice pe x.el.length ce]) (R0.later hSw)))
          · refine FactsG.of rfl (fun _ _ _ => trivial) (fun xv wv hSw hd => by have dg : xv 3 = _ := pF_get (hd ⟨3, .guard⟩ (by simp) rfl _ rfl); simp only [dg]; rfl) (Facts.call1P hS hF (fun _ _ => rfl) rfl (by kernel_rfl) rfl (fun xv wv hSw hd => ?_))
            have d6 : xv 6 = _ := pF_get (hd ⟨6, .data⟩ (by simp) rfl _ rfl)
            show Calls Try.prog 21 #[xv 6] wv _
            rw [d6]
            refine (C3 wv hSw).mono ?_
            rintro e w' ⟨u, he, ht, hb⟩
            exact ⟨_, he, ⟨u, rfl, ht⟩, hb⟩
          · refine FactsG.of rfl (fun _ _ _ => trivial) (fun xv wv hSw hd => by have dg : xv 3 = _ := pF_get (hd ⟨3, .guard⟩ (by simp) rfl _ rfl); simp only [dg]; rfl) (Facts.call2P hS hF (fun _ _ => rfl) rfl (by kernel_rfl) rfl (fun xv wv hSw hd => ?_))
            have d5 := pF_get (hd ⟨5, .data⟩ (by simp) rfl _ rfl)
            have d7 := pF_get (hd ⟨7, .data⟩ (by simp) rfl _ rfl)
            show Calls Try.prog 20 #[xv 5, xv 7] wv _
            obtain ⟨u1, e1, f1⟩ := d5
            obtain ⟨u2, e2, f2⟩ := d7
            rw [e1, e2]
            exact (values_any 5 u1 u2 rt wv f1 f2).mono fun e w' h => tells_p h
          · exact FactsG.of rfl (fun _ _ _ => trivial) (fun xv wv hSw hd => by have dg : xv 3 = _ := pF_get (hd ⟨3, .guard⟩ (by simp) rfl _ rfl); simp only [dg]; rfl) (Facts.pureP hS hF (fun _ _ => rfl) rfl (fun xv wv hSw hd => by
              have d8 : xv 8 = _ := pF_get (hd ⟨8, .data⟩ (by simp) rfl _ rfl)
              simp only [d8]
              go_simp))
          · exact FactsG.of rfl (fun _ _ _ => trivial) (fun _ _ _ _ => rfl) (Facts.pureP hS hF (fun _ _ => rfl) rfl (fun xv wv hSw hd => by
              have d3 : xv 3 = _ := pF_get (hd ⟨3, .data⟩ (by simp) rfl _ rfl)
              have d9 : xv 9 = _ := pF_get (hd ⟨9, .data⟩ (by simp) rfl _ rfl)
              simp only [d3, d9]
              go_simp))
          · exact FactsG.of rfl (fun _ _ _ => trivial) (fun _ _ _ _ => rfl) (Facts.pureP hS hF (fun _ _ => rfl) rfl (fun xv wv hSw hd => by
              have d10 : xv 10 = _ := pF_get (hd ⟨10, .data⟩ (by simp) rfl _ rfl)
              simp only [d10]
              go_simp))
          · exact FactsG.of rfl (fun _ _ _ => trivial) (fun xv wv hSw hd => by have dg : xv 11 = _ := pF_get (hd ⟨11, .guard⟩ (by simp) rfl _ rfl); simp only [dg]; rfl) (Facts.loadP hS hF (fun _ _ => rfl) 27 Try.underlying27 rfl zf _ rfl rfl (fun xv wv hSw hd => by rfl) (fun wv hSw => Rw.whole (cs := [Value.int .i64 xf.k, .int .i64 xf.b, .slice qa xf.am.length da, .slice qw xf.wr.length dw, .slice qm xf.mb.length dx, .slice qe xf.el.length de]) (RF.later hSw)))
          · refine FactsG.of rfl (fun _ _ _ => trivial) (fun xv wv hSw hd => by have dg : xv 11 = _ := pF_get (hd ⟨11, .guard⟩ (by simp) rfl _ rfl); simp only [dg]; rfl) (Facts.call1P hS hF (fun _ _ => rfl) rfl (by kernel_rfl) rfl (fun xv wv hSw hd => ?_))
            have d12 : xv 12 = _ := pF_get (hd ⟨12, .data⟩ (by simp) rfl _ rfl)
            show Calls Try.prog 17 #[xv 12] wv _
            rw [d12]
            refine (C4 wv hSw).mono ?_
            rintro e w' ⟨u, he, ht, hb⟩
            exact ⟨_, he, own_sh ht, hb⟩
          · exact FactsG.of rfl (fun _ _ _ => trivial) (fun xv wv hSw hd => by have dg : xv 11 = _ := pF_get (hd ⟨11, .guard⟩ (by simp) rfl _ rfl); simp only [dg]; rfl) (Facts.loadP hS hF (fun _ _ => rfl) 27 Try.underlying27 rfl zx _ rfl rfl (fun xv wv hSw hd => by rfl) (fun wv hSw => Rw.whole (cs := [Value.int .i64 x.k, .int .i64 x.b, .slice pa x.am.length ca', .slice pw x.wr.length cw, .slice pm x.mb.length cm, .slice pe x.el.length ce]) (R0.later hSw)))
          · refine FactsG.of rfl (fun _ _ _ => trivial) (fun xv wv hSw hd => by have dg : xv 11 = _ := pF_get (hd ⟨11, .guard⟩ (by simp) rfl _ rfl); simp only [dg]; rfl) (Facts.call1P hS hF (fun _ _ => rfl) rfl (by kernel_rfl) rfl (fun xv wv hSw hd => ?_))
            have d14 : xv 14 = _ := pF_get (hd ⟨14, .data⟩ (by simp) rfl _ rfl)
            show Calls Try.prog 17 #[xv 14] wv _
            rw [d14]
            refine (C5 wv hSw).mono ?_
            rintro e w' ⟨u, he, ht, hb⟩
            exact ⟨_, he, own_sh ht, hb⟩
          · refine FactsG.of rfl (fun _ _ _ => trivial) (fun xv wv hSw hd => by have dg : xv 11 = _ := pF_get (hd ⟨11, .guard⟩ (by simp) rfl _ rfl); simp only [dg]; rfl) (Facts.call2P hS hF (fun _ _ => rfl) rfl (by kernel_rfl) rfl (fun xv wv hSw hd => ?_))
            have d13 := pF_get (hd ⟨13, .data⟩ (by simp) rfl _ rfl)
            have d15 := pF_get (hd ⟨15, .data⟩ (by simp) rfl _ rfl)
            show Calls Try.prog 22 #[xv 13, xv 15] wv _
            exact (marks_any _ _ lo wv d13 d15).mono fun e w' h => tells_p h
          · exact FactsG.of rfl (fun _ _ _ => trivial) (fun xv wv hSw hd => by have dg : xv 11 = _ := pF_get (hd ⟨11, .guard⟩ (by simp) rfl _ rfl); simp only [dg]; rfl) (Facts.pureP hS hF (fun _ _ => rfl) rfl (fun xv wv hSw hd => by
              have d16 : xv 16 = _ := pF_get (hd ⟨16, .data⟩ (by simp) rfl _ rfl)
              simp only [d16]
              go_simp))
          · exact FactsG.of rfl (fun _ _ _ => trivial) (fun _ _ _ _ => rfl) (Facts.pureP hS hF (fun _ _ => rfl) rfl (fun xv wv hSw hd => by
              have d11 : xv 11 = _ := pF_get (hd ⟨11, .data⟩ (by simp) rfl _ rfl)
              have d17 : xv 17 = _ := pF_get (hd ⟨17, .data⟩ (by simp) rfl _ rfl)
              simp only [d11, d17]
              go_simp))
          · exact FactsG.of rfl (fun _ _ _ => trivial) (fun _ _ _ _ => rfl) (Facts.pureP hS hF (fun _ _ => rfl) rfl (fun xv wv hSw hd => by
              have d18 : xv 18 = _ := pF_get (hd ⟨18, .data⟩ (by simp) rfl _ rfl)
              simp only [d18]
              go_simp))
          · exact FactsG.of rfl (fun _ _ _ => trivial) (fun xv wv hSw hd => by have dg : xv 19 = _ := pF_get (hd ⟨19, .guard⟩ (by simp) rfl _ rfl); simp only [dg]; rfl) (Facts.loadP hS hF (fun _ _ => rfl) 27 Try.underlying27 rfl zf _ rfl rfl (fun xv wv hSw hd => by rfl) (fun wv hSw => Rw.whole (cs := [Value.int .i64 xf.k, .int .i64 xf.b, .slice qa xf.am.length da, .slice qw xf.wr.length dw, .slice qm xf.mb.length dx, .slice qe xf.el.length de]) (RF.later hSw)))
          · exact FactsG.of rfl (fun _ _ _ => trivial) (fun xv wv hSw hd => by have dg : xv 19 = _ := pF_get (hd ⟨19, .guard⟩ (by simp) rfl _ rfl); simp only [dg]; rfl) (Facts.loadP hS hF (fun _ _ => rfl) 31 Try.underlying31 rfl zvx _ rfl rfl (fun xv wv hSw hd => by rfl) (fun wv hSw => Rw.whole (cs := (vals cv)) (R2.later hSw)))
          · refine FactsG.of rfl (fun _ _ _ => trivial) (fun xv wv hSw hd => by have dg : xv 19 = _ := pF_get (hd ⟨19, .guard⟩ (by simp) rfl _ rfl); simp only [dg]; rfl) (Facts.call2P hS hF (fun _ _ => rfl) rfl (by kernel_rfl) rfl (fun xv wv hSw hd => ?_))
            have d20 : xv 20 = _ := pF_get (hd ⟨20, .data⟩ (by simp) rfl _ rfl)
            have d21 : xv 21 = _ := pF_get (hd ⟨21, .data⟩ (by simp) rfl _ rfl)
            show Calls Try.prog 19 #[xv 20, xv 21] wv _
            rw [d20, d21]
            exact (C6 wv hSw).mono fun e w' h => gives_p h
          · exact FactsG.of rfl (fun _ _ _ => trivial) (fun xv wv hSw hd => by have dg : xv 19 = _ := pF_get (hd ⟨19, .guard⟩ (by simp) rfl _ rfl); simp only [dg]; rfl) (Facts.loadP hS hF (fun _ _ => rfl) 27 Try.underlying27 rfl zf _ rfl rfl (fun xv wv hSw hd => by rfl) (fun wv hSw => Rw.whole (cs := [Value.int .i64 xf.k, .int .i64 xf.b, .slice qa xf.am.length da, .slice qw xf.wr.length dw, .slice qm xf.mb.length dx, .slice qe xf.el.length de]) (RF.later hSw)))
          · refine FactsG.of rfl (fun _ _ _ => trivial) (fun xv wv hSw hd => by have dg : xv 19 = _ := pF_get (hd ⟨19, .guard⟩ (by simp) rfl _ rfl); simp only [dg]; rfl) (Facts.call2P hS hF (fun _ _ => rfl) rfl (by kernel_rfl) rfl (fun xv wv hSw hd => ?_))
            have d22 := pF_get (hd ⟨22, .data⟩ (by simp) rfl _ rfl)
            have d23 : xv 23 = _ := pF_get (hd ⟨23, .data⟩ (by simp) rfl _ rfl)
            show Calls Try.prog 13 #[xv 22, xv 23] wv _
            obtain ⟨va, vw, vm, ve, e2, f2⟩ := d22
            rw [e2, d23]
            exact (same_any xf _ _ _ _ _ _ _ _ wv f2 (hf.later hSw) sf).mono fun e w' h => tells_p h
          · exact FactsG.of rfl (fun _ _ _ => trivial) (fun xv wv hSw hd => by have dg : xv 19 = _ := pF_get (hd ⟨19, .guard⟩ (by simp) rfl _ rfl); simp only [dg]; rfl) (Facts.pureP hS hF (fun _ _ => rfl) rfl (fun xv wv hSw hd => by
              have d24 : xv 24 = _ := pF_get (hd ⟨24, .data⟩ (by simp) rfl _ rfl)
              simp only [d24]
              go_simp))
          · exact FactsG.of rfl (fun _ _ _ => trivial) (fun _ _ _ _ => rfl) (Facts.pureP hS hF (fun _ _ => rfl) rfl (fun xv wv hSw hd => by
              have d19 : xv 19 = _ := pF_get (hd ⟨19, .data⟩ (by simp) rfl _ rfl)
              have d25 : xv 25 = _ := pF_get (hd ⟨25, .data⟩ (by simp) rfl _ rfl)
              simp only [d19, d25]
              go_simp))
          rintro xq w6 hb6 hff _
          have e26 : xq 26 = _ := pF_get (hff 26 _ (by decide) rfl)
          simp only [e26]
          clear hff hS hF e26 C1 C2 C3 C4 C6
          have C7 := C5 w6 hb6
          clear C5
          replace R0 := R0.later hb6
          replace R1 := R1.later hb6
          replace R2 := R2.later hb6
          replace h := h.later hb6
          replace RF := RF.later hb6
          replace hf := hf.later hb6
          replace hbel := below_on hbel hb6
          clear hb6
          go_wp2_with (first | refine load_r 27 _ rfl rfl _ rfl R0 Try.underlying27 rfl size27 ?_)
          refine C7.mono ?_
          clear C7
          rintro e w7 ⟨u, rfl, hown, hb1⟩
          replace R0 := R0.later hb1
          replace R1 := R1.later hb1
          replace R2 := R2.later hb1
          replace h := h.later hb1
          replace RF := RF.later hb1
          replace hf := hf.later hb1
          replace hbel := below_on hbel hb1
          clear hb1
          obtain ⟨po, co, rfl⟩ := own_sl hown
          have hbA := below_setRow (bel_alloc (Below.refl w7.heap.size w7) (.cells #[.int .i64 0, .int .i64 0, .int .i64 0] 39)) (g := w7.heap.size) (Nat.le_refl _) #[.int .i64 0, .int .i64 0, .int .i64 0]
          have R07 := R0
          have R17 := R1
          have RF7 := RF
          have h7 := h
          have hf7 := hf
          have hbel7 := hbel
          have rm := rw_new w7 39 #[.int .i64 0, .int .i64 0, .int .i64 0]
          have RM := rm.row #[.int .i64 0, .int .i64 0, .int .i64 0]
          replace R0 := R0.later hbA
          replace R1 := R1.later hbA
          replace R2 := R2.later hbA
          replace h := h.later hbA
          replace RF := RF.later hbA
          replace hf := hf.later hbA
          replace hbel := below_on hbel hbA
          replace hown := own_later hown hbA
          have hb78 := hbA
          clear hbA
          have hlo : lo.length ≤ 100 := by
            rw [← HLO.out]
            unfold orX
            rw [if_pos HY1.out, List.length_map]
            exact Nat.le_trans (prE_len (ck_parts HY1.out).2.2.2.2.2.2) hs.e
          have hmem : Hid (∀ m ∈ lo, ∃ a ∈ x.el, nog a = true ∧ kE a = kM m) := fun m hm => or_mem HY1.out (by rw [HLO.out]; exact hm)
          clear HRT HLO HRF HLF HFF HRK HRKF HKF
          generalize hV : w7.alloc (.cells #[.int .i64 0, .int .i64 0, .int .i64 0] 39) = w70 at rm RM R0 R1 R2 RF h hf hbel hown hb78
          generalize hW : w70.setRow w7.heap.size #[.int .i64 0, .int .i64 0, .int .i64 0] = w8 at RM R0 R1 R2 RF h hf hbel hown hb78
          by_cases hg : 0 < n
          case' neg =>
            have hg' : decide (0 < n) = false := decide_eq_false hg
            go_wp2_with (first | rw [hV] | (refine store_r rfl 39 _ _ rfl w7.heap.size #[.int .i64 0, .int .i64 0, .int .i64 0] rfl rfl rm size39 rfl (by simp [Value.oneCell']) ?_; rw [hW]))
            clear hV hW hown hmem rm R07 R17 RF7 h7 hf7 hbel7 hb78
            obtain ⟨r, HRR⟩ := hid_ex (⟨0, 0, 0⟩ : M)
            have HR : Hid (kM r = zK ∨ ∃ a ∈ x.el, nog a = true ∧ kE a = kM r) := Or.inl (by rw [← HRR.out]; rfl)
            replace RM : Rw w8 w7.heap.size 39 #[.int .i64 r.p, .int .i64 r.s, .int .i64 r.i] := by rw [← HRR.out]; exact RM
            clear HRR
            have he := ie_new tp ts tt r ⟨#[120]⟩ (by decide)
            have i1 := rdT_fd_ins HY1.out (hsP cv) (e := (⟨tp, ts, 1, tt, r.p, r.s, r.i, ⟨#[120]⟩, []⟩ : El)) (p' := bfP tp ts tv 1) he HN.out HR.out
            rw [HXF.out] at i1
            obtain ⟨xa, HA⟩ := hid_ex (insX xf (⟨tp, ts, 1, tt, r.p, r.s, r.i, ⟨#[120]⟩, []⟩ : El) (bfP tp ts tv 1))
            obtain ⟨xb, HB⟩ := hid_ex (insX x (⟨tp, ts, 1, tt, r.p, r.s, r.i, ⟨#[120]⟩, []⟩ : El) (bfP tp ts tv 1))
            obtain ⟨rs, HS⟩ := hid_ex (rdT xa)
            have HSB : Hid (rdT xb = rs) := by
              show _ = _
              rw [← HS.out, ← HB.out, ← HA.out, i1]
            have ka : ck xa = true := by rw [← HA.out, ← HXF.out]; exact ck_ins (ck_fd HY1.out _)
            have kb : ck xb = true := by rw [← HB.out]; exact ck_ins HY1.out
            have sa : Sm xa := by rw [← HA.out]; exact (sz_ins hzf _ _ (Nat.zero_le _)).sm (by decide) (by decide)
            have sb : Sm xb := by rw [← HB.out]; exact (sz_ins hz _ _ (Nat.zero_le _)).sm (by decide) (by decide)
            have HKA : Hid (rdK xa = 5) := by show _ = _; unfold rdK; rw [if_pos ka]
            have HKB : Hid (rdK xb = 5) := by show _ = _; unfold rdK; rw [if_pos kb]
            have C1 := fun w' (hb : Below w8.heap.size w8 w') => ins_any xf _ _ _ _ tp ts tv tt tl 1 r ⟨#[120]⟩ w' hv (hf.later hb) sf
            have C2 := fun w' (hb : Below w8.heap.size w8 w') => ins_any x _ _ _ _ tp ts tv tt tl 1 r ⟨#[120]⟩ w' hv (h.later hb) hs
            rw [HA.out] at C1
            rw [HB.out] at C2
            have C3 := fun va vw vm ve w' (h : Four w' xa va vw vm ve) => read_any xa va vw vm ve w' h sa
            have C4 := fun va vw vm ve w' (h : Four w' xb va vw vm ve) => read_any xb va vw vm ve w' h sb
            unfold RdPost at C3 C4
            rw [HS.out, HKA.out] at C3
            rw [HSB.out, HKB.out] at C4
            have zmx : (Try.prog.info? 39).map (·.size) = some [Value.int .i64 r.p, .int .i64 r.s, .int .i64 r.i].length := size39
            clear he i1 ka kb HKA HKB HS HSB HA HB
            have hS : Calm.Stays (fun w' => Below w8.heap.size w8 w') := fun wa wb h hb => below_on h hb
            have hF : Facts.Stay [pF 0 (eqP (.agg ([Value.int .i64 xf.k, .int .i64 xf.b, .slice qa xf.am.length da, .slice qw xf.wr.length dw, .slice qm xf.mb.length dx, .slice qe xf.el.length de] : List Value).toArray)), pF 1 (eqP (.agg (txc tp ts tv tt tl).toArray)), pF 2 (eqP (.agg [Value.int .i64 r.p, .int .i64 r.s, .int .i64 r.i].toArray)), pF 3 (cP xa), pF 4 (vP 5 rs), pF 5 (eqP (.agg ([Value.int .i64 x.k, .int .i64 x.b, .slice pa x.am.length ca', .slice pw x.wr.length cw, .slice pm x.mb.length cm, .slice pe x.el.length ce] : List Value).toArray)), pF 6 (eqP (.agg (txc tp ts tv tt tl).toArray)), pF 7 (eqP (.agg [Value.int .i64 r.p, .int .i64 r.s, .int .i64 r.i].toArray)), pF 8 (cP xb), pF 9 (vP 5 rs), pF 10 (eqP (.bool true)), pF 11 (eqP (.bool true)), pF 12 (eqP (.bool true)), pF 13 (eqP (.bool true)), pF 14 (eqP (.bool true))] := stay_of (by simp only [List.forall_mem_cons]; exact ⟨⟨_, _, rfl, eqP_keeps _⟩, ⟨_, _, rfl, eqP_keeps _⟩, ⟨_, _, rfl, eqP_keeps _⟩, ⟨_, _, rfl, cP_keeps _⟩, ⟨_, _, rfl, vP_keeps _ _⟩, ⟨_, _, rfl, eqP_keeps _⟩, ⟨_, _, rfl, eqP_keeps _⟩, ⟨_, _, rfl, eqP_keeps _⟩, ⟨_, _, rfl, cP_keeps _⟩, ⟨_, _, rfl, vP_keeps _ _⟩, ⟨_, _, rfl, eqP_keeps _⟩, ⟨_, _, rfl, eqP_keeps _⟩, ⟨_, _, rfl, eqP_keeps _⟩, ⟨_, _, rfl, eqP_keeps _⟩, ⟨_, _, rfl, eqP_keeps _⟩, fun _ h => by cases h⟩)
            refine FactsG.region (by kernel_rfl) (by kernel_rfl) (fun w' => Below w8.heap.size w8 w') (fun xv => { tmps := #[CV x.k x.b (Value.slice pa x.am.length ca') (Value.slice pw x.wr.length cw) (Value.slice pm x.mb.length cm) (Value.slice pe x.el.length ce), TxV tp ts tv tt tl, Value.int IntKind.i64 n, V cv, Value.pointer (some { block := w.heap.size, off := 0 }), Value.pointer (some { block := w.heap.size + 1, off := 0 }), undef, Value.pointer (some { block := w.heap.size + 1 + 1, off := 0 }), xv 14, Value.pointer (some { block := w4.heap.size, off := 0 }), Value.slice po lo.length co, Value.pointer (some { block := w7.heap.size, off := 0 }), Value.agg (cvc x.k x.b (Value.slice pa x.am.length ca') (Value.slice pw x.wr.length cw) (Value.slice pm x.mb.length cm) (Value.slice pe x.el.length ce)), Value.bool true, Value.bool false, Value.bool false, Value.agg (cvc x.k x.b (Value.slice pa x.am.length ca') (Value.slice pw x.wr.length cw) (Value.slice pm x.mb.length cm) (Value.slice pe x.el.length ce)), Value.bool true, Value.bool false, Value.bool false, Value.bool false, Value.pointer (some { block := w.heap.size, off := 5 }), Value.slice pe x.el.length ce, Value.pointer (some { block := w.heap.size + 1, off := 0 }), Value.agg #[Value.int IntKind.i64 tp, Value.int IntKind.i64 ts], Value.agg #[Value.int IntKind.i64 tp, Value.int IntKind.i64 ts, Value.int IntKind.i64 1], Value.int IntKind.i64 z1, Value.bool false, Value.bool false, Value.bool false, Value.int IntKind.i64 n, Value.bool false, Value.bool false, undef, Value.agg (cvc x.k x.b (Value.slice pa x.am.length ca') (Value.slice pw x.wr.length cw) (Value.slice pm x.mb.length cm) (Value.slice pe x.el.length ce)), Value.agg (vals cv).toArray, CV xf.k xf.b (Value.slice qa xf.am.length da) (Value.slice qw xf.wr.length dw) (Value.slice qm xf.mb.length dx) (Value.slice qe xf.el.length de), xq 0, xq 1, xq 2, xq 3, xq 4, xq 5, xq 6, xq 7, xq 8, xq 9, xq 10, xq 11, xq 12, xq 13, xq 14, xq 15, xq 16, xq 17, xq 18, xq 19, xq 20, xq 21, xq 22, xq 23, xq 24, xq 25, Value.bool false, Value.agg (cvc x.k x.b (Value.slice pa x.am.length ca') (Value.slice pw x.wr.length cw) (Value.slice pm x.mb.length cm) (Value.slice pe x.el.length ce)), Value.slice po lo.length co, Value.agg #[Value.int IntKind.i64 0, Value.int IntKind.i64 0, Value.int IntKind.i64 0], Value.int IntKind.i64 n, Value.bool false, Value.bool false, undef, undef, undef, undef, Value.bool false, undef, undef, undef, undef, undef, xv 0, xv 1, xv 2, xv 3, xv 4, xv 5, xv 6, xv 7, xv 8, xv 9, xv 10, xv 11, xv 12, xv 13], defers := [] }) [pF 0 (eqP (.agg ([Value.int .i64 xf.k, .int .i64 xf.b, .slice qa xf.am.length da, .slice qw xf.wr.length dw, .slice qm xf.mb.length dx, .slice qe xf.el.length de] : List Value).toArray)), pF 1 (eqP (.agg (txc tp ts tv tt tl).toArray)), pF 2 (eqP (.agg [Value.int .i64 r.p, .int .i64 r.s, .int .i64 r.i].toArray)), pF 3 (cP xa), pF 4 (vP 5 rs), pF 5 (eqP (.agg ([Value.int .i64 x.k, .int .i64 x.b, .slice pa x.am.length ca', .slice pw x.wr.length cw, .slice pm x.mb.length cm, .slice pe x.el.length ce] : List Value).toArray)), pF 6 (eqP (.agg (txc tp ts tv tt tl).toArray)), pF 7 (eqP (.agg [Value.int .i64 r.p, .int .i64 r.s, .int .i64 r.i].toArray)), pF 8 (cP xb), pF 9 (vP 5 rs), pF 10 (eqP (.bool true)), pF 11 (eqP (.bool true)), pF 12 (eqP (.bool true)), pF 13 (eqP (.bool true)), pF 14 (eqP (.bool true))] (fun _ _ _ _ => True) (fun _ _ _ _ _ => trivial) _ rfl rfl (by kernel_rfl) (fun j => [undef, undef, undef, undef, undef, undef, undef, undef, undef, undef, undef, undef, undef, undef, Value.bool false].getD j undef) rfl (Below.refl _ w8).drew ⟨?_, ?_, ?_, ?_, ?_, ?_, ?_, ?_, ?_, ?_, ?_, ?_, ?_, ?_, ?_, trivial⟩ ?_
            · exact FactsG.of rfl (fun _ _ _ => trivial) (fun _ _ _ _ => rfl) (Facts.loadP hS hF (fun _ _ => rfl) 27 Try.underlying27 rfl zf _ rfl rfl (fun xv wv hSw hd => by rfl) (fun wv hSw => Rw.whole (cs := [Value.int .i64 xf.k, .int .i64 xf.b, .slice qa xf.am.length da, .slice qw xf.wr.length dw, .slice qm xf.mb.length dx, .slice qe xf.el.length de]) (RF.later hSw)))
            · exact FactsG.of rfl (fun _ _ _ => trivial) (fun _ _ _ _ => rfl) (Facts.loadP hS hF (fun _ _ => rfl) 34 Try.underlying34 rfl ztx _ rfl rfl (fun xv wv hSw hd => by rfl) (fun wv hSw => Rw.whole (cs := (txc tp ts tv tt tl)) (R1.later hSw)))
            · exact FactsG.of rfl (fun _ _ _ => trivial) (fun _ _ _ _ => rfl) (Facts.loadP hS hF (fun _ _ => rfl) 39 Try.underlying39 rfl zmx _ rfl rfl (fun xv wv hSw hd => by rfl) (fun wv hSw => Rw.whole (cs := [Value.int .i64 r.p, .int .i64 r.s, .int .i64 r.i]) (RM.later hSw)))
            · refine FactsG.of rfl (fun _ _ _ => trivial) (fun _ _ _ _ => rfl) (Facts.call5P hS hF (fun _ _ => rfl) rfl (by kernel_rfl) rfl (fun xv wv hSw hd => ?_))
              have d0 : xv 0 = _ := pF_get (hd ⟨0, .data⟩ (by simp) rfl _ rfl)
              have d1 : xv 1 = _ := pF_get (hd ⟨1, .data⟩ (by simp) rfl _ rfl)
              have d2 : xv 2 = _ := pF_get (hd ⟨2, .data⟩ (by simp) rfl _ rfl)
              show Calls Try.prog 14 #[xv 0, xv 1, .int .i64 1, xv 2, .string ⟨#[120]⟩] wv _
              rw [d0, d1, d2]
              exact (C1 wv hSw).mono fun e w' h => gives_p h
            · refine FactsG.of rfl (fun _ _ _ => trivial) (fun _ _ _ _ => rfl) (Facts.call1P hS hF (fun _ _ => rfl) rfl (by kernel_rfl) rfl (fun xv wv hSw hd => ?_))
              have d3 := pF_get (hd ⟨3, .data⟩ (by simp) rfl _ rfl)
              show Calls Try.prog 21 #[xv 3] wv _
              obtain ⟨va, vw, vm, ve, e2, f2⟩ := d3
              rw [e2]
              refine (C3 va vw vm ve wv f2).mono ?_
              rintro e w' ⟨u, he, ht, hb⟩
              exact ⟨_, he, ⟨u, rfl, ht⟩, hb⟩
            · exact FactsG.of rfl (fun _ _ _ => trivial) (fun _ _ _ _ => rfl) (Facts.loadP hS hF (fun _ _ => rfl) 27 Try.underlying27 rfl zx _ rfl rfl (fun xv wv hSw hd => by rfl) (fun wv hSw => Rw.whole (cs := [Value.int .i64 x.k, .int .i64 x.b, .slice pa x.am.length ca', .slice pw x.wr.length cw, .slice pm x.mb.length cm, .slice pe x.el.length ce]) (R0.later hSw)))
            · exact FactsG.of rfl (fun _ _ _ => trivial) (fun _ _ _ _ => rfl) (Facts.loadP hS hF (fun _ _ => rfl) 34 Try.underlying34 rfl ztx _ rfl rfl (fun xv wv hSw hd => by rfl) (fun wv hSw => Rw.whole (cs := (txc tp ts tv tt tl)) (R1.later hSw)))
            · exact FactsG.of rfl (fun _ _ _ => trivial) (fun _ _ _ _ => rfl) (Facts.loadP hS hF (fun _ _ => rfl) 39 Try.underlying39 rfl zmx _ rfl rfl (fun xv wv hSw hd => by rfl) (fun wv hSw => Rw.whole (cs := [Value.int .i64 r.p, .int .i64 r.s, .int .i64 r.i]) (RM.later hSw)))
            · refine FactsG.of rfl (fun _ _ _ => trivial) (fun _ _ _ _ => rfl) (Facts.call5P hS hF (fun _ _ => rfl) rfl (by kernel_rfl) rfl (fun xv wv hSw hd => ?_))
              have d5 : xv 5 = _ := pF_get (hd ⟨5, .data⟩ (by simp) rfl _ rfl)
              have d6 : xv 6 = _ := pF_get (hd ⟨6, .data⟩ (by simp) rfl _ rfl)
              have d7 : xv 7 = _ := pF_get (hd ⟨7, .data⟩ (by simp) rfl _ rfl)
              show Calls Try.prog 14 #[xv 5, xv 6, .int .i64 1, xv 7, .string ⟨#[120]⟩] wv _
              rw [d5, d6, d7]
              exact (C2 wv hSw).mono fun e w' h => gives_p h
            · refine FactsG.of rfl (fun _ _ _ => trivial) (fun _ _ _ _ => rfl) (Facts.call1P hS hF (fun _ _ => rfl) rfl (by kernel_rfl) rfl (fun xv wv hSw hd => ?_))
              have d8 := pF_get (hd ⟨8, .data⟩ (by simp) rfl _ rfl)
              show Calls Try.prog 21 #[xv 8] wv _
              obtain ⟨va, vw, vm, ve, e2, f2⟩ := d8
              rw [e2]
              refine (C4 va vw vm ve wv f2).mono ?_
              rintro e w' ⟨u, he, ht, hb⟩
              exact ⟨_, he, ⟨u, rfl, ht⟩, hb⟩
            · refine FactsG.of rfl (fun _ _ _ => trivial) (fun _ _ _ _ => rfl) (Facts.call2P hS hF (fun _ _ => rfl) rfl (by kernel_rfl) rfl (fun xv wv hSw hd => ?_))
              have d4 := pF_get (hd ⟨4, .data⟩ (by simp) rfl _ rfl)
              have d9 := pF_get (hd ⟨9, .data⟩ (by simp) rfl _ rfl)
              show Calls Try.prog 20 #[xv 4, xv 9] wv _
              obtain ⟨u1, e1, f1⟩ := d4
              obtain ⟨u2, e2, f2⟩ := d9
              rw [e1, e2]
              exact (values_any 5 u1 u2 rs wv f1 f2).mono fun e w' h => tells_p h
            · exact FactsG.of rfl (fun _ _ _ => trivial) (fun _ _ _ _ => rfl) (Facts.pureP hS hF (fun _ _ => rfl) rfl (fun xv wv hSw hd => by
                have d10 : xv 10 = _ := pF_get (hd ⟨10, .data⟩ (by simp) rfl _ rfl)
                simp only [d10]
                go_simp))
            · refine FactsG.of rfl (fun _ _ _ => trivial) (fun xv wv hSw hd => by have dg : xv 11 = _ := pF_get (hd ⟨11, .guard⟩ (by simp) rfl _ rfl); simp only [dg]; rfl) (Facts.call0P hS hF (fun _ _ => rfl) rfl (by kernel_rfl) rfl (fun xv wv hSw hd => ?_))
              exact (heads_any wv).mono fun e w' h => tells_p h
            · exact FactsG.of rfl (fun _ _ _ => trivial) (fun _ _ _ _ => rfl) (Facts.pureP hS hF (fun _ _ => rfl) rfl (fun xv wv hSw hd => by
                have d11 : xv 11 = _ := pF_get (hd ⟨11, .data⟩ (by simp) rfl _ rfl)
                have d12 : xv 12 = _ := pF_get (hd ⟨12, .data⟩ (by simp) rfl _ rfl)
                simp only [d11, d12]
                go_simp))
            · exact FactsG.of rfl (fun _ _ _ => trivial) (fun _ _ _ _ => rfl) (Facts.pureP hS hF (fun _ _ => rfl) rfl (fun xv wv hSw hd => by
                have d13 : xv 13 = _ := pF_get (hd ⟨13, .data⟩ (by simp) rfl _ rfl)
                simp only [d13]
                go_simp))
            rintro xv w19 hb9 hff _
            have e14 : xv 14 = _ := pF_get (hff 14 _ (by decide) rfl)
            simp only [e14]
            go_wp2_with fail
            go_ret
            exact ⟨rfl, below_on hbel hb9⟩
          case' pos =>
            by_cases hc : n ≤ (lo.length : Int)
            case' neg =>
              have hg' : decide (0 < n) = true := decide_eq_true hg
              have hc' : decide (n ≤ (lo.length : Int)) = false := decide_eq_false hc
              go_wp2_with (first | rw [hV] | (refine store_r rfl 39 _ _ rfl w7.heap.size #[.int .i64 0, .int .i64 0, .int .i64 0] rfl rfl rm size39 rfl (by simp [Value.oneCell']) ?_; rw [hW]))
              clear hV hW hown hmem rm R07 R17 RF7 h7 hf7 hbel7 hb78
              obtain ⟨r, HRR⟩ := hid_ex (⟨0, 0, 0⟩ : M)
              have HR : Hid (kM r = zK ∨ ∃ a ∈ x.el, nog a = true ∧ kE a = kM r) := Or.inl (by rw [← HRR.out]; rfl)
              replace RM : Rw w8 w7.heap.size 39 #[.int .i64 r.p, .int .i64 r.s, .int .i64 r.i] := by rw [← HRR.out]; exact RM
              clear HRR
              have he := ie_new tp ts tt r ⟨#[120]⟩ (by decide)
              have i1 := rdT_fd_ins HY1.out (hsP cv) (e := (⟨tp, ts, 1, tt, r.p, r.s, r.i, ⟨#[120]⟩, []⟩ : El)) (p' := bfP tp ts tv 1) he HN.out HR.out
              rw [HXF.out] at i1
              obtain ⟨xa, HA⟩ := hid_ex (insX xf (⟨tp, ts, 1, tt, r.p, r.s, r.i, ⟨#[120]⟩, []⟩ : El) (bfP tp ts tv 1))
              obtain ⟨xb, HB⟩ := hid_ex (insX x (⟨tp, ts, 1, tt, r.p, r.s, r.i, ⟨#[120]⟩, []⟩ : El) (bfP tp ts tv 1))
              obtain ⟨rs, HS⟩ := hid_ex (rdT xa)
              have HSB : Hid (rdT xb = rs) := by
                show _ = _
                rw [← HS.out, ← HB.out, ← HA.out, i1]
              have ka : ck xa = true := by rw [← HA.out, ← HXF.out]; exact ck_ins (ck_fd HY1.out _)
              have kb : ck xb = true := by rw [← HB.out]; exact ck_ins HY1.out
              have sa : Sm xa := by rw [← HA.out]; exact (sz_ins hzf _ _ (Nat.zero_le _)).sm (by decide) (by decide)
              have sb : Sm xb := by rw [← HB.out]; exact (sz_ins hz _ _ (Nat.zero_le _)).sm (by decide) (by decide)
              have HKA : Hid (rdK xa = 5) := by show _ = _; unfold rdK; rw [if_pos ka]
              have HKB : Hid (rdK xb = 5) := by show _ = _; unfold rdK; rw [if_pos kb]
              have C1 := fun w' (hb : Below w8.heap.size w8 w') => ins_any xf _ _ _ _ tp ts tv tt tl 1 r ⟨#[120]⟩ w' hv (hf.later hb) sf
              have C2 := fun w' (hb : Below w8.heap.size w8 w') => ins_any x _ _ _ _ tp ts tv tt tl 1 r ⟨#[120]⟩ w' hv (h.later hb) hs
              rw [HA.out] at C1
              rw [HB.out] at C2
              have C3 := fun va vw vm ve w' (h : Four w' xa va vw vm ve) => read_any xa va vw vm ve w' h sa
              have C4 := fun va vw vm ve w' (h : Four w' xb va vw vm ve) => read_any xb va vw vm ve w' h sb
              unfold RdPost at C3 C4
              rw [HS.out, HKA.out] at C3
              rw [HSB.out, HKB.out] at C4
              have zmx : (Try.prog.info? 39).map (·.size) = some [Value.int .i64 r.p, .int .i64 r.s, .int .i64 r.i].length := size39
              clear he i1 ka kb HKA HKB HS HSB HA HB
              have hS : Calm.Stays (fun w' => Below w8.heap.size w8 w') := fun wa wb h hb => below_on h hb
              have hF : Facts.Stay [pF 0 (eqP (.agg ([Value.int .i64 xf.k, .int .i64 xf.b, .slice qa xf.am.length da, .slice qw xf.wr.length dw, .slice qm xf.mb.length dx, .slice qe xf.el.length de] : List Value).toArray)), pF 1 (eqP (.agg (txc tp ts tv tt tl).toArray)), pF 2 (eqP (.agg [Value.int .i64 r.p, .int .i64 r.s, .int .i64 r.i].toArray)), pF 3 (cP xa), pF 4 (vP 5 rs), pF 5 (eqP (.agg ([Value.int .i64 x.k, .int .i64 x.b, .slice pa x.am.length ca', .slice pw x.wr.length cw, .slice pm x.mb.length cm, .slice pe x.el.length ce] : List Value).toArray)), pF 6 (eqP (.agg (txc tp ts tv tt tl).toArray)), pF 7 (eqP (.agg [Value.int .i64 r.p, .int .i64 r.s, .int .i64 r.i].toArray)), pF 8 (cP xb), pF 9 (vP 5 rs), pF 10 (eqP (.bool true)), pF 11 (eqP (.bool true)), pF 12 (eqP (.bool true)), pF 13 (eqP (.bool true)), pF 14 (eqP (.bool true))] := stay_of (by simp only [List.forall_mem_cons]; exact ⟨⟨_, _, rfl, eqP_keeps _⟩, ⟨_, _, rfl, eqP_keeps _⟩, ⟨_, _, rfl, eqP_keeps _⟩, ⟨_, _, rfl, cP_keeps _⟩, ⟨_, _, rfl, vP_keeps _ _⟩, ⟨_, _, rfl, eqP_keeps _⟩, ⟨_, _, rfl, eqP_keeps _⟩, ⟨_, _, rfl, eqP_keeps _⟩, ⟨_, _, rfl, cP_keeps _⟩, ⟨_, _, rfl, vP_keeps _ _⟩, ⟨_, _, rfl, eqP_keeps _⟩, ⟨_, _, rfl, eqP_keeps _⟩, ⟨_, _, rfl, eqP_keeps _⟩, ⟨_, _, rfl, eqP_keeps _⟩, ⟨_, _, rfl, eqP_keeps _⟩, fun _ h => by cases h⟩)
              refine FactsG.region (by kernel_rfl) (by kernel_rfl) (fun w' => Below w8.heap.size w8 w') (fun xv => { tmps := #[CV x.k x.b (Value.slice pa x.am.length ca') (Value.slice pw x.wr.length cw) (Value.slice pm x.mb.length cm) (Value.slice pe x.el.length ce), TxV tp ts tv tt tl, Value.int IntKind.i64 n, V cv, Value.pointer (some { block := w.heap.size, off := 0 }), Value.pointer (some { block := w.heap.size + 1, off := 0 }), undef, Value.pointer (some { block := w.heap.size + 1 + 1, off := 0 }), xv 14, Value.pointer (some { block := w4.heap.size, off := 0 }), Value.slice po lo.length co, Value.pointer (some { block := w7.heap.size, off := 0 }), Value.agg (cvc x.k x.b (Value.slice pa x.am.length ca') (Value.slice pw x.wr.length cw) (Value.slice pm x.mb.length cm) (Value.slice pe x.el.length ce)), Value.bool true, Value.bool false, Value.bool false, Value.agg (cvc x.k x.b (Value.slice pa x.am.length ca') (Value.slice pw x.wr.length cw) (Value.slice pm x.mb.length cm) (Value.slice pe x.el.length ce)), Value.bool true, Value.bool false, Value.bool false, Value.bool false, Value.pointer (some { block := w.heap.size, off := 5 }), Value.slice pe x.el.length ce, Value.pointer (some { block := w.heap.size + 1, off := 0 }), Value.agg #[Value.int IntKind.i64 tp, Value.int IntKind.i64 ts], Value.agg #[Value.int IntKind.i64 tp, Value.int IntKind.i64 ts, Value.int IntKind.i64 1], Value.int IntKind.i64 z1, Value.bool false, Value.bool false, Value.bool false, Value.int IntKind.i64 n, Value.bool false, Value.bool false, undef, Value.agg (cvc x.k x.b (Value.slice pa x.am.length ca') (Value.slice pw x.wr.length cw) (Value.slice pm x.mb.length cm) (Value.slice pe x.el.length ce)), Value.agg (vals cv).toArray, CV xf.k xf.b (Value.slice qa xf.am.length da) (Value.slice qw xf.wr.length dw) (Value.slice qm xf.mb.length dx) (Value.slice qe xf.el.length de), xq 0, xq 1, xq 2, xq 3, xq 4, xq 5, xq 6, xq 7, xq 8, xq 9, xq 10, xq 11, xq 12, xq 13, xq 14, xq 15, xq 16, xq 17, xq 18, xq 19, xq 20, xq 21, xq 22, xq 23, xq 24, xq 25, Value.bool false, Value.agg (cvc x.k x.b (Value.slice pa x.am.length ca') (Value.slice pw x.wr.length cw) (Value.slice pm x.mb.length cm) (Value.slice pe x.el.length ce)), Value.slice po lo.length co, Value.agg #[Value.int IntKind.i64 0, Value.int IntKind.i64 0, Value.int IntKind.i64 0], Value.int IntKind.i64 n, Value.bool true, Value.bool true, Value.int IntKind.i64 n, Value.slice po lo.length co, Value.int IntKind.i64 ↑lo.length, Value.bool false, Value.bool false, undef, undef, undef, undef, undef, xv 0, xv 1, xv 2, xv 3, xv 4, xv 5, xv 6, xv 7, xv 8, xv 9, xv 10, xv 11, xv 12, xv 13], defers := [] }) [pF 0 (eqP (.agg ([Value.int .i64 xf.k, .int .i64 xf.b, .slice qa xf.am.length da, .slice qw xf.wr.length dw, .slice qm xf.mb.length dx, .slice qe xf.el.length de] : List Value).toArray)), pF 1 (eqP (.agg (txc tp ts tv tt tl).toArray)), pF 2 (eqP (.agg [Value.int .i64 r.p, .int .i64 r.s, .int .i64 r.i].toArray)), pF 3 (cP xa), pF 4 (vP 5 rs), pF 5 (eqP (.agg ([Value.int .i64 x.k, .int .i64 x.b, .slice pa x.am.length ca', .slice pw x.wr.length cw, .slice pm x.mb.length cm, .slice pe x.el.length ce] : List Value).toArray)), pF 6 (eqP (.agg (txc tp ts tv tt tl).toArray)), pF 7 (eqP (.agg [Value.int .i64 r.p, .int .i64 r.s, .int .i64 r.i].toArray)), pF 8 (cP xb), pF 9 (vP 5 rs), pF 10 (eqP (.bool true)), pF 11 (eqP (.bool true)), pF 12 (eqP (.bool true)), pF 13 (eqP (.bool true)), pF 14 (eqP (.bool true))] (fun _ _ _ _ => True) (fun _ _ _ _ _ => trivial) _ rfl rfl (by kernel_rfl) (fun j => [undef, undef, undef, undef, undef, undef, undef, undef, undef, undef, undef, undef, undef, undef, Value.bool false].getD j undef) rfl (Below.refl _ w8).drew ⟨?_, ?_, ?_, ?_, ?_, ?_, ?_, ?_, ?_, ?_, ?_, ?_, ?_, ?_, ?_, trivial⟩ ?_
              · exact FactsG.of rfl (fun _ _ _ => trivial) (fun _ _ _ _ => rfl) (Facts.loadP hS hF (fun _ _ => rfl) 27 Try.underlying27 rfl zf _ rfl rfl (fun xv wv hSw hd => by rfl) (fun wv hSw => Rw.whole (cs := [Value.int .i64 xf.k, .int .i64 xf.b, .slice qa xf.am.length da, .slice qw xf.wr.length dw, .slice qm xf.mb.length dx, .slice qe xf.el.length de]) (RF.later hSw)))
              · exact FactsG.of rfl (fun _ _ _ => trivial) (fun _ _ _ _ => rfl) (Facts.loadP hS hF (fun _ _ => rfl) 34 Try.underlying34 rfl ztx _ rfl rfl (fun xv wv hSw hd => by rfl) (fun wv hSw => Rw.whole (cs := (txc tp ts tv tt tl)) (R1.later hSw)))
              · exact FactsG.of rfl (fun _ _ _ => trivial) (fun _ _ _ _ => rfl) (Facts.loadP hS hF (fun _ _ => rfl) 39 Try.underlying39 rfl zmx _ rfl rfl (fun xv wv hSw hd => by rfl) (fun wv hSw => Rw.whole (cs := [Value.int .i64 r.p, .int .i64 r.s, .int .i64 r.i]) (RM.later hSw)))
              · refine FactsG.of rfl (fun _ _ _ => trivial) (fun _ _ _ _ => rfl) (Facts.call5P hS hF (fun _ _ => rfl) rfl (by kernel_rfl) rfl (fun xv wv hSw hd => ?_))
                have d0 : xv 0 = _ := pF_get (hd ⟨0, .data⟩ (by simp) rfl _ rfl)
                have d1 : xv 1 = _ := pF_get (hd ⟨1, .data⟩ (by simp) rfl _ rfl)
                have d2 : xv 2 = _ := pF_get (hd ⟨2, .data⟩ (by simp) rfl _ rfl)
                show Calls Try.prog 14 #[xv 0, xv 1, .int .i64 1, xv 2, .string ⟨#[120]⟩] wv _
                rw [d0, d1, d2]
                exact (C1 wv hSw).mono fun e w' h => gives_p h
              · refine FactsG.of rfl (fun _ _ _ => trivial) (fun _ _ _ _ => rfl) (Facts.call1P hS hF (fun _ _ => rfl) rfl (by kernel_rfl) rfl (fun xv wv hSw hd => ?_))
                have d3 := pF_get (hd ⟨3, .data⟩ (by simp) rfl _ rfl)
                show Calls Try.prog 21 #[xv 3] wv _
                obtain ⟨va, vw, vm, ve, e2, f2⟩ := d3
                rw [e2]
                refine (C3 va vw vm ve wv f2).mono ?_
                rintro e w' ⟨u, he, ht, hb⟩
                exact ⟨_, he, ⟨u, rfl, ht⟩, hb⟩
              · exact FactsG.of rfl (fun _ _ _ => trivial) (fun _ _ _ _ => rfl) (Facts.loadP hS hF (fun _ _ => rfl) 27 Try.underlying27 rfl zx _ rfl rfl (fun xv wv hSw hd => by rfl) (fun wv hSw => Rw.whole (cs := [Value.int .i64 x.k, .int .i64 x.b, .slice pa x.am.length ca', .slice pw x.wr.length cw, .slice pm x.mb.length cm, .slice pe x.el.length ce]) (R0.later hSw)))
              · exact FactsG.of rfl (fun _ _ _ => trivial) (fun _ _ _ _ => rfl) (Facts.loadP hS hF (fun _ _ => rfl) 34 Try.underlying34 rfl ztx _ rfl rfl (fun xv wv hSw hd => by rfl) (fun wv hSw => Rw.whole (cs := (txc tp ts tv tt tl)) (R1.later hSw)))
              · exact FactsG.of rfl (fun _ _ _ => trivial) (fun _ _ _ _ => rfl) (Facts.loadP hS hF (fun _ _ => rfl) 39 Try.underlying39 rfl zmx _ rfl rfl (fun xv wv hSw hd => by rfl) (fun wv hSw => Rw.whole (cs := [Value.int .i64 r.p, .int .i64 r.s, .int .i64 r.i]) (RM.later hSw)))
              · refine FactsG.of rfl (fun _ _ _ => trivial) (fun _ _ _ _ => rfl) (Facts.call5P hS hF (fun _ _ => rfl) rfl (by kernel_rfl) rfl (fun xv wv hSw hd => ?_))
                have d5 : xv 5 = _ := pF_get (hd ⟨5, .data⟩ (by simp) rfl _ rfl)
                have d6 : xv 6 = _ := pF_get (hd ⟨6, .data⟩ (by simp) rfl _ rfl)
                have d7 : xv 7 = _ := pF_get (hd ⟨7, .data⟩ (by simp) rfl _ rfl)
                show Calls Try.prog 14 #[xv 5, xv 6, .int .i64 1, xv 7, .string ⟨#[120]⟩] wv _
                rw [d5, d6, d7]
                exact (C2 wv hSw).mono fun e w' h => gives_p h
              · refine FactsG.of rfl (fun _ _ _ => trivial) (fun _ _ _ _ => rfl) (Facts.call1P hS hF (fun _ _ => rfl) rfl (by kernel_rfl) rfl (fun xv wv hSw hd => ?_))
                have d8 := pF_get (hd ⟨8, .data⟩ (by simp) rfl _ rfl)
                show Calls Try.prog 21 #[xv 8] wv _
                obtain ⟨va, vw, vm, ve, e2, f2⟩ := d8
                rw [e2]
                refine (C4 va vw vm ve wv f2).mono ?_
                rintro e w' ⟨u, he, ht, hb⟩
                exact ⟨_, he, ⟨u, rfl, ht⟩, hb⟩
              · refine FactsG.of rfl (fun _ _ _ => trivial) (fun _ _ _ _ => rfl) (Facts.call2P hS hF (fun _ _ => rfl) rfl (by kernel_rfl) rfl (fun xv wv hSw hd => ?_))
                have d4 := pF_get (hd ⟨4, .data⟩ (by simp) rfl _ rfl)
                have d9 := pF_get (hd ⟨9, .data⟩ (by simp) rfl _ rfl)
                show Calls Try.prog 20 #[xv 4, xv 9] wv _
                obtain ⟨u1, e1, f1⟩ := d4
                obtain ⟨u2, e2, f2⟩ := d9
                rw [e1, e2]
                exact (values_any 5 u1 u2 rs wv f1 f2).mono fun e w' h => tells_p h
              · exact FactsG.of rfl (fun _ _ _ => trivial) (fun _ _ _ _ => rfl) (Facts.pureP hS hF (fun _ _ => rfl) rfl (fun xv wv hSw hd => by
                  have d10 : xv 10 = _ := pF_get (hd ⟨10, .data⟩ (by simp) rfl _ rfl)
                  simp only [d10]
                  go_simp))
              · refine FactsG.of rfl (fun _ _ _ => trivial) (fun xv wv hSw hd => by have dg : xv 11 = _ := pF_get (hd ⟨11, .guard⟩ (by simp) rfl _ rfl); simp only [dg]; rfl) (Facts.call0P hS hF (fun _ _ => rfl) rfl (by kernel_rfl) rfl (fun xv wv hSw hd => ?_))
                exact (heads_any wv).mono fun e w' h => tells_p h
              · exact FactsG.of rfl (fun _ _ _ => trivial) (fun _ _ _ _ => rfl) (Facts.pureP hS hF (fun _ _ => rfl) rfl (fun xv wv hSw hd => by
                  have d11 : xv 11 = _ := pF_get (hd ⟨11, .data⟩ (by simp) rfl _ rfl)
                  have d12 : xv 12 = _ := pF_get (hd ⟨12, .data⟩ (by simp) rfl _ rfl)
                  simp only [d11, d12]
                  go_simp))
              · exact FactsG.of rfl (fun _ _ _ => trivial) (fun _ _ _ _ => rfl) (Facts.pureP hS hF (fun _ _ => rfl) rfl (fun xv wv hSw hd => by
                  have d13 : xv 13 = _ := pF_get (hd ⟨13, .data⟩ (by simp) rfl _ rfl)
                  simp only [d13]
                  go_simp))
              rintro xv w19 hb9 hff _
              have e14 : xv 14 = _ := pF_get (hff 14 _ (by decide) rfl)
              simp only [e14]
              go_wp2_with fail
              go_ret
              exact ⟨rfl, below_on hbel hb9⟩
            case' pos =>
              have hg' : decide (0 < n) = true := decide_eq_true hg
              have hc' : decide (n ≤ (lo.length : Int)) = true := decide_eq_true hc
              obtain ⟨k, rfl⟩ : ∃ k : Nat, n = (k : Int) + 1 := ⟨(n - 1).toNat, by omega⟩
              have hk : k < lo.length := by omega
              have hm := own_sh hown
              obtain ⟨go, oo, e1, hr⟩ := hm.at (by omega)
              subst e1
              have rk := M.elem hr k hk
              obtain ⟨r, HRR⟩ := hid_ex lo[k]
              rw [HRR.out] at rk
              have hk0 : (0 : Int) ≤ (k : Int) := by omega
              have hk' : (k : Int) < (lo.length : Int) := by omega
              have zm : (Try.prog.info? 39).map (·.size) = some r.cells.length := size39
              have hw1 : IntKind.i64.wrap ((k : Int) + 1 - 1) = (k : Int) := by rw [IntKind.wrap_i64]; omega
              have HR : Hid (kM r = zK ∨ ∃ a ∈ x.el, nog a = true ∧ kE a = kM r) := Or.inr (hmem.out r (by rw [← HRR.out]; exact List.getElem_mem _))
              go_wp2_with (first | rw [hV] | (refine store_r rfl 39 _ _ rfl w7.heap.size #[.int .i64 0, .int .i64 0, .int .i64 0] rfl rfl rm size39 rfl (by simp [Value.oneCell']) ?_; rw [hW]) | refine load_m 39 _ rfl rfl _ _ rfl rk Try.underlying39 rfl zm ?_ | refine store_r rfl 39 _ _ rfl w7.heap.size #[.int .i64 r.p, .int .i64 r.s, .int .i64 r.i] rfl rfl RM size39 rfl (by simp [Value.oneCell']) ?_)
              clear hV hW rm hown hmem hm hr rk HRR hg' hc' hg hc hw1
              have hb79 := below_setRow hb78 (g := w7.heap.size) (Nat.le_refl _) #[.int .i64 r.p, .int .i64 r.s, .int .i64 r.i]
              replace R0 := R07.later hb79
              replace R1 := R17.later hb79
              replace RF := RF7.later hb79
              replace h := h7.later hb79
              replace hf := hf7.later hb79
              replace hbel := below_on hbel7 hb79
              replace RM := RM.row #[.int .i64 r.p, .int .i64 r.s, .int .i64 r.i]
              clear R07 R17 RF7 h7 hf7 hbel7 hb78 hb79 R2
              generalize w8.setRow w7.heap.size #[.int .i64 r.p, .int .i64 r.s, .int .i64 r.i] = w10 at R0 R1 RF h hf hbel RM ⊢
              simp only [Act.put, List.setIfInBounds_toArray, List.set_cons_zero, List.set_cons_succ]
              have he := ie_new tp ts tt r ⟨#[120]⟩ (by decide)
              have i1 := rdT_fd_ins HY1.out (hsP cv) (e := (⟨tp, ts, 1, tt, r.p, r.s, r.i, ⟨#[120]⟩, []⟩ : El)) (p' := bfP tp ts tv 1) he HN.out HR.out
              rw [HXF.out] at i1
              obtain ⟨xa, HA⟩ := hid_ex (insX xf (⟨tp, ts, 1, tt, r.p, r.s, r.i, ⟨#[120]⟩, []⟩ : El) (bfP tp ts tv 1))
              obtain ⟨xb, HB⟩ := hid_ex (insX x (⟨tp, ts, 1, tt, r.p, r.s, r.i, ⟨#[120]⟩, []⟩ : El) (bfP tp ts tv 1))
              obtain ⟨rs, HS⟩ := hid_ex (rdT xa)
              have HSB : Hid (rdT xb = rs) := by
                show _ = _
                rw [← HS.out, ← HB.out, ← HA.out, i1]
              have ka : ck xa = true := by rw [← HA.out, ← HXF.out]; exact ck_ins (ck_fd HY1.out _)
              have kb : ck xb = true := by rw [← HB.out]; exact ck_ins HY1.out
              have sa : Sm xa := by rw [← HA.out]; exact (sz_ins hzf _ _ (Nat.zero_le _)).sm (by decide) (by decide)
              have sb : Sm xb := by rw [← HB.out]; exact (sz_ins hz _ _ (Nat.zero_le _)).sm (by decide) (by decide)
              have HKA : Hid (rdK xa = 5) := by show _ = _; unfold rdK; rw [if_pos ka]
              have HKB : Hid (rdK xb = 5) := by show _ = _; unfold rdK; rw [if_pos kb]
              have C1 := fun w' (hb : Below w10.heap.size w10 w') => ins_any xf _ _ _ _ tp ts tv tt tl 1 r ⟨#[120]⟩ w' hv (hf.later hb) sf
              have C2 := fun w' (hb : Below w10.heap.size w10 w') => ins_any x _ _ _ _ tp ts tv tt tl 1 r ⟨#[120]⟩ w' hv (h.later hb) hs
              rw [HA.out] at C1
              rw [HB.out] at C2
              have C3 := fun va vw vm ve w' (h : Four w' xa va vw vm ve) => read_any xa va vw vm ve w' h sa
              have C4 := fun va vw vm ve w' (h : Four w' xb va vw vm ve) => read_any xb va vw vm ve w' h sb
              unfold RdPost at C3 C4
              rw [HS.out, HKA.out] at C3
              rw [HSB.out, HKB.out] at C4
              have zmx : (Try.prog.info? 39).map (·.size) = some [Value.int .i64 r.p, .int .i64 r.s, .int .i64 r.i].length := size39
              clear he i1 ka kb HKA HKB HS HSB HA HB
              have hS : Calm.Stays (fun w' => Below w10.heap.size w10 w') := fun wa wb h hb => below_on h hb
              have hF : Facts.Stay [pF 0 (eqP (.agg ([Value.int .i64 xf.k, .int .i64 xf.b, .slice qa xf.am.length da, .slice qw xf.wr.length dw, .slice qm xf.mb.length dx, .slice qe xf.el.length de] : List Value).toArray)), pF 1 (eqP (.agg (txc tp ts tv tt tl).toArray)), pF 2 (eqP (.agg [Value.int .i64 r.p, .int .i64 r.s, .int .i64 r.i].toArray)), pF 3 (cP xa), pF 4 (vP 5 rs), pF 5 (eqP (.agg ([Value.int .i64 x.k, .int .i64 x.b, .slice pa x.am.length ca', .slice pw x.wr.length cw, .slice pm x.mb.length cm, .slice pe x.el.length ce] : List Value).toArray)), pF 6 (eqP (.agg (txc tp ts tv tt tl).toArray)), pF 7 (eqP (.agg [Value.int .i64 r.p, .int .i64 r.s, .int .i64 r.i].toArray)), pF 8 (cP xb), pF 9 (vP 5 rs), pF 10 (eqP (.bool true)), pF 11 (eqP (.bool true)), pF 12 (eqP (.bool true)), pF 13 (eqP (.bool true)), pF 14 (eqP (.bool true))] := stay_of (by simp only [List.forall_mem_cons]; exact ⟨⟨_, _, rfl, eqP_keeps _⟩, ⟨_, _, rfl, eqP_keeps _⟩, ⟨_, _, rfl, eqP_keeps _⟩, ⟨_, _, rfl, cP_keeps _⟩, ⟨_, _, rfl, vP_keeps _ _⟩, ⟨_, _, rfl, eqP_keeps _⟩, ⟨_, _, rfl, eqP_keeps _⟩, ⟨_, _, rfl, eqP_keeps _⟩, ⟨_, _, rfl, cP_keeps _⟩, ⟨_, _, rfl, vP_keeps _ _⟩, ⟨_, _, rfl, eqP_keeps _⟩, ⟨_, _, rfl, eqP_keeps _⟩, ⟨_, _, rfl, eqP_keeps _⟩, ⟨_, _, rfl, eqP_keeps _⟩, ⟨_, _, rfl, eqP_keeps _⟩, fun _ h => by cases h⟩)
              refine FactsG.region (by kernel_rfl) (by kernel_rfl) (fun w' => Below w10.heap.size w10 w') (fun xv => { tmps := #[CV x.k x.b (Value.slice pa x.am.length ca') (Value.slice pw x.wr.length cw) (Value.slice pm x.mb.length cm) (Value.slice pe x.el.length ce), TxV tp ts tv tt tl, Value.int IntKind.i64 (↑k + 1), V cv, Value.pointer (some { block := w.heap.size, off := 0 }), Value.pointer (some { block := w.heap.size + 1, off := 0 }), undef, Value.pointer (some { block := w.heap.size + 1 + 1, off := 0 }), xv 14, Value.pointer (some { block := w4.heap.size, off := 0 }), Value.slice (some { block := go, off := oo }) lo.length co, Value.pointer (some { block := w7.heap.size, off := 0 }), Value.agg (cvc x.k x.b (Value.slice pa x.am.length ca') (Value.slice pw x.wr.length cw) (Value.slice pm x.mb.length cm) (Value.slice pe x.el.length ce)), Value.bool true, Value.bool false, Value.bool false, Value.agg (cvc x.k x.b (Value.slice pa x.am.length ca') (Value.slice pw x.wr.length cw) (Value.slice pm x.mb.length cm) (Value.slice pe x.el.length ce)), Value.bool true, Value.bool false, Value.bool false, Value.bool false, Value.pointer (some { block := w.heap.size, off := 5 }), Value.slice pe x.el.length ce, Value.pointer (some { block := w.heap.size + 1, off := 0 }), Value.agg #[Value.int IntKind.i64 tp, Value.int IntKind.i64 ts], Value.agg #[Value.int IntKind.i64 tp, Value.int IntKind.i64 ts, Value.int IntKind.i64 1], Value.int IntKind.i64 z1, Value.bool false, Value.bool false, Value.bool false, Value.int IntKind.i64 (↑k + 1), Value.bool false, Value.bool false, undef, Value.agg (cvc x.k x.b (Value.slice pa x.am.length ca') (Value.slice pw x.wr.length cw) (Value.slice pm x.mb.length cm) (Value.slice pe x.el.length ce)), Value.agg (vals cv).toArray, CV xf.k xf.b (Value.slice qa xf.am.length da) (Value.slice qw xf.wr.length dw) (Value.slice qm xf.mb.length dx) (Value.slice qe xf.el.length de), xq 0, xq 1, xq 2, xq 3, xq 4, xq 5, xq 6, xq 7, xq 8, xq 9, xq 10, xq 11, xq 12, xq 13, xq 14, xq 15, xq 16, xq 17, xq 18, xq 19, xq 20, xq 21, xq 22, xq 23, xq 24, xq 25, Value.bool false, Value.agg (cvc x.k x.b (Value.slice pa x.am.length ca') (Value.slice pw x.wr.length cw) (Value.slice pm x.mb.length cm) (Value.slice pe x.el.length ce)), Value.slice (some { block := go, off := oo }) lo.length co, Value.agg #[Value.int IntKind.i64 0, Value.int IntKind.i64 0, Value.int IntKind.i64 0], Value.int IntKind.i64 (↑k + 1), Value.bool true, Value.bool true, Value.int IntKind.i64 (↑k + 1), Value.slice (some { block := go, off := oo }) lo.length co, Value.int IntKind.i64 ↑lo.length, Value.bool true, Value.bool true, Value.slice (some { block := go, off := oo }) lo.length co, Value.int IntKind.i64 (↑k + 1), Value.int IntKind.i64 ↑k, Value.pointer (some { block := go, off := oo + k * 3 }), Value.agg r.cells.toArray, xv 0, xv 1, xv 2, xv 3, xv 4, xv 5, xv 6, xv 7, xv 8, xv 9, xv 10, xv 11, xv 12, xv 13], defers := [] }) [pF 0 (eqP (.agg ([Value.int .i64 xf.k, .int .i64 xf.b, .slice qa xf.am.length da, .slice qw xf.wr.length dw, .slice qm xf.mb.length dx, .slice qe xf.el.length de] : List Value).toArray)), pF 1 (eqP (.agg (txc tp ts tv tt tl).toArray)), pF 2 (eqP (.agg [Value.int .i64 r.p, .int .i64 r.s, .int .i64 r.i].toArray)), pF 3 (cP xa), pF 4 (vP 5 rs), pF 5 (eqP (.agg ([Value.int .i64 x.k, .int .i64 x.b, .slice pa x.am.length ca', .slice pw x.wr.length cw, .slice pm x.mb.length cm, .slice pe x.el.length ce] : List Value).toArray)), pF 6 (eqP (.agg (txc tp ts tv tt tl).toArray)), pF 7 (eqP (.agg [Value.int .i64 r.p, .int .i64 r.s, .int .i64 r.i].toArray)), pF 8 (cP xb), pF 9 (vP 5 rs), pF 10 (eqP (.bool true)), pF 11 (eqP (.bool true)), pF 12 (eqP (.bool true)), pF 13 (eqP (.bool true)), pF 14 (eqP (.bool true))] (fun _ _ _ _ => True) (fun _ _ _ _ _ => trivial) _ rfl rfl (by kernel_rfl) (fun j => [undef, undef, undef, undef, undef, undef, undef, undef, undef, undef, undef, undef, undef, undef, Value.bool false].getD j undef) rfl (Below.refl _ w10).drew ⟨?_, ?_, ?_, ?_, ?_, ?_, ?_, ?_, ?_, ?_, ?_, ?_, ?_, ?_, ?_, trivial⟩ ?_
              · exact FactsG.of rfl (fun _ _ _ => trivial) (fun _ _ _ _ => rfl) (Facts.loadP hS hF (fun _ _ => rfl) 27 Try.underlying27 rfl zf _ rfl rfl (fun xv wv hSw hd => by rfl) (fun wv hSw => Rw.whole (cs := [Value.int .i64 xf.k, .int .i64 xf.b, .slice qa xf.am.length da, .slice qw xf.wr.length dw, .slice qm xf.mb.length dx, .slice qe xf.el.length de]) (RF.later hSw)))
              · exact FactsG.of rfl (fun _ _ _ => trivial) (fun _ _ _ _ => rfl) (Facts.loadP hS hF (fun _ _ => rfl) 34 Try.underlying34 rfl ztx _ rfl rfl (fun xv wv hSw hd => by rfl) (fun wv hSw => Rw.whole (cs := (txc tp ts tv tt tl)) (R1.later hSw)))
              · exact FactsG.of rfl (fun _ _ _ => trivial) (fun _ _ _ _ => rfl) (Facts.loadP hS hF (fun _ _ => rfl) 39 Try.underlying39 rfl zmx _ rfl rfl (fun xv wv hSw hd => by rfl) (fun wv hSw => Rw.whole (cs := [Value.int .i64 r.p, .int .i64 r.s, .int .i64 r.i]) (RM.later hSw)))
              · refine FactsG.of rfl (fun _ _ _ => trivial) (fun _ _ _ _ => rfl) (Facts.call5P hS hF (fun _ _ => rfl) rfl (by kernel_rfl) rfl (fun xv wv hSw hd => ?_))
                have d0 : xv 0 = _ := pF_get (hd ⟨0, .data⟩ (by simp) rfl _ rfl)
                have d1 : xv 1 = _ := pF_get (hd ⟨1, .data⟩ (by simp) rfl _ rfl)
                have d2 : xv 2 = _ := pF_get (hd ⟨2, .data⟩ (by simp) rfl _ rfl)
                show Calls Try.prog 14 #[xv 0, xv 1, .int .i64 1, xv 2, .string ⟨#[120]⟩] wv _
                rw [d0, d1, d2]
                exact (C1 wv hSw).mono fun e w' h => gives_p h
              · refine FactsG.of rfl (fun _ _ _ => trivial) (fun _ _ _ _ => rfl) (Facts.call1P hS hF (fun _ _ => rfl) rfl (by kernel_rfl) rfl (fun xv wv hSw hd => ?_))
                have d3 := pF_get (hd ⟨3, .data⟩ (by simp) rfl _ rfl)
                show Calls Try.prog 21 #[xv 3] wv _
                obtain ⟨va, vw, vm, ve, e2, f2⟩ := d3
                rw [e2]
                refine (C3 va vw vm ve wv f2).mono ?_
                rintro e w' ⟨u, he, ht, hb⟩
                exact ⟨_, he, ⟨u, rfl, ht⟩, hb⟩
              · exact FactsG.of rfl (fun _ _ _ => trivial) (fun _ _ _ _ => rfl) (Facts.loadP hS hF (fun _ _ => rfl) 27 Try.underlying27 rfl zx _ rfl rfl (fun xv wv hSw hd => by rfl) (fun wv hSw => Rw.whole (cs := [Value.int .i64 x.k, .int .i64 x.b, .slice pa x.am.length ca', .slice pw x.wr.length cw, .slice pm x.mb.length cm, .slice pe x.el.length ce]) (R0.later hSw)))
              · exact FactsG.of rfl (fun _ _ _ => trivial) (fun _ _ _ _ => rfl) (Facts.loadP hS hF (fun _ _ => rfl) 34 Try.underlying34 rfl ztx _ rfl rfl (fun xv wv hSw hd => by rfl) (fun wv hSw => Rw.whole (cs := (txc tp ts tv tt tl)) (R1.later hSw)))
              · exact FactsG.of rfl (fun _ _ _ => trivial) (fun _ _ _ _ => rfl) (Facts.loadP hS hF (fun _ _ => rfl) 39 Try.underlying39 rfl zmx _ rfl rfl (fun xv wv hSw hd => by rfl) (fun wv hSw => Rw.whole (cs := [Value.int .i64 r.p, .int .i64 r.s, .int .i64 r.i]) (RM.later hSw)))
              · refine FactsG.of rfl (fun _ _ _ => trivial) (fun _ _ _ _ => rfl) (Facts.call5P hS hF (fun _ _ => rfl) rfl (by kernel_rfl) rfl (fun xv wv hSw hd => ?_))
                have d5 : xv 5 = _ := pF_get (hd ⟨5, .data⟩ (by simp) rfl _ rfl)
                have d6 : xv 6 = _ := pF_get (hd ⟨6, .data⟩ (by simp) rfl _ rfl)
                have d7 : xv 7 = _ := pF_get (hd ⟨7, .data⟩ (by simp) rfl _ rfl)
                show Calls Try.prog 14 #[xv 5, xv 6, .int .i64 1, xv 7, .string ⟨#[120]⟩] wv _
                rw [d5, d6, d7]
                exact (C2 wv hSw).mono fun e w' h => gives_p h
              · refine FactsG.of rfl (fun _ _ _ => trivial) (fun _ _ _ _ => rfl) (Facts.call1P hS hF (fun _ _ => rfl) rfl (by kernel_rfl) rfl (fun xv wv hSw hd => ?_))
                have d8 := pF_get (hd ⟨8, .data⟩ (by simp) rfl _ rfl)
                show Calls Try.prog 21 #[xv 8] wv _
                obtain ⟨va, vw, vm, ve, e2, f2⟩ := d8
                rw [e2]
                refine (C4 va vw vm ve wv f2).mono ?_
                rintro e w' ⟨u, he, ht, hb⟩
                exact ⟨_, he, ⟨u, rfl, ht⟩, hb⟩
              · refine FactsG.of rfl (fun _ _ _ => trivial) (fun _ _ _ _ => rfl) (Facts.call2P hS hF (fun _ _ => rfl) rfl (by kernel_rfl) rfl (fun xv wv hSw hd => ?_))
                have d4 := pF_get (hd ⟨4, .data⟩ (by simp) rfl _ rfl)
                have d9 := pF_get (hd ⟨9, .data⟩ (by simp) rfl _ rfl)
                show Calls Try.prog 20 #[xv 4, xv 9] wv _
                obtain ⟨u1, e1, f1⟩ := d4
                obtain ⟨u2, e2, f2⟩ := d9
                rw [e1, e2]
                exact (values_any 5 u1 u2 rs wv f1 f2).mono fun e w' h => tells_p h
              · exact FactsG.of rfl (fun _ _ _ => trivial) (fun _ _ _ _ => rfl) (Facts.pureP hS hF (fun _ _ => rfl) rfl (fun xv wv hSw hd => by
                  have d10 : xv 10 = _ := pF_get (hd ⟨10, .data⟩ (by simp) rfl _ rfl)
                  simp only [d10]
                  go_simp))
              · refine FactsG.of rfl (fun _ _ _ => trivial) (fun xv wv hSw hd => by have dg : xv 11 = _ := pF_get (hd ⟨11, .guard⟩ (by simp) rfl _ rfl); simp only [dg]; rfl) (Facts.call0P hS hF (fun _ _ => rfl) rfl (by kernel_rfl) rfl (fun xv wv hSw hd => ?_))
                exact (heads_any wv).mono fun e w' h => tells_p h
              · exact FactsG.of rfl (fun _ _ _ => trivial) (fun _ _ _ _ => rfl) (Facts.pureP hS hF (fun _ _ => rfl) rfl (fun xv wv hSw hd => by
                  have d11 : xv 11 = _ := pF_get (hd ⟨11, .data⟩ (by simp) rfl _ rfl)
                  have d12 : xv 12 = _ := pF_get (hd ⟨12, .data⟩ (by simp) rfl _ rfl)
                  simp only [d11, d12]
                  go_simp))
              · exact FactsG.of rfl (fun _ _ _ => trivial) (fun _ _ _ _ => rfl) (Facts.pureP hS hF (fun _ _ => rfl) rfl (fun xv wv hSw hd => by
                  have d13 : xv 13 = _ := pF_get (hd ⟨13, .data⟩ (by simp) rfl _ rfl)
                  simp only [d13]
                  go_simp))
              rintro xv w19 hb9 hff _
              have e14 : xv 14 = _ := pF_get (hff 14 _ (by decide) rfl)
              simp only [e14]
              go_wp2_with fail
              go_ret
              exact ⟨rfl, below_on hbel hb9⟩
end Go.Proofs.Ytfjpbmdmkcihcaa
namespace Go.Proofs.Ytfjpbmdmkcihcaa
open Go.ChangeShapes Go.WideShapes Go.ChangeAt Go.RowKit

theorem seqFolds_own : ownKnob Try.prog.godebug = none := by kernel_rfl
theorem seqFolds_laidOut : laidOutB Try.prog = true := by kernel_rfl

set_option maxRecDepth 100000 in
theorem seqFolds_lifted (os : Os) (started : os.Started) (H : Type) (enc : TypeId × Value → H) :
    ReturnsInHanded {} Try.checked os 5 .any (Rows.seqFoldsSpec.pre6 enc Try.prog Try.f5 Rows.seqFoldsRow.domain false) (Rows.seqFoldsSpec.post enc Try.prog Try.f5 false true false false) := by
  refine returnsInHanded_of_change_sized (C := Try.checked) seqFolds_own started (by kernel_rfl) Try.func5
    (ChangeSpec.witness6 (enc := enc) (C := Try.checked) false ⟨#[], #[.agg #[.int .i64 0, .int .i64 0, .slice none 0 0, .slice none 0 0, .slice none 0 0, .slice none 0 0], .agg #[.int .i64 0, .int .i64 0, .int .i64 0, .int .i64 0, .int .i64 0, .int .i64 0, .int .i64 0, .int .i64 0, .int .i64 0, .int .i64 0, .int .i64 0, .int .i64 0, .int .i64 0, .int .i64 0, .int .i64 0, .int .i64 0, .slice none 0 0], .int .i64 0, .agg #[.int .i64 0, .int .i64 0, .int .i64 0, .int .i64 0, .int .i64 0, .int .i64 0, .int .i64 0, .int .i64 0, .int .i64 0, .int .i64 0, .int .i64 0, .int .i64 0, .int .i64 0]], []⟩ 8 (by kernel_rfl) (by kernel_rfl) (by kernel_rfl) (by kernel_rfl)) ?_
  intro W base args ds gs before hval0 hW hcnd hsz0 _
  have hsz : (DataW.weightsEach Try.prog (Try.f5.params.toList ++ Rows.seqFoldsSpec.plain.varTypes Try.prog) (ds ++ gs)).all (· ≤ reachBytes) = true := hsz0
  clear hsz0
  have hval : ∀ (j : Nat) t v, Try.f5.params[j]? = some t → args[j]? = some v → Value.okWide Try.prog W .any base t v := hval0
  have hW' := hW
  obtain ⟨p, q, hA0, hV, rfl, hfz, hnd⟩ := hW
  have hA : DataW.TrodAll enc Try.prog W 0 (fun _ => true) true Try.f5.params.toList args.toList ds p := hA0
  rw [Try.params5] at hA hval hsz
  obtain ⟨v0, vs0, d0, ds0, p0, q0, hargs, rfl, rfl, h0, r0⟩ := trodAll_cons hA
  obtain ⟨v1, vs1, d1, ds1, p1, q1, rfl, rfl, rfl, h1, r1⟩ := trodAll_cons r0
  obtain ⟨v2, vs2, d2, ds2, p2, q2, rfl, rfl, rfl, h2, r2⟩ := trodAll_cons r1
  obtain ⟨v3, vs3, d3, ds3, p3, q3, rfl, rfl, rfl, h3, r3⟩ := trodAll_cons r2
  obtain ⟨rfl, rfl, rfl⟩ := trodAll_nil r3
  obtain rfl : args = #[v0, v1, v2, v3] := by cases args; simp_all
  obtain ⟨rfl, rfl⟩ := trodVars_none hV
  obtain ⟨x0_, va0, vw0, vm0, ve0, rfl, hf0, hk0⟩ := open_cell (hval 0 27 v0 rfl rfl) h0
  have lk0 : Lk x0_ := hk0 (by simp only [List.cons_append, DataW.weightsEach, List.all_append, Bool.and_eq_true] at hsz; exact hsz.1)
  clear hk0
  obtain ⟨p1_, s1_, u1_, t1_, sl1_, l1_, rfl, hu1_, ho1_⟩ := open_tx (hval 1 34 v1 rfl rfl) h1
  obtain ⟨a2, rfl, rfl, rfl, w2⟩ := open_int Try.underlying3 (hval 2 3 v2 rfl rfl) h2
  obtain ⟨l3, rfl, hl3⟩ := open_vec (hval 3 31 v3 rfl rfl) h3
  clear hA0 hval0 hval hA hsz
  have k0 := h0
  have lt0 : ∀ x ∈ p0, x.block < W.heap.size := by obtain ⟨m, hm⟩ := k0; exact DataW.trod_lt m _ _ _ hm
  have k1 := h1
  have lt1 : ∀ x ∈ p1, x.block < W.heap.size := by obtain ⟨m, hm⟩ := k1; exact DataW.trod_lt m _ _ _ hm
  have b2 := bounds_i64 w2
  have k3 := h3
  have lt3 : ∀ x ∈ p3, x.block < W.heap.size := by obtain ⟨m, hm⟩ := k3; exact DataW.trod_lt m _ _ _ hm
  refine (folds_law x0_ va0 vw0 vm0 ve0 p1_ s1_ u1_ t1_ sl1_ a2 l3 W hu1_ hl3 hf0 lk0).mono fun e W' ⟨he, bel⟩ => ?_
  subst he
  exact ⟨_, rfl, _, _, _, [], _, [], hW', trodAll_mk1 (shut_bool Try.underlying4 _), (trodAll_cons_mk (Below.trod seqFolds_laidOut (by kernel_rfl) (of_decide_eq_true (by kernel_rfl)) k0 bel lt0) (trodAll_cons_mk (Below.trod seqFolds_laidOut (by kernel_rfl) (of_decide_eq_true (by kernel_rfl)) k1 bel lt1) (trodAll_cons_mk (shut_int Try.underlying3 w2) (trodAll_cons_mk (Below.trod seqFolds_laidOut (by kernel_rfl) (of_decide_eq_true (by kernel_rfl)) k3 bel lt3) trodAll_mk0)))), rfl, bel.frame _, fun h => by cases h⟩

theorem seqFolds_holds : Rows.SeqFoldsSaid :=
  OpenClaim.holds_of_wide 5 Try.f5 rfl rfl rfl rfl rfl rfl rfl ⟨rfl, rfl, rfl, rfl, rfl⟩ rfl rfl rfl rfl rfl (by kernel_rfl) Try.func5 (by kernel_rfl)
    (of_decide_eq_true (by kernel_rfl)) (by unfold Func.isWrapper; first | (rw [if_pos (by decide +kernel)]; kernel_rfl) | (rw [if_neg (by decide +kernel)]; exact ⟨rfl, rfl⟩))
    (fun os started H enc _ => seqFolds_lifted os started H enc)

#print axioms seqFolds_holds
end Go.Proofs.Ytfjpbmdmkcihcaa
