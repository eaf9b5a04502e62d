/- What RegisterOrder says, of every cell, two transactions and two texts. -/
import Derived.Test.YtknpnjhedfdggaaHeads
import Derived.Test.YtknpnjhedfdggaaSml
import Derived.Test.YtknpnjhedfdggaaComm
namespace Go.Proofs.Ytknpnjhedfdggaa
open Go.RowKit
open Go.Sort

set_option maxHeartbeats 16000000 in
set_option maxRecDepth 100000 in
theorem order_law (x : X) (va vw vm ve : Value) (tp ts : Int) (tv : List Int) (tt : Int) (tl : Value) (lo : List O) (up us : Int) (uv : List Int) (ut : Int) (ul : Value) (lp : List O) (sa sb : ByteArray) (w : World) (hv : tv.length = 13) (hu : uv.length = 13) (ho : OHas w tl lo) (hp : OHas w ul lp) (h : Four w x va vw vm ve) (hl : Lk x) : Calls Try.prog 5 #[CV x.k x.b va vw vm ve, TxV tp ts tv tt tl, TxV up us uv ut ul, .string sa, .string sb] w (Tells (.bool true) w) := by
  obtain ⟨pa, ca', pw, cw, pm, cm, pe, ce, rfl, rfl, rfl, rfl⟩ := h.slices
  obtain ⟨R0, R1, R2, hbel⟩ := three_rows w (cvc x.k x.b (.slice pa x.am.length ca') (.slice pw x.wr.length cw) (.slice pm x.mb.length cm) (.slice pe x.el.length ce)) 27 (txc tp ts tv tt tl).toArray 34 (txc up us uv ut ul).toArray 34
  replace h := h.later hbel
  replace ho := ho.later hbel
  replace hp := hp.later hbel
  have hB : w.heap.size + 3 ≤ (((w.alloc (.cells (cvc x.k x.b (.slice pa x.am.length ca') (.slice pw x.wr.length cw) (.slice pm x.mb.length cm) (.slice pe x.el.length ce)) 27)).alloc (.cells (txc tp ts tv tt tl).toArray 34)).alloc (.cells (txc up us uv ut ul).toArray 34)).heap.size := by simp
  generalize hW : ((w.alloc (.cells (cvc x.k x.b (.slice pa x.am.length ca') (.slice pw x.wr.length cw) (.slice pm x.mb.length cm) (.slice pe x.el.length ce)) 27)).alloc (.cells (txc tp ts tv tt tl).toArray 34)).alloc (.cells (txc up us uv ut ul).toArray 34) = w0 at R0 R1 R2 hbel h ho hp hB
  have zt := size_tx (p := tp) (s := ts) (t := tt) (sl := tl) hv
  have zu := size_tx (p := up) (s := us) (t := ut) (sl := ul) hu
  have zd1 : (Try.prog.info? 29).map (·.size) = some [Value.int .i64 tp, .int .i64 ts].length := size29
  have zd2 : (Try.prog.info? 29).map (·.size) = some [Value.int .i64 up, .int .i64 us].length := size29
  go_enter Try.func5, Try.ntmps5
  go_wp2_with (first | rw [hW] | refine load_r 27 _ rfl rfl _ rfl R0 Try.underlying27 rfl size27 ?_)
  clear hW
  refine (few_any x _ _ _ _ w0 h hl).mono ?_
  rintro e w1 ⟨bf1, rfl, hfw, hb1⟩
  have HFW : Hid (bf1 = true → Fw x) := hfw
  replace R0 := R0.later hb1
  replace R1 := R1.later hb1
  replace R2 := R2.later hb1
  replace h := h.later hb1
  replace ho := ho.later hb1
  replace hp := hp.later hb1
  replace hbel := below_on hbel hb1
  replace hB := Nat.le_trans hB hb1.size
  clear hb1 hfw hl
  cases bf1
  · clear HFW
    go_wp2_with fail
    refine (heads_any _).mono ?_
    rintro e w9 ⟨rfl, hb9⟩
    go_wp2_with fail
    go_ret
    exact ⟨rfl, below_on hbel hb9⟩
  · have hf := HFW.out rfl
    have hs := hf.sm
    have h60 : x.wr.length ≤ 60 := by have := hf.n; omega
    clear HFW hf
    go_wp2_with (first | refine load_r 27 _ rfl rfl _ rfl R0 Try.underlying27 rfl size27 ?_)
    refine (refCheck_any x _ _ _ _ w1 h hs).mono ?_
    rintro e w2 ⟨rfl, hb1⟩
    replace R0 := R0.later hb1
    replace R1 := R1.later hb1
    replace R2 := R2.later hb1
    replace h := h.later hb1
    replace ho := ho.later hb1
    replace hp := hp.later hb1
    replace hbel := below_on hbel hb1
    replace hB := Nat.le_trans hB hb1.size
    clear hb1
    obtain ⟨y1, HY1⟩ := hid_ex (ck x)
    rw [HY1.out]
    cases y1
    · go_wp2_with fail
      refine (heads_any _).mono ?_
      rintro e w9 ⟨rfl, hb9⟩
      go_wp2_with fail
      go_ret
      exact ⟨rfl, below_on hbel hb9⟩
    · skip
      obtain ⟨z0, HZ0⟩ := hid_ex (decide (tp = up) && decide (ts = us))
      have E0 := fun w => eq_dot w tp ts up us
      rw [HZ0.out] at E0
      cases z0
      case' true =>
        go_wp2_with (first | refine load_m 29 _ rfl rfl _ _ rfl (tx_dot R1) Try.underlying29 rfl zd1 ?_ | refine load_m 29 _ rfl rfl _ _ rfl (tx_dot R2) Try.underlying29 rfl zd2 ?_)
        refine (heads_any _).mono ?_
        rintro e w9 ⟨rfl, hb9⟩
        go_wp2_with fail
        go_ret
        exact ⟨rfl, below_on hbel hb9⟩
      case' false =>
        by_cases ha : 64 < sa.size
        case' pos =>
          have ha' : decide ((64 : Int) < (sa.size : Int)) = true := decide_eq_true (by omega)
          go_wp2_with (first | refine load_m 29 _ rfl rfl _ _ rfl (tx_dot R1) Try.underlying29 rfl zd1 ?_ | refine load_m 29 _ rfl rfl _ _ rfl (tx_dot R2) Try.underlying29 rfl zd2 ?_)
          refine (heads_any _).mono ?_
          rintro e w9 ⟨rfl, hb9⟩
          go_wp2_with fail
          go_ret
          exact ⟨rfl, below_on hbel hb9⟩
        case' neg =>
          have ha' : decide ((64 : Int) < (sa.size : Int)) = false := decide_eq_false (by omega)
          by_cases hb : 64 < sb.size
          case' pos =>
            have hb' : decide ((64 : Int) < (sb.size : Int)) = true := decide_eq_true (by omega)
            go_wp2_with (first | refine load_m 29 _ rfl rfl _ _ rfl (tx_dot R1) Try.underlying29 rfl zd1 ?_ | refine load_m 29 _ rfl rfl _ _ rfl (tx_dot R2) Try.underlying29 rfl zd2 ?_)
            refine (heads_any _).mono ?_
            rintro e w9 ⟨rfl, hb9⟩
            go_wp2_with fail
            go_ret
            exact ⟨rfl, below_on hbel hb9⟩
          case' neg =>
            have hb' : decide ((64 : Int) < (sb.size : Int)) = false := decide_eq_false (by omega)
            have HIA : Hid (iw 1 sa = true) := ofR_len sa (by omega)
            have HIB : Hid (iw 1 sb = true) := ofR_len sb (by omega)
            go_wp2_with (first | refine load_m 29 _ rfl rfl _ _ rfl (tx_dot R1) Try.underlying29 rfl zd1 ?_ | refine load_m 29 _ rfl rfl _ _ rfl (tx_dot R2) Try.underlying29 rfl zd2 ?_ | refine load_r 34 _ rfl rfl _ rfl R1 Try.underlying34 rfl zt ?_)
            clear ha hb E0
            refine (small_any tp ts tv tt tl lo w2 hv ho).mono ?_
            rintro e w3 ⟨b1, rfl, _, hb1⟩
            replace R0 := R0.later hb1
            replace R1 := R1.later hb1
            replace R2 := R2.later hb1
            replace h := h.later hb1
            replace hp := hp.later hb1
            replace hbel := below_on hbel hb1
            replace hB := Nat.le_trans hB hb1.size
            clear hb1 ho
            cases b1
            case' false =>
              go_wp2_with fail
              refine (heads_any _).mono ?_
              rintro e w9 ⟨rfl, hb9⟩
              go_wp2_with fail
              go_ret
              exact ⟨rfl, below_on hbel hb9⟩
            case' true =>
              go_wp2_with (first | refine load_r 34 _ rfl rfl _ rfl R2 Try.underlying34 rfl zu ?_)
              refine (small_any up us uv ut ul lp w3 hu hp).mono ?_
              rintro e w4 ⟨b2, rfl, _, hb1⟩
              replace R0 := R0.later hb1
              replace R1 := R1.later hb1
              replace R2 := R2.later hb1
              replace h := h.later hb1
              replace hbel := below_on hbel hb1
              replace hB := Nat.le_trans hB hb1.size
              clear hb1 hp
              cases b2
              case' false =>
                go_wp2_with fail
                refine (heads_any _).mono ?_
                rintro e w9 ⟨rfl, hb9⟩
                go_wp2_with fail
                go_ret
                exact ⟨rfl, below_on hbel hb9⟩
              case' true =>
                go_wp2_with fail
                have hS : Calm.Stays (fun w' => Below w4.heap.size w4 w') := fun wa wb h hb => below_on h hb
                have hF : Facts.Stay [pF 0 (eqP (.pointer (some ⟨w.heap.size + 1, 0, none⟩))), pF 1 (eqP (.agg ([Value.int .i64 tp, .int .i64 ts] : List Value).toArray)), pF 2 (eqP (.agg #[.int .i64 tp, .int .i64 ts, .int .i64 1])), pF 3 (eqP (.pointer (some ⟨w.heap.size + 2, 0, none⟩))), pF 4 (eqP (.agg ([Value.int .i64 up, .int .i64 us] : List Value).toArray)), pF 5 (eqP (.agg #[.int .i64 up, .int .i64 us, .int .i64 1])), pF 6 (newP w4.heap.size 39 3), pF 7 (newP w4.heap.size 39 3), pF 6 (boxP w4.heap.size 39 #[.int .i64 tp, .int .i64 ts, .int .i64 1]), pF 7 (boxP w4.heap.size 39 #[.int .i64 up, .int .i64 us, .int .i64 1])] := stay_of (by simp only [List.forall_mem_cons]; exact ⟨⟨_, _, rfl, eqP_keeps _⟩, ⟨_, _, rfl, eqP_keeps _⟩, ⟨_, _, rfl, eqP_keeps _⟩, ⟨_, _, rfl, eqP_keeps _⟩, ⟨_, _, rfl, eqP_keeps _⟩, ⟨_, _, rfl, eqP_keeps _⟩, ⟨_, _, rfl, newP_keeps _ _ _⟩, ⟨_, _, rfl, newP_keeps _ _ _⟩, ⟨_, _, rfl, boxP_keeps _ _ _⟩, ⟨_, _, rfl, boxP_keeps _ _ _⟩, fun _ h => by cases h⟩)
                refine FactsG.region (by kernel_rfl) (by kernel_rfl) (fun w' => Below w4.heap.size w4 w') (fun xv => { tmps := #[CV x.k x.b (Value.slice pa x.am.length ca') (Value.slice pw x.wr.length cw) (Value.slice pm x.mb.length cm) (Value.slice pe x.el.length ce), TxV tp ts tv tt tl, TxV up us uv ut ul, Value.string sa, Value.string sb, Value.pointer (some { block := w.heap.size, off := 0 }), Value.pointer (some { block := w.heap.size + 1, off := 0 }), Value.pointer (some { block := w.heap.size + 1 + 1, off := 0 }), undef, undef, Value.bool false, xv 6, xv 7, undef, undef, undef, Value.agg (cvc x.k x.b (Value.slice pa x.am.length ca') (Value.slice pw x.wr.length cw) (Value.slice pm x.mb.length cm) (Value.slice pe x.el.length ce)), Value.bool true, Value.bool false, Value.bool false, Value.agg (cvc x.k x.b (Value.slice pa x.am.length ca') (Value.slice pw x.wr.length cw) (Value.slice pm x.mb.length cm) (Value.slice pe x.el.length ce)), Value.bool true, Value.bool false, Value.bool false, Value.bool false, Value.pointer (some { block := w.heap.size + 1, off := 0 }), Value.agg #[Value.int IntKind.i64 tp, Value.int IntKind.i64 ts], Value.pointer (some { block := w.heap.size + 1 + 1, off := 0 }), Value.agg #[Value.int IntKind.i64 up, Value.int IntKind.i64 us], Value.bool false, Value.bool false, Value.bool false, Value.string sa, Value.int IntKind.i64 ↑sa.size, Value.bool false, Value.bool false, Value.bool false, Value.string sb, Value.int IntKind.i64 ↑sb.size, Value.bool false, Value.bool false, Value.bool false, Value.agg (txc tp ts tv tt tl).toArray, Value.bool true, Value.bool false, Value.bool false, Value.bool false, Value.agg (txc up us uv ut ul).toArray, Value.bool true, Value.bool false, Value.bool false, undef, xv 0, xv 1, xv 2, xv 3, xv 4, xv 5, undef, undef, undef, undef, undef, undef, undef, undef, undef, undef, undef, undef, undef, undef, undef, undef, undef, undef, undef, undef, undef, undef, undef, undef, undef, undef, undef, undef, undef, undef, undef, undef, undef, undef, undef, undef, undef, undef, undef, undef, undef, undef, undef, undef, undef, undef, undef, undef, undef, undef, undef, undef, undef, undef, undef, undef, undef, undef, undef], defers := [] }) [pF 0 (eqP (.pointer (some ⟨w.heap.size + 1, 0, none⟩))), pF 1 (eqP (.agg ([Value.int .i64 tp, .int .i64 ts] : List Value).toArray)), pF 2 (eqP (.agg #[.int .i64 tp, .int .i64 ts, .int .i64 1])), pF 3 (eqP (.pointer (some ⟨w.heap.size + 2, 0, none⟩))), pF 4 (eqP (.agg ([Value.int .i64 up, .int .i64 us] : List Value).toArray)), pF 5 (eqP (.agg #[.int .i64 up, .int .i64 us, .int .i64 1])), pF 6 (newP w4.heap.size 39 3), pF 7 (newP w4.heap.size 39 3), pF 6 (boxP w4.heap.size 39 #[.int .i64 tp, .int .i64 ts, .int .i64 1]), pF 7 (boxP w4.heap.size 39 #[.int .i64 up, .int .i64 us, .int .i64 1])] (_root_.Go.Proofs.Ytknpnjhedfdggaa.R2 6 7) (R2_symm 6 7) _ rfl rfl (by kernel_rfl) (fun j => [undef, undef, undef, undef, undef, undef, undef, undef, undef, undef].getD j undef) rfl (Below.refl _ w4).drew ⟨?_, ?_, ?_, ?_, ?_, ?_, ?_, ?_, ?_, ?_, trivial⟩ ?_
                · exact FactsG.of rfl (fun _ _ _ h => absurd h (by omega)) (fun _ _ _ _ => rfl) (Facts.pureP hS hF (fun _ _ => rfl) rfl (fun xv wv hSw hd => by
                    go_simp))
                · exact FactsG.of rfl (fun _ _ _ h => absurd h (by omega)) (fun _ _ _ _ => rfl) (Facts.loadP hS hF (fun _ _ => rfl) 29 Try.underlying29 rfl zd1 _ rfl rfl (fun xv wv hSw hd => by have d0 : xv 0 = _ := pF_get (hd ⟨0, .data⟩ (by simp) rfl _ rfl); exact d0) (fun wv hSw => tx_dot (R1.later hSw)))
                · exact FactsG.of rfl (fun _ _ _ h => absurd h (by omega)) (fun _ _ _ _ => rfl) (Facts.pureP hS hF (fun _ _ => rfl) rfl (fun xv wv hSw hd => by
                    have d1 : xv 1 = _ := pF_get (hd ⟨1, .data⟩ (by simp) rfl _ rfl)
                    simp only [d1]
                    go_simp))
                · exact FactsG.of rfl (fun _ _ _ h => absurd h (by omega)) (fun _ _ _ _ => rfl) (Facts.pureP hS hF (fun _ _ => rfl) rfl (fun xv wv hSw hd => by
                    go_simp))
                · exact FactsG.of rfl (fun _ _ _ h => absurd h (by omega)) (fun _ _ _ _ => rfl) (Facts.loadP hS hF (fun _ _ => rfl) 29 Try.underlying29 rfl zd2 _ rfl rfl (fun xv wv hSw hd => by have d3 : xv 3 = _ := pF_get (hd ⟨3, .data⟩ (by simp) rfl _ rfl); exact d3) (fun wv hSw => tx_dot (R2.later hSw)))
                · exact FactsG.of rfl (fun _ _ _ h => absurd h (by omega)) (fun _ _ _ _ => rfl) (Facts.pureP hS hF (fun _ _ => rfl) rfl (fun xv wv hSw hd => by
                    have d4 : xv 4 = _ := pF_get (hd ⟨4, .data⟩ (by simp) rfl _ rfl)
                    simp only [d4]
                    go_simp))
                · exact FactsG.alloc2 rfl rfl hS hF (fun _ _ => rfl) 39 rfl rfl (fun wv hSw => hSw.size) (fun _ _ => rfl) (fun j f hj h => by rcases h with ⟨h, rfl⟩ | ⟨h, rfl⟩ <;> first | (simp at h; done) | exact ⟨39, 3, (Option.some.inj hj).symm⟩)
                · exact FactsG.alloc2 rfl rfl hS hF (fun _ _ => rfl) 39 rfl rfl (fun wv hSw => hSw.size) (fun _ _ => rfl) (fun j f hj h => by rcases h with ⟨h, rfl⟩ | ⟨h, rfl⟩ <;> first | (simp at h; done) | exact ⟨39, 3, (Option.some.inj hj).symm⟩)
                · refine FactsG.ofR rfl (fun _ _ _ _ => rfl) (fun xv wv hSw hd hrel => ?_)
                  obtain ⟨q, cs, eq, hN, hq, hz⟩ := pF_get (hd ⟨6, .data⟩ (by simp) rfl _ rfl)
                  have dv : xv 2 = _ := pF_get (hd ⟨2, .data⟩ (by simp) rfl _ rfl)
                  have hne : xv 6 ≠ xv 7 := hrel ⟨6, .phase⟩ (by simp) rfl ⟨7, .phase⟩ (by simp) rfl (by decide) (by simp)
                  refine wp_store_r 39 _ _ rfl q #[.int .i64 tp, .int .i64 ts, .int .i64 1] eq dv hq size39 hz (by simp [Value.oneCell']) ?_
                  refine ⟨undef, rfl, below_setRow hSw hN _, fun f hf => ?_, fun j f hj hfj hh => ?_, fun j _ _ _ _ h => absurd h (by omega)⟩
                  · obtain rfl := Option.some.inj hf
                    exact ⟨xv 6, rfl, q, eq, hN, hq.row _⟩
                  · have hko : ∀ q', xv 7 = .pointer (some ⟨q', 0, none⟩) → q' ≠ q := fun q' e' e2 => hne (by rw [eq, e', e2])
                    match j with
                    | 0 => obtain rfl := Option.some.inj hfj; exact hh
                    | 1 => obtain rfl := Option.some.inj hfj; exact hh
                    | 2 => obtain rfl := Option.some.inj hfj; exact hh
                    | 3 => obtain rfl := Option.some.inj hfj; exact hh
                    | 4 => obtain rfl := Option.some.inj hfj; exact hh
                    | 5 => obtain rfl := Option.some.inj hfj; exact hh
                    | 6 =>
                      obtain rfl := Option.some.inj hfj
                      exact ⟨xv 6, rfl, q, #[.int .i64 tp, .int .i64 ts, .int .i64 1], eq, hN, hq.row _, rfl⟩
                    | 7 =>
                      obtain rfl := Option.some.inj hfj
                      obtain ⟨q', cs', e', hN', hq', hz'⟩ := pF_get hh
                      exact ⟨xv 7, rfl, q', cs', e', hN', hq'.rowOther (hko q' e') _, hz'⟩
                    | 9 =>
                      obtain rfl := Option.some.inj hfj
                      obtain ⟨vv, ev, q', e', hN', hq'⟩ := hh
                      simp only [pF, List.map_cons, List.map_nil, List.cons.injEq, and_true] at ev
                      exact ⟨vv, by simp [pF, ev], q', e', hN', hq'.rowOther (hko q' (ev.trans e')) _⟩
                    | 8 => exact absurd rfl hj
                    | j + 10 => simp at hfj
                · refine FactsG.ofR rfl (fun _ _ _ _ => rfl) (fun xv wv hSw hd hrel => ?_)
                  obtain ⟨q, cs, eq, hN, hq, hz⟩ := pF_get (hd ⟨7, .data⟩ (by simp) rfl _ rfl)
                  have dv : xv 5 = _ := pF_get (hd ⟨5, .data⟩ (by simp) rfl _ rfl)
                  have hne : xv 7 ≠ xv 6 := hrel ⟨7, .phase⟩ (by simp) rfl ⟨6, .phase⟩ (by simp) rfl (by decide) (by simp)
                  refine wp_store_r 39 _ _ rfl q #[.int .i64 up, .int .i64 us, .int .i64 1] eq dv hq size39 hz (by simp [Value.oneCell']) ?_
                  refine ⟨undef, rfl, below_setRow hSw hN _, fun f hf => ?_, fun j f hj hfj hh => ?_, fun j _ _ _ _ h => absurd h (by omega)⟩
                  · obtain rfl := Option.some.inj hf
                    exact ⟨xv 7, rfl, q, eq, hN, hq.row _⟩
                  · have hko : ∀ q', xv 6 = .pointer (some ⟨q', 0, none⟩) → q' ≠ q := fun q' e' e2 => hne (by rw [eq, e', e2])
                    match j with
                    | 0 => obtain rfl := Option.some.inj hfj; exact hh
                    | 1 => obtain rfl := Option.some.inj hfj; exact hh
                    | 2 => obtain rfl := Option.some.inj hfj; exact hh
                    | 3 => obtain rfl := Option.some.inj hfj; exact hh
                    | 4 => obtain rfl := Option.some.inj hfj; exact hh
                    | 5 => obtain rfl := Option.some.inj hfj; exact hh
                    | 7 =>
                      obtain rfl := Option.some.inj hfj
                      exact ⟨xv 7, rfl, q, #[.int .i64 up, .int .i64 us, .int .i64 1], eq, hN, hq.row _, rfl⟩
                    | 6 =>
                      obtain rfl := Option.some.inj hfj
                      obtain ⟨q', cs', e', hN', hq', hz'⟩ := pF_get hh
                      exact ⟨xv 6, rfl, q', cs', e', hN', hq'.rowOther (hko q' e') _, hz'⟩
                    | 8 =>
                      obtain rfl := Option.some.inj hfj
                      obtain ⟨vv, ev, q', e', hN', hq'⟩ := hh
                      simp only [pF, List.map_cons, List.map_nil, List.cons.injEq, and_true] at ev
                      exact ⟨vv, by simp [pF, ev], q', e', hN', hq'.rowOther (hko q' (ev.trans e')) _⟩
                    | 9 => exact absurd rfl hj
                    | j + 10 => simp at hfj
                rintro xq w5 hb5 hf hr
                obtain ⟨q1, ep1, hN1, B1⟩ := pF_get (hf 8 _ (by decide) rfl)
                obtain ⟨q2, ep2, hN2, B2⟩ := pF_get (hf 9 _ (by decide) rfl)
                clear hf hr hS hF
                replace R0 := R0.later hb5
                replace R1 := R1.later hb5
                replace R2 := R2.later hb5
                replace h := h.later hb5
                replace hbel := below_on hbel hb5
                replace hB := Nat.le_trans hB hb5.size
                clear hb5
                simp only [ep1, ep2]
                clear ep1 ep2
                have C1 := fun w => refBefore_any tp ts 1 up us uv ut ul 1 w hu
                obtain ⟨z1, HZ1⟩ := hid_ex (bf tp ts 1 up us uv 1)
                rw [HZ1.out] at C1
                have C2 := fun w => refBefore_any up us 1 tp ts tv tt tl 1 w hv
                obtain ⟨z2, HZ2⟩ := hid_ex (bf up us 1 tp ts tv 1)
                rw [HZ2.out] at C2
                go_wp2_with (first | refine load_r 39 _ rfl rfl _ rfl B1 Try.underlying39 rfl size39 ?_ | refine load_r 34 _ rfl rfl _ rfl R2 Try.underlying34 rfl zu ?_)
                refine (C1 _).mono ?_
                clear C1
                rintro e w7 ⟨rfl, hb1⟩
                replace R0 := R0.later hb1
                replace R1 := R1.later hb1
                replace R2 := R2.later hb1
                replace h := h.later hb1
                replace B1 := B1.later hb1
                replace B2 := B2.later hb1
                replace hbel := below_on hbel hb1
                replace hB := Nat.le_trans hB hb1.size
                clear hb1
                cases z1
                case' true =>
                  clear HZ1 HZ2
                  go_wp2_with fail
                  refine (heads_any _).mono ?_
                  rintro e w9 ⟨rfl, hb9⟩
                  go_wp2_with fail
                  go_ret
                  exact ⟨rfl, below_on hbel hb9⟩
                case' false =>
                  go_wp2_with (first | refine load_r 39 _ rfl rfl _ rfl B2 Try.underlying39 rfl size39 ?_ | refine load_r 34 _ rfl rfl _ rfl R1 Try.underlying34 rfl zt ?_)
                  refine (C2 _).mono ?_
                  clear C2
                  rintro e w6 ⟨rfl, hb1⟩
                  replace R0 := R0.later hb1
                  replace R1 := R1.later hb1
                  replace R2 := R2.later hb1
                  replace h := h.later hb1
                  replace B1 := B1.later hb1
                  replace B2 := B2.later hb1
                  replace hbel := below_on hbel hb1
                  replace hB := Nat.le_trans hB hb1.size
                  clear hb1
                  cases z2
                  case' true =>
                    clear HZ1 HZ2
                    go_wp2_with fail
                    refine (heads_any _).mono ?_
                    rintro e w9 ⟨rfl, hb9⟩
                    go_wp2_with fail
                    go_ret
                    exact ⟨rfl, below_on hbel hb9⟩
                  case' false =>
                    have HH : Hid (Four w6 x (.slice pa x.am.length ca') (.slice pw x.wr.length cw) (.slice pm x.mb.length cm) (.slice pe x.el.length ce)) := h
                    have HB6 : Hid (Below w.heap.size w w6) := hbel
                    have hst := hs.t
                    have zm1 : (Try.prog.info? 39).map (·.size) = some [Value.int .i64 tp, .int .i64 ts, .int .i64 1].length := size39
                    have zm2 : (Try.prog.info? 39).map (·.size) = some [Value.int .i64 up, .int .i64 us, .int .i64 1].length := size39
                    clear h
                    go_wp2_with fail
                    go_loopw [13] (fun vi wr => ∃ k : Nat, vi = .int .i64 k ∧ k ≤ x.wr.length ∧ Hid (∀ j (h : j < x.wr.length), j < k → mk x.wr[j] ⟨tp, ts, 1, tt, sa⟩ = false ∧ mk x.wr[j] ⟨up, us, 1, ut, sb⟩ = false) ∧ Rw wr w.heap.size 27 (cvc x.k x.b (.slice pa x.am.length ca') (.slice pw x.wr.length cw) (.slice pm x.mb.length cm) (.slice pe x.el.length ce)) ∧ Rw wr (w.heap.size + 1) 34 (txc tp ts tv tt tl).toArray ∧ Rw wr (w.heap.size + 2) 34 (txc up us uv ut ul).toArray ∧ Rw wr q1 39 #[.int .i64 tp, .int .i64 ts, .int .i64 1] ∧ Rw wr q2 39 #[.int .i64 up, .int .i64 us, .int .i64 1] ∧ Below w6.heap.size w6 wr) (fun vi _ => x.wr.length - (intOf vi).toNat)
                    case atStart => exact ⟨0, rfl, by omega, (show ∀ j (_ : j < x.wr.length), j < 0 → _ from fun j _ h => by omega), R0, R1, R2, B1, B2, Below.refl _ _⟩
                    case round =>
                      clear R0 R1 R2 B1 B2 hbel
                      obtain ⟨k, rfl, hk, HV, R0, R1, R2, B1, B2, hbel6⟩ := hrel
                      have hbel := below_on HB6.out hbel6
                      have c3 : wr.cell? ⟨w.heap.size, 3, none⟩ = some (.slice pw x.wr.length cw) := R0.cell 3
                      by_cases hlt : k < x.wr.length
                      case' pos =>
                        have hlt' : (k : Int) < (x.wr.length : Int) := by omega
                        have hk0 : (0 : Int) ≤ (k : Int) := by omega
                        obtain ⟨g, o, rfl, hd0⟩ := HH.out.t.at (by omega)
                        have d := Wt.elem (range_later hd0 hbel6) k hlt
                        obtain ⟨y, HY⟩ := hid_ex x.wr[k]
                        rw [HY.out] at d
                        clear hd0
                        have zm : (Try.prog.info? 39).map (·.size) = some [Value.int .i64 y.p, .int .i64 y.s, .int .i64 y.i].length := size39
                        have E1 := fun w => eq_mark w y.p y.s y.i tp ts 1
                        obtain ⟨e1, HE1⟩ := hid_ex (mk y ⟨tp, ts, 1, tt, sa⟩)
                        rw [show (decide (y.p = tp) && decide (y.s = ts) && decide (y.i = 1)) = e1 from HE1.out] at E1
                        have E2 := fun w => eq_mark w y.p y.s y.i up us 1
                        obtain ⟨e2, HE2⟩ := hid_ex (mk y ⟨up, us, 1, ut, sb⟩)
                        rw [show (decide (y.p = up) && decide (y.s = us) && decide (y.i = 1)) = e2 from HE2.out] at E2
                        go_wp2_with fail
                        clear c3
                        cases e1
                        case' true =>
                          clear HE1 HE2 HV
                          have hs : Calm.Stays (fun w' => Rw w' w.heap.size 27 (cvc x.k x.b (.slice pa x.am.length ca') (.slice (some ⟨g, o, none⟩) x.wr.length cw) (.slice pm x.mb.length cm) (.slice pe x.el.length ce)) ∧ Rw w' (w.heap.size + 1) 34 (txc tp ts tv tt tl).toArray ∧ Rw w' (w.heap.size + 2) 34 (txc up us uv ut ul).toArray ∧ Rw w' q1 39 #[.int .i64 tp, .int .i64 ts, .int .i64 1] ∧ Rw w' q2 39 #[.int .i64 up, .int .i64 us, .int .i64 1] ∧ w'.rangeAt g (o + k * 5) y.cells ∧ Below w6.heap.size w6 w' ∧ Below w.heap.size w w') := fun wa wb h hb => ⟨h.1.later hb, h.2.1.later hb, h.2.2.1.later hb, h.2.2.2.1.later hb, h.2.2.2.2.1.later hb, range_later h.2.2.2.2.2.1 hb, below_on h.2.2.2.2.2.2.1 hb, below_on h.2.2.2.2.2.2.2 hb⟩
                          refine Calm.region (by kernel_rfl) (by kernel_rfl) (fun w' => Rw w' w.heap.size 27 (cvc x.k x.b (.slice pa x.am.length ca') (.slice (some ⟨g, o, none⟩) x.wr.length cw) (.slice pm x.mb.length cm) (.slice pe x.el.length ce)) ∧ Rw w' (w.heap.size + 1) 34 (txc tp ts tv tt tl).toArray ∧ Rw w' (w.heap.size + 2) 34 (txc up us uv ut ul).toArray ∧ Rw w' q1 39 #[.int .i64 tp, .int .i64 ts, .int .i64 1] ∧ Rw w' q2 39 #[.int .i64 up, .int .i64 us, .int .i64 1] ∧ w'.rangeAt g (o + k * 5) y.cells ∧ Below w6.heap.size w6 w' ∧ Below w.heap.size w w') ⟨R0, R1, R2, B1, B2, d, hbel6.drew, hbel.drew⟩ ?_
                          all_goals
                            refine Calm.pure (v := ?_) (by rfl) ?_ ?_
                            rotate_left
                            focus (intro w hSw; go_simp <;> rfl)
                            simp only [Act.put, List.setIfInBounds_toArray, List.set_cons_zero, List.set_cons_succ]
                          all_goals
                            refine Calm.pure (v := ?_) (by rfl) ?_ ?_
                            rotate_left
                            focus (intro w hSw; have g1 := hSw.1.cell 3; simp at g1; go_simp <;> rfl)
                            simp only [Act.put, List.setIfInBounds_toArray, List.set_cons_zero, List.set_cons_succ]
                          all_goals
                            refine Calm.pure (v := ?_) (by rfl) ?_ ?_
                            rotate_left
                            focus (intro w hSw; go_simp <;> rfl)
                            simp only [Act.put, List.setIfInBounds_toArray, List.set_cons_zero, List.set_cons_succ]
                          all_goals
                            refine Calm.pure (v := ?_) (by rfl) ?_ ?_
                            rotate_left
                            focus (intro w hSw; go_simp <;> rfl)
                            simp only [Act.put, List.setIfInBounds_toArray, List.set_cons_zero, List.set_cons_succ]
                          all_goals
                            refine Calm.pure (v := ?_) (by rfl) ?_ ?_
                            rotate_left
                            focus (intro w hSw; go_simp <;> rfl)
                            simp only [Act.put, List.setIfInBounds_toArray, List.set_cons_zero, List.set_cons_succ]
                          all_goals
                            first | (refine Calm.loadM 39 Try.underlying39 rfl zm (by rfl) _ rfl rfl (fun _ h => Wt.mark h.2.2.2.2.2.1) ?_) | (refine Calm.loadM 39 Try.underlying39 rfl zm1 (by rfl) _ rfl rfl (fun _ h => Rw.whole (cs := [Value.int .i64 tp, .int .i64 ts, .int .i64 1]) h.2.2.2.1) ?_) | (refine Calm.loadM 39 Try.underlying39 rfl zm2 (by rfl) _ rfl rfl (fun _ h => Rw.whole (cs := [Value.int .i64 up, .int .i64 us, .int .i64 1]) h.2.2.2.2.1) ?_)
                            simp only [Act.put, List.setIfInBounds_toArray, List.set_cons_zero, List.set_cons_succ]
                          all_goals
                            first | (refine Calm.loadM 39 Try.underlying39 rfl zm (by rfl) _ rfl rfl (fun _ h => Wt.mark h.2.2.2.2.2.1) ?_) | (refine Calm.loadM 39 Try.underlying39 rfl zm1 (by rfl) _ rfl rfl (fun _ h => Rw.whole (cs := [Value.int .i64 tp, .int .i64 ts, .int .i64 1]) h.2.2.2.1) ?_) | (refine Calm.loadM 39 Try.underlying39 rfl zm2 (by rfl) _ rfl rfl (fun _ h => Rw.whole (cs := [Value.int .i64 up, .int .i64 us, .int .i64 1]) h.2.2.2.2.1) ?_)
                            simp only [Act.put, List.setIfInBounds_toArray, List.set_cons_zero, List.set_cons_succ]
                          all_goals
                            refine Calm.pure (v := ?_) (by rfl) ?_ ?_
                            rotate_left
                            focus (intro w hSw; go_simp <;> rfl)
                            simp only [Act.put, List.setIfInBounds_toArray, List.set_cons_zero, List.set_cons_succ]
                          all_goals
                            refine Calm.pure (v := ?_) (by rfl) ?_ ?_
                            rotate_left
                            focus (intro w hSw; go_simp <;> rfl)
                            simp only [Act.put, List.setIfInBounds_toArray, List.set_cons_zero, List.set_cons_succ]
                          all_goals
                            first
                              | (refine Calm.skip ?_ ?_; focus rfl)
                              | (refine Calm.pure (v := ?_) (by rfl) ?_ ?_
                                 rotate_left
                                 focus (intro w hSw; go_simp <;> rfl))
                            simp only [Act.put, List.setIfInBounds_toArray, List.set_cons_zero, List.set_cons_succ]
                          all_goals
                            first
                              | (refine Calm.skip ?_ ?_; focus rfl)
                              | (refine Calm.pure (v := ?_) (by rfl) ?_ ?_
                                 rotate_left
                                 focus (intro w hSw; have g1 := hSw.1.cell 3; simp at g1; go_simp <;> rfl))
                            simp only [Act.put, List.setIfInBounds_toArray, List.set_cons_zero, List.set_cons_succ]
                          all_goals
                            first
                              | (refine Calm.skip ?_ ?_; focus rfl)
                              | (refine Calm.pure (v := ?_) (by rfl) ?_ ?_
                                 rotate_left
                                 focus (intro w hSw; go_simp <;> rfl))
                            simp only [Act.put, List.setIfInBounds_toArray, List.set_cons_zero, List.set_cons_succ]
                          all_goals
                            first
                              | (refine Calm.skip ?_ ?_; focus rfl)
                              | (refine Calm.pure (v := ?_) (by rfl) ?_ ?_
                                 rotate_left
                                 focus (intro w hSw; go_simp <;> rfl))
                            simp only [Act.put, List.setIfInBounds_toArray, List.set_cons_zero, List.set_cons_succ]
                          all_goals
                            first
                              | (refine Calm.skip ?_ ?_; focus rfl)
                              | (refine Calm.pure (v := ?_) (by rfl) ?_ ?_
                                 rotate_left
                                 focus (intro w hSw; go_simp <;> rfl))
                            simp only [Act.put, List.setIfInBounds_toArray, List.set_cons_zero, List.set_cons_succ]
                          all_goals
                            first
                              | (refine Calm.skip ?_ ?_; focus rfl)
                              | (first | (refine Calm.loadM 39 Try.underlying39 rfl zm (by rfl) _ rfl rfl (fun _ h => Wt.mark h.2.2.2.2.2.1) ?_) | (refine Calm.loadM 39 Try.underlying39 rfl zm1 (by rfl) _ rfl rfl (fun _ h => Rw.whole (cs := [Value.int .i64 tp, .int .i64 ts, .int .i64 1]) h.2.2.2.1) ?_) | (refine Calm.loadM 39 Try.underlying39 rfl zm2 (by rfl) _ rfl rfl (fun _ h => Rw.whole (cs := [Value.int .i64 up, .int .i64 us, .int .i64 1]) h.2.2.2.2.1) ?_))
                            simp only [Act.put, List.setIfInBounds_toArray, List.set_cons_zero, List.set_cons_succ]
                          all_goals
                            first
                              | (refine Calm.skip ?_ ?_; focus rfl)
                              | (first | (refine Calm.loadM 39 Try.underlying39 rfl zm (by rfl) _ rfl rfl (fun _ h => Wt.mark h.2.2.2.2.2.1) ?_) | (refine Calm.loadM 39 Try.underlying39 rfl zm1 (by rfl) _ rfl rfl (fun _ h => Rw.whole (cs := [Value.int .i64 tp, .int .i64 ts, .int .i64 1]) h.2.2.2.1) ?_) | (refine Calm.loadM 39 Try.underlying39 rfl zm2 (by rfl) _ rfl rfl (fun _ h => Rw.whole (cs := [Value.int .i64 up, .int .i64 us, .int .i64 1]) h.2.2.2.2.1) ?_))
                            simp only [Act.put, List.setIfInBounds_toArray, List.set_cons_zero, List.set_cons_succ]
                          all_goals
                            first
                              | (refine Calm.skip ?_ ?_; focus rfl)
                              | (refine Calm.pure (v := ?_) (by rfl) ?_ ?_
                                 rotate_left
                                 focus (intro w hSw; go_simp <;> rfl))
                            simp only [Act.put, List.setIfInBounds_toArray, List.set_cons_zero, List.set_cons_succ]
                          all_goals
                            refine Calm.pure (v := ?_) (by rfl) ?_ ?_
                            rotate_left
                            focus (intro w hSw; go_simp <;> rfl)
                            simp only [Act.put, List.setIfInBounds_toArray, List.set_cons_zero, List.set_cons_succ]
                          all_goals
                            rintro w9 ⟨_, _, _, _, _, _, _, hbel9⟩
                          go_wp2_with fail
                          refine (heads_any _).mono ?_
                          rintro e w10 ⟨rfl, hb9⟩
                          go_wp2_with fail
                          go_ret
                          exact ⟨rfl, below_on hbel9 hb9⟩
                        case' false =>
                          cases e2
                          case' true =>
                            clear HE1 HE2 HV
                            have hs : Calm.Stays (fun w' => Rw w' w.heap.size 27 (cvc x.k x.b (.slice pa x.am.length ca') (.slice (some ⟨g, o, none⟩) x.wr.length cw) (.slice pm x.mb.length cm) (.slice pe x.el.length ce)) ∧ Rw w' (w.heap.size + 1) 34 (txc tp ts tv tt tl).toArray ∧ Rw w' (w.heap.size + 2) 34 (txc up us uv ut ul).toArray ∧ Rw w' q1 39 #[.int .i64 tp, .int .i64 ts, .int .i64 1] ∧ Rw w' q2 39 #[.int .i64 up, .int .i64 us, .int .i64 1] ∧ w'.rangeAt g (o + k * 5) y.cells ∧ Below w6.heap.size w6 w' ∧ Below w.heap.size w w') := fun wa wb h hb => ⟨h.1.later hb, h.2.1.later hb, h.2.2.1.later hb, h.2.2.2.1.later hb, h.2.2.2.2.1.later hb, range_later h.2.2.2.2.2.1 hb, below_on h.2.2.2.2.2.2.1 hb, below_on h.2.2.2.2.2.2.2 hb⟩
                            refine Calm.region (by kernel_rfl) (by kernel_rfl) (fun w' => Rw w' w.heap.size 27 (cvc x.k x.b (.slice pa x.am.length ca') (.slice (some ⟨g, o, none⟩) x.wr.length cw) (.slice pm x.mb.length cm) (.slice pe x.el.length ce)) ∧ Rw w' (w.heap.size + 1) 34 (txc tp ts tv tt tl).toArray ∧ Rw w' (w.heap.size + 2) 34 (txc up us uv ut ul).toArray ∧ Rw w' q1 39 #[.int .i64 tp, .int .i64 ts, .int .i64 1] ∧ Rw w' q2 39 #[.int .i64 up, .int .i64 us, .int .i64 1] ∧ w'.rangeAt g (o + k * 5) y.cells ∧ Below w6.heap.size w6 w' ∧ Below w.heap.size w w') ⟨R0, R1, R2, B1, B2, d, hbel6.drew, hbel.drew⟩ ?_
                            all_goals
                              refine Calm.pure (v := ?_) (by rfl) ?_ ?_
                              rotate_left
                              focus (intro w hSw; go_simp <;> rfl)
                              simp only [Act.put, List.setIfInBounds_toArray, List.set_cons_zero, List.set_cons_succ]
                            all_goals
                              refine Calm.pure (v := ?_) (by rfl) ?_ ?_
                              rotate_left
                              focus (intro w hSw; have g1 := hSw.1.cell 3; simp at g1; go_simp <;> rfl)
                              simp only [Act.put, List.setIfInBounds_toArray, List.set_cons_zero, List.set_cons_succ]
                            all_goals
                              refine Calm.pure (v := ?_) (by rfl) ?_ ?_
                              rotate_left
                              focus (intro w hSw; go_simp <;> rfl)
                              simp only [Act.put, List.setIfInBounds_toArray, List.set_cons_zero, List.set_cons_succ]
                            all_goals
                              refine Calm.pure (v := ?_) (by rfl) ?_ ?_
                              rotate_left
                              focus (intro w hSw; go_simp <;> rfl)
                              simp only [Act.put, List.setIfInBounds_toArray, List.set_cons_zero, List.set_cons_succ]
                            all_goals
                              refine Calm.pure (v := ?_) (by rfl) ?_ ?_
                              rotate_left
                              focus (intro w hSw; go_simp <;> rfl)
                              simp only [Act.put, List.setIfInBounds_toArray, List.set_cons_zero, List.set_cons_succ]
                            all_goals
                              first | (refine Calm.loadM 39 Try.underlying39 rfl zm (by rfl) _ rfl rfl (fun _ h => Wt.mark h.2.2.2.2.2.1) ?_) | (refine Calm.loadM 39 Try.underlying39 rfl zm1 (by rfl) _ rfl rfl (fun _ h => Rw.whole (cs := [Value.int .i64 tp, .int .i64 ts, .int .i64 1]) h.2.2.2.1) ?_) | (refine Calm.loadM 39 Try.underlying39 rfl zm2 (by rfl) _ rfl rfl (fun _ h => Rw.whole (cs := [Value.int .i64 up, .int .i64 us, .int .i64 1]) h.2.2.2.2.1) ?_)
                              simp only [Act.put, List.setIfInBounds_toArray, List.set_cons_zero, List.set_cons_succ]
                            all_goals
                              first | (refine Calm.loadM 39 Try.underlying39 rfl zm (by rfl) _ rfl rfl (fun _ h => Wt.mark h.2.2.2.2.2.1) ?_) | (refine Calm.loadM 39 Try.underlying39 rfl zm1 (by rfl) _ rfl rfl (fun _ h => Rw.whole (cs := [Value.int .i64 tp, .int .i64 ts, .int .i64 1]) h.2.2.2.1) ?_) | (refine Calm.loadM 39 Try.underlying39 rfl zm2 (by rfl) _ rfl rfl (fun _ h => Rw.whole (cs := [Value.int .i64 up, .int .i64 us, .int .i64 1]) h.2.2.2.2.1) ?_)
                              simp only [Act.put, List.setIfInBounds_toArray, List.set_cons_zero, List.set_cons_succ]
                            all_goals
                              refine Calm.pure (v := ?_) (by rfl) ?_ ?_
                              rotate_left
                              focus (intro w hSw; go_simp <;> rfl)
                              simp only [Act.put, List.setIfInBounds_toArray, List.set_cons_zero, List.set_cons_succ]
                            all_goals
                              refine Calm.pure (v := ?_) (by rfl) ?_ ?_
                              rotate_left
                              focus (intro w hSw; go_simp <;> rfl)
                              simp only [Act.put, List.setIfInBounds_toArray, List.set_cons_zero, List.set_cons_succ]
                            all_goals
                              first
                                | (refine Calm.skip ?_ ?_; focus rfl)
                                | (refine Calm.pure (v := ?_) (by rfl) ?_ ?_
                                   rotate_left
                                   focus (intro w hSw; go_simp <;> rfl))
                              simp only [Act.put, List.setIfInBounds_toArray, List.set_cons_zero, List.set_cons_succ]
                            all_goals
                              first
                                | (refine Calm.skip ?_ ?_; focus rfl)
                                | (refine Calm.pure (v := ?_) (by rfl) ?_ ?_
                                   rotate_left
                                   focus (intro w hSw; have g1 := hSw.1.cell 3; simp at g1; go_simp <;> rfl))
                              simp only [Act.put, List.setIfInBounds_toArray, List.set_cons_zero, List.set_cons_succ]
                            all_goals
                              first
                                | (refine Calm.skip ?_ ?_; focus rfl)
                                | (refine Calm.pure (v := ?_) (by rfl) ?_ ?_
                                   rotate_left
                                   focus (intro w hSw; go_simp <;> rfl))
                              simp only [Act.put, List.setIfInBounds_toArray, List.set_cons_zero, List.set_cons_succ]
                            all_goals
                              first
                                | (refine Calm.skip ?_ ?_; focus rfl)
                                | (refine Calm.pure (v := ?_) (by rfl) ?_ ?_
                                   rotate_left
                                   focus (intro w hSw; go_simp <;> rfl))
                              simp only [Act.put, List.setIfInBounds_toArray, List.set_cons_zero, List.set_cons_succ]
                            all_goals
                              first
                                | (refine Calm.skip ?_ ?_; focus rfl)
                                | (refine Calm.pure (v := ?_) (by rfl) ?_ ?_
                                   rotate_left
                                   focus (intro w hSw; go_simp <;> rfl))
                              simp only [Act.put, List.setIfInBounds_toArray, List.set_cons_zero, List.set_cons_succ]
                            all_goals
                              first
                                | (refine Calm.skip ?_ ?_; focus rfl)
                                | (first | (refine Calm.loadM 39 Try.underlying39 rfl zm (by rfl) _ rfl rfl (fun _ h => Wt.mark h.2.2.2.2.2.1) ?_) | (refine Calm.loadM 39 Try.underlying39 rfl zm1 (by rfl) _ rfl rfl (fun _ h => Rw.whole (cs := [Value.int .i64 tp, .int .i64 ts, .int .i64 1]) h.2.2.2.1) ?_) | (refine Calm.loadM 39 Try.underlying39 rfl zm2 (by rfl) _ rfl rfl (fun _ h => Rw.whole (cs := [Value.int .i64 up, .int .i64 us, .int .i64 1]) h.2.2.2.2.1) ?_))
                              simp only [Act.put, List.setIfInBounds_toArray, List.set_cons_zero, List.set_cons_succ]
                            all_goals
                              first
                                | (refine Calm.skip ?_ ?_; focus rfl)
                                | (first | (refine Calm.loadM 39 Try.underlying39 rfl zm (by rfl) _ rfl rfl (fun _ h => Wt.mark h.2.2.2.2.2.1) ?_) | (refine Calm.loadM 39 Try.underlying39 rfl zm1 (by rfl) _ rfl rfl (fun _ h => Rw.whole (cs := [Value.int .i64 tp, .int .i64 ts, .int .i64 1]) h.2.2.2.1) ?_) | (refine Calm.loadM 39 Try.underlying39 rfl zm2 (by rfl) _ rfl rfl (fun _ h => Rw.whole (cs := [Value.int .i64 up, .int .i64 us, .int .i64 1]) h.2.2.2.2.1) ?_))
                              simp only [Act.put, List.setIfInBounds_toArray, List.set_cons_zero, List.set_cons_succ]
                            all_goals
                              first
                                | (refine Calm.skip ?_ ?_; focus rfl)
                                | (refine Calm.pure (v := ?_) (by rfl) ?_ ?_
                                   rotate_left
                                   focus (intro w hSw; go_simp <;> rfl))
                              simp only [Act.put, List.setIfInBounds_toArray, List.set_cons_zero, List.set_cons_succ]
                            all_goals
                              refine Calm.pure (v := ?_) (by rfl) ?_ ?_
                              rotate_left
                              focus (intro w hSw; go_simp <;> rfl)
                              simp only [Act.put, List.setIfInBounds_toArray, List.set_cons_zero, List.set_cons_succ]
                            all_goals
                              rintro w9 ⟨_, _, _, _, _, _, _, hbel9⟩
                            go_wp2_with fail
                            refine (heads_any _).mono ?_
                            rintro e w10 ⟨rfl, hb9⟩
                            go_wp2_with fail
                            go_ret
                            exact ⟨rfl, below_on hbel9 hb9⟩
                          case' false =>
                            have HV2 : Hid (∀ j (h : j < x.wr.length), j < k + 1 → mk x.wr[j] ⟨tp, ts, 1, tt, sa⟩ = false ∧ mk x.wr[j] ⟨up, us, 1, ut, sb⟩ = false) := fun j h hj => by
                              rcases Nat.lt_or_ge j k with h' | h'
                              · exact HV.out j h h'
                              · obtain rfl : j = k := by omega
                                rw [HY.out]
                                exact ⟨HE1.out, HE2.out⟩
                            clear HE1 HE2 HV
                            have hs : Calm.Stays (fun w' => Rw w' w.heap.size 27 (cvc x.k x.b (.slice pa x.am.length ca') (.slice (some ⟨g, o, none⟩) x.wr.length cw) (.slice pm x.mb.length cm) (.slice pe x.el.length ce)) ∧ Rw w' (w.heap.size + 1) 34 (txc tp ts tv tt tl).toArray ∧ Rw w' (w.heap.size + 2) 34 (txc up us uv ut ul).toArray ∧ Rw w' q1 39 #[.int .i64 tp, .int .i64 ts, .int .i64 1] ∧ Rw w' q2 39 #[.int .i64 up, .int .i64 us, .int .i64 1] ∧ w'.rangeAt g (o + k * 5) y.cells ∧ Below w6.heap.size w6 w' ∧ Below w.heap.size w w') := fun wa wb h hb => ⟨h.1.later hb, h.2.1.later hb, h.2.2.1.later hb, h.2.2.2.1.later hb, h.2.2.2.2.1.later hb, range_later h.2.2.2.2.2.1 hb, below_on h.2.2.2.2.2.2.1 hb, below_on h.2.2.2.2.2.2.2 hb⟩
                            refine Calm.region (by kernel_rfl) (by kernel_rfl) (fun w' => Rw w' w.heap.size 27 (cvc x.k x.b (.slice pa x.am.length ca') (.slice (some ⟨g, o, none⟩) x.wr.length cw) (.slice pm x.mb.length cm) (.slice pe x.el.length ce)) ∧ Rw w' (w.heap.size + 1) 34 (txc tp ts tv tt tl).toArray ∧ Rw w' (w.heap.size + 2) 34 (txc up us uv ut ul).toArray ∧ Rw w' q1 39 #[.int .i64 tp, .int .i64 ts, .int .i64 1] ∧ Rw w' q2 39 #[.int .i64 up, .int .i64 us, .int .i64 1] ∧ w'.rangeAt g (o + k * 5) y.cells ∧ Below w6.heap.size w6 w' ∧ Below w.heap.size w w') ⟨R0, R1, R2, B1, B2, d, hbel6.drew, hbel.drew⟩ ?_
                            all_goals
                              refine Calm.pure (v := ?_) (by rfl) ?_ ?_
                              rotate_left
                              focus (intro w hSw; go_simp <;> rfl)
                              simp only [Act.put, List.setIfInBounds_toArray, List.set_cons_zero, List.set_cons_succ]
                            all_goals
                              refine Calm.pure (v := ?_) (by rfl) ?_ ?_
                              rotate_left
                              focus (intro w hSw; have g1 := hSw.1.cell 3; simp at g1; go_simp <;> rfl)
                              simp only [Act.put, List.setIfInBounds_toArray, List.set_cons_zero, List.set_cons_succ]
                            all_goals
                              refine Calm.pure (v := ?_) (by rfl) ?_ ?_
                              rotate_left
                              focus (intro w hSw; go_simp <;> rfl)
                              simp only [Act.put, List.setIfInBounds_toArray, List.set_cons_zero, List.set_cons_succ]
                            all_goals
                              refine Calm.pure (v := ?_) (by rfl) ?_ ?_
                              rotate_left
                              focus (intro w hSw; go_simp <;> rfl)
                              simp only [Act.put, List.setIfInBounds_toArray, List.set_cons_zero, List.set_cons_succ]
                            all_goals
                              refine Calm.pure (v := ?_) (by rfl) ?_ ?_
                              rotate_left
                              focus (intro w hSw; go_simp <;> rfl)
                              simp only [Act.put, List.setIfInBounds_toArray, List.set_cons_zero, List.set_cons_succ]
                            all_goals
                              first | (refine Calm.loadM 39 Try.underlying39 rfl zm (by rfl) _ rfl rfl (fun _ h => Wt.mark h.2.2.2.2.2.1) ?_) | (refine Calm.loadM 39 Try.underlying39 rfl zm1 (by rfl) _ rfl rfl (fun _ h => Rw.whole (cs := [Value.int .i64 tp, .int .i64 ts, .int .i64 1]) h.2.2.2.1) ?_) | (refine Calm.loadM 39 Try.underlying39 rfl zm2 (by rfl) _ rfl rfl (fun _ h => Rw.whole (cs := [Value.int .i64 up, .int .i64 us, .int .i64 1]) h.2.2.2.2.1) ?_)
                              simp only [Act.put, List.setIfInBounds_toArray, List.set_cons_zero, List.set_cons_succ]
                            all_goals
                              first | (refine Calm.loadM 39 Try.underlying39 rfl zm (by rfl) _ rfl rfl (fun _ h => Wt.mark h.2.2.2.2.2.1) ?_) | (refine Calm.loadM 39 Try.underlying39 rfl zm1 (by rfl) _ rfl rfl (fun _ h => Rw.whole (cs := [Value.int .i64 tp, .int .i64 ts, .int .i64 1]) h.2.2.2.1) ?_) | (refine Calm.loadM 39 Try.underlying39 rfl zm2 (by rfl) _ rfl rfl (fun _ h => Rw.whole (cs := [Value.int .i64 up, .int .i64 us, .int .i64 1]) h.2.2.2.2.1) ?_)
                              simp only [Act.put, List.setIfInBounds_toArray, List.set_cons_zero, List.set_cons_succ]
                            all_goals
                              refine Calm.pure (v := ?_) (by rfl) ?_ ?_
                              rotate_left
                              focus (intro w hSw; go_simp <;> rfl)
                              simp only [Act.put, List.setIfInBounds_toArray, List.set_cons_zero, List.set_cons_succ]
                            all_goals
                              refine Calm.pure (v := ?_) (by rfl) ?_ ?_
                              rotate_left
                              focus (intro w hSw; go_simp <;> rfl)
                              simp only [Act.put, List.setIfInBounds_toArray, List.set_cons_zero, List.set_cons_succ]
                            all_goals
                              first
                                | (refine Calm.skip ?_ ?_; focus rfl)
                                | (refine Calm.pure (v := ?_) (by rfl) ?_ ?_
                                   rotate_left
                                   focus (intro w hSw; go_simp <;> rfl))
                              simp only [Act.put, List.setIfInBounds_toArray, List.set_cons_zero, List.set_cons_succ]
                            all_goals
                              first
                                | (refine Calm.skip ?_ ?_; focus rfl)
                                | (refine Calm.pure (v := ?_) (by rfl) ?_ ?_
                                   rotate_left
                                   focus (intro w hSw; have g1 := hSw.1.cell 3; simp at g1; go_simp <;> rfl))
                              simp only [Act.put, List.setIfInBounds_toArray, List.set_cons_zero, List.set_cons_succ]
                            all_goals
                              first
                                | (refine Calm.skip ?_ ?_; focus rfl)
                                | (refine Calm.pure (v := ?_) (by rfl) ?_ ?_
                                   rotate_left
                                   focus (intro w hSw; go_simp <;> rfl))
                              simp only [Act.put, List.setIfInBounds_toArray, List.set_cons_zero, List.set_cons_succ]
                            all_goals
                              first
                                | (refine Calm.skip ?_ ?_; focus rfl)
                                | (refine Calm.pure (v := ?_) (by rfl) ?_ ?_
                                   rotate_left
                                   focus (intro w hSw; go_simp <;> rfl))
                              simp only [Act.put, List.setIfInBounds_toArray, List.set_cons_zero, List.set_cons_succ]
                            all_goals
                              first
                                | (refine Calm.skip ?_ ?_; focus rfl)
                                | (refine Calm.pure (v := ?_) (by rfl) ?_ ?_
                                   rotate_left
                                   focus (intro w hSw; go_simp <;> rfl))
                              simp only [Act.put, List.setIfInBounds_toArray, List.set_cons_zero, List.set_cons_succ]
                            all_goals
                              first
                                | (refine Calm.skip ?_ ?_; focus rfl)
                                | (first | (refine Calm.loadM 39 Try.underlying39 rfl zm (by rfl) _ rfl rfl (fun _ h => Wt.mark h.2.2.2.2.2.1) ?_) | (refine Calm.loadM 39 Try.underlying39 rfl zm1 (by rfl) _ rfl rfl (fun _ h => Rw.whole (cs := [Value.int .i64 tp, .int .i64 ts, .int .i64 1]) h.2.2.2.1) ?_) | (refine Calm.loadM 39 Try.underlying39 rfl zm2 (by rfl) _ rfl rfl (fun _ h => Rw.whole (cs := [Value.int .i64 up, .int .i64 us, .int .i64 1]) h.2.2.2.2.1) ?_))
                              simp only [Act.put, List.setIfInBounds_toArray, List.set_cons_zero, List.set_cons_succ]
                            all_goals
                              first
                                | (refine Calm.skip ?_ ?_; focus rfl)
                                | (first | (refine Calm.loadM 39 Try.underlying39 rfl zm (by rfl) _ rfl rfl (fun _ h => Wt.mark h.2.2.2.2.2.1) ?_) | (refine Calm.loadM 39 Try.underlying39 rfl zm1 (by rfl) _ rfl rfl (fun _ h => Rw.whole (cs := [Value.int .i64 tp, .int .i64 ts, .int .i64 1]) h.2.2.2.1) ?_) | (refine Calm.loadM 39 Try.underlying39 rfl zm2 (by rfl) _ rfl rfl (fun _ h => Rw.whole (cs := [Value.int .i64 up, .int .i64 us, .int .i64 1]) h.2.2.2.2.1) ?_))
                              simp only [Act.put, List.setIfInBounds_toArray, List.set_cons_zero, List.set_cons_succ]
                            all_goals
                              first
                                | (refine Calm.skip ?_ ?_; focus rfl)
                                | (refine Calm.pure (v := ?_) (by rfl) ?_ ?_
                                   rotate_left
                                   focus (intro w hSw; go_simp <;> rfl))
                              simp only [Act.put, List.setIfInBounds_toArray, List.set_cons_zero, List.set_cons_succ]
                            all_goals
                              refine Calm.pure (v := ?_) (by rfl) ?_ ?_
                              rotate_left
                              focus (intro w hSw; go_simp <;> rfl)
                              simp only [Act.put, List.setIfInBounds_toArray, List.set_cons_zero, List.set_cons_succ]
                            all_goals
                              rintro w9 ⟨R09, R19, R29, B19, B29, _, b69, _⟩
                            go_wp2_with fail
                            go_roundw
                            case rel => exact ⟨k + 1, by simp, by omega, HV2, R09, R19, R29, B19, B29, b69⟩
                            case measure => simp [intOf]; omega
                      case' neg =>
                        obtain rfl : k = x.wr.length := by omega
                        have hlt' : ¬ (x.wr.length : Int) < (x.wr.length : Int) := by omega
                        have hna : has ⟨tp, ts, 1, tt, sa⟩ x.wr = false := has_false.2 fun y hy => by
                          obtain ⟨j, hj, rfl⟩ := List.getElem_of_mem hy
                          exact (HV.out j hj hj).1
                        have hnb : has ⟨up, us, 1, ut, sb⟩ x.wr = false := has_false.2 fun y hy => by
                          obtain ⟨j, hj, rfl⟩ := List.getElem_of_mem hy
                          exact (HV.out j hj hj).2
                        have hab : mk ⟨tp, ts, 1, tt, sa⟩ ⟨up, us, 1, ut, sb⟩ = false := by
                          unfold mk
                          rw [show (decide (tp = up) && decide (ts = us)) = false from HZ0.out]
                          rfl
                        have hba : mk ⟨up, us, 1, ut, sb⟩ ⟨tp, ts, 1, tt, sa⟩ = false := by
                          cases e : mk ⟨up, us, 1, ut, sb⟩ ⟨tp, ts, 1, tt, sa⟩
                          · rfl
                          · rw [mk_iff] at e
                            rw [show mk ⟨tp, ts, 1, tt, sa⟩ ⟨up, us, 1, ut, sb⟩ = true from (mk_iff _ _).2 ⟨e.1.symm, e.2.1.symm, e.2.2.symm⟩] at hab
                            cases hab
                        have D1 : doX x ⟨tp, ts, 1, tt, sa⟩ tv = oneX x ⟨tp, ts, 1, tt, sa⟩ tv := do_one HY1.out HIA.out hna
                        have D2 : doX x ⟨up, us, 1, ut, sb⟩ uv = oneX x ⟨up, us, 1, ut, sb⟩ uv := do_one HY1.out HIB.out hnb
                        have k1 : ck (oneX x ⟨tp, ts, 1, tt, sa⟩ tv) = true := ck_one HY1.out HIA.out hna
                        have k2 : ck (oneX x ⟨up, us, 1, ut, sb⟩ uv) = true := ck_one HY1.out HIB.out hnb
                        have D12 : doX (oneX x ⟨tp, ts, 1, tt, sa⟩ tv) ⟨up, us, 1, ut, sb⟩ uv = oneX (oneX x ⟨tp, ts, 1, tt, sa⟩ tv) ⟨up, us, 1, ut, sb⟩ uv := do_one k1 HIB.out (has_one hab hnb)
                        have D21 : doX (oneX x ⟨up, us, 1, ut, sb⟩ uv) ⟨tp, ts, 1, tt, sa⟩ tv = oneX (oneX x ⟨up, us, 1, ut, sb⟩ uv) ⟨tp, ts, 1, tt, sa⟩ tv := do_one k2 HIA.out (has_one hba hna)
                        have k12 : ck (oneX (oneX x ⟨tp, ts, 1, tt, sa⟩ tv) ⟨up, us, 1, ut, sb⟩ uv) = true := ck_one k1 HIB.out (has_one hab hnb)
                        have s1 : Sm (oneX x ⟨tp, ts, 1, tt, sa⟩ tv) := sm_one hs (by omega) _ _
                        have s2 : Sm (oneX x ⟨up, us, 1, ut, sb⟩ uv) := sm_one hs (by omega) _ _
                        have n1 := one_length x ⟨tp, ts, 1, tt, sa⟩ tv
                        have s12 : Sm (oneX (oneX x ⟨tp, ts, 1, tt, sa⟩ tv) ⟨up, us, 1, ut, sb⟩ uv) := sm_one s1 (by omega) _ _
                        have hcm : oneX (oneX x ⟨up, us, 1, ut, sb⟩ uv) ⟨tp, ts, 1, tt, sa⟩ tv = oneX (oneX x ⟨tp, ts, 1, tt, sa⟩ tv) ⟨up, us, 1, ut, sb⟩ uv := (one_comm (x := x) (a := ⟨tp, ts, 1, tt, sa⟩) (b := ⟨up, us, 1, ut, sb⟩) hab HZ1.out HZ2.out).symm
                        have hf := HH.out.later hbel6
                        have hB6 := Nat.le_trans hB hbel6.size
                        have zx : (Try.prog.info? 27).map (·.size) = some ([Value.int .i64 x.k, .int .i64 x.b, .slice pa x.am.length ca', .slice pw x.wr.length cw, .slice pm x.mb.length cm, .slice pe x.el.length ce] : List Value).length := size27
                        have ztx : (Try.prog.info? 34).map (·.size) = some (txc tp ts tv tt tl).length := by rw [txc_length hv]; exact size34
                        have zux : (Try.prog.info? 34).map (·.size) = some (txc up us uv ut ul).length := by rw [txc_length hu]; exact size34
                        clear HV HH
                        have z1 : x.am.length = 0 ∧ x.mb.length = 0 ∧ x.el.length = 0 := ⟨(ck_parts HY1.out).2.2.1, (ck_parts HY1.out).2.2.2.1, (ck_parts HY1.out).2.2.2.2.1⟩
                        have Z1 : Hid (x.am.length = 0 ∧ x.mb.length = 0 ∧ x.el.length = 0) := z1
                        clear z1
                        go_wp2_with fail
                        clear c3
                        have hS : Calm.Stays (fun w' => Below wr.heap.size wr w') := fun wa wb h hb => below_on h hb
                        have hF : Facts.Stay [pF 0 (eqP (.agg ([Value.int .i64 x.k, .int .i64 x.b, .slice pa x.am.length ca', .slice pw x.wr.length cw, .slice pm x.mb.length cm, .slice pe x.el.length ce] : List Value).toArray)), pF 1 (eqP (.agg (txc tp ts tv tt tl).toArray)), pF 2 (eqP (.string sa)), pF 3 (cP (oneX x ⟨tp, ts, 1, tt, sa⟩ tv)), pF 4 (eqP (.agg (txc up us uv ut ul).toArray)), pF 5 (eqP (.string sb)), pF 6 (cP (oneX (oneX x ⟨tp, ts, 1, tt, sa⟩ tv) ⟨up, us, 1, ut, sb⟩ uv)), pF 7 (boxP wr.heap.size 27 (cvc 0 0 (.slice none 0 0) (.slice none 0 0) (.slice none 0 0) (.slice none 0 0)))] := stay_of (by simp only [List.forall_mem_cons]; exact ⟨⟨_, _, rfl, eqP_keeps _⟩, ⟨_, _, rfl, eqP_keeps _⟩, ⟨_, _, rfl, eqP_keeps _⟩, ⟨_, _, rfl, cP_keeps _⟩, ⟨_, _, rfl, eqP_keeps _⟩, ⟨_, _, rfl, eqP_keeps _⟩, ⟨_, _, rfl, cP_keeps _⟩, ⟨_, _, rfl, boxP_keeps _ _ _⟩, fun _ h => by cases h⟩)
                        refine Facts.regionTail (by kernel_rfl) (by kernel_rfl) 8 (by decide) (by kernel_rfl) (fun w' => Below wr.heap.size wr w') (fun xv => { tmps := #[CV x.k x.b (Value.slice pa x.am.length ca') (Value.slice pw x.wr.length cw) (Value.slice pm x.mb.length cm) (Value.slice pe x.el.length ce), TxV tp ts tv tt tl, TxV up us uv ut ul, Value.string sa, Value.string sb, Value.pointer (some { block := w.heap.size, off := 0 }), Value.pointer (some { block := w.heap.size + 1, off := 0 }), Value.pointer (some { block := w.heap.size + 1 + 1, off := 0 }), undef, undef, u10, Value.pointer (some { block := q1, off := 0 }), Value.pointer (some { block := q2, off := 0 }), Value.int IntKind.i64 ↑x.wr.length, xv 7, undef, Value.agg (cvc x.k x.b (Value.slice pa x.am.length ca') (Value.slice pw x.wr.length cw) (Value.slice pm x.mb.length cm) (Value.slice pe x.el.length ce)), Value.bool true, Value.bool false, Value.bool false, Value.agg (cvc x.k x.b (Value.slice pa x.am.length ca') (Value.slice pw x.wr.length cw) (Value.slice pm x.mb.length cm) (Value.slice pe x.el.length ce)), Value.bool true, Value.bool false, Value.bool false, Value.bool false, Value.pointer (some { block := w.heap.size + 1, off := 0 }), Value.agg #[Value.int IntKind.i64 tp, Value.int IntKind.i64 ts], Value.pointer (some { block := w.heap.size + 1 + 1, off := 0 }), Value.agg #[Value.int IntKind.i64 up, Value.int IntKind.i64 us], Value.bool false, Value.bool false, Value.bool false, Value.string sa, Value.int IntKind.i64 ↑sa.size, Value.bool false, Value.bool false, Value.bool false, Value.string sb, Value.int IntKind.i64 ↑sb.size, Value.bool false, Value.bool false, Value.bool false, Value.agg (txc tp ts tv tt tl).toArray, Value.bool true, Value.bool false, Value.bool false, Value.bool false, Value.agg (txc up us uv ut ul).toArray, Value.bool true, Value.bool false, Value.bool false, undef, xq 0, xq 1, xq 2, xq 3, xq 4, xq 5, Value.agg #[Value.int IntKind.i64 tp, Value.int IntKind.i64 ts, Value.int IntKind.i64 1], Value.agg (txc up us uv ut ul).toArray, Value.bool false, Value.bool false, Value.agg #[Value.int IntKind.i64 up, Value.int IntKind.i64 us, Value.int IntKind.i64 1], Value.agg (txc tp ts tv tt tl).toArray, Value.bool false, Value.bool false, undef, Value.int IntKind.i64 ↑x.wr.length, Value.pointer (some { block := w.heap.size, off := 3 }), Value.slice pw x.wr.length cw, Value.int IntKind.i64 ↑x.wr.length, Value.bool false, u72, u73, u74, u75, u76, u77, u78, u79, u80, u81, u82, u83, u84, u85, u86, u87, u88, u89, u90, u91, u92, xv 0, xv 1, xv 2, xv 3, xv 4, xv 5, xv 6, undef, undef, undef, undef, undef, undef, undef, undef, undef, undef, undef, undef, undef, undef, undef, undef, undef], defers := [] }) [pF 0 (eqP (.agg ([Value.int .i64 x.k, .int .i64 x.b, .slice pa x.am.length ca', .slice pw x.wr.length cw, .slice pm x.mb.length cm, .slice pe x.el.length ce] : List Value).toArray)), pF 1 (eqP (.agg (txc tp ts tv tt tl).toArray)), pF 2 (eqP (.string sa)), pF 3 (cP (oneX x ⟨tp, ts, 1, tt, sa⟩ tv)), pF 4 (eqP (.agg (txc up us uv ut ul).toArray)), pF 5 (eqP (.string sb)), pF 6 (cP (oneX (oneX x ⟨tp, ts, 1, tt, sa⟩ tv) ⟨up, us, 1, ut, sb⟩ uv)), pF 7 (boxP wr.heap.size 27 (cvc 0 0 (.slice none 0 0) (.slice none 0 0) (.slice none 0 0) (.slice none 0 0)))] _ rfl rfl (by kernel_rfl) (fun j => [undef, undef, undef, undef, undef, undef, undef, undef].getD j undef) rfl (Below.refl _ wr).drew ⟨?_, ?_, ?_, ?_, ?_, ?_, ?_, ?_, ?_, trivial⟩ ?_
                        · exact fun _ => Facts.loadP hS hF (fun _ _ => rfl) 27 Try.underlying27 rfl zx _ rfl rfl (fun xv wv hSw hd => by rfl) (fun wv hSw => Rw.whole (cs := [Value.int .i64 x.k, .int .i64 x.b, .slice pa x.am.length ca', .slice pw x.wr.length cw, .slice pm x.mb.length cm, .slice pe x.el.length ce]) (R0.later hSw))
                        · exact fun _ => Facts.loadP hS hF (fun _ _ => rfl) 34 Try.underlying34 rfl ztx _ rfl rfl (fun xv wv hSw hd => by rfl) (fun wv hSw => Rw.whole (cs := (txc tp ts tv tt tl)) (R1.later hSw))
                        · exact fun _ => Facts.pureP hS hF (fun _ _ => rfl) rfl (fun xv wv hSw hd => by
                            go_simp)
                        · refine fun _ => Facts.call4P hS hF (fun _ _ => rfl) rfl (by kernel_rfl) rfl (fun xv wv hSw hd => ?_)
                          have d0 : xv 0 = _ := pF_get (hd ⟨0, .data⟩ (by simp) rfl _ rfl)
                          have d1 : xv 1 = _ := pF_get (hd ⟨1, .data⟩ (by simp) rfl _ rfl)
                          have d2 : xv 2 = _ := pF_get (hd ⟨2, .data⟩ (by simp) rfl _ rfl)
                          show Calls Try.prog 13 #[xv 0, xv 1, .int .i64 1, xv 2] wv _
                          rw [d0, d1, d2]
                          have hc := do_any x _ _ _ _ tp ts tv tt tl 1 sa wv hv (hf.later hSw) hs
                          rw [D1] at hc
                          exact hc.mono fun e w' h => gives_p h
                        · exact fun _ => Facts.loadP hS hF (fun _ _ => rfl) 34 Try.underlying34 rfl zux _ rfl rfl (fun xv wv hSw hd => by rfl) (fun wv hSw => Rw.whole (cs := (txc up us uv ut ul)) (R2.later hSw))
                        · exact fun _ => Facts.pureP hS hF (fun _ _ => rfl) rfl (fun xv wv hSw hd => by
                            go_simp)
                        · refine fun _ => Facts.call4P hS hF (fun _ _ => rfl) rfl (by kernel_rfl) rfl (fun xv wv hSw hd => ?_)
                          have d3 := pF_get (hd ⟨3, .data⟩ (by simp) rfl _ rfl)
                          have d4 : xv 4 = _ := pF_get (hd ⟨4, .data⟩ (by simp) rfl _ rfl)
                          have d5 : xv 5 = _ := pF_get (hd ⟨5, .data⟩ (by simp) rfl _ rfl)
                          show Calls Try.prog 13 #[xv 3, xv 4, .int .i64 1, xv 5] wv _
                          obtain ⟨va, vw, vm, ve, e2, f2⟩ := d3
                          rw [e2, d4, d5]
                          have hc := do_any (oneX x ⟨tp, ts, 1, tt, sa⟩ tv) va vw vm ve up us uv ut ul 1 sb wv hu f2 s1
                          rw [D12] at hc
                          exact hc.mono fun e w' h => gives_p h
                        · exact fun _ => Facts.allocP hS hF (fun _ _ => rfl) 27 rfl (fun wv hSw => hSw.size) (fun _ _ => rfl)
                        · exact fun h => absurd h (by decide)
                        intro xqm w10 hb5 hff
                        obtain ⟨va, vw, vm, ve, e6, FP⟩ := pF_get (hff 6 _ rfl)
                        obtain ⟨qp, eqm, hNm, hq⟩ := pF_get (hff 7 _ rfl)
                        clear hff hS hF
                        obtain ⟨ma, mb, mc, md, me, mf, mg, mh, rfl, rfl, rfl, rfl⟩ := FP.slices
                        replace e6 : xqm 6 = .agg (cvc x.k x.b (.slice ma x.am.length mb) (.slice mc (oneX (oneX x ⟨tp, ts, 1, tt, sa⟩ tv) ⟨up, us, 1, ut, sb⟩ uv).wr.length md) (.slice me x.mb.length mf) (.slice mg x.el.length mh)) := e6
                        replace FP : Four w10 (oneX (oneX x ⟨tp, ts, 1, tt, sa⟩ tv) ⟨up, us, 1, ut, sb⟩ uv) (.slice ma x.am.length mb) (.slice mc (oneX (oneX x ⟨tp, ts, 1, tt, sa⟩ tv) ⟨up, us, 1, ut, sb⟩ uv).wr.length md) (.slice me x.mb.length mf) (.slice mg x.el.length mh) := FP
                        have hwr := hbel.size
                        refine tail_store 27 _ _ rfl qp 0 eqm e6 (hq.store (cvc x.k x.b (.slice ma x.am.length mb) (.slice mc (oneX (oneX x ⟨tp, ts, 1, tt, sa⟩ tv) ⟨up, us, 1, ut, sb⟩ uv).wr.length md) (.slice me x.mb.length mf) (.slice mg x.el.length mh)) size27 rfl (by simp [Value.oneCell'])) ?_
                        refine Facts.tailWp_nil ?_
                        simp only [eqm]
                        replace R0 := (R0.later hb5).rowOther (q := qp) (by omega) (cvc x.k x.b (.slice ma x.am.length mb) (.slice mc (oneX (oneX x ⟨tp, ts, 1, tt, sa⟩ tv) ⟨up, us, 1, ut, sb⟩ uv).wr.length md) (.slice me x.mb.length mf) (.slice mg x.el.length mh))
                        replace R1 := (R1.later hb5).rowOther (q := qp) (by omega) (cvc x.k x.b (.slice ma x.am.length mb) (.slice mc (oneX (oneX x ⟨tp, ts, 1, tt, sa⟩ tv) ⟨up, us, 1, ut, sb⟩ uv).wr.length md) (.slice me x.mb.length mf) (.slice mg x.el.length mh))
                        replace R2 := (R2.later hb5).rowOther (q := qp) (by omega) (cvc x.k x.b (.slice ma x.am.length mb) (.slice mc (oneX (oneX x ⟨tp, ts, 1, tt, sa⟩ tv) ⟨up, us, 1, ut, sb⟩ uv).wr.length md) (.slice me x.mb.length mf) (.slice mg x.el.length mh))
                        replace hf := four_row (hf.later hb5) Z1.out.1 Z1.out.2.1 Z1.out.2.2 hq (cvc x.k x.b (.slice ma x.am.length mb) (.slice mc (oneX (oneX x ⟨tp, ts, 1, tt, sa⟩ tv) ⟨up, us, 1, ut, sb⟩ uv).wr.length md) (.slice me x.mb.length mf) (.slice mg x.el.length mh))
                        replace hbel := below_setRow (below_on hbel hb5) (g := qp) (by omega) (cvc x.k x.b (.slice ma x.am.length mb) (.slice mc (oneX (oneX x ⟨tp, ts, 1, tt, sa⟩ tv) ⟨up, us, 1, ut, sb⟩ uv).wr.length md) (.slice me x.mb.length mf) (.slice mg x.el.length mh))
                        replace FP := four_row FP Z1.out.1 Z1.out.2.1 Z1.out.2.2 hq (cvc x.k x.b (.slice ma x.am.length mb) (.slice mc (oneX (oneX x ⟨tp, ts, 1, tt, sa⟩ tv) ⟨up, us, 1, ut, sb⟩ uv).wr.length md) (.slice me x.mb.length mf) (.slice mg x.el.length mh))
                        have RP := hq.row (cvc x.k x.b (.slice ma x.am.length mb) (.slice mc (oneX (oneX x ⟨tp, ts, 1, tt, sa⟩ tv) ⟨up, us, 1, ut, sb⟩ uv).wr.length md) (.slice me x.mb.length mf) (.slice mg x.el.length mh))
                        have hqp : qp < w10.heap.size := hq.lt
                        have hs11 : (w10.setRow qp (cvc x.k x.b (.slice ma x.am.length mb) (.slice mc (oneX (oneX x ⟨tp, ts, 1, tt, sa⟩ tv) ⟨up, us, 1, ut, sb⟩ uv).wr.length md) (.slice me x.mb.length mf) (.slice mg x.el.length mh))).heap.size = w10.heap.size := by simp [World.setRow]
                        rw [← hs11] at hqp
                        clear hb5 hq hs11
                        generalize w10.setRow qp (cvc x.k x.b (.slice ma x.am.length mb) (.slice mc (oneX (oneX x ⟨tp, ts, 1, tt, sa⟩ tv) ⟨up, us, 1, ut, sb⟩ uv).wr.length md) (.slice me x.mb.length mf) (.slice mg x.el.length mh)) = w11 at R0 R1 R2 hf hbel FP RP hqp ⊢
                        go_wp2_with fail
                        have hS : Calm.Stays (fun w' => Below w11.heap.size w11 w') := fun wa wb h hb => below_on h hb
                        have hF : Facts.Stay [pF 0 (eqP (.agg ([Value.int .i64 x.k, .int .i64 x.b, .slice pa x.am.length ca', .slice pw x.wr.length cw, .slice pm x.mb.length cm, .slice pe x.el.length ce] : List Value).toArray)), pF 1 (eqP (.agg (txc up us uv ut ul).toArray)), pF 2 (eqP (.string sb)), pF 3 (cP (oneX x ⟨up, us, 1, ut, sb⟩ uv)), pF 4 (eqP (.agg (txc tp ts tv tt tl).toArray)), pF 5 (eqP (.string sa)), pF 6 (cP (oneX (oneX x ⟨tp, ts, 1, tt, sa⟩ tv) ⟨up, us, 1, ut, sb⟩ uv)), pF 7 (boxP w11.heap.size 27 (cvc 0 0 (.slice none 0 0) (.slice none 0 0) (.slice none 0 0) (.slice none 0 0)))] := stay_of (by simp only [List.forall_mem_cons]; exact ⟨⟨_, _, rfl, eqP_keeps _⟩, ⟨_, _, rfl, eqP_keeps _⟩, ⟨_, _, rfl, eqP_keeps _⟩, ⟨_, _, rfl, cP_keeps _⟩, ⟨_, _, rfl, eqP_keeps _⟩, ⟨_, _, rfl, eqP_keeps _⟩, ⟨_, _, rfl, cP_keeps _⟩, ⟨_, _, rfl, boxP_keeps _ _ _⟩, fun _ h => by cases h⟩)
                        refine Facts.regionTail (by kernel_rfl) (by kernel_rfl) 8 (by decide) (by kernel_rfl) (fun w' => Below w11.heap.size w11 w') (fun xv => { tmps := #[CV x.k x.b (Value.slice pa x.am.length ca') (Value.slice pw x.wr.length cw) (Value.slice pm x.mb.length cm) (Value.slice pe x.el.length ce), TxV tp ts tv tt tl, TxV up us uv ut ul, Value.string sa, Value.string sb, Value.pointer (some { block := w.heap.size, off := 0 }), Value.pointer (some { block := w.heap.size + 1, off := 0 }), Value.pointer (some { block := w.heap.size + 1 + 1, off := 0 }), undef, undef, u10, Value.pointer (some { block := q1, off := 0 }), Value.pointer (some { block := q2, off := 0 }), Value.int IntKind.i64 ↑x.wr.length, Value.pointer (some { block := qp, off := 0 }), xv 7, Value.agg (cvc x.k x.b (Value.slice pa x.am.length ca') (Value.slice pw x.wr.length cw) (Value.slice pm x.mb.length cm) (Value.slice pe x.el.length ce)), Value.bool true, Value.bool false, Value.bool false, Value.agg (cvc x.k x.b (Value.slice pa x.am.length ca') (Value.slice pw x.wr.length cw) (Value.slice pm x.mb.length cm) (Value.slice pe x.el.length ce)), Value.bool true, Value.bool false, Value.bool false, Value.bool false, Value.pointer (some { block := w.heap.size + 1, off := 0 }), Value.agg #[Value.int IntKind.i64 tp, Value.int IntKind.i64 ts], Value.pointer (some { block := w.heap.size + 1 + 1, off := 0 }), Value.agg #[Value.int IntKind.i64 up, Value.int IntKind.i64 us], Value.bool false, Value.bool false, Value.bool false, Value.string sa, Value.int IntKind.i64 ↑sa.size, Value.bool false, Value.bool false, Value.bool false, Value.string sb, Value.int IntKind.i64 ↑sb.size, Value.bool false, Value.bool false, Value.bool false, Value.agg (txc tp ts tv tt tl).toArray, Value.bool true, Value.bool false, Value.bool false, Value.bool false, Value.agg (txc up us uv ut ul).toArray, Value.bool true, Value.bool false, Value.bool false, undef, xq 0, xq 1, xq 2, xq 3, xq 4, xq 5, Value.agg #[Value.int IntKind.i64 tp, Value.int IntKind.i64 ts, Value.int IntKind.i64 1], Value.agg (txc up us uv ut ul).toArray, Value.bool false, Value.bool false, Value.agg #[Value.int IntKind.i64 up, Value.int IntKind.i64 us, Value.int IntKind.i64 1], Value.agg (txc tp ts tv tt tl).toArray, Value.bool false, Value.bool false, undef, Value.int IntKind.i64 ↑x.wr.length, Value.pointer (some { block := w.heap.size, off := 3 }), Value.slice pw x.wr.length cw, Value.int IntKind.i64 ↑x.wr.length, Value.bool false, u72, u73, u74, u75, u76, u77, u78, u79, u80, u81, u82, u83, u84, u85, u86, u87, u88, u89, u90, u91, u92, xqm 0, xqm 1, xqm 2, xqm 3, xqm 4, xqm 5, Value.agg (cvc x.k x.b (Value.slice ma x.am.length mb) (Value.slice mc (insF { p := up, s := us, i := 1, t := ut, x := sb } (lef (insF { p := tp, s := ts, i := 1, t := tt, x := sa } (lef x.wr tp ts tv 1)) up us uv 1)).length md) (Value.slice me x.mb.length mf) (Value.slice mg x.el.length mh)), xv 0, xv 1, xv 2, xv 3, xv 4, xv 5, xv 6, undef, undef, undef, undef, undef, undef, undef, undef, undef, undef], defers := [] }) [pF 0 (eqP (.agg ([Value.int .i64 x.k, .int .i64 x.b, .slice pa x.am.length ca', .slice pw x.wr.length cw, .slice pm x.mb.length cm, .slice pe x.el.length ce] : List Value).toArray)), pF 1 (eqP (.agg (txc up us uv ut ul).toArray)), pF 2 (eqP (.string sb)), pF 3 (cP (oneX x ⟨up, us, 1, ut, sb⟩ uv)), pF 4 (eqP (.agg (txc tp ts tv tt tl).toArray)), pF 5 (eqP (.string sa)), pF 6 (cP (oneX (oneX x ⟨tp, ts, 1, tt, sa⟩ tv) ⟨up, us, 1, ut, sb⟩ uv)), pF 7 (boxP w11.heap.size 27 (cvc 0 0 (.slice none 0 0) (.slice none 0 0) (.slice none 0 0) (.slice none 0 0)))] _ rfl rfl (by kernel_rfl) (fun j => [undef, undef, undef, undef, undef, undef, undef, undef].getD j undef) rfl (Below.refl _ w11).drew ⟨?_, ?_, ?_, ?_, ?_, ?_, ?_, ?_, ?_, trivial⟩ ?_
                        · exact fun _ => Facts.loadP hS hF (fun _ _ => rfl) 27 Try.underlying27 rfl zx _ rfl rfl (fun xv wv hSw hd => by rfl) (fun wv hSw => Rw.whole (cs := [Value.int .i64 x.k, .int .i64 x.b, .slice pa x.am.length ca', .slice pw x.wr.length cw, .slice pm x.mb.length cm, .slice pe x.el.length ce]) (R0.later hSw))
                        · exact fun _ => Facts.loadP hS hF (fun _ _ => rfl) 34 Try.underlying34 rfl zux _ rfl rfl (fun xv wv hSw hd => by rfl) (fun wv hSw => Rw.whole (cs := (txc up us uv ut ul)) (R2.later hSw))
                        · exact fun _ => Facts.pureP hS hF (fun _ _ => rfl) rfl (fun xv wv hSw hd => by
                            go_simp)
                        · refine fun _ => Facts.call4P hS hF (fun _ _ => rfl) rfl (by kernel_rfl) rfl (fun xv wv hSw hd => ?_)
                          have d0 : xv 0 = _ := pF_get (hd ⟨0, .data⟩ (by simp) rfl _ rfl)
                          have d1 : xv 1 = _ := pF_get (hd ⟨1, .data⟩ (by simp) rfl _ rfl)
                          have d2 : xv 2 = _ := pF_get (hd ⟨2, .data⟩ (by simp) rfl _ rfl)
                          show Calls Try.prog 13 #[xv 0, xv 1, .int .i64 1, xv 2] wv _
                          rw [d0, d1, d2]
                          have hc := do_any x _ _ _ _ up us uv ut ul 1 sb wv hu (hf.later hSw) hs
                          rw [D2] at hc
                          exact hc.mono fun e w' h => gives_p h
                        · exact fun _ => Facts.loadP hS hF (fun _ _ => rfl) 34 Try.underlying34 rfl ztx _ rfl rfl (fun xv wv hSw hd => by rfl) (fun wv hSw => Rw.whole (cs := (txc tp ts tv tt tl)) (R1.later hSw))
                        · exact fun _ => Facts.pureP hS hF (fun _ _ => rfl) rfl (fun xv wv hSw hd => by
                            go_simp)
                        · refine fun _ => Facts.call4P hS hF (fun _ _ => rfl) rfl (by kernel_rfl) rfl (fun xv wv hSw hd => ?_)
                          have d3 := pF_get (hd ⟨3, .data⟩ (by simp) rfl _ rfl)
                          have d4 : xv 4 = _ := pF_get (hd ⟨4, .data⟩ (by simp) rfl _ rfl)
                          have d5 : xv 5 = _ := pF_get (hd ⟨5, .data⟩ (by simp) rfl _ rfl)
                          show Calls Try.prog 13 #[xv 3, xv 4, .int .i64 1, xv 5] wv _
                          obtain ⟨va, vw, vm, ve, e2, f2⟩ := d3
                          rw [e2, d4, d5]
                          have hc := do_any (oneX x ⟨up, us, 1, ut, sb⟩ uv) va vw vm ve tp ts tv tt tl 1 sa wv hv f2 s2
                          rw [D21, hcm] at hc
                          exact hc.mono fun e w' h => gives_p h
                        · exact fun _ => Facts.allocP hS hF (fun _ _ => rfl) 27 rfl (fun wv hSw => hSw.size) (fun _ _ => rfl)
                        · exact fun h => absurd h (by decide)
                        intro xqn w12 hb5 hff
                        obtain ⟨va, vw, vm, ve, e6, FQ⟩ := pF_get (hff 6 _ rfl)
                        obtain ⟨qq, eqn, hNn, hq⟩ := pF_get (hff 7 _ rfl)
                        clear hff hS hF
                        obtain ⟨na, nb, nc, nd, ne, nf, ng, nh, rfl, rfl, rfl, rfl⟩ := FQ.slices
                        replace e6 : xqn 6 = .agg (cvc x.k x.b (.slice na x.am.length nb) (.slice nc (oneX (oneX x ⟨tp, ts, 1, tt, sa⟩ tv) ⟨up, us, 1, ut, sb⟩ uv).wr.length nd) (.slice ne x.mb.length nf) (.slice ng x.el.length nh)) := e6
                        replace FQ : Four w12 (oneX (oneX x ⟨tp, ts, 1, tt, sa⟩ tv) ⟨up, us, 1, ut, sb⟩ uv) (.slice na x.am.length nb) (.slice nc (oneX (oneX x ⟨tp, ts, 1, tt, sa⟩ tv) ⟨up, us, 1, ut, sb⟩ uv).wr.length nd) (.slice ne x.mb.length nf) (.slice ng x.el.length nh) := FQ
                        have hwr := hbel.size
                        refine tail_store 27 _ _ rfl qq 0 eqn e6 (hq.store (cvc x.k x.b (.slice na x.am.length nb) (.slice nc (oneX (oneX x ⟨tp, ts, 1, tt, sa⟩ tv) ⟨up, us, 1, ut, sb⟩ uv).wr.length nd) (.slice ne x.mb.length nf) (.slice ng x.el.length nh)) size27 rfl (by simp [Value.oneCell'])) ?_
                        refine Facts.tailWp_nil ?_
                        simp only [eqn]
                        replace R0 := (R0.later hb5).rowOther (q := qq) (by omega) (cvc x.k x.b (.slice na x.am.length nb) (.slice nc (oneX (oneX x ⟨tp, ts, 1, tt, sa⟩ tv) ⟨up, us, 1, ut, sb⟩ uv).wr.length nd) (.slice ne x.mb.length nf) (.slice ng x.el.length nh))
                        replace R1 := (R1.later hb5).rowOther (q := qq) (by omega) (cvc x.k x.b (.slice na x.am.length nb) (.slice nc (oneX (oneX x ⟨tp, ts, 1, tt, sa⟩ tv) ⟨up, us, 1, ut, sb⟩ uv).wr.length nd) (.slice ne x.mb.length nf) (.slice ng x.el.length nh))
                        replace R2 := (R2.later hb5).rowOther (q := qq) (by omega) (cvc x.k x.b (.slice na x.am.length nb) (.slice nc (oneX (oneX x ⟨tp, ts, 1, tt, sa⟩ tv) ⟨up, us, 1, ut, sb⟩ uv).wr.length nd) (.slice ne x.mb.length nf) (.slice ng x.el.length nh))
                        replace RP := (RP.later hb5).rowOther (q := qq) (by omega) (cvc x.k x.b (.slice na x.am.length nb) (.slice nc (oneX (oneX x ⟨tp, ts, 1, tt, sa⟩ tv) ⟨up, us, 1, ut, sb⟩ uv).wr.length nd) (.slice ne x.mb.length nf) (.slice ng x.el.length nh))
                        replace FP := four_row (FP.later hb5) Z1.out.1 Z1.out.2.1 Z1.out.2.2 hq (cvc x.k x.b (.slice na x.am.length nb) (.slice nc (oneX (oneX x ⟨tp, ts, 1, tt, sa⟩ tv) ⟨up, us, 1, ut, sb⟩ uv).wr.length nd) (.slice ne x.mb.length nf) (.slice ng x.el.length nh))
                        replace hbel := below_setRow (below_on hbel hb5) (g := qq) (by omega) (cvc x.k x.b (.slice na x.am.length nb) (.slice nc (oneX (oneX x ⟨tp, ts, 1, tt, sa⟩ tv) ⟨up, us, 1, ut, sb⟩ uv).wr.length nd) (.slice ne x.mb.length nf) (.slice ng x.el.length nh))
                        replace FQ := four_row FQ Z1.out.1 Z1.out.2.1 Z1.out.2.2 hq (cvc x.k x.b (.slice na x.am.length nb) (.slice nc (oneX (oneX x ⟨tp, ts, 1, tt, sa⟩ tv) ⟨up, us, 1, ut, sb⟩ uv).wr.length nd) (.slice ne x.mb.length nf) (.slice ng x.el.length nh))
                        have RQ := hq.row (cvc x.k x.b (.slice na x.am.length nb) (.slice nc (oneX (oneX x ⟨tp, ts, 1, tt, sa⟩ tv) ⟨up, us, 1, ut, sb⟩ uv).wr.length nd) (.slice ne x.mb.length nf) (.slice ng x.el.length nh))
                        clear hb5 hq
                        generalize w12.setRow qq (cvc x.k x.b (.slice na x.am.length nb) (.slice nc (oneX (oneX x ⟨tp, ts, 1, tt, sa⟩ tv) ⟨up, us, 1, ut, sb⟩ uv).wr.length nd) (.slice ne x.mb.length nf) (.slice ng x.el.length nh)) = w13 at R0 R1 R2 hbel FP RP FQ RQ ⊢
                        have CS := same_any _ _ _ _ _ _ _ _ _ w13 FP FQ s12
                        go_wp2_with (first | refine load_r 27 _ rfl rfl _ rfl RP Try.underlying27 rfl size27 ?_ | refine load_r 27 _ rfl rfl _ rfl RQ Try.underlying27 rfl size27 ?_)
                        refine CS.mono ?_
                        clear CS
                        rintro e w14 ⟨rfl, hb1⟩
                        replace RP := RP.later hb1
                        replace FP := FP.later hb1
                        replace hbel := below_on hbel hb1
                        clear hb1
                        have CK := check_any _ _ _ _ _ w14 FP s12
                        rw [k12] at CK
                        go_wp2_with (first | refine load_r 27 _ rfl rfl _ rfl RP Try.underlying27 rfl size27 ?_)
                        refine CK.mono ?_
                        clear CK
                        rintro e w15 ⟨rfl, hb1⟩
                        replace hbel := below_on hbel hb1
                        clear hb1
                        go_wp2_with fail
                        refine (heads_any _).mono ?_
                        rintro e w16 ⟨rfl, hb9⟩
                        go_wp2_with fail
                        go_ret
                        exact ⟨rfl, below_on hbel hb9⟩
end Go.Proofs.Ytknpnjhedfdggaa
