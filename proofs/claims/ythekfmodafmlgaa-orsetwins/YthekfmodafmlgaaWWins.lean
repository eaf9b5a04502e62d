/- OrsetWins is proved of every cell, two transactions and a text: the call returns true, and the arguments read afterwards as they read before; no condition. -/
import Derived.Test.YthekfmodafmlgaaQ1
import Derived.Test.YthekfmodafmlgaaP4
import Derived.Test.YthekfmodafmlgaaP21
import Derived.ShutString
import Derived.ChangeOld
import Derived.SizedLaws
/- What OrsetWins says, of every cell, two transactions and a text. -/
namespace Go.Proofs.Ythekfmodafmlgaa
open Go.RowKit
open Go.Sort

set_option maxHeartbeats 16000000 in
set_option maxRecDepth 100000 in
theorem wins_law (x : X) (va vw vm ve : Value) (tp ts : Int) (tv : List Int) (tt : Int) (tl : Value) (lo : List O) (up us : Int) (uv : List Int) (ut : Int) (ul : Value) (lp : List O) (sa : ByteArray) (w : World) (hv : tv.length = 13) (hu : uv.length = 13) (ho : OHas w tl lo) (hp : OHas w ul lp) (h : Four w x va vw vm ve) (hl : Lk x) : Calls Try.prog 5 #[CV x.k x.b va vw vm ve, TxV tp ts tv tt tl, TxV up us uv ut ul, .string sa] w (Tells (.bool true) w) := by
  obtain ⟨pa, ca', pw, cw, pm, cm, pe, ce, rfl, rfl, rfl, rfl⟩ := h.slices
  obtain ⟨R0, R1, R2, hbel⟩ := three_rows w (cvc x.k x.b (.slice pa x.am.length ca') (.slice pw x.wr.length cw) (.slice pm x.mb.length cm) (.slice pe x.el.length ce)) 27 (txc tp ts tv tt tl).toArray 34 (txc up us uv ut ul).toArray 34
  replace h := h.later hbel
  replace ho := ho.later hbel
  replace hp := hp.later hbel
  have hB : w.heap.size + 3 ≤ (((w.alloc (.cells (cvc x.k x.b (.slice pa x.am.length ca') (.slice pw x.wr.length cw) (.slice pm x.mb.length cm) (.slice pe x.el.length ce)) 27)).alloc (.cells (txc tp ts tv tt tl).toArray 34)).alloc (.cells (txc up us uv ut ul).toArray 34)).heap.size := by simp
  generalize hW : ((w.alloc (.cells (cvc x.k x.b (.slice pa x.am.length ca') (.slice pw x.wr.length cw) (.slice pm x.mb.length cm) (.slice pe x.el.length ce)) 27)).alloc (.cells (txc tp ts tv tt tl).toArray 34)).alloc (.cells (txc up us uv ut ul).toArray 34) = w0 at R0 R1 R2 hbel h ho hp hB
  have zt := size_tx (p := tp) (s := ts) (t := tt) (sl := tl) hv
  have zu := size_tx (p := up) (s := us) (t := ut) (sl := ul) hu
  have zd1 : (Try.prog.info? 29).map (·.size) = some [Value.int .i64 tp, .int .i64 ts].length := size29
  have zd2 : (Try.prog.info? 29).map (·.size) = some [Value.int .i64 up, .int .i64 us].length := size29
  go_enter Try.func5, Try.ntmps5
  go_wp2_with (first | rw [hW] | refine load_r 27 _ rfl rfl _ rfl R0 Try.underlying27 rfl size27 ?_)
  clear hW
  refine (few_any x _ _ _ _ w0 h hl).mono ?_
  rintro e w1 ⟨bf1, rfl, hfw, hb1⟩
  have HFW : Hid (bf1 = true → Fw x) := hfw
  replace R0 := R0.later hb1
  replace R1 := R1.later hb1
  replace R2 := R2.later hb1
  replace h := h.later hb1
  replace ho := ho.later hb1
  replace hp := hp.later hb1
  replace hbel := below_on hbel hb1
  replace hB := Nat.le_trans hB hb1.size
  clear hb1 hfw hl
  cases bf1
  case' false =>
    clear HFW
    go_wp2_with fail
    refine (heads_any _).mono ?_
    rintro e w9 ⟨rfl, hb9⟩
    go_wp2_with fail
    go_ret
    exact ⟨rfl, below_on hbel hb9⟩
  case' true =>
    have hz := (HFW.out rfl).sz
    have hs := hz.sm (by decide) (by decide)
    clear HFW
    go_wp2_with (first | refine load_r 27 _ rfl rfl _ rfl R0 Try.underlying27 rfl size27 ?_)
    refine (refCheck_any x _ _ _ _ w1 h hs).mono ?_
    rintro e w2 ⟨rfl, hb1⟩
    replace R0 := R0.later hb1
    replace R1 := R1.later hb1
    replace R2 := R2.later hb1
    replace h := h.later hb1
    replace ho := ho.later hb1
    replace hp := hp.later hb1
    replace hbel := below_on hbel hb1
    replace hB := Nat.le_trans hB hb1.size
    clear hb1
    obtain ⟨y1, HY1⟩ := hid_ex (ck x)
    rw [HY1.out]
    cases y1
    case' false =>
      go_wp2_with fail
      refine (heads_any _).mono ?_
      rintro e w9 ⟨rfl, hb9⟩
      go_wp2_with fail
      go_ret
      exact ⟨rfl, below_on hbel hb9⟩
    case' true =>
      obtain ⟨z0, HZ0⟩ := hid_ex (decide (tp = up) && decide (ts = us))
      have E0 := fun w => eq_dot w tp ts up us
      rw [HZ0.out] at E0
      cases z0
      case' true =>
        go_wp2_with (first | refine load_m 29 _ rfl rfl _ _ rfl (tx_dot R1) Try.underlying29 rfl zd1 ?_ | refine load_m 29 _ rfl rfl _ _ rfl (tx_dot R2) Try.underlying29 rfl zd2 ?_ | refine load_r 34 _ rfl rfl _ rfl R1 Try.underlying34 rfl zt ?_)
        refine (heads_any _).mono ?_
        rintro e w9 ⟨rfl, hb9⟩
        go_wp2_with fail
        go_ret
        exact ⟨rfl, below_on hbel hb9⟩
      case' false =>
        by_cases ha : 64 < sa.size
        case' pos =>
          have ha' : decide ((64 : Int) < (sa.size : Int)) = true := decide_eq_true (by omega)
          go_wp2_with (first | refine load_m 29 _ rfl rfl _ _ rfl (tx_dot R1) Try.underlying29 rfl zd1 ?_ | refine load_m 29 _ rfl rfl _ _ rfl (tx_dot R2) Try.underlying29 rfl zd2 ?_ | refine load_r 34 _ rfl rfl _ rfl R1 Try.underlying34 rfl zt ?_)
          refine (heads_any _).mono ?_
          rintro e w9 ⟨rfl, hb9⟩
          go_wp2_with fail
          go_ret
          exact ⟨rfl, below_on hbel hb9⟩
        case' neg =>
          have ha' : decide ((64 : Int) < (sa.size : Int)) = false := decide_eq_false (by omega)
          have h64 : sa.size ≤ 64 := by omega
          have h1000 : sa.size ≤ 1000 := by omega
          go_wp2_with (first | refine load_m 29 _ rfl rfl _ _ rfl (tx_dot R1) Try.underlying29 rfl zd1 ?_ | refine load_m 29 _ rfl rfl _ _ rfl (tx_dot R2) Try.underlying29 rfl zd2 ?_ | refine load_r 34 _ rfl rfl _ rfl R1 Try.underlying34 rfl zt ?_)
          clear ha E0
          refine (small_any tp ts tv tt tl lo w2 hv ho).mono ?_
          rintro e w3 ⟨b1, rfl, _, hb1⟩
          replace R0 := R0.later hb1
          replace R1 := R1.later hb1
          replace R2 := R2.later hb1
          replace h := h.later hb1
          replace hp := hp.later hb1
          replace hbel := below_on hbel hb1
          replace hB := Nat.le_trans hB hb1.size
          clear hb1 ho
          cases b1
          case' false =>
            go_wp2_with fail
            refine (heads_any _).mono ?_
            rintro e w9 ⟨rfl, hb9⟩
            go_wp2_with fail
            go_ret
            exact ⟨rfl, below_on hbel hb9⟩
          case' true =>
            go_wp2_with (first | refine load_r 34 _ rfl rfl _ rfl R2 Try.underlying34 rfl zu ?_)
            refine (small_any up us uv ut ul lp w3 hu hp).mono ?_
            rintro e w4 ⟨b2, rfl, _, hb1⟩
            replace R0 := R0.later hb1
            replace R1 := R1.later hb1
            replace R2 := R2.later hb1
            replace h := h.later hb1
            replace hbel := below_on hbel hb1
            replace hB := Nat.le_trans hB hb1.size
            clear hb1 hp
            cases b2
            case' false =>
              go_wp2_with fail
              refine (heads_any _).mono ?_
              rintro e w9 ⟨rfl, hb9⟩
              go_wp2_with fail
              go_ret
              exact ⟨rfl, below_on hbel hb9⟩
            case' true =>
              go_wp2_with fail
              have hS : Calm.Stays (fun w' => Below w4.heap.size w4 w') := fun wa wb h hb => below_on h hb
              have hF : Facts.Stay [pF 0 (eqP (.pointer (some ⟨w.heap.size + 1, 0, none⟩))), pF 1 (eqP (.agg ([Value.int .i64 tp, .int .i64 ts] : List Value).toArray)), pF 2 (eqP (.agg #[.int .i64 tp, .int .i64 ts, .int .i64 1])), pF 3 (eqP (.pointer (some ⟨w.heap.size + 2, 0, none⟩))), pF 4 (eqP (.agg ([Value.int .i64 up, .int .i64 us] : List Value).toArray)), pF 5 (eqP (.agg #[.int .i64 up, .int .i64 us, .int .i64 1])), pF 6 (newP w4.heap.size 44 3), pF 7 (newP w4.heap.size 44 3), pF 6 (boxP w4.heap.size 44 #[.int .i64 tp, .int .i64 ts, .int .i64 1]), pF 7 (boxP w4.heap.size 44 #[.int .i64 up, .int .i64 us, .int .i64 1])] := stay_of (by simp only [List.forall_mem_cons]; exact ⟨⟨_, _, rfl, eqP_keeps _⟩, ⟨_, _, rfl, eqP_keeps _⟩, ⟨_, _, rfl, eqP_keeps _⟩, ⟨_, _, rfl, eqP_keeps _⟩, ⟨_, _, rfl, eqP_keeps _⟩, ⟨_, _, rfl, eqP_keeps _⟩, ⟨_, _, rfl, newP_keeps _ _ _⟩, ⟨_, _, rfl, newP_keeps _ _ _⟩, ⟨_, _, rfl, boxP_keeps _ _ _⟩, ⟨_, _, rfl, boxP_keeps _ _ _⟩, fun _ h => by cases h⟩)
              refine FactsG.region (by kernel_rfl) (by kernel_rfl) (fun w' => Below w4.heap.size w4 w') (fun xv => { tmps := #[CV x.k x.b (Value.slice pa x.am.length ca') (Value.slice pw x.wr.length cw) (Value.slice pm x.mb.length cm) (Value.slice pe x.el.length ce), TxV tp ts tv tt tl, TxV up us uv ut ul, Value.string sa, Value.pointer (some { block := w.heap.size, off := 0 }), Value.pointer (some { block := w.heap.size + 1, off := 0 }), Value.pointer (some { block := w.heap.size + 1 + 1, off := 0 }), undef, Value.bool false, xv 6, xv 7, undef, undef, Value.agg (cvc x.k x.b (Value.slice pa x.am.length ca') (Value.slice pw x.wr.length cw) (Value.slice pm x.mb.length cm) (Value.slice pe x.el.length ce)), Value.bool true, Value.bool false, Value.bool false, Value.agg (cvc x.k x.b (Value.slice pa x.am.length ca') (Value.slice pw x.wr.length cw) (Value.slice pm x.mb.length cm) (Value.slice pe x.el.length ce)), Value.bool true, Value.bool false, Value.bool false, Value.bool false, Value.pointer (some { block := w.heap.size + 1, off := 0 }), Value.agg #[Value.int IntKind.i64 tp, Value.int IntKind.i64 ts], Value.pointer (some { block := w.heap.size + 1 + 1, off := 0 }), Value.agg #[Value.int IntKind.i64 up, Value.int IntKind.i64 us], Value.bool false, Value.bool false, Value.bool false, Value.string sa, Value.int IntKind.i64 ↑sa.size, Value.bool false, Value.bool false, Value.bool false, Value.agg (txc tp ts tv tt tl).toArray, Value.bool true, Value.bool false, Value.bool false, Value.bool false, Value.agg (txc up us uv ut ul).toArray, Value.bool true, Value.bool false, Value.bool false, undef, xv 0, xv 1, xv 2, xv 3, xv 4, xv 5, undef, undef, undef, undef, undef, undef, undef, undef, undef, undef, undef, undef, undef, undef, undef, undef, undef, undef, undef, undef, undef, undef, undef, undef, undef, undef, undef, undef, undef, undef, undef, undef, undef, undef, undef, undef, undef, undef, undef, undef, undef, undef, undef, undef, undef, undef, undef], defers := [] }) [pF 0 (eqP (.pointer (some ⟨w.heap.size + 1, 0, none⟩))), pF 1 (eqP (.agg ([Value.int .i64 tp, .int .i64 ts] : List Value).toArray)), pF 2 (eqP (.agg #[.int .i64 tp, .int .i64 ts, .int .i64 1])), pF 3 (eqP (.pointer (some ⟨w.heap.size + 2, 0, none⟩))), pF 4 (eqP (.agg ([Value.int .i64 up, .int .i64 us] : List Value).toArray)), pF 5 (eqP (.agg #[.int .i64 up, .int .i64 us, .int .i64 1])), pF 6 (newP w4.heap.size 44 3), pF 7 (newP w4.heap.size 44 3), pF 6 (boxP w4.heap.size 44 #[.int .i64 tp, .int .i64 ts, .int .i64 1]), pF 7 (boxP w4.heap.size 44 #[.int .i64 up, .int .i64 us, .int .i64 1])] (_root_.Go.Proofs.Ythekfmodafmlgaa.R2 6 7) (R2_symm 6 7) _ rfl rfl (by kernel_rfl) (fun j => [undef, undef, undef, undef, undef, undef, undef, undef, undef, undef].getD j undef) rfl (Below.refl _ w4).drew ⟨?_, ?_, ?_, ?_, ?_, ?_, ?_, ?_, ?_, ?_, trivial⟩ ?_
              · exact FactsG.of rfl (fun _ _ _ h => absurd h (by omega)) (fun _ _ _ _ => rfl) (Facts.pureP hS hF (fun _ _ => rfl) rfl (fun xv wv hSw hd => by
                  go_simp))
              · exact FactsG.of rfl (fun _ _ _ h => absurd h (by omega)) (fun _ _ _ _ => rfl) (Facts.loadP hS hF (fun _ _ => rfl) 29 Try.underlying29 rfl zd1 _ rfl rfl (fun xv wv hSw hd => by have d0 : xv 0 = _ := pF_get (hd ⟨0, .data⟩ (by simp) rfl _ rfl); exact d0) (fun wv hSw => tx_dot (R1.later hSw)))
              · exact FactsG.of rfl (fun _ _ _ h => absurd h (by omega)) (fun _ _ _ _ => rfl) (Facts.pureP hS hF (fun _ _ => rfl) rfl (fun xv wv hSw hd => by
                  have d1 : xv 1 = _ := pF_get (hd ⟨1, .data⟩ (by simp) rfl _ rfl)
                  simp only [d1]
                  go_simp))
              · exact FactsG.of rfl (fun _ _ _ h => absurd h (by omega)) (fun _ _ _ _ => rfl) (Facts.pureP hS hF (fun _ _ => rfl) rfl (fun xv wv hSw hd => by
                  go_simp))
              · exact FactsG.of rfl (fun _ _ _ h => absurd h (by omega)) (fun _ _ _ _ => rfl) (Facts.loadP hS hF (fun _ _ => rfl) 29 Try.underlying29 rfl zd2 _ rfl rfl (fun xv wv hSw hd => by have d3 : xv 3 = _ := pF_get (hd ⟨3, .data⟩ (by simp) rfl _ rfl); exact d3) (fun wv hSw => tx_dot (R2.later hSw)))
              · exact FactsG.of rfl (fun _ _ _ h => absurd h (by omega)) (fun _ _ _ _ => rfl) (Facts.pureP hS hF (fun _ _ => rfl) rfl (fun xv wv hSw hd => by
                  have d4 : xv 4 = _ := pF_get (hd ⟨4, .data⟩ (by simp) rfl _ rfl)
                  simp only [d4]
                  go_simp))
              · exact FactsG.alloc2 rfl rfl hS hF (fun _ _ => rfl) 44 rfl rfl (fun wv hSw => hSw.size) (fun _ _ => rfl) (fun j f hj h => by rcases h with ⟨h, rfl⟩ | ⟨h, rfl⟩ <;> first | (simp at h; done) | exact ⟨44, 3, (Option.some.inj hj).symm⟩)
              · exact FactsG.alloc2 rfl rfl hS hF (fun _ _ => rfl) 44 rfl rfl (fun wv hSw => hSw.size) (fun _ _ => rfl) (fun j f hj h => by rcases h with ⟨h, rfl⟩ | ⟨h, rfl⟩ <;> first | (simp at h; done) | exact ⟨44, 3, (Option.some.inj hj).symm⟩)
              · refine FactsG.ofR rfl (fun _ _ _ _ => rfl) (fun xv wv hSw hd hrel => ?_)
                obtain ⟨q, cs, eq, hN, hq, hz⟩ := pF_get (hd ⟨6, .data⟩ (by simp) rfl _ rfl)
                have dv : xv 2 = _ := pF_get (hd ⟨2, .data⟩ (by simp) rfl _ rfl)
                have hne : xv 6 ≠ xv 7 := hrel ⟨6, .phase⟩ (by simp) rfl ⟨7, .phase⟩ (by simp) rfl (by decide) (by simp)
                refine wp_store_r 44 _ _ rfl q #[.int .i64 tp, .int .i64 ts, .int .i64 1] eq dv hq size44 hz (by simp [Value.oneCell']) ?_
                refine ⟨undef, rfl, below_setRow hSw hN _, fun f hf => ?_, fun j f hj hfj hh => ?_, fun j _ _ _ _ h => absurd h (by omega)⟩
                · obtain rfl := Option.some.inj hf
                  exact ⟨xv 6, rfl, q, eq, hN, hq.row _⟩
                · have hko : ∀ q', xv 7 = .pointer (some ⟨q', 0, none⟩) → q' ≠ q := fun q' e' e2 => hne (by rw [eq, e', e2])
                  match j with
                  | 0 => obtain rfl := Option.some.inj hfj; exact hh
                  | 1 => obtain rfl := Option.some.inj hfj; exact hh
                  | 2 => obtain rfl := Option.some.inj hfj; exact hh
                  | 3 => obtain rfl := Option.some.inj hfj; exact hh
                  | 4 => obtain rfl := Option.some.inj hfj; exact hh
                  | 5 => obtain rfl := Option.some.inj hfj; exact hh
                  | 6 =>
                    obtain rfl := Option.some.inj hfj
                    exact ⟨xv 6, rfl, q, #[.int .i64 tp, .int .i64 ts, .int .i64 1], eq, hN, hq.row _, rfl⟩
                  | 7 =>
                    obtain rfl := Option.some.inj hfj
                    obtain ⟨q', cs', e', hN', hq', hz'⟩ := pF_get hh
                    exact ⟨xv 7, rfl, q', cs', e', hN', hq'.rowOther (hko q' e') _, hz'⟩
                  | 9 =>
                    obtain rfl := Option.some.inj hfj
                    obtain ⟨vv, ev, q', e', hN', hq'⟩ := hh
                    simp only [pF, List.map_cons, List.map_nil, List.cons.injEq, and_true] at ev
                    exact ⟨vv, by simp [pF, ev], q', e', hN', hq'.rowOther (hko q' (ev.trans e')) _⟩
                  | 8 => exact absurd rfl hj
                  | j + 10 => simp at hfj
              · refine FactsG.ofR rfl (fun _ _ _ _ => rfl) (fun xv wv hSw hd hrel => ?_)
                obtain ⟨q, cs, eq, hN, hq, hz⟩ := pF_get (hd ⟨7, .data⟩ (by simp) rfl _ rfl)
                have dv : xv 5 = _ := pF_get (hd ⟨5, .data⟩ (by simp) rfl _ rfl)
                have hne : xv 7 ≠ xv 6 := hrel ⟨7, .phase⟩ (by simp) rfl ⟨6, .phase⟩ (by simp) rfl (by decide) (by simp)
                refine wp_store_r 44 _ _ rfl q #[.int .i64 up, .int .i64 us, .int .i64 1] eq dv hq size44 hz (by simp [Value.oneCell']) ?_
                refine ⟨undef, rfl, below_setRow hSw hN _, fun f hf => ?_, fun j f hj hfj hh => ?_, fun j _ _ _ _ h => absurd h (by omega)⟩
                · obtain rfl := Option.some.inj hf
                  exact ⟨xv 7, rfl, q, eq, hN, hq.row _⟩
                · have hko : ∀ q', xv 6 = .pointer (some ⟨q', 0, none⟩) → q' ≠ q := fun q' e' e2 => hne (by rw [eq, e', e2])
                  match j with
                  | 0 => obtain rfl := Option.some.inj hfj; exact hh
                  | 1 => obtain rfl := Option.some.inj hfj; exact hh
                  | 2 => obtain rfl := Option.some.inj hfj; exact hh
                  | 3 => obtain rfl := Option.some.inj hfj; exact hh
                  | 4 => obtain rfl := Option.some.inj hfj; exact hh
                  | 5 => obtain rfl := Option.some.inj hfj; exact hh
                  | 7 =>
                    obtain rfl := Option.some.inj hfj
                    exact ⟨xv 7, rfl, q, #[.int .i64 up, .int .i64 us, .int .i64 1], eq, hN, hq.row _, rfl⟩
                  | 6 =>
                    obtain rfl := Option.some.inj hfj
                    obtain ⟨q', cs', e', hN', hq', hz'⟩ := pF_get hh
                    exact ⟨xv 6, rfl, q', cs', e', hN', hq'.rowOther (hko q' e') _, hz'⟩
                  | 8 =>
                    obtain rfl := Option.some.inj hfj
                    obtain ⟨vv, ev, q', e', hN', hq'⟩ := hh
                    simp only [pF, List.map_cons, List.map_nil, List.cons.injEq, and_true] at ev
                    exact ⟨vv, by simp [pF, ev], q', e', hN', hq'.rowOther (hko q' (ev.trans e')) _⟩
                  | 9 => exact absurd rfl hj
                  | j + 10 => simp at hfj
              rintro xq w5 hb5 hf hr
              obtain ⟨q1, ep1, hN1, B1⟩ := pF_get (hf 8 _ (by decide) rfl)
              obtain ⟨q2, ep2, hN2, B2⟩ := pF_get (hf 9 _ (by decide) rfl)
              clear hf hr hS hF
              replace R0 := R0.later hb5
              replace R1 := R1.later hb5
              replace R2 := R2.later hb5
              replace h := h.later hb5
              replace hbel := below_on hbel hb5
              replace hB := Nat.le_trans hB hb5.size
              clear hb5
              simp only [ep1, ep2]
              clear ep1 ep2
              have C1 := fun w => refBefore_any tp ts 1 up us uv ut ul 1 w hu
              obtain ⟨z1, HZ1⟩ := hid_ex (bf tp ts 1 up us uv 1)
              rw [HZ1.out] at C1
              have C2 := fun w => refBefore_any up us 1 tp ts tv tt tl 1 w hv
              obtain ⟨z2, HZ2⟩ := hid_ex (bf up us 1 tp ts tv 1)
              rw [HZ2.out] at C2
              go_wp2_with (first | refine load_r 44 _ rfl rfl _ rfl B1 Try.underlying44 rfl size44 ?_ | refine load_r 34 _ rfl rfl _ rfl R2 Try.underlying34 rfl zu ?_)
              refine (C1 _).mono ?_
              clear C1
              rintro e w7 ⟨rfl, hb1⟩
              replace R0 := R0.later hb1
              replace R1 := R1.later hb1
              replace R2 := R2.later hb1
              replace h := h.later hb1
              replace B1 := B1.later hb1
              replace B2 := B2.later hb1
              replace hbel := below_on hbel hb1
              replace hB := Nat.le_trans hB hb1.size
              clear hb1
              cases z1
              case' true =>
                clear HZ1 HZ2
                go_wp2_with fail
                refine (heads_any _).mono ?_
                rintro e w9 ⟨rfl, hb9⟩
                go_wp2_with fail
                go_ret
                exact ⟨rfl, below_on hbel hb9⟩
              case' false =>
                go_wp2_with (first | refine load_r 44 _ rfl rfl _ rfl B2 Try.underlying44 rfl size44 ?_ | refine load_r 34 _ rfl rfl _ rfl R1 Try.underlying34 rfl zt ?_)
                refine (C2 _).mono ?_
                clear C2
                rintro e w6 ⟨rfl, hb1⟩
                replace R0 := R0.later hb1
                replace R1 := R1.later hb1
                replace R2 := R2.later hb1
                replace h := h.later hb1
                replace hbel := below_on hbel hb1
                replace hB := Nat.le_trans hB hb1.size
                clear hb1 B1 B2 hN1 hN2
                cases z2
                case' true =>
                  clear HZ1 HZ2
                  go_wp2_with fail
                  refine (heads_any _).mono ?_
                  rintro e w9 ⟨rfl, hb9⟩
                  go_wp2_with fail
                  go_ret
                  exact ⟨rfl, below_on hbel hb9⟩
                case' false =>
                  have hf := h
                  clear h
                  have zx : (Try.prog.info? 27).map (·.size) = some ([Value.int .i64 x.k, .int .i64 x.b, .slice pa x.am.length ca', .slice pw x.wr.length cw, .slice pm x.mb.length cm, .slice pe x.el.length ce] : List Value).length := size27
                  have ztx : (Try.prog.info? 34).map (·.size) = some (txc tp ts tv tt tl).length := by rw [txc_length hv]; exact size34
                  have zux : (Try.prog.info? 34).map (·.size) = some (txc up us uv ut ul).length := by rw [txc_length hu]; exact size34
                  obtain ⟨x1, H1⟩ := hid_ex (addX x ⟨tp, ts, 1⟩ sa)
                  obtain ⟨x2, H2⟩ := hid_ex (delX x1 up us uv 1 sa)
                  obtain ⟨x3, H3⟩ := hid_ex (delX x up us uv 1 sa)
                  obtain ⟨x4', H4⟩ := hid_ex (addX x3 ⟨tp, ts, 1⟩ sa)
                  obtain ⟨rt, HR⟩ := hid_ex (rdT x2)
                  have Z1 : Sz 61 31 x1 := by rw [← H1.out]; exact sz_add hz _ _
                  have Z2 : Sz 61 31 x2 := by rw [← H2.out]; exact sz_wo Z1 _ _ _
                  have Z3 : Sz 60 30 x3 := by rw [← H3.out]; exact sz_wo hz _ _ _
                  have Z4 : Sz 61 31 x4' := by rw [← H4.out]; exact sz_add Z3 _ _
                  have s1 := Z1.sm (by decide) (by decide)
                  have s2 := Z2.sm (by decide) (by decide)
                  have s3 := Z3.sm (by decide) (by decide)
                  have s4 := Z4.sm (by decide) (by decide)
                  have hm1 : im (1 : Int) = true := by decide
                  have k1 : ck x1 = true := by rw [← H1.out]; exact ck_addX HY1.out _ _
                  have k2 : ck x2 = true := by rw [← H2.out]; exact ck_woX k1 _ _ _
                  have k3 : ck x3 = true := by rw [← H3.out]; exact ck_woX HY1.out _ _ _
                  have k4 : ck x4' = true := by rw [← H4.out]; exact ck_addX k3 _ _
                  have m1 : x1.mb = addL x.mb sa ⟨tp, ts, 1⟩ := by rw [← H1.out, addX_ck HY1.out hm1 h64]
                  have m2 : x2.mb = wo (fun y => decide (tx y = bs sa)) (bfP up us uv 1) x1.mb := by
                    rw [← H2.out]
                    unfold delX
                    rw [woX_ck k1 hm1]
                  have m3 : x3.mb = wo (fun y => decide (tx y = bs sa)) (bfP up us uv 1) x.mb := by
                    rw [← H3.out]
                    unfold delX
                    rw [woX_ck HY1.out hm1]
                  have m4 : x4'.mb = addL x3.mb sa ⟨tp, ts, 1⟩ := by rw [← H4.out, addX_ck k3 hm1 h64]
                  have r2 : rdT x2 = txL (addL x.mb sa ⟨tp, ts, 1⟩) := by rw [rdT_ck k2, m2, m1, wins_txL HZ1.out]
                  have r4 : rdT x4' = txL (addL x.mb sa ⟨tp, ts, 1⟩) := by rw [rdT_ck k4, m4, m3, wins_eq]
                  have hr4 : rdT x4' = rt := by rw [r4, ← r2, HR.out]
                  have hrk : rdK x2 = 4 := rdK_ck k2
                  have hrk4 : rdK x4' = 4 := rdK_ck k4
                  have hin : decide (bs sa ∈ rt) = true := by
                    rw [← HR.out, r2, txL_addL]
                    exact decide_eq_true (by simp)
                  have HR4 : Hid (rdT x4' = rt) := hr4
                  have HK2 : Hid (ck x2 = true) := k2
                  have HRK : Hid (rdK x2 = 4) := hrk
                  have HRK4 : Hid (rdK x4' = 4) := hrk4
                  have HIN : Hid (decide (bs sa ∈ rt) = true) := hin
                  clear hr4 r2 r4 m1 m2 m3 m4 hrk hrk4 k1 k2 k3 k4 Z1 Z2 Z3 Z4 hin hm1 hz h64 HZ0 HZ1 HZ2
                  go_wp2_with fail
                  have hS : Calm.Stays (fun w' => Below w6.heap.size w6 w') := fun wa wb h hb => below_on h hb
                  have hF : Facts.Stay [pF 0 (eqP (.agg ([Value.int .i64 x.k, .int .i64 x.b, .slice pa x.am.length ca', .slice pw x.wr.length cw, .slice pm x.mb.length cm, .slice pe x.el.length ce] : List Value).toArray)), pF 1 (eqP (.agg (txc tp ts tv tt tl).toArray)), pF 2 (eqP (.string sa)), pF 3 (cP x1), pF 4 (eqP (.agg (txc up us uv ut ul).toArray)), pF 5 (eqP (.string sa)), pF 6 (cP x2), pF 7 (boxP w6.heap.size 27 (cvc 0 0 (.slice none 0 0) (.slice none 0 0) (.slice none 0 0) (.slice none 0 0)))] := stay_of (by simp only [List.forall_mem_cons]; exact ⟨⟨_, _, rfl, eqP_keeps _⟩, ⟨_, _, rfl, eqP_keeps _⟩, ⟨_, _, rfl, eqP_keeps _⟩, ⟨_, _, rfl, cP_keeps _⟩, ⟨_, _, rfl, eqP_keeps _⟩, ⟨_, _, rfl, eqP_keeps _⟩, ⟨_, _, rfl, cP_keeps _⟩, ⟨_, _, rfl, boxP_keeps _ _ _⟩, fun _ h => by cases h⟩)
                  refine Facts.regionTail (by kernel_rfl) (by kernel_rfl) 8 (by decide) (by kernel_rfl) (fun w' => Below w6.heap.size w6 w') (fun xv => { tmps := #[CV x.k x.b (Value.slice pa x.am.length ca') (Value.slice pw x.wr.length cw) (Value.slice pm x.mb.length cm) (Value.slice pe x.el.length ce), TxV tp ts tv tt tl, TxV up us uv ut ul, Value.string sa, Value.pointer (some { block := w.heap.size, off := 0 }), Value.pointer (some { block := w.heap.size + 1, off := 0 }), Value.pointer (some { block := w.heap.size + 1 + 1, off := 0 }), undef, Value.bool false, Value.pointer (some { block := q1, off := 0 }), Value.pointer (some { block := q2, off := 0 }), xv 7, undef, Value.agg (cvc x.k x.b (Value.slice pa x.am.length ca') (Value.slice pw x.wr.length cw) (Value.slice pm x.mb.length cm) (Value.slice pe x.el.length ce)), Value.bool true, Value.bool false, Value.bool false, Value.agg (cvc x.k x.b (Value.slice pa x.am.length ca') (Value.slice pw x.wr.length cw) (Value.slice pm x.mb.length cm) (Value.slice pe x.el.length ce)), Value.bool true, Value.bool false, Value.bool false, Value.bool false, Value.pointer (some { block := w.heap.size + 1, off := 0 }), Value.agg #[Value.int IntKind.i64 tp, Value.int IntKind.i64 ts], Value.pointer (some { block := w.heap.size + 1 + 1, off := 0 }), Value.agg #[Value.int IntKind.i64 up, Value.int IntKind.i64 us], Value.bool false, Value.bool false, Value.bool false, Value.string sa, Value.int IntKind.i64 ↑sa.size, Value.bool false, Value.bool false, Value.bool false, Value.agg (txc tp ts tv tt tl).toArray, Value.bool true, Value.bool false, Value.bool false, Value.bool false, Value.agg (txc up us uv ut ul).toArray, Value.bool true, Value.bool false, Value.bool false, undef, xq 0, xq 1, xq 2, xq 3, xq 4, xq 5, Value.agg #[Value.int IntKind.i64 tp, Value.int IntKind.i64 ts, Value.int IntKind.i64 1], Value.agg (txc up us uv ut ul).toArray, Value.bool false, Value.bool false, Value.agg #[Value.int IntKind.i64 up, Value.int IntKind.i64 us, Value.int IntKind.i64 1], Value.agg (txc tp ts tv tt tl).toArray, Value.bool false, Value.bool false, undef, xv 0, xv 1, xv 2, xv 3, xv 4, xv 5, xv 6, undef, undef, undef, undef, undef, undef, undef, undef, undef, undef, undef, undef, undef, undef, undef, undef, undef, undef, undef, undef, undef, undef, undef, undef, undef, undef, undef, undef, undef, undef, undef], defers := [] }) [pF 0 (eqP (.agg ([Value.int .i64 x.k, .int .i64 x.b, .slice pa x.am.length ca', .slice pw x.wr.length cw, .slice pm x.mb.length cm, .slice pe x.el.length ce] : List Value).toArray)), pF 1 (eqP (.agg (txc tp ts tv tt tl).toArray)), pF 2 (eqP (.string sa)), pF 3 (cP x1), pF 4 (eqP (.agg (txc up us uv ut ul).toArray)), pF 5 (eqP (.string sa)), pF 6 (cP x2), pF 7 (boxP w6.heap.size 27 (cvc 0 0 (.slice none 0 0) (.slice none 0 0) (.slice none 0 0) (.slice none 0 0)))] _ rfl rfl (by kernel_rfl) (fun j => [undef, undef, undef, undef, undef, undef, undef, undef].getD j undef) rfl (Below.refl _ w6).drew ⟨?_, ?_, ?_, ?_, ?_, ?_, ?_, ?_, ?_, trivial⟩ ?_
                  · exact fun _ => Facts.loadP hS hF (fun _ _ => rfl) 27 Try.underlying27 rfl zx _ rfl rfl (fun xv wv hSw hd => by rfl) (fun wv hSw => Rw.whole (cs := [Value.int .i64 x.k, .int .i64 x.b, .slice pa x.am.length ca', .slice pw x.wr.length cw, .slice pm x.mb.length cm, .slice pe x.el.length ce]) (R0.later hSw))
                  · exact fun _ => Facts.loadP hS hF (fun _ _ => rfl) 34 Try.underlying34 rfl ztx _ rfl rfl (fun xv wv hSw hd => by rfl) (fun wv hSw => Rw.whole (cs := (txc tp ts tv tt tl)) (R1.later hSw))
                  · exact fun _ => Facts.pureP hS hF (fun _ _ => rfl) rfl (fun xv wv hSw hd => by
                      go_simp)
                  · refine fun _ => Facts.call4P hS hF (fun _ _ => rfl) rfl (by kernel_rfl) rfl (fun xv wv hSw hd => ?_)
                    have d0 : xv 0 = _ := pF_get (hd ⟨0, .data⟩ (by simp) rfl _ rfl)
                    have d1 : xv 1 = _ := pF_get (hd ⟨1, .data⟩ (by simp) rfl _ rfl)
                    have d2 : xv 2 = _ := pF_get (hd ⟨2, .data⟩ (by simp) rfl _ rfl)
                    show Calls Try.prog 17 #[xv 0, xv 1, .int .i64 1, xv 2] wv _
                    rw [d0, d1, d2]
                    have hc := add_any x _ _ _ _ tp ts tv tt tl 1 sa wv hv (hf.later hSw) hs
                    rw [H1.out] at hc
                    exact hc.mono fun e w' h => gives_p h
                  · exact fun _ => Facts.loadP hS hF (fun _ _ => rfl) 34 Try.underlying34 rfl zux _ rfl rfl (fun xv wv hSw hd => by rfl) (fun wv hSw => Rw.whole (cs := (txc up us uv ut ul)) (R2.later hSw))
                  · exact fun _ => Facts.pureP hS hF (fun _ _ => rfl) rfl (fun xv wv hSw hd => by
                      go_simp)
                  · refine fun _ => Facts.call4P hS hF (fun _ _ => rfl) rfl (by kernel_rfl) rfl (fun xv wv hSw hd => ?_)
                    have d3 := pF_get (hd ⟨3, .data⟩ (by simp) rfl _ rfl)
                    have d4 : xv 4 = _ := pF_get (hd ⟨4, .data⟩ (by simp) rfl _ rfl)
                    have d5 : xv 5 = _ := pF_get (hd ⟨5, .data⟩ (by simp) rfl _ rfl)
                    show Calls Try.prog 14 #[xv 3, xv 4, .int .i64 1, xv 5] wv _
                    obtain ⟨va, vw, vm, ve, e2, f2⟩ := d3
                    rw [e2, d4, d5]
                    have hc := del_any x1 va vw vm ve up us uv ut ul 1 sa wv hu f2 s1 h1000
                    rw [H2.out] at hc
                    exact hc.mono fun e w' h => gives_p h
                  · exact fun _ => Facts.allocP hS hF (fun _ _ => rfl) 27 rfl (fun wv hSw => hSw.size) (fun _ _ => rfl)
                  · exact fun h => absurd h (by decide)
                  intro xqm w10 hb5 hff
                  obtain ⟨va, vw, vm, ve, e6, FP⟩ := pF_get (hff 6 _ rfl)
                  obtain ⟨qp, eqm, hNm, hq⟩ := pF_get (hff 7 _ rfl)
                  clear hff hS hF
                  obtain ⟨ma, mb, mc, md, me, mf, mg, mh, rfl, rfl, rfl, rfl⟩ := FP.slices
                  replace e6 : xqm 6 = .agg (cvc x2.k x2.b (.slice ma x2.am.length mb) (.slice mc x2.wr.length md) (.slice me x2.mb.length mf) (.slice mg x2.el.length mh)) := e6
                  have hwr := hbel.size
                  refine tail_store 27 _ _ rfl qp 0 eqm e6 (hq.store (cvc x2.k x2.b (.slice ma x2.am.length mb) (.slice mc x2.wr.length md) (.slice me x2.mb.length mf) (.slice mg x2.el.length mh)) size27 rfl (by simp [Value.oneCell'])) ?_
                  refine Facts.tailWp_nil ?_
                  simp only [eqm]
                  replace R0 := (R0.later hb5).rowOther (q := qp) (by omega) (cvc x2.k x2.b (.slice ma x2.am.length mb) (.slice mc x2.wr.length md) (.slice me x2.mb.length mf) (.slice mg x2.el.length mh))
                  replace R1 := (R1.later hb5).rowOther (q := qp) (by omega) (cvc x2.k x2.b (.slice ma x2.am.length mb) (.slice mc x2.wr.length md) (.slice me x2.mb.length mf) (.slice mg x2.el.length mh))
                  replace R2 := (R2.later hb5).rowOther (q := qp) (by omega) (cvc x2.k x2.b (.slice ma x2.am.length mb) (.slice mc x2.wr.length md) (.slice me x2.mb.length mf) (.slice mg x2.el.length mh))
                  replace FP := FP.row hq (cvc x2.k x2.b (.slice ma x2.am.length mb) (.slice mc x2.wr.length md) (.slice me x2.mb.length mf) (.slice mg x2.el.length mh))
                  replace hf := (hf.later hb5).row hq (cvc x2.k x2.b (.slice ma x2.am.length mb) (.slice mc x2.wr.length md) (.slice me x2.mb.length mf) (.slice mg x2.el.length mh))
                  replace hbel := below_setRow (below_on hbel hb5) (g := qp) (by omega) (cvc x2.k x2.b (.slice ma x2.am.length mb) (.slice mc x2.wr.length md) (.slice me x2.mb.length mf) (.slice mg x2.el.length mh))
                  have RP := hq.row (cvc x2.k x2.b (.slice ma x2.am.length mb) (.slice mc x2.wr.length md) (.slice me x2.mb.length mf) (.slice mg x2.el.length mh))
                  have hqp : qp < w10.heap.size := hq.lt
                  have hs11 : (w10.setRow qp (cvc x2.k x2.b (.slice ma x2.am.length mb) (.slice mc x2.wr.length md) (.slice me x2.mb.length mf) (.slice mg x2.el.length mh))).heap.size = w10.heap.size := by simp [World.setRow]
                  replace hB := Nat.le_trans hB hb5.size
                  rw [← hs11] at hqp hB
                  clear hb5 hq hs11
                  generalize w10.setRow qp (cvc x2.k x2.b (.slice ma x2.am.length mb) (.slice mc x2.wr.length md) (.slice me x2.mb.length mf) (.slice mg x2.el.length mh)) = w11 at R0 R1 R2 hf hbel FP RP hqp hB ⊢
                  go_wp2_with fail
                  have hS : Calm.Stays (fun w' => Below w11.heap.size w11 w') := fun wa wb h hb => below_on h hb
                  have hF : Facts.Stay [pF 0 (eqP (.agg ([Value.int .i64 x.k, .int .i64 x.b, .slice pa x.am.length ca', .slice pw x.wr.length cw, .slice pm x.mb.length cm, .slice pe x.el.length ce] : List Value).toArray)), pF 1 (eqP (.agg (txc up us uv ut ul).toArray)), pF 2 (eqP (.string sa)), pF 3 (cP x3), pF 4 (eqP (.agg (txc tp ts tv tt tl).toArray)), pF 5 (eqP (.string sa)), pF 6 (cP x4'), pF 7 (boxP w11.heap.size 27 (cvc 0 0 (.slice none 0 0) (.slice none 0 0) (.slice none 0 0) (.slice none 0 0)))] := stay_of (by simp only [List.forall_mem_cons]; exact ⟨⟨_, _, rfl, eqP_keeps _⟩, ⟨_, _, rfl, eqP_keeps _⟩, ⟨_, _, rfl, eqP_keeps _⟩, ⟨_, _, rfl, cP_keeps _⟩, ⟨_, _, rfl, eqP_keeps _⟩, ⟨_, _, rfl, eqP_keeps _⟩, ⟨_, _, rfl, cP_keeps _⟩, ⟨_, _, rfl, boxP_keeps _ _ _⟩, fun _ h => by cases h⟩)
                  refine Facts.regionTail (by kernel_rfl) (by kernel_rfl) 8 (by decide) (by kernel_rfl) (fun w' => Below w11.heap.size w11 w') (fun xv => { tmps := #[CV x.k x.b (Value.slice pa x.am.length ca') (Value.slice pw x.wr.length cw) (Value.slice pm x.mb.length cm) (Value.slice pe x.el.length ce), TxV tp ts tv tt tl, TxV up us uv ut ul, Value.string sa, Value.pointer (some { block := w.heap.size, off := 0 }), Value.pointer (some { block := w.heap.size + 1, off := 0 }), Value.pointer (some { block := w.heap.size + 1 + 1, off := 0 }), undef, Value.bool false, Value.pointer (some { block := q1, off := 0 }), Value.pointer (some { block := q2, off := 0 }), Value.pointer (some { block := qp, off := 0 }), xv 7, Value.agg (cvc x.k x.b (Value.slice pa x.am.length ca') (Value.slice pw x.wr.length cw) (Value.slice pm x.mb.length cm) (Value.slice pe x.el.length ce)), Value.bool true, Value.bool false, Value.bool false, Value.agg (cvc x.k x.b (Value.slice pa x.am.length ca') (Value.slice pw x.wr.length cw) (Value.slice pm x.mb.length cm) (Value.slice pe x.el.length ce)), Value.bool true, Value.bool false, Value.bool false, Value.bool false, Value.pointer (some { block := w.heap.size + 1, off := 0 }), Value.agg #[Value.int IntKind.i64 tp, Value.int IntKind.i64 ts], Value.pointer (some { block := w.heap.size + 1 + 1, off := 0 }), Value.agg #[Value.int IntKind.i64 up, Value.int IntKind.i64 us], Value.bool false, Value.bool false, Value.bool false, Value.string sa, Value.int IntKind.i64 ↑sa.size, Value.bool false, Value.bool false, Value.bool false, Value.agg (txc tp ts tv tt tl).toArray, Value.bool true, Value.bool false, Value.bool false, Value.bool false, Value.agg (txc up us uv ut ul).toArray, Value.bool true, Value.bool false, Value.bool false, undef, xq 0, xq 1, xq 2, xq 3, xq 4, xq 5, Value.agg #[Value.int IntKind.i64 tp, Value.int IntKind.i64 ts, Value.int IntKind.i64 1], Value.agg (txc up us uv ut ul).toArray, Value.bool false, Value.bool false, Value.agg #[Value.int IntKind.i64 up, Value.int IntKind.i64 us, Value.int IntKind.i64 1], Value.agg (txc tp ts tv tt tl).toArray, Value.bool false, Value.bool false, undef, xqm 0, xqm 1, xqm 2, xqm 3, xqm 4, xqm 5, xqm 6, xv 0, xv 1, xv 2, xv 3, xv 4, xv 5, xv 6, undef, undef, undef, undef, undef, undef, undef, undef, undef, undef, undef, undef, undef, undef, undef, undef, undef, undef, undef, undef, undef, undef, undef, undef], defers := [] }) [pF 0 (eqP (.agg ([Value.int .i64 x.k, .int .i64 x.b, .slice pa x.am.length ca', .slice pw x.wr.length cw, .slice pm x.mb.length cm, .slice pe x.el.length ce] : List Value).toArray)), pF 1 (eqP (.agg (txc up us uv ut ul).toArray)), pF 2 (eqP (.string sa)), pF 3 (cP x3), pF 4 (eqP (.agg (txc tp ts tv tt tl).toArray)), pF 5 (eqP (.string sa)), pF 6 (cP x4'), pF 7 (boxP w11.heap.size 27 (cvc 0 0 (.slice none 0 0) (.slice none 0 0) (.slice none 0 0) (.slice none 0 0)))] _ rfl rfl (by kernel_rfl) (fun j => [undef, undef, undef, undef, undef, undef, undef, undef].getD j undef) rfl (Below.refl _ w11).drew ⟨?_, ?_, ?_, ?_, ?_, ?_, ?_, ?_, ?_, trivial⟩ ?_
                  · exact fun _ => Facts.loadP hS hF (fun _ _ => rfl) 27 Try.underlying27 rfl zx _ rfl rfl (fun xv wv hSw hd => by rfl) (fun wv hSw => Rw.whole (cs := [Value.int .i64 x.k, .int .i64 x.b, .slice pa x.am.length ca', .slice pw x.wr.length cw, .slice pm x.mb.length cm, .slice pe x.el.length ce]) (R0.later hSw))
                  · exact fun _ => Facts.loadP hS hF (fun _ _ => rfl) 34 Try.underlying34 rfl zux _ rfl rfl (fun xv wv hSw hd => by rfl) (fun wv hSw => Rw.whole (cs := (txc up us uv ut ul)) (R2.later hSw))
                  · exact fun _ => Facts.pureP hS hF (fun _ _ => rfl) rfl (fun xv wv hSw hd => by
                      go_simp)
                  · refine fun _ => Facts.call4P hS hF (fun _ _ => rfl) rfl (by kernel_rfl) rfl (fun xv wv hSw hd => ?_)
                    have d0 : xv 0 = _ := pF_get (hd ⟨0, .data⟩ (by simp) rfl _ rfl)
                    have d1 : xv 1 = _ := pF_get (hd ⟨1, .data⟩ (by simp) rfl _ rfl)
                    have d2 : xv 2 = _ := pF_get (hd ⟨2, .data⟩ (by simp) rfl _ rfl)
                    show Calls Try.prog 14 #[xv 0, xv 1, .int .i64 1, xv 2] wv _
                    rw [d0, d1, d2]
                    have hc := del_any x _ _ _ _ up us uv ut ul 1 sa wv hu (hf.later hSw) hs h1000
                    rw [H3.out] at hc
                    exact hc.mono fun e w' h => gives_p h
                  · exact fun _ => Facts.loadP hS hF (fun _ _ => rfl) 34 Try.underlying34 rfl ztx _ rfl rfl (fun xv wv hSw hd => by rfl) (fun wv hSw => Rw.whole (cs := (txc tp ts tv tt tl)) (R1.later hSw))
                  · exact fun _ => Facts.pureP hS hF (fun _ _ => rfl) rfl (fun xv wv hSw hd => by
                      go_simp)
                  · refine fun _ => Facts.call4P hS hF (fun _ _ => rfl) rfl (by kernel_rfl) rfl (fun xv wv hSw hd => ?_)
                    have d3 := pF_get (hd ⟨3, .data⟩ (by simp) rfl _ rfl)
                    have d4 : xv 4 = _ := pF_get (hd ⟨4, .data⟩ (by simp) rfl _ rfl)
                    have d5 : xv 5 = _ := pF_get (hd ⟨5, .data⟩ (by simp) rfl _ rfl)
                    show Calls Try.prog 17 #[xv 3, xv 4, .int .i64 1, xv 5] wv _
                    obtain ⟨va, vw, vm, ve, e2, f2⟩ := d3
                    rw [e2, d4, d5]
                    have hc := add_any x3 va vw vm ve tp ts tv tt tl 1 sa wv hv f2 s3
                    rw [H4.out] at hc
                    exact hc.mono fun e w' h => gives_p h
                  · exact fun _ => Facts.allocP hS hF (fun _ _ => rfl) 27 rfl (fun wv hSw => hSw.size) (fun _ _ => rfl)
                  · exact fun h => absurd h (by decide)
                  intro xqn w12 hb5 hff
                  obtain ⟨va, vw, vm, ve, e6, FQ⟩ := pF_get (hff 6 _ rfl)
                  obtain ⟨qq, eqn, hNn, hq⟩ := pF_get (hff 7 _ rfl)
                  clear hff hS hF
                  obtain ⟨na, nb, nc, nd, ne, nf, ng, nh, rfl, rfl, rfl, rfl⟩ := FQ.slices
                  replace e6 : xqn 6 = .agg (cvc x4'.k x4'.b (.slice na x4'.am.length nb) (.slice nc x4'.wr.length nd) (.slice ne x4'.mb.length nf) (.slice ng x4'.el.length nh)) := e6
                  have hwr := hbel.size
                  refine tail_store 27 _ _ rfl qq 0 eqn e6 (hq.store (cvc x4'.k x4'.b (.slice na x4'.am.length nb) (.slice nc x4'.wr.length nd) (.slice ne x4'.mb.length nf) (.slice ng x4'.el.length nh)) size27 rfl (by simp [Value.oneCell'])) ?_
                  refine Facts.tailWp_nil ?_
                  simp only [eqn]
                  replace RP := (RP.later hb5).rowOther (q := qq) (by omega) (cvc x4'.k x4'.b (.slice na x4'.am.length nb) (.slice nc x4'.wr.length nd) (.slice ne x4'.mb.length nf) (.slice ng x4'.el.length nh))
                  replace FQ := FQ.row hq (cvc x4'.k x4'.b (.slice na x4'.am.length nb) (.slice nc x4'.wr.length nd) (.slice ne x4'.mb.length nf) (.slice ng x4'.el.length nh))
                  replace FP := (FP.later hb5).row hq (cvc x4'.k x4'.b (.slice na x4'.am.length nb) (.slice nc x4'.wr.length nd) (.slice ne x4'.mb.length nf) (.slice ng x4'.el.length nh))
                  replace hbel := below_setRow (below_on hbel hb5) (g := qq) (by omega) (cvc x4'.k x4'.b (.slice na x4'.am.length nb) (.slice nc x4'.wr.length nd) (.slice ne x4'.mb.length nf) (.slice ng x4'.el.length nh))
                  have RQ := hq.row (cvc x4'.k x4'.b (.slice na x4'.am.length nb) (.slice nc x4'.wr.length nd) (.slice ne x4'.mb.length nf) (.slice ng x4'.el.length nh))
                  clear hb5 hq R0 R1 R2 hf hNm hNn hqp hB
                  generalize w12.setRow qq (cvc x4'.k x4'.b (.slice na x4'.am.length nb) (.slice nc x4'.wr.length nd) (.slice ne x4'.mb.length nf) (.slice ng x4'.el.length nh)) = w13 at hbel FP RP FQ RQ ⊢
                  have hf : True := trivial
                  have C1 := fun w' (hb : Below w13.heap.size w13 w') => hasT_any _ _ _ _ _ sa w' (FP.later hb) s2
                  have C2 := fun w' (hb : Below w13.heap.size w13 w') => hasT_any _ _ _ _ _ sa w' (FQ.later hb) s4
                  rw [HR.out, HIN.out] at C1
                  rw [HR4.out, HIN.out] at C2
                  have C3 := fun w' (hb : Below w13.heap.size w13 w') => read_any _ _ _ _ _ w' (FP.later hb) s2
                  have C4 := fun w' (hb : Below w13.heap.size w13 w') => read_any _ _ _ _ _ w' (FQ.later hb) s4
                  unfold RdPost at C3 C4
                  rw [HR.out, HRK.out] at C3
                  rw [HR4.out, HRK4.out] at C4
                  have C5 := fun w' (hb : Below w13.heap.size w13 w') => check_any _ _ _ _ _ w' (FP.later hb) s2
                  rw [HK2.out] at C5
                  go_wp2_with fail
                  have zp : (Try.prog.info? 27).map (·.size) = some ([Value.int .i64 x2.k, .int .i64 x2.b, .slice ma x2.am.length mb, .slice mc x2.wr.length md, .slice me x2.mb.length mf, .slice mg x2.el.length mh] : List Value).length := size27
                  have zq : (Try.prog.info? 27).map (·.size) = some ([Value.int .i64 x4'.k, .int .i64 x4'.b, .slice na x4'.am.length nb, .slice nc x4'.wr.length nd, .slice ne x4'.mb.length nf, .slice ng x4'.el.length nh] : List Value).length := size27
                  have hS : Calm.Stays (fun w' => Below w13.heap.size w13 w') := fun wa wb h hb => below_on h hb
                  have hF : Facts.Stay [pF 0 (eqP (.agg ([Value.int .i64 x2.k, .int .i64 x2.b, .slice ma x2.am.length mb, .slice mc x2.wr.length md, .slice me x2.mb.length mf, .slice mg x2.el.length mh] : List Value).toArray)), pF 1 (eqP (.string sa)), pF 2 (eqP (.bool true)), pF 3 (eqP (.bool true)), pF 4 (eqP (.agg ([Value.int .i64 x4'.k, .int .i64 x4'.b, .slice na x4'.am.length nb, .slice nc x4'.wr.length nd, .slice ne x4'.mb.length nf, .slice ng x4'.el.length nh] : List Value).toArray)), pF 5 (eqP (.string sa)), pF 6 (eqP (.bool true)), pF 7 (eqP (.bool true)), pF 8 (eqP (.bool true)), pF 9 (eqP (.agg ([Value.int .i64 x2.k, .int .i64 x2.b, .slice ma x2.am.length mb, .slice mc x2.wr.length md, .slice me x2.mb.length mf, .slice mg x2.el.length mh] : List Value).toArray)), pF 10 (vP 4 rt), pF 11 (thP rt), pF 12 (eqP (.agg ([Value.int .i64 x4'.k, .int .i64 x4'.b, .slice na x4'.am.length nb, .slice nc x4'.wr.length nd, .slice ne x4'.mb.length nf, .slice ng x4'.el.length nh] : List Value).toArray)), pF 13 (vP 4 rt), pF 14 (thP rt), pF 15 (eqP (.bool true)), pF 16 (eqP (.bool true)), pF 17 (eqP (.bool true)), pF 18 (eqP (.agg ([Value.int .i64 x2.k, .int .i64 x2.b, .slice ma x2.am.length mb, .slice mc x2.wr.length md, .slice me x2.mb.length mf, .slice mg x2.el.length mh] : List Value).toArray)), pF 19 (eqP (.bool true)), pF 20 (eqP (.bool true)), pF 21 (eqP (.bool true)), pF 22 (eqP (.bool true)), pF 23 (eqP (.bool true)), pF 24 (eqP (.bool true))] := stay_of (by simp only [List.forall_mem_cons]; exact ⟨⟨_, _, rfl, eqP_keeps _⟩, ⟨_, _, rfl, eqP_keeps _⟩, ⟨_, _, rfl, eqP_keeps _⟩, ⟨_, _, rfl, eqP_keeps _⟩, ⟨_, _, rfl, eqP_keeps _⟩, ⟨_, _, rfl, eqP_keeps _⟩, ⟨_, _, rfl, eqP_keeps _⟩, ⟨_, _, rfl, eqP_keeps _⟩, ⟨_, _, rfl, eqP_keeps _⟩, ⟨_, _, rfl, eqP_keeps _⟩, ⟨_, _, rfl, vP_keeps _ _⟩, ⟨_, _, rfl, thP_keeps _⟩, ⟨_, _, rfl, eqP_keeps _⟩, ⟨_, _, rfl, vP_keeps _ _⟩, ⟨_, _, rfl, thP_keeps _⟩, ⟨_, _, rfl, eqP_keeps _⟩, ⟨_, _, rfl, eqP_keeps _⟩, ⟨_, _, rfl, eqP_keeps _⟩, ⟨_, _, rfl, eqP_keeps _⟩, ⟨_, _, rfl, eqP_keeps _⟩, ⟨_, _, rfl, eqP_keeps _⟩, ⟨_, _, rfl, eqP_keeps _⟩, ⟨_, _, rfl, eqP_keeps _⟩, ⟨_, _, rfl, eqP_keeps _⟩, ⟨_, _, rfl, eqP_keeps _⟩, fun _ h => by cases h⟩)
                  refine FactsG.region (by kernel_rfl) (by kernel_rfl) (fun w' => Below w13.heap.size w13 w') (fun xv => { tmps := #[CV x.k x.b (Value.slice pa x.am.length ca') (Value.slice pw x.wr.length cw) (Value.slice pm x.mb.length cm) (Value.slice pe x.el.length ce), TxV tp ts tv tt tl, TxV up us uv ut ul, Value.string sa, Value.pointer (some { block := w.heap.size, off := 0 }), Value.pointer (some { block := w.heap.size + 1, off := 0 }), Value.pointer (some { block := w.heap.size + 1 + 1, off := 0 }), undef, xv 24, Value.pointer (some { block := q1, off := 0 }), Value.pointer (some { block := q2, off := 0 }), Value.pointer (some { block := qp, off := 0 }), Value.pointer (some { block := qq, off := 0 }), Value.agg (cvc x.k x.b (Value.slice pa x.am.length ca') (Value.slice pw x.wr.length cw) (Value.slice pm x.mb.length cm) (Value.slice pe x.el.length ce)), Value.bool true, Value.bool false, Value.bool false, Value.agg (cvc x.k x.b (Value.slice pa x.am.length ca') (Value.slice pw x.wr.length cw) (Value.slice pm x.mb.length cm) (Value.slice pe x.el.length ce)), Value.bool true, Value.bool false, Value.bool false, Value.bool false, Value.pointer (some { block := w.heap.size + 1, off := 0 }), Value.agg #[Value.int IntKind.i64 tp, Value.int IntKind.i64 ts], Value.pointer (some { block := w.heap.size + 1 + 1, off := 0 }), Value.agg #[Value.int IntKind.i64 up, Value.int IntKind.i64 us], Value.bool false, Value.bool false, Value.bool false, Value.string sa, Value.int IntKind.i64 ↑sa.size, Value.bool false, Value.bool false, Value.bool false, Value.agg (txc tp ts tv tt tl).toArray, Value.bool true, Value.bool false, Value.bool false, Value.bool false, Value.agg (txc up us uv ut ul).toArray, Value.bool true, Value.bool false, Value.bool false, undef, xq 0, xq 1, xq 2, xq 3, xq 4, xq 5, Value.agg #[Value.int IntKind.i64 tp, Value.int IntKind.i64 ts, Value.int IntKind.i64 1], Value.agg (txc up us uv ut ul).toArray, Value.bool false, Value.bool false, Value.agg #[Value.int IntKind.i64 up, Value.int IntKind.i64 us, Value.int IntKind.i64 1], Value.agg (txc tp ts tv tt tl).toArray, Value.bool false, Value.bool false, undef, xqm 0, xqm 1, xqm 2, xqm 3, xqm 4, xqm 5, xqm 6, xqn 0, xqn 1, xqn 2, xqn 3, xqn 4, xqn 5, xqn 6, xv 0, xv 1, xv 2, xv 3, xv 4, xv 5, xv 6, xv 7, xv 8, xv 9, xv 10, xv 11, xv 12, xv 13, xv 14, xv 15, xv 16, xv 17, xv 18, xv 19, xv 20, xv 21, xv 22, xv 23], defers := [] }) [pF 0 (eqP (.agg ([Value.int .i64 x2.k, .int .i64 x2.b, .slice ma x2.am.length mb, .slice mc x2.wr.length md, .slice me x2.mb.length mf, .slice mg x2.el.length mh] : List Value).toArray)), pF 1 (eqP (.string sa)), pF 2 (eqP (.bool true)), pF 3 (eqP (.bool true)), pF 4 (eqP (.agg ([Value.int .i64 x4'.k, .int .i64 x4'.b, .slice na x4'.am.length nb, .slice nc x4'.wr.length nd, .slice ne x4'.mb.length nf, .slice ng x4'.el.length nh] : List Value).toArray)), pF 5 (eqP (.string sa)), pF 6 (eqP (.bool true)), pF 7 (eqP (.bool true)), pF 8 (eqP (.bool true)), pF 9 (eqP (.agg ([Value.int .i64 x2.k, .int .i64 x2.b, .slice ma x2.am.length mb, .slice mc x2.wr.length md, .slice me x2.mb.length mf, .slice mg x2.el.length mh] : List Value).toArray)), pF 10 (vP 4 rt), pF 11 (thP rt), pF 12 (eqP (.agg ([Value.int .i64 x4'.k, .int .i64 x4'.b, .slice na x4'.am.length nb, .slice nc x4'.wr.length nd, .slice ne x4'.mb.length nf, .slice ng x4'.el.length nh] : List Value).toArray)), pF 13 (vP 4 rt), pF 14 (thP rt), pF 15 (eqP (.bool true)), pF 16 (eqP (.bool true)), pF 17 (eqP (.bool true)), pF 18 (eqP (.agg ([Value.int .i64 x2.k, .int .i64 x2.b, .slice ma x2.am.length mb, .slice mc x2.wr.length md, .slice me x2.mb.length mf, .slice mg x2.el.length mh] : List Value).toArray)), pF 19 (eqP (.bool true)), pF 20 (eqP (.bool true)), pF 21 (eqP (.bool true)), pF 22 (eqP (.bool true)), pF 23 (eqP (.bool true)), pF 24 (eqP (.bool true))] (fun _ _ _ _ => True) (fun _ _ _ _ _ => trivial) _ rfl rfl (by kernel_rfl) (fun j => [undef, undef, undef, undef, undef, undef, undef, undef, undef, undef, undef, undef, undef, undef, undef, undef, undef, undef, undef, undef, undef, undef, undef, undef, Value.bool false].getD j undef) rfl (Below.refl _ w13).drew ⟨?_, ?_, ?_, ?_, ?_, ?_, ?_, ?_, ?_, ?_, ?_, ?_, ?_, ?_, ?_, ?_, ?_, ?_, ?_, ?_, ?_, ?_, ?_, ?_, ?_, trivial⟩ ?_
                  · exact FactsG.of rfl (fun _ _ _ => trivial) (fun _ _ _ _ => rfl) (Facts.loadP hS hF (fun _ _ => rfl) 27 Try.underlying27 rfl zp _ rfl rfl (fun xv wv hSw hd => by rfl) (fun wv hSw => Rw.whole (cs := [Value.int .i64 x2.k, .int .i64 x2.b, .slice ma x2.am.length mb, .slice mc x2.wr.length md, .slice me x2.mb.length mf, .slice mg x2.el.length mh]) (RP.later hSw)))
                  · exact FactsG.of rfl (fun _ _ _ => trivial) (fun _ _ _ _ => rfl) (Facts.pureP hS hF (fun _ _ => rfl) rfl (fun xv wv hSw hd => by
                      go_simp))
                  · refine FactsG.of rfl (fun _ _ _ => trivial) (fun _ _ _ _ => rfl) (Facts.call2P hS hF (fun _ _ => rfl) rfl (by kernel_rfl) rfl (fun xv wv hSw hd => ?_))
                    have d0 : xv 0 = _ := pF_get (hd ⟨0, .data⟩ (by simp) rfl _ rfl)
                    have d1 : xv 1 = _ := pF_get (hd ⟨1, .data⟩ (by simp) rfl _ rfl)
                    show Calls Try.prog 26 #[xv 0, xv 1] wv _
                    rw [d0, d1]
                    exact (C1 wv hSw).mono fun e w' h => tells_p h
                  · exact FactsG.of rfl (fun _ _ _ => trivial) (fun _ _ _ _ => rfl) (Facts.pureP hS hF (fun _ _ => rfl) rfl (fun xv wv hSw hd => by
                      have d2 : xv 2 = _ := pF_get (hd ⟨2, .data⟩ (by simp) rfl _ rfl)
                      simp only [d2]
                      go_simp))
                  · exact FactsG.of rfl (fun _ _ _ => trivial) (fun xv wv hSw hd => by have dg : xv 3 = _ := pF_get (hd ⟨3, .guard⟩ (by simp) rfl _ rfl); simp only [dg]; rfl) (Facts.loadP hS hF (fun _ _ => rfl) 27 Try.underlying27 rfl zq _ rfl rfl (fun xv wv hSw hd => by rfl) (fun wv hSw => Rw.whole (cs := [Value.int .i64 x4'.k, .int .i64 x4'.b, .slice na x4'.am.length nb, .slice nc x4'.wr.length nd, .slice ne x4'.mb.length nf, .slice ng x4'.el.length nh]) (RQ.later hSw)))
                  · exact FactsG.of rfl (fun _ _ _ => trivial) (fun xv wv hSw hd => by have dg : xv 3 = _ := pF_get (hd ⟨3, .guard⟩ (by simp) rfl _ rfl); simp only [dg]; rfl) (Facts.pureP hS hF (fun _ _ => rfl) rfl (fun xv wv hSw hd => by
                      go_simp))
                  · refine FactsG.of rfl (fun _ _ _ => trivial) (fun xv wv hSw hd => by have dg : xv 3 = _ := pF_get (hd ⟨3, .guard⟩ (by simp) rfl _ rfl); simp only [dg]; rfl) (Facts.call2P hS hF (fun _ _ => rfl) rfl (by kernel_rfl) rfl (fun xv wv hSw hd => ?_))
                    have d4 : xv 4 = _ := pF_get (hd ⟨4, .data⟩ (by simp) rfl _ rfl)
                    have d5 : xv 5 = _ := pF_get (hd ⟨5, .data⟩ (by simp) rfl _ rfl)
                    show Calls Try.prog 26 #[xv 4, xv 5] wv _
                    rw [d4, d5]
                    exact (C2 wv hSw).mono fun e w' h => tells_p h
                  · exact FactsG.of rfl (fun _ _ _ => trivial) (fun _ _ _ _ => rfl) (Facts.pureP hS hF (fun _ _ => rfl) rfl (fun xv wv hSw hd => by
                      have d3 : xv 3 = _ := pF_get (hd ⟨3, .data⟩ (by simp) rfl _ rfl)
                      have d6 : xv 6 = _ := pF_get (hd ⟨6, .data⟩ (by simp) rfl _ rfl)
                      simp only [d3, d6]
                      go_simp))
                  · exact FactsG.of rfl (fun _ _ _ => trivial) (fun _ _ _ _ => rfl) (Facts.pureP hS hF (fun _ _ => rfl) rfl (fun xv wv hSw hd => by
                      have d7 : xv 7 = _ := pF_get (hd ⟨7, .data⟩ (by simp) rfl _ rfl)
                      simp only [d7]
                      go_simp))
                  · exact FactsG.of rfl (fun _ _ _ => trivial) (fun xv wv hSw hd => by have dg : xv 8 = _ := pF_get (hd ⟨8, .guard⟩ (by simp) rfl _ rfl); simp only [dg]; rfl) (Facts.loadP hS hF (fun _ _ => rfl) 27 Try.underlying27 rfl zp _ rfl rfl (fun xv wv hSw hd => by rfl) (fun wv hSw => Rw.whole (cs := [Value.int .i64 x2.k, .int .i64 x2.b, .slice ma x2.am.length mb, .slice mc x2.wr.length md, .slice me x2.mb.length mf, .slice mg x2.el.length mh]) (RP.later hSw)))
                  · refine FactsG.of rfl (fun _ _ _ => trivial) (fun xv wv hSw hd => by have dg : xv 8 = _ := pF_get (hd ⟨8, .guard⟩ (by simp) rfl _ rfl); simp only [dg]; rfl) (Facts.call1P hS hF (fun _ _ => rfl) rfl (by kernel_rfl) rfl (fun xv wv hSw hd => ?_))
                    have d9 : xv 9 = _ := pF_get (hd ⟨9, .data⟩ (by simp) rfl _ rfl)
                    show Calls Try.prog 13 #[xv 9] wv _
                    rw [d9]
                    refine (C3 wv hSw).mono ?_
                    rintro e w' ⟨u, he, ht, hb⟩
                    exact ⟨_, he, ⟨u, rfl, ht⟩, hb⟩
                  · exact FactsG.of rfl (fun _ _ _ => trivial) (fun xv wv hSw hd => by have dg : xv 8 = _ := pF_get (hd ⟨8, .guard⟩ (by simp) rfl _ rfl); simp only [dg]; rfl) (Facts.pureD hS hF (fun _ _ => rfl) rfl (fun xv wv hSw hd => by
                      obtain ⟨u, e1, f1⟩ := pF_get (hd ⟨10, .data⟩ (by simp) rfl _ rfl)
                      obtain ⟨p, c, rfl⟩ := f1.slice
                      refine ⟨_, ?_, f1⟩
                      unfold execOp
                      simp [go_sem, Act.eval, e1, field48_2]))
                  · exact FactsG.of rfl (fun _ _ _ => trivial) (fun xv wv hSw hd => by have dg : xv 8 = _ := pF_get (hd ⟨8, .guard⟩ (by simp) rfl _ rfl); simp only [dg]; rfl) (Facts.loadP hS hF (fun _ _ => rfl) 27 Try.underlying27 rfl zq _ rfl rfl (fun xv wv hSw hd => by rfl) (fun wv hSw => Rw.whole (cs := [Value.int .i64 x4'.k, .int .i64 x4'.b, .slice na x4'.am.length nb, .slice nc x4'.wr.length nd, .slice ne x4'.mb.length nf, .slice ng x4'.el.length nh]) (RQ.later hSw)))
                  · refine FactsG.of rfl (fun _ _ _ => trivial) (fun xv wv hSw hd => by have dg : xv 8 = _ := pF_get (hd ⟨8, .guard⟩ (by simp) rfl _ rfl); simp only [dg]; rfl) (Facts.call1P hS hF (fun _ _ => rfl) rfl (by kernel_rfl) rfl (fun xv wv hSw hd => ?_))
                    have d12 : xv 12 = _ := pF_get (hd ⟨12, .data⟩ (by simp) rfl _ rfl)
                    show Calls Try.prog 13 #[xv 12] wv _
                    rw [d12]
                    refine (C4 wv hSw).mono ?_
                    rintro e w' ⟨u, he, ht, hb⟩
                    exact ⟨_, he, ⟨u, rfl, ht⟩, hb⟩
                  · exact FactsG.of rfl (fun _ _ _ => trivial) (fun xv wv hSw hd => by have dg : xv 8 = _ := pF_get (hd ⟨8, .guard⟩ (by simp) rfl _ rfl); simp only [dg]; rfl) (Facts.pureD hS hF (fun _ _ => rfl) rfl (fun xv wv hSw hd => by
                      obtain ⟨u, e1, f1⟩ := pF_get (hd ⟨13, .data⟩ (by simp) rfl _ rfl)
                      obtain ⟨p, c, rfl⟩ := f1.slice
                      refine ⟨_, ?_, f1⟩
                      unfold execOp
                      simp [go_sem, Act.eval, e1, field48_2]))
                  · refine FactsG.of rfl (fun _ _ _ => trivial) (fun xv wv hSw hd => by have dg : xv 8 = _ := pF_get (hd ⟨8, .guard⟩ (by simp) rfl _ rfl); simp only [dg]; rfl) (Facts.call2P hS hF (fun _ _ => rfl) rfl (by kernel_rfl) rfl (fun xv wv hSw hd => ?_))
                    have d11 := pF_get (hd ⟨11, .data⟩ (by simp) rfl _ rfl)
                    have d14 := pF_get (hd ⟨14, .data⟩ (by simp) rfl _ rfl)
                    show Calls Try.prog 12 #[xv 11, xv 14] wv _
                    exact (refTexts_any (xv 11) (xv 14) rt wv d11 d14).mono fun e w' h => tells_p h
                  · exact FactsG.of rfl (fun _ _ _ => trivial) (fun _ _ _ _ => rfl) (Facts.pureP hS hF (fun _ _ => rfl) rfl (fun xv wv hSw hd => by
                      have d8 : xv 8 = _ := pF_get (hd ⟨8, .data⟩ (by simp) rfl _ rfl)
                      have d15 : xv 15 = _ := pF_get (hd ⟨15, .data⟩ (by simp) rfl _ rfl)
                      simp only [d8, d15]
                      go_simp))
                  · exact FactsG.of rfl (fun _ _ _ => trivial) (fun _ _ _ _ => rfl) (Facts.pureP hS hF (fun _ _ => rfl) rfl (fun xv wv hSw hd => by
                      have d16 : xv 16 = _ := pF_get (hd ⟨16, .data⟩ (by simp) rfl _ rfl)
                      simp only [d16]
                      go_simp))
                  · exact FactsG.of rfl (fun _ _ _ => trivial) (fun xv wv hSw hd => by have dg : xv 17 = _ := pF_get (hd ⟨17, .guard⟩ (by simp) rfl _ rfl); simp only [dg]; rfl) (Facts.loadP hS hF (fun _ _ => rfl) 27 Try.underlying27 rfl zp _ rfl rfl (fun xv wv hSw hd => by rfl) (fun wv hSw => Rw.whole (cs := [Value.int .i64 x2.k, .int .i64 x2.b, .slice ma x2.am.length mb, .slice mc x2.wr.length md, .slice me x2.mb.length mf, .slice mg x2.el.length mh]) (RP.later hSw)))
                  · refine FactsG.of rfl (fun _ _ _ => trivial) (fun xv wv hSw hd => by have dg : xv 17 = _ := pF_get (hd ⟨17, .guard⟩ (by simp) rfl _ rfl); simp only [dg]; rfl) (Facts.call1P hS hF (fun _ _ => rfl) rfl (by kernel_rfl) rfl (fun xv wv hSw hd => ?_))
                    have d18 : xv 18 = _ := pF_get (hd ⟨18, .data⟩ (by simp) rfl _ rfl)
                    show Calls Try.prog 15 #[xv 18] wv _
                    rw [d18]
                    exact (C5 wv hSw).mono fun e w' h => tells_p h
                  · exact FactsG.of rfl (fun _ _ _ => trivial) (fun _ _ _ _ => rfl) (Facts.pureP hS hF (fun _ _ => rfl) rfl (fun xv wv hSw hd => by
                      have d17 : xv 17 = _ := pF_get (hd ⟨17, .data⟩ (by simp) rfl _ rfl)
                      have d19 : xv 19 = _ := pF_get (hd ⟨19, .data⟩ (by simp) rfl _ rfl)
                      simp only [d17, d19]
                      go_simp))
                  · exact FactsG.of rfl (fun _ _ _ => trivial) (fun _ _ _ _ => rfl) (Facts.pureP hS hF (fun _ _ => rfl) rfl (fun xv wv hSw hd => by
                      have d20 : xv 20 = _ := pF_get (hd ⟨20, .data⟩ (by simp) rfl _ rfl)
                      simp only [d20]
                      go_simp))
                  · refine FactsG.of rfl (fun _ _ _ => trivial) (fun xv wv hSw hd => by have dg : xv 21 = _ := pF_get (hd ⟨21, .guard⟩ (by simp) rfl _ rfl); simp only [dg]; rfl) (Facts.call0P hS hF (fun _ _ => rfl) rfl (by kernel_rfl) rfl (fun xv wv hSw hd => ?_))
                    exact (heads_any wv).mono fun e w' h => tells_p h
                  · exact FactsG.of rfl (fun _ _ _ => trivial) (fun _ _ _ _ => rfl) (Facts.pureP hS hF (fun _ _ => rfl) rfl (fun xv wv hSw hd => by
                      have d21 : xv 21 = _ := pF_get (hd ⟨21, .data⟩ (by simp) rfl _ rfl)
                      have d22 : xv 22 = _ := pF_get (hd ⟨22, .data⟩ (by simp) rfl _ rfl)
                      simp only [d21, d22]
                      go_simp))
                  · exact FactsG.of rfl (fun _ _ _ => trivial) (fun _ _ _ _ => rfl) (Facts.pureP hS hF (fun _ _ => rfl) rfl (fun xv wv hSw hd => by
                      have d23 : xv 23 = _ := pF_get (hd ⟨23, .data⟩ (by simp) rfl _ rfl)
                      simp only [d23]
                      go_simp))
                  rintro xv w19 hb9 hf _
                  have e24 : xv 24 = _ := pF_get (hf 24 _ (by decide) rfl)
                  simp only [e24]
                  go_wp2_with fail
                  go_ret
                  exact ⟨rfl, below_on hbel hb9⟩
end Go.Proofs.Ythekfmodafmlgaa
namespace Go.Proofs.Ythekfmodafmlgaa
open Go.ChangeShapes Go.WideShapes Go.ChangeAt Go.RowKit
open Go.ChangeMaps (open_string shut_string)

theorem orsetWins_own : ownKnob Try.prog.godebug = none := by kernel_rfl
theorem orsetWins_laidOut : laidOutB Try.prog = true := by kernel_rfl

set_option maxRecDepth 100000 in
theorem orsetWins_lifted (os : Os) (started : os.Started) (H : Type) (enc : TypeId × Value → H) :
    ReturnsInHanded {} Try.checked os 5 .any (Rows.orsetWinsSpec.pre6 enc Try.prog Try.f5 Rows.orsetWinsRow.domain false) (Rows.orsetWinsSpec.post enc Try.prog Try.f5 false true false false) := by
  refine returnsInHanded_of_change_sized (C := Try.checked) orsetWins_own started (by kernel_rfl) Try.func5
    (ChangeSpec.witness6 (enc := enc) (C := Try.checked) false ⟨#[], #[.agg #[.int .i64 0, .int .i64 0, .slice none 0 0, .slice none 0 0, .slice none 0 0, .slice none 0 0], .agg #[.int .i64 0, .int .i64 0, .int .i64 0, .int .i64 0, .int .i64 0, .int .i64 0, .int .i64 0, .int .i64 0, .int .i64 0, .int .i64 0, .int .i64 0, .int .i64 0, .int .i64 0, .int .i64 0, .int .i64 0, .int .i64 0, .slice none 0 0], .agg #[.int .i64 0, .int .i64 0, .int .i64 0, .int .i64 0, .int .i64 0, .int .i64 0, .int .i64 0, .int .i64 0, .int .i64 0, .int .i64 0, .int .i64 0, .int .i64 0, .int .i64 0, .int .i64 0, .int .i64 0, .int .i64 0, .slice none 0 0], .string ByteArray.empty], []⟩ 8 (by kernel_rfl) (by kernel_rfl) (by kernel_rfl) (by kernel_rfl)) ?_
  intro W base args ds gs before hval0 hW hcnd hsz0 _
  have hsz : (DataW.weightsEach Try.prog (Try.f5.params.toList ++ Rows.orsetWinsSpec.plain.varTypes Try.prog) (ds ++ gs)).all (· ≤ reachBytes) = true := hsz0
  clear hsz0
  have hval : ∀ (j : Nat) t v, Try.f5.params[j]? = some t → args[j]? = some v → Value.okWide Try.prog W .any base t v := hval0
  have hW' := hW
  obtain ⟨p, q, hA0, hV, rfl, hfz, hnd⟩ := hW
  have hA : DataW.TrodAll enc Try.prog W 0 (fun _ => true) true Try.f5.params.toList args.toList ds p := hA0
  rw [Try.params5] at hA hval hsz
  obtain ⟨v0, vs0, d0, ds0, p0, q0, hargs, rfl, rfl, h0, r0⟩ := trodAll_cons hA
  obtain ⟨v1, vs1, d1, ds1, p1, q1, rfl, rfl, rfl, h1, r1⟩ := trodAll_cons r0
  obtain ⟨v2, vs2, d2, ds2, p2, q2, rfl, rfl, rfl, h2, r2⟩ := trodAll_cons r1
  obtain ⟨v3, vs3, d3, ds3, p3, q3, rfl, rfl, rfl, h3, r3⟩ := trodAll_cons r2
  obtain ⟨rfl, rfl, rfl⟩ := trodAll_nil r3
  obtain rfl : args = #[v0, v1, v2, v3] := by cases args; simp_all
  obtain ⟨rfl, rfl⟩ := trodVars_none hV
  obtain ⟨x0_, va0, vw0, vm0, ve0, rfl, hf0, hk0⟩ := open_cell (hval 0 27 v0 rfl rfl) h0
  have lk0 : Lk x0_ := hk0 (by simp only [List.cons_append, DataW.weightsEach, List.all_append, Bool.and_eq_true] at hsz; exact hsz.1)
  clear hk0
  obtain ⟨p1_, s1_, u1_, t1_, sl1_, l1_, rfl, hu1_, ho1_⟩ := open_tx (hval 1 34 v1 rfl rfl) h1
  obtain ⟨p2_, s2_, u2_, t2_, sl2_, l2_, rfl, hu2_, ho2_⟩ := open_tx (hval 2 34 v2 rfl rfl) h2
  obtain ⟨a3, rfl, rfl, rfl, w3⟩ := open_string Try.underlying9 (hval 3 9 v3 rfl rfl) h3
  clear hA0 hval0 hval hA hsz
  have k0 := h0
  have lt0 : ∀ x ∈ p0, x.block < W.heap.size := by obtain ⟨m, hm⟩ := k0; exact DataW.trod_lt m _ _ _ hm
  have k1 := h1
  have lt1 : ∀ x ∈ p1, x.block < W.heap.size := by obtain ⟨m, hm⟩ := k1; exact DataW.trod_lt m _ _ _ hm
  have k2 := h2
  have lt2 : ∀ x ∈ p2, x.block < W.heap.size := by obtain ⟨m, hm⟩ := k2; exact DataW.trod_lt m _ _ _ hm
  refine (wins_law x0_ va0 vw0 vm0 ve0 p1_ s1_ u1_ t1_ sl1_ l1_ p2_ s2_ u2_ t2_ sl2_ l2_ a3 W hu1_ hu2_ ho1_.has ho2_.has hf0 lk0).mono fun e W' ⟨he, bel⟩ => ?_
  subst he
  exact ⟨_, rfl, _, _, _, [], _, [], hW', trodAll_mk1 (shut_bool Try.underlying4 _), (trodAll_cons_mk (Below.trod orsetWins_laidOut (by kernel_rfl) (of_decide_eq_true (by kernel_rfl)) k0 bel lt0) (trodAll_cons_mk (Below.trod orsetWins_laidOut (by kernel_rfl) (of_decide_eq_true (by kernel_rfl)) k1 bel lt1) (trodAll_cons_mk (Below.trod orsetWins_laidOut (by kernel_rfl) (of_decide_eq_true (by kernel_rfl)) k2 bel lt2) (trodAll_cons_mk (shut_string Try.underlying9 w3) trodAll_mk0)))), rfl, bel.frame _, fun h => by cases h⟩

theorem orsetWins_holds : Rows.OrsetWinsSaid :=
  OpenClaim.holds_of_wide 5 Try.f5 rfl rfl rfl rfl rfl rfl rfl ⟨rfl, rfl, rfl, rfl, rfl⟩ rfl rfl rfl rfl rfl (by kernel_rfl) Try.func5 (by kernel_rfl)
    (of_decide_eq_true (by kernel_rfl)) (by unfold Func.isWrapper; first | (rw [if_pos (by decide +kernel)]; kernel_rfl) | (rw [if_neg (by decide +kernel)]; exact ⟨rfl, rfl⟩))
    (fun os started H enc _ => orsetWins_lifted os started H enc)

#print axioms orsetWins_holds
end Go.Proofs.Ythekfmodafmlgaa
