/- SeqGoes is proved of every cell, a transaction and a place: the call returns true, and the arguments read afterwards as they read before; no condition. -/
import Derived.Test.YtfjpbmdmkcihcaaP11
import Derived.Test.YtfjpbmdmkcihcaaQ1
import Derived.Test.YtfjpbmdmkcihcaaP8
import Derived.Test.YtfjpbmdmkcihcaaP13
import Derived.Test.YtfjpbmdmkcihcaaP14
import Derived.ChangeOld
import Derived.SizedLaws
/- What SeqGoes says, of every cell, a transaction and a place. -/
namespace Go.Proofs.Ytfjpbmdmkcihcaa
open Go.RowKit
open Go.Sort

set_option maxHeartbeats 16000000 in
set_option maxRecDepth 100000 in
theorem goes_law (x : X) (va vw vm ve : Value) (tp ts : Int) (tv : List Int) (tt : Int) (tl : Value) (n : Int) (w : World) (hv : tv.length = 13) (h : Four w x va vw vm ve) (hl : Lk x) : Calls Try.prog 6 #[CV x.k x.b va vw vm ve, TxV tp ts tv tt tl, .int .i64 n] w (Tells (.bool true) w) := by
  obtain ⟨i0, hi, hz0, hz1, hz2⟩ := info_parts info39
  obtain ⟨pa, ca', pw, cw, pm, cm, pe, ce, rfl, rfl, rfl, rfl⟩ := h.slices
  obtain ⟨R0, R1, hbel⟩ := two_rows w (cvc x.k x.b (.slice pa x.am.length ca') (.slice pw x.wr.length cw) (.slice pm x.mb.length cm) (.slice pe x.el.length ce)) 27 (txc tp ts tv tt tl).toArray 34
  replace h := h.later hbel
  generalize hW : (w.alloc (.cells (cvc x.k x.b (.slice pa x.am.length ca') (.slice pw x.wr.length cw) (.slice pm x.mb.length cm) (.slice pe x.el.length ce)) 27)).alloc (.cells (txc tp ts tv tt tl).toArray 34) = w0 at R0 R1 hbel h
  have zt := size_tx (p := tp) (s := ts) (t := tt) (sl := tl) hv
  have zd1 : (Try.prog.info? 29).map (·.size) = some [Value.int .i64 tp, .int .i64 ts].length := size29
  go_enter Try.func6, Try.ntmps6
  go_wp2_with (first | rw [hW] | refine load_r 27 _ rfl rfl _ rfl R0 Try.underlying27 rfl size27 ?_)
  clear hW
  refine (few_any x _ _ _ _ w0 h hl).mono ?_
  rintro e w1 ⟨bf1, rfl, hfw, hb1⟩
  have HFW : Hid (bf1 = true → Fw x) := hfw
  replace R0 := R0.later hb1
  replace R1 := R1.later hb1
  replace h := h.later hb1
  replace hbel := below_on hbel hb1
  clear hb1 hfw hl
  cases bf1
  case' false =>
    clear HFW
    go_wp2_with fail
    refine (heads_any _).mono ?_
    rintro e w9 ⟨rfl, hb9⟩
    go_wp2_with fail
    go_ret
    exact ⟨rfl, below_on hbel hb9⟩
  case' true =>
    have hz := (HFW.out rfl).sz
    have hs := hz.sm (by decide) (by decide)
    clear HFW
    go_wp2_with (first | refine load_r 27 _ rfl rfl _ rfl R0 Try.underlying27 rfl size27 ?_)
    refine (refCheck_any x _ _ _ _ w1 h hs).mono ?_
    rintro e w2 ⟨rfl, hb1⟩
    replace R0 := R0.later hb1
    replace R1 := R1.later hb1
    replace h := h.later hb1
    replace hbel := below_on hbel hb1
    clear hb1
    obtain ⟨y1, HY1⟩ := hid_ex (ck x)
    rw [HY1.out]
    cases y1
    case' false =>
      go_wp2_with fail
      refine (heads_any _).mono ?_
      rintro e w9 ⟨rfl, hb9⟩
      go_wp2_with fail
      go_ret
      exact ⟨rfl, below_on hbel hb9⟩
    case' true =>
      obtain ⟨z0, HZ0⟩ := hid_ex (decide (tp = 0) && decide (ts = 0))
      have E0 := fun w => eq_dot w tp ts 0 0
      rw [HZ0.out] at E0
      cases z0
      case' true =>
        go_wp2_with (first | refine load_m 29 _ rfl rfl _ _ rfl (tx_dot R1) Try.underlying29 rfl zd1 ?_)
        refine (heads_any _).mono ?_
        rintro e w9 ⟨rfl, hb9⟩
        go_wp2_with fail
        go_ret
        exact ⟨rfl, below_on hbel hb9⟩
      case' false =>
        go_wp2_with (first | refine load_m 29 _ rfl rfl _ _ rfl (tx_dot R1) Try.underlying29 rfl zd1 ?_ | refine load_r 27 _ rfl rfl _ rfl R0 Try.underlying27 rfl size27 ?_)
        clear E0 HZ0
        have C1 := order_any x _ _ _ _ w2 h hs
        unfold OrPost at C1
        obtain ⟨lo, HO⟩ := hid_ex (orX x)
        rw [HO.out] at C1
        have hlo : lo.length ≤ 100 := by
          rw [← HO.out]
          unfold orX
          rw [if_pos HY1.out, List.length_map]
          exact Nat.le_trans (prE_len (ck_parts HY1.out).2.2.2.2.2.2) hs.e
        refine C1.mono ?_
        clear C1
        rintro e w3 ⟨u, rfl, hown, hb1⟩
        replace R0 := R0.later hb1
        replace R1 := R1.later hb1
        replace h := h.later hb1
        replace hbel := below_on hbel hb1
        have HB2 : Hid (w2.heap.size ≤ w3.heap.size) := hb1.size
        clear hb1
        obtain ⟨po, co, rfl⟩ := own_sl hown
        by_cases hn : n < 0
        case' pos =>
          have hn' : decide (n < 0) = true := decide_eq_true hn
          go_wp2_with fail
          refine (heads_any _).mono ?_
          rintro e w9 ⟨rfl, hb9⟩
          go_wp2_with fail
          go_ret
          exact ⟨rfl, below_on hbel hb9⟩
        case' neg =>
          have hn' : decide (n < 0) = false := decide_eq_false hn
          by_cases hg : (lo.length : Int) ≤ n
          case' pos =>
            have hg' : decide ((lo.length : Int) ≤ n) = true := decide_eq_true hg
            go_wp2_with fail
            refine (heads_any _).mono ?_
            rintro e w9 ⟨rfl, hb9⟩
            go_wp2_with fail
            go_ret
            exact ⟨rfl, below_on hbel hb9⟩
          case' neg =>
            have hg' : decide ((lo.length : Int) ≤ n) = false := decide_eq_false hg
            go_wp2_with fail
            obtain ⟨k, rfl⟩ : ∃ k : Nat, n = (k : Int) := ⟨n.toNat, by omega⟩
            have hk : k < lo.length := by omega
            clear hn hg hn' hg'
            have hm := own_sh hown
            obtain ⟨go, oo, e1, hr⟩ := hm.at (by omega)
            subst e1
            have rk := M.elem hr k hk
            obtain ⟨r, HR⟩ := hid_ex lo[k]
            rw [HR.out] at rk
            have hk0 : (0 : Int) ≤ (k : Int) := by omega
            have hk' : (k : Int) < (lo.length : Int) := by omega
            have zm : (Try.prog.info? 39).map (·.size) = some r.cells.length := size39
            have zx : (Try.prog.info? 27).map (·.size) = some ([Value.int .i64 x.k, .int .i64 x.b, .slice pa x.am.length ca', .slice pw x.wr.length cw, .slice pm x.mb.length cm, .slice pe x.el.length ce] : List Value).length := size27
            have ztx : (Try.prog.info? 34).map (·.size) = some (txc tp ts tv tt tl).length := by rw [txc_length hv]; exact size34
            obtain ⟨x1, H1⟩ := hid_ex (goX x ⟨tp, ts, 1⟩ (fun y => decide (kM y = kM r)))
            have s1 : Sm x1 := by rw [← H1.out]; exact (sz_go hz _ _).sm (by decide) (by decide)
            have HK : Hid (ck x1 = true) := by
              show _ = _
              rw [← H1.out]
              exact ck_go HY1.out (show im (1 : Int) = true by decide)
            have HL : Hid (x1.el.length = x.el.length) := by
              show _ = _
              rw [← H1.out]
              exact el_go_len _ _ _
            have HE : Hid (orX x1 = lo.take k ++ lo.drop (k + 1)) := by
              show _ = _
              have := goes_eq (m := ⟨tp, ts, 1⟩) HY1.out (show im (1 : Int) = true by decide) k (by rw [HO.out]; exact hk)
              simp only [HO.out, HR.out] at this
              rw [H1.out] at this
              exact this
            clear HO HR hz
            have hf := h
            clear h hm
            go_wp2_with fail
            have hS : Calm.Stays (fun w' => Below w3.heap.size w3 w') := fun wa wb h hb => below_on h hb
            have hF : Facts.Stay [pF 0 (eqP (.agg ([Value.int .i64 x.k, .int .i64 x.b, .slice pa x.am.length ca', .slice pw x.wr.length cw, .slice pm x.mb.length cm, .slice pe x.el.length ce] : List Value).toArray)), pF 1 (eqP (.agg (txc tp ts tv tt tl).toArray)), pF 2 (eqP (.slice (some ⟨go, oo, none⟩) lo.length co)), pF 3 (eqP (.int .i64 k)), pF 4 (eqP (.pointer (some ⟨go, oo + k * 3, none⟩))), pF 5 (eqP (.agg r.cells.toArray)), pF 6 (cP x1), pF 7 (boxP w3.heap.size 27 (cvc 0 0 (.slice none 0 0) (.slice none 0 0) (.slice none 0 0) (.slice none 0 0)))] := stay_of (by simp only [List.forall_mem_cons]; exact ⟨⟨_, _, rfl, eqP_keeps _⟩, ⟨_, _, rfl, eqP_keeps _⟩, ⟨_, _, rfl, eqP_keeps _⟩, ⟨_, _, rfl, eqP_keeps _⟩, ⟨_, _, rfl, eqP_keeps _⟩, ⟨_, _, rfl, eqP_keeps _⟩, ⟨_, _, rfl, cP_keeps _⟩, ⟨_, _, rfl, boxP_keeps _ _ _⟩, fun _ h => by cases h⟩)
            refine Facts.regionTail (by kernel_rfl) (by kernel_rfl) 8 (by decide) (by kernel_rfl) (fun w' => Below w3.heap.size w3 w') (fun xv => { tmps := #[CV x.k x.b (Value.slice pa x.am.length ca') (Value.slice pw x.wr.length cw) (Value.slice pm x.mb.length cm) (Value.slice pe x.el.length ce), TxV tp ts tv tt tl, Value.int IntKind.i64 ↑k, Value.pointer (some { block := w.heap.size, off := 0 }), Value.pointer (some { block := w.heap.size + 1, off := 0 }), undef, Value.bool false, Value.slice (some { block := go, off := oo }) lo.length co, xv 7, undef, Value.agg (cvc x.k x.b (Value.slice pa x.am.length ca') (Value.slice pw x.wr.length cw) (Value.slice pm x.mb.length cm) (Value.slice pe x.el.length ce)), Value.bool true, Value.bool false, Value.bool false, Value.agg (cvc x.k x.b (Value.slice pa x.am.length ca') (Value.slice pw x.wr.length cw) (Value.slice pm x.mb.length cm) (Value.slice pe x.el.length ce)), Value.bool true, Value.bool false, Value.bool false, Value.bool false, Value.pointer (some { block := w.heap.size + 1, off := 0 }), Value.agg #[Value.int IntKind.i64 tp, Value.int IntKind.i64 ts], Value.agg #[Value.int IntKind.i64 0, Value.int IntKind.i64 0], Value.bool false, Value.bool false, undef, Value.agg (cvc x.k x.b (Value.slice pa x.am.length ca') (Value.slice pw x.wr.length cw) (Value.slice pm x.mb.length cm) (Value.slice pe x.el.length ce)), Value.slice (some { block := go, off := oo }) lo.length co, Value.int IntKind.i64 ↑k, Value.bool false, Value.bool false, Value.int IntKind.i64 ↑k, Value.slice (some { block := go, off := oo }) lo.length co, Value.int IntKind.i64 ↑lo.length, Value.bool false, Value.bool false, undef, xv 0, xv 1, xv 2, xv 3, xv 4, xv 5, xv 6, undef, undef, undef, undef, undef, undef, undef, undef, undef, undef, undef, undef, undef, undef, undef, undef, undef, undef, undef, undef, undef, undef, undef, undef, undef, undef, undef, undef, undef, undef], defers := [] }) [pF 0 (eqP (.agg ([Value.int .i64 x.k, .int .i64 x.b, .slice pa x.am.length ca', .slice pw x.wr.length cw, .slice pm x.mb.length cm, .slice pe x.el.length ce] : List Value).toArray)), pF 1 (eqP (.agg (txc tp ts tv tt tl).toArray)), pF 2 (eqP (.slice (some ⟨go, oo, none⟩) lo.length co)), pF 3 (eqP (.int .i64 k)), pF 4 (eqP (.pointer (some ⟨go, oo + k * 3, none⟩))), pF 5 (eqP (.agg r.cells.toArray)), pF 6 (cP x1), pF 7 (boxP w3.heap.size 27 (cvc 0 0 (.slice none 0 0) (.slice none 0 0) (.slice none 0 0) (.slice none 0 0)))] _ rfl rfl (by kernel_rfl) (fun j => [undef, undef, undef, undef, undef, undef, undef, undef].getD j undef) rfl (Below.refl _ w3).drew ⟨?_, ?_, ?_, ?_, ?_, ?_, ?_, ?_, ?_, trivial⟩ ?_
            · exact fun _ => Facts.loadP hS hF (fun _ _ => rfl) 27 Try.underlying27 rfl zx _ rfl rfl (fun xv wv hSw hd => by rfl) (fun wv hSw => Rw.whole (cs := [Value.int .i64 x.k, .int .i64 x.b, .slice pa x.am.length ca', .slice pw x.wr.length cw, .slice pm x.mb.length cm, .slice pe x.el.length ce]) (R0.later hSw))
            · exact fun _ => Facts.loadP hS hF (fun _ _ => rfl) 34 Try.underlying34 rfl ztx _ rfl rfl (fun xv wv hSw hd => by rfl) (fun wv hSw => Rw.whole (cs := (txc tp ts tv tt tl)) (R1.later hSw))
            · exact fun _ => Facts.pureP hS hF (fun _ _ => rfl) rfl (fun xv wv hSw hd => by
                go_simp)
            · exact fun _ => Facts.pureP hS hF (fun _ _ => rfl) rfl (fun xv wv hSw hd => by
                go_simp)
            · exact fun _ => Facts.pureP hS hF (fun _ _ => rfl) rfl (fun xv wv hSw hd => by
                have d2 : xv 2 = _ := pF_get (hd ⟨2, .data⟩ (by simp) rfl _ rfl)
                have d3 : xv 3 = _ := pF_get (hd ⟨3, .data⟩ (by simp) rfl _ rfl)
                simp only [d2, d3]
                go_simp)
            · exact fun _ => Facts.loadP hS hF (fun _ _ => rfl) 39 Try.underlying39 rfl zm _ rfl rfl (fun xv wv hSw hd => by have d4 : xv 4 = _ := pF_get (hd ⟨4, .data⟩ (by simp) rfl _ rfl); exact d4) (fun wv hSw => range_later rk hSw)
            · refine fun _ => Facts.call4P hS hF (fun _ _ => rfl) rfl (by kernel_rfl) rfl (fun xv wv hSw hd => ?_)
              have d0 : xv 0 = _ := pF_get (hd ⟨0, .data⟩ (by simp) rfl _ rfl)
              have d1 : xv 1 = _ := pF_get (hd ⟨1, .data⟩ (by simp) rfl _ rfl)
              have d5 : xv 5 = _ := pF_get (hd ⟨5, .data⟩ (by simp) rfl _ rfl)
              show Calls Try.prog 12 #[xv 0, xv 1, .int .i64 1, xv 5] wv _
              rw [d0, d1, d5]
              have hc := del_any x _ _ _ _ tp ts tv tt tl 1 r wv hv (hf.later hSw) hs
              rw [H1.out] at hc
              exact hc.mono fun e w' h => gives_p h
            · exact fun _ => Facts.allocP hS hF (fun _ _ => rfl) 27 rfl (fun wv hSw => hSw.size) (fun _ _ => rfl)
            · exact fun h => absurd h (by decide)
            intro xq w4 hb5 hff
            obtain ⟨ua, uw, um, ue, e6, FD⟩ := pF_get (hff 6 _ rfl)
            obtain ⟨q, eqq, hNq, hq⟩ := pF_get (hff 7 _ rfl)
            clear hff hS hF
            obtain ⟨qa, da, qw, dw, qm, dx, qe, de, rfl, rfl, rfl, rfl⟩ := FD.slices
            replace e6 : xq 6 = .agg (cvc x1.k x1.b (.slice qa x1.am.length da) (.slice qw x1.wr.length dw) (.slice qm x1.mb.length dx) (.slice qe x1.el.length de)) := e6
            refine tail_store 27 _ _ rfl q 0 eqq e6 (hq.store (cvc x1.k x1.b (.slice qa x1.am.length da) (.slice qw x1.wr.length dw) (.slice qm x1.mb.length dx) (.slice qe x1.el.length de)) size27 rfl (by simp [Value.oneCell'])) ?_
            refine Facts.tailWp_nil ?_
            simp only [eqq]
            have hb6 := below_setRow hb5 (g := q) hNq (cvc x1.k x1.b (.slice qa x1.am.length da) (.slice qw x1.wr.length dw) (.slice qm x1.mb.length dx) (.slice qe x1.el.length de))
            replace R0 := R0.later hb6
            replace hown := own_later hown hb6
            replace hbel := below_on hbel hb6
            replace FD := FD.row hq (cvc x1.k x1.b (.slice qa x1.am.length da) (.slice qw x1.wr.length dw) (.slice qm x1.mb.length dx) (.slice qe x1.el.length de))
            have RD := hq.row (cvc x1.k x1.b (.slice qa x1.am.length da) (.slice qw x1.wr.length dw) (.slice qm x1.mb.length dx) (.slice qe x1.el.length de))
            clear hb5 hb6 hq eqq e6 hNq rk hf R1 H1 zt zd1 ztx hr hs HB2
            generalize w4.setRow q (cvc x1.k x1.b (.slice qa x1.am.length da) (.slice qw x1.wr.length dw) (.slice qm x1.mb.length dx) (.slice qe x1.el.length de)) = w5 at R0 RD hown hbel FD ⊢
            have hm := own_sh hown
            go_wp2_with fail
            obtain ⟨g', o', e', hr⟩ := hm.at (by omega)
            simp only [Option.some.injEq, Addr.mk.injEq, and_true] at e'
            obtain ⟨rfl, rfl⟩ := e'
            have hkc := hm.cap
            have hc1 : k ≤ co := by omega
            have hc3 : k + 1 ≤ lo.length := by omega
            have hc4 : k + 1 ≤ co := by omega
            have ht : ∀ w' : World, w'.rangeAt go oo (rows M.cells lo) → ∀ j u, (rows M.cells (lo.take k))[j]? = some u → w'.cell? ((⟨go, oo, none⟩ : Addr).add j) = some u := fun w' h j u hu => by
              rw [rows_take M.len, List.getElem?_take] at hu
              split at hu
              · rw [Addr.add_mid]
                exact h j u hu
              · cases hu
            obtain ⟨ad2, HA2, hd⟩ : ∃ ad2 : Addr, Hid ((co = k + 1 ∧ ad2 = ⟨go, oo, none⟩) ∨ (co ≠ k + 1 ∧ ad2 = ⟨go, oo + (k + 1) * 3, none⟩)) ∧ ∀ w' : World, w'.rangeAt go oo (rows M.cells lo) → ∀ j u, (rows M.cells (lo.drop (k + 1)))[j]? = some u → w'.cell? (ad2.add j) = some u := by
              by_cases hco : co = k + 1
              · refine ⟨_, Or.inl ⟨hco, rfl⟩, fun w' h j u hu => ?_⟩
                rw [List.drop_of_length_le (by omega)] at hu
                simp [rows] at hu
              · refine ⟨_, Or.inr ⟨hco, rfl⟩, fun w' h j u hu => ?_⟩
                rw [rows_drop M.len, List.getElem?_drop] at hu
                have := h _ u hu
                rw [← Nat.add_assoc] at this
                rw [Addr.add_mid]
                exact this
            have hlt : (lo.take k).length = k := by rw [List.length_take]; omega
            have hld : (lo.drop (k + 1)).length = lo.length - (k + 1) := List.length_drop
            have hw1 : IntKind.i64.wrap ((k : Int) + 1) = (k : Int) + 1 := by rw [IntKind.wrap_i64]; omega
            have hi1 : (0 : Int) ≤ (k : Int) + 1 := by omega
            have hi2 : (k : Int) + 1 ≤ (lo.length : Int) := by omega
            simp only [Act.put]
            have hS : Calm.Stays (fun w' => Below w5.heap.size w5 w') := fun wa wb h hb => below_on h hb
            have hF : Facts.Stay [pF 0 ((fun (v : Value) (w' : World) => ∃ g, v = .slice (some ⟨g, 0, none⟩) 0 0 ∧ w'.ownsRow w5.heap.size 39 3 v 0 [])), pF 1 (eqP (.slice (some ⟨go, oo, none⟩) lo.length co)), pF 2 (eqP (.int .i64 k)), pF 3 (eqP (.slice (some ⟨go, oo, none⟩) k co)), pF 4 (ownP w5.heap.size 39 3 k (rows M.cells (lo.take k))), pF 5 (eqP (.slice (some ⟨go, oo, none⟩) lo.length co)), pF 6 (eqP (.int .i64 k)), pF 7 (eqP (.int .i64 ((k : Int) + 1))), pF 8 (eqP (.slice (some ad2) (lo.length - (k + 1)) (co - (k + 1))))] := stay_of (by simp only [List.forall_mem_cons]; exact ⟨⟨_, _, rfl, (fun _ _ _ ⟨g, e, h⟩ hb => ⟨g, e, own_later h hb⟩)⟩, ⟨_, _, rfl, eqP_keeps _⟩, ⟨_, _, rfl, eqP_keeps _⟩, ⟨_, _, rfl, eqP_keeps _⟩, ⟨_, _, rfl, ownP_keeps _ _ _ _ _⟩, ⟨_, _, rfl, eqP_keeps _⟩, ⟨_, _, rfl, eqP_keeps _⟩, ⟨_, _, rfl, eqP_keeps _⟩, ⟨_, _, rfl, eqP_keeps _⟩, fun _ h => by cases h⟩)
            refine Facts.regionTail (by kernel_rfl) (by kernel_rfl) 9 (by decide) (by kernel_rfl) (fun w' => Below w5.heap.size w5 w') (fun xv => { tmps := #[CV x.k x.b (Value.slice pa x.am.length ca') (Value.slice pw x.wr.length cw) (Value.slice pm x.mb.length cm) (Value.slice pe x.el.length ce), TxV tp ts tv tt tl, Value.int IntKind.i64 ↑k, Value.pointer (some { block := w.heap.size, off := 0 }), Value.pointer (some { block := w.heap.size + 1, off := 0 }), undef, Value.bool false, Value.slice (some { block := go, off := oo }) lo.length co, Value.pointer (some { block := q, off := 0 }), undef, Value.agg (cvc x.k x.b (Value.slice pa x.am.length ca') (Value.slice pw x.wr.length cw) (Value.slice pm x.mb.length cm) (Value.slice pe x.el.length ce)), Value.bool true, Value.bool false, Value.bool false, Value.agg (cvc x.k x.b (Value.slice pa x.am.length ca') (Value.slice pw x.wr.length cw) (Value.slice pm x.mb.length cm) (Value.slice pe x.el.length ce)), Value.bool true, Value.bool false, Value.bool false, Value.bool false, Value.pointer (some { block := w.heap.size + 1, off := 0 }), Value.agg #[Value.int IntKind.i64 tp, Value.int IntKind.i64 ts], Value.agg #[Value.int IntKind.i64 0, Value.int IntKind.i64 0], Value.bool false, Value.bool false, undef, Value.agg (cvc x.k x.b (Value.slice pa x.am.length ca') (Value.slice pw x.wr.length cw) (Value.slice pm x.mb.length cm) (Value.slice pe x.el.length ce)), Value.slice (some { block := go, off := oo }) lo.length co, Value.int IntKind.i64 ↑k, Value.bool false, Value.bool false, Value.int IntKind.i64 ↑k, Value.slice (some { block := go, off := oo }) lo.length co, Value.int IntKind.i64 ↑lo.length, Value.bool false, Value.bool false, undef, xq 0, xq 1, xq 2, xq 3, xq 4, xq 5, xq 6, xv 0, xv 1, xv 2, xv 3, xv 4, xv 5, xv 6, xv 7, xv 8, undef, undef, undef, undef, undef, undef, undef, undef, undef, undef, undef, undef, undef, undef, undef, undef, undef, undef, undef, undef, undef], defers := [] }) [pF 0 ((fun (v : Value) (w' : World) => ∃ g, v = .slice (some ⟨g, 0, none⟩) 0 0 ∧ w'.ownsRow w5.heap.size 39 3 v 0 [])), pF 1 (eqP (.slice (some ⟨go, oo, none⟩) lo.length co)), pF 2 (eqP (.int .i64 k)), pF 3 (eqP (.slice (some ⟨go, oo, none⟩) k co)), pF 4 (ownP w5.heap.size 39 3 k (rows M.cells (lo.take k))), pF 5 (eqP (.slice (some ⟨go, oo, none⟩) lo.length co)), pF 6 (eqP (.int .i64 k)), pF 7 (eqP (.int .i64 ((k : Int) + 1))), pF 8 (eqP (.slice (some ad2) (lo.length - (k + 1)) (co - (k + 1))))] _ rfl rfl (by kernel_rfl) (fun j => [undef, undef, undef, undef, undef, undef, undef, undef, undef].getD j undef) rfl (Below.refl _ w5).drew ⟨?_, ?_, ?_, ?_, ?_, ?_, ?_, ?_, ?_, ?_, ?_, trivial⟩ ?_
            · exact fun _ => Facts.makeD hS hF (fun _ _ => rfl) rfl (fun xv wv hSw hd => ⟨_, _, by go_simp, bel_alloc (Below.refl _ _) _, wv.heap.size, rfl, by simp, .inr ⟨wv.heap.size, 0, #[], rfl, hSw.size, rw_new wv 39 #[], Nat.le_refl _, Nat.zero_le _, rfl, rfl⟩⟩)
            · exact fun _ => Facts.pureP hS hF (fun _ _ => rfl) rfl (fun xv wv hSw hd => by
                go_simp)
            · exact fun _ => Facts.pureP hS hF (fun _ _ => rfl) rfl (fun xv wv hSw hd => by
                go_simp)
            · exact fun _ => Facts.pureP hS hF (fun _ _ => rfl) rfl (fun xv wv hSw hd => by
                have d1 : xv 1 = _ := pF_get (hd ⟨1, .data⟩ (by simp) rfl _ rfl)
                have d2 : xv 2 = _ := pF_get (hd ⟨2, .data⟩ (by simp) rfl _ rfl)
                simp only [d1, d2]
                go_simp)
            · exact fun _ => Facts.appendD hS hF (fun _ _ => rfl) _ _ 41 rfl rfl (fun xv wv hSw hd => by
                obtain ⟨g, e0, o0⟩ := pF_get (hd ⟨0, .data⟩ (by simp) rfl _ rfl)
                have d3 : xv 3 = _ := pF_get (hd ⟨3, .data⟩ (by simp) rfl _ rfl)
                show ∃ v w', (Builtin.append_ #[41, 41] _ #[xv 0, xv 3]).run Try.prog wv = .ok v w' ∧ _
                rw [e0] at o0
                rw [e0, d3]
                exact append_empty Try.underlying41 hi hz0 hz1 hz2 rfl (by decide) o0 hSw.size ⟨go, oo, none⟩ k co (rows M.cells (lo.take k)) (by rw [rows_length M.len, hlt]) (ht wv (range_later hr hSw)) (by unfold maxLen; omega) (by omega))
            · exact fun _ => Facts.pureP hS hF (fun _ _ => rfl) rfl (fun xv wv hSw hd => by
                go_simp)
            · exact fun _ => Facts.pureP hS hF (fun _ _ => rfl) rfl (fun xv wv hSw hd => by
                go_simp)
            · exact fun _ => Facts.pureP hS hF (fun _ _ => rfl) rfl (fun xv wv hSw hd => by
                have d6 : xv 6 = _ := pF_get (hd ⟨6, .data⟩ (by simp) rfl _ rfl)
                simp only [d6]
                go_simp)
            · exact fun _ => Facts.pureP hS hF (fun _ _ => rfl) rfl (fun xv wv hSw hd => by
                have d5 : xv 5 = _ := pF_get (hd ⟨5, .data⟩ (by simp) rfl _ rfl)
                have d7 : xv 7 = _ := pF_get (hd ⟨7, .data⟩ (by simp) rfl _ rfl)
                simp only [d5, d7]
                rcases HA2.out with ⟨hco, rfl⟩ | ⟨hco, rfl⟩ <;> go_simp)
            · exact fun h => absurd h (by decide)
            · exact fun h => absurd h (by decide)
            intro xr w6 hb5 hff
            have o4 := pF_get (hff 4 _ rfl)
            have e8 : xr 8 = _ := pF_get (hff 8 _ rfl)
            clear hff hS hF
            refine tail_append _ _ 41 rfl w5.heap.size 39 i0 (MV 0 0 0) 3 24 Try.underlying41 hi hz0 hz1 hz2 rfl (by decide) _ k _ rfl o4 ad2 (lo.length - (k + 1)) (co - (k + 1)) (rows M.cells (lo.drop (k + 1))) e8 (by rw [rows_length M.len, hld]) (hd w6 (range_later hr hb5)) (rows_all M.one _) (by unfold maxLen; omega) (by omega) hb5.size ?_
            intro v1 w7 o7 hg7
            refine tail_pure (v := v1) rfl ?_
            refine Facts.tailWp_nil ?_
            simp only [Act.put, List.setIfInBounds_toArray, List.set_cons_zero, List.set_cons_succ]
            have hb7 := hb5.grown hg7 hb5.size (fun q' hq => (World.ownsRow.lt o4 q' hq).1)
            replace R0 := R0.later hb7
            replace RD := RD.later hb7
            replace FD := FD.later hb7
            replace hbel := below_on hbel hb7
            obtain ⟨L, HLL⟩ := hid_ex (lo.take k ++ lo.drop (k + 1))
            have hW1 : MHas w7 v1 L := by
              rw [← HLL.out]
              show SHas 3 w7 v1 (lo.take k ++ lo.drop (k + 1)).length (rows M.cells (lo.take k ++ lo.drop (k + 1)))
              rw [rows_append, List.length_append, hlt, hld]
              exact own_sh o7
            clear hb5 hb7 hg7 o7 o4 e8 ht hd hr HA2 hm hown hld hlt hkc hc1 hc3 hc4 hk hk0 hk' zm
            have C1 := fun w' (hb : Below w7.heap.size w7 w') => order_any x1 _ _ _ _ w' (FD.later hb) s1
            unfold OrPost at C1
            rw [HE.out, HLL.out] at C1
            have C2 := fun w' (hb : Below w7.heap.size w7 w') => check_any x1 _ _ _ _ w' (FD.later hb) s1
            rw [HK.out] at C2
            go_wp2_with (first | refine load_r 27 _ rfl rfl _ rfl RD Try.underlying27 rfl size27 ?_)
            refine (C1 w7 (Below.refl _ _)).mono ?_
            rintro e w8 ⟨u, rfl, o8, hb8⟩
            replace R0 := R0.later hb8
            replace RD := RD.later hb8
            replace hbel := below_on hbel hb8
            have hW2 := hW1.later hb8
            clear C1
            go_wp2_with fail
            refine (marks_any u v1 L w8 (own_sh o8) hW2).mono ?_
            rintro e w9 ⟨rfl, hb9⟩
            have hb10 := below_on hb8 hb9
            replace R0 := R0.later hb9
            replace RD := RD.later hb9
            replace hbel := below_on hbel hb9
            clear hb8 hb9 hW2 o8 hW1
            go_wp2_with (first | refine load_r 27 _ rfl rfl _ rfl RD Try.underlying27 rfl size27 ?_)
            refine (C2 w9 hb10).mono ?_
            rintro e w11 ⟨rfl, hb8⟩
            replace R0 := R0.later hb8
            replace RD := RD.later hb8
            replace hbel := below_on hbel hb8
            clear C2 hb10 hb8
            have c1 : w11.cell? ⟨w.heap.size, 5, none⟩ = some (.slice pe x.el.length ce) := R0.cell 5
            have c2 : w11.cell? ⟨q, 5, none⟩ = some (.slice qe x1.el.length de) := RD.cell 5
            have hle : ((x1.el.length : Int) == (x.el.length : Int)) = true := by rw [HL.out]; simp
            go_wp2_with fail
            refine (heads_any _).mono ?_
            rintro e w12 ⟨rfl, hb9⟩
            go_wp2_with fail
            go_ret
            exact ⟨rfl, below_on hbel hb9⟩
end Go.Proofs.Ytfjpbmdmkcihcaa
namespace Go.Proofs.Ytfjpbmdmkcihcaa
open Go.ChangeShapes Go.WideShapes Go.ChangeAt Go.RowKit

theorem seqGoes_own : ownKnob Try.prog.godebug = none := by kernel_rfl
theorem seqGoes_laidOut : laidOutB Try.prog = true := by kernel_rfl

set_option maxRecDepth 100000 in
theorem seqGoes_lifted (os : Os) (started : os.Started) (H : Type) (enc : TypeId × Value → H) :
    ReturnsInHanded {} Try.checked os 6 .any (Rows.seqGoesSpec.pre6 enc Try.prog Try.f6 Rows.seqGoesRow.domain false) (Rows.seqGoesSpec.post enc Try.prog Try.f6 false true false false) := by
  refine returnsInHanded_of_change_sized (C := Try.checked) seqGoes_own started (by kernel_rfl) Try.func6
    (ChangeSpec.witness6 (enc := enc) (C := Try.checked) false ⟨#[], #[.agg #[.int .i64 0, .int .i64 0, .slice none 0 0, .slice none 0 0, .slice none 0 0, .slice none 0 0], .agg #[.int .i64 0, .int .i64 0, .int .i64 0, .int .i64 0, .int .i64 0, .int .i64 0, .int .i64 0, .int .i64 0, .int .i64 0, .int .i64 0, .int .i64 0, .int .i64 0, .int .i64 0, .int .i64 0, .int .i64 0, .int .i64 0, .slice none 0 0], .int .i64 0], []⟩ 8 (by kernel_rfl) (by kernel_rfl) (by kernel_rfl) (by kernel_rfl)) ?_
  intro W base args ds gs before hval0 hW hcnd hsz0 _
  have hsz : (DataW.weightsEach Try.prog (Try.f6.params.toList ++ Rows.seqGoesSpec.plain.varTypes Try.prog) (ds ++ gs)).all (· ≤ reachBytes) = true := hsz0
  clear hsz0
  have hval : ∀ (j : Nat) t v, Try.f6.params[j]? = some t → args[j]? = some v → Value.okWide Try.prog W .any base t v := hval0
  have hW' := hW
  obtain ⟨p, q, hA0, hV, rfl, hfz, hnd⟩ := hW
  have hA : DataW.TrodAll enc Try.prog W 0 (fun _ => true) true Try.f6.params.toList args.toList ds p := hA0
  rw [Try.params6] at hA hval hsz
  obtain ⟨v0, vs0, d0, ds0, p0, q0, hargs, rfl, rfl, h0, r0⟩ := trodAll_cons hA
  obtain ⟨v1, vs1, d1, ds1, p1, q1, rfl, rfl, rfl, h1, r1⟩ := trodAll_cons r0
  obtain ⟨v2, vs2, d2, ds2, p2, q2, rfl, rfl, rfl, h2, r2⟩ := trodAll_cons r1
  obtain ⟨rfl, rfl, rfl⟩ := trodAll_nil r2
  obtain rfl : args = #[v0, v1, v2] := by cases args; simp_all
  obtain ⟨rfl, rfl⟩ := trodVars_none hV
  obtain ⟨x0_, va0, vw0, vm0, ve0, rfl, hf0, hk0⟩ := open_cell (hval 0 27 v0 rfl rfl) h0
  have lk0 : Lk x0_ := hk0 (by simp only [List.cons_append, DataW.weightsEach, List.all_append, Bool.and_eq_true] at hsz; exact hsz.1)
  clear hk0
  obtain ⟨p1_, s1_, u1_, t1_, sl1_, l1_, rfl, hu1_, ho1_⟩ := open_tx (hval 1 34 v1 rfl rfl) h1
  obtain ⟨a2, rfl, rfl, rfl, w2⟩ := open_int Try.underlying3 (hval 2 3 v2 rfl rfl) h2
  clear hA0 hval0 hval hA hsz
  have k0 := h0
  have lt0 : ∀ x ∈ p0, x.block < W.heap.size := by obtain ⟨m, hm⟩ := k0; exact DataW.trod_lt m _ _ _ hm
  have k1 := h1
  have lt1 : ∀ x ∈ p1, x.block < W.heap.size := by obtain ⟨m, hm⟩ := k1; exact DataW.trod_lt m _ _ _ hm
  have b2 := bounds_i64 w2
  refine (goes_law x0_ va0 vw0 vm0 ve0 p1_ s1_ u1_ t1_ sl1_ a2 W hu1_ hf0 lk0).mono fun e W' ⟨he, bel⟩ => ?_
  subst he
  exact ⟨_, rfl, _, _, _, [], _, [], hW', trodAll_mk1 (shut_bool Try.underlying4 _), (trodAll_cons_mk (Below.trod seqGoes_laidOut (by kernel_rfl) (of_decide_eq_true (by kernel_rfl)) k0 bel lt0) (trodAll_cons_mk (Below.trod seqGoes_laidOut (by kernel_rfl) (of_decide_eq_true (by kernel_rfl)) k1 bel lt1) (trodAll_cons_mk (shut_int Try.underlying3 w2) trodAll_mk0))), rfl, bel.frame _, fun h => by cases h⟩

theorem seqGoes_holds : Rows.SeqGoesSaid :=
  OpenClaim.holds_of_wide 6 Try.f6 rfl rfl rfl rfl rfl rfl rfl ⟨rfl, rfl, rfl, rfl, rfl⟩ rfl rfl rfl rfl rfl (by kernel_rfl) Try.func6 (by kernel_rfl)
    (of_decide_eq_true (by kernel_rfl)) (by unfold Func.isWrapper; first | (rw [if_pos (by decide +kernel)]; kernel_rfl) | (rw [if_neg (by decide +kernel)]; exact ⟨rfl, rfl⟩))
    (fun os started H enc _ => seqGoes_lifted os started H enc)

#print axioms seqGoes_holds
end Go.Proofs.Ytfjpbmdmkcihcaa
