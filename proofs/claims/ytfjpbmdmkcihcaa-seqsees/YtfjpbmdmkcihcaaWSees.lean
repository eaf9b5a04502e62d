/- SeqSees is proved of every cell, two transactions and a place: the call returns true, and the arguments read afterwards as they read before; no condition. -/
import Derived.Test.YtfjpbmdmkcihcaaP11
import Derived.Test.YtfjpbmdmkcihcaaP13
import Derived.Test.YtfjpbmdmkcihcaaP14
import Derived.ChangeOld
import Derived.SizedLaws
/- What SeqSees says, of every cell, two transactions and a place. -/
namespace Go.Proofs.Ytfjpbmdmkcihcaa
open Go.RowKit
open Go.Sort

set_option maxHeartbeats 16000000 in
set_option maxRecDepth 100000 in
theorem sees_law (x : X) (va vw vm ve : Value) (tp ts : Int) (tv : List Int) (tt : Int) (tl : Value) (lo : List O) (up us : Int) (uv : List Int) (ut : Int) (ul : Value) (lp : List O) (n : Int) (w : World) (hv : tv.length = 13) (hu : uv.length = 13) (ho : OHas w tl lo) (hp : OHas w ul lp) (h : Four w x va vw vm ve) (hl : Lk x) : Calls Try.prog 3 #[CV x.k x.b va vw vm ve, TxV tp ts tv tt tl, TxV up us uv ut ul, .int .i64 n] w (Tells (.bool true) w) := by
  obtain ⟨pa, ca', pw, cw, pm, cm, pe, ce, rfl, rfl, rfl, rfl⟩ := h.slices
  obtain ⟨R0, R1, R2, hbel⟩ := three_rows w (cvc x.k x.b (.slice pa x.am.length ca') (.slice pw x.wr.length cw) (.slice pm x.mb.length cm) (.slice pe x.el.length ce)) 27 (txc tp ts tv tt tl).toArray 34 (txc up us uv ut ul).toArray 34
  replace h := h.later hbel
  replace ho := ho.later hbel
  replace hp := hp.later hbel
  have hB : w.heap.size + 3 ≤ (((w.alloc (.cells (cvc x.k x.b (.slice pa x.am.length ca') (.slice pw x.wr.length cw) (.slice pm x.mb.length cm) (.slice pe x.el.length ce)) 27)).alloc (.cells (txc tp ts tv tt tl).toArray 34)).alloc (.cells (txc up us uv ut ul).toArray 34)).heap.size := by simp
  generalize hW : ((w.alloc (.cells (cvc x.k x.b (.slice pa x.am.length ca') (.slice pw x.wr.length cw) (.slice pm x.mb.length cm) (.slice pe x.el.length ce)) 27)).alloc (.cells (txc tp ts tv tt tl).toArray 34)).alloc (.cells (txc up us uv ut ul).toArray 34) = w0 at R0 R1 R2 hbel h ho hp hB
  have zt := size_tx (p := tp) (s := ts) (t := tt) (sl := tl) hv
  have zu := size_tx (p := up) (s := us) (t := ut) (sl := ul) hu
  have zd1 : (Try.prog.info? 29).map (·.size) = some [Value.int .i64 tp, .int .i64 ts].length := size29
  go_enter Try.func3, Try.ntmps3
  go_wp2_with (first | rw [hW] | refine load_r 27 _ rfl rfl _ rfl R0 Try.underlying27 rfl size27 ?_)
  clear hW
  refine (few_any x _ _ _ _ w0 h hl).mono ?_
  rintro e w1 ⟨bf1, rfl, hfw, hb1⟩
  have HFW : Hid (bf1 = true → Fw x) := hfw
  replace R0 := R0.later hb1
  replace R1 := R1.later hb1
  replace R2 := R2.later hb1
  replace h := h.later hb1
  replace ho := ho.later hb1
  replace hp := hp.later hb1
  replace hbel := below_on hbel hb1
  replace hB := Nat.le_trans hB hb1.size
  clear hb1 hfw hl
  cases bf1
  case' false =>
    clear HFW
    go_wp2_with fail
    refine (heads_any _).mono ?_
    rintro e w9 ⟨rfl, hb9⟩
    go_wp2_with fail
    go_ret
    exact ⟨rfl, below_on hbel hb9⟩
  case' true =>
    have hz := (HFW.out rfl).sz
    have hs := hz.sm (by decide) (by decide)
    clear HFW
    go_wp2_with (first | refine load_r 27 _ rfl rfl _ rfl R0 Try.underlying27 rfl size27 ?_)
    refine (refCheck_any x _ _ _ _ w1 h hs).mono ?_
    rintro e w2 ⟨rfl, hb1⟩
    replace R0 := R0.later hb1
    replace R1 := R1.later hb1
    replace R2 := R2.later hb1
    replace h := h.later hb1
    replace ho := ho.later hb1
    replace hp := hp.later hb1
    replace hbel := below_on hbel hb1
    replace hB := Nat.le_trans hB hb1.size
    clear hb1
    obtain ⟨y1, HY1⟩ := hid_ex (ck x)
    rw [HY1.out]
    cases y1
    case' false =>
      go_wp2_with fail
      refine (heads_any _).mono ?_
      rintro e w9 ⟨rfl, hb9⟩
      go_wp2_with fail
      go_ret
      exact ⟨rfl, below_on hbel hb9⟩
    case' true =>
      go_wp2_with (first | refine load_r 34 _ rfl rfl _ rfl R1 Try.underlying34 rfl zt ?_)
      refine (small_any tp ts tv tt tl lo w2 hv ho).mono ?_
      rintro e w3 ⟨b1, rfl, _, hb1⟩
      replace R0 := R0.later hb1
      replace R1 := R1.later hb1
      replace R2 := R2.later hb1
      replace h := h.later hb1
      replace hp := hp.later hb1
      replace hbel := below_on hbel hb1
      replace hB := Nat.le_trans hB hb1.size
      clear hb1 ho
      cases b1
      case' false =>
        go_wp2_with fail
        refine (heads_any _).mono ?_
        rintro e w9 ⟨rfl, hb9⟩
        go_wp2_with fail
        go_ret
        exact ⟨rfl, below_on hbel hb9⟩
      case' true =>
        go_wp2_with (first | refine load_r 34 _ rfl rfl _ rfl R2 Try.underlying34 rfl zu ?_)
        refine (small_any up us uv ut ul lp w3 hu hp).mono ?_
        rintro e w4 ⟨b2, rfl, _, hb1⟩
        replace R0 := R0.later hb1
        replace R1 := R1.later hb1
        replace R2 := R2.later hb1
        replace h := h.later hb1
        replace hbel := below_on hbel hb1
        replace hB := Nat.le_trans hB hb1.size
        clear hb1 hp
        have c5 : w4.cell? ⟨w.heap.size, 5, none⟩ = some (.slice pe x.el.length ce) := R0.cell 5
        cases b2
        case' false =>
          clear c5
          go_wp2_with fail
          refine (heads_any _).mono ?_
          rintro e w9 ⟨rfl, hb9⟩
          go_wp2_with fail
          go_ret
          exact ⟨rfl, below_on hbel hb9⟩
        case' true =>
          by_cases hn : n < 0
          case' pos =>
            have hn' : decide (n < 0) = true := decide_eq_true hn
            go_wp2_with fail
            refine (heads_any _).mono ?_
            rintro e w9 ⟨rfl, hb9⟩
            go_wp2_with fail
            go_ret
            exact ⟨rfl, below_on hbel hb9⟩
          case' neg =>
            have hn' : decide (n < 0) = false := decide_eq_false hn
            by_cases h0 : x.el.length = 0
            case' pos =>
              have h0' : ((x.el.length : Int) == 0) = true := by simpa using h0
              go_wp2_with fail
              refine (heads_any _).mono ?_
              rintro e w9 ⟨rfl, hb9⟩
              go_wp2_with fail
              go_ret
              exact ⟨rfl, below_on hbel hb9⟩
            case' neg =>
              have h0' : ((x.el.length : Int) == 0) = false := by simpa using h0
              have C1 := fun w => refBefore_any tp ts 1 up us uv ut ul 1 w hu
              obtain ⟨z1, HZ1⟩ := hid_ex (bf tp ts 1 up us uv 1)
              rw [HZ1.out] at C1
              have HN : Hid (0 ≤ n) := Int.not_lt.1 hn
              have H0 : Hid (0 < x.el.length) := Nat.pos_of_ne_zero h0
              clear hn h0
              go_wp2_with (first | refine load_m 29 _ rfl rfl _ _ rfl (tx_dot R1) Try.underlying29 rfl zd1 ?_ | refine load_r 34 _ rfl rfl _ rfl R2 Try.underlying34 rfl zu ?_)
              refine (C1 _).mono ?_
              clear C1 c5
              rintro e w5 ⟨rfl, hb1⟩
              replace R0 := R0.later hb1
              replace R1 := R1.later hb1
              replace R2 := R2.later hb1
              replace h := h.later hb1
              replace hbel := below_on hbel hb1
              replace hB := Nat.le_trans hB hb1.size
              clear hb1 hn' h0'
              cases z1
              case' false =>
                go_wp2_with fail
                refine (heads_any _).mono ?_
                rintro e w9 ⟨rfl, hb9⟩
                go_wp2_with fail
                go_ret
                exact ⟨rfl, below_on hbel hb9⟩
              case' true =>
                have c5 : w5.cell? ⟨w.heap.size, 5, none⟩ = some (.slice pe x.el.length ce) := R0.cell 5
                obtain ⟨k, hk, HK⟩ : ∃ k, k < x.el.length ∧ Hid (n.tmod x.el.length = (k : Int)) := by
                  have p1 := HN.out
                  have p2 := H0.out
                  have e1 := Int.emod_nonneg n (b := (x.el.length : Int)) (by omega)
                  have e2 := Int.emod_lt_of_pos n (b := (x.el.length : Int)) (by omega)
                  have e3 := Int.tmod_eq_emod_of_nonneg (b := (x.el.length : Int)) p1
                  exact ⟨(n.tmod x.el.length).toNat, by omega, by show _ = _; omega⟩
                obtain ⟨le, hle, hse, hge⟩ := h.e
                obtain ⟨ge, oe, rfl, hre⟩ := hse.at H0.out
                have hkl : k < le.length := by
                  have := congrArg List.length hle
                  rw [List.length_map] at this
                  omega
                have hel : x.el[k] = le[k].1 := by simp only [← hle, List.getElem_map]
                have rk := range_sub (El.elem hre k hkl) 0 (ys := [.int .i64 (mE x.el[k]).p, .int .i64 (mE x.el[k]).s, .int .i64 (mE x.el[k]).i]) (fun j u hu => by
                  rw [hel] at hu
                  match j with
                  | 0 => exact hu
                  | 1 => exact hu
                  | 2 => exact hu
                  | j + 3 => simp at hu)
                obtain ⟨r, HR⟩ := hid_ex (mE x.el[k])
                rw [HR.out] at rk
                have ml := hse.1
                clear hge hre hse hel hkl hle le
                go_wp2_with fail
                have zm : (Try.prog.info? 39).map (·.size) = some [Value.int .i64 r.p, .int .i64 r.s, .int .i64 r.i].length := size39
                have hne : x.el ≠ [] := List.ne_nil_of_length_pos H0.out
                have hk' : (k : Int) < (x.el.length : Int) := by omega
                have hS : Calm.Stays (fun w' => Below w5.heap.size w5 w') := fun wa wb h hb => below_on h hb
                have hF : Facts.Stay [pF 0 (eqP (.pointer (some ⟨w.heap.size, 5, none⟩))), pF 1 (eqP (.slice (some ⟨ge, oe, none⟩) x.el.length ce)), pF 2 (eqP (.int .i64 n)), pF 3 (eqP (.pointer (some ⟨w.heap.size, 5, none⟩))), pF 4 (eqP (.slice (some ⟨ge, oe, none⟩) x.el.length ce)), pF 5 (eqP (.int .i64 x.el.length)), pF 6 (eqP (.int .i64 k)), pF 7 (eqP (.pointer (some ⟨ge, oe + k * 9, none⟩))), pF 8 (eqP (.pointer (some ⟨ge, oe + k * 9, none⟩))), pF 9 (eqP (.agg [Value.int .i64 r.p, .int .i64 r.s, .int .i64 r.i].toArray)), pF 10 (boxP w5.heap.size 39 #[.int .i64 0, .int .i64 0, .int .i64 0])] := stay_of (by simp only [List.forall_mem_cons]; exact ⟨⟨_, _, rfl, eqP_keeps _⟩, ⟨_, _, rfl, eqP_keeps _⟩, ⟨_, _, rfl, eqP_keeps _⟩, ⟨_, _, rfl, eqP_keeps _⟩, ⟨_, _, rfl, eqP_keeps _⟩, ⟨_, _, rfl, eqP_keeps _⟩, ⟨_, _, rfl, eqP_keeps _⟩, ⟨_, _, rfl, eqP_keeps _⟩, ⟨_, _, rfl, eqP_keeps _⟩, ⟨_, _, rfl, eqP_keeps _⟩, ⟨_, _, rfl, boxP_keeps _ _ _⟩, fun _ h => by cases h⟩)
                refine Facts.regionTail (by kernel_rfl) (by kernel_rfl) 11 (by decide) (by kernel_rfl) (fun w' => Below w5.heap.size w5 w') (fun xv => { tmps := #[CV x.k x.b (Value.slice pa x.am.length ca') (Value.slice pw x.wr.length cw) (Value.slice pm x.mb.length cm) (Value.slice (some { block := ge, off := oe }) x.el.length ce), TxV tp ts tv tt tl, TxV up us uv ut ul, Value.int IntKind.i64 n, Value.pointer (some { block := w.heap.size, off := 0 }), Value.pointer (some { block := w.heap.size + 1, off := 0 }), Value.pointer (some { block := w.heap.size + 1 + 1, off := 0 }), undef, Value.bool false, xv 10, undef, Value.agg (cvc x.k x.b (Value.slice pa x.am.length ca') (Value.slice pw x.wr.length cw) (Value.slice pm x.mb.length cm) (Value.slice (some { block := ge, off := oe }) x.el.length ce)), Value.bool true, Value.bool false, Value.bool false, Value.agg (cvc x.k x.b (Value.slice pa x.am.length ca') (Value.slice pw x.wr.length cw) (Value.slice pm x.mb.length cm) (Value.slice (some { block := ge, off := oe }) x.el.length ce)), Value.bool true, Value.bool false, Value.bool false, Value.bool false, Value.agg (txc tp ts tv tt tl).toArray, Value.bool true, Value.bool false, Value.bool false, Value.bool false, Value.agg (txc up us uv ut ul).toArray, Value.bool true, Value.bool false, Value.bool false, Value.bool false, Value.int IntKind.i64 n, Value.bool false, Value.bool false, Value.bool false, Value.pointer (some { block := w.heap.size, off := 5 }), Value.slice (some { block := ge, off := oe }) x.el.length ce, Value.int IntKind.i64 ↑x.el.length, Value.bool false, Value.bool false, Value.bool false, Value.pointer (some { block := w.heap.size + 1, off := 0 }), Value.agg #[Value.int IntKind.i64 tp, Value.int IntKind.i64 ts], Value.agg #[Value.int IntKind.i64 tp, Value.int IntKind.i64 ts, Value.int IntKind.i64 1], Value.agg (txc up us uv ut ul).toArray, Value.bool true, Value.bool false, Value.bool false, undef, xv 0, xv 1, xv 2, xv 3, xv 4, xv 5, xv 6, xv 7, xv 8, xv 9, undef, undef, undef, undef, undef, undef, undef, undef, undef, undef, undef, undef, undef], defers := [] }) [pF 0 (eqP (.pointer (some ⟨w.heap.size, 5, none⟩))), pF 1 (eqP (.slice (some ⟨ge, oe, none⟩) x.el.length ce)), pF 2 (eqP (.int .i64 n)), pF 3 (eqP (.pointer (some ⟨w.heap.size, 5, none⟩))), pF 4 (eqP (.slice (some ⟨ge, oe, none⟩) x.el.length ce)), pF 5 (eqP (.int .i64 x.el.length)), pF 6 (eqP (.int .i64 k)), pF 7 (eqP (.pointer (some ⟨ge, oe + k * 9, none⟩))), pF 8 (eqP (.pointer (some ⟨ge, oe + k * 9, none⟩))), pF 9 (eqP (.agg [Value.int .i64 r.p, .int .i64 r.s, .int .i64 r.i].toArray)), pF 10 (boxP w5.heap.size 39 #[.int .i64 0, .int .i64 0, .int .i64 0])] _ rfl rfl (by kernel_rfl) (fun j => [undef, undef, undef, undef, undef, undef, undef, undef, undef, undef, undef].getD j undef) rfl (Below.refl _ w5).drew ⟨?_, ?_, ?_, ?_, ?_, ?_, ?_, ?_, ?_, ?_, ?_, ?_, trivial⟩ ?_
                · exact fun _ => Facts.pureP hS hF (fun _ _ => rfl) rfl (fun xv wv hSw hd => by
                    go_simp)
                · exact fun _ => Facts.pureP hS hF (fun _ _ => rfl) rfl (fun xv wv hSw hd => by
                    have d0 : xv 0 = _ := pF_get (hd ⟨0, .data⟩ (by simp) rfl _ rfl)
                    have c5w := (R0.later hSw).cell 5
                    simp only [d0]
                    go_simp)
                · exact fun _ => Facts.pureP hS hF (fun _ _ => rfl) rfl (fun xv wv hSw hd => by
                    go_simp)
                · exact fun _ => Facts.pureP hS hF (fun _ _ => rfl) rfl (fun xv wv hSw hd => by
                    go_simp)
                · exact fun _ => Facts.pureP hS hF (fun _ _ => rfl) rfl (fun xv wv hSw hd => by
                    have d3 : xv 3 = _ := pF_get (hd ⟨3, .data⟩ (by simp) rfl _ rfl)
                    have c5w := (R0.later hSw).cell 5
                    simp only [d3]
                    go_simp)
                · exact fun _ => Facts.pureP hS hF (fun _ _ => rfl) rfl (fun xv wv hSw hd => by
                    have d4 : xv 4 = _ := pF_get (hd ⟨4, .data⟩ (by simp) rfl _ rfl)
                    simp only [d4]
                    go_simp)
                · exact fun _ => Facts.pureP hS hF (fun _ _ => rfl) rfl (fun xv wv hSw hd => by
                    have d2 : xv 2 = _ := pF_get (hd ⟨2, .data⟩ (by simp) rfl _ rfl)
                    have d5 : xv 5 = _ := pF_get (hd ⟨5, .data⟩ (by simp) rfl _ rfl)
                    simp only [d2, d5]
                    go_simp
                    exact HK.out)
                · exact fun _ => Facts.pureP hS hF (fun _ _ => rfl) rfl (fun xv wv hSw hd => by
                    have d1 : xv 1 = _ := pF_get (hd ⟨1, .data⟩ (by simp) rfl _ rfl)
                    have d6 : xv 6 = _ := pF_get (hd ⟨6, .data⟩ (by simp) rfl _ rfl)
                    simp only [d1, d6]
                    go_simp)
                · exact fun _ => Facts.pureP hS hF (fun _ _ => rfl) rfl (fun xv wv hSw hd => by
                    have d7 : xv 7 = _ := pF_get (hd ⟨7, .data⟩ (by simp) rfl _ rfl)
                    simp only [d7]
                    go_simp)
                · exact fun _ => Facts.loadP hS hF (fun _ _ => rfl) 39 Try.underlying39 rfl zm _ rfl rfl (fun xv wv hSw hd => by have d8 : xv 8 = _ := pF_get (hd ⟨8, .data⟩ (by simp) rfl _ rfl); exact d8) (fun wv hSw => range_later rk hSw)
                · exact fun _ => Facts.allocP hS hF (fun _ _ => rfl) 39 rfl (fun wv hSw => hSw.size) (fun _ _ => rfl)
                · exact fun h => absurd h (by decide)
                intro xq w6 hb5 hf
                have e9 : xq 9 = _ := pF_get (hf 9 _ rfl)
                obtain ⟨q, eqq, hNq, hq⟩ := pF_get (hf 10 _ rfl)
                clear hf hS hF
                refine tail_store 39 _ _ rfl q 0 eqq e9 (hq.store #[.int .i64 r.p, .int .i64 r.s, .int .i64 r.i] size39 rfl (by simp [Value.oneCell'])) ?_
                refine Facts.tailWp_nil ?_
                simp only [eqq]
                have hb6 := below_setRow hb5 (g := q) hNq #[.int .i64 r.p, .int .i64 r.s, .int .i64 r.i]
                replace R0 := R0.later hb6
                replace R1 := R1.later hb6
                replace R2 := R2.later hb6
                replace h := h.later hb6
                replace hbel := below_on hbel hb6
                have RM := hq.row #[.int .i64 r.p, .int .i64 r.s, .int .i64 r.i]
                clear hb5 hb6 hq eqq e9 hNq c5 rk hne hk'
                generalize w6.setRow q #[.int .i64 r.p, .int .i64 r.s, .int .i64 r.i] = w7 at R0 R1 R2 h hbel RM ⊢
                obtain ⟨x1, H1⟩ := hid_ex (goX x ⟨tp, ts, 1⟩ (fun y => decide (kM y = kM r)))
                have s1 : Sm x1 := by rw [← H1.out]; exact (sz_go hz _ _).sm (by decide) (by decide)
                have HE : Hid (insX x1 ⟨up, us, 1, ut, r.p, r.s, r.i, ⟨#[120]⟩, []⟩ (bfP up us uv 1) = x1) := by
                  show _ = _
                  rw [← H1.out]
                  exact sees_eq HY1.out (show im (1 : Int) = true by decide) (List.getElem_mem hk) (by rw [← HR.out]; rfl) rfl HZ1.out
                have C1 := del_any x _ _ _ _ tp ts tv tt tl 1 r w7 hv h hs
                rw [H1.out] at C1
                clear HZ1 HR H1 h hz hs HN HK hk H0
                go_wp2_with (first | refine load_r 27 _ rfl rfl _ rfl R0 Try.underlying27 rfl size27 ?_ | refine load_r 34 _ rfl rfl _ rfl R1 Try.underlying34 rfl zt ?_ | refine load_r 39 _ rfl rfl _ rfl RM Try.underlying39 rfl size39 ?_)
                refine C1.mono ?_
                clear C1
                rintro e w8 ⟨ua, uw, um, ue, rfl, hf, hb⟩
                obtain ⟨qa, da, qw, dw, qm, dx, qe, de, rfl, rfl, rfl, rfl⟩ := hf.slices
                replace R2 := R2.later hb
                replace RM := RM.later hb
                replace hbel := below_on hbel hb
                clear hb R0 R1
                have hbA := bel_alloc (Below.refl w8.heap.size w8) (.cells (cvc x1.k x1.b (.slice qa x1.am.length da) (.slice qw x1.wr.length dw) (.slice qm x1.mb.length dx) (.slice qe x1.el.length de)) 27)
                have RD := rw_new w8 27 (cvc x1.k x1.b (.slice qa x1.am.length da) (.slice qw x1.wr.length dw) (.slice qm x1.mb.length dx) (.slice qe x1.el.length de))
                replace R2 := R2.later hbA
                replace RM := RM.later hbA
                replace hf := hf.later hbA
                replace hbel := below_on hbel hbA
                clear hbA
                generalize hW : w8.alloc (.cells (cvc x1.k x1.b (.slice qa x1.am.length da) (.slice qw x1.wr.length dw) (.slice qm x1.mb.length dx) (.slice qe x1.el.length de)) 27) = w9 at RD R2 RM hf hbel
                go_wp2_with (first | rw [hW])
                clear hW
                have zx : (Try.prog.info? 27).map (·.size) = some ([Value.int .i64 x1.k, .int .i64 x1.b, .slice qa x1.am.length da, .slice qw x1.wr.length dw, .slice qm x1.mb.length dx, .slice qe x1.el.length de] : List Value).length := size27
                have zux : (Try.prog.info? 34).map (·.size) = some (txc up us uv ut ul).length := by rw [txc_length hu]; exact size34
                have zmx : (Try.prog.info? 39).map (·.size) = some [Value.int .i64 r.p, .int .i64 r.s, .int .i64 r.i].length := size39
                have hS : Calm.Stays (fun w' => Below w9.heap.size w9 w') := fun wa wb h hb => below_on h hb
                have hF : Facts.Stay [pF 0 (eqP (.agg ([Value.int .i64 x1.k, .int .i64 x1.b, .slice qa x1.am.length da, .slice qw x1.wr.length dw, .slice qm x1.mb.length dx, .slice qe x1.el.length de] : List Value).toArray)), pF 1 (eqP (.agg (txc up us uv ut ul).toArray)), pF 2 (eqP (.agg [Value.int .i64 r.p, .int .i64 r.s, .int .i64 r.i].toArray)), pF 3 (cP x1), pF 4 (eqP (.agg ([Value.int .i64 x1.k, .int .i64 x1.b, .slice qa x1.am.length da, .slice qw x1.wr.length dw, .slice qm x1.mb.length dx, .slice qe x1.el.length de] : List Value).toArray)), pF 5 (eqP (.bool true)), pF 6 (eqP (.bool true)), pF 7 (eqP (.bool true)), pF 8 (eqP (.bool true)), pF 9 (eqP (.bool true))] := stay_of (by simp only [List.forall_mem_cons]; exact ⟨⟨_, _, rfl, eqP_keeps _⟩, ⟨_, _, rfl, eqP_keeps _⟩, ⟨_, _, rfl, eqP_keeps _⟩, ⟨_, _, rfl, cP_keeps _⟩, ⟨_, _, rfl, eqP_keeps _⟩, ⟨_, _, rfl, eqP_keeps _⟩, ⟨_, _, rfl, eqP_keeps _⟩, ⟨_, _, rfl, eqP_keeps _⟩, ⟨_, _, rfl, eqP_keeps _⟩, ⟨_, _, rfl, eqP_keeps _⟩, fun _ h => by cases h⟩)
                refine FactsG.region (by kernel_rfl) (by kernel_rfl) (fun w' => Below w9.heap.size w9 w') (fun xv => { tmps := #[CV x.k x.b (Value.slice pa x.am.length ca') (Value.slice pw x.wr.length cw) (Value.slice pm x.mb.length cm) (Value.slice (some { block := ge, off := oe }) x.el.length ce), TxV tp ts tv tt tl, TxV up us uv ut ul, Value.int IntKind.i64 n, Value.pointer (some { block := w.heap.size, off := 0 }), Value.pointer (some { block := w.heap.size + 1, off := 0 }), Value.pointer (some { block := w.heap.size + 1 + 1, off := 0 }), undef, xv 9, Value.pointer (some { block := q, off := 0 }), Value.pointer (some { block := w8.heap.size, off := 0 }), Value.agg (cvc x.k x.b (Value.slice pa x.am.length ca') (Value.slice pw x.wr.length cw) (Value.slice pm x.mb.length cm) (Value.slice (some { block := ge, off := oe }) x.el.length ce)), Value.bool true, Value.bool false, Value.bool false, Value.agg (cvc x.k x.b (Value.slice pa x.am.length ca') (Value.slice pw x.wr.length cw) (Value.slice pm x.mb.length cm) (Value.slice (some { block := ge, off := oe }) x.el.length ce)), Value.bool true, Value.bool false, Value.bool false, Value.bool false, Value.agg (txc tp ts tv tt tl).toArray, Value.bool true, Value.bool false, Value.bool false, Value.bool false, Value.agg (txc up us uv ut ul).toArray, Value.bool true, Value.bool false, Value.bool false, Value.bool false, Value.int IntKind.i64 n, Value.bool false, Value.bool false, Value.bool false, Value.pointer (some { block := w.heap.size, off := 5 }), Value.slice (some { block := ge, off := oe }) x.el.length ce, Value.int IntKind.i64 ↑x.el.length, Value.bool false, Value.bool false, Value.bool false, Value.pointer (some { block := w.heap.size + 1, off := 0 }), Value.agg #[Value.int IntKind.i64 tp, Value.int IntKind.i64 ts], Value.agg #[Value.int IntKind.i64 tp, Value.int IntKind.i64 ts, Value.int IntKind.i64 1], Value.agg (txc up us uv ut ul).toArray, Value.bool true, Value.bool false, Value.bool false, undef, xq 0, xq 1, xq 2, xq 3, xq 4, xq 5, xq 6, xq 7, xq 8, xq 9, Value.agg (cvc x.k x.b (Value.slice pa x.am.length ca') (Value.slice pw x.wr.length cw) (Value.slice pm x.mb.length cm) (Value.slice (some { block := ge, off := oe }) x.el.length ce)), Value.agg (txc tp ts tv tt tl).toArray, Value.agg #[Value.int IntKind.i64 r.p, Value.int IntKind.i64 r.s, Value.int IntKind.i64 r.i], CV x1.k x1.b (Value.slice qa x1.am.length da) (Value.slice qw x1.wr.length dw) (Value.slice qm x1.mb.length dx) (Value.slice qe x1.el.length de), xv 0, xv 1, xv 2, xv 3, xv 4, xv 5, xv 6, xv 7, xv 8], defers := [] }) [pF 0 (eqP (.agg ([Value.int .i64 x1.k, .int .i64 x1.b, .slice qa x1.am.length da, .slice qw x1.wr.length dw, .slice qm x1.mb.length dx, .slice qe x1.el.length de] : List Value).toArray)), pF 1 (eqP (.agg (txc up us uv ut ul).toArray)), pF 2 (eqP (.agg [Value.int .i64 r.p, .int .i64 r.s, .int .i64 r.i].toArray)), pF 3 (cP x1), pF 4 (eqP (.agg ([Value.int .i64 x1.k, .int .i64 x1.b, .slice qa x1.am.length da, .slice qw x1.wr.length dw, .slice qm x1.mb.length dx, .slice qe x1.el.length de] : List Value).toArray)), pF 5 (eqP (.bool true)), pF 6 (eqP (.bool true)), pF 7 (eqP (.bool true)), pF 8 (eqP (.bool true)), pF 9 (eqP (.bool true))] (fun _ _ _ _ => True) (fun _ _ _ _ _ => trivial) _ rfl rfl (by kernel_rfl) (fun j => [undef, undef, undef, undef, undef, undef, undef, undef, undef, Value.bool false].getD j undef) rfl (Below.refl _ w9).drew ⟨?_, ?_, ?_, ?_, ?_, ?_, ?_, ?_, ?_, ?_, trivial⟩ ?_
                · exact FactsG.of rfl (fun _ _ _ => trivial) (fun _ _ _ _ => rfl) (Facts.loadP hS hF (fun _ _ => rfl) 27 Try.underlying27 rfl zx _ rfl rfl (fun xv wv hSw hd => by rfl) (fun wv hSw => Rw.whole (cs := [Value.int .i64 x1.k, .int .i64 x1.b, .slice qa x1.am.length da, .slice qw x1.wr.length dw, .slice qm x1.mb.length dx, .slice qe x1.el.length de]) (RD.later hSw)))
                · exact FactsG.of rfl (fun _ _ _ => trivial) (fun _ _ _ _ => rfl) (Facts.loadP hS hF (fun _ _ => rfl) 34 Try.underlying34 rfl zux _ rfl rfl (fun xv wv hSw hd => by rfl) (fun wv hSw => Rw.whole (cs := (txc up us uv ut ul)) (R2.later hSw)))
                · exact FactsG.of rfl (fun _ _ _ => trivial) (fun _ _ _ _ => rfl) (Facts.loadP hS hF (fun _ _ => rfl) 39 Try.underlying39 rfl zmx _ rfl rfl (fun xv wv hSw hd => by rfl) (fun wv hSw => Rw.whole (cs := [Value.int .i64 r.p, .int .i64 r.s, .int .i64 r.i]) (RM.later hSw)))
                · refine FactsG.of rfl (fun _ _ _ => trivial) (fun _ _ _ _ => rfl) (Facts.call5P hS hF (fun _ _ => rfl) rfl (by kernel_rfl) rfl (fun xv wv hSw hd => ?_))
                  have d0 : xv 0 = _ := pF_get (hd ⟨0, .data⟩ (by simp) rfl _ rfl)
                  have d1 : xv 1 = _ := pF_get (hd ⟨1, .data⟩ (by simp) rfl _ rfl)
                  have d2 : xv 2 = _ := pF_get (hd ⟨2, .data⟩ (by simp) rfl _ rfl)
                  show Calls Try.prog 14 #[xv 0, xv 1, .int .i64 1, xv 2, .string ⟨#[120]⟩] wv _
                  rw [d0, d1, d2]
                  have hc := ins_any x1 _ _ _ _ up us uv ut ul 1 r ⟨#[120]⟩ wv hu (hf.later hSw) s1
                  rw [HE.out] at hc
                  exact hc.mono fun e w' h => gives_p h
                · exact FactsG.of rfl (fun _ _ _ => trivial) (fun _ _ _ _ => rfl) (Facts.loadP hS hF (fun _ _ => rfl) 27 Try.underlying27 rfl zx _ rfl rfl (fun xv wv hSw hd => by rfl) (fun wv hSw => Rw.whole (cs := [Value.int .i64 x1.k, .int .i64 x1.b, .slice qa x1.am.length da, .slice qw x1.wr.length dw, .slice qm x1.mb.length dx, .slice qe x1.el.length de]) (RD.later hSw)))
                · refine FactsG.of rfl (fun _ _ _ => trivial) (fun _ _ _ _ => rfl) (Facts.call2P hS hF (fun _ _ => rfl) rfl (by kernel_rfl) rfl (fun xv wv hSw hd => ?_))
                  have d3 := pF_get (hd ⟨3, .data⟩ (by simp) rfl _ rfl)
                  have d4 : xv 4 = _ := pF_get (hd ⟨4, .data⟩ (by simp) rfl _ rfl)
                  show Calls Try.prog 13 #[xv 3, xv 4] wv _
                  obtain ⟨va, vw, vm, ve, e2, f2⟩ := d3
                  rw [e2, d4]
                  exact (same_any x1 _ _ _ _ _ _ _ _ wv f2 (hf.later hSw) s1).mono fun e w' h => tells_p h
                · exact FactsG.of rfl (fun _ _ _ => trivial) (fun _ _ _ _ => rfl) (Facts.pureP hS hF (fun _ _ => rfl) rfl (fun xv wv hSw hd => by
                    have d5 : xv 5 = _ := pF_get (hd ⟨5, .data⟩ (by simp) rfl _ rfl)
                    simp only [d5]
                    go_simp))
                · refine FactsG.of rfl (fun _ _ _ => trivial) (fun xv wv hSw hd => by have dg : xv 6 = _ := pF_get (hd ⟨6, .guard⟩ (by simp) rfl _ rfl); simp only [dg]; rfl) (Facts.call0P hS hF (fun _ _ => rfl) rfl (by kernel_rfl) rfl (fun xv wv hSw hd => ?_))
                  exact (heads_any wv).mono fun e w' h => tells_p h
                · exact FactsG.of rfl (fun _ _ _ => trivial) (fun _ _ _ _ => rfl) (Facts.pureP hS hF (fun _ _ => rfl) rfl (fun xv wv hSw hd => by
                    have d6 : xv 6 = _ := pF_get (hd ⟨6, .data⟩ (by simp) rfl _ rfl)
                    have d7 : xv 7 = _ := pF_get (hd ⟨7, .data⟩ (by simp) rfl _ rfl)
                    simp only [d6, d7]
                    go_simp))
                · exact FactsG.of rfl (fun _ _ _ => trivial) (fun _ _ _ _ => rfl) (Facts.pureP hS hF (fun _ _ => rfl) rfl (fun xv wv hSw hd => by
                    have d8 : xv 8 = _ := pF_get (hd ⟨8, .data⟩ (by simp) rfl _ rfl)
                    simp only [d8]
                    go_simp))
                rintro xv w19 hb9 hf _
                have e9 : xv 9 = _ := pF_get (hf 9 _ (by decide) rfl)
                simp only [e9]
                go_wp2_with fail
                go_ret
                exact ⟨rfl, below_on hbel hb9⟩
end Go.Proofs.Ytfjpbmdmkcihcaa
namespace Go.Proofs.Ytfjpbmdmkcihcaa
open Go.ChangeShapes Go.WideShapes Go.ChangeAt Go.RowKit

theorem seqSees_own : ownKnob Try.prog.godebug = none := by kernel_rfl
theorem seqSees_laidOut : laidOutB Try.prog = true := by kernel_rfl

set_option maxRecDepth 100000 in
theorem seqSees_lifted (os : Os) (started : os.Started) (H : Type) (enc : TypeId × Value → H) :
    ReturnsInHanded {} Try.checked os 3 .any (Rows.seqSeesSpec.pre6 enc Try.prog Try.f3 Rows.seqSeesRow.domain false) (Rows.seqSeesSpec.post enc Try.prog Try.f3 false true false false) := by
  refine returnsInHanded_of_change_sized (C := Try.checked) seqSees_own started (by kernel_rfl) Try.func3
    (ChangeSpec.witness6 (enc := enc) (C := Try.checked) false ⟨#[], #[.agg #[.int .i64 0, .int .i64 0, .slice none 0 0, .slice none 0 0, .slice none 0 0, .slice none 0 0], .agg #[.int .i64 0, .int .i64 0, .int .i64 0, .int .i64 0, .int .i64 0, .int .i64 0, .int .i64 0, .int .i64 0, .int .i64 0, .int .i64 0, .int .i64 0, .int .i64 0, .int .i64 0, .int .i64 0, .int .i64 0, .int .i64 0, .slice none 0 0], .agg #[.int .i64 0, .int .i64 0, .int .i64 0, .int .i64 0, .int .i64 0, .int .i64 0, .int .i64 0, .int .i64 0, .int .i64 0, .int .i64 0, .int .i64 0, .int .i64 0, .int .i64 0, .int .i64 0, .int .i64 0, .int .i64 0, .slice none 0 0], .int .i64 0], []⟩ 8 (by kernel_rfl) (by kernel_rfl) (by kernel_rfl) (by kernel_rfl)) ?_
  intro W base args ds gs before hval0 hW hcnd hsz0 _
  have hsz : (DataW.weightsEach Try.prog (Try.f3.params.toList ++ Rows.seqSeesSpec.plain.varTypes Try.prog) (ds ++ gs)).all (· ≤ reachBytes) = true := hsz0
  clear hsz0
  have hval : ∀ (j : Nat) t v, Try.f3.params[j]? = some t → args[j]? = some v → Value.okWide Try.prog W .any base t v := hval0
  have hW' := hW
  obtain ⟨p, q, hA0, hV, rfl, hfz, hnd⟩ := hW
  have hA : DataW.TrodAll enc Try.prog W 0 (fun _ => true) true Try.f3.params.toList args.toList ds p := hA0
  rw [Try.params3] at hA hval hsz
  obtain ⟨v0, vs0, d0, ds0, p0, q0, hargs, rfl, rfl, h0, r0⟩ := trodAll_cons hA
  obtain ⟨v1, vs1, d1, ds1, p1, q1, rfl, rfl, rfl, h1, r1⟩ := trodAll_cons r0
  obtain ⟨v2, vs2, d2, ds2, p2, q2, rfl, rfl, rfl, h2, r2⟩ := trodAll_cons r1
  obtain ⟨v3, vs3, d3, ds3, p3, q3, rfl, rfl, rfl, h3, r3⟩ := trodAll_cons r2
  obtain ⟨rfl, rfl, rfl⟩ := trodAll_nil r3
  obtain rfl : args = #[v0, v1, v2, v3] := by cases args; simp_all
  obtain ⟨rfl, rfl⟩ := trodVars_none hV
  obtain ⟨x0_, va0, vw0, vm0, ve0, rfl, hf0, hk0⟩ := open_cell (hval 0 27 v0 rfl rfl) h0
  have lk0 : Lk x0_ := hk0 (by simp only [List.cons_append, DataW.weightsEach, List.all_append, Bool.and_eq_true] at hsz; exact hsz.1)
  clear hk0
  obtain ⟨p1_, s1_, u1_, t1_, sl1_, l1_, rfl, hu1_, ho1_⟩ := open_tx (hval 1 34 v1 rfl rfl) h1
  obtain ⟨p2_, s2_, u2_, t2_, sl2_, l2_, rfl, hu2_, ho2_⟩ := open_tx (hval 2 34 v2 rfl rfl) h2
  obtain ⟨a3, rfl, rfl, rfl, w3⟩ := open_int Try.underlying3 (hval 3 3 v3 rfl rfl) h3
  clear hA0 hval0 hval hA hsz
  have k0 := h0
  have lt0 : ∀ x ∈ p0, x.block < W.heap.size := by obtain ⟨m, hm⟩ := k0; exact DataW.trod_lt m _ _ _ hm
  have k1 := h1
  have lt1 : ∀ x ∈ p1, x.block < W.heap.size := by obtain ⟨m, hm⟩ := k1; exact DataW.trod_lt m _ _ _ hm
  have k2 := h2
  have lt2 : ∀ x ∈ p2, x.block < W.heap.size := by obtain ⟨m, hm⟩ := k2; exact DataW.trod_lt m _ _ _ hm
  have b3 := bounds_i64 w3
  refine (sees_law x0_ va0 vw0 vm0 ve0 p1_ s1_ u1_ t1_ sl1_ l1_ p2_ s2_ u2_ t2_ sl2_ l2_ a3 W hu1_ hu2_ ho1_.has ho2_.has hf0 lk0).mono fun e W' ⟨he, bel⟩ => ?_
  subst he
  exact ⟨_, rfl, _, _, _, [], _, [], hW', trodAll_mk1 (shut_bool Try.underlying4 _), (trodAll_cons_mk (Below.trod seqSees_laidOut (by kernel_rfl) (of_decide_eq_true (by kernel_rfl)) k0 bel lt0) (trodAll_cons_mk (Below.trod seqSees_laidOut (by kernel_rfl) (of_decide_eq_true (by kernel_rfl)) k1 bel lt1) (trodAll_cons_mk (Below.trod seqSees_laidOut (by kernel_rfl) (of_decide_eq_true (by kernel_rfl)) k2 bel lt2) (trodAll_cons_mk (shut_int Try.underlying3 w3) trodAll_mk0)))), rfl, bel.frame _, fun h => by cases h⟩

theorem seqSees_holds : Rows.SeqSeesSaid :=
  OpenClaim.holds_of_wide 3 Try.f3 rfl rfl rfl rfl rfl rfl rfl ⟨rfl, rfl, rfl, rfl, rfl⟩ rfl rfl rfl rfl rfl (by kernel_rfl) Try.func3 (by kernel_rfl)
    (of_decide_eq_true (by kernel_rfl)) (by unfold Func.isWrapper; first | (rw [if_pos (by decide +kernel)]; kernel_rfl) | (rw [if_neg (by decide +kernel)]; exact ⟨rfl, rfl⟩))
    (fun os started H enc _ => seqSees_lifted os started H enc)

#print axioms seqSees_holds
end Go.Proofs.Ytfjpbmdmkcihcaa
