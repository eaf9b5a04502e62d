import Derived.Test.YtjbbmcommnhgeaaGreatPa24
import Derived.Deep.Slices
set_option maxRecDepth 100000
set_option maxHeartbeats 8000000
namespace Go.Proofs.YtjbbmcommnhgeaaGreat
open Go.RowKit
theorem rows5 (w : World) (c1 : Array Value) (t1 : TypeId) (c2 : Array Value) (t2 : TypeId) (c3 : Array Value) (t3 : TypeId) (c4 : Array Value) (t4 : TypeId) (c5 : Array Value) (t5 : TypeId) {w0 : World} (hW : ((((w.alloc (.cells c1 t1)).alloc (.cells c2 t2)).alloc (.cells c3 t3)).alloc (.cells c4 t4)).alloc (.cells c5 t5) = w0) : Rw w0 w.heap.size t1 c1 ∧ Rw w0 (w.heap.size + 1) t2 c2 ∧ Rw w0 (w.heap.size + 1 + 1) t3 c3 ∧ Rw w0 (w.heap.size + 1 + 1 + 1) t4 c4 ∧ Rw w0 (w.heap.size + 1 + 1 + 1 + 1) t5 c5 ∧ Below w.heap.size w w0 := by
 subst hW
 obtain ⟨r1, r2, r3, r4, hb⟩ := rows4 w c1 t1 c2 t2 c3 t3 c4 t4 rfl
 have r5 := rw_new ((((w.alloc (.cells c1 t1)).alloc (.cells c2 t2)).alloc (.cells c3 t3)).alloc (.cells c4 t4)) t5 c5
 simp only [World.size_alloc] at r5
 exact ⟨r1.alloc _, r2.alloc _, r3.alloc _, r4.alloc _, r5, bel_alloc hb _⟩
theorem op_ref {w : World} {b : Nat} {o : O} (h : Rw w b 52 o.cells.toArray) : w.rangeAt b 7 [.int .i64 o.p, .int .i64 o.s, .int .i64 o.i] := h.range 7 _ fun j y hy => by
 match j with
 | 0 => simpa using hy
 | 1 => simpa using hy
 | 2 => simpa using hy
 | j + 3 => simp at hy
theorem apart_law (x : X) (va vw vm ve : Value) (tp ts : Int) (tv : List Int) (tt : Int) (tl : Value) (lo : List O) (up us : Int) (uv : List Int) (ut : Int) (ul : Value) (lp : List O) (o p : O) (w : World) (hv : tv.length = 13) (hu : uv.length = 13) (ho : OHas w tl lo) (hp : OHas w ul lp) (h : Four w x va vw vm ve) (hl : Lk x) :
  Calls Tryz.prog 6 #[CV x.k x.b va vw vm ve, TxV tp ts tv tt tl, TxV up us uv ut ul, o.val, p.val] w (Tells (.bool true) w) := by
 obtain ⟨w0, hW⟩ : ∃ w0, ((((w.alloc (.cells (cvc x.k x.b va vw vm ve) 27)).alloc (.cells (txc tp ts tv tt tl).toArray 34)).alloc (.cells (txc up us uv ut ul).toArray 34)).alloc (.cells o.cells.toArray 52)).alloc (.cells p.cells.toArray 52) = w0 := ⟨_, rfl⟩
 obtain ⟨R0, R1, R2, R3, R4, hb⟩ := rows5 w _ _ _ _ _ _ _ _ _ _ hW
 have zt := size_tx (p := tp) (s := ts) (t := tt) (sl := tl) hv
 have zu := size_tx (p := up) (s := us) (t := ut) (sl := ul) hu
 have zd1 : (Tryz.prog.info? 29).map (·.size) = some [Value.int .i64 tp, .int .i64 ts].length := size29
 have zd2 : (Tryz.prog.info? 29).map (·.size) = some [Value.int .i64 up, .int .i64 us].length := size29
 replace h := h.later hb
 replace ho := ho.later hb
 replace hp := hp.later hb
 go_enter Tryz.func6, Tryz.ntmps6
 go_wp2_with (first | rw [hW] | refine load_r 27 _ rfl rfl _ rfl R0 Tryz.underlying27 rfl size27 ?_)
 clear hW
 refine (few_any x va vw vm ve w0 h hl).mono ?_
 rintro e w1 ⟨y, rfl, hy, hb1⟩
 replace R0 := R0.later hb1
 replace R1 := R1.later hb1
 replace R2 := R2.later hb1
 replace R3 := R3.later hb1
 replace R4 := R4.later hb1
 replace h := h.later hb1
 replace ho := ho.later hb1
 replace hp := hp.later hb1
 replace hb := below_on hb hb1
 clear hb1
 cases y
 ·clear hy
  go_wp2_with fail
  refine (heads_any _).mono ?_
  rintro e w9 ⟨rfl, hb9⟩
  go_wp2_with fail
  go_ret
  exact ⟨rfl, below_on hb hb9⟩
 ·have FW : Hid (Fw x) := hy rfl
  have hs := FW.out.sm
  clear hy
  go_wp2_with (refine load_r 27 _ rfl rfl _ rfl R0 Tryz.underlying27 rfl size27 ?_)
  refine (refCheck_c x va vw vm ve w1 h hs).mono ?_
  rintro e w2 ⟨rfl, hb1⟩
  replace R0 := R0.later hb1
  replace R1 := R1.later hb1
  replace R2 := R2.later hb1
  replace R3 := R3.later hb1
  replace R4 := R4.later hb1
  replace h := h.later hb1
  replace ho := ho.later hb1
  replace hp := hp.later hb1
  replace hb := below_on hb hb1
  clear hb1
  obtain ⟨y, HY⟩ := hid_ex (ckc x)
  rw [HY.out]
  cases y
  ·go_wp2_with fail
   refine (heads_any _).mono ?_
   rintro e w9 ⟨rfl, hb9⟩
   go_wp2_with fail
   go_ret
   exact ⟨rfl, below_on hb hb9⟩
  ·go_wp2_with (refine load_r 34 _ rfl rfl _ rfl R1 Tryz.underlying34 rfl zt ?_)
   refine (small_any tp ts tv tt tl lo w2 hv ho).mono ?_
   rintro e w3 ⟨y, rfl, _, hb1⟩
   replace R0 := R0.later hb1
   replace R1 := R1.later hb1
   replace R2 := R2.later hb1
   replace R3 := R3.later hb1
   replace R4 := R4.later hb1
   replace h := h.later hb1
   replace hp := hp.later hb1
   replace hb := below_on hb hb1
   clear hb1
   clear ho
   cases y
   ·go_wp2_with fail
    refine (heads_any _).mono ?_
    rintro e w9 ⟨rfl, hb9⟩
    go_wp2_with fail
    go_ret
    exact ⟨rfl, below_on hb hb9⟩
   ·go_wp2_with (refine load_r 34 _ rfl rfl _ rfl R2 Tryz.underlying34 rfl zu ?_)
    refine (small_any up us uv ut ul lp w3 hu hp).mono ?_
    rintro e w4 ⟨y, rfl, _, hb1⟩
    replace R0 := R0.later hb1
    replace R1 := R1.later hb1
    replace R2 := R2.later hb1
    replace R3 := R3.later hb1
    replace R4 := R4.later hb1
    replace h := h.later hb1
    replace hb := below_on hb hb1
    clear hb1
    clear hp
    cases y
    ·go_wp2_with fail
     refine (heads_any _).mono ?_
     rintro e w9 ⟨rfl, hb9⟩
     go_wp2_with fail
     go_ret
     exact ⟨rfl, below_on hb hb9⟩
    ·have E0 := fun w => eq_dot w tp ts up us
     obtain ⟨y, HE⟩ := hid_ex (decide (tp = up) && decide (ts = us))
     rw [HE.out] at E0
     have c6 : w4.cell? ⟨w.heap.size + 1 + 1 + 1, 6, none⟩ = some (.string o.text) := R3.cell 6
     have c7 : w4.cell? ⟨w.heap.size + 1 + 1 + 1 + 1, 6, none⟩ = some (.string p.text) := R4.cell 6
     cases y
     case true =>
      go_wp2_with (first | refine load_m 29 _ rfl rfl _ _ rfl (tx_dot R1) Tryz.underlying29 rfl zd1 ?_ | refine load_m 29 _ rfl rfl _ _ rfl (tx_dot R2) Tryz.underlying29 rfl zd2 ?_)
      refine (heads_any _).mono ?_
      rintro e w9 ⟨rfl, hb9⟩
      go_wp2_with fail
      go_ret
      exact ⟨rfl, below_on hb hb9⟩
     case false =>
      by_cases hx : 100 < o.text.size
      ·have hx' : decide ((100 : Int) < (o.text.size : Int)) = true := decide_eq_true (by omega)
       go_wp2_with (first | refine load_m 29 _ rfl rfl _ _ rfl (tx_dot R1) Tryz.underlying29 rfl zd1 ?_ | refine load_m 29 _ rfl rfl _ _ rfl (tx_dot R2) Tryz.underlying29 rfl zd2 ?_)
       refine (heads_any _).mono ?_
       rintro e w9 ⟨rfl, hb9⟩
       go_wp2_with fail
       go_ret
       exact ⟨rfl, below_on hb hb9⟩
      ·have hx' : decide ((100 : Int) < (o.text.size : Int)) = false := decide_eq_false (by omega)
       have ox : o.text.size ≤ 1000 := by omega
       by_cases hy : 100 < p.text.size
       ·have hy' : decide ((100 : Int) < (p.text.size : Int)) = true := decide_eq_true (by omega)
        go_wp2_with (first | refine load_m 29 _ rfl rfl _ _ rfl (tx_dot R1) Tryz.underlying29 rfl zd1 ?_ | refine load_m 29 _ rfl rfl _ _ rfl (tx_dot R2) Tryz.underlying29 rfl zd2 ?_)
        refine (heads_any _).mono ?_
        rintro e w9 ⟨rfl, hb9⟩
        go_wp2_with fail
        go_ret
        exact ⟨rfl, below_on hb hb9⟩
       ·have hy' : decide ((100 : Int) < (p.text.size : Int)) = false := decide_eq_false (by omega)
        have px : p.text.size ≤ 1000 := by omega
        go_wp2_with (first | refine load_m 29 _ rfl rfl _ _ rfl (tx_dot R1) Tryz.underlying29 rfl zd1 ?_ | refine load_m 29 _ rfl rfl _ _ rfl (tx_dot R2) Tryz.underlying29 rfl zd2 ?_)
        clear hx hx' hy hy' c6 c7 E0
        have hS : Calm.Stays (fun w' => Below w4.heap.size w4 w') := fun wa wb h hb => below_on h hb
        have hF : Facts.Stay [pF 0 (eqP (.pointer (some ⟨w.heap.size + 1, 0, none⟩))), pF 1 (eqP (.agg ([Value.int .i64 tp, .int .i64 ts] : List Value).toArray)), pF 2 (eqP (.agg #[.int .i64 tp, .int .i64 ts, .int .i64 1])), pF 3 (eqP (.pointer (some ⟨w.heap.size + 1 + 1, 0, none⟩))), pF 4 (eqP (.agg ([Value.int .i64 up, .int .i64 us] : List Value).toArray)), pF 5 (eqP (.agg #[.int .i64 up, .int .i64 us, .int .i64 1])), pF 6 (newP w4.heap.size 50 3), pF 7 (newP w4.heap.size 50 3), pF 6 (boxP w4.heap.size 50 #[.int .i64 tp, .int .i64 ts, .int .i64 1]), pF 7 (boxP w4.heap.size 50 #[.int .i64 up, .int .i64 us, .int .i64 1])] := stay_of (by simp only [List.forall_mem_cons]; exact ⟨⟨_, _, rfl, eqP_keeps _⟩, ⟨_, _, rfl, eqP_keeps _⟩, ⟨_, _, rfl, eqP_keeps _⟩, ⟨_, _, rfl, eqP_keeps _⟩, ⟨_, _, rfl, eqP_keeps _⟩, ⟨_, _, rfl, eqP_keeps _⟩, ⟨_, _, rfl, newP_keeps _ _ _⟩, ⟨_, _, rfl, newP_keeps _ _ _⟩, ⟨_, _, rfl, boxP_keeps _ _ _⟩, ⟨_, _, rfl, boxP_keeps _ _ _⟩, fun _ h => by cases h⟩)
        refine FactsG.region (by kernel_rfl) (by kernel_rfl) (fun w' => Below w4.heap.size w4 w') (fun xv => { tmps := #[CV x.k x.b va vw vm ve, TxV tp ts tv tt tl, TxV up us uv ut ul, o.val, p.val, Value.pointer (some { block := w.heap.size, off := 0 }), Value.pointer (some { block := w.heap.size + 1, off := 0 }), Value.pointer (some { block := w.heap.size + 1 + 1, off := 0 }), Value.pointer (some { block := w.heap.size + 1 + 1 + 1, off := 0 }), Value.pointer (some { block := w.heap.size + 1 + 1 + 1 + 1, off := 0 }), Value.bool false, xv 6, xv 7, Value.agg (cvc x.k x.b va vw vm ve), Value.bool true, Value.bool false, Value.bool false, Value.agg (cvc x.k x.b va vw vm ve), Value.bool true, Value.bool false, Value.bool false, Value.bool false, Value.agg (txc tp ts tv tt tl).toArray, Value.bool true, Value.bool false, Value.bool false, Value.bool false, Value.agg (txc up us uv ut ul).toArray, Value.bool true, Value.bool false, Value.bool false, Value.bool false, Value.pointer (some { block := w.heap.size + 1, off := 0 }), Value.agg #[Value.int IntKind.i64 tp, Value.int IntKind.i64 ts], Value.pointer (some { block := w.heap.size + 1 + 1, off := 0 }), Value.agg #[Value.int IntKind.i64 up, Value.int IntKind.i64 us], Value.bool false, Value.bool false, Value.bool false, Value.pointer (some { block := w.heap.size + 1 + 1 + 1, off := 6 }), Value.string o.text, Value.int IntKind.i64 ↑o.text.size, Value.bool false, Value.bool false, Value.bool false, Value.pointer (some { block := w.heap.size + 1 + 1 + 1 + 1, off := 6 }), Value.string p.text, Value.int IntKind.i64 ↑p.text.size, Value.bool false, Value.bool false, undef, xv 0, xv 1, xv 2, xv 3, xv 4, xv 5, undef, undef, undef, undef, undef, undef, undef, undef, undef, undef, undef, undef, undef, undef, undef, undef, undef, undef, undef, undef, undef, undef, undef, undef, undef, undef, undef, undef, undef, undef, undef, undef, undef, undef, undef, undef, undef, undef, undef, undef, undef, undef, undef, undef, undef, undef, undef, undef, undef], defers := [] }) [pF 0 (eqP (.pointer (some ⟨w.heap.size + 1, 0, none⟩))), pF 1 (eqP (.agg ([Value.int .i64 tp, .int .i64 ts] : List Value).toArray)), pF 2 (eqP (.agg #[.int .i64 tp, .int .i64 ts, .int .i64 1])), pF 3 (eqP (.pointer (some ⟨w.heap.size + 1 + 1, 0, none⟩))), pF 4 (eqP (.agg ([Value.int .i64 up, .int .i64 us] : List Value).toArray)), pF 5 (eqP (.agg #[.int .i64 up, .int .i64 us, .int .i64 1])), pF 6 (newP w4.heap.size 50 3), pF 7 (newP w4.heap.size 50 3), pF 6 (boxP w4.heap.size 50 #[.int .i64 tp, .int .i64 ts, .int .i64 1]), pF 7 (boxP w4.heap.size 50 #[.int .i64 up, .int .i64 us, .int .i64 1])] (_root_.Go.Proofs.YtjbbmcommnhgeaaGreat.R2 6 7) (R2_symm 6 7) _ rfl rfl (by kernel_rfl) (fun j => [undef, undef, undef, undef, undef, undef, undef, undef, undef, undef].getD j undef) rfl (Below.refl _ w4).drew ⟨?_, ?_, ?_, ?_, ?_, ?_, ?_, ?_, ?_, ?_, trivial⟩ ?_
        ·exact FactsG.of rfl (fun _ _ _ h => absurd h (by omega)) (fun _ _ _ _ => rfl) (Facts.pureP hS hF (fun _ _ => rfl) rfl (fun xv wv hSw hd => by
          go_simp))
        ·exact FactsG.of rfl (fun _ _ _ h => absurd h (by omega)) (fun _ _ _ _ => rfl) (Facts.loadP hS hF (fun _ _ => rfl) 29 Tryz.underlying29 rfl zd1 _ rfl rfl (fun xv wv hSw hd => by have d0 : xv 0 = _ := pF_get (hd ⟨0, .data⟩ (by simp) rfl _ rfl); exact d0) (fun wv hSw => tx_dot (R1.later hSw)))
        ·exact FactsG.of rfl (fun _ _ _ h => absurd h (by omega)) (fun _ _ _ _ => rfl) (Facts.pureP hS hF (fun _ _ => rfl) rfl (fun xv wv hSw hd => by
          have d1 : xv 1 = _ := pF_get (hd ⟨1, .data⟩ (by simp) rfl _ rfl)
          simp only [d1]
          go_simp))
        ·exact FactsG.of rfl (fun _ _ _ h => absurd h (by omega)) (fun _ _ _ _ => rfl) (Facts.pureP hS hF (fun _ _ => rfl) rfl (fun xv wv hSw hd => by
          go_simp))
        ·exact FactsG.of rfl (fun _ _ _ h => absurd h (by omega)) (fun _ _ _ _ => rfl) (Facts.loadP hS hF (fun _ _ => rfl) 29 Tryz.underlying29 rfl zd2 _ rfl rfl (fun xv wv hSw hd => by have d3 : xv 3 = _ := pF_get (hd ⟨3, .data⟩ (by simp) rfl _ rfl); exact d3) (fun wv hSw => tx_dot (R2.later hSw)))
        ·exact FactsG.of rfl (fun _ _ _ h => absurd h (by omega)) (fun _ _ _ _ => rfl) (Facts.pureP hS hF (fun _ _ => rfl) rfl (fun xv wv hSw hd => by
          have d4 : xv 4 = _ := pF_get (hd ⟨4, .data⟩ (by simp) rfl _ rfl)
          simp only [d4]
          go_simp))
        ·exact FactsG.alloc2 rfl rfl hS hF (fun _ _ => rfl) 50 rfl rfl (fun wv hSw => hSw.size) (fun _ _ => rfl) (fun j f hj h => by rcases h with ⟨h, rfl⟩ | ⟨h, rfl⟩ <;> first | (simp at h; done) | exact ⟨50, 3, (Option.some.inj hj).symm⟩)
        ·exact FactsG.alloc2 rfl rfl hS hF (fun _ _ => rfl) 50 rfl rfl (fun wv hSw => hSw.size) (fun _ _ => rfl) (fun j f hj h => by rcases h with ⟨h, rfl⟩ | ⟨h, rfl⟩ <;> first | (simp at h; done) | exact ⟨50, 3, (Option.some.inj hj).symm⟩)
        ·refine FactsG.ofR rfl (fun _ _ _ _ => rfl) (fun xv wv hSw hd hrel => ?_)
         obtain ⟨q, cs, eq, hN, hq, hz⟩ := pF_get (hd ⟨6, .data⟩ (by simp) rfl _ rfl)
         have dv : xv 2 = _ := pF_get (hd ⟨2, .data⟩ (by simp) rfl _ rfl)
         have hne : xv 6 ≠ xv 7 := hrel ⟨6, .phase⟩ (by simp) rfl ⟨7, .phase⟩ (by simp) rfl (by decide) (by simp)
         refine wp_store_r 50 _ _ rfl q #[.int .i64 tp, .int .i64 ts, .int .i64 1] eq dv hq size50 hz (by simp [Value.oneCell']) ?_
         refine ⟨undef, rfl, below_setRow hSw hN _, fun f hf => ?_, fun j f hj hfj hh => ?_, fun j _ _ _ _ h => absurd h (by omega)⟩
         ·obtain rfl := Option.some.inj hf
          exact ⟨xv 6, rfl, q, eq, hN, hq.row _⟩
         ·have hko : ∀ q', xv 7 = .pointer (some ⟨q', 0, none⟩) → q' ≠ q := fun q' e' e2 => hne (by rw [eq, e', e2])
          match j with
          | 0 => obtain rfl := Option.some.inj hfj; exact hh
          | 1 => obtain rfl := Option.some.inj hfj; exact hh
          | 2 => obtain rfl := Option.some.inj hfj; exact hh
          | 3 => obtain rfl := Option.some.inj hfj; exact hh
          | 4 => obtain rfl := Option.some.inj hfj; exact hh
          | 5 => obtain rfl := Option.some.inj hfj; exact hh
          | 6 =>
           obtain rfl := Option.some.inj hfj
           exact ⟨xv 6, rfl, q, #[.int .i64 tp, .int .i64 ts, .int .i64 1], eq, hN, hq.row _, rfl⟩
          | 7 =>
           obtain rfl := Option.some.inj hfj
           obtain ⟨q', cs', e', hN', hq', hz'⟩ := pF_get hh
           exact ⟨xv 7, rfl, q', cs', e', hN', hq'.rowOther (hko q' e') _, hz'⟩
          | 9 =>
           obtain rfl := Option.some.inj hfj
           obtain ⟨vv, ev, q', e', hN', hq'⟩ := hh
           simp only [pF, List.map_cons, List.map_nil, List.cons.injEq, and_true] at ev
           exact ⟨vv, by simp [pF, ev], q', e', hN', hq'.rowOther (hko q' (ev.trans e')) _⟩
          | 8 => exact absurd rfl hj
          | j + 10 => simp at hfj
        ·refine FactsG.ofR rfl (fun _ _ _ _ => rfl) (fun xv wv hSw hd hrel => ?_)
         obtain ⟨q, cs, eq, hN, hq, hz⟩ := pF_get (hd ⟨7, .data⟩ (by simp) rfl _ rfl)
         have dv : xv 5 = _ := pF_get (hd ⟨5, .data⟩ (by simp) rfl _ rfl)
         have hne : xv 7 ≠ xv 6 := hrel ⟨7, .phase⟩ (by simp) rfl ⟨6, .phase⟩ (by simp) rfl (by decide) (by simp)
         refine wp_store_r 50 _ _ rfl q #[.int .i64 up, .int .i64 us, .int .i64 1] eq dv hq size50 hz (by simp [Value.oneCell']) ?_
         refine ⟨undef, rfl, below_setRow hSw hN _, fun f hf => ?_, fun j f hj hfj hh => ?_, fun j _ _ _ _ h => absurd h (by omega)⟩
         ·obtain rfl := Option.some.inj hf
          exact ⟨xv 7, rfl, q, eq, hN, hq.row _⟩
         ·have hko : ∀ q', xv 6 = .pointer (some ⟨q', 0, none⟩) → q' ≠ q := fun q' e' e2 => hne (by rw [eq, e', e2])
          match j with
          | 0 => obtain rfl := Option.some.inj hfj; exact hh
          | 1 => obtain rfl := Option.some.inj hfj; exact hh
          | 2 => obtain rfl := Option.some.inj hfj; exact hh
          | 3 => obtain rfl := Option.some.inj hfj; exact hh
          | 4 => obtain rfl := Option.some.inj hfj; exact hh
          | 5 => obtain rfl := Option.some.inj hfj; exact hh
          | 7 =>
           obtain rfl := Option.some.inj hfj
           exact ⟨xv 7, rfl, q, #[.int .i64 up, .int .i64 us, .int .i64 1], eq, hN, hq.row _, rfl⟩
          | 6 =>
           obtain rfl := Option.some.inj hfj
           obtain ⟨q', cs', e', hN', hq', hz'⟩ := pF_get hh
           exact ⟨xv 6, rfl, q', cs', e', hN', hq'.rowOther (hko q' e') _, hz'⟩
          | 8 =>
           obtain rfl := Option.some.inj hfj
           obtain ⟨vv, ev, q', e', hN', hq'⟩ := hh
           simp only [pF, List.map_cons, List.map_nil, List.cons.injEq, and_true] at ev
           exact ⟨vv, by simp [pF, ev], q', e', hN', hq'.rowOther (hko q' (ev.trans e')) _⟩
          | 9 => exact absurd rfl hj
          | j + 10 => simp at hfj
        rintro xq u2 HB hf hr
        obtain ⟨q1, ep1, hN1, B1'⟩ := pF_get (hf 8 _ (by decide) rfl)
        obtain ⟨q2, ep2, hN2, B2'⟩ := pF_get (hf 9 _ (by decide) rfl)
        clear hf hr hS hF
        replace R0 := R0.later HB
        replace R1 := R1.later HB
        replace R2 := R2.later HB
        replace R3 := R3.later HB
        replace R4 := R4.later HB
        replace h := h.later HB
        replace hb := below_on hb HB
        clear HB
        simp only [ep1, ep2]
        clear ep1 ep2
        go_wp2_with (first | refine load_r 50 _ rfl rfl _ rfl B1' Tryz.underlying50 rfl size50 ?_ | refine load_r 34 _ rfl rfl _ rfl R2 Tryz.underlying34 rfl zu ?_)
        refine (refBefore_any tp ts 1 up us uv ut ul 1 u2 hu).mono ?_
        rintro e w6 ⟨rfl, hb1⟩
        replace R0 := R0.later hb1
        replace R1 := R1.later hb1
        replace R2 := R2.later hb1
        replace R3 := R3.later hb1
        replace R4 := R4.later hb1
        replace B1' := B1'.later hb1
        replace B2' := B2'.later hb1
        replace h := h.later hb1
        replace hb := below_on hb hb1
        clear hb1
        obtain ⟨y, H1⟩ := hid_ex (bf tp ts 1 up us uv 1)
        rw [H1.out]
        cases y
        case true =>
         go_wp2_with fail
         refine (heads_any _).mono ?_
         rintro e w9 ⟨rfl, hb9⟩
         go_wp2_with fail
         go_ret
         exact ⟨rfl, below_on hb hb9⟩
        case false =>
         go_wp2_with (first | refine load_r 50 _ rfl rfl _ rfl B2' Tryz.underlying50 rfl size50 ?_ | refine load_r 34 _ rfl rfl _ rfl R1 Tryz.underlying34 rfl zt ?_)
         refine (refBefore_any up us 1 tp ts tv tt tl 1 w6 hv).mono ?_
         rintro e w7 ⟨rfl, hb1⟩
         replace R0 := R0.later hb1
         replace R1 := R1.later hb1
         replace R2 := R2.later hb1
         replace R3 := R3.later hb1
         replace R4 := R4.later hb1
         replace B1' := B1'.later hb1
         replace B2' := B2'.later hb1
         replace h := h.later hb1
         replace hb := below_on hb hb1
         clear hb1
         obtain ⟨y, H2⟩ := hid_ex (bf up us 1 tp ts tv 1)
         rw [H2.out]
         cases y
         case true =>
          go_wp2_with fail
          refine (heads_any _).mono ?_
          rintro e w9 ⟨rfl, hb9⟩
          go_wp2_with fail
          go_ret
          exact ⟨rfl, below_on hb hb9⟩
         case false =>
          have E1 := fun w => eq_mark w o.p o.s o.i up us 1
          obtain ⟨y, H3⟩ := hid_ex (decide (o.p = up) && decide (o.s = us) && decide (o.i = 1))
          rw [H3.out] at E1
          cases y
          case true =>
           go_wp2_with (first | refine load_m 50 _ rfl rfl _ _ rfl (op_ref R3) Tryz.underlying50 rfl size50 ?_ | refine load_r 50 _ rfl rfl _ rfl B2' Tryz.underlying50 rfl size50 ?_)
           refine (heads_any _).mono ?_
           rintro e w9 ⟨rfl, hb9⟩
           go_wp2_with fail
           go_ret
           exact ⟨rfl, below_on hb hb9⟩
          case false =>
           have E2 := fun w => eq_mark w p.p p.s p.i tp ts 1
           obtain ⟨y, H4⟩ := hid_ex (decide (p.p = tp) && decide (p.s = ts) && decide (p.i = 1))
           rw [H4.out] at E2
           cases y
           case true =>
            go_wp2_with (first | refine load_m 50 _ rfl rfl _ _ rfl (op_ref R3) Tryz.underlying50 rfl size50 ?_ | refine load_r 50 _ rfl rfl _ rfl B2' Tryz.underlying50 rfl size50 ?_ | refine load_m 50 _ rfl rfl _ _ rfl (op_ref R4) Tryz.underlying50 rfl size50 ?_ | refine load_r 50 _ rfl rfl _ rfl B1' Tryz.underlying50 rfl size50 ?_)
            refine (heads_any _).mono ?_
            rintro e w9 ⟨rfl, hb9⟩
            go_wp2_with fail
            go_ret
            exact ⟨rfl, below_on hb hb9⟩
           case false =>
            go_wp2_with (first | refine load_m 50 _ rfl rfl _ _ rfl (op_ref R3) Tryz.underlying50 rfl size50 ?_ | refine load_r 50 _ rfl rfl _ rfl B2' Tryz.underlying50 rfl size50 ?_ | refine load_m 50 _ rfl rfl _ _ rfl (op_ref R4) Tryz.underlying50 rfl size50 ?_ | refine load_r 50 _ rfl rfl _ rfl B1' Tryz.underlying50 rfl size50 ?_ | refine load_r 27 _ rfl rfl _ rfl R0 Tryz.underlying27 rfl size27 ?_)
            clear E1 E2
            refine (there_any' x va vw vm ve ⟨tp, ts, 1⟩ w7 h hs).mono ?_
            rintro e w8 ⟨y, rfl, hA, hb1⟩
            replace R0 := R0.later hb1
            replace R1 := R1.later hb1
            replace R2 := R2.later hb1
            replace R3 := R3.later hb1
            replace R4 := R4.later hb1
            replace B1' := B1'.later hb1
            replace B2' := B2'.later hb1
            replace h := h.later hb1
            replace hb := below_on hb hb1
            clear hb1
            cases y
            case true =>
             clear hA
             go_wp2_with fail
             refine (heads_any _).mono ?_
             rintro e w9 ⟨rfl, hb9⟩
             go_wp2_with fail
             go_ret
             exact ⟨rfl, below_on hb hb9⟩
            case false =>
             have A1 : Hid (Away x ⟨tp, ts, 1⟩) := hA rfl
             clear hA
             go_wp2_with (first | refine load_r 50 _ rfl rfl _ rfl B2' Tryz.underlying50 rfl size50 ?_ | refine load_r 27 _ rfl rfl _ rfl R0 Tryz.underlying27 rfl size27 ?_)
             refine (there_any' x va vw vm ve ⟨up, us, 1⟩ w8 h hs).mono ?_
             rintro e w10 ⟨y, rfl, hA, hb1⟩
             replace R0 := R0.later hb1
             replace R1 := R1.later hb1
             replace R2 := R2.later hb1
             replace R3 := R3.later hb1
             replace R4 := R4.later hb1
             replace B1' := B1'.later hb1
             replace B2' := B2'.later hb1
             replace h := h.later hb1
             replace hb := below_on hb hb1
             clear hb1
             cases y
             case true =>
              clear hA
              go_wp2_with fail
              refine (heads_any _).mono ?_
              rintro e w9 ⟨rfl, hb9⟩
              go_wp2_with fail
              go_ret
              exact ⟨rfl, below_on hb hb9⟩
             case false =>
              have A2 : Hid (Away x ⟨up, us, 1⟩) := hA rfl
              clear hA
              go_wp2_with fail
              have zx : (Tryz.prog.info? 27).map (·.size) = some ([Value.int .i64 x.k, .int .i64 x.b, va, vw, vm, ve] : List Value).length := size27
              have ztx : (Tryz.prog.info? 34).map (·.size) = some (txc tp ts tv tt tl).length := by rw [txc_length hv]; exact size34
              have zux : (Tryz.prog.info? 34).map (·.size) = some (txc up us uv ut ul).length := by rw [txc_length hu]; exact size34
              have zo : (Tryz.prog.info? 52).map (·.size) = some o.cells.length := size52
              have zp : (Tryz.prog.info? 52).map (·.size) = some p.cells.length := size52
              have HC := doc_comm (x := x) (o := o) (p := p) (tt := tt) (ut := ut) HY.out (fun k => by
               have := HE.out
               rw [k.1, k.2] at this
               simp at this) H1.out H2.out (fun k => by
               have := H3.out
               rw [k.1, k.2.1, k.2.2] at this
               simp at this) (fun k => by
               have := H4.out
               rw [k.1, k.2.1, k.2.2] at this
               simp at this) A1.out A2.out
              have s1 := sc_do FW.out.sc o tp ts tv tt 1
              have s2 := sc_do FW.out.sc p up us uv ut 1
              have s12 := (sc_do s1 p up us uv ut 1).sm (by omega) (by omega)
              obtain ⟨z1, Z1⟩ : ∃ z, Hid (doc x o tp ts tv tt 1 = z) := ⟨_, rfl⟩
              obtain ⟨z2, Z2⟩ : ∃ z, Hid (doc x p up us uv ut 1 = z) := ⟨_, rfl⟩
              rw [Z1.out] at HC s1 s12
              rw [Z2.out] at HC s2
              obtain ⟨z3, Z3⟩ : ∃ z, Hid (doc z1 p up us uv ut 1 = z) := ⟨_, rfl⟩
              have Z4 : Hid (doc z2 o tp ts tv tt 1 = z3) := HC.symm.trans Z3.out
              rw [Z3.out] at s12
              have CA : ∀ w', Below w10.heap.size w10 w' → Calls Tryz.prog 21 #[CV x.k x.b va vw vm ve, TxV tp ts tv tt tl, .int .i64 1, .agg o.cells.toArray] w' (Gives z1 w') := fun w' hb => by
               have := do_c x va vw vm ve tp ts tv tt tl 1 o w' hv ox (h.later hb) hs
               rw [Z1.out] at this
               exact this
              have CB : ∀ w', Below w10.heap.size w10 w' → Calls Tryz.prog 21 #[CV x.k x.b va vw vm ve, TxV up us uv ut ul, .int .i64 1, .agg p.cells.toArray] w' (Gives z2 w') := fun w' hb => by
               have := do_c x va vw vm ve up us uv ut ul 1 p w' hu px (h.later hb) hs
               rw [Z2.out] at this
               exact this
              have CAB : ∀ w' va vw vm ve, Four w' z1 va vw vm ve → Calls Tryz.prog 21 #[CV z1.k z1.b va vw vm ve, TxV up us uv ut ul, .int .i64 1, .agg p.cells.toArray] w' (Gives z3 w') := fun w' va vw vm ve hf => by
               have := do_c z1 va vw vm ve up us uv ut ul 1 p w' hu px hf (s1.sm (by omega) (by omega))
               rw [Z3.out] at this
               exact this
              have CBA : ∀ w' va vw vm ve, Four w' z2 va vw vm ve → Calls Tryz.prog 21 #[CV z2.k z2.b va vw vm ve, TxV tp ts tv tt tl, .int .i64 1, .agg o.cells.toArray] w' (Gives z3 w') := fun w' va vw vm ve hf => by
               have := do_c z2 va vw vm ve tp ts tv tt tl 1 o w' hv ox hf (s2.sm (by omega) (by omega))
               rw [Z4.out] at this
               exact this
              clear HC s1 s2 Z1 Z2 Z3 Z4 FW HY hs hl A1 A2 H1 H2 H3 H4 HE B1' B2'
              have hS : Calm.Stays (fun w' => Below w10.heap.size w10 w') := fun wa wb h hb => below_on h hb
              have hF : Facts.Stay [pF 0 (eqP (.agg ([Value.int .i64 x.k, .int .i64 x.b, va, vw, vm, ve] : List Value).toArray)), pF 1 (eqP (.agg (txc tp ts tv tt tl).toArray)), pF 2 (eqP (.agg o.cells.toArray)), pF 3 (cP z1), pF 4 (eqP (.agg (txc up us uv ut ul).toArray)), pF 5 (eqP (.agg p.cells.toArray)), pF 6 (cP z3), pF 7 (eqP (.agg ([Value.int .i64 x.k, .int .i64 x.b, va, vw, vm, ve] : List Value).toArray)), pF 8 (eqP (.agg (txc up us uv ut ul).toArray)), pF 9 (eqP (.agg p.cells.toArray)), pF 10 (cP z2), pF 11 (eqP (.agg (txc tp ts tv tt tl).toArray)), pF 12 (eqP (.agg o.cells.toArray)), pF 13 (cP z3), pF 14 (eqP (.bool true)), pF 15 (eqP (.bool true)), pF 16 (eqP (.bool true)), pF 17 (eqP (.bool true)), pF 18 (eqP (.bool true))] := stay_of (by simp only [List.forall_mem_cons]; exact ⟨⟨_, _, rfl, eqP_keeps _⟩, ⟨_, _, rfl, eqP_keeps _⟩, ⟨_, _, rfl, eqP_keeps _⟩, ⟨_, _, rfl, cP_keeps _⟩, ⟨_, _, rfl, eqP_keeps _⟩, ⟨_, _, rfl, eqP_keeps _⟩, ⟨_, _, rfl, cP_keeps _⟩, ⟨_, _, rfl, eqP_keeps _⟩, ⟨_, _, rfl, eqP_keeps _⟩, ⟨_, _, rfl, eqP_keeps _⟩, ⟨_, _, rfl, cP_keeps _⟩, ⟨_, _, rfl, eqP_keeps _⟩, ⟨_, _, rfl, eqP_keeps _⟩, ⟨_, _, rfl, cP_keeps _⟩, ⟨_, _, rfl, eqP_keeps _⟩, ⟨_, _, rfl, eqP_keeps _⟩, ⟨_, _, rfl, eqP_keeps _⟩, ⟨_, _, rfl, eqP_keeps _⟩, ⟨_, _, rfl, eqP_keeps _⟩, fun _ h => by cases h⟩)
              refine FactsG.region (by kernel_rfl) (by kernel_rfl) (fun w' => Below w10.heap.size w10 w') (fun xv => { tmps := #[CV x.k x.b va vw vm ve, TxV tp ts tv tt tl, TxV up us uv ut ul, o.val, p.val, Value.pointer (some { block := w.heap.size, off := 0 }), Value.pointer (some { block := w.heap.size + 1, off := 0 }), Value.pointer (some { block := w.heap.size + 1 + 1, off := 0 }), Value.pointer (some { block := w.heap.size + 1 + 1 + 1, off := 0 }), Value.pointer (some { block := w.heap.size + 1 + 1 + 1 + 1, off := 0 }), xv 18, Value.pointer (some { block := q1, off := 0 }), Value.pointer (some { block := q2, off := 0 }), Value.agg (cvc x.k x.b va vw vm ve), Value.bool true, Value.bool false, Value.bool false, Value.agg (cvc x.k x.b va vw vm ve), Value.bool true, Value.bool false, Value.bool false, Value.bool false, Value.agg (txc tp ts tv tt tl).toArray, Value.bool true, Value.bool false, Value.bool false, Value.bool false, Value.agg (txc up us uv ut ul).toArray, Value.bool true, Value.bool false, Value.bool false, Value.bool false, Value.pointer (some { block := w.heap.size + 1, off := 0 }), Value.agg #[Value.int IntKind.i64 tp, Value.int IntKind.i64 ts], Value.pointer (some { block := w.heap.size + 1 + 1, off := 0 }), Value.agg #[Value.int IntKind.i64 up, Value.int IntKind.i64 us], Value.bool false, Value.bool false, Value.bool false, Value.pointer (some { block := w.heap.size + 1 + 1 + 1, off := 6 }), Value.string o.text, Value.int IntKind.i64 ↑o.text.size, Value.bool false, Value.bool false, Value.bool false, Value.pointer (some { block := w.heap.size + 1 + 1 + 1 + 1, off := 6 }), Value.string p.text, Value.int IntKind.i64 ↑p.text.size, Value.bool false, Value.bool false, undef, xq 0, xq 1, xq 2, xq 3, xq 4, xq 5, Value.agg #[Value.int IntKind.i64 tp, Value.int IntKind.i64 ts, Value.int IntKind.i64 1], Value.agg (txc up us uv ut ul).toArray, Value.bool false, Value.bool false, Value.agg #[Value.int IntKind.i64 up, Value.int IntKind.i64 us, Value.int IntKind.i64 1], Value.agg (txc tp ts tv tt tl).toArray, Value.bool false, Value.bool false, Value.bool false, Value.pointer (some { block := w.heap.size + 1 + 1 + 1, off := 7 }), Value.agg #[Value.int IntKind.i64 o.p, Value.int IntKind.i64 o.s, Value.int IntKind.i64 o.i], Value.agg #[Value.int IntKind.i64 up, Value.int IntKind.i64 us, Value.int IntKind.i64 1], Value.bool false, Value.bool false, Value.bool false, Value.pointer (some { block := w.heap.size + 1 + 1 + 1 + 1, off := 7 }), Value.agg #[Value.int IntKind.i64 p.p, Value.int IntKind.i64 p.s, Value.int IntKind.i64 p.i], Value.agg #[Value.int IntKind.i64 tp, Value.int IntKind.i64 ts, Value.int IntKind.i64 1], Value.bool false, Value.bool false, Value.bool false, Value.agg (cvc x.k x.b va vw vm ve), Value.agg #[Value.int IntKind.i64 tp, Value.int IntKind.i64 ts, Value.int IntKind.i64 1], Value.bool false, Value.bool false, Value.bool false, Value.agg (cvc x.k x.b va vw vm ve), Value.agg #[Value.int IntKind.i64 up, Value.int IntKind.i64 us, Value.int IntKind.i64 1], Value.bool false, Value.bool false, undef, xv 0, xv 1, xv 2, xv 3, xv 4, xv 5, xv 6, xv 7, xv 8, xv 9, xv 10, xv 11, xv 12, xv 13, xv 14, xv 15, xv 16, xv 17], defers := [] }) [pF 0 (eqP (.agg ([Value.int .i64 x.k, .int .i64 x.b, va, vw, vm, ve] : List Value).toArray)), pF 1 (eqP (.agg (txc tp ts tv tt tl).toArray)), pF 2 (eqP (.agg o.cells.toArray)), pF 3 (cP z1), pF 4 (eqP (.agg (txc up us uv ut ul).toArray)), pF 5 (eqP (.agg p.cells.toArray)), pF 6 (cP z3), pF 7 (eqP (.agg ([Value.int .i64 x.k, .int .i64 x.b, va, vw, vm, ve] : List Value).toArray)), pF 8 (eqP (.agg (txc up us uv ut ul).toArray)), pF 9 (eqP (.agg p.cells.toArray)), pF 10 (cP z2), pF 11 (eqP (.agg (txc tp ts tv tt tl).toArray)), pF 12 (eqP (.agg o.cells.toArray)), pF 13 (cP z3), pF 14 (eqP (.bool true)), pF 15 (eqP (.bool true)), pF 16 (eqP (.bool true)), pF 17 (eqP (.bool true)), pF 18 (eqP (.bool true))] (fun _ _ _ _ => True) (fun _ _ _ _ _ => trivial) _ rfl rfl (by kernel_rfl) (fun j => [undef, undef, undef, undef, undef, undef, undef, undef, undef, undef, undef, undef, undef, undef, undef, undef, undef, undef, Value.bool false].getD j undef) rfl (Below.refl _ w10).drew ⟨?_, ?_, ?_, ?_, ?_, ?_, ?_, ?_, ?_, ?_, ?_, ?_, ?_, ?_, ?_, ?_, ?_, ?_, ?_, trivial⟩ ?_
              ·exact FactsG.of rfl (fun _ _ _ => trivial) (fun _ _ _ _ => rfl) (Facts.loadP hS hF (fun _ _ => rfl) 27 Tryz.underlying27 rfl zx _ rfl rfl (fun xv wv hSw hd => by rfl) (fun wv hSw => Rw.whole (cs := [Value.int .i64 x.k, .int .i64 x.b, va, vw, vm, ve]) (R0.later hSw)))
              ·exact FactsG.of rfl (fun _ _ _ => trivial) (fun _ _ _ _ => rfl) (Facts.loadP hS hF (fun _ _ => rfl) 34 Tryz.underlying34 rfl ztx _ rfl rfl (fun xv wv hSw hd => by rfl) (fun wv hSw => Rw.whole (cs := (txc tp ts tv tt tl)) (R1.later hSw)))
              ·exact FactsG.of rfl (fun _ _ _ => trivial) (fun _ _ _ _ => rfl) (Facts.loadP hS hF (fun _ _ => rfl) 52 Tryz.underlying52 rfl zo _ rfl rfl (fun xv wv hSw hd => by rfl) (fun wv hSw => Rw.whole (cs := o.cells) (R3.later hSw)))
              ·refine FactsG.of rfl (fun _ _ _ => trivial) (fun _ _ _ _ => rfl) (Facts.call4P hS hF (fun _ _ => rfl) rfl (by kernel_rfl) rfl (fun xv wv hSw hd => ?_))
               have d0 : xv 0 = _ := pF_get (hd ⟨0, .data⟩ (by simp) rfl _ rfl)
               have d1 : xv 1 = _ := pF_get (hd ⟨1, .data⟩ (by simp) rfl _ rfl)
               have d2 : xv 2 = _ := pF_get (hd ⟨2, .data⟩ (by simp) rfl _ rfl)
               show Calls Tryz.prog 21 #[xv 0, xv 1, .int .i64 1, xv 2] wv _
               rw [d0, d1, d2]
               exact (CA wv hSw).mono fun e w' h => gives_p h
              ·exact FactsG.of rfl (fun _ _ _ => trivial) (fun _ _ _ _ => rfl) (Facts.loadP hS hF (fun _ _ => rfl) 34 Tryz.underlying34 rfl zux _ rfl rfl (fun xv wv hSw hd => by rfl) (fun wv hSw => Rw.whole (cs := (txc up us uv ut ul)) (R2.later hSw)))
              ·exact FactsG.of rfl (fun _ _ _ => trivial) (fun _ _ _ _ => rfl) (Facts.loadP hS hF (fun _ _ => rfl) 52 Tryz.underlying52 rfl zp _ rfl rfl (fun xv wv hSw hd => by rfl) (fun wv hSw => Rw.whole (cs := p.cells) (R4.later hSw)))
              ·refine FactsG.of rfl (fun _ _ _ => trivial) (fun _ _ _ _ => rfl) (Facts.call4P hS hF (fun _ _ => rfl) rfl (by kernel_rfl) rfl (fun xv wv hSw hd => ?_))
               have d3 := pF_get (hd ⟨3, .data⟩ (by simp) rfl _ rfl)
               have d4 : xv 4 = _ := pF_get (hd ⟨4, .data⟩ (by simp) rfl _ rfl)
               have d5 : xv 5 = _ := pF_get (hd ⟨5, .data⟩ (by simp) rfl _ rfl)
               show Calls Tryz.prog 21 #[xv 3, xv 4, .int .i64 1, xv 5] wv _
               obtain ⟨ya, yw, ym, ye, e2, f2⟩ := d3
               rw [e2, d4, d5]
               exact (CAB wv _ _ _ _ f2).mono fun e w' h => gives_p h
              ·exact FactsG.of rfl (fun _ _ _ => trivial) (fun _ _ _ _ => rfl) (Facts.loadP hS hF (fun _ _ => rfl) 27 Tryz.underlying27 rfl zx _ rfl rfl (fun xv wv hSw hd => by rfl) (fun wv hSw => Rw.whole (cs := [Value.int .i64 x.k, .int .i64 x.b, va, vw, vm, ve]) (R0.later hSw)))
              ·exact FactsG.of rfl (fun _ _ _ => trivial) (fun _ _ _ _ => rfl) (Facts.loadP hS hF (fun _ _ => rfl) 34 Tryz.underlying34 rfl zux _ rfl rfl (fun xv wv hSw hd => by rfl) (fun wv hSw => Rw.whole (cs := (txc up us uv ut ul)) (R2.later hSw)))
              ·exact FactsG.of rfl (fun _ _ _ => trivial) (fun _ _ _ _ => rfl) (Facts.loadP hS hF (fun _ _ => rfl) 52 Tryz.underlying52 rfl zp _ rfl rfl (fun xv wv hSw hd => by rfl) (fun wv hSw => Rw.whole (cs := p.cells) (R4.later hSw)))
              ·refine FactsG.of rfl (fun _ _ _ => trivial) (fun _ _ _ _ => rfl) (Facts.call4P hS hF (fun _ _ => rfl) rfl (by kernel_rfl) rfl (fun xv wv hSw hd => ?_))
               have d7 : xv 7 = _ := pF_get (hd ⟨7, .data⟩ (by simp) rfl _ rfl)
               have d8 : xv 8 = _ := pF_get (hd ⟨8, .data⟩ (by simp) rfl _ rfl)
               have d9 : xv 9 = _ := pF_get (hd ⟨9, .data⟩ (by simp) rfl _ rfl)
               show Calls Tryz.prog 21 #[xv 7, xv 8, .int .i64 1, xv 9] wv _
               rw [d7, d8, d9]
               exact (CB wv hSw).mono fun e w' h => gives_p h
              ·exact FactsG.of rfl (fun _ _ _ => trivial) (fun _ _ _ _ => rfl) (Facts.loadP hS hF (fun _ _ => rfl) 34 Tryz.underlying34 rfl ztx _ rfl rfl (fun xv wv hSw hd => by rfl) (fun wv hSw => Rw.whole (cs := (txc tp ts tv tt tl)) (R1.later hSw)))
              ·exact FactsG.of rfl (fun _ _ _ => trivial) (fun _ _ _ _ => rfl) (Facts.loadP hS hF (fun _ _ => rfl) 52 Tryz.underlying52 rfl zo _ rfl rfl (fun xv wv hSw hd => by rfl) (fun wv hSw => Rw.whole (cs := o.cells) (R3.later hSw)))
              ·refine FactsG.of rfl (fun _ _ _ => trivial) (fun _ _ _ _ => rfl) (Facts.call4P hS hF (fun _ _ => rfl) rfl (by kernel_rfl) rfl (fun xv wv hSw hd => ?_))
               have d10 := pF_get (hd ⟨10, .data⟩ (by simp) rfl _ rfl)
               have d11 : xv 11 = _ := pF_get (hd ⟨11, .data⟩ (by simp) rfl _ rfl)
               have d12 : xv 12 = _ := pF_get (hd ⟨12, .data⟩ (by simp) rfl _ rfl)
               show Calls Tryz.prog 21 #[xv 10, xv 11, .int .i64 1, xv 12] wv _
               obtain ⟨ya, yw, ym, ye, e2, f2⟩ := d10
               rw [e2, d11, d12]
               exact (CBA wv _ _ _ _ f2).mono fun e w' h => gives_p h
              ·refine FactsG.of rfl (fun _ _ _ => trivial) (fun _ _ _ _ => rfl) (Facts.call2P hS hF (fun _ _ => rfl) rfl (by kernel_rfl) rfl (fun xv wv hSw hd => ?_))
               have d6 := pF_get (hd ⟨6, .data⟩ (by simp) rfl _ rfl)
               have d13 := pF_get (hd ⟨13, .data⟩ (by simp) rfl _ rfl)
               show Calls Tryz.prog 17 #[xv 6, xv 13] wv _
               obtain ⟨ya, yw, ym, ye, e2, f2⟩ := d6
               obtain ⟨za, zw, zm, ze, e3, f3⟩ := d13
               rw [e2, e3]
               exact (same_any z3 _ _ _ _ _ _ _ _ wv f2 f3 s12).mono fun e w' h => tells_p h
              ·exact FactsG.of rfl (fun _ _ _ => trivial) (fun _ _ _ _ => rfl) (Facts.pureP hS hF (fun _ _ => rfl) rfl (fun xv wv hSw hd => by
                have d14 : xv 14 = _ := pF_get (hd ⟨14, .data⟩ (by simp) rfl _ rfl)
                simp only [d14]
                go_simp))
              ·refine FactsG.of rfl (fun _ _ _ => trivial) (fun xv wv hSw hd => by have dg : xv 15 = _ := pF_get (hd ⟨15, .guard⟩ (by simp) rfl _ rfl); simp only [dg]; rfl) (Facts.call0P hS hF (fun _ _ => rfl) rfl (by kernel_rfl) rfl (fun xv wv hSw hd => ?_))
               exact (heads_any wv).mono fun e w' h => tells_p h
              ·exact FactsG.of rfl (fun _ _ _ => trivial) (fun _ _ _ _ => rfl) (Facts.pureP hS hF (fun _ _ => rfl) rfl (fun xv wv hSw hd => by
                have d15 : xv 15 = _ := pF_get (hd ⟨15, .data⟩ (by simp) rfl _ rfl)
                have d16 : xv 16 = _ := pF_get (hd ⟨16, .data⟩ (by simp) rfl _ rfl)
                simp only [d15, d16]
                go_simp))
              ·exact FactsG.of rfl (fun _ _ _ => trivial) (fun _ _ _ _ => rfl) (Facts.pureP hS hF (fun _ _ => rfl) rfl (fun xv wv hSw hd => by
                have d17 : xv 17 = _ := pF_get (hd ⟨17, .data⟩ (by simp) rfl _ rfl)
                simp only [d17]
                go_simp))
              intro x8 w11 hb8 hf
              have e18 : x8 18 = _ := pF_get (hf 18 _ (by decide) rfl)
              rw [e18]
              go_wp2_with fail
              go_ret
              exact ⟨rfl, below_on hb hb8⟩
end Go.Proofs.YtjbbmcommnhgeaaGreat
namespace Go.Proofs.YtjbbmcommnhgeaaGreat
open Go.ChangeShapes Go.WideShapes Go.ChangeAt Go.RowKit
def OIs (w : World) (v : Value) (l : List O) : Prop := l.length ≤ maxLen ∧ ((v = .slice none 0 0 ∧ l = []) ∨ ∃ ad c, v = .slice (some ad) l.length c ∧ (0 < l.length → ∃ g o, ad = ⟨g, o, none⟩ ∧ ∀ i (h : i < l.length), w.rangeAt g (o + i * 10) l[i].cells))
theorem OIs.has {w : World} {v : Value} {l : List O} (h : OIs w v l) : OHas w v l := by
 obtain ⟨hm, ⟨rfl, rfl⟩ | ⟨ad, c, rfl, hd⟩⟩ := h
 ·exact ⟨none, 0, rfl, hm, fun h => by simp at h⟩
 ·refine ⟨_, c, rfl, hm, fun h => ?_⟩
  obtain ⟨g, o, rfl, hd2⟩ := hd h
  exact ⟨g, o, rfl, hd2⟩
theorem OIs.later {w w' : World} {v : Value} {l : List O} (h : OIs w v l) (hb : Below w.heap.size w w') : OIs w' v l := by
 obtain ⟨hm, ⟨rfl, rfl⟩ | ⟨ad, c, rfl, hd⟩⟩ := h
 ·exact ⟨hm, .inl ⟨rfl, rfl⟩⟩
 ·refine ⟨hm, .inr ⟨ad, c, rfl, fun h => ?_⟩⟩
  obtain ⟨g, o, rfl, hd2⟩ := hd h
  exact ⟨g, o, rfl, fun i hi => range_later (hd2 i hi) hb⟩
theorem vals_of_ints : ∀ (cs : List Value), (∀ i (h : i < cs.length), ∃ n : Int, cs[i] = .int .i64 n) → ∃ l : List Int, cs = vals l
 | [], _ => ⟨[], rfl⟩
 | c :: cs, h => by
  obtain ⟨n, hn⟩ := h 0 (by simp)
  obtain ⟨l, hl⟩ := vals_of_ints cs (fun i hi => by have := h (i + 1) (by simpa using hi); simpa using this)
  refine ⟨n :: l, ?_⟩
  simp only [List.getElem_cons_zero] at hn
  rw [hn, hl]
  rfl
section
variable {H : Type} {enc : TypeId × Value → H} {w : World} {base : Nat} {spare : Nat → Bool} {held : Bool}
theorem c3 : Tryz.prog.cellsOf 3 = 1 := by kernel_rfl
theorem c9 : Tryz.prog.cellsOf 9 = 1 := by kernel_rfl
theorem c29 : Tryz.prog.cellsOf 29 = 2 := by kernel_rfl
theorem c31 : Tryz.prog.cellsOf 31 = 13 := by kernel_rfl
theorem c32 : Tryz.prog.cellsOf 32 = 1 := by kernel_rfl
theorem c40 : Tryz.prog.cellsOf 50 = 3 := by kernel_rfl
theorem c67 : Tryz.prog.cellsOf 52 = 10 := by kernel_rfl
theorem c34 : Tryz.prog.cellsOf 34 = 17 := by kernel_rfl
theorem cells_dot {fuel : Nat} {cs : List Value} {x : DataW H × List MemPlace} (h : DataW.trod enc Tryz.prog w base spare held fuel 29 cs = some x) : ∃ p s, cs = [.int .i64 p, .int .i64 s] := by
 obtain ⟨xs, k, rfl, _, hcl, hxl, hf⟩ := DataW.trod_struct Tryz.underlying29 h
 rw [c29] at hcl
 match xs, hxl, cs, hcl with
 | [y0, y1], _, [v0, v1], _ =>
  have g0 := hf 0 _ rfl
  have g1 := hf 1 _ rfl
  simp [c3] at g0 g1
  obtain ⟨n0, h0, _⟩ := DataW.trod_int Tryz.underlying3 g0
  obtain ⟨n1, h1, _⟩ := DataW.trod_int Tryz.underlying3 g1
  simp at h0 h1
  exact ⟨n0, n1, by rw [h0, h1]⟩
theorem cells_mark {fuel : Nat} {cs : List Value} {x : DataW H × List MemPlace} (h : DataW.trod enc Tryz.prog w base spare held fuel 50 cs = some x) : ∃ p s i, cs = [.int .i64 p, .int .i64 s, .int .i64 i] := by
 obtain ⟨xs, k, rfl, _, hcl, hxl, hf⟩ := DataW.trod_struct Tryz.underlying50 h
 rw [c40] at hcl
 match xs, hxl, cs, hcl with
 | [y0, y1], _, [v0, v1, v2], _ =>
  have g0 := hf 0 _ rfl
  have g1 := hf 1 _ rfl
  simp [c3, c29] at g0 g1
  obtain ⟨p, s, h0⟩ := cells_dot g0
  obtain ⟨n1, h1, _⟩ := DataW.trod_int Tryz.underlying3 g1
  simp at h0 h1
  exact ⟨p, s, n1, by rw [h0.1, h0.2, h1]⟩
theorem cells_op {fuel : Nat} {cs : List Value} {x : DataW H × List MemPlace} (h : DataW.trod enc Tryz.prog w base spare held fuel 52 cs = some x) : ∃ o : O, cs = o.cells := by
 obtain ⟨xs, k, rfl, _, hcl, hxl, hf⟩ := DataW.trod_struct Tryz.underlying52 h
 rw [c67] at hcl
 match xs, hxl, cs, hcl with
 | [y0, y1, y2, y3, y4, y5, y6, y7], _, [v0, v1, v2, v3, v4, v5, v6, v7, v8, v9], _ =>
  have g0 := hf 0 _ rfl
  have g1 := hf 1 _ rfl
  have g2 := hf 2 _ rfl
  have g3 := hf 3 _ rfl
  have g4 := hf 4 _ rfl
  have g5 := hf 5 _ rfl
  have g6 := hf 6 _ rfl
  have g7 := hf 7 _ rfl
  simp [c3, c9, c40] at g0 g1 g2 g3 g4 g5 g6 g7
  obtain ⟨n0, h0, _⟩ := DataW.trod_int Tryz.underlying3 g0
  obtain ⟨n1, h1, _⟩ := DataW.trod_string Tryz.underlying9 g1
  obtain ⟨n2, h2, _⟩ := DataW.trod_string Tryz.underlying9 g2
  obtain ⟨n3, h3, _⟩ := DataW.trod_int Tryz.underlying3 g3
  obtain ⟨n4, h4, _⟩ := DataW.trod_int Tryz.underlying3 g4
  obtain ⟨n5, h5, _⟩ := DataW.trod_int Tryz.underlying3 g5
  obtain ⟨n6, h6, _⟩ := DataW.trod_string Tryz.underlying9 g6
  obtain ⟨p, s, i, h7⟩ := cells_mark g7
  simp at h0 h1 h2 h3 h4 h5 h6 h7
  obtain ⟨h7, h8, h9⟩ := h7
  exact ⟨⟨n0, n1, n2, n3, n4, n5, n6, p, s, i⟩, by rw [h0, h1, h2, h3, h4, h5, h6, h7, h8, h9]⟩
theorem cells_ops {fuel : Nat} {cs : List Value} {x : DataW H × List MemPlace} (h : DataW.trod enc Tryz.prog w base spare held fuel 32 cs = some x) : ∃ (v : Value) (l : List O), cs = [v] ∧ OIs w v l := by
 rcases DataW.trod_slice Tryz.underlying32 h with ⟨h0, _⟩ | ⟨a, len, cap, elems, rest, m, hm, hcs, _, hba, hl, hmx, hlen, hel, _, _⟩
 ·exact ⟨_, [], h0, Nat.zero_le _, .inl ⟨rfl, rfl⟩⟩
 ·have each : ∀ i, i < len → ∃ o : O, ∀ j u, o.cells[j]? = some u → w.cell? (a.add (i * 10 + j)) = some u := by
   intro i hi
   have hi' := hel i hi
   rw [c67, List.getElem?_eq_getElem (by omega)] at hi'
   obtain ⟨cs', h1, h2⟩ := Option.bind_eq_some_iff.1 hi'
   obtain ⟨_, hlen', hcell⟩ := World.cells?_some h1
   obtain ⟨o, rfl⟩ := cells_op h2
   refine ⟨o, fun j u hu => ?_⟩
   have hj : j < 10 := (List.getElem?_eq_some_iff.1 hu).1
   have e := hcell j (by omega)
   rw [Deep.add_add] at e
   rw [e]
   exact hu
  have hinh : Inhabited O := ⟨⟨0, noS, noS, 0, 0, 0, noS, 0, 0, 0⟩⟩
  obtain ⟨f, hk⟩ := Deep.choose_lt each
  refine ⟨_, (List.range len).map f, hcs, by simp; omega, .inr ⟨a, cap, by simp, fun h0 => ?_⟩⟩
  have h0' : 0 < len := by simpa using h0
  obtain ⟨b, off, spot⟩ := a
  have q0 := hk 0 h0' 0 _ rfl
  have hspot : spot = none := by simpa [Addr.add] using World.cell?_spot q0
  subst hspot
  refine ⟨b, off, rfl, fun i hi j u hu => ?_⟩
  have hi' : i < len := by simpa using hi
  have := hk i hi' j u (by simpa using hu)
  rw [Addr.add_mid] at this
  rw [Nat.add_assoc]
  exact this
theorem cells_tx {fuel : Nat} {cs : List Value} {x : DataW H × List MemPlace} (h : DataW.trod enc Tryz.prog w base spare held fuel 34 cs = some x) : ∃ (p s : Int) (v : List Int) (t : Int) (sl : Value) (l : List O), cs = txc p s v t sl ∧ v.length = 13 ∧ OIs w sl l := by
 obtain ⟨xs, k, rfl, _, hcl, hxl, hf⟩ := DataW.trod_struct Tryz.underlying34 h
 rw [c34] at hcl
 match xs, hxl with
 | [y0, y1, y2, y3], _ =>
  have g0 := hf 0 _ rfl
  have g1 := hf 1 _ rfl
  have g2 := hf 2 _ rfl
  have g3 := hf 3 _ rfl
  simp [c3, c29, c31, c32] at g0 g1 g2 g3
  obtain ⟨p, s, h0⟩ := cells_dot g0
  obtain ⟨xs1, m, _, _, hlen, hxs, hi⟩ := DataW.trod_array Tryz.underlying31 g1
  obtain ⟨v, hv⟩ := vals_of_ints ((cs.drop 2).take 13) (fun i hlt => by
   have hi13 : i < 13 := by simp at hlt; omega
   have hq := hi i hi13
   rw [c3, List.getElem?_eq_getElem (show i < xs1.length by omega)] at hq
   obtain ⟨n, hn, _⟩ := DataW.trod_int Tryz.underlying3 hq
   refine ⟨n, ?_⟩
   rw [Nat.mul_one, List.drop_eq_getElem_cons hlt] at hn
   simpa using hn)
  have hv13 : v.length = 13 := by
   have := congrArg List.length hv
   rw [vals_length] at this
   simp at this
   omega
  obtain ⟨t, h2, _⟩ := DataW.trod_int Tryz.underlying3 g2
  obtain ⟨sl, l, h3, hl⟩ := cells_ops g3
  refine ⟨p, s, v, t, sl, l, ?_, hv13, hl⟩
  unfold txc
  rw [← hv]
  match cs, hcl with
  | [a0, a1, a2, a3, a4, a5, a6, a7, a8, a9, a10, a11, a12, a13, a14, a15, a16], _ =>
   simp at h0 h2 h3 ⊢
   exact ⟨h0.1, h0.2, h2, h3⟩
theorem rows_split {α : Type} {f : α → List Value} {S : Nat} (hf : ∀ x, (f x).length = S) : ∀ (l : List α) (j : Nat) (u : Value), (rows f l)[j]? = some u → ∃ i r, ∃ h : i < l.length, r < S ∧ j = i * S + r ∧ (f l[i])[r]? = some u
 | [], j, u, h => by simp [rows] at h
 | x :: l, j, u, h => by
  rw [rows_cons] at h
  rcases Nat.lt_or_ge j S with hj | hj
  ·rw [List.getElem?_append_left (by rw [hf]; exact hj)] at h
   exact ⟨0, j, by simp, hj, by omega, h⟩
  ·rw [List.getElem?_append_right (by rw [hf]; exact hj), hf] at h
   obtain ⟨i, r, hi, hr, e, hu⟩ := rows_split hf l (j - S) u h
   exact ⟨i + 1, r, by simpa using hi, hr, by rw [Nat.succ_mul]; omega, hu⟩
theorem c4 : Tryz.prog.cellsOf 4 = 1 := by kernel_rfl
theorem c22 : Tryz.prog.cellsOf 22 = 1 := by kernel_rfl
theorem c23 : Tryz.prog.cellsOf 23 = 1 := by kernel_rfl
theorem c24 : Tryz.prog.cellsOf 24 = 1 := by kernel_rfl
theorem c25 : Tryz.prog.cellsOf 25 = 1 := by kernel_rfl
theorem c27 : Tryz.prog.cellsOf 27 = 6 := by kernel_rfl
theorem c42 : Tryz.prog.cellsOf 71 = 4 := by kernel_rfl
theorem c58 : Tryz.prog.cellsOf 64 = 5 := by kernel_rfl
theorem c59 : Tryz.prog.cellsOf 65 = 1 := by kernel_rfl
theorem c61 : Tryz.prog.cellsOf 67 = 3 := by kernel_rfl
theorem c63 : Tryz.prog.cellsOf 69 = 9 := by kernel_rfl
theorem by42 : Tryz.prog.bytesOf 71 = 32 := by kernel_rfl
theorem by58 : Tryz.prog.bytesOf 64 = 48 := by kernel_rfl
theorem by61 : Tryz.prog.bytesOf 67 = 48 := by kernel_rfl
theorem by63 : Tryz.prog.bytesOf 69 = 96 := by kernel_rfl
theorem cells_rows {α : Type} [Inhabited α] {ts e S : Nat} (hu : Tryz.prog.underlying ts = some (.slice e)) (hS : Tryz.prog.cellsOf e = S) (hS0 : 0 < S) (f : α → List Value) (Pr : α → Prop) (hf : ∀ y, (f y).length = S)
  (each : ∀ (fuel : Nat) (cs : List Value) (x : DataW H × List MemPlace), DataW.trod enc Tryz.prog w base spare held fuel e cs = some x → ∃ y, cs = f y ∧ Pr y) {fuel : Nat} {cs : List Value} {x : DataW H × List MemPlace} (h : DataW.trod enc Tryz.prog w base spare held fuel ts cs = some x) :
  ∃ (v : Value) (l : List α), cs = [v] ∧ SHas S w v l.length (rows f l) ∧ (∀ y ∈ l, Pr y) ∧ ∀ b, (DataW.weights Tryz.prog ts x.1).all (· ≤ b) = true → l.length * Tryz.prog.bytesOf e ≤ b := by
 rcases DataW.trod_slice hu h with ⟨h0, hx⟩ | ⟨a, len, cap, elems, rest, m, hm, hcs, hx, hba, hl, hmx, hlen, hel, _, _⟩
 ·exact ⟨_, [], h0, SHas.nil w S, (fun _ h => by cases h), fun b _ => by simp⟩
 ·have one : ∀ i, i < len → ∃ y : α, (∀ j u, (f y)[j]? = some u → w.cell? (a.add (i * S + j)) = some u) ∧ Pr y := by
   intro i hi
   have hi' := hel i hi
   rw [hS, List.getElem?_eq_getElem (by omega)] at hi'
   obtain ⟨cs', h1, h2⟩ := Option.bind_eq_some_iff.1 hi'
   obtain ⟨_, hlen', hcell⟩ := World.cells?_some h1
   obtain ⟨y, rfl, hy⟩ := each _ _ _ h2
   refine ⟨y, fun j u hu => ?_, hy⟩
   have hj : j < S := by have := (List.getElem?_eq_some_iff.1 hu).1; rw [hf] at this; exact this
   have e := hcell j (by omega)
   rw [Deep.add_add] at e
   rw [e]
   exact hu
  obtain ⟨g, hk⟩ := Deep.choose_lt one
  have hll : ((List.range len).map g).length = len := by simp
  refine ⟨_, (List.range len).map g, hcs, ⟨by rw [hll]; omega, by rw [rows_length hf], .inr ⟨a, cap, by rw [hll], ⟨by rw [hll]; omega, by omega⟩, fun h0 => ?_⟩⟩, ?_, ?_⟩
  ·have h0' : 0 < len := by simpa using h0
   obtain ⟨b, off, spot⟩ := a
   obtain ⟨u0, hu0⟩ : ∃ u0, (f (g 0))[0]? = some u0 := ⟨(f (g 0))[0]'(by rw [hf]; exact hS0), List.getElem?_eq_getElem _⟩
   have q0 := (hk 0 h0').1 0 _ hu0
   have hspot : spot = none := by simpa [Addr.add] using World.cell?_spot q0
   subst hspot
   refine ⟨b, off, rfl, fun j u hu => ?_⟩
   obtain ⟨i, r, hi, hr, rfl, hq⟩ := rows_split hf _ j u hu
   have hi' : i < len := by simpa using hi
   have := (hk i hi').1 r u (by simpa using hq)
   rw [Addr.add_mid] at this
   exact this
  ·intro y hy
   obtain ⟨i, hi, rfl⟩ := List.mem_map.1 hy
   exact (hk i (by simpa using hi)).2
  ·intro b hb
   rw [hx] at hb
   simp only [DataW.weights, hu, List.all_cons, Bool.and_eq_true, decide_eq_true_eq, List.length_map] at hb
   rw [hll, ← hlen]
   exact Nat.le_trans (Nat.mul_le_mul_right _ (Nat.le_add_right _ _)) hb.1
theorem cells_amount {fuel : Nat} {cs : List Value} {x : DataW H × List MemPlace} (h : DataW.trod enc Tryz.prog w base spare held fuel 71 cs = some x) : ∃ y : A, cs = y.cells := by
 obtain ⟨xs, k, rfl, _, hcl, hxl, hf⟩ := DataW.trod_struct Tryz.underlying71 h
 rw [c42] at hcl
 match xs, hxl, cs, hcl with
 | [y0, y1], _, [v0, v1, v2, v3], _ =>
  have g0 := hf 0 _ rfl
  have g1 := hf 1 _ rfl
  simp [c3, c40] at g0 g1
  obtain ⟨p, s, i, h0⟩ := cells_mark g0
  obtain ⟨n1, h1, _⟩ := DataW.trod_int Tryz.underlying3 g1
  simp at h0 h1
  exact ⟨⟨p, s, i, n1⟩, by rw [h0.1, h0.2.1, h0.2.2, h1]⟩
theorem cells_write {fuel : Nat} {cs : List Value} {x : DataW H × List MemPlace} (h : DataW.trod enc Tryz.prog w base spare held fuel 64 cs = some x) : ∃ y : Wt, cs = y.cells := by
 obtain ⟨xs, k, rfl, _, hcl, hxl, hf⟩ := DataW.trod_struct Tryz.underlying64 h
 rw [c58] at hcl
 match xs, hxl, cs, hcl with
 | [y0, y1, y2], _, [v0, v1, v2, v3, v4], _ =>
  have g0 := hf 0 _ rfl
  have g1 := hf 1 _ rfl
  have g2 := hf 2 _ rfl
  simp [c3, c9, c40] at g0 g1 g2
  obtain ⟨p, s, i, h0⟩ := cells_mark g0
  obtain ⟨n1, h1, _⟩ := DataW.trod_int Tryz.underlying3 g1
  obtain ⟨n2, h2, _⟩ := DataW.trod_string Tryz.underlying9 g2
  simp at h0 h1 h2
  exact ⟨⟨p, s, i, n1, n2⟩, by rw [h0.1, h0.2.1, h0.2.2, h1, h2]⟩
theorem cells_marks {fuel : Nat} {cs : List Value} {x : DataW H × List MemPlace} (h : DataW.trod enc Tryz.prog w base spare held fuel 65 cs = some x) : ∃ (v : Value) (l : List M), cs = [v] ∧ MHas w v l := by
 have hinh : Inhabited M := ⟨⟨0, 0, 0⟩⟩
 obtain ⟨v, l, h1, h2, _⟩ := cells_rows (α := M) Tryz.underlying65 c40 (by decide) M.cells (fun _ => True) M.len (fun fuel cs x hx => by
  obtain ⟨p, s, i, e⟩ := cells_mark hx
  exact ⟨⟨p, s, i⟩, e, trivial⟩) h
 exact ⟨v, l, h1, h2⟩
theorem cells_member {fuel : Nat} {cs : List Value} {x : DataW H × List MemPlace} (h : DataW.trod enc Tryz.prog w base spare held fuel 67 cs = some x) : ∃ y : Mb × Value, cs = Mb.cells y ∧ MHas w y.2 y.1.ms := by
 obtain ⟨xs, k, rfl, _, hcl, hxl, hf⟩ := DataW.trod_struct Tryz.underlying67 h
 rw [c61] at hcl
 match xs, hxl, cs, hcl with
 | [y0, y1, y2], _, [v0, v1, v2], _ =>
  have g0 := hf 0 _ rfl
  have g1 := hf 1 _ rfl
  have g2 := hf 2 _ rfl
  simp [c9, c4, c59] at g0 g1 g2
  obtain ⟨n0, h0, _⟩ := DataW.trod_string Tryz.underlying9 g0
  obtain ⟨n1, h1, _⟩ := DataW.trod_bool Tryz.underlying4 g1
  obtain ⟨v, l, h2, hm⟩ := cells_marks g2
  simp at h0 h1 h2
  exact ⟨(⟨n0, n1, l⟩, v), by rw [h0, h1, h2], hm⟩
theorem cells_elem {fuel : Nat} {cs : List Value} {x : DataW H × List MemPlace} (h : DataW.trod enc Tryz.prog w base spare held fuel 69 cs = some x) : ∃ y : El × Value, cs = El.cells y ∧ MHas w y.2 y.1.gone := by
 obtain ⟨xs, k, rfl, _, hcl, hxl, hf⟩ := DataW.trod_struct Tryz.underlying69 h
 rw [c63] at hcl
 match xs, hxl, cs, hcl with
 | [y0, y1, y2, y3, y4], _, [v0, v1, v2, v3, v4, v5, v6, v7, v8], _ =>
  have g0 := hf 0 _ rfl
  have g1 := hf 1 _ rfl
  have g2 := hf 2 _ rfl
  have g3 := hf 3 _ rfl
  have g4 := hf 4 _ rfl
  simp [c9, c3, c40, c59] at g0 g1 g2 g3 g4
  obtain ⟨p, s, i, h0⟩ := cells_mark g0
  obtain ⟨n1, h1, _⟩ := DataW.trod_int Tryz.underlying3 g1
  obtain ⟨q, u, j, h2⟩ := cells_mark g2
  obtain ⟨n3, h3, _⟩ := DataW.trod_string Tryz.underlying9 g3
  obtain ⟨v, l, h4, hm⟩ := cells_marks g4
  simp at h0 h1 h2 h3 h4
  exact ⟨(⟨p, s, i, n1, q, u, j, n3, l⟩, v), by rw [h0.1, h0.2.1, h0.2.2, h1, h2.1, h2.2.1, h2.2.2, h3, h4], hm⟩
theorem cells_cell {fuel : Nat} {cs : List Value} {d : DataW H × List MemPlace} (h : DataW.trod enc Tryz.prog w base spare held fuel 27 cs = some d) : ∃ (x : X) (va vw vm ve : Value), cs = (cvc x.k x.b va vw vm ve).toList ∧ Four w x va vw vm ve ∧ ((DataW.weights Tryz.prog 27 d.1).all (· ≤ reachBytes) = true → Lk x) := by
 obtain ⟨xs, k, rfl, hd, hcl, hxl, hf⟩ := DataW.trod_struct Tryz.underlying27 h
 rw [c27] at hcl
 match xs, hxl, cs, hcl with
 | [y0, y1, y2, y3, y4, y5], _, [v0, v1, v2, v3, v4, v5], _ =>
  have g0 := hf 0 _ rfl
  have g1 := hf 1 _ rfl
  have g2 := hf 2 _ rfl
  have g3 := hf 3 _ rfl
  have g4 := hf 4 _ rfl
  have g5 := hf 5 _ rfl
  simp [c3, c22, c23, c24, c25] at g0 g1 g2 g3 g4 g5
  obtain ⟨n0, h0, _⟩ := DataW.trod_int Tryz.underlying3 g0
  obtain ⟨n1, h1, _⟩ := DataW.trod_int Tryz.underlying3 g1
  have i1 : Inhabited A := ⟨⟨0, 0, 0, 0⟩⟩
  have i2 : Inhabited Wt := ⟨⟨0, 0, 0, 0, noS⟩⟩
  have i3 : Inhabited (Mb × Value) := ⟨(⟨noS, false, []⟩, .bool false)⟩
  have i4 : Inhabited (El × Value) := ⟨(⟨0, 0, 0, 0, 0, 0, 0, noS, []⟩, .bool false)⟩
  obtain ⟨va, la, h2, ha, _, wa⟩ := cells_rows (α := A) Tryz.underlying22 c42 (by decide) A.cells (fun _ => True) A.len (fun fuel cs x hx => by
   obtain ⟨y, e⟩ := cells_amount hx
   exact ⟨y, e, trivial⟩) g2
  obtain ⟨vw, lw, h3, hw, _, ww⟩ := cells_rows (α := Wt) Tryz.underlying23 c58 (by decide) Wt.cells (fun _ => True) Wt.len (fun fuel cs x hx => by
   obtain ⟨y, e⟩ := cells_write hx
   exact ⟨y, e, trivial⟩) g3
  obtain ⟨vm, lm, h4, hm, pm, wm⟩ := cells_rows (α := Mb × Value) Tryz.underlying24 c61 (by decide) Mb.cells (fun y => MHas w y.2 y.1.ms) Mb.len (fun fuel cs x hx => cells_member hx) g4
  obtain ⟨ve, le, h5, he, pe, we⟩ := cells_rows (α := El × Value) Tryz.underlying25 c63 (by decide) El.cells (fun y => MHas w y.2 y.1.gone) El.len (fun fuel cs x hx => cells_elem hx) g5
  simp at h0 h1 h2 h3 h4 h5
  refine ⟨⟨n0, n1, la, lw, lm.map (·.1), le.map (·.1)⟩, va, vw, vm, ve, by rw [h0, h1, h2, h3, h4, h5], ⟨ha, hw, ⟨lm, rfl, by rw [List.length_map]; exact hm, pm⟩, ⟨le, rfl, by rw [List.length_map]; exact he, pe⟩⟩, fun hb => ?_⟩
  rw [hd] at hb
  simp only [DataW.weights, Tryz.underlying27, List.map_cons, List.map_nil, DataW.weightsEach, List.all_append, Bool.and_eq_true] at hb
  obtain ⟨_, _, b2, b3, b4, b5, _⟩ := hb
  have q2 := wa _ b2
  have q3 := ww _ b3
  have q4 := wm _ b4
  have q5 := we _ b5
  rw [by42] at q2
  rw [by58] at q3
  rw [by61] at q4
  rw [by63] at q5
  have hr : reachBytes = 140737488351232 := rfl
  rw [hr] at q2 q3 q4 q5
  exact ⟨by show la.length ≤ _; omega, by show lw.length ≤ _; omega, by show (lm.map _).length ≤ _; rw [List.length_map]; omega, by show (le.map _).length ≤ _; rw [List.length_map]; omega⟩
variable {r : Reach} {b0 : Nat} {v : Value} {d : DataW H} {ps : List MemPlace}
theorem open_tx (hval : Value.okWide Tryz.prog w r b0 34 v) (hd : DataW.Trod enc Tryz.prog w base spare held 34 v d ps) : ∃ (p s : Int) (u : List Int) (t : Int) (sl : Value) (l : List O), v = TxV p s u t sl ∧ u.length = 13 ∧ OIs w sl l := by
 obtain ⟨fuel, hf⟩ := hd
 simp only [Value.okWide, Tryz.underlying34] at hval
 obtain ⟨cs, rfl, _⟩ := hval
 obtain ⟨p, s, u, t, sl, l, e, hu, hl⟩ := cells_tx hf
 exact ⟨p, s, u, t, sl, l, by rw [show cs = (txc p s u t sl).toArray from Array.toList_inj.1 e], hu, hl⟩
theorem open_cell (hval : Value.okWide Tryz.prog w r b0 27 v) (hd : DataW.Trod enc Tryz.prog w base spare held 27 v d ps) : ∃ (x : X) (va vw vm ve : Value), v = CV x.k x.b va vw vm ve ∧ Four w x va vw vm ve ∧ ((DataW.weights Tryz.prog 27 d).all (· ≤ reachBytes) = true → Lk x) := by
 obtain ⟨fuel, hf⟩ := hd
 simp only [Value.okWide, Tryz.underlying27] at hval
 obtain ⟨cs, rfl, _⟩ := hval
 obtain ⟨x, va, vw, vm, ve, e, h1, h2⟩ := cells_cell hf
 exact ⟨x, va, vw, vm, ve, by rw [show cs = cvc x.k x.b va vw vm ve from Array.toList_inj.1 e], h1, h2⟩
end
theorem open_op {H : Type} {enc : TypeId × Value → H} {w : World} {base : Nat} {spare : Nat → Bool} {held : Bool} {r : Reach} {b0 : Nat} {v : Value} {d : DataW H} {ps : List MemPlace} (hval : Value.okWide Tryz.prog w r b0 52 v) (hd : DataW.Trod enc Tryz.prog w base spare held 52 v d ps) : ∃ o : O, v = o.val := by
 obtain ⟨fuel, hf⟩ := hd
 simp only [Value.okWide, Tryz.underlying52] at hval
 obtain ⟨cs, rfl, _⟩ := hval
 obtain ⟨o, e⟩ := cells_op hf
 exact ⟨o, by rw [show cs = o.cells.toArray from Array.toList_inj.1 e]⟩
end Go.Proofs.YtjbbmcommnhgeaaGreat
