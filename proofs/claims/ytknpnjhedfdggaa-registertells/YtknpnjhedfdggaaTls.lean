/- What RegisterTells says, of every cell, transaction, index and text. -/
import Derived.Test.YtknpnjhedfdggaaHeads
import Derived.Test.YtknpnjhedfdggaaSml
import Derived.Test.YtknpnjhedfdggaaRDo
import Derived.Test.YtknpnjhedfdggaaRRd
namespace Go.Proofs.Ytknpnjhedfdggaa
open Go.RowKit

theorem sm_do {x : X} (h : Sm x) (hl : x.wr.length ≤ 61) (a : Wt) (v : List Int) : Sm (doX x a v) := by
  unfold doX
  split
  · exact ⟨h.a, by show (insF a _).length ≤ 100; rw [insF_length]; have := lef_length x.wr a.p a.s v a.i; omega, h.m, h.e, h.mi, h.ei⟩
  · exact h
theorem sm_cl {x : X} (h : Sm x) (q u : Int) (v : List Int) (i : Int) : Sm (clX x q u v i) := by
  unfold clX
  split
  · exact ⟨h.a, Nat.le_trans (lef_length _ _ _ _ _) h.t, h.m, h.e, h.mi, h.ei⟩
  · exact h
/-- A value that is read. -/
def vP (k : Int) (l : List Bs) : Value → World → Prop := fun v w => ∃ u, v = VV k u ∧ THas w u l
theorem vP_keeps (k : Int) (l : List Bs) : Keeps (vP k l) := fun _ _ _ ⟨u, e, h⟩ hb => ⟨u, e, h.later hb⟩
set_option maxHeartbeats 8000000 in
set_option maxRecDepth 100000 in
theorem tells_any (x : X) (va vw vm ve : Value) (p s : Int) (u : List Int) (t : Int) (sl : Value) (lo : List O) (i : Int) (tx : ByteArray) (w : World) (hu : u.length = 13) (ho : OHas w sl lo) (h : Four w x va vw vm ve) (hl : Lk x) : Calls Try.prog 4 #[CV x.k x.b va vw vm ve, TxV p s u t sl, .int .i64 i, .string tx] w (Tells (.bool true) w) := by
  obtain ⟨pa, ca', pw, cw, pm, cm, pe, ce, rfl, rfl, rfl, rfl⟩ := h.slices
  obtain ⟨R0, R1, hbel⟩ := two_rows w (cvc x.k x.b (.slice pa x.am.length ca') (.slice pw x.wr.length cw) (.slice pm x.mb.length cm) (.slice pe x.el.length ce)) 27 (txc p s u t sl).toArray 34
  replace h := h.later hbel
  replace ho := ho.later hbel
  generalize hW : (w.alloc (.cells (cvc x.k x.b (.slice pa x.am.length ca') (.slice pw x.wr.length cw) (.slice pm x.mb.length cm) (.slice pe x.el.length ce)) 27)).alloc (.cells (txc p s u t sl).toArray 34) = w0 at R0 R1 hbel h ho
  have zt := size_tx (p := p) (s := s) (t := t) (sl := sl) hu
  go_enter Try.func4, Try.ntmps4
  go_wp2_with (first | rw [hW] | refine load_r 27 _ rfl rfl _ rfl R0 Try.underlying27 rfl size27 ?_)
  clear hW
  refine (few_any x _ _ _ _ w0 h hl).mono ?_
  rintro e w1 ⟨bf1, rfl, hfw, hb1⟩
  have HFW : Hid (bf1 = true → Fw x) := hfw
  replace R0 := R0.later hb1
  replace R1 := R1.later hb1
  replace h := h.later hb1
  replace ho := ho.later hb1
  replace hbel := below_on hbel hb1
  clear hb1 hfw hl
  cases bf1
  · clear HFW
    go_wp2_with fail
    refine (heads_any _).mono ?_
    rintro e w9 ⟨rfl, hb9⟩
    go_wp2_with fail
    go_ret
    exact ⟨rfl, below_on hbel hb9⟩
  · have hf := HFW.out rfl
    have hs := hf.sm
    have h60 : x.wr.length ≤ 61 := by have := hf.n; omega
    clear HFW hf
    go_wp2_with (first | refine load_r 34 _ rfl rfl _ rfl R1 Try.underlying34 rfl zt ?_)
    refine (small_any p s u t sl lo w1 hu ho).mono ?_
    rintro e w2 ⟨bs, rfl, _, hb1⟩
    replace R0 := R0.later hb1
    replace R1 := R1.later hb1
    replace h := h.later hb1
    replace hbel := below_on hbel hb1
    clear hb1 ho
    cases bs
    · go_wp2_with fail
      refine (heads_any _).mono ?_
      rintro e w9 ⟨rfl, hb9⟩
      go_wp2_with fail
      go_ret
      exact ⟨rfl, below_on hbel hb9⟩
    · by_cases htx : 100 < tx.size
      · have htx' : (100 : Int) < (tx.size : Int) := by omega
        go_wp2_with fail
        refine (heads_any _).mono ?_
        rintro e w9 ⟨rfl, hb9⟩
        go_wp2_with fail
        go_ret
        exact ⟨rfl, below_on hbel hb9⟩
      · have htx' : decide ((100 : Int) < (tx.size : Int)) = false := decide_eq_false (by omega)
        go_wp2_with fail
        have C1 := fun w' (hb : Below w2.heap.size w2 w') => check_any _ _ _ _ _ w' (h.later hb) hs
        have C2 := fun w' (hb : Below w2.heap.size w2 w') => refCheck_any _ _ _ _ _ w' (h.later hb) hs
        have C3 := fun w' (hb : Below w2.heap.size w2 w') => do_any _ _ _ _ _ p s u t sl i tx w' hu (h.later hb) hs
        have C4 := fun w' (hb : Below w2.heap.size w2 w') => refDo_any _ _ _ _ _ p s u t sl i tx w' hu (h.later hb) hs
        have C5 := fun w' (hb : Below w2.heap.size w2 w') => clear_any _ _ _ _ _ p s u t sl i w' hu (h.later hb) hs
        have C6 := fun w' (hb : Below w2.heap.size w2 w') => refClear_any _ _ _ _ _ p s u t sl i w' hu (h.later hb) hs
        have C9 := fun w' (hb : Below w2.heap.size w2 w') => read_any _ _ _ _ _ w' (h.later hb) hs
        have C10 := fun w' (hb : Below w2.heap.size w2 w') => refRead_any _ _ _ _ _ w' (h.later hb) hs
        have S1 := sm_do hs h60 ⟨p, s, i, t, tx⟩ u
        have S2 := sm_cl hs p s u i
        unfold RdPost at C9 C10
        obtain ⟨kx, HK⟩ := hid_ex (ck x)
        rw [HK.out] at C1 C2
        obtain ⟨rk, HRK⟩ := hid_ex (rdK x)
        obtain ⟨rt, HRN⟩ := hid_ex (rdT x)
        rw [HRK.out, HRN.out] at C9 C10
        obtain ⟨xd, HXD⟩ := hid_ex (doX x ⟨p, s, i, t, tx⟩ u)
        rw [HXD.out] at C3 C4 S1
        obtain ⟨xc, HXC⟩ := hid_ex (clX x p s u i)
        rw [HXC.out] at C5 C6 S2
        clear HK HRK HRN HXD HXC
        have zx : (Try.prog.info? 27).map (·.size) = some ([Value.int .i64 x.k, .int .i64 x.b, .slice pa x.am.length ca', .slice pw x.wr.length cw, .slice pm x.mb.length cm, .slice pe x.el.length ce] : List Value).length := size27
        have ztx : (Try.prog.info? 34).map (·.size) = some (txc p s u t sl).length := by rw [txc_length hu]; exact size34
        have hS : Calm.Stays (fun w' => Below w2.heap.size w2 w') := fun wa wb h hb => below_on h hb
        have hF : Facts.Stay [pF 0 (eqP (.agg ([Value.int .i64 x.k, .int .i64 x.b, .slice pa x.am.length ca', .slice pw x.wr.length cw, .slice pm x.mb.length cm, .slice pe x.el.length ce] : List Value).toArray)), pF 1 (eqP (.bool kx)), pF 2 (eqP (.agg ([Value.int .i64 x.k, .int .i64 x.b, .slice pa x.am.length ca', .slice pw x.wr.length cw, .slice pm x.mb.length cm, .slice pe x.el.length ce] : List Value).toArray)), pF 3 (eqP (.bool kx)), pF 4 (eqP (.bool true)), pF 5 (eqP (.bool true)), pF 6 (eqP (.agg ([Value.int .i64 x.k, .int .i64 x.b, .slice pa x.am.length ca', .slice pw x.wr.length cw, .slice pm x.mb.length cm, .slice pe x.el.length ce] : List Value).toArray)), pF 7 (eqP (.agg (txc p s u t sl).toArray)), pF 8 (eqP (.int .i64 i)), pF 9 (eqP (.string tx)), pF 10 (cP xd), pF 11 (eqP (.agg ([Value.int .i64 x.k, .int .i64 x.b, .slice pa x.am.length ca', .slice pw x.wr.length cw, .slice pm x.mb.length cm, .slice pe x.el.length ce] : List Value).toArray)), pF 12 (eqP (.agg (txc p s u t sl).toArray)), pF 13 (eqP (.int .i64 i)), pF 14 (eqP (.string tx)), pF 15 (cP xd), pF 16 (eqP (.bool true)), pF 17 (eqP (.bool true)), pF 18 (eqP (.bool true)), pF 19 (eqP (.agg ([Value.int .i64 x.k, .int .i64 x.b, .slice pa x.am.length ca', .slice pw x.wr.length cw, .slice pm x.mb.length cm, .slice pe x.el.length ce] : List Value).toArray)), pF 20 (eqP (.agg (txc p s u t sl).toArray)), pF 21 (eqP (.int .i64 i)), pF 22 (cP xc), pF 23 (eqP (.agg ([Value.int .i64 x.k, .int .i64 x.b, .slice pa x.am.length ca', .slice pw x.wr.length cw, .slice pm x.mb.length cm, .slice pe x.el.length ce] : List Value).toArray)), pF 24 (eqP (.agg (txc p s u t sl).toArray)), pF 25 (eqP (.int .i64 i)), pF 26 (cP xc), pF 27 (eqP (.bool true)), pF 28 (eqP (.bool true)), pF 29 (eqP (.bool true)), pF 30 (eqP (.agg ([Value.int .i64 x.k, .int .i64 x.b, .slice pa x.am.length ca', .slice pw x.wr.length cw, .slice pm x.mb.length cm, .slice pe x.el.length ce] : List Value).toArray)), pF 31 (vP rk rt), pF 32 (eqP (.agg ([Value.int .i64 x.k, .int .i64 x.b, .slice pa x.am.length ca', .slice pw x.wr.length cw, .slice pm x.mb.length cm, .slice pe x.el.length ce] : List Value).toArray)), pF 33 (vP rk rt), pF 34 (eqP (.bool true)), pF 35 (eqP (.bool true)), pF 36 (eqP (.bool true)), pF 37 (eqP (.bool true)), pF 38 (eqP (.bool true)), pF 39 (eqP (.bool true))] := stay_of (by simp only [List.forall_mem_cons]; exact ⟨⟨_, _, rfl, eqP_keeps _⟩, ⟨_, _, rfl, eqP_keeps _⟩, ⟨_, _, rfl, eqP_keeps _⟩, ⟨_, _, rfl, eqP_keeps _⟩, ⟨_, _, rfl, eqP_keeps _⟩, ⟨_, _, rfl, eqP_keeps _⟩, ⟨_, _, rfl, eqP_keeps _⟩, ⟨_, _, rfl, eqP_keeps _⟩, ⟨_, _, rfl, eqP_keeps _⟩, ⟨_, _, rfl, eqP_keeps _⟩, ⟨_, _, rfl, cP_keeps _⟩, ⟨_, _, rfl, eqP_keeps _⟩, ⟨_, _, rfl, eqP_keeps _⟩, ⟨_, _, rfl, eqP_keeps _⟩, ⟨_, _, rfl, eqP_keeps _⟩, ⟨_, _, rfl, cP_keeps _⟩, ⟨_, _, rfl, eqP_keeps _⟩, ⟨_, _, rfl, eqP_keeps _⟩, ⟨_, _, rfl, eqP_keeps _⟩, ⟨_, _, rfl, eqP_keeps _⟩, ⟨_, _, rfl, eqP_keeps _⟩, ⟨_, _, rfl, eqP_keeps _⟩, ⟨_, _, rfl, cP_keeps _⟩, ⟨_, _, rfl, eqP_keeps _⟩, ⟨_, _, rfl, eqP_keeps _⟩, ⟨_, _, rfl, eqP_keeps _⟩, ⟨_, _, rfl, cP_keeps _⟩, ⟨_, _, rfl, eqP_keeps _⟩, ⟨_, _, rfl, eqP_keeps _⟩, ⟨_, _, rfl, eqP_keeps _⟩, ⟨_, _, rfl, eqP_keeps _⟩, ⟨_, _, rfl, vP_keeps _ _⟩, ⟨_, _, rfl, eqP_keeps _⟩, ⟨_, _, rfl, vP_keeps _ _⟩, ⟨_, _, rfl, eqP_keeps _⟩, ⟨_, _, rfl, eqP_keeps _⟩, ⟨_, _, rfl, eqP_keeps _⟩, ⟨_, _, rfl, eqP_keeps _⟩, ⟨_, _, rfl, eqP_keeps _⟩, ⟨_, _, rfl, eqP_keeps _⟩, fun _ h => by cases h⟩)
        refine FactsG.region (by kernel_rfl) (by kernel_rfl) (fun w' => Below w2.heap.size w2 w') (fun xv => { tmps := #[CV x.k x.b (Value.slice pa x.am.length ca') (Value.slice pw x.wr.length cw) (Value.slice pm x.mb.length cm) (Value.slice pe x.el.length ce), TxV p s u t sl, Value.int IntKind.i64 i, Value.string tx, Value.pointer (some { block := w.heap.size, off := 0 }), Value.pointer (some { block := w.heap.size + 1, off := 0 }), undef, undef, xv 39, Value.agg (cvc x.k x.b (Value.slice pa x.am.length ca') (Value.slice pw x.wr.length cw) (Value.slice pm x.mb.length cm) (Value.slice pe x.el.length ce)), Value.bool true, Value.bool false, Value.bool false, Value.agg (txc p s u t sl).toArray, Value.bool true, Value.bool false, Value.bool false, Value.bool false, Value.string tx, Value.int IntKind.i64 ↑tx.size, Value.bool false, Value.bool false, undef, xv 0, xv 1, xv 2, xv 3, xv 4, xv 5, xv 6, xv 7, xv 8, xv 9, xv 10, xv 11, xv 12, xv 13, xv 14, xv 15, xv 16, xv 17, xv 18, xv 19, xv 20, xv 21, xv 22, xv 23, xv 24, xv 25, xv 26, xv 27, xv 28, xv 29, xv 30, xv 31, xv 32, xv 33, xv 34, xv 35, xv 36, xv 37, xv 38], defers := [] }) [pF 0 (eqP (.agg ([Value.int .i64 x.k, .int .i64 x.b, .slice pa x.am.length ca', .slice pw x.wr.length cw, .slice pm x.mb.length cm, .slice pe x.el.length ce] : List Value).toArray)), pF 1 (eqP (.bool kx)), pF 2 (eqP (.agg ([Value.int .i64 x.k, .int .i64 x.b, .slice pa x.am.length ca', .slice pw x.wr.length cw, .slice pm x.mb.length cm, .slice pe x.el.length ce] : List Value).toArray)), pF 3 (eqP (.bool kx)), pF 4 (eqP (.bool true)), pF 5 (eqP (.bool true)), pF 6 (eqP (.agg ([Value.int .i64 x.k, .int .i64 x.b, .slice pa x.am.length ca', .slice pw x.wr.length cw, .slice pm x.mb.length cm, .slice pe x.el.length ce] : List Value).toArray)), pF 7 (eqP (.agg (txc p s u t sl).toArray)), pF 8 (eqP (.int .i64 i)), pF 9 (eqP (.string tx)), pF 10 (cP xd), pF 11 (eqP (.agg ([Value.int .i64 x.k, .int .i64 x.b, .slice pa x.am.length ca', .slice pw x.wr.length cw, .slice pm x.mb.length cm, .slice pe x.el.length ce] : List Value).toArray)), pF 12 (eqP (.agg (txc p s u t sl).toArray)), pF 13 (eqP (.int .i64 i)), pF 14 (eqP (.string tx)), pF 15 (cP xd), pF 16 (eqP (.bool true)), pF 17 (eqP (.bool true)), pF 18 (eqP (.bool true)), pF 19 (eqP (.agg ([Value.int .i64 x.k, .int .i64 x.b, .slice pa x.am.length ca', .slice pw x.wr.length cw, .slice pm x.mb.length cm, .slice pe x.el.length ce] : List Value).toArray)), pF 20 (eqP (.agg (txc p s u t sl).toArray)), pF 21 (eqP (.int .i64 i)), pF 22 (cP xc), pF 23 (eqP (.agg ([Value.int .i64 x.k, .int .i64 x.b, .slice pa x.am.length ca', .slice pw x.wr.length cw, .slice pm x.mb.length cm, .slice pe x.el.length ce] : List Value).toArray)), pF 24 (eqP (.agg (txc p s u t sl).toArray)), pF 25 (eqP (.int .i64 i)), pF 26 (cP xc), pF 27 (eqP (.bool true)), pF 28 (eqP (.bool true)), pF 29 (eqP (.bool true)), pF 30 (eqP (.agg ([Value.int .i64 x.k, .int .i64 x.b, .slice pa x.am.length ca', .slice pw x.wr.length cw, .slice pm x.mb.length cm, .slice pe x.el.length ce] : List Value).toArray)), pF 31 (vP rk rt), pF 32 (eqP (.agg ([Value.int .i64 x.k, .int .i64 x.b, .slice pa x.am.length ca', .slice pw x.wr.length cw, .slice pm x.mb.length cm, .slice pe x.el.length ce] : List Value).toArray)), pF 33 (vP rk rt), pF 34 (eqP (.bool true)), pF 35 (eqP (.bool true)), pF 36 (eqP (.bool true)), pF 37 (eqP (.bool true)), pF 38 (eqP (.bool true)), pF 39 (eqP (.bool true))] (fun _ _ _ _ => True) (fun _ _ _ _ _ => trivial) _ rfl rfl (by kernel_rfl) (fun j => [undef, undef, undef, undef, undef, undef, undef, undef, undef, undef, undef, undef, undef, undef, undef, undef, undef, undef, undef, undef, undef, undef, undef, undef, undef, undef, undef, undef, undef, undef, undef, undef, undef, undef, undef, undef, undef, undef, undef, Value.bool false].getD j undef) rfl (Below.refl _ w2).drew ⟨?_, ?_, ?_, ?_, ?_, ?_, ?_, ?_, ?_, ?_, ?_, ?_, ?_, ?_, ?_, ?_, ?_, ?_, ?_, ?_, ?_, ?_, ?_, ?_, ?_, ?_, ?_, ?_, ?_, ?_, ?_, ?_, ?_, ?_, ?_, ?_, ?_, ?_, ?_, ?_, trivial⟩ ?_
        · exact FactsG.of rfl (fun _ _ _ => trivial) (fun _ _ _ _ => rfl) (Facts.loadP hS hF (fun _ _ => rfl) 27 Try.underlying27 rfl zx _ rfl rfl (fun xv wv hSw hd => by rfl) (fun wv hSw => Rw.whole (cs := [Value.int .i64 x.k, .int .i64 x.b, .slice pa x.am.length ca', .slice pw x.wr.length cw, .slice pm x.mb.length cm, .slice pe x.el.length ce]) (R0.later hSw)))
        · refine FactsG.of rfl (fun _ _ _ => trivial) (fun _ _ _ _ => rfl) (Facts.call1P hS hF (fun _ _ => rfl) rfl (by kernel_rfl) rfl (fun xv wv hSw hd => ?_))
          have d0 : xv 0 = _ := pF_get (hd ⟨0, .data⟩ (by simp) rfl _ rfl)
          show Calls Try.prog 14 #[xv 0] wv _
          rw [d0]
          exact (C1 wv hSw).mono fun e w' h => tells_p h
        · exact FactsG.of rfl (fun _ _ _ => trivial) (fun _ _ _ _ => rfl) (Facts.loadP hS hF (fun _ _ => rfl) 27 Try.underlying27 rfl zx _ rfl rfl (fun xv wv hSw hd => by rfl) (fun wv hSw => Rw.whole (cs := [Value.int .i64 x.k, .int .i64 x.b, .slice pa x.am.length ca', .slice pw x.wr.length cw, .slice pm x.mb.length cm, .slice pe x.el.length ce]) (R0.later hSw)))
        · refine FactsG.of rfl (fun _ _ _ => trivial) (fun _ _ _ _ => rfl) (Facts.call1P hS hF (fun _ _ => rfl) rfl (by kernel_rfl) rfl (fun xv wv hSw hd => ?_))
          have d2 : xv 2 = _ := pF_get (hd ⟨2, .data⟩ (by simp) rfl _ rfl)
          show Calls Try.prog 8 #[xv 2] wv _
          rw [d2]
          exact (C2 wv hSw).mono fun e w' h => tells_p h
        · exact FactsG.of rfl (fun _ _ _ => trivial) (fun _ _ _ _ => rfl) (Facts.pureP hS hF (fun _ _ => rfl) rfl (fun xv wv hSw hd => by
            have d1 : xv 1 = _ := pF_get (hd ⟨1, .data⟩ (by simp) rfl _ rfl)
            have d3 : xv 3 = _ := pF_get (hd ⟨3, .data⟩ (by simp) rfl _ rfl)
            simp only [d1, d3]
            go_simp))
        · exact FactsG.of rfl (fun _ _ _ => trivial) (fun _ _ _ _ => rfl) (Facts.pureP hS hF (fun _ _ => rfl) rfl (fun xv wv hSw hd => by
            have d4 : xv 4 = _ := pF_get (hd ⟨4, .data⟩ (by simp) rfl _ rfl)
            simp only [d4]
            go_simp))
        · exact FactsG.of rfl (fun _ _ _ => trivial) (fun xv wv hSw hd => by have dg : xv 5 = _ := pF_get (hd ⟨5, .guard⟩ (by simp) rfl _ rfl); simp only [dg]; rfl) (Facts.loadP hS hF (fun _ _ => rfl) 27 Try.underlying27 rfl zx _ rfl rfl (fun xv wv hSw hd => by rfl) (fun wv hSw => Rw.whole (cs := [Value.int .i64 x.k, .int .i64 x.b, .slice pa x.am.length ca', .slice pw x.wr.length cw, .slice pm x.mb.length cm, .slice pe x.el.length ce]) (R0.later hSw)))
        · exact FactsG.of rfl (fun _ _ _ => trivial) (fun xv wv hSw hd => by have dg : xv 5 = _ := pF_get (hd ⟨5, .guard⟩ (by simp) rfl _ rfl); simp only [dg]; rfl) (Facts.loadP hS hF (fun _ _ => rfl) 34 Try.underlying34 rfl ztx _ rfl rfl (fun xv wv hSw hd => by rfl) (fun wv hSw => Rw.whole (cs := (txc p s u t sl)) (R1.later hSw)))
        · exact FactsG.of rfl (fun _ _ _ => trivial) (fun xv wv hSw hd => by have dg : xv 5 = _ := pF_get (hd ⟨5, .guard⟩ (by simp) rfl _ rfl); simp only [dg]; rfl) (Facts.pureP hS hF (fun _ _ => rfl) rfl (fun xv wv hSw hd => by
            go_simp))
        · exact FactsG.of rfl (fun _ _ _ => trivial) (fun xv wv hSw hd => by have dg : xv 5 = _ := pF_get (hd ⟨5, .guard⟩ (by simp) rfl _ rfl); simp only [dg]; rfl) (Facts.pureP hS hF (fun _ _ => rfl) rfl (fun xv wv hSw hd => by
            go_simp))
        · refine FactsG.of rfl (fun _ _ _ => trivial) (fun xv wv hSw hd => by have dg : xv 5 = _ := pF_get (hd ⟨5, .guard⟩ (by simp) rfl _ rfl); simp only [dg]; rfl) (Facts.call4P hS hF (fun _ _ => rfl) rfl (by kernel_rfl) rfl (fun xv wv hSw hd => ?_))
          have d6 : xv 6 = _ := pF_get (hd ⟨6, .data⟩ (by simp) rfl _ rfl)
          have d7 : xv 7 = _ := pF_get (hd ⟨7, .data⟩ (by simp) rfl _ rfl)
          have d8 : xv 8 = _ := pF_get (hd ⟨8, .data⟩ (by simp) rfl _ rfl)
          have d9 : xv 9 = _ := pF_get (hd ⟨9, .data⟩ (by simp) rfl _ rfl)
          show Calls Try.prog 13 #[xv 6, xv 7, xv 8, xv 9] wv _
          rw [d6, d7, d8, d9]
          exact (C3 wv hSw).mono fun e w' h => gives_p h
        · exact FactsG.of rfl (fun _ _ _ => trivial) (fun xv wv hSw hd => by have dg : xv 5 = _ := pF_get (hd ⟨5, .guard⟩ (by simp) rfl _ rfl); simp only [dg]; rfl) (Facts.loadP hS hF (fun _ _ => rfl) 27 Try.underlying27 rfl zx _ rfl rfl (fun xv wv hSw hd => by rfl) (fun wv hSw => Rw.whole (cs := [Value.int .i64 x.k, .int .i64 x.b, .slice pa x.am.length ca', .slice pw x.wr.length cw, .slice pm x.mb.length cm, .slice pe x.el.length ce]) (R0.later hSw)))
        · exact FactsG.of rfl (fun _ _ _ => trivial) (fun xv wv hSw hd => by have dg : xv 5 = _ := pF_get (hd ⟨5, .guard⟩ (by simp) rfl _ rfl); simp only [dg]; rfl) (Facts.loadP hS hF (fun _ _ => rfl) 34 Try.underlying34 rfl ztx _ rfl rfl (fun xv wv hSw hd => by rfl) (fun wv hSw => Rw.whole (cs := (txc p s u t sl)) (R1.later hSw)))
        · exact FactsG.of rfl (fun _ _ _ => trivial) (fun xv wv hSw hd => by have dg : xv 5 = _ := pF_get (hd ⟨5, .guard⟩ (by simp) rfl _ rfl); simp only [dg]; rfl) (Facts.pureP hS hF (fun _ _ => rfl) rfl (fun xv wv hSw hd => by
            go_simp))
        · exact FactsG.of rfl (fun _ _ _ => trivial) (fun xv wv hSw hd => by have dg : xv 5 = _ := pF_get (hd ⟨5, .guard⟩ (by simp) rfl _ rfl); simp only [dg]; rfl) (Facts.pureP hS hF (fun _ _ => rfl) rfl (fun xv wv hSw hd => by
            go_simp))
        · refine FactsG.of rfl (fun _ _ _ => trivial) (fun xv wv hSw hd => by have dg : xv 5 = _ := pF_get (hd ⟨5, .guard⟩ (by simp) rfl _ rfl); simp only [dg]; rfl) (Facts.call4P hS hF (fun _ _ => rfl) rfl (by kernel_rfl) rfl (fun xv wv hSw hd => ?_))
          have d11 : xv 11 = _ := pF_get (hd ⟨11, .data⟩ (by simp) rfl _ rfl)
          have d12 : xv 12 = _ := pF_get (hd ⟨12, .data⟩ (by simp) rfl _ rfl)
          have d13 : xv 13 = _ := pF_get (hd ⟨13, .data⟩ (by simp) rfl _ rfl)
          have d14 : xv 14 = _ := pF_get (hd ⟨14, .data⟩ (by simp) rfl _ rfl)
          show Calls Try.prog 16 #[xv 11, xv 12, xv 13, xv 14] wv _
          rw [d11, d12, d13, d14]
          exact (C4 wv hSw).mono fun e w' h => gives_p h
        · refine FactsG.of rfl (fun _ _ _ => trivial) (fun xv wv hSw hd => by have dg : xv 5 = _ := pF_get (hd ⟨5, .guard⟩ (by simp) rfl _ rfl); simp only [dg]; rfl) (Facts.call2P hS hF (fun _ _ => rfl) rfl (by kernel_rfl) rfl (fun xv wv hSw hd => ?_))
          have d10 := pF_get (hd ⟨10, .data⟩ (by simp) rfl _ rfl)
          have d15 := pF_get (hd ⟨15, .data⟩ (by simp) rfl _ rfl)
          show Calls Try.prog 15 #[xv 10, xv 15] wv _
          obtain ⟨va, vw, vm, ve, e1, f1⟩ := d10
          obtain ⟨ua, uw, um, ue, e2, f2⟩ := d15
          rw [e1, e2]
          exact (same_any _ _ _ _ _ _ _ _ _ wv f1 f2 S1).mono fun e w' h => tells_p h
        · exact FactsG.of rfl (fun _ _ _ => trivial) (fun _ _ _ _ => rfl) (Facts.pureP hS hF (fun _ _ => rfl) rfl (fun xv wv hSw hd => by
            have d5 : xv 5 = _ := pF_get (hd ⟨5, .data⟩ (by simp) rfl _ rfl)
            have d16 : xv 16 = _ := pF_get (hd ⟨16, .data⟩ (by simp) rfl _ rfl)
            simp only [d5, d16]
            go_simp))
        · exact FactsG.of rfl (fun _ _ _ => trivial) (fun _ _ _ _ => rfl) (Facts.pureP hS hF (fun _ _ => rfl) rfl (fun xv wv hSw hd => by
            have d17 : xv 17 = _ := pF_get (hd ⟨17, .data⟩ (by simp) rfl _ rfl)
            simp only [d17]
            go_simp))
        · exact FactsG.of rfl (fun _ _ _ => trivial) (fun xv wv hSw hd => by have dg : xv 18 = _ := pF_get (hd ⟨18, .guard⟩ (by simp) rfl _ rfl); simp only [dg]; rfl) (Facts.loadP hS hF (fun _ _ => rfl) 27 Try.underlying27 rfl zx _ rfl rfl (fun xv wv hSw hd => by rfl) (fun wv hSw => Rw.whole (cs := [Value.int .i64 x.k, .int .i64 x.b, .slice pa x.am.length ca', .slice pw x.wr.length cw, .slice pm x.mb.length cm, .slice pe x.el.length ce]) (R0.later hSw)))
        · exact FactsG.of rfl (fun _ _ _ => trivial) (fun xv wv hSw hd => by have dg : xv 18 = _ := pF_get (hd ⟨18, .guard⟩ (by simp) rfl _ rfl); simp only [dg]; rfl) (Facts.loadP hS hF (fun _ _ => rfl) 34 Try.underlying34 rfl ztx _ rfl rfl (fun xv wv hSw hd => by rfl) (fun wv hSw => Rw.whole (cs := (txc p s u t sl)) (R1.later hSw)))
        · exact FactsG.of rfl (fun _ _ _ => trivial) (fun xv wv hSw hd => by have dg : xv 18 = _ := pF_get (hd ⟨18, .guard⟩ (by simp) rfl _ rfl); simp only [dg]; rfl) (Facts.pureP hS hF (fun _ _ => rfl) rfl (fun xv wv hSw hd => by
            go_simp))
        · refine FactsG.of rfl (fun _ _ _ => trivial) (fun xv wv hSw hd => by have dg : xv 18 = _ := pF_get (hd ⟨18, .guard⟩ (by simp) rfl _ rfl); simp only [dg]; rfl) (Facts.call3P hS hF (fun _ _ => rfl) rfl (by kernel_rfl) rfl (fun xv wv hSw hd => ?_))
          have d19 : xv 19 = _ := pF_get (hd ⟨19, .data⟩ (by simp) rfl _ rfl)
          have d20 : xv 20 = _ := pF_get (hd ⟨20, .data⟩ (by simp) rfl _ rfl)
          have d21 : xv 21 = _ := pF_get (hd ⟨21, .data⟩ (by simp) rfl _ rfl)
          show Calls Try.prog 17 #[xv 19, xv 20, xv 21] wv _
          rw [d19, d20, d21]
          exact (C5 wv hSw).mono fun e w' h => gives_p h
        · exact FactsG.of rfl (fun _ _ _ => trivial) (fun xv wv hSw hd => by have dg : xv 18 = _ := pF_get (hd ⟨18, .guard⟩ (by simp) rfl _ rfl); simp only [dg]; rfl) (Facts.loadP hS hF (fun _ _ => rfl) 27 Try.underlying27 rfl zx _ rfl rfl (fun xv wv hSw hd => by rfl) (fun wv hSw => Rw.whole (cs := [Value.int .i64 x.k, .int .i64 x.b, .slice pa x.am.length ca', .slice pw x.wr.length cw, .slice pm x.mb.length cm, .slice pe x.el.length ce]) (R0.later hSw)))
        · exact FactsG.of rfl (fun _ _ _ => trivial) (fun xv wv hSw hd => by have dg : xv 18 = _ := pF_get (hd ⟨18, .guard⟩ (by simp) rfl _ rfl); simp only [dg]; rfl) (Facts.loadP hS hF (fun _ _ => rfl) 34 Try.underlying34 rfl ztx _ rfl rfl (fun xv wv hSw hd => by rfl) (fun wv hSw => Rw.whole (cs := (txc p s u t sl)) (R1.later hSw)))
        · exact FactsG.of rfl (fun _ _ _ => trivial) (fun xv wv hSw hd => by have dg : xv 18 = _ := pF_get (hd ⟨18, .guard⟩ (by simp) rfl _ rfl); simp only [dg]; rfl) (Facts.pureP hS hF (fun _ _ => rfl) rfl (fun xv wv hSw hd => by
            go_simp))
        · refine FactsG.of rfl (fun _ _ _ => trivial) (fun xv wv hSw hd => by have dg : xv 18 = _ := pF_get (hd ⟨18, .guard⟩ (by simp) rfl _ rfl); simp only [dg]; rfl) (Facts.call3P hS hF (fun _ _ => rfl) rfl (by kernel_rfl) rfl (fun xv wv hSw hd => ?_))
          have d23 : xv 23 = _ := pF_get (hd ⟨23, .data⟩ (by simp) rfl _ rfl)
          have d24 : xv 24 = _ := pF_get (hd ⟨24, .data⟩ (by simp) rfl _ rfl)
          have d25 : xv 25 = _ := pF_get (hd ⟨25, .data⟩ (by simp) rfl _ rfl)
          show Calls Try.prog 18 #[xv 23, xv 24, xv 25] wv _
          rw [d23, d24, d25]
          exact (C6 wv hSw).mono fun e w' h => gives_p h
        · refine FactsG.of rfl (fun _ _ _ => trivial) (fun xv wv hSw hd => by have dg : xv 18 = _ := pF_get (hd ⟨18, .guard⟩ (by simp) rfl _ rfl); simp only [dg]; rfl) (Facts.call2P hS hF (fun _ _ => rfl) rfl (by kernel_rfl) rfl (fun xv wv hSw hd => ?_))
          have d22 := pF_get (hd ⟨22, .data⟩ (by simp) rfl _ rfl)
          have d26 := pF_get (hd ⟨26, .data⟩ (by simp) rfl _ rfl)
          show Calls Try.prog 15 #[xv 22, xv 26] wv _
          obtain ⟨va, vw, vm, ve, e1, f1⟩ := d22
          obtain ⟨ua, uw, um, ue, e2, f2⟩ := d26
          rw [e1, e2]
          exact (same_any _ _ _ _ _ _ _ _ _ wv f1 f2 S2).mono fun e w' h => tells_p h
        · exact FactsG.of rfl (fun _ _ _ => trivial) (fun _ _ _ _ => rfl) (Facts.pureP hS hF (fun _ _ => rfl) rfl (fun xv wv hSw hd => by
            have d18 : xv 18 = _ := pF_get (hd ⟨18, .data⟩ (by simp) rfl _ rfl)
            have d27 : xv 27 = _ := pF_get (hd ⟨27, .data⟩ (by simp) rfl _ rfl)
            simp only [d18, d27]
            go_simp))
        · exact FactsG.of rfl (fun _ _ _ => trivial) (fun _ _ _ _ => rfl) (Facts.pureP hS hF (fun _ _ => rfl) rfl (fun xv wv hSw hd => by
            have d28 : xv 28 = _ := pF_get (hd ⟨28, .data⟩ (by simp) rfl _ rfl)
            simp only [d28]
            go_simp))
        · exact FactsG.of rfl (fun _ _ _ => trivial) (fun xv wv hSw hd => by have dg : xv 29 = _ := pF_get (hd ⟨29, .guard⟩ (by simp) rfl _ rfl); simp only [dg]; rfl) (Facts.loadP hS hF (fun _ _ => rfl) 27 Try.underlying27 rfl zx _ rfl rfl (fun xv wv hSw hd => by rfl) (fun wv hSw => Rw.whole (cs := [Value.int .i64 x.k, .int .i64 x.b, .slice pa x.am.length ca', .slice pw x.wr.length cw, .slice pm x.mb.length cm, .slice pe x.el.length ce]) (R0.later hSw)))
        · refine FactsG.of rfl (fun _ _ _ => trivial) (fun xv wv hSw hd => by have dg : xv 29 = _ := pF_get (hd ⟨29, .guard⟩ (by simp) rfl _ rfl); simp only [dg]; rfl) (Facts.call1P hS hF (fun _ _ => rfl) rfl (by kernel_rfl) rfl (fun xv wv hSw hd => ?_))
          have d30 : xv 30 = _ := pF_get (hd ⟨30, .data⟩ (by simp) rfl _ rfl)
          show Calls Try.prog 12 #[xv 30] wv _
          rw [d30]
          refine (C9 wv hSw).mono ?_
          rintro e w' ⟨u, he, ht, hb⟩
          exact ⟨_, he, ⟨u, rfl, ht⟩, hb⟩
        · exact FactsG.of rfl (fun _ _ _ => trivial) (fun xv wv hSw hd => by have dg : xv 29 = _ := pF_get (hd ⟨29, .guard⟩ (by simp) rfl _ rfl); simp only [dg]; rfl) (Facts.loadP hS hF (fun _ _ => rfl) 27 Try.underlying27 rfl zx _ rfl rfl (fun xv wv hSw hd => by rfl) (fun wv hSw => Rw.whole (cs := [Value.int .i64 x.k, .int .i64 x.b, .slice pa x.am.length ca', .slice pw x.wr.length cw, .slice pm x.mb.length cm, .slice pe x.el.length ce]) (R0.later hSw)))
        · refine FactsG.of rfl (fun _ _ _ => trivial) (fun xv wv hSw hd => by have dg : xv 29 = _ := pF_get (hd ⟨29, .guard⟩ (by simp) rfl _ rfl); simp only [dg]; rfl) (Facts.call1P hS hF (fun _ _ => rfl) rfl (by kernel_rfl) rfl (fun xv wv hSw hd => ?_))
          have d32 : xv 32 = _ := pF_get (hd ⟨32, .data⟩ (by simp) rfl _ rfl)
          show Calls Try.prog 20 #[xv 32] wv _
          rw [d32]
          refine (C10 wv hSw).mono ?_
          rintro e w' ⟨u, he, ht, hb⟩
          exact ⟨_, he, ⟨u, rfl, ht⟩, hb⟩
        · refine FactsG.of rfl (fun _ _ _ => trivial) (fun xv wv hSw hd => by have dg : xv 29 = _ := pF_get (hd ⟨29, .guard⟩ (by simp) rfl _ rfl); simp only [dg]; rfl) (Facts.call2P hS hF (fun _ _ => rfl) rfl (by kernel_rfl) rfl (fun xv wv hSw hd => ?_))
          have d31 := pF_get (hd ⟨31, .data⟩ (by simp) rfl _ rfl)
          have d33 := pF_get (hd ⟨33, .data⟩ (by simp) rfl _ rfl)
          show Calls Try.prog 19 #[xv 31, xv 33] wv _
          obtain ⟨u1, e1, f1⟩ := d31
          obtain ⟨u2, e2, f2⟩ := d33
          rw [e1, e2]
          exact (values_any rk u1 u2 rt wv f1 f2).mono fun e w' h => tells_p h
        · exact FactsG.of rfl (fun _ _ _ => trivial) (fun _ _ _ _ => rfl) (Facts.pureP hS hF (fun _ _ => rfl) rfl (fun xv wv hSw hd => by
            have d29 : xv 29 = _ := pF_get (hd ⟨29, .data⟩ (by simp) rfl _ rfl)
            have d34 : xv 34 = _ := pF_get (hd ⟨34, .data⟩ (by simp) rfl _ rfl)
            simp only [d29, d34]
            go_simp))
        · exact FactsG.of rfl (fun _ _ _ => trivial) (fun _ _ _ _ => rfl) (Facts.pureP hS hF (fun _ _ => rfl) rfl (fun xv wv hSw hd => by
            have d35 : xv 35 = _ := pF_get (hd ⟨35, .data⟩ (by simp) rfl _ rfl)
            simp only [d35]
            go_simp))
        · refine FactsG.of rfl (fun _ _ _ => trivial) (fun xv wv hSw hd => by have dg : xv 36 = _ := pF_get (hd ⟨36, .guard⟩ (by simp) rfl _ rfl); simp only [dg]; rfl) (Facts.call0P hS hF (fun _ _ => rfl) rfl (by kernel_rfl) rfl (fun xv wv hSw hd => ?_))
          exact (heads_any wv).mono fun e w' h => tells_p h
        · exact FactsG.of rfl (fun _ _ _ => trivial) (fun _ _ _ _ => rfl) (Facts.pureP hS hF (fun _ _ => rfl) rfl (fun xv wv hSw hd => by
            have d36 : xv 36 = _ := pF_get (hd ⟨36, .data⟩ (by simp) rfl _ rfl)
            have d37 : xv 37 = _ := pF_get (hd ⟨37, .data⟩ (by simp) rfl _ rfl)
            simp only [d36, d37]
            go_simp))
        · exact FactsG.of rfl (fun _ _ _ => trivial) (fun _ _ _ _ => rfl) (Facts.pureP hS hF (fun _ _ => rfl) rfl (fun xv wv hSw hd => by
            have d38 : xv 38 = _ := pF_get (hd ⟨38, .data⟩ (by simp) rfl _ rfl)
            simp only [d38]
            go_simp))
        rintro xv w9 hb9 hf _
        have e39 : xv 39 = _ := pF_get (hf 39 _ (by decide) rfl)
        simp only [e39]
        go_wp2_with fail
        go_ret
        exact ⟨rfl, below_on hbel hb9⟩
end Go.Proofs.Ytknpnjhedfdggaa
