/- What CounterTells says, of every cell, transaction, index, number and cut. -/
import Derived.Test.YtfjpjodaaofgbaaHeads
import Derived.Test.YtfjpjodaaofgbaaSml
import Derived.Test.YtfjpjodaaofgbaaRClr
import Derived.Test.YtfjpjodaaofgbaaRFld
import Derived.Test.YtfjpjodaaofgbaaRDo
namespace Go.Proofs.Ytfjpjodaaofgbaa
open Go.RowKit

theorem sm_do {x : X} (h : Sm x) (hl : x.am.length ≤ 60) (a : A) : Sm (doX x a) := by
  unfold doX
  split
  · exact ⟨by show (insF a x.am).length ≤ 100; rw [insF_length]; omega, h.t, h.m, h.e, h.mi, h.ei⟩
  · exact h
theorem sm_short {k b : Int} {l : List A} (h : l.length ≤ 100) : Sm ⟨k, b, l, [], [], []⟩ := ⟨h, by simp, by simp, by simp, (fun _ h => by cases h), (fun _ h => by cases h)⟩
theorem sm_cl {x : X} (h : Sm x) (q u : Int) (v : List Int) (i : Int) : Sm (clX x q u v i) := by
  unfold clX
  split
  · exact sm_short (Nat.le_trans (List.length_filter_le _ _) h.a)
  · exact h
theorem sm_fo {x : X} (h : Sm x) (v : List Int) : Sm (foX x v) := by
  unfold foX
  split
  · exact sm_short (Nat.le_trans (List.length_filter_le _ _) h.a)
  · exact h
set_option maxHeartbeats 8000000 in
set_option maxRecDepth 100000 in
theorem tells_any (x : X) (va vw vm ve : Value) (p s : Int) (u : List Int) (t : Int) (sl : Value) (lo : List O) (i n : Int) (v : List Int) (w : World) (hu : u.length = 13) (ho : OHas w sl lo) (hv : v.length = 13) (h : Four w x va vw vm ve) (hl : Lk x) : Calls Try.prog 4 #[CV x.k x.b va vw vm ve, TxV p s u t sl, .int .i64 i, .int .i64 n, V v] w (Tells (.bool true) w) := by
  obtain ⟨pa, ca', pw, cw, pm, cm, pe, ce, rfl, rfl, rfl, rfl⟩ := h.slices
  obtain ⟨R0, R1, R2, hbel⟩ := three_rows w (cvc x.k x.b (.slice pa x.am.length ca') (.slice pw x.wr.length cw) (.slice pm x.mb.length cm) (.slice pe x.el.length ce)) 27 (txc p s u t sl).toArray 34 (vals v).toArray 31
  replace h := h.later hbel
  replace ho := ho.later hbel
  generalize hW : ((w.alloc (.cells (cvc x.k x.b (.slice pa x.am.length ca') (.slice pw x.wr.length cw) (.slice pm x.mb.length cm) (.slice pe x.el.length ce)) 27)).alloc (.cells (txc p s u t sl).toArray 34)).alloc (.cells (vals v).toArray 31) = w0 at R0 R1 R2 hbel h ho
  have zt := size_tx (p := p) (s := s) (t := t) (sl := sl) hu
  go_enter Try.func4, Try.ntmps4
  go_wp2_with (first | rw [hW] | refine load_r 27 _ rfl rfl _ rfl R0 Try.underlying27 rfl size27 ?_)
  clear hW
  refine (few_any x _ _ _ _ w0 h hl).mono ?_
  rintro e w1 ⟨bf1, rfl, hfw, hb1⟩
  have HFW : Hid (bf1 = true → Fw x) := hfw
  replace R0 := R0.later hb1
  replace R1 := R1.later hb1
  replace R2 := R2.later hb1
  replace h := h.later hb1
  replace ho := ho.later hb1
  replace hbel := below_on hbel hb1
  clear hb1 hfw hl
  cases bf1
  · clear HFW
    go_wp2_with fail
    refine (heads_any _).mono ?_
    rintro e w9 ⟨rfl, hb9⟩
    go_wp2_with fail
    go_ret
    exact ⟨rfl, below_on hbel hb9⟩
  · have hf := HFW.out rfl
    have hs := hf.sm
    have h60 : x.am.length ≤ 60 := by have := hf.n; omega
    clear HFW hf
    go_wp2_with (first | refine load_r 34 _ rfl rfl _ rfl R1 Try.underlying34 rfl zt ?_)
    refine (small_any p s u t sl lo w1 hu ho).mono ?_
    rintro e w2 ⟨bs, rfl, _, hb1⟩
    replace R0 := R0.later hb1
    replace R1 := R1.later hb1
    replace R2 := R2.later hb1
    replace h := h.later hb1
    replace hbel := below_on hbel hb1
    clear hb1 ho
    cases bs
    · go_wp2_with fail
      refine (heads_any _).mono ?_
      rintro e w9 ⟨rfl, hb9⟩
      go_wp2_with fail
      go_ret
      exact ⟨rfl, below_on hbel hb9⟩
    · go_wp2_with fail
      have C1 := fun w' (hb : Below w2.heap.size w2 w') => check_any _ _ _ _ _ w' (h.later hb) hs
      have C2 := fun w' (hb : Below w2.heap.size w2 w') => refCheck_any _ _ _ _ _ w' (h.later hb) hs
      have C3 := fun w' (hb : Below w2.heap.size w2 w') => do_any _ _ _ _ _ p s u t sl i n w' hu (h.later hb) hs
      have C4 := fun w' (hb : Below w2.heap.size w2 w') => refDo_any _ _ _ _ _ p s u t sl i n w' hu (h.later hb) hs
      have C5 := fun w' (hb : Below w2.heap.size w2 w') => clear_any _ _ _ _ _ p s u t sl i w' hu (h.later hb) hs
      have C6 := fun w' (hb : Below w2.heap.size w2 w') => refClear_any _ _ _ _ _ p s u t sl i w' hu (h.later hb) hs
      have C7 := fun w' (hb : Below w2.heap.size w2 w') => fold_any _ _ _ _ _ v w' hv (h.later hb) hs
      have C8 := fun w' (hb : Below w2.heap.size w2 w') => refFold_any _ _ _ _ _ v w' hv (h.later hb) hs
      have C9 := fun w' (hb : Below w2.heap.size w2 w') => read_any _ _ _ _ _ w' (h.later hb) hs
      have C10 := fun w' (hb : Below w2.heap.size w2 w') => refRead_any _ _ _ _ _ w' (h.later hb) hs
      have S1 := sm_do hs h60 ⟨p, s, i, n⟩
      have S2 := sm_cl hs p s u i
      have S3 := sm_fo hs v
      obtain ⟨kx, HK⟩ := hid_ex (ck x)
      rw [HK.out] at C1 C2
      obtain ⟨rk, HRK⟩ := hid_ex (rdK x)
      obtain ⟨rn, HRN⟩ := hid_ex (rdN x)
      rw [HRK.out, HRN.out] at C9 C10
      obtain ⟨xd, HXD⟩ := hid_ex (doX x ⟨p, s, i, n⟩)
      rw [HXD.out] at C3 C4 S1
      obtain ⟨xc, HXC⟩ := hid_ex (clX x p s u i)
      rw [HXC.out] at C5 C6 S2
      obtain ⟨xf, HXF⟩ := hid_ex (foX x v)
      rw [HXF.out] at C7 C8 S3
      clear HK HRK HRN HXD HXC HXF
      have zx : (Try.prog.info? 27).map (·.size) = some ([Value.int .i64 x.k, .int .i64 x.b, .slice pa x.am.length ca', .slice pw x.wr.length cw, .slice pm x.mb.length cm, .slice pe x.el.length ce] : List Value).length := size27
      have ztx : (Try.prog.info? 34).map (·.size) = some (txc p s u t sl).length := by rw [txc_length hu]; exact size34
      have zc : (Try.prog.info? 31).map (·.size) = some (vals v).length := info31 hv
      have hS : Calm.Stays (fun w' => Below w2.heap.size w2 w') := fun wa wb h hb => below_on h hb
      have hF : Facts.Stay [pF 0 (eqP (.agg ([Value.int .i64 x.k, .int .i64 x.b, .slice pa x.am.length ca', .slice pw x.wr.length cw, .slice pm x.mb.length cm, .slice pe x.el.length ce] : List Value).toArray)), pF 1 (eqP (.bool kx)), pF 2 (eqP (.agg ([Value.int .i64 x.k, .int .i64 x.b, .slice pa x.am.length ca', .slice pw x.wr.length cw, .slice pm x.mb.length cm, .slice pe x.el.length ce] : List Value).toArray)), pF 3 (eqP (.bool kx)), pF 4 (eqP (.bool true)), pF 5 (eqP (.bool true)), pF 6 (eqP (.agg ([Value.int .i64 x.k, .int .i64 x.b, .slice pa x.am.length ca', .slice pw x.wr.length cw, .slice pm x.mb.length cm, .slice pe x.el.length ce] : List Value).toArray)), pF 7 (eqP (.agg (txc p s u t sl).toArray)), pF 8 (eqP (.int .i64 i)), pF 9 (eqP (.int .i64 n)), pF 10 (cP xd), pF 11 (eqP (.agg ([Value.int .i64 x.k, .int .i64 x.b, .slice pa x.am.length ca', .slice pw x.wr.length cw, .slice pm x.mb.length cm, .slice pe x.el.length ce] : List Value).toArray)), pF 12 (eqP (.agg (txc p s u t sl).toArray)), pF 13 (eqP (.int .i64 i)), pF 14 (eqP (.int .i64 n)), pF 15 (cP xd), pF 16 (eqP (.bool true)), pF 17 (eqP (.bool true)), pF 18 (eqP (.bool true)), pF 19 (eqP (.agg ([Value.int .i64 x.k, .int .i64 x.b, .slice pa x.am.length ca', .slice pw x.wr.length cw, .slice pm x.mb.length cm, .slice pe x.el.length ce] : List Value).toArray)), pF 20 (eqP (.agg (txc p s u t sl).toArray)), pF 21 (eqP (.int .i64 i)), pF 22 (cP xc), pF 23 (eqP (.agg ([Value.int .i64 x.k, .int .i64 x.b, .slice pa x.am.length ca', .slice pw x.wr.length cw, .slice pm x.mb.length cm, .slice pe x.el.length ce] : List Value).toArray)), pF 24 (eqP (.agg (txc p s u t sl).toArray)), pF 25 (eqP (.int .i64 i)), pF 26 (cP xc), pF 27 (eqP (.bool true)), pF 28 (eqP (.bool true)), pF 29 (eqP (.bool true)), pF 30 (eqP (.agg ([Value.int .i64 x.k, .int .i64 x.b, .slice pa x.am.length ca', .slice pw x.wr.length cw, .slice pm x.mb.length cm, .slice pe x.el.length ce] : List Value).toArray)), pF 31 (eqP (.agg (vals v).toArray)), pF 32 (cP xf), pF 33 (eqP (.agg ([Value.int .i64 x.k, .int .i64 x.b, .slice pa x.am.length ca', .slice pw x.wr.length cw, .slice pm x.mb.length cm, .slice pe x.el.length ce] : List Value).toArray)), pF 34 (eqP (.agg (vals v).toArray)), pF 35 (cP xf), pF 36 (eqP (.bool true)), pF 37 (eqP (.bool true)), pF 38 (eqP (.bool true)), pF 39 (eqP (.agg ([Value.int .i64 x.k, .int .i64 x.b, .slice pa x.am.length ca', .slice pw x.wr.length cw, .slice pm x.mb.length cm, .slice pe x.el.length ce] : List Value).toArray)), pF 40 (eqP (VV rk rn)), pF 41 (eqP (.agg ([Value.int .i64 x.k, .int .i64 x.b, .slice pa x.am.length ca', .slice pw x.wr.length cw, .slice pm x.mb.length cm, .slice pe x.el.length ce] : List Value).toArray)), pF 42 (eqP (VV rk rn)), pF 43 (eqP (.bool true)), pF 44 (eqP (.bool true)), pF 45 (eqP (.bool true)), pF 46 (eqP (.bool true)), pF 47 (eqP (.bool true)), pF 48 (eqP (.bool true))] := stay_of (by simp only [List.forall_mem_cons]; exact ⟨⟨_, _, rfl, eqP_keeps _⟩, ⟨_, _, rfl, eqP_keeps _⟩, ⟨_, _, rfl, eqP_keeps _⟩, ⟨_, _, rfl, eqP_keeps _⟩, ⟨_, _, rfl, eqP_keeps _⟩, ⟨_, _, rfl, eqP_keeps _⟩, ⟨_, _, rfl, eqP_keeps _⟩, ⟨_, _, rfl, eqP_keeps _⟩, ⟨_, _, rfl, eqP_keeps _⟩, ⟨_, _, rfl, eqP_keeps _⟩, ⟨_, _, rfl, cP_keeps _⟩, ⟨_, _, rfl, eqP_keeps _⟩, ⟨_, _, rfl, eqP_keeps _⟩, ⟨_, _, rfl, eqP_keeps _⟩, ⟨_, _, rfl, eqP_keeps _⟩, ⟨_, _, rfl, cP_keeps _⟩, ⟨_, _, rfl, eqP_keeps _⟩, ⟨_, _, rfl, eqP_keeps _⟩, ⟨_, _, rfl, eqP_keeps _⟩, ⟨_, _, rfl, eqP_keeps _⟩, ⟨_, _, rfl, eqP_keeps _⟩, ⟨_, _, rfl, eqP_keeps _⟩, ⟨_, _, rfl, cP_keeps _⟩, ⟨_, _, rfl, eqP_keeps _⟩, ⟨_, _, rfl, eqP_keeps _⟩, ⟨_, _, rfl, eqP_keeps _⟩, ⟨_, _, rfl, cP_keeps _⟩, ⟨_, _, rfl, eqP_keeps _⟩, ⟨_, _, rfl, eqP_keeps _⟩, ⟨_, _, rfl, eqP_keeps _⟩, ⟨_, _, rfl, eqP_keeps _⟩, ⟨_, _, rfl, eqP_keeps _⟩, ⟨_, _, rfl, cP_keeps _⟩, ⟨_, _, rfl, eqP_keeps _⟩, ⟨_, _, rfl, eqP_keeps _⟩, ⟨_, _, rfl, cP_keeps _⟩, ⟨_, _, rfl, eqP_keeps _⟩, ⟨_, _, rfl, eqP_keeps _⟩, ⟨_, _, rfl, eqP_keeps _⟩, ⟨_, _, rfl, eqP_keeps _⟩, ⟨_, _, rfl, eqP_keeps _⟩, ⟨_, _, rfl, eqP_keeps _⟩, ⟨_, _, rfl, eqP_keeps _⟩, ⟨_, _, rfl, eqP_keeps _⟩, ⟨_, _, rfl, eqP_keeps _⟩, ⟨_, _, rfl, eqP_keeps _⟩, ⟨_, _, rfl, eqP_keeps _⟩, ⟨_, _, rfl, eqP_keeps _⟩, ⟨_, _, rfl, eqP_keeps _⟩, fun _ h => by cases h⟩)
      refine FactsG.region (by kernel_rfl) (by kernel_rfl) (fun w' => Below w2.heap.size w2 w') (fun xv => { tmps := #[CV x.k x.b (Value.slice pa x.am.length ca') (Value.slice pw x.wr.length cw) (Value.slice pm x.mb.length cm) (Value.slice pe x.el.length ce), TxV p s u t sl, Value.int IntKind.i64 i, Value.int IntKind.i64 n, V v, Value.pointer (some { block := w.heap.size, off := 0 }), Value.pointer (some { block := w.heap.size + 1, off := 0 }), undef, undef, Value.pointer (some { block := w.heap.size + 1 + 1, off := 0 }), xv 48, Value.agg (cvc x.k x.b (Value.slice pa x.am.length ca') (Value.slice pw x.wr.length cw) (Value.slice pm x.mb.length cm) (Value.slice pe x.el.length ce)), Value.bool true, Value.bool false, Value.bool false, Value.agg (txc p s u t sl).toArray, Value.bool true, Value.bool false, Value.bool false, undef, xv 0, xv 1, xv 2, xv 3, xv 4, xv 5, xv 6, xv 7, xv 8, xv 9, xv 10, xv 11, xv 12, xv 13, xv 14, xv 15, xv 16, xv 17, xv 18, xv 19, xv 20, xv 21, xv 22, xv 23, xv 24, xv 25, xv 26, xv 27, xv 28, xv 29, xv 30, xv 31, xv 32, xv 33, xv 34, xv 35, xv 36, xv 37, xv 38, xv 39, xv 40, xv 41, xv 42, xv 43, xv 44, xv 45, xv 46, xv 47], defers := [] }) [pF 0 (eqP (.agg ([Value.int .i64 x.k, .int .i64 x.b, .slice pa x.am.length ca', .slice pw x.wr.length cw, .slice pm x.mb.length cm, .slice pe x.el.length ce] : List Value).toArray)), pF 1 (eqP (.bool kx)), pF 2 (eqP (.agg ([Value.int .i64 x.k, .int .i64 x.b, .slice pa x.am.length ca', .slice pw x.wr.length cw, .slice pm x.mb.length cm, .slice pe x.el.length ce] : List Value).toArray)), pF 3 (eqP (.bool kx)), pF 4 (eqP (.bool true)), pF 5 (eqP (.bool true)), pF 6 (eqP (.agg ([Value.int .i64 x.k, .int .i64 x.b, .slice pa x.am.length ca', .slice pw x.wr.length cw, .slice pm x.mb.length cm, .slice pe x.el.length ce] : List Value).toArray)), pF 7 (eqP (.agg (txc p s u t sl).toArray)), pF 8 (eqP (.int .i64 i)), pF 9 (eqP (.int .i64 n)), pF 10 (cP xd), pF 11 (eqP (.agg ([Value.int .i64 x.k, .int .i64 x.b, .slice pa x.am.length ca', .slice pw x.wr.length cw, .slice pm x.mb.length cm, .slice pe x.el.length ce] : List Value).toArray)), pF 12 (eqP (.agg (txc p s u t sl).toArray)), pF 13 (eqP (.int .i64 i)), pF 14 (eqP (.int .i64 n)), pF 15 (cP xd), pF 16 (eqP (.bool true)), pF 17 (eqP (.bool true)), pF 18 (eqP (.bool true)), pF 19 (eqP (.agg ([Value.int .i64 x.k, .int .i64 x.b, .slice pa x.am.length ca', .slice pw x.wr.length cw, .slice pm x.mb.length cm, .slice pe x.el.length ce] : List Value).toArray)), pF 20 (eqP (.agg (txc p s u t sl).toArray)), pF 21 (eqP (.int .i64 i)), pF 22 (cP xc), pF 23 (eqP (.agg ([Value.int .i64 x.k, .int .i64 x.b, .slice pa x.am.length ca', .slice pw x.wr.length cw, .slice pm x.mb.length cm, .slice pe x.el.length ce] : List Value).toArray)), pF 24 (eqP (.agg (txc p s u t sl).toArray)), pF 25 (eqP (.int .i64 i)), pF 26 (cP xc), pF 27 (eqP (.bool true)), pF 28 (eqP (.bool true)), pF 29 (eqP (.bool true)), pF 30 (eqP (.agg ([Value.int .i64 x.k, .int .i64 x.b, .slice pa x.am.length ca', .slice pw x.wr.length cw, .slice pm x.mb.length cm, .slice pe x.el.length ce] : List Value).toArray)), pF 31 (eqP (.agg (vals v).toArray)), pF 32 (cP xf), pF 33 (eqP (.agg ([Value.int .i64 x.k, .int .i64 x.b, .slice pa x.am.length ca', .slice pw x.wr.length cw, .slice pm x.mb.length cm, .slice pe x.el.length ce] : List Value).toArray)), pF 34 (eqP (.agg (vals v).toArray)), pF 35 (cP xf), pF 36 (eqP (.bool true)), pF 37 (eqP (.bool true)), pF 38 (eqP (.bool true)), pF 39 (eqP (.agg ([Value.int .i64 x.k, .int .i64 x.b, .slice pa x.am.length ca', .slice pw x.wr.length cw, .slice pm x.mb.length cm, .slice pe x.el.length ce] : List Value).toArray)), pF 40 (eqP (VV rk rn)), pF 41 (eqP (.agg ([Value.int .i64 x.k, .int .i64 x.b, .slice pa x.am.length ca', .slice pw x.wr.length cw, .slice pm x.mb.length cm, .slice pe x.el.length ce] : List Value).toArray)), pF 42 (eqP (VV rk rn)), pF 43 (eqP (.bool true)), pF 44 (eqP (.bool true)), pF 45 (eqP (.bool true)), pF 46 (eqP (.bool true)), pF 47 (eqP (.bool true)), pF 48 (eqP (.bool true))] (fun _ _ _ _ => True) (fun _ _ _ _ _ => trivial) _ rfl rfl (by kernel_rfl) (fun j => [undef, undef, undef, undef, undef, undef, undef, undef, undef, undef, undef, undef, undef, undef, undef, undef, undef, undef, undef, undef, undef, undef, undef, undef, undef, undef, undef, undef, undef, undef, undef, undef, undef, undef, undef, undef, undef, undef, undef, undef, undef, undef, undef, undef, undef, undef, undef, undef, Value.bool false].getD j undef) rfl (Below.refl _ w2).drew ⟨?_, ?_, ?_, ?_, ?_, ?_, ?_, ?_, ?_, ?_, ?_, ?_, ?_, ?_, ?_, ?_, ?_, ?_, ?_, ?_, ?_, ?_, ?_, ?_, ?_, ?_, ?_, ?_, ?_, ?_, ?_, ?_, ?_, ?_, ?_, ?_, ?_, ?_, ?_, ?_, ?_, ?_, ?_, ?_, ?_, ?_, ?_, ?_, ?_, trivial⟩ ?_
      · exact FactsG.of rfl (fun _ _ _ => trivial) (fun _ _ _ _ => rfl) (Facts.loadP hS hF (fun _ _ => rfl) 27 Try.underlying27 rfl zx _ rfl rfl (fun xv wv hSw hd => by rfl) (fun wv hSw => Rw.whole (cs := [Value.int .i64 x.k, .int .i64 x.b, .slice pa x.am.length ca', .slice pw x.wr.length cw, .slice pm x.mb.length cm, .slice pe x.el.length ce]) (R0.later hSw)))
      · refine FactsG.of rfl (fun _ _ _ => trivial) (fun _ _ _ _ => rfl) (Facts.call1P hS hF (fun _ _ => rfl) rfl (by kernel_rfl) rfl (fun xv wv hSw hd => ?_))
        have d0 : xv 0 = _ := pF_get (hd ⟨0, .data⟩ (by simp) rfl _ rfl)
        show Calls Try.prog 14 #[xv 0] wv _
        rw [d0]
        exact (C1 wv hSw).mono fun e w' h => tells_p h
      · exact FactsG.of rfl (fun _ _ _ => trivial) (fun _ _ _ _ => rfl) (Facts.loadP hS hF (fun _ _ => rfl) 27 Try.underlying27 rfl zx _ rfl rfl (fun xv wv hSw hd => by rfl) (fun wv hSw => Rw.whole (cs := [Value.int .i64 x.k, .int .i64 x.b, .slice pa x.am.length ca', .slice pw x.wr.length cw, .slice pm x.mb.length cm, .slice pe x.el.length ce]) (R0.later hSw)))
      · refine FactsG.of rfl (fun _ _ _ => trivial) (fun _ _ _ _ => rfl) (Facts.call1P hS hF (fun _ _ => rfl) rfl (by kernel_rfl) rfl (fun xv wv hSw hd => ?_))
        have d2 : xv 2 = _ := pF_get (hd ⟨2, .data⟩ (by simp) rfl _ rfl)
        show Calls Try.prog 8 #[xv 2] wv _
        rw [d2]
        exact (C2 wv hSw).mono fun e w' h => tells_p h
      · exact FactsG.of rfl (fun _ _ _ => trivial) (fun _ _ _ _ => rfl) (Facts.pureP hS hF (fun _ _ => rfl) rfl (fun xv wv hSw hd => by
          have d1 : xv 1 = _ := pF_get (hd ⟨1, .data⟩ (by simp) rfl _ rfl)
          have d3 : xv 3 = _ := pF_get (hd ⟨3, .data⟩ (by simp) rfl _ rfl)
          simp only [d1, d3]
          go_simp))
      · exact FactsG.of rfl (fun _ _ _ => trivial) (fun _ _ _ _ => rfl) (Facts.pureP hS hF (fun _ _ => rfl) rfl (fun xv wv hSw hd => by
          have d4 : xv 4 = _ := pF_get (hd ⟨4, .data⟩ (by simp) rfl _ rfl)
          simp only [d4]
          go_simp))
      · exact FactsG.of rfl (fun _ _ _ => trivial) (fun xv wv hSw hd => by have dg : xv 5 = _ := pF_get (hd ⟨5, .guard⟩ (by simp) rfl _ rfl); simp only [dg]; rfl) (Facts.loadP hS hF (fun _ _ => rfl) 27 Try.underlying27 rfl zx _ rfl rfl (fun xv wv hSw hd => by rfl) (fun wv hSw => Rw.whole (cs := [Value.int .i64 x.k, .int .i64 x.b, .slice pa x.am.length ca', .slice pw x.wr.length cw, .slice pm x.mb.length cm, .slice pe x.el.length ce]) (R0.later hSw)))
      · exact FactsG.of rfl (fun _ _ _ => trivial) (fun xv wv hSw hd => by have dg : xv 5 = _ := pF_get (hd ⟨5, .guard⟩ (by simp) rfl _ rfl); simp only [dg]; rfl) (Facts.loadP hS hF (fun _ _ => rfl) 34 Try.underlying34 rfl ztx _ rfl rfl (fun xv wv hSw hd => by rfl) (fun wv hSw => Rw.whole (cs := (txc p s u t sl)) (R1.later hSw)))
      · exact FactsG.of rfl (fun _ _ _ => trivial) (fun xv wv hSw hd => by have dg : xv 5 = _ := pF_get (hd ⟨5, .guard⟩ (by simp) rfl _ rfl); simp only [dg]; rfl) (Facts.pureP hS hF (fun _ _ => rfl) rfl (fun xv wv hSw hd => by
          go_simp))
      · exact FactsG.of rfl (fun _ _ _ => trivial) (fun xv wv hSw hd => by have dg : xv 5 = _ := pF_get (hd ⟨5, .guard⟩ (by simp) rfl _ rfl); simp only [dg]; rfl) (Facts.pureP hS hF (fun _ _ => rfl) rfl (fun xv wv hSw hd => by
          go_simp))
      · refine FactsG.of rfl (fun _ _ _ => trivial) (fun xv wv hSw hd => by have dg : xv 5 = _ := pF_get (hd ⟨5, .guard⟩ (by simp) rfl _ rfl); simp only [dg]; rfl) (Facts.call4P hS hF (fun _ _ => rfl) rfl (by kernel_rfl) rfl (fun xv wv hSw hd => ?_))
        have d6 : xv 6 = _ := pF_get (hd ⟨6, .data⟩ (by simp) rfl _ rfl)
        have d7 : xv 7 = _ := pF_get (hd ⟨7, .data⟩ (by simp) rfl _ rfl)
        have d8 : xv 8 = _ := pF_get (hd ⟨8, .data⟩ (by simp) rfl _ rfl)
        have d9 : xv 9 = _ := pF_get (hd ⟨9, .data⟩ (by simp) rfl _ rfl)
        show Calls Try.prog 16 #[xv 6, xv 7, xv 8, xv 9] wv _
        rw [d6, d7, d8, d9]
        exact (C3 wv hSw).mono fun e w' h => gives_p h
      · exact FactsG.of rfl (fun _ _ _ => trivial) (fun xv wv hSw hd => by have dg : xv 5 = _ := pF_get (hd ⟨5, .guard⟩ (by simp) rfl _ rfl); simp only [dg]; rfl) (Facts.loadP hS hF (fun _ _ => rfl) 27 Try.underlying27 rfl zx _ rfl rfl (fun xv wv hSw hd => by rfl) (fun wv hSw => Rw.whole (cs := [Value.int .i64 x.k, .int .i64 x.b, .slice pa x.am.length ca', .slice pw x.wr.length cw, .slice pm x.mb.length cm, .slice pe x.el.length ce]) (R0.later hSw)))
      · exact FactsG.of rfl (fun _ _ _ => trivial) (fun xv wv hSw hd => by have dg : xv 5 = _ := pF_get (hd ⟨5, .guard⟩ (by simp) rfl _ rfl); simp only [dg]; rfl) (Facts.loadP hS hF (fun _ _ => rfl) 34 Try.underlying34 rfl ztx _ rfl rfl (fun xv wv hSw hd => by rfl) (fun wv hSw => Rw.whole (cs := (txc p s u t sl)) (R1.later hSw)))
      · exact FactsG.of rfl (fun _ _ _ => trivial) (fun xv wv hSw hd => by have dg : xv 5 = _ := pF_get (hd ⟨5, .guard⟩ (by simp) rfl _ rfl); simp only [dg]; rfl) (Facts.pureP hS hF (fun _ _ => rfl) rfl (fun xv wv hSw hd => by
          go_simp))
      · exact FactsG.of rfl (fun _ _ _ => trivial) (fun xv wv hSw hd => by have dg : xv 5 = _ := pF_get (hd ⟨5, .guard⟩ (by simp) rfl _ rfl); simp only [dg]; rfl) (Facts.pureP hS hF (fun _ _ => rfl) rfl (fun xv wv hSw hd => by
          go_simp))
      · refine FactsG.of rfl (fun _ _ _ => trivial) (fun xv wv hSw hd => by have dg : xv 5 = _ := pF_get (hd ⟨5, .guard⟩ (by simp) rfl _ rfl); simp only [dg]; rfl) (Facts.call4P hS hF (fun _ _ => rfl) rfl (by kernel_rfl) rfl (fun xv wv hSw hd => ?_))
        have d11 : xv 11 = _ := pF_get (hd ⟨11, .data⟩ (by simp) rfl _ rfl)
        have d12 : xv 12 = _ := pF_get (hd ⟨12, .data⟩ (by simp) rfl _ rfl)
        have d13 : xv 13 = _ := pF_get (hd ⟨13, .data⟩ (by simp) rfl _ rfl)
        have d14 : xv 14 = _ := pF_get (hd ⟨14, .data⟩ (by simp) rfl _ rfl)
        show Calls Try.prog 17 #[xv 11, xv 12, xv 13, xv 14] wv _
        rw [d11, d12, d13, d14]
        exact (C4 wv hSw).mono fun e w' h => gives_p h
      · refine FactsG.of rfl (fun _ _ _ => trivial) (fun xv wv hSw hd => by have dg : xv 5 = _ := pF_get (hd ⟨5, .guard⟩ (by simp) rfl _ rfl); simp only [dg]; rfl) (Facts.call2P hS hF (fun _ _ => rfl) rfl (by kernel_rfl) rfl (fun xv wv hSw hd => ?_))
        have d10 := pF_get (hd ⟨10, .data⟩ (by simp) rfl _ rfl)
        have d15 := pF_get (hd ⟨15, .data⟩ (by simp) rfl _ rfl)
        show Calls Try.prog 15 #[xv 10, xv 15] wv _
        obtain ⟨va, vw, vm, ve, e1, f1⟩ := d10
        obtain ⟨ua, uw, um, ue, e2, f2⟩ := d15
        rw [e1, e2]
        exact (same_any _ _ _ _ _ _ _ _ _ wv f1 f2 S1).mono fun e w' h => tells_p h
      · exact FactsG.of rfl (fun _ _ _ => trivial) (fun _ _ _ _ => rfl) (Facts.pureP hS hF (fun _ _ => rfl) rfl (fun xv wv hSw hd => by
          have d5 : xv 5 = _ := pF_get (hd ⟨5, .data⟩ (by simp) rfl _ rfl)
          have d16 : xv 16 = _ := pF_get (hd ⟨16, .data⟩ (by simp) rfl _ rfl)
          simp only [d5, d16]
          go_simp))
      · exact FactsG.of rfl (fun _ _ _ => trivial) (fun _ _ _ _ => rfl) (Facts.pureP hS hF (fun _ _ => rfl) rfl (fun xv wv hSw hd => by
          have d17 : xv 17 = _ := pF_get (hd ⟨17, .data⟩ (by simp) rfl _ rfl)
          simp only [d17]
          go_simp))
      · exact FactsG.of rfl (fun _ _ _ => trivial) (fun xv wv hSw hd => by have dg : xv 18 = _ := pF_get (hd ⟨18, .guard⟩ (by simp) rfl _ rfl); simp only [dg]; rfl) (Facts.loadP hS hF (fun _ _ => rfl) 27 Try.underlying27 rfl zx _ rfl rfl (fun xv wv hSw hd => by rfl) (fun wv hSw => Rw.whole (cs := [Value.int .i64 x.k, .int .i64 x.b, .slice pa x.am.length ca', .slice pw x.wr.length cw, .slice pm x.mb.length cm, .slice pe x.el.length ce]) (R0.later hSw)))
      · exact FactsG.of rfl (fun _ _ _ => trivial) (fun xv wv hSw hd => by have dg : xv 18 = _ := pF_get (hd ⟨18, .guard⟩ (by simp) rfl _ rfl); simp only [dg]; rfl) (Facts.loadP hS hF (fun _ _ => rfl) 34 Try.underlying34 rfl ztx _ rfl rfl (fun xv wv hSw hd => by rfl) (fun wv hSw => Rw.whole (cs := (txc p s u t sl)) (R1.later hSw)))
      · exact FactsG.of rfl (fun _ _ _ => trivial) (fun xv wv hSw hd => by have dg : xv 18 = _ := pF_get (hd ⟨18, .guard⟩ (by simp) rfl _ rfl); simp only [dg]; rfl) (Facts.pureP hS hF (fun _ _ => rfl) rfl (fun xv wv hSw hd => by
          go_simp))
      · refine FactsG.of rfl (fun _ _ _ => trivial) (fun xv wv hSw hd => by have dg : xv 18 = _ := pF_get (hd ⟨18, .guard⟩ (by simp) rfl _ rfl); simp only [dg]; rfl) (Facts.call3P hS hF (fun _ _ => rfl) rfl (by kernel_rfl) rfl (fun xv wv hSw hd => ?_))
        have d19 : xv 19 = _ := pF_get (hd ⟨19, .data⟩ (by simp) rfl _ rfl)
        have d20 : xv 20 = _ := pF_get (hd ⟨20, .data⟩ (by simp) rfl _ rfl)
        have d21 : xv 21 = _ := pF_get (hd ⟨21, .data⟩ (by simp) rfl _ rfl)
        show Calls Try.prog 12 #[xv 19, xv 20, xv 21] wv _
        rw [d19, d20, d21]
        exact (C5 wv hSw).mono fun e w' h => gives_p h
      · exact FactsG.of rfl (fun _ _ _ => trivial) (fun xv wv hSw hd => by have dg : xv 18 = _ := pF_get (hd ⟨18, .guard⟩ (by simp) rfl _ rfl); simp only [dg]; rfl) (Facts.loadP hS hF (fun _ _ => rfl) 27 Try.underlying27 rfl zx _ rfl rfl (fun xv wv hSw hd => by rfl) (fun wv hSw => Rw.whole (cs := [Value.int .i64 x.k, .int .i64 x.b, .slice pa x.am.length ca', .slice pw x.wr.length cw, .slice pm x.mb.length cm, .slice pe x.el.length ce]) (R0.later hSw)))
      · exact FactsG.of rfl (fun _ _ _ => trivial) (fun xv wv hSw hd => by have dg : xv 18 = _ := pF_get (hd ⟨18, .guard⟩ (by simp) rfl _ rfl); simp only [dg]; rfl) (Facts.loadP hS hF (fun _ _ => rfl) 34 Try.underlying34 rfl ztx _ rfl rfl (fun xv wv hSw hd => by rfl) (fun wv hSw => Rw.whole (cs := (txc p s u t sl)) (R1.later hSw)))
      · exact FactsG.of rfl (fun _ _ _ => trivial) (fun xv wv hSw hd => by have dg : xv 18 = _ := pF_get (hd ⟨18, .guard⟩ (by simp) rfl _ rfl); simp only [dg]; rfl) (Facts.pureP hS hF (fun _ _ => rfl) rfl (fun xv wv hSw hd => by
          go_simp))
      · refine FactsG.of rfl (fun _ _ _ => trivial) (fun xv wv hSw hd => by have dg : xv 18 = _ := pF_get (hd ⟨18, .guard⟩ (by simp) rfl _ rfl); simp only [dg]; rfl) (Facts.call3P hS hF (fun _ _ => rfl) rfl (by kernel_rfl) rfl (fun xv wv hSw hd => ?_))
        have d23 : xv 23 = _ := pF_get (hd ⟨23, .data⟩ (by simp) rfl _ rfl)
        have d24 : xv 24 = _ := pF_get (hd ⟨24, .data⟩ (by simp) rfl _ rfl)
        have d25 : xv 25 = _ := pF_get (hd ⟨25, .data⟩ (by simp) rfl _ rfl)
        show Calls Try.prog 18 #[xv 23, xv 24, xv 25] wv _
        rw [d23, d24, d25]
        exact (C6 wv hSw).mono fun e w' h => gives_p h
      · refine FactsG.of rfl (fun _ _ _ => trivial) (fun xv wv hSw hd => by have dg : xv 18 = _ := pF_get (hd ⟨18, .guard⟩ (by simp) rfl _ rfl); simp only [dg]; rfl) (Facts.call2P hS hF (fun _ _ => rfl) rfl (by kernel_rfl) rfl (fun xv wv hSw hd => ?_))
        have d22 := pF_get (hd ⟨22, .data⟩ (by simp) rfl _ rfl)
        have d26 := pF_get (hd ⟨26, .data⟩ (by simp) rfl _ rfl)
        show Calls Try.prog 15 #[xv 22, xv 26] wv _
        obtain ⟨va, vw, vm, ve, e1, f1⟩ := d22
        obtain ⟨ua, uw, um, ue, e2, f2⟩ := d26
        rw [e1, e2]
        exact (same_any _ _ _ _ _ _ _ _ _ wv f1 f2 S2).mono fun e w' h => tells_p h
      · exact FactsG.of rfl (fun _ _ _ => trivial) (fun _ _ _ _ => rfl) (Facts.pureP hS hF (fun _ _ => rfl) rfl (fun xv wv hSw hd => by
          have d18 : xv 18 = _ := pF_get (hd ⟨18, .data⟩ (by simp) rfl _ rfl)
          have d27 : xv 27 = _ := pF_get (hd ⟨27, .data⟩ (by simp) rfl _ rfl)
          simp only [d18, d27]
          go_simp))
      · exact FactsG.of rfl (fun _ _ _ => trivial) (fun _ _ _ _ => rfl) (Facts.pureP hS hF (fun _ _ => rfl) rfl (fun xv wv hSw hd => by
          have d28 : xv 28 = _ := pF_get (hd ⟨28, .data⟩ (by simp) rfl _ rfl)
          simp only [d28]
          go_simp))
      · exact FactsG.of rfl (fun _ _ _ => trivial) (fun xv wv hSw hd => by have dg : xv 29 = _ := pF_get (hd ⟨29, .guard⟩ (by simp) rfl _ rfl); simp only [dg]; rfl) (Facts.loadP hS hF (fun _ _ => rfl) 27 Try.underlying27 rfl zx _ rfl rfl (fun xv wv hSw hd => by rfl) (fun wv hSw => Rw.whole (cs := [Value.int .i64 x.k, .int .i64 x.b, .slice pa x.am.length ca', .slice pw x.wr.length cw, .slice pm x.mb.length cm, .slice pe x.el.length ce]) (R0.later hSw)))
      · exact FactsG.of rfl (fun _ _ _ => trivial) (fun xv wv hSw hd => by have dg : xv 29 = _ := pF_get (hd ⟨29, .guard⟩ (by simp) rfl _ rfl); simp only [dg]; rfl) (Facts.loadP hS hF (fun _ _ => rfl) 31 Try.underlying31 rfl zc _ rfl rfl (fun xv wv hSw hd => by rfl) (fun wv hSw => Rw.whole (R2.later hSw)))
      · refine FactsG.of rfl (fun _ _ _ => trivial) (fun xv wv hSw hd => by have dg : xv 29 = _ := pF_get (hd ⟨29, .guard⟩ (by simp) rfl _ rfl); simp only [dg]; rfl) (Facts.call2P hS hF (fun _ _ => rfl) rfl (by kernel_rfl) rfl (fun xv wv hSw hd => ?_))
        have d30 : xv 30 = _ := pF_get (hd ⟨30, .data⟩ (by simp) rfl _ rfl)
        have d31 : xv 31 = _ := pF_get (hd ⟨31, .data⟩ (by simp) rfl _ rfl)
        show Calls Try.prog 19 #[xv 30, xv 31] wv _
        rw [d30, d31]
        exact (C7 wv hSw).mono fun e w' h => gives_p h
      · exact FactsG.of rfl (fun _ _ _ => trivial) (fun xv wv hSw hd => by have dg : xv 29 = _ := pF_get (hd ⟨29, .guard⟩ (by simp) rfl _ rfl); simp only [dg]; rfl) (Facts.loadP hS hF (fun _ _ => rfl) 27 Try.underlying27 rfl zx _ rfl rfl (fun xv wv hSw hd => by rfl) (fun wv hSw => Rw.whole (cs := [Value.int .i64 x.k, .int .i64 x.b, .slice pa x.am.length ca', .slice pw x.wr.length cw, .slice pm x.mb.length cm, .slice pe x.el.length ce]) (R0.later hSw)))
      · exact FactsG.of rfl (fun _ _ _ => trivial) (fun xv wv hSw hd => by have dg : xv 29 = _ := pF_get (hd ⟨29, .guard⟩ (by simp) rfl _ rfl); simp only [dg]; rfl) (Facts.loadP hS hF (fun _ _ => rfl) 31 Try.underlying31 rfl zc _ rfl rfl (fun xv wv hSw hd => by rfl) (fun wv hSw => Rw.whole (R2.later hSw)))
      · refine FactsG.of rfl (fun _ _ _ => trivial) (fun xv wv hSw hd => by have dg : xv 29 = _ := pF_get (hd ⟨29, .guard⟩ (by simp) rfl _ rfl); simp only [dg]; rfl) (Facts.call2P hS hF (fun _ _ => rfl) rfl (by kernel_rfl) rfl (fun xv wv hSw hd => ?_))
        have d33 : xv 33 = _ := pF_get (hd ⟨33, .data⟩ (by simp) rfl _ rfl)
        have d34 : xv 34 = _ := pF_get (hd ⟨34, .data⟩ (by simp) rfl _ rfl)
        show Calls Try.prog 20 #[xv 33, xv 34] wv _
        rw [d33, d34]
        exact (C8 wv hSw).mono fun e w' h => gives_p h
      · refine FactsG.of rfl (fun _ _ _ => trivial) (fun xv wv hSw hd => by have dg : xv 29 = _ := pF_get (hd ⟨29, .guard⟩ (by simp) rfl _ rfl); simp only [dg]; rfl) (Facts.call2P hS hF (fun _ _ => rfl) rfl (by kernel_rfl) rfl (fun xv wv hSw hd => ?_))
        have d32 := pF_get (hd ⟨32, .data⟩ (by simp) rfl _ rfl)
        have d35 := pF_get (hd ⟨35, .data⟩ (by simp) rfl _ rfl)
        show Calls Try.prog 15 #[xv 32, xv 35] wv _
        obtain ⟨va, vw, vm, ve, e1, f1⟩ := d32
        obtain ⟨ua, uw, um, ue, e2, f2⟩ := d35
        rw [e1, e2]
        exact (same_any _ _ _ _ _ _ _ _ _ wv f1 f2 S3).mono fun e w' h => tells_p h
      · exact FactsG.of rfl (fun _ _ _ => trivial) (fun _ _ _ _ => rfl) (Facts.pureP hS hF (fun _ _ => rfl) rfl (fun xv wv hSw hd => by
          have d29 : xv 29 = _ := pF_get (hd ⟨29, .data⟩ (by simp) rfl _ rfl)
          have d36 : xv 36 = _ := pF_get (hd ⟨36, .data⟩ (by simp) rfl _ rfl)
          simp only [d29, d36]
          go_simp))
      · exact FactsG.of rfl (fun _ _ _ => trivial) (fun _ _ _ _ => rfl) (Facts.pureP hS hF (fun _ _ => rfl) rfl (fun xv wv hSw hd => by
          have d37 : xv 37 = _ := pF_get (hd ⟨37, .data⟩ (by simp) rfl _ rfl)
          simp only [d37]
          go_simp))
      · exact FactsG.of rfl (fun _ _ _ => trivial) (fun xv wv hSw hd => by have dg : xv 38 = _ := pF_get (hd ⟨38, .guard⟩ (by simp) rfl _ rfl); simp only [dg]; rfl) (Facts.loadP hS hF (fun _ _ => rfl) 27 Try.underlying27 rfl zx _ rfl rfl (fun xv wv hSw hd => by rfl) (fun wv hSw => Rw.whole (cs := [Value.int .i64 x.k, .int .i64 x.b, .slice pa x.am.length ca', .slice pw x.wr.length cw, .slice pm x.mb.length cm, .slice pe x.el.length ce]) (R0.later hSw)))
      · refine FactsG.of rfl (fun _ _ _ => trivial) (fun xv wv hSw hd => by have dg : xv 38 = _ := pF_get (hd ⟨38, .guard⟩ (by simp) rfl _ rfl); simp only [dg]; rfl) (Facts.call1P hS hF (fun _ _ => rfl) rfl (by kernel_rfl) rfl (fun xv wv hSw hd => ?_))
        have d39 : xv 39 = _ := pF_get (hd ⟨39, .data⟩ (by simp) rfl _ rfl)
        show Calls Try.prog 13 #[xv 39] wv _
        rw [d39]
        exact (C9 wv hSw).mono fun e w' h => tells_p h
      · exact FactsG.of rfl (fun _ _ _ => trivial) (fun xv wv hSw hd => by have dg : xv 38 = _ := pF_get (hd ⟨38, .guard⟩ (by simp) rfl _ rfl); simp only [dg]; rfl) (Facts.loadP hS hF (fun _ _ => rfl) 27 Try.underlying27 rfl zx _ rfl rfl (fun xv wv hSw hd => by rfl) (fun wv hSw => Rw.whole (cs := [Value.int .i64 x.k, .int .i64 x.b, .slice pa x.am.length ca', .slice pw x.wr.length cw, .slice pm x.mb.length cm, .slice pe x.el.length ce]) (R0.later hSw)))
      · refine FactsG.of rfl (fun _ _ _ => trivial) (fun xv wv hSw hd => by have dg : xv 38 = _ := pF_get (hd ⟨38, .guard⟩ (by simp) rfl _ rfl); simp only [dg]; rfl) (Facts.call1P hS hF (fun _ _ => rfl) rfl (by kernel_rfl) rfl (fun xv wv hSw hd => ?_))
        have d41 : xv 41 = _ := pF_get (hd ⟨41, .data⟩ (by simp) rfl _ rfl)
        show Calls Try.prog 22 #[xv 41] wv _
        rw [d41]
        exact (C10 wv hSw).mono fun e w' h => tells_p h
      · refine FactsG.of rfl (fun _ _ _ => trivial) (fun xv wv hSw hd => by have dg : xv 38 = _ := pF_get (hd ⟨38, .guard⟩ (by simp) rfl _ rfl); simp only [dg]; rfl) (Facts.call2P hS hF (fun _ _ => rfl) rfl (by kernel_rfl) rfl (fun xv wv hSw hd => ?_))
        have d40 : xv 40 = _ := pF_get (hd ⟨40, .data⟩ (by simp) rfl _ rfl)
        have d42 : xv 42 = _ := pF_get (hd ⟨42, .data⟩ (by simp) rfl _ rfl)
        show Calls Try.prog 21 #[xv 40, xv 42] wv _
        rw [d40, d42]
        exact (values_any rk rn wv).mono fun e w' h => tells_p h
      · exact FactsG.of rfl (fun _ _ _ => trivial) (fun _ _ _ _ => rfl) (Facts.pureP hS hF (fun _ _ => rfl) rfl (fun xv wv hSw hd => by
          have d38 : xv 38 = _ := pF_get (hd ⟨38, .data⟩ (by simp) rfl _ rfl)
          have d43 : xv 43 = _ := pF_get (hd ⟨43, .data⟩ (by simp) rfl _ rfl)
          simp only [d38, d43]
          go_simp))
      · exact FactsG.of rfl (fun _ _ _ => trivial) (fun _ _ _ _ => rfl) (Facts.pureP hS hF (fun _ _ => rfl) rfl (fun xv wv hSw hd => by
          have d44 : xv 44 = _ := pF_get (hd ⟨44, .data⟩ (by simp) rfl _ rfl)
          simp only [d44]
          go_simp))
      · refine FactsG.of rfl (fun _ _ _ => trivial) (fun xv wv hSw hd => by have dg : xv 45 = _ := pF_get (hd ⟨45, .guard⟩ (by simp) rfl _ rfl); simp only [dg]; rfl) (Facts.call0P hS hF (fun _ _ => rfl) rfl (by kernel_rfl) rfl (fun xv wv hSw hd => ?_))
        exact (heads_any wv).mono fun e w' h => tells_p h
      · exact FactsG.of rfl (fun _ _ _ => trivial) (fun _ _ _ _ => rfl) (Facts.pureP hS hF (fun _ _ => rfl) rfl (fun xv wv hSw hd => by
          have d45 : xv 45 = _ := pF_get (hd ⟨45, .data⟩ (by simp) rfl _ rfl)
          have d46 : xv 46 = _ := pF_get (hd ⟨46, .data⟩ (by simp) rfl _ rfl)
          simp only [d45, d46]
          go_simp))
      · exact FactsG.of rfl (fun _ _ _ => trivial) (fun _ _ _ _ => rfl) (Facts.pureP hS hF (fun _ _ => rfl) rfl (fun xv wv hSw hd => by
          have d47 : xv 47 = _ := pF_get (hd ⟨47, .data⟩ (by simp) rfl _ rfl)
          simp only [d47]
          go_simp))
      rintro xv w9 hb9 hf _
      have e48 : xv 48 = _ := pF_get (hf 48 _ (by decide) rfl)
      simp only [e48]
      go_wp2_with fail
      go_ret
      exact ⟨rfl, below_on hbel hb9⟩
end Go.Proofs.Ytfjpjodaaofgbaa
