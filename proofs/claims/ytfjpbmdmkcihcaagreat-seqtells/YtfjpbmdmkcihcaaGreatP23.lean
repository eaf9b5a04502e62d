import Derived.Test.YtfjpbmdmkcihcaaGreatP14
import Derived.Test.YtfjpbmdmkcihcaaGreatP15
import Derived.Test.YtfjpbmdmkcihcaaGreatP10
import Derived.Test.YtfjpbmdmkcihcaaGreatP20
import Derived.Test.YtfjpbmdmkcihcaaGreatP21
import Derived.Test.YtfjpbmdmkcihcaaGreatP22
import Derived.Deep.Slices
/- What SeqTells says, of every cell, transaction, index, mark, text and cut. -/
namespace Go.Proofs.YtfjpbmdmkcihcaaGreat
open Go.RowKit
open Go.Sort

set_option maxHeartbeats 16000000 in
set_option maxRecDepth 100000 in
theorem tells_law (x : X) (va vw vm ve : Value) (q u : Int) (v : List Int) (t : Int) (sl : Value) (lp : List O) (i : Int) (m : M) (s : ByteArray) (c : List Int) (w : World) (hv : v.length = 13) (hc : c.length = 13) (hp : OHas w sl lp) (h : Four w x va vw vm ve) (hl : Lk x) : Calls Tryz.prog 3 #[CV x.k x.b va vw vm ve, TxV q u v t sl, .int .i64 i, MV m.p m.s m.i, .string s, V c] w (Tells (.bool true) w) := by
  obtain ⟨pa, ca', pw, cw, pm, cm, pe, ce, rfl, rfl, rfl, rfl⟩ := h.slices; have R0 := (((rw_new w 27 (cvc x.k x.b (.slice pa x.am.length ca') (.slice pw x.wr.length cw) (.slice pm x.mb.length cm) (.slice pe x.el.length ce))).alloc (.cells (txc q u v t sl).toArray 34)).alloc (.cells #[.int .i64 m.p, .int .i64 m.s, .int .i64 m.i] 36)).alloc (.cells (vals c).toArray 31); have R1 := ((rw_new (w.alloc (.cells (cvc x.k x.b (.slice pa x.am.length ca') (.slice pw x.wr.length cw) (.slice pm x.mb.length cm) (.slice pe x.el.length ce)) 27)) 34 (txc q u v t sl).toArray).alloc (.cells #[.int .i64 m.p, .int .i64 m.s, .int .i64 m.i] 36)).alloc (.cells (vals c).toArray 31); have R2 := (rw_new ((w.alloc (.cells (cvc x.k x.b (.slice pa x.am.length ca') (.slice pw x.wr.length cw) (.slice pm x.mb.length cm) (.slice pe x.el.length ce)) 27)).alloc (.cells (txc q u v t sl).toArray 34)) 36 #[.int .i64 m.p, .int .i64 m.s, .int .i64 m.i]).alloc (.cells (vals c).toArray 31); have R3 := rw_new (((w.alloc (.cells (cvc x.k x.b (.slice pa x.am.length ca') (.slice pw x.wr.length cw) (.slice pm x.mb.length cm) (.slice pe x.el.length ce)) 27)).alloc (.cells (txc q u v t sl).toArray 34)).alloc (.cells #[.int .i64 m.p, .int .i64 m.s, .int .i64 m.i] 36)) 31 (vals c).toArray; have hbel := bel_alloc (bel_alloc (bel_alloc (bel_alloc (Below.refl w.heap.size w) (.cells (cvc x.k x.b (.slice pa x.am.length ca') (.slice pw x.wr.length cw) (.slice pm x.mb.length cm) (.slice pe x.el.length ce)) 27)) (.cells (txc q u v t sl).toArray 34)) (.cells #[.int .i64 m.p, .int .i64 m.s, .int .i64 m.i] 36)) (.cells (vals c).toArray 31); replace h := h.later hbel; replace hp := hp.later hbel; generalize hW : (((w.alloc (.cells (cvc x.k x.b (.slice pa x.am.length ca') (.slice pw x.wr.length cw) (.slice pm x.mb.length cm) (.slice pe x.el.length ce)) 27)).alloc (.cells (txc q u v t sl).toArray 34)).alloc (.cells #[.int .i64 m.p, .int .i64 m.s, .int .i64 m.i] 36)).alloc (.cells (vals c).toArray 31) = w0 at R0 R1 R2 R3 hbel h hp; simp only [World.size_alloc] at R0 R1 R2 R3; have zt := size_tx (p := q) (s := u) (t := t) (sl := sl) hv
  go_enter Tryz.func3, Tryz.ntmps3
  go_wp2_with (first | rw [hW] | refine load_r 27 _ rfl rfl _ rfl R0 Tryz.underlying27 rfl size27 ?_)
  clear hW; refine (few_any x _ _ _ _ w0 h hl).mono ?_; rintro e w1 ⟨bf1, rfl, hfw, hb1⟩; have HFW : Hid (bf1 = true → Fw x) := hfw; replace R0 := R0.later hb1; replace R1 := R1.later hb1; replace R2 := R2.later hb1; replace R3 := R3.later hb1; replace h := h.later hb1; replace hp := hp.later hb1; replace hbel := below_on hbel hb1; clear hb1 hfw hl
  cases bf1
  case' false =>
    clear HFW; go_wp2_with fail; refine (heads_any _).mono ?_; rintro e w9 ⟨rfl, hb9⟩; go_wp2_with fail; go_ret; exact ⟨rfl, below_on hbel hb9⟩
  case' true =>
    have hz := (HFW.out rfl).sz; have hs := hz.sm (by decide) (by decide); clear HFW
    go_wp2_with (first | refine load_r 34 _ rfl rfl _ rfl R1 Tryz.underlying34 rfl zt ?_)
    refine (small_any q u v t sl lp w1 hv hp).mono ?_; rintro e w2 ⟨bs1, rfl, _, hb1⟩; replace R0 := R0.later hb1; replace R1 := R1.later hb1; replace R2 := R2.later hb1; replace R3 := R3.later hb1; replace h := h.later hb1; replace hbel := below_on hbel hb1; clear hb1 hp
    cases bs1
    case' false =>
      go_wp2_with fail; refine (heads_any _).mono ?_; rintro e w9 ⟨rfl, hb9⟩; go_wp2_with fail; go_ret; exact ⟨rfl, below_on hbel hb9⟩
    case' true =>
      by_cases htx : 100 < s.size
      case' pos =>
        have htx' : decide ((100 : Int) < (s.size : Int)) = true := decide_eq_true (by omega); go_wp2_with fail; refine (heads_any _).mono ?_; rintro e w9 ⟨rfl, hb9⟩; go_wp2_with fail; go_ret; exact ⟨rfl, below_on hbel hb9⟩
      case' neg =>
        have htx' : decide ((100 : Int) < (s.size : Int)) = false := decide_eq_false (by omega); go_wp2_with fail; clear htx htx'; obtain ⟨y1, HY1⟩ := hid_ex (ck x); obtain ⟨xi, HI⟩ := hid_ex (insX x (⟨q, u, i, t, m.p, m.s, m.i, s, []⟩ : El) (bfP q u v i)); obtain ⟨xd, HD⟩ := hid_ex (goX x ⟨q, u, i⟩ (fun y => decide (kM y = kM m))); obtain ⟨xc, HC⟩ := hid_ex (goX x ⟨q, u, i⟩ (bfP q u v i)); obtain ⟨xf, HF⟩ := hid_ex (fdX x (hsP c)); obtain ⟨lo, HO⟩ := hid_ex (orX x); obtain ⟨rt, HRT⟩ := hid_ex (rdT x); obtain ⟨rk, HRK⟩ := hid_ex (rdK x)
        have si : Sm xi := by rw [← HI.out]; exact (sz_ins hz _ _ (Nat.zero_le _)).sm (by decide) (by decide)
        have sd : Sm xd := by rw [← HD.out]; exact (sz_go hz _ _).sm (by decide) (by decide)
        have sc : Sm xc := by rw [← HC.out]; exact (sz_go hz _ _).sm (by decide) (by decide)
        have sf : Sm xf := by rw [← HF.out]; exact (sz_fd hz _).sm (by decide) (by decide)
        have C1 := fun w' (hb : Below w2.heap.size w2 w') => check_any _ _ _ _ _ w' (h.later hb) hs
        have C2 := fun w' (hb : Below w2.heap.size w2 w') => refCheck_any _ _ _ _ _ w' (h.later hb) hs
        rw [HY1.out] at C1 C2
        have C3 := fun w' (hb : Below w2.heap.size w2 w') => ins_any _ _ _ _ _ q u v t sl i m s w' hv (h.later hb) hs
        have C4 := fun w' (hb : Below w2.heap.size w2 w') => refIns_any _ _ _ _ _ q u v t sl i m s w' hv (h.later hb) hs
        rw [HI.out] at C3 C4
        have C5 := fun w' (hb : Below w2.heap.size w2 w') => del_any _ _ _ _ _ q u v t sl i m w' hv (h.later hb) hs
        have C6 := fun w' (hb : Below w2.heap.size w2 w') => refDel_any _ _ _ _ _ q u v t sl i m w' hv (h.later hb) hs
        rw [HD.out] at C5 C6
        have C7 := fun w' (hb : Below w2.heap.size w2 w') => clear_any _ _ _ _ _ q u v t sl i w' hv (h.later hb) hs
        have C8 := fun w' (hb : Below w2.heap.size w2 w') => refClear_any _ _ _ _ _ q u v t sl i w' hv (h.later hb) hs
        rw [HC.out] at C7 C8
        have C9 := fun w' (hb : Below w2.heap.size w2 w') => fold_any _ _ _ _ _ c w' hc (h.later hb) hs
        have C10 := fun w' (hb : Below w2.heap.size w2 w') => refFold_any _ _ _ _ _ c w' hc (h.later hb) hs
        rw [HF.out] at C9 C10
        have C11 := fun w' (hb : Below w2.heap.size w2 w') => order_any _ _ _ _ _ w' (h.later hb) hs
        have C12 := fun w' (hb : Below w2.heap.size w2 w') => refOrder_any _ _ _ _ _ w' (h.later hb) hs
        unfold OrPost at C11 C12; rw [HO.out] at C11 C12
        have C13 := fun w' (hb : Below w2.heap.size w2 w') => read_any _ _ _ _ _ w' (h.later hb) hs
        have C14 := fun w' (hb : Below w2.heap.size w2 w') => refRead_any _ _ _ _ _ w' (h.later hb) hs
        unfold RdPost at C13 C14; rw [HRT.out, HRK.out] at C13 C14; have zx : (Tryz.prog.info? 27).map (·.size) = some ([Value.int .i64 x.k, .int .i64 x.b, .slice pa x.am.length ca', .slice pw x.wr.length cw, .slice pm x.mb.length cm, .slice pe x.el.length ce] : List Value).length := size27
        have ztx : (Tryz.prog.info? 34).map (·.size) = some (txc q u v t sl).length := by rw [txc_length hv]; exact size34
        have zm : (Tryz.prog.info? 36).map (·.size) = some [Value.int .i64 m.p, .int .i64 m.s, .int .i64 m.i].length := size36; have zc : (Tryz.prog.info? 31).map (·.size) = some (vals c).length := info31 hc; clear hz HY1 HI HD HC HF HO HRT HRK
        have hS : Calm.Stays (fun w' => Below w2.heap.size w2 w') := fun wa wb h hb => below_on h hb
        have hF : Facts.Stay [pF 0 (eqP (.agg ([Value.int .i64 x.k, .int .i64 x.b, .slice pa x.am.length ca', .slice pw x.wr.length cw, .slice pm x.mb.length cm, .slice pe x.el.length ce] : List Value).toArray)), pF 1 (eqP (.bool y1)), pF 2 (eqP (.agg ([Value.int .i64 x.k, .int .i64 x.b, .slice pa x.am.length ca', .slice pw x.wr.length cw, .slice pm x.mb.length cm, .slice pe x.el.length ce] : List Value).toArray)), pF 3 (eqP (.bool y1)), pF 4 (eqP (.bool true)), pF 5 (eqP (.bool true)), pF 6 (eqP (.agg ([Value.int .i64 x.k, .int .i64 x.b, .slice pa x.am.length ca', .slice pw x.wr.length cw, .slice pm x.mb.length cm, .slice pe x.el.length ce] : List Value).toArray)), pF 7 (eqP (.agg (txc q u v t sl).toArray)), pF 8 (eqP (.int .i64 i)), pF 9 (eqP (.agg [Value.int .i64 m.p, .int .i64 m.s, .int .i64 m.i].toArray)), pF 10 (eqP (.string s)), pF 11 (cP xi), pF 12 (eqP (.agg ([Value.int .i64 x.k, .int .i64 x.b, .slice pa x.am.length ca', .slice pw x.wr.length cw, .slice pm x.mb.length cm, .slice pe x.el.length ce] : List Value).toArray)), pF 13 (eqP (.agg (txc q u v t sl).toArray)), pF 14 (eqP (.int .i64 i)), pF 15 (eqP (.agg [Value.int .i64 m.p, .int .i64 m.s, .int .i64 m.i].toArray)), pF 16 (eqP (.string s)), pF 17 (cP xi), pF 18 (eqP (.bool true)), pF 19 (eqP (.bool true)), pF 20 (eqP (.bool true)), pF 21 (eqP (.agg ([Value.int .i64 x.k, .int .i64 x.b, .slice pa x.am.length ca', .slice pw x.wr.length cw, .slice pm x.mb.length cm, .slice pe x.el.length ce] : List Value).toArray)), pF 22 (eqP (.agg (txc q u v t sl).toArray)), pF 23 (eqP (.int .i64 i)), pF 24 (eqP (.agg [Value.int .i64 m.p, .int .i64 m.s, .int .i64 m.i].toArray)), pF 25 (cP xd), pF 26 (eqP (.agg ([Value.int .i64 x.k, .int .i64 x.b, .slice pa x.am.length ca', .slice pw x.wr.length cw, .slice pm x.mb.length cm, .slice pe x.el.length ce] : List Value).toArray)), pF 27 (eqP (.agg (txc q u v t sl).toArray)), pF 28 (eqP (.int .i64 i)), pF 29 (eqP (.agg [Value.int .i64 m.p, .int .i64 m.s, .int .i64 m.i].toArray)), pF 30 (cP xd), pF 31 (eqP (.bool true)), pF 32 (eqP (.bool true)), pF 33 (eqP (.bool true)), pF 34 (eqP (.agg ([Value.int .i64 x.k, .int .i64 x.b, .slice pa x.am.length ca', .slice pw x.wr.length cw, .slice pm x.mb.length cm, .slice pe x.el.length ce] : List Value).toArray)), pF 35 (eqP (.agg (txc q u v t sl).toArray)), pF 36 (eqP (.int .i64 i)), pF 37 (cP xc), pF 38 (eqP (.agg ([Value.int .i64 x.k, .int .i64 x.b, .slice pa x.am.length ca', .slice pw x.wr.length cw, .slice pm x.mb.length cm, .slice pe x.el.length ce] : List Value).toArray)), pF 39 (eqP (.agg (txc q u v t sl).toArray)), pF 40 (eqP (.int .i64 i)), pF 41 (cP xc), pF 42 (eqP (.bool true)), pF 43 (eqP (.bool true)), pF 44 (eqP (.bool true)), pF 45 (eqP (.agg ([Value.int .i64 x.k, .int .i64 x.b, .slice pa x.am.length ca', .slice pw x.wr.length cw, .slice pm x.mb.length cm, .slice pe x.el.length ce] : List Value).toArray)), pF 46 (eqP (.agg (vals c).toArray)), pF 47 (cP xf), pF 48 (eqP (.agg ([Value.int .i64 x.k, .int .i64 x.b, .slice pa x.am.length ca', .slice pw x.wr.length cw, .slice pm x.mb.length cm, .slice pe x.el.length ce] : List Value).toArray)), pF 49 (eqP (.agg (vals c).toArray)), pF 50 (cP xf), pF 51 (eqP (.bool true)), pF 52 (eqP (.bool true)), pF 53 (eqP (.bool true)), pF 54 (eqP (.agg ([Value.int .i64 x.k, .int .i64 x.b, .slice pa x.am.length ca', .slice pw x.wr.length cw, .slice pm x.mb.length cm, .slice pe x.el.length ce] : List Value).toArray)), pF 55 (mkP lo), pF 56 (eqP (.agg ([Value.int .i64 x.k, .int .i64 x.b, .slice pa x.am.length ca', .slice pw x.wr.length cw, .slice pm x.mb.length cm, .slice pe x.el.length ce] : List Value).toArray)), pF 57 (mkP lo), pF 58 (eqP (.bool true)), pF 59 (eqP (.bool true)), pF 60 (eqP (.bool true)), pF 61 (eqP (.agg ([Value.int .i64 x.k, .int .i64 x.b, .slice pa x.am.length ca', .slice pw x.wr.length cw, .slice pm x.mb.length cm, .slice pe x.el.length ce] : List Value).toArray)), pF 62 (vP rk rt), pF 63 (eqP (.agg ([Value.int .i64 x.k, .int .i64 x.b, .slice pa x.am.length ca', .slice pw x.wr.length cw, .slice pm x.mb.length cm, .slice pe x.el.length ce] : List Value).toArray)), pF 64 (vP rk rt), pF 65 (eqP (.bool true)), pF 66 (eqP (.bool true)), pF 67 (eqP (.bool true)), pF 68 (eqP (.bool true)), pF 69 (eqP (.bool true)), pF 70 (eqP (.bool true))] := stay_of (by simp only [List.forall_mem_cons]; exact ⟨⟨_, _, rfl, eqP_keeps _⟩, ⟨_, _, rfl, eqP_keeps _⟩, ⟨_, _, rfl, eqP_keeps _⟩, ⟨_, _, rfl, eqP_keeps _⟩, ⟨_, _, rfl, eqP_keeps _⟩, ⟨_, _, rfl, eqP_keeps _⟩, ⟨_, _, rfl, eqP_keeps _⟩, ⟨_, _, rfl, eqP_keeps _⟩, ⟨_, _, rfl, eqP_keeps _⟩, ⟨_, _, rfl, eqP_keeps _⟩, ⟨_, _, rfl, eqP_keeps _⟩, ⟨_, _, rfl, cP_keeps _⟩, ⟨_, _, rfl, eqP_keeps _⟩, ⟨_, _, rfl, eqP_keeps _⟩, ⟨_, _, rfl, eqP_keeps _⟩, ⟨_, _, rfl, eqP_keeps _⟩, ⟨_, _, rfl, eqP_keeps _⟩, ⟨_, _, rfl, cP_keeps _⟩, ⟨_, _, rfl, eqP_keeps _⟩, ⟨_, _, rfl, eqP_keeps _⟩, ⟨_, _, rfl, eqP_keeps _⟩, ⟨_, _, rfl, eqP_keeps _⟩, ⟨_, _, rfl, eqP_keeps _⟩, ⟨_, _, rfl, eqP_keeps _⟩, ⟨_, _, rfl, eqP_keeps _⟩, ⟨_, _, rfl, cP_keeps _⟩, ⟨_, _, rfl, eqP_keeps _⟩, ⟨_, _, rfl, eqP_keeps _⟩, ⟨_, _, rfl, eqP_keeps _⟩, ⟨_, _, rfl, eqP_keeps _⟩, ⟨_, _, rfl, cP_keeps _⟩, ⟨_, _, rfl, eqP_keeps _⟩, ⟨_, _, rfl, eqP_keeps _⟩, ⟨_, _, rfl, eqP_keeps _⟩, ⟨_, _, rfl, eqP_keeps _⟩, ⟨_, _, rfl, eqP_keeps _⟩, ⟨_, _, rfl, eqP_keeps _⟩, ⟨_, _, rfl, cP_keeps _⟩, ⟨_, _, rfl, eqP_keeps _⟩, ⟨_, _, rfl, eqP_keeps _⟩, ⟨_, _, rfl, eqP_keeps _⟩, ⟨_, _, rfl, cP_keeps _⟩, ⟨_, _, rfl, eqP_keeps _⟩, ⟨_, _, rfl, eqP_keeps _⟩, ⟨_, _, rfl, eqP_keeps _⟩, ⟨_, _, rfl, eqP_keeps _⟩, ⟨_, _, rfl, eqP_keeps _⟩, ⟨_, _, rfl, cP_keeps _⟩, ⟨_, _, rfl, eqP_keeps _⟩, ⟨_, _, rfl, eqP_keeps _⟩, ⟨_, _, rfl, cP_keeps _⟩, ⟨_, _, rfl, eqP_keeps _⟩, ⟨_, _, rfl, eqP_keeps _⟩, ⟨_, _, rfl, eqP_keeps _⟩, ⟨_, _, rfl, eqP_keeps _⟩, ⟨_, _, rfl, mkP_keeps _⟩, ⟨_, _, rfl, eqP_keeps _⟩, ⟨_, _, rfl, mkP_keeps _⟩, ⟨_, _, rfl, eqP_keeps _⟩, ⟨_, _, rfl, eqP_keeps _⟩, ⟨_, _, rfl, eqP_keeps _⟩, ⟨_, _, rfl, eqP_keeps _⟩, ⟨_, _, rfl, vP_keeps _ _⟩, ⟨_, _, rfl, eqP_keeps _⟩, ⟨_, _, rfl, vP_keeps _ _⟩, ⟨_, _, rfl, eqP_keeps _⟩, ⟨_, _, rfl, eqP_keeps _⟩, ⟨_, _, rfl, eqP_keeps _⟩, ⟨_, _, rfl, eqP_keeps _⟩, ⟨_, _, rfl, eqP_keeps _⟩, ⟨_, _, rfl, eqP_keeps _⟩, fun _ h => by cases h⟩)
        refine FactsG.region (by kernel_rfl) (by kernel_rfl) (fun w' => Below w2.heap.size w2 w') (fun xv => { tmps := #[CV x.k x.b (Value.slice pa x.am.length ca') (Value.slice pw x.wr.length cw) (Value.slice pm x.mb.length cm) (Value.slice pe x.el.length ce), TxV q u v t sl, Value.int IntKind.i64 i, MV m.p m.s m.i, Value.string s, V c, Value.pointer (some { block := w.heap.size, off := 0 }), Value.pointer (some { block := w.heap.size + 1, off := 0 }), undef, Value.pointer (some { block := w.heap.size + 1 + 1, off := 0 }), undef, Value.pointer (some { block := w.heap.size + 1 + 1 + 1, off := 0 }), xv 70, Value.agg (cvc x.k x.b (Value.slice pa x.am.length ca') (Value.slice pw x.wr.length cw) (Value.slice pm x.mb.length cm) (Value.slice pe x.el.length ce)), Value.bool true, Value.bool false, Value.bool false, Value.agg (txc q u v t sl).toArray, Value.bool true, Value.bool false, Value.bool false, Value.bool false, Value.string s, Value.int IntKind.i64 ↑s.size, Value.bool false, Value.bool false, undef, xv 0, xv 1, xv 2, xv 3, xv 4, xv 5, xv 6, xv 7, xv 8, xv 9, xv 10, xv 11, xv 12, xv 13, xv 14, xv 15, xv 16, xv 17, xv 18, xv 19, xv 20, xv 21, xv 22, xv 23, xv 24, xv 25, xv 26, xv 27, xv 28, xv 29, xv 30, xv 31, xv 32, xv 33, xv 34, xv 35, xv 36, xv 37, xv 38, xv 39, xv 40, xv 41, xv 42, xv 43, xv 44, xv 45, xv 46, xv 47, xv 48, xv 49, xv 50, xv 51, xv 52, xv 53, xv 54, xv 55, xv 56, xv 57, xv 58, xv 59, xv 60, xv 61, xv 62, xv 63, xv 64, xv 65, xv 66, xv 67, xv 68, xv 69], defers := [] }) [pF 0 (eqP (.agg ([Value.int .i64 x.k, .int .i64 x.b, .slice pa x.am.length ca', .slice pw x.wr.length cw, .slice pm x.mb.length cm, .slice pe x.el.length ce] : List Value).toArray)), pF 1 (eqP (.bool y1)), pF 2 (eqP (.agg ([Value.int .i64 x.k, .int .i64 x.b, .slice pa x.am.length ca', .slice pw x.wr.length cw, .slice pm x.mb.length cm, .slice pe x.el.length ce] : List Value).toArray)), pF 3 (eqP (.bool y1)), pF 4 (eqP (.bool true)), pF 5 (eqP (.bool true)), pF 6 (eqP (.agg ([Value.int .i64 x.k, .int .i64 x.b, .slice pa x.am.length ca', .slice pw x.wr.length cw, .slice pm x.mb.length cm, .slice pe x.el.length ce] : List Value).toArray)), pF 7 (eqP (.agg (txc q u v t sl).toArray)), pF 8 (eqP (.int .i64 i)), pF 9 (eqP (.agg [Value.int .i64 m.p, .int .i64 m.s, .int .i64 m.i].toArray)), pF 10 (eqP (.string s)), pF 11 (cP xi), pF 12 (eqP (.agg ([Value.int .i64 x.k, .int .i64 x.b, .slice pa x.am.length ca', .slice pw x.wr.length cw, .slice pm x.mb.length cm, .slice pe x.el.length ce] : List Value).toArray)), pF 13 (eqP (.agg (txc q u v t sl).toArray)), pF 14 (eqP (.int .i64 i)), pF 15 (eqP (.agg [Value.int .i64 m.p, .int .i64 m.s, .int .i64 m.i].toArray)), pF 16 (eqP (.string s)), pF 17 (cP xi), pF 18 (eqP (.bool true)), pF 19 (eqP (.bool true)), pF 20 (eqP (.bool true)), pF 21 (eqP (.agg ([Value.int .i64 x.k, .int .i64 x.b, .slice pa x.am.length ca', .slice pw x.wr.length cw, .slice pm x.mb.length cm, .slice pe x.el.length ce] : List Value).toArray)), pF 22 (eqP (.agg (txc q u v t sl).toArray)), pF 23 (eqP (.int .i64 i)), pF 24 (eqP (.agg [Value.int .i64 m.p, .int .i64 m.s, .int .i64 m.i].toArray)), pF 25 (cP xd), pF 26 (eqP (.agg ([Value.int .i64 x.k, .int .i64 x.b, .slice pa x.am.length ca', .slice pw x.wr.length cw, .slice pm x.mb.length cm, .slice pe x.el.length ce] : List Value).toArray)), pF 27 (eqP (.agg (txc q u v t sl).toArray)), pF 28 (eqP (.int .i64 i)), pF 29 (eqP (.agg [Value.int .i64 m.p, .int .i64 m.s, .int .i64 m.i].toArray)), pF 30 (cP xd), pF 31 (eqP (.bool true)), pF 32 (eqP (.bool true)), pF 33 (eqP (.bool true)), pF 34 (eqP (.agg ([Value.int .i64 x.k, .int .i64 x.b, .slice pa x.am.length ca', .slice pw x.wr.length cw, .slice pm x.mb.length cm, .slice pe x.el.length ce] : List Value).toArray)), pF 35 (eqP (.agg (txc q u v t sl).toArray)), pF 36 (eqP (.int .i64 i)), pF 37 (cP xc), pF 38 (eqP (.agg ([Value.int .i64 x.k, .int .i64 x.b, .slice pa x.am.length ca', .slice pw x.wr.length cw, .slice pm x.mb.length cm, .slice pe x.el.length ce] : List Value).toArray)), pF 39 (eqP (.agg (txc q u v t sl).toArray)), pF 40 (eqP (.int .i64 i)), pF 41 (cP xc), pF 42 (eqP (.bool true)), pF 43 (eqP (.bool true)), pF 44 (eqP (.bool true)), pF 45 (eqP (.agg ([Value.int .i64 x.k, .int .i64 x.b, .slice pa x.am.length ca', .slice pw x.wr.length cw, .slice pm x.mb.length cm, .slice pe x.el.length ce] : List Value).toArray)), pF 46 (eqP (.agg (vals c).toArray)), pF 47 (cP xf), pF 48 (eqP (.agg ([Value.int .i64 x.k, .int .i64 x.b, .slice pa x.am.length ca', .slice pw x.wr.length cw, .slice pm x.mb.length cm, .slice pe x.el.length ce] : List Value).toArray)), pF 49 (eqP (.agg (vals c).toArray)), pF 50 (cP xf), pF 51 (eqP (.bool true)), pF 52 (eqP (.bool true)), pF 53 (eqP (.bool true)), pF 54 (eqP (.agg ([Value.int .i64 x.k, .int .i64 x.b, .slice pa x.am.length ca', .slice pw x.wr.length cw, .slice pm x.mb.length cm, .slice pe x.el.length ce] : List Value).toArray)), pF 55 (mkP lo), pF 56 (eqP (.agg ([Value.int .i64 x.k, .int .i64 x.b, .slice pa x.am.length ca', .slice pw x.wr.length cw, .slice pm x.mb.length cm, .slice pe x.el.length ce] : List Value).toArray)), pF 57 (mkP lo), pF 58 (eqP (.bool true)), pF 59 (eqP (.bool true)), pF 60 (eqP (.bool true)), pF 61 (eqP (.agg ([Value.int .i64 x.k, .int .i64 x.b, .slice pa x.am.length ca', .slice pw x.wr.length cw, .slice pm x.mb.length cm, .slice pe x.el.length ce] : List Value).toArray)), pF 62 (vP rk rt), pF 63 (eqP (.agg ([Value.int .i64 x.k, .int .i64 x.b, .slice pa x.am.length ca', .slice pw x.wr.length cw, .slice pm x.mb.length cm, .slice pe x.el.length ce] : List Value).toArray)), pF 64 (vP rk rt), pF 65 (eqP (.bool true)), pF 66 (eqP (.bool true)), pF 67 (eqP (.bool true)), pF 68 (eqP (.bool true)), pF 69 (eqP (.bool true)), pF 70 (eqP (.bool true))] (fun _ _ _ _ => True) (fun _ _ _ _ _ => trivial) _ rfl rfl (by kernel_rfl) (fun j => [undef, undef, undef, undef, undef, undef, undef, undef, undef, undef, undef, undef, undef, undef, undef, undef, undef, undef, undef, undef, undef, undef, undef, undef, undef, undef, undef, undef, undef, undef, undef, undef, undef, undef, undef, undef, undef, undef, undef, undef, undef, undef, undef, undef, undef, undef, undef, undef, undef, undef, undef, undef, undef, undef, undef, undef, undef, undef, undef, undef, undef, undef, undef, undef, undef, undef, undef, undef, undef, undef, Value.bool false].getD j undef) rfl (Below.refl _ w2).drew ⟨?_, ?_, ?_, ?_, ?_, ?_, ?_, ?_, ?_, ?_, ?_, ?_, ?_, ?_, ?_, ?_, ?_, ?_, ?_, ?_, ?_, ?_, ?_, ?_, ?_, ?_, ?_, ?_, ?_, ?_, ?_, ?_, ?_, ?_, ?_, ?_, ?_, ?_, ?_, ?_, ?_, ?_, ?_, ?_, ?_, ?_, ?_, ?_, ?_, ?_, ?_, ?_, ?_, ?_, ?_, ?_, ?_, ?_, ?_, ?_, ?_, ?_, ?_, ?_, ?_, ?_, ?_, ?_, ?_, ?_, ?_, trivial⟩ ?_
        · exact FactsG.of rfl (fun _ _ _ => trivial) (fun _ _ _ _ => rfl) (Facts.loadP hS hF (fun _ _ => rfl) 27 Tryz.underlying27 rfl zx _ rfl rfl (fun xv wv hSw hd => by rfl) (fun wv hSw => Rw.whole (cs := [Value.int .i64 x.k, .int .i64 x.b, .slice pa x.am.length ca', .slice pw x.wr.length cw, .slice pm x.mb.length cm, .slice pe x.el.length ce]) (R0.later hSw)))
        · refine FactsG.of rfl (fun _ _ _ => trivial) (fun _ _ _ _ => rfl) (Facts.call1P hS hF (fun _ _ => rfl) rfl (by kernel_rfl) rfl (fun xv wv hSw hd => ?_))
          have d0 : xv 0 = _ := pF_get (hd ⟨0, .data⟩ (by simp) rfl _ rfl)
          show Calls Tryz.prog 7 #[xv 0] wv _
          rw [d0]; exact (C1 wv hSw).mono fun e w' h => tells_p h
        · exact FactsG.of rfl (fun _ _ _ => trivial) (fun _ _ _ _ => rfl) (Facts.loadP hS hF (fun _ _ => rfl) 27 Tryz.underlying27 rfl zx _ rfl rfl (fun xv wv hSw hd => by rfl) (fun wv hSw => Rw.whole (cs := [Value.int .i64 x.k, .int .i64 x.b, .slice pa x.am.length ca', .slice pw x.wr.length cw, .slice pm x.mb.length cm, .slice pe x.el.length ce]) (R0.later hSw)))
        · refine FactsG.of rfl (fun _ _ _ => trivial) (fun _ _ _ _ => rfl) (Facts.call1P hS hF (fun _ _ => rfl) rfl (by kernel_rfl) rfl (fun xv wv hSw hd => ?_))
          have d2 : xv 2 = _ := pF_get (hd ⟨2, .data⟩ (by simp) rfl _ rfl)
          show Calls Tryz.prog 8 #[xv 2] wv _
          rw [d2]; exact (C2 wv hSw).mono fun e w' h => tells_p h
        · exact FactsG.of rfl (fun _ _ _ => trivial) (fun _ _ _ _ => rfl) (Facts.pureP hS hF (fun _ _ => rfl) rfl (fun xv wv hSw hd => by
            have d1 : xv 1 = _ := pF_get (hd ⟨1, .data⟩ (by simp) rfl _ rfl); have d3 : xv 3 = _ := pF_get (hd ⟨3, .data⟩ (by simp) rfl _ rfl); simp only [d1, d3]
            go_simp))
        · exact FactsG.of rfl (fun _ _ _ => trivial) (fun _ _ _ _ => rfl) (Facts.pureP hS hF (fun _ _ => rfl) rfl (fun xv wv hSw hd => by
            have d4 : xv 4 = _ := pF_get (hd ⟨4, .data⟩ (by simp) rfl _ rfl); simp only [d4]
            go_simp))
        · exact FactsG.of rfl (fun _ _ _ => trivial) (fun xv wv hSw hd => by have dg : xv 5 = _ := pF_get (hd ⟨5, .guard⟩ (by simp) rfl _ rfl); simp only [dg]; rfl) (Facts.loadP hS hF (fun _ _ => rfl) 27 Tryz.underlying27 rfl zx _ rfl rfl (fun xv wv hSw hd => by rfl) (fun wv hSw => Rw.whole (cs := [Value.int .i64 x.k, .int .i64 x.b, .slice pa x.am.length ca', .slice pw x.wr.length cw, .slice pm x.mb.length cm, .slice pe x.el.length ce]) (R0.later hSw)))
        · exact FactsG.of rfl (fun _ _ _ => trivial) (fun xv wv hSw hd => by have dg : xv 5 = _ := pF_get (hd ⟨5, .guard⟩ (by simp) rfl _ rfl); simp only [dg]; rfl) (Facts.loadP hS hF (fun _ _ => rfl) 34 Tryz.underlying34 rfl ztx _ rfl rfl (fun xv wv hSw hd => by rfl) (fun wv hSw => Rw.whole (cs := (txc q u v t sl)) (R1.later hSw)))
        · exact FactsG.of rfl (fun _ _ _ => trivial) (fun xv wv hSw hd => by have dg : xv 5 = _ := pF_get (hd ⟨5, .guard⟩ (by simp) rfl _ rfl); simp only [dg]; rfl) (Facts.pureP hS hF (fun _ _ => rfl) rfl (fun xv wv hSw hd => by
            go_simp))
        · exact FactsG.of rfl (fun _ _ _ => trivial) (fun xv wv hSw hd => by have dg : xv 5 = _ := pF_get (hd ⟨5, .guard⟩ (by simp) rfl _ rfl); simp only [dg]; rfl) (Facts.loadP hS hF (fun _ _ => rfl) 36 Tryz.underlying36 rfl zm _ rfl rfl (fun xv wv hSw hd => by rfl) (fun wv hSw => Rw.whole (cs := [Value.int .i64 m.p, .int .i64 m.s, .int .i64 m.i]) (R2.later hSw)))
        · exact FactsG.of rfl (fun _ _ _ => trivial) (fun xv wv hSw hd => by have dg : xv 5 = _ := pF_get (hd ⟨5, .guard⟩ (by simp) rfl _ rfl); simp only [dg]; rfl) (Facts.pureP hS hF (fun _ _ => rfl) rfl (fun xv wv hSw hd => by
            go_simp))
        · refine FactsG.of rfl (fun _ _ _ => trivial) (fun xv wv hSw hd => by have dg : xv 5 = _ := pF_get (hd ⟨5, .guard⟩ (by simp) rfl _ rfl); simp only [dg]; rfl) (Facts.call5P hS hF (fun _ _ => rfl) rfl (by kernel_rfl) rfl (fun xv wv hSw hd => ?_))
          have d6 : xv 6 = _ := pF_get (hd ⟨6, .data⟩ (by simp) rfl _ rfl); have d7 : xv 7 = _ := pF_get (hd ⟨7, .data⟩ (by simp) rfl _ rfl); have d8 : xv 8 = _ := pF_get (hd ⟨8, .data⟩ (by simp) rfl _ rfl); have d9 : xv 9 = _ := pF_get (hd ⟨9, .data⟩ (by simp) rfl _ rfl); have d10 : xv 10 = _ := pF_get (hd ⟨10, .data⟩ (by simp) rfl _ rfl)
          show Calls Tryz.prog 10 #[xv 6, xv 7, xv 8, xv 9, xv 10] wv _
          rw [d6, d7, d8, d9, d10]; exact (C3 wv hSw).mono fun e w' h => gives_p h
        · exact FactsG.of rfl (fun _ _ _ => trivial) (fun xv wv hSw hd => by have dg : xv 5 = _ := pF_get (hd ⟨5, .guard⟩ (by simp) rfl _ rfl); simp only [dg]; rfl) (Facts.loadP hS hF (fun _ _ => rfl) 27 Tryz.underlying27 rfl zx _ rfl rfl (fun xv wv hSw hd => by rfl) (fun wv hSw => Rw.whole (cs := [Value.int .i64 x.k, .int .i64 x.b, .slice pa x.am.length ca', .slice pw x.wr.length cw, .slice pm x.mb.length cm, .slice pe x.el.length ce]) (R0.later hSw)))
        · exact FactsG.of rfl (fun _ _ _ => trivial) (fun xv wv hSw hd => by have dg : xv 5 = _ := pF_get (hd ⟨5, .guard⟩ (by simp) rfl _ rfl); simp only [dg]; rfl) (Facts.loadP hS hF (fun _ _ => rfl) 34 Tryz.underlying34 rfl ztx _ rfl rfl (fun xv wv hSw hd => by rfl) (fun wv hSw => Rw.whole (cs := (txc q u v t sl)) (R1.later hSw)))
        · exact FactsG.of rfl (fun _ _ _ => trivial) (fun xv wv hSw hd => by have dg : xv 5 = _ := pF_get (hd ⟨5, .guard⟩ (by simp) rfl _ rfl); simp only [dg]; rfl) (Facts.pureP hS hF (fun _ _ => rfl) rfl (fun xv wv hSw hd => by
            go_simp))
        · exact FactsG.of rfl (fun _ _ _ => trivial) (fun xv wv hSw hd => by have dg : xv 5 = _ := pF_get (hd ⟨5, .guard⟩ (by simp) rfl _ rfl); simp only [dg]; rfl) (Facts.loadP hS hF (fun _ _ => rfl) 36 Tryz.underlying36 rfl zm _ rfl rfl (fun xv wv hSw hd => by rfl) (fun wv hSw => Rw.whole (cs := [Value.int .i64 m.p, .int .i64 m.s, .int .i64 m.i]) (R2.later hSw)))
        · exact FactsG.of rfl (fun _ _ _ => trivial) (fun xv wv hSw hd => by have dg : xv 5 = _ := pF_get (hd ⟨5, .guard⟩ (by simp) rfl _ rfl); simp only [dg]; rfl) (Facts.pureP hS hF (fun _ _ => rfl) rfl (fun xv wv hSw hd => by
            go_simp))
        · refine FactsG.of rfl (fun _ _ _ => trivial) (fun xv wv hSw hd => by have dg : xv 5 = _ := pF_get (hd ⟨5, .guard⟩ (by simp) rfl _ rfl); simp only [dg]; rfl) (Facts.call5P hS hF (fun _ _ => rfl) rfl (by kernel_rfl) rfl (fun xv wv hSw hd => ?_))
          have d12 : xv 12 = _ := pF_get (hd ⟨12, .data⟩ (by simp) rfl _ rfl); have d13 : xv 13 = _ := pF_get (hd ⟨13, .data⟩ (by simp) rfl _ rfl); have d14 : xv 14 = _ := pF_get (hd ⟨14, .data⟩ (by simp) rfl _ rfl); have d15 : xv 15 = _ := pF_get (hd ⟨15, .data⟩ (by simp) rfl _ rfl); have d16 : xv 16 = _ := pF_get (hd ⟨16, .data⟩ (by simp) rfl _ rfl)
          show Calls Tryz.prog 11 #[xv 12, xv 13, xv 14, xv 15, xv 16] wv _
          rw [d12, d13, d14, d15, d16]; exact (C4 wv hSw).mono fun e w' h => gives_p h
        · refine FactsG.of rfl (fun _ _ _ => trivial) (fun xv wv hSw hd => by have dg : xv 5 = _ := pF_get (hd ⟨5, .guard⟩ (by simp) rfl _ rfl); simp only [dg]; rfl) (Facts.call2P hS hF (fun _ _ => rfl) rfl (by kernel_rfl) rfl (fun xv wv hSw hd => ?_))
          have d11 := pF_get (hd ⟨11, .data⟩ (by simp) rfl _ rfl); have d17 := pF_get (hd ⟨17, .data⟩ (by simp) rfl _ rfl)
          show Calls Tryz.prog 9 #[xv 11, xv 17] wv _
          obtain ⟨va, vw, vm, ve, e2, f2⟩ := d11; obtain ⟨ua, uw, um, ue, e3, f3⟩ := d17; rw [e2, e3]; exact (same_any xi _ _ _ _ _ _ _ _ wv f2 f3 si).mono fun e w' h => tells_p h
        · exact FactsG.of rfl (fun _ _ _ => trivial) (fun _ _ _ _ => rfl) (Facts.pureP hS hF (fun _ _ => rfl) rfl (fun xv wv hSw hd => by
            have d5 : xv 5 = _ := pF_get (hd ⟨5, .data⟩ (by simp) rfl _ rfl); have d18 : xv 18 = _ := pF_get (hd ⟨18, .data⟩ (by simp) rfl _ rfl); simp only [d5, d18]
            go_simp))
        · exact FactsG.of rfl (fun _ _ _ => trivial) (fun _ _ _ _ => rfl) (Facts.pureP hS hF (fun _ _ => rfl) rfl (fun xv wv hSw hd => by
            have d19 : xv 19 = _ := pF_get (hd ⟨19, .data⟩ (by simp) rfl _ rfl); simp only [d19]
            go_simp))
        · exact FactsG.of rfl (fun _ _ _ => trivial) (fun xv wv hSw hd => by have dg : xv 20 = _ := pF_get (hd ⟨20, .guard⟩ (by simp) rfl _ rfl); simp only [dg]; rfl) (Facts.loadP hS hF (fun _ _ => rfl) 27 Tryz.underlying27 rfl zx _ rfl rfl (fun xv wv hSw hd => by rfl) (fun wv hSw => Rw.whole (cs := [Value.int .i64 x.k, .int .i64 x.b, .slice pa x.am.length ca', .slice pw x.wr.length cw, .slice pm x.mb.length cm, .slice pe x.el.length ce]) (R0.later hSw)))
        · exact FactsG.of rfl (fun _ _ _ => trivial) (fun xv wv hSw hd => by have dg : xv 20 = _ := pF_get (hd ⟨20, .guard⟩ (by simp) rfl _ rfl); simp only [dg]; rfl) (Facts.loadP hS hF (fun _ _ => rfl) 34 Tryz.underlying34 rfl ztx _ rfl rfl (fun xv wv hSw hd => by rfl) (fun wv hSw => Rw.whole (cs := (txc q u v t sl)) (R1.later hSw)))
        · exact FactsG.of rfl (fun _ _ _ => trivial) (fun xv wv hSw hd => by have dg : xv 20 = _ := pF_get (hd ⟨20, .guard⟩ (by simp) rfl _ rfl); simp only [dg]; rfl) (Facts.pureP hS hF (fun _ _ => rfl) rfl (fun xv wv hSw hd => by
            go_simp))
        · exact FactsG.of rfl (fun _ _ _ => trivial) (fun xv wv hSw hd => by have dg : xv 20 = _ := pF_get (hd ⟨20, .guard⟩ (by simp) rfl _ rfl); simp only [dg]; rfl) (Facts.loadP hS hF (fun _ _ => rfl) 36 Tryz.underlying36 rfl zm _ rfl rfl (fun xv wv hSw hd => by rfl) (fun wv hSw => Rw.whole (cs := [Value.int .i64 m.p, .int .i64 m.s, .int .i64 m.i]) (R2.later hSw)))
        · refine FactsG.of rfl (fun _ _ _ => trivial) (fun xv wv hSw hd => by have dg : xv 20 = _ := pF_get (hd ⟨20, .guard⟩ (by simp) rfl _ rfl); simp only [dg]; rfl) (Facts.call4P hS hF (fun _ _ => rfl) rfl (by kernel_rfl) rfl (fun xv wv hSw hd => ?_))
          have d21 : xv 21 = _ := pF_get (hd ⟨21, .data⟩ (by simp) rfl _ rfl); have d22 : xv 22 = _ := pF_get (hd ⟨22, .data⟩ (by simp) rfl _ rfl); have d23 : xv 23 = _ := pF_get (hd ⟨23, .data⟩ (by simp) rfl _ rfl); have d24 : xv 24 = _ := pF_get (hd ⟨24, .data⟩ (by simp) rfl _ rfl)
          show Calls Tryz.prog 12 #[xv 21, xv 22, xv 23, xv 24] wv _
          rw [d21, d22, d23, d24]; exact (C5 wv hSw).mono fun e w' h => gives_p h
        · exact FactsG.of rfl (fun _ _ _ => trivial) (fun xv wv hSw hd => by have dg : xv 20 = _ := pF_get (hd ⟨20, .guard⟩ (by simp) rfl _ rfl); simp only [dg]; rfl) (Facts.loadP hS hF (fun _ _ => rfl) 27 Tryz.underlying27 rfl zx _ rfl rfl (fun xv wv hSw hd => by rfl) (fun wv hSw => Rw.whole (cs := [Value.int .i64 x.k, .int .i64 x.b, .slice pa x.am.length ca', .slice pw x.wr.length cw, .slice pm x.mb.length cm, .slice pe x.el.length ce]) (R0.later hSw)))
        · exact FactsG.of rfl (fun _ _ _ => trivial) (fun xv wv hSw hd => by have dg : xv 20 = _ := pF_get (hd ⟨20, .guard⟩ (by simp) rfl _ rfl); simp only [dg]; rfl) (Facts.loadP hS hF (fun _ _ => rfl) 34 Tryz.underlying34 rfl ztx _ rfl rfl (fun xv wv hSw hd => by rfl) (fun wv hSw => Rw.whole (cs := (txc q u v t sl)) (R1.later hSw)))
        · exact FactsG.of rfl (fun _ _ _ => trivial) (fun xv wv hSw hd => by have dg : xv 20 = _ := pF_get (hd ⟨20, .guard⟩ (by simp) rfl _ rfl); simp only [dg]; rfl) (Facts.pureP hS hF (fun _ _ => rfl) rfl (fun xv wv hSw hd => by
            go_simp))
        · exact FactsG.of rfl (fun _ _ _ => trivial) (fun xv wv hSw hd => by have dg : xv 20 = _ := pF_get (hd ⟨20, .guard⟩ (by simp) rfl _ rfl); simp only [dg]; rfl) (Facts.loadP hS hF (fun _ _ => rfl) 36 Tryz.underlying36 rfl zm _ rfl rfl (fun xv wv hSw hd => by rfl) (fun wv hSw => Rw.whole (cs := [Value.int .i64 m.p, .int .i64 m.s, .int .i64 m.i]) (R2.later hSw)))
        · refine FactsG.of rfl (fun _ _ _ => trivial) (fun xv wv hSw hd => by have dg : xv 20 = _ := pF_get (hd ⟨20, .guard⟩ (by simp) rfl _ rfl); simp only [dg]; rfl) (Facts.call4P hS hF (fun _ _ => rfl) rfl (by kernel_rfl) rfl (fun xv wv hSw hd => ?_))
          have d26 : xv 26 = _ := pF_get (hd ⟨26, .data⟩ (by simp) rfl _ rfl); have d27 : xv 27 = _ := pF_get (hd ⟨27, .data⟩ (by simp) rfl _ rfl); have d28 : xv 28 = _ := pF_get (hd ⟨28, .data⟩ (by simp) rfl _ rfl); have d29 : xv 29 = _ := pF_get (hd ⟨29, .data⟩ (by simp) rfl _ rfl)
          show Calls Tryz.prog 13 #[xv 26, xv 27, xv 28, xv 29] wv _
          rw [d26, d27, d28, d29]; exact (C6 wv hSw).mono fun e w' h => gives_p h
        · refine FactsG.of rfl (fun _ _ _ => trivial) (fun xv wv hSw hd => by have dg : xv 20 = _ := pF_get (hd ⟨20, .guard⟩ (by simp) rfl _ rfl); simp only [dg]; rfl) (Facts.call2P hS hF (fun _ _ => rfl) rfl (by kernel_rfl) rfl (fun xv wv hSw hd => ?_))
          have d25 := pF_get (hd ⟨25, .data⟩ (by simp) rfl _ rfl); have d30 := pF_get (hd ⟨30, .data⟩ (by simp) rfl _ rfl)
          show Calls Tryz.prog 9 #[xv 25, xv 30] wv _
          obtain ⟨va, vw, vm, ve, e2, f2⟩ := d25; obtain ⟨ua, uw, um, ue, e3, f3⟩ := d30; rw [e2, e3]; exact (same_any xd _ _ _ _ _ _ _ _ wv f2 f3 sd).mono fun e w' h => tells_p h
        · exact FactsG.of rfl (fun _ _ _ => trivial) (fun _ _ _ _ => rfl) (Facts.pureP hS hF (fun _ _ => rfl) rfl (fun xv wv hSw hd => by
            have d20 : xv 20 = _ := pF_get (hd ⟨20, .data⟩ (by simp) rfl _ rfl); have d31 : xv 31 = _ := pF_get (hd ⟨31, .data⟩ (by simp) rfl _ rfl); simp only [d20, d31]
            go_simp))
        · exact FactsG.of rfl (fun _ _ _ => trivial) (fun _ _ _ _ => rfl) (Facts.pureP hS hF (fun _ _ => rfl) rfl (fun xv wv hSw hd => by
            have d32 : xv 32 = _ := pF_get (hd ⟨32, .data⟩ (by simp) rfl _ rfl); simp only [d32]
            go_simp))
        · exact FactsG.of rfl (fun _ _ _ => trivial) (fun xv wv hSw hd => by have dg : xv 33 = _ := pF_get (hd ⟨33, .guard⟩ (by simp) rfl _ rfl); simp only [dg]; rfl) (Facts.loadP hS hF (fun _ _ => rfl) 27 Tryz.underlying27 rfl zx _ rfl rfl (fun xv wv hSw hd => by rfl) (fun wv hSw => Rw.whole (cs := [Value.int .i64 x.k, .int .i64 x.b, .slice pa x.am.length ca', .slice pw x.wr.length cw, .slice pm x.mb.length cm, .slice pe x.el.length ce]) (R0.later hSw)))
        · exact FactsG.of rfl (fun _ _ _ => trivial) (fun xv wv hSw hd => by have dg : xv 33 = _ := pF_get (hd ⟨33, .guard⟩ (by simp) rfl _ rfl); simp only [dg]; rfl) (Facts.loadP hS hF (fun _ _ => rfl) 34 Tryz.underlying34 rfl ztx _ rfl rfl (fun xv wv hSw hd => by rfl) (fun wv hSw => Rw.whole (cs := (txc q u v t sl)) (R1.later hSw)))
        · exact FactsG.of rfl (fun _ _ _ => trivial) (fun xv wv hSw hd => by have dg : xv 33 = _ := pF_get (hd ⟨33, .guard⟩ (by simp) rfl _ rfl); simp only [dg]; rfl) (Facts.pureP hS hF (fun _ _ => rfl) rfl (fun xv wv hSw hd => by
            go_simp))
        · refine FactsG.of rfl (fun _ _ _ => trivial) (fun xv wv hSw hd => by have dg : xv 33 = _ := pF_get (hd ⟨33, .guard⟩ (by simp) rfl _ rfl); simp only [dg]; rfl) (Facts.call3P hS hF (fun _ _ => rfl) rfl (by kernel_rfl) rfl (fun xv wv hSw hd => ?_))
          have d34 : xv 34 = _ := pF_get (hd ⟨34, .data⟩ (by simp) rfl _ rfl); have d35 : xv 35 = _ := pF_get (hd ⟨35, .data⟩ (by simp) rfl _ rfl); have d36 : xv 36 = _ := pF_get (hd ⟨36, .data⟩ (by simp) rfl _ rfl)
          show Calls Tryz.prog 14 #[xv 34, xv 35, xv 36] wv _
          rw [d34, d35, d36]; exact (C7 wv hSw).mono fun e w' h => gives_p h
        · exact FactsG.of rfl (fun _ _ _ => trivial) (fun xv wv hSw hd => by have dg : xv 33 = _ := pF_get (hd ⟨33, .guard⟩ (by simp) rfl _ rfl); simp only [dg]; rfl) (Facts.loadP hS hF (fun _ _ => rfl) 27 Tryz.underlying27 rfl zx _ rfl rfl (fun xv wv hSw hd => by rfl) (fun wv hSw => Rw.whole (cs := [Value.int .i64 x.k, .int .i64 x.b, .slice pa x.am.length ca', .slice pw x.wr.length cw, .slice pm x.mb.length cm, .slice pe x.el.length ce]) (R0.later hSw)))
        · exact FactsG.of rfl (fun _ _ _ => trivial) (fun xv wv hSw hd => by have dg : xv 33 = _ := pF_get (hd ⟨33, .guard⟩ (by simp) rfl _ rfl); simp only [dg]; rfl) (Facts.loadP hS hF (fun _ _ => rfl) 34 Tryz.underlying34 rfl ztx _ rfl rfl (fun xv wv hSw hd => by rfl) (fun wv hSw => Rw.whole (cs := (txc q u v t sl)) (R1.later hSw)))
        · exact FactsG.of rfl (fun _ _ _ => trivial) (fun xv wv hSw hd => by have dg : xv 33 = _ := pF_get (hd ⟨33, .guard⟩ (by simp) rfl _ rfl); simp only [dg]; rfl) (Facts.pureP hS hF (fun _ _ => rfl) rfl (fun xv wv hSw hd => by
            go_simp))
        · refine FactsG.of rfl (fun _ _ _ => trivial) (fun xv wv hSw hd => by have dg : xv 33 = _ := pF_get (hd ⟨33, .guard⟩ (by simp) rfl _ rfl); simp only [dg]; rfl) (Facts.call3P hS hF (fun _ _ => rfl) rfl (by kernel_rfl) rfl (fun xv wv hSw hd => ?_))
          have d38 : xv 38 = _ := pF_get (hd ⟨38, .data⟩ (by simp) rfl _ rfl); have d39 : xv 39 = _ := pF_get (hd ⟨39, .data⟩ (by simp) rfl _ rfl); have d40 : xv 40 = _ := pF_get (hd ⟨40, .data⟩ (by simp) rfl _ rfl)
          show Calls Tryz.prog 15 #[xv 38, xv 39, xv 40] wv _
          rw [d38, d39, d40]; exact (C8 wv hSw).mono fun e w' h => gives_p h
        · refine FactsG.of rfl (fun _ _ _ => trivial) (fun xv wv hSw hd => by have dg : xv 33 = _ := pF_get (hd ⟨33, .guard⟩ (by simp) rfl _ rfl); simp only [dg]; rfl) (Facts.call2P hS hF (fun _ _ => rfl) rfl (by kernel_rfl) rfl (fun xv wv hSw hd => ?_))
          have d37 := pF_get (hd ⟨37, .data⟩ (by simp) rfl _ rfl); have d41 := pF_get (hd ⟨41, .data⟩ (by simp) rfl _ rfl)
          show Calls Tryz.prog 9 #[xv 37, xv 41] wv _
          obtain ⟨va, vw, vm, ve, e2, f2⟩ := d37; obtain ⟨ua, uw, um, ue, e3, f3⟩ := d41; rw [e2, e3]; exact (same_any xc _ _ _ _ _ _ _ _ wv f2 f3 sc).mono fun e w' h => tells_p h
        · exact FactsG.of rfl (fun _ _ _ => trivial) (fun _ _ _ _ => rfl) (Facts.pureP hS hF (fun _ _ => rfl) rfl (fun xv wv hSw hd => by
            have d33 : xv 33 = _ := pF_get (hd ⟨33, .data⟩ (by simp) rfl _ rfl); have d42 : xv 42 = _ := pF_get (hd ⟨42, .data⟩ (by simp) rfl _ rfl); simp only [d33, d42]
            go_simp))
        · exact FactsG.of rfl (fun _ _ _ => trivial) (fun _ _ _ _ => rfl) (Facts.pureP hS hF (fun _ _ => rfl) rfl (fun xv wv hSw hd => by
            have d43 : xv 43 = _ := pF_get (hd ⟨43, .data⟩ (by simp) rfl _ rfl); simp only [d43]
            go_simp))
        · exact FactsG.of rfl (fun _ _ _ => trivial) (fun xv wv hSw hd => by have dg : xv 44 = _ := pF_get (hd ⟨44, .guard⟩ (by simp) rfl _ rfl); simp only [dg]; rfl) (Facts.loadP hS hF (fun _ _ => rfl) 27 Tryz.underlying27 rfl zx _ rfl rfl (fun xv wv hSw hd => by rfl) (fun wv hSw => Rw.whole (cs := [Value.int .i64 x.k, .int .i64 x.b, .slice pa x.am.length ca', .slice pw x.wr.length cw, .slice pm x.mb.length cm, .slice pe x.el.length ce]) (R0.later hSw)))
        · exact FactsG.of rfl (fun _ _ _ => trivial) (fun xv wv hSw hd => by have dg : xv 44 = _ := pF_get (hd ⟨44, .guard⟩ (by simp) rfl _ rfl); simp only [dg]; rfl) (Facts.loadP hS hF (fun _ _ => rfl) 31 Tryz.underlying31 rfl zc _ rfl rfl (fun xv wv hSw hd => by rfl) (fun wv hSw => Rw.whole (cs := (vals c)) (R3.later hSw)))
        · refine FactsG.of rfl (fun _ _ _ => trivial) (fun xv wv hSw hd => by have dg : xv 44 = _ := pF_get (hd ⟨44, .guard⟩ (by simp) rfl _ rfl); simp only [dg]; rfl) (Facts.call2P hS hF (fun _ _ => rfl) rfl (by kernel_rfl) rfl (fun xv wv hSw hd => ?_))
          have d45 : xv 45 = _ := pF_get (hd ⟨45, .data⟩ (by simp) rfl _ rfl); have d46 : xv 46 = _ := pF_get (hd ⟨46, .data⟩ (by simp) rfl _ rfl)
          show Calls Tryz.prog 16 #[xv 45, xv 46] wv _
          rw [d45, d46]; exact (C9 wv hSw).mono fun e w' h => gives_p h
        · exact FactsG.of rfl (fun _ _ _ => trivial) (fun xv wv hSw hd => by have dg : xv 44 = _ := pF_get (hd ⟨44, .guard⟩ (by simp) rfl _ rfl); simp only [dg]; rfl) (Facts.loadP hS hF (fun _ _ => rfl) 27 Tryz.underlying27 rfl zx _ rfl rfl (fun xv wv hSw hd => by rfl) (fun wv hSw => Rw.whole (cs := [Value.int .i64 x.k, .int .i64 x.b, .slice pa x.am.length ca', .slice pw x.wr.length cw, .slice pm x.mb.length cm, .slice pe x.el.length ce]) (R0.later hSw)))
        · exact FactsG.of rfl (fun _ _ _ => trivial) (fun xv wv hSw hd => by have dg : xv 44 = _ := pF_get (hd ⟨44, .guard⟩ (by simp) rfl _ rfl); simp only [dg]; rfl) (Facts.loadP hS hF (fun _ _ => rfl) 31 Tryz.underlying31 rfl zc _ rfl rfl (fun xv wv hSw hd => by rfl) (fun wv hSw => Rw.whole (cs := (vals c)) (R3.later hSw)))
        · refine FactsG.of rfl (fun _ _ _ => trivial) (fun xv wv hSw hd => by have dg : xv 44 = _ := pF_get (hd ⟨44, .guard⟩ (by simp) rfl _ rfl); simp only [dg]; rfl) (Facts.call2P hS hF (fun _ _ => rfl) rfl (by kernel_rfl) rfl (fun xv wv hSw hd => ?_))
          have d48 : xv 48 = _ := pF_get (hd ⟨48, .data⟩ (by simp) rfl _ rfl); have d49 : xv 49 = _ := pF_get (hd ⟨49, .data⟩ (by simp) rfl _ rfl)
          show Calls Tryz.prog 17 #[xv 48, xv 49] wv _
          rw [d48, d49]; exact (C10 wv hSw).mono fun e w' h => gives_p h
        · refine FactsG.of rfl (fun _ _ _ => trivial) (fun xv wv hSw hd => by have dg : xv 44 = _ := pF_get (hd ⟨44, .guard⟩ (by simp) rfl _ rfl); simp only [dg]; rfl) (Facts.call2P hS hF (fun _ _ => rfl) rfl (by kernel_rfl) rfl (fun xv wv hSw hd => ?_))
          have d47 := pF_get (hd ⟨47, .data⟩ (by simp) rfl _ rfl); have d50 := pF_get (hd ⟨50, .data⟩ (by simp) rfl _ rfl)
          show Calls Tryz.prog 9 #[xv 47, xv 50] wv _
          obtain ⟨va, vw, vm, ve, e2, f2⟩ := d47; obtain ⟨ua, uw, um, ue, e3, f3⟩ := d50; rw [e2, e3]; exact (same_any xf _ _ _ _ _ _ _ _ wv f2 f3 sf).mono fun e w' h => tells_p h
        · exact FactsG.of rfl (fun _ _ _ => trivial) (fun _ _ _ _ => rfl) (Facts.pureP hS hF (fun _ _ => rfl) rfl (fun xv wv hSw hd => by
            have d44 : xv 44 = _ := pF_get (hd ⟨44, .data⟩ (by simp) rfl _ rfl); have d51 : xv 51 = _ := pF_get (hd ⟨51, .data⟩ (by simp) rfl _ rfl); simp only [d44, d51]
            go_simp))
        · exact FactsG.of rfl (fun _ _ _ => trivial) (fun _ _ _ _ => rfl) (Facts.pureP hS hF (fun _ _ => rfl) rfl (fun xv wv hSw hd => by
            have d52 : xv 52 = _ := pF_get (hd ⟨52, .data⟩ (by simp) rfl _ rfl); simp only [d52]
            go_simp))
        · exact FactsG.of rfl (fun _ _ _ => trivial) (fun xv wv hSw hd => by have dg : xv 53 = _ := pF_get (hd ⟨53, .guard⟩ (by simp) rfl _ rfl); simp only [dg]; rfl) (Facts.loadP hS hF (fun _ _ => rfl) 27 Tryz.underlying27 rfl zx _ rfl rfl (fun xv wv hSw hd => by rfl) (fun wv hSw => Rw.whole (cs := [Value.int .i64 x.k, .int .i64 x.b, .slice pa x.am.length ca', .slice pw x.wr.length cw, .slice pm x.mb.length cm, .slice pe x.el.length ce]) (R0.later hSw)))
        · refine FactsG.of rfl (fun _ _ _ => trivial) (fun xv wv hSw hd => by have dg : xv 53 = _ := pF_get (hd ⟨53, .guard⟩ (by simp) rfl _ rfl); simp only [dg]; rfl) (Facts.call1P hS hF (fun _ _ => rfl) rfl (by kernel_rfl) rfl (fun xv wv hSw hd => ?_))
          have d54 : xv 54 = _ := pF_get (hd ⟨54, .data⟩ (by simp) rfl _ rfl)
          show Calls Tryz.prog 19 #[xv 54] wv _
          rw [d54]; refine (C11 wv hSw).mono ?_; rintro e w' ⟨u', he, ht, hb⟩; exact ⟨_, he, own_sh ht, hb⟩
        · exact FactsG.of rfl (fun _ _ _ => trivial) (fun xv wv hSw hd => by have dg : xv 53 = _ := pF_get (hd ⟨53, .guard⟩ (by simp) rfl _ rfl); simp only [dg]; rfl) (Facts.loadP hS hF (fun _ _ => rfl) 27 Tryz.underlying27 rfl zx _ rfl rfl (fun xv wv hSw hd => by rfl) (fun wv hSw => Rw.whole (cs := [Value.int .i64 x.k, .int .i64 x.b, .slice pa x.am.length ca', .slice pw x.wr.length cw, .slice pm x.mb.length cm, .slice pe x.el.length ce]) (R0.later hSw)))
        · refine FactsG.of rfl (fun _ _ _ => trivial) (fun xv wv hSw hd => by have dg : xv 53 = _ := pF_get (hd ⟨53, .guard⟩ (by simp) rfl _ rfl); simp only [dg]; rfl) (Facts.call1P hS hF (fun _ _ => rfl) rfl (by kernel_rfl) rfl (fun xv wv hSw hd => ?_))
          have d56 : xv 56 = _ := pF_get (hd ⟨56, .data⟩ (by simp) rfl _ rfl)
          show Calls Tryz.prog 20 #[xv 56] wv _
          rw [d56]; refine (C12 wv hSw).mono ?_; rintro e w' ⟨u', he, ht, hb⟩; exact ⟨_, he, own_sh ht, hb⟩
        · refine FactsG.of rfl (fun _ _ _ => trivial) (fun xv wv hSw hd => by have dg : xv 53 = _ := pF_get (hd ⟨53, .guard⟩ (by simp) rfl _ rfl); simp only [dg]; rfl) (Facts.call2P hS hF (fun _ _ => rfl) rfl (by kernel_rfl) rfl (fun xv wv hSw hd => ?_))
          have d55 := pF_get (hd ⟨55, .data⟩ (by simp) rfl _ rfl); have d57 := pF_get (hd ⟨57, .data⟩ (by simp) rfl _ rfl)
          show Calls Tryz.prog 18 #[xv 55, xv 57] wv _
          exact (marks_any _ _ lo wv d55 d57).mono fun e w' h => tells_p h
        · exact FactsG.of rfl (fun _ _ _ => trivial) (fun _ _ _ _ => rfl) (Facts.pureP hS hF (fun _ _ => rfl) rfl (fun xv wv hSw hd => by
            have d53 : xv 53 = _ := pF_get (hd ⟨53, .data⟩ (by simp) rfl _ rfl); have d58 : xv 58 = _ := pF_get (hd ⟨58, .data⟩ (by simp) rfl _ rfl); simp only [d53, d58]
            go_simp))
        · exact FactsG.of rfl (fun _ _ _ => trivial) (fun _ _ _ _ => rfl) (Facts.pureP hS hF (fun _ _ => rfl) rfl (fun xv wv hSw hd => by
            have d59 : xv 59 = _ := pF_get (hd ⟨59, .data⟩ (by simp) rfl _ rfl); simp only [d59]
            go_simp))
        · exact FactsG.of rfl (fun _ _ _ => trivial) (fun xv wv hSw hd => by have dg : xv 60 = _ := pF_get (hd ⟨60, .guard⟩ (by simp) rfl _ rfl); simp only [dg]; rfl) (Facts.loadP hS hF (fun _ _ => rfl) 27 Tryz.underlying27 rfl zx _ rfl rfl (fun xv wv hSw hd => by rfl) (fun wv hSw => Rw.whole (cs := [Value.int .i64 x.k, .int .i64 x.b, .slice pa x.am.length ca', .slice pw x.wr.length cw, .slice pm x.mb.length cm, .slice pe x.el.length ce]) (R0.later hSw)))
        · refine FactsG.of rfl (fun _ _ _ => trivial) (fun xv wv hSw hd => by have dg : xv 60 = _ := pF_get (hd ⟨60, .guard⟩ (by simp) rfl _ rfl); simp only [dg]; rfl) (Facts.call1P hS hF (fun _ _ => rfl) rfl (by kernel_rfl) rfl (fun xv wv hSw hd => ?_))
          have d61 : xv 61 = _ := pF_get (hd ⟨61, .data⟩ (by simp) rfl _ rfl)
          show Calls Tryz.prog 22 #[xv 61] wv _
          rw [d61]; refine (C13 wv hSw).mono ?_; rintro e w' ⟨u', he, ht, hb⟩; exact ⟨_, he, ⟨u', rfl, ht⟩, hb⟩
        · exact FactsG.of rfl (fun _ _ _ => trivial) (fun xv wv hSw hd => by have dg : xv 60 = _ := pF_get (hd ⟨60, .guard⟩ (by simp) rfl _ rfl); simp only [dg]; rfl) (Facts.loadP hS hF (fun _ _ => rfl) 27 Tryz.underlying27 rfl zx _ rfl rfl (fun xv wv hSw hd => by rfl) (fun wv hSw => Rw.whole (cs := [Value.int .i64 x.k, .int .i64 x.b, .slice pa x.am.length ca', .slice pw x.wr.length cw, .slice pm x.mb.length cm, .slice pe x.el.length ce]) (R0.later hSw)))
        · refine FactsG.of rfl (fun _ _ _ => trivial) (fun xv wv hSw hd => by have dg : xv 60 = _ := pF_get (hd ⟨60, .guard⟩ (by simp) rfl _ rfl); simp only [dg]; rfl) (Facts.call1P hS hF (fun _ _ => rfl) rfl (by kernel_rfl) rfl (fun xv wv hSw hd => ?_))
          have d63 : xv 63 = _ := pF_get (hd ⟨63, .data⟩ (by simp) rfl _ rfl)
          show Calls Tryz.prog 23 #[xv 63] wv _
          rw [d63]; refine (C14 wv hSw).mono ?_; rintro e w' ⟨u', he, ht, hb⟩; exact ⟨_, he, ⟨u', rfl, ht⟩, hb⟩
        · refine FactsG.of rfl (fun _ _ _ => trivial) (fun xv wv hSw hd => by have dg : xv 60 = _ := pF_get (hd ⟨60, .guard⟩ (by simp) rfl _ rfl); simp only [dg]; rfl) (Facts.call2P hS hF (fun _ _ => rfl) rfl (by kernel_rfl) rfl (fun xv wv hSw hd => ?_))
          have d62 := pF_get (hd ⟨62, .data⟩ (by simp) rfl _ rfl); have d64 := pF_get (hd ⟨64, .data⟩ (by simp) rfl _ rfl)
          show Calls Tryz.prog 21 #[xv 62, xv 64] wv _
          obtain ⟨u1, e1, f1⟩ := d62; obtain ⟨u2, e2, f2⟩ := d64; rw [e1, e2]; exact (values_any rk u1 u2 rt wv f1 f2).mono fun e w' h => tells_p h
        · exact FactsG.of rfl (fun _ _ _ => trivial) (fun _ _ _ _ => rfl) (Facts.pureP hS hF (fun _ _ => rfl) rfl (fun xv wv hSw hd => by
            have d60 : xv 60 = _ := pF_get (hd ⟨60, .data⟩ (by simp) rfl _ rfl); have d65 : xv 65 = _ := pF_get (hd ⟨65, .data⟩ (by simp) rfl _ rfl); simp only [d60, d65]
            go_simp))
        · exact FactsG.of rfl (fun _ _ _ => trivial) (fun _ _ _ _ => rfl) (Facts.pureP hS hF (fun _ _ => rfl) rfl (fun xv wv hSw hd => by
            have d66 : xv 66 = _ := pF_get (hd ⟨66, .data⟩ (by simp) rfl _ rfl); simp only [d66]
            go_simp))
        · refine FactsG.of rfl (fun _ _ _ => trivial) (fun xv wv hSw hd => by have dg : xv 67 = _ := pF_get (hd ⟨67, .guard⟩ (by simp) rfl _ rfl); simp only [dg]; rfl) (Facts.call0P hS hF (fun _ _ => rfl) rfl (by kernel_rfl) rfl (fun xv wv hSw hd => ?_))
          exact (heads_any wv).mono fun e w' h => tells_p h
        · exact FactsG.of rfl (fun _ _ _ => trivial) (fun _ _ _ _ => rfl) (Facts.pureP hS hF (fun _ _ => rfl) rfl (fun xv wv hSw hd => by
            have d67 : xv 67 = _ := pF_get (hd ⟨67, .data⟩ (by simp) rfl _ rfl); have d68 : xv 68 = _ := pF_get (hd ⟨68, .data⟩ (by simp) rfl _ rfl); simp only [d67, d68]
            go_simp))
        · exact FactsG.of rfl (fun _ _ _ => trivial) (fun _ _ _ _ => rfl) (Facts.pureP hS hF (fun _ _ => rfl) rfl (fun xv wv hSw hd => by
            have d69 : xv 69 = _ := pF_get (hd ⟨69, .data⟩ (by simp) rfl _ rfl); simp only [d69]
            go_simp))
        rintro xv w19 hb9 hff _; have e70 : xv 70 = _ := pF_get (hff 70 _ (by decide) rfl); simp only [e70]; go_wp2_with fail; go_ret; exact ⟨rfl, below_on hbel hb9⟩
end Go.Proofs.YtfjpbmdmkcihcaaGreat
/- Arguments that are marks, dots, updates, ops, transactions. -/
namespace Go.Proofs.YtfjpbmdmkcihcaaGreat
open Go.ChangeShapes Go.WideShapes Go.ChangeAt Go.RowKit

/-- A slice of ops that is nil, or lies somewhere. -/
def OIs (w : World) (v : Value) (l : List O) : Prop := l.length ≤ maxLen ∧ ((v = .slice none 0 0 ∧ l = []) ∨ ∃ ad c, v = .slice (some ad) l.length c ∧ (0 < l.length → ∃ g o, ad = ⟨g, o, none⟩ ∧ ∀ i (h : i < l.length), w.rangeAt g (o + i * 10) l[i].cells))
theorem OIs.has {w : World} {v : Value} {l : List O} (h : OIs w v l) : OHas w v l := by
  obtain ⟨hm, ⟨rfl, rfl⟩ | ⟨ad, c, rfl, hd⟩⟩ := h
  · exact ⟨none, 0, rfl, hm, fun h => by simp at h⟩
  · refine ⟨_, c, rfl, hm, fun h => ?_⟩
    obtain ⟨g, o, rfl, hd2⟩ := hd h; exact ⟨g, o, rfl, hd2⟩
theorem OIs.later {w w' : World} {v : Value} {l : List O} (h : OIs w v l) (hb : Below w.heap.size w w') : OIs w' v l := by
  obtain ⟨hm, ⟨rfl, rfl⟩ | ⟨ad, c, rfl, hd⟩⟩ := h
  · exact ⟨hm, .inl ⟨rfl, rfl⟩⟩
  · refine ⟨hm, .inr ⟨ad, c, rfl, fun h => ?_⟩⟩
    obtain ⟨g, o, rfl, hd2⟩ := hd h; exact ⟨g, o, rfl, fun i hi => range_later (hd2 i hi) hb⟩
theorem vals_of_ints : ∀ (cs : List Value), (∀ i (h : i < cs.length), ∃ n : Int, cs[i] = .int .i64 n) → ∃ l : List Int, cs = vals l
  | [], _ => ⟨[], rfl⟩
  | c :: cs, h => by
    obtain ⟨n, hn⟩ := h 0 (by simp); obtain ⟨l, hl⟩ := vals_of_ints cs (fun i hi => by have := h (i + 1) (by simpa using hi); simpa using this); refine ⟨n :: l, ?_⟩; simp only [List.getElem_cons_zero] at hn; rw [hn, hl]
    rfl

section
variable {H : Type} {enc : TypeId × Value → H} {w : World} {base : Nat} {spare : Nat → Bool} {held : Bool}
theorem c3 : Tryz.prog.cellsOf 3 = 1 := by kernel_rfl
theorem c9 : Tryz.prog.cellsOf 9 = 1 := by kernel_rfl
theorem c29 : Tryz.prog.cellsOf 29 = 2 := by kernel_rfl
theorem c31 : Tryz.prog.cellsOf 31 = 13 := by kernel_rfl
theorem c32 : Tryz.prog.cellsOf 32 = 1 := by kernel_rfl
theorem c40 : Tryz.prog.cellsOf 36 = 3 := by kernel_rfl
theorem c67 : Tryz.prog.cellsOf 62 = 10 := by kernel_rfl
theorem c34 : Tryz.prog.cellsOf 34 = 17 := by kernel_rfl
set_option maxRecDepth 100000 in
theorem cells_dot {fuel : Nat} {cs : List Value} {x : DataW H × List MemPlace} (h : DataW.trod enc Tryz.prog w base spare held fuel 29 cs = some x) : ∃ p s, cs = [.int .i64 p, .int .i64 s] := by
  obtain ⟨xs, k, rfl, _, hcl, hxl, hf⟩ := DataW.trod_struct Tryz.underlying29 h; rw [c29] at hcl
  match xs, hxl, cs, hcl with
  | [y0, y1], _, [v0, v1], _ =>
    have g0 := hf 0 _ rfl; have g1 := hf 1 _ rfl
    simp [c3] at g0 g1
    obtain ⟨n0, h0, _⟩ := DataW.trod_int Tryz.underlying3 g0; obtain ⟨n1, h1, _⟩ := DataW.trod_int Tryz.underlying3 g1
    simp at h0 h1
    exact ⟨n0, n1, by rw [h0, h1]⟩
set_option maxRecDepth 100000 in
theorem cells_mark {fuel : Nat} {cs : List Value} {x : DataW H × List MemPlace} (h : DataW.trod enc Tryz.prog w base spare held fuel 36 cs = some x) : ∃ p s i, cs = [.int .i64 p, .int .i64 s, .int .i64 i] := by
  obtain ⟨xs, k, rfl, _, hcl, hxl, hf⟩ := DataW.trod_struct Tryz.underlying36 h; rw [c40] at hcl
  match xs, hxl, cs, hcl with
  | [y0, y1], _, [v0, v1, v2], _ =>
    have g0 := hf 0 _ rfl; have g1 := hf 1 _ rfl
    simp [c3, c29] at g0 g1
    obtain ⟨p, s, h0⟩ := cells_dot g0; obtain ⟨n1, h1, _⟩ := DataW.trod_int Tryz.underlying3 g1
    simp at h0 h1
    exact ⟨p, s, n1, by rw [h0.1, h0.2, h1]⟩
set_option maxRecDepth 100000 in
theorem cells_op {fuel : Nat} {cs : List Value} {x : DataW H × List MemPlace} (h : DataW.trod enc Tryz.prog w base spare held fuel 62 cs = some x) : ∃ o : O, cs = o.cells := by
  obtain ⟨xs, k, rfl, _, hcl, hxl, hf⟩ := DataW.trod_struct Tryz.underlying62 h; rw [c67] at hcl
  match xs, hxl, cs, hcl with
  | [y0, y1, y2, y3, y4, y5, y6, y7], _, [v0, v1, v2, v3, v4, v5, v6, v7, v8, v9], _ =>
    have g0 := hf 0 _ rfl; have g1 := hf 1 _ rfl; have g2 := hf 2 _ rfl; have g3 := hf 3 _ rfl; have g4 := hf 4 _ rfl; have g5 := hf 5 _ rfl; have g6 := hf 6 _ rfl; have g7 := hf 7 _ rfl
    simp [c3, c9, c40] at g0 g1 g2 g3 g4 g5 g6 g7
    obtain ⟨n0, h0, _⟩ := DataW.trod_int Tryz.underlying3 g0; obtain ⟨n1, h1, _⟩ := DataW.trod_string Tryz.underlying9 g1; obtain ⟨n2, h2, _⟩ := DataW.trod_string Tryz.underlying9 g2; obtain ⟨n3, h3, _⟩ := DataW.trod_int Tryz.underlying3 g3; obtain ⟨n4, h4, _⟩ := DataW.trod_int Tryz.underlying3 g4; obtain ⟨n5, h5, _⟩ := DataW.trod_int Tryz.underlying3 g5; obtain ⟨n6, h6, _⟩ := DataW.trod_string Tryz.underlying9 g6; obtain ⟨p, s, i, h7⟩ := cells_mark g7
    simp at h0 h1 h2 h3 h4 h5 h6 h7
    obtain ⟨h7, h8, h9⟩ := h7; exact ⟨⟨n0, n1, n2, n3, n4, n5, n6, p, s, i⟩, by rw [h0, h1, h2, h3, h4, h5, h6, h7, h8, h9]⟩
set_option maxRecDepth 100000 in
theorem cells_ops {fuel : Nat} {cs : List Value} {x : DataW H × List MemPlace} (h : DataW.trod enc Tryz.prog w base spare held fuel 32 cs = some x) : ∃ (v : Value) (l : List O), cs = [v] ∧ OIs w v l := by
  rcases DataW.trod_slice Tryz.underlying32 h with ⟨h0, _⟩ | ⟨a, len, cap, elems, rest, m, hm, hcs, _, hba, hl, hmx, hlen, hel, _, _⟩
  · exact ⟨_, [], h0, Nat.zero_le _, .inl ⟨rfl, rfl⟩⟩
  · have each : ∀ i, i < len → ∃ o : O, ∀ j u, o.cells[j]? = some u → w.cell? (a.add (i * 10 + j)) = some u := by
      intro i hi; have hi' := hel i hi; rw [c67, List.getElem?_eq_getElem (by omega)] at hi'; obtain ⟨cs', h1, h2⟩ := Option.bind_eq_some_iff.1 hi'; obtain ⟨_, hlen', hcell⟩ := World.cells?_some h1; obtain ⟨o, rfl⟩ := cells_op h2; refine ⟨o, fun j u hu => ?_⟩; have hj : j < 10 := (List.getElem?_eq_some_iff.1 hu).1; have e := hcell j (by omega); rw [Deep.add_add] at e; rw [e]; exact hu
    have hinh : Inhabited O := ⟨⟨0, noS, noS, 0, 0, 0, noS, 0, 0, 0⟩⟩; obtain ⟨f, hk⟩ := Deep.choose_lt each; refine ⟨_, (List.range len).map f, hcs, by simp; omega, .inr ⟨a, cap, by simp, fun h0 => ?_⟩⟩
    have h0' : 0 < len := by simpa using h0
    obtain ⟨b, off, spot⟩ := a; have q0 := hk 0 h0' 0 _ rfl
    have hspot : spot = none := by simpa [Addr.add] using World.cell?_spot q0
    subst hspot; refine ⟨b, off, rfl, fun i hi j u hu => ?_⟩
    have hi' : i < len := by simpa using hi
    have := hk i hi' j u (by simpa using hu)
    rw [Addr.add_mid] at this; rw [Nat.add_assoc]; exact this
set_option maxRecDepth 100000 in
theorem cells_tx {fuel : Nat} {cs : List Value} {x : DataW H × List MemPlace} (h : DataW.trod enc Tryz.prog w base spare held fuel 34 cs = some x) : ∃ (p s : Int) (v : List Int) (t : Int) (sl : Value) (l : List O), cs = txc p s v t sl ∧ v.length = 13 ∧ OIs w sl l := by
  obtain ⟨xs, k, rfl, _, hcl, hxl, hf⟩ := DataW.trod_struct Tryz.underlying34 h; rw [c34] at hcl
  match xs, hxl with
  | [y0, y1, y2, y3], _ =>
    have g0 := hf 0 _ rfl; have g1 := hf 1 _ rfl; have g2 := hf 2 _ rfl; have g3 := hf 3 _ rfl
    simp [c3, c29, c31, c32] at g0 g1 g2 g3
    obtain ⟨p, s, h0⟩ := cells_dot g0; obtain ⟨xs1, m, _, _, hlen, hxs, hi⟩ := DataW.trod_array Tryz.underlying31 g1
    obtain ⟨v, hv⟩ := vals_of_ints ((cs.drop 2).take 13) (fun i hlt => by
      have hi13 : i < 13 := by simp at hlt; omega
      have hq := hi i hi13; rw [c3, List.getElem?_eq_getElem (show i < xs1.length by omega)] at hq; obtain ⟨n, hn, _⟩ := DataW.trod_int Tryz.underlying3 hq; refine ⟨n, ?_⟩; rw [Nat.mul_one, List.drop_eq_getElem_cons hlt] at hn
      simpa using hn)
    have hv13 : v.length = 13 := by
      have := congrArg List.length hv
      rw [vals_length] at this
      simp at this
      omega
    obtain ⟨t, h2, _⟩ := DataW.trod_int Tryz.underlying3 g2; obtain ⟨sl, l, h3, hl⟩ := cells_ops g3; refine ⟨p, s, v, t, sl, l, ?_, hv13, hl⟩; unfold txc; rw [← hv]
    match cs, hcl with
    | [a0, a1, a2, a3, a4, a5, a6, a7, a8, a9, a10, a11, a12, a13, a14, a15, a16], _ =>
      simp at h0 h2 h3 ⊢
      exact ⟨h0.1, h0.2, h2, h3⟩


theorem rows_split {α : Type} {f : α → List Value} {S : Nat} (hf : ∀ x, (f x).length = S) : ∀ (l : List α) (j : Nat) (u : Value), (rows f l)[j]? = some u → ∃ i r, ∃ h : i < l.length, r < S ∧ j = i * S + r ∧ (f l[i])[r]? = some u
  | [], j, u, h => by simp [rows] at h
  | x :: l, j, u, h => by
    rw [rows_cons] at h
    rcases Nat.lt_or_ge j S with hj | hj
    · rw [List.getElem?_append_left (by rw [hf]; exact hj)] at h
      exact ⟨0, j, by simp, hj, by omega, h⟩
    · rw [List.getElem?_append_right (by rw [hf]; exact hj), hf] at h
      obtain ⟨i, r, hi, hr, e, hu⟩ := rows_split hf l (j - S) u h; exact ⟨i + 1, r, by simpa using hi, hr, by rw [Nat.succ_mul]; omega, hu⟩
theorem c4 : Tryz.prog.cellsOf 4 = 1 := by kernel_rfl
theorem c22 : Tryz.prog.cellsOf 22 = 1 := by kernel_rfl
theorem c23 : Tryz.prog.cellsOf 23 = 1 := by kernel_rfl
theorem c24 : Tryz.prog.cellsOf 24 = 1 := by kernel_rfl
theorem c25 : Tryz.prog.cellsOf 25 = 1 := by kernel_rfl
theorem c27 : Tryz.prog.cellsOf 27 = 6 := by kernel_rfl
theorem c42 : Tryz.prog.cellsOf 70 = 4 := by kernel_rfl
theorem c58 : Tryz.prog.cellsOf 56 = 5 := by kernel_rfl
theorem c59 : Tryz.prog.cellsOf 46 = 1 := by kernel_rfl
theorem c61 : Tryz.prog.cellsOf 58 = 3 := by kernel_rfl
theorem c63 : Tryz.prog.cellsOf 60 = 9 := by kernel_rfl
theorem by42 : Tryz.prog.bytesOf 70 = 32 := by kernel_rfl
theorem by58 : Tryz.prog.bytesOf 56 = 48 := by kernel_rfl
theorem by61 : Tryz.prog.bytesOf 58 = 48 := by kernel_rfl
theorem by63 : Tryz.prog.bytesOf 60 = 96 := by kernel_rfl
set_option maxRecDepth 100000 in
/-- A slice whose elements are known one by one. -/
theorem cells_rows {α : Type} [Inhabited α] {ts e S : Nat} (hu : Tryz.prog.underlying ts = some (.slice e)) (hS : Tryz.prog.cellsOf e = S) (hS0 : 0 < S) (f : α → List Value) (Pr : α → Prop) (hf : ∀ y, (f y).length = S)
    (each : ∀ (fuel : Nat) (cs : List Value) (x : DataW H × List MemPlace), DataW.trod enc Tryz.prog w base spare held fuel e cs = some x → ∃ y, cs = f y ∧ Pr y) {fuel : Nat} {cs : List Value} {x : DataW H × List MemPlace} (h : DataW.trod enc Tryz.prog w base spare held fuel ts cs = some x) :
    ∃ (v : Value) (l : List α), cs = [v] ∧ SHas S w v l.length (rows f l) ∧ (∀ y ∈ l, Pr y) ∧ ∀ b, (DataW.weights Tryz.prog ts x.1).all (· ≤ b) = true → l.length * Tryz.prog.bytesOf e ≤ b := by
  rcases DataW.trod_slice hu h with ⟨h0, hx⟩ | ⟨a, len, cap, elems, rest, m, hm, hcs, hx, hba, hl, hmx, hlen, hel, _, _⟩
  · exact ⟨_, [], h0, SHas.nil w S, (fun _ h => by cases h), fun b _ => by simp⟩
  · have one : ∀ i, i < len → ∃ y : α, (∀ j u, (f y)[j]? = some u → w.cell? (a.add (i * S + j)) = some u) ∧ Pr y := by
      intro i hi; have hi' := hel i hi; rw [hS, List.getElem?_eq_getElem (by omega)] at hi'; obtain ⟨cs', h1, h2⟩ := Option.bind_eq_some_iff.1 hi'; obtain ⟨_, hlen', hcell⟩ := World.cells?_some h1; obtain ⟨y, rfl, hy⟩ := each _ _ _ h2; refine ⟨y, fun j u hu => ?_, hy⟩
      have hj : j < S := by have := (List.getElem?_eq_some_iff.1 hu).1; rw [hf] at this; exact this
      have e := hcell j (by omega); rw [Deep.add_add] at e; rw [e]; exact hu
    obtain ⟨g, hk⟩ := Deep.choose_lt one
    have hll : ((List.range len).map g).length = len := by simp
    refine ⟨_, (List.range len).map g, hcs, ⟨by rw [hll]; omega, by rw [rows_length hf], .inr ⟨a, cap, by rw [hll], ⟨by rw [hll]; omega, by omega⟩, fun h0 => ?_⟩⟩, ?_, ?_⟩
    · have h0' : 0 < len := by simpa using h0
      obtain ⟨b, off, spot⟩ := a; obtain ⟨u0, hu0⟩ : ∃ u0, (f (g 0))[0]? = some u0 := ⟨(f (g 0))[0]'(by rw [hf]; exact hS0), List.getElem?_eq_getElem _⟩; have q0 := (hk 0 h0').1 0 _ hu0
      have hspot : spot = none := by simpa [Addr.add] using World.cell?_spot q0
      subst hspot; refine ⟨b, off, rfl, fun j u hu => ?_⟩; obtain ⟨i, r, hi, hr, rfl, hq⟩ := rows_split hf _ j u hu
      have hi' : i < len := by simpa using hi
      have := (hk i hi').1 r u (by simpa using hq)
      rw [Addr.add_mid] at this; exact this
    · intro y hy
      obtain ⟨i, hi, rfl⟩ := List.mem_map.1 hy; exact (hk i (by simpa using hi)).2
    · intro b hb
      rw [hx] at hb; simp only [DataW.weights, hu, List.all_cons, Bool.and_eq_true, decide_eq_true_eq, List.length_map] at hb; rw [hll, ← hlen]; exact Nat.le_trans (Nat.mul_le_mul_right _ (Nat.le_add_right _ _)) hb.1
set_option maxRecDepth 100000 in
theorem cells_amount {fuel : Nat} {cs : List Value} {x : DataW H × List MemPlace} (h : DataW.trod enc Tryz.prog w base spare held fuel 70 cs = some x) : ∃ y : A, cs = y.cells := by
  obtain ⟨xs, k, rfl, _, hcl, hxl, hf⟩ := DataW.trod_struct Tryz.underlying70 h; rw [c42] at hcl
  match xs, hxl, cs, hcl with
  | [y0, y1], _, [v0, v1, v2, v3], _ =>
    have g0 := hf 0 _ rfl; have g1 := hf 1 _ rfl
    simp [c3, c40] at g0 g1
    obtain ⟨p, s, i, h0⟩ := cells_mark g0; obtain ⟨n1, h1, _⟩ := DataW.trod_int Tryz.underlying3 g1
    simp at h0 h1
    exact ⟨⟨p, s, i, n1⟩, by rw [h0.1, h0.2.1, h0.2.2, h1]⟩
set_option maxRecDepth 100000 in
theorem cells_write {fuel : Nat} {cs : List Value} {x : DataW H × List MemPlace} (h : DataW.trod enc Tryz.prog w base spare held fuel 56 cs = some x) : ∃ y : Wt, cs = y.cells := by
  obtain ⟨xs, k, rfl, _, hcl, hxl, hf⟩ := DataW.trod_struct Tryz.underlying56 h; rw [c58] at hcl
  match xs, hxl, cs, hcl with
  | [y0, y1, y2], _, [v0, v1, v2, v3, v4], _ =>
    have g0 := hf 0 _ rfl; have g1 := hf 1 _ rfl; have g2 := hf 2 _ rfl
    simp [c3, c9, c40] at g0 g1 g2
    obtain ⟨p, s, i, h0⟩ := cells_mark g0; obtain ⟨n1, h1, _⟩ := DataW.trod_int Tryz.underlying3 g1; obtain ⟨n2, h2, _⟩ := DataW.trod_string Tryz.underlying9 g2
    simp at h0 h1 h2
    exact ⟨⟨p, s, i, n1, n2⟩, by rw [h0.1, h0.2.1, h0.2.2, h1, h2]⟩
set_option maxRecDepth 100000 in
theorem cells_marks {fuel : Nat} {cs : List Value} {x : DataW H × List MemPlace} (h : DataW.trod enc Tryz.prog w base spare held fuel 46 cs = some x) : ∃ (v : Value) (l : List M), cs = [v] ∧ MHas w v l := by
  have hinh : Inhabited M := ⟨⟨0, 0, 0⟩⟩
  obtain ⟨v, l, h1, h2, _⟩ := cells_rows (α := M) Tryz.underlying46 c40 (by decide) M.cells (fun _ => True) M.len (fun fuel cs x hx => by
    obtain ⟨p, s, i, e⟩ := cells_mark hx
    exact ⟨⟨p, s, i⟩, e, trivial⟩) h
  exact ⟨v, l, h1, h2⟩
set_option maxRecDepth 100000 in
theorem cells_member {fuel : Nat} {cs : List Value} {x : DataW H × List MemPlace} (h : DataW.trod enc Tryz.prog w base spare held fuel 58 cs = some x) : ∃ y : Mb × Value, cs = Mb.cells y ∧ MHas w y.2 y.1.ms := by
  obtain ⟨xs, k, rfl, _, hcl, hxl, hf⟩ := DataW.trod_struct Tryz.underlying58 h; rw [c61] at hcl
  match xs, hxl, cs, hcl with
  | [y0, y1, y2], _, [v0, v1, v2], _ =>
    have g0 := hf 0 _ rfl; have g1 := hf 1 _ rfl; have g2 := hf 2 _ rfl
    simp [c9, c4, c59] at g0 g1 g2
    obtain ⟨n0, h0, _⟩ := DataW.trod_string Tryz.underlying9 g0; obtain ⟨n1, h1, _⟩ := DataW.trod_bool Tryz.underlying4 g1; obtain ⟨v, l, h2, hm⟩ := cells_marks g2
    simp at h0 h1 h2
    exact ⟨(⟨n0, n1, l⟩, v), by rw [h0, h1, h2], hm⟩
set_option maxRecDepth 100000 in
theorem cells_elem {fuel : Nat} {cs : List Value} {x : DataW H × List MemPlace} (h : DataW.trod enc Tryz.prog w base spare held fuel 60 cs = some x) : ∃ y : El × Value, cs = El.cells y ∧ MHas w y.2 y.1.gone := by
  obtain ⟨xs, k, rfl, _, hcl, hxl, hf⟩ := DataW.trod_struct Tryz.underlying60 h; rw [c63] at hcl
  match xs, hxl, cs, hcl with
  | [y0, y1, y2, y3, y4], _, [v0, v1, v2, v3, v4, v5, v6, v7, v8], _ =>
    have g0 := hf 0 _ rfl; have g1 := hf 1 _ rfl; have g2 := hf 2 _ rfl; have g3 := hf 3 _ rfl; have g4 := hf 4 _ rfl
    simp [c9, c3, c40, c59] at g0 g1 g2 g3 g4
    obtain ⟨p, s, i, h0⟩ := cells_mark g0; obtain ⟨n1, h1, _⟩ := DataW.trod_int Tryz.underlying3 g1; obtain ⟨q, u, j, h2⟩ := cells_mark g2; obtain ⟨n3, h3, _⟩ := DataW.trod_string Tryz.underlying9 g3; obtain ⟨v, l, h4, hm⟩ := cells_marks g4
    simp at h0 h1 h2 h3 h4
    exact ⟨(⟨p, s, i, n1, q, u, j, n3, l⟩, v), by rw [h0.1, h0.2.1, h0.2.2, h1, h2.1, h2.2.1, h2.2.2, h3, h4], hm⟩
set_option maxRecDepth 100000 in
theorem cells_cell {fuel : Nat} {cs : List Value} {d : DataW H × List MemPlace} (h : DataW.trod enc Tryz.prog w base spare held fuel 27 cs = some d) : ∃ (x : X) (va vw vm ve : Value), cs = (cvc x.k x.b va vw vm ve).toList ∧ Four w x va vw vm ve ∧ ((DataW.weights Tryz.prog 27 d.1).all (· ≤ reachBytes) = true → Lk x) := by
  obtain ⟨xs, k, rfl, hd, hcl, hxl, hf⟩ := DataW.trod_struct Tryz.underlying27 h; rw [c27] at hcl
  match xs, hxl, cs, hcl with
  | [y0, y1, y2, y3, y4, y5], _, [v0, v1, v2, v3, v4, v5], _ =>
    have g0 := hf 0 _ rfl; have g1 := hf 1 _ rfl; have g2 := hf 2 _ rfl; have g3 := hf 3 _ rfl; have g4 := hf 4 _ rfl; have g5 := hf 5 _ rfl
    simp [c3, c22, c23, c24, c25] at g0 g1 g2 g3 g4 g5
    obtain ⟨n0, h0, _⟩ := DataW.trod_int Tryz.underlying3 g0; obtain ⟨n1, h1, _⟩ := DataW.trod_int Tryz.underlying3 g1; have i1 : Inhabited A := ⟨⟨0, 0, 0, 0⟩⟩; have i2 : Inhabited Wt := ⟨⟨0, 0, 0, 0, noS⟩⟩; have i3 : Inhabited (Mb × Value) := ⟨(⟨noS, false, []⟩, .bool false)⟩; have i4 : Inhabited (El × Value) := ⟨(⟨0, 0, 0, 0, 0, 0, 0, noS, []⟩, .bool false)⟩
    obtain ⟨va, la, h2, ha, _, wa⟩ := cells_rows (α := A) Tryz.underlying22 c42 (by decide) A.cells (fun _ => True) A.len (fun fuel cs x hx => by
      obtain ⟨y, e⟩ := cells_amount hx
      exact ⟨y, e, trivial⟩) g2
    obtain ⟨vw, lw, h3, hw, _, ww⟩ := cells_rows (α := Wt) Tryz.underlying23 c58 (by decide) Wt.cells (fun _ => True) Wt.len (fun fuel cs x hx => by
      obtain ⟨y, e⟩ := cells_write hx
      exact ⟨y, e, trivial⟩) g3
    obtain ⟨vm, lm, h4, hm, pm, wm⟩ := cells_rows (α := Mb × Value) Tryz.underlying24 c61 (by decide) Mb.cells (fun y => MHas w y.2 y.1.ms) Mb.len (fun fuel cs x hx => cells_member hx) g4; obtain ⟨ve, le, h5, he, pe, we⟩ := cells_rows (α := El × Value) Tryz.underlying25 c63 (by decide) El.cells (fun y => MHas w y.2 y.1.gone) El.len (fun fuel cs x hx => cells_elem hx) g5
    simp at h0 h1 h2 h3 h4 h5
    refine ⟨⟨n0, n1, la, lw, lm.map (·.1), le.map (·.1)⟩, va, vw, vm, ve, by rw [h0, h1, h2, h3, h4, h5], ⟨ha, hw, ⟨lm, rfl, by rw [List.length_map]; exact hm, pm⟩, ⟨le, rfl, by rw [List.length_map]; exact he, pe⟩⟩, fun hb => ?_⟩; rw [hd] at hb; simp only [DataW.weights, Tryz.underlying27, List.map_cons, List.map_nil, DataW.weightsEach, List.all_append, Bool.and_eq_true] at hb; obtain ⟨_, _, b2, b3, b4, b5, _⟩ := hb; have q2 := wa _ b2; have q3 := ww _ b3; have q4 := wm _ b4; have q5 := we _ b5; rw [by42] at q2; rw [by58] at q3; rw [by61] at q4; rw [by63] at q5; have hr : reachBytes = 140737488351232 := rfl; rw [hr] at q2 q3 q4 q5; exact ⟨by show la.length ≤ _; omega, by show lw.length ≤ _; omega, by show (lm.map _).length ≤ _; rw [List.length_map]; omega, by show (le.map _).length ≤ _; rw [List.length_map]; omega⟩

variable {r : Reach} {b0 : Nat} {v : Value} {d : DataW H} {ps : List MemPlace}
set_option maxRecDepth 100000 in
theorem open_tx (hval : Value.okWide Tryz.prog w r b0 34 v) (hd : DataW.Trod enc Tryz.prog w base spare held 34 v d ps) : ∃ (p s : Int) (u : List Int) (t : Int) (sl : Value) (l : List O), v = TxV p s u t sl ∧ u.length = 13 ∧ OIs w sl l := by
  obtain ⟨fuel, hf⟩ := hd; simp only [Value.okWide, Tryz.underlying34] at hval; obtain ⟨cs, rfl, _⟩ := hval; obtain ⟨p, s, u, t, sl, l, e, hu, hl⟩ := cells_tx hf; exact ⟨p, s, u, t, sl, l, by rw [show cs = (txc p s u t sl).toArray from Array.toList_inj.1 e], hu, hl⟩
set_option maxRecDepth 100000 in
theorem open_cell (hval : Value.okWide Tryz.prog w r b0 27 v) (hd : DataW.Trod enc Tryz.prog w base spare held 27 v d ps) : ∃ (x : X) (va vw vm ve : Value), v = CV x.k x.b va vw vm ve ∧ Four w x va vw vm ve ∧ ((DataW.weights Tryz.prog 27 d).all (· ≤ reachBytes) = true → Lk x) := by
  obtain ⟨fuel, hf⟩ := hd; simp only [Value.okWide, Tryz.underlying27] at hval; obtain ⟨cs, rfl, _⟩ := hval; obtain ⟨x, va, vw, vm, ve, e, h1, h2⟩ := cells_cell hf; exact ⟨x, va, vw, vm, ve, by rw [show cs = cvc x.k x.b va vw vm ve from Array.toList_inj.1 e], h1, h2⟩
set_option maxRecDepth 100000 in
theorem open_vec (hval : Value.okWide Tryz.prog w r b0 31 v) (hd : DataW.Trod enc Tryz.prog w base spare held 31 v d ps) : ∃ l : List Int, v = V l ∧ l.length = 13 := by
  obtain ⟨fuel, hf⟩ := hd; simp only [Value.okWide, Tryz.underlying31] at hval; obtain ⟨cs, rfl, _⟩ := hval; obtain ⟨xs1, m, _, _, hlen, hxs, hi⟩ := DataW.trod_array Tryz.underlying31 hf
  obtain ⟨u, hu⟩ := vals_of_ints (Value.agg cs).cells.toList (fun i hlt => by
    have hi13 : i < 13 := by rw [hlen, c31] at hlt; exact hlt
    have hq := hi i hi13; rw [c3, List.getElem?_eq_getElem (show i < xs1.length by omega)] at hq; obtain ⟨n, hn, _⟩ := DataW.trod_int Tryz.underlying3 hq; refine ⟨n, ?_⟩; rw [Nat.mul_one, List.drop_eq_getElem_cons hlt] at hn
    simpa using hn)
  have e : cs.toList = vals u := hu; refine ⟨u, by rw [show cs = (vals u).toArray from Array.toList_inj.1 e], ?_⟩
  have := congrArg List.length e
  rw [vals_length] at this; rw [← this]; have h2 := hlen; rw [c31] at h2; exact h2
end
end Go.Proofs.YtfjpbmdmkcihcaaGreat
/- An argument that is a mark. -/
namespace Go.Proofs.YtfjpbmdmkcihcaaGreat
open Go.ChangeShapes Go.WideShapes Go.ChangeAt Go.RowKit

set_option maxRecDepth 100000 in
theorem open_mark {H : Type} {enc : TypeId × Value → H} {w : World} {base : Nat} {spare : Nat → Bool} {held : Bool} {r : Reach} {b0 : Nat} {v : Value} {d : DataW H} {ps : List MemPlace} (hval : Value.okWide Tryz.prog w r b0 36 v) (hd : DataW.Trod enc Tryz.prog w base spare held 36 v d ps) : ∃ p s i, v = MV p s i := by
  obtain ⟨fuel, hf⟩ := hd; simp only [Value.okWide, Tryz.underlying36] at hval; obtain ⟨cs, rfl, _⟩ := hval; obtain ⟨p, s, i, e⟩ := cells_mark hf; exact ⟨p, s, i, by rw [show cs = #[.int .i64 p, .int .i64 s, .int .i64 i] from Array.toList_inj.1 e]⟩
end Go.Proofs.YtfjpbmdmkcihcaaGreat
