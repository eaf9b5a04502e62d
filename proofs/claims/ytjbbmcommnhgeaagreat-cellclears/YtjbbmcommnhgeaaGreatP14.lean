import Derived.Test.YtjbbmcommnhgeaaGreatP13
import Derived.Test.YtjbbmcommnhgeaaGreatP11
import Derived.Test.YtjbbmcommnhgeaaGreatP7
import Derived.Test.YtjbbmcommnhgeaaGreatP4
import Derived.Test.YtjbbmcommnhgeaaGreatP8
/- slices.DeleteFunc over a row of writes of the call's own. -/
namespace Go.Proofs.YtjbbmcommnhgeaaGreat.Rg
open Go.RowKit
/-- What DeleteFunc answers: a row of its own. -/
def DlPost (B : Nat) (v0 : Value) (l : List Wt) (w : World) (e : Ending) (w' : World) : Prop := ∃ u, e = .returned u ∧ w'.ownsRow B 64 5 u l.length (rows Wt.cells l) ∧ Kp v0.ownBlock w w' ∧ (u.ownBlock = none ∨ u.ownBlock = v0.ownBlock) ∧ Below B w w'
set_option maxHeartbeats 4000000 in
set_option maxRecDepth 100000 in
theorem delete_any (B : Nat) (v0 : Value) (l : List Wt) (bt bi : Nat) (q u : Int) (v : List Int) (t : Int) (sl : Value) (idx : Int) (w : World) (hv : v.length = 13) (hown : w.ownsRow B 64 5 v0 l.length (rows Wt.cells l)) (hl : l.length ≤ 100) (hbt : bt < B) (hbi : bi < B) (hBw : B ≤ w.heap.size) (hX : Bxs w bt bi q u v t sl idx) :
  Calls Tryz.prog 114 #[v0, .func (.func 115) #[] #[.pointer (some ⟨bt, 0, none⟩), .pointer (some ⟨bi, 0, none⟩)]] w (DlPost B v0 (l.filter (fun y => !bf y.p y.s y.i q u v idx)) w) := by
 obtain ⟨f, hf⟩ : ∃ f : Wt → Bool, f = fun y => bf y.p y.s y.i q u v idx := ⟨_, rfl⟩
 have C : ∀ (y : Wt) (w' : World), Bxs w' bt bi q u v t sl idx → Calls Tryz.prog 115 #[WV y.p y.s y.i y.t y.x, .pointer (some ⟨bt, 0, none⟩), .pointer (some ⟨bi, 0, none⟩)] w' (Tells (.bool (f y)) w') := fun y w' h => by rw [hf]; exact clear1_any y bt bi q u v t sl idx w' hv h
 rw [show (fun y : Wt => !bf y.p y.s y.i q u v idx) = fun y => !f y by rw [hf]]
 clear hf
 obtain ⟨p, c, rfl⟩ := own_sl hown
 have CI := index_any _ l f bt bi w (own_sh hown) hl (fun y w' hb => C y w' (hX.later hb))
 have HX : Hid (Bxs w bt bi q u v t sl idx) := hX
 have HO : Hid (w.ownsRow B 64 5 (.slice p l.length c) l.length (rows Wt.cells l)) := hown
 clear hown hX
 go_enter Tryz.func114, Tryz.ntmps114
 go_wp2_with fail
 refine CI.mono ?_
 clear CI
 rintro e w1 (⟨rfl, hall, hb1⟩ | ⟨k, hk, rfl, hfk, hbf, hb1⟩)
 ·have HE : Hid (l.filter (fun y => !f y) = l) := by
   show _ = _
   rw [List.filter_eq_self]
   intro y hy
   rw [hall y hy]
   rfl
  clear hall C
  go_wp2_with fail
  go_ret
  refine ⟨_, rfl, ?_, fun b h _ => hb1.block b h, .inr rfl, hb1.mono hBw⟩
  rw [HE.out]
  exact own_later HO.out hb1
 ·obtain ⟨g, rfl, hg⟩ := own_some HO.out (by omega)
  have ho := own_later HO.out hb1
  obtain ⟨hxl, ⟨h0, _⟩ | ⟨g', cap, cur, h0, hBg, hgc, hnc, hcm, hcs, htake⟩⟩ := ho
  ·simp at h0
  simp only [Value.slice.injEq, Option.some.injEq, Addr.mk.injEq, and_true, true_and] at h0
  obtain ⟨rfl, rfl⟩ := h0
  have HD : Hid (DI l f k (k + 1) cur) := DI.start hk hfk hbf htake
  have HB : Hid (Bxs w1 bt bi q u v t sl idx) := HX.out.later hb1
  have HR : Hid (Rw w1 g 64 cur) := hgc
  have hbel := hb1.mono hBw
  have HK : Hid (Kp (some g) w w1) := fun b h _ => hb1.block b h
  have hsw : w.heap.size ≤ w1.heap.size := hb1.size
  clear HX HO hfk hbf htake hxl hgc hb1
  have hkb : ((k : Int) == -1) = false := by
   rw [beq_eq_false_iff_ne]
   omega
  go_wp2_with fail
  go_loopw [5, 6] (fun vi vj wr => ∃ a j : Nat, ∃ cr : Array Value, vi = .int .i64 a ∧ vj = .int .i64 j ∧ j ≤ l.length ∧ a < j ∧ Hid (DI l f a j cr) ∧ cr.size = c * 5 ∧ Hid (Rw wr g 64 cr) ∧ Hid (Bxs wr bt bi q u v t sl idx) ∧ Hid (Kp (some g) w wr) ∧ w.heap.size ≤ wr.heap.size ∧ Below B w wr) (fun _ vj _ => l.length - (intOf vj).toNat)
  case atStart => exact ⟨k, k + 1, cur, rfl, by simp, by omega, by omega, HD, hcs, HR, HB, HK, hsw, hbel⟩
  case round =>
   clear HD hcs HR HB HK hsw hbel
   obtain ⟨a, j, cr, rfl, rfl, hj, haj, HD, hcs, HR, HB, HK, hsw, hbel⟩ := hrel
   by_cases hlt : j < l.length
   ·have hlt' : (j : Int) < (l.length : Int) := by omega
    have hgl := HR.out.lt
    have d := DI.elem HD.out hlt HR.out
    obtain ⟨x, HXX⟩ := hid_ex l[j]
    rw [HXX.out] at d
    have z42 : (Tryz.prog.info? 64).map (·.size) = some x.cells.length := size64
    have hbA := bel_alloc (Below.refl wr.heap.size wr) (.cells #[.int .i64 x.p, .int .i64 x.s, .int .i64 x.i, .int .i64 x.t, .string x.x] 64)
    have R := rw_new wr 64 #[.int .i64 x.p, .int .i64 x.s, .int .i64 x.i, .int .i64 x.t, .string x.x]
    have Cx := C x _ (HB.out.later hbA)
    obtain ⟨y, HY⟩ := hid_ex (f x)
    rw [HY.out] at Cx
    have HF : Hid (f l[j] = y) := by show _ = _; rw [HXX.out, HY.out]
    clear C HY
    have hBr := Nat.le_trans hBw hbel.size
    go_wp2_with (refine load_m 64 _ rfl rfl _ _ rfl d Tryz.underlying64 rfl z42 ?_)
    refine Cx.mono ?_
    clear Cx d
    rintro e w2 ⟨rfl, hb2⟩
    have hbC := below_on hbA hb2
    replace R := R.later hb2
    replace HR : Hid (Rw w2 g 64 cr) := HR.out.later hbC
    replace HB : Hid (Bxs w2 bt bi q u v t sl idx) := HB.out.later hbC
    replace hbel := hbel.trans (hbC.mono hBr)
    replace HK : Hid (Kp (some g) w w2) := HK.out.on hsw hbC
    replace hsw := Nat.le_trans hsw hbC.size
    clear hbA hb2 hbC
    cases y
    ·have HD2 : Hid (DI l f (a + 1) (j + 1) (cr.toList.take (a * 5) ++ x.cells ++ cr.toList.drop (a * 5 + 5)).toArray) := by
      have := DI.keep HD.out hlt haj (by omega) HF.out
      rw [HXX.out] at this
      exact this
     have hal' : (a : Int) < (l.length : Int) := by omega
     have ha0 : (0 : Int) ≤ (a : Int) := by omega
     have RR := HR.out
     clear HXX HF
     go_wp2_with (first | refine load_r 64 _ rfl rfl _ rfl R Tryz.underlying64 rfl size64 ?_ | refine store_mr rfl 64 _ _ rfl _ _ #[.int .i64 x.p, .int .i64 x.s, .int .i64 x.i, .int .i64 x.t, .string x.x] rfl rfl RR size64 ?hfit (by simp [Value.oneCell']) ?_)
     case hfit => simp; omega
     go_roundw
     case rel =>
      refine ⟨a + 1, j + 1, _, by simp, by simp, by omega, by omega, ?_, ?_, RR.row _, HB.out.row (by omega) (by omega) _, HK.out.row _, (by simpa [World.setRow] using hsw), below_setRow hbel hBg _⟩
      ·have := HD2.out
       simp only [List.append_assoc, List.cons_append, List.nil_append] at this
       exact this
      ·simp
       omega
     case measure => simp [intOf]; omega
    ·have HD2 : Hid (DI l f a (j + 1) cr) := DI.skip HD.out hlt HF.out
     clear HF HXX R
     go_wp2_with fail
     go_roundw
     case rel => exact ⟨a, j + 1, cr, rfl, by simp, by omega, by omega, HD2, hcs, HR, HB, HK, hsw, hbel⟩
     case measure => simp [intOf]; omega
   ·obtain rfl : j = l.length := by omega
    have hlt' : ¬ (l.length : Int) < (l.length : Int) := by omega
    have hal' : (a : Int) < (l.length : Int) := by omega
    have hale : (a : Int) ≤ (l.length : Int) := by omega
    have hca : ¬ (c = a) := by omega
    have hac : (a : Int) ≤ (c : Int) := by omega
    have han : a ≤ l.length := by omega
    have ha0 : (0 : Int) ≤ (a : Int) := by omega
    have RR := HR.out
    have hcl : ∀ ty cc, (Builtin.clear_ #[23] ty #[.slice (some ⟨g, a * 5, none⟩) (l.length - a) cc]).run Tryz.prog wr = .ok (.tuple #[]) (wr.setRow g (cr.toList.take (a * 5) ++ (Builtin.zeroCells (WV 0 0 0 0 noS).cells (l.length - a)).toList ++ cr.toList.drop (a * 5 + (l.length - a) * 5)).toArray) := fun ty cc => run_clear_rowS wr 23 64 ty _ 5 Tryz.underlying23 zero64 rfl (by decide) (by intro u hu; simp [Value.cells] at hu; rcases hu with rfl | rfl <;> rfl) g (a * 5) _ cc (by omega) 64 cr RR (by omega)
    obtain ⟨cr2, HC2⟩ := hid_ex (cr.toList.take (a * 5) ++ (Builtin.zeroCells (WV 0 0 0 0 noS).cells (l.length - a)).toList ++ cr.toList.drop (a * 5 + (l.length - a) * 5)).toArray
    rw [HC2.out] at hcl
    have hs2 : cr2.size = c * 5 := by
     rw [← HC2.out]
     simp [Builtin.zeroCells, Value.cells]
     omega
    have ht2 : cr2.toList.take (a * 5) = rows Wt.cells (l.filter (fun y => !f y)) := by
     have := HD.out.t
     rw [List.take_length] at this
     rw [← HC2.out, ← this, List.toList_toArray, List.append_assoc, List.take_left' (by rw [List.length_take, Array.length_toList]; omega)]
    have hn2 : a = (l.filter (fun y => !f y)).length := by
     have := HD.out.n
     rwa [List.take_length] at this
    have HP : Hid (a = (l.filter (fun y => !f y)).length ∧ cr2.toList.take (a * 5) = rows Wt.cells (l.filter (fun y => !f y))) := ⟨hn2, ht2⟩
    clear ht2 hn2 HC2 C HD HB HR
    go_wp2_with (first | (at_builtin; refine clear_run rfl _ 23 rfl _ rfl (hcl _ _) ?_))
    go_ret
    refine ⟨_, rfl, ?_, HK.out.row _, .inr rfl, below_setRow hbel hBg _⟩
    obtain ⟨h1, h2⟩ := HP.out
    rw [← h1, ← h2]
    refine ⟨?_, .inr ⟨g, c, cr2, rfl, hBg, RR.row cr2, by omega, hcm, hs2, rfl⟩⟩
    rw [List.length_take, Array.length_toList]
    omega
end Go.Proofs.YtjbbmcommnhgeaaGreat.Rg
/- Clear of package register. -/
namespace Go.Proofs.YtjbbmcommnhgeaaGreat.Rg
open Go.RowKit
theorem four_zero {w w' : World} {x : X} {va vw vm ve : Value} (h : Four w x va vw vm ve) (h1 : x.am.length = 0) (h2 : x.mb.length = 0) (h3 : x.el.length = 0) {vw' : Value} {l : List Wt} (ha : WHas w' vw' l) : Four w' { x with wr := l } va vw' vm ve := by
 obtain ⟨k, b, am, wr, mb, el⟩ := x
 obtain rfl := List.eq_nil_of_length_eq_zero h1
 obtain rfl := List.eq_nil_of_length_eq_zero h2
 obtain rfl := List.eq_nil_of_length_eq_zero h3
 obtain ⟨ht, _, ⟨ms, e1, e2, _⟩, ⟨es, e3, e4, _⟩⟩ := h
 obtain rfl := List.map_eq_nil_iff.1 e1
 obtain rfl := List.map_eq_nil_iff.1 e3
 exact ⟨SHas.zero ht, ha, ⟨[], rfl, SHas.zero e2, fun _ h => by cases h⟩, ⟨[], rfl, SHas.zero e4, fun _ h => by cases h⟩⟩
/-- What is left behind a clearing. -/
def lef (l : List Wt) (q u : Int) (v : List Int) (idx : Int) : List Wt := l.filter (fun y => !bf y.p y.s y.i q u v idx)
def clX (x : X) (q u : Int) (v : List Int) (idx : Int) : X := if ck x = true then { x with wr := lef x.wr q u v idx } else x
/-- What Clear answers: the Writes are a row of its own. -/
def ClrPost (z : X) (w : World) (e : Ending) (w' : World) : Prop := ∃ va vw vm ve, e = .returned (CV z.k z.b va vw vm ve) ∧ Four w' z va vw vm ve ∧ w'.ownsRow w.heap.size 64 5 vw z.wr.length (rows Wt.cells z.wr) ∧ Below w.heap.size w w'
set_option maxHeartbeats 4000000 in
set_option maxRecDepth 100000 in
theorem clear_own (x : X) (va vw vm ve : Value) (q u : Int) (v : List Int) (t : Int) (sl : Value) (idx : Int) (w : World) (hv : v.length = 13) (h : Four w x va vw vm ve) (hs : Sm x) :
  Calls Tryz.prog 79 #[CV x.k x.b va vw vm ve, TxV q u v t sl, .int .i64 idx] w (ClrPost (clX x q u v idx) w) := by
 obtain ⟨pa, ca', pw, cw, pm, cm, pe, ce, rfl, rfl, rfl, rfl⟩ := h.slices
 have HF : Hid (Four w x (.slice pa x.am.length ca') (.slice pw x.wr.length cw) (.slice pm x.mb.length cm) (.slice pe x.el.length ce)) := h
 clear h
 obtain ⟨z, HZ⟩ := hid_ex (clX x q u v idx)
 rw [HZ.out]
 have R0 := (((rw_new w 27 (cvc x.k x.b (.slice pa x.am.length ca') (.slice pw x.wr.length cw) (.slice pm x.mb.length cm) (.slice pe x.el.length ce))).alloc (.cells (txc q u v t sl).toArray 34)).alloc (.cells #[.int .i64 idx] 3)).alloc (.cells (cvc 0 0 (.slice none 0 0) (.slice none 0 0) (.slice none 0 0) (.slice none 0 0)) 27)
 have R1 := ((rw_new (w.alloc (.cells (cvc x.k x.b (.slice pa x.am.length ca') (.slice pw x.wr.length cw) (.slice pm x.mb.length cm) (.slice pe x.el.length ce)) 27)) 34 (txc q u v t sl).toArray).alloc (.cells #[.int .i64 idx] 3)).alloc (.cells (cvc 0 0 (.slice none 0 0) (.slice none 0 0) (.slice none 0 0) (.slice none 0 0)) 27)
 have R2 := (rw_new ((w.alloc (.cells (cvc x.k x.b (.slice pa x.am.length ca') (.slice pw x.wr.length cw) (.slice pm x.mb.length cm) (.slice pe x.el.length ce)) 27)).alloc (.cells (txc q u v t sl).toArray 34)) 3 #[.int .i64 idx]).alloc (.cells (cvc 0 0 (.slice none 0 0) (.slice none 0 0) (.slice none 0 0) (.slice none 0 0)) 27)
 have R3 := rw_new (((w.alloc (.cells (cvc x.k x.b (.slice pa x.am.length ca') (.slice pw x.wr.length cw) (.slice pm x.mb.length cm) (.slice pe x.el.length ce)) 27)).alloc (.cells (txc q u v t sl).toArray 34)).alloc (.cells #[.int .i64 idx] 3)) 27 (cvc 0 0 (.slice none 0 0) (.slice none 0 0) (.slice none 0 0) (.slice none 0 0))
 have hbel := bel_alloc (bel_alloc (bel_alloc (bel_alloc (Below.refl w.heap.size w) (.cells (cvc x.k x.b (.slice pa x.am.length ca') (.slice pw x.wr.length cw) (.slice pm x.mb.length cm) (.slice pe x.el.length ce)) 27)) (.cells (txc q u v t sl).toArray 34)) (.cells #[.int .i64 idx] 3)) (.cells (cvc 0 0 (.slice none 0 0) (.slice none 0 0) (.slice none 0 0) (.slice none 0 0)) 27)
 have hsz : ((((w.alloc (.cells (cvc x.k x.b (.slice pa x.am.length ca') (.slice pw x.wr.length cw) (.slice pm x.mb.length cm) (.slice pe x.el.length ce)) 27)).alloc (.cells (txc q u v t sl).toArray 34)).alloc (.cells #[.int .i64 idx] 3)).alloc (.cells (cvc 0 0 (.slice none 0 0) (.slice none 0 0) (.slice none 0 0) (.slice none 0 0)) 27)).heap.size = w.heap.size + 4 := by simp
 generalize hW : (((w.alloc (.cells (cvc x.k x.b (.slice pa x.am.length ca') (.slice pw x.wr.length cw) (.slice pm x.mb.length cm) (.slice pe x.el.length ce)) 27)).alloc (.cells (txc q u v t sl).toArray 34)).alloc (.cells #[.int .i64 idx] 3)).alloc (.cells (cvc 0 0 (.slice none 0 0) (.slice none 0 0) (.slice none 0 0) (.slice none 0 0)) 27) = w0 at R0 R1 R2 R3 hbel hsz
 simp only [World.size_alloc, Nat.add_assoc, Nat.reduceAdd] at R1 R2 R3
 go_enter Tryz.func79, Tryz.ntmps79
 go_wp2_with (first | rw [hW] | refine load_r 27 _ rfl rfl _ rfl R0 Tryz.underlying27 rfl size27 ?_)
 clear hW
 refine (copied_any x _ _ _ _ w0 (HF.out.later hbel) hs).mono ?_
 rintro e w1 ⟨ua, uw, um, ue, rfl, ho, hb1⟩
 obtain ⟨qa, da, qw, dw, qm, dm, qe, de, rfl, rfl, rfl, rfl⟩ := ho.four.slices
 rw [hsz] at ho
 replace R0 := R0.later hb1
 replace R1 := R1.later hb1
 replace R2 := R2.later hb1
 replace R3 := R3.later hb1
 replace hbel := below_on hbel hb1
 have hB : w.heap.size + 4 ≤ w1.heap.size := by have := hb1.size; omega
 clear hb1 hsz
 have hlt := World.ownsRow.lt ho.t
 have hbA := bel_alloc (Below.refl w1.heap.size w1) (.cells (cvc x.k x.b (.slice qa x.am.length da) (.slice qw x.wr.length dw) (.slice qm x.mb.length dm) (.slice qe x.el.length de)) 27)
 have R7 := rw_new w1 27 (cvc x.k x.b (.slice qa x.am.length da) (.slice qw x.wr.length dw) (.slice qm x.mb.length dm) (.slice qe x.el.length de))
 replace R0 := R0.later hbA
 replace R1 := R1.later hbA
 replace R2 := R2.later hbA
 replace R3 := R3.later hbA
 replace ho := ho.later hbA
 replace hbel := below_on hbel hbA
 have hne : ∀ k, (Value.slice qw x.wr.length dw).ownBlock = some k → k ≠ w1.heap.size := fun k hk => by have := (hlt k hk).2; omega
 have h7 : w.heap.size + 4 ≤ w1.heap.size := hB
 replace hB : w.heap.size + 4 ≤ (w1.alloc (.cells (cvc x.k x.b (.slice qa x.am.length da) (.slice qw x.wr.length dw) (.slice qm x.mb.length dm) (.slice qe x.el.length de)) 27)).heap.size := Nat.le_trans hB hbA.size
 clear hlt hbA
 generalize hW : w1.alloc (.cells (cvc x.k x.b (.slice qa x.am.length da) (.slice qw x.wr.length dw) (.slice qm x.mb.length dm) (.slice qe x.el.length de)) 27) = w2 at R0 R1 R2 R3 R7 ho hbel hB
 go_wp2_with (first | rw [hW] | refine load_r 27 _ rfl rfl _ rfl R0 Tryz.underlying27 rfl size27 ?_)
 clear hW
 refine (check_any x _ _ _ _ w2 (HF.out.later hbel) hs).mono ?_
 rintro e w3 ⟨rfl, hb1⟩
 replace R1 := R1.later hb1
 replace R2 := R2.later hb1
 replace R3 := R3.later hb1
 replace R7 := R7.later hb1
 replace ho := ho.later hb1
 replace hbel := below_on hbel hb1
 replace hB := Nat.le_trans hB hb1.size
 clear hb1 R0 HF
 obtain ⟨y1, HY1⟩ := hid_ex (ck x)
 rw [HY1.out]
 cases y1
 ·have HD : Hid (clX x q u v idx = x) := by
   show _ = _
   unfold clX
   rw [HY1.out]
   rfl
  rw [HD.out] at HZ
  go_wp2_with (first | refine load_r 27 _ rfl rfl _ rfl R7 Tryz.underlying27 rfl size27 ?_ | refine store_r rfl 27 _ _ rfl _ (cvc x.k x.b (.slice qa x.am.length da) (.slice qw x.wr.length dw) (.slice qm x.mb.length dm) (.slice qe x.el.length de)) rfl rfl R3 size27 rfl (by simp [Value.oneCell']) ?_)
  refine bodyPost_ret (results_r rfl rfl (R3.row (cvc x.k x.b (.slice qa x.am.length da) (.slice qw x.wr.length dw) (.slice qm x.mb.length dm) (.slice qe x.el.length de))) rfl Tryz.underlying27 size27) rfl ?_
  have e := HZ.out
  subst e
  have ho2 := ho.row (by omega) R3 (cvc x.k x.b (.slice qa x.am.length da) (.slice qw x.wr.length dw) (.slice qm x.mb.length dm) (.slice qe x.el.length de))
  exact ⟨_, _, _, _, rfl, ho2.four, own_mono ho2.t (by omega), below_setRow hbel (by omega) _⟩
 ·have HD : Hid (clX x q u v idx = { x with wr := lef x.wr q u v idx }) := by
   show _ = _
   unfold clX
   rw [HY1.out]
   rfl
  have c3 : w3.cell? ⟨w1.heap.size, 3, none⟩ = some (.slice qw x.wr.length dw) := R7.cell 3
  go_wp2_with fail
  refine (delete_any (w.heap.size + 4) _ x.wr _ _ q u v t sl idx w3 hv ho.t hs.t (by omega) (by omega) hB ⟨R1, R2⟩).mono ?_
  rintro e w4 ⟨ub, rfl, hob, hkp, hub, hb1⟩
  replace hob : w4.ownsRow (w.heap.size + 4) 64 5 ub (lef x.wr q u v idx).length (rows Wt.cells (lef x.wr q u v idx)) := hob
  obtain ⟨qb, db, rfl⟩ := own_sl hob
  have hlb := World.ownsRow.lt hob
  replace R3 : Rw w4 (w.heap.size + 3) 27 _ := (hb1.block _ (by omega)).trans R3
  replace R7 : Rw w4 w1.heap.size 27 _ := (hkp _ R7.lt (fun e => hne _ e rfl)).trans R7
  have hnb : ∀ k, (Value.slice qb (lef x.wr q u v idx).length db).ownBlock = some k → k ≠ w1.heap.size := fun k hk => by
   rcases hub with h | h
   ·rw [h] at hk
    cases hk
   ·rw [h] at hk
    exact hne k hk
  replace hbel := hbel.trans (hb1.mono (by omega))
  have hz0 := ck_parts HY1.out
  have hfz : ∀ w' : World, WHas w' (.slice qb (lef x.wr q u v idx).length db) (lef x.wr q u v idx) → Four w' { x with wr := lef x.wr q u v idx } (.slice qa x.am.length da) (.slice qb (lef x.wr q u v idx).length db) (.slice qm x.mb.length dm) (.slice qe x.el.length de) := fun w' ha => four_zero ho.four hz0.2.2.1 hz0.2.2.2.1 hz0.2.2.2.2.1 ha
  have HFZ : Hid (∀ w' : World, WHas w' (.slice qb (lef x.wr q u v idx).length db) (lef x.wr q u v idx) → Four w' { x with wr := lef x.wr q u v idx } (.slice qa x.am.length da) (.slice qb (lef x.wr q u v idx).length db) (.slice qm x.mb.length dm) (.slice qe x.el.length de)) := hfz
  clear hfz hz0 hkp hb1 hub c3 ho
  obtain ⟨m, HM⟩ := hid_ex (lef x.wr q u v idx)
  rw [HM.out] at HFZ hob hnb HD ⊢
  have c4 : w4.cell? ⟨w1.heap.size, 3, none⟩ = some (.slice qw x.wr.length dw) := R7.cell 3
  have f4 : w4.frozen? ⟨w1.heap.size, 3, none⟩ = false := R7.frozen 3
  replace R7 : Rw (w4.setCell ⟨w1.heap.size, 3, none⟩ (.slice qb m.length db)) w1.heap.size 27 (cvc x.k x.b (.slice qa x.am.length da) (.slice qb m.length db) (.slice qm x.mb.length dm) (.slice qe x.el.length de)) := R7.set 3 _
  replace R3 := R3.setOther (q := w1.heap.size) (by omega) 3 (.slice qb m.length db)
  replace hob := own_over hob (b := w1.heap.size) hnb 3 (.slice qb m.length db)
  replace hbel := hbel.setCell (p := ⟨w1.heap.size, 3, none⟩) (by show w.heap.size ≤ w1.heap.size; omega) (.slice qb m.length db)
  generalize hW : w4.setCell ⟨w1.heap.size, 3, none⟩ (.slice qb m.length db) = w5 at R7 R3 hob hbel
  go_wp2_with (first | rw [hW] | refine load_r 27 _ rfl rfl _ rfl R7 Tryz.underlying27 rfl size27 ?_ | refine store_r rfl 27 _ _ rfl _ (cvc x.k x.b (.slice qa x.am.length da) (.slice qb m.length db) (.slice qm x.mb.length dm) (.slice qe x.el.length de)) rfl rfl R3 size27 rfl (by simp [Value.oneCell']) ?_)
  refine bodyPost_ret (results_r rfl rfl (R3.row _) rfl Tryz.underlying27 size27) rfl ?_
  rw [HD.out] at HZ
  have e := HZ.out
  subst e
  have hf := own_row hob (b := w.heap.size + 3) (by omega) (cvc x.k x.b (.slice qa x.am.length da) (.slice qb m.length db) (.slice qm x.mb.length dm) (.slice qe x.el.length de))
  exact ⟨_, _, _, _, rfl, HFZ.out _ (own_sh hf), own_mono hf (by omega), below_setRow hbel (by omega) _⟩
theorem clear_any (x : X) (va vw vm ve : Value) (q u : Int) (v : List Int) (t : Int) (sl : Value) (idx : Int) (w : World) (hv : v.length = 13) (h : Four w x va vw vm ve) (hs : Sm x) :
  Calls Tryz.prog 79 #[CV x.k x.b va vw vm ve, TxV q u v t sl, .int .i64 idx] w (Gives (clX x q u v idx) w) :=
 (clear_own x va vw vm ve q u v t sl idx w hv h hs).mono fun _ _ ⟨ua, uw, um, ue, e, hf, _, hb⟩ => ⟨ua, uw, um, ue, e, hf, hb⟩
end Go.Proofs.YtjbbmcommnhgeaaGreat.Rg
/- texts, Read of package orset. -/
namespace Go.Proofs.YtjbbmcommnhgeaaGreat.Os
open Go.RowKit Go.Sort
def TtPost (l : List Bs) (w : World) (e : Ending) (w' : World) : Prop := ∃ u, e = .returned u ∧ THas w' u l ∧ Below w.heap.size w w'
theorem one_str (y : ByteArray) : ∀ u ∈ [Value.string y], u.oneCell' = true := by
 intro u hu
 rw [List.mem_singleton.1 hu]
 rfl
theorem txL_take {l : List Mb} {k : Nat} (h : k < l.length) : (txL (l.take (k + 1))).map encStr = (txL (l.take k)).map encStr ++ [.string l[k].x] := by
 unfold txL
 rw [List.take_succ_eq_append_getElem h, List.map_append, List.map_append]
 rfl
set_option maxHeartbeats 2000000 in
set_option maxRecDepth 100000 in
theorem texts_any (v : Value) (l : List Mb) (w : World) (h : BHas w v l) (hl : l.length ≤ 200) : Calls Tryz.prog 228 #[v] w (TtPost (txL l) w) := by
 obtain ⟨i0, hi, hz0, hz1, hz2⟩ := info_parts info9
 obtain ⟨ys, hys, h, hy⟩ := h
 obtain ⟨p, c, rfl⟩ := h.slice
 have hyl : ys.length = l.length := by rw [← hys, List.length_map]
 have HR : Hid (SHas 3 w (.slice p l.length c) l.length (rows Mb.cells ys)) := h
 have HY : Hid (∀ y ∈ ys, MHas w y.2 y.1.ms) := hy
 have HL : Hid (∀ k (h1 : k < ys.length) (h2 : k < l.length), ys[k].1 = l[k]) := fun k h1 h2 => by
  subst hys
  rw [List.getElem_map]
 clear h hy hys
 go_enter Tryz.func228, Tryz.ntmps228
 go_wp2
 go_loopw [3, 8] (fun vn vi wr => ∃ k : Nat, vi = .int .i64 k ∧ k ≤ l.length ∧ wr.ownsRow w.heap.size 9 1 vn k ((txL (l.take k)).map encStr) ∧ Below w.heap.size w wr) (fun _ vi _ => l.length - (intOf vi).toNat)
 case atStart => exact ⟨0, rfl, by omega, by rw [List.take_zero]; exact World.ownsRow_nil _ _ _ _, Below.refl _ _⟩
 case round =>
  obtain ⟨k, rfl, hk, hown, hbel⟩ := hrel
  obtain ⟨P, cc, rfl⟩ := own_sl hown
  by_cases hlt : k < l.length
  ·have hlt' : (k : Int) < (l.length : Int) := by omega
   obtain ⟨g, o, rfl, hd0⟩ := HR.out.at (by omega)
   have d := Mb.elem (range_later hd0 hbel) k (by omega)
   have hyk := (HY.out ys[k] (List.getElem_mem _)).later hbel
   have HT := txL_take hlt
   rw [← HL.out k (by omega) hlt] at HT
   have HTT : Hid ((txL (l.take (k + 1))).map encStr = (txL (l.take k)).map encStr ++ [.string (ys[k]'(by omega)).1.x]) := HT
   clear HT hd0
   obtain ⟨yy, HX⟩ := hid_ex (ys[k]'(by omega))
   rw [HX.out] at d hyk HTT
   obtain ⟨y, yv⟩ := yy
   replace hyk : MHas wr yv y.ms := hyk
   obtain ⟨py, cy, rfl⟩ := hyk.slice
   replace d : wr.rangeAt g (o + k * 3) [Value.string y.x, .bool y.b, .slice py y.ms.length cy] := d
   replace HTT : Hid ((txL (l.take (k + 1))).map encStr = (txL (l.take k)).map encStr ++ [.string y.x]) := HTT
   clear HX hyk
   have zb : (Tryz.prog.info? 67).map (·.size) = some [Value.string y.x, .bool y.b, .slice py y.ms.length cy].length := size67
   have R5 := rw_new wr 67 #[.string y.x, .bool y.b, .slice py y.ms.length cy]
   have hbA := bel_alloc (Below.refl wr.heap.size wr) (.cells #[.string y.x, .bool y.b, .slice py y.ms.length cy] 67)
   have hBg : ∀ q', (Value.slice P k cc).ownBlock = some q' → w.heap.size ≤ q' := fun q' hq => (World.ownsRow.lt hown q' hq).1
   replace hown := own_later hown hbA
   replace hbel := below_on hbel hbA
   generalize hW : wr.alloc (.cells #[.string y.x, .bool y.b, .slice py y.ms.length cy] 67) = w1 at R5 hown hbel
   have cx : w1.cell? ⟨wr.heap.size, 0, none⟩ = some (.string y.x) := R5.cell 0
   clear hbA
   go_wp2_with (first
    | rw [hW]
    | refine load_m 67 _ rfl rfl _ _ rfl d Tryz.underlying67 rfl zb ?_
    | (at_builtin; refine wpList_append_own _ rfl _ _ 43 rfl w.heap.size 9 i0 (.string noS) 1 16 Tryz.underlying43 hi hz0 hz1 hz2 rfl (by decide) _ _ _ rfl (hown.alloc _) ⟨w1.heap.size, 0, none⟩ 1 1 [.string y.x] rfl rfl ?c1 ?c2 ?c3 ?c4 ?c5 ?_))
   case c1 => exact fun q u hq => (cells_next _ (by simp) _ _ _).trans hq
   case c2 => exact one_str y.x
   case c3 => unfold maxLen; omega
   case c4 => omega
   case c5 => have := hbel.size; simp; omega
   intro v2 w6 hown6 hg6 _
   go_wp2_with fail
   go_roundw
   case rel => exact ⟨k + 1, by simp, by omega, by rw [HTT.out]; exact hown6, (bel_alloc hbel _).grown hg6 (by have := hbel.size; simp; omega) (fun q' hq => hBg q' hq)⟩
   case measure => simp [intOf]; omega
  ·have hlt' : ¬ (k : Int) < (l.length : Int) := by omega
   obtain rfl : k = l.length := by omega
   rw [List.take_length] at hown
   have hsh := own_sh hown
   have HS : Hid (SHas 1 wr (.slice P l.length cc) l.length ((txL l).map encStr)) := hsh
   clear HR HY HL hown hsh
   go_wp2_with fail
   go_ret
   refine ⟨_, rfl, ?_, hbel⟩
   show SHas 1 _ _ (txL l).length _
   rw [show (txL l).length = l.length by simp [txL]]
   exact HS.out
/-- What is read. -/
def rdK (x : X) : Int := if ck x = true then 4 else 0
def rdT (x : X) : List Bs := if ck x = true then txL x.mb else []
def RdPost (x : X) (w : World) (e : Ending) (w' : World) : Prop := ∃ u, e = .returned (VV (rdK x) u) ∧ THas w' u (rdT x) ∧ Below w.heap.size w w'
def thP (l : List Bs) : Value → World → Prop := fun u w => THas w u l
theorem thP_keeps (l : List Bs) : Keeps (thP l) := fun _ _ _ h hb => h.later hb
set_option maxHeartbeats 2000000 in
set_option maxRecDepth 100000 in
theorem read_any (x : X) (va vw vm ve : Value) (w : World) (h : Four w x va vw vm ve) (hs : Sm x) : Calls Tryz.prog 227 #[CV x.k x.b va vw vm ve] w (RdPost x w) := by
 obtain ⟨pa, ca', pw, cw, pm, cm, pe, ce, rfl, rfl, rfl, rfl⟩ := h.slices
 have HF : Hid (Four w x (.slice pa x.am.length ca') (.slice pw x.wr.length cw) (.slice pm x.mb.length cm) (.slice pe x.el.length ce)) := h
 clear h
 have R0 := (rw_new w 27 (cvc x.k x.b (.slice pa x.am.length ca') (.slice pw x.wr.length cw) (.slice pm x.mb.length cm) (.slice pe x.el.length ce))).alloc (.cells #[.int .i64 0, .int .i64 0, .slice none 0 0, .slice none 0 0] 46)
 have R1 := rw_new (w.alloc (.cells (cvc x.k x.b (.slice pa x.am.length ca') (.slice pw x.wr.length cw) (.slice pm x.mb.length cm) (.slice pe x.el.length ce)) 27)) 46 #[.int .i64 0, .int .i64 0, .slice none 0 0, .slice none 0 0]
 have hbel := bel_alloc (bel_alloc (Below.refl w.heap.size w) (.cells (cvc x.k x.b (.slice pa x.am.length ca') (.slice pw x.wr.length cw) (.slice pm x.mb.length cm) (.slice pe x.el.length ce)) 27)) (.cells #[.int .i64 0, .int .i64 0, .slice none 0 0, .slice none 0 0] 46)
 generalize hW : (w.alloc (.cells (cvc x.k x.b (.slice pa x.am.length ca') (.slice pw x.wr.length cw) (.slice pm x.mb.length cm) (.slice pe x.el.length ce)) 27)).alloc (.cells #[.int .i64 0, .int .i64 0, .slice none 0 0, .slice none 0 0] 46) = w0 at R0 R1 hbel
 simp only [World.size_alloc] at R1
 have HP : Hid (∀ e w', RdPost x w e w' ↔ ∃ u, e = .returned (VV (rdK x) u) ∧ THas w' u (rdT x) ∧ Below w.heap.size w w') := fun _ _ => Iff.rfl
 go_enter Tryz.func227, Tryz.ntmps227
 go_wp2_with (first | rw [hW] | refine load_r 27 _ rfl rfl _ rfl R0 Tryz.underlying27 rfl size27 ?_)
 clear hW
 refine (check_any x _ _ _ _ w0 (HF.out.later hbel) hs).mono ?_
 rintro e w1 ⟨rfl, hb1⟩
 replace R0 := R0.later hb1
 replace R1 := R1.later hb1
 replace hbel := below_on hbel hb1
 clear hb1
 obtain ⟨y1, HY1⟩ := hid_ex (ck x)
 have HK : Hid (rdK x = if y1 = true then 4 else 0) := by show _ = _; unfold rdK; rw [HY1.out]
 have HT : Hid (rdT x = if y1 = true then txL x.mb else []) := by show _ = _; unfold rdT; rw [HY1.out]
 rw [HY1.out]
 clear HY1
 cases y1
 ·have hz : (cvc 0 0 (.slice none 0 0) (.slice none 0 0) (.slice none 0 0) (.slice none 0 0)).size = 6 := rfl
  go_wp2_with (first | refine store_r rfl 46 _ _ rfl _ #[.int .i64 0, .int .i64 0, .slice none 0 0, .slice none 0 0] rfl rfl R1 size46 rfl (by simp [Value.oneCell']) ?_)
  refine bodyPost_ret (results_r rfl rfl (R1.row _) rfl Tryz.underlying46 size46) rfl ?_
  rw [HP.out, HK.out, HT.out]
  exact ⟨_, rfl, THas.nil _, below_setRow hbel (by omega) _⟩
 ·have c4 : w1.cell? ⟨w.heap.size, 4, none⟩ = some (.slice pm x.mb.length cm) := R0.cell 4
  go_wp2_with fail
  refine (texts_any _ x.mb w1 (HF.out.m.later hbel) (by have := hs.m; omega)).mono ?_
  rintro e w2 ⟨ut, rfl, ht, hb2⟩
  obtain ⟨pt, ct, rfl⟩ := ht.slice
  replace R1 := R1.later hb2
  replace hbel := below_on hbel hb2
  go_wp2_with (first | refine store_r rfl 46 _ _ rfl _ #[.int .i64 4, .int .i64 0, .slice pt (txL x.mb).length ct, .slice none 0 0] rfl rfl R1 size46 rfl (by simp [Value.oneCell']) ?_)
  refine bodyPost_ret (results_r rfl rfl (R1.row _) rfl Tryz.underlying46 size46) rfl ?_
  rw [HP.out, HK.out, HT.out]
  exact ⟨_, rfl, ht.rowV R1 _, below_setRow hbel (by omega) _⟩
end Go.Proofs.YtjbbmcommnhgeaaGreat.Os
/- Del and Clear of package orset. -/
namespace Go.Proofs.YtjbbmcommnhgeaaGreat.Os
open Go.RowKit Go.Sort
theorem one_in (s : Bs) : (fun y : Mb => decide (tx y ∈ [s])) = fun y => decide (tx y = s) := funext fun y => by simp
set_option maxHeartbeats 4000000 in
set_option maxRecDepth 100000 in
theorem del_any (x : X) (va vw vm ve : Value) (q u : Int) (v : List Int) (t : Int) (sl : Value) (idx : Int) (s : ByteArray) (w : World) (hv : v.length = 13) (h : Four w x va vw vm ve) (hs : Sm x) (hx : s.size ≤ 1000) :
  Calls Tryz.prog 41 #[CV x.k x.b va vw vm ve, TxV q u v t sl, .int .i64 idx, .string s] w (Gives (delX x q u v idx s) w) := by
 obtain ⟨pa, ca', pw, cw, pm, cm, pe, ce, rfl, rfl, rfl, rfl⟩ := h.slices
 have HF : Hid (Four w x (.slice pa x.am.length ca') (.slice pw x.wr.length cw) (.slice pm x.mb.length cm) (.slice pe x.el.length ce)) := h
 clear h
 have R0 := ((rw_new w 27 (cvc x.k x.b (.slice pa x.am.length ca') (.slice pw x.wr.length cw) (.slice pm x.mb.length cm) (.slice pe x.el.length ce))).alloc (.cells (txc q u v t sl).toArray 34)).alloc (.cells (cvc 0 0 (.slice none 0 0) (.slice none 0 0) (.slice none 0 0) (.slice none 0 0)) 27)
 have R1 := (rw_new (w.alloc (.cells (cvc x.k x.b (.slice pa x.am.length ca') (.slice pw x.wr.length cw) (.slice pm x.mb.length cm) (.slice pe x.el.length ce)) 27)) 34 (txc q u v t sl).toArray).alloc (.cells (cvc 0 0 (.slice none 0 0) (.slice none 0 0) (.slice none 0 0) (.slice none 0 0)) 27)
 have R2 := rw_new ((w.alloc (.cells (cvc x.k x.b (.slice pa x.am.length ca') (.slice pw x.wr.length cw) (.slice pm x.mb.length cm) (.slice pe x.el.length ce)) 27)).alloc (.cells (txc q u v t sl).toArray 34)) 27 (cvc 0 0 (.slice none 0 0) (.slice none 0 0) (.slice none 0 0) (.slice none 0 0))
 have hbel := bel_alloc (bel_alloc (bel_alloc (Below.refl w.heap.size w) (.cells (cvc x.k x.b (.slice pa x.am.length ca') (.slice pw x.wr.length cw) (.slice pm x.mb.length cm) (.slice pe x.el.length ce)) 27)) (.cells (txc q u v t sl).toArray 34)) (.cells (cvc 0 0 (.slice none 0 0) (.slice none 0 0) (.slice none 0 0) (.slice none 0 0)) 27)
 have hsz : (((w.alloc (.cells (cvc x.k x.b (.slice pa x.am.length ca') (.slice pw x.wr.length cw) (.slice pm x.mb.length cm) (.slice pe x.el.length ce)) 27)).alloc (.cells (txc q u v t sl).toArray 34)).alloc (.cells (cvc 0 0 (.slice none 0 0) (.slice none 0 0) (.slice none 0 0) (.slice none 0 0)) 27)).heap.size = w.heap.size + 3 := by simp
 generalize hW : ((w.alloc (.cells (cvc x.k x.b (.slice pa x.am.length ca') (.slice pw x.wr.length cw) (.slice pm x.mb.length cm) (.slice pe x.el.length ce)) 27)).alloc (.cells (txc q u v t sl).toArray 34)).alloc (.cells (cvc 0 0 (.slice none 0 0) (.slice none 0 0) (.slice none 0 0) (.slice none 0 0)) 27) = w0 at R0 R1 R2 hbel hsz
 simp only [World.size_alloc, Nat.add_assoc, Nat.reduceAdd] at R1 R2
 have zt := size_tx (p := q) (s := u) (t := t) (sl := sl) hv
 obtain ⟨z, HZ⟩ := hid_ex (delX x q u v idx s)
 rw [HZ.out]
 have hbA := bel_alloc (Below.refl w0.heap.size w0) (.cells #[.string s] 43)
 have HT : Hid (THas (w0.alloc (.cells #[.string s] 9)) (.slice (some ⟨w0.heap.size, 0, none⟩) 1 1) [bs s]) := ⟨by show 1 ≤ maxLen; unfold maxLen; omega, rfl, .inr ⟨_, 1, rfl, ⟨Nat.le_refl _, by unfold maxLen; omega⟩, fun _ => ⟨_, 0, rfl, Rw.whole (rw_new w0 9 #[.string s])⟩⟩⟩
 have C : Calls Tryz.prog 85 #[CV x.k x.b (.slice pa x.am.length ca') (.slice pw x.wr.length cw) (.slice pm x.mb.length cm) (.slice pe x.el.length ce), TxV q u v t sl, .int .i64 idx, .slice (some ⟨w0.heap.size, 0, none⟩) 1 1] (w0.alloc (.cells #[.string s] 9)) (Gives z (w0.alloc (.cells #[.string s] 9))) := by
  have := without_any x _ _ _ _ q u v t sl idx _ [bs s] (w0.alloc (.cells #[.string s] 9)) hv (HF.out.later (below_on hbel (bel_alloc (Below.refl _ _) _))) hs HT.out (by simp) (fun _ s' hs' => by
   rw [List.mem_singleton.1 hs']
   simpa using hx)
  rw [one_in] at this
  rw [← HZ.out]
  exact this
 have HSZ : Hid (w0.heap.size = w.heap.size + 3) := hsz
 clear hsz hbA
 go_enter Tryz.func41, Tryz.ntmps41
 go_wp2_with (first | rw [hW] | refine load_r 27 _ rfl rfl _ rfl R0 Tryz.underlying27 rfl size27 ?_ | refine load_r 34 _ rfl rfl _ rfl R1 Tryz.underlying34 rfl zt ?_)
 clear hW
 refine C.mono ?_
 rintro e w1 ⟨ua, uw, um, ue, rfl, hf, hb1⟩
 obtain ⟨na, ea, nw, ew, nm, em, ne, ee, rfl, rfl, rfl, rfl⟩ := hf.slices
 have hb2 := below_on (bel_alloc (Below.refl w0.heap.size w0) (.cells #[.string s] 9)) hb1
 replace R2 := R2.later hb2
 replace hbel := below_on hbel hb2
 clear C hb1 hb2 R0 R1
 go_wp2_with (first | refine store_r rfl 27 _ _ rfl _ (cvc z.k z.b (.slice na z.am.length ea) (.slice nw z.wr.length ew) (.slice nm z.mb.length em) (.slice ne z.el.length ee)) rfl rfl R2 size27 rfl (by simp [Value.oneCell']) ?_)
 refine bodyPost_ret (results_r rfl rfl (R2.row _) rfl Tryz.underlying27 size27) rfl ?_
 exact ⟨_, _, _, _, rfl, hf.row R2 _, below_setRow hbel (by omega) _⟩
end Go.Proofs.YtjbbmcommnhgeaaGreat.Os
/- Clear of package orset. -/
namespace Go.Proofs.YtjbbmcommnhgeaaGreat.Os
open Go.RowKit
open Go.Sort
theorem wo_congr {G H : Mb → Bool} (p : M → Bool) {l : List Mb} (h : ∀ y ∈ l, G y = H y) : wo G p l = wo H p l := by
 unfold wo
 induction l with
 | nil => rfl
 | cons y l ih =>
  rw [List.filterMap_cons, List.filterMap_cons, h y (by simp), ih (fun z hz => h z (by simp [hz]))]
theorem woX_congr {G H : Mb → Bool} (p : M → Bool) {x : X} (i : Int) (h : ∀ y ∈ x.mb, G y = H y) : woX x i G p = woX x i H p := by
 unfold woX
 rw [wo_congr p h]
theorem ck_text {x : X} (h : ck x = true) : ∀ y ∈ x.mb, y.x.size ≤ 64 := fun y hy => by
 have h1 := ((cb_pair _).1 (ck_parts h).2.2.2.2.2).1 y hy
 unfold ib at h1
 simp only [Bool.and_eq_true, decide_eq_true_eq] at h1
 exact h1.2.1
set_option maxHeartbeats 4000000 in
set_option maxRecDepth 100000 in
theorem clear_any (x : X) (va vw vm ve : Value) (q u : Int) (v : List Int) (t : Int) (sl : Value) (idx : Int) (w : World) (hv : v.length = 13) (h : Four w x va vw vm ve) (hs : Sm x) :
  Calls Tryz.prog 225 #[CV x.k x.b va vw vm ve, TxV q u v t sl, .int .i64 idx] w (Gives (clX x q u v idx) w) := by
 obtain ⟨pa, ca', pw, cw, pm, cm, pe, ce, rfl, rfl, rfl, rfl⟩ := h.slices
 have HF : Hid (Four w x (.slice pa x.am.length ca') (.slice pw x.wr.length cw) (.slice pm x.mb.length cm) (.slice pe x.el.length ce)) := h
 clear h
 have R0 := ((rw_new w 27 (cvc x.k x.b (.slice pa x.am.length ca') (.slice pw x.wr.length cw) (.slice pm x.mb.length cm) (.slice pe x.el.length ce))).alloc (.cells (txc q u v t sl).toArray 34)).alloc (.cells (cvc 0 0 (.slice none 0 0) (.slice none 0 0) (.slice none 0 0) (.slice none 0 0)) 27)
 have R1 := (rw_new (w.alloc (.cells (cvc x.k x.b (.slice pa x.am.length ca') (.slice pw x.wr.length cw) (.slice pm x.mb.length cm) (.slice pe x.el.length ce)) 27)) 34 (txc q u v t sl).toArray).alloc (.cells (cvc 0 0 (.slice none 0 0) (.slice none 0 0) (.slice none 0 0) (.slice none 0 0)) 27)
 have R2 := rw_new ((w.alloc (.cells (cvc x.k x.b (.slice pa x.am.length ca') (.slice pw x.wr.length cw) (.slice pm x.mb.length cm) (.slice pe x.el.length ce)) 27)).alloc (.cells (txc q u v t sl).toArray 34)) 27 (cvc 0 0 (.slice none 0 0) (.slice none 0 0) (.slice none 0 0) (.slice none 0 0))
 have hbel := bel_alloc (bel_alloc (bel_alloc (Below.refl w.heap.size w) (.cells (cvc x.k x.b (.slice pa x.am.length ca') (.slice pw x.wr.length cw) (.slice pm x.mb.length cm) (.slice pe x.el.length ce)) 27)) (.cells (txc q u v t sl).toArray 34)) (.cells (cvc 0 0 (.slice none 0 0) (.slice none 0 0) (.slice none 0 0) (.slice none 0 0)) 27)
 have hsz : (((w.alloc (.cells (cvc x.k x.b (.slice pa x.am.length ca') (.slice pw x.wr.length cw) (.slice pm x.mb.length cm) (.slice pe x.el.length ce)) 27)).alloc (.cells (txc q u v t sl).toArray 34)).alloc (.cells (cvc 0 0 (.slice none 0 0) (.slice none 0 0) (.slice none 0 0) (.slice none 0 0)) 27)).heap.size = w.heap.size + 3 := by simp
 generalize hW : ((w.alloc (.cells (cvc x.k x.b (.slice pa x.am.length ca') (.slice pw x.wr.length cw) (.slice pm x.mb.length cm) (.slice pe x.el.length ce)) 27)).alloc (.cells (txc q u v t sl).toArray 34)).alloc (.cells (cvc 0 0 (.slice none 0 0) (.slice none 0 0) (.slice none 0 0) (.slice none 0 0)) 27) = w0 at R0 R1 R2 hbel hsz
 simp only [World.size_alloc, Nat.add_assoc, Nat.reduceAdd] at R1 R2
 have zt := size_tx (p := q) (s := u) (t := t) (sl := sl) hv
 obtain ⟨z, HZ⟩ := hid_ex (clX x q u v idx)
 rw [HZ.out]
 have HE : Hid (woX x idx (fun y => decide (tx y ∈ txL x.mb)) (bfP q u v idx) = z) := by
  show _ = _
  rw [← HZ.out]
  exact woX_congr _ _ (fun y hy => decide_eq_true (List.mem_map_of_mem hy))
 have C : ∀ (w' : World) (ug : Value), Below w0.heap.size w0 w' → THas w' ug (txL x.mb) → Calls Tryz.prog 85 #[CV x.k x.b (.slice pa x.am.length ca') (.slice pw x.wr.length cw) (.slice pm x.mb.length cm) (.slice pe x.el.length ce), TxV q u v t sl, .int .i64 idx, ug] w' (Gives z w') := fun w' ug hb hg => by
  have := without_any x _ _ _ _ q u v t sl idx ug (txL x.mb) w' hv (HF.out.later (below_on hbel hb)) hs hg (by have := hs.m; simp [txL]; omega) (fun hc s' hs' => by
   obtain ⟨y, hy, rfl⟩ := List.mem_map.1 hs'
   have := ck_text hc y hy
   have e : (tx y).length = y.x.size := by simp [tx, bs]
   omega)
  rw [HE.out] at this
  exact this
 have HSZ : Hid (w0.heap.size = w.heap.size + 3) := hsz
 clear hsz HZ HE
 have zx : (Tryz.prog.info? 27).map (·.size) = some ([Value.int .i64 x.k, .int .i64 x.b, .slice pa x.am.length ca', .slice pw x.wr.length cw, .slice pm x.mb.length cm, .slice pe x.el.length ce] : List Value).length := size27
 have ztx : (Tryz.prog.info? 34).map (·.size) = some (txc q u v t sl).length := by rw [txc_length hv]; exact size34
 go_enter Tryz.func225, Tryz.ntmps225
 go_wp2_with (first | rw [hW])
 clear hW
 have hS : Calm.Stays (fun w' => Below w0.heap.size w0 w') := fun wa wb h hb => below_on h hb
 have hF : Facts.Stay [pF 0 (eqP (.agg ([Value.int .i64 x.k, .int .i64 x.b, .slice pa x.am.length ca', .slice pw x.wr.length cw, .slice pm x.mb.length cm, .slice pe x.el.length ce] : List Value).toArray)), pF 1 (eqP (.agg (txc q u v t sl).toArray)), pF 2 (eqP (.int .i64 idx)), pF 3 (eqP (.pointer (some ⟨w.heap.size, 4, none⟩))), pF 4 (eqP (.slice pm x.mb.length cm)), pF 5 (thP (txL x.mb)), pF 6 (cP z)] := stay_of (by simp only [List.forall_mem_cons]; exact ⟨⟨_, _, rfl, eqP_keeps _⟩, ⟨_, _, rfl, eqP_keeps _⟩, ⟨_, _, rfl, eqP_keeps _⟩, ⟨_, _, rfl, eqP_keeps _⟩, ⟨_, _, rfl, eqP_keeps _⟩, ⟨_, _, rfl, thP_keeps _⟩, ⟨_, _, rfl, cP_keeps _⟩, fun _ h => by cases h⟩)
 refine Facts.regionTail (by kernel_rfl) (by kernel_rfl) 7 (by decide) (by kernel_rfl) (fun w' => Below w0.heap.size w0 w') (fun xv => { tmps := #[CV x.k x.b (Value.slice pa x.am.length ca') (Value.slice pw x.wr.length cw) (Value.slice pm x.mb.length cm) (Value.slice pe x.el.length ce), TxV q u v t sl, Value.int IntKind.i64 idx, Value.pointer (some { block := w.heap.size, off := 0 }), Value.pointer (some { block := w.heap.size + 1, off := 0 }), undef, Value.pointer (some { block := w.heap.size + 1 + 1, off := 0 }), xv 0, xv 1, xv 2, xv 3, xv 4, xv 5, xv 6], defers := [] }) [pF 0 (eqP (.agg ([Value.int .i64 x.k, .int .i64 x.b, .slice pa x.am.length ca', .slice pw x.wr.length cw, .slice pm x.mb.length cm, .slice pe x.el.length ce] : List Value).toArray)), pF 1 (eqP (.agg (txc q u v t sl).toArray)), pF 2 (eqP (.int .i64 idx)), pF 3 (eqP (.pointer (some ⟨w.heap.size, 4, none⟩))), pF 4 (eqP (.slice pm x.mb.length cm)), pF 5 (thP (txL x.mb)), pF 6 (cP z)] _ rfl rfl (by kernel_rfl) (fun j => [undef, undef, undef, undef, undef, undef, undef].getD j undef) rfl (Below.refl _ w0).drew ⟨?_, ?_, ?_, ?_, ?_, ?_, ?_, ?_, trivial⟩ ?_
 ·exact fun _ => Facts.loadP hS hF (fun _ _ => rfl) 27 Tryz.underlying27 rfl zx _ rfl rfl (fun xv wv hSw hd => by rfl) (fun wv hSw => Rw.whole (cs := [Value.int .i64 x.k, .int .i64 x.b, .slice pa x.am.length ca', .slice pw x.wr.length cw, .slice pm x.mb.length cm, .slice pe x.el.length ce]) (R0.later hSw))
 ·exact fun _ => Facts.loadP hS hF (fun _ _ => rfl) 34 Tryz.underlying34 rfl ztx _ rfl rfl (fun xv wv hSw hd => by rfl) (fun wv hSw => Rw.whole (cs := (txc q u v t sl)) (R1.later hSw))
 ·exact fun _ => Facts.pureP hS hF (fun _ _ => rfl) rfl (fun xv wv hSw hd => by
   go_simp)
 ·exact fun _ => Facts.pureP hS hF (fun _ _ => rfl) rfl (fun xv wv hSw hd => by
   go_simp)
 ·exact fun _ => Facts.pureP hS hF (fun _ _ => rfl) rfl (fun xv wv hSw hd => by
   have d3 : xv 3 = _ := pF_get (hd ⟨3, .data⟩ (by simp) rfl _ rfl)
   have g1 : w0.cell? ⟨w.heap.size, 4, none⟩ = some (.slice pm x.mb.length cm) := R0.cell 4
   have g2 := cell_later hSw g1
   simp only [d3]
   go_simp)
 ·refine fun _ => Facts.call1P hS hF (fun _ _ => rfl) rfl (by kernel_rfl) rfl (fun xv wv hSw hd => ?_)
  have d4 : xv 4 = _ := pF_get (hd ⟨4, .data⟩ (by simp) rfl _ rfl)
  show Calls Tryz.prog 228 #[xv 4] wv _
  rw [d4]
  refine (texts_any _ x.mb wv (HF.out.m.later (below_on hbel hSw)) (by have := hs.m; omega)).mono ?_
  rintro e w' ⟨u, he, ht, hb⟩
  exact ⟨u, he, ht, hb⟩
 ·refine fun _ => Facts.call4P hS hF (fun _ _ => rfl) rfl (by kernel_rfl) rfl (fun xv wv hSw hd => ?_)
  have d0 : xv 0 = _ := pF_get (hd ⟨0, .data⟩ (by simp) rfl _ rfl)
  have d1 : xv 1 = _ := pF_get (hd ⟨1, .data⟩ (by simp) rfl _ rfl)
  have d2 : xv 2 = _ := pF_get (hd ⟨2, .data⟩ (by simp) rfl _ rfl)
  have d5 := pF_get (hd ⟨5, .data⟩ (by simp) rfl _ rfl)
  show Calls Tryz.prog 85 #[xv 0, xv 1, xv 2, xv 5] wv _
  rw [d0, d1, d2]
  exact (C wv _ hSw d5).mono fun e w' h => gives_p h
 ·exact fun h => absurd h (by decide)
 intro x9 w5 hb5 hf
 have e6 := pF_get (hf 6 _ rfl)
 obtain ⟨ua, uw, um, ue, ez, hz⟩ := e6
 obtain ⟨na, ea, nw, ew, nm, em, ne, ee, rfl, rfl, rfl, rfl⟩ := hz.slices
 replace R2 := R2.later hb5
 replace hbel := below_on hbel hb5
 clear hS hF hf C R0 R1
 refine tail_store 27 _ _ rfl (w.heap.size + 2) 0 rfl (show _ = CV z.k z.b (.slice na z.am.length ea) (.slice nw z.wr.length ew) (.slice nm z.mb.length em) (.slice ne z.el.length ee) from ez) (R2.store (cvc z.k z.b (.slice na z.am.length ea) (.slice nw z.wr.length ew) (.slice nm z.mb.length em) (.slice ne z.el.length ee)) size27 rfl (by simp [Value.oneCell'])) ?_
 refine Facts.tailWp_nil ?_
 go_wp2_with fail
 refine bodyPost_ret (results_r rfl rfl (R2.row (cvc z.k z.b (.slice na z.am.length ea) (.slice nw z.wr.length ew) (.slice nm z.mb.length em) (.slice ne z.el.length ee))) rfl Tryz.underlying27 size27) rfl ?_
 exact ⟨_, _, _, _, rfl, hz.row R2 _, below_setRow hbel (by omega) _⟩
end Go.Proofs.YtjbbmcommnhgeaaGreat.Os
