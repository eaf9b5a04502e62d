import Derived.Test.YtjbbmcommnhgeaaGreatPk12
set_option maxRecDepth 100000
set_option maxHeartbeats 8000000
namespace Go.Proofs.YtjbbmcommnhgeaaGreat.Ct
open Go.RowKit
theorem four_zero {w w' : World} {x : X} {va vw vm ve : Value} (h : Four w x va vw vm ve) (h1 : x.wr.length = 0) (h2 : x.mb.length = 0) (h3 : x.el.length = 0) {va' : Value} {l : List A} (ha : AHas w' va' l) : Four w' { x with am := l } va' vw vm ve := by
 obtain ⟨k, b, am, wr, mb, el⟩ := x
 obtain rfl := List.eq_nil_of_length_eq_zero h1
 obtain rfl := List.eq_nil_of_length_eq_zero h2
 obtain rfl := List.eq_nil_of_length_eq_zero h3
 obtain ⟨_, ht, ⟨ms, e1, e2, _⟩, ⟨es, e3, e4, _⟩⟩ := h
 obtain rfl := List.map_eq_nil_iff.1 e1
 obtain rfl := List.map_eq_nil_iff.1 e3
 exact ⟨ha, SHas.zero ht, ⟨[], rfl, SHas.zero e2, fun _ h => by cases h⟩, ⟨[], rfl, SHas.zero e4, fun _ h => by cases h⟩⟩
def doX (x : X) (a : A) : X := if (ck x && (ia a.i a.n && !has a x.am)) = true then { x with am := insF a x.am } else x
theorem do_any (x : X) (va vw vm ve : Value) (p s : Int) (u : List Int) (t : Int) (sl : Value) (i n : Int) (w : World) (_hu : u.length = 13) (h : Four w x va vw vm ve) (hs : Sm x) :
  Calls Tryz.prog 38 #[CV x.k x.b va vw vm ve, TxV p s u t sl, .int .i64 i, .int .i64 n] w (Gives (doX x ⟨p, s, i, n⟩) w) := by
 obtain ⟨pa, ca', pw, cw, pm, cm, pe, ce, rfl, rfl, rfl, rfl⟩ := h.slices
 have HF : Hid (Four w x (.slice pa x.am.length ca') (.slice pw x.wr.length cw) (.slice pm x.mb.length cm) (.slice pe x.el.length ce)) := h
 clear h
 obtain ⟨z, HZ⟩ := hid_ex (doX x ⟨p, s, i, n⟩)
 rw [HZ.out]
 have R0 := ((rw_new w 27 (cx x pa ca' pw cw pm cm pe ce)).alloc (.cells (txc p s u t sl).toArray 34)).alloc (.cells z4 27)
 have R1 := (rw_new (w.alloc (.cells (cx x pa ca' pw cw pm cm pe ce) 27)) 34 (txc p s u t sl).toArray).alloc (.cells z4 27)
 have R2 := rw_new ((w.alloc (.cells (cx x pa ca' pw cw pm cm pe ce) 27)).alloc (.cells (txc p s u t sl).toArray 34)) 27 z4
 have hbel := bel_alloc (bel_alloc (bel_alloc (Below.refl w.heap.size w) (.cells (cx x pa ca' pw cw pm cm pe ce) 27)) (.cells (txc p s u t sl).toArray 34)) (.cells z4 27)
 have hsz : (((w.alloc (.cells (cx x pa ca' pw cw pm cm pe ce) 27)).alloc (.cells (txc p s u t sl).toArray 34)).alloc (.cells z4 27)).heap.size = w.heap.size + 3 := by simp
 generalize hW : ((w.alloc (.cells (cx x pa ca' pw cw pm cm pe ce) 27)).alloc (.cells (txc p s u t sl).toArray 34)).alloc (.cells z4 27) = w0 at R0 R1 R2 hbel hsz
 simp only [World.size_alloc, Nat.add_assoc, Nat.reduceAdd] at R1 R2
 have zd : (Tryz.prog.info? 29).map (·.size) = some [Value.int .i64 p, .int .i64 s].length := size29
 go_enter Tryz.func38, Tryz.ntmps38
 go_wp2_with (first | rw [hW] | refine load_m 29 _ rfl rfl _ _ rfl (tx_dot R1) Tryz.underlying29 rfl zd ?_ | refine load_r 27 _ rfl rfl _ rfl ((R0.alloc _).alloc _) Tryz.underlying27 rfl size27 ?_)
 clear hW R1
 have hb2 := bel_alloc (bel_alloc (Below.refl w0.heap.size w0) (.cells #[.int .i64 p, .int .i64 s, .int .i64 i] 50)) (.cells #[.int .i64 p, .int .i64 s, .int .i64 i, .int .i64 n] 71)
 have R3 := (rw_new w0 50 #[.int .i64 p, .int .i64 s, .int .i64 i]).alloc (.cells #[.int .i64 p, .int .i64 s, .int .i64 i, .int .i64 n] 71)
 have R4 := rw_new (w0.alloc (.cells #[.int .i64 p, .int .i64 s, .int .i64 i] 50)) 71 #[.int .i64 p, .int .i64 s, .int .i64 i, .int .i64 n]
 have hsz2 : ((w0.alloc (.cells #[.int .i64 p, .int .i64 s, .int .i64 i] 50)).alloc (.cells #[.int .i64 p, .int .i64 s, .int .i64 i, .int .i64 n] 71)).heap.size = w.heap.size + 5 := by simp [hsz]
 simp only [World.size_alloc, hsz, Nat.add_assoc, Nat.reduceAdd] at R3 R4
 replace R0 := R0.later hb2
 replace R2 := R2.later hb2
 replace hbel := below_on hbel hb2
 clear hb2 hsz
 generalize (w0.alloc (.cells #[.int .i64 p, .int .i64 s, .int .i64 i] 50)).alloc (.cells #[.int .i64 p, .int .i64 s, .int .i64 i, .int .i64 n] 71) = w2 at R0 R2 R3 R4 hbel hsz2 ⊢
 refine (copied_any x _ _ _ _ w2 (HF.out.later hbel) hs).mono ?_
 rintro e w3 ⟨ua, uw, um, ue, rfl, ho, hb1⟩
 obtain ⟨qa, da, qw, dw, qm, dm, qe, de, rfl, rfl, rfl, rfl⟩ := ho.four.slices
 rw [hsz2] at ho
 replace R0 := R0.later hb1
 replace R2 := R2.later hb1
 replace R3 := R3.later hb1
 replace R4 := R4.later hb1
 replace hbel := below_on hbel hb1
 have hB : w.heap.size + 5 ≤ w3.heap.size := by have := hb1.size; omega
 clear hb1 hsz2 HF
 have R0' := R0.row (cx x qa da qw dw qm dm qe de)
 replace ho := ho.row (b := w.heap.size) (by omega) R0 (cx x qa da qw dw qm dm qe de)
 replace R2 := R2.rowOther (q := w.heap.size) (by omega) (cx x qa da qw dw qm dm qe de)
 replace R3 := R3.rowOther (q := w.heap.size) (by omega) (cx x qa da qw dw qm dm qe de)
 replace R4 := R4.rowOther (q := w.heap.size) (by omega) (cx x qa da qw dw qm dm qe de)
 replace hbel := below_setRow hbel (g := w.heap.size) (Nat.le_refl _) (cx x qa da qw dw qm dm qe de)
 replace hB : w.heap.size + 5 ≤ (w3.setRow w.heap.size (cx x qa da qw dw qm dm qe de)).heap.size := by simpa [World.setRow] using hB
 generalize hW : w3.setRow w.heap.size (cx x qa da qw dw qm dm qe de) = w4 at R0' R2 R3 R4 hbel hB ho
 have L0 := R0'
 go_wp2_with (first | rw [hW] | refine store_r rfl 27 _ _ rfl _ (cx x qa da qw dw qm dm qe de) rfl rfl R0 size27 rfl (by simp [Value.oneCell']) ?_ | refine load_r 27 _ rfl rfl _ rfl L0 Tryz.underlying27 rfl size27 ?_)
 clear hW R0
 have R0 := R0'
 clear R0'
 refine (check_any x _ _ _ _ w4 ho.four hs).mono ?_
 rintro e w5 ⟨rfl, hb1⟩
 replace R0 := R0.later hb1
 replace R2 := R2.later hb1
 replace R3 := R3.later hb1
 replace R4 := R4.later hb1
 replace ho := ho.later hb1
 replace hbel := below_on hbel hb1
 replace hB := Nat.le_trans hB hb1.size
 clear hb1 L0
 obtain ⟨y1, HY1⟩ := hid_ex (ck x)
 rw [HY1.out]
 cases y1
 ·have HD : Hid (doX x ⟨p, s, i, n⟩ = x) := by
   show _ = _
   unfold doX
   rw [HY1.out]
   rfl
  rw [HD.out] at HZ
  go_wp2_with (first | refine load_r 27 _ rfl rfl _ rfl R0 Tryz.underlying27 rfl size27 ?_ | refine store_r rfl 27 _ _ rfl _ (cx x qa da qw dw qm dm qe de) rfl rfl R2 size27 rfl (by simp [Value.oneCell']) ?_)
  refine bodyPost_ret (results_r rfl rfl (R2.row _) rfl Tryz.underlying27 size27) rfl ?_
  have e := HZ.out
  subst e
  exact ⟨_, _, _, _, rfl, (ho.row (by omega) R2 _).four, below_setRow hbel (by omega) _⟩
 ·go_wp2_with (first | refine load_r 71 _ rfl rfl _ rfl R4 Tryz.underlying71 rfl size71 ?_)
  refine (isAmount_any p s i n w5).mono ?_
  rintro e w6 ⟨rfl, hb1⟩
  replace R0 := R0.later hb1
  replace R2 := R2.later hb1
  replace R3 := R3.later hb1
  replace R4 := R4.later hb1
  replace ho := ho.later hb1
  replace hbel := below_on hbel hb1
  replace hB := Nat.le_trans hB hb1.size
  clear hb1
  obtain ⟨y2, HY2⟩ := hid_ex (ia i n)
  rw [HY2.out]
  cases y2
  ·have HD : Hid (doX x ⟨p, s, i, n⟩ = x) := by
    show _ = _
    unfold doX
    rw [HY1.out]
    simp only [HY2.out]
    rfl
   rw [HD.out] at HZ
   go_wp2_with (first | refine load_r 27 _ rfl rfl _ rfl R0 Tryz.underlying27 rfl size27 ?_ | refine store_r rfl 27 _ _ rfl _ (cx x qa da qw dw qm dm qe de) rfl rfl R2 size27 rfl (by simp [Value.oneCell']) ?_)
   refine bodyPost_ret (results_r rfl rfl (R2.row _) rfl Tryz.underlying27 size27) rfl ?_
   have e := HZ.out
   subst e
   exact ⟨_, _, _, _, rfl, (ho.row (by omega) R2 _).four, below_setRow hbel (by omega) _⟩
  ·have c2 : w6.cell? ⟨w.heap.size, 2, none⟩ = some (.slice qa x.am.length da) := R0.cell 2
   have hpr := ((ca_pair x.am).1 (ck_parts HY1.out).2.2.2.2.2).2
   go_wp2_with (first | refine load_r 50 _ rfl rfl _ rfl R3 Tryz.underlying50 rfl size50 ?_)
   refine (find_any _ x.am ⟨p, s, i, n⟩ w6 ho.four.a hs.a hpr).mono ?_
   rintro e w7 ⟨k, rfl, hk, hins, hb1⟩
   have HI : Hid (x.am.take k ++ ⟨p, s, i, n⟩ :: x.am.drop k = insF ⟨p, s, i, n⟩ x.am) := hins
   clear hins hpr c2
   replace R0 := R0.later hb1
   replace R2 := R2.later hb1
   replace R3 := R3.later hb1
   replace R4 := R4.later hb1
   replace ho := ho.later hb1
   replace hbel := below_on hbel hb1
   replace hB := Nat.le_trans hB hb1.size
   clear hb1
   obtain ⟨y3, HY3⟩ := hid_ex (has ⟨p, s, i, n⟩ x.am)
   rw [HY3.out]
   cases y3
   ·have HD : Hid (doX x ⟨p, s, i, n⟩ = { x with am := insF ⟨p, s, i, n⟩ x.am }) := by
     show _ = _
     unfold doX
     rw [HY1.out, HY3.out]
     simp only [HY2.out]
     rfl
    have c2 : w7.cell? ⟨w.heap.size, 2, none⟩ = some (.slice qa x.am.length da) := R0.cell 2
    go_wp2_with (first | refine load_r 71 _ rfl rfl _ rfl R4 Tryz.underlying71 rfl size71 ?_)
    have hlt := World.ownsRow.lt ho.a
    refine (insert_any (w.heap.size + 5) _ x.am k w7.heap.size ⟨p, s, i, n⟩ _ (ho.a.alloc _) hk hs.a (by simp; omega) (rw_new w7 71 _) (fun q hq => by have := (hlt q hq).2; omega)).mono ?_
    rintro e w8 ⟨ub, rfl, hob, hb1⟩
    obtain ⟨qb, db, rfl⟩ := own_sl hob
    rw [HI.out] at hob
    have hz0 := ck_parts HY1.out
    have hfz : ∀ w' : World, AHas w' (.slice qb (x.am.length + 1) db) (insF ⟨p, s, i, n⟩ x.am) → Four w' { x with am := insF ⟨p, s, i, n⟩ x.am } (.slice qb (x.am.length + 1) db) (.slice qw x.wr.length dw) (.slice qm x.mb.length dm) (.slice qe x.el.length de) := fun w' ha => four_zero ho.four hz0.2.1 hz0.2.2.1 hz0.2.2.2.1 ha
    have HFZ : Hid (∀ w' : World, AHas w' (.slice qb (x.am.length + 1) db) (insF ⟨p, s, i, n⟩ x.am) → Four w' { x with am := insF ⟨p, s, i, n⟩ x.am } (.slice qb (x.am.length + 1) db) (.slice qw x.wr.length dw) (.slice qm x.mb.length dm) (.slice qe x.el.length de)) := hfz
    clear hfz hlt hz0
    replace R0 : Rw w8 w.heap.size 27 _ := (hb1.block _ (by omega)).trans (R0.alloc _)
    replace R2 : Rw w8 (w.heap.size + 2) 27 _ := (hb1.block _ (by omega)).trans (R2.alloc _)
    replace hbel := (bel_alloc hbel _).trans (hb1.mono (by omega))
    clear hb1 ho
    have c3 : w8.cell? ⟨w.heap.size, 2, none⟩ = some (.slice qa x.am.length da) := R0.cell 2
    have f3 : w8.frozen? ⟨w.heap.size, 2, none⟩ = false := R0.frozen 2
    replace R0 : Rw (w8.setCell ⟨w.heap.size, 2, none⟩ (.slice qb (x.am.length + 1) db)) w.heap.size 27 (cvc x.k x.b (.slice qb (x.am.length + 1) db) (.slice qw x.wr.length dw) (.slice qm x.mb.length dm) (.slice qe x.el.length de)) := R0.set 2 _
    replace R2 := R2.setOther (q := w.heap.size) (by omega) 2 (.slice qb (x.am.length + 1) db)
    replace hob := own_over hob (b := w.heap.size) (fun q hq => by have := (World.ownsRow.lt hob q hq).1; omega) 2 (.slice qb (x.am.length + 1) db)
    replace hbel := hbel.setCell (p := ⟨w.heap.size, 2, none⟩) (Nat.le_refl _) (.slice qb (x.am.length + 1) db)
    generalize hW : w8.setCell ⟨w.heap.size, 2, none⟩ (.slice qb (x.am.length + 1) db) = w9 at R0 R2 hob hbel
    go_wp2_with (first | rw [hW] | refine load_r 27 _ rfl rfl _ rfl R0 Tryz.underlying27 rfl size27 ?_ | refine store_r rfl 27 _ _ rfl _ (cvc x.k x.b (.slice qb (x.am.length + 1) db) (.slice qw x.wr.length dw) (.slice qm x.mb.length dm) (.slice qe x.el.length de)) rfl rfl R2 size27 rfl (by simp [Value.oneCell']) ?_)
    refine bodyPost_ret (results_r rfl rfl (R2.row _) rfl Tryz.underlying27 size27) rfl ?_
    rw [HD.out] at HZ
    have e := HZ.out
    subst e
    refine ⟨_, _, _, _, rfl, HFZ.out _ ?_, below_setRow hbel (by omega) _⟩
    have := own_sh (own_row hob (b := w.heap.size + 2) (by omega) (cvc x.k x.b (.slice qb (x.am.length + 1) db) (.slice qw x.wr.length dw) (.slice qm x.mb.length dm) (.slice qe x.el.length de)))
    unfold AHas
    rw [insF_length]
    exact this
   ·have HD : Hid (doX x ⟨p, s, i, n⟩ = x) := by
     show _ = _
     unfold doX
     rw [HY1.out, HY3.out]
     simp
    rw [HD.out] at HZ
    go_wp2_with (first | refine load_r 27 _ rfl rfl _ rfl R0 Tryz.underlying27 rfl size27 ?_ | refine store_r rfl 27 _ _ rfl _ (cx x qa da qw dw qm dm qe de) rfl rfl R2 size27 rfl (by simp [Value.oneCell']) ?_)
    refine bodyPost_ret (results_r rfl rfl (R2.row _) rfl Tryz.underlying27 size27) rfl ?_
    have e := HZ.out
    subst e
    exact ⟨_, _, _, _, rfl, (ho.row (by omega) R2 _).four, below_setRow hbel (by omega) _⟩
def lef (x : X) (q u : Int) (v : List Int) (idx : Int) : List A := x.am.filter (fun a => !bf a.p a.s a.i q u v idx)
def clX (x : X) (q u : Int) (v : List Int) (idx : Int) : X := if ck x = true then ⟨1, 0, lef x q u v idx, [], [], []⟩ else x
def rst (x : X) (v : List Int) : List A := x.am.filter (fun a => !hs v a.p a.s)
def bsX (x : X) (v : List Int) : Int := x.b + sm x.am - sm (rst x v)
def foX (x : X) (v : List Int) : X := if (ck x && wi (bsX x v) (-1152921504606846976) 1152921504606846976) = true then ⟨1, bsX x v, rst x v, [], [], []⟩ else x
theorem four_of {w : World} {va : Value} {l : List A} {k b : Int} (h : AHas w va l) : Four w ⟨k, b, l, [], [], []⟩ va (.slice none 0 0) (.slice none 0 0) (.slice none 0 0) := ⟨h, WHas.nil w, BHas.nil w, EHas.nil w⟩
theorem wrap64_id {n : Int} (h1 : -9223372036854775808 ≤ n) (h2 : n ≤ 9223372036854775807) : wrap64 n = n := by
 have := IntKind.wrap_i64 n
 unfold wrap64
 omega
theorem nb_filter {l : List A} (h : nb l) (f : A → Bool) : nb (l.filter f) := fun a ha => h a (List.mem_filter.1 ha).1
theorem clear_any (x : X) (va vw vm ve : Value) (q u : Int) (v : List Int) (t : Int) (sl : Value) (idx : Int) (w : World) (hv : v.length = 13) (h : Four w x va vw vm ve) (hs : Sm x) :
  Calls Tryz.prog 204 #[CV x.k x.b va vw vm ve, TxV q u v t sl, .int .i64 idx] w (Gives (clX x q u v idx) w) := by
 obtain ⟨pa, ca', pw, cw, pm, cm, pe, ce, rfl, rfl, rfl, rfl⟩ := h.slices
 have HF : Hid (Four w x (.slice pa x.am.length ca') (.slice pw x.wr.length cw) (.slice pm x.mb.length cm) (.slice pe x.el.length ce)) := h
 clear h
 obtain ⟨z, HZ⟩ := hid_ex (clX x q u v idx)
 rw [HZ.out]
 have R0 := (((rw_new w 27 (cx x pa ca' pw cw pm cm pe ce)).alloc (.cells (txc q u v t sl).toArray 34)).alloc (.cells #[.int .i64 idx] 3)).alloc (.cells z4 27)
 have R1 := ((rw_new (w.alloc (.cells (cx x pa ca' pw cw pm cm pe ce) 27)) 34 (txc q u v t sl).toArray).alloc (.cells #[.int .i64 idx] 3)).alloc (.cells z4 27)
 have R2 := (rw_new ((w.alloc (.cells (cx x pa ca' pw cw pm cm pe ce) 27)).alloc (.cells (txc q u v t sl).toArray 34)) 3 #[.int .i64 idx]).alloc (.cells z4 27)
 have R3 := rw_new (((w.alloc (.cells (cx x pa ca' pw cw pm cm pe ce) 27)).alloc (.cells (txc q u v t sl).toArray 34)).alloc (.cells #[.int .i64 idx] 3)) 27 z4
 have hbel := bel_alloc (bel_alloc (bel_alloc (bel_alloc (Below.refl w.heap.size w) (.cells (cx x pa ca' pw cw pm cm pe ce) 27)) (.cells (txc q u v t sl).toArray 34)) (.cells #[.int .i64 idx] 3)) (.cells z4 27)
 have hsz : ((((w.alloc (.cells (cx x pa ca' pw cw pm cm pe ce) 27)).alloc (.cells (txc q u v t sl).toArray 34)).alloc (.cells #[.int .i64 idx] 3)).alloc (.cells z4 27)).heap.size = w.heap.size + 4 := by simp
 generalize hW : (((w.alloc (.cells (cx x pa ca' pw cw pm cm pe ce) 27)).alloc (.cells (txc q u v t sl).toArray 34)).alloc (.cells #[.int .i64 idx] 3)).alloc (.cells z4 27) = w0 at R0 R1 R2 R3 hbel hsz
 simp only [World.size_alloc, Nat.add_assoc, Nat.reduceAdd] at R1 R2 R3
 go_enter Tryz.func204, Tryz.ntmps204
 go_wp2_with (first | rw [hW] | refine load_r 27 _ rfl rfl _ rfl R0 Tryz.underlying27 rfl size27 ?_)
 clear hW
 refine (check_any x _ _ _ _ w0 (HF.out.later hbel) hs).mono ?_
 rintro e w1 ⟨rfl, hb1⟩
 replace R0 := R0.later hb1
 replace R1 := R1.later hb1
 replace R2 := R2.later hb1
 replace R3 := R3.later hb1
 replace hbel := below_on hbel hb1
 have hB : w.heap.size + 4 ≤ w1.heap.size := by have := hb1.size; omega
 clear hb1 hsz
 obtain ⟨y1, HY1⟩ := hid_ex (ck x)
 rw [HY1.out]
 cases y1
 ·have HD : Hid (clX x q u v idx = x) := by
   show _ = _
   unfold clX
   rw [HY1.out]
   rfl
  rw [HD.out] at HZ
  go_wp2_with (first | refine load_r 27 _ rfl rfl _ rfl R0 Tryz.underlying27 rfl size27 ?_)
  refine (copied_any x _ _ _ _ w1 (HF.out.later hbel) hs).mono ?_
  rintro e w2 ⟨ua, uw, um, ue, rfl, ho, hb1⟩
  obtain ⟨qa, da, qw, dw, qm, dm, qe, de, rfl, rfl, rfl, rfl⟩ := ho.four.slices
  replace R3 := R3.later hb1
  replace hbel := below_on hbel hb1
  go_wp2_with (first | refine store_r rfl 27 _ _ rfl _ (cx x qa da qw dw qm dm qe de) rfl rfl R3 size27 rfl (by simp [Value.oneCell']) ?_)
  refine bodyPost_ret (results_r rfl rfl (R3.row _) rfl Tryz.underlying27 size27) rfl ?_
  have e := HZ.out
  subst e
  exact ⟨_, _, _, _, rfl, (ho.row (by omega) R3 _).four, below_setRow hbel (by omega) _⟩
 ·have HD : Hid (clX x q u v idx = ⟨1, 0, lef x q u v idx, [], [], []⟩) := by
   show _ = _
   unfold clX
   rw [HY1.out]
   rfl
  have c2 : w1.cell? ⟨w.heap.size, 2, none⟩ = some (.slice pa x.am.length ca') := R0.cell 2
  have C1 : ∀ (a : A) (w' : World), Below w1.heap.size w1 w' → Calls Tryz.prog 207 #[AV a.p a.s a.i a.n, .pointer (some ⟨w.heap.size + 1, 0, none⟩), .pointer (some ⟨w.heap.size + 2, 0, none⟩)] w' (Tells (.bool (!bf a.p a.s a.i q u v idx)) w') := fun a w' hb => clear1_any a.p a.s a.i a.n _ _ q u v t sl idx w' hv (R1.later hb) ((R2.later hb).cell 0)
  go_wp2_with fail
  refine (those27_any _ x.am (fun a => !bf a.p a.s a.i q u v idx) _ _ w1 (HF.out.a.later hbel) hs.a C1).mono ?_
  rintro e w2 ⟨ua, rfl, ho, hb1⟩
  clear C1 c2
  replace ho : w2.ownsRow w1.heap.size 71 4 ua (lef x q u v idx).length (rows A.cells (lef x q u v idx)) := ho
  obtain ⟨qa, da, rfl⟩ := own_sl ho
  replace R3 := R3.later hb1
  replace hbel := below_on hbel hb1
  have hB2 := Nat.le_trans hB hb1.size
  clear hb1
  go_wp2_with fail
  refine (cellOf_any 0 qa (lef x q u v idx).length da w2).mono ?_
  rintro e w3 ⟨rfl, hb1⟩
  replace R3 := R3.later hb1
  replace ho := own_later ho hb1
  replace hbel := below_on hbel hb1
  go_wp2_with (first | refine store_r rfl 27 _ _ rfl _ (cvc 1 0 (.slice qa (lef x q u v idx).length da) (.slice none 0 0) (.slice none 0 0) (.slice none 0 0)) rfl rfl R3 size27 rfl (by simp [Value.oneCell']) ?_)
  refine bodyPost_ret (results_r rfl rfl (R3.row _) rfl Tryz.underlying27 size27) rfl ?_
  rw [HD.out] at HZ
  have e := HZ.out
  subst e
  exact ⟨_, _, _, _, rfl, four_of (own_sh (own_row ho (b := w.heap.size + 3) (by omega) _)), below_setRow hbel (by omega) _⟩
theorem fold_any (x : X) (va vw vm ve : Value) (v : List Int) (w : World) (hv : v.length = 13) (h : Four w x va vw vm ve) (hs' : Sm x) :
  Calls Tryz.prog 205 #[CV x.k x.b va vw vm ve, V v] w (Gives (foX x v) w) := by
 obtain ⟨pa, ca', pw, cw, pm, cm, pe, ce, rfl, rfl, rfl, rfl⟩ := h.slices
 have HF : Hid (Four w x (.slice pa x.am.length ca') (.slice pw x.wr.length cw) (.slice pm x.mb.length cm) (.slice pe x.el.length ce)) := h
 clear h
 obtain ⟨z, HZ⟩ := hid_ex (foX x v)
 rw [HZ.out]
 have R0 := ((rw_new w 27 (cx x pa ca' pw cw pm cm pe ce)).alloc (.cells (vals v).toArray 31)).alloc (.cells z4 27)
 have R1 := (rw_new (w.alloc (.cells (cx x pa ca' pw cw pm cm pe ce) 27)) 31 (vals v).toArray).alloc (.cells z4 27)
 have R2 := rw_new ((w.alloc (.cells (cx x pa ca' pw cw pm cm pe ce) 27)).alloc (.cells (vals v).toArray 31)) 27 z4
 have hbel := bel_alloc (bel_alloc (bel_alloc (Below.refl w.heap.size w) (.cells (cx x pa ca' pw cw pm cm pe ce) 27)) (.cells (vals v).toArray 31)) (.cells z4 27)
 have hsz : (((w.alloc (.cells (cx x pa ca' pw cw pm cm pe ce) 27)).alloc (.cells (vals v).toArray 31)).alloc (.cells z4 27)).heap.size = w.heap.size + 3 := by simp
 generalize hW : ((w.alloc (.cells (cx x pa ca' pw cw pm cm pe ce) 27)).alloc (.cells (vals v).toArray 31)).alloc (.cells z4 27) = w0 at R0 R1 R2 hbel hsz
 simp only [World.size_alloc, Nat.add_assoc, Nat.reduceAdd] at R1 R2
 go_enter Tryz.func205, Tryz.ntmps205
 go_wp2_with (first | rw [hW] | refine load_r 27 _ rfl rfl _ rfl R0 Tryz.underlying27 rfl size27 ?_)
 clear hW
 refine (check_any x _ _ _ _ w0 (HF.out.later hbel) hs').mono ?_
 rintro e w1 ⟨rfl, hb1⟩
 replace R0 := R0.later hb1
 replace R1 := R1.later hb1
 replace R2 := R2.later hb1
 replace hbel := below_on hbel hb1
 have hB : w.heap.size + 3 ≤ w1.heap.size := by have := hb1.size; omega
 clear hb1 hsz
 obtain ⟨y1, HY1⟩ := hid_ex (ck x)
 rw [HY1.out]
 cases y1
 ·have HD : Hid (foX x v = x) := by
   show _ = _
   unfold foX
   rw [HY1.out]
   rfl
  rw [HD.out] at HZ
  go_wp2_with (first | refine load_r 27 _ rfl rfl _ rfl R0 Tryz.underlying27 rfl size27 ?_)
  refine (copied_any x _ _ _ _ w1 (HF.out.later hbel) hs').mono ?_
  rintro e w9 ⟨ua, uw, um, ue, rfl, ho, hb1⟩
  obtain ⟨qa, da, qw, dw, qm, dm, qe, de, rfl, rfl, rfl, rfl⟩ := ho.four.slices
  replace R2 := R2.later hb1
  replace hbel := below_on hbel hb1
  go_wp2_with (first | refine store_r rfl 27 _ _ rfl _ (cx x qa da qw dw qm dm qe de) rfl rfl R2 size27 rfl (by simp [Value.oneCell']) ?_)
  refine bodyPost_ret (results_r rfl rfl (R2.row _) rfl Tryz.underlying27 size27) rfl ?_
  have e := HZ.out
  subst e
  exact ⟨_, _, _, _, rfl, (ho.row (by omega) R2 _).four, below_setRow hbel (by omega) _⟩
 ·have hck := ck_parts HY1.out
  have hnb := ca_nb hck.2.2.2.2.2
  have HB1 := hck.2.2.2.2.1
  have c2 : w1.cell? ⟨w.heap.size, 2, none⟩ = some (.slice pa x.am.length ca') := R0.cell 2
  have C1 : ∀ (a : A) (w' : World), Below w1.heap.size w1 w' → Calls Tryz.prog 210 #[AV a.p a.s a.i a.n, .pointer (some ⟨w.heap.size + 1, 0, none⟩)] w' (Tells (.bool (!hs v a.p a.s)) w') := fun a w' hb => fold1_any a.p a.s a.i a.n _ v w' hv (R1.later hb)
  clear hck
  go_wp2_with fail
  refine (those40_any _ x.am (fun a => !hs v a.p a.s) _ w1 (HF.out.a.later hbel) hs'.a C1).mono ?_
  rintro e w2 ⟨ua, rfl, ho, hb1⟩
  clear C1 c2
  replace ho : w2.ownsRow w1.heap.size 71 4 ua (rst x v).length (rows A.cells (rst x v)) := ho
  obtain ⟨qa, da, rfl⟩ := own_sl ho
  replace R0 := R0.later hb1
  replace R2 := R2.later hb1
  replace hbel := below_on hbel hb1
  have hB2 := Nat.le_trans hB hb1.size
  clear hb1
  go_wp2_with (first | refine load_r 27 _ rfl rfl _ rfl R0 Tryz.underlying27 rfl size27 ?_)
  refine (total_any x.k x.b _ x.am _ _ _ _ _ _ _ _ _ w2 (HF.out.a.later hbel) hs'.a hnb HB1).mono ?_
  rintro e w3 ⟨rfl, hb1⟩
  replace R0 := R0.later hb1
  replace R2 := R2.later hb1
  replace ho := own_later ho hb1
  replace hbel := below_on hbel hb1
  replace hB2 := Nat.le_trans hB2 hb1.size
  clear hb1
  go_wp2_with fail
  refine (cellOf_any 0 qa (rst x v).length da w3).mono ?_
  rintro e w4 ⟨rfl, hb1⟩
  replace R0 := R0.later hb1
  replace R2 := R2.later hb1
  replace ho := own_later ho hb1
  replace hbel := below_on hbel hb1
  replace hB2 := Nat.le_trans hB2 hb1.size
  clear hb1
  have hln : (rst x v).length ≤ 100 := Nat.le_trans (List.length_filter_le _ _) hs'.a
  go_wp2_with fail
  refine (total_any 1 0 _ (rst x v) _ _ _ _ _ _ _ _ _ w4 (own_sh ho) hln (nb_filter hnb _) rfl).mono ?_
  rintro e w5 ⟨rfl, hb1⟩
  replace R0 := R0.later hb1
  replace R2 := R2.later hb1
  replace ho := own_later ho hb1
  replace hbel := below_on hbel hb1
  replace hB2 := Nat.le_trans hB2 hb1.size
  clear hb1
  have s1 := sm_bound _ hnb
  have s2 := sm_bound _ (nb_filter hnb (fun a => !hs v a.p a.s))
  have hsa := hs'.a
  have hbx : -1152921504606846976 ≤ x.b ∧ x.b ≤ 1152921504606846976 := by simpa [wi] using HB1
  have hwr : wrap64 (x.b + sm x.am - sm (rst x v)) = bsX x v := by
   have e : sm (rst x v) = sm (x.am.filter (fun a => !hs v a.p a.s)) := rfl
   have e2 : ((x.am.filter (fun a => !hs v a.p a.s)).length : Int) ≤ 100 := by
    have : (rst x v).length = (x.am.filter (fun a => !hs v a.p a.s)).length := rfl
    omega
   unfold bsX
   rw [e]
   exact wrap64_id (by omega) (by omega)
  clear s1 s2
  go_wp2_with fail
  rw [hwr]
  refine (isBase_any (bsX x v) w5).mono ?_
  rintro e w6 ⟨rfl, hb1⟩
  replace R0 := R0.later hb1
  replace R2 := R2.later hb1
  replace ho := own_later ho hb1
  replace hbel := below_on hbel hb1
  replace hB2 := Nat.le_trans hB2 hb1.size
  clear hb1 hwr
  obtain ⟨y2, HY2⟩ := hid_ex (wi (bsX x v) (-1152921504606846976) 1152921504606846976)
  rw [HY2.out]
  cases y2
  ·have HD : Hid (foX x v = x) := by
    show _ = _
    unfold foX
    rw [HY1.out, HY2.out]
    rfl
   rw [HD.out] at HZ
   go_wp2_with (first | refine load_r 27 _ rfl rfl _ rfl R0 Tryz.underlying27 rfl size27 ?_)
   refine (copied_any x _ _ _ _ w6 (HF.out.later hbel) hs').mono ?_
   rintro e w9 ⟨ua, uw, um, ue, rfl, ho, hb1⟩
   obtain ⟨qa, da, qw, dw, qm, dm, qe, de, rfl, rfl, rfl, rfl⟩ := ho.four.slices
   replace R2 := R2.later hb1
   replace hbel := below_on hbel hb1
   go_wp2_with (first | refine store_r rfl 27 _ _ rfl _ (cx x qa da qw dw qm dm qe de) rfl rfl R2 size27 rfl (by simp [Value.oneCell']) ?_)
   refine bodyPost_ret (results_r rfl rfl (R2.row _) rfl Tryz.underlying27 size27) rfl ?_
   have e := HZ.out
   subst e
   exact ⟨_, _, _, _, rfl, (ho.row (by omega) R2 _).four, below_setRow hbel (by omega) _⟩
  ·have HD : Hid (foX x v = ⟨1, bsX x v, rst x v, [], [], []⟩) := by
    show _ = _
    unfold foX
    rw [HY1.out, HY2.out]
    rfl
   go_wp2_with fail
   refine (cellOf_any (bsX x v) qa (rst x v).length da w6).mono ?_
   rintro e w7 ⟨rfl, hb1⟩
   replace R2 := R2.later hb1
   replace ho := own_later ho hb1
   replace hbel := below_on hbel hb1
   go_wp2_with (first | refine store_r rfl 27 _ _ rfl _ (cvc 1 (bsX x v) (.slice qa (rst x v).length da) (.slice none 0 0) (.slice none 0 0) (.slice none 0 0)) rfl rfl R2 size27 rfl (by simp [Value.oneCell']) ?_)
   refine bodyPost_ret (results_r rfl rfl (R2.row _) rfl Tryz.underlying27 size27) rfl ?_
   rw [HD.out] at HZ
   have e := HZ.out
   subst e
   exact ⟨_, _, _, _, rfl, four_of (own_sh (own_row ho (b := w.heap.size + 2) (by omega) _)), below_setRow hbel (by omega) _⟩
end Go.Proofs.YtjbbmcommnhgeaaGreat.Ct
namespace Go.Proofs.YtjbbmcommnhgeaaGreat.Rg
open Go.RowKit
abbrev WV (p s i t : Int) (x : ByteArray) : Value := .agg #[.int .i64 p, .int .i64 s, .int .i64 i, .int .i64 t, .string x]
theorem isKind_any (k : Int) (w : World) : Calls Tryz.prog 110 #[.int .i64 k] w (Tells (.bool (decide (k = 2) || decide (k = 3))) w) := by
 go_enter Tryz.func110, Tryz.ntmps110
 go_wp2
 all_goals
  go_ret
  refine tells_bool ?_ ?_
  focus (first | (simp_all; done) | grind)
  repeat refine bel_alloc ?_ _
  exact Below.refl _ _
def iw (i : Int) (x : ByteArray) : Bool := decide (1 ≤ i) && decide (x.size ≤ 64)
theorem isWrite_any (p s i t : Int) (x : ByteArray) (w : World) : Calls Tryz.prog 77 #[WV p s i t x] w (Tells (.bool (iw i x)) w) := by
 unfold iw
 go_enter Tryz.func77, Tryz.ntmps77
 go_wp2
 all_goals
  go_ret
  refine tells_bool ?_ ?_
  focus (first | (simp_all; done) | grind)
  repeat refine bel_alloc ?_ _
  exact Below.refl _ _
def lt (x y : Wt) : Bool := ls x.p x.s x.i y.p y.s y.i
def okk (l : List Wt) (k : Nat) (h : k < l.length) : Bool := iw l[k].i l[k].x && (decide (k = 0) || lt (l[k - 1]'(by omega)) l[k])
def ca (l : List Wt) : Bool := decide (∀ k (h : k < l.length), okk l k h = true)
theorem ca_iff (l : List Wt) : ca l = true ↔ ∀ k (h : k < l.length), okk l k h = true := by simp [ca]
theorem ca_not {l : List Wt} {z : Bool} (HZ : Hid (ca l = z)) {k : Nat} (h : k < l.length) (h' : okk l k h = false) : Hid (z = false) := by
 show z = false
 have hz := HZ.out
 cases z
 ·rfl
 ·rw [(ca_iff l).1 hz k h] at h'
  cases h'
theorem _root_.Go.Proofs.YtjbbmcommnhgeaaGreat.Wt.mark {w : World} {b o : Nat} {x : Wt} (h : w.rangeAt b o x.cells) : w.rangeAt b o [.int .i64 x.p, .int .i64 x.s, .int .i64 x.i] := fun j u hu => by
 refine h j u ?_
 match j, hu with
 | 0, hu => exact hu
 | 1, hu => exact hu
 | 2, hu => exact hu
 | j + 3, hu => simp at hu
theorem checkWrites_any (v : Value) (l : List Wt) (w : World) (h : WHas w v l) : Calls Tryz.prog 111 #[v] w (Tells (.bool (ca l)) w) := by
 obtain ⟨z, HZ⟩ := hid_ex (ca l)
 rw [HZ.out]
 have hml := maxLen_lt h.1
 obtain ⟨p, c, rfl⟩ := h.slice
 have HR : Hid (WHas w (.slice p l.length c) l) := h
 clear h
 go_enter Tryz.func111, Tryz.ntmps111
 go_wp2
 go_loopw [7] (fun vi wr => ∃ k : Nat, vi = .int .i64 k ∧ k ≤ l.length ∧ Hid (∀ i (h : i < l.length), i < k → okk l i h = true) ∧ Below w.heap.size w wr) (fun vi _ => l.length - (intOf vi).toNat)
 case atStart => exact ⟨0, rfl, by omega, (show ∀ i (_ : i < l.length), i < 0 → _ from fun i _ h => by omega), Below.refl _ _⟩
 case round =>
  obtain ⟨k, rfl, hk, HV, hbel⟩ := hrel
  by_cases hlt : k < l.length
  ·have hlt' : (k : Int) < (l.length : Int) := by omega
   obtain ⟨g, o, rfl, hd0⟩ := HR.out.at (by omega)
   have hd := range_later hd0 hbel
   clear hd0 HR
   have d := Wt.elem hd k hlt
   obtain ⟨x, HX⟩ := hid_ex l[k]
   rw [HX.out] at d
   have z42 : (Tryz.prog.info? 64).map (·.size) = some x.cells.length := size64
   have R := rw_new wr 64 #[.int .i64 x.p, .int .i64 x.s, .int .i64 x.i, .int .i64 x.t, .string x.x]
   replace hbel := bel_alloc hbel (.cells #[.int .i64 x.p, .int .i64 x.s, .int .i64 x.i, .int .i64 x.t, .string x.x] 64)
   have C1 := fun w => isWrite_any x.p x.s x.i x.t x.x w
   obtain ⟨y1, HY1⟩ := hid_ex (iw x.i x.x)
   rw [HY1.out] at C1
   have zm : (Tryz.prog.info? 50).map (·.size) = some [Value.int .i64 x.p, .int .i64 x.s, .int .i64 x.i].length := size50
   cases y1
   ·have HF := ca_not HZ hlt (show okk l k hlt = false by unfold okk; rw [HX.out, HY1.out]; rfl)
    have e := HF.out
    subst e
    clear HZ HF HV
    go_wp2_with (refine load_m 64 _ rfl rfl _ _ rfl d Tryz.underlying64 rfl z42 ?_)
    clear hd d
    have hs : Calm.Stays (fun w' => Rw w' wr.heap.size 64 #[.int .i64 x.p, .int .i64 x.s, .int .i64 x.i, .int .i64 x.t, .string x.x] ∧ Below w.heap.size w w') := fun wa wb h hb => ⟨h.1.later hb, below_on h.2 hb⟩
    refine Calm.region (by kernel_rfl) (by kernel_rfl) (fun w' => Rw w' wr.heap.size 64 #[.int .i64 x.p, .int .i64 x.s, .int .i64 x.i, .int .i64 x.t, .string x.x] ∧ Below w.heap.size w w') ⟨R, hbel.drew⟩ ?_
    all_goals refine Calm.lm z42 (fun _ h => Rw.whole h.1) Tryz.underlying64 ?_
    all_goals refine Calm.k1 hs (fun w1 h => C1 w1) ?_
    iterate 10 (all_goals refine Calm.sp ?_)
    all_goals first | refine Calm.sk ?_ | refine Calm.lm zm (fun _ h => Wt.mark (x := x) (Rw.whole h.1)) Tryz.underlying50 ?_
    all_goals refine Calm.sp ?_
    all_goals first | refine Calm.sk ?_ | refine Calm.lm zm (fun _ h => Wt.mark (x := x) (Rw.whole h.1)) Tryz.underlying50 ?_
    all_goals first | refine Calm.sk ?_ | refine Calm.k2 hs (fun w1 h => less_any 0 0 0 0 0 0 w1) ?_
    iterate 3 (all_goals refine Calm.sp ?_)
    all_goals
     rintro w9 ⟨_, hbel9⟩
    go_wp2_with fail
    go_ret
    exact ⟨rfl, hbel9⟩
   ·rcases Nat.eq_zero_or_pos k with rfl | hpos
    ·have HV2 : Hid (∀ i (h : i < l.length), i < 0 + 1 → okk l i h = true) := fun i h hi => by
      obtain rfl : i = 0 := by omega
      unfold okk
      rw [HX.out, HY1.out]
      rfl
     go_wp2_with (refine load_m 64 _ rfl rfl _ _ rfl d Tryz.underlying64 rfl z42 ?_)
     clear hd d HV
     have hs : Calm.Stays (fun w' => Rw w' wr.heap.size 64 #[.int .i64 x.p, .int .i64 x.s, .int .i64 x.i, .int .i64 x.t, .string x.x] ∧ Below w.heap.size w w') := fun wa wb h hb => ⟨h.1.later hb, below_on h.2 hb⟩
     refine Calm.region (by kernel_rfl) (by kernel_rfl) (fun w' => Rw w' wr.heap.size 64 #[.int .i64 x.p, .int .i64 x.s, .int .i64 x.i, .int .i64 x.t, .string x.x] ∧ Below w.heap.size w w') ⟨R, hbel.drew⟩ ?_
     all_goals refine Calm.lm z42 (fun _ h => Rw.whole h.1) Tryz.underlying64 ?_
     all_goals refine Calm.k1 hs (fun w1 h => C1 w1) ?_
     iterate 10 (all_goals refine Calm.sp ?_)
     all_goals first | refine Calm.sk ?_ | refine Calm.lm zm (fun _ h => Wt.mark (x := x) (Rw.whole h.1)) Tryz.underlying50 ?_
     all_goals refine Calm.sp ?_
     all_goals first | refine Calm.sk ?_ | refine Calm.lm zm (fun _ h => Wt.mark (x := x) (Rw.whole h.1)) Tryz.underlying50 ?_
     all_goals first | refine Calm.sk ?_ | refine Calm.k2 hs (fun w1 h => less_any 0 0 0 0 0 0 w1) ?_
     iterate 3 (all_goals refine Calm.sp ?_)
     all_goals
      rintro w9 ⟨_, hbel9⟩
     go_wp2_with fail
     go_roundw
     case rel => exact ⟨0 + 1, by simp, by omega, HV2, hbel9⟩
     case measure => simp [intOf]; omega
    ·obtain ⟨m, rfl⟩ : ∃ m, k = m + 1 := ⟨k - 1, by omega⟩
     have d2 := range_later (Wt.elem hd m (by omega)) (bel_alloc (Below.refl _ _) (.cells #[.int .i64 x.p, .int .i64 x.s, .int .i64 x.i, .int .i64 x.t, .string x.x] 64))
     obtain ⟨y, HY⟩ := hid_ex (l[m]'(by omega))
     rw [HY.out] at d2
     have zy : (Tryz.prog.info? 50).map (·.size) = some [Value.int .i64 y.p, .int .i64 y.s, .int .i64 y.i].length := size50
     have C2 := fun w => less_any y.p y.s y.i x.p x.s x.i w
     have hO : okk l (m + 1) hlt = lt y x := by
      unfold okk
      simp only [Nat.add_sub_cancel]
      rw [HX.out, HY1.out, HY.out]
      simp
     have HO : Hid (okk l (m + 1) hlt = lt y x) := hO
     clear hO
     have C2 : ∀ w, Calls Tryz.prog 107 #[MV y.p y.s y.i, MV x.p x.s x.i] w (Tells (.bool (lt y x)) w) := C2
     obtain ⟨y2, HY2⟩ := hid_ex (lt y x)
     rw [HY2.out] at C2 HO
     have hw1 : IntKind.i64.wrap (m : Int) = (m : Int) := by rw [IntKind.wrap_i64]; omega
     have hml2 : (m : Int) < (l.length : Int) := by omega
     go_wp2_with (refine load_m 64 _ rfl rfl _ _ rfl d Tryz.underlying64 rfl z42 ?_)
     clear hd d
     cases y2
     ·have HF := ca_not HZ hlt HO.out
      have e := HF.out
      subst e
      clear HZ HF HV
      have hs : Calm.Stays (fun w' => Rw w' wr.heap.size 64 #[.int .i64 x.p, .int .i64 x.s, .int .i64 x.i, .int .i64 x.t, .string x.x] ∧ w'.rangeAt g (o + m * 5) y.cells ∧ Below w.heap.size w w') := fun wa wb h hb => ⟨h.1.later hb, range_later h.2.1 hb, below_on h.2.2 hb⟩
      refine Calm.region (by kernel_rfl) (by kernel_rfl) (fun w' => Rw w' wr.heap.size 64 #[.int .i64 x.p, .int .i64 x.s, .int .i64 x.i, .int .i64 x.t, .string x.x] ∧ w'.rangeAt g (o + m * 5) y.cells ∧ Below w.heap.size w w') ⟨R, d2, hbel.drew⟩ ?_
      all_goals refine Calm.lm z42 (fun _ h => Rw.whole h.1) Tryz.underlying64 ?_
      all_goals refine Calm.k1 hs (fun w1 h => C1 w1) ?_
      iterate 10 (all_goals refine Calm.sp ?_)
      all_goals first | refine Calm.sk ?_ | refine Calm.lm zy (fun _ h => Wt.mark h.2.1) Tryz.underlying50 ?_ | refine Calm.lm zm (fun _ h => Wt.mark (x := x) (Rw.whole h.1)) Tryz.underlying50 ?_
      all_goals refine Calm.sp ?_
      all_goals first | refine Calm.sk ?_ | refine Calm.lm zy (fun _ h => Wt.mark h.2.1) Tryz.underlying50 ?_ | refine Calm.lm zm (fun _ h => Wt.mark (x := x) (Rw.whole h.1)) Tryz.underlying50 ?_
      all_goals first | refine Calm.sk ?_ | refine Calm.k2 hs (fun w1 h => C2 w1) ?_
      iterate 3 (all_goals refine Calm.sp ?_)
      all_goals
       rintro w9 ⟨_, _, hbel9⟩
      go_wp2_with fail
      go_ret
      exact ⟨rfl, hbel9⟩
     ·have HV2 : Hid (∀ i (h : i < l.length), i < m + 1 + 1 → okk l i h = true) := fun i h hi => by
       rcases Nat.lt_or_ge i (m + 1) with h' | h'
       ·exact HV.out i h h'
       ·obtain rfl : i = m + 1 := by omega
        exact HO.out
      clear HV HO
      have hs : Calm.Stays (fun w' => Rw w' wr.heap.size 64 #[.int .i64 x.p, .int .i64 x.s, .int .i64 x.i, .int .i64 x.t, .string x.x] ∧ w'.rangeAt g (o + m * 5) y.cells ∧ Below w.heap.size w w') := fun wa wb h hb => ⟨h.1.later hb, range_later h.2.1 hb, below_on h.2.2 hb⟩
      refine Calm.region (by kernel_rfl) (by kernel_rfl) (fun w' => Rw w' wr.heap.size 64 #[.int .i64 x.p, .int .i64 x.s, .int .i64 x.i, .int .i64 x.t, .string x.x] ∧ w'.rangeAt g (o + m * 5) y.cells ∧ Below w.heap.size w w') ⟨R, d2, hbel.drew⟩ ?_
      all_goals refine Calm.lm z42 (fun _ h => Rw.whole h.1) Tryz.underlying64 ?_
      all_goals refine Calm.k1 hs (fun w1 h => C1 w1) ?_
      iterate 10 (all_goals refine Calm.sp ?_)
      all_goals first | refine Calm.sk ?_ | refine Calm.lm zy (fun _ h => Wt.mark h.2.1) Tryz.underlying50 ?_ | refine Calm.lm zm (fun _ h => Wt.mark (x := x) (Rw.whole h.1)) Tryz.underlying50 ?_
      all_goals refine Calm.sp ?_
      all_goals first | refine Calm.sk ?_ | refine Calm.lm zy (fun _ h => Wt.mark h.2.1) Tryz.underlying50 ?_ | refine Calm.lm zm (fun _ h => Wt.mark (x := x) (Rw.whole h.1)) Tryz.underlying50 ?_
      all_goals first | refine Calm.sk ?_ | refine Calm.k2 hs (fun w1 h => C2 w1) ?_
      iterate 3 (all_goals refine Calm.sp ?_)
      all_goals
       rintro w9 ⟨_, _, hbel9⟩
      go_wp2_with fail
      go_roundw
      case rel => exact ⟨m + 1 + 1, by simp, by omega, HV2, hbel9⟩
      case measure => simp [intOf]; omega
  ·have hlt' : ¬ (k : Int) < (l.length : Int) := by omega
   have hz : z = true := by
    rw [← HZ.out, ca_iff]
    exact fun i h => HV.out i h (by omega)
   subst hz
   clear HR HV HZ
   go_wp2_with fail
   go_ret
   exact ⟨rfl, hbel⟩
def ck (x : X) : Bool := (decide (x.k = 2) || decide (x.k = 3)) && (decide (x.b = 0) && (decide (x.am.length + x.mb.length + x.el.length = 0) && ca x.wr))
theorem ck_parts {x : X} (h : ck x = true) : (x.k = 2 ∨ x.k = 3) ∧ x.b = 0 ∧ x.am.length = 0 ∧ x.mb.length = 0 ∧ x.el.length = 0 ∧ ca x.wr = true := by
 simp only [ck, Bool.and_eq_true, Bool.or_eq_true, decide_eq_true_eq] at h
 obtain ⟨h1, h2, h3, h4⟩ := h
 exact ⟨h1, h2, by omega, by omega, by omega, h4⟩
theorem check_any (x : X) (va vw vm ve : Value) (w : World) (h : Four w x va vw vm ve) (hs : Sm x) : Calls Tryz.prog 76 #[CV x.k x.b va vw vm ve] w (Tells (.bool (ck x)) w) := by
 obtain ⟨z, HZ⟩ := hid_ex (ck x)
 rw [HZ.out]
 obtain ⟨pa, ca', pw, cw, pm, cm, pe, ce, rfl, rfl, rfl, rfl⟩ := h.slices
 have HA : Hid (WHas w (.slice pw x.wr.length cw) x.wr) := h.t
 clear h
 obtain ⟨ha, ht, hm, he, _, _⟩ := hs
 have w1 : IntKind.i64.wrap ((x.am.length : Int) + (x.mb.length : Int)) = (x.am.length : Int) + (x.mb.length : Int) := by rw [IntKind.wrap_i64]; omega
 have w2 : IntKind.i64.wrap ((x.am.length : Int) + (x.mb.length : Int) + (x.el.length : Int)) = (x.am.length : Int) + (x.mb.length : Int) + (x.el.length : Int) := by rw [IntKind.wrap_i64]; omega
 have C1 := fun w => isKind_any x.k w
 obtain ⟨y1, HY1⟩ := hid_ex (decide (x.k = 2) || decide (x.k = 3))
 rw [HY1.out] at C1
 have hz : Hid (z = (y1 && (decide (x.b = 0) && (decide (x.am.length + x.mb.length + x.el.length = 0) && ca x.wr)))) := by
  show _ = _
  rw [← HZ.out]
  unfold ck
  rw [HY1.out]
 clear HY1 HZ
 cases y1
 ·obtain rfl : z = false := by have := hz.out; simpa using this
  clear hz
  go_enter Tryz.func76, Tryz.ntmps76
  go_wp2_with fail
  refine (C1 _).mono ?_
  rintro e w1 ⟨rfl, hb1⟩
  replace hb1 := below_on (bel_alloc (Below.refl _ _) _) hb1
  go_wp2_with fail
  go_ret
  exact ⟨rfl, hb1⟩
 ·go_enter Tryz.func76, Tryz.ntmps76
  go_wp2_with fail
  refine (C1 _).mono ?_
  rintro e w1 ⟨rfl, hb1⟩
  have R := Rw.later (rw_new w 27 _) hb1
  have c1 : w1.cell? ⟨w.heap.size, 1, none⟩ = some (.int .i64 x.b) := R.cell 1
  have c3 : w1.cell? ⟨w.heap.size, 3, none⟩ = some (.slice pw x.wr.length cw) := R.cell 3
  replace hb1 := below_on (bel_alloc (Below.refl _ _) _) hb1
  clear R C1
  by_cases hb : x.b = 0
  ·by_cases h0 : x.am.length + x.mb.length + x.el.length = 0
   ·have h0' : (x.am.length : Int) + (x.mb.length : Int) + (x.el.length : Int) = 0 := by omega
    obtain rfl : z = ca x.wr := by have := hz.out; simpa [hb, h0] using this
    clear hz
    go_wp2_with fail
    refine (checkWrites_any _ _ _ (HA.out.later hb1)).mono ?_
    rintro e w2 ⟨rfl, hb2⟩
    go_wp2_with fail
    go_ret
    exact ⟨rfl, below_on hb1 hb2⟩
   ·have h0' : ¬ (x.am.length : Int) + (x.mb.length : Int) + (x.el.length : Int) = 0 := by omega
    obtain rfl : z = false := by have := hz.out; rw [decide_eq_false h0] at this; simpa using this
    clear hz h0
    go_wp2_with fail
    go_ret
    exact ⟨rfl, hb1⟩
  ·obtain rfl : z = false := by have := hz.out; rw [decide_eq_false hb] at this; simpa using this
   clear hz
   go_wp2_with fail
   go_ret
   exact ⟨rfl, hb1⟩
theorem lt_iff (x y : Wt) : lt x y = true ↔ x.p < y.p ∨ (x.p = y.p ∧ (x.s < y.s ∨ (x.s = y.s ∧ x.i < y.i))) := by simp [lt, ls]
theorem lt_trans {x y z : Wt} (h : lt x y = true) (k : lt y z = true) : lt x z = true := by
 rw [lt_iff] at *
 omega
def mk (x y : Wt) : Bool := decide (x.p = y.p) && decide (x.s = y.s) && decide (x.i = y.i)
theorem mk_iff (x y : Wt) : mk x y = true ↔ x.p = y.p ∧ x.s = y.s ∧ x.i = y.i := by simp [mk, and_assoc]
theorem lt_total {x y : Wt} (h : lt x y = false) (k : mk x y = false) : lt y x = true := by
 rw [lt_iff]
 have h1 : ¬ _ := fun e => by rw [(lt_iff x y).2 e] at h; cases h
 have h2 : ¬ _ := fun e => by rw [(mk_iff x y).2 e] at k; cases k
 omega
theorem mk_lt {x y : Wt} (h : mk x y = true) : lt x y = false := by
 cases k : lt x y
 ·rfl
 ·rw [mk_iff] at h
  rw [lt_iff] at k
  omega
theorem lt_of_not {x y z : Wt} (h : lt x z = true) (k : lt y z = false) : lt x y = true := by
 have k1 : ¬ _ := fun e => by rw [(lt_iff y z).2 e] at k; cases k
 rw [lt_iff] at *
 omega
theorem ca_pair (l : List Wt) : ca l = true ↔ (∀ y ∈ l, iw y.i y.x = true) ∧ l.Pairwise (fun a b => lt a b = true) := by
 rw [ca_iff]
 constructor
 ·intro h
  refine ⟨fun y hy => ?_, ?_⟩
  ·obtain ⟨k, hk, rfl⟩ := List.getElem_of_mem hy
   have := h k hk
   unfold okk at this
   exact (Bool.and_eq_true _ _ ▸ this).1
  ·rw [List.pairwise_iff_getElem]
   intro i j hi hj hij
   obtain ⟨d, rfl⟩ : ∃ d, j = i + 1 + d := ⟨j - (i + 1), by omega⟩
   clear hij
   have step : ∀ k (hk : k + 1 < l.length), lt l[k] l[k + 1] = true := fun k hk => by
    have := h (k + 1) hk
    unfold okk at this
    simpa using (Bool.and_eq_true _ _ ▸ this).2
   induction d with
   | zero => exact step i hj
   | succ d ih => exact lt_trans (ih (by omega) step) (step (i + 1 + d) (by omega))
 ·rintro ⟨h1, h2⟩ k hk
  unfold okk
  rw [h1 _ (List.getElem_mem _), Bool.true_and]
  rcases Nat.eq_zero_or_pos k with rfl | hp
  ·rfl
  ·rw [List.pairwise_iff_getElem] at h2
   simp [h2 (k - 1) k (by omega) hk (by omega)]
theorem ca_filter {l : List Wt} (h : ca l = true) (f : Wt → Bool) : ca (l.filter f) = true := by
 rw [ca_pair] at *
 exact ⟨fun y hy => h.1 y (List.mem_filter.1 hy).1, h.2.filter f⟩
def insF (x : Wt) (l : List Wt) : List Wt := l.filter (fun y => lt y x) ++ x :: l.filter (fun y => !lt y x)
def has (x : Wt) (l : List Wt) : Bool := l.any (fun y => mk y x)
theorem has_false {x : Wt} {l : List Wt} : has x l = false ↔ ∀ y ∈ l, mk y x = false := by
 unfold has
 rw [List.any_eq_false]
 exact ⟨fun h y hy => by simpa using h y hy, fun h y hy => by simpa using h y hy⟩
theorem insF_length (x : Wt) (l : List Wt) : (insF x l).length = l.length + 1 := by
 unfold insF
 rw [List.length_append, List.length_cons]
 induction l with
 | nil => rfl
 | cons y l ih =>
  rw [List.filter_cons, List.filter_cons]
  cases lt y x
  ·simp
   omega
  ·simp
   omega
theorem insF_ca {x : Wt} {l : List Wt} (h : ca l = true) (hi : iw x.i x.x = true) (hn : has x l = false) : ca (insF x l) = true := by
 rw [has_false] at hn
 rw [ca_pair] at *
 obtain ⟨h1, h2⟩ := h
 refine ⟨fun y hy => ?_, ?_⟩
 ·unfold insF at hy
  rcases List.mem_append.1 hy with h | h
  ·exact h1 y (List.mem_filter.1 h).1
  ·rcases List.mem_cons.1 h with rfl | h
   ·exact hi
   ·exact h1 y (List.mem_filter.1 h).1
 ·unfold insF
  rw [List.pairwise_append]
  refine ⟨h2.filter _, ?_, ?_⟩
  ·rw [List.pairwise_cons]
   refine ⟨fun y hy => ?_, h2.filter _⟩
   obtain ⟨hy1, hy2⟩ := List.mem_filter.1 hy
   exact lt_total (by simpa using hy2) (hn y hy1)
  ·intro y hy z hz
   obtain ⟨hy1, hy2⟩ := List.mem_filter.1 hy
   rcases List.mem_cons.1 hz with rfl | hz
   ·exact hy2
   ·obtain ⟨hz1, hz2⟩ := List.mem_filter.1 hz
    exact lt_of_not hy2 (by simpa using hz2)
theorem insF_at {x : Wt} {l : List Wt} {k : Nat} (h1 : ∀ j (h : j < l.length), j < k → lt l[j] x = true) (h2 : ∀ j (h : j < l.length), k ≤ j → lt l[j] x = false) : l.take k ++ x :: l.drop k = insF x l := by
 have e1 : l.filter (fun y => lt y x) = l.take k := by
  conv => lhs; rw [← List.take_append_drop k l]
  rw [List.filter_append, List.filter_eq_self.2, List.filter_eq_nil_iff.2, List.append_nil]
  ·intro y hy
   obtain ⟨j, hj, rfl⟩ := List.getElem_of_mem hy
   rw [List.getElem_drop, h2 _ _ (by omega)]
   simp
  ·intro y hy
   obtain ⟨j, hj, rfl⟩ := List.getElem_of_mem hy
   rw [List.length_take] at hj
   rw [List.getElem_take]
   exact h1 _ _ (by omega)
 have e2 : l.filter (fun y => !lt y x) = l.drop k := by
  conv => lhs; rw [← List.take_append_drop k l]
  rw [List.filter_append, List.filter_eq_nil_iff.2, List.filter_eq_self.2, List.nil_append]
  ·intro y hy
   obtain ⟨j, hj, rfl⟩ := List.getElem_of_mem hy
   rw [List.getElem_drop, h2 _ _ (by omega)]
   rfl
  ·intro y hy
   obtain ⟨j, hj, rfl⟩ := List.getElem_of_mem hy
   rw [List.length_take] at hj
   rw [List.getElem_take, h1 _ _ (by omega)]
   simp
 unfold insF
 rw [e1, e2]
theorem markW_any (y : Wt) (w : World) : Calls Tryz.prog 113 #[WV y.p y.s y.i y.t y.x] w (Tells (MV y.p y.s y.i) w) := by
 go_enter Tryz.func113, Tryz.ntmps113
 go_wp2
 exact bodyPost_ret (results_r rfl rfl (rw_next _ (by simp) 50 _) rfl Tryz.underlying50 size50) rfl ⟨rfl, bel_alloc (bel_alloc (Below.refl _ _) _) _⟩
structure Cap (w : World) (b1 b2 b3 : Nat) (v : Value) (x : Wt) : Prop where
 f : w.cell? ⟨b1, 0, none⟩ = some (.func (.func 113) #[] #[])
 l : w.cell? ⟨b2, 0, none⟩ = some v
 m : Rw w b3 50 #[.int .i64 x.p, .int .i64 x.s, .int .i64 x.i]
theorem Cap.later {w w' : World} {b1 b2 b3 : Nat} {v : Value} {x : Wt} (h : Cap w b1 b2 b3 v x) (hb : Below w.heap.size w w') : Cap w' b1 b2 b3 v x := ⟨cell_later hb h.f, cell_later hb h.l, h.m.later hb⟩
theorem find1_any (k : Nat) (b1 b2 b3 : Nat) (v : Value) (l : List Wt) (x : Wt) (w : World) (h : WHas w v l) (hk : k < l.length) (hC : Cap w b1 b2 b3 v x) :
  Calls Tryz.prog 140 #[.int .i64 k, .pointer (some ⟨b1, 0, none⟩), .pointer (some ⟨b2, 0, none⟩), .pointer (some ⟨b3, 0, none⟩)] w (Tells (.bool (!lt l[k] x)) w) := by
 have hml := maxLen_lt h.1
 obtain ⟨p, c, rfl⟩ := h.slice
 obtain ⟨g, o, rfl, hd⟩ := h.at (by omega)
 have d := range_sub hd (k * 5) fun j u hu => rows_at Wt.len l k hk j u hu
 obtain ⟨y, HY⟩ := hid_ex l[k]
 rw [HY.out] at d ⊢
 clear HY h hd
 have ze : (Tryz.prog.info? 64).map (·.size) = some y.cells.length := size64
 have zm : (Tryz.prog.info? 50).map (·.size) = some [Value.int .i64 x.p, .int .i64 x.s, .int .i64 x.i].length := size50
 have C1 : ∀ w, Calls Tryz.prog 107 #[MV y.p y.s y.i, MV x.p x.s x.i] w (Tells (.bool (lt y x)) w) := fun w => less_any y.p y.s y.i x.p x.s x.i w
 generalize lt y x = z at C1 ⊢
 have hbel := Below.refl w.heap.size w
 have hk0 : (0 : Int) ≤ (k : Int) := by omega
 have hk1 : (k : Int) < (l.length : Int) := by omega
 go_enter Tryz.func140, Tryz.ntmps140
 go_wp2_with fail
 have hs : Calm.Stays (fun w' => Cap w' b1 b2 b3 (.slice (some ⟨g, o, none⟩) l.length c) x ∧ w'.rangeAt g (o + k * 5) y.cells ∧ Below w.heap.size w w') := fun wa wb h hb => ⟨h.1.later hb, range_later h.2.1 hb, below_on h.2.2 hb⟩
 refine Calm.region (by kernel_rfl) (by kernel_rfl) (fun w' => Cap w' b1 b2 b3 (.slice (some ⟨g, o, none⟩) l.length c) x ∧ w'.rangeAt g (o + k * 5) y.cells ∧ Below w.heap.size w w') ⟨⟨hC.f, hC.l, hC.m⟩, d, hbel.drew⟩ ?_
 all_goals refine Calm.cl (fun _ h => h.1.f) ?_
 all_goals refine Calm.cl (fun _ h => h.1.l) ?_
 iterate 2 (all_goals refine Calm.sp ?_)
 all_goals refine Calm.lm ze (fun _ h => h.2.1) Tryz.underlying64 ?_
 all_goals refine Calm.kf1 hs (fun w1 h => markW_any y w1) ?_
 all_goals refine Calm.lm zm (fun _ h => Rw.whole h.1.m) Tryz.underlying50 ?_
 all_goals refine Calm.k2 hs (fun w1 h => C1 w1) ?_
 iterate 2 (all_goals refine Calm.sp ?_)
 all_goals
  rintro w9 ⟨_, _, hbel9⟩
 go_wp2_with fail
 go_ret
 exact ⟨rfl, hbel9⟩
theorem pair_at {l : List Wt} (h : l.Pairwise (fun a b => lt a b = true)) (i j : Nat) (hj : j < l.length) (hij : i < j) : lt (l[i]'(by omega)) l[j] = true := (List.pairwise_iff_getElem.1 h) i j (by omega) hj hij
def SePost (l : List Wt) (x : Wt) (w : World) (e : Ending) (w' : World) : Prop := ∃ k : Nat, e = .returned (.int .i64 k) ∧ k ≤ l.length ∧ (∀ j (h : j < l.length), j < k → lt l[j] x = true) ∧ (∀ j (h : j < l.length), k ≤ j → lt l[j] x = false) ∧ Below w.heap.size w w'
theorem search_any (b1 b2 b3 : Nat) (v : Value) (l : List Wt) (x : Wt) (w : World) (h : WHas w v l) (hl : l.length ≤ 100) (hp : l.Pairwise (fun a b => lt a b = true)) (hC : Cap w b1 b2 b3 v x) :
  Calls Tryz.prog 105 #[.int .i64 l.length, .func (.func 140) #[] #[.pointer (some ⟨b1, 0, none⟩), .pointer (some ⟨b2, 0, none⟩), .pointer (some ⟨b3, 0, none⟩)]] w (SePost l x w) := by
 have HA : Hid (WHas w v l) := h
 have HP : Hid (l.Pairwise (fun a b => lt a b = true)) := hp
 have HC : Hid (Cap w b1 b2 b3 v x) := hC
 clear h hp hC
 go_enter Tryz.func105, Tryz.ntmps105
 go_wp2
 go_loopw [5, 6] (fun vi vj wr => ∃ a b : Nat, vi = .int .i64 a ∧ vj = .int .i64 b ∧ a ≤ b ∧ b ≤ l.length ∧ Hid (∀ j (h : j < l.length), j < a → lt l[j] x = true) ∧ Hid (∀ j (h : j < l.length), b ≤ j → lt l[j] x = false) ∧ Below w.heap.size w wr) (fun vi vj _ => (intOf vj).toNat - (intOf vi).toNat)
 case atStart => exact ⟨0, l.length, rfl, rfl, by omega, by omega, (show ∀ j (_ : j < l.length), j < 0 → _ from fun j _ h => by omega), (show ∀ j (_ : j < l.length), l.length ≤ j → _ from fun j h h' => by omega), Below.refl _ _⟩
 case round =>
  obtain ⟨a, b, rfl, rfl, hab, hbl, HV, HW, hbel⟩ := hrel
  by_cases hlt : a < b
  ·have hlt' : (a : Int) < (b : Int) := by omega
   obtain ⟨m, hm⟩ : ∃ m : Nat, m = (a + b) / 2 := ⟨_, rfl⟩
   have hmi : ((a : Int) + (b : Int)) / 2 = (m : Int) := by omega
   have hm1 : a ≤ m := by omega
   have hm2 : m < b := by omega
   have hml : m < l.length := by omega
   have C1 := find1_any m b1 b2 b3 v l x wr (HA.out.later hbel) hml (HC.out.later hbel)
   obtain ⟨z, HZ⟩ := hid_ex (lt l[m] x)
   rw [HZ.out] at C1
   clear hm
   go_wp2_with (first | rw [hmi])
   refine C1.mono ?_
   clear C1
   rintro e w1 ⟨rfl, hb1⟩
   cases z
   ·have HW2 : Hid (∀ j (h : j < l.length), m ≤ j → lt l[j] x = false) := fun j h hj => by
     rcases Nat.lt_or_ge m j with h' | h'
     ·cases k : lt l[j] x
      ·rfl
      ·have := lt_trans (pair_at HP.out m j h h') k
       rw [HZ.out] at this
       cases this
     ·obtain rfl : j = m := by omega
      exact HZ.out
    go_wp2_with fail
    go_roundw
    case rel => exact ⟨a, m, rfl, rfl, by omega, by omega, HV, HW2, below_on hbel hb1⟩
    case measure => simp [intOf]; omega
   ·have HV2 : Hid (∀ j (h : j < l.length), j < m + 1 → lt l[j] x = true) := fun j h hj => by
     rcases Nat.lt_or_ge j m with h' | h'
     ·exact lt_trans (pair_at HP.out j m hml h') HZ.out
     ·obtain rfl : j = m := by omega
      exact HZ.out
    go_wp2_with fail
    go_roundw
    case rel => exact ⟨m + 1, b, by simp, rfl, by omega, by omega, HV2, HW, below_on hbel hb1⟩
    case measure => simp [intOf]; omega
  ·obtain rfl : a = b := by omega
   have hlt' : ¬ (a : Int) < (a : Int) := by omega
   clear HA HP HC
   go_wp2_with fail
   go_ret
   exact ⟨a, rfl, hbl, HV.out, HW.out, hbel⟩
def FdPost (l : List Wt) (x : Wt) (w : World) (e : Ending) (w' : World) : Prop := ∃ k : Nat, e = .returned (.tuple #[.int .i64 k, .bool (has x l)]) ∧ k ≤ l.length ∧ l.take k ++ x :: l.drop k = insF x l ∧ Below w.heap.size w w'
theorem has_at {x : Wt} {l : List Wt} {k : Nat} (hp : l.Pairwise (fun a b => lt a b = true)) (h1 : ∀ j (h : j < l.length), j < k → lt l[j] x = true) (h2 : ∀ j (h : j < l.length), k ≤ j → lt l[j] x = false) : has x l = (if h : k < l.length then mk l[k] x else false) := by
 split
 ·rename_i h
  cases e : mk l[k] x
  ·rw [has_false]
   intro y hy
   obtain ⟨j, hj, rfl⟩ := List.getElem_of_mem hy
   cases e2 : mk l[j] x
   ·rfl
   ·exfalso
    rcases Nat.lt_trichotomy j k with h' | h' | h'
    ·have := h1 j hj h'
     rw [mk_lt e2] at this
     cases this
    ·subst h'
     rw [e] at e2
     cases e2
    ·have a1 := pair_at hp k j hj h'
     have a2 := h2 k h (Nat.le_refl _)
     have a3 : lt l[k] x = true := by
      rw [lt_iff] at a1 ⊢
      rw [mk_iff] at e2
      omega
     rw [a3] at a2
     cases a2
  ·unfold has
   rw [List.any_eq_true]
   exact ⟨l[k], List.getElem_mem _, e⟩
 ·rename_i h
  rw [has_false]
  intro y hy
  obtain ⟨j, hj, rfl⟩ := List.getElem_of_mem hy
  have := h1 j hj (by omega)
  cases e2 : mk l[j] x
  ·rfl
  ·rw [mk_lt e2] at this
   cases this
theorem findW_any (v : Value) (l : List Wt) (x : Wt) (w : World) (h : WHas w v l) (hl : l.length ≤ 100) (hp : l.Pairwise (fun a b => lt a b = true)) :
  Calls Tryz.prog 112 #[v, MV x.p x.s x.i, .func (.func 113) #[] #[]] w (FdPost l x w) := by
 obtain ⟨pa, ca', rfl⟩ := h.slice
 have hbel := bel_alloc (bel_alloc (bel_alloc (Below.refl w.heap.size w) (.cells #[.slice pa l.length ca'] 23)) (.cells #[.int .i64 x.p, .int .i64 x.s, .int .i64 x.i] 50)) (.cells #[.func (.func 113) #[] #[]] 138)
 have r1 := ((rw_new w 23 #[.slice pa l.length ca']).alloc (.cells #[.int .i64 x.p, .int .i64 x.s, .int .i64 x.i] 50)).alloc (.cells #[.func (.func 113) #[] #[]] 138)
 have r2 := (rw_new (w.alloc (.cells #[.slice pa l.length ca'] 23)) 50 #[.int .i64 x.p, .int .i64 x.s, .int .i64 x.i]).alloc (.cells #[.func (.func 113) #[] #[]] 138)
 have r3 := rw_new ((w.alloc (.cells #[.slice pa l.length ca'] 23)).alloc (.cells #[.int .i64 x.p, .int .i64 x.s, .int .i64 x.i] 50)) 138 #[.func (.func 113) #[] #[]]
 generalize hW : ((w.alloc (.cells #[.slice pa l.length ca'] 23)).alloc (.cells #[.int .i64 x.p, .int .i64 x.s, .int .i64 x.i] 50)).alloc (.cells #[.func (.func 113) #[] #[]] 138) = w0 at hbel r1 r2 r3
 simp only [World.size_alloc, Nat.add_assoc, Nat.reduceAdd] at r2 r3
 have hC : Cap w0 (w.heap.size + 2) w.heap.size (w.heap.size + 1) (.slice pa l.length ca') x := ⟨r3.cell 0, r1.cell 0, r2⟩
 have c1 := hC.l
 replace h := h.later hbel
 clear r1 r2 r3
 go_enter Tryz.func112, Tryz.ntmps112
 go_wp2_with (first | rw [hW])
 clear hW
 refine (search_any (w.heap.size + 2) w.heap.size (w.heap.size + 1) _ l x w0 h hl hp hC).mono ?_
 rintro e w1 ⟨k, rfl, hk, h1, h2, hb1⟩
 have HI : Hid (l.take k ++ x :: l.drop k = insF x l) := insF_at h1 h2
 have hh := has_at hp h1 h2
 obtain ⟨t, HT⟩ := hid_ex (has x l)
 have HF : Hid (∀ e w', FdPost l x w e w' ↔ ∃ k : Nat, e = .returned (.tuple #[.int .i64 k, .bool t]) ∧ k ≤ l.length ∧ l.take k ++ x :: l.drop k = insF x l ∧ Below w.heap.size w w') := fun e w' => by unfold FdPost; rw [HT.out]
 replace h := h.later hb1
 replace hC := hC.later hb1
 replace hbel := below_on hbel hb1
 clear h1 h2 hb1 hp c1
 rw [HT.out] at hh
 by_cases hlt : k < l.length
 ·rw [dif_pos hlt] at hh
  have hlt' : (k : Int) < (l.length : Int) := by omega
  have hk0 : (0 : Int) ≤ (k : Int) := by omega
  obtain ⟨g, o, rfl, hd⟩ := h.at (by omega)
  have d := range_sub hd (k * 5) fun j u hu => rows_at Wt.len l k hlt j u hu
  obtain ⟨y, HY⟩ := hid_ex l[k]
  rw [HY.out] at d hh
  have E := fun w => eq_mark w y.p y.s y.i x.p x.s x.i
  rw [show (decide (y.p = x.p) && decide (y.s = x.s) && decide (y.i = x.i)) = t from hh.symm] at E
  have ze : (Tryz.prog.info? 64).map (·.size) = some y.cells.length := size64
  have zm : (Tryz.prog.info? 50).map (·.size) = some [Value.int .i64 x.p, .int .i64 x.s, .int .i64 x.i].length := size50
  clear hh h hd HY HT
  go_wp2_with fail
  have hs : Calm.Stays (fun w' => Cap w' (w.heap.size + 2) w.heap.size (w.heap.size + 1) (.slice (some ⟨g, o, none⟩) l.length ca') x ∧ w'.rangeAt g (o + k * 5) y.cells ∧ Below w.heap.size w w') := fun wa wb h hb => ⟨h.1.later hb, range_later h.2.1 hb, below_on h.2.2 hb⟩
  refine Calm.region (by kernel_rfl) (by kernel_rfl) (fun w' => Cap w' (w.heap.size + 2) w.heap.size (w.heap.size + 1) (.slice (some ⟨g, o, none⟩) l.length ca') x ∧ w'.rangeAt g (o + k * 5) y.cells ∧ Below w.heap.size w w') ⟨⟨hC.f, hC.l, hC.m⟩, d, hbel.drew⟩ ?_
  iterate 2 (all_goals refine Calm.sp ?_)
  all_goals refine Calm.cl (fun _ h => h.1.l) ?_
  iterate 3 (all_goals refine Calm.sp ?_)
  all_goals first | refine Calm.sk ?_ | refine Calm.cl (fun _ h => h.1.f) ?_
  all_goals first | refine Calm.sk ?_ | refine Calm.cl (fun _ h => h.1.l) ?_
  iterate 2 (all_goals refine Calm.sp ?_)
  all_goals first | refine Calm.sk ?_ | refine Calm.lm ze (fun _ h => h.2.1) Tryz.underlying64 ?_
  all_goals first | refine Calm.sk ?_ | refine Calm.kf1 hs (fun w1 h => markW_any y w1) ?_
  all_goals first | refine Calm.sk ?_ | refine Calm.lm zm (fun _ h => Rw.whole h.1.m) Tryz.underlying50 ?_
  iterate 4 (all_goals refine Calm.sp ?_)
  all_goals
   rintro w9 ⟨_, _, hbel9⟩
  go_wp2_with fail
  refine bodyPost_ret (v := .tuple #[.int .i64 k, .bool t]) (by simp [results, Tryz.results112, go_sem]) rfl ?_
  rw [HF.out]
  exact ⟨k, rfl, hk, HI.out, hbel9⟩
 ·rw [dif_neg hlt] at hh
  have hlt' : ¬ (k : Int) < (l.length : Int) := by omega
  have e := hh
  subst e
  clear HT hh
  go_wp2_with fail
  have hs : Calm.Stays (fun w' => Cap w' (w.heap.size + 2) w.heap.size (w.heap.size + 1) (.slice pa l.length ca') x ∧ Below w.heap.size w w') := fun wa wb h hb => ⟨h.1.later hb, below_on h.2 hb⟩
  refine Calm.region (by kernel_rfl) (by kernel_rfl) (fun w' => Cap w' (w.heap.size + 2) w.heap.size (w.heap.size + 1) (.slice pa l.length ca') x ∧ Below w.heap.size w w') ⟨⟨hC.f, hC.l, hC.m⟩, hbel.drew⟩ ?_
  iterate 2 (all_goals refine Calm.sp ?_)
  all_goals refine Calm.cl (fun _ h => h.1.l) ?_
  iterate 14 (all_goals refine Calm.sp ?_)
  all_goals
   rintro w9 ⟨_, hbel9⟩
  go_wp2_with fail
  refine bodyPost_ret (v := .tuple #[.int .i64 k, .bool false]) (by simp [results, Tryz.results112, go_sem]) rfl ?_
  rw [HF.out]
  exact ⟨k, rfl, hk, HI.out, hbel9⟩
theorem find_any (v : Value) (l : List Wt) (x : Wt) (w : World) (h : WHas w v l) (hl : l.length ≤ 100) (hp : l.Pairwise (fun a b => lt a b = true)) :
  Calls Tryz.prog 78 #[v, MV x.p x.s x.i] w (FdPost l x w) := by
 have hbA := bel_alloc (Below.refl w.heap.size w) (.cells #[.int .i64 x.p, .int .i64 x.s, .int .i64 x.i] 50)
 have C1 := findW_any v l x _ (h.later hbA) hl hp
 obtain ⟨p, c, rfl⟩ := h.slice
 clear h hp
 have R := rw_new w 50 #[.int .i64 x.p, .int .i64 x.s, .int .i64 x.i]
 generalize hW : w.alloc (.cells #[.int .i64 x.p, .int .i64 x.s, .int .i64 x.i] 50) = w0 at hbA C1 R
 have c0 : w0.cell? ⟨w.heap.size, 0, none⟩ = some (.int .i64 x.p) := R.cell 0
 have c1 : w0.cell? ⟨w.heap.size, 1, none⟩ = some (.int .i64 x.s) := R.cell 1
 have c2 : w0.cell? ⟨w.heap.size, 2, none⟩ = some (.int .i64 x.i) := R.cell 2
 have HH : Hid (∀ e w1, FdPost l x w0 e w1 → FdPost l x w e w1) := fun e w1 ⟨k, he, hk, hi, hb⟩ => ⟨k, he, hk, hi, below_on hbA hb⟩
 obtain ⟨t, HT⟩ := hid_ex (has x l)
 go_enter Tryz.func78, Tryz.ntmps78
 go_wp2_with (first | rw [hW])
 clear hW c0 c1 c2 R
 refine C1.mono ?_
 rintro e w1 ⟨k, rfl, hk, hi, hb1⟩
 have HG : Hid (FdPost l x w (.returned (.tuple #[.int .i64 k, .bool t])) w1) := by rw [← HT.out]; exact HH.out _ _ ⟨k, rfl, hk, hi, hb1⟩
 rw [HT.out]
 clear hk hi hb1 HH HT C1 hbA
 go_wp2_with fail
 refine bodyPost_ret (v := .tuple #[.int .i64 k, .bool t]) (by simp [results, Tryz.results78, go_sem]) rfl ?_
 exact HG.out
end Go.Proofs.YtjbbmcommnhgeaaGreat.Rg
