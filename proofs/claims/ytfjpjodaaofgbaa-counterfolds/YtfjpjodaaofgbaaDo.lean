/- Do of package counter. -/
import Derived.Test.YtfjpjodaaofgbaaCopy
import Derived.Test.YtfjpjodaaofgbaaIns
import Derived.Test.YtfjpjodaaofgbaaFnd
namespace Go.Proofs.Ytfjpjodaaofgbaa
open Go.RowKit

theorem SHas.zero {S : Nat} {w w' : World} {v : Value} {xs : List Value} (h : SHas S w v 0 xs) : SHas S w' v 0 xs := by
  obtain ⟨hm, hl, ⟨rfl, _⟩ | ⟨ad, c, rfl, hd⟩⟩ := h
  · exact ⟨hm, hl, .inl ⟨rfl, rfl⟩⟩
  · exact ⟨hm, hl, .inr ⟨ad, c, rfl, fun h => by omega⟩⟩
theorem four_zero {w w' : World} {x : X} {va vw vm ve : Value} (h : Four w x va vw vm ve) (h1 : x.wr.length = 0) (h2 : x.mb.length = 0) (h3 : x.el.length = 0) {va' : Value} {l : List A} (ha : AHas w' va' l) : Four w' { x with am := l } va' vw vm ve := by
  obtain ⟨k, b, am, wr, mb, el⟩ := x
  obtain rfl := List.eq_nil_of_length_eq_zero h1
  obtain rfl := List.eq_nil_of_length_eq_zero h2
  obtain rfl := List.eq_nil_of_length_eq_zero h3
  obtain ⟨_, ht, ⟨ms, e1, e2, _⟩, ⟨es, e3, e4, _⟩⟩ := h
  obtain rfl := List.map_eq_nil_iff.1 e1
  obtain rfl := List.map_eq_nil_iff.1 e3
  exact ⟨ha, SHas.zero ht, ⟨[], rfl, SHas.zero e2, fun _ h => by cases h⟩, ⟨[], rfl, SHas.zero e4, fun _ h => by cases h⟩⟩
/-- What becomes of a cell to which an amount is added. -/
def doX (x : X) (a : A) : X := if (ck x && (ia a.i a.n && !has a x.am)) = true then { x with am := insF a x.am } else x
set_option maxHeartbeats 4000000 in
set_option maxRecDepth 100000 in
theorem do_any (x : X) (va vw vm ve : Value) (p s : Int) (u : List Int) (t : Int) (sl : Value) (i n : Int) (w : World) (_hu : u.length = 13) (h : Four w x va vw vm ve) (hs : Sm x) :
    Calls Try.prog 16 #[CV x.k x.b va vw vm ve, TxV p s u t sl, .int .i64 i, .int .i64 n] w (Gives (doX x ⟨p, s, i, n⟩) w) := by
  obtain ⟨pa, ca', pw, cw, pm, cm, pe, ce, rfl, rfl, rfl, rfl⟩ := h.slices
  have HF : Hid (Four w x (.slice pa x.am.length ca') (.slice pw x.wr.length cw) (.slice pm x.mb.length cm) (.slice pe x.el.length ce)) := h
  clear h
  obtain ⟨z, HZ⟩ := hid_ex (doX x ⟨p, s, i, n⟩)
  rw [HZ.out]
  have R0 := ((rw_new w 27 (cvc x.k x.b (.slice pa x.am.length ca') (.slice pw x.wr.length cw) (.slice pm x.mb.length cm) (.slice pe x.el.length ce))).alloc (.cells (txc p s u t sl).toArray 34)).alloc (.cells (cvc 0 0 (.slice none 0 0) (.slice none 0 0) (.slice none 0 0) (.slice none 0 0)) 27)
  have R1 := (rw_new (w.alloc (.cells (cvc x.k x.b (.slice pa x.am.length ca') (.slice pw x.wr.length cw) (.slice pm x.mb.length cm) (.slice pe x.el.length ce)) 27)) 34 (txc p s u t sl).toArray).alloc (.cells (cvc 0 0 (.slice none 0 0) (.slice none 0 0) (.slice none 0 0) (.slice none 0 0)) 27)
  have R2 := rw_new ((w.alloc (.cells (cvc x.k x.b (.slice pa x.am.length ca') (.slice pw x.wr.length cw) (.slice pm x.mb.length cm) (.slice pe x.el.length ce)) 27)).alloc (.cells (txc p s u t sl).toArray 34)) 27 (cvc 0 0 (.slice none 0 0) (.slice none 0 0) (.slice none 0 0) (.slice none 0 0))
  have hbel := bel_alloc (bel_alloc (bel_alloc (Below.refl w.heap.size w) (.cells (cvc x.k x.b (.slice pa x.am.length ca') (.slice pw x.wr.length cw) (.slice pm x.mb.length cm) (.slice pe x.el.length ce)) 27)) (.cells (txc p s u t sl).toArray 34)) (.cells (cvc 0 0 (.slice none 0 0) (.slice none 0 0) (.slice none 0 0) (.slice none 0 0)) 27)
  have hsz : (((w.alloc (.cells (cvc x.k x.b (.slice pa x.am.length ca') (.slice pw x.wr.length cw) (.slice pm x.mb.length cm) (.slice pe x.el.length ce)) 27)).alloc (.cells (txc p s u t sl).toArray 34)).alloc (.cells (cvc 0 0 (.slice none 0 0) (.slice none 0 0) (.slice none 0 0) (.slice none 0 0)) 27)).heap.size = w.heap.size + 3 := by simp
  generalize hW : ((w.alloc (.cells (cvc x.k x.b (.slice pa x.am.length ca') (.slice pw x.wr.length cw) (.slice pm x.mb.length cm) (.slice pe x.el.length ce)) 27)).alloc (.cells (txc p s u t sl).toArray 34)).alloc (.cells (cvc 0 0 (.slice none 0 0) (.slice none 0 0) (.slice none 0 0) (.slice none 0 0)) 27) = w0 at R0 R1 R2 hbel hsz
  simp only [World.size_alloc, Nat.add_assoc, Nat.reduceAdd] at R1 R2
  have zd : (Try.prog.info? 29).map (·.size) = some [Value.int .i64 p, .int .i64 s].length := size29
  go_enter Try.func16, Try.ntmps16
  go_wp2_with (first | rw [hW] | refine load_m 29 _ rfl rfl _ _ rfl (tx_dot R1) Try.underlying29 rfl zd ?_ | refine load_r 27 _ rfl rfl _ rfl ((R0.alloc _).alloc _) Try.underlying27 rfl size27 ?_)
  clear hW R1
  have hb2 := bel_alloc (bel_alloc (Below.refl w0.heap.size w0) (.cells #[.int .i64 p, .int .i64 s, .int .i64 i] 40)) (.cells #[.int .i64 p, .int .i64 s, .int .i64 i, .int .i64 n] 42)
  have R3 := (rw_new w0 40 #[.int .i64 p, .int .i64 s, .int .i64 i]).alloc (.cells #[.int .i64 p, .int .i64 s, .int .i64 i, .int .i64 n] 42)
  have R4 := rw_new (w0.alloc (.cells #[.int .i64 p, .int .i64 s, .int .i64 i] 40)) 42 #[.int .i64 p, .int .i64 s, .int .i64 i, .int .i64 n]
  have hsz2 : ((w0.alloc (.cells #[.int .i64 p, .int .i64 s, .int .i64 i] 40)).alloc (.cells #[.int .i64 p, .int .i64 s, .int .i64 i, .int .i64 n] 42)).heap.size = w.heap.size + 5 := by simp [hsz]
  simp only [World.size_alloc, hsz, Nat.add_assoc, Nat.reduceAdd] at R3 R4
  replace R0 := R0.later hb2
  replace R2 := R2.later hb2
  replace hbel := below_on hbel hb2
  clear hb2 hsz
  generalize (w0.alloc (.cells #[.int .i64 p, .int .i64 s, .int .i64 i] 40)).alloc (.cells #[.int .i64 p, .int .i64 s, .int .i64 i, .int .i64 n] 42) = w2 at R0 R2 R3 R4 hbel hsz2 ⊢
  refine (copied_any x _ _ _ _ w2 (HF.out.later hbel) hs).mono ?_
  rintro e w3 ⟨ua, uw, um, ue, rfl, ho, hb1⟩
  obtain ⟨qa, da, qw, dw, qm, dm, qe, de, rfl, rfl, rfl, rfl⟩ := ho.four.slices
  rw [hsz2] at ho
  replace R0 := R0.later hb1
  replace R2 := R2.later hb1
  replace R3 := R3.later hb1
  replace R4 := R4.later hb1
  replace hbel := below_on hbel hb1
  have hB : w.heap.size + 5 ≤ w3.heap.size := by have := hb1.size; omega
  clear hb1 hsz2 HF
  have R0' := R0.row (cvc x.k x.b (.slice qa x.am.length da) (.slice qw x.wr.length dw) (.slice qm x.mb.length dm) (.slice qe x.el.length de))
  replace ho := ho.row (b := w.heap.size) (by omega) R0 (cvc x.k x.b (.slice qa x.am.length da) (.slice qw x.wr.length dw) (.slice qm x.mb.length dm) (.slice qe x.el.length de))
  replace R2 := R2.rowOther (q := w.heap.size) (by omega) (cvc x.k x.b (.slice qa x.am.length da) (.slice qw x.wr.length dw) (.slice qm x.mb.length dm) (.slice qe x.el.length de))
  replace R3 := R3.rowOther (q := w.heap.size) (by omega) (cvc x.k x.b (.slice qa x.am.length da) (.slice qw x.wr.length dw) (.slice qm x.mb.length dm) (.slice qe x.el.length de))
  replace R4 := R4.rowOther (q := w.heap.size) (by omega) (cvc x.k x.b (.slice qa x.am.length da) (.slice qw x.wr.length dw) (.slice qm x.mb.length dm) (.slice qe x.el.length de))
  replace hbel := below_setRow hbel (g := w.heap.size) (Nat.le_refl _) (cvc x.k x.b (.slice qa x.am.length da) (.slice qw x.wr.length dw) (.slice qm x.mb.length dm) (.slice qe x.el.length de))
  replace hB : w.heap.size + 5 ≤ (w3.setRow w.heap.size (cvc x.k x.b (.slice qa x.am.length da) (.slice qw x.wr.length dw) (.slice qm x.mb.length dm) (.slice qe x.el.length de))).heap.size := by simpa [World.setRow] using hB
  generalize hW : w3.setRow w.heap.size (cvc x.k x.b (.slice qa x.am.length da) (.slice qw x.wr.length dw) (.slice qm x.mb.length dm) (.slice qe x.el.length de)) = w4 at R0' R2 R3 R4 hbel hB ho
  have L0 := R0'
  go_wp2_with (first | rw [hW] | refine store_r rfl 27 _ _ rfl _ (cvc x.k x.b (.slice qa x.am.length da) (.slice qw x.wr.length dw) (.slice qm x.mb.length dm) (.slice qe x.el.length de)) rfl rfl R0 size27 rfl (by simp [Value.oneCell']) ?_ | refine load_r 27 _ rfl rfl _ rfl L0 Try.underlying27 rfl size27 ?_)
  clear hW R0
  have R0 := R0'
  clear R0'
  refine (check_any x _ _ _ _ w4 ho.four hs).mono ?_
  rintro e w5 ⟨rfl, hb1⟩
  replace R0 := R0.later hb1
  replace R2 := R2.later hb1
  replace R3 := R3.later hb1
  replace R4 := R4.later hb1
  replace ho := ho.later hb1
  replace hbel := below_on hbel hb1
  replace hB := Nat.le_trans hB hb1.size
  clear hb1 L0
  obtain ⟨y1, HY1⟩ := hid_ex (ck x)
  rw [HY1.out]
  cases y1
  · have HD : Hid (doX x ⟨p, s, i, n⟩ = x) := by
      show _ = _
      unfold doX
      rw [HY1.out]
      rfl
    rw [HD.out] at HZ
    go_wp2_with (first | refine load_r 27 _ rfl rfl _ rfl R0 Try.underlying27 rfl size27 ?_ | refine store_r rfl 27 _ _ rfl _ (cvc x.k x.b (.slice qa x.am.length da) (.slice qw x.wr.length dw) (.slice qm x.mb.length dm) (.slice qe x.el.length de)) rfl rfl R2 size27 rfl (by simp [Value.oneCell']) ?_)
    refine bodyPost_ret (results_r rfl rfl (R2.row _) rfl Try.underlying27 size27) rfl ?_
    have e := HZ.out
    subst e
    exact ⟨_, _, _, _, rfl, (ho.row (by omega) R2 _).four, below_setRow hbel (by omega) _⟩
  · go_wp2_with (first | refine load_r 42 _ rfl rfl _ rfl R4 Try.underlying42 rfl size42 ?_)
    refine (isAmount_any p s i n w5).mono ?_
    rintro e w6 ⟨rfl, hb1⟩
    replace R0 := R0.later hb1
    replace R2 := R2.later hb1
    replace R3 := R3.later hb1
    replace R4 := R4.later hb1
    replace ho := ho.later hb1
    replace hbel := below_on hbel hb1
    replace hB := Nat.le_trans hB hb1.size
    clear hb1
    obtain ⟨y2, HY2⟩ := hid_ex (ia i n)
    rw [HY2.out]
    cases y2
    · have HD : Hid (doX x ⟨p, s, i, n⟩ = x) := by
        show _ = _
        unfold doX
        rw [HY1.out]
        simp only [HY2.out]
        rfl
      rw [HD.out] at HZ
      go_wp2_with (first | refine load_r 27 _ rfl rfl _ rfl R0 Try.underlying27 rfl size27 ?_ | refine store_r rfl 27 _ _ rfl _ (cvc x.k x.b (.slice qa x.am.length da) (.slice qw x.wr.length dw) (.slice qm x.mb.length dm) (.slice qe x.el.length de)) rfl rfl R2 size27 rfl (by simp [Value.oneCell']) ?_)
      refine bodyPost_ret (results_r rfl rfl (R2.row _) rfl Try.underlying27 size27) rfl ?_
      have e := HZ.out
      subst e
      exact ⟨_, _, _, _, rfl, (ho.row (by omega) R2 _).four, below_setRow hbel (by omega) _⟩
    · have c2 : w6.cell? ⟨w.heap.size, 2, none⟩ = some (.slice qa x.am.length da) := R0.cell 2
      have hpr := ((ca_pair x.am).1 (ck_parts HY1.out).2.2.2.2.2).2
      go_wp2_with (first | refine load_r 40 _ rfl rfl _ rfl R3 Try.underlying40 rfl size40 ?_)
      refine (find_any _ x.am ⟨p, s, i, n⟩ w6 ho.four.a hs.a hpr).mono ?_
      rintro e w7 ⟨k, rfl, hk, hins, hb1⟩
      have HI : Hid (x.am.take k ++ ⟨p, s, i, n⟩ :: x.am.drop k = insF ⟨p, s, i, n⟩ x.am) := hins
      clear hins hpr c2
      replace R0 := R0.later hb1
      replace R2 := R2.later hb1
      replace R3 := R3.later hb1
      replace R4 := R4.later hb1
      replace ho := ho.later hb1
      replace hbel := below_on hbel hb1
      replace hB := Nat.le_trans hB hb1.size
      clear hb1
      obtain ⟨y3, HY3⟩ := hid_ex (has ⟨p, s, i, n⟩ x.am)
      rw [HY3.out]
      cases y3
      · have HD : Hid (doX x ⟨p, s, i, n⟩ = { x with am := insF ⟨p, s, i, n⟩ x.am }) := by
          show _ = _
          unfold doX
          rw [HY1.out, HY3.out]
          simp only [HY2.out]
          rfl
        have c2 : w7.cell? ⟨w.heap.size, 2, none⟩ = some (.slice qa x.am.length da) := R0.cell 2
        go_wp2_with (first | refine load_r 42 _ rfl rfl _ rfl R4 Try.underlying42 rfl size42 ?_)
        have hlt := World.ownsRow.lt ho.a
        refine (insert_any (w.heap.size + 5) _ x.am k w7.heap.size ⟨p, s, i, n⟩ _ (ho.a.alloc _) hk hs.a (by simp; omega) (rw_new w7 42 _) (fun q hq => by have := (hlt q hq).2; omega)).mono ?_
        rintro e w8 ⟨ub, rfl, hob, hb1⟩
        obtain ⟨qb, db, rfl⟩ := own_sl hob
        rw [HI.out] at hob
        have hz0 := ck_parts HY1.out
        have hfz : ∀ w' : World, AHas w' (.slice qb (x.am.length + 1) db) (insF ⟨p, s, i, n⟩ x.am) → Four w' { x with am := insF ⟨p, s, i, n⟩ x.am } (.slice qb (x.am.length + 1) db) (.slice qw x.wr.length dw) (.slice qm x.mb.length dm) (.slice qe x.el.length de) := fun w' ha => four_zero ho.four hz0.2.1 hz0.2.2.1 hz0.2.2.2.1 ha
        have HFZ : Hid (∀ w' : World, AHas w' (.slice qb (x.am.length + 1) db) (insF ⟨p, s, i, n⟩ x.am) → Four w' { x with am := insF ⟨p, s, i, n⟩ x.am } (.slice qb (x.am.length + 1) db) (.slice qw x.wr.length dw) (.slice qm x.mb.length dm) (.slice qe x.el.length de)) := hfz
        clear hfz hlt hz0
        replace R0 : Rw w8 w.heap.size 27 _ := (hb1.block _ (by omega)).trans (R0.alloc _)
        replace R2 : Rw w8 (w.heap.size + 2) 27 _ := (hb1.block _ (by omega)).trans (R2.alloc _)
        replace hbel := (bel_alloc hbel _).trans (hb1.mono (by omega))
        clear hb1 ho
        have c3 : w8.cell? ⟨w.heap.size, 2, none⟩ = some (.slice qa x.am.length da) := R0.cell 2
        have f3 : w8.frozen? ⟨w.heap.size, 2, none⟩ = false := R0.frozen 2
        replace R0 : Rw (w8.setCell ⟨w.heap.size, 2, none⟩ (.slice qb (x.am.length + 1) db)) w.heap.size 27 (cvc x.k x.b (.slice qb (x.am.length + 1) db) (.slice qw x.wr.length dw) (.slice qm x.mb.length dm) (.slice qe x.el.length de)) := R0.set 2 _
        replace R2 := R2.setOther (q := w.heap.size) (by omega) 2 (.slice qb (x.am.length + 1) db)
        replace hob := own_over hob (b := w.heap.size) (fun q hq => by have := (World.ownsRow.lt hob q hq).1; omega) 2 (.slice qb (x.am.length + 1) db)
        replace hbel := hbel.setCell (p := ⟨w.heap.size, 2, none⟩) (Nat.le_refl _) (.slice qb (x.am.length + 1) db)
        generalize hW : w8.setCell ⟨w.heap.size, 2, none⟩ (.slice qb (x.am.length + 1) db) = w9 at R0 R2 hob hbel
        go_wp2_with (first | rw [hW] | refine load_r 27 _ rfl rfl _ rfl R0 Try.underlying27 rfl size27 ?_ | refine store_r rfl 27 _ _ rfl _ (cvc x.k x.b (.slice qb (x.am.length + 1) db) (.slice qw x.wr.length dw) (.slice qm x.mb.length dm) (.slice qe x.el.length de)) rfl rfl R2 size27 rfl (by simp [Value.oneCell']) ?_)
        refine bodyPost_ret (results_r rfl rfl (R2.row _) rfl Try.underlying27 size27) rfl ?_
        rw [HD.out] at HZ
        have e := HZ.out
        subst e
        refine ⟨_, _, _, _, rfl, HFZ.out _ ?_, below_setRow hbel (by omega) _⟩
        have := own_sh (own_row hob (b := w.heap.size + 2) (by omega) (cvc x.k x.b (.slice qb (x.am.length + 1) db) (.slice qw x.wr.length dw) (.slice qm x.mb.length dm) (.slice qe x.el.length de)))
        unfold AHas
        rw [insF_length]
        exact this
      · have HD : Hid (doX x ⟨p, s, i, n⟩ = x) := by
          show _ = _
          unfold doX
          rw [HY1.out, HY3.out]
          simp
        rw [HD.out] at HZ
        go_wp2_with (first | refine load_r 27 _ rfl rfl _ rfl R0 Try.underlying27 rfl size27 ?_ | refine store_r rfl 27 _ _ rfl _ (cvc x.k x.b (.slice qa x.am.length da) (.slice qw x.wr.length dw) (.slice qm x.mb.length dm) (.slice qe x.el.length de)) rfl rfl R2 size27 rfl (by simp [Value.oneCell']) ?_)
        refine bodyPost_ret (results_r rfl rfl (R2.row _) rfl Try.underlying27 size27) rfl ?_
        have e := HZ.out
        subst e
        exact ⟨_, _, _, _, rfl, (ho.row (by omega) R2 _).four, below_setRow hbel (by omega) _⟩
end Go.Proofs.Ytfjpjodaaofgbaa
