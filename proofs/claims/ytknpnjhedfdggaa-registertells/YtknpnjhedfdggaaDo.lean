/- Do of package register. -/
import Derived.Test.YtknpnjhedfdggaaClr
namespace Go.Proofs.Ytknpnjhedfdggaa
open Go.RowKit

/-- What becomes of a cell where it is written. -/
def doX (x : X) (a : Wt) (v : List Int) : X := if (ck x && (iw a.i a.x && !has a x.wr)) = true then { x with wr := insF a (lef x.wr a.p a.s v a.i) } else x
theorem own_ne {w : World} {B S n : Nat} {v : Value} {xs : List Value} {e : TypeId} (h : w.ownsRow B e S v n xs) {b : Nat} {t : TypeId} {cs : Array Value} (R : Rw w b t cs) (hne : e ≠ t) : ∀ k, v.ownBlock = some k → k ≠ b := by
  intro k hk ek
  subst ek
  obtain ⟨_, ⟨rfl, _⟩ | ⟨g, cap, cur, rfl, _, hg, _⟩⟩ := h
  · cases hk
  · have e1 := Option.some.inj hk
    simp only at e1
    subst e1
    have := Option.some.inj (hg.symm.trans R)
    simp at this
    exact hne this.2
theorem lef_pair {l : List Wt} (h : l.Pairwise (fun a b => lt a b = true)) (q u : Int) (v : List Int) (idx : Int) : (lef l q u v idx).Pairwise (fun a b => lt a b = true) := h.filter _
theorem lef_length (l : List Wt) (q u : Int) (v : List Int) (idx : Int) : (lef l q u v idx).length ≤ l.length := List.length_filter_le _ _
set_option maxHeartbeats 4000000 in
set_option maxRecDepth 100000 in
theorem do_any (x : X) (va vw vm ve : Value) (p s : Int) (u : List Int) (t : Int) (sl : Value) (i : Int) (tx : ByteArray) (w : World) (hu : u.length = 13) (h : Four w x va vw vm ve) (hs : Sm x) :
    Calls Try.prog 13 #[CV x.k x.b va vw vm ve, TxV p s u t sl, .int .i64 i, .string tx] w (Gives (doX x ⟨p, s, i, t, tx⟩ u) w) := by
  obtain ⟨pa, ca', pw, cw, pm, cm, pe, ce, rfl, rfl, rfl, rfl⟩ := h.slices
  have HF : Hid (Four w x (.slice pa x.am.length ca') (.slice pw x.wr.length cw) (.slice pm x.mb.length cm) (.slice pe x.el.length ce)) := h
  clear h
  obtain ⟨z, HZ⟩ := hid_ex (doX x ⟨p, s, i, t, tx⟩ u)
  rw [HZ.out]
  have R0 := ((rw_new w 27 (cvc x.k x.b (.slice pa x.am.length ca') (.slice pw x.wr.length cw) (.slice pm x.mb.length cm) (.slice pe x.el.length ce))).alloc (.cells (txc p s u t sl).toArray 34)).alloc (.cells (cvc 0 0 (.slice none 0 0) (.slice none 0 0) (.slice none 0 0) (.slice none 0 0)) 27)
  have R1 := (rw_new (w.alloc (.cells (cvc x.k x.b (.slice pa x.am.length ca') (.slice pw x.wr.length cw) (.slice pm x.mb.length cm) (.slice pe x.el.length ce)) 27)) 34 (txc p s u t sl).toArray).alloc (.cells (cvc 0 0 (.slice none 0 0) (.slice none 0 0) (.slice none 0 0) (.slice none 0 0)) 27)
  have R2 := rw_new ((w.alloc (.cells (cvc x.k x.b (.slice pa x.am.length ca') (.slice pw x.wr.length cw) (.slice pm x.mb.length cm) (.slice pe x.el.length ce)) 27)).alloc (.cells (txc p s u t sl).toArray 34)) 27 (cvc 0 0 (.slice none 0 0) (.slice none 0 0) (.slice none 0 0) (.slice none 0 0))
  have hbel := bel_alloc (bel_alloc (bel_alloc (Below.refl w.heap.size w) (.cells (cvc x.k x.b (.slice pa x.am.length ca') (.slice pw x.wr.length cw) (.slice pm x.mb.length cm) (.slice pe x.el.length ce)) 27)) (.cells (txc p s u t sl).toArray 34)) (.cells (cvc 0 0 (.slice none 0 0) (.slice none 0 0) (.slice none 0 0) (.slice none 0 0)) 27)
  have hsz : (((w.alloc (.cells (cvc x.k x.b (.slice pa x.am.length ca') (.slice pw x.wr.length cw) (.slice pm x.mb.length cm) (.slice pe x.el.length ce)) 27)).alloc (.cells (txc p s u t sl).toArray 34)).alloc (.cells (cvc 0 0 (.slice none 0 0) (.slice none 0 0) (.slice none 0 0) (.slice none 0 0)) 27)).heap.size = w.heap.size + 3 := by simp
  generalize hW : ((w.alloc (.cells (cvc x.k x.b (.slice pa x.am.length ca') (.slice pw x.wr.length cw) (.slice pm x.mb.length cm) (.slice pe x.el.length ce)) 27)).alloc (.cells (txc p s u t sl).toArray 34)).alloc (.cells (cvc 0 0 (.slice none 0 0) (.slice none 0 0) (.slice none 0 0) (.slice none 0 0)) 27) = w0 at R0 R1 R2 hbel hsz
  simp only [World.size_alloc, Nat.add_assoc, Nat.reduceAdd] at R1 R2
  have zd : (Try.prog.info? 29).map (·.size) = some [Value.int .i64 p, .int .i64 s].length := size29
  have zm : (Try.prog.info? 39).map (·.size) = some [Value.int .i64 p, .int .i64 s, .int .i64 i].length := size39
  have zt := size_tx (p := p) (s := s) (t := t) (sl := sl) hu
  have c15 := tx_time R1 hu
  have R3 := rw_new w0 42 #[.int .i64 p, .int .i64 s, .int .i64 i, .int .i64 t, .string tx]
  have hbA := bel_alloc (Below.refl w0.heap.size w0) (.cells #[.int .i64 p, .int .i64 s, .int .i64 i, .int .i64 t, .string tx] 42)
  rw [hsz] at R3
  have L0 := R0.later hbA
  go_enter Try.func13, Try.ntmps13
  go_wp2_with (first | rw [hW] | refine load_m 29 _ rfl rfl _ _ rfl (tx_dot R1) Try.underlying29 rfl zd ?_ | refine load_r 27 _ rfl rfl _ rfl L0 Try.underlying27 rfl size27 ?_)
  clear hW c15 L0
  replace R0 := R0.later hbA
  replace R1 := R1.later hbA
  replace R2 := R2.later hbA
  replace hbel := below_on hbel hbA
  have hB : w.heap.size + 4 ≤ (w0.alloc (.cells #[.int .i64 p, .int .i64 s, .int .i64 i, .int .i64 t, .string tx] 42)).heap.size := by simp [hsz]
  clear hbA hsz
  generalize w0.alloc (.cells #[.int .i64 p, .int .i64 s, .int .i64 i, .int .i64 t, .string tx] 42) = w1 at R0 R1 R2 R3 hbel hB ⊢
  refine (check_any x _ _ _ _ w1 (HF.out.later hbel) hs).mono ?_
  rintro e w2 ⟨rfl, hb1⟩
  replace R0 := R0.later hb1
  replace R1 := R1.later hb1
  replace R2 := R2.later hb1
  replace R3 := R3.later hb1
  replace hbel := below_on hbel hb1
  replace hB := Nat.le_trans hB hb1.size
  clear hb1
  obtain ⟨y1, HY1⟩ := hid_ex (ck x)
  rw [HY1.out]
  cases y1
  · have HD : Hid (doX x ⟨p, s, i, t, tx⟩ u = x) := by
      show _ = _
      unfold doX
      rw [HY1.out]
      rfl
    rw [HD.out] at HZ
    go_wp2_with (first | refine load_r 27 _ rfl rfl _ rfl R0 Try.underlying27 rfl size27 ?_)
    refine (copied_any x _ _ _ _ _ (HF.out.later hbel) hs).mono ?_
    rintro e w9 ⟨ua, uw, um, ue, rfl, ho, hb1⟩
    obtain ⟨qa, da, qw, dw, qm, dm, qe, de, rfl, rfl, rfl, rfl⟩ := ho.four.slices
    replace R2 := R2.later hb1
    replace hbel := below_on hbel hb1
    go_wp2_with (first | refine store_r rfl 27 _ _ rfl _ (cvc x.k x.b (.slice qa x.am.length da) (.slice qw x.wr.length dw) (.slice qm x.mb.length dm) (.slice qe x.el.length de)) rfl rfl R2 size27 rfl (by simp [Value.oneCell']) ?_)
    refine bodyPost_ret (results_r rfl rfl (R2.row (cvc x.k x.b (.slice qa x.am.length da) (.slice qw x.wr.length dw) (.slice qm x.mb.length dm) (.slice qe x.el.length de))) rfl Try.underlying27 size27) rfl ?_
    have e := HZ.out
    subst e
    exact ⟨_, _, _, _, rfl, (ho.row (by omega) R2 _).four, below_setRow hbel (by omega) _⟩
  · go_wp2_with (first | refine load_r 42 _ rfl rfl _ rfl R3 Try.underlying42 rfl size42 ?_)
    refine (isWrite_any p s i t tx w2).mono ?_
    rintro e w3 ⟨rfl, hb1⟩
    replace R0 := R0.later hb1
    replace R1 := R1.later hb1
    replace R2 := R2.later hb1
    replace R3 := R3.later hb1
    replace hbel := below_on hbel hb1
    replace hB := Nat.le_trans hB hb1.size
    clear hb1
    obtain ⟨y2, HY2⟩ := hid_ex (iw i tx)
    rw [HY2.out]
    cases y2
    · have HD : Hid (doX x ⟨p, s, i, t, tx⟩ u = x) := by
        show _ = _
        unfold doX
        rw [HY1.out]
        simp only [HY2.out]
        rfl
      rw [HD.out] at HZ
      go_wp2_with (first | refine load_r 27 _ rfl rfl _ rfl R0 Try.underlying27 rfl size27 ?_)
      refine (copied_any x _ _ _ _ _ (HF.out.later hbel) hs).mono ?_
      rintro e w9 ⟨ua, uw, um, ue, rfl, ho, hb1⟩
      obtain ⟨qa, da, qw, dw, qm, dm, qe, de, rfl, rfl, rfl, rfl⟩ := ho.four.slices
      replace R2 := R2.later hb1
      replace hbel := below_on hbel hb1
      go_wp2_with (first | refine store_r rfl 27 _ _ rfl _ (cvc x.k x.b (.slice qa x.am.length da) (.slice qw x.wr.length dw) (.slice qm x.mb.length dm) (.slice qe x.el.length de)) rfl rfl R2 size27 rfl (by simp [Value.oneCell']) ?_)
      refine bodyPost_ret (results_r rfl rfl (R2.row (cvc x.k x.b (.slice qa x.am.length da) (.slice qw x.wr.length dw) (.slice qm x.mb.length dm) (.slice qe x.el.length de))) rfl Try.underlying27 size27) rfl ?_
      have e := HZ.out
      subst e
      exact ⟨_, _, _, _, rfl, (ho.row (by omega) R2 _).four, below_setRow hbel (by omega) _⟩
    · have c3 : w3.cell? ⟨w.heap.size, 3, none⟩ = some (.slice pw x.wr.length cw) := R0.cell 3
      have d3 := Wt.mark (x := ⟨p, s, i, t, tx⟩) (Rw.whole R3)
      have hpr := ((ca_pair x.wr).1 (ck_parts HY1.out).2.2.2.2.2).2
      go_wp2_with (first | refine load_m 39 _ rfl rfl _ _ rfl d3 Try.underlying39 rfl zm ?_)
      refine (find_any _ x.wr ⟨p, s, i, t, tx⟩ w3 (HF.out.t.later hbel) hs.t hpr).mono ?_
      rintro e w4 ⟨k, rfl, hk, hins, hb1⟩
      clear hins c3 d3 hk
      replace R0 := R0.later hb1
      replace R1 := R1.later hb1
      replace R2 := R2.later hb1
      replace R3 := R3.later hb1
      replace hbel := below_on hbel hb1
      replace hB := Nat.le_trans hB hb1.size
      clear hb1
      obtain ⟨y3, HY3⟩ := hid_ex (has ⟨p, s, i, t, tx⟩ x.wr)
      rw [HY3.out]
      cases y3
      · have HD : Hid (doX x ⟨p, s, i, t, tx⟩ u = { x with wr := insF ⟨p, s, i, t, tx⟩ (lef x.wr p s u i) }) := by
          show _ = _
          unfold doX
          rw [HY1.out, HY3.out]
          simp only [HY2.out]
          rfl
        have HC : Hid (clX x p s u i = { x with wr := lef x.wr p s u i }) := by
          show _ = _
          unfold clX
          rw [HY1.out]
          rfl
        have HPR : Hid ((lef x.wr p s u i).Pairwise (fun a b => lt a b = true)) := lef_pair hpr p s u i
        have hl100 : (lef x.wr p s u i).length ≤ 100 := Nat.le_trans (lef_length _ _ _ _ _) hs.t
        have HZ0 : Hid ((x.k = 2 ∨ x.k = 3) ∧ x.b = 0 ∧ x.am.length = 0 ∧ x.mb.length = 0 ∧ x.el.length = 0 ∧ ca x.wr = true) := ck_parts HY1.out
        have C7 := clear_own x _ _ _ _ p s u t sl i w4 hu (HF.out.later hbel) hs
        rw [HC.out] at C7
        generalize lef x.wr p s u i = m at HC HD HPR hl100 C7
        clear hpr
        go_wp2_with (first | refine load_r 27 _ rfl rfl _ rfl R0 Try.underlying27 rfl size27 ?_ | refine load_r 34 _ rfl rfl _ rfl R1 Try.underlying34 rfl zt ?_)
        refine C7.mono ?_
        clear C7
        rintro e w5 ⟨ua, uw, um, ue, rfl, hf, ho, hb1⟩
        obtain ⟨qa, da, qw, dw, qm, dm, qe, de, rfl, rfl, rfl, rfl⟩ := hf.slices
        simp only at hf ho
        replace R2 := R2.later hb1
        replace R3 := R3.later hb1
        replace hbel := below_on hbel hb1
        have hB5 := Nat.le_trans hB hb1.size
        have hsz5 := hb1.size
        clear hb1 R0 R1
        have hlt := World.ownsRow.lt ho
        have hbA := bel_alloc (Below.refl w5.heap.size w5) (.cells (cvc x.k x.b (.slice qa x.am.length da) (.slice qw m.length dw) (.slice qm x.mb.length dm) (.slice qe x.el.length de)) 27)
        have R7 := rw_new w5 27 (cvc x.k x.b (.slice qa x.am.length da) (.slice qw m.length dw) (.slice qm x.mb.length dm) (.slice qe x.el.length de))
        replace R2 := R2.later hbA
        replace R3 := R3.later hbA
        replace ho := own_later ho hbA
        replace hf := hf.later hbA
        replace hbel := below_on hbel hbA
        have hB6 := Nat.le_trans hB5 hbA.size
        have hsz6 := Nat.le_trans hsz5 hbA.size
        clear hbA hlt
        generalize hW : w5.alloc (.cells (cvc x.k x.b (.slice qa x.am.length da) (.slice qw m.length dw) (.slice qm x.mb.length dm) (.slice qe x.el.length de)) 27) = w6 at R2 R3 R7 ho hf hbel hB6 hsz6
        have c6 : w6.cell? ⟨w5.heap.size, 3, none⟩ = some (.slice qw m.length dw) := R7.cell 3
        have d3 := Wt.mark (x := ⟨p, s, i, t, tx⟩) (Rw.whole R3)
        go_wp2_with (first | rw [hW] | refine load_m 39 _ rfl rfl _ _ rfl d3 Try.underlying39 rfl zm ?_)
        clear hW
        refine (find_any _ m ⟨p, s, i, t, tx⟩ w6 hf.t hl100 HPR.out).mono ?_
        rintro e w7 ⟨k2, rfl, hk2, hins, hb1⟩
        have HI : Hid (m.take k2 ++ ⟨p, s, i, t, tx⟩ :: m.drop k2 = insF ⟨p, s, i, t, tx⟩ m) := hins
        obtain ⟨y4, HY4⟩ := hid_ex (has ⟨p, s, i, t, tx⟩ m)
        rw [HY4.out]
        clear hins c6 d3 HPR HY4
        replace R2 := R2.later hb1
        replace R3 := R3.later hb1
        replace R7 := R7.later hb1
        replace ho := own_later ho hb1
        replace hf := hf.later hb1
        replace hbel := below_on hbel hb1
        have hB7 := Nat.le_trans hB6 hb1.size
        have hsz7 := Nat.le_trans hsz6 hb1.size
        clear hb1
        have c7 : w7.cell? ⟨w5.heap.size, 3, none⟩ = some (.slice qw m.length dw) := R7.cell 3
        go_wp2_with (first | refine load_r 42 _ rfl rfl _ rfl R3 Try.underlying42 rfl size42 ?_)
        have hlt := World.ownsRow.lt ho
        have hbA := bel_alloc (Below.refl w7.heap.size w7) (.cells #[.int .i64 p, .int .i64 s, .int .i64 i, .int .i64 t, .string tx] 42)
        refine (insert_any w4.heap.size _ m k2 w7.heap.size ⟨p, s, i, t, tx⟩ _ (own_later ho hbA) hk2 hl100 (Nat.le_trans hsz7 hbA.size) (rw_new w7 42 _) (fun q hq => by have := (hlt q hq).2; omega)).mono ?_
        rintro e w8 ⟨ub, rfl, hob, hkp, hb1⟩
        obtain ⟨qb, db, rfl⟩ := own_sl hob
        rw [HI.out] at hob
        have hfz : ∀ w' : World, WHas w' (.slice qb (m.length + 1) db) (insF ⟨p, s, i, t, tx⟩ m) → Four w' { x with wr := insF ⟨p, s, i, t, tx⟩ m } (.slice qa x.am.length da) (.slice qb (m.length + 1) db) (.slice qm x.mb.length dm) (.slice qe x.el.length de) := fun w' ha => four_zero hf HZ0.out.2.2.1 HZ0.out.2.2.2.1 HZ0.out.2.2.2.2.1 ha
        have HFZ : Hid (∀ w' : World, WHas w' (.slice qb (m.length + 1) db) (insF ⟨p, s, i, t, tx⟩ m) → Four w' { x with wr := insF ⟨p, s, i, t, tx⟩ m } (.slice qa x.am.length da) (.slice qb (m.length + 1) db) (.slice qm x.mb.length dm) (.slice qe x.el.length de)) := hfz
        replace R7 := R7.later hbA
        replace R7 : Rw w8 w5.heap.size 27 _ := (hkp _ R7.lt (fun e => own_ne (own_later ho hbA) R7 (by decide) _ e rfl)).trans R7
        replace R2 : Rw w8 (w.heap.size + 2) 27 _ := (hb1.block _ (by omega)).trans (R2.later hbA)
        replace hbel := (below_on hbel hbA).trans (hb1.mono (by omega))
        have hnb := own_ne hob R7 (by decide)
        clear hfz hlt HZ0 hkp hb1 ho hf hbA c7
        have c8 : w8.cell? ⟨w5.heap.size, 3, none⟩ = some (.slice qw m.length dw) := R7.cell 3
        have f8 : w8.frozen? ⟨w5.heap.size, 3, none⟩ = false := R7.frozen 3
        replace R7 : Rw (w8.setCell ⟨w5.heap.size, 3, none⟩ (.slice qb (m.length + 1) db)) w5.heap.size 27 (cvc x.k x.b (.slice qa x.am.length da) (.slice qb (m.length + 1) db) (.slice qm x.mb.length dm) (.slice qe x.el.length de)) := R7.set 3 _
        replace R2 := R2.setOther (q := w5.heap.size) (by omega) 3 (.slice qb (m.length + 1) db)
        replace hob := own_over hob (b := w5.heap.size) hnb 3 (.slice qb (m.length + 1) db)
        replace hbel := hbel.setCell (p := ⟨w5.heap.size, 3, none⟩) (by show w.heap.size ≤ w5.heap.size; omega) (.slice qb (m.length + 1) db)
        generalize hW : w8.setCell ⟨w5.heap.size, 3, none⟩ (.slice qb (m.length + 1) db) = w9 at R7 R2 hob hbel
        go_wp2_with (first | rw [hW] | refine load_r 27 _ rfl rfl _ rfl R7 Try.underlying27 rfl size27 ?_ | refine store_r rfl 27 _ _ rfl _ (cvc x.k x.b (.slice qa x.am.length da) (.slice qb (m.length + 1) db) (.slice qm x.mb.length dm) (.slice qe x.el.length de)) rfl rfl R2 size27 rfl (by simp [Value.oneCell']) ?_)
        refine bodyPost_ret (results_r rfl rfl (R2.row (cvc x.k x.b (.slice qa x.am.length da) (.slice qb (m.length + 1) db) (.slice qm x.mb.length dm) (.slice qe x.el.length de))) rfl Try.underlying27 size27) rfl ?_
        rw [HD.out] at HZ
        have e := HZ.out
        subst e
        refine ⟨_, _, _, _, rfl, HFZ.out _ ?_, below_setRow hbel (by omega) _⟩
        have := own_sh (own_row hob (b := w.heap.size + 2) (by omega) (cvc x.k x.b (.slice qa x.am.length da) (.slice qb (m.length + 1) db) (.slice qm x.mb.length dm) (.slice qe x.el.length de)))
        unfold WHas
        rw [insF_length]
        exact this
      · have HD : Hid (doX x ⟨p, s, i, t, tx⟩ u = x) := by
          show _ = _
          unfold doX
          rw [HY1.out, HY3.out]
          simp
        rw [HD.out] at HZ
        go_wp2_with (first | refine load_r 27 _ rfl rfl _ rfl R0 Try.underlying27 rfl size27 ?_)
        refine (copied_any x _ _ _ _ _ (HF.out.later hbel) hs).mono ?_
        rintro e w9 ⟨ua, uw, um, ue, rfl, ho, hb1⟩
        obtain ⟨qa, da, qw, dw, qm, dm, qe, de, rfl, rfl, rfl, rfl⟩ := ho.four.slices
        replace R2 := R2.later hb1
        replace hbel := below_on hbel hb1
        go_wp2_with (first | refine store_r rfl 27 _ _ rfl _ (cvc x.k x.b (.slice qa x.am.length da) (.slice qw x.wr.length dw) (.slice qm x.mb.length dm) (.slice qe x.el.length de)) rfl rfl R2 size27 rfl (by simp [Value.oneCell']) ?_)
        refine bodyPost_ret (results_r rfl rfl (R2.row (cvc x.k x.b (.slice qa x.am.length da) (.slice qw x.wr.length dw) (.slice qm x.mb.length dm) (.slice qe x.el.length de))) rfl Try.underlying27 size27) rfl ?_
        have e := HZ.out
        subst e
        exact ⟨_, _, _, _, rfl, (ho.row (by omega) R2 _).four, below_setRow hbel (by omega) _⟩
end Go.Proofs.Ytknpnjhedfdggaa
