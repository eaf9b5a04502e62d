/- Clear of package register. -/
import Derived.Test.YtknpnjhedfdggaaDlt
import Derived.Test.YtknpnjhedfdggaaCopy
namespace Go.Proofs.Ytknpnjhedfdggaa
open Go.RowKit

theorem SHas.zero {S : Nat} {w w' : World} {v : Value} {xs : List Value} (h : SHas S w v 0 xs) : SHas S w' v 0 xs := by
  obtain ⟨hm, hl, ⟨rfl, _⟩ | ⟨ad, c, rfl, hc, hd⟩⟩ := h
  · exact ⟨hm, hl, .inl ⟨rfl, rfl⟩⟩
  · exact ⟨hm, hl, .inr ⟨ad, c, rfl, hc, fun h => by omega⟩⟩
theorem four_zero {w w' : World} {x : X} {va vw vm ve : Value} (h : Four w x va vw vm ve) (h1 : x.am.length = 0) (h2 : x.mb.length = 0) (h3 : x.el.length = 0) {vw' : Value} {l : List Wt} (ha : WHas w' vw' l) : Four w' { x with wr := l } va vw' vm ve := by
  obtain ⟨k, b, am, wr, mb, el⟩ := x
  obtain rfl := List.eq_nil_of_length_eq_zero h1
  obtain rfl := List.eq_nil_of_length_eq_zero h2
  obtain rfl := List.eq_nil_of_length_eq_zero h3
  obtain ⟨ht, _, ⟨ms, e1, e2, _⟩, ⟨es, e3, e4, _⟩⟩ := h
  obtain rfl := List.map_eq_nil_iff.1 e1
  obtain rfl := List.map_eq_nil_iff.1 e3
  exact ⟨SHas.zero ht, ha, ⟨[], rfl, SHas.zero e2, fun _ h => by cases h⟩, ⟨[], rfl, SHas.zero e4, fun _ h => by cases h⟩⟩
/-- What is left behind a clearing. -/
def lef (l : List Wt) (q u : Int) (v : List Int) (idx : Int) : List Wt := l.filter (fun y => !bf y.p y.s y.i q u v idx)
def clX (x : X) (q u : Int) (v : List Int) (idx : Int) : X := if ck x = true then { x with wr := lef x.wr q u v idx } else x
/-- What Clear answers: the Writes are a row of its own. -/
def ClrPost (z : X) (w : World) (e : Ending) (w' : World) : Prop := ∃ va vw vm ve, e = .returned (CV z.k z.b va vw vm ve) ∧ Four w' z va vw vm ve ∧ w'.ownsRow w.heap.size 42 5 vw z.wr.length (rows Wt.cells z.wr) ∧ Below w.heap.size w w'
set_option maxHeartbeats 4000000 in
set_option maxRecDepth 100000 in
theorem clear_own (x : X) (va vw vm ve : Value) (q u : Int) (v : List Int) (t : Int) (sl : Value) (idx : Int) (w : World) (hv : v.length = 13) (h : Four w x va vw vm ve) (hs : Sm x) :
    Calls Try.prog 17 #[CV x.k x.b va vw vm ve, TxV q u v t sl, .int .i64 idx] w (ClrPost (clX x q u v idx) w) := by
  obtain ⟨pa, ca', pw, cw, pm, cm, pe, ce, rfl, rfl, rfl, rfl⟩ := h.slices
  have HF : Hid (Four w x (.slice pa x.am.length ca') (.slice pw x.wr.length cw) (.slice pm x.mb.length cm) (.slice pe x.el.length ce)) := h
  clear h
  obtain ⟨z, HZ⟩ := hid_ex (clX x q u v idx)
  rw [HZ.out]
  have R0 := (((rw_new w 27 (cvc x.k x.b (.slice pa x.am.length ca') (.slice pw x.wr.length cw) (.slice pm x.mb.length cm) (.slice pe x.el.length ce))).alloc (.cells (txc q u v t sl).toArray 34)).alloc (.cells #[.int .i64 idx] 3)).alloc (.cells (cvc 0 0 (.slice none 0 0) (.slice none 0 0) (.slice none 0 0) (.slice none 0 0)) 27)
  have R1 := ((rw_new (w.alloc (.cells (cvc x.k x.b (.slice pa x.am.length ca') (.slice pw x.wr.length cw) (.slice pm x.mb.length cm) (.slice pe x.el.length ce)) 27)) 34 (txc q u v t sl).toArray).alloc (.cells #[.int .i64 idx] 3)).alloc (.cells (cvc 0 0 (.slice none 0 0) (.slice none 0 0) (.slice none 0 0) (.slice none 0 0)) 27)
  have R2 := (rw_new ((w.alloc (.cells (cvc x.k x.b (.slice pa x.am.length ca') (.slice pw x.wr.length cw) (.slice pm x.mb.length cm) (.slice pe x.el.length ce)) 27)).alloc (.cells (txc q u v t sl).toArray 34)) 3 #[.int .i64 idx]).alloc (.cells (cvc 0 0 (.slice none 0 0) (.slice none 0 0) (.slice none 0 0) (.slice none 0 0)) 27)
  have R3 := rw_new (((w.alloc (.cells (cvc x.k x.b (.slice pa x.am.length ca') (.slice pw x.wr.length cw) (.slice pm x.mb.length cm) (.slice pe x.el.length ce)) 27)).alloc (.cells (txc q u v t sl).toArray 34)).alloc (.cells #[.int .i64 idx] 3)) 27 (cvc 0 0 (.slice none 0 0) (.slice none 0 0) (.slice none 0 0) (.slice none 0 0))
  have hbel := bel_alloc (bel_alloc (bel_alloc (bel_alloc (Below.refl w.heap.size w) (.cells (cvc x.k x.b (.slice pa x.am.length ca') (.slice pw x.wr.length cw) (.slice pm x.mb.length cm) (.slice pe x.el.length ce)) 27)) (.cells (txc q u v t sl).toArray 34)) (.cells #[.int .i64 idx] 3)) (.cells (cvc 0 0 (.slice none 0 0) (.slice none 0 0) (.slice none 0 0) (.slice none 0 0)) 27)
  have hsz : ((((w.alloc (.cells (cvc x.k x.b (.slice pa x.am.length ca') (.slice pw x.wr.length cw) (.slice pm x.mb.length cm) (.slice pe x.el.length ce)) 27)).alloc (.cells (txc q u v t sl).toArray 34)).alloc (.cells #[.int .i64 idx] 3)).alloc (.cells (cvc 0 0 (.slice none 0 0) (.slice none 0 0) (.slice none 0 0) (.slice none 0 0)) 27)).heap.size = w.heap.size + 4 := by simp
  generalize hW : (((w.alloc (.cells (cvc x.k x.b (.slice pa x.am.length ca') (.slice pw x.wr.length cw) (.slice pm x.mb.length cm) (.slice pe x.el.length ce)) 27)).alloc (.cells (txc q u v t sl).toArray 34)).alloc (.cells #[.int .i64 idx] 3)).alloc (.cells (cvc 0 0 (.slice none 0 0) (.slice none 0 0) (.slice none 0 0) (.slice none 0 0)) 27) = w0 at R0 R1 R2 R3 hbel hsz
  simp only [World.size_alloc, Nat.add_assoc, Nat.reduceAdd] at R1 R2 R3
  go_enter Try.func17, Try.ntmps17
  go_wp2_with (first | rw [hW] | refine load_r 27 _ rfl rfl _ rfl R0 Try.underlying27 rfl size27 ?_)
  clear hW
  refine (copied_any x _ _ _ _ w0 (HF.out.later hbel) hs).mono ?_
  rintro e w1 ⟨ua, uw, um, ue, rfl, ho, hb1⟩
  obtain ⟨qa, da, qw, dw, qm, dm, qe, de, rfl, rfl, rfl, rfl⟩ := ho.four.slices
  rw [hsz] at ho
  replace R0 := R0.later hb1
  replace R1 := R1.later hb1
  replace R2 := R2.later hb1
  replace R3 := R3.later hb1
  replace hbel := below_on hbel hb1
  have hB : w.heap.size + 4 ≤ w1.heap.size := by have := hb1.size; omega
  clear hb1 hsz
  have hlt := World.ownsRow.lt ho.t
  have hbA := bel_alloc (Below.refl w1.heap.size w1) (.cells (cvc x.k x.b (.slice qa x.am.length da) (.slice qw x.wr.length dw) (.slice qm x.mb.length dm) (.slice qe x.el.length de)) 27)
  have R7 := rw_new w1 27 (cvc x.k x.b (.slice qa x.am.length da) (.slice qw x.wr.length dw) (.slice qm x.mb.length dm) (.slice qe x.el.length de))
  replace R0 := R0.later hbA
  replace R1 := R1.later hbA
  replace R2 := R2.later hbA
  replace R3 := R3.later hbA
  replace ho := ho.later hbA
  replace hbel := below_on hbel hbA
  have hne : ∀ k, (Value.slice qw x.wr.length dw).ownBlock = some k → k ≠ w1.heap.size := fun k hk => by have := (hlt k hk).2; omega
  have h7 : w.heap.size + 4 ≤ w1.heap.size := hB
  replace hB : w.heap.size + 4 ≤ (w1.alloc (.cells (cvc x.k x.b (.slice qa x.am.length da) (.slice qw x.wr.length dw) (.slice qm x.mb.length dm) (.slice qe x.el.length de)) 27)).heap.size := Nat.le_trans hB hbA.size
  clear hlt hbA
  generalize hW : w1.alloc (.cells (cvc x.k x.b (.slice qa x.am.length da) (.slice qw x.wr.length dw) (.slice qm x.mb.length dm) (.slice qe x.el.length de)) 27) = w2 at R0 R1 R2 R3 R7 ho hbel hB
  go_wp2_with (first | rw [hW] | refine load_r 27 _ rfl rfl _ rfl R0 Try.underlying27 rfl size27 ?_)
  clear hW
  refine (check_any x _ _ _ _ w2 (HF.out.later hbel) hs).mono ?_
  rintro e w3 ⟨rfl, hb1⟩
  replace R1 := R1.later hb1
  replace R2 := R2.later hb1
  replace R3 := R3.later hb1
  replace R7 := R7.later hb1
  replace ho := ho.later hb1
  replace hbel := below_on hbel hb1
  replace hB := Nat.le_trans hB hb1.size
  clear hb1 R0 HF
  obtain ⟨y1, HY1⟩ := hid_ex (ck x)
  rw [HY1.out]
  cases y1
  · have HD : Hid (clX x q u v idx = x) := by
      show _ = _
      unfold clX
      rw [HY1.out]
      rfl
    rw [HD.out] at HZ
    go_wp2_with (first | refine load_r 27 _ rfl rfl _ rfl R7 Try.underlying27 rfl size27 ?_ | refine store_r rfl 27 _ _ rfl _ (cvc x.k x.b (.slice qa x.am.length da) (.slice qw x.wr.length dw) (.slice qm x.mb.length dm) (.slice qe x.el.length de)) rfl rfl R3 size27 rfl (by simp [Value.oneCell']) ?_)
    refine bodyPost_ret (results_r rfl rfl (R3.row (cvc x.k x.b (.slice qa x.am.length da) (.slice qw x.wr.length dw) (.slice qm x.mb.length dm) (.slice qe x.el.length de))) rfl Try.underlying27 size27) rfl ?_
    have e := HZ.out
    subst e
    have ho2 := ho.row (by omega) R3 (cvc x.k x.b (.slice qa x.am.length da) (.slice qw x.wr.length dw) (.slice qm x.mb.length dm) (.slice qe x.el.length de))
    exact ⟨_, _, _, _, rfl, ho2.four, own_mono ho2.t (by omega), below_setRow hbel (by omega) _⟩
  · have HD : Hid (clX x q u v idx = { x with wr := lef x.wr q u v idx }) := by
      show _ = _
      unfold clX
      rw [HY1.out]
      rfl
    have c3 : w3.cell? ⟨w1.heap.size, 3, none⟩ = some (.slice qw x.wr.length dw) := R7.cell 3
    go_wp2_with fail
    refine (delete_any (w.heap.size + 4) _ x.wr _ _ q u v t sl idx w3 hv ho.t hs.t (by omega) (by omega) hB ⟨R1, R2⟩).mono ?_
    rintro e w4 ⟨ub, rfl, hob, hkp, hub, hb1⟩
    replace hob : w4.ownsRow (w.heap.size + 4) 42 5 ub (lef x.wr q u v idx).length (rows Wt.cells (lef x.wr q u v idx)) := hob
    obtain ⟨qb, db, rfl⟩ := own_sl hob
    have hlb := World.ownsRow.lt hob
    replace R3 : Rw w4 (w.heap.size + 3) 27 _ := (hb1.block _ (by omega)).trans R3
    replace R7 : Rw w4 w1.heap.size 27 _ := (hkp _ R7.lt (fun e => hne _ e rfl)).trans R7
    have hnb : ∀ k, (Value.slice qb (lef x.wr q u v idx).length db).ownBlock = some k → k ≠ w1.heap.size := fun k hk => by
      rcases hub with h | h
      · rw [h] at hk
        cases hk
      · rw [h] at hk
        exact hne k hk
    replace hbel := hbel.trans (hb1.mono (by omega))
    have hz0 := ck_parts HY1.out
    have hfz : ∀ w' : World, WHas w' (.slice qb (lef x.wr q u v idx).length db) (lef x.wr q u v idx) → Four w' { x with wr := lef x.wr q u v idx } (.slice qa x.am.length da) (.slice qb (lef x.wr q u v idx).length db) (.slice qm x.mb.length dm) (.slice qe x.el.length de) := fun w' ha => four_zero ho.four hz0.2.2.1 hz0.2.2.2.1 hz0.2.2.2.2.1 ha
    have HFZ : Hid (∀ w' : World, WHas w' (.slice qb (lef x.wr q u v idx).length db) (lef x.wr q u v idx) → Four w' { x with wr := lef x.wr q u v idx } (.slice qa x.am.length da) (.slice qb (lef x.wr q u v idx).length db) (.slice qm x.mb.length dm) (.slice qe x.el.length de)) := hfz
    clear hfz hz0 hkp hb1 hub c3 ho
    obtain ⟨m, HM⟩ := hid_ex (lef x.wr q u v idx)
    rw [HM.out] at HFZ hob hnb HD ⊢
    have c4 : w4.cell? ⟨w1.heap.size, 3, none⟩ = some (.slice qw x.wr.length dw) := R7.cell 3
    have f4 : w4.frozen? ⟨w1.heap.size, 3, none⟩ = false := R7.frozen 3
    replace R7 : Rw (w4.setCell ⟨w1.heap.size, 3, none⟩ (.slice qb m.length db)) w1.heap.size 27 (cvc x.k x.b (.slice qa x.am.length da) (.slice qb m.length db) (.slice qm x.mb.length dm) (.slice qe x.el.length de)) := R7.set 3 _
    replace R3 := R3.setOther (q := w1.heap.size) (by omega) 3 (.slice qb m.length db)
    replace hob := own_over hob (b := w1.heap.size) hnb 3 (.slice qb m.length db)
    replace hbel := hbel.setCell (p := ⟨w1.heap.size, 3, none⟩) (by show w.heap.size ≤ w1.heap.size; omega) (.slice qb m.length db)
    generalize hW : w4.setCell ⟨w1.heap.size, 3, none⟩ (.slice qb m.length db) = w5 at R7 R3 hob hbel
    go_wp2_with (first | rw [hW] | refine load_r 27 _ rfl rfl _ rfl R7 Try.underlying27 rfl size27 ?_ | refine store_r rfl 27 _ _ rfl _ (cvc x.k x.b (.slice qa x.am.length da) (.slice qb m.length db) (.slice qm x.mb.length dm) (.slice qe x.el.length de)) rfl rfl R3 size27 rfl (by simp [Value.oneCell']) ?_)
    refine bodyPost_ret (results_r rfl rfl (R3.row _) rfl Try.underlying27 size27) rfl ?_
    rw [HD.out] at HZ
    have e := HZ.out
    subst e
    have hf := own_row hob (b := w.heap.size + 3) (by omega) (cvc x.k x.b (.slice qa x.am.length da) (.slice qb m.length db) (.slice qm x.mb.length dm) (.slice qe x.el.length de))
    exact ⟨_, _, _, _, rfl, HFZ.out _ (own_sh hf), own_mono hf (by omega), below_setRow hbel (by omega) _⟩
theorem clear_any (x : X) (va vw vm ve : Value) (q u : Int) (v : List Int) (t : Int) (sl : Value) (idx : Int) (w : World) (hv : v.length = 13) (h : Four w x va vw vm ve) (hs : Sm x) :
    Calls Try.prog 17 #[CV x.k x.b va vw vm ve, TxV q u v t sl, .int .i64 idx] w (Gives (clX x q u v idx) w) :=
  (clear_own x va vw vm ve q u v t sl idx w hv h hs).mono fun _ _ ⟨ua, uw, um, ue, e, hf, _, hb⟩ => ⟨ua, uw, um, ue, e, hf, hb⟩
end Go.Proofs.Ytknpnjhedfdggaa
