import Derived.Test.YtdnppcbdifckcaaP17
/- Fold of package orset. -/
namespace Go.Proofs.Ytdnppcbdifckcaa
open Go.RowKit Go.Sort

theorem four_zero {w w' : World} {x : X} {va vw vm ve : Value} (h : Four w x va vw vm ve) (h1 : x.am.length = 0) (h2 : x.wr.length = 0) (h3 : x.el.length = 0) {vm' : Value} {l : List Mb} (hm : BHas w' vm' l) : Four w' { x with mb := l } va vw vm' ve := by
  obtain ⟨k, b, am, wr, mb, el⟩ := x
  obtain rfl := List.eq_nil_of_length_eq_zero h1
  obtain rfl := List.eq_nil_of_length_eq_zero h2
  obtain rfl := List.eq_nil_of_length_eq_zero h3
  obtain ⟨ha, ht, _, ⟨es, e3, e4, _⟩⟩ := h
  obtain rfl := List.map_eq_nil_iff.1 e3
  exact ⟨SHas.zero ha, SHas.zero ht, hm, ⟨[], rfl, SHas.zero e4, fun _ h => by cases h⟩⟩
/-- One member of a row is written over. -/
theorem rows_put {cur : List Value} {ms : List (Mb × Value)} {k : Nat} (hk : k < ms.length) (ht : cur.take (ms.length * 3) = rows Mb.cells ms) (z : Mb × Value) : (cur.take (k * 3) ++ Mb.cells z ++ cur.drop (k * 3 + 3)).take (ms.length * 3) = rows Mb.cells (ms.set k z) := by
  have hl : (rows Mb.cells ms).length = ms.length * 3 := rows_length Mb.len ms
  obtain ⟨r, hr⟩ : ∃ r, cur = rows Mb.cells ms ++ r := ⟨cur.drop (ms.length * 3), by rw [← ht, List.take_append_drop]⟩
  have e1 : cur.take (k * 3) = (rows Mb.cells ms).take (k * 3) := by rw [hr, List.take_append_of_le_length (by omega)]
  have e2 : cur.drop (k * 3 + 3) = (rows Mb.cells ms).drop (k * 3 + 3) ++ r := by rw [hr, List.drop_append_of_le_length (by omega)]
  have e3 : rows Mb.cells (ms.set k z) = (rows Mb.cells ms).take (k * 3) ++ Mb.cells z ++ (rows Mb.cells ms).drop (k * 3 + 3) := by
    rw [List.set_eq_take_append_cons_drop, if_pos hk, rows_append, rows_cons, rows_take Mb.len, rows_drop Mb.len, List.append_assoc, show (k + 1) * 3 = k * 3 + 3 by omega]
  rw [e1, e2, e3, ← List.append_assoc, List.take_left']
  rw [List.length_append, List.length_append, List.length_take, List.length_drop, hl, Mb.len]
  omega
theorem fdL_set {q : M → Bool} {l : List Mb} {k : Nat} (hk : k < l.length) : ((l.take k).map (fdM q) ++ l.drop k).set k (fdM q l[k]) = (l.take (k + 1)).map (fdM q) ++ l.drop (k + 1) := by
  have e : l.drop k = l[k] :: l.drop (k + 1) := List.drop_eq_getElem_cons hk
  rw [List.set_append_right _ _ (by simp; omega), show k - ((l.take k).map (fdM q)).length = 0 by simp; omega, e, List.set_cons_zero, List.take_succ_eq_append_getElem hk, List.map_append, List.append_assoc]
  rfl
/-- What stands ahead of each round of Fold. -/
structure FI (w : World) (x : X) (v : List Int) (u : Value) (CS : Value → Array Value) (n : Nat) (wr : World) : Prop where
  r : Rw wr w.heap.size 27 (CS u)
  c : Bxc wr (w.heap.size + 1) v
  z : Rw wr (w.heap.size + 2) 27 (cvc 0 0 (.slice none 0 0) (.slice none 0 0) (.slice none 0 0) (.slice none 0 0))
  i : ∃ ms, wr.ownsRow (w.heap.size + 3) 41 3 u x.mb.length (rows Mb.cells ms) ∧ OwnB (w.heap.size + 3) wr ms ∧ ms.map (·.1) = (x.mb.take n).map (fdM (hsP v)) ++ x.mb.drop n
  b : Below w.heap.size w wr
  s : w.heap.size + 3 ≤ wr.heap.size
set_option maxHeartbeats 4000000 in
set_option maxRecDepth 100000 in
theorem fold_any (x : X) (va vw vm ve : Value) (v : List Int) (w : World) (hv : v.length = 13) (h : Four w x va vw vm ve) (hs : Sm x) :
    Calls Try.prog 22 #[CV x.k x.b va vw vm ve, V v] w (Gives (fdX x v) w) := by
  obtain ⟨pa, ca', pw, cw, pm, cm, pe, ce, rfl, rfl, rfl, rfl⟩ := h.slices
  have HF : Hid (Four w x (.slice pa x.am.length ca') (.slice pw x.wr.length cw) (.slice pm x.mb.length cm) (.slice pe x.el.length ce)) := h
  clear h
  obtain ⟨z, HZ⟩ := hid_ex (fdX x v)
  rw [HZ.out]
  have R0 := (((rw_new w 27 (cvc x.k x.b (.slice pa x.am.length ca') (.slice pw x.wr.length cw) (.slice pm x.mb.length cm) (.slice pe x.el.length ce))).alloc (.cells (vals v).toArray 31)).alloc (.cells (cvc 0 0 (.slice none 0 0) (.slice none 0 0) (.slice none 0 0) (.slice none 0 0)) 27))
  have R1 : Rw (((w.alloc (.cells (cvc x.k x.b (.slice pa x.am.length ca') (.slice pw x.wr.length cw) (.slice pm x.mb.length cm) (.slice pe x.el.length ce)) 27)).alloc (.cells (vals v).toArray 31)).alloc (.cells (cvc 0 0 (.slice none 0 0) (.slice none 0 0) (.slice none 0 0) (.slice none 0 0)) 27)) (w.alloc (.cells (cvc x.k x.b (.slice pa x.am.length ca') (.slice pw x.wr.length cw) (.slice pm x.mb.length cm) (.slice pe x.el.length ce)) 27)).heap.size 31 (vals v).toArray := ((rw_new (w.alloc (.cells (cvc x.k x.b (.slice pa x.am.length ca') (.slice pw x.wr.length cw) (.slice pm x.mb.length cm) (.slice pe x.el.length ce)) 27)) 31 (vals v).toArray).alloc (.cells (cvc 0 0 (.slice none 0 0) (.slice none 0 0) (.slice none 0 0) (.slice none 0 0)) 27))
  have R3 := (rw_new ((w.alloc (.cells (cvc x.k x.b (.slice pa x.am.length ca') (.slice pw x.wr.length cw) (.slice pm x.mb.length cm) (.slice pe x.el.length ce)) 27)).alloc (.cells (vals v).toArray 31)) 27 (cvc 0 0 (.slice none 0 0) (.slice none 0 0) (.slice none 0 0) (.slice none 0 0)))
  have hbel := bel_alloc (bel_alloc (bel_alloc (Below.refl w.heap.size w) (.cells (cvc x.k x.b (.slice pa x.am.length ca') (.slice pw x.wr.length cw) (.slice pm x.mb.length cm) (.slice pe x.el.length ce)) 27)) (.cells (vals v).toArray 31)) (.cells (cvc 0 0 (.slice none 0 0) (.slice none 0 0) (.slice none 0 0) (.slice none 0 0)) 27)
  have hsz : (((w.alloc (.cells (cvc x.k x.b (.slice pa x.am.length ca') (.slice pw x.wr.length cw) (.slice pm x.mb.length cm) (.slice pe x.el.length ce)) 27)).alloc (.cells (vals v).toArray 31)).alloc (.cells (cvc 0 0 (.slice none 0 0) (.slice none 0 0) (.slice none 0 0) (.slice none 0 0)) 27)).heap.size = w.heap.size + 3 := by simp
  generalize hW : (((w.alloc (.cells (cvc x.k x.b (.slice pa x.am.length ca') (.slice pw x.wr.length cw) (.slice pm x.mb.length cm) (.slice pe x.el.length ce)) 27)).alloc (.cells (vals v).toArray 31)).alloc (.cells (cvc 0 0 (.slice none 0 0) (.slice none 0 0) (.slice none 0 0) (.slice none 0 0)) 27)) = w0 at R0 R1 R3 hbel hsz
  simp only [World.size_alloc, Nat.add_assoc, Nat.reduceAdd] at R1 R3
  go_enter Try.func22, Try.ntmps22
  go_wp2_with (first | rw [hW] | refine load_r 27 _ rfl rfl _ rfl R0 Try.underlying27 rfl size27 ?_)
  clear hW
  refine (copied_any x _ _ _ _ w0 (HF.out.later hbel) hs).mono ?_
  rintro e w1 ⟨ua, uw, um, ue, rfl, ho, hb1⟩
  obtain ⟨qa, da, qw, dw, qm, dx, qe, de, rfl, rfl, rfl, rfl⟩ := ho.four.slices
  rw [hsz] at ho
  replace R0 := R0.later hb1
  replace R1 := R1.later hb1
  replace R3 := R3.later hb1
  replace hbel := below_on hbel hb1
  have hB : w.heap.size + 3 ≤ w1.heap.size := by have := hb1.size; omega
  clear hb1 hsz
  have ho2 := ho.row (by omega) R0 (cvc x.k x.b (.slice qa x.am.length da) (.slice qw x.wr.length dw) (.slice qm x.mb.length dx) (.slice qe x.el.length de))
  have hbs := below_setRow hbel (Nat.le_refl w.heap.size) (cvc x.k x.b (.slice qa x.am.length da) (.slice qw x.wr.length dw) (.slice qm x.mb.length dx) (.slice qe x.el.length de))
  have hB2 : w.heap.size + 3 ≤ (w1.setRow w.heap.size (cvc x.k x.b (.slice qa x.am.length da) (.slice qw x.wr.length dw) (.slice qm x.mb.length dx) (.slice qe x.el.length de))).heap.size := by simpa [World.setRow] using hB
  replace R1 := R1.rowOther (q := w.heap.size) (by omega) (cvc x.k x.b (.slice qa x.am.length da) (.slice qw x.wr.length dw) (.slice qm x.mb.length dx) (.slice qe x.el.length de))
  replace R3 := R3.rowOther (q := w.heap.size) (by omega) (cvc x.k x.b (.slice qa x.am.length da) (.slice qw x.wr.length dw) (.slice qm x.mb.length dx) (.slice qe x.el.length de))
  have R4 := R0.row (cvc x.k x.b (.slice qa x.am.length da) (.slice qw x.wr.length dw) (.slice qm x.mb.length dx) (.slice qe x.el.length de))
  generalize hW : w1.setRow w.heap.size (cvc x.k x.b (.slice qa x.am.length da) (.slice qw x.wr.length dw) (.slice qm x.mb.length dx) (.slice qe x.el.length de)) = w2 at ho2 hbs hB2 R1 R3 R4
  go_wp2_with (first | rw [hW] | refine store_r rfl 27 _ _ rfl _ (cvc x.k x.b (.slice qa x.am.length da) (.slice qw x.wr.length dw) (.slice qm x.mb.length dx) (.slice qe x.el.length de)) rfl rfl R0 size27 rfl (by simp [Value.oneCell']) ?_ | refine load_r 27 _ rfl rfl _ rfl R4 Try.underlying27 rfl size27 ?_)
  clear hW ho hbel hB R0
  refine (check_any x _ _ _ _ w2 ho2.four hs).mono ?_
  rintro e w3 ⟨rfl, hb1⟩
  replace R1 := R1.later hb1
  replace R3 := R3.later hb1
  replace R4 := R4.later hb1
  replace ho2 := ho2.later hb1
  replace hbs := below_on hbs hb1
  replace hB2 := Nat.le_trans hB2 hb1.size
  clear hb1
  have HQ : Hid (z = if ck x = true then { x with mb := fdL (hsP v) x.mb } else x) := by
    show _ = _
    rw [← HZ.out]
    rfl
  clear HZ
  obtain ⟨y1, HY1⟩ := hid_ex (ck x)
  rw [HY1.out] at HQ ⊢
  cases y1
  · have e := HQ.out
    rw [if_neg (by decide)] at e
    have e := e.symm
    subst e
    go_wp2_with (first | refine load_r 27 _ rfl rfl _ rfl R4 Try.underlying27 rfl size27 ?_ | refine store_r rfl 27 _ _ rfl _ (cvc x.k x.b (.slice qa x.am.length da) (.slice qw x.wr.length dw) (.slice qm x.mb.length dx) (.slice qe x.el.length de)) rfl rfl R3 size27 rfl (by simp [Value.oneCell']) ?_)
    refine bodyPost_ret (results_r rfl rfl (R3.row (cvc x.k x.b (.slice qa x.am.length da) (.slice qw x.wr.length dw) (.slice qm x.mb.length dx) (.slice qe x.el.length de))) rfl Try.underlying27 size27) rfl ?_
    exact ⟨_, _, _, _, rfl, (ho2.row (by omega) R3 (cvc x.k x.b (.slice qa x.am.length da) (.slice qw x.wr.length dw) (.slice qm x.mb.length dx) (.slice qe x.el.length de))).four, below_setRow hbs (by omega) _⟩
  · have e := HQ.out
    rw [if_pos rfl] at e
    have HQ2 : Hid (z = { x with mb := fdL (hsP v) x.mb }) := e
    clear e HQ
    obtain ⟨ms, hms, hom, hOB⟩ := ho2.m
    have HCK : Hid (x.am.length = 0 ∧ x.wr.length = 0 ∧ x.el.length = 0) := ⟨(ck_parts HY1.out).2.2.1, (ck_parts HY1.out).2.2.2.1, (ck_parts HY1.out).2.2.2.2.1⟩
    have HFZ : Hid (∀ (w' : World) (vm' : Value) (l : List Mb), BHas w' vm' l → Four w' { x with mb := l } (.slice qa x.am.length da) (.slice qw x.wr.length dw) vm' (.slice qe x.el.length de)) := fun w' vm' l hm => four_zero ho2.four HCK.out.1 HCK.out.2.1 HCK.out.2.2 hm
    have FI0 : FI w x v (.slice qm x.mb.length dx) (fun vu => cvc x.k x.b (.slice qa x.am.length da) (.slice qw x.wr.length dw) vu (.slice qe x.el.length de)) 0 w3 := ⟨R4, ⟨hv, R1⟩, R3, ⟨ms, hom, hOB, by rw [hms]; simp⟩, hbs, hB2⟩
    have c4 : w3.cell? ⟨w.heap.size, 4, none⟩ = some (.slice qm x.mb.length dx) := R4.cell 4
    have hmb := hs.m
    have HMI : Hid (∀ m ∈ x.mb, m.ms.length ≤ 100) := hs.mi
    clear R1 R3 R4 hom hOB ho2 hbs hB2 HF hs hms HCK HY1
    go_wp2_with fail
    clear c4
    go_loopw [18] (fun vi wr => ∃ k : Nat, vi = .int .i64 k ∧ k ≤ x.mb.length ∧ FI w x v (.slice qm x.mb.length dx) (fun vu => cvc x.k x.b (.slice qa x.am.length da) (.slice qw x.wr.length dw) vu (.slice qe x.el.length de)) k wr) (fun vi _ => x.mb.length - (intOf vi).toNat)
    case atStart => exact ⟨0, rfl, by omega, FI0⟩
    case round =>
      clear FI0
      obtain ⟨k, rfl, hk, HI⟩ := hrel
      obtain ⟨R0, RC, R3, ⟨ms, hom, hOB, hms⟩, hbel, hB⟩ := HI
      by_cases hlt : k < x.mb.length
      · have hlt' : (k : Int) < (x.mb.length : Int) := by omega
        have hk0 : (0 : Int) ≤ (k : Int) := by omega
        have hml : ms.length = x.mb.length := by
          have := congrArg List.length hms
          rw [List.length_map, List.length_append, List.length_map, List.length_take, List.length_drop] at this
          omega
        obtain ⟨g, rfl, hg⟩ := own_some hom (by omega)
        have hkz : k < ms.length := by omega
        have HE : Hid (ms[k].1 = x.mb[k]) := by
          show _ = _
          have h1 : (ms.map (·.1))[k]? = some x.mb[k] := by
            rw [hms, List.getElem?_append_right (by rw [List.length_map, List.length_take]; omega), List.length_map, List.length_take, List.getElem?_drop, show k + (k - min k x.mb.length) = k by omega, List.getElem?_eq_getElem hlt]
          rw [List.getElem?_map, List.getElem?_eq_getElem hkz] at h1
          simpa using h1
        have hsplit : ms = ms.take k ++ ms[k] :: ms.drop (k + 1) := by rw [← List.drop_eq_getElem_cons hkz, List.take_append_drop]
        have HSET : Hid (∀ z, ms.set k z = ms.take k ++ z :: ms.drop (k + 1)) := fun z => by rw [List.set_eq_take_append_cons_drop, if_pos hkz]
        have d : wr.rangeAt g (k * 3) (Mb.cells ms[k]) := fun j r hr => by
          rw [hom.cellAt (k * 3 + j) (by have := (List.getElem?_eq_some_iff.1 hr).1; simp at this; omega)]
          exact rows_at Mb.len ms k hkz j r hr
        have hoy := hOB.o ms[k] (List.getElem_mem _)
        have hyl : x.mb[k].ms.length ≤ 100 := HMI.out _ (List.getElem_mem _)
        rw [← HE.out] at hyl
        have hap : ∀ a ∈ ms.take k ++ ms.drop (k + 1), ∀ j, a.2.ownBlock = some j → (ms[k]).2.ownBlock ≠ some j := by
          have := hOB
          rw [hsplit] at this
          exact this.apart
        have hot : ∀ w', Kp (ms[k]).2.ownBlock wr w' → OwnB (w.heap.size + 3) w' (ms.take k ++ ms.drop (k + 1)) := fun w' hk' => by
          have := hOB
          rw [hsplit] at this
          exact this.others hk'
        have HLS : Hid (∀ z : Mb × Value, z.1 = fdM (hsP v) x.mb[k] → (ms.set k z).map (·.1) = (x.mb.take (k + 1)).map (fdM (hsP v)) ++ x.mb.drop (k + 1)) := fun z hz => by
          rw [List.map_set, hms, hz, fdL_set hlt]
        have HFD : Hid (fdM (hsP v) x.mb[k] = ⟨(ms[k]).1.x, (ms[k]).1.b || decide (((ms[k]).1.ms.filter (fun m => !hs v m.p m.s)).length < (ms[k]).1.ms.length), (ms[k]).1.ms.filter (fun m => !hs v m.p m.s)⟩) := by
          show _ = _
          rw [HE.out]
          rfl
        clear hsplit
        obtain ⟨yy, HX⟩ := hid_ex ms[k]
        have HX1 := HX.out
        rw [HX1] at d hoy hyl
        simp only [HX1] at hap hot HFD
        obtain ⟨y, yv⟩ := yy
        replace hoy : wr.ownsRow (w.heap.size + 3) 44 3 yv y.ms.length (rows M.cells y.ms) := hoy
        obtain ⟨py, cy, rfl⟩ := own_sl hoy
        replace d : wr.rangeAt g (k * 3) [Value.string y.x, .bool y.b, .slice py y.ms.length cy] := d
        replace hyl : y.ms.length ≤ 100 := hyl
        replace HFD : Hid (fdM (hsP v) x.mb[k] = ⟨y.x, y.b || decide ((y.ms.filter (fun m => !hs v m.p m.s)).length < y.ms.length), y.ms.filter (fun m => !hs v m.p m.s)⟩) := HFD
        have HAP : Hid (∀ a ∈ ms.take k ++ ms.drop (k + 1), ∀ j, a.2.ownBlock = some j → (Value.slice py y.ms.length cy).ownBlock ≠ some j) := hap
        have HOT : Hid (∀ w', Kp (Value.slice py y.ms.length cy).ownBlock wr w' → OwnB (w.heap.size + 3) w' (ms.take k ++ ms.drop (k + 1))) := hot
        clear hap hot HX HX1 HE hms
        have zb : (Try.prog.info? 41).map (·.size) = some [Value.string y.x, .bool y.b, .slice py y.ms.length cy].length := size41
        have RB := rw_new wr 41 #[.string y.x, .bool y.b, .slice py y.ms.length cy]
        have hbA := bel_alloc (Below.refl wr.heap.size wr) (.cells #[.string y.x, .bool y.b, .slice py y.ms.length cy] 41)
        have CD := deleteF_any (w.heap.size + 3) (.slice py y.ms.length cy) y.ms (w.heap.size + 1) v _ hv (own_later hoy hbA) hyl (by omega) (Nat.le_trans hB hbA.size) (RC.later hbA)
        obtain ⟨l5, HL5⟩ := hid_ex (y.ms.filter (fun m => !hs v m.p m.s))
        rw [HL5.out] at CD HFD
        have hbx : w.heap.size + 3 ≤ wr.heap.size := hB
        have hgl : g < wr.heap.size := (World.ownsRow.lt hom g rfl).2
        replace R0 := R0.later hbA
        replace RC := RC.later hbA
        replace R3 := R3.later hbA
        replace hom := own_later hom hbA
        replace hoy := own_later hoy hbA
        replace hbel := below_on hbel hbA
        replace hB := Nat.le_trans hB hbA.size
        have HOT2 : Hid (∀ w', Kp (Value.slice py y.ms.length cy).ownBlock (wr.alloc (.cells #[.string y.x, .bool y.b, .slice py y.ms.length cy] 41)) w' → OwnB (w.heap.size + 3) w' (ms.take k ++ ms.drop (k + 1))) := fun w' hk' => HOT.out w' (fun b h1 h2 => (hk' b (Nat.lt_of_lt_of_le h1 hbA.size) h2).trans (hbA.block b h1))
        clear HOT hOB HL5 hbA
        generalize hW : wr.alloc (.cells #[.string y.x, .bool y.b, .slice py y.ms.length cy] 41) = w4 at RB R0 RC R3 hom hoy hbel hB CD HOT2
        have cb2 : w4.cell? ⟨wr.heap.size, 2, none⟩ = some (.slice py y.ms.length cy) := RB.cell 2
        go_wp2_with (first | rw [hW] | refine load_m 41 _ rfl rfl _ _ rfl d Try.underlying41 rfl zb ?_)
        clear hW cb2 d zb
        refine CD.mono ?_
        clear CD
        rintro e w5 ⟨u5, rfl, ho5, hk5, hu5, hb5⟩
        obtain ⟨p5, c5, rfl⟩ := own_sl ho5
        have HOB5 : Hid (OwnB (w.heap.size + 3) w5 (ms.take k ++ ms.drop (k + 1))) := HOT2.out w5 hk5
        replace RB : Rw w5 wr.heap.size 41 _ := (hk5 _ RB.lt (fun e => own_ne hoy RB (by decide) _ e rfl)).trans RB
        have hnm := own_tag hoy hom (by decide) (g := g) rfl
        replace hom := own_kp hom hk5 (fun j hj e => by
          have hj' := Option.some.inj (show some g = some j from hj)
          subst hj'
          exact hnm _ e rfl)
        replace R0 : Rw w5 w.heap.size 27 _ := (hb5.block _ (by omega)).trans R0
        replace RC : Bxc w5 (w.heap.size + 1) v := At.below RC hb5 (by omega)
        replace R3 : Rw w5 (w.heap.size + 2) 27 _ := (hb5.block _ (by omega)).trans R3
        replace hbel := hbel.trans (hb5.mono (show w.heap.size ≤ w.heap.size + 3 by omega))
        replace hB := Nat.le_trans hB hb5.size
        have HOC : Hid (OwnB (w.heap.size + 3) w5 (ms.set k (⟨y.x, y.b || decide (l5.length < y.ms.length), l5⟩, .slice p5 l5.length c5))) := by
          rw [HSET.out]
          exact HOB5.out.mid ho5 (fun k' hk' a ha h2 => by
            rcases hu5 with h3 | h3
            · rw [show (Value.slice p5 l5.length c5).ownBlock = some k' from hk'] at h3
              cases h3
            · exact HAP.out a ha k' h2 (by rw [← h3]; exact hk'))
        clear hk5 hb5 hoy HOT2 HOB5 hnm hu5 ho5 HAP
        have g2 : w5.cell? ⟨wr.heap.size, 2, none⟩ = some (.slice py y.ms.length cy) := RB.cell 2
        have g0 : w5.cell? ⟨wr.heap.size, 0, none⟩ = some (.string y.x) := RB.cell 0
        have g1 : w5.cell? ⟨wr.heap.size, 1, none⟩ = some (.bool y.b) := RB.cell 1
        have c4 : w5.cell? ⟨w.heap.size, 4, none⟩ = some (.slice (some ⟨g, 0, none⟩) x.mb.length dx) := R0.cell 4
        obtain ⟨bz, HBZ⟩ := hid_ex (y.b || decide (l5.length < y.ms.length))
        have HLS2 := HLS.out (⟨y.x, bz, l5⟩, .slice p5 l5.length c5) (by rw [HFD.out, HBZ.out])
        rw [HBZ.out] at HOC
        have HLS3 : Hid ((ms.set k (⟨y.x, bz, l5⟩, .slice p5 l5.length c5)).map (·.1) = (x.mb.take (k + 1)).map (fdM (hsP v)) ++ x.mb.drop (k + 1)) := HLS2
        have hbz : (y.b || decide (l5.length < y.ms.length)) = bz := HBZ.out
        obtain ⟨yb, HYB⟩ := hid_ex y.b
        rw [HYB.out] at g1 hbz
        have HBZ2 : Hid ((yb || decide (l5.length < y.ms.length)) = bz) := hbz
        clear HLS HLS2 HFD HBZ HSET hbz
        obtain ⟨hxl, ⟨h0, _⟩ | ⟨g', cap, cur, h0, hBg, hgc, hnc, hcm, hcs, htake⟩⟩ := hom
        · simp at h0
        simp only [Value.slice.injEq, Option.some.injEq, Addr.mk.injEq, and_true, true_and] at h0
        obtain ⟨rfl, rfl⟩ := h0
        have RR : Rw w5 g 41 cur := hgc
        have HRP : Hid ((cur.toList.take (k * 3) ++ [Value.string y.x, .bool bz, .slice p5 l5.length c5] ++ cur.toList.drop (k * 3 + 3)).take (ms.length * 3) = rows Mb.cells (ms.set k (⟨y.x, bz, l5⟩, .slice p5 l5.length c5))) := rows_put hkz (by rw [hml]; exact htake) (⟨y.x, bz, l5⟩, .slice p5 l5.length c5)
        have hwl : cur.size = dx * 3 := hcs
        have HFIN : Hid (FI w x v (.slice (some ⟨g, 0, none⟩) x.mb.length dx) (fun vu => cvc x.k x.b (.slice qa x.am.length da) (.slice qw x.wr.length dw) vu (.slice qe x.el.length de)) (k + 1) (w5.setRow g (cur.toList.take (k * 3) ++ [Value.string y.x, .bool bz, .slice p5 l5.length c5] ++ cur.toList.drop (k * 3 + 3)).toArray)) := by
          have hkg : Kp (some g) w5 (w5.setRow g (cur.toList.take (k * 3) ++ [Value.string y.x, .bool bz, .slice p5 l5.length c5] ++ cur.toList.drop (k * 3 + 3)).toArray) := Kp.row (fun _ _ _ => rfl) _
          refine ⟨R0.rowOther (by omega) _, RC.row (by omega) _, R3.rowOther (by omega) _, ⟨_, ?_, ⟨fun a ha => own_kp (HOC.out.o a ha) hkg (fun j hj e => own_ne (HOC.out.o a ha) RR (by decide) j hj (Option.some.inj e).symm), HOC.out.d⟩, HLS3.out⟩, below_setRow hbel (by omega) _, by simpa [World.setRow] using hB⟩
          refine ⟨?_, .inr ⟨g, dx, _, rfl, hBg, RR.row _, hnc, hcm, ?_, ?_⟩⟩
          · rw [rows_length Mb.len, List.length_set, hml]
          · rw [List.size_toArray, List.length_append, List.length_append, List.length_take, List.length_drop, Array.length_toList, hwl]
            simp only [List.length_cons, List.length_nil]
            omega
          · rw [List.toList_toArray, ← hml]
            exact HRP.out
        have hfit : k * 3 + 3 ≤ cur.size := by omega
        clear HOC HLS3 HRP hgc htake hcs hcm hxl RC R3 HMI
        cases yb
        · have hbz : decide (l5.length < y.ms.length) = bz := by simpa using HBZ2.out
          go_wp2_with (first | refine store_mr rfl 41 _ _ rfl _ _ #[.string y.x, .bool bz, .slice p5 l5.length c5] rfl rfl RR size41 hfit (by simp [Value.oneCell']) ?_)
          go_roundw
          case rel => exact ⟨k + 1, by simp, by omega, by simpa using HFIN.out⟩
          case measure => simp [intOf]; omega
        · have hbz : true = bz := by simpa using HBZ2.out
          subst hbz
          go_wp2_with (first | refine store_mr rfl 41 _ _ rfl _ _ #[.string y.x, .bool true, .slice p5 l5.length c5] rfl rfl RR size41 hfit (by simp [Value.oneCell']) ?_)
          go_roundw
          case rel => exact ⟨k + 1, by simp, by omega, by simpa using HFIN.out⟩
          case measure => simp [intOf]; omega
      · have hlt' : ¬ (k : Int) < (x.mb.length : Int) := by omega
        obtain rfl : k = x.mb.length := by omega
        rw [List.take_length, List.drop_length, List.append_nil] at hms
        have HM : Hid (ms.map (·.1) = fdL (hsP v) x.mb) := hms
        clear hms
        have e := HQ2.out.symm
        subst e
        replace R0 : Rw wr w.heap.size 27 (cvc x.k x.b (.slice qa x.am.length da) (.slice qw x.wr.length dw) (.slice qm x.mb.length dx) (.slice qe x.el.length de)) := R0
        go_wp2_with (first | refine load_r 27 _ rfl rfl _ rfl R0 Try.underlying27 rfl size27 ?_ | refine store_r rfl 27 _ _ rfl _ (cvc x.k x.b (.slice qa x.am.length da) (.slice qw x.wr.length dw) (.slice qm x.mb.length dx) (.slice qe x.el.length de)) rfl rfl R3 size27 rfl (by simp [Value.oneCell']) ?_)
        refine bodyPost_ret (results_r rfl rfl (R3.row (cvc x.k x.b (.slice qa x.am.length da) (.slice qw x.wr.length dw) (.slice qm x.mb.length dx) (.slice qe x.el.length de))) rfl Try.underlying27 size27) rfl ?_
        have ho9 := own_row hom (b := w.heap.size + 2) (by omega) (cvc x.k x.b (.slice qa x.am.length da) (.slice qw x.wr.length dw) (.slice qm x.mb.length dx) (.slice qe x.el.length de))
        have hO9 := hOB.row (b := w.heap.size + 2) (by omega) (cvc x.k x.b (.slice qa x.am.length da) (.slice qw x.wr.length dw) (.slice qm x.mb.length dx) (.slice qe x.el.length de))
        refine ⟨_, _, _, _, rfl, HFZ.out _ _ _ ⟨ms, HM.out, ?_, hO9.has⟩, below_setRow hbel (by omega) _⟩
        show SHas 3 _ _ (fdL (hsP v) x.mb).length _
        rw [show (fdL (hsP v) x.mb).length = x.mb.length by simp [fdL]]
        exact own_sh ho9
end Go.Proofs.Ytdnppcbdifckcaa
