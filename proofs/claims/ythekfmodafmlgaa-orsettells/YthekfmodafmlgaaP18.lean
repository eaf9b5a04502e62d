import Derived.Test.YthekfmodafmlgaaP17
/- Add of the document's answer. -/
namespace Go.Proofs.Ythekfmodafmlgaa
open Go.RowKit Go.Sort

theorem filter_lt_all {A : List Mb} {s : Bs} (h : ∀ y ∈ A, tx y < s) : A.filter (fun a => decide (tx a < s)) = A ∧ A.filter (fun a => decide (s < tx a)) = [] :=
  ⟨List.filter_eq_self.2 (fun a ha => decide_eq_true (h a ha)), List.filter_eq_nil_iff.2 (fun a ha => by simpa using Bs.le_of (h a ha))⟩
theorem lt_ne {A : List Mb} {s : Bs} (h : ∀ y ∈ A, tx y < s) : ∀ y ∈ A, tx y ≠ s := fun y hy e => by
  have := h y hy
  rw [e] at this
  exact Bs.irr _ this
theorem addL_end {l : List Mb} {s : ByteArray} {m : M} (h : ∀ y ∈ l, tx y < bs s) : addL l s m = l ++ [⟨s, false, wth [] m⟩] := by
  unfold addL addY putL
  rw [look_none (lt_ne h)]
  obtain ⟨e1, e2⟩ := filter_lt_all h
  show l.filter (fun a => decide (tx a < bs s)) ++ _ :: l.filter (fun a => decide (bs s < tx a)) = _
  rw [e1, e2]
  rfl
theorem addL_hit {A : List Mb} {y : Mb} {s : ByteArray} {m : M} (h : ∀ y ∈ A, tx y < bs s) (e : tx y = bs s) : addL (A ++ [y]) s m = A ++ [⟨y.x, y.b, wth y.ms m⟩] := by
  unfold addL addY
  rw [look_mid (C := []) e h, bs_inj e]
  exact putL_mid (C := []) (y := y) e h (fun _ h => by cases h)
theorem addL_gap {A : List Mb} {y : Mb} {s : ByteArray} {m : M} (h : ∀ y ∈ A, tx y < bs s) (hy : bs s < tx y) : addL (A ++ [y]) s m = A ++ [⟨s, false, wth [] m⟩] ++ [y] := by
  unfold addL addY
  rw [look_none (fun z hz => ?_)]
  · rw [List.append_assoc]
    exact putL_gap (C := [y]) (z := ⟨s, false, wth [] m⟩) h (fun c hc => by rw [List.mem_singleton.1 hc]; exact hy)
  · rcases List.mem_append.1 hz with h1 | h1
    · exact lt_ne h z h1
    · rw [List.mem_singleton.1 h1]
      intro e
      rw [e] at hy
      exact Bs.irr _ hy
theorem addL_snoc {l : List Mb} {y : Mb} {s : ByteArray} {m : M} (hy : bs s < tx y) : addL (l ++ [y]) s m = addL l s m ++ [y] := by
  have hl : look (l ++ [y]) (bs s) = look l (bs s) := by
    unfold look
    rw [List.find?_append, List.find?_cons_of_neg, List.find?_nil, Option.or_none]
    simp only [decide_eq_true_eq]
    intro e
    rw [e] at hy
    exact Bs.irr _ hy
  unfold addL addY putL
  rw [hl]
  show (l ++ [y]).filter (fun a => decide (tx a < bs s)) ++ _ :: (l ++ [y]).filter (fun a => decide (bs s < tx a)) = _
  rw [List.filter_append, List.filter_append, List.filter_cons_of_neg (by simpa using Bs.le_of hy), List.filter_cons_of_pos (by simpa using hy), List.filter_nil, List.filter_nil, List.append_nil, List.append_assoc, List.cons_append]
/-- What stands so far. -/
def AInv (s : ByteArray) (m : M) (l : List Mb) (k : Nat) (d : Bool) (L : List Mb) : Prop := (d = true → L = addL (l.take k) s m ∧ ∃ j, ∃ h : j < l.length, j < k ∧ ¬ tx l[j] < bs s) ∧ (d = false → L = l.take k ∧ ∀ y ∈ l.take k, tx y < bs s)
set_option maxHeartbeats 8000000 in
set_option maxRecDepth 100000 in
theorem refAdd_any (x : X) (va vw vm ve : Value) (q u : Int) (v : List Int) (t : Int) (sl : Value) (idx : Int) (s : ByteArray) (w : World) (_hv : v.length = 13) (h : Four w x va vw vm ve) (hs : Sm x) :
    Calls Try.prog 18 #[CV x.k x.b va vw vm ve, TxV q u v t sl, .int .i64 idx, .string s] w (Gives (addX x ⟨q, u, idx⟩ s) w) := by
  obtain ⟨i0, hi, hz0, hz1, hz2⟩ := info_parts info41
  obtain ⟨z, HZ⟩ := hid_ex (addX x ⟨q, u, idx⟩ s)
  rw [HZ.out]
  obtain ⟨pa, ca', pw, cw, pm, cm, pe, ce, rfl, rfl, rfl, rfl⟩ := h.slices
  have HF : Hid (Four w x (.slice pa x.am.length ca') (.slice pw x.wr.length cw) (.slice pm x.mb.length cm) (.slice pe x.el.length ce)) := h
  clear h
  obtain ⟨ys, hys, HS, HYS⟩ := HF.out.m
  have hyl : ys.length = x.mb.length := by rw [← hys, List.length_map]
  have HR : Hid (SHas 3 w (.slice pm x.mb.length cm) x.mb.length (rows Mb.cells ys)) := HS
  have HYY : Hid (∀ y ∈ ys, MHas w y.2 y.1.ms) := HYS
  have HL : Hid (∀ k (h1 : k < ys.length) (h2 : k < x.mb.length), ys[k].1 = x.mb[k]) := fun k h1 h2 => by
    have := congrArg (fun l => l[k]?) hys
    simp only [List.getElem?_map, List.getElem?_eq_getElem h1, List.getElem?_eq_getElem h2, Option.map_some, Option.some.injEq] at this
    exact this
  have HMI : Hid (∀ m ∈ x.mb, m.ms.length ≤ 100) := hs.mi
  have hm100 := hs.m
  clear hys HS HYS
  have R0 := (((rw_new w 27 (cvc x.k x.b (.slice pa x.am.length ca') (.slice pw x.wr.length cw) (.slice pm x.mb.length cm) (.slice pe x.el.length ce))).alloc (.cells (txc q u v t sl).toArray 34)).alloc (.cells (cvc 0 0 (.slice none 0 0) (.slice none 0 0) (.slice none 0 0) (.slice none 0 0)) 27))
  have R1 := ((rw_new (w.alloc (.cells (cvc x.k x.b (.slice pa x.am.length ca') (.slice pw x.wr.length cw) (.slice pm x.mb.length cm) (.slice pe x.el.length ce)) 27)) 34 (txc q u v t sl).toArray).alloc (.cells (cvc 0 0 (.slice none 0 0) (.slice none 0 0) (.slice none 0 0) (.slice none 0 0)) 27))
  have R2 := (rw_new ((w.alloc (.cells (cvc x.k x.b (.slice pa x.am.length ca') (.slice pw x.wr.length cw) (.slice pm x.mb.length cm) (.slice pe x.el.length ce)) 27)).alloc (.cells (txc q u v t sl).toArray 34)) 27 (cvc 0 0 (.slice none 0 0) (.slice none 0 0) (.slice none 0 0) (.slice none 0 0)))
  have hbel := bel_alloc (bel_alloc (bel_alloc (Below.refl w.heap.size w) (.cells (cvc x.k x.b (.slice pa x.am.length ca') (.slice pw x.wr.length cw) (.slice pm x.mb.length cm) (.slice pe x.el.length ce)) 27)) (.cells (txc q u v t sl).toArray 34)) (.cells (cvc 0 0 (.slice none 0 0) (.slice none 0 0) (.slice none 0 0) (.slice none 0 0)) 27)
  have hB : w.heap.size + 3 ≤ (((w.alloc (.cells (cvc x.k x.b (.slice pa x.am.length ca') (.slice pw x.wr.length cw) (.slice pm x.mb.length cm) (.slice pe x.el.length ce)) 27)).alloc (.cells (txc q u v t sl).toArray 34)).alloc (.cells (cvc 0 0 (.slice none 0 0) (.slice none 0 0) (.slice none 0 0) (.slice none 0 0)) 27)).heap.size := by simp
  generalize hW : (((w.alloc (.cells (cvc x.k x.b (.slice pa x.am.length ca') (.slice pw x.wr.length cw) (.slice pm x.mb.length cm) (.slice pe x.el.length ce)) 27)).alloc (.cells (txc q u v t sl).toArray 34)).alloc (.cells (cvc 0 0 (.slice none 0 0) (.slice none 0 0) (.slice none 0 0) (.slice none 0 0)) 27)) = w0 at R0 R1 R2 hbel hB
  simp only [World.size_alloc, Nat.add_assoc, Nat.reduceAdd] at R1 R2
  go_enter Try.func18, Try.ntmps18
  go_wp2_with (first | rw [hW] | refine load_r 27 _ rfl rfl _ rfl R0 Try.underlying27 rfl size27 ?_)
  clear hW
  refine (refCheck_any x _ _ _ _ w0 (HF.out.later hbel) hs).mono ?_
  rintro e w1 ⟨rfl, hb1⟩
  replace R0 := R0.later hb1
  replace R1 := R1.later hb1
  replace R2 := R2.later hb1
  replace hbel := below_on hbel hb1
  replace hB := Nat.le_trans hB hb1.size
  clear hb1
  obtain ⟨y1, HY1⟩ := hid_ex (ck x)
  rw [HY1.out]
  cases y1
  ·
    have e : x = z := by rw [← HZ.out]; unfold addX; rw [HY1.out]; rfl
    subst e
    go_wp2_with (first | refine load_r 27 _ rfl rfl _ rfl R0 Try.underlying27 rfl size27 ?_ | refine store_r rfl 27 _ _ rfl _ (cvc x.k x.b (.slice pa x.am.length ca') (.slice pw x.wr.length cw) (.slice pm x.mb.length cm) (.slice pe x.el.length ce)) rfl rfl R2 size27 rfl (by simp [Value.oneCell']) ?_)
    refine bodyPost_ret (results_r rfl rfl (R2.row (cvc x.k x.b (.slice pa x.am.length ca') (.slice pw x.wr.length cw) (.slice pm x.mb.length cm) (.slice pe x.el.length ce))) rfl Try.underlying27 size27) rfl ?_
    replace hbel := below_setRow hbel (g := w.heap.size + 2) (by omega) (cvc x.k x.b (.slice pa x.am.length ca') (.slice pw x.wr.length cw) (.slice pm x.mb.length cm) (.slice pe x.el.length ce))
    exact ⟨_, _, _, _, rfl, HF.out.later hbel, hbel⟩
  · have hii : decide (idx < 1) = !im idx := by unfold im; by_cases h : idx < 1 <;> simp [h] <;> omega
    obtain ⟨y2, HY2⟩ := hid_ex (im idx)
    rw [HY2.out] at hii
    cases y2
    · have hil : idx < 1 := of_decide_eq_true hii
      have e : x = z := by rw [← HZ.out]; unfold addX; rw [HY1.out, show im (M.mk q u idx).i = false from HY2.out]; rfl
      subst e
      go_wp2_with (first | refine load_r 27 _ rfl rfl _ rfl R0 Try.underlying27 rfl size27 ?_ | refine store_r rfl 27 _ _ rfl _ (cvc x.k x.b (.slice pa x.am.length ca') (.slice pw x.wr.length cw) (.slice pm x.mb.length cm) (.slice pe x.el.length ce)) rfl rfl R2 size27 rfl (by simp [Value.oneCell']) ?_)
      refine bodyPost_ret (results_r rfl rfl (R2.row (cvc x.k x.b (.slice pa x.am.length ca') (.slice pw x.wr.length cw) (.slice pm x.mb.length cm) (.slice pe x.el.length ce))) rfl Try.underlying27 size27) rfl ?_
      replace hbel := below_setRow hbel (g := w.heap.size + 2) (by omega) (cvc x.k x.b (.slice pa x.am.length ca') (.slice pw x.wr.length cw) (.slice pm x.mb.length cm) (.slice pe x.el.length ce))
      exact ⟨_, _, _, _, rfl, HF.out.later hbel, hbel⟩
    · have hil : ¬ idx < 1 := of_decide_eq_false hii
      clear hii
      by_cases hsx : s.size ≤ 64
      rotate_left
      · have hsx' : (64 : Int) < (s.size : Int) := by omega
        have e : x = z := by rw [← HZ.out]; unfold addX; rw [HY1.out, decide_eq_false hsx]; simp
        subst e
        go_wp2_with (first | refine load_r 27 _ rfl rfl _ rfl R0 Try.underlying27 rfl size27 ?_ | refine store_r rfl 27 _ _ rfl _ (cvc x.k x.b (.slice pa x.am.length ca') (.slice pw x.wr.length cw) (.slice pm x.mb.length cm) (.slice pe x.el.length ce)) rfl rfl R2 size27 rfl (by simp [Value.oneCell']) ?_)
        refine bodyPost_ret (results_r rfl rfl (R2.row (cvc x.k x.b (.slice pa x.am.length ca') (.slice pw x.wr.length cw) (.slice pm x.mb.length cm) (.slice pe x.el.length ce))) rfl Try.underlying27 size27) rfl ?_
        replace hbel := below_setRow hbel (g := w.heap.size + 2) (by omega) (cvc x.k x.b (.slice pa x.am.length ca') (.slice pw x.wr.length cw) (.slice pm x.mb.length cm) (.slice pe x.el.length ce))
        exact ⟨_, _, _, _, rfl, HF.out.later hbel, hbel⟩
      have hsx' : ¬ (64 : Int) < (s.size : Int) := by omega
      have HZ2 : Hid ({ x with mb := addL x.mb s ⟨q, u, idx⟩ } = z) := by
        show _ = _
        rw [← HZ.out]
        unfold addX
        rw [HY1.out, show im (M.mk q u idx).i = true from HY2.out, decide_eq_true hsx]
        rfl
      have HUP : Hid (upm x.mb) := ((cb_pair _).1 (ck_parts HY1.out).2.2.2.2.2).2
      have HCA : Hid (∀ y ∈ x.mb, y.ms.Pairwise (fun a b => lt a b = true)) := fun y hy => by
        have h1 := ((cb_pair _).1 (ck_parts HY1.out).2.2.2.2.2).1 y hy
        unfold ib at h1
        simp only [Bool.and_eq_true, decide_eq_true_eq] at h1
        exact ((ca_pair _).1 h1.2.2).2
      clear HZ
      have d1 := tx_dot R1
      have zd : (Try.prog.info? 29).map (·.size) = some [Value.int .i64 q, .int .i64 u].length := size29
      have hbM := bel_alloc (Below.refl w1.heap.size w1) (.cells #[.int .i64 q, .int .i64 u, .int .i64 idx] 44)
      have RM := rw_new w1 44 #[.int .i64 q, .int .i64 u, .int .i64 idx]
      replace R0 := R0.later hbM
      replace R2 := R2.later hbM
      have hbel2 := below_on hbel hbM
      have hB2 := Nat.le_trans hB hbM.size
      obtain ⟨qb, hqb⟩ : ∃ qb, qb = w1.heap.size := ⟨_, rfl⟩
      have HQB : Hid (w1.heap.size = qb) := hqb.symm
      rw [HQB.out] at RM
      clear hqb
      generalize hWM : w1.alloc (.cells #[.int .i64 q, .int .i64 u, .int .i64 idx] 44) = wm at RM R0 R2 hbel2 hB2
      go_wp2_with (first | rw [hWM] | refine load_m 29 _ rfl rfl _ _ rfl d1 Try.underlying29 rfl zd ?_)
      clear hWM d1 zd R1 hbel hB hbM
      rw [HQB.out]
      clear HQB
      go_loopw [10, 11, 12] (fun vn vd vi wr => ∃ (k : Nat) (fl : Bool) (L : List Mb), vi = .int .i64 k ∧ k ≤ x.mb.length ∧ vd = .bool fl ∧ L.length ≤ k + 1 ∧ Out w (w.heap.size + 3) wr vn L ∧ AInv s ⟨q, u, idx⟩ x.mb k fl L ∧ Rw wr w.heap.size 27 (cvc x.k x.b (.slice pa x.am.length ca') (.slice pw x.wr.length cw) (.slice pm x.mb.length cm) (.slice pe x.el.length ce)) ∧ Rw wr (w.heap.size + 2) 27 (cvc 0 0 (.slice none 0 0) (.slice none 0 0) (.slice none 0 0) (.slice none 0 0)) ∧ Rw wr qb 44 #[.int .i64 q, .int .i64 u, .int .i64 idx] ∧ Below w.heap.size w wr ∧ w.heap.size + 3 ≤ wr.heap.size) (fun _ _ vi _ => x.mb.length - (intOf vi).toNat)
      case atStart => exact ⟨0, false, [], rfl, by omega, rfl, by simp, Out.nil _ _ _, ⟨(fun h => by cases h), fun _ => ⟨by simp, fun y hy => by simp at hy⟩⟩, R0, R2, RM, hbel2, hB2⟩
      case round =>
        clear R0 R2 RM hbel2 hB2 w0 w1
        obtain ⟨k, fl, L, rfl, hk, rfl, hL, hout, HM, R0, R2, RM, hbel, hB⟩ := hrel
        obtain ⟨P, cc, rfl⟩ := hout.sl
        have hL100 : L.length ≤ 102 := Nat.le_trans hL (Nat.le_trans (Nat.add_le_add_right (Nat.le_trans hk hm100) 1) (by decide))
        have c4 : wr.cell? ⟨w.heap.size, 4, none⟩ = some (.slice pm x.mb.length cm) := R0.cell 4
        by_cases hlt : k < x.mb.length
        · have hlt' : (k : Int) < (x.mb.length : Int) := by omega
          have hk0 : (0 : Int) ≤ (k : Int) := by omega
          obtain ⟨g, o, rfl, hd0⟩ := HR.out.at (by omega)
          have d := Mb.elem (range_later hd0 hbel) k (by omega)
          have hyk := HYY.out ys[k] (List.getElem_mem _)
          obtain ⟨yy, HX⟩ := hid_ex (ys[k]'(by omega))
          have HX2 : Hid (x.mb[k] = yy.1) := by
            show _ = _
            rw [← HL.out k (by omega) hlt, HX.out]
          rw [HX.out] at d hyk
          obtain ⟨y, yv⟩ := yy
          replace hyk : MHas w yv y.ms := hyk
          have HMI2 : y.ms.length ≤ 100 := by
            have := HMI.out x.mb[k] (List.getElem_mem _)
            rw [HX2.out] at this
            exact this
          obtain ⟨py, cy, rfl⟩ := hyk.slice
          replace d : wr.rangeAt g (o + k * 3) [Value.string y.x, .bool y.b, .slice py y.ms.length cy] := d
          replace HX2 : Hid (x.mb[k] = y) := HX2
          have HTK : Hid (x.mb.take (k + 1) = x.mb.take k ++ [y]) := by
            show _ = _
            rw [List.take_succ_eq_append_getElem hlt, HX2.out]
          clear hd0 HX
          have zb : (Try.prog.info? 41).map (·.size) = some [Value.string y.x, .bool y.b, .slice py y.ms.length cy].length := size41
          have RB := rw_new wr 41 #[.string y.x, .bool y.b, .slice py y.ms.length cy]
          have hbA := bel_alloc (Below.refl wr.heap.size wr) (.cells #[.string y.x, .bool y.b, .slice py y.ms.length cy] 41)
          have hlo := hout.lt
          have hnb : ∀ q', (Value.slice P L.length cc).ownBlock = some q' → q' ≠ wr.heap.size := fun q' hq => by have := (hlo q' hq).2; omega
          replace R0 := R0.later hbA
          replace R2 := R2.later hbA
          have hqlt : qb < wr.heap.size := RM.lt
          replace RM := RM.later hbA
          replace hout := hout.later hbA
          replace hbel := below_on hbel hbA
          have hBx : w.heap.size + 3 ≤ wr.heap.size := hB
          replace hB := Nat.le_trans hB hbA.size
          generalize hW : wr.alloc (.cells #[.string y.x, .bool y.b, .slice py y.ms.length cy] 41) = w1 at RB R0 R2 RM hout hbel hB
          have c0 : w1.cell? ⟨wr.heap.size, 0, none⟩ = some (.string y.x) := RB.cell 0
          clear hlo hbA
          have HPR : Hid (y.ms.Pairwise (fun a b => lt a b = true)) := by
            have := HCA.out x.mb[k] (List.getElem_mem _)
            rw [HX2.out] at this
            exact this
          obtain ⟨z1, HZ1⟩ := hid_ex (decide (tx y = bs s))
          have E1 : (y.x.toList == s.toList) = z1 := by rw [eq_str, ← HZ1.out]
          obtain ⟨z2, HZ3⟩ := hid_ex (decide (bs s < tx y))
          have E2 : Op.bytesLess s.toList y.x.toList = z2 := by rw [less_str, ← HZ3.out]
          cases fl
          · obtain ⟨hm1, hm2⟩ := HM.2 rfl
            have hmk : L.length ≤ k := by rw [hm1, List.length_take]; omega
            cases z1
            · have hne : tx y ≠ bs s := of_decide_eq_false HZ1.out
              cases z2
              · have hly : tx y < bs s := Bs.tri (of_decide_eq_false HZ3.out) (fun e => hne e.symm)
                have HM2 : AInv s ⟨q, u, idx⟩ x.mb (k + 1) false (L ++ [y]) := ⟨(fun h => by cases h), fun _ => ⟨by rw [HTK.out, hm1], fun y' hy' => by
                  rw [HTK.out] at hy'
                  rcases List.mem_append.1 hy' with h' | h'
                  · exact hm2 y' h'
                  · rw [List.mem_singleton.1 h']
                    exact hly⟩⟩
                clear hm1 hm2 HM hly hne HZ1 HZ3 HPR HUP HCA
                obtain ⟨xs9, hox9, hsn9⟩ := hout.owns
                have HSN9 : Hid (∀ (w2 : World) (v2 : Value) (z : Mb × Value), w1.grownBy w2 (Value.slice P L.length cc).ownBlock → w2.ownsRow (w.heap.size + 3) 41 3 v2 (L.length + 1) (xs9 ++ Mb.cells z) → OKm w w1 z.2 z.1.ms → Out w (w.heap.size + 3) w2 v2 (L ++ [z.1])) := hsn9
                have hBg9 : ∀ q', (Value.slice P L.length cc).ownBlock = some q' → w.heap.size + 3 ≤ q' := fun q' hq => (World.ownsRow.lt hox9 q' hq).1
                have hc1 : ∀ q u, ([Value.string y.x, .bool y.b, .slice py y.ms.length cy] : List Value)[q]? = some u → (w1.alloc (.cells #[Value.string y.x, .bool y.b, .slice py y.ms.length cy] 41)).cell? ((⟨w1.heap.size, 0, none⟩ : Addr).add q) = some u := fun q u hq => (cells_new w1 [Value.string y.x, .bool y.b, .slice py y.ms.length cy] 41 q).trans hq
                have hc2 : ∀ u ∈ ([Value.string y.x, .bool y.b, .slice py y.ms.length cy] : List Value), u.oneCell' = true := by simp [Value.oneCell']
                have hc3 : L.length + 1 ≤ maxLen := Nat.le_trans (Nat.add_le_add_right hL100 1) (by unfold maxLen; decide)
                have hc4 : (L.length + 1) * 48 ≤ 140737488355328 := Nat.le_trans (Nat.mul_le_mul_right 48 (Nat.add_le_add_right hL100 1)) (by decide)
                have hc5 : w.heap.size + 3 ≤ (w1.alloc (.cells #[Value.string y.x, .bool y.b, .slice py y.ms.length cy] 41)).heap.size := by simp; omega
                clear hsn9
                go_wp2_with (first
                  | rw [hW]
                  | refine load_m 41 _ rfl rfl _ _ rfl d Try.underlying41 rfl zb ?_
                  | refine load_r 41 _ rfl rfl _ rfl RB Try.underlying41 rfl size41 ?_
                  | (at_builtin; refine wpList_append_own _ rfl _ _ 24 rfl (w.heap.size + 3) 41 i0 (.agg #[.string noS, .bool false, .slice none 0 0]) 3 48 Try.underlying24 hi hz0 hz1 hz2 rfl (by decide) _ _ _ rfl (hox9.alloc _) ⟨w1.heap.size, 0, none⟩ 1 1 [Value.string y.x, .bool y.b, .slice py y.ms.length cy] rfl rfl hc1 hc2 hc3 hc4 hc5 ?_))
                intro v9 w9 hown9 hg9 _
                clear hW d zb c0 c4 HTK
                have hbA9 := bel_alloc (Below.refl w1.heap.size w1) (.cells #[Value.string y.x, .bool y.b, .slice py y.ms.length cy] 41)
                have hgk9 : w1.grownBy w9 (Value.slice P L.length cc).ownBlock := ⟨hg9.os, hg9.tape, hg9.output, Nat.le_trans hbA9.size hg9.size, fun k' h1 h2 => (hg9.block k' (Nat.lt_of_lt_of_le h1 hbA9.size) h2).trans (hbA9.block k' h1)⟩
                have hout9 : Out w (w.heap.size + 3) w9 v9 (L ++ [y]) := HSN9.out w9 v9 (y, .slice py y.ms.length cy) hgk9 hown9 (.inl hyk)
                have hb9 := hbel.grown hgk9 hbel.size (fun q' hq => by have := hBg9 q' hq; omega)
                have R09 := R0.grown hgk9 (fun q' hq => by have := hBg9 q' hq; omega)
                have R29 := R2.grown hgk9 (fun q' hq => by have := hBg9 q' hq; omega)
                have RM9 : Rw w9 qb 44 #[.int .i64 q, .int .i64 u, .int .i64 idx] := (hgk9.block qb RM.lt (fun e => own_ne hox9 RM (by decide) qb e.symm rfl)).trans RM
                have hB9 : w.heap.size + 3 ≤ w9.heap.size := Nat.le_trans hB hgk9.size
                clear hg9 hbA9 hown9 hox9 HSN9 hc1 hc2 hc3 hc4 hc5
                clear hgk9 hBg9
                go_wp2_with fail
                go_roundw
                case rel => exact ⟨k + 1, _, _, by simp, by omega, rfl, (by rw [List.length_append]; exact Nat.le_trans (Nat.add_le_add_right hmk 1) (Nat.le_succ _)), hout9, HM2, R09, R29, RM9, hb9, hB9⟩
                case measure => simp [intOf]; omega
              · have hly : bs s < tx y := of_decide_eq_true HZ3.out
                have HM2 : AInv s ⟨q, u, idx⟩ x.mb (k + 1) true (L ++ [⟨s, false, wth [] ⟨q, u, idx⟩⟩] ++ [y]) := ⟨fun _ => ⟨by rw [HTK.out, addL_gap hm2 hly, hm1], k, hlt, by omega, by rw [HX2.out]; exact Bs.asymm hly⟩, (fun h => by cases h)⟩
                clear hm1 hm2 HM hly hne HZ1 HZ3 HPR HUP HCA
                have RM1 := RM
                have hbN := bel_alloc (Below.refl w1.heap.size w1) (.cells #[.int .i64 q, .int .i64 u, .int .i64 idx] 44)
                have hOKN : OKm w (w1.alloc (.cells #[.int .i64 q, .int .i64 u, .int .i64 idx] 44)) (.slice (some ⟨w1.heap.size, 0, none⟩) 1 1) (wth [] ⟨q, u, idx⟩) := .inr ⟨rfl, .inr ⟨w1.heap.size, 1, #[.int .i64 q, .int .i64 u, .int .i64 idx], rfl, (by omega), heap_alloc_last w1 _, Nat.le_refl _, by unfold maxLen; decide, rfl, rfl⟩⟩
                replace RB := RB.later hbN
                replace R0 := R0.later hbN
                replace R2 := R2.later hbN
                replace RM := RM.later hbN
                replace hout := hout.later hbN
                replace hbel := below_on hbel hbN
                replace hB := Nat.le_trans hB hbN.size
                generalize hWN : w1.alloc (.cells #[.int .i64 q, .int .i64 u, .int .i64 idx] 44) = wn at hbN hOKN RB R0 R2 RM hout hbel hB
                clear hbN
                obtain ⟨xs8, hox8, hsn8⟩ := hout.owns
                have HSN8 : Hid (∀ (w2 : World) (v2 : Value) (z : Mb × Value), wn.grownBy w2 (Value.slice P L.length cc).ownBlock → w2.ownsRow (w.heap.size + 3) 41 3 v2 (L.length + 1) (xs8 ++ Mb.cells z) → OKm w wn z.2 z.1.ms → Out w (w.heap.size + 3) w2 v2 (L ++ [z.1])) := hsn8
                have hBg8 : ∀ q', (Value.slice P L.length cc).ownBlock = some q' → w.heap.size + 3 ≤ q' := fun q' hq => (World.ownsRow.lt hox8 q' hq).1
                have hc1 : ∀ q u, ([Value.string s, .bool false, .slice (some ⟨w1.heap.size, 0, none⟩) 1 1] : List Value)[q]? = some u → (wn.alloc (.cells #[Value.string s, .bool false, .slice (some ⟨w1.heap.size, 0, none⟩) 1 1] 41)).cell? ((⟨wn.heap.size, 0, none⟩ : Addr).add q) = some u := fun q u hq => (cells_new wn [Value.string s, .bool false, .slice (some ⟨w1.heap.size, 0, none⟩) 1 1] 41 q).trans hq
                have hc2 : ∀ u ∈ ([Value.string s, .bool false, .slice (some ⟨w1.heap.size, 0, none⟩) 1 1] : List Value), u.oneCell' = true := by simp [Value.oneCell']
                have hc3 : L.length + 1 ≤ maxLen := Nat.le_trans (Nat.add_le_add_right hL100 1) (by unfold maxLen; decide)
                have hc4 : (L.length + 1) * 48 ≤ 140737488355328 := Nat.le_trans (Nat.mul_le_mul_right 48 (Nat.add_le_add_right hL100 1)) (by decide)
                have hc5 : w.heap.size + 3 ≤ (wn.alloc (.cells #[Value.string s, .bool false, .slice (some ⟨w1.heap.size, 0, none⟩) 1 1] 41)).heap.size := by simp; omega
                clear hsn8
                go_wp2_with (first
                  | rw [hW]
                  | refine load_m 41 _ rfl rfl _ _ rfl d Try.underlying41 rfl zb ?_
                  | rw [hWN]
                  | refine load_r 44 _ rfl rfl _ rfl RM1 Try.underlying44 rfl size44 ?_
                  | refine load_r 41 _ rfl rfl _ rfl RB Try.underlying41 rfl size41 ?_
                  | (at_builtin; refine wpList_append_own _ rfl _ _ 24 rfl (w.heap.size + 3) 41 i0 (.agg #[.string noS, .bool false, .slice none 0 0]) 3 48 Try.underlying24 hi hz0 hz1 hz2 rfl (by decide) _ _ _ rfl (hox8.alloc _) ⟨wn.heap.size, 0, none⟩ 1 1 [Value.string s, .bool false, .slice (some ⟨w1.heap.size, 0, none⟩) 1 1] rfl rfl hc1 hc2 hc3 hc4 hc5 ?_))
                intro v8 w8 hown8 hg8 _
                clear hW d zb c0 c4 HTK hWN RM1
                have hbA8 := bel_alloc (Below.refl wn.heap.size wn) (.cells #[Value.string s, .bool false, .slice (some ⟨w1.heap.size, 0, none⟩) 1 1] 41)
                have hgk8 : wn.grownBy w8 (Value.slice P L.length cc).ownBlock := ⟨hg8.os, hg8.tape, hg8.output, Nat.le_trans hbA8.size hg8.size, fun k' h1 h2 => (hg8.block k' (Nat.lt_of_lt_of_le h1 hbA8.size) h2).trans (hbA8.block k' h1)⟩
                have hout8 : Out w (w.heap.size + 3) w8 v8 (L ++ [⟨s, false, wth [] ⟨q, u, idx⟩⟩]) := HSN8.out w8 v8 (⟨s, false, wth [] ⟨q, u, idx⟩⟩, .slice (some ⟨w1.heap.size, 0, none⟩) 1 1) hgk8 hown8 hOKN
                have hb8 := hbel.grown hgk8 hbel.size (fun q' hq => by have := hBg8 q' hq; omega)
                have R08 := R0.grown hgk8 (fun q' hq => by have := hBg8 q' hq; omega)
                have R28 := R2.grown hgk8 (fun q' hq => by have := hBg8 q' hq; omega)
                have RM8 : Rw w8 qb 44 #[.int .i64 q, .int .i64 u, .int .i64 idx] := (hgk8.block qb RM.lt (fun e => own_ne hox8 RM (by decide) qb e.symm rfl)).trans RM
                have hB8 : w.heap.size + 3 ≤ w8.heap.size := Nat.le_trans hB hgk8.size
                have RB8 : Rw w8 wr.heap.size 41 #[.string y.x, .bool y.b, .slice py y.ms.length cy] := (hgk8.block _ RB.lt (fun e => hnb _ e.symm rfl)).trans RB
                clear hg8 hbA8 hown8 hox8 HSN8 hc1 hc2 hc3 hc4 hc5
                have RB9 := RB8
                clear hgk8 hBg8 hout
                have hout := hout8
                have hbel := hb8
                have hB := hB8
                have R0 := R08
                have R2 := R28
                have RM := RM8
                have RB := RB9
                obtain ⟨P2, cc2, rfl⟩ := hout.sl
                obtain ⟨L2, HL2⟩ := hid_ex (L ++ [(⟨s, false, wth [] ⟨q, u, idx⟩⟩ : Mb)])
                have hl2 : L2.length = L.length + 1 := by rw [← HL2.out, List.length_append]; rfl
                have hL100 : L2.length ≤ 102 := by rw [hl2]; exact Nat.add_le_add_right (Nat.le_trans hmk (Nat.le_trans (Nat.le_of_lt hlt) (Nat.le_trans hm100 (by decide)))) 1
                have hmk2 : L2.length ≤ k + 1 := by rw [hl2]; exact Nat.add_le_add_right hmk 1
                replace HM2 : AInv s ⟨q, u, idx⟩ x.mb (k + 1) true (L2 ++ [y]) := by rw [← HL2.out]; exact HM2
                rw [HL2.out] at hout ⊢
                clear hl2 HL2 hout8 hb8 hB8 R08 R28 RM8 RB8 RB9
                obtain ⟨xs9, hox9, hsn9⟩ := hout.owns
                have HSN9 : Hid (∀ (w2 : World) (v2 : Value) (z : Mb × Value), w8.grownBy w2 (Value.slice P2 L2.length cc2).ownBlock → w2.ownsRow (w.heap.size + 3) 41 3 v2 (L2.length + 1) (xs9 ++ Mb.cells z) → OKm w w8 z.2 z.1.ms → Out w (w.heap.size + 3) w2 v2 (L2 ++ [z.1])) := hsn9
                have hBg9 : ∀ q', (Value.slice P2 L2.length cc2).ownBlock = some q' → w.heap.size + 3 ≤ q' := fun q' hq => (World.ownsRow.lt hox9 q' hq).1
                have hc1 : ∀ q u, ([Value.string y.x, .bool y.b, .slice py y.ms.length cy] : List Value)[q]? = some u → (w8.alloc (.cells #[Value.string y.x, .bool y.b, .slice py y.ms.length cy] 41)).cell? ((⟨w8.heap.size, 0, none⟩ : Addr).add q) = some u := fun q u hq => (cells_new w8 [Value.string y.x, .bool y.b, .slice py y.ms.length cy] 41 q).trans hq
                have hc2 : ∀ u ∈ ([Value.string y.x, .bool y.b, .slice py y.ms.length cy] : List Value), u.oneCell' = true := by simp [Value.oneCell']
                have hc3 : L2.length + 1 ≤ maxLen := Nat.le_trans (Nat.add_le_add_right hL100 1) (by unfold maxLen; decide)
                have hc4 : (L2.length + 1) * 48 ≤ 140737488355328 := Nat.le_trans (Nat.mul_le_mul_right 48 (Nat.add_le_add_right hL100 1)) (by decide)
                have hc5 : w.heap.size + 3 ≤ (w8.alloc (.cells #[Value.string y.x, .bool y.b, .slice py y.ms.length cy] 41)).heap.size := by simp; omega
                clear hsn9
                go_wp2_with (first
                  | refine load_r 41 _ rfl rfl _ rfl RB Try.underlying41 rfl size41 ?_
                  | (at_builtin; refine wpList_append_own _ rfl _ _ 24 rfl (w.heap.size + 3) 41 i0 (.agg #[.string noS, .bool false, .slice none 0 0]) 3 48 Try.underlying24 hi hz0 hz1 hz2 rfl (by decide) _ _ _ rfl (hox9.alloc _) ⟨w8.heap.size, 0, none⟩ 1 1 [Value.string y.x, .bool y.b, .slice py y.ms.length cy] rfl rfl hc1 hc2 hc3 hc4 hc5 ?_))
                intro v9 w9 hown9 hg9 _
                have hbA9 := bel_alloc (Below.refl w8.heap.size w8) (.cells #[Value.string y.x, .bool y.b, .slice py y.ms.length cy] 41)
                have hgk9 : w8.grownBy w9 (Value.slice P2 L2.length cc2).ownBlock := ⟨hg9.os, hg9.tape, hg9.output, Nat.le_trans hbA9.size hg9.size, fun k' h1 h2 => (hg9.block k' (Nat.lt_of_lt_of_le h1 hbA9.size) h2).trans (hbA9.block k' h1)⟩
                have hout9 : Out w (w.heap.size + 3) w9 v9 (L2 ++ [y]) := HSN9.out w9 v9 (y, .slice py y.ms.length cy) hgk9 hown9 (.inl hyk)
                have hb9 := hbel.grown hgk9 hbel.size (fun q' hq => by have := hBg9 q' hq; omega)
                have R09 := R0.grown hgk9 (fun q' hq => by have := hBg9 q' hq; omega)
                have R29 := R2.grown hgk9 (fun q' hq => by have := hBg9 q' hq; omega)
                have RM9 : Rw w9 qb 44 #[.int .i64 q, .int .i64 u, .int .i64 idx] := (hgk9.block qb RM.lt (fun e => own_ne hox9 RM (by decide) qb e.symm rfl)).trans RM
                have hB9 : w.heap.size + 3 ≤ w9.heap.size := Nat.le_trans hB hgk9.size
                clear hg9 hbA9 hown9 hox9 HSN9 hc1 hc2 hc3 hc4 hc5
                clear hgk9 hBg9
                go_wp2_with fail
                go_roundw
                case rel => exact ⟨k + 1, _, _, by simp, by omega, rfl, (by rw [List.length_append]; exact Nat.add_le_add_right hmk2 1), hout9, HM2, R09, R29, RM9, hb9, hB9⟩
                case measure => simp [intOf]; omega
            · have hyt : tx y = bs s := of_decide_eq_true HZ1.out
              have HM2 : AInv s ⟨q, u, idx⟩ x.mb (k + 1) true (L ++ [⟨y.x, y.b, wth y.ms ⟨q, u, idx⟩⟩]) := ⟨fun _ => ⟨by rw [HTK.out, addL_hit hm2 hyt, hm1], k, hlt, by omega, by rw [HX2.out, hyt]; exact Bs.irr _⟩, (fun h => by cases h)⟩
              clear hm1 hm2 HM hyt HZ1 HZ3 HUP HCA
              have c2 : w1.cell? ⟨wr.heap.size, 2, none⟩ = some (.slice py y.ms.length cy) := RB.cell 2
              have CL := refWith_any (.slice py y.ms.length cy) y.ms ⟨q, u, idx⟩ w1 (hyk.later hbel) HMI2 HPR.out
              obtain ⟨l5, HL5⟩ := hid_ex (wth y.ms ⟨q, u, idx⟩)
              unfold WtPost at CL
              rw [HL5.out] at CL HM2
              go_wp2_with (first | rw [hW] | refine load_m 41 _ rfl rfl _ _ rfl d Try.underlying41 rfl zb ?_ | refine load_r 44 _ rfl rfl _ rfl RM Try.underlying44 rfl size44 ?_)
              clear hW d zb c0 c4 HTK c2 HL5
              refine CL.mono ?_
              clear CL
              rintro e w3 ⟨u3, rfl, ho3, hb3⟩
              have hOK3 : OKm w w3 u3 l5 := by
                rcases ho3 with ⟨rfl, e⟩ | ho3
                · rw [e]
                  exact .inl hyk
                · exact .inr (own_mono ho3 (Nat.le_trans (by omega) hB))
              obtain ⟨p3, c3_, rfl⟩ := hOK3.slice
              replace RB := RB.later hb3
              replace R0 := R0.later hb3
              replace R2 := R2.later hb3
              replace RM := RM.later hb3
              replace hout := hout.later hb3
              replace hbel := below_on hbel hb3
              replace hB := Nat.le_trans hB hb3.size
              have g2 : w3.cell? ⟨wr.heap.size, 2, none⟩ = some (.slice py y.ms.length cy) := RB.cell 2
              have f2 : w3.frozen? ⟨wr.heap.size, 2, none⟩ = false := RB.frozen 2
              have RB4 : Rw (w3.setCell ⟨wr.heap.size, 2, none⟩ (.slice p3 l5.length c3_)) wr.heap.size 41 #[.string y.x, .bool y.b, .slice p3 l5.length c3_] := RB.set 2 _
              have hk3 := Kp.cell w3 wr.heap.size 2 (.slice p3 l5.length c3_)
              replace hout := hout.box RB hk3 hnb
              have hOK4 := hOK3.box RB hk3
              replace R0 := R0.setOther (q := wr.heap.size) (by omega) 2 (.slice p3 l5.length c3_)
              replace R2 := R2.setOther (q := wr.heap.size) (by omega) 2 (.slice p3 l5.length c3_)
              replace RM := RM.setOther (q := wr.heap.size) (by omega) 2 (.slice p3 l5.length c3_)
              replace hbel := hbel.setCell (p := ⟨wr.heap.size, 2, none⟩) (by show w.heap.size ≤ wr.heap.size; omega) (.slice p3 l5.length c3_)
              replace hB : w.heap.size + 3 ≤ (w3.setCell ⟨wr.heap.size, 2, none⟩ (.slice p3 l5.length c3_)).heap.size := by rw [World.size_setCell]; exact hB
              generalize hW3 : w3.setCell ⟨wr.heap.size, 2, none⟩ (.slice p3 l5.length c3_) = w4 at RB4 hk3 hout hOK4 R0 R2 RM hbel hB
              clear ho3 hb3 RB hOK3 hk3
              have RB := RB4
              have c6 : w4.cell? ⟨wr.heap.size, 0, none⟩ = some (.string y.x) := RB.cell 0
              obtain ⟨xs9, hox9, hsn9⟩ := hout.owns
              have HSN9 : Hid (∀ (w2 : World) (v2 : Value) (z : Mb × Value), w4.grownBy w2 (Value.slice P L.length cc).ownBlock → w2.ownsRow (w.heap.size + 3) 41 3 v2 (L.length + 1) (xs9 ++ Mb.cells z) → OKm w w4 z.2 z.1.ms → Out w (w.heap.size + 3) w2 v2 (L ++ [z.1])) := hsn9
              have hBg9 : ∀ q', (Value.slice P L.length cc).ownBlock = some q' → w.heap.size + 3 ≤ q' := fun q' hq => (World.ownsRow.lt hox9 q' hq).1
              have hc1 : ∀ q u, ([Value.string y.x, .bool y.b, .slice p3 l5.length c3_] : List Value)[q]? = some u → (w4.alloc (.cells #[Value.string y.x, .bool y.b, .slice p3 l5.length c3_] 41)).cell? ((⟨w4.heap.size, 0, none⟩ : Addr).add q) = some u := fun q u hq => (cells_new w4 [Value.string y.x, .bool y.b, .slice p3 l5.length c3_] 41 q).trans hq
              have hc2 : ∀ u ∈ ([Value.string y.x, .bool y.b, .slice p3 l5.length c3_] : List Value), u.oneCell' = true := by simp [Value.oneCell']
              have hc3 : L.length + 1 ≤ maxLen := Nat.le_trans (Nat.add_le_add_right hL100 1) (by unfold maxLen; decide)
              have hc4 : (L.length + 1) * 48 ≤ 140737488355328 := Nat.le_trans (Nat.mul_le_mul_right 48 (Nat.add_le_add_right hL100 1)) (by decide)
              have hc5 : w.heap.size + 3 ≤ (w4.alloc (.cells #[Value.string y.x, .bool y.b, .slice p3 l5.length c3_] 41)).heap.size := by simp; omega
              clear hsn9
              go_wp2_with (first
                | rw [hW3]
                | refine load_r 41 _ rfl rfl _ rfl RB Try.underlying41 rfl size41 ?_
                | (at_builtin; refine wpList_append_own _ rfl _ _ 24 rfl (w.heap.size + 3) 41 i0 (.agg #[.string noS, .bool false, .slice none 0 0]) 3 48 Try.underlying24 hi hz0 hz1 hz2 rfl (by decide) _ _ _ rfl (hox9.alloc _) ⟨w4.heap.size, 0, none⟩ 1 1 [Value.string y.x, .bool y.b, .slice p3 l5.length c3_] rfl rfl hc1 hc2 hc3 hc4 hc5 ?_))
              intro v9 w9 hown9 hg9 _
              clear hW3 g2 f2 c6
              have hbA9 := bel_alloc (Below.refl w4.heap.size w4) (.cells #[Value.string y.x, .bool y.b, .slice p3 l5.length c3_] 41)
              have hgk9 : w4.grownBy w9 (Value.slice P L.length cc).ownBlock := ⟨hg9.os, hg9.tape, hg9.output, Nat.le_trans hbA9.size hg9.size, fun k' h1 h2 => (hg9.block k' (Nat.lt_of_lt_of_le h1 hbA9.size) h2).trans (hbA9.block k' h1)⟩
              have hout9 : Out w (w.heap.size + 3) w9 v9 (L ++ [⟨y.x, y.b, l5⟩]) := HSN9.out w9 v9 (⟨y.x, y.b, l5⟩, .slice p3 l5.length c3_) hgk9 hown9 hOK4
              have hb9 := hbel.grown hgk9 hbel.size (fun q' hq => by have := hBg9 q' hq; omega)
              have R09 := R0.grown hgk9 (fun q' hq => by have := hBg9 q' hq; omega)
              have R29 := R2.grown hgk9 (fun q' hq => by have := hBg9 q' hq; omega)
              have RM9 : Rw w9 qb 44 #[.int .i64 q, .int .i64 u, .int .i64 idx] := (hgk9.block qb RM.lt (fun e => own_ne hox9 RM (by decide) qb e.symm rfl)).trans RM
              have hB9 : w.heap.size + 3 ≤ w9.heap.size := Nat.le_trans hB hgk9.size
              clear hg9 hbA9 hown9 hox9 HSN9 hc1 hc2 hc3 hc4 hc5
              clear hgk9 hBg9
              go_wp2_with fail
              go_roundw
              case rel => exact ⟨k + 1, _, _, by simp, by omega, rfl, (by rw [List.length_append]; exact Nat.le_trans (Nat.add_le_add_right hmk 1) (Nat.le_succ _)), hout9, HM2, R09, R29, RM9, hb9, hB9⟩
              case measure => simp [intOf]; omega
          · obtain ⟨hm1, j, hj, hjk, hlj⟩ := HM.1 rfl
            have hly : bs s < tx y := by
              have h1 : tx x.mb[j] < tx x.mb[k] := (List.pairwise_iff_getElem.1 HUP.out) j k (by omega) hlt hjk
              rw [HX2.out] at h1
              by_cases he : tx x.mb[j] = bs s
              · rw [← he]
                exact h1
              · exact Bs.trans (Bs.tri hlj he) h1
            have hz1 : z1 = false := by
              rw [← HZ1.out]
              refine decide_eq_false (fun e => ?_)
              rw [e] at hly
              exact Bs.irr _ hly
            subst hz1
            have HM2 : AInv s ⟨q, u, idx⟩ x.mb (k + 1) true (L ++ [y]) := ⟨fun _ => ⟨by rw [HTK.out, addL_snoc hly, hm1], j, hj, by omega, hlj⟩, (fun h => by cases h)⟩
            have hmk : L.length ≤ k + 1 := hL
            clear hm1 HM hly hlj HZ1 HZ3 HPR HUP HCA E2
            obtain ⟨xs9, hox9, hsn9⟩ := hout.owns
            have HSN9 : Hid (∀ (w2 : World) (v2 : Value) (z : Mb × Value), w1.grownBy w2 (Value.slice P L.length cc).ownBlock → w2.ownsRow (w.heap.size + 3) 41 3 v2 (L.length + 1) (xs9 ++ Mb.cells z) → OKm w w1 z.2 z.1.ms → Out w (w.heap.size + 3) w2 v2 (L ++ [z.1])) := hsn9
            have hBg9 : ∀ q', (Value.slice P L.length cc).ownBlock = some q' → w.heap.size + 3 ≤ q' := fun q' hq => (World.ownsRow.lt hox9 q' hq).1
            have hc1 : ∀ q u, ([Value.string y.x, .bool y.b, .slice py y.ms.length cy] : List Value)[q]? = some u → (w1.alloc (.cells #[Value.string y.x, .bool y.b, .slice py y.ms.length cy] 41)).cell? ((⟨w1.heap.size, 0, none⟩ : Addr).add q) = some u := fun q u hq => (cells_new w1 [Value.string y.x, .bool y.b, .slice py y.ms.length cy] 41 q).trans hq
            have hc2 : ∀ u ∈ ([Value.string y.x, .bool y.b, .slice py y.ms.length cy] : List Value), u.oneCell' = true := by simp [Value.oneCell']
            have hc3 : L.length + 1 ≤ maxLen := Nat.le_trans (Nat.add_le_add_right hL100 1) (by unfold maxLen; decide)
            have hc4 : (L.length + 1) * 48 ≤ 140737488355328 := Nat.le_trans (Nat.mul_le_mul_right 48 (Nat.add_le_add_right hL100 1)) (by decide)
            have hc5 : w.heap.size + 3 ≤ (w1.alloc (.cells #[Value.string y.x, .bool y.b, .slice py y.ms.length cy] 41)).heap.size := by simp; omega
            clear hsn9
            go_wp2_with (first
              | rw [hW]
              | refine load_m 41 _ rfl rfl _ _ rfl d Try.underlying41 rfl zb ?_
              | refine load_r 41 _ rfl rfl _ rfl RB Try.underlying41 rfl size41 ?_
              | (at_builtin; refine wpList_append_own _ rfl _ _ 24 rfl (w.heap.size + 3) 41 i0 (.agg #[.string noS, .bool false, .slice none 0 0]) 3 48 Try.underlying24 hi hz0 hz1 hz2 rfl (by decide) _ _ _ rfl (hox9.alloc _) ⟨w1.heap.size, 0, none⟩ 1 1 [Value.string y.x, .bool y.b, .slice py y.ms.length cy] rfl rfl hc1 hc2 hc3 hc4 hc5 ?_))
            intro v9 w9 hown9 hg9 _
            clear hW d zb c0 c4 HTK
            have hbA9 := bel_alloc (Below.refl w1.heap.size w1) (.cells #[Value.string y.x, .bool y.b, .slice py y.ms.length cy] 41)
            have hgk9 : w1.grownBy w9 (Value.slice P L.length cc).ownBlock := ⟨hg9.os, hg9.tape, hg9.output, Nat.le_trans hbA9.size hg9.size, fun k' h1 h2 => (hg9.block k' (Nat.lt_of_lt_of_le h1 hbA9.size) h2).trans (hbA9.block k' h1)⟩
            have hout9 : Out w (w.heap.size + 3) w9 v9 (L ++ [y]) := HSN9.out w9 v9 (y, .slice py y.ms.length cy) hgk9 hown9 (.inl hyk)
            have hb9 := hbel.grown hgk9 hbel.size (fun q' hq => by have := hBg9 q' hq; omega)
            have R09 := R0.grown hgk9 (fun q' hq => by have := hBg9 q' hq; omega)
            have R29 := R2.grown hgk9 (fun q' hq => by have := hBg9 q' hq; omega)
            have RM9 : Rw w9 qb 44 #[.int .i64 q, .int .i64 u, .int .i64 idx] := (hgk9.block qb RM.lt (fun e => own_ne hox9 RM (by decide) qb e.symm rfl)).trans RM
            have hB9 : w.heap.size + 3 ≤ w9.heap.size := Nat.le_trans hB hgk9.size
            clear hg9 hbA9 hown9 hox9 HSN9 hc1 hc2 hc3 hc4 hc5
            clear hgk9 hBg9
            go_wp2_with fail
            go_roundw
            case rel => exact ⟨k + 1, _, _, by simp, by omega, rfl, (by rw [List.length_append]; exact Nat.add_le_add_right hmk 1), hout9, HM2, R09, R29, RM9, hb9, hB9⟩
            case measure => simp [intOf]; omega
        · have hlt' : ¬ (k : Int) < (x.mb.length : Int) := by omega
          obtain rfl : k = x.mb.length := by omega
          cases fl
          · obtain ⟨hm1, hm2⟩ := HM.2 rfl
            rw [List.take_length] at hm1 hm2
            have HM1 : Hid (L = x.mb) := hm1
            have HM2 : Hid (∀ y ∈ x.mb, tx y < bs s) := hm2
            clear hm1 hm2 HM
            have RM1 := RM
            have hbN := bel_alloc (Below.refl wr.heap.size wr) (.cells #[.int .i64 q, .int .i64 u, .int .i64 idx] 44)
            have hOKN : OKm w (wr.alloc (.cells #[.int .i64 q, .int .i64 u, .int .i64 idx] 44)) (.slice (some ⟨wr.heap.size, 0, none⟩) 1 1) (wth [] ⟨q, u, idx⟩) := .inr ⟨rfl, .inr ⟨wr.heap.size, 1, #[.int .i64 q, .int .i64 u, .int .i64 idx], rfl, (by omega), heap_alloc_last wr _, Nat.le_refl _, by unfold maxLen; decide, rfl, rfl⟩⟩
            skip
            replace R0 := R0.later hbN
            replace R2 := R2.later hbN
            replace RM := RM.later hbN
            replace hout := hout.later hbN
            replace hbel := below_on hbel hbN
            replace hB := Nat.le_trans hB hbN.size
            generalize hWN : wr.alloc (.cells #[.int .i64 q, .int .i64 u, .int .i64 idx] 44) = wn at hbN hOKN  R0 R2 RM hout hbel hB
            clear hbN
            obtain ⟨xs8, hox8, hsn8⟩ := hout.owns
            have HSN8 : Hid (∀ (w2 : World) (v2 : Value) (z : Mb × Value), wn.grownBy w2 (Value.slice P L.length cc).ownBlock → w2.ownsRow (w.heap.size + 3) 41 3 v2 (L.length + 1) (xs8 ++ Mb.cells z) → OKm w wn z.2 z.1.ms → Out w (w.heap.size + 3) w2 v2 (L ++ [z.1])) := hsn8
            have hBg8 : ∀ q', (Value.slice P L.length cc).ownBlock = some q' → w.heap.size + 3 ≤ q' := fun q' hq => (World.ownsRow.lt hox8 q' hq).1
            have hc1 : ∀ q u, ([Value.string s, .bool false, .slice (some ⟨wr.heap.size, 0, none⟩) 1 1] : List Value)[q]? = some u → (wn.alloc (.cells #[Value.string s, .bool false, .slice (some ⟨wr.heap.size, 0, none⟩) 1 1] 41)).cell? ((⟨wn.heap.size, 0, none⟩ : Addr).add q) = some u := fun q u hq => (cells_new wn [Value.string s, .bool false, .slice (some ⟨wr.heap.size, 0, none⟩) 1 1] 41 q).trans hq
            have hc2 : ∀ u ∈ ([Value.string s, .bool false, .slice (some ⟨wr.heap.size, 0, none⟩) 1 1] : List Value), u.oneCell' = true := by simp [Value.oneCell']
            have hc3 : L.length + 1 ≤ maxLen := Nat.le_trans (Nat.add_le_add_right hL100 1) (by unfold maxLen; decide)
            have hc4 : (L.length + 1) * 48 ≤ 140737488355328 := Nat.le_trans (Nat.mul_le_mul_right 48 (Nat.add_le_add_right hL100 1)) (by decide)
            have hc5 : w.heap.size + 3 ≤ (wn.alloc (.cells #[Value.string s, .bool false, .slice (some ⟨wr.heap.size, 0, none⟩) 1 1] 41)).heap.size := by simp; omega
            clear hsn8
            go_wp2_with (first
              | rw [hWN]
              | refine load_r 44 _ rfl rfl _ rfl RM1 Try.underlying44 rfl size44 ?_
              | (at_builtin; refine wpList_append_own _ rfl _ _ 24 rfl (w.heap.size + 3) 41 i0 (.agg #[.string noS, .bool false, .slice none 0 0]) 3 48 Try.underlying24 hi hz0 hz1 hz2 rfl (by decide) _ _ _ rfl (hox8.alloc _) ⟨wn.heap.size, 0, none⟩ 1 1 [Value.string s, .bool false, .slice (some ⟨wr.heap.size, 0, none⟩) 1 1] rfl rfl hc1 hc2 hc3 hc4 hc5 ?_))
            intro v8 w8 hown8 hg8 _
            clear hWN RM1
            have hbA8 := bel_alloc (Below.refl wn.heap.size wn) (.cells #[Value.string s, .bool false, .slice (some ⟨wr.heap.size, 0, none⟩) 1 1] 41)
            have hgk8 : wn.grownBy w8 (Value.slice P L.length cc).ownBlock := ⟨hg8.os, hg8.tape, hg8.output, Nat.le_trans hbA8.size hg8.size, fun k' h1 h2 => (hg8.block k' (Nat.lt_of_lt_of_le h1 hbA8.size) h2).trans (hbA8.block k' h1)⟩
            have hout8 : Out w (w.heap.size + 3) w8 v8 (L ++ [⟨s, false, wth [] ⟨q, u, idx⟩⟩]) := HSN8.out w8 v8 (⟨s, false, wth [] ⟨q, u, idx⟩⟩, .slice (some ⟨wr.heap.size, 0, none⟩) 1 1) hgk8 hown8 hOKN
            have hb8 := hbel.grown hgk8 hbel.size (fun q' hq => by have := hBg8 q' hq; omega)
            have R08 := R0.grown hgk8 (fun q' hq => by have := hBg8 q' hq; omega)
            have R28 := R2.grown hgk8 (fun q' hq => by have := hBg8 q' hq; omega)
            have RM8 : Rw w8 qb 44 #[.int .i64 q, .int .i64 u, .int .i64 idx] := (hgk8.block qb RM.lt (fun e => own_ne hox8 RM (by decide) qb e.symm rfl)).trans RM
            have hB8 : w.heap.size + 3 ≤ w8.heap.size := Nat.le_trans hB hgk8.size
            clear hg8 hbA8 hown8 hox8 HSN8 hc1 hc2 hc3 hc4 hc5
            obtain ⟨P2, cc2, rfl⟩ := hout8.sl
            obtain ⟨L2, HL2⟩ := hid_ex (L ++ [(⟨s, false, wth [] ⟨q, u, idx⟩⟩ : Mb)])
            rw [HL2.out] at hout8 ⊢
            have HZE : Hid (z = { x with mb := L2 }) := by
              show _ = _
              rw [← HZ2.out, addL_end HM2.out, ← HL2.out, HM1.out]
            clear hgk8 hBg8 hout hbel hB R0 R2 RM
            have HGV : Hid (∀ (w' : World) (vm' : Value), Below w.heap.size w w' → BHas w' vm' L2 → Gives { x with mb := L2 } w (.returned (CV x.k x.b (.slice pa x.am.length ca') (.slice pw x.wr.length cw) vm' (.slice pe x.el.length ce))) w') := fun w' vm' hb hm => ⟨_, _, _, _, rfl, four_with HF.out hb hm, hb⟩
            have g4 : w8.cell? ⟨w.heap.size, 4, none⟩ = some (.slice pm x.mb.length cm) := R08.cell 4
            have f4 : w8.frozen? ⟨w.heap.size, 4, none⟩ = false := R08.frozen 4
            have hk1 := Kp.cell w8 w.heap.size 4 (.slice P2 L2.length cc2)
            have hout2 := hout8.other R08 (by decide) (by decide) hk1
            have R02 : Rw (w8.setCell ⟨w.heap.size, 4, none⟩ (.slice P2 L2.length cc2)) w.heap.size 27 (cvc x.k x.b (.slice pa x.am.length ca') (.slice pw x.wr.length cw) (.slice P2 L2.length cc2) (.slice pe x.el.length ce)) := R08.set 4 _
            have R22 := R28.setOther (q := w.heap.size) (by omega) 4 (.slice P2 L2.length cc2)
            have hbel2 := hb8.setCell (p := ⟨w.heap.size, 4, none⟩) (Nat.le_refl _) (.slice P2 L2.length cc2)
            generalize hW : w8.setCell ⟨w.heap.size, 4, none⟩ (.slice P2 L2.length cc2) = w3 at hk1 hout2 R02 R22 hbel2
            go_wp2_with (first | rw [hW] | refine load_r 27 _ rfl rfl _ rfl R02 Try.underlying27 rfl size27 ?_ | refine store_r rfl 27 _ _ rfl _ (cvc x.k x.b (.slice pa x.am.length ca') (.slice pw x.wr.length cw) (.slice P2 L2.length cc2) (.slice pe x.el.length ce)) rfl rfl R22 size27 rfl (by simp [Value.oneCell']) ?_)
            refine bodyPost_ret (results_r rfl rfl (R22.row (cvc x.k x.b (.slice pa x.am.length ca') (.slice pw x.wr.length cw) (.slice P2 L2.length cc2) (.slice pe x.el.length ce))) rfl Try.underlying27 size27) rfl ?_
            have hb4 := below_setRow hbel2 (g := w.heap.size + 2) (by omega) (cvc x.k x.b (.slice pa x.am.length ca') (.slice pw x.wr.length cw) (.slice P2 L2.length cc2) (.slice pe x.el.length ce))
            have hout3 := hout2.other R22 (by decide) (by decide) (Kp.row1 w3 (w.heap.size + 2) (cvc x.k x.b (.slice pa x.am.length ca') (.slice pw x.wr.length cw) (.slice P2 L2.length cc2) (.slice pe x.el.length ce)))
            rw [HZE.out]
            exact HGV.out _ _ hb4 (hout3.bhas hb4)
          · obtain ⟨hm1, _⟩ := HM.1 rfl
            rw [List.take_length] at hm1
            have HZE : Hid (z = { x with mb := L }) := by
              show _ = _
              rw [← HZ2.out, hm1]
            clear hm1 HM
            have HGV : Hid (∀ (w' : World) (vm' : Value), Below w.heap.size w w' → BHas w' vm' L → Gives { x with mb := L } w (.returned (CV x.k x.b (.slice pa x.am.length ca') (.slice pw x.wr.length cw) vm' (.slice pe x.el.length ce))) w') := fun w' vm' hb hm => ⟨_, _, _, _, rfl, four_with HF.out hb hm, hb⟩
            have g4 : wr.cell? ⟨w.heap.size, 4, none⟩ = some (.slice pm x.mb.length cm) := R0.cell 4
            have f4 : wr.frozen? ⟨w.heap.size, 4, none⟩ = false := R0.frozen 4
            have hk1 := Kp.cell wr w.heap.size 4 (.slice P L.length cc)
            have hout2 := hout.other R0 (by decide) (by decide) hk1
            have R02 : Rw (wr.setCell ⟨w.heap.size, 4, none⟩ (.slice P L.length cc)) w.heap.size 27 (cvc x.k x.b (.slice pa x.am.length ca') (.slice pw x.wr.length cw) (.slice P L.length cc) (.slice pe x.el.length ce)) := R0.set 4 _
            have R22 := R2.setOther (q := w.heap.size) (by omega) 4 (.slice P L.length cc)
            have hbel2 := hbel.setCell (p := ⟨w.heap.size, 4, none⟩) (Nat.le_refl _) (.slice P L.length cc)
            generalize hW : wr.setCell ⟨w.heap.size, 4, none⟩ (.slice P L.length cc) = w3 at hk1 hout2 R02 R22 hbel2
            go_wp2_with (first | rw [hW] | refine load_r 27 _ rfl rfl _ rfl R02 Try.underlying27 rfl size27 ?_ | refine store_r rfl 27 _ _ rfl _ (cvc x.k x.b (.slice pa x.am.length ca') (.slice pw x.wr.length cw) (.slice P L.length cc) (.slice pe x.el.length ce)) rfl rfl R22 size27 rfl (by simp [Value.oneCell']) ?_)
            refine bodyPost_ret (results_r rfl rfl (R22.row (cvc x.k x.b (.slice pa x.am.length ca') (.slice pw x.wr.length cw) (.slice P L.length cc) (.slice pe x.el.length ce))) rfl Try.underlying27 size27) rfl ?_
            have hb4 := below_setRow hbel2 (g := w.heap.size + 2) (by omega) (cvc x.k x.b (.slice pa x.am.length ca') (.slice pw x.wr.length cw) (.slice P L.length cc) (.slice pe x.el.length ce))
            have hout3 := hout2.other R22 (by decide) (by decide) (Kp.row1 w3 (w.heap.size + 2) (cvc x.k x.b (.slice pa x.am.length ca') (.slice pw x.wr.length cw) (.slice P L.length cc) (.slice pe x.el.length ce)))
            rw [HZE.out]
            exact HGV.out _ _ hb4 (hout3.bhas hb4)
end Go.Proofs.Ythekfmodafmlgaa
