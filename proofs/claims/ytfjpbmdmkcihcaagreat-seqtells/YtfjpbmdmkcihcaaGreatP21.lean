import Derived.Test.YtfjpbmdmkcihcaaGreatP18
import Derived.Test.YtfjpbmdmkcihcaaGreatP19
import Derived.Test.YtfjpbmdmkcihcaaGreatP13
/- Clear of the document's answer. -/
namespace Go.Proofs.YtfjpbmdmkcihcaaGreat
open Go.RowKit

theorem set_at' {α : Type} {A : List α} {k : Nat} (hk : k = A.length) {b b' : α} {C : List α} : (A ++ b :: C).set k b' = A ++ b' :: C := by
  subst hk
  simp
theorem _root_.Go.World.ownsRow.notnil {w : World} {B e S n c : Nat} {p : Option Addr} {xs : List Value} (h : w.ownsRow B e S (.slice p n c) n xs) (hn : Value.slice p n c ≠ .slice none 0 0) : ∃ g, p = some ⟨g, 0, none⟩ ∧ B ≤ g := by
  obtain ⟨_, ⟨h1, _⟩ | ⟨g, cap, cur, h1, hb, _⟩⟩ := h
  · exact absurd h1 hn
  · cases h1
    exact ⟨g, rfl, hb⟩
set_option maxHeartbeats 4000000 in
set_option maxRecDepth 100000 in
theorem refClear_any (x : X) (va vw vm ve : Value) (q u : Int) (v : List Int) (t : Int) (sl : Value) (idx : Int) (w : World) (hv : v.length = 13) (h : Four w x va vw vm ve) (hs : Sm x) :
    Calls Tryz.prog 15 #[CV x.k x.b va vw vm ve, TxV q u v t sl, .int .i64 idx] w (Gives (goX x ⟨q, u, idx⟩ (bfP q u v idx)) w) := by
  obtain ⟨i0, hi, hz0, hz1, hz2⟩ := info_parts info60; obtain ⟨pa, ca', pw, cw, pm, cm, pe, ce, rfl, rfl, rfl, rfl⟩ := h.slices; have HF : Hid (Four w x (.slice pa x.am.length ca') (.slice pw x.wr.length cw) (.slice pm x.mb.length cm) (.slice pe x.el.length ce)) := h; clear h; have R0 := (((rw_new w 27 (cvc x.k x.b (.slice pa x.am.length ca') (.slice pw x.wr.length cw) (.slice pm x.mb.length cm) (.slice pe x.el.length ce))).alloc (.cells (txc q u v t sl).toArray 34)).alloc (.cells (cvc 0 0 (.slice none 0 0) (.slice none 0 0) (.slice none 0 0) (.slice none 0 0)) 27)); have R1 := ((rw_new (w.alloc (.cells (cvc x.k x.b (.slice pa x.am.length ca') (.slice pw x.wr.length cw) (.slice pm x.mb.length cm) (.slice pe x.el.length ce)) 27)) 34 (txc q u v t sl).toArray).alloc (.cells (cvc 0 0 (.slice none 0 0) (.slice none 0 0) (.slice none 0 0) (.slice none 0 0)) 27)); have R3 := (rw_new ((w.alloc (.cells (cvc x.k x.b (.slice pa x.am.length ca') (.slice pw x.wr.length cw) (.slice pm x.mb.length cm) (.slice pe x.el.length ce)) 27)).alloc (.cells (txc q u v t sl).toArray 34)) 27 (cvc 0 0 (.slice none 0 0) (.slice none 0 0) (.slice none 0 0) (.slice none 0 0))); have hbel := (bel_alloc (bel_alloc (bel_alloc (Below.refl w.heap.size w) (.cells (cvc x.k x.b (.slice pa x.am.length ca') (.slice pw x.wr.length cw) (.slice pm x.mb.length cm) (.slice pe x.el.length ce)) 27)) (.cells (txc q u v t sl).toArray 34)) (.cells (cvc 0 0 (.slice none 0 0) (.slice none 0 0) (.slice none 0 0) (.slice none 0 0)) 27))
  have HSZ : Hid ((((w.alloc (.cells (cvc x.k x.b (.slice pa x.am.length ca') (.slice pw x.wr.length cw) (.slice pm x.mb.length cm) (.slice pe x.el.length ce)) 27)).alloc (.cells (txc q u v t sl).toArray 34)).alloc (.cells (cvc 0 0 (.slice none 0 0) (.slice none 0 0) (.slice none 0 0) (.slice none 0 0)) 27)).heap.size = w.heap.size + 3) := by
    show _ = _
    simp
  generalize hW : (((w.alloc (.cells (cvc x.k x.b (.slice pa x.am.length ca') (.slice pw x.wr.length cw) (.slice pm x.mb.length cm) (.slice pe x.el.length ce)) 27)).alloc (.cells (txc q u v t sl).toArray 34)).alloc (.cells (cvc 0 0 (.slice none 0 0) (.slice none 0 0) (.slice none 0 0) (.slice none 0 0)) 27)) = w0 at R0 R1 R3 hbel HSZ; simp only [World.size_alloc] at R0 R1 R3; have zt := size_tx (p := q) (s := u) (t := t) (sl := sl) hv; have C1 := refCheck_any x _ _ _ _ w0 (HF.out.later hbel) hs; obtain ⟨y1, HY1⟩ := hid_ex (ck x); rw [HY1.out] at C1; obtain ⟨z, HZ⟩ := hid_ex (goX x ⟨q, u, idx⟩ (bfP q u v idx)); rw [HZ.out]
  go_enter Tryz.func15, Tryz.ntmps15
  go_wp2_with (first | rw [hW] | refine load_r 27 _ rfl rfl _ rfl R0 Tryz.underlying27 rfl size27 ?_)
  clear hW; refine C1.mono ?_; clear C1; rintro e w1 ⟨rfl, hb1⟩; replace R0 := R0.later hb1; replace R1 := R1.later hb1; replace R3 := R3.later hb1; replace hbel := below_on hbel hb1; have hB1 := hb1.size; clear hb1
  cases y1
  case' false =>
    have e0 : z = x := by
      rw [← HZ.out]; unfold goX; rw [if_neg (by rw [HY1.out]; simp)]
    subst e0
    go_wp2_with (first | refine load_r 27 _ rfl rfl _ rfl R0 Tryz.underlying27 rfl size27 ?_ | refine store_r rfl 27 _ _ rfl _ (cvc z.k z.b (.slice pa z.am.length ca') (.slice pw z.wr.length cw) (.slice pm z.mb.length cm) (.slice pe z.el.length ce)) rfl rfl R3 size27 rfl (by simp [Value.oneCell']) ?_)
    refine bodyPost_ret (results_r rfl rfl (R3.row (cvc z.k z.b (.slice pa z.am.length ca') (.slice pw z.wr.length cw) (.slice pm z.mb.length cm) (.slice pe z.el.length ce))) rfl Tryz.underlying27 size27) rfl ?_; exact ⟨_, _, _, _, rfl, (HF.out.later hbel).row R3 _, below_setRow hbel (by omega) _⟩
  case' true =>
    by_cases hid : idx < 1
    case' pos =>
      have hid' : decide (idx < 1) = true := decide_eq_true hid
      have e0 : z = x := by
        rw [← HZ.out]; unfold goX; rw [if_neg (by rw [HY1.out]; simp [im]; omega)]
      subst e0
      go_wp2_with (first | refine load_r 27 _ rfl rfl _ rfl R0 Tryz.underlying27 rfl size27 ?_ | refine store_r rfl 27 _ _ rfl _ (cvc z.k z.b (.slice pa z.am.length ca') (.slice pw z.wr.length cw) (.slice pm z.mb.length cm) (.slice pe z.el.length ce)) rfl rfl R3 size27 rfl (by simp [Value.oneCell']) ?_)
      refine bodyPost_ret (results_r rfl rfl (R3.row (cvc z.k z.b (.slice pa z.am.length ca') (.slice pw z.wr.length cw) (.slice pm z.mb.length cm) (.slice pe z.el.length ce))) rfl Tryz.underlying27 size27) rfl ?_; exact ⟨_, _, _, _, rfl, (HF.out.later hbel).row R3 _, below_setRow hbel (by omega) _⟩
    case' neg =>
      have hid' : decide (idx < 1) = false := decide_eq_false hid
      have him : im idx = true := by simp [im]; omega
      obtain rfl : z = { x with el := x.el.map (gE (bfP q u v idx) ⟨q, u, idx⟩) } := by
        rw [← HZ.out]; unfold goX; rw [if_pos (by rw [HY1.out, him]; rfl)]
      clear HZ him hid
      have hbB : Hid (w.heap.size + 3 ≤ w1.heap.size) := by
        show _ ≤ _
        rw [← HSZ.out]; exact hB1
      obtain ⟨ys, hys, hse, hy⟩ := HF.out.e
      have hyl : ys.length = x.el.length := by rw [← hys, List.length_map]
      have hl100 := hs.e; have c5 : w1.cell? ⟨w.heap.size, 5, none⟩ = some (.slice pe x.el.length ce) := R0.cell 5; have hbA := bel_alloc (Below.refl w1.heap.size w1) (.cells #[] 60); have oA : (w1.alloc (.cells #[] 60)).ownsRow w1.heap.size 60 9 (.slice (some ⟨w1.heap.size, 0, none⟩) 0 0) 0 [] := ⟨rfl, .inr ⟨w1.heap.size, 0, #[], rfl, Nat.le_refl _, rw_new w1 60 #[], Nat.le_refl _, Nat.zero_le _, rfl, rfl⟩⟩; have hsA : SHas 9 (w1.alloc (.cells #[] 60)) (.slice pe x.el.length ce) x.el.length (rows El.cells ys) := hse.later (below_on hbel hbA); have c5A := cell_later hbA c5; have h1 := El.one hy
      have h2 : 0 + x.el.length ≤ maxLen := by unfold maxLen; omega
      have h3 : (0 + x.el.length) * 96 ≤ 140737488355328 := by omega
      have h4 := hbA.size; generalize hWA : w1.alloc (.cells #[] 60) = wA at hbA oA hsA c5A h4
      go_wp2_with (first | rw [hWA] | (at_builtin; refine wpList_append_sh rfl _ _ 25 rfl w1.heap.size 60 i0 (.agg #[.int .i64 0, .int .i64 0, .int .i64 0, .int .i64 0, .int .i64 0, .int .i64 0, .int .i64 0, .string noS, .slice none 0 0]) 9 96 Tryz.underlying25 hi hz0 hz1 hz2 rfl (by decide) _ 0 [] rfl oA _ x.el.length (rows El.cells ys) rfl hsA h1 h2 h3 h4 ?_))
      intro v1 w2 o2 hg2 hnn0
      replace o2 : w2.ownsRow w1.heap.size 60 9 v1 ys.length (rows El.cells ys) := by
        rw [hyl]
        simpa using o2
      have hb2 := (below_on (Below.refl w1.heap.size w1) hbA).grown hg2 (below_on (Below.refl w1.heap.size w1) hbA).size (fun q' hq => (World.ownsRow.lt oA q' hq).1)
      have hnn : v1 ≠ .slice none 0 0 := by first | exact hnn0 | exact hnn0 (by simp) | simpa using hnn0
      clear hnn0; have HYL : Hid (ys.length = x.el.length) := hyl; clear hWA hbA oA hsA c5A c5 h1 h2 h3 h4 hg2 hyl; obtain ⟨po, co, rfl⟩ := own_sl o2; replace R0 := R0.later hb2; replace R1 := R1.later hb2; replace R3 := R3.later hb2; replace hbel := below_on hbel hb2
      have hG0 : ∀ y ∈ ys, Gq w1.heap.size w w2 y := fun y h => Or.inl (hy y h)
      have h21 := hb2.size; obtain ⟨g, e1, hgB⟩ : ∃ g, po = some ⟨g, 0, none⟩ ∧ w1.heap.size ≤ g := o2.notnil hnn; subst e1; clear hb2; go_wp2_with fail
      go_loopw [8] (fun vi wr => ∃ (k : Nat) (es : List (El × Value)), vi = .int .i64 k ∧ k ≤ ys.length ∧ Hid (es.length = ys.length) ∧ Hid (es.map (·.1) = (x.el.take k).map (gE (bfP q u v idx) ⟨q, u, idx⟩) ++ x.el.drop k) ∧ Hid (∀ j, k ≤ j → es[j]? = ys[j]?) ∧ wr.ownsRow w1.heap.size 60 9 (.slice (some ⟨g, 0, none⟩) ys.length co) ys.length (rows El.cells es) ∧ (∀ y ∈ es, Gq w1.heap.size w wr y) ∧ Rw wr w.heap.size 27 (cvc x.k x.b (.slice pa x.am.length ca') (.slice pw x.wr.length cw) (.slice pm x.mb.length cm) (.slice pe x.el.length ce)) ∧ Rw wr (w.heap.size + 1) 34 (txc q u v t sl).toArray ∧ Rw wr (w.heap.size + 2) 27 (cvc 0 0 (.slice none 0 0) (.slice none 0 0) (.slice none 0 0) (.slice none 0 0)) ∧ Below w.heap.size w wr ∧ w1.heap.size ≤ wr.heap.size) (fun vi _ => ys.length - (intOf vi).toNat)
      case atStart => exact ⟨0, ys, rfl, by omega, (show ys.length = ys.length from rfl), (show ys.map (·.1) = _ by rw [hys]; simp), (show ∀ j, 0 ≤ j → ys[j]? = ys[j]? from fun _ _ => rfl), o2, hG0, R0, R1, R3, hbel, h21⟩
      case round =>
        clear R0 R1 R3 hbel o2 hG0 h21; obtain ⟨k, es, rfl, hk, HEL, HES, HEY, ho, hG0, R0, R1, R3, hbel, hBr⟩ := hrel
        by_cases hlt : k < ys.length
        case' pos =>
          have hkk : (k : Int) < (ys.length : Int) := by omega
          have hk0 : (0 : Int) ≤ (k : Int) := by omega
          have hky : k < es.length := by rw [HEL.out]; exact hlt
          have hkl : k < x.el.length := by rw [← HYL.out]; exact hlt
          have eyy : es[k] = ys[k] := by
            have := HEY.out k (Nat.le_refl _)
            rw [List.getElem?_eq_getElem hky, List.getElem?_eq_getElem hlt] at this; exact Option.some.inj this
          have eyk : ys[k].1 = x.el[k] := by simp only [← hys, List.getElem_map]
          have hyk0 := hy ys[k] (List.getElem_mem _); have hmem : x.el[k] ∈ x.el := List.getElem_mem _; have hy100 := hs.ei _ hmem
          have hyca : ca x.el[k].gone = true := by
            have := ce_ie (ck_parts HY1.out).2.2.2.2.2.1 _ hmem
            unfold ie at this; rw [Bool.and_eq_true, Bool.and_eq_true] at this; exact this.2.2
          have dk0 := El.elem (rowsAt ho) k hky; rw [Nat.zero_add, eyy] at dk0; obtain ⟨yy, HX⟩ := hid_ex ys[k]; rw [HX.out] at eyk hyk0 dk0; obtain ⟨y, yv⟩ := yy; replace eyk : y = x.el[k] := eyk; rw [← eyk] at hy100 hyca; replace hyk0 : MHas w yv y.gone := hyk0; obtain ⟨py, cy, rfl⟩ := hyk0.slice; have hyw := hyk0; have hyk1 := hyk0.later hbel; have dk1 : wr.rangeAt g (k * 9) (El.cells (y, .slice py y.gone.length cy)) := dk0
          have dm : wr.rangeAt g (k * 9) [Value.int .i64 y.p, .int .i64 y.s, .int .i64 y.i] := range_sub (o := k * 9) (xs := (El.cells (y, .slice py y.gone.length cy))) dk1 0 (fun j a ha => by
            rw [Nat.zero_add]
            match j, ha with
            | 0, h => exact h
            | 1, h => exact h
            | 2, h => exact h
            | j + 3, h => simp at h)
          have zm : (Tryz.prog.info? 36).map (·.size) = some [Value.int .i64 y.p, .int .i64 y.s, .int .i64 y.i].length := size36
          have ztx : (Tryz.prog.info? 34).map (·.size) = some (txc q u v t sl).length := by rw [txc_length hv]; exact size34
          have zk : (Tryz.prog.info? 60).map (·.size) = some (El.cells (y, .slice py y.gone.length cy)).length := size60; have zd : (Tryz.prog.info? 29).map (·.size) = some [Value.int .i64 q, .int .i64 u].length := size29
          have CB := fun w => refBefore_any y.p y.s y.i q u v t sl idx w hv
          obtain ⟨tt, HT⟩ := hid_ex (bf y.p y.s y.i q u v idx); rw [HT.out] at CB
          have HDK : Hid (x.el.drop k = y :: x.el.drop (k + 1)) := by
            show _ = _
            rw [List.drop_eq_getElem_cons hkl, ← eyk]
          have HTK : Hid (x.el.take (k + 1) = x.el.take k ++ [y]) := by
            show _ = _
            rw [List.take_succ_eq_append_getElem hkl, ← eyk]
          clear hyk0 dk0 hmem HX eyk eyy
          cases tt
          case' false =>
            have HES2 : Hid (es.map (·.1) = (x.el.take (k + 1)).map (gE (bfP q u v idx) ⟨q, u, idx⟩) ++ x.el.drop (k + 1)) := by
              show _ = _
              rw [HES.out, HTK.out, HDK.out, List.map_append, List.append_assoc]
              congr 1
              show _ = [gE (bfP q u v idx) ⟨q, u, idx⟩ y] ++ _
              unfold gE; rw [if_neg (show ¬ bfP q u v idx (mE y) = true by rw [show bfP q u v idx (mE y) = false from HT.out]; simp)]
              rfl
            go_wp2_with fail
            have hs : Calm.Stays (fun w' => w'.rangeAt g (k * 9) [Value.int .i64 y.p, .int .i64 y.s, .int .i64 y.i] ∧ Rw w' (w.heap.size + 1) 34 (txc q u v t sl).toArray ∧ Below wr.heap.size wr w') := fun wa wb h hb => ⟨range_later h.1 hb, h.2.1.later hb, below_on h.2.2 hb⟩
            refine Calm.region (by kernel_rfl) (by kernel_rfl) (fun w' => w'.rangeAt g (k * 9) [Value.int .i64 y.p, .int .i64 y.s, .int .i64 y.i] ∧ Rw w' (w.heap.size + 1) 34 (txc q u v t sl).toArray ∧ Below wr.heap.size wr w') ⟨dm, R1, (Below.refl _ wr).drew⟩ ?_
            iterate 4
              all_goals
                refine Calm.pure (v := ?_) (by rfl) ?_ ?_; rotate_left; focus (intro w hSw; go_simp <;> rfl)
                simp only [put4]
            all_goals
              refine Calm.loadM 36 Tryz.underlying36 rfl zm (by rfl) _ rfl rfl (fun _ h => h.1) ?_; simp only [put4]
            all_goals
              refine Calm.loadM 34 Tryz.underlying34 rfl ztx (by rfl) _ rfl rfl (fun _ h => Rw.whole h.2.1) ?_; simp only [put4]
            all_goals
              refine Calm.pure (v := ?_) (by rfl) ?_ ?_; rotate_left; focus (intro w hSw; go_simp <;> rfl)
              simp only [put4]
            all_goals
              refine Calm.call3s (by rfl) rfl rfl rfl rfl (by kernel_rfl) hs (fun w1 h => CB w1) ?_; simp only [put4]
            all_goals
              rintro w9 ⟨_, R19, hb9⟩
            go_wp2_with fail; go_roundw
            case rel => exact ⟨k + 1, es, by simp, by omega, HEL, HES2, (show ∀ j, k + 1 ≤ j → es[j]? = ys[j]? from fun j hj => HEY.out j (by omega)), own_later ho hb9, fun y h => (hG0 y h).later hb9, R0.later hb9, R19, R3.later hb9, below_on hbel hb9, Nat.le_trans hBr hb9.size⟩
            case measure => simp [intOf]; omega
          case' true =>
            have HES2 : Hid (∀ u' : Value, (es.set k ({ y with gone := wth y.gone ⟨q, u, idx⟩ }, u')).map (·.1) = (x.el.take (k + 1)).map (gE (bfP q u v idx) ⟨q, u, idx⟩) ++ x.el.drop (k + 1)) := fun u' => by
              have hkA : k = ((x.el.take k).map (gE (bfP q u v idx) ⟨q, u, idx⟩)).length := by rw [List.length_map, List.length_take]; omega
              rw [List.map_set, HES.out, HTK.out, HDK.out, List.map_append, List.append_assoc]; rw [set_at' hkA]
              congr 1
              show _ = [gE (bfP q u v idx) ⟨q, u, idx⟩ y] ++ _
              unfold gE; rw [if_pos (show bfP q u v idx (mE y) = true from HT.out)]
              rfl
            go_wp2_with fail
            have hs : Calm.Stays (fun w' => w'.rangeAt g (k * 9) [Value.int .i64 y.p, .int .i64 y.s, .int .i64 y.i] ∧ Rw w' (w.heap.size + 1) 34 (txc q u v t sl).toArray ∧ Below wr.heap.size wr w') := fun wa wb h hb => ⟨range_later h.1 hb, h.2.1.later hb, below_on h.2.2 hb⟩
            refine Calm.region (by kernel_rfl) (by kernel_rfl) (fun w' => w'.rangeAt g (k * 9) [Value.int .i64 y.p, .int .i64 y.s, .int .i64 y.i] ∧ Rw w' (w.heap.size + 1) 34 (txc q u v t sl).toArray ∧ Below wr.heap.size wr w') ⟨dm, R1, (Below.refl _ wr).drew⟩ ?_
            iterate 4
              all_goals
                refine Calm.pure (v := ?_) (by rfl) ?_ ?_; rotate_left; focus (intro w hSw; go_simp <;> rfl)
                simp only [put4]
            all_goals
              refine Calm.loadM 36 Tryz.underlying36 rfl zm (by rfl) _ rfl rfl (fun _ h => h.1) ?_; simp only [put4]
            all_goals
              refine Calm.loadM 34 Tryz.underlying34 rfl ztx (by rfl) _ rfl rfl (fun _ h => Rw.whole h.2.1) ?_; simp only [put4]
            all_goals
              refine Calm.pure (v := ?_) (by rfl) ?_ ?_; rotate_left; focus (intro w hSw; go_simp <;> rfl)
              simp only [put4]
            all_goals
              refine Calm.call3s (by rfl) rfl rfl rfl rfl (by kernel_rfl) hs (fun w1 h => CB w1) ?_; simp only [put4]
            all_goals
              rintro w9 ⟨_, R19, hb9⟩
            clear CB dm zm ztx; replace R0 := R0.later hb9; replace R1 := R19; replace R3 := R3.later hb9; replace ho := own_later ho hb9
            replace hG0 : ∀ y ∈ es, Gq w1.heap.size w w9 y := fun y h => (hG0 y h).later hb9
            replace hbel := below_on hbel hb9; have hyk := hyk1.later hb9; have dk := range_later dk1 hb9; replace hBr := Nat.le_trans hBr hb9.size; clear hb9 hyk1 dk1; go_wp2_with fail
            have hS : Calm.Stays (fun w' => Below w9.heap.size w9 w') := fun wa wb h hb => below_on h hb
            have hF : Facts.Stay [pF 0 (eqP (.slice (some ⟨g, 0, none⟩) ys.length co)), pF 1 (eqP (.int .i64 k)), pF 2 (eqP (.slice (some ⟨g, 0, none⟩) ys.length co)), pF 3 (eqP (.int .i64 k)), pF 4 (eqP (.pointer (some ⟨g, k * 9, none⟩))), pF 5 (eqP (.agg (El.cells (y, .slice py y.gone.length cy)).toArray)), pF 6 (eqP (.pointer (some ⟨w.heap.size + 1, 0, none⟩))), pF 7 (eqP (.agg ([Value.int .i64 q, .int .i64 u] : List Value).toArray)), pF 8 (eqP (.int .i64 idx)), pF 9 (eqP (MV q u idx)), pF 10 ((fun (v' : Value) (w' : World) => ∃ u', v' = EV ({ y with gone := wth y.gone ⟨q, u, idx⟩ }, u') ∧ Gq w1.heap.size w w' ({ y with gone := wth y.gone ⟨q, u, idx⟩ }, u'))), pF 11 (eqP (.pointer (some ⟨g, k * 9, none⟩)))] := stay_of (by simp only [List.forall_mem_cons]; exact ⟨⟨_, _, rfl, eqP_keeps _⟩, ⟨_, _, rfl, eqP_keeps _⟩, ⟨_, _, rfl, eqP_keeps _⟩, ⟨_, _, rfl, eqP_keeps _⟩, ⟨_, _, rfl, eqP_keeps _⟩, ⟨_, _, rfl, eqP_keeps _⟩, ⟨_, _, rfl, eqP_keeps _⟩, ⟨_, _, rfl, eqP_keeps _⟩, ⟨_, _, rfl, eqP_keeps _⟩, ⟨_, _, rfl, eqP_keeps _⟩, ⟨_, _, rfl, (fun _ _ _ ⟨g, e, h⟩ hb => ⟨g, e, h.later hb⟩)⟩, ⟨_, _, rfl, eqP_keeps _⟩, fun _ h => by cases h⟩); refine Facts.regionTail (by kernel_rfl) (by kernel_rfl) 12 (by decide) (by kernel_rfl) (fun w' => Below w9.heap.size w9 w') (fun xv => { tmps := #[CV x.k x.b (Value.slice pa x.am.length ca') (Value.slice pw x.wr.length cw) (Value.slice pm x.mb.length cm) (Value.slice pe x.el.length ce), TxV q u v t sl, Value.int IntKind.i64 idx, Value.pointer (some { block := w.heap.size, off := 0 }), Value.pointer (some { block := w.heap.size + 1, off := 0 }), undef, Value.pointer (some { block := w.heap.size + 1 + 1, off := 0 }), Value.slice (some { block := g, off := 0 }) ys.length co, Value.int IntKind.i64 ↑k, Value.agg (cvc x.k x.b (Value.slice pa x.am.length ca') (Value.slice pw x.wr.length cw) (Value.slice pm x.mb.length cm) (Value.slice pe x.el.length ce)), Value.bool true, Value.bool false, Value.bool false, Value.int IntKind.i64 idx, Value.bool false, Value.bool false, undef, Value.slice (some { block := w1.heap.size, off := 0 }) 0 0, Value.pointer (some { block := w.heap.size, off := 5 }), Value.slice pe x.el.length ce, Value.slice (some { block := g, off := 0 }) ys.length co, Value.int IntKind.i64 ↑k, Value.slice (some { block := g, off := 0 }) ys.length co, Value.int IntKind.i64 ↑ys.length, Value.bool true, u25, u26, Value.slice (some { block := g, off := 0 }) ys.length co, Value.int IntKind.i64 ↑k, Value.pointer (some { block := g, off := k * 9 }), Value.pointer (some { block := g, off := k * 9 }), Value.agg #[Value.int IntKind.i64 y.p, Value.int IntKind.i64 y.s, Value.int IntKind.i64 y.i], Value.agg (txc q u v t sl).toArray, Value.int IntKind.i64 idx, Value.bool true, xv 0, xv 1, xv 2, xv 3, xv 4, xv 5, xv 6, xv 7, xv 8, xv 9, xv 10, xv 11, undef, undef, undef], defers := [] }) [pF 0 (eqP (.slice (some ⟨g, 0, none⟩) ys.length co)), pF 1 (eqP (.int .i64 k)), pF 2 (eqP (.slice (some ⟨g, 0, none⟩) ys.length co)), pF 3 (eqP (.int .i64 k)), pF 4 (eqP (.pointer (some ⟨g, k * 9, none⟩))), pF 5 (eqP (.agg (El.cells (y, .slice py y.gone.length cy)).toArray)), pF 6 (eqP (.pointer (some ⟨w.heap.size + 1, 0, none⟩))), pF 7 (eqP (.agg ([Value.int .i64 q, .int .i64 u] : List Value).toArray)), pF 8 (eqP (.int .i64 idx)), pF 9 (eqP (MV q u idx)), pF 10 ((fun (v' : Value) (w' : World) => ∃ u', v' = EV ({ y with gone := wth y.gone ⟨q, u, idx⟩ }, u') ∧ Gq w1.heap.size w w' ({ y with gone := wth y.gone ⟨q, u, idx⟩ }, u'))), pF 11 (eqP (.pointer (some ⟨g, k * 9, none⟩)))] _ rfl rfl (by kernel_rfl) (fun j => [u35, u36, u37, u38, u39, u40, u41, u42, u43, u44, u45, u46].getD j undef) rfl (Below.refl _ w9).drew ⟨?_, ?_, ?_, ?_, ?_, ?_, ?_, ?_, ?_, ?_, ?_, ?_, ?_, trivial⟩ ?_
            · exact fun _ => Facts.pureP hS hF (fun _ _ => rfl) rfl (fun xv wv hSw hd => by
                go_simp)
            · exact fun _ => Facts.pureP hS hF (fun _ _ => rfl) rfl (fun xv wv hSw hd => by
                go_simp)
            · exact fun _ => Facts.pureP hS hF (fun _ _ => rfl) rfl (fun xv wv hSw hd => by
                go_simp)
            · exact fun _ => Facts.pureP hS hF (fun _ _ => rfl) rfl (fun xv wv hSw hd => by
                go_simp)
            · exact fun _ => Facts.pureP hS hF (fun _ _ => rfl) rfl (fun xv wv hSw hd => by
                have d2 : xv 2 = _ := pF_get (hd ⟨2, .data⟩ (by simp) rfl _ rfl); have d3 : xv 3 = _ := pF_get (hd ⟨3, .data⟩ (by simp) rfl _ rfl); simp only [d2, d3]
                go_simp)
            · exact fun _ => Facts.loadP hS hF (fun _ _ => rfl) 60 Tryz.underlying60 rfl zk _ rfl rfl (fun xv wv hSw hd => by have d4 : xv 4 = _ := pF_get (hd ⟨4, .data⟩ (by simp) rfl _ rfl); exact d4) (fun wv hSw => range_later dk hSw)
            · exact fun _ => Facts.pureP hS hF (fun _ _ => rfl) rfl (fun xv wv hSw hd => by
                go_simp)
            · exact fun _ => Facts.loadP hS hF (fun _ _ => rfl) 29 Tryz.underlying29 rfl zd _ rfl rfl (fun xv wv hSw hd => by have d6 : xv 6 = _ := pF_get (hd ⟨6, .data⟩ (by simp) rfl _ rfl); exact d6) (fun wv hSw => tx_dot (R1.later hSw))
            · exact fun _ => Facts.pureP hS hF (fun _ _ => rfl) rfl (fun xv wv hSw hd => by
                go_simp)
            · exact fun _ => Facts.pureP hS hF (fun _ _ => rfl) rfl (fun xv wv hSw hd => by
                have d7 : xv 7 = _ := pF_get (hd ⟨7, .data⟩ (by simp) rfl _ rfl); have d8 : xv 8 = _ := pF_get (hd ⟨8, .data⟩ (by simp) rfl _ rfl); simp only [d7, d8]
                go_simp)
            · refine fun _ => Facts.call2P hS hF (fun _ _ => rfl) rfl (by kernel_rfl) rfl (fun xv wv hSw hd => ?_)
              have d5 : xv 5 = _ := pF_get (hd ⟨5, .data⟩ (by simp) rfl _ rfl); have d9 : xv 9 = _ := pF_get (hd ⟨9, .data⟩ (by simp) rfl _ rfl)
              show Calls Tryz.prog 40 #[xv 5, xv 9] wv _
              rw [d5, d9]; refine (gone_any y (.slice py y.gone.length cy) ⟨q, u, idx⟩ wv (hyk.later hSw) hy100 hyca).mono ?_; rintro e w' ⟨u', he, hu', hb⟩; refine ⟨_, he, ⟨u', rfl, ?_⟩, hb⟩
              rcases hu' with ⟨e1, e2⟩ | ho
              · exact Or.inl (by show MHas w u' (wth y.gone ⟨q, u, idx⟩); rw [e1, e2]; exact hyw)
              · exact Or.inr (own_mono ho (Nat.le_trans hBr hSw.size))
            · exact fun _ => Facts.pureP hS hF (fun _ _ => rfl) rfl (fun xv wv hSw hd => by
                have d0 : xv 0 = _ := pF_get (hd ⟨0, .data⟩ (by simp) rfl _ rfl); have d1 : xv 1 = _ := pF_get (hd ⟨1, .data⟩ (by simp) rfl _ rfl); simp only [d0, d1]
                go_simp)
            · exact fun h => absurd h (by decide)
            intro xr w6 hb5 hff; obtain ⟨u', e10, hG⟩ := pF_get (hff 10 _ rfl); have e11 : xr 11 = _ := pF_get (hff 11 _ rfl); clear hff hS hF; have ho6 := own_later ho hb5; have hst := run_storeAt_mid (P := Tryz.prog) w6 g (k * 9) 60 (El.cells ({ y with gone := wth y.gone ⟨q, u, idx⟩ }, u')).toArray (there_own ho6 (by rw [rows_length El.len]; show k * 9 + 9 ≤ _; omega)) size60 (all_oneCell_toArray (one_el (hG.has (below_on hbel hb5)))); refine tail_store 60 _ _ rfl g (k * 9) e11 e10 hst ?_; refine Facts.tailWp_nil ?_; simp only [Act.put]
            have hgne : w.heap.size ≠ g := by have := hbB.out; omega
            have hgn3 : w.heap.size + 2 ≠ g := by have := hbB.out; omega
            have oN := own_put El.len ho6 hky ({ y with gone := wth y.gone ⟨q, u, idx⟩ }, u'); replace R0 := rw_setCells (R0.later hb5) hgne (El.cells ({ y with gone := wth y.gone ⟨q, u, idx⟩ }, u')) (k * 9); replace R3 := rw_setCells (R3.later hb5) hgn3 (El.cells ({ y with gone := wth y.gone ⟨q, u, idx⟩ }, u')) (k * 9); have hbN := bel_setCells (below_on hbel hb5) (show w.heap.size ≤ g by have := hbB.out; omega) (El.cells ({ y with gone := wth y.gone ⟨q, u, idx⟩ }, u')) (k * 9)
            have hGN : ∀ a ∈ es.set k ({ y with gone := wth y.gone ⟨q, u, idx⟩ }, u'), Gq w1.heap.size w (w6.setCells g (k * 9) (El.cells ({ y with gone := wth y.gone ⟨q, u, idx⟩ }, u'))) a := fun a ha => by
              rcases List.mem_or_eq_of_mem_set ha with h | h
              · exact ((hG0 a h).later hb5).put ho6 _ _
              · subst h
                exact hG.put ho6 _ _
            have hsz6 : w1.heap.size ≤ (w6.setCells g (k * 9) (El.cells ({ y with gone := wth y.gone ⟨q, u, idx⟩ }, u'))).heap.size := by
              rw [size_setCells]; exact Nat.le_trans hBr hb5.size
            have R1N := rw_setCells (R1.later hb5) (show w.heap.size + 1 ≠ g by have := hbB.out; omega) (El.cells ({ y with gone := wth y.gone ⟨q, u, idx⟩ }, u')) (k * 9)
            have HEL2 : Hid ((es.set k ({ y with gone := wth y.gone ⟨q, u, idx⟩ }, u')).length = ys.length) := by
              show _ = _
              rw [List.length_set]; exact HEL.out
            have HEY2 : Hid (∀ j, k + 1 ≤ j → (es.set k ({ y with gone := wth y.gone ⟨q, u, idx⟩ }, u'))[j]? = ys[j]?) := fun j hj => by
              rw [List.getElem?_set_ne (by omega)]; exact HEY.out j (by omega)
            go_wp2_with fail; go_roundw
            case rel => exact ⟨k + 1, _, by simp, by omega, HEL2, HES2.out u', HEY2, oN, hGN, R0, R1N, R3, hbN, hsz6⟩
            case measure => simp [intOf]; omega
        case' neg =>
          obtain rfl : k = ys.length := by omega
          have hkk : ¬ (ys.length : Int) < (ys.length : Int) := by omega
          have hes : es.map (·.1) = x.el.map (gE (bfP q u v idx) ⟨q, u, idx⟩) := by
            rw [HES.out, HYL.out, List.take_length, List.drop_length, List.append_nil]
          have hG := hG0; clear hG0 HES HEY HEL; have c5 : wr.cell? ⟨w.heap.size, 5, none⟩ = some (.slice pe x.el.length ce) := R0.cell 5; have f5 : wr.frozen? ⟨w.heap.size, 5, none⟩ = false := R0.frozen 5; have Ra : Rw (wr.setCell ⟨w.heap.size, 5, none⟩ (.slice (some ⟨g, 0, none⟩) ys.length co)) w.heap.size 27 (cvc x.k x.b (.slice pa x.am.length ca') (.slice pw x.wr.length cw) (.slice pm x.mb.length cm) (.slice (some ⟨g, 0, none⟩) ys.length co)) := R0.set 5 _; have Rb := R3.setOther (q := w.heap.size) (by omega) 5 (.slice (some ⟨g, 0, none⟩) ys.length co); have oF := own_over ho (b := w.heap.size) (fun k hk => by have := (World.ownsRow.lt ho k hk).1; have := hbB.out; omega) 5 (.slice (some ⟨g, 0, none⟩) ys.length co); have hbF := hbel.setCell (p := ⟨w.heap.size, 5, none⟩) (Nat.le_refl _) (.slice (some ⟨g, 0, none⟩) ys.length co)
          have gF : ∀ y ∈ es, Gq w1.heap.size w (wr.setCell ⟨w.heap.size, 5, none⟩ (.slice (some ⟨g, 0, none⟩) ys.length co)) y := fun y hy => (hG y hy).cell (by have := hbB.out; omega) 5 (.slice (some ⟨g, 0, none⟩) ys.length co)
          generalize hX : wr.setCell ⟨w.heap.size, 5, none⟩ (.slice (some ⟨g, 0, none⟩) ys.length co) = wF at Ra Rb oF hbF gF
          have HE : Hid (Gives { x with el := x.el.map (gE (bfP q u v idx) ⟨q, u, idx⟩) } w (.returned (CV x.k x.b (.slice pa x.am.length ca') (.slice pw x.wr.length cw) (.slice pm x.mb.length cm) (.slice (some ⟨g, 0, none⟩) ys.length co))) (wF.setRow (w.heap.size + 2) (cvc x.k x.b (.slice pa x.am.length ca') (.slice pw x.wr.length cw) (.slice pm x.mb.length cm) (.slice (some ⟨g, 0, none⟩) ys.length co)))) := by
            have hb := below_setRow hbF (g := w.heap.size + 2) (by omega) (cvc x.k x.b (.slice pa x.am.length ca') (.slice pw x.wr.length cw) (.slice pm x.mb.length cm) (.slice (some ⟨g, 0, none⟩) ys.length co)); have hnB := hbB.out; refine ⟨_, _, _, _, rfl, ⟨HF.out.a.later hb, HF.out.t.later hb, HF.out.m.later hb, es, hes, ?_, fun y hy => ((gF y hy).row (by omega) _).has hb⟩, hb⟩; rw [show (x.el.map (gE (bfP q u v idx) ⟨q, u, idx⟩)).length = ys.length from (List.length_map _).trans HYL.out.symm]; exact own_sh (own_row oF (by omega) _)
          clear oF hbF gF hbel ho hG
          go_wp2_with (first | rw [hX] | refine load_r 27 _ rfl rfl _ rfl Ra Tryz.underlying27 rfl size27 ?_ | refine store_r rfl 27 _ _ rfl _ (cvc x.k x.b (.slice pa x.am.length ca') (.slice pw x.wr.length cw) (.slice pm x.mb.length cm) (.slice (some ⟨g, 0, none⟩) ys.length co)) rfl rfl Rb size27 rfl (by simp [Value.oneCell']) ?_)
          refine bodyPost_ret (results_r rfl rfl (Rb.row (cvc x.k x.b (.slice pa x.am.length ca') (.slice pw x.wr.length cw) (.slice pm x.mb.length cm) (.slice (some ⟨g, 0, none⟩) ys.length co))) rfl Tryz.underlying27 size27) rfl ?_; exact HE.out
end Go.Proofs.YtfjpbmdmkcihcaaGreat
/- Fold of the document's answer. -/
namespace Go.Proofs.YtfjpbmdmkcihcaaGreat
open Go.RowKit

/-- Elements that lie where they lay, or in a row of their own; their marks lie where they lay. -/
def Lq (B : Nat) (w wr : World) (v : Value) (cur : List El) : Prop := EHas w v cur ∨ ∃ es : List (El × Value), es.map (·.1) = cur ∧ wr.ownsRow B 60 9 v es.length (rows El.cells es) ∧ ∀ y ∈ es, MHas w y.2 y.1.gone
theorem Lq.later {B : Nat} {w wr w' : World} {v : Value} {cur : List El} (h : Lq B w wr v cur) (hb : Below wr.heap.size wr w') : Lq B w w' v cur := by
  rcases h with h | ⟨es, h1, h2, h3⟩
  · exact Or.inl h
  · exact Or.inr ⟨es, h1, own_later h2 hb, h3⟩
theorem Lq.list {B : Nat} {w wr : World} {v : Value} {cur : List El} (h : Lq B w wr v cur) (hb : Below w.heap.size w wr) : ∃ es : List (El × Value), es.map (·.1) = cur ∧ SHas 9 wr v cur.length (rows El.cells es) ∧ ∀ y ∈ es, MHas w y.2 y.1.gone := by
  rcases h with ⟨es, h1, h2, h3⟩ | ⟨es, h1, h2, h3⟩
  · exact ⟨es, h1, h2.later hb, h3⟩
  · refine ⟨es, h1, ?_, h3⟩
    rw [← h1, List.length_map]; exact own_sh h2
theorem Lq.put {B : Nat} {w wr : World} {v : Value} {cur : List El} (h : Lq B w wr v cur) {b b2 : Nat} (hb : b < B) (hb2 : b2 < B) (j : Nat) (u : Value) (cs : Array Value) (hbel : Below w.heap.size w ((wr.setCell ⟨b, j, none⟩ u).setRow b2 cs)) : EHas ((wr.setCell ⟨b, j, none⟩ u).setRow b2 cs) v cur := by
  rcases h with h | ⟨es, h1, h2, h3⟩
  · exact h.later hbel
  · refine ⟨es, h1, ?_, fun y hy => (h3 y hy).later hbel⟩
    rw [← h1, List.length_map]; exact own_sh (own_row (own_over h2 (fun k hk => by have := (World.ownsRow.lt h2 k hk).1; omega) j u) hb2 cs)
set_option maxHeartbeats 4000000 in
set_option maxRecDepth 100000 in
theorem refFold_any (x : X) (va vw vm ve : Value) (cv : List Int) (w : World) (hcv : cv.length = 13) (h : Four w x va vw vm ve) (hs : Sm x) :
    Calls Tryz.prog 17 #[CV x.k x.b va vw vm ve, V cv] w (Gives (fdX x (hsP cv)) w) := by
  obtain ⟨i0, hi, hz0, hz1, hz2⟩ := info_parts info60; obtain ⟨pa, ca', pw, cw, pm, cm, pe, ce, rfl, rfl, rfl, rfl⟩ := h.slices; have HF : Hid (Four w x (.slice pa x.am.length ca') (.slice pw x.wr.length cw) (.slice pm x.mb.length cm) (.slice pe x.el.length ce)) := h; clear h; have R0 := (((rw_new w 27 (cvc x.k x.b (.slice pa x.am.length ca') (.slice pw x.wr.length cw) (.slice pm x.mb.length cm) (.slice pe x.el.length ce))).alloc (.cells (vals cv).toArray 31)).alloc (.cells (cvc 0 0 (.slice none 0 0) (.slice none 0 0) (.slice none 0 0) (.slice none 0 0)) 27)); have R1 := ((rw_new (w.alloc (.cells (cvc x.k x.b (.slice pa x.am.length ca') (.slice pw x.wr.length cw) (.slice pm x.mb.length cm) (.slice pe x.el.length ce)) 27)) 31 (vals cv).toArray).alloc (.cells (cvc 0 0 (.slice none 0 0) (.slice none 0 0) (.slice none 0 0) (.slice none 0 0)) 27)); have R3 := rw_new ((w.alloc (.cells (cvc x.k x.b (.slice pa x.am.length ca') (.slice pw x.wr.length cw) (.slice pm x.mb.length cm) (.slice pe x.el.length ce)) 27)).alloc (.cells (vals cv).toArray 31)) 27 (cvc 0 0 (.slice none 0 0) (.slice none 0 0) (.slice none 0 0) (.slice none 0 0)); have hbel := bel_alloc (bel_alloc (bel_alloc (Below.refl w.heap.size w) (.cells (cvc x.k x.b (.slice pa x.am.length ca') (.slice pw x.wr.length cw) (.slice pm x.mb.length cm) (.slice pe x.el.length ce)) 27)) (.cells (vals cv).toArray 31)) (.cells (cvc 0 0 (.slice none 0 0) (.slice none 0 0) (.slice none 0 0) (.slice none 0 0)) 27)
  have HSZ : Hid ((((w.alloc (.cells (cvc x.k x.b (.slice pa x.am.length ca') (.slice pw x.wr.length cw) (.slice pm x.mb.length cm) (.slice pe x.el.length ce)) 27)).alloc (.cells (vals cv).toArray 31)).alloc (.cells (cvc 0 0 (.slice none 0 0) (.slice none 0 0) (.slice none 0 0) (.slice none 0 0)) 27)).heap.size = w.heap.size + 3) := by
    show _ = _
    simp
  generalize hW : ((w.alloc (.cells (cvc x.k x.b (.slice pa x.am.length ca') (.slice pw x.wr.length cw) (.slice pm x.mb.length cm) (.slice pe x.el.length ce)) 27)).alloc (.cells (vals cv).toArray 31)).alloc (.cells (cvc 0 0 (.slice none 0 0) (.slice none 0 0) (.slice none 0 0) (.slice none 0 0)) 27) = w0 at R0 R1 R3 hbel HSZ; simp only [World.size_alloc] at R0 R1 R3
  have zv : (Tryz.prog.info? 31).map (·.size) = some (vals cv).toArray.size := by rw [List.size_toArray]; exact info31 hcv
  have C1 := refCheck_any x _ _ _ _ w0 (HF.out.later hbel) hs; obtain ⟨y1, HY1⟩ := hid_ex (ck x); rw [HY1.out] at C1; obtain ⟨z, HZ⟩ := hid_ex (fdX x (hsP cv)); rw [HZ.out]
  go_enter Tryz.func17, Tryz.ntmps17
  go_wp2_with (first | rw [hW] | refine load_r 27 _ rfl rfl _ rfl R0 Tryz.underlying27 rfl size27 ?_)
  clear hW; refine C1.mono ?_; clear C1; rintro e w1 ⟨rfl, hb1⟩; replace R0 := R0.later hb1; replace R1 := R1.later hb1; replace R3 := R3.later hb1; replace hbel := below_on hbel hb1; have hB1 := hb1.size; clear hb1
  cases y1
  case' false =>
    have e0 : z = x := by
      rw [← HZ.out]; unfold fdX; rw [if_neg (by rw [HY1.out]; simp)]
    subst e0
    go_wp2_with (first | refine load_r 27 _ rfl rfl _ rfl R0 Tryz.underlying27 rfl size27 ?_ | refine store_r rfl 27 _ _ rfl _ (cvc z.k z.b (.slice pa z.am.length ca') (.slice pw z.wr.length cw) (.slice pm z.mb.length cm) (.slice pe z.el.length ce)) rfl rfl R3 size27 rfl (by simp [Value.oneCell']) ?_)
    refine bodyPost_ret (results_r rfl rfl (R3.row (cvc z.k z.b (.slice pa z.am.length ca') (.slice pw z.wr.length cw) (.slice pm z.mb.length cm) (.slice pe z.el.length ce))) rfl Tryz.underlying27 size27) rfl ?_; exact ⟨_, _, _, _, rfl, (HF.out.later hbel).row R3 _, below_setRow hbel (by omega) _⟩
  case' true =>
    obtain rfl : z = { x with el := fdE x.el (hsP cv) } := by
      rw [← HZ.out]; unfold fdX; rw [if_pos HY1.out]
    have HFD : Hid (sN x.el (hsP cv) (x.el.length + 1) = fdE x.el (hsP cv)) := fd_sN (tre_ck HY1.out) _
    have hbB : Hid (w.heap.size + 3 ≤ w1.heap.size) := by
      show _ ≤ _
      rw [← HSZ.out]; exact hB1
    have hl100 := hs.e; have HG : Hid (∀ e ∈ x.el, e.gone.length ≤ 100) := hs.ei; clear HZ HSZ hB1 HY1; have c5 : w1.cell? ⟨w.heap.size, 5, none⟩ = some (.slice pe x.el.length ce) := R0.cell 5; go_wp2_with fail
    go_loopw [5, 6] (fun vl vi wr => ∃ (r : Nat) (cur : List El), vi = .int .i64 r ∧ r ≤ x.el.length + 1 ∧ Hid (sN x.el (hsP cv) r = cur) ∧ Lq w1.heap.size w wr vl cur ∧ Rw wr w.heap.size 27 (cvc x.k x.b (.slice pa x.am.length ca') (.slice pw x.wr.length cw) (.slice pm x.mb.length cm) (.slice pe x.el.length ce)) ∧ Rw wr (w.heap.size + 1) 31 (vals cv).toArray ∧ Rw wr (w.heap.size + 2) 27 (cvc 0 0 (.slice none 0 0) (.slice none 0 0) (.slice none 0 0) (.slice none 0 0)) ∧ Below w.heap.size w wr ∧ w1.heap.size ≤ wr.heap.size) (fun _ vi _ => x.el.length + 1 - (intOf vi).toNat)
    case atStart => exact ⟨0, x.el, rfl, by omega, (show sN x.el (hsP cv) 0 = x.el from rfl), Or.inl HF.out.e, R0, R1, R3, hbel, Nat.le_refl _⟩
    case round =>
      clear R0 R1 R3 hbel c5; obtain ⟨r, cur, rfl, hr, HCU, hL, R0, R1, R3, hbel, hBr⟩ := hrel; have c5 : wr.cell? ⟨w.heap.size, 5, none⟩ = some (.slice pe x.el.length ce) := R0.cell 5; obtain ⟨es, hes, hse, hem⟩ := hL.list hbel; obtain ⟨p5, q5, rfl⟩ := hse.slice
      have hcl : cur.length ≤ 100 := by rw [← HCU.out]; exact Nat.le_trans (sN_sub _ _ _).length_le hl100
      by_cases hlt : r ≤ x.el.length
      case' pos =>
        have hlt' : (r : Int) ≤ (x.el.length : Int) := by omega
        have HGC : Hid (∀ e ∈ cur, e.gone.length ≤ 100) := fun e he => HG.out e ((sN_sub _ _ r).mem (by rw [HCU.out]; exact he))
        have HEL : Hid (es.length = cur.length) := by show _ = _; rw [← hes, List.length_map]
        have HES : Hid (es.map (·.1) = cur) := hes; clear hes; go_wp2_with fail; clear c5; have HR0 := R0; have HR3 := R3; have HBE := hbel; have HBR := hBr; clear R0 R3 hbel hBr hL; obtain ⟨w2, HW2⟩ := hid_ex wr; rw [HW2.out] at HR0 R1 HR3 HBE HBR hse ⊢; clear HW2; have HSE : Hid (SHas 9 w2 (.slice p5 cur.length q5) cur.length (rows El.cells es)) := hse; have HR1 := R1; clear hse R1
        go_loopw [7, 8] (fun vo vi wr => ∃ i : Nat, vi = .int .i64 i ∧ i ≤ cur.length ∧ wr.ownsRow w2.heap.size 60 9 vo ((es.take i).filter (fun y : El × Value => !lsE cur (hsP cv) y.1)).length (rows El.cells ((es.take i).filter (fun y : El × Value => !lsE cur (hsP cv) y.1))) ∧ Below w2.heap.size w2 wr) (fun _ vi _ => cur.length - (intOf vi).toNat)
        case atStart => exact ⟨0, rfl, by omega, World.ownsRow_nil _ _ _ _, Below.refl _ _⟩
        case round =>
          obtain ⟨i, rfl, hi', hown, hb9⟩ := hrel; obtain ⟨L, HLL⟩ := hid_ex ((es.take i).filter (fun y : El × Value => !lsE cur (hsP cv) y.1))
          have hLi : L.length ≤ i := by
            rw [← HLL.out]; exact Nat.le_trans (List.length_filter_le _ _) (by rw [List.length_take]; omega)
          rw [HLL.out] at hown; obtain ⟨P, pc, rfl⟩ := own_sl hown
          by_cases hit : i < cur.length
          case' pos =>
            have hit' : (i : Int) < (cur.length : Int) := by omega
            have hi0 : (0 : Int) ≤ (i : Int) := by omega
            have hie : i < es.length := by rw [HEL.out]; exact hit
            obtain ⟨g, o, rfl, hr0⟩ := HSE.out.at (by omega); have dk := El.elem (range_later hr0 hb9) i hie
            have ec : es[i].1 = cur[i] := by simp only [← HES.out, List.getElem_map]
            have hemi := hem es[i] (List.getElem_mem _)
            have HT : Hid ((es.take (i + 1)).filter (fun y : El × Value => !lsE cur (hsP cv) y.1) = L ++ [es[i]].filter (fun y : El × Value => !lsE cur (hsP cv) y.1)) := by
              show _ = _
              rw [List.take_succ_eq_append_getElem hie, List.filter_append, HLL.out]
            have C := loose_any (.slice (some ⟨g, o, none⟩) cur.length q5) cur i cv wr hcv ⟨es, HES.out, HSE.out.later hb9, fun y hy => (hem y hy).later (below_on HBE hb9)⟩ hit HGC.out; obtain ⟨zz, HZZ⟩ := hid_ex (lsE cur (hsP cv) cur[i]); rw [HZZ.out] at C; rw [← ec] at HZZ; have hone := one_el hemi; obtain ⟨yy, HX⟩ := hid_ex es[i]; rw [HX.out] at dk HZZ HT hone; have R1 := HR1.later hb9; have zk : (Tryz.prog.info? 60).map (·.size) = some (El.cells yy).length := size60; clear hr0 ec hemi HX
            go_wp2_with (first | refine load_r 31 _ rfl rfl _ rfl R1 Tryz.underlying31 rfl zv ?_)
            refine C.mono ?_; clear C; rintro e w9 ⟨rfl, hb8⟩; replace hb9 := below_on hb9 hb8; replace hown := own_later hown hb8; have dk9 := range_later dk hb8; clear hb8 dk R1
            cases zz
            case' true =>
              have HN : Hid ([yy].filter (fun y : El × Value => !lsE cur (hsP cv) y.1) = []) := by
                show _ = _
                rw [List.filter_cons, if_neg (by simp only [HZZ.out]; simp)]
                rfl
              rw [HN.out, List.append_nil] at HT; go_wp2_with fail; go_roundw
              case rel => exact ⟨i + 1, by simp, by omega, by rw [HT.out]; exact hown, hb9⟩
              case measure => simp [intOf]; omega
            case' false =>
              have HN : Hid ([yy].filter (fun y : El × Value => !lsE cur (hsP cv) y.1) = [yy]) := by
                show _ = _
                rw [List.filter_cons, if_pos (by simp only [HZZ.out]; rfl)]
                rfl
              rw [HN.out] at HT
              have h1 : ∀ q u, (El.cells yy)[q]? = some u → (w9.alloc (.cells (El.cells yy).toArray 60)).cell? ((⟨w9.heap.size, 0, none⟩ : Addr).add q) = some u := fun q u hq => (cells_new w9 (El.cells yy) 60 q).trans hq
              have h3 : L.length + 1 ≤ maxLen := by unfold maxLen; omega
              have h4 : (L.length + 1) * 96 ≤ 140737488355328 := by omega
              have h5 : w2.heap.size ≤ (w9.alloc (.cells (El.cells yy).toArray 60)).heap.size := by simp; have := hb9.size; omega
              have hA := bel_alloc (Below.refl w9.heap.size w9) (.cells (El.cells yy).toArray 60); have oA := hown.alloc (.cells (El.cells yy).toArray 60); generalize hWn : w9.alloc (.cells (El.cells yy).toArray 60) = wn at h1 h5 hA oA
              go_wp2_with (first | refine load_m 60 _ rfl rfl _ _ rfl dk9 Tryz.underlying60 rfl zk ?_ | rw [hWn] | (at_builtin; refine wpList_append_own _ rfl _ _ 25 rfl w2.heap.size 60 i0 (.agg #[.int .i64 0, .int .i64 0, .int .i64 0, .int .i64 0, .int .i64 0, .int .i64 0, .int .i64 0, .string noS, .slice none 0 0]) 9 96 Tryz.underlying25 hi hz0 hz1 hz2 rfl (by decide) _ _ _ rfl oA ⟨w9.heap.size, 0, none⟩ 1 1 (El.cells yy) rfl rfl h1 hone h3 h4 h5 ?_))
              intro v2 w10 o10 hg10 _; have hb10 := (below_on hb9 hA).grown hg10 (below_on hb9 hA).size (fun q' hq => (World.ownsRow.lt oA q' hq).1)
              have e10 : w10.ownsRow w2.heap.size 60 9 v2 (L ++ [yy]).length (rows El.cells (L ++ [yy])) := by
                rw [rows_append, rows_one, List.length_append]; exact o10
              clear o10 hg10 oA hA hown h1 h3 h4 h5 dk9; go_wp2_with fail; go_roundw
              case rel => exact ⟨i + 1, by simp, by omega, by rw [HT.out]; exact e10, hb10⟩
              case measure => simp [intOf]; omega
          case' neg =>
            obtain rfl : i = cur.length := by omega
            have hit' : ¬ (cur.length : Int) < (cur.length : Int) := by omega
            have HE : Hid (L.map (·.1) = sN x.el (hsP cv) (r + 1)) := by
              show _ = _
              rw [← HLL.out, ← HEL.out, List.take_length]
              show _ = stp1 (sN x.el (hsP cv) r) (hsP cv)
              rw [HCU.out]; unfold stp1; rw [← HES.out, List.filter_map]
              rfl
            have hLm : ∀ y ∈ L, MHas w y.2 y.1.gone := fun y hy => hem y (by rw [← HLL.out, ← HEL.out, List.take_length] at hy; exact (List.mem_filter.1 hy).1)
            go_wp2_with fail; go_roundw
            case rel => exact ⟨r + 1, sN x.el (hsP cv) (r + 1), by simp, by omega, (show _ = _ from rfl), Or.inr ⟨L, HE.out, own_mono hown HBR, hLm⟩, HR0.later hb9, HR1.later hb9, HR3.later hb9, below_on HBE hb9, Nat.le_trans HBR hb9.size⟩
            case measure => simp [intOf]; omega
      case' neg =>
        have hlt' : ¬ (r : Int) ≤ (x.el.length : Int) := by omega
        obtain rfl : r = x.el.length + 1 := by omega
        obtain rfl : cur = fdE x.el (hsP cv) := by rw [← HCU.out, HFD.out]
        have f5 : wr.frozen? ⟨w.heap.size, 5, none⟩ = false := R0.frozen 5; obtain ⟨fd, HFF⟩ := hid_ex (fdE x.el (hsP cv)); rw [HFF.out] at hL hse; have Ra : Rw (wr.setCell ⟨w.heap.size, 5, none⟩ (.slice p5 fd.length q5)) w.heap.size 27 (cvc x.k x.b (.slice pa x.am.length ca') (.slice pw x.wr.length cw) (.slice pm x.mb.length cm) (.slice p5 fd.length q5)) := R0.set 5 _; have Rb := R3.setOther (q := w.heap.size) (by omega) 5 (.slice p5 fd.length q5); have hbF := hbel.setCell (p := ⟨w.heap.size, 5, none⟩) (Nat.le_refl _) (.slice p5 fd.length q5)
        have HE : Hid (Gives { x with el := fd } w (.returned (CV x.k x.b (.slice pa x.am.length ca') (.slice pw x.wr.length cw) (.slice pm x.mb.length cm) (.slice p5 fd.length q5))) ((wr.setCell ⟨w.heap.size, 5, none⟩ (.slice p5 fd.length q5)).setRow (w.heap.size + 2) (cvc x.k x.b (.slice pa x.am.length ca') (.slice pw x.wr.length cw) (.slice pm x.mb.length cm) (.slice p5 fd.length q5)))) := by
          have hb := below_setRow hbF (g := w.heap.size + 2) (by omega) (cvc x.k x.b (.slice pa x.am.length ca') (.slice pw x.wr.length cw) (.slice pm x.mb.length cm) (.slice p5 fd.length q5)); have hnB := hbB.out; exact ⟨_, _, _, _, rfl, ⟨HF.out.a.later hb, HF.out.t.later hb, HF.out.m.later hb, hL.put (by omega) (by omega) _ _ _ hb⟩, hb⟩
        generalize hX : wr.setCell ⟨w.heap.size, 5, none⟩ (.slice p5 fd.length q5) = wF at Ra Rb hbF HE; clear hbF hbel hL hse hem HCU HFD; rw [HFF.out]
        go_wp2_with (first | rw [hX] | refine load_r 27 _ rfl rfl _ rfl Ra Tryz.underlying27 rfl size27 ?_ | refine store_r rfl 27 _ _ rfl _ (cvc x.k x.b (.slice pa x.am.length ca') (.slice pw x.wr.length cw) (.slice pm x.mb.length cm) (.slice p5 fd.length q5)) rfl rfl Rb size27 rfl (by simp [Value.oneCell']) ?_)
        refine bodyPost_ret (results_r rfl rfl (Rb.row (cvc x.k x.b (.slice pa x.am.length ca') (.slice pw x.wr.length cw) (.slice pm x.mb.length cm) (.slice p5 fd.length q5))) rfl Tryz.underlying27 size27) rfl ?_
        first
        | exact HE.out
        | (rw [HFF.out]; exact HE.out)
end Go.Proofs.YtfjpbmdmkcihcaaGreat
/- There of the document's answer: the places of what is there, in its order. -/
namespace Go.Proofs.YtfjpbmdmkcihcaaGreat
open Go.RowKit

theorem behind_any {v : Value} {l : List El} (hT : Tre l) (hl : l.length ≤ 100) {R : K → Nat} (hR : Rk kE rE R l) {B : Nat} (hB : ∀ e ∈ l, R (kE e) ≤ B) : ∀ (f : Nat) (m : M) (w : World), EHas w v l → B ≤ f + R (kM m) → Calls Tryz.prog 71 #[v, MV m.p m.s m.i] w (BhPost (bI l (f + 1) (kM m)) w)
  | 0, m, w, h, hf => behind_step v l m 0 w h hl (Nat.le_trans (bI_len hT _ _) hl) (fun c hc w' hb => by
    exfalso
    obtain ⟨h1, h2⟩ := kI_mem hc; have h3 := bI_rk hR c (List.mem_range.2 h1); have h4 : R (mI l c) ≤ B := hB _ (mI_mem h1); rw [h2] at h3
    omega)
  | f + 1, m, w, h, hf => behind_step v l m (f + 1) w h hl (Nat.le_trans (bI_len hT _ _) hl) (fun c hc w' hb => by
    obtain ⟨h1, h2⟩ := kI_mem hc; have h3 := bI_rk hR c (List.mem_range.2 h1); rw [h2] at h3
    exact behind_any hT hl hR hB f (mE (gL l (c + 1))) w' (h.later hb) (by
      show B ≤ f + R (mI l c)
      omega))
/-- The places of what is there. -/
def thI (l : List El) : List Nat := (bI l (l.length + 1) zK).filter (fun i => nog (gL l (i + 1)))
theorem thI_map {l : List El} (h : Tre l) : (thI l).map (fun i => gL l (i + 1)) = prE l := by
  unfold thI; rw [prE_eq h, ← bI_fuel h (Nat.le_succ _), List.filter_map]
  rfl
theorem thI_lt {l : List El} {i : Nat} (h : i ∈ thI l) : i < l.length := bI_lt (List.mem_filter.1 h).1
theorem thI_len {l : List El} (h : Tre l) : (thI l).length ≤ l.length := Nat.le_trans (List.length_filter_le _ _) (bI_len h _ _)
set_option maxHeartbeats 4000000 in
set_option maxRecDepth 100000 in
theorem there_any (x : X) (va vw vm ve : Value) (w : World) (h : Four w x va vw vm ve) (hs : Sm x) (hc : ck x = true) : Calls Tryz.prog 49 #[CV x.k x.b va vw vm ve] w (BhPost (thI x.el) w) := by
  obtain ⟨i0, hi, hz0, hz1, hz2⟩ := info_parts info3; have hT := tre_ck hc; obtain ⟨R, hR, hB⟩ := hT.bd; have hl := hs.e
  have C1 := fun w' (hb : Below w.heap.size w w') => behind_any (v := ve) hT hl hR hB x.el.length ⟨0, 0, 0⟩ w' (h.e.later hb) (Nat.le_add_right _ _)
  unfold thI; obtain ⟨bs_, HBS⟩ := hid_ex (bI x.el (x.el.length + 1) zK)
  have hbl : bs_.length ≤ 100 := by rw [← HBS.out]; exact Nat.le_trans (bI_len hT _ _) hl
  have HBM : Hid (∀ i ∈ bs_, i < x.el.length) := fun i hi => by rw [← HBS.out] at hi; exact bI_lt hi
  rw [show kM ⟨0, 0, 0⟩ = zK from rfl, HBS.out] at C1; rw [HBS.out]; obtain ⟨pa, ca', pw, cw, pm, cm, pe, ce, rfl, rfl, rfl, rfl⟩ := h.slices; obtain ⟨ys, hys, hse, hy⟩ := h.e
  have hyl : ys.length = x.el.length := by rw [← hys, List.length_map]
  have HR : Hid (SHas 9 w (.slice pe x.el.length ce) x.el.length (rows El.cells ys)) := hse; have HY : Hid (∀ y ∈ ys, MHas w y.2 y.1.gone) := hy
  have HL : Hid (∀ k (h1 : k < ys.length) (h2 : k < x.el.length), ys[k].1 = x.el[k]) := fun k h1 h2 => by
    simp only [← hys, List.getElem_map]
  clear hse hy hys h hT hR hB hc HBS; have R0 := rw_new w 27 (cvc x.k x.b (.slice pa x.am.length ca') (.slice pw x.wr.length cw) (.slice pm x.mb.length cm) (.slice pe x.el.length ce)); have hb0 := bel_alloc (Below.refl w.heap.size w) (.cells (cvc x.k x.b (.slice pa x.am.length ca') (.slice pw x.wr.length cw) (.slice pm x.mb.length cm) (.slice pe x.el.length ce)) 27); generalize hW : w.alloc (.cells (cvc x.k x.b (.slice pa x.am.length ca') (.slice pw x.wr.length cw) (.slice pm x.mb.length cm) (.slice pe x.el.length ce)) 27) = w0 at R0 hb0; have c5 : w0.cell? ⟨w.heap.size, 5, none⟩ = some (.slice pe x.el.length ce) := R0.cell 5
  go_enter Tryz.func49, Tryz.ntmps49
  go_wp2_with (first | rw [hW])
  clear hW; refine (C1 w0 hb0).mono ?_; clear C1; rintro e w1 ⟨u, rfl, ou, hb1⟩; have hb2 := below_on hb0 hb1; have c52 := cell_later hb1 c5; obtain ⟨P, pc, rfl⟩ := own_sl ou; clear hb0 hb1 c5 R0; go_wp2_with fail; have HB2 : Hid (Below w.heap.size w w1) := hb2; have HO2 : Hid (w1.ownsRow w0.heap.size 3 1 (.slice P bs_.length pc) bs_.length (iv bs_)) := ou; have HC2 : Hid (w1.cell? ⟨w.heap.size, 5, none⟩ = some (.slice pe x.el.length ce)) := c52; clear ou hb2 c52; obtain ⟨w2, HW2⟩ := hid_ex w1; rw [HW2.out] at HB2 HO2 HC2 ⊢; clear HW2
  go_loopw [4, 5] (fun vo vi wr => ∃ j : Nat, vi = .int .i64 j ∧ j ≤ bs_.length ∧ wr.ownsRow w2.heap.size 3 1 vo ((bs_.take j).filter (fun i => nog (gL x.el (i + 1)))).length (iv ((bs_.take j).filter (fun i => nog (gL x.el (i + 1))))) ∧ Below w2.heap.size w2 wr) (fun _ vi _ => bs_.length - (intOf vi).toNat)
  case atStart => exact ⟨0, rfl, by omega, World.ownsRow_nil _ _ _ _, Below.refl _ _⟩
  case round =>
    obtain ⟨j, rfl, hj, hown, hb9⟩ := hrel
    by_cases hjt : j < bs_.length
    case' pos =>
      have hjt' : (j : Int) < (bs_.length : Int) := by omega
      have hj0 : (0 : Int) ≤ (j : Int) := by omega
      obtain ⟨c, HC⟩ := hid_ex bs_[j]; have hck : c < x.el.length := HBM.out c (by rw [← HC.out]; exact List.getElem_mem _)
      have hc0 : (0 : Int) ≤ (c : Int) := by omega
      have hc1 : (c : Int) < (x.el.length : Int) := by omega
      have HT : Hid ((bs_.take (j + 1)).filter (fun i => nog (gL x.el (i + 1))) = (bs_.take j).filter (fun i => nog (gL x.el (i + 1))) ++ [c].filter (fun i => nog (gL x.el (i + 1)))) := by
        show _ = _
        rw [List.take_succ_eq_append_getElem hjt, List.filter_append, HC.out]
      obtain ⟨L, HLL⟩ := hid_ex ((bs_.take j).filter (fun i => nog (gL x.el (i + 1))))
      have hL : L.length ≤ j := by
        rw [← HLL.out]; exact Nat.le_trans (List.length_filter_le _ _) (by rw [List.length_take]; omega)
      rw [HLL.out] at HT hown; obtain ⟨Q, qc, rfl⟩ := own_sl hown; obtain ⟨gk0, ok, e1, hrk⟩ := (own_sh HO2.out).at (by omega); obtain ⟨gk, e2, _⟩ := own_some HO2.out (by omega); rw [e2] at e1; simp only [Option.some.injEq, Addr.mk.injEq, and_true] at e1; obtain ⟨rfl, rfl⟩ := e1; subst e2
      have hck2 : w2.cell? ⟨gk, j, none⟩ = some (.int .i64 (c : Int)) := by
        have := hrk j _ (iv_at hjt)
        rw [Nat.zero_add, HC.out] at this; exact this
      clear hrk HC; have ck : wr.cell? ⟨gk, j, none⟩ = some (.int .i64 (c : Int)) := cell_later hb9 hck2; obtain ⟨g, o, rfl, hd0⟩ := HR.out.at (by omega); have dw : w.rangeAt g (o + c * 9) (El.cells (ys[c]'(by omega))) := range_sub hd0 (c * 9) fun j u hu => rows_at El.len ys c (by omega) j u hu
      have ey : (ys[c]'(by omega)).1 = gL x.el (c + 1) := by rw [gL_succ hck, HL.out c (by omega) hck]
      have hyc := HY.out (ys[c]'(by omega)) (List.getElem_mem _); obtain ⟨yy, HX⟩ := hid_ex (ys[c]'(by omega)); rw [HX.out] at dw ey hyc; obtain ⟨y, yv⟩ := yy; replace ey : y = gL x.el (c + 1) := ey; replace hyc : MHas w yv y.gone := hyc; obtain ⟨pg, cg, rfl⟩ := hyc.slice; have c8 : w.cell? ⟨g, o + c * 9 + 8, none⟩ = some (.slice pg y.gone.length cg) := dw 8 _ rfl; have cg8 : wr.cell? ⟨g, o + c * 9 + 8, none⟩ = some (.slice pg y.gone.length cg) := cell_later (below_on HB2.out hb9) c8; have c5 := cell_later hb9 HC2.out; clear hd0 dw HX hyc c8
      by_cases hg : y.gone.length = 0
      case' pos =>
        have hg' : ((y.gone.length : Int) == 0) = true := by simpa using hg
        have HN : Hid ([c].filter (fun i => nog (gL x.el (i + 1))) = [c]) := by
          show _ = _
          rw [List.filter_cons, if_pos]
          · rfl
          · rw [← ey]
            unfold nog; exact decide_eq_true hg
        rw [HN.out] at HT; clear HN ey hg; go_wp2_with fail
        have hs : Calm.Stays (fun w' => w'.cell? ⟨w.heap.size, 5, none⟩ = some (.slice (some ⟨g, o, none⟩) x.el.length ce) ∧ w'.cell? ⟨gk, j, none⟩ = some (.int .i64 (c : Int)) ∧ w'.cell? ⟨g, o + c * 9 + 8, none⟩ = some (.slice pg y.gone.length cg) ∧ w'.ownsRow w2.heap.size 3 1 (.slice Q L.length qc) L.length (iv L) ∧ Below w2.heap.size w2 w') := fun wa wb h hb => ⟨cell_later hb h.1, cell_later hb h.2.1, cell_later hb h.2.2.1, own_later h.2.2.2.1 hb, below_on h.2.2.2.2 hb⟩
        refine Calm.region (by kernel_rfl) (by kernel_rfl) (fun w' => w'.cell? ⟨w.heap.size, 5, none⟩ = some (.slice (some ⟨g, o, none⟩) x.el.length ce) ∧ w'.cell? ⟨gk, j, none⟩ = some (.int .i64 (c : Int)) ∧ w'.cell? ⟨g, o + c * 9 + 8, none⟩ = some (.slice pg y.gone.length cg) ∧ w'.ownsRow w2.heap.size 3 1 (.slice Q L.length qc) L.length (iv L) ∧ Below w2.heap.size w2 w') ⟨c5, ck, cg8, hown, hb9.drew⟩ ?_
        iterate 11
          all_goals
            refine Calm.pure (v := ?_) (by rfl) ?_ ?_; rotate_left; focus (intro w hSw; go_simp <;> rfl)
            simp only [put4]
        all_goals
          rintro w9 ⟨_, ck9, _, hown9, hb10⟩
        clear c5 ck cg8 hown hb9; replace hb9 := hb10
        have h1a : ∀ q u, [Value.int .i64 (c : Int)][q]? = some u → (w9.alloc (.cells #[.int .i64 (c : Int)] 3)).cell? ((⟨w9.heap.size, 0, none⟩ : Addr).add q) = some u := fun q u hq => (cells_new w9 [Value.int .i64 (c : Int)] 3 q).trans hq
        have h2a : ∀ u ∈ [Value.int .i64 (c : Int)], u.oneCell' = true := fun u hu => by rw [List.mem_singleton.1 hu]; rfl
        have h3a : L.length + 1 ≤ maxLen := by unfold maxLen; omega
        have h4a : (L.length + 1) * 8 ≤ 140737488355328 := by omega
        have h5a : w2.heap.size ≤ (w9.alloc (.cells #[.int .i64 (c : Int)] 3)).heap.size := by simp; have := hb9.size; omega
        go_wp2_with (first | (at_builtin; refine wpList_append_own _ rfl _ _ 87 rfl w2.heap.size 3 i0 (.int .i64 0) 1 8 Tryz.underlying87 hi hz0 hz1 hz2 rfl (by decide) _ _ _ rfl (hown9.alloc _) ⟨w9.heap.size, 0, none⟩ 1 1 [.int .i64 (c : Int)] rfl rfl h1a h2a h3a h4a h5a ?_))
        intro va w10 oa hga _; have hbAa := bel_alloc (Below.refl w9.heap.size w9) (.cells #[.int .i64 (c : Int)] 3); replace hb9 := (below_on hb9 hbAa).grown hga (below_on hb9 hbAa).size (fun q' hq => (World.ownsRow.lt hown9 q' hq).1)
        have ea : w10.ownsRow w2.heap.size 3 1 va (L ++ [c]).length (iv (L ++ [c])) := by
          rw [iv_append, List.length_append]; exact oa
        clear hbAa hga oa h1a h2a h3a h4a h5a; go_wp2_with fail; go_roundw
        case rel => exact ⟨j + 1, by simp, by omega, by rw [HT.out]; exact ea, hb9⟩
        case measure => simp [intOf]; omega
      case' neg =>
        have hg' : ((y.gone.length : Int) == 0) = false := by simpa using hg
        have HN : Hid ([c].filter (fun i => nog (gL x.el (i + 1))) = []) := by
          show _ = _
          rw [List.filter_cons, if_neg]
          · rfl
          · rw [← ey]
            unfold nog
            simpa using hg
        rw [HN.out, List.append_nil] at HT; clear HN ey hg; go_wp2_with fail
        have hs : Calm.Stays (fun w' => w'.cell? ⟨w.heap.size, 5, none⟩ = some (.slice (some ⟨g, o, none⟩) x.el.length ce) ∧ w'.cell? ⟨gk, j, none⟩ = some (.int .i64 (c : Int)) ∧ w'.cell? ⟨g, o + c * 9 + 8, none⟩ = some (.slice pg y.gone.length cg) ∧ w'.ownsRow w2.heap.size 3 1 (.slice Q L.length qc) L.length (iv L) ∧ Below w2.heap.size w2 w') := fun wa wb h hb => ⟨cell_later hb h.1, cell_later hb h.2.1, cell_later hb h.2.2.1, own_later h.2.2.2.1 hb, below_on h.2.2.2.2 hb⟩
        refine Calm.region (by kernel_rfl) (by kernel_rfl) (fun w' => w'.cell? ⟨w.heap.size, 5, none⟩ = some (.slice (some ⟨g, o, none⟩) x.el.length ce) ∧ w'.cell? ⟨gk, j, none⟩ = some (.int .i64 (c : Int)) ∧ w'.cell? ⟨g, o + c * 9 + 8, none⟩ = some (.slice pg y.gone.length cg) ∧ w'.ownsRow w2.heap.size 3 1 (.slice Q L.length qc) L.length (iv L) ∧ Below w2.heap.size w2 w') ⟨c5, ck, cg8, hown, hb9.drew⟩ ?_
        iterate 11
          all_goals
            refine Calm.pure (v := ?_) (by rfl) ?_ ?_; rotate_left; focus (intro w hSw; go_simp <;> rfl)
            simp only [put4]
        all_goals
          rintro w9 ⟨_, ck9, _, hown9, hb10⟩
        go_wp2_with fail; go_roundw
        case rel => exact ⟨j + 1, by simp, by omega, by rw [HT.out]; exact hown9, hb10⟩
        case measure => simp [intOf]; omega
    case' neg =>
      obtain rfl : j = bs_.length := by omega
      have hjt' : ¬ (bs_.length : Int) < (bs_.length : Int) := by omega
      rw [List.take_length] at hown; obtain ⟨L, HLL⟩ := hid_ex (bs_.filter (fun i => nog (gL x.el (i + 1)))); rw [HLL.out] at hown; obtain ⟨Q, qc, rfl⟩ := own_sl hown; go_wp2_with fail; go_ret; exact ⟨_, rfl, by rw [HLL.out]; exact own_mono hown HB2.out.size, below_on HB2.out hb9⟩
end Go.Proofs.YtfjpbmdmkcihcaaGreat
