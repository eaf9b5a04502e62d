import Derived.Test.YtdnppcbdifckcaaP15
/- Del and Clear of package orset. -/
namespace Go.Proofs.Ytdnppcbdifckcaa
open Go.RowKit Go.Sort

theorem range_off3 {w : World} {g o b : Nat} {xs : List Value} (h : w.rangeAt g o xs) {r : Value} (h0 : xs[2]? = some r) (hr : ∀ p l c, r ≠ .slice p l c) {t : TypeId} {k i : Int} {pa : Option Addr} {la ca : Nat} {pw : Option Addr} {lw cw : Nat} {pm : Option Addr} {lm cm : Nat} {pe : Option Addr} {le ce : Nat} (R : Rw w b t (cvc k i (.slice pa la ca) (.slice pw lw cw) (.slice pm lm cm) (.slice pe le ce))) : g ≠ b := by
  rintro rfl
  have h2 := h 2 _ h0
  rw [R.cell] at h2
  match o, h2 with
  | 0, h2 => exact hr _ _ _ (Option.some.inj h2).symm
  | 1, h2 => exact hr _ _ _ (Option.some.inj h2).symm
  | 2, h2 => exact hr _ _ _ (Option.some.inj h2).symm
  | 3, h2 => exact hr _ _ _ (Option.some.inj h2).symm
  | o + 4, h2 => simp at h2
theorem EHas.row {w : World} {v : Value} {l : List El} (h : EHas w v l) {b : Nat} {t : TypeId} {k i : Int} {pa : Option Addr} {la ca : Nat} {pw : Option Addr} {lw cw : Nat} {pm : Option Addr} {lm cm : Nat} {pe : Option Addr} {le ce : Nat} (R : Rw w b t (cvc k i (.slice pa la ca) (.slice pw lw cw) (.slice pm lm cm) (.slice pe le ce))) (cs : Array Value) : EHas (w.setRow b cs) v l := by
  obtain ⟨ys, h1, h2, h3⟩ := h
  refine ⟨ys, h1, ?_, fun y hy => (h3 y hy).row (M.flat _) (by decide) R cs⟩
  obtain ⟨hm, hl, ⟨rfl, h0⟩ | ⟨ad, cc, rfl, hc', hd⟩⟩ := h2
  · exact ⟨hm, hl, .inl ⟨rfl, h0⟩⟩
  · refine ⟨hm, hl, .inr ⟨ad, cc, rfl, hc', fun h => ?_⟩⟩
    obtain ⟨g, o, rfl, hd2⟩ := hd h
    refine ⟨g, o, rfl, range_row hd2 ?_ cs⟩
    have hy : 0 < ys.length := by rw [← h1, List.length_map] at h; exact h
    have h4 := rows_at El.len ys 0 hy 2 (.int .i64 ys[0].1.i) rfl
    rw [Nat.zero_mul, Nat.zero_add] at h4
    exact range_off3 hd2 h4 (fun _ _ _ e => by cases e) R
theorem Four.row {w : World} {x : X} {va vw vm ve : Value} (h : Four w x va vw vm ve) {b : Nat} {t : TypeId} {k i : Int} {pa : Option Addr} {la ca : Nat} {pw : Option Addr} {lw cw : Nat} {pm : Option Addr} {lm cm : Nat} {pe : Option Addr} {le ce : Nat} (R : Rw w b t (cvc k i (.slice pa la ca) (.slice pw lw cw) (.slice pm lm cm) (.slice pe le ce))) (cs : Array Value) : Four (w.setRow b cs) x va vw vm ve :=
  ⟨h.a.row (A.flat _) (by decide) R cs, h.t.row (Wt.flat _) (by decide) R cs, h.m.row R cs, h.e.row R cs⟩
theorem one_in (s : Bs) : (fun y : Mb => decide (tx y ∈ [s])) = fun y => decide (tx y = s) := funext fun y => by simp
set_option maxHeartbeats 4000000 in
set_option maxRecDepth 100000 in
theorem del_any (x : X) (va vw vm ve : Value) (q u : Int) (v : List Int) (t : Int) (sl : Value) (idx : Int) (s : ByteArray) (w : World) (hv : v.length = 13) (h : Four w x va vw vm ve) (hs : Sm x) (hx : s.size ≤ 1000) :
    Calls Try.prog 14 #[CV x.k x.b va vw vm ve, TxV q u v t sl, .int .i64 idx, .string s] w (Gives (delX x q u v idx s) w) := by
  obtain ⟨pa, ca', pw, cw, pm, cm, pe, ce, rfl, rfl, rfl, rfl⟩ := h.slices
  have HF : Hid (Four w x (.slice pa x.am.length ca') (.slice pw x.wr.length cw) (.slice pm x.mb.length cm) (.slice pe x.el.length ce)) := h
  clear h
  have R0 := ((rw_new w 27 (cvc x.k x.b (.slice pa x.am.length ca') (.slice pw x.wr.length cw) (.slice pm x.mb.length cm) (.slice pe x.el.length ce))).alloc (.cells (txc q u v t sl).toArray 34)).alloc (.cells (cvc 0 0 (.slice none 0 0) (.slice none 0 0) (.slice none 0 0) (.slice none 0 0)) 27)
  have R1 := (rw_new (w.alloc (.cells (cvc x.k x.b (.slice pa x.am.length ca') (.slice pw x.wr.length cw) (.slice pm x.mb.length cm) (.slice pe x.el.length ce)) 27)) 34 (txc q u v t sl).toArray).alloc (.cells (cvc 0 0 (.slice none 0 0) (.slice none 0 0) (.slice none 0 0) (.slice none 0 0)) 27)
  have R2 := rw_new ((w.alloc (.cells (cvc x.k x.b (.slice pa x.am.length ca') (.slice pw x.wr.length cw) (.slice pm x.mb.length cm) (.slice pe x.el.length ce)) 27)).alloc (.cells (txc q u v t sl).toArray 34)) 27 (cvc 0 0 (.slice none 0 0) (.slice none 0 0) (.slice none 0 0) (.slice none 0 0))
  have hbel := bel_alloc (bel_alloc (bel_alloc (Below.refl w.heap.size w) (.cells (cvc x.k x.b (.slice pa x.am.length ca') (.slice pw x.wr.length cw) (.slice pm x.mb.length cm) (.slice pe x.el.length ce)) 27)) (.cells (txc q u v t sl).toArray 34)) (.cells (cvc 0 0 (.slice none 0 0) (.slice none 0 0) (.slice none 0 0) (.slice none 0 0)) 27)
  have hsz : (((w.alloc (.cells (cvc x.k x.b (.slice pa x.am.length ca') (.slice pw x.wr.length cw) (.slice pm x.mb.length cm) (.slice pe x.el.length ce)) 27)).alloc (.cells (txc q u v t sl).toArray 34)).alloc (.cells (cvc 0 0 (.slice none 0 0) (.slice none 0 0) (.slice none 0 0) (.slice none 0 0)) 27)).heap.size = w.heap.size + 3 := by simp
  generalize hW : ((w.alloc (.cells (cvc x.k x.b (.slice pa x.am.length ca') (.slice pw x.wr.length cw) (.slice pm x.mb.length cm) (.slice pe x.el.length ce)) 27)).alloc (.cells (txc q u v t sl).toArray 34)).alloc (.cells (cvc 0 0 (.slice none 0 0) (.slice none 0 0) (.slice none 0 0) (.slice none 0 0)) 27) = w0 at R0 R1 R2 hbel hsz
  simp only [World.size_alloc, Nat.add_assoc, Nat.reduceAdd] at R1 R2
  have zt := size_tx (p := q) (s := u) (t := t) (sl := sl) hv
  obtain ⟨z, HZ⟩ := hid_ex (delX x q u v idx s)
  rw [HZ.out]
  have hbA := bel_alloc (Below.refl w0.heap.size w0) (.cells #[.string s] 38)
  have HT : Hid (THas (w0.alloc (.cells #[.string s] 9)) (.slice (some ⟨w0.heap.size, 0, none⟩) 1 1) [bs s]) := ⟨by show 1 ≤ maxLen; unfold maxLen; omega, rfl, .inr ⟨_, 1, rfl, ⟨Nat.le_refl _, by unfold maxLen; omega⟩, fun _ => ⟨_, 0, rfl, Rw.whole (rw_new w0 9 #[.string s])⟩⟩⟩
  have C : Calls Try.prog 30 #[CV x.k x.b (.slice pa x.am.length ca') (.slice pw x.wr.length cw) (.slice pm x.mb.length cm) (.slice pe x.el.length ce), TxV q u v t sl, .int .i64 idx, .slice (some ⟨w0.heap.size, 0, none⟩) 1 1] (w0.alloc (.cells #[.string s] 9)) (Gives z (w0.alloc (.cells #[.string s] 9))) := by
    have := without_any x _ _ _ _ q u v t sl idx _ [bs s] (w0.alloc (.cells #[.string s] 9)) hv (HF.out.later (below_on hbel (bel_alloc (Below.refl _ _) _))) hs HT.out (by simp) (fun _ s' hs' => by
      rw [List.mem_singleton.1 hs']
      simpa using hx)
    rw [one_in] at this
    rw [← HZ.out]
    exact this
  have HSZ : Hid (w0.heap.size = w.heap.size + 3) := hsz
  clear hsz hbA
  go_enter Try.func14, Try.ntmps14
  go_wp2_with (first | rw [hW] | refine load_r 27 _ rfl rfl _ rfl R0 Try.underlying27 rfl size27 ?_ | refine load_r 34 _ rfl rfl _ rfl R1 Try.underlying34 rfl zt ?_)
  clear hW
  refine C.mono ?_
  rintro e w1 ⟨ua, uw, um, ue, rfl, hf, hb1⟩
  obtain ⟨na, ea, nw, ew, nm, em, ne, ee, rfl, rfl, rfl, rfl⟩ := hf.slices
  have hb2 := below_on (bel_alloc (Below.refl w0.heap.size w0) (.cells #[.string s] 9)) hb1
  replace R2 := R2.later hb2
  replace hbel := below_on hbel hb2
  clear C hb1 hb2 R0 R1
  go_wp2_with (first | refine store_r rfl 27 _ _ rfl _ (cvc z.k z.b (.slice na z.am.length ea) (.slice nw z.wr.length ew) (.slice nm z.mb.length em) (.slice ne z.el.length ee)) rfl rfl R2 size27 rfl (by simp [Value.oneCell']) ?_)
  refine bodyPost_ret (results_r rfl rfl (R2.row _) rfl Try.underlying27 size27) rfl ?_
  exact ⟨_, _, _, _, rfl, hf.row R2 _, below_setRow hbel (by omega) _⟩
end Go.Proofs.Ytdnppcbdifckcaa
/- Clear of package orset. -/
namespace Go.Proofs.Ytdnppcbdifckcaa
open Go.RowKit
open Go.Sort

theorem wo_congr {G H : Mb → Bool} (p : M → Bool) {l : List Mb} (h : ∀ y ∈ l, G y = H y) : wo G p l = wo H p l := by
  unfold wo
  induction l with
  | nil => rfl
  | cons y l ih =>
    rw [List.filterMap_cons, List.filterMap_cons, h y (by simp), ih (fun z hz => h z (by simp [hz]))]
theorem woX_congr {G H : Mb → Bool} (p : M → Bool) {x : X} (i : Int) (h : ∀ y ∈ x.mb, G y = H y) : woX x i G p = woX x i H p := by
  unfold woX
  rw [wo_congr p h]
theorem ck_text {x : X} (h : ck x = true) : ∀ y ∈ x.mb, y.x.size ≤ 64 := fun y hy => by
  have h1 := ((cb_pair _).1 (ck_parts h).2.2.2.2.2).1 y hy
  unfold ib at h1
  simp only [Bool.and_eq_true, decide_eq_true_eq] at h1
  exact h1.2.1
set_option maxHeartbeats 4000000 in
set_option maxRecDepth 100000 in
theorem clear_any (x : X) (va vw vm ve : Value) (q u : Int) (v : List Int) (t : Int) (sl : Value) (idx : Int) (w : World) (hv : v.length = 13) (h : Four w x va vw vm ve) (hs : Sm x) :
    Calls Try.prog 20 #[CV x.k x.b va vw vm ve, TxV q u v t sl, .int .i64 idx] w (Gives (clX x q u v idx) w) := by
  obtain ⟨pa, ca', pw, cw, pm, cm, pe, ce, rfl, rfl, rfl, rfl⟩ := h.slices
  have HF : Hid (Four w x (.slice pa x.am.length ca') (.slice pw x.wr.length cw) (.slice pm x.mb.length cm) (.slice pe x.el.length ce)) := h
  clear h
  have R0 := ((rw_new w 27 (cvc x.k x.b (.slice pa x.am.length ca') (.slice pw x.wr.length cw) (.slice pm x.mb.length cm) (.slice pe x.el.length ce))).alloc (.cells (txc q u v t sl).toArray 34)).alloc (.cells (cvc 0 0 (.slice none 0 0) (.slice none 0 0) (.slice none 0 0) (.slice none 0 0)) 27)
  have R1 := (rw_new (w.alloc (.cells (cvc x.k x.b (.slice pa x.am.length ca') (.slice pw x.wr.length cw) (.slice pm x.mb.length cm) (.slice pe x.el.length ce)) 27)) 34 (txc q u v t sl).toArray).alloc (.cells (cvc 0 0 (.slice none 0 0) (.slice none 0 0) (.slice none 0 0) (.slice none 0 0)) 27)
  have R2 := rw_new ((w.alloc (.cells (cvc x.k x.b (.slice pa x.am.length ca') (.slice pw x.wr.length cw) (.slice pm x.mb.length cm) (.slice pe x.el.length ce)) 27)).alloc (.cells (txc q u v t sl).toArray 34)) 27 (cvc 0 0 (.slice none 0 0) (.slice none 0 0) (.slice none 0 0) (.slice none 0 0))
  have hbel := bel_alloc (bel_alloc (bel_alloc (Below.refl w.heap.size w) (.cells (cvc x.k x.b (.slice pa x.am.length ca') (.slice pw x.wr.length cw) (.slice pm x.mb.length cm) (.slice pe x.el.length ce)) 27)) (.cells (txc q u v t sl).toArray 34)) (.cells (cvc 0 0 (.slice none 0 0) (.slice none 0 0) (.slice none 0 0) (.slice none 0 0)) 27)
  have hsz : (((w.alloc (.cells (cvc x.k x.b (.slice pa x.am.length ca') (.slice pw x.wr.length cw) (.slice pm x.mb.length cm) (.slice pe x.el.length ce)) 27)).alloc (.cells (txc q u v t sl).toArray 34)).alloc (.cells (cvc 0 0 (.slice none 0 0) (.slice none 0 0) (.slice none 0 0) (.slice none 0 0)) 27)).heap.size = w.heap.size + 3 := by simp
  generalize hW : ((w.alloc (.cells (cvc x.k x.b (.slice pa x.am.length ca') (.slice pw x.wr.length cw) (.slice pm x.mb.length cm) (.slice pe x.el.length ce)) 27)).alloc (.cells (txc q u v t sl).toArray 34)).alloc (.cells (cvc 0 0 (.slice none 0 0) (.slice none 0 0) (.slice none 0 0) (.slice none 0 0)) 27) = w0 at R0 R1 R2 hbel hsz
  simp only [World.size_alloc, Nat.add_assoc, Nat.reduceAdd] at R1 R2
  have zt := size_tx (p := q) (s := u) (t := t) (sl := sl) hv
  obtain ⟨z, HZ⟩ := hid_ex (clX x q u v idx)
  rw [HZ.out]
  have HE : Hid (woX x idx (fun y => decide (tx y ∈ txL x.mb)) (bfP q u v idx) = z) := by
    show _ = _
    rw [← HZ.out]
    exact woX_congr _ _ (fun y hy => decide_eq_true (List.mem_map_of_mem hy))
  have C : ∀ (w' : World) (ug : Value), Below w0.heap.size w0 w' → THas w' ug (txL x.mb) → Calls Try.prog 30 #[CV x.k x.b (.slice pa x.am.length ca') (.slice pw x.wr.length cw) (.slice pm x.mb.length cm) (.slice pe x.el.length ce), TxV q u v t sl, .int .i64 idx, ug] w' (Gives z w') := fun w' ug hb hg => by
    have := without_any x _ _ _ _ q u v t sl idx ug (txL x.mb) w' hv (HF.out.later (below_on hbel hb)) hs hg (by have := hs.m; simp [txL]; omega) (fun hc s' hs' => by
      obtain ⟨y, hy, rfl⟩ := List.mem_map.1 hs'
      have := ck_text hc y hy
      have e : (tx y).length = y.x.size := by simp [tx, bs]
      omega)
    rw [HE.out] at this
    exact this
  have HSZ : Hid (w0.heap.size = w.heap.size + 3) := hsz
  clear hsz HZ HE
  have zx : (Try.prog.info? 27).map (·.size) = some ([Value.int .i64 x.k, .int .i64 x.b, .slice pa x.am.length ca', .slice pw x.wr.length cw, .slice pm x.mb.length cm, .slice pe x.el.length ce] : List Value).length := size27
  have ztx : (Try.prog.info? 34).map (·.size) = some (txc q u v t sl).length := by rw [txc_length hv]; exact size34
  go_enter Try.func20, Try.ntmps20
  go_wp2_with (first | rw [hW])
  clear hW
  have hS : Calm.Stays (fun w' => Below w0.heap.size w0 w') := fun wa wb h hb => below_on h hb
  have hF : Facts.Stay [pF 0 (eqP (.agg ([Value.int .i64 x.k, .int .i64 x.b, .slice pa x.am.length ca', .slice pw x.wr.length cw, .slice pm x.mb.length cm, .slice pe x.el.length ce] : List Value).toArray)), pF 1 (eqP (.agg (txc q u v t sl).toArray)), pF 2 (eqP (.int .i64 idx)), pF 3 (eqP (.pointer (some ⟨w.heap.size, 4, none⟩))), pF 4 (eqP (.slice pm x.mb.length cm)), pF 5 (thP (txL x.mb)), pF 6 (cP z)] := stay_of (by simp only [List.forall_mem_cons]; exact ⟨⟨_, _, rfl, eqP_keeps _⟩, ⟨_, _, rfl, eqP_keeps _⟩, ⟨_, _, rfl, eqP_keeps _⟩, ⟨_, _, rfl, eqP_keeps _⟩, ⟨_, _, rfl, eqP_keeps _⟩, ⟨_, _, rfl, thP_keeps _⟩, ⟨_, _, rfl, cP_keeps _⟩, fun _ h => by cases h⟩)
  refine Facts.regionTail (by kernel_rfl) (by kernel_rfl) 7 (by decide) (by kernel_rfl) (fun w' => Below w0.heap.size w0 w') (fun xv => { tmps := #[CV x.k x.b (Value.slice pa x.am.length ca') (Value.slice pw x.wr.length cw) (Value.slice pm x.mb.length cm) (Value.slice pe x.el.length ce), TxV q u v t sl, Value.int IntKind.i64 idx, Value.pointer (some { block := w.heap.size, off := 0 }), Value.pointer (some { block := w.heap.size + 1, off := 0 }), undef, Value.pointer (some { block := w.heap.size + 1 + 1, off := 0 }), xv 0, xv 1, xv 2, xv 3, xv 4, xv 5, xv 6], defers := [] }) [pF 0 (eqP (.agg ([Value.int .i64 x.k, .int .i64 x.b, .slice pa x.am.length ca', .slice pw x.wr.length cw, .slice pm x.mb.length cm, .slice pe x.el.length ce] : List Value).toArray)), pF 1 (eqP (.agg (txc q u v t sl).toArray)), pF 2 (eqP (.int .i64 idx)), pF 3 (eqP (.pointer (some ⟨w.heap.size, 4, none⟩))), pF 4 (eqP (.slice pm x.mb.length cm)), pF 5 (thP (txL x.mb)), pF 6 (cP z)] _ rfl rfl (by kernel_rfl) (fun j => [undef, undef, undef, undef, undef, undef, undef].getD j undef) rfl (Below.refl _ w0).drew ⟨?_, ?_, ?_, ?_, ?_, ?_, ?_, ?_, trivial⟩ ?_
  · exact fun _ => Facts.loadP hS hF (fun _ _ => rfl) 27 Try.underlying27 rfl zx _ rfl rfl (fun xv wv hSw hd => by rfl) (fun wv hSw => Rw.whole (cs := [Value.int .i64 x.k, .int .i64 x.b, .slice pa x.am.length ca', .slice pw x.wr.length cw, .slice pm x.mb.length cm, .slice pe x.el.length ce]) (R0.later hSw))
  · exact fun _ => Facts.loadP hS hF (fun _ _ => rfl) 34 Try.underlying34 rfl ztx _ rfl rfl (fun xv wv hSw hd => by rfl) (fun wv hSw => Rw.whole (cs := (txc q u v t sl)) (R1.later hSw))
  · exact fun _ => Facts.pureP hS hF (fun _ _ => rfl) rfl (fun xv wv hSw hd => by
      go_simp)
  · exact fun _ => Facts.pureP hS hF (fun _ _ => rfl) rfl (fun xv wv hSw hd => by
      go_simp)
  · exact fun _ => Facts.pureP hS hF (fun _ _ => rfl) rfl (fun xv wv hSw hd => by
      have d3 : xv 3 = _ := pF_get (hd ⟨3, .data⟩ (by simp) rfl _ rfl)
      have g1 : w0.cell? ⟨w.heap.size, 4, none⟩ = some (.slice pm x.mb.length cm) := R0.cell 4
      have g2 := cell_later hSw g1
      simp only [d3]
      go_simp)
  · refine fun _ => Facts.call1P hS hF (fun _ _ => rfl) rfl (by kernel_rfl) rfl (fun xv wv hSw hd => ?_)
    have d4 : xv 4 = _ := pF_get (hd ⟨4, .data⟩ (by simp) rfl _ rfl)
    show Calls Try.prog 29 #[xv 4] wv _
    rw [d4]
    refine (texts_any _ x.mb wv (HF.out.m.later (below_on hbel hSw)) (by have := hs.m; omega)).mono ?_
    rintro e w' ⟨u, he, ht, hb⟩
    exact ⟨u, he, ht, hb⟩
  · refine fun _ => Facts.call4P hS hF (fun _ _ => rfl) rfl (by kernel_rfl) rfl (fun xv wv hSw hd => ?_)
    have d0 : xv 0 = _ := pF_get (hd ⟨0, .data⟩ (by simp) rfl _ rfl)
    have d1 : xv 1 = _ := pF_get (hd ⟨1, .data⟩ (by simp) rfl _ rfl)
    have d2 : xv 2 = _ := pF_get (hd ⟨2, .data⟩ (by simp) rfl _ rfl)
    have d5 := pF_get (hd ⟨5, .data⟩ (by simp) rfl _ rfl)
    show Calls Try.prog 30 #[xv 0, xv 1, xv 2, xv 5] wv _
    rw [d0, d1, d2]
    exact (C wv _ hSw d5).mono fun e w' h => gives_p h
  · exact fun h => absurd h (by decide)
  intro x9 w5 hb5 hf
  have e6 := pF_get (hf 6 _ rfl)
  obtain ⟨ua, uw, um, ue, ez, hz⟩ := e6
  obtain ⟨na, ea, nw, ew, nm, em, ne, ee, rfl, rfl, rfl, rfl⟩ := hz.slices
  replace R2 := R2.later hb5
  replace hbel := below_on hbel hb5
  clear hS hF hf C R0 R1
  refine tail_store 27 _ _ rfl (w.heap.size + 2) 0 rfl (show _ = CV z.k z.b (.slice na z.am.length ea) (.slice nw z.wr.length ew) (.slice nm z.mb.length em) (.slice ne z.el.length ee) from ez) (R2.store (cvc z.k z.b (.slice na z.am.length ea) (.slice nw z.wr.length ew) (.slice nm z.mb.length em) (.slice ne z.el.length ee)) size27 rfl (by simp [Value.oneCell'])) ?_
  refine Facts.tailWp_nil ?_
  go_wp2_with fail
  refine bodyPost_ret (results_r rfl rfl (R2.row (cvc z.k z.b (.slice na z.am.length ea) (.slice nw z.wr.length ew) (.slice nm z.mb.length em) (.slice ne z.el.length ee))) rfl Try.underlying27 size27) rfl ?_
  exact ⟨_, _, _, _, rfl, hz.row R2 _, below_setRow hbel (by omega) _⟩
end Go.Proofs.Ytdnppcbdifckcaa
