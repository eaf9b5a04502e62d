import Derived.Test.YthekfmodafmlgaaP21
/- What is read behind what is done: nothing of the program. -/
namespace Go.Proofs.Ythekfmodafmlgaa
open Go.RowKit Go.Sort

theorem ck_with {x : X} (h : ck x = true) {l : List Mb} (hl : cb l = true) : ck { x with mb := l } = true := by
  rw [ck_x4 h l]
  unfold ck
  rw [hl]
  rfl
theorem ck_cb {x : X} (h : ck x = true) : cb x.mb = true := (ck_parts h).2.2.2.2.2
theorem ck_upm {x : X} (h : ck x = true) : upm x.mb := ((cb_pair _).1 (ck_cb h)).2
theorem woX_ck {x : X} (h : ck x = true) {i : Int} (hi : im i = true) (G : Mb → Bool) (p : M → Bool) : woX x i G p = { x with mb := wo G p x.mb } := by
  unfold woX
  rw [h, hi]
  rfl
theorem addX_ck {x : X} (h : ck x = true) {m : M} (hm : im m.i = true) {s : ByteArray} (hs : s.size ≤ 64) : addX x m s = { x with mb := addL x.mb s m } := by
  unfold addX
  rw [h, hm, decide_eq_true hs]
  rfl
theorem fdX_ck {x : X} (h : ck x = true) (v : List Int) : fdX x v = { x with mb := fdL (hsP v) x.mb } := by
  unfold fdX
  rw [h]
  rfl
theorem ck_woX {x : X} (h : ck x = true) (i : Int) (G : Mb → Bool) (p : M → Bool) : ck (woX x i G p) = true := by
  unfold woX
  split
  · exact ck_with h (wo_cb (ck_cb h) G p)
  · exact h
theorem ck_addX {x : X} (h : ck x = true) (m : M) (s : ByteArray) : ck (addX x m s) = true := by
  unfold addX
  split
  · rename_i hk
    simp only [Bool.and_eq_true, decide_eq_true_eq] at hk
    exact ck_with h (addL_cb (ck_cb h) hk.2.2 hk.2.1)
  · exact h
theorem ck_fdX {x : X} (h : ck x = true) (v : List Int) : ck (fdX x v) = true := by
  rw [fdX_ck h]
  exact ck_with h (fdL_cb (ck_cb h) _)
theorem rdT_ck {x : X} (h : ck x = true) : rdT x = txL x.mb := by
  unfold rdT
  rw [h]
  rfl
theorem rdK_ck {x : X} (h : ck x = true) : rdK x = 4 := by
  unfold rdK
  rw [h]
  rfl
/-- Texts of what is put. -/
theorem txL_putL (y : Mb) (l : List Mb) : txL (putL y l) = (txL l).filter (fun t => decide (t < tx y)) ++ tx y :: (txL l).filter (fun t => decide (tx y < t)) := by
  unfold txL putL
  rw [List.map_append, List.map_cons, List.filter_map, List.filter_map]
  rfl
theorem txL_addL (l : List Mb) (s : ByteArray) (m : M) : txL (addL l s m) = (txL l).filter (fun t => decide (t < bs s)) ++ bs s :: (txL l).filter (fun t => decide (bs s < t)) := txL_putL _ _
/-- Texts that are not the one that goes. -/
theorem txL_wo_lt (l : List Mb) (s : Bs) (p : M → Bool) (f : Bs → Bool) (hf : f s = false) : (txL (wo (fun y => decide (tx y = s)) p l)).filter f = (txL l).filter f := by
  induction l with
  | nil => rfl
  | cons y l ih =>
    unfold txL at ih
    by_cases e : tx y = s
    · have e1 : wo (fun y => decide (tx y = s)) p (y :: l) = (dm p y).toList ++ wo (fun y => decide (tx y = s)) p l := by
        simp only [wo, List.filterMap_cons, e, decide_true, if_true]
        cases dm p y <;> rfl
      rw [e1]
      unfold txL
      rw [List.map_append, List.filter_append, ih, List.map_cons, List.filter_cons_of_neg (by rw [e, hf]; decide)]
      cases hd : dm p y with
      | none => rfl
      | some z =>
        have e2 : tx z = s := by unfold tx; rw [dm_tx hd]; exact e
        show List.filter f [tx z] ++ _ = _
        rw [List.filter_cons_of_neg (by rw [e2, hf]; decide)]
        rfl
    · have e1 : wo (fun y => decide (tx y = s)) p (y :: l) = y :: wo (fun y => decide (tx y = s)) p l := by
        simp [wo, e]
      rw [e1]
      unfold txL
      rw [List.map_cons, List.map_cons, List.filter_cons, List.filter_cons, ih]
/-- The element stays: an addition that a removal has not seen. -/
theorem wins_txL {l : List Mb} {s : ByteArray} {m : M} {p : M → Bool} (hp : p m = false) : txL (wo (fun y => decide (tx y = bs s)) p (addL l s m)) = txL (addL l s m) := by
  unfold addL putL
  obtain ⟨y', hy', hty⟩ : ∃ y', dm p (addY l s m) = some y' ∧ tx y' = bs s := by
    have h1 : m ∈ (addY l s m).ms := wth_mem _ _
    have h2 : m ∈ (addY l s m).ms.filter (fun m => !p m) := List.mem_filter.2 ⟨h1, by rw [hp]; rfl⟩
    refine ⟨⟨(addY l s m).x, false, (addY l s m).ms.filter (fun m => !p m)⟩, ?_, rfl⟩
    unfold dm
    rw [if_neg (by have := List.length_pos_of_mem h2; omega)]
  have e1 := wo_mid (A := l.filter (fun a => decide (tx a < bs s))) (C := l.filter (fun a => decide (bs s < tx a))) (y := addY l s m) (s := bs s) p rfl (fun a ha => by simpa using (List.mem_filter.1 ha).2) (fun a ha => by simpa using (List.mem_filter.1 ha).2)
  show txL (wo _ p (l.filter (fun a => decide (tx a < bs s)) ++ addY l s m :: l.filter (fun a => decide (bs s < tx a)))) = txL (l.filter (fun a => decide (tx a < bs s)) ++ addY l s m :: l.filter (fun a => decide (bs s < tx a)))
  rw [e1, hy']
  unfold txL
  simp [hty, addY]
theorem wins_eq {l : List Mb} {s : ByteArray} {m : M} {p : M → Bool} : txL (addL (wo (fun y => decide (tx y = bs s)) p l) s m) = txL (addL l s m) := by
  rw [txL_addL, txL_addL, txL_wo_lt _ _ _ _ (decide_eq_false (Bs.irr _)), txL_wo_lt _ _ _ _ (decide_eq_false (Bs.irr _))]
/-- It goes: all that added it is seen. -/
theorem goes_txL {l : List Mb} {s : Bs} {p : M → Bool} (h : ∀ y ∈ l, tx y = s → ∀ m ∈ y.ms, p m = true) : txL (wo (fun y => decide (tx y = s)) p l) = txL (l.filter (fun y => decide (tx y ≠ s))) := by
  congr 1
  induction l with
  | nil => rfl
  | cons y l ih =>
    have ih := ih (fun z hz => h z (List.mem_cons_of_mem _ hz))
    by_cases e : tx y = s
    · have e1 : wo (fun y => decide (tx y = s)) p (y :: l) = wo (fun y => decide (tx y = s)) p l := by
        have hd : dm p y = none := by
          unfold dm
          rw [List.filter_eq_nil_iff.2 (fun m hm => by rw [h y (by simp) e m hm]; decide)]
          rfl
        simp [wo, e, hd]
      rw [e1, ih, List.filter_cons_of_neg (by simpa using e)]
    · have e1 : wo (fun y => decide (tx y = s)) p (y :: l) = y :: wo (fun y => decide (tx y = s)) p l := by
        simp [wo, e]
      rw [e1, ih, List.filter_cons_of_pos (by simpa using e)]
/-- What is folded is read the same. -/
theorem fd_txL (q : M → Bool) (l : List Mb) : txL (fdL q l) = txL l := by
  unfold txL fdL
  rw [List.map_map]
  rfl
theorem fd_dm {q p : M → Bool} {y : Mb} (h : ∀ m ∈ y.ms, q m = true → p m = true) : dm p (fdM q y) = dm p y := by
  have e : (y.ms.filter (fun m => !q m)).filter (fun m => !p m) = y.ms.filter (fun m => !p m) := by
    rw [List.filter_filter]
    apply List.filter_congr
    intro m hm
    cases hq : q m
    · simp
    · simp [h m hm hq]
  unfold dm fdM
  simp only [e]
theorem fd_wo {q p : M → Bool} {l : List Mb} (h : ∀ y ∈ l, ∀ m ∈ y.ms, q m = true → p m = true) (s : Bs) : txL (wo (fun y => decide (tx y = s)) p (fdL q l)) = txL (wo (fun y => decide (tx y = s)) p l) := by
  induction l with
  | nil => rfl
  | cons y l ih =>
    have ih := ih (fun z hz => h z (List.mem_cons_of_mem _ hz))
    unfold txL wo fdL at ih
    unfold txL wo fdL
    rw [List.map_cons]
    by_cases e : tx y = s
    · have e2 : tx (fdM q y) = s := e
      rw [List.filterMap_cons, List.filterMap_cons]
      simp only [e, e2, decide_true, if_true]
      rw [fd_dm (h y (by simp))]
      cases dm p y
      · exact ih
      · simp only [List.map_cons]
        rw [ih]
    · have e2 : ¬ tx (fdM q y) = s := e
      rw [List.filterMap_cons, List.filterMap_cons]
      simp only [e, e2, decide_false]
      simp only [Bool.false_eq_true, if_false, List.map_cons]
      rw [ih]
      rfl
theorem fd_cl {q p : M → Bool} {l : List Mb} (h : ∀ y ∈ l, ∀ m ∈ y.ms, q m = true → p m = true) : wo (fun _ => true) p (fdL q l) = wo (fun _ => true) p l := by
  induction l with
  | nil => rfl
  | cons y l ih =>
    have ih := ih (fun z hz => h z (List.mem_cons_of_mem _ hz))
    unfold wo fdL at *
    rw [List.map_cons, List.filterMap_cons, List.filterMap_cons]
    simp only [if_true] at *
    rw [fd_dm (h y (by simp)), ih]
theorem fd_add (q : M → Bool) (l : List Mb) (s : ByteArray) (m : M) : txL (addL (fdL q l) s m) = txL (addL l s m) := by
  rw [txL_addL, txL_addL, fd_txL]
theorem fd_fd (q : M → Bool) (l : List Mb) : fdL q (fdL q l) = fdL q l := by
  unfold fdL
  rw [List.map_map]
  apply List.map_congr_left
  intro y _
  show fdM q (fdM q y) = fdM q y
  unfold fdM
  simp only [filter_dm, Nat.lt_irrefl, decide_false, Bool.or_false]
/-- What a cut has, one has seen that has seen the cut. -/
theorem hs_leq {c v : List Int} (h : ∀ i, c.getD i 0 ≤ v.getD i 0) {p s : Int} (hs1 : hs c p s = true) : hs v p s = true := by
  unfold hs at *
  simp only [Bool.and_eq_true, decide_eq_true_eq] at *
  exact ⟨hs1.1, hs1.2.1, Int.le_trans hs1.2.2 (h _)⟩
theorem bf_seen {c v : List Int} (h : ∀ i, c.getD i 0 ≤ v.getD i 0) {l : List Mb} (hc : cb l = true) (q u idx : Int) : ∀ y ∈ l, ∀ m ∈ y.ms, hsP c m = true → bfP q u v idx m = true := fun y hy m hm h1 => by
  have h2 := ((cb_pair _).1 hc).1 y hy
  unfold ib at h2
  simp only [Bool.and_eq_true, decide_eq_true_eq] at h2
  have h3 := ((ca_pair _).1 h2.2.2).1 m hm
  unfold im at h3
  show bf m.p m.s m.i q u v idx = true
  unfold bf
  rw [h3, hs_leq h h1]
  simp
end Go.Proofs.Ythekfmodafmlgaa
/- has of the statements' page. -/
namespace Go.Proofs.Ythekfmodafmlgaa
open Go.RowKit Go.Sort

section
variable {Q : Exit → Act → World → Prop} {S : World → Prop} {md : Region.Mode} {A : (Nat → Value) → Act} {F : List Facts.Fact} {i : Nat} {o : Oper} {φ : Value → World → Prop}
/-- A value that only is told of. -/
theorem Facts.pureD (hS : Calm.Stays S) (hF : Facts.Stay F) (hA : ∀ x u, (A x).put o.dst u = A (Facts.put x i u)) (hf : F[i]? = some (pF i φ))
    (h : ∀ x w, S w → (∀ e ∈ o.after, Region.binds md e = true → ∀ f, F[e.on]? = some f → Facts.holds f x w) → ∃ v, (execOp (A x).eval o).run Try.prog w = .ok (.value v) w ∧ φ v w) : Facts.StepOk Try.prog md Q S A F i o :=
  Facts.step hS hF hA fun x w hSw hdep => by
    obtain ⟨v, h1, h2⟩ := h x w hSw hdep
    unfold Oper.wp
    rw [h1]
    refine ⟨v, rfl, Below.refl _ _, fun f hf' => ?_⟩
    rw [hf] at hf'
    obtain rfl := Option.some.inj hf'
    exact pF_put h2
end
set_option maxHeartbeats 2000000 in
set_option maxRecDepth 100000 in
theorem hasT_any (x : X) (va vw vm ve : Value) (s : ByteArray) (w : World) (h : Four w x va vw vm ve) (hs : Sm x) : Calls Try.prog 26 #[CV x.k x.b va vw vm ve, .string s] w (Tells (.bool (decide (bs s ∈ rdT x))) w) := by
  obtain ⟨z, HZ⟩ := hid_ex (decide (bs s ∈ rdT x))
  rw [HZ.out]
  obtain ⟨pa, ca', pw, cw, pm, cm, pe, ce, rfl, rfl, rfl, rfl⟩ := h.slices
  have R0 := rw_new w 27 (cvc x.k x.b (.slice pa x.am.length ca') (.slice pw x.wr.length cw) (.slice pm x.mb.length cm) (.slice pe x.el.length ce))
  have hbel := bel_alloc (Below.refl w.heap.size w) (.cells (cvc x.k x.b (.slice pa x.am.length ca') (.slice pw x.wr.length cw) (.slice pm x.mb.length cm) (.slice pe x.el.length ce)) 27)
  replace h := h.later hbel
  generalize hW : w.alloc (.cells (cvc x.k x.b (.slice pa x.am.length ca') (.slice pw x.wr.length cw) (.slice pm x.mb.length cm) (.slice pe x.el.length ce)) 27) = w0 at R0 hbel h
  have hlen : (rdT x).length ≤ 100 := by
    unfold rdT
    split
    · unfold txL
      rw [List.length_map]
      exact hs.m
    · exact Nat.zero_le _
  have C1 := read_any x _ _ _ _ w0 h hs
  unfold RdPost at C1
  obtain ⟨l, HL⟩ := hid_ex (rdT x)
  obtain ⟨k0, HK⟩ := hid_ex (rdK x)
  rw [HL.out, HK.out] at C1
  rw [HL.out] at hlen HZ
  go_enter Try.func26, Try.ntmps26
  go_wp2_with (first | rw [hW] | refine load_r 27 _ rfl rfl _ rfl R0 Try.underlying27 rfl size27 ?_)
  clear hW
  refine C1.mono ?_
  clear C1
  rintro e w1 ⟨u, rfl, ht, hb1⟩
  obtain ⟨p, c, rfl⟩ := ht.slice
  have HT : Hid (THas w1 (.slice p l.length c) l) := ht
  replace hbel := below_on hbel hb1
  have hF := fun w => field48_2 k0 p l.length c w
  clear ht hb1 R0 h HL HK
  go_wp2_with fail
  clear hF
  go_loopw [6] (fun vi wr => ∃ k : Nat, vi = .int .i64 k ∧ k ≤ l.length ∧ Hid (∀ j (h : j < l.length), j < k → l[j] ≠ bs s) ∧ Below w1.heap.size w1 wr) (fun vi _ => l.length - (intOf vi).toNat)
  case atStart => exact ⟨0, rfl, by omega, (show ∀ j (_ : j < l.length), j < 0 → _ from fun j _ h => by omega), Below.refl _ _⟩
  case round =>
    obtain ⟨k, rfl, hk, HV, hb2⟩ := hrel
    by_cases hlt : k < l.length
    · have hlt' : (k : Int) < (l.length : Int) := by omega
      have hk0 : (0 : Int) ≤ (k : Int) := by omega
      obtain ⟨g, o, rfl, hd0⟩ := HT.out.at (by omega)
      obtain ⟨Y, HY⟩ := hid_ex (⟨l[k].toArray⟩ : ByteArray)
      have c1 := THas.elem (range_later hd0 hb2) k hlt
      rw [show encStr l[k] = .string Y by rw [← HY.out]] at c1
      have hY : bs Y = l[k] := by rw [← HY.out]
      have HB : Hid (bs Y = l[k]) := hY
      clear hd0 hY
      obtain ⟨z1, HZ1⟩ := hid_ex (decide (bs Y = bs s))
      have E1 : (Y.toList == s.toList) = z1 := by rw [eq_str, HZ1.out]
      cases z1
      · go_wp2_with fail
        go_roundw
        case rel =>
          refine ⟨k + 1, by simp, by omega, (show ∀ j (h : j < l.length), j < k + 1 → l[j] ≠ bs s from fun j h hj => ?_), hb2⟩
          rcases Nat.lt_or_ge j k with h' | h'
          · exact HV.out j h h'
          · obtain rfl : j = k := by omega
            rw [← HB.out]
            exact of_decide_eq_false HZ1.out
        case measure => simp [intOf]; omega
      · have hz : z = true := by
          rw [← HZ.out]
          refine decide_eq_true ?_
          rw [← of_decide_eq_true HZ1.out, HB.out]
          exact List.getElem_mem _
        subst hz
        go_wp2_with fail
        go_ret
        exact ⟨rfl, below_on hbel hb2⟩
    · have hlt' : ¬ (k : Int) < (l.length : Int) := by omega
      have hz : z = false := by
        rw [← HZ.out]
        refine decide_eq_false (fun hm => ?_)
        obtain ⟨j, hj, e⟩ := List.getElem_of_mem hm
        exact HV.out j hj (by omega) e
      subst hz
      clear HT HZ
      go_wp2_with fail
      go_ret
      exact ⟨rfl, below_on hbel hb2⟩
end Go.Proofs.Ythekfmodafmlgaa
