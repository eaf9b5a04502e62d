import Derived.Test.YtmcajjdijjcpkaaP15
/- The method filled of a stamp at work. -/
namespace Go.Proofs.Ytmcajjdijjcpkaa
open Go.RowKit
open Idn (ID)

theorem fl_lf {i : ID} {e : EV} (h : lf e = true) : fl i e = e := by
  rcases e with ⟨n, ⟨⟩ | ⟨_, _⟩⟩
  · exact fl_leaf i n
  · simp [lf] at h
theorem fl_nil {i : ID} {e : EV} (h : Idn.nil i = true) : fl i e = e := by
  rw [Idn.nil_iff] at h
  subst h
  rfl
theorem ok_rg {e : EV} {k : Nat} {left : Int} (h : rg e k left = true) (hk : k ≤ 16) (hl : left ≤ 1073741824) (hs : short e = true) : ok e = true := by
  unfold ok
  rw [rg_mono h hk hl, hs]
  rfl
set_option maxHeartbeats 2000000 in
set_option maxRecDepth 100000 in
theorem filled_same (i : ID) (e : EV) (ni : Int) (pi : Option Addr) (li ci : Nat) (ne : Int) (pe : Option Addr) (le ce : Nat) (w : World) (hi : Idn.Is w i (TV ni pi li ci)) (he : Is w e (TV ne pe le ce)) (h : lf e = true ∨ Idn.nil i = true) :
    Calls Try.prog 79 #[WV ni pi li ci ne pe le ce] w (Gives (fl i e) w) := by
  have HE : Hid (fl i e = e) := by
    show _ = _
    rcases h with h | h
    · exact fl_lf h
    · exact fl_nil h
  rw [HE.out]
  obtain ⟨h1, h2, hbel⟩ := two_r w 60 #[.int .i64 ni, .slice pi li ci, .int .i64 ne, .slice pe le ce, CH] 24 #[.int .i64 0, .slice none 0 0] _ rfl
  have r0 := fun w1 => sIsLeaf_is he w1
  have r1 := fun w1 => sIsNothing_is hi w1
  have HB : Hid (lf e = true ∨ Idn.nil i = true) := h
  clear h hi HE
  generalize lf e = b0 at r0 HB
  generalize Idn.nil i = b1 at r1 HB
  go_enter Try.func79, Try.ntmps79
  go_wp2_with (refine load_t _ rfl rfl _ _ rfl (Wx.tat1 h1) ?_)
  refine (r0 _).mono ?_
  rintro e1 w1 ⟨rfl, hb1⟩
  replace h1 := h1.later hb1
  replace h2 := h2.later hb1
  replace hbel := below_on hbel hb1
  clear hb1 r0
  cases b0
  · go_wp2_with (refine load_t _ rfl rfl _ _ rfl (Wx.tat0 h1) ?_)
    refine (r1 _).mono ?_
    rintro e1 w2 ⟨rfl, hb1⟩
    replace h1 := h1.later hb1
    replace h2 := h2.later hb1
    replace hbel := below_on hbel hb1
    obtain rfl : b1 = true := by
      rcases HB.out with h | h
      · cases h
      · exact h
    clear hb1 r1 HB
    have R := below_setRow hbel (g := w.heap.size + 1) (by omega) #[.int .i64 ne, .slice pe le ce]
    go_wp2_with (first | refine load_t _ rfl rfl _ _ rfl (Wx.tat1 h1) ?_ | refine store_t rfl _ _ rfl _ ne pe le ce rfl rfl h2 ?_)
    exact bodyPost_ret (results_t rfl rfl (Bx.row h2 _ _ _ _)) rfl ⟨_, _, _, _, rfl, (he.later hbel).box h2 _, R⟩
  · have R := below_setRow hbel (g := w.heap.size + 1) (by omega) #[.int .i64 ne, .slice pe le ce]
    clear r1 HB
    go_wp2_with (first | refine load_t _ rfl rfl _ _ rfl (Wx.tat1 h1) ?_ | refine store_t rfl _ _ rfl _ ne pe le ce rfl rfl h2 ?_)
    exact bodyPost_ret (results_t rfl rfl (Bx.row h2 _ _ _ _)) rfl ⟨_, _, _, _, rfl, (he.later hbel).box h2 _, R⟩
set_option maxHeartbeats 2000000 in
set_option maxRecDepth 100000 in
theorem filled_all (i : ID) (e : EV) (ni : Int) (pi : Option Addr) (li ci : Nat) (ne : Int) (pe : Option Addr) (le ce : Nat) (w : World) (hi : Idn.Is w i (TV ni pi li ci)) (he : Is w e (TV ne pe le ce)) (hl : lf e = false) (ha : all i = true) (hk : ok e = true) :
    Calls Try.prog 79 #[WV ni pi li ci ne pe le ce] w (Gives (fl i e) w) := by
  rw [fl_all ha]
  have hn := nil_all ha
  obtain ⟨h1, h2, hbel⟩ := two_r w 60 #[.int .i64 ni, .slice pi li ci, .int .i64 ne, .slice pe le ce, CH] 24 #[.int .i64 0, .slice none 0 0] _ rfl
  have r0 := fun w1 => sIsLeaf_is he w1
  have r1 := fun w1 => sIsNothing_is hi w1
  have r2 := fun w1 => sIsAll_is hi w1
  have r3 := fun w1 (hb : Below w.heap.size w w1) => greatest_any e ne pe le ce w1 (he.later hb) hk
  rw [hl] at r0
  rw [hn] at r1
  rw [ha] at r2
  generalize high e = z at r3 ⊢
  clear hi he hl ha hn hk
  go_enter Try.func79, Try.ntmps79
  go_wp2_with (refine load_t _ rfl rfl _ _ rfl (Wx.tat1 h1) ?_)
  refine (r0 _).mono ?_
  rintro e1 w1 ⟨rfl, hb1⟩
  replace h1 := h1.later hb1
  replace h2 := h2.later hb1
  replace hbel := below_on hbel hb1
  clear hb1 r0
  go_wp2_with (refine load_t _ rfl rfl _ _ rfl (Wx.tat0 h1) ?_)
  refine (r1 _).mono ?_
  rintro e1 w2 ⟨rfl, hb1⟩
  replace h1 := h1.later hb1
  replace h2 := h2.later hb1
  replace hbel := below_on hbel hb1
  clear hb1 r1
  go_wp2_with (refine load_t _ rfl rfl _ _ rfl (Wx.tat0 h1) ?_)
  refine (r2 _).mono ?_
  rintro e1 w3 ⟨rfl, hb1⟩
  replace h1 := h1.later hb1
  replace h2 := h2.later hb1
  replace hbel := below_on hbel hb1
  clear hb1 r2
  go_wp2_with (refine load_t _ rfl rfl _ _ rfl (Wx.tat1 h1) ?_)
  refine (r3 _ hbel).mono ?_
  rintro e1 w4 ⟨rfl, hb1⟩
  replace h2 := h2.later hb1
  replace hbel := below_on hbel hb1
  clear hb1 r3 h1
  go_wp2_with fail
  refine (sLeaf_any z _).mono ?_
  rintro e1 w5 ⟨rfl, hb1⟩
  replace h2 := h2.later hb1
  replace hbel := below_on hbel hb1
  clear hb1
  have R := below_setRow hbel (g := w.heap.size + 1) (by omega) #[.int .i64 z, .slice none 0 0]
  go_wp2_with (refine store_t rfl _ _ rfl _ z none 0 0 rfl rfl h2 ?_)
  exact bodyPost_ret (results_t rfl rfl (Bx.row h2 _ _ _ _)) rfl ⟨_, _, _, _, rfl, is_leaf _ z _ _, R⟩
set_option maxHeartbeats 8000000 in
set_option maxRecDepth 100000 in
theorem filled_node (l r : ID) (n : Int) (A B : EV) (g o c g' o' c' : Nat) (m0 : Int) (q0 : Option Addr) (k0 j0 : Nat) (m1 : Int) (q1 : Option Addr) (k1 j1 : Nat) (n0 : Int) (p0 : Option Addr) (l0 c0 : Nat) (n1 : Int) (p1 : Option Addr) (l1 c1 : Nat) (w : World)
    (u0 : Tat w g o m0 q0 k0 j0) (u1 : Tat w g (o + 2) m1 q1 k1 j1) (t0 : Tat w g' o' n0 p0 l0 c0) (t1 : Tat w g' (o' + 2) n1 p1 l1 c1) (il : Idn.Is w l (TV m0 q0 k0 j0)) (ir : Idn.Is w r (TV m1 q1 k1 j1))
    (r0 : ∀ w1, Below w.heap.size w w1 → Calls Try.prog 79 #[WV m0 q0 k0 j0 n0 p0 l0 c0] w1 (Gives A w1)) (r1 : ∀ w1, Below w.heap.size w w1 → Calls Try.prog 79 #[WV m1 q1 k1 j1 n1 p1 l1 c1] w1 (Gives B w1))
    (kA : ok A = true) (kB : ok B = true) (hz : rg (.node n (fa l A B) (fb l r A B)) 16 1073741824 = true) :
    Calls Try.prog 79 #[WV 0 (some ⟨g, o, none⟩) 2 c n (some ⟨g', o', none⟩) 2 c'] w (Gives (norm (.node n (fa l A B) (fb l r A B))) w) := by
  obtain ⟨h1, h2, hbel⟩ := two_r w 60 #[.int .i64 0, .slice (some ⟨g, o, none⟩) 2 c, .int .i64 n, .slice (some ⟨g', o', none⟩) 2 c', CH] 24 #[.int .i64 0, .slice none 0 0] _ rfl
  have s0 := fun w1 => sIsLeaf_any n (some ⟨g', o', none⟩) 2 c' w1
  have s1 := fun w1 => sIsNothing_any 0 (some ⟨g, o, none⟩) 2 c w1
  have s2 := fun w1 => sIsAll_any 0 (some ⟨g, o, none⟩) 2 c w1
  simp only [Nat.reduceEqDiff, decide_false, Bool.false_and] at s0 s1 s2
  have a0 := fun w1 => sIsAll_is il w1
  have a1 := fun w1 => sIsAll_is ir w1
  have HA : Hid (ok A = true) := kA
  have HB : Hid (ok B = true) := kB
  obtain ⟨Z, HZ⟩ : ∃ Z, Hid (norm (.node n (fa l A B) (fb l r A B)) = Z) := ⟨_, rfl⟩
  have HR : Hid (rg (.node n (fa l A B) (fb l r A B)) 16 1073741824 = true) := hz
  rw [HZ.out]
  unfold fa fb at HZ HR
  clear kA kB hz il ir
  generalize all l = bl at a0 HZ HR
  generalize all r = br at a1 HZ HR
  go_enter Try.func79, Try.ntmps79
  go_wp2_with (refine load_t _ rfl rfl _ _ rfl (Wx.tat1 h1) ?_)
  refine (s0 _).mono ?_
  rintro e1 w1 ⟨rfl, hb1⟩
  replace h1 := h1.later hb1
  replace h2 := h2.later hb1
  replace hbel := below_on hbel hb1
  clear hb1 s0
  go_wp2_with (refine load_t _ rfl rfl _ _ rfl (Wx.tat0 h1) ?_)
  refine (s1 _).mono ?_
  rintro e1 w2 ⟨rfl, hb1⟩
  replace h1 := h1.later hb1
  replace h2 := h2.later hb1
  replace hbel := below_on hbel hb1
  clear hb1 s1
  go_wp2_with (refine load_t _ rfl rfl _ _ rfl (Wx.tat0 h1) ?_)
  refine (s2 _).mono ?_
  rintro e1 w3 ⟨rfl, hb1⟩
  replace h1 := h1.later hb1
  replace h2 := h2.later hb1
  replace hbel := below_on hbel hb1
  clear hb1 s2
  go_wp2_with fail
  have hS : Calm.Stays (fun w' => Wx w' w.heap.size 0 (some ⟨g, o, none⟩) 2 c n (some ⟨g', o', none⟩) 2 c' ∧ Bx w' (w.heap.size + 1) 0 none 0 0 ∧ Below w.heap.size w w') := fun wa wb h hb => ⟨h.1.later hb, h.2.1.later hb, below_on h.2.2 hb⟩
  have hF : Facts.Stay [eqF 0 (WV 0 (some ⟨g, o, none⟩) 2 c n (some ⟨g', o', none⟩) 2 c'), eqF 1 (WV m0 q0 k0 j0 n0 p0 l0 c0), isF 2 A, eqF 3 (WV 0 (some ⟨g, o, none⟩) 2 c n (some ⟨g', o', none⟩) 2 c'), eqF 4 (WV m1 q1 k1 j1 n1 p1 l1 c1), isF 5 B, alR 6 (w.heap.size + 2) 24 #[.int .i64 0, .slice none 0 0], alR 7 (w.heap.size + 2) 24 #[.int .i64 0, .slice none 0 0]] := stay_of (by simp only [List.forall_mem_cons]; exact ⟨eqF_stays _ _, eqF_stays _ _, isF_stays _ _, eqF_stays _ _, eqF_stays _ _, isF_stays _ _, alR_stays _ _ _ _, alR_stays _ _ _ _, fun _ h => by cases h⟩)
  refine Facts.regionTailR (by kernel_rfl) (by kernel_rfl) 8 (by decide) (by kernel_rfl) (fun w' => Wx w' w.heap.size 0 (some ⟨g, o, none⟩) 2 c n (some ⟨g', o', none⟩) 2 c' ∧ Bx w' (w.heap.size + 1) 0 none 0 0 ∧ Below w.heap.size w w') (fun x => { tmps := #[WV 0 (some { block := g, off := o }) 2 c n (some { block := g', off := o' }) 2 c', Value.pointer (some { block := w.heap.size, off := 0 }), Value.pointer (some { block := w.heap.size + 1, off := 0 }), x 6, x 7, undef, undef, Value.bool false, Value.pointer (some { block := w.heap.size, off := 0 }), Value.pointer (some { block := w.heap.size, off := 2 }), TV n (some { block := g', off := o' }) 2 c', Value.bool false, Value.bool false, Value.pointer (some { block := w.heap.size, off := 0 }), Value.pointer (some { block := w.heap.size, off := 0 }), TV 0 (some { block := g, off := o }) 2 c, Value.bool false, Value.bool false, undef, undef, undef, Value.bool false, Value.pointer (some { block := w.heap.size, off := 0 }), Value.pointer (some { block := w.heap.size, off := 0 }), TV 0 (some { block := g, off := o }) 2 c, Value.bool false, undef, undef, undef, undef, undef, x 0, x 1, x 2, x 3, x 4, x 5, undef, undef, undef, undef, undef, undef, undef, undef, undef, undef, undef, undef, undef, undef, undef, undef, undef, undef, undef, undef, undef, undef, undef, undef, undef, undef, undef, undef, undef, undef, undef, undef, undef, undef, undef, undef, undef, undef, undef, undef], defers := [] }) [eqF 0 (WV 0 (some ⟨g, o, none⟩) 2 c n (some ⟨g', o', none⟩) 2 c'), eqF 1 (WV m0 q0 k0 j0 n0 p0 l0 c0), isF 2 A, eqF 3 (WV 0 (some ⟨g, o, none⟩) 2 c n (some ⟨g', o', none⟩) 2 c'), eqF 4 (WV m1 q1 k1 j1 n1 p1 l1 c1), isF 5 B, alR 6 (w.heap.size + 2) 24 #[.int .i64 0, .slice none 0 0], alR 7 (w.heap.size + 2) 24 #[.int .i64 0, .slice none 0 0]] (NotOne [6, 7]) (notOne_symm _) _ rfl rfl (by kernel_rfl) (fun _ => undef) rfl ⟨h1, h2, hbel.drew⟩ ⟨?_, ?_, ?_, ?_, ?_, ?_, ?_, ?_, ?_, ?_, trivial⟩ ?_
  · exact fun _ => Facts.StepR.of (fun _ _ _ h => absurd h (by decide)) (Facts.loadR61 hS hF (fun _ _ => rfl) _ rfl rfl (fun x wv hSw hd => by rfl) (fun wv hSw => hSw.1))
  · refine fun _ => Facts.StepR.of (fun _ _ _ h => absurd h (by decide)) (Facts.call2V hS hF (fun _ _ => rfl) rfl (by kernel_rfl) rfl (fun x wv hSw hd => ?_))
    have d0 := eqF_get (hd ⟨0, .data⟩ (by simp) rfl _ rfl)
    have hc := half0 0 g o c n g' o' c' m0 q0 k0 j0 n0 p0 l0 c0 wv (u0.later hSw.2.2) (t0.later hSw.2.2)
    rw [← d0] at hc
    exact hc
  · refine fun _ => Facts.StepR.of (fun _ _ _ h => absurd h (by decide)) (Facts.call1T hS hF (fun _ _ => rfl) rfl (by kernel_rfl) rfl (fun x wv hSw hd => ?_))
    have d1 := eqF_get (hd ⟨1, .data⟩ (by simp) rfl _ rfl)
    have hc := r0 wv hSw.2.2
    rw [← d1] at hc
    exact hc
  · exact fun _ => Facts.StepR.of (fun _ _ _ h => absurd h (by decide)) (Facts.loadR61 hS hF (fun _ _ => rfl) _ rfl rfl (fun x wv hSw hd => by rfl) (fun wv hSw => hSw.1))
  · refine fun _ => Facts.StepR.of (fun _ _ _ h => absurd h (by decide)) (Facts.call2V hS hF (fun _ _ => rfl) rfl (by kernel_rfl) rfl (fun x wv hSw hd => ?_))
    have d3 := eqF_get (hd ⟨3, .data⟩ (by simp) rfl _ rfl)
    have hc := half1 0 g o c n g' o' c' m1 q1 k1 j1 n1 p1 l1 c1 wv (u1.later hSw.2.2) (t1.later hSw.2.2)
    rw [← d3] at hc
    exact hc
  · refine fun _ => Facts.StepR.of (fun _ _ _ h => absurd h (by decide)) (Facts.call1T hS hF (fun _ _ => rfl) rfl (by kernel_rfl) rfl (fun x wv hSw hd => ?_))
    have d4 := eqF_get (hd ⟨4, .data⟩ (by simp) rfl _ rfl)
    have hc := r1 wv hSw.2.2
    rw [← d4] at hc
    exact hc
  · exact fun _ => Facts.allocR hS hF (fun _ _ => rfl) 24 rfl rfl (fun wv hSw => (by have := Bx.lt hSw.2.1; omega)) (alloc24 rfl) (fun j f hfj hj => by simp only [List.mem_cons, List.not_mem_nil, or_false] at hj; rcases hj with rfl | rfl <;> exact ⟨_, _, _, (Option.some.inj hfj).symm⟩)
  · exact fun _ => Facts.allocR hS hF (fun _ _ => rfl) 24 rfl rfl (fun wv hSw => (by have := Bx.lt hSw.2.1; omega)) (alloc24 rfl) (fun j f hfj hj => by simp only [List.mem_cons, List.not_mem_nil, or_false] at hj; rcases hj with rfl | rfl <;> exact ⟨_, _, _, (Option.some.inj hfj).symm⟩)
  · exact fun h => absurd h (by decide)
  · exact fun h => absurd h (by decide)
  rintro x w9 ⟨h1, h2, hbel⟩ hf hrel
  have e0 := eqF_get (hf 0 _ rfl)
  have e1 := eqF_get (hf 1 _ rfl)
  obtain ⟨nA, pA, lA, cA, e2, iA⟩ := isF_get (hf 2 _ rfl)
  have e3 := eqF_get (hf 3 _ rfl)
  have e4 := eqF_get (hf 4 _ rfl)
  obtain ⟨nB, pB, lB, cB, e5, iB⟩ := isF_get (hf 5 _ rfl)
  obtain ⟨q, e6, hq, bq⟩ := alR_get (hf 6 _ rfl)
  obtain ⟨q', e7, hq', bq'⟩ := alR_get (hf 7 _ rfl)
  have hne : q ≠ q' := by
    intro h
    have := hrel 6 7 (by omega) (by omega) (by omega) (by simp) (by simp)
    rw [e6, e7, h] at this
    exact this rfl
  clear hf hrel r0 r1 t0 t1 hF hS
  simp only [e0, e1, e2, e3, e4, e5, e6, e7]
  refine wp_store_t _ _ rfl q nA pA lA cA rfl rfl bq ?_
  have bA := Bx.row bq nA pA lA cA
  have bB := Bx.rowOther bq' (Ne.symm hne) #[.int .i64 nA, .slice pA lA cA]
  replace iA := iA.box bq #[.int .i64 nA, .slice pA lA cA]
  replace iB := iB.box bq #[.int .i64 nA, .slice pA lA cA]
  replace h1 := Rw.rowOther h1 (q := q) (by omega) #[.int .i64 nA, .slice pA lA cA]
  replace h2 := Bx.rowOther h2 (q := q) (by omega) #[.int .i64 nA, .slice pA lA cA]
  replace hbel := below_setRow hbel (g := q) (by omega) #[.int .i64 nA, .slice pA lA cA]
  generalize w9.setRow q #[.int .i64 nA, .slice pA lA cA] = wa at *
  refine wp_store_t _ _ rfl q' nB pB lB cB rfl rfl bB ?_
  replace iA := iA.box bB #[.int .i64 nB, .slice pB lB cB]
  replace iB := iB.box bB #[.int .i64 nB, .slice pB lB cB]
  replace bA := Bx.rowOther bA hne #[.int .i64 nB, .slice pB lB cB]
  replace h1 := Rw.rowOther h1 (q := q') (by omega) #[.int .i64 nB, .slice pB lB cB]
  replace h2 := Bx.rowOther h2 (q := q') (by omega) #[.int .i64 nB, .slice pB lB cB]
  replace hbel := below_setRow hbel (g := q') (by omega) #[.int .i64 nB, .slice pB lB cB]
  replace bB := Bx.row bB nB pB lB cB
  generalize wa.setRow q' #[.int .i64 nB, .slice pB lB cB] = wb at *
  clear e0 e1 e2 e3 e4 e5 e6 e7 bq bq' x w9
  have hc1 := h1.cell 1
  simp at hc1
  replace u0 := u0.later hbel
  replace u1 := u1.later hbel
  have ltq : w.heap.size + 2 ≤ q := hq
  refine Facts.tailWp_nil ?_
  go_wp2_with (refine load_t _ rfl rfl _ _ rfl u0 ?_)
  refine (a0 _).mono ?_
  rintro e1 w10 ⟨rfl, hb1⟩
  replace h1 := Rw.later h1 hb1
  replace h2 := Bx.later h2 hb1
  replace bA := Bx.later bA hb1
  replace bB := Bx.later bB hb1
  replace iA := iA.later hb1
  replace iB := iB.later hb1
  replace u1 := u1.later hb1
  replace hbel := below_on hbel hb1
  clear hb1
  clear a0 u0
  cases bl
  case' true =>
    simp only [if_true] at HZ HR
    have rL := fun w1 (h : Is w1 B (TV nB pB lB cB)) => least_any B nB pB lB cB w1 h HB.out
    generalize low B = lz at rL HZ HR
    have eA : nA = A.n := (is_parts iA).1
    rw [← eA] at HZ HR
    clear a1 u1 eA HA HB iA
    go_wp2_with fail
    by_cases hlt : nA < lz
    · rw [show max nA lz = lz by omega] at HZ HR
      have hS : Calm.Stays (fun w' => Bx w' q nA pA lA cA ∧ Bx w' q' nB pB lB cB ∧ Is w' B (TV nB pB lB cB) ∧ Wx w' w.heap.size 0 (some ⟨g, o, none⟩) 2 c n (some ⟨g', o', none⟩) 2 c' ∧ Bx w' (w.heap.size + 1) 0 none 0 0 ∧ Below w.heap.size w w') := fun wa wb h hb => ⟨h.1.later hb, h.2.1.later hb, h.2.2.1.later hb, h.2.2.2.1.later hb, h.2.2.2.2.1.later hb, below_on h.2.2.2.2.2 hb⟩
      have hF : Facts.Stay [eqF 0 (.pointer (some ⟨q, 0, none⟩)), eqF 1 (.int .i64 nA), eqF 2 (TV nB pB lB cB), eqF 3 (.int .i64 lz), eqF 4 (.int .i64 lz), eqF 5 (TV lz none 0 0)] := stay_of (by simp only [List.forall_mem_cons]; exact ⟨eqF_stays _ _, eqF_stays _ _, eqF_stays _ _, eqF_stays _ _, eqF_stays _ _, eqF_stays _ _, fun _ h => by cases h⟩)
      refine Facts.regionTail (by kernel_rfl) (by kernel_rfl) 6 (by decide) (by kernel_rfl) (fun w' => Bx w' q nA pA lA cA ∧ Bx w' q' nB pB lB cB ∧ Is w' B (TV nB pB lB cB) ∧ Wx w' w.heap.size 0 (some ⟨g, o, none⟩) 2 c n (some ⟨g', o', none⟩) 2 c' ∧ Bx w' (w.heap.size + 1) 0 none 0 0 ∧ Below w.heap.size w w') (fun x => { tmps := #[WV 0 (some { block := g, off := o }) 2 c n (some { block := g', off := o' }) 2 c', Value.pointer (some { block := w.heap.size, off := 0 }), Value.pointer (some { block := w.heap.size + 1, off := 0 }), Value.pointer (some { block := q, off := 0 }), Value.pointer (some { block := q', off := 0 }), undef, undef, Value.bool false, Value.pointer (some { block := w.heap.size, off := 0 }), Value.pointer (some { block := w.heap.size, off := 2 }), TV n (some { block := g', off := o' }) 2 c', Value.bool false, Value.bool false, Value.pointer (some { block := w.heap.size, off := 0 }), Value.pointer (some { block := w.heap.size, off := 0 }), TV 0 (some { block := g, off := o }) 2 c, Value.bool false, Value.bool false, undef, undef, undef, Value.bool false, Value.pointer (some { block := w.heap.size, off := 0 }), Value.pointer (some { block := w.heap.size, off := 0 }), TV 0 (some { block := g, off := o }) 2 c, Value.bool false, undef, undef, undef, undef, undef, WV 0 (some { block := g, off := o }) 2 c n (some { block := g', off := o' }) 2 c', WV m0 q0 k0 j0 n0 p0 l0 c0, TV nA pA lA cA, WV 0 (some { block := g, off := o }) 2 c n (some { block := g', off := o' }) 2 c', WV m1 q1 k1 j1 n1 p1 l1 c1, TV nB pB lB cB, Value.bool true, Value.pointer (some { block := w.heap.size, off := 0 }), Value.pointer (some { block := w.heap.size, off := 0 }), Value.pointer (some { block := w.heap.size, off := 1 }), Value.slice (some { block := g, off := o }) 2 c, Value.pointer (some { block := g, off := o }), TV m0 q0 k0 j0, Value.bool true, x 0, x 1, x 2, x 3, x 4, x 5, undef, undef, undef, undef, undef, undef, undef, undef, undef, undef, undef, undef, undef, undef, undef, undef, undef, undef, undef, undef, undef, undef, undef, undef, undef, undef], defers := [] }) [eqF 0 (.pointer (some ⟨q, 0, none⟩)), eqF 1 (.int .i64 nA), eqF 2 (TV nB pB lB cB), eqF 3 (.int .i64 lz), eqF 4 (.int .i64 lz), eqF 5 (TV lz none 0 0)] _ rfl rfl (by kernel_rfl) (fun _ => undef) rfl ⟨bA, bB, iB.later (Below.refl _ _).drew, h1, h2, hbel.drew⟩ ⟨?_, ?_, ?_, ?_, ?_, ?_, ?_, trivial⟩ ?_
      · exact fun _ => Facts.pure hS hF (fun _ _ => rfl) rfl (fun x wv hSw hd => by
          go_simp)
      · exact fun _ => Facts.pure hS hF (fun _ _ => rfl) rfl (fun x wv hSw hd => by
          have d0 := eqF_get (hd ⟨0, .data⟩ (by simp) rfl _ rfl)
          have g0 := Bx.cell0 hSw.1
          simp only [d0]
          go_simp)
      · exact fun _ => Facts.loadT hS hF (fun _ _ => rfl) _ rfl rfl (fun x wv hSw hd => by rfl) (fun wv hSw => Bx.tat hSw.2.1)
      · refine fun _ => Facts.call1V hS hF (fun _ _ => rfl) rfl (by kernel_rfl) rfl (fun x wv hSw hd => ?_)
        have d2 := eqF_get (hd ⟨2, .data⟩ (by simp) rfl _ rfl)
        have hc := rL wv hSw.2.2.1
        rw [← d2] at hc
        exact hc
      · exact fun _ => Facts.pure hS hF (fun _ _ => rfl) rfl (fun x wv hSw hd => by
          have d1 := eqF_get (hd ⟨1, .data⟩ (by simp) rfl _ rfl)
          have d3 := eqF_get (hd ⟨3, .data⟩ (by simp) rfl _ rfl)
          simp only [d1, d3]
          go_simp)
      · refine fun _ => Facts.call1V hS hF (fun _ _ => rfl) rfl (by kernel_rfl) rfl (fun x wv hSw hd => ?_)
        have d4 := eqF_get (hd ⟨4, .data⟩ (by simp) rfl _ rfl)
        have hc := sLeaf_any lz wv
        rw [← d4] at hc
        exact hc
      · exact fun h => absurd h (by decide)
      rintro x w9 ⟨bA, bB, iB, h1, h2, hbel⟩ hf
      have e0 := eqF_get (hf 0 _ rfl)
      have e1 := eqF_get (hf 1 _ rfl)
      have e2 := eqF_get (hf 2 _ rfl)
      have e3 := eqF_get (hf 3 _ rfl)
      have e4 := eqF_get (hf 4 _ rfl)
      have e5 := eqF_get (hf 5 _ rfl)
      simp only [e0, e1, e2, e3, e4, e5]
      clear hf e0 e1 e2 e3 e4 e5 hF hS x
      refine wp_store_t _ _ rfl q lz none 0 0 rfl rfl bA ?_
      replace bB := Bx.rowOther bB (Ne.symm hne) #[.int .i64 lz, .slice none 0 0]
      replace iB := iB.box bA #[.int .i64 lz, .slice none 0 0]
      replace h1 := Rw.rowOther h1 (q := q) (by omega) #[.int .i64 lz, .slice none 0 0]
      replace h2 := Bx.rowOther h2 (q := q) (by omega) #[.int .i64 lz, .slice none 0 0]
      replace hbel := below_setRow hbel (g := q) (by omega) #[.int .i64 lz, .slice none 0 0]
      replace bA := Bx.row bA lz none 0 0
      generalize w9.setRow q #[.int .i64 lz, .slice none 0 0] = wc at *
      have iA := is_leaf wc lz none 0
      refine Facts.tailWp_nil ?_
      have hc2 := h1.cell 2
      simp at hc2
      go_wp2_with (first | refine load_t _ rfl rfl _ _ rfl (Bx.tat bA) ?_ | refine load_t _ rfl rfl _ _ rfl (Bx.tat bB) ?_)
      refine (sNode_any n (.leaf lz) B _ _ _ _ _ _ _ _ _ iA iB).mono ?_
      rintro e1 w20 ⟨nn, pn, ln, cn, rfl, iN, hb1⟩
      replace h2 := Bx.later h2 hb1
      replace hbel := below_on hbel hb1
      clear hb1 h1 hc2 bA bB iA iB
      go_wp2_with fail
      refine (norm_any (.node n (.leaf lz) B) nn pn ln cn _ iN HR.out).mono ?_
      rintro e1 w21 ⟨nz, pz, lz, cz, rfl, iZ, hb1⟩
      replace h2 := Bx.later h2 hb1
      replace hbel := below_on hbel hb1
      clear hb1 iN
      obtain rfl := HZ.out
      clear HZ HR
      have m0 := bx_new w21 0 none 0 0
      have bz := new_box w21 nz pz lz cz
      have hb1 := new_below w21 nz pz lz cz
      generalize hw : (w21.alloc (.cells #[.int .i64 0, .slice none 0 0] 24)).setRow w21.heap.size #[.int .i64 nz, .slice pz lz cz] = v at bz hb1
      replace h2 := Bx.later h2 hb1
      replace iZ := iZ.later hb1
      replace hbel := below_on hbel hb1
      have R := below_setRow hbel (g := w.heap.size + 1) (by omega) #[.int .i64 nz, .slice pz lz cz]
      clear hb1 hbel
      go_wp2_with (first | rw [hw] | refine store_t rfl _ _ rfl _ nz pz lz cz rfl rfl m0 ?_ | refine load_t _ rfl rfl _ _ rfl bz.tat ?_ | refine store_t rfl _ _ rfl _ nz pz lz cz rfl rfl h2 ?_)
      exact bodyPost_ret (results_t rfl rfl (Bx.row h2 _ _ _ _)) rfl ⟨_, _, _, _, rfl, iZ.box h2 _, R⟩
    · rw [show max nA lz = nA by omega] at HZ HR
      have hS : Calm.Stays (fun w' => Bx w' q nA pA lA cA ∧ Bx w' q' nB pB lB cB ∧ Is w' B (TV nB pB lB cB) ∧ Wx w' w.heap.size 0 (some ⟨g, o, none⟩) 2 c n (some ⟨g', o', none⟩) 2 c' ∧ Bx w' (w.heap.size + 1) 0 none 0 0 ∧ Below w.heap.size w w') := fun wa wb h hb => ⟨h.1.later hb, h.2.1.later hb, h.2.2.1.later hb, h.2.2.2.1.later hb, h.2.2.2.2.1.later hb, below_on h.2.2.2.2.2 hb⟩
      have hF : Facts.Stay [eqF 0 (.pointer (some ⟨q, 0, none⟩)), eqF 1 (.int .i64 nA), eqF 2 (TV nB pB lB cB), eqF 3 (.int .i64 lz), eqF 4 (.int .i64 nA), eqF 5 (TV nA none 0 0)] := stay_of (by simp only [List.forall_mem_cons]; exact ⟨eqF_stays _ _, eqF_stays _ _, eqF_stays _ _, eqF_stays _ _, eqF_stays _ _, eqF_stays _ _, fun _ h => by cases h⟩)
      refine Facts.regionTail (by kernel_rfl) (by kernel_rfl) 6 (by decide) (by kernel_rfl) (fun w' => Bx w' q nA pA lA cA ∧ Bx w' q' nB pB lB cB ∧ Is w' B (TV nB pB lB cB) ∧ Wx w' w.heap.size 0 (some ⟨g, o, none⟩) 2 c n (some ⟨g', o', none⟩) 2 c' ∧ Bx w' (w.heap.size + 1) 0 none 0 0 ∧ Below w.heap.size w w') (fun x => { tmps := #[WV 0 (some { block := g, off := o }) 2 c n (some { block := g', off := o' }) 2 c', Value.pointer (some { block := w.heap.size, off := 0 }), Value.pointer (some { block := w.heap.size + 1, off := 0 }), Value.pointer (some { block := q, off := 0 }), Value.pointer (some { block := q', off := 0 }), undef, undef, Value.bool false, Value.pointer (some { block := w.heap.size, off := 0 }), Value.pointer (some { block := w.heap.size, off := 2 }), TV n (some { block := g', off := o' }) 2 c', Value.bool false, Value.bool false, Value.pointer (some { block := w.heap.size, off := 0 }), Value.pointer (some { block := w.heap.size, off := 0 }), TV 0 (some { block := g, off := o }) 2 c, Value.bool false, Value.bool false, undef, undef, undef, Value.bool false, Value.pointer (some { block := w.heap.size, off := 0 }), Value.pointer (some { block := w.heap.size, off := 0 }), TV 0 (some { block := g, off := o }) 2 c, Value.bool false, undef, undef, undef, undef, undef, WV 0 (some { block := g, off := o }) 2 c n (some { block := g', off := o' }) 2 c', WV m0 q0 k0 j0 n0 p0 l0 c0, TV nA pA lA cA, WV 0 (some { block := g, off := o }) 2 c n (some { block := g', off := o' }) 2 c', WV m1 q1 k1 j1 n1 p1 l1 c1, TV nB pB lB cB, Value.bool true, Value.pointer (some { block := w.heap.size, off := 0 }), Value.pointer (some { block := w.heap.size, off := 0 }), Value.pointer (some { block := w.heap.size, off := 1 }), Value.slice (some { block := g, off := o }) 2 c, Value.pointer (some { block := g, off := o }), TV m0 q0 k0 j0, Value.bool true, x 0, x 1, x 2, x 3, x 4, x 5, undef, undef, undef, undef, undef, undef, undef, undef, undef, undef, undef, undef, undef, undef, undef, undef, undef, undef, undef, undef, undef, undef, undef, undef, undef, undef], defers := [] }) [eqF 0 (.pointer (some ⟨q, 0, none⟩)), eqF 1 (.int .i64 nA), eqF 2 (TV nB pB lB cB), eqF 3 (.int .i64 lz), eqF 4 (.int .i64 nA), eqF 5 (TV nA none 0 0)] _ rfl rfl (by kernel_rfl) (fun _ => undef) rfl ⟨bA, bB, iB.later (Below.refl _ _).drew, h1, h2, hbel.drew⟩ ⟨?_, ?_, ?_, ?_, ?_, ?_, ?_, trivial⟩ ?_
      · exact fun _ => Facts.pure hS hF (fun _ _ => rfl) rfl (fun x wv hSw hd => by
          go_simp)
      · exact fun _ => Facts.pure hS hF (fun _ _ => rfl) rfl (fun x wv hSw hd => by
          have d0 := eqF_get (hd ⟨0, .data⟩ (by simp) rfl _ rfl)
          have g0 := Bx.cell0 hSw.1
          simp only [d0]
          go_simp)
      · exact fun _ => Facts.loadT hS hF (fun _ _ => rfl) _ rfl rfl (fun x wv hSw hd => by rfl) (fun wv hSw => Bx.tat hSw.2.1)
      · refine fun _ => Facts.call1V hS hF (fun _ _ => rfl) rfl (by kernel_rfl) rfl (fun x wv hSw hd => ?_)
        have d2 := eqF_get (hd ⟨2, .data⟩ (by simp) rfl _ rfl)
        have hc := rL wv hSw.2.2.1
        rw [← d2] at hc
        exact hc
      · exact fun _ => Facts.pure hS hF (fun _ _ => rfl) rfl (fun x wv hSw hd => by
          have d1 := eqF_get (hd ⟨1, .data⟩ (by simp) rfl _ rfl)
          have d3 := eqF_get (hd ⟨3, .data⟩ (by simp) rfl _ rfl)
          simp only [d1, d3]
          go_simp)
      · refine fun _ => Facts.call1V hS hF (fun _ _ => rfl) rfl (by kernel_rfl) rfl (fun x wv hSw hd => ?_)
        have d4 := eqF_get (hd ⟨4, .data⟩ (by simp) rfl _ rfl)
        have hc := sLeaf_any nA wv
        rw [← d4] at hc
        exact hc
      · exact fun h => absurd h (by decide)
      rintro x w9 ⟨bA, bB, iB, h1, h2, hbel⟩ hf
      have e0 := eqF_get (hf 0 _ rfl)
      have e1 := eqF_get (hf 1 _ rfl)
      have e2 := eqF_get (hf 2 _ rfl)
      have e3 := eqF_get (hf 3 _ rfl)
      have e4 := eqF_get (hf 4 _ rfl)
      have e5 := eqF_get (hf 5 _ rfl)
      simp only [e0, e1, e2, e3, e4, e5]
      clear hf e0 e1 e2 e3 e4 e5 hF hS x
      refine wp_store_t _ _ rfl q nA none 0 0 rfl rfl bA ?_
      replace bB := Bx.rowOther bB (Ne.symm hne) #[.int .i64 nA, .slice none 0 0]
      replace iB := iB.box bA #[.int .i64 nA, .slice none 0 0]
      replace h1 := Rw.rowOther h1 (q := q) (by omega) #[.int .i64 nA, .slice none 0 0]
      replace h2 := Bx.rowOther h2 (q := q) (by omega) #[.int .i64 nA, .slice none 0 0]
      replace hbel := below_setRow hbel (g := q) (by omega) #[.int .i64 nA, .slice none 0 0]
      replace bA := Bx.row bA nA none 0 0
      generalize w9.setRow q #[.int .i64 nA, .slice none 0 0] = wc at *
      have iA := is_leaf wc nA none 0
      refine Facts.tailWp_nil ?_
      have hc2 := h1.cell 2
      simp at hc2
      go_wp2_with (first | refine load_t _ rfl rfl _ _ rfl (Bx.tat bA) ?_ | refine load_t _ rfl rfl _ _ rfl (Bx.tat bB) ?_)
      refine (sNode_any n (.leaf nA) B _ _ _ _ _ _ _ _ _ iA iB).mono ?_
      rintro e1 w20 ⟨nn, pn, ln, cn, rfl, iN, hb1⟩
      replace h2 := Bx.later h2 hb1
      replace hbel := below_on hbel hb1
      clear hb1 h1 hc2 bA bB iA iB
      go_wp2_with fail
      refine (norm_any (.node n (.leaf nA) B) nn pn ln cn _ iN HR.out).mono ?_
      rintro e1 w21 ⟨nz, pz, lz, cz, rfl, iZ, hb1⟩
      replace h2 := Bx.later h2 hb1
      replace hbel := below_on hbel hb1
      clear hb1 iN
      obtain rfl := HZ.out
      clear HZ HR
      have m0 := bx_new w21 0 none 0 0
      have bz := new_box w21 nz pz lz cz
      have hb1 := new_below w21 nz pz lz cz
      generalize hw : (w21.alloc (.cells #[.int .i64 0, .slice none 0 0] 24)).setRow w21.heap.size #[.int .i64 nz, .slice pz lz cz] = v at bz hb1
      replace h2 := Bx.later h2 hb1
      replace iZ := iZ.later hb1
      replace hbel := below_on hbel hb1
      have R := below_setRow hbel (g := w.heap.size + 1) (by omega) #[.int .i64 nz, .slice pz lz cz]
      clear hb1 hbel
      go_wp2_with (first | rw [hw] | refine store_t rfl _ _ rfl _ nz pz lz cz rfl rfl m0 ?_ | refine load_t _ rfl rfl _ _ rfl bz.tat ?_ | refine store_t rfl _ _ rfl _ nz pz lz cz rfl rfl h2 ?_)
      exact bodyPost_ret (results_t rfl rfl (Bx.row h2 _ _ _ _)) rfl ⟨_, _, _, _, rfl, iZ.box h2 _, R⟩
  case' false =>
    simp only [Bool.false_eq_true, if_false] at HZ HR
    clear HB
    have hc1 := h1.cell 1
    simp at hc1
    go_wp2_with (refine load_t _ rfl rfl _ _ rfl u1 ?_)
    refine (a1 _).mono ?_
    rintro e1 w11 ⟨rfl, hb1⟩
    replace h1 := Rw.later h1 hb1
    replace h2 := Bx.later h2 hb1
    replace bA := Bx.later bA hb1
    replace bB := Bx.later bB hb1
    replace iA := iA.later hb1
    replace iB := iB.later hb1
    replace u1 := u1.later hb1
    replace hbel := below_on hbel hb1
    clear hb1
    clear a1 u1
    cases br
    case' true =>
      simp only [if_true] at HZ HR
      have rL := fun w1 (h : Is w1 A (TV nA pA lA cA)) => least_any A nA pA lA cA w1 h HA.out
      generalize low A = lz at rL HZ HR
      have eB : nB = B.n := (is_parts iB).1
      rw [← eB] at HZ HR
      clear eB HA iB
      go_wp2_with fail
      by_cases hlt : nB < lz
      · rw [show max nB lz = lz by omega] at HZ HR
        have hS : Calm.Stays (fun w' => Bx w' q nA pA lA cA ∧ Bx w' q' nB pB lB cB ∧ Is w' A (TV nA pA lA cA) ∧ Wx w' w.heap.size 0 (some ⟨g, o, none⟩) 2 c n (some ⟨g', o', none⟩) 2 c' ∧ Bx w' (w.heap.size + 1) 0 none 0 0 ∧ Below w.heap.size w w') := fun wa wb h hb => ⟨h.1.later hb, h.2.1.later hb, h.2.2.1.later hb, h.2.2.2.1.later hb, h.2.2.2.2.1.later hb, below_on h.2.2.2.2.2 hb⟩
        have hF : Facts.Stay [eqF 0 (.pointer (some ⟨q', 0, none⟩)), eqF 1 (.int .i64 nB), eqF 2 (TV nA pA lA cA), eqF 3 (.int .i64 lz), eqF 4 (.int .i64 lz), eqF 5 (TV lz none 0 0)] := stay_of (by simp only [List.forall_mem_cons]; exact ⟨eqF_stays _ _, eqF_stays _ _, eqF_stays _ _, eqF_stays _ _, eqF_stays _ _, eqF_stays _ _, fun _ h => by cases h⟩)
        refine Facts.regionTail (by kernel_rfl) (by kernel_rfl) 6 (by decide) (by kernel_rfl) (fun w' => Bx w' q nA pA lA cA ∧ Bx w' q' nB pB lB cB ∧ Is w' A (TV nA pA lA cA) ∧ Wx w' w.heap.size 0 (some ⟨g, o, none⟩) 2 c n (some ⟨g', o', none⟩) 2 c' ∧ Bx w' (w.heap.size + 1) 0 none 0 0 ∧ Below w.heap.size w w') (fun x => { tmps := #[WV 0 (some { block := g, off := o }) 2 c n (some { block := g', off := o' }) 2 c', Value.pointer (some { block := w.heap.size, off := 0 }), Value.pointer (some { block := w.heap.size + 1, off := 0 }), Value.pointer (some { block := q, off := 0 }), Value.pointer (some { block := q', off := 0 }), undef, undef, Value.bool false, Value.pointer (some { block := w.heap.size, off := 0 }), Value.pointer (some { block := w.heap.size, off := 2 }), TV n (some { block := g', off := o' }) 2 c', Value.bool false, Value.bool false, Value.pointer (some { block := w.heap.size, off := 0 }), Value.pointer (some { block := w.heap.size, off := 0 }), TV 0 (some { block := g, off := o }) 2 c, Value.bool false, Value.bool false, undef, undef, undef, Value.bool false, Value.pointer (some { block := w.heap.size, off := 0 }), Value.pointer (some { block := w.heap.size, off := 0 }), TV 0 (some { block := g, off := o }) 2 c, Value.bool false, undef, undef, undef, undef, undef, WV 0 (some { block := g, off := o }) 2 c n (some { block := g', off := o' }) 2 c', WV m0 q0 k0 j0 n0 p0 l0 c0, TV nA pA lA cA, WV 0 (some { block := g, off := o }) 2 c n (some { block := g', off := o' }) 2 c', WV m1 q1 k1 j1 n1 p1 l1 c1, TV nB pB lB cB, Value.bool false, Value.pointer (some { block := w.heap.size, off := 0 }), Value.pointer (some { block := w.heap.size, off := 0 }), Value.pointer (some { block := w.heap.size, off := 1 }), Value.slice (some { block := g, off := o }) 2 c, Value.pointer (some { block := g, off := o }), TV m0 q0 k0 j0, Value.bool false, undef, undef, undef, undef, undef, undef, Value.bool true, Value.pointer (some { block := w.heap.size, off := 0 }), Value.pointer (some { block := w.heap.size, off := 0 }), Value.pointer (some { block := w.heap.size, off := 1 }), Value.slice (some { block := g, off := o }) 2 c, Value.pointer (some { block := g, off := o + 2 }), TV m1 q1 k1 j1, Value.bool true, x 0, x 1, x 2, x 3, x 4, x 5, undef, undef, undef, undef, undef, undef, undef, undef, undef, undef, undef, undef], defers := [] }) [eqF 0 (.pointer (some ⟨q', 0, none⟩)), eqF 1 (.int .i64 nB), eqF 2 (TV nA pA lA cA), eqF 3 (.int .i64 lz), eqF 4 (.int .i64 lz), eqF 5 (TV lz none 0 0)] _ rfl rfl (by kernel_rfl) (fun _ => undef) rfl ⟨bA, bB, iA.later (Below.refl _ _).drew, h1, h2, hbel.drew⟩ ⟨?_, ?_, ?_, ?_, ?_, ?_, ?_, trivial⟩ ?_
        · exact fun _ => Facts.pure hS hF (fun _ _ => rfl) rfl (fun x wv hSw hd => by
            go_simp)
        · exact fun _ => Facts.pure hS hF (fun _ _ => rfl) rfl (fun x wv hSw hd => by
            have d0 := eqF_get (hd ⟨0, .data⟩ (by simp) rfl _ rfl)
            have g0 := Bx.cell0 hSw.2.1
            simp only [d0]
            go_simp)
        · exact fun _ => Facts.loadT hS hF (fun _ _ => rfl) _ rfl rfl (fun x wv hSw hd => by rfl) (fun wv hSw => Bx.tat hSw.1)
        · refine fun _ => Facts.call1V hS hF (fun _ _ => rfl) rfl (by kernel_rfl) rfl (fun x wv hSw hd => ?_)
          have d2 := eqF_get (hd ⟨2, .data⟩ (by simp) rfl _ rfl)
          have hc := rL wv hSw.2.2.1
          rw [← d2] at hc
          exact hc
        · exact fun _ => Facts.pure hS hF (fun _ _ => rfl) rfl (fun x wv hSw hd => by
            have d1 := eqF_get (hd ⟨1, .data⟩ (by simp) rfl _ rfl)
            have d3 := eqF_get (hd ⟨3, .data⟩ (by simp) rfl _ rfl)
            simp only [d1, d3]
            go_simp)
        · refine fun _ => Facts.call1V hS hF (fun _ _ => rfl) rfl (by kernel_rfl) rfl (fun x wv hSw hd => ?_)
          have d4 := eqF_get (hd ⟨4, .data⟩ (by simp) rfl _ rfl)
          have hc := sLeaf_any lz wv
          rw [← d4] at hc
          exact hc
        · exact fun h => absurd h (by decide)
        rintro x w9 ⟨bA, bB, iA, h1, h2, hbel⟩ hf
        have e0 := eqF_get (hf 0 _ rfl)
        have e1 := eqF_get (hf 1 _ rfl)
        have e2 := eqF_get (hf 2 _ rfl)
        have e3 := eqF_get (hf 3 _ rfl)
        have e4 := eqF_get (hf 4 _ rfl)
        have e5 := eqF_get (hf 5 _ rfl)
        simp only [e0, e1, e2, e3, e4, e5]
        clear hf e0 e1 e2 e3 e4 e5 hF hS x
        refine wp_store_t _ _ rfl q' lz none 0 0 rfl rfl bB ?_
        replace bA := Bx.rowOther bA hne #[.int .i64 lz, .slice none 0 0]
        replace iA := iA.box bB #[.int .i64 lz, .slice none 0 0]
        replace h1 := Rw.rowOther h1 (q := q') (by omega) #[.int .i64 lz, .slice none 0 0]
        replace h2 := Bx.rowOther h2 (q := q') (by omega) #[.int .i64 lz, .slice none 0 0]
        replace hbel := below_setRow hbel (g := q') (by omega) #[.int .i64 lz, .slice none 0 0]
        replace bB := Bx.row bB lz none 0 0
        generalize w9.setRow q' #[.int .i64 lz, .slice none 0 0] = wc at *
        have iB := is_leaf wc lz none 0
        refine Facts.tailWp_nil ?_
        have hc2 := h1.cell 2
        simp at hc2
        go_wp2_with (first | refine load_t _ rfl rfl _ _ rfl (Bx.tat bA) ?_ | refine load_t _ rfl rfl _ _ rfl (Bx.tat bB) ?_)
        refine (sNode_any n A (.leaf lz) _ _ _ _ _ _ _ _ _ iA iB).mono ?_
        rintro e1 w20 ⟨nn, pn, ln, cn, rfl, iN, hb1⟩
        replace h2 := Bx.later h2 hb1
        replace hbel := below_on hbel hb1
        clear hb1 h1 hc2 bA bB iA iB
        go_wp2_with fail
        refine (norm_any (.node n A (.leaf lz)) nn pn ln cn _ iN HR.out).mono ?_
        rintro e1 w21 ⟨nz, pz, lz, cz, rfl, iZ, hb1⟩
        replace h2 := Bx.later h2 hb1
        replace hbel := below_on hbel hb1
        clear hb1 iN
        obtain rfl := HZ.out
        clear HZ HR
        have m0 := bx_new w21 0 none 0 0
        have bz := new_box w21 nz pz lz cz
        have hb1 := new_below w21 nz pz lz cz
        generalize hw : (w21.alloc (.cells #[.int .i64 0, .slice none 0 0] 24)).setRow w21.heap.size #[.int .i64 nz, .slice pz lz cz] = v at bz hb1
        replace h2 := Bx.later h2 hb1
        replace iZ := iZ.later hb1
        replace hbel := below_on hbel hb1
        have R := below_setRow hbel (g := w.heap.size + 1) (by omega) #[.int .i64 nz, .slice pz lz cz]
        clear hb1 hbel
        go_wp2_with (first | rw [hw] | refine store_t rfl _ _ rfl _ nz pz lz cz rfl rfl m0 ?_ | refine load_t _ rfl rfl _ _ rfl bz.tat ?_ | refine store_t rfl _ _ rfl _ nz pz lz cz rfl rfl h2 ?_)
        exact bodyPost_ret (results_t rfl rfl (Bx.row h2 _ _ _ _)) rfl ⟨_, _, _, _, rfl, iZ.box h2 _, R⟩
      · rw [show max nB lz = nB by omega] at HZ HR
        have hS : Calm.Stays (fun w' => Bx w' q nA pA lA cA ∧ Bx w' q' nB pB lB cB ∧ Is w' A (TV nA pA lA cA) ∧ Wx w' w.heap.size 0 (some ⟨g, o, none⟩) 2 c n (some ⟨g', o', none⟩) 2 c' ∧ Bx w' (w.heap.size + 1) 0 none 0 0 ∧ Below w.heap.size w w') := fun wa wb h hb => ⟨h.1.later hb, h.2.1.later hb, h.2.2.1.later hb, h.2.2.2.1.later hb, h.2.2.2.2.1.later hb, below_on h.2.2.2.2.2 hb⟩
        have hF : Facts.Stay [eqF 0 (.pointer (some ⟨q', 0, none⟩)), eqF 1 (.int .i64 nB), eqF 2 (TV nA pA lA cA), eqF 3 (.int .i64 lz), eqF 4 (.int .i64 nB), eqF 5 (TV nB none 0 0)] := stay_of (by simp only [List.forall_mem_cons]; exact ⟨eqF_stays _ _, eqF_stays _ _, eqF_stays _ _, eqF_stays _ _, eqF_stays _ _, eqF_stays _ _, fun _ h => by cases h⟩)
        refine Facts.regionTail (by kernel_rfl) (by kernel_rfl) 6 (by decide) (by kernel_rfl) (fun w' => Bx w' q nA pA lA cA ∧ Bx w' q' nB pB lB cB ∧ Is w' A (TV nA pA lA cA) ∧ Wx w' w.heap.size 0 (some ⟨g, o, none⟩) 2 c n (some ⟨g', o', none⟩) 2 c' ∧ Bx w' (w.heap.size + 1) 0 none 0 0 ∧ Below w.heap.size w w') (fun x => { tmps := #[WV 0 (some { block := g, off := o }) 2 c n (some { block := g', off := o' }) 2 c', Value.pointer (some { block := w.heap.size, off := 0 }), Value.pointer (some { block := w.heap.size + 1, off := 0 }), Value.pointer (some { block := q, off := 0 }), Value.pointer (some { block := q', off := 0 }), undef, undef, Value.bool false, Value.pointer (some { block := w.heap.size, off := 0 }), Value.pointer (some { block := w.heap.size, off := 2 }), TV n (some { block := g', off := o' }) 2 c', Value.bool false, Value.bool false, Value.pointer (some { block := w.heap.size, off := 0 }), Value.pointer (some { block := w.heap.size, off := 0 }), TV 0 (some { block := g, off := o }) 2 c, Value.bool false, Value.bool false, undef, undef, undef, Value.bool false, Value.pointer (some { block := w.heap.size, off := 0 }), Value.pointer (some { block := w.heap.size, off := 0 }), TV 0 (some { block := g, off := o }) 2 c, Value.bool false, undef, undef, undef, undef, undef, WV 0 (some { block := g, off := o }) 2 c n (some { block := g', off := o' }) 2 c', WV m0 q0 k0 j0 n0 p0 l0 c0, TV nA pA lA cA, WV 0 (some { block := g, off := o }) 2 c n (some { block := g', off := o' }) 2 c', WV m1 q1 k1 j1 n1 p1 l1 c1, TV nB pB lB cB, Value.bool false, Value.pointer (some { block := w.heap.size, off := 0 }), Value.pointer (some { block := w.heap.size, off := 0 }), Value.pointer (some { block := w.heap.size, off := 1 }), Value.slice (some { block := g, off := o }) 2 c, Value.pointer (some { block := g, off := o }), TV m0 q0 k0 j0, Value.bool false, undef, undef, undef, undef, undef, undef, Value.bool true, Value.pointer (some { block := w.heap.size, off := 0 }), Value.pointer (some { block := w.heap.size, off := 0 }), Value.pointer (some { block := w.heap.size, off := 1 }), Value.slice (some { block := g, off := o }) 2 c, Value.pointer (some { block := g, off := o + 2 }), TV m1 q1 k1 j1, Value.bool true, x 0, x 1, x 2, x 3, x 4, x 5, undef, undef, undef, undef, undef, undef, undef, undef, undef, undef, undef, undef], defers := [] }) [eqF 0 (.pointer (some ⟨q', 0, none⟩)), eqF 1 (.int .i64 nB), eqF 2 (TV nA pA lA cA), eqF 3 (.int .i64 lz), eqF 4 (.int .i64 nB), eqF 5 (TV nB none 0 0)] _ rfl rfl (by kernel_rfl) (fun _ => undef) rfl ⟨bA, bB, iA.later (Below.refl _ _).drew, h1, h2, hbel.drew⟩ ⟨?_, ?_, ?_, ?_, ?_, ?_, ?_, trivial⟩ ?_
        · exact fun _ => Facts.pure hS hF (fun _ _ => rfl) rfl (fun x wv hSw hd => by
            go_simp)
        · exact fun _ => Facts.pure hS hF (fun _ _ => rfl) rfl (fun x wv hSw hd => by
            have d0 := eqF_get (hd ⟨0, .data⟩ (by simp) rfl _ rfl)
            have g0 := Bx.cell0 hSw.2.1
            simp only [d0]
            go_simp)
        · exact fun _ => Facts.loadT hS hF (fun _ _ => rfl) _ rfl rfl (fun x wv hSw hd => by rfl) (fun wv hSw => Bx.tat hSw.1)
        · refine fun _ => Facts.call1V hS hF (fun _ _ => rfl) rfl (by kernel_rfl) rfl (fun x wv hSw hd => ?_)
          have d2 := eqF_get (hd ⟨2, .data⟩ (by simp) rfl _ rfl)
          have hc := rL wv hSw.2.2.1
          rw [← d2] at hc
          exact hc
        · exact fun _ => Facts.pure hS hF (fun _ _ => rfl) rfl (fun x wv hSw hd => by
            have d1 := eqF_get (hd ⟨1, .data⟩ (by simp) rfl _ rfl)
            have d3 := eqF_get (hd ⟨3, .data⟩ (by simp) rfl _ rfl)
            simp only [d1, d3]
            go_simp)
        · refine fun _ => Facts.call1V hS hF (fun _ _ => rfl) rfl (by kernel_rfl) rfl (fun x wv hSw hd => ?_)
          have d4 := eqF_get (hd ⟨4, .data⟩ (by simp) rfl _ rfl)
          have hc := sLeaf_any nB wv
          rw [← d4] at hc
          exact hc
        · exact fun h => absurd h (by decide)
        rintro x w9 ⟨bA, bB, iA, h1, h2, hbel⟩ hf
        have e0 := eqF_get (hf 0 _ rfl)
        have e1 := eqF_get (hf 1 _ rfl)
        have e2 := eqF_get (hf 2 _ rfl)
        have e3 := eqF_get (hf 3 _ rfl)
        have e4 := eqF_get (hf 4 _ rfl)
        have e5 := eqF_get (hf 5 _ rfl)
        simp only [e0, e1, e2, e3, e4, e5]
        clear hf e0 e1 e2 e3 e4 e5 hF hS x
        refine wp_store_t _ _ rfl q' nB none 0 0 rfl rfl bB ?_
        replace bA := Bx.rowOther bA hne #[.int .i64 nB, .slice none 0 0]
        replace iA := iA.box bB #[.int .i64 nB, .slice none 0 0]
        replace h1 := Rw.rowOther h1 (q := q') (by omega) #[.int .i64 nB, .slice none 0 0]
        replace h2 := Bx.rowOther h2 (q := q') (by omega) #[.int .i64 nB, .slice none 0 0]
        replace hbel := below_setRow hbel (g := q') (by omega) #[.int .i64 nB, .slice none 0 0]
        replace bB := Bx.row bB nB none 0 0
        generalize w9.setRow q' #[.int .i64 nB, .slice none 0 0] = wc at *
        have iB := is_leaf wc nB none 0
        refine Facts.tailWp_nil ?_
        have hc2 := h1.cell 2
        simp at hc2
        go_wp2_with (first | refine load_t _ rfl rfl _ _ rfl (Bx.tat bA) ?_ | refine load_t _ rfl rfl _ _ rfl (Bx.tat bB) ?_)
        refine (sNode_any n A (.leaf nB) _ _ _ _ _ _ _ _ _ iA iB).mono ?_
        rintro e1 w20 ⟨nn, pn, ln, cn, rfl, iN, hb1⟩
        replace h2 := Bx.later h2 hb1
        replace hbel := below_on hbel hb1
        clear hb1 h1 hc2 bA bB iA iB
        go_wp2_with fail
        refine (norm_any (.node n A (.leaf nB)) nn pn ln cn _ iN HR.out).mono ?_
        rintro e1 w21 ⟨nz, pz, lz, cz, rfl, iZ, hb1⟩
        replace h2 := Bx.later h2 hb1
        replace hbel := below_on hbel hb1
        clear hb1 iN
        obtain rfl := HZ.out
        clear HZ HR
        have m0 := bx_new w21 0 none 0 0
        have bz := new_box w21 nz pz lz cz
        have hb1 := new_below w21 nz pz lz cz
        generalize hw : (w21.alloc (.cells #[.int .i64 0, .slice none 0 0] 24)).setRow w21.heap.size #[.int .i64 nz, .slice pz lz cz] = v at bz hb1
        replace h2 := Bx.later h2 hb1
        replace iZ := iZ.later hb1
        replace hbel := below_on hbel hb1
        have R := below_setRow hbel (g := w.heap.size + 1) (by omega) #[.int .i64 nz, .slice pz lz cz]
        clear hb1 hbel
        go_wp2_with (first | rw [hw] | refine store_t rfl _ _ rfl _ nz pz lz cz rfl rfl m0 ?_ | refine load_t _ rfl rfl _ _ rfl bz.tat ?_ | refine store_t rfl _ _ rfl _ nz pz lz cz rfl rfl h2 ?_)
        exact bodyPost_ret (results_t rfl rfl (Bx.row h2 _ _ _ _)) rfl ⟨_, _, _, _, rfl, iZ.box h2 _, R⟩
    case' false =>
      simp only [Bool.false_eq_true, if_false] at HZ HR
      have hc2 := h1.cell 2
      simp at hc2
      go_wp2_with (first | refine load_t _ rfl rfl _ _ rfl (Bx.tat bA) ?_ | refine load_t _ rfl rfl _ _ rfl (Bx.tat bB) ?_)
      refine (sNode_any n A B _ _ _ _ _ _ _ _ _ iA iB).mono ?_
      rintro e1 w20 ⟨nn, pn, ln, cn, rfl, iN, hb1⟩
      replace h2 := Bx.later h2 hb1
      replace hbel := below_on hbel hb1
      clear hb1 h1 hc2 bA bB iA iB
      go_wp2_with fail
      refine (norm_any (.node n A B) nn pn ln cn _ iN HR.out).mono ?_
      rintro e1 w21 ⟨nz, pz, lz, cz, rfl, iZ, hb1⟩
      replace h2 := Bx.later h2 hb1
      replace hbel := below_on hbel hb1
      clear hb1 iN
      obtain rfl := HZ.out
      clear HZ HR
      have m0 := bx_new w21 0 none 0 0
      have bz := new_box w21 nz pz lz cz
      have hb1 := new_below w21 nz pz lz cz
      generalize hw : (w21.alloc (.cells #[.int .i64 0, .slice none 0 0] 24)).setRow w21.heap.size #[.int .i64 nz, .slice pz lz cz] = v at bz hb1
      replace h2 := Bx.later h2 hb1
      replace iZ := iZ.later hb1
      replace hbel := below_on hbel hb1
      have R := below_setRow hbel (g := w.heap.size + 1) (by omega) #[.int .i64 nz, .slice pz lz cz]
      clear hb1 hbel
      go_wp2_with (first | rw [hw] | refine store_t rfl _ _ rfl _ nz pz lz cz rfl rfl m0 ?_ | refine load_t _ rfl rfl _ _ rfl bz.tat ?_ | refine store_t rfl _ _ rfl _ nz pz lz cz rfl rfl h2 ?_)
      exact bodyPost_ret (results_t rfl rfl (Bx.row h2 _ _ _ _)) rfl ⟨_, _, _, _, rfl, iZ.box h2 _, R⟩

theorem filled_any : ∀ (i : ID) (e : EV) (k : Nat) (left : Int) (ni : Int) (pi : Option Addr) (li ci : Nat) (ne : Int) (pe : Option Addr) (le ce : Nat) (w : World), Idn.Is w i (TV ni pi li ci) → Is w e (TV ne pe le ce) → short e = true → rg e k left = true → k ≤ 16 → left ≤ 1073741824 →
    Calls Try.prog 79 #[WV ni pi li ci ne pe le ce] w (Gives (fl i e) w)
  | ⟨.inl b⟩, e, k, left, ni, pi, li, ci, ne, pe, le, ce, w, hi, he, hs, hr, hk, hl => by
    cases b
    · exact filled_same _ e ni pi li ci ne pe le ce w hi he (.inr rfl)
    · cases h : lf e
      · exact filled_all _ e ni pi li ci ne pe le ce w hi he h rfl (ok_rg hr hk hl hs)
      · exact filled_same _ e ni pi li ci ne pe le ce w hi he (.inl h)
  | ⟨.inr (l, r)⟩, ⟨n, .inl ()⟩, k, left, ni, pi, li, ci, ne, pe, le, ce, w, hi, he, hs, hr, hk, hl => filled_same _ _ ni pi li ci ne pe le ce w hi he (.inl rfl)
  | ⟨.inr (l, r)⟩, ⟨n, .inr (a, b)⟩, k, left, ni, pi, li, ci, ne, pe, le, ce, w, ⟨g, o, c, m0, q0, k0, j0, m1, q1, k1, j1, ei, u0, u1, il, ir⟩, ⟨g', o', c', n0, p0, l0, c0, n1, p1, l1, c1, ee, t0, t1, ia, ib⟩, hs, hr, hk, hl => by
    obtain ⟨_, _, s0, s1⟩ := short_kids hs
    obtain ⟨hn, hk0, ra, rb⟩ := rg_kids hr
    have R0 := fun w1 (hb : Below w.heap.size w w1) => filled_any l a (k - 1) (left - n) m0 q0 k0 j0 n0 p0 l0 c0 w1 (il.later hb) (ia.later hb) s0 ra (by omega) (by omega)
    have R1 := fun w1 (hb : Below w.heap.size w w1) => filled_any r b (k - 1) (left - n) m1 q1 k1 j1 n1 p1 l1 c1 w1 (ir.later hb) (ib.later hb) s1 rb (by omega) (by omega)
    have fA := fl_rg l a _ _ ra
    have fB := fl_rg r b _ _ rb
    simp at ei ee
    obtain ⟨rfl, rfl, rfl, rfl⟩ := ei
    obtain ⟨rfl, rfl, rfl, rfl⟩ := ee
    refine filled_node l r ne (fl l a) (fl r b) g o ci g' o' ce m0 q0 k0 j0 m1 q1 k1 j1 n0 p0 l0 c0 n1 p1 l1 c1 w u0 u1 t0 t1 il ir R0 R1 (ok_rg fA (by omega) (by omega) (fl_short l a s0)) (ok_rg fB (by omega) (by omega) (fl_short r b s1)) (rg_mono (room := k) (left := left) ?_ hk hl)
    simp only [rg, Bool.and_eq_true, decide_eq_true_eq]
    exact ⟨hn, ⟨hk0, fa_rg fA fB⟩, fb_rg fA fB⟩
end Go.Proofs.Ytmcajjdijjcpkaa
