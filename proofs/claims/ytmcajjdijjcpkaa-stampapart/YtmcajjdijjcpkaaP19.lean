import Derived.Test.YtmcajjdijjcpkaaP16
import Derived.Test.YtmcajjdijjcpkaaP14
import Derived.Test.YtmcajjdijjcpkaaP18
import Derived.Test.YtmcajjdijjcpkaaP6
/- The method grown of a stamp at work, of whatever stamp. -/
namespace Go.Proofs.Ytmcajjdijjcpkaa
open Go.RowKit
open Idn (ID)

def ndF (i M : Nat) (n : Int) : Facts.Fact := ([i], fun vs w => ∃ g, vs = [TV n (some ⟨g, 0, none⟩) 2 2] ∧ M ≤ g ∧ Tat w g 0 0 none 0 0 ∧ Tat w g 2 0 none 0 0)
theorem ndF_get {i M : Nat} {n : Int} {x : Nat → Value} {w : World} (h : Facts.holds (ndF i M n) x w) : ∃ g, x i = TV n (some ⟨g, 0, none⟩) 2 2 ∧ M ≤ g ∧ Tat w g 0 0 none 0 0 ∧ Tat w g 2 0 none 0 0 := by simpa [Facts.holds, ndF] using h
theorem ndF_stays (i M : Nat) (n : Int) : staysF (ndF i M n) := fun _ _ _ ⟨g, e, hN, t0, t1⟩ hb => ⟨g, e, hN, t0.later hb, t1.later hb⟩
theorem setCells_other {w : World} {b k : Nat} (h : k ≠ b) (o : Nat) (u v : Value) : (w.setCells b o [u, v]).heap[k]? = w.heap[k]? := by
  unfold World.setCells World.setCells World.setCells
  rw [Below.heap_setCell _ _ _ _ h, Below.heap_setCell _ _ _ _ h]
theorem there_rw {w : World} {q : Nat} {t : TypeId} {cur : Array Value} (h : Rw w q t cur) (o m : Nat) (ho : o + m ≤ cur.size) : w.there q o m := fun j hj => by
  constructor
  · rw [h.cell, Array.getElem?_eq_getElem (by omega)]
    rfl
  · exact rw_frozen h _

set_option maxHeartbeats 8000000 in
set_option maxRecDepth 100000 in
theorem grown_leaf (n : Int) (Z : Gw) (g o c : Nat) (pe : Option Addr) (ce : Nat) (w : World) (hz : 0 ≤ Z.cost ∧ Z.cost ≤ 100000)
    (rG : ∀ w1 g2, Below w.heap.size w w1 → Tat w1 g2 0 0 none 0 0 → Tat w1 g2 2 0 none 0 0 → Calls Try.prog 81 #[WV 0 (some ⟨g, o, none⟩) 2 c n (some ⟨g2, 0, none⟩) 2 2] w1 (GivesG Z w1)) :
    Calls Try.prog 81 #[WV 0 (some ⟨g, o, none⟩) 2 c n pe 0 ce] w (GivesG (dear Z) w) := by
  obtain ⟨h1, h2, hbel⟩ := two_r w 60 #[.int .i64 0, .slice (some ⟨g, o, none⟩) 2 c, .int .i64 n, .slice pe 0 ce, CH] 78 #[.int .i64 0, .slice none 0 0, .int .i64 0, .int .i64 0] _ rfl
  have s0 := fun w1 => sIsAll_any 0 (some ⟨g, o, none⟩) 2 c w1
  have s1 := fun w1 => sIsLeaf_any n pe 0 ce w1
  simp only [Nat.reduceEqDiff, decide_false, Bool.false_and, decide_true] at s0 s1
  obtain ⟨zc, HC⟩ : ∃ z, Hid (Z.cost = z) := ⟨_, rfl⟩
  replace rG : ∀ w1 g2, Below w.heap.size w w1 → Tat w1 g2 0 0 none 0 0 → Tat w1 g2 2 0 none 0 0 → Calls Try.prog 81 #[WV 0 (some ⟨g, o, none⟩) 2 c n (some ⟨g2, 0, none⟩) 2 2] w1 (fun e w' => ∃ n p l c, e = .returned (GV n p l c zc Z.count) ∧ Is w' Z.ev (TV n p l c) ∧ Below w1.heap.size w1 w') := by
    rw [← HC.out]
    exact rG
  rw [HC.out] at hz
  go_enter Try.func81, Try.ntmps81
  go_wp2_with (refine load_t _ rfl rfl _ _ rfl (Wx.tat0 h1) ?_)
  refine (s0 _).mono ?_
  rintro e1 w1 ⟨rfl, hb1⟩
  replace h1 := h1.later hb1
  replace h2 := h2.later hb1
  replace hbel := below_on hbel hb1
  clear hb1
  clear s0
  go_wp2_with (refine load_t _ rfl rfl _ _ rfl (Wx.tat1 h1) ?_)
  refine (s1 _).mono ?_
  rintro e1 w2 ⟨rfl, hb1⟩
  replace h1 := h1.later hb1
  replace h2 := h2.later hb1
  replace hbel := below_on hbel hb1
  clear hb1
  clear s1
  go_wp2_with fail
  have hS : Calm.Stays (fun w' => Wx w' w.heap.size 0 (some ⟨g, o, none⟩) 2 c n pe 0 ce ∧ Gx w' (w.heap.size + 1) 0 none 0 0 0 0 ∧ Below w.heap.size w w') := fun wa wb h hb => ⟨h.1.later hb, h.2.1.later hb, below_on h.2.2 hb⟩
  have hF : Facts.Stay [eqF 0 (.pointer (some ⟨w.heap.size, 0, none⟩)), eqF 1 (.pointer (some ⟨w.heap.size, 2, none⟩)), eqF 2 (.pointer (some ⟨w.heap.size, 2, none⟩)), eqF 3 (.int .i64 n), eqF 4 (TV 0 none 0 0), eqF 5 (TV 0 none 0 0), ndF 6 (w.heap.size + 2) n, eqF 7 (.pointer (some ⟨w.heap.size, 0, none⟩)), eqF 8 (.pointer (some ⟨w.heap.size, 2, none⟩))] := stay_of (by simp only [List.forall_mem_cons]; exact ⟨eqF_stays _ _, eqF_stays _ _, eqF_stays _ _, eqF_stays _ _, eqF_stays _ _, eqF_stays _ _, ndF_stays _ _ _, eqF_stays _ _, eqF_stays _ _, fun _ h => by cases h⟩)
  refine Facts.regionTail (by kernel_rfl) (by kernel_rfl) 9 (by decide) (by kernel_rfl) (fun w' => Wx w' w.heap.size 0 (some ⟨g, o, none⟩) 2 c n pe 0 ce ∧ Gx w' (w.heap.size + 1) 0 none 0 0 0 0 ∧ Below w.heap.size w w') (fun x => { tmps := #[WV 0 (some { block := g, off := o }) 2 c n pe 0 ce, Value.pointer (some { block := w.heap.size, off := 0 }), Value.pointer (some { block := w.heap.size + 1, off := 0 }), undef, undef, undef, Value.bool false, Value.pointer (some { block := w.heap.size, off := 0 }), Value.pointer (some { block := w.heap.size, off := 0 }), TV 0 (some { block := g, off := o }) 2 c, Value.bool false, undef, undef, undef, undef, undef, undef, undef, undef, undef, undef, undef, undef, Value.bool true, Value.pointer (some { block := w.heap.size, off := 0 }), Value.pointer (some { block := w.heap.size, off := 2 }), TV n pe 0 ce, Value.bool true, x 0, x 1, x 2, x 3, x 4, x 5, x 6, x 7, x 8, undef, undef, undef, undef, undef, undef, undef, undef, undef, undef, undef, undef, undef, undef, undef, undef, undef, undef, undef, undef, undef, undef, undef, undef, undef, undef, undef, undef, undef, undef, undef, undef, undef, undef, undef, undef, undef, undef], defers := [] }) [eqF 0 (.pointer (some ⟨w.heap.size, 0, none⟩)), eqF 1 (.pointer (some ⟨w.heap.size, 2, none⟩)), eqF 2 (.pointer (some ⟨w.heap.size, 2, none⟩)), eqF 3 (.int .i64 n), eqF 4 (TV 0 none 0 0), eqF 5 (TV 0 none 0 0), ndF 6 (w.heap.size + 2) n, eqF 7 (.pointer (some ⟨w.heap.size, 0, none⟩)), eqF 8 (.pointer (some ⟨w.heap.size, 2, none⟩))] _ rfl rfl (by kernel_rfl) (fun _ => undef) rfl ⟨h1, h2, hbel.drew⟩ ⟨?_, ?_, ?_, ?_, ?_, ?_, ?_, ?_, ?_, ?_, trivial⟩ ?_
  · exact fun _ => Facts.pure hS hF (fun _ _ => rfl) rfl (fun x wv hSw hd => by
      go_simp)
  · exact fun _ => Facts.pure hS hF (fun _ _ => rfl) rfl (fun x wv hSw hd => by
      have d0 := eqF_get (hd ⟨0, .data⟩ (by simp) rfl _ rfl)
      simp only [d0]
      go_simp)
  · exact fun _ => Facts.pure hS hF (fun _ _ => rfl) rfl (fun x wv hSw hd => by
      have d1 := eqF_get (hd ⟨1, .data⟩ (by simp) rfl _ rfl)
      simp only [d1]
      go_simp)
  · exact fun _ => Facts.pure hS hF (fun _ _ => rfl) rfl (fun x wv hSw hd => by
      have d2 := eqF_get (hd ⟨2, .data⟩ (by simp) rfl _ rfl)
      have gc := Rw.cell hSw.1 2
      have gd : wv.cell? ⟨w.heap.size, 2, none⟩ = some (.int .i64 n) := by simpa using gc
      simp only [d2]
      go_simp)
  · refine fun _ => Facts.call1V hS hF (fun _ _ => rfl) rfl (by kernel_rfl) rfl (fun x wv hSw hd => ?_)
    exact sLeaf_any 0 wv
  · refine fun _ => Facts.call1V hS hF (fun _ _ => rfl) rfl (by kernel_rfl) rfl (fun x wv hSw hd => ?_)
    exact sLeaf_any 0 wv
  · refine fun _ => Facts.call3F hS hF (fun _ _ => rfl) rfl (by kernel_rfl) rfl (fun x wv hSw hd => ?_)
    have d3 := eqF_get (hd ⟨3, .data⟩ (by simp) rfl _ rfl)
    have d4 := eqF_get (hd ⟨4, .data⟩ (by simp) rfl _ rfl)
    have d5 := eqF_get (hd ⟨5, .data⟩ (by simp) rfl _ rfl)
    have hc := sNode_new n 0 none 0 0 0 none 0 0 wv
    rw [← d3] at hc
    have e4 : ∀ v, Value.int .i64 v = x 3 → True := fun _ _ => trivial
    rw [d4, d5] at *
    exact hc.mono fun _ _ ⟨g, hg, he, t0, t1, hb⟩ => ⟨_, he, hb, g, by simp [Facts.put, ndF], by have := Rw.lt hSw.2.1; omega, t0, t1⟩
  · exact fun _ => Facts.pure hS hF (fun _ _ => rfl) rfl (fun x wv hSw hd => by
      go_simp)
  · exact fun _ => Facts.pure hS hF (fun _ _ => rfl) rfl (fun x wv hSw hd => by
      have d7 := eqF_get (hd ⟨7, .data⟩ (by simp) rfl _ rfl)
      simp only [d7]
      go_simp)
  · exact fun h => absurd h (by decide)
  rintro x w9 ⟨h1, h2, hbel⟩ hf
  have e0 := eqF_get (hf 0 _ rfl)
  have e1 := eqF_get (hf 1 _ rfl)
  have e2 := eqF_get (hf 2 _ rfl)
  have e3 := eqF_get (hf 3 _ rfl)
  have e4 := eqF_get (hf 4 _ rfl)
  have e5 := eqF_get (hf 5 _ rfl)
  obtain ⟨g2, e6, hg2, v0, v1⟩ := ndF_get (hf 6 _ rfl)
  have e7 := eqF_get (hf 7 _ rfl)
  have e8 := eqF_get (hf 8 _ rfl)
  clear hF hS hf
  simp only [e0, e1, e2, e3, e4, e5, e6, e7, e8]
  clear e0 e1 e2 e3 e4 e5 e6 e7 e8
  refine wp_store_mid 24 _ _ rfl w.heap.size 2 #[.int .i64 n, .slice (some ⟨g2, 0, none⟩) 2 2] rfl rfl (there_rw h1 2 2 (by simp)) size24 (by simp [Value.oneCell']) ?_
  have hb2 := h2.lt
  replace h1 := wx_event h1 n (some ⟨g2, 0, none⟩) 2 2
  replace h2 : Rw _ _ _ _ := (setCells_other (w := w9) (b := w.heap.size) (k := w.heap.size + 1) (by omega) 2 (.int .i64 n) (.slice (some ⟨g2, 0, none⟩) 2 2)).trans h2
  have eg := setCells_other (w := w9) (b := w.heap.size) (k := g2) (by omega) 2 (.int .i64 n) (.slice (some ⟨g2, 0, none⟩) 2 2)
  replace v0 := tat_same v0 eg
  replace v1 := tat_same v1 eg
  replace hbel := below_put hbel (q := w.heap.size) (o := 2) (by omega) n (some ⟨g2, 0, none⟩) 2 2
  show Facts.tailWp _ _ _ _ (w9.setCells w.heap.size 2 [.int .i64 n, .slice (some ⟨g2, 0, none⟩) 2 2])
  generalize w9.setCells w.heap.size 2 [.int .i64 n, .slice (some ⟨g2, 0, none⟩) 2 2] = wa at *
  clear eg hb2
  refine Facts.tailWp_nil ?_
  go_wp2_with (refine load_w _ rfl rfl _ rfl h1 ?_)
  refine (rG _ g2 hbel v0 v1).mono ?_
  rintro e1 w10 ⟨nk, pk, lk, ck, rfl, iK, hb1⟩
  replace h2 := Rw.later h2 hb1
  replace hbel := below_on hbel hb1
  clear hb1 rG v0 v1 h1
  have m5 := rw_new w10 78 #[.int .i64 0, .slice none 0 0, .int .i64 0, .int .i64 0]
  have b5 : Gx _ _ nk pk lk ck zc Z.count := m5.row #[.int .i64 nk, .slice pk lk ck, .int .i64 zc, .int .i64 Z.count]
  have hb1 : Below w10.heap.size w10 ((w10.alloc (.cells #[.int .i64 0, .slice none 0 0, .int .i64 0, .int .i64 0] 78)).setRow w10.heap.size #[.int .i64 nk, .slice pk lk ck, .int .i64 zc, .int .i64 Z.count]) := below_setRow ((Below.refl _ _).alloc (Nat.le_refl _) _) (Nat.le_refl _) _
  generalize hw : (w10.alloc (.cells #[.int .i64 0, .slice none 0 0, .int .i64 0, .int .i64 0] 78)).setRow w10.heap.size #[.int .i64 nk, .slice pk lk ck, .int .i64 zc, .int .i64 Z.count] = v at b5 hb1
  have hlt := h2.lt
  replace h2 := Rw.later h2 hb1
  replace iK := iK.later hb1
  replace hbel := below_on hbel hb1
  clear hb1
  have hc5 := b5.cell 2
  simp at hc5
  have hf5 := rw_frozen b5 2
  have b6 := gx_cost b5 (zc + 1000)
  have i6 := iK.growCell b5 2 (.int .i64 (zc + 1000))
  have h6 : Gx (v.setCell ⟨w10.heap.size, 2, none⟩ (.int .i64 (zc + 1000))) (w.heap.size + 1) 0 none 0 0 0 0 := (Below.heap_setCell v ⟨w10.heap.size, 2, none⟩ (.int .i64 (zc + 1000)) (w.heap.size + 1) (show _ ≠ w10.heap.size by omega)).trans h2
  have hbel6 : Below w.heap.size w (v.setCell ⟨w10.heap.size, 2, none⟩ (.int .i64 (zc + 1000))) := hbel.setCell (by show w.heap.size ≤ w10.heap.size; omega) _
  generalize hw6 : v.setCell ⟨w10.heap.size, 2, none⟩ (.int .i64 (zc + 1000)) = v6 at b6 i6 h6 hbel6
  have R := below_setRow hbel6 (g := w.heap.size + 1) (by omega) #[.int .i64 nk, .slice pk lk ck, .int .i64 (zc + 1000), .int .i64 Z.count]
  have i7 := i6.grow h6 #[.int .i64 nk, .slice pk lk ck, .int .i64 (zc + 1000), .int .i64 Z.count]
  clear hbel6 i6 hbel iK h2 hlt
  go_wp2_with (first | rw [hw] | rw [hw6] | refine store_g rfl _ _ rfl _ nk pk lk ck zc Z.count rfl rfl m5 ?_ | refine load_g _ rfl rfl _ rfl b6 ?_ | refine store_g rfl _ _ rfl _ nk pk lk ck (zc + 1000) Z.count rfl rfl h6 ?_)
  exact bodyPost_ret (results_g rfl rfl (h6.row _)) rfl ⟨_, _, _, _, by rw [← HC.out]; rfl, i7, R⟩

theorem pk_eq (l r : ID) (n : Int) (a b : EV) (gl gr : Gw) : pk l r n a b gl gr = if Idn.nil l then gB n a gr else if Idn.nil r then gA n b gl else if (gA n b gl).cost < (gB n a gr).cost then gA n b gl else gB n a gr := rfl
theorem gr_bounds {i : ID} {e : EV} {k : Nat} {left : Int} (h : Gg i e k left (1001 * k) (gr i e)) (hk : k ≤ 16) (hr : rg e k left = true) (hl : left ≤ 1073741824) : (0 ≤ (gr i e).cost ∧ (gr i e).cost ≤ 100000) ∧ (0 ≤ (gr i e).count ∧ (gr i e).count ≤ 1073741825) := by
  have := h.cost
  have := h.top
  have := h.pos
  have := rg_high hr
  omega
/-- Of a node, by what grows below. -/
theorem grown_pair (l r : ID) (n : Int) (a b : EV) (k : Nat) (left : Int) (g o c g' o' c' : Nat) (m0 : Int) (q0 : Option Addr) (k0 j0 : Nat) (m1 : Int) (q1 : Option Addr) (k1 j1 : Nat) (n0 : Int) (p0 : Option Addr) (l0 c0 : Nat) (n1 : Int) (p1 : Option Addr) (l1 c1 : Nat) (w : World)
    (u0 : Tat w g o m0 q0 k0 j0) (u1 : Tat w g (o + 2) m1 q1 k1 j1) (il : Idn.Is w l (TV m0 q0 k0 j0)) (ir : Idn.Is w r (TV m1 q1 k1 j1)) (t0 : Tat w g' o' n0 p0 l0 c0) (t1 : Tat w g' (o' + 2) n1 p1 l1 c1) (ia : Is w a (TV n0 p0 l0 c0)) (ib : Is w b (TV n1 p1 l1 c1))
    (ht : Idn.tw l r = false) (hn : 0 ≤ n ∧ n ≤ 1073741824) (hk : k ≤ 16) (hl : left ≤ 1073741824) (ra : rg a k left = true) (rb : rg b k left = true) (Gl : Idn.nil l = false → Gg l a k left (1001 * k) (gr l a)) (Gr : Idn.nil r = false → Gg r b k left (1001 * k) (gr r b))
    (r0 : Idn.nil l = false → ∀ w1, Below w.heap.size w w1 → Calls Try.prog 81 #[WV m0 q0 k0 j0 n0 p0 l0 c0] w1 (GivesG (gr l a) w1)) (r1 : Idn.nil r = false → ∀ w1, Below w.heap.size w w1 → Calls Try.prog 81 #[WV m1 q1 k1 j1 n1 p1 l1 c1] w1 (GivesG (gr r b) w1)) :
    Calls Try.prog 81 #[WV 0 (some ⟨g, o, none⟩) 2 c n (some ⟨g', o', none⟩) 2 c'] w (GivesG (pk l r n a b (gr l a) (gr r b)) w) := by
  refine grown_node l r n (gA n b (gr l a)) (gB n a (gr r b)) _ g o c g' o' c' m0 q0 k0 j0 m1 q1 k1 j1 w u0 u1 il ir (fun h w1 hb => ?_) (fun h w1 hb => ?_) ht (pk_eq ..)
  · have B := gr_bounds (Gl h) hk ra hl
    exact grownIn0 b n (gr l a) g o c g' o' c' m0 q0 k0 j0 n0 p0 l0 c0 n1 p1 l1 c1 w1 (u0.later hb) (t0.later hb) (t1.later hb) (ib.later hb) (fun w2 hb2 => r0 h w2 (below_on hb hb2)) hn B.1 B.2
  · have B := gr_bounds (Gr h) hk rb hl
    exact grownIn1 a n (gr r b) g o c g' o' c' m1 q1 k1 j1 n0 p0 l0 c0 n1 p1 l1 c1 w1 (u1.later hb) (t0.later hb) (t1.later hb) (ia.later hb) (fun w2 hb2 => r1 h w2 (below_on hb hb2)) hn B.1 B.2
theorem grown_any : ∀ (i : ID) (e : EV) (k : Nat) (left : Int) (ni : Int) (pi : Option Addr) (li ci : Nat) (ne : Int) (pe : Option Addr) (le ce : Nat) (w : World), Idn.Is w i (TV ni pi li ci) → Is w e (TV ne pe le ce) → Idn.short i = true → Idn.nil i = false → Idn.depth i ≤ k → short e = true → fl i e = e → rg e k left = true → k ≤ 16 → left ≤ 1073741824 →
    Calls Try.prog 81 #[WV ni pi li ci ne pe le ce] w (GivesG (gr i e) w)
  | ⟨.inl b⟩, e, k, left, ni, pi, li, ci, ne, pe, le, ce, w, hi, he, _, hnl, _, hs, hf, hr, hk, hl => by
    cases b
    · simp [Idn.nil] at hnl
    · have e1 := (is_parts he).1
      have := rg_n hr
      have h := grown_all _ ni pi li ci ne pe le ce w hi rfl (by omega)
      rw [e1] at h ⊢
      exact h
  | ⟨.inr (l, r)⟩, ⟨n, .inl ()⟩, k, left, ni, pi, li, ci, ne, pe, le, ce, w, ⟨g, o, c, m0, q0, k0, j0, m1, q1, k1, j1, ei, u0, u1, il, ir⟩, ⟨p', c', ee⟩, hsi, _, hd, hs, hf, hr, hk, hl => by
    obtain ⟨ht, sl, sr⟩ := Idn.short_node.1 hsi
    simp only [Idn.depth] at hd
    have hn := rg_n hr
    simp only at hn
    have r0 : rg (.leaf 0) (k - 1) (left - n) = true := by simp only [rg, decide_eq_true_eq]; omega
    have R0 := fun (h : Idn.nil l = false) w1 (hb : Below w.heap.size w w1) => grown_any l (.leaf 0) (k - 1) (left - n) m0 q0 k0 j0 0 none 0 0 w1 (il.later hb) (is_leaf w1 0 none 0) sl h (by omega) rfl (fl_leaf l 0) r0 (by omega) (by omega)
    have R1 := fun (h : Idn.nil r = false) w1 (hb : Below w.heap.size w w1) => grown_any r (.leaf 0) (k - 1) (left - n) m1 q1 k1 j1 0 none 0 0 w1 (ir.later hb) (is_leaf w1 0 none 0) sr h (by omega) rfl (fl_leaf r 0) r0 (by omega) (by omega)
    have Gl := fun (h : Idn.nil l = false) => gr_good l (.leaf 0) (k - 1) (left - n) sl h (by omega) rfl r0 (fl_leaf l 0)
    have Gr := fun (h : Idn.nil r = false) => gr_good r (.leaf 0) (k - 1) (left - n) sr h (by omega) rfl r0 (fl_leaf r 0)
    simp at ei ee
    obtain ⟨rfl, rfl, rfl, rfl⟩ := ei
    obtain ⟨rfl, rfl, rfl, rfl⟩ := ee
    refine grown_leaf ne (pk l r ne (.leaf 0) (.leaf 0) (gr l (.leaf 0)) (gr r (.leaf 0))) g o ci pe ce w ?_ (fun w1 g2 hb v0 v1 => ?_)
    · rcases pk_cases l r ne (.leaf 0) (.leaf 0) (gr l (.leaf 0)) (gr r (.leaf 0)) with ⟨e, h⟩ | ⟨e, h⟩
      · rw [e]
        have := (Gl h).cost
        simp only [gA]
        omega
      · rw [e]
        have h' : Idn.nil r = false := by
          rcases h with h | h
          · exact h
          · exact Idn.nil_other ht h
        have := (Gr h').cost
        simp only [gB]
        omega
    · exact grown_pair l r ne (.leaf 0) (.leaf 0) (k - 1) (left - ne) g o ci g2 0 2 m0 q0 k0 j0 m1 q1 k1 j1 0 none 0 0 0 none 0 0 w1 (u0.later hb) (u1.later hb) (il.later hb) (ir.later hb) v0 v1 (is_leaf w1 0 none 0) (is_leaf w1 0 none 0) ht (by omega) (by omega) (by omega) r0 r0 Gl Gr (fun h w2 hb2 => R0 h w2 (below_on hb hb2)) (fun h w2 hb2 => R1 h w2 (below_on hb hb2))
  | ⟨.inr (l, r)⟩, ⟨n, .inr (a, b)⟩, k, left, ni, pi, li, ci, ne, pe, le, ce, w, ⟨g, o, c, m0, q0, k0, j0, m1, q1, k1, j1, ei, u0, u1, il, ir⟩, ⟨g', o', c', n0, p0, l0, c0, n1, p1, l1, c1, ee, t0, t1, ia, ib⟩, hsi, _, hd, hs, hf, hr, hk, hl => by
    obtain ⟨ht, sl, sr⟩ := Idn.short_node.1 hsi
    simp only [Idn.depth] at hd
    obtain ⟨_, _, s0, s1⟩ := short_kids hs
    obtain ⟨⟨f0, f1⟩, _, _⟩ := fl_kids ht hs hf
    obtain ⟨hn, hk0, ra, rb⟩ := rg_kids hr
    have R0 := fun (h : Idn.nil l = false) w1 (hb : Below w.heap.size w w1) => grown_any l a (k - 1) (left - n) m0 q0 k0 j0 n0 p0 l0 c0 w1 (il.later hb) (ia.later hb) sl h (by omega) s0 f0 ra (by omega) (by omega)
    have R1 := fun (h : Idn.nil r = false) w1 (hb : Below w.heap.size w w1) => grown_any r b (k - 1) (left - n) m1 q1 k1 j1 n1 p1 l1 c1 w1 (ir.later hb) (ib.later hb) sr h (by omega) s1 f1 rb (by omega) (by omega)
    have Gl := fun (h : Idn.nil l = false) => gr_good l a (k - 1) (left - n) sl h (by omega) s0 ra f0
    have Gr := fun (h : Idn.nil r = false) => gr_good r b (k - 1) (left - n) sr h (by omega) s1 rb f1
    simp at ei ee
    obtain ⟨rfl, rfl, rfl, rfl⟩ := ei
    obtain ⟨rfl, rfl, rfl, rfl⟩ := ee
    exact grown_pair l r ne a b (k - 1) (left - ne) g o ci g' o' ce m0 q0 k0 j0 m1 q1 k1 j1 n0 p0 l0 c0 n1 p1 l1 c1 w u0 u1 il ir t0 t1 ia ib ht (by omega) (by omega) (by omega) ra rb Gl Gr R0 R1
end Go.Proofs.Ytmcajjdijjcpkaa
/- The function same of package stamp, and slices.EqualFunc by it. -/
namespace Go.Proofs.Ytmcajjdijjcpkaa
open Go.RowKit

abbrev SAME : Value := .func (.func 80) #[] #[]
theorem two_news (w : World) (n : Int) (p : Option Addr) (l c : Nat) : ∀ w0, w0 = (w.alloc (.cells #[.int .i64 0, .slice none 0 0] 24)).setRow w.heap.size #[.int .i64 n, .slice p l c] → Bx w0 w.heap.size n p l c ∧ Below w.heap.size w w0 := by
  rintro _ rfl
  exact ⟨new_box w n p l c, new_below w n p l c⟩
set_option maxHeartbeats 4000000 in
set_option maxRecDepth 100000 in
theorem eqf_two (b0 b1 : Bool) (g o c g' o' c' : Nat) (n0 : Int) (p0 : Option Addr) (l0 c0 : Nat) (n1 : Int) (p1 : Option Addr) (l1 c1 : Nat) (n2 : Int) (p2 : Option Addr) (l2 c2 : Nat) (n3 : Int) (p3 : Option Addr) (l3 c3 : Nat) (w : World)
    (t0 : Tat w g o n0 p0 l0 c0) (t1 : Tat w g (o + 2) n1 p1 l1 c1) (t2 : Tat w g' o' n2 p2 l2 c2) (t3 : Tat w g' (o' + 2) n3 p3 l3 c3)
    (r0 : ∀ w1, Below w.heap.size w w1 → Calls Try.prog 80 #[TV n0 p0 l0 c0, TV n2 p2 l2 c2] w1 (Tells (.bool b0) w1))
    (r1 : ∀ w1, Below w.heap.size w w1 → Calls Try.prog 80 #[TV n1 p1 l1 c1, TV n3 p3 l3 c3] w1 (Tells (.bool b1) w1)) :
    Calls Try.prog 105 #[.slice (some ⟨g, o, none⟩) 2 c, .slice (some ⟨g', o', none⟩) 2 c', SAME] w (Tells (.bool (b0 && b1)) w) := by
  obtain ⟨z, HZ⟩ : ∃ z, Hid ((b0 && b1) = z) := ⟨_, rfl⟩
  rw [HZ.out]
  have hbel := Below.refl w.heap.size w
  go_enter Try.func105, Try.ntmps105
  go_wp2
  go_loopw [17] (fun vi wr => ∃ k : Nat, vi = .int .i64 k ∧ k ≤ 2 ∧ Hid (1 ≤ k → b0 = true) ∧ Hid (2 ≤ k → b1 = true) ∧ Below w.heap.size w wr) (fun vi _ => 2 - (intOf vi).toNat)
  case atStart => exact ⟨0, rfl, by omega, (show 1 ≤ 0 → _ from fun h => by omega), (show 2 ≤ 0 → _ from fun h => by omega), hbel⟩
  case round =>
    clear hbel
    obtain ⟨k, rfl, hk, H1, H2, hbel⟩ := hrel
    by_cases hlt : k < 2
    · obtain ⟨n, p, l, cc, n', p', l', cc', b, ta, tb, rr, HS⟩ : ∃ n p l cc n' p' l' cc' b, Tat w g (o + k * 2) n p l cc ∧ Tat w g' (o' + k * 2) n' p' l' cc' ∧ (∀ w1, Below w.heap.size w w1 → Calls Try.prog 80 #[TV n p l cc, TV n' p' l' cc'] w1 (Tells (.bool b) w1)) ∧ Hid ((k = 0 ∧ b = b0) ∨ (k = 1 ∧ b = b1)) := by
        match k, hlt with
        | 0, _ => exact ⟨n0, p0, l0, c0, n2, p2, l2, c2, b0, by simpa using t0, by simpa using t2, r0, .inl ⟨rfl, rfl⟩⟩
        | 1, _ => exact ⟨n1, p1, l1, c1, n3, p3, l3, c3, b1, by simpa using t1, by simpa using t3, r1, .inr ⟨rfl, rfl⟩⟩
      replace ta := ta.later hbel
      replace tb := tb.later hbel
      have hi1 : (k : Int) < 2 := by omega
      clear t0 t1 t2 t3 r0 r1
      have m1 := bx_new wr 0 none 0 0
      obtain ⟨x1, hb1⟩ := two_news wr n p l cc _ rfl
      generalize hw1 : (wr.alloc (.cells #[.int .i64 0, .slice none 0 0] 24)).setRow wr.heap.size #[.int .i64 n, .slice p l cc] = v1 at x1 hb1
      replace tb := tb.later hb1
      replace hbel := below_on hbel hb1
      have m2 := bx_new v1 0 none 0 0
      obtain ⟨x2, hb2⟩ := two_news v1 n' p' l' cc' _ rfl
      generalize hw2 : (v1.alloc (.cells #[.int .i64 0, .slice none 0 0] 24)).setRow v1.heap.size #[.int .i64 n', .slice p' l' cc'] = v2 at x2 hb2
      replace x1 := x1.later hb2
      replace hbel := below_on hbel hb2
      clear hb1 hb2
      go_wp2_with (first | rw [hw1] | rw [hw2] | refine load_t _ rfl rfl _ _ rfl ta ?_ | refine load_t _ rfl rfl _ _ rfl tb ?_ | refine store_t rfl _ _ rfl _ n p l cc rfl rfl m1 ?_ | refine store_t rfl _ _ rfl _ n' p' l' cc' rfl rfl m2 ?_ | refine load_t _ rfl rfl _ _ rfl x1.tat ?_ | refine load_t _ rfl rfl _ _ rfl x2.tat ?_)
      refine (rr _ hbel).mono ?_
      rintro e w3 ⟨rfl, hb1⟩
      replace hbel := below_on hbel hb1
      clear hb1 rr ta tb m1 m2 x1 x2 hw1 hw2
      cases b
      · have HF : Hid (z = false) := by
          show _ = _
          rw [← HZ.out]
          rcases HS.out with ⟨_, rfl⟩ | ⟨_, rfl⟩
          · rfl
          · simp
        go_wp2
        go_ret
        exact ⟨by rw [HF.out]; rfl, hbel⟩
      · have HA : Hid (1 ≤ k + 1 → b0 = true) := show _ → _ from fun _ => by
          rcases HS.out with ⟨_, rfl⟩ | ⟨h3, _⟩
          · rfl
          · exact H1.out (by omega)
        have HB : Hid (2 ≤ k + 1 → b1 = true) := show _ → _ from fun h => by
          rcases HS.out with ⟨h3, rfl⟩ | ⟨_, rfl⟩
          · omega
          · rfl
        clear H1 H2
        go_wp2
        go_roundw
        case rel => exact ⟨k + 1, by simp, by omega, HA, HB, hbel⟩
        case measure => simp [intOf]; omega
    · have hk : k = 2 := by omega
      subst hk
      have HF : Hid (z = true) := by
        show _ = _
        rw [← HZ.out, H1.out (by omega), H2.out (by omega)]
        rfl
      go_wp2
      go_ret
      exact ⟨by rw [HF.out]; rfl, hbel⟩
set_option maxHeartbeats 1000000 in
set_option maxRecDepth 100000 in
theorem eqf_none (p : Option Addr) (c : Nat) (p' : Option Addr) (c' : Nat) (w : World) : Calls Try.prog 105 #[.slice p 0 c, .slice p' 0 c', SAME] w (Tells (.bool true) w) := by
  have hbel := Below.refl w.heap.size w
  go_enter Try.func105, Try.ntmps105
  go_wp2
  go_loopw [17] (fun vi wr => vi = .int .i64 0 ∧ Below w.heap.size w wr) (fun _ _ => 0)
  case atStart => exact ⟨rfl, hbel⟩
  case round =>
    clear hbel
    obtain ⟨rfl, hbel⟩ := hrel
    go_wp2
    go_ret
    exact ⟨rfl, hbel⟩
set_option maxHeartbeats 1000000 in
set_option maxRecDepth 100000 in
theorem eqf_len (p : Option Addr) (l c : Nat) (p' : Option Addr) (l' c' : Nat) (w : World) (hne : ¬ l = l') : Calls Try.prog 105 #[.slice p l c, .slice p' l' c', SAME] w (Tells (.bool false) w) := by
  have hbel := Below.refl w.heap.size w
  have hn : ¬ (l : Int) = (l' : Int) := by omega
  go_enter Try.func105, Try.ntmps105
  go_wp2
  go_ret
  exact ⟨rfl, hbel⟩
set_option maxHeartbeats 1000000 in
set_option maxRecDepth 100000 in
theorem same_step (n : Int) (p : Option Addr) (l c : Nat) (n' : Int) (p' : Option Addr) (l' c' : Nat) (b : Bool) (w : World) (r : n = n' → ∀ w1, Below w.heap.size w w1 → Calls Try.prog 105 #[.slice p l c, .slice p' l' c', SAME] w1 (Tells (.bool b) w1)) :
    Calls Try.prog 80 #[TV n p l c, TV n' p' l' c'] w (Tells (.bool (n == n' && b)) w) := by
  obtain ⟨h1, h2, hbel⟩ := two_box w n p l c n' p' l' c' _ rfl
  have g0 := h1.cell0
  have g1 := h1.cell1
  have g2 := h2.cell0
  have g3 := h2.cell1
  by_cases hn : n = n'
  · subst hn
    replace r := r rfl
    go_enter Try.func80, Try.ntmps80
    go_wp2_with fail
    refine (r _ hbel).mono ?_
    rintro e w1 ⟨rfl, hb1⟩
    go_wp2
    go_ret
    exact ⟨by simp, below_on hbel hb1⟩
  · have he : (n == n') = false := by simpa using hn
    rw [he]
    clear r
    go_enter Try.func80, Try.ntmps80
    go_wp2
    go_ret
    exact ⟨rfl, hbel⟩
theorem sSame_any : ∀ (x y : EV) (n : Int) (p : Option Addr) (l c : Nat) (n' : Int) (p' : Option Addr) (l' c' : Nat) (w : World), Is w x (TV n p l c) → Is w y (TV n' p' l' c') → Calls Try.prog 80 #[TV n p l c, TV n' p' l' c'] w (Tells (.bool (eqb x y)) w)
  | ⟨a, .inl _⟩, ⟨b, .inl _⟩, n, p, l, c, n', p', l', c', w, ⟨q, d, e⟩, ⟨q', d', e'⟩ => by
    simp at e e'
    obtain ⟨rfl, rfl, rfl, rfl⟩ := e
    obtain ⟨rfl, rfl, rfl, rfl⟩ := e'
    have := same_step n p 0 c n' p' 0 c' true w fun _ w1 _ => eqf_none p c p' c' w1
    simpa [eqb] using this
  | ⟨a, .inl _⟩, ⟨b, .inr (x', y')⟩, n, p, l, c, n', p', l', c', w, ⟨q, d, e⟩, ⟨g', o', cc', n2, p2, l2, c2, n3, p3, l3, c3, e', t2, t3, hx', hy'⟩ => by
    simp at e e'
    obtain ⟨rfl, rfl, rfl, rfl⟩ := e
    obtain ⟨rfl, rfl, rfl, rfl⟩ := e'
    have := same_step n p 0 c n' (some ⟨g', o', none⟩) 2 c' false w fun _ w1 _ => eqf_len p 0 c _ 2 c' w1 (by omega)
    simpa [eqb] using this
  | ⟨a, .inr (x, y)⟩, ⟨b, .inl _⟩, n, p, l, c, n', p', l', c', w, ⟨g, o, cc, n0, p0, l0, c0, n1, p1, l1, c1, e, t0, t1, hx, hy⟩, ⟨q', d', e'⟩ => by
    simp at e e'
    obtain ⟨rfl, rfl, rfl, rfl⟩ := e
    obtain ⟨rfl, rfl, rfl, rfl⟩ := e'
    have := same_step n (some ⟨g, o, none⟩) 2 c n' p' 0 c' false w fun _ w1 _ => eqf_len _ 2 c p' 0 c' w1 (by omega)
    simpa [eqb] using this
  | ⟨a, .inr (x, y)⟩, ⟨b, .inr (x', y')⟩, n, p, l, c, n', p', l', c', w, ⟨g, o, cc, n0, p0, l0, c0, n1, p1, l1, c1, e, t0, t1, hx, hy⟩, ⟨g', o', cc', n2, p2, l2, c2, n3, p3, l3, c3, e', t2, t3, hx', hy'⟩ => by
    have R0 : Hid (∀ w1, Below w.heap.size w w1 → Calls Try.prog 80 #[TV n0 p0 l0 c0, TV n2 p2 l2 c2] w1 (Tells (.bool (eqb x x')) w1)) := fun w1 hb => sSame_any x x' _ _ _ _ _ _ _ _ w1 (hx.later hb) (hx'.later hb)
    have R1 : Hid (∀ w1, Below w.heap.size w w1 → Calls Try.prog 80 #[TV n1 p1 l1 c1, TV n3 p3 l3 c3] w1 (Tells (.bool (eqb y y')) w1)) := fun w1 hb => sSame_any y y' _ _ _ _ _ _ _ _ w1 (hy.later hb) (hy'.later hb)
    simp at e e'
    obtain ⟨rfl, rfl, rfl, rfl⟩ := e
    obtain ⟨rfl, rfl, rfl, rfl⟩ := e'
    have := same_step n (some ⟨g, o, none⟩) 2 c n' (some ⟨g', o', none⟩) 2 c' (eqb x x' && eqb y y') w fun _ w1 hb => eqf_two (eqb x x') (eqb y y') g o c g' o' c' n0 p0 l0 c0 n1 p1 l1 c1 n2 p2 l2 c2 n3 p3 l3 c3 w1 (t0.later hb) (t1.later hb) (t2.later hb) (t3.later hb) (fun w2 hb2 => R0.out w2 (below_on hb hb2)) (fun w2 hb2 => R1.out w2 (below_on hb hb2))
    simpa [eqb] using this
end Go.Proofs.Ytmcajjdijjcpkaa
/- The method next of a stamp at work. -/
namespace Go.Proofs.Ytmcajjdijjcpkaa
open Go.RowKit
open Idn (ID)

set_option maxHeartbeats 8000000 in
set_option maxRecDepth 100000 in
theorem next_any (i : ID) (e : EV) (ni : Int) (pi : Option Addr) (li ci : Nat) (ne : Int) (pe : Option Addr) (le ce : Nat) (w : World) (hi : Idn.Is w i (TV ni pi li ci)) (he : Is w e (TV ne pe le ce)) (ki : Idn.ok i = true) (hn : Idn.nil i = false) (ke : ok e = true) :
    Calls Try.prog 44 #[WV ni pi li ci ne pe le ce] w (GivesE (evX i e) (evE i e) w) := by
  obtain ⟨d, s⟩ := Idn.ok_parts ki
  obtain ⟨r, t⟩ := ok_parts ke
  obtain ⟨h1, h2, hbel⟩ := two_r w 60 #[.int .i64 ni, .slice pi li ci, .int .i64 ne, .slice pe le ce, CH] 24 #[.int .i64 0, .slice none 0 0] _ rfl
  have rF := fun w1 (hb : Below w.heap.size w w1) => filled_any i e 16 1073741824 ni pi li ci ne pe le ce w1 (hi.later hb) (he.later hb) t r (by omega) (by omega)
  have rG := fun (hq : eqb (fl i e) e = true) w1 (hb : Below w.heap.size w w1) => grown_any i e 16 1073741824 ni pi li ci ne pe le ce w1 (hi.later hb) (he.later hb) s hn d t (eq_of_eqb hq) r (by omega) (by omega)
  have HK : Hid (eqb (fl i e) e = true → ¬ 1073741824 < (gr i e).count → ok (gr i e).ev = true) := show _ → _ → _ from fun hq hc => by
    have hf := eq_of_eqb hq
    have g := gr_good i e 16 _ s hn d t r hf
    have sh := gr_short i e s hn t hf
    unfold ok
    rw [g.fits (by omega), sh.1]
    rfl
  have HE : Hid (Is w e (TV ne pe le ce)) := he
  obtain ⟨X, HX⟩ : ∃ X, Hid (evX i e = X) := ⟨_, rfl⟩
  obtain ⟨E, HY⟩ : ∃ E, Hid (evE i e = E) := ⟨_, rfl⟩
  rw [HX.out, HY.out]
  unfold evX at HX
  unfold evE at HY
  generalize fl i e = F at rF rG HK HX HY
  generalize gr i e = G at rG HK HX HY
  clear hi he ki hn ke d s r t
  go_enter Try.func44, Try.ntmps44
  go_wp2_with (refine load_w _ rfl rfl _ rfl h1 ?_)
  refine (rF _ hbel).mono ?_
  rintro e1 w1 ⟨nF, pF, lF, cF, rfl, iF, hb1⟩
  replace h1 := h1.later hb1
  replace h2 := h2.later hb1
  replace hbel := below_on hbel hb1
  clear hb1 rF
  have m0 := bx_new w1 0 none 0 0
  have bF := new_box w1 nF pF lF cF
  have hb1 := new_below w1 nF pF lF cF
  generalize hw : (w1.alloc (.cells #[.int .i64 0, .slice none 0 0] 24)).setRow w1.heap.size #[.int .i64 nF, .slice pF lF cF] = v at bF hb1
  replace h1 := h1.later hb1
  replace h2 := h2.later hb1
  replace iF := iF.later hb1
  replace hbel := below_on hbel hb1
  clear hb1
  go_wp2_with (first | rw [hw] | refine store_t rfl _ _ rfl _ nF pF lF cF rfl rfl m0 ?_ | refine load_t _ rfl rfl _ _ rfl bF.tat ?_ | refine load_t _ rfl rfl _ _ rfl (Wx.tat1 h1) ?_)
  clear m0 hw
  refine (sSame_any F e nF pF lF cF ne pe le ce _ iF (HE.out.later hbel)).mono ?_
  rintro e1 w2 ⟨rfl, hb1⟩
  replace h1 := h1.later hb1
  replace h2 := h2.later hb1
  replace bF := bF.later hb1
  replace iF := iF.later hb1
  replace hbel := below_on hbel hb1
  clear hb1 HE
  generalize w1.heap.size = q at bF ⊢
  generalize eqb F e = b at rG HK HX HY ⊢
  cases b
  case' false =>
    simp only [Bool.false_eq_true, if_false] at HX HY
    obtain rfl := HX.out
    obtain rfl := HY.out
    have R := below_setRow hbel (g := w.heap.size + 1) (by omega) #[.int .i64 nF, .slice pF lF cF]
    clear rG HK HX HY h1
    go_wp2_with (first | refine load_t _ rfl rfl _ _ rfl bF.tat ?_ | refine store_t rfl _ _ rfl _ nF pF lF cF rfl rfl h2 ?_)
    exact bodyPost_ret (results_te rfl rfl (Bx.row h2 _ _ _ _)) rfl ⟨_, _, _, _, rfl, iF.box h2 _, R⟩
  case' true =>
    simp only [if_true] at HX HY
    replace rG := rG rfl
    clear bF iF
    obtain ⟨zm, HM⟩ : ∃ z, Hid (G.count = z) := ⟨_, rfl⟩
    replace rG : ∀ w1, Below w.heap.size w w1 → Calls Try.prog 81 #[WV ni pi li ci ne pe le ce] w1 (fun e w' => ∃ n p l c, e = .returned (GV n p l c G.cost zm) ∧ Is w' G.ev (TV n p l c) ∧ Below w1.heap.size w1 w') := by
      rw [← HM.out]
      exact rG
    rw [HM.out] at HX HY HK
    go_wp2_with (refine load_w _ rfl rfl _ rfl h1 ?_)
    refine (rG _ hbel).mono ?_
    rintro e1 w3 ⟨nk, pk, lk, ck, rfl, iK, hb1⟩
    replace h2 := h2.later hb1
    replace hbel := below_on hbel hb1
    clear hb1 rG h1
    have m5 := rw_new w3 78 #[.int .i64 0, .slice none 0 0, .int .i64 0, .int .i64 0]
    have b5 : Gx _ _ nk pk lk ck G.cost zm := m5.row #[.int .i64 nk, .slice pk lk ck, .int .i64 G.cost, .int .i64 zm]
    have hb1 : Below w3.heap.size w3 ((w3.alloc (.cells #[.int .i64 0, .slice none 0 0, .int .i64 0, .int .i64 0] 78)).setRow w3.heap.size #[.int .i64 nk, .slice pk lk ck, .int .i64 G.cost, .int .i64 zm]) := below_setRow ((Below.refl _ _).alloc (Nat.le_refl _) _) (Nat.le_refl _) _
    generalize hw : (w3.alloc (.cells #[.int .i64 0, .slice none 0 0, .int .i64 0, .int .i64 0] 78)).setRow w3.heap.size #[.int .i64 nk, .slice pk lk ck, .int .i64 G.cost, .int .i64 zm] = v3 at b5 hb1
    replace h2 := h2.later hb1
    replace iK := iK.later hb1
    replace hbel := below_on hbel hb1
    clear hb1
    have hc5 := b5.cell 3
    simp at hc5
    by_cases hc : 1073741824 < zm
    · rw [if_pos hc] at HX HY
      obtain rfl := HX.out
      obtain rfl := HY.out
      have R := below_setRow hbel (g := w.heap.size + 1) (by omega) #[.int .i64 0, .slice none 0 0]
      clear HX HY HK iK HM
      go_wp2_with (first | rw [hw] | refine store_g rfl _ _ rfl _ nk pk lk ck G.cost zm rfl rfl m5 ?_ | refine store_t rfl _ _ rfl _ 0 none 0 0 rfl rfl h2 ?_)
      exact bodyPost_ret (results_te rfl rfl (Bx.row h2 _ _ _ _)) rfl ⟨_, _, _, _, rfl, is_leaf _ 0 _ _, R⟩
    · rw [if_neg hc] at HX HY
      obtain rfl := HX.out
      obtain rfl := HY.out
      have kG : ok G.ev = true := HK.out (by first | rfl | trivial) (by omega)
      have rK := check_any G.ev nk pk lk ck v3 iK (ok_parts kG).1
      rw [(ok_parts kG).2] at rK
      clear HX HY HK HM kG
      go_wp2_with (first | rw [hw] | refine store_g rfl _ _ rfl _ nk pk lk ck G.cost zm rfl rfl m5 ?_ | refine load_t _ rfl rfl _ _ rfl (Gx.tat0 b5) ?_)
      clear m5 hw
      refine rK.mono ?_
      rintro e1 w4 ⟨rfl, hb1⟩
      replace h2 := h2.later hb1
      replace b5 := b5.later hb1
      replace iK := iK.later hb1
      replace hbel := below_on hbel hb1
      clear hb1 hc5
      have R := below_setRow hbel (g := w.heap.size + 1) (by omega) #[.int .i64 nk, .slice pk lk ck]
      go_wp2_with (first | refine load_t _ rfl rfl _ _ rfl (Gx.tat0 b5) ?_ | refine store_t rfl _ _ rfl _ nk pk lk ck rfl rfl h2 ?_)
      exact bodyPost_ret (results_te rfl rfl (Bx.row h2 _ _ _ _)) rfl ⟨_, _, _, _, rfl, iK.box h2 _, R⟩
end Go.Proofs.Ytmcajjdijjcpkaa
/- Calls of three and four arguments within a region that draws its order, whose contracts ask for S. Nothing of one program. -/
namespace Go.Proofs.Ytmcajjdijjcpkaa.Calm

section
variable {P : Program} {ops : Array Oper} {S : World → Prop} {K : Act → Prop}
theorem call3s {o : Oper} {l : List Oper} {a : Act} {r x y z : Value} {f : FuncId} {ts : Array TypeId} {u v t : Operand} (hw : Region.wanted o (yielded ops a.tmps) = true)
    (ho : o.op = .call { callee := .value (.func f), args := #[u, v, t], argTypes := ts }) (hu : a.eval u = x) (hv : a.eval v = y) (ht : a.eval t = z) (hf : enters P f = true) (hs : Stays S)
    (hc : ∀ w, S w → Calls P f #[x, y, z] w fun e w' => e = .returned r ∧ RowKit.Below w.heap.size w w')
    (h : calmList P ops S K l (a.put o.dst r)) : calmList P ops S K (o :: l) a :=
  call (f := f) (args := #[x, y, z]) hw (fun w => by
    have e : ∀ args, (callFunc f args).run P w = .ok (.enter f args) w := fun args => enters_run hf args w
    subst hu
    subst hv
    subst ht
    unfold execOp
    simp [ho, go_sem, Act.eval, e]) (fun w hS => (hc w hS).mono fun e w' he => ⟨he.1, hs w w' hS he.2⟩) h
theorem call4s {o : Oper} {l : List Oper} {a : Act} {r x y z q : Value} {f : FuncId} {ts : Array TypeId} {u v t s : Operand} (hw : Region.wanted o (yielded ops a.tmps) = true)
    (ho : o.op = .call { callee := .value (.func f), args := #[u, v, t, s], argTypes := ts }) (hu : a.eval u = x) (hv : a.eval v = y) (ht : a.eval t = z) (hq : a.eval s = q) (hf : enters P f = true) (hs : Stays S)
    (hc : ∀ w, S w → Calls P f #[x, y, z, q] w fun e w' => e = .returned r ∧ RowKit.Below w.heap.size w w')
    (h : calmList P ops S K l (a.put o.dst r)) : calmList P ops S K (o :: l) a :=
  call (f := f) (args := #[x, y, z, q]) hw (fun w => by
    have e : ∀ args, (callFunc f args).run P w = .ok (.enter f args) w := fun args => enters_run hf args w
    subst hu
    subst hv
    subst ht
    subst hq
    unfold execOp
    simp [ho, go_sem, Act.eval, e]) (fun w hS => (hc w hS).mono fun e w' he => ⟨he.1, hs w w' hS he.2⟩) h
end
end Go.Proofs.Ytmcajjdijjcpkaa.Calm
