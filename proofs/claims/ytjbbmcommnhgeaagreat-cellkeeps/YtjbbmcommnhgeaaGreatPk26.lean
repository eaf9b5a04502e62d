import Derived.Test.YtjbbmcommnhgeaaGreatPk25
set_option maxRecDepth 100000
set_option maxHeartbeats 8000000
namespace Go.Proofs.YtjbbmcommnhgeaaGreat
open Go.RowKit
def Rn (a b : Nat) (i j : Nat) (u v : Value) : Prop := a ≤ i → i ≤ b → a ≤ j → j ≤ b → u ≠ v
theorem rn_symm (a b : Nat) : ∀ i j u v, Rn a b i j u v → Rn a b j i v u := fun _ _ _ _ h h1 h2 h3 h4 => (h h3 h4 h1 h2).symm
section
variable {Q : Exit → Act → World → Prop} {S : World → Prop} {md : Region.Mode} {A : (Nat → Value) → Act} {F : List Facts.Fact} {i : Nat} {o : Oper}
theorem Facts.allocR (hS : Calm.Stays S) (hF : Facts.Stay F) (hA : ∀ x u, (A x).put o.dst u = A (Facts.put x i u)) (t : TypeId) {M : Nat} {cs : Array Value} (hf : F[i]? = some (pF i (boxP M t cs))) (hN : ∀ w, S w → M ≤ w.heap.size)
  (h : ∀ x w, (execOp (A x).eval o).run Tryz.prog w = .ok (.value (.pointer (some ⟨w.heap.size, 0, none⟩))) (w.alloc (.cells cs t))) {a b : Nat} (hab : ∀ j f, F[j]? = some f → a ≤ j → j ≤ b → ∃ M' t' cs', f = pF j (boxP M' t' cs')) : Facts.StepR Tryz.prog md Q S A F (Rn a b) i o := fun x w hSw _ => by
 unfold Oper.wp
 rw [h x w]
 have hb := bel_alloc (Below.refl w.heap.size w) (.cells cs t)
 refine ⟨_, hA x _, hS _ _ hSw hb, fun f hf' => ?_, fun j f _ hj hh => hF j f hj _ _ _ hh hb, fun j f _ hj hh => fun _ _ h3 h4 => ?_⟩
 ·rw [hf] at hf'
  obtain rfl := Option.some.inj hf'
  exact pF_put ⟨_, rfl, hN w hSw, rw_new w t cs⟩
 ·obtain ⟨M', t', cs', rfl⟩ := hab j f hj h3 h4
  obtain ⟨q, e, _, hq⟩ := pF_get hh
  rw [e]
  intro h5
  simp only [Value.pointer.injEq, Option.some.injEq, Addr.mk.injEq] at h5
  have := hq.lt
  omega
end
theorem field46_0 (k n : Int) (u : Value) (w : World) : (Instr.field 46 (VN k n u) 0).run Tryz.prog w = .ok (.int .i64 k) w := by
 simp [Instr.field, go_sem, asAgg]
theorem keeps_law (x : X) (va vw vm ve : Value) (q u : Int) (v : List Int) (t : Int) (sl : Value) (l : List O) (i : Int) (o : O) (c : List Int) (w : World) (hv : v.length = 13) (hc : c.length = 13) (ho : OHas w sl l) (h : Four w x va vw vm ve) (hl : Lk x) : Calls Tryz.prog 5 #[CV x.k x.b va vw vm ve, TxV q u v t sl, .int .i64 i, o.val, V c] w (Tells (.bool true) w) := by
 obtain ⟨w0, hW⟩ : ∃ w0, (((w.alloc (.cells (cvc x.k x.b va vw vm ve) 27)).alloc (.cells (txc q u v t sl).toArray 34)).alloc (.cells o.cells.toArray 52)).alloc (.cells (vals c).toArray 31) = w0 := ⟨_, rfl⟩
 obtain ⟨R0, R1, R2, R3, hb⟩ := rows4 w _ _ _ _ _ _ _ _ hW
 have zt := size_tx (p := q) (s := u) (t := t) (sl := sl) hv
 replace h := h.later hb
 replace ho := ho.later hb
 go_enter Tryz.func5, Tryz.ntmps5
 go_wp2_with (first | rw [hW] | refine load_r 27 _ rfl rfl _ rfl R0 Tryz.underlying27 rfl size27 ?_)
 clear hW
 refine (few_any x va vw vm ve w0 h hl).mono ?_
 rintro e w1 ⟨y, rfl, hy, hb1⟩
 replace R0 := R0.later hb1
 replace R1 := R1.later hb1
 replace R2 := R2.later hb1
 replace R3 := R3.later hb1
 replace h := h.later hb1
 replace ho := ho.later hb1
 replace hb := below_on hb hb1
 clear hb1
 cases y
 ·clear hy
  go_wp2_with fail
  refine (heads_any _).mono ?_
  rintro e w9 ⟨rfl, hb9⟩
  go_wp2_with fail
  go_ret
  exact ⟨rfl, below_on hb hb9⟩
 ·have FW : Hid (Fw x) := hy rfl
  have hs := FW.out.sm
  clear hy
  go_wp2_with (refine load_r 27 _ rfl rfl _ rfl R0 Tryz.underlying27 rfl size27 ?_)
  refine (refCheck_c x va vw vm ve w1 h hs).mono ?_
  rintro e w2 ⟨rfl, hb1⟩
  replace R0 := R0.later hb1
  replace R1 := R1.later hb1
  replace R2 := R2.later hb1
  replace R3 := R3.later hb1
  replace h := h.later hb1
  replace ho := ho.later hb1
  replace hb := below_on hb hb1
  clear hb1
  obtain ⟨y, HY⟩ := hid_ex (ckc x)
  rw [HY.out]
  cases y
  ·go_wp2_with fail
   refine (heads_any _).mono ?_
   rintro e w9 ⟨rfl, hb9⟩
   go_wp2_with fail
   go_ret
   exact ⟨rfl, below_on hb hb9⟩
  ·go_wp2_with (refine load_r 34 _ rfl rfl _ rfl R1 Tryz.underlying34 rfl zt ?_)
   refine (small_any q u v t sl l w2 hv ho).mono ?_
   rintro e w3 ⟨y, rfl, _, hb1⟩
   replace R0 := R0.later hb1
   replace R1 := R1.later hb1
   replace R2 := R2.later hb1
   replace R3 := R3.later hb1
   replace h := h.later hb1
   replace hb := below_on hb hb1
   clear hb1 ho
   have c6 : w3.cell? ⟨w.heap.size + 1 + 1, 6, none⟩ = some (.string o.text) := R2.cell 6
   cases y
   ·go_wp2_with fail
    refine (heads_any _).mono ?_
    rintro e w9 ⟨rfl, hb9⟩
    go_wp2_with fail
    go_ret
    exact ⟨rfl, below_on hb hb9⟩
   ·by_cases hx : 100 < o.text.size
    ·have hx' : decide ((100 : Int) < (o.text.size : Int)) = true := decide_eq_true (by omega)
     go_wp2_with fail
     refine (heads_any _).mono ?_
     rintro e w9 ⟨rfl, hb9⟩
     go_wp2_with fail
     go_ret
     exact ⟨rfl, below_on hb hb9⟩
    ·have hx' : decide ((100 : Int) < (o.text.size : Int)) = false := decide_eq_false (by omega)
     have h1000 : o.text.size ≤ 1000 := by omega
     go_wp2_with fail
     clear hx hx' c6
     have zx : (Tryz.prog.info? 27).map (·.size) = some ([Value.int .i64 x.k, .int .i64 x.b, va, vw, vm, ve] : List Value).length := size27
     have ztx : (Tryz.prog.info? 34).map (·.size) = some (txc q u v t sl).length := by rw [txc_length hv]; exact size34
     have zo : (Tryz.prog.info? 52).map (·.size) = some o.cells.length := size52
     have zv := info31 hc
     obtain ⟨kD, HD⟩ : ∃ z, Hid (doc x o q u v t i = z) := ⟨_, rfl⟩
     obtain ⟨kC, HC⟩ : ∃ z, Hid (clc x q u v i = z) := ⟨_, rfl⟩
     obtain ⟨kF, HF⟩ : ∃ z, Hid (foc x c = z) := ⟨_, rfl⟩
     have CD : ∀ w', Below w3.heap.size w3 w' → Calls Tryz.prog 21 #[CV x.k x.b va vw vm ve, TxV q u v t sl, .int .i64 i, .agg o.cells.toArray] w' (Gives kD w') := fun w' hb => by
      have := do_c x va vw vm ve q u v t sl i o w' hv h1000 (h.later hb) hs
      rw [HD.out] at this
      exact this
     have CC : ∀ w', Below w3.heap.size w3 w' → Calls Tryz.prog 15 #[CV x.k x.b va vw vm ve, TxV q u v t sl, .int .i64 i] w' (Gives kC w') := fun w' hb => by
      have := clear_c x va vw vm ve q u v t sl i w' hv (h.later hb) hs
      rw [HC.out] at this
      exact this
     have CF : ∀ w', Below w3.heap.size w3 w' → Calls Tryz.prog 24 #[CV x.k x.b va vw vm ve, V c] w' (Gives kF w') := fun w' hb => by
      have := fold_c x va vw vm ve c w' hc (h.later hb) hs
      rw [HF.out] at this
      exact this
     have hS : Calm.Stays (fun w' => Below w3.heap.size w3 w') := fun wa wb h hb => below_on h hb
     have hF : Facts.Stay [pF 0 (eqP (.agg ([Value.int .i64 x.k, .int .i64 x.b, va, vw, vm, ve] : List Value).toArray)), pF 1 (eqP (.agg (txc q u v t sl).toArray)), pF 2 (eqP (.int .i64 i)), pF 3 (eqP (.agg o.cells.toArray)), pF 4 (cP kD), pF 5 (eqP (.agg ([Value.int .i64 x.k, .int .i64 x.b, va, vw, vm, ve] : List Value).toArray)), pF 6 (eqP (.agg (txc q u v t sl).toArray)), pF 7 (eqP (.int .i64 i)), pF 8 (cP kC), pF 9 (eqP (.agg ([Value.int .i64 x.k, .int .i64 x.b, va, vw, vm, ve] : List Value).toArray)), pF 10 (eqP (.agg (vals c).toArray)), pF 11 (cP kF), pF 12 (boxP w3.heap.size 27 z4), pF 13 (boxP w3.heap.size 27 z4), pF 14 (boxP w3.heap.size 27 z4)] := stay_of (by simp only [List.forall_mem_cons]; exact ⟨⟨_, _, rfl, eqP_keeps _⟩, ⟨_, _, rfl, eqP_keeps _⟩, ⟨_, _, rfl, eqP_keeps _⟩, ⟨_, _, rfl, eqP_keeps _⟩, ⟨_, _, rfl, cP_keeps _⟩, ⟨_, _, rfl, eqP_keeps _⟩, ⟨_, _, rfl, eqP_keeps _⟩, ⟨_, _, rfl, eqP_keeps _⟩, ⟨_, _, rfl, cP_keeps _⟩, ⟨_, _, rfl, eqP_keeps _⟩, ⟨_, _, rfl, eqP_keeps _⟩, ⟨_, _, rfl, cP_keeps _⟩, ⟨_, _, rfl, boxP_keeps _ _ _⟩, ⟨_, _, rfl, boxP_keeps _ _ _⟩, ⟨_, _, rfl, boxP_keeps _ _ _⟩, fun _ h => by cases h⟩)
     refine Facts.regionTailR (by kernel_rfl) (by kernel_rfl) 15 (by decide) (by kernel_rfl) (fun w' => Below w3.heap.size w3 w') (fun xv => { tmps := #[CV x.k x.b va vw vm ve, TxV q u v t sl, Value.int IntKind.i64 i, o.val, V c, Value.pointer (some { block := w.heap.size, off := 0 }), Value.pointer (some { block := w.heap.size + 1, off := 0 }), undef, Value.pointer (some { block := w.heap.size + 1 + 1, off := 0 }), Value.pointer (some { block := w.heap.size + 1 + 1 + 1, off := 0 }), Value.bool false, xv 12, xv 13, xv 14, Value.agg (cvc x.k x.b va vw vm ve), Value.bool true, Value.bool false, Value.bool false, Value.agg (cvc x.k x.b va vw vm ve), Value.bool true, Value.bool false, Value.bool false, Value.bool false, Value.agg (txc q u v t sl).toArray, Value.bool true, Value.bool false, Value.bool false, Value.bool false, Value.pointer (some { block := w.heap.size + 1 + 1, off := 6 }), Value.string o.text, Value.int IntKind.i64 ↑o.text.size, Value.bool false, Value.bool false, undef, xv 0, xv 1, xv 2, xv 3, xv 4, xv 5, xv 6, xv 7, xv 8, xv 9, xv 10, xv 11, undef, undef, undef, undef, undef, undef, undef, undef, undef, undef, undef, undef, undef, undef, undef, undef, undef, undef, undef, undef, undef, undef, undef, undef, undef, undef, undef, undef, undef, undef, undef, undef, undef, undef, undef, undef, undef, undef, undef, undef, undef, undef, undef, undef, undef, undef, undef, undef, undef], defers := [] }) [pF 0 (eqP (.agg ([Value.int .i64 x.k, .int .i64 x.b, va, vw, vm, ve] : List Value).toArray)), pF 1 (eqP (.agg (txc q u v t sl).toArray)), pF 2 (eqP (.int .i64 i)), pF 3 (eqP (.agg o.cells.toArray)), pF 4 (cP kD), pF 5 (eqP (.agg ([Value.int .i64 x.k, .int .i64 x.b, va, vw, vm, ve] : List Value).toArray)), pF 6 (eqP (.agg (txc q u v t sl).toArray)), pF 7 (eqP (.int .i64 i)), pF 8 (cP kC), pF 9 (eqP (.agg ([Value.int .i64 x.k, .int .i64 x.b, va, vw, vm, ve] : List Value).toArray)), pF 10 (eqP (.agg (vals c).toArray)), pF 11 (cP kF), pF 12 (boxP w3.heap.size 27 z4), pF 13 (boxP w3.heap.size 27 z4), pF 14 (boxP w3.heap.size 27 z4)] (Rn 12 14) (rn_symm 12 14) _ rfl rfl (by kernel_rfl) (fun j => [undef, undef, undef, undef, undef, undef, undef, undef, undef, undef, undef, undef, undef, undef, undef].getD j undef) rfl (Below.refl _ w3).drew ⟨?_, ?_, ?_, ?_, ?_, ?_, ?_, ?_, ?_, ?_, ?_, ?_, ?_, ?_, ?_, ?_, ?_, ?_, trivial⟩ ?_
     ·exact fun _ => Facts.StepR.of (fun _ _ _ h1 => absurd h1 (by decide)) (Facts.loadP hS hF (fun _ _ => rfl) 27 Tryz.underlying27 rfl zx _ rfl rfl (fun xv wv hSw hd => by rfl) (fun wv hSw => Rw.whole (cs := [Value.int .i64 x.k, .int .i64 x.b, va, vw, vm, ve]) (R0.later hSw)))
     ·exact fun _ => Facts.StepR.of (fun _ _ _ h1 => absurd h1 (by decide)) (Facts.loadP hS hF (fun _ _ => rfl) 34 Tryz.underlying34 rfl ztx _ rfl rfl (fun xv wv hSw hd => by rfl) (fun wv hSw => Rw.whole (cs := (txc q u v t sl)) (R1.later hSw)))
     ·exact fun _ => Facts.StepR.of (fun _ _ _ h1 => absurd h1 (by decide)) (Facts.pureP hS hF (fun _ _ => rfl) rfl (fun xv wv hSw hd => by
       go_simp))
     ·exact fun _ => Facts.StepR.of (fun _ _ _ h1 => absurd h1 (by decide)) (Facts.loadP hS hF (fun _ _ => rfl) 52 Tryz.underlying52 rfl zo _ rfl rfl (fun xv wv hSw hd => by rfl) (fun wv hSw => Rw.whole (cs := o.cells) (R2.later hSw)))
     ·refine fun _ => Facts.StepR.of (fun _ _ _ h1 => absurd h1 (by decide)) (Facts.call4P hS hF (fun _ _ => rfl) rfl (by kernel_rfl) rfl (fun xv wv hSw hd => ?_))
      have d0 : xv 0 = _ := pF_get (hd ⟨0, .data⟩ (by simp) rfl _ rfl)
      have d1 : xv 1 = _ := pF_get (hd ⟨1, .data⟩ (by simp) rfl _ rfl)
      have d2 : xv 2 = _ := pF_get (hd ⟨2, .data⟩ (by simp) rfl _ rfl)
      have d3 : xv 3 = _ := pF_get (hd ⟨3, .data⟩ (by simp) rfl _ rfl)
      show Calls Tryz.prog 21 #[xv 0, xv 1, xv 2, xv 3] wv _
      rw [d0, d1, d2, d3]
      exact (CD wv hSw).mono fun e w' h => gives_p h
     ·exact fun _ => Facts.StepR.of (fun _ _ _ h1 => absurd h1 (by decide)) (Facts.loadP hS hF (fun _ _ => rfl) 27 Tryz.underlying27 rfl zx _ rfl rfl (fun xv wv hSw hd => by rfl) (fun wv hSw => Rw.whole (cs := [Value.int .i64 x.k, .int .i64 x.b, va, vw, vm, ve]) (R0.later hSw)))
     ·exact fun _ => Facts.StepR.of (fun _ _ _ h1 => absurd h1 (by decide)) (Facts.loadP hS hF (fun _ _ => rfl) 34 Tryz.underlying34 rfl ztx _ rfl rfl (fun xv wv hSw hd => by rfl) (fun wv hSw => Rw.whole (cs := (txc q u v t sl)) (R1.later hSw)))
     ·exact fun _ => Facts.StepR.of (fun _ _ _ h1 => absurd h1 (by decide)) (Facts.pureP hS hF (fun _ _ => rfl) rfl (fun xv wv hSw hd => by
       go_simp))
     ·refine fun _ => Facts.StepR.of (fun _ _ _ h1 => absurd h1 (by decide)) (Facts.call3P hS hF (fun _ _ => rfl) rfl (by kernel_rfl) rfl (fun xv wv hSw hd => ?_))
      have d5 : xv 5 = _ := pF_get (hd ⟨5, .data⟩ (by simp) rfl _ rfl)
      have d6 : xv 6 = _ := pF_get (hd ⟨6, .data⟩ (by simp) rfl _ rfl)
      have d7 : xv 7 = _ := pF_get (hd ⟨7, .data⟩ (by simp) rfl _ rfl)
      show Calls Tryz.prog 15 #[xv 5, xv 6, xv 7] wv _
      rw [d5, d6, d7]
      exact (CC wv hSw).mono fun e w' h => gives_p h
     ·exact fun _ => Facts.StepR.of (fun _ _ _ h1 => absurd h1 (by decide)) (Facts.loadP hS hF (fun _ _ => rfl) 27 Tryz.underlying27 rfl zx _ rfl rfl (fun xv wv hSw hd => by rfl) (fun wv hSw => Rw.whole (cs := [Value.int .i64 x.k, .int .i64 x.b, va, vw, vm, ve]) (R0.later hSw)))
     ·exact fun _ => Facts.StepR.of (fun _ _ _ h1 => absurd h1 (by decide)) (Facts.loadP hS hF (fun _ _ => rfl) 31 Tryz.underlying31 rfl zv _ rfl rfl (fun xv wv hSw hd => by rfl) (fun wv hSw => Rw.whole (cs := (vals c)) (R3.later hSw)))
     ·refine fun _ => Facts.StepR.of (fun _ _ _ h1 => absurd h1 (by decide)) (Facts.call2P hS hF (fun _ _ => rfl) rfl (by kernel_rfl) rfl (fun xv wv hSw hd => ?_))
      have d9 : xv 9 = _ := pF_get (hd ⟨9, .data⟩ (by simp) rfl _ rfl)
      have d10 : xv 10 = _ := pF_get (hd ⟨10, .data⟩ (by simp) rfl _ rfl)
      show Calls Tryz.prog 24 #[xv 9, xv 10] wv _
      rw [d9, d10]
      exact (CF wv hSw).mono fun e w' h => gives_p h
     ·exact fun _ => Facts.allocR hS hF (fun _ _ => rfl) 27 rfl (fun wv hSw => hSw.size) (fun _ _ => rfl) (fun j f hj h1 h2 => by
       have : j = 12 ∨ j = 13 ∨ j = 14 := by omega
       rcases this with rfl | rfl | rfl <;> exact ⟨_, _, _, (Option.some.inj hj).symm⟩)
     ·exact fun _ => Facts.allocR hS hF (fun _ _ => rfl) 27 rfl (fun wv hSw => hSw.size) (fun _ _ => rfl) (fun j f hj h1 h2 => by
       have : j = 12 ∨ j = 13 ∨ j = 14 := by omega
       rcases this with rfl | rfl | rfl <;> exact ⟨_, _, _, (Option.some.inj hj).symm⟩)
     ·exact fun _ => Facts.allocR hS hF (fun _ _ => rfl) 27 rfl (fun wv hSw => hSw.size) (fun _ _ => rfl) (fun j f hj h1 h2 => by
       have : j = 12 ∨ j = 13 ∨ j = 14 := by omega
       rcases this with rfl | rfl | rfl <;> exact ⟨_, _, _, (Option.some.inj hj).symm⟩)
     ·exact fun h => absurd h (by decide)
     ·exact fun h => absurd h (by decide)
     ·exact fun h => absurd h (by decide)
     intro x9 w5 hb5 hf hn
     obtain ⟨ua, uw, um, ue, eD, fD⟩ := pF_get (hf 4 _ rfl)
     obtain ⟨a1, a2, a3, a4, a5, a6, a7, a8, rfl, rfl, rfl, rfl⟩ := fD.slices
     obtain ⟨ua, uw, um, ue, eC, fC⟩ := pF_get (hf 8 _ rfl)
     obtain ⟨b1, b2, b3, b4, b5, b6, b7, b8, rfl, rfl, rfl, rfl⟩ := fC.slices
     obtain ⟨ua, uw, um, ue, eF, fF⟩ := pF_get (hf 11 _ rfl)
     obtain ⟨c1, c2, c3, c4, c5, c6, c7, c8, rfl, rfl, rfl, rfl⟩ := fF.slices
     obtain ⟨q1, e1, n1, B1⟩ := pF_get (hf 12 _ rfl)
     obtain ⟨q2, e2, n2, B2⟩ := pF_get (hf 13 _ rfl)
     obtain ⟨q3, e3, n3, B3⟩ := pF_get (hf 14 _ rfl)
     have n12 : q1 ≠ q2 := fun h => hn 12 13 (by decide) (by decide) (by decide) (by decide) (by decide) (by decide) (by decide) (by rw [e1, e2, h])
     have n13 : q1 ≠ q3 := fun h => hn 12 14 (by decide) (by decide) (by decide) (by decide) (by decide) (by decide) (by decide) (by rw [e1, e3, h])
     have n23 : q2 ≠ q3 := fun h => hn 13 14 (by decide) (by decide) (by decide) (by decide) (by decide) (by decide) (by decide) (by rw [e2, e3, h])
     clear hn hf hS hF
     have l0 := R0.lt
     replace R0 := R0.later hb5
     replace h := h.later hb5
     replace hb := below_on hb hb5
     refine tail_store 27 _ _ rfl q1 0 (show _ = _ from e1) (show _ = CV kD.k kD.b (.slice a1 kD.am.length a2) (.slice a3 kD.wr.length a4) (.slice a5 kD.mb.length a6) (.slice a7 kD.el.length a8) from eD) (B1.store (cvc kD.k kD.b (.slice a1 kD.am.length a2) (.slice a3 kD.wr.length a4) (.slice a5 kD.mb.length a6) (.slice a7 kD.el.length a8)) size27 rfl (by simp [Value.oneCell'])) ?_
     have B1' := B1.row (cvc kD.k kD.b (.slice a1 kD.am.length a2) (.slice a3 kD.wr.length a4) (.slice a5 kD.mb.length a6) (.slice a7 kD.el.length a8))
     replace fD := fD.row B1 (cvc kD.k kD.b (.slice a1 kD.am.length a2) (.slice a3 kD.wr.length a4) (.slice a5 kD.mb.length a6) (.slice a7 kD.el.length a8))
     replace fC := fC.row B1 (cvc kD.k kD.b (.slice a1 kD.am.length a2) (.slice a3 kD.wr.length a4) (.slice a5 kD.mb.length a6) (.slice a7 kD.el.length a8))
     replace fF := fF.row B1 (cvc kD.k kD.b (.slice a1 kD.am.length a2) (.slice a3 kD.wr.length a4) (.slice a5 kD.mb.length a6) (.slice a7 kD.el.length a8))
     replace h := h.row B1 (cvc kD.k kD.b (.slice a1 kD.am.length a2) (.slice a3 kD.wr.length a4) (.slice a5 kD.mb.length a6) (.slice a7 kD.el.length a8))
     replace B2 := B2.rowOther n12.symm (cvc kD.k kD.b (.slice a1 kD.am.length a2) (.slice a3 kD.wr.length a4) (.slice a5 kD.mb.length a6) (.slice a7 kD.el.length a8))
     replace B3 := B3.rowOther n13.symm (cvc kD.k kD.b (.slice a1 kD.am.length a2) (.slice a3 kD.wr.length a4) (.slice a5 kD.mb.length a6) (.slice a7 kD.el.length a8))
     replace R0 := R0.rowOther (q := q1) (by omega) (cvc kD.k kD.b (.slice a1 kD.am.length a2) (.slice a3 kD.wr.length a4) (.slice a5 kD.mb.length a6) (.slice a7 kD.el.length a8))
     replace hb := below_setRow hb (g := q1) (by omega) (cvc kD.k kD.b (.slice a1 kD.am.length a2) (.slice a3 kD.wr.length a4) (.slice a5 kD.mb.length a6) (.slice a7 kD.el.length a8))
     generalize w5.setRow q1 _ = u1 at B1' B2 B3 fD fC fF h R0 hb ⊢
     refine tail_store 27 _ _ rfl q2 0 (show _ = _ from e2) (show _ = CV kC.k kC.b (.slice b1 kC.am.length b2) (.slice b3 kC.wr.length b4) (.slice b5 kC.mb.length b6) (.slice b7 kC.el.length b8) from eC) (B2.store (cvc kC.k kC.b (.slice b1 kC.am.length b2) (.slice b3 kC.wr.length b4) (.slice b5 kC.mb.length b6) (.slice b7 kC.el.length b8)) size27 rfl (by simp [Value.oneCell'])) ?_
     have B2' := B2.row (cvc kC.k kC.b (.slice b1 kC.am.length b2) (.slice b3 kC.wr.length b4) (.slice b5 kC.mb.length b6) (.slice b7 kC.el.length b8))
     replace fD := fD.row B2 (cvc kC.k kC.b (.slice b1 kC.am.length b2) (.slice b3 kC.wr.length b4) (.slice b5 kC.mb.length b6) (.slice b7 kC.el.length b8))
     replace fC := fC.row B2 (cvc kC.k kC.b (.slice b1 kC.am.length b2) (.slice b3 kC.wr.length b4) (.slice b5 kC.mb.length b6) (.slice b7 kC.el.length b8))
     replace fF := fF.row B2 (cvc kC.k kC.b (.slice b1 kC.am.length b2) (.slice b3 kC.wr.length b4) (.slice b5 kC.mb.length b6) (.slice b7 kC.el.length b8))
     replace h := h.row B2 (cvc kC.k kC.b (.slice b1 kC.am.length b2) (.slice b3 kC.wr.length b4) (.slice b5 kC.mb.length b6) (.slice b7 kC.el.length b8))
     replace B1' := B1'.rowOther n12 (cvc kC.k kC.b (.slice b1 kC.am.length b2) (.slice b3 kC.wr.length b4) (.slice b5 kC.mb.length b6) (.slice b7 kC.el.length b8))
     replace B3 := B3.rowOther n23.symm (cvc kC.k kC.b (.slice b1 kC.am.length b2) (.slice b3 kC.wr.length b4) (.slice b5 kC.mb.length b6) (.slice b7 kC.el.length b8))
     replace R0 := R0.rowOther (q := q2) (by omega) (cvc kC.k kC.b (.slice b1 kC.am.length b2) (.slice b3 kC.wr.length b4) (.slice b5 kC.mb.length b6) (.slice b7 kC.el.length b8))
     replace hb := below_setRow hb (g := q2) (by omega) (cvc kC.k kC.b (.slice b1 kC.am.length b2) (.slice b3 kC.wr.length b4) (.slice b5 kC.mb.length b6) (.slice b7 kC.el.length b8))
     generalize u1.setRow q2 _ = u2 at B1' B2' B3 fD fC fF h R0 hb ⊢
     refine tail_store 27 _ _ rfl q3 0 (show _ = _ from e3) (show _ = CV kF.k kF.b (.slice c1 kF.am.length c2) (.slice c3 kF.wr.length c4) (.slice c5 kF.mb.length c6) (.slice c7 kF.el.length c8) from eF) (B3.store (cvc kF.k kF.b (.slice c1 kF.am.length c2) (.slice c3 kF.wr.length c4) (.slice c5 kF.mb.length c6) (.slice c7 kF.el.length c8)) size27 rfl (by simp [Value.oneCell'])) ?_
     have B3' := B3.row (cvc kF.k kF.b (.slice c1 kF.am.length c2) (.slice c3 kF.wr.length c4) (.slice c5 kF.mb.length c6) (.slice c7 kF.el.length c8))
     replace fD := fD.row B3 (cvc kF.k kF.b (.slice c1 kF.am.length c2) (.slice c3 kF.wr.length c4) (.slice c5 kF.mb.length c6) (.slice c7 kF.el.length c8))
     replace fC := fC.row B3 (cvc kF.k kF.b (.slice c1 kF.am.length c2) (.slice c3 kF.wr.length c4) (.slice c5 kF.mb.length c6) (.slice c7 kF.el.length c8))
     replace fF := fF.row B3 (cvc kF.k kF.b (.slice c1 kF.am.length c2) (.slice c3 kF.wr.length c4) (.slice c5 kF.mb.length c6) (.slice c7 kF.el.length c8))
     replace h := h.row B3 (cvc kF.k kF.b (.slice c1 kF.am.length c2) (.slice c3 kF.wr.length c4) (.slice c5 kF.mb.length c6) (.slice c7 kF.el.length c8))
     replace B1' := B1'.rowOther n13 (cvc kF.k kF.b (.slice c1 kF.am.length c2) (.slice c3 kF.wr.length c4) (.slice c5 kF.mb.length c6) (.slice c7 kF.el.length c8))
     replace B2' := B2'.rowOther n23 (cvc kF.k kF.b (.slice c1 kF.am.length c2) (.slice c3 kF.wr.length c4) (.slice c5 kF.mb.length c6) (.slice c7 kF.el.length c8))
     replace R0 := R0.rowOther (q := q3) (by omega) (cvc kF.k kF.b (.slice c1 kF.am.length c2) (.slice c3 kF.wr.length c4) (.slice c5 kF.mb.length c6) (.slice c7 kF.el.length c8))
     replace hb := below_setRow hb (g := q3) (by omega) (cvc kF.k kF.b (.slice c1 kF.am.length c2) (.slice c3 kF.wr.length c4) (.slice c5 kF.mb.length c6) (.slice c7 kF.el.length c8))
     generalize u2.setRow q3 _ = u3 at B1' B2' B3' fD fC fF h R0 hb ⊢
     refine Facts.tailWp_nil ?_
     obtain ⟨kd1, kd2⟩ := ck_doc (o := o) (q := q) (u := u) (v := v) (t := t) (i := i) HY.out
     obtain ⟨kc1, kc2⟩ := ck_clc (q := q) (u := u) (v := v) (i := i) HY.out
     obtain ⟨kf1, kf2, rk, rf1, rf2, rf3⟩ := ck_foc (v := c) HY.out
     have sD := (sc_do FW.out.sc o q u v t i).sm (by omega) (by omega)
     have sC := (sc_cl FW.out.sc q u v i).sm (by omega) (by omega)
     have sF := (sc_fo FW.out.sc c).sm (by omega) (by omega)
     rw [HD.out] at kd1 kd2 sD
     rw [HC.out] at kc1 kc2 sC
     rw [HF.out] at kf1 kf2 rf1 rf2 rf3 sF
     clear HD HC HF CD CC CF FW B1 B2 B3 n12 n13 n23
     have DD : ∀ w', Below u3.heap.size u3 w' → Calls Tryz.prog 18 #[CV kD.k kD.b (.slice a1 kD.am.length a2) (.slice a3 kD.wr.length a4) (.slice a5 kD.mb.length a6) (.slice a7 kD.el.length a8)] w' (Tells (.bool true) w') := fun w' hb => by
      have := check_c kD _ _ _ _ w' (fD.later hb) sD
      rw [kd1] at this
      exact this
     have DC : ∀ w', Below u3.heap.size u3 w' → Calls Tryz.prog 18 #[CV kC.k kC.b (.slice b1 kC.am.length b2) (.slice b3 kC.wr.length b4) (.slice b5 kC.mb.length b6) (.slice b7 kC.el.length b8)] w' (Tells (.bool true) w') := fun w' hb => by
      have := check_c kC _ _ _ _ w' (fC.later hb) sC
      rw [kc1] at this
      exact this
     have DF : ∀ w', Below u3.heap.size u3 w' → Calls Tryz.prog 18 #[CV kF.k kF.b (.slice c1 kF.am.length c2) (.slice c3 kF.wr.length c4) (.slice c5 kF.mb.length c6) (.slice c7 kF.el.length c8)] w' (Tells (.bool true) w') := fun w' hb => by
      have := check_c kF _ _ _ _ w' (fF.later hb) sF
      rw [kf1] at this
      exact this
     have RX : ∀ w', Below u3.heap.size u3 w' → Calls Tryz.prog 14 #[CV x.k x.b va vw vm ve] w' (Reads x.k (rnc x) (rtc x) w') := fun w' hb => by
      have := read_c x va vw vm ve w' (h.later hb) hs
      rw [rk] at this
      exact this
     have RF : ∀ w', Below u3.heap.size u3 w' → Calls Tryz.prog 14 #[CV kF.k kF.b (.slice c1 kF.am.length c2) (.slice c3 kF.wr.length c4) (.slice c5 kF.mb.length c6) (.slice c7 kF.el.length c8)] w' (Reads x.k (rnc x) (rtc x) w') := fun w' hb => by
      have := read_c kF _ _ _ _ w' (fF.later hb) sF
      rw [rf1, rf2, rf3, rk] at this
      exact this
     generalize rnc x = rn at RX RF
     generalize rtc x = rt at RX RF
     rw [kd2] at DD B1'
     rw [kc2] at DC B2'
     rw [kf2] at DF RF B3'
     clear kd1 kd2 kc1 kc2 kf1 kf2 rk rf1 rf2 rf3 sD sC sF HY hs hl h fD fC fF eD eC eF l0
     have E1 : x9 12 = _ := e1
     have E2 : x9 13 = _ := e2
     have E3 : x9 14 = _ := e3
     clear e1 e2 e3
     generalize x9 12 = y1 at E1 ⊢
     generalize x9 13 = y2 at E2 ⊢
     generalize x9 14 = y3 at E3 ⊢
     subst E1
     subst E2
     subst E3
     go_wp2_with fail
     have zx : (Tryz.prog.info? 27).map (·.size) = some ([Value.int .i64 x.k, .int .i64 x.b, va, vw, vm, ve] : List Value).length := size27
     have zd : (Tryz.prog.info? 27).map (·.size) = some ([Value.int .i64 x.k, .int .i64 kD.b, .slice a1 kD.am.length a2, .slice a3 kD.wr.length a4, .slice a5 kD.mb.length a6, .slice a7 kD.el.length a8] : List Value).length := size27
     have zc : (Tryz.prog.info? 27).map (·.size) = some ([Value.int .i64 x.k, .int .i64 kC.b, .slice b1 kC.am.length b2, .slice b3 kC.wr.length b4, .slice b5 kC.mb.length b6, .slice b7 kC.el.length b8] : List Value).length := size27
     have zf : (Tryz.prog.info? 27).map (·.size) = some ([Value.int .i64 x.k, .int .i64 kF.b, .slice c1 kF.am.length c2, .slice c3 kF.wr.length c4, .slice c5 kF.mb.length c6, .slice c7 kF.el.length c8] : List Value).length := size27
     have hS : Calm.Stays (fun w' => Below u3.heap.size u3 w') := fun wa wb h hb => below_on h hb
     have hF : Facts.Stay [pF 0 (eqP (.agg ([Value.int .i64 x.k, .int .i64 kD.b, .slice a1 kD.am.length a2, .slice a3 kD.wr.length a4, .slice a5 kD.mb.length a6, .slice a7 kD.el.length a8] : List Value).toArray)), pF 1 (eqP (.bool true)), pF 2 (eqP (.bool true)), pF 3 (eqP (.agg ([Value.int .i64 x.k, .int .i64 kC.b, .slice b1 kC.am.length b2, .slice b3 kC.wr.length b4, .slice b5 kC.mb.length b6, .slice b7 kC.el.length b8] : List Value).toArray)), pF 4 (eqP (.bool true)), pF 5 (eqP (.bool true)), pF 6 (eqP (.bool true)), pF 7 (eqP (.agg ([Value.int .i64 x.k, .int .i64 kF.b, .slice c1 kF.am.length c2, .slice c3 kF.wr.length c4, .slice c5 kF.mb.length c6, .slice c7 kF.el.length c8] : List Value).toArray)), pF 8 (eqP (.bool true)), pF 9 (eqP (.bool true)), pF 10 (eqP (.bool true)), pF 11 (eqP (.pointer (some ⟨q1, 0, none⟩))), pF 12 (eqP (.int .i64 x.k)), pF 13 (eqP (.pointer (some ⟨w.heap.size, 0, none⟩))), pF 14 (eqP (.int .i64 x.k)), pF 15 (eqP (.bool true)), pF 16 (eqP (.bool true)), pF 17 (eqP (.bool true)), pF 18 (eqP (.pointer (some ⟨q2, 0, none⟩))), pF 19 (eqP (.int .i64 x.k)), pF 20 (eqP (.pointer (some ⟨w.heap.size, 0, none⟩))), pF 21 (eqP (.int .i64 x.k)), pF 22 (eqP (.bool true)), pF 23 (eqP (.bool true)), pF 24 (eqP (.bool true)), pF 25 (eqP (.pointer (some ⟨q3, 0, none⟩))), pF 26 (eqP (.int .i64 x.k)), pF 27 (eqP (.pointer (some ⟨w.heap.size, 0, none⟩))), pF 28 (eqP (.int .i64 x.k)), pF 29 (eqP (.bool true)), pF 30 (eqP (.bool true)), pF 31 (eqP (.bool true)), pF 32 (eqP (.agg ([Value.int .i64 x.k, .int .i64 x.b, va, vw, vm, ve] : List Value).toArray)), pF 33 (vnP x.k rn rt), pF 34 (eqP (.int .i64 x.k)), pF 35 (eqP (.pointer (some ⟨w.heap.size, 0, none⟩))), pF 36 (eqP (.int .i64 x.k)), pF 37 (eqP (.bool true)), pF 38 (eqP (.bool true)), pF 39 (eqP (.bool true)), pF 40 (eqP (.agg ([Value.int .i64 x.k, .int .i64 kF.b, .slice c1 kF.am.length c2, .slice c3 kF.wr.length c4, .slice c5 kF.mb.length c6, .slice c7 kF.el.length c8] : List Value).toArray)), pF 41 (vnP x.k rn rt), pF 42 (eqP (.agg ([Value.int .i64 x.k, .int .i64 x.b, va, vw, vm, ve] : List Value).toArray)), pF 43 (vnP x.k rn rt), pF 44 (eqP (.bool true)), pF 45 (eqP (.bool true)), pF 46 (eqP (.bool true)), pF 47 (eqP (.bool true)), pF 48 (eqP (.bool true)), pF 49 (eqP (.bool true))] := stay_of (by simp only [List.forall_mem_cons]; exact ⟨⟨_, _, rfl, eqP_keeps _⟩, ⟨_, _, rfl, eqP_keeps _⟩, ⟨_, _, rfl, eqP_keeps _⟩, ⟨_, _, rfl, eqP_keeps _⟩, ⟨_, _, rfl, eqP_keeps _⟩, ⟨_, _, rfl, eqP_keeps _⟩, ⟨_, _, rfl, eqP_keeps _⟩, ⟨_, _, rfl, eqP_keeps _⟩, ⟨_, _, rfl, eqP_keeps _⟩, ⟨_, _, rfl, eqP_keeps _⟩, ⟨_, _, rfl, eqP_keeps _⟩, ⟨_, _, rfl, eqP_keeps _⟩, ⟨_, _, rfl, eqP_keeps _⟩, ⟨_, _, rfl, eqP_keeps _⟩, ⟨_, _, rfl, eqP_keeps _⟩, ⟨_, _, rfl, eqP_keeps _⟩, ⟨_, _, rfl, eqP_keeps _⟩, ⟨_, _, rfl, eqP_keeps _⟩, ⟨_, _, rfl, eqP_keeps _⟩, ⟨_, _, rfl, eqP_keeps _⟩, ⟨_, _, rfl, eqP_keeps _⟩, ⟨_, _, rfl, eqP_keeps _⟩, ⟨_, _, rfl, eqP_keeps _⟩, ⟨_, _, rfl, eqP_keeps _⟩, ⟨_, _, rfl, eqP_keeps _⟩, ⟨_, _, rfl, eqP_keeps _⟩, ⟨_, _, rfl, eqP_keeps _⟩, ⟨_, _, rfl, eqP_keeps _⟩, ⟨_, _, rfl, eqP_keeps _⟩, ⟨_, _, rfl, eqP_keeps _⟩, ⟨_, _, rfl, eqP_keeps _⟩, ⟨_, _, rfl, eqP_keeps _⟩, ⟨_, _, rfl, eqP_keeps _⟩, ⟨_, _, rfl, vnP_keeps _ _ _⟩, ⟨_, _, rfl, eqP_keeps _⟩, ⟨_, _, rfl, eqP_keeps _⟩, ⟨_, _, rfl, eqP_keeps _⟩, ⟨_, _, rfl, eqP_keeps _⟩, ⟨_, _, rfl, eqP_keeps _⟩, ⟨_, _, rfl, eqP_keeps _⟩, ⟨_, _, rfl, eqP_keeps _⟩, ⟨_, _, rfl, vnP_keeps _ _ _⟩, ⟨_, _, rfl, eqP_keeps _⟩, ⟨_, _, rfl, vnP_keeps _ _ _⟩, ⟨_, _, rfl, eqP_keeps _⟩, ⟨_, _, rfl, eqP_keeps _⟩, ⟨_, _, rfl, eqP_keeps _⟩, ⟨_, _, rfl, eqP_keeps _⟩, ⟨_, _, rfl, eqP_keeps _⟩, ⟨_, _, rfl, eqP_keeps _⟩, fun _ h => by cases h⟩)
     refine FactsG.region (by kernel_rfl) (by kernel_rfl) (fun w' => Below u3.heap.size u3 w') (fun xv => { tmps := #[CV x.k x.b va vw vm ve, TxV q u v t sl, Value.int IntKind.i64 i, o.val, V c, Value.pointer (some { block := w.heap.size, off := 0 }), Value.pointer (some { block := w.heap.size + 1, off := 0 }), undef, Value.pointer (some { block := w.heap.size + 1 + 1, off := 0 }), Value.pointer (some { block := w.heap.size + 1 + 1 + 1, off := 0 }), xv 49, Value.pointer (some { block := q1, off := 0 }), Value.pointer (some { block := q2, off := 0 }), Value.pointer (some { block := q3, off := 0 }), Value.agg (cvc x.k x.b va vw vm ve), Value.bool true, Value.bool false, Value.bool false, Value.agg (cvc x.k x.b va vw vm ve), Value.bool true, Value.bool false, Value.bool false, Value.bool false, Value.agg (txc q u v t sl).toArray, Value.bool true, Value.bool false, Value.bool false, Value.bool false, Value.pointer (some { block := w.heap.size + 1 + 1, off := 6 }), Value.string o.text, Value.int IntKind.i64 ↑o.text.size, Value.bool false, Value.bool false, undef, x9 0, x9 1, x9 2, x9 3, x9 4, x9 5, x9 6, x9 7, x9 8, x9 9, x9 10, x9 11, xv 0, xv 1, xv 2, xv 3, xv 4, xv 5, xv 6, xv 7, xv 8, xv 9, xv 10, xv 11, xv 12, xv 13, xv 14, xv 15, xv 16, xv 17, xv 18, xv 19, xv 20, xv 21, xv 22, xv 23, xv 24, xv 25, xv 26, xv 27, xv 28, xv 29, xv 30, xv 31, xv 32, xv 33, xv 34, xv 35, xv 36, xv 37, xv 38, xv 39, xv 40, xv 41, xv 42, xv 43, xv 44, xv 45, xv 46, xv 47, xv 48], defers := [] }) [pF 0 (eqP (.agg ([Value.int .i64 x.k, .int .i64 kD.b, .slice a1 kD.am.length a2, .slice a3 kD.wr.length a4, .slice a5 kD.mb.length a6, .slice a7 kD.el.length a8] : List Value).toArray)), pF 1 (eqP (.bool true)), pF 2 (eqP (.bool true)), pF 3 (eqP (.agg ([Value.int .i64 x.k, .int .i64 kC.b, .slice b1 kC.am.length b2, .slice b3 kC.wr.length b4, .slice b5 kC.mb.length b6, .slice b7 kC.el.length b8] : List Value).toArray)), pF 4 (eqP (.bool true)), pF 5 (eqP (.bool true)), pF 6 (eqP (.bool true)), pF 7 (eqP (.agg ([Value.int .i64 x.k, .int .i64 kF.b, .slice c1 kF.am.length c2, .slice c3 kF.wr.length c4, .slice c5 kF.mb.length c6, .slice c7 kF.el.length c8] : List Value).toArray)), pF 8 (eqP (.bool true)), pF 9 (eqP (.bool true)), pF 10 (eqP (.bool true)), pF 11 (eqP (.pointer (some ⟨q1, 0, none⟩))), pF 12 (eqP (.int .i64 x.k)), pF 13 (eqP (.pointer (some ⟨w.heap.size, 0, none⟩))), pF 14 (eqP (.int .i64 x.k)), pF 15 (eqP (.bool true)), pF 16 (eqP (.bool true)), pF 17 (eqP (.bool true)), pF 18 (eqP (.pointer (some ⟨q2, 0, none⟩))), pF 19 (eqP (.int .i64 x.k)), pF 20 (eqP (.pointer (some ⟨w.heap.size, 0, none⟩))), pF 21 (eqP (.int .i64 x.k)), pF 22 (eqP (.bool true)), pF 23 (eqP (.bool true)), pF 24 (eqP (.bool true)), pF 25 (eqP (.pointer (some ⟨q3, 0, none⟩))), pF 26 (eqP (.int .i64 x.k)), pF 27 (eqP (.pointer (some ⟨w.heap.size, 0, none⟩))), pF 28 (eqP (.int .i64 x.k)), pF 29 (eqP (.bool true)), pF 30 (eqP (.bool true)), pF 31 (eqP (.bool true)), pF 32 (eqP (.agg ([Value.int .i64 x.k, .int .i64 x.b, va, vw, vm, ve] : List Value).toArray)), pF 33 (vnP x.k rn rt), pF 34 (eqP (.int .i64 x.k)), pF 35 (eqP (.pointer (some ⟨w.heap.size, 0, none⟩))), pF 36 (eqP (.int .i64 x.k)), pF 37 (eqP (.bool true)), pF 38 (eqP (.bool true)), pF 39 (eqP (.bool true)), pF 40 (eqP (.agg ([Value.int .i64 x.k, .int .i64 kF.b, .slice c1 kF.am.length c2, .slice c3 kF.wr.length c4, .slice c5 kF.mb.length c6, .slice c7 kF.el.length c8] : List Value).toArray)), pF 41 (vnP x.k rn rt), pF 42 (eqP (.agg ([Value.int .i64 x.k, .int .i64 x.b, va, vw, vm, ve] : List Value).toArray)), pF 43 (vnP x.k rn rt), pF 44 (eqP (.bool true)), pF 45 (eqP (.bool true)), pF 46 (eqP (.bool true)), pF 47 (eqP (.bool true)), pF 48 (eqP (.bool true)), pF 49 (eqP (.bool true))] (fun _ _ _ _ => True) (fun _ _ _ _ _ => trivial) _ rfl rfl (by kernel_rfl) (fun j => [undef, undef, undef, undef, undef, undef, undef, undef, undef, undef, undef, undef, undef, undef, undef, undef, undef, undef, undef, undef, undef, undef, undef, undef, undef, undef, undef, undef, undef, undef, undef, undef, undef, undef, undef, undef, undef, undef, undef, undef, undef, undef, undef, undef, undef, undef, undef, undef, undef, Value.bool false].getD j undef) rfl (Below.refl _ u3).drew ⟨?_, ?_, ?_, ?_, ?_, ?_, ?_, ?_, ?_, ?_, ?_, ?_, ?_, ?_, ?_, ?_, ?_, ?_, ?_, ?_, ?_, ?_, ?_, ?_, ?_, ?_, ?_, ?_, ?_, ?_, ?_, ?_, ?_, ?_, ?_, ?_, ?_, ?_, ?_, ?_, ?_, ?_, ?_, ?_, ?_, ?_, ?_, ?_, ?_, ?_, trivial⟩ ?_
     ·exact FactsG.of rfl (fun _ _ _ => trivial) (fun _ _ _ _ => rfl) (Facts.loadP hS hF (fun _ _ => rfl) 27 Tryz.underlying27 rfl zd _ rfl rfl (fun xv wv hSw hd => by rfl) (fun wv hSw => Rw.whole (cs := [Value.int .i64 x.k, .int .i64 kD.b, .slice a1 kD.am.length a2, .slice a3 kD.wr.length a4, .slice a5 kD.mb.length a6, .slice a7 kD.el.length a8]) (B1'.later hSw)))
     ·refine FactsG.of rfl (fun _ _ _ => trivial) (fun _ _ _ _ => rfl) (Facts.call1P hS hF (fun _ _ => rfl) rfl (by kernel_rfl) rfl (fun xv wv hSw hd => ?_))
      have d0 : xv 0 = _ := pF_get (hd ⟨0, .data⟩ (by simp) rfl _ rfl)
      show Calls Tryz.prog 18 #[xv 0] wv _
      rw [d0]
      exact (DD wv hSw).mono fun e w' h => tells_p h
     ·exact FactsG.of rfl (fun _ _ _ => trivial) (fun _ _ _ _ => rfl) (Facts.pureP hS hF (fun _ _ => rfl) rfl (fun xv wv hSw hd => by
       have d1 : xv 1 = _ := pF_get (hd ⟨1, .data⟩ (by simp) rfl _ rfl)
       simp only [d1]
       go_simp))
     ·exact FactsG.of rfl (fun _ _ _ => trivial) (fun xv wv hSw hd => by have dg : xv 2 = _ := pF_get (hd ⟨2, .guard⟩ (by simp) rfl _ rfl); simp only [dg]; rfl) (Facts.loadP hS hF (fun _ _ => rfl) 27 Tryz.underlying27 rfl zc _ rfl rfl (fun xv wv hSw hd => by rfl) (fun wv hSw => Rw.whole (cs := [Value.int .i64 x.k, .int .i64 kC.b, .slice b1 kC.am.length b2, .slice b3 kC.wr.length b4, .slice b5 kC.mb.length b6, .slice b7 kC.el.length b8]) (B2'.later hSw)))
     ·refine FactsG.of rfl (fun _ _ _ => trivial) (fun xv wv hSw hd => by have dg : xv 2 = _ := pF_get (hd ⟨2, .guard⟩ (by simp) rfl _ rfl); simp only [dg]; rfl) (Facts.call1P hS hF (fun _ _ => rfl) rfl (by kernel_rfl) rfl (fun xv wv hSw hd => ?_))
      have d3 : xv 3 = _ := pF_get (hd ⟨3, .data⟩ (by simp) rfl _ rfl)
      show Calls Tryz.prog 18 #[xv 3] wv _
      rw [d3]
      exact (DC wv hSw).mono fun e w' h => tells_p h
     ·exact FactsG.of rfl (fun _ _ _ => trivial) (fun _ _ _ _ => rfl) (Facts.pureP hS hF (fun _ _ => rfl) rfl (fun xv wv hSw hd => by
       have d2 : xv 2 = _ := pF_get (hd ⟨2, .data⟩ (by simp) rfl _ rfl)
       have d4 : xv 4 = _ := pF_get (hd ⟨4, .data⟩ (by simp) rfl _ rfl)
       simp only [d2, d4]
       go_simp))
     ·exact FactsG.of rfl (fun _ _ _ => trivial) (fun _ _ _ _ => rfl) (Facts.pureP hS hF (fun _ _ => rfl) rfl (fun xv wv hSw hd => by
       have d5 : xv 5 = _ := pF_get (hd ⟨5, .data⟩ (by simp) rfl _ rfl)
       simp only [d5]
       go_simp))
     ·exact FactsG.of rfl (fun _ _ _ => trivial) (fun xv wv hSw hd => by have dg : xv 6 = _ := pF_get (hd ⟨6, .guard⟩ (by simp) rfl _ rfl); simp only [dg]; rfl) (Facts.loadP hS hF (fun _ _ => rfl) 27 Tryz.underlying27 rfl zf _ rfl rfl (fun xv wv hSw hd => by rfl) (fun wv hSw => Rw.whole (cs := [Value.int .i64 x.k, .int .i64 kF.b, .slice c1 kF.am.length c2, .slice c3 kF.wr.length c4, .slice c5 kF.mb.length c6, .slice c7 kF.el.length c8]) (B3'.later hSw)))
     ·refine FactsG.of rfl (fun _ _ _ => trivial) (fun xv wv hSw hd => by have dg : xv 6 = _ := pF_get (hd ⟨6, .guard⟩ (by simp) rfl _ rfl); simp only [dg]; rfl) (Facts.call1P hS hF (fun _ _ => rfl) rfl (by kernel_rfl) rfl (fun xv wv hSw hd => ?_))
      have d7 : xv 7 = _ := pF_get (hd ⟨7, .data⟩ (by simp) rfl _ rfl)
      show Calls Tryz.prog 18 #[xv 7] wv _
      rw [d7]
      exact (DF wv hSw).mono fun e w' h => tells_p h
     ·exact FactsG.of rfl (fun _ _ _ => trivial) (fun _ _ _ _ => rfl) (Facts.pureP hS hF (fun _ _ => rfl) rfl (fun xv wv hSw hd => by
       have d6 : xv 6 = _ := pF_get (hd ⟨6, .data⟩ (by simp) rfl _ rfl)
       have d8 : xv 8 = _ := pF_get (hd ⟨8, .data⟩ (by simp) rfl _ rfl)
       simp only [d6, d8]
       go_simp))
     ·exact FactsG.of rfl (fun _ _ _ => trivial) (fun _ _ _ _ => rfl) (Facts.pureP hS hF (fun _ _ => rfl) rfl (fun xv wv hSw hd => by
       have d9 : xv 9 = _ := pF_get (hd ⟨9, .data⟩ (by simp) rfl _ rfl)
       simp only [d9]
       go_simp))
     ·exact FactsG.of rfl (fun _ _ _ => trivial) (fun xv wv hSw hd => by have dg : xv 10 = _ := pF_get (hd ⟨10, .guard⟩ (by simp) rfl _ rfl); simp only [dg]; rfl) (Facts.pureP hS hF (fun _ _ => rfl) rfl (fun xv wv hSw hd => by
       go_simp))
     ·exact FactsG.of rfl (fun _ _ _ => trivial) (fun xv wv hSw hd => by have dg : xv 10 = _ := pF_get (hd ⟨10, .guard⟩ (by simp) rfl _ rfl); simp only [dg]; rfl) (Facts.pureP hS hF (fun _ _ => rfl) rfl (fun xv wv hSw hd => by
       have d11 : xv 11 = _ := pF_get (hd ⟨11, .data⟩ (by simp) rfl _ rfl)
       have g0 : wv.cell? ⟨q1, 0, none⟩ = some (.int .i64 x.k) := (B1'.later hSw).cell 0
       have g1 : wv.cell? ⟨q2, 0, none⟩ = some (.int .i64 x.k) := (B2'.later hSw).cell 0
       have g2 : wv.cell? ⟨q3, 0, none⟩ = some (.int .i64 x.k) := (B3'.later hSw).cell 0
       have g3 : wv.cell? ⟨w.heap.size, 0, none⟩ = some (.int .i64 x.k) := (R0.later hSw).cell 0
       simp only [d11]
       go_simp))
     ·exact FactsG.of rfl (fun _ _ _ => trivial) (fun xv wv hSw hd => by have dg : xv 10 = _ := pF_get (hd ⟨10, .guard⟩ (by simp) rfl _ rfl); simp only [dg]; rfl) (Facts.pureP hS hF (fun _ _ => rfl) rfl (fun xv wv hSw hd => by
       go_simp))
     ·exact FactsG.of rfl (fun _ _ _ => trivial) (fun xv wv hSw hd => by have dg : xv 10 = _ := pF_get (hd ⟨10, .guard⟩ (by simp) rfl _ rfl); simp only [dg]; rfl) (Facts.pureP hS hF (fun _ _ => rfl) rfl (fun xv wv hSw hd => by
       have d13 : xv 13 = _ := pF_get (hd ⟨13, .data⟩ (by simp) rfl _ rfl)
       have g0 : wv.cell? ⟨q1, 0, none⟩ = some (.int .i64 x.k) := (B1'.later hSw).cell 0
       have g1 : wv.cell? ⟨q2, 0, none⟩ = some (.int .i64 x.k) := (B2'.later hSw).cell 0
       have g2 : wv.cell? ⟨q3, 0, none⟩ = some (.int .i64 x.k) := (B3'.later hSw).cell 0
       have g3 : wv.cell? ⟨w.heap.size, 0, none⟩ = some (.int .i64 x.k) := (R0.later hSw).cell 0
       simp only [d13]
       go_simp))
     ·exact FactsG.of rfl (fun _ _ _ => trivial) (fun xv wv hSw hd => by have dg : xv 10 = _ := pF_get (hd ⟨10, .guard⟩ (by simp) rfl _ rfl); simp only [dg]; rfl) (Facts.pureP hS hF (fun _ _ => rfl) rfl (fun xv wv hSw hd => by
       have d12 : xv 12 = _ := pF_get (hd ⟨12, .data⟩ (by simp) rfl _ rfl)
       have d14 : xv 14 = _ := pF_get (hd ⟨14, .data⟩ (by simp) rfl _ rfl)
       simp only [d12, d14]
       go_simp))
     ·exact FactsG.of rfl (fun _ _ _ => trivial) (fun _ _ _ _ => rfl) (Facts.pureP hS hF (fun _ _ => rfl) rfl (fun xv wv hSw hd => by
       have d10 : xv 10 = _ := pF_get (hd ⟨10, .data⟩ (by simp) rfl _ rfl)
       have d15 : xv 15 = _ := pF_get (hd ⟨15, .data⟩ (by simp) rfl _ rfl)
       simp only [d10, d15]
       go_simp))
     ·exact FactsG.of rfl (fun _ _ _ => trivial) (fun _ _ _ _ => rfl) (Facts.pureP hS hF (fun _ _ => rfl) rfl (fun xv wv hSw hd => by
       have d16 : xv 16 = _ := pF_get (hd ⟨16, .data⟩ (by simp) rfl _ rfl)
       simp only [d16]
       go_simp))
     ·exact FactsG.of rfl (fun _ _ _ => trivial) (fun xv wv hSw hd => by have dg : xv 17 = _ := pF_get (hd ⟨17, .guard⟩ (by simp) rfl _ rfl); simp only [dg]; rfl) (Facts.pureP hS hF (fun _ _ => rfl) rfl (fun xv wv hSw hd => by
       go_simp))
     ·exact FactsG.of rfl (fun _ _ _ => trivial) (fun xv wv hSw hd => by have dg : xv 17 = _ := pF_get (hd ⟨17, .guard⟩ (by simp) rfl _ rfl); simp only [dg]; rfl) (Facts.pureP hS hF (fun _ _ => rfl) rfl (fun xv wv hSw hd => by
       have d18 : xv 18 = _ := pF_get (hd ⟨18, .data⟩ (by simp) rfl _ rfl)
       have g0 : wv.cell? ⟨q1, 0, none⟩ = some (.int .i64 x.k) := (B1'.later hSw).cell 0
       have g1 : wv.cell? ⟨q2, 0, none⟩ = some (.int .i64 x.k) := (B2'.later hSw).cell 0
       have g2 : wv.cell? ⟨q3, 0, none⟩ = some (.int .i64 x.k) := (B3'.later hSw).cell 0
       have g3 : wv.cell? ⟨w.heap.size, 0, none⟩ = some (.int .i64 x.k) := (R0.later hSw).cell 0
       simp only [d18]
       go_simp))
     ·exact FactsG.of rfl (fun _ _ _ => trivial) (fun xv wv hSw hd => by have dg : xv 17 = _ := pF_get (hd ⟨17, .guard⟩ (by simp) rfl _ rfl); simp only [dg]; rfl) (Facts.pureP hS hF (fun _ _ => rfl) rfl (fun xv wv hSw hd => by
       go_simp))
     ·exact FactsG.of rfl (fun _ _ _ => trivial) (fun xv wv hSw hd => by have dg : xv 17 = _ := pF_get (hd ⟨17, .guard⟩ (by simp) rfl _ rfl); simp only [dg]; rfl) (Facts.pureP hS hF (fun _ _ => rfl) rfl (fun xv wv hSw hd => by
       have d20 : xv 20 = _ := pF_get (hd ⟨20, .data⟩ (by simp) rfl _ rfl)
       have g0 : wv.cell? ⟨q1, 0, none⟩ = some (.int .i64 x.k) := (B1'.later hSw).cell 0
       have g1 : wv.cell? ⟨q2, 0, none⟩ = some (.int .i64 x.k) := (B2'.later hSw).cell 0
       have g2 : wv.cell? ⟨q3, 0, none⟩ = some (.int .i64 x.k) := (B3'.later hSw).cell 0
       have g3 : wv.cell? ⟨w.heap.size, 0, none⟩ = some (.int .i64 x.k) := (R0.later hSw).cell 0
       simp only [d20]
       go_simp))
     ·exact FactsG.of rfl (fun _ _ _ => trivial) (fun xv wv hSw hd => by have dg : xv 17 = _ := pF_get (hd ⟨17, .guard⟩ (by simp) rfl _ rfl); simp only [dg]; rfl) (Facts.pureP hS hF (fun _ _ => rfl) rfl (fun xv wv hSw hd => by
       have d19 : xv 19 = _ := pF_get (hd ⟨19, .data⟩ (by simp) rfl _ rfl)
       have d21 : xv 21 = _ := pF_get (hd ⟨21, .data⟩ (by simp) rfl _ rfl)
       simp only [d19, d21]
       go_simp))
     ·exact FactsG.of rfl (fun _ _ _ => trivial) (fun _ _ _ _ => rfl) (Facts.pureP hS hF (fun _ _ => rfl) rfl (fun xv wv hSw hd => by
       have d17 : xv 17 = _ := pF_get (hd ⟨17, .data⟩ (by simp) rfl _ rfl)
       have d22 : xv 22 = _ := pF_get (hd ⟨22, .data⟩ (by simp) rfl _ rfl)
       simp only [d17, d22]
       go_simp))
     ·exact FactsG.of rfl (fun _ _ _ => trivial) (fun _ _ _ _ => rfl) (Facts.pureP hS hF (fun _ _ => rfl) rfl (fun xv wv hSw hd => by
       have d23 : xv 23 = _ := pF_get (hd ⟨23, .data⟩ (by simp) rfl _ rfl)
       simp only [d23]
       go_simp))
     ·exact FactsG.of rfl (fun _ _ _ => trivial) (fun xv wv hSw hd => by have dg : xv 24 = _ := pF_get (hd ⟨24, .guard⟩ (by simp) rfl _ rfl); simp only [dg]; rfl) (Facts.pureP hS hF (fun _ _ => rfl) rfl (fun xv wv hSw hd => by
       go_simp))
     ·exact FactsG.of rfl (fun _ _ _ => trivial) (fun xv wv hSw hd => by have dg : xv 24 = _ := pF_get (hd ⟨24, .guard⟩ (by simp) rfl _ rfl); simp only [dg]; rfl) (Facts.pureP hS hF (fun _ _ => rfl) rfl (fun xv wv hSw hd => by
       have d25 : xv 25 = _ := pF_get (hd ⟨25, .data⟩ (by simp) rfl _ rfl)
       have g0 : wv.cell? ⟨q1, 0, none⟩ = some (.int .i64 x.k) := (B1'.later hSw).cell 0
       have g1 : wv.cell? ⟨q2, 0, none⟩ = some (.int .i64 x.k) := (B2'.later hSw).cell 0
       have g2 : wv.cell? ⟨q3, 0, none⟩ = some (.int .i64 x.k) := (B3'.later hSw).cell 0
       have g3 : wv.cell? ⟨w.heap.size, 0, none⟩ = some (.int .i64 x.k) := (R0.later hSw).cell 0
       simp only [d25]
       go_simp))
     ·exact FactsG.of rfl (fun _ _ _ => trivial) (fun xv wv hSw hd => by have dg : xv 24 = _ := pF_get (hd ⟨24, .guard⟩ (by simp) rfl _ rfl); simp only [dg]; rfl) (Facts.pureP hS hF (fun _ _ => rfl) rfl (fun xv wv hSw hd => by
       go_simp))
     ·exact FactsG.of rfl (fun _ _ _ => trivial) (fun xv wv hSw hd => by have dg : xv 24 = _ := pF_get (hd ⟨24, .guard⟩ (by simp) rfl _ rfl); simp only [dg]; rfl) (Facts.pureP hS hF (fun _ _ => rfl) rfl (fun xv wv hSw hd => by
       have d27 : xv 27 = _ := pF_get (hd ⟨27, .data⟩ (by simp) rfl _ rfl)
       have g0 : wv.cell? ⟨q1, 0, none⟩ = some (.int .i64 x.k) := (B1'.later hSw).cell 0
       have g1 : wv.cell? ⟨q2, 0, none⟩ = some (.int .i64 x.k) := (B2'.later hSw).cell 0
       have g2 : wv.cell? ⟨q3, 0, none⟩ = some (.int .i64 x.k) := (B3'.later hSw).cell 0
       have g3 : wv.cell? ⟨w.heap.size, 0, none⟩ = some (.int .i64 x.k) := (R0.later hSw).cell 0
       simp only [d27]
       go_simp))
     ·exact FactsG.of rfl (fun _ _ _ => trivial) (fun xv wv hSw hd => by have dg : xv 24 = _ := pF_get (hd ⟨24, .guard⟩ (by simp) rfl _ rfl); simp only [dg]; rfl) (Facts.pureP hS hF (fun _ _ => rfl) rfl (fun xv wv hSw hd => by
       have d26 : xv 26 = _ := pF_get (hd ⟨26, .data⟩ (by simp) rfl _ rfl)
       have d28 : xv 28 = _ := pF_get (hd ⟨28, .data⟩ (by simp) rfl _ rfl)
       simp only [d26, d28]
       go_simp))
     ·exact FactsG.of rfl (fun _ _ _ => trivial) (fun _ _ _ _ => rfl) (Facts.pureP hS hF (fun _ _ => rfl) rfl (fun xv wv hSw hd => by
       have d24 : xv 24 = _ := pF_get (hd ⟨24, .data⟩ (by simp) rfl _ rfl)
       have d29 : xv 29 = _ := pF_get (hd ⟨29, .data⟩ (by simp) rfl _ rfl)
       simp only [d24, d29]
       go_simp))
     ·exact FactsG.of rfl (fun _ _ _ => trivial) (fun _ _ _ _ => rfl) (Facts.pureP hS hF (fun _ _ => rfl) rfl (fun xv wv hSw hd => by
       have d30 : xv 30 = _ := pF_get (hd ⟨30, .data⟩ (by simp) rfl _ rfl)
       simp only [d30]
       go_simp))
     ·exact FactsG.of rfl (fun _ _ _ => trivial) (fun xv wv hSw hd => by have dg : xv 31 = _ := pF_get (hd ⟨31, .guard⟩ (by simp) rfl _ rfl); simp only [dg]; rfl) (Facts.loadP hS hF (fun _ _ => rfl) 27 Tryz.underlying27 rfl zx _ rfl rfl (fun xv wv hSw hd => by rfl) (fun wv hSw => Rw.whole (cs := [Value.int .i64 x.k, .int .i64 x.b, va, vw, vm, ve]) (R0.later hSw)))
     ·refine FactsG.of rfl (fun _ _ _ => trivial) (fun xv wv hSw hd => by have dg : xv 31 = _ := pF_get (hd ⟨31, .guard⟩ (by simp) rfl _ rfl); simp only [dg]; rfl) (Facts.call1P hS hF (fun _ _ => rfl) rfl (by kernel_rfl) rfl (fun xv wv hSw hd => ?_))
      have d32 : xv 32 = _ := pF_get (hd ⟨32, .data⟩ (by simp) rfl _ rfl)
      show Calls Tryz.prog 14 #[xv 32] wv _
      rw [d32]
      exact (RX wv hSw).mono fun e w' h => reads_p h
     ·exact FactsG.of rfl (fun _ _ _ => trivial) (fun xv wv hSw hd => by have dg : xv 31 = _ := pF_get (hd ⟨31, .guard⟩ (by simp) rfl _ rfl); simp only [dg]; rfl) (Facts.pureP hS hF (fun _ _ => rfl) rfl (fun xv wv hSw hd => by
        obtain ⟨u9, d33, _⟩ := pF_get (hd ⟨33, .data⟩ (by simp) rfl _ rfl)
        unfold execOp
        simp [go_sem, Act.eval, d33, field46_0]))
     ·exact FactsG.of rfl (fun _ _ _ => trivial) (fun xv wv hSw hd => by have dg : xv 31 = _ := pF_get (hd ⟨31, .guard⟩ (by simp) rfl _ rfl); simp only [dg]; rfl) (Facts.pureP hS hF (fun _ _ => rfl) rfl (fun xv wv hSw hd => by
       go_simp))
     ·exact FactsG.of rfl (fun _ _ _ => trivial) (fun xv wv hSw hd => by have dg : xv 31 = _ := pF_get (hd ⟨31, .guard⟩ (by simp) rfl _ rfl); simp only [dg]; rfl) (Facts.pureP hS hF (fun _ _ => rfl) rfl (fun xv wv hSw hd => by
       have d35 : xv 35 = _ := pF_get (hd ⟨35, .data⟩ (by simp) rfl _ rfl)
       have g0 : wv.cell? ⟨q1, 0, none⟩ = some (.int .i64 x.k) := (B1'.later hSw).cell 0
       have g1 : wv.cell? ⟨q2, 0, none⟩ = some (.int .i64 x.k) := (B2'.later hSw).cell 0
       have g2 : wv.cell? ⟨q3, 0, none⟩ = some (.int .i64 x.k) := (B3'.later hSw).cell 0
       have g3 : wv.cell? ⟨w.heap.size, 0, none⟩ = some (.int .i64 x.k) := (R0.later hSw).cell 0
       simp only [d35]
       go_simp))
     ·exact FactsG.of rfl (fun _ _ _ => trivial) (fun xv wv hSw hd => by have dg : xv 31 = _ := pF_get (hd ⟨31, .guard⟩ (by simp) rfl _ rfl); simp only [dg]; rfl) (Facts.pureP hS hF (fun _ _ => rfl) rfl (fun xv wv hSw hd => by
       have d34 : xv 34 = _ := pF_get (hd ⟨34, .data⟩ (by simp) rfl _ rfl)
       have d36 : xv 36 = _ := pF_get (hd ⟨36, .data⟩ (by simp) rfl _ rfl)
       simp only [d34, d36]
       go_simp))
     ·exact FactsG.of rfl (fun _ _ _ => trivial) (fun _ _ _ _ => rfl) (Facts.pureP hS hF (fun _ _ => rfl) rfl (fun xv wv hSw hd => by
       have d31 : xv 31 = _ := pF_get (hd ⟨31, .data⟩ (by simp) rfl _ rfl)
       have d37 : xv 37 = _ := pF_get (hd ⟨37, .data⟩ (by simp) rfl _ rfl)
       simp only [d31, d37]
       go_simp))
     ·exact FactsG.of rfl (fun _ _ _ => trivial) (fun _ _ _ _ => rfl) (Facts.pureP hS hF (fun _ _ => rfl) rfl (fun xv wv hSw hd => by
       have d38 : xv 38 = _ := pF_get (hd ⟨38, .data⟩ (by simp) rfl _ rfl)
       simp only [d38]
       go_simp))
     ·exact FactsG.of rfl (fun _ _ _ => trivial) (fun xv wv hSw hd => by have dg : xv 39 = _ := pF_get (hd ⟨39, .guard⟩ (by simp) rfl _ rfl); simp only [dg]; rfl) (Facts.loadP hS hF (fun _ _ => rfl) 27 Tryz.underlying27 rfl zf _ rfl rfl (fun xv wv hSw hd => by rfl) (fun wv hSw => Rw.whole (cs := [Value.int .i64 x.k, .int .i64 kF.b, .slice c1 kF.am.length c2, .slice c3 kF.wr.length c4, .slice c5 kF.mb.length c6, .slice c7 kF.el.length c8]) (B3'.later hSw)))
     ·refine FactsG.of rfl (fun _ _ _ => trivial) (fun xv wv hSw hd => by have dg : xv 39 = _ := pF_get (hd ⟨39, .guard⟩ (by simp) rfl _ rfl); simp only [dg]; rfl) (Facts.call1P hS hF (fun _ _ => rfl) rfl (by kernel_rfl) rfl (fun xv wv hSw hd => ?_))
      have d40 : xv 40 = _ := pF_get (hd ⟨40, .data⟩ (by simp) rfl _ rfl)
      show Calls Tryz.prog 14 #[xv 40] wv _
      rw [d40]
      exact (RF wv hSw).mono fun e w' h => reads_p h
     ·exact FactsG.of rfl (fun _ _ _ => trivial) (fun xv wv hSw hd => by have dg : xv 39 = _ := pF_get (hd ⟨39, .guard⟩ (by simp) rfl _ rfl); simp only [dg]; rfl) (Facts.loadP hS hF (fun _ _ => rfl) 27 Tryz.underlying27 rfl zx _ rfl rfl (fun xv wv hSw hd => by rfl) (fun wv hSw => Rw.whole (cs := [Value.int .i64 x.k, .int .i64 x.b, va, vw, vm, ve]) (R0.later hSw)))
     ·refine FactsG.of rfl (fun _ _ _ => trivial) (fun xv wv hSw hd => by have dg : xv 39 = _ := pF_get (hd ⟨39, .guard⟩ (by simp) rfl _ rfl); simp only [dg]; rfl) (Facts.call1P hS hF (fun _ _ => rfl) rfl (by kernel_rfl) rfl (fun xv wv hSw hd => ?_))
      have d42 : xv 42 = _ := pF_get (hd ⟨42, .data⟩ (by simp) rfl _ rfl)
      show Calls Tryz.prog 14 #[xv 42] wv _
      rw [d42]
      exact (RX wv hSw).mono fun e w' h => reads_p h
     ·refine FactsG.of rfl (fun _ _ _ => trivial) (fun xv wv hSw hd => by have dg : xv 39 = _ := pF_get (hd ⟨39, .guard⟩ (by simp) rfl _ rfl); simp only [dg]; rfl) (Facts.call2P hS hF (fun _ _ => rfl) rfl (by kernel_rfl) rfl (fun xv wv hSw hd => ?_))
      have d41 := pF_get (hd ⟨41, .data⟩ (by simp) rfl _ rfl)
      have d43 := pF_get (hd ⟨43, .data⟩ (by simp) rfl _ rfl)
      show Calls Tryz.prog 13 #[xv 41, xv 43] wv _
      obtain ⟨u6, e6, h6⟩ := d41
      obtain ⟨u8, e8, h8⟩ := d43
      rw [e6, e8]
      exact (values_any x.k rn u6 u8 rt wv h6 h8).mono fun e w' h => tells_p h
     ·exact FactsG.of rfl (fun _ _ _ => trivial) (fun _ _ _ _ => rfl) (Facts.pureP hS hF (fun _ _ => rfl) rfl (fun xv wv hSw hd => by
       have d39 : xv 39 = _ := pF_get (hd ⟨39, .data⟩ (by simp) rfl _ rfl)
       have d44 : xv 44 = _ := pF_get (hd ⟨44, .data⟩ (by simp) rfl _ rfl)
       simp only [d39, d44]
       go_simp))
     ·exact FactsG.of rfl (fun _ _ _ => trivial) (fun _ _ _ _ => rfl) (Facts.pureP hS hF (fun _ _ => rfl) rfl (fun xv wv hSw hd => by
       have d45 : xv 45 = _ := pF_get (hd ⟨45, .data⟩ (by simp) rfl _ rfl)
       simp only [d45]
       go_simp))
     ·refine FactsG.of rfl (fun _ _ _ => trivial) (fun xv wv hSw hd => by have dg : xv 46 = _ := pF_get (hd ⟨46, .guard⟩ (by simp) rfl _ rfl); simp only [dg]; rfl) (Facts.call0P hS hF (fun _ _ => rfl) rfl (by kernel_rfl) rfl (fun xv wv hSw hd => ?_))
      exact (heads_any wv).mono fun e w' h => tells_p h
     ·exact FactsG.of rfl (fun _ _ _ => trivial) (fun _ _ _ _ => rfl) (Facts.pureP hS hF (fun _ _ => rfl) rfl (fun xv wv hSw hd => by
       have d46 : xv 46 = _ := pF_get (hd ⟨46, .data⟩ (by simp) rfl _ rfl)
       have d47 : xv 47 = _ := pF_get (hd ⟨47, .data⟩ (by simp) rfl _ rfl)
       simp only [d46, d47]
       go_simp))
     ·exact FactsG.of rfl (fun _ _ _ => trivial) (fun _ _ _ _ => rfl) (Facts.pureP hS hF (fun _ _ => rfl) rfl (fun xv wv hSw hd => by
       have d48 : xv 48 = _ := pF_get (hd ⟨48, .data⟩ (by simp) rfl _ rfl)
       simp only [d48]
       go_simp))
     intro x8 w8 hb8 hf
     have e49 : x8 49 = _ := pF_get (hf 49 _ (by decide) rfl)
     rw [e49]
     go_wp2_with fail
     go_ret
     exact ⟨rfl, below_on hb hb8⟩
end Go.Proofs.YtjbbmcommnhgeaaGreat
