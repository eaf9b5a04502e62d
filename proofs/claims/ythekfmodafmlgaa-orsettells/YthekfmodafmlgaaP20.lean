import Derived.Test.YthekfmodafmlgaaP19
/- Same of the document's answer: what is the same is told so. -/
namespace Go.Proofs.Ythekfmodafmlgaa
open Go.RowKit

theorem AHas.elem {w : World} {l : List A} {g o : Nat} (h : w.rangeAt g o (rows A.cells l)) (k : Nat) (hk : k < l.length) : w.rangeAt g (o + k * 4) l[k].cells :=
  range_sub h (k * 4) fun j u hu => rows_at A.len l k hk j u hu
/-- Two new boxes are not one. -/
def R2 (a b : Nat) (i j : Nat) (u v : Value) : Prop := ((i = a ∧ j = b) ∨ (i = b ∧ j = a)) → u ≠ v
theorem R2_symm (a b : Nat) : ∀ i j u v, R2 a b i j u v → R2 a b j i v u := fun _ _ _ _ h k => (h (by omega)).symm
def newP (N : Nat) (t : TypeId) (n : Nat) : Value → World → Prop := fun u w => ∃ q cs, u = .pointer (some ⟨q, 0, none⟩) ∧ N ≤ q ∧ Rw w q t cs ∧ cs.size = n
theorem newP_keeps (N : Nat) (t : TypeId) (n : Nat) : Keeps (newP N t n) := fun _ _ _ ⟨q, cs, e, hN, h, hc⟩ hb => ⟨q, cs, e, hN, h.later hb, hc⟩
theorem wp_store_r {op : Oper} {a : Act} {w : World} {K : Act → World → Prop} {Q : Exit → Act → World → Prop} (t : TypeId) (x y : Operand) (ho : op.op = .store t x y) (b : Nat) (cs' : Array Value) (hx : a.eval x = .pointer (some ⟨b, 0, none⟩)) (hy : a.eval y = .agg cs') {cs : Array Value} (hc : Rw w b t cs) (hi : (Try.prog.info? t).map (·.size) = some cs'.size) (hs : cs.size = cs'.size) (h1 : cs'.all (·.oneCell') = true)
    (h : K (a.put op.dst undef) (w.setRow b cs')) : op.wp Try.prog a w K Q := by
  unfold Oper.wp execOp
  simp only [ho, hx, hy, Sem.run_bind, hc.store cs' hi hs h1, Result.andThen_ok, Sem.run_pure]
  exact h
section
variable {Q : Exit → Act → World → Prop} {S : World → Prop} {md : Region.Mode} {A : (Nat → Value) → Act} {F : List Facts.Fact} {i : Nat} {o : Oper} {l : List Oper}
/-- One of two new boxes. -/
theorem FactsG.alloc2 (hi : l[i]? = some o) (hg : o.guard = none) (hS : Calm.Stays S) (hF : Facts.Stay F) (hA : ∀ x u, (A x).put o.dst u = A (Facts.put x i u)) (t : TypeId) {N n : Nat} {cs : Array Value} (hf : F[i]? = some (pF i (newP N t n))) (hc : cs.size = n) (hN : ∀ w, S w → N ≤ w.heap.size)
    (h : ∀ x w, (execOp (A x).eval o).run Try.prog w = .ok (.value (.pointer (some ⟨w.heap.size, 0, none⟩))) (w.alloc (.cells cs t))) {a b : Nat} (hab : ∀ j f, F[j]? = some f → (i = a ∧ j = b) ∨ (i = b ∧ j = a) → ∃ t' n', f = pF j (newP N t' n')) : FactsG.StepOk Try.prog md l Q S A F (R2 a b) i o := by
  refine FactsG.ofR hi (fun x w _ _ => by simp [Region.wanted, hg]) (fun x w hSw _ _ => ?_)
  unfold Oper.wp
  rw [h x w]
  have hb := bel_alloc (Below.refl w.heap.size w) (.cells cs t)
  refine ⟨_, hA x _, hS _ _ hSw hb, fun f hf' => ?_, fun j f _ hj hh => hF j f hj _ _ _ hh hb, fun j f _ hj hh hab' => ?_⟩
  · rw [hf] at hf'
    obtain rfl := Option.some.inj hf'
    exact pF_put ⟨_, cs, rfl, hN w hSw, rw_new w t cs, hc⟩
  · obtain ⟨t', n', rfl⟩ := hab j f hj hab'
    obtain ⟨q, cs', e, _, hq, _⟩ := pF_get hh
    rw [e]
    intro e2
    simp only [Value.pointer.injEq, Option.some.injEq, Addr.mk.injEq] at e2
    have := hq.lt
    omega
end
set_option maxHeartbeats 8000000 in
set_option maxRecDepth 100000 in
theorem same_any (x : X) (va vw vm ve ua uw um ue : Value) (w : World) (h1 : Four w x va vw vm ve) (h2 : Four w x ua uw um ue) (hs : Sm x) : Calls Try.prog 16 #[CV x.k x.b va vw vm ve, CV x.k x.b ua uw um ue] w (Tells (.bool true) w) := by
  obtain ⟨pa, ca', pw, cw, pm, cm, pe, ce, rfl, rfl, rfl, rfl⟩ := h1.slices
  obtain ⟨qa, da, qw, dw, qm, dm, qe, de, rfl, rfl, rfl, rfl⟩ := h2.slices
  have H1 : Hid (Four w x (.slice pa x.am.length ca') (.slice pw x.wr.length cw) (.slice pm x.mb.length cm) (.slice pe x.el.length ce)) := h1
  have H2 : Hid (Four w x (.slice qa x.am.length da) (.slice qw x.wr.length dw) (.slice qm x.mb.length dm) (.slice qe x.el.length de)) := h2
  clear h1 h2
  have la := hs.a
  have lw := hs.t
  have le := hs.e
  clear hs
  obtain ⟨R0, R1, hbel⟩ := two_rows w (cvc x.k x.b (.slice pa x.am.length ca') (.slice pw x.wr.length cw) (.slice pm x.mb.length cm) (.slice pe x.el.length ce)) 27 (cvc x.k x.b (.slice qa x.am.length da) (.slice qw x.wr.length dw) (.slice qm x.mb.length dm) (.slice qe x.el.length de)) 27
  generalize hW : (w.alloc (.cells (cvc x.k x.b (.slice pa x.am.length ca') (.slice pw x.wr.length cw) (.slice pm x.mb.length cm) (.slice pe x.el.length ce)) 27)).alloc (.cells (cvc x.k x.b (.slice qa x.am.length da) (.slice qw x.wr.length dw) (.slice qm x.mb.length dm) (.slice qe x.el.length de)) 27) = w0 at R0 R1 hbel
  have c0 : w0.cell? ⟨w.heap.size, 0, none⟩ = some (.int .i64 x.k) := R0.cell 0
  have c1 : w0.cell? ⟨w.heap.size, 1, none⟩ = some (.int .i64 x.b) := R0.cell 1
  have c2 : w0.cell? ⟨w.heap.size, 2, none⟩ = some (.slice pa x.am.length ca') := R0.cell 2
  have c3 : w0.cell? ⟨w.heap.size, 3, none⟩ = some (.slice pw x.wr.length cw) := R0.cell 3
  have c4 : w0.cell? ⟨w.heap.size, 4, none⟩ = some (.slice pm x.mb.length cm) := R0.cell 4
  have c5 : w0.cell? ⟨w.heap.size, 5, none⟩ = some (.slice pe x.el.length ce) := R0.cell 5
  have e0 : w0.cell? ⟨w.heap.size + 1, 0, none⟩ = some (.int .i64 x.k) := R1.cell 0
  have e1 : w0.cell? ⟨w.heap.size + 1, 1, none⟩ = some (.int .i64 x.b) := R1.cell 1
  have e2 : w0.cell? ⟨w.heap.size + 1, 2, none⟩ = some (.slice qa x.am.length da) := R1.cell 2
  have e3 : w0.cell? ⟨w.heap.size + 1, 3, none⟩ = some (.slice qw x.wr.length dw) := R1.cell 3
  have e4 : w0.cell? ⟨w.heap.size + 1, 4, none⟩ = some (.slice qm x.mb.length dm) := R1.cell 4
  have e5 : w0.cell? ⟨w.heap.size + 1, 5, none⟩ = some (.slice qe x.el.length de) := R1.cell 5
  go_enter Try.func16, Try.ntmps16
  go_wp2_with (first | rw [hW])
  clear hW c0 c1 c2 c3 c4 c5 e0 e1 e2 e3 e4 e5
  refine (members_any _ _ x.mb w0 (H1.out.m.later hbel) (H2.out.m.later hbel)).mono ?_
  rintro e w1 ⟨rfl, hb1⟩
  replace R0 := R0.later hb1
  replace R1 := R1.later hb1
  replace hbel := below_on hbel hb1
  clear hb1
  go_wp2_with fail
  go_loopw [5] (fun vi wr => ∃ k : Nat, vi = .int .i64 k ∧ k ≤ x.am.length ∧ Rw wr w.heap.size 27 (cvc x.k x.b (.slice pa x.am.length ca') (.slice pw x.wr.length cw) (.slice pm x.mb.length cm) (.slice pe x.el.length ce)) ∧ Rw wr (w.heap.size + 1) 27 (cvc x.k x.b (.slice qa x.am.length da) (.slice qw x.wr.length dw) (.slice qm x.mb.length dm) (.slice qe x.el.length de)) ∧ Below w.heap.size w wr) (fun vi _ => x.am.length - (intOf vi).toNat)
  case atStart => exact ⟨0, rfl, by omega, R0, R1, hbel⟩
  case round =>
    clear R0 R1 hbel
    obtain ⟨k, rfl, hk, R0, R1, hbel⟩ := hrel
    have c2 : wr.cell? ⟨w.heap.size, 2, none⟩ = some (.slice pa x.am.length ca') := R0.cell 2
    by_cases hlt : k < x.am.length
    · have hlt' : (k : Int) < (x.am.length : Int) := by omega
      obtain ⟨g1, o1, rfl, hd1⟩ := H1.out.a.at (by omega)
      obtain ⟨g2, o2, rfl, hd2⟩ := H2.out.a.at (by omega)
      have d1 := AHas.elem (range_later hd1 hbel) k hlt
      have d2 := AHas.elem (range_later hd2 hbel) k hlt
      obtain ⟨y, HY⟩ := hid_ex x.am[k]
      rw [HY.out] at d1 d2
      clear hd1 hd2 HY
      have E := fun w => same_amount w y.p y.s y.i y.n
      have zm : (Try.prog.info? 73).map (·.size) = some y.cells.length := size73
      go_wp2_with fail
      clear c2
      have hs : Calm.Stays (fun w' => Rw w' w.heap.size 27 (cvc x.k x.b (.slice (some ⟨g1, o1, none⟩) x.am.length ca') (.slice pw x.wr.length cw) (.slice pm x.mb.length cm) (.slice pe x.el.length ce)) ∧ Rw w' (w.heap.size + 1) 27 (cvc x.k x.b (.slice (some ⟨g2, o2, none⟩) x.am.length da) (.slice qw x.wr.length dw) (.slice qm x.mb.length dm) (.slice qe x.el.length de)) ∧ w'.rangeAt g1 (o1 + k * 4) y.cells ∧ w'.rangeAt g2 (o2 + k * 4) y.cells ∧ Below w.heap.size w w') := fun wa wb h hb => ⟨h.1.later hb, h.2.1.later hb, range_later h.2.2.1 hb, range_later h.2.2.2.1 hb, below_on h.2.2.2.2 hb⟩
      refine Calm.region (by kernel_rfl) (by kernel_rfl) (fun w' => Rw w' w.heap.size 27 (cvc x.k x.b (.slice (some ⟨g1, o1, none⟩) x.am.length ca') (.slice pw x.wr.length cw) (.slice pm x.mb.length cm) (.slice pe x.el.length ce)) ∧ Rw w' (w.heap.size + 1) 27 (cvc x.k x.b (.slice (some ⟨g2, o2, none⟩) x.am.length da) (.slice qw x.wr.length dw) (.slice qm x.mb.length dm) (.slice qe x.el.length de)) ∧ w'.rangeAt g1 (o1 + k * 4) y.cells ∧ w'.rangeAt g2 (o2 + k * 4) y.cells ∧ Below w.heap.size w w') ⟨R0, R1, d1, d2, hbel.drew⟩ ?_
      all_goals
        refine Calm.pure (v := ?_) (by rfl) ?_ ?_
        rotate_left
        focus (intro w hSw; go_simp <;> rfl)
        simp only [Act.put, List.setIfInBounds_toArray, List.set_cons_zero, List.set_cons_succ]
      all_goals
        refine Calm.pure (v := ?_) (by rfl) ?_ ?_
        rotate_left
        focus (intro w hSw; have g1 := hSw.1.cell 2; simp at g1; go_simp <;> rfl)
        simp only [Act.put, List.setIfInBounds_toArray, List.set_cons_zero, List.set_cons_succ]
      all_goals
        refine Calm.pure (v := ?_) (by rfl) ?_ ?_
        rotate_left
        focus (intro w hSw; go_simp <;> rfl)
        simp only [Act.put, List.setIfInBounds_toArray, List.set_cons_zero, List.set_cons_succ]
      all_goals
        refine Calm.pure (v := ?_) (by rfl) ?_ ?_
        rotate_left
        focus (intro w hSw; go_simp <;> rfl)
        simp only [Act.put, List.setIfInBounds_toArray, List.set_cons_zero, List.set_cons_succ]
      all_goals
        first | (refine Calm.loadM 73 Try.underlying73 rfl zm (by rfl) _ rfl rfl (fun _ h => h.2.2.1) ?_) | (refine Calm.loadM 73 Try.underlying73 rfl zm (by rfl) _ rfl rfl (fun _ h => h.2.2.2.1) ?_)
        simp only [Act.put, List.setIfInBounds_toArray, List.set_cons_zero, List.set_cons_succ]
      all_goals
        refine Calm.pure (v := ?_) (by rfl) ?_ ?_
        rotate_left
        focus (intro w hSw; go_simp <;> rfl)
        simp only [Act.put, List.setIfInBounds_toArray, List.set_cons_zero, List.set_cons_succ]
      all_goals
        refine Calm.pure (v := ?_) (by rfl) ?_ ?_
        rotate_left
        focus (intro w hSw; have g1 := hSw.2.1.cell 2; simp at g1; go_simp <;> rfl)
        simp only [Act.put, List.setIfInBounds_toArray, List.set_cons_zero, List.set_cons_succ]
      all_goals
        refine Calm.pure (v := ?_) (by rfl) ?_ ?_
        rotate_left
        focus (intro w hSw; go_simp <;> rfl)
        simp only [Act.put, List.setIfInBounds_toArray, List.set_cons_zero, List.set_cons_succ]
      all_goals
        refine Calm.pure (v := ?_) (by rfl) ?_ ?_
        rotate_left
        focus (intro w hSw; go_simp <;> rfl)
        simp only [Act.put, List.setIfInBounds_toArray, List.set_cons_zero, List.set_cons_succ]
      all_goals
        first | (refine Calm.loadM 73 Try.underlying73 rfl zm (by rfl) _ rfl rfl (fun _ h => h.2.2.1) ?_) | (refine Calm.loadM 73 Try.underlying73 rfl zm (by rfl) _ rfl rfl (fun _ h => h.2.2.2.1) ?_)
        simp only [Act.put, List.setIfInBounds_toArray, List.set_cons_zero, List.set_cons_succ]
      all_goals
        refine Calm.pure (v := ?_) (by rfl) ?_ ?_
        rotate_left
        focus (intro w hSw; go_simp <;> rfl)
        simp only [Act.put, List.setIfInBounds_toArray, List.set_cons_zero, List.set_cons_succ]
      all_goals
        rintro w9 ⟨R09, R19, _, _, hbel9⟩
      go_wp2_with fail
      go_roundw
      case rel => exact ⟨k + 1, by simp, by omega, R09, R19, hbel9⟩
      case measure => simp [intOf]; omega
    · obtain rfl : k = x.am.length := by omega
      have hlt' : ¬ (x.am.length : Int) < (x.am.length : Int) := by omega
      go_wp2_with fail
      clear c2
      go_loopw [6] (fun vi wr => ∃ k : Nat, vi = .int .i64 k ∧ k ≤ x.wr.length ∧ Rw wr w.heap.size 27 (cvc x.k x.b (.slice pa x.am.length ca') (.slice pw x.wr.length cw) (.slice pm x.mb.length cm) (.slice pe x.el.length ce)) ∧ Rw wr (w.heap.size + 1) 27 (cvc x.k x.b (.slice qa x.am.length da) (.slice qw x.wr.length dw) (.slice qm x.mb.length dm) (.slice qe x.el.length de)) ∧ Below w.heap.size w wr) (fun vi _ => x.wr.length - (intOf vi).toNat)
      case atStart => exact ⟨0, rfl, by omega, R0, R1, hbel⟩
      case round =>
        clear R0 R1 hbel hlt hlt'
        obtain ⟨k, rfl, hk, R0, R1, hbel⟩ := hrel
        have c3 : wr.cell? ⟨w.heap.size, 3, none⟩ = some (.slice pw x.wr.length cw) := R0.cell 3
        by_cases hlt : k < x.wr.length
        · have hlt' : (k : Int) < (x.wr.length : Int) := by omega
          obtain ⟨g1, o1, rfl, hd1⟩ := H1.out.t.at (by omega)
          obtain ⟨g2, o2, rfl, hd2⟩ := H2.out.t.at (by omega)
          have d1 := Wt.elem (range_later hd1 hbel) k hlt
          have d2 := Wt.elem (range_later hd2 hbel) k hlt
          obtain ⟨y, HY⟩ := hid_ex x.wr[k]
          rw [HY.out] at d1 d2
          clear hd1 hd2 HY
          have E := fun w => same_write w y
          have zm : (Try.prog.info? 61).map (·.size) = some y.cells.length := size61
          go_wp2_with fail
          clear c3
          have hs : Calm.Stays (fun w' => Rw w' w.heap.size 27 (cvc x.k x.b (.slice pa x.am.length ca') (.slice (some ⟨g1, o1, none⟩) x.wr.length cw) (.slice pm x.mb.length cm) (.slice pe x.el.length ce)) ∧ Rw w' (w.heap.size + 1) 27 (cvc x.k x.b (.slice qa x.am.length da) (.slice (some ⟨g2, o2, none⟩) x.wr.length dw) (.slice qm x.mb.length dm) (.slice qe x.el.length de)) ∧ w'.rangeAt g1 (o1 + k * 5) y.cells ∧ w'.rangeAt g2 (o2 + k * 5) y.cells ∧ Below w.heap.size w w') := fun wa wb h hb => ⟨h.1.later hb, h.2.1.later hb, range_later h.2.2.1 hb, range_later h.2.2.2.1 hb, below_on h.2.2.2.2 hb⟩
          refine Calm.region (by kernel_rfl) (by kernel_rfl) (fun w' => Rw w' w.heap.size 27 (cvc x.k x.b (.slice pa x.am.length ca') (.slice (some ⟨g1, o1, none⟩) x.wr.length cw) (.slice pm x.mb.length cm) (.slice pe x.el.length ce)) ∧ Rw w' (w.heap.size + 1) 27 (cvc x.k x.b (.slice qa x.am.length da) (.slice (some ⟨g2, o2, none⟩) x.wr.length dw) (.slice qm x.mb.length dm) (.slice qe x.el.length de)) ∧ w'.rangeAt g1 (o1 + k * 5) y.cells ∧ w'.rangeAt g2 (o2 + k * 5) y.cells ∧ Below w.heap.size w w') ⟨R0, R1, d1, d2, hbel.drew⟩ ?_
          all_goals
            refine Calm.pure (v := ?_) (by rfl) ?_ ?_
            rotate_left
            focus (intro w hSw; go_simp <;> rfl)
            simp only [Act.put, List.setIfInBounds_toArray, List.set_cons_zero, List.set_cons_succ]
          all_goals
            refine Calm.pure (v := ?_) (by rfl) ?_ ?_
            rotate_left
            focus (intro w hSw; have g1 := hSw.1.cell 3; simp at g1; go_simp <;> rfl)
            simp only [Act.put, List.setIfInBounds_toArray, List.set_cons_zero, List.set_cons_succ]
          all_goals
            refine Calm.pure (v := ?_) (by rfl) ?_ ?_
            rotate_left
            focus (intro w hSw; go_simp <;> rfl)
            simp only [Act.put, List.setIfInBounds_toArray, List.set_cons_zero, List.set_cons_succ]
          all_goals
            refine Calm.pure (v := ?_) (by rfl) ?_ ?_
            rotate_left
            focus (intro w hSw; go_simp <;> rfl)
            simp only [Act.put, List.setIfInBounds_toArray, List.set_cons_zero, List.set_cons_succ]
          all_goals
            first | (refine Calm.loadM 61 Try.underlying61 rfl zm (by rfl) _ rfl rfl (fun _ h => h.2.2.1) ?_) | (refine Calm.loadM 61 Try.underlying61 rfl zm (by rfl) _ rfl rfl (fun _ h => h.2.2.2.1) ?_)
            simp only [Act.put, List.setIfInBounds_toArray, List.set_cons_zero, List.set_cons_succ]
          all_goals
            refine Calm.pure (v := ?_) (by rfl) ?_ ?_
            rotate_left
            focus (intro w hSw; go_simp <;> rfl)
            simp only [Act.put, List.setIfInBounds_toArray, List.set_cons_zero, List.set_cons_succ]
          all_goals
            refine Calm.pure (v := ?_) (by rfl) ?_ ?_
            rotate_left
            focus (intro w hSw; have g1 := hSw.2.1.cell 3; simp at g1; go_simp <;> rfl)
            simp only [Act.put, List.setIfInBounds_toArray, List.set_cons_zero, List.set_cons_succ]
          all_goals
            refine Calm.pure (v := ?_) (by rfl) ?_ ?_
            rotate_left
            focus (intro w hSw; go_simp <;> rfl)
            simp only [Act.put, List.setIfInBounds_toArray, List.set_cons_zero, List.set_cons_succ]
          all_goals
            refine Calm.pure (v := ?_) (by rfl) ?_ ?_
            rotate_left
            focus (intro w hSw; go_simp <;> rfl)
            simp only [Act.put, List.setIfInBounds_toArray, List.set_cons_zero, List.set_cons_succ]
          all_goals
            first | (refine Calm.loadM 61 Try.underlying61 rfl zm (by rfl) _ rfl rfl (fun _ h => h.2.2.1) ?_) | (refine Calm.loadM 61 Try.underlying61 rfl zm (by rfl) _ rfl rfl (fun _ h => h.2.2.2.1) ?_)
            simp only [Act.put, List.setIfInBounds_toArray, List.set_cons_zero, List.set_cons_succ]
          all_goals
            refine Calm.pure (v := ?_) (by rfl) ?_ ?_
            rotate_left
            focus (intro w hSw; go_simp <;> rfl)
            simp only [Act.put, List.setIfInBounds_toArray, List.set_cons_zero, List.set_cons_succ]
          all_goals
            rintro w9 ⟨R09, R19, _, _, hbel9⟩
          go_wp2_with fail
          go_roundw
          case rel => exact ⟨k + 1, by simp, by omega, R09, R19, hbel9⟩
          case measure => simp [intOf]; omega
        · obtain rfl : k = x.wr.length := by omega
          have hlt' : ¬ (x.wr.length : Int) < (x.wr.length : Int) := by omega
          go_wp2_with fail
          clear c3
          go_loopw [7] (fun vi wr => ∃ k : Nat, vi = .int .i64 k ∧ k ≤ x.el.length ∧ Rw wr w.heap.size 27 (cvc x.k x.b (.slice pa x.am.length ca') (.slice pw x.wr.length cw) (.slice pm x.mb.length cm) (.slice pe x.el.length ce)) ∧ Rw wr (w.heap.size + 1) 27 (cvc x.k x.b (.slice qa x.am.length da) (.slice qw x.wr.length dw) (.slice qm x.mb.length dm) (.slice qe x.el.length de)) ∧ Below w.heap.size w wr) (fun vi _ => x.el.length - (intOf vi).toNat)
          case atStart => exact ⟨0, rfl, by omega, R0, R1, hbel⟩
          case round =>
            clear R0 R1 hbel hlt hlt'
            obtain ⟨k, rfl, hk, R0, R1, hbel⟩ := hrel
            have c5 : wr.cell? ⟨w.heap.size, 5, none⟩ = some (.slice pe x.el.length ce) := R0.cell 5
            by_cases hlt : k < x.el.length
            · have hlt' : (k : Int) < (x.el.length : Int) := by omega
              obtain ⟨m1, e1, s1, t1⟩ := H1.out.e
              obtain ⟨m2, e2, s2, t2⟩ := H2.out.e
              have hl1 : m1.length = x.el.length := by rw [← e1, List.length_map]
              have hl2 : m2.length = x.el.length := by rw [← e2, List.length_map]
              obtain ⟨g1, o1, rfl, hd1⟩ := s1.at (by omega)
              obtain ⟨g2, o2, rfl, hd2⟩ := s2.at (by omega)
              have d1 := El.elem (range_later hd1 hbel) k (by omega)
              have d2 := El.elem (range_later hd2 hbel) k (by omega)
              have q1 := (t1 m1[k] (List.getElem_mem _)).later hbel
              have q2 := (t2 m2[k] (List.getElem_mem _)).later hbel
              have f1 : m1[k].1 = x.el[k] := by simp only [← e1, List.getElem_map]
              have f2 : m2[k].1 = x.el[k] := by simp only [← e2, List.getElem_map]
              obtain ⟨y1, HY1⟩ := hid_ex m1[k]
              obtain ⟨y2, HY2⟩ := hid_ex m2[k]
              rw [HY1.out] at d1 q1 f1
              rw [HY2.out] at d2 q2 f2
              obtain ⟨a1, u1⟩ := y1
              obtain ⟨a2, u2⟩ := y2
              replace f1 : a1 = x.el[k] := f1
              replace f2 : a2 = x.el[k] := f2
              obtain ⟨y, HY⟩ := hid_ex x.el[k]
              rw [HY.out] at f1 f2
              subst f1
              subst f2
              replace q1 : MHas wr u1 a2.gone := q1
              replace q2 : MHas wr u2 a2.gone := q2
              obtain ⟨x1, z1, rfl⟩ := q1.slice
              obtain ⟨x2, z2, rfl⟩ := q2.slice
              clear hd1 hd2 HY HY1 HY2 s1 s2 t1 t2 e1 e2
              replace d1 : wr.rangeAt g1 (o1 + k * 9) [.int .i64 a2.p, .int .i64 a2.s, .int .i64 a2.i, .int .i64 a2.t, .int .i64 a2.q, .int .i64 a2.u, .int .i64 a2.j, .string a2.x, .slice x1 a2.gone.length z1] := d1
              replace d2 : wr.rangeAt g2 (o2 + k * 9) [.int .i64 a2.p, .int .i64 a2.s, .int .i64 a2.i, .int .i64 a2.t, .int .i64 a2.q, .int .i64 a2.u, .int .i64 a2.j, .string a2.x, .slice x2 a2.gone.length z2] := d2
              have ze1 : (Try.prog.info? 63).map (·.size) = some ([.int .i64 a2.p, .int .i64 a2.s, .int .i64 a2.i, .int .i64 a2.t, .int .i64 a2.q, .int .i64 a2.u, .int .i64 a2.j, .string a2.x, .slice x1 a2.gone.length z1] : List Value).length := size63
              have ze2 : (Try.prog.info? 63).map (·.size) = some ([.int .i64 a2.p, .int .i64 a2.s, .int .i64 a2.i, .int .i64 a2.t, .int .i64 a2.q, .int .i64 a2.u, .int .i64 a2.j, .string a2.x, .slice x2 a2.gone.length z2] : List Value).length := size63
              go_wp2_with fail
              clear c5
              have hS : Calm.Stays (fun w' => Below wr.heap.size wr w') := fun wa wb h hb => below_on h hb
              have hF : Facts.Stay [pF 0 (eqP (.pointer (some ⟨w.heap.size, 5, none⟩))), pF 1 (eqP (.slice (some ⟨g1, o1, none⟩) x.el.length ce)), pF 2 (eqP (.int .i64 k)), pF 3 (eqP (.pointer (some ⟨g1, o1 + k * 9, none⟩))), pF 4 (eqP (.agg ([.int .i64 a2.p, .int .i64 a2.s, .int .i64 a2.i, .int .i64 a2.t, .int .i64 a2.q, .int .i64 a2.u, .int .i64 a2.j, .string a2.x, .slice x1 a2.gone.length z1] : List Value).toArray)), pF 5 (eqP (.pointer (some ⟨w.heap.size + 1, 5, none⟩))), pF 6 (eqP (.slice (some ⟨g2, o2, none⟩) x.el.length de)), pF 7 (eqP (.int .i64 k)), pF 8 (eqP (.pointer (some ⟨g2, o2 + k * 9, none⟩))), pF 9 (eqP (.agg ([.int .i64 a2.p, .int .i64 a2.s, .int .i64 a2.i, .int .i64 a2.t, .int .i64 a2.q, .int .i64 a2.u, .int .i64 a2.j, .string a2.x, .slice x2 a2.gone.length z2] : List Value).toArray)), pF 10 (newP wr.heap.size 63 9), pF 11 (newP wr.heap.size 63 9), pF 10 (boxP wr.heap.size 63 ([.int .i64 a2.p, .int .i64 a2.s, .int .i64 a2.i, .int .i64 a2.t, .int .i64 a2.q, .int .i64 a2.u, .int .i64 a2.j, .string a2.x, .slice x1 a2.gone.length z1] : List Value).toArray), pF 11 (boxP wr.heap.size 63 ([.int .i64 a2.p, .int .i64 a2.s, .int .i64 a2.i, .int .i64 a2.t, .int .i64 a2.q, .int .i64 a2.u, .int .i64 a2.j, .string a2.x, .slice x2 a2.gone.length z2] : List Value).toArray)] := stay_of (by simp only [List.forall_mem_cons]; exact ⟨⟨_, _, rfl, eqP_keeps _⟩, ⟨_, _, rfl, eqP_keeps _⟩, ⟨_, _, rfl, eqP_keeps _⟩, ⟨_, _, rfl, eqP_keeps _⟩, ⟨_, _, rfl, eqP_keeps _⟩, ⟨_, _, rfl, eqP_keeps _⟩, ⟨_, _, rfl, eqP_keeps _⟩, ⟨_, _, rfl, eqP_keeps _⟩, ⟨_, _, rfl, eqP_keeps _⟩, ⟨_, _, rfl, eqP_keeps _⟩, ⟨_, _, rfl, newP_keeps _ _ _⟩, ⟨_, _, rfl, newP_keeps _ _ _⟩, ⟨_, _, rfl, boxP_keeps _ _ _⟩, ⟨_, _, rfl, boxP_keeps _ _ _⟩, fun _ h => by cases h⟩)
              refine FactsG.region (by kernel_rfl) (by kernel_rfl) (fun w' => Below wr.heap.size wr w') (fun xv => { tmps := #[CV x.k x.b (Value.slice pa x.am.length ca') (Value.slice pw x.wr.length cw) (Value.slice pm x.mb.length cm) (Value.slice (some { block := g1, off := o1 }) x.el.length ce), CV x.k x.b (Value.slice qa x.am.length da) (Value.slice qw x.wr.length dw) (Value.slice qm x.mb.length dm) (Value.slice (some { block := g2, off := o2 }) x.el.length de), Value.pointer (some { block := w.heap.size, off := 0 }), Value.pointer (some { block := w.heap.size + 1, off := 0 }), u4, Value.int IntKind.i64 ↑x.am.length, Value.int IntKind.i64 ↑x.wr.length, Value.int IntKind.i64 ↑k, xv 10, xv 11, Value.pointer (some { block := w.heap.size, off := 0 }), Value.int IntKind.i64 x.k, Value.pointer (some { block := w.heap.size + 1, off := 0 }), Value.int IntKind.i64 x.k, Value.bool false, Value.bool false, Value.pointer (some { block := w.heap.size, off := 1 }), Value.int IntKind.i64 x.b, Value.pointer (some { block := w.heap.size + 1, off := 1 }), Value.int IntKind.i64 x.b, Value.bool false, Value.bool false, Value.bool false, Value.pointer (some { block := w.heap.size, off := 2 }), Value.slice pa x.am.length ca', Value.int IntKind.i64 ↑x.am.length, Value.pointer (some { block := w.heap.size + 1, off := 2 }), Value.slice qa x.am.length da, Value.int IntKind.i64 ↑x.am.length, Value.bool false, Value.bool false, Value.bool false, Value.pointer (some { block := w.heap.size, off := 3 }), Value.slice pw x.wr.length cw, Value.int IntKind.i64 ↑x.wr.length, Value.pointer (some { block := w.heap.size + 1, off := 3 }), Value.slice qw x.wr.length dw, Value.int IntKind.i64 ↑x.wr.length, Value.bool false, Value.bool false, Value.bool false, Value.pointer (some { block := w.heap.size, off := 5 }), Value.slice (some { block := g1, off := o1 }) x.el.length ce, Value.int IntKind.i64 ↑x.el.length, Value.pointer (some { block := w.heap.size + 1, off := 5 }), Value.slice (some { block := g2, off := o2 }) x.el.length de, Value.int IntKind.i64 ↑x.el.length, Value.bool false, Value.bool false, Value.bool false, Value.pointer (some { block := w.heap.size, off := 4 }), Value.slice pm x.mb.length cm, Value.pointer (some { block := w.heap.size + 1, off := 4 }), Value.slice qm x.mb.length dm, Value.bool true, Value.bool false, Value.bool false, Value.int IntKind.i64 ↑x.am.length, Value.pointer (some { block := w.heap.size, off := 2 }), Value.slice pa x.am.length ca', Value.int IntKind.i64 ↑x.am.length, Value.bool false, u62, u63, u64, u65, u66, u67, u68, u69, u70, u71, u72, u73, u74, Value.int IntKind.i64 ↑x.wr.length, Value.pointer (some { block := w.heap.size, off := 3 }), Value.slice pw x.wr.length cw, Value.int IntKind.i64 ↑x.wr.length, Value.bool false, u80, u81, u82, u83, u84, u85, u86, u87, u88, u89, u90, u91, u92, Value.int IntKind.i64 ↑k, Value.pointer (some { block := w.heap.size, off := 5 }), Value.slice (some { block := g1, off := o1 }) x.el.length ce, Value.int IntKind.i64 ↑x.el.length, Value.bool true, u98, u99, xv 0, xv 1, xv 2, xv 3, xv 4, xv 5, xv 6, xv 7, xv 8, xv 9, u110, u111, u112, u113, u114, u115, u116, u117, u118, u119, u120, u121, u122, u123, u124, u125, u126, u127, u128, u129, u130, u131, u132, u133, u134, u135, u136, u137, u138, u139, u140, u141, u142, u143], defers := [] }) [pF 0 (eqP (.pointer (some ⟨w.heap.size, 5, none⟩))), pF 1 (eqP (.slice (some ⟨g1, o1, none⟩) x.el.length ce)), pF 2 (eqP (.int .i64 k)), pF 3 (eqP (.pointer (some ⟨g1, o1 + k * 9, none⟩))), pF 4 (eqP (.agg ([.int .i64 a2.p, .int .i64 a2.s, .int .i64 a2.i, .int .i64 a2.t, .int .i64 a2.q, .int .i64 a2.u, .int .i64 a2.j, .string a2.x, .slice x1 a2.gone.length z1] : List Value).toArray)), pF 5 (eqP (.pointer (some ⟨w.heap.size + 1, 5, none⟩))), pF 6 (eqP (.slice (some ⟨g2, o2, none⟩) x.el.length de)), pF 7 (eqP (.int .i64 k)), pF 8 (eqP (.pointer (some ⟨g2, o2 + k * 9, none⟩))), pF 9 (eqP (.agg ([.int .i64 a2.p, .int .i64 a2.s, .int .i64 a2.i, .int .i64 a2.t, .int .i64 a2.q, .int .i64 a2.u, .int .i64 a2.j, .string a2.x, .slice x2 a2.gone.length z2] : List Value).toArray)), pF 10 (newP wr.heap.size 63 9), pF 11 (newP wr.heap.size 63 9), pF 10 (boxP wr.heap.size 63 ([.int .i64 a2.p, .int .i64 a2.s, .int .i64 a2.i, .int .i64 a2.t, .int .i64 a2.q, .int .i64 a2.u, .int .i64 a2.j, .string a2.x, .slice x1 a2.gone.length z1] : List Value).toArray), pF 11 (boxP wr.heap.size 63 ([.int .i64 a2.p, .int .i64 a2.s, .int .i64 a2.i, .int .i64 a2.t, .int .i64 a2.q, .int .i64 a2.u, .int .i64 a2.j, .string a2.x, .slice x2 a2.gone.length z2] : List Value).toArray)] (R2 10 11) (R2_symm 10 11) _ rfl rfl (by kernel_rfl) (fun j => [u100, u101, u102, u103, u104, u105, u106, u107, u108, u109, u8, u9, undef, undef].getD j undef) rfl (Below.refl _ wr).drew ⟨?_, ?_, ?_, ?_, ?_, ?_, ?_, ?_, ?_, ?_, ?_, ?_, ?_, ?_, trivial⟩ ?_
              · exact FactsG.of rfl (fun _ _ _ h => absurd h (by omega)) (fun _ _ _ _ => rfl) (Facts.pureP hS hF (fun _ _ => rfl) rfl (fun xv wv hSw hd => by
                  go_simp))
              · exact FactsG.of rfl (fun _ _ _ h => absurd h (by omega)) (fun _ _ _ _ => rfl) (Facts.pureP hS hF (fun _ _ => rfl) rfl (fun xv wv hSw hd => by
                  have d0 : xv 0 = _ := pF_get (hd ⟨0, .data⟩ (by simp) rfl _ rfl)
                  have w1_ : wr.cell? ⟨w.heap.size, 5, none⟩ = some (.slice (some ⟨g1, o1, none⟩) x.el.length ce) := R0.cell 5
                  have w2_ := cell_later hSw w1_
                  have w3_ : wr.cell? ⟨w.heap.size + 1, 5, none⟩ = some (.slice (some ⟨g2, o2, none⟩) x.el.length de) := R1.cell 5
                  have w4_ := cell_later hSw w3_
                  simp only [d0]
                  go_simp))
              · exact FactsG.of rfl (fun _ _ _ h => absurd h (by omega)) (fun _ _ _ _ => rfl) (Facts.pureP hS hF (fun _ _ => rfl) rfl (fun xv wv hSw hd => by
                  go_simp))
              · exact FactsG.of rfl (fun _ _ _ h => absurd h (by omega)) (fun _ _ _ _ => rfl) (Facts.pureP hS hF (fun _ _ => rfl) rfl (fun xv wv hSw hd => by
                  have d1 : xv 1 = _ := pF_get (hd ⟨1, .data⟩ (by simp) rfl _ rfl)
                  have d2 : xv 2 = _ := pF_get (hd ⟨2, .data⟩ (by simp) rfl _ rfl)
                  simp only [d1, d2]
                  go_simp))
              · exact FactsG.of rfl (fun _ _ _ h => absurd h (by omega)) (fun _ _ _ _ => rfl) (Facts.loadP hS hF (fun _ _ => rfl) 63 Try.underlying63 rfl ze1 _ rfl rfl (fun xv wv hSw hd => by have d3 : xv 3 = _ := pF_get (hd ⟨3, .data⟩ (by simp) rfl _ rfl); exact d3) (fun wv hSw => range_later d1 hSw))
              · exact FactsG.of rfl (fun _ _ _ h => absurd h (by omega)) (fun _ _ _ _ => rfl) (Facts.pureP hS hF (fun _ _ => rfl) rfl (fun xv wv hSw hd => by
                  go_simp))
              · exact FactsG.of rfl (fun _ _ _ h => absurd h (by omega)) (fun _ _ _ _ => rfl) (Facts.pureP hS hF (fun _ _ => rfl) rfl (fun xv wv hSw hd => by
                  have d5 : xv 5 = _ := pF_get (hd ⟨5, .data⟩ (by simp) rfl _ rfl)
                  have w1_ : wr.cell? ⟨w.heap.size, 5, none⟩ = some (.slice (some ⟨g1, o1, none⟩) x.el.length ce) := R0.cell 5
                  have w2_ := cell_later hSw w1_
                  have w3_ : wr.cell? ⟨w.heap.size + 1, 5, none⟩ = some (.slice (some ⟨g2, o2, none⟩) x.el.length de) := R1.cell 5
                  have w4_ := cell_later hSw w3_
                  simp only [d5]
                  go_simp))
              · exact FactsG.of rfl (fun _ _ _ h => absurd h (by omega)) (fun _ _ _ _ => rfl) (Facts.pureP hS hF (fun _ _ => rfl) rfl (fun xv wv hSw hd => by
                  go_simp))
              · exact FactsG.of rfl (fun _ _ _ h => absurd h (by omega)) (fun _ _ _ _ => rfl) (Facts.pureP hS hF (fun _ _ => rfl) rfl (fun xv wv hSw hd => by
                  have d6 : xv 6 = _ := pF_get (hd ⟨6, .data⟩ (by simp) rfl _ rfl)
                  have d7 : xv 7 = _ := pF_get (hd ⟨7, .data⟩ (by simp) rfl _ rfl)
                  simp only [d6, d7]
                  go_simp))
              · exact FactsG.of rfl (fun _ _ _ h => absurd h (by omega)) (fun _ _ _ _ => rfl) (Facts.loadP hS hF (fun _ _ => rfl) 63 Try.underlying63 rfl ze2 _ rfl rfl (fun xv wv hSw hd => by have d8 : xv 8 = _ := pF_get (hd ⟨8, .data⟩ (by simp) rfl _ rfl); exact d8) (fun wv hSw => range_later d2 hSw))
              · exact FactsG.alloc2 rfl rfl hS hF (fun _ _ => rfl) 63 rfl rfl (fun wv hSw => hSw.size) (fun _ _ => rfl) (fun j f hj h => by rcases h with ⟨h, rfl⟩ | ⟨h, rfl⟩ <;> first | (simp at h; done) | exact ⟨63, 9, (Option.some.inj hj).symm⟩)
              · exact FactsG.alloc2 rfl rfl hS hF (fun _ _ => rfl) 63 rfl rfl (fun wv hSw => hSw.size) (fun _ _ => rfl) (fun j f hj h => by rcases h with ⟨h, rfl⟩ | ⟨h, rfl⟩ <;> first | (simp at h; done) | exact ⟨63, 9, (Option.some.inj hj).symm⟩)
              · refine FactsG.ofR rfl (fun _ _ _ _ => rfl) (fun xv wv hSw hd hrel => ?_)
                obtain ⟨q, cs, eq, hN, hq, hz⟩ := pF_get (hd ⟨10, .data⟩ (by simp) rfl _ rfl)
                have dv : xv 4 = _ := pF_get (hd ⟨4, .data⟩ (by simp) rfl _ rfl)
                have hne : xv 10 ≠ xv 11 := hrel ⟨10, .phase⟩ (by simp) rfl ⟨11, .phase⟩ (by simp) rfl (by decide) (by simp)
                refine wp_store_r 63 _ _ rfl q ([.int .i64 a2.p, .int .i64 a2.s, .int .i64 a2.i, .int .i64 a2.t, .int .i64 a2.q, .int .i64 a2.u, .int .i64 a2.j, .string a2.x, .slice x1 a2.gone.length z1] : List Value).toArray eq dv hq size63 hz (by simp [Value.oneCell']) ?_
                refine ⟨undef, rfl, below_setRow hSw hN _, fun f hf => ?_, fun j f hj hfj hh => ?_, fun j _ _ _ _ h => absurd h (by omega)⟩
                · obtain rfl := Option.some.inj hf
                  exact ⟨xv 10, rfl, q, eq, hN, hq.row _⟩
                · have hko : ∀ q', xv 11 = .pointer (some ⟨q', 0, none⟩) → q' ≠ q := fun q' e' e2 => hne (by rw [eq, e', e2])
                  match j with
                  | 0 => obtain rfl := Option.some.inj hfj; exact hh
                  | 1 => obtain rfl := Option.some.inj hfj; exact hh
                  | 2 => obtain rfl := Option.some.inj hfj; exact hh
                  | 3 => obtain rfl := Option.some.inj hfj; exact hh
                  | 4 => obtain rfl := Option.some.inj hfj; exact hh
                  | 5 => obtain rfl := Option.some.inj hfj; exact hh
                  | 6 => obtain rfl := Option.some.inj hfj; exact hh
                  | 7 => obtain rfl := Option.some.inj hfj; exact hh
                  | 8 => obtain rfl := Option.some.inj hfj; exact hh
                  | 9 => obtain rfl := Option.some.inj hfj; exact hh
                  | 10 =>
                    obtain rfl := Option.some.inj hfj
                    exact ⟨xv 10, rfl, q, ([.int .i64 a2.p, .int .i64 a2.s, .int .i64 a2.i, .int .i64 a2.t, .int .i64 a2.q, .int .i64 a2.u, .int .i64 a2.j, .string a2.x, .slice x1 a2.gone.length z1] : List Value).toArray, eq, hN, hq.row _, rfl⟩
                  | 11 =>
                    obtain rfl := Option.some.inj hfj
                    obtain ⟨q', cs', e', hN', hq', hz'⟩ := pF_get hh
                    exact ⟨xv 11, rfl, q', cs', e', hN', hq'.rowOther (hko q' e') _, hz'⟩
                  | 13 =>
                    obtain rfl := Option.some.inj hfj
                    obtain ⟨vv, ev, q', e', hN', hq'⟩ := hh
                    simp only [pF, List.map_cons, List.map_nil, List.cons.injEq, and_true] at ev
                    exact ⟨vv, by simp [pF, ev], q', e', hN', hq'.rowOther (hko q' (ev.trans e')) _⟩
                  | 12 => exact absurd rfl hj
                  | j + 14 => simp at hfj
              · refine FactsG.ofR rfl (fun _ _ _ _ => rfl) (fun xv wv hSw hd hrel => ?_)
                obtain ⟨q, cs, eq, hN, hq, hz⟩ := pF_get (hd ⟨11, .data⟩ (by simp) rfl _ rfl)
                have dv : xv 9 = _ := pF_get (hd ⟨9, .data⟩ (by simp) rfl _ rfl)
                have hne : xv 11 ≠ xv 10 := hrel ⟨11, .phase⟩ (by simp) rfl ⟨10, .phase⟩ (by simp) rfl (by decide) (by simp)
                refine wp_store_r 63 _ _ rfl q ([.int .i64 a2.p, .int .i64 a2.s, .int .i64 a2.i, .int .i64 a2.t, .int .i64 a2.q, .int .i64 a2.u, .int .i64 a2.j, .string a2.x, .slice x2 a2.gone.length z2] : List Value).toArray eq dv hq size63 hz (by simp [Value.oneCell']) ?_
                refine ⟨undef, rfl, below_setRow hSw hN _, fun f hf => ?_, fun j f hj hfj hh => ?_, fun j _ _ _ _ h => absurd h (by omega)⟩
                · obtain rfl := Option.some.inj hf
                  exact ⟨xv 11, rfl, q, eq, hN, hq.row _⟩
                · have hko : ∀ q', xv 10 = .pointer (some ⟨q', 0, none⟩) → q' ≠ q := fun q' e' e2 => hne (by rw [eq, e', e2])
                  match j with
                  | 0 => obtain rfl := Option.some.inj hfj; exact hh
                  | 1 => obtain rfl := Option.some.inj hfj; exact hh
                  | 2 => obtain rfl := Option.some.inj hfj; exact hh
                  | 3 => obtain rfl := Option.some.inj hfj; exact hh
                  | 4 => obtain rfl := Option.some.inj hfj; exact hh
                  | 5 => obtain rfl := Option.some.inj hfj; exact hh
                  | 6 => obtain rfl := Option.some.inj hfj; exact hh
                  | 7 => obtain rfl := Option.some.inj hfj; exact hh
                  | 8 => obtain rfl := Option.some.inj hfj; exact hh
                  | 9 => obtain rfl := Option.some.inj hfj; exact hh
                  | 11 =>
                    obtain rfl := Option.some.inj hfj
                    exact ⟨xv 11, rfl, q, ([.int .i64 a2.p, .int .i64 a2.s, .int .i64 a2.i, .int .i64 a2.t, .int .i64 a2.q, .int .i64 a2.u, .int .i64 a2.j, .string a2.x, .slice x2 a2.gone.length z2] : List Value).toArray, eq, hN, hq.row _, rfl⟩
                  | 10 =>
                    obtain rfl := Option.some.inj hfj
                    obtain ⟨q', cs', e', hN', hq', hz'⟩ := pF_get hh
                    exact ⟨xv 10, rfl, q', cs', e', hN', hq'.rowOther (hko q' e') _, hz'⟩
                  | 12 =>
                    obtain rfl := Option.some.inj hfj
                    obtain ⟨vv, ev, q', e', hN', hq'⟩ := hh
                    simp only [pF, List.map_cons, List.map_nil, List.cons.injEq, and_true] at ev
                    exact ⟨vv, by simp [pF, ev], q', e', hN', hq'.rowOther (hko q' (ev.trans e')) _⟩
                  | 13 => exact absurd rfl hj
                  | j + 14 => simp at hfj
              rintro xv w5 hb5 hf hr
              obtain ⟨p1, ep1, hN1, B1⟩ := pF_get (hf 12 _ (by decide) rfl)
              obtain ⟨p2, ep2, hN2, B2⟩ := pF_get (hf 13 _ (by decide) rfl)
              clear hf hr hS hF
              replace R0 := R0.later hb5
              replace R1 := R1.later hb5
              replace hbel := below_on hbel hb5
              replace q1 := q1.later hb5
              replace q2 := q2.later hb5
              have E := fun w => same_mark w a2.p a2.s a2.i
              have EE := fun w => same_mark w a2.q a2.u a2.j
              have zm1 : (Try.prog.info? 44).map (·.size) = some [Value.int .i64 a2.p, .int .i64 a2.s, .int .i64 a2.i].length := size44
              have zm2 : (Try.prog.info? 44).map (·.size) = some [Value.int .i64 a2.q, .int .i64 a2.u, .int .i64 a2.j].length := size44
              have m1 : w5.rangeAt p1 0 [.int .i64 a2.p, .int .i64 a2.s, .int .i64 a2.i] := B1.range 0 _ fun j v hv => by
                match j, hv with
                | 0, hv => exact hv
                | 1, hv => exact hv
                | 2, hv => exact hv
                | j + 3, hv => simp at hv
              have m2 : w5.rangeAt p2 0 [.int .i64 a2.p, .int .i64 a2.s, .int .i64 a2.i] := B2.range 0 _ fun j v hv => by
                match j, hv with
                | 0, hv => exact hv
                | 1, hv => exact hv
                | 2, hv => exact hv
                | j + 3, hv => simp at hv
              have n1 : w5.rangeAt p1 4 [.int .i64 a2.q, .int .i64 a2.u, .int .i64 a2.j] := B1.range 4 _ fun j v hv => by
                match j, hv with
                | 0, hv => exact hv
                | 1, hv => exact hv
                | 2, hv => exact hv
                | j + 3, hv => simp at hv
              have n2 : w5.rangeAt p2 4 [.int .i64 a2.q, .int .i64 a2.u, .int .i64 a2.j] := B2.range 4 _ fun j v hv => by
                match j, hv with
                | 0, hv => exact hv
                | 1, hv => exact hv
                | 2, hv => exact hv
                | j + 3, hv => simp at hv
              have i1 : w5.cell? ⟨p1, 3, none⟩ = some (.int .i64 a2.t) := B1.cell 3
              have i2 : w5.cell? ⟨p2, 3, none⟩ = some (.int .i64 a2.t) := B2.cell 3
              have j1 : w5.cell? ⟨p1, 7, none⟩ = some (.string a2.x) := B1.cell 7
              have j2 : w5.cell? ⟨p2, 7, none⟩ = some (.string a2.x) := B2.cell 7
              have k1 : w5.cell? ⟨p1, 8, none⟩ = some (.slice x1 a2.gone.length z1) := B1.cell 8
              have k2 : w5.cell? ⟨p2, 8, none⟩ = some (.slice x2 a2.gone.length z2) := B2.cell 8
              simp only [ep1, ep2]
              go_wp2_with (first | refine load_m 44 _ rfl rfl _ _ rfl m1 Try.underlying44 rfl zm1 ?_ | refine load_m 44 _ rfl rfl _ _ rfl m2 Try.underlying44 rfl zm1 ?_ | refine load_m 44 _ rfl rfl _ _ rfl n1 Try.underlying44 rfl zm2 ?_ | refine load_m 44 _ rfl rfl _ _ rfl n2 Try.underlying44 rfl zm2 ?_)
              refine (marks_any _ _ a2.gone w5 q1 q2).mono ?_
              rintro e w6 ⟨rfl, hb6⟩
              replace R0 := R0.later hb6
              replace R1 := R1.later hb6
              replace hbel := below_on hbel hb6
              clear i1 i2 j1 j2 k1 k2 m1 m2 n1 n2 B1 B2
              go_wp2_with fail
              go_roundw
              case rel => exact ⟨k + 1, by simp, by omega, R0, R1, hbel⟩
              case measure => simp [intOf]; omega
            · have hlt' : ¬ (k : Int) < (x.el.length : Int) := by omega
              go_wp2_with fail
              go_ret
              exact ⟨rfl, hbel⟩
end Go.Proofs.Ythekfmodafmlgaa
