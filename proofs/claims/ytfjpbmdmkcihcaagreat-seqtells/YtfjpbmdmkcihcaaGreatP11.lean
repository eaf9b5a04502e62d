import Derived.Test.YtfjpbmdmkcihcaaGreatP10
import Derived.Test.YtfjpbmdmkcihcaaGreatP7
import Derived.Test.YtfjpbmdmkcihcaaGreatP9
/- Same of the document's answer: what is the same is told so. -/
namespace Go.Proofs.YtfjpbmdmkcihcaaGreat
open Go.RowKit

theorem AHas.elem {w : World} {l : List A} {g o : Nat} (h : w.rangeAt g o (rows A.cells l)) (k : Nat) (hk : k < l.length) : w.rangeAt g (o + k * 4) l[k].cells :=
  range_sub h (k * 4) fun j u hu => rows_at A.len l k hk j u hu
/-- Two new boxes are not one. -/
def R2 (a b : Nat) (i j : Nat) (u v : Value) : Prop := ((i = a ∧ j = b) ∨ (i = b ∧ j = a)) → u ≠ v
theorem R2_symm (a b : Nat) : ∀ i j u v, R2 a b i j u v → R2 a b j i v u := fun _ _ _ _ h k => (h (by omega)).symm
def newP (N : Nat) (t : TypeId) (n : Nat) : Value → World → Prop := fun u w => ∃ q cs, u = .pointer (some ⟨q, 0, none⟩) ∧ N ≤ q ∧ Rw w q t cs ∧ cs.size = n
theorem newP_keeps (N : Nat) (t : TypeId) (n : Nat) : Keeps (newP N t n) := fun _ _ _ ⟨q, cs, e, hN, h, hc⟩ hb => ⟨q, cs, e, hN, h.later hb, hc⟩
theorem wp_store_r {op : Oper} {a : Act} {w : World} {K : Act → World → Prop} {Q : Exit → Act → World → Prop} (t : TypeId) (x y : Operand) (ho : op.op = .store t x y) (b : Nat) (cs' : Array Value) (hx : a.eval x = .pointer (some ⟨b, 0, none⟩)) (hy : a.eval y = .agg cs') {cs : Array Value} (hc : Rw w b t cs) (hi : (Tryz.prog.info? t).map (·.size) = some cs'.size) (hs : cs.size = cs'.size) (h1 : cs'.all (·.oneCell') = true)
    (h : K (a.put op.dst undef) (w.setRow b cs')) : op.wp Tryz.prog a w K Q := by
  unfold Oper.wp execOp; simp only [ho, hx, hy, Sem.run_bind, hc.store cs' hi hs h1, Result.andThen_ok, Sem.run_pure]; exact h
section
variable {Q : Exit → Act → World → Prop} {S : World → Prop} {md : Region.Mode} {A : (Nat → Value) → Act} {F : List Facts.Fact} {i : Nat} {o : Oper} {l : List Oper}
/-- One of two new boxes. -/
theorem FactsG.alloc2 (hi : l[i]? = some o) (hg : o.guard = none) (hS : Calm.Stays S) (hF : Facts.Stay F) (hA : ∀ x u, (A x).put o.dst u = A (Facts.put x i u)) (t : TypeId) {N n : Nat} {cs : Array Value} (hf : F[i]? = some (pF i (newP N t n))) (hc : cs.size = n) (hN : ∀ w, S w → N ≤ w.heap.size)
    (h : ∀ x w, (execOp (A x).eval o).run Tryz.prog w = .ok (.value (.pointer (some ⟨w.heap.size, 0, none⟩))) (w.alloc (.cells cs t))) {a b : Nat} (hab : ∀ j f, F[j]? = some f → (i = a ∧ j = b) ∨ (i = b ∧ j = a) → ∃ t' n', f = pF j (newP N t' n')) : FactsG.StepOk Tryz.prog md l Q S A F (R2 a b) i o := by
  refine FactsG.ofR hi (fun x w _ _ => by simp [Region.wanted, hg]) (fun x w hSw _ _ => ?_); unfold Oper.wp; rw [h x w]; have hb := bel_alloc (Below.refl w.heap.size w) (.cells cs t); refine ⟨_, hA x _, hS _ _ hSw hb, fun f hf' => ?_, fun j f _ hj hh => hF j f hj _ _ _ hh hb, fun j f _ hj hh hab' => ?_⟩
  · rw [hf] at hf'
    obtain rfl := Option.some.inj hf'; exact pF_put ⟨_, cs, rfl, hN w hSw, rw_new w t cs, hc⟩
  · obtain ⟨t', n', rfl⟩ := hab j f hj hab'
    obtain ⟨q, cs', e, _, hq, _⟩ := pF_get hh; rw [e]; intro e2; simp only [Value.pointer.injEq, Option.some.injEq, Addr.mk.injEq] at e2
    have := hq.lt
    omega
end
set_option maxHeartbeats 8000000 in
set_option maxRecDepth 100000 in
theorem same_any (x : X) (va vw vm ve ua uw um ue : Value) (w : World) (h1 : Four w x va vw vm ve) (h2 : Four w x ua uw um ue) (hs : Sm x) : Calls Tryz.prog 9 #[CV x.k x.b va vw vm ve, CV x.k x.b ua uw um ue] w (Tells (.bool true) w) := by
  obtain ⟨pa, ca', pw, cw, pm, cm, pe, ce, rfl, rfl, rfl, rfl⟩ := h1.slices; obtain ⟨qa, da, qw, dw, qm, dm, qe, de, rfl, rfl, rfl, rfl⟩ := h2.slices; have H1 : Hid (Four w x (.slice pa x.am.length ca') (.slice pw x.wr.length cw) (.slice pm x.mb.length cm) (.slice pe x.el.length ce)) := h1; have H2 : Hid (Four w x (.slice qa x.am.length da) (.slice qw x.wr.length dw) (.slice qm x.mb.length dm) (.slice qe x.el.length de)) := h2; clear h1 h2; have la := hs.a; have lw := hs.t; have le := hs.e; clear hs; obtain ⟨R0, R1, hbel⟩ := two_rows w (cvc x.k x.b (.slice pa x.am.length ca') (.slice pw x.wr.length cw) (.slice pm x.mb.length cm) (.slice pe x.el.length ce)) 27 (cvc x.k x.b (.slice qa x.am.length da) (.slice qw x.wr.length dw) (.slice qm x.mb.length dm) (.slice qe x.el.length de)) 27; generalize hW : (w.alloc (.cells (cvc x.k x.b (.slice pa x.am.length ca') (.slice pw x.wr.length cw) (.slice pm x.mb.length cm) (.slice pe x.el.length ce)) 27)).alloc (.cells (cvc x.k x.b (.slice qa x.am.length da) (.slice qw x.wr.length dw) (.slice qm x.mb.length dm) (.slice qe x.el.length de)) 27) = w0 at R0 R1 hbel; have c0 : w0.cell? ⟨w.heap.size, 0, none⟩ = some (.int .i64 x.k) := R0.cell 0; have c1 : w0.cell? ⟨w.heap.size, 1, none⟩ = some (.int .i64 x.b) := R0.cell 1; have c2 : w0.cell? ⟨w.heap.size, 2, none⟩ = some (.slice pa x.am.length ca') := R0.cell 2; have c3 : w0.cell? ⟨w.heap.size, 3, none⟩ = some (.slice pw x.wr.length cw) := R0.cell 3; have c4 : w0.cell? ⟨w.heap.size, 4, none⟩ = some (.slice pm x.mb.length cm) := R0.cell 4; have c5 : w0.cell? ⟨w.heap.size, 5, none⟩ = some (.slice pe x.el.length ce) := R0.cell 5; have e0 : w0.cell? ⟨w.heap.size + 1, 0, none⟩ = some (.int .i64 x.k) := R1.cell 0; have e1 : w0.cell? ⟨w.heap.size + 1, 1, none⟩ = some (.int .i64 x.b) := R1.cell 1; have e2 : w0.cell? ⟨w.heap.size + 1, 2, none⟩ = some (.slice qa x.am.length da) := R1.cell 2; have e3 : w0.cell? ⟨w.heap.size + 1, 3, none⟩ = some (.slice qw x.wr.length dw) := R1.cell 3; have e4 : w0.cell? ⟨w.heap.size + 1, 4, none⟩ = some (.slice qm x.mb.length dm) := R1.cell 4; have e5 : w0.cell? ⟨w.heap.size + 1, 5, none⟩ = some (.slice qe x.el.length de) := R1.cell 5
  go_enter Tryz.func9, Tryz.ntmps9
  go_wp2_with (first | rw [hW])
  clear hW c0 c1 c2 c3 c4 c5 e0 e1 e2 e3 e4 e5; refine (members_any _ _ x.mb w0 (H1.out.m.later hbel) (H2.out.m.later hbel)).mono ?_; rintro e w1 ⟨rfl, hb1⟩; replace R0 := R0.later hb1; replace R1 := R1.later hb1; replace hbel := below_on hbel hb1; clear hb1; go_wp2_with fail
  go_loopw [5] (fun vi wr => ∃ k : Nat, vi = .int .i64 k ∧ k ≤ x.am.length ∧ Rw wr w.heap.size 27 (cvc x.k x.b (.slice pa x.am.length ca') (.slice pw x.wr.length cw) (.slice pm x.mb.length cm) (.slice pe x.el.length ce)) ∧ Rw wr (w.heap.size + 1) 27 (cvc x.k x.b (.slice qa x.am.length da) (.slice qw x.wr.length dw) (.slice qm x.mb.length dm) (.slice qe x.el.length de)) ∧ Below w.heap.size w wr) (fun vi _ => x.am.length - (intOf vi).toNat)
  case atStart => exact ⟨0, rfl, by omega, R0, R1, hbel⟩
  case round =>
    clear R0 R1 hbel; obtain ⟨k, rfl, hk, R0, R1, hbel⟩ := hrel; have c2 : wr.cell? ⟨w.heap.size, 2, none⟩ = some (.slice pa x.am.length ca') := R0.cell 2
    by_cases hlt : k < x.am.length
    · have hlt' : (k : Int) < (x.am.length : Int) := by omega
      obtain ⟨g1, o1, rfl, hd1⟩ := H1.out.a.at (by omega); obtain ⟨g2, o2, rfl, hd2⟩ := H2.out.a.at (by omega); have d1 := AHas.elem (range_later hd1 hbel) k hlt; have d2 := AHas.elem (range_later hd2 hbel) k hlt; obtain ⟨y, HY⟩ := hid_ex x.am[k]; rw [HY.out] at d1 d2; clear hd1 hd2 HY
      have E := fun w => same_amount w y.p y.s y.i y.n
      have zm : (Tryz.prog.info? 70).map (·.size) = some y.cells.length := size70; go_wp2_with fail; clear c2
      have hs : Calm.Stays (fun w' => Rw w' w.heap.size 27 (cvc x.k x.b (.slice (some ⟨g1, o1, none⟩) x.am.length ca') (.slice pw x.wr.length cw) (.slice pm x.mb.length cm) (.slice pe x.el.length ce)) ∧ Rw w' (w.heap.size + 1) 27 (cvc x.k x.b (.slice (some ⟨g2, o2, none⟩) x.am.length da) (.slice qw x.wr.length dw) (.slice qm x.mb.length dm) (.slice qe x.el.length de)) ∧ w'.rangeAt g1 (o1 + k * 4) y.cells ∧ w'.rangeAt g2 (o2 + k * 4) y.cells ∧ Below w.heap.size w w') := fun wa wb h hb => ⟨h.1.later hb, h.2.1.later hb, range_later h.2.2.1 hb, range_later h.2.2.2.1 hb, below_on h.2.2.2.2 hb⟩
      refine Calm.region (by kernel_rfl) (by kernel_rfl) (fun w' => Rw w' w.heap.size 27 (cvc x.k x.b (.slice (some ⟨g1, o1, none⟩) x.am.length ca') (.slice pw x.wr.length cw) (.slice pm x.mb.length cm) (.slice pe x.el.length ce)) ∧ Rw w' (w.heap.size + 1) 27 (cvc x.k x.b (.slice (some ⟨g2, o2, none⟩) x.am.length da) (.slice qw x.wr.length dw) (.slice qm x.mb.length dm) (.slice qe x.el.length de)) ∧ w'.rangeAt g1 (o1 + k * 4) y.cells ∧ w'.rangeAt g2 (o2 + k * 4) y.cells ∧ Below w.heap.size w w') ⟨R0, R1, d1, d2, hbel.drew⟩ ?_
      all_goals
        refine Calm.pure (v := ?_) (by rfl) ?_ ?_; rotate_left; focus (intro w hSw; go_simp <;> rfl)
        simp only [put4]
      all_goals
        refine Calm.pure (v := ?_) (by rfl) ?_ ?_; rotate_left; focus (intro w hSw; have g1 := hSw.1.cell 2; simp at g1; go_simp <;> rfl)
        simp only [put4]
      iterate 2
        all_goals
          refine Calm.pure (v := ?_) (by rfl) ?_ ?_; rotate_left; focus (intro w hSw; go_simp <;> rfl)
          simp only [put4]
      all_goals
        first | (refine Calm.loadM 70 Tryz.underlying70 rfl zm (by rfl) _ rfl rfl (fun _ h => h.2.2.1) ?_) | (refine Calm.loadM 70 Tryz.underlying70 rfl zm (by rfl) _ rfl rfl (fun _ h => h.2.2.2.1) ?_)
        simp only [put4]
      all_goals
        refine Calm.pure (v := ?_) (by rfl) ?_ ?_; rotate_left; focus (intro w hSw; go_simp <;> rfl)
        simp only [put4]
      all_goals
        refine Calm.pure (v := ?_) (by rfl) ?_ ?_; rotate_left; focus (intro w hSw; have g1 := hSw.2.1.cell 2; simp at g1; go_simp <;> rfl)
        simp only [put4]
      iterate 2
        all_goals
          refine Calm.pure (v := ?_) (by rfl) ?_ ?_; rotate_left; focus (intro w hSw; go_simp <;> rfl)
          simp only [put4]
      all_goals
        first | (refine Calm.loadM 70 Tryz.underlying70 rfl zm (by rfl) _ rfl rfl (fun _ h => h.2.2.1) ?_) | (refine Calm.loadM 70 Tryz.underlying70 rfl zm (by rfl) _ rfl rfl (fun _ h => h.2.2.2.1) ?_)
        simp only [put4]
      all_goals
        refine Calm.pure (v := ?_) (by rfl) ?_ ?_; rotate_left; focus (intro w hSw; go_simp <;> rfl)
        simp only [put4]
      all_goals
        rintro w9 ⟨R09, R19, _, _, hbel9⟩
      go_wp2_with fail; go_roundw
      case rel => exact ⟨k + 1, by simp, by omega, R09, R19, hbel9⟩
      case measure => simp [intOf]; omega
    · obtain rfl : k = x.am.length := by omega
      have hlt' : ¬ (x.am.length : Int) < (x.am.length : Int) := by omega
      go_wp2_with fail; clear c2
      go_loopw [6] (fun vi wr => ∃ k : Nat, vi = .int .i64 k ∧ k ≤ x.wr.length ∧ Rw wr w.heap.size 27 (cvc x.k x.b (.slice pa x.am.length ca') (.slice pw x.wr.length cw) (.slice pm x.mb.length cm) (.slice pe x.el.length ce)) ∧ Rw wr (w.heap.size + 1) 27 (cvc x.k x.b (.slice qa x.am.length da) (.slice qw x.wr.length dw) (.slice qm x.mb.length dm) (.slice qe x.el.length de)) ∧ Below w.heap.size w wr) (fun vi _ => x.wr.length - (intOf vi).toNat)
      case atStart => exact ⟨0, rfl, by omega, R0, R1, hbel⟩
      case round =>
        clear R0 R1 hbel hlt hlt'; obtain ⟨k, rfl, hk, R0, R1, hbel⟩ := hrel; have c3 : wr.cell? ⟨w.heap.size, 3, none⟩ = some (.slice pw x.wr.length cw) := R0.cell 3
        by_cases hlt : k < x.wr.length
        · have hlt' : (k : Int) < (x.wr.length : Int) := by omega
          obtain ⟨g1, o1, rfl, hd1⟩ := H1.out.t.at (by omega); obtain ⟨g2, o2, rfl, hd2⟩ := H2.out.t.at (by omega); have d1 := Wt.elem (range_later hd1 hbel) k hlt; have d2 := Wt.elem (range_later hd2 hbel) k hlt; obtain ⟨y, HY⟩ := hid_ex x.wr[k]; rw [HY.out] at d1 d2; clear hd1 hd2 HY
          have E := fun w => same_write w y
          have zm : (Tryz.prog.info? 56).map (·.size) = some y.cells.length := size56; go_wp2_with fail; clear c3
          have hs : Calm.Stays (fun w' => Rw w' w.heap.size 27 (cvc x.k x.b (.slice pa x.am.length ca') (.slice (some ⟨g1, o1, none⟩) x.wr.length cw) (.slice pm x.mb.length cm) (.slice pe x.el.length ce)) ∧ Rw w' (w.heap.size + 1) 27 (cvc x.k x.b (.slice qa x.am.length da) (.slice (some ⟨g2, o2, none⟩) x.wr.length dw) (.slice qm x.mb.length dm) (.slice qe x.el.length de)) ∧ w'.rangeAt g1 (o1 + k * 5) y.cells ∧ w'.rangeAt g2 (o2 + k * 5) y.cells ∧ Below w.heap.size w w') := fun wa wb h hb => ⟨h.1.later hb, h.2.1.later hb, range_later h.2.2.1 hb, range_later h.2.2.2.1 hb, below_on h.2.2.2.2 hb⟩
          refine Calm.region (by kernel_rfl) (by kernel_rfl) (fun w' => Rw w' w.heap.size 27 (cvc x.k x.b (.slice pa x.am.length ca') (.slice (some ⟨g1, o1, none⟩) x.wr.length cw) (.slice pm x.mb.length cm) (.slice pe x.el.length ce)) ∧ Rw w' (w.heap.size + 1) 27 (cvc x.k x.b (.slice qa x.am.length da) (.slice (some ⟨g2, o2, none⟩) x.wr.length dw) (.slice qm x.mb.length dm) (.slice qe x.el.length de)) ∧ w'.rangeAt g1 (o1 + k * 5) y.cells ∧ w'.rangeAt g2 (o2 + k * 5) y.cells ∧ Below w.heap.size w w') ⟨R0, R1, d1, d2, hbel.drew⟩ ?_
          all_goals
            refine Calm.pure (v := ?_) (by rfl) ?_ ?_; rotate_left; focus (intro w hSw; go_simp <;> rfl)
            simp only [put4]
          all_goals
            refine Calm.pure (v := ?_) (by rfl) ?_ ?_; rotate_left; focus (intro w hSw; have g1 := hSw.1.cell 3; simp at g1; go_simp <;> rfl)
            simp only [put4]
          iterate 2
            all_goals
              refine Calm.pure (v := ?_) (by rfl) ?_ ?_; rotate_left; focus (intro w hSw; go_simp <;> rfl)
              simp only [put4]
          all_goals
            first | (refine Calm.loadM 56 Tryz.underlying56 rfl zm (by rfl) _ rfl rfl (fun _ h => h.2.2.1) ?_) | (refine Calm.loadM 56 Tryz.underlying56 rfl zm (by rfl) _ rfl rfl (fun _ h => h.2.2.2.1) ?_)
            simp only [put4]
          all_goals
            refine Calm.pure (v := ?_) (by rfl) ?_ ?_; rotate_left; focus (intro w hSw; go_simp <;> rfl)
            simp only [put4]
          all_goals
            refine Calm.pure (v := ?_) (by rfl) ?_ ?_; rotate_left; focus (intro w hSw; have g1 := hSw.2.1.cell 3; simp at g1; go_simp <;> rfl)
            simp only [put4]
          iterate 2
            all_goals
              refine Calm.pure (v := ?_) (by rfl) ?_ ?_; rotate_left; focus (intro w hSw; go_simp <;> rfl)
              simp only [put4]
          all_goals
            first | (refine Calm.loadM 56 Tryz.underlying56 rfl zm (by rfl) _ rfl rfl (fun _ h => h.2.2.1) ?_) | (refine Calm.loadM 56 Tryz.underlying56 rfl zm (by rfl) _ rfl rfl (fun _ h => h.2.2.2.1) ?_)
            simp only [put4]
          all_goals
            refine Calm.pure (v := ?_) (by rfl) ?_ ?_; rotate_left; focus (intro w hSw; go_simp <;> rfl)
            simp only [put4]
          all_goals
            rintro w9 ⟨R09, R19, _, _, hbel9⟩
          go_wp2_with fail; go_roundw
          case rel => exact ⟨k + 1, by simp, by omega, R09, R19, hbel9⟩
          case measure => simp [intOf]; omega
        · obtain rfl : k = x.wr.length := by omega
          have hlt' : ¬ (x.wr.length : Int) < (x.wr.length : Int) := by omega
          go_wp2_with fail; clear c3
          go_loopw [7] (fun vi wr => ∃ k : Nat, vi = .int .i64 k ∧ k ≤ x.el.length ∧ Rw wr w.heap.size 27 (cvc x.k x.b (.slice pa x.am.length ca') (.slice pw x.wr.length cw) (.slice pm x.mb.length cm) (.slice pe x.el.length ce)) ∧ Rw wr (w.heap.size + 1) 27 (cvc x.k x.b (.slice qa x.am.length da) (.slice qw x.wr.length dw) (.slice qm x.mb.length dm) (.slice qe x.el.length de)) ∧ Below w.heap.size w wr) (fun vi _ => x.el.length - (intOf vi).toNat)
          case atStart => exact ⟨0, rfl, by omega, R0, R1, hbel⟩
          case round =>
            clear R0 R1 hbel hlt hlt'; obtain ⟨k, rfl, hk, R0, R1, hbel⟩ := hrel; have c5 : wr.cell? ⟨w.heap.size, 5, none⟩ = some (.slice pe x.el.length ce) := R0.cell 5
            by_cases hlt : k < x.el.length
            · have hlt' : (k : Int) < (x.el.length : Int) := by omega
              obtain ⟨m1, e1, s1, t1⟩ := H1.out.e; obtain ⟨m2, e2, s2, t2⟩ := H2.out.e
              have hl1 : m1.length = x.el.length := by rw [← e1, List.length_map]
              have hl2 : m2.length = x.el.length := by rw [← e2, List.length_map]
              obtain ⟨g1, o1, rfl, hd1⟩ := s1.at (by omega); obtain ⟨g2, o2, rfl, hd2⟩ := s2.at (by omega); have d1 := El.elem (range_later hd1 hbel) k (by omega); have d2 := El.elem (range_later hd2 hbel) k (by omega); have q1 := (t1 m1[k] (List.getElem_mem _)).later hbel; have q2 := (t2 m2[k] (List.getElem_mem _)).later hbel
              have f1 : m1[k].1 = x.el[k] := by simp only [← e1, List.getElem_map]
              have f2 : m2[k].1 = x.el[k] := by simp only [← e2, List.getElem_map]
              obtain ⟨y1, HY1⟩ := hid_ex m1[k]; obtain ⟨y2, HY2⟩ := hid_ex m2[k]; rw [HY1.out] at d1 q1 f1; rw [HY2.out] at d2 q2 f2; obtain ⟨a1, u1⟩ := y1; obtain ⟨a2, u2⟩ := y2; replace f1 : a1 = x.el[k] := f1; replace f2 : a2 = x.el[k] := f2; obtain ⟨y, HY⟩ := hid_ex x.el[k]; rw [HY.out] at f1 f2; subst f1; subst f2; replace q1 : MHas wr u1 a2.gone := q1; replace q2 : MHas wr u2 a2.gone := q2; obtain ⟨x1, z1, rfl⟩ := q1.slice; obtain ⟨x2, z2, rfl⟩ := q2.slice; clear hd1 hd2 HY HY1 HY2 s1 s2 t1 t2 e1 e2; replace d1 : wr.rangeAt g1 (o1 + k * 9) [.int .i64 a2.p, .int .i64 a2.s, .int .i64 a2.i, .int .i64 a2.t, .int .i64 a2.q, .int .i64 a2.u, .int .i64 a2.j, .string a2.x, .slice x1 a2.gone.length z1] := d1; replace d2 : wr.rangeAt g2 (o2 + k * 9) [.int .i64 a2.p, .int .i64 a2.s, .int .i64 a2.i, .int .i64 a2.t, .int .i64 a2.q, .int .i64 a2.u, .int .i64 a2.j, .string a2.x, .slice x2 a2.gone.length z2] := d2; have ze1 : (Tryz.prog.info? 60).map (·.size) = some ([.int .i64 a2.p, .int .i64 a2.s, .int .i64 a2.i, .int .i64 a2.t, .int .i64 a2.q, .int .i64 a2.u, .int .i64 a2.j, .string a2.x, .slice x1 a2.gone.length z1] : List Value).length := size60; have ze2 : (Tryz.prog.info? 60).map (·.size) = some ([.int .i64 a2.p, .int .i64 a2.s, .int .i64 a2.i, .int .i64 a2.t, .int .i64 a2.q, .int .i64 a2.u, .int .i64 a2.j, .string a2.x, .slice x2 a2.gone.length z2] : List Value).length := size60; go_wp2_with fail; clear c5
              have hS : Calm.Stays (fun w' => Below wr.heap.size wr w') := fun wa wb h hb => below_on h hb
              have hF : Facts.Stay [pF 0 (eqP (.pointer (some ⟨w.heap.size, 5, none⟩))), pF 1 (eqP (.slice (some ⟨g1, o1, none⟩) x.el.length ce)), pF 2 (eqP (.int .i64 k)), pF 3 (eqP (.pointer (some ⟨g1, o1 + k * 9, none⟩))), pF 4 (eqP (.agg ([.int .i64 a2.p, .int .i64 a2.s, .int .i64 a2.i, .int .i64 a2.t, .int .i64 a2.q, .int .i64 a2.u, .int .i64 a2.j, .string a2.x, .slice x1 a2.gone.length z1] : List Value).toArray)), pF 5 (eqP (.pointer (some ⟨w.heap.size + 1, 5, none⟩))), pF 6 (eqP (.slice (some ⟨g2, o2, none⟩) x.el.length de)), pF 7 (eqP (.int .i64 k)), pF 8 (eqP (.pointer (some ⟨g2, o2 + k * 9, none⟩))), pF 9 (eqP (.agg ([.int .i64 a2.p, .int .i64 a2.s, .int .i64 a2.i, .int .i64 a2.t, .int .i64 a2.q, .int .i64 a2.u, .int .i64 a2.j, .string a2.x, .slice x2 a2.gone.length z2] : List Value).toArray)), pF 10 (newP wr.heap.size 60 9), pF 11 (newP wr.heap.size 60 9), pF 10 (boxP wr.heap.size 60 ([.int .i64 a2.p, .int .i64 a2.s, .int .i64 a2.i, .int .i64 a2.t, .int .i64 a2.q, .int .i64 a2.u, .int .i64 a2.j, .string a2.x, .slice x1 a2.gone.length z1] : List Value).toArray), pF 11 (boxP wr.heap.size 60 ([.int .i64 a2.p, .int .i64 a2.s, .int .i64 a2.i, .int .i64 a2.t, .int .i64 a2.q, .int .i64 a2.u, .int .i64 a2.j, .string a2.x, .slice x2 a2.gone.length z2] : List Value).toArray)] := stay_of (by simp only [List.forall_mem_cons]; exact ⟨⟨_, _, rfl, eqP_keeps _⟩, ⟨_, _, rfl, eqP_keeps _⟩, ⟨_, _, rfl, eqP_keeps _⟩, ⟨_, _, rfl, eqP_keeps _⟩, ⟨_, _, rfl, eqP_keeps _⟩, ⟨_, _, rfl, eqP_keeps _⟩, ⟨_, _, rfl, eqP_keeps _⟩, ⟨_, _, rfl, eqP_keeps _⟩, ⟨_, _, rfl, eqP_keeps _⟩, ⟨_, _, rfl, eqP_keeps _⟩, ⟨_, _, rfl, newP_keeps _ _ _⟩, ⟨_, _, rfl, newP_keeps _ _ _⟩, ⟨_, _, rfl, boxP_keeps _ _ _⟩, ⟨_, _, rfl, boxP_keeps _ _ _⟩, fun _ h => by cases h⟩); refine FactsG.region (by kernel_rfl) (by kernel_rfl) (fun w' => Below wr.heap.size wr w') (fun xv => { tmps := #[CV x.k x.b (Value.slice pa x.am.length ca') (Value.slice pw x.wr.length cw) (Value.slice pm x.mb.length cm) (Value.slice (some { block := g1, off := o1 }) x.el.length ce), CV x.k x.b (Value.slice qa x.am.length da) (Value.slice qw x.wr.length dw) (Value.slice qm x.mb.length dm) (Value.slice (some { block := g2, off := o2 }) x.el.length de), Value.pointer (some { block := w.heap.size, off := 0 }), Value.pointer (some { block := w.heap.size + 1, off := 0 }), u4, Value.int IntKind.i64 ↑x.am.length, Value.int IntKind.i64 ↑x.wr.length, Value.int IntKind.i64 ↑k, xv 10, xv 11, Value.pointer (some { block := w.heap.size, off := 0 }), Value.int IntKind.i64 x.k, Value.pointer (some { block := w.heap.size + 1, off := 0 }), Value.int IntKind.i64 x.k, Value.bool false, Value.bool false, Value.pointer (some { block := w.heap.size, off := 1 }), Value.int IntKind.i64 x.b, Value.pointer (some { block := w.heap.size + 1, off := 1 }), Value.int IntKind.i64 x.b, Value.bool false, Value.bool false, Value.bool false, Value.pointer (some { block := w.heap.size, off := 2 }), Value.slice pa x.am.length ca', Value.int IntKind.i64 ↑x.am.length, Value.pointer (some { block := w.heap.size + 1, off := 2 }), Value.slice qa x.am.length da, Value.int IntKind.i64 ↑x.am.length, Value.bool false, Value.bool false, Value.bool false, Value.pointer (some { block := w.heap.size, off := 3 }), Value.slice pw x.wr.length cw, Value.int IntKind.i64 ↑x.wr.length, Value.pointer (some { block := w.heap.size + 1, off := 3 }), Value.slice qw x.wr.length dw, Value.int IntKind.i64 ↑x.wr.length, Value.bool false, Value.bool false, Value.bool false, Value.pointer (some { block := w.heap.size, off := 5 }), Value.slice (some { block := g1, off := o1 }) x.el.length ce, Value.int IntKind.i64 ↑x.el.length, Value.pointer (some { block := w.heap.size + 1, off := 5 }), Value.slice (some { block := g2, off := o2 }) x.el.length de, Value.int IntKind.i64 ↑x.el.length, Value.bool false, Value.bool false, Value.bool false, Value.pointer (some { block := w.heap.size, off := 4 }), Value.slice pm x.mb.length cm, Value.pointer (some { block := w.heap.size + 1, off := 4 }), Value.slice qm x.mb.length dm, Value.bool true, Value.bool false, Value.bool false, Value.int IntKind.i64 ↑x.am.length, Value.pointer (some { block := w.heap.size, off := 2 }), Value.slice pa x.am.length ca', Value.int IntKind.i64 ↑x.am.length, Value.bool false, u62, u63, u64, u65, u66, u67, u68, u69, u70, u71, u72, u73, u74, Value.int IntKind.i64 ↑x.wr.length, Value.pointer (some { block := w.heap.size, off := 3 }), Value.slice pw x.wr.length cw, Value.int IntKind.i64 ↑x.wr.length, Value.bool false, u80, u81, u82, u83, u84, u85, u86, u87, u88, u89, u90, u91, u92, Value.int IntKind.i64 ↑k, Value.pointer (some { block := w.heap.size, off := 5 }), Value.slice (some { block := g1, off := o1 }) x.el.length ce, Value.int IntKind.i64 ↑x.el.length, Value.bool true, u98, u99, xv 0, xv 1, xv 2, xv 3, xv 4, xv 5, xv 6, xv 7, xv 8, xv 9, u110, u111, u112, u113, u114, u115, u116, u117, u118, u119, u120, u121, u122, u123, u124, u125, u126, u127, u128, u129, u130, u131, u132, u133, u134, u135, u136, u137, u138, u139, u140, u141, u142, u143], defers := [] }) [pF 0 (eqP (.pointer (some ⟨w.heap.size, 5, none⟩))), pF 1 (eqP (.slice (some ⟨g1, o1, none⟩) x.el.length ce)), pF 2 (eqP (.int .i64 k)), pF 3 (eqP (.pointer (some ⟨g1, o1 + k * 9, none⟩))), pF 4 (eqP (.agg ([.int .i64 a2.p, .int .i64 a2.s, .int .i64 a2.i, .int .i64 a2.t, .int .i64 a2.q, .int .i64 a2.u, .int .i64 a2.j, .string a2.x, .slice x1 a2.gone.length z1] : List Value).toArray)), pF 5 (eqP (.pointer (some ⟨w.heap.size + 1, 5, none⟩))), pF 6 (eqP (.slice (some ⟨g2, o2, none⟩) x.el.length de)), pF 7 (eqP (.int .i64 k)), pF 8 (eqP (.pointer (some ⟨g2, o2 + k * 9, none⟩))), pF 9 (eqP (.agg ([.int .i64 a2.p, .int .i64 a2.s, .int .i64 a2.i, .int .i64 a2.t, .int .i64 a2.q, .int .i64 a2.u, .int .i64 a2.j, .string a2.x, .slice x2 a2.gone.length z2] : List Value).toArray)), pF 10 (newP wr.heap.size 60 9), pF 11 (newP wr.heap.size 60 9), pF 10 (boxP wr.heap.size 60 ([.int .i64 a2.p, .int .i64 a2.s, .int .i64 a2.i, .int .i64 a2.t, .int .i64 a2.q, .int .i64 a2.u, .int .i64 a2.j, .string a2.x, .slice x1 a2.gone.length z1] : List Value).toArray), pF 11 (boxP wr.heap.size 60 ([.int .i64 a2.p, .int .i64 a2.s, .int .i64 a2.i, .int .i64 a2.t, .int .i64 a2.q, .int .i64 a2.u, .int .i64 a2.j, .string a2.x, .slice x2 a2.gone.length z2] : List Value).toArray)] (R2 10 11) (R2_symm 10 11) _ rfl rfl (by kernel_rfl) (fun j => [u100, u101, u102, u103, u104, u105, u106, u107, u108, u109, u8, u9, undef, undef].getD j undef) rfl (Below.refl _ wr).drew ⟨?_, ?_, ?_, ?_, ?_, ?_, ?_, ?_, ?_, ?_, ?_, ?_, ?_, ?_, trivial⟩ ?_
              · exact FactsG.of rfl (fun _ _ _ h => absurd h (by omega)) (fun _ _ _ _ => rfl) (Facts.pureP hS hF (fun _ _ => rfl) rfl (fun xv wv hSw hd => by
                  go_simp))
              · exact FactsG.of rfl (fun _ _ _ h => absurd h (by omega)) (fun _ _ _ _ => rfl) (Facts.pureP hS hF (fun _ _ => rfl) rfl (fun xv wv hSw hd => by
                  have d0 : xv 0 = _ := pF_get (hd ⟨0, .data⟩ (by simp) rfl _ rfl); have w1_ : wr.cell? ⟨w.heap.size, 5, none⟩ = some (.slice (some ⟨g1, o1, none⟩) x.el.length ce) := R0.cell 5; have w2_ := cell_later hSw w1_; have w3_ : wr.cell? ⟨w.heap.size + 1, 5, none⟩ = some (.slice (some ⟨g2, o2, none⟩) x.el.length de) := R1.cell 5; have w4_ := cell_later hSw w3_; simp only [d0]
                  go_simp))
              · exact FactsG.of rfl (fun _ _ _ h => absurd h (by omega)) (fun _ _ _ _ => rfl) (Facts.pureP hS hF (fun _ _ => rfl) rfl (fun xv wv hSw hd => by
                  go_simp))
              · exact FactsG.of rfl (fun _ _ _ h => absurd h (by omega)) (fun _ _ _ _ => rfl) (Facts.pureP hS hF (fun _ _ => rfl) rfl (fun xv wv hSw hd => by
                  have d1 : xv 1 = _ := pF_get (hd ⟨1, .data⟩ (by simp) rfl _ rfl); have d2 : xv 2 = _ := pF_get (hd ⟨2, .data⟩ (by simp) rfl _ rfl); simp only [d1, d2]
                  go_simp))
              · exact FactsG.of rfl (fun _ _ _ h => absurd h (by omega)) (fun _ _ _ _ => rfl) (Facts.loadP hS hF (fun _ _ => rfl) 60 Tryz.underlying60 rfl ze1 _ rfl rfl (fun xv wv hSw hd => by have d3 : xv 3 = _ := pF_get (hd ⟨3, .data⟩ (by simp) rfl _ rfl); exact d3) (fun wv hSw => range_later d1 hSw))
              · exact FactsG.of rfl (fun _ _ _ h => absurd h (by omega)) (fun _ _ _ _ => rfl) (Facts.pureP hS hF (fun _ _ => rfl) rfl (fun xv wv hSw hd => by
                  go_simp))
              · exact FactsG.of rfl (fun _ _ _ h => absurd h (by omega)) (fun _ _ _ _ => rfl) (Facts.pureP hS hF (fun _ _ => rfl) rfl (fun xv wv hSw hd => by
                  have d5 : xv 5 = _ := pF_get (hd ⟨5, .data⟩ (by simp) rfl _ rfl); have w1_ : wr.cell? ⟨w.heap.size, 5, none⟩ = some (.slice (some ⟨g1, o1, none⟩) x.el.length ce) := R0.cell 5; have w2_ := cell_later hSw w1_; have w3_ : wr.cell? ⟨w.heap.size + 1, 5, none⟩ = some (.slice (some ⟨g2, o2, none⟩) x.el.length de) := R1.cell 5; have w4_ := cell_later hSw w3_; simp only [d5]
                  go_simp))
              · exact FactsG.of rfl (fun _ _ _ h => absurd h (by omega)) (fun _ _ _ _ => rfl) (Facts.pureP hS hF (fun _ _ => rfl) rfl (fun xv wv hSw hd => by
                  go_simp))
              · exact FactsG.of rfl (fun _ _ _ h => absurd h (by omega)) (fun _ _ _ _ => rfl) (Facts.pureP hS hF (fun _ _ => rfl) rfl (fun xv wv hSw hd => by
                  have d6 : xv 6 = _ := pF_get (hd ⟨6, .data⟩ (by simp) rfl _ rfl); have d7 : xv 7 = _ := pF_get (hd ⟨7, .data⟩ (by simp) rfl _ rfl); simp only [d6, d7]
                  go_simp))
              · exact FactsG.of rfl (fun _ _ _ h => absurd h (by omega)) (fun _ _ _ _ => rfl) (Facts.loadP hS hF (fun _ _ => rfl) 60 Tryz.underlying60 rfl ze2 _ rfl rfl (fun xv wv hSw hd => by have d8 : xv 8 = _ := pF_get (hd ⟨8, .data⟩ (by simp) rfl _ rfl); exact d8) (fun wv hSw => range_later d2 hSw))
              · exact FactsG.alloc2 rfl rfl hS hF (fun _ _ => rfl) 60 rfl rfl (fun wv hSw => hSw.size) (fun _ _ => rfl) (fun j f hj h => by rcases h with ⟨h, rfl⟩ | ⟨h, rfl⟩ <;> first | (simp at h; done) | exact ⟨60, 9, (Option.some.inj hj).symm⟩)
              · exact FactsG.alloc2 rfl rfl hS hF (fun _ _ => rfl) 60 rfl rfl (fun wv hSw => hSw.size) (fun _ _ => rfl) (fun j f hj h => by rcases h with ⟨h, rfl⟩ | ⟨h, rfl⟩ <;> first | (simp at h; done) | exact ⟨60, 9, (Option.some.inj hj).symm⟩)
              · refine FactsG.ofR rfl (fun _ _ _ _ => rfl) (fun xv wv hSw hd hrel => ?_)
                obtain ⟨q, cs, eq, hN, hq, hz⟩ := pF_get (hd ⟨10, .data⟩ (by simp) rfl _ rfl); have dv : xv 4 = _ := pF_get (hd ⟨4, .data⟩ (by simp) rfl _ rfl); have hne : xv 10 ≠ xv 11 := hrel ⟨10, .phase⟩ (by simp) rfl ⟨11, .phase⟩ (by simp) rfl (by decide) (by simp); refine wp_store_r 60 _ _ rfl q ([.int .i64 a2.p, .int .i64 a2.s, .int .i64 a2.i, .int .i64 a2.t, .int .i64 a2.q, .int .i64 a2.u, .int .i64 a2.j, .string a2.x, .slice x1 a2.gone.length z1] : List Value).toArray eq dv hq size60 hz (by simp [Value.oneCell']) ?_; refine ⟨undef, rfl, below_setRow hSw hN _, fun f hf => ?_, fun j f hj hfj hh => ?_, fun j _ _ _ _ h => absurd h (by omega)⟩
                · obtain rfl := Option.some.inj hf
                  exact ⟨xv 10, rfl, q, eq, hN, hq.row _⟩
                · have hko : ∀ q', xv 11 = .pointer (some ⟨q', 0, none⟩) → q' ≠ q := fun q' e' e2 => hne (by rw [eq, e', e2])
                  match j with
                  | 0 => obtain rfl := Option.some.inj hfj; exact hh
                  | 1 => obtain rfl := Option.some.inj hfj; exact hh
                  | 2 => obtain rfl := Option.some.inj hfj; exact hh
                  | 3 => obtain rfl := Option.some.inj hfj; exact hh
                  | 4 => obtain rfl := Option.some.inj hfj; exact hh
                  | 5 => obtain rfl := Option.some.inj hfj; exact hh
                  | 6 => obtain rfl := Option.some.inj hfj; exact hh
                  | 7 => obtain rfl := Option.some.inj hfj; exact hh
                  | 8 => obtain rfl := Option.some.inj hfj; exact hh
                  | 9 => obtain rfl := Option.some.inj hfj; exact hh
                  | 10 =>
                    obtain rfl := Option.some.inj hfj; exact ⟨xv 10, rfl, q, ([.int .i64 a2.p, .int .i64 a2.s, .int .i64 a2.i, .int .i64 a2.t, .int .i64 a2.q, .int .i64 a2.u, .int .i64 a2.j, .string a2.x, .slice x1 a2.gone.length z1] : List Value).toArray, eq, hN, hq.row _, rfl⟩
                  | 11 =>
                    obtain rfl := Option.some.inj hfj; obtain ⟨q', cs', e', hN', hq', hz'⟩ := pF_get hh; exact ⟨xv 11, rfl, q', cs', e', hN', hq'.rowOther (hko q' e') _, hz'⟩
                  | 13 =>
                    obtain rfl := Option.some.inj hfj; obtain ⟨vv, ev, q', e', hN', hq'⟩ := hh; simp only [pF, List.map_cons, List.map_nil, List.cons.injEq, and_true] at ev; exact ⟨vv, by simp [pF, ev], q', e', hN', hq'.rowOther (hko q' (ev.trans e')) _⟩
                  | 12 => exact absurd rfl hj
                  | j + 14 => simp at hfj
              · refine FactsG.ofR rfl (fun _ _ _ _ => rfl) (fun xv wv hSw hd hrel => ?_)
                obtain ⟨q, cs, eq, hN, hq, hz⟩ := pF_get (hd ⟨11, .data⟩ (by simp) rfl _ rfl); have dv : xv 9 = _ := pF_get (hd ⟨9, .data⟩ (by simp) rfl _ rfl); have hne : xv 11 ≠ xv 10 := hrel ⟨11, .phase⟩ (by simp) rfl ⟨10, .phase⟩ (by simp) rfl (by decide) (by simp); refine wp_store_r 60 _ _ rfl q ([.int .i64 a2.p, .int .i64 a2.s, .int .i64 a2.i, .int .i64 a2.t, .int .i64 a2.q, .int .i64 a2.u, .int .i64 a2.j, .string a2.x, .slice x2 a2.gone.length z2] : List Value).toArray eq dv hq size60 hz (by simp [Value.oneCell']) ?_; refine ⟨undef, rfl, below_setRow hSw hN _, fun f hf => ?_, fun j f hj hfj hh => ?_, fun j _ _ _ _ h => absurd h (by omega)⟩
                · obtain rfl := Option.some.inj hf
                  exact ⟨xv 11, rfl, q, eq, hN, hq.row _⟩
                · have hko : ∀ q', xv 10 = .pointer (some ⟨q', 0, none⟩) → q' ≠ q := fun q' e' e2 => hne (by rw [eq, e', e2])
                  match j with
                  | 0 => obtain rfl := Option.some.inj hfj; exact hh
                  | 1 => obtain rfl := Option.some.inj hfj; exact hh
                  | 2 => obtain rfl := Option.some.inj hfj; exact hh
                  | 3 => obtain rfl := Option.some.inj hfj; exact hh
                  | 4 => obtain rfl := Option.some.inj hfj; exact hh
                  | 5 => obtain rfl := Option.some.inj hfj; exact hh
                  | 6 => obtain rfl := Option.some.inj hfj; exact hh
                  | 7 => obtain rfl := Option.some.inj hfj; exact hh
                  | 8 => obtain rfl := Option.some.inj hfj; exact hh
                  | 9 => obtain rfl := Option.some.inj hfj; exact hh
                  | 11 =>
                    obtain rfl := Option.some.inj hfj; exact ⟨xv 11, rfl, q, ([.int .i64 a2.p, .int .i64 a2.s, .int .i64 a2.i, .int .i64 a2.t, .int .i64 a2.q, .int .i64 a2.u, .int .i64 a2.j, .string a2.x, .slice x2 a2.gone.length z2] : List Value).toArray, eq, hN, hq.row _, rfl⟩
                  | 10 =>
                    obtain rfl := Option.some.inj hfj; obtain ⟨q', cs', e', hN', hq', hz'⟩ := pF_get hh; exact ⟨xv 10, rfl, q', cs', e', hN', hq'.rowOther (hko q' e') _, hz'⟩
                  | 12 =>
                    obtain rfl := Option.some.inj hfj; obtain ⟨vv, ev, q', e', hN', hq'⟩ := hh; simp only [pF, List.map_cons, List.map_nil, List.cons.injEq, and_true] at ev; exact ⟨vv, by simp [pF, ev], q', e', hN', hq'.rowOther (hko q' (ev.trans e')) _⟩
                  | 13 => exact absurd rfl hj
                  | j + 14 => simp at hfj
              rintro xv w5 hb5 hf hr; obtain ⟨p1, ep1, hN1, B1⟩ := pF_get (hf 12 _ (by decide) rfl); obtain ⟨p2, ep2, hN2, B2⟩ := pF_get (hf 13 _ (by decide) rfl); clear hf hr hS hF; replace R0 := R0.later hb5; replace R1 := R1.later hb5; replace hbel := below_on hbel hb5; replace q1 := q1.later hb5; replace q2 := q2.later hb5
              have E := fun w => same_mark w a2.p a2.s a2.i
              have EE := fun w => same_mark w a2.q a2.u a2.j
              have zm1 : (Tryz.prog.info? 36).map (·.size) = some [Value.int .i64 a2.p, .int .i64 a2.s, .int .i64 a2.i].length := size36; have zm2 : (Tryz.prog.info? 36).map (·.size) = some [Value.int .i64 a2.q, .int .i64 a2.u, .int .i64 a2.j].length := size36
              have m1 : w5.rangeAt p1 0 [.int .i64 a2.p, .int .i64 a2.s, .int .i64 a2.i] := B1.range 0 _ fun j v hv => by
                match j, hv with
                | 0, hv => exact hv
                | 1, hv => exact hv
                | 2, hv => exact hv
                | j + 3, hv => simp at hv
              have m2 : w5.rangeAt p2 0 [.int .i64 a2.p, .int .i64 a2.s, .int .i64 a2.i] := B2.range 0 _ fun j v hv => by
                match j, hv with
                | 0, hv => exact hv
                | 1, hv => exact hv
                | 2, hv => exact hv
                | j + 3, hv => simp at hv
              have n1 : w5.rangeAt p1 4 [.int .i64 a2.q, .int .i64 a2.u, .int .i64 a2.j] := B1.range 4 _ fun j v hv => by
                match j, hv with
                | 0, hv => exact hv
                | 1, hv => exact hv
                | 2, hv => exact hv
                | j + 3, hv => simp at hv
              have n2 : w5.rangeAt p2 4 [.int .i64 a2.q, .int .i64 a2.u, .int .i64 a2.j] := B2.range 4 _ fun j v hv => by
                match j, hv with
                | 0, hv => exact hv
                | 1, hv => exact hv
                | 2, hv => exact hv
                | j + 3, hv => simp at hv
              have i1 : w5.cell? ⟨p1, 3, none⟩ = some (.int .i64 a2.t) := B1.cell 3; have i2 : w5.cell? ⟨p2, 3, none⟩ = some (.int .i64 a2.t) := B2.cell 3; have j1 : w5.cell? ⟨p1, 7, none⟩ = some (.string a2.x) := B1.cell 7; have j2 : w5.cell? ⟨p2, 7, none⟩ = some (.string a2.x) := B2.cell 7; have k1 : w5.cell? ⟨p1, 8, none⟩ = some (.slice x1 a2.gone.length z1) := B1.cell 8; have k2 : w5.cell? ⟨p2, 8, none⟩ = some (.slice x2 a2.gone.length z2) := B2.cell 8; simp only [ep1, ep2]
              go_wp2_with (first | refine load_m 36 _ rfl rfl _ _ rfl m1 Tryz.underlying36 rfl zm1 ?_ | refine load_m 36 _ rfl rfl _ _ rfl m2 Tryz.underlying36 rfl zm1 ?_ | refine load_m 36 _ rfl rfl _ _ rfl n1 Tryz.underlying36 rfl zm2 ?_ | refine load_m 36 _ rfl rfl _ _ rfl n2 Tryz.underlying36 rfl zm2 ?_)
              refine (marks_any _ _ a2.gone w5 q1 q2).mono ?_; rintro e w6 ⟨rfl, hb6⟩; replace R0 := R0.later hb6; replace R1 := R1.later hb6; replace hbel := below_on hbel hb6; clear i1 i2 j1 j2 k1 k2 m1 m2 n1 n2 B1 B2; go_wp2_with fail; go_roundw
              case rel => exact ⟨k + 1, by simp, by omega, R0, R1, hbel⟩
              case measure => simp [intOf]; omega
            · have hlt' : ¬ (k : Int) < (x.el.length : Int) := by omega
              go_wp2_with fail; go_ret; exact ⟨rfl, hbel⟩
end Go.Proofs.YtfjpbmdmkcihcaaGreat
/- left of package seq: the elements that stay. -/
namespace Go.Proofs.YtfjpbmdmkcihcaaGreat
open Go.RowKit

/-- What left answers. -/
def LfPost (l : List El) (p : M → Bool) (w : World) (e : Ending) (w' : World) : Prop := ∃ (u : Value) (g : Nat → Bool), e = .returned u ∧ EHas w' u (stay g 0 l) ∧ Fix (upL l) l.length (stL l p) g ∧ Below w.heap.size w w'
def isF : Option Value → Bool
  | some (.bool b) => !b
  | _ => false
/-- How many lie there that do not go. -/
def mf (g n : Nat) (w : World) : Nat := (List.range n).countP (fun i => isF (w.cell? ⟨g, i, none⟩))
theorem mf_eq {w : World} {B e g c n : Nat} {W : List Bool} (h : w.ownsRow B e 1 (.slice (some ⟨g, 0, none⟩) n c) n (bv W)) : mf g n w = (List.range W.length).countP (fun i => decide (W[i]? = some false)) := by
  have hn : W.length = n := by
    have := h.1
    rw [bv_len] at this
    omega
  subst hn; unfold mf
  apply List.countP_congr
  intro i hi; rw [List.mem_range] at hi; rw [own_bat h hi, List.getElem?_eq_getElem hi]
  simp [isF]
theorem mf_less {W : List Bool} {a : Nat} (ha : a < W.length) (h0 : W[a] = false) : (List.range (W.set a true).length).countP (fun i => decide ((W.set a true)[i]? = some false)) < (List.range W.length).countP (fun i => decide (W[i]? = some false)) := by
  rw [List.length_set]; obtain ⟨b, hb⟩ : ∃ b, W.length = a + 1 + b := ⟨W.length - (a + 1), by omega⟩
  have e : List.range W.length = List.range a ++ a :: (List.range b).map (a + 1 + ·) := by
    rw [hb, List.range_add, List.range_succ, List.append_assoc]
    rfl
  rw [e, List.countP_append, List.countP_append, List.countP_cons, List.countP_cons]
  have e1 : (List.range a).countP (fun i => decide ((W.set a true)[i]? = some false)) = (List.range a).countP (fun i => decide (W[i]? = some false)) := List.countP_congr (fun i hi => by
    rw [List.mem_range] at hi
    rw [List.getElem?_set_ne (by omega)])
  have e2 : ((List.range b).map (a + 1 + ·)).countP (fun i => decide ((W.set a true)[i]? = some false)) = ((List.range b).map (a + 1 + ·)).countP (fun i => decide (W[i]? = some false)) := List.countP_congr (fun i hi => by
    rw [List.mem_map] at hi; obtain ⟨j, _, rfl⟩ := hi
    rw [List.getElem?_set_ne (by omega)])
  rw [e1, e2]
  simp [ha, h0]
/-- What a list of truths says of a place. -/
def tg (W : List Bool) (k : Nat) : Bool := W.getD k false
theorem tg_at {W : List Bool} {k : Nat} (h : k < W.length) : W[k] = tg W k := by simp [tg, h]
theorem tg_set {W : List Bool} {a : Nat} (ha : a < W.length) : tg (W.set a true) = fun c => if c = a then true else tg W c := by
  funext c
  unfold tg
  by_cases e : c = a
  · subst e
    simp [ha]
  · simp [e, List.getElem?_set_ne (Ne.symm e)]
set_option maxHeartbeats 8000000 in
set_option maxRecDepth 100000 in
theorem leftS_any (v : Value) (l : List El) (p : M → Bool) (bt : Nat) (w : World) (h : EHas w v l) (hl : l.length ≤ 100) (hg : ∀ e ∈ l, e.gone.length ≤ 100) (hp : l.Pairwise (fun a b => kl (kE a) (kE b) = true)) (hok : okR l = true) (hpos : 0 < l.length) (C : ∀ (y : M) (w' : World), Below w.heap.size w w' → Calls Tryz.prog 45 #[MV y.p y.s y.i, .pointer (some ⟨bt, 0, none⟩)] w' (Tells (.bool (p y)) w')) :
    Calls Tryz.prog 44 #[v, .func (.func 45) #[] #[.pointer (some ⟨bt, 0, none⟩)]] w (LfPost l p w) := by
  obtain ⟨Q, HQ⟩ : ∃ Q, Hid (LfPost l p w = Q) := ⟨_, rfl⟩; rw [HQ.out]; have C1 := aheads_any v l w h hl hp; have HC : Hid (∀ (y : M) (w' : World), Below w.heap.size w w' → Calls Tryz.prog 45 #[MV y.p y.s y.i, .pointer (some ⟨bt, 0, none⟩)] w' (Tells (.bool (p y)) w')) := C; obtain ⟨ys, hys, h, hy⟩ := h; have hml := maxLen_lt h.1; obtain ⟨pv, cv, rfl⟩ := h.slice
  have hyl : ys.length = l.length := by rw [← hys, List.length_map]
  have HR : Hid (SHas 9 w (.slice pv l.length cv) l.length (rows El.cells ys)) := h; have HY : Hid (∀ y ∈ ys, MHas w y.2 y.1.gone) := hy
  have HL : Hid (∀ k (h1 : k < ys.length) (h2 : k < l.length), ys[k].1 = l[k]) := fun k h1 h2 => by
    subst hys; rw [List.getElem_map]
  have HYS : Hid (ys.map (·.1) = l) := hys; have HGL : Hid (∀ e ∈ l, e.gone.length ≤ 100) := hg; obtain ⟨i0, hi, hz0, hz1, hz2⟩ := info_parts info3; obtain ⟨i1, hi1, hy0, hy1, hy2⟩ := info_parts info4
  have hmx : l.length + 1 ≤ maxLen := by simp [maxLen]; omega
  clear h hy hys hg hp C
  go_enter Tryz.func44, Tryz.ntmps44
  go_wp2_with fail; refine C1.mono ?_; clear C1; rintro e w1 (⟨_, gu, cu, rfl, hu, hb1⟩ | ⟨h', _⟩); rotate_left
  · rw [hok] at h'
    cases h'
  have hw1 : w.heap.size ≤ w1.heap.size := hb1.size; have hgu := own_ge hu
  go_wp2_with (first | refine wpList_make_full _ rfl _ _ 87 rfl w1.heap.size 3 i0 (.int .i64 0) 1 Tryz.underlying87 hi hz0 hz1 .i64 .i64 _ _ (l.length + 1) rfl rfl (by first | rfl | simp) (by first | rfl | simp) (by rw [hz2]; omega) hmx (Nat.le_refl _) ?_)
  intro w2 hB hg2; rw [iv_made] at hB; have hb2 := bel_grown hg2; generalize hGb : w1.heap.size = gb at hB ⊢; have HGb : Hid (gb = w1.heap.size) := hGb.symm; clear hg2 hGb; replace hu := own_later hu hb2; have hbw2 := below_on hb1 hb2; obtain ⟨gg0, hgg0⟩ : ∃ n, n = l.length := ⟨_, rfl⟩
  have hcu : l.length + 1 ≤ cu := by
    obtain ⟨_, ⟨h0, _⟩ | ⟨g', cap', cur, h', _, _, hnc, _⟩⟩ := hu
    · cases h0
    · simp only [Value.slice.injEq, true_and] at h'
      rw [h'.2]; exact hnc
  have hcu' : ((l.length : Int) + 1) ≤ (cu : Int) := by omega
  have hcu2 : (1 : Int) ≤ (l.length : Int) + 1 := by omega
  have hcu3 : ¬ cu = 1 := by omega
  have hcu4 : ¬ (cu : Int) = 1 := by omega
  have hcu5 : ¬ cu - 1 = 0 := by omega
  have hcu6 : (1 : Int) < (cu : Int) := by omega
  have hcu7 : ¬ (1 : Int) = (cu : Int) := by omega
  have HUP : Hid (∀ k, k ≤ l.length → ∃ h : k < (ups l).length, (ups l)[k] = upL l k) := fun k hk => ⟨by rw [ups_len]; omega, ups_at _⟩
  clear hgg0 gg0; go_wp2_with fail
  go_loopw [27] (fun vi wr => ∃ (i : Nat) (Bs : List Nat), vi = .int .i64 i ∧ i ≤ l.length ∧ Bs.length = l.length + 1 ∧ Hid (∀ q (h : q < Bs.length), Bs[q] = cntG (upL l) i (fun _ => false) q) ∧ wr.ownsRow gb 3 1 (.slice (some ⟨gb, 0, none⟩) (l.length + 1) (l.length + 1)) (l.length + 1) (iv Bs) ∧ wr.ownsRow w.heap.size 3 1 (.slice (some ⟨gu, 0, none⟩) (l.length + 1) cu) (l.length + 1) (iv (ups l)) ∧ Below w.heap.size w wr) (fun vi _ => l.length - (intOf vi).toNat)
  case atStart => exact ⟨0, List.replicate (l.length + 1) 0, rfl, by omega, by simp, (show ∀ q (_ : q < _), _ from fun q h => by simp [cntG]), hB, hu, hbw2⟩
  case round =>
    clear hB hu hbw2; obtain ⟨i, Bs, rfl, hi', hBl, HB, hB, hu, hbw⟩ := hrel
    by_cases hlt : i < l.length
    · have hlt' : (i : Int) < (l.length : Int) := by omega
      obtain ⟨hul, hue⟩ := HUP.out (1 + i) (by omega); have hc1 := own_iat hu hul; rw [hue] at hc1; obtain ⟨a, HA⟩ := hid_ex (upL l (1 + i))
      have hal : a ≤ l.length := by rw [← HA.out]; exact upL_le _ _
      rw [HA.out] at hc1; have hc2 := own_iat hB (show a < Bs.length by omega); have hfz := own_fz hB a; obtain ⟨x, HX⟩ := hid_ex (Bs[a]'(by omega)); rw [HX.out] at hc2
      have hx : x ≤ 100 := by
        rw [← HX.out, HB.out]; unfold cntG; exact Nat.le_trans List.countP_le_length (by simp; omega)
      have ho2 := own_iset hB a (x + 1); have hge := (own_ge hB).1; have hu2 := own_over hu (b := gb) (fun k hk => by simp [Value.ownBlock] at hk; have := HGb.out; omega) a (.int .i64 ((x + 1 : Nat) : Int)); have hbC := below_cell hbw (show w.heap.size ≤ gb by have := HGb.out; omega) a (.int .i64 ((x + 1 : Nat) : Int))
      have wx : IntKind.i64.wrap ((x : Int) + 1) = ((x + 1 : Nat) : Int) := by rw [IntKind.wrap_i64]; omega
      have ha0 : (0 : Int) ≤ (a : Int) := by omega
      have ha1 : (a : Int) < (l.length : Int) + 1 := by omega
      have hi0 : (0 : Int) ≤ (i : Int) := by omega
      have HB2 : Hid (∀ q (h : q < (Bs.set a (x + 1)).length), (Bs.set a (x + 1))[q] = cntG (upL l) (i + 1) (fun _ => false) q) := fun q h => by
        rw [cntG_succ, List.getElem_set, Nat.add_comm i 1, HA.out]; rw [List.length_set] at h
        by_cases e : a = q
        · subst e
          rw [if_pos rfl, ← HB.out a h, HX.out]
          simp
        · rw [if_neg e, HB.out q h]
          simp [e]
      clear HB HX hB hu hbw; go_wp2_with fail; go_roundw
      case rel => exact ⟨i + 1, Bs.set a (x + 1), by simp, by omega, by rw [List.length_set]; exact hBl, HB2, ho2, hu2, hbC⟩
      case measure => simp [intOf]; omega
    · have hlt' : ¬ (i : Int) < (l.length : Int) := by omega
      obtain rfl : i = l.length := by omega
      go_wp2_with (first | refine wpList_make_full _ rfl _ _ 104 rfl wr.heap.size 4 i1 (.bool false) 1 Tryz.underlying104 hi1 hy0 hy1 .i64 .i64 _ _ (l.length + 1) rfl rfl (by first | rfl | simp) (by first | rfl | simp) (by rw [hy2]; omega) hmx (Nat.le_refl _) ?_)
      intro w3 hG hg3; rw [bv_made] at hG; have hb3 := bel_grown hg3; generalize hGg : wr.heap.size = gg at hG ⊢; have HGg : Hid (gg = wr.heap.size) := hGg.symm; have hgbw := (own_ge hB).2; clear hg3 hGg; replace hB := own_later hB hb3; replace hu := own_later hu hb3; replace hbw := below_on hbw hb3
      have HB0 : Hid (∀ q (h : q < Bs.length), Bs[q] = cntG (upL l) l.length (tg (List.replicate (l.length + 1) false)) q) := fun q h => by
        rw [HB.out q h]; unfold cntG
        apply List.countP_congr
        intro c _
        have : tg (List.replicate (l.length + 1) false) (c + 1) = false := by
          unfold tg; rw [List.getD_eq_getElem?_getD, List.getElem?_replicate]
          split <;> rfl
        rw [this]
      have HT0 : Hid (∀ a, tg (List.replicate (l.length + 1) false) a = false) := fun a => by
        unfold tg; rw [List.getD_eq_getElem?_getD, List.getElem?_replicate]
        split <;> rfl
      have hgu2 : gu < gb := by have := HGb.out; omega
      have hgb2 : gb < gg := by have := HGg.out; omega
      have hwg : w.heap.size ≤ gu := hgu.1; clear HB HGb HGg hgbw hgu; go_wp2_with fail
      go_loopw [43] (fun vk wr => ∃ (k : Nat) (Gs : List Bool) (Bs : List Nat), vk = .int .i64 k ∧ k ≤ l.length + 1 ∧ Gs.length = l.length + 1 ∧ Bs.length = l.length + 1 ∧ Hid (∀ q (h : q < Bs.length), Bs[q] = cntG (upL l) l.length (tg Gs) q) ∧ Hid (∀ a, 1 ≤ a → a ≤ l.length → tg Gs a = true → stL l p a = true ∧ ∀ c, 1 ≤ c → c ≤ l.length → upL l c = a → tg Gs c = true) ∧ Hid (∀ a, 1 ≤ a → a < k → a ≤ l.length → stL l p a = true → cntG (upL l) l.length (tg Gs) a = 0 → tg Gs a = true) ∧ wr.ownsRow gg 4 1 (.slice (some ⟨gg, 0, none⟩) (l.length + 1) (l.length + 1)) (l.length + 1) (bv Gs) ∧ wr.ownsRow gb 3 1 (.slice (some ⟨gb, 0, none⟩) (l.length + 1) (l.length + 1)) (l.length + 1) (iv Bs) ∧ wr.ownsRow w.heap.size 3 1 (.slice (some ⟨gu, 0, none⟩) (l.length + 1) cu) (l.length + 1) (iv (ups l)) ∧ Below w.heap.size w wr) (fun vk _ => l.length + 1 - (intOf vk).toNat)
      case atStart => exact ⟨0, _, Bs, rfl, by omega, by simp, hBl, HB0, (show ∀ a, _ from fun a _ _ h => by rw [HT0.out] at h; cases h), (show ∀ a, _ from fun a _ h => by omega), hG, hB, hu, hbw⟩
      case round =>
        clear hG hB hu hbw HB0 HT0 hBl Bs; obtain ⟨k, Gs, Bs, rfl, hk, hGl, hBl, H1, H2, H3, hG, hB, hu, hbw⟩ := hrel
        by_cases hkl : k < l.length + 1
        · have hkl' : (k : Int) < (l.length : Int) + 1 := by omega
          go_wp2_with fail
          go_loopw [12] (fun va wr => ∃ (a : Nat) (Gs : List Bool) (Bs : List Nat), va = .int .i64 a ∧ a ≤ l.length ∧ Gs.length = l.length + 1 ∧ Bs.length = l.length + 1 ∧ Hid (∀ q (h : q < Bs.length), Bs[q] = cntG (upL l) l.length (tg Gs) q) ∧ Hid (∀ a, 1 ≤ a → a ≤ l.length → tg Gs a = true → stL l p a = true ∧ ∀ c, 1 ≤ c → c ≤ l.length → upL l c = a → tg Gs c = true) ∧ Hid (∀ b, 1 ≤ b → b < k + 1 → b ≤ l.length → b ≠ a → stL l p b = true → cntG (upL l) l.length (tg Gs) b = 0 → tg Gs b = true) ∧ wr.ownsRow gg 4 1 (.slice (some ⟨gg, 0, none⟩) (l.length + 1) (l.length + 1)) (l.length + 1) (bv Gs) ∧ wr.ownsRow gb 3 1 (.slice (some ⟨gb, 0, none⟩) (l.length + 1) (l.length + 1)) (l.length + 1) (iv Bs) ∧ wr.ownsRow w.heap.size 3 1 (.slice (some ⟨gu, 0, none⟩) (l.length + 1) cu) (l.length + 1) (iv (ups l)) ∧ Below w.heap.size w wr) (fun _ wr => mf gg (l.length + 1) wr)
          case atStart => exact ⟨k, Gs, Bs, rfl, by omega, hGl, hBl, H1, H2, (show ∀ b, _ from fun b b1 b2 b3 b4 => H3.out b b1 (by omega) b3), hG, hB, hu, hbw⟩
          case round =>
            clear hG hB hu hbw H1 H2 H3 hGl hBl Gs Bs; obtain ⟨a, Gs, Bs, rfl, hal, hGl, hBl, H1, H2, H3, hG, hB, hu, hbw⟩ := hrel
            have OUT : ∀ (s1 : ¬ (a ≠ 0 ∧ tg Gs a = false ∧ cntG (upL l) l.length (tg Gs) a = 0 ∧ stL l p a = true)), Hid (∀ b, 1 ≤ b → b < k + 1 → b ≤ l.length → stL l p b = true → cntG (upL l) l.length (tg Gs) b = 0 → tg Gs b = true) := fun s1 b b1 b2 b3 b4 b5 => by
              by_cases e : b = a
              · subst e
                cases hh : tg Gs b
                · exact absurd ⟨by omega, hh, b5, b4⟩ s1
                · rfl
              · exact H3.out b b1 b2 b3 e b4 b5
            by_cases ha0 : a = 0
            · have H4 := OUT (fun s => s.1 ha0)
              subst ha0; clear OUT H3; go_wp2_with fail; go_roundw
              case rel => exact ⟨k + 1, Gs, Bs, by simp, by omega, hGl, hBl, H1, H2, H4, hG, hB, hu, hbw⟩
              case measure => simp [intOf]; omega
            · have ha0' : ¬ ((a : Int) = 0) := by omega
              have ha1 : (0 : Int) ≤ (a : Int) := by omega
              have ha2 : (a : Int) < (l.length : Int) + 1 := by omega
              have haG : a < Gs.length := by omega
              have haB : a < Bs.length := by omega
              have cG := own_bat hG haG; rw [tg_at haG] at cG; obtain ⟨bg, HBG⟩ := hid_ex (tg Gs a); rw [HBG.out] at cG
              cases bg
              · have cB := own_iat hB haB
                rw [H1.out a haB] at cB; obtain ⟨xb, HXB⟩ := hid_ex (cntG (upL l) l.length (tg Gs) a); rw [HXB.out] at cB
                by_cases hx0 : xb = 0
                · subst hx0
                  have HMF0 : Hid (mf gg (l.length + 1) wr = (List.range Gs.length).countP (fun i => decide (Gs[i]? = some false))) := mf_eq hG; obtain ⟨a1, rfl⟩ : ∃ a1, a = a1 + 1 := ⟨a - 1, by omega⟩
                  have ha3 : a1 < l.length := by omega
                  have ha4 : a1 < ys.length := by omega
                  obtain ⟨g1, o, rfl, hd0⟩ := HR.out.at (by omega); have hd := range_later hd0 hbw; have d : wr.rangeAt g1 (o + a1 * 9) (El.cells ys[a1]) := range_sub hd (a1 * 9) fun j u hu => rows_at El.len ys a1 ha4 j u hu; have hyk := (HY.out ys[a1] (List.getElem_mem _)).later hbw; have ey := HL.out a1 ha4 ha3
                  have hgk : ys[a1].1.gone.length ≤ 100 := by rw [ey]; exact HGL.out _ (List.getElem_mem _)
                  have HST : Hid (stL l p (a1 + 1) = ys[a1].1.gone.any p) := by
                    show _ = _
                    rw [stL_succ ha3, ey]
                  obtain ⟨yy, HX⟩ := hid_ex (ys[a1]); rw [HX.out] at d hyk hgk HST; obtain ⟨y, yv⟩ := yy; replace hyk : MHas wr yv y.gone := hyk; replace hgk : y.gone.length ≤ 100 := hgk; replace HST : Hid (stL l p (a1 + 1) = y.gone.any p) := HST; have cg : wr.cell? ⟨g1, o + a1 * 9 + 8, none⟩ = some yv := d 8 yv rfl; have C2 := containsF_any yv y.gone p bt wr hyk hgk (fun m w' hb => HC.out m w' (below_on hbw hb)); obtain ⟨b, HB2⟩ := hid_ex (y.gone.any p); rw [HB2.out] at C2 HST; obtain ⟨py, cy, rfl⟩ := hyk.slice
                  have wa : IntKind.i64.wrap ((a1 : Int) + 1 - 1) = (a1 : Int) := by rw [IntKind.wrap_i64]; omega
                  have wa2 : IntKind.i64.wrap (a1 : Int) = (a1 : Int) := by rw [IntKind.wrap_i64]; omega
                  have wa3 : (0 : Int) ≤ (a1 : Int) := by omega
                  have wa4 : (a1 : Int) < (l.length : Int) := by omega
                  have wa5 : ¬ ((a1 : Int) + 1 = 0) := by omega
                  have wa6 : (0 : Int) ≤ (a1 : Int) + 1 := by omega
                  have wa7 : (a1 : Int) + 1 < (l.length : Int) + 1 := by omega
                  clear hd hd0 d hyk HX ey HB2 ha0 ha0'; go_wp2_with fail; refine C2.mono ?_; clear C2; rintro e w5 ⟨rfl, hb5⟩; replace hG := own_later hG hb5; replace hB := own_later hB hb5; replace hu := own_later hu hb5; replace hbw := below_on hbw hb5
                  cases b
                  · have H4 := OUT (fun s => by rw [HST.out] at s; cases s.2.2.2)
                    clear OUT H3 HXB HBG HST cG cB cg; go_wp2_with fail; go_roundw
                    case rel => exact ⟨k + 1, Gs, Bs, by simp, by omega, hGl, hBl, H1, H2, H4, hG, hB, hu, hbw⟩
                    case measure => simp [intOf]; omega
                  · obtain ⟨hul, hue⟩ := HUP.out (a1 + 1) hal
                    obtain ⟨ua, HA⟩ := hid_ex (upL l (a1 + 1))
                    have hual : ua ≤ l.length := by rw [← HA.out]; exact upL_le _ _
                    have hcs := cntG_set (up := upL l) (n := l.length) HBG.out (show 1 ≤ a1 + 1 by omega); rw [← tg_set haG] at hcs
                    have HCS : Hid (∀ q, cntG (upL l) l.length (tg Gs) q = cntG (upL l) l.length (tg (Gs.set (a1 + 1) true)) q + (if ua = q then 1 else 0)) := fun q => by
                      rw [hcs q, HA.out]
                      simp [hal]
                    obtain ⟨x1, HX1⟩ := hid_ex (cntG (upL l) l.length (tg (Gs.set (a1 + 1) true)) ua)
                    have hxu : Bs[ua]'(by omega) = x1 + 1 := by
                      rw [H1.out ua (by omega), HCS.out ua, HX1.out]
                      simp
                    have hx1 : x1 ≤ 100 := by
                      rw [← HX1.out]; unfold cntG; exact Nat.le_trans List.countP_le_length (by simp; omega)
                    -- the goes of it
                    have hG2 := own_bset hG (a1 + 1) true; have hfG := own_fz hG (a1 + 1); have hcG := own_bat hG haG; have hB2 := own_over hB (b := gg) (fun q hq => by simp [Value.ownBlock] at hq; omega) (a1 + 1) (.bool true); have hu2 := own_over hu (b := gg) (fun q hq => by simp [Value.ownBlock] at hq; omega) (a1 + 1) (.bool true); have hbw2 := below_cell hbw (show w.heap.size ≤ gg by omega) (a1 + 1) (.bool true); have hc1 := own_iat hu2 hul; rw [hue, HA.out] at hc1; have hc2 := own_iat hB2 (show ua < Bs.length by omega); rw [hxu] at hc2; have hfB := own_fz hB2 ua
                    -- those behind the one ahead
                    have hB3 := own_iset hB2 ua x1; have hG3 := own_over hG2 (b := gb) (fun q hq => by simp [Value.ownBlock] at hq; omega) ua (.int .i64 (x1 : Int)); have hu3 := own_over hu2 (b := gb) (fun q hq => by simp [Value.ownBlock] at hq; omega) ua (.int .i64 (x1 : Int)); have hbw3 := below_cell hbw2 (show w.heap.size ≤ gb by omega) ua (.int .i64 (x1 : Int)); have hc3 := own_iat hu3 hul; rw [hue, HA.out] at hc3
                    have wx1 : IntKind.i64.wrap (((x1 + 1 : Nat) : Int) - 1) = (x1 : Int) := by rw [IntKind.wrap_i64]; omega
                    have wx2 : IntKind.i64.wrap (x1 : Int) = (x1 : Int) := by rw [IntKind.wrap_i64]; omega
                    have wu0 : (0 : Int) ≤ (ua : Int) := by omega
                    have wu1 : (ua : Int) < (l.length : Int) + 1 := by omega
                    have K1 : Hid (∀ q (h : q < (Bs.set ua x1).length), (Bs.set ua x1)[q] = cntG (upL l) l.length (tg (Gs.set (a1 + 1) true)) q) := fun q h => by
                      rw [List.getElem_set]; rw [List.length_set] at h
                      by_cases e : ua = q
                      · subst e
                        rw [if_pos rfl, HX1.out]
                      · rw [if_neg e, H1.out q h, HCS.out q, if_neg e, Nat.add_zero]
                    have K2 : Hid (∀ a, 1 ≤ a → a ≤ l.length → tg (Gs.set (a1 + 1) true) a = true → stL l p a = true ∧ ∀ c, 1 ≤ c → c ≤ l.length → upL l c = a → tg (Gs.set (a1 + 1) true) c = true) := fun b b1 b2 b3 => by
                      rw [tg_set haG] at b3 ⊢
                      by_cases e : b = a1 + 1
                      · subst e
                        refine ⟨HST.out, fun c c1 c2 c3 => ?_⟩; simp only; rw [cntG_zero.1 HXB.out c c1 c2 c3]
                        simp
                      · simp only [if_neg e] at b3
                        obtain ⟨s1, s2⟩ := H2.out b b1 b2 b3; refine ⟨s1, fun c c1 c2 c3 => ?_⟩; simp only; rw [s2 c c1 c2 c3]
                        simp
                    have K3 : Hid (∀ b, 1 ≤ b → b < k + 1 → b ≤ l.length → b ≠ ua → stL l p b = true → cntG (upL l) l.length (tg (Gs.set (a1 + 1) true)) b = 0 → tg (Gs.set (a1 + 1) true) b = true) := fun b b1 b2 b3 b4 b5 b6 => by
                      rw [tg_set haG]
                      by_cases e : b = a1 + 1
                      · simp [e]
                      · simp only [if_neg e]
                        refine H3.out b b1 b2 b3 e b5 ?_; rw [HCS.out b, if_neg (Ne.symm b4), b6]
                    have HMS : Hid (mf gg (l.length + 1) ((w5.setCell ⟨gg, a1 + 1, none⟩ (.bool true)).setCell ⟨gb, ua, none⟩ (.int .i64 (x1 : Int))) < mf gg (l.length + 1) wr) := by
                      show _ < _
                      rw [mf_eq hG3, HMF0.out]; exact mf_less haG (by rw [tg_at haG]; exact HBG.out)
                    clear OUT H1 H2 H3 HXB HBG HST HCS HX1 hG hB hu hbw hG2 hB2 hu2 hbw2 cG cB cg hcs hue HMF0 HA hxu; go_wp2_with fail; go_roundw
                    case rel => exact ⟨ua, _, _, rfl, hual, by rw [List.length_set]; exact hGl, by rw [List.length_set]; exact hBl, K1, K2, K3, hG3, hB3, hu3, hbw3⟩
                    case measure => exact HMS.out
                · have hx0' : ¬ ((xb : Int) = 0) := by omega
                  have H4 := OUT (fun s => hx0 (by rw [← HXB.out]; exact s.2.2.1)); clear OUT H3 HXB HBG; go_wp2_with fail; go_roundw
                  case rel => exact ⟨k + 1, Gs, Bs, by simp, by omega, hGl, hBl, H1, H2, H4, hG, hB, hu, hbw⟩
                  case measure => simp [intOf]; omega
              · have H4 := OUT (fun s => by rw [HBG.out] at s; cases s.2.1)
                clear OUT H3 HBG; go_wp2_with fail; go_roundw
                case rel => exact ⟨k + 1, Gs, Bs, by simp, by omega, hGl, hBl, H1, H2, H4, hG, hB, hu, hbw⟩
                case measure => simp [intOf]; omega
        · have hkl' : ¬ (k : Int) < (l.length : Int) + 1 := by omega
          obtain rfl : k = l.length + 1 := by omega
          have HFX : Hid (Fix (upL l) l.length (stL l p) (tg Gs)) := fun a a1 a2 => ⟨fun h => H2.out a a1 a2 h, fun ⟨h, h'⟩ => H3.out a a1 (by omega) a2 h (cntG_zero.2 h')⟩
          obtain ⟨j0, hj0, hje0, hje1, hje2⟩ := info_parts info60; clear H1 H2 H3 hB hu; go_wp2_with fail
          go_loopw [13, 92] (fun vs vi w' => ∃ k : Nat, vi = .int .i64 k ∧ k ≤ l.length ∧ w'.ownsRow w.heap.size 60 9 vs (stay (tg Gs) 0 (ys.take k)).length (rows El.cells (stay (tg Gs) 0 (ys.take k))) ∧ w'.ownsRow gg 4 1 (.slice (some ⟨gg, 0, none⟩) (l.length + 1) (l.length + 1)) (l.length + 1) (bv Gs) ∧ Below w.heap.size w w') (fun _ vi _ => l.length - (intOf vi).toNat)
          case atStart => exact ⟨0, rfl, by omega, own_none _ _ _ _, hG, hbw⟩
          case round =>
            clear hG hbw; obtain ⟨k, rfl, hk2, ho, hG, hbw⟩ := hrel; obtain ⟨n0, HN0⟩ := hid_ex (stay (tg Gs) 0 (ys.take k)).length
            have hn0 : n0 ≤ k := by
              rw [← HN0.out]; exact Nat.le_trans (stay_sub _ _ _).length_le (by simp; omega)
            rw [HN0.out] at ho; obtain ⟨q0, d0, rfl⟩ := own_sl ho
            by_cases hlt : k < l.length
            · have hlt' : (k : Int) < (l.length : Int) := by omega
              have hky : k < ys.length := by omega
              obtain ⟨g1, o, rfl, hd0⟩ := HR.out.at (by omega); have hd := range_later hd0 hbw; have d : wr.rangeAt g1 (o + k * 9) (El.cells ys[k]) := range_sub hd (k * 9) fun j u hu => rows_at El.len ys k hky j u hu; have hyk := (HY.out ys[k] (List.getElem_mem _)).later hbw
              have HSN : Hid (stay (tg Gs) 0 (ys.take (k + 1)) = stay (tg Gs) 0 (ys.take k) ++ (if tg Gs (k + 1) = true then [] else [ys[k]])) := by
                show _ = _
                rw [List.take_succ_eq_append_getElem hky, stay_snoc]
                simp [Nat.min_eq_left (Nat.le_of_lt hky)]
              obtain ⟨yy, HX⟩ := hid_ex (ys[k]); rw [HX.out] at d hyk HSN; obtain ⟨y, yv⟩ := yy; replace hyk : MHas wr yv y.gone := hyk; obtain ⟨py, cy, rfl⟩ := hyk.slice; replace d : wr.rangeAt g1 (o + k * 9) [Value.int .i64 y.p, .int .i64 y.s, .int .i64 y.i, .int .i64 y.t, .int .i64 y.q, .int .i64 y.u, .int .i64 y.j, .string y.x, .slice py y.gone.length cy] := d; have zb : (Tryz.prog.info? 60).map (·.size) = some [Value.int .i64 y.p, .int .i64 y.s, .int .i64 y.i, .int .i64 y.t, .int .i64 y.q, .int .i64 y.u, .int .i64 y.j, .string y.x, .slice py y.gone.length cy].length := size60; have RB := rw_new wr 60 #[.int .i64 y.p, .int .i64 y.s, .int .i64 y.i, .int .i64 y.t, .int .i64 y.q, .int .i64 y.u, .int .i64 y.j, .string y.x, .slice py y.gone.length cy]; have hbA := bel_alloc (Below.refl wr.heap.size wr) (.cells #[.int .i64 y.p, .int .i64 y.s, .int .i64 y.i, .int .i64 y.t, .int .i64 y.q, .int .i64 y.u, .int .i64 y.j, .string y.x, .slice py y.gone.length cy] 60)
              have haG : k + 1 < Gs.length := by omega
              replace hG := own_later hG hbA; replace ho := own_later ho hbA; replace hbw := below_on hbw hbA; generalize hWA : wr.alloc (.cells #[.int .i64 y.p, .int .i64 y.s, .int .i64 y.i, .int .i64 y.t, .int .i64 y.q, .int .i64 y.u, .int .i64 y.j, .string y.x, .slice py y.gone.length cy] 60) = wa at RB hbA hG ho hbw; have cG := own_bat hG haG; rw [tg_at haG] at cG; obtain ⟨b, HB⟩ := hid_ex (tg Gs (k + 1)); rw [HB.out] at cG HSN
              have wk1 : IntKind.i64.wrap ((k : Int) + 1) = (k : Int) + 1 := by rw [IntKind.wrap_i64]; omega
              have wk2 : (0 : Int) ≤ (k : Int) + 1 := by omega
              have wk3 : (k : Int) + 1 < (l.length : Int) + 1 := by omega
              clear hd hd0 hyk HX HB
              cases b
              · have hb2 := bel_alloc (Below.refl wa.heap.size wa) (.cells #[.int .i64 y.p, .int .i64 y.s, .int .i64 y.i, .int .i64 y.t, .int .i64 y.q, .int .i64 y.u, .int .i64 y.j, .string y.x, .slice py y.gone.length cy] 60)
                have ho2 := own_later ho hb2; have hG2 := own_later hG hb2; have hbw2 := below_on hbw hb2; have hB1 : w.heap.size ≤ (wa.alloc (.cells #[.int .i64 y.p, .int .i64 y.s, .int .i64 y.i, .int .i64 y.t, .int .i64 y.q, .int .i64 y.u, .int .i64 y.j, .string y.x, .slice py y.gone.length cy] 60)).heap.size := hbw2.size
                have HCL : Hid (∀ j u, [Value.int .i64 y.p, .int .i64 y.s, .int .i64 y.i, .int .i64 y.t, .int .i64 y.q, .int .i64 y.u, .int .i64 y.j, .string y.x, .slice py y.gone.length cy][j]? = some u → (wa.alloc (.cells #[.int .i64 y.p, .int .i64 y.s, .int .i64 y.i, .int .i64 y.t, .int .i64 y.q, .int .i64 y.u, .int .i64 y.j, .string y.x, .slice py y.gone.length cy] 60)).cell? ((⟨wa.heap.size, 0, none⟩ : Addr).add j) = some u) := fun j u hu => by
                  have Rn := rw_new wa 60 #[.int .i64 y.p, .int .i64 y.s, .int .i64 y.i, .int .i64 y.t, .int .i64 y.q, .int .i64 y.u, .int .i64 y.j, .string y.x, .slice py y.gone.length cy]; rw [show ((⟨wa.heap.size, 0, none⟩ : Addr).add j) = ⟨wa.heap.size, j, none⟩ by simp [Addr.add]; (try omega), Rn.cell j]
                  simpa using hu
                have hm1 : n0 + 1 ≤ maxLen := by simp [maxLen]; omega
                have hm2 : (n0 + 1) * 96 ≤ 140737488355328 := by omega
                generalize hWn : wa.alloc (.cells #[.int .i64 y.p, .int .i64 y.s, .int .i64 y.i, .int .i64 y.t, .int .i64 y.q, .int .i64 y.u, .int .i64 y.j, .string y.x, .slice py y.gone.length cy] 60) = wn at hb2 ho2 hG2 hbw2 hB1 HCL
                go_wp2_with (first | refine load_m 60 _ rfl rfl _ _ rfl d Tryz.underlying60 rfl zb ?_ | rw [hWA] | refine load_r 60 _ rfl rfl _ rfl RB Tryz.underlying60 rfl size60 ?_ | rw [hWn] | (at_builtin; refine wpList_append_own _ rfl _ _ 25 rfl w.heap.size 60 j0 (.agg #[.int .i64 0, .int .i64 0, .int .i64 0, .int .i64 0, .int .i64 0, .int .i64 0, .int .i64 0, .string noS, .slice none 0 0]) 9 96 Tryz.underlying25 hj0 hje0 hje1 hje2 rfl (by decide) _ _ _ rfl ho2 ⟨wa.heap.size, 0, none⟩ 1 1 [Value.int .i64 y.p, .int .i64 y.s, .int .i64 y.i, .int .i64 y.t, .int .i64 y.q, .int .i64 y.u, .int .i64 y.j, .string y.x, .slice py y.gone.length cy] rfl rfl HCL.out (by simp [Value.oneCell']) hm1 hm2 hB1 ?_))
                intro v2 w2 ho3 hg3 _; have hbw3 : Below w.heap.size w w2 := hbw2.grown hg3 hB1 (fun q hq => (World.ownsRow.lt ho2 q hq).1); have hG3 := own_kp hG2 (o := (Value.slice q0 n0 d0).ownBlock) (fun b h1 h2 => hg3.block b h1 (Ne.symm h2)) (fun q hq e => own_tag hG2 ho2 (by decide) e q hq rfl); rw [if_neg (by decide)] at HSN
                have ho4 : w2.ownsRow w.heap.size 60 9 v2 (stay (tg Gs) 0 (ys.take (k + 1))).length (rows El.cells (stay (tg Gs) 0 (ys.take (k + 1)))) := by
                  rw [HSN.out, List.length_append, HN0.out, rows_append]; exact ho3
                obtain ⟨q2, d2, e2⟩ := own_sl ho3; clear HSN HN0 ho ho2 ho3 hg3 HCL hWA hWn hG2; subst e2; go_wp2_with fail; go_roundw
                case rel => exact ⟨k + 1, by simp, by omega, ho4, hG3, hbw3⟩
                case measure => simp [intOf]; omega
              · rw [if_pos rfl, List.append_nil] at HSN
                have ho2 : wa.ownsRow w.heap.size 60 9 (.slice q0 n0 d0) (stay (tg Gs) 0 (ys.take (k + 1))).length (rows El.cells (stay (tg Gs) 0 (ys.take (k + 1)))) := by rw [HSN.out, HN0.out]; exact ho
                clear HSN HN0 ho
                go_wp2_with (first | refine load_m 60 _ rfl rfl _ _ rfl d Tryz.underlying60 rfl zb ?_ | rw [hWA])
                go_roundw
                case rel => exact ⟨k + 1, by simp, by omega, ho2, hG, hbw⟩
                case measure => simp [intOf]; omega
            · have hlt' : ¬ (k : Int) < (l.length : Int) := by omega
              obtain rfl : k = l.length := by omega
              have HF : Hid (Q (.returned (.slice q0 n0 d0)) wr) := by
                show Q _ _
                rw [← HQ.out]; refine ⟨_, tg Gs, rfl, ⟨stay (tg Gs) 0 ys, ?_, ?_, ?_⟩, HFX.out, hbw⟩
                · rw [← stay_map, HYS.out]
                · rw [List.take_of_length_le (by omega)] at ho HN0
                  rw [← HN0.out] at ho; rw [show (stay (tg Gs) 0 l).length = (stay (tg Gs) 0 ys).length by rw [← HYS.out, stay_map, List.length_map], ← HN0.out]; exact own_sh ho
                · exact fun y hy => (HY.out y ((stay_sub _ _ _).subset hy)).later hbw
              clear ho HFX HYS HY HQ HN0; go_wp2_with fail; exact HF.out
end Go.Proofs.YtfjpbmdmkcihcaaGreat
/- left of package seq, where no element is; and whatever elements are. -/
namespace Go.Proofs.YtfjpbmdmkcihcaaGreat
open Go.RowKit

set_option maxHeartbeats 4000000 in
set_option maxRecDepth 100000 in
theorem leftN_any (v : Value) (p : M → Bool) (bt : Nat) (w : World) (h : EHas w v []) :
    Calls Tryz.prog 44 #[v, .func (.func 45) #[] #[.pointer (some ⟨bt, 0, none⟩)]] w (LfPost [] p w) := by
  have C1 := aheads_any v [] w h (by simp) List.Pairwise.nil; obtain ⟨pv, cv, rfl⟩ := h.slice; obtain ⟨i0, hi, hz0, hz1, hz2⟩ := info_parts info3; obtain ⟨i1, hi1, hy0, hy1, hy2⟩ := info_parts info4; obtain ⟨Q, HQ⟩ : ∃ Q, Hid (LfPost [] p w = Q) := ⟨_, rfl⟩; rw [HQ.out]
  have HF : Hid (∀ w', Below w.heap.size w w' → Q (.returned (.slice none 0 0)) w') := fun w' hb => by
    rw [← HQ.out]; exact ⟨_, fun _ => false, rfl, EHas.nil w', fun a h1 h2 => absurd h2 (by simp; omega), hb⟩
  clear h HQ
  go_enter Tryz.func44, Tryz.ntmps44
  go_wp2_with fail; refine C1.mono ?_; clear C1; rintro e w1 (⟨_, gu, cu, rfl, hu, hb1⟩ | ⟨h', _⟩); rotate_left
  · cases h'
  have hcu : 1 ≤ cu := by
    obtain ⟨_, ⟨h0, _⟩ | ⟨g', cap', cur, h', _, _, hnc, _⟩⟩ := hu
    · cases h0
    · simp only [Value.slice.injEq, true_and] at h'
      rw [h'.2]; exact hnc
  have hcu' : (1 : Int) ≤ (cu : Int) := by omega
  have hgu := own_ge hu
  go_wp2_with (first | refine wpList_make_full _ rfl _ _ 87 rfl w1.heap.size 3 i0 (.int .i64 0) 1 Tryz.underlying87 hi hz0 hz1 .i64 .i64 _ _ 1 rfl rfl (by first | rfl | simp) (by first | rfl | simp) (by rw [hz2]; omega) (by simp [maxLen]) (Nat.le_refl _) ?_)
  intro w2 hB hg2; have hb2 := below_on hb1 (bel_grown hg2); clear hg2 hB hu; go_wp2_with fail
  all_goals
    refine wp_loop_rounds 1 ?_; rw [rounds_succ]
    go_wp2_with (first | refine wpList_make_full _ rfl _ _ 104 rfl w2.heap.size 4 i1 (.bool false) 1 Tryz.underlying104 hi1 hy0 hy1 .i64 .i64 _ _ 1 rfl rfl (by first | rfl | simp) (by first | rfl | simp) (by rw [hy2]; omega) (by simp [maxLen]) (Nat.le_refl _) ?_)
    intro w3 hG hg3; have hb3 := below_on hb2 (bel_grown hg3); clear hg3 hG; go_wp2_with fail; refine wp_loop_rounds 2 ?_; rw [rounds_succ]; go_wp2_with fail; refine wp_loop_rounds 1 ?_; rw [rounds_succ]; go_wp2_with fail; rw [rounds_succ]; go_wp2_with fail; refine wp_loop_rounds 1 ?_; rw [rounds_succ]; go_wp2_with fail; exact HF.out _ hb3
theorem left_any (v : Value) (l : List El) (p : M → Bool) (bt : Nat) (w : World) (h : EHas w v l) (hl : l.length ≤ 100) (hg : ∀ e ∈ l, e.gone.length ≤ 100) (hp : l.Pairwise (fun a b => kl (kE a) (kE b) = true)) (hok : okR l = true) (C : ∀ (y : M) (w' : World), Below w.heap.size w w' → Calls Tryz.prog 45 #[MV y.p y.s y.i, .pointer (some ⟨bt, 0, none⟩)] w' (Tells (.bool (p y)) w')) :
    Calls Tryz.prog 44 #[v, .func (.func 45) #[] #[.pointer (some ⟨bt, 0, none⟩)]] w (LfPost l p w) := by
  rcases Nat.eq_zero_or_pos l.length with hz | hz
  · obtain rfl := List.eq_nil_of_length_eq_zero hz
    exact leftN_any v p bt w h
  · exact leftS_any v l p bt w h hl hg hp hok hz C
end Go.Proofs.YtfjpbmdmkcihcaaGreat
