import Derived.Test.YtjbbmcommnhgeaaGreatPa10
set_option maxRecDepth 100000
set_option maxHeartbeats 8000000
namespace Go.Proofs.YtjbbmcommnhgeaaGreat
open Go.RowKit
theorem AHas.elem {w : World} {l : List A} {g o : Nat} (h : w.rangeAt g o (rows A.cells l)) (k : Nat) (hk : k < l.length) : w.rangeAt g (o + k * 4) l[k].cells :=
 range_sub h (k * 4) fun j u hu => rows_at A.len l k hk j u hu
def R2 (a b : Nat) (i j : Nat) (u v : Value) : Prop := ((i = a ∧ j = b) ∨ (i = b ∧ j = a)) → u ≠ v
theorem R2_symm (a b : Nat) : ∀ i j u v, R2 a b i j u v → R2 a b j i v u := fun _ _ _ _ h k => (h (by omega)).symm
def newP (N : Nat) (t : TypeId) (n : Nat) : Value → World → Prop := fun u w => ∃ q cs, u = .pointer (some ⟨q, 0, none⟩) ∧ N ≤ q ∧ Rw w q t cs ∧ cs.size = n
theorem newP_keeps (N : Nat) (t : TypeId) (n : Nat) : Keeps (newP N t n) := fun _ _ _ ⟨q, cs, e, hN, h, hc⟩ hb => ⟨q, cs, e, hN, h.later hb, hc⟩
theorem wp_store_r {op : Oper} {a : Act} {w : World} {K : Act → World → Prop} {Q : Exit → Act → World → Prop} (t : TypeId) (x y : Operand) (ho : op.op = .store t x y) (b : Nat) (cs' : Array Value) (hx : a.eval x = .pointer (some ⟨b, 0, none⟩)) (hy : a.eval y = .agg cs') {cs : Array Value} (hc : Rw w b t cs) (hi : (Tryz.prog.info? t).map (·.size) = some cs'.size) (hs : cs.size = cs'.size) (h1 : cs'.all (·.oneCell') = true)
  (h : K (a.put op.dst undef) (w.setRow b cs')) : op.wp Tryz.prog a w K Q := by
 unfold Oper.wp execOp
 simp only [ho, hx, hy, Sem.run_bind, hc.store cs' hi hs h1, Result.andThen_ok, Sem.run_pure]
 exact h
section
variable {Q : Exit → Act → World → Prop} {S : World → Prop} {md : Region.Mode} {A : (Nat → Value) → Act} {F : List Facts.Fact} {i : Nat} {o : Oper} {l : List Oper}
theorem FactsG.alloc2 (hi : l[i]? = some o) (hg : o.guard = none) (hS : Calm.Stays S) (hF : Facts.Stay F) (hA : ∀ x u, (A x).put o.dst u = A (Facts.put x i u)) (t : TypeId) {N n : Nat} {cs : Array Value} (hf : F[i]? = some (pF i (newP N t n))) (hc : cs.size = n) (hN : ∀ w, S w → N ≤ w.heap.size)
  (h : ∀ x w, (execOp (A x).eval o).run Tryz.prog w = .ok (.value (.pointer (some ⟨w.heap.size, 0, none⟩))) (w.alloc (.cells cs t))) {a b : Nat} (hab : ∀ j f, F[j]? = some f → (i = a ∧ j = b) ∨ (i = b ∧ j = a) → ∃ t' n', f = pF j (newP N t' n')) : FactsG.StepOk Tryz.prog md l Q S A F (R2 a b) i o := by
 refine FactsG.ofR hi (fun x w _ _ => by simp [Region.wanted, hg]) (fun x w hSw _ _ => ?_)
 unfold Oper.wp
 rw [h x w]
 have hb := bel_alloc (Below.refl w.heap.size w) (.cells cs t)
 refine ⟨_, hA x _, hS _ _ hSw hb, fun f hf' => ?_, fun j f _ hj hh => hF j f hj _ _ _ hh hb, fun j f _ hj hh hab' => ?_⟩
 ·rw [hf] at hf'
  obtain rfl := Option.some.inj hf'
  exact pF_put ⟨_, cs, rfl, hN w hSw, rw_new w t cs, hc⟩
 ·obtain ⟨t', n', rfl⟩ := hab j f hj hab'
  obtain ⟨q, cs', e, _, hq, _⟩ := pF_get hh
  rw [e]
  intro e2
  simp only [Value.pointer.injEq, Option.some.injEq, Addr.mk.injEq] at e2
  have := hq.lt
  omega
end
theorem same_any (x : X) (va vw vm ve ua uw um ue : Value) (w : World) (h1 : Four w x va vw vm ve) (h2 : Four w x ua uw um ue) (hs : Sm x) : Calls Tryz.prog 17 #[CV x.k x.b va vw vm ve, CV x.k x.b ua uw um ue] w (Tells (.bool true) w) := by
 obtain ⟨pa, ca', pw, cw, pm, cm, pe, ce, rfl, rfl, rfl, rfl⟩ := h1.slices
 obtain ⟨qa, da, qw, dw, qm, dm, qe, de, rfl, rfl, rfl, rfl⟩ := h2.slices
 have H1 : Hid (Four w x (.slice pa x.am.length ca') (.slice pw x.wr.length cw) (.slice pm x.mb.length cm) (.slice pe x.el.length ce)) := h1
 have H2 : Hid (Four w x (.slice qa x.am.length da) (.slice qw x.wr.length dw) (.slice qm x.mb.length dm) (.slice qe x.el.length de)) := h2
 clear h1 h2
 have la := hs.a
 have lw := hs.t
 have le := hs.e
 clear hs
 obtain ⟨R0, R1, hbel⟩ := two_rows w (cvc x.k x.b (.slice pa x.am.length ca') (.slice pw x.wr.length cw) (.slice pm x.mb.length cm) (.slice pe x.el.length ce)) 27 (cvc x.k x.b (.slice qa x.am.length da) (.slice qw x.wr.length dw) (.slice qm x.mb.length dm) (.slice qe x.el.length de)) 27
 generalize hW : (w.alloc (.cells (cvc x.k x.b (.slice pa x.am.length ca') (.slice pw x.wr.length cw) (.slice pm x.mb.length cm) (.slice pe x.el.length ce)) 27)).alloc (.cells (cvc x.k x.b (.slice qa x.am.length da) (.slice qw x.wr.length dw) (.slice qm x.mb.length dm) (.slice qe x.el.length de)) 27) = w0 at R0 R1 hbel
 have c0 : w0.cell? ⟨w.heap.size, 0, none⟩ = some (.int .i64 x.k) := R0.cell 0
 have c1 : w0.cell? ⟨w.heap.size, 1, none⟩ = some (.int .i64 x.b) := R0.cell 1
 have c2 : w0.cell? ⟨w.heap.size, 2, none⟩ = some (.slice pa x.am.length ca') := R0.cell 2
 have c3 : w0.cell? ⟨w.heap.size, 3, none⟩ = some (.slice pw x.wr.length cw) := R0.cell 3
 have c4 : w0.cell? ⟨w.heap.size, 4, none⟩ = some (.slice pm x.mb.length cm) := R0.cell 4
 have c5 : w0.cell? ⟨w.heap.size, 5, none⟩ = some (.slice pe x.el.length ce) := R0.cell 5
 have e0 : w0.cell? ⟨w.heap.size + 1, 0, none⟩ = some (.int .i64 x.k) := R1.cell 0
 have e1 : w0.cell? ⟨w.heap.size + 1, 1, none⟩ = some (.int .i64 x.b) := R1.cell 1
 have e2 : w0.cell? ⟨w.heap.size + 1, 2, none⟩ = some (.slice qa x.am.length da) := R1.cell 2
 have e3 : w0.cell? ⟨w.heap.size + 1, 3, none⟩ = some (.slice qw x.wr.length dw) := R1.cell 3
 have e4 : w0.cell? ⟨w.heap.size + 1, 4, none⟩ = some (.slice qm x.mb.length dm) := R1.cell 4
 have e5 : w0.cell? ⟨w.heap.size + 1, 5, none⟩ = some (.slice qe x.el.length de) := R1.cell 5
 go_enter Tryz.func17, Tryz.ntmps17
 go_wp2_with (first | rw [hW])
 clear hW c0 c1 c2 c3 c4 c5 e0 e1 e2 e3 e4 e5
 refine (members_any _ _ x.mb w0 (H1.out.m.later hbel) (H2.out.m.later hbel)).mono ?_
 rintro e w1 ⟨rfl, hb1⟩
 replace R0 := R0.later hb1
 replace R1 := R1.later hb1
 replace hbel := below_on hbel hb1
 clear hb1
 go_wp2_with fail
 go_loopw [5] (fun vi wr => ∃ k : Nat, vi = .int .i64 k ∧ k ≤ x.am.length ∧ Rw wr w.heap.size 27 (cvc x.k x.b (.slice pa x.am.length ca') (.slice pw x.wr.length cw) (.slice pm x.mb.length cm) (.slice pe x.el.length ce)) ∧ Rw wr (w.heap.size + 1) 27 (cvc x.k x.b (.slice qa x.am.length da) (.slice qw x.wr.length dw) (.slice qm x.mb.length dm) (.slice qe x.el.length de)) ∧ Below w.heap.size w wr) (fun vi _ => x.am.length - (intOf vi).toNat)
 case atStart => exact ⟨0, rfl, by omega, R0, R1, hbel⟩
 case round =>
  clear R0 R1 hbel
  obtain ⟨k, rfl, hk, R0, R1, hbel⟩ := hrel
  have c2 : wr.cell? ⟨w.heap.size, 2, none⟩ = some (.slice pa x.am.length ca') := R0.cell 2
  by_cases hlt : k < x.am.length
  ·have hlt' : (k : Int) < (x.am.length : Int) := by omega
   obtain ⟨g1, o1, rfl, hd1⟩ := H1.out.a.at (by omega)
   obtain ⟨g2, o2, rfl, hd2⟩ := H2.out.a.at (by omega)
   have d1 := AHas.elem (range_later hd1 hbel) k hlt
   have d2 := AHas.elem (range_later hd2 hbel) k hlt
   obtain ⟨y, HY⟩ := hid_ex x.am[k]
   rw [HY.out] at d1 d2
   clear hd1 hd2 HY
   have E := fun w => same_amount w y.p y.s y.i y.n
   have zm : (Tryz.prog.info? 71).map (·.size) = some y.cells.length := size71
   go_wp2_with fail
   clear c2
   have hs : Calm.Stays (fun w' => Rw w' w.heap.size 27 (cvc x.k x.b (.slice (some ⟨g1, o1, none⟩) x.am.length ca') (.slice pw x.wr.length cw) (.slice pm x.mb.length cm) (.slice pe x.el.length ce)) ∧ Rw w' (w.heap.size + 1) 27 (cvc x.k x.b (.slice (some ⟨g2, o2, none⟩) x.am.length da) (.slice qw x.wr.length dw) (.slice qm x.mb.length dm) (.slice qe x.el.length de)) ∧ w'.rangeAt g1 (o1 + k * 4) y.cells ∧ w'.rangeAt g2 (o2 + k * 4) y.cells ∧ Below w.heap.size w w') := fun wa wb h hb => ⟨h.1.later hb, h.2.1.later hb, range_later h.2.2.1 hb, range_later h.2.2.2.1 hb, below_on h.2.2.2.2 hb⟩
   refine Calm.region (by kernel_rfl) (by kernel_rfl) (fun w' => Rw w' w.heap.size 27 (cvc x.k x.b (.slice (some ⟨g1, o1, none⟩) x.am.length ca') (.slice pw x.wr.length cw) (.slice pm x.mb.length cm) (.slice pe x.el.length ce)) ∧ Rw w' (w.heap.size + 1) 27 (cvc x.k x.b (.slice (some ⟨g2, o2, none⟩) x.am.length da) (.slice qw x.wr.length dw) (.slice qm x.mb.length dm) (.slice qe x.el.length de)) ∧ w'.rangeAt g1 (o1 + k * 4) y.cells ∧ w'.rangeAt g2 (o2 + k * 4) y.cells ∧ Below w.heap.size w w') ⟨R0, R1, d1, d2, hbel.drew⟩ ?_
   all_goals refine Calm.sp ?_
   all_goals refine Calm.cs (fun _ h => h.1.cell 2) ?_
   iterate 2 (all_goals refine Calm.sp ?_)
   all_goals first | refine Calm.lm zm (fun _ h => h.2.2.1) Tryz.underlying71 ?_ | refine Calm.lm zm (fun _ h => h.2.2.2.1) Tryz.underlying71 ?_
   all_goals refine Calm.sp ?_
   all_goals refine Calm.cs (fun _ h => h.2.1.cell 2) ?_
   iterate 2 (all_goals refine Calm.sp ?_)
   all_goals first | refine Calm.lm zm (fun _ h => h.2.2.1) Tryz.underlying71 ?_ | refine Calm.lm zm (fun _ h => h.2.2.2.1) Tryz.underlying71 ?_
   all_goals refine Calm.sp ?_
   all_goals
    rintro w9 ⟨R09, R19, _, _, hbel9⟩
   go_wp2_with fail
   go_roundw
   case rel => exact ⟨k + 1, by simp, by omega, R09, R19, hbel9⟩
   case measure => simp [intOf]; omega
  ·obtain rfl : k = x.am.length := by omega
   have hlt' : ¬ (x.am.length : Int) < (x.am.length : Int) := by omega
   go_wp2_with fail
   clear c2
   go_loopw [6] (fun vi wr => ∃ k : Nat, vi = .int .i64 k ∧ k ≤ x.wr.length ∧ Rw wr w.heap.size 27 (cvc x.k x.b (.slice pa x.am.length ca') (.slice pw x.wr.length cw) (.slice pm x.mb.length cm) (.slice pe x.el.length ce)) ∧ Rw wr (w.heap.size + 1) 27 (cvc x.k x.b (.slice qa x.am.length da) (.slice qw x.wr.length dw) (.slice qm x.mb.length dm) (.slice qe x.el.length de)) ∧ Below w.heap.size w wr) (fun vi _ => x.wr.length - (intOf vi).toNat)
   case atStart => exact ⟨0, rfl, by omega, R0, R1, hbel⟩
   case round =>
    clear R0 R1 hbel hlt hlt'
    obtain ⟨k, rfl, hk, R0, R1, hbel⟩ := hrel
    have c3 : wr.cell? ⟨w.heap.size, 3, none⟩ = some (.slice pw x.wr.length cw) := R0.cell 3
    by_cases hlt : k < x.wr.length
    ·have hlt' : (k : Int) < (x.wr.length : Int) := by omega
     obtain ⟨g1, o1, rfl, hd1⟩ := H1.out.t.at (by omega)
     obtain ⟨g2, o2, rfl, hd2⟩ := H2.out.t.at (by omega)
     have d1 := Wt.elem (range_later hd1 hbel) k hlt
     have d2 := Wt.elem (range_later hd2 hbel) k hlt
     obtain ⟨y, HY⟩ := hid_ex x.wr[k]
     rw [HY.out] at d1 d2
     clear hd1 hd2 HY
     have E := fun w => same_write w y
     have zm : (Tryz.prog.info? 64).map (·.size) = some y.cells.length := size64
     go_wp2_with fail
     clear c3
     have hs : Calm.Stays (fun w' => Rw w' w.heap.size 27 (cvc x.k x.b (.slice pa x.am.length ca') (.slice (some ⟨g1, o1, none⟩) x.wr.length cw) (.slice pm x.mb.length cm) (.slice pe x.el.length ce)) ∧ Rw w' (w.heap.size + 1) 27 (cvc x.k x.b (.slice qa x.am.length da) (.slice (some ⟨g2, o2, none⟩) x.wr.length dw) (.slice qm x.mb.length dm) (.slice qe x.el.length de)) ∧ w'.rangeAt g1 (o1 + k * 5) y.cells ∧ w'.rangeAt g2 (o2 + k * 5) y.cells ∧ Below w.heap.size w w') := fun wa wb h hb => ⟨h.1.later hb, h.2.1.later hb, range_later h.2.2.1 hb, range_later h.2.2.2.1 hb, below_on h.2.2.2.2 hb⟩
     refine Calm.region (by kernel_rfl) (by kernel_rfl) (fun w' => Rw w' w.heap.size 27 (cvc x.k x.b (.slice pa x.am.length ca') (.slice (some ⟨g1, o1, none⟩) x.wr.length cw) (.slice pm x.mb.length cm) (.slice pe x.el.length ce)) ∧ Rw w' (w.heap.size + 1) 27 (cvc x.k x.b (.slice qa x.am.length da) (.slice (some ⟨g2, o2, none⟩) x.wr.length dw) (.slice qm x.mb.length dm) (.slice qe x.el.length de)) ∧ w'.rangeAt g1 (o1 + k * 5) y.cells ∧ w'.rangeAt g2 (o2 + k * 5) y.cells ∧ Below w.heap.size w w') ⟨R0, R1, d1, d2, hbel.drew⟩ ?_
     all_goals refine Calm.sp ?_
     all_goals refine Calm.cs (fun _ h => h.1.cell 3) ?_
     iterate 2 (all_goals refine Calm.sp ?_)
     all_goals first | refine Calm.lm zm (fun _ h => h.2.2.1) Tryz.underlying64 ?_ | refine Calm.lm zm (fun _ h => h.2.2.2.1) Tryz.underlying64 ?_
     all_goals refine Calm.sp ?_
     all_goals refine Calm.cs (fun _ h => h.2.1.cell 3) ?_
     iterate 2 (all_goals refine Calm.sp ?_)
     all_goals first | refine Calm.lm zm (fun _ h => h.2.2.1) Tryz.underlying64 ?_ | refine Calm.lm zm (fun _ h => h.2.2.2.1) Tryz.underlying64 ?_
     all_goals refine Calm.sp ?_
     all_goals
      rintro w9 ⟨R09, R19, _, _, hbel9⟩
     go_wp2_with fail
     go_roundw
     case rel => exact ⟨k + 1, by simp, by omega, R09, R19, hbel9⟩
     case measure => simp [intOf]; omega
    ·obtain rfl : k = x.wr.length := by omega
     have hlt' : ¬ (x.wr.length : Int) < (x.wr.length : Int) := by omega
     go_wp2_with fail
     clear c3
     go_loopw [7] (fun vi wr => ∃ k : Nat, vi = .int .i64 k ∧ k ≤ x.el.length ∧ Rw wr w.heap.size 27 (cvc x.k x.b (.slice pa x.am.length ca') (.slice pw x.wr.length cw) (.slice pm x.mb.length cm) (.slice pe x.el.length ce)) ∧ Rw wr (w.heap.size + 1) 27 (cvc x.k x.b (.slice qa x.am.length da) (.slice qw x.wr.length dw) (.slice qm x.mb.length dm) (.slice qe x.el.length de)) ∧ Below w.heap.size w wr) (fun vi _ => x.el.length - (intOf vi).toNat)
     case atStart => exact ⟨0, rfl, by omega, R0, R1, hbel⟩
     case round =>
      clear R0 R1 hbel hlt hlt'
      obtain ⟨k, rfl, hk, R0, R1, hbel⟩ := hrel
      have c5 : wr.cell? ⟨w.heap.size, 5, none⟩ = some (.slice pe x.el.length ce) := R0.cell 5
      by_cases hlt : k < x.el.length
      ·have hlt' : (k : Int) < (x.el.length : Int) := by omega
       obtain ⟨m1, e1, s1, t1⟩ := H1.out.e
       obtain ⟨m2, e2, s2, t2⟩ := H2.out.e
       have hl1 : m1.length = x.el.length := by rw [← e1, List.length_map]
       have hl2 : m2.length = x.el.length := by rw [← e2, List.length_map]
       obtain ⟨g1, o1, rfl, hd1⟩ := s1.at (by omega)
       obtain ⟨g2, o2, rfl, hd2⟩ := s2.at (by omega)
       have d1 := El.elem (range_later hd1 hbel) k (by omega)
       have d2 := El.elem (range_later hd2 hbel) k (by omega)
       have q1 := (t1 m1[k] (List.getElem_mem _)).later hbel
       have q2 := (t2 m2[k] (List.getElem_mem _)).later hbel
       have f1 : m1[k].1 = x.el[k] := by simp only [← e1, List.getElem_map]
       have f2 : m2[k].1 = x.el[k] := by simp only [← e2, List.getElem_map]
       obtain ⟨y1, HY1⟩ := hid_ex m1[k]
       obtain ⟨y2, HY2⟩ := hid_ex m2[k]
       rw [HY1.out] at d1 q1 f1
       rw [HY2.out] at d2 q2 f2
       obtain ⟨a1, u1⟩ := y1
       obtain ⟨a2, u2⟩ := y2
       replace f1 : a1 = x.el[k] := f1
       replace f2 : a2 = x.el[k] := f2
       obtain ⟨y, HY⟩ := hid_ex x.el[k]
       rw [HY.out] at f1 f2
       subst f1
       subst f2
       replace q1 : MHas wr u1 a2.gone := q1
       replace q2 : MHas wr u2 a2.gone := q2
       obtain ⟨x1, z1, rfl⟩ := q1.slice
       obtain ⟨x2, z2, rfl⟩ := q2.slice
       clear hd1 hd2 HY HY1 HY2 s1 s2 t1 t2 e1 e2
       replace d1 : wr.rangeAt g1 (o1 + k * 9) [.int .i64 a2.p, .int .i64 a2.s, .int .i64 a2.i, .int .i64 a2.t, .int .i64 a2.q, .int .i64 a2.u, .int .i64 a2.j, .string a2.x, .slice x1 a2.gone.length z1] := d1
       replace d2 : wr.rangeAt g2 (o2 + k * 9) [.int .i64 a2.p, .int .i64 a2.s, .int .i64 a2.i, .int .i64 a2.t, .int .i64 a2.q, .int .i64 a2.u, .int .i64 a2.j, .string a2.x, .slice x2 a2.gone.length z2] := d2
       have ze1 : (Tryz.prog.info? 69).map (·.size) = some ([.int .i64 a2.p, .int .i64 a2.s, .int .i64 a2.i, .int .i64 a2.t, .int .i64 a2.q, .int .i64 a2.u, .int .i64 a2.j, .string a2.x, .slice x1 a2.gone.length z1] : List Value).length := size69
       have ze2 : (Tryz.prog.info? 69).map (·.size) = some ([.int .i64 a2.p, .int .i64 a2.s, .int .i64 a2.i, .int .i64 a2.t, .int .i64 a2.q, .int .i64 a2.u, .int .i64 a2.j, .string a2.x, .slice x2 a2.gone.length z2] : List Value).length := size69
       go_wp2_with fail
       clear c5
       have hS : Calm.Stays (fun w' => Below wr.heap.size wr w') := fun wa wb h hb => below_on h hb
       have hF : Facts.Stay [pF 0 (eqP (.pointer (some ⟨w.heap.size, 5, none⟩))), pF 1 (eqP (.slice (some ⟨g1, o1, none⟩) x.el.length ce)), pF 2 (eqP (.int .i64 k)), pF 3 (eqP (.pointer (some ⟨g1, o1 + k * 9, none⟩))), pF 4 (eqP (.agg ([.int .i64 a2.p, .int .i64 a2.s, .int .i64 a2.i, .int .i64 a2.t, .int .i64 a2.q, .int .i64 a2.u, .int .i64 a2.j, .string a2.x, .slice x1 a2.gone.length z1] : List Value).toArray)), pF 5 (eqP (.pointer (some ⟨w.heap.size + 1, 5, none⟩))), pF 6 (eqP (.slice (some ⟨g2, o2, none⟩) x.el.length de)), pF 7 (eqP (.int .i64 k)), pF 8 (eqP (.pointer (some ⟨g2, o2 + k * 9, none⟩))), pF 9 (eqP (.agg ([.int .i64 a2.p, .int .i64 a2.s, .int .i64 a2.i, .int .i64 a2.t, .int .i64 a2.q, .int .i64 a2.u, .int .i64 a2.j, .string a2.x, .slice x2 a2.gone.length z2] : List Value).toArray)), pF 10 (newP wr.heap.size 69 9), pF 11 (newP wr.heap.size 69 9), pF 10 (boxP wr.heap.size 69 ([.int .i64 a2.p, .int .i64 a2.s, .int .i64 a2.i, .int .i64 a2.t, .int .i64 a2.q, .int .i64 a2.u, .int .i64 a2.j, .string a2.x, .slice x1 a2.gone.length z1] : List Value).toArray), pF 11 (boxP wr.heap.size 69 ([.int .i64 a2.p, .int .i64 a2.s, .int .i64 a2.i, .int .i64 a2.t, .int .i64 a2.q, .int .i64 a2.u, .int .i64 a2.j, .string a2.x, .slice x2 a2.gone.length z2] : List Value).toArray)] := stay_of (by simp only [List.forall_mem_cons]; exact ⟨⟨_, _, rfl, eqP_keeps _⟩, ⟨_, _, rfl, eqP_keeps _⟩, ⟨_, _, rfl, eqP_keeps _⟩, ⟨_, _, rfl, eqP_keeps _⟩, ⟨_, _, rfl, eqP_keeps _⟩, ⟨_, _, rfl, eqP_keeps _⟩, ⟨_, _, rfl, eqP_keeps _⟩, ⟨_, _, rfl, eqP_keeps _⟩, ⟨_, _, rfl, eqP_keeps _⟩, ⟨_, _, rfl, eqP_keeps _⟩, ⟨_, _, rfl, newP_keeps _ _ _⟩, ⟨_, _, rfl, newP_keeps _ _ _⟩, ⟨_, _, rfl, boxP_keeps _ _ _⟩, ⟨_, _, rfl, boxP_keeps _ _ _⟩, fun _ h => by cases h⟩)
       refine FactsG.region (by kernel_rfl) (by kernel_rfl) (fun w' => Below wr.heap.size wr w') (fun xv => { tmps := #[CV x.k x.b (Value.slice pa x.am.length ca') (Value.slice pw x.wr.length cw) (Value.slice pm x.mb.length cm) (Value.slice (some { block := g1, off := o1 }) x.el.length ce), CV x.k x.b (Value.slice qa x.am.length da) (Value.slice qw x.wr.length dw) (Value.slice qm x.mb.length dm) (Value.slice (some { block := g2, off := o2 }) x.el.length de), Value.pointer (some { block := w.heap.size, off := 0 }), Value.pointer (some { block := w.heap.size + 1, off := 0 }), u4, Value.int IntKind.i64 ↑x.am.length, Value.int IntKind.i64 ↑x.wr.length, Value.int IntKind.i64 ↑k, xv 10, xv 11, Value.pointer (some { block := w.heap.size, off := 0 }), Value.int IntKind.i64 x.k, Value.pointer (some { block := w.heap.size + 1, off := 0 }), Value.int IntKind.i64 x.k, Value.bool false, Value.bool false, Value.pointer (some { block := w.heap.size, off := 1 }), Value.int IntKind.i64 x.b, Value.pointer (some { block := w.heap.size + 1, off := 1 }), Value.int IntKind.i64 x.b, Value.bool false, Value.bool false, Value.bool false, Value.pointer (some { block := w.heap.size, off := 2 }), Value.slice pa x.am.length ca', Value.int IntKind.i64 ↑x.am.length, Value.pointer (some { block := w.heap.size + 1, off := 2 }), Value.slice qa x.am.length da, Value.int IntKind.i64 ↑x.am.length, Value.bool false, Value.bool false, Value.bool false, Value.pointer (some { block := w.heap.size, off := 3 }), Value.slice pw x.wr.length cw, Value.int IntKind.i64 ↑x.wr.length, Value.pointer (some { block := w.heap.size + 1, off := 3 }), Value.slice qw x.wr.length dw, Value.int IntKind.i64 ↑x.wr.length, Value.bool false, Value.bool false, Value.bool false, Value.pointer (some { block := w.heap.size, off := 5 }), Value.slice (some { block := g1, off := o1 }) x.el.length ce, Value.int IntKind.i64 ↑x.el.length, Value.pointer (some { block := w.heap.size + 1, off := 5 }), Value.slice (some { block := g2, off := o2 }) x.el.length de, Value.int IntKind.i64 ↑x.el.length, Value.bool false, Value.bool false, Value.bool false, Value.pointer (some { block := w.heap.size, off := 4 }), Value.slice pm x.mb.length cm, Value.pointer (some { block := w.heap.size + 1, off := 4 }), Value.slice qm x.mb.length dm, Value.bool true, Value.bool false, Value.bool false, Value.int IntKind.i64 ↑x.am.length, Value.pointer (some { block := w.heap.size, off := 2 }), Value.slice pa x.am.length ca', Value.int IntKind.i64 ↑x.am.length, Value.bool false, u62, u63, u64, u65, u66, u67, u68, u69, u70, u71, u72, u73, u74, Value.int IntKind.i64 ↑x.wr.length, Value.pointer (some { block := w.heap.size, off := 3 }), Value.slice pw x.wr.length cw, Value.int IntKind.i64 ↑x.wr.length, Value.bool false, u80, u81, u82, u83, u84, u85, u86, u87, u88, u89, u90, u91, u92, Value.int IntKind.i64 ↑k, Value.pointer (some { block := w.heap.size, off := 5 }), Value.slice (some { block := g1, off := o1 }) x.el.length ce, Value.int IntKind.i64 ↑x.el.length, Value.bool true, u98, u99, xv 0, xv 1, xv 2, xv 3, xv 4, xv 5, xv 6, xv 7, xv 8, xv 9, u110, u111, u112, u113, u114, u115, u116, u117, u118, u119, u120, u121, u122, u123, u124, u125, u126, u127, u128, u129, u130, u131, u132, u133, u134, u135, u136, u137, u138, u139, u140, u141, u142, u143], defers := [] }) [pF 0 (eqP (.pointer (some ⟨w.heap.size, 5, none⟩))), pF 1 (eqP (.slice (some ⟨g1, o1, none⟩) x.el.length ce)), pF 2 (eqP (.int .i64 k)), pF 3 (eqP (.pointer (some ⟨g1, o1 + k * 9, none⟩))), pF 4 (eqP (.agg ([.int .i64 a2.p, .int .i64 a2.s, .int .i64 a2.i, .int .i64 a2.t, .int .i64 a2.q, .int .i64 a2.u, .int .i64 a2.j, .string a2.x, .slice x1 a2.gone.length z1] : List Value).toArray)), pF 5 (eqP (.pointer (some ⟨w.heap.size + 1, 5, none⟩))), pF 6 (eqP (.slice (some ⟨g2, o2, none⟩) x.el.length de)), pF 7 (eqP (.int .i64 k)), pF 8 (eqP (.pointer (some ⟨g2, o2 + k * 9, none⟩))), pF 9 (eqP (.agg ([.int .i64 a2.p, .int .i64 a2.s, .int .i64 a2.i, .int .i64 a2.t, .int .i64 a2.q, .int .i64 a2.u, .int .i64 a2.j, .string a2.x, .slice x2 a2.gone.length z2] : List Value).toArray)), pF 10 (newP wr.heap.size 69 9), pF 11 (newP wr.heap.size 69 9), pF 10 (boxP wr.heap.size 69 ([.int .i64 a2.p, .int .i64 a2.s, .int .i64 a2.i, .int .i64 a2.t, .int .i64 a2.q, .int .i64 a2.u, .int .i64 a2.j, .string a2.x, .slice x1 a2.gone.length z1] : List Value).toArray), pF 11 (boxP wr.heap.size 69 ([.int .i64 a2.p, .int .i64 a2.s, .int .i64 a2.i, .int .i64 a2.t, .int .i64 a2.q, .int .i64 a2.u, .int .i64 a2.j, .string a2.x, .slice x2 a2.gone.length z2] : List Value).toArray)] (R2 10 11) (R2_symm 10 11) _ rfl rfl (by kernel_rfl) (fun j => [u100, u101, u102, u103, u104, u105, u106, u107, u108, u109, u8, u9, undef, undef].getD j undef) rfl (Below.refl _ wr).drew ⟨?_, ?_, ?_, ?_, ?_, ?_, ?_, ?_, ?_, ?_, ?_, ?_, ?_, ?_, trivial⟩ ?_
       ·exact FactsG.of rfl (fun _ _ _ h => absurd h (by omega)) (fun _ _ _ _ => rfl) (Facts.pureP hS hF (fun _ _ => rfl) rfl (fun xv wv hSw hd => by
         go_simp))
       ·exact FactsG.of rfl (fun _ _ _ h => absurd h (by omega)) (fun _ _ _ _ => rfl) (Facts.pureP hS hF (fun _ _ => rfl) rfl (fun xv wv hSw hd => by
         have d0 : xv 0 = _ := pF_get (hd ⟨0, .data⟩ (by simp) rfl _ rfl)
         have w1_ : wr.cell? ⟨w.heap.size, 5, none⟩ = some (.slice (some ⟨g1, o1, none⟩) x.el.length ce) := R0.cell 5
         have w2_ := cell_later hSw w1_
         have w3_ : wr.cell? ⟨w.heap.size + 1, 5, none⟩ = some (.slice (some ⟨g2, o2, none⟩) x.el.length de) := R1.cell 5
         have w4_ := cell_later hSw w3_
         simp only [d0]
         go_simp))
       ·exact FactsG.of rfl (fun _ _ _ h => absurd h (by omega)) (fun _ _ _ _ => rfl) (Facts.pureP hS hF (fun _ _ => rfl) rfl (fun xv wv hSw hd => by
         go_simp))
       ·exact FactsG.of rfl (fun _ _ _ h => absurd h (by omega)) (fun _ _ _ _ => rfl) (Facts.pureP hS hF (fun _ _ => rfl) rfl (fun xv wv hSw hd => by
         have d1 : xv 1 = _ := pF_get (hd ⟨1, .data⟩ (by simp) rfl _ rfl)
         have d2 : xv 2 = _ := pF_get (hd ⟨2, .data⟩ (by simp) rfl _ rfl)
         simp only [d1, d2]
         go_simp))
       ·exact FactsG.of rfl (fun _ _ _ h => absurd h (by omega)) (fun _ _ _ _ => rfl) (Facts.loadP hS hF (fun _ _ => rfl) 69 Tryz.underlying69 rfl ze1 _ rfl rfl (fun xv wv hSw hd => by have d3 : xv 3 = _ := pF_get (hd ⟨3, .data⟩ (by simp) rfl _ rfl); exact d3) (fun wv hSw => range_later d1 hSw))
       ·exact FactsG.of rfl (fun _ _ _ h => absurd h (by omega)) (fun _ _ _ _ => rfl) (Facts.pureP hS hF (fun _ _ => rfl) rfl (fun xv wv hSw hd => by
         go_simp))
       ·exact FactsG.of rfl (fun _ _ _ h => absurd h (by omega)) (fun _ _ _ _ => rfl) (Facts.pureP hS hF (fun _ _ => rfl) rfl (fun xv wv hSw hd => by
         have d5 : xv 5 = _ := pF_get (hd ⟨5, .data⟩ (by simp) rfl _ rfl)
         have w1_ : wr.cell? ⟨w.heap.size, 5, none⟩ = some (.slice (some ⟨g1, o1, none⟩) x.el.length ce) := R0.cell 5
         have w2_ := cell_later hSw w1_
         have w3_ : wr.cell? ⟨w.heap.size + 1, 5, none⟩ = some (.slice (some ⟨g2, o2, none⟩) x.el.length de) := R1.cell 5
         have w4_ := cell_later hSw w3_
         simp only [d5]
         go_simp))
       ·exact FactsG.of rfl (fun _ _ _ h => absurd h (by omega)) (fun _ _ _ _ => rfl) (Facts.pureP hS hF (fun _ _ => rfl) rfl (fun xv wv hSw hd => by
         go_simp))
       ·exact FactsG.of rfl (fun _ _ _ h => absurd h (by omega)) (fun _ _ _ _ => rfl) (Facts.pureP hS hF (fun _ _ => rfl) rfl (fun xv wv hSw hd => by
         have d6 : xv 6 = _ := pF_get (hd ⟨6, .data⟩ (by simp) rfl _ rfl)
         have d7 : xv 7 = _ := pF_get (hd ⟨7, .data⟩ (by simp) rfl _ rfl)
         simp only [d6, d7]
         go_simp))
       ·exact FactsG.of rfl (fun _ _ _ h => absurd h (by omega)) (fun _ _ _ _ => rfl) (Facts.loadP hS hF (fun _ _ => rfl) 69 Tryz.underlying69 rfl ze2 _ rfl rfl (fun xv wv hSw hd => by have d8 : xv 8 = _ := pF_get (hd ⟨8, .data⟩ (by simp) rfl _ rfl); exact d8) (fun wv hSw => range_later d2 hSw))
       ·exact FactsG.alloc2 rfl rfl hS hF (fun _ _ => rfl) 69 rfl rfl (fun wv hSw => hSw.size) (fun _ _ => rfl) (fun j f hj h => by rcases h with ⟨h, rfl⟩ | ⟨h, rfl⟩ <;> first | (simp at h; done) | exact ⟨69, 9, (Option.some.inj hj).symm⟩)
       ·exact FactsG.alloc2 rfl rfl hS hF (fun _ _ => rfl) 69 rfl rfl (fun wv hSw => hSw.size) (fun _ _ => rfl) (fun j f hj h => by rcases h with ⟨h, rfl⟩ | ⟨h, rfl⟩ <;> first | (simp at h; done) | exact ⟨69, 9, (Option.some.inj hj).symm⟩)
       ·refine FactsG.ofR rfl (fun _ _ _ _ => rfl) (fun xv wv hSw hd hrel => ?_)
        obtain ⟨q, cs, eq, hN, hq, hz⟩ := pF_get (hd ⟨10, .data⟩ (by simp) rfl _ rfl)
        have dv : xv 4 = _ := pF_get (hd ⟨4, .data⟩ (by simp) rfl _ rfl)
        have hne : xv 10 ≠ xv 11 := hrel ⟨10, .phase⟩ (by simp) rfl ⟨11, .phase⟩ (by simp) rfl (by decide) (by simp)
        refine wp_store_r 69 _ _ rfl q ([.int .i64 a2.p, .int .i64 a2.s, .int .i64 a2.i, .int .i64 a2.t, .int .i64 a2.q, .int .i64 a2.u, .int .i64 a2.j, .string a2.x, .slice x1 a2.gone.length z1] : List Value).toArray eq dv hq size69 hz (by simp [Value.oneCell']) ?_
        refine ⟨undef, rfl, below_setRow hSw hN _, fun f hf => ?_, fun j f hj hfj hh => ?_, fun j _ _ _ _ h => absurd h (by omega)⟩
        ·obtain rfl := Option.some.inj hf
         exact ⟨xv 10, rfl, q, eq, hN, hq.row _⟩
        ·have hko : ∀ q', xv 11 = .pointer (some ⟨q', 0, none⟩) → q' ≠ q := fun q' e' e2 => hne (by rw [eq, e', e2])
         match j with
         | 0 => obtain rfl := Option.some.inj hfj; exact hh
         | 1 => obtain rfl := Option.some.inj hfj; exact hh
         | 2 => obtain rfl := Option.some.inj hfj; exact hh
         | 3 => obtain rfl := Option.some.inj hfj; exact hh
         | 4 => obtain rfl := Option.some.inj hfj; exact hh
         | 5 => obtain rfl := Option.some.inj hfj; exact hh
         | 6 => obtain rfl := Option.some.inj hfj; exact hh
         | 7 => obtain rfl := Option.some.inj hfj; exact hh
         | 8 => obtain rfl := Option.some.inj hfj; exact hh
         | 9 => obtain rfl := Option.some.inj hfj; exact hh
         | 10 =>
          obtain rfl := Option.some.inj hfj
          exact ⟨xv 10, rfl, q, ([.int .i64 a2.p, .int .i64 a2.s, .int .i64 a2.i, .int .i64 a2.t, .int .i64 a2.q, .int .i64 a2.u, .int .i64 a2.j, .string a2.x, .slice x1 a2.gone.length z1] : List Value).toArray, eq, hN, hq.row _, rfl⟩
         | 11 =>
          obtain rfl := Option.some.inj hfj
          obtain ⟨q', cs', e', hN', hq', hz'⟩ := pF_get hh
          exact ⟨xv 11, rfl, q', cs', e', hN', hq'.rowOther (hko q' e') _, hz'⟩
         | 13 =>
          obtain rfl := Option.some.inj hfj
          obtain ⟨vv, ev, q', e', hN', hq'⟩ := hh
          simp only [pF, List.map_cons, List.map_nil, List.cons.injEq, and_true] at ev
          exact ⟨vv, by simp [pF, ev], q', e', hN', hq'.rowOther (hko q' (ev.trans e')) _⟩
         | 12 => exact absurd rfl hj
         | j + 14 => simp at hfj
       ·refine FactsG.ofR rfl (fun _ _ _ _ => rfl) (fun xv wv hSw hd hrel => ?_)
        obtain ⟨q, cs, eq, hN, hq, hz⟩ := pF_get (hd ⟨11, .data⟩ (by simp) rfl _ rfl)
        have dv : xv 9 = _ := pF_get (hd ⟨9, .data⟩ (by simp) rfl _ rfl)
        have hne : xv 11 ≠ xv 10 := hrel ⟨11, .phase⟩ (by simp) rfl ⟨10, .phase⟩ (by simp) rfl (by decide) (by simp)
        refine wp_store_r 69 _ _ rfl q ([.int .i64 a2.p, .int .i64 a2.s, .int .i64 a2.i, .int .i64 a2.t, .int .i64 a2.q, .int .i64 a2.u, .int .i64 a2.j, .string a2.x, .slice x2 a2.gone.length z2] : List Value).toArray eq dv hq size69 hz (by simp [Value.oneCell']) ?_
        refine ⟨undef, rfl, below_setRow hSw hN _, fun f hf => ?_, fun j f hj hfj hh => ?_, fun j _ _ _ _ h => absurd h (by omega)⟩
        ·obtain rfl := Option.some.inj hf
         exact ⟨xv 11, rfl, q, eq, hN, hq.row _⟩
        ·have hko : ∀ q', xv 10 = .pointer (some ⟨q', 0, none⟩) → q' ≠ q := fun q' e' e2 => hne (by rw [eq, e', e2])
         match j with
         | 0 => obtain rfl := Option.some.inj hfj; exact hh
         | 1 => obtain rfl := Option.some.inj hfj; exact hh
         | 2 => obtain rfl := Option.some.inj hfj; exact hh
         | 3 => obtain rfl := Option.some.inj hfj; exact hh
         | 4 => obtain rfl := Option.some.inj hfj; exact hh
         | 5 => obtain rfl := Option.some.inj hfj; exact hh
         | 6 => obtain rfl := Option.some.inj hfj; exact hh
         | 7 => obtain rfl := Option.some.inj hfj; exact hh
         | 8 => obtain rfl := Option.some.inj hfj; exact hh
         | 9 => obtain rfl := Option.some.inj hfj; exact hh
         | 11 =>
          obtain rfl := Option.some.inj hfj
          exact ⟨xv 11, rfl, q, ([.int .i64 a2.p, .int .i64 a2.s, .int .i64 a2.i, .int .i64 a2.t, .int .i64 a2.q, .int .i64 a2.u, .int .i64 a2.j, .string a2.x, .slice x2 a2.gone.length z2] : List Value).toArray, eq, hN, hq.row _, rfl⟩
         | 10 =>
          obtain rfl := Option.some.inj hfj
          obtain ⟨q', cs', e', hN', hq', hz'⟩ := pF_get hh
          exact ⟨xv 10, rfl, q', cs', e', hN', hq'.rowOther (hko q' e') _, hz'⟩
         | 12 =>
          obtain rfl := Option.some.inj hfj
          obtain ⟨vv, ev, q', e', hN', hq'⟩ := hh
          simp only [pF, List.map_cons, List.map_nil, List.cons.injEq, and_true] at ev
          exact ⟨vv, by simp [pF, ev], q', e', hN', hq'.rowOther (hko q' (ev.trans e')) _⟩
         | 13 => exact absurd rfl hj
         | j + 14 => simp at hfj
       rintro xv w5 hb5 hf hr
       obtain ⟨p1, ep1, hN1, B1⟩ := pF_get (hf 12 _ (by decide) rfl)
       obtain ⟨p2, ep2, hN2, B2⟩ := pF_get (hf 13 _ (by decide) rfl)
       clear hf hr hS hF
       replace R0 := R0.later hb5
       replace R1 := R1.later hb5
       replace hbel := below_on hbel hb5
       replace q1 := q1.later hb5
       replace q2 := q2.later hb5
       have E := fun w => same_mark w a2.p a2.s a2.i
       have EE := fun w => same_mark w a2.q a2.u a2.j
       have zm1 : (Tryz.prog.info? 50).map (·.size) = some [Value.int .i64 a2.p, .int .i64 a2.s, .int .i64 a2.i].length := size50
       have zm2 : (Tryz.prog.info? 50).map (·.size) = some [Value.int .i64 a2.q, .int .i64 a2.u, .int .i64 a2.j].length := size50
       have m1 : w5.rangeAt p1 0 [.int .i64 a2.p, .int .i64 a2.s, .int .i64 a2.i] := B1.range 0 _ fun j v hv => by
        match j, hv with
        | 0, hv => exact hv
        | 1, hv => exact hv
        | 2, hv => exact hv
        | j + 3, hv => simp at hv
       have m2 : w5.rangeAt p2 0 [.int .i64 a2.p, .int .i64 a2.s, .int .i64 a2.i] := B2.range 0 _ fun j v hv => by
        match j, hv with
        | 0, hv => exact hv
        | 1, hv => exact hv
        | 2, hv => exact hv
        | j + 3, hv => simp at hv
       have n1 : w5.rangeAt p1 4 [.int .i64 a2.q, .int .i64 a2.u, .int .i64 a2.j] := B1.range 4 _ fun j v hv => by
        match j, hv with
        | 0, hv => exact hv
        | 1, hv => exact hv
        | 2, hv => exact hv
        | j + 3, hv => simp at hv
       have n2 : w5.rangeAt p2 4 [.int .i64 a2.q, .int .i64 a2.u, .int .i64 a2.j] := B2.range 4 _ fun j v hv => by
        match j, hv with
        | 0, hv => exact hv
        | 1, hv => exact hv
        | 2, hv => exact hv
        | j + 3, hv => simp at hv
       have i1 : w5.cell? ⟨p1, 3, none⟩ = some (.int .i64 a2.t) := B1.cell 3
       have i2 : w5.cell? ⟨p2, 3, none⟩ = some (.int .i64 a2.t) := B2.cell 3
       have j1 : w5.cell? ⟨p1, 7, none⟩ = some (.string a2.x) := B1.cell 7
       have j2 : w5.cell? ⟨p2, 7, none⟩ = some (.string a2.x) := B2.cell 7
       have k1 : w5.cell? ⟨p1, 8, none⟩ = some (.slice x1 a2.gone.length z1) := B1.cell 8
       have k2 : w5.cell? ⟨p2, 8, none⟩ = some (.slice x2 a2.gone.length z2) := B2.cell 8
       simp only [ep1, ep2]
       go_wp2_with (first | refine load_m 50 _ rfl rfl _ _ rfl m1 Tryz.underlying50 rfl zm1 ?_ | refine load_m 50 _ rfl rfl _ _ rfl m2 Tryz.underlying50 rfl zm1 ?_ | refine load_m 50 _ rfl rfl _ _ rfl n1 Tryz.underlying50 rfl zm2 ?_ | refine load_m 50 _ rfl rfl _ _ rfl n2 Tryz.underlying50 rfl zm2 ?_)
       refine (marks_any _ _ a2.gone w5 q1 q2).mono ?_
       rintro e w6 ⟨rfl, hb6⟩
       replace R0 := R0.later hb6
       replace R1 := R1.later hb6
       replace hbel := below_on hbel hb6
       clear i1 i2 j1 j2 k1 k2 m1 m2 n1 n2 B1 B2
       go_wp2_with fail
       go_roundw
       case rel => exact ⟨k + 1, by simp, by omega, R0, R1, hbel⟩
       case measure => simp [intOf]; omega
      ·have hlt' : ¬ (k : Int) < (x.el.length : Int) := by omega
       go_wp2_with fail
       go_ret
       exact ⟨rfl, hbel⟩
end Go.Proofs.YtjbbmcommnhgeaaGreat
namespace Go.Proofs.YtjbbmcommnhgeaaGreat.Ct
open Go.RowKit
theorem isBase_any (n : Int) (w : World) : Calls Tryz.prog 103 #[.int .i64 n] w (Tells (.bool (wi n (-1152921504606846976) 1152921504606846976)) w) := by
 unfold wi
 go_enter Tryz.func103, Tryz.ntmps103
 go_wp2
 all_goals
  go_ret
  refine tells_bool ?_ ?_
  focus (first | (simp_all; done) | grind)
  repeat refine bel_alloc ?_ _
  exact Below.refl _ _
theorem refAmount_any (n : Int) (w : World) : Calls Tryz.prog 62 #[.int .i64 n] w (Tells (.bool (wi n (-1073741824) 1073741824)) w) := by
 unfold wi
 go_enter Tryz.func62, Tryz.ntmps62
 go_wp2
 all_goals
  go_ret
  refine tells_bool ?_ ?_
  focus (first | (simp_all; done) | grind)
  repeat refine bel_alloc ?_ _
  exact Below.refl _ _
def ia (i n : Int) : Bool := decide (1 ≤ i) && wi n (-1073741824) 1073741824
theorem isAmount_any (p s i n : Int) (w : World) : Calls Tryz.prog 72 #[AV p s i n] w (Tells (.bool (ia i n)) w) := by
 unfold ia wi
 go_enter Tryz.func72, Tryz.ntmps72
 go_wp2
 all_goals
  go_ret
  refine tells_bool ?_ ?_
  focus (first | (simp_all; done) | grind)
  repeat refine bel_alloc ?_ _
  exact Below.refl _ _
theorem markOf_any (p s i n : Int) (w : World) : Calls Tryz.prog 74 #[AV p s i n] w (Tells (MV p s i) w) := by
 go_enter Tryz.func74, Tryz.ntmps74
 go_wp2
 exact bodyPost_ret (results_r rfl rfl (rw_next _ (by simp) 50 _) rfl Tryz.underlying50 size50) rfl ⟨rfl, bel_alloc (bel_alloc (Below.refl _ _) _) _⟩
theorem cellOf_any (b : Int) (q : Option Addr) (l c : Nat) (w : World) : Calls Tryz.prog 208 #[.int .i64 b, .slice q l c] w (Tells (CV 1 b (.slice q l c) (.slice none 0 0) (.slice none 0 0) (.slice none 0 0)) w) := by
 go_enter Tryz.func208, Tryz.ntmps208
 go_wp2
 exact bodyPost_ret (results_r rfl rfl (rw_next _ (by simp) 27 _) rfl Tryz.underlying27 size27) rfl ⟨rfl, bel_alloc (Below.refl _ _) _⟩
def lt (x y : A) : Bool := ls x.p x.s x.i y.p y.s y.i
def okk (l : List A) (k : Nat) (h : k < l.length) : Bool := ia l[k].i l[k].n && (decide (k = 0) || lt (l[k - 1]'(by omega)) l[k])
def ca (l : List A) : Bool := decide (∀ k (h : k < l.length), okk l k h = true)
theorem ca_iff (l : List A) : ca l = true ↔ ∀ k (h : k < l.length), okk l k h = true := by simp [ca]
theorem ca_not {l : List A} {z : Bool} (HZ : Hid (ca l = z)) {k : Nat} (h : k < l.length) (h' : okk l k h = false) : Hid (z = false) := by
 show z = false
 have hz := HZ.out
 cases z
 ·rfl
 ·rw [(ca_iff l).1 hz k h] at h'
  cases h'
theorem _root_.Go.Proofs.YtjbbmcommnhgeaaGreat.A.mark {w : World} {b o : Nat} {x : A} (h : w.rangeAt b o x.cells) : w.rangeAt b o [.int .i64 x.p, .int .i64 x.s, .int .i64 x.i] := fun j u hu => by
 refine h j u ?_
 match j, hu with
 | 0, hu => exact hu
 | 1, hu => exact hu
 | 2, hu => exact hu
 | j + 3, hu => simp at hu
theorem checkAmounts_any (v : Value) (l : List A) (w : World) (h : AHas w v l) : Calls Tryz.prog 104 #[v] w (Tells (.bool (ca l)) w) := by
 obtain ⟨z, HZ⟩ := hid_ex (ca l)
 rw [HZ.out]
 have hml := maxLen_lt h.1
 obtain ⟨p, c, rfl⟩ := h.slice
 have HR : Hid (AHas w (.slice p l.length c) l) := h
 clear h
 go_enter Tryz.func104, Tryz.ntmps104
 go_wp2
 go_loopw [7] (fun vi wr => ∃ k : Nat, vi = .int .i64 k ∧ k ≤ l.length ∧ Hid (∀ i (h : i < l.length), i < k → okk l i h = true) ∧ Below w.heap.size w wr) (fun vi _ => l.length - (intOf vi).toNat)
 case atStart => exact ⟨0, rfl, by omega, (show ∀ i (_ : i < l.length), i < 0 → _ from fun i _ h => by omega), Below.refl _ _⟩
 case round =>
  obtain ⟨k, rfl, hk, HV, hbel⟩ := hrel
  by_cases hlt : k < l.length
  ·have hlt' : (k : Int) < (l.length : Int) := by omega
   obtain ⟨g, o, rfl, hd0⟩ := HR.out.at (by omega)
   have hd := range_later hd0 hbel
   clear hd0 HR
   have d := AHas.elem hd k hlt
   obtain ⟨x, HX⟩ := hid_ex l[k]
   rw [HX.out] at d
   have z42 : (Tryz.prog.info? 71).map (·.size) = some x.cells.length := size71
   have R := rw_new wr 71 #[.int .i64 x.p, .int .i64 x.s, .int .i64 x.i, .int .i64 x.n]
   replace hbel := bel_alloc hbel (.cells #[.int .i64 x.p, .int .i64 x.s, .int .i64 x.i, .int .i64 x.n] 71)
   have C1 := fun w => isAmount_any x.p x.s x.i x.n w
   obtain ⟨y1, HY1⟩ := hid_ex (ia x.i x.n)
   rw [HY1.out] at C1
   have zm : (Tryz.prog.info? 50).map (·.size) = some [Value.int .i64 x.p, .int .i64 x.s, .int .i64 x.i].length := size50
   cases y1
   ·have HF := ca_not HZ hlt (show okk l k hlt = false by unfold okk; rw [HX.out, HY1.out]; rfl)
    have e := HF.out
    subst e
    clear HZ HF HV
    go_wp2_with (refine load_m 71 _ rfl rfl _ _ rfl d Tryz.underlying71 rfl z42 ?_)
    clear hd d
    have hs : Calm.Stays (fun w' => Rw w' wr.heap.size 71 #[.int .i64 x.p, .int .i64 x.s, .int .i64 x.i, .int .i64 x.n] ∧ Below w.heap.size w w') := fun wa wb h hb => ⟨h.1.later hb, below_on h.2 hb⟩
    refine Calm.region (by kernel_rfl) (by kernel_rfl) (fun w' => Rw w' wr.heap.size 71 #[.int .i64 x.p, .int .i64 x.s, .int .i64 x.i, .int .i64 x.n] ∧ Below w.heap.size w w') ⟨R, hbel.drew⟩ ?_
    all_goals refine Calm.lm z42 (fun _ h => Rw.whole h.1) Tryz.underlying71 ?_
    all_goals refine Calm.k1 hs (fun w1 h => C1 w1) ?_
    iterate 10 (all_goals refine Calm.sp ?_)
    all_goals first | refine Calm.sk ?_ | refine Calm.lm zm (fun _ h => A.mark (x := x) (Rw.whole h.1)) Tryz.underlying50 ?_
    all_goals refine Calm.sp ?_
    all_goals first | refine Calm.sk ?_ | refine Calm.lm zm (fun _ h => A.mark (x := x) (Rw.whole h.1)) Tryz.underlying50 ?_
    all_goals first | refine Calm.sk ?_ | refine Calm.k2 hs (fun w1 h => less_any 0 0 0 0 0 0 w1) ?_
    iterate 3 (all_goals refine Calm.sp ?_)
    all_goals
     rintro w9 ⟨_, hbel9⟩
    go_wp2_with fail
    go_ret
    exact ⟨rfl, hbel9⟩
   ·rcases Nat.eq_zero_or_pos k with rfl | hpos
    ·have HV2 : Hid (∀ i (h : i < l.length), i < 0 + 1 → okk l i h = true) := fun i h hi => by
      obtain rfl : i = 0 := by omega
      unfold okk
      rw [HX.out, HY1.out]
      rfl
     go_wp2_with (refine load_m 71 _ rfl rfl _ _ rfl d Tryz.underlying71 rfl z42 ?_)
     clear hd d HV
     have hs : Calm.Stays (fun w' => Rw w' wr.heap.size 71 #[.int .i64 x.p, .int .i64 x.s, .int .i64 x.i, .int .i64 x.n] ∧ Below w.heap.size w w') := fun wa wb h hb => ⟨h.1.later hb, below_on h.2 hb⟩
     refine Calm.region (by kernel_rfl) (by kernel_rfl) (fun w' => Rw w' wr.heap.size 71 #[.int .i64 x.p, .int .i64 x.s, .int .i64 x.i, .int .i64 x.n] ∧ Below w.heap.size w w') ⟨R, hbel.drew⟩ ?_
     all_goals refine Calm.lm z42 (fun _ h => Rw.whole h.1) Tryz.underlying71 ?_
     all_goals refine Calm.k1 hs (fun w1 h => C1 w1) ?_
     iterate 10 (all_goals refine Calm.sp ?_)
     all_goals first | refine Calm.sk ?_ | refine Calm.lm zm (fun _ h => A.mark (x := x) (Rw.whole h.1)) Tryz.underlying50 ?_
     all_goals refine Calm.sp ?_
     all_goals first | refine Calm.sk ?_ | refine Calm.lm zm (fun _ h => A.mark (x := x) (Rw.whole h.1)) Tryz.underlying50 ?_
     all_goals first | refine Calm.sk ?_ | refine Calm.k2 hs (fun w1 h => less_any 0 0 0 0 0 0 w1) ?_
     iterate 3 (all_goals refine Calm.sp ?_)
     all_goals
      rintro w9 ⟨_, hbel9⟩
     go_wp2_with fail
     go_roundw
     case rel => exact ⟨0 + 1, by simp, by omega, HV2, hbel9⟩
     case measure => simp [intOf]; omega
    ·obtain ⟨m, rfl⟩ : ∃ m, k = m + 1 := ⟨k - 1, by omega⟩
     have d2 := range_later (AHas.elem hd m (by omega)) (bel_alloc (Below.refl _ _) (.cells #[.int .i64 x.p, .int .i64 x.s, .int .i64 x.i, .int .i64 x.n] 71))
     obtain ⟨y, HY⟩ := hid_ex (l[m]'(by omega))
     rw [HY.out] at d2
     have zy : (Tryz.prog.info? 50).map (·.size) = some [Value.int .i64 y.p, .int .i64 y.s, .int .i64 y.i].length := size50
     have C2 := fun w => less_any y.p y.s y.i x.p x.s x.i w
     have hO : okk l (m + 1) hlt = lt y x := by
      unfold okk
      simp only [Nat.add_sub_cancel]
      rw [HX.out, HY1.out, HY.out]
      simp
     have HO : Hid (okk l (m + 1) hlt = lt y x) := hO
     clear hO
     have C2 : ∀ w, Calls Tryz.prog 107 #[MV y.p y.s y.i, MV x.p x.s x.i] w (Tells (.bool (lt y x)) w) := C2
     obtain ⟨y2, HY2⟩ := hid_ex (lt y x)
     rw [HY2.out] at C2 HO
     have hw1 : IntKind.i64.wrap (m : Int) = (m : Int) := by rw [IntKind.wrap_i64]; omega
     have hml2 : (m : Int) < (l.length : Int) := by omega
     go_wp2_with (refine load_m 71 _ rfl rfl _ _ rfl d Tryz.underlying71 rfl z42 ?_)
     clear hd d
     cases y2
     ·have HF := ca_not HZ hlt HO.out
      have e := HF.out
      subst e
      clear HZ HF HV
      have hs : Calm.Stays (fun w' => Rw w' wr.heap.size 71 #[.int .i64 x.p, .int .i64 x.s, .int .i64 x.i, .int .i64 x.n] ∧ w'.rangeAt g (o + m * 4) y.cells ∧ Below w.heap.size w w') := fun wa wb h hb => ⟨h.1.later hb, range_later h.2.1 hb, below_on h.2.2 hb⟩
      refine Calm.region (by kernel_rfl) (by kernel_rfl) (fun w' => Rw w' wr.heap.size 71 #[.int .i64 x.p, .int .i64 x.s, .int .i64 x.i, .int .i64 x.n] ∧ w'.rangeAt g (o + m * 4) y.cells ∧ Below w.heap.size w w') ⟨R, d2, hbel.drew⟩ ?_
      all_goals refine Calm.lm z42 (fun _ h => Rw.whole h.1) Tryz.underlying71 ?_
      all_goals refine Calm.k1 hs (fun w1 h => C1 w1) ?_
      iterate 10 (all_goals refine Calm.sp ?_)
      all_goals first | refine Calm.sk ?_ | refine Calm.lm zy (fun _ h => A.mark h.2.1) Tryz.underlying50 ?_ | refine Calm.lm zm (fun _ h => A.mark (x := x) (Rw.whole h.1)) Tryz.underlying50 ?_
      all_goals refine Calm.sp ?_
      all_goals first | refine Calm.sk ?_ | refine Calm.lm zy (fun _ h => A.mark h.2.1) Tryz.underlying50 ?_ | refine Calm.lm zm (fun _ h => A.mark (x := x) (Rw.whole h.1)) Tryz.underlying50 ?_
      all_goals first | refine Calm.sk ?_ | refine Calm.k2 hs (fun w1 h => C2 w1) ?_
      iterate 3 (all_goals refine Calm.sp ?_)
      all_goals
       rintro w9 ⟨_, _, hbel9⟩
      go_wp2_with fail
      go_ret
      exact ⟨rfl, hbel9⟩
     ·have HV2 : Hid (∀ i (h : i < l.length), i < m + 1 + 1 → okk l i h = true) := fun i h hi => by
       rcases Nat.lt_or_ge i (m + 1) with h' | h'
       ·exact HV.out i h h'
       ·obtain rfl : i = m + 1 := by omega
        exact HO.out
      clear HV HO
      have hs : Calm.Stays (fun w' => Rw w' wr.heap.size 71 #[.int .i64 x.p, .int .i64 x.s, .int .i64 x.i, .int .i64 x.n] ∧ w'.rangeAt g (o + m * 4) y.cells ∧ Below w.heap.size w w') := fun wa wb h hb => ⟨h.1.later hb, range_later h.2.1 hb, below_on h.2.2 hb⟩
      refine Calm.region (by kernel_rfl) (by kernel_rfl) (fun w' => Rw w' wr.heap.size 71 #[.int .i64 x.p, .int .i64 x.s, .int .i64 x.i, .int .i64 x.n] ∧ w'.rangeAt g (o + m * 4) y.cells ∧ Below w.heap.size w w') ⟨R, d2, hbel.drew⟩ ?_
      all_goals refine Calm.lm z42 (fun _ h => Rw.whole h.1) Tryz.underlying71 ?_
      all_goals refine Calm.k1 hs (fun w1 h => C1 w1) ?_
      iterate 10 (all_goals refine Calm.sp ?_)
      all_goals first | refine Calm.sk ?_ | refine Calm.lm zy (fun _ h => A.mark h.2.1) Tryz.underlying50 ?_ | refine Calm.lm zm (fun _ h => A.mark (x := x) (Rw.whole h.1)) Tryz.underlying50 ?_
      all_goals refine Calm.sp ?_
      all_goals first | refine Calm.sk ?_ | refine Calm.lm zy (fun _ h => A.mark h.2.1) Tryz.underlying50 ?_ | refine Calm.lm zm (fun _ h => A.mark (x := x) (Rw.whole h.1)) Tryz.underlying50 ?_
      all_goals first | refine Calm.sk ?_ | refine Calm.k2 hs (fun w1 h => C2 w1) ?_
      iterate 3 (all_goals refine Calm.sp ?_)
      all_goals
       rintro w9 ⟨_, _, hbel9⟩
      go_wp2_with fail
      go_roundw
      case rel => exact ⟨m + 1 + 1, by simp, by omega, HV2, hbel9⟩
      case measure => simp [intOf]; omega
  ·have hlt' : ¬ (k : Int) < (l.length : Int) := by omega
   have hz : z = true := by
    rw [← HZ.out, ca_iff]
    exact fun i h => HV.out i h (by omega)
   subst hz
   clear HR HV HZ
   go_wp2_with fail
   go_ret
   exact ⟨rfl, hbel⟩
def ck (x : X) : Bool := decide (x.k = 1) && (decide (x.wr.length + x.mb.length + x.el.length = 0) && (wi x.b (-1152921504606846976) 1152921504606846976 && ca x.am))
theorem check_any (x : X) (va vw vm ve : Value) (w : World) (h : Four w x va vw vm ve) (hs : Sm x) : Calls Tryz.prog 71 #[CV x.k x.b va vw vm ve] w (Tells (.bool (ck x)) w) := by
 obtain ⟨z, HZ⟩ := hid_ex (ck x)
 rw [HZ.out]
 obtain ⟨pa, ca', pw, cw, pm, cm, pe, ce, rfl, rfl, rfl, rfl⟩ := h.slices
 have HA : Hid (AHas w (.slice pa x.am.length ca') x.am) := h.a
 clear h
 obtain ⟨ha, ht, hm, he, _, _⟩ := hs
 by_cases hk : x.k = 1
 ·by_cases h0 : x.wr.length + x.mb.length + x.el.length = 0
  ·have e1 : x.wr.length = 0 := by omega
   have e2 : x.mb.length = 0 := by omega
   have e3 : x.el.length = 0 := by omega
   have C1 := fun w => isBase_any x.b w
   obtain ⟨y1, HY1⟩ := hid_ex (wi x.b (-1152921504606846976) 1152921504606846976)
   rw [HY1.out] at C1
   have hz : Hid (z = (y1 && ca x.am)) := by
    show _ = _
    rw [← HZ.out]
    unfold ck
    rw [HY1.out]
    simp [hk, h0]
   rw [e1, e2, e3]
   clear HY1 HZ e1 e2 e3 h0 ht hm he
   cases y1
   ·obtain rfl : z = false := by have := hz.out; simpa using this
    clear hz
    go_enter Tryz.func71, Tryz.ntmps71
    go_wp2_with fail
    refine (C1 _).mono ?_
    rintro e w1 ⟨rfl, hb1⟩
    replace hb1 := below_on (bel_alloc (Below.refl _ _) _) hb1
    go_wp2_with fail
    go_ret
    exact ⟨rfl, hb1⟩
   ·obtain rfl : z = ca x.am := by have := hz.out; simpa using this
    clear hz
    go_enter Tryz.func71, Tryz.ntmps71
    go_wp2_with fail
    refine (C1 _).mono ?_
    rintro e w1 ⟨rfl, hb1⟩
    have R := Rw.later (rw_new w 27 _) hb1
    have c2 : w1.cell? ⟨w.heap.size, 2, none⟩ = some (.slice pa x.am.length ca') := R.cell 2
    replace hb1 := below_on (bel_alloc (Below.refl _ _) _) hb1
    go_wp2_with fail
    refine (checkAmounts_any _ _ _ (HA.out.later hb1)).mono ?_
    rintro e w2 ⟨rfl, hb2⟩
    go_wp2_with fail
    go_ret
    exact ⟨rfl, below_on hb1 hb2⟩
  ·have h0' : ¬ (x.wr.length : Int) + (x.mb.length : Int) + (x.el.length : Int) = 0 := by omega
   have w1 : IntKind.i64.wrap ((x.wr.length : Int) + (x.mb.length : Int)) = (x.wr.length : Int) + (x.mb.length : Int) := by rw [IntKind.wrap_i64]; omega
   have w2 : IntKind.i64.wrap ((x.wr.length : Int) + (x.mb.length : Int) + (x.el.length : Int)) = (x.wr.length : Int) + (x.mb.length : Int) + (x.el.length : Int) := by rw [IntKind.wrap_i64]; omega
   obtain rfl : z = false := by
    rw [← HZ.out]
    unfold ck
    rw [decide_eq_false h0]
    simp
   clear HZ
   go_enter Tryz.func71, Tryz.ntmps71
   go_wp2_with fail
   go_ret
   exact ⟨rfl, bel_alloc (Below.refl _ _) _⟩
 ·obtain rfl : z = false := by
   rw [← HZ.out]
   unfold ck
   simp [hk]
  clear HZ
  go_enter Tryz.func71, Tryz.ntmps71
  go_wp2_with fail
  go_ret
  exact ⟨rfl, bel_alloc (Below.refl _ _) _⟩
def sm (l : List A) : Int := (l.map A.n).sum
theorem sm_cons (a : A) (l : List A) : sm (a :: l) = a.n + sm l := by simp [sm]
theorem sm_append (a b : List A) : sm (a ++ b) = sm a + sm b := by simp [sm]
def nb (l : List A) : Prop := ∀ a ∈ l, -1073741824 ≤ a.n ∧ a.n ≤ 1073741824
theorem sm_bound : ∀ (l : List A), nb l → -(1073741824 * (l.length : Int)) ≤ sm l ∧ sm l ≤ 1073741824 * (l.length : Int)
 | [], _ => by simp [sm]
 | a :: l, h => by
  have h1 := h a (by simp)
  have h2 := sm_bound l (fun x hx => h x (by simp [hx]))
  rw [sm_cons, List.length_cons]
  omega
theorem ca_nb {l : List A} (h : ca l = true) : nb l := fun a ha => by
 obtain ⟨k, hk, rfl⟩ := List.getElem_of_mem ha
 have := (ca_iff l).1 h k hk
 simp only [okk, ia, wi, Bool.and_eq_true, decide_eq_true_eq] at this
 exact this.1.2
theorem nb_take {l : List A} (h : nb l) (k : Nat) : nb (l.take k) := fun a ha => h a (List.mem_of_mem_take ha)
theorem total_any (k b : Int) (va : Value) (l : List A) (pw : Option Addr) (lw cw : Nat) (pm : Option Addr) (lm cm : Nat) (pe : Option Addr) (le ce : Nat) (w : World) (h : AHas w va l) (hl : l.length ≤ 100) (hn : nb l) (hb : wi b (-1152921504606846976) 1152921504606846976 = true) :
  Calls Tryz.prog 211 #[CV k b va (.slice pw lw cw) (.slice pm lm cm) (.slice pe le ce)] w (Tells (.int .i64 (b + sm l)) w) := by
 obtain ⟨pa, ca', rfl⟩ := h.slice
 have HA : Hid (AHas w (.slice pa l.length ca') l) := h
 have HN : Hid (nb l) := hn
 clear h hn
 obtain ⟨hb1, hb2⟩ : -1152921504606846976 ≤ b ∧ b ≤ 1152921504606846976 := by simpa [wi] using hb
 clear hb
 obtain ⟨z, HZ⟩ := hid_ex (b + sm l)
 rw [HZ.out]
 have hbel0 := bel_alloc (Below.refl w.heap.size w) (.cells (cvc k b (.slice pa l.length ca') (.slice pw lw cw) (.slice pm lm cm) (.slice pe le ce)) 27)
 go_enter Tryz.func211, Tryz.ntmps211
 go_wp2
 go_loopw [3, 11] (fun vn vi wr => ∃ k : Nat, vi = .int .i64 k ∧ k ≤ l.length ∧ vn = .int .i64 (b + sm (l.take k)) ∧ Below w.heap.size w wr) (fun _ vi _ => l.length - (intOf vi).toNat)
 case atStart => exact ⟨0, rfl, by omega, by simp [sm], hbel0⟩
 case round =>
  obtain ⟨k, rfl, hk, rfl, hbel⟩ := hrel
  by_cases hlt : k < l.length
  ·have hlt' : (k : Int) < (l.length : Int) := by omega
   obtain ⟨g, o, rfl, hd0⟩ := HA.out.at (by omega)
   have hd := range_later hd0 hbel
   clear hd0 HA
   have d := AHas.elem hd k hlt
   obtain ⟨x, HX⟩ := hid_ex l[k]
   rw [HX.out] at d
   have z42 : (Tryz.prog.info? 71).map (·.size) = some x.cells.length := size71
   have hx := HN.out l[k] (List.getElem_mem _)
   rw [HX.out] at hx
   have hsb := sm_bound _ (nb_take HN.out k)
   have hlk : ((l.take k).length : Int) = k := by rw [List.length_take]; omega
   have hst : Hid (sm (l.take (k + 1)) = sm (l.take k) + x.n) := by
    show _ = _
    rw [List.take_succ_eq_append_getElem hlt, sm_append, HX.out]
    simp [sm]
   obtain ⟨y, HY⟩ := hid_ex (sm (l.take k))
   rw [HY.out] at hsb ⊢
   rw [hlk] at hsb
   clear hlk
   go_wp2_with (refine load_m 71 _ rfl rfl _ _ rfl d Tryz.underlying71 rfl z42 ?_)
   go_roundw
   case rel =>
    refine ⟨k + 1, by simp, by omega, ?_, bel_alloc hbel _⟩
    rw [hst.out, HY.out]
    simp
    omega
   case measure => simp [intOf]; omega
  ·have hlt' : ¬ (k : Int) < (l.length : Int) := by omega
   obtain rfl : k = l.length := by omega
   rw [List.take_length, HZ.out]
   clear HA HN HZ
   go_wp2_with fail
   go_ret
   exact ⟨rfl, hbel⟩
abbrev VV (k n : Int) : Value := .agg #[.int .i64 k, .int .i64 n, .slice none 0 0, .slice none 0 0]
def rdK (x : X) : Int := if ck x = true then 1 else 0
def rdN (x : X) : Int := if ck x = true then x.b + sm x.am else 0
theorem ck_parts {x : X} (h : ck x = true) : x.k = 1 ∧ x.wr.length = 0 ∧ x.mb.length = 0 ∧ x.el.length = 0 ∧ wi x.b (-1152921504606846976) 1152921504606846976 = true ∧ ca x.am = true := by
 simp only [ck, Bool.and_eq_true, decide_eq_true_eq] at h
 obtain ⟨h1, h2, h3, h4⟩ := h
 exact ⟨h1, by omega, by omega, by omega, h3, h4⟩
theorem read_any (x : X) (va vw vm ve : Value) (w : World) (h : Four w x va vw vm ve) (hs : Sm x) : Calls Tryz.prog 206 #[CV x.k x.b va vw vm ve] w (Tells (VV (rdK x) (rdN x)) w) := by
 have C1 := fun w' (hb : Below w.heap.size w w') => check_any x va vw vm ve w' (h.later hb) hs
 obtain ⟨z, HZ⟩ := hid_ex (ck x)
 have C2 : z = true → ∀ w', Below w.heap.size w w' → Calls Tryz.prog 211 #[CV x.k x.b va vw vm ve] w' (Tells (.int .i64 (x.b + sm x.am)) w') := by
  intro hz w' hb
  obtain ⟨pa, ca', pw, cw, pm, cm, pe, ce, rfl, rfl, rfl, rfl⟩ := h.slices
  have hp := ck_parts (HZ.out.trans hz)
  exact total_any _ _ _ _ _ _ _ _ _ _ _ _ _ _ (h.a.later hb) hs.a (ca_nb hp.2.2.2.2.2) hp.2.2.2.2.1
 unfold rdK rdN
 rw [HZ.out] at C1 ⊢
 obtain ⟨pa, ca', pw, cw, pm, cm, pe, ce, rfl, rfl, rfl, rfl⟩ := h.slices
 clear h hs HZ
 obtain ⟨t, HT⟩ := hid_ex (x.b + sm x.am)
 rw [HT.out] at C2 ⊢
 clear HT
 have hbel0 := bel_alloc (bel_alloc (Below.refl w.heap.size w) (.cells (cvc x.k x.b (.slice pa x.am.length ca') (.slice pw x.wr.length cw) (.slice pm x.mb.length cm) (.slice pe x.el.length ce)) 27)) (.cells #[.int .i64 0, .int .i64 0, .slice none 0 0, .slice none 0 0] 46)
 obtain ⟨R0, R1, _⟩ := two_rows w (cvc x.k x.b (.slice pa x.am.length ca') (.slice pw x.wr.length cw) (.slice pm x.mb.length cm) (.slice pe x.el.length ce)) 27 #[.int .i64 0, .int .i64 0, .slice none 0 0, .slice none 0 0] 46
 generalize hW : (w.alloc (.cells (cvc x.k x.b (.slice pa x.am.length ca') (.slice pw x.wr.length cw) (.slice pm x.mb.length cm) (.slice pe x.el.length ce)) 27)).alloc (.cells #[.int .i64 0, .int .i64 0, .slice none 0 0, .slice none 0 0] 46) = w0 at hbel0 R0 R1
 cases z
 ·rw [if_neg (by simp), if_neg (by simp)]
  clear C2
  go_enter Tryz.func206, Tryz.ntmps206
  go_wp2_with (first | rw [hW] | refine load_r 27 _ rfl rfl _ rfl R0 Tryz.underlying27 rfl size27 ?_)
  refine (C1 _ hbel0).mono ?_
  rintro e w1 ⟨rfl, hb1⟩
  replace R1 := R1.later hb1
  replace hbel0 := below_on hbel0 hb1
  go_wp2_with (first | refine store_r rfl 46 _ _ rfl _ #[.int .i64 0, .int .i64 0, .slice none 0 0, .slice none 0 0] rfl rfl R1 size46 rfl (by simp [Value.oneCell']) ?_)
  exact bodyPost_ret (v := VV 0 0) (results_r rfl rfl (R1.row #[.int .i64 0, .int .i64 0, .slice none 0 0, .slice none 0 0]) rfl Tryz.underlying46 size46) rfl ⟨rfl, below_setRow hbel0 (by omega) _⟩
 ·rw [if_pos rfl, if_pos rfl]
  have C3 := C2 rfl
  clear C2
  go_enter Tryz.func206, Tryz.ntmps206
  go_wp2_with (first | rw [hW] | refine load_r 27 _ rfl rfl _ rfl R0 Tryz.underlying27 rfl size27 ?_)
  refine (C1 _ hbel0).mono ?_
  rintro e w1 ⟨rfl, hb1⟩
  replace R0 := R0.later hb1
  replace R1 := R1.later hb1
  replace hbel0 := below_on hbel0 hb1
  go_wp2_with (first | refine load_r 27 _ rfl rfl _ rfl R0 Tryz.underlying27 rfl size27 ?_)
  refine (C3 _ hbel0).mono ?_
  rintro e w2 ⟨rfl, hb1⟩
  replace R1 := R1.later hb1
  replace hbel0 := below_on hbel0 hb1
  go_wp2_with (first | refine store_r rfl 46 _ _ rfl _ #[.int .i64 1, .int .i64 t, .slice none 0 0, .slice none 0 0] rfl rfl R1 size46 rfl (by simp [Value.oneCell']) ?_)
  exact bodyPost_ret (v := VV 1 t) (results_r rfl rfl (R1.row #[.int .i64 1, .int .i64 t, .slice none 0 0, .slice none 0 0]) rfl Tryz.underlying46 size46) rfl ⟨rfl, below_setRow hbel0 (by omega) _⟩
theorem clear1_any (p s i n : Int) (bt bi : Nat) (q u : Int) (v : List Int) (t : Int) (sl : Value) (idx : Int) (w : World) (hv : v.length = 13) (R : Rw w bt 34 (txc q u v t sl).toArray) (c : w.cell? ⟨bi, 0, none⟩ = some (.int .i64 idx)) :
  Calls Tryz.prog 207 #[AV p s i n, .pointer (some ⟨bt, 0, none⟩), .pointer (some ⟨bi, 0, none⟩)] w (Tells (.bool (!bf p s i q u v idx)) w) := by
 have C1 := fun w => before_any p s i q u v t sl idx w hv
 generalize bf p s i q u v idx = y at C1 ⊢
 have hbel := bel_alloc (Below.refl w.heap.size w) (.cells #[.int .i64 p, .int .i64 s, .int .i64 i, .int .i64 n] 71)
 have R0 := rw_new w 71 #[.int .i64 p, .int .i64 s, .int .i64 i, .int .i64 n]
 have R1 := R.later hbel
 have c1 := cell_later hbel c
 generalize hW : w.alloc (.cells #[.int .i64 p, .int .i64 s, .int .i64 i, .int .i64 n] 71) = w0 at hbel R0 R1 c1
 have d0 := A.mark (x := ⟨p, s, i, n⟩) (Rw.whole R0)
 have zm : (Tryz.prog.info? 50).map (·.size) = some [Value.int .i64 p, .int .i64 s, .int .i64 i].length := size50
 have zt := size_tx (p := q) (s := u) (t := t) (sl := sl) hv
 go_enter Tryz.func207, Tryz.ntmps207
 go_wp2_with (first | rw [hW] | refine load_m 50 _ rfl rfl _ _ rfl d0 Tryz.underlying50 rfl zm ?_ | refine load_r 34 _ rfl rfl _ rfl R1 Tryz.underlying34 rfl zt ?_)
 refine (C1 _).mono ?_
 rintro e w1 ⟨rfl, hb1⟩
 go_wp2_with fail
 go_ret
 exact ⟨rfl, below_on hbel hb1⟩
end Go.Proofs.YtjbbmcommnhgeaaGreat.Ct
