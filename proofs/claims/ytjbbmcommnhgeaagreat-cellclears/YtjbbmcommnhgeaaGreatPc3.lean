import Derived.Deep.MidRow
import Derived.Test.YtjbbmcommnhgeaaGreatPc2
import Derived.WalkKit
set_option maxRecDepth 100000
set_option maxHeartbeats 8000000
namespace Go.Proofs.YtjbbmcommnhgeaaGreat.Calm
section
variable {P : Program} {ops : Array Oper} {S : World → Prop} {K : Act → Prop} {o : Oper} {l : List Oper} {a a' : Act}
theorem sk (h : calmList P ops S K l a') (hw : Region.wanted o (yielded ops a.tmps) = false := by rfl)
  (hp : a.put o.dst undef = a' := by (simp only [Act.put, List.setIfInBounds_toArray, List.set_cons_zero, List.set_cons_succ]; rfl)) : calmList P ops S K (o :: l) a :=
 skip hw (hp ▸ h)
theorem pu {v : Value} (h : calmList P ops S K l a') (hw : Region.wanted o (yielded ops a.tmps) = true := by rfl)
  (hv : ∀ w, S w → (execOp a.eval o).run P w = .ok (.value v) w := by (intro w hSw; go_simp <;> rfl))
  (hp : a.put o.dst v = a' := by (simp only [Act.put, List.setIfInBounds_toArray, List.set_cons_zero, List.set_cons_succ]; rfl)) : calmList P ops S K (o :: l) a :=
 pure hw hv (hp ▸ h)
theorem sp {v : Value} {b : Bool} (h : calmList P ops S K l a') (hw : Region.wanted o (yielded ops a.tmps) = b := by first | exact (rfl : _ = false) | exact (rfl : _ = true))
  (hv : cond b (∀ w, S w → (execOp a.eval o).run P w = .ok (.value v) w) (v = undef) := by first | exact (rfl : _ = undef) | (intro w hSw; go_simp <;> rfl))
  (hp : a.put o.dst v = a' := by (simp only [Act.put, List.setIfInBounds_toArray, List.set_cons_zero, List.set_cons_succ]; rfl)) : calmList P ops S K (o :: l) a := by
 cases b
 ·exact skip hw ((show v = undef from hv) ▸ hp ▸ h)
 ·exact pure hw hv (hp ▸ h)
theorem ce {v : Value} {ad : Addr} (g : ∀ w, S w → w.cell? ad = some v) (h : calmList P ops S K l a') (hw : Region.wanted o (yielded ops a.tmps) = true := by rfl)
  (hv : ∀ w, S w → w.cell? ad = some v → (execOp a.eval o).run P w = .ok (.value v) w := by (intro w hSw g1; go_simp))
  (hp : a.put o.dst v = a' := by (simp only [Act.put, List.setIfInBounds_toArray, List.set_cons_zero, List.set_cons_succ]; rfl)) : calmList P ops S K (o :: l) a :=
 pure hw (fun w hS => hv w hS (g w hS)) (hp ▸ h)
theorem cl {v : Value} {p : World → Prop} (g : ∀ w, S w → p w) (h : calmList P ops S K l a') (hw : Region.wanted o (yielded ops a.tmps) = true := by rfl)
  (hv : ∀ w, S w → p w → (execOp a.eval o).run P w = .ok (.value v) w := by (intro w hSw g1; go_simp <;> rfl))
  (hp : a.put o.dst v = a' := by (simp only [Act.put, List.setIfInBounds_toArray, List.set_cons_zero, List.set_cons_succ]; rfl)) : calmList P ops S K (o :: l) a :=
 pure hw (fun w hS => hv w hS (g w hS)) (hp ▸ h)
theorem cs {v : Value} {p : World → Prop} (g : ∀ w, S w → p w) (h : calmList P ops S K l a') (hw : Region.wanted o (yielded ops a.tmps) = true := by rfl)
  (hv : ∀ w, S w → p w → (execOp a.eval o).run P w = .ok (.value v) w := by (intro w hSw g1; simp at g1; go_simp <;> rfl))
  (hp : a.put o.dst v = a' := by (simp only [Act.put, List.setIfInBounds_toArray, List.set_cons_zero, List.set_cons_succ]; rfl)) : calmList P ops S K (o :: l) a :=
 pure hw (fun w hS => hv w hS (g w hS)) (hp ▸ h)
theorem lm {b f : Nat} {cs : List Value} {t : TypeId} {d : TypeDesc} {x : Operand} (hi : (P.info? t).map (·.size) = some cs.length) (hS : ∀ w, S w → w.rangeAt b f cs) (hu : P.underlying t = some d) (h : calmList P ops S K l a') (hw : Region.wanted o (yielded ops a.tmps) = true := by rfl)
  (ho : o.op = .load t x := by rfl) (hx : a.eval x = .pointer (some ⟨b, f, none⟩) := by rfl) (hd : d.isRow = true := by rfl)
  (hp : a.put o.dst (.agg cs.toArray) = a' := by (simp only [Act.put, List.setIfInBounds_toArray, List.set_cons_zero, List.set_cons_succ]; rfl)) : calmList P ops S K (o :: l) a :=
 pure hw (fun w hw' => by
  have h2 := run_loadVar_mid (P := P) w b f t cs d (hS w hw') hu hd hi
  unfold execOp
  simp only [ho, hx, Instr.loadAt, Instr.sureAddr, Sem.run_bind, Sem.run_pure, h2, Result.andThen_ok]) (hp ▸ h)
theorem k0 {r : Value} {f : FuncId} {ts : Array TypeId} (hs : Stays S) (hc : ∀ w, S w → Calls P f #[] w fun e w' => e = .returned r ∧ RowKit.Below w.heap.size w w') (h : calmList P ops S K l a') (hw : Region.wanted o (yielded ops a.tmps) = true := by rfl) (ho : o.op = .call { callee := .value (.func f), args := #[], argTypes := ts } := by rfl)  (hf : enters P f = true := by kernel_rfl)
  (hp : a.put o.dst r = a' := by (simp only [Act.put, List.setIfInBounds_toArray, List.set_cons_zero, List.set_cons_succ]; rfl)) : calmList P ops S K (o :: l) a :=
 call (f := f) (args := #[]) hw (fun w => by
  have e : ∀ args, (callFunc f args).run P w = .ok (.enter f args) w := fun args => enters_run hf args w
  unfold execOp
  simp [ho, go_sem, Act.eval, e]) (fun w hS => (hc w hS).mono fun e w' he => ⟨he.1, hs w w' hS he.2⟩) (hp ▸ h)
theorem k1 {r x : Value} {f : FuncId} {ts : Array TypeId} {u : Operand} (hs : Stays S) (hc : ∀ w, S w → Calls P f #[x] w fun e w' => e = .returned r ∧ RowKit.Below w.heap.size w w') (h : calmList P ops S K l a') (hw : Region.wanted o (yielded ops a.tmps) = true := by rfl) (ho : o.op = .call { callee := .value (.func f), args := #[u], argTypes := ts } := by rfl) (hu : a.eval u = x := by rfl) (hf : enters P f = true := by kernel_rfl)
  (hp : a.put o.dst r = a' := by (simp only [Act.put, List.setIfInBounds_toArray, List.set_cons_zero, List.set_cons_succ]; rfl)) : calmList P ops S K (o :: l) a :=
 call (f := f) (args := #[x]) hw (fun w => by
  have e : ∀ args, (callFunc f args).run P w = .ok (.enter f args) w := fun args => enters_run hf args w
  subst hu
  unfold execOp
  simp [ho, go_sem, Act.eval, e]) (fun w hS => (hc w hS).mono fun e w' he => ⟨he.1, hs w w' hS he.2⟩) (hp ▸ h)
theorem k2 {r x y : Value} {f : FuncId} {ts : Array TypeId} {u v : Operand} (hs : Stays S) (hc : ∀ w, S w → Calls P f #[x, y] w fun e w' => e = .returned r ∧ RowKit.Below w.heap.size w w') (h : calmList P ops S K l a') (hw : Region.wanted o (yielded ops a.tmps) = true := by rfl) (ho : o.op = .call { callee := .value (.func f), args := #[u, v], argTypes := ts } := by rfl) (hu : a.eval u = x := by rfl) (hv : a.eval v = y := by rfl) (hf : enters P f = true := by kernel_rfl)
  (hp : a.put o.dst r = a' := by (simp only [Act.put, List.setIfInBounds_toArray, List.set_cons_zero, List.set_cons_succ]; rfl)) : calmList P ops S K (o :: l) a :=
 call (f := f) (args := #[x, y]) hw (fun w => by
  have e : ∀ args, (callFunc f args).run P w = .ok (.enter f args) w := fun args => enters_run hf args w
  subst hu
  subst hv
  unfold execOp
  simp [ho, go_sem, Act.eval, e]) (fun w hS => (hc w hS).mono fun e w' he => ⟨he.1, hs w w' hS he.2⟩) (hp ▸ h)
theorem k3 {r x y z : Value} {f : FuncId} {ts : Array TypeId} {u v t : Operand} (hs : Stays S) (hc : ∀ w, S w → Calls P f #[x, y, z] w fun e w' => e = .returned r ∧ RowKit.Below w.heap.size w w') (h : calmList P ops S K l a') (hw : Region.wanted o (yielded ops a.tmps) = true := by rfl) (ho : o.op = .call { callee := .value (.func f), args := #[u, v, t], argTypes := ts } := by rfl) (hu : a.eval u = x := by rfl) (hv : a.eval v = y := by rfl) (ht : a.eval t = z := by rfl) (hf : enters P f = true := by kernel_rfl)
  (hp : a.put o.dst r = a' := by (simp only [Act.put, List.setIfInBounds_toArray, List.set_cons_zero, List.set_cons_succ]; rfl)) : calmList P ops S K (o :: l) a :=
 call (f := f) (args := #[x, y, z]) hw (fun w => by
  have e : ∀ args, (callFunc f args).run P w = .ok (.enter f args) w := fun args => enters_run hf args w
  subst hu
  subst hv
  subst ht
  unfold execOp
  simp [ho, go_sem, Act.eval, e]) (fun w hS => (hc w hS).mono fun e w' he => ⟨he.1, hs w w' hS he.2⟩) (hp ▸ h)
theorem k4 {r x y z q : Value} {f : FuncId} {ts : Array TypeId} {u v t n : Operand} (hs : Stays S) (hc : ∀ w, S w → Calls P f #[x, y, z, q] w fun e w' => e = .returned r ∧ RowKit.Below w.heap.size w w') (h : calmList P ops S K l a') (hw : Region.wanted o (yielded ops a.tmps) = true := by rfl) (ho : o.op = .call { callee := .value (.func f), args := #[u, v, t, n], argTypes := ts } := by rfl) (hu : a.eval u = x := by rfl) (hv : a.eval v = y := by rfl) (ht : a.eval t = z := by rfl) (hn : a.eval n = q := by rfl) (hf : enters P f = true := by kernel_rfl)
  (hp : a.put o.dst r = a' := by (simp only [Act.put, List.setIfInBounds_toArray, List.set_cons_zero, List.set_cons_succ]; rfl)) : calmList P ops S K (o :: l) a :=
 call (f := f) (args := #[x, y, z, q]) hw (fun w => by
  have e : ∀ args, (callFunc f args).run P w = .ok (.enter f args) w := fun args => enters_run hf args w
  subst hu
  subst hv
  subst ht
  subst hn
  unfold execOp
  simp [ho, go_sem, Act.eval, e]) (fun w hS => (hc w hS).mono fun e w' he => ⟨he.1, hs w w' hS he.2⟩) (hp ▸ h)
theorem kf1 {r x : Value} {f : FuncId} {ts : Array TypeId} {uf u : Operand} (hs : Stays S) (hc : ∀ w, S w → Calls P f #[x] w fun e w' => e = .returned r ∧ RowKit.Below w.heap.size w w') (h : calmList P ops S K l a') (hw : Region.wanted o (yielded ops a.tmps) = true := by rfl) (ho : o.op = .call { callee := .value uf, args := #[u], argTypes := ts } := by rfl) (hv : a.eval uf = .func (.func f) #[] #[] := by rfl) (hu : a.eval u = x := by rfl) (hf : enters P f = true := by kernel_rfl)
  (hp : a.put o.dst r = a' := by (simp only [Act.put, List.setIfInBounds_toArray, List.set_cons_zero, List.set_cons_succ]; rfl)) : calmList P ops S K (o :: l) a :=
 call (f := f) (args := #[x]) hw (fun w => by
  have e : ∀ args, (callFunc f args).run P w = .ok (.enter f args) w := fun args => enters_run hf args w
  generalize a.eval = ρ at hv hu ⊢
  subst hu
  unfold execOp
  simp [ho, go_sem, hv, e]) (fun w hS => (hc w hS).mono fun e w' he => ⟨he.1, hs w w' hS he.2⟩) (hp ▸ h)
end
end Go.Proofs.YtjbbmcommnhgeaaGreat.Calm
namespace Go.Proofs.YtjbbmcommnhgeaaGreat
open Go.RowKit
theorem checkMarks_any (v : Value) (l : List M) (w : World) (h : MHas w v l) : Calls Tryz.prog 129 #[v] w (Tells (.bool (ca l)) w) := by
 obtain ⟨z, HZ⟩ := hid_ex (ca l)
 rw [HZ.out]
 have hml := maxLen_lt h.1
 obtain ⟨p, c, rfl⟩ := h.slice
 have HR : Hid (MHas w (.slice p l.length c) l) := h
 clear h
 go_enter Tryz.func129, Tryz.ntmps129
 go_wp2
 go_loopw [7] (fun vi wr => ∃ k : Nat, vi = .int .i64 k ∧ k ≤ l.length ∧ Hid (∀ i (h : i < l.length), i < k → okk l i h = true) ∧ Below w.heap.size w wr) (fun vi _ => l.length - (intOf vi).toNat)
 case atStart => exact ⟨0, rfl, by omega, (show ∀ i (_ : i < l.length), i < 0 → _ from fun i _ h => by omega), Below.refl _ _⟩
 case round =>
  obtain ⟨k, rfl, hk, HV, hbel⟩ := hrel
  by_cases hlt : k < l.length
  ·have hlt' : (k : Int) < (l.length : Int) := by omega
   obtain ⟨g, o, rfl, hd0⟩ := HR.out.at (by omega)
   have hd := range_later hd0 hbel
   clear hd0 HR
   have d := M.elem hd k hlt
   obtain ⟨x, HX⟩ := hid_ex l[k]
   rw [HX.out] at d
   have zm : (Tryz.prog.info? 50).map (·.size) = some x.cells.length := size50
   have R := rw_new wr 50 #[.int .i64 x.p, .int .i64 x.s, .int .i64 x.i]
   replace hbel := bel_alloc hbel (.cells #[.int .i64 x.p, .int .i64 x.s, .int .i64 x.i] 50)
   have hxi : (decide (x.i < 1)) = !im x.i := by unfold im; by_cases h : x.i < 1 <;> simp [h] <;> omega
   obtain ⟨y1, HY1⟩ := hid_ex (im x.i)
   rw [HY1.out] at hxi
   cases y1
   ·have HF := ca_not HZ hlt (show okk l k hlt = false by unfold okk; rw [HX.out, HY1.out]; rfl)
    have e := HF.out
    subst e
    have hxd : decide (x.i < 1) = true := by simpa using hxi
    clear HZ HF HV hxi
    go_wp2_with (refine load_m 50 _ rfl rfl _ _ rfl d Tryz.underlying50 rfl zm ?_)
    clear hd d
    have hs : Calm.Stays (fun w' => Rw w' wr.heap.size 50 #[.int .i64 x.p, .int .i64 x.s, .int .i64 x.i] ∧ Below w.heap.size w w') := fun wa wb h hb => ⟨h.1.later hb, below_on h.2 hb⟩
    refine Calm.region (by kernel_rfl) (by kernel_rfl) (fun w' => Rw w' wr.heap.size 50 #[.int .i64 x.p, .int .i64 x.s, .int .i64 x.i] ∧ Below w.heap.size w w') ⟨R, hbel.drew⟩ ?_
    all_goals refine Calm.sp ?_
    all_goals refine Calm.ce (v := .int .i64 x.i) (ad := ⟨wr.heap.size, 2, none⟩) (fun _ h => h.1.cell 2) ?_
    iterate 9 (all_goals refine Calm.sp ?_)
    all_goals first | refine Calm.sk ?_ | refine Calm.lm zm (fun _ h => Rw.whole h.1) Tryz.underlying50 ?_
    all_goals first | refine Calm.sk ?_ | refine Calm.lm zm (fun _ h => Rw.whole h.1) Tryz.underlying50 ?_
    all_goals first | refine Calm.sk ?_ | refine Calm.k2 hs (fun w1 h => less_any 0 0 0 0 0 0 w1) ?_
    iterate 3 (all_goals refine Calm.sp ?_)
    all_goals
     rintro w9 ⟨_, hbel9⟩
    go_wp2_with fail
    go_ret
    exact ⟨rfl, hbel9⟩
   ·have hxd : decide (x.i < 1) = false := by simpa using hxi
    clear hxi
    rcases Nat.eq_zero_or_pos k with rfl | hpos
    ·have HV2 : Hid (∀ i (h : i < l.length), i < 0 + 1 → okk l i h = true) := fun i h hi => by
      obtain rfl : i = 0 := by omega
      unfold okk
      rw [HX.out, HY1.out]
      rfl
     go_wp2_with (refine load_m 50 _ rfl rfl _ _ rfl d Tryz.underlying50 rfl zm ?_)
     clear hd d HV
     have hs : Calm.Stays (fun w' => Rw w' wr.heap.size 50 #[.int .i64 x.p, .int .i64 x.s, .int .i64 x.i] ∧ Below w.heap.size w w') := fun wa wb h hb => ⟨h.1.later hb, below_on h.2 hb⟩
     refine Calm.region (by kernel_rfl) (by kernel_rfl) (fun w' => Rw w' wr.heap.size 50 #[.int .i64 x.p, .int .i64 x.s, .int .i64 x.i] ∧ Below w.heap.size w w') ⟨R, hbel.drew⟩ ?_
     all_goals refine Calm.sp ?_
     all_goals refine Calm.ce (v := .int .i64 x.i) (ad := ⟨wr.heap.size, 2, none⟩) (fun _ h => h.1.cell 2) ?_
     iterate 9 (all_goals refine Calm.sp ?_)
     all_goals first | refine Calm.sk ?_ | refine Calm.lm zm (fun _ h => Rw.whole h.1) Tryz.underlying50 ?_
     all_goals first | refine Calm.sk ?_ | refine Calm.lm zm (fun _ h => Rw.whole h.1) Tryz.underlying50 ?_
     all_goals first | refine Calm.sk ?_ | refine Calm.k2 hs (fun w1 h => less_any 0 0 0 0 0 0 w1) ?_
     iterate 3 (all_goals refine Calm.sp ?_)
     all_goals
      rintro w9 ⟨_, hbel9⟩
     go_wp2_with fail
     go_roundw
     case rel => exact ⟨0 + 1, by simp, by omega, HV2, hbel9⟩
     case measure => simp [intOf]; omega
    ·obtain ⟨m, rfl⟩ : ∃ m, k = m + 1 := ⟨k - 1, by omega⟩
     have d2 := range_later (M.elem hd m (by omega)) (bel_alloc (Below.refl _ _) (.cells #[.int .i64 x.p, .int .i64 x.s, .int .i64 x.i] 50))
     obtain ⟨y, HY⟩ := hid_ex (l[m]'(by omega))
     rw [HY.out] at d2
     have zy : (Tryz.prog.info? 50).map (·.size) = some y.cells.length := size50
     have C2 : ∀ w, Calls Tryz.prog 107 #[MV y.p y.s y.i, MV x.p x.s x.i] w (Tells (.bool (lt y x)) w) := fun w => less_any y.p y.s y.i x.p x.s x.i w
     have hO : okk l (m + 1) hlt = lt y x := by
      unfold okk
      simp only [Nat.add_sub_cancel]
      rw [HX.out, HY1.out, HY.out]
      simp
     have HO : Hid (okk l (m + 1) hlt = lt y x) := hO
     clear hO
     obtain ⟨y2, HY2⟩ := hid_ex (lt y x)
     rw [HY2.out] at C2 HO
     have hw1 : IntKind.i64.wrap (m : Int) = (m : Int) := by rw [IntKind.wrap_i64]; omega
     have hml2 : (m : Int) < (l.length : Int) := by omega
     go_wp2_with (refine load_m 50 _ rfl rfl _ _ rfl d Tryz.underlying50 rfl zm ?_)
     clear hd d
     cases y2
     ·have HF := ca_not HZ hlt HO.out
      have e := HF.out
      subst e
      clear HZ HF HV
      have hs : Calm.Stays (fun w' => Rw w' wr.heap.size 50 #[.int .i64 x.p, .int .i64 x.s, .int .i64 x.i] ∧ w'.rangeAt g (o + m * 3) y.cells ∧ Below w.heap.size w w') := fun wa wb h hb => ⟨h.1.later hb, range_later h.2.1 hb, below_on h.2.2 hb⟩
      refine Calm.region (by kernel_rfl) (by kernel_rfl) (fun w' => Rw w' wr.heap.size 50 #[.int .i64 x.p, .int .i64 x.s, .int .i64 x.i] ∧ w'.rangeAt g (o + m * 3) y.cells ∧ Below w.heap.size w w') ⟨R, d2, hbel.drew⟩ ?_
      all_goals refine Calm.sp ?_
      all_goals refine Calm.ce (v := .int .i64 x.i) (ad := ⟨wr.heap.size, 2, none⟩) (fun _ h => h.1.cell 2) ?_
      iterate 9 (all_goals refine Calm.sp ?_)
      all_goals first | refine Calm.sk ?_ | refine Calm.lm zy (fun _ h => h.2.1) Tryz.underlying50 ?_ | refine Calm.lm zm (fun _ h => Rw.whole h.1) Tryz.underlying50 ?_
      all_goals first | refine Calm.sk ?_ | refine Calm.lm zy (fun _ h => h.2.1) Tryz.underlying50 ?_ | refine Calm.lm zm (fun _ h => Rw.whole h.1) Tryz.underlying50 ?_
      all_goals first | refine Calm.sk ?_ | refine Calm.k2 hs (fun w1 h => C2 w1) ?_
      iterate 3 (all_goals refine Calm.sp ?_)
      all_goals
       rintro w9 ⟨_, _, hbel9⟩
      go_wp2_with fail
      go_ret
      exact ⟨rfl, hbel9⟩
     ·have HV2 : Hid (∀ i (h : i < l.length), i < m + 1 + 1 → okk l i h = true) := fun i h hi => by
       rcases Nat.lt_or_ge i (m + 1) with h' | h'
       ·exact HV.out i h h'
       ·obtain rfl : i = m + 1 := by omega
        exact HO.out
      clear HV HO
      have hs : Calm.Stays (fun w' => Rw w' wr.heap.size 50 #[.int .i64 x.p, .int .i64 x.s, .int .i64 x.i] ∧ w'.rangeAt g (o + m * 3) y.cells ∧ Below w.heap.size w w') := fun wa wb h hb => ⟨h.1.later hb, range_later h.2.1 hb, below_on h.2.2 hb⟩
      refine Calm.region (by kernel_rfl) (by kernel_rfl) (fun w' => Rw w' wr.heap.size 50 #[.int .i64 x.p, .int .i64 x.s, .int .i64 x.i] ∧ w'.rangeAt g (o + m * 3) y.cells ∧ Below w.heap.size w w') ⟨R, d2, hbel.drew⟩ ?_
      all_goals refine Calm.sp ?_
      all_goals refine Calm.ce (v := .int .i64 x.i) (ad := ⟨wr.heap.size, 2, none⟩) (fun _ h => h.1.cell 2) ?_
      iterate 9 (all_goals refine Calm.sp ?_)
      all_goals first | refine Calm.sk ?_ | refine Calm.lm zy (fun _ h => h.2.1) Tryz.underlying50 ?_ | refine Calm.lm zm (fun _ h => Rw.whole h.1) Tryz.underlying50 ?_
      all_goals first | refine Calm.sk ?_ | refine Calm.lm zy (fun _ h => h.2.1) Tryz.underlying50 ?_ | refine Calm.lm zm (fun _ h => Rw.whole h.1) Tryz.underlying50 ?_
      all_goals first | refine Calm.sk ?_ | refine Calm.k2 hs (fun w1 h => C2 w1) ?_
      iterate 3 (all_goals refine Calm.sp ?_)
      all_goals
       rintro w9 ⟨_, _, hbel9⟩
      go_wp2_with fail
      go_roundw
      case rel => exact ⟨m + 1 + 1, by simp, by omega, HV2, hbel9⟩
      case measure => simp [intOf]; omega
  ·have hlt' : ¬ (k : Int) < (l.length : Int) := by omega
   have e := HZ.out
   rw [(ca_iff l).2 (fun i h => HV.out i h (by omega))] at e
   subst e
   clear HZ HV HR
   go_wp2_with fail
   go_ret
   exact ⟨rfl, hbel⟩
theorem isPeer_not (p : Int) (w : World) (hp : ¬ (1 ≤ p ∧ p ≤ 12)) :
  Calls Tryz.prog 159 #[.int .i64 p] w fun e w' => e = .returned (.bool false) ∧ Below w.heap.size w w' := by
 by_cases h : 1 ≤ p
 ·have h2 : ¬ p ≤ 12 := by omega
  go_enter Tryz.func159, Tryz.ntmps159
  go_wp2
  go_ret
  exact ⟨by simp, Below.refl _ _⟩
 ·go_enter Tryz.func159, Tryz.ntmps159
  go_wp2
  go_ret
  exact ⟨by simp, Below.refl _ _⟩
theorem isPeer_yes (n : Nat) (w : World) (h1 : 1 ≤ n) (h2 : n ≤ 12) :
  Calls Tryz.prog 159 #[.int .i64 n] w fun e w' => e = .returned (.bool true) ∧ Below w.heap.size w w' := by
 have h3 : (1 : Int) ≤ (n : Int) := by omega
 have h4 : (n : Int) ≤ 12 := by omega
 go_enter Tryz.func159, Tryz.ntmps159
 go_wp2
 go_ret
 exact ⟨by simp, Below.refl _ _⟩
theorem dot_cell0 (w : World) {b : Nat} (hb : b = w.heap.size) (p s : Int) : (w.alloc (.cells #[.int .i64 p, .int .i64 s] 29)).cell? ⟨b, 0, none⟩ = some (.int .i64 p) := by
 subst hb
 rw [cell_of_row _ _ 0 _ 29 (0, 0) (heap_alloc_last w _)]
 rfl
theorem dot_cell1 (w : World) {b : Nat} (hb : b = w.heap.size) (p s : Int) : (w.alloc (.cells #[.int .i64 p, .int .i64 s] 29)).cell? ⟨b, 1, none⟩ = some (.int .i64 s) := by
 subst hb
 rw [cell_of_row _ _ 1 _ 29 (0, 0) (heap_alloc_last w _)]
 rfl
theorem has_not (v : List Int) (p s : Int) (w : World) (hp : ¬ (1 ≤ p ∧ p ≤ 12)) :
  Calls Tryz.prog 142 #[V v, D p s] w fun e w' => e = .returned (.bool false) ∧ Below w.heap.size w w' := by
 have hC28 := fun w1 => isPeer_not p w1 hp
 go_enter Tryz.func142, Tryz.ntmps142
 go_wp2
 obtain ⟨w0, hw0⟩ : ∃ w0, w0 = (w.alloc (.cells (vals v).toArray 31)).alloc (.cells #[.int .i64 p, .int .i64 s] 29) := ⟨_, rfl⟩
 have g1 : w0.cell? ⟨w.heap.size + 1, 0, none⟩ = some (.int .i64 p) := by rw [hw0]; exact dot_cell0 _ (by simp) p s
 have g2 : w0.cell? ⟨w.heap.size + 1, 1, none⟩ = some (.int .i64 s) := by rw [hw0]; exact dot_cell1 _ (by simp) p s
 have hbel : Below w.heap.size w w0 := by rw [hw0]; exact ((Below.refl _ _).alloc (Nat.le_refl _) _).alloc (by simp) _
 have hs : Calm.Stays (fun w' => w'.cell? ⟨w.heap.size + 1, 0, none⟩ = some (.int .i64 p) ∧ w'.cell? ⟨w.heap.size + 1, 1, none⟩ = some (.int .i64 s) ∧ Below w.heap.size w w') := fun w1 w2 h hb => ⟨cell_later hb h.1, cell_later hb h.2.1, below_on h.2.2 hb⟩
 rw [← hw0]
 clear hw0
 refine Calm.region (by kernel_rfl) (by kernel_rfl) (fun w' => w'.cell? ⟨w.heap.size + 1, 0, none⟩ = some (.int .i64 p) ∧ w'.cell? ⟨w.heap.size + 1, 1, none⟩ = some (.int .i64 s) ∧ Below w.heap.size w w') ⟨g1, g2, hbel.drew⟩ ?_
 clear g1 g2 hbel
 iterate 2 (all_goals refine Calm.sp ?_)
 all_goals refine Calm.k1 hs (fun w _ => hC28 w) ?_
 iterate 15 (all_goals refine Calm.sp ?_)
 rintro w9 ⟨_, _, hbel9⟩
 go_wp2
 go_ret
 exact ⟨rfl, hbel9⟩
theorem has_peer (v : List Int) (n : Nat) (s : Int) (w : World) (hv : v.length = 13) (hn1 : 1 ≤ n) (hn2 : n ≤ 12) :
  Calls Tryz.prog 142 #[V v, D n s] w fun e w' => e = .returned (.bool (decide (1 ≤ s) && decide (s ≤ v.getD n 0))) ∧ Below w.heap.size w w' := by
 have hC28 := fun w1 => isPeer_yes n w1 hn1 hn2
 obtain ⟨x, HX⟩ : ∃ x, Hid (v.getD n 0 = x) := ⟨_, rfl⟩
 rw [HX.out]
 have hat := at_new w v hv
 go_enter Tryz.func142, Tryz.ntmps142
 go_wp2
 obtain ⟨w0, hw0⟩ : ∃ w0, w0 = (w.alloc (.cells (vals v).toArray 31)).alloc (.cells #[.int .i64 n, .int .i64 s] 29) := ⟨_, rfl⟩
 have g1 : w0.cell? ⟨w.heap.size + 1, 0, none⟩ = some (.int .i64 n) := by rw [hw0]; exact dot_cell0 _ (by simp) n s
 have g2 : w0.cell? ⟨w.heap.size + 1, 1, none⟩ = some (.int .i64 s) := by rw [hw0]; exact dot_cell1 _ (by simp) n s
 have g3 : w0.cell? ⟨w.heap.size, n, none⟩ = some (.int .i64 x) := by
  rw [hw0, ← HX.out]
  exact (hat.alloc _).cell (by omega)
 have hbel : Below w.heap.size w w0 := by rw [hw0]; exact ((Below.refl _ _).alloc (Nat.le_refl _) _).alloc (by simp) _
 have hs : Calm.Stays (fun w' => w'.cell? ⟨w.heap.size + 1, 0, none⟩ = some (.int .i64 n) ∧ w'.cell? ⟨w.heap.size + 1, 1, none⟩ = some (.int .i64 s) ∧ w'.cell? ⟨w.heap.size, n, none⟩ = some (.int .i64 x) ∧ Below w.heap.size w w') := fun w1 w2 h hb => ⟨cell_later hb h.1, cell_later hb h.2.1, cell_later hb h.2.2.1, below_on h.2.2.2 hb⟩
 rw [← hw0]
 clear hw0 hat
 refine Calm.region (by kernel_rfl) (by kernel_rfl) (fun w' => w'.cell? ⟨w.heap.size + 1, 0, none⟩ = some (.int .i64 n) ∧ w'.cell? ⟨w.heap.size + 1, 1, none⟩ = some (.int .i64 s) ∧ w'.cell? ⟨w.heap.size, n, none⟩ = some (.int .i64 x) ∧ Below w.heap.size w w') ⟨g1, g2, g3, hbel.drew⟩ ?_
 clear g1 g2 g3 hbel
 have hi1 : (0 : Int) ≤ (n : Int) := by omega
 have hi2 : (n : Int) < 13 := by omega
 by_cases hs1 : 1 ≤ s <;> by_cases hs2 : s ≤ x
 all_goals
  iterate 2 (all_goals refine Calm.sp ?_)
  all_goals refine Calm.k1 hs (fun w _ => hC28 w) ?_
  iterate 15 (all_goals refine Calm.sp ?_)
  rintro w9 ⟨_, _, _, hbel9⟩
  go_wp2
  go_ret
  refine ⟨?_, hbel9⟩
  first
   | (simp [*]; done)
   | (simp [*]; omega)
theorem refPeer_not (p : Int) (w : World) (hp : ¬ (1 ≤ p ∧ p ≤ 12)) :
  Calls Tryz.prog 102 #[.int .i64 p] w fun e w' => e = .returned (.bool false) ∧ Below w.heap.size w w' := by
 by_cases h : 1 ≤ p
 ·have h2 : ¬ p ≤ 12 := by omega
  go_enter Tryz.func102, Tryz.ntmps102
  go_wp2
  go_ret
  exact ⟨by simp, Below.refl _ _⟩
 ·go_enter Tryz.func102, Tryz.ntmps102
  go_wp2
  go_ret
  exact ⟨by simp, Below.refl _ _⟩
theorem refPeer_yes (n : Nat) (w : World) (h1 : 1 ≤ n) (h2 : n ≤ 12) :
  Calls Tryz.prog 102 #[.int .i64 n] w fun e w' => e = .returned (.bool true) ∧ Below w.heap.size w w' := by
 have h3 : (1 : Int) ≤ (n : Int) := by omega
 have h4 : (n : Int) ≤ 12 := by omega
 go_enter Tryz.func102, Tryz.ntmps102
 go_wp2
 go_ret
 exact ⟨by simp, Below.refl _ _⟩
theorem refHas_not (v : List Int) (p s : Int) (w : World) (hp : ¬ (1 ≤ p ∧ p ≤ 12)) :
  Calls Tryz.prog 61 #[V v, D p s] w fun e w' => e = .returned (.bool false) ∧ Below w.heap.size w w' := by
 have hC28 := fun w1 => refPeer_not p w1 hp
 go_enter Tryz.func61, Tryz.ntmps61
 go_wp2
 obtain ⟨w0, hw0⟩ : ∃ w0, w0 = (w.alloc (.cells (vals v).toArray 31)).alloc (.cells #[.int .i64 p, .int .i64 s] 29) := ⟨_, rfl⟩
 have g1 : w0.cell? ⟨w.heap.size + 1, 0, none⟩ = some (.int .i64 p) := by rw [hw0]; exact dot_cell0 _ (by simp) p s
 have g2 : w0.cell? ⟨w.heap.size + 1, 1, none⟩ = some (.int .i64 s) := by rw [hw0]; exact dot_cell1 _ (by simp) p s
 have hbel : Below w.heap.size w w0 := by rw [hw0]; exact ((Below.refl _ _).alloc (Nat.le_refl _) _).alloc (by simp) _
 have hs : Calm.Stays (fun w' => w'.cell? ⟨w.heap.size + 1, 0, none⟩ = some (.int .i64 p) ∧ w'.cell? ⟨w.heap.size + 1, 1, none⟩ = some (.int .i64 s) ∧ Below w.heap.size w w') := fun w1 w2 h hb => ⟨cell_later hb h.1, cell_later hb h.2.1, below_on h.2.2 hb⟩
 rw [← hw0]
 clear hw0
 refine Calm.region (by kernel_rfl) (by kernel_rfl) (fun w' => w'.cell? ⟨w.heap.size + 1, 0, none⟩ = some (.int .i64 p) ∧ w'.cell? ⟨w.heap.size + 1, 1, none⟩ = some (.int .i64 s) ∧ Below w.heap.size w w') ⟨g1, g2, hbel.drew⟩ ?_
 clear g1 g2 hbel
 iterate 2 (all_goals refine Calm.sp ?_)
 all_goals refine Calm.k1 hs (fun w _ => hC28 w) ?_
 iterate 15 (all_goals refine Calm.sp ?_)
 rintro w9 ⟨_, _, hbel9⟩
 go_wp2
 go_ret
 exact ⟨rfl, hbel9⟩
theorem refHas_peer (v : List Int) (n : Nat) (s : Int) (w : World) (hv : v.length = 13) (hn1 : 1 ≤ n) (hn2 : n ≤ 12) :
  Calls Tryz.prog 61 #[V v, D n s] w fun e w' => e = .returned (.bool (decide (1 ≤ s) && decide (s ≤ v.getD n 0))) ∧ Below w.heap.size w w' := by
 have hC28 := fun w1 => refPeer_yes n w1 hn1 hn2
 obtain ⟨x, HX⟩ : ∃ x, Hid (v.getD n 0 = x) := ⟨_, rfl⟩
 rw [HX.out]
 have hat := at_new w v hv
 go_enter Tryz.func61, Tryz.ntmps61
 go_wp2
 obtain ⟨w0, hw0⟩ : ∃ w0, w0 = (w.alloc (.cells (vals v).toArray 31)).alloc (.cells #[.int .i64 n, .int .i64 s] 29) := ⟨_, rfl⟩
 have g1 : w0.cell? ⟨w.heap.size + 1, 0, none⟩ = some (.int .i64 n) := by rw [hw0]; exact dot_cell0 _ (by simp) n s
 have g2 : w0.cell? ⟨w.heap.size + 1, 1, none⟩ = some (.int .i64 s) := by rw [hw0]; exact dot_cell1 _ (by simp) n s
 have g3 : w0.cell? ⟨w.heap.size, n, none⟩ = some (.int .i64 x) := by
  rw [hw0, ← HX.out]
  exact (hat.alloc _).cell (by omega)
 have hbel : Below w.heap.size w w0 := by rw [hw0]; exact ((Below.refl _ _).alloc (Nat.le_refl _) _).alloc (by simp) _
 have hs : Calm.Stays (fun w' => w'.cell? ⟨w.heap.size + 1, 0, none⟩ = some (.int .i64 n) ∧ w'.cell? ⟨w.heap.size + 1, 1, none⟩ = some (.int .i64 s) ∧ w'.cell? ⟨w.heap.size, n, none⟩ = some (.int .i64 x) ∧ Below w.heap.size w w') := fun w1 w2 h hb => ⟨cell_later hb h.1, cell_later hb h.2.1, cell_later hb h.2.2.1, below_on h.2.2.2 hb⟩
 rw [← hw0]
 clear hw0 hat
 refine Calm.region (by kernel_rfl) (by kernel_rfl) (fun w' => w'.cell? ⟨w.heap.size + 1, 0, none⟩ = some (.int .i64 n) ∧ w'.cell? ⟨w.heap.size + 1, 1, none⟩ = some (.int .i64 s) ∧ w'.cell? ⟨w.heap.size, n, none⟩ = some (.int .i64 x) ∧ Below w.heap.size w w') ⟨g1, g2, g3, hbel.drew⟩ ?_
 clear g1 g2 g3 hbel
 have hi1 : (0 : Int) ≤ (n : Int) := by omega
 have hi2 : (n : Int) < 13 := by omega
 by_cases hs1 : 1 ≤ s <;> by_cases hs2 : s ≤ x
 all_goals
  iterate 2 (all_goals refine Calm.sp ?_)
  all_goals refine Calm.k1 hs (fun w _ => hC28 w) ?_
  iterate 15 (all_goals refine Calm.sp ?_)
  rintro w9 ⟨_, _, _, hbel9⟩
  go_wp2
  go_ret
  refine ⟨?_, hbel9⟩
  first
   | (simp [*]; done)
   | (simp [*]; omega)
def hs (v : List Int) (p s : Int) : Bool := wi p 1 12 && (decide (1 ≤ s) && decide (s ≤ v.getD p.toNat 0))
theorem has_any (v : List Int) (p s : Int) (w : World) (hv : v.length = 13) : Calls Tryz.prog 142 #[V v, D p s] w (Tells (.bool (hs v p s)) w) := by
 by_cases hp : 1 ≤ p ∧ p ≤ 12
 ·obtain ⟨n, rfl⟩ : ∃ n : Nat, p = n := ⟨p.toNat, by omega⟩
  refine (has_peer v n s w hv (by omega) (by omega)).mono fun e w' ⟨he, hb⟩ => ⟨?_, hb⟩
  rw [he]
  unfold hs wi
  rw [decide_eq_true hp.1, decide_eq_true hp.2]
  simp
 ·refine (has_not v p s w hp).mono fun e w' ⟨he, hb⟩ => ⟨?_, hb⟩
  rw [he]
  have : wi p 1 12 = false := by unfold wi; grind
  unfold hs
  rw [this]
  rfl
theorem refHas_any (v : List Int) (p s : Int) (w : World) (hv : v.length = 13) : Calls Tryz.prog 61 #[V v, D p s] w (Tells (.bool (hs v p s)) w) := by
 by_cases hp : 1 ≤ p ∧ p ≤ 12
 ·obtain ⟨n, rfl⟩ : ∃ n : Nat, p = n := ⟨p.toNat, by omega⟩
  refine (refHas_peer v n s w hv (by omega) (by omega)).mono fun e w' ⟨he, hb⟩ => ⟨?_, hb⟩
  rw [he]
  unfold hs wi
  rw [decide_eq_true hp.1, decide_eq_true hp.2]
  simp
 ·refine (refHas_not v p s w hp).mono fun e w' ⟨he, hb⟩ => ⟨?_, hb⟩
  rw [he]
  have : wi p 1 12 = false := by unfold wi; grind
  unfold hs
  rw [this]
  rfl
def bf (p s i : Int) (q u : Int) (v : List Int) (idx : Int) : Bool := decide (1 ≤ i) && (((decide (p = q) && decide (s = u)) && decide (i < idx)) || hs v p s)
theorem info31 {v : List Int} (h : v.length = 13) : (Tryz.prog.info? 31).map (·.size) = some (vals v).length := by rw [vals_length, h]; exact size31
theorem two_rows (w : World) (c1 : Array Value) (t1 : TypeId) (c2 : Array Value) (t2 : TypeId) : Rw ((w.alloc (.cells c1 t1)).alloc (.cells c2 t2)) w.heap.size t1 c1 ∧ Rw ((w.alloc (.cells c1 t1)).alloc (.cells c2 t2)) (w.heap.size + 1) t2 c2 ∧ Below w.heap.size w ((w.alloc (.cells c1 t1)).alloc (.cells c2 t2)) :=
 ⟨(rw_new w t1 c1).alloc _, rw_next _ (by simp) t2 c2, bel_alloc (bel_alloc (Below.refl _ _) _) _⟩
theorem before_any (p s i : Int) (q u : Int) (v : List Int) (t : Int) (sl : Value) (idx : Int) (w : World) (hv : v.length = 13) : Calls Tryz.prog 116 #[MV p s i, TxV q u v t sl, .int .i64 idx] w (Tells (.bool (bf p s i q u v idx)) w) := by
 unfold bf
 have E := fun w => eq_dot w p s q u
 generalize (decide (p = q) && decide (s = u)) = x at E ⊢
 have C := fun w => has_any v p s w hv
 generalize hs v p s = y at C ⊢
 obtain ⟨R0, R1, hbel⟩ := two_rows w #[.int .i64 p, .int .i64 s, .int .i64 i] 50 (txc q u v t sl).toArray 34
 have z3 := info31 hv
 have c0 : ((w.alloc (.cells #[.int .i64 p, .int .i64 s, .int .i64 i] 50)).alloc (.cells (txc q u v t sl).toArray 34)).cell? ⟨w.heap.size, 0, none⟩ = some (.int .i64 p) := R0.cell 0
 have c1 : ((w.alloc (.cells #[.int .i64 p, .int .i64 s, .int .i64 i] 50)).alloc (.cells (txc q u v t sl).toArray 34)).cell? ⟨w.heap.size, 1, none⟩ = some (.int .i64 s) := R0.cell 1
 have c2 : ((w.alloc (.cells #[.int .i64 p, .int .i64 s, .int .i64 i] 50)).alloc (.cells (txc q u v t sl).toArray 34)).cell? ⟨w.heap.size, 2, none⟩ = some (.int .i64 i) := R0.cell 2
 have d0 := tx_p R1
 have d1 := tx_s R1
 generalize hW : (w.alloc (.cells #[.int .i64 p, .int .i64 s, .int .i64 i] 50)).alloc (.cells (txc q u v t sl).toArray 34) = w0 at R1 hbel c0 c1 c2 d0 d1
 clear R0
 cases x
 ·by_cases hi : 1 ≤ i
  ·go_enter Tryz.func116, Tryz.ntmps116
   go_wp2_with (first | refine load_m 31 _ rfl rfl _ _ rfl (tx_vec R1) Tryz.underlying31 rfl z3 ?_)
   refine (C _).mono ?_
   rintro e w1 ⟨rfl, hb1⟩
   replace hbel := below_on hbel hb1
   clear hb1
   go_wp2_with fail
   go_ret
   refine tells_bool ?_ hbel
   clear R1 hbel c0 c1 c2 d0 d1 hW C
   first | rfl | (simp_all; done) | grind
  ·go_enter Tryz.func116, Tryz.ntmps116
   go_wp2_with fail
   go_ret
   refine tells_bool ?_ hbel
   clear R1 hbel c0 c1 c2 d0 d1 hW C
   first | rfl | (simp_all; done) | grind
 ·by_cases hj : i < idx
  ·by_cases hi : 1 ≤ i
   ·go_enter Tryz.func116, Tryz.ntmps116
    go_wp2_with fail
    go_ret
    refine tells_bool ?_ hbel
    clear R1 hbel c0 c1 c2 d0 d1 hW C
    first | rfl | (simp_all; done) | grind
   ·go_enter Tryz.func116, Tryz.ntmps116
    go_wp2_with fail
    go_ret
    refine tells_bool ?_ hbel
    clear R1 hbel c0 c1 c2 d0 d1 hW C
    first | rfl | (simp_all; done) | grind
  ·by_cases hi : 1 ≤ i
   ·go_enter Tryz.func116, Tryz.ntmps116
    go_wp2_with (first | refine load_m 31 _ rfl rfl _ _ rfl (tx_vec R1) Tryz.underlying31 rfl z3 ?_)
    refine (C _).mono ?_
    rintro e w1 ⟨rfl, hb1⟩
    replace hbel := below_on hbel hb1
    clear hb1
    go_wp2_with fail
    go_ret
    refine tells_bool ?_ hbel
    clear R1 hbel c0 c1 c2 d0 d1 hW C
    first | rfl | (simp_all; done) | grind
   ·go_enter Tryz.func116, Tryz.ntmps116
    go_wp2_with fail
    go_ret
    refine tells_bool ?_ hbel
    clear R1 hbel c0 c1 c2 d0 d1 hW C
    first | rfl | (simp_all; done) | grind
theorem refBefore_any (p s i : Int) (q u : Int) (v : List Int) (t : Int) (sl : Value) (idx : Int) (w : World) (hv : v.length = 13) : Calls Tryz.prog 27 #[MV p s i, TxV q u v t sl, .int .i64 idx] w (Tells (.bool (bf p s i q u v idx)) w) := by
 unfold bf
 have E := fun w => eq_dot w p s q u
 generalize (decide (p = q) && decide (s = u)) = x at E ⊢
 have C := fun w => refHas_any v p s w hv
 generalize hs v p s = y at C ⊢
 obtain ⟨R0, R1, hbel⟩ := two_rows w #[.int .i64 p, .int .i64 s, .int .i64 i] 50 (txc q u v t sl).toArray 34
 have z3 := info31 hv
 have c0 : ((w.alloc (.cells #[.int .i64 p, .int .i64 s, .int .i64 i] 50)).alloc (.cells (txc q u v t sl).toArray 34)).cell? ⟨w.heap.size, 0, none⟩ = some (.int .i64 p) := R0.cell 0
 have c1 : ((w.alloc (.cells #[.int .i64 p, .int .i64 s, .int .i64 i] 50)).alloc (.cells (txc q u v t sl).toArray 34)).cell? ⟨w.heap.size, 1, none⟩ = some (.int .i64 s) := R0.cell 1
 have c2 : ((w.alloc (.cells #[.int .i64 p, .int .i64 s, .int .i64 i] 50)).alloc (.cells (txc q u v t sl).toArray 34)).cell? ⟨w.heap.size, 2, none⟩ = some (.int .i64 i) := R0.cell 2
 have d0 := tx_p R1
 have d1 := tx_s R1
 generalize hW : (w.alloc (.cells #[.int .i64 p, .int .i64 s, .int .i64 i] 50)).alloc (.cells (txc q u v t sl).toArray 34) = w0 at R1 hbel c0 c1 c2 d0 d1
 clear R0
 cases x
 ·by_cases hi : 1 ≤ i
  ·go_enter Tryz.func27, Tryz.ntmps27
   go_wp2_with (first | refine load_m 31 _ rfl rfl _ _ rfl (tx_vec R1) Tryz.underlying31 rfl z3 ?_)
   refine (C _).mono ?_
   rintro e w1 ⟨rfl, hb1⟩
   replace hbel := below_on hbel hb1
   clear hb1
   go_wp2_with fail
   go_ret
   refine tells_bool ?_ hbel
   clear R1 hbel c0 c1 c2 d0 d1 hW C
   first | rfl | (simp_all; done) | grind
  ·go_enter Tryz.func27, Tryz.ntmps27
   go_wp2_with fail
   go_ret
   refine tells_bool ?_ hbel
   clear R1 hbel c0 c1 c2 d0 d1 hW C
   first | rfl | (simp_all; done) | grind
 ·by_cases hj : i < idx
  ·by_cases hi : 1 ≤ i
   ·go_enter Tryz.func27, Tryz.ntmps27
    go_wp2_with fail
    go_ret
    refine tells_bool ?_ hbel
    clear R1 hbel c0 c1 c2 d0 d1 hW C
    first | rfl | (simp_all; done) | grind
   ·go_enter Tryz.func27, Tryz.ntmps27
    go_wp2_with fail
    go_ret
    refine tells_bool ?_ hbel
    clear R1 hbel c0 c1 c2 d0 d1 hW C
    first | rfl | (simp_all; done) | grind
  ·by_cases hi : 1 ≤ i
   ·go_enter Tryz.func27, Tryz.ntmps27
    go_wp2_with (first | refine load_m 31 _ rfl rfl _ _ rfl (tx_vec R1) Tryz.underlying31 rfl z3 ?_)
    refine (C _).mono ?_
    rintro e w1 ⟨rfl, hb1⟩
    replace hbel := below_on hbel hb1
    clear hb1
    go_wp2_with fail
    go_ret
    refine tells_bool ?_ hbel
    clear R1 hbel c0 c1 c2 d0 d1 hW C
    first | rfl | (simp_all; done) | grind
   ·go_enter Tryz.func27, Tryz.ntmps27
    go_wp2_with fail
    go_ret
    refine tells_bool ?_ hbel
    clear R1 hbel c0 c1 c2 d0 d1 hW C
    first | rfl | (simp_all; done) | grind
end Go.Proofs.YtjbbmcommnhgeaaGreat
namespace Go.Proofs.YtjbbmcommnhgeaaGreat
def it (f : Nat → Nat) : Nat → Nat → Nat
 | 0, k => k
 | j + 1, k => it f j (f k)
variable {f : Nat → Nat} {n : Nat}
theorem it_add (a : Nat) : ∀ (b k : Nat), it f (b + a) k = it f a (it f b k)
 | 0, k => by rw [Nat.zero_add]; rfl
 | b + 1, k => by rw [Nat.add_right_comm]; exact it_add a b (f k)
theorem it_succ (j k : Nat) : it f (j + 1) k = f (it f j k) := it_add 1 j k
theorem it_zero (h : f 0 = 0) : ∀ j, it f j 0 = 0
 | 0 => rfl
 | j + 1 => by show it f j (f 0) = 0; rw [h]; exact it_zero h j
theorem it_le (hf : ∀ k, k ≤ n → f k ≤ n) : ∀ (j : Nat) {k : Nat}, k ≤ n → it f j k ≤ n
 | 0, _, h => h
 | j + 1, _, h => it_le hf j (hf _ h)
def rt (f : Nat → Nat) (k : Nat) : Prop := ∃ j, it f j k = 0
theorem rt_zero : rt f 0 := ⟨0, rfl⟩
theorem rt_up {k : Nat} (h : rt f (f k)) : rt f k := by
 obtain ⟨j, hj⟩ := h
 exact ⟨j + 1, hj⟩
theorem rt_down {k : Nat} (h0 : f 0 = 0) (h : rt f k) : rt f (f k) := by
 obtain ⟨j, hj⟩ := h
 refine ⟨j, ?_⟩
 have := it_succ (f := f) j k
 rw [hj, h0] at this
 exact this
theorem rt_it {k : Nat} : ∀ (j : Nat), rt f (it f j k) → rt f k
 | 0, h => h
 | j + 1, h => rt_it j (rt_up (by rw [it_succ] at h; exact h))
theorem ring_not {k i j : Nat} (hij : i < j) (h : ∀ m, m < j → it f m k ≠ 0) (e : it f j k = it f i k) : ∀ m, it f m k ≠ 0 := by
 intro m
 induction m using Nat.strongRecOn with
 | ind m ih =>
  rcases Nat.lt_or_ge m j with hm | hm
  ·exact h m hm
  ·have e1 : it f m k = it f (m - j) (it f j k) := by
    rw [← it_add]
    congr 1
    omega
   rw [e1, e, ← it_add]
   exact ih _ (by omega)
theorem filter_ne_len (l : List Nat) (h : l.Nodup) (a : Nat) : l.length ≤ (l.filter (fun x => decide (x ≠ a))).length + 1 := by
 induction l with
 | nil => simp
 | cons x t ih =>
  rw [List.nodup_cons] at h
  by_cases hx : x = a
  ·subst hx
   have e : t.filter (fun y => decide (y ≠ x)) = t := List.filter_eq_self.2 (fun y hy => decide_eq_true (fun e => h.1 (e ▸ hy)))
   rw [List.filter_cons]
   simp only [ne_eq, not_true_eq_false, decide_false, Bool.false_eq_true, if_false, List.length_cons]
   simp only [ne_eq] at e
   rw [e]
   exact Nat.le_refl _
  ·have := ih h.2
   simp only [List.filter_cons, hx, ne_eq, not_false_eq_true, decide_true, if_true, List.length_cons]
   simp only [ne_eq] at this
   omega
theorem nodup_len : ∀ (n : Nat) (l : List Nat), l.Nodup → (∀ x ∈ l, x < n) → l.length ≤ n
 | 0, l, _, h => by
  cases l with
  | nil => simp
  | cons x t => exact absurd (h x (by simp)) (by omega)
 | n + 1, l, hn, h => by
  have h1 := filter_ne_len l hn n
  have h2 := nodup_len n (l.filter (fun x => decide (x ≠ n))) (hn.sublist List.filter_sublist) (fun x hx => by
   rw [List.mem_filter] at hx
   have := h x hx.1
   have := of_decide_eq_true hx.2
   omega)
  omega
theorem hole (n : Nat) (g : Nat → Nat) (h : ∀ i, i ≤ n → g i < n) : ∃ i j, i < j ∧ j ≤ n ∧ g i = g j := by
 apply Classical.byContradiction
 intro hc
 have hn : ((List.range (n + 1)).map g).Nodup := by
  rw [List.Nodup, List.pairwise_map]
  refine (List.pairwise_lt_range).imp_of_mem ?_
  intro a b ha hb hab e
  rw [List.mem_range] at ha hb
  exact hc ⟨a, b, hab, by omega, e⟩
 have := nodup_len n _ hn (fun x hx => by
  rw [List.mem_map] at hx
  obtain ⟨i, hi, rfl⟩ := hx
  rw [List.mem_range] at hi
  exact h i (by omega))
 simp at this
 omega
theorem rt_soon (hf : ∀ k, k ≤ n → f k ≤ n) {k : Nat} (hk : k ≤ n) (h : rt f k) : ∃ j, j ≤ n ∧ it f j k = 0 := by
 obtain ⟨j, hj⟩ := h
 induction j using Nat.strongRecOn with
 | ind j ih =>
  rcases Nat.lt_or_ge n j with hn | hn
  ·by_cases hz : ∃ i, i < j ∧ it f i k = 0
   ·obtain ⟨i, hi, h0⟩ := hz
    exact ih i hi h0
   ·have hnz : ∀ i, i < j → it f i k ≠ 0 := fun i hi h0 => hz ⟨i, hi, h0⟩
    obtain ⟨a, b, hab, hb, e⟩ := hole n (fun i => it f i k - 1) (fun i hi => by
     have := it_le hf i hk
     have := hnz i (by omega)
     omega)
    have e' : it f b k = it f a k := by
     have := hnz a (by omega)
     have := hnz b (by omega)
     omega
    exact absurd hj (ring_not hab (fun m hm => hnz m (by omega)) e' j)
  ·exact ⟨j, hn, hj⟩
def dp (f : Nat → Nat) : Nat → Nat → Nat
 | 0, _ => 0
 | m + 1, k => if k = 0 then 0 else dp f m (f k) + 1
theorem dp_eq : ∀ (m m' j k : Nat), it f j k = 0 → j ≤ m → j ≤ m' → f 0 = 0 → dp f m k = dp f m' k
 | 0, 0, _, _, _, _, _, _ => rfl
 | 0, m' + 1, j, k, h, h1, _, _ => by
  obtain rfl : j = 0 := by omega
  have : k = 0 := h
  simp [dp, this]
 | m + 1, 0, j, k, h, _, h1, _ => by
  obtain rfl : j = 0 := by omega
  have : k = 0 := h
  simp [dp, this]
 | m + 1, m' + 1, j, k, h, h1, h2, h0 => by
  unfold dp
  split
  ·rfl
  ·rename_i hk
   cases j with
   | zero => exact absurd h hk
   | succ j => rw [dp_eq m m' j (f k) h (by omega) (by omega) h0]
theorem dp_up (hf : ∀ k, k ≤ n → f k ≤ n) (h0 : f 0 = 0) {k : Nat} (hk : k ≤ n) (hk0 : k ≠ 0) (h : rt f k) : dp f n k = dp f n (f k) + 1 := by
 obtain ⟨j, hj, e⟩ := rt_soon hf hk h
 rw [dp_eq n (n + 1) j k e hj (by omega) h0]
 simp [dp, hk0]
theorem dp_le (f : Nat → Nat) : ∀ (m k : Nat), dp f m k ≤ m
 | 0, _ => Nat.le_refl _
 | m + 1, k => by
  unfold dp
  split
  ·omega
  ·have := dp_le f m (f k)
   omega
section Sorts
variable {E : Type} (ah : E → E → Bool)
def insS (x : E) : List E → List E
 | [] => [x]
 | y :: t => if ah x y = true then x :: y :: t else y :: insS x t
def srt (l : List E) : List E := l.foldl (fun a x => insS ah x a) []
theorem insS_perm (x : E) : ∀ l : List E, (insS ah x l).Perm (x :: l)
 | [] => List.Perm.refl _
 | y :: t => by
  unfold insS
  split
  ·exact List.Perm.refl _
  ·exact ((insS_perm x t).cons y).trans (List.Perm.swap x y t)
theorem srtA_perm : ∀ (l a : List E), (l.foldl (fun a x => insS ah x a) a).Perm (a ++ l)
 | [], a => by simp
 | x :: t, a => by
  refine (srtA_perm t _).trans ?_
  refine ((insS_perm ah x a).append_right t).trans ?_
  rw [List.cons_append]
  exact List.perm_middle.symm
theorem srt_perm (l : List E) : (srt ah l).Perm l := by
 have := srtA_perm ah l []
 rwa [List.nil_append] at this
structure Tot (l : List E) : Prop where
 irr : ∀ a ∈ l, ah a a = false
 trans : ∀ a ∈ l, ∀ b ∈ l, ∀ c ∈ l, ah a b = true → ah b c = true → ah a c = true
 tot : ∀ a ∈ l, ∀ b ∈ l, a ≠ b → ah a b = true ∨ ah b a = true
variable {ah}
theorem Tot.sub {l m : List E} (h : Tot ah l) (hs : ∀ a ∈ m, a ∈ l) : Tot ah m := ⟨fun a ha => h.irr a (hs a ha), fun a ha b hb c hc => h.trans a (hs a ha) b (hs b hb) c (hs c hc), fun a ha b hb => h.tot a (hs a ha) b (hs b hb)⟩
theorem insS_sorted {x : E} : ∀ {l : List E}, Tot ah (x :: l) → x ∉ l → l.Pairwise (fun a b => ah a b = true) → (insS ah x l).Pairwise (fun a b => ah a b = true)
 | [], _, _, _ => by simp [insS]
 | y :: t, h, hx, hp => by
  rw [List.pairwise_cons] at hp
  unfold insS
  split
  ·rename_i hxy
   rw [List.pairwise_cons]
   refine ⟨fun b hb => ?_, List.pairwise_cons.2 hp⟩
   rcases List.mem_cons.1 hb with rfl | hb
   ·exact hxy
   ·exact h.trans x (by simp) y (by simp) b (by simp [hb]) hxy (hp.1 b hb)
  ·rename_i hxy
   rw [List.pairwise_cons]
   have hne : x ≠ y := fun e => hx (by simp [e])
   refine ⟨fun b hb => ?_, insS_sorted (h.sub (by intro a ha; simp at ha ⊢; rcases ha with rfl | ha; exact Or.inl rfl; exact Or.inr (Or.inr ha))) (fun hm => hx (by simp [hm])) hp.2⟩
   have hb' := (insS_perm ah x t).mem_iff.1 hb
   rcases List.mem_cons.1 hb' with rfl | hb'
   ·rcases h.tot b (by simp) y (by simp) hne with k | k
    ·exact absurd k hxy
    ·exact k
   ·exact hp.1 b hb'
theorem srtA_sorted : ∀ (l a : List E), Tot ah (a ++ l) → (a ++ l).Nodup → a.Pairwise (fun a b => ah a b = true) → (l.foldl (fun a x => insS ah x a) a).Pairwise (fun a b => ah a b = true)
 | [], a, _, _, h => h
 | x :: t, a, hT, hn, h => by
  have hp : ((insS ah x a) ++ t).Perm (a ++ x :: t) := ((insS_perm ah x a).append_right t).trans (by rw [List.cons_append]; exact List.perm_middle.symm)
  have hx : x ∉ a := fun hm => by
   rw [List.nodup_append] at hn
   exact hn.2.2 x hm x (by simp) rfl
  refine srtA_sorted t (insS ah x a) (hT.sub (fun b hb => hp.mem_iff.1 hb)) (hp.nodup_iff.2 hn) ?_
  exact insS_sorted (hT.sub (by intro b hb; simp at hb ⊢; rcases hb with rfl | hb; exact Or.inr (Or.inl rfl); exact Or.inl hb)) hx h
theorem srt_sorted {l : List E} (hT : Tot ah l) (hn : l.Nodup) : (srt ah l).Pairwise (fun a b => ah a b = true) := srtA_sorted l [] (by simpa using hT) (by simpa using hn) List.Pairwise.nil
theorem sorted_one : ∀ {a b : List E}, Tot ah a → a.Perm b → a.Pairwise (fun a b => ah a b = true) → b.Pairwise (fun a b => ah a b = true) → a = b
 | [], b, _, hp, _, _ => (hp.nil_eq)
 | x :: t, [], _, hp, _, _ => by cases hp.eq_nil
 | x :: t, y :: s, hT, hp, h1, h2 => by
  rw [List.pairwise_cons] at h1 h2
  have hxy : x = y := by
   apply Classical.byContradiction
   intro hne
   have m1 : y ∈ x :: t := hp.mem_iff.2 (by simp)
   have m2 : x ∈ y :: s := hp.mem_iff.1 (by simp)
   rcases List.mem_cons.1 m1 with e | m1
   ·exact hne e.symm
   rcases List.mem_cons.1 m2 with e | m2
   ·exact hne e
   have a1 := h1.1 y m1
   have a2 := h2.1 x m2
   have a3 := hT.trans x (by simp) y (by simp [m1]) x (by simp) a1 a2
   rw [hT.irr x (by simp)] at a3
   cases a3
  subst hxy
  rw [sorted_one (hT.sub (fun a ha => by simp [ha])) (List.perm_cons x |>.1 hp) h1.2 h2.2]
end Sorts
theorem flat_congr {A B : Type} {g h : A → List B} : ∀ {l : List A}, (∀ a ∈ l, g a = h a) → l.flatMap g = l.flatMap h
 | [], _ => rfl
 | a :: t, hh => by rw [List.flatMap_cons, List.flatMap_cons, hh a (by simp), flat_congr (fun b hb => hh b (by simp [hb]))]
def Rk {E K : Type} (mk rf : E → K) (R : K → Nat) (l : List E) : Prop := ∀ e ∈ l, R (mk e) = R (rf e) + 1
theorem Rk.sub {E K : Type} {mk rf : E → K} {R : K → Nat} {l m : List E} (h : Rk mk rf R l) (hs : ∀ a ∈ m, a ∈ l) : Rk mk rf R m := fun e he => h e (hs e he)
section Trees
variable {E K : Type} [DecidableEq K] (mk rf : E → K) (ah : E → E → Bool)
def kids (l : List E) (m : K) : List E := srt ah (l.filter (fun e => decide (rf e = m)))
def ord (l : List E) : Nat → K → List E
 | 0, _ => []
 | f + 1, m => (kids rf ah l m).flatMap (fun c => c :: ord l f (mk c))
variable {mk rf ah}
theorem kids_mem {l : List E} {m : K} {e : E} : e ∈ kids rf ah l m ↔ e ∈ l ∧ rf e = m := by
 unfold kids
 rw [(srt_perm ah _).mem_iff, List.mem_filter]
 simp
theorem kids_nodup {l : List E} (hn : l.Nodup) (m : K) : (kids rf ah l m).Nodup := (srt_perm ah _).nodup_iff.2 (hn.sublist List.filter_sublist)
theorem mem_ord {l : List E} : ∀ {f : Nat} {m : K} {e : E}, e ∈ ord mk rf ah l f m ↔ ∃ g, f = g + 1 ∧ ∃ c ∈ l, rf c = m ∧ (e = c ∨ e ∈ ord mk rf ah l g (mk c))
 | 0, m, e => by simp [ord]
 | f + 1, m, e => by
  simp only [ord, List.mem_flatMap, kids_mem, List.mem_cons]
  constructor
  ·rintro ⟨c, ⟨h1, h2⟩, h3⟩
   exact ⟨f, rfl, c, h1, h2, h3⟩
  ·rintro ⟨g, hg, c, h1, h2, h3⟩
   obtain rfl : f = g := by omega
   exact ⟨c, ⟨h1, h2⟩, h3⟩
theorem ord_sub {l : List E} : ∀ {f : Nat} {m : K} {e : E}, e ∈ ord mk rf ah l f m → e ∈ l
 | 0, _, _, h => by simp [ord] at h
 | f + 1, m, e, h => by
  obtain ⟨g, hg, c, h1, h2, h3⟩ := mem_ord.1 h
  obtain rfl : f = g := by omega
  rcases h3 with rfl | h3
  ·exact h1
  ·exact ord_sub h3
theorem ord_rank {R : K → Nat} {l : List E} (hR : Rk mk rf R l) : ∀ {f : Nat} {m : K} {e : E}, e ∈ ord mk rf ah l f m → R m < R (mk e)
 | 0, _, _, h => by simp [ord] at h
 | f + 1, m, e, h => by
  obtain ⟨g, hg, c, h1, h2, h3⟩ := mem_ord.1 h
  obtain rfl : f = g := by omega
  have := hR c h1
  rcases h3 with rfl | h3
  ·rw [h2] at this; omega
  ·have := ord_rank hR h3
   rw [h2] at *
   omega
theorem ord_apart {R : K → Nat} {l : List E} (hR : Rk mk rf R l) (hm : ∀ a ∈ l, ∀ b ∈ l, mk a = mk b → a = b) : ∀ (r : Nat) {f g : Nat} {m k : K} {e : E}, R (mk e) ≤ r → R m = R k → e ∈ ord mk rf ah l f m → e ∈ ord mk rf ah l g k → m = k
 | 0, _, _, _, _, _, hr, _, h1, _ => by
  have := ord_rank hR h1
  omega
 | r + 1, f, g, m, k, e, hr, hk, h1, h2 => by
  -- the last step on the way to e
  have last : ∀ {f : Nat} {m : K}, e ∈ ord mk rf ah l f m → rf e = m ∨ ∃ f' , ∃ p ∈ l, mk p = rf e ∧ p ∈ ord mk rf ah l f' m := by
   intro f
   induction f with
   | zero => intro m h; simp [ord] at h
   | succ f ih =>
    intro m h
    obtain ⟨g, hg, c, h1, h2, h3⟩ := mem_ord.1 h
    obtain rfl : f = g := by omega
    rcases h3 with rfl | h3
    ·exact Or.inl h2
    ·rcases ih h3 with e1 | ⟨f', p, hp, e1, hp2⟩
     ·exact Or.inr ⟨f + 1, c, h1, e1.symm, mem_ord.2 ⟨f, rfl, c, h1, h2, Or.inl rfl⟩⟩
     ·exact Or.inr ⟨f' + 1, p, hp, e1, mem_ord.2 ⟨f', rfl, c, h1, h2, Or.inr hp2⟩⟩
  have he := hR e (ord_sub h1)
  rcases last h1 with e1 | ⟨f1, p, hp, e1, hp2⟩
  ·rcases last h2 with e2 | ⟨f2, q, hq, e2, hq2⟩
   ·exact e1.symm.trans e2
   ·have := ord_rank hR hq2
    rw [e2, e1] at this
    omega
  ·rcases last h2 with e2 | ⟨f2, q, hq, e2, hq2⟩
   ·have := ord_rank hR hp2
    rw [e1, e2] at this
    omega
   ·obtain rfl : p = q := hm p hp q hq (e1.trans e2.symm)
    exact ord_apart hR hm r (by rw [e1]; omega) hk hp2 hq2
theorem flat_nodup {A B : Type} {g : A → List B} : ∀ {l : List A}, l.Nodup → (∀ a ∈ l, (g a).Nodup) → (∀ a ∈ l, ∀ b ∈ l, a ≠ b → ∀ x, x ∈ g a → x ∈ g b → False) → (l.flatMap g).Nodup
 | [], _, _, _ => by simp
 | a :: t, hn, h1, h2 => by
  rw [List.nodup_cons] at hn
  rw [List.flatMap_cons, List.nodup_append]
  refine ⟨h1 a (by simp), flat_nodup hn.2 (fun b hb => h1 b (by simp [hb])) (fun b hb c hc => h2 b (by simp [hb]) c (by simp [hc])), ?_⟩
  rintro x hx y hy rfl
  obtain ⟨b, hb, hy⟩ := List.mem_flatMap.1 hy
  exact h2 a (by simp) b (by simp [hb]) (fun e => hn.1 (e ▸ hb)) x hx hy
theorem ord_nodup {R : K → Nat} {l : List E} (hn : l.Nodup) (hR : Rk mk rf R l) (hm : ∀ a ∈ l, ∀ b ∈ l, mk a = mk b → a = b) : ∀ (f : Nat) (m : K), (ord mk rf ah l f m).Nodup
 | 0, _ => by simp [ord]
 | f + 1, m => by
  unfold ord
  refine flat_nodup (kids_nodup hn m) (fun c hc => ?_) ?_
  ·rw [List.nodup_cons]
   refine ⟨fun h => ?_, ord_nodup hn hR hm f (mk c)⟩
   have := ord_rank hR h
   omega
  ·intro a ha b hb hab x hxa hxb
   rw [kids_mem] at ha hb
   have ra := hR a ha.1
   have rb := hR b hb.1
   rw [ha.2] at ra
   rw [hb.2] at rb
   rcases List.mem_cons.1 hxa with e1 | e1 <;> rcases List.mem_cons.1 hxb with e2 | e2
   ·exact hab (e1.symm.trans e2)
   ·have := ord_rank hR e2
    rw [e1] at this
    omega
   ·have := ord_rank hR e1
    rw [e2] at this
    omega
   ·exact hab (hm a ha.1 b hb.1 (ord_apart hR hm _ (Nat.le_refl _) (ra.trans rb.symm) e1 e2))
def Rooted (mk rf : E → K) (z : K) (l : List E) : Prop := ∀ e ∈ l, rf e = z ∨ ∃ p ∈ l, mk p = rf e
theorem ord_step {l : List E} {e p : E} (he : e ∈ l) (hp : mk p = rf e) : ∀ {f : Nat} {m : K}, p ∈ ord mk rf ah l f m → e ∈ ord mk rf ah l (f + 1) m
 | 0, _, h => by simp [ord] at h
 | f + 1, m, h => by
  obtain ⟨g, hg, c, h1, h2, h3⟩ := mem_ord.1 h
  obtain rfl : f = g := by omega
  rcases h3 with rfl | h3
  ·exact mem_ord.2 ⟨f + 1, rfl, p, h1, h2, Or.inr (mem_ord.2 ⟨f, rfl, e, he, hp.symm, Or.inl rfl⟩)⟩
  ·exact mem_ord.2 ⟨f + 1, rfl, c, h1, h2, Or.inr (ord_step he hp h3)⟩
theorem ord_all {R : K → Nat} {l : List E} {z : K} (hR : Rk mk rf R l) (hz : Rooted mk rf z l) : ∀ (r : Nat) {e : E}, e ∈ l → R (mk e) ≤ r → e ∈ ord mk rf ah l r z
 | 0, e, he, h => by
  have := hR e he
  omega
 | r + 1, e, he, h => by
  rcases hz e he with e1 | ⟨p, hp, e1⟩
  ·exact mem_ord.2 ⟨r, rfl, e, he, e1, Or.inl rfl⟩
  ·have := hR e he
   exact ord_step he e1 (ord_all hR hz r hp (by rw [e1]; omega))
theorem perm_of_mem : ∀ {a b : List E}, a.Nodup → b.Nodup → (∀ x, x ∈ a ↔ x ∈ b) → a.Perm b
 | [], b, _, _, h => by
  cases b with
  | nil => exact List.Perm.refl _
  | cons y t => exact absurd ((h y).2 (by simp)) (by simp)
 | x :: t, b, ha, hb, h => by
  obtain ⟨s, u, rfl⟩ := List.append_of_mem ((h x).1 (by simp))
  rw [List.nodup_cons] at ha
  have hp : (s ++ x :: u).Perm (x :: (s ++ u)) := List.perm_middle
  have hb' := hp.nodup_iff.1 hb
  rw [List.nodup_cons] at hb'
  refine (List.Perm.cons x (perm_of_mem ha.2 hb'.2 (fun y => ?_))).trans hp.symm
  have hy := h y
  rw [hp.mem_iff, List.mem_cons, List.mem_cons] at hy
  constructor
  ·intro m
   rcases hy.1 (Or.inr m) with rfl | k
   ·exact absurd m ha.1
   ·exact k
  ·intro m
   rcases hy.2 (Or.inr m) with rfl | k
   ·exact absurd m hb'.1
   ·exact k
theorem ord_perm {R : K → Nat} {l : List E} {z : K} {f : Nat} (hn : l.Nodup) (hR : Rk mk rf R l) (hm : ∀ a ∈ l, ∀ b ∈ l, mk a = mk b → a = b) (hz : Rooted mk rf z l) (hf : ∀ e ∈ l, R (mk e) ≤ f) : (ord mk rf ah l f z).Perm l :=
 perm_of_mem (ord_nodup hn hR hm f z) hn (fun x => ⟨ord_sub, fun h => ord_all hR hz f h (hf x h)⟩)
theorem ord_fuel {R : K → Nat} {l : List E} {B : Nat} (hR : Rk mk rf R l) (hB : ∀ e ∈ l, R (mk e) ≤ B) : ∀ {f g : Nat} {m : K}, B ≤ f + R m → B ≤ g + R m → ord mk rf ah l f m = ord mk rf ah l g m
 | 0, g, m, h1, h2 => by
  have hk : kids rf ah l m = [] := by
   apply List.eq_nil_iff_forall_not_mem.2
   intro e he
   rw [kids_mem] at he
   have a1 := hR e he.1
   have a2 := hB e he.1
   rw [he.2] at a1
   omega
  cases g with
  | zero => rfl
  | succ g => simp [ord, hk]
 | f + 1, 0, m, h1, h2 => by
  have hk : kids rf ah l m = [] := by
   apply List.eq_nil_iff_forall_not_mem.2
   intro e he
   rw [kids_mem] at he
   have a1 := hR e he.1
   have a2 := hB e he.1
   rw [he.2] at a1
   omega
  simp [ord, hk]
 | f + 1, g + 1, m, h1, h2 => by
  unfold ord
  have : ∀ c ∈ kids rf ah l m, (c :: ord mk rf ah l f (mk c)) = (c :: ord mk rf ah l g (mk c)) := fun c hc => by
   rw [kids_mem] at hc
   have a1 := hR c hc.1
   rw [hc.2] at a1
   rw [ord_fuel hR hB (f := f) (g := g) (by omega) (by omega)]
  exact flat_congr this
end Trees
end Go.Proofs.YtjbbmcommnhgeaaGreat
namespace Go.Proofs.YtjbbmcommnhgeaaGreat
open Go.RowKit
theorem own_later {w w' : World} {B e S n : Nat} {v : Value} {xs : List Value} (h : w.ownsRow B e S v n xs) (hb : Below w.heap.size w w') : w'.ownsRow B e S v n xs := by
 obtain ⟨h1, ⟨rfl, h0⟩ | ⟨g, cap, cur, rfl, hbg, hg, h2⟩⟩ := h
 ·exact ⟨h1, .inl ⟨rfl, h0⟩⟩
 ·exact ⟨h1, .inr ⟨g, cap, cur, rfl, hbg, (hb.block g (Array.getElem?_eq_some_iff.1 hg).1).trans hg, h2⟩⟩
structure Sm (x : X) : Prop where
 a : x.am.length ≤ 100
 t : x.wr.length ≤ 100
 m : x.mb.length ≤ 100
 e : x.el.length ≤ 100
 mi : ∀ m ∈ x.mb, m.ms.length ≤ 100
 ei : ∀ m ∈ x.el, m.gone.length ≤ 100
theorem Four.slices {w : World} {x : X} {va vw vm ve : Value} (h : Four w x va vw vm ve) : ∃ pa ca pw cw pm cm pe ce, va = .slice pa x.am.length ca ∧ vw = .slice pw x.wr.length cw ∧ vm = .slice pm x.mb.length cm ∧ ve = .slice pe x.el.length ce := by
 obtain ⟨pa, ca, h1⟩ := h.a.slice
 obtain ⟨pw, cw, h2⟩ := h.t.slice
 obtain ⟨pm, cm, h3⟩ := h.m.slice
 obtain ⟨pe, ce, h4⟩ := h.e.slice
 exact ⟨pa, ca, pw, cw, pm, cm, pe, ce, h1, h2, h3, h4⟩
theorem Mb.len (x : Mb × Value) : (Mb.cells x).length = 3 := rfl
theorem Mb.elem {w : World} {l : List (Mb × Value)} {g o : Nat} (h : w.rangeAt g o (rows Mb.cells l)) (k : Nat) (hk : k < l.length) : w.rangeAt g (o + k * 3) (Mb.cells l[k]) :=
 range_sub h (k * 3) fun j u hu => rows_at Mb.len l k hk j u hu
abbrev K := Int × Int × Int
def kM (m : M) : K := (m.p, m.s, m.i)
def kE (e : El) : K := (e.p, e.s, e.i)
def rE (e : El) : K := (e.q, e.u, e.j)
def mE (e : El) : M := ⟨e.p, e.s, e.i⟩
def rM (e : El) : M := ⟨e.q, e.u, e.j⟩
def zK : K := (0, 0, 0)
def kl (a b : K) : Bool := ls a.1 a.2.1 a.2.2 b.1 b.2.1 b.2.2
theorem kl_lt (x y : M) : lt x y = kl (kM x) (kM y) := rfl
theorem kl_iff {a b : K} : kl a b = true ↔ a.1 < b.1 ∨ (a.1 = b.1 ∧ (a.2.1 < b.2.1 ∨ (a.2.1 = b.2.1 ∧ a.2.2 < b.2.2))) := by
 have := lt_iff (x := ⟨a.1, a.2.1, a.2.2⟩) (y := ⟨b.1, b.2.1, b.2.2⟩)
 rw [kl_lt] at this
 exact this
theorem kl_irr (a : K) : kl a a = false := by
 cases h : kl a a
 ·rfl
 ·rw [kl_iff] at h
  omega
theorem kl_trans {a b c : K} (h1 : kl a b = true) (h2 : kl b c = true) : kl a c = true := by
 rw [kl_iff] at *
 omega
def ie (e : El) : Bool := im e.i && (decide (e.x.size ≤ 64) && ca e.gone)
def oke (l : List El) (k : Nat) (h : k < l.length) : Bool := ie l[k] && (decide (k = 0) || kl (kE (l[k - 1]'(by omega))) (kE l[k]))
def ce (l : List El) : Bool := decide (∀ k (h : k < l.length), oke l k h = true)
theorem ce_iff (l : List El) : ce l = true ↔ ∀ k (h : k < l.length), oke l k h = true := decide_eq_true_iff
theorem ce_not {l : List El} {b : Bool} (HZ : Hid (ce l = b)) {k : Nat} (h : k < l.length) (hf : oke l k h = false) : Hid (b = false) := by
 show b = false
 rw [← HZ.out]
 cases e : ce l
 ·rfl
 ·have := (ce_iff l).1 e k h
  rw [hf] at this
  cases this
theorem adj_all {α : Type} (r : α → α → Prop) (ht : ∀ a b c, r a b → r b c → r a c) {l : List α} (h : ∀ k (hk : k + 1 < l.length), r l[k] l[k + 1]) : l.Pairwise r := by
 rw [List.pairwise_iff_getElem]
 intro i j hi hj hij
 induction j with
 | zero => omega
 | succ j ih =>
  rcases Nat.lt_or_ge i j with hl | hl
  ·exact ht _ _ _ (ih (by omega) hl) (h j hj)
  ·obtain rfl : i = j := by omega
   exact h i hj
theorem ce_up {l : List El} (h : ce l = true) : l.Pairwise (fun a b => kl (kE a) (kE b) = true) :=
 adj_all (fun a b => kl (kE a) (kE b) = true) (fun _ _ _ => kl_trans) (fun k hk => by
  have := (ce_iff l).1 h (k + 1) hk
  simp only [oke, Bool.and_eq_true, Bool.or_eq_true, decide_eq_true_eq] at this
  rcases this.2 with e | e
  ·omega
  ·exact e)
theorem ce_ie {l : List El} (h : ce l = true) : ∀ e ∈ l, ie e = true := fun e he => by
 obtain ⟨k, hk, rfl⟩ := List.getElem_of_mem he
 have := (ce_iff l).1 h k hk
 simp only [oke, Bool.and_eq_true] at this
 exact this.1
theorem ce_of {l : List El} (h1 : ∀ e ∈ l, ie e = true) (h2 : l.Pairwise (fun a b => kl (kE a) (kE b) = true)) : ce l = true := by
 rw [ce_iff]
 intro k hk
 simp only [oke, Bool.and_eq_true, Bool.or_eq_true, decide_eq_true_eq]
 refine ⟨h1 _ (List.getElem_mem _), ?_⟩
 cases k with
 | zero => exact Or.inl rfl
 | succ k => exact Or.inr ((List.pairwise_iff_getElem.1 h2) k (k + 1) (by omega) hk (by omega))
def pl (l : List El) (m : K) : Option Nat := l.findIdx? (fun e => decide (kE e = m))
theorem pl_some {l : List El} {m : K} {k : Nat} (h : pl l m = some k) : ∃ hk : k < l.length, kE l[k] = m := by
 obtain ⟨h1, h2, _⟩ := List.findIdx?_eq_some_iff_getElem.1 h
 exact ⟨h1, by simpa using h2⟩
theorem pl_none {l : List El} {m : K} : pl l m = none ↔ ∀ e ∈ l, kE e ≠ m := by
 unfold pl
 rw [List.findIdx?_eq_none_iff]
 simp
theorem up_inj {l : List El} (h : l.Pairwise (fun a b => kl (kE a) (kE b) = true)) {i j : Nat} (hi : i < l.length) (hj : j < l.length) (e : kE l[i] = kE l[j]) : i = j := by
 rw [List.pairwise_iff_getElem] at h
 rcases Nat.lt_trichotomy i j with hl | hl | hl
 ·have := h i j hi hj hl
  rw [e, kl_irr] at this
  cases this
 ·exact hl
 ·have := h j i hj hi hl
  rw [e, kl_irr] at this
  cases this
theorem pl_at {l : List El} (h : l.Pairwise (fun a b => kl (kE a) (kE b) = true)) {k : Nat} (hk : k < l.length) : pl l (kE l[k]) = some k := by
 cases e : pl l (kE l[k]) with
 | none => exact absurd rfl (pl_none.1 e l[k] (List.getElem_mem _))
 | some j =>
  obtain ⟨hj, e'⟩ := pl_some e
  rw [up_inj h hj hk e']
def upL (l : List El) (k : Nat) : Nat := if k = 0 then 0 else match l[k - 1]? with
 | none => 0
 | some e => if rE e = zK then 0 else match pl l (rE e) with
  | some j => j + 1
  | none => 0
def okR (l : List El) : Bool := l.all (fun e => decide (rE e = zK) || (pl l (rE e)).isSome)
def noR (l : List El) : Bool := (List.range (l.length + 1)).all (fun k => (List.range (l.length + 1)).any (fun j => decide (it (upL l) j k = 0)))
def cr (l : List El) : Bool := okR l && noR l
def ck (x : X) : Bool := decide (x.k = 5) && (decide (x.b = 0) && (decide (x.am.length + x.wr.length + x.mb.length = 0) && (ce x.el && cr x.el)))
theorem ck_parts {x : X} (h : ck x = true) : x.k = 5 ∧ x.b = 0 ∧ x.am.length = 0 ∧ x.wr.length = 0 ∧ x.mb.length = 0 ∧ ce x.el = true ∧ cr x.el = true := by
 simp only [ck, Bool.and_eq_true, decide_eq_true_eq] at h
 obtain ⟨h1, h2, h3, h4, h5⟩ := h
 exact ⟨h1, h2, by omega, by omega, by omega, h4, h5⟩
theorem upL_zero (l : List El) : upL l 0 = 0 := rfl
theorem upL_succ {l : List El} {k : Nat} (hk : k < l.length) : upL l (k + 1) = if rE l[k] = zK then 0 else match pl l (rE l[k]) with
  | some j => j + 1
  | none => 0 := by
 simp [upL, List.getElem?_eq_getElem hk]
theorem upL_le (l : List El) (k : Nat) : upL l k ≤ l.length := by
 unfold upL
 split
 ·omega
 ·split
  ·omega
  ·split
   ·omega
   ·split
    ·rename_i e
     obtain ⟨h, _⟩ := pl_some e
     omega
    ·omega
theorem okR_iff {l : List El} : okR l = true ↔ ∀ e ∈ l, rE e = zK ∨ ∃ j, pl l (rE e) = some j := by
 simp [okR, List.all_eq_true, Option.isSome_iff_exists]
theorem noR_iff {l : List El} : noR l = true ↔ ∀ k, k ≤ l.length → rt (upL l) k := by
 simp only [noR, List.all_eq_true, List.any_eq_true, List.mem_range, decide_eq_true_eq]
 constructor
 ·intro h k hk
  obtain ⟨j, _, e⟩ := h k (by omega)
  exact ⟨j, e⟩
 ·intro h k hk
  obtain ⟨j, hj, e⟩ := rt_soon (f := upL l) (fun k _ => upL_le l k) (show k ≤ l.length by omega) (h k (by omega))
  exact ⟨j, by omega, e⟩
end Go.Proofs.YtjbbmcommnhgeaaGreat
