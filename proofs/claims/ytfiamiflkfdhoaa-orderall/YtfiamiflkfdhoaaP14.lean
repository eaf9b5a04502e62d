import Derived.Test.YtfiamiflkfdhoaaP13
import Derived.RangeFuncBound
/- The function Drain. -/
namespace Go.Proofs.Ytfiamiflkfdhoaa
open Go.RowKit Go.ChangeMaps

theorem turns_any (v : List Int) (lv : Value) (w : World) (_hv : v.length = 13) (hs : ∃ p n c, lv = .slice p n c) : Calls Try.prog 25 #[V v, lv] w (Leaves (.func (.func 45) #[] #[.pointer (some ⟨w.heap.size, 0, none⟩), .pointer (some ⟨w.heap.size + 1, 0, none⟩)]) ((w.alloc (.cells (vals v).toArray 26)).alloc (.cells #[lv] 22))) := by
  obtain ⟨p, n, c, rfl⟩ := hs
  go_enter Try.func25, Try.ntmps25
  go_wp2
  go_ret
  exact ⟨rfl, rfl⟩
def DrPost (v : List Int) (l : List T) (w : World) (e : Ending) (w' : World) : Prop := ∃ u1 u2 z1 z2, e = .returned (.tuple #[u1, u2, V (drV v l)]) ∧ z1.map (·.1) = drG v l ∧ z2.map (·.1) = drL v l ∧ OwnT w' w.heap.size u1 z1 ∧ OwnT w' w.heap.size u2 z2 ∧ Below w.heap.size w w'
/-- Between two rounds. -/
structure DJ (w : World) (v : List Int) (lv : Value) (D L : Nat) (ready : Obj) (u : List Int) (pre : List T) (W : World) : Prop where
  a : At W w.heap.size u
  z : At W (w.heap.size + 1) zeros
  d : ∃ p n c, ∃ zs : List (T × Value), Rw W (w.heap.size + 1 + 1) 22 #[.slice p n c] ∧ OwnT W w.heap.size (.slice p n c) zs ∧ zs.map (·.1) = pre
  bv : At W (w.heap.size + 1 + 1 + 1) v
  bl : Rw W (w.heap.size + 1 + 1 + 1 + 1) 22 #[lv]
  r : W.heap[L]? = some ready
  k : W.heap[D]? = some (.deferred (some []))
  b : Below w.heap.size w W
theorem DJ.move {w W W' : World} {v u : List Int} {lv : Value} {D L : Nat} {ready : Obj} {pre : List T} (h : DJ w v lv D L ready u pre W) (hr : Round.isLp ready = true) (hk : KQ W W') (hb : Below w.heap.size w W') : DJ w v lv D L ready u pre W' := by
  obtain ⟨p, n, c, zs, h1, h2, h3⟩ := h.d
  have hq : qt ready = false := by cases ready <;> first | rfl | cases hr
  refine ⟨⟨h.a.1, hk.same _ _ h.a.2 rfl⟩, ⟨h.z.1, hk.same _ _ h.z.2 rfl⟩, ⟨p, n, c, zs, hk.same _ _ h1 rfl, h2.keep fun b o hb hq => hk.same b o hb ?_, h3⟩, ⟨h.bv.1, hk.same _ _ h.bv.2 rfl⟩, hk.same _ _ h.bl rfl, hk.same _ _ h.r hq, hk.same _ _ h.k rfl, hb⟩
  cases o <;> simp_all [qx, qt]
  rcases hq with h | h <;> simp [h]
theorem lp_tag {o : Obj} (h : Round.isLp o = true) : qt o = false ∧ qx o = false := by cases o <;> first | exact ⟨rfl, rfl⟩ | cases h
theorem put_keep {W : World} {L : Nat} {ready o : Obj} (hr : W.heap[L]? = some ready) (hl : Round.isLp ready = true) {b : Nat} {x : Obj} (hb : W.heap[b]? = some x) (hx : Round.isLp x = false) : (W.putObj L o).heap[b]? = some x := by
  refine (World.putObj_heap_other fun e => ?_).trans hb
  subst e
  rw [hr] at hb
  cases hb
  rw [hl] at hx
  cases hx
theorem DJ.put {w W : World} {v u : List Int} {lv : Value} {D L : Nat} {ready o : Obj} {pre : List T} (h : DJ w v lv D L ready u pre W) (hr : Round.isLp ready = true) (hL : w.heap.size ≤ L) : DJ w v lv D L o u pre (W.putObj L o) := by
  obtain ⟨p, n, c, zs, h1, h2, h3⟩ := h.d
  refine ⟨⟨h.a.1, put_keep h.r hr h.a.2 rfl⟩, ⟨h.z.1, put_keep h.r hr h.z.2 rfl⟩, ⟨p, n, c, zs, put_keep h.r hr h1 rfl, h2.keep fun b x hb hq => put_keep h.r hr hb (by cases x <;> simp_all [qx, Round.isLp]), h3⟩, ⟨h.bv.1, put_keep h.r hr h.bv.2 rfl⟩, put_keep h.r hr h.bl rfl, World.putObj_heap_same (Array.getElem?_eq_some_iff.1 h.r).1, put_keep h.r hr h.k rfl, ?_⟩
  exact h.b.trans ⟨rfl, rfl, rfl, by simp, fun b hb => World.putObj_heap_other (by omega)⟩
theorem DJ.later {w W W' : World} {v u : List Int} {lv : Value} {D L : Nat} {ready : Obj} {pre : List T} (h : DJ w v lv D L ready u pre W) (hb : Below W.heap.size W W') : DJ w v lv D L ready u pre W' := by
  obtain ⟨p, n, c, zs, h1, h2, h3⟩ := h.d
  have hk : ∀ {b : Nat} {x : Obj}, W.heap[b]? = some x → W'.heap[b]? = some x := fun {b x} hx => (hb.block b (Array.getElem?_eq_some_iff.1 hx).1).trans hx
  exact ⟨h.a.later hb, h.z.later hb, ⟨p, n, c, zs, h1.later hb, h2.later hb, h3⟩, h.bv.later hb, h.bl.later hb, hk h.r, hk h.k, h.b.trans (hb.mono h.b.size)⟩
theorem KR.refl (w : World) : KR w w := fun _ _ h _ => h
theorem KR.trans {a b c : World} (h : KR a b) (k : KR b c) : KR a c := fun i o h1 h2 => k i o (h i o h1 h2) h2
theorem KR.of_below {w w' : World} (h : Below w.heap.size w w') : KR w w' := fun b _ h1 _ => (h.block b (Array.getElem?_eq_some_iff.1 h1).1).trans h1
theorem KR.put {W : World} {L : Nat} {ready o : Obj} (hr : W.heap[L]? = some ready) (hl : Round.isLp ready = true) : KR W (W.putObj L o) := fun b x hb hq => put_keep hr hl hb (by cases x <;> simp_all [qt, Round.isLp])
theorem ok_ops {x : T} (h : x.ok = true) : x.ops.length ≤ 16 := by
  simp only [T.ok, ct, sn, Bool.and_eq_true, decide_eq_true_eq] at h
  exact h.2.1.2
theorem qt_qx {o : Obj} (h : qt o = true) : qx o = false := by
  cases o with
  | cells cs t s =>
    simp only [qt, qx, Bool.or_eq_true, beq_iff_eq] at h ⊢
    rcases h with rfl | rfl <;> rfl
  | map _ _ => rfl
  | _ => cases h
theorem KR.cell {W : World} {b i : Nat} {t : TypeId} {cs : Array Value} (h : Rw W b t cs) (ht : qt (.cells cs t) = false) (v : Value) : KR W (W.setCell ⟨b, i, none⟩ v) := fun k o h1 h2 => (Below.heap_setCell _ _ _ _ (show k ≠ b from fun e => by
  subst e
  unfold Rw at h
  rw [h] at h1
  cases h1
  rw [ht] at h2
  cases h2)).trans h1
theorem KR.row {W : World} {b : Nat} {t : TypeId} {cs : Array Value} (h : Rw W b t cs) (ht : qt (.cells cs t) = false) (cs' : Array Value) : KR W (W.setRow b cs') := fun k o h1 h2 => (setRow_other _ _ _ _ (show k ≠ b from fun e => by
  subst e
  unfold Rw at h
  rw [h] at h1
  cases h1
  rw [ht] at h2
  cases h2)).trans h1
/-- The slice behind an append, put back. -/
theorem DJ.list {w W W' : World} {v u : List Int} {lv v' : Value} {D L : Nat} {o : Obj} {pre pre' : List T} (h : DJ w v lv D L o u pre W) (hl : Round.isLp o = true) (hk : ∀ (b : Nat) (x : Obj), W.heap[b]? = some x → qx x = false → W'.heap[b]? = some x) (hb : Below w.heap.size W W') (hv' : ∃ p n c, v' = .slice p n c) {zs : List (T × Value)} (hO : OwnT W' w.heap.size v' zs) (he : zs.map (·.1) = pre') : DJ w v lv D L o u pre' (W'.setCell ⟨w.heap.size + 1 + 1, 0, none⟩ v') := by
  obtain ⟨p, n, c, zs0, h1, h2, h3⟩ := h.d
  obtain ⟨p', n', c', rfl⟩ := hv'
  have R7 : Rw W' (w.heap.size + 1 + 1) 22 #[.slice p n c] := hk _ _ h1 rfl
  have ho : ∀ (b : Nat) (x : Obj), W'.heap[b]? = some x → (∀ cs s, x ≠ .cells cs 22 s) → (W'.setCell ⟨w.heap.size + 1 + 1, 0, none⟩ (.slice p' n' c')).heap[b]? = some x := fun b x hx hne => (Below.heap_setCell _ _ _ _ (show b ≠ w.heap.size + 1 + 1 from fun e => by
    subst e
    unfold Rw at R7
    rw [R7] at hx
    cases hx
    exact hne _ _ rfl)).trans hx
  refine ⟨⟨h.a.1, (Below.heap_setCell _ _ _ _ (show w.heap.size ≠ w.heap.size + 1 + 1 by omega)).trans (hk _ _ h.a.2 rfl)⟩, ⟨h.z.1, (Below.heap_setCell _ _ _ _ (show w.heap.size + 1 ≠ w.heap.size + 1 + 1 by omega)).trans (hk _ _ h.z.2 rfl)⟩, ⟨p', n', c', zs, R7.set 0 _, hO.keep fun b x hx hq => ho b x hx fun cs s e => by subst e; simp [qx] at hq, he⟩, ⟨h.bv.1, (Below.heap_setCell _ _ _ _ (show w.heap.size + 1 + 1 + 1 ≠ w.heap.size + 1 + 1 by omega)).trans (hk _ _ h.bv.2 rfl)⟩, (Below.heap_setCell _ _ _ _ (show w.heap.size + 1 + 1 + 1 + 1 ≠ w.heap.size + 1 + 1 by omega)).trans (hk _ _ h.bl rfl), ho _ _ (hk _ _ h.r (lp_tag hl).2) (fun cs s e => by subst e; cases hl), ho _ _ (hk _ _ h.k rfl) (fun cs s e => by cases e), (h.b.trans hb).setCell (p := ⟨w.heap.size + 1 + 1, 0, none⟩) (by show _ ≤ w.heap.size + 1 + 1; omega) _⟩
/-- The vector, put back. -/
theorem DJ.vec {w W : World} {v u u' : List Int} {lv : Value} {D L : Nat} {o : Obj} {pre : List T} (h : DJ w v lv D L o u pre W) (hl : Round.isLp o = true) (hu : u'.length = 13) : DJ w v lv D L o u' pre (W.setRow w.heap.size (vals u').toArray) := by
  obtain ⟨p, n, c, zs, h1, h2, h3⟩ := h.d
  have ho : ∀ (b : Nat) (x : Obj), W.heap[b]? = some x → (∀ cs s, x ≠ .cells cs 26 s) → (W.setRow w.heap.size (vals u').toArray).heap[b]? = some x := fun b x hx hne => (setRow_other _ _ _ _ (show b ≠ w.heap.size from fun e => by
    subst e
    have h7 := h.a.2
    rw [h7] at hx
    cases hx
    exact hne _ _ rfl)).trans hx
  exact ⟨h.a.row hu, h.z.rowOther (by omega) _, ⟨p, n, c, zs, h1.rowOther (by omega) _, h2.keep fun b x hx hq => ho b x hx fun cs s e => (by subst e; simp [qx] at hq), h3⟩, h.bv.rowOther (by omega) _, h.bl.rowOther (by omega) _, ho _ _ h.r (fun cs s e => by subst e; cases hl), ho _ _ h.k (fun cs s e => by cases e), below_setRow h.b (Nat.le_refl _) _⟩
namespace HeldI
section
variable {P : Program} {Q : Exit → Act → World → Prop} {a : Act} {w : World} {o : Oper}
theorem kw {K : Act → World → Prop} {f : FuncId} {us : Array Operand} {ts : Array TypeId} {args : List Value} {φ : Ending → World → Prop} {au : Value → Act} (hc : Calls P f args.toArray w φ) (h : ∀ e w', φ e w' → ∃ u, e = .returned u ∧ K (au u) w') (hf : Calm.enters P f = true := by kernel_rfl)
    (ho : o.op = .call { callee := .value (.func f), args := us, argTypes := ts } := by rfl) (ha : us.toList.map a.eval = args := by rfl) (hp : ∀ u, a.put o.dst u = au u := by (intro u; simp only [Act.put, List.setIfInBounds_toArray, List.set_cons_zero, List.set_cons_succ]; rfl)) : o.wp P a w K Q := by
  have e : ∀ args, (callFunc f args).run P w = .ok (.enter f args) w := fun args => Calm.enters_run hf args w
  have hr' : (execOp a.eval o).run P w = .ok (.enter f args.toArray) w := by
    have ha' : us.map a.eval = args.toArray := by
      rw [← ha, ← Array.toList_map, Array.toArray_toList]
    unfold execOp
    rw [ho]
    simp [go_sem, Act.eval, e, ← ha']
  unfold Oper.wp
  rw [hr']
  refine hc.mono fun e w' he => ?_
  obtain ⟨u, rfl, h1⟩ := h e w' he
  show K (a.put o.dst u) w'
  rw [hp u]
  exact h1
end
end HeldI
theorem run_build34 {o : Oper} {a : Act} {w : World} {x : Operand} {X : T} {sl : Value} (ho : o.op = .buildSlice 22 1 #[(0, x)]) (hx : a.eval x = TxV X.p X.s X.v X.t sl) (h1 : sl.oneCell' = true) : (execOp a.eval o).run Try.prog w = .ok (.value (.slice (some ⟨w.heap.size, 0, none⟩) 1 1)) (w.alloc (.cells (txc X.p X.s X.v X.t sl).toArray 34)) := by
  unfold execOp
  simp only [ho, List.map_toArray, List.map_cons, List.map_nil, hx, Sem.run_bind, build_one X sl h1, Result.andThen_ok, Sem.run_pure]
theorem run_ld22 {o : Oper} {a : Act} {w : World} {x : Operand} {b n c : Nat} {p : Option Addr} (ho : o.op = .load 22 x) (hx : a.eval x = .pointer (some ⟨b, 0, none⟩)) (hc : w.cell? ⟨b, 0, none⟩ = some (.slice p n c)) : (execOp a.eval o).run Try.prog w = .ok (.value (.slice p n c)) w := by
  unfold execOp
  generalize a.eval = ρ at hx
  simp [ho, hx, go_sem, hc]
theorem run_app22 {o : Oper} {a : Act} {w : World} {x y : Operand} {u v k : Value} {w1 : World} (ho : o.op = .call { callee := .builtin .append, args := #[x, y], argTypes := #[22, 22] }) (hx : a.eval x = u) (hy : a.eval y = k) (hr : (Builtin.append_ #[22, 22] o.type #[u, k]).run Try.prog w = .ok v w1) : (execOp a.eval o).run Try.prog w = .ok (.value v) w1 := by
  unfold execOp
  simp only [ho, resolve, invoke, builtin, Sem.run_bind, Sem.run_pure, Result.andThen_ok, List.map_toArray, List.map_cons, List.map_nil, hx, hy, hr]
theorem app_at {ops : Array Oper} {rest : List Oper} {o : Oper} {a : Act} {Q : Exit → Act → World → Prop} {w : World} {B ab : Nat} {va : Value} {zs : List (T × Value)} {X : T} {sl : Value} (hgd : o.guard = none) (s x : Operand) (ho : o.op = .call { callee := .builtin .append, args := #[s, x], argTypes := #[22, 22] })
    (hs : a.eval s = va) (hx : a.eval x = .slice (some ⟨ab, 0, none⟩) 1 1) (hown : OwnT w B va zs) (hc : w.rangeAt ab 0 (T.cells (X, sl))) (hor : ORow w B sl X.ops) (hlen : zs.length ≤ 1000) (hB : B ≤ w.heap.size)
    (h : ∀ v' w', OwnT w' B v' (zs ++ [(X, sl)]) → w.grownBy w' va.ownBlock → (∃ p n c, v' = .slice p n c) → wpList Try.prog ops Q rest (a.put o.dst v') w') : wpList Try.prog ops Q (o :: rest) a w := by
  obtain ⟨v', w', hr, h1, h2, h3⟩ := hown.app hc hor hlen hB o.type
  refine wpList_plain hgd fun _ hK => ?_
  unfold Oper.wp
  rw [run_app22 ho hs hx hr]
  exact hK _ _ (h v' w' h1 h2 h3)
theorem results_ttr {fn : Func} {s t r : Tmp} {ty : TypeId} (h : fn.results = #[.tmp s, .tmp t, .cell r ty]) {tmps : Array Value} {w : World} {b : Nat} {cs : Array Value} {d : TypeDesc} (hp : tmps.getD r undef = .pointer (some ⟨b, 0, none⟩)) (hc : Rw w b ty cs)
    (hd : d.isRow = true) (hu : Try.prog.underlying ty = some d) (hi : (Try.prog.info? ty).map (·.size) = some cs.size) : (results fn tmps).run Try.prog w = .ok (.tuple #[tmps.getD s undef, tmps.getD t undef, .agg cs]) w := by
  have h2 := hc.load hd hu hi
  unfold results
  rw [h]
  simp only [List.mapM_toArray, List.mapM_cons, List.mapM_nil, hp, asAddr]
  simp [h2]
theorem wp_normal {c : Code} {Q : Exit → Act → World → Prop} {a : Act} {w : World} (h : c.wp Try.prog (Round.endPost fun a w => Q .normal a w) a w) : c.wp Try.prog Q a w := Code.wp_mono (fun e a w h => by
  cases e with
  | normal => exact h
  | _ => exact h.elim) h
set_option maxHeartbeats 4000000 in
set_option maxRecDepth 100000 in
theorem drain_any (v : List Int) (l : List T) (lv : Value) (w : World) (hX : XHas w lv l) (hv : v.length = 13) (hl : l.length ≤ 100) (hops : ∀ x ∈ l, x.ops.length ≤ 1000) : Calls Try.prog 8 #[V v, lv] w (DrPost v l w) := by
  obtain ⟨lp, lcap, rfl⟩ := hX.slice
  refine (callsIn_wide (n := 1)).1 (callsIn_of_wp_marks Try.func8 rfl trivial (wpIn_wide.2 ?_))
  simp only [Try.ntmps8, List.size_toArray, List.length_cons, List.length_nil, Nat.reduceAdd, Nat.reduceSub, Array.replicate_succ, Array.replicate_zero, List.push_toArray, List.append_toArray, List.nil_append, List.cons_append]
  go_upto_region 2 with fail
  obtain ⟨w1, HW⟩ : ∃ w1, ((w.alloc (.cells (vals v).toArray 26)).alloc (.cells z13 26)).alloc (.cells #[.slice none 0 0] 22) = w1 := ⟨_, rfl⟩
  have A1 : At w1 w.heap.size v := by rw [← HW]; exact ((at_new w v hv).alloc _).alloc _
  have A2 : At w1 (w.heap.size + 1) zeros := by rw [← HW]; exact (at_z13 _ (by simp)).alloc _
  have A3 : Rw w1 (w.heap.size + 1 + 1) 22 #[.slice none 0 0] := by rw [← HW]; exact rw_next _ (by simp) _ _
  have hsz : w1.heap.size = w.heap.size + 1 + 1 + 1 := by rw [← HW]; simp
  have hb1 : Below w.heap.size w w1 := by rw [← HW]; exact bel_alloc (bel_alloc (bel_alloc (Below.refl _ _) _) _) _
  rw [show ((w.alloc (.cells (vals v).toArray 26)).alloc (.cells z13 26)).alloc (.cells #[.slice none 0 0] 22) = w1 from HW]
  clear HW
  go_wp2_with (refine load_at rfl _ rfl _ rfl A1 ?_)
  refine (turns_any v _ w1 hv ⟨_, _, _, rfl⟩).mono ?_
  rintro e w2 ⟨rfl, hw2⟩
  have B1 : At w2 w.heap.size v := by rw [hw2]; exact (A1.alloc _).alloc _
  have B2 : At w2 (w.heap.size + 1) zeros := by rw [hw2]; exact (A2.alloc _).alloc _
  have B3 : Rw w2 (w.heap.size + 1 + 1) 22 #[.slice none 0 0] := by rw [hw2]; exact (A3.alloc _).alloc _
  have B4 : At w2 (w.heap.size + 1 + 1 + 1) v := by rw [hw2]; exact (at_next _ hsz.symm v hv).alloc _
  have B5 : Rw w2 (w.heap.size + 1 + 1 + 1 + 1) 22 #[.slice lp l.length lcap] := by rw [hw2]; exact rw_next _ (by simp [hsz]) _ _
  have hb2 : Below w.heap.size w w2 := by rw [hw2]; exact bel_alloc (bel_alloc hb1 _) _
  have hsz2 : w2.heap.size = w.heap.size + 1 + 1 + 1 + 1 + 1 := by rw [hw2]; simp [hsz]
  rw [hsz]
  clear hw2 A1 A2 A3 hb1 hsz
  go_wp2_with fail
  refine Round.range_one (gf := 45) rfl (fun args w => Calm.enters_run (by kernel_rfl) args w) ?_
  intro D L ready busy done hD hL hr hb hd hY
  have hlp : ∀ o, Round.isLp o = true → qt o = false ∧ qx o = false := fun o h => by cases o <;> first | exact ⟨rfl, rfl⟩ | cases h
  refine (turns1_any w l (.slice lp l.length lcap) v (w.heap.size + 1 + 1 + 1) (w.heap.size + 1 + 1 + 1 + 1) L (fun pre => DJ w v (.slice lp l.length lcap) D L ready (run v pre) pre) hX hv hl (fun pre W W' h hk hb => h.move hr hk hb) (fun pre W h => ⟨h.bv, h.bl, h.b⟩) ?hY _ ?h0).mono ?_
  case h0 =>
    have hL' : ((w2.alloc (.deferred (some []))).alloc ready).heap[L]? = some ready := by
      rw [← hL]
      have := heap_alloc_last (w2.alloc (.deferred (some []))) ready
      simpa using this
    have hD' : ((w2.alloc (.deferred (some []))).alloc ready).heap[D]? = some (.deferred (some [])) := by
      rw [← hD]
      exact (Below.heap_alloc _ _ _ (by simp)).trans (heap_alloc_last w2 _)
    exact ⟨(B1.alloc _).alloc _, (B2.alloc _).alloc _, ⟨none, 0, 0, [], (B3.alloc _).alloc _, OwnT.nil _ _, rfl⟩, (B4.alloc _).alloc _, (B5.alloc _).alloc _, hL', hD', bel_alloc (bel_alloc hb2 _) _⟩
  case hY =>
    intro pre x sl W hJ hrd ho hpre
    refine (YieldAt.mono (hY #[TxV x.p x.s x.v x.t sl] W (fun W' => DJ w v (.slice lp l.length lcap) D L ready (run v (pre ++ [x])) (pre ++ [x]) W' ∧ KR W W') rfl hJ.r ?_) ?_)
    rotate_left
    · rintro e w' ⟨h1, h2⟩
      exact ⟨h1, h2.1, h2.2⟩
    simp only [Array.zip]
    refine Round.region_list rfl Round.endPost_no ?_
    have hone := ho.one
    have hops16 : x.ops.length ≤ 1000 := by have := ok_ops (rdy_ok hrd); omega
    obtain ⟨W1, HW1⟩ : ∃ W1, (W.alloc (.cells z17 34)).setRow W.heap.size (txc x.p x.s x.v x.t sl).toArray = W1 := ⟨_, rfl⟩
    obtain ⟨R1, hb1, hsz1⟩ := box_tx W x sl HW1
    have J1 := hJ.later hb1
    have hLs : w.heap.size ≤ L := by omega
    have hb' := hb
    have J2 : DJ w v (.slice lp l.length lcap) D L busy (run v pre) pre (W1.putObj L busy) := J1.put hr hLs
    have K2 : KR W (W1.putObj L busy) := (KR.of_below hb1).trans (KR.put J1.r hr)
    have R2 : Rw (W1.putObj L busy) W.heap.size 34 (txc x.p x.s x.v x.t sl).toArray := put_keep J1.r hr R1 rfl
    have ho2 : OHas (W1.putObj L busy) sl x.ops := by
      refine (ho.later hb1).grown (row := some L) ⟨rfl, rfl, rfl, by simp, fun k _ hk => World.putObj_heap_other fun e => hk (by rw [e])⟩ fun b e a n c e2 hn => ?_
      simp only [Option.some.injEq] at e
      subst e
      obtain ⟨q, c', e3, _, hrg⟩ := ho.later hb1
      rw [e2] at e3
      simp only [Value.slice.injEq] at e3
      obtain ⟨rfl, rfl, rfl⟩ := e3
      obtain ⟨gg, oo, e4, hcc⟩ := hrg hn
      simp only [Option.some.injEq] at e4
      subst e4
      intro e5
      have e6 : gg = L := e5
      subst e6
      have h7 := hcc 0 hn 0 (.int .i64 (x.ops[0]'hn).k) rfl
      have h8 := J1.r
      unfold World.cell? at h7
      simp only [h8] at h7
      cases ready <;> first | cases h7 | cases hr
    go_wp2_with (refine store_tx rfl _ _ rfl _ x sl rfl rfl hone (rw_new W 34 z17) rfl ?_)
    try rw [HW1]
    refine ⟨J1.r, wpIn_block (wpIn_seq ?_)⟩
    have hno : ¬ LetsOut (Exit.inBlock 1 (Round.endPost (fun (_ : Act) (w2 : World) => w2.heap[L]? = some busy ∧ DJ w v (.slice lp l.length lcap) D L ready (run v (pre ++ [x])) (pre ++ [x]) (w2.putObj L ready) ∧ KR W (w2.putObj L ready)))) := Round.block_no Round.endPost_no
    obtain ⟨lp', ln', lc', zs, D1, D2, D3⟩ := hJ.d
    have hgW : ∀ g, (Value.slice lp' ln' lc').ownBlock = some g → g < W.heap.size := fun g e => by
      obtain ⟨_, cur, h⟩ := D2.block e
      exact (Array.getElem?_eq_some_iff.1 h).1
    have D1c : Rw (W1.putObj L busy) (w.heap.size + 1 + 1) 22 #[.slice lp' ln' lc'] := put_keep J1.r hr (D1.later hb1) rfl
    have D2c : OwnT (W1.putObj L busy) w.heap.size (.slice lp' ln' lc') zs := (D2.later hb1).keep fun b x hb hq => put_keep J1.r hr hb (by cases x <;> simp_all [qx, Round.isLp])
    have hbs : w.heap.size ≤ W.heap.size := hJ.b.size
    have hB2 : w.heap.size + 1 + 1 < W.heap.size := D1.lt
    have hu13 : (run v pre).length = 13 := by rw [run_length, hv]
    have hnx := rdy_s hrd
    have hxp := T.ok_p (rdy_ok hrd)
    have hxs := T.ok_s (rdy_ok hrd)
    have hrun' : run v (pre ++ [x]) = stp (run v pre) x := by rw [run_append]; rfl
    have hWs : W.heap.size < (W1.putObj L busy).heap.size := by simpa using hsz1
    generalize W1.putObj L busy = W2 at J2 K2 R2 ho2 D1c D2c hWs ⊢
    clear hY J1 HW1 R1 hb1 hsz1 D1 D2 hJ ho
    have hzl : zs.length ≤ 1000 := by
      have := congrArg List.length D3
      rw [List.length_map] at this
      omega
    refine Round.region_any (S := fun w' => w'.rangeAt W.heap.size 0 (txc x.p x.s x.v x.t sl)) (by kernel_rfl) (by kernel_rfl) (Round.then_no hno) ?_
    have tx : ∀ {w' : World}, Rw w' W.heap.size 34 (txc x.p x.s x.v x.t sl).toArray → w'.rangeAt W.heap.size 0 (txc x.p x.s x.v x.t sl) := fun h => h.range 0 _ (fun j v h => by simpa using h)
    have hS := tx R2.drew
    have C := copyTx_any x sl W2.drew ho2 hops16
    have cl : ∀ {w' : World}, Rw w' (w.heap.size + 1 + 1) 22 #[.slice lp' ln' lc'] → w'.cell? ⟨w.heap.size + 1 + 1, 0, none⟩ = some (.slice lp' ln' lc') := fun h => h.cell 0
    refine HeldI.lm 1 (tx_size x sl) (fun _ h => h) Try.underlying34 hS ?_
    refine HeldI.tw 0 2 (by simp only [List.getElem?_toArray, List.getElem?_cons_zero]; rfl) (by simp only [List.getElem?_toArray, List.getElem?_cons_succ, List.getElem?_cons_zero]; rfl) (by kernel_rfl) rfl rfl ?_ ?_
    rotate_left
    refine HeldI.kw C ?_
    rintro e w' ⟨sl', rfl, hO, hb⟩
    refine ⟨_, rfl, tx (R2.drew.later hb), ?_⟩
    have one' := (own_oh hO).one
    refine HeldI.tw 0 3 (by simp only [List.getElem?_toArray, List.getElem?_cons_zero]; rfl) (by simp only [List.getElem?_toArray, List.getElem?_cons_succ, List.getElem?_cons_zero]; rfl) (by kernel_rfl) rfl rfl ?_ ?_
    have c7 := cl (D1c.drew.later hb)
    refine HeldI.vw (w1 := w') (run_ld22 rfl rfl c7) ⟨tx (R2.drew.later hb), ?_⟩ (by simp only [Act.put, List.setIfInBounds_toArray, List.set_cons_zero, List.set_cons_succ]; rfl)
    refine HeldI.vl 3 (run_build34 rfl rfl one') (tx ((R2.drew.later hb).alloc _)) ?_
    rotate_left
    refine HeldI.vw (run_build34 (X := x) (sl := sl') rfl rfl one') ⟨tx ((R2.drew.later hb).alloc _), ?_⟩ (by simp only [Act.put, List.setIfInBounds_toArray, List.set_cons_zero, List.set_cons_succ]; rfl)
    have c7 := cl ((D1c.drew.later hb).alloc (.cells (txc x.p x.s x.v x.t sl').toArray 34))
    refine HeldI.vl 0 (run_ld22 rfl rfl c7) (tx ((R2.drew.later hb).alloc _)) ?_
    rotate_left
    have c7 := cl D1c.drew
    refine HeldI.vw (w1 := W2.drew) (run_ld22 rfl rfl c7) ⟨hS, ?_⟩ (by simp only [Act.put, List.setIfInBounds_toArray, List.set_cons_zero, List.set_cons_succ]; rfl)
    refine HeldI.kn 2 C ?_
    rintro e w' ⟨sl', rfl, hO, hb⟩
    have one' := (own_oh hO).one
    refine ⟨_, rfl, tx (R2.drew.later hb), ?_⟩
    refine HeldI.vl 3 (run_build34 rfl rfl one') (tx ((R2.drew.later hb).alloc _)) ?_
    all_goals
      have D6 : OwnT (w'.alloc (.cells (txc x.p x.s x.v x.t sl').toArray 34)) w.heap.size (.slice lp' ln' lc') zs := ((D2c.later (Below.refl _ _).drew).later hb).later (bel_alloc (Below.refl _ _) _)
      have O6 : ORow (w'.alloc (.cells (txc x.p x.s x.v x.t sl').toArray 34)) w.heap.size sl' x.ops := own_later (hO.base (by show _ ≤ W2.heap.size; omega)) (bel_alloc (Below.refl _ _) _)
      have hbb : Below W2.drew.heap.size W2.drew (w'.alloc (.cells (txc x.p x.s x.v x.t sl').toArray 34)) := hb.trans ((bel_alloc (Below.refl _ _) _).mono hb.size)
      have J6 := (J2.later (Below.refl _ _).drew).later hbb
      have R6 := R2.drew.later hbb
      have K6 : KR W (w'.alloc (.cells (txc x.p x.s x.v x.t sl').toArray 34)) := (K2.trans (KR.of_below (Below.refl W2.heap.size W2).drew)).trans (KR.of_below hbb)
      have ra : (w'.alloc (.cells (txc x.p x.s x.v x.t sl').toArray 34)).rangeAt w'.heap.size 0 (T.cells (x, sl')) := (rw_new w' 34 _).range 0 _ (fun j v h => by simpa [T.cells] using h)
      obtain ⟨v7, w7, hrun, O7, hg7, hv7⟩ := OwnT.app D6 ra O6 hzl (J6.b.size) 22
      have hq7 : ∀ (b : Nat) (o : Obj), (w'.alloc (.cells (txc x.p x.s x.v x.t sl').toArray 34)).heap[b]? = some o → some b ≠ (Value.slice lp' ln' lc').ownBlock → w7.heap[b]? = some o := fun b o h1 h2 => (hg7.block b (Array.getElem?_eq_some_iff.1 h1).1 h2).trans h1
      have hk7 : ∀ (b : Nat) (o : Obj), (w'.alloc (.cells (txc x.p x.s x.v x.t sl').toArray 34)).heap[b]? = some o → qx o = false → w7.heap[b]? = some o := fun b o h1 h2 => hq7 b o h1 fun e => by
        obtain ⟨_, cur, h4⟩ := D6.block e.symm
        rw [h1] at h4
        cases h4
        cases h2
      have R7 : Rw w7 W.heap.size 34 (txc x.p x.s x.v x.t sl).toArray := hq7 _ _ R6 fun e => by
        have := hgW _ e.symm
        omega
      have B7 : Below w.heap.size (w'.alloc (.cells (txc x.p x.s x.v x.t sl').toArray 34)) w7 := ⟨hg7.os, hg7.tape, hg7.output, hg7.size, fun b hb => hg7.block b (by have := J6.b.size; omega) fun e => by
        obtain ⟨h, _⟩ := D6.block e.symm
        omega⟩
      have K7 : KR W w7 := K6.trans fun b o h1 h2 => hk7 b o h1 (qt_qx h2)
      obtain ⟨p7, n7, c7', rfl⟩ := hv7
      have hsto : (Instr.storeAt 22 (.pointer (some ⟨w.heap.size + 1 + 1, 0, none⟩)) (.slice p7 n7 c7')).run Try.prog w7 = .ok () (w7.setCell ⟨w.heap.size + 1 + 1, 0, none⟩ (.slice p7 n7 c7')) := by
        obtain ⟨_, _, _, _, h7, _, _⟩ := J6.d
        have h8 : Rw w7 _ 22 _ := hk7 _ _ h7 rfl
        have h9 := h8.cell 0
        have h10 := h8.frozen 0
        simp at h9
        simp [go_sem, h9, h10]
      have J8 := J6.list hb' hk7 B7 ⟨_, _, _, rfl⟩ O7 (pre' := pre ++ [x]) (by simp [D3])
      have R8 := R7.setOther (q := w.heap.size + 1 + 1) (by omega) 0 (.slice p7 n7 c7')
      have h7q : ∃ cs, Rw w7 (w.heap.size + 1 + 1) 22 cs := by
        obtain ⟨_, _, _, _, h7, _, _⟩ := J6.d
        exact ⟨_, hk7 _ _ h7 rfl⟩
      obtain ⟨cs7, h7q⟩ := h7q
      have K8 : KR W (w7.setCell ⟨w.heap.size + 1 + 1, 0, none⟩ (.slice p7 n7 c7')) := K7.trans (KR.cell h7q rfl _)
      refine HeldI.vl 4 (run_app22 rfl rfl rfl hrun) (tx R7) ?_
      refine HeldI.ss 5 hsto (tx R8) ?_
      refine HeldI.dn ?_
      generalize w7.setCell ⟨w.heap.size + 1 + 1, 0, none⟩ (.slice p7 n7 c7') = w8 at J8 R8 K8 ⊢
      clear J6 R6 K6 ra hrun O7 hg7 hq7 hk7 R7 B7 K7 hsto h7q D6 O6 hbb
      refine Round.region_list rfl hno ?_
      have rd := R8.range 0 [.int .i64 x.p, .int .i64 x.s] (fun j v h => by
        match j, h with
        | 0, h => simpa [txc] using h
        | 1, h => simpa [txc] using h)
      go_wp2_with (first | refine load_at rfl _ rfl _ rfl J8.a ?_ | refine load_dm _ rfl rfl _ _ rfl rd ?_)
      refine (vadd_any (run v pre) x.p x.s w8 hu13 hxp hxs hnx).mono ?_
      rintro e w9 ⟨rfl, hb9⟩
      have J9 := J8.later hb9
      have K9 := K8.trans (KR.of_below hb9)
      have hst13 : ((run v pre).set x.p.toNat x.s).length = 13 := by rw [List.length_set, hu13]
      go_wp2_with (refine store_at rfl _ _ rfl _ _ rfl rfl J9.a hst13 ?_)
      have J10 := J9.vec hb' hst13
      refine ⟨J10.r, ?_, (K9.trans (KR.row J9.a.2 rfl _)).trans (KR.put J10.r hb')⟩
      rw [hrun']
      exact J10.put hb' hLs
  rintro e w3 ⟨hv3, hJ3⟩
  refine ⟨hv3, hJ3.r, ?_⟩
  have hJ4 := hJ3.put (o := done) hr (by omega)
  obtain ⟨gp, gn, gc, gz, G1, G2, G3⟩ := hJ4.d
  have G0 : Hid (At (w3.putObj L done) w.heap.size (run v (drG v l))) := hJ4.a
  have GZ : Hid (At (w3.putObj L done) (w.heap.size + 1) zeros) := hJ4.z
  have GK : Hid ((w3.putObj L done).heap[D]? = some (.deferred (some []))) := hJ4.k
  have GB : Hid (Below w.heap.size w (w3.putObj L done)) := hJ4.b
  have G1' : Hid (Rw (w3.putObj L done) (w.heap.size + 1 + 1) 22 #[.slice gp gn gc]) := G1
  have G2' : Hid (OwnT (w3.putObj L done) w.heap.size (.slice gp gn gc) gz) := G2
  have G3' : Hid (gz.map (·.1) = drG v l) := G3
  have hX4 : Hid (XHas (w3.putObj L done) (.slice lp l.length lcap) l) := hX.later hJ4.b
  have hu13 : (run v (drG v l)).length = 13 := by rw [run_length, hv]
  have hHV : Hid (drV v l = run v (drG v l)) := (dr_spec _ v l hv).2.1
  have hDB : w.heap.size ≤ D := by omega
  clear hJ4 hJ3 hv3 G1 G2 G3 B1 B2 B3 B4 B5 hb2 hsz2 hX
  generalize w3.putObj L done = w4 at G0 GZ GK GB G1' G2' hX4 ⊢
  clear hY hlp hD hL hr hb hd w3 w2 ready busy done L
  obtain ⟨u, HU⟩ := hid_ex (run v (drG v l))
  rw [HU.out] at G0 hu13 hHV
  rename_i K hKK
  show K _ _
  refine hKK _ _ ?_
  clear hKK
  clear K
  have HOP : Hid (∀ x ∈ l, x.ops.length ≤ 1000) := hops
  have hlm : (l.length : Int) ≤ 100 := by omega
  clear hops
  go_wp2_with fail
  go_loopw [8, 30] (fun v8 vk wr => ∃ (k : Nat) (vs : Value) (zs : List (T × Value)), vs = v8 ∧ vk = .int .i64 k ∧ k ≤ l.length ∧ (∃ p n c, vs = .slice p n c) ∧ Hid (zs.map (·.1) = (l.take k).filter fun x => !hsT u x) ∧ Hid (OwnT wr w4.heap.size vs zs) ∧ Below w4.heap.size w4 wr) (fun _ vk _ => l.length - (intOf vk).toNat)
  case atStart => exact ⟨0, _, [], rfl, rfl, by omega, ⟨_, _, _, rfl⟩, rfl, OwnT.nil _ _, Below.refl _ _⟩
  case round =>
    obtain ⟨k, vs, zs, rfl, rfl, hk, ⟨vp, vn, vc, rfl⟩, HZ, HO, hb⟩ := hrel
    by_cases hlt : k < l.length
    · have hlt' : (k : Int) < (l.length : Int) := by omega
      obtain ⟨gl, ol, sl, rfl, hd, ho⟩ := XHas.at (hX4.out.later hb) k hlt
      have hopx := HOP.out l[k] (List.getElem_mem _)
      obtain ⟨x, HXX⟩ := hid_ex l[k]
      rw [HXX.out] at hd ho hopx
      have hsn : Hid ((l.take (k + 1)).filter (fun x => !hsT u x) = (l.take k).filter (fun x => !hsT u x) ++ if hsT u x = true then [] else [x]) := by
        show _ = _
        rw [List.take_succ_eq_append_getElem hlt, HXX.out, List.filter_append]
        cases e : hsT u x <;> simp [e]
      have hlen : Hid (zs.length ≤ 1000) := by
        show _ ≤ _
        have h1 := congrArg List.length HZ.out
        rw [List.length_map] at h1
        have h2 := List.length_filter_le (fun x => !hsT u x) (l.take k)
        rw [List.length_take] at h2
        omega
      have z := tx_size x sl
      have hsl := ho.one
      obtain ⟨w5, HW⟩ : ∃ w5, (wr.alloc (.cells z17 34)).setRow wr.heap.size (txc x.p x.s x.v x.t sl).toArray = w5 := ⟨_, rfl⟩
      obtain ⟨R3, hb3, hsz3⟩ := box_tx wr x sl HW
      have hBsz : w4.heap.size ≤ wr.heap.size := hb.size
      have r3 := R3.range 0 (txc x.p x.s x.v x.t sl) (fun j v h => by simpa using h)
      have rd := R3.range 0 [.int .i64 x.p, .int .i64 x.s] (fun j v h => by
        match j, h with
        | 0, h => simpa [txc] using h
        | 1, h => simpa [txc] using h)
      have ho3 := ho.later hb3
      have HO3 : Hid (OwnT w5 w4.heap.size (.slice vp vn vc) zs) := HO.out.later hb3
      have hB3 : Below w4.heap.size w4 w5 := hb.trans (hb3.mono hBsz)
      have A3 : At w5 w.heap.size u := G0.out.later hB3
      clear HXX HO hb ho
      go_upto_region 9 with (first | refine load_m 34 _ rfl rfl _ _ rfl hd Try.underlying34 rfl z ?_ | refine store_tx rfl _ _ rfl _ x sl rfl rfl hsl (rw_new wr 34 z17) rfl ?_)
      try rw [HW]
      clear HW hd hb3
      go_wp2_with (first | refine load_at rfl _ rfl _ rfl A3 ?_ | refine load_dm _ rfl rfl _ _ rfl rd ?_)
      refine (has_any u x.p x.s w5 hu13).mono ?_
      rintro e w6 ⟨rfl, hb6⟩
      have HO6 : Hid (OwnT w6 w4.heap.size (.slice vp vn vc) zs) := HO3.out.later hb6
      have hB6 : Below w4.heap.size w4 w6 := hB3.trans (hb6.mono hB3.size)
      have r6 := range_later r3 hb6
      have ho6 := ho3.later hb6
      clear HO3 hB3 ho3 r3 rd A3 R3 hb6
      obtain ⟨hd, HH⟩ := hid_ex (hs u x.p x.s)
      rw [show hs u x.p x.s = hd from HH.out]
      rw [show hsT u x = hd from HH.out] at hsn
      clear HH
      cases hd with
      | true =>
        go_wp2_with fail
        go_roundw
        case rel => exact ⟨k + 1, _, zs, rfl, by simp, by omega, ⟨_, _, _, rfl⟩, (by show _ = _; rw [hsn.out, HZ.out]; simp), HO6, hB6⟩
        case measure => simp [intOf]; omega
      | false =>
        go_wp2_with (refine load_m 34 _ rfl rfl _ _ rfl r6 Try.underlying34 rfl z ?_)
        refine (copyTx_any x sl w6 ho6 hopx).mono ?_
        rintro e w7 ⟨sl', rfl, hO, hb7⟩
        have one' := (own_oh hO).one
        have hBw : w4.heap.size ≤ w6.heap.size := hB6.size
        have hb8 : Below w7.heap.size w7 (w7.alloc (.cells (txc x.p x.s x.v x.t sl').toArray 34)) := bel_alloc (Below.refl _ _) _
        have HO8 : Hid (OwnT (w7.alloc (.cells (txc x.p x.s x.v x.t sl').toArray 34)) w4.heap.size (.slice vp vn vc) zs) := (HO6.out.later hb7).later hb8
        have O8 : Hid (ORow (w7.alloc (.cells (txc x.p x.s x.v x.t sl').toArray 34)) w4.heap.size sl' x.ops) := own_later (hO.base hBw) hb8
        have ra : Hid ((w7.alloc (.cells (txc x.p x.s x.v x.t sl').toArray 34)).rangeAt w7.heap.size 0 (T.cells (x, sl'))) := (rw_new w7 34 _).range 0 _ (fun j v h => by simpa [T.cells] using h)
        have hB7 : Below w4.heap.size w4 w7 := hB6.trans (hb7.mono hBw)
        have hB8 : Below w4.heap.size w4 (w7.alloc (.cells (txc x.p x.s x.v x.t sl').toArray 34)) := hB7.trans (hb8.mono hB7.size)
        have hBz : w4.heap.size ≤ (w7.alloc (.cells (txc x.p x.s x.v x.t sl').toArray 34)).heap.size := hB8.size
        have hb1 := build_one x sl' one' w7
        clear HO6 hB6 hO hb7 hb8 hB7 r6 ho6
        rename_i K2 hK2
        show K2 _ _
        refine hK2 _ _ ?_
        refine build_at rfl _ rfl rfl hb1 ?_
        clear hK2
        refine app_at rfl _ _ rfl rfl rfl HO8.out ra.out O8.out hlen.out hBz ?_
        intro v9 w9 hO9 hg9 hv9
        have hB9 : Below w4.heap.size w4 w9 := hB8.grown hg9 hBz fun b e => (HO8.out.block e).1
        have HO9 : Hid (OwnT w9 w4.heap.size v9 (zs ++ [(x, sl')])) := hO9
        have HZ9 : Hid ((zs ++ [(x, sl')]).map (·.1) = (l.take (k + 1)).filter fun x => !hsT u x) := by
          show _ = _
          rw [hsn.out, List.map_append, HZ.out]
          simp
        obtain ⟨p9, n9, c9, rfl⟩ := hv9
        clear HO8 O8 ra hB8 hBz hb1 hg9 hO9
        go_wp2_with fail
        go_roundw
        case rel => exact ⟨k + 1, _, _, rfl, by simp, by omega, ⟨_, _, _, rfl⟩, HZ9, HO9, hB9⟩
        case measure => simp [intOf]; omega
    · obtain rfl : k = l.length := by omega
      have hb' := hb
      have hO' := HO.out
      have hZ' := HZ.out
      rw [List.take_length] at hZ'
      have g1 := G1'.out.later hb'
      have g0 := G0.out.later hb'
      have gZ := GZ.out.later hb'
      have gO := G2'.out.later hb'
      have gK : wr.heap[D]? = some (.deferred (some [])) := (hb'.block D (Array.getElem?_eq_some_iff.1 GK.out).1).trans GK.out
      have gB := GB.out.trans (hb'.mono GB.out.size)
      clear HO HZ hb
      go_upto_region 12 with fail
      have hS0 : wr.drew.cell? ⟨w.heap.size + 1 + 1, 0, none⟩ = some (.slice gp gn gc) ∧ wr.drew.rangeAt w.heap.size 0 (vals u) := ⟨g1.drew.cell 0, g0.drew.range⟩
      have hS1 : (wr.drew.setRow (w.heap.size + 1) (vals u).toArray).cell? ⟨w.heap.size + 1 + 1, 0, none⟩ = some (.slice gp gn gc) ∧ (wr.drew.setRow (w.heap.size + 1) (vals u).toArray).rangeAt w.heap.size 0 (vals u) := ⟨(g1.drew.rowOther (by omega) _).cell 0, (g0.drew.rowOther (by omega) _).range⟩
      refine wp_normal ?_
      refine HeldI.region (fun w' => w'.cell? ⟨w.heap.size + 1 + 1, 0, none⟩ = some (.slice gp gn gc) ∧ w'.rangeAt w.heap.size 0 (vals u)) (by kernel_rfl) ?_
      refine HeldI.ce 0 (fun _ h => h.1) hS0 ?_
      refine HeldI.pu 1 hS0 ?_
      refine HeldI.lm 2 (info_vals hu13) (fun _ h => h.2) Try.underlying26 hS0 ?_
      refine HeldI.pu 3 hS0 ?_
      refine HeldI.pu 4 hS0 ?_
      refine HeldI.ss 5 (gZ.drew.store hu13) hS1 ?_
      refine HeldI.dn ?_
      have gD : (wr.drew.setRow (w.heap.size + 1) (vals u).toArray).heap[D]? = some (.deferred (some [])) := (setRow_other _ _ _ _ (show D ≠ w.heap.size + 1 from fun e => by
        have h1 := gZ.2
        rw [← e] at h1
        rw [h1] at gK
        cases gK)).trans gK
      have hkk : ∀ (b : Nat) (o : Obj), wr.heap[b]? = some o → qx o = true → ((wr.drew.setRow (w.heap.size + 1) (vals u).toArray).putObj D (.deferred none)).heap[b]? = some o := fun b o h1 h2 => by
        have n1 : b ≠ D := fun e => by
          subst e
          rw [gK] at h1
          cases h1
          cases h2
        have n2 : b ≠ w.heap.size + 1 := fun e => by
          subst e
          have h3 := gZ.2
          rw [h3] at h1
          cases h1
          cases h2
        exact (World.putObj_heap_other n1).trans ((setRow_other _ _ _ _ n2).trans h1)
      have gZ2 : At ((wr.drew.setRow (w.heap.size + 1) (vals u).toArray).putObj D (.deferred none)) (w.heap.size + 1) u := ⟨hu13, (World.putObj_heap_other fun e => by
        have h1 := (gZ.drew.row hu13).2
        have h3 := gD
        rw [← e] at h3
        rw [h1] at h3
        cases h3).trans (gZ.drew.row hu13).2⟩
      have hbf : Below w.heap.size w ((wr.drew.setRow (w.heap.size + 1) (vals u).toArray).putObj D (.deferred none)) := (below_setRow gB.drew (g := w.heap.size + 1) (by omega) _).trans ⟨rfl, rfl, rfl, by simp, fun b hb => World.putObj_heap_other (by omega)⟩
      rename_i K hKK
      show K _ _
      refine hKK _ _ ?_
      clear hKK
      refine wp_ret ?_
      refine ⟨by simp, .inl ⟨_, _, rfl, run_takeDeferred gD, ?_⟩⟩
      change LeavesIn Fence.wide 1 Try.prog Try.f8 _ (DrPost v l w) [] .returning _
      refine ⟨_, results_ttr (fn := Try.f8) (s := 4) (t := 5) (r := 6) (ty := 26) rfl rfl gZ2.2 rfl Try.underlying26 (by rw [vals_size, hu13]; exact size26), ?_⟩
      refine ⟨.slice gp gn gc, .slice vp vn vc, gz, zs, by rw [hHV.out]; rfl, G3'.out, by rw [hZ', drL, hHV.out], gO.keep hkk, (hO'.base (by have := GB.out.size; omega)).keep hkk, hbf⟩
end Go.Proofs.Ytfiamiflkfdhoaa
