/- OpsTell: what the statement answers. -/
import Derived.Test.YtiijkoefhmohcaaHeads
import Derived.Test.YtiijkoefhmohcaaSml
import Derived.Test.YtiijkoefhmohcaaRefTxs
import Derived.Test.YtiijkoefhmohcaaRefRes
namespace Go.Proofs.Ytiijkoefhmohcaa
open Go.RowKit

theorem six_rows (w : World) (c1 : Array Value) (t1 : TypeId) (c2 : Array Value) (t2 : TypeId) (c3 : Array Value) (t3 : TypeId) (c4 : Array Value) (t4 : TypeId) (c5 : Array Value) (t5 : TypeId) (c6 : Array Value) (t6 : TypeId) :
    Rw ((((((w.alloc (.cells c1 t1)).alloc (.cells c2 t2)).alloc (.cells c3 t3)).alloc (.cells c4 t4)).alloc (.cells c5 t5)).alloc (.cells c6 t6)) w.heap.size t1 c1 ∧
    Rw ((((((w.alloc (.cells c1 t1)).alloc (.cells c2 t2)).alloc (.cells c3 t3)).alloc (.cells c4 t4)).alloc (.cells c5 t5)).alloc (.cells c6 t6)) (w.heap.size + 1) t2 c2 ∧
    Rw ((((((w.alloc (.cells c1 t1)).alloc (.cells c2 t2)).alloc (.cells c3 t3)).alloc (.cells c4 t4)).alloc (.cells c5 t5)).alloc (.cells c6 t6)) (w.heap.size + 1 + 1) t3 c3 ∧
    Rw ((((((w.alloc (.cells c1 t1)).alloc (.cells c2 t2)).alloc (.cells c3 t3)).alloc (.cells c4 t4)).alloc (.cells c5 t5)).alloc (.cells c6 t6)) (w.heap.size + 1 + 1 + 1) t4 c4 ∧
    Rw ((((((w.alloc (.cells c1 t1)).alloc (.cells c2 t2)).alloc (.cells c3 t3)).alloc (.cells c4 t4)).alloc (.cells c5 t5)).alloc (.cells c6 t6)) (w.heap.size + 1 + 1 + 1 + 1) t5 c5 ∧
    Rw ((((((w.alloc (.cells c1 t1)).alloc (.cells c2 t2)).alloc (.cells c3 t3)).alloc (.cells c4 t4)).alloc (.cells c5 t5)).alloc (.cells c6 t6)) (w.heap.size + 1 + 1 + 1 + 1 + 1) t6 c6 ∧
    Below w.heap.size w ((((((w.alloc (.cells c1 t1)).alloc (.cells c2 t2)).alloc (.cells c3 t3)).alloc (.cells c4 t4)).alloc (.cells c5 t5)).alloc (.cells c6 t6)) :=
  ⟨(((((rw_new w t1 c1).alloc _).alloc _).alloc _).alloc _).alloc _, ((((rw_next _ (by simp) t2 c2).alloc _).alloc _).alloc _).alloc _, (((rw_next _ (by simp) t3 c3).alloc _).alloc _).alloc _, ((rw_next _ (by simp) t4 c4).alloc _).alloc _, (rw_next _ (by simp) t5 c5).alloc _, rw_next _ (by simp) t6 c6,
    bel_alloc (bel_alloc (bel_alloc (bel_alloc (bel_alloc (bel_alloc (Below.refl _ _) _) _) _) _) _) _⟩
/-- What is known of a value: it is no slice, or the one that was handed in, or it holds the resolved ops. -/
def TDr (sl : Value) (l : List O) (v : Value) (w : World) : Prop := nosl v = true ∨ v = sl ∨ OIs w v l
theorem TDr.later {sl : Value} {l : List O} (v : Value) (w w' : World) (h : TDr sl l v w) (hb : Below w.heap.size w w') : TDr sl l v w' := by
  rcases h with h | h | h
  · exact .inl h
  · exact .inr (.inl h)
  · exact .inr (.inr (h.later hb))
/-- A slice that is not the one that was handed in, but where that is empty. -/
def New (sl : Value) (l : List O) (v : Value) : Prop := nosl v = false ∧ (v = sl → l = [])
theorem knownr_all {sl : Value} {l : List O} {ac : Act} (h : ac.tmps.toList.all nosl = true) (w : World) : Tame.Known (TDr sl l) ac w := by
  intro t
  refine .inl ?_
  rw [Array.getD_eq_getD_getElem?]
  rcases Nat.lt_or_ge t ac.tmps.size with hlt | hge
  · rw [Array.getElem?_eq_getElem hlt]
    exact List.all_eq_true.1 h _ (by simp)
  · rw [Array.getElem?_eq_none hge]
    rfl
theorem new_has {sl : Value} {l : List O} {a b : Int} {v : Value} {w : World} (hn : New sl l v) (ht : TDr sl (rvs a b l) v w) (hs : OIs w sl l) : OHas w v (rvs a b l) := by
  rcases ht with h | h | h
  · rw [hn.1] at h; cases h
  · subst h
    have e := hn.2 rfl
    subst e
    exact hs.has
  · exact h.has
theorem new_ex (sl : Value) (l : List O) : ∃ v, New sl l v := by
  by_cases h : sl = .slice none 0 0
  · exact ⟨.slice none 0 1, rfl, fun e => by rw [h] at e; simp at e⟩
  · exact ⟨.slice none 0 0, rfl, fun e => absurd e.symm h⟩
theorem Tame.loadW {ops : Array Oper} {S : World → Prop} {T : Value → World → Prop} {K : Act → Prop} {o : Oper} {l : List Oper} {E : Type} {G : E → Prop} {f : E → Act} {b : Nat} {cs : Array Value} (t : TypeId) {d : TypeDesc} (hu : Try.prog.underlying t = some d) (hd : d.isRow = true) (hi : (Try.prog.info? t).map (·.size) = some cs.size) (hw : ∀ p, Region.wanted o (yielded ops (f p).tmps) = true) (x : Operand) (ho : o.op = .load t x)
    (hx : ∀ p, (f p).eval x = .pointer (some ⟨b, 0, none⟩)) (hS : ∀ w, S w → Rw w b t cs) (hT : ∀ w, T (.agg cs) w) (h : Tame.tameList Try.prog ops S T K l (Tame.fam G fun p => (f p).put o.dst (.agg cs))) : Tame.tameList Try.prog ops S T K (o :: l) (Tame.fam G f) :=
  Tame.pure hw (fun p _ w hw' => by unfold execOp; simp only [ho, hx p, Sem.run_bind, (hS w hw').loadAt hd hu hi, Result.andThen_ok, Sem.run_pure]) hT h
theorem Tame.enter3 {P : Program} {E : Type} {f : E → Act} {o : Oper} {fn : FuncId} {ts : Array TypeId} {x y z : E → Value} {u v t : Operand}
    (ho : o.op = .call { callee := .value (.func fn), args := #[u, v, t], argTypes := ts }) (hu : ∀ p, (f p).eval u = x p) (hv : ∀ p, (f p).eval v = y p) (ht : ∀ p, (f p).eval t = z p) (hf : Calm.enters P fn = true) (p : E) (w : World) : (execOp (f p).eval o).run P w = .ok (.enter fn #[x p, y p, z p]) w := by
  have e : ∀ args, (callFunc fn args).run P w = .ok (.enter fn args) w := fun args => Calm.enters_run hf args w
  rw [← hu p, ← hv p, ← ht p]
  unfold execOp
  simp [ho, go_sem, Act.eval, e]
theorem Tame.call3 {P : Program} {ops : Array Oper} {S : World → Prop} {T : Value → World → Prop} {K : Act → Prop} {E : Type} {G : E → Prop} {f : E → Act} {o : Oper} {l : List Oper} {r : Value} {fn : FuncId} {ts : Array TypeId} {x y z : E → Value} {u v t : Operand} (hw : ∀ p, Region.wanted o (yielded ops (f p).tmps) = true)
    (ho : o.op = .call { callee := .value (.func fn), args := #[u, v, t], argTypes := ts }) (hu : ∀ p, (f p).eval u = x p) (hv : ∀ p, (f p).eval v = y p) (ht : ∀ p, (f p).eval t = z p) (hf : Calm.enters P fn = true) (hT : ∀ w, T r w)
    (hc : ∀ p w, G p → S w → (∀ t, Operand.tmp t ∈ o.op.operands → T ((f p).eval (.tmp t)) w) → Calls P fn #[x p, y p, z p] w fun e w' => e = .returned r ∧ Below w.heap.size w w')
    (h : Tame.tameList P ops S T K l (Tame.fam G fun p => (f p).put o.dst r)) : Tame.tameList P ops S T K (o :: l) (Tame.fam G f) :=
  Tame.fixed r (fun p hp => .inl ⟨hw p, fun w hS ht' => by
    rw [Tame.enter3 ho hu hv ht hf p w]
    exact (hc p w hp hS ht').mono fun e w' he => ⟨r, he.1, rfl, hT w', he.2⟩⟩) h
/-- What Resolve hands back is new. -/
theorem res_new {sl : Value} {l m : List O} {u : Value} {B : Nat} {w w' : World} (hs : OIs w sl l) (hB : ∀ a n c, sl = .slice (some a) n c → 0 < l.length → a.block < B) (hw : B ≤ w.heap.size) (hu : OIs w' u m) (hf : Fr w u) : New sl l u := by
  refine ⟨?_, fun e => ?_⟩
  · obtain ⟨_, _, e, _⟩ := hu.has
    rw [e]
    rfl
  · cases l with
    | nil => rfl
    | cons x l =>
      exfalso
      obtain ⟨_, ⟨h1, h2⟩ | ⟨ad, c, h1, h2⟩⟩ := hs
      · cases h2
      · have h3 := hB ad _ c h1 (by simp)
        have h4 := hf ad _ c (e.trans h1)
        omega

set_option maxHeartbeats 16000000 in
set_option maxRecDepth 100000 in
theorem tell_any (k : Int) (key field : ByteArray) (inner act n : Int) (text : ByteArray) (pl : Int) (x : O) (p s : Int) (v : List Int) (t : Int) (sl : Value) (l : List O) (mp ms mi kp ks ki idx a b : Int) (w : World) (hv : v.length = 13) (ho : OIs w sl l) :
    Calls Try.prog 4 #[UV k key field inner act n text pl, x.val, TxV p s v t sl, MV mp ms mi, MV kp ks ki, .int .i64 idx, D a b] w (Tells (.bool true) w) := by
  have hB : ∀ a n c, sl = .slice (some a) n c → 0 < l.length → a.block < w.heap.size := by
    intro ad n c e h0
    obtain ⟨_, ⟨_, h2⟩ | ⟨ad', c', h1, h2⟩⟩ := ho
    · rw [h2] at h0; simp at h0
    · obtain ⟨g, o, e2, hd⟩ := h2 h0
      rw [h1] at e
      simp only [Value.slice.injEq, Option.some.injEq] at e
      rw [← e.1, e2]
      have := hd 0 h0 0 _ rfl
      rcases Nat.lt_or_ge g w.heap.size with h' | h'
      · exact h'
      · simp [World.cell?, Array.getElem?_eq_none h'] at this
  have CM := fun (w1 : World) (h : OHas w1 sl l) => small_any p s v t sl l w1 hv h
  have CH := heads_any
  have C11 := fun w => checkUpdate_any k key field inner act n text pl w
  have C12 := fun w => refUpdate_any k key field inner act n text pl w
  have C13 := fun w => checkOp_any x.k x.key x.field x.inner x.act x.n x.text x.p x.s x.i w
  have C14 := fun w => refOp_any x.k x.key x.field x.inner x.act x.n x.text x.p x.s x.i w
  have C15 := fun (w1 : World) (h : OHas w1 sl l) => checkTx_any p s v t sl l w1 hv h
  have C16 := fun (w1 : World) (h : OHas w1 sl l) => refCheckTx_any p s v t sl l w1 hv h
  have C17 := fun (w1 : World) (h : OHas w1 sl l) => checkOpen_any p s v t sl l w1 hv h
  have C18 := fun (w1 : World) (h : OHas w1 sl l) => refCheckOpen_any p s v t sl l w1 hv h
  have C19 := fun w => before_any mp ms mi p s v t sl idx w hv
  have C20 := fun w => refBefore_any mp ms mi p s v t sl idx w hv
  have C21 := fun w => less_any mp ms mi kp ks ki w
  have C22 := fun w => refLess_any mp ms mi kp ks ki w
  generalize cu k key field inner act n text pl = x1 at C11 C12
  generalize co x.k x.key x.field x.inner x.act x.n x.text x.p x.s x.i = x2 at C13 C14
  generalize ct p s v t l = x3 at C15 C16
  generalize cop p s v t l = x4 at C17 C18
  generalize bf mp ms mi p s v idx = x5 at C19 C20
  generalize ls mp ms mi kp ks ki = x6 at C21 C22
  obtain ⟨R0, R1, R2, R3, R4, R5, hbel⟩ := six_rows w #[.int .i64 k, .string key, .string field, .int .i64 inner, .int .i64 act, .int .i64 n, .string text, .int .i64 pl] 39 #[.int .i64 x.k, .string x.key, .string x.field, .int .i64 x.inner, .int .i64 x.act, .int .i64 x.n, .string x.text, .int .i64 x.p, .int .i64 x.s, .int .i64 x.i] 35 (txc p s v t sl).toArray 28 #[.int .i64 mp, .int .i64 ms, .int .i64 mi] 33 #[.int .i64 kp, .int .i64 ks, .int .i64 ki] 33 #[.int .i64 a, .int .i64 b] 23
  have hbel0 := hbel
  generalize hW : (((((w.alloc (.cells #[.int .i64 k, .string key, .string field, .int .i64 inner, .int .i64 act, .int .i64 n, .string text, .int .i64 pl] 39)).alloc (.cells #[.int .i64 x.k, .string x.key, .string x.field, .int .i64 x.inner, .int .i64 x.act, .int .i64 x.n, .string x.text, .int .i64 x.p, .int .i64 x.s, .int .i64 x.i] 35)).alloc (.cells (txc p s v t sl).toArray 28)).alloc (.cells #[.int .i64 mp, .int .i64 ms, .int .i64 mi] 33)).alloc (.cells #[.int .i64 kp, .int .i64 ks, .int .i64 ki] 33)).alloc (.cells #[.int .i64 a, .int .i64 b] 23) = w0 at R0 R1 R2 R3 R4 R5 hbel hbel0
  have HW : Hid ((((((w.alloc (.cells #[.int .i64 k, .string key, .string field, .int .i64 inner, .int .i64 act, .int .i64 n, .string text, .int .i64 pl] 39)).alloc (.cells #[.int .i64 x.k, .string x.key, .string x.field, .int .i64 x.inner, .int .i64 x.act, .int .i64 x.n, .string x.text, .int .i64 x.p, .int .i64 x.s, .int .i64 x.i] 35)).alloc (.cells (txc p s v t sl).toArray 28)).alloc (.cells #[.int .i64 mp, .int .i64 ms, .int .i64 mi] 33)).alloc (.cells #[.int .i64 kp, .int .i64 ks, .int .i64 ki] 33)).alloc (.cells #[.int .i64 a, .int .i64 b] 23) = w0) := hW
  clear hW
  replace ho := ho.later hbel0
  clear hbel0
  have k1 : w0.cell? ⟨w.heap.size, 1, none⟩ = some (.string key) := R0.cell 1
  have k2 : w0.cell? ⟨w.heap.size, 2, none⟩ = some (.string field) := R0.cell 2
  have k6 : w0.cell? ⟨w.heap.size, 6, none⟩ = some (.string text) := R0.cell 6
  have o1 : w0.cell? ⟨w.heap.size + 1, 1, none⟩ = some (.string x.key) := R1.cell 1
  have o2 : w0.cell? ⟨w.heap.size + 1, 2, none⟩ = some (.string x.field) := R1.cell 2
  have o6 : w0.cell? ⟨w.heap.size + 1, 6, none⟩ = some (.string x.text) := R1.cell 6
  have zt := size_tx (p := p) (s := s) (t := t) (sl := sl) hv
  obtain ⟨g1, G1⟩ := hid_ex (decide (100 < (key.size : Int)))
  obtain ⟨g2, G2⟩ := hid_ex (decide (100 < (field.size : Int)))
  obtain ⟨g3, G3⟩ := hid_ex (decide (100 < (text.size : Int)))
  obtain ⟨g4, G4⟩ := hid_ex (decide (100 < (x.key.size : Int)))
  obtain ⟨g5, G5⟩ := hid_ex (decide (100 < (x.field.size : Int)))
  obtain ⟨g6, G6⟩ := hid_ex (decide (100 < (x.text.size : Int)))
  have j1 := G1.out
  have j2 := G2.out
  have j3 := G3.out
  have j4 := G4.out
  have j5 := G5.out
  have j6 := G6.out
  clear G1 G2 G3 G4 G5 G6
  cases g1
  case true =>
    go_enter Try.func4, Try.ntmps4
    go_wp2_with (rw [HW.out])
    refine (CH _).mono ?_
    rintro e wh ⟨rfl, hbh⟩
    go_wp2_with fail
    go_ret
    exact ⟨rfl, below_on hbel hbh⟩
  cases g2
  case true =>
    go_enter Try.func4, Try.ntmps4
    go_wp2_with (rw [HW.out])
    refine (CH _).mono ?_
    rintro e wh ⟨rfl, hbh⟩
    go_wp2_with fail
    go_ret
    exact ⟨rfl, below_on hbel hbh⟩
  cases g3
  case true =>
    go_enter Try.func4, Try.ntmps4
    go_wp2_with (rw [HW.out])
    refine (CH _).mono ?_
    rintro e wh ⟨rfl, hbh⟩
    go_wp2_with fail
    go_ret
    exact ⟨rfl, below_on hbel hbh⟩
  cases g4
  case true =>
    go_enter Try.func4, Try.ntmps4
    go_wp2_with (rw [HW.out])
    refine (CH _).mono ?_
    rintro e wh ⟨rfl, hbh⟩
    go_wp2_with fail
    go_ret
    exact ⟨rfl, below_on hbel hbh⟩
  cases g5
  case true =>
    go_enter Try.func4, Try.ntmps4
    go_wp2_with (rw [HW.out])
    refine (CH _).mono ?_
    rintro e wh ⟨rfl, hbh⟩
    go_wp2_with fail
    go_ret
    exact ⟨rfl, below_on hbel hbh⟩
  cases g6
  case true =>
    go_enter Try.func4, Try.ntmps4
    go_wp2_with (rw [HW.out])
    refine (CH _).mono ?_
    rintro e wh ⟨rfl, hbh⟩
    go_wp2_with fail
    go_ret
    exact ⟨rfl, below_on hbel hbh⟩
  go_enter Try.func4, Try.ntmps4
  go_wp2_with (first | rw [HW.out] | refine load_r 28 _ rfl rfl _ rfl R2 Try.underlying28 rfl zt ?_)
  refine (CM _ ho.has).mono ?_
  rintro e w1 ⟨sm, rfl, hx, hb1⟩
  clear HW CM k1 k2 k6 o1 o2 o6 j1 j2 j3 j4 j5 j6
  replace R0 := R0.later hb1
  replace R1 := R1.later hb1
  replace R2 := R2.later hb1
  replace R3 := R3.later hb1
  replace R4 := R4.later hb1
  replace R5 := R5.later hb1
  replace ho := ho.later hb1
  replace hbel := below_on hbel hb1
  clear hb1
  cases sm
  · clear hx
    go_wp2_with fail
    refine (CH _).mono ?_
    rintro e wh ⟨rfl, hbh⟩
    go_wp2_with fail
    go_ret
    exact ⟨rfl, below_on hbel hbh⟩
  have h40 := hx (by trivial)
  clear hx
  go_wp2_with fail
  have c16 := tx_ops R2 hv
  have CE : ∀ (u1 u2 : Value) (w : World), OHas w u1 (rvs a b l) → OHas w u2 (rvs a b l) → Calls Try.prog 10 #[u1, u2] w (Tells (.bool true) w) := by
    intro u1 u2 w h1 h2
    have e : leqb (rvs a b l) (rvs a b l) = true := (leqb_iff _ _).2 rfl
    rw [← e]
    exact opsEq_any _ _ _ _ w h1 h2
  refine Tame.region (by kernel_rfl) (by kernel_rfl) (fun w' => Rw w' (w.heap.size) 39 #[.int .i64 k, .string key, .string field, .int .i64 inner, .int .i64 act, .int .i64 n, .string text, .int .i64 pl] ∧ Rw w' (w.heap.size + 1) 35 #[.int .i64 x.k, .string x.key, .string x.field, .int .i64 x.inner, .int .i64 x.act, .int .i64 x.n, .string x.text, .int .i64 x.p, .int .i64 x.s, .int .i64 x.i] ∧ Rw w' (w.heap.size + 1 + 1) 28 (txc p s v t sl).toArray ∧ Rw w' (w.heap.size + 1 + 1 + 1) 33 #[.int .i64 mp, .int .i64 ms, .int .i64 mi] ∧ Rw w' (w.heap.size + 1 + 1 + 1 + 1) 33 #[.int .i64 kp, .int .i64 ks, .int .i64 ki] ∧ Rw w' (w.heap.size + 1 + 1 + 1 + 1 + 1) 23 #[.int .i64 a, .int .i64 b] ∧ w'.cell? ⟨w.heap.size + 1 + 1, 16, none⟩ = some sl ∧ OIs w' sl l ∧ Below w.heap.size w w') (TDr sl (rvs a b l))
    (fun wa wb h hb => ⟨h.1.later hb, h.2.1.later hb, h.2.2.1.later hb, h.2.2.2.1.later hb, h.2.2.2.2.1.later hb, h.2.2.2.2.2.1.later hb, cell_later hb h.2.2.2.2.2.2.1, h.2.2.2.2.2.2.2.1.later hb, below_on h.2.2.2.2.2.2.2.2 hb⟩) TDr.later (fun _ => .inl rfl) ⟨R0, R1, R2, R3, R4, R5, c16, ho, hbel.drew⟩ (knownr_all (by rfl) _) ?_
  clear R0 R1 R2 R3 R4 R5 c16 ho hbel
  refine Tame.loadW (cs := #[.int .i64 k, .string key, .string field, .int .i64 inner, .int .i64 act, .int .i64 n, .string text, .int .i64 pl]) 39 Try.underlying39 rfl size39 (fun _ => by rfl) _ rfl (fun _ => rfl) (fun _ h => h.1) (fun _ => .inl rfl) ?_
  simp only [Act.put, List.setIfInBounds_toArray, List.set_cons_zero, List.set_cons_succ]
  refine Tame.call1 (fun _ => by rfl) rfl (fun _ => rfl) (by kernel_rfl) (fun _ => .inl rfl) (fun _ w _ hS _ => C11 w) ?_
  simp only [Act.put, List.setIfInBounds_toArray, List.set_cons_zero, List.set_cons_succ]
  refine Tame.loadW (cs := #[.int .i64 k, .string key, .string field, .int .i64 inner, .int .i64 act, .int .i64 n, .string text, .int .i64 pl]) 39 Try.underlying39 rfl size39 (fun _ => by rfl) _ rfl (fun _ => rfl) (fun _ h => h.1) (fun _ => .inl rfl) ?_
  simp only [Act.put, List.setIfInBounds_toArray, List.set_cons_zero, List.set_cons_succ]
  refine Tame.call1 (fun _ => by rfl) rfl (fun _ => rfl) (by kernel_rfl) (fun _ => .inl rfl) (fun _ w _ hS _ => C12 w) ?_
  simp only [Act.put, List.setIfInBounds_toArray, List.set_cons_zero, List.set_cons_succ]
  refine Tame.pure (v := ?_) (fun _ => by rfl) ?_ ?_ ?_
  rotate_left
  focus (intro p hp w hSw; go_simp <;> rfl)
  focus (intro w; exact .inl rfl)
  simp only [Act.put, List.setIfInBounds_toArray, List.set_cons_zero, List.set_cons_succ]
  refine Tame.pure (v := ?_) (fun _ => by rfl) ?_ ?_ ?_
  rotate_left
  focus (intro p hp w hSw; go_simp <;> rfl)
  focus (intro w; exact .inl rfl)
  simp only [Act.put, List.setIfInBounds_toArray, List.set_cons_zero, List.set_cons_succ]
  refine Tame.loadW (cs := #[.int .i64 x.k, .string x.key, .string x.field, .int .i64 x.inner, .int .i64 x.act, .int .i64 x.n, .string x.text, .int .i64 x.p, .int .i64 x.s, .int .i64 x.i]) 35 Try.underlying35 rfl size35 (fun _ => by rfl) _ rfl (fun _ => rfl) (fun _ h => h.2.1) (fun _ => .inl rfl) ?_
  simp only [Act.put, List.setIfInBounds_toArray, List.set_cons_zero, List.set_cons_succ]
  refine Tame.call1 (fun _ => by rfl) rfl (fun _ => rfl) (by kernel_rfl) (fun _ => .inl rfl) (fun _ w _ hS _ => C13 w) ?_
  simp only [Act.put, List.setIfInBounds_toArray, List.set_cons_zero, List.set_cons_succ]
  refine Tame.loadW (cs := #[.int .i64 x.k, .string x.key, .string x.field, .int .i64 x.inner, .int .i64 x.act, .int .i64 x.n, .string x.text, .int .i64 x.p, .int .i64 x.s, .int .i64 x.i]) 35 Try.underlying35 rfl size35 (fun _ => by rfl) _ rfl (fun _ => rfl) (fun _ h => h.2.1) (fun _ => .inl rfl) ?_
  simp only [Act.put, List.setIfInBounds_toArray, List.set_cons_zero, List.set_cons_succ]
  refine Tame.call1 (fun _ => by rfl) rfl (fun _ => rfl) (by kernel_rfl) (fun _ => .inl rfl) (fun _ w _ hS _ => C14 w) ?_
  simp only [Act.put, List.setIfInBounds_toArray, List.set_cons_zero, List.set_cons_succ]
  refine Tame.pure (v := ?_) (fun _ => by rfl) ?_ ?_ ?_
  rotate_left
  focus (intro p hp w hSw; go_simp <;> rfl)
  focus (intro w; exact .inl rfl)
  simp only [Act.put, List.setIfInBounds_toArray, List.set_cons_zero, List.set_cons_succ]
  refine Tame.pure (v := ?_) (fun _ => by rfl) ?_ ?_ ?_
  rotate_left
  focus (intro p hp w hSw; go_simp <;> rfl)
  focus (intro w; exact .inl rfl)
  simp only [Act.put, List.setIfInBounds_toArray, List.set_cons_zero, List.set_cons_succ]
  refine Tame.pure (v := ?_) (fun _ => by rfl) ?_ ?_ ?_
  rotate_left
  focus (intro p hp w hSw; go_simp <;> rfl)
  focus (intro w; exact .inl rfl)
  simp only [Act.put, List.setIfInBounds_toArray, List.set_cons_zero, List.set_cons_succ]
  refine Tame.loadW (cs := (txc p s v t sl).toArray) 28 Try.underlying28 rfl zt (fun _ => by rfl) _ rfl (fun _ => rfl) (fun _ h => h.2.2.1) (fun _ => .inl rfl) ?_
  simp only [Act.put, List.setIfInBounds_toArray, List.set_cons_zero, List.set_cons_succ]
  refine Tame.call1 (fun _ => by rfl) rfl (fun _ => rfl) (by kernel_rfl) (fun _ => .inl rfl) (fun _ w _ hS _ => C15 w hS.2.2.2.2.2.2.2.1.has) ?_
  simp only [Act.put, List.setIfInBounds_toArray, List.set_cons_zero, List.set_cons_succ]
  refine Tame.loadW (cs := (txc p s v t sl).toArray) 28 Try.underlying28 rfl zt (fun _ => by rfl) _ rfl (fun _ => rfl) (fun _ h => h.2.2.1) (fun _ => .inl rfl) ?_
  simp only [Act.put, List.setIfInBounds_toArray, List.set_cons_zero, List.set_cons_succ]
  refine Tame.call1 (fun _ => by rfl) rfl (fun _ => rfl) (by kernel_rfl) (fun _ => .inl rfl) (fun _ w _ hS _ => C16 w hS.2.2.2.2.2.2.2.1.has) ?_
  simp only [Act.put, List.setIfInBounds_toArray, List.set_cons_zero, List.set_cons_succ]
  refine Tame.pure (v := ?_) (fun _ => by rfl) ?_ ?_ ?_
  rotate_left
  focus (intro p hp w hSw; go_simp <;> rfl)
  focus (intro w; exact .inl rfl)
  simp only [Act.put, List.setIfInBounds_toArray, List.set_cons_zero, List.set_cons_succ]
  refine Tame.pure (v := ?_) (fun _ => by rfl) ?_ ?_ ?_
  rotate_left
  focus (intro p hp w hSw; go_simp <;> rfl)
  focus (intro w; exact .inl rfl)
  simp only [Act.put, List.setIfInBounds_toArray, List.set_cons_zero, List.set_cons_succ]
  refine Tame.pure (v := ?_) (fun _ => by rfl) ?_ ?_ ?_
  rotate_left
  focus (intro p hp w hSw; go_simp <;> rfl)
  focus (intro w; exact .inl rfl)
  simp only [Act.put, List.setIfInBounds_toArray, List.set_cons_zero, List.set_cons_succ]
  refine Tame.loadW (cs := (txc p s v t sl).toArray) 28 Try.underlying28 rfl zt (fun _ => by rfl) _ rfl (fun _ => rfl) (fun _ h => h.2.2.1) (fun _ => .inl rfl) ?_
  simp only [Act.put, List.setIfInBounds_toArray, List.set_cons_zero, List.set_cons_succ]
  refine Tame.call1 (fun _ => by rfl) rfl (fun _ => rfl) (by kernel_rfl) (fun _ => .inl rfl) (fun _ w _ hS _ => C17 w hS.2.2.2.2.2.2.2.1.has) ?_
  simp only [Act.put, List.setIfInBounds_toArray, List.set_cons_zero, List.set_cons_succ]
  refine Tame.loadW (cs := (txc p s v t sl).toArray) 28 Try.underlying28 rfl zt (fun _ => by rfl) _ rfl (fun _ => rfl) (fun _ h => h.2.2.1) (fun _ => .inl rfl) ?_
  simp only [Act.put, List.setIfInBounds_toArray, List.set_cons_zero, List.set_cons_succ]
  refine Tame.call1 (fun _ => by rfl) rfl (fun _ => rfl) (by kernel_rfl) (fun _ => .inl rfl) (fun _ w _ hS _ => C18 w hS.2.2.2.2.2.2.2.1.has) ?_
  simp only [Act.put, List.setIfInBounds_toArray, List.set_cons_zero, List.set_cons_succ]
  refine Tame.pure (v := ?_) (fun _ => by rfl) ?_ ?_ ?_
  rotate_left
  focus (intro p hp w hSw; go_simp <;> rfl)
  focus (intro w; exact .inl rfl)
  simp only [Act.put, List.setIfInBounds_toArray, List.set_cons_zero, List.set_cons_succ]
  refine Tame.pure (v := ?_) (fun _ => by rfl) ?_ ?_ ?_
  rotate_left
  focus (intro p hp w hSw; go_simp <;> rfl)
  focus (intro w; exact .inl rfl)
  simp only [Act.put, List.setIfInBounds_toArray, List.set_cons_zero, List.set_cons_succ]
  refine Tame.pure (v := ?_) (fun _ => by rfl) ?_ ?_ ?_
  rotate_left
  focus (intro p hp w hSw; go_simp <;> rfl)
  focus (intro w; exact .inl rfl)
  simp only [Act.put, List.setIfInBounds_toArray, List.set_cons_zero, List.set_cons_succ]
  refine Tame.loadW (cs := #[.int .i64 mp, .int .i64 ms, .int .i64 mi]) 33 Try.underlying33 rfl size33 (fun _ => by rfl) _ rfl (fun _ => rfl) (fun _ h => h.2.2.2.1) (fun _ => .inl rfl) ?_
  simp only [Act.put, List.setIfInBounds_toArray, List.set_cons_zero, List.set_cons_succ]
  refine Tame.loadW (cs := (txc p s v t sl).toArray) 28 Try.underlying28 rfl zt (fun _ => by rfl) _ rfl (fun _ => rfl) (fun _ h => h.2.2.1) (fun _ => .inl rfl) ?_
  simp only [Act.put, List.setIfInBounds_toArray, List.set_cons_zero, List.set_cons_succ]
  refine Tame.pure (v := ?_) (fun _ => by rfl) ?_ ?_ ?_
  rotate_left
  focus (intro p hp w hSw; go_simp <;> rfl)
  focus (intro w; exact .inl rfl)
  simp only [Act.put, List.setIfInBounds_toArray, List.set_cons_zero, List.set_cons_succ]
  refine Tame.call3 (fun _ => by rfl) rfl (fun _ => rfl) (fun _ => rfl) (fun _ => rfl) (by kernel_rfl) (fun _ => .inl rfl) (fun _ w _ hS _ => C19 w) ?_
  simp only [Act.put, List.setIfInBounds_toArray, List.set_cons_zero, List.set_cons_succ]
  refine Tame.loadW (cs := #[.int .i64 mp, .int .i64 ms, .int .i64 mi]) 33 Try.underlying33 rfl size33 (fun _ => by rfl) _ rfl (fun _ => rfl) (fun _ h => h.2.2.2.1) (fun _ => .inl rfl) ?_
  simp only [Act.put, List.setIfInBounds_toArray, List.set_cons_zero, List.set_cons_succ]
  refine Tame.loadW (cs := (txc p s v t sl).toArray) 28 Try.underlying28 rfl zt (fun _ => by rfl) _ rfl (fun _ => rfl) (fun _ h => h.2.2.1) (fun _ => .inl rfl) ?_
  simp only [Act.put, List.setIfInBounds_toArray, List.set_cons_zero, List.set_cons_succ]
  refine Tame.pure (v := ?_) (fun _ => by rfl) ?_ ?_ ?_
  rotate_left
  focus (intro p hp w hSw; go_simp <;> rfl)
  focus (intro w; exact .inl rfl)
  simp only [Act.put, List.setIfInBounds_toArray, List.set_cons_zero, List.set_cons_succ]
  refine Tame.call3 (fun _ => by rfl) rfl (fun _ => rfl) (fun _ => rfl) (fun _ => rfl) (by kernel_rfl) (fun _ => .inl rfl) (fun _ w _ hS _ => C20 w) ?_
  simp only [Act.put, List.setIfInBounds_toArray, List.set_cons_zero, List.set_cons_succ]
  refine Tame.pure (v := ?_) (fun _ => by rfl) ?_ ?_ ?_
  rotate_left
  focus (intro p hp w hSw; go_simp <;> rfl)
  focus (intro w; exact .inl rfl)
  simp only [Act.put, List.setIfInBounds_toArray, List.set_cons_zero, List.set_cons_succ]
  refine Tame.pure (v := ?_) (fun _ => by rfl) ?_ ?_ ?_
  rotate_left
  focus (intro p hp w hSw; go_simp <;> rfl)
  focus (intro w; exact .inl rfl)
  simp only [Act.put, List.setIfInBounds_toArray, List.set_cons_zero, List.set_cons_succ]
  refine Tame.pure (v := ?_) (fun _ => by rfl) ?_ ?_ ?_
  rotate_left
  focus (intro p hp w hSw; go_simp <;> rfl)
  focus (intro w; exact .inl rfl)
  simp only [Act.put, List.setIfInBounds_toArray, List.set_cons_zero, List.set_cons_succ]
  refine Tame.loadW (cs := #[.int .i64 mp, .int .i64 ms, .int .i64 mi]) 33 Try.underlying33 rfl size33 (fun _ => by rfl) _ rfl (fun _ => rfl) (fun _ h => h.2.2.2.1) (fun _ => .inl rfl) ?_
  simp only [Act.put, List.setIfInBounds_toArray, List.set_cons_zero, List.set_cons_succ]
  refine Tame.loadW (cs := #[.int .i64 kp, .int .i64 ks, .int .i64 ki]) 33 Try.underlying33 rfl size33 (fun _ => by rfl) _ rfl (fun _ => rfl) (fun _ h => h.2.2.2.2.1) (fun _ => .inl rfl) ?_
  simp only [Act.put, List.setIfInBounds_toArray, List.set_cons_zero, List.set_cons_succ]
  refine Tame.call2 (fun _ => by rfl) rfl (fun _ => rfl) (fun _ => rfl) (by kernel_rfl) (fun _ => .inl rfl) (fun _ w _ hS _ => C21 w) ?_
  simp only [Act.put, List.setIfInBounds_toArray, List.set_cons_zero, List.set_cons_succ]
  refine Tame.loadW (cs := #[.int .i64 mp, .int .i64 ms, .int .i64 mi]) 33 Try.underlying33 rfl size33 (fun _ => by rfl) _ rfl (fun _ => rfl) (fun _ h => h.2.2.2.1) (fun _ => .inl rfl) ?_
  simp only [Act.put, List.setIfInBounds_toArray, List.set_cons_zero, List.set_cons_succ]
  refine Tame.loadW (cs := #[.int .i64 kp, .int .i64 ks, .int .i64 ki]) 33 Try.underlying33 rfl size33 (fun _ => by rfl) _ rfl (fun _ => rfl) (fun _ h => h.2.2.2.2.1) (fun _ => .inl rfl) ?_
  simp only [Act.put, List.setIfInBounds_toArray, List.set_cons_zero, List.set_cons_succ]
  refine Tame.call2 (fun _ => by rfl) rfl (fun _ => rfl) (fun _ => rfl) (by kernel_rfl) (fun _ => .inl rfl) (fun _ w _ hS _ => C22 w) ?_
  simp only [Act.put, List.setIfInBounds_toArray, List.set_cons_zero, List.set_cons_succ]
  refine Tame.pure (v := ?_) (fun _ => by rfl) ?_ ?_ ?_
  rotate_left
  focus (intro p hp w hSw; go_simp <;> rfl)
  focus (intro w; exact .inl rfl)
  simp only [Act.put, List.setIfInBounds_toArray, List.set_cons_zero, List.set_cons_succ]
  refine Tame.pure (v := ?_) (fun _ => by rfl) ?_ ?_ ?_
  rotate_left
  focus (intro p hp w hSw; go_simp <;> rfl)
  focus (intro w; exact .inl rfl)
  simp only [Act.put, List.setIfInBounds_toArray, List.set_cons_zero, List.set_cons_succ]
  refine Tame.pure (v := ?_) (fun _ => by rfl) ?_ ?_ ?_
  rotate_left
  focus (intro p hp w hSw; go_simp <;> rfl)
  focus (intro w; exact .inl rfl)
  simp only [Act.put, List.setIfInBounds_toArray, List.set_cons_zero, List.set_cons_succ]
  refine Tame.pure (v := ?_) (fun _ => by rfl) ?_ ?_ ?_
  rotate_left
  focus (intro p hp w hSw; go_simp <;> rfl)
  focus (intro w; exact .inl rfl)
  simp only [Act.put, List.setIfInBounds_toArray, List.set_cons_zero, List.set_cons_succ]
  refine Tame.pure (v := sl) (fun _ => by rfl) ?_ ?_ ?_
  focus (intro p hp w hSw; go_simp <;> rfl)
  focus (intro w; exact .inr (.inl rfl))
  simp only [Act.put, List.setIfInBounds_toArray, List.set_cons_zero, List.set_cons_succ]
  refine Tame.loadW (cs := #[.int .i64 a, .int .i64 b]) 23 Try.underlying23 rfl size23 (fun _ => by rfl) _ rfl (fun _ => rfl) (fun _ h => h.2.2.2.2.2.1) (fun _ => .inl rfl) ?_
  simp only [Act.put, List.setIfInBounds_toArray, List.set_cons_zero, List.set_cons_succ]
  refine Tame.callNew2 (New sl l) (new_ex sl l) (fun _ => by rfl) rfl (fun _ => rfl) (fun _ => rfl) (by kernel_rfl) (fun p w hp hS ht => (resolve_any sl l a b w hS.2.2.2.2.2.2.2.1 h40).mono fun e w' ⟨u, he, hu, hf, hb⟩ => ⟨u, he, res_new hS.2.2.2.2.2.2.2.1 hB hS.2.2.2.2.2.2.2.2.size hu hf, .inr (.inr hu), hb⟩) ?_
  simp only [Act.put, List.setIfInBounds_toArray, List.set_cons_zero, List.set_cons_succ]
  refine Tame.pure (v := ?_) (fun _ => by rfl) ?_ ?_ ?_
  rotate_left
  focus (intro p hp w hSw; go_simp <;> rfl)
  focus (intro w; exact .inl rfl)
  simp only [Act.put, List.setIfInBounds_toArray, List.set_cons_zero, List.set_cons_succ]
  refine Tame.pure (v := sl) (fun _ => by rfl) ?_ ?_ ?_
  focus (intro p hp w hSw; go_simp <;> rfl)
  focus (intro w; exact .inr (.inl rfl))
  simp only [Act.put, List.setIfInBounds_toArray, List.set_cons_zero, List.set_cons_succ]
  refine Tame.loadW (cs := #[.int .i64 a, .int .i64 b]) 23 Try.underlying23 rfl size23 (fun _ => by rfl) _ rfl (fun _ => rfl) (fun _ h => h.2.2.2.2.2.1) (fun _ => .inl rfl) ?_
  simp only [Act.put, List.setIfInBounds_toArray, List.set_cons_zero, List.set_cons_succ]
  refine Tame.callNew2 (New sl l) (new_ex sl l) (fun _ => by rfl) rfl (fun _ => rfl) (fun _ => rfl) (by kernel_rfl) (fun p w hp hS ht => (refResolve_any sl l a b w hS.2.2.2.2.2.2.2.1 h40).mono fun e w' ⟨u, he, hu, hf, hb⟩ => ⟨u, he, res_new hS.2.2.2.2.2.2.2.1 hB hS.2.2.2.2.2.2.2.2.size hu hf, .inr (.inr hu), hb⟩) ?_
  simp only [Act.put, List.setIfInBounds_toArray, List.set_cons_zero, List.set_cons_succ]
  refine Tame.call2 (fun _ => by rfl) rfl (fun _ => rfl) (fun _ => rfl) (by kernel_rfl) (fun _ => .inl rfl) (fun p w hp hS ht => CE _ _ w (new_has hp.1.2 (ht 105 (by simp [Op.operands, Call.operands])) hS.2.2.2.2.2.2.2.1) (new_has hp.2 (ht 109 (by simp [Op.operands, Call.operands])) hS.2.2.2.2.2.2.2.1)) ?_
  simp only [Act.put, List.setIfInBounds_toArray, List.set_cons_zero, List.set_cons_succ]
  refine Tame.pure (v := ?_) (fun _ => by rfl) ?_ ?_ ?_
  rotate_left
  focus (intro p hp w hSw; go_simp <;> rfl)
  focus (intro w; exact .inl rfl)
  simp only [Act.put, List.setIfInBounds_toArray, List.set_cons_zero, List.set_cons_succ]
  refine Tame.pure (v := ?_) (fun _ => by rfl) ?_ ?_ ?_
  rotate_left
  focus (intro p hp w hSw; go_simp <;> rfl)
  focus (intro w; exact .inl rfl)
  simp only [Act.put, List.setIfInBounds_toArray, List.set_cons_zero, List.set_cons_succ]
  refine Tame.call0 (fun _ => by rfl) rfl (by kernel_rfl) (fun _ => .inl rfl) (fun _ w _ hS _ => CH w) ?_
  simp only [Act.put, List.setIfInBounds_toArray, List.set_cons_zero, List.set_cons_succ]
  refine Tame.pure (v := ?_) (fun _ => by rfl) ?_ ?_ ?_
  rotate_left
  focus (intro p hp w hSw; go_simp <;> rfl)
  focus (intro w; exact .inl rfl)
  simp only [Act.put, List.setIfInBounds_toArray, List.set_cons_zero, List.set_cons_succ]
  refine Tame.pure (v := ?_) (fun _ => by rfl) ?_ ?_ ?_
  rotate_left
  focus (intro p hp w hSw; go_simp <;> rfl)
  focus (intro w; exact .inl rfl)
  simp only [Act.put, List.setIfInBounds_toArray, List.set_cons_zero, List.set_cons_succ]
  refine Tame.done fun p hp w9 hS9 => ?_
  have hbel9 := hS9.2.2.2.2.2.2.2.2
  clear hS9
  go_wp2_with fail
  go_ret
  exact ⟨rfl, hbel9⟩
end Go.Proofs.Ytiijkoefhmohcaa
