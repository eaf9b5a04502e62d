import Derived.Test.YtcebchjokmampaaP1
import Derived.Deep.MidRow
import Derived.Test.YtcebchjokmampaaP2
import Derived.Test.YtcebchjokmampaaP3
import Derived.Deep.Cut
import Derived.Maps.AppendAt
/- The moves of a region that draws its order, each in one word: what is left to be shown of each is done where it is called. Nothing of one program. -/
namespace Go.Proofs.Ytcebchjokmampaa.Calm

section
variable {P : Program} {ops : Array Oper} {S : World → Prop} {K : Act → Prop} {o : Oper} {l : List Oper} {a a' : Act}
/-- Passed over. -/
theorem sk (h : calmList P ops S K l a') (hw : Region.wanted o (yielded ops a.tmps) = false := by rfl)
    (hp : a.put o.dst undef = a' := by (simp only [Act.put, List.setIfInBounds_toArray, List.set_cons_zero, List.set_cons_succ]; rfl)) : calmList P ops S K (o :: l) a :=
  skip hw (hp ▸ h)
/-- Run to a value. -/
theorem pu {v : Value} (h : calmList P ops S K l a') (hw : Region.wanted o (yielded ops a.tmps) = true := by rfl)
    (hv : ∀ w, S w → (execOp a.eval o).run P w = .ok (.value v) w := by (intro w hSw; go_simp <;> rfl))
    (hp : a.put o.dst v = a' := by (simp only [Act.put, List.setIfInBounds_toArray, List.set_cons_zero, List.set_cons_succ]; rfl)) : calmList P ops S K (o :: l) a :=
  pure hw hv (hp ▸ h)
/-- A load of what a cell holds. -/
theorem ce {v : Value} {ad : Addr} (g : ∀ w, S w → w.cell? ad = some v) (h : calmList P ops S K l a') (hw : Region.wanted o (yielded ops a.tmps) = true := by rfl)
    (hv : ∀ w, S w → w.cell? ad = some v → (execOp a.eval o).run P w = .ok (.value v) w := by (intro w hSw g1; go_simp))
    (hp : a.put o.dst v = a' := by (simp only [Act.put, List.setIfInBounds_toArray, List.set_cons_zero, List.set_cons_succ]; rfl)) : calmList P ops S K (o :: l) a :=
  pure hw (fun w hS => hv w hS (g w hS)) (hp ▸ h)
/-- By a fact of the world. -/
theorem cl {v : Value} {p : World → Prop} (g : ∀ w, S w → p w) (h : calmList P ops S K l a') (hw : Region.wanted o (yielded ops a.tmps) = true := by rfl)
    (hv : ∀ w, S w → p w → (execOp a.eval o).run P w = .ok (.value v) w := by (intro w hSw g1; go_simp <;> rfl))
    (hp : a.put o.dst v = a' := by (simp only [Act.put, List.setIfInBounds_toArray, List.set_cons_zero, List.set_cons_succ]; rfl)) : calmList P ops S K (o :: l) a :=
  pure hw (fun w hS => hv w hS (g w hS)) (hp ▸ h)
theorem cs {v : Value} {p : World → Prop} (g : ∀ w, S w → p w) (h : calmList P ops S K l a') (hw : Region.wanted o (yielded ops a.tmps) = true := by rfl)
    (hv : ∀ w, S w → p w → (execOp a.eval o).run P w = .ok (.value v) w := by (intro w hSw g1; simp at g1; go_simp <;> rfl))
    (hp : a.put o.dst v = a' := by (simp only [Act.put, List.setIfInBounds_toArray, List.set_cons_zero, List.set_cons_succ]; rfl)) : calmList P ops S K (o :: l) a :=
  pure hw (fun w hS => hv w hS (g w hS)) (hp ▸ h)
/-- A load of a struct. -/
theorem lm {b f : Nat} {cs : List Value} {t : TypeId} {d : TypeDesc} {x : Operand} (hi : (P.info? t).map (·.size) = some cs.length) (hS : ∀ w, S w → w.rangeAt b f cs) (hu : P.underlying t = some d) (h : calmList P ops S K l a') (hw : Region.wanted o (yielded ops a.tmps) = true := by rfl)
    (ho : o.op = .load t x := by rfl) (hx : a.eval x = .pointer (some ⟨b, f, none⟩) := by rfl) (hd : d.isRow = true := by rfl)
    (hp : a.put o.dst (.agg cs.toArray) = a' := by (simp only [Act.put, List.setIfInBounds_toArray, List.set_cons_zero, List.set_cons_succ]; rfl)) : calmList P ops S K (o :: l) a :=
  pure hw (fun w hw' => by
    have h2 := run_loadVar_mid (P := P) w b f t cs d (hS w hw') hu hd hi
    unfold execOp
    simp only [ho, hx, Instr.loadAt, Instr.sureAddr, Sem.run_bind, Sem.run_pure, h2, Result.andThen_ok]) (hp ▸ h)
/-- Calls of functions by their names, whose contracts may ask for S; of a function that a slot holds. -/
theorem k0 {r : Value} {f : FuncId} {ts : Array TypeId} (hs : Stays S) (hc : ∀ w, S w → Calls P f #[] w fun e w' => e = .returned r ∧ RowKit.Below w.heap.size w w') (h : calmList P ops S K l a') (hw : Region.wanted o (yielded ops a.tmps) = true := by rfl) (ho : o.op = .call { callee := .value (.func f), args := #[], argTypes := ts } := by rfl)  (hf : enters P f = true := by kernel_rfl)
    (hp : a.put o.dst r = a' := by (simp only [Act.put, List.setIfInBounds_toArray, List.set_cons_zero, List.set_cons_succ]; rfl)) : calmList P ops S K (o :: l) a :=
  call (f := f) (args := #[]) hw (fun w => by
    have e : ∀ args, (callFunc f args).run P w = .ok (.enter f args) w := fun args => enters_run hf args w
    unfold execOp
    simp [ho, go_sem, Act.eval, e]) (fun w hS => (hc w hS).mono fun e w' he => ⟨he.1, hs w w' hS he.2⟩) (hp ▸ h)
theorem k1 {r x : Value} {f : FuncId} {ts : Array TypeId} {u : Operand} (hs : Stays S) (hc : ∀ w, S w → Calls P f #[x] w fun e w' => e = .returned r ∧ RowKit.Below w.heap.size w w') (h : calmList P ops S K l a') (hw : Region.wanted o (yielded ops a.tmps) = true := by rfl) (ho : o.op = .call { callee := .value (.func f), args := #[u], argTypes := ts } := by rfl) (hu : a.eval u = x := by rfl) (hf : enters P f = true := by kernel_rfl)
    (hp : a.put o.dst r = a' := by (simp only [Act.put, List.setIfInBounds_toArray, List.set_cons_zero, List.set_cons_succ]; rfl)) : calmList P ops S K (o :: l) a :=
  call (f := f) (args := #[x]) hw (fun w => by
    have e : ∀ args, (callFunc f args).run P w = .ok (.enter f args) w := fun args => enters_run hf args w
    subst hu
    unfold execOp
    simp [ho, go_sem, Act.eval, e]) (fun w hS => (hc w hS).mono fun e w' he => ⟨he.1, hs w w' hS he.2⟩) (hp ▸ h)
theorem k2 {r x y : Value} {f : FuncId} {ts : Array TypeId} {u v : Operand} (hs : Stays S) (hc : ∀ w, S w → Calls P f #[x, y] w fun e w' => e = .returned r ∧ RowKit.Below w.heap.size w w') (h : calmList P ops S K l a') (hw : Region.wanted o (yielded ops a.tmps) = true := by rfl) (ho : o.op = .call { callee := .value (.func f), args := #[u, v], argTypes := ts } := by rfl) (hu : a.eval u = x := by rfl) (hv : a.eval v = y := by rfl) (hf : enters P f = true := by kernel_rfl)
    (hp : a.put o.dst r = a' := by (simp only [Act.put, List.setIfInBounds_toArray, List.set_cons_zero, List.set_cons_succ]; rfl)) : calmList P ops S K (o :: l) a :=
  call (f := f) (args := #[x, y]) hw (fun w => by
    have e : ∀ args, (callFunc f args).run P w = .ok (.enter f args) w := fun args => enters_run hf args w
    subst hu
    subst hv
    unfold execOp
    simp [ho, go_sem, Act.eval, e]) (fun w hS => (hc w hS).mono fun e w' he => ⟨he.1, hs w w' hS he.2⟩) (hp ▸ h)
theorem k3 {r x y z : Value} {f : FuncId} {ts : Array TypeId} {u v t : Operand} (hs : Stays S) (hc : ∀ w, S w → Calls P f #[x, y, z] w fun e w' => e = .returned r ∧ RowKit.Below w.heap.size w w') (h : calmList P ops S K l a') (hw : Region.wanted o (yielded ops a.tmps) = true := by rfl) (ho : o.op = .call { callee := .value (.func f), args := #[u, v, t], argTypes := ts } := by rfl) (hu : a.eval u = x := by rfl) (hv : a.eval v = y := by rfl) (ht : a.eval t = z := by rfl) (hf : enters P f = true := by kernel_rfl)
    (hp : a.put o.dst r = a' := by (simp only [Act.put, List.setIfInBounds_toArray, List.set_cons_zero, List.set_cons_succ]; rfl)) : calmList P ops S K (o :: l) a :=
  call (f := f) (args := #[x, y, z]) hw (fun w => by
    have e : ∀ args, (callFunc f args).run P w = .ok (.enter f args) w := fun args => enters_run hf args w
    subst hu
    subst hv
    subst ht
    unfold execOp
    simp [ho, go_sem, Act.eval, e]) (fun w hS => (hc w hS).mono fun e w' he => ⟨he.1, hs w w' hS he.2⟩) (hp ▸ h)
theorem k4 {r x y z q : Value} {f : FuncId} {ts : Array TypeId} {u v t n : Operand} (hs : Stays S) (hc : ∀ w, S w → Calls P f #[x, y, z, q] w fun e w' => e = .returned r ∧ RowKit.Below w.heap.size w w') (h : calmList P ops S K l a') (hw : Region.wanted o (yielded ops a.tmps) = true := by rfl) (ho : o.op = .call { callee := .value (.func f), args := #[u, v, t, n], argTypes := ts } := by rfl) (hu : a.eval u = x := by rfl) (hv : a.eval v = y := by rfl) (ht : a.eval t = z := by rfl) (hn : a.eval n = q := by rfl) (hf : enters P f = true := by kernel_rfl)
    (hp : a.put o.dst r = a' := by (simp only [Act.put, List.setIfInBounds_toArray, List.set_cons_zero, List.set_cons_succ]; rfl)) : calmList P ops S K (o :: l) a :=
  call (f := f) (args := #[x, y, z, q]) hw (fun w => by
    have e : ∀ args, (callFunc f args).run P w = .ok (.enter f args) w := fun args => enters_run hf args w
    subst hu
    subst hv
    subst ht
    subst hn
    unfold execOp
    simp [ho, go_sem, Act.eval, e]) (fun w hS => (hc w hS).mono fun e w' he => ⟨he.1, hs w w' hS he.2⟩) (hp ▸ h)
theorem kf1 {r x : Value} {f : FuncId} {ts : Array TypeId} {uf u : Operand} (hs : Stays S) (hc : ∀ w, S w → Calls P f #[x] w fun e w' => e = .returned r ∧ RowKit.Below w.heap.size w w') (h : calmList P ops S K l a') (hw : Region.wanted o (yielded ops a.tmps) = true := by rfl) (ho : o.op = .call { callee := .value uf, args := #[u], argTypes := ts } := by rfl) (hv : a.eval uf = .func (.func f) #[] #[] := by rfl) (hu : a.eval u = x := by rfl) (hf : enters P f = true := by kernel_rfl)
    (hp : a.put o.dst r = a' := by (simp only [Act.put, List.setIfInBounds_toArray, List.set_cons_zero, List.set_cons_succ]; rfl)) : calmList P ops S K (o :: l) a :=
  call (f := f) (args := #[x]) hw (fun w => by
    have e : ∀ args, (callFunc f args).run P w = .ok (.enter f args) w := fun args => enters_run hf args w
    generalize a.eval = ρ at hv hu ⊢
    subst hu
    unfold execOp
    simp [ho, go_sem, hv, e]) (fun w hS => (hc w hS).mono fun e w' he => ⟨he.1, hs w w' hS he.2⟩) (hp ▸ h)
end
end Go.Proofs.Ytcebchjokmampaa.Calm
/- Same and Rows of the document's answer: the same transactions, the same rows of them. -/
namespace Go.Proofs.Ytcebchjokmampaa
open Go.RowKit

/-- Two transactions are one. -/
def T.eqb (a b : T) : Bool := decide (a.p = b.p) && decide (a.s = b.s) && (a.v == b.v) && decide (a.t = b.t) && leqb a.ops b.ops
theorem T.eqb_iff (a b : T) : a.eqb b = true ↔ a = b := by
  obtain ⟨p, s, v, t, ops, hv⟩ := a
  obtain ⟨p', s', v', t', ops', hv'⟩ := b
  simp [T.eqb, leqb_iff]
  constructor
  · rintro ⟨⟨⟨⟨rfl, rfl⟩, rfl⟩, rfl⟩, rfl⟩
    exact ⟨rfl, rfl, rfl, rfl, rfl⟩
  · rintro ⟨rfl, rfl, rfl, rfl, rfl⟩
    exact ⟨⟨⟨⟨rfl, rfl⟩, rfl⟩, rfl⟩, rfl⟩
/-- Two rows of transactions are one. -/
def rwb : List T → List T → Bool
  | [], [] => true
  | a :: l, b :: m => a.eqb b && rwb l m
  | _, _ => false
theorem rwb_iff : ∀ l m : List T, rwb l m = true ↔ l = m
  | [], [] => by simp [rwb]
  | [], _ :: _ => by simp [rwb]
  | _ :: _, [] => by simp [rwb]
  | a :: l, b :: m => by simp [rwb, rwb_iff l m, T.eqb_iff]
set_option maxHeartbeats 4000000 in
set_option maxRecDepth 100000 in
theorem same_any (x y : T) (v1 v2 : Value) (w : World) (h1 : OHas w v1 x.ops) (h2 : OHas w v2 y.ops) : Calls Try.prog 28 #[TxV x.p x.s x.v x.t v1, TxV y.p y.s y.v y.t v2] w (Tells (.bool (x.eqb y)) w) := by
  obtain ⟨R1, R2, hbel⟩ := two_rows w (txc x.p x.s x.v x.t v1).toArray 43 (txc y.p y.s y.v y.t v2).toArray 43
  generalize hW : (w.alloc (.cells (txc x.p x.s x.v x.t v1).toArray 43)).alloc (.cells (txc y.p y.s y.v y.t v2).toArray 43) = w0 at R1 R2 hbel
  have dx := tx_dot R1
  have dy := tx_dot R2
  have ex := tx_vec R1
  have ey := tx_vec R2
  have c1 := tx_time R1 x.hv
  have c2 := tx_time R2 y.hv
  have c3 := tx_ops R1 x.hv
  have c4 := tx_ops R2 y.hv
  have E := fun w => eq_dot w x.p x.s y.p y.s
  have F := fun w => eq_arrays w x.v y.v x.hv y.hv
  have z1 := info23 x.hv
  have z2 := info23 y.hv
  have d1 := zd x.p x.s
  have d2 := zd y.p y.s
  have C := opsEq_any v1 v2 x.ops y.ops w0 (h1.later hbel) (h2.later hbel)
  obtain ⟨r, HR⟩ := hid_ex (x.eqb y)
  unfold T.eqb at HR
  obtain ⟨r1, H1⟩ := hid_ex (decide (x.p = y.p) && decide (x.s = y.s))
  obtain ⟨r2, H2⟩ := hid_ex (x.v == y.v)
  obtain ⟨r4, H4⟩ := hid_ex (leqb x.ops y.ops)
  simp only [H1.out] at E
  simp only [H2.out] at F
  rw [H4.out] at C
  have HR' : Hid ((r1 && r2 && decide (x.t = y.t) && r4) = r) := by
    have := HR.out
    rw [H1.out, H2.out, H4.out] at this
    exact this
  have HG : x.eqb y = r := HR.out
  rw [HG]
  clear HG HR H1 H2 H4 h1 h2
  go_enter Try.func28, Try.ntmps28
  go_upto_region 1 with (rw [hW])
  clear hW
  cases r1
  · obtain rfl : false = r := by simpa using HR'.out
    go_wp2_with (first | refine load_m 40 _ rfl rfl _ _ rfl dx Try.underlying40 rfl d1 ?_ | refine load_m 40 _ rfl rfl _ _ rfl dy Try.underlying40 rfl d2 ?_)
    go_ret
    exact ⟨rfl, hbel⟩
  · cases r2
    · obtain rfl : false = r := by simpa using HR'.out
      go_wp2_with (first | refine load_m 40 _ rfl rfl _ _ rfl dx Try.underlying40 rfl d1 ?_ | refine load_m 40 _ rfl rfl _ _ rfl dy Try.underlying40 rfl d2 ?_ | refine load_m 23 _ rfl rfl _ _ rfl ex Try.underlying23 rfl z1 ?_ | refine load_m 23 _ rfl rfl _ _ rfl ey Try.underlying23 rfl z2 ?_)
      go_ret
      exact ⟨rfl, hbel⟩
    · by_cases ht : x.t = y.t
      · obtain rfl : r4 = r := by simpa [ht] using HR'.out
        go_wp2_with (first | refine load_m 40 _ rfl rfl _ _ rfl dx Try.underlying40 rfl d1 ?_ | refine load_m 40 _ rfl rfl _ _ rfl dy Try.underlying40 rfl d2 ?_ | refine load_m 23 _ rfl rfl _ _ rfl ex Try.underlying23 rfl z1 ?_ | refine load_m 23 _ rfl rfl _ _ rfl ey Try.underlying23 rfl z2 ?_)
        refine C.mono ?_
        rintro e w1 ⟨rfl, hb1⟩
        go_wp2_with fail
        go_ret
        exact ⟨rfl, below_on hbel hb1⟩
      · obtain rfl : false = r := by simpa [ht] using HR'.out
        go_wp2_with (first | refine load_m 40 _ rfl rfl _ _ rfl dx Try.underlying40 rfl d1 ?_ | refine load_m 40 _ rfl rfl _ _ rfl dy Try.underlying40 rfl d2 ?_ | refine load_m 23 _ rfl rfl _ _ rfl ex Try.underlying23 rfl z1 ?_ | refine load_m 23 _ rfl rfl _ _ rfl ey Try.underlying23 rfl z2 ?_)
        go_ret
        exact ⟨rfl, hbel⟩

theorem rwb_false {l m : List T} {k : Nat} (h1 : k < l.length) (h2 : k < m.length) (h : l[k].eqb m[k] = false) : rwb l m = false := by
  cases e : rwb l m with
  | false => rfl
  | true =>
    obtain rfl := (rwb_iff l m).1 e
    rw [(T.eqb_iff _ _).2 rfl] at h
    exact h
end Go.Proofs.Ytcebchjokmampaa
/- Lists of transactions, and where they lie: what blocks they keep off; rows of them of one's own, and what is appended to these. Nothing of one function. -/
namespace Go.Proofs.Ytcebchjokmampaa
open Go.RowKit

/-- A slice that has something does not lie in that block. -/
def Off (b : Nat) (v : Value) : Prop := ∀ a n c, v = .slice (some a) n c → 0 < n → a.block ≠ b
/-- A slice of transactions, with the slices of their ops; none of them lies in certain blocks. -/
structure XAt (w : World) (v : Value) (ys : List (T × Value)) (off : Nat → Prop) : Prop where
  s : SHas 17 w v ys.length (rows T.cells ys)
  o : ∀ y ∈ ys, OHas w y.2 y.1.ops
  f : ∀ b, off b → Off b v ∧ ∀ y ∈ ys, Off b y.2
theorem range_same {w w' : World} {g o : Nat} {cs : List Value} (h : w.rangeAt g o cs) (hb : w'.heap[g]? = w.heap[g]?) : w'.rangeAt g o cs := fun j v hv => by
  rw [World.cell?_of_block (w := w) hb]
  exact h j v hv
theorem range_block {w : World} {g o : Nat} {cs : List Value} (h : w.rangeAt g o cs) (hc : 0 < cs.length) : g < w.heap.size := by
  rcases Nat.lt_or_ge g w.heap.size with h' | h'
  · exact h'
  · have := h 0 cs[0] (by simp)
    simp [World.cell?, Array.getElem?_eq_none h'] at this
section
variable {w w' : World} {v : Value} {ys : List (T × Value)} {off off' : Nat → Prop} {row : Option Nat}
theorem XAt.has (h : XAt w v ys off) : XHas w v (ys.map (·.1)) := ⟨ys, rfl, by rw [List.length_map]; exact h.s, h.o⟩
theorem XHas.xat {l : List T} (h : XHas w v l) : ∃ ys : List (T × Value), ys.map (·.1) = l ∧ XAt w v ys (fun _ => False) := by
  obtain ⟨ys, h1, h2, h3⟩ := h
  exact ⟨ys, h1, by have : l.length = ys.length := by rw [← h1, List.length_map]
                    exact this ▸ h2, h3, fun _ h => h.elim⟩
theorem XAt.later (h : XAt w v ys off) (hb : Below w.heap.size w w') : XAt w' v ys off := ⟨h.s.later hb, fun y hy => (h.o y hy).later hb, h.f⟩
theorem XAt.sub (h : XAt w v ys off) (hs : ∀ b, off' b → off b) : XAt w v ys off' := ⟨h.s, h.o, fun b hb => h.f b (hs b hb)⟩
theorem OHas.block {sl : Value} {l : List O} (h : OHas w sl l) {a : Addr} {n c : Nat} (e : sl = .slice (some a) n c) (hn : 0 < n) : a.block < w.heap.size := by
  obtain ⟨p, c', rfl, hm, hr⟩ := h
  simp only [Value.slice.injEq] at e
  obtain ⟨rfl, rfl, rfl⟩ := e
  obtain ⟨g, o, e, hd⟩ := hr hn
  simp only [Option.some.injEq] at e
  subst e
  exact range_block (hd 0 hn) (by simp)
theorem SHas.block {S n : Nat} {xs : List Value} (hS : 0 < S) (h : SHas S w v n xs) {a : Addr} {m c : Nat} (e : v = .slice (some a) m c) (hn : 0 < m) : a.block < w.heap.size := by
  obtain ⟨p, c', e2⟩ := h.slice
  rw [e2] at e
  simp only [Value.slice.injEq] at e
  obtain ⟨rfl, rfl, rfl⟩ := e
  subst e2
  obtain ⟨g, o, e, hd⟩ := h.at hn
  simp only [Option.some.injEq] at e
  subst e
  refine range_block hd ?_
  rw [h.2.1]
  exact Nat.mul_pos hn hS
/-- Nothing lies in blocks that are not there yet. -/
theorem XAt.more (h : XAt w v ys off) : XAt w v ys (fun b => off b ∨ w.heap.size ≤ b) := ⟨h.s, h.o, fun b hb => by
  rcases hb with hb | hb
  · exact h.f b hb
  · refine ⟨fun a n c e hn => ?_, fun y hy a n c e hn => ?_⟩
    · have := h.s.block (by decide) e hn
      omega
    · have := (h.o y hy).block e hn
      omega⟩
theorem OHas.grown {sl : Value} {l : List O} (h : OHas w sl l) (hg : w.grownBy w' row) (hf : ∀ b, row = some b → Off b sl) : OHas w' sl l := by
  obtain ⟨p, c, rfl, hm, hr⟩ := h
  refine ⟨p, c, rfl, hm, fun h0 => ?_⟩
  obtain ⟨g, o, rfl, hd⟩ := hr h0
  refine ⟨g, o, rfl, fun i hi => range_same (hd i hi) (hg.block g (range_block (hd i hi) (by simp)) fun e => ?_)⟩
  exact hf g e.symm _ _ _ rfl h0 rfl
theorem SHas.grown {S n : Nat} {xs : List Value} (hS : 0 < S) (h : SHas S w v n xs) (hg : w.grownBy w' row) (hf : ∀ b, row = some b → Off b v) : SHas S w' v n xs := by
  obtain ⟨hm, hl, ⟨rfl, rfl⟩ | ⟨ad, c, rfl, hc, hd⟩⟩ := h
  · exact ⟨hm, hl, .inl ⟨rfl, rfl⟩⟩
  · refine ⟨hm, hl, .inr ⟨ad, c, rfl, hc, fun h0 => ?_⟩⟩
    obtain ⟨g, o, rfl, hd2⟩ := hd h0
    refine ⟨g, o, rfl, range_same hd2 (hg.block g (range_block hd2 (by rw [hl]; exact Nat.mul_pos h0 hS)) fun e => ?_)⟩
    exact hf g e.symm _ _ _ rfl h0 rfl
theorem XAt.grown (h : XAt w v ys off) (hg : w.grownBy w' row) (hf : ∀ b, row = some b → off b) : XAt w' v ys off :=
  ⟨h.s.grown (by decide) hg fun b hb => (h.f b (hf b hb)).1, fun y hy => (h.o y hy).grown hg fun b hb => (h.f b (hf b hb)).2 y hy, h.f⟩
end
theorem grown_row (w : World) (b : Nat) (cs : Array Value) : w.grownBy (w.setRow b cs) (some b) := ⟨rfl, rfl, rfl, by simp [World.setRow], fun k _ h => setRow_other w b k cs fun e => h (by rw [e])⟩
/-- A row of transactions of one's own; their ops keep off it, and off certain blocks. -/
structure OwnX (w : World) (B : Nat) (v : Value) (ys : List (T × Value)) (off : Nat → Prop) : Prop where
  r : w.ownsRow B 43 17 v ys.length (rows T.cells ys)
  o : ∀ y ∈ ys, OHas w y.2 y.1.ops
  f : ∀ y ∈ ys, ∀ b, (v.ownBlock = some b ∨ off b) → Off b y.2
section
variable {w w' : World} {B : Nat} {v : Value} {ys zs : List (T × Value)} {off : Nat → Prop}
theorem own_later {B e S n : Nat} {xs : List Value} (h : w.ownsRow B e S v n xs) (hb : Below w.heap.size w w') : w'.ownsRow B e S v n xs := by
  refine ⟨h.1, ?_⟩
  rcases h.2 with h | ⟨g, cap, cur, e1, hbg, hg, h1, h2, h3, h4⟩
  · exact .inl h
  · exact .inr ⟨g, cap, cur, e1, hbg, (hb.block g (Array.getElem?_eq_some_iff.1 hg).1).trans hg, h1, h2, h3, h4⟩
theorem OwnX.later (h : OwnX w B v ys off) (hb : Below w.heap.size w w') : OwnX w' B v ys off := ⟨own_later h.r hb, fun y hy => (h.o y hy).later hb, h.f⟩
theorem OwnX.nil (w : World) (B : Nat) (off : Nat → Prop) : OwnX w B (.slice none 0 0) [] off := ⟨⟨rfl, .inl ⟨rfl, rfl⟩⟩, (fun _ h => by cases h), fun _ h => by cases h⟩
theorem OwnX.xat (h : OwnX w B v ys off) : XAt w v ys (fun _ => False) := ⟨own_sh h.r, h.o, fun _ h => h.elim⟩
theorem OwnX.block (h : OwnX w B v ys off) {b : Nat} (e : v.ownBlock = some b) : B ≤ b ∧ b < w.heap.size := by
  rcases h.r.2 with ⟨rfl, _⟩ | ⟨g, cap, cur, rfl, hbg, hg, _⟩
  · simp [Value.ownBlock] at e
  · simp only [Value.ownBlock, Option.some.injEq] at e
    subst e
    exact ⟨hbg, (Array.getElem?_eq_some_iff.1 hg).1⟩
/-- A block is written that is another one. -/
theorem OwnX.grown (h : OwnX w B v ys off) {q : Nat} (hg : w.grownBy w' (some q)) (hq : off q) (hne : v.ownBlock ≠ some q) : OwnX w' B v ys off := by
  refine ⟨⟨h.r.1, ?_⟩, fun y hy => (h.o y hy).grown hg fun b hb => h.f y hy b (.inr (by simp only [Option.some.injEq] at hb; exact hb ▸ hq)), h.f⟩
  rcases h.r.2 with h0 | ⟨g, cap, cur, rfl, hbg, hgg, h1, h2, h3, h4⟩
  · exact .inl h0
  · exact .inr ⟨g, cap, cur, rfl, hbg, (hg.block g (Array.getElem?_eq_some_iff.1 hgg).1 (fun e => hne (by simpa [Value.ownBlock] using e))).trans hgg, h1, h2, h3, h4⟩
theorem T.one (sl : Value) (hs : sl.oneCell' = true) (x : T) : ∀ u ∈ T.cells (x, sl), u.oneCell' = true := by
  intro u hu
  simp only [T.cells, txc, List.mem_cons, List.mem_append, vals, List.mem_map, List.not_mem_nil, or_false] at hu
  rcases hu with rfl | rfl | ⟨n, _, rfl⟩ | rfl | rfl
  · rfl
  · rfl
  · rfl
  · rfl
  · exact hs
theorem T.ones (h : ∀ y ∈ ys, OHas w y.2 y.1.ops) : ∀ u ∈ rows T.cells ys, u.oneCell' = true := by
  intro u hu
  obtain ⟨y, hy, hx⟩ := List.mem_flatMap.1 hu
  obtain ⟨p, c, e, _⟩ := h y hy
  exact T.one y.2 (by rw [e]; rfl) y.1 u hx
/-- What is there behind an append. -/
theorem OwnX.app {v' vx : Value} (h : OwnX w B v ys off) (hx : XAt w vx zs (fun b => v.ownBlock = some b ∨ off b)) (h2 : w'.ownsRow B 43 17 v' (ys.length + zs.length) (rows T.cells ys ++ rows T.cells zs)) (hg : w.grownBy w' v.ownBlock) (hb : v'.ownBlock = v.ownBlock ∨ v'.ownBlock = some w.heap.size) : OwnX w' B v' (ys ++ zs) off := by
  have hall : ∀ y ∈ ys ++ zs, OHas w y.2 y.1.ops ∧ ∀ b, (v.ownBlock = some b ∨ off b) → Off b y.2 := fun y hy => by
    rcases List.mem_append.1 hy with hy | hy
    · exact ⟨h.o y hy, h.f y hy⟩
    · exact ⟨hx.o y hy, fun b hb => (hx.f b hb).2 y hy⟩
  refine ⟨by rw [List.length_append, rows_append]; exact h2, fun y hy => (hall y hy).1.grown hg fun b hb => (hall y hy).2 b (.inl hb), fun y hy b e => ?_⟩
  rcases e with e | e
  · rcases hb with hb | hb
    · exact (hall y hy).2 b (.inl (hb ▸ e))
    · rw [hb] at e
      simp only [Option.some.injEq] at e
      subst e
      intro a n c e1 hn
      have := (hall y hy).1.block e1 hn
      omega
  · exact (hall y hy).2 b (.inr e)
end
theorem info43 : (Try.prog.info? 43).map (fun i => (i.zero, i.size, i.bytes)) = some (some (.agg #[.int .i64 0, .int .i64 0, .int .i64 0, .int .i64 0, .int .i64 0, .int .i64 0, .int .i64 0, .int .i64 0, .int .i64 0, .int .i64 0, .int .i64 0, .int .i64 0, .int .i64 0, .int .i64 0, .int .i64 0, .int .i64 0, .slice none 0 0]), 17, 152) := by kernel_rfl
theorem append_txs {ops : Array Oper} {rest : List Oper} {o : Oper} {a : Act} {Q : Exit → Act → World → Prop} {w : World} {B : Nat} {va vx : Value} {ys zs : List (T × Value)} {off : Nat → Prop} (hgd : o.guard = none) (s x : Operand) (ho : o.op = .call { callee := .builtin .append, args := #[s, x], argTypes := #[35, 35] })
    (hs : a.eval s = va) (hx : a.eval x = vx) (hown : OwnX w B va ys off) (hxs : XAt w vx zs (fun b => va.ownBlock = some b ∨ off b)) (hlen : ys.length + zs.length ≤ 100000) (hbase : B ≤ w.heap.size)
    (h : ∀ v' w', OwnX w' B v' (ys ++ zs) off → w.grownBy w' va.ownBlock → (v'.ownBlock = va.ownBlock ∨ v'.ownBlock = some w.heap.size) → wpList Try.prog ops Q rest (a.put o.dst v') w') : wpList Try.prog ops Q (o :: rest) a w := by
  obtain ⟨i, hi, e⟩ := Option.map_eq_some_iff.1 info43
  simp only [Prod.mk.injEq] at e
  have hmx : ys.length + zs.length ≤ maxLen := Nat.le_trans hlen (by decide)
  obtain ⟨hm, hl, ⟨rfl, h0⟩ | ⟨ad, c, rfl, hc, hd⟩⟩ := hxs.s
  · obtain rfl := List.length_eq_zero_iff.1 h0
    refine Go.wpList_append_own_none hgd s x 35 ho B 43 i 17 Try.underlying35 hi va ys.length _ hs hown.r hx (h va w ?_ ⟨rfl, rfl, rfl, Nat.le_refl _, fun _ _ _ => rfl⟩ (.inl rfl))
    rw [List.append_nil]
    exact hown
  · refine Go.wpList_append_own_at w hgd s x 35 ho B 43 i _ 17 152 Try.underlying35 hi e.1 e.2.1 e.2.2 rfl (by decide) va ys.length _ hs hown.r ad zs.length c (rows T.cells zs) hx hl (fun j u hu => ?_) (T.ones hxs.o) hmx (by omega) hbase fun v' w' h2 hg _ hb => h v' w' (hown.app hxs h2 hg hb) hg hb
    have hz : 0 < zs.length := by
      rcases Nat.eq_zero_or_pos zs.length with h' | h'
      · rw [h', Nat.zero_mul] at hl
        have := (List.getElem?_eq_some_iff.1 hu).1
        omega
      · exact h'
    obtain ⟨g, o', rfl, hr⟩ := hd hz
    rw [Addr.add_mid]
    exact hr j u hu
end Go.Proofs.Ytcebchjokmampaa
/- Small of the document's answer. -/
namespace Go.Proofs.Ytcebchjokmampaa
open Go.RowKit

/-- What Small tells. -/
def SmPost (n : Nat) (w : World) (e : Ending) (w' : World) : Prop := ∃ b, e = .returned (.bool b) ∧ (b = true → n ≤ 40) ∧ Below w.heap.size w w'
theorem O.str (o : O) : o.cells[1]? = some (.string o.key) ∧ o.cells[2]? = some (.string o.field) ∧ o.cells[6]? = some (.string o.text) := ⟨rfl, rfl, rfl⟩
set_option maxHeartbeats 2000000 in
set_option maxRecDepth 100000 in
theorem small_any (p s : Int) (v : List Int) (t : Int) (sl : Value) (l : List O) (w : World) (hv : v.length = 13) (ho : OHas w sl l) : Calls Try.prog 27 #[TxV p s v t sl] w (SmPost l.length w) := by
  obtain ⟨q, c, rfl, hm, hr⟩ := ho
  have hml := maxLen_lt hm
  have HR : Hid (0 < l.length → ∃ g o, q = some ⟨g, o, none⟩ ∧ ∀ i (h : i < l.length), w.rangeAt g (o + i * 10) l[i].cells) := hr
  clear hr
  have R0 := rw_new w 43 (txc p s v t (.slice q l.length c)).toArray
  have hbel : Below w.heap.size w (w.alloc (.cells (txc p s v t (.slice q l.length c)).toArray 43)) := bel_alloc (Below.refl _ _) _
  generalize hW : w.alloc (.cells (txc p s v t (.slice q l.length c)).toArray 43) = w0 at R0 hbel
  go_enter Try.func27, Try.ntmps27
  go_wp2_with (rw [hW])
  clear hW
  go_loopw [3] (fun vi wr => ∃ k : Nat, vi = .int .i64 k ∧ k ≤ l.length ∧ (l.length ≤ 40 ∨ k = 0) ∧ Rw wr w.heap.size 43 (txc p s v t (.slice q l.length c)).toArray ∧ Below w.heap.size w wr) (fun vi _ => l.length - (intOf vi).toNat)
  case atStart => exact ⟨0, rfl, by omega, .inr rfl, R0, hbel⟩
  case round =>
    clear R0 hbel
    obtain ⟨k, rfl, hk, hor, R, hbel⟩ := hrel
    have c16 := tx_ops R hv
    by_cases hle : l.length ≤ 40
    · have hle' : (l.length : Int) ≤ 40 := by omega
      by_cases hlt : k < l.length
      · have hlt' : (k : Int) < (l.length : Int) := by omega
        obtain ⟨g, o, rfl, hd⟩ := HR.out (by omega)
        have d := range_later (hd k hlt) hbel
        clear HR hd
        have hk40 : k < 40 := by omega
        generalize l[k] = x at d
        have z35 : (Try.prog.info? 57).map (·.size) = some x.cells.length := size57
        have hb2 : Below w.heap.size w (wr.alloc (.cells x.cells.toArray 57)) := bel_alloc hbel _
        have R2 := R.alloc (.cells x.cells.toArray 57)
        go_wp2_with (refine load_m 57 _ rfl rfl _ _ rfl d Try.underlying57 rfl z35 ?_)
        all_goals first
          | (go_ret; exact ⟨_, rfl, fun _ => hle, hb2⟩)
          | (go_roundw
             case rel => exact ⟨k + 1, by simp, by omega, .inl hle, R2, hb2⟩
             case measure => simp [intOf]; omega)
      · have hlt' : ¬ (k : Int) < (l.length : Int) := by omega
        clear HR
        go_wp2_with fail
        go_ret
        exact ⟨_, rfl, fun _ => hle, hbel⟩
    · obtain rfl : k = 0 := by omega
      have hle' : ¬ (l.length : Int) ≤ 40 := by omega
      have h0 : 0 < (l.length : Int) := by omega
      clear HR
      go_wp2_with fail
      go_ret
      exact ⟨_, rfl, fun h => by simp at h, hbel⟩
end Go.Proofs.Ytcebchjokmampaa
/- Few of the document's answer, of lists of transactions; which dot is ahead. -/
namespace Go.Proofs.Ytcebchjokmampaa
open Go.RowKit

/-- What Few tells. -/
def FewPost (l : List T) (w : World) (e : Ending) (w' : World) : Prop := ∃ b, e = .returned (.bool b) ∧ (b = true → l.length ≤ 40) ∧ Below w.heap.size w w'
set_option maxHeartbeats 4000000 in
set_option maxRecDepth 100000 in
theorem few_any (v : Value) (l : List T) (w : World) (h : XHas w v l) : Calls Try.prog 14 #[v] w (FewPost l w) := by
  obtain ⟨q, c, rfl⟩ := h.slice
  have hml := maxLen_lt h.max
  have H : Hid (XHas w (.slice q l.length c) l) := h
  clear h
  by_cases hle : l.length ≤ 40
  · have hle' : (l.length : Int) ≤ 40 := by omega
    go_enter Try.func14, Try.ntmps14
    go_wp2
    go_loopw [3, 4] (fun vn vi wr => ∃ (k : Nat) (n : Int), vi = .int .i64 k ∧ vn = .int .i64 n ∧ 0 ≤ n ∧ n ≤ 160 ∧ k ≤ l.length ∧ Below w.heap.size w wr) (fun _ vi _ => l.length - (intOf vi).toNat)
    case atStart => exact ⟨0, 0, rfl, rfl, by omega, by omega, by omega, Below.refl _ _⟩
    case round =>
      obtain ⟨k, n, rfl, rfl, h0, h160, hk, hbel⟩ := hrel
      by_cases hlt : k < l.length
      · have hlt' : (k : Int) < (l.length : Int) := by omega
        obtain ⟨g, o, sl, rfl, hd0, hs0⟩ := H.out.at k hlt
        have hd := range_later hd0 hbel
        have hs := hs0.later hbel
        clear hd0 hs0 H
        generalize l[k] = x at hd hs
        have hs' := hs
        obtain ⟨ps, cs, rfl, hms, _⟩ := hs'
        have c16 := at_ops hd
        have hmo := maxLen_lt hms
        obtain ⟨m, HM⟩ := hid_ex (IntKind.i64.wrap (n + (x.ops.length : Int)))
        have hm := HM.out
        have z := tx_size x (.slice ps x.ops.length cs)
        go_wp2_with (first | refine load_m 43 _ rfl rfl _ _ rfl hd Try.underlying43 rfl z ?_ | rw [hm])
        refine (small_any x.p x.s x.v x.t (.slice ps x.ops.length cs) x.ops _ x.hv hs).mono ?_
        rintro e w1 ⟨b, rfl, hb, hb1⟩
        have hbel1 := below_on hbel hb1
        cases b
        · go_wp2_with fail
          go_ret
          exact ⟨_, rfl, fun _ => hle, hbel1⟩
        · have h40 := hb rfl
          have e1 : m = n + (x.ops.length : Int) := by rw [← HM.out, IntKind.wrap_i64]; omega
          by_cases hm160 : 160 < m
          · go_wp2_with fail
            go_ret
            exact ⟨_, rfl, fun _ => hle, hbel1⟩
          · go_wp2_with fail
            go_roundw
            case rel => exact ⟨k + 1, m, by simp, by rw [e1], by omega, by omega, by omega, hbel1⟩
            case measure => simp [intOf]; omega
      · have hlt' : ¬ (k : Int) < (l.length : Int) := by omega
        clear H
        go_wp2_with fail
        go_ret
        exact ⟨_, rfl, fun _ => hle, hbel⟩
  · have hle' : ¬ (l.length : Int) ≤ 40 := by omega
    have h0 : 0 < (l.length : Int) := by omega
    go_enter Try.func14, Try.ntmps14
    go_wp2
    go_loopw [3, 4] (fun vn vi wr => vi = .int .i64 0 ∧ Below w.heap.size w wr) (fun _ _ _ => 0)
    case atStart => exact ⟨rfl, Below.refl _ _⟩
    case round =>
      obtain ⟨rfl, hbel⟩ := hrel
      go_wp2_with fail
      go_ret
      exact ⟨_, rfl, fun h => by simp at h; omega, hbel⟩
/-- One dot is ahead of another one. -/
def ahd (p s q u : Int) : Bool := if p = q then decide (s < u) else decide (p < q)
end Go.Proofs.Ytcebchjokmampaa
/- Transactions that are delivered: which is ready, what a vector comes to, what is drained, where one waits. Lists alone; nothing of one function. -/
namespace Go.Proofs.Ytcebchjokmampaa

/-- It Checks; it is ready; what a vector is behind it; a vector has it. -/
def T.ok (x : T) : Bool := ct x.p x.s x.v x.t x.ops
def rdy (v : List Int) (x : T) : Bool := x.ok && (decide (v.getD x.p.toNat 0 + 1 = x.s) && lq x.v v)
def stp (v : List Int) (x : T) : List Int := v.set x.p.toNat x.s
abbrev hsT (v : List Int) (x : T) : Bool := hs v x.p x.s
theorem T.ok_p {x : T} (h : x.ok = true) : 1 ≤ x.p ∧ x.p ≤ 12 := by
  simp only [T.ok, ct, wi, Bool.and_eq_true, decide_eq_true_eq] at h
  exact h.1.1.1.1
theorem T.ok_s {x : T} (h : x.ok = true) : 1 ≤ x.s ∧ x.s ≤ 1048576 := by
  simp only [T.ok, ct, wi, Bool.and_eq_true, decide_eq_true_eq] at h
  exact h.1.1.1.2
theorem rdy_ok {v : List Int} {x : T} (h : rdy v x = true) : x.ok = true := by
  simp only [rdy, Bool.and_eq_true] at h
  exact h.1
theorem rdy_s {v : List Int} {x : T} (h : rdy v x = true) : v.getD x.p.toNat 0 + 1 = x.s := by
  simp only [rdy, Bool.and_eq_true, decide_eq_true_eq] at h
  exact h.2.1
theorem rdy_lq {v : List Int} {x : T} (h : rdy v x = true) : lq x.v v = true := by
  simp only [rdy, Bool.and_eq_true, decide_eq_true_eq] at h
  exact h.2.2
theorem rdy_mk {v : List Int} {x : T} (h1 : x.ok = true) (h2 : v.getD x.p.toNat 0 + 1 = x.s) (h3 : lq x.v v = true) : rdy v x = true := by
  simp only [rdy, Bool.and_eq_true, decide_eq_true_eq]
  exact ⟨h1, h2, h3⟩
theorem stp_length (v : List Int) (x : T) : (stp v x).length = v.length := by simp [stp]
theorem stp_same {v : List Int} {x : T} (hv : v.length = 13) (h : x.ok = true) : (stp v x).getD x.p.toNat 0 = x.s := by
  have hp := T.ok_p h
  have : x.p.toNat < v.length := by omega
  simp [stp, List.getD_eq_getElem?_getD, this]
theorem stp_other (v : List Int) (x : T) (i : Nat) (h : i ≠ x.p.toNat) : (stp v x).getD i 0 = v.getD i 0 := by
  simp [stp, List.getD_eq_getElem?_getD, List.getElem?_set_ne (Ne.symm h)]
theorem stp_le {v : List Int} {x : T} (hv : v.length = 13) (h : rdy v x = true) (i : Nat) : v.getD i 0 ≤ (stp v x).getD i 0 := by
  by_cases hi : i = x.p.toNat
  · subst hi
    rw [stp_same hv (rdy_ok h)]
    have := rdy_s h
    omega
  · rw [stp_other v x i hi]
    omega
theorem hsT_iff {v : List Int} {x : T} : hsT v x = true ↔ (1 ≤ x.p ∧ x.p ≤ 12) ∧ 1 ≤ x.s ∧ x.s ≤ v.getD x.p.toNat 0 := by
  simp only [hs, wi, Bool.and_eq_true, decide_eq_true_eq]
theorem rdy_not {v : List Int} {x : T} (h : rdy v x = true) : hsT v x = false := by
  cases e : hsT v x with
  | false => rfl
  | true =>
    have := (hsT_iff.1 e).2.2
    have := rdy_s h
    omega
theorem has_rdy {v : List Int} {x : T} (h : hsT v x = true) : rdy v x = false := by
  cases e : rdy v x with
  | false => rfl
  | true => rw [rdy_not e] at h; cases h
/-- One after the other. -/
def run (v : List Int) : List T → List Int
  | [] => v
  | x :: l => run (stp v x) l
def clb (v : List Int) : List T → Bool
  | [] => true
  | x :: l => rdy v x && clb (stp v x) l
theorem run_length : ∀ (l : List T) (v : List Int), (run v l).length = v.length
  | [], _ => rfl
  | x :: l, v => by rw [run, run_length l, stp_length]
theorem run_append : ∀ (l m : List T) (v : List Int), run v (l ++ m) = run (run v l) m
  | [], _, _ => rfl
  | x :: l, m, v => by simp only [List.cons_append, run]; exact run_append l m _
theorem clb_append : ∀ (l m : List T) (v : List Int), clb v (l ++ m) = (clb v l && clb (run v l) m)
  | [], m, v => by simp [clb, run]
  | x :: l, m, v => by simp only [List.cons_append, clb, run, clb_append l m, Bool.and_assoc]
theorem run_le : ∀ (l : List T) (v : List Int), v.length = 13 → clb v l = true → ∀ i, v.getD i 0 ≤ (run v l).getD i 0
  | [], _, _, _, _ => Int.le_refl _
  | x :: l, v, hv, h, i => by
    simp only [clb, Bool.and_eq_true] at h
    exact Int.le_trans (stp_le hv h.1 i) (run_le l (stp v x) (by rw [stp_length]; exact hv) h.2 i)
theorem lq_mono {a b c : List Int} (ha : a.length = 13) (hb : b.length = 13) (hc : c.length = 13) (h : lq a b = true) (h2 : ∀ i, b.getD i 0 ≤ c.getD i 0) : lq a c = true :=
  (lq_iff ha hc).2 fun i hi => Int.le_trans ((lq_iff ha hb).1 h i hi) (h2 i)
theorem has_mono {v u : List Int} {x : T} (h : hsT v x = true) (h2 : ∀ i, v.getD i 0 ≤ u.getD i 0) : hsT u x = true := by
  obtain ⟨a, b, c⟩ := hsT_iff.1 h
  exact hsT_iff.2 ⟨a, b, Int.le_trans c (h2 _)⟩
theorem has_stp {v : List Int} {x : T} (hv : v.length = 13) (h : x.ok = true) : hsT (stp v x) x = true := by
  have hs := T.ok_s h
  refine hsT_iff.2 ⟨T.ok_p h, hs.1, ?_⟩
  rw [stp_same hv h]
  omega
/-- Each that is delivered is there in the end. -/
theorem has_run : ∀ (l : List T) (v : List Int), v.length = 13 → clb v l = true → ∀ x ∈ l, hsT (run v l) x = true
  | y :: l, v, hv, h, x, hx => by
    simp only [clb, Bool.and_eq_true] at h
    have hv' : (stp v y).length = 13 := by rw [stp_length]; exact hv
    rcases List.mem_cons.1 hx with rfl | hx
    · exact has_mono (has_stp hv (rdy_ok h.1)) (run_le l _ hv' h.2)
    · exact has_run l (stp v y) hv' h.2 x hx
/-- What is there in the end, and was not, was delivered. -/
theorem run_has : ∀ (l : List T) (v : List Int), v.length = 13 → clb v l = true → ∀ p : Int, 1 ≤ p → p ≤ 12 → ∀ s : Int, v.getD p.toNat 0 < s → s ≤ (run v l).getD p.toNat 0 → ∃ x ∈ l, x.p = p ∧ x.s = s
  | [], v, _, _, p, _, _, s, h1, h2 => by simp only [run] at h2; omega
  | y :: l, v, hv, h, p, hp1, hp2, s, h1, h2 => by
    simp only [clb, Bool.and_eq_true] at h
    have hv' : (stp v y).length = 13 := by rw [stp_length]; exact hv
    have hok := T.ok_p (rdy_ok h.1)
    by_cases hs : (stp v y).getD p.toNat 0 < s
    · obtain ⟨x, hx, e⟩ := run_has l (stp v y) hv' h.2 p hp1 hp2 s hs h2
      exact ⟨x, List.mem_cons_of_mem _ hx, e⟩
    · by_cases hp : p = y.p
      · subst hp
        rw [stp_same hv (rdy_ok h.1)] at hs
        have := rdy_s h.1
        exact ⟨y, List.mem_cons_self, rfl, by omega⟩
      · rw [stp_other v y _ (by omega)] at hs
        exact absurd h1 hs
/-- How many: one more each. -/
def tot (v : List Int) : Int := v.sum
theorem sum_set : ∀ (v : List Int) (i : Nat) (a : Int), i < v.length → (v.set i a).sum = v.sum - v.getD i 0 + a
  | x :: v, 0, a, _ => by simp; omega
  | x :: v, i + 1, a, h => by
    have := sum_set v i a (by simpa using h)
    simp only [List.set_cons_succ, List.sum_cons, List.getD_cons_succ, this]
    omega
theorem run_tot : ∀ (l : List T) (v : List Int), v.length = 13 → clb v l = true → tot (run v l) = tot v + l.length
  | [], v, _, _ => by simp [run]
  | x :: l, v, hv, h => by
    simp only [clb, Bool.and_eq_true] at h
    have hp := T.ok_p (rdy_ok h.1)
    have hs := rdy_s h.1
    have := run_tot l (stp v x) (by rw [stp_length]; exact hv) h.2
    have e : tot (stp v x) = tot v + 1 := by
      unfold tot stp
      rw [sum_set v _ _ (by omega)]
      omega
    simp only [run, this, e, List.length_cons]
    omega
end Go.Proofs.Ytcebchjokmampaa
