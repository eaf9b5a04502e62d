import Derived.Test.YtfiamiflkfdhoaaP7
import Derived.Test.YtfiamiflkfdhoaaP10
import Derived.Test.YtfiamiflkfdhoaaP17
import Derived.Test.YtfiamiflkfdhoaaP2
import Derived.Deep.Slices
/- The two transactions of heads, and what the lists of layer 19 come to of them. -/
namespace Go.Proofs.Ytfiamiflkfdhoaa

def ho : O := ⟨1, ⟨#[97]⟩, ⟨#[]⟩, 0, 1, 1, ⟨#[]⟩, 0, 0, 0⟩
def ht : T := ⟨1, 1, zeros, 1, [ho], rfl⟩
def hu : T := ⟨1, 2, [0, 1, 0, 0, 0, 0, 0, 0, 0, 0, 0, 0, 0], 2, [ho], rfl⟩
def hz : T := ⟨0, 0, zeros, 0, [], rfl⟩
def h2 : List Int := [0, 2, 0, 0, 0, 0, 0, 0, 0, 0, 0, 0, 0]
theorem h_e1 : ofE zeros [] hu = 0 := by kernel_rfl
theorem h_e2 : ofE zeros [hu] ht = 0 := by kernel_rfl
theorem h_e3 : ofE zeros [ht, hu] ht = 8 := by kernel_rfl
theorem h_e4 : ofE zeros [ht, hu] hz = 3 := by kernel_rfl
theorem h_l1 : ofL zeros [] hu = [hu] := by kernel_rfl
theorem h_l2 : ofL zeros [hu] ht = [ht, hu] := by kernel_rfl
theorem h_g1 : drG zeros [ht, hu] = [ht, hu] := by kernel_rfl
theorem h_g2 : drL zeros [ht, hu] = [] := by kernel_rfl
theorem h_g3 : drV zeros [ht, hu] = h2 := by kernel_rfl
theorem h_g4 : drG zeros [hu] = [] := by kernel_rfl
theorem h_g5 : drL zeros [hu] = [hu] := by kernel_rfl
theorem h_c1 : clb zeros [ht, hu] = true := by kernel_rfl
theorem h_c2 : clb zeros [hu] = false := by kernel_rfl
theorem h_r1 : rdy zeros ht = true := by kernel_rfl
theorem h_r2 : rdy h2 ht = false := by kernel_rfl
end Go.Proofs.Ytfiamiflkfdhoaa
/- A region in the text's order, walked by one word an operation. Nothing of one program. -/
namespace Go.Proofs.Ytfiamiflkfdhoaa.Wl

section
variable {P : Program} {ops : Array Oper} {Q : Exit → Act → World → Prop} {l : List Oper} {a a' : Act} {w w1 : World} {o : Oper}
theorem vl {v : Value} (hv : (execOp a.eval o).run P w = .ok (.value v) w1) (h : wpList P ops Q l a' w1) (hw : Region.wanted o (yielded ops a.tmps) = true := by rfl)
    (hp : a.put o.dst v = a' := by (simp only [Act.put, List.setIfInBounds_toArray, List.set_cons_zero, List.set_cons_succ]; rfl)) : wpList P ops Q (o :: l) a w :=
  BigFrame.wpList_want hw fun _ hK => by
    unfold Oper.wp
    rw [hv]
    exact hK _ _ (hp ▸ h)
theorem pu {v : Value} (h : wpList P ops Q l a' w) (hw : Region.wanted o (yielded ops a.tmps) = true := by rfl) (hv : (execOp a.eval o).run P w = .ok (.value v) w := by (go_simp <;> rfl))
    (hp : a.put o.dst v = a' := by (simp only [Act.put, List.setIfInBounds_toArray, List.set_cons_zero, List.set_cons_succ]; rfl)) : wpList P ops Q (o :: l) a w :=
  vl hv h hw hp
theorem lm {b f : Nat} {cs : List Value} {t : TypeId} {d : TypeDesc} {x : Operand} (hz : (P.info? t).map (·.size) = some cs.length) (g : w.rangeAt b f cs) (hu : P.underlying t = some d) (h : wpList P ops Q l a' w) (hw : Region.wanted o (yielded ops a.tmps) = true := by rfl)
    (ho : o.op = .load t x := by rfl) (hx : a.eval x = .pointer (some ⟨b, f, none⟩) := by rfl) (hd : d.isRow = true := by rfl)
    (hp : a.put o.dst (.agg cs.toArray) = a' := by (simp only [Act.put, List.setIfInBounds_toArray, List.set_cons_zero, List.set_cons_succ]; rfl)) : wpList P ops Q (o :: l) a w :=
  vl (by
    have h2 := run_loadVar_mid (P := P) w b f t cs d g hu hd hz
    unfold execOp
    simp only [ho, hx, Instr.loadAt, Instr.sureAddr, Sem.run_bind, Sem.run_pure, h2, Result.andThen_ok]) h hw hp
theorem kn {f : FuncId} {us : Array Operand} {ts : Array TypeId} {args : List Value} {φ : Ending → World → Prop} {au : Value → Act} (hc : Calls P f args.toArray w φ) (h : ∀ e w', φ e w' → ∃ u, e = .returned u ∧ wpList P ops Q l (au u) w')
    (hw : Region.wanted o (yielded ops a.tmps) = true := by rfl) (hf : Calm.enters P f = true := by kernel_rfl)
    (ho : o.op = .call { callee := .value (.func f), args := us, argTypes := ts } := by rfl) (ha : us.toList.map a.eval = args := by rfl) (hp : ∀ u, a.put o.dst u = au u := by (intro u; simp only [Act.put, List.setIfInBounds_toArray, List.set_cons_zero, List.set_cons_succ]; rfl)) : wpList P ops Q (o :: l) a w :=
  BigFrame.wpList_want hw fun _ hK => by
    have e : ∀ args, (callFunc f args).run P w = .ok (.enter f args) w := fun args => Calm.enters_run hf args w
    have hr' : (execOp a.eval o).run P w = .ok (.enter f args.toArray) w := by
      have ha' : us.map a.eval = args.toArray := by
        rw [← ha, ← Array.toList_map, Array.toArray_toList]
      unfold execOp
      rw [ho]
      simp [go_sem, Act.eval, e, ← ha']
    unfold Oper.wp
    rw [hr']
    refine hc.mono fun e w' he => ?_
    obtain ⟨u, rfl, h2⟩ := h e w' he
    exact hK _ _ (hp u ▸ h2)
theorem bs {ty : TypeId} {n : Nat} {es : Array (Nat × Operand)} {vs : Array (Nat × Value)} {v : Value} (hr : (Instr.buildSlice ty n vs).run P w = .ok v w1) (h : wpList P ops Q l a' w1) (hw : Region.wanted o (yielded ops a.tmps) = true := by rfl)
    (ho : o.op = .buildSlice ty n es := by rfl) (hvs : (es.map fun q => (q.1, a.eval q.2)) = vs := by (simp only [List.map_toArray, List.map_cons, List.map_nil]; rfl))
    (hp : a.put o.dst v = a' := by (simp only [Act.put, List.setIfInBounds_toArray, List.set_cons_zero, List.set_cons_succ]; rfl)) : wpList P ops Q (o :: l) a w :=
  vl (by
    subst hvs
    unfold execOp
    simp only [ho, Sem.run_bind, hr, Result.andThen_ok, Sem.run_pure]) h hw hp
theorem dn (h : Q .normal a w) : wpList P ops Q [] a w := h
end
end Go.Proofs.Ytfiamiflkfdhoaa.Wl
/- What must come at any rate (heads). -/
namespace Go.Proofs.Ytfiamiflkfdhoaa
open Go.RowKit

theorem new_oh (w : World) (x : O) : OHas (w.alloc (.cells x.cells.toArray 45)) (.slice (some ⟨w.heap.size, 0, none⟩) 1 1) [x] :=
  ⟨_, 1, rfl, (by show 1 ≤ maxLen; decide), fun _ => ⟨_, 0, rfl, fun i hi => by
    obtain rfl : i = 0 := by simpa using hi
    exact (rw_new w 45 x.cells.toArray).range _ _ (fun j u hu => by simpa using hu)⟩⟩
/-- Offer and Drain of lists that lie anywhere. -/
theorem of_has (v : List Int) (l : List T) (t : T) (sl sv : Value) (w : World) (hv : v.length = 13) (hX : XHas w sv l) (ho : OHas w sl t.ops) (hl : l.length ≤ 41) (hops : ∀ x ∈ l, x.ops.length ≤ 1000) :
    Calls Try.prog 7 #[V v, sv, TxV t.p t.s t.v t.t sl] w (fun e w' => ∃ u, e = .returned (.tuple #[u, .int .i64 (ofE v l t)]) ∧ (ofE v l t = 0 → XHas w' u (ofL v l t)) ∧ Below w.heap.size w w') := by
  obtain ⟨ys, rfl, hx⟩ := XHas.xat hX
  refine (offer_any (fun _ => False) v ys sv t sl w hv (fun _ h => h.elim) hx ho (by simpa using hl) (fun y hy => hops _ (List.mem_map_of_mem hy))).mono ?_
  rintro e w' ⟨u, zs, he, hz, hX', hb⟩
  exact ⟨u, he, fun h0 => (hz h0) ▸ hX'.has, hb⟩
theorem dr_has (v : List Int) (l : List T) (sv : Value) (w : World) (hv : v.length = 13) (hX : XHas w sv l) (hl : l.length ≤ 41) (hops : ∀ x ∈ l, x.ops.length ≤ 1000) :
    Calls Try.prog 8 #[V v, sv] w (fun e w' => ∃ u1 u2, e = .returned (.tuple #[u1, u2, V (drV v l)]) ∧ XHas w' u1 (drG v l) ∧ XHas w' u2 (drL v l) ∧ Below w.heap.size w w') := by
  obtain ⟨ys, rfl, hx⟩ := XHas.xat hX
  refine (drainX_any (fun _ => False) v ys sv w hv (fun _ h => h.elim) hx (by simpa using hl) (fun y hy => hops _ (List.mem_map_of_mem hy))).mono ?_
  rintro e w' ⟨u1, u2, z1, z2, he, h1, h2, h3, h4, hb⟩
  exact ⟨u1, u2, he, h1 ▸ h3.has, h2 ▸ h4.has, hb⟩
theorem h_ops1 : ∀ x ∈ [hu], x.ops.length ≤ 1000 := by
  intro x hx
  obtain rfl := List.mem_singleton.1 hx
  decide
theorem h_ops2 : ∀ x ∈ [ht, hu], x.ops.length ≤ 1000 := by
  intro x hx
  rcases List.mem_cons.1 hx with rfl | hx
  · decide
  · exact h_ops1 x hx
theorem hd_o1 (w : World) (sl : Value) (ho : OHas w sl [ho]) : Calls Try.prog 7 #[V zeros, .slice none 0 0, TxV 1 2 [0, 1, 0, 0, 0, 0, 0, 0, 0, 0, 0, 0, 0] 2 sl] w (fun e w' => ∃ p c, e = .returned (.tuple #[.slice p 1 c, .int .i64 0]) ∧ XHas w' (.slice p 1 c) [hu] ∧ Below w.heap.size w w') := by
  refine (of_has zeros [] hu sl _ w rfl (XHas.nil w) ho (by decide) (fun _ h => by cases h)).mono ?_
  rintro e w' ⟨u, he, hX, hb⟩
  rw [h_e1] at he hX
  have hX := hX rfl
  rw [h_l1] at hX
  obtain ⟨p, c, rfl⟩ := XHas.slice hX
  exact ⟨p, c, he, hX, hb⟩
theorem hd_o2 (w : World) (sl sv : Value) (hX : XHas w sv [hu]) (ho : OHas w sl [ho]) : Calls Try.prog 7 #[V zeros, sv, TxV 1 1 zeros 1 sl] w (fun e w' => ∃ p c, e = .returned (.tuple #[.slice p 2 c, .int .i64 0]) ∧ XHas w' (.slice p 2 c) [ht, hu] ∧ Below w.heap.size w w') := by
  refine (of_has zeros [hu] ht sl _ w rfl hX ho (by decide) h_ops1).mono ?_
  rintro e w' ⟨u, he, hX, hb⟩
  rw [h_e2] at he hX
  have hX := hX rfl
  rw [h_l2] at hX
  obtain ⟨p, c, rfl⟩ := XHas.slice hX
  exact ⟨p, c, he, hX, hb⟩
theorem hd_o3 (w : World) (sl sv : Value) (hX : XHas w sv [ht, hu]) (ho : OHas w sl [ho]) : Calls Try.prog 7 #[V zeros, sv, TxV 1 1 zeros 1 sl] w (fun e w' => ∃ u, e = .returned (.tuple #[u, .int .i64 8]) ∧ Below w.heap.size w w') := by
  refine (of_has zeros [ht, hu] ht sl _ w rfl hX ho (by decide) h_ops2).mono ?_
  rintro e w' ⟨u, he, hX, hb⟩
  rw [h_e3] at he
  exact ⟨u, he, hb⟩
theorem hd_o4 (w : World) (sv : Value) (hX : XHas w sv [ht, hu]) : Calls Try.prog 7 #[V zeros, sv, TxV 0 0 zeros 0 (.slice none 0 0)] w (fun e w' => ∃ u, e = .returned (.tuple #[u, .int .i64 3]) ∧ Below w.heap.size w w') := by
  refine (of_has zeros [ht, hu] hz (.slice none 0 0) _ w rfl hX ⟨none, 0, rfl, Nat.zero_le _, fun h => absurd h (by decide)⟩ (by decide) h_ops2).mono ?_
  rintro e w' ⟨u, he, hX, hb⟩
  rw [h_e4] at he
  exact ⟨u, he, hb⟩
theorem hd_d1 (w : World) (sv : Value) (hX : XHas w sv [ht, hu]) : Calls Try.prog 8 #[V zeros, sv] w (fun e w' => ∃ p c q d, e = .returned (.tuple #[.slice p 2 c, .slice q 0 d, V h2]) ∧ XHas w' (.slice p 2 c) [ht, hu] ∧ Below w.heap.size w w') := by
  refine (dr_has zeros [ht, hu] sv w rfl hX (by decide) h_ops2).mono ?_
  rintro e w' ⟨u1, u2, he, h1, h3, hb⟩
  rw [h_g3] at he
  rw [h_g1] at h1
  rw [h_g2] at h3
  obtain ⟨p, c, rfl⟩ := XHas.slice h1
  obtain ⟨q, d, rfl⟩ := XHas.slice h3
  exact ⟨p, c, q, d, he, h1, hb⟩
theorem hd_d2 (w : World) (sv : Value) (hX : XHas w sv [hu]) : Calls Try.prog 8 #[V zeros, sv] w (fun e w' => ∃ p c q d V', e = .returned (.tuple #[.slice p 0 c, .slice q 1 d, V V']) ∧ V'.length = 13 ∧ Below w.heap.size w w') := by
  refine (dr_has zeros [hu] sv w rfl hX (by decide) h_ops1).mono ?_
  rintro e w' ⟨u1, u2, he, h1, h3, hb⟩
  rw [h_g4] at h1
  rw [h_g5] at h3
  obtain ⟨p, c, rfl⟩ := XHas.slice h1
  obtain ⟨q, d, rfl⟩ := XHas.slice h3
  exact ⟨p, c, q, d, _, he, by decide +kernel, hb⟩
theorem hd_c1 (w : World) (sv : Value) (hX : XHas w sv [ht, hu]) : Calls Try.prog 14 #[sv] w (Tells (.bool true) w) := by
  have C := closed_any [ht, hu] sv w hX (by decide)
  rwa [h_c1] at C
theorem hd_c2 (w : World) (sv : Value) (hX : XHas w sv [hu]) : Calls Try.prog 14 #[sv] w (Tells (.bool false) w) := by
  have C := closed_any [hu] sv w hX (by decide)
  rwa [h_c2] at C
theorem hd_r1 (w : World) (sl : Value) (ho : OHas w sl [ho]) : Calls Try.prog 13 #[V zeros, TxV 1 1 zeros 1 sl] w (Tells (.bool true) w) := by
  have C := ready_any zeros ht sl w rfl ho
  rwa [h_r1] at C
theorem hd_r2 (w : World) (sl : Value) (ho : OHas w sl [ho]) : Calls Try.prog 13 #[V h2, TxV 1 1 zeros 1 sl] w (Tells (.bool false) w) := by
  have C := ready_any h2 ht sl w rfl ho
  rwa [h_r2] at C
theorem hd_rows (w : World) (va vb : Value) (ha : XHas w va [ht, hu]) (hb : XHas w vb [ht, hu]) : Calls Try.prog 17 #[va, vb] w (Tells (.bool true) w) := by
  have C := rows_any va vb [ht, hu] [ht, hu] w ha hb
  rwa [(rwb_iff _ _).2 rfl] at C
theorem new_xs (w : World) (ys : List (T × Value)) (n : Nat) (hn : n = ys.length) (hm : n ≤ maxLen) (h : ∀ y ∈ ys, OHas w y.2 y.1.ops) : XHas (w.alloc (.cells (rows T.cells ys).toArray 34)) (.slice (some ⟨w.heap.size, 0, none⟩) n n) (ys.map (·.1)) := by
  subst hn
  refine ⟨ys, rfl, ?_, fun y hy => (h y hy).later (bel_alloc (Below.refl w.heap.size w) _)⟩
  rw [List.length_map]
  exact ⟨hm, rows_length T.len ys, .inr ⟨_, ys.length, rfl, ⟨Nat.le_refl _, hm⟩, fun _ => ⟨_, 0, rfl, (rw_new w 34 (rows T.cells ys).toArray).range _ _ (fun j u hj => by
    rw [Nat.zero_add, List.getElem?_toArray]
    exact hj)⟩⟩⟩
/-- The cells of both, side by side. -/
def x2cells (s0 : Nat) : Array Value := #[.int .i64 1, .int .i64 1, .int .i64 0, .int .i64 0, .int .i64 0, .int .i64 0, .int .i64 0, .int .i64 0, .int .i64 0, .int .i64 0, .int .i64 0, .int .i64 0, .int .i64 0, .int .i64 0, .int .i64 0, .int .i64 1, .slice (some ⟨s0, 0, none⟩) 1 1, .int .i64 1, .int .i64 2, .int .i64 0, .int .i64 1, .int .i64 0, .int .i64 0, .int .i64 0, .int .i64 0, .int .i64 0, .int .i64 0, .int .i64 0, .int .i64 0, .int .i64 0, .int .i64 0, .int .i64 0, .int .i64 2, .slice (some ⟨s0, 0, none⟩) 1 1]
theorem new_x2 (w : World) (s0 : Nat) (O1 : OHas w (.slice (some ⟨s0, 0, none⟩) 1 1) [ho]) : XHas (w.alloc (.cells (x2cells s0) 34)) (.slice (some ⟨w.heap.size, 0, none⟩) 2 2) [ht, hu] := by
  have XN := new_xs w [(ht, .slice (some ⟨s0, 0, none⟩) 1 1), (hu, .slice (some ⟨s0, 0, none⟩) 1 1)] 2 rfl (by show 2 ≤ maxLen; decide) (by
    intro y hy
    rcases List.mem_cons.1 hy with rfl | hy
    · exact O1
    · obtain rfl := List.mem_singleton.1 hy
      exact O1)
  exact XN
set_option maxRecDepth 100000 in
theorem build_x2 (w : World) (s0 : Nat) : (Instr.buildSlice 22 2 #[(0, .agg #[.int .i64 1, .int .i64 1, .int .i64 0, .int .i64 0, .int .i64 0, .int .i64 0, .int .i64 0, .int .i64 0, .int .i64 0, .int .i64 0, .int .i64 0, .int .i64 0, .int .i64 0, .int .i64 0, .int .i64 0, .int .i64 1, .slice (some ⟨s0, 0, none⟩) 1 1]), (1, .agg #[.int .i64 1, .int .i64 2, .int .i64 0, .int .i64 1, .int .i64 0, .int .i64 0, .int .i64 0, .int .i64 0, .int .i64 0, .int .i64 0, .int .i64 0, .int .i64 0, .int .i64 0, .int .i64 0, .int .i64 0, .int .i64 2, .slice (some ⟨s0, 0, none⟩) 1 1])]).run Try.prog w = .ok (.slice (some ⟨w.heap.size, 0, none⟩) 2 2) (w.alloc (.cells (x2cells s0) 34)) := by
  unfold x2cells
  go_simp
set_option maxHeartbeats 4000000 in
set_option maxRecDepth 100000 in
theorem heads_any (w : World) : Calls Try.prog 6 #[] w (Tells (.bool true) w) := by
  go_enter Try.func6, Try.ntmps6
  go_upto_region 2 with fail
  have O1 := new_oh w ho
  have B1 := bel_alloc (Below.refl w.heap.size w) (.cells ho.cells.toArray 45)
  change OHas (w.alloc (.cells #[.int .i64 1, .string ⟨#[97]⟩, .string ⟨#[]⟩, .int .i64 0, .int .i64 1, .int .i64 1, .string ⟨#[]⟩, .int .i64 0, .int .i64 0, .int .i64 0] 45)) _ _ at O1
  change Below _ _ (w.alloc (.cells #[.int .i64 1, .string ⟨#[97]⟩, .string ⟨#[]⟩, .int .i64 0, .int .i64 1, .int .i64 1, .string ⟨#[]⟩, .int .i64 0, .int .i64 0, .int .i64 0] 45)) at B1
  generalize w.alloc (.cells #[.int .i64 1, .string ⟨#[97]⟩, .string ⟨#[]⟩, .int .i64 0, .int .i64 1, .int .i64 1, .string ⟨#[]⟩, .int .i64 0, .int .i64 0, .int .i64 0] 45) = w1 at O1 B1
  generalize w.heap.size = s0 at O1 ⊢
  go_upto_region 3 with fail
  have R1 := rw_new w1 34 #[.int .i64 1, .int .i64 1, .int .i64 0, .int .i64 0, .int .i64 0, .int .i64 0, .int .i64 0, .int .i64 0, .int .i64 0, .int .i64 0, .int .i64 0, .int .i64 0, .int .i64 0, .int .i64 0, .int .i64 0, .int .i64 1, .slice (some ⟨s0, 0, none⟩) 1 1]
  have hbA := bel_alloc (Below.refl w1.heap.size w1) (.cells (txc 1 1 zeros 1 (.slice (some ⟨s0, 0, none⟩) 1 1)).toArray 34)
  change Below _ _ (w1.alloc (.cells #[.int .i64 1, .int .i64 1, .int .i64 0, .int .i64 0, .int .i64 0, .int .i64 0, .int .i64 0, .int .i64 0, .int .i64 0, .int .i64 0, .int .i64 0, .int .i64 0, .int .i64 0, .int .i64 0, .int .i64 0, .int .i64 1, .slice (some ⟨s0, 0, none⟩) 1 1] 34)) at hbA
  generalize w1.alloc (.cells #[.int .i64 1, .int .i64 1, .int .i64 0, .int .i64 0, .int .i64 0, .int .i64 0, .int .i64 0, .int .i64 0, .int .i64 0, .int .i64 0, .int .i64 0, .int .i64 0, .int .i64 0, .int .i64 0, .int .i64 0, .int .i64 1, .slice (some ⟨s0, 0, none⟩) 1 1] 34) = w2 at R1 hbA ⊢
  replace O1 := O1.later hbA
  replace B1 := below_on B1 hbA
  clear hbA
  generalize w1.heap.size = s1 at *
  clear w1
  go_upto_region 4 with fail
  have R2 := rw_new w2 34 #[.int .i64 1, .int .i64 2, .int .i64 0, .int .i64 1, .int .i64 0, .int .i64 0, .int .i64 0, .int .i64 0, .int .i64 0, .int .i64 0, .int .i64 0, .int .i64 0, .int .i64 0, .int .i64 0, .int .i64 0, .int .i64 2, .slice (some ⟨s0, 0, none⟩) 1 1]
  have hbA := bel_alloc (Below.refl w2.heap.size w2) (.cells (txc 1 2 [0, 1, 0, 0, 0, 0, 0, 0, 0, 0, 0, 0, 0] 2 (.slice (some ⟨s0, 0, none⟩) 1 1)).toArray 34)
  change Below _ _ (w2.alloc (.cells #[.int .i64 1, .int .i64 2, .int .i64 0, .int .i64 1, .int .i64 0, .int .i64 0, .int .i64 0, .int .i64 0, .int .i64 0, .int .i64 0, .int .i64 0, .int .i64 0, .int .i64 0, .int .i64 0, .int .i64 0, .int .i64 2, .slice (some ⟨s0, 0, none⟩) 1 1] 34)) at hbA
  generalize w2.alloc (.cells #[.int .i64 1, .int .i64 2, .int .i64 0, .int .i64 1, .int .i64 0, .int .i64 0, .int .i64 0, .int .i64 0, .int .i64 0, .int .i64 0, .int .i64 0, .int .i64 0, .int .i64 0, .int .i64 0, .int .i64 0, .int .i64 2, .slice (some ⟨s0, 0, none⟩) 1 1] 34) = w3 at R2 hbA ⊢
  replace O1 := O1.later hbA
  replace R1 := R1.later hbA
  replace B1 := below_on B1 hbA
  clear hbA
  generalize w2.heap.size = s2 at *
  clear w2
  have z34 : (Try.prog.info? 34).map (·.size) = some 17 := by kernel_rfl
  go_upto_region 5 with (refine load_r 34 _ rfl rfl _ rfl R2 Try.underlying34 rfl z34 ?_)
  refine (hd_o1 _ _ O1).mono ?_
  rintro e w4 ⟨p4, c4, rfl, X4, hb⟩
  replace O1 := O1.later hb
  replace R1 := R1.later hb
  replace R2 := R2.later hb
  replace B1 := below_on B1 hb
  clear hb w3
  go_upto_region 6 with (refine load_r 34 _ rfl rfl _ rfl R1 Try.underlying34 rfl z34 ?_)
  refine (hd_o2 _ _ _ X4 O1).mono ?_
  rintro e w5 ⟨p5, c5, rfl, X5, hb⟩
  replace O1 := O1.later hb
  replace R1 := R1.later hb
  replace R2 := R2.later hb
  replace X4 := X4.later hb
  replace B1 := below_on B1 hb
  clear hb w4
  go_upto_region 7 with (refine load_r 34 _ rfl rfl _ rfl R1 Try.underlying34 rfl z34 ?_)
  refine (hd_o3 _ _ _ X5 O1).mono ?_
  rintro e w6 ⟨u6, rfl, hb⟩
  replace O1 := O1.later hb
  replace R1 := R1.later hb
  replace R2 := R2.later hb
  replace X4 := X4.later hb
  replace X5 := X5.later hb
  replace B1 := below_on B1 hb
  clear hb w5
  go_upto_region 8 with fail
  refine (hd_o4 _ _ X5).mono ?_
  rintro e w7 ⟨u7, rfl, hb⟩
  replace O1 := O1.later hb
  replace R1 := R1.later hb
  replace R2 := R2.later hb
  replace X4 := X4.later hb
  replace X5 := X5.later hb
  replace B1 := below_on B1 hb
  clear hb w6
  go_upto_region 9 with fail
  refine (hd_d1 _ _ X5).mono ?_
  rintro e w8 ⟨pg, cg, ql, cl, rfl, XG, hb⟩
  replace O1 := O1.later hb
  replace R1 := R1.later hb
  replace R2 := R2.later hb
  replace X4 := X4.later hb
  replace X5 := X5.later hb
  replace B1 := below_on B1 hb
  clear hb w7
  have hl13 : h2.length = 13 := rfl
  have A9 := at_new w8 zeros rfl
  have hbA := bel_alloc (Below.refl w8.heap.size w8) (.cells #[.int .i64 0, .int .i64 0, .int .i64 0, .int .i64 0, .int .i64 0, .int .i64 0, .int .i64 0, .int .i64 0, .int .i64 0, .int .i64 0, .int .i64 0, .int .i64 0, .int .i64 0] 26)
  change At (w8.alloc (.cells #[.int .i64 0, .int .i64 0, .int .i64 0, .int .i64 0, .int .i64 0, .int .i64 0, .int .i64 0, .int .i64 0, .int .i64 0, .int .i64 0, .int .i64 0, .int .i64 0, .int .i64 0] 26)) _ _ at A9
  generalize hW5 : w8.alloc (.cells #[.int .i64 0, .int .i64 0, .int .i64 0, .int .i64 0, .int .i64 0, .int .i64 0, .int .i64 0, .int .i64 0, .int .i64 0, .int .i64 0, .int .i64 0, .int .i64 0, .int .i64 0] 26) = w5 at A9 hbA
  have hb := below_setRow hbA (Nat.le_refl _) (vals h2).toArray
  have A14 := A9.row (l := h2) hl13
  generalize hW6 : w5.setRow w8.heap.size (vals h2).toArray = w9 at hb A14
  replace O1 := O1.later hb
  replace R1 := R1.later hb
  replace R2 := R2.later hb
  replace X4 := X4.later hb
  replace X5 := X5.later hb
  replace XG := XG.later hb
  replace B1 := below_on B1 hb
  clear hb hbA
  go_upto_region 9 with (first | rw [hW5] | (refine store_at rfl _ _ rfl w8.heap.size h2 rfl rfl A9 hl13 ?_; rw [hW6]))
  clear hW5 hW6 A9
  generalize w8.heap.size = s14 at A14 ⊢
  clear hl13 w5 w8
  go_upto_region 10 with fail
  refine (hd_d2 _ _ X4).mono ?_
  rintro e w10 ⟨pn, cn, qa, ca, V', rfl, hl13, hb⟩
  replace O1 := O1.later hb
  replace R1 := R1.later hb
  replace R2 := R2.later hb
  replace X4 := X4.later hb
  replace X5 := X5.later hb
  replace XG := XG.later hb
  replace A14 := A14.later hb
  replace B1 := below_on B1 hb
  clear hb w9
  have A9 := at_new w10 zeros rfl
  have hbA := bel_alloc (Below.refl w10.heap.size w10) (.cells #[.int .i64 0, .int .i64 0, .int .i64 0, .int .i64 0, .int .i64 0, .int .i64 0, .int .i64 0, .int .i64 0, .int .i64 0, .int .i64 0, .int .i64 0, .int .i64 0, .int .i64 0] 26)
  change At (w10.alloc (.cells #[.int .i64 0, .int .i64 0, .int .i64 0, .int .i64 0, .int .i64 0, .int .i64 0, .int .i64 0, .int .i64 0, .int .i64 0, .int .i64 0, .int .i64 0, .int .i64 0, .int .i64 0] 26)) _ _ at A9
  generalize hW5 : w10.alloc (.cells #[.int .i64 0, .int .i64 0, .int .i64 0, .int .i64 0, .int .i64 0, .int .i64 0, .int .i64 0, .int .i64 0, .int .i64 0, .int .i64 0, .int .i64 0, .int .i64 0, .int .i64 0] 26) = w5 at A9 hbA
  have hb := below_setRow hbA (Nat.le_refl _) (vals V').toArray
  have A17 := A9.row (l := V') hl13
  generalize hW6 : w5.setRow w10.heap.size (vals V').toArray = w11 at hb A17
  replace O1 := O1.later hb
  replace R1 := R1.later hb
  replace R2 := R2.later hb
  replace X4 := X4.later hb
  replace X5 := X5.later hb
  replace XG := XG.later hb
  replace A14 := A14.later hb
  replace B1 := below_on B1 hb
  clear hb hbA
  go_upto_region 10 with (first | rw [hW5] | (refine store_at rfl _ _ rfl w10.heap.size V' rfl rfl A9 hl13 ?_; rw [hW6]))
  clear hW5 hW6 A9 A17
  generalize w10.heap.size = s17
  clear hl13 w5 w10
  have E1 : ∀ w', (Op.equalIn 10000 26 (.agg (vals h2).toArray) (.agg #[.int .i64 0, .int .i64 2, .int .i64 0, .int .i64 0, .int .i64 0, .int .i64 0, .int .i64 0, .int .i64 0, .int .i64 0, .int .i64 0, .int .i64 0, .int .i64 0, .int .i64 0])).run Try.prog w' = .ok true w' := fun w' => eq_arrays w' h2 h2 rfl rfl
  refine wp_region_lit ?_
  iterate 16 refine Wl.pu ?_
  refine Wl.lm z34 (R1.range 0 _ fun j u hu => by simpa using hu) Try.underlying34 ?_
  refine Wl.lm z34 (R2.range 0 _ fun j u hu => by simpa using hu) Try.underlying34 ?_
  have XN := new_x2 w11 s0 O1
  have hb := bel_alloc (Below.refl w11.heap.size w11) (.cells (x2cells s0) 34)
  have hw := build_x2 w11 s0
  generalize hW : w11.alloc (.cells (x2cells s0) 34) = w12 at XN hb hw
  refine Wl.bs hw ?_
  replace O1 := O1.later hb
  replace R1 := R1.later hb
  replace X4 := X4.later hb
  replace X5 := X5.later hb
  replace XG := XG.later hb
  replace A14 := A14.later hb
  replace B1 := below_on B1 hb
  clear hb hw hW R2
  refine Wl.kn (hd_rows _ _ _ X5 XN) ?_
  rintro e w13 ⟨rfl, hb⟩
  replace O1 := O1.later hb
  replace R1 := R1.later hb
  replace X4 := X4.later hb
  replace X5 := X5.later hb
  replace XG := XG.later hb
  replace A14 := A14.later hb
  replace B1 := below_on B1 hb
  clear hb XN
  refine ⟨_, rfl, ?_⟩
  iterate 4 refine Wl.pu ?_
  refine Wl.kn (hd_rows _ _ _ XG X5) ?_
  rintro e w14 ⟨rfl, hb⟩
  replace O1 := O1.later hb
  replace R1 := R1.later hb
  replace X4 := X4.later hb
  replace XG := XG.later hb
  replace A14 := A14.later hb
  replace B1 := below_on B1 hb
  clear hb X5
  refine ⟨_, rfl, ?_⟩
  iterate 7 refine Wl.pu ?_
  refine Wl.lm (info_vals rfl) A14.range Try.underlying26 ?_
  iterate 15 refine Wl.pu ?_
  refine Wl.kn (hd_c1 _ _ XG) ?_
  rintro e w15 ⟨rfl, hb⟩
  replace O1 := O1.later hb
  replace R1 := R1.later hb
  replace X4 := X4.later hb
  replace A14 := A14.later hb
  replace B1 := below_on B1 hb
  clear hb XG
  refine ⟨_, rfl, ?_⟩
  iterate 3 refine Wl.pu ?_
  refine Wl.kn (hd_c2 _ _ X4) ?_
  rintro e w16 ⟨rfl, hb⟩
  replace O1 := O1.later hb
  replace R1 := R1.later hb
  replace A14 := A14.later hb
  replace B1 := below_on B1 hb
  clear hb X4
  refine ⟨_, rfl, ?_⟩
  iterate 4 refine Wl.pu ?_
  refine Wl.lm z34 (R1.range 0 _ fun j u hu => by simpa using hu) Try.underlying34 ?_
  refine Wl.kn (hd_r1 _ _ O1) ?_
  rintro e w17 ⟨rfl, hb⟩
  replace O1 := O1.later hb
  replace R1 := R1.later hb
  replace A14 := A14.later hb
  replace B1 := below_on B1 hb
  clear hb
  refine ⟨_, rfl, ?_⟩
  iterate 2 refine Wl.pu ?_
  refine Wl.lm (info_vals rfl) A14.range Try.underlying26 ?_
  refine Wl.lm z34 (R1.range 0 _ fun j u hu => by simpa using hu) Try.underlying34 ?_
  refine Wl.kn (hd_r2 _ _ O1) ?_
  rintro e w18 ⟨rfl, hb⟩
  replace B1 := below_on B1 hb
  clear hb
  refine ⟨_, rfl, ?_⟩
  iterate 3 refine Wl.pu ?_
  refine Wl.dn ?_
  go_wp2_with fail
  go_ret
  exact ⟨rfl, B1⟩
end Go.Proofs.Ytfiamiflkfdhoaa
/- Arguments that are marks, dots, updates, ops, transactions. -/
namespace Go.Proofs.Ytfiamiflkfdhoaa
open Go.ChangeShapes Go.WideShapes Go.ChangeAt Go.RowKit

/-- A slice of ops that is nil, or lies somewhere. -/
def OIs (w : World) (v : Value) (l : List O) : Prop := l.length ≤ maxLen ∧ ((v = .slice none 0 0 ∧ l = []) ∨ ∃ ad c, v = .slice (some ad) l.length c ∧ (0 < l.length → ∃ g o, ad = ⟨g, o, none⟩ ∧ ∀ i (h : i < l.length), w.rangeAt g (o + i * 10) l[i].cells))
theorem OIs.has {w : World} {v : Value} {l : List O} (h : OIs w v l) : OHas w v l := by
  obtain ⟨hm, ⟨rfl, rfl⟩ | ⟨ad, c, rfl, hd⟩⟩ := h
  · exact ⟨none, 0, rfl, hm, fun h => by simp at h⟩
  · refine ⟨_, c, rfl, hm, fun h => ?_⟩
    obtain ⟨g, o, rfl, hd2⟩ := hd h
    exact ⟨g, o, rfl, hd2⟩
theorem OIs.later {w w' : World} {v : Value} {l : List O} (h : OIs w v l) (hb : Below w.heap.size w w') : OIs w' v l := by
  obtain ⟨hm, ⟨rfl, rfl⟩ | ⟨ad, c, rfl, hd⟩⟩ := h
  · exact ⟨hm, .inl ⟨rfl, rfl⟩⟩
  · refine ⟨hm, .inr ⟨ad, c, rfl, fun h => ?_⟩⟩
    obtain ⟨g, o, rfl, hd2⟩ := hd h
    exact ⟨g, o, rfl, fun i hi => range_later (hd2 i hi) hb⟩
theorem vals_of_ints : ∀ (cs : List Value), (∀ i (h : i < cs.length), ∃ n : Int, cs[i] = .int .i64 n) → ∃ l : List Int, cs = vals l
  | [], _ => ⟨[], rfl⟩
  | c :: cs, h => by
    obtain ⟨n, hn⟩ := h 0 (by simp)
    obtain ⟨l, hl⟩ := vals_of_ints cs (fun i hi => by have := h (i + 1) (by simpa using hi); simpa using this)
    refine ⟨n :: l, ?_⟩
    simp only [List.getElem_cons_zero] at hn
    rw [hn, hl]
    rfl

section
variable {H : Type} {enc : TypeId × Value → H} {w : World} {base : Nat} {spare : Nat → Bool} {held : Bool}
theorem c3 : Try.prog.cellsOf 3 = 1 := by kernel_rfl
theorem c9 : Try.prog.cellsOf 9 = 1 := by kernel_rfl
theorem c23 : Try.prog.cellsOf 31 = 2 := by kernel_rfl
theorem c25 : Try.prog.cellsOf 26 = 13 := by kernel_rfl
theorem c26 : Try.prog.cellsOf 32 = 1 := by kernel_rfl
theorem c33 : Try.prog.cellsOf 43 = 3 := by kernel_rfl
theorem c35 : Try.prog.cellsOf 45 = 10 := by kernel_rfl
theorem c28 : Try.prog.cellsOf 34 = 17 := by kernel_rfl
theorem cells_dot {fuel : Nat} {cs : List Value} {x : DataW H × List MemPlace} (h : DataW.trod enc Try.prog w base spare held fuel 31 cs = some x) : ∃ p s, cs = [.int .i64 p, .int .i64 s] := by
  obtain ⟨xs, k, rfl, _, hcl, hxl, hf⟩ := DataW.trod_struct Try.underlying31 h
  rw [c23] at hcl
  match xs, hxl, cs, hcl with
  | [y0, y1], _, [v0, v1], _ =>
    have g0 := hf 0 _ rfl
    have g1 := hf 1 _ rfl
    simp [c3] at g0 g1
    obtain ⟨n0, h0, _⟩ := DataW.trod_int Try.underlying3 g0
    obtain ⟨n1, h1, _⟩ := DataW.trod_int Try.underlying3 g1
    simp at h0 h1
    exact ⟨n0, n1, by rw [h0, h1]⟩
theorem cells_mark {fuel : Nat} {cs : List Value} {x : DataW H × List MemPlace} (h : DataW.trod enc Try.prog w base spare held fuel 43 cs = some x) : ∃ p s i, cs = [.int .i64 p, .int .i64 s, .int .i64 i] := by
  obtain ⟨xs, k, rfl, _, hcl, hxl, hf⟩ := DataW.trod_struct Try.underlying43 h
  rw [c33] at hcl
  match xs, hxl, cs, hcl with
  | [y0, y1], _, [v0, v1, v2], _ =>
    have g0 := hf 0 _ rfl
    have g1 := hf 1 _ rfl
    simp [c3, c23] at g0 g1
    obtain ⟨p, s, h0⟩ := cells_dot g0
    obtain ⟨n1, h1, _⟩ := DataW.trod_int Try.underlying3 g1
    simp at h0 h1
    exact ⟨p, s, n1, by rw [h0.1, h0.2, h1]⟩
theorem cells_op {fuel : Nat} {cs : List Value} {x : DataW H × List MemPlace} (h : DataW.trod enc Try.prog w base spare held fuel 45 cs = some x) : ∃ o : O, cs = o.cells := by
  obtain ⟨xs, k, rfl, _, hcl, hxl, hf⟩ := DataW.trod_struct Try.underlying45 h
  rw [c35] at hcl
  match xs, hxl, cs, hcl with
  | [y0, y1, y2, y3, y4, y5, y6, y7], _, [v0, v1, v2, v3, v4, v5, v6, v7, v8, v9], _ =>
    have g0 := hf 0 _ rfl
    have g1 := hf 1 _ rfl
    have g2 := hf 2 _ rfl
    have g3 := hf 3 _ rfl
    have g4 := hf 4 _ rfl
    have g5 := hf 5 _ rfl
    have g6 := hf 6 _ rfl
    have g7 := hf 7 _ rfl
    simp [c3, c9, c33] at g0 g1 g2 g3 g4 g5 g6 g7
    obtain ⟨n0, h0, _⟩ := DataW.trod_int Try.underlying3 g0
    obtain ⟨n1, h1, _⟩ := DataW.trod_string Try.underlying9 g1
    obtain ⟨n2, h2, _⟩ := DataW.trod_string Try.underlying9 g2
    obtain ⟨n3, h3, _⟩ := DataW.trod_int Try.underlying3 g3
    obtain ⟨n4, h4, _⟩ := DataW.trod_int Try.underlying3 g4
    obtain ⟨n5, h5, _⟩ := DataW.trod_int Try.underlying3 g5
    obtain ⟨n6, h6, _⟩ := DataW.trod_string Try.underlying9 g6
    obtain ⟨p, s, i, h7⟩ := cells_mark g7
    simp at h0 h1 h2 h3 h4 h5 h6 h7
    obtain ⟨h7, h8, h9⟩ := h7
    exact ⟨⟨n0, n1, n2, n3, n4, n5, n6, p, s, i⟩, by rw [h0, h1, h2, h3, h4, h5, h6, h7, h8, h9]⟩
theorem cells_ops {fuel : Nat} {cs : List Value} {x : DataW H × List MemPlace} (h : DataW.trod enc Try.prog w base spare held fuel 32 cs = some x) : ∃ (v : Value) (l : List O), cs = [v] ∧ OIs w v l := by
  rcases DataW.trod_slice Try.underlying32 h with ⟨h0, _⟩ | ⟨a, len, cap, elems, rest, m, hm, hcs, _, hba, hl, hmx, hlen, hel, _, _⟩
  · exact ⟨_, [], h0, Nat.zero_le _, .inl ⟨rfl, rfl⟩⟩
  · have each : ∀ i, i < len → ∃ o : O, ∀ j u, o.cells[j]? = some u → w.cell? (a.add (i * 10 + j)) = some u := by
      intro i hi
      have hi' := hel i hi
      rw [c35, List.getElem?_eq_getElem (by omega)] at hi'
      obtain ⟨cs', h1, h2⟩ := Option.bind_eq_some_iff.1 hi'
      obtain ⟨_, hlen', hcell⟩ := World.cells?_some h1
      obtain ⟨o, rfl⟩ := cells_op h2
      refine ⟨o, fun j u hu => ?_⟩
      have hj : j < 10 := (List.getElem?_eq_some_iff.1 hu).1
      have e := hcell j (by omega)
      rw [Deep.add_add] at e
      rw [e]
      exact hu
    have hinh : Inhabited O := ⟨⟨0, noS, noS, 0, 0, 0, noS, 0, 0, 0⟩⟩
    obtain ⟨f, hk⟩ := Deep.choose_lt each
    refine ⟨_, (List.range len).map f, hcs, by simp; omega, .inr ⟨a, cap, by simp, fun h0 => ?_⟩⟩
    have h0' : 0 < len := by simpa using h0
    obtain ⟨b, off, spot⟩ := a
    have q0 := hk 0 h0' 0 _ rfl
    have hspot : spot = none := by simpa [Addr.add] using World.cell?_spot q0
    subst hspot
    refine ⟨b, off, rfl, fun i hi j u hu => ?_⟩
    have hi' : i < len := by simpa using hi
    have := hk i hi' j u (by simpa using hu)
    rw [Addr.add_mid] at this
    rw [Nat.add_assoc]
    exact this
set_option maxRecDepth 100000 in
theorem cells_tx {fuel : Nat} {cs : List Value} {x : DataW H × List MemPlace} (h : DataW.trod enc Try.prog w base spare held fuel 34 cs = some x) : ∃ (p s : Int) (v : List Int) (t : Int) (sl : Value) (l : List O), cs = txc p s v t sl ∧ v.length = 13 ∧ OIs w sl l := by
  obtain ⟨xs, k, rfl, _, hcl, hxl, hf⟩ := DataW.trod_struct Try.underlying34 h
  rw [c28] at hcl
  match xs, hxl with
  | [y0, y1, y2, y3], _ =>
    have g0 := hf 0 _ rfl
    have g1 := hf 1 _ rfl
    have g2 := hf 2 _ rfl
    have g3 := hf 3 _ rfl
    simp [c3, c23, c25, c26] at g0 g1 g2 g3
    obtain ⟨p, s, h0⟩ := cells_dot g0
    obtain ⟨xs1, m, _, _, hlen, hxs, hi⟩ := DataW.trod_array Try.underlying26 g1
    obtain ⟨v, hv⟩ := vals_of_ints ((cs.drop 2).take 13) (fun i hlt => by
      have hi13 : i < 13 := by simp at hlt; omega
      have hq := hi i hi13
      rw [c3, List.getElem?_eq_getElem (show i < xs1.length by omega)] at hq
      obtain ⟨n, hn, _⟩ := DataW.trod_int Try.underlying3 hq
      refine ⟨n, ?_⟩
      rw [Nat.mul_one, List.drop_eq_getElem_cons hlt] at hn
      simpa using hn)
    have hv13 : v.length = 13 := by
      have := congrArg List.length hv
      rw [vals_length] at this
      simp at this
      omega
    obtain ⟨t, h2, _⟩ := DataW.trod_int Try.underlying3 g2
    obtain ⟨sl, l, h3, hl⟩ := cells_ops g3
    refine ⟨p, s, v, t, sl, l, ?_, hv13, hl⟩
    unfold txc
    rw [← hv]
    match cs, hcl with
    | [a0, a1, a2, a3, a4, a5, a6, a7, a8, a9, a10, a11, a12, a13, a14, a15, a16], _ =>
      simp at h0 h2 h3 ⊢
      exact ⟨h0.1, h0.2, h2, h3⟩

theorem c42 : Try.prog.cellsOf 22 = 1 := by kernel_rfl
theorem rows_split {α : Type} {f : α → List Value} {S : Nat} (hf : ∀ x, (f x).length = S) : ∀ (l : List α) (j : Nat) (u : Value), (rows f l)[j]? = some u → ∃ i r, ∃ h : i < l.length, r < S ∧ j = i * S + r ∧ (f l[i])[r]? = some u
  | [], j, u, h => by simp [rows] at h
  | x :: l, j, u, h => by
    rw [rows_cons] at h
    rcases Nat.lt_or_ge j S with hj | hj
    · rw [List.getElem?_append_left (by rw [hf]; exact hj)] at h
      exact ⟨0, j, by simp, hj, by omega, h⟩
    · rw [List.getElem?_append_right (by rw [hf]; exact hj), hf] at h
      obtain ⟨i, r, hi, hr, e, hu⟩ := rows_split hf l (j - S) u h
      exact ⟨i + 1, r, by simpa using hi, hr, by rw [Nat.succ_mul]; omega, hu⟩
set_option maxRecDepth 100000 in
/-- A slice whose elements are known one by one. -/
theorem cells_rows {α : Type} [Inhabited α] {ts e S : Nat} (hu : Try.prog.underlying ts = some (.slice e)) (hS : Try.prog.cellsOf e = S) (hS0 : 0 < S) (f : α → List Value) (Pr : α → Prop) (hf : ∀ y, (f y).length = S)
    (each : ∀ (fuel : Nat) (cs : List Value) (x : DataW H × List MemPlace), DataW.trod enc Try.prog w base spare held fuel e cs = some x → ∃ y, cs = f y ∧ Pr y) {fuel : Nat} {cs : List Value} {x : DataW H × List MemPlace} (h : DataW.trod enc Try.prog w base spare held fuel ts cs = some x) :
    ∃ (v : Value) (l : List α), cs = [v] ∧ SHas S w v l.length (rows f l) ∧ (∀ y ∈ l, Pr y) ∧ ∀ b, (DataW.weights Try.prog ts x.1).all (· ≤ b) = true → l.length * Try.prog.bytesOf e ≤ b := by
  rcases DataW.trod_slice hu h with ⟨h0, hx⟩ | ⟨a, len, cap, elems, rest, m, hm, hcs, hx, hba, hl, hmx, hlen, hel, _, _⟩
  · exact ⟨_, [], h0, SHas.nil w S, (fun _ h => by cases h), fun b _ => by simp⟩
  · have one : ∀ i, i < len → ∃ y : α, (∀ j u, (f y)[j]? = some u → w.cell? (a.add (i * S + j)) = some u) ∧ Pr y := by
      intro i hi
      have hi' := hel i hi
      rw [hS, List.getElem?_eq_getElem (by omega)] at hi'
      obtain ⟨cs', h1, h2⟩ := Option.bind_eq_some_iff.1 hi'
      obtain ⟨_, hlen', hcell⟩ := World.cells?_some h1
      obtain ⟨y, rfl, hy⟩ := each _ _ _ h2
      refine ⟨y, fun j u hu => ?_, hy⟩
      have hj : j < S := by have := (List.getElem?_eq_some_iff.1 hu).1; rw [hf] at this; exact this
      have e := hcell j (by omega)
      rw [Deep.add_add] at e
      rw [e]
      exact hu
    obtain ⟨g, hk⟩ := Deep.choose_lt one
    have hll : ((List.range len).map g).length = len := by simp
    refine ⟨_, (List.range len).map g, hcs, ⟨by rw [hll]; omega, by rw [rows_length hf], .inr ⟨a, cap, by rw [hll], ⟨by rw [hll]; omega, by omega⟩, fun h0 => ?_⟩⟩, ?_, ?_⟩
    · have h0' : 0 < len := by simpa using h0
      obtain ⟨b, off, spot⟩ := a
      obtain ⟨u0, hu0⟩ : ∃ u0, (f (g 0))[0]? = some u0 := ⟨(f (g 0))[0]'(by rw [hf]; exact hS0), List.getElem?_eq_getElem _⟩
      have q0 := (hk 0 h0').1 0 _ hu0
      have hspot : spot = none := by simpa [Addr.add] using World.cell?_spot q0
      subst hspot
      refine ⟨b, off, rfl, fun j u hu => ?_⟩
      obtain ⟨i, r, hi, hr, rfl, hq⟩ := rows_split hf _ j u hu
      have hi' : i < len := by simpa using hi
      have := (hk i hi').1 r u (by simpa using hq)
      rw [Addr.add_mid] at this
      exact this
    · intro y hy
      obtain ⟨i, hi, rfl⟩ := List.mem_map.1 hy
      exact (hk i (by simpa using hi)).2
    · intro b hb
      rw [hx] at hb
      simp only [DataW.weights, hu, List.all_cons, Bool.and_eq_true, decide_eq_true_eq, List.length_map] at hb
      rw [hll, ← hlen]
      exact Nat.le_trans (Nat.mul_le_mul_right _ (Nat.le_add_right _ _)) hb.1
set_option maxRecDepth 100000 in
theorem cells_txs {fuel : Nat} {cs : List Value} {x : DataW H × List MemPlace} (h : DataW.trod enc Try.prog w base spare held fuel 22 cs = some x) : ∃ (v : Value) (l : List T), cs = [v] ∧ XHas w v l := by
  have hinh : Inhabited (T × Value) := ⟨(⟨0, 0, zeros, 0, [], rfl⟩, .bool false)⟩
  obtain ⟨v, ys, h1, h2, h3, _⟩ := cells_rows (α := T × Value) Try.underlying22 c28 (by decide) T.cells (fun y => OHas w y.2 y.1.ops) T.len (fun fuel cs x hx => by
    obtain ⟨p, s, v, t, sl, l, e, hv, ho⟩ := cells_tx hx
    exact ⟨(⟨p, s, v, t, l, hv⟩, sl), e, OIs.has ho⟩) h
  exact ⟨v, ys.map (·.1), h1, ys, rfl, by rw [List.length_map]; exact h2, h3⟩
variable {r : Reach} {b0 : Nat} {v : Value} {d : DataW H} {ps : List MemPlace}
theorem open_tx (hval : Value.okWide Try.prog w r b0 34 v) (hd : DataW.Trod enc Try.prog w base spare held 34 v d ps) : ∃ (p s : Int) (u : List Int) (t : Int) (sl : Value) (l : List O), v = TxV p s u t sl ∧ u.length = 13 ∧ OIs w sl l := by
  obtain ⟨fuel, hf⟩ := hd
  simp only [Value.okWide, Try.underlying34] at hval
  obtain ⟨cs, rfl, _⟩ := hval
  obtain ⟨p, s, u, t, sl, l, e, hu, hl⟩ := cells_tx hf
  exact ⟨p, s, u, t, sl, l, by rw [show cs = (txc p s u t sl).toArray from Array.toList_inj.1 e], hu, hl⟩
set_option maxRecDepth 100000 in
theorem open_vec (hval : Value.okWide Try.prog w r b0 26 v) (hd : DataW.Trod enc Try.prog w base spare held 26 v d ps) : ∃ l : List Int, v = V l ∧ l.length = 13 := by
  obtain ⟨fuel, hf⟩ := hd
  simp only [Value.okWide, Try.underlying26] at hval
  obtain ⟨cs, rfl, _⟩ := hval
  obtain ⟨xs1, m, _, _, hlen, hxs, hi⟩ := DataW.trod_array Try.underlying26 hf
  obtain ⟨u, hu⟩ := vals_of_ints (Value.agg cs).cells.toList (fun i hlt => by
    have hi13 : i < 13 := by rw [hlen, c25] at hlt; exact hlt
    have hq := hi i hi13
    rw [c3, List.getElem?_eq_getElem (show i < xs1.length by omega)] at hq
    obtain ⟨n, hn, _⟩ := DataW.trod_int Try.underlying3 hq
    refine ⟨n, ?_⟩
    rw [Nat.mul_one, List.drop_eq_getElem_cons hlt] at hn
    simpa using hn)
  have e : cs.toList = vals u := hu
  refine ⟨u, by rw [show cs = (vals u).toArray from Array.toList_inj.1 e], ?_⟩
  have := congrArg List.length e
  rw [vals_length] at this
  rw [← this]
  have h2 := hlen
  rw [c25] at h2
  exact h2
set_option maxRecDepth 100000 in
theorem open_txs (hval : Value.okWide Try.prog w r b0 22 v) (hd : DataW.Trod enc Try.prog w base spare held 22 v d ps) : ∃ l : List T, XHas w v l := by
  obtain ⟨fuel, hf⟩ := hd
  obtain ⟨a, len, cap, rfl⟩ := okWide_slice Try.underlying22 hval
  obtain ⟨v', l, e, h⟩ := cells_txs hf
  simp only [Value.cells, List.cons.injEq, and_true] at e
  exact ⟨l, by rw [← e] at h; exact h⟩
end
end Go.Proofs.Ytfiamiflkfdhoaa
