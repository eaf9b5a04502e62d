import Derived.Test.YtfiamiflkfdhoaaRows
import Derived.WalkKit
import Derived.WalkSpells
import Derived.WalkLawsBesides
import Derived.WalkMore
import Derived.Deep.RegionHeld3
import Derived.Deep.WholeRow
import Derived.Deep.MidRow
import Derived.Laws.CopyOwn
import Derived.ProofKit
import Derived.OpenShut
import Derived.Still
import Derived.OrdersHeld
/- An array of thirteen ints (api.Vec) in a block of its own: read, written, whole or at a place; and that a call leaves it alone. Nothing of one function. -/
namespace Go.Proofs.Ytfiamiflkfdhoaa
open Go.ChangeShapes Go.WideShapes Go.ChangeAt Go.RowKit

/-- Ints as cells. -/
def vals (l : List Int) : List Value := l.map (Value.int .i64)
/-- The array by value. -/
abbrev V (l : List Int) : Value := .agg (vals l).toArray
/-- The block b is an array of thirteen that holds l. -/
def At (w : World) (b : Nat) (l : List Int) : Prop := l.length = 13 ∧ w.heap[b]? = some (.cells (vals l).toArray 26)

theorem vals_length (l : List Int) : (vals l).length = l.length := by simp [vals]
theorem vals_size (l : List Int) : (vals l).toArray.size = l.length := by simp [vals]
theorem vals_one (l : List Int) : (vals l).toArray.all (·.oneCell') = true := by
  rw [List.all_toArray, List.all_eq_true]
  intro u hu
  obtain ⟨_, _, rfl⟩ := List.mem_map.1 hu
  rfl
theorem size26 : (Try.prog.info? 26).map (·.size) = some 13 := by kernel_rfl
abbrev zeros : List Int := [0, 0, 0, 0, 0, 0, 0, 0, 0, 0, 0, 0, 0]

theorem at_new (w : World) (l : List Int) (hl : l.length = 13) : At (w.alloc (.cells (vals l).toArray 26)) w.heap.size l := ⟨hl, heap_alloc_last w _⟩
theorem at_next (w : World) {b : Nat} (hb : b = w.heap.size) (l : List Int) (hl : l.length = 13) : At (w.alloc (.cells (vals l).toArray 26)) b l := by
  subst hb
  exact at_new w l hl
theorem At.lt {w : World} {b : Nat} {l : List Int} (h : At w b l) : b < w.heap.size := (Array.getElem?_eq_some_iff.1 h.2).1
theorem At.alloc {w : World} {b : Nat} {l : List Int} (h : At w b l) (o : Obj) : At (w.alloc o) b l := ⟨h.1, (Below.heap_alloc w o b h.lt).trans h.2⟩
theorem At.drew {w : World} {b : Nat} {l : List Int} (h : At w b l) : At w.drew b l := h
theorem At.below {w w' : World} {B b : Nat} {l : List Int} (h : At w b l) (hb : Below B w w') (hB : b < B) : At w' b l := ⟨h.1, (hb.block b hB).trans h.2⟩
theorem At.later {w w' : World} {b : Nat} {l : List Int} (h : At w b l) (hb : Below w.heap.size w w') : At w' b l := h.below hb h.lt
theorem At.cell {w : World} {b i : Nat} {l : List Int} (h : At w b l) (hi : i < 13) : w.cell? ⟨b, i, none⟩ = some (.int .i64 (l.getD i 0)) := by
  have hi' : i < l.length := by rw [h.1]; exact hi
  rw [cell_of_row _ _ i _ 26 (0, 0) h.2]
  simp [vals, List.getElem?_eq_getElem hi']
theorem At.frozen {w : World} {b : Nat} {l : List Int} (h : At w b l) (i : Nat) : w.frozen? ⟨b, i, none⟩ = false := by
  have h2 := h.2
  simp [World.frozen?, h2]
theorem At.row {w : World} {b : Nat} {l0 : List Int} (h : At w b l0) {l : List Int} (hl : l.length = 13) : At (w.setRow b (vals l).toArray) b l := ⟨hl, setRow_heap w b _ _ 26 (0, 0) h.2⟩
theorem At.rowOther {w : World} {b c : Nat} {l : List Int} (h : At w b l) (hne : b ≠ c) (cs : Array Value) : At (w.setRow c cs) b l := ⟨h.1, (setRow_other w c b cs hne).trans h.2⟩
theorem At.set {w : World} {b i : Nat} {l : List Int} (h : At w b l) (z : Int) : At (w.setCell ⟨b, i, none⟩ (.int .i64 z)) b (l.set i z) := by
  rw [setCell_eq_setRow w b i _ 26 (0, 0) _ h.2]
  have : (vals l).toArray.setIfInBounds i (.int .i64 z) = (vals (l.set i z)).toArray := by simp [vals, List.map_set]
  rw [this]
  exact h.row (by rw [List.length_set]; exact h.1)
theorem At.setOther {w : World} {b c i : Nat} {l : List Int} (h : At w b l) (hne : b ≠ c) (v : Value) : At (w.setCell ⟨c, i, none⟩ v) b l := ⟨h.1, (Below.heap_setCell w _ v b hne).trans h.2⟩
theorem At.loadVar {w : World} {b : Nat} {l : List Int} (h : At w b l) : (loadVar 26 ⟨b, 0, none⟩).run Try.prog w = .ok (V l) w :=
  run_loadVar_row w b 26 26 _ (0, 0) _ h.2 Try.underlying26 rfl (by rw [vals_size, h.1]; exact size26)
theorem At.load {w : World} {b : Nat} {l : List Int} (h : At w b l) : (Instr.loadAt 26 (.pointer (some ⟨b, 0, none⟩))).run Try.prog w = .ok (V l) w := by
  simp only [Instr.loadAt, Instr.sureAddr, Sem.run_bind, Sem.run_pure, Result.andThen]
  exact h.loadVar
theorem At.store {w : World} {b : Nat} {l0 l : List Int} (h : At w b l0) (hl : l.length = 13) : (Instr.storeAt 26 (.pointer (some ⟨b, 0, none⟩)) (V l)).run Try.prog w = .ok () (w.setRow b (vals l).toArray) := by
  simp only [Instr.storeAt, Instr.sureAddr, Sem.run_bind, Sem.run_pure, Result.andThen]
  exact run_storeVar_row w b 26 26 _ _ h.2 (by rw [vals_size, hl]; exact size26) (by rw [vals_size, vals_size, h.1, hl]) (vals_one l)

theorem At.range {w : World} {b : Nat} {l : List Int} (h : At w b l) : w.rangeAt b 0 (vals l) := by
  intro j v hv
  have hj : j < (vals l).length := (List.getElem?_eq_some_iff.1 hv).1
  rw [vals_length, h.1] at hj
  rw [Nat.zero_add, h.cell hj, ← hv]
  simp [vals, List.getElem?_eq_getElem (show j < l.length by rw [h.1]; exact hj)]
theorem info_vals {l : List Int} (h : l.length = 13) : (Try.prog.info? 26).map (·.size) = some (vals l).length := by rw [vals_length, h]; exact size26

/-- The array is loaded whole, at the head of a plain region's operations. -/
theorem load_at {ops : Array Oper} {rest : List Oper} {op : Oper} {a : Act} {w : World} {Q : Exit → Act → World → Prop} (hgd : op.guard = none) (x : Operand) (ho : op.op = .load 26 x)
    (b : Nat) (hx : a.eval x = .pointer (some ⟨b, 0, none⟩)) {l : List Int} (hc : At w b l)
    (h : wpList Try.prog ops Q rest (a.put op.dst (V l)) w) : wpList Try.prog ops Q (op :: rest) a w :=
  wpList_plain hgd fun _ hK => by
    unfold Oper.wp execOp
    simp only [ho, hx, Sem.run_bind, hc.load, Result.andThen_ok, Sem.run_pure]
    exact hK _ _ h

/-- The array is stored whole. -/
theorem store_at {ops : Array Oper} {rest : List Oper} {op : Oper} {a : Act} {w : World} {Q : Exit → Act → World → Prop} (hgd : op.guard = none) (x y : Operand) (ho : op.op = .store 26 x y)
    (b : Nat) (l : List Int) (hx : a.eval x = .pointer (some ⟨b, 0, none⟩)) (hy : a.eval y = V l) {l0 : List Int} (hc : At w b l0) (hl : l.length = 13)
    (h : wpList Try.prog ops Q rest (a.put op.dst undef) (w.setRow b (vals l).toArray)) : wpList Try.prog ops Q (op :: rest) a w :=
  wpList_plain hgd fun _ hK => by
    unfold Oper.wp execOp
    simp only [ho, hx, hy, Sem.run_bind, hc.store hl, Result.andThen_ok, Sem.run_pure]
    exact hK _ _ h

/-- In a region that draws its order. -/
theorem yields_at {ops : Array Oper} {S : World → Prop} {op : Oper} {a : Act} (hw : Region.wanted op (yielded ops a.tmps) = true) (x : Operand) (ho : op.op = .load 26 x)
    (b : Nat) (hx : a.eval x = .pointer (some ⟨b, 0, none⟩)) (l : List Int) (hS : ∀ w, S w → At w b l) : YieldsIf Try.prog ops S op (V l) a :=
  .inl ⟨hw, fun w hw' => by
    unfold execOp
    simp only [ho, hx, Sem.run_bind, (hS w hw').load, Result.andThen_ok, Sem.run_pure]⟩

/-- A result that lies in a block. -/
theorem results_at {fn : Func} {t : Tmp} (h : fn.results = #[.cell t 26]) {tmps : Array Value} {w : World} {b : Nat} {l : List Int} (hp : tmps.getD t undef = .pointer (some ⟨b, 0, none⟩)) (hc : At w b l) :
    (results fn tmps).run Try.prog w = .ok (V l) w := by
  have h2 := hc.loadVar
  unfold results
  rw [h]
  simp only [List.mapM_toArray, List.mapM_cons, List.mapM_nil, hp, asAddr]
  simp [h2]

theorem results_at2 {fn : Func} {t u : Tmp} (h : fn.results = #[.cell t 26, .tmp u]) {tmps : Array Value} {w : World} {b : Nat} {l : List Int} (hp : tmps.getD t undef = .pointer (some ⟨b, 0, none⟩)) (hc : At w b l) :
    (results fn tmps).run Try.prog w = .ok (.tuple #[V l, tmps.getD u undef]) w := by
  have h2 := hc.loadVar
  unfold results
  rw [h]
  simp only [List.mapM_toArray, List.mapM_cons, List.mapM_nil, hp, asAddr]
  simp [h2]

theorem all_range_ints : ∀ (xs ys : List Int), xs.length = ys.length → ((List.range xs.length).all fun i => xs.getD i 0 == ys.getD i 0) = (xs == ys)
  | [], [], _ => rfl
  | x :: xs, y :: ys, h => by
    have ih := all_range_ints xs ys (by simpa using h)
    rw [List.length_cons, List.range_succ_eq_map, List.all_cons, List.all_map]
    simp only [List.getD_cons_zero, Function.comp_def, List.getD_cons_succ, ih]
    simp [List.cons_beq_cons]
  | [], _ :: _, h => by simp at h
  | _ :: _, [], h => by simp at h

/-- Two arrays are compared whole. -/
theorem eq_arrays (w : World) (xs ys : List Int) (hx : xs.length = 13) (hy : ys.length = 13) : (Op.equalIn 10000 26 (V xs) (V ys)).run Try.prog w = .ok (xs == ys) w := by
  have hsz : ∀ w, (sizeOf 3).run Try.prog w = .ok 1 w := fun _ => by kernel_rfl
  rw [← all_range_ints xs ys (hx.trans hy.symm), hx, List.range_eq_range', Op.equalIn]
  simp only [Sem.run_bind, run_underlying Try.underlying26, Result.andThen_ok, hsz, Std.Legacy.Range.forIn_eq_forIn_range', Std.Legacy.Range.size, Nat.sub_zero, Nat.add_sub_cancel, Nat.div_one]
  have hl : ∀ i ∈ List.range' 0 13 1, i < 13 := fun i hi => by simpa using (List.mem_range'_1.1 hi).2
  generalize List.range' 0 13 1 = l at hl ⊢
  induction l with
  | nil => simp
  | cons i l ih =>
    have hi : i < 13 := hl i (by simp)
    have px : (part 3 (vals xs).toArray (i * 1)).run Try.prog w = .ok (.int .i64 (xs.getD i 0)) w := by
      simp [part, isAgg, run_underlying Try.underlying3, vals, List.getD, List.getElem?_eq_getElem (show i < xs.length by omega)]
    have py : (part 3 (vals ys).toArray (i * 1)).run Try.prog w = .ok (.int .i64 (ys.getD i 0)) w := by
      simp [part, isAgg, run_underlying Try.underlying3, vals, List.getD, List.getElem?_eq_getElem (show i < ys.length by omega)]
    have pe : (Op.equalIn 9999 3 (.int .i64 (xs.getD i 0)) (.int .i64 (ys.getD i 0))).run Try.prog w = .ok (xs.getD i 0 == ys.getD i 0) w :=
      run_equalIn_int w 9998 3 .i64 .i64 _ _ Try.underlying3
    simp only [List.forIn_cons, Sem.run_bind, px, py, pe, Result.andThen_ok, List.all_cons]
    cases hb : (xs.getD i 0 == ys.getD i 0)
    · simp
    · simp only [Bool.not_true, Bool.false_eq_true, if_false, Sem.run_pure, Result.andThen_ok, Bool.true_and]
      exact ih fun j hj => hl j (by simp [hj])

end Go.Proofs.Ytfiamiflkfdhoaa
/- The functions Join, Meet and Leq of package vec. -/
namespace Go.Proofs.Ytfiamiflkfdhoaa
open Go.RowKit

/-- The greater, the lesser one of each; none of a's is above b's. -/
def jn (a b : List Int) : List Int := List.zipWith max a b
def mt (a b : List Int) : List Int := List.zipWith min a b
def lq (a b : List Int) : Bool := jn a b == b

theorem jn_length {a b : List Int} (ha : a.length = 13) (hb : b.length = 13) : (jn a b).length = 13 := by simp [jn, ha, hb]
theorem ext13 {a b : List Int} (ha : a.length = 13) (hb : b.length = 13) (h : ∀ i, i < 13 → a.getD i 0 = b.getD i 0) : a = b := by
  apply List.ext_getElem (by omega)
  intro i h1 h2
  have := h i (by omega)
  simpa [List.getD, List.getElem?_eq_getElem h1, List.getElem?_eq_getElem h2] using this

theorem jn_at {a b : List Int} (ha : a.length = 13) (hb : b.length = 13) (i : Nat) (hi : i < 13) : (jn a b).getD i 0 = max (a.getD i 0) (b.getD i 0) := by
  simp [jn, List.getD, List.getElem?_zipWith, List.getElem?_eq_getElem (show i < a.length by omega), List.getElem?_eq_getElem (show i < b.length by omega)]
theorem set_at (l : List Int) (k : Nat) (z : Int) (hk : k < l.length) (i : Nat) : (l.set k z).getD i 0 = if i = k then z else l.getD i 0 := by
  by_cases h : i = k
  · subst h; simp [List.getD, List.getElem?_set_self hk]
  · simp [List.getD, List.getElem?_set_ne (Ne.symm h), h]

set_option maxHeartbeats 1000000 in
set_option maxRecDepth 100000 in
theorem join_any (a b : List Int) (w : World) (ha : a.length = 13) (hb : b.length = 13) :
    Calls Try.prog 52 #[V a, V b] w fun e w' => e = .returned (V (jn a b)) ∧ Below w.heap.size w w' := by
  have HA : Hid (a.length = 13) := ha
  have HB : Hid (b.length = 13) := hb
  clear ha hb
  go_enter Try.func52, Try.ntmps52
  go_wp2
  go_loopw [6] (fun vi wr => ∃ (k : Nat) (l : List Int), vi = .int .i64 k ∧ k ≤ 13 ∧ Hid (∀ i, i < 13 → l.getD i 0 = if i < k then max (a.getD i 0) (b.getD i 0) else a.getD i 0) ∧ At wr w.heap.size l ∧ At wr (w.heap.size + 1) b ∧ (∃ z, At wr (w.heap.size + 1 + 1) z) ∧ Below w.heap.size w wr) (fun vi _ => 13 - (intOf vi).toNat)
  case atStart =>
    refine ⟨0, a, rfl, by omega, (show ∀ i, i < 13 → _ from fun i _ => by simp), ((at_new w a HA.out).alloc _).alloc _, (at_next _ (by simp) b HB.out).alloc _, ⟨zeros, at_next _ (by simp) zeros rfl⟩, ?_⟩
    exact (((Below.refl _ _).alloc (Nat.le_refl _) _).alloc (by simp) _).alloc (by simp; omega) _
  case round =>
    obtain ⟨k, l, rfl, hk, HV, h1, h2, ⟨z, h3⟩, hbel⟩ := hrel
    by_cases hlt : k < 13
    · have c1 := h1.cell hlt
      have c2 := h2.cell hlt
      have f1 := h1.frozen k
      have hx : Hid (l.getD k 0 = a.getD k 0) := by
        show _ = _
        have := HV.out k hlt
        simpa using this
      obtain ⟨x, HX⟩ : ∃ x, Hid (l.getD k 0 = x) := ⟨_, rfl⟩
      obtain ⟨y, HY⟩ : ∃ y, Hid (b.getD k 0 = y) := ⟨_, rfl⟩
      rw [HX.out] at c1
      rw [HY.out] at c2
      have R1 := h1.set (i := k) (if x < y then y else x)
      have R2 := h2.setOther (c := w.heap.size) (i := k) (by omega) (.int .i64 (if x < y then y else x))
      have R3 := h3.setOther (c := w.heap.size) (i := k) (by omega) (.int .i64 (if x < y then y else x))
      have R4 : Below w.heap.size w (wr.setCell ⟨w.heap.size, k, none⟩ (.int .i64 (if x < y then y else x))) := hbel.setCell (Nat.le_refl _) _
      have HV2 : Hid (∀ i, i < 13 → (l.set k (if x < y then y else x)).getD i 0 = if i < k + 1 then max (a.getD i 0) (b.getD i 0) else a.getD i 0) := by
        show ∀ i, i < 13 → _
        intro i hi
        rw [set_at l k _ (by have := h1.1; omega)]
        have h0 := HV.out i hi
        have h4 := HX.out
        have h5 := HY.out
        have h6 := hx.out
        by_cases hik : i = k
        · subst hik
          rw [if_pos rfl, if_pos (show i < i + 1 by omega), ← h6, h4, h5]
          split <;> omega
        · rw [if_neg hik, h0]
          by_cases h7 : i < k
          · rw [if_pos h7, if_pos (by omega)]
          · rw [if_neg h7, if_neg (by omega)]
      generalize l.set k (if x < y then y else x) = l2 at R1 HV2
      clear h1 h2 h3 hbel HX HY hx HV
      go_wp2
      go_region
      go_wp2
      go_roundw
      case rel => exact ⟨k + 1, l2, by simp, by omega, HV2, R1, R2, ⟨z, R3⟩, R4.drew⟩
      case measure => simp [intOf]; omega
    · have hk13 : k = 13 := by omega
      subst hk13
      have e : Hid (l = jn a b) := by
        show _ = _
        refine ext13 h1.1 (jn_length HA.out HB.out) fun i hi => ?_
        rw [HV.out i hi, if_pos hi, jn_at HA.out HB.out i hi]
      have R := below_setRow hbel (g := w.heap.size + 1 + 1) (by omega) (vals l).toArray
      rw [e.out] at h1 R
      have h13 := h1.1
      clear h2 hbel HV
      go_wp2_with (first | refine load_at rfl _ rfl _ rfl h1 ?_ | refine store_at rfl _ _ rfl _ _ rfl rfl h3 h13 ?_)
      exact bodyPost_ret (results_at rfl rfl (h3.row h13)) rfl ⟨rfl, R⟩

end Go.Proofs.Ytfiamiflkfdhoaa
/- A region that draws its order, where every operation, a call too, comes to one value in every world that meets S, and leaves a world that meets S: it may be walked in the text's order, once. Nothing of one program. -/
namespace Go.Proofs.Ytfiamiflkfdhoaa.Calm

section
variable {P : Program} {ops : Array Oper} {Q : Exit → Act → World → Prop} {md : Region.Mode} {S : World → Prop} {K : Act → Prop}

/-- In every world that meets S what is run comes to v, by itself or by a call, and leaves a world that meets S. -/
def Comes (P : Program) (S : World → Prop) (v : Value) (m : Sem Next) : Prop := ∀ w, S w → match m.run P w with
  | .ok (.value u) w' => u = v ∧ S w'
  | .ok (.enter f args) w' => Calls P f args w' fun e w'' => e = .returned v ∧ S w''
  | _ => False

def Calm (P : Program) (ops : Array Oper) (S : World → Prop) (o : Oper) (v : Value) (a : Act) : Prop :=
  (Region.wanted o (yielded ops a.tmps) = true ∧ Comes P S v (execOp a.eval o)) ∨ (Region.wanted o (yielded ops a.tmps) = false ∧ v = undef)

theorem Calm.of_same {o : Oper} {v : Value} {a a' : Act} (hy : Calm P ops S o v a) (he : execOp a'.eval o = execOp a.eval o)
    (hw : Region.wanted o (yielded ops a'.tmps) = Region.wanted o (yielded ops a.tmps)) : Calm P ops S o v a' := by
  unfold Calm at *
  rw [he, hw]
  exact hy

theorem Calm.wpOp {i : Nat} {o : Oper} {v : Value} {a : Act} (hi : ops[i]? = some o) (hy : Calm P ops S o v a)
    {K : Act → World → Prop} {w : World} (hS : S w) (h : ∀ w', S w' → K (a.put o.dst v) w') : Go.wpOp P ops Q i K a w := by
  unfold Go.wpOp
  simp only [hi]
  rcases hy with ⟨hw, hv⟩ | ⟨hw, rfl⟩
  · simp only [hw, if_true, Oper.wp]
    refine .inl ?_
    have hv' := hv w hS
    generalize (execOp a.eval o).run P w = r at hv'
    cases r with
    | ok n w' =>
      cases n <;> simp only at hv' ⊢
      case value u =>
        obtain ⟨rfl, hS'⟩ := hv'
        exact h _ hS'
      case enter f args =>
        refine Calls.mono hv' fun e w'' he => ?_
        obtain ⟨rfl, hS'⟩ := he
        exact h _ hS'
    | halt x w' => exact hv'.elim
  · simp only [hw, Bool.false_eq_true, if_false]
    exact h _ hS

/-- Whatever order is picked. -/
def anyCalm (P : Program) (md : Region.Mode) (ops : Array Oper) (S : World → Prop) (K : Act → Prop) : Nat → Array Bool → Act → Prop
  | 0, listed, a => Region.ready md ops listed = [] ∧ K a
  | fuel + 1, listed, a =>
    (Region.ready md ops listed = [] → K a) ∧
    ∀ i ∈ Region.ready md ops listed, ∃ o v, ops[i]? = some o ∧ Calm P ops S o v a ∧ anyCalm P md ops S K fuel (listed.setIfInBounds i true) (a.put o.dst v)

theorem wpAny_of_calm (hK : ∀ a w, K a → S w → Q .normal a w) : ∀ (fuel : Nat) (listed : Array Bool) (a : Act) (w : World), S w → anyCalm P md ops S K fuel listed a → wpAny P md ops Q fuel listed a w
  | 0, _, a, w, hS, h => ⟨h.1, hK a w h.2 hS⟩
  | fuel + 1, _, a, w, hS, h => ⟨fun hr => hK a w (h.1 hr) hS, fun i hi => by
      obtain ⟨o, v, ho, hc, hr⟩ := h.2 i hi
      exact hc.wpOp ho hS fun w' hS' => wpAny_of_calm hK fuel _ _ w' hS' hr⟩

theorem anyCalm_first {i : Nat} {oi : Oper} {v : Value} (hi : ops[i]? = some oi) (hsel : ∀ (j : Nat) (o : Oper) cs b, ops[j]? = some o → o.op ≠ .select cs b) :
    ∀ (fuel : Nat) (listed : Array Bool) (a : Act),
      (∀ j oj, ops[j]? = some oj → j ≠ i → listed.getD j true = false → (∀ e ∈ oj.after, Region.binds md e = true → e.on ≠ i) → oi.apart ops oj = true) →
      i ∈ Region.ready md ops listed → Calm P ops S oi v a →
      anyCalm P md ops S K fuel (listed.setIfInBounds i true) (a.put oi.dst v) → anyCalm P md ops S K (fuel + 1) listed a := by
  intro fuel
  induction fuel with
  | zero =>
    intro listed a _ hr hy H
    refine ⟨fun h => (by rw [h] at hr; cases hr), fun j hj => ?_⟩
    by_cases hji : j = i
    · subst hji; exact ⟨oi, v, hi, hy, H⟩
    · have := ready_mono hj hji
      rw [H.1] at this
      cases this
  | succ fuel ih =>
    intro listed a hfree hr hy H
    refine ⟨fun h => (by rw [h] at hr; cases hr), fun j hj => ?_⟩
    by_cases hji : j = i
    · subst hji; exact ⟨oi, v, hi, hy, H⟩
    · obtain ⟨oj, u, hoj, hcj, hrest⟩ := H.2 j (ready_mono hj hji)
      obtain ⟨hjun, oj', hoj', hall⟩ := mem_ready.1 hj
      obtain rfl : oj = oj' := by rw [hoj] at hoj'; exact Option.some.inj hoj'
      have hnot : ∀ e ∈ oj.after, Region.binds md e = true → e.on ≠ i := fun e he hb heq => by
        have h1 := hall e he hb
        have h0 := (mem_ready.1 hr).1
        rw [heq] at h1
        rcases Nat.lt_or_ge i listed.size with h' | h'
        · simp [h'] at h0 h1; rw [h0] at h1; cases h1
        · simp [Array.getElem?_eq_none h'] at h1
      obtain ⟨h1, h2, h3⟩ := Oper.apart_spec (hfree j oj hoj hji hjun hnot)
      have hfree' : ∀ k ok, ops[k]? = some ok → k ≠ i → (listed.setIfInBounds j true).getD k true = false →
          (∀ e ∈ ok.after, Region.binds md e = true → e.on ≠ i) → oi.apart ops ok = true := fun k ok hk hki hun hno => by
        refine hfree k ok hk hki ?_ hno
        by_cases hjk : j = k
        · subst hjk; exact hjun
        · rw [getD_set_ne true hjk] at hun; exact hun
      refine ⟨oj, u, hoj, hcj.of_same (execOp_put oj (fun cs b => hsel j oj cs b hoj) a oi.dst v h1).symm (wanted_put oj a oi.dst v h1).symm, ?_⟩
      refine ih (listed.setIfInBounds j true) (a.put oj.dst u) hfree' (ready_mono hr (Ne.symm hji)) ?_ ?_
      · exact hy.of_same (execOp_put oi (fun cs b => hsel i oi cs b hi) a oj.dst u h3) (wanted_put oi a oj.dst u h3)
      · rw [Array.setIfInBounds_comm _ _ hji, ← Act.put_comm a v u h2]
        exact hrest

/-- In the text's order. -/
def calmList (P : Program) (ops : Array Oper) (S : World → Prop) (K : Act → Prop) : List Oper → Act → Prop
  | [], a => K a
  | o :: l, a => ∃ v, Calm P ops S o v a ∧ calmList P ops S K l (a.put o.dst v)

theorem anyCalm_lex (hs : Region.noSelect ops = true) : ∀ (l : List Oper) (k : Nat) (listed : Array Bool) (a : Act), (∀ j, l[j]? = ops[k + j]?) →
    Region.lexFrom md ops l.length k listed = true → calmList P ops S K l a → anyCalm P md ops S K l.length listed a
  | [], _, _, _, _, hB, h => ⟨by simpa [Region.lexFrom] using hB, h⟩
  | o :: l, k, listed, a, hl, hB, h => by
    have h0 : ops[k]? = some o := by simpa using (hl 0).symm
    simp only [List.length_cons, Region.lexFrom, Bool.and_eq_true] at hB
    obtain ⟨⟨hr, hf⟩, hB'⟩ := hB
    obtain ⟨v, hy, hK⟩ := h
    exact anyCalm_first h0 (Region.noSelect_spec hs) l.length listed a (Region.free_spec h0 hf) (by simpa using hr) hy
      (anyCalm_lex hs l (k + 1) _ _ (fun j => by have := hl (j + 1); simpa [Nat.add_assoc, Nat.add_comm 1 j] using this) hB' hK)

theorem region {id : Nat} {a : Act} {w : World} {l : List Oper} (hm : P.follows .mixedOrders = true) (hB : Region.lexB .any l.toArray = true) (S : World → Prop) (hS : S w.drew)
    (h : calmList P l.toArray S (fun a' => ∀ w', S w' → Q .normal a' w') l a) : (Code.region id l.toArray true).wp P Q a w := by
  simp only [Region.lexB, Bool.and_eq_true] at hB
  refine wp_region_any hm (wpAny_of_calm (K := fun a' => ∀ w', S w' → Q .normal a' w') (S := S) (fun a w h hS => h w hS) _ _ _ _ hS ?_)
  have := anyCalm_lex (md := .any) hB.1 l 0 (Array.replicate l.toArray.size false) a (by simp) (by simpa using hB.2) h
  simpa using this

/-! The moves. -/
theorem skip {o : Oper} {l : List Oper} {a : Act} (hw : Region.wanted o (yielded ops a.tmps) = false) (h : calmList P ops S K l (a.put o.dst undef)) : calmList P ops S K (o :: l) a :=
  ⟨undef, .inr ⟨hw, rfl⟩, h⟩
theorem pure {o : Oper} {l : List Oper} {a : Act} {v : Value} (hw : Region.wanted o (yielded ops a.tmps) = true) (hv : ∀ w, S w → (execOp a.eval o).run P w = .ok (.value v) w)
    (h : calmList P ops S K l (a.put o.dst v)) : calmList P ops S K (o :: l) a :=
  ⟨v, .inl ⟨hw, fun w hS => by rw [hv w hS]; exact ⟨rfl, hS⟩⟩, h⟩
theorem call {o : Oper} {l : List Oper} {a : Act} {v : Value} {f : FuncId} {args : Array Value} (hw : Region.wanted o (yielded ops a.tmps) = true)
    (he : ∀ w, (execOp a.eval o).run P w = .ok (.enter f args) w) (hc : ∀ w, S w → Calls P f args w fun e w' => e = .returned v ∧ S w')
    (h : calmList P ops S K l (a.put o.dst v)) : calmList P ops S K (o :: l) a :=
  ⟨v, .inl ⟨hw, fun w hS => by rw [he w]; exact hc w hS⟩, h⟩

/-- S stays behind whatever leaves the memory that was there alone. -/
def Stays (S : World → Prop) : Prop := ∀ w w', S w → RowKit.Below w.heap.size w w' → S w'

/-- The function has a body. -/
def enters (P : Program) (f : FuncId) : Bool := match P.funcs[f]? with
  | some fn => !(fn.name == "runtime.NumGoroutine") && fn.body.isSome
  | none => false
theorem enters_run {f : FuncId} (h : enters P f = true) (args : Array Value) (w : World) : (callFunc f args).run P w = .ok (.enter f args) w := by
  unfold enters at h
  cases hf : P.funcs[f]? with
  | none => simp [hf] at h
  | some fn =>
    simp only [hf, Bool.and_eq_true, Bool.not_eq_true'] at h
    have h1 : ¬ fn.name = "runtime.NumGoroutine" := by simpa using h.1
    have h2 : ¬ fn.body = none := by
      intro hb
      rw [hb] at h
      simp at h
    simp [callFunc, hf, h1, h2]

/-- A call of a function by its name, of no, one, two, three arguments; a contract that leaves the memory that was there alone. -/
theorem call0 {o : Oper} {l : List Oper} {a : Act} {r : Value} {f : FuncId} {ts : Array TypeId} (hw : Region.wanted o (yielded ops a.tmps) = true)
    (ho : o.op = .call { callee := .value (.func f), args := #[], argTypes := ts })  (hf : enters P f = true) (hs : Stays S)
    (hc : ∀ w, Calls P f #[] w fun e w' => e = .returned r ∧ RowKit.Below w.heap.size w w')
    (h : calmList P ops S K l (a.put o.dst r)) : calmList P ops S K (o :: l) a :=
  call (f := f) (args := #[]) hw (fun w => by
    have e : ∀ args, (callFunc f args).run P w = .ok (.enter f args) w := fun args => enters_run hf args w
    unfold execOp
    simp [ho, go_sem, Act.eval, e]) (fun w hS => (hc w).mono fun e w' he => ⟨he.1, hs w w' hS he.2⟩) h
theorem call1 {o : Oper} {l : List Oper} {a : Act} {r x : Value} {f : FuncId} {ts : Array TypeId} {u : Operand} (hw : Region.wanted o (yielded ops a.tmps) = true)
    (ho : o.op = .call { callee := .value (.func f), args := #[u], argTypes := ts }) (hu : a.eval u = x) (hf : enters P f = true) (hs : Stays S)
    (hc : ∀ w, Calls P f #[x] w fun e w' => e = .returned r ∧ RowKit.Below w.heap.size w w')
    (h : calmList P ops S K l (a.put o.dst r)) : calmList P ops S K (o :: l) a :=
  call (f := f) (args := #[x]) hw (fun w => by
    have e : ∀ args, (callFunc f args).run P w = .ok (.enter f args) w := fun args => enters_run hf args w
    subst hu
    unfold execOp
    simp [ho, go_sem, Act.eval, e]) (fun w hS => (hc w).mono fun e w' he => ⟨he.1, hs w w' hS he.2⟩) h
theorem call2 {o : Oper} {l : List Oper} {a : Act} {r x y : Value} {f : FuncId} {ts : Array TypeId} {u v : Operand} (hw : Region.wanted o (yielded ops a.tmps) = true)
    (ho : o.op = .call { callee := .value (.func f), args := #[u, v], argTypes := ts }) (hu : a.eval u = x) (hv : a.eval v = y) (hf : enters P f = true) (hs : Stays S)
    (hc : ∀ w, Calls P f #[x, y] w fun e w' => e = .returned r ∧ RowKit.Below w.heap.size w w')
    (h : calmList P ops S K l (a.put o.dst r)) : calmList P ops S K (o :: l) a :=
  call (f := f) (args := #[x, y]) hw (fun w => by
    have e : ∀ args, (callFunc f args).run P w = .ok (.enter f args) w := fun args => enters_run hf args w
    subst hu
    subst hv
    unfold execOp
    simp [ho, go_sem, Act.eval, e]) (fun w hS => (hc w).mono fun e w' he => ⟨he.1, hs w w' hS he.2⟩) h
theorem call3 {o : Oper} {l : List Oper} {a : Act} {r x y z : Value} {f : FuncId} {ts : Array TypeId} {u v t : Operand} (hw : Region.wanted o (yielded ops a.tmps) = true)
    (ho : o.op = .call { callee := .value (.func f), args := #[u, v, t], argTypes := ts }) (hu : a.eval u = x) (hv : a.eval v = y) (ht : a.eval t = z) (hf : enters P f = true) (hs : Stays S)
    (hc : ∀ w, Calls P f #[x, y, z] w fun e w' => e = .returned r ∧ RowKit.Below w.heap.size w w')
    (h : calmList P ops S K l (a.put o.dst r)) : calmList P ops S K (o :: l) a :=
  call (f := f) (args := #[x, y, z]) hw (fun w => by
    have e : ∀ args, (callFunc f args).run P w = .ok (.enter f args) w := fun args => enters_run hf args w
    subst hu
    subst hv
    subst ht
    unfold execOp
    simp [ho, go_sem, Act.eval, e]) (fun w hS => (hc w).mono fun e w' he => ⟨he.1, hs w w' hS he.2⟩) h

end
end Go.Proofs.Ytfiamiflkfdhoaa.Calm
/- The function Leq of package vec. -/
namespace Go.Proofs.Ytfiamiflkfdhoaa
open Go.RowKit

theorem below_on {w a b : World} (h : Below w.heap.size w a) (k : Below a.heap.size a b) : Below w.heap.size w b := h.trans (k.mono h.size)

theorem Calm.load {ops : Array Oper} {S : World → Prop} {K : Act → Prop} {o : Oper} {l : List Oper} {a : Act} {b : Nat} {v : List Int} (hw : Region.wanted o (yielded ops a.tmps) = true) (x : Operand) (ho : o.op = .load 26 x)
    (hx : a.eval x = .pointer (some ⟨b, 0, none⟩)) (hS : ∀ w, S w → At w b v) (h : Calm.calmList Try.prog ops S K l (a.put o.dst (V v))) : Calm.calmList Try.prog ops S K (o :: l) a :=
  Calm.pure hw (fun w hw' => by unfold execOp; simp only [ho, hx, Sem.run_bind, (hS w hw').load, Result.andThen_ok, Sem.run_pure]) h

set_option maxHeartbeats 1000000 in
set_option maxRecDepth 100000 in
theorem leq_any (a b : List Int) (w : World) (ha : a.length = 13) (hb : b.length = 13) :
    Calls Try.prog 30 #[V a, V b] w fun e w' => e = .returned (.bool (lq a b)) ∧ Below w.heap.size w w' := by
  have hC19 := fun w1 => join_any a b w1 ha hb
  have heq := fun w1 => eq_arrays w1 (jn a b) b (jn_length ha hb) hb
  have HS : Hid (∀ w1 : World, w1 = (w.alloc (.cells (vals a).toArray 26)).alloc (.cells (vals b).toArray 26) → At w1 w.heap.size a ∧ At w1 (w.heap.size + 1) b ∧ Below w.heap.size w w1) := by
    show ∀ w1 : World, _ → _
    rintro w1 rfl
    exact ⟨(at_new w a ha).alloc _, at_next _ (by simp) b hb, ((Below.refl _ _).alloc (Nat.le_refl _) _).alloc (by simp) _⟩
  clear ha hb
  go_enter Try.func30, Try.ntmps30
  go_wp2
  obtain ⟨h1, h2, hbel⟩ := HS.out _ rfl
  generalize (w.alloc (.cells (vals a).toArray 26)).alloc (.cells (vals b).toArray 26) = w0 at h1 h2 hbel ⊢
  clear HS
  have hs : Calm.Stays (fun w' => At w' w.heap.size a ∧ At w' (w.heap.size + 1) b ∧ Below w.heap.size w w') := fun w1 w2 h hb => ⟨h.1.later hb, h.2.1.later hb, below_on h.2.2 hb⟩
  refine Calm.region (by kernel_rfl) (by kernel_rfl) (fun w' => At w' w.heap.size a ∧ At w' (w.heap.size + 1) b ∧ Below w.heap.size w w') ⟨h1, h2, hbel.drew⟩ ?_
  refine Calm.load (by rfl) _ rfl rfl (fun _ h => by go_split_ands; assumption) ?_
  simp only [Act.put, List.setIfInBounds_toArray, List.set_cons_zero, List.set_cons_succ]
  refine Calm.load (by rfl) _ rfl rfl (fun _ h => by go_split_ands; assumption) ?_
  simp only [Act.put, List.setIfInBounds_toArray, List.set_cons_zero, List.set_cons_succ]
  refine Calm.call2 (by rfl) rfl rfl rfl (by kernel_rfl) hs hC19 ?_
  simp only [Act.put, List.setIfInBounds_toArray, List.set_cons_zero, List.set_cons_succ]
  refine Calm.load (by rfl) _ rfl rfl (fun _ h => by go_split_ands; assumption) ?_
  simp only [Act.put, List.setIfInBounds_toArray, List.set_cons_zero, List.set_cons_succ]
  refine Calm.pure (v := ?_) (by rfl) ?_ ?_
  rotate_left
  focus (intro w hSw; go_simp <;> rfl)
  simp only [Act.put, List.setIfInBounds_toArray, List.set_cons_zero, List.set_cons_succ]
  refine Calm.pure (v := ?_) (by rfl) ?_ ?_
  rotate_left
  focus (intro w hSw; go_simp <;> rfl)
  simp only [Act.put, List.setIfInBounds_toArray, List.set_cons_zero, List.set_cons_succ]
  rintro w9 ⟨_, _, hbel9⟩
  go_wp2
  go_ret
  exact ⟨rfl, hbel9⟩
end Go.Proofs.Ytfiamiflkfdhoaa
/- The functions fullest, Check and Total of package vec. -/
namespace Go.Proofs.Ytfiamiflkfdhoaa
open Go.RowKit

theorem lq_iff {a b : List Int} (ha : a.length = 13) (hb : b.length = 13) : lq a b = true ↔ ∀ i, i < 13 → a.getD i 0 ≤ b.getD i 0 := by
  unfold lq
  rw [beq_iff_eq]
  constructor
  · intro h i hi
    have := jn_at ha hb i hi
    rw [h] at this
    omega
  · intro h
    refine ext13 (jn_length ha hb) hb fun i hi => ?_
    rw [jn_at ha hb i hi]
    have := h i hi
    omega

abbrev full : List Int := [0, 1048576, 1048576, 1048576, 1048576, 1048576, 1048576, 1048576, 1048576, 1048576, 1048576, 1048576, 1048576]
/-- What Check tells. -/
def chk (v : List Int) : Bool := lq zeros v && lq v full

theorem zeros_at (i : Nat) : zeros.getD i 0 = 0 := by
  match i with
  | 0 | 1 | 2 | 3 | 4 | 5 | 6 | 7 | 8 | 9 | 10 | 11 | 12 => rfl
  | n + 13 => rfl
theorem full_at (i : Nat) (hi : i < 13) : full.getD i 0 = if i = 0 then 0 else 1048576 := by
  match i, hi with
  | 0, _ | 1, _ | 2, _ | 3, _ | 4, _ | 5, _ | 6, _ | 7, _ | 8, _ | 9, _ | 10, _ | 11, _ | 12, _ => rfl

theorem chk_iff {v : List Int} (hv : v.length = 13) : chk v = true ↔ v.getD 0 0 = 0 ∧ ∀ i, 1 ≤ i → i < 13 → 0 ≤ v.getD i 0 ∧ v.getD i 0 ≤ 1048576 := by
  unfold chk
  rw [Bool.and_eq_true, lq_iff rfl hv, lq_iff hv rfl]
  constructor
  · rintro ⟨h1, h2⟩
    refine ⟨?_, fun i hi1 hi2 => ?_⟩
    · have h3 := h1 0 (by omega)
      have h4 := h2 0 (by omega)
      rw [zeros_at] at h3
      rw [full_at 0 (by omega)] at h4
      simp only [if_true] at h4
      omega
    · have h3 := h1 i hi2
      have h4 := h2 i hi2
      rw [zeros_at] at h3
      rw [full_at i hi2, if_neg (by omega)] at h4
      omega
  · rintro ⟨h0, h1⟩
    constructor
    · intro i hi
      rw [zeros_at]
      by_cases h : i = 0
      · subst h; omega
      · exact (h1 i (by omega) hi).1
    · intro i hi
      rw [full_at i hi]
      by_cases h : i = 0
      · subst h; rw [if_pos rfl]; omega
      · rw [if_neg h]; exact (h1 i (by omega) hi).2

theorem chk_at {v : List Int} (hv : v.length = 13) (hc : chk v = true) (i : Nat) (hi : i < 13) : 0 ≤ v.getD i 0 ∧ v.getD i 0 ≤ 1048576 := by
  obtain ⟨h0, h1⟩ := (chk_iff hv).1 hc
  by_cases h : i = 0
  · subst h; omega
  · exact h1 i (by omega) hi

set_option maxHeartbeats 1000000 in
set_option maxRecDepth 100000 in
theorem fullest_any (w : World) : Calls Try.prog 67 #[] w fun e w' => e = .returned (V full) ∧ Below w.heap.size w w' := by
  go_enter Try.func67, Try.ntmps67
  go_wp2
  go_loopw [3] (fun vi wr => ∃ (k : Nat) (l : List Int), vi = .int .i64 k ∧ k ≤ 12 ∧ Hid (∀ i, i < 13 → l.getD i 0 = if 1 ≤ i ∧ i ≤ k then 1048576 else 0) ∧ (∃ z, At wr w.heap.size z) ∧ At wr (w.heap.size + 1) l ∧ Below w.heap.size w wr) (fun vi _ => 12 - (intOf vi).toNat)
  case atStart =>
    refine ⟨0, zeros, rfl, by omega, ?_, ⟨zeros, (at_new w zeros rfl).alloc _⟩, at_next _ (by simp) zeros rfl, ?_⟩
    · show ∀ i, i < 13 → _
      intro i _
      rw [zeros_at, if_neg (by omega)]
    · exact ((Below.refl _ _).alloc (Nat.le_refl _) _).alloc (by simp) _
  case round =>
    obtain ⟨k, l, rfl, hk, HV, ⟨z, h1⟩, h2, hbel⟩ := hrel
    by_cases hlt : k < 12
    · have c1 := h2.cell (show k + 1 < 13 by omega)
      have f1 := h2.frozen (k + 1)
      have R1 := h1.setOther (c := w.heap.size + 1) (i := k + 1) (by omega) (.int .i64 1048576)
      have R2 := h2.set (i := k + 1) 1048576
      have R4 : Below w.heap.size w (wr.setCell ⟨w.heap.size + 1, k + 1, none⟩ (.int .i64 1048576)) := hbel.setCell (by show _ ≤ _ + 1; omega) _
      have HV2 : Hid (∀ i, i < 13 → (l.set (k + 1) 1048576).getD i 0 = if 1 ≤ i ∧ i ≤ k + 1 then 1048576 else 0) := by
        show ∀ i, i < 13 → _
        intro i hi
        rw [set_at l (k + 1) _ (by have := h2.1; omega), HV.out i hi]
        by_cases h : i = k + 1
        · rw [if_pos h, if_pos (by omega)]
        · rw [if_neg h]
          by_cases h' : 1 ≤ i ∧ i ≤ k
          · rw [if_pos h', if_pos (by omega)]
          · rw [if_neg h', if_neg (by omega)]
      generalize l.set (k + 1) 1048576 = l2 at R2 HV2
      generalize l.getD (k + 1) 0 = y at c1
      clear h1 h2 hbel HV
      go_wp2
      go_roundw
      case rel => exact ⟨k + 1, l2, by simp, by omega, HV2, ⟨z, R1⟩, R2, R4⟩
      case measure => simp [intOf]; omega
    · have hk12 : k = 12 := by omega
      subst hk12
      have e : l = full := by
        refine ext13 h2.1 rfl fun i hi => ?_
        rw [HV.out i hi, full_at i hi]
        by_cases h : i = 0
        · rw [if_pos h, if_neg (by omega)]
        · rw [if_neg h, if_pos (by omega)]
      subst e
      have R := below_setRow hbel (g := w.heap.size) (Nat.le_refl _) (vals full).toArray
      have h13 : full.length = 13 := rfl
      clear hbel HV
      go_wp2_with (first | refine load_at rfl _ rfl _ rfl h2 ?_ | refine store_at rfl _ _ rfl _ _ rfl rfl h1 h13 ?_)
      exact bodyPost_ret (results_at rfl rfl (h1.row h13)) rfl ⟨rfl, R⟩

set_option maxHeartbeats 1000000 in
set_option maxRecDepth 100000 in
theorem check_any (v : List Int) (w : World) (hv : v.length = 13) :
    Calls Try.prog 56 #[V v] w fun e w' => e = .returned (.bool (chk v)) ∧ Below w.heap.size w w' := by
  have hC13a := fun w1 => leq_any zeros v w1 rfl hv
  have hC13b := fun w1 => leq_any v full w1 hv rfl
  have hC29 := fullest_any
  have h1 := at_new w v hv
  have hbel : Below w.heap.size w (w.alloc (.cells (vals v).toArray 26)) := (Below.refl _ _).alloc (Nat.le_refl _) _
  unfold chk
  generalize lq zeros v = x at hC13a ⊢
  generalize lq v full = y at hC13b ⊢
  go_enter Try.func56, Try.ntmps56
  go_wp2
  have hs : Calm.Stays (fun w' => At w' w.heap.size v ∧ Below w.heap.size w w') := fun w1 w2 h hb => ⟨h.1.later hb, below_on h.2 hb⟩
  refine Calm.region (by kernel_rfl) (by kernel_rfl) (fun w' => At w' w.heap.size v ∧ Below w.heap.size w w') ⟨h1, hbel.drew⟩ ?_
  clear h1 hbel
  cases x
  all_goals
    refine Calm.pure (v := ?_) (by rfl) ?_ ?_
    rotate_left
    focus (intro w hSw; go_simp <;> rfl)
    simp only [Act.put, List.setIfInBounds_toArray, List.set_cons_zero, List.set_cons_succ]
  all_goals
    refine Calm.load (by rfl) _ rfl rfl (fun _ h => by go_split_ands; assumption) ?_
    simp only [Act.put, List.setIfInBounds_toArray, List.set_cons_zero, List.set_cons_succ]
  all_goals
    refine Calm.call2 (by rfl) rfl rfl rfl (by kernel_rfl) hs hC13a ?_
    simp only [Act.put, List.setIfInBounds_toArray, List.set_cons_zero, List.set_cons_succ]
  all_goals
    refine Calm.pure (v := ?_) (by rfl) ?_ ?_
    rotate_left
    focus (intro w hSw; go_simp <;> rfl)
    simp only [Act.put, List.setIfInBounds_toArray, List.set_cons_zero, List.set_cons_succ]
  all_goals
    first
      | (refine Calm.skip ?_ ?_; focus rfl)
      | (refine Calm.load (by rfl) _ rfl rfl (fun _ h => by go_split_ands; assumption) ?_)
    simp only [Act.put, List.setIfInBounds_toArray, List.set_cons_zero, List.set_cons_succ]
  all_goals
    first
      | (refine Calm.skip ?_ ?_; focus rfl)
      | (refine Calm.call0 (by rfl) rfl (by kernel_rfl) hs hC29 ?_)
    simp only [Act.put, List.setIfInBounds_toArray, List.set_cons_zero, List.set_cons_succ]
  all_goals
    first
      | (refine Calm.skip ?_ ?_; focus rfl)
      | (refine Calm.call2 (by rfl) rfl rfl rfl (by kernel_rfl) hs hC13b ?_)
    simp only [Act.put, List.setIfInBounds_toArray, List.set_cons_zero, List.set_cons_succ]
  all_goals
    refine Calm.pure (v := ?_) (by rfl) ?_ ?_
    rotate_left
    focus (intro w hSw; go_simp <;> rfl)
    simp only [Act.put, List.setIfInBounds_toArray, List.set_cons_zero, List.set_cons_succ]
  all_goals
    refine Calm.pure (v := ?_) (by rfl) ?_ ?_
    rotate_left
    focus (intro w hSw; go_simp <;> rfl)
    simp only [Act.put, List.setIfInBounds_toArray, List.set_cons_zero, List.set_cons_succ]
  all_goals
    rintro w9 ⟨_, hbel9⟩
    go_wp2
    go_ret
    exact ⟨by simp, hbel9⟩

end Go.Proofs.Ytfiamiflkfdhoaa
/- Check of the document's answer, and what the missing dots are. -/
namespace Go.Proofs.Ytfiamiflkfdhoaa
open Go.RowKit

set_option maxHeartbeats 1000000 in
set_option maxRecDepth 100000 in
theorem refCheck_any (v : List Int) (w : World) (hv : v.length = 13) :
    Calls Try.prog 49 #[V v] w fun e w' => e = .returned (.bool (chk v)) ∧ Below w.heap.size w w' := by
  have HC : Hid (chk v = true ↔ v.getD 0 0 = 0 ∧ ∀ i, 1 ≤ i → i < 13 → 0 ≤ v.getD i 0 ∧ v.getD i 0 ≤ 1048576) := chk_iff hv
  have h1 := at_new w v hv
  have hbel : Below w.heap.size w (w.alloc (.cells (vals v).toArray 26)) := (Below.refl _ _).alloc (Nat.le_refl _) _
  clear hv
  go_enter Try.func49, Try.ntmps49
  go_wp2
  go_loopw [3] (fun vi wr => ∃ k : Nat, vi = .int .i64 k ∧ 1 ≤ k ∧ k ≤ 13 ∧ Hid (∀ i, 1 ≤ i → i < k → 0 ≤ v.getD i 0 ∧ v.getD i 0 ≤ 1048576) ∧ At wr w.heap.size v ∧ Below w.heap.size w wr) (fun vi _ => 13 - (intOf vi).toNat)
  case atStart => exact ⟨1, rfl, by omega, by omega, (show ∀ i, 1 ≤ i → i < 1 → _ from fun i h1 h2 => by omega), h1, hbel⟩
  case round =>
    obtain ⟨k, rfl, hk1, hk, HV, h2, hbel2⟩ := hrel
    clear h1 hbel
    by_cases hlt : k < 13
    · have c1 := h2.cell hlt
      have hi1 : (k : Int) ≤ 12 := by omega
      have hi2 : (k : Int) < 13 := by omega
      obtain ⟨y, HY⟩ : ∃ y, Hid (v.getD k 0 = y) := ⟨_, rfl⟩
      rw [HY.out] at c1
      by_cases hy : 0 ≤ y ∧ y ≤ 1048576
      · have HV2 : Hid (∀ i, 1 ≤ i → i < k + 1 → 0 ≤ v.getD i 0 ∧ v.getD i 0 ≤ 1048576) := by
          show ∀ i, 1 ≤ i → i < k + 1 → _
          intro i hi1 hi2
          by_cases hik : i = k
          · subst hik; rw [HY.out]; exact hy
          · exact HV.out i hi1 (by omega)
        obtain ⟨hy1, hy2⟩ := hy
        have hn1 : ¬ y < 0 := by omega
        have hn2 : ¬ (1048576 : Int) < y := by omega
        clear HV
        go_wp2
        go_roundw
        case rel => exact ⟨k + 1, by simp, by omega, by omega, HV2, h2, hbel2⟩
        case measure => simp [intOf]; omega
      · have HF : Hid (chk v = false) := by
          show _ = _
          cases e : chk v
          · rfl
          · exfalso
            have := (HC.out.1 e).2 k hk1 hlt
            rw [HY.out] at this
            exact hy this
        by_cases hy1 : y < 0
        · go_wp2
          go_ret
          exact ⟨by rw [HF.out]; rfl, hbel2⟩
        · have hy2 : (1048576 : Int) < y := by omega
          go_wp2
          go_ret
          exact ⟨by rw [HF.out]; rfl, hbel2⟩
    · have hk13 : k = 13 := by omega
      subst hk13
      have c0 := h2.cell (show 0 < 13 by omega)
      have HF : Hid (chk v = (v.getD 0 0 == 0)) := by
        show _ = _
        rw [Bool.eq_iff_iff, HC.out, beq_iff_eq]
        exact ⟨fun h => h.1, fun h => ⟨h, HV.out⟩⟩
      obtain ⟨y, HY⟩ : ∃ y, Hid (v.getD 0 0 = y) := ⟨_, rfl⟩
      rw [HY.out] at c0
      clear HV
      go_wp2
      go_ret
      refine ⟨?_, hbel2⟩
      rw [HF.out, HY.out]
      rfl

end Go.Proofs.Ytfiamiflkfdhoaa
