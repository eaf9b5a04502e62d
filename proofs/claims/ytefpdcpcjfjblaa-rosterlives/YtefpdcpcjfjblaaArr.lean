/- An array of thirteen ints (api.Vec) in a block of its own: read, written, whole or at a place; and that a call leaves it alone. Nothing of one function. -/
import Derived.Test.YtefpdcpcjfjblaaRows
import Derived.WalkKit
import Derived.WalkSpells
import Derived.WalkLawsBesides
import Derived.WalkMore
import Derived.Deep.RegionHeld3
import Derived.Deep.WholeRow
import Derived.Deep.MidRow
import Derived.Laws.CopyOwn
import Derived.ProofKit
import Derived.OpenShut
namespace Go.Proofs.Ytefpdcpcjfjblaa
open Go.ChangeShapes Go.WideShapes Go.ChangeAt Go.RowKit

/-- Ints as cells. -/
def vals (l : List Int) : List Value := l.map (Value.int .i64)
/-- The array by value. -/
abbrev V (l : List Int) : Value := .agg (vals l).toArray
/-- The block b is an array of thirteen that holds l. -/
def At (w : World) (b : Nat) (l : List Int) : Prop := l.length = 13 ∧ w.heap[b]? = some (.cells (vals l).toArray 31)

theorem vals_length (l : List Int) : (vals l).length = l.length := by simp [vals]
theorem vals_size (l : List Int) : (vals l).toArray.size = l.length := by simp [vals]
theorem vals_one (l : List Int) : (vals l).toArray.all (·.oneCell') = true := by
  rw [List.all_toArray, List.all_eq_true]
  intro u hu
  obtain ⟨_, _, rfl⟩ := List.mem_map.1 hu
  rfl
theorem size31 : (Try.prog.info? 31).map (·.size) = some 13 := by kernel_rfl
abbrev zeros : List Int := [0, 0, 0, 0, 0, 0, 0, 0, 0, 0, 0, 0, 0]

theorem at_new (w : World) (l : List Int) (hl : l.length = 13) : At (w.alloc (.cells (vals l).toArray 31)) w.heap.size l := ⟨hl, heap_alloc_last w _⟩
theorem at_next (w : World) {b : Nat} (hb : b = w.heap.size) (l : List Int) (hl : l.length = 13) : At (w.alloc (.cells (vals l).toArray 31)) b l := by
  subst hb
  exact at_new w l hl
theorem At.lt {w : World} {b : Nat} {l : List Int} (h : At w b l) : b < w.heap.size := (Array.getElem?_eq_some_iff.1 h.2).1
theorem At.alloc {w : World} {b : Nat} {l : List Int} (h : At w b l) (o : Obj) : At (w.alloc o) b l := ⟨h.1, (Below.heap_alloc w o b h.lt).trans h.2⟩
theorem At.drew {w : World} {b : Nat} {l : List Int} (h : At w b l) : At w.drew b l := h
theorem At.below {w w' : World} {B b : Nat} {l : List Int} (h : At w b l) (hb : Below B w w') (hB : b < B) : At w' b l := ⟨h.1, (hb.block b hB).trans h.2⟩
theorem At.later {w w' : World} {b : Nat} {l : List Int} (h : At w b l) (hb : Below w.heap.size w w') : At w' b l := h.below hb h.lt
theorem At.cell {w : World} {b i : Nat} {l : List Int} (h : At w b l) (hi : i < 13) : w.cell? ⟨b, i, none⟩ = some (.int .i64 (l.getD i 0)) := by
  have hi' : i < l.length := by rw [h.1]; exact hi
  rw [cell_of_row _ _ i _ 31 (0, 0) h.2]
  simp [vals, List.getElem?_eq_getElem hi']
theorem At.frozen {w : World} {b : Nat} {l : List Int} (h : At w b l) (i : Nat) : w.frozen? ⟨b, i, none⟩ = false := by
  have h2 := h.2
  simp [World.frozen?, h2]
theorem At.row {w : World} {b : Nat} {l0 : List Int} (h : At w b l0) {l : List Int} (hl : l.length = 13) : At (w.setRow b (vals l).toArray) b l := ⟨hl, setRow_heap w b _ _ 31 (0, 0) h.2⟩
theorem At.rowOther {w : World} {b c : Nat} {l : List Int} (h : At w b l) (hne : b ≠ c) (cs : Array Value) : At (w.setRow c cs) b l := ⟨h.1, (setRow_other w c b cs hne).trans h.2⟩
theorem At.set {w : World} {b i : Nat} {l : List Int} (h : At w b l) (z : Int) : At (w.setCell ⟨b, i, none⟩ (.int .i64 z)) b (l.set i z) := by
  rw [setCell_eq_setRow w b i _ 31 (0, 0) _ h.2]
  have : (vals l).toArray.setIfInBounds i (.int .i64 z) = (vals (l.set i z)).toArray := by simp [vals, List.map_set]
  rw [this]
  exact h.row (by rw [List.length_set]; exact h.1)
theorem At.setOther {w : World} {b c i : Nat} {l : List Int} (h : At w b l) (hne : b ≠ c) (v : Value) : At (w.setCell ⟨c, i, none⟩ v) b l := ⟨h.1, (Below.heap_setCell w _ v b hne).trans h.2⟩
theorem At.loadVar {w : World} {b : Nat} {l : List Int} (h : At w b l) : (loadVar 31 ⟨b, 0, none⟩).run Try.prog w = .ok (V l) w :=
  run_loadVar_row w b 31 31 _ (0, 0) _ h.2 Try.underlying31 rfl (by rw [vals_size, h.1]; exact size31)
theorem At.load {w : World} {b : Nat} {l : List Int} (h : At w b l) : (Instr.loadAt 31 (.pointer (some ⟨b, 0, none⟩))).run Try.prog w = .ok (V l) w := by
  simp only [Instr.loadAt, Instr.sureAddr, Sem.run_bind, Sem.run_pure, Result.andThen]
  exact h.loadVar
theorem At.store {w : World} {b : Nat} {l0 l : List Int} (h : At w b l0) (hl : l.length = 13) : (Instr.storeAt 31 (.pointer (some ⟨b, 0, none⟩)) (V l)).run Try.prog w = .ok () (w.setRow b (vals l).toArray) := by
  simp only [Instr.storeAt, Instr.sureAddr, Sem.run_bind, Sem.run_pure, Result.andThen]
  exact run_storeVar_row w b 31 31 _ _ h.2 (by rw [vals_size, hl]; exact size31) (by rw [vals_size, vals_size, h.1, hl]) (vals_one l)

theorem At.range {w : World} {b : Nat} {l : List Int} (h : At w b l) : w.rangeAt b 0 (vals l) := by
  intro j v hv
  have hj : j < (vals l).length := (List.getElem?_eq_some_iff.1 hv).1
  rw [vals_length, h.1] at hj
  rw [Nat.zero_add, h.cell hj, ← hv]
  simp [vals, List.getElem?_eq_getElem (show j < l.length by rw [h.1]; exact hj)]
theorem info_vals {l : List Int} (h : l.length = 13) : (Try.prog.info? 31).map (·.size) = some (vals l).length := by rw [vals_length, h]; exact size31

/-- The array is loaded whole, at the head of a plain region's operations. -/
theorem load_at {ops : Array Oper} {rest : List Oper} {op : Oper} {a : Act} {w : World} {Q : Exit → Act → World → Prop} (hgd : op.guard = none) (x : Operand) (ho : op.op = .load 31 x)
    (b : Nat) (hx : a.eval x = .pointer (some ⟨b, 0, none⟩)) {l : List Int} (hc : At w b l)
    (h : wpList Try.prog ops Q rest (a.put op.dst (V l)) w) : wpList Try.prog ops Q (op :: rest) a w :=
  wpList_plain hgd fun _ hK => by
    unfold Oper.wp execOp
    simp only [ho, hx, Sem.run_bind, hc.load, Result.andThen_ok, Sem.run_pure]
    exact hK _ _ h

/-- The array is stored whole. -/
theorem store_at {ops : Array Oper} {rest : List Oper} {op : Oper} {a : Act} {w : World} {Q : Exit → Act → World → Prop} (hgd : op.guard = none) (x y : Operand) (ho : op.op = .store 31 x y)
    (b : Nat) (l : List Int) (hx : a.eval x = .pointer (some ⟨b, 0, none⟩)) (hy : a.eval y = V l) {l0 : List Int} (hc : At w b l0) (hl : l.length = 13)
    (h : wpList Try.prog ops Q rest (a.put op.dst undef) (w.setRow b (vals l).toArray)) : wpList Try.prog ops Q (op :: rest) a w :=
  wpList_plain hgd fun _ hK => by
    unfold Oper.wp execOp
    simp only [ho, hx, hy, Sem.run_bind, hc.store hl, Result.andThen_ok, Sem.run_pure]
    exact hK _ _ h

/-- In a region that draws its order. -/
theorem yields_at {ops : Array Oper} {S : World → Prop} {op : Oper} {a : Act} (hw : Region.wanted op (yielded ops a.tmps) = true) (x : Operand) (ho : op.op = .load 31 x)
    (b : Nat) (hx : a.eval x = .pointer (some ⟨b, 0, none⟩)) (l : List Int) (hS : ∀ w, S w → At w b l) : YieldsIf Try.prog ops S op (V l) a :=
  .inl ⟨hw, fun w hw' => by
    unfold execOp
    simp only [ho, hx, Sem.run_bind, (hS w hw').load, Result.andThen_ok, Sem.run_pure]⟩

/-- A result that lies in a block. -/
theorem results_at {fn : Func} {t : Tmp} (h : fn.results = #[.cell t 31]) {tmps : Array Value} {w : World} {b : Nat} {l : List Int} (hp : tmps.getD t undef = .pointer (some ⟨b, 0, none⟩)) (hc : At w b l) :
    (results fn tmps).run Try.prog w = .ok (V l) w := by
  have h2 := hc.loadVar
  unfold results
  rw [h]
  simp only [List.mapM_toArray, List.mapM_cons, List.mapM_nil, hp, asAddr]
  simp [h2]

theorem results_at2 {fn : Func} {t u : Tmp} (h : fn.results = #[.cell t 31, .tmp u]) {tmps : Array Value} {w : World} {b : Nat} {l : List Int} (hp : tmps.getD t undef = .pointer (some ⟨b, 0, none⟩)) (hc : At w b l) :
    (results fn tmps).run Try.prog w = .ok (.tuple #[V l, tmps.getD u undef]) w := by
  have h2 := hc.loadVar
  unfold results
  rw [h]
  simp only [List.mapM_toArray, List.mapM_cons, List.mapM_nil, hp, asAddr]
  simp [h2]

theorem all_range_ints : ∀ (xs ys : List Int), xs.length = ys.length → ((List.range xs.length).all fun i => xs.getD i 0 == ys.getD i 0) = (xs == ys)
  | [], [], _ => rfl
  | x :: xs, y :: ys, h => by
    have ih := all_range_ints xs ys (by simpa using h)
    rw [List.length_cons, List.range_succ_eq_map, List.all_cons, List.all_map]
    simp only [List.getD_cons_zero, Function.comp_def, List.getD_cons_succ, ih]
    simp [List.cons_beq_cons]
  | [], _ :: _, h => by simp at h
  | _ :: _, [], h => by simp at h

/-- Two arrays are compared whole. -/
theorem eq_arrays (w : World) (xs ys : List Int) (hx : xs.length = 13) (hy : ys.length = 13) : (Op.equalIn 10000 31 (V xs) (V ys)).run Try.prog w = .ok (xs == ys) w := by
  have hsz : ∀ w, (sizeOf 3).run Try.prog w = .ok 1 w := fun _ => by kernel_rfl
  rw [← all_range_ints xs ys (hx.trans hy.symm), hx, List.range_eq_range', Op.equalIn]
  simp only [Sem.run_bind, run_underlying Try.underlying31, Result.andThen_ok, hsz, Std.Legacy.Range.forIn_eq_forIn_range', Std.Legacy.Range.size, Nat.sub_zero, Nat.add_sub_cancel, Nat.div_one]
  have hl : ∀ i ∈ List.range' 0 13 1, i < 13 := fun i hi => by simpa using (List.mem_range'_1.1 hi).2
  generalize List.range' 0 13 1 = l at hl ⊢
  induction l with
  | nil => simp
  | cons i l ih =>
    have hi : i < 13 := hl i (by simp)
    have px : (part 3 (vals xs).toArray (i * 1)).run Try.prog w = .ok (.int .i64 (xs.getD i 0)) w := by
      simp [part, isAgg, run_underlying Try.underlying3, vals, List.getD, List.getElem?_eq_getElem (show i < xs.length by omega)]
    have py : (part 3 (vals ys).toArray (i * 1)).run Try.prog w = .ok (.int .i64 (ys.getD i 0)) w := by
      simp [part, isAgg, run_underlying Try.underlying3, vals, List.getD, List.getElem?_eq_getElem (show i < ys.length by omega)]
    have pe : (Op.equalIn 9999 3 (.int .i64 (xs.getD i 0)) (.int .i64 (ys.getD i 0))).run Try.prog w = .ok (xs.getD i 0 == ys.getD i 0) w :=
      run_equalIn_int w 9998 3 .i64 .i64 _ _ Try.underlying3
    simp only [List.forIn_cons, Sem.run_bind, px, py, pe, Result.andThen_ok, List.all_cons]
    cases hb : (xs.getD i 0 == ys.getD i 0)
    · simp
    · simp only [Bool.not_true, Bool.false_eq_true, if_false, Sem.run_pure, Result.andThen_ok, Bool.true_and]
      exact ih fun j hj => hl j (by simp [hj])

end Go.Proofs.Ytefpdcpcjfjblaa
