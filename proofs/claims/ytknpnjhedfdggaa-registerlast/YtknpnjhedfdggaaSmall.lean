/- The small functions of package ops. -/
import Derived.Test.YtknpnjhedfdggaaBase
namespace Go.Proofs.Ytknpnjhedfdggaa
open Go.RowKit

/-- What a function tells, the memory that was there left alone. -/
abbrev Tells (v : Value) (w : World) : Ending → World → Prop := fun e w' => e = .returned v ∧ Below w.heap.size w w'
/-- Between two others, or one of them. -/
def wi (n lo hi : Int) : Bool := decide (lo ≤ n) && decide (n ≤ hi)
theorem bel_alloc {w w1 : World} (h : Below w.heap.size w w1) (o : Obj) : Below w.heap.size w (w1.alloc o) := h.alloc h.size o

theorem tells_bool {x y : Bool} {w w' : World} (h : x = y) (hb : Below w.heap.size w w') : Tells (.bool y) w (.returned (.bool x)) w' := ⟨by rw [h], hb⟩
theorem tells_ub {u v : Value} {x y : Bool} {w w' : World} (hu : u = v) (h : x = y) (hb : Below w.heap.size w w') : Tells (.tuple #[v, .bool y]) w (.returned (.tuple #[u, .bool x])) w' := ⟨by rw [hu, h], hb⟩
/-- The empty text. -/
abbrev noS : ByteArray := ⟨#[]⟩
theorem tl_eq (a b : ByteArray) : a.toList = b.toList ↔ a = b := by
  rw [ByteArray.toList_eq, ByteArray.toList_eq]
  exact ⟨fun h => Go.WideShapes.bytes_inj h, fun h => by rw [h]⟩
theorem tl_nil (a : ByteArray) : a.toList = [] ↔ a = noS := by
  rw [← tl_eq a noS]
  have : (noS).toList = [] := by rw [ByteArray.toList_eq]
  rw [this]
/-- An update, and an op, by value. -/
abbrev UV (k : Int) (key field : ByteArray) (inner act n : Int) (text : ByteArray) (pl : Int) : Value := .agg #[.int .i64 k, .string key, .string field, .int .i64 inner, .int .i64 act, .int .i64 n, .string text, .int .i64 pl]
abbrev OV (k : Int) (key field : ByteArray) (inner act n : Int) (text : ByteArray) (p s i : Int) : Value := .agg #[.int .i64 k, .string key, .string field, .int .i64 inner, .int .i64 act, .int .i64 n, .string text, .int .i64 p, .int .i64 s, .int .i64 i]
set_option maxRecDepth 100000 in
theorem isPeer_any (n : Int) (w : World) : Calls Try.prog 61 #[.int .i64 n] w (Tells (.bool (wi n 1 12)) w) := by
  unfold wi
  go_enter Try.func61, Try.ntmps61
  go_wp2
  all_goals
    go_ret
    refine tells_bool ?_ ?_
    focus (first | (simp_all; done) | grind)
    repeat refine bel_alloc ?_ _
    exact Below.refl _ _
set_option maxRecDepth 100000 in
theorem peer_any (n : Int) (w : World) : Calls Try.prog 38 #[.int .i64 n] w (Tells (.bool (wi n 1 12)) w) := by
  unfold wi
  go_enter Try.func38, Try.ntmps38
  go_wp2
  all_goals
    go_ret
    refine tells_bool ?_ ?_
    focus (first | (simp_all; done) | grind)
    repeat refine bel_alloc ?_ _
    exact Below.refl _ _
/-- Zero? -/
def z2 (p s : Int) : Bool := decide (p = 0) && decide (s = 0)
def z3 (p s i : Int) : Bool := decide (p = 0) && decide (s = 0) && decide (i = 0)
/-- What a function answers, and the world that it leaves, told whole. -/
abbrev Leaves (v : Value) (w1 : World) : Ending → World → Prop := fun e w' => e = .returned v ∧ w' = w1
end Go.Proofs.Ytknpnjhedfdggaa
