/- The small functions of package ops. -/
import Derived.Test.YtefpdcpcjfjblaaBase
namespace Go.Proofs.Ytefpdcpcjfjblaa
open Go.RowKit

/-- What a function tells, the memory that was there left alone. -/
abbrev Tells (v : Value) (w : World) : Ending → World → Prop := fun e w' => e = .returned v ∧ Below w.heap.size w w'
/-- Between two others, or one of them. -/
def wi (n lo hi : Int) : Bool := decide (lo ≤ n) && decide (n ≤ hi)
theorem bel_alloc {w w1 : World} (h : Below w.heap.size w w1) (o : Obj) : Below w.heap.size w (w1.alloc o) := h.alloc h.size o

theorem tells_bool {x y : Bool} {w w' : World} (h : x = y) (hb : Below w.heap.size w w') : Tells (.bool y) w (.returned (.bool x)) w' := ⟨by rw [h], hb⟩
theorem tells_ub {u v : Value} {x y : Bool} {w w' : World} (hu : u = v) (h : x = y) (hb : Below w.heap.size w w') : Tells (.tuple #[v, .bool y]) w (.returned (.tuple #[u, .bool x])) w' := ⟨by rw [hu, h], hb⟩
/-- The empty text. -/
abbrev noS : ByteArray := ⟨#[]⟩
theorem tl_eq (a b : ByteArray) : a.toList = b.toList ↔ a = b := by
  rw [ByteArray.toList_eq, ByteArray.toList_eq]
  exact ⟨fun h => Go.WideShapes.bytes_inj h, fun h => by rw [h]⟩
theorem tl_nil (a : ByteArray) : a.toList = [] ↔ a = noS := by
  rw [← tl_eq a noS]
  have : (noS).toList = [] := by rw [ByteArray.toList_eq]
  rw [this]
/-- An update, and an op, by value. -/
abbrev UV (k : Int) (key field : ByteArray) (inner act n : Int) (text : ByteArray) (pl : Int) : Value := .agg #[.int .i64 k, .string key, .string field, .int .i64 inner, .int .i64 act, .int .i64 n, .string text, .int .i64 pl]
abbrev OV (k : Int) (key field : ByteArray) (inner act n : Int) (text : ByteArray) (p s i : Int) : Value := .agg #[.int .i64 k, .string key, .string field, .int .i64 inner, .int .i64 act, .int .i64 n, .string text, .int .i64 p, .int .i64 s, .int .i64 i]
set_option maxRecDepth 100000 in
theorem within_any (n lo hi : Int) (w : World) : Calls Try.prog 33 #[.int .i64 n, .int .i64 lo, .int .i64 hi] w (Tells (.bool (wi n lo hi)) w) := by
  unfold wi
  go_enter Try.func33, Try.ntmps33
  go_wp2
  all_goals
    go_ret
    refine tells_bool ?_ ?_
    focus (first | (simp_all; done) | grind)
    repeat refine bel_alloc ?_ _
    exact Below.refl _ _
set_option maxRecDepth 100000 in
theorem isName_any (s : ByteArray) (w : World) : Calls Try.prog 78 #[.string s] w (Tells (.bool (wi s.size 1 64)) w) := by
  unfold wi
  go_enter Try.func78, Try.ntmps78
  go_wp2
  all_goals
    go_ret
    refine tells_bool ?_ ?_
    focus (first | (simp_all; done) | grind)
    repeat refine bel_alloc ?_ _
    exact Below.refl _ _
set_option maxRecDepth 100000 in
theorem named_any (s : ByteArray) (w : World) : Calls Try.prog 74 #[.string s] w (Tells (.bool (wi s.size 1 64)) w) := by
  unfold wi
  go_enter Try.func74, Try.ntmps74
  go_wp2
  all_goals
    go_ret
    refine tells_bool ?_ ?_
    focus (first | (simp_all; done) | grind)
    repeat refine bel_alloc ?_ _
    exact Below.refl _ _
set_option maxRecDepth 100000 in
theorem isLeaf_any (n : Int) (w : World) : Calls Try.prog 79 #[.int .i64 n] w (Tells (.bool (wi n 1 5)) w) := by
  unfold wi
  go_enter Try.func79, Try.ntmps79
  go_wp2
  all_goals
    go_ret
    refine tells_bool ?_ ?_
    focus (first | (simp_all; done) | grind)
    repeat refine bel_alloc ?_ _
    exact Below.refl _ _
set_option maxRecDepth 100000 in
theorem isPeer_any (n : Int) (w : World) : Calls Try.prog 73 #[.int .i64 n] w (Tells (.bool (wi n 1 12)) w) := by
  unfold wi
  go_enter Try.func73, Try.ntmps73
  go_wp2
  all_goals
    go_ret
    refine tells_bool ?_ ?_
    focus (first | (simp_all; done) | grind)
    repeat refine bel_alloc ?_ _
    exact Below.refl _ _
set_option maxRecDepth 100000 in
theorem peer_any (n : Int) (w : World) : Calls Try.prog 18 #[.int .i64 n] w (Tells (.bool (wi n 1 12)) w) := by
  unfold wi
  go_enter Try.func18, Try.ntmps18
  go_wp2
  all_goals
    go_ret
    refine tells_bool ?_ ?_
    focus (first | (simp_all; done) | grind)
    repeat refine bel_alloc ?_ _
    exact Below.refl _ _
set_option maxRecDepth 100000 in
theorem isDot_any (p s : Int) (w : World) : Calls Try.prog 28 #[D p s] w (Tells (.bool (wi p 1 12 && wi s 1 1048576)) w) := by
  unfold wi
  go_enter Try.func28, Try.ntmps28
  go_wp2
  all_goals
    go_ret
    refine tells_bool ?_ ?_
    focus (first | (simp_all; done) | grind)
    repeat refine bel_alloc ?_ _
    exact Below.refl _ _
/-- Zero? -/
def z2 (p s : Int) : Bool := decide (p = 0) && decide (s = 0)
def z3 (p s i : Int) : Bool := decide (p = 0) && decide (s = 0) && decide (i = 0)
set_option maxRecDepth 100000 in
theorem isOwn_any (p s i : Int) (w : World) : Calls Try.prog 70 #[MV p s i] w (Tells (.bool (z2 p s && !decide (i = 0))) w) := by
  unfold z2
  go_enter Try.func70, Try.ntmps70
  go_wp2
  all_goals
    go_ret
    refine tells_bool ?_ ?_
    focus (first | (simp_all; done) | grind)
    repeat refine bel_alloc ?_ _
    exact Below.refl _ _
set_option maxRecDepth 100000 in
theorem places_any (leaf act : Int) (w : World) : Calls Try.prog 59 #[.int .i64 leaf, .int .i64 act] w (Tells (.bool (decide (leaf = 5) && !decide (act = 5))) w) := by
  go_enter Try.func59, Try.ntmps59
  go_wp2
  all_goals
    go_ret
    refine tells_bool ?_ ?_
    focus (first | (simp_all; done) | grind)
    repeat refine bel_alloc ?_ _
    exact Below.refl _ _
/-- The kind that an act has to fit. -/
def dk (k inner act : Int) : Int := if k = 6 ∧ act ≠ 5 then inner else k
/-- What a function answers, and the world that it leaves, told whole. -/
abbrev Leaves (v : Value) (w1 : World) : Ending → World → Prop := fun e w' => e = .returned v ∧ w' = w1
set_option maxRecDepth 100000 in
theorem deedOf_any (k : Int) (key field : ByteArray) (inner act n : Int) (text : ByteArray) (pl : Int) (w : World) : Calls Try.prog 69 #[UV k key field inner act n text pl] w (Leaves (D (dk k inner act) act) ((w.alloc (.cells #[.int .i64 k, .string key, .string field, .int .i64 inner, .int .i64 act, .int .i64 n, .string text, .int .i64 pl] 81)).alloc (.cells #[.int .i64 (dk k inner act), .int .i64 act] 94))) := by
  unfold dk
  by_cases h6 : k = 6
  · subst h6
    by_cases h5 : act = 5
    · subst h5
      rw [if_neg (by simp)]
      go_enter Try.func69, Try.ntmps69
      go_wp2
      exact bodyPost_ret (results_r rfl rfl (rw_next _ (by simp) 94 _) rfl Try.underlying94 size94) rfl ⟨rfl, rfl⟩
    · rw [if_pos ⟨rfl, h5⟩]
      go_enter Try.func69, Try.ntmps69
      go_wp2
      exact bodyPost_ret (results_r rfl rfl (rw_next _ (by simp) 94 _) rfl Try.underlying94 size94) rfl ⟨rfl, rfl⟩
  · rw [if_neg (fun h => h6 h.1)]
    go_enter Try.func69, Try.ntmps69
    go_wp2
    exact bodyPost_ret (results_r rfl rfl (rw_next _ (by simp) 94 _) rfl Try.underlying94 size94) rfl ⟨rfl, rfl⟩
set_option maxRecDepth 100000 in
theorem asked_any (k : Int) (key field : ByteArray) (inner act n : Int) (text : ByteArray) (p s i : Int) (w : World) : Calls Try.prog 56 #[OV k key field inner act n text p s i] w (Leaves (UV k key field inner act n text 0) ((w.alloc (.cells #[.int .i64 k, .string key, .string field, .int .i64 inner, .int .i64 act, .int .i64 n, .string text, .int .i64 p, .int .i64 s, .int .i64 i] 46)).alloc (.cells #[.int .i64 k, .string key, .string field, .int .i64 inner, .int .i64 act, .int .i64 n, .string text, .int .i64 0] 81))) := by
  go_enter Try.func56, Try.ntmps56
  go_wp2
  exact bodyPost_ret (results_r rfl rfl (rw_next _ (by simp) 81 _) rfl Try.underlying81 size81) rfl ⟨rfl, rfl⟩
end Go.Proofs.Ytefpdcpcjfjblaa
