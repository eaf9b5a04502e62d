/- CheckOp of the document's answer. -/
import Derived.Test.YtefpdcpcjfjblaaOp
import Derived.Test.YtefpdcpcjfjblaaRefU2
namespace Go.Proofs.Ytefpdcpcjfjblaa
open Go.RowKit

set_option maxHeartbeats 1000000 in
/-- The document's CheckOp and the program's are one. -/
theorem co_eq (k : Int) (key field : ByteArray) (inner act n : Int) (text : ByteArray) (p s i : Int) :
    (if k = 7 then crost key field inner act n text p s i else shp k key field inner act n text && (if lf k inner = 5 ∧ act ≠ 5 then isRef p s i || (z3 p s i && decide (act = 4)) else z3 p s i)) = co k key field inner act n text p s i := by
  unfold co
  by_cases h7 : k = 7
  · rw [if_pos h7, if_pos h7]
  · rw [if_neg h7, if_neg h7, ← cu_eq]
    have e : (if lf k inner = 5 ∧ act ≠ 5 then wi 0 0 1048576 else decide ((0 : Int) = 0)) = true := by split <;> rfl
    rw [e, Bool.and_true]
    cases hs : shp k key field inner act n text
    · simp
    · rw [Bool.true_and, Bool.and_true]
      have h2 : fit (lf k inner) act n = true ∨ act = 5 := by
        unfold shp at hs
        unfold lf
        grind
      have h3 : lf k inner = 5 → act = 4 ∨ act = 2 ∨ act = 5 := by
        intro h
        rw [h] at h2
        unfold fit at h2
        grind
      unfold cref dk lf at *
      grind

set_option maxHeartbeats 1000000 in
set_option maxRecDepth 100000 in
theorem refOp_any (k : Int) (key field : ByteArray) (inner act n : Int) (text : ByteArray) (p s i : Int) (w : World) : Calls Try.prog 38 #[OV k key field inner act n text p s i] w (Tells (.bool (co k key field inner act n text p s i)) w) := by
  rw [← co_eq]
  obtain ⟨z, HZ⟩ : ∃ z, Hid ((if k = 7 then crost key field inner act n text p s i else shp k key field inner act n text && (if lf k inner = 5 ∧ act ≠ 5 then isRef p s i || (z3 p s i && decide (act = 4)) else z3 p s i)) = z) := ⟨_, rfl⟩
  rw [HZ.out]
  by_cases h7 : k = 7
  · have HZ2 : Hid (crost key field inner act n text p s i = z) := by
      have := HZ.out
      rw [if_pos h7] at this
      exact this
    clear HZ
    subst h7
    go_enter Try.func38, Try.ntmps38
    go_wp2
    all_goals
      go_ret
      refine tells_bool ?_ ?_
      focus
        have hz := HZ2.out
        unfold crost z3 wi at hz
        rw [← hz]
        clear hz HZ2
        first | rfl | grind [tl_nil]
      repeat refine bel_alloc ?_ _
      exact Below.refl _ _
  · have HZ2 : Hid ((shp k key field inner act n text && (if lf k inner = 5 ∧ act ≠ 5 then isRef p s i || (z3 p s i && decide (act = 4)) else z3 p s i)) = z) := by
      have := HZ.out
      rw [if_neg h7] at this
      exact this
    clear HZ
    go_enter Try.func38, Try.ntmps38
    go_wp2_with fail
    refine (shape_any _ _ _ _ _ _ _ _).mono ?_
    rintro e w1 ⟨l, b, rfl, hb, hl, rfl⟩
    rw [← hb] at HZ2
    clear hb
    cases b
    · clear hl
      go_wp2
      go_ret
      refine tells_bool ?_ (bel_alloc (bel_alloc (Below.refl _ _) _) _)
      have hz := HZ2.out
      rw [← hz]
      rfl
    · obtain rfl := hl rfl
      clear hl
      generalize lf k inner = y at HZ2 ⊢
      go_wp2
      all_goals
        go_ret
        refine tells_bool ?_ ?_
        focus
          have hz := HZ2.out
          unfold isRef z3 z2 wi at hz
          rw [← hz]
          clear hz HZ2
          first | rfl | grind
        repeat refine bel_alloc ?_ _
        exact Below.refl _ _
end Go.Proofs.Ytefpdcpcjfjblaa
