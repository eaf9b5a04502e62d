/- CheckOp of package ops. -/
import Derived.Test.YtefpdcpcjfjblaaUpd
namespace Go.Proofs.Ytefpdcpcjfjblaa
open Go.RowKit

/-- What checkRoster tells. -/
def crost (key field : ByteArray) (inner act n : Int) (text : ByteArray) (p s i : Int) : Bool :=
  wi act 1 2 && wi n 1 12 && (decide (key = noS) && decide (field = noS) && decide (inner = 0) && decide (text = noS) && z3 p s i)
set_option maxHeartbeats 1000000 in
set_option maxRecDepth 100000 in
theorem checkRoster_any (k : Int) (key field : ByteArray) (inner act n : Int) (text : ByteArray) (p s i : Int) (w : World) : Calls Try.prog 53 #[OV k key field inner act n text p s i] w (Tells (.bool (crost key field inner act n text p s i)) w) := by
  obtain ⟨z, HZ⟩ : ∃ z, Hid (crost key field inner act n text p s i = z) := ⟨_, rfl⟩
  rw [HZ.out]
  go_enter Try.func53, Try.ntmps53
  go_wp2
  all_goals
    go_ret
    refine tells_bool ?_ ?_
    focus
      have hz := HZ.out
      unfold crost z3 wi at hz
      rw [← hz]
      clear hz HZ
      first | rfl | grind [tl_nil]
    repeat refine bel_alloc ?_ _
    exact Below.refl _ _
/-- What checkRef tells. -/
def isRef (p s i : Int) : Bool := wi i 1 16 && (z2 p s || (wi p 1 12 && wi s 1 1048576))
def cref (d act p s i : Int) : Bool := if d = 5 ∧ act = 4 then z3 p s i || isRef p s i else if d = 5 ∧ act = 2 then isRef p s i else z3 p s i
set_option maxHeartbeats 2000000 in
set_option maxRecDepth 100000 in
theorem checkRef_any (k : Int) (key field : ByteArray) (inner act n : Int) (text : ByteArray) (p s i : Int) (w : World) : Calls Try.prog 54 #[OV k key field inner act n text p s i] w (Tells (.bool (cref (dk k inner act) act p s i)) w) := by
  obtain ⟨d, HD⟩ : ∃ d, Hid (dk k inner act = d) := ⟨_, rfl⟩
  rw [HD.out]
  obtain ⟨z, HZ⟩ : ∃ z, Hid (cref d act p s i = z) := ⟨_, rfl⟩
  rw [HZ.out]
  go_enter Try.func54, Try.ntmps54
  go_wp2_with fail
  refine (asked_any _ _ _ _ _ _ _ _ _ _ _).mono ?_
  rintro e w1 ⟨rfl, rfl⟩
  go_wp2_with fail
  refine (deedOf_any _ _ _ _ _ _ _ _ _).mono ?_
  rintro e w1 ⟨rfl, rfl⟩
  rw [HD.out]
  clear HD
  go_wp2
  all_goals
    go_ret
    refine tells_bool ?_ ?_
    focus
      have hz := HZ.out
      unfold cref isRef z3 z2 wi at hz
      rw [← hz]
      clear hz HZ
      first | rfl | grind
    repeat refine bel_alloc ?_ _
    exact Below.refl _ _
/-- What CheckOp tells. -/
def co (k : Int) (key field : ByteArray) (inner act n : Int) (text : ByteArray) (p s i : Int) : Bool :=
  if k = 7 then crost key field inner act n text p s i else cref (dk k inner act) act p s i && cu k key field inner act n text 0
set_option maxHeartbeats 1000000 in
set_option maxRecDepth 100000 in
theorem checkOp_any (k : Int) (key field : ByteArray) (inner act n : Int) (text : ByteArray) (p s i : Int) (w : World) : Calls Try.prog 35 #[OV k key field inner act n text p s i] w (Tells (.bool (co k key field inner act n text p s i)) w) := by
  unfold co
  by_cases h7 : k = 7
  · rw [if_pos h7]
    have C := fun w => checkRoster_any k key field inner act n text p s i w
    generalize crost key field inner act n text p s i = z at C ⊢
    subst h7
    go_enter Try.func35, Try.ntmps35
    go_wp2_with fail
    refine (C _).mono ?_
    rintro e w1 ⟨rfl, hb1⟩
    go_wp2_with fail
    go_ret
    exact ⟨rfl, below_on (bel_alloc (Below.refl _ _) _) hb1⟩
  · rw [if_neg h7]
    have C1 := fun w => checkRef_any k key field inner act n text p s i w
    have C2 := fun w => checkUpdate_any k key field inner act n text 0 w
    generalize cref (dk k inner act) act p s i = x at C1 ⊢
    generalize cu k key field inner act n text 0 = y at C2 ⊢
    have R1 := rw_new w 46 #[.int .i64 k, .string key, .string field, .int .i64 inner, .int .i64 act, .int .i64 n, .string text, .int .i64 p, .int .i64 s, .int .i64 i]
    go_enter Try.func35, Try.ntmps35
    go_wp2_with fail
    refine (C1 _).mono ?_
    rintro e w1 ⟨rfl, hb1⟩
    replace R1 := R1.later hb1
    have hbel := below_on (bel_alloc (Below.refl w.heap.size w) _) hb1
    clear C1 hb1
    cases x
    · go_wp2_with fail
      go_ret
      exact ⟨rfl, hbel⟩
    · go_wp2_with (refine load_r 46 _ rfl rfl _ rfl R1 Try.underlying46 rfl size46 ?_)
      refine (asked_any _ _ _ _ _ _ _ _ _ _ _).mono ?_
      rintro e w2 ⟨rfl, rfl⟩
      go_wp2_with fail
      refine (C2 _).mono ?_
      rintro e w2 ⟨rfl, hb2⟩
      go_wp2_with fail
      go_ret
      exact ⟨rfl, below_on (bel_alloc (bel_alloc hbel _) _) hb2⟩
end Go.Proofs.Ytefpdcpcjfjblaa
