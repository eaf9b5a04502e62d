/- CheckUpdate of the document's answer. -/
import Derived.Test.YtefpdcpcjfjblaaUpd
namespace Go.Proofs.Ytefpdcpcjfjblaa
open Go.RowKit

theorem leaves_bool {x y : Bool} {w : World} (h : x = y) : Leaves (.bool y) w (.returned (.bool x)) w := ⟨by rw [h], rfl⟩
def fit (k act n : Int) : Bool :=
  if k = 1 then decide (act = 1) && wi n (-1073741824) 1073741824
  else if k = 2 ∨ k = 3 then decide (act = 3) && decide (n = 0)
  else if k = 4 then (decide (act = 1) || decide (act = 2)) && decide (n = 0)
  else if k = 5 then (decide (act = 4) || decide (act = 2)) && decide (n = 0)
  else false
def txt (k act : Int) (s : ByteArray) : Bool := if k = 1 ∨ act = 5 ∨ (k = 5 ∧ act = 2) then decide (s = noS) else decide ((s.size : Int) ≤ 64)
set_option maxHeartbeats 1000000 in
set_option maxRecDepth 100000 in
theorem fits_any (k act n : Int) (w : World) : Calls Try.prog 75 #[.int .i64 k, .int .i64 act, .int .i64 n] w (Leaves (.bool (fit k act n)) w) := by
  obtain ⟨z, HZ⟩ : ∃ z, Hid (fit k act n = z) := ⟨_, rfl⟩
  rw [HZ.out]
  go_enter Try.func75, Try.ntmps75
  go_wp2
  all_goals
    go_ret
    refine leaves_bool ?_
    have hz := HZ.out
    unfold fit wi at hz
    rw [← hz]
    clear hz HZ
    first | rfl | grind
set_option maxHeartbeats 1000000 in
set_option maxRecDepth 100000 in
theorem texts_any (k act : Int) (s : ByteArray) (w : World) : Calls Try.prog 76 #[.int .i64 k, .int .i64 act, .string s] w (Leaves (.bool (txt k act s)) w) := by
  obtain ⟨z, HZ⟩ : ∃ z, Hid (txt k act s = z) := ⟨_, rfl⟩
  rw [HZ.out]
  go_enter Try.func76, Try.ntmps76
  go_wp2
  all_goals
    go_ret
    refine leaves_bool ?_
    have hz := HZ.out
    unfold txt at hz
    rw [← hz]
    clear hz HZ
    first | rfl | grind [tl_nil]
end Go.Proofs.Ytefpdcpcjfjblaa
