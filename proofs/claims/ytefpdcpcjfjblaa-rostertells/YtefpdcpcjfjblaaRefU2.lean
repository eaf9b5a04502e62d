/- CheckUpdate of the document's answer. -/
import Derived.Test.YtefpdcpcjfjblaaRefUpd
namespace Go.Proofs.Ytefpdcpcjfjblaa
open Go.RowKit

set_option maxRecDepth 100000 in
theorem named_l (s : ByteArray) (w : World) : Calls Try.prog 74 #[.string s] w (Leaves (.bool (wi s.size 1 64)) w) := by
  unfold wi
  go_enter Try.func74, Try.ntmps74
  go_wp2
  all_goals
    go_ret
    refine leaves_bool ?_
    first | (simp_all; done) | grind
set_option maxRecDepth 100000 in
theorem places_l (leaf act : Int) (w : World) : Calls Try.prog 59 #[.int .i64 leaf, .int .i64 act] w (Leaves (.bool (decide (leaf = 5) && !decide (act = 5))) w) := by
  go_enter Try.func59, Try.ntmps59
  go_wp2
  all_goals
    go_ret
    refine leaves_bool ?_
    first | (simp_all; done) | grind
/-- The leaf's kind, and what shape tells. -/
def lf (k inner : Int) : Int := if k = 6 then inner else k
def shp (k : Int) (key field : ByteArray) (inner act n : Int) (text : ByteArray) : Bool :=
  wi k 1 6 && wi key.size 1 64 && (if k = 6 then wi field.size 1 64 && wi inner 1 5 && (if act = 5 then decide (n = 0) && decide (text = noS) else fit inner act n && txt inner act text) else decide (field = noS) && decide (inner = 0) && (fit k act n && txt k act text))
/-- What shape answers. -/
def ShPost (z : Bool) (y : Int) (w : World) (e : Ending) (w' : World) : Prop := ∃ l b, e = .returned (.tuple #[.int .i64 l, .bool b]) ∧ b = z ∧ (b = true → l = y) ∧ w' = w
set_option maxHeartbeats 1000000 in
set_option maxRecDepth 100000 in
theorem shape_any (k : Int) (key field : ByteArray) (inner act n : Int) (text : ByteArray) (w : World) : Calls Try.prog 58 #[.int .i64 k, .string key, .string field, .int .i64 inner, .int .i64 act, .int .i64 n, .string text] w (ShPost (shp k key field inner act n text) (lf k inner) w) := by
  obtain ⟨z, HZ⟩ : ∃ z, Hid (shp k key field inner act n text = z) := ⟨_, rfl⟩
  obtain ⟨y, HY⟩ : ∃ y, Hid (lf k inner = y) := ⟨_, rfl⟩
  rw [HZ.out, HY.out]
  go_enter Try.func58, Try.ntmps58
  go_wp2_with (first | (refine (named_l _ _).mono ?_; rintro e w1 ⟨rfl, rfl⟩) | (refine (fits_any _ _ _ _).mono ?_; rintro e w1 ⟨rfl, rfl⟩) | (refine (texts_any _ _ _ _).mono ?_; rintro e w1 ⟨rfl, rfl⟩))
  all_goals
    go_ret2
    refine ⟨_, _, rfl, ?_, ?_, rfl⟩
    focus
      have hz := HZ.out
      unfold shp at hz
      rw [← hz]
      clear hz HZ HY
      first | rfl | grind [tl_nil, wi]
    focus
      have hz := HY.out
      unfold lf at hz
      rw [← hz]
      clear hz HZ HY
      first | rfl | grind

set_option maxHeartbeats 1000000 in
/-- The document's CheckUpdate and the program's are one. -/
theorem cu_eq (k : Int) (key field : ByteArray) (inner act n : Int) (text : ByteArray) (pl : Int) :
    (shp k key field inner act n text && (if lf k inner = 5 ∧ act ≠ 5 then wi pl 0 1048576 else decide (pl = 0))) = cu k key field inner act n text pl := by
  have hs : text = noS → (text.size : Int) ≤ 64 := fun h => by subst h; decide
  unfold cu shp lf uOk uN uT uP dk fit txt wi
  by_cases hk : 1 ≤ k ∧ k ≤ 6
  · have hk' : k = 1 ∨ k = 2 ∨ k = 3 ∨ k = 4 ∨ k = 5 ∨ k = 6 := by omega
    rcases hk' with rfl | rfl | rfl | rfl | rfl | rfl
    case inr.inr.inr.inr.inr =>
      by_cases hi : 1 ≤ inner ∧ inner ≤ 5
      · have hi' : inner = 1 ∨ inner = 2 ∨ inner = 3 ∨ inner = 4 ∨ inner = 5 := by omega
        rcases hi' with rfl | rfl | rfl | rfl | rfl <;> grind
      · grind
    all_goals grind
  · grind

end Go.Proofs.Ytefpdcpcjfjblaa
