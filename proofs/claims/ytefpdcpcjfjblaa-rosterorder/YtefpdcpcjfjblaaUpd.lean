/- CheckUpdate of package ops. -/
import Derived.Test.YtefpdcpcjfjblaaUsed
namespace Go.Proofs.Ytefpdcpcjfjblaa
open Go.RowKit

/-- What CheckUpdate tells. -/
def cu (k : Int) (key field : ByteArray) (inner act n : Int) (text : ByteArray) (pl : Int) : Bool :=
  uOk (dk k inner act) act n text pl && (wi key.size 1 64 && (!decide (k = 6) || (wi field.size 1 64 && wi inner 1 5))) &&
  (decide ((if k = 6 then noS else field) = noS) && decide ((if k = 6 then 0 else inner) = 0) && decide (uN (dk k inner act) act n = 0) && decide (uT (dk k inner act) act text = noS) && decide (uP (dk k inner act) act pl = 0))

set_option maxHeartbeats 1000000 in
set_option maxRecDepth 100000 in
theorem checkUpdate_any (k : Int) (key field : ByteArray) (inner act n : Int) (text : ByteArray) (pl : Int) (w : World) : Calls Try.prog 55 #[UV k key field inner act n text pl] w (Tells (.bool (cu k key field inner act n text pl)) w) := by
  unfold cu
  have C1 := fun w => withoutUsed_any k key field inner act n text pl w
  generalize uOk (dk k inner act) act n text pl = x at C1 ⊢
  generalize uN (dk k inner act) act n = n' at C1 ⊢
  generalize uT (dk k inner act) act text = t' at C1 ⊢
  generalize uP (dk k inner act) act pl = p' at C1 ⊢
  have C2 := fun w => withoutName_any k key field inner 0 n' t' p' w
  generalize (wi key.size 1 64 && (!decide (k = 6) || (wi field.size 1 64 && wi inner 1 5))) = y at C2 ⊢
  generalize (if k = 6 then noS else field) = f' at C2 ⊢
  generalize (if k = 6 then 0 else inner) = i' at C2 ⊢
  go_enter Try.func55, Try.ntmps55
  go_wp2_with fail
  refine (C1 _).mono ?_
  rintro e w1 ⟨rfl, hb1⟩
  clear C1
  have R1 := rw_new w1 81 #[.int .i64 k, .string key, .string field, .int .i64 inner, .int .i64 0, .int .i64 n', .string t', .int .i64 p']
  go_wp2_with fail
  refine (C2 _).mono ?_
  rintro e w2 ⟨rfl, hb2⟩
  clear C2
  replace R1 := R1.later hb2
  have R2 := R1.row #[.int .i64 0, .string noS, .string f', .int .i64 i', .int .i64 0, .int .i64 n', .string t', .int .i64 p']
  have hbel : Below w.heap.size w (w2.setRow w1.heap.size #[.int .i64 0, .string noS, .string f', .int .i64 i', .int .i64 0, .int .i64 n', .string t', .int .i64 p']) := by
    have q1 : Below w.heap.size w w1 := below_on (bel_alloc (Below.refl _ _) _) hb1
    exact below_setRow (below_on (bel_alloc q1 _) hb2) q1.size _
  generalize hW : w2.setRow w1.heap.size #[.int .i64 0, .string noS, .string f', .int .i64 i', .int .i64 0, .int .i64 n', .string t', .int .i64 p'] = w3 at R2 hbel
  clear hb1 hb2
  cases x <;> cases y
  all_goals
    go_wp2_with (first | refine store_r rfl 81 _ _ rfl _ _ rfl rfl R1 size81 rfl (by simp [Value.oneCell']) ?_ | refine load_r 81 _ rfl rfl _ rfl R2 Try.underlying81 rfl size81 ?_)
  all_goals
    clear R1 R2 hW
    go_ret
    refine tells_bool ?_ hbel
    clear hbel
    first | rfl | (simp_all [tl_nil]; done) | grind [tl_nil]
end Go.Proofs.Ytefpdcpcjfjblaa
