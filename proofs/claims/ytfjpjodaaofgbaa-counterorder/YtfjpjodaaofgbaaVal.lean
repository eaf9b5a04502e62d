/- Values of the document's answer: numbers that are the same are told so. -/
import Derived.Test.YtfjpjodaaofgbaaSame
namespace Go.Proofs.Ytfjpjodaaofgbaa
open Go.RowKit

set_option maxHeartbeats 2000000 in
set_option maxRecDepth 100000 in
theorem texts_nil (w : World) : Calls Try.prog 42 #[.slice none 0 0, .slice none 0 0] w (Tells (.bool true) w) := by
  go_enter Try.func42, Try.ntmps42
  go_wp2
  go_loopw [5] (fun vi wr => vi = .int .i64 0 ∧ Below w.heap.size w wr) (fun _ _ => 0)
  case atStart => exact ⟨rfl, Below.refl _ _⟩
  case round =>
    obtain ⟨rfl, hbel⟩ := hrel
    go_wp2_with fail
    go_ret
    exact ⟨rfl, hbel⟩
set_option maxHeartbeats 2000000 in
set_option maxRecDepth 100000 in
theorem values_any (k n : Int) (w : World) : Calls Try.prog 21 #[VV k n, VV k n] w (Tells (.bool true) w) := by
  obtain ⟨R0, R1, hbel⟩ := two_rows w #[.int .i64 k, .int .i64 n, .slice none 0 0, .slice none 0 0] 47 #[.int .i64 k, .int .i64 n, .slice none 0 0, .slice none 0 0] 47
  generalize hW : (w.alloc (.cells #[.int .i64 k, .int .i64 n, .slice none 0 0, .slice none 0 0] 47)).alloc (.cells #[.int .i64 k, .int .i64 n, .slice none 0 0, .slice none 0 0] 47) = w0 at R0 R1 hbel
  have c0 : w0.cell? ⟨w.heap.size, 0, none⟩ = some (.int .i64 k) := R0.cell 0
  have c1 : w0.cell? ⟨w.heap.size, 1, none⟩ = some (.int .i64 n) := R0.cell 1
  have c2 : w0.cell? ⟨w.heap.size, 2, none⟩ = some (.slice none 0 0) := R0.cell 2
  have e0 : w0.cell? ⟨w.heap.size + 1, 0, none⟩ = some (.int .i64 k) := R1.cell 0
  have e1 : w0.cell? ⟨w.heap.size + 1, 1, none⟩ = some (.int .i64 n) := R1.cell 1
  have e2 : w0.cell? ⟨w.heap.size + 1, 2, none⟩ = some (.slice none 0 0) := R1.cell 2
  go_enter Try.func21, Try.ntmps21
  go_wp2_with (first | rw [hW])
  refine (texts_nil w0).mono ?_
  rintro e w1 ⟨rfl, hb1⟩
  have c3 : w1.cell? ⟨w.heap.size, 3, none⟩ = some (.slice none 0 0) := (R0.later hb1).cell 3
  have e3 : w1.cell? ⟨w.heap.size + 1, 3, none⟩ = some (.slice none 0 0) := (R1.later hb1).cell 3
  go_wp2_with fail
  have R := R0.later hb1
  replace hbel := below_on hbel hb1
  clear c0 c1 c2 c3 e0 e1 e2 e3 hb1 hW R0 R1
  go_loopw [5] (fun vi wr => vi = .int .i64 0 ∧ wr.cell? ⟨w.heap.size, 3, none⟩ = some (.slice none 0 0) ∧ Below w.heap.size w wr) (fun _ _ => 0)
  case atStart => exact ⟨rfl, R.cell 3, hbel⟩
  case round =>
    clear hbel
    obtain ⟨rfl, c3, hbel⟩ := hrel
    go_wp2_with fail
    go_ret
    exact ⟨rfl, hbel⟩
theorem field47_0 (k n : Int) (w : World) : (Instr.field 47 (VV k n) 0).run Try.prog w = .ok (.int .i64 k) w := by
  simp [Instr.field, go_sem, asAgg]
theorem field47_1 (k n : Int) (w : World) : (Instr.field 47 (VV k n) 1).run Try.prog w = .ok (.int .i64 n) w := by
  simp [Instr.field, go_sem, asAgg]
end Go.Proofs.Ytfjpjodaaofgbaa
