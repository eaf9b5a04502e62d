/- heads: what must come at any rate. -/
import Derived.Test.YtknpnjhedfdggaaVal
import Derived.Test.YtknpnjhedfdggaaRClr
import Derived.Test.YtknpnjhedfdggaaSame
namespace Go.Proofs.Ytknpnjhedfdggaa
open Go.RowKit
open Go.Sort

def hA : Wt := ⟨1, 1, 1, 2, ⟨#[98]⟩⟩
def hB : Wt := ⟨2, 1, 1, 1, ⟨#[97]⟩⟩
def hC : Wt := ⟨3, 1, 1, 3, ⟨#[99]⟩⟩
def m0 : X := ⟨3, 0, [], [], [], []⟩
def m1 : X := ⟨3, 0, [], [hA], [], []⟩
def m2 : X := ⟨3, 0, [], [hA, hB], [], []⟩
def m3 : X := ⟨3, 0, [], [hB, hC], [], []⟩
def l0 : X := ⟨2, 0, [], [], [], []⟩
def l1 : X := ⟨2, 0, [], [hA], [], []⟩
def l2 : X := ⟨2, 0, [], [hA, hB], [], []⟩
def l3 : X := ⟨2, 0, [], [hB], [], []⟩
theorem do_m1 : doX m0 ⟨1, 1, 1, 2, ⟨#[98]⟩⟩ [0, 0, 0, 0, 0, 0, 0, 0, 0, 0, 0, 0, 0] = m1 := by
  unfold doX
  rw [if_pos (by decide +kernel)]
  rfl
theorem do_m2 : doX m1 ⟨2, 1, 1, 1, ⟨#[97]⟩⟩ [0, 0, 0, 0, 0, 0, 0, 0, 0, 0, 0, 0, 0] = m2 := by
  unfold doX
  rw [if_pos (by decide +kernel)]
  rfl
theorem do_l1 : doX l0 ⟨1, 1, 1, 2, ⟨#[98]⟩⟩ [0, 0, 0, 0, 0, 0, 0, 0, 0, 0, 0, 0, 0] = l1 := by
  unfold doX
  rw [if_pos (by decide +kernel)]
  rfl
theorem do_l2 : doX l1 ⟨2, 1, 1, 1, ⟨#[97]⟩⟩ [0, 0, 0, 0, 0, 0, 0, 0, 0, 0, 0, 0, 0] = l2 := by
  unfold doX
  rw [if_pos (by decide +kernel)]
  rfl
theorem do_m3 : doX m2 ⟨3, 1, 1, 3, ⟨#[99]⟩⟩ [0, 1, 0, 0, 0, 0, 0, 0, 0, 0, 0, 0, 0] = m3 := by
  unfold doX
  rw [if_pos (by decide +kernel)]
  rfl
theorem cl_l3 : clX l2 3 1 [0, 1, 0, 0, 0, 0, 0, 0, 0, 0, 0, 0, 0] 1 = l3 := by
  unfold clX
  rw [if_pos (by decide +kernel)]
  rfl
theorem sm_m0 : Sm m0 := ⟨by decide, by decide, by decide, by decide, (fun _ h => by cases h), (fun _ h => by cases h)⟩
theorem sm_m1 : Sm m1 := ⟨by decide, by decide, by decide, by decide, (fun _ h => by cases h), (fun _ h => by cases h)⟩
theorem sm_m2 : Sm m2 := ⟨by decide, by decide, by decide, by decide, (fun _ h => by cases h), (fun _ h => by cases h)⟩
theorem sm_m3 : Sm m3 := ⟨by decide, by decide, by decide, by decide, (fun _ h => by cases h), (fun _ h => by cases h)⟩
theorem sm_l0 : Sm l0 := ⟨by decide, by decide, by decide, by decide, (fun _ h => by cases h), (fun _ h => by cases h)⟩
theorem sm_l1 : Sm l1 := ⟨by decide, by decide, by decide, by decide, (fun _ h => by cases h), (fun _ h => by cases h)⟩
theorem sm_l2 : Sm l2 := ⟨by decide, by decide, by decide, by decide, (fun _ h => by cases h), (fun _ h => by cases h)⟩
theorem sm_l3 : Sm l3 := ⟨by decide, by decide, by decide, by decide, (fun _ h => by cases h), (fun _ h => by cases h)⟩
theorem rd_m2 : rdK m2 = 3 ∧ rdT m2 = [[97], [98]] := by decide +kernel
theorem rd_l2 : rdK l2 = 2 ∧ rdT l2 = [[98]] := by decide +kernel
theorem rd_m3 : rdK m3 = 3 ∧ rdT m3 = [[97], [99]] := by decide +kernel
theorem rd_l3 : rdK l3 = 2 ∧ rdT l3 = [[97]] := by decide +kernel
theorem read_m2 {va vw vm ve : Value} {w : World} (h : Four w m2 va vw vm ve) : Calls Try.prog 12 #[CV 3 0 va vw vm ve] w (fun e w' => ∃ u, e = .returned (VV 3 u) ∧ THas w' u [[97], [98]] ∧ Below w.heap.size w w') := by
  have := read_any m2 va vw vm ve w h sm_m2
  unfold RdPost at this
  rw [rd_m2.1, rd_m2.2] at this
  exact this
theorem read_l2 {va vw vm ve : Value} {w : World} (h : Four w l2 va vw vm ve) : Calls Try.prog 12 #[CV 2 0 va vw vm ve] w (fun e w' => ∃ u, e = .returned (VV 2 u) ∧ THas w' u [[98]] ∧ Below w.heap.size w w') := by
  have := read_any l2 va vw vm ve w h sm_l2
  unfold RdPost at this
  rw [rd_l2.1, rd_l2.2] at this
  exact this
theorem read_m3 {va vw vm ve : Value} {w : World} (h : Four w m3 va vw vm ve) : Calls Try.prog 12 #[CV 3 0 va vw vm ve] w (fun e w' => ∃ u, e = .returned (VV 3 u) ∧ THas w' u [[97], [99]] ∧ Below w.heap.size w w') := by
  have := read_any m3 va vw vm ve w h sm_m3
  unfold RdPost at this
  rw [rd_m3.1, rd_m3.2] at this
  exact this
theorem read_l3 {va vw vm ve : Value} {w : World} (h : Four w l3 va vw vm ve) : Calls Try.prog 12 #[CV 2 0 va vw vm ve] w (fun e w' => ∃ u, e = .returned (VV 2 u) ∧ THas w' u [[97]] ∧ Below w.heap.size w w') := by
  have := read_any l3 va vw vm ve w h sm_l3
  unfold RdPost at this
  rw [rd_l3.1, rd_l3.2] at this
  exact this
theorem field46_2 (k : Int) (p : Option Addr) (n c : Nat) (w : World) : (Instr.field 46 (VV k (.slice p n c)) 2).run Try.prog w = .ok (.slice p n c) w := by
  simp [Instr.field, go_sem, asAgg]
theorem thas_lit (w : World) (l : List Bs) (hl : l.length ≤ 100) : THas (w.alloc (.cells (l.map encStr).toArray 9)) (.slice (some ⟨w.heap.size, 0, none⟩) l.length l.length) l := by
  refine ⟨by unfold maxLen; omega, by simp, .inr ⟨_, _, rfl, ⟨Nat.le_refl _, by unfold maxLen; omega⟩, fun _ => ⟨_, _, rfl, ?_⟩⟩⟩
  exact Rw.whole (cs := l.map encStr) (rw_new w 9 _)
theorem four_row {w : World} {x : X} {va vw vm ve : Value} (h : Four w x va vw vm ve) (h1 : x.am.length = 0) (h2 : x.mb.length = 0) (h3 : x.el.length = 0) {b : Nat} {t : TypeId} {k i : Int} {pa : Option Addr} {la ca : Nat} {pw : Option Addr} {lw cw : Nat} {pm : Option Addr} {lm cm : Nat} {pe : Option Addr} {le ce : Nat} (R : Rw w b t (cvc k i (.slice pa la ca) (.slice pw lw cw) (.slice pm lm cm) (.slice pe le ce))) (cs : Array Value) : Four (w.setRow b cs) x va vw vm ve := four_zero h h1 h2 h3 (SHas.row h.t (Wt.flat _) (by decide) R cs)
theorem four_nil (w : World) (k b : Int) : Four w ⟨k, b, [], [], [], []⟩ (.slice none 0 0) (.slice none 0 0) (.slice none 0 0) (.slice none 0 0) := ⟨AHas.nil w, WHas.nil w, BHas.nil w, EHas.nil w⟩
set_option maxHeartbeats 8000000 in
set_option maxRecDepth 100000 in
theorem heads_any (w : World) : Calls Try.prog 10 #[] w (Tells (.bool true) w) := by
  have r1 := rw_new w 34 #[.int .i64 0, .int .i64 0, .int .i64 0, .int .i64 0, .int .i64 0, .int .i64 0, .int .i64 0, .int .i64 0, .int .i64 0, .int .i64 0, .int .i64 0, .int .i64 0, .int .i64 0, .int .i64 0, .int .i64 0, .int .i64 0, .slice none 0 0]
  have b1 := bel_alloc (Below.refl w.heap.size w) (.cells #[.int .i64 0, .int .i64 0, .int .i64 0, .int .i64 0, .int .i64 0, .int .i64 0, .int .i64 0, .int .i64 0, .int .i64 0, .int .i64 0, .int .i64 0, .int .i64 0, .int .i64 0, .int .i64 0, .int .i64 0, .int .i64 0, .slice none 0 0] 34)
  have s1 : (w.alloc (.cells #[.int .i64 0, .int .i64 0, .int .i64 0, .int .i64 0, .int .i64 0, .int .i64 0, .int .i64 0, .int .i64 0, .int .i64 0, .int .i64 0, .int .i64 0, .int .i64 0, .int .i64 0, .int .i64 0, .int .i64 0, .int .i64 0, .slice none 0 0] 34)).heap.size = w.heap.size + 1 := by simp
  generalize hW1 : w.alloc (.cells #[.int .i64 0, .int .i64 0, .int .i64 0, .int .i64 0, .int .i64 0, .int .i64 0, .int .i64 0, .int .i64 0, .int .i64 0, .int .i64 0, .int .i64 0, .int .i64 0, .int .i64 0, .int .i64 0, .int .i64 0, .int .i64 0, .slice none 0 0] 34) = v1 at r1 b1 s1
  have R0 := r1.row #[.int .i64 1, .int .i64 1, .int .i64 0, .int .i64 0, .int .i64 0, .int .i64 0, .int .i64 0, .int .i64 0, .int .i64 0, .int .i64 0, .int .i64 0, .int .i64 0, .int .i64 0, .int .i64 0, .int .i64 0, .int .i64 2, .slice none 0 0]
  replace b1 := below_setRow b1 (g := w.heap.size) (by omega) #[.int .i64 1, .int .i64 1, .int .i64 0, .int .i64 0, .int .i64 0, .int .i64 0, .int .i64 0, .int .i64 0, .int .i64 0, .int .i64 0, .int .i64 0, .int .i64 0, .int .i64 0, .int .i64 0, .int .i64 0, .int .i64 2, .slice none 0 0]
  replace s1 : (v1.setRow w.heap.size #[.int .i64 1, .int .i64 1, .int .i64 0, .int .i64 0, .int .i64 0, .int .i64 0, .int .i64 0, .int .i64 0, .int .i64 0, .int .i64 0, .int .i64 0, .int .i64 0, .int .i64 0, .int .i64 0, .int .i64 0, .int .i64 2, .slice none 0 0]).heap.size = w.heap.size + 1 := by simpa [World.setRow] using s1
  generalize hU1 : v1.setRow w.heap.size #[.int .i64 1, .int .i64 1, .int .i64 0, .int .i64 0, .int .i64 0, .int .i64 0, .int .i64 0, .int .i64 0, .int .i64 0, .int .i64 0, .int .i64 0, .int .i64 0, .int .i64 0, .int .i64 0, .int .i64 0, .int .i64 2, .slice none 0 0] = u1 at R0 b1 s1
  have r2 := rw_new u1 34 #[.int .i64 0, .int .i64 0, .int .i64 0, .int .i64 0, .int .i64 0, .int .i64 0, .int .i64 0, .int .i64 0, .int .i64 0, .int .i64 0, .int .i64 0, .int .i64 0, .int .i64 0, .int .i64 0, .int .i64 0, .int .i64 0, .slice none 0 0]
  have b2 := bel_alloc b1 (.cells #[.int .i64 0, .int .i64 0, .int .i64 0, .int .i64 0, .int .i64 0, .int .i64 0, .int .i64 0, .int .i64 0, .int .i64 0, .int .i64 0, .int .i64 0, .int .i64 0, .int .i64 0, .int .i64 0, .int .i64 0, .int .i64 0, .slice none 0 0] 34)
  have s2 : (u1.alloc (.cells #[.int .i64 0, .int .i64 0, .int .i64 0, .int .i64 0, .int .i64 0, .int .i64 0, .int .i64 0, .int .i64 0, .int .i64 0, .int .i64 0, .int .i64 0, .int .i64 0, .int .i64 0, .int .i64 0, .int .i64 0, .int .i64 0, .slice none 0 0] 34)).heap.size = w.heap.size + 2 := by simp [s1]
  replace R0 := R0.alloc (.cells #[.int .i64 0, .int .i64 0, .int .i64 0, .int .i64 0, .int .i64 0, .int .i64 0, .int .i64 0, .int .i64 0, .int .i64 0, .int .i64 0, .int .i64 0, .int .i64 0, .int .i64 0, .int .i64 0, .int .i64 0, .int .i64 0, .slice none 0 0] 34)
  generalize hW2 : u1.alloc (.cells #[.int .i64 0, .int .i64 0, .int .i64 0, .int .i64 0, .int .i64 0, .int .i64 0, .int .i64 0, .int .i64 0, .int .i64 0, .int .i64 0, .int .i64 0, .int .i64 0, .int .i64 0, .int .i64 0, .int .i64 0, .int .i64 0, .slice none 0 0] 34) = v2 at r2 b2 s2 R0
  rw [s1] at r2
  have R1 := r2.row #[.int .i64 2, .int .i64 1, .int .i64 0, .int .i64 0, .int .i64 0, .int .i64 0, .int .i64 0, .int .i64 0, .int .i64 0, .int .i64 0, .int .i64 0, .int .i64 0, .int .i64 0, .int .i64 0, .int .i64 0, .int .i64 1, .slice none 0 0]
  replace R0 := R0.rowOther (q := w.heap.size + 1) (by omega) #[.int .i64 2, .int .i64 1, .int .i64 0, .int .i64 0, .int .i64 0, .int .i64 0, .int .i64 0, .int .i64 0, .int .i64 0, .int .i64 0, .int .i64 0, .int .i64 0, .int .i64 0, .int .i64 0, .int .i64 0, .int .i64 1, .slice none 0 0]
  replace b2 := below_setRow b2 (g := w.heap.size + 1) (by omega) #[.int .i64 2, .int .i64 1, .int .i64 0, .int .i64 0, .int .i64 0, .int .i64 0, .int .i64 0, .int .i64 0, .int .i64 0, .int .i64 0, .int .i64 0, .int .i64 0, .int .i64 0, .int .i64 0, .int .i64 0, .int .i64 1, .slice none 0 0]
  replace s2 : (v2.setRow (w.heap.size + 1) #[.int .i64 2, .int .i64 1, .int .i64 0, .int .i64 0, .int .i64 0, .int .i64 0, .int .i64 0, .int .i64 0, .int .i64 0, .int .i64 0, .int .i64 0, .int .i64 0, .int .i64 0, .int .i64 0, .int .i64 0, .int .i64 1, .slice none 0 0]).heap.size = w.heap.size + 2 := by simpa [World.setRow] using s2
  generalize hU2 : v2.setRow (w.heap.size + 1) #[.int .i64 2, .int .i64 1, .int .i64 0, .int .i64 0, .int .i64 0, .int .i64 0, .int .i64 0, .int .i64 0, .int .i64 0, .int .i64 0, .int .i64 0, .int .i64 0, .int .i64 0, .int .i64 0, .int .i64 0, .int .i64 1, .slice none 0 0] = u2 at R0 R1 b2 s2
  have r3 := rw_new u2 34 #[.int .i64 0, .int .i64 0, .int .i64 0, .int .i64 0, .int .i64 0, .int .i64 0, .int .i64 0, .int .i64 0, .int .i64 0, .int .i64 0, .int .i64 0, .int .i64 0, .int .i64 0, .int .i64 0, .int .i64 0, .int .i64 0, .slice none 0 0]
  have hbel := bel_alloc b2 (.cells #[.int .i64 0, .int .i64 0, .int .i64 0, .int .i64 0, .int .i64 0, .int .i64 0, .int .i64 0, .int .i64 0, .int .i64 0, .int .i64 0, .int .i64 0, .int .i64 0, .int .i64 0, .int .i64 0, .int .i64 0, .int .i64 0, .slice none 0 0] 34)
  have s3 : (u2.alloc (.cells #[.int .i64 0, .int .i64 0, .int .i64 0, .int .i64 0, .int .i64 0, .int .i64 0, .int .i64 0, .int .i64 0, .int .i64 0, .int .i64 0, .int .i64 0, .int .i64 0, .int .i64 0, .int .i64 0, .int .i64 0, .int .i64 0, .slice none 0 0] 34)).heap.size = w.heap.size + 3 := by simp [s2]
  replace R0 := R0.alloc (.cells #[.int .i64 0, .int .i64 0, .int .i64 0, .int .i64 0, .int .i64 0, .int .i64 0, .int .i64 0, .int .i64 0, .int .i64 0, .int .i64 0, .int .i64 0, .int .i64 0, .int .i64 0, .int .i64 0, .int .i64 0, .int .i64 0, .slice none 0 0] 34)
  replace R1 := R1.alloc (.cells #[.int .i64 0, .int .i64 0, .int .i64 0, .int .i64 0, .int .i64 0, .int .i64 0, .int .i64 0, .int .i64 0, .int .i64 0, .int .i64 0, .int .i64 0, .int .i64 0, .int .i64 0, .int .i64 0, .int .i64 0, .int .i64 0, .slice none 0 0] 34)
  generalize hW3 : u2.alloc (.cells #[.int .i64 0, .int .i64 0, .int .i64 0, .int .i64 0, .int .i64 0, .int .i64 0, .int .i64 0, .int .i64 0, .int .i64 0, .int .i64 0, .int .i64 0, .int .i64 0, .int .i64 0, .int .i64 0, .int .i64 0, .int .i64 0, .slice none 0 0] 34) = v3 at r3 hbel s3 R0 R1
  rw [s2] at r3
  have R3 := r3.row #[.int .i64 3, .int .i64 1, .int .i64 0, .int .i64 0, .int .i64 0, .int .i64 0, .int .i64 0, .int .i64 0, .int .i64 0, .int .i64 0, .int .i64 0, .int .i64 0, .int .i64 0, .int .i64 0, .int .i64 0, .int .i64 3, .slice none 0 0]
  replace R0 := R0.rowOther (q := w.heap.size + 2) (by omega) #[.int .i64 3, .int .i64 1, .int .i64 0, .int .i64 0, .int .i64 0, .int .i64 0, .int .i64 0, .int .i64 0, .int .i64 0, .int .i64 0, .int .i64 0, .int .i64 0, .int .i64 0, .int .i64 0, .int .i64 0, .int .i64 3, .slice none 0 0]
  replace R1 := R1.rowOther (q := w.heap.size + 2) (by omega) #[.int .i64 3, .int .i64 1, .int .i64 0, .int .i64 0, .int .i64 0, .int .i64 0, .int .i64 0, .int .i64 0, .int .i64 0, .int .i64 0, .int .i64 0, .int .i64 0, .int .i64 0, .int .i64 0, .int .i64 0, .int .i64 3, .slice none 0 0]
  replace hbel := below_setRow hbel (g := w.heap.size + 2) (by omega) #[.int .i64 3, .int .i64 1, .int .i64 0, .int .i64 0, .int .i64 0, .int .i64 0, .int .i64 0, .int .i64 0, .int .i64 0, .int .i64 0, .int .i64 0, .int .i64 0, .int .i64 0, .int .i64 0, .int .i64 0, .int .i64 3, .slice none 0 0]
  replace s3 : (v3.setRow (w.heap.size + 2) #[.int .i64 3, .int .i64 1, .int .i64 0, .int .i64 0, .int .i64 0, .int .i64 0, .int .i64 0, .int .i64 0, .int .i64 0, .int .i64 0, .int .i64 0, .int .i64 0, .int .i64 0, .int .i64 0, .int .i64 0, .int .i64 3, .slice none 0 0]).heap.size = w.heap.size + 3 := by simpa [World.setRow] using s3
  generalize hU3 : v3.setRow (w.heap.size + 2) #[.int .i64 3, .int .i64 1, .int .i64 0, .int .i64 0, .int .i64 0, .int .i64 0, .int .i64 0, .int .i64 0, .int .i64 0, .int .i64 0, .int .i64 0, .int .i64 0, .int .i64 0, .int .i64 0, .int .i64 0, .int .i64 3, .slice none 0 0] = u3 at R0 R1 R3 hbel s3
  have f3 : u3.frozen? ⟨w.heap.size + 2, 3, none⟩ = false := R3.frozen 3
  have c3 : u3.cell? ⟨w.heap.size + 2, 3, none⟩ = some (.int .i64 0) := R3.cell 3
  replace R3 : Rw (u3.setCell ⟨w.heap.size + 2, 3, none⟩ (.int .i64 1)) (w.heap.size + 2) 34 (txc 3 1 [0, 1, 0, 0, 0, 0, 0, 0, 0, 0, 0, 0, 0] 3 (.slice none 0 0)).toArray := R3.set 3 _
  replace R0 : Rw (u3.setCell ⟨w.heap.size + 2, 3, none⟩ (.int .i64 1)) w.heap.size 34 (txc 1 1 [0, 0, 0, 0, 0, 0, 0, 0, 0, 0, 0, 0, 0] 2 (.slice none 0 0)).toArray := R0.setOther (q := w.heap.size + 2) (by omega) 3 (.int .i64 1)
  replace R1 : Rw (u3.setCell ⟨w.heap.size + 2, 3, none⟩ (.int .i64 1)) (w.heap.size + 1) 34 (txc 2 1 [0, 0, 0, 0, 0, 0, 0, 0, 0, 0, 0, 0, 0] 1 (.slice none 0 0)).toArray := R1.setOther (q := w.heap.size + 2) (by omega) 3 (.int .i64 1)
  replace hbel := hbel.setCell (p := ⟨w.heap.size + 2, 3, none⟩) (show w.heap.size ≤ w.heap.size + 2 by omega) (.int .i64 1)
  replace s3 : (u3.setCell ⟨w.heap.size + 2, 3, none⟩ (.int .i64 1)).heap.size = w.heap.size + 3 := by rw [World.size_setCell]; exact s3
  generalize hU4 : u3.setCell ⟨w.heap.size + 2, 3, none⟩ (.int .i64 1) = wa at R0 R1 R3 hbel s3
  have S1 : Hid (u1.heap.size = w.heap.size + 1) := s1
  have S2 : Hid (u2.heap.size = w.heap.size + 2) := s2
  have S3 : Hid (wa.heap.size = w.heap.size + 3) := s3
  clear s3
  go_enter Try.func10, Try.ntmps10
  go_wp2_with (first | rw [hW1] | rw [hW2] | rw [hW3] | rw [hU4] | (refine store_r rfl 34 _ _ rfl w.heap.size #[.int .i64 1, .int .i64 1, .int .i64 0, .int .i64 0, .int .i64 0, .int .i64 0, .int .i64 0, .int .i64 0, .int .i64 0, .int .i64 0, .int .i64 0, .int .i64 0, .int .i64 0, .int .i64 0, .int .i64 0, .int .i64 2, .slice none 0 0] rfl rfl r1 size34 rfl (by simp [Value.oneCell']) ?_; rw [hU1]) | (refine store_r rfl 34 _ _ rfl (w.heap.size + 1) #[.int .i64 2, .int .i64 1, .int .i64 0, .int .i64 0, .int .i64 0, .int .i64 0, .int .i64 0, .int .i64 0, .int .i64 0, .int .i64 0, .int .i64 0, .int .i64 0, .int .i64 0, .int .i64 0, .int .i64 0, .int .i64 1, .slice none 0 0] rfl rfl r2 size34 rfl (by simp [Value.oneCell']) ?_; rw [hU2]) | (refine store_r rfl 34 _ _ rfl (w.heap.size + 2) #[.int .i64 3, .int .i64 1, .int .i64 0, .int .i64 0, .int .i64 0, .int .i64 0, .int .i64 0, .int .i64 0, .int .i64 0, .int .i64 0, .int .i64 0, .int .i64 0, .int .i64 0, .int .i64 0, .int .i64 0, .int .i64 3, .slice none 0 0] rfl rfl r3 size34 rfl (by simp [Value.oneCell']) ?_; rw [hU3]))
  clear hW1 hW2 hW3 hU1 hU2 hU3 hU4 r1 r2 r3 b1 b2 f3 c3 s1 s2 S1 S2
  have zt1 : (Try.prog.info? 34).map (·.size) = some (txc 1 1 [0, 0, 0, 0, 0, 0, 0, 0, 0, 0, 0, 0, 0] 2 (.slice none 0 0)).length := size34
  have zt2 : (Try.prog.info? 34).map (·.size) = some (txc 2 1 [0, 0, 0, 0, 0, 0, 0, 0, 0, 0, 0, 0, 0] 1 (.slice none 0 0)).length := size34
  have zt3 : (Try.prog.info? 34).map (·.size) = some (txc 3 1 [0, 1, 0, 0, 0, 0, 0, 0, 0, 0, 0, 0, 0] 3 (.slice none 0 0)).length := size34
  have hS : Calm.Stays (fun w' => Below wa.heap.size wa w') := fun wa wb h hb => below_on h hb
  have hF : Facts.Stay [pF 0 (eqP (CV 3 0 (.slice none 0 0) (.slice none 0 0) (.slice none 0 0) (.slice none 0 0))), pF 1 (eqP (.agg (txc 1 1 [0, 0, 0, 0, 0, 0, 0, 0, 0, 0, 0, 0, 0] 2 (.slice none 0 0)).toArray)), pF 2 (cP m1), pF 3 (eqP (.agg (txc 2 1 [0, 0, 0, 0, 0, 0, 0, 0, 0, 0, 0, 0, 0] 1 (.slice none 0 0)).toArray)), pF 4 (cP m2), pF 5 (boxP wa.heap.size 27 (cvc 0 0 (.slice none 0 0) (.slice none 0 0) (.slice none 0 0) (.slice none 0 0)))] := stay_of (by simp only [List.forall_mem_cons]; exact ⟨⟨_, _, rfl, eqP_keeps _⟩, ⟨_, _, rfl, eqP_keeps _⟩, ⟨_, _, rfl, cP_keeps _⟩, ⟨_, _, rfl, eqP_keeps _⟩, ⟨_, _, rfl, cP_keeps _⟩, ⟨_, _, rfl, boxP_keeps _ _ _⟩, fun _ h => by cases h⟩)
  refine Facts.regionTail (by kernel_rfl) (by kernel_rfl) 6 (by decide) (by kernel_rfl) (fun w' => Below wa.heap.size wa w') (fun xv => { tmps := #[Value.bool false, Value.pointer (some { block := w.heap.size, off := 0 }), Value.pointer (some { block := w.heap.size + 1, off := 0 }), Value.pointer (some { block := w.heap.size + 2, off := 0 }), xv 5, undef, Value.agg #[Value.int IntKind.i64 1, Value.int IntKind.i64 1], Value.agg #[Value.int IntKind.i64 1, Value.int IntKind.i64 1, Value.int IntKind.i64 0, Value.int IntKind.i64 0, Value.int IntKind.i64 0, Value.int IntKind.i64 0, Value.int IntKind.i64 0, Value.int IntKind.i64 0, Value.int IntKind.i64 0, Value.int IntKind.i64 0, Value.int IntKind.i64 0, Value.int IntKind.i64 0, Value.int IntKind.i64 0, Value.int IntKind.i64 0, Value.int IntKind.i64 0, Value.int IntKind.i64 2, Value.slice none 0 0], Value.agg #[Value.int IntKind.i64 2, Value.int IntKind.i64 1], Value.agg #[Value.int IntKind.i64 2, Value.int IntKind.i64 1, Value.int IntKind.i64 0, Value.int IntKind.i64 0, Value.int IntKind.i64 0, Value.int IntKind.i64 0, Value.int IntKind.i64 0, Value.int IntKind.i64 0, Value.int IntKind.i64 0, Value.int IntKind.i64 0, Value.int IntKind.i64 0, Value.int IntKind.i64 0, Value.int IntKind.i64 0, Value.int IntKind.i64 0, Value.int IntKind.i64 0, Value.int IntKind.i64 1, Value.slice none 0 0], Value.agg #[Value.int IntKind.i64 3, Value.int IntKind.i64 1], Value.agg #[Value.int IntKind.i64 3, Value.int IntKind.i64 1, Value.int IntKind.i64 0, Value.int IntKind.i64 0, Value.int IntKind.i64 0, Value.int IntKind.i64 0, Value.int IntKind.i64 0, Value.int IntKind.i64 0, Value.int IntKind.i64 0, Value.int IntKind.i64 0, Value.int IntKind.i64 0, Value.int IntKind.i64 0, Value.int IntKind.i64 0, Value.int IntKind.i64 0, Value.int IntKind.i64 0, Value.int IntKind.i64 3, Value.slice none 0 0], Value.pointer (some { block := w.heap.size + 2, off := 2 }), Value.pointer (some { block := w.heap.size + 2, off := 3 }), xv 0, xv 1, xv 2, xv 3, xv 4, undef, undef, undef, undef, undef, undef, undef, undef, undef, undef, undef, undef, undef, undef, undef, undef, undef, undef, undef, undef, undef, undef, undef, undef, undef, undef, undef, undef, undef, undef, undef, undef, undef, undef, undef, undef, undef, undef, undef], defers := [] }) [pF 0 (eqP (CV 3 0 (.slice none 0 0) (.slice none 0 0) (.slice none 0 0) (.slice none 0 0))), pF 1 (eqP (.agg (txc 1 1 [0, 0, 0, 0, 0, 0, 0, 0, 0, 0, 0, 0, 0] 2 (.slice none 0 0)).toArray)), pF 2 (cP m1), pF 3 (eqP (.agg (txc 2 1 [0, 0, 0, 0, 0, 0, 0, 0, 0, 0, 0, 0, 0] 1 (.slice none 0 0)).toArray)), pF 4 (cP m2), pF 5 (boxP wa.heap.size 27 (cvc 0 0 (.slice none 0 0) (.slice none 0 0) (.slice none 0 0) (.slice none 0 0)))] _ rfl rfl (by kernel_rfl) (fun j => [undef, undef, undef, undef, undef, undef].getD j undef) rfl (Below.refl _ wa).drew ⟨?_, ?_, ?_, ?_, ?_, ?_, ?_, trivial⟩ ?_
  · exact fun _ => Facts.pureP hS hF (fun _ _ => rfl) rfl (fun xv wv hSw hd => by
      go_simp)
  · exact fun _ => Facts.loadP hS hF (fun _ _ => rfl) 34 Try.underlying34 rfl zt1 _ rfl rfl (fun xv wv hSw hd => by rfl) (fun wv hSw => Rw.whole (R0.later hSw))
  · refine fun _ => Facts.call4P hS hF (fun _ _ => rfl) rfl (by kernel_rfl) rfl (fun xv wv hSw hd => ?_)
    have d0 : xv 0 = _ := pF_get (hd ⟨0, .data⟩ (by simp) rfl _ rfl)
    have d1 : xv 1 = _ := pF_get (hd ⟨1, .data⟩ (by simp) rfl _ rfl)
    show Calls Try.prog 13 #[xv 0, xv 1, .int .i64 1, .string ⟨#[98]⟩] wv _
    rw [d0, d1]
    have hc := do_any m0 (.slice none 0 0) (.slice none 0 0) (.slice none 0 0) (.slice none 0 0) 1 1 [0, 0, 0, 0, 0, 0, 0, 0, 0, 0, 0, 0, 0] 2 (.slice none 0 0) 1 ⟨#[98]⟩ wv rfl (four_nil _ _ _) sm_m0
    rw [do_m1] at hc
    exact hc.mono fun e w' h => gives_p h
  · exact fun _ => Facts.loadP hS hF (fun _ _ => rfl) 34 Try.underlying34 rfl zt2 _ rfl rfl (fun xv wv hSw hd => by rfl) (fun wv hSw => Rw.whole (R1.later hSw))
  · refine fun _ => Facts.call4P hS hF (fun _ _ => rfl) rfl (by kernel_rfl) rfl (fun xv wv hSw hd => ?_)
    have d2 := pF_get (hd ⟨2, .data⟩ (by simp) rfl _ rfl)
    have d3 : xv 3 = _ := pF_get (hd ⟨3, .data⟩ (by simp) rfl _ rfl)
    show Calls Try.prog 13 #[xv 2, xv 3, .int .i64 1, .string ⟨#[97]⟩] wv _
    obtain ⟨va, vw, vm, ve, e2, f2⟩ := d2
    rw [e2, d3]
    have hc := do_any m1 va vw vm ve 2 1 [0, 0, 0, 0, 0, 0, 0, 0, 0, 0, 0, 0, 0] 1 (.slice none 0 0) 1 ⟨#[97]⟩ wv rfl f2 sm_m1
    rw [do_m2] at hc
    exact hc.mono fun e w' h => gives_p h
  · exact fun _ => Facts.allocP hS hF (fun _ _ => rfl) 27 rfl (fun wv hSw => hSw.size) (fun _ _ => rfl)
  · exact fun h => absurd h (by decide)
  intro xqs w5 hb5 hf
  obtain ⟨va, vw, vm, ve, e4, FM⟩ := pF_get (hf 4 _ rfl)
  obtain ⟨qm, eqs, hNs, hq⟩ := pF_get (hf 5 _ rfl)
  clear hf hS hF
  obtain ⟨sa, sb, sc, sd, se, sf, sg, sh, rfl, rfl, rfl, rfl⟩ := FM.slices
  replace e4 : xqs 4 = .agg (cvc 3 0 (.slice sa 0 sb) (.slice sc 2 sd) (.slice se 0 sf) (.slice sg 0 sh)) := e4
  replace FM : Four w5 m2 (.slice sa 0 sb) (.slice sc 2 sd) (.slice se 0 sf) (.slice sg 0 sh) := FM
  rw [S3.out] at hNs
  refine tail_store 27 _ _ rfl qm 0 eqs e4 (hq.store (cvc 3 0 (.slice sa 0 sb) (.slice sc 2 sd) (.slice se 0 sf) (.slice sg 0 sh)) size27 rfl (by simp [Value.oneCell'])) ?_
  refine Facts.tailWp_nil ?_
  simp only [eqs]
  replace R0 := (R0.later hb5).rowOther (q := qm) (by omega) (cvc 3 0 (.slice sa 0 sb) (.slice sc 2 sd) (.slice se 0 sf) (.slice sg 0 sh))
  replace R1 := (R1.later hb5).rowOther (q := qm) (by omega) (cvc 3 0 (.slice sa 0 sb) (.slice sc 2 sd) (.slice se 0 sf) (.slice sg 0 sh))
  replace R3 := (R3.later hb5).rowOther (q := qm) (by omega) (cvc 3 0 (.slice sa 0 sb) (.slice sc 2 sd) (.slice se 0 sf) (.slice sg 0 sh))
  replace hbel := below_setRow (below_on hbel hb5) (g := qm) (by omega) (cvc 3 0 (.slice sa 0 sb) (.slice sc 2 sd) (.slice se 0 sf) (.slice sg 0 sh))
  replace FM := four_row FM rfl rfl rfl hq (cvc 3 0 (.slice sa 0 sb) (.slice sc 2 sd) (.slice se 0 sf) (.slice sg 0 sh))
  have RM := hq.row (cvc 3 0 (.slice sa 0 sb) (.slice sc 2 sd) (.slice se 0 sf) (.slice sg 0 sh))
  have hqm : qm < w5.heap.size := hq.lt
  have hs6 : (w5.setRow qm (cvc 3 0 (.slice sa 0 sb) (.slice sc 2 sd) (.slice se 0 sf) (.slice sg 0 sh))).heap.size = w5.heap.size := by simp [World.setRow]
  rw [← hs6] at hqm
  clear hb5 hq hs6
  generalize w5.setRow qm (cvc 3 0 (.slice sa 0 sb) (.slice sc 2 sd) (.slice se 0 sf) (.slice sg 0 sh)) = w6 at R0 R1 R3 hbel FM RM hqm ⊢
  go_wp2_with fail
  have hS : Calm.Stays (fun w' => Below w6.heap.size w6 w') := fun wa wb h hb => below_on h hb
  have hF : Facts.Stay [pF 0 (eqP (CV 2 0 (.slice none 0 0) (.slice none 0 0) (.slice none 0 0) (.slice none 0 0))), pF 1 (eqP (.agg (txc 1 1 [0, 0, 0, 0, 0, 0, 0, 0, 0, 0, 0, 0, 0] 2 (.slice none 0 0)).toArray)), pF 2 (cP l1), pF 3 (eqP (.agg (txc 2 1 [0, 0, 0, 0, 0, 0, 0, 0, 0, 0, 0, 0, 0] 1 (.slice none 0 0)).toArray)), pF 4 (cP l2), pF 5 (boxP w6.heap.size 27 (cvc 0 0 (.slice none 0 0) (.slice none 0 0) (.slice none 0 0) (.slice none 0 0)))] := stay_of (by simp only [List.forall_mem_cons]; exact ⟨⟨_, _, rfl, eqP_keeps _⟩, ⟨_, _, rfl, eqP_keeps _⟩, ⟨_, _, rfl, cP_keeps _⟩, ⟨_, _, rfl, eqP_keeps _⟩, ⟨_, _, rfl, cP_keeps _⟩, ⟨_, _, rfl, boxP_keeps _ _ _⟩, fun _ h => by cases h⟩)
  refine Facts.regionTail (by kernel_rfl) (by kernel_rfl) 6 (by decide) (by kernel_rfl) (fun w' => Below w6.heap.size w6 w') (fun xv => { tmps := #[Value.bool false, Value.pointer (some { block := w.heap.size, off := 0 }), Value.pointer (some { block := w.heap.size + 1, off := 0 }), Value.pointer (some { block := w.heap.size + 2, off := 0 }), Value.pointer (some { block := qm, off := 0 }), xv 5, Value.agg #[Value.int IntKind.i64 1, Value.int IntKind.i64 1], Value.agg #[Value.int IntKind.i64 1, Value.int IntKind.i64 1, Value.int IntKind.i64 0, Value.int IntKind.i64 0, Value.int IntKind.i64 0, Value.int IntKind.i64 0, Value.int IntKind.i64 0, Value.int IntKind.i64 0, Value.int IntKind.i64 0, Value.int IntKind.i64 0, Value.int IntKind.i64 0, Value.int IntKind.i64 0, Value.int IntKind.i64 0, Value.int IntKind.i64 0, Value.int IntKind.i64 0, Value.int IntKind.i64 2, Value.slice none 0 0], Value.agg #[Value.int IntKind.i64 2, Value.int IntKind.i64 1], Value.agg #[Value.int IntKind.i64 2, Value.int IntKind.i64 1, Value.int IntKind.i64 0, Value.int IntKind.i64 0, Value.int IntKind.i64 0, Value.int IntKind.i64 0, Value.int IntKind.i64 0, Value.int IntKind.i64 0, Value.int IntKind.i64 0, Value.int IntKind.i64 0, Value.int IntKind.i64 0, Value.int IntKind.i64 0, Value.int IntKind.i64 0, Value.int IntKind.i64 0, Value.int IntKind.i64 0, Value.int IntKind.i64 1, Value.slice none 0 0], Value.agg #[Value.int IntKind.i64 3, Value.int IntKind.i64 1], Value.agg #[Value.int IntKind.i64 3, Value.int IntKind.i64 1, Value.int IntKind.i64 0, Value.int IntKind.i64 0, Value.int IntKind.i64 0, Value.int IntKind.i64 0, Value.int IntKind.i64 0, Value.int IntKind.i64 0, Value.int IntKind.i64 0, Value.int IntKind.i64 0, Value.int IntKind.i64 0, Value.int IntKind.i64 0, Value.int IntKind.i64 0, Value.int IntKind.i64 0, Value.int IntKind.i64 0, Value.int IntKind.i64 3, Value.slice none 0 0], Value.pointer (some { block := w.heap.size + 2, off := 2 }), Value.pointer (some { block := w.heap.size + 2, off := 3 }), xqs 0, xqs 1, xqs 2, xqs 3, xqs 4, xv 0, xv 1, xv 2, xv 3, xv 4, undef, undef, undef, undef, undef, undef, undef, undef, undef, undef, undef, undef, undef, undef, undef, undef, undef, undef, undef, undef, undef, undef, undef, undef, undef, undef, undef, undef, undef, undef, undef, undef, undef, undef], defers := [] }) [pF 0 (eqP (CV 2 0 (.slice none 0 0) (.slice none 0 0) (.slice none 0 0) (.slice none 0 0))), pF 1 (eqP (.agg (txc 1 1 [0, 0, 0, 0, 0, 0, 0, 0, 0, 0, 0, 0, 0] 2 (.slice none 0 0)).toArray)), pF 2 (cP l1), pF 3 (eqP (.agg (txc 2 1 [0, 0, 0, 0, 0, 0, 0, 0, 0, 0, 0, 0, 0] 1 (.slice none 0 0)).toArray)), pF 4 (cP l2), pF 5 (boxP w6.heap.size 27 (cvc 0 0 (.slice none 0 0) (.slice none 0 0) (.slice none 0 0) (.slice none 0 0)))] _ rfl rfl (by kernel_rfl) (fun j => [undef, undef, undef, undef, undef, undef].getD j undef) rfl (Below.refl _ w6).drew ⟨?_, ?_, ?_, ?_, ?_, ?_, ?_, trivial⟩ ?_
  · exact fun _ => Facts.pureP hS hF (fun _ _ => rfl) rfl (fun xv wv hSw hd => by
      go_simp)
  · exact fun _ => Facts.loadP hS hF (fun _ _ => rfl) 34 Try.underlying34 rfl zt1 _ rfl rfl (fun xv wv hSw hd => by rfl) (fun wv hSw => Rw.whole (R0.later hSw))
  · refine fun _ => Facts.call4P hS hF (fun _ _ => rfl) rfl (by kernel_rfl) rfl (fun xv wv hSw hd => ?_)
    have d0 : xv 0 = _ := pF_get (hd ⟨0, .data⟩ (by simp) rfl _ rfl)
    have d1 : xv 1 = _ := pF_get (hd ⟨1, .data⟩ (by simp) rfl _ rfl)
    show Calls Try.prog 13 #[xv 0, xv 1, .int .i64 1, .string ⟨#[98]⟩] wv _
    rw [d0, d1]
    have hc := do_any l0 (.slice none 0 0) (.slice none 0 0) (.slice none 0 0) (.slice none 0 0) 1 1 [0, 0, 0, 0, 0, 0, 0, 0, 0, 0, 0, 0, 0] 2 (.slice none 0 0) 1 ⟨#[98]⟩ wv rfl (four_nil _ _ _) sm_l0
    rw [do_l1] at hc
    exact hc.mono fun e w' h => gives_p h
  · exact fun _ => Facts.loadP hS hF (fun _ _ => rfl) 34 Try.underlying34 rfl zt2 _ rfl rfl (fun xv wv hSw hd => by rfl) (fun wv hSw => Rw.whole (R1.later hSw))
  · refine fun _ => Facts.call4P hS hF (fun _ _ => rfl) rfl (by kernel_rfl) rfl (fun xv wv hSw hd => ?_)
    have d2 := pF_get (hd ⟨2, .data⟩ (by simp) rfl _ rfl)
    have d3 : xv 3 = _ := pF_get (hd ⟨3, .data⟩ (by simp) rfl _ rfl)
    show Calls Try.prog 13 #[xv 2, xv 3, .int .i64 1, .string ⟨#[97]⟩] wv _
    obtain ⟨va, vw, vm, ve, e2, f2⟩ := d2
    rw [e2, d3]
    have hc := do_any l1 va vw vm ve 2 1 [0, 0, 0, 0, 0, 0, 0, 0, 0, 0, 0, 0, 0] 1 (.slice none 0 0) 1 ⟨#[97]⟩ wv rfl f2 sm_l1
    rw [do_l2] at hc
    exact hc.mono fun e w' h => gives_p h
  · exact fun _ => Facts.allocP hS hF (fun _ _ => rfl) 27 rfl (fun wv hSw => hSw.size) (fun _ _ => rfl)
  · exact fun h => absurd h (by decide)
  intro xqr w7 hb5 hf
  obtain ⟨va, vw, vm, ve, e4, FL⟩ := pF_get (hf 4 _ rfl)
  obtain ⟨ql, eqr, hNr, hq⟩ := pF_get (hf 5 _ rfl)
  clear hf hS hF
  obtain ⟨ra, rb, rc, rd, re, rf, rg, rh, rfl, rfl, rfl, rfl⟩ := FL.slices
  replace e4 : xqr 4 = .agg (cvc 2 0 (.slice ra 0 rb) (.slice rc 2 rd) (.slice re 0 rf) (.slice rg 0 rh)) := e4
  replace FL : Four w7 l2 (.slice ra 0 rb) (.slice rc 2 rd) (.slice re 0 rf) (.slice rg 0 rh) := FL
  refine tail_store 27 _ _ rfl ql 0 eqr e4 (hq.store (cvc 2 0 (.slice ra 0 rb) (.slice rc 2 rd) (.slice re 0 rf) (.slice rg 0 rh)) size27 rfl (by simp [Value.oneCell'])) ?_
  refine Facts.tailWp_nil ?_
  simp only [eqr]
  have hw6 := hbel.size
  replace R0 := (R0.later hb5).rowOther (q := ql) (by omega) (cvc 2 0 (.slice ra 0 rb) (.slice rc 2 rd) (.slice re 0 rf) (.slice rg 0 rh))
  replace R1 := (R1.later hb5).rowOther (q := ql) (by omega) (cvc 2 0 (.slice ra 0 rb) (.slice rc 2 rd) (.slice re 0 rf) (.slice rg 0 rh))
  replace R3 := (R3.later hb5).rowOther (q := ql) (by omega) (cvc 2 0 (.slice ra 0 rb) (.slice rc 2 rd) (.slice re 0 rf) (.slice rg 0 rh))
  replace RM := (RM.later hb5).rowOther (q := ql) (by omega) (cvc 2 0 (.slice ra 0 rb) (.slice rc 2 rd) (.slice re 0 rf) (.slice rg 0 rh))
  replace FM := four_row (FM.later hb5) rfl rfl rfl hq (cvc 2 0 (.slice ra 0 rb) (.slice rc 2 rd) (.slice re 0 rf) (.slice rg 0 rh))
  replace hbel := below_setRow (below_on hbel hb5) (g := ql) (by have := hbel.size; omega) (cvc 2 0 (.slice ra 0 rb) (.slice rc 2 rd) (.slice re 0 rf) (.slice rg 0 rh))
  replace FL := four_row FL rfl rfl rfl hq (cvc 2 0 (.slice ra 0 rb) (.slice rc 2 rd) (.slice re 0 rf) (.slice rg 0 rh))
  have RL := hq.row (cvc 2 0 (.slice ra 0 rb) (.slice rc 2 rd) (.slice re 0 rf) (.slice rg 0 rh))
  clear hb5 hq
  generalize w7.setRow ql (cvc 2 0 (.slice ra 0 rb) (.slice rc 2 rd) (.slice re 0 rf) (.slice rg 0 rh)) = w8 at R0 R1 R3 hbel FM RM FL RL ⊢
  go_wp2_with (first | refine load_r 27 _ rfl rfl _ rfl RM Try.underlying27 rfl size27 ?_)
  refine (read_m2 FM).mono ?_
  rintro e v1 ⟨u, rfl, hth, hb1⟩
  obtain ⟨pu, cu, rfl⟩ := hth.slice
  replace R0 := R0.later hb1
  replace R1 := R1.later hb1
  replace R3 := R3.later hb1
  replace RM := RM.later hb1
  replace RL := RL.later hb1
  replace FM := FM.later hb1
  replace FL := FL.later hb1
  replace hbel := below_on hbel hb1
  clear hb1
  have fe := field46_2 3 pu 2 cu v1
  have hla := thas_lit v1 [[97], [98]] (by decide)
  have hba := bel_alloc (Below.refl v1.heap.size v1) (.cells (([[97], [98]] : List Bs).map encStr).toArray 9)
  have C := refTexts_any _ _ _ _ (hth.later hba) hla
  go_wp2_with fail
  refine C.mono ?_
  clear C fe hla
  rintro e u1 ⟨rfl, hb2⟩
  have hb1 := below_on hba hb2
  replace R0 := R0.later hb1
  replace R1 := R1.later hb1
  replace R3 := R3.later hb1
  replace RM := RM.later hb1
  replace RL := RL.later hb1
  replace FM := FM.later hb1
  replace FL := FL.later hb1
  replace hbel := below_on hbel hb1
  clear hb1 hba hb2 hth
  go_wp2_with (first | refine load_r 27 _ rfl rfl _ rfl RL Try.underlying27 rfl size27 ?_)
  refine (read_l2 FL).mono ?_
  rintro e v2 ⟨u, rfl, hth, hb1⟩
  obtain ⟨pu, cu, rfl⟩ := hth.slice
  replace R0 := R0.later hb1
  replace R1 := R1.later hb1
  replace R3 := R3.later hb1
  replace RM := RM.later hb1
  replace RL := RL.later hb1
  replace FM := FM.later hb1
  replace FL := FL.later hb1
  replace hbel := below_on hbel hb1
  clear hb1
  have fe := field46_2 2 pu 1 cu v2
  have hla := thas_lit v2 [[98]] (by decide)
  have hba := bel_alloc (Below.refl v2.heap.size v2) (.cells (([[98]] : List Bs).map encStr).toArray 9)
  have C := refTexts_any _ _ _ _ (hth.later hba) hla
  go_wp2_with fail
  refine C.mono ?_
  clear C fe hla
  rintro e u2 ⟨rfl, hb2⟩
  have hb1 := below_on hba hb2
  replace R0 := R0.later hb1
  replace R1 := R1.later hb1
  replace R3 := R3.later hb1
  replace RM := RM.later hb1
  replace RL := RL.later hb1
  replace FM := FM.later hb1
  replace FL := FL.later hb1
  replace hbel := below_on hbel hb1
  clear hb1 hba hb2 hth
  go_wp2_with (first | refine load_r 27 _ rfl rfl _ rfl RM Try.underlying27 rfl size27 ?_ | refine load_r 34 _ rfl rfl _ rfl R3 Try.underlying34 rfl size34 ?_)
  have hc := do_any m2 _ _ _ _ 3 1 [0, 1, 0, 0, 0, 0, 0, 0, 0, 0, 0, 0, 0] 3 (.slice none 0 0) 1 ⟨#[99]⟩ u2 rfl FM sm_m2
  rw [do_m3] at hc
  refine hc.mono ?_
  clear hc
  rintro e w9 ⟨va, vw, vm, ve, rfl, FX, hb1⟩
  replace R0 := R0.later hb1
  replace R1 := R1.later hb1
  replace R3 := R3.later hb1
  replace RM := RM.later hb1
  replace RL := RL.later hb1
  replace FM := FM.later hb1
  replace FL := FL.later hb1
  replace hbel := below_on hbel hb1
  clear hb1
  go_wp2_with fail
  refine (read_m3 FX).mono ?_
  rintro e v3 ⟨u, rfl, hth, hb1⟩
  obtain ⟨pu, cu, rfl⟩ := hth.slice
  replace R0 := R0.later hb1
  replace R1 := R1.later hb1
  replace R3 := R3.later hb1
  replace RM := RM.later hb1
  replace RL := RL.later hb1
  replace FM := FM.later hb1
  replace FL := FL.later hb1
  replace hbel := below_on hbel hb1
  clear hb1
  have fe := field46_2 3 pu 2 cu v3
  have hla := thas_lit v3 [[97], [99]] (by decide)
  have hba := bel_alloc (Below.refl v3.heap.size v3) (.cells (([[97], [99]] : List Bs).map encStr).toArray 9)
  have C := refTexts_any _ _ _ _ (hth.later hba) hla
  go_wp2_with fail
  refine C.mono ?_
  clear C fe hla
  rintro e u3 ⟨rfl, hb2⟩
  have hb1 := below_on hba hb2
  replace R0 := R0.later hb1
  replace R1 := R1.later hb1
  replace R3 := R3.later hb1
  replace RM := RM.later hb1
  replace RL := RL.later hb1
  replace FM := FM.later hb1
  replace FL := FL.later hb1
  replace hbel := below_on hbel hb1
  clear hb1 hba hb2 hth
  clear FX
  go_wp2_with (first | refine load_r 27 _ rfl rfl _ rfl RL Try.underlying27 rfl size27 ?_ | refine load_r 34 _ rfl rfl _ rfl R3 Try.underlying34 rfl size34 ?_)
  have hc := clear_any l2 _ _ _ _ 3 1 [0, 1, 0, 0, 0, 0, 0, 0, 0, 0, 0, 0, 0] 3 (.slice none 0 0) 1 u3 rfl FL sm_l2
  rw [cl_l3] at hc
  refine hc.mono ?_
  clear hc
  rintro e w9 ⟨va, vw, vm, ve, rfl, FX, hb1⟩
  replace R0 := R0.later hb1
  replace R1 := R1.later hb1
  replace R3 := R3.later hb1
  replace RM := RM.later hb1
  replace RL := RL.later hb1
  replace FM := FM.later hb1
  replace FL := FL.later hb1
  replace hbel := below_on hbel hb1
  clear hb1
  go_wp2_with fail
  refine (read_l3 FX).mono ?_
  rintro e v4 ⟨u, rfl, hth, hb1⟩
  obtain ⟨pu, cu, rfl⟩ := hth.slice
  replace R0 := R0.later hb1
  replace R1 := R1.later hb1
  replace R3 := R3.later hb1
  replace RM := RM.later hb1
  replace RL := RL.later hb1
  replace FM := FM.later hb1
  replace FL := FL.later hb1
  replace hbel := below_on hbel hb1
  clear hb1
  have fe := field46_2 2 pu 1 cu v4
  have hla := thas_lit v4 [[97]] (by decide)
  have hba := bel_alloc (Below.refl v4.heap.size v4) (.cells (([[97]] : List Bs).map encStr).toArray 9)
  have C := refTexts_any _ _ _ _ (hth.later hba) hla
  go_wp2_with fail
  refine C.mono ?_
  clear C fe hla
  rintro e u4 ⟨rfl, hb2⟩
  have hb1 := below_on hba hb2
  replace R0 := R0.later hb1
  replace R1 := R1.later hb1
  replace R3 := R3.later hb1
  replace RM := RM.later hb1
  replace RL := RL.later hb1
  replace FM := FM.later hb1
  replace FL := FL.later hb1
  replace hbel := below_on hbel hb1
  clear hb1 hba hb2 hth
  clear FX
  go_wp2_with (first | refine load_r 27 _ rfl rfl _ rfl RM Try.underlying27 rfl size27 ?_)
  have hc := check_any m2 _ _ _ _ u4 FM sm_m2
  rw [show ck m2 = true by decide +kernel] at hc
  refine hc.mono ?_
  clear hc
  rintro e w9 ⟨rfl, hb1⟩
  replace hbel := below_on hbel hb1
  go_wp2_with fail
  go_ret
  exact ⟨rfl, hbel⟩
end Go.Proofs.Ytknpnjhedfdggaa
