/- heads: what must come at any rate. -/
import Derived.Test.YtfjpjodaaofgbaaVal
namespace Go.Proofs.Ytfjpjodaaofgbaa
open Go.RowKit

def hA : A := ⟨1, 1, 1, 3⟩
def hB : A := ⟨2, 1, 1, 4⟩
def hX0 : X := ⟨1, 0, [], [], [], []⟩
def hX1 : X := ⟨1, 0, [hA], [], [], []⟩
def hX2 : X := ⟨1, 0, [hA, hB], [], [], []⟩
def hXf : X := ⟨1, 3, [hB], [], [], []⟩
def hXc : X := ⟨1, 0, [hB], [], [], []⟩
theorem ckX0 : ck hX0 = true := by decide +kernel
theorem ckX1 : ck hX1 = true := by decide +kernel
theorem ckX2 : ck hX2 = true := by decide +kernel
theorem ckXf : ck hXf = true := by decide +kernel
theorem ckXc : ck hXc = true := by decide +kernel
theorem do1 : doX hX0 ⟨1, 1, 1, 3⟩ = hX1 := by
  unfold doX
  rw [if_pos (by decide +kernel)]
  rfl
theorem do2 : doX hX1 ⟨2, 1, 1, 4⟩ = hX2 := by
  unfold doX
  rw [if_pos (by decide +kernel)]
  rfl
theorem do3 : doX hX2 ⟨1, 1, 1, 9⟩ = hX2 := by
  unfold doX
  rw [if_neg (by decide +kernel)]
theorem fo1 : foX hX2 [0, 1, 0, 0, 0, 0, 0, 0, 0, 0, 0, 0, 0] = hXf := by
  unfold foX
  rw [if_pos (by decide +kernel)]
  rfl
theorem cl1 : clX hX2 3 1 [0, 1, 0, 0, 0, 0, 0, 0, 0, 0, 0, 0, 0] 1 = hXc := by
  unfold clX
  rw [if_pos ckX2]
  rfl
theorem smX0 : Sm hX0 := ⟨by decide, by decide, by decide, by decide, (fun _ h => by cases h), (fun _ h => by cases h)⟩
theorem smX1 : Sm hX1 := ⟨by decide, by decide, by decide, by decide, (fun _ h => by cases h), (fun _ h => by cases h)⟩
theorem smX2 : Sm hX2 := ⟨by decide, by decide, by decide, by decide, (fun _ h => by cases h), (fun _ h => by cases h)⟩
theorem smXf : Sm hXf := ⟨by decide, by decide, by decide, by decide, (fun _ h => by cases h), (fun _ h => by cases h)⟩
theorem smXc : Sm hXc := ⟨by decide, by decide, by decide, by decide, (fun _ h => by cases h), (fun _ h => by cases h)⟩
theorem rd_ok {x : X} (h : ck x = true) : rdK x = 1 ∧ rdN x = x.b + sm x.am := by
  unfold rdK rdN
  rw [h]
  exact ⟨rfl, rfl⟩
theorem four_row {w : World} {x : X} {va vw vm ve : Value} (h : Four w x va vw vm ve) (h1 : x.wr.length = 0) (h2 : x.mb.length = 0) (h3 : x.el.length = 0) {b : Nat} {t : TypeId} {k i : Int} {pa : Option Addr} {la ca : Nat} {pw : Option Addr} {lw cw : Nat} {pm : Option Addr} {lm cm : Nat} {pe : Option Addr} {le ce : Nat} (R : Rw w b t (cvc k i (.slice pa la ca) (.slice pw lw cw) (.slice pm lm cm) (.slice pe le ce))) (cs : Array Value) : Four (w.setRow b cs) x va vw vm ve := four_zero h h1 h2 h3 (SHas.row h.a (A.flat _) (by decide) R cs)
theorem rd2 : rdK hX2 = 1 ∧ rdN hX2 = 7 := by decide +kernel
theorem rdf : rdK hXf = 1 ∧ rdN hXf = 7 := by decide +kernel
theorem rdc : rdK hXc = 1 ∧ rdN hXc = 4 := by decide +kernel
theorem read2 {va vw vm ve : Value} {w : World} (h : Four w hX2 va vw vm ve) : Calls Try.prog 13 #[CV 1 0 va vw vm ve] w (Tells (VV 1 7) w) := by
  have := read_any hX2 va vw vm ve w h smX2
  rw [rd2.1, rd2.2] at this
  exact this
theorem readf {va vw vm ve : Value} {w : World} (h : Four w hXf va vw vm ve) : Calls Try.prog 13 #[CV 1 3 va vw vm ve] w (Tells (VV 1 7) w) := by
  have := read_any hXf va vw vm ve w h smXf
  rw [rdf.1, rdf.2] at this
  exact this
theorem readc {va vw vm ve : Value} {w : World} (h : Four w hXc va vw vm ve) : Calls Try.prog 13 #[CV 1 0 va vw vm ve] w (Tells (VV 1 4) w) := by
  have := read_any hXc va vw vm ve w h smXc
  rw [rdc.1, rdc.2] at this
  exact this
theorem three_rows (w : World) (c1 : Array Value) (t1 : TypeId) (c2 : Array Value) (t2 : TypeId) (c3 : Array Value) (t3 : TypeId) : Rw (((w.alloc (.cells c1 t1)).alloc (.cells c2 t2)).alloc (.cells c3 t3)) w.heap.size t1 c1 ∧ Rw (((w.alloc (.cells c1 t1)).alloc (.cells c2 t2)).alloc (.cells c3 t3)) (w.heap.size + 1) t2 c2 ∧ Rw (((w.alloc (.cells c1 t1)).alloc (.cells c2 t2)).alloc (.cells c3 t3)) (w.heap.size + 2) t3 c3 ∧ Below w.heap.size w (((w.alloc (.cells c1 t1)).alloc (.cells c2 t2)).alloc (.cells c3 t3)) := by
  obtain ⟨r1, r2, hb⟩ := two_rows w c1 t1 c2 t2
  have r3 := rw_new ((w.alloc (.cells c1 t1)).alloc (.cells c2 t2)) t3 c3
  simp only [World.size_alloc, Nat.add_assoc, Nat.reduceAdd] at r3
  exact ⟨r1.alloc _, r2.alloc _, r3, bel_alloc hb _⟩
set_option maxHeartbeats 8000000 in
set_option maxRecDepth 100000 in
theorem heads_any (w : World) : Calls Try.prog 10 #[] w (Tells (.bool true) w) := by
  have r1 := rw_new w 34 #[.int .i64 0, .int .i64 0, .int .i64 0, .int .i64 0, .int .i64 0, .int .i64 0, .int .i64 0, .int .i64 0, .int .i64 0, .int .i64 0, .int .i64 0, .int .i64 0, .int .i64 0, .int .i64 0, .int .i64 0, .int .i64 0, .slice none 0 0]
  have b1 := bel_alloc (Below.refl w.heap.size w) (.cells #[.int .i64 0, .int .i64 0, .int .i64 0, .int .i64 0, .int .i64 0, .int .i64 0, .int .i64 0, .int .i64 0, .int .i64 0, .int .i64 0, .int .i64 0, .int .i64 0, .int .i64 0, .int .i64 0, .int .i64 0, .int .i64 0, .slice none 0 0] 34)
  have s1 : (w.alloc (.cells #[.int .i64 0, .int .i64 0, .int .i64 0, .int .i64 0, .int .i64 0, .int .i64 0, .int .i64 0, .int .i64 0, .int .i64 0, .int .i64 0, .int .i64 0, .int .i64 0, .int .i64 0, .int .i64 0, .int .i64 0, .int .i64 0, .slice none 0 0] 34)).heap.size = w.heap.size + 1 := by simp
  generalize hW1 : w.alloc (.cells #[.int .i64 0, .int .i64 0, .int .i64 0, .int .i64 0, .int .i64 0, .int .i64 0, .int .i64 0, .int .i64 0, .int .i64 0, .int .i64 0, .int .i64 0, .int .i64 0, .int .i64 0, .int .i64 0, .int .i64 0, .int .i64 0, .slice none 0 0] 34) = v1 at r1 b1 s1
  have R0 := r1.row #[.int .i64 1, .int .i64 1, .int .i64 0, .int .i64 0, .int .i64 0, .int .i64 0, .int .i64 0, .int .i64 0, .int .i64 0, .int .i64 0, .int .i64 0, .int .i64 0, .int .i64 0, .int .i64 0, .int .i64 0, .int .i64 0, .slice none 0 0]
  replace b1 := below_setRow b1 (g := w.heap.size) (by omega) #[.int .i64 1, .int .i64 1, .int .i64 0, .int .i64 0, .int .i64 0, .int .i64 0, .int .i64 0, .int .i64 0, .int .i64 0, .int .i64 0, .int .i64 0, .int .i64 0, .int .i64 0, .int .i64 0, .int .i64 0, .int .i64 0, .slice none 0 0]
  replace s1 : (v1.setRow w.heap.size #[.int .i64 1, .int .i64 1, .int .i64 0, .int .i64 0, .int .i64 0, .int .i64 0, .int .i64 0, .int .i64 0, .int .i64 0, .int .i64 0, .int .i64 0, .int .i64 0, .int .i64 0, .int .i64 0, .int .i64 0, .int .i64 0, .slice none 0 0]).heap.size = w.heap.size + 1 := by simpa [World.setRow] using s1
  generalize hU1 : v1.setRow w.heap.size #[.int .i64 1, .int .i64 1, .int .i64 0, .int .i64 0, .int .i64 0, .int .i64 0, .int .i64 0, .int .i64 0, .int .i64 0, .int .i64 0, .int .i64 0, .int .i64 0, .int .i64 0, .int .i64 0, .int .i64 0, .int .i64 0, .slice none 0 0] = u1 at R0 b1 s1
  have r2 := rw_new u1 34 #[.int .i64 0, .int .i64 0, .int .i64 0, .int .i64 0, .int .i64 0, .int .i64 0, .int .i64 0, .int .i64 0, .int .i64 0, .int .i64 0, .int .i64 0, .int .i64 0, .int .i64 0, .int .i64 0, .int .i64 0, .int .i64 0, .slice none 0 0]
  have b2 := bel_alloc b1 (.cells #[.int .i64 0, .int .i64 0, .int .i64 0, .int .i64 0, .int .i64 0, .int .i64 0, .int .i64 0, .int .i64 0, .int .i64 0, .int .i64 0, .int .i64 0, .int .i64 0, .int .i64 0, .int .i64 0, .int .i64 0, .int .i64 0, .slice none 0 0] 34)
  have s2 : (u1.alloc (.cells #[.int .i64 0, .int .i64 0, .int .i64 0, .int .i64 0, .int .i64 0, .int .i64 0, .int .i64 0, .int .i64 0, .int .i64 0, .int .i64 0, .int .i64 0, .int .i64 0, .int .i64 0, .int .i64 0, .int .i64 0, .int .i64 0, .slice none 0 0] 34)).heap.size = w.heap.size + 2 := by simp [s1]
  replace R0 := R0.alloc (.cells #[.int .i64 0, .int .i64 0, .int .i64 0, .int .i64 0, .int .i64 0, .int .i64 0, .int .i64 0, .int .i64 0, .int .i64 0, .int .i64 0, .int .i64 0, .int .i64 0, .int .i64 0, .int .i64 0, .int .i64 0, .int .i64 0, .slice none 0 0] 34)
  generalize hW2 : u1.alloc (.cells #[.int .i64 0, .int .i64 0, .int .i64 0, .int .i64 0, .int .i64 0, .int .i64 0, .int .i64 0, .int .i64 0, .int .i64 0, .int .i64 0, .int .i64 0, .int .i64 0, .int .i64 0, .int .i64 0, .int .i64 0, .int .i64 0, .slice none 0 0] 34) = v2 at r2 b2 s2 R0
  rw [s1] at r2
  have R1 := r2.row #[.int .i64 2, .int .i64 1, .int .i64 0, .int .i64 0, .int .i64 0, .int .i64 0, .int .i64 0, .int .i64 0, .int .i64 0, .int .i64 0, .int .i64 0, .int .i64 0, .int .i64 0, .int .i64 0, .int .i64 0, .int .i64 0, .slice none 0 0]
  replace R0 := R0.rowOther (q := w.heap.size + 1) (by omega) #[.int .i64 2, .int .i64 1, .int .i64 0, .int .i64 0, .int .i64 0, .int .i64 0, .int .i64 0, .int .i64 0, .int .i64 0, .int .i64 0, .int .i64 0, .int .i64 0, .int .i64 0, .int .i64 0, .int .i64 0, .int .i64 0, .slice none 0 0]
  replace b2 := below_setRow b2 (g := w.heap.size + 1) (by omega) #[.int .i64 2, .int .i64 1, .int .i64 0, .int .i64 0, .int .i64 0, .int .i64 0, .int .i64 0, .int .i64 0, .int .i64 0, .int .i64 0, .int .i64 0, .int .i64 0, .int .i64 0, .int .i64 0, .int .i64 0, .int .i64 0, .slice none 0 0]
  replace s2 : (v2.setRow (w.heap.size + 1) #[.int .i64 2, .int .i64 1, .int .i64 0, .int .i64 0, .int .i64 0, .int .i64 0, .int .i64 0, .int .i64 0, .int .i64 0, .int .i64 0, .int .i64 0, .int .i64 0, .int .i64 0, .int .i64 0, .int .i64 0, .int .i64 0, .slice none 0 0]).heap.size = w.heap.size + 2 := by simpa [World.setRow] using s2
  generalize hU2 : v2.setRow (w.heap.size + 1) #[.int .i64 2, .int .i64 1, .int .i64 0, .int .i64 0, .int .i64 0, .int .i64 0, .int .i64 0, .int .i64 0, .int .i64 0, .int .i64 0, .int .i64 0, .int .i64 0, .int .i64 0, .int .i64 0, .int .i64 0, .int .i64 0, .slice none 0 0] = u2 at R0 R1 b2 s2
  have r3 := rw_new u2 34 #[.int .i64 0, .int .i64 0, .int .i64 0, .int .i64 0, .int .i64 0, .int .i64 0, .int .i64 0, .int .i64 0, .int .i64 0, .int .i64 0, .int .i64 0, .int .i64 0, .int .i64 0, .int .i64 0, .int .i64 0, .int .i64 0, .slice none 0 0]
  have hbel := bel_alloc b2 (.cells #[.int .i64 0, .int .i64 0, .int .i64 0, .int .i64 0, .int .i64 0, .int .i64 0, .int .i64 0, .int .i64 0, .int .i64 0, .int .i64 0, .int .i64 0, .int .i64 0, .int .i64 0, .int .i64 0, .int .i64 0, .int .i64 0, .slice none 0 0] 34)
  have s3 : (u2.alloc (.cells #[.int .i64 0, .int .i64 0, .int .i64 0, .int .i64 0, .int .i64 0, .int .i64 0, .int .i64 0, .int .i64 0, .int .i64 0, .int .i64 0, .int .i64 0, .int .i64 0, .int .i64 0, .int .i64 0, .int .i64 0, .int .i64 0, .slice none 0 0] 34)).heap.size = w.heap.size + 3 := by simp [s2]
  replace R0 := R0.alloc (.cells #[.int .i64 0, .int .i64 0, .int .i64 0, .int .i64 0, .int .i64 0, .int .i64 0, .int .i64 0, .int .i64 0, .int .i64 0, .int .i64 0, .int .i64 0, .int .i64 0, .int .i64 0, .int .i64 0, .int .i64 0, .int .i64 0, .slice none 0 0] 34)
  replace R1 := R1.alloc (.cells #[.int .i64 0, .int .i64 0, .int .i64 0, .int .i64 0, .int .i64 0, .int .i64 0, .int .i64 0, .int .i64 0, .int .i64 0, .int .i64 0, .int .i64 0, .int .i64 0, .int .i64 0, .int .i64 0, .int .i64 0, .int .i64 0, .slice none 0 0] 34)
  generalize hW3 : u2.alloc (.cells #[.int .i64 0, .int .i64 0, .int .i64 0, .int .i64 0, .int .i64 0, .int .i64 0, .int .i64 0, .int .i64 0, .int .i64 0, .int .i64 0, .int .i64 0, .int .i64 0, .int .i64 0, .int .i64 0, .int .i64 0, .int .i64 0, .slice none 0 0] 34) = v3 at r3 hbel s3 R0 R1
  rw [s2] at r3
  have R3 := r3.row #[.int .i64 3, .int .i64 1, .int .i64 0, .int .i64 0, .int .i64 0, .int .i64 0, .int .i64 0, .int .i64 0, .int .i64 0, .int .i64 0, .int .i64 0, .int .i64 0, .int .i64 0, .int .i64 0, .int .i64 0, .int .i64 0, .slice none 0 0]
  replace R0 := R0.rowOther (q := w.heap.size + 2) (by omega) #[.int .i64 3, .int .i64 1, .int .i64 0, .int .i64 0, .int .i64 0, .int .i64 0, .int .i64 0, .int .i64 0, .int .i64 0, .int .i64 0, .int .i64 0, .int .i64 0, .int .i64 0, .int .i64 0, .int .i64 0, .int .i64 0, .slice none 0 0]
  replace R1 := R1.rowOther (q := w.heap.size + 2) (by omega) #[.int .i64 3, .int .i64 1, .int .i64 0, .int .i64 0, .int .i64 0, .int .i64 0, .int .i64 0, .int .i64 0, .int .i64 0, .int .i64 0, .int .i64 0, .int .i64 0, .int .i64 0, .int .i64 0, .int .i64 0, .int .i64 0, .slice none 0 0]
  replace hbel := below_setRow hbel (g := w.heap.size + 2) (by omega) #[.int .i64 3, .int .i64 1, .int .i64 0, .int .i64 0, .int .i64 0, .int .i64 0, .int .i64 0, .int .i64 0, .int .i64 0, .int .i64 0, .int .i64 0, .int .i64 0, .int .i64 0, .int .i64 0, .int .i64 0, .int .i64 0, .slice none 0 0]
  replace s3 : (v3.setRow (w.heap.size + 2) #[.int .i64 3, .int .i64 1, .int .i64 0, .int .i64 0, .int .i64 0, .int .i64 0, .int .i64 0, .int .i64 0, .int .i64 0, .int .i64 0, .int .i64 0, .int .i64 0, .int .i64 0, .int .i64 0, .int .i64 0, .int .i64 0, .slice none 0 0]).heap.size = w.heap.size + 3 := by simpa [World.setRow] using s3
  generalize hU3 : v3.setRow (w.heap.size + 2) #[.int .i64 3, .int .i64 1, .int .i64 0, .int .i64 0, .int .i64 0, .int .i64 0, .int .i64 0, .int .i64 0, .int .i64 0, .int .i64 0, .int .i64 0, .int .i64 0, .int .i64 0, .int .i64 0, .int .i64 0, .int .i64 0, .slice none 0 0] = u3 at R0 R1 R3 hbel s3
  have f3 : u3.frozen? ⟨w.heap.size + 2, 3, none⟩ = false := R3.frozen 3
  have c3 : u3.cell? ⟨w.heap.size + 2, 3, none⟩ = some (.int .i64 0) := R3.cell 3
  replace R3 : Rw (u3.setCell ⟨w.heap.size + 2, 3, none⟩ (.int .i64 1)) (w.heap.size + 2) 34 (txc 3 1 [0, 1, 0, 0, 0, 0, 0, 0, 0, 0, 0, 0, 0] 0 (.slice none 0 0)).toArray := R3.set 3 _
  replace R0 : Rw (u3.setCell ⟨w.heap.size + 2, 3, none⟩ (.int .i64 1)) w.heap.size 34 (txc 1 1 [0, 0, 0, 0, 0, 0, 0, 0, 0, 0, 0, 0, 0] 0 (.slice none 0 0)).toArray := R0.setOther (q := w.heap.size + 2) (by omega) 3 (.int .i64 1)
  replace R1 : Rw (u3.setCell ⟨w.heap.size + 2, 3, none⟩ (.int .i64 1)) (w.heap.size + 1) 34 (txc 2 1 [0, 0, 0, 0, 0, 0, 0, 0, 0, 0, 0, 0, 0] 0 (.slice none 0 0)).toArray := R1.setOther (q := w.heap.size + 2) (by omega) 3 (.int .i64 1)
  replace hbel := hbel.setCell (p := ⟨w.heap.size + 2, 3, none⟩) (show w.heap.size ≤ w.heap.size + 2 by omega) (.int .i64 1)
  replace s3 : (u3.setCell ⟨w.heap.size + 2, 3, none⟩ (.int .i64 1)).heap.size = w.heap.size + 3 := by rw [World.size_setCell]; exact s3
  generalize hU4 : u3.setCell ⟨w.heap.size + 2, 3, none⟩ (.int .i64 1) = wa at R0 R1 R3 hbel s3
  have S1 : Hid (u1.heap.size = w.heap.size + 1) := s1
  have S2 : Hid (u2.heap.size = w.heap.size + 2) := s2
  have S3 : Hid (wa.heap.size = w.heap.size + 3) := s3
  clear s3
  go_enter Try.func10, Try.ntmps10
  go_wp2_with (first | rw [hW1] | rw [hW2] | rw [hW3] | rw [hU4] | (refine store_r rfl 34 _ _ rfl w.heap.size #[.int .i64 1, .int .i64 1, .int .i64 0, .int .i64 0, .int .i64 0, .int .i64 0, .int .i64 0, .int .i64 0, .int .i64 0, .int .i64 0, .int .i64 0, .int .i64 0, .int .i64 0, .int .i64 0, .int .i64 0, .int .i64 0, .slice none 0 0] rfl rfl r1 size34 rfl (by simp [Value.oneCell']) ?_; rw [hU1]) | (refine store_r rfl 34 _ _ rfl (w.heap.size + 1) #[.int .i64 2, .int .i64 1, .int .i64 0, .int .i64 0, .int .i64 0, .int .i64 0, .int .i64 0, .int .i64 0, .int .i64 0, .int .i64 0, .int .i64 0, .int .i64 0, .int .i64 0, .int .i64 0, .int .i64 0, .int .i64 0, .slice none 0 0] rfl rfl r2 size34 rfl (by simp [Value.oneCell']) ?_; rw [hU2]) | (refine store_r rfl 34 _ _ rfl (w.heap.size + 2) #[.int .i64 3, .int .i64 1, .int .i64 0, .int .i64 0, .int .i64 0, .int .i64 0, .int .i64 0, .int .i64 0, .int .i64 0, .int .i64 0, .int .i64 0, .int .i64 0, .int .i64 0, .int .i64 0, .int .i64 0, .int .i64 0, .slice none 0 0] rfl rfl r3 size34 rfl (by simp [Value.oneCell']) ?_; rw [hU3]))
  clear hW1 hW2 hW3 hU1 hU2 hU3 hU4 r1 r2 r3 b1 b2 f3 c3 s1 s2 S1 S2
  have zt1 : (Try.prog.info? 34).map (·.size) = some (txc 1 1 [0, 0, 0, 0, 0, 0, 0, 0, 0, 0, 0, 0, 0] 0 (.slice none 0 0)).length := size34
  have zt2 : (Try.prog.info? 34).map (·.size) = some (txc 2 1 [0, 0, 0, 0, 0, 0, 0, 0, 0, 0, 0, 0, 0] 0 (.slice none 0 0)).length := size34
  have zt3 : (Try.prog.info? 34).map (·.size) = some (txc 3 1 [0, 1, 0, 0, 0, 0, 0, 0, 0, 0, 0, 0, 0] 0 (.slice none 0 0)).length := size34
  have hS : Calm.Stays (fun w' => Below wa.heap.size wa w') := fun wa wb h hb => below_on h hb
  have hF : Facts.Stay [pF 0 (eqP (CV 1 0 (.slice none 0 0) (.slice none 0 0) (.slice none 0 0) (.slice none 0 0))), pF 1 (eqP (.agg (txc 1 1 [0, 0, 0, 0, 0, 0, 0, 0, 0, 0, 0, 0, 0] 0 (.slice none 0 0)).toArray)), pF 2 (cP hX1), pF 3 (eqP (.agg (txc 2 1 [0, 0, 0, 0, 0, 0, 0, 0, 0, 0, 0, 0, 0] 0 (.slice none 0 0)).toArray)), pF 4 (cP hX2), pF 5 (boxP wa.heap.size 27 (cvc 0 0 (.slice none 0 0) (.slice none 0 0) (.slice none 0 0) (.slice none 0 0)))] := stay_of (by simp only [List.forall_mem_cons]; exact ⟨⟨_, _, rfl, eqP_keeps _⟩, ⟨_, _, rfl, eqP_keeps _⟩, ⟨_, _, rfl, cP_keeps _⟩, ⟨_, _, rfl, eqP_keeps _⟩, ⟨_, _, rfl, cP_keeps _⟩, ⟨_, _, rfl, boxP_keeps _ _ _⟩, fun _ h => by cases h⟩)
  refine Facts.regionTail (by kernel_rfl) (by kernel_rfl) 6 (by decide) (by kernel_rfl) (fun w' => Below wa.heap.size wa w') (fun xv => { tmps := #[Value.bool false, Value.pointer (some { block := w.heap.size, off := 0 }), Value.pointer (some { block := w.heap.size + 1, off := 0 }), Value.pointer (some { block := w.heap.size + 2, off := 0 }), xv 5, undef, Value.agg #[Value.int IntKind.i64 1, Value.int IntKind.i64 1], Value.agg #[Value.int IntKind.i64 1, Value.int IntKind.i64 1, Value.int IntKind.i64 0, Value.int IntKind.i64 0, Value.int IntKind.i64 0, Value.int IntKind.i64 0, Value.int IntKind.i64 0, Value.int IntKind.i64 0, Value.int IntKind.i64 0, Value.int IntKind.i64 0, Value.int IntKind.i64 0, Value.int IntKind.i64 0, Value.int IntKind.i64 0, Value.int IntKind.i64 0, Value.int IntKind.i64 0, Value.int IntKind.i64 0, Value.slice none 0 0], Value.agg #[Value.int IntKind.i64 2, Value.int IntKind.i64 1], Value.agg #[Value.int IntKind.i64 2, Value.int IntKind.i64 1, Value.int IntKind.i64 0, Value.int IntKind.i64 0, Value.int IntKind.i64 0, Value.int IntKind.i64 0, Value.int IntKind.i64 0, Value.int IntKind.i64 0, Value.int IntKind.i64 0, Value.int IntKind.i64 0, Value.int IntKind.i64 0, Value.int IntKind.i64 0, Value.int IntKind.i64 0, Value.int IntKind.i64 0, Value.int IntKind.i64 0, Value.int IntKind.i64 0, Value.slice none 0 0], Value.agg #[Value.int IntKind.i64 3, Value.int IntKind.i64 1], Value.agg #[Value.int IntKind.i64 3, Value.int IntKind.i64 1, Value.int IntKind.i64 0, Value.int IntKind.i64 0, Value.int IntKind.i64 0, Value.int IntKind.i64 0, Value.int IntKind.i64 0, Value.int IntKind.i64 0, Value.int IntKind.i64 0, Value.int IntKind.i64 0, Value.int IntKind.i64 0, Value.int IntKind.i64 0, Value.int IntKind.i64 0, Value.int IntKind.i64 0, Value.int IntKind.i64 0, Value.int IntKind.i64 0, Value.slice none 0 0], Value.pointer (some { block := w.heap.size + 2, off := 2 }), Value.pointer (some { block := w.heap.size + 2, off := 3 }), xv 0, xv 1, xv 2, xv 3, xv 4, undef, undef, undef, undef, undef, undef, undef, undef, undef, undef, undef, undef, undef, undef, undef, undef, undef, undef, undef, undef, undef, undef, undef, undef, undef, undef, undef, undef, undef, undef, undef, undef, undef, undef, undef, undef, undef, undef, undef, undef, undef, undef, undef, undef, undef, undef, undef, undef, undef, undef], defers := [] }) [pF 0 (eqP (CV 1 0 (.slice none 0 0) (.slice none 0 0) (.slice none 0 0) (.slice none 0 0))), pF 1 (eqP (.agg (txc 1 1 [0, 0, 0, 0, 0, 0, 0, 0, 0, 0, 0, 0, 0] 0 (.slice none 0 0)).toArray)), pF 2 (cP hX1), pF 3 (eqP (.agg (txc 2 1 [0, 0, 0, 0, 0, 0, 0, 0, 0, 0, 0, 0, 0] 0 (.slice none 0 0)).toArray)), pF 4 (cP hX2), pF 5 (boxP wa.heap.size 27 (cvc 0 0 (.slice none 0 0) (.slice none 0 0) (.slice none 0 0) (.slice none 0 0)))] _ rfl rfl (by kernel_rfl) (fun j => [undef, undef, undef, undef, undef, undef].getD j undef) rfl (Below.refl _ wa).drew ⟨?_, ?_, ?_, ?_, ?_, ?_, ?_, trivial⟩ ?_
  · exact fun _ => Facts.pureP hS hF (fun _ _ => rfl) rfl (fun xv wv hSw hd => by
      go_simp)
  · exact fun _ => Facts.loadP hS hF (fun _ _ => rfl) 34 Try.underlying34 rfl zt1 _ rfl rfl (fun xv wv hSw hd => by rfl) (fun wv hSw => Rw.whole (R0.later hSw))
  · refine fun _ => Facts.call4P hS hF (fun _ _ => rfl) rfl (by kernel_rfl) rfl (fun xv wv hSw hd => ?_)
    have d0 : xv 0 = _ := pF_get (hd ⟨0, .data⟩ (by simp) rfl _ rfl)
    have d1 : xv 1 = _ := pF_get (hd ⟨1, .data⟩ (by simp) rfl _ rfl)
    show Calls Try.prog 16 #[xv 0, xv 1, .int .i64 1, .int .i64 3] wv _
    rw [d0, d1]
    have hc := do_any hX0 (.slice none 0 0) (.slice none 0 0) (.slice none 0 0) (.slice none 0 0) 1 1 [0, 0, 0, 0, 0, 0, 0, 0, 0, 0, 0, 0, 0] 0 (.slice none 0 0) 1 3 wv rfl (four_of (AHas.nil _)) smX0
    rw [do1] at hc
    exact hc.mono fun e w' h => gives_p h
  · exact fun _ => Facts.loadP hS hF (fun _ _ => rfl) 34 Try.underlying34 rfl zt2 _ rfl rfl (fun xv wv hSw hd => by rfl) (fun wv hSw => Rw.whole (R1.later hSw))
  · refine fun _ => Facts.call4P hS hF (fun _ _ => rfl) rfl (by kernel_rfl) rfl (fun xv wv hSw hd => ?_)
    have d2 := pF_get (hd ⟨2, .data⟩ (by simp) rfl _ rfl)
    have d3 : xv 3 = _ := pF_get (hd ⟨3, .data⟩ (by simp) rfl _ rfl)
    show Calls Try.prog 16 #[xv 2, xv 3, .int .i64 1, .int .i64 4] wv _
    obtain ⟨va, vw, vm, ve, e2, f2⟩ := d2
    rw [e2, d3]
    have hc := do_any hX1 va vw vm ve 2 1 [0, 0, 0, 0, 0, 0, 0, 0, 0, 0, 0, 0, 0] 0 (.slice none 0 0) 1 4 wv rfl f2 smX1
    rw [do2] at hc
    exact hc.mono fun e w' h => gives_p h
  · exact fun _ => Facts.allocP hS hF (fun _ _ => rfl) 27 rfl (fun wv hSw => hSw.size) (fun _ _ => rfl)
  · exact fun h => absurd h (by decide)
  intro xq w5 hb5 hf
  obtain ⟨va, vw, vm, ve, e4, F4⟩ := pF_get (hf 4 _ rfl)
  obtain ⟨q, eq, hN, hq⟩ := pF_get (hf 5 _ rfl)
  clear hf hS hF
  obtain ⟨pa, ca, pw, cw, pm, cm, pe, ce, rfl, rfl, rfl, rfl⟩ := F4.slices
  replace e4 : xq 4 = .agg (cvc 1 0 (.slice pa 2 ca) (.slice pw 0 cw) (.slice pm 0 cm) (.slice pe 0 ce)) := e4
  replace F4 : Four w5 hX2 (.slice pa 2 ca) (.slice pw 0 cw) (.slice pm 0 cm) (.slice pe 0 ce) := F4
  rw [S3.out] at hN
  refine tail_store 27 _ _ rfl q 0 eq e4 (hq.store (cvc 1 0 (.slice pa 2 ca) (.slice pw 0 cw) (.slice pm 0 cm) (.slice pe 0 ce)) size27 rfl (by simp [Value.oneCell'])) ?_
  refine Facts.tailWp_nil ?_
  simp only [eq]
  replace R0 := (R0.later hb5).rowOther (q := q) (by omega) (cvc 1 0 (.slice pa 2 ca) (.slice pw 0 cw) (.slice pm 0 cm) (.slice pe 0 ce))
  replace R1 := (R1.later hb5).rowOther (q := q) (by omega) (cvc 1 0 (.slice pa 2 ca) (.slice pw 0 cw) (.slice pm 0 cm) (.slice pe 0 ce))
  replace R3 := (R3.later hb5).rowOther (q := q) (by omega) (cvc 1 0 (.slice pa 2 ca) (.slice pw 0 cw) (.slice pm 0 cm) (.slice pe 0 ce))
  replace hbel := below_setRow (below_on hbel hb5) (g := q) (by omega) (cvc 1 0 (.slice pa 2 ca) (.slice pw 0 cw) (.slice pm 0 cm) (.slice pe 0 ce))
  replace F4 := four_row F4 rfl rfl rfl hq (cvc 1 0 (.slice pa 2 ca) (.slice pw 0 cw) (.slice pm 0 cm) (.slice pe 0 ce))
  have Rq := hq.row (cvc 1 0 (.slice pa 2 ca) (.slice pw 0 cw) (.slice pm 0 cm) (.slice pe 0 ce))
  clear hb5 hq
  generalize w5.setRow q (cvc 1 0 (.slice pa 2 ca) (.slice pw 0 cw) (.slice pm 0 cm) (.slice pe 0 ce)) = w6 at R0 R1 R3 hbel F4 Rq ⊢
  have zv : (Try.prog.info? 31).map (·.size) = some (vals [0, 1, 0, 0, 0, 0, 0, 0, 0, 0, 0, 0, 0]).length := size31
  go_wp2_with (first | refine load_r 27 _ rfl rfl _ rfl Rq Try.underlying27 rfl size27 ?_ | refine load_m 31 _ rfl rfl _ _ rfl (tx_vec R3) Try.underlying31 rfl zv ?_)
  have hc := fold_any hX2 _ _ _ _ [0, 1, 0, 0, 0, 0, 0, 0, 0, 0, 0, 0, 0] w6 rfl F4 smX2
  rw [fo1] at hc
  replace hc : Calls Try.prog 19 _ w6 (fun e w' => ∃ va vw vm ve, e = .returned (CV 1 3 va vw vm ve) ∧ Four w' hXf va vw vm ve ∧ Below w6.heap.size w6 w') := hc
  refine hc.mono ?_
  clear hc
  rintro e w7 ⟨va, vw, vm, ve, rfl, Ff, hb1⟩
  obtain ⟨qa, da, qw, dw, qm, dm, qe, de, rfl, rfl, rfl, rfl⟩ := (show ∃ pa ca pw cw pm cm pe ce, va = .slice pa 1 ca ∧ vw = .slice pw 0 cw ∧ vm = .slice pm 0 cm ∧ ve = .slice pe 0 ce from Ff.slices)
  replace Ff : Four w7 hXf (.slice qa 1 da) (.slice qw 0 dw) (.slice qm 0 dm) (.slice qe 0 de) := Ff
  replace R0 := R0.later hb1
  replace R1 := R1.later hb1
  replace R3 := R3.later hb1
  replace Rq := Rq.later hb1
  replace F4 := F4.later hb1
  replace hbel := below_on hbel hb1
  clear hb1
  have hba := bel_alloc (Below.refl w7.heap.size w7) (.cells (cvc 1 3 (.slice qa 1 da) (.slice qw 0 dw) (.slice qm 0 dm) (.slice qe 0 de)) 27)
  have Rp := rw_new w7 27 (cvc 1 3 (.slice qa 1 da) (.slice qw 0 dw) (.slice qm 0 dm) (.slice qe 0 de))
  generalize hW : w7.alloc (.cells (cvc 1 3 (.slice qa 1 da) (.slice qw 0 dw) (.slice qm 0 dm) (.slice qe 0 de)) 27) = w8 at hba Rp
  go_wp2_with (first | rw [hW])
  clear hW
  replace R0 := R0.later hba
  replace R1 := R1.later hba
  replace R3 := R3.later hba
  replace Rq := Rq.later hba
  replace F4 := F4.later hba
  replace Ff := Ff.later hba
  replace hbel := below_on hbel hba
  clear hba R1
  generalize w7.heap.size = p at Rp ⊢
  have z27a : (Try.prog.info? 27).map (·.size) = some ([Value.int .i64 1, .int .i64 0, .slice pa 2 ca, .slice pw 0 cw, .slice pm 0 cm, .slice pe 0 ce] : List Value).length := size27
  have z27b : (Try.prog.info? 27).map (·.size) = some ([Value.int .i64 1, .int .i64 3, .slice qa 1 da, .slice qw 0 dw, .slice qm 0 dm, .slice qe 0 de] : List Value).length := size27
  have hS : Calm.Stays (fun w' => Below w8.heap.size w8 w') := fun wa wb h hb => below_on h hb
  have hF : Facts.Stay [pF 0 (eqP (.agg ([Value.int .i64 1, .int .i64 0, .slice pa 2 ca, .slice pw 0 cw, .slice pm 0 cm, .slice pe 0 ce] : List Value).toArray)), pF 1 (eqP (VV 1 7)), pF 2 (eqP (.int .i64 7)), pF 3 (eqP (.bool true)), pF 4 (eqP (.bool true)), pF 5 (eqP (.agg ([Value.int .i64 1, .int .i64 0, .slice pa 2 ca, .slice pw 0 cw, .slice pm 0 cm, .slice pe 0 ce] : List Value).toArray)), pF 6 (eqP (VV 1 7)), pF 7 (eqP (.int .i64 1)), pF 8 (eqP (.bool true)), pF 9 (eqP (.bool true)), pF 10 (eqP (.bool true)), pF 11 (eqP (.agg ([Value.int .i64 1, .int .i64 0, .slice pa 2 ca, .slice pw 0 cw, .slice pm 0 cm, .slice pe 0 ce] : List Value).toArray)), pF 12 (eqP (.agg (txc 3 1 [0, 1, 0, 0, 0, 0, 0, 0, 0, 0, 0, 0, 0] 0 (.slice none 0 0)).toArray)), pF 13 (cP hXc), pF 14 (eqP (VV 1 4)), pF 15 (eqP (.int .i64 4)), pF 16 (eqP (.bool true)), pF 17 (eqP (.bool true)), pF 18 (eqP (.bool true)), pF 19 (eqP (.agg ([Value.int .i64 1, .int .i64 3, .slice qa 1 da, .slice qw 0 dw, .slice qm 0 dm, .slice qe 0 de] : List Value).toArray)), pF 20 (eqP (VV 1 7)), pF 21 (eqP (.int .i64 7)), pF 22 (eqP (.bool true)), pF 23 (eqP (.bool true)), pF 24 (eqP (.bool true)), pF 25 (eqP (.pointer (some ⟨p, 2, none⟩))), pF 26 (eqP (.slice qa 1 da)), pF 27 (eqP (.int .i64 1)), pF 28 (eqP (.bool true)), pF 29 (eqP (.bool true)), pF 30 (eqP (.bool true)), pF 31 (eqP (.pointer (some ⟨p, 1, none⟩))), pF 32 (eqP (.int .i64 3)), pF 33 (eqP (.bool true)), pF 34 (eqP (.bool true)), pF 35 (eqP (.bool true)), pF 36 (eqP (.agg ([Value.int .i64 1, .int .i64 3, .slice qa 1 da, .slice qw 0 dw, .slice qm 0 dm, .slice qe 0 de] : List Value).toArray)), pF 37 (eqP (.bool true)), pF 38 (eqP (.bool true)), pF 39 (eqP (.bool true)), pF 40 (eqP (.agg ([Value.int .i64 1, .int .i64 0, .slice pa 2 ca, .slice pw 0 cw, .slice pm 0 cm, .slice pe 0 ce] : List Value).toArray)), pF 41 (eqP (.agg (txc 1 1 [0, 0, 0, 0, 0, 0, 0, 0, 0, 0, 0, 0, 0] 0 (.slice none 0 0)).toArray)), pF 42 (cP hX2), pF 43 (eqP (.agg ([Value.int .i64 1, .int .i64 0, .slice pa 2 ca, .slice pw 0 cw, .slice pm 0 cm, .slice pe 0 ce] : List Value).toArray)), pF 44 (eqP (.bool true)), pF 45 (eqP (.bool true)), pF 46 (eqP (.bool true))] := stay_of (by simp only [List.forall_mem_cons]; exact ⟨⟨_, _, rfl, eqP_keeps _⟩, ⟨_, _, rfl, eqP_keeps _⟩, ⟨_, _, rfl, eqP_keeps _⟩, ⟨_, _, rfl, eqP_keeps _⟩, ⟨_, _, rfl, eqP_keeps _⟩, ⟨_, _, rfl, eqP_keeps _⟩, ⟨_, _, rfl, eqP_keeps _⟩, ⟨_, _, rfl, eqP_keeps _⟩, ⟨_, _, rfl, eqP_keeps _⟩, ⟨_, _, rfl, eqP_keeps _⟩, ⟨_, _, rfl, eqP_keeps _⟩, ⟨_, _, rfl, eqP_keeps _⟩, ⟨_, _, rfl, eqP_keeps _⟩, ⟨_, _, rfl, cP_keeps _⟩, ⟨_, _, rfl, eqP_keeps _⟩, ⟨_, _, rfl, eqP_keeps _⟩, ⟨_, _, rfl, eqP_keeps _⟩, ⟨_, _, rfl, eqP_keeps _⟩, ⟨_, _, rfl, eqP_keeps _⟩, ⟨_, _, rfl, eqP_keeps _⟩, ⟨_, _, rfl, eqP_keeps _⟩, ⟨_, _, rfl, eqP_keeps _⟩, ⟨_, _, rfl, eqP_keeps _⟩, ⟨_, _, rfl, eqP_keeps _⟩, ⟨_, _, rfl, eqP_keeps _⟩, ⟨_, _, rfl, eqP_keeps _⟩, ⟨_, _, rfl, eqP_keeps _⟩, ⟨_, _, rfl, eqP_keeps _⟩, ⟨_, _, rfl, eqP_keeps _⟩, ⟨_, _, rfl, eqP_keeps _⟩, ⟨_, _, rfl, eqP_keeps _⟩, ⟨_, _, rfl, eqP_keeps _⟩, ⟨_, _, rfl, eqP_keeps _⟩, ⟨_, _, rfl, eqP_keeps _⟩, ⟨_, _, rfl, eqP_keeps _⟩, ⟨_, _, rfl, eqP_keeps _⟩, ⟨_, _, rfl, eqP_keeps _⟩, ⟨_, _, rfl, eqP_keeps _⟩, ⟨_, _, rfl, eqP_keeps _⟩, ⟨_, _, rfl, eqP_keeps _⟩, ⟨_, _, rfl, eqP_keeps _⟩, ⟨_, _, rfl, eqP_keeps _⟩, ⟨_, _, rfl, cP_keeps _⟩, ⟨_, _, rfl, eqP_keeps _⟩, ⟨_, _, rfl, eqP_keeps _⟩, ⟨_, _, rfl, eqP_keeps _⟩, ⟨_, _, rfl, eqP_keeps _⟩, fun _ h => by cases h⟩)
  refine FactsG.region (by kernel_rfl) (by kernel_rfl) (fun w' => Below w8.heap.size w8 w') (fun xv => { tmps := #[xv 46, Value.pointer (some { block := w.heap.size, off := 0 }), Value.pointer (some { block := w.heap.size + 1, off := 0 }), Value.pointer (some { block := w.heap.size + 2, off := 0 }), Value.pointer (some { block := q, off := 0 }), Value.pointer (some { block := p, off := 0 }), Value.agg #[Value.int IntKind.i64 1, Value.int IntKind.i64 1], Value.agg #[Value.int IntKind.i64 1, Value.int IntKind.i64 1, Value.int IntKind.i64 0, Value.int IntKind.i64 0, Value.int IntKind.i64 0, Value.int IntKind.i64 0, Value.int IntKind.i64 0, Value.int IntKind.i64 0, Value.int IntKind.i64 0, Value.int IntKind.i64 0, Value.int IntKind.i64 0, Value.int IntKind.i64 0, Value.int IntKind.i64 0, Value.int IntKind.i64 0, Value.int IntKind.i64 0, Value.int IntKind.i64 0, Value.slice none 0 0], Value.agg #[Value.int IntKind.i64 2, Value.int IntKind.i64 1], Value.agg #[Value.int IntKind.i64 2, Value.int IntKind.i64 1, Value.int IntKind.i64 0, Value.int IntKind.i64 0, Value.int IntKind.i64 0, Value.int IntKind.i64 0, Value.int IntKind.i64 0, Value.int IntKind.i64 0, Value.int IntKind.i64 0, Value.int IntKind.i64 0, Value.int IntKind.i64 0, Value.int IntKind.i64 0, Value.int IntKind.i64 0, Value.int IntKind.i64 0, Value.int IntKind.i64 0, Value.int IntKind.i64 0, Value.slice none 0 0], Value.agg #[Value.int IntKind.i64 3, Value.int IntKind.i64 1], Value.agg #[Value.int IntKind.i64 3, Value.int IntKind.i64 1, Value.int IntKind.i64 0, Value.int IntKind.i64 0, Value.int IntKind.i64 0, Value.int IntKind.i64 0, Value.int IntKind.i64 0, Value.int IntKind.i64 0, Value.int IntKind.i64 0, Value.int IntKind.i64 0, Value.int IntKind.i64 0, Value.int IntKind.i64 0, Value.int IntKind.i64 0, Value.int IntKind.i64 0, Value.int IntKind.i64 0, Value.int IntKind.i64 0, Value.slice none 0 0], Value.pointer (some { block := w.heap.size + 2, off := 2 }), Value.pointer (some { block := w.heap.size + 2, off := 3 }), xq 0, xq 1, xq 2, xq 3, Value.agg (cvc 1 0 (Value.slice pa 2 ca) (Value.slice pw 0 cw) (Value.slice pm 0 cm) (Value.slice pe 0 ce)), Value.agg (cvc 1 0 (Value.slice pa 2 ca) (Value.slice pw 0 cw) (Value.slice pm 0 cm) (Value.slice pe 0 ce)), Value.pointer (some { block := w.heap.size + 2, off := 2 }), Value.agg (vals [0, 1, 0, 0, 0, 0, 0, 0, 0, 0, 0, 0, 0]).toArray, CV 1 3 (Value.slice qa 1 da) (Value.slice qw 0 dw) (Value.slice qm 0 dm) (Value.slice qe 0 de), xv 0, xv 1, xv 2, xv 3, xv 4, xv 5, xv 6, xv 7, xv 8, xv 9, xv 10, xv 11, xv 12, xv 13, xv 14, xv 15, xv 16, xv 17, xv 18, xv 19, xv 20, xv 21, xv 22, xv 23, xv 24, xv 25, xv 26, xv 27, xv 28, xv 29, xv 30, xv 31, xv 32, xv 33, xv 34, xv 35, xv 36, xv 37, xv 38, xv 39, xv 40, xv 41, xv 42, xv 43, xv 44, xv 45], defers := [] }) [pF 0 (eqP (.agg ([Value.int .i64 1, .int .i64 0, .slice pa 2 ca, .slice pw 0 cw, .slice pm 0 cm, .slice pe 0 ce] : List Value).toArray)), pF 1 (eqP (VV 1 7)), pF 2 (eqP (.int .i64 7)), pF 3 (eqP (.bool true)), pF 4 (eqP (.bool true)), pF 5 (eqP (.agg ([Value.int .i64 1, .int .i64 0, .slice pa 2 ca, .slice pw 0 cw, .slice pm 0 cm, .slice pe 0 ce] : List Value).toArray)), pF 6 (eqP (VV 1 7)), pF 7 (eqP (.int .i64 1)), pF 8 (eqP (.bool true)), pF 9 (eqP (.bool true)), pF 10 (eqP (.bool true)), pF 11 (eqP (.agg ([Value.int .i64 1, .int .i64 0, .slice pa 2 ca, .slice pw 0 cw, .slice pm 0 cm, .slice pe 0 ce] : List Value).toArray)), pF 12 (eqP (.agg (txc 3 1 [0, 1, 0, 0, 0, 0, 0, 0, 0, 0, 0, 0, 0] 0 (.slice none 0 0)).toArray)), pF 13 (cP hXc), pF 14 (eqP (VV 1 4)), pF 15 (eqP (.int .i64 4)), pF 16 (eqP (.bool true)), pF 17 (eqP (.bool true)), pF 18 (eqP (.bool true)), pF 19 (eqP (.agg ([Value.int .i64 1, .int .i64 3, .slice qa 1 da, .slice qw 0 dw, .slice qm 0 dm, .slice qe 0 de] : List Value).toArray)), pF 20 (eqP (VV 1 7)), pF 21 (eqP (.int .i64 7)), pF 22 (eqP (.bool true)), pF 23 (eqP (.bool true)), pF 24 (eqP (.bool true)), pF 25 (eqP (.pointer (some ⟨p, 2, none⟩))), pF 26 (eqP (.slice qa 1 da)), pF 27 (eqP (.int .i64 1)), pF 28 (eqP (.bool true)), pF 29 (eqP (.bool true)), pF 30 (eqP (.bool true)), pF 31 (eqP (.pointer (some ⟨p, 1, none⟩))), pF 32 (eqP (.int .i64 3)), pF 33 (eqP (.bool true)), pF 34 (eqP (.bool true)), pF 35 (eqP (.bool true)), pF 36 (eqP (.agg ([Value.int .i64 1, .int .i64 3, .slice qa 1 da, .slice qw 0 dw, .slice qm 0 dm, .slice qe 0 de] : List Value).toArray)), pF 37 (eqP (.bool true)), pF 38 (eqP (.bool true)), pF 39 (eqP (.bool true)), pF 40 (eqP (.agg ([Value.int .i64 1, .int .i64 0, .slice pa 2 ca, .slice pw 0 cw, .slice pm 0 cm, .slice pe 0 ce] : List Value).toArray)), pF 41 (eqP (.agg (txc 1 1 [0, 0, 0, 0, 0, 0, 0, 0, 0, 0, 0, 0, 0] 0 (.slice none 0 0)).toArray)), pF 42 (cP hX2), pF 43 (eqP (.agg ([Value.int .i64 1, .int .i64 0, .slice pa 2 ca, .slice pw 0 cw, .slice pm 0 cm, .slice pe 0 ce] : List Value).toArray)), pF 44 (eqP (.bool true)), pF 45 (eqP (.bool true)), pF 46 (eqP (.bool true))] (fun _ _ _ _ => True) (fun _ _ _ _ _ => trivial) _ rfl rfl (by kernel_rfl) (fun j => [undef, undef, undef, undef, undef, undef, undef, undef, undef, undef, undef, undef, undef, undef, undef, undef, undef, undef, undef, undef, undef, undef, undef, undef, undef, undef, undef, undef, undef, undef, undef, undef, undef, undef, undef, undef, undef, undef, undef, undef, undef, undef, undef, undef, undef, undef, Value.bool false].getD j undef) rfl (Below.refl _ w8).drew ⟨?_, ?_, ?_, ?_, ?_, ?_, ?_, ?_, ?_, ?_, ?_, ?_, ?_, ?_, ?_, ?_, ?_, ?_, ?_, ?_, ?_, ?_, ?_, ?_, ?_, ?_, ?_, ?_, ?_, ?_, ?_, ?_, ?_, ?_, ?_, ?_, ?_, ?_, ?_, ?_, ?_, ?_, ?_, ?_, ?_, ?_, ?_, trivial⟩ ?_
  · exact FactsG.of rfl (fun _ _ _ => trivial) (fun _ _ _ _ => rfl) (Facts.loadP hS hF (fun _ _ => rfl) 27 Try.underlying27 rfl z27a _ rfl rfl (fun xv wv hSw hd => by rfl) (fun wv hSw => Rw.whole (cs := [Value.int .i64 1, .int .i64 0, .slice pa 2 ca, .slice pw 0 cw, .slice pm 0 cm, .slice pe 0 ce]) (Rq.later hSw)))
  · refine FactsG.of rfl (fun _ _ _ => trivial) (fun _ _ _ _ => rfl) (Facts.call1P hS hF (fun _ _ => rfl) rfl (by kernel_rfl) rfl (fun xv wv hSw hd => ?_))
    have d0 : xv 0 = _ := pF_get (hd ⟨0, .data⟩ (by simp) rfl _ rfl)
    show Calls Try.prog 13 #[xv 0] wv _
    rw [d0]
    exact (read2 (F4.later hSw)).mono fun e w' h => tells_p h
  · exact FactsG.of rfl (fun _ _ _ => trivial) (fun _ _ _ _ => rfl) (Facts.pureP hS hF (fun _ _ => rfl) rfl (fun xv wv hSw hd => by
      have d1 : xv 1 = _ := pF_get (hd ⟨1, .data⟩ (by simp) rfl _ rfl)
      simp only [d1]
      unfold execOp
      simp [go_sem, Act.eval, field47_1]))
  · exact FactsG.of rfl (fun _ _ _ => trivial) (fun _ _ _ _ => rfl) (Facts.pureP hS hF (fun _ _ => rfl) rfl (fun xv wv hSw hd => by
      have d2 : xv 2 = _ := pF_get (hd ⟨2, .data⟩ (by simp) rfl _ rfl)
      simp only [d2]
      go_simp))
  · exact FactsG.of rfl (fun _ _ _ => trivial) (fun _ _ _ _ => rfl) (Facts.pureP hS hF (fun _ _ => rfl) rfl (fun xv wv hSw hd => by
      have d3 : xv 3 = _ := pF_get (hd ⟨3, .data⟩ (by simp) rfl _ rfl)
      simp only [d3]
      go_simp))
  · exact FactsG.of rfl (fun _ _ _ => trivial) (fun xv wv hSw hd => by have dg : xv 4 = _ := pF_get (hd ⟨4, .guard⟩ (by simp) rfl _ rfl); simp only [dg]; rfl) (Facts.loadP hS hF (fun _ _ => rfl) 27 Try.underlying27 rfl z27a _ rfl rfl (fun xv wv hSw hd => by rfl) (fun wv hSw => Rw.whole (cs := [Value.int .i64 1, .int .i64 0, .slice pa 2 ca, .slice pw 0 cw, .slice pm 0 cm, .slice pe 0 ce]) (Rq.later hSw)))
  · refine FactsG.of rfl (fun _ _ _ => trivial) (fun xv wv hSw hd => by have dg : xv 4 = _ := pF_get (hd ⟨4, .guard⟩ (by simp) rfl _ rfl); simp only [dg]; rfl) (Facts.call1P hS hF (fun _ _ => rfl) rfl (by kernel_rfl) rfl (fun xv wv hSw hd => ?_))
    have d5 : xv 5 = _ := pF_get (hd ⟨5, .data⟩ (by simp) rfl _ rfl)
    show Calls Try.prog 13 #[xv 5] wv _
    rw [d5]
    exact (read2 (F4.later hSw)).mono fun e w' h => tells_p h
  · exact FactsG.of rfl (fun _ _ _ => trivial) (fun xv wv hSw hd => by have dg : xv 4 = _ := pF_get (hd ⟨4, .guard⟩ (by simp) rfl _ rfl); simp only [dg]; rfl) (Facts.pureP hS hF (fun _ _ => rfl) rfl (fun xv wv hSw hd => by
      have d6 : xv 6 = _ := pF_get (hd ⟨6, .data⟩ (by simp) rfl _ rfl)
      simp only [d6]
      unfold execOp
      simp [go_sem, Act.eval, field47_0]))
  · exact FactsG.of rfl (fun _ _ _ => trivial) (fun xv wv hSw hd => by have dg : xv 4 = _ := pF_get (hd ⟨4, .guard⟩ (by simp) rfl _ rfl); simp only [dg]; rfl) (Facts.pureP hS hF (fun _ _ => rfl) rfl (fun xv wv hSw hd => by
      have d7 : xv 7 = _ := pF_get (hd ⟨7, .data⟩ (by simp) rfl _ rfl)
      simp only [d7]
      go_simp))
  · exact FactsG.of rfl (fun _ _ _ => trivial) (fun _ _ _ _ => rfl) (Facts.pureP hS hF (fun _ _ => rfl) rfl (fun xv wv hSw hd => by
      have d4 : xv 4 = _ := pF_get (hd ⟨4, .data⟩ (by simp) rfl _ rfl)
      have d8 : xv 8 = _ := pF_get (hd ⟨8, .data⟩ (by simp) rfl _ rfl)
      simp only [d4, d8]
      go_simp))
  · exact FactsG.of rfl (fun _ _ _ => trivial) (fun _ _ _ _ => rfl) (Facts.pureP hS hF (fun _ _ => rfl) rfl (fun xv wv hSw hd => by
      have d9 : xv 9 = _ := pF_get (hd ⟨9, .data⟩ (by simp) rfl _ rfl)
      simp only [d9]
      go_simp))
  · exact FactsG.of rfl (fun _ _ _ => trivial) (fun xv wv hSw hd => by have dg : xv 10 = _ := pF_get (hd ⟨10, .guard⟩ (by simp) rfl _ rfl); simp only [dg]; rfl) (Facts.loadP hS hF (fun _ _ => rfl) 27 Try.underlying27 rfl z27a _ rfl rfl (fun xv wv hSw hd => by rfl) (fun wv hSw => Rw.whole (cs := [Value.int .i64 1, .int .i64 0, .slice pa 2 ca, .slice pw 0 cw, .slice pm 0 cm, .slice pe 0 ce]) (Rq.later hSw)))
  · exact FactsG.of rfl (fun _ _ _ => trivial) (fun xv wv hSw hd => by have dg : xv 10 = _ := pF_get (hd ⟨10, .guard⟩ (by simp) rfl _ rfl); simp only [dg]; rfl) (Facts.loadP hS hF (fun _ _ => rfl) 34 Try.underlying34 rfl zt3 _ rfl rfl (fun xv wv hSw hd => by rfl) (fun wv hSw => Rw.whole (R3.later hSw)))
  · refine FactsG.of rfl (fun _ _ _ => trivial) (fun xv wv hSw hd => by have dg : xv 10 = _ := pF_get (hd ⟨10, .guard⟩ (by simp) rfl _ rfl); simp only [dg]; rfl) (Facts.call3P hS hF (fun _ _ => rfl) rfl (by kernel_rfl) rfl (fun xv wv hSw hd => ?_))
    have d11 : xv 11 = _ := pF_get (hd ⟨11, .data⟩ (by simp) rfl _ rfl)
    have d12 : xv 12 = _ := pF_get (hd ⟨12, .data⟩ (by simp) rfl _ rfl)
    show Calls Try.prog 12 #[xv 11, xv 12, .int .i64 1] wv _
    rw [d11, d12]
    have hc := clear_any hX2 _ _ _ _ 3 1 [0, 1, 0, 0, 0, 0, 0, 0, 0, 0, 0, 0, 0] 0 (.slice none 0 0) 1 wv rfl (F4.later hSw) smX2
    rw [cl1] at hc
    exact hc.mono fun e w' h => gives_p h
  · refine FactsG.of rfl (fun _ _ _ => trivial) (fun xv wv hSw hd => by have dg : xv 10 = _ := pF_get (hd ⟨10, .guard⟩ (by simp) rfl _ rfl); simp only [dg]; rfl) (Facts.call1P hS hF (fun _ _ => rfl) rfl (by kernel_rfl) rfl (fun xv wv hSw hd => ?_))
    have d13 := pF_get (hd ⟨13, .data⟩ (by simp) rfl _ rfl)
    show Calls Try.prog 13 #[xv 13] wv _
    obtain ⟨va, vw, vm, ve, e2, f2⟩ := d13
    rw [e2]
    exact (readc f2).mono fun e w' h => tells_p h
  · exact FactsG.of rfl (fun _ _ _ => trivial) (fun xv wv hSw hd => by have dg : xv 10 = _ := pF_get (hd ⟨10, .guard⟩ (by simp) rfl _ rfl); simp only [dg]; rfl) (Facts.pureP hS hF (fun _ _ => rfl) rfl (fun xv wv hSw hd => by
      have d14 : xv 14 = _ := pF_get (hd ⟨14, .data⟩ (by simp) rfl _ rfl)
      simp only [d14]
      unfold execOp
      simp [go_sem, Act.eval, field47_1]))
  · exact FactsG.of rfl (fun _ _ _ => trivial) (fun xv wv hSw hd => by have dg : xv 10 = _ := pF_get (hd ⟨10, .guard⟩ (by simp) rfl _ rfl); simp only [dg]; rfl) (Facts.pureP hS hF (fun _ _ => rfl) rfl (fun xv wv hSw hd => by
      have d15 : xv 15 = _ := pF_get (hd ⟨15, .data⟩ (by simp) rfl _ rfl)
      simp only [d15]
      go_simp))
  · exact FactsG.of rfl (fun _ _ _ => trivial) (fun _ _ _ _ => rfl) (Facts.pureP hS hF (fun _ _ => rfl) rfl (fun xv wv hSw hd => by
      have d10 : xv 10 = _ := pF_get (hd ⟨10, .data⟩ (by simp) rfl _ rfl)
      have d16 : xv 16 = _ := pF_get (hd ⟨16, .data⟩ (by simp) rfl _ rfl)
      simp only [d10, d16]
      go_simp))
  · exact FactsG.of rfl (fun _ _ _ => trivial) (fun _ _ _ _ => rfl) (Facts.pureP hS hF (fun _ _ => rfl) rfl (fun xv wv hSw hd => by
      have d17 : xv 17 = _ := pF_get (hd ⟨17, .data⟩ (by simp) rfl _ rfl)
      simp only [d17]
      go_simp))
  · exact FactsG.of rfl (fun _ _ _ => trivial) (fun xv wv hSw hd => by have dg : xv 18 = _ := pF_get (hd ⟨18, .guard⟩ (by simp) rfl _ rfl); simp only [dg]; rfl) (Facts.loadP hS hF (fun _ _ => rfl) 27 Try.underlying27 rfl z27b _ rfl rfl (fun xv wv hSw hd => by rfl) (fun wv hSw => Rw.whole (cs := [Value.int .i64 1, .int .i64 3, .slice qa 1 da, .slice qw 0 dw, .slice qm 0 dm, .slice qe 0 de]) (Rp.later hSw)))
  · refine FactsG.of rfl (fun _ _ _ => trivial) (fun xv wv hSw hd => by have dg : xv 18 = _ := pF_get (hd ⟨18, .guard⟩ (by simp) rfl _ rfl); simp only [dg]; rfl) (Facts.call1P hS hF (fun _ _ => rfl) rfl (by kernel_rfl) rfl (fun xv wv hSw hd => ?_))
    have d19 : xv 19 = _ := pF_get (hd ⟨19, .data⟩ (by simp) rfl _ rfl)
    show Calls Try.prog 13 #[xv 19] wv _
    rw [d19]
    exact (readf (Ff.later hSw)).mono fun e w' h => tells_p h
  · exact FactsG.of rfl (fun _ _ _ => trivial) (fun xv wv hSw hd => by have dg : xv 18 = _ := pF_get (hd ⟨18, .guard⟩ (by simp) rfl _ rfl); simp only [dg]; rfl) (Facts.pureP hS hF (fun _ _ => rfl) rfl (fun xv wv hSw hd => by
      have d20 : xv 20 = _ := pF_get (hd ⟨20, .data⟩ (by simp) rfl _ rfl)
      simp only [d20]
      unfold execOp
      simp [go_sem, Act.eval, field47_1]))
  · exact FactsG.of rfl (fun _ _ _ => trivial) (fun xv wv hSw hd => by have dg : xv 18 = _ := pF_get (hd ⟨18, .guard⟩ (by simp) rfl _ rfl); simp only [dg]; rfl) (Facts.pureP hS hF (fun _ _ => rfl) rfl (fun xv wv hSw hd => by
      have d21 : xv 21 = _ := pF_get (hd ⟨21, .data⟩ (by simp) rfl _ rfl)
      simp only [d21]
      go_simp))
  · exact FactsG.of rfl (fun _ _ _ => trivial) (fun _ _ _ _ => rfl) (Facts.pureP hS hF (fun _ _ => rfl) rfl (fun xv wv hSw hd => by
      have d18 : xv 18 = _ := pF_get (hd ⟨18, .data⟩ (by simp) rfl _ rfl)
      have d22 : xv 22 = _ := pF_get (hd ⟨22, .data⟩ (by simp) rfl _ rfl)
      simp only [d18, d22]
      go_simp))
  · exact FactsG.of rfl (fun _ _ _ => trivial) (fun _ _ _ _ => rfl) (Facts.pureP hS hF (fun _ _ => rfl) rfl (fun xv wv hSw hd => by
      have d23 : xv 23 = _ := pF_get (hd ⟨23, .data⟩ (by simp) rfl _ rfl)
      simp only [d23]
      go_simp))
  · exact FactsG.of rfl (fun _ _ _ => trivial) (fun xv wv hSw hd => by have dg : xv 24 = _ := pF_get (hd ⟨24, .guard⟩ (by simp) rfl _ rfl); simp only [dg]; rfl) (Facts.pureP hS hF (fun _ _ => rfl) rfl (fun xv wv hSw hd => by
      go_simp))
  · exact FactsG.of rfl (fun _ _ _ => trivial) (fun xv wv hSw hd => by have dg : xv 24 = _ := pF_get (hd ⟨24, .guard⟩ (by simp) rfl _ rfl); simp only [dg]; rfl) (Facts.pureP hS hF (fun _ _ => rfl) rfl (fun xv wv hSw hd => by
      have d25 : xv 25 = _ := pF_get (hd ⟨25, .data⟩ (by simp) rfl _ rfl)
      have y1_ : w8.cell? ⟨p, 2, none⟩ = some (.slice qa 1 da) := Rp.cell 2
      have y2_ := cell_later hSw y1_
      have y3_ : w8.cell? ⟨p, 1, none⟩ = some (.int .i64 3) := Rp.cell 1
      have y4_ := cell_later hSw y3_
      simp only [d25]
      go_simp))
  · exact FactsG.of rfl (fun _ _ _ => trivial) (fun xv wv hSw hd => by have dg : xv 24 = _ := pF_get (hd ⟨24, .guard⟩ (by simp) rfl _ rfl); simp only [dg]; rfl) (Facts.pureP hS hF (fun _ _ => rfl) rfl (fun xv wv hSw hd => by
      have d26 : xv 26 = _ := pF_get (hd ⟨26, .data⟩ (by simp) rfl _ rfl)
      simp only [d26]
      go_simp))
  · exact FactsG.of rfl (fun _ _ _ => trivial) (fun xv wv hSw hd => by have dg : xv 24 = _ := pF_get (hd ⟨24, .guard⟩ (by simp) rfl _ rfl); simp only [dg]; rfl) (Facts.pureP hS hF (fun _ _ => rfl) rfl (fun xv wv hSw hd => by
      have d27 : xv 27 = _ := pF_get (hd ⟨27, .data⟩ (by simp) rfl _ rfl)
      simp only [d27]
      go_simp))
  · exact FactsG.of rfl (fun _ _ _ => trivial) (fun _ _ _ _ => rfl) (Facts.pureP hS hF (fun _ _ => rfl) rfl (fun xv wv hSw hd => by
      have d24 : xv 24 = _ := pF_get (hd ⟨24, .data⟩ (by simp) rfl _ rfl)
      have d28 : xv 28 = _ := pF_get (hd ⟨28, .data⟩ (by simp) rfl _ rfl)
      simp only [d24, d28]
      go_simp))
  · exact FactsG.of rfl (fun _ _ _ => trivial) (fun _ _ _ _ => rfl) (Facts.pureP hS hF (fun _ _ => rfl) rfl (fun xv wv hSw hd => by
      have d29 : xv 29 = _ := pF_get (hd ⟨29, .data⟩ (by simp) rfl _ rfl)
      simp only [d29]
      go_simp))
  · exact FactsG.of rfl (fun _ _ _ => trivial) (fun xv wv hSw hd => by have dg : xv 30 = _ := pF_get (hd ⟨30, .guard⟩ (by simp) rfl _ rfl); simp only [dg]; rfl) (Facts.pureP hS hF (fun _ _ => rfl) rfl (fun xv wv hSw hd => by
      go_simp))
  · exact FactsG.of rfl (fun _ _ _ => trivial) (fun xv wv hSw hd => by have dg : xv 30 = _ := pF_get (hd ⟨30, .guard⟩ (by simp) rfl _ rfl); simp only [dg]; rfl) (Facts.pureP hS hF (fun _ _ => rfl) rfl (fun xv wv hSw hd => by
      have d31 : xv 31 = _ := pF_get (hd ⟨31, .data⟩ (by simp) rfl _ rfl)
      have y1_ : w8.cell? ⟨p, 2, none⟩ = some (.slice qa 1 da) := Rp.cell 2
      have y2_ := cell_later hSw y1_
      have y3_ : w8.cell? ⟨p, 1, none⟩ = some (.int .i64 3) := Rp.cell 1
      have y4_ := cell_later hSw y3_
      simp only [d31]
      go_simp))
  · exact FactsG.of rfl (fun _ _ _ => trivial) (fun xv wv hSw hd => by have dg : xv 30 = _ := pF_get (hd ⟨30, .guard⟩ (by simp) rfl _ rfl); simp only [dg]; rfl) (Facts.pureP hS hF (fun _ _ => rfl) rfl (fun xv wv hSw hd => by
      have d32 : xv 32 = _ := pF_get (hd ⟨32, .data⟩ (by simp) rfl _ rfl)
      simp only [d32]
      go_simp))
  · exact FactsG.of rfl (fun _ _ _ => trivial) (fun _ _ _ _ => rfl) (Facts.pureP hS hF (fun _ _ => rfl) rfl (fun xv wv hSw hd => by
      have d30 : xv 30 = _ := pF_get (hd ⟨30, .data⟩ (by simp) rfl _ rfl)
      have d33 : xv 33 = _ := pF_get (hd ⟨33, .data⟩ (by simp) rfl _ rfl)
      simp only [d30, d33]
      go_simp))
  · exact FactsG.of rfl (fun _ _ _ => trivial) (fun _ _ _ _ => rfl) (Facts.pureP hS hF (fun _ _ => rfl) rfl (fun xv wv hSw hd => by
      have d34 : xv 34 = _ := pF_get (hd ⟨34, .data⟩ (by simp) rfl _ rfl)
      simp only [d34]
      go_simp))
  · exact FactsG.of rfl (fun _ _ _ => trivial) (fun xv wv hSw hd => by have dg : xv 35 = _ := pF_get (hd ⟨35, .guard⟩ (by simp) rfl _ rfl); simp only [dg]; rfl) (Facts.loadP hS hF (fun _ _ => rfl) 27 Try.underlying27 rfl z27b _ rfl rfl (fun xv wv hSw hd => by rfl) (fun wv hSw => Rw.whole (cs := [Value.int .i64 1, .int .i64 3, .slice qa 1 da, .slice qw 0 dw, .slice qm 0 dm, .slice qe 0 de]) (Rp.later hSw)))
  · refine FactsG.of rfl (fun _ _ _ => trivial) (fun xv wv hSw hd => by have dg : xv 35 = _ := pF_get (hd ⟨35, .guard⟩ (by simp) rfl _ rfl); simp only [dg]; rfl) (Facts.call1P hS hF (fun _ _ => rfl) rfl (by kernel_rfl) rfl (fun xv wv hSw hd => ?_))
    have d36 : xv 36 = _ := pF_get (hd ⟨36, .data⟩ (by simp) rfl _ rfl)
    show Calls Try.prog 14 #[xv 36] wv _
    rw [d36]
    have hc := check_any hXf _ _ _ _ wv (Ff.later hSw) smXf
    rw [ckXf] at hc
    exact hc.mono fun e w' h => tells_p h
  · exact FactsG.of rfl (fun _ _ _ => trivial) (fun _ _ _ _ => rfl) (Facts.pureP hS hF (fun _ _ => rfl) rfl (fun xv wv hSw hd => by
      have d35 : xv 35 = _ := pF_get (hd ⟨35, .data⟩ (by simp) rfl _ rfl)
      have d37 : xv 37 = _ := pF_get (hd ⟨37, .data⟩ (by simp) rfl _ rfl)
      simp only [d35, d37]
      go_simp))
  · exact FactsG.of rfl (fun _ _ _ => trivial) (fun _ _ _ _ => rfl) (Facts.pureP hS hF (fun _ _ => rfl) rfl (fun xv wv hSw hd => by
      have d38 : xv 38 = _ := pF_get (hd ⟨38, .data⟩ (by simp) rfl _ rfl)
      simp only [d38]
      go_simp))
  · exact FactsG.of rfl (fun _ _ _ => trivial) (fun xv wv hSw hd => by have dg : xv 39 = _ := pF_get (hd ⟨39, .guard⟩ (by simp) rfl _ rfl); simp only [dg]; rfl) (Facts.loadP hS hF (fun _ _ => rfl) 27 Try.underlying27 rfl z27a _ rfl rfl (fun xv wv hSw hd => by rfl) (fun wv hSw => Rw.whole (cs := [Value.int .i64 1, .int .i64 0, .slice pa 2 ca, .slice pw 0 cw, .slice pm 0 cm, .slice pe 0 ce]) (Rq.later hSw)))
  · exact FactsG.of rfl (fun _ _ _ => trivial) (fun xv wv hSw hd => by have dg : xv 39 = _ := pF_get (hd ⟨39, .guard⟩ (by simp) rfl _ rfl); simp only [dg]; rfl) (Facts.loadP hS hF (fun _ _ => rfl) 34 Try.underlying34 rfl zt1 _ rfl rfl (fun xv wv hSw hd => by rfl) (fun wv hSw => Rw.whole (R0.later hSw)))
  · refine FactsG.of rfl (fun _ _ _ => trivial) (fun xv wv hSw hd => by have dg : xv 39 = _ := pF_get (hd ⟨39, .guard⟩ (by simp) rfl _ rfl); simp only [dg]; rfl) (Facts.call4P hS hF (fun _ _ => rfl) rfl (by kernel_rfl) rfl (fun xv wv hSw hd => ?_))
    have d40 : xv 40 = _ := pF_get (hd ⟨40, .data⟩ (by simp) rfl _ rfl)
    have d41 : xv 41 = _ := pF_get (hd ⟨41, .data⟩ (by simp) rfl _ rfl)
    show Calls Try.prog 16 #[xv 40, xv 41, .int .i64 1, .int .i64 9] wv _
    rw [d40, d41]
    have hc := do_any hX2 _ _ _ _ 1 1 [0, 0, 0, 0, 0, 0, 0, 0, 0, 0, 0, 0, 0] 0 (.slice none 0 0) 1 9 wv rfl (F4.later hSw) smX2
    rw [do3] at hc
    exact hc.mono fun e w' h => gives_p h
  · exact FactsG.of rfl (fun _ _ _ => trivial) (fun xv wv hSw hd => by have dg : xv 39 = _ := pF_get (hd ⟨39, .guard⟩ (by simp) rfl _ rfl); simp only [dg]; rfl) (Facts.loadP hS hF (fun _ _ => rfl) 27 Try.underlying27 rfl z27a _ rfl rfl (fun xv wv hSw hd => by rfl) (fun wv hSw => Rw.whole (cs := [Value.int .i64 1, .int .i64 0, .slice pa 2 ca, .slice pw 0 cw, .slice pm 0 cm, .slice pe 0 ce]) (Rq.later hSw)))
  · refine FactsG.of rfl (fun _ _ _ => trivial) (fun xv wv hSw hd => by have dg : xv 39 = _ := pF_get (hd ⟨39, .guard⟩ (by simp) rfl _ rfl); simp only [dg]; rfl) (Facts.call2P hS hF (fun _ _ => rfl) rfl (by kernel_rfl) rfl (fun xv wv hSw hd => ?_))
    have d42 := pF_get (hd ⟨42, .data⟩ (by simp) rfl _ rfl)
    have d43 : xv 43 = _ := pF_get (hd ⟨43, .data⟩ (by simp) rfl _ rfl)
    show Calls Try.prog 15 #[xv 42, xv 43] wv _
    obtain ⟨va, vw, vm, ve, e2, f2⟩ := d42
    rw [e2, d43]
    exact (same_any hX2 _ _ _ _ _ _ _ _ wv f2 (F4.later hSw) smX2).mono fun e w' h => tells_p h
  · exact FactsG.of rfl (fun _ _ _ => trivial) (fun _ _ _ _ => rfl) (Facts.pureP hS hF (fun _ _ => rfl) rfl (fun xv wv hSw hd => by
      have d39 : xv 39 = _ := pF_get (hd ⟨39, .data⟩ (by simp) rfl _ rfl)
      have d44 : xv 44 = _ := pF_get (hd ⟨44, .data⟩ (by simp) rfl _ rfl)
      simp only [d39, d44]
      go_simp))
  · exact FactsG.of rfl (fun _ _ _ => trivial) (fun _ _ _ _ => rfl) (Facts.pureP hS hF (fun _ _ => rfl) rfl (fun xv wv hSw hd => by
      have d45 : xv 45 = _ := pF_get (hd ⟨45, .data⟩ (by simp) rfl _ rfl)
      simp only [d45]
      go_simp))
  rintro xv w9 hb9 hf _
  have e46 : xv 46 = _ := pF_get (hf 46 _ (by decide) rfl)
  simp only [e46]
  go_wp2_with fail
  go_ret
  exact ⟨rfl, below_on hbel hb9⟩
end Go.Proofs.Ytfjpjodaaofgbaa
