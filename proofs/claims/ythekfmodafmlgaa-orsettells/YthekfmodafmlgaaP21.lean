import Derived.Test.YthekfmodafmlgaaP19
import Derived.Test.YthekfmodafmlgaaP20
import Derived.Test.YthekfmodafmlgaaP2
import Derived.Deep.Slices
/- heads: what must come at any rate. -/
namespace Go.Proofs.Ythekfmodafmlgaa
open Go.RowKit Go.Sort

abbrev sA : ByteArray := ⟨#[97]⟩
abbrev sB : ByteArray := ⟨#[98]⟩
def hX1 : List Mb := [⟨sA, false, [⟨1, 1, 1⟩]⟩]
def hX2 : List Mb := [⟨sA, false, [⟨1, 1, 1⟩]⟩, ⟨sB, false, [⟨1, 1, 2⟩]⟩]
def hXf : List Mb := [⟨sA, true, []⟩, ⟨sB, true, []⟩]
abbrev hV : List Int := [0, 1, 0, 0, 0, 0, 0, 0, 0, 0, 0, 0, 0]
theorem add1 : addX (x4 []) ⟨1, 1, 1⟩ sA = x4 hX1 := by rfl
theorem add2 : addX (x4 hX1) ⟨1, 1, 2⟩ sB = x4 hX2 := by rfl
theorem fd1 : fdX (x4 hX2) hV = x4 hXf := by rfl
theorem del1 : delX (x4 hX1) 2 1 zeros 1 sA = x4 hX1 := by rfl
theorem del2 : delX (x4 hX1) 3 1 hV 1 sA = x4 [] := by rfl
theorem cl1 : clX (x4 hXf) 3 1 hV 1 = x4 [] := by rfl
theorem ckf : ck (x4 hXf) = true := by rfl
theorem rd0 : rdT (x4 []) = [] := by rfl
theorem rd1 : rdT (x4 hX1) = [[97]] := by rfl
theorem rd2 : rdT (x4 hX2) = [[97], [98]] := by rfl
theorem rk0 : rdK (x4 []) = 4 := by rfl
theorem rk1 : rdK (x4 hX1) = 4 := by rfl
theorem rk2 : rdK (x4 hX2) = 4 := by rfl
theorem sm_x4 {l : List Mb} (h : l.length ≤ 100) (h2 : ∀ m ∈ l, m.ms.length ≤ 100) : Sm (x4 l) := ⟨Nat.zero_le _, Nat.zero_le _, h, Nat.zero_le _, h2, fun _ h => by cases h⟩
theorem sm0 : Sm (x4 []) := sm_x4 (by decide) (fun _ h => by cases h)
theorem sm1 : Sm (x4 hX1) := sm_x4 (by decide) (fun m h => by
  rw [List.mem_singleton.1 h]
  decide)
theorem sm2 : Sm (x4 hX2) := sm_x4 (by decide) (fun m h => by
  simp only [hX2, List.mem_cons, List.not_mem_nil, or_false] at h
  rcases h with rfl | rfl <;> decide)
theorem smf : Sm (x4 hXf) := sm_x4 (by decide) (fun m h => by
  simp only [hXf, List.mem_cons, List.not_mem_nil, or_false] at h
  rcases h with rfl | rfl <;> decide)
theorem field48_2 (k : Int) (p : Option Addr) (n c : Nat) (w : World) : (Instr.field 48 (VV k (.slice p n c)) 2).run Try.prog w = .ok (.slice p n c) w := by
  simp [Instr.field, go_sem, asAgg]
theorem field27_4 (k b : Int) (va vw ve : Value) (p : Option Addr) (n c : Nat) (w : World) : (Instr.field 27 (CV k b va vw (.slice p n c) ve) 4).run Try.prog w = .ok (.slice p n c) w := by
  simp [Instr.field, go_sem, asAgg]
theorem four_nil (w : World) : Four w (x4 []) (.slice none 0 0) (.slice none 0 0) (.slice none 0 0) (.slice none 0 0) := ⟨AHas.nil w, WHas.nil w, BHas.nil w, EHas.nil w⟩
/-- What is answered is a set of so many members. -/
def Gives4 (l : List Mb) (n : Nat) (w : World) (e : Ending) (w' : World) : Prop := ∃ pa c1 pw c2 pm c3 pe c4, e = .returned (CV 4 0 (.slice pa 0 c1) (.slice pw 0 c2) (.slice pm n c3) (.slice pe 0 c4)) ∧ Four w' (x4 l) (.slice pa 0 c1) (.slice pw 0 c2) (.slice pm n c3) (.slice pe 0 c4) ∧ Below w.heap.size w w'
theorem gives4 {l : List Mb} {n : Nat} (hn : l.length = n) {w : World} {e : Ending} {w' : World} (h : Gives (x4 l) w e w') : Gives4 l n w e w' := by
  obtain ⟨ua, uw, um, ue, he, hf, hb⟩ := h
  obtain ⟨pa, c1, pw, c2, pm, c3, pe, c4, rfl, rfl, rfl, rfl⟩ := hf.slices
  subst hn
  exact ⟨pa, c1, pw, c2, pm, c3, pe, c4, he, hf, hb⟩
def Reads (l : List Bs) (n : Nat) (w : World) (e : Ending) (w' : World) : Prop := ∃ p c, e = .returned (VV 4 (.slice p n c)) ∧ THas w' (.slice p n c) l ∧ Below w.heap.size w w'
theorem reads4 {l : List Mb} {r : List Bs} {n : Nat} (hk : rdK (x4 l) = 4) (hr : rdT (x4 l) = r) (hn : r.length = n) {w : World} {e : Ending} {w' : World} (h : RdPost (x4 l) w e w') : Reads r n w e w' := by
  obtain ⟨u, he, ht, hb⟩ := h
  rw [hk] at he
  rw [hr] at ht
  obtain ⟨p, c, rfl⟩ := ht.slice
  subst hn
  exact ⟨p, c, he, ht, hb⟩
theorem heads_f {w : World} {p : Option Addr} {c : Nat} (h : BHas w (.slice p 2 c) hXf) : ∃ g o p0 c0, p = some ⟨g, o, none⟩ ∧ w.cell? ⟨g, o + 1, none⟩ = some (.bool true) ∧ w.cell? ⟨g, o + 2, none⟩ = some (.slice p0 0 c0) := by
  obtain ⟨ys, h1, h2, h3⟩ := h
  obtain ⟨g, o, rfl, hd⟩ := SHas.at (n := 2) h2 (by decide)
  match ys, h1 with
  | y0 :: ys, h1 =>
    have e0 : y0.1 = ⟨sA, true, []⟩ := by
      have := congrArg (·[0]?) h1
      simpa [hXf] using this
    obtain ⟨p0, c0, hs⟩ := (h3 y0 (by simp)).slice
    rw [e0] at hs
    refine ⟨g, o, p0, c0, rfl, hd 1 _ ?_, hd 2 _ ?_⟩
    · rw [rows_cons]
      show some (Value.bool y0.1.b) = _
      rw [e0]
    · rw [rows_cons]
      show some y0.2 = _
      rw [hs]
      rfl
theorem thas_lit (w : World) (l : List Bs) (hl : l.length ≤ 100) : THas (w.alloc (.cells (l.map encStr).toArray 9)) (.slice (some ⟨w.heap.size, 0, none⟩) l.length l.length) l := by
  refine ⟨by unfold maxLen; omega, by simp, .inr ⟨_, _, rfl, ⟨Nat.le_refl _, by unfold maxLen; omega⟩, fun _ => ⟨_, _, rfl, ?_⟩⟩⟩
  exact Rw.whole (cs := l.map encStr) (rw_new w 9 _)
set_option maxHeartbeats 8000000 in
set_option maxRecDepth 100000 in
theorem heads_any (w : World) : Calls Try.prog 10 #[] w (Tells (.bool true) w) := by
  have r1 := rw_new w 34 #[.int .i64 0, .int .i64 0, .int .i64 0, .int .i64 0, .int .i64 0, .int .i64 0, .int .i64 0, .int .i64 0, .int .i64 0, .int .i64 0, .int .i64 0, .int .i64 0, .int .i64 0, .int .i64 0, .int .i64 0, .int .i64 0, .slice none 0 0]
  have b1 := bel_alloc (Below.refl w.heap.size w) (.cells #[.int .i64 0, .int .i64 0, .int .i64 0, .int .i64 0, .int .i64 0, .int .i64 0, .int .i64 0, .int .i64 0, .int .i64 0, .int .i64 0, .int .i64 0, .int .i64 0, .int .i64 0, .int .i64 0, .int .i64 0, .int .i64 0, .slice none 0 0] 34)
  have s1 : (w.alloc (.cells #[.int .i64 0, .int .i64 0, .int .i64 0, .int .i64 0, .int .i64 0, .int .i64 0, .int .i64 0, .int .i64 0, .int .i64 0, .int .i64 0, .int .i64 0, .int .i64 0, .int .i64 0, .int .i64 0, .int .i64 0, .int .i64 0, .slice none 0 0] 34)).heap.size = w.heap.size + 1 := by simp
  generalize hW1 : w.alloc (.cells #[.int .i64 0, .int .i64 0, .int .i64 0, .int .i64 0, .int .i64 0, .int .i64 0, .int .i64 0, .int .i64 0, .int .i64 0, .int .i64 0, .int .i64 0, .int .i64 0, .int .i64 0, .int .i64 0, .int .i64 0, .int .i64 0, .slice none 0 0] 34) = v1 at r1 b1 s1
  have R0 := r1.row #[.int .i64 1, .int .i64 1, .int .i64 0, .int .i64 0, .int .i64 0, .int .i64 0, .int .i64 0, .int .i64 0, .int .i64 0, .int .i64 0, .int .i64 0, .int .i64 0, .int .i64 0, .int .i64 0, .int .i64 0, .int .i64 0, .slice none 0 0]
  replace b1 := below_setRow b1 (g := w.heap.size) (by omega) #[.int .i64 1, .int .i64 1, .int .i64 0, .int .i64 0, .int .i64 0, .int .i64 0, .int .i64 0, .int .i64 0, .int .i64 0, .int .i64 0, .int .i64 0, .int .i64 0, .int .i64 0, .int .i64 0, .int .i64 0, .int .i64 0, .slice none 0 0]
  replace s1 : (v1.setRow w.heap.size #[.int .i64 1, .int .i64 1, .int .i64 0, .int .i64 0, .int .i64 0, .int .i64 0, .int .i64 0, .int .i64 0, .int .i64 0, .int .i64 0, .int .i64 0, .int .i64 0, .int .i64 0, .int .i64 0, .int .i64 0, .int .i64 0, .slice none 0 0]).heap.size = w.heap.size + 1 := by simpa [World.setRow] using s1
  generalize hU1 : v1.setRow w.heap.size #[.int .i64 1, .int .i64 1, .int .i64 0, .int .i64 0, .int .i64 0, .int .i64 0, .int .i64 0, .int .i64 0, .int .i64 0, .int .i64 0, .int .i64 0, .int .i64 0, .int .i64 0, .int .i64 0, .int .i64 0, .int .i64 0, .slice none 0 0] = u1 at R0 b1 s1
  have r2 := rw_new u1 34 #[.int .i64 0, .int .i64 0, .int .i64 0, .int .i64 0, .int .i64 0, .int .i64 0, .int .i64 0, .int .i64 0, .int .i64 0, .int .i64 0, .int .i64 0, .int .i64 0, .int .i64 0, .int .i64 0, .int .i64 0, .int .i64 0, .slice none 0 0]
  have b2 := bel_alloc b1 (.cells #[.int .i64 0, .int .i64 0, .int .i64 0, .int .i64 0, .int .i64 0, .int .i64 0, .int .i64 0, .int .i64 0, .int .i64 0, .int .i64 0, .int .i64 0, .int .i64 0, .int .i64 0, .int .i64 0, .int .i64 0, .int .i64 0, .slice none 0 0] 34)
  have s2 : (u1.alloc (.cells #[.int .i64 0, .int .i64 0, .int .i64 0, .int .i64 0, .int .i64 0, .int .i64 0, .int .i64 0, .int .i64 0, .int .i64 0, .int .i64 0, .int .i64 0, .int .i64 0, .int .i64 0, .int .i64 0, .int .i64 0, .int .i64 0, .slice none 0 0] 34)).heap.size = w.heap.size + 2 := by simp [s1]
  replace R0 := R0.alloc (.cells #[.int .i64 0, .int .i64 0, .int .i64 0, .int .i64 0, .int .i64 0, .int .i64 0, .int .i64 0, .int .i64 0, .int .i64 0, .int .i64 0, .int .i64 0, .int .i64 0, .int .i64 0, .int .i64 0, .int .i64 0, .int .i64 0, .slice none 0 0] 34)
  generalize hW2 : u1.alloc (.cells #[.int .i64 0, .int .i64 0, .int .i64 0, .int .i64 0, .int .i64 0, .int .i64 0, .int .i64 0, .int .i64 0, .int .i64 0, .int .i64 0, .int .i64 0, .int .i64 0, .int .i64 0, .int .i64 0, .int .i64 0, .int .i64 0, .slice none 0 0] 34) = v2 at r2 b2 s2 R0
  rw [s1] at r2
  have R1 := r2.row #[.int .i64 2, .int .i64 1, .int .i64 0, .int .i64 0, .int .i64 0, .int .i64 0, .int .i64 0, .int .i64 0, .int .i64 0, .int .i64 0, .int .i64 0, .int .i64 0, .int .i64 0, .int .i64 0, .int .i64 0, .int .i64 0, .slice none 0 0]
  replace R0 := R0.rowOther (q := w.heap.size + 1) (by omega) #[.int .i64 2, .int .i64 1, .int .i64 0, .int .i64 0, .int .i64 0, .int .i64 0, .int .i64 0, .int .i64 0, .int .i64 0, .int .i64 0, .int .i64 0, .int .i64 0, .int .i64 0, .int .i64 0, .int .i64 0, .int .i64 0, .slice none 0 0]
  replace b2 := below_setRow b2 (g := w.heap.size + 1) (by omega) #[.int .i64 2, .int .i64 1, .int .i64 0, .int .i64 0, .int .i64 0, .int .i64 0, .int .i64 0, .int .i64 0, .int .i64 0, .int .i64 0, .int .i64 0, .int .i64 0, .int .i64 0, .int .i64 0, .int .i64 0, .int .i64 0, .slice none 0 0]
  replace s2 : (v2.setRow (w.heap.size + 1) #[.int .i64 2, .int .i64 1, .int .i64 0, .int .i64 0, .int .i64 0, .int .i64 0, .int .i64 0, .int .i64 0, .int .i64 0, .int .i64 0, .int .i64 0, .int .i64 0, .int .i64 0, .int .i64 0, .int .i64 0, .int .i64 0, .slice none 0 0]).heap.size = w.heap.size + 2 := by simpa [World.setRow] using s2
  generalize hU2 : v2.setRow (w.heap.size + 1) #[.int .i64 2, .int .i64 1, .int .i64 0, .int .i64 0, .int .i64 0, .int .i64 0, .int .i64 0, .int .i64 0, .int .i64 0, .int .i64 0, .int .i64 0, .int .i64 0, .int .i64 0, .int .i64 0, .int .i64 0, .int .i64 0, .slice none 0 0] = u2 at R0 R1 b2 s2
  have r3 := rw_new u2 34 #[.int .i64 0, .int .i64 0, .int .i64 0, .int .i64 0, .int .i64 0, .int .i64 0, .int .i64 0, .int .i64 0, .int .i64 0, .int .i64 0, .int .i64 0, .int .i64 0, .int .i64 0, .int .i64 0, .int .i64 0, .int .i64 0, .slice none 0 0]
  have hbel := bel_alloc b2 (.cells #[.int .i64 0, .int .i64 0, .int .i64 0, .int .i64 0, .int .i64 0, .int .i64 0, .int .i64 0, .int .i64 0, .int .i64 0, .int .i64 0, .int .i64 0, .int .i64 0, .int .i64 0, .int .i64 0, .int .i64 0, .int .i64 0, .slice none 0 0] 34)
  have s3 : (u2.alloc (.cells #[.int .i64 0, .int .i64 0, .int .i64 0, .int .i64 0, .int .i64 0, .int .i64 0, .int .i64 0, .int .i64 0, .int .i64 0, .int .i64 0, .int .i64 0, .int .i64 0, .int .i64 0, .int .i64 0, .int .i64 0, .int .i64 0, .slice none 0 0] 34)).heap.size = w.heap.size + 3 := by simp [s2]
  replace R0 := R0.alloc (.cells #[.int .i64 0, .int .i64 0, .int .i64 0, .int .i64 0, .int .i64 0, .int .i64 0, .int .i64 0, .int .i64 0, .int .i64 0, .int .i64 0, .int .i64 0, .int .i64 0, .int .i64 0, .int .i64 0, .int .i64 0, .int .i64 0, .slice none 0 0] 34)
  replace R1 := R1.alloc (.cells #[.int .i64 0, .int .i64 0, .int .i64 0, .int .i64 0, .int .i64 0, .int .i64 0, .int .i64 0, .int .i64 0, .int .i64 0, .int .i64 0, .int .i64 0, .int .i64 0, .int .i64 0, .int .i64 0, .int .i64 0, .int .i64 0, .slice none 0 0] 34)
  generalize hW3 : u2.alloc (.cells #[.int .i64 0, .int .i64 0, .int .i64 0, .int .i64 0, .int .i64 0, .int .i64 0, .int .i64 0, .int .i64 0, .int .i64 0, .int .i64 0, .int .i64 0, .int .i64 0, .int .i64 0, .int .i64 0, .int .i64 0, .int .i64 0, .slice none 0 0] 34) = v3 at r3 hbel s3 R0 R1
  rw [s2] at r3
  have R3 := r3.row #[.int .i64 3, .int .i64 1, .int .i64 0, .int .i64 0, .int .i64 0, .int .i64 0, .int .i64 0, .int .i64 0, .int .i64 0, .int .i64 0, .int .i64 0, .int .i64 0, .int .i64 0, .int .i64 0, .int .i64 0, .int .i64 0, .slice none 0 0]
  replace R0 := R0.rowOther (q := w.heap.size + 2) (by omega) #[.int .i64 3, .int .i64 1, .int .i64 0, .int .i64 0, .int .i64 0, .int .i64 0, .int .i64 0, .int .i64 0, .int .i64 0, .int .i64 0, .int .i64 0, .int .i64 0, .int .i64 0, .int .i64 0, .int .i64 0, .int .i64 0, .slice none 0 0]
  replace R1 := R1.rowOther (q := w.heap.size + 2) (by omega) #[.int .i64 3, .int .i64 1, .int .i64 0, .int .i64 0, .int .i64 0, .int .i64 0, .int .i64 0, .int .i64 0, .int .i64 0, .int .i64 0, .int .i64 0, .int .i64 0, .int .i64 0, .int .i64 0, .int .i64 0, .int .i64 0, .slice none 0 0]
  replace hbel := below_setRow hbel (g := w.heap.size + 2) (by omega) #[.int .i64 3, .int .i64 1, .int .i64 0, .int .i64 0, .int .i64 0, .int .i64 0, .int .i64 0, .int .i64 0, .int .i64 0, .int .i64 0, .int .i64 0, .int .i64 0, .int .i64 0, .int .i64 0, .int .i64 0, .int .i64 0, .slice none 0 0]
  replace s3 : (v3.setRow (w.heap.size + 2) #[.int .i64 3, .int .i64 1, .int .i64 0, .int .i64 0, .int .i64 0, .int .i64 0, .int .i64 0, .int .i64 0, .int .i64 0, .int .i64 0, .int .i64 0, .int .i64 0, .int .i64 0, .int .i64 0, .int .i64 0, .int .i64 0, .slice none 0 0]).heap.size = w.heap.size + 3 := by simpa [World.setRow] using s3
  generalize hU3 : v3.setRow (w.heap.size + 2) #[.int .i64 3, .int .i64 1, .int .i64 0, .int .i64 0, .int .i64 0, .int .i64 0, .int .i64 0, .int .i64 0, .int .i64 0, .int .i64 0, .int .i64 0, .int .i64 0, .int .i64 0, .int .i64 0, .int .i64 0, .int .i64 0, .slice none 0 0] = u3 at R0 R1 R3 hbel s3
  have f3 : u3.frozen? ⟨w.heap.size + 2, 3, none⟩ = false := R3.frozen 3
  have c3 : u3.cell? ⟨w.heap.size + 2, 3, none⟩ = some (.int .i64 0) := R3.cell 3
  replace R3 : Rw (u3.setCell ⟨w.heap.size + 2, 3, none⟩ (.int .i64 1)) (w.heap.size + 2) 34 (txc 3 1 hV 0 (.slice none 0 0)).toArray := R3.set 3 _
  replace R0 : Rw (u3.setCell ⟨w.heap.size + 2, 3, none⟩ (.int .i64 1)) w.heap.size 34 (txc 1 1 zeros 0 (.slice none 0 0)).toArray := R0.setOther (q := w.heap.size + 2) (by omega) 3 (.int .i64 1)
  replace R1 : Rw (u3.setCell ⟨w.heap.size + 2, 3, none⟩ (.int .i64 1)) (w.heap.size + 1) 34 (txc 2 1 zeros 0 (.slice none 0 0)).toArray := R1.setOther (q := w.heap.size + 2) (by omega) 3 (.int .i64 1)
  replace hbel := hbel.setCell (p := ⟨w.heap.size + 2, 3, none⟩) (show w.heap.size ≤ w.heap.size + 2 by omega) (.int .i64 1)
  replace s3 : (u3.setCell ⟨w.heap.size + 2, 3, none⟩ (.int .i64 1)).heap.size = w.heap.size + 3 := by rw [World.size_setCell]; exact s3
  generalize hU4 : u3.setCell ⟨w.heap.size + 2, 3, none⟩ (.int .i64 1) = wa at R0 R1 R3 hbel s3
  have S1 : Hid (u1.heap.size = w.heap.size + 1) := s1
  have S2 : Hid (u2.heap.size = w.heap.size + 2) := s2
  have S3 : Hid (wa.heap.size = w.heap.size + 3) := s3
  clear s3
  have z1 : (Try.prog.info? 34).map (·.size) = some (txc 1 1 zeros 0 (.slice none 0 0)).toArray.size := size34
  have z2 : (Try.prog.info? 34).map (·.size) = some (txc 2 1 zeros 0 (.slice none 0 0)).toArray.size := size34
  have z3 : (Try.prog.info? 34).map (·.size) = some (txc 3 1 hV 0 (.slice none 0 0)).toArray.size := size34
  have zv : (Try.prog.info? 31).map (·.size) = some (vals hV).length := size31
  go_enter Try.func10, Try.ntmps10
  go_wp2_with (first | rw [hW1] | rw [hW2] | rw [hW3] | rw [hU4] | refine load_r 34 _ rfl rfl _ rfl R0 Try.underlying34 rfl z1 ?_ | (refine store_r rfl 34 _ _ rfl w.heap.size #[.int .i64 1, .int .i64 1, .int .i64 0, .int .i64 0, .int .i64 0, .int .i64 0, .int .i64 0, .int .i64 0, .int .i64 0, .int .i64 0, .int .i64 0, .int .i64 0, .int .i64 0, .int .i64 0, .int .i64 0, .int .i64 0, .slice none 0 0] rfl rfl r1 size34 rfl (by simp [Value.oneCell']) ?_; rw [hU1]) | (refine store_r rfl 34 _ _ rfl (w.heap.size + 1) #[.int .i64 2, .int .i64 1, .int .i64 0, .int .i64 0, .int .i64 0, .int .i64 0, .int .i64 0, .int .i64 0, .int .i64 0, .int .i64 0, .int .i64 0, .int .i64 0, .int .i64 0, .int .i64 0, .int .i64 0, .int .i64 0, .slice none 0 0] rfl rfl r2 size34 rfl (by simp [Value.oneCell']) ?_; rw [hU2]) | (refine store_r rfl 34 _ _ rfl (w.heap.size + 2) #[.int .i64 3, .int .i64 1, .int .i64 0, .int .i64 0, .int .i64 0, .int .i64 0, .int .i64 0, .int .i64 0, .int .i64 0, .int .i64 0, .int .i64 0, .int .i64 0, .int .i64 0, .int .i64 0, .int .i64 0, .int .i64 0, .slice none 0 0] rfl rfl r3 size34 rfl (by simp [Value.oneCell']) ?_; rw [hU3]))
  clear hW1 hW2 hW3 hU1 hU2 hU3 hU4 r1 r2 r3 b1 b2 f3 c3 s1 s2 S1 S2
  have C1 := add_any (x4 []) _ _ _ _ 1 1 zeros 0 (.slice none 0 0) 1 sA wa rfl (four_nil wa) sm0
  rw [add1] at C1
  refine C1.mono ?_
  clear C1 S3
  intro e w1 h1
  obtain ⟨aa, a1, aw, a2, am, a3, ae, a4, rfl, hfa, hb⟩ := gives4 (n := 1) rfl h1
  replace R0 := R0.later hb
  replace R1 := R1.later hb
  replace R3 := R3.later hb
  replace hbel := below_on hbel hb
  clear hb h1
  have hbA := bel_alloc (Below.refl w1.heap.size w1) (.cells (cvc 4 0 (.slice aa 0 a1) (.slice aw 0 a2) (.slice am 1 a3) (.slice ae 0 a4)) 27)
  have RA := rw_new w1 27 (cvc 4 0 (.slice aa 0 a1) (.slice aw 0 a2) (.slice am 1 a3) (.slice ae 0 a4))
  replace R0 := R0.later hbA
  replace R1 := R1.later hbA
  replace R3 := R3.later hbA
  replace hfa := hfa.later hbA
  replace hbel := below_on hbel hbA
  clear hbA
  generalize hW : w1.alloc (.cells (cvc 4 0 (.slice aa 0 a1) (.slice aw 0 a2) (.slice am 1 a3) (.slice ae 0 a4)) 27) = w2 at R0 R1 R3 hfa hbel RA
  go_wp2_with (first | rw [hW] | refine load_r 27 _ rfl rfl _ rfl RA Try.underlying27 rfl size27 ?_ | refine load_r 34 _ rfl rfl _ rfl R0 Try.underlying34 rfl z1 ?_)
  clear hW
  have C1 := add_any (x4 hX1) _ _ _ _ 1 1 zeros 0 (.slice none 0 0) 2 sB w2 rfl hfa sm1
  rw [add2] at C1
  refine C1.mono ?_
  clear C1
  intro e w3 h1
  obtain ⟨ba, b1, bw, b2, bm, b3, be, b4, rfl, hfb, hb⟩ := gives4 (n := 2) rfl h1
  replace R0 := R0.later hb
  replace R1 := R1.later hb
  replace R3 := R3.later hb
  replace RA := RA.later hb
  replace hfa := hfa.later hb
  replace hbel := below_on hbel hb
  clear hb h1
  have hbA := bel_alloc (Below.refl w3.heap.size w3) (.cells (cvc 4 0 (.slice ba 0 b1) (.slice bw 0 b2) (.slice bm 2 b3) (.slice be 0 b4)) 27)
  have RBB := rw_new w3 27 (cvc 4 0 (.slice ba 0 b1) (.slice bw 0 b2) (.slice bm 2 b3) (.slice be 0 b4))
  replace R0 := R0.later hbA
  replace R1 := R1.later hbA
  replace R3 := R3.later hbA
  replace RA := RA.later hbA
  replace hfa := hfa.later hbA
  replace hfb := hfb.later hbA
  replace hbel := below_on hbel hbA
  clear hbA
  generalize hW : w3.alloc (.cells (cvc 4 0 (.slice ba 0 b1) (.slice bw 0 b2) (.slice bm 2 b3) (.slice be 0 b4)) 27) = w4 at R0 R1 R3 RA hfa hfb hbel RBB
  have d3 := tx_vec R3
  go_wp2_with (first | rw [hW] | refine load_r 27 _ rfl rfl _ rfl RBB Try.underlying27 rfl size27 ?_ | refine load_m 31 _ rfl rfl _ _ rfl d3 Try.underlying31 rfl zv ?_)
  clear hW d3
  have C1 := fold_any (x4 hX2) _ _ _ _ hV w4 rfl hfb sm2
  rw [fd1] at C1
  refine C1.mono ?_
  clear C1
  intro e w5 h1
  obtain ⟨fa, f1, fw, f2, fm, f3, fe, f4, rfl, hff, hb⟩ := gives4 (n := 2) rfl h1
  replace R0 := R0.later hb
  replace R1 := R1.later hb
  replace R3 := R3.later hb
  replace RA := RA.later hb
  replace RBB := RBB.later hb
  replace hfa := hfa.later hb
  replace hfb := hfb.later hb
  replace hbel := below_on hbel hb
  clear hb h1
  have hbA := bel_alloc (Below.refl w5.heap.size w5) (.cells (cvc 4 0 (.slice fa 0 f1) (.slice fw 0 f2) (.slice fm 2 f3) (.slice fe 0 f4)) 27)
  have RF := rw_new w5 27 (cvc 4 0 (.slice fa 0 f1) (.slice fw 0 f2) (.slice fm 2 f3) (.slice fe 0 f4))
  replace R0 := R0.later hbA
  replace R1 := R1.later hbA
  replace R3 := R3.later hbA
  replace RA := RA.later hbA
  replace RBB := RBB.later hbA
  replace hfa := hfa.later hbA
  replace hfb := hfb.later hbA
  replace hff := hff.later hbA
  replace hbel := below_on hbel hbA
  clear hbA
  generalize hW : w5.alloc (.cells (cvc 4 0 (.slice fa 0 f1) (.slice fw 0 f2) (.slice fm 2 f3) (.slice fe 0 f4)) 27) = w6 at R0 R1 R3 RA RBB hfa hfb hff hbel RF
  clear R0
  go_wp2_with (first | rw [hW] | refine load_r 27 _ rfl rfl _ rfl RA Try.underlying27 rfl size27 ?_ | refine load_r 34 _ rfl rfl _ rfl R1 Try.underlying34 rfl z2 ?_)
  clear hW
  have C1 := del_any (x4 hX1) _ _ _ _ 2 1 zeros 0 (.slice none 0 0) 1 sA w6 rfl hfa sm1 (by decide)
  rw [del1] at C1
  refine C1.mono ?_
  clear C1 R1
  intro e w7 h1
  obtain ⟨da, d1, dw, d2, dm, d3, de, d4, rfl, hfd, hb⟩ := gives4 (n := 1) rfl h1
  replace R3 := R3.later hb
  replace RA := RA.later hb
  replace RBB := RBB.later hb
  replace RF := RF.later hb
  replace hfa := hfa.later hb
  replace hfb := hfb.later hb
  replace hff := hff.later hb
  replace hbel := below_on hbel hb
  clear hb h1
  go_wp2_with fail
  refine (read_any (x4 hX1) _ _ _ _ w7 hfd sm1).mono ?_
  intro e w8 h1
  obtain ⟨pt, ct, rfl, ht, hb⟩ := reads4 (n := 1) rk1 rd1 rfl h1
  replace R3 := R3.later hb
  replace RA := RA.later hb
  replace RBB := RBB.later hb
  replace RF := RF.later hb
  replace hfa := hfa.later hb
  replace hfb := hfb.later hb
  replace hff := hff.later hb
  replace hbel := below_on hbel hb
  clear hb h1 hfd
  have hF1 := fun w => field48_2 4 pt 1 ct w
  have hT := thas_lit w8 [[97]] (by decide)
  have hbA := bel_alloc (Below.refl w8.heap.size w8) (.cells #[.string sA] 9)
  replace R3 := R3.later hbA
  replace RA := RA.later hbA
  replace RBB := RBB.later hbA
  replace RF := RF.later hbA
  replace hfa := hfa.later hbA
  replace hfb := hfb.later hbA
  replace hff := hff.later hbA
  replace ht := ht.later hbA
  replace hbel := below_on hbel hbA
  clear hbA
  generalize hW : w8.alloc (.cells #[.string sA] 9) = w9 at R3 RA RBB RF hfa hfb hff ht hbel
  replace hT : THas w9 (.slice (some ⟨w8.heap.size, 0, none⟩) 1 1) [[97]] := by rw [← hW]; exact hT
  go_wp2_with (first | rw [hW])
  clear hW hF1
  refine (refTexts_any _ _ _ w9 ht hT).mono ?_
  rintro e w10 ⟨rfl, hb⟩
  replace R3 := R3.later hb
  replace RA := RA.later hb
  replace RBB := RBB.later hb
  replace RF := RF.later hb
  replace hfa := hfa.later hb
  replace hfb := hfb.later hb
  replace hff := hff.later hb
  replace hbel := below_on hbel hb
  clear hb ht hT
  go_wp2_with (first | refine load_r 27 _ rfl rfl _ rfl RA Try.underlying27 rfl size27 ?_ | refine load_r 34 _ rfl rfl _ rfl R3 Try.underlying34 rfl z3 ?_)
  have C1 := del_any (x4 hX1) _ _ _ _ 3 1 hV 0 (.slice none 0 0) 1 sA w10 rfl hfa sm1 (by decide)
  rw [del2] at C1
  refine C1.mono ?_
  clear C1 RA hfa
  intro e w11 h1
  obtain ⟨ga, g1, gw, g2, gm, g3, ge, g4, rfl, hfd, hb⟩ := gives4 (n := 0) rfl h1
  replace R3 := R3.later hb
  replace RBB := RBB.later hb
  replace RF := RF.later hb
  replace hfb := hfb.later hb
  replace hff := hff.later hb
  replace hbel := below_on hbel hb
  clear hb h1
  go_wp2_with fail
  refine (read_any (x4 []) _ _ _ _ w11 hfd sm0).mono ?_
  intro e w12 h1
  obtain ⟨pt2, ct2, rfl, ht, hb⟩ := reads4 (n := 0) rk0 rd0 rfl h1
  replace R3 := R3.later hb
  replace RBB := RBB.later hb
  replace RF := RF.later hb
  replace hfb := hfb.later hb
  replace hff := hff.later hb
  replace hbel := below_on hbel hb
  clear hb h1 hfd ht
  have hF1 := fun w => field48_2 4 pt2 0 ct2 w
  go_wp2_with (first | refine load_r 27 _ rfl rfl _ rfl RBB Try.underlying27 rfl size27 ?_)
  clear hF1
  refine (read_any (x4 hX2) _ _ _ _ w12 hfb sm2).mono ?_
  intro e w13 h1
  obtain ⟨pt3, ct3, rfl, ht, hb⟩ := reads4 (n := 2) rk2 rd2 rfl h1
  replace R3 := R3.later hb
  replace RF := RF.later hb
  replace hff := hff.later hb
  replace hbel := below_on hbel hb
  clear hb h1 hfb RBB
  have hF1 := fun w => field48_2 4 pt3 2 ct3 w
  have hT := thas_lit w13 [[97], [98]] (by decide)
  have hbA := bel_alloc (Below.refl w13.heap.size w13) (.cells #[.string sA, .string sB] 9)
  replace R3 := R3.later hbA
  replace RF := RF.later hbA
  replace hff := hff.later hbA
  replace ht := ht.later hbA
  replace hbel := below_on hbel hbA
  clear hbA
  generalize hW : w13.alloc (.cells #[.string sA, .string sB] 9) = w14 at R3 RF hff ht hbel
  replace hT : THas w14 (.slice (some ⟨w13.heap.size, 0, none⟩) 2 2) [[97], [98]] := by rw [← hW]; exact hT
  go_wp2_with (first | rw [hW])
  clear hW hF1
  refine (refTexts_any _ _ _ w14 ht hT).mono ?_
  rintro e w15 ⟨rfl, hb⟩
  replace R3 := R3.later hb
  replace RF := RF.later hb
  replace hff := hff.later hb
  replace hbel := below_on hbel hb
  clear hb ht hT
  obtain ⟨g, o, p0, c0, rfl, cb1, cb2⟩ := heads_f hff.m
  have cf4 : w15.cell? ⟨w5.heap.size, 4, none⟩ = some (.slice (some ⟨g, o, none⟩) 2 f3) := RF.cell 4
  go_wp2_with (first | refine load_r 27 _ rfl rfl _ rfl RF Try.underlying27 rfl size27 ?_ | refine load_r 34 _ rfl rfl _ rfl R3 Try.underlying34 rfl z3 ?_)
  clear cf4 cb1 cb2
  have C1 := clear_any (x4 hXf) _ _ _ _ 3 1 hV 0 (.slice none 0 0) 1 w15 rfl hff smf
  rw [cl1] at C1
  refine C1.mono ?_
  clear C1 R3
  intro e w16 h1
  obtain ⟨ia, i1, iw, i2, iM, i3, ie, i4, rfl, hfd, hb⟩ := gives4 (n := 0) rfl h1
  replace RF := RF.later hb
  replace hff := hff.later hb
  replace hbel := below_on hbel hb
  clear hb h1 hfd
  have hF1 := fun w => field27_4 4 0 (.slice ia 0 i1) (.slice iw 0 i2) (.slice ie 0 i4) iM 0 i3 w
  go_wp2_with (first | refine load_r 27 _ rfl rfl _ rfl RF Try.underlying27 rfl size27 ?_)
  clear hF1
  have C1 := check_any (x4 hXf) _ _ _ _ w16 hff smf
  rw [ckf] at C1
  refine C1.mono ?_
  clear C1
  rintro e w17 ⟨rfl, hb⟩
  go_wp2_with fail
  go_ret
  exact ⟨rfl, below_on hbel hb⟩
end Go.Proofs.Ythekfmodafmlgaa
/- Small of the document's answer. -/
namespace Go.Proofs.Ythekfmodafmlgaa
open Go.RowKit

/-- What Small tells. -/
def SmPost (n : Nat) (w : World) (e : Ending) (w' : World) : Prop := ∃ b, e = .returned (.bool b) ∧ (b = true → n ≤ 40) ∧ Below w.heap.size w w'
theorem O.str (o : O) : o.cells[1]? = some (.string o.key) ∧ o.cells[2]? = some (.string o.field) ∧ o.cells[6]? = some (.string o.text) := ⟨rfl, rfl, rfl⟩
set_option maxHeartbeats 2000000 in
set_option maxRecDepth 100000 in
theorem small_any (p s : Int) (v : List Int) (t : Int) (sl : Value) (l : List O) (w : World) (hv : v.length = 13) (ho : OHas w sl l) : Calls Try.prog 9 #[TxV p s v t sl] w (SmPost l.length w) := by
  obtain ⟨q, c, rfl, hm, hr⟩ := ho
  have hml := maxLen_lt hm
  have HR : Hid (0 < l.length → ∃ g o, q = some ⟨g, o, none⟩ ∧ ∀ i (h : i < l.length), w.rangeAt g (o + i * 10) l[i].cells) := hr
  clear hr
  have R0 := rw_new w 34 (txc p s v t (.slice q l.length c)).toArray
  have hbel : Below w.heap.size w (w.alloc (.cells (txc p s v t (.slice q l.length c)).toArray 34)) := bel_alloc (Below.refl _ _) _
  generalize hW : w.alloc (.cells (txc p s v t (.slice q l.length c)).toArray 34) = w0 at R0 hbel
  go_enter Try.func9, Try.ntmps9
  go_wp2_with (rw [hW])
  clear hW
  go_loopw [3] (fun vi wr => ∃ k : Nat, vi = .int .i64 k ∧ k ≤ l.length ∧ (l.length ≤ 40 ∨ k = 0) ∧ Rw wr w.heap.size 34 (txc p s v t (.slice q l.length c)).toArray ∧ Below w.heap.size w wr) (fun vi _ => l.length - (intOf vi).toNat)
  case atStart => exact ⟨0, rfl, by omega, .inr rfl, R0, hbel⟩
  case round =>
    clear R0 hbel
    obtain ⟨k, rfl, hk, hor, R, hbel⟩ := hrel
    have c16 := tx_ops R hv
    by_cases hle : l.length ≤ 40
    · have hle' : (l.length : Int) ≤ 40 := by omega
      by_cases hlt : k < l.length
      · have hlt' : (k : Int) < (l.length : Int) := by omega
        obtain ⟨g, o, rfl, hd⟩ := HR.out (by omega)
        have d := range_later (hd k hlt) hbel
        clear HR hd
        have hk40 : k < 40 := by omega
        generalize l[k] = x at d
        have z35 : (Try.prog.info? 66).map (·.size) = some x.cells.length := size66
        have hb2 : Below w.heap.size w (wr.alloc (.cells x.cells.toArray 66)) := bel_alloc hbel _
        have R2 := R.alloc (.cells x.cells.toArray 66)
        go_wp2_with (refine load_m 66 _ rfl rfl _ _ rfl d Try.underlying66 rfl z35 ?_)
        all_goals first
          | (go_ret; exact ⟨_, rfl, fun _ => hle, hb2⟩)
          | (go_roundw
             case rel => exact ⟨k + 1, by simp, by omega, .inl hle, R2, hb2⟩
             case measure => simp [intOf]; omega)
      · have hlt' : ¬ (k : Int) < (l.length : Int) := by omega
        clear HR
        go_wp2_with fail
        go_ret
        exact ⟨_, rfl, fun _ => hle, hbel⟩
    · obtain rfl : k = 0 := by omega
      have hle' : ¬ (l.length : Int) ≤ 40 := by omega
      have h0 : 0 < (l.length : Int) := by omega
      clear HR
      go_wp2_with fail
      go_ret
      exact ⟨_, rfl, fun h => by simp at h, hbel⟩
end Go.Proofs.Ythekfmodafmlgaa
/- How great a set becomes. Nothing of one function. -/
namespace Go.Proofs.Ythekfmodafmlgaa
open Go.RowKit Go.Sort

structure Sz (n m : Nat) (x : X) : Prop where
  a : x.am.length ≤ 100
  t : x.wr.length ≤ 100
  e : x.el.length ≤ 100
  ei : ∀ y ∈ x.el, y.gone.length ≤ 100
  n : x.mb.length ≤ n
  m : ∀ y ∈ x.mb, y.ms.length ≤ m
theorem Fw.sz {x : X} (h : Fw x) : Sz 60 30 x := ⟨h.sm.a, h.sm.t, h.sm.e, h.sm.ei, by have := h.n; omega, h.m⟩
theorem Sz.sm {n m : Nat} {x : X} (h : Sz n m x) (hn : n ≤ 100) (hm : m ≤ 100) : Sm x := ⟨h.a, h.t, Nat.le_trans h.n hn, h.e, fun y hy => Nat.le_trans (h.m y hy) hm, h.ei⟩
theorem sz_add {n m : Nat} {x : X} (h : Sz n m x) (a : M) (s : ByteArray) : Sz (n + 1) (m + 1) (addX x a s) := by
  unfold addX
  split
  · refine ⟨h.a, h.t, h.e, h.ei, Nat.le_trans (addL_length _ _ _) (Nat.add_le_add_right h.n 1), fun y hy => ?_⟩
    rcases putL_sub hy with rfl | k
    · refine Nat.le_trans (wth_length _ _) (Nat.add_le_add_right ?_ 1)
      cases e : look x.mb (bs s) with
      | none => exact Nat.zero_le _
      | some z => exact h.m z (look_mem e).1
    · exact Nat.le_succ_of_le (h.m y k)
  · exact ⟨h.a, h.t, h.e, h.ei, Nat.le_succ_of_le h.n, fun y hy => Nat.le_succ_of_le (h.m y hy)⟩
theorem sz_wo {n m : Nat} {x : X} (h : Sz n m x) (i : Int) (G : Mb → Bool) (p : M → Bool) : Sz n m (woX x i G p) := by
  unfold woX
  split
  · refine ⟨h.a, h.t, h.e, h.ei, Nat.le_trans (wo_length _ _ _) h.n, fun z hz => ?_⟩
    obtain ⟨y, hy, rfl | e⟩ := wo_sub hz
    · exact h.m _ hy
    · exact Nat.le_trans (dm_length e) (h.m _ hy)
  · exact h
theorem sz_fd {n m : Nat} {x : X} (h : Sz n m x) (v : List Int) : Sz n m (fdX x v) := by
  unfold fdX
  split
  · refine ⟨h.a, h.t, h.e, h.ei, by show (fdL _ _).length ≤ n; unfold fdL; rw [List.length_map]; exact h.n, fun z hz => ?_⟩
    obtain ⟨y, hy, rfl⟩ := List.mem_map.1 hz
    exact Nat.le_trans (List.length_filter_le _ _) (h.m y hy)
  · exact h
/-- What a value is that is read. -/
def vP (k : Int) (l : List Bs) : Value → World → Prop := fun v w => ∃ u, v = VV k u ∧ THas w u l
theorem vP_keeps (k : Int) (l : List Bs) : Keeps (vP k l) := fun _ _ _ ⟨u, e, h⟩ hb => ⟨u, e, h.later hb⟩
theorem three_rows (w : World) (c1 : Array Value) (t1 : TypeId) (c2 : Array Value) (t2 : TypeId) (c3 : Array Value) (t3 : TypeId) : Rw (((w.alloc (.cells c1 t1)).alloc (.cells c2 t2)).alloc (.cells c3 t3)) w.heap.size t1 c1 ∧ Rw (((w.alloc (.cells c1 t1)).alloc (.cells c2 t2)).alloc (.cells c3 t3)) (w.heap.size + 1) t2 c2 ∧ Rw (((w.alloc (.cells c1 t1)).alloc (.cells c2 t2)).alloc (.cells c3 t3)) (w.heap.size + 2) t3 c3 ∧ Below w.heap.size w (((w.alloc (.cells c1 t1)).alloc (.cells c2 t2)).alloc (.cells c3 t3)) := by
  have r1 := ((rw_new w t1 c1).alloc (.cells c2 t2)).alloc (.cells c3 t3)
  have r2 := (rw_new (w.alloc (.cells c1 t1)) t2 c2).alloc (.cells c3 t3)
  have r3 := rw_new ((w.alloc (.cells c1 t1)).alloc (.cells c2 t2)) t3 c3
  simp only [World.size_alloc, Nat.add_assoc, Nat.reduceAdd] at r2 r3
  exact ⟨r1, r2, r3, bel_alloc (bel_alloc (bel_alloc (Below.refl _ _) _) _) _⟩
end Go.Proofs.Ythekfmodafmlgaa
/- Arguments that are marks, dots, updates, ops, transactions. -/
namespace Go.Proofs.Ythekfmodafmlgaa
open Go.ChangeShapes Go.WideShapes Go.ChangeAt Go.RowKit

/-- A slice of ops that is nil, or lies somewhere. -/
def OIs (w : World) (v : Value) (l : List O) : Prop := l.length ≤ maxLen ∧ ((v = .slice none 0 0 ∧ l = []) ∨ ∃ ad c, v = .slice (some ad) l.length c ∧ (0 < l.length → ∃ g o, ad = ⟨g, o, none⟩ ∧ ∀ i (h : i < l.length), w.rangeAt g (o + i * 10) l[i].cells))
theorem OIs.has {w : World} {v : Value} {l : List O} (h : OIs w v l) : OHas w v l := by
  obtain ⟨hm, ⟨rfl, rfl⟩ | ⟨ad, c, rfl, hd⟩⟩ := h
  · exact ⟨none, 0, rfl, hm, fun h => by simp at h⟩
  · refine ⟨_, c, rfl, hm, fun h => ?_⟩
    obtain ⟨g, o, rfl, hd2⟩ := hd h
    exact ⟨g, o, rfl, hd2⟩
theorem OIs.later {w w' : World} {v : Value} {l : List O} (h : OIs w v l) (hb : Below w.heap.size w w') : OIs w' v l := by
  obtain ⟨hm, ⟨rfl, rfl⟩ | ⟨ad, c, rfl, hd⟩⟩ := h
  · exact ⟨hm, .inl ⟨rfl, rfl⟩⟩
  · refine ⟨hm, .inr ⟨ad, c, rfl, fun h => ?_⟩⟩
    obtain ⟨g, o, rfl, hd2⟩ := hd h
    exact ⟨g, o, rfl, fun i hi => range_later (hd2 i hi) hb⟩
theorem vals_of_ints : ∀ (cs : List Value), (∀ i (h : i < cs.length), ∃ n : Int, cs[i] = .int .i64 n) → ∃ l : List Int, cs = vals l
  | [], _ => ⟨[], rfl⟩
  | c :: cs, h => by
    obtain ⟨n, hn⟩ := h 0 (by simp)
    obtain ⟨l, hl⟩ := vals_of_ints cs (fun i hi => by have := h (i + 1) (by simpa using hi); simpa using this)
    refine ⟨n :: l, ?_⟩
    simp only [List.getElem_cons_zero] at hn
    rw [hn, hl]
    rfl

section
variable {H : Type} {enc : TypeId × Value → H} {w : World} {base : Nat} {spare : Nat → Bool} {held : Bool}
theorem c3 : Try.prog.cellsOf 3 = 1 := by kernel_rfl
theorem c9 : Try.prog.cellsOf 9 = 1 := by kernel_rfl
theorem c29 : Try.prog.cellsOf 29 = 2 := by kernel_rfl
theorem c31 : Try.prog.cellsOf 31 = 13 := by kernel_rfl
theorem c32 : Try.prog.cellsOf 32 = 1 := by kernel_rfl
theorem c40 : Try.prog.cellsOf 44 = 3 := by kernel_rfl
theorem c67 : Try.prog.cellsOf 66 = 10 := by kernel_rfl
theorem c34 : Try.prog.cellsOf 34 = 17 := by kernel_rfl
set_option maxRecDepth 100000 in
theorem cells_dot {fuel : Nat} {cs : List Value} {x : DataW H × List MemPlace} (h : DataW.trod enc Try.prog w base spare held fuel 29 cs = some x) : ∃ p s, cs = [.int .i64 p, .int .i64 s] := by
  obtain ⟨xs, k, rfl, _, hcl, hxl, hf⟩ := DataW.trod_struct Try.underlying29 h
  rw [c29] at hcl
  match xs, hxl, cs, hcl with
  | [y0, y1], _, [v0, v1], _ =>
    have g0 := hf 0 _ rfl
    have g1 := hf 1 _ rfl
    simp [c3] at g0 g1
    obtain ⟨n0, h0, _⟩ := DataW.trod_int Try.underlying3 g0
    obtain ⟨n1, h1, _⟩ := DataW.trod_int Try.underlying3 g1
    simp at h0 h1
    exact ⟨n0, n1, by rw [h0, h1]⟩
set_option maxRecDepth 100000 in
theorem cells_mark {fuel : Nat} {cs : List Value} {x : DataW H × List MemPlace} (h : DataW.trod enc Try.prog w base spare held fuel 44 cs = some x) : ∃ p s i, cs = [.int .i64 p, .int .i64 s, .int .i64 i] := by
  obtain ⟨xs, k, rfl, _, hcl, hxl, hf⟩ := DataW.trod_struct Try.underlying44 h
  rw [c40] at hcl
  match xs, hxl, cs, hcl with
  | [y0, y1], _, [v0, v1, v2], _ =>
    have g0 := hf 0 _ rfl
    have g1 := hf 1 _ rfl
    simp [c3, c29] at g0 g1
    obtain ⟨p, s, h0⟩ := cells_dot g0
    obtain ⟨n1, h1, _⟩ := DataW.trod_int Try.underlying3 g1
    simp at h0 h1
    exact ⟨p, s, n1, by rw [h0.1, h0.2, h1]⟩
set_option maxRecDepth 100000 in
theorem cells_op {fuel : Nat} {cs : List Value} {x : DataW H × List MemPlace} (h : DataW.trod enc Try.prog w base spare held fuel 66 cs = some x) : ∃ o : O, cs = o.cells := by
  obtain ⟨xs, k, rfl, _, hcl, hxl, hf⟩ := DataW.trod_struct Try.underlying66 h
  rw [c67] at hcl
  match xs, hxl, cs, hcl with
  | [y0, y1, y2, y3, y4, y5, y6, y7], _, [v0, v1, v2, v3, v4, v5, v6, v7, v8, v9], _ =>
    have g0 := hf 0 _ rfl
    have g1 := hf 1 _ rfl
    have g2 := hf 2 _ rfl
    have g3 := hf 3 _ rfl
    have g4 := hf 4 _ rfl
    have g5 := hf 5 _ rfl
    have g6 := hf 6 _ rfl
    have g7 := hf 7 _ rfl
    simp [c3, c9, c40] at g0 g1 g2 g3 g4 g5 g6 g7
    obtain ⟨n0, h0, _⟩ := DataW.trod_int Try.underlying3 g0
    obtain ⟨n1, h1, _⟩ := DataW.trod_string Try.underlying9 g1
    obtain ⟨n2, h2, _⟩ := DataW.trod_string Try.underlying9 g2
    obtain ⟨n3, h3, _⟩ := DataW.trod_int Try.underlying3 g3
    obtain ⟨n4, h4, _⟩ := DataW.trod_int Try.underlying3 g4
    obtain ⟨n5, h5, _⟩ := DataW.trod_int Try.underlying3 g5
    obtain ⟨n6, h6, _⟩ := DataW.trod_string Try.underlying9 g6
    obtain ⟨p, s, i, h7⟩ := cells_mark g7
    simp at h0 h1 h2 h3 h4 h5 h6 h7
    obtain ⟨h7, h8, h9⟩ := h7
    exact ⟨⟨n0, n1, n2, n3, n4, n5, n6, p, s, i⟩, by rw [h0, h1, h2, h3, h4, h5, h6, h7, h8, h9]⟩
set_option maxRecDepth 100000 in
theorem cells_ops {fuel : Nat} {cs : List Value} {x : DataW H × List MemPlace} (h : DataW.trod enc Try.prog w base spare held fuel 32 cs = some x) : ∃ (v : Value) (l : List O), cs = [v] ∧ OIs w v l := by
  rcases DataW.trod_slice Try.underlying32 h with ⟨h0, _⟩ | ⟨a, len, cap, elems, rest, m, hm, hcs, _, hba, hl, hmx, hlen, hel, _, _⟩
  · exact ⟨_, [], h0, Nat.zero_le _, .inl ⟨rfl, rfl⟩⟩
  · have each : ∀ i, i < len → ∃ o : O, ∀ j u, o.cells[j]? = some u → w.cell? (a.add (i * 10 + j)) = some u := by
      intro i hi
      have hi' := hel i hi
      rw [c67, List.getElem?_eq_getElem (by omega)] at hi'
      obtain ⟨cs', h1, h2⟩ := Option.bind_eq_some_iff.1 hi'
      obtain ⟨_, hlen', hcell⟩ := World.cells?_some h1
      obtain ⟨o, rfl⟩ := cells_op h2
      refine ⟨o, fun j u hu => ?_⟩
      have hj : j < 10 := (List.getElem?_eq_some_iff.1 hu).1
      have e := hcell j (by omega)
      rw [Deep.add_add] at e
      rw [e]
      exact hu
    have hinh : Inhabited O := ⟨⟨0, noS, noS, 0, 0, 0, noS, 0, 0, 0⟩⟩
    obtain ⟨f, hk⟩ := Deep.choose_lt each
    refine ⟨_, (List.range len).map f, hcs, by simp; omega, .inr ⟨a, cap, by simp, fun h0 => ?_⟩⟩
    have h0' : 0 < len := by simpa using h0
    obtain ⟨b, off, spot⟩ := a
    have q0 := hk 0 h0' 0 _ rfl
    have hspot : spot = none := by simpa [Addr.add] using World.cell?_spot q0
    subst hspot
    refine ⟨b, off, rfl, fun i hi j u hu => ?_⟩
    have hi' : i < len := by simpa using hi
    have := hk i hi' j u (by simpa using hu)
    rw [Addr.add_mid] at this
    rw [Nat.add_assoc]
    exact this
set_option maxRecDepth 100000 in
theorem cells_tx {fuel : Nat} {cs : List Value} {x : DataW H × List MemPlace} (h : DataW.trod enc Try.prog w base spare held fuel 34 cs = some x) : ∃ (p s : Int) (v : List Int) (t : Int) (sl : Value) (l : List O), cs = txc p s v t sl ∧ v.length = 13 ∧ OIs w sl l := by
  obtain ⟨xs, k, rfl, _, hcl, hxl, hf⟩ := DataW.trod_struct Try.underlying34 h
  rw [c34] at hcl
  match xs, hxl with
  | [y0, y1, y2, y3], _ =>
    have g0 := hf 0 _ rfl
    have g1 := hf 1 _ rfl
    have g2 := hf 2 _ rfl
    have g3 := hf 3 _ rfl
    simp [c3, c29, c31, c32] at g0 g1 g2 g3
    obtain ⟨p, s, h0⟩ := cells_dot g0
    obtain ⟨xs1, m, _, _, hlen, hxs, hi⟩ := DataW.trod_array Try.underlying31 g1
    obtain ⟨v, hv⟩ := vals_of_ints ((cs.drop 2).take 13) (fun i hlt => by
      have hi13 : i < 13 := by simp at hlt; omega
      have hq := hi i hi13
      rw [c3, List.getElem?_eq_getElem (show i < xs1.length by omega)] at hq
      obtain ⟨n, hn, _⟩ := DataW.trod_int Try.underlying3 hq
      refine ⟨n, ?_⟩
      rw [Nat.mul_one, List.drop_eq_getElem_cons hlt] at hn
      simpa using hn)
    have hv13 : v.length = 13 := by
      have := congrArg List.length hv
      rw [vals_length] at this
      simp at this
      omega
    obtain ⟨t, h2, _⟩ := DataW.trod_int Try.underlying3 g2
    obtain ⟨sl, l, h3, hl⟩ := cells_ops g3
    refine ⟨p, s, v, t, sl, l, ?_, hv13, hl⟩
    unfold txc
    rw [← hv]
    match cs, hcl with
    | [a0, a1, a2, a3, a4, a5, a6, a7, a8, a9, a10, a11, a12, a13, a14, a15, a16], _ =>
      simp at h0 h2 h3 ⊢
      exact ⟨h0.1, h0.2, h2, h3⟩


theorem rows_split {α : Type} {f : α → List Value} {S : Nat} (hf : ∀ x, (f x).length = S) : ∀ (l : List α) (j : Nat) (u : Value), (rows f l)[j]? = some u → ∃ i r, ∃ h : i < l.length, r < S ∧ j = i * S + r ∧ (f l[i])[r]? = some u
  | [], j, u, h => by simp [rows] at h
  | x :: l, j, u, h => by
    rw [rows_cons] at h
    rcases Nat.lt_or_ge j S with hj | hj
    · rw [List.getElem?_append_left (by rw [hf]; exact hj)] at h
      exact ⟨0, j, by simp, hj, by omega, h⟩
    · rw [List.getElem?_append_right (by rw [hf]; exact hj), hf] at h
      obtain ⟨i, r, hi, hr, e, hu⟩ := rows_split hf l (j - S) u h
      exact ⟨i + 1, r, by simpa using hi, hr, by rw [Nat.succ_mul]; omega, hu⟩
theorem c4 : Try.prog.cellsOf 4 = 1 := by kernel_rfl
theorem c22 : Try.prog.cellsOf 22 = 1 := by kernel_rfl
theorem c23 : Try.prog.cellsOf 23 = 1 := by kernel_rfl
theorem c24 : Try.prog.cellsOf 24 = 1 := by kernel_rfl
theorem c25 : Try.prog.cellsOf 25 = 1 := by kernel_rfl
theorem c27 : Try.prog.cellsOf 27 = 6 := by kernel_rfl
theorem c42 : Try.prog.cellsOf 73 = 4 := by kernel_rfl
theorem c58 : Try.prog.cellsOf 61 = 5 := by kernel_rfl
theorem c59 : Try.prog.cellsOf 39 = 1 := by kernel_rfl
theorem c61 : Try.prog.cellsOf 41 = 3 := by kernel_rfl
theorem c63 : Try.prog.cellsOf 63 = 9 := by kernel_rfl
theorem by42 : Try.prog.bytesOf 73 = 32 := by kernel_rfl
theorem by58 : Try.prog.bytesOf 61 = 48 := by kernel_rfl
theorem by61 : Try.prog.bytesOf 41 = 48 := by kernel_rfl
theorem by63 : Try.prog.bytesOf 63 = 96 := by kernel_rfl
set_option maxRecDepth 100000 in
/-- A slice whose elements are known one by one. -/
theorem cells_rows {α : Type} [Inhabited α] {ts e S : Nat} (hu : Try.prog.underlying ts = some (.slice e)) (hS : Try.prog.cellsOf e = S) (hS0 : 0 < S) (f : α → List Value) (Pr : α → Prop) (hf : ∀ y, (f y).length = S)
    (each : ∀ (fuel : Nat) (cs : List Value) (x : DataW H × List MemPlace), DataW.trod enc Try.prog w base spare held fuel e cs = some x → ∃ y, cs = f y ∧ Pr y) {fuel : Nat} {cs : List Value} {x : DataW H × List MemPlace} (h : DataW.trod enc Try.prog w base spare held fuel ts cs = some x) :
    ∃ (v : Value) (l : List α), cs = [v] ∧ SHas S w v l.length (rows f l) ∧ (∀ y ∈ l, Pr y) ∧ ∀ b, (DataW.weights Try.prog ts x.1).all (· ≤ b) = true → l.length * Try.prog.bytesOf e ≤ b := by
  rcases DataW.trod_slice hu h with ⟨h0, hx⟩ | ⟨a, len, cap, elems, rest, m, hm, hcs, hx, hba, hl, hmx, hlen, hel, _, _⟩
  · exact ⟨_, [], h0, SHas.nil w S, (fun _ h => by cases h), fun b _ => by simp⟩
  · have one : ∀ i, i < len → ∃ y : α, (∀ j u, (f y)[j]? = some u → w.cell? (a.add (i * S + j)) = some u) ∧ Pr y := by
      intro i hi
      have hi' := hel i hi
      rw [hS, List.getElem?_eq_getElem (by omega)] at hi'
      obtain ⟨cs', h1, h2⟩ := Option.bind_eq_some_iff.1 hi'
      obtain ⟨_, hlen', hcell⟩ := World.cells?_some h1
      obtain ⟨y, rfl, hy⟩ := each _ _ _ h2
      refine ⟨y, fun j u hu => ?_, hy⟩
      have hj : j < S := by have := (List.getElem?_eq_some_iff.1 hu).1; rw [hf] at this; exact this
      have e := hcell j (by omega)
      rw [Deep.add_add] at e
      rw [e]
      exact hu
    obtain ⟨g, hk⟩ := Deep.choose_lt one
    have hll : ((List.range len).map g).length = len := by simp
    refine ⟨_, (List.range len).map g, hcs, ⟨by rw [hll]; omega, by rw [rows_length hf], .inr ⟨a, cap, by rw [hll], ⟨by rw [hll]; omega, by omega⟩, fun h0 => ?_⟩⟩, ?_, ?_⟩
    · have h0' : 0 < len := by simpa using h0
      obtain ⟨b, off, spot⟩ := a
      obtain ⟨u0, hu0⟩ : ∃ u0, (f (g 0))[0]? = some u0 := ⟨(f (g 0))[0]'(by rw [hf]; exact hS0), List.getElem?_eq_getElem _⟩
      have q0 := (hk 0 h0').1 0 _ hu0
      have hspot : spot = none := by simpa [Addr.add] using World.cell?_spot q0
      subst hspot
      refine ⟨b, off, rfl, fun j u hu => ?_⟩
      obtain ⟨i, r, hi, hr, rfl, hq⟩ := rows_split hf _ j u hu
      have hi' : i < len := by simpa using hi
      have := (hk i hi').1 r u (by simpa using hq)
      rw [Addr.add_mid] at this
      exact this
    · intro y hy
      obtain ⟨i, hi, rfl⟩ := List.mem_map.1 hy
      exact (hk i (by simpa using hi)).2
    · intro b hb
      rw [hx] at hb
      simp only [DataW.weights, hu, List.all_cons, Bool.and_eq_true, decide_eq_true_eq, List.length_map] at hb
      rw [hll, ← hlen]
      exact Nat.le_trans (Nat.mul_le_mul_right _ (Nat.le_add_right _ _)) hb.1
set_option maxRecDepth 100000 in
theorem cells_amount {fuel : Nat} {cs : List Value} {x : DataW H × List MemPlace} (h : DataW.trod enc Try.prog w base spare held fuel 73 cs = some x) : ∃ y : A, cs = y.cells := by
  obtain ⟨xs, k, rfl, _, hcl, hxl, hf⟩ := DataW.trod_struct Try.underlying73 h
  rw [c42] at hcl
  match xs, hxl, cs, hcl with
  | [y0, y1], _, [v0, v1, v2, v3], _ =>
    have g0 := hf 0 _ rfl
    have g1 := hf 1 _ rfl
    simp [c3, c40] at g0 g1
    obtain ⟨p, s, i, h0⟩ := cells_mark g0
    obtain ⟨n1, h1, _⟩ := DataW.trod_int Try.underlying3 g1
    simp at h0 h1
    exact ⟨⟨p, s, i, n1⟩, by rw [h0.1, h0.2.1, h0.2.2, h1]⟩
set_option maxRecDepth 100000 in
theorem cells_write {fuel : Nat} {cs : List Value} {x : DataW H × List MemPlace} (h : DataW.trod enc Try.prog w base spare held fuel 61 cs = some x) : ∃ y : Wt, cs = y.cells := by
  obtain ⟨xs, k, rfl, _, hcl, hxl, hf⟩ := DataW.trod_struct Try.underlying61 h
  rw [c58] at hcl
  match xs, hxl, cs, hcl with
  | [y0, y1, y2], _, [v0, v1, v2, v3, v4], _ =>
    have g0 := hf 0 _ rfl
    have g1 := hf 1 _ rfl
    have g2 := hf 2 _ rfl
    simp [c3, c9, c40] at g0 g1 g2
    obtain ⟨p, s, i, h0⟩ := cells_mark g0
    obtain ⟨n1, h1, _⟩ := DataW.trod_int Try.underlying3 g1
    obtain ⟨n2, h2, _⟩ := DataW.trod_string Try.underlying9 g2
    simp at h0 h1 h2
    exact ⟨⟨p, s, i, n1, n2⟩, by rw [h0.1, h0.2.1, h0.2.2, h1, h2]⟩
set_option maxRecDepth 100000 in
theorem cells_marks {fuel : Nat} {cs : List Value} {x : DataW H × List MemPlace} (h : DataW.trod enc Try.prog w base spare held fuel 39 cs = some x) : ∃ (v : Value) (l : List M), cs = [v] ∧ MHas w v l := by
  have hinh : Inhabited M := ⟨⟨0, 0, 0⟩⟩
  obtain ⟨v, l, h1, h2, _⟩ := cells_rows (α := M) Try.underlying39 c40 (by decide) M.cells (fun _ => True) M.len (fun fuel cs x hx => by
    obtain ⟨p, s, i, e⟩ := cells_mark hx
    exact ⟨⟨p, s, i⟩, e, trivial⟩) h
  exact ⟨v, l, h1, h2⟩
set_option maxRecDepth 100000 in
theorem cells_member {fuel : Nat} {cs : List Value} {x : DataW H × List MemPlace} (h : DataW.trod enc Try.prog w base spare held fuel 41 cs = some x) : ∃ y : Mb × Value, cs = Mb.cells y ∧ MHas w y.2 y.1.ms := by
  obtain ⟨xs, k, rfl, _, hcl, hxl, hf⟩ := DataW.trod_struct Try.underlying41 h
  rw [c61] at hcl
  match xs, hxl, cs, hcl with
  | [y0, y1, y2], _, [v0, v1, v2], _ =>
    have g0 := hf 0 _ rfl
    have g1 := hf 1 _ rfl
    have g2 := hf 2 _ rfl
    simp [c9, c4, c59] at g0 g1 g2
    obtain ⟨n0, h0, _⟩ := DataW.trod_string Try.underlying9 g0
    obtain ⟨n1, h1, _⟩ := DataW.trod_bool Try.underlying4 g1
    obtain ⟨v, l, h2, hm⟩ := cells_marks g2
    simp at h0 h1 h2
    exact ⟨(⟨n0, n1, l⟩, v), by rw [h0, h1, h2], hm⟩
set_option maxRecDepth 100000 in
theorem cells_elem {fuel : Nat} {cs : List Value} {x : DataW H × List MemPlace} (h : DataW.trod enc Try.prog w base spare held fuel 63 cs = some x) : ∃ y : El × Value, cs = El.cells y ∧ MHas w y.2 y.1.gone := by
  obtain ⟨xs, k, rfl, _, hcl, hxl, hf⟩ := DataW.trod_struct Try.underlying63 h
  rw [c63] at hcl
  match xs, hxl, cs, hcl with
  | [y0, y1, y2, y3, y4], _, [v0, v1, v2, v3, v4, v5, v6, v7, v8], _ =>
    have g0 := hf 0 _ rfl
    have g1 := hf 1 _ rfl
    have g2 := hf 2 _ rfl
    have g3 := hf 3 _ rfl
    have g4 := hf 4 _ rfl
    simp [c9, c3, c40, c59] at g0 g1 g2 g3 g4
    obtain ⟨p, s, i, h0⟩ := cells_mark g0
    obtain ⟨n1, h1, _⟩ := DataW.trod_int Try.underlying3 g1
    obtain ⟨q, u, j, h2⟩ := cells_mark g2
    obtain ⟨n3, h3, _⟩ := DataW.trod_string Try.underlying9 g3
    obtain ⟨v, l, h4, hm⟩ := cells_marks g4
    simp at h0 h1 h2 h3 h4
    exact ⟨(⟨p, s, i, n1, q, u, j, n3, l⟩, v), by rw [h0.1, h0.2.1, h0.2.2, h1, h2.1, h2.2.1, h2.2.2, h3, h4], hm⟩
set_option maxRecDepth 100000 in
theorem cells_cell {fuel : Nat} {cs : List Value} {d : DataW H × List MemPlace} (h : DataW.trod enc Try.prog w base spare held fuel 27 cs = some d) : ∃ (x : X) (va vw vm ve : Value), cs = (cvc x.k x.b va vw vm ve).toList ∧ Four w x va vw vm ve ∧ ((DataW.weights Try.prog 27 d.1).all (· ≤ reachBytes) = true → Lk x) := by
  obtain ⟨xs, k, rfl, hd, hcl, hxl, hf⟩ := DataW.trod_struct Try.underlying27 h
  rw [c27] at hcl
  match xs, hxl, cs, hcl with
  | [y0, y1, y2, y3, y4, y5], _, [v0, v1, v2, v3, v4, v5], _ =>
    have g0 := hf 0 _ rfl
    have g1 := hf 1 _ rfl
    have g2 := hf 2 _ rfl
    have g3 := hf 3 _ rfl
    have g4 := hf 4 _ rfl
    have g5 := hf 5 _ rfl
    simp [c3, c22, c23, c24, c25] at g0 g1 g2 g3 g4 g5
    obtain ⟨n0, h0, _⟩ := DataW.trod_int Try.underlying3 g0
    obtain ⟨n1, h1, _⟩ := DataW.trod_int Try.underlying3 g1
    have i1 : Inhabited A := ⟨⟨0, 0, 0, 0⟩⟩
    have i2 : Inhabited Wt := ⟨⟨0, 0, 0, 0, noS⟩⟩
    have i3 : Inhabited (Mb × Value) := ⟨(⟨noS, false, []⟩, .bool false)⟩
    have i4 : Inhabited (El × Value) := ⟨(⟨0, 0, 0, 0, 0, 0, 0, noS, []⟩, .bool false)⟩
    obtain ⟨va, la, h2, ha, _, wa⟩ := cells_rows (α := A) Try.underlying22 c42 (by decide) A.cells (fun _ => True) A.len (fun fuel cs x hx => by
      obtain ⟨y, e⟩ := cells_amount hx
      exact ⟨y, e, trivial⟩) g2
    obtain ⟨vw, lw, h3, hw, _, ww⟩ := cells_rows (α := Wt) Try.underlying23 c58 (by decide) Wt.cells (fun _ => True) Wt.len (fun fuel cs x hx => by
      obtain ⟨y, e⟩ := cells_write hx
      exact ⟨y, e, trivial⟩) g3
    obtain ⟨vm, lm, h4, hm, pm, wm⟩ := cells_rows (α := Mb × Value) Try.underlying24 c61 (by decide) Mb.cells (fun y => MHas w y.2 y.1.ms) Mb.len (fun fuel cs x hx => cells_member hx) g4
    obtain ⟨ve, le, h5, he, pe, we⟩ := cells_rows (α := El × Value) Try.underlying25 c63 (by decide) El.cells (fun y => MHas w y.2 y.1.gone) El.len (fun fuel cs x hx => cells_elem hx) g5
    simp at h0 h1 h2 h3 h4 h5
    refine ⟨⟨n0, n1, la, lw, lm.map (·.1), le.map (·.1)⟩, va, vw, vm, ve, by rw [h0, h1, h2, h3, h4, h5], ⟨ha, hw, ⟨lm, rfl, by rw [List.length_map]; exact hm, pm⟩, ⟨le, rfl, by rw [List.length_map]; exact he, pe⟩⟩, fun hb => ?_⟩
    rw [hd] at hb
    simp only [DataW.weights, Try.underlying27, List.map_cons, List.map_nil, DataW.weightsEach, List.all_append, Bool.and_eq_true] at hb
    obtain ⟨_, _, b2, b3, b4, b5, _⟩ := hb
    have q2 := wa _ b2
    have q3 := ww _ b3
    have q4 := wm _ b4
    have q5 := we _ b5
    rw [by42] at q2
    rw [by58] at q3
    rw [by61] at q4
    rw [by63] at q5
    have hr : reachBytes = 140737488351232 := rfl
    rw [hr] at q2 q3 q4 q5
    exact ⟨by show la.length ≤ _; omega, by show lw.length ≤ _; omega, by show (lm.map _).length ≤ _; rw [List.length_map]; omega, by show (le.map _).length ≤ _; rw [List.length_map]; omega⟩

variable {r : Reach} {b0 : Nat} {v : Value} {d : DataW H} {ps : List MemPlace}
set_option maxRecDepth 100000 in
theorem open_tx (hval : Value.okWide Try.prog w r b0 34 v) (hd : DataW.Trod enc Try.prog w base spare held 34 v d ps) : ∃ (p s : Int) (u : List Int) (t : Int) (sl : Value) (l : List O), v = TxV p s u t sl ∧ u.length = 13 ∧ OIs w sl l := by
  obtain ⟨fuel, hf⟩ := hd
  simp only [Value.okWide, Try.underlying34] at hval
  obtain ⟨cs, rfl, _⟩ := hval
  obtain ⟨p, s, u, t, sl, l, e, hu, hl⟩ := cells_tx hf
  exact ⟨p, s, u, t, sl, l, by rw [show cs = (txc p s u t sl).toArray from Array.toList_inj.1 e], hu, hl⟩
set_option maxRecDepth 100000 in
theorem open_cell (hval : Value.okWide Try.prog w r b0 27 v) (hd : DataW.Trod enc Try.prog w base spare held 27 v d ps) : ∃ (x : X) (va vw vm ve : Value), v = CV x.k x.b va vw vm ve ∧ Four w x va vw vm ve ∧ ((DataW.weights Try.prog 27 d).all (· ≤ reachBytes) = true → Lk x) := by
  obtain ⟨fuel, hf⟩ := hd
  simp only [Value.okWide, Try.underlying27] at hval
  obtain ⟨cs, rfl, _⟩ := hval
  obtain ⟨x, va, vw, vm, ve, e, h1, h2⟩ := cells_cell hf
  exact ⟨x, va, vw, vm, ve, by rw [show cs = cvc x.k x.b va vw vm ve from Array.toList_inj.1 e], h1, h2⟩
set_option maxRecDepth 100000 in
theorem open_vec (hval : Value.okWide Try.prog w r b0 31 v) (hd : DataW.Trod enc Try.prog w base spare held 31 v d ps) : ∃ l : List Int, v = V l ∧ l.length = 13 := by
  obtain ⟨fuel, hf⟩ := hd
  simp only [Value.okWide, Try.underlying31] at hval
  obtain ⟨cs, rfl, _⟩ := hval
  obtain ⟨xs1, m, _, _, hlen, hxs, hi⟩ := DataW.trod_array Try.underlying31 hf
  obtain ⟨u, hu⟩ := vals_of_ints (Value.agg cs).cells.toList (fun i hlt => by
    have hi13 : i < 13 := by rw [hlen, c31] at hlt; exact hlt
    have hq := hi i hi13
    rw [c3, List.getElem?_eq_getElem (show i < xs1.length by omega)] at hq
    obtain ⟨n, hn, _⟩ := DataW.trod_int Try.underlying3 hq
    refine ⟨n, ?_⟩
    rw [Nat.mul_one, List.drop_eq_getElem_cons hlt] at hn
    simpa using hn)
  have e : cs.toList = vals u := hu
  refine ⟨u, by rw [show cs = (vals u).toArray from Array.toList_inj.1 e], ?_⟩
  have := congrArg List.length e
  rw [vals_length] at this
  rw [← this]
  have h2 := hlen
  rw [c31] at h2
  exact h2
end
end Go.Proofs.Ythekfmodafmlgaa
