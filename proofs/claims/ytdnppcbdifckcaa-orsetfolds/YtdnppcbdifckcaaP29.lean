import Derived.Test.YtdnppcbdifckcaaP26
import Derived.Test.YtdnppcbdifckcaaP27
import Derived.Test.YtdnppcbdifckcaaP28
import Derived.Test.YtdnppcbdifckcaaP3
/- heads: what must come at any rate. -/
namespace Go.Proofs.Ytdnppcbdifckcaa
open Go.RowKit Go.Sort

abbrev sA : ByteArray := ⟨#[97]⟩
abbrev sB : ByteArray := ⟨#[98]⟩
def hX1 : List Mb := [⟨sA, false, [⟨1, 1, 1⟩]⟩]
def hX2 : List Mb := [⟨sA, false, [⟨1, 1, 1⟩]⟩, ⟨sB, false, [⟨1, 1, 2⟩]⟩]
def hXf : List Mb := [⟨sA, true, []⟩, ⟨sB, true, []⟩]
abbrev hV : List Int := [0, 1, 0, 0, 0, 0, 0, 0, 0, 0, 0, 0, 0]
theorem add1 : addX (x4 []) ⟨1, 1, 1⟩ sA = x4 hX1 := by rfl
theorem add2 : addX (x4 hX1) ⟨1, 1, 2⟩ sB = x4 hX2 := by rfl
theorem fd1 : fdX (x4 hX2) hV = x4 hXf := by rfl
theorem del1 : delX (x4 hX1) 2 1 zeros 1 sA = x4 hX1 := by rfl
theorem del2 : delX (x4 hX1) 3 1 hV 1 sA = x4 [] := by rfl
theorem cl1 : clX (x4 hXf) 3 1 hV 1 = x4 [] := by rfl
theorem ckf : ck (x4 hXf) = true := by rfl
theorem rd0 : rdT (x4 []) = [] := by rfl
theorem rd1 : rdT (x4 hX1) = [[97]] := by rfl
theorem rd2 : rdT (x4 hX2) = [[97], [98]] := by rfl
theorem rk0 : rdK (x4 []) = 4 := by rfl
theorem rk1 : rdK (x4 hX1) = 4 := by rfl
theorem rk2 : rdK (x4 hX2) = 4 := by rfl
theorem sm_x4 {l : List Mb} (h : l.length ≤ 100) (h2 : ∀ m ∈ l, m.ms.length ≤ 100) : Sm (x4 l) := ⟨Nat.zero_le _, Nat.zero_le _, h, Nat.zero_le _, h2, fun _ h => by cases h⟩
theorem sm0 : Sm (x4 []) := sm_x4 (by decide) (fun _ h => by cases h)
theorem sm1 : Sm (x4 hX1) := sm_x4 (by decide) (fun m h => by
  rw [List.mem_singleton.1 h]
  decide)
theorem sm2 : Sm (x4 hX2) := sm_x4 (by decide) (fun m h => by
  simp only [hX2, List.mem_cons, List.not_mem_nil, or_false] at h
  rcases h with rfl | rfl <;> decide)
theorem smf : Sm (x4 hXf) := sm_x4 (by decide) (fun m h => by
  simp only [hXf, List.mem_cons, List.not_mem_nil, or_false] at h
  rcases h with rfl | rfl <;> decide)
theorem field48_2 (k : Int) (p : Option Addr) (n c : Nat) (w : World) : (Instr.field 48 (VV k (.slice p n c)) 2).run Try.prog w = .ok (.slice p n c) w := by
  simp [Instr.field, go_sem, asAgg]
theorem field27_4 (k b : Int) (va vw ve : Value) (p : Option Addr) (n c : Nat) (w : World) : (Instr.field 27 (CV k b va vw (.slice p n c) ve) 4).run Try.prog w = .ok (.slice p n c) w := by
  simp [Instr.field, go_sem, asAgg]
theorem four_nil (w : World) : Four w (x4 []) (.slice none 0 0) (.slice none 0 0) (.slice none 0 0) (.slice none 0 0) := ⟨AHas.nil w, WHas.nil w, BHas.nil w, EHas.nil w⟩
/-- What is answered is a set of so many members. -/
def Gives4 (l : List Mb) (n : Nat) (w : World) (e : Ending) (w' : World) : Prop := ∃ pa c1 pw c2 pm c3 pe c4, e = .returned (CV 4 0 (.slice pa 0 c1) (.slice pw 0 c2) (.slice pm n c3) (.slice pe 0 c4)) ∧ Four w' (x4 l) (.slice pa 0 c1) (.slice pw 0 c2) (.slice pm n c3) (.slice pe 0 c4) ∧ Below w.heap.size w w'
theorem gives4 {l : List Mb} {n : Nat} (hn : l.length = n) {w : World} {e : Ending} {w' : World} (h : Gives (x4 l) w e w') : Gives4 l n w e w' := by
  obtain ⟨ua, uw, um, ue, he, hf, hb⟩ := h
  obtain ⟨pa, c1, pw, c2, pm, c3, pe, c4, rfl, rfl, rfl, rfl⟩ := hf.slices
  subst hn
  exact ⟨pa, c1, pw, c2, pm, c3, pe, c4, he, hf, hb⟩
def Reads (l : List Bs) (n : Nat) (w : World) (e : Ending) (w' : World) : Prop := ∃ p c, e = .returned (VV 4 (.slice p n c)) ∧ THas w' (.slice p n c) l ∧ Below w.heap.size w w'
theorem reads4 {l : List Mb} {r : List Bs} {n : Nat} (hk : rdK (x4 l) = 4) (hr : rdT (x4 l) = r) (hn : r.length = n) {w : World} {e : Ending} {w' : World} (h : RdPost (x4 l) w e w') : Reads r n w e w' := by
  obtain ⟨u, he, ht, hb⟩ := h
  rw [hk] at he
  rw [hr] at ht
  obtain ⟨p, c, rfl⟩ := ht.slice
  subst hn
  exact ⟨p, c, he, ht, hb⟩
theorem heads_f {w : World} {p : Option Addr} {c : Nat} (h : BHas w (.slice p 2 c) hXf) : ∃ g o p0 c0, p = some ⟨g, o, none⟩ ∧ w.cell? ⟨g, o + 1, none⟩ = some (.bool true) ∧ w.cell? ⟨g, o + 2, none⟩ = some (.slice p0 0 c0) := by
  obtain ⟨ys, h1, h2, h3⟩ := h
  obtain ⟨g, o, rfl, hd⟩ := SHas.at (n := 2) h2 (by decide)
  match ys, h1 with
  | y0 :: ys, h1 =>
    have e0 : y0.1 = ⟨sA, true, []⟩ := by
      have := congrArg (·[0]?) h1
      simpa [hXf] using this
    obtain ⟨p0, c0, hs⟩ := (h3 y0 (by simp)).slice
    rw [e0] at hs
    refine ⟨g, o, p0, c0, rfl, hd 1 _ ?_, hd 2 _ ?_⟩
    · rw [rows_cons]
      show some (Value.bool y0.1.b) = _
      rw [e0]
    · rw [rows_cons]
      show some y0.2 = _
      rw [hs]
      rfl
theorem thas_lit (w : World) (l : List Bs) (hl : l.length ≤ 100) : THas (w.alloc (.cells (l.map encStr).toArray 9)) (.slice (some ⟨w.heap.size, 0, none⟩) l.length l.length) l := by
  refine ⟨by unfold maxLen; omega, by simp, .inr ⟨_, _, rfl, ⟨Nat.le_refl _, by unfold maxLen; omega⟩, fun _ => ⟨_, _, rfl, ?_⟩⟩⟩
  exact Rw.whole (cs := l.map encStr) (rw_new w 9 _)
set_option maxHeartbeats 8000000 in
set_option maxRecDepth 100000 in
theorem heads_any (w : World) : Calls Try.prog 10 #[] w (Tells (.bool true) w) := by
  have r1 := rw_new w 34 #[.int .i64 0, .int .i64 0, .int .i64 0, .int .i64 0, .int .i64 0, .int .i64 0, .int .i64 0, .int .i64 0, .int .i64 0, .int .i64 0, .int .i64 0, .int .i64 0, .int .i64 0, .int .i64 0, .int .i64 0, .int .i64 0, .slice none 0 0]
  have b1 := bel_alloc (Below.refl w.heap.size w) (.cells #[.int .i64 0, .int .i64 0, .int .i64 0, .int .i64 0, .int .i64 0, .int .i64 0, .int .i64 0, .int .i64 0, .int .i64 0, .int .i64 0, .int .i64 0, .int .i64 0, .int .i64 0, .int .i64 0, .int .i64 0, .int .i64 0, .slice none 0 0] 34)
  have s1 : (w.alloc (.cells #[.int .i64 0, .int .i64 0, .int .i64 0, .int .i64 0, .int .i64 0, .int .i64 0, .int .i64 0, .int .i64 0, .int .i64 0, .int .i64 0, .int .i64 0, .int .i64 0, .int .i64 0, .int .i64 0, .int .i64 0, .int .i64 0, .slice none 0 0] 34)).heap.size = w.heap.size + 1 := by simp
  generalize hW1 : w.alloc (.cells #[.int .i64 0, .int .i64 0, .int .i64 0, .int .i64 0, .int .i64 0, .int .i64 0, .int .i64 0, .int .i64 0, .int .i64 0, .int .i64 0, .int .i64 0, .int .i64 0, .int .i64 0, .int .i64 0, .int .i64 0, .int .i64 0, .slice none 0 0] 34) = v1 at r1 b1 s1
  have R0 := r1.row #[.int .i64 1, .int .i64 1, .int .i64 0, .int .i64 0, .int .i64 0, .int .i64 0, .int .i64 0, .int .i64 0, .int .i64 0, .int .i64 0, .int .i64 0, .int .i64 0, .int .i64 0, .int .i64 0, .int .i64 0, .int .i64 0, .slice none 0 0]
  replace b1 := below_setRow b1 (g := w.heap.size) (by omega) #[.int .i64 1, .int .i64 1, .int .i64 0, .int .i64 0, .int .i64 0, .int .i64 0, .int .i64 0, .int .i64 0, .int .i64 0, .int .i64 0, .int .i64 0, .int .i64 0, .int .i64 0, .int .i64 0, .int .i64 0, .int .i64 0, .slice none 0 0]
  replace s1 : (v1.setRow w.heap.size #[.int .i64 1, .int .i64 1, .int .i64 0, .int .i64 0, .int .i64 0, .int .i64 0, .int .i64 0, .int .i64 0, .int .i64 0, .int .i64 0, .int .i64 0, .int .i64 0, .int .i64 0, .int .i64 0, .int .i64 0, .int .i64 0, .slice none 0 0]).heap.size = w.heap.size + 1 := by simpa [World.setRow] using s1
  generalize hU1 : v1.setRow w.heap.size #[.int .i64 1, .int .i64 1, .int .i64 0, .int .i64 0, .int .i64 0, .int .i64 0, .int .i64 0, .int .i64 0, .int .i64 0, .int .i64 0, .int .i64 0, .int .i64 0, .int .i64 0, .int .i64 0, .int .i64 0, .int .i64 0, .slice none 0 0] = u1 at R0 b1 s1
  have r2 := rw_new u1 34 #[.int .i64 0, .int .i64 0, .int .i64 0, .int .i64 0, .int .i64 0, .int .i64 0, .int .i64 0, .int .i64 0, .int .i64 0, .int .i64 0, .int .i64 0, .int .i64 0, .int .i64 0, .int .i64 0, .int .i64 0, .int .i64 0, .slice none 0 0]
  have b2 := bel_alloc b1 (.cells #[.int .i64 0, .int .i64 0, .int .i64 0, .int .i64 0, .int .i64 0, .int .i64 0, .int .i64 0, .int .i64 0, .int .i64 0, .int .i64 0, .int .i64 0, .int .i64 0, .int .i64 0, .int .i64 0, .int .i64 0, .int .i64 0, .slice none 0 0] 34)
  have s2 : (u1.alloc (.cells #[.int .i64 0, .int .i64 0, .int .i64 0, .int .i64 0, .int .i64 0, .int .i64 0, .int .i64 0, .int .i64 0, .int .i64 0, .int .i64 0, .int .i64 0, .int .i64 0, .int .i64 0, .int .i64 0, .int .i64 0, .int .i64 0, .slice none 0 0] 34)).heap.size = w.heap.size + 2 := by simp [s1]
  replace R0 := R0.alloc (.cells #[.int .i64 0, .int .i64 0, .int .i64 0, .int .i64 0, .int .i64 0, .int .i64 0, .int .i64 0, .int .i64 0, .int .i64 0, .int .i64 0, .int .i64 0, .int .i64 0, .int .i64 0, .int .i64 0, .int .i64 0, .int .i64 0, .slice none 0 0] 34)
  generalize hW2 : u1.alloc (.cells #[.int .i64 0, .int .i64 0, .int .i64 0, .int .i64 0, .int .i64 0, .int .i64 0, .int .i64 0, .int .i64 0, .int .i64 0, .int .i64 0, .int .i64 0, .int .i64 0, .int .i64 0, .int .i64 0, .int .i64 0, .int .i64 0, .slice none 0 0] 34) = v2 at r2 b2 s2 R0
  rw [s1] at r2
  have R1 := r2.row #[.int .i64 2, .int .i64 1, .int .i64 0, .int .i64 0, .int .i64 0, .int .i64 0, .int .i64 0, .int .i64 0, .int .i64 0, .int .i64 0, .int .i64 0, .int .i64 0, .int .i64 0, .int .i64 0, .int .i64 0, .int .i64 0, .slice none 0 0]
  replace R0 := R0.rowOther (q := w.heap.size + 1) (by omega) #[.int .i64 2, .int .i64 1, .int .i64 0, .int .i64 0, .int .i64 0, .int .i64 0, .int .i64 0, .int .i64 0, .int .i64 0, .int .i64 0, .int .i64 0, .int .i64 0, .int .i64 0, .int .i64 0, .int .i64 0, .int .i64 0, .slice none 0 0]
  replace b2 := below_setRow b2 (g := w.heap.size + 1) (by omega) #[.int .i64 2, .int .i64 1, .int .i64 0, .int .i64 0, .int .i64 0, .int .i64 0, .int .i64 0, .int .i64 0, .int .i64 0, .int .i64 0, .int .i64 0, .int .i64 0, .int .i64 0, .int .i64 0, .int .i64 0, .int .i64 0, .slice none 0 0]
  replace s2 : (v2.setRow (w.heap.size + 1) #[.int .i64 2, .int .i64 1, .int .i64 0, .int .i64 0, .int .i64 0, .int .i64 0, .int .i64 0, .int .i64 0, .int .i64 0, .int .i64 0, .int .i64 0, .int .i64 0, .int .i64 0, .int .i64 0, .int .i64 0, .int .i64 0, .slice none 0 0]).heap.size = w.heap.size + 2 := by simpa [World.setRow] using s2
  generalize hU2 : v2.setRow (w.heap.size + 1) #[.int .i64 2, .int .i64 1, .int .i64 0, .int .i64 0, .int .i64 0, .int .i64 0, .int .i64 0, .int .i64 0, .int .i64 0, .int .i64 0, .int .i64 0, .int .i64 0, .int .i64 0, .int .i64 0, .int .i64 0, .int .i64 0, .slice none 0 0] = u2 at R0 R1 b2 s2
  have r3 := rw_new u2 34 #[.int .i64 0, .int .i64 0, .int .i64 0, .int .i64 0, .int .i64 0, .int .i64 0, .int .i64 0, .int .i64 0, .int .i64 0, .int .i64 0, .int .i64 0, .int .i64 0, .int .i64 0, .int .i64 0, .int .i64 0, .int .i64 0, .slice none 0 0]
  have hbel := bel_alloc b2 (.cells #[.int .i64 0, .int .i64 0, .int .i64 0, .int .i64 0, .int .i64 0, .int .i64 0, .int .i64 0, .int .i64 0, .int .i64 0, .int .i64 0, .int .i64 0, .int .i64 0, .int .i64 0, .int .i64 0, .int .i64 0, .int .i64 0, .slice none 0 0] 34)
  have s3 : (u2.alloc (.cells #[.int .i64 0, .int .i64 0, .int .i64 0, .int .i64 0, .int .i64 0, .int .i64 0, .int .i64 0, .int .i64 0, .int .i64 0, .int .i64 0, .int .i64 0, .int .i64 0, .int .i64 0, .int .i64 0, .int .i64 0, .int .i64 0, .slice none 0 0] 34)).heap.size = w.heap.size + 3 := by simp [s2]
  replace R0 := R0.alloc (.cells #[.int .i64 0, .int .i64 0, .int .i64 0, .int .i64 0, .int .i64 0, .int .i64 0, .int .i64 0, .int .i64 0, .int .i64 0, .int .i64 0, .int .i64 0, .int .i64 0, .int .i64 0, .int .i64 0, .int .i64 0, .int .i64 0, .slice none 0 0] 34)
  replace R1 := R1.alloc (.cells #[.int .i64 0, .int .i64 0, .int .i64 0, .int .i64 0, .int .i64 0, .int .i64 0, .int .i64 0, .int .i64 0, .int .i64 0, .int .i64 0, .int .i64 0, .int .i64 0, .int .i64 0, .int .i64 0, .int .i64 0, .int .i64 0, .slice none 0 0] 34)
  generalize hW3 : u2.alloc (.cells #[.int .i64 0, .int .i64 0, .int .i64 0, .int .i64 0, .int .i64 0, .int .i64 0, .int .i64 0, .int .i64 0, .int .i64 0, .int .i64 0, .int .i64 0, .int .i64 0, .int .i64 0, .int .i64 0, .int .i64 0, .int .i64 0, .slice none 0 0] 34) = v3 at r3 hbel s3 R0 R1
  rw [s2] at r3
  have R3 := r3.row #[.int .i64 3, .int .i64 1, .int .i64 0, .int .i64 0, .int .i64 0, .int .i64 0, .int .i64 0, .int .i64 0, .int .i64 0, .int .i64 0, .int .i64 0, .int .i64 0, .int .i64 0, .int .i64 0, .int .i64 0, .int .i64 0, .slice none 0 0]
  replace R0 := R0.rowOther (q := w.heap.size + 2) (by omega) #[.int .i64 3, .int .i64 1, .int .i64 0, .int .i64 0, .int .i64 0, .int .i64 0, .int .i64 0, .int .i64 0, .int .i64 0, .int .i64 0, .int .i64 0, .int .i64 0, .int .i64 0, .int .i64 0, .int .i64 0, .int .i64 0, .slice none 0 0]
  replace R1 := R1.rowOther (q := w.heap.size + 2) (by omega) #[.int .i64 3, .int .i64 1, .int .i64 0, .int .i64 0, .int .i64 0, .int .i64 0, .int .i64 0, .int .i64 0, .int .i64 0, .int .i64 0, .int .i64 0, .int .i64 0, .int .i64 0, .int .i64 0, .int .i64 0, .int .i64 0, .slice none 0 0]
  replace hbel := below_setRow hbel (g := w.heap.size + 2) (by omega) #[.int .i64 3, .int .i64 1, .int .i64 0, .int .i64 0, .int .i64 0, .int .i64 0, .int .i64 0, .int .i64 0, .int .i64 0, .int .i64 0, .int .i64 0, .int .i64 0, .int .i64 0, .int .i64 0, .int .i64 0, .int .i64 0, .slice none 0 0]
  replace s3 : (v3.setRow (w.heap.size + 2) #[.int .i64 3, .int .i64 1, .int .i64 0, .int .i64 0, .int .i64 0, .int .i64 0, .int .i64 0, .int .i64 0, .int .i64 0, .int .i64 0, .int .i64 0, .int .i64 0, .int .i64 0, .int .i64 0, .int .i64 0, .int .i64 0, .slice none 0 0]).heap.size = w.heap.size + 3 := by simpa [World.setRow] using s3
  generalize hU3 : v3.setRow (w.heap.size + 2) #[.int .i64 3, .int .i64 1, .int .i64 0, .int .i64 0, .int .i64 0, .int .i64 0, .int .i64 0, .int .i64 0, .int .i64 0, .int .i64 0, .int .i64 0, .int .i64 0, .int .i64 0, .int .i64 0, .int .i64 0, .int .i64 0, .slice none 0 0] = u3 at R0 R1 R3 hbel s3
  have f3 : u3.frozen? ⟨w.heap.size + 2, 3, none⟩ = false := R3.frozen 3
  have c3 : u3.cell? ⟨w.heap.size + 2, 3, none⟩ = some (.int .i64 0) := R3.cell 3
  replace R3 : Rw (u3.setCell ⟨w.heap.size + 2, 3, none⟩ (.int .i64 1)) (w.heap.size + 2) 34 (txc 3 1 hV 0 (.slice none 0 0)).toArray := R3.set 3 _
  replace R0 : Rw (u3.setCell ⟨w.heap.size + 2, 3, none⟩ (.int .i64 1)) w.heap.size 34 (txc 1 1 zeros 0 (.slice none 0 0)).toArray := R0.setOther (q := w.heap.size + 2) (by omega) 3 (.int .i64 1)
  replace R1 : Rw (u3.setCell ⟨w.heap.size + 2, 3, none⟩ (.int .i64 1)) (w.heap.size + 1) 34 (txc 2 1 zeros 0 (.slice none 0 0)).toArray := R1.setOther (q := w.heap.size + 2) (by omega) 3 (.int .i64 1)
  replace hbel := hbel.setCell (p := ⟨w.heap.size + 2, 3, none⟩) (show w.heap.size ≤ w.heap.size + 2 by omega) (.int .i64 1)
  replace s3 : (u3.setCell ⟨w.heap.size + 2, 3, none⟩ (.int .i64 1)).heap.size = w.heap.size + 3 := by rw [World.size_setCell]; exact s3
  generalize hU4 : u3.setCell ⟨w.heap.size + 2, 3, none⟩ (.int .i64 1) = wa at R0 R1 R3 hbel s3
  have S1 : Hid (u1.heap.size = w.heap.size + 1) := s1
  have S2 : Hid (u2.heap.size = w.heap.size + 2) := s2
  have S3 : Hid (wa.heap.size = w.heap.size + 3) := s3
  clear s3
  have z1 : (Try.prog.info? 34).map (·.size) = some (txc 1 1 zeros 0 (.slice none 0 0)).toArray.size := size34
  have z2 : (Try.prog.info? 34).map (·.size) = some (txc 2 1 zeros 0 (.slice none 0 0)).toArray.size := size34
  have z3 : (Try.prog.info? 34).map (·.size) = some (txc 3 1 hV 0 (.slice none 0 0)).toArray.size := size34
  have zv : (Try.prog.info? 31).map (·.size) = some (vals hV).length := size31
  go_enter Try.func10, Try.ntmps10
  go_wp2_with (first | rw [hW1] | rw [hW2] | rw [hW3] | rw [hU4] | refine load_r 34 _ rfl rfl _ rfl R0 Try.underlying34 rfl z1 ?_ | (refine store_r rfl 34 _ _ rfl w.heap.size #[.int .i64 1, .int .i64 1, .int .i64 0, .int .i64 0, .int .i64 0, .int .i64 0, .int .i64 0, .int .i64 0, .int .i64 0, .int .i64 0, .int .i64 0, .int .i64 0, .int .i64 0, .int .i64 0, .int .i64 0, .int .i64 0, .slice none 0 0] rfl rfl r1 size34 rfl (by simp [Value.oneCell']) ?_; rw [hU1]) | (refine store_r rfl 34 _ _ rfl (w.heap.size + 1) #[.int .i64 2, .int .i64 1, .int .i64 0, .int .i64 0, .int .i64 0, .int .i64 0, .int .i64 0, .int .i64 0, .int .i64 0, .int .i64 0, .int .i64 0, .int .i64 0, .int .i64 0, .int .i64 0, .int .i64 0, .int .i64 0, .slice none 0 0] rfl rfl r2 size34 rfl (by simp [Value.oneCell']) ?_; rw [hU2]) | (refine store_r rfl 34 _ _ rfl (w.heap.size + 2) #[.int .i64 3, .int .i64 1, .int .i64 0, .int .i64 0, .int .i64 0, .int .i64 0, .int .i64 0, .int .i64 0, .int .i64 0, .int .i64 0, .int .i64 0, .int .i64 0, .int .i64 0, .int .i64 0, .int .i64 0, .int .i64 0, .slice none 0 0] rfl rfl r3 size34 rfl (by simp [Value.oneCell']) ?_; rw [hU3]))
  clear hW1 hW2 hW3 hU1 hU2 hU3 hU4 r1 r2 r3 b1 b2 f3 c3 s1 s2 S1 S2
  have C1 := add_any (x4 []) _ _ _ _ 1 1 zeros 0 (.slice none 0 0) 1 sA wa rfl (four_nil wa) sm0
  rw [add1] at C1
  refine C1.mono ?_
  clear C1 S3
  intro e w1 h1
  obtain ⟨aa, a1, aw, a2, am, a3, ae, a4, rfl, hfa, hb⟩ := gives4 (n := 1) rfl h1
  replace R0 := R0.later hb
  replace R1 := R1.later hb
  replace R3 := R3.later hb
  replace hbel := below_on hbel hb
  clear hb h1
  have hbA := bel_alloc (Below.refl w1.heap.size w1) (.cells (cvc 4 0 (.slice aa 0 a1) (.slice aw 0 a2) (.slice am 1 a3) (.slice ae 0 a4)) 27)
  have RA := rw_new w1 27 (cvc 4 0 (.slice aa 0 a1) (.slice aw 0 a2) (.slice am 1 a3) (.slice ae 0 a4))
  replace R0 := R0.later hbA
  replace R1 := R1.later hbA
  replace R3 := R3.later hbA
  replace hfa := hfa.later hbA
  replace hbel := below_on hbel hbA
  clear hbA
  generalize hW : w1.alloc (.cells (cvc 4 0 (.slice aa 0 a1) (.slice aw 0 a2) (.slice am 1 a3) (.slice ae 0 a4)) 27) = w2 at R0 R1 R3 hfa hbel RA
  go_wp2_with (first | rw [hW] | refine load_r 27 _ rfl rfl _ rfl RA Try.underlying27 rfl size27 ?_ | refine load_r 34 _ rfl rfl _ rfl R0 Try.underlying34 rfl z1 ?_)
  clear hW
  have C1 := add_any (x4 hX1) _ _ _ _ 1 1 zeros 0 (.slice none 0 0) 2 sB w2 rfl hfa sm1
  rw [add2] at C1
  refine C1.mono ?_
  clear C1
  intro e w3 h1
  obtain ⟨ba, b1, bw, b2, bm, b3, be, b4, rfl, hfb, hb⟩ := gives4 (n := 2) rfl h1
  replace R0 := R0.later hb
  replace R1 := R1.later hb
  replace R3 := R3.later hb
  replace RA := RA.later hb
  replace hfa := hfa.later hb
  replace hbel := below_on hbel hb
  clear hb h1
  have hbA := bel_alloc (Below.refl w3.heap.size w3) (.cells (cvc 4 0 (.slice ba 0 b1) (.slice bw 0 b2) (.slice bm 2 b3) (.slice be 0 b4)) 27)
  have RBB := rw_new w3 27 (cvc 4 0 (.slice ba 0 b1) (.slice bw 0 b2) (.slice bm 2 b3) (.slice be 0 b4))
  replace R0 := R0.later hbA
  replace R1 := R1.later hbA
  replace R3 := R3.later hbA
  replace RA := RA.later hbA
  replace hfa := hfa.later hbA
  replace hfb := hfb.later hbA
  replace hbel := below_on hbel hbA
  clear hbA
  generalize hW : w3.alloc (.cells (cvc 4 0 (.slice ba 0 b1) (.slice bw 0 b2) (.slice bm 2 b3) (.slice be 0 b4)) 27) = w4 at R0 R1 R3 RA hfa hfb hbel RBB
  have d3 := tx_vec R3
  go_wp2_with (first | rw [hW] | refine load_r 27 _ rfl rfl _ rfl RBB Try.underlying27 rfl size27 ?_ | refine load_m 31 _ rfl rfl _ _ rfl d3 Try.underlying31 rfl zv ?_)
  clear hW d3
  have C1 := fold_any (x4 hX2) _ _ _ _ hV w4 rfl hfb sm2
  rw [fd1] at C1
  refine C1.mono ?_
  clear C1
  intro e w5 h1
  obtain ⟨fa, f1, fw, f2, fm, f3, fe, f4, rfl, hff, hb⟩ := gives4 (n := 2) rfl h1
  replace R0 := R0.later hb
  replace R1 := R1.later hb
  replace R3 := R3.later hb
  replace RA := RA.later hb
  replace RBB := RBB.later hb
  replace hfa := hfa.later hb
  replace hfb := hfb.later hb
  replace hbel := below_on hbel hb
  clear hb h1
  have hbA := bel_alloc (Below.refl w5.heap.size w5) (.cells (cvc 4 0 (.slice fa 0 f1) (.slice fw 0 f2) (.slice fm 2 f3) (.slice fe 0 f4)) 27)
  have RF := rw_new w5 27 (cvc 4 0 (.slice fa 0 f1) (.slice fw 0 f2) (.slice fm 2 f3) (.slice fe 0 f4))
  replace R0 := R0.later hbA
  replace R1 := R1.later hbA
  replace R3 := R3.later hbA
  replace RA := RA.later hbA
  replace RBB := RBB.later hbA
  replace hfa := hfa.later hbA
  replace hfb := hfb.later hbA
  replace hff := hff.later hbA
  replace hbel := below_on hbel hbA
  clear hbA
  generalize hW : w5.alloc (.cells (cvc 4 0 (.slice fa 0 f1) (.slice fw 0 f2) (.slice fm 2 f3) (.slice fe 0 f4)) 27) = w6 at R0 R1 R3 RA RBB hfa hfb hff hbel RF
  clear R0
  go_wp2_with (first | rw [hW] | refine load_r 27 _ rfl rfl _ rfl RA Try.underlying27 rfl size27 ?_ | refine load_r 34 _ rfl rfl _ rfl R1 Try.underlying34 rfl z2 ?_)
  clear hW
  have C1 := del_any (x4 hX1) _ _ _ _ 2 1 zeros 0 (.slice none 0 0) 1 sA w6 rfl hfa sm1 (by decide)
  rw [del1] at C1
  refine C1.mono ?_
  clear C1 R1
  intro e w7 h1
  obtain ⟨da, d1, dw, d2, dm, d3, de, d4, rfl, hfd, hb⟩ := gives4 (n := 1) rfl h1
  replace R3 := R3.later hb
  replace RA := RA.later hb
  replace RBB := RBB.later hb
  replace RF := RF.later hb
  replace hfa := hfa.later hb
  replace hfb := hfb.later hb
  replace hff := hff.later hb
  replace hbel := below_on hbel hb
  clear hb h1
  go_wp2_with fail
  refine (read_any (x4 hX1) _ _ _ _ w7 hfd sm1).mono ?_
  intro e w8 h1
  obtain ⟨pt, ct, rfl, ht, hb⟩ := reads4 (n := 1) rk1 rd1 rfl h1
  replace R3 := R3.later hb
  replace RA := RA.later hb
  replace RBB := RBB.later hb
  replace RF := RF.later hb
  replace hfa := hfa.later hb
  replace hfb := hfb.later hb
  replace hff := hff.later hb
  replace hbel := below_on hbel hb
  clear hb h1 hfd
  have hF1 := fun w => field48_2 4 pt 1 ct w
  have hT := thas_lit w8 [[97]] (by decide)
  have hbA := bel_alloc (Below.refl w8.heap.size w8) (.cells #[.string sA] 9)
  replace R3 := R3.later hbA
  replace RA := RA.later hbA
  replace RBB := RBB.later hbA
  replace RF := RF.later hbA
  replace hfa := hfa.later hbA
  replace hfb := hfb.later hbA
  replace hff := hff.later hbA
  replace ht := ht.later hbA
  replace hbel := below_on hbel hbA
  clear hbA
  generalize hW : w8.alloc (.cells #[.string sA] 9) = w9 at R3 RA RBB RF hfa hfb hff ht hbel
  replace hT : THas w9 (.slice (some ⟨w8.heap.size, 0, none⟩) 1 1) [[97]] := by rw [← hW]; exact hT
  go_wp2_with (first | rw [hW])
  clear hW hF1
  refine (refTexts_any _ _ _ w9 ht hT).mono ?_
  rintro e w10 ⟨rfl, hb⟩
  replace R3 := R3.later hb
  replace RA := RA.later hb
  replace RBB := RBB.later hb
  replace RF := RF.later hb
  replace hfa := hfa.later hb
  replace hfb := hfb.later hb
  replace hff := hff.later hb
  replace hbel := below_on hbel hb
  clear hb ht hT
  go_wp2_with (first | refine load_r 27 _ rfl rfl _ rfl RA Try.underlying27 rfl size27 ?_ | refine load_r 34 _ rfl rfl _ rfl R3 Try.underlying34 rfl z3 ?_)
  have C1 := del_any (x4 hX1) _ _ _ _ 3 1 hV 0 (.slice none 0 0) 1 sA w10 rfl hfa sm1 (by decide)
  rw [del2] at C1
  refine C1.mono ?_
  clear C1 RA hfa
  intro e w11 h1
  obtain ⟨ga, g1, gw, g2, gm, g3, ge, g4, rfl, hfd, hb⟩ := gives4 (n := 0) rfl h1
  replace R3 := R3.later hb
  replace RBB := RBB.later hb
  replace RF := RF.later hb
  replace hfb := hfb.later hb
  replace hff := hff.later hb
  replace hbel := below_on hbel hb
  clear hb h1
  go_wp2_with fail
  refine (read_any (x4 []) _ _ _ _ w11 hfd sm0).mono ?_
  intro e w12 h1
  obtain ⟨pt2, ct2, rfl, ht, hb⟩ := reads4 (n := 0) rk0 rd0 rfl h1
  replace R3 := R3.later hb
  replace RBB := RBB.later hb
  replace RF := RF.later hb
  replace hfb := hfb.later hb
  replace hff := hff.later hb
  replace hbel := below_on hbel hb
  clear hb h1 hfd ht
  have hF1 := fun w => field48_2 4 pt2 0 ct2 w
  go_wp2_with (first | refine load_r 27 _ rfl rfl _ rfl RBB Try.underlying27 rfl size27 ?_)
  clear hF1
  refine (read_any (x4 hX2) _ _ _ _ w12 hfb sm2).mono ?_
  intro e w13 h1
  obtain ⟨pt3, ct3, rfl, ht, hb⟩ := reads4 (n := 2) rk2 rd2 rfl h1
  replace R3 := R3.later hb
  replace RF := RF.later hb
  replace hff := hff.later hb
  replace hbel := below_on hbel hb
  clear hb h1 hfb RBB
  have hF1 := fun w => field48_2 4 pt3 2 ct3 w
  have hT := thas_lit w13 [[97], [98]] (by decide)
  have hbA := bel_alloc (Below.refl w13.heap.size w13) (.cells #[.string sA, .string sB] 9)
  replace R3 := R3.later hbA
  replace RF := RF.later hbA
  replace hff := hff.later hbA
  replace ht := ht.later hbA
  replace hbel := below_on hbel hbA
  clear hbA
  generalize hW : w13.alloc (.cells #[.string sA, .string sB] 9) = w14 at R3 RF hff ht hbel
  replace hT : THas w14 (.slice (some ⟨w13.heap.size, 0, none⟩) 2 2) [[97], [98]] := by rw [← hW]; exact hT
  go_wp2_with (first | rw [hW])
  clear hW hF1
  refine (refTexts_any _ _ _ w14 ht hT).mono ?_
  rintro e w15 ⟨rfl, hb⟩
  replace R3 := R3.later hb
  replace RF := RF.later hb
  replace hff := hff.later hb
  replace hbel := below_on hbel hb
  clear hb ht hT
  obtain ⟨g, o, p0, c0, rfl, cb1, cb2⟩ := heads_f hff.m
  have cf4 : w15.cell? ⟨w5.heap.size, 4, none⟩ = some (.slice (some ⟨g, o, none⟩) 2 f3) := RF.cell 4
  go_wp2_with (first | refine load_r 27 _ rfl rfl _ rfl RF Try.underlying27 rfl size27 ?_ | refine load_r 34 _ rfl rfl _ rfl R3 Try.underlying34 rfl z3 ?_)
  clear cf4 cb1 cb2
  have C1 := clear_any (x4 hXf) _ _ _ _ 3 1 hV 0 (.slice none 0 0) 1 w15 rfl hff smf
  rw [cl1] at C1
  refine C1.mono ?_
  clear C1 R3
  intro e w16 h1
  obtain ⟨ia, i1, iw, i2, iM, i3, ie, i4, rfl, hfd, hb⟩ := gives4 (n := 0) rfl h1
  replace RF := RF.later hb
  replace hff := hff.later hb
  replace hbel := below_on hbel hb
  clear hb h1 hfd
  have hF1 := fun w => field27_4 4 0 (.slice ia 0 i1) (.slice iw 0 i2) (.slice ie 0 i4) iM 0 i3 w
  go_wp2_with (first | refine load_r 27 _ rfl rfl _ rfl RF Try.underlying27 rfl size27 ?_)
  clear hF1
  have C1 := check_any (x4 hXf) _ _ _ _ w16 hff smf
  rw [ckf] at C1
  refine C1.mono ?_
  clear C1
  rintro e w17 ⟨rfl, hb⟩
  go_wp2_with fail
  go_ret
  exact ⟨rfl, below_on hbel hb⟩
end Go.Proofs.Ytdnppcbdifckcaa
/- Small of the document's answer. -/
namespace Go.Proofs.Ytdnppcbdifckcaa
open Go.RowKit

/-- What Small tells. -/
def SmPost (n : Nat) (w : World) (e : Ending) (w' : World) : Prop := ∃ b, e = .returned (.bool b) ∧ (b = true → n ≤ 40) ∧ Below w.heap.size w w'
theorem O.str (o : O) : o.cells[1]? = some (.string o.key) ∧ o.cells[2]? = some (.string o.field) ∧ o.cells[6]? = some (.string o.text) := ⟨rfl, rfl, rfl⟩
set_option maxHeartbeats 2000000 in
set_option maxRecDepth 100000 in
theorem small_any (p s : Int) (v : List Int) (t : Int) (sl : Value) (l : List O) (w : World) (hv : v.length = 13) (ho : OHas w sl l) : Calls Try.prog 9 #[TxV p s v t sl] w (SmPost l.length w) := by
  obtain ⟨q, c, rfl, hm, hr⟩ := ho
  have hml := maxLen_lt hm
  have HR : Hid (0 < l.length → ∃ g o, q = some ⟨g, o, none⟩ ∧ ∀ i (h : i < l.length), w.rangeAt g (o + i * 10) l[i].cells) := hr
  clear hr
  have R0 := rw_new w 34 (txc p s v t (.slice q l.length c)).toArray
  have hbel : Below w.heap.size w (w.alloc (.cells (txc p s v t (.slice q l.length c)).toArray 34)) := bel_alloc (Below.refl _ _) _
  generalize hW : w.alloc (.cells (txc p s v t (.slice q l.length c)).toArray 34) = w0 at R0 hbel
  go_enter Try.func9, Try.ntmps9
  go_wp2_with (rw [hW])
  clear hW
  go_loopw [3] (fun vi wr => ∃ k : Nat, vi = .int .i64 k ∧ k ≤ l.length ∧ (l.length ≤ 40 ∨ k = 0) ∧ Rw wr w.heap.size 34 (txc p s v t (.slice q l.length c)).toArray ∧ Below w.heap.size w wr) (fun vi _ => l.length - (intOf vi).toNat)
  case atStart => exact ⟨0, rfl, by omega, .inr rfl, R0, hbel⟩
  case round =>
    clear R0 hbel
    obtain ⟨k, rfl, hk, hor, R, hbel⟩ := hrel
    have c16 := tx_ops R hv
    by_cases hle : l.length ≤ 40
    · have hle' : (l.length : Int) ≤ 40 := by omega
      by_cases hlt : k < l.length
      · have hlt' : (k : Int) < (l.length : Int) := by omega
        obtain ⟨g, o, rfl, hd⟩ := HR.out (by omega)
        have d := range_later (hd k hlt) hbel
        clear HR hd
        have hk40 : k < 40 := by omega
        generalize l[k] = x at d
        have z35 : (Try.prog.info? 66).map (·.size) = some x.cells.length := size66
        have hb2 : Below w.heap.size w (wr.alloc (.cells x.cells.toArray 66)) := bel_alloc hbel _
        have R2 := R.alloc (.cells x.cells.toArray 66)
        go_wp2_with (refine load_m 66 _ rfl rfl _ _ rfl d Try.underlying66 rfl z35 ?_)
        all_goals first
          | (go_ret; exact ⟨_, rfl, fun _ => hle, hb2⟩)
          | (go_roundw
             case rel => exact ⟨k + 1, by simp, by omega, .inl hle, R2, hb2⟩
             case measure => simp [intOf]; omega)
      · have hlt' : ¬ (k : Int) < (l.length : Int) := by omega
        clear HR
        go_wp2_with fail
        go_ret
        exact ⟨_, rfl, fun _ => hle, hbel⟩
    · obtain rfl : k = 0 := by omega
      have hle' : ¬ (l.length : Int) ≤ 40 := by omega
      have h0 : 0 < (l.length : Int) := by omega
      clear HR
      go_wp2_with fail
      go_ret
      exact ⟨_, rfl, fun h => by simp at h, hbel⟩
end Go.Proofs.Ytdnppcbdifckcaa
/- How great a set becomes. Nothing of one function. -/
namespace Go.Proofs.Ytdnppcbdifckcaa
open Go.RowKit Go.Sort

structure Sz (n m : Nat) (x : X) : Prop where
  a : x.am.length ≤ 100
  t : x.wr.length ≤ 100
  e : x.el.length ≤ 100
  ei : ∀ y ∈ x.el, y.gone.length ≤ 100
  n : x.mb.length ≤ n
  m : ∀ y ∈ x.mb, y.ms.length ≤ m
theorem Fw.sz {x : X} (h : Fw x) : Sz 60 30 x := ⟨h.sm.a, h.sm.t, h.sm.e, h.sm.ei, by have := h.n; omega, h.m⟩
theorem Sz.sm {n m : Nat} {x : X} (h : Sz n m x) (hn : n ≤ 100) (hm : m ≤ 100) : Sm x := ⟨h.a, h.t, Nat.le_trans h.n hn, h.e, fun y hy => Nat.le_trans (h.m y hy) hm, h.ei⟩
theorem sz_add {n m : Nat} {x : X} (h : Sz n m x) (a : M) (s : ByteArray) : Sz (n + 1) (m + 1) (addX x a s) := by
  unfold addX
  split
  · refine ⟨h.a, h.t, h.e, h.ei, Nat.le_trans (addL_length _ _ _) (Nat.add_le_add_right h.n 1), fun y hy => ?_⟩
    rcases putL_sub hy with rfl | k
    · refine Nat.le_trans (wth_length _ _) (Nat.add_le_add_right ?_ 1)
      cases e : look x.mb (bs s) with
      | none => exact Nat.zero_le _
      | some z => exact h.m z (look_mem e).1
    · exact Nat.le_succ_of_le (h.m y k)
  · exact ⟨h.a, h.t, h.e, h.ei, Nat.le_succ_of_le h.n, fun y hy => Nat.le_succ_of_le (h.m y hy)⟩
theorem sz_wo {n m : Nat} {x : X} (h : Sz n m x) (i : Int) (G : Mb → Bool) (p : M → Bool) : Sz n m (woX x i G p) := by
  unfold woX
  split
  · refine ⟨h.a, h.t, h.e, h.ei, Nat.le_trans (wo_length _ _ _) h.n, fun z hz => ?_⟩
    obtain ⟨y, hy, rfl | e⟩ := wo_sub hz
    · exact h.m _ hy
    · exact Nat.le_trans (dm_length e) (h.m _ hy)
  · exact h
theorem sz_fd {n m : Nat} {x : X} (h : Sz n m x) (v : List Int) : Sz n m (fdX x v) := by
  unfold fdX
  split
  · refine ⟨h.a, h.t, h.e, h.ei, by show (fdL _ _).length ≤ n; unfold fdL; rw [List.length_map]; exact h.n, fun z hz => ?_⟩
    obtain ⟨y, hy, rfl⟩ := List.mem_map.1 hz
    exact Nat.le_trans (List.length_filter_le _ _) (h.m y hy)
  · exact h
/-- What a value is that is read. -/
def vP (k : Int) (l : List Bs) : Value → World → Prop := fun v w => ∃ u, v = VV k u ∧ THas w u l
theorem vP_keeps (k : Int) (l : List Bs) : Keeps (vP k l) := fun _ _ _ ⟨u, e, h⟩ hb => ⟨u, e, h.later hb⟩
theorem three_rows (w : World) (c1 : Array Value) (t1 : TypeId) (c2 : Array Value) (t2 : TypeId) (c3 : Array Value) (t3 : TypeId) : Rw (((w.alloc (.cells c1 t1)).alloc (.cells c2 t2)).alloc (.cells c3 t3)) w.heap.size t1 c1 ∧ Rw (((w.alloc (.cells c1 t1)).alloc (.cells c2 t2)).alloc (.cells c3 t3)) (w.heap.size + 1) t2 c2 ∧ Rw (((w.alloc (.cells c1 t1)).alloc (.cells c2 t2)).alloc (.cells c3 t3)) (w.heap.size + 2) t3 c3 ∧ Below w.heap.size w (((w.alloc (.cells c1 t1)).alloc (.cells c2 t2)).alloc (.cells c3 t3)) := by
  have r1 := ((rw_new w t1 c1).alloc (.cells c2 t2)).alloc (.cells c3 t3)
  have r2 := (rw_new (w.alloc (.cells c1 t1)) t2 c2).alloc (.cells c3 t3)
  have r3 := rw_new ((w.alloc (.cells c1 t1)).alloc (.cells c2 t2)) t3 c3
  simp only [World.size_alloc, Nat.add_assoc, Nat.reduceAdd] at r2 r3
  exact ⟨r1, r2, r3, bel_alloc (bel_alloc (bel_alloc (Below.refl _ _) _) _) _⟩
end Go.Proofs.Ytdnppcbdifckcaa
