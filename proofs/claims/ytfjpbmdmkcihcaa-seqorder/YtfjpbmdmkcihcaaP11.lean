import Derived.Test.YtfjpbmdmkcihcaaP10
import Derived.Test.YtfjpbmdmkcihcaaP8
import Derived.Test.YtfjpbmdmkcihcaaP7
import Derived.Test.YtfjpbmdmkcihcaaP1
/- A cell of a transaction is written: what lies elsewhere stays. -/
namespace Go.Proofs.Ytfjpbmdmkcihcaa
open Go.RowKit

theorem SHas.on {S n : Nat} {w w' : World} {v : Value} {xs : List Value} (h : SHas S w v n xs) (H : 0 < n → ∀ g o, w.rangeAt g o xs → w'.rangeAt g o xs) : SHas S w' v n xs := by
  obtain ⟨hm, hl, ⟨rfl, rfl⟩ | ⟨ad, cc, rfl, hc', hd⟩⟩ := h
  · exact ⟨hm, hl, .inl ⟨rfl, rfl⟩⟩
  · refine ⟨hm, hl, .inr ⟨ad, cc, rfl, hc', fun hn => ?_⟩⟩
    obtain ⟨g, o, rfl, h1⟩ := hd hn
    exact ⟨g, o, rfl, H hn g o h1⟩
theorem range_nz {w : World} {g o b j : Nat} {xs : List Value} (h : w.rangeAt g o xs) {c0 : Value} (hc : w.cell? ⟨b, j, none⟩ = some c0) (hx : c0 ∉ xs) (u : Value) : (w.setCell ⟨b, j, none⟩ u).rangeAt g o xs := fun k v hv => by
  have h1 := h k v hv
  by_cases e : (⟨g, o + k, none⟩ : Addr) = ⟨b, j, none⟩
  · rw [e, hc] at h1
    obtain rfl := Option.some.inj h1
    exact absurd (List.mem_of_getElem? hv) hx
  · rw [World.cell?_setCell_other _ _ _ _ (fun h => e h.symm)]
    exact h1
theorem range_ne {w : World} {g o b j : Nat} {xs : List Value} (h : w.rangeAt g o xs) (hg : g ≠ b) (u : Value) : (w.setCell ⟨b, j, none⟩ u).rangeAt g o xs := fun k v hv => by
  rw [World.cell?_setCell_other _ _ _ _ (fun e => hg (congrArg Addr.block e).symm)]
  exact h k v hv
theorem rows_mem {α : Type} {f : α → List Value} {u : Value} : ∀ {l : List α}, u ∈ rows f l → ∃ x ∈ l, u ∈ f x
  | [], h => by cases h
  | x :: l, h => by
    rw [rows_cons, List.mem_append] at h
    rcases h with h | h
    · exact ⟨x, List.mem_cons_self, h⟩
    · obtain ⟨y, hy, hu⟩ := rows_mem h
      exact ⟨y, List.mem_cons_of_mem _ hy, hu⟩
theorem rows_str {y : El × Value} {ys : List (El × Value)} : (rows El.cells (y :: ys))[7]? = some (.string y.1.x) := by
  rw [rows_cons]
  rfl
/-- The cells of a sequence stay where a number of a transaction, that was zero, is written. -/
theorem four_dep {w : World} {l : List El} {va vw vm ve : Value} (h : Four w (x5 l) va vw vm ve) {b j : Nat} {t : TypeId} {cs : Array Value} (R : Rw w b t cs) (hs : ∀ (i : Nat) (s : ByteArray), cs[i]? ≠ some (Value.string s)) (hj : cs[j]? = some (.int .i64 0)) (hl : ∀ e ∈ l, ∀ m ∈ e.gone, m.p ≠ 0 ∧ m.s ≠ 0 ∧ m.i ≠ 0) (u : Value) : Four (w.setCell ⟨b, j, none⟩ u) (x5 l) va vw vm ve := by
  have hc : w.cell? ⟨b, j, none⟩ = some (.int .i64 0) := (R.cell j).trans hj
  refine ⟨SHas.on h.a (fun hn => absurd hn (by simp [x5])), SHas.on h.t (fun hn => absurd hn (by simp [x5])), ?_, ?_⟩
  · obtain ⟨ys, h1, h2, h3⟩ := h.m
    have : ys = [] := by
      cases ys with
      | nil => rfl
      | cons y ys => simp [x5] at h1
    subst this
    exact ⟨[], h1, SHas.on h2 (fun hn => absurd hn (by simp [x5])), fun y hy => by cases hy⟩
  · obtain ⟨ys, h1, h2, h3⟩ := h.e
    refine ⟨ys, h1, SHas.on h2 (fun hn g o hr => ?_), fun y hy => SHas.on (h3 y hy) (fun _ g o hr => range_nz hr hc (fun hx => ?_) u)⟩
    · cases ys with
      | nil =>
        rw [← h1] at hn
        simp at hn
      | cons y ys =>
        refine range_ne hr ?_ u
        rintro rfl
        have := hr 7 _ rows_str
        rw [R.cell] at this
        exact hs _ _ this
    · have hy' : y.1 ∈ l := by
        have : y.1 ∈ ys.map Prod.fst := List.mem_map.2 ⟨y, hy, rfl⟩
        rw [h1] at this
        exact this
      obtain ⟨m, hm, hx⟩ := rows_mem hx
      obtain ⟨e1, e2, e3⟩ := hl _ hy' m hm
      simp only [M.cells, List.mem_cons, Value.int.injEq, List.not_mem_nil, or_false, true_and] at hx
      rcases hx with hx | hx | hx
      · exact e1 hx.symm
      · exact e2 hx.symm
      · exact e3 hx.symm
end Go.Proofs.Ytfjpbmdmkcihcaa
/- Facts of what is read: a value, its texts, its marks. -/
namespace Go.Proofs.Ytfjpbmdmkcihcaa
open Go.RowKit
open Go.Sort

/-- What a value is that is read. -/
def vP (k : Int) (l : List Bs) : Value → World → Prop := fun v w => ∃ u, v = VV k u ∧ THas w u l
theorem vP_keeps (k : Int) (l : List Bs) : Keeps (vP k l) := fun _ _ _ ⟨u, e, h⟩ hb => ⟨u, e, h.later hb⟩
/-- A slice of these texts. -/
def thP (l : List Bs) : Value → World → Prop := fun v w => THas w v l
theorem thP_keeps (l : List Bs) : Keeps (thP l) := fun _ _ _ h hb => THas.later h hb
/-- A slice of these marks. -/
def mkP (l : List M) : Value → World → Prop := fun v w => MHas w v l
theorem mkP_keeps (l : List M) : Keeps (mkP l) := fun _ _ _ h hb => h.later hb
end Go.Proofs.Ytfjpbmdmkcihcaa
/- heads: what must come at any rate. -/
namespace Go.Proofs.Ytfjpbmdmkcihcaa
open Go.RowKit
open Go.Sort

theorem field57_2 (k : Int) (p : Option Addr) (n c : Nat) (w : World) : (Instr.field 57 (VV k (.slice p n c)) 2).run Try.prog w = .ok (.slice p n c) w := by
  simp [Instr.field, go_sem, asAgg]
theorem thas_lit (w : World) (l : List Bs) (hl : l.length ≤ 100) : THas (w.alloc (.cells (l.map encStr).toArray 9)) (.slice (some ⟨w.heap.size, 0, none⟩) l.length l.length) l := by
  refine ⟨by unfold maxLen; omega, by simp, .inr ⟨_, _, rfl, ⟨Nat.le_refl _, by unfold maxLen; omega⟩, fun _ => ⟨_, _, rfl, ?_⟩⟩⟩
  exact Rw.whole (cs := l.map encStr) (rw_new w 9 _)
theorem h_go {l : List El} (h : l.all (fun e => e.gone.all (fun m => decide (m.p ≠ 0) && (decide (m.s ≠ 0) && decide (m.i ≠ 0)))) = true) : ∀ e ∈ l, ∀ m ∈ e.gone, m.p ≠ 0 ∧ m.s ≠ 0 ∧ m.i ≠ 0 := fun e he m hm => by
  have := List.all_eq_true.1 (List.all_eq_true.1 h e he) m hm
  simpa using this
set_option maxHeartbeats 8000000 in
set_option maxRecDepth 100000 in
theorem heads_any (w : World) : Calls Try.prog 11 #[] w (Tells (.bool true) w) := by
  have r1 := rw_new w 34 #[.int .i64 0, .int .i64 0, .int .i64 0, .int .i64 0, .int .i64 0, .int .i64 0, .int .i64 0, .int .i64 0, .int .i64 0, .int .i64 0, .int .i64 0, .int .i64 0, .int .i64 0, .int .i64 0, .int .i64 0, .int .i64 0, .slice none 0 0]
  have b1 := bel_alloc (Below.refl w.heap.size w) (.cells #[.int .i64 0, .int .i64 0, .int .i64 0, .int .i64 0, .int .i64 0, .int .i64 0, .int .i64 0, .int .i64 0, .int .i64 0, .int .i64 0, .int .i64 0, .int .i64 0, .int .i64 0, .int .i64 0, .int .i64 0, .int .i64 0, .slice none 0 0] 34)
  have s1 : (w.alloc (.cells #[.int .i64 0, .int .i64 0, .int .i64 0, .int .i64 0, .int .i64 0, .int .i64 0, .int .i64 0, .int .i64 0, .int .i64 0, .int .i64 0, .int .i64 0, .int .i64 0, .int .i64 0, .int .i64 0, .int .i64 0, .int .i64 0, .slice none 0 0] 34)).heap.size = w.heap.size + 1 := by simp
  generalize hW1 : w.alloc (.cells #[.int .i64 0, .int .i64 0, .int .i64 0, .int .i64 0, .int .i64 0, .int .i64 0, .int .i64 0, .int .i64 0, .int .i64 0, .int .i64 0, .int .i64 0, .int .i64 0, .int .i64 0, .int .i64 0, .int .i64 0, .int .i64 0, .slice none 0 0] 34) = v1 at r1 b1 s1 
  have R1 := r1.row #[.int .i64 1, .int .i64 1, .int .i64 0, .int .i64 0, .int .i64 0, .int .i64 0, .int .i64 0, .int .i64 0, .int .i64 0, .int .i64 0, .int .i64 0, .int .i64 0, .int .i64 0, .int .i64 0, .int .i64 0, .int .i64 1, .slice none 0 0]
  replace b1 := below_setRow b1 (g := w.heap.size) (by omega) #[.int .i64 1, .int .i64 1, .int .i64 0, .int .i64 0, .int .i64 0, .int .i64 0, .int .i64 0, .int .i64 0, .int .i64 0, .int .i64 0, .int .i64 0, .int .i64 0, .int .i64 0, .int .i64 0, .int .i64 0, .int .i64 1, .slice none 0 0]
  replace s1 : (v1.setRow w.heap.size #[.int .i64 1, .int .i64 1, .int .i64 0, .int .i64 0, .int .i64 0, .int .i64 0, .int .i64 0, .int .i64 0, .int .i64 0, .int .i64 0, .int .i64 0, .int .i64 0, .int .i64 0, .int .i64 0, .int .i64 0, .int .i64 1, .slice none 0 0]).heap.size = w.heap.size + 1 := by simpa [World.setRow] using s1
  generalize hU1 : v1.setRow w.heap.size #[.int .i64 1, .int .i64 1, .int .i64 0, .int .i64 0, .int .i64 0, .int .i64 0, .int .i64 0, .int .i64 0, .int .i64 0, .int .i64 0, .int .i64 0, .int .i64 0, .int .i64 0, .int .i64 0, .int .i64 0, .int .i64 1, .slice none 0 0] = u1 at b1 s1 R1 
  have r2 := rw_new u1 34 #[.int .i64 0, .int .i64 0, .int .i64 0, .int .i64 0, .int .i64 0, .int .i64 0, .int .i64 0, .int .i64 0, .int .i64 0, .int .i64 0, .int .i64 0, .int .i64 0, .int .i64 0, .int .i64 0, .int .i64 0, .int .i64 0, .slice none 0 0]
  have b2 := bel_alloc b1 (.cells #[.int .i64 0, .int .i64 0, .int .i64 0, .int .i64 0, .int .i64 0, .int .i64 0, .int .i64 0, .int .i64 0, .int .i64 0, .int .i64 0, .int .i64 0, .int .i64 0, .int .i64 0, .int .i64 0, .int .i64 0, .int .i64 0, .slice none 0 0] 34)
  have s2 : (u1.alloc (.cells #[.int .i64 0, .int .i64 0, .int .i64 0, .int .i64 0, .int .i64 0, .int .i64 0, .int .i64 0, .int .i64 0, .int .i64 0, .int .i64 0, .int .i64 0, .int .i64 0, .int .i64 0, .int .i64 0, .int .i64 0, .int .i64 0, .slice none 0 0] 34)).heap.size = w.heap.size + 2 := by simp [s1]
  replace R1 := R1.alloc (.cells #[.int .i64 0, .int .i64 0, .int .i64 0, .int .i64 0, .int .i64 0, .int .i64 0, .int .i64 0, .int .i64 0, .int .i64 0, .int .i64 0, .int .i64 0, .int .i64 0, .int .i64 0, .int .i64 0, .int .i64 0, .int .i64 0, .slice none 0 0] 34)
  generalize hW2 : u1.alloc (.cells #[.int .i64 0, .int .i64 0, .int .i64 0, .int .i64 0, .int .i64 0, .int .i64 0, .int .i64 0, .int .i64 0, .int .i64 0, .int .i64 0, .int .i64 0, .int .i64 0, .int .i64 0, .int .i64 0, .int .i64 0, .int .i64 0, .slice none 0 0] 34) = v2 at r2 b2 s2 R1
  rw [s1] at r2
  have R2 := r2.row #[.int .i64 2, .int .i64 1, .int .i64 0, .int .i64 0, .int .i64 0, .int .i64 0, .int .i64 0, .int .i64 0, .int .i64 0, .int .i64 0, .int .i64 0, .int .i64 0, .int .i64 0, .int .i64 0, .int .i64 0, .int .i64 2, .slice none 0 0]
  replace R1 := R1.rowOther (q := w.heap.size + 1) (by omega) #[.int .i64 2, .int .i64 1, .int .i64 0, .int .i64 0, .int .i64 0, .int .i64 0, .int .i64 0, .int .i64 0, .int .i64 0, .int .i64 0, .int .i64 0, .int .i64 0, .int .i64 0, .int .i64 0, .int .i64 0, .int .i64 2, .slice none 0 0]
  replace b2 := below_setRow b2 (g := w.heap.size + 1) (by omega) #[.int .i64 2, .int .i64 1, .int .i64 0, .int .i64 0, .int .i64 0, .int .i64 0, .int .i64 0, .int .i64 0, .int .i64 0, .int .i64 0, .int .i64 0, .int .i64 0, .int .i64 0, .int .i64 0, .int .i64 0, .int .i64 2, .slice none 0 0]
  replace s2 : (v2.setRow (w.heap.size + 1) #[.int .i64 2, .int .i64 1, .int .i64 0, .int .i64 0, .int .i64 0, .int .i64 0, .int .i64 0, .int .i64 0, .int .i64 0, .int .i64 0, .int .i64 0, .int .i64 0, .int .i64 0, .int .i64 0, .int .i64 0, .int .i64 2, .slice none 0 0]).heap.size = w.heap.size + 2 := by simpa [World.setRow] using s2
  generalize hU2 : v2.setRow (w.heap.size + 1) #[.int .i64 2, .int .i64 1, .int .i64 0, .int .i64 0, .int .i64 0, .int .i64 0, .int .i64 0, .int .i64 0, .int .i64 0, .int .i64 0, .int .i64 0, .int .i64 0, .int .i64 0, .int .i64 0, .int .i64 0, .int .i64 2, .slice none 0 0] = u2 at b2 s2 R2 R1
  have r3 := rw_new u2 34 #[.int .i64 0, .int .i64 0, .int .i64 0, .int .i64 0, .int .i64 0, .int .i64 0, .int .i64 0, .int .i64 0, .int .i64 0, .int .i64 0, .int .i64 0, .int .i64 0, .int .i64 0, .int .i64 0, .int .i64 0, .int .i64 0, .slice none 0 0]
  have b3 := bel_alloc b2 (.cells #[.int .i64 0, .int .i64 0, .int .i64 0, .int .i64 0, .int .i64 0, .int .i64 0, .int .i64 0, .int .i64 0, .int .i64 0, .int .i64 0, .int .i64 0, .int .i64 0, .int .i64 0, .int .i64 0, .int .i64 0, .int .i64 0, .slice none 0 0] 34)
  have s3 : (u2.alloc (.cells #[.int .i64 0, .int .i64 0, .int .i64 0, .int .i64 0, .int .i64 0, .int .i64 0, .int .i64 0, .int .i64 0, .int .i64 0, .int .i64 0, .int .i64 0, .int .i64 0, .int .i64 0, .int .i64 0, .int .i64 0, .int .i64 0, .slice none 0 0] 34)).heap.size = w.heap.size + 3 := by simp [s2]
  replace R1 := R1.alloc (.cells #[.int .i64 0, .int .i64 0, .int .i64 0, .int .i64 0, .int .i64 0, .int .i64 0, .int .i64 0, .int .i64 0, .int .i64 0, .int .i64 0, .int .i64 0, .int .i64 0, .int .i64 0, .int .i64 0, .int .i64 0, .int .i64 0, .slice none 0 0] 34)
  replace R2 := R2.alloc (.cells #[.int .i64 0, .int .i64 0, .int .i64 0, .int .i64 0, .int .i64 0, .int .i64 0, .int .i64 0, .int .i64 0, .int .i64 0, .int .i64 0, .int .i64 0, .int .i64 0, .int .i64 0, .int .i64 0, .int .i64 0, .int .i64 0, .slice none 0 0] 34)
  generalize hW3 : u2.alloc (.cells #[.int .i64 0, .int .i64 0, .int .i64 0, .int .i64 0, .int .i64 0, .int .i64 0, .int .i64 0, .int .i64 0, .int .i64 0, .int .i64 0, .int .i64 0, .int .i64 0, .int .i64 0, .int .i64 0, .int .i64 0, .int .i64 0, .slice none 0 0] 34) = v3 at r3 b3 s3 R1 R2
  rw [s2] at r3
  have R3 := r3.row #[.int .i64 3, .int .i64 1, .int .i64 0, .int .i64 0, .int .i64 0, .int .i64 0, .int .i64 0, .int .i64 0, .int .i64 0, .int .i64 0, .int .i64 0, .int .i64 0, .int .i64 0, .int .i64 0, .int .i64 0, .int .i64 3, .slice none 0 0]
  replace R1 := R1.rowOther (q := w.heap.size + 2) (by omega) #[.int .i64 3, .int .i64 1, .int .i64 0, .int .i64 0, .int .i64 0, .int .i64 0, .int .i64 0, .int .i64 0, .int .i64 0, .int .i64 0, .int .i64 0, .int .i64 0, .int .i64 0, .int .i64 0, .int .i64 0, .int .i64 3, .slice none 0 0]
  replace R2 := R2.rowOther (q := w.heap.size + 2) (by omega) #[.int .i64 3, .int .i64 1, .int .i64 0, .int .i64 0, .int .i64 0, .int .i64 0, .int .i64 0, .int .i64 0, .int .i64 0, .int .i64 0, .int .i64 0, .int .i64 0, .int .i64 0, .int .i64 0, .int .i64 0, .int .i64 3, .slice none 0 0]
  replace b3 := below_setRow b3 (g := w.heap.size + 2) (by omega) #[.int .i64 3, .int .i64 1, .int .i64 0, .int .i64 0, .int .i64 0, .int .i64 0, .int .i64 0, .int .i64 0, .int .i64 0, .int .i64 0, .int .i64 0, .int .i64 0, .int .i64 0, .int .i64 0, .int .i64 0, .int .i64 3, .slice none 0 0]
  replace s3 : (v3.setRow (w.heap.size + 2) #[.int .i64 3, .int .i64 1, .int .i64 0, .int .i64 0, .int .i64 0, .int .i64 0, .int .i64 0, .int .i64 0, .int .i64 0, .int .i64 0, .int .i64 0, .int .i64 0, .int .i64 0, .int .i64 0, .int .i64 0, .int .i64 3, .slice none 0 0]).heap.size = w.heap.size + 3 := by simpa [World.setRow] using s3
  generalize hU3 : v3.setRow (w.heap.size + 2) #[.int .i64 3, .int .i64 1, .int .i64 0, .int .i64 0, .int .i64 0, .int .i64 0, .int .i64 0, .int .i64 0, .int .i64 0, .int .i64 0, .int .i64 0, .int .i64 0, .int .i64 0, .int .i64 0, .int .i64 0, .int .i64 3, .slice none 0 0] = u3 at b3 s3 R3 R1 R2
  have d1 := tx_dot (p := 1) (s := 1) (v := hZ) (t := 1) (sl := .slice none 0 0) R1
  have zd : (Try.prog.info? 29).map (·.size) = some [Value.int .i64 1, .int .i64 1].length := size29
  have r4 := rw_new u3 39 #[.int .i64 0, .int .i64 0, .int .i64 0]
  have b4 := bel_alloc b3 (.cells #[.int .i64 0, .int .i64 0, .int .i64 0] 39)
  have s4 : (u3.alloc (.cells #[.int .i64 0, .int .i64 0, .int .i64 0] 39)).heap.size = w.heap.size + 4 := by simp [s3]
  replace R1 := R1.alloc (.cells #[.int .i64 0, .int .i64 0, .int .i64 0] 39)
  replace R2 := R2.alloc (.cells #[.int .i64 0, .int .i64 0, .int .i64 0] 39)
  replace R3 := R3.alloc (.cells #[.int .i64 0, .int .i64 0, .int .i64 0] 39)
  generalize hW4 : u3.alloc (.cells #[.int .i64 0, .int .i64 0, .int .i64 0] 39) = v4 at r4 b4 s4 R1 R2 R3
  rw [s3] at r4
  have R4 := r4.row #[.int .i64 1, .int .i64 1, .int .i64 1]
  replace R1 := R1.rowOther (q := w.heap.size + 3) (by omega) #[.int .i64 1, .int .i64 1, .int .i64 1]
  replace R2 := R2.rowOther (q := w.heap.size + 3) (by omega) #[.int .i64 1, .int .i64 1, .int .i64 1]
  replace R3 := R3.rowOther (q := w.heap.size + 3) (by omega) #[.int .i64 1, .int .i64 1, .int .i64 1]
  replace b4 := below_setRow b4 (g := w.heap.size + 3) (by omega) #[.int .i64 1, .int .i64 1, .int .i64 1]
  replace s4 : (v4.setRow (w.heap.size + 3) #[.int .i64 1, .int .i64 1, .int .i64 1]).heap.size = w.heap.size + 4 := by simpa [World.setRow] using s4
  generalize hU4 : v4.setRow (w.heap.size + 3) #[.int .i64 1, .int .i64 1, .int .i64 1] = u4 at b4 s4 R4 R1 R2 R3
  replace R1 : Rw u4 w.heap.size 34 (txc 1 1 hZ 1 (.slice none 0 0)).toArray := R1
  replace R2 : Rw u4 (w.heap.size + 1) 34 (txc 2 1 hZ 2 (.slice none 0 0)).toArray := R2
  replace R3 : Rw u4 (w.heap.size + 2) 34 (txc 3 1 hZ 3 (.slice none 0 0)).toArray := R3
  go_enter Try.func11, Try.ntmps11
  have S4 : Hid (u4.heap.size = w.heap.size + 4) := s4
  clear s4
  go_wp2_with (first | rw [hW1] | rw [hW2] | rw [hW3] | rw [hW4] | (refine store_r rfl 34 _ _ rfl w.heap.size #[.int .i64 1, .int .i64 1, .int .i64 0, .int .i64 0, .int .i64 0, .int .i64 0, .int .i64 0, .int .i64 0, .int .i64 0, .int .i64 0, .int .i64 0, .int .i64 0, .int .i64 0, .int .i64 0, .int .i64 0, .int .i64 1, .slice none 0 0] rfl rfl r1 size34 rfl (by simp [Value.oneCell']) ?_; rw [hU1]) | (refine store_r rfl 34 _ _ rfl (w.heap.size + 1) #[.int .i64 2, .int .i64 1, .int .i64 0, .int .i64 0, .int .i64 0, .int .i64 0, .int .i64 0, .int .i64 0, .int .i64 0, .int .i64 0, .int .i64 0, .int .i64 0, .int .i64 0, .int .i64 0, .int .i64 0, .int .i64 2, .slice none 0 0] rfl rfl r2 size34 rfl (by simp [Value.oneCell']) ?_; rw [hU2]) | (refine store_r rfl 34 _ _ rfl (w.heap.size + 2) #[.int .i64 3, .int .i64 1, .int .i64 0, .int .i64 0, .int .i64 0, .int .i64 0, .int .i64 0, .int .i64 0, .int .i64 0, .int .i64 0, .int .i64 0, .int .i64 0, .int .i64 0, .int .i64 0, .int .i64 0, .int .i64 3, .slice none 0 0] rfl rfl r3 size34 rfl (by simp [Value.oneCell']) ?_; rw [hU3]) | (refine store_r rfl 39 _ _ rfl (w.heap.size + 3) #[.int .i64 1, .int .i64 1, .int .i64 1] rfl rfl r4 size39 rfl (by simp [Value.oneCell']) ?_; rw [hU4]) | refine load_m 29 _ rfl rfl _ _ rfl d1 Try.underlying29 rfl zd ?_)
  clear hW1 hU1 hW2 hU2 hW3 hU3 hW4 hU4 d1 zd r1 r2 r3 r4
  clear b1 b2 b3 s1 s2 s3
  have hbel := b4
  clear b4
  have zt1 : (Try.prog.info? 34).map (·.size) = some (txc 1 1 hZ 1 (.slice none 0 0)).length := size34
  have zt2 : (Try.prog.info? 34).map (·.size) = some (txc 2 1 hZ 2 (.slice none 0 0)).length := size34
  have zt3 : (Try.prog.info? 34).map (·.size) = some (txc 3 1 hZ 3 (.slice none 0 0)).length := size34
  have zm : (Try.prog.info? 39).map (·.size) = some [Value.int .i64 1, .int .i64 1, .int .i64 1].length := size39
  have hS : Calm.Stays (fun w' => Below u4.heap.size u4 w') := fun wa wb h hb => below_on h hb
  have hF : Facts.Stay [pF 0 (eqP (CV 5 0 (.slice none 0 0) (.slice none 0 0) (.slice none 0 0) (.slice none 0 0))), pF 1 (eqP (.agg (txc 1 1 hZ 1 (.slice none 0 0)).toArray)), pF 2 (eqP (MV 0 0 0)), pF 3 (cP (x5 hE1)), pF 4 (eqP (.agg (txc 1 1 hZ 1 (.slice none 0 0)).toArray)), pF 5 (eqP (MV 1 1 1)), pF 6 (cP (x5 hE2)), pF 7 (eqP (.agg (txc 2 1 hZ 2 (.slice none 0 0)).toArray)), pF 8 (eqP (MV 1 1 1)), pF 9 (cP (x5 hE3)), pF 10 (boxP u4.heap.size 27 (cvc 0 0 (.slice none 0 0) (.slice none 0 0) (.slice none 0 0) (.slice none 0 0)))] := stay_of (by simp only [List.forall_mem_cons]; exact ⟨⟨_, _, rfl, eqP_keeps _⟩, ⟨_, _, rfl, eqP_keeps _⟩, ⟨_, _, rfl, eqP_keeps _⟩, ⟨_, _, rfl, cP_keeps _⟩, ⟨_, _, rfl, eqP_keeps _⟩, ⟨_, _, rfl, eqP_keeps _⟩, ⟨_, _, rfl, cP_keeps _⟩, ⟨_, _, rfl, eqP_keeps _⟩, ⟨_, _, rfl, eqP_keeps _⟩, ⟨_, _, rfl, cP_keeps _⟩, ⟨_, _, rfl, boxP_keeps _ _ _⟩, fun _ h => by cases h⟩)
  refine Facts.regionTail (by kernel_rfl) (by kernel_rfl) 11 (by decide) (by kernel_rfl) (fun w' => Below u4.heap.size u4 w') (fun xv => { tmps := #[Value.bool false, Value.pointer (some { block := w.heap.size, off := 0 }), Value.pointer (some { block := w.heap.size + 1, off := 0 }), Value.pointer (some { block := w.heap.size + 2, off := 0 }), Value.pointer (some { block := w.heap.size + 3, off := 0 }), xv 10, undef, undef, undef, undef, Value.agg #[Value.int IntKind.i64 1, Value.int IntKind.i64 1], Value.agg #[Value.int IntKind.i64 1, Value.int IntKind.i64 1, Value.int IntKind.i64 0, Value.int IntKind.i64 0, Value.int IntKind.i64 0, Value.int IntKind.i64 0, Value.int IntKind.i64 0, Value.int IntKind.i64 0, Value.int IntKind.i64 0, Value.int IntKind.i64 0, Value.int IntKind.i64 0, Value.int IntKind.i64 0, Value.int IntKind.i64 0, Value.int IntKind.i64 0, Value.int IntKind.i64 0, Value.int IntKind.i64 1, Value.slice none 0 0], Value.agg #[Value.int IntKind.i64 2, Value.int IntKind.i64 1], Value.agg #[Value.int IntKind.i64 2, Value.int IntKind.i64 1, Value.int IntKind.i64 0, Value.int IntKind.i64 0, Value.int IntKind.i64 0, Value.int IntKind.i64 0, Value.int IntKind.i64 0, Value.int IntKind.i64 0, Value.int IntKind.i64 0, Value.int IntKind.i64 0, Value.int IntKind.i64 0, Value.int IntKind.i64 0, Value.int IntKind.i64 0, Value.int IntKind.i64 0, Value.int IntKind.i64 0, Value.int IntKind.i64 2, Value.slice none 0 0], Value.agg #[Value.int IntKind.i64 3, Value.int IntKind.i64 1], Value.agg #[Value.int IntKind.i64 3, Value.int IntKind.i64 1, Value.int IntKind.i64 0, Value.int IntKind.i64 0, Value.int IntKind.i64 0, Value.int IntKind.i64 0, Value.int IntKind.i64 0, Value.int IntKind.i64 0, Value.int IntKind.i64 0, Value.int IntKind.i64 0, Value.int IntKind.i64 0, Value.int IntKind.i64 0, Value.int IntKind.i64 0, Value.int IntKind.i64 0, Value.int IntKind.i64 0, Value.int IntKind.i64 3, Value.slice none 0 0], Value.pointer (some { block := w.heap.size, off := 0 }), Value.agg #[Value.int IntKind.i64 1, Value.int IntKind.i64 1], Value.agg #[Value.int IntKind.i64 1, Value.int IntKind.i64 1, Value.int IntKind.i64 1], xv 0, xv 1, xv 2, xv 3, xv 4, xv 5, xv 6, xv 7, xv 8, xv 9, undef, undef, undef, undef, undef, undef, undef, undef, undef, undef, undef, undef, undef, undef, undef, undef, undef, undef, undef, undef, undef, undef, undef, undef, undef, undef, undef, undef, undef, undef, undef, undef, undef, undef, undef, undef, undef, undef, undef, undef, undef, undef, undef, undef, undef, undef, undef, undef, undef, undef, undef, undef, undef, undef, undef, undef, undef, undef, undef, undef, undef, undef, undef, undef, undef, undef, undef, undef, undef], defers := [] }) [pF 0 (eqP (CV 5 0 (.slice none 0 0) (.slice none 0 0) (.slice none 0 0) (.slice none 0 0))), pF 1 (eqP (.agg (txc 1 1 hZ 1 (.slice none 0 0)).toArray)), pF 2 (eqP (MV 0 0 0)), pF 3 (cP (x5 hE1)), pF 4 (eqP (.agg (txc 1 1 hZ 1 (.slice none 0 0)).toArray)), pF 5 (eqP (MV 1 1 1)), pF 6 (cP (x5 hE2)), pF 7 (eqP (.agg (txc 2 1 hZ 2 (.slice none 0 0)).toArray)), pF 8 (eqP (MV 1 1 1)), pF 9 (cP (x5 hE3)), pF 10 (boxP u4.heap.size 27 (cvc 0 0 (.slice none 0 0) (.slice none 0 0) (.slice none 0 0) (.slice none 0 0)))] _ rfl rfl (by kernel_rfl) (fun j => [undef, undef, undef, undef, undef, undef, undef, undef, undef, undef, undef].getD j undef) rfl (Below.refl _ u4).drew ⟨?_, ?_, ?_, ?_, ?_, ?_, ?_, ?_, ?_, ?_, ?_, ?_, trivial⟩ ?_
  · exact fun _ => Facts.pureP hS hF (fun _ _ => rfl) rfl (fun xv wv hSw hd => by
      go_simp)
  · exact fun _ => Facts.loadP hS hF (fun _ _ => rfl) 34 Try.underlying34 rfl zt1 _ rfl rfl (fun xv wv hSw hd => by rfl) (fun wv hSw => Rw.whole (cs := (txc 1 1 hZ 1 (.slice none 0 0))) (R1.later hSw))
  · exact fun _ => Facts.pureP hS hF (fun _ _ => rfl) rfl (fun xv wv hSw hd => by
      go_simp)
  · refine fun _ => Facts.call5P hS hF (fun _ _ => rfl) rfl (by kernel_rfl) rfl (fun xv wv hSw hd => ?_)
    have d0 : xv 0 = _ := pF_get (hd ⟨0, .data⟩ (by simp) rfl _ rfl)
    have d1 : xv 1 = _ := pF_get (hd ⟨1, .data⟩ (by simp) rfl _ rfl)
    have d2 : xv 2 = _ := pF_get (hd ⟨2, .data⟩ (by simp) rfl _ rfl)
    show Calls Try.prog 14 #[xv 0, xv 1, .int .i64 1, xv 2, .string sA] wv _
    rw [d0, d1, d2]
    exact (c_ins1 wv).mono fun e w' h => gives_p h
  · exact fun _ => Facts.loadP hS hF (fun _ _ => rfl) 34 Try.underlying34 rfl zt1 _ rfl rfl (fun xv wv hSw hd => by rfl) (fun wv hSw => Rw.whole (cs := (txc 1 1 hZ 1 (.slice none 0 0))) (R1.later hSw))
  · exact fun _ => Facts.loadP hS hF (fun _ _ => rfl) 39 Try.underlying39 rfl zm _ rfl rfl (fun xv wv hSw hd => by rfl) (fun wv hSw => Rw.whole (cs := [Value.int .i64 1, .int .i64 1, .int .i64 1]) (R4.later hSw))
  · refine fun _ => Facts.call5P hS hF (fun _ _ => rfl) rfl (by kernel_rfl) rfl (fun xv wv hSw hd => ?_)
    have d3 := pF_get (hd ⟨3, .data⟩ (by simp) rfl _ rfl)
    have d4 : xv 4 = _ := pF_get (hd ⟨4, .data⟩ (by simp) rfl _ rfl)
    have d5 : xv 5 = _ := pF_get (hd ⟨5, .data⟩ (by simp) rfl _ rfl)
    show Calls Try.prog 14 #[xv 3, xv 4, .int .i64 2, xv 5, .string sB] wv _
    obtain ⟨va, vw, vm, ve, e2, f2⟩ := d3
    rw [e2, d4, d5]
    exact (c_ins2 f2).mono fun e w' h => gives_p h
  · exact fun _ => Facts.loadP hS hF (fun _ _ => rfl) 34 Try.underlying34 rfl zt2 _ rfl rfl (fun xv wv hSw hd => by rfl) (fun wv hSw => Rw.whole (cs := (txc 2 1 hZ 2 (.slice none 0 0))) (R2.later hSw))
  · exact fun _ => Facts.loadP hS hF (fun _ _ => rfl) 39 Try.underlying39 rfl zm _ rfl rfl (fun xv wv hSw hd => by rfl) (fun wv hSw => Rw.whole (cs := [Value.int .i64 1, .int .i64 1, .int .i64 1]) (R4.later hSw))
  · refine fun _ => Facts.call5P hS hF (fun _ _ => rfl) rfl (by kernel_rfl) rfl (fun xv wv hSw hd => ?_)
    have d6 := pF_get (hd ⟨6, .data⟩ (by simp) rfl _ rfl)
    have d7 : xv 7 = _ := pF_get (hd ⟨7, .data⟩ (by simp) rfl _ rfl)
    have d8 : xv 8 = _ := pF_get (hd ⟨8, .data⟩ (by simp) rfl _ rfl)
    show Calls Try.prog 14 #[xv 6, xv 7, .int .i64 1, xv 8, .string sC] wv _
    obtain ⟨va, vw, vm, ve, e2, f2⟩ := d6
    rw [e2, d7, d8]
    exact (c_ins3 f2).mono fun e w' h => gives_p h
  · exact fun _ => Facts.allocP hS hF (fun _ _ => rfl) 27 rfl (fun wv hSw => hSw.size) (fun _ _ => rfl)
  · exact fun h => absurd h (by decide)
  intro xqs w5 hb5 hf
  obtain ⟨va, vw, vm, ve, e4, FC⟩ := pF_get (hf 9 _ rfl)
  obtain ⟨qc, eqs, hNs, hq⟩ := pF_get (hf 10 _ rfl)
  clear hf hS hF
  obtain ⟨sa, sb, sc, sd, se, sf, sg, sh, rfl, rfl, rfl, rfl⟩ := FC.slices
  replace e4 : xqs 9 = .agg (cvc 5 0 (.slice sa 0 sb) (.slice sc 0 sd) (.slice se 0 sf) (.slice sg 3 sh)) := e4
  replace FC : Four w5 (x5 hE3) (.slice sa 0 sb) (.slice sc 0 sd) (.slice se 0 sf) (.slice sg 3 sh) := FC
  refine tail_store 27 _ _ rfl qc 0 eqs e4 (hq.store (cvc 5 0 (.slice sa 0 sb) (.slice sc 0 sd) (.slice se 0 sf) (.slice sg 3 sh)) size27 rfl (by simp [Value.oneCell'])) ?_
  refine Facts.tailWp_nil ?_
  simp only [eqs]
  have lR1 := R1.lt
  replace R1 := (R1.later hb5).rowOther (q := qc) (by omega) (cvc 5 0 (.slice sa 0 sb) (.slice sc 0 sd) (.slice se 0 sf) (.slice sg 3 sh))
  have lR2 := R2.lt
  replace R2 := (R2.later hb5).rowOther (q := qc) (by omega) (cvc 5 0 (.slice sa 0 sb) (.slice sc 0 sd) (.slice se 0 sf) (.slice sg 3 sh))
  have lR3 := R3.lt
  replace R3 := (R3.later hb5).rowOther (q := qc) (by omega) (cvc 5 0 (.slice sa 0 sb) (.slice sc 0 sd) (.slice se 0 sf) (.slice sg 3 sh))
  have lR4 := R4.lt
  replace R4 := (R4.later hb5).rowOther (q := qc) (by omega) (cvc 5 0 (.slice sa 0 sb) (.slice sc 0 sd) (.slice se 0 sf) (.slice sg 3 sh))
  replace hbel := below_setRow (below_on hbel hb5) (g := qc) (by have := hbel.size; omega) (cvc 5 0 (.slice sa 0 sb) (.slice sc 0 sd) (.slice se 0 sf) (.slice sg 3 sh))
  replace FC := FC.row hq (cvc 5 0 (.slice sa 0 sb) (.slice sc 0 sd) (.slice se 0 sf) (.slice sg 3 sh))
  have RC := hq.row (cvc 5 0 (.slice sa 0 sb) (.slice sc 0 sd) (.slice se 0 sf) (.slice sg 3 sh))
  have hs4 := S4.out
  have hps : w.heap.size + 2 < qc := by omega
  clear hs4 hb5 hq hNs e4 eqs lR1 lR2 lR3 lR4
  generalize w5.setRow qc (cvc 5 0 (.slice sa 0 sb) (.slice sc 0 sd) (.slice se 0 sf) (.slice sg 3 sh)) = w6 at R1 R2 R3 R4  hbel FC RC ⊢
  have d2 := tx_dot R2
  have zd : (Try.prog.info? 29).map (·.size) = some [Value.int .i64 2, .int .i64 1].length := size29
  have z3 : (Try.prog.info? 34).map (·.size) = some (txc 3 1 hZ 3 (.slice none 0 0)).toArray.size := size34
  have z1 : (Try.prog.info? 34).map (·.size) = some (txc 1 1 hZ 1 (.slice none 0 0)).toArray.size := size34
  go_wp2_with (first | refine load_r 27 _ rfl rfl _ rfl RC Try.underlying27 rfl size27 ?_ | refine load_r 34 _ rfl rfl _ rfl R3 Try.underlying34 rfl z3 ?_ | refine load_m 29 _ rfl rfl _ _ rfl d2 Try.underlying29 rfl zd ?_)
  clear d2 zd
  refine (c_del FC).mono ?_
  intro e w7 h1
  obtain ⟨da, db, dc, dd, de, df, dg, dh, rfl, FD, hb⟩ := gives5 (n := 3) rfl h1
  clear h1
  replace R1 := R1.later hb
  replace R2 := R2.later hb
  replace R3 := R3.later hb
  replace R4 := R4.later hb
  replace RC := RC.later hb
  replace FC := FC.later hb
  replace hbel := below_on hbel hb
  clear hb
  have hpd : w.heap.size + 2 < w7.heap.size := by
    have := R4.lt
    omega
  have hbA := bel_alloc (Below.refl w7.heap.size w7) (.cells (cvc 5 0 (.slice da 0 db) (.slice dc 0 dd) (.slice de 0 df) (.slice dg 3 dh)) 27)
  have RD := rw_new w7 27 (cvc 5 0 (.slice da 0 db) (.slice dc 0 dd) (.slice de 0 df) (.slice dg 3 dh))
  replace R1 := R1.later hbA
  replace R2 := R2.later hbA
  replace R3 := R3.later hbA
  replace R4 := R4.later hbA
  replace RC := RC.later hbA
  replace FC := FC.later hbA
  replace FD := FD.later hbA
  replace hbel := below_on hbel hbA
  clear hbA
  generalize hW : w7.alloc (.cells (cvc 5 0 (.slice da 0 db) (.slice dc 0 dd) (.slice de 0 df) (.slice dg 3 dh)) 27) = w8 at RD FD hbel R1 R2 R3 R4 RC FC
  have hgd : w7.heap.size < w8.heap.size := RD.lt
  have hbA := (bel_alloc (Below.refl w8.heap.size w8) (.cells #[.int .i64 0, .int .i64 0, .int .i64 0, .int .i64 0, .int .i64 0, .int .i64 0, .int .i64 0, .int .i64 0, .int .i64 0, .int .i64 0, .int .i64 0, .int .i64 0, .int .i64 0] 31)).setCell (p := ⟨w8.heap.size, 3, none⟩) (Nat.le_refl _) (.int .i64 1)
  have r9 := rw_new w8 31 #[.int .i64 0, .int .i64 0, .int .i64 0, .int .i64 0, .int .i64 0, .int .i64 0, .int .i64 0, .int .i64 0, .int .i64 0, .int .i64 0, .int .i64 0, .int .i64 0, .int .i64 0]
  have f3 : (w8.alloc (.cells #[.int .i64 0, .int .i64 0, .int .i64 0, .int .i64 0, .int .i64 0, .int .i64 0, .int .i64 0, .int .i64 0, .int .i64 0, .int .i64 0, .int .i64 0, .int .i64 0, .int .i64 0] 31)).frozen? ⟨w8.heap.size, 3, none⟩ = false := r9.frozen 3
  have c3 : (w8.alloc (.cells #[.int .i64 0, .int .i64 0, .int .i64 0, .int .i64 0, .int .i64 0, .int .i64 0, .int .i64 0, .int .i64 0, .int .i64 0, .int .i64 0, .int .i64 0, .int .i64 0, .int .i64 0] 31)).cell? ⟨w8.heap.size, 3, none⟩ = some (.int .i64 0) := r9.cell 3
  have RV : Rw ((w8.alloc (.cells #[.int .i64 0, .int .i64 0, .int .i64 0, .int .i64 0, .int .i64 0, .int .i64 0, .int .i64 0, .int .i64 0, .int .i64 0, .int .i64 0, .int .i64 0, .int .i64 0, .int .i64 0] 31)).setCell ⟨w8.heap.size, 3, none⟩ (.int .i64 1)) w8.heap.size 31 (vals hU).toArray := r9.set 3 _
  generalize hV : w8.alloc (.cells #[.int .i64 0, .int .i64 0, .int .i64 0, .int .i64 0, .int .i64 0, .int .i64 0, .int .i64 0, .int .i64 0, .int .i64 0, .int .i64 0, .int .i64 0, .int .i64 0, .int .i64 0] 31) = w9 at r9 f3 c3 RV hbA
  generalize hX : w9.setCell ⟨w8.heap.size, 3, none⟩ (.int .i64 1) = w10 at RV hbA
  replace R1 := R1.later hbA
  replace R2 := R2.later hbA
  replace R3 := R3.later hbA
  replace R4 := R4.later hbA
  replace RC := RC.later hbA
  replace FC := FC.later hbA
  replace RD := RD.later hbA
  replace FD := FD.later hbA
  replace hbel := below_on hbel hbA
  clear hbA
  have zv : (Try.prog.info? 31).map (·.size) = some (vals hU).toArray.size := size31
  go_wp2_with (first | rw [hW] | rw [hV] | rw [hX] | refine load_r 27 _ rfl rfl _ rfl RD Try.underlying27 rfl size27 ?_ | refine load_r 31 _ rfl rfl _ rfl RV Try.underlying31 rfl zv ?_)
  clear hW hV hX f3 c3 r9
  refine (c_fd FD).mono ?_
  intro e w11 h1
  obtain ⟨fa, fb, fc, fd, fe, ff, fg, fh, rfl, FF, hb⟩ := gives5 (n := 2) rfl h1
  clear h1
  replace R1 := R1.later hb
  replace R2 := R2.later hb
  replace R3 := R3.later hb
  replace R4 := R4.later hb
  replace RC := RC.later hb
  replace FC := FC.later hb
  replace RD := RD.later hb
  replace FD := FD.later hb
  replace RV := RV.later hb
  replace hbel := below_on hbel hb
  clear hb
  have hpf : w.heap.size + 2 < w11.heap.size := by
    have := R4.lt
    omega
  have hbA := bel_alloc (Below.refl w11.heap.size w11) (.cells (cvc 5 0 (.slice fa 0 fb) (.slice fc 0 fd) (.slice fe 0 ff) (.slice fg 2 fh)) 27)
  have RF := rw_new w11 27 (cvc 5 0 (.slice fa 0 fb) (.slice fc 0 fd) (.slice fe 0 ff) (.slice fg 2 fh))
  replace R1 := R1.later hbA
  replace R2 := R2.later hbA
  replace R3 := R3.later hbA
  replace R4 := R4.later hbA
  replace RC := RC.later hbA
  replace FC := FC.later hbA
  replace RD := RD.later hbA
  replace FD := FD.later hbA
  replace RV := RV.later hbA
  replace FF := FF.later hbA
  replace hbel := below_on hbel hbA
  clear hbA
  generalize hW : w11.alloc (.cells (cvc 5 0 (.slice fa 0 fb) (.slice fc 0 fd) (.slice fe 0 ff) (.slice fg 2 fh)) 27) = w12 at RF FF hbel R1 R2 R3 R4 RC FC RD FD RV
  go_wp2_with (first | rw [hW])
  clear hW
  have zc : (Try.prog.info? 27).map (·.size) = some ([Value.int .i64 5, .int .i64 0, .slice sa 0 sb, .slice sc 0 sd, .slice se 0 sf, .slice sg 3 sh] : List Value).length := size27
  have zvl : (Try.prog.info? 31).map (·.size) = some (vals hU).length := size31
  have hS : Calm.Stays (fun w' => Below w12.heap.size w12 w') := fun wa wb h hb => below_on h hb
  have hF : Facts.Stay [pF 0 (eqP (.agg ([Value.int .i64 5, .int .i64 0, .slice sa 0 sb, .slice sc 0 sd, .slice se 0 sf, .slice sg 3 sh] : List Value).toArray)), pF 1 (eqP (.agg (txc 3 1 hZ 3 (.slice none 0 0)).toArray)), pF 2 (eqP (MV 1 1 1)), pF 3 (cP (x5 hEg)), pF 4 (eqP (.agg (vals hU).toArray)), pF 5 (cP (x5 hEg)), pF 6 (boxP w12.heap.size 27 (cvc 0 0 (.slice none 0 0) (.slice none 0 0) (.slice none 0 0) (.slice none 0 0)))] := stay_of (by simp only [List.forall_mem_cons]; exact ⟨⟨_, _, rfl, eqP_keeps _⟩, ⟨_, _, rfl, eqP_keeps _⟩, ⟨_, _, rfl, eqP_keeps _⟩, ⟨_, _, rfl, cP_keeps _⟩, ⟨_, _, rfl, eqP_keeps _⟩, ⟨_, _, rfl, cP_keeps _⟩, ⟨_, _, rfl, boxP_keeps _ _ _⟩, fun _ h => by cases h⟩)
  refine Facts.regionTail (by kernel_rfl) (by kernel_rfl) 7 (by decide) (by kernel_rfl) (fun w' => Below w12.heap.size w12 w') (fun xv => { tmps := #[Value.bool false, Value.pointer (some { block := w.heap.size, off := 0 }), Value.pointer (some { block := w.heap.size + 1, off := 0 }), Value.pointer (some { block := w.heap.size + 2, off := 0 }), Value.pointer (some { block := w.heap.size + 3, off := 0 }), Value.pointer (some { block := qc, off := 0 }), Value.pointer (some { block := w7.heap.size, off := 0 }), Value.pointer (some { block := w8.heap.size, off := 0 }), Value.pointer (some { block := w11.heap.size, off := 0 }), xv 6, Value.agg #[Value.int IntKind.i64 1, Value.int IntKind.i64 1], Value.agg #[Value.int IntKind.i64 1, Value.int IntKind.i64 1, Value.int IntKind.i64 0, Value.int IntKind.i64 0, Value.int IntKind.i64 0, Value.int IntKind.i64 0, Value.int IntKind.i64 0, Value.int IntKind.i64 0, Value.int IntKind.i64 0, Value.int IntKind.i64 0, Value.int IntKind.i64 0, Value.int IntKind.i64 0, Value.int IntKind.i64 0, Value.int IntKind.i64 0, Value.int IntKind.i64 0, Value.int IntKind.i64 1, Value.slice none 0 0], Value.agg #[Value.int IntKind.i64 2, Value.int IntKind.i64 1], Value.agg #[Value.int IntKind.i64 2, Value.int IntKind.i64 1, Value.int IntKind.i64 0, Value.int IntKind.i64 0, Value.int IntKind.i64 0, Value.int IntKind.i64 0, Value.int IntKind.i64 0, Value.int IntKind.i64 0, Value.int IntKind.i64 0, Value.int IntKind.i64 0, Value.int IntKind.i64 0, Value.int IntKind.i64 0, Value.int IntKind.i64 0, Value.int IntKind.i64 0, Value.int IntKind.i64 0, Value.int IntKind.i64 2, Value.slice none 0 0], Value.agg #[Value.int IntKind.i64 3, Value.int IntKind.i64 1], Value.agg #[Value.int IntKind.i64 3, Value.int IntKind.i64 1, Value.int IntKind.i64 0, Value.int IntKind.i64 0, Value.int IntKind.i64 0, Value.int IntKind.i64 0, Value.int IntKind.i64 0, Value.int IntKind.i64 0, Value.int IntKind.i64 0, Value.int IntKind.i64 0, Value.int IntKind.i64 0, Value.int IntKind.i64 0, Value.int IntKind.i64 0, Value.int IntKind.i64 0, Value.int IntKind.i64 0, Value.int IntKind.i64 3, Value.slice none 0 0], Value.pointer (some { block := w.heap.size, off := 0 }), Value.agg #[Value.int IntKind.i64 1, Value.int IntKind.i64 1], Value.agg #[Value.int IntKind.i64 1, Value.int IntKind.i64 1, Value.int IntKind.i64 1], xqs 0, xqs 1, xqs 2, xqs 3, xqs 4, xqs 5, xqs 6, xqs 7, xqs 8, xqs 9, Value.agg (cvc 5 0 (Value.slice sa 0 sb) (Value.slice sc 0 sd) (Value.slice se 0 sf) (Value.slice sg 3 sh)), Value.agg (txc 3 1 hZ 3 (Value.slice none 0 0)).toArray, Value.pointer (some { block := w.heap.size + 1, off := 0 }), Value.agg #[Value.int IntKind.i64 2, Value.int IntKind.i64 1], Value.agg #[Value.int IntKind.i64 2, Value.int IntKind.i64 1, Value.int IntKind.i64 1], CV 5 0 (Value.slice da 0 db) (Value.slice dc 0 dd) (Value.slice de 0 df) (Value.slice dg 3 dh), Value.pointer (some { block := w8.heap.size, off := 3 }), Value.agg (cvc 5 0 (Value.slice da 0 db) (Value.slice dc 0 dd) (Value.slice de 0 df) (Value.slice dg 3 dh)), Value.agg (vals hU).toArray, CV 5 0 (Value.slice fa 0 fb) (Value.slice fc 0 fd) (Value.slice fe 0 ff) (Value.slice fg 2 fh), xv 0, xv 1, xv 2, xv 3, xv 4, xv 5, undef, undef, undef, undef, undef, undef, undef, undef, undef, undef, undef, undef, undef, undef, undef, undef, undef, undef, undef, undef, undef, undef, undef, undef, undef, undef, undef, undef, undef, undef, undef, undef, undef, undef, undef, undef, undef, undef, undef, undef, undef, undef, undef, undef, undef, undef, undef, undef, undef, undef, undef, undef, undef], defers := [] }) [pF 0 (eqP (.agg ([Value.int .i64 5, .int .i64 0, .slice sa 0 sb, .slice sc 0 sd, .slice se 0 sf, .slice sg 3 sh] : List Value).toArray)), pF 1 (eqP (.agg (txc 3 1 hZ 3 (.slice none 0 0)).toArray)), pF 2 (eqP (MV 1 1 1)), pF 3 (cP (x5 hEg)), pF 4 (eqP (.agg (vals hU).toArray)), pF 5 (cP (x5 hEg)), pF 6 (boxP w12.heap.size 27 (cvc 0 0 (.slice none 0 0) (.slice none 0 0) (.slice none 0 0) (.slice none 0 0)))] _ rfl rfl (by kernel_rfl) (fun j => [undef, undef, undef, undef, undef, undef, undef].getD j undef) rfl (Below.refl _ w12).drew ⟨?_, ?_, ?_, ?_, ?_, ?_, ?_, ?_, trivial⟩ ?_
  · exact fun _ => Facts.loadP hS hF (fun _ _ => rfl) 27 Try.underlying27 rfl zc _ rfl rfl (fun xv wv hSw hd => by rfl) (fun wv hSw => Rw.whole (cs := [Value.int .i64 5, .int .i64 0, .slice sa 0 sb, .slice sc 0 sd, .slice se 0 sf, .slice sg 3 sh]) (RC.later hSw))
  · exact fun _ => Facts.loadP hS hF (fun _ _ => rfl) 34 Try.underlying34 rfl zt3 _ rfl rfl (fun xv wv hSw hd => by rfl) (fun wv hSw => Rw.whole (cs := (txc 3 1 hZ 3 (.slice none 0 0))) (R3.later hSw))
  · exact fun _ => Facts.loadP hS hF (fun _ _ => rfl) 39 Try.underlying39 rfl zm _ rfl rfl (fun xv wv hSw hd => by rfl) (fun wv hSw => Rw.whole (cs := [Value.int .i64 1, .int .i64 1, .int .i64 1]) (R4.later hSw))
  · refine fun _ => Facts.call4P hS hF (fun _ _ => rfl) rfl (by kernel_rfl) rfl (fun xv wv hSw hd => ?_)
    have d0 : xv 0 = _ := pF_get (hd ⟨0, .data⟩ (by simp) rfl _ rfl)
    have d1 : xv 1 = _ := pF_get (hd ⟨1, .data⟩ (by simp) rfl _ rfl)
    have d2 : xv 2 = _ := pF_get (hd ⟨2, .data⟩ (by simp) rfl _ rfl)
    show Calls Try.prog 12 #[xv 0, xv 1, .int .i64 1, xv 2] wv _
    rw [d0, d1, d2]
    exact (c_delg (FC.later hSw)).mono fun e w' h => gives_p h
  · exact fun _ => Facts.loadP hS hF (fun _ _ => rfl) 31 Try.underlying31 rfl zvl _ rfl rfl (fun xv wv hSw hd => by rfl) (fun wv hSw => Rw.whole (cs := vals hU) (RV.later hSw))
  · refine fun _ => Facts.call2P hS hF (fun _ _ => rfl) rfl (by kernel_rfl) rfl (fun xv wv hSw hd => ?_)
    have d3 := pF_get (hd ⟨3, .data⟩ (by simp) rfl _ rfl)
    have d4 : xv 4 = _ := pF_get (hd ⟨4, .data⟩ (by simp) rfl _ rfl)
    show Calls Try.prog 19 #[xv 3, xv 4] wv _
    obtain ⟨va, vw, vm, ve, e2, f2⟩ := d3
    rw [e2, d4]
    exact (c_fg f2).mono fun e w' h => gives_p h
  · exact fun _ => Facts.allocP hS hF (fun _ _ => rfl) 27 rfl (fun wv hSw => hSw.size) (fun _ _ => rfl)
  · exact fun h => absurd h (by decide)
  intro xqg w13 hb5 hf
  obtain ⟨va, vw, vm, ve, e4, FG⟩ := pF_get (hf 5 _ rfl)
  obtain ⟨qg, eqg, hNg, hq⟩ := pF_get (hf 6 _ rfl)
  clear hf hS hF
  obtain ⟨ga, gb, gc, gd, ge, gf, gg, gh, rfl, rfl, rfl, rfl⟩ := FG.slices
  replace e4 : xqg 5 = .agg (cvc 5 0 (.slice ga 0 gb) (.slice gc 0 gd) (.slice ge 0 gf) (.slice gg 3 gh)) := e4
  replace FG : Four w13 (x5 hEg) (.slice ga 0 gb) (.slice gc 0 gd) (.slice ge 0 gf) (.slice gg 3 gh) := FG
  refine tail_store 27 _ _ rfl qg 0 eqg e4 (hq.store (cvc 5 0 (.slice ga 0 gb) (.slice gc 0 gd) (.slice ge 0 gf) (.slice gg 3 gh)) size27 rfl (by simp [Value.oneCell'])) ?_
  refine Facts.tailWp_nil ?_
  simp only [eqg]
  have lR1 := R1.lt
  replace R1 := (R1.later hb5).rowOther (q := qg) (by omega) (cvc 5 0 (.slice ga 0 gb) (.slice gc 0 gd) (.slice ge 0 gf) (.slice gg 3 gh))
  have lR2 := R2.lt
  replace R2 := (R2.later hb5).rowOther (q := qg) (by omega) (cvc 5 0 (.slice ga 0 gb) (.slice gc 0 gd) (.slice ge 0 gf) (.slice gg 3 gh))
  have lR3 := R3.lt
  replace R3 := (R3.later hb5).rowOther (q := qg) (by omega) (cvc 5 0 (.slice ga 0 gb) (.slice gc 0 gd) (.slice ge 0 gf) (.slice gg 3 gh))
  have lR4 := R4.lt
  replace R4 := (R4.later hb5).rowOther (q := qg) (by omega) (cvc 5 0 (.slice ga 0 gb) (.slice gc 0 gd) (.slice ge 0 gf) (.slice gg 3 gh))
  have lRC := RC.lt
  replace RC := (RC.later hb5).rowOther (q := qg) (by omega) (cvc 5 0 (.slice ga 0 gb) (.slice gc 0 gd) (.slice ge 0 gf) (.slice gg 3 gh))
  have lRD := RD.lt
  replace RD := (RD.later hb5).rowOther (q := qg) (by omega) (cvc 5 0 (.slice ga 0 gb) (.slice gc 0 gd) (.slice ge 0 gf) (.slice gg 3 gh))
  have lRF := RF.lt
  replace RF := (RF.later hb5).rowOther (q := qg) (by omega) (cvc 5 0 (.slice ga 0 gb) (.slice gc 0 gd) (.slice ge 0 gf) (.slice gg 3 gh))
  have lRV := RV.lt
  replace RV := (RV.later hb5).rowOther (q := qg) (by omega) (cvc 5 0 (.slice ga 0 gb) (.slice gc 0 gd) (.slice ge 0 gf) (.slice gg 3 gh))
  replace FC := (FC.later hb5).row hq (cvc 5 0 (.slice ga 0 gb) (.slice gc 0 gd) (.slice ge 0 gf) (.slice gg 3 gh))
  replace FD := (FD.later hb5).row hq (cvc 5 0 (.slice ga 0 gb) (.slice gc 0 gd) (.slice ge 0 gf) (.slice gg 3 gh))
  replace FF := (FF.later hb5).row hq (cvc 5 0 (.slice ga 0 gb) (.slice gc 0 gd) (.slice ge 0 gf) (.slice gg 3 gh))
  replace hbel := below_setRow (below_on hbel hb5) (g := qg) (by have := hbel.size; omega) (cvc 5 0 (.slice ga 0 gb) (.slice gc 0 gd) (.slice ge 0 gf) (.slice gg 3 gh))
  replace FG := FG.row hq (cvc 5 0 (.slice ga 0 gb) (.slice gc 0 gd) (.slice ge 0 gf) (.slice gg 3 gh))
  have RG := hq.row (cvc 5 0 (.slice ga 0 gb) (.slice gc 0 gd) (.slice ge 0 gf) (.slice gg 3 gh))
  have hpg : w.heap.size + 2 < qg := by omega
  clear hb5 hq hNg e4 eqg lR1 lR2 lR3 lR4 lRC lRD lRF lRV
  generalize w13.setRow qg (cvc 5 0 (.slice ga 0 gb) (.slice gc 0 gd) (.slice ge 0 gf) (.slice gg 3 gh)) = w14 at R1 R2 R3 R4 RC RD RF RV FC FD FF hbel FG RG ⊢
  have f3 : w14.frozen? ⟨w.heap.size + 2, 3, none⟩ = false := R3.frozen 3
  have c3 : w14.cell? ⟨w.heap.size + 2, 3, none⟩ = some (.int .i64 0) := R3.cell 3
  have hst : ∀ (i : Nat) (s : ByteArray), (txc 3 1 hZ 3 (.slice none 0 0)).toArray[i]? ≠ some (Value.string s) := fun i s h => by
    have := Array.mem_of_getElem? h
    simp [txc, vals] at this
  have hj3 : (txc 3 1 hZ 3 (.slice none 0 0)).toArray[3]? = some (Value.int .i64 0) := rfl
  replace FC := four_dep (j := 3) FC R3 hst hj3 (h_go (l := hE3) rfl) (.int .i64 1)
  replace FD := four_dep (j := 3) FD R3 hst hj3 (h_go (l := hEd) rfl) (.int .i64 1)
  replace FF := four_dep (j := 3) FF R3 hst hj3 (h_go (l := hE2) rfl) (.int .i64 1)
  clear hst hj3
  replace RC := RC.setOther (q := w.heap.size + 2) (by omega) 3 (.int .i64 1)
  replace RD := RD.setOther (q := w.heap.size + 2) (by omega) 3 (.int .i64 1)
  replace RF := RF.setOther (q := w.heap.size + 2) (by omega) 3 (.int .i64 1)
  replace RG := RG.setOther (q := w.heap.size + 2) (by omega) 3 (.int .i64 1)
  replace R4 := R4.setOther (q := w.heap.size + 2) (by omega) 3 (.int .i64 1)
  replace hbel := hbel.setCell (p := ⟨w.heap.size + 2, 3, none⟩) (show w.heap.size ≤ w.heap.size + 2 by omega) (.int .i64 1)
  replace R3 : Rw (w14.setCell ⟨w.heap.size + 2, 3, none⟩ (.int .i64 1)) (w.heap.size + 2) 34 (txc 3 1 hV 3 (.slice none 0 0)).toArray := R3.set 3 _
  clear R1 R2 RV
  generalize hX : w14.setCell ⟨w.heap.size + 2, 3, none⟩ (.int .i64 1) = w15 at R3 R4 RC RD RF RG FC FD FF hbel
  go_wp2_with (first | rw [hX])
  clear hX f3 c3
  have zdd : (Try.prog.info? 27).map (·.size) = some ([Value.int .i64 5, .int .i64 0, .slice da 0 db, .slice dc 0 dd, .slice de 0 df, .slice dg 3 dh] : List Value).length := size27
  have zff : (Try.prog.info? 27).map (·.size) = some ([Value.int .i64 5, .int .i64 0, .slice fa 0 fb, .slice fc 0 fd, .slice fe 0 ff, .slice fg 2 fh] : List Value).length := size27
  have zt4 : (Try.prog.info? 34).map (·.size) = some (txc 3 1 hV 3 (.slice none 0 0)).length := size34
  have hS : Calm.Stays (fun w' => Below w15.heap.size w15 w') := fun wa wb h hb => below_on h hb
  have hF : Facts.Stay [pF 0 (eqP (.agg ([Value.int .i64 5, .int .i64 0, .slice sa 0 sb, .slice sc 0 sd, .slice se 0 sf, .slice sg 3 sh] : List Value).toArray)), pF 1 (vP 5 [[97], [99], [98]]), pF 2 (thP [[97], [99], [98]]), pF 3 (thP [[97], [99], [98]]), pF 4 (eqP (.bool true)), pF 5 (eqP (.bool true)), pF 6 (eqP (.agg ([Value.int .i64 5, .int .i64 0, .slice da 0 db, .slice dc 0 dd, .slice de 0 df, .slice dg 3 dh] : List Value).toArray)), pF 7 (vP 5 [[97], [98]]), pF 8 (thP [[97], [98]]), pF 9 (thP [[97], [98]]), pF 10 (eqP (.bool true)), pF 11 (eqP (.bool true)), pF 12 (eqP (.bool true)), pF 13 (eqP (.pointer (some ⟨w11.heap.size, 5, none⟩))), pF 14 (eqP (.slice fg 2 fh)), pF 15 (eqP (.int .i64 2)), pF 16 (eqP (.bool true)), pF 17 (eqP (.bool true)), pF 18 (eqP (.bool true)), pF 19 (eqP (.pointer (some ⟨qg, 5, none⟩))), pF 20 (eqP (.slice gg 3 gh)), pF 21 (eqP (.int .i64 3)), pF 22 (eqP (.bool true)), pF 23 (eqP (.bool true)), pF 24 (eqP (.bool true)), pF 25 (eqP (.agg ([Value.int .i64 5, .int .i64 0, .slice sa 0 sb, .slice sc 0 sd, .slice se 0 sf, .slice sg 3 sh] : List Value).toArray)), pF 26 (mkP [⟨1, 1, 1⟩, ⟨2, 1, 1⟩, ⟨1, 1, 2⟩]), pF 27 (eqP (.int .i64 3)), pF 28 (eqP (.bool true)), pF 29 (eqP (.bool true)), pF 30 (eqP (.bool true)), pF 31 (eqP (.agg ([Value.int .i64 5, .int .i64 0, .slice sa 0 sb, .slice sc 0 sd, .slice se 0 sf, .slice sg 3 sh] : List Value).toArray)), pF 32 (mkP [⟨1, 1, 1⟩, ⟨2, 1, 1⟩, ⟨1, 1, 2⟩]), pF 33 (ptP [Value.int .i64 1, .int .i64 1, .int .i64 1]), pF 34 (eqP (.agg ([Value.int .i64 1, .int .i64 1, .int .i64 1] : List Value).toArray)), pF 35 (eqP (.agg ([Value.int .i64 1, .int .i64 1, .int .i64 1] : List Value).toArray)), pF 36 (eqP (.bool true)), pF 37 (eqP (.bool true)), pF 38 (eqP (.bool true)), pF 39 (eqP (.agg ([Value.int .i64 5, .int .i64 0, .slice sa 0 sb, .slice sc 0 sd, .slice se 0 sf, .slice sg 3 sh] : List Value).toArray)), pF 40 (eqP (.agg (txc 3 1 hV 3 (.slice none 0 0)).toArray)), pF 41 (cP (x5 hEc)), pF 42 (vP 5 [[99]]), pF 43 (thP [[99]]), pF 44 (thP [[99]]), pF 45 (eqP (.bool true)), pF 46 (eqP (.bool true)), pF 47 (eqP (.bool true)), pF 48 (eqP (.agg ([Value.int .i64 5, .int .i64 0, .slice fa 0 fb, .slice fc 0 fd, .slice fe 0 ff, .slice fg 2 fh] : List Value).toArray)), pF 49 (eqP (.bool true)), pF 50 (eqP (.bool true)), pF 51 (eqP (.bool true))] := stay_of (by simp only [List.forall_mem_cons]; exact ⟨⟨_, _, rfl, eqP_keeps _⟩, ⟨_, _, rfl, vP_keeps _ _⟩, ⟨_, _, rfl, thP_keeps _⟩, ⟨_, _, rfl, thP_keeps _⟩, ⟨_, _, rfl, eqP_keeps _⟩, ⟨_, _, rfl, eqP_keeps _⟩, ⟨_, _, rfl, eqP_keeps _⟩, ⟨_, _, rfl, vP_keeps _ _⟩, ⟨_, _, rfl, thP_keeps _⟩, ⟨_, _, rfl, thP_keeps _⟩, ⟨_, _, rfl, eqP_keeps _⟩, ⟨_, _, rfl, eqP_keeps _⟩, ⟨_, _, rfl, eqP_keeps _⟩, ⟨_, _, rfl, eqP_keeps _⟩, ⟨_, _, rfl, eqP_keeps _⟩, ⟨_, _, rfl, eqP_keeps _⟩, ⟨_, _, rfl, eqP_keeps _⟩, ⟨_, _, rfl, eqP_keeps _⟩, ⟨_, _, rfl, eqP_keeps _⟩, ⟨_, _, rfl, eqP_keeps _⟩, ⟨_, _, rfl, eqP_keeps _⟩, ⟨_, _, rfl, eqP_keeps _⟩, ⟨_, _, rfl, eqP_keeps _⟩, ⟨_, _, rfl, eqP_keeps _⟩, ⟨_, _, rfl, eqP_keeps _⟩, ⟨_, _, rfl, eqP_keeps _⟩, ⟨_, _, rfl, mkP_keeps _⟩, ⟨_, _, rfl, eqP_keeps _⟩, ⟨_, _, rfl, eqP_keeps _⟩, ⟨_, _, rfl, eqP_keeps _⟩, ⟨_, _, rfl, eqP_keeps _⟩, ⟨_, _, rfl, eqP_keeps _⟩, ⟨_, _, rfl, mkP_keeps _⟩, ⟨_, _, rfl, ptP_keeps _⟩, ⟨_, _, rfl, eqP_keeps _⟩, ⟨_, _, rfl, eqP_keeps _⟩, ⟨_, _, rfl, eqP_keeps _⟩, ⟨_, _, rfl, eqP_keeps _⟩, ⟨_, _, rfl, eqP_keeps _⟩, ⟨_, _, rfl, eqP_keeps _⟩, ⟨_, _, rfl, eqP_keeps _⟩, ⟨_, _, rfl, cP_keeps _⟩, ⟨_, _, rfl, vP_keeps _ _⟩, ⟨_, _, rfl, thP_keeps _⟩, ⟨_, _, rfl, thP_keeps _⟩, ⟨_, _, rfl, eqP_keeps _⟩, ⟨_, _, rfl, eqP_keeps _⟩, ⟨_, _, rfl, eqP_keeps _⟩, ⟨_, _, rfl, eqP_keeps _⟩, ⟨_, _, rfl, eqP_keeps _⟩, ⟨_, _, rfl, eqP_keeps _⟩, ⟨_, _, rfl, eqP_keeps _⟩, fun _ h => by cases h⟩)
  refine FactsG.region (by kernel_rfl) (by kernel_rfl) (fun w' => Below w15.heap.size w15 w') (fun xv => { tmps := #[xv 51, Value.pointer (some { block := w.heap.size, off := 0 }), Value.pointer (some { block := w.heap.size + 1, off := 0 }), Value.pointer (some { block := w.heap.size + 2, off := 0 }), Value.pointer (some { block := w.heap.size + 3, off := 0 }), Value.pointer (some { block := qc, off := 0 }), Value.pointer (some { block := w7.heap.size, off := 0 }), Value.pointer (some { block := w8.heap.size, off := 0 }), Value.pointer (some { block := w11.heap.size, off := 0 }), Value.pointer (some { block := qg, off := 0 }), Value.agg #[Value.int IntKind.i64 1, Value.int IntKind.i64 1], Value.agg #[Value.int IntKind.i64 1, Value.int IntKind.i64 1, Value.int IntKind.i64 0, Value.int IntKind.i64 0, Value.int IntKind.i64 0, Value.int IntKind.i64 0, Value.int IntKind.i64 0, Value.int IntKind.i64 0, Value.int IntKind.i64 0, Value.int IntKind.i64 0, Value.int IntKind.i64 0, Value.int IntKind.i64 0, Value.int IntKind.i64 0, Value.int IntKind.i64 0, Value.int IntKind.i64 0, Value.int IntKind.i64 1, Value.slice none 0 0], Value.agg #[Value.int IntKind.i64 2, Value.int IntKind.i64 1], Value.agg #[Value.int IntKind.i64 2, Value.int IntKind.i64 1, Value.int IntKind.i64 0, Value.int IntKind.i64 0, Value.int IntKind.i64 0, Value.int IntKind.i64 0, Value.int IntKind.i64 0, Value.int IntKind.i64 0, Value.int IntKind.i64 0, Value.int IntKind.i64 0, Value.int IntKind.i64 0, Value.int IntKind.i64 0, Value.int IntKind.i64 0, Value.int IntKind.i64 0, Value.int IntKind.i64 0, Value.int IntKind.i64 2, Value.slice none 0 0], Value.agg #[Value.int IntKind.i64 3, Value.int IntKind.i64 1], Value.agg #[Value.int IntKind.i64 3, Value.int IntKind.i64 1, Value.int IntKind.i64 0, Value.int IntKind.i64 0, Value.int IntKind.i64 0, Value.int IntKind.i64 0, Value.int IntKind.i64 0, Value.int IntKind.i64 0, Value.int IntKind.i64 0, Value.int IntKind.i64 0, Value.int IntKind.i64 0, Value.int IntKind.i64 0, Value.int IntKind.i64 0, Value.int IntKind.i64 0, Value.int IntKind.i64 0, Value.int IntKind.i64 3, Value.slice none 0 0], Value.pointer (some { block := w.heap.size, off := 0 }), Value.agg #[Value.int IntKind.i64 1, Value.int IntKind.i64 1], Value.agg #[Value.int IntKind.i64 1, Value.int IntKind.i64 1, Value.int IntKind.i64 1], xqs 0, xqs 1, xqs 2, xqs 3, xqs 4, xqs 5, xqs 6, xqs 7, xqs 8, xqs 9, Value.agg (cvc 5 0 (Value.slice sa 0 sb) (Value.slice sc 0 sd) (Value.slice se 0 sf) (Value.slice sg 3 sh)), Value.agg (txc 3 1 hZ 3 (Value.slice none 0 0)).toArray, Value.pointer (some { block := w.heap.size + 1, off := 0 }), Value.agg #[Value.int IntKind.i64 2, Value.int IntKind.i64 1], Value.agg #[Value.int IntKind.i64 2, Value.int IntKind.i64 1, Value.int IntKind.i64 1], CV 5 0 (Value.slice da 0 db) (Value.slice dc 0 dd) (Value.slice de 0 df) (Value.slice dg 3 dh), Value.pointer (some { block := w8.heap.size, off := 3 }), Value.agg (cvc 5 0 (Value.slice da 0 db) (Value.slice dc 0 dd) (Value.slice de 0 df) (Value.slice dg 3 dh)), Value.agg (vals hU).toArray, CV 5 0 (Value.slice fa 0 fb) (Value.slice fc 0 fd) (Value.slice fe 0 ff) (Value.slice fg 2 fh), xqg 0, xqg 1, xqg 2, xqg 3, xqg 4, xqg 5, Value.pointer (some { block := w.heap.size + 2, off := 2 }), Value.pointer (some { block := w.heap.size + 2, off := 3 }), xv 0, xv 1, xv 2, xv 3, xv 4, xv 5, xv 6, xv 7, xv 8, xv 9, xv 10, xv 11, xv 12, xv 13, xv 14, xv 15, xv 16, xv 17, xv 18, xv 19, xv 20, xv 21, xv 22, xv 23, xv 24, xv 25, xv 26, xv 27, xv 28, xv 29, xv 30, xv 31, xv 32, xv 33, xv 34, xv 35, xv 36, xv 37, xv 38, xv 39, xv 40, xv 41, xv 42, xv 43, xv 44, xv 45, xv 46, xv 47, xv 48, xv 49, xv 50], defers := [] }) [pF 0 (eqP (.agg ([Value.int .i64 5, .int .i64 0, .slice sa 0 sb, .slice sc 0 sd, .slice se 0 sf, .slice sg 3 sh] : List Value).toArray)), pF 1 (vP 5 [[97], [99], [98]]), pF 2 (thP [[97], [99], [98]]), pF 3 (thP [[97], [99], [98]]), pF 4 (eqP (.bool true)), pF 5 (eqP (.bool true)), pF 6 (eqP (.agg ([Value.int .i64 5, .int .i64 0, .slice da 0 db, .slice dc 0 dd, .slice de 0 df, .slice dg 3 dh] : List Value).toArray)), pF 7 (vP 5 [[97], [98]]), pF 8 (thP [[97], [98]]), pF 9 (thP [[97], [98]]), pF 10 (eqP (.bool true)), pF 11 (eqP (.bool true)), pF 12 (eqP (.bool true)), pF 13 (eqP (.pointer (some ⟨w11.heap.size, 5, none⟩))), pF 14 (eqP (.slice fg 2 fh)), pF 15 (eqP (.int .i64 2)), pF 16 (eqP (.bool true)), pF 17 (eqP (.bool true)), pF 18 (eqP (.bool true)), pF 19 (eqP (.pointer (some ⟨qg, 5, none⟩))), pF 20 (eqP (.slice gg 3 gh)), pF 21 (eqP (.int .i64 3)), pF 22 (eqP (.bool true)), pF 23 (eqP (.bool true)), pF 24 (eqP (.bool true)), pF 25 (eqP (.agg ([Value.int .i64 5, .int .i64 0, .slice sa 0 sb, .slice sc 0 sd, .slice se 0 sf, .slice sg 3 sh] : List Value).toArray)), pF 26 (mkP [⟨1, 1, 1⟩, ⟨2, 1, 1⟩, ⟨1, 1, 2⟩]), pF 27 (eqP (.int .i64 3)), pF 28 (eqP (.bool true)), pF 29 (eqP (.bool true)), pF 30 (eqP (.bool true)), pF 31 (eqP (.agg ([Value.int .i64 5, .int .i64 0, .slice sa 0 sb, .slice sc 0 sd, .slice se 0 sf, .slice sg 3 sh] : List Value).toArray)), pF 32 (mkP [⟨1, 1, 1⟩, ⟨2, 1, 1⟩, ⟨1, 1, 2⟩]), pF 33 (ptP [Value.int .i64 1, .int .i64 1, .int .i64 1]), pF 34 (eqP (.agg ([Value.int .i64 1, .int .i64 1, .int .i64 1] : List Value).toArray)), pF 35 (eqP (.agg ([Value.int .i64 1, .int .i64 1, .int .i64 1] : List Value).toArray)), pF 36 (eqP (.bool true)), pF 37 (eqP (.bool true)), pF 38 (eqP (.bool true)), pF 39 (eqP (.agg ([Value.int .i64 5, .int .i64 0, .slice sa 0 sb, .slice sc 0 sd, .slice se 0 sf, .slice sg 3 sh] : List Value).toArray)), pF 40 (eqP (.agg (txc 3 1 hV 3 (.slice none 0 0)).toArray)), pF 41 (cP (x5 hEc)), pF 42 (vP 5 [[99]]), pF 43 (thP [[99]]), pF 44 (thP [[99]]), pF 45 (eqP (.bool true)), pF 46 (eqP (.bool true)), pF 47 (eqP (.bool true)), pF 48 (eqP (.agg ([Value.int .i64 5, .int .i64 0, .slice fa 0 fb, .slice fc 0 fd, .slice fe 0 ff, .slice fg 2 fh] : List Value).toArray)), pF 49 (eqP (.bool true)), pF 50 (eqP (.bool true)), pF 51 (eqP (.bool true))] (fun _ _ _ _ => True) (fun _ _ _ _ _ => trivial) _ rfl rfl (by kernel_rfl) (fun j => [undef, undef, undef, undef, undef, undef, undef, undef, undef, undef, undef, undef, undef, undef, undef, undef, undef, undef, undef, undef, undef, undef, undef, undef, undef, undef, undef, undef, undef, undef, undef, undef, undef, undef, undef, undef, undef, undef, undef, undef, undef, undef, undef, undef, undef, undef, undef, undef, undef, undef, undef, Value.bool false].getD j undef) rfl (Below.refl _ w15).drew ⟨?_, ?_, ?_, ?_, ?_, ?_, ?_, ?_, ?_, ?_, ?_, ?_, ?_, ?_, ?_, ?_, ?_, ?_, ?_, ?_, ?_, ?_, ?_, ?_, ?_, ?_, ?_, ?_, ?_, ?_, ?_, ?_, ?_, ?_, ?_, ?_, ?_, ?_, ?_, ?_, ?_, ?_, ?_, ?_, ?_, ?_, ?_, ?_, ?_, ?_, ?_, ?_, trivial⟩ ?_
  · exact FactsG.of rfl (fun _ _ _ => trivial) (fun _ _ _ _ => rfl) (Facts.loadP hS hF (fun _ _ => rfl) 27 Try.underlying27 rfl zc _ rfl rfl (fun xv wv hSw hd => by rfl) (fun wv hSw => Rw.whole (cs := [Value.int .i64 5, .int .i64 0, .slice sa 0 sb, .slice sc 0 sd, .slice se 0 sf, .slice sg 3 sh]) (RC.later hSw)))
  · refine FactsG.of rfl (fun _ _ _ => trivial) (fun _ _ _ _ => rfl) (Facts.call1P hS hF (fun _ _ => rfl) rfl (by kernel_rfl) rfl (fun xv wv hSw hd => ?_))
    have d0 : xv 0 = _ := pF_get (hd ⟨0, .data⟩ (by simp) rfl _ rfl)
    show Calls Try.prog 21 #[xv 0] wv _
    rw [d0]
    refine (c_rd3 (FC.later hSw)).mono ?_
    rintro e w' ⟨u, he, ht, hb⟩
    exact ⟨_, he, ⟨u, rfl, ht⟩, hb⟩
  · exact FactsG.of rfl (fun _ _ _ => trivial) (fun _ _ _ _ => rfl) (Facts.pureD hS hF (fun _ _ => rfl) rfl (fun xv wv hSw hd => by
      obtain ⟨u, e1, f1⟩ := pF_get (hd ⟨1, .data⟩ (by simp) rfl _ rfl)
      obtain ⟨p, c, rfl⟩ := f1.slice
      refine ⟨_, ?_, f1⟩
      unfold execOp
      simp [go_sem, Act.eval, e1, field57_2]))
  · exact FactsG.of rfl (fun _ _ _ => trivial) (fun _ _ _ _ => rfl) (Facts.makeD hS hF (fun _ _ => rfl) rfl (fun xv wv hSw hd => ⟨_, _, by go_simp, bel_alloc (Below.refl _ _) _, thas_lit wv [[97], [99], [98]] (by decide)⟩))
  · refine FactsG.of rfl (fun _ _ _ => trivial) (fun _ _ _ _ => rfl) (Facts.call2P hS hF (fun _ _ => rfl) rfl (by kernel_rfl) rfl (fun xv wv hSw hd => ?_))
    have d2 := pF_get (hd ⟨2, .data⟩ (by simp) rfl _ rfl)
    have d3 := pF_get (hd ⟨3, .data⟩ (by simp) rfl _ rfl)
    show Calls Try.prog 27 #[xv 2, xv 3] wv _
    exact (refTexts_any (xv 2) (xv 3) [[97], [99], [98]] wv d2 d3).mono fun e w' h => tells_p h
  · exact FactsG.of rfl (fun _ _ _ => trivial) (fun _ _ _ _ => rfl) (Facts.pureP hS hF (fun _ _ => rfl) rfl (fun xv wv hSw hd => by
      have d4 : xv 4 = _ := pF_get (hd ⟨4, .data⟩ (by simp) rfl _ rfl)
      simp only [d4]
      go_simp))
  · exact FactsG.of rfl (fun _ _ _ => trivial) (fun xv wv hSw hd => by have dg : xv 5 = _ := pF_get (hd ⟨5, .guard⟩ (by simp) rfl _ rfl); simp only [dg]; rfl) (Facts.loadP hS hF (fun _ _ => rfl) 27 Try.underlying27 rfl zdd _ rfl rfl (fun xv wv hSw hd => by rfl) (fun wv hSw => Rw.whole (cs := [Value.int .i64 5, .int .i64 0, .slice da 0 db, .slice dc 0 dd, .slice de 0 df, .slice dg 3 dh]) (RD.later hSw)))
  · refine FactsG.of rfl (fun _ _ _ => trivial) (fun xv wv hSw hd => by have dg : xv 5 = _ := pF_get (hd ⟨5, .guard⟩ (by simp) rfl _ rfl); simp only [dg]; rfl) (Facts.call1P hS hF (fun _ _ => rfl) rfl (by kernel_rfl) rfl (fun xv wv hSw hd => ?_))
    have d6 : xv 6 = _ := pF_get (hd ⟨6, .data⟩ (by simp) rfl _ rfl)
    show Calls Try.prog 21 #[xv 6] wv _
    rw [d6]
    refine (c_rdd (FD.later hSw)).mono ?_
    rintro e w' ⟨u, he, ht, hb⟩
    exact ⟨_, he, ⟨u, rfl, ht⟩, hb⟩
  · exact FactsG.of rfl (fun _ _ _ => trivial) (fun xv wv hSw hd => by have dg : xv 5 = _ := pF_get (hd ⟨5, .guard⟩ (by simp) rfl _ rfl); simp only [dg]; rfl) (Facts.pureD hS hF (fun _ _ => rfl) rfl (fun xv wv hSw hd => by
      obtain ⟨u, e1, f1⟩ := pF_get (hd ⟨7, .data⟩ (by simp) rfl _ rfl)
      obtain ⟨p, c, rfl⟩ := f1.slice
      refine ⟨_, ?_, f1⟩
      unfold execOp
      simp [go_sem, Act.eval, e1, field57_2]))
  · exact FactsG.of rfl (fun _ _ _ => trivial) (fun xv wv hSw hd => by have dg : xv 5 = _ := pF_get (hd ⟨5, .guard⟩ (by simp) rfl _ rfl); simp only [dg]; rfl) (Facts.makeD hS hF (fun _ _ => rfl) rfl (fun xv wv hSw hd => ⟨_, _, by go_simp, bel_alloc (Below.refl _ _) _, thas_lit wv [[97], [98]] (by decide)⟩))
  · refine FactsG.of rfl (fun _ _ _ => trivial) (fun xv wv hSw hd => by have dg : xv 5 = _ := pF_get (hd ⟨5, .guard⟩ (by simp) rfl _ rfl); simp only [dg]; rfl) (Facts.call2P hS hF (fun _ _ => rfl) rfl (by kernel_rfl) rfl (fun xv wv hSw hd => ?_))
    have d8 := pF_get (hd ⟨8, .data⟩ (by simp) rfl _ rfl)
    have d9 := pF_get (hd ⟨9, .data⟩ (by simp) rfl _ rfl)
    show Calls Try.prog 27 #[xv 8, xv 9] wv _
    exact (refTexts_any (xv 8) (xv 9) [[97], [98]] wv d8 d9).mono fun e w' h => tells_p h
  · exact FactsG.of rfl (fun _ _ _ => trivial) (fun _ _ _ _ => rfl) (Facts.pureP hS hF (fun _ _ => rfl) rfl (fun xv wv hSw hd => by
      have d5 : xv 5 = _ := pF_get (hd ⟨5, .data⟩ (by simp) rfl _ rfl)
      have d10 : xv 10 = _ := pF_get (hd ⟨10, .data⟩ (by simp) rfl _ rfl)
      simp only [d5, d10]
      go_simp))
  · exact FactsG.of rfl (fun _ _ _ => trivial) (fun _ _ _ _ => rfl) (Facts.pureP hS hF (fun _ _ => rfl) rfl (fun xv wv hSw hd => by
      have d11 : xv 11 = _ := pF_get (hd ⟨11, .data⟩ (by simp) rfl _ rfl)
      simp only [d11]
      go_simp))
  · exact FactsG.of rfl (fun _ _ _ => trivial) (fun xv wv hSw hd => by have dg : xv 12 = _ := pF_get (hd ⟨12, .guard⟩ (by simp) rfl _ rfl); simp only [dg]; rfl) (Facts.pureP hS hF (fun _ _ => rfl) rfl (fun xv wv hSw hd => by
      go_simp))
  · exact FactsG.of rfl (fun _ _ _ => trivial) (fun xv wv hSw hd => by have dg : xv 12 = _ := pF_get (hd ⟨12, .guard⟩ (by simp) rfl _ rfl); simp only [dg]; rfl) (Facts.pureP hS hF (fun _ _ => rfl) rfl (fun xv wv hSw hd => by
      have d13 : xv 13 = _ := pF_get (hd ⟨13, .data⟩ (by simp) rfl _ rfl)
      have g1 : wv.cell? ⟨w11.heap.size, 5, none⟩ = some (.slice fg 2 fh) := (RF.later hSw).cell 5
      have g2 : wv.cell? ⟨qg, 5, none⟩ = some (.slice gg 3 gh) := (RG.later hSw).cell 5
      simp only [d13]
      go_simp))
  · exact FactsG.of rfl (fun _ _ _ => trivial) (fun xv wv hSw hd => by have dg : xv 12 = _ := pF_get (hd ⟨12, .guard⟩ (by simp) rfl _ rfl); simp only [dg]; rfl) (Facts.pureP hS hF (fun _ _ => rfl) rfl (fun xv wv hSw hd => by
      have d14 : xv 14 = _ := pF_get (hd ⟨14, .data⟩ (by simp) rfl _ rfl)
      simp only [d14]
      go_simp))
  · exact FactsG.of rfl (fun _ _ _ => trivial) (fun xv wv hSw hd => by have dg : xv 12 = _ := pF_get (hd ⟨12, .guard⟩ (by simp) rfl _ rfl); simp only [dg]; rfl) (Facts.pureP hS hF (fun _ _ => rfl) rfl (fun xv wv hSw hd => by
      have d15 : xv 15 = _ := pF_get (hd ⟨15, .data⟩ (by simp) rfl _ rfl)
      simp only [d15]
      go_simp))
  · exact FactsG.of rfl (fun _ _ _ => trivial) (fun _ _ _ _ => rfl) (Facts.pureP hS hF (fun _ _ => rfl) rfl (fun xv wv hSw hd => by
      have d12 : xv 12 = _ := pF_get (hd ⟨12, .data⟩ (by simp) rfl _ rfl)
      have d16 : xv 16 = _ := pF_get (hd ⟨16, .data⟩ (by simp) rfl _ rfl)
      simp only [d12, d16]
      go_simp))
  · exact FactsG.of rfl (fun _ _ _ => trivial) (fun _ _ _ _ => rfl) (Facts.pureP hS hF (fun _ _ => rfl) rfl (fun xv wv hSw hd => by
      have d17 : xv 17 = _ := pF_get (hd ⟨17, .data⟩ (by simp) rfl _ rfl)
      simp only [d17]
      go_simp))
  · exact FactsG.of rfl (fun _ _ _ => trivial) (fun xv wv hSw hd => by have dg : xv 18 = _ := pF_get (hd ⟨18, .guard⟩ (by simp) rfl _ rfl); simp only [dg]; rfl) (Facts.pureP hS hF (fun _ _ => rfl) rfl (fun xv wv hSw hd => by
      go_simp))
  · exact FactsG.of rfl (fun _ _ _ => trivial) (fun xv wv hSw hd => by have dg : xv 18 = _ := pF_get (hd ⟨18, .guard⟩ (by simp) rfl _ rfl); simp only [dg]; rfl) (Facts.pureP hS hF (fun _ _ => rfl) rfl (fun xv wv hSw hd => by
      have d19 : xv 19 = _ := pF_get (hd ⟨19, .data⟩ (by simp) rfl _ rfl)
      have g1 : wv.cell? ⟨w11.heap.size, 5, none⟩ = some (.slice fg 2 fh) := (RF.later hSw).cell 5
      have g2 : wv.cell? ⟨qg, 5, none⟩ = some (.slice gg 3 gh) := (RG.later hSw).cell 5
      simp only [d19]
      go_simp))
  · exact FactsG.of rfl (fun _ _ _ => trivial) (fun xv wv hSw hd => by have dg : xv 18 = _ := pF_get (hd ⟨18, .guard⟩ (by simp) rfl _ rfl); simp only [dg]; rfl) (Facts.pureP hS hF (fun _ _ => rfl) rfl (fun xv wv hSw hd => by
      have d20 : xv 20 = _ := pF_get (hd ⟨20, .data⟩ (by simp) rfl _ rfl)
      simp only [d20]
      go_simp))
  · exact FactsG.of rfl (fun _ _ _ => trivial) (fun xv wv hSw hd => by have dg : xv 18 = _ := pF_get (hd ⟨18, .guard⟩ (by simp) rfl _ rfl); simp only [dg]; rfl) (Facts.pureP hS hF (fun _ _ => rfl) rfl (fun xv wv hSw hd => by
      have d21 : xv 21 = _ := pF_get (hd ⟨21, .data⟩ (by simp) rfl _ rfl)
      simp only [d21]
      go_simp))
  · exact FactsG.of rfl (fun _ _ _ => trivial) (fun _ _ _ _ => rfl) (Facts.pureP hS hF (fun _ _ => rfl) rfl (fun xv wv hSw hd => by
      have d18 : xv 18 = _ := pF_get (hd ⟨18, .data⟩ (by simp) rfl _ rfl)
      have d22 : xv 22 = _ := pF_get (hd ⟨22, .data⟩ (by simp) rfl _ rfl)
      simp only [d18, d22]
      go_simp))
  · exact FactsG.of rfl (fun _ _ _ => trivial) (fun _ _ _ _ => rfl) (Facts.pureP hS hF (fun _ _ => rfl) rfl (fun xv wv hSw hd => by
      have d23 : xv 23 = _ := pF_get (hd ⟨23, .data⟩ (by simp) rfl _ rfl)
      simp only [d23]
      go_simp))
  · exact FactsG.of rfl (fun _ _ _ => trivial) (fun xv wv hSw hd => by have dg : xv 24 = _ := pF_get (hd ⟨24, .guard⟩ (by simp) rfl _ rfl); simp only [dg]; rfl) (Facts.loadP hS hF (fun _ _ => rfl) 27 Try.underlying27 rfl zc _ rfl rfl (fun xv wv hSw hd => by rfl) (fun wv hSw => Rw.whole (cs := [Value.int .i64 5, .int .i64 0, .slice sa 0 sb, .slice sc 0 sd, .slice se 0 sf, .slice sg 3 sh]) (RC.later hSw)))
  · refine FactsG.of rfl (fun _ _ _ => trivial) (fun xv wv hSw hd => by have dg : xv 24 = _ := pF_get (hd ⟨24, .guard⟩ (by simp) rfl _ rfl); simp only [dg]; rfl) (Facts.call1P hS hF (fun _ _ => rfl) rfl (by kernel_rfl) rfl (fun xv wv hSw hd => ?_))
    have d25 : xv 25 = _ := pF_get (hd ⟨25, .data⟩ (by simp) rfl _ rfl)
    show Calls Try.prog 17 #[xv 25] wv _
    rw [d25]
    refine (c_or3 (FC.later hSw)).mono ?_
    rintro e w' ⟨u, he, ho, hb⟩
    exact ⟨u, he, own_sh ho, hb⟩
  · exact FactsG.of rfl (fun _ _ _ => trivial) (fun xv wv hSw hd => by have dg : xv 24 = _ := pF_get (hd ⟨24, .guard⟩ (by simp) rfl _ rfl); simp only [dg]; rfl) (Facts.pureP hS hF (fun _ _ => rfl) rfl (fun xv wv hSw hd => by
      have d26 := pF_get (hd ⟨26, .data⟩ (by simp) rfl _ rfl)
      obtain ⟨p, c, e⟩ := SHas.slice d26
      simp only [e]
      go_simp))
  · exact FactsG.of rfl (fun _ _ _ => trivial) (fun xv wv hSw hd => by have dg : xv 24 = _ := pF_get (hd ⟨24, .guard⟩ (by simp) rfl _ rfl); simp only [dg]; rfl) (Facts.pureP hS hF (fun _ _ => rfl) rfl (fun xv wv hSw hd => by
      have d27 : xv 27 = _ := pF_get (hd ⟨27, .data⟩ (by simp) rfl _ rfl)
      simp only [d27]
      go_simp))
  · exact FactsG.of rfl (fun _ _ _ => trivial) (fun _ _ _ _ => rfl) (Facts.pureP hS hF (fun _ _ => rfl) rfl (fun xv wv hSw hd => by
      have d24 : xv 24 = _ := pF_get (hd ⟨24, .data⟩ (by simp) rfl _ rfl)
      have d28 : xv 28 = _ := pF_get (hd ⟨28, .data⟩ (by simp) rfl _ rfl)
      simp only [d24, d28]
      go_simp))
  · exact FactsG.of rfl (fun _ _ _ => trivial) (fun _ _ _ _ => rfl) (Facts.pureP hS hF (fun _ _ => rfl) rfl (fun xv wv hSw hd => by
      have d29 : xv 29 = _ := pF_get (hd ⟨29, .data⟩ (by simp) rfl _ rfl)
      simp only [d29]
      go_simp))
  · exact FactsG.of rfl (fun _ _ _ => trivial) (fun xv wv hSw hd => by have dg : xv 30 = _ := pF_get (hd ⟨30, .guard⟩ (by simp) rfl _ rfl); simp only [dg]; rfl) (Facts.loadP hS hF (fun _ _ => rfl) 27 Try.underlying27 rfl zc _ rfl rfl (fun xv wv hSw hd => by rfl) (fun wv hSw => Rw.whole (cs := [Value.int .i64 5, .int .i64 0, .slice sa 0 sb, .slice sc 0 sd, .slice se 0 sf, .slice sg 3 sh]) (RC.later hSw)))
  · refine FactsG.of rfl (fun _ _ _ => trivial) (fun xv wv hSw hd => by have dg : xv 30 = _ := pF_get (hd ⟨30, .guard⟩ (by simp) rfl _ rfl); simp only [dg]; rfl) (Facts.call1P hS hF (fun _ _ => rfl) rfl (by kernel_rfl) rfl (fun xv wv hSw hd => ?_))
    have d31 : xv 31 = _ := pF_get (hd ⟨31, .data⟩ (by simp) rfl _ rfl)
    show Calls Try.prog 17 #[xv 31] wv _
    rw [d31]
    refine (c_or3 (FC.later hSw)).mono ?_
    rintro e w' ⟨u, he, ho, hb⟩
    exact ⟨u, he, own_sh ho, hb⟩
  · exact FactsG.of rfl (fun _ _ _ => trivial) (fun xv wv hSw hd => by have dg : xv 30 = _ := pF_get (hd ⟨30, .guard⟩ (by simp) rfl _ rfl); simp only [dg]; rfl) (Facts.pureD hS hF (fun _ _ => rfl) rfl (fun xv wv hSw hd => by
      have d32 := pF_get (hd ⟨32, .data⟩ (by simp) rfl _ rfl)
      obtain ⟨p, c, e⟩ := SHas.slice d32
      rw [e] at d32
      obtain ⟨g, o, rfl, hr⟩ := SHas.at (n := 3) d32 (by decide)
      refine ⟨.pointer (some ⟨g, o, none⟩), ?_, g, o, rfl, fun j u hu => hr j u (by match j, hu with
        | 0, h => exact h
        | 1, h => exact h
        | 2, h => exact h
        | j + 3, h => simp at h)⟩
      simp only [e]
      go_simp))
  · exact FactsG.of rfl (fun _ _ _ => trivial) (fun xv wv hSw hd => by have dg : xv 30 = _ := pF_get (hd ⟨30, .guard⟩ (by simp) rfl _ rfl); simp only [dg]; rfl) (Facts.loadD hS hF (fun _ _ => rfl) 39 Try.underlying39 rfl zm _ rfl rfl (fun xv wv hSw hd => pF_get (hd ⟨33, .data⟩ (by simp) rfl _ rfl)))
  · exact FactsG.of rfl (fun _ _ _ => trivial) (fun xv wv hSw hd => by have dg : xv 30 = _ := pF_get (hd ⟨30, .guard⟩ (by simp) rfl _ rfl); simp only [dg]; rfl) (Facts.loadP hS hF (fun _ _ => rfl) 39 Try.underlying39 rfl zm _ rfl rfl (fun xv wv hSw hd => by rfl) (fun wv hSw => Rw.whole (cs := [Value.int .i64 1, .int .i64 1, .int .i64 1]) (R4.later hSw)))
  · exact FactsG.of rfl (fun _ _ _ => trivial) (fun xv wv hSw hd => by have dg : xv 30 = _ := pF_get (hd ⟨30, .guard⟩ (by simp) rfl _ rfl); simp only [dg]; rfl) (Facts.pureP hS hF (fun _ _ => rfl) rfl (fun xv wv hSw hd => by
      have d34 : xv 34 = _ := pF_get (hd ⟨34, .data⟩ (by simp) rfl _ rfl)
      have d35 : xv 35 = _ := pF_get (hd ⟨35, .data⟩ (by simp) rfl _ rfl)
      simp only [d34, d35]
      go_simp))
  · exact FactsG.of rfl (fun _ _ _ => trivial) (fun _ _ _ _ => rfl) (Facts.pureP hS hF (fun _ _ => rfl) rfl (fun xv wv hSw hd => by
      have d30 : xv 30 = _ := pF_get (hd ⟨30, .data⟩ (by simp) rfl _ rfl)
      have d36 : xv 36 = _ := pF_get (hd ⟨36, .data⟩ (by simp) rfl _ rfl)
      simp only [d30, d36]
      go_simp))
  · exact FactsG.of rfl (fun _ _ _ => trivial) (fun _ _ _ _ => rfl) (Facts.pureP hS hF (fun _ _ => rfl) rfl (fun xv wv hSw hd => by
      have d37 : xv 37 = _ := pF_get (hd ⟨37, .data⟩ (by simp) rfl _ rfl)
      simp only [d37]
      go_simp))
  · exact FactsG.of rfl (fun _ _ _ => trivial) (fun xv wv hSw hd => by have dg : xv 38 = _ := pF_get (hd ⟨38, .guard⟩ (by simp) rfl _ rfl); simp only [dg]; rfl) (Facts.loadP hS hF (fun _ _ => rfl) 27 Try.underlying27 rfl zc _ rfl rfl (fun xv wv hSw hd => by rfl) (fun wv hSw => Rw.whole (cs := [Value.int .i64 5, .int .i64 0, .slice sa 0 sb, .slice sc 0 sd, .slice se 0 sf, .slice sg 3 sh]) (RC.later hSw)))
  · exact FactsG.of rfl (fun _ _ _ => trivial) (fun xv wv hSw hd => by have dg : xv 38 = _ := pF_get (hd ⟨38, .guard⟩ (by simp) rfl _ rfl); simp only [dg]; rfl) (Facts.loadP hS hF (fun _ _ => rfl) 34 Try.underlying34 rfl zt4 _ rfl rfl (fun xv wv hSw hd => by rfl) (fun wv hSw => Rw.whole (cs := (txc 3 1 hV 3 (.slice none 0 0))) (R3.later hSw)))
  · refine FactsG.of rfl (fun _ _ _ => trivial) (fun xv wv hSw hd => by have dg : xv 38 = _ := pF_get (hd ⟨38, .guard⟩ (by simp) rfl _ rfl); simp only [dg]; rfl) (Facts.call3P hS hF (fun _ _ => rfl) rfl (by kernel_rfl) rfl (fun xv wv hSw hd => ?_))
    have d39 : xv 39 = _ := pF_get (hd ⟨39, .data⟩ (by simp) rfl _ rfl)
    have d40 : xv 40 = _ := pF_get (hd ⟨40, .data⟩ (by simp) rfl _ rfl)
    show Calls Try.prog 28 #[xv 39, xv 40, .int .i64 1] wv _
    rw [d39, d40]
    exact (c_cl (FC.later hSw)).mono fun e w' h => gives_p h
  · refine FactsG.of rfl (fun _ _ _ => trivial) (fun xv wv hSw hd => by have dg : xv 38 = _ := pF_get (hd ⟨38, .guard⟩ (by simp) rfl _ rfl); simp only [dg]; rfl) (Facts.call1P hS hF (fun _ _ => rfl) rfl (by kernel_rfl) rfl (fun xv wv hSw hd => ?_))
    have d41 := pF_get (hd ⟨41, .data⟩ (by simp) rfl _ rfl)
    show Calls Try.prog 21 #[xv 41] wv _
    obtain ⟨va, vw, vm, ve, e2, f2⟩ := d41
    rw [e2]
    refine (c_rdc f2).mono ?_
    rintro e w' ⟨u, he, ht, hb⟩
    exact ⟨_, he, ⟨u, rfl, ht⟩, hb⟩
  · exact FactsG.of rfl (fun _ _ _ => trivial) (fun xv wv hSw hd => by have dg : xv 38 = _ := pF_get (hd ⟨38, .guard⟩ (by simp) rfl _ rfl); simp only [dg]; rfl) (Facts.pureD hS hF (fun _ _ => rfl) rfl (fun xv wv hSw hd => by
      obtain ⟨u, e1, f1⟩ := pF_get (hd ⟨42, .data⟩ (by simp) rfl _ rfl)
      obtain ⟨p, c, rfl⟩ := f1.slice
      refine ⟨_, ?_, f1⟩
      unfold execOp
      simp [go_sem, Act.eval, e1, field57_2]))
  · exact FactsG.of rfl (fun _ _ _ => trivial) (fun xv wv hSw hd => by have dg : xv 38 = _ := pF_get (hd ⟨38, .guard⟩ (by simp) rfl _ rfl); simp only [dg]; rfl) (Facts.makeD hS hF (fun _ _ => rfl) rfl (fun xv wv hSw hd => ⟨_, _, by go_simp, bel_alloc (Below.refl _ _) _, thas_lit wv [[99]] (by decide)⟩))
  · refine FactsG.of rfl (fun _ _ _ => trivial) (fun xv wv hSw hd => by have dg : xv 38 = _ := pF_get (hd ⟨38, .guard⟩ (by simp) rfl _ rfl); simp only [dg]; rfl) (Facts.call2P hS hF (fun _ _ => rfl) rfl (by kernel_rfl) rfl (fun xv wv hSw hd => ?_))
    have d43 := pF_get (hd ⟨43, .data⟩ (by simp) rfl _ rfl)
    have d44 := pF_get (hd ⟨44, .data⟩ (by simp) rfl _ rfl)
    show Calls Try.prog 27 #[xv 43, xv 44] wv _
    exact (refTexts_any (xv 43) (xv 44) [[99]] wv d43 d44).mono fun e w' h => tells_p h
  · exact FactsG.of rfl (fun _ _ _ => trivial) (fun _ _ _ _ => rfl) (Facts.pureP hS hF (fun _ _ => rfl) rfl (fun xv wv hSw hd => by
      have d38 : xv 38 = _ := pF_get (hd ⟨38, .data⟩ (by simp) rfl _ rfl)
      have d45 : xv 45 = _ := pF_get (hd ⟨45, .data⟩ (by simp) rfl _ rfl)
      simp only [d38, d45]
      go_simp))
  · exact FactsG.of rfl (fun _ _ _ => trivial) (fun _ _ _ _ => rfl) (Facts.pureP hS hF (fun _ _ => rfl) rfl (fun xv wv hSw hd => by
      have d46 : xv 46 = _ := pF_get (hd ⟨46, .data⟩ (by simp) rfl _ rfl)
      simp only [d46]
      go_simp))
  · exact FactsG.of rfl (fun _ _ _ => trivial) (fun xv wv hSw hd => by have dg : xv 47 = _ := pF_get (hd ⟨47, .guard⟩ (by simp) rfl _ rfl); simp only [dg]; rfl) (Facts.loadP hS hF (fun _ _ => rfl) 27 Try.underlying27 rfl zff _ rfl rfl (fun xv wv hSw hd => by rfl) (fun wv hSw => Rw.whole (cs := [Value.int .i64 5, .int .i64 0, .slice fa 0 fb, .slice fc 0 fd, .slice fe 0 ff, .slice fg 2 fh]) (RF.later hSw)))
  · refine FactsG.of rfl (fun _ _ _ => trivial) (fun xv wv hSw hd => by have dg : xv 47 = _ := pF_get (hd ⟨47, .guard⟩ (by simp) rfl _ rfl); simp only [dg]; rfl) (Facts.call1P hS hF (fun _ _ => rfl) rfl (by kernel_rfl) rfl (fun xv wv hSw hd => ?_))
    have d48 : xv 48 = _ := pF_get (hd ⟨48, .data⟩ (by simp) rfl _ rfl)
    show Calls Try.prog 18 #[xv 48] wv _
    rw [d48]
    exact (c_ck2 (FF.later hSw)).mono fun e w' h => tells_p h
  · exact FactsG.of rfl (fun _ _ _ => trivial) (fun _ _ _ _ => rfl) (Facts.pureP hS hF (fun _ _ => rfl) rfl (fun xv wv hSw hd => by
      have d47 : xv 47 = _ := pF_get (hd ⟨47, .data⟩ (by simp) rfl _ rfl)
      have d49 : xv 49 = _ := pF_get (hd ⟨49, .data⟩ (by simp) rfl _ rfl)
      simp only [d47, d49]
      go_simp))
  · exact FactsG.of rfl (fun _ _ _ => trivial) (fun _ _ _ _ => rfl) (Facts.pureP hS hF (fun _ _ => rfl) rfl (fun xv wv hSw hd => by
      have d50 : xv 50 = _ := pF_get (hd ⟨50, .data⟩ (by simp) rfl _ rfl)
      simp only [d50]
      go_simp))
  rintro xv w19 hb9 hf _
  have e51 : xv 51 = _ := pF_get (hf 51 _ (by decide) rfl)
  simp only [e51]
  go_wp2_with fail
  go_ret
  exact ⟨rfl, below_on hbel hb9⟩
end Go.Proofs.Ytfjpbmdmkcihcaa
/- How great a sequence becomes. Nothing of one function. -/
namespace Go.Proofs.Ytfjpbmdmkcihcaa
open Go.RowKit Go.Sort

structure Sz (n m : Nat) (x : X) : Prop where
  a : x.am.length ≤ 100
  t : x.wr.length ≤ 100
  b : x.mb.length ≤ 100
  bi : ∀ y ∈ x.mb, y.ms.length ≤ 100
  n : x.el.length ≤ n
  m : ∀ y ∈ x.el, y.gone.length ≤ m
theorem Fw.sz {x : X} (h : Fw x) : Sz 60 30 x := ⟨h.sm.a, h.sm.t, h.sm.m, h.sm.mi, by have := h.n; omega, h.e⟩
theorem Sz.sm {n m : Nat} {x : X} (h : Sz n m x) (hn : n ≤ 100) (hm : m ≤ 100) : Sm x := ⟨h.a, h.t, h.b, Nat.le_trans h.n hn, h.bi, fun y hy => Nat.le_trans (h.m y hy) hm⟩
theorem insE_mem {e y : El} {l : List El} (h : y ∈ insE e l) : y = e ∨ y ∈ l := by
  unfold insE at h
  rw [List.mem_append, List.mem_cons, List.mem_filter, List.mem_filter] at h
  rcases h with h | rfl | h
  · exact .inr h.1
  · exact .inl rfl
  · exact .inr h.1
theorem insE_len (e : El) (l : List El) : (insE e l).length = l.length + 1 := by
  unfold insE
  rw [List.length_append, List.length_cons]
  have : ∀ l : List El, (l.filter (fun y => kl (kE y) (kE e))).length + (l.filter (fun y => !kl (kE y) (kE e))).length = l.length := by
    intro l
    induction l with
    | nil => rfl
    | cons a l ih =>
      rw [List.filter_cons, List.filter_cons]
      cases kl (kE a) (kE e) <;> simp <;> omega
  have := this l
  omega
theorem sz_ins {n m : Nat} {x : X} (h : Sz n m x) (e : El) (p : M → Bool) (he : e.gone.length ≤ m) : Sz (n + 1) m (insX x e p) := by
  unfold insX
  split
  · refine ⟨h.a, h.t, h.b, h.bi, by show (insE _ _).length ≤ _; rw [insE_len]; exact Nat.add_le_add_right h.n 1, fun y hy => ?_⟩
    rcases insE_mem hy with rfl | k
    · exact he
    · exact h.m y k
  · exact ⟨h.a, h.t, h.b, h.bi, Nat.le_succ_of_le h.n, h.m⟩
theorem sz_go {n m : Nat} {x : X} (h : Sz n m x) (r : M) (f : M → Bool) : Sz n (m + 1) (goX x r f) := by
  unfold goX
  split
  · refine ⟨h.a, h.t, h.b, h.bi, by show (List.map _ _).length ≤ _; rw [List.length_map]; exact h.n, fun z hz => ?_⟩
    obtain ⟨y, hy, rfl⟩ := List.mem_map.1 hz
    unfold gE
    split
    · exact Nat.le_trans (wth_length _ _) (Nat.add_le_add_right (h.m y hy) 1)
    · exact Nat.le_succ_of_le (h.m y hy)
  · exact ⟨h.a, h.t, h.b, h.bi, h.n, fun y hy => Nat.le_succ_of_le (h.m y hy)⟩
theorem sz_fd {n m : Nat} {x : X} (h : Sz n m x) (p : M → Bool) : Sz n m (fdX x p) := by
  unfold fdX
  split
  · exact ⟨h.a, h.t, h.b, h.bi, Nat.le_trans (stay_sub _ _ _).length_le h.n, fun z hz => h.m z ((stay_sub _ _ _).mem hz)⟩
  · exact h
theorem three_rows (w : World) (c1 : Array Value) (t1 : TypeId) (c2 : Array Value) (t2 : TypeId) (c3 : Array Value) (t3 : TypeId) : Rw (((w.alloc (.cells c1 t1)).alloc (.cells c2 t2)).alloc (.cells c3 t3)) w.heap.size t1 c1 ∧ Rw (((w.alloc (.cells c1 t1)).alloc (.cells c2 t2)).alloc (.cells c3 t3)) (w.heap.size + 1) t2 c2 ∧ Rw (((w.alloc (.cells c1 t1)).alloc (.cells c2 t2)).alloc (.cells c3 t3)) (w.heap.size + 2) t3 c3 ∧ Below w.heap.size w (((w.alloc (.cells c1 t1)).alloc (.cells c2 t2)).alloc (.cells c3 t3)) := by
  have r1 := ((rw_new w t1 c1).alloc (.cells c2 t2)).alloc (.cells c3 t3)
  have r2 := (rw_new (w.alloc (.cells c1 t1)) t2 c2).alloc (.cells c3 t3)
  have r3 := rw_new ((w.alloc (.cells c1 t1)).alloc (.cells c2 t2)) t3 c3
  simp only [World.size_alloc, Nat.add_assoc, Nat.reduceAdd] at r2 r3
  exact ⟨r1, r2, r3, bel_alloc (bel_alloc (bel_alloc (Below.refl _ _) _) _) _⟩
end Go.Proofs.Ytfjpbmdmkcihcaa
/- Small of the document's answer. -/
namespace Go.Proofs.Ytfjpbmdmkcihcaa
open Go.RowKit

/-- What Small tells. -/
def SmPost (n : Nat) (w : World) (e : Ending) (w' : World) : Prop := ∃ b, e = .returned (.bool b) ∧ (b = true → n ≤ 40) ∧ Below w.heap.size w w'
theorem O.str (o : O) : o.cells[1]? = some (.string o.key) ∧ o.cells[2]? = some (.string o.field) ∧ o.cells[6]? = some (.string o.text) := ⟨rfl, rfl, rfl⟩
set_option maxHeartbeats 2000000 in
set_option maxRecDepth 100000 in
theorem small_any (p s : Int) (v : List Int) (t : Int) (sl : Value) (l : List O) (w : World) (hv : v.length = 13) (ho : OHas w sl l) : Calls Try.prog 9 #[TxV p s v t sl] w (SmPost l.length w) := by
  obtain ⟨q, c, rfl, hm, hr⟩ := ho
  have hml := maxLen_lt hm
  have HR : Hid (0 < l.length → ∃ g o, q = some ⟨g, o, none⟩ ∧ ∀ i (h : i < l.length), w.rangeAt g (o + i * 10) l[i].cells) := hr
  clear hr
  have R0 := rw_new w 34 (txc p s v t (.slice q l.length c)).toArray
  have hbel : Below w.heap.size w (w.alloc (.cells (txc p s v t (.slice q l.length c)).toArray 34)) := bel_alloc (Below.refl _ _) _
  generalize hW : w.alloc (.cells (txc p s v t (.slice q l.length c)).toArray 34) = w0 at R0 hbel
  go_enter Try.func9, Try.ntmps9
  go_wp2_with (rw [hW])
  clear hW
  go_loopw [3] (fun vi wr => ∃ k : Nat, vi = .int .i64 k ∧ k ≤ l.length ∧ (l.length ≤ 40 ∨ k = 0) ∧ Rw wr w.heap.size 34 (txc p s v t (.slice q l.length c)).toArray ∧ Below w.heap.size w wr) (fun vi _ => l.length - (intOf vi).toNat)
  case atStart => exact ⟨0, rfl, by omega, .inr rfl, R0, hbel⟩
  case round =>
    clear R0 hbel
    obtain ⟨k, rfl, hk, hor, R, hbel⟩ := hrel
    have c16 := tx_ops R hv
    by_cases hle : l.length ≤ 40
    · have hle' : (l.length : Int) ≤ 40 := by omega
      by_cases hlt : k < l.length
      · have hlt' : (k : Int) < (l.length : Int) := by omega
        obtain ⟨g, o, rfl, hd⟩ := HR.out (by omega)
        have d := range_later (hd k hlt) hbel
        clear HR hd
        have hk40 : k < 40 := by omega
        generalize l[k] = x at d
        have z35 : (Try.prog.info? 70).map (·.size) = some x.cells.length := size70
        have hb2 : Below w.heap.size w (wr.alloc (.cells x.cells.toArray 70)) := bel_alloc hbel _
        have R2 := R.alloc (.cells x.cells.toArray 70)
        go_wp2_with (refine load_m 70 _ rfl rfl _ _ rfl d Try.underlying70 rfl z35 ?_)
        all_goals first
          | (go_ret; exact ⟨_, rfl, fun _ => hle, hb2⟩)
          | (go_roundw
             case rel => exact ⟨k + 1, by simp, by omega, .inl hle, R2, hb2⟩
             case measure => simp [intOf]; omega)
      · have hlt' : ¬ (k : Int) < (l.length : Int) := by omega
        clear HR
        go_wp2_with fail
        go_ret
        exact ⟨_, rfl, fun _ => hle, hbel⟩
    · obtain rfl : k = 0 := by omega
      have hle' : ¬ (l.length : Int) ≤ 40 := by omega
      have h0 : 0 < (l.length : Int) := by omega
      clear HR
      go_wp2_with fail
      go_ret
      exact ⟨_, rfl, fun h => by simp at h, hbel⟩
end Go.Proofs.Ytfjpbmdmkcihcaa
