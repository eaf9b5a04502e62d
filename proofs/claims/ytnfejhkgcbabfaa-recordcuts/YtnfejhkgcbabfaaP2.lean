import Derived.Test.YtnfejhkgcbabfaaP1
import Derived.OrdersHeld
import Derived.Deep.MidRow
/- Slices of files, and disks, where they lie; rows of files of one's own. Nothing of one function. -/
namespace Go.Proofs.Ytnfejhkgcbabfaa
open Go.RowKit

/-- Bytes as cells. -/
def cel (l : List UInt8) : List Value := l.map fun b => Value.int .u8 b.toNat
theorem cel_length (l : List UInt8) : (cel l).length = l.length := by simp [cel]
theorem cel_append (a b : List UInt8) : cel (a ++ b) = cel a ++ cel b := by simp [cel]
theorem cel_take (l : List UInt8) (n : Nat) : cel (l.take n) = (cel l).take n := by simp [cel, List.map_take]
theorem cel_one (l : List UInt8) : ∀ u ∈ cel l, u.oneCell' = true := by
  intro u hu
  obtain ⟨_, _, rfl⟩ := List.mem_map.1 hu
  rfl
/-- A slice that holds these bytes. -/
abbrev DB (w : World) (v : Value) (l : List UInt8) : Prop := SHas 1 w v l.length (cel l)
theorem DB.nil (w : World) : DB w (.slice none 0 0) [] := SHas.nil w 1
/-- A file's cells, with the slice that its bytes lie in. -/
abbrev FV.cells (a : FV × Value) : List Value := [.string a.1.x, a.2, .int .i64 a.1.k]
theorem FV.len (a : FV × Value) : (FV.cells a).length = 3 := rfl
/-- A slice of files. -/
def FHas (w : World) (v : Value) (l : List FV) : Prop := ∃ ys : List (FV × Value), ys.map (·.1) = l ∧ SHas 3 w v l.length (rows FV.cells ys) ∧ ∀ y ∈ ys, DB w y.2 y.1.d
section
variable {w w' : World} {v : Value} {l : List FV}
theorem FHas.later (h : FHas w v l) (hb : Below w.heap.size w w') : FHas w' v l := by
  obtain ⟨ys, h1, h2, h3⟩ := h
  exact ⟨ys, h1, h2.later hb, fun y hy => (h3 y hy).later hb⟩
theorem FHas.slice (h : FHas w v l) : ∃ p c, v = .slice p l.length c := by
  obtain ⟨ys, h1, h2, h3⟩ := h
  exact h2.slice
theorem FHas.max (h : FHas w v l) : l.length ≤ maxLen := by
  obtain ⟨ys, h1, h2, h3⟩ := h
  exact h2.1
theorem FHas.nil (w : World) : FHas w (.slice none 0 0) [] := ⟨[], rfl, SHas.nil w 3, fun _ h => by cases h⟩
theorem FV.elem {ys : List (FV × Value)} {g o : Nat} (h : w.rangeAt g o (rows FV.cells ys)) (k : Nat) (hk : k < ys.length) : w.rangeAt g (o + k * 3) (FV.cells ys[k]) :=
  range_sub h (k * 3) fun j u hu => rows_at FV.len ys k hk j u hu
/-- What stands at a place: its cells lie there, and its bytes do. -/
theorem FHas.at {p : Option Addr} {c : Nat} (h : FHas w (.slice p l.length c) l) (k : Nat) (hk : k < l.length) : ∃ g o sl, p = some ⟨g, o, none⟩ ∧ w.rangeAt g (o + k * 3) [.string l[k].x, sl, .int .i64 l[k].k] ∧ DB w sl l[k].d := by
  obtain ⟨ys, rfl, h2, h3⟩ := h
  have hk' : k < ys.length := by simpa using hk
  obtain ⟨g, o, rfl, hd⟩ := h2.at (by omega)
  refine ⟨g, o, ys[k].2, rfl, ?_, ?_⟩
  · simpa using FV.elem hd k hk'
  · simpa using h3 ys[k] (List.getElem_mem _)
/-- Its three cells. -/
theorem f_cells {g o : Nat} {x : ByteArray} {sl : Value} {k : Int} (h : w.rangeAt g o [.string x, sl, .int .i64 k]) : w.cell? ⟨g, o, none⟩ = some (.string x) ∧ w.cell? ⟨g, o + 1, none⟩ = some sl ∧ w.cell? ⟨g, o + 2, none⟩ = some (.int .i64 k) := ⟨h 0 _ rfl, h 1 _ rfl, h 2 _ rfl⟩
end
/-- A disk, by its content and by value. -/
abbrev DKV (sl : Value) (room arm : Int) (dead : Bool) : Value := .agg #[sl, .int .i64 room, .int .i64 arm, .bool dead]
abbrev DKV.of (sl : Value) (d : DV) : Value := DKV sl d.room d.arm d.dead
def DHas (w : World) (v : Value) (d : DV) : Prop := ∃ sl, v = DKV sl d.room d.arm d.dead ∧ FHas w sl d.fs
theorem DHas.later {w w' : World} {v : Value} {d : DV} (h : DHas w v d) (hb : Below w.heap.size w w') : DHas w' v d := by
  obtain ⟨sl, rfl, h⟩ := h
  exact ⟨sl, rfl, h.later hb⟩
/-- A slice that has something does not lie in that block. -/
def Off (b : Nat) (v : Value) : Prop := ∀ a n c, v = .slice (some a) n c → 0 < n → a.block ≠ b
/-- A slice of files, with the slices of their bytes; none of them lies in certain blocks. -/
structure FAt (w : World) (v : Value) (ys : List (FV × Value)) (off : Nat → Prop) : Prop where
  s : SHas 3 w v ys.length (rows FV.cells ys)
  o : ∀ y ∈ ys, DB w y.2 y.1.d
  f : ∀ b, off b → Off b v ∧ ∀ y ∈ ys, Off b y.2
theorem range_same {w w' : World} {g o : Nat} {cs : List Value} (h : w.rangeAt g o cs) (hb : w'.heap[g]? = w.heap[g]?) : w'.rangeAt g o cs := fun j v hv => by
  rw [World.cell?_of_block (w := w) hb]
  exact h j v hv
theorem range_block {w : World} {g o : Nat} {cs : List Value} (h : w.rangeAt g o cs) (hc : 0 < cs.length) : g < w.heap.size := by
  rcases Nat.lt_or_ge g w.heap.size with h' | h'
  · exact h'
  · have := h 0 cs[0] (by simp)
    simp [World.cell?, Array.getElem?_eq_none h'] at this
section
variable {w w' : World} {v : Value} {ys : List (FV × Value)} {off off' : Nat → Prop} {row : Option Nat}
theorem FAt.has (h : FAt w v ys off) : FHas w v (ys.map (·.1)) := ⟨ys, rfl, by rw [List.length_map]; exact h.s, h.o⟩
theorem FHas.fat {l : List FV} (h : FHas w v l) : ∃ ys : List (FV × Value), ys.map (·.1) = l ∧ FAt w v ys (fun _ => False) := by
  obtain ⟨ys, h1, h2, h3⟩ := h
  exact ⟨ys, h1, by have : l.length = ys.length := by rw [← h1, List.length_map]
                    exact this ▸ h2, h3, fun _ h => h.elim⟩
theorem FAt.later (h : FAt w v ys off) (hb : Below w.heap.size w w') : FAt w' v ys off := ⟨h.s.later hb, fun y hy => (h.o y hy).later hb, h.f⟩
theorem FAt.sub (h : FAt w v ys off) (hs : ∀ b, off' b → off b) : FAt w v ys off' := ⟨h.s, h.o, fun b hb => h.f b (hs b hb)⟩
theorem SHas.block {S n : Nat} {xs : List Value} (hS : 0 < S) (h : SHas S w v n xs) {a : Addr} {m c : Nat} (e : v = .slice (some a) m c) (hn : 0 < m) : a.block < w.heap.size := by
  obtain ⟨p, c', e2⟩ := h.slice
  rw [e2] at e
  simp only [Value.slice.injEq] at e
  obtain ⟨rfl, rfl, rfl⟩ := e
  subst e2
  obtain ⟨g, o, e, hd⟩ := h.at hn
  simp only [Option.some.injEq] at e
  subst e
  refine range_block hd ?_
  rw [h.2.1]
  exact Nat.mul_pos hn hS
/-- Nothing lies in blocks that are not there yet. -/
theorem FAt.more (h : FAt w v ys off) : FAt w v ys (fun b => off b ∨ w.heap.size ≤ b) := ⟨h.s, h.o, fun b hb => by
  rcases hb with hb | hb
  · exact h.f b hb
  · refine ⟨fun a n c e hn => ?_, fun y hy a n c e hn => ?_⟩
    · have := h.s.block (by decide) e hn
      omega
    · have := (h.o y hy).block (by decide) e hn
      omega⟩
theorem SHas.grown {S n : Nat} {xs : List Value} (hS : 0 < S) (h : SHas S w v n xs) (hg : w.grownBy w' row) (hf : ∀ b, row = some b → Off b v) : SHas S w' v n xs := by
  obtain ⟨hm, hl, ⟨rfl, rfl⟩ | ⟨ad, c, rfl, hc, hd⟩⟩ := h
  · exact ⟨hm, hl, .inl ⟨rfl, rfl⟩⟩
  · refine ⟨hm, hl, .inr ⟨ad, c, rfl, hc, fun h0 => ?_⟩⟩
    obtain ⟨g, o, rfl, hd2⟩ := hd h0
    refine ⟨g, o, rfl, range_same hd2 (hg.block g (range_block hd2 (by rw [hl]; exact Nat.mul_pos h0 hS)) fun e => ?_)⟩
    exact hf g e.symm _ _ _ rfl h0 rfl
theorem FAt.grown (h : FAt w v ys off) (hg : w.grownBy w' row) (hf : ∀ b, row = some b → off b) : FAt w' v ys off :=
  ⟨h.s.grown (by decide) hg fun b hb => (h.f b (hf b hb)).1, fun y hy => (h.o y hy).grown (by decide) hg fun b hb => (h.f b (hf b hb)).2 y hy, h.f⟩
end
theorem grown_row (w : World) (b : Nat) (cs : Array Value) : w.grownBy (w.setRow b cs) (some b) := ⟨rfl, rfl, rfl, by simp [World.setRow], fun k _ h => setRow_other w b k cs fun e => h (by rw [e])⟩
/-- A row of files of one's own; their bytes keep off it, and off certain blocks. -/
structure OwnF (w : World) (B : Nat) (v : Value) (ys : List (FV × Value)) (off : Nat → Prop) : Prop where
  r : w.ownsRow B 57 3 v ys.length (rows FV.cells ys)
  o : ∀ y ∈ ys, DB w y.2 y.1.d
  f : ∀ y ∈ ys, ∀ b, (v.ownBlock = some b ∨ off b) → Off b y.2
section
variable {w w' : World} {B : Nat} {v : Value} {ys zs : List (FV × Value)} {off : Nat → Prop}
theorem own_later {B e S n : Nat} {xs : List Value} (h : w.ownsRow B e S v n xs) (hb : Below w.heap.size w w') : w'.ownsRow B e S v n xs := by
  refine ⟨h.1, ?_⟩
  rcases h.2 with h | ⟨g, cap, cur, e1, hbg, hg, h1, h2, h3, h4⟩
  · exact .inl h
  · exact .inr ⟨g, cap, cur, e1, hbg, (hb.block g (Array.getElem?_eq_some_iff.1 hg).1).trans hg, h1, h2, h3, h4⟩
theorem OwnF.later (h : OwnF w B v ys off) (hb : Below w.heap.size w w') : OwnF w' B v ys off := ⟨own_later h.r hb, fun y hy => (h.o y hy).later hb, h.f⟩
theorem OwnF.nil (w : World) (B : Nat) (off : Nat → Prop) : OwnF w B (.slice none 0 0) [] off := ⟨⟨rfl, .inl ⟨rfl, rfl⟩⟩, (fun _ h => by cases h), fun _ h => by cases h⟩
theorem OwnF.fat (h : OwnF w B v ys off) : FAt w v ys (fun _ => False) := ⟨own_sh h.r, h.o, fun _ h => h.elim⟩
theorem OwnF.block (h : OwnF w B v ys off) {b : Nat} (e : v.ownBlock = some b) : B ≤ b ∧ b < w.heap.size := by
  rcases h.r.2 with ⟨rfl, _⟩ | ⟨g, cap, cur, rfl, hbg, hg, _⟩
  · simp [Value.ownBlock] at e
  · simp only [Value.ownBlock, Option.some.injEq] at e
    subst e
    exact ⟨hbg, (Array.getElem?_eq_some_iff.1 hg).1⟩
theorem FV.one (sl : Value) (hs : sl.oneCell' = true) (x : FV) : ∀ u ∈ FV.cells (x, sl), u.oneCell' = true := by
  intro u hu
  simp only [List.mem_cons, List.not_mem_nil, or_false] at hu
  rcases hu with rfl | rfl | rfl
  · rfl
  · exact hs
  · rfl
theorem FV.ones (h : ∀ y ∈ ys, DB w y.2 y.1.d) : ∀ u ∈ rows FV.cells ys, u.oneCell' = true := by
  intro u hu
  obtain ⟨y, hy, hx⟩ := List.mem_flatMap.1 hu
  obtain ⟨p, c, e⟩ := (h y hy).slice
  exact FV.one y.2 (by rw [e]; rfl) y.1 u hx
/-- What is there behind an append. -/
theorem OwnF.app {v' vx : Value} (h : OwnF w B v ys off) (hx : FAt w vx zs (fun b => v.ownBlock = some b ∨ off b)) (h2 : w'.ownsRow B 57 3 v' (ys.length + zs.length) (rows FV.cells ys ++ rows FV.cells zs)) (hg : w.grownBy w' v.ownBlock) (hb : v'.ownBlock = v.ownBlock ∨ v'.ownBlock = some w.heap.size) : OwnF w' B v' (ys ++ zs) off := by
  have hall : ∀ y ∈ ys ++ zs, DB w y.2 y.1.d ∧ ∀ b, (v.ownBlock = some b ∨ off b) → Off b y.2 := fun y hy => by
    rcases List.mem_append.1 hy with hy | hy
    · exact ⟨h.o y hy, h.f y hy⟩
    · exact ⟨hx.o y hy, fun b hb => (hx.f b hb).2 y hy⟩
  refine ⟨by rw [List.length_append, rows_append]; exact h2, fun y hy => (hall y hy).1.grown (by decide) hg fun b hb => (hall y hy).2 b (.inl hb), fun y hy b e => ?_⟩
  rcases e with e | e
  · rcases hb with hb | hb
    · exact (hall y hy).2 b (.inl (hb ▸ e))
    · rw [hb] at e
      simp only [Option.some.injEq] at e
      subst e
      intro a n c e1 hn
      have := (hall y hy).1.block (by decide) e1 hn
      omega
  · exact (hall y hy).2 b (.inr e)
end
theorem one_file {w : World} {b : Nat} (x : FV) (s1 : Value) (off : Nat → Prop) (hb : b = w.heap.size) (ho : DB w s1 x.d) (hof : ∀ q, off q → Off q s1 ∧ q ≠ b) : FAt (w.alloc (.cells (FV.cells (x, s1)).toArray 57)) (.slice (some ⟨b, 0, none⟩) 1 1) [(x, s1)] off := by
  subst hb
  refine ⟨⟨(show 1 ≤ maxLen by decide), ?_, .inr ⟨_, 1, rfl, ⟨Nat.le_refl _, by decide⟩, fun _ => ⟨w.heap.size, 0, rfl, ?_⟩⟩⟩, fun y hy => ?_, fun q hq => ⟨fun a n c e hn => ?_, fun y hy => ?_⟩⟩
  · rw [rows_length FV.len]
  · exact (rw_new w 57 _).range 0 _ fun j u hu => by
      rw [rows_one] at hu
      simpa using hu
  · simp only [List.mem_singleton] at hy
    subst hy
    exact ho.later (bel_alloc (Below.refl _ _) _)
  · simp only [Value.slice.injEq, Option.some.injEq] at e
    rw [← e.1]
    exact Ne.symm (hof q hq).2
  · simp only [List.mem_singleton] at hy
    subst hy
    exact (hof q hq).1
abbrev FLV (x : ByteArray) (s1 : Value) (k : Int) : Value := .agg #[.string x, s1, .int .i64 k]
theorem build_at {ops : Array Oper} {rest : List Oper} {op : Oper} {a : Act} {w w1 : World} {Q : Exit → Act → World → Prop} {ty : TypeId} {n : Nat} (hgd : op.guard = none) (x : Operand) (ho : op.op = .buildSlice ty n #[(0, x)]) {u v : Value} (hx : a.eval x = v) (hr : (Instr.buildSlice ty n #[(0, v)]).run Try.prog w = .ok u w1)
    (h : wpList Try.prog ops Q rest (a.put op.dst u) w1) : wpList Try.prog ops Q (op :: rest) a w :=
  wpList_plain hgd fun _ hK => by
    unfold Oper.wp execOp
    simp only [ho, List.map_toArray, List.map_cons, List.map_nil, hx, Sem.run_bind, hr, Result.andThen_ok, Sem.run_pure]
    exact hK _ _ h
end Go.Proofs.Ytnfejhkgcbabfaa
/- A region that draws its order, walked in the text's order: what only reads is taken first, each in one word; what is alone in its turn (a call whose answer hangs on the world, an allocation, a store) is walked as it comes. Nothing of one program. -/
namespace Go.Proofs.Ytnfejhkgcbabfaa.Held

/-- From the operation k on, those of the list. -/
def HL (P : Program) (ops : Array Oper) (Q : Exit → Act → World → Prop) (S : World → Prop) (l : List Oper) (k : Nat) (listed : Array Bool) (a : Act) (w : World) : Prop := (∀ j, l[j]? = ops[k + j]?) → wpAnyH P .any ops Q S l.length listed a w
section
variable {P : Program} {ops : Array Oper} {Q : Exit → Act → World → Prop} {S : World → Prop} {l : List Oper} {k : Nat} {listed : Array Bool} {a a' : Act} {w : World} {o : Oper}
theorem tail (hl : ∀ j, (o :: l)[j]? = ops[k + j]?) (j : Nat) : l[j]? = ops[k + 1 + j]? := by
  have := hl (j + 1)
  rw [show k + 1 + j = k + (j + 1) by omega]
  simpa using this
theorem take {v : Value} (hy : YieldsIf P ops S o v a) (hS : S w) (h : HL P ops Q S l (k + 1) (listed.setIfInBounds k true) (a.put o.dst v) w) (hs : Region.noSelect ops = true) (hf : Region.free .any ops listed k = true) (hr : (Region.ready .any ops listed).contains k = true) (hQ : ∀ c a w, Q (.panic c) (a.put o.dst v) w → Q (.panic c) a w) : HL P ops Q S (o :: l) k listed a w := fun hl =>
  wpAnyH_take (by simpa using (hl 0).symm) hs hf hr hQ hy hS (h (tail hl))
/-- Passed over. -/
theorem sk (hS : S w) (h : HL P ops Q S l (k + 1) (listed.setIfInBounds k true) a' w) (hw : Region.wanted o (yielded ops a.tmps) = false := by rfl) (hs : Region.noSelect ops = true := by kernel_rfl) (hf : Region.free .any ops listed k = true := by kernel_rfl) (hr : (Region.ready .any ops listed).contains k = true := by kernel_rfl) (hQ : ∀ c a w, Q (.panic c) (a.put o.dst undef) w → Q (.panic c) a w := by exact fun _ _ _ h => h)
    (hp : a.put o.dst undef = a' := by (simp only [Act.put, List.setIfInBounds_toArray, List.set_cons_zero, List.set_cons_succ]; rfl)) : HL P ops Q S (o :: l) k listed a w :=
  take (.inr ⟨hw, rfl⟩) hS (hp ▸ h) hs hf hr hQ
/-- Run to a value. -/
theorem pu {v : Value} (hS : S w) (h : HL P ops Q S l (k + 1) (listed.setIfInBounds k true) a' w) (hw : Region.wanted o (yielded ops a.tmps) = true := by rfl) (hv : ∀ w, S w → (execOp a.eval o).run P w = .ok (.value v) w := by (intro w hSw; go_simp <;> rfl)) (hs : Region.noSelect ops = true := by kernel_rfl) (hf : Region.free .any ops listed k = true := by kernel_rfl) (hr : (Region.ready .any ops listed).contains k = true := by kernel_rfl) (hQ : ∀ c a w, Q (.panic c) (a.put o.dst v) w → Q (.panic c) a w := by exact fun _ _ _ h => h)
    (hp : a.put o.dst v = a' := by (simp only [Act.put, List.setIfInBounds_toArray, List.set_cons_zero, List.set_cons_succ]; rfl)) : HL P ops Q S (o :: l) k listed a w :=
  take (.inl ⟨hw, hv⟩) hS (hp ▸ h) hs hf hr hQ
/-- A load of what a cell holds. -/
theorem ce {v : Value} {ad : Addr} (g : ∀ w, S w → w.cell? ad = some v) (hS : S w) (h : HL P ops Q S l (k + 1) (listed.setIfInBounds k true) a' w) (hw : Region.wanted o (yielded ops a.tmps) = true := by rfl) (hv : ∀ w, S w → w.cell? ad = some v → (execOp a.eval o).run P w = .ok (.value v) w := by (intro w hSw g1; go_simp)) (hs : Region.noSelect ops = true := by kernel_rfl) (hf : Region.free .any ops listed k = true := by kernel_rfl) (hr : (Region.ready .any ops listed).contains k = true := by kernel_rfl) (hQ : ∀ c a w, Q (.panic c) (a.put o.dst v) w → Q (.panic c) a w := by exact fun _ _ _ h => h)
    (hp : a.put o.dst v = a' := by (simp only [Act.put, List.setIfInBounds_toArray, List.set_cons_zero, List.set_cons_succ]; rfl)) : HL P ops Q S (o :: l) k listed a w :=
  take (.inl ⟨hw, fun w h => hv w h (g w h)⟩) hS (hp ▸ h) hs hf hr hQ
/-- A load of a struct. -/
theorem lm {b f : Nat} {cs : List Value} {t : TypeId} {d : TypeDesc} {x : Operand} (hz : (P.info? t).map (·.size) = some cs.length) (g : ∀ w, S w → w.rangeAt b f cs) (hu : P.underlying t = some d) (hS : S w) (h : HL P ops Q S l (k + 1) (listed.setIfInBounds k true) a' w) (hw : Region.wanted o (yielded ops a.tmps) = true := by rfl) (ho : o.op = .load t x := by rfl) (hx : a.eval x = .pointer (some ⟨b, f, none⟩) := by rfl) (hd : d.isRow = true := by rfl) (hs : Region.noSelect ops = true := by kernel_rfl) (hf : Region.free .any ops listed k = true := by kernel_rfl) (hr : (Region.ready .any ops listed).contains k = true := by kernel_rfl)
    (hQ : ∀ c a w, Q (.panic c) (a.put o.dst (.agg cs.toArray)) w → Q (.panic c) a w := by exact fun _ _ _ h => h) (hp : a.put o.dst (.agg cs.toArray) = a' := by (simp only [Act.put, List.setIfInBounds_toArray, List.set_cons_zero, List.set_cons_succ]; rfl)) : HL P ops Q S (o :: l) k listed a w :=
  take (.inl ⟨hw, fun w hw' => by
    have h2 := run_loadVar_mid (P := P) w b f t cs d (g w hw') hu hd hz
    unfold execOp
    simp only [ho, hx, Instr.loadAt, Instr.sureAddr, Sem.run_bind, Sem.run_pure, h2, Result.andThen_ok]⟩) hS (hp ▸ h) hs hf hr hQ
/-- The one whose turn it is. -/
theorem al (h : o.wp P a w (fun a' w' => S w' ∧ HL P ops Q S l (k + 1) (listed.setIfInBounds k true) a' w') Q) (hr : Region.ready .any ops listed = [k]) (hw : Region.wanted o (yielded ops a.tmps) = true) : HL P ops Q S (o :: l) k listed a w := fun hl =>
  wpAnyH_all hr (by simp) fun j hj => by
    obtain rfl : j = k := by simpa using hj
    have hi : ops[j]? = some o := by simpa using (hl 0).symm
    unfold wpOp
    simp only [hi, hw, if_true]
    exact .inl (Oper.wp_mono (fun a' w' h => ⟨h.1, h.2 (tail hl)⟩) h)
/-- It is a call of a function by its name. -/
theorem kn {f : FuncId} {us : Array Operand} {ts : Array TypeId} {args : List Value} {φ : Ending → World → Prop} {au : Value → Act} (hc : Calls P f args.toArray w φ) (h : ∀ e w', φ e w' → ∃ u, e = .returned u ∧ S w' ∧ HL P ops Q S l (k + 1) (listed.setIfInBounds k true) (au u) w')
    (hr : Region.ready .any ops listed = [k] := by kernel_rfl) (hw : Region.wanted o (yielded ops a.tmps) = true := by rfl) (hf : Calm.enters P f = true := by kernel_rfl)
    (ho : o.op = .call { callee := .value (.func f), args := us, argTypes := ts } := by rfl) (ha : us.toList.map a.eval = args := by rfl) (hp : ∀ u, a.put o.dst u = au u := by (intro u; simp only [Act.put, List.setIfInBounds_toArray, List.set_cons_zero, List.set_cons_succ]; rfl)) : HL P ops Q S (o :: l) k listed a w :=
  al (by
    have e : ∀ args, (callFunc f args).run P w = .ok (.enter f args) w := fun args => Calm.enters_run hf args w
    have hr' : (execOp a.eval o).run P w = .ok (.enter f args.toArray) w := by
      have ha' : us.map a.eval = args.toArray := by
        rw [← ha, ← Array.toList_map, Array.toArray_toList]
      unfold execOp
      rw [ho]
      simp [go_sem, Act.eval, e, ← ha']
    unfold Oper.wp
    rw [hr']
    refine hc.mono fun e w' he => ?_
    obtain ⟨u, rfl, h1, h2⟩ := h e w' he
    exact ⟨h1, hp u ▸ h2⟩) hr hw
/-- It comes to a value, or to nothing, and leaves another world. -/
theorem vl {v : Value} {w1 : World} (hv : (execOp a.eval o).run P w = .ok (.value v) w1) (hS : S w1) (h : HL P ops Q S l (k + 1) (listed.setIfInBounds k true) a' w1) (hr : Region.ready .any ops listed = [k] := by kernel_rfl) (hw : Region.wanted o (yielded ops a.tmps) = true := by rfl) (hp : a.put o.dst v = a' := by (simp only [Act.put, List.setIfInBounds_toArray, List.set_cons_zero, List.set_cons_succ]; rfl)) : HL P ops Q S (o :: l) k listed a w :=
  al (by
    unfold Oper.wp
    rw [hv]
    exact ⟨hS, hp ▸ h⟩) hr hw
theorem st {w1 : World} (hv : (execOp a.eval o).run P w = .ok .skip w1) (hS : S w1) (h : HL P ops Q S l (k + 1) (listed.setIfInBounds k true) a' w1) (hr : Region.ready .any ops listed = [k] := by kernel_rfl) (hw : Region.wanted o (yielded ops a.tmps) = true := by rfl) (hp : a.put o.dst undef = a' := by (simp only [Act.put, List.setIfInBounds_toArray, List.set_cons_zero, List.set_cons_succ]; rfl)) : HL P ops Q S (o :: l) k listed a w :=
  al (by
    unfold Oper.wp
    rw [hv]
    exact ⟨hS, hp ▸ h⟩) hr hw
/-- A store of a struct, or of what a cell holds. -/
theorem ss {w1 : World} {t : TypeId} {x y : Operand} {pv vv : Value} (hv : (Instr.storeAt t pv vv).run P w = .ok () w1) (hS : S w1) (h : HL P ops Q S l (k + 1) (listed.setIfInBounds k true) a' w1) (hr : Region.ready .any ops listed = [k] := by kernel_rfl) (hw : Region.wanted o (yielded ops a.tmps) = true := by rfl) (ho : o.op = .store t x y := by rfl) (hx : a.eval x = pv := by rfl) (hy : a.eval y = vv := by rfl) (hp : a.put o.dst undef = a' := by (simp only [Act.put, List.setIfInBounds_toArray, List.set_cons_zero, List.set_cons_succ]; rfl)) : HL P ops Q S (o :: l) k listed a w :=
  al (by
    unfold Oper.wp execOp
    simp only [ho, hx, hy, Sem.run_bind, hv, Result.andThen_ok, Sem.run_pure]
    exact ⟨hS, hp ▸ h⟩) hr hw
/-- All have come up. -/
theorem dn (h : Q .normal a w) (hr : Region.ready .any ops listed = [] := by kernel_rfl) : HL P ops Q S [] k listed a w := fun _ => wpAnyH_done hr h _
theorem region {id : Nat} (S : World → Prop) (hm : P.follows .mixedOrders = true) (h : HL P l.toArray Q S l 0 (Array.replicate l.length false) a w.drew) : (Code.region id l.toArray true).wp P Q a w := wp_region_held (S := S) hm (by
  have := h (fun j => by simp)
  simpa using this)
end
end Go.Proofs.Ytnfejhkgcbabfaa.Held
/- A region that draws its order, walked in an order of one's own: each operation by its number. Nothing of one program. -/
namespace Go.Proofs.Ytnfejhkgcbabfaa.HeldI

section
variable {P : Program} {ops : Array Oper} {Q : Exit → Act → World → Prop} {S : World → Prop} {fuel : Nat} {listed : Array Bool} {a a' : Act} {w : World} {o : Oper}
theorem pu (i : Nat) {v : Value} (hS : S w) (h : wpAnyH P .any ops Q S fuel (listed.setIfInBounds i true) a' w) (hi : ops[i]? = some o := by (simp only [List.getElem?_toArray, List.getElem?_cons_succ, List.getElem?_cons_zero]; rfl)) (hs : Region.noSelect ops = true := by kernel_rfl) (hf : Region.free .any ops listed i = true := by kernel_rfl) (hr : (Region.ready .any ops listed).contains i = true := by kernel_rfl) (hw : Region.wanted o (yielded ops a.tmps) = true := by rfl) (hv : ∀ w, S w → (execOp a.eval o).run P w = .ok (.value v) w := by (intro w hSw; go_simp <;> rfl)) (hQ : ∀ c a w, Q (.panic c) (a.put o.dst v) w → Q (.panic c) a w := by exact fun _ _ _ h => h)
    (hp : a.put o.dst v = a' := by (simp only [Act.put, List.setIfInBounds_toArray, List.set_cons_zero, List.set_cons_succ]; rfl)) : wpAnyH P .any ops Q S (fuel + 1) listed a w :=
  wpAnyH_take hi hs hf hr hQ (.inl ⟨hw, hv⟩) hS (hp ▸ h)
theorem ce (i : Nat) {v : Value} {ad : Addr} (g : ∀ w, S w → w.cell? ad = some v) (hS : S w) (h : wpAnyH P .any ops Q S fuel (listed.setIfInBounds i true) a' w) (hi : ops[i]? = some o := by (simp only [List.getElem?_toArray, List.getElem?_cons_succ, List.getElem?_cons_zero]; rfl)) (hs : Region.noSelect ops = true := by kernel_rfl) (hf : Region.free .any ops listed i = true := by kernel_rfl) (hr : (Region.ready .any ops listed).contains i = true := by kernel_rfl) (hw : Region.wanted o (yielded ops a.tmps) = true := by rfl) (hv : ∀ w, S w → w.cell? ad = some v → (execOp a.eval o).run P w = .ok (.value v) w := by (intro w hSw g1; go_simp)) (hQ : ∀ c a w, Q (.panic c) (a.put o.dst v) w → Q (.panic c) a w := by exact fun _ _ _ h => h)
    (hp : a.put o.dst v = a' := by (simp only [Act.put, List.setIfInBounds_toArray, List.set_cons_zero, List.set_cons_succ]; rfl)) : wpAnyH P .any ops Q S (fuel + 1) listed a w :=
  wpAnyH_take hi hs hf hr hQ (.inl ⟨hw, fun w h => hv w h (g w h)⟩) hS (hp ▸ h)
theorem lm (i : Nat) {b f : Nat} {cs : List Value} {t : TypeId} {d : TypeDesc} {x : Operand} (hz : (P.info? t).map (·.size) = some cs.length) (g : ∀ w, S w → w.rangeAt b f cs) (hu : P.underlying t = some d) (hS : S w) (h : wpAnyH P .any ops Q S fuel (listed.setIfInBounds i true) a' w) (hi : ops[i]? = some o := by (simp only [List.getElem?_toArray, List.getElem?_cons_succ, List.getElem?_cons_zero]; rfl)) (hs : Region.noSelect ops = true := by kernel_rfl) (hf : Region.free .any ops listed i = true := by kernel_rfl) (hr : (Region.ready .any ops listed).contains i = true := by kernel_rfl) (hw : Region.wanted o (yielded ops a.tmps) = true := by rfl) (ho : o.op = .load t x := by rfl) (hx : a.eval x = .pointer (some ⟨b, f, none⟩) := by rfl) (hd : d.isRow = true := by rfl)
    (hQ : ∀ c a w, Q (.panic c) (a.put o.dst (.agg cs.toArray)) w → Q (.panic c) a w := by exact fun _ _ _ h => h) (hp : a.put o.dst (.agg cs.toArray) = a' := by (simp only [Act.put, List.setIfInBounds_toArray, List.set_cons_zero, List.set_cons_succ]; rfl)) : wpAnyH P .any ops Q S (fuel + 1) listed a w :=
  wpAnyH_take hi hs hf hr hQ (.inl ⟨hw, fun w hw' => by
    have h2 := run_loadVar_mid (P := P) w b f t cs d (g w hw') hu hd hz
    unfold execOp
    simp only [ho, hx, Instr.loadAt, Instr.sureAddr, Sem.run_bind, Sem.run_pure, h2, Result.andThen_ok]⟩) hS (hp ▸ h)
theorem al (i : Nat) (h : o.wp P a w (fun a' w' => S w' ∧ wpAnyH P .any ops Q S fuel (listed.setIfInBounds i true) a' w') Q) (hi : ops[i]? = some o) (hr : Region.ready .any ops listed = [i]) (hw : Region.wanted o (yielded ops a.tmps) = true) : wpAnyH P .any ops Q S (fuel + 1) listed a w :=
  wpAnyH_all hr (by simp) fun j hj => by
    obtain rfl : j = i := by simpa using hj
    unfold wpOp
    simp only [hi, hw, if_true]
    exact .inl h
/-- A load of a struct, alone in its turn. -/
theorem la (i : Nat) {b f : Nat} {cs : List Value} {t : TypeId} {d : TypeDesc} {x : Operand} (hz : (P.info? t).map (·.size) = some cs.length) (g : w.rangeAt b f cs) (hu : P.underlying t = some d) (hS : S w) (h : wpAnyH P .any ops Q S fuel (listed.setIfInBounds i true) a' w) (hi : ops[i]? = some o := by (simp only [List.getElem?_toArray, List.getElem?_cons_succ, List.getElem?_cons_zero]; rfl)) (hr : Region.ready .any ops listed = [i] := by kernel_rfl) (hw : Region.wanted o (yielded ops a.tmps) = true := by rfl) (ho : o.op = .load t x := by rfl) (hx : a.eval x = .pointer (some ⟨b, f, none⟩) := by rfl) (hd : d.isRow = true := by rfl)
    (hp : a.put o.dst (.agg cs.toArray) = a' := by (simp only [Act.put, List.setIfInBounds_toArray, List.set_cons_zero, List.set_cons_succ]; rfl)) : wpAnyH P .any ops Q S (fuel + 1) listed a w :=
  al i (by
    have h2 := run_loadVar_mid (P := P) w b f t cs d g hu hd hz
    unfold Oper.wp execOp
    simp only [ho, hx, Instr.loadAt, Instr.sureAddr, Sem.run_bind, Sem.run_pure, h2, Result.andThen_ok]
    exact ⟨hS, hp ▸ h⟩) hi hr hw
theorem kn (i : Nat) {f : FuncId} {us : Array Operand} {ts : Array TypeId} {args : List Value} {φ : Ending → World → Prop} {au : Value → Act} (hc : Calls P f args.toArray w φ) (h : ∀ e w', φ e w' → ∃ u, e = .returned u ∧ S w' ∧ wpAnyH P .any ops Q S fuel (listed.setIfInBounds i true) (au u) w')
    (hi : ops[i]? = some o := by (simp only [List.getElem?_toArray, List.getElem?_cons_succ, List.getElem?_cons_zero]; rfl)) (hr : Region.ready .any ops listed = [i] := by kernel_rfl) (hw : Region.wanted o (yielded ops a.tmps) = true := by rfl) (hf : Calm.enters P f = true := by kernel_rfl)
    (ho : o.op = .call { callee := .value (.func f), args := us, argTypes := ts } := by rfl) (ha : us.toList.map a.eval = args := by rfl) (hp : ∀ u, a.put o.dst u = au u := by (intro u; simp only [Act.put, List.setIfInBounds_toArray, List.set_cons_zero, List.set_cons_succ]; rfl)) : wpAnyH P .any ops Q S (fuel + 1) listed a w :=
  al i (by
    have e : ∀ args, (callFunc f args).run P w = .ok (.enter f args) w := fun args => Calm.enters_run hf args w
    have hr' : (execOp a.eval o).run P w = .ok (.enter f args.toArray) w := by
      have ha' : us.map a.eval = args.toArray := by
        rw [← ha, ← Array.toList_map, Array.toArray_toList]
      unfold execOp
      rw [ho]
      simp [go_sem, Act.eval, e, ← ha']
    unfold Oper.wp
    rw [hr']
    refine hc.mono fun e w' he => ?_
    obtain ⟨u, rfl, h1, h2⟩ := h e w' he
    exact ⟨h1, hp u ▸ h2⟩) hi hr hw
theorem st (i : Nat) {w1 : World} (hv : (execOp a.eval o).run P w = .ok .skip w1) (hS : S w1) (h : wpAnyH P .any ops Q S fuel (listed.setIfInBounds i true) a' w1) (hi : ops[i]? = some o := by (simp only [List.getElem?_toArray, List.getElem?_cons_succ, List.getElem?_cons_zero]; rfl)) (hr : Region.ready .any ops listed = [i] := by kernel_rfl) (hw : Region.wanted o (yielded ops a.tmps) = true := by rfl) (hp : a.put o.dst undef = a' := by (simp only [Act.put, List.setIfInBounds_toArray, List.set_cons_zero, List.set_cons_succ]; rfl)) : wpAnyH P .any ops Q S (fuel + 1) listed a w :=
  al i (by
    unfold Oper.wp
    rw [hv]
    exact ⟨hS, hp ▸ h⟩) hi hr hw
/-- A store of a struct, or of what a cell holds. -/
theorem ss (i : Nat) {w1 : World} {t : TypeId} {x y : Operand} {pv vv : Value} (hv : (Instr.storeAt t pv vv).run P w = .ok () w1) (hS : S w1) (h : wpAnyH P .any ops Q S fuel (listed.setIfInBounds i true) a' w1) (hi : ops[i]? = some o := by (simp only [List.getElem?_toArray, List.getElem?_cons_succ, List.getElem?_cons_zero]; rfl)) (hr : Region.ready .any ops listed = [i] := by kernel_rfl) (hw : Region.wanted o (yielded ops a.tmps) = true := by rfl) (ho : o.op = .store t x y := by rfl) (hx : a.eval x = pv := by rfl) (hy : a.eval y = vv := by rfl) (hp : a.put o.dst undef = a' := by (simp only [Act.put, List.setIfInBounds_toArray, List.set_cons_zero, List.set_cons_succ]; rfl)) : wpAnyH P .any ops Q S (fuel + 1) listed a w :=
  al i (by
    unfold Oper.wp execOp
    simp only [ho, hx, hy, Sem.run_bind, hv, Result.andThen_ok, Sem.run_pure]
    exact ⟨hS, hp ▸ h⟩) hi hr hw
theorem dn (h : Q .normal a w) (hr : Region.ready .any ops listed = [] := by kernel_rfl) : wpAnyH P .any ops Q S fuel listed a w := wpAnyH_done hr h _
theorem region {id : Nat} (S : World → Prop) (hm : P.follows .mixedOrders = true) {l : List Oper} (h : wpAnyH P .any l.toArray Q S l.length (Array.replicate l.length false) a w.drew) : (Code.region id l.toArray true).wp P Q a w := wp_region_held (S := S) hm (by simpa using h)
end
end Go.Proofs.Ytnfejhkgcbabfaa.HeldI
/- Rows of bytes of one's own, and what is appended to them; operations that make memory in a region that draws its order. Nothing of one function. -/
namespace Go.Proofs.Ytnfejhkgcbabfaa.HeldI

section
variable {P : Program} {ops : Array Oper} {Q : Exit → Act → World → Prop} {S : World → Prop} {fuel : Nat} {listed : Array Bool} {a a' : Act} {w w1 : World} {o : Oper}
/-- An operation alone in its turn that comes to a value, whatever it writes. -/
theorem vl (i : Nat) {v : Value} (hv : (execOp a.eval o).run P w = .ok (.value v) w1) (hS : S w1) (h : wpAnyH P .any ops Q S fuel (listed.setIfInBounds i true) a' w1) (hi : ops[i]? = some o := by (simp only [List.getElem?_toArray, List.getElem?_cons_succ, List.getElem?_cons_zero]; rfl)) (hr : Region.ready .any ops listed = [i] := by kernel_rfl) (hw : Region.wanted o (yielded ops a.tmps) = true := by rfl) (hp : a.put o.dst v = a' := by (simp only [Act.put, List.setIfInBounds_toArray, List.set_cons_zero, List.set_cons_succ]; rfl)) : wpAnyH P .any ops Q S (fuel + 1) listed a w :=
  al i (by
    unfold Oper.wp
    rw [hv]
    exact ⟨hS, hp ▸ h⟩) hi hr hw
theorem ap (i : Nat) {v vs vx : Value} {s x : Operand} {t ty : TypeId} (hrun : (Builtin.append_ #[t, t] ty #[vs, vx]).run P w = .ok v w1) (hS : S w1) (h : wpAnyH P .any ops Q S fuel (listed.setIfInBounds i true) a' w1) (hi : ops[i]? = some o := by (simp only [List.getElem?_toArray, List.getElem?_cons_succ, List.getElem?_cons_zero]; rfl)) (hr : Region.ready .any ops listed = [i] := by kernel_rfl) (hw : Region.wanted o (yielded ops a.tmps) = true := by rfl)
    (ho : o.op = .call { callee := .builtin .append, args := #[s, x], argTypes := #[t, t] } := by rfl) (hty : o.type = ty := by rfl) (hs : a.eval s = vs := by rfl) (hx : a.eval x = vx := by rfl) (hp : a.put o.dst v = a' := by (simp only [Act.put, List.setIfInBounds_toArray, List.set_cons_zero, List.set_cons_succ]; rfl)) : wpAnyH P .any ops Q S (fuel + 1) listed a w :=
  vl i (by
    unfold execOp
    simp only [ho, hty, resolve, invoke, builtin, Sem.run_bind, Sem.run_pure, Result.andThen_ok, List.map_toArray, List.map_cons, List.map_nil, hs, hx, hrun]) hS h hi hr hw hp
end
end Go.Proofs.Ytnfejhkgcbabfaa.HeldI
namespace Go.Proofs.Ytnfejhkgcbabfaa
open Go.RowKit

theorem info5 : (Try.prog.info? 5).map (fun i => (i.zero, i.size, i.bytes)) = some (some (.int .u8 0), 1, 1) := by kernel_rfl
theorem own_empty (w : World) (B : Nat) (hB : B ≤ w.heap.size) : (w.alloc (.cells #[] 5)).ownsRow B 5 1 (.slice (some ⟨w.heap.size, 0, none⟩) 0 0) 0 [] := World.ownsRow_made w #[] 0 hB (Nat.zero_le _) rfl
theorem own_off {w : World} {B e S n b : Nat} {v : Value} {xs : List Value} (h : w.ownsRow B e S v n xs) (hb : b < B) : Off b v := fun a m c e2 hn e3 => by
  rcases h.2 with ⟨rfl, _⟩ | ⟨g, cap, cur, rfl, hbg, _⟩
  · cases e2
  · simp only [Value.slice.injEq, Option.some.injEq] at e2
    rw [← e2.1] at e3
    simp only at e3
    omega
theorem own_block {w : World} {B e S n : Nat} {v : Value} {xs : List Value} (h : w.ownsRow B e S v n xs) : ∀ k, v.ownBlock = some k → B ≤ k := fun k hk => by
  rcases h.2 with ⟨rfl, _⟩ | ⟨g, cap, cur, rfl, hbg, _⟩
  · cases hk
  · simp only [Value.ownBlock, Option.some.injEq] at hk
    omega
theorem run_app {w : World} {B : Nat} {v vx : Value} {l m : List UInt8} (ty : TypeId) (hown : w.ownsRow B 5 1 v l.length (cel l)) (hx : DB w vx m) (hlen : l.length + m.length ≤ 10000000) (hB : B ≤ w.heap.size) : ∃ v' w', (Builtin.append_ #[23, 23] ty #[v, vx]).run Try.prog w = .ok v' w' ∧ w'.ownsRow B 5 1 v' (l ++ m).length (cel (l ++ m)) ∧ w.grownBy w' v.ownBlock := by
  obtain ⟨i, hi, e⟩ := Option.map_eq_some_iff.1 info5
  simp only [Prod.mk.injEq] at e
  rw [List.length_append, cel_append]
  have hmx : l.length + m.length ≤ maxLen := Nat.le_trans hlen (by decide)
  obtain ⟨hm, hl, ⟨rfl, h0⟩ | ⟨ad, c, rfl, hc, hd⟩⟩ := hx
  · obtain rfl := List.length_eq_zero_iff.1 h0
    refine ⟨v, w, run_append_owned_none (P := Try.prog) (w := w) B 23 ty 5 i 1 Try.underlying23 hi v l.length _ hown, ?_, World.grownBy.refl _ _⟩
    simpa [cel] using hown
  · have hz : ∀ j u, (cel m)[j]? = some u → w.cell? (ad.add j) = some u := fun j u hu => by
      have hz : 0 < m.length := by
        have := (List.getElem?_eq_some_iff.1 hu).1
        rw [cel_length] at this
        omega
      obtain ⟨g, o', rfl, hr⟩ := hd hz
      rw [Addr.add_mid]
      exact hr j u hu
    obtain ⟨v', w', h1, h2, h3, _⟩ := Go.run_append_own_at (P := Try.prog) w B 23 ty 5 i _ 1 1 Try.underlying23 hi e.1 e.2.1 e.2.2 rfl (by decide) v l.length _ hown ad m.length c (cel m) hl hz (cel_one m) hmx (by omega) hB
    exact ⟨v', w', h1, h2, h3⟩
theorem append_db {ops : Array Oper} {rest : List Oper} {o : Oper} {a : Act} {Q : Exit → Act → World → Prop} {w : World} {B : Nat} {va vx : Value} {l m : List UInt8} (hgd : o.guard = none) (s x : Operand) (ho : o.op = .call { callee := .builtin .append, args := #[s, x], argTypes := #[23, 23] })
    (hs : a.eval s = va) (hx : a.eval x = vx) (hown : w.ownsRow B 5 1 va l.length (cel l)) (hxs : DB w vx m) (hlen : l.length + m.length ≤ 10000000) (hB : B ≤ w.heap.size)
    (h : ∀ v' w', w'.ownsRow B 5 1 v' (l ++ m).length (cel (l ++ m)) → w.grownBy w' va.ownBlock → wpList Try.prog ops Q rest (a.put o.dst v') w') : wpList Try.prog ops Q (o :: rest) a w :=
  wpList_plain hgd fun K hK => by
    obtain ⟨v', w', hr, h2, h3⟩ := run_app o.type hown hxs hlen hB
    unfold Oper.wp execOp
    simp only [ho, resolve, invoke, builtin, Sem.run_bind, Sem.run_pure, Result.andThen_ok, List.map_toArray, List.map_cons, List.map_nil, hs, hx, hr]
    exact hK _ _ (h v' w' h2 h3)
theorem own_db {w : World} {B : Nat} {v : Value} {l : List UInt8} (h : w.ownsRow B 5 1 v l.length (cel l)) : DB w v l := own_sh h
end Go.Proofs.Ytnfejhkgcbabfaa
