import Derived.Test.YtjjncmenkepcoaaP1
import Derived.Deep.MidRow
/- Slices of files, and disks, where they lie; rows of files of one's own. Nothing of one function. -/
namespace Go.Proofs.Ytjjncmenkepcoaa
open Go.RowKit

/-- Bytes as cells. -/
def cel (l : List UInt8) : List Value := l.map fun b => Value.int .u8 b.toNat
theorem cel_length (l : List UInt8) : (cel l).length = l.length := by simp [cel]
theorem cel_append (a b : List UInt8) : cel (a ++ b) = cel a ++ cel b := by simp [cel]
theorem cel_take (l : List UInt8) (n : Nat) : cel (l.take n) = (cel l).take n := by simp [cel, List.map_take]
theorem cel_one (l : List UInt8) : ∀ u ∈ cel l, u.oneCell' = true := by
  intro u hu
  obtain ⟨_, _, rfl⟩ := List.mem_map.1 hu
  rfl
/-- A slice that holds these bytes. -/
abbrev DB (w : World) (v : Value) (l : List UInt8) : Prop := SHas 1 w v l.length (cel l)
theorem DB.nil (w : World) : DB w (.slice none 0 0) [] := SHas.nil w 1
/-- A file's cells, with the slice that its bytes lie in. -/
abbrev FV.cells (a : FV × Value) : List Value := [.string a.1.x, a.2, .int .i64 a.1.k]
theorem FV.len (a : FV × Value) : (FV.cells a).length = 3 := rfl
/-- A slice of files. -/
def FHas (w : World) (v : Value) (l : List FV) : Prop := ∃ ys : List (FV × Value), ys.map (·.1) = l ∧ SHas 3 w v l.length (rows FV.cells ys) ∧ ∀ y ∈ ys, DB w y.2 y.1.d
section
variable {w w' : World} {v : Value} {l : List FV}
theorem FHas.later (h : FHas w v l) (hb : Below w.heap.size w w') : FHas w' v l := by
  obtain ⟨ys, h1, h2, h3⟩ := h
  exact ⟨ys, h1, h2.later hb, fun y hy => (h3 y hy).later hb⟩
theorem FHas.slice (h : FHas w v l) : ∃ p c, v = .slice p l.length c := by
  obtain ⟨ys, h1, h2, h3⟩ := h
  exact h2.slice
theorem FHas.max (h : FHas w v l) : l.length ≤ maxLen := by
  obtain ⟨ys, h1, h2, h3⟩ := h
  exact h2.1
theorem FHas.nil (w : World) : FHas w (.slice none 0 0) [] := ⟨[], rfl, SHas.nil w 3, fun _ h => by cases h⟩
theorem FV.elem {ys : List (FV × Value)} {g o : Nat} (h : w.rangeAt g o (rows FV.cells ys)) (k : Nat) (hk : k < ys.length) : w.rangeAt g (o + k * 3) (FV.cells ys[k]) :=
  range_sub h (k * 3) fun j u hu => rows_at FV.len ys k hk j u hu
/-- What stands at a place: its cells lie there, and its bytes do. -/
theorem FHas.at {p : Option Addr} {c : Nat} (h : FHas w (.slice p l.length c) l) (k : Nat) (hk : k < l.length) : ∃ g o sl, p = some ⟨g, o, none⟩ ∧ w.rangeAt g (o + k * 3) [.string l[k].x, sl, .int .i64 l[k].k] ∧ DB w sl l[k].d := by
  obtain ⟨ys, rfl, h2, h3⟩ := h
  have hk' : k < ys.length := by simpa using hk
  obtain ⟨g, o, rfl, hd⟩ := h2.at (by omega)
  refine ⟨g, o, ys[k].2, rfl, ?_, ?_⟩
  · simpa using FV.elem hd k hk'
  · simpa using h3 ys[k] (List.getElem_mem _)
/-- Its three cells. -/
theorem f_cells {g o : Nat} {x : ByteArray} {sl : Value} {k : Int} (h : w.rangeAt g o [.string x, sl, .int .i64 k]) : w.cell? ⟨g, o, none⟩ = some (.string x) ∧ w.cell? ⟨g, o + 1, none⟩ = some sl ∧ w.cell? ⟨g, o + 2, none⟩ = some (.int .i64 k) := ⟨h 0 _ rfl, h 1 _ rfl, h 2 _ rfl⟩
end
/-- A disk, by its content and by value. -/
abbrev DKV (sl : Value) (room arm : Int) (dead : Bool) : Value := .agg #[sl, .int .i64 room, .int .i64 arm, .bool dead]
abbrev DKV.of (sl : Value) (d : DV) : Value := DKV sl d.room d.arm d.dead
def DHas (w : World) (v : Value) (d : DV) : Prop := ∃ sl, v = DKV sl d.room d.arm d.dead ∧ FHas w sl d.fs
theorem DHas.later {w w' : World} {v : Value} {d : DV} (h : DHas w v d) (hb : Below w.heap.size w w') : DHas w' v d := by
  obtain ⟨sl, rfl, h⟩ := h
  exact ⟨sl, rfl, h.later hb⟩
/-- A slice that has something does not lie in that block. -/
def Off (b : Nat) (v : Value) : Prop := ∀ a n c, v = .slice (some a) n c → 0 < n → a.block ≠ b
/-- A slice of files, with the slices of their bytes; none of them lies in certain blocks. -/
structure FAt (w : World) (v : Value) (ys : List (FV × Value)) (off : Nat → Prop) : Prop where
  s : SHas 3 w v ys.length (rows FV.cells ys)
  o : ∀ y ∈ ys, DB w y.2 y.1.d
  f : ∀ b, off b → Off b v ∧ ∀ y ∈ ys, Off b y.2
theorem range_same {w w' : World} {g o : Nat} {cs : List Value} (h : w.rangeAt g o cs) (hb : w'.heap[g]? = w.heap[g]?) : w'.rangeAt g o cs := fun j v hv => by
  rw [World.cell?_of_block (w := w) hb]
  exact h j v hv
theorem range_block {w : World} {g o : Nat} {cs : List Value} (h : w.rangeAt g o cs) (hc : 0 < cs.length) : g < w.heap.size := by
  rcases Nat.lt_or_ge g w.heap.size with h' | h'
  · exact h'
  · have := h 0 cs[0] (by simp)
    simp [World.cell?, Array.getElem?_eq_none h'] at this
section
variable {w w' : World} {v : Value} {ys : List (FV × Value)} {off off' : Nat → Prop} {row : Option Nat}
theorem FAt.has (h : FAt w v ys off) : FHas w v (ys.map (·.1)) := ⟨ys, rfl, by rw [List.length_map]; exact h.s, h.o⟩
theorem FHas.fat {l : List FV} (h : FHas w v l) : ∃ ys : List (FV × Value), ys.map (·.1) = l ∧ FAt w v ys (fun _ => False) := by
  obtain ⟨ys, h1, h2, h3⟩ := h
  exact ⟨ys, h1, by have : l.length = ys.length := by rw [← h1, List.length_map]
                    exact this ▸ h2, h3, fun _ h => h.elim⟩
theorem FAt.later (h : FAt w v ys off) (hb : Below w.heap.size w w') : FAt w' v ys off := ⟨h.s.later hb, fun y hy => (h.o y hy).later hb, h.f⟩
theorem FAt.sub (h : FAt w v ys off) (hs : ∀ b, off' b → off b) : FAt w v ys off' := ⟨h.s, h.o, fun b hb => h.f b (hs b hb)⟩
theorem SHas.block {S n : Nat} {xs : List Value} (hS : 0 < S) (h : SHas S w v n xs) {a : Addr} {m c : Nat} (e : v = .slice (some a) m c) (hn : 0 < m) : a.block < w.heap.size := by
  obtain ⟨p, c', e2⟩ := h.slice
  rw [e2] at e
  simp only [Value.slice.injEq] at e
  obtain ⟨rfl, rfl, rfl⟩ := e
  subst e2
  obtain ⟨g, o, e, hd⟩ := h.at hn
  simp only [Option.some.injEq] at e
  subst e
  refine range_block hd ?_
  rw [h.2.1]
  exact Nat.mul_pos hn hS
/-- Nothing lies in blocks that are not there yet. -/
theorem FAt.more (h : FAt w v ys off) : FAt w v ys (fun b => off b ∨ w.heap.size ≤ b) := ⟨h.s, h.o, fun b hb => by
  rcases hb with hb | hb
  · exact h.f b hb
  · refine ⟨fun a n c e hn => ?_, fun y hy a n c e hn => ?_⟩
    · have := h.s.block (by decide) e hn
      omega
    · have := (h.o y hy).block (by decide) e hn
      omega⟩
theorem SHas.grown {S n : Nat} {xs : List Value} (hS : 0 < S) (h : SHas S w v n xs) (hg : w.grownBy w' row) (hf : ∀ b, row = some b → Off b v) : SHas S w' v n xs := by
  obtain ⟨hm, hl, ⟨rfl, rfl⟩ | ⟨ad, c, rfl, hc, hd⟩⟩ := h
  · exact ⟨hm, hl, .inl ⟨rfl, rfl⟩⟩
  · refine ⟨hm, hl, .inr ⟨ad, c, rfl, hc, fun h0 => ?_⟩⟩
    obtain ⟨g, o, rfl, hd2⟩ := hd h0
    refine ⟨g, o, rfl, range_same hd2 (hg.block g (range_block hd2 (by rw [hl]; exact Nat.mul_pos h0 hS)) fun e => ?_)⟩
    exact hf g e.symm _ _ _ rfl h0 rfl
theorem FAt.grown (h : FAt w v ys off) (hg : w.grownBy w' row) (hf : ∀ b, row = some b → off b) : FAt w' v ys off :=
  ⟨h.s.grown (by decide) hg fun b hb => (h.f b (hf b hb)).1, fun y hy => (h.o y hy).grown (by decide) hg fun b hb => (h.f b (hf b hb)).2 y hy, h.f⟩
end
theorem grown_row (w : World) (b : Nat) (cs : Array Value) : w.grownBy (w.setRow b cs) (some b) := ⟨rfl, rfl, rfl, by simp [World.setRow], fun k _ h => setRow_other w b k cs fun e => h (by rw [e])⟩
/-- A row of files of one's own; their bytes keep off it, and off certain blocks. -/
structure OwnF (w : World) (B : Nat) (v : Value) (ys : List (FV × Value)) (off : Nat → Prop) : Prop where
  r : w.ownsRow B 57 3 v ys.length (rows FV.cells ys)
  o : ∀ y ∈ ys, DB w y.2 y.1.d
  f : ∀ y ∈ ys, ∀ b, (v.ownBlock = some b ∨ off b) → Off b y.2
section
variable {w w' : World} {B : Nat} {v : Value} {ys zs : List (FV × Value)} {off : Nat → Prop}
theorem own_later {B e S n : Nat} {xs : List Value} (h : w.ownsRow B e S v n xs) (hb : Below w.heap.size w w') : w'.ownsRow B e S v n xs := by
  refine ⟨h.1, ?_⟩
  rcases h.2 with h | ⟨g, cap, cur, e1, hbg, hg, h1, h2, h3, h4⟩
  · exact .inl h
  · exact .inr ⟨g, cap, cur, e1, hbg, (hb.block g (Array.getElem?_eq_some_iff.1 hg).1).trans hg, h1, h2, h3, h4⟩
theorem OwnF.later (h : OwnF w B v ys off) (hb : Below w.heap.size w w') : OwnF w' B v ys off := ⟨own_later h.r hb, fun y hy => (h.o y hy).later hb, h.f⟩
theorem OwnF.nil (w : World) (B : Nat) (off : Nat → Prop) : OwnF w B (.slice none 0 0) [] off := ⟨⟨rfl, .inl ⟨rfl, rfl⟩⟩, (fun _ h => by cases h), fun _ h => by cases h⟩
theorem OwnF.fat (h : OwnF w B v ys off) : FAt w v ys (fun _ => False) := ⟨own_sh h.r, h.o, fun _ h => h.elim⟩
theorem OwnF.block (h : OwnF w B v ys off) {b : Nat} (e : v.ownBlock = some b) : B ≤ b ∧ b < w.heap.size := by
  rcases h.r.2 with ⟨rfl, _⟩ | ⟨g, cap, cur, rfl, hbg, hg, _⟩
  · simp [Value.ownBlock] at e
  · simp only [Value.ownBlock, Option.some.injEq] at e
    subst e
    exact ⟨hbg, (Array.getElem?_eq_some_iff.1 hg).1⟩
theorem FV.one (sl : Value) (hs : sl.oneCell' = true) (x : FV) : ∀ u ∈ FV.cells (x, sl), u.oneCell' = true := by
  intro u hu
  simp only [List.mem_cons, List.not_mem_nil, or_false] at hu
  rcases hu with rfl | rfl | rfl
  · rfl
  · exact hs
  · rfl
theorem FV.ones (h : ∀ y ∈ ys, DB w y.2 y.1.d) : ∀ u ∈ rows FV.cells ys, u.oneCell' = true := by
  intro u hu
  obtain ⟨y, hy, hx⟩ := List.mem_flatMap.1 hu
  obtain ⟨p, c, e⟩ := (h y hy).slice
  exact FV.one y.2 (by rw [e]; rfl) y.1 u hx
/-- What is there behind an append. -/
theorem OwnF.app {v' vx : Value} (h : OwnF w B v ys off) (hx : FAt w vx zs (fun b => v.ownBlock = some b ∨ off b)) (h2 : w'.ownsRow B 57 3 v' (ys.length + zs.length) (rows FV.cells ys ++ rows FV.cells zs)) (hg : w.grownBy w' v.ownBlock) (hb : v'.ownBlock = v.ownBlock ∨ v'.ownBlock = some w.heap.size) : OwnF w' B v' (ys ++ zs) off := by
  have hall : ∀ y ∈ ys ++ zs, DB w y.2 y.1.d ∧ ∀ b, (v.ownBlock = some b ∨ off b) → Off b y.2 := fun y hy => by
    rcases List.mem_append.1 hy with hy | hy
    · exact ⟨h.o y hy, h.f y hy⟩
    · exact ⟨hx.o y hy, fun b hb => (hx.f b hb).2 y hy⟩
  refine ⟨by rw [List.length_append, rows_append]; exact h2, fun y hy => (hall y hy).1.grown (by decide) hg fun b hb => (hall y hy).2 b (.inl hb), fun y hy b e => ?_⟩
  rcases e with e | e
  · rcases hb with hb | hb
    · exact (hall y hy).2 b (.inl (hb ▸ e))
    · rw [hb] at e
      simp only [Option.some.injEq] at e
      subst e
      intro a n c e1 hn
      have := (hall y hy).1.block (by decide) e1 hn
      omega
  · exact (hall y hy).2 b (.inr e)
end
theorem infoF : (Try.prog.info? 57).map (fun i => (i.zero, i.size, i.bytes)) = some (some (.agg #[.string ByteArray.empty, .slice none 0 0, .int .i64 0]), 3, 48) := by kernel_rfl
theorem sizeF : (Try.prog.info? 57).map (·.size) = some 3 := by kernel_rfl
theorem append_fs {ops : Array Oper} {rest : List Oper} {o : Oper} {a : Act} {Q : Exit → Act → World → Prop} {w : World} {B : Nat} {va vx : Value} {ys zs : List (FV × Value)} {off : Nat → Prop} (hgd : o.guard = none) (s x : Operand) (ho : o.op = .call { callee := .builtin .append, args := #[s, x], argTypes := #[24, 24] })
    (hs : a.eval s = va) (hx : a.eval x = vx) (hown : OwnF w B va ys off) (hxs : FAt w vx zs (fun b => va.ownBlock = some b ∨ off b)) (hlen : ys.length + zs.length ≤ 100000) (hbase : B ≤ w.heap.size)
    (h : ∀ v' w', OwnF w' B v' (ys ++ zs) off → w.grownBy w' va.ownBlock → (v'.ownBlock = va.ownBlock ∨ v'.ownBlock = some w.heap.size) → wpList Try.prog ops Q rest (a.put o.dst v') w') : wpList Try.prog ops Q (o :: rest) a w := by
  obtain ⟨i, hi, e⟩ := Option.map_eq_some_iff.1 infoF
  simp only [Prod.mk.injEq] at e
  have hmx : ys.length + zs.length ≤ maxLen := Nat.le_trans hlen (by decide)
  obtain ⟨hm, hl, ⟨rfl, h0⟩ | ⟨ad, c, rfl, hc, hd⟩⟩ := hxs.s
  · obtain rfl := List.length_eq_zero_iff.1 h0
    refine Go.wpList_append_own_none hgd s x 24 ho B 57 i 3 Try.underlying24 hi va ys.length _ hs hown.r hx (h va w ?_ ⟨rfl, rfl, rfl, Nat.le_refl _, fun _ _ _ => rfl⟩ (.inl rfl))
    rw [List.append_nil]
    exact hown
  · refine Go.wpList_append_own_at w hgd s x 24 ho B 57 i _ 3 48 Try.underlying24 hi e.1 e.2.1 e.2.2 rfl (by decide) va ys.length _ hs hown.r ad zs.length c (rows FV.cells zs) hx hl (fun j u hu => ?_) (FV.ones hxs.o) hmx (by omega) hbase fun v' w' h2 hg _ hb => h v' w' (hown.app hxs h2 hg hb) hg hb
    have hz : 0 < zs.length := by
      rcases Nat.eq_zero_or_pos zs.length with h' | h'
      · rw [h', Nat.zero_mul] at hl
        have := (List.getElem?_eq_some_iff.1 hu).1
        omega
      · exact h'
    obtain ⟨g, o', rfl, hr⟩ := hd hz
    rw [Addr.add_mid]
    exact hr j u hu
theorem one_file {w : World} {b : Nat} (x : FV) (s1 : Value) (off : Nat → Prop) (hb : b = w.heap.size) (ho : DB w s1 x.d) (hof : ∀ q, off q → Off q s1 ∧ q ≠ b) : FAt (w.alloc (.cells (FV.cells (x, s1)).toArray 57)) (.slice (some ⟨b, 0, none⟩) 1 1) [(x, s1)] off := by
  subst hb
  refine ⟨⟨(show 1 ≤ maxLen by decide), ?_, .inr ⟨_, 1, rfl, ⟨Nat.le_refl _, by decide⟩, fun _ => ⟨w.heap.size, 0, rfl, ?_⟩⟩⟩, fun y hy => ?_, fun q hq => ⟨fun a n c e hn => ?_, fun y hy => ?_⟩⟩
  · rw [rows_length FV.len]
  · exact (rw_new w 57 _).range 0 _ fun j u hu => by
      rw [rows_one] at hu
      simpa using hu
  · simp only [List.mem_singleton] at hy
    subst hy
    exact ho.later (bel_alloc (Below.refl _ _) _)
  · simp only [Value.slice.injEq, Option.some.injEq] at e
    rw [← e.1]
    exact Ne.symm (hof q hq).2
  · simp only [List.mem_singleton] at hy
    subst hy
    exact (hof q hq).1
abbrev FLV (x : ByteArray) (s1 : Value) (k : Int) : Value := .agg #[.string x, s1, .int .i64 k]
theorem build_file (x : ByteArray) (s1 : Value) (k : Int) (_h1 : s1.oneCell' = true) (w : World) : (Instr.buildSlice 24 1 #[(0, FLV x s1 k)]).run Try.prog w = .ok (.slice (some ⟨w.heap.size, 0, none⟩) 1 1) (w.alloc (.cells (FV.cells (⟨x, [], k⟩, s1)).toArray 57)) := by
  go_simp
theorem build_at {ops : Array Oper} {rest : List Oper} {op : Oper} {a : Act} {w w1 : World} {Q : Exit → Act → World → Prop} {ty : TypeId} {n : Nat} (hgd : op.guard = none) (x : Operand) (ho : op.op = .buildSlice ty n #[(0, x)]) {u v : Value} (hx : a.eval x = v) (hr : (Instr.buildSlice ty n #[(0, v)]).run Try.prog w = .ok u w1)
    (h : wpList Try.prog ops Q rest (a.put op.dst u) w1) : wpList Try.prog ops Q (op :: rest) a w :=
  wpList_plain hgd fun _ hK => by
    unfold Oper.wp execOp
    simp only [ho, List.map_toArray, List.map_cons, List.map_nil, hx, Sem.run_bind, hr, Result.andThen_ok, Sem.run_pure]
    exact hK _ _ h
end Go.Proofs.Ytjjncmenkepcoaa
/- The moves of a region that draws its order, each in one word: what is left to be shown of each is done where it is called. Nothing of one program. -/
namespace Go.Proofs.Ytjjncmenkepcoaa.Calm

section
variable {P : Program} {ops : Array Oper} {S : World → Prop} {K : Act → Prop} {o : Oper} {l : List Oper} {a a' : Act}
/-- Passed over. -/
theorem sk (h : calmList P ops S K l a') (hw : Region.wanted o (yielded ops a.tmps) = false := by rfl)
    (hp : a.put o.dst undef = a' := by (simp only [Act.put, List.setIfInBounds_toArray, List.set_cons_zero, List.set_cons_succ]; rfl)) : calmList P ops S K (o :: l) a :=
  skip hw (hp ▸ h)
/-- Run to a value. -/
theorem pu {v : Value} (h : calmList P ops S K l a') (hw : Region.wanted o (yielded ops a.tmps) = true := by rfl)
    (hv : ∀ w, S w → (execOp a.eval o).run P w = .ok (.value v) w := by (intro w hSw; go_simp <;> rfl))
    (hp : a.put o.dst v = a' := by (simp only [Act.put, List.setIfInBounds_toArray, List.set_cons_zero, List.set_cons_succ]; rfl)) : calmList P ops S K (o :: l) a :=
  pure hw hv (hp ▸ h)
/-- A load of what a cell holds. -/
theorem ce {v : Value} {ad : Addr} (g : ∀ w, S w → w.cell? ad = some v) (h : calmList P ops S K l a') (hw : Region.wanted o (yielded ops a.tmps) = true := by rfl)
    (hv : ∀ w, S w → w.cell? ad = some v → (execOp a.eval o).run P w = .ok (.value v) w := by (intro w hSw g1; go_simp))
    (hp : a.put o.dst v = a' := by (simp only [Act.put, List.setIfInBounds_toArray, List.set_cons_zero, List.set_cons_succ]; rfl)) : calmList P ops S K (o :: l) a :=
  pure hw (fun w hS => hv w hS (g w hS)) (hp ▸ h)
/-- By a fact of the world. -/
theorem cl {v : Value} {p : World → Prop} (g : ∀ w, S w → p w) (h : calmList P ops S K l a') (hw : Region.wanted o (yielded ops a.tmps) = true := by rfl)
    (hv : ∀ w, S w → p w → (execOp a.eval o).run P w = .ok (.value v) w := by (intro w hSw g1; go_simp <;> rfl))
    (hp : a.put o.dst v = a' := by (simp only [Act.put, List.setIfInBounds_toArray, List.set_cons_zero, List.set_cons_succ]; rfl)) : calmList P ops S K (o :: l) a :=
  pure hw (fun w hS => hv w hS (g w hS)) (hp ▸ h)
theorem cs {v : Value} {p : World → Prop} (g : ∀ w, S w → p w) (h : calmList P ops S K l a') (hw : Region.wanted o (yielded ops a.tmps) = true := by rfl)
    (hv : ∀ w, S w → p w → (execOp a.eval o).run P w = .ok (.value v) w := by (intro w hSw g1; simp at g1; go_simp <;> rfl))
    (hp : a.put o.dst v = a' := by (simp only [Act.put, List.setIfInBounds_toArray, List.set_cons_zero, List.set_cons_succ]; rfl)) : calmList P ops S K (o :: l) a :=
  pure hw (fun w hS => hv w hS (g w hS)) (hp ▸ h)
/-- A load of a struct. -/
theorem lm {b f : Nat} {cs : List Value} {t : TypeId} {d : TypeDesc} {x : Operand} (hi : (P.info? t).map (·.size) = some cs.length) (hS : ∀ w, S w → w.rangeAt b f cs) (hu : P.underlying t = some d) (h : calmList P ops S K l a') (hw : Region.wanted o (yielded ops a.tmps) = true := by rfl)
    (ho : o.op = .load t x := by rfl) (hx : a.eval x = .pointer (some ⟨b, f, none⟩) := by rfl) (hd : d.isRow = true := by rfl)
    (hp : a.put o.dst (.agg cs.toArray) = a' := by (simp only [Act.put, List.setIfInBounds_toArray, List.set_cons_zero, List.set_cons_succ]; rfl)) : calmList P ops S K (o :: l) a :=
  pure hw (fun w hw' => by
    have h2 := run_loadVar_mid (P := P) w b f t cs d (hS w hw') hu hd hi
    unfold execOp
    simp only [ho, hx, Instr.loadAt, Instr.sureAddr, Sem.run_bind, Sem.run_pure, h2, Result.andThen_ok]) (hp ▸ h)
/-- Calls of functions by their names, whose contracts may ask for S; of a function that a slot holds. -/
theorem k0 {r : Value} {f : FuncId} {ts : Array TypeId} (hs : Stays S) (hc : ∀ w, S w → Calls P f #[] w fun e w' => e = .returned r ∧ RowKit.Below w.heap.size w w') (h : calmList P ops S K l a') (hw : Region.wanted o (yielded ops a.tmps) = true := by rfl) (ho : o.op = .call { callee := .value (.func f), args := #[], argTypes := ts } := by rfl)  (hf : enters P f = true := by kernel_rfl)
    (hp : a.put o.dst r = a' := by (simp only [Act.put, List.setIfInBounds_toArray, List.set_cons_zero, List.set_cons_succ]; rfl)) : calmList P ops S K (o :: l) a :=
  call (f := f) (args := #[]) hw (fun w => by
    have e : ∀ args, (callFunc f args).run P w = .ok (.enter f args) w := fun args => enters_run hf args w
    unfold execOp
    simp [ho, go_sem, Act.eval, e]) (fun w hS => (hc w hS).mono fun e w' he => ⟨he.1, hs w w' hS he.2⟩) (hp ▸ h)
theorem k1 {r x : Value} {f : FuncId} {ts : Array TypeId} {u : Operand} (hs : Stays S) (hc : ∀ w, S w → Calls P f #[x] w fun e w' => e = .returned r ∧ RowKit.Below w.heap.size w w') (h : calmList P ops S K l a') (hw : Region.wanted o (yielded ops a.tmps) = true := by rfl) (ho : o.op = .call { callee := .value (.func f), args := #[u], argTypes := ts } := by rfl) (hu : a.eval u = x := by rfl) (hf : enters P f = true := by kernel_rfl)
    (hp : a.put o.dst r = a' := by (simp only [Act.put, List.setIfInBounds_toArray, List.set_cons_zero, List.set_cons_succ]; rfl)) : calmList P ops S K (o :: l) a :=
  call (f := f) (args := #[x]) hw (fun w => by
    have e : ∀ args, (callFunc f args).run P w = .ok (.enter f args) w := fun args => enters_run hf args w
    subst hu
    unfold execOp
    simp [ho, go_sem, Act.eval, e]) (fun w hS => (hc w hS).mono fun e w' he => ⟨he.1, hs w w' hS he.2⟩) (hp ▸ h)
theorem k2 {r x y : Value} {f : FuncId} {ts : Array TypeId} {u v : Operand} (hs : Stays S) (hc : ∀ w, S w → Calls P f #[x, y] w fun e w' => e = .returned r ∧ RowKit.Below w.heap.size w w') (h : calmList P ops S K l a') (hw : Region.wanted o (yielded ops a.tmps) = true := by rfl) (ho : o.op = .call { callee := .value (.func f), args := #[u, v], argTypes := ts } := by rfl) (hu : a.eval u = x := by rfl) (hv : a.eval v = y := by rfl) (hf : enters P f = true := by kernel_rfl)
    (hp : a.put o.dst r = a' := by (simp only [Act.put, List.setIfInBounds_toArray, List.set_cons_zero, List.set_cons_succ]; rfl)) : calmList P ops S K (o :: l) a :=
  call (f := f) (args := #[x, y]) hw (fun w => by
    have e : ∀ args, (callFunc f args).run P w = .ok (.enter f args) w := fun args => enters_run hf args w
    subst hu
    subst hv
    unfold execOp
    simp [ho, go_sem, Act.eval, e]) (fun w hS => (hc w hS).mono fun e w' he => ⟨he.1, hs w w' hS he.2⟩) (hp ▸ h)
theorem k3 {r x y z : Value} {f : FuncId} {ts : Array TypeId} {u v t : Operand} (hs : Stays S) (hc : ∀ w, S w → Calls P f #[x, y, z] w fun e w' => e = .returned r ∧ RowKit.Below w.heap.size w w') (h : calmList P ops S K l a') (hw : Region.wanted o (yielded ops a.tmps) = true := by rfl) (ho : o.op = .call { callee := .value (.func f), args := #[u, v, t], argTypes := ts } := by rfl) (hu : a.eval u = x := by rfl) (hv : a.eval v = y := by rfl) (ht : a.eval t = z := by rfl) (hf : enters P f = true := by kernel_rfl)
    (hp : a.put o.dst r = a' := by (simp only [Act.put, List.setIfInBounds_toArray, List.set_cons_zero, List.set_cons_succ]; rfl)) : calmList P ops S K (o :: l) a :=
  call (f := f) (args := #[x, y, z]) hw (fun w => by
    have e : ∀ args, (callFunc f args).run P w = .ok (.enter f args) w := fun args => enters_run hf args w
    subst hu
    subst hv
    subst ht
    unfold execOp
    simp [ho, go_sem, Act.eval, e]) (fun w hS => (hc w hS).mono fun e w' he => ⟨he.1, hs w w' hS he.2⟩) (hp ▸ h)
theorem k4 {r x y z q : Value} {f : FuncId} {ts : Array TypeId} {u v t n : Operand} (hs : Stays S) (hc : ∀ w, S w → Calls P f #[x, y, z, q] w fun e w' => e = .returned r ∧ RowKit.Below w.heap.size w w') (h : calmList P ops S K l a') (hw : Region.wanted o (yielded ops a.tmps) = true := by rfl) (ho : o.op = .call { callee := .value (.func f), args := #[u, v, t, n], argTypes := ts } := by rfl) (hu : a.eval u = x := by rfl) (hv : a.eval v = y := by rfl) (ht : a.eval t = z := by rfl) (hn : a.eval n = q := by rfl) (hf : enters P f = true := by kernel_rfl)
    (hp : a.put o.dst r = a' := by (simp only [Act.put, List.setIfInBounds_toArray, List.set_cons_zero, List.set_cons_succ]; rfl)) : calmList P ops S K (o :: l) a :=
  call (f := f) (args := #[x, y, z, q]) hw (fun w => by
    have e : ∀ args, (callFunc f args).run P w = .ok (.enter f args) w := fun args => enters_run hf args w
    subst hu
    subst hv
    subst ht
    subst hn
    unfold execOp
    simp [ho, go_sem, Act.eval, e]) (fun w hS => (hc w hS).mono fun e w' he => ⟨he.1, hs w w' hS he.2⟩) (hp ▸ h)
theorem kf1 {r x : Value} {f : FuncId} {ts : Array TypeId} {uf u : Operand} (hs : Stays S) (hc : ∀ w, S w → Calls P f #[x] w fun e w' => e = .returned r ∧ RowKit.Below w.heap.size w w') (h : calmList P ops S K l a') (hw : Region.wanted o (yielded ops a.tmps) = true := by rfl) (ho : o.op = .call { callee := .value uf, args := #[u], argTypes := ts } := by rfl) (hv : a.eval uf = .func (.func f) #[] #[] := by rfl) (hu : a.eval u = x := by rfl) (hf : enters P f = true := by kernel_rfl)
    (hp : a.put o.dst r = a' := by (simp only [Act.put, List.setIfInBounds_toArray, List.set_cons_zero, List.set_cons_succ]; rfl)) : calmList P ops S K (o :: l) a :=
  call (f := f) (args := #[x]) hw (fun w => by
    have e : ∀ args, (callFunc f args).run P w = .ok (.enter f args) w := fun args => enters_run hf args w
    generalize a.eval = ρ at hv hu ⊢
    subst hu
    unfold execOp
    simp [ho, go_sem, hv, e]) (fun w hS => (hc w hS).mono fun e w' he => ⟨he.1, hs w w' hS he.2⟩) (hp ▸ h)
end
end Go.Proofs.Ytjjncmenkepcoaa.Calm
/- The small functions of the document's answer for layer 22: named, Place, Used. -/
namespace Go.Proofs.Ytjjncmenkepcoaa
open Go.RowKit

theorem size26 : (Try.prog.info? 26).map (·.size) = some 4 := by kernel_rfl
theorem rNamed_any (s : ByteArray) (w : World) : Calls Try.prog 59 #[.string s] w (Tells (.bool (nmd s)) w) := by
  unfold nmd
  go_enter Try.func59, Try.ntmps59
  go_wp2
  all_goals
    go_ret
    refine tells_bool ?_ ?_
    focus (first | (simp_all; done) | grind)
    repeat refine bel_alloc ?_ _
    exact Below.refl _ _
theorem str_eq {x y : ByteArray} (h : x = y) : (x.toList == y.toList) = true := by rw [beq_iff_eq, tl_eq]; exact h
theorem str_ne {x y : ByteArray} (h : ¬ x = y) : (x.toList == y.toList) = false := by rw [beq_eq_false_iff_ne, Ne, tl_eq]; exact h
set_option maxHeartbeats 2000000 in
set_option maxRecDepth 100000 in
theorem rPlace_any (d : DV) (sl : Value) (x : ByteArray) (w : World) (h : FHas w sl d.fs) : Calls Try.prog 46 #[DKV.of sl d, .string x] w (Tells (.int .i64 (plF d.fs x)) w) := by
  obtain ⟨q, c, rfl⟩ := h.slice
  have hml := maxLen_lt h.max
  obtain ⟨z, HZ⟩ := hid_ex (plF d.fs x)
  rw [HZ.out]
  have H : Hid (FHas w (.slice q d.fs.length c) d.fs) := h
  clear h
  have R0 := rw_new w 26 #[.slice q d.fs.length c, .int .i64 d.room, .int .i64 d.arm, .bool d.dead]
  have hbel := bel_alloc (Below.refl w.heap.size w) (.cells #[.slice q d.fs.length c, .int .i64 d.room, .int .i64 d.arm, .bool d.dead] 26)
  generalize hW : w.alloc (.cells #[.slice q d.fs.length c, .int .i64 d.room, .int .i64 d.arm, .bool d.dead] 26) = w0 at R0 hbel
  go_enter Try.func46, Try.ntmps46
  go_wp2_with (rw [hW])
  clear hW
  go_loopw [5] (fun vi wr => ∃ k : Nat, vi = .int .i64 k ∧ k ≤ d.fs.length ∧ Hid (∀ f ∈ d.fs.take k, f.x ≠ x) ∧ Rw wr w.heap.size 26 #[.slice q d.fs.length c, .int .i64 d.room, .int .i64 d.arm, .bool d.dead] ∧ Below w.heap.size w wr) (fun vi _ => d.fs.length - (intOf vi).toNat)
  case atStart => exact ⟨0, rfl, by omega, (show ∀ f ∈ d.fs.take 0, f.x ≠ x from fun f hf => by cases hf), R0, hbel⟩
  case round =>
    clear R0 hbel
    obtain ⟨k, rfl, hk, HN, R0, hbel⟩ := hrel
    have k0 : wr.cell? ⟨w.heap.size, 0, none⟩ = some (.slice q d.fs.length c) := R0.cell 0
    by_cases hlt : k < d.fs.length
    · have hlt' : (k : Int) < (d.fs.length : Int) := by omega
      obtain ⟨g, o, s1, rfl, d00, _⟩ := H.out.at k hlt
      have d0 := range_later d00 hbel
      obtain ⟨c0, _, _⟩ := f_cells d0
      by_cases hx : d.fs[k].x = x
      · have HZ2 : Hid (z = (k : Int)) := by
          show z = _
          rw [← HZ.out]
          exact plF_at hlt HN.out hx
        have g1 := str_eq hx
        clear HN HZ d0 d00
        go_wp2_with fail
        go_ret
        obtain rfl := HZ2.out
        exact ⟨rfl, hbel⟩
      · have HN2 : Hid (∀ f ∈ d.fs.take (k + 1), f.x ≠ x) := by
          show ∀ f ∈ d.fs.take (k + 1), f.x ≠ x
          rw [List.take_succ_eq_append_getElem hlt]
          intro f hf
          rcases List.mem_append.1 hf with hf | hf
          · exact HN.out f hf
          · rw [List.mem_singleton.1 hf]
            exact hx
        have g1 := str_ne hx
        clear HN HZ d0 d00
        go_wp2_with fail
        go_roundw
        case rel => exact ⟨k + 1, by simp, by omega, HN2, R0, hbel⟩
        case measure => simp [intOf]; omega
    · have hlt' : ¬ (k : Int) < (d.fs.length : Int) := by omega
      have HZ2 : Hid (z = -1) := by
        show z = _
        rw [← HZ.out]
        refine plF_none ?_
        have := HN.out
        rwa [List.take_of_length_le (by omega)] at this
      clear HN HZ
      go_wp2_with fail
      go_ret
      obtain rfl := HZ2.out
      exact ⟨rfl, hbel⟩
set_option maxHeartbeats 2000000 in
set_option maxRecDepth 100000 in
theorem rUsed_any (d : DV) (sl : Value) (w : World) (h : FHas w sl d.fs) (hu : us d.fs ≤ 1000000000) : Calls Try.prog 65 #[DKV.of sl d] w (Tells (.int .i64 (us d.fs)) w) := by
  obtain ⟨q, c, rfl⟩ := h.slice
  obtain ⟨z, HZ⟩ := hid_ex (us d.fs)
  rw [HZ.out]
  have hml := maxLen_lt h.max
  have H : Hid (FHas w (.slice q d.fs.length c) d.fs) := h
  clear h
  have R0 := rw_new w 26 #[.slice q d.fs.length c, .int .i64 d.room, .int .i64 d.arm, .bool d.dead]
  have hbel := bel_alloc (Below.refl w.heap.size w) (.cells #[.slice q d.fs.length c, .int .i64 d.room, .int .i64 d.arm, .bool d.dead] 26)
  generalize hW : w.alloc (.cells #[.slice q d.fs.length c, .int .i64 d.room, .int .i64 d.arm, .bool d.dead] 26) = w0 at R0 hbel
  go_enter Try.func65, Try.ntmps65
  go_wp2_with (rw [hW])
  clear hW
  go_loopw [3, 4] (fun vn vi wr => ∃ k : Nat, vi = .int .i64 k ∧ vn = .int .i64 (us (d.fs.take k)) ∧ k ≤ d.fs.length ∧ Rw wr w.heap.size 26 #[.slice q d.fs.length c, .int .i64 d.room, .int .i64 d.arm, .bool d.dead] ∧ Below w.heap.size w wr) (fun _ vi _ => d.fs.length - (intOf vi).toNat)
  case atStart => exact ⟨0, rfl, rfl, by omega, R0, hbel⟩
  case round =>
    clear R0 hbel
    obtain ⟨k, rfl, rfl, hk, R0, hbel⟩ := hrel
    have k0 : wr.cell? ⟨w.heap.size, 0, none⟩ = some (.slice q d.fs.length c) := R0.cell 0
    by_cases hlt : k < d.fs.length
    · have hlt' : (k : Int) < (d.fs.length : Int) := by omega
      obtain ⟨g, o, s1, rfl, d00, a0⟩ := H.out.at k hlt
      have d0 := range_later d00 hbel
      obtain ⟨p1, c1, rfl⟩ := SHas.slice a0
      obtain ⟨_, c2, _⟩ := f_cells d0
      have hat := us_at hlt
      have HS := us_take_succ hlt
      obtain ⟨n, HN⟩ := hid_ex d.fs[k].d.length
      obtain ⟨u, HU⟩ := hid_ex (us (d.fs.take k))
      rw [HN.out] at c2 HS hat
      rw [HU.out] at HS hat ⊢
      have HS2 : Hid (us (d.fs.take (k + 1)) = u + n) := HS
      clear d0 d00 a0 HS HN HU
      go_wp2_with fail
      go_roundw
      case rel => exact ⟨k + 1, by simp, by rw [HS2.out]; simp, by omega, R0, hbel⟩
      case measure => simp [intOf]; omega
    · have hlt' : ¬ (k : Int) < (d.fs.length : Int) := by omega
      rw [List.take_of_length_le (by omega)]
      go_wp2_with fail
      go_ret
      exact ⟨by rw [HZ.out]; rfl, hbel⟩
end Go.Proofs.Ytjjncmenkepcoaa
