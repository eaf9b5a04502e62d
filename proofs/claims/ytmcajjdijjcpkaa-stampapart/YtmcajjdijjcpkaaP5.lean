import Derived.Test.YtmcajjdijjcpkaaP4
import Derived.Test.YtmcajjdijjcpkaaP3
/- Stamps, stamps at work and growths by value and in boxes; trees that do not lie in a box that is written; trees that are all new. Nothing of one function. -/
namespace Go.Proofs.Ytmcajjdijjcpkaa
open Go.ChangeShapes Go.WideShapes Go.ChangeAt Go.RowKit

/-- The block b is a row of these cells. -/
def Rw (w : World) (b : Nat) (t : TypeId) (cs : Array Value) : Prop := w.heap[b]? = some (.cells cs t)
section
variable {w w' : World} {b : Nat} {t : TypeId} {cs : Array Value}
theorem Rw.lt (h : Rw w b t cs) : b < w.heap.size := (Array.getElem?_eq_some_iff.1 h).1
theorem rw_new (w : World) (t : TypeId) (cs : Array Value) : Rw (w.alloc (.cells cs t)) w.heap.size t cs := heap_alloc_last w _
theorem rw_next (w : World) {b : Nat} (hb : b = w.heap.size) (t : TypeId) (cs : Array Value) : Rw (w.alloc (.cells cs t)) b t cs := by subst hb; exact rw_new w t cs
theorem Rw.later (h : Rw w b t cs) (hb : Below w.heap.size w w') : Rw w' b t cs := (hb.block b h.lt).trans h
theorem Rw.alloc (h : Rw w b t cs) (x : Obj) : Rw (w.alloc x) b t cs := (Below.heap_alloc w x b h.lt).trans h
theorem Rw.row (h : Rw w b t cs) (cs' : Array Value) : Rw (w.setRow b cs') b t cs' := setRow_heap w b _ _ t (0, 0) h
theorem Rw.rowOther (h : Rw w b t cs) {q : Nat} (hne : b ≠ q) (cs' : Array Value) : Rw (w.setRow q cs') b t cs := (setRow_other w q b cs' hne).trans h
theorem Rw.cell (h : Rw w b t cs) (i : Nat) : w.cell? ⟨b, i, none⟩ = cs[i]? := cell_of_row _ _ i _ t (0, 0) h
theorem Rw.load (h : Rw w b t cs) {d : TypeDesc} (hd : d.isRow = true) (hu : Try.prog.underlying t = some d) (hi : (Try.prog.info? t).map (·.size) = some cs.size) : (loadVar t ⟨b, 0, none⟩).run Try.prog w = .ok (.agg cs) w :=
  run_loadVar_row w b t t _ (0, 0) d h hu (by cases d <;> first | rfl | exact hd) hi
theorem Rw.loadAt (h : Rw w b t cs) {d : TypeDesc} (hd : d.isRow = true) (hu : Try.prog.underlying t = some d) (hi : (Try.prog.info? t).map (·.size) = some cs.size) : (Instr.loadAt t (.pointer (some ⟨b, 0, none⟩))).run Try.prog w = .ok (.agg cs) w := by
  simp only [Instr.loadAt, Instr.sureAddr, Sem.run_bind, Sem.run_pure, Result.andThen_ok, h.load hd hu hi]
theorem Rw.store (h : Rw w b t cs) (cs' : Array Value) (hi : (Try.prog.info? t).map (·.size) = some cs'.size) (ho : cs.size = cs'.size) (h1 : cs'.all (·.oneCell') = true) : (Instr.storeAt t (.pointer (some ⟨b, 0, none⟩)) (.agg cs')).run Try.prog w = .ok () (w.setRow b cs') := by
  simp only [Instr.storeAt, Instr.sureAddr, Sem.run_bind, Sem.run_pure, Result.andThen]
  exact run_storeVar_row w b t t _ _ h hi ho h1
end

/-- A stamp by value, a stamp at work, a growth. -/
abbrev SV (n : Int) (p : Option Addr) (l c : Nat) (n' : Int) (p' : Option Addr) (l' c' : Nat) : Value := .agg #[.int .i64 n, .slice p l c, .int .i64 n', .slice p' l' c']
abbrev CH : Value := .func (.func 78) #[] #[]
abbrev WV (n : Int) (p : Option Addr) (l c : Nat) (n' : Int) (p' : Option Addr) (l' c' : Nat) : Value := .agg #[.int .i64 n, .slice p l c, .int .i64 n', .slice p' l' c', CH]
abbrev GV (n : Int) (p : Option Addr) (l c : Nat) (k m : Int) : Value := .agg #[.int .i64 n, .slice p l c, .int .i64 k, .int .i64 m]
abbrev Sx (w : World) (b : Nat) (n : Int) (p : Option Addr) (l c : Nat) (n' : Int) (p' : Option Addr) (l' c' : Nat) : Prop := Rw w b 26 #[.int .i64 n, .slice p l c, .int .i64 n', .slice p' l' c']
abbrev Wx (w : World) (b : Nat) (n : Int) (p : Option Addr) (l c : Nat) (n' : Int) (p' : Option Addr) (l' c' : Nat) : Prop := Rw w b 60 #[.int .i64 n, .slice p l c, .int .i64 n', .slice p' l' c', CH]
abbrev Gx (w : World) (b : Nat) (n : Int) (p : Option Addr) (l c : Nat) (k m : Int) : Prop := Rw w b 78 #[.int .i64 n, .slice p l c, .int .i64 k, .int .i64 m]
theorem size26 : (Try.prog.info? 26).map (·.size) = some 4 := by kernel_rfl
theorem size60 : (Try.prog.info? 60).map (·.size) = some 5 := by kernel_rfl
theorem size78 : (Try.prog.info? 78).map (·.size) = some 4 := by kernel_rfl
section
variable {w w' : World} {b : Nat} {n : Int} {p : Option Addr} {l c : Nat} {n' : Int} {p' : Option Addr} {l' c' : Nat} {k m : Int}
theorem tat_of (h : w.cell? ⟨b, 0, none⟩ = some (.int .i64 n)) (h' : w.cell? ⟨b, 1, none⟩ = some (.slice p l c)) : Tat w b 0 n p l c := ⟨h, h'⟩
theorem Sx.tat0 (h : Sx w b n p l c n' p' l' c') : Tat w b 0 n p l c := ⟨h.cell 0, h.cell 1⟩
theorem Sx.tat1 (h : Sx w b n p l c n' p' l' c') : Tat w b 2 n' p' l' c' := ⟨h.cell 2, h.cell 3⟩
theorem Wx.tat0 (h : Wx w b n p l c n' p' l' c') : Tat w b 0 n p l c := ⟨h.cell 0, h.cell 1⟩
theorem Wx.tat1 (h : Wx w b n p l c n' p' l' c') : Tat w b 2 n' p' l' c' := ⟨h.cell 2, h.cell 3⟩
theorem Gx.tat0 (h : Gx w b n p l c k m) : Tat w b 0 n p l c := ⟨h.cell 0, h.cell 1⟩
theorem Sx.loadAt' (h : Sx w b n p l c n' p' l' c') : (Instr.loadAt 26 (.pointer (some ⟨b, 0, none⟩))).run Try.prog w = .ok (SV n p l c n' p' l' c') w := h.loadAt rfl Try.underlying26 size26
theorem Wx.loadAt' (h : Wx w b n p l c n' p' l' c') : (Instr.loadAt 60 (.pointer (some ⟨b, 0, none⟩))).run Try.prog w = .ok (WV n p l c n' p' l' c') w := h.loadAt rfl Try.underlying60 size60
theorem Gx.loadAt' (h : Gx w b n p l c k m) : (Instr.loadAt 78 (.pointer (some ⟨b, 0, none⟩))).run Try.prog w = .ok (GV n p l c k m) w := h.loadAt rfl Try.underlying78 size78
end
section
variable {ops : Array Oper} {rest : List Oper} {op : Oper} {a : Act} {w : World} {Q : Exit → Act → World → Prop}
theorem load_s (x : Operand) (ho : op.op = .load 26 x) (hw : Region.wanted op (yielded ops a.tmps) = true) (b : Nat) (hx : a.eval x = .pointer (some ⟨b, 0, none⟩)) {n : Int} {p : Option Addr} {l c : Nat} {n' : Int} {p' : Option Addr} {l' c' : Nat} (hc : Sx w b n p l c n' p' l' c')
    (h : wpList Try.prog ops Q rest (a.put op.dst (SV n p l c n' p' l' c')) w) : wpList Try.prog ops Q (op :: rest) a w :=
  BigFrame.wpList_want hw fun _ hK => by
    unfold Oper.wp execOp
    simp only [ho, hx, Sem.run_bind, hc.loadAt', Result.andThen_ok, Sem.run_pure]
    exact hK _ _ h
theorem load_w (x : Operand) (ho : op.op = .load 60 x) (hw : Region.wanted op (yielded ops a.tmps) = true) (b : Nat) (hx : a.eval x = .pointer (some ⟨b, 0, none⟩)) {n : Int} {p : Option Addr} {l c : Nat} {n' : Int} {p' : Option Addr} {l' c' : Nat} (hc : Wx w b n p l c n' p' l' c')
    (h : wpList Try.prog ops Q rest (a.put op.dst (WV n p l c n' p' l' c')) w) : wpList Try.prog ops Q (op :: rest) a w :=
  BigFrame.wpList_want hw fun _ hK => by
    unfold Oper.wp execOp
    simp only [ho, hx, Sem.run_bind, hc.loadAt', Result.andThen_ok, Sem.run_pure]
    exact hK _ _ h
theorem load_g (x : Operand) (ho : op.op = .load 78 x) (hw : Region.wanted op (yielded ops a.tmps) = true) (b : Nat) (hx : a.eval x = .pointer (some ⟨b, 0, none⟩)) {n : Int} {p : Option Addr} {l c : Nat} {k m : Int} (hc : Gx w b n p l c k m)
    (h : wpList Try.prog ops Q rest (a.put op.dst (GV n p l c k m)) w) : wpList Try.prog ops Q (op :: rest) a w :=
  BigFrame.wpList_want hw fun _ hK => by
    unfold Oper.wp execOp
    simp only [ho, hx, Sem.run_bind, hc.loadAt', Result.andThen_ok, Sem.run_pure]
    exact hK _ _ h
theorem store_r (hgd : op.guard = none) (t : TypeId) (x y : Operand) (ho : op.op = .store t x y) (b : Nat) (cs' : Array Value) (hx : a.eval x = .pointer (some ⟨b, 0, none⟩)) (hy : a.eval y = .agg cs') {cs : Array Value} (hc : Rw w b t cs) (hi : (Try.prog.info? t).map (·.size) = some cs'.size) (hs : cs.size = cs'.size) (h1 : cs'.all (·.oneCell') = true)
    (h : wpList Try.prog ops Q rest (a.put op.dst undef) (w.setRow b cs')) : wpList Try.prog ops Q (op :: rest) a w :=
  wpList_plain hgd fun _ hK => by
    unfold Oper.wp execOp
    simp only [ho, hx, hy, Sem.run_bind, hc.store cs' hi hs h1, Result.andThen_ok, Sem.run_pure]
    exact hK _ _ h
theorem store_s (hgd : op.guard = none) (x y : Operand) (ho : op.op = .store 26 x y) (b : Nat) (n : Int) (p : Option Addr) (l c : Nat) (n' : Int) (p' : Option Addr) (l' c' : Nat) (hx : a.eval x = .pointer (some ⟨b, 0, none⟩)) (hy : a.eval y = SV n p l c n' p' l' c') {n0 : Int} {p0 : Option Addr} {l0 c0 : Nat} {n1 : Int} {p1 : Option Addr} {l1 c1 : Nat} (hc : Sx w b n0 p0 l0 c0 n1 p1 l1 c1)
    (h : wpList Try.prog ops Q rest (a.put op.dst undef) (w.setRow b #[.int .i64 n, .slice p l c, .int .i64 n', .slice p' l' c'])) : wpList Try.prog ops Q (op :: rest) a w :=
  store_r hgd 26 x y ho b _ hx hy hc size26 rfl (by simp [Value.oneCell']) h
theorem store_w (hgd : op.guard = none) (x y : Operand) (ho : op.op = .store 60 x y) (b : Nat) (n : Int) (p : Option Addr) (l c : Nat) (n' : Int) (p' : Option Addr) (l' c' : Nat) (hx : a.eval x = .pointer (some ⟨b, 0, none⟩)) (hy : a.eval y = WV n p l c n' p' l' c') {cs : Array Value} (hc : Rw w b 60 cs) (hs : cs.size = 5)
    (h : wpList Try.prog ops Q rest (a.put op.dst undef) (w.setRow b #[.int .i64 n, .slice p l c, .int .i64 n', .slice p' l' c', CH])) : wpList Try.prog ops Q (op :: rest) a w :=
  store_r hgd 60 x y ho b _ hx hy hc size60 hs (by simp [Value.oneCell']) h
theorem store_g (hgd : op.guard = none) (x y : Operand) (ho : op.op = .store 78 x y) (b : Nat) (n : Int) (p : Option Addr) (l c : Nat) (k m : Int) (hx : a.eval x = .pointer (some ⟨b, 0, none⟩)) (hy : a.eval y = GV n p l c k m) {n0 : Int} {p0 : Option Addr} {l0 c0 : Nat} {k0 m0 : Int} (hc : Gx w b n0 p0 l0 c0 k0 m0)
    (h : wpList Try.prog ops Q rest (a.put op.dst undef) (w.setRow b #[.int .i64 n, .slice p l c, .int .i64 k, .int .i64 m])) : wpList Try.prog ops Q (op :: rest) a w :=
  store_r hgd 78 x y ho b _ hx hy hc size78 rfl (by simp [Value.oneCell']) h
end
/-- Results that lie in such boxes. -/
theorem results_r {fn : Func} {t : Tmp} {ty : TypeId} (h : fn.results = #[.cell t ty]) {tmps : Array Value} {w : World} {b : Nat} {cs : Array Value} {d : TypeDesc} (hp : tmps.getD t undef = .pointer (some ⟨b, 0, none⟩)) (hc : Rw w b ty cs)
    (hd : d.isRow = true) (hu : Try.prog.underlying ty = some d) (hi : (Try.prog.info? ty).map (·.size) = some cs.size) : (results fn tmps).run Try.prog w = .ok (.agg cs) w := by
  have h2 := hc.load hd hu hi
  unfold results
  rw [h]
  simp only [List.mapM_toArray, List.mapM_cons, List.mapM_nil, hp, asAddr]
  simp [h2]
theorem results_s {fn : Func} {t : Tmp} (h : fn.results = #[.cell t 26]) {tmps : Array Value} {w : World} {b : Nat} {n : Int} {p : Option Addr} {l c : Nat} {n' : Int} {p' : Option Addr} {l' c' : Nat} (hp : tmps.getD t undef = .pointer (some ⟨b, 0, none⟩)) (hc : Sx w b n p l c n' p' l' c') :
    (results fn tmps).run Try.prog w = .ok (SV n p l c n' p' l' c') w := results_r h hp hc rfl Try.underlying26 size26
theorem results_w {fn : Func} {t : Tmp} (h : fn.results = #[.cell t 60]) {tmps : Array Value} {w : World} {b : Nat} {n : Int} {p : Option Addr} {l c : Nat} {n' : Int} {p' : Option Addr} {l' c' : Nat} (hp : tmps.getD t undef = .pointer (some ⟨b, 0, none⟩)) (hc : Wx w b n p l c n' p' l' c') :
    (results fn tmps).run Try.prog w = .ok (WV n p l c n' p' l' c') w := results_r h hp hc rfl Try.underlying60 size60
theorem results_g {fn : Func} {t : Tmp} (h : fn.results = #[.cell t 78]) {tmps : Array Value} {w : World} {b : Nat} {n : Int} {p : Option Addr} {l c : Nat} {k m : Int} (hp : tmps.getD t undef = .pointer (some ⟨b, 0, none⟩)) (hc : Gx w b n p l c k m) :
    (results fn tmps).run Try.prog w = .ok (GV n p l c k m) w := results_r h hp hc rfl Try.underlying78 size78
theorem results_se {fn : Func} {t u : Tmp} (h : fn.results = #[.cell t 26, .tmp u]) {tmps : Array Value} {w : World} {b : Nat} {n : Int} {p : Option Addr} {l c : Nat} {n' : Int} {p' : Option Addr} {l' c' : Nat} (hp : tmps.getD t undef = .pointer (some ⟨b, 0, none⟩)) (hc : Sx w b n p l c n' p' l' c') :
    (results fn tmps).run Try.prog w = .ok (.tuple #[SV n p l c n' p' l' c', tmps.getD u undef]) w := by
  have h2 := hc.load rfl Try.underlying26 size26
  unfold results
  rw [h]
  simp only [List.mapM_toArray, List.mapM_cons, List.mapM_nil, hp, asAddr]
  simp [h2]
theorem results_sse {fn : Func} {t u x : Tmp} (h : fn.results = #[.cell t 26, .cell u 26, .tmp x]) {tmps : Array Value} {w : World} {b : Nat} {n : Int} {p : Option Addr} {l c : Nat} {n' : Int} {p' : Option Addr} {l' c' : Nat} (hp : tmps.getD t undef = .pointer (some ⟨b, 0, none⟩)) (hc : Sx w b n p l c n' p' l' c')
    {b2 : Nat} {m : Int} {q : Option Addr} {k d : Nat} {m' : Int} {q' : Option Addr} {k' d' : Nat} (hp' : tmps.getD u undef = .pointer (some ⟨b2, 0, none⟩)) (hc' : Sx w b2 m q k d m' q' k' d') :
    (results fn tmps).run Try.prog w = .ok (.tuple #[SV n p l c n' p' l' c', SV m q k d m' q' k' d', tmps.getD x undef]) w := by
  have h2 := hc.load rfl Try.underlying26 size26
  have h3 := hc'.load rfl Try.underlying26 size26
  unfold results
  rw [h]
  simp only [List.mapM_toArray, List.mapM_cons, List.mapM_nil, hp, hp', asAddr]
  simp [h2, h3]

/-! What does not lie in a box. -/
/-- Below N both worlds are the same, but for the blocks q and q'. -/
def Ag (N q q' : Nat) (w w2 : World) : Prop := ∀ b, b < N → b ≠ q → b ≠ q' → w2.heap[b]? = w.heap[b]?
abbrev Z4 : Array Value := #[.int .i64 0, .slice none 0 0, .int .i64 0, .slice none 0 0]
theorem tat_same {w w2 : World} {g o : Nat} {n : Int} {p : Option Addr} {l c : Nat} (h : Tat w g o n p l c) (e : w2.heap[g]? = w.heap[g]?) : Tat w2 g o n p l c := by
  constructor
  · rw [World.cell?_of_block (w := w) e]; exact h.1
  · rw [World.cell?_of_block (w := w) e]; exact h.2
/-- In a box of two empty trees no row of a node with two trees of unlike content lies. -/
theorem zero_row {w : World} {q : Nat} (hq : Rw w q 26 Z4) {o : Nat} {n0 : Int} {p0 : Option Addr} {l0 c0 : Nat} {n1 : Int} {p1 : Option Addr} {l1 c1 : Nat} (h0 : Tat w q o n0 p0 l0 c0) (h1 : Tat w q (o + 2) n1 p1 l1 c1) : (n0 = 0 ∧ l0 = 0) ∧ (n1 = 0 ∧ l1 = 0) := by
  have a1 := h0.1
  have a2 := h0.2
  have a3 := h1.1
  have a4 := h1.2
  rw [hq.cell] at a1 a2 a3 a4
  match o with
  | 0 => simp at a1 a2 a3 a4; omega
  | 1 => simp at a1
  | 2 => simp at a3
  | 3 => simp at a1
  | o + 4 => simp at a1
theorem leaf_is {w : World} {x : EV} {n : Int} {p : Option Addr} {c : Nat} (h : Is w x (TV n p 0 c)) : x = .leaf n := by
  rcases x with ⟨m, ⟨⟩ | ⟨_, _⟩⟩
  · obtain ⟨p, c, e⟩ := h
    simp at e
    rw [e.1]
  · obtain ⟨g, o, c, n0, p0, l0, c0, n1, p1, l1, c1, e, _⟩ := h
    simp at e
theorem Is.off {w w2 : World} {q q' : Nat} (hq : Rw w q 26 Z4) (hq' : Rw w q' 26 Z4) (hA : Ag w.heap.size q q' w w2) : ∀ {x : EV} {v : Value}, short x = true → Is w x v → Is w2 x v
  | ⟨_, .inl _⟩, _, _, h => h
  | ⟨_, .inr (x, y)⟩, _, hs, ⟨g, o, c, n0, p0, l0, c0, n1, p1, l1, c1, e, h0, h1, hx, hy⟩ => by
    obtain ⟨_, ht, s0, s1⟩ := short_kids hs
    have ne : ∀ r, Rw w r 26 Z4 → g ≠ r := by
      rintro r hr rfl
      obtain ⟨⟨rfl, rfl⟩, rfl, rfl⟩ := zero_row hr h0 h1
      rw [leaf_is hx, leaf_is hy] at ht
      simp [tw] at ht
    have eg := hA g h0.lt (ne q hq) (ne q' hq')
    exact ⟨g, o, c, n0, p0, l0, c0, n1, p1, l1, c1, e, tat_same h0 eg, tat_same h1 eg, hx.off hq hq' hA s0, hy.off hq hq' hA s1⟩
theorem ag_row (w : World) (q : Nat) (cs : Array Value) : Ag w.heap.size q q w (w.setRow q cs) := fun b _ h _ => setRow_other w q b cs h
theorem Is.zrow {w : World} {q : Nat} (hq : Rw w q 26 Z4) {x : EV} {v : Value} (hs : short x = true) (h : Is w x v) (cs : Array Value) : Is (w.setRow q cs) x v := h.off hq hq (ag_row w q cs) hs
/-- A box of a growth is no row of trees. -/
theorem Is.grow {w : World} {q : Nat} {n : Int} {p : Option Addr} {l c : Nat} {k m : Int} (hq : Gx w q n p l c k m) (cs : Array Value) : ∀ {x : EV} {v : Value}, Is w x v → Is (w.setRow q cs) x v
  | ⟨_, .inl _⟩, _, h => h
  | ⟨_, .inr (x, y)⟩, _, ⟨g, o, c, n0, p0, l0, c0, n1, p1, l1, c1, e, h0, h1, hx, hy⟩ => by
    have ne : g ≠ q := by
      rintro rfl
      have a1 := h0.2
      have a2 := h1.2
      have a3 := h1.1
      rw [hq.cell] at a1 a2 a3
      match o with
      | 0 => simp at a2
      | 1 => simp at a1
      | 2 => simp at a3
      | 3 => simp at a1
      | o + 4 => simp at a1
    have eg := setRow_other w q g cs ne
    exact ⟨g, o, c, n0, p0, l0, c0, n1, p1, l1, c1, e, tat_same h0 eg, tat_same h1 eg, hx.grow hq cs, hy.grow hq cs⟩

/-- What holds by the blocks from N on alone. -/
def Nw (N : Nat) (w : World) (P : World → Prop) : Prop := ∀ w2, (∀ b, N ≤ b → b < w.heap.size → w2.heap[b]? = w.heap[b]?) → P w2
theorem Nw.here {N : Nat} {w : World} {P : World → Prop} (h : Nw N w P) : P w := h w fun _ _ _ => rfl
theorem Nw.later {N : Nat} {w w' : World} {P : World → Prop} (h : Nw N w P) (hb : Below w.heap.size w w') : Nw N w' P := fun w2 h2 => h w2 fun b h0 h1 => (h2 b h0 (Nat.lt_of_lt_of_le h1 hb.size)).trans (hb.block b h1)
theorem Nw.row {N : Nat} {w : World} {P : World → Prop} (h : Nw N w P) {q : Nat} (hq : q < N) (cs : Array Value) : Nw N (w.setRow q cs) P := fun w2 h2 => h w2 fun b h0 h1 => (h2 b h0 (by simpa using h1)).trans (setRow_other w q b cs (by omega))
theorem Nw.mono {N M : Nat} {w : World} {P : World → Prop} (h : Nw N w P) (hM : M ≤ N) : Nw M w P := fun w2 h2 => h w2 fun b h0 h1 => h2 b (by omega) h1
theorem Nw.nwTo {N : Nat} {w : World} {P Q : World → Prop} (h : Nw N w P) (hi : ∀ w, P w → Q w) : Nw N w Q := fun w2 h2 => hi w2 (h w2 h2)
end Go.Proofs.Ytmcajjdijjcpkaa
namespace Go.Proofs.Ytmcajjdijjcpkaa.Idn
theorem leaf_is {w : World} {x : ID} {n : Int} {p : Option Addr} {c : Nat} (h : Is w x (TV n p 0 c)) : ∃ b, x = .leaf b ∧ n = bi b := by
  rcases x with ⟨b | ⟨_, _⟩⟩
  · obtain ⟨p, c, e⟩ := h
    simp at e
    exact ⟨b, rfl, e.1⟩
  · obtain ⟨g, o, c, n0, p0, l0, c0, n1, p1, l1, c1, e, _⟩ := h
    simp at e
theorem Is.off {w w2 : World} {q q' : Nat} (hq : Rw w q 26 Z4) (hq' : Rw w q' 26 Z4) (hA : Ag w.heap.size q q' w w2) : ∀ {x : ID} {v : Value}, short x = true → Is w x v → Is w2 x v
  | ⟨.inl _⟩, _, _, h => h
  | ⟨.inr (x, y)⟩, _, hs, ⟨g, o, c, n0, p0, l0, c0, n1, p1, l1, c1, e, h0, h1, hx, hy⟩ => by
    have hs' : tw x y = false ∧ short x = true ∧ short y = true := by simpa [short, and_assoc] using hs
    obtain ⟨ht, s0, s1⟩ := hs'
    have ne : ∀ r, Rw w r 26 Z4 → g ≠ r := by
      rintro r hr rfl
      obtain ⟨⟨rfl, rfl⟩, rfl, rfl⟩ := zero_row hr h0 h1
      obtain ⟨b, rfl, e0⟩ := leaf_is hx
      obtain ⟨b', rfl, e1⟩ := leaf_is hy
      cases b <;> cases b' <;> simp [bi, tw] at e0 e1 ht
    have eg := hA g h0.lt (ne q hq) (ne q' hq')
    exact ⟨g, o, c, n0, p0, l0, c0, n1, p1, l1, c1, e, tat_same h0 eg, tat_same h1 eg, hx.off hq hq' hA s0, hy.off hq hq' hA s1⟩
theorem Is.zrow {w : World} {q : Nat} (hq : Rw w q 26 Z4) {x : ID} {v : Value} (hs : short x = true) (h : Is w x v) (cs : Array Value) : Is (w.setRow q cs) x v := h.off hq hq (ag_row w q cs) hs
end Go.Proofs.Ytmcajjdijjcpkaa.Idn
/- Facts of operations that load, store and answer trees, in a region that draws its order. -/
namespace Go.Proofs.Ytmcajjdijjcpkaa.Idn
open Go.RowKit

/-- Made shorter. -/
def norm : ID → ID
  | ⟨.inl b⟩ => .leaf b
  | ⟨.inr (x, y)⟩ => mk (norm x) (norm y)

/-- Facts of an operation: its value is v; a tree of x; the box b holds the tree x that operation k came to. -/
def eqF (i : Nat) (v : Value) : Facts.Fact := ([i], fun vs _ => vs = [v])
def isF (i : Nat) (x : ID) : Facts.Fact := ([i], fun vs w => ∃ n p l c, vs = [TV n p l c] ∧ Is w x (TV n p l c))
def bxF (k : Nat) (b : Nat) (x : ID) : Facts.Fact := ([k], fun vs w => ∃ n p l c, vs = [TV n p l c] ∧ Bx w b n p l c ∧ Is w x (TV n p l c))
theorem eqF_get {i : Nat} {v : Value} {x : Nat → Value} {w : World} (h : Facts.holds (eqF i v) x w) : x i = v := by simpa [Facts.holds, eqF] using h
theorem isF_get {i : Nat} {y : ID} {x : Nat → Value} {w : World} (h : Facts.holds (isF i y) x w) : ∃ n p l c, x i = TV n p l c ∧ Is w y (TV n p l c) := by simpa [Facts.holds, isF] using h
theorem bxF_get {k b : Nat} {y : ID} {x : Nat → Value} {w : World} (h : Facts.holds (bxF k b y) x w) : ∃ n p l c, x k = TV n p l c ∧ Bx w b n p l c ∧ Is w y (TV n p l c) := by simpa [Facts.holds, bxF] using h
theorem isF_put {i : Nat} {y : ID} {x : Nat → Value} {w : World} {n : Int} {p : Option Addr} {l c : Nat} (h : Is w y (TV n p l c)) : Facts.holds (isF i y) (Facts.put x i (TV n p l c)) w := ⟨n, p, l, c, by simp [Facts.put, isF], h⟩
def staysF (f : Facts.Fact) : Prop := ∀ vs w w', f.2 vs w → Below w.heap.size w w' → f.2 vs w'
theorem eqF_stays (i : Nat) (v : Value) : staysF (eqF i v) := fun _ _ _ h _ => h
theorem isF_stays (i : Nat) (x : ID) : staysF (isF i x) := fun _ _ _ ⟨n, p, l, c, e, h⟩ hb => ⟨n, p, l, c, e, h.later hb⟩
theorem bxF_stays (k b : Nat) (x : ID) : staysF (bxF k b x) := fun _ _ _ ⟨n, p, l, c, e, h, h'⟩ hb => ⟨n, p, l, c, e, h.later hb, h'.later hb⟩
theorem stay_of {F : List Facts.Fact} (h : ∀ f ∈ F, staysF f) : Facts.Stay F := fun _ f hj => h f (List.mem_of_getElem? hj)
/-- Facts that stay when a box is written. -/
def boxF (f : Facts.Fact) (q : Nat) : Prop := ∀ vs w n p l c, f.2 vs w → (∃ n p l c, Bx w q n p l c) → f.2 vs (w.setRow q #[.int .i64 n, .slice p l c])
theorem eqF_box (i : Nat) (v : Value) (q : Nat) : boxF (eqF i v) q := fun _ _ _ _ _ _ h _ => h
theorem isF_box (i : Nat) (x : ID) (q : Nat) : boxF (isF i x) q := fun _ _ _ _ _ _ ⟨n, p, l, c, e, h⟩ ⟨_, _, _, _, hq⟩ => ⟨n, p, l, c, e, h.box hq _⟩
theorem bxF_box (k b : Nat) (x : ID) (q : Nat) (hne : b ≠ q) : boxF (bxF k b x) q := fun _ _ _ _ _ _ ⟨n, p, l, c, e, h, h'⟩ ⟨_, _, _, _, hq⟩ => ⟨n, p, l, c, e, h.rowOther hne _, h'.box hq _⟩
/-- A tree and a number; a new box; what a new box holds. -/
def teF (i : Nat) (x : ID) (r : Int) : Facts.Fact := ([i], fun vs w => ∃ n p l c, vs = [.tuple #[TV n p l c, .int .i64 r]] ∧ Is w x (TV n p l c))
def alF (i N : Nat) : Facts.Fact := ([i], fun vs w => ∃ q n p l c, vs = [.pointer (some ⟨q, 0, none⟩)] ∧ N ≤ q ∧ Bx w q n p l c)
def sbF (m k N : Nat) (x : ID) : Facts.Fact := ([m, k], fun vs w => ∃ q n p l c, vs = [.pointer (some ⟨q, 0, none⟩), TV n p l c] ∧ N ≤ q ∧ Bx w q n p l c ∧ Is w x (TV n p l c))
theorem teF_get {i : Nat} {y : ID} {r : Int} {x : Nat → Value} {w : World} (h : Facts.holds (teF i y r) x w) : ∃ n p l c, x i = .tuple #[TV n p l c, .int .i64 r] ∧ Is w y (TV n p l c) := by simpa [Facts.holds, teF] using h
theorem alF_get {i N : Nat} {x : Nat → Value} {w : World} (h : Facts.holds (alF i N) x w) : ∃ q n p l c, x i = .pointer (some ⟨q, 0, none⟩) ∧ N ≤ q ∧ Bx w q n p l c := by simpa [Facts.holds, alF] using h
theorem sbF_get {m k N : Nat} {y : ID} {x : Nat → Value} {w : World} (h : Facts.holds (sbF m k N y) x w) : ∃ q n p l c, x m = .pointer (some ⟨q, 0, none⟩) ∧ x k = TV n p l c ∧ N ≤ q ∧ Bx w q n p l c ∧ Is w y (TV n p l c) := by
  obtain ⟨q, n, p, l, c, e, h1, h2, h3⟩ := h
  simp only [sbF, List.map_cons, List.map_nil, List.cons.injEq, and_true] at e
  exact ⟨q, n, p, l, c, e.1, e.2, h1, h2, h3⟩
theorem teF_stays (i : Nat) (x : ID) (r : Int) : staysF (teF i x r) := fun _ _ _ ⟨n, p, l, c, e, h⟩ hb => ⟨n, p, l, c, e, h.later hb⟩
theorem alF_stays (i N : Nat) : staysF (alF i N) := fun _ _ _ ⟨q, n, p, l, c, e, hN, h⟩ hb => ⟨q, n, p, l, c, e, hN, h.later hb⟩
theorem sbF_stays (m k N : Nat) (x : ID) : staysF (sbF m k N x) := fun _ _ _ ⟨q, n, p, l, c, e, hN, h, h'⟩ hb => ⟨q, n, p, l, c, e, hN, h.later hb, h'.later hb⟩
theorem teF_box (i : Nat) (x : ID) (r : Int) (q : Nat) : boxF (teF i x r) q := fun _ _ _ _ _ _ ⟨n, p, l, c, e, h⟩ ⟨_, _, _, _, hq⟩ => ⟨n, p, l, c, e, h.box hq _⟩
theorem alF_box (i N q : Nat) : boxF (alF i N) q := fun _ _ n' p' l' c' ⟨q', n, p, l, c, e, hN, h⟩ ⟨_, _, _, _, hq⟩ => by
  by_cases eq : q' = q
  · subst eq; exact ⟨q', n', p', l', c', e, hN, hq.row n' p' l' c'⟩
  · exact ⟨q', n, p, l, c, e, hN, h.rowOther eq _⟩
theorem sbF_box (m k N : Nat) (x : ID) (q : Nat) (hq : q < N) : boxF (sbF m k N x) q := fun _ _ _ _ _ _ ⟨q', n, p, l, c, e, hN, h, h'⟩ ⟨_, _, _, _, hb⟩ => ⟨q', n, p, l, c, e, hN, h.rowOther (by omega) _, h'.box hb _⟩

theorem wp_load_t {op : Oper} {a : Act} {w : World} {K : Act → World → Prop} {Q : Exit → Act → World → Prop} (x : Operand) (ho : op.op = .load 24 x) (b f : Nat) (hx : a.eval x = .pointer (some ⟨b, f, none⟩)) {n : Int} {p : Option Addr} {l c : Nat} (hc : Tat w b f n p l c)
    (h : K (a.put op.dst (TV n p l c)) w) : op.wp Try.prog a w K Q := by
  unfold Oper.wp execOp
  simp only [ho, hx, Sem.run_bind, hc.load, Result.andThen_ok, Sem.run_pure]
  exact h
theorem wp_store_t {op : Oper} {a : Act} {w : World} {K : Act → World → Prop} {Q : Exit → Act → World → Prop} (x y : Operand) (ho : op.op = .store 24 x y) (b : Nat) (n : Int) (p : Option Addr) (l c : Nat) (hx : a.eval x = .pointer (some ⟨b, 0, none⟩)) (hy : a.eval y = TV n p l c) {n0 : Int} {p0 : Option Addr} {l0 c0 : Nat} (hc : Bx w b n0 p0 l0 c0)
    (h : K (a.put op.dst undef) (w.setRow b #[.int .i64 n, .slice p l c])) : op.wp Try.prog a w K Q := by
  unfold Oper.wp execOp
  simp only [ho, hx, hy, Sem.run_bind, hc.store n p l c, Result.andThen_ok, Sem.run_pure]
  exact h

section
variable {Q : Exit → Act → World → Prop} {S : World → Prop} {md : Region.Mode} {A : (Nat → Value) → Act} {F : List Facts.Fact} {i : Nat} {o : Oper}
/-- A tree is loaded. -/
theorem Facts.loadT (hS : Calm.Stays S) (hF : Facts.Stay F) (hA : ∀ x u, (A x).put o.dst u = A (Facts.put x i u)) (u : Operand) (ho : o.op = .load 24 u) {n : Int} {p : Option Addr} {l c : Nat} (hf : F[i]? = some (eqF i (TV n p l c))) {b f : Nat}
    (hx : ∀ x w, S w → (∀ e ∈ o.after, Region.binds md e = true → ∀ f, F[e.on]? = some f → Facts.holds f x w) → (A x).eval u = .pointer (some ⟨b, f, none⟩)) (hc : ∀ w, S w → Tat w b f n p l c) : Facts.StepOk Try.prog md Q S A F i o :=
  Facts.pure hS hF hA hf fun x w hSw hdep => by
    unfold execOp
    simp only [ho, hx x w hSw hdep, Sem.run_bind, (hc w hSw).load, Result.andThen_ok, Sem.run_pure]
/-- A function is called with trees, and answers a tree. -/
theorem Facts.call1T (hS : Calm.Stays S) (hF : Facts.Stay F) (hA : ∀ x u, (A x).put o.dst u = A (Facts.put x i u)) {fn : FuncId} {ts : Array TypeId} {u : Operand} (ho : o.op = .call { callee := .value (.func fn), args := #[u], argTypes := ts }) (hf : Calm.enters Try.prog fn = true) {z : ID} (hz : F[i]? = some (isF i z))
    (h : ∀ x w, S w → (∀ e ∈ o.after, Region.binds md e = true → ∀ f, F[e.on]? = some f → Facts.holds f x w) → Calls Try.prog fn #[(A x).eval u] w (Gives z w)) : Facts.StepOk Try.prog md Q S A F i o :=
  Facts.call (f := fn) hS hF hA fun x w hSw hdep => ⟨#[(A x).eval u], by
    have e : ∀ args, (callFunc fn args).run Try.prog w = .ok (.enter fn args) w := fun args => Calm.enters_run hf args w
    unfold execOp
    simp [ho, go_sem, Act.eval, e], (h x w hSw hdep).mono fun e w' ⟨n, p, l, c, he, hi, hb⟩ => ⟨_, he, hb, fun f hf' => by
      rw [hz] at hf'
      obtain rfl := Option.some.inj hf'
      exact isF_put hi⟩⟩
theorem Facts.call2T (hS : Calm.Stays S) (hF : Facts.Stay F) (hA : ∀ x u, (A x).put o.dst u = A (Facts.put x i u)) {fn : FuncId} {ts : Array TypeId} {u v : Operand} (ho : o.op = .call { callee := .value (.func fn), args := #[u, v], argTypes := ts }) (hf : Calm.enters Try.prog fn = true) {z : ID} (hz : F[i]? = some (isF i z))
    (h : ∀ x w, S w → (∀ e ∈ o.after, Region.binds md e = true → ∀ f, F[e.on]? = some f → Facts.holds f x w) → Calls Try.prog fn #[(A x).eval u, (A x).eval v] w (Gives z w)) : Facts.StepOk Try.prog md Q S A F i o :=
  Facts.call (f := fn) hS hF hA fun x w hSw hdep => ⟨#[(A x).eval u, (A x).eval v], by
    have e : ∀ args, (callFunc fn args).run Try.prog w = .ok (.enter fn args) w := fun args => Calm.enters_run hf args w
    unfold execOp
    simp [ho, go_sem, Act.eval, e], (h x w hSw hdep).mono fun e w' ⟨n, p, l, c, he, hi, hb⟩ => ⟨_, he, hb, fun f hf' => by
      rw [hz] at hf'
      obtain rfl := Option.some.inj hf'
      exact isF_put hi⟩⟩
/-- A tree that operation k came to is stored in the box b. -/
theorem Facts.storeT (hA : ∀ x u, (A x).put o.dst u = A (Facts.put x i u)) (u v : Operand) (ho : o.op = .store 24 u v) {k b : Nat} {z : ID} (hki : k ≠ i) (hz : F[i]? = some (bxF k b z))
    (hx : ∀ x, (A x).eval u = .pointer (some ⟨b, 0, none⟩)) (hy : ∀ x, (A x).eval v = x k) (hk : ∀ x w, S w → (∀ e ∈ o.after, Region.binds md e = true → ∀ f, F[e.on]? = some f → Facts.holds f x w) → ∃ n p l c, x k = TV n p l c ∧ Is w z (TV n p l c))
    (hb : ∀ w, S w → (∃ n p l c, Bx w b n p l c) ∧ ∀ n p l c, S (w.setRow b #[.int .i64 n, .slice p l c])) (hoth : ∀ (j : Nat) (f : Facts.Fact), j ≠ i → F[j]? = some f → boxF f b) : Facts.StepOk Try.prog md Q S A F i o := by
  intro x w hSw hdep
  obtain ⟨n, p, l, c, e, hi⟩ := hk x w hSw hdep
  obtain ⟨⟨n0, p0, l0, c0, hbx⟩, hS'⟩ := hb w hSw
  refine wp_store_t u v ho b n p l c (hx x) ((hy x).trans e) hbx ?_
  refine ⟨undef, hA x undef, hS' n p l c, fun f hf' => ?_, fun j f hj hfj hh => hoth j f hj hfj _ _ n p l c hh ⟨_, _, _, _, hbx⟩⟩
  rw [hz] at hf'
  obtain rfl := Option.some.inj hf'
  exact ⟨n, p, l, c, by simp [Facts.put, bxF, hki, e], hbx.row n p l c, hi.box hbx _⟩
/-- A function is called with two trees, and answers a tree and a number. -/
theorem Facts.call2E (hS : Calm.Stays S) (hF : Facts.Stay F) (hA : ∀ x u, (A x).put o.dst u = A (Facts.put x i u)) {fn : FuncId} {ts : Array TypeId} {u v : Operand} (ho : o.op = .call { callee := .value (.func fn), args := #[u, v], argTypes := ts }) (hf : Calm.enters Try.prog fn = true) {z : ID} {r : Int} (hz : F[i]? = some (teF i z r))
    (h : ∀ x w, S w → (∀ e ∈ o.after, Region.binds md e = true → ∀ f, F[e.on]? = some f → Facts.holds f x w) → Calls Try.prog fn #[(A x).eval u, (A x).eval v] w fun e w' => ∃ n p l c, e = .returned (.tuple #[TV n p l c, .int .i64 r]) ∧ Is w' z (TV n p l c) ∧ Below w.heap.size w w') : Facts.StepOk Try.prog md Q S A F i o :=
  Facts.call (f := fn) hS hF hA fun x w hSw hdep => ⟨#[(A x).eval u, (A x).eval v], by
    have e : ∀ args, (callFunc fn args).run Try.prog w = .ok (.enter fn args) w := fun args => Calm.enters_run hf args w
    unfold execOp
    simp [ho, go_sem, Act.eval, e], (h x w hSw hdep).mono fun e w' ⟨n, p, l, c, he, hi, hb⟩ => ⟨_, he, hb, fun f hf' => by
      rw [hz] at hf'
      obtain rfl := Option.some.inj hf'
      exact ⟨n, p, l, c, by simp [Facts.put, teF], hi⟩⟩⟩
/-- A tree and a number are handed on; the tree is taken out. -/
theorem Facts.moveE (hS : Calm.Stays S) (hF : Facts.Stay F) (hA : ∀ x u, (A x).put o.dst u = A (Facts.put x i u)) {u : Operand} (ho : o.op = .move u) {k : Nat} {z : ID} {r : Int} (hz : F[i]? = some (teF i z r)) (hu : ∀ x, (A x).eval u = x k)
    (h : ∀ x w, S w → (∀ e ∈ o.after, Region.binds md e = true → ∀ f, F[e.on]? = some f → Facts.holds f x w) → Facts.holds (teF k z r) x w) : Facts.StepOk Try.prog md Q S A F i o :=
  Facts.step hS hF hA fun x w hSw hdep => by
    obtain ⟨n, p, l, c, e, hi⟩ := teF_get (h x w hSw hdep)
    unfold Oper.wp execOp
    simp only [ho, hu x, e, Sem.run_pure]
    refine ⟨_, rfl, Below.refl _ _, fun f hf' => ?_⟩
    rw [hz] at hf'
    obtain rfl := Option.some.inj hf'
    exact ⟨n, p, l, c, by simp [Facts.put, teF], hi⟩
theorem Facts.fstE (hS : Calm.Stays S) (hF : Facts.Stay F) (hA : ∀ x u, (A x).put o.dst u = A (Facts.put x i u)) {u : Operand} (ho : o.op = .extract u 0) {k : Nat} {z : ID} {r : Int} (hz : F[i]? = some (isF i z)) (hu : ∀ x, (A x).eval u = x k)
    (h : ∀ x w, S w → (∀ e ∈ o.after, Region.binds md e = true → ∀ f, F[e.on]? = some f → Facts.holds f x w) → Facts.holds (teF k z r) x w) : Facts.StepOk Try.prog md Q S A F i o :=
  Facts.step hS hF hA fun x w hSw hdep => by
    obtain ⟨n, p, l, c, e, hi⟩ := teF_get (h x w hSw hdep)
    have hr : (execOp (A x).eval o).run Try.prog w = .ok (.value (TV n p l c)) w := by
      have hv := (hu x).trans e
      generalize (A x).eval = ρ at hv
      unfold execOp
      simp [ho, hv, go_sem]
    unfold Oper.wp
    rw [hr]
    refine ⟨_, rfl, Below.refl _ _, fun f hf' => ?_⟩
    rw [hz] at hf'
    obtain rfl := Option.some.inj hf'
    exact isF_put hi
theorem Facts.sndE (hS : Calm.Stays S) (hF : Facts.Stay F) (hA : ∀ x u, (A x).put o.dst u = A (Facts.put x i u)) {u : Operand} (ho : o.op = .extract u 1) {k : Nat} {z : ID} {r : Int} (hz : F[i]? = some (eqF i (.int .i64 r))) (hu : ∀ x, (A x).eval u = x k)
    (h : ∀ x w, S w → (∀ e ∈ o.after, Region.binds md e = true → ∀ f, F[e.on]? = some f → Facts.holds f x w) → Facts.holds (teF k z r) x w) : Facts.StepOk Try.prog md Q S A F i o :=
  Facts.pure hS hF hA hz fun x w hSw hdep => by
    obtain ⟨n, p, l, c, e, hi⟩ := teF_get (h x w hSw hdep)
    have hv := (hu x).trans e
    generalize (A x).eval = ρ at hv
    unfold execOp
    simp [ho, hv, go_sem]
/-- A new box. -/
theorem Facts.allocT (hS : Calm.Stays S) (hF : Facts.Stay F) (hA : ∀ x u, (A x).put o.dst u = A (Facts.put x i u)) (ho : o.op = .alloc 24) {N : Nat} (hz : F[i]? = some (alF i N)) (hN : ∀ w, S w → N ≤ w.heap.size) : Facts.StepOk Try.prog md Q S A F i o :=
  Facts.step hS hF hA fun x w hSw hdep => by
    have hr : (execOp (A x).eval o).run Try.prog w = .ok (.value (.pointer (some ⟨w.heap.size, 0, none⟩))) (w.alloc (.cells #[.int .i64 0, .slice none 0 0] 24)) := by
      unfold execOp
      generalize (A x).eval = ρ
      simp [ho, go_sem]
    unfold Oper.wp
    rw [hr]
    refine ⟨_, rfl, (Below.refl _ _).alloc (Nat.le_refl _) _, fun f hf' => ?_⟩
    rw [hz] at hf'
    obtain rfl := Option.some.inj hf'
    exact ⟨w.heap.size, 0, none, 0, 0, by simp [Facts.put, alF], hN w hSw, bx_new w 0 none 0 0⟩
/-- A tree that operation k came to is stored in the new box that operation m made. -/
theorem Facts.storeP (hA : ∀ x u, (A x).put o.dst u = A (Facts.put x i u)) (u v : Operand) (ho : o.op = .store 24 u v) {m k N : Nat} {z : ID} (hmi : m ≠ i) (hki : k ≠ i) (hz : F[i]? = some (sbF m k N z))
    (hx : ∀ x, (A x).eval u = x m) (hy : ∀ x, (A x).eval v = x k) (hm : ∀ x w, S w → (∀ e ∈ o.after, Region.binds md e = true → ∀ f, F[e.on]? = some f → Facts.holds f x w) → Facts.holds (alF m N) x w ∧ Facts.holds (isF k z) x w)
    (hb : ∀ w q n p l c n' p' l' c', S w → N ≤ q → Bx w q n' p' l' c' → S (w.setRow q #[.int .i64 n, .slice p l c])) (hoth : ∀ (j : Nat) (f : Facts.Fact), j ≠ i → F[j]? = some f → ∀ q, N ≤ q → boxF f q) : Facts.StepOk Try.prog md Q S A F i o := by
  intro x w hSw hdep
  obtain ⟨h1, h2⟩ := hm x w hSw hdep
  obtain ⟨q, n0, p0, l0, c0, eq, hq, hbx⟩ := alF_get h1
  obtain ⟨n, p, l, c, e, hi⟩ := isF_get h2
  refine wp_store_t u v ho q n p l c ((hx x).trans eq) ((hy x).trans e) hbx ?_
  refine ⟨undef, hA x undef, hb w q n p l c _ _ _ _ hSw hq hbx, fun f hf' => ?_, fun j f hj hfj hh => hoth j f hj hfj q hq _ _ n p l c hh ⟨_, _, _, _, hbx⟩⟩
  rw [hz] at hf'
  obtain rfl := Option.some.inj hf'
  exact ⟨q, n, p, l, c, by simp [Facts.put, sbF, hki, hmi, e, eq], hq, hbx.row n p l c, hi.box hbx _⟩
end
end Go.Proofs.Ytmcajjdijjcpkaa.Idn
/- The functions shorten and Norm of package idtree. -/
namespace Go.Proofs.Ytmcajjdijjcpkaa.Idn
open Go.RowKit

set_option maxHeartbeats 2000000 in
set_option maxRecDepth 100000 in
theorem shorten_any : ∀ (x : ID) (n : Int) (p : Option Addr) (l c : Nat) (w : World), Is w x (TV n p l c) → Calls Try.prog 89 #[TV n p l c] w (Gives (norm x) w)
  | ⟨.inl b⟩, n, p, l, c, w, h => by
    obtain ⟨p', c', e⟩ := h
    simp at e
    obtain ⟨rfl, rfl, rfl, rfl⟩ := e
    obtain ⟨h1, h2, hbel⟩ := two_box w (bi b) p 0 c 0 none 0 0 _ rfl
    go_enter Try.func89, Try.ntmps89
    go_wp2_with (refine load_t _ rfl rfl _ _ rfl h1.tat ?_)
    refine (isLeaf_any _ p 0 c _).mono ?_
    rintro e w1 ⟨rfl, hb1⟩
    replace h1 := (h1.later hb1).cell0
    replace h2 := h2.later hb1
    replace hbel := below_on hbel hb1
    clear hb1
    go_wp2_with fail
    refine (leaf_any _ _).mono ?_
    rintro e w2 ⟨rfl, hb1⟩
    replace h2 := h2.later hb1
    replace hbel := below_on hbel hb1
    clear hb1 h1
    have R := below_setRow hbel (g := w.heap.size + 1) (by omega) #[.int .i64 (bi b), .slice none 0 0]
    go_wp2_with (refine store_t rfl _ _ rfl _ (bi b) none 0 0 rfl rfl h2 ?_)
    exact bodyPost_ret (results_t rfl rfl (h2.row _ _ _ _)) rfl ⟨_, _, _, _, rfl, is_leaf _ _ _ _, R⟩
  | ⟨.inr (x, y)⟩, n, p, l, c, w, ⟨g, o, c', n0, p0, l0, c0, n1, p1, l1, c1, e, t0, t1, hx, hy⟩ => by
    simp at e
    obtain ⟨rfl, rfl, rfl, rfl⟩ := e
    obtain ⟨h1, h2, hbel⟩ := two_box w 0 (some ⟨g, o, none⟩) 2 c 0 none 0 0 _ rfl
    have r0 := fun w1 (hb : Below w.heap.size w w1) => shorten_any x n0 p0 l0 c0 w1 (hx.later hb)
    have r1 := fun w1 (hb : Below w.heap.size w w1) => shorten_any y n1 p1 l1 c1 w1 (hy.later hb)
    obtain ⟨z, HZ⟩ : ∃ z, Hid (norm (.node x y) = z) := ⟨_, rfl⟩
    rw [HZ.out]
    unfold norm at HZ
    generalize norm x = x' at r0 HZ
    generalize norm y = y' at r1 HZ
    clear hx hy
    go_enter Try.func89, Try.ntmps89
    go_wp2_with (refine load_t _ rfl rfl _ _ rfl h1.tat ?_)
    refine (isLeaf_any _ _ 2 c _).mono ?_
    rintro e w1 ⟨rfl, hb1⟩
    replace h1 := h1.later hb1
    replace h2 := h2.later hb1
    replace hbel := below_on hbel hb1
    clear hb1
    go_wp2_with fail
    have hS : Calm.Stays (fun w' => Bx w' w.heap.size 0 (some ⟨g, o, none⟩) 2 c ∧ (∃ n p l c, Bx w' (w.heap.size + 1) n p l c) ∧ Below w.heap.size w w') := fun wa wb h hb => ⟨h.1.later hb, (by obtain ⟨n, p, l, c, h2⟩ := h.2.1; exact ⟨n, p, l, c, h2.later hb⟩), below_on h.2.2 hb⟩
    have hF : Facts.Stay [eqF 0 (.pointer (some ⟨w.heap.size, 1, none⟩)), eqF 1 (.slice (some ⟨g, o, none⟩) 2 c), eqF 2 (.pointer (some ⟨g, o, none⟩)), eqF 3 (TV n0 p0 l0 c0), isF 4 x', eqF 5 (.pointer (some ⟨w.heap.size, 1, none⟩)), eqF 6 (.slice (some ⟨g, o, none⟩) 2 c), eqF 7 (.pointer (some ⟨g, o + 2, none⟩)), eqF 8 (TV n1 p1 l1 c1), isF 9 y', isF 10 z, bxF 10 (w.heap.size + 1) z] := stay_of (by simp only [List.forall_mem_cons]; exact ⟨eqF_stays _ _, eqF_stays _ _, eqF_stays _ _, eqF_stays _ _, isF_stays _ _, eqF_stays _ _, eqF_stays _ _, eqF_stays _ _, eqF_stays _ _, isF_stays _ _, isF_stays _ _, bxF_stays _ _ _, fun _ h => by cases h⟩)
    refine Facts.region (by kernel_rfl) (by kernel_rfl) (fun w' => Bx w' w.heap.size 0 (some ⟨g, o, none⟩) 2 c ∧ (∃ n p l c, Bx w' (w.heap.size + 1) n p l c) ∧ Below w.heap.size w w') (fun x => { tmps := #[TV 0 (some ⟨g, o, none⟩) 2 c, .pointer (some ⟨w.heap.size, 0, none⟩), .pointer (some ⟨w.heap.size + 1, 0, none⟩), TV 0 (some ⟨g, o, none⟩) 2 c, .bool false, undef, undef, undef, x 0, x 1, x 2, x 3, x 4, x 5, x 6, x 7, x 8, x 9, x 10], defers := [] }) [eqF 0 (.pointer (some ⟨w.heap.size, 1, none⟩)), eqF 1 (.slice (some ⟨g, o, none⟩) 2 c), eqF 2 (.pointer (some ⟨g, o, none⟩)), eqF 3 (TV n0 p0 l0 c0), isF 4 x', eqF 5 (.pointer (some ⟨w.heap.size, 1, none⟩)), eqF 6 (.slice (some ⟨g, o, none⟩) 2 c), eqF 7 (.pointer (some ⟨g, o + 2, none⟩)), eqF 8 (TV n1 p1 l1 c1), isF 9 y', isF 10 z, bxF 10 (w.heap.size + 1) z] _ rfl (by kernel_rfl) (fun _ => undef) rfl (⟨h1, ⟨_, _, _, _, h2⟩, hbel.drew⟩) ⟨?_, ?_, ?_, ?_, ?_, ?_, ?_, ?_, ?_, ?_, ?_, ?_, trivial⟩ ?_
    · exact Facts.pure hS hF (fun _ _ => rfl) rfl (fun x wv hSw hd => by
        go_simp)
    · exact Facts.pure hS hF (fun _ _ => rfl) rfl (fun x wv hSw hd => by
        have d0 := eqF_get (hd ⟨0, .data⟩ (by simp) rfl _ rfl)
        have g1 := hSw.1.cell1
        simp only [d0]
        go_simp)
    · exact Facts.pure hS hF (fun _ _ => rfl) rfl (fun x wv hSw hd => by
        have d1 := eqF_get (hd ⟨1, .data⟩ (by simp) rfl _ rfl)
        simp only [d1]
        go_simp)
    · exact Facts.loadT hS hF (fun _ _ => rfl) _ rfl rfl (fun x wv hSw hd => by have d2 := eqF_get (hd ⟨2, .data⟩ (by simp) rfl _ rfl); exact d2) (fun wv hSw => t0.later hSw.2.2)
    · refine Facts.call1T hS hF (fun _ _ => rfl) rfl (by kernel_rfl) rfl (fun x wv hSw hd => ?_)
      have d3 := eqF_get (hd ⟨3, .data⟩ (by simp) rfl _ rfl)
      have hc := r0 _ hSw.2.2
      rw [← d3] at hc
      exact hc
    · exact Facts.pure hS hF (fun _ _ => rfl) rfl (fun x wv hSw hd => by
        go_simp)
    · exact Facts.pure hS hF (fun _ _ => rfl) rfl (fun x wv hSw hd => by
        have d5 := eqF_get (hd ⟨5, .data⟩ (by simp) rfl _ rfl)
        have g1 := hSw.1.cell1
        simp only [d5]
        go_simp)
    · exact Facts.pure hS hF (fun _ _ => rfl) rfl (fun x wv hSw hd => by
        have d6 := eqF_get (hd ⟨6, .data⟩ (by simp) rfl _ rfl)
        simp only [d6]
        go_simp)
    · exact Facts.loadT hS hF (fun _ _ => rfl) _ rfl rfl (fun x wv hSw hd => by have d7 := eqF_get (hd ⟨7, .data⟩ (by simp) rfl _ rfl); exact d7) (fun wv hSw => t1.later hSw.2.2)
    · refine Facts.call1T hS hF (fun _ _ => rfl) rfl (by kernel_rfl) rfl (fun x wv hSw hd => ?_)
      have d8 := eqF_get (hd ⟨8, .data⟩ (by simp) rfl _ rfl)
      have hc := r1 _ hSw.2.2
      rw [← d8] at hc
      exact hc
    · refine Facts.call2T hS hF (fun _ _ => rfl) rfl (by kernel_rfl) rfl (fun x wv hSw hd => ?_)
      obtain ⟨n4i, p4i, l4i, c4i, d4, e4⟩ := isF_get (hd ⟨4, .data⟩ (by simp) rfl _ rfl)
      obtain ⟨n9i, p9i, l9i, c9i, d9, e9⟩ := isF_get (hd ⟨9, .data⟩ (by simp) rfl _ rfl)
      have hc := pair_any x' y' _ _ _ _ _ _ _ _ _ e4 e9
      rw [← d4, ← d9, HZ.out] at hc
      exact hc
    · exact Facts.storeT (fun _ _ => rfl) _ _ rfl (by decide) rfl (fun _ => rfl) (fun _ => rfl) (fun x wv hSw hd => isF_get (hd ⟨10, .data⟩ (by simp) rfl _ rfl)) (fun wv hSw => ⟨hSw.2.1, fun n p l c => ⟨hSw.1.rowOther (by omega) _, (by obtain ⟨_, _, _, _, h⟩ := hSw.2.1; exact ⟨_, _, _, _, h.row n p l c⟩), below_setRow hSw.2.2 (by omega) _⟩⟩) (fun j f hj hfj => by
        match j with
        | 0 => obtain rfl := Option.some.inj hfj; exact eqF_box _ _ _
        | 1 => obtain rfl := Option.some.inj hfj; exact eqF_box _ _ _
        | 2 => obtain rfl := Option.some.inj hfj; exact eqF_box _ _ _
        | 3 => obtain rfl := Option.some.inj hfj; exact eqF_box _ _ _
        | 4 => obtain rfl := Option.some.inj hfj; exact isF_box _ _ _
        | 5 => obtain rfl := Option.some.inj hfj; exact eqF_box _ _ _
        | 6 => obtain rfl := Option.some.inj hfj; exact eqF_box _ _ _
        | 7 => obtain rfl := Option.some.inj hfj; exact eqF_box _ _ _
        | 8 => obtain rfl := Option.some.inj hfj; exact eqF_box _ _ _
        | 9 => obtain rfl := Option.some.inj hfj; exact isF_box _ _ _
        | 10 => obtain rfl := Option.some.inj hfj; exact isF_box _ _ _
        | 11 => exact absurd rfl hj
        | j + 12 => simp at hfj)
    · rintro x w9 ⟨_, _, hbel9⟩ hf
      obtain ⟨n, p, l, c, _, hbx, hi⟩ := bxF_get (hf 11 _ (by decide) rfl)
      go_wp2
      exact bodyPost_ret (results_t rfl rfl hbx) rfl ⟨_, _, _, _, rfl, hi, hbel9⟩

/-- The call answers the tree x, and the number r. -/
abbrev GivesE (x : ID) (r : Int) (w : World) (e : Ending) (w' : World) : Prop := ∃ n p l c, e = .returned (.tuple #[TV n p l c, .int .i64 r]) ∧ Is w' x (TV n p l c) ∧ Below w.heap.size w w'

end Go.Proofs.Ytmcajjdijjcpkaa.Idn
