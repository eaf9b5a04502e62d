import Derived.Test.YtcebchjokmampaaP1
import Derived.Laws.AppendOwnNone
/- Structs by value and in boxes: dots, marks, updates, ops, transactions; loads, stores, comparisons of them. Nothing of one function. -/
namespace Go.Proofs.Ytcebchjokmampaa
open Go.ChangeShapes Go.WideShapes Go.ChangeAt Go.RowKit

/-- The block b is a row of these cells. -/
def Rw (w : World) (b : Nat) (t : TypeId) (cs : Array Value) : Prop := w.heap[b]? = some (.cells cs t)
section
variable {w w' : World} {b : Nat} {t : TypeId} {cs : Array Value}
theorem Rw.lt (h : Rw w b t cs) : b < w.heap.size := (Array.getElem?_eq_some_iff.1 h).1
theorem rw_new (w : World) (t : TypeId) (cs : Array Value) : Rw (w.alloc (.cells cs t)) w.heap.size t cs := heap_alloc_last w _
theorem rw_next (w : World) {b : Nat} (hb : b = w.heap.size) (t : TypeId) (cs : Array Value) : Rw (w.alloc (.cells cs t)) b t cs := by subst hb; exact rw_new w t cs
theorem Rw.later (h : Rw w b t cs) (hb : Below w.heap.size w w') : Rw w' b t cs := (hb.block b h.lt).trans h
theorem Rw.alloc (h : Rw w b t cs) (x : Obj) : Rw (w.alloc x) b t cs := (Below.heap_alloc w x b h.lt).trans h
theorem Rw.row (h : Rw w b t cs) (cs' : Array Value) : Rw (w.setRow b cs') b t cs' := setRow_heap w b _ _ t (0, 0) h
theorem Rw.rowOther (h : Rw w b t cs) {q : Nat} (hne : b ≠ q) (cs' : Array Value) : Rw (w.setRow q cs') b t cs := (setRow_other w q b cs' hne).trans h
theorem Rw.set (h : Rw w b t cs) (i : Nat) (v : Value) : Rw (w.setCell ⟨b, i, none⟩ v) b t (cs.setIfInBounds i v) := by
  rw [setCell_eq_setRow w b i _ t (0, 0) _ h]
  exact h.row _
theorem Rw.setOther (h : Rw w b t cs) {q : Nat} (hne : b ≠ q) (i : Nat) (v : Value) : Rw (w.setCell ⟨q, i, none⟩ v) b t cs := (Below.heap_setCell w _ v b hne).trans h
theorem Rw.cell (h : Rw w b t cs) (i : Nat) : w.cell? ⟨b, i, none⟩ = cs[i]? := cell_of_row _ _ i _ t (0, 0) h
theorem Rw.frozen (h : Rw w b t cs) (i : Nat) : w.frozen? ⟨b, i, none⟩ = false := by
  unfold Rw at h
  simp [World.frozen?, h]
theorem Rw.range (h : Rw w b t cs) (o : Nat) (l : List Value) (hl : ∀ j v, l[j]? = some v → cs[o + j]? = some v) : w.rangeAt b o l := fun j v hv => by
  rw [h.cell]
  exact hl j v hv
theorem Rw.drew (h : Rw w b t cs) : Rw w.drew b t cs := h
theorem Rw.load (h : Rw w b t cs) {d : TypeDesc} (hd : d.isRow = true) (hu : Try.prog.underlying t = some d) (hi : (Try.prog.info? t).map (·.size) = some cs.size) : (loadVar t ⟨b, 0, none⟩).run Try.prog w = .ok (.agg cs) w :=
  run_loadVar_row w b t t _ (0, 0) d h hu (by cases d <;> first | rfl | exact hd) hi
theorem Rw.loadAt (h : Rw w b t cs) {d : TypeDesc} (hd : d.isRow = true) (hu : Try.prog.underlying t = some d) (hi : (Try.prog.info? t).map (·.size) = some cs.size) : (Instr.loadAt t (.pointer (some ⟨b, 0, none⟩))).run Try.prog w = .ok (.agg cs) w := by
  simp only [Instr.loadAt, Instr.sureAddr, Sem.run_bind, Sem.run_pure, Result.andThen_ok, h.load hd hu hi]
theorem Rw.store (h : Rw w b t cs) (cs' : Array Value) (hi : (Try.prog.info? t).map (·.size) = some cs'.size) (ho : cs.size = cs'.size) (h1 : cs'.all (·.oneCell') = true) : (Instr.storeAt t (.pointer (some ⟨b, 0, none⟩)) (.agg cs')).run Try.prog w = .ok () (w.setRow b cs') := by
  simp only [Instr.storeAt, Instr.sureAddr, Sem.run_bind, Sem.run_pure, Result.andThen]
  exact run_storeVar_row w b t t _ _ h hi ho h1
end
theorem cell_later {w w' : World} {b i : Nat} {v : Value} (hb : Below w.heap.size w w') (h : w.cell? ⟨b, i, none⟩ = some v) : w'.cell? ⟨b, i, none⟩ = some v := by
  have hlt : b < w.heap.size := by
    rcases Nat.lt_or_ge b w.heap.size with h' | h'
    · exact h'
    · simp [World.cell?, Array.getElem?_eq_none h'] at h
  rw [World.cell?_of_block (w := w) (hb.block b hlt)]
  exact h

/-- A dot by value, a mark. -/
abbrev D (p s : Int) : Value := .agg #[.int .i64 p, .int .i64 s]
abbrev MV (p s i : Int) : Value := .agg #[.int .i64 p, .int .i64 s, .int .i64 i]
theorem size40 : (Try.prog.info? 40).map (·.size) = some 2 := by kernel_rfl
theorem size55 : (Try.prog.info? 55).map (·.size) = some 3 := by kernel_rfl
theorem size57 : (Try.prog.info? 57).map (·.size) = some 10 := by kernel_rfl
theorem size43 : (Try.prog.info? 43).map (·.size) = some 17 := by kernel_rfl
section
variable {ops : Array Oper} {rest : List Oper} {op : Oper} {a : Act} {w : World} {Q : Exit → Act → World → Prop}
/-- A struct is loaded whole, out of a block or out of its midst. -/
theorem load_m (t : TypeId) (x : Operand) (ho : op.op = .load t x) (hw : Region.wanted op (yielded ops a.tmps) = true) (b o : Nat) (hx : a.eval x = .pointer (some ⟨b, o, none⟩)) {cs : List Value} (hc : w.rangeAt b o cs) {d : TypeDesc} (hu : Try.prog.underlying t = some d) (hd : d.isRow = true) (hi : (Try.prog.info? t).map (·.size) = some cs.length)
    (h : wpList Try.prog ops Q rest (a.put op.dst (.agg cs.toArray)) w) : wpList Try.prog ops Q (op :: rest) a w :=
  BigFrame.wpList_want hw fun _ hK => by
    have h2 := run_loadVar_mid (P := Try.prog) w b o t cs d hc hu hd hi
    unfold Oper.wp execOp
    simp only [ho, hx, Instr.loadAt, Instr.sureAddr, Sem.run_bind, Sem.run_pure, h2, Result.andThen_ok]
    exact hK _ _ h
theorem load_r (t : TypeId) (x : Operand) (ho : op.op = .load t x) (hw : Region.wanted op (yielded ops a.tmps) = true) (b : Nat) (hx : a.eval x = .pointer (some ⟨b, 0, none⟩)) {cs : Array Value} (hc : Rw w b t cs) {d : TypeDesc} (hu : Try.prog.underlying t = some d) (hd : d.isRow = true) (hi : (Try.prog.info? t).map (·.size) = some cs.size)
    (h : wpList Try.prog ops Q rest (a.put op.dst (.agg cs)) w) : wpList Try.prog ops Q (op :: rest) a w :=
  BigFrame.wpList_want hw fun _ hK => by
    unfold Oper.wp execOp
    simp only [ho, hx, Sem.run_bind, hc.loadAt hd hu hi, Result.andThen_ok, Sem.run_pure]
    exact hK _ _ h
theorem store_r (hgd : op.guard = none) (t : TypeId) (x y : Operand) (ho : op.op = .store t x y) (b : Nat) (cs' : Array Value) (hx : a.eval x = .pointer (some ⟨b, 0, none⟩)) (hy : a.eval y = .agg cs') {cs : Array Value} (hc : Rw w b t cs) (hi : (Try.prog.info? t).map (·.size) = some cs'.size) (hs : cs.size = cs'.size) (h1 : cs'.all (·.oneCell') = true)
    (h : wpList Try.prog ops Q rest (a.put op.dst undef) (w.setRow b cs')) : wpList Try.prog ops Q (op :: rest) a w :=
  wpList_plain hgd fun _ hK => by
    unfold Oper.wp execOp
    simp only [ho, hx, hy, Sem.run_bind, hc.store cs' hi hs h1, Result.andThen_ok, Sem.run_pure]
    exact hK _ _ h
end

/-- Results that lie in boxes. -/
theorem results_r {fn : Func} {t : Tmp} {ty : TypeId} (h : fn.results = #[.cell t ty]) {tmps : Array Value} {w : World} {b : Nat} {cs : Array Value} {d : TypeDesc} (hp : tmps.getD t undef = .pointer (some ⟨b, 0, none⟩)) (hc : Rw w b ty cs)
    (hd : d.isRow = true) (hu : Try.prog.underlying ty = some d) (hi : (Try.prog.info? ty).map (·.size) = some cs.size) : (results fn tmps).run Try.prog w = .ok (.agg cs) w := by
  have h2 := hc.load hd hu hi
  unfold results
  rw [h]
  simp only [List.mapM_toArray, List.mapM_cons, List.mapM_nil, hp, asAddr]
  simp [h2]
theorem results_rt {fn : Func} {t u : Tmp} {ty : TypeId} (h : fn.results = #[.cell t ty, .tmp u]) {tmps : Array Value} {w : World} {b : Nat} {cs : Array Value} {d : TypeDesc} (hp : tmps.getD t undef = .pointer (some ⟨b, 0, none⟩)) (hc : Rw w b ty cs)
    (hd : d.isRow = true) (hu : Try.prog.underlying ty = some d) (hi : (Try.prog.info? ty).map (·.size) = some cs.size) : (results fn tmps).run Try.prog w = .ok (.tuple #[.agg cs, tmps.getD u undef]) w := by
  have h2 := hc.load hd hu hi
  unfold results
  rw [h]
  simp only [List.mapM_toArray, List.mapM_cons, List.mapM_nil, hp, asAddr]
  simp [h2]
end Go.Proofs.Ytcebchjokmampaa
/- The small functions of package ops. -/
namespace Go.Proofs.Ytcebchjokmampaa
open Go.RowKit

/-- What a function tells, the memory that was there left alone. -/
abbrev Tells (v : Value) (w : World) : Ending → World → Prop := fun e w' => e = .returned v ∧ Below w.heap.size w w'
/-- Between two others, or one of them. -/
def wi (n lo hi : Int) : Bool := decide (lo ≤ n) && decide (n ≤ hi)
theorem bel_alloc {w w1 : World} (h : Below w.heap.size w w1) (o : Obj) : Below w.heap.size w (w1.alloc o) := h.alloc h.size o

theorem tells_bool {x y : Bool} {w w' : World} (h : x = y) (hb : Below w.heap.size w w') : Tells (.bool y) w (.returned (.bool x)) w' := ⟨by rw [h], hb⟩
theorem tells_ub {u v : Value} {x y : Bool} {w w' : World} (hu : u = v) (h : x = y) (hb : Below w.heap.size w w') : Tells (.tuple #[v, .bool y]) w (.returned (.tuple #[u, .bool x])) w' := ⟨by rw [hu, h], hb⟩
/-- The empty text. -/
abbrev noS : ByteArray := ⟨#[]⟩
theorem tl_eq (a b : ByteArray) : a.toList = b.toList ↔ a = b := by
  rw [ByteArray.toList_eq, ByteArray.toList_eq]
  exact ⟨fun h => Go.WideShapes.bytes_inj h, fun h => by rw [h]⟩
theorem tl_nil (a : ByteArray) : a.toList = [] ↔ a = noS := by
  rw [← tl_eq a noS]
  have : (noS).toList = [] := by rw [ByteArray.toList_eq]
  rw [this]
/-- An update, and an op, by value. -/
abbrev UV (k : Int) (key field : ByteArray) (inner act n : Int) (text : ByteArray) (pl : Int) : Value := .agg #[.int .i64 k, .string key, .string field, .int .i64 inner, .int .i64 act, .int .i64 n, .string text, .int .i64 pl]
abbrev OV (k : Int) (key field : ByteArray) (inner act n : Int) (text : ByteArray) (p s i : Int) : Value := .agg #[.int .i64 k, .string key, .string field, .int .i64 inner, .int .i64 act, .int .i64 n, .string text, .int .i64 p, .int .i64 s, .int .i64 i]
set_option maxRecDepth 100000 in
theorem named_any (s : ByteArray) (w : World) : Calls Try.prog 42 #[.string s] w (Tells (.bool (wi s.size 1 64)) w) := by
  unfold wi
  go_enter Try.func42, Try.ntmps42
  go_wp2
  all_goals
    go_ret
    refine tells_bool ?_ ?_
    focus (first | (simp_all; done) | grind)
    repeat refine bel_alloc ?_ _
    exact Below.refl _ _
set_option maxRecDepth 100000 in
theorem isPeer_any (n : Int) (w : World) : Calls Try.prog 18 #[.int .i64 n] w (Tells (.bool (wi n 1 12)) w) := by
  unfold wi
  go_enter Try.func18, Try.ntmps18
  go_wp2
  all_goals
    go_ret
    refine tells_bool ?_ ?_
    focus (first | (simp_all; done) | grind)
    repeat refine bel_alloc ?_ _
    exact Below.refl _ _
set_option maxRecDepth 100000 in
theorem peer_any (n : Int) (w : World) : Calls Try.prog 23 #[.int .i64 n] w (Tells (.bool (wi n 1 12)) w) := by
  unfold wi
  go_enter Try.func23, Try.ntmps23
  go_wp2
  all_goals
    go_ret
    refine tells_bool ?_ ?_
    focus (first | (simp_all; done) | grind)
    repeat refine bel_alloc ?_ _
    exact Below.refl _ _
/-- Zero? -/
def z2 (p s : Int) : Bool := decide (p = 0) && decide (s = 0)
def z3 (p s i : Int) : Bool := decide (p = 0) && decide (s = 0) && decide (i = 0)
set_option maxRecDepth 100000 in
theorem places_any (leaf act : Int) (w : World) : Calls Try.prog 40 #[.int .i64 leaf, .int .i64 act] w (Tells (.bool (decide (leaf = 5) && !decide (act = 5))) w) := by
  go_enter Try.func40, Try.ntmps40
  go_wp2
  all_goals
    go_ret
    refine tells_bool ?_ ?_
    focus (first | (simp_all; done) | grind)
    repeat refine bel_alloc ?_ _
    exact Below.refl _ _
/-- The kind that an act has to fit. -/
def dk (k inner act : Int) : Int := if k = 6 ∧ act ≠ 5 then inner else k
/-- What a function answers, and the world that it leaves, told whole. -/
abbrev Leaves (v : Value) (w1 : World) : Ending → World → Prop := fun e w' => e = .returned v ∧ w' = w1
end Go.Proofs.Ytcebchjokmampaa
/- Transactions by value and in boxes, ops and slices of ops; comparisons of structs. Nothing of one function. -/
namespace Go.Proofs.Ytcebchjokmampaa
open Go.RowKit

theorem eq_dot (w : World) (p s q u : Int) : (Op.equalIn 10000 40 (D p s) (D q u)).run Try.prog w = .ok (decide (p = q) && decide (s = u)) w := by
  by_cases h1 : p = q
  · by_cases h2 : s = u
    · go_simp
    · go_simp
  · go_simp
theorem eq_mark (w : World) (p s i q u j : Int) : (Op.equalIn 10000 55 (MV p s i) (MV q u j)).run Try.prog w = .ok (decide (p = q) && decide (s = u) && decide (i = j)) w := by
  by_cases h1 : p = q
  · by_cases h2 : s = u
    · by_cases h3 : i = j <;> go_simp
    · go_simp
  · go_simp

/-- An op. -/
structure O where
  k : Int
  key : ByteArray
  field : ByteArray
  inner : Int
  act : Int
  n : Int
  text : ByteArray
  p : Int
  s : Int
  i : Int
abbrev O.cells (o : O) : List Value := [.int .i64 o.k, .string o.key, .string o.field, .int .i64 o.inner, .int .i64 o.act, .int .i64 o.n, .string o.text, .int .i64 o.p, .int .i64 o.s, .int .i64 o.i]
abbrev O.val (o : O) : Value := OV o.k o.key o.field o.inner o.act o.n o.text o.p o.s o.i
theorem O.cells_length (o : O) : o.cells.length = 10 := rfl
/-- Two ops are one. -/
def O.eqb (a b : O) : Bool := decide (a.k = b.k) && (decide (a.key = b.key) && (decide (a.field = b.field) && (decide (a.inner = b.inner) && (decide (a.act = b.act) && (decide (a.n = b.n) && (decide (a.text = b.text) && (decide (a.p = b.p) && (decide (a.s = b.s) && decide (a.i = b.i)))))))))
theorem O.eqb_iff (a b : O) : a.eqb b = true ↔ a = b := by
  cases a
  cases b
  simp [O.eqb]
set_option maxHeartbeats 1000000 in
theorem eq_op (w : World) (a b : O) : (Op.equalIn 10000 57 a.val b.val).run Try.prog w = .ok (a.eqb b) w := by
  unfold O.eqb O.val
  cases a with | mk k key field inner act n text p s i =>
  cases b with | mk k' key' field' inner' act' n' text' p' s' i' =>
  simp only
  by_cases h1 : k = k'
  · by_cases h2 : key = key'
    · by_cases h3 : field = field'
      · by_cases h4 : inner = inner'
        · by_cases h5 : act = act'
          · by_cases h6 : n = n'
            · by_cases h7 : text = text'
              · by_cases h8 : p = p'
                · by_cases h9 : s = s'
                  · by_cases h10 : i = i' <;> go_simp
                  · go_simp
                · go_simp
              · have hne := fun h => h7 ((tl_eq text text').1 h)
                go_simp
                exact fun h => absurd h hne
            · go_simp
          · go_simp
        · go_simp
      · have hne := fun h => h3 ((tl_eq field field').1 h)
        go_simp
        exact fun h => absurd h hne
    · have hne := fun h => h2 ((tl_eq key key').1 h)
      go_simp
      exact fun h => absurd h hne
  · go_simp

/-- A transaction's cells. -/
def txc (p s : Int) (v : List Int) (t : Int) (sl : Value) : List Value := .int .i64 p :: .int .i64 s :: (vals v ++ [.int .i64 t, sl])
abbrev TxV (p s : Int) (v : List Int) (t : Int) (sl : Value) : Value := .agg (txc p s v t sl).toArray
section
variable {w w' : World} {b : Nat} {p s : Int} {v : List Int} {t : Int} {sl : Value}
theorem txc_length (hv : v.length = 13) : (txc p s v t sl).length = 17 := by simp [txc, vals, hv]
theorem size_tx (hv : v.length = 13) : (Try.prog.info? 43).map (·.size) = some (txc p s v t sl).toArray.size := by
  rw [List.size_toArray, txc_length hv]
  exact size43
theorem tx_dot (h : Rw w b 43 (txc p s v t sl).toArray) : w.rangeAt b 0 [.int .i64 p, .int .i64 s] := h.range 0 _ fun j u hu => by
  rw [Nat.zero_add]
  match j with
  | 0 => simpa [txc] using hu
  | 1 => simpa [txc] using hu
  | j + 2 => simp at hu
theorem tx_p (h : Rw w b 43 (txc p s v t sl).toArray) : w.cell? ⟨b, 0, none⟩ = some (.int .i64 p) := by rw [h.cell]; simp [txc]
theorem tx_s (h : Rw w b 43 (txc p s v t sl).toArray) : w.cell? ⟨b, 1, none⟩ = some (.int .i64 s) := by rw [h.cell]; simp [txc]
theorem tx_vec (h : Rw w b 43 (txc p s v t sl).toArray) : w.rangeAt b 2 (vals v) := h.range 2 _ fun j u hu => by
  rw [show 2 + j = j + 1 + 1 by omega]
  have hj := (List.getElem?_eq_some_iff.1 hu).1
  simp only [txc, List.getElem?_toArray, List.getElem?_cons_succ]
  rw [List.getElem?_append_left hj]
  exact hu
theorem tx_at (h : Rw w b 43 (txc p s v t sl).toArray) (hv : v.length = 13) (i : Nat) (hi : i < 13) : w.cell? ⟨b, 2 + i, none⟩ = some (.int .i64 (v.getD i 0)) := by
  refine tx_vec h i _ ?_
  simp [vals, List.getElem?_eq_getElem (show i < v.length by omega)]
theorem tx_time (h : Rw w b 43 (txc p s v t sl).toArray) (hv : v.length = 13) : w.cell? ⟨b, 15, none⟩ = some (.int .i64 t) := by
  rw [h.cell]
  simp only [txc, List.getElem?_toArray, List.getElem?_cons_succ]
  rw [List.getElem?_append_right (by simp [vals, hv])]
  simp [vals, hv]
theorem tx_ops (h : Rw w b 43 (txc p s v t sl).toArray) (hv : v.length = 13) : w.cell? ⟨b, 16, none⟩ = some sl := by
  rw [h.cell]
  simp only [txc, List.getElem?_toArray, List.getElem?_cons_succ]
  rw [List.getElem?_append_right (by simp [vals, hv])]
  simp [vals, hv]
end

theorem hid_ex {α : Type} (a : α) : ∃ x, Hid (a = x) := ⟨a, (rfl : a = a)⟩
theorem maxLen_lt {n : Nat} (h : n ≤ maxLen) : (n : Int) ≤ 9223372036854775807 := by
  have : maxLen ≤ 9223372036854775807 := by decide
  omega
/-- A slice that holds these ops. -/
def OHas (w : World) (v : Value) (l : List O) : Prop := ∃ p c, v = .slice p l.length c ∧ l.length ≤ maxLen ∧ (0 < l.length → ∃ g o, p = some ⟨g, o, none⟩ ∧ ∀ i (h : i < l.length), w.rangeAt g (o + i * 10) l[i].cells)
theorem range_later {w w' : World} {b o : Nat} {cs : List Value} (h : w.rangeAt b o cs) (hb : Below w.heap.size w w') : w'.rangeAt b o cs := fun j v hv => cell_later hb (h j v hv)
theorem OHas.later {w w' : World} {v : Value} {l : List O} (h : OHas w v l) (hb : Below w.heap.size w w') : OHas w' v l := by
  obtain ⟨p, c, rfl, hm, hr⟩ := h
  refine ⟨p, c, rfl, hm, fun h0 => ?_⟩
  obtain ⟨g, o, hp, hd⟩ := hr h0
  exact ⟨g, o, hp, fun i hi => range_later (hd i hi) hb⟩
end Go.Proofs.Ytcebchjokmampaa
/- Slices of rows of cells, of whatever width. Nothing of one function. -/
namespace Go.Proofs.Ytcebchjokmampaa
open Go.RowKit

/-- The slice v has n elements of S cells each, which are these. -/
def SHas (S : Nat) (w : World) (v : Value) (n : Nat) (xs : List Value) : Prop :=
  n ≤ maxLen ∧ xs.length = n * S ∧ ((v = .slice none 0 0 ∧ n = 0) ∨ ∃ ad c, v = .slice (some ad) n c ∧ (n ≤ c ∧ c ≤ maxLen) ∧ (0 < n → ∃ g o, ad = ⟨g, o, none⟩ ∧ w.rangeAt g o xs))
section
variable {S n : Nat} {w w' : World} {v : Value} {xs : List Value}
theorem SHas.later (h : SHas S w v n xs) (hb : Below w.heap.size w w') : SHas S w' v n xs := by
  obtain ⟨hm, hl, ⟨rfl, rfl⟩ | ⟨ad, c, rfl, hc, hd⟩⟩ := h
  · exact ⟨hm, hl, .inl ⟨rfl, rfl⟩⟩
  · refine ⟨hm, hl, .inr ⟨ad, c, rfl, hc, fun h => ?_⟩⟩
    obtain ⟨g, o, rfl, hd2⟩ := hd h
    exact ⟨g, o, rfl, range_later hd2 hb⟩
theorem SHas.drew (h : SHas S w v n xs) : SHas S w.drew v n xs := h
theorem SHas.slice (h : SHas S w v n xs) : ∃ p c, v = .slice p n c := by
  obtain ⟨hm, hl, ⟨rfl, rfl⟩ | ⟨ad, c, rfl, hc, hd⟩⟩ := h
  · exact ⟨none, 0, rfl⟩
  · exact ⟨_, _, rfl⟩
theorem SHas.at {p : Option Addr} {c : Nat} (h : SHas S w (.slice p n c) n xs) (hn : 0 < n) : ∃ g o, p = some ⟨g, o, none⟩ ∧ w.rangeAt g o xs := by
  obtain ⟨hm, hl, ⟨h1, rfl⟩ | ⟨ad, c, h1, hc, hd⟩⟩ := h
  · omega
  · obtain ⟨g, o, rfl, hd2⟩ := hd hn
    simp only [Value.slice.injEq] at h1
    exact ⟨g, o, h1.1, hd2⟩
theorem SHas.cap {p : Option Addr} {c : Nat} (h : SHas S w (.slice p n c) n xs) : n ≤ c ∧ c ≤ maxLen := by
  obtain ⟨hm, hl, ⟨h1, rfl⟩ | ⟨ad, c, h1, hc, hd⟩⟩ := h
  · simp only [Value.slice.injEq] at h1
    obtain ⟨_, _, rfl⟩ := h1
    exact ⟨Nat.le_refl _, Nat.zero_le _⟩
  · simp only [Value.slice.injEq] at h1
    obtain ⟨_, _, rfl⟩ := h1
    exact hc
theorem SHas.nil (w : World) (S : Nat) : SHas S w (.slice none 0 0) 0 [] := ⟨Nat.zero_le _, by simp, .inl ⟨rfl, rfl⟩⟩
theorem range_sub {g o : Nat} {ys : List Value} (h : w.rangeAt g o xs) (k : Nat) (hy : ∀ j u, ys[j]? = some u → xs[k + j]? = some u) : w.rangeAt g (o + k) ys := fun j u hu => by
  have := h (k + j) u (hy j u hu)
  rwa [← Nat.add_assoc] at this
end
/-- A row that the call made, as a slice. -/
theorem own_sh {w : World} {B e S n : Nat} {v : Value} {xs : List Value} (h : w.ownsRow B e S v n xs) : SHas S w v n xs := by
  refine ⟨?_, h.1, ?_⟩
  · rcases h.2 with ⟨_, h0⟩ | ⟨g, cap, cur, rfl, hbg, hg, hnc, hcm, hcs, htake⟩
    · omega
    · omega
  · rcases h.2 with ⟨rfl, h0⟩ | ⟨g, cap, cur, rfl, hbg, hg, hnc, hcm, hcs, htake⟩
    · exact .inl ⟨rfl, h0⟩
    · refine .inr ⟨_, cap, rfl, ⟨hnc, hcm⟩, fun _ => ⟨g, 0, rfl, fun j u hu => ?_⟩⟩
      have h1 := h.cells (g := g) rfl j u hu
      rwa [Addr.add_mid] at h1
theorem own_sl {w : World} {B e S n : Nat} {v : Value} {xs : List Value} (h : w.ownsRow B e S v n xs) : ∃ p c, v = .slice p n c := by
  rcases h.2 with ⟨rfl, rfl⟩ | ⟨g, cap, cur, rfl, _⟩
  · exact ⟨none, 0, rfl⟩
  · exact ⟨_, _, rfl⟩
/-- Beyond what was there. -/
def Fr (w : World) (u : Value) : Prop := ∀ a n c, u = .slice (some a) n c → w.heap.size ≤ a.block
theorem own_fr {w w1 : World} {B e S n : Nat} {v : Value} {xs : List Value} (h : w1.ownsRow B e S v n xs) (hB : w.heap.size ≤ B) : Fr w v := by
  intro a m c e
  rcases h.2 with ⟨rfl, _⟩ | ⟨g, cap, cur, rfl, hbg, _⟩
  · simp at e
  · simp only [Value.slice.injEq, Option.some.injEq] at e
    rw [← e.1]
    exact Nat.le_trans hB hbg
theorem Rw.grown {w w' : World} {b : Nat} {t : TypeId} {cs : Array Value} {row : Option Nat} (h : Rw w b t cs) (hg : w.grownBy w' row) (hne : ∀ k, row = some k → b < k) : Rw w' b t cs :=
  (hg.block b h.lt (fun e => by have := hne b e.symm; omega)).trans h
theorem cells_new (w : World) (cs : List Value) (t : TypeId) (j : Nat) : (w.alloc (.cells cs.toArray t)).cell? ((⟨w.heap.size, 0, none⟩ : Addr).add j) = cs[j]? := by
  rw [Addr.add_mid, Nat.zero_add, cell_of_row _ _ j _ t (0, 0) (heap_alloc_last w _)]
  simp
theorem cells_next (w : World) {b : Nat} (hb : b = w.heap.size) (cs : List Value) (t : TypeId) (j : Nat) : (w.alloc (.cells cs.toArray t)).cell? ((⟨b, 0, none⟩ : Addr).add j) = cs[j]? := by subst hb; exact cells_new w cs t j

/-- Rows side by side. -/
def rows {α : Type} (f : α → List Value) (l : List α) : List Value := l.flatMap f
section
variable {α : Type} {f : α → List Value} {S : Nat}
theorem rows_append (a b : List α) : rows f (a ++ b) = rows f a ++ rows f b := by simp [rows]
theorem rows_cons (x : α) (l : List α) : rows f (x :: l) = f x ++ rows f l := rfl
theorem rows_one (x : α) : rows f [x] = f x := by simp [rows]
theorem rows_nil : rows f ([] : List α) = [] := rfl
theorem rows_length (hf : ∀ x, (f x).length = S) (l : List α) : (rows f l).length = l.length * S := by
  induction l with
  | nil => simp [rows]
  | cons d l ih =>
    rw [rows_cons, List.length_append, ih, hf, List.length_cons, Nat.succ_mul]
    omega
theorem rows_at (hf : ∀ x, (f x).length = S) : ∀ (l : List α) (i : Nat) (h : i < l.length) (j : Nat) (u : Value), (f l[i])[j]? = some u → (rows f l)[i * S + j]? = some u
  | x :: l, 0, _, j, u, hu => by
    have hj : j < (f x).length := (List.getElem?_eq_some_iff.1 hu).1
    rw [rows_cons, Nat.zero_mul, Nat.zero_add, List.getElem?_append_left hj]
    exact hu
  | x :: l, i + 1, h, j, u, hu => by
    have := rows_at hf l i (by simpa using h) j u hu
    rw [rows_cons, List.getElem?_append_right (by rw [hf, Nat.succ_mul]; omega), hf, Nat.succ_mul, show i * S + S + j - S = i * S + j by omega]
    exact this
theorem rows_all {p : Value → Prop} (h : ∀ x, ∀ u ∈ f x, p u) (l : List α) : ∀ u ∈ rows f l, p u := by
  intro u hu
  obtain ⟨x, _, hx⟩ := List.mem_flatMap.1 hu
  exact h x u hx
theorem rows_take (hf : ∀ x, (f x).length = S) (l : List α) (k : Nat) : rows f (l.take k) = (rows f l).take (k * S) := by
  induction l generalizing k with
  | nil => simp [rows]
  | cons x l ih =>
    cases k with
    | zero => simp [rows]
    | succ k =>
      rw [List.take_succ_cons, rows_cons, rows_cons, ih, List.take_append, hf, Nat.succ_mul]
      rw [List.take_of_length_le (l := f x) (by rw [hf]; omega)]
      congr 2
      omega
theorem rows_drop (hf : ∀ x, (f x).length = S) (l : List α) (k : Nat) : rows f (l.drop k) = (rows f l).drop (k * S) := by
  induction l generalizing k with
  | nil => simp [rows]
  | cons x l ih =>
    cases k with
    | zero => simp [rows]
    | succ k =>
      rw [List.drop_succ_cons, rows_cons, ih, List.drop_append, hf, Nat.succ_mul]
      rw [List.drop_of_length_le (l := f x) (by rw [hf]; omega), List.nil_append]
      congr 1
      omega
end
end Go.Proofs.Ytcebchjokmampaa
/- Ops of the document's answer: whether two slices hold the same ops. -/
namespace Go.Proofs.Ytcebchjokmampaa
open Go.RowKit

/-- Two rows of ops are one. -/
def leqb : List O → List O → Bool
  | [], [] => true
  | a :: l, b :: m => a.eqb b && leqb l m
  | _, _ => false
theorem leqb_iff : ∀ l m : List O, leqb l m = true ↔ l = m
  | [], [] => by simp [leqb]
  | [], _ :: _ => by simp [leqb]
  | _ :: _, [] => by simp [leqb]
  | a :: l, b :: m => by simp [leqb, leqb_iff l m, O.eqb_iff]
theorem Calm.loadM {ops : Array Oper} {S : World → Prop} {K : Act → Prop} {o : Oper} {l : List Oper} {a : Act} {b f : Nat} {cs : List Value} (t : TypeId) {d : TypeDesc} (hu : Try.prog.underlying t = some d) (hd : d.isRow = true) (hi : (Try.prog.info? t).map (·.size) = some cs.length) (hw : Region.wanted o (yielded ops a.tmps) = true) (x : Operand) (ho : o.op = .load t x)
    (hx : a.eval x = .pointer (some ⟨b, f, none⟩)) (hS : ∀ w, S w → w.rangeAt b f cs) (h : Calm.calmList Try.prog ops S K l (a.put o.dst (.agg cs.toArray))) : Calm.calmList Try.prog ops S K (o :: l) a :=
  Calm.pure hw (fun w hw' => by
    have h2 := run_loadVar_mid (P := Try.prog) w b f t cs d (hS w hw') hu hd hi
    unfold execOp
    simp only [ho, hx, Instr.loadAt, Instr.sureAddr, Sem.run_bind, Sem.run_pure, h2, Result.andThen_ok]) h

set_option maxHeartbeats 2000000 in
set_option maxRecDepth 100000 in
theorem opsEq_any (v1 v2 : Value) (l m : List O) (w : World) (h1 : OHas w v1 l) (h2 : OHas w v2 m) :
    Calls Try.prog 33 #[v1, v2] w (Tells (.bool (leqb l m)) w) := by
  obtain ⟨z, HZ⟩ : ∃ z, Hid (leqb l m = z) := ⟨_, rfl⟩
  rw [HZ.out]
  obtain ⟨p1, c1, rfl, hm1, hr1⟩ := h1
  obtain ⟨p2, c2, rfl, hm2, hr2⟩ := h2
  have HR1 : Hid (0 < l.length → ∃ g o, p1 = some ⟨g, o, none⟩ ∧ ∀ i (h : i < l.length), w.rangeAt g (o + i * 10) l[i].cells) := hr1
  have HR2 : Hid (0 < m.length → ∃ g o, p2 = some ⟨g, o, none⟩ ∧ ∀ i (h : i < m.length), w.rangeAt g (o + i * 10) m[i].cells) := hr2
  clear hr1 hr2
  have hml := maxLen_lt hm1
  clear hm1 hm2
  by_cases hlen : l.length = m.length
  · have hlen' : (l.length : Int) = (m.length : Int) := by omega
    have HL : Hid (l.length = m.length) := hlen
    rw [← hlen]
    clear hlen hlen'
    go_enter Try.func33, Try.ntmps33
    go_wp2
    go_loopw [5] (fun vi wr => ∃ k : Nat, vi = .int .i64 k ∧ k ≤ l.length ∧ Hid (∀ i (h : i < l.length) (h' : i < m.length), i < k → l[i] = m[i]) ∧ Below w.heap.size w wr) (fun vi _ => l.length - (intOf vi).toNat)
    case atStart => exact ⟨0, rfl, by omega, (show ∀ i (_ : i < l.length) (_ : i < m.length), i < 0 → _ from fun i _ _ h => by omega), Below.refl _ _⟩
    case round =>
      obtain ⟨k, rfl, hk, HV, hbel⟩ := hrel
      by_cases hlt : k < l.length
      · have hlt' : (k : Int) < (l.length : Int) := by omega
        have hltm : k < m.length := by have := HL.out; omega
        obtain ⟨g1, o1, rfl, hd1⟩ := HR1.out (by omega)
        obtain ⟨g2, o2, rfl, hd2⟩ := HR2.out (by omega)
        have d1 := range_later (hd1 k hlt) hbel
        have d2 := range_later (hd2 k hltm) hbel
        obtain ⟨x, HX⟩ := hid_ex l[k]
        obtain ⟨y, HY⟩ := hid_ex m[k]
        rw [HX.out] at d1
        rw [HY.out] at d2
        clear HR1 HR2 hd1 hd2
        have E := fun w => eq_op w x y
        have E2 := O.eqb_iff x y
        generalize O.eqb x y = r at E E2
        have HE : Hid (r = true ↔ x = y) := E2
        have z1 : (Try.prog.info? 57).map (·.size) = some x.cells.length := size57
        have z2 : (Try.prog.info? 57).map (·.size) = some y.cells.length := size57
        clear E2
        cases r
        all_goals
          go_wp2
          refine Calm.region (by kernel_rfl) (by kernel_rfl) (fun w' => w'.rangeAt g1 (o1 + k * 10) x.cells ∧ w'.rangeAt g2 (o2 + k * 10) y.cells ∧ Below w.heap.size w w') ⟨d1, d2, hbel.drew⟩ ?_
        all_goals
          refine Calm.pure (v := ?_) (by rfl) ?_ ?_
          rotate_left
          focus (intro w hSw; go_simp <;> rfl)
          simp only [Act.put, List.setIfInBounds_toArray, List.set_cons_zero, List.set_cons_succ]
        all_goals
          refine Calm.pure (v := ?_) (by rfl) ?_ ?_
          rotate_left
          focus (intro w hSw; go_simp <;> rfl)
          simp only [Act.put, List.setIfInBounds_toArray, List.set_cons_zero, List.set_cons_succ]
        all_goals
          refine Calm.pure (v := ?_) (by rfl) ?_ ?_
          rotate_left
          focus (intro w hSw; go_simp <;> rfl)
          simp only [Act.put, List.setIfInBounds_toArray, List.set_cons_zero, List.set_cons_succ]
        all_goals
          refine Calm.loadM 57 Try.underlying57 rfl z1 (by rfl) _ rfl rfl (fun _ h => h.1) ?_
          simp only [Act.put, List.setIfInBounds_toArray, List.set_cons_zero, List.set_cons_succ]
        all_goals
          refine Calm.pure (v := ?_) (by rfl) ?_ ?_
          rotate_left
          focus (intro w hSw; go_simp <;> rfl)
          simp only [Act.put, List.setIfInBounds_toArray, List.set_cons_zero, List.set_cons_succ]
        all_goals
          refine Calm.pure (v := ?_) (by rfl) ?_ ?_
          rotate_left
          focus (intro w hSw; go_simp <;> rfl)
          simp only [Act.put, List.setIfInBounds_toArray, List.set_cons_zero, List.set_cons_succ]
        all_goals
          refine Calm.pure (v := ?_) (by rfl) ?_ ?_
          rotate_left
          focus (intro w hSw; go_simp <;> rfl)
          simp only [Act.put, List.setIfInBounds_toArray, List.set_cons_zero, List.set_cons_succ]
        all_goals
          refine Calm.loadM 57 Try.underlying57 rfl z2 (by rfl) _ rfl rfl (fun _ h => h.2.1) ?_
          simp only [Act.put, List.setIfInBounds_toArray, List.set_cons_zero, List.set_cons_succ]
        all_goals
          refine Calm.pure (v := ?_) (by rfl) ?_ ?_
          rotate_left
          focus (intro w hSw; go_simp <;> rfl)
          simp only [Act.put, List.setIfInBounds_toArray, List.set_cons_zero, List.set_cons_succ]
        all_goals
          rintro w9 ⟨_, _, hbel9⟩
        · have HF : Hid (z = false) := by
            show z = false
            have hz := HZ.out
            cases e : z
            · rfl
            · exfalso
              rw [e, leqb_iff] at hz
              have : x = y := by rw [← HX.out, ← HY.out]; simp only [hz]
              have := HE.out.2 this
              cases this
          clear HV HE HX HY HZ HL E
          go_wp2
          go_ret
          exact ⟨by rw [HF.out]; rfl, hbel9⟩
        · have HV2 : Hid (∀ i (h : i < l.length) (h' : i < m.length), i < k + 1 → l[i] = m[i]) := by
            show ∀ i (h : i < l.length) (h' : i < m.length), i < k + 1 → l[i] = m[i]
            intro i h h' hi
            by_cases hik : i = k
            · subst hik
              rw [HX.out, HY.out]
              exact HE.out.1 trivial
            · exact HV.out i h h' (by omega)
          clear HV HE HX HY HZ HL E
          go_wp2
          go_roundw
          case rel => exact ⟨k + 1, by simp, by omega, HV2, hbel9⟩
          case measure => simp [intOf]; omega
      · have hk : k = l.length := by omega
        subst hk
        have HT : Hid (z = true) := by
          show z = true
          rw [← HZ.out, leqb_iff]
          exact List.ext_getElem HL.out fun i h h' => HV.out i h h' h
        clear HR1 HR2 HV HZ HL
        go_wp2
        go_ret
        exact ⟨by rw [HT.out]; rfl, hbel⟩
  · have hlen' : ¬ (l.length : Int) = (m.length : Int) := by omega
    have HF : Hid (z = false) := by
      show z = false
      have hz := HZ.out
      cases e : z
      · rfl
      · exfalso
        rw [e, leqb_iff] at hz
        exact hlen (by rw [hz])
    clear HR1 HR2 HZ
    go_enter Try.func33, Try.ntmps33
    go_wp2
    all_goals
      go_ret
      exact ⟨by rw [HF.out]; rfl, Below.refl _ _⟩
end Go.Proofs.Ytcebchjokmampaa
/- Lists of transactions: slices of them that lie somewhere; one of them loaded, and what it is. Nothing of one function. -/
namespace Go.Proofs.Ytcebchjokmampaa
open Go.RowKit

/-- A transaction. -/
structure T where
  p : Int
  s : Int
  v : List Int
  t : Int
  ops : List O
  hv : v.length = 13
/-- Its cells, with the slice that its ops lie in. -/
abbrev T.cells (a : T × Value) : List Value := txc a.1.p a.1.s a.1.v a.1.t a.2
theorem T.len (a : T × Value) : (T.cells a).length = 17 := txc_length a.1.hv
abbrev T.val (a : T × Value) : Value := TxV a.1.p a.1.s a.1.v a.1.t a.2
/-- A slice of these. -/
def XHas (w : World) (v : Value) (l : List T) : Prop := ∃ ys : List (T × Value), ys.map (·.1) = l ∧ SHas 17 w v l.length (rows T.cells ys) ∧ ∀ y ∈ ys, OHas w y.2 y.1.ops
section
variable {w w' : World} {v : Value} {l : List T}
theorem XHas.later (h : XHas w v l) (hb : Below w.heap.size w w') : XHas w' v l := by
  obtain ⟨ys, h1, h2, h3⟩ := h
  exact ⟨ys, h1, h2.later hb, fun y hy => (h3 y hy).later hb⟩
theorem XHas.slice (h : XHas w v l) : ∃ p c, v = .slice p l.length c := by
  obtain ⟨ys, h1, h2, h3⟩ := h
  exact h2.slice
theorem XHas.max (h : XHas w v l) : l.length ≤ maxLen := by
  obtain ⟨ys, h1, h2, h3⟩ := h
  exact h2.1
theorem XHas.nil (w : World) : XHas w (.slice none 0 0) [] := ⟨[], rfl, SHas.nil w 17, fun _ h => by cases h⟩
theorem T.elem {ys : List (T × Value)} {g o : Nat} (h : w.rangeAt g o (rows T.cells ys)) (k : Nat) (hk : k < ys.length) : w.rangeAt g (o + k * 17) (T.cells ys[k]) :=
  range_sub h (k * 17) fun j u hu => rows_at T.len ys k hk j u hu
/-- What stands at a place: its cells lie there, and its ops do. -/
theorem XHas.at {p : Option Addr} {c : Nat} (h : XHas w (.slice p l.length c) l) (k : Nat) (hk : k < l.length) : ∃ g o sl, p = some ⟨g, o, none⟩ ∧ w.rangeAt g (o + k * 17) (txc l[k].p l[k].s l[k].v l[k].t sl) ∧ OHas w sl l[k].ops := by
  obtain ⟨ys, rfl, h2, h3⟩ := h
  have hk' : k < ys.length := by simpa using hk
  obtain ⟨g, o, rfl, hd⟩ := h2.at (by omega)
  refine ⟨g, o, ys[k].2, rfl, ?_, ?_⟩
  · simpa using T.elem hd k hk'
  · simpa using h3 ys[k] (List.getElem_mem _)
end
theorem tx_size (x : T) (sl : Value) : (Try.prog.info? 43).map (·.size) = some (txc x.p x.s x.v x.t sl).length := by
  rw [txc_length x.hv]
  exact size43
section
variable {w : World} {g o : Nat} {x : T} {sl : Value}
theorem at_dot (h : w.rangeAt g o (txc x.p x.s x.v x.t sl)) : w.rangeAt g o [.int .i64 x.p, .int .i64 x.s] := fun j u hu => h j u (by
  match j with
  | 0 => simpa [txc] using hu
  | 1 => simpa [txc] using hu
  | j + 2 => simp at hu)
theorem at_vec (h : w.rangeAt g o (txc x.p x.s x.v x.t sl)) : w.rangeAt g (o + 2) (vals x.v) := range_sub h 2 fun j u hu => by
  rw [show 2 + j = j + 1 + 1 by omega]
  have hj := (List.getElem?_eq_some_iff.1 hu).1
  simp only [txc, List.getElem?_cons_succ]
  rw [List.getElem?_append_left hj]
  exact hu
theorem at_p (h : w.rangeAt g o (txc x.p x.s x.v x.t sl)) : w.cell? ⟨g, o, none⟩ = some (.int .i64 x.p) := by
  have := h 0 (.int .i64 x.p) (by simp [txc])
  simpa using this
theorem at_s (h : w.rangeAt g o (txc x.p x.s x.v x.t sl)) : w.cell? ⟨g, o + 1, none⟩ = some (.int .i64 x.s) := h 1 (.int .i64 x.s) (by simp [txc])
theorem at_t (h : w.rangeAt g o (txc x.p x.s x.v x.t sl)) : w.cell? ⟨g, o + 15, none⟩ = some (.int .i64 x.t) := h 15 _ (by
  simp only [txc, List.getElem?_cons_succ]
  rw [List.getElem?_append_right (by simp [vals, x.hv])]
  simp [vals, x.hv])
theorem at_ops (h : w.rangeAt g o (txc x.p x.s x.v x.t sl)) : w.cell? ⟨g, o + 16, none⟩ = some sl := h 16 _ (by
  simp only [txc, List.getElem?_cons_succ]
  rw [List.getElem?_append_right (by simp [vals, x.hv])]
  simp [vals, x.hv])
end
end Go.Proofs.Ytcebchjokmampaa
/- The functions isPeer, Has and Next of package vec. -/
namespace Go.Proofs.Ytcebchjokmampaa
open Go.RowKit

set_option maxRecDepth 100000 in
theorem isPeer_not (p : Int) (w : World) (hp : ¬ (1 ≤ p ∧ p ≤ 12)) :
    Calls Try.prog 18 #[.int .i64 p] w fun e w' => e = .returned (.bool false) ∧ Below w.heap.size w w' := by
  by_cases h : 1 ≤ p
  · have h2 : ¬ p ≤ 12 := by omega
    go_enter Try.func18, Try.ntmps18
    go_wp2
    go_ret
    exact ⟨by simp, Below.refl _ _⟩
  · go_enter Try.func18, Try.ntmps18
    go_wp2
    go_ret
    exact ⟨by simp, Below.refl _ _⟩

set_option maxRecDepth 100000 in
theorem isPeer_yes (n : Nat) (w : World) (h1 : 1 ≤ n) (h2 : n ≤ 12) :
    Calls Try.prog 18 #[.int .i64 n] w fun e w' => e = .returned (.bool true) ∧ Below w.heap.size w w' := by
  have h3 : (1 : Int) ≤ (n : Int) := by omega
  have h4 : (n : Int) ≤ 12 := by omega
  go_enter Try.func18, Try.ntmps18
  go_wp2
  go_ret
  exact ⟨by simp, Below.refl _ _⟩

theorem dot_cell0 (w : World) {b : Nat} (hb : b = w.heap.size) (p s : Int) : (w.alloc (.cells #[.int .i64 p, .int .i64 s] 40)).cell? ⟨b, 0, none⟩ = some (.int .i64 p) := by
  subst hb
  rw [cell_of_row _ _ 0 _ 40 (0, 0) (heap_alloc_last w _)]
  rfl
theorem dot_cell1 (w : World) {b : Nat} (hb : b = w.heap.size) (p s : Int) : (w.alloc (.cells #[.int .i64 p, .int .i64 s] 40)).cell? ⟨b, 1, none⟩ = some (.int .i64 s) := by
  subst hb
  rw [cell_of_row _ _ 1 _ 40 (0, 0) (heap_alloc_last w _)]
  rfl

end Go.Proofs.Ytcebchjokmampaa
