/- The closure of Clear of package register, slices.IndexFunc and slices.DeleteFunc over rows of writes. -/
import Derived.Test.YtknpnjhedfdggaaFind
import Derived.Test.YtknpnjhedfdggaaIns
namespace Go.Proofs.Ytknpnjhedfdggaa
open Go.RowKit

/-- The boxes that the closure looks at. -/
structure Bxs (w : World) (bt bi : Nat) (q u : Int) (v : List Int) (t : Int) (sl : Value) (idx : Int) : Prop where
  r : Rw w bt 34 (txc q u v t sl).toArray
  c : Rw w bi 3 #[.int .i64 idx]
theorem Bxs.later {w w' : World} {bt bi : Nat} {q u : Int} {v : List Int} {t : Int} {sl : Value} {idx : Int} (h : Bxs w bt bi q u v t sl idx) (hb : Below w.heap.size w w') : Bxs w' bt bi q u v t sl idx := ⟨h.r.later hb, h.c.later hb⟩
theorem Bxs.row {w : World} {bt bi : Nat} {q u : Int} {v : List Int} {t : Int} {sl : Value} {idx : Int} (h : Bxs w bt bi q u v t sl idx) {g : Nat} (h1 : bt ≠ g) (h2 : bi ≠ g) (cs : Array Value) : Bxs (w.setRow g cs) bt bi q u v t sl idx := ⟨h.r.rowOther h1 cs, h.c.rowOther h2 cs⟩
set_option maxHeartbeats 1000000 in
set_option maxRecDepth 100000 in
theorem clear1_any (y : Wt) (bt bi : Nat) (q u : Int) (v : List Int) (t : Int) (sl : Value) (idx : Int) (w : World) (hv : v.length = 13) (B : Bxs w bt bi q u v t sl idx) :
    Calls Try.prog 35 #[WV y.p y.s y.i y.t y.x, .pointer (some ⟨bt, 0, none⟩), .pointer (some ⟨bi, 0, none⟩)] w (Tells (.bool (bf y.p y.s y.i q u v idx)) w) := by
  have C1 := fun w => before_any y.p y.s y.i q u v t sl idx w hv
  generalize bf y.p y.s y.i q u v idx = z at C1 ⊢
  have hbel := bel_alloc (Below.refl w.heap.size w) (.cells #[.int .i64 y.p, .int .i64 y.s, .int .i64 y.i, .int .i64 y.t, .string y.x] 42)
  have R0 := rw_new w 42 #[.int .i64 y.p, .int .i64 y.s, .int .i64 y.i, .int .i64 y.t, .string y.x]
  have R1 := B.r.later hbel
  have c1 : (w.alloc (.cells #[.int .i64 y.p, .int .i64 y.s, .int .i64 y.i, .int .i64 y.t, .string y.x] 42)).cell? ⟨bi, 0, none⟩ = some (.int .i64 idx) := (B.c.later hbel).cell 0
  generalize hW : w.alloc (.cells #[.int .i64 y.p, .int .i64 y.s, .int .i64 y.i, .int .i64 y.t, .string y.x] 42) = w0 at hbel R0 R1 c1
  have d0 := Wt.mark (x := y) (Rw.whole R0)
  have zm : (Try.prog.info? 39).map (·.size) = some [Value.int .i64 y.p, .int .i64 y.s, .int .i64 y.i].length := size39
  have zt := size_tx (p := q) (s := u) (t := t) (sl := sl) hv
  go_enter Try.func35, Try.ntmps35
  go_wp2_with (first | rw [hW] | refine load_m 39 _ rfl rfl _ _ rfl d0 Try.underlying39 rfl zm ?_ | refine load_r 34 _ rfl rfl _ rfl R1 Try.underlying34 rfl zt ?_)
  refine (C1 _).mono ?_
  rintro e w1 ⟨rfl, hb1⟩
  go_wp2_with fail
  go_ret
  exact ⟨rfl, below_on hbel hb1⟩
/-- What IndexFunc answers. -/
def IxPost (l : List Wt) (f : Wt → Bool) (w : World) (e : Ending) (w' : World) : Prop :=
  (e = .returned (.int .i64 (-1)) ∧ (∀ y ∈ l, f y = false) ∧ Below w.heap.size w w') ∨ ∃ k : Nat, ∃ h : k < l.length, e = .returned (.int .i64 k) ∧ f l[k] = true ∧ (∀ j (hj : j < l.length), j < k → f l[j] = false) ∧ Below w.heap.size w w'
set_option maxHeartbeats 2000000 in
set_option maxRecDepth 100000 in
theorem index_any (v0 : Value) (l : List Wt) (f : Wt → Bool) (bt bi : Nat) (w : World) (h : WHas w v0 l) (hl : l.length ≤ 100) (C : ∀ (y : Wt) (w' : World), Below w.heap.size w w' → Calls Try.prog 35 #[WV y.p y.s y.i y.t y.x, .pointer (some ⟨bt, 0, none⟩), .pointer (some ⟨bi, 0, none⟩)] w' (Tells (.bool (f y)) w')) :
    Calls Try.prog 51 #[v0, .func (.func 35) #[] #[.pointer (some ⟨bt, 0, none⟩), .pointer (some ⟨bi, 0, none⟩)]] w (IxPost l f w) := by
  obtain ⟨pa, ca', rfl⟩ := h.slice
  have HA : Hid (WHas w (.slice pa l.length ca') l) := h
  clear h
  go_enter Try.func51, Try.ntmps51
  go_wp2
  go_loopw [8] (fun vi wr => ∃ k : Nat, vi = .int .i64 k ∧ k ≤ l.length ∧ Hid (∀ j (hj : j < l.length), j < k → f l[j] = false) ∧ Below w.heap.size w wr) (fun vi _ => l.length - (intOf vi).toNat)
  case atStart => exact ⟨0, rfl, by omega, (show ∀ j (_ : j < l.length), j < 0 → _ from fun j _ h => by omega), Below.refl _ _⟩
  case round =>
    obtain ⟨k, rfl, hk, HV, hbel⟩ := hrel
    by_cases hlt : k < l.length
    · have hlt' : (k : Int) < (l.length : Int) := by omega
      obtain ⟨g, o, rfl, hd0⟩ := HA.out.at (by omega)
      have d := Wt.elem (range_later hd0 hbel) k hlt
      clear hd0 HA
      obtain ⟨x, HX⟩ := hid_ex l[k]
      rw [HX.out] at d
      have z42 : (Try.prog.info? 42).map (·.size) = some x.cells.length := size42
      have Cx := C x _ hbel
      obtain ⟨y, HY⟩ := hid_ex (f x)
      rw [HY.out] at Cx
      have HF : Hid (f l[k] = y) := by show _ = _; rw [HX.out, HY.out]
      clear C HX HY
      go_wp2_with (refine load_m 42 _ rfl rfl _ _ rfl d Try.underlying42 rfl z42 ?_)
      refine Cx.mono ?_
      clear Cx
      rintro e w1 ⟨rfl, hb1⟩
      replace hbel := below_on hbel hb1
      cases y
      · go_wp2_with fail
        go_roundw
        case rel =>
          refine ⟨k + 1, by simp, by omega, (show ∀ j (hj : j < l.length), j < k + 1 → f l[j] = false from fun j hj hjk => ?_), hbel⟩
          rcases Nat.lt_or_ge j k with h' | h'
          · exact HV.out j hj h'
          · obtain rfl : j = k := by omega
            exact HF.out
        case measure => simp [intOf]; omega
      · go_wp2_with fail
        go_ret
        exact .inr ⟨k, hlt, rfl, HF.out, HV.out, hbel⟩
    · have hlt' : ¬ (k : Int) < (l.length : Int) := by omega
      clear HA C
      go_wp2_with fail
      go_ret
      refine .inl ⟨rfl, fun y hy => ?_, hbel⟩
      obtain ⟨j, hj, rfl⟩ := List.getElem_of_mem hy
      exact HV.out j hj (by omega)
section
variable {ops : Array Oper} {rest : List Oper} {op : Oper} {a : Act} {w : World} {Q : Exit → Act → World → Prop}
/-- A struct is stored into the midst of a row. -/
theorem store_mr (hgd : op.guard = none) (t : TypeId) (x y : Operand) (ho : op.op = .store t x y) (b o : Nat) (cs' : Array Value) (hx : a.eval x = .pointer (some ⟨b, o, none⟩)) (hy : a.eval y = .agg cs') {tb : TypeId} {cs : Array Value} (hc : Rw w b tb cs) (hi : (Try.prog.info? t).map (·.size) = some cs'.size) (hs : o + cs'.size ≤ cs.size) (h1 : cs'.all (·.oneCell') = true)
    (h : wpList Try.prog ops Q rest (a.put op.dst undef) (w.setRow b (cs.toList.take o ++ cs'.toList ++ cs.toList.drop (o + cs'.size)).toArray)) : wpList Try.prog ops Q (op :: rest) a w :=
  wpList_plain hgd fun _ hK => by
    have h2 := run_storeCells_at Try.prog b o tb cs'.toList 0 cs w hc (by simpa using hs) (fun v hv => (Array.all_eq_true_iff_forall_mem.1 h1) v (by simpa using hv))
    simp only [Nat.add_zero, Array.length_toList] at h2
    generalize w.setRow b (cs.toList.take o ++ cs'.toList ++ cs.toList.drop (o + cs'.size)).toArray = w1 at h2 h
    have h3 : (storeVar t ⟨b, o, none⟩ (.agg cs')).run Try.prog w = .ok () w1 := by
      generalize Try.prog = P at hi h2 ⊢
      cases hq : P.info? t with
      | none => simp [hq] at hi
      | some i =>
        have hs : cs'.size = i.size := by simp [hq] at hi; omega
        simp [storeVar, sizeOf, typeInfo, hq, Value.cells, hs, h2]
    unfold Oper.wp execOp
    simp only [ho, hx, hy, Instr.storeAt, Instr.sureAddr, Sem.run_bind, Sem.run_pure, Result.andThen_ok, h3]
    exact hK _ _ h
/-- clear of a slice, whose run is known. -/
theorem clear_run (hgd : op.guard = none) (d : Operand) (t : TypeId) (ho : op.op = .call { callee := .builtin .clear, args := #[d], argTypes := #[t] }) (v : Value) (hd : a.eval d = v) {v' : Value} {w' : World}
    (hr : (Builtin.clear_ #[t] op.type #[v]).run Try.prog w = .ok v' w') (h : wpList Try.prog ops Q rest (a.put op.dst v') w') : wpList Try.prog ops Q (op :: rest) a w :=
  wpList_plain hgd fun _ hK => by
    unfold Oper.wp execOp
    generalize a.eval = ρ at hd ⊢
    subst hd
    simp [ho, go_sem, hr]
    exact hK _ _ h
end
theorem run_clear_rowS {P : Program} (w : World) (t e ty : TypeId) (z : Value) (S : Nat) (ht : P.underlying t = some (.slice e)) (hv : ∀ w, (zeroValue e).run P w = .ok z w) (hz : z.cells.size = S) (hS : 0 < S) (h1 : ∀ u ∈ z.cells.toList, u.oneCell' = true) (g o n c : Nat) (hn : 0 < n) (tb : TypeId) (cur : Array Value) (hg : w.heap[g]? = some (.cells cur tb (0, 0))) (hfit : o + n * S ≤ cur.size) :
    (Builtin.clear_ #[t] ty #[.slice (some ⟨g, o, none⟩) n c]).run P w = .ok (.tuple #[]) (w.setRow g (cur.toList.take o ++ (Builtin.zeroCells z.cells n).toList ++ cur.toList.drop (o + n * S)).toArray) := by
  have hlen : (Builtin.zeroCells z.cells n).toList.length = n * S := by simp [Builtin.zeroCells, hz]
  have h2 := run_storeCells_at P g o tb (Builtin.zeroCells z.cells n).toList 0 cur w hg (by rw [hlen]; omega) (fun u hu => by
    obtain ⟨i, hi, rfl⟩ : ∃ i, i < n * z.cells.size ∧ z.cells[i % z.cells.size]! = u := by simpa [Builtin.zeroCells] using hu
    have hlt : i % z.cells.size < z.cells.size := Nat.mod_lt _ (by omega)
    rw [getElem!_pos z.cells _ hlt]
    exact h1 _ (by simp))
  rw [hlen] at h2
  simp only [Nat.add_zero] at h2
  obtain ⟨m, rfl⟩ : ∃ m, n = m + 1 := ⟨n - 1, by omega⟩
  simp [Builtin.clear_, run_underlying ht, hv, h2]
/-- What holds ahead of each round of DeleteFunc: those that stay of the first j stand at the front, those behind j as they were. -/
structure DI (l : List Wt) (f : Wt → Bool) (a j : Nat) (cr : Array Value) : Prop where
  n : a = ((l.take j).filter (fun y => !f y)).length
  t : cr.toList.take (a * 5) = rows Wt.cells ((l.take j).filter (fun y => !f y))
  r : ∀ i (h : i < l.length), j ≤ i → ∀ m u, l[i].cells[m]? = some u → cr.toList[i * 5 + m]? = some u
theorem DI.start {l : List Wt} {f : Wt → Bool} {k : Nat} {cr : Array Value} (hk : k < l.length) (hf : f l[k] = true) (hb : ∀ j (hj : j < l.length), j < k → f l[j] = false) (ht : cr.toList.take (l.length * 5) = rows Wt.cells l) : DI l f k (k + 1) cr := by
  have e : (l.take (k + 1)).filter (fun y => !f y) = l.take k := by
    rw [List.take_succ_eq_append_getElem hk, List.filter_append, List.filter_cons_of_neg (by rw [hf]; simp), List.filter_nil, List.append_nil, List.filter_eq_self]
    intro y hy
    obtain ⟨j, hj, rfl⟩ := List.getElem_of_mem hy
    rw [List.length_take] at hj
    rw [List.getElem_take, hb j (by omega) (by omega)]
    rfl
  refine ⟨?_, ?_, ?_⟩
  · rw [e, List.length_take]
    omega
  · rw [e, rows_take Wt.len, ← ht, List.take_take, Nat.min_eq_left (by omega)]
  · intro i h hij m u hu
    have h1 := rows_at Wt.len l i h m u hu
    have hm := (List.getElem?_eq_some_iff.1 hu).1
    rw [Wt.len] at hm
    rw [← ht, List.getElem?_take] at h1
    split at h1
    · exact h1
    · cases h1
theorem DI.skip {l : List Wt} {f : Wt → Bool} {a j : Nat} {cr : Array Value} (h : DI l f a j cr) (hj : j < l.length) (hf : f l[j] = true) : DI l f a (j + 1) cr := by
  have e : (l.take (j + 1)).filter (fun y => !f y) = (l.take j).filter (fun y => !f y) := by
    rw [List.take_succ_eq_append_getElem hj, List.filter_append, List.filter_cons_of_neg (by rw [hf]; simp), List.filter_nil, List.append_nil]
  exact ⟨by rw [e]; exact h.n, by rw [e]; exact h.t, fun i hi hij => h.r i hi (by omega)⟩
theorem DI.keep {l : List Wt} {f : Wt → Bool} {a j : Nat} {cr : Array Value} (h : DI l f a j cr) (hj : j < l.length) (haj : a < j) (hs : l.length * 5 ≤ cr.size) (hf : f l[j] = false) : DI l f (a + 1) (j + 1) (cr.toList.take (a * 5) ++ l[j].cells ++ cr.toList.drop (a * 5 + 5)).toArray := by
  have e : (l.take (j + 1)).filter (fun y => !f y) = (l.take j).filter (fun y => !f y) ++ [l[j]] := by
    rw [List.take_succ_eq_append_getElem hj, List.filter_append, List.filter_cons_of_pos (by rw [hf]; rfl), List.filter_nil]
  have hl : (cr.toList.take (a * 5)).length = a * 5 := by rw [List.length_take, Array.length_toList]; omega
  refine ⟨?_, ?_, ?_⟩
  · rw [e, List.length_append, ← h.n]
    rfl
  · rw [e, rows_append, rows_one, List.toList_toArray, List.take_left' (by rw [List.length_append, hl, Wt.len]; omega), h.t]
  · intro i hi hij m u hu
    have hm := (List.getElem?_eq_some_iff.1 hu).1
    rw [Wt.len] at hm
    have h1 := h.r i hi (by omega) m u hu
    rw [List.toList_toArray, List.getElem?_append_right (by rw [List.length_append, hl, Wt.len]; omega), List.length_append, hl, Wt.len, List.getElem?_drop, show a * 5 + 5 + (i * 5 + m - (a * 5 + 5)) = i * 5 + m by omega]
    exact h1
theorem DI.elem {l : List Wt} {f : Wt → Bool} {a j g : Nat} {cr : Array Value} {w : World} (h : DI l f a j cr) (hj : j < l.length) (hg : Rw w g 42 cr) : w.rangeAt g (j * 5) l[j].cells := fun m u hu => by
  rw [hg.cell]
  have := h.r j hj (Nat.le_refl _) m u hu
  simpa using this
theorem zero42 : ∀ w, (zeroValue 42).run Try.prog w = .ok (WV 0 0 0 0 noS) w := Try.zeroValue42
end Go.Proofs.Ytknpnjhedfdggaa
