import Derived.Test.YtjbbmcommnhgeaaGreatPc18
set_option maxRecDepth 100000
set_option maxHeartbeats 8000000
namespace Go.Proofs.YtjbbmcommnhgeaaGreat
open Go.RowKit
theorem rows4 (w : World) (c1 : Array Value) (t1 : TypeId) (c2 : Array Value) (t2 : TypeId) (c3 : Array Value) (t3 : TypeId) (c4 : Array Value) (t4 : TypeId) {w0 : World} (hW : (((w.alloc (.cells c1 t1)).alloc (.cells c2 t2)).alloc (.cells c3 t3)).alloc (.cells c4 t4) = w0) : Rw w0 w.heap.size t1 c1 ∧ Rw w0 (w.heap.size + 1) t2 c2 ∧ Rw w0 (w.heap.size + 1 + 1) t3 c3 ∧ Rw w0 (w.heap.size + 1 + 1 + 1) t4 c4 ∧ Below w.heap.size w w0 := by
 subst hW
 obtain ⟨r1, r2, r3, hb⟩ := rows3 w c1 t1 c2 t2 c3 t3
 have r4 := rw_new (((w.alloc (.cells c1 t1)).alloc (.cells c2 t2)).alloc (.cells c3 t3)) t4 c4
 simp only [World.size_alloc] at r4
 exact ⟨r1.alloc _, r2.alloc _, r3.alloc _, r4, bel_alloc hb _⟩
theorem box_set {w1 w2 : World} {T : TypeId} {z c : Array Value} (hW : (w1.alloc (.cells z T)).setRow w1.heap.size c = w2) : Rw w2 w1.heap.size T c ∧ Below w1.heap.size w1 w2 := by
 subst hW
 exact ⟨(rw_new w1 T z).row _, below_setRow (bel_alloc (Below.refl _ _) _) (Nat.le_refl _) _⟩
def ones (va vw vm ve : Value) : Prop := ∀ k b : Int, (cvc k b va vw vm ve).all (·.oneCell') = true
theorem Four.ones {w : World} {x : X} {va vw vm ve : Value} (h : Four w x va vw vm ve) : ones va vw vm ve := fun k b => by
 obtain ⟨pa, ca, pw, cw, pm, cm, pe, ce, rfl, rfl, rfl, rfl⟩ := h.slices
 simp [Value.oneCell']
theorem do1a (b : Int) (va vw vm ve : Value) (q u : Int) (v : List Int) (t : Int) (sl : Value) (i : Int) (o : O) (w : World) (hv : v.length = 13) (h1 : ones va vw vm ve) (a1 : (o.act == 1) = true) {z : X} (C : ∀ w', Below w.heap.size w w' → Calls Tryz.prog 38 #[CV 1 b va vw vm ve, TxV q u v t sl, .int .i64 i, .int .i64 o.n] w' (Gives z w')) :
  Calls Tryz.prog 21 #[CV 1 b va vw vm ve, TxV q u v t sl, .int .i64 i, o.val] w (Gives z w) := by
 obtain ⟨w0, hW⟩ : ∃ w0, (((w.alloc (.cells (cvc 1 b va vw vm ve) 27)).alloc (.cells (txc q u v t sl).toArray 34)).alloc (.cells o.cells.toArray 52)).alloc (.cells z4 27) = w0 := ⟨_, rfl⟩
 obtain ⟨R0, R1, R2, R3, hb⟩ := rows4 w _ _ _ _ _ _ _ _ hW
 have zt := size_tx (p := q) (s := u) (t := t) (sl := sl) hv
 have t83 : ∀ w, (Instr.typeAssert (.iface 83 (CV 1 b va vw vm ve)) 76 83 true).run Tryz.prog w = .ok (.tuple #[CV 1 b va vw vm ve, .bool true]) w := fun _ => by kernel_rfl
 have h2 := h1 1 b
 clear h1
 go_enter Tryz.func21, Tryz.ntmps21
 go_wp2_with (first | rw [hW] | refine load_r 27 _ rfl rfl _ rfl R0 Tryz.underlying27 rfl size27 ?_)
 refine (atWork_any 1 b va vw vm ve _).mono ?_
 rw [show wk 1 = 83 from rfl]
 rintro e w1 ⟨rfl, hb1⟩
 replace hb := below_on hb hb1
 obtain ⟨w2, hW2⟩ : ∃ w2, (w1.alloc (.cells z4 83)).setRow w1.heap.size (cvc 1 b va vw vm ve) = w2 := ⟨_, rfl⟩
 obtain ⟨RB, hb2⟩ := box_set hW2
 replace hb := below_on hb hb2
 have R0 := (R0.later hb1).later hb2
 have R1 := (R1.later hb1).later hb2
 have R2 := (R2.later hb1).later hb2
 replace R3 := (R3.later hb1).later hb2
 have c4 : w2.cell? ⟨w.heap.size + 1 + 1, 4, none⟩ = some (.int .i64 o.act) := R2.cell 4
 have c5 : w2.cell? ⟨w.heap.size + 1 + 1, 5, none⟩ = some (.int .i64 o.n) := R2.cell 5
 clear hW hb1
 go_wp2_with (first | rw [hW2] | refine store_r rfl 83 _ _ rfl _ (cvc 1 b va vw vm ve) rfl rfl (rw_new w1 83 _) size83 rfl h2 ?_ | refine load_r 83 _ rfl rfl _ rfl RB Tryz.underlying83 rfl size83 ?_ | refine load_r 34 _ rfl rfl _ rfl R1 Tryz.underlying34 rfl zt ?_)
 refine (C w2 hb).mono ?_
 rintro e w3 ⟨ua, uw, um, ue, rfl, hz, hb3⟩
 obtain ⟨na, ea, nw, ew, nm, em, ne, ee, rfl, rfl, rfl, rfl⟩ := hz.slices
 replace R3 := R3.later hb3
 go_wp2_with (refine store_r rfl 27 _ _ rfl _ (cx z na ea nw ew nm em ne ee) rfl rfl R3 size27 rfl (by simp [Value.oneCell']) ?_)
 refine bodyPost_ret (results_r rfl rfl (R3.row _) rfl Tryz.underlying27 size27) rfl ?_
 exact ⟨_, _, _, _, rfl, hz.row R3 _, below_setRow (below_on hb hb3) (by omega) _⟩
theorem do1 (b : Int) (va vw vm ve : Value) (q u : Int) (v : List Int) (t : Int) (sl : Value) (i : Int) (o : O) (w : World) (h1 : ones va vw vm ve) (a1 : (o.act == 1) = false) {z : X} (C : ∀ w', Below w.heap.size w w' → Calls Tryz.prog 35 #[CV 1 b va vw vm ve] w' (Gives z w')) :
  Calls Tryz.prog 21 #[CV 1 b va vw vm ve, TxV q u v t sl, .int .i64 i, o.val] w (Gives z w) := by
 obtain ⟨w0, hW⟩ : ∃ w0, (((w.alloc (.cells (cvc 1 b va vw vm ve) 27)).alloc (.cells (txc q u v t sl).toArray 34)).alloc (.cells o.cells.toArray 52)).alloc (.cells z4 27) = w0 := ⟨_, rfl⟩
 obtain ⟨R0, R1, R2, R3, hb⟩ := rows4 w _ _ _ _ _ _ _ _ hW
 have t83 : ∀ w, (Instr.typeAssert (.iface 83 (CV 1 b va vw vm ve)) 76 83 true).run Tryz.prog w = .ok (.tuple #[CV 1 b va vw vm ve, .bool true]) w := fun _ => by kernel_rfl
 have h2 := h1 1 b
 clear h1
 go_enter Tryz.func21, Tryz.ntmps21
 go_wp2_with (first | rw [hW] | refine load_r 27 _ rfl rfl _ rfl R0 Tryz.underlying27 rfl size27 ?_)
 refine (atWork_any 1 b va vw vm ve _).mono ?_
 rw [show wk 1 = 83 from rfl]
 rintro e w1 ⟨rfl, hb1⟩
 replace hb := below_on hb hb1
 obtain ⟨w2, hW2⟩ : ∃ w2, (w1.alloc (.cells z4 83)).setRow w1.heap.size (cvc 1 b va vw vm ve) = w2 := ⟨_, rfl⟩
 obtain ⟨RB, hb2⟩ := box_set hW2
 replace hb := below_on hb hb2
 have R0 := (R0.later hb1).later hb2
 have R1 := (R1.later hb1).later hb2
 have R2 := (R2.later hb1).later hb2
 replace R3 := (R3.later hb1).later hb2
 have c4 : w2.cell? ⟨w.heap.size + 1 + 1, 4, none⟩ = some (.int .i64 o.act) := R2.cell 4
 clear hW hb1
 go_wp2_with (first | rw [hW2] | refine store_r rfl 83 _ _ rfl _ (cvc 1 b va vw vm ve) rfl rfl (rw_new w1 83 _) size83 rfl h2 ?_ | refine load_r 27 _ rfl rfl _ rfl R0 Tryz.underlying27 rfl size27 ?_)
 refine (C w2 hb).mono ?_
 rintro e w3 ⟨ua, uw, um, ue, rfl, hz, hb3⟩
 obtain ⟨na, ea, nw, ew, nm, em, ne, ee, rfl, rfl, rfl, rfl⟩ := hz.slices
 replace R3 := R3.later hb3
 go_wp2_with (refine store_r rfl 27 _ _ rfl _ (cx z na ea nw ew nm em ne ee) rfl rfl R3 size27 rfl (by simp [Value.oneCell']) ?_)
 refine bodyPost_ret (results_r rfl rfl (R3.row _) rfl Tryz.underlying27 size27) rfl ?_
 exact ⟨_, _, _, _, rfl, hz.row R3 _, below_setRow (below_on hb hb3) (by omega) _⟩
theorem do2a (b : Int) (va vw vm ve : Value) (q u : Int) (v : List Int) (t : Int) (sl : Value) (i : Int) (o : O) (w : World) (hv : v.length = 13) (h1 : ones va vw vm ve) (a3 : (o.act == 3) = true) {z : X} (C : ∀ w', Below w.heap.size w w' → Calls Tryz.prog 39 #[CV 2 b va vw vm ve, TxV q u v t sl, .int .i64 i, .string o.text] w' (Gives z w')) :
  Calls Tryz.prog 21 #[CV 2 b va vw vm ve, TxV q u v t sl, .int .i64 i, o.val] w (Gives z w) := by
 obtain ⟨w0, hW⟩ : ∃ w0, (((w.alloc (.cells (cvc 2 b va vw vm ve) 27)).alloc (.cells (txc q u v t sl).toArray 34)).alloc (.cells o.cells.toArray 52)).alloc (.cells z4 27) = w0 := ⟨_, rfl⟩
 obtain ⟨R0, R1, R2, R3, hb⟩ := rows4 w _ _ _ _ _ _ _ _ hW
 have zt := size_tx (p := q) (s := u) (t := t) (sl := sl) hv
 have t83 : ∀ w, (Instr.typeAssert (.iface 85 (CV 2 b va vw vm ve)) 76 83 true).run Tryz.prog w = .ok (.tuple #[CV 0 0 (.slice none 0 0) (.slice none 0 0) (.slice none 0 0) (.slice none 0 0), .bool false]) w := fun _ => by kernel_rfl
 have t85 : ∀ w, (Instr.typeAssert (.iface 85 (CV 2 b va vw vm ve)) 76 85 true).run Tryz.prog w = .ok (.tuple #[CV 2 b va vw vm ve, .bool true]) w := fun _ => by kernel_rfl
 have h2 := h1 2 b
 clear h1
 go_enter Tryz.func21, Tryz.ntmps21
 go_wp2_with (first | rw [hW] | refine load_r 27 _ rfl rfl _ rfl R0 Tryz.underlying27 rfl size27 ?_)
 refine (atWork_any 2 b va vw vm ve _).mono ?_
 rw [show wk 2 = 85 from rfl]
 rintro e w1 ⟨rfl, hb1⟩
 replace hb := below_on hb hb1
 obtain ⟨w2, hW2⟩ : ∃ w2, (w1.alloc (.cells z4 85)).setRow w1.heap.size (cvc 2 b va vw vm ve) = w2 := ⟨_, rfl⟩
 obtain ⟨RB, hb2⟩ := box_set hW2
 replace hb := below_on hb hb2
 have R0 := (R0.later hb1).later hb2
 have R1 := (R1.later hb1).later hb2
 have R2 := (R2.later hb1).later hb2
 replace R3 := (R3.later hb1).later hb2
 have c4 : w2.cell? ⟨w.heap.size + 1 + 1, 4, none⟩ = some (.int .i64 o.act) := R2.cell 4
 have c6 : w2.cell? ⟨w.heap.size + 1 + 1, 6, none⟩ = some (.string o.text) := R2.cell 6
 clear hW hb1
 go_wp2_with (first | rw [hW2] | refine store_r rfl 85 _ _ rfl _ (cvc 2 b va vw vm ve) rfl rfl (rw_new w1 85 _) size85 rfl h2 ?_ | refine load_r 85 _ rfl rfl _ rfl RB Tryz.underlying85 rfl size85 ?_ | refine load_r 34 _ rfl rfl _ rfl R1 Tryz.underlying34 rfl zt ?_)
 refine (C w2 hb).mono ?_
 rintro e w3 ⟨ua, uw, um, ue, rfl, hz, hb3⟩
 obtain ⟨na, ea, nw, ew, nm, em, ne, ee, rfl, rfl, rfl, rfl⟩ := hz.slices
 replace R3 := R3.later hb3
 go_wp2_with (refine store_r rfl 27 _ _ rfl _ (cx z na ea nw ew nm em ne ee) rfl rfl R3 size27 rfl (by simp [Value.oneCell']) ?_)
 refine bodyPost_ret (results_r rfl rfl (R3.row _) rfl Tryz.underlying27 size27) rfl ?_
 exact ⟨_, _, _, _, rfl, hz.row R3 _, below_setRow (below_on hb hb3) (by omega) _⟩
theorem do2 (b : Int) (va vw vm ve : Value) (q u : Int) (v : List Int) (t : Int) (sl : Value) (i : Int) (o : O) (w : World) (h1 : ones va vw vm ve) (a3 : (o.act == 3) = false) {z : X} (C : ∀ w', Below w.heap.size w w' → Calls Tryz.prog 35 #[CV 2 b va vw vm ve] w' (Gives z w')) :
  Calls Tryz.prog 21 #[CV 2 b va vw vm ve, TxV q u v t sl, .int .i64 i, o.val] w (Gives z w) := by
 obtain ⟨w0, hW⟩ : ∃ w0, (((w.alloc (.cells (cvc 2 b va vw vm ve) 27)).alloc (.cells (txc q u v t sl).toArray 34)).alloc (.cells o.cells.toArray 52)).alloc (.cells z4 27) = w0 := ⟨_, rfl⟩
 obtain ⟨R0, R1, R2, R3, hb⟩ := rows4 w _ _ _ _ _ _ _ _ hW
 have t83 : ∀ w, (Instr.typeAssert (.iface 85 (CV 2 b va vw vm ve)) 76 83 true).run Tryz.prog w = .ok (.tuple #[CV 0 0 (.slice none 0 0) (.slice none 0 0) (.slice none 0 0) (.slice none 0 0), .bool false]) w := fun _ => by kernel_rfl
 have t85 : ∀ w, (Instr.typeAssert (.iface 85 (CV 2 b va vw vm ve)) 76 85 true).run Tryz.prog w = .ok (.tuple #[CV 2 b va vw vm ve, .bool true]) w := fun _ => by kernel_rfl
 have h2 := h1 2 b
 clear h1
 go_enter Tryz.func21, Tryz.ntmps21
 go_wp2_with (first | rw [hW] | refine load_r 27 _ rfl rfl _ rfl R0 Tryz.underlying27 rfl size27 ?_)
 refine (atWork_any 2 b va vw vm ve _).mono ?_
 rw [show wk 2 = 85 from rfl]
 rintro e w1 ⟨rfl, hb1⟩
 replace hb := below_on hb hb1
 obtain ⟨w2, hW2⟩ : ∃ w2, (w1.alloc (.cells z4 85)).setRow w1.heap.size (cvc 2 b va vw vm ve) = w2 := ⟨_, rfl⟩
 obtain ⟨RB, hb2⟩ := box_set hW2
 replace hb := below_on hb hb2
 have R0 := (R0.later hb1).later hb2
 have R1 := (R1.later hb1).later hb2
 have R2 := (R2.later hb1).later hb2
 replace R3 := (R3.later hb1).later hb2
 have c4 : w2.cell? ⟨w.heap.size + 1 + 1, 4, none⟩ = some (.int .i64 o.act) := R2.cell 4
 clear hW hb1
 go_wp2_with (first | rw [hW2] | refine store_r rfl 85 _ _ rfl _ (cvc 2 b va vw vm ve) rfl rfl (rw_new w1 85 _) size85 rfl h2 ?_ | refine load_r 27 _ rfl rfl _ rfl R0 Tryz.underlying27 rfl size27 ?_)
 refine (C w2 hb).mono ?_
 rintro e w3 ⟨ua, uw, um, ue, rfl, hz, hb3⟩
 obtain ⟨na, ea, nw, ew, nm, em, ne, ee, rfl, rfl, rfl, rfl⟩ := hz.slices
 replace R3 := R3.later hb3
 go_wp2_with (refine store_r rfl 27 _ _ rfl _ (cx z na ea nw ew nm em ne ee) rfl rfl R3 size27 rfl (by simp [Value.oneCell']) ?_)
 refine bodyPost_ret (results_r rfl rfl (R3.row _) rfl Tryz.underlying27 size27) rfl ?_
 exact ⟨_, _, _, _, rfl, hz.row R3 _, below_setRow (below_on hb hb3) (by omega) _⟩
theorem do3a (b : Int) (va vw vm ve : Value) (q u : Int) (v : List Int) (t : Int) (sl : Value) (i : Int) (o : O) (w : World) (hv : v.length = 13) (h1 : ones va vw vm ve) (a3 : (o.act == 3) = true) {z : X} (C : ∀ w', Below w.heap.size w w' → Calls Tryz.prog 39 #[CV 3 b va vw vm ve, TxV q u v t sl, .int .i64 i, .string o.text] w' (Gives z w')) :
  Calls Tryz.prog 21 #[CV 3 b va vw vm ve, TxV q u v t sl, .int .i64 i, o.val] w (Gives z w) := by
 obtain ⟨w0, hW⟩ : ∃ w0, (((w.alloc (.cells (cvc 3 b va vw vm ve) 27)).alloc (.cells (txc q u v t sl).toArray 34)).alloc (.cells o.cells.toArray 52)).alloc (.cells z4 27) = w0 := ⟨_, rfl⟩
 obtain ⟨R0, R1, R2, R3, hb⟩ := rows4 w _ _ _ _ _ _ _ _ hW
 have zt := size_tx (p := q) (s := u) (t := t) (sl := sl) hv
 have t83 : ∀ w, (Instr.typeAssert (.iface 85 (CV 3 b va vw vm ve)) 76 83 true).run Tryz.prog w = .ok (.tuple #[CV 0 0 (.slice none 0 0) (.slice none 0 0) (.slice none 0 0) (.slice none 0 0), .bool false]) w := fun _ => by kernel_rfl
 have t85 : ∀ w, (Instr.typeAssert (.iface 85 (CV 3 b va vw vm ve)) 76 85 true).run Tryz.prog w = .ok (.tuple #[CV 3 b va vw vm ve, .bool true]) w := fun _ => by kernel_rfl
 have h2 := h1 3 b
 clear h1
 go_enter Tryz.func21, Tryz.ntmps21
 go_wp2_with (first | rw [hW] | refine load_r 27 _ rfl rfl _ rfl R0 Tryz.underlying27 rfl size27 ?_)
 refine (atWork_any 3 b va vw vm ve _).mono ?_
 rw [show wk 3 = 85 from rfl]
 rintro e w1 ⟨rfl, hb1⟩
 replace hb := below_on hb hb1
 obtain ⟨w2, hW2⟩ : ∃ w2, (w1.alloc (.cells z4 85)).setRow w1.heap.size (cvc 3 b va vw vm ve) = w2 := ⟨_, rfl⟩
 obtain ⟨RB, hb2⟩ := box_set hW2
 replace hb := below_on hb hb2
 have R0 := (R0.later hb1).later hb2
 have R1 := (R1.later hb1).later hb2
 have R2 := (R2.later hb1).later hb2
 replace R3 := (R3.later hb1).later hb2
 have c4 : w2.cell? ⟨w.heap.size + 1 + 1, 4, none⟩ = some (.int .i64 o.act) := R2.cell 4
 have c6 : w2.cell? ⟨w.heap.size + 1 + 1, 6, none⟩ = some (.string o.text) := R2.cell 6
 clear hW hb1
 go_wp2_with (first | rw [hW2] | refine store_r rfl 85 _ _ rfl _ (cvc 3 b va vw vm ve) rfl rfl (rw_new w1 85 _) size85 rfl h2 ?_ | refine load_r 85 _ rfl rfl _ rfl RB Tryz.underlying85 rfl size85 ?_ | refine load_r 34 _ rfl rfl _ rfl R1 Tryz.underlying34 rfl zt ?_)
 refine (C w2 hb).mono ?_
 rintro e w3 ⟨ua, uw, um, ue, rfl, hz, hb3⟩
 obtain ⟨na, ea, nw, ew, nm, em, ne, ee, rfl, rfl, rfl, rfl⟩ := hz.slices
 replace R3 := R3.later hb3
 go_wp2_with (refine store_r rfl 27 _ _ rfl _ (cx z na ea nw ew nm em ne ee) rfl rfl R3 size27 rfl (by simp [Value.oneCell']) ?_)
 refine bodyPost_ret (results_r rfl rfl (R3.row _) rfl Tryz.underlying27 size27) rfl ?_
 exact ⟨_, _, _, _, rfl, hz.row R3 _, below_setRow (below_on hb hb3) (by omega) _⟩
theorem do3 (b : Int) (va vw vm ve : Value) (q u : Int) (v : List Int) (t : Int) (sl : Value) (i : Int) (o : O) (w : World) (h1 : ones va vw vm ve) (a3 : (o.act == 3) = false) {z : X} (C : ∀ w', Below w.heap.size w w' → Calls Tryz.prog 35 #[CV 3 b va vw vm ve] w' (Gives z w')) :
  Calls Tryz.prog 21 #[CV 3 b va vw vm ve, TxV q u v t sl, .int .i64 i, o.val] w (Gives z w) := by
 obtain ⟨w0, hW⟩ : ∃ w0, (((w.alloc (.cells (cvc 3 b va vw vm ve) 27)).alloc (.cells (txc q u v t sl).toArray 34)).alloc (.cells o.cells.toArray 52)).alloc (.cells z4 27) = w0 := ⟨_, rfl⟩
 obtain ⟨R0, R1, R2, R3, hb⟩ := rows4 w _ _ _ _ _ _ _ _ hW
 have t83 : ∀ w, (Instr.typeAssert (.iface 85 (CV 3 b va vw vm ve)) 76 83 true).run Tryz.prog w = .ok (.tuple #[CV 0 0 (.slice none 0 0) (.slice none 0 0) (.slice none 0 0) (.slice none 0 0), .bool false]) w := fun _ => by kernel_rfl
 have t85 : ∀ w, (Instr.typeAssert (.iface 85 (CV 3 b va vw vm ve)) 76 85 true).run Tryz.prog w = .ok (.tuple #[CV 3 b va vw vm ve, .bool true]) w := fun _ => by kernel_rfl
 have h2 := h1 3 b
 clear h1
 go_enter Tryz.func21, Tryz.ntmps21
 go_wp2_with (first | rw [hW] | refine load_r 27 _ rfl rfl _ rfl R0 Tryz.underlying27 rfl size27 ?_)
 refine (atWork_any 3 b va vw vm ve _).mono ?_
 rw [show wk 3 = 85 from rfl]
 rintro e w1 ⟨rfl, hb1⟩
 replace hb := below_on hb hb1
 obtain ⟨w2, hW2⟩ : ∃ w2, (w1.alloc (.cells z4 85)).setRow w1.heap.size (cvc 3 b va vw vm ve) = w2 := ⟨_, rfl⟩
 obtain ⟨RB, hb2⟩ := box_set hW2
 replace hb := below_on hb hb2
 have R0 := (R0.later hb1).later hb2
 have R1 := (R1.later hb1).later hb2
 have R2 := (R2.later hb1).later hb2
 replace R3 := (R3.later hb1).later hb2
 have c4 : w2.cell? ⟨w.heap.size + 1 + 1, 4, none⟩ = some (.int .i64 o.act) := R2.cell 4
 clear hW hb1
 go_wp2_with (first | rw [hW2] | refine store_r rfl 85 _ _ rfl _ (cvc 3 b va vw vm ve) rfl rfl (rw_new w1 85 _) size85 rfl h2 ?_ | refine load_r 27 _ rfl rfl _ rfl R0 Tryz.underlying27 rfl size27 ?_)
 refine (C w2 hb).mono ?_
 rintro e w3 ⟨ua, uw, um, ue, rfl, hz, hb3⟩
 obtain ⟨na, ea, nw, ew, nm, em, ne, ee, rfl, rfl, rfl, rfl⟩ := hz.slices
 replace R3 := R3.later hb3
 go_wp2_with (refine store_r rfl 27 _ _ rfl _ (cx z na ea nw ew nm em ne ee) rfl rfl R3 size27 rfl (by simp [Value.oneCell']) ?_)
 refine bodyPost_ret (results_r rfl rfl (R3.row _) rfl Tryz.underlying27 size27) rfl ?_
 exact ⟨_, _, _, _, rfl, hz.row R3 _, below_setRow (below_on hb hb3) (by omega) _⟩
theorem do4a (b : Int) (va vw vm ve : Value) (q u : Int) (v : List Int) (t : Int) (sl : Value) (i : Int) (o : O) (w : World) (hv : v.length = 13) (h1 : ones va vw vm ve) (a1 : (o.act == 1) = true) {z : X} (C : ∀ w', Below w.heap.size w w' → Calls Tryz.prog 40 #[CV 4 b va vw vm ve, TxV q u v t sl, .int .i64 i, .string o.text] w' (Gives z w')) :
  Calls Tryz.prog 21 #[CV 4 b va vw vm ve, TxV q u v t sl, .int .i64 i, o.val] w (Gives z w) := by
 obtain ⟨w0, hW⟩ : ∃ w0, (((w.alloc (.cells (cvc 4 b va vw vm ve) 27)).alloc (.cells (txc q u v t sl).toArray 34)).alloc (.cells o.cells.toArray 52)).alloc (.cells z4 27) = w0 := ⟨_, rfl⟩
 obtain ⟨R0, R1, R2, R3, hb⟩ := rows4 w _ _ _ _ _ _ _ _ hW
 have zt := size_tx (p := q) (s := u) (t := t) (sl := sl) hv
 have t83 : ∀ w, (Instr.typeAssert (.iface 87 (CV 4 b va vw vm ve)) 76 83 true).run Tryz.prog w = .ok (.tuple #[CV 0 0 (.slice none 0 0) (.slice none 0 0) (.slice none 0 0) (.slice none 0 0), .bool false]) w := fun _ => by kernel_rfl
 have t85 : ∀ w, (Instr.typeAssert (.iface 87 (CV 4 b va vw vm ve)) 76 85 true).run Tryz.prog w = .ok (.tuple #[CV 0 0 (.slice none 0 0) (.slice none 0 0) (.slice none 0 0) (.slice none 0 0), .bool false]) w := fun _ => by kernel_rfl
 have t87 : ∀ w, (Instr.typeAssert (.iface 87 (CV 4 b va vw vm ve)) 76 87 true).run Tryz.prog w = .ok (.tuple #[CV 4 b va vw vm ve, .bool true]) w := fun _ => by kernel_rfl
 have h2 := h1 4 b
 clear h1
 go_enter Tryz.func21, Tryz.ntmps21
 go_wp2_with (first | rw [hW] | refine load_r 27 _ rfl rfl _ rfl R0 Tryz.underlying27 rfl size27 ?_)
 refine (atWork_any 4 b va vw vm ve _).mono ?_
 rw [show wk 4 = 87 from rfl]
 rintro e w1 ⟨rfl, hb1⟩
 replace hb := below_on hb hb1
 obtain ⟨w2, hW2⟩ : ∃ w2, (w1.alloc (.cells z4 87)).setRow w1.heap.size (cvc 4 b va vw vm ve) = w2 := ⟨_, rfl⟩
 obtain ⟨RB, hb2⟩ := box_set hW2
 replace hb := below_on hb hb2
 have R0 := (R0.later hb1).later hb2
 have R1 := (R1.later hb1).later hb2
 have R2 := (R2.later hb1).later hb2
 replace R3 := (R3.later hb1).later hb2
 have c4 : w2.cell? ⟨w.heap.size + 1 + 1, 4, none⟩ = some (.int .i64 o.act) := R2.cell 4
 have c6 : w2.cell? ⟨w.heap.size + 1 + 1, 6, none⟩ = some (.string o.text) := R2.cell 6
 clear hW hb1
 go_wp2_with (first | rw [hW2] | refine store_r rfl 87 _ _ rfl _ (cvc 4 b va vw vm ve) rfl rfl (rw_new w1 87 _) size87 rfl h2 ?_ | refine load_r 87 _ rfl rfl _ rfl RB Tryz.underlying87 rfl size87 ?_ | refine load_r 34 _ rfl rfl _ rfl R1 Tryz.underlying34 rfl zt ?_)
 refine (C w2 hb).mono ?_
 rintro e w3 ⟨ua, uw, um, ue, rfl, hz, hb3⟩
 obtain ⟨na, ea, nw, ew, nm, em, ne, ee, rfl, rfl, rfl, rfl⟩ := hz.slices
 replace R3 := R3.later hb3
 go_wp2_with (refine store_r rfl 27 _ _ rfl _ (cx z na ea nw ew nm em ne ee) rfl rfl R3 size27 rfl (by simp [Value.oneCell']) ?_)
 refine bodyPost_ret (results_r rfl rfl (R3.row _) rfl Tryz.underlying27 size27) rfl ?_
 exact ⟨_, _, _, _, rfl, hz.row R3 _, below_setRow (below_on hb hb3) (by omega) _⟩
theorem do4b (b : Int) (va vw vm ve : Value) (q u : Int) (v : List Int) (t : Int) (sl : Value) (i : Int) (o : O) (w : World) (hv : v.length = 13) (h1 : ones va vw vm ve) (a1 : (o.act == 1) = false) (a2 : (o.act == 2) = true) {z : X} (C : ∀ w', Below w.heap.size w w' → Calls Tryz.prog 41 #[CV 4 b va vw vm ve, TxV q u v t sl, .int .i64 i, .string o.text] w' (Gives z w')) :
  Calls Tryz.prog 21 #[CV 4 b va vw vm ve, TxV q u v t sl, .int .i64 i, o.val] w (Gives z w) := by
 obtain ⟨w0, hW⟩ : ∃ w0, (((w.alloc (.cells (cvc 4 b va vw vm ve) 27)).alloc (.cells (txc q u v t sl).toArray 34)).alloc (.cells o.cells.toArray 52)).alloc (.cells z4 27) = w0 := ⟨_, rfl⟩
 obtain ⟨R0, R1, R2, R3, hb⟩ := rows4 w _ _ _ _ _ _ _ _ hW
 have zt := size_tx (p := q) (s := u) (t := t) (sl := sl) hv
 have t83 : ∀ w, (Instr.typeAssert (.iface 87 (CV 4 b va vw vm ve)) 76 83 true).run Tryz.prog w = .ok (.tuple #[CV 0 0 (.slice none 0 0) (.slice none 0 0) (.slice none 0 0) (.slice none 0 0), .bool false]) w := fun _ => by kernel_rfl
 have t85 : ∀ w, (Instr.typeAssert (.iface 87 (CV 4 b va vw vm ve)) 76 85 true).run Tryz.prog w = .ok (.tuple #[CV 0 0 (.slice none 0 0) (.slice none 0 0) (.slice none 0 0) (.slice none 0 0), .bool false]) w := fun _ => by kernel_rfl
 have t87 : ∀ w, (Instr.typeAssert (.iface 87 (CV 4 b va vw vm ve)) 76 87 true).run Tryz.prog w = .ok (.tuple #[CV 4 b va vw vm ve, .bool true]) w := fun _ => by kernel_rfl
 have h2 := h1 4 b
 clear h1
 go_enter Tryz.func21, Tryz.ntmps21
 go_wp2_with (first | rw [hW] | refine load_r 27 _ rfl rfl _ rfl R0 Tryz.underlying27 rfl size27 ?_)
 refine (atWork_any 4 b va vw vm ve _).mono ?_
 rw [show wk 4 = 87 from rfl]
 rintro e w1 ⟨rfl, hb1⟩
 replace hb := below_on hb hb1
 obtain ⟨w2, hW2⟩ : ∃ w2, (w1.alloc (.cells z4 87)).setRow w1.heap.size (cvc 4 b va vw vm ve) = w2 := ⟨_, rfl⟩
 obtain ⟨RB, hb2⟩ := box_set hW2
 replace hb := below_on hb hb2
 have R0 := (R0.later hb1).later hb2
 have R1 := (R1.later hb1).later hb2
 have R2 := (R2.later hb1).later hb2
 replace R3 := (R3.later hb1).later hb2
 have c4 : w2.cell? ⟨w.heap.size + 1 + 1, 4, none⟩ = some (.int .i64 o.act) := R2.cell 4
 have c6 : w2.cell? ⟨w.heap.size + 1 + 1, 6, none⟩ = some (.string o.text) := R2.cell 6
 clear hW hb1
 go_wp2_with (first | rw [hW2] | refine store_r rfl 87 _ _ rfl _ (cvc 4 b va vw vm ve) rfl rfl (rw_new w1 87 _) size87 rfl h2 ?_ | refine load_r 87 _ rfl rfl _ rfl RB Tryz.underlying87 rfl size87 ?_ | refine load_r 34 _ rfl rfl _ rfl R1 Tryz.underlying34 rfl zt ?_)
 refine (C w2 hb).mono ?_
 rintro e w3 ⟨ua, uw, um, ue, rfl, hz, hb3⟩
 obtain ⟨na, ea, nw, ew, nm, em, ne, ee, rfl, rfl, rfl, rfl⟩ := hz.slices
 replace R3 := R3.later hb3
 go_wp2_with (refine store_r rfl 27 _ _ rfl _ (cx z na ea nw ew nm em ne ee) rfl rfl R3 size27 rfl (by simp [Value.oneCell']) ?_)
 refine bodyPost_ret (results_r rfl rfl (R3.row _) rfl Tryz.underlying27 size27) rfl ?_
 exact ⟨_, _, _, _, rfl, hz.row R3 _, below_setRow (below_on hb hb3) (by omega) _⟩
theorem do4 (b : Int) (va vw vm ve : Value) (q u : Int) (v : List Int) (t : Int) (sl : Value) (i : Int) (o : O) (w : World) (h1 : ones va vw vm ve) (a1 : (o.act == 1) = false) (a2 : (o.act == 2) = false) {z : X} (C : ∀ w', Below w.heap.size w w' → Calls Tryz.prog 35 #[CV 4 b va vw vm ve] w' (Gives z w')) :
  Calls Tryz.prog 21 #[CV 4 b va vw vm ve, TxV q u v t sl, .int .i64 i, o.val] w (Gives z w) := by
 obtain ⟨w0, hW⟩ : ∃ w0, (((w.alloc (.cells (cvc 4 b va vw vm ve) 27)).alloc (.cells (txc q u v t sl).toArray 34)).alloc (.cells o.cells.toArray 52)).alloc (.cells z4 27) = w0 := ⟨_, rfl⟩
 obtain ⟨R0, R1, R2, R3, hb⟩ := rows4 w _ _ _ _ _ _ _ _ hW
 have t83 : ∀ w, (Instr.typeAssert (.iface 87 (CV 4 b va vw vm ve)) 76 83 true).run Tryz.prog w = .ok (.tuple #[CV 0 0 (.slice none 0 0) (.slice none 0 0) (.slice none 0 0) (.slice none 0 0), .bool false]) w := fun _ => by kernel_rfl
 have t85 : ∀ w, (Instr.typeAssert (.iface 87 (CV 4 b va vw vm ve)) 76 85 true).run Tryz.prog w = .ok (.tuple #[CV 0 0 (.slice none 0 0) (.slice none 0 0) (.slice none 0 0) (.slice none 0 0), .bool false]) w := fun _ => by kernel_rfl
 have t87 : ∀ w, (Instr.typeAssert (.iface 87 (CV 4 b va vw vm ve)) 76 87 true).run Tryz.prog w = .ok (.tuple #[CV 4 b va vw vm ve, .bool true]) w := fun _ => by kernel_rfl
 have h2 := h1 4 b
 clear h1
 go_enter Tryz.func21, Tryz.ntmps21
 go_wp2_with (first | rw [hW] | refine load_r 27 _ rfl rfl _ rfl R0 Tryz.underlying27 rfl size27 ?_)
 refine (atWork_any 4 b va vw vm ve _).mono ?_
 rw [show wk 4 = 87 from rfl]
 rintro e w1 ⟨rfl, hb1⟩
 replace hb := below_on hb hb1
 obtain ⟨w2, hW2⟩ : ∃ w2, (w1.alloc (.cells z4 87)).setRow w1.heap.size (cvc 4 b va vw vm ve) = w2 := ⟨_, rfl⟩
 obtain ⟨RB, hb2⟩ := box_set hW2
 replace hb := below_on hb hb2
 have R0 := (R0.later hb1).later hb2
 have R1 := (R1.later hb1).later hb2
 have R2 := (R2.later hb1).later hb2
 replace R3 := (R3.later hb1).later hb2
 have c4 : w2.cell? ⟨w.heap.size + 1 + 1, 4, none⟩ = some (.int .i64 o.act) := R2.cell 4
 clear hW hb1
 go_wp2_with (first | rw [hW2] | refine store_r rfl 87 _ _ rfl _ (cvc 4 b va vw vm ve) rfl rfl (rw_new w1 87 _) size87 rfl h2 ?_ | refine load_r 27 _ rfl rfl _ rfl R0 Tryz.underlying27 rfl size27 ?_)
 refine (C w2 hb).mono ?_
 rintro e w3 ⟨ua, uw, um, ue, rfl, hz, hb3⟩
 obtain ⟨na, ea, nw, ew, nm, em, ne, ee, rfl, rfl, rfl, rfl⟩ := hz.slices
 replace R3 := R3.later hb3
 go_wp2_with (refine store_r rfl 27 _ _ rfl _ (cx z na ea nw ew nm em ne ee) rfl rfl R3 size27 rfl (by simp [Value.oneCell']) ?_)
 refine bodyPost_ret (results_r rfl rfl (R3.row _) rfl Tryz.underlying27 size27) rfl ?_
 exact ⟨_, _, _, _, rfl, hz.row R3 _, below_setRow (below_on hb hb3) (by omega) _⟩
theorem do5a (b : Int) (va vw vm ve : Value) (q u : Int) (v : List Int) (t : Int) (sl : Value) (i : Int) (o : O) (w : World) (hv : v.length = 13) (h1 : ones va vw vm ve) (a4 : (o.act == 4) = true) {z : X} (C : ∀ w', Below w.heap.size w w' → Calls Tryz.prog 42 #[CV 5 b va vw vm ve, TxV q u v t sl, .int .i64 i, MV o.p o.s o.i, .string o.text] w' (Gives z w')) :
  Calls Tryz.prog 21 #[CV 5 b va vw vm ve, TxV q u v t sl, .int .i64 i, o.val] w (Gives z w) := by
 obtain ⟨w0, hW⟩ : ∃ w0, (((w.alloc (.cells (cvc 5 b va vw vm ve) 27)).alloc (.cells (txc q u v t sl).toArray 34)).alloc (.cells o.cells.toArray 52)).alloc (.cells z4 27) = w0 := ⟨_, rfl⟩
 obtain ⟨R0, R1, R2, R3, hb⟩ := rows4 w _ _ _ _ _ _ _ _ hW
 have zt := size_tx (p := q) (s := u) (t := t) (sl := sl) hv
 have t83 : ∀ w, (Instr.typeAssert (.iface 88 (CV 5 b va vw vm ve)) 76 83 true).run Tryz.prog w = .ok (.tuple #[CV 0 0 (.slice none 0 0) (.slice none 0 0) (.slice none 0 0) (.slice none 0 0), .bool false]) w := fun _ => by kernel_rfl
 have t85 : ∀ w, (Instr.typeAssert (.iface 88 (CV 5 b va vw vm ve)) 76 85 true).run Tryz.prog w = .ok (.tuple #[CV 0 0 (.slice none 0 0) (.slice none 0 0) (.slice none 0 0) (.slice none 0 0), .bool false]) w := fun _ => by kernel_rfl
 have t87 : ∀ w, (Instr.typeAssert (.iface 88 (CV 5 b va vw vm ve)) 76 87 true).run Tryz.prog w = .ok (.tuple #[CV 0 0 (.slice none 0 0) (.slice none 0 0) (.slice none 0 0) (.slice none 0 0), .bool false]) w := fun _ => by kernel_rfl
 have t88 : ∀ w, (Instr.typeAssert (.iface 88 (CV 5 b va vw vm ve)) 76 88 true).run Tryz.prog w = .ok (.tuple #[CV 5 b va vw vm ve, .bool true]) w := fun _ => by kernel_rfl
 have h2 := h1 5 b
 clear h1
 go_enter Tryz.func21, Tryz.ntmps21
 go_wp2_with (first | rw [hW] | refine load_r 27 _ rfl rfl _ rfl R0 Tryz.underlying27 rfl size27 ?_)
 refine (atWork_any 5 b va vw vm ve _).mono ?_
 rw [show wk 5 = 88 from rfl]
 rintro e w1 ⟨rfl, hb1⟩
 replace hb := below_on hb hb1
 obtain ⟨w2, hW2⟩ : ∃ w2, (w1.alloc (.cells z4 88)).setRow w1.heap.size (cvc 5 b va vw vm ve) = w2 := ⟨_, rfl⟩
 obtain ⟨RB, hb2⟩ := box_set hW2
 replace hb := below_on hb hb2
 have R0 := (R0.later hb1).later hb2
 have R1 := (R1.later hb1).later hb2
 have R2 := (R2.later hb1).later hb2
 replace R3 := (R3.later hb1).later hb2
 have c4 : w2.cell? ⟨w.heap.size + 1 + 1, 4, none⟩ = some (.int .i64 o.act) := R2.cell 4
 have d7 : w2.rangeAt (w.heap.size + 1 + 1) 7 [.int .i64 o.p, .int .i64 o.s, .int .i64 o.i] := R2.range 7 _ fun j y hy => by
  match j with
  | 0 => simpa using hy
  | 1 => simpa using hy
  | 2 => simpa using hy
  | j + 3 => simp at hy
 have c6 : w2.cell? ⟨w.heap.size + 1 + 1, 6, none⟩ = some (.string o.text) := R2.cell 6
 clear hW hb1
 go_wp2_with (first | rw [hW2] | refine store_r rfl 88 _ _ rfl _ (cvc 5 b va vw vm ve) rfl rfl (rw_new w1 88 _) size88 rfl h2 ?_ | refine load_r 88 _ rfl rfl _ rfl RB Tryz.underlying88 rfl size88 ?_ | refine load_r 34 _ rfl rfl _ rfl R1 Tryz.underlying34 rfl zt ?_ | refine load_m 50 _ rfl rfl _ _ rfl d7 Tryz.underlying50 rfl size50 ?_)
 refine (C w2 hb).mono ?_
 rintro e w3 ⟨ua, uw, um, ue, rfl, hz, hb3⟩
 obtain ⟨na, ea, nw, ew, nm, em, ne, ee, rfl, rfl, rfl, rfl⟩ := hz.slices
 replace R3 := R3.later hb3
 go_wp2_with (refine store_r rfl 27 _ _ rfl _ (cx z na ea nw ew nm em ne ee) rfl rfl R3 size27 rfl (by simp [Value.oneCell']) ?_)
 refine bodyPost_ret (results_r rfl rfl (R3.row _) rfl Tryz.underlying27 size27) rfl ?_
 exact ⟨_, _, _, _, rfl, hz.row R3 _, below_setRow (below_on hb hb3) (by omega) _⟩
theorem do5b (b : Int) (va vw vm ve : Value) (q u : Int) (v : List Int) (t : Int) (sl : Value) (i : Int) (o : O) (w : World) (hv : v.length = 13) (h1 : ones va vw vm ve) (a4 : (o.act == 4) = false) (a2 : (o.act == 2) = true) {z : X} (C : ∀ w', Below w.heap.size w w' → Calls Tryz.prog 43 #[CV 5 b va vw vm ve, TxV q u v t sl, .int .i64 i, MV o.p o.s o.i] w' (Gives z w')) :
  Calls Tryz.prog 21 #[CV 5 b va vw vm ve, TxV q u v t sl, .int .i64 i, o.val] w (Gives z w) := by
 obtain ⟨w0, hW⟩ : ∃ w0, (((w.alloc (.cells (cvc 5 b va vw vm ve) 27)).alloc (.cells (txc q u v t sl).toArray 34)).alloc (.cells o.cells.toArray 52)).alloc (.cells z4 27) = w0 := ⟨_, rfl⟩
 obtain ⟨R0, R1, R2, R3, hb⟩ := rows4 w _ _ _ _ _ _ _ _ hW
 have zt := size_tx (p := q) (s := u) (t := t) (sl := sl) hv
 have t83 : ∀ w, (Instr.typeAssert (.iface 88 (CV 5 b va vw vm ve)) 76 83 true).run Tryz.prog w = .ok (.tuple #[CV 0 0 (.slice none 0 0) (.slice none 0 0) (.slice none 0 0) (.slice none 0 0), .bool false]) w := fun _ => by kernel_rfl
 have t85 : ∀ w, (Instr.typeAssert (.iface 88 (CV 5 b va vw vm ve)) 76 85 true).run Tryz.prog w = .ok (.tuple #[CV 0 0 (.slice none 0 0) (.slice none 0 0) (.slice none 0 0) (.slice none 0 0), .bool false]) w := fun _ => by kernel_rfl
 have t87 : ∀ w, (Instr.typeAssert (.iface 88 (CV 5 b va vw vm ve)) 76 87 true).run Tryz.prog w = .ok (.tuple #[CV 0 0 (.slice none 0 0) (.slice none 0 0) (.slice none 0 0) (.slice none 0 0), .bool false]) w := fun _ => by kernel_rfl
 have t88 : ∀ w, (Instr.typeAssert (.iface 88 (CV 5 b va vw vm ve)) 76 88 true).run Tryz.prog w = .ok (.tuple #[CV 5 b va vw vm ve, .bool true]) w := fun _ => by kernel_rfl
 have h2 := h1 5 b
 clear h1
 go_enter Tryz.func21, Tryz.ntmps21
 go_wp2_with (first | rw [hW] | refine load_r 27 _ rfl rfl _ rfl R0 Tryz.underlying27 rfl size27 ?_)
 refine (atWork_any 5 b va vw vm ve _).mono ?_
 rw [show wk 5 = 88 from rfl]
 rintro e w1 ⟨rfl, hb1⟩
 replace hb := below_on hb hb1
 obtain ⟨w2, hW2⟩ : ∃ w2, (w1.alloc (.cells z4 88)).setRow w1.heap.size (cvc 5 b va vw vm ve) = w2 := ⟨_, rfl⟩
 obtain ⟨RB, hb2⟩ := box_set hW2
 replace hb := below_on hb hb2
 have R0 := (R0.later hb1).later hb2
 have R1 := (R1.later hb1).later hb2
 have R2 := (R2.later hb1).later hb2
 replace R3 := (R3.later hb1).later hb2
 have c4 : w2.cell? ⟨w.heap.size + 1 + 1, 4, none⟩ = some (.int .i64 o.act) := R2.cell 4
 have d7 : w2.rangeAt (w.heap.size + 1 + 1) 7 [.int .i64 o.p, .int .i64 o.s, .int .i64 o.i] := R2.range 7 _ fun j y hy => by
  match j with
  | 0 => simpa using hy
  | 1 => simpa using hy
  | 2 => simpa using hy
  | j + 3 => simp at hy
 clear hW hb1
 go_wp2_with (first | rw [hW2] | refine store_r rfl 88 _ _ rfl _ (cvc 5 b va vw vm ve) rfl rfl (rw_new w1 88 _) size88 rfl h2 ?_ | refine load_r 88 _ rfl rfl _ rfl RB Tryz.underlying88 rfl size88 ?_ | refine load_r 34 _ rfl rfl _ rfl R1 Tryz.underlying34 rfl zt ?_ | refine load_m 50 _ rfl rfl _ _ rfl d7 Tryz.underlying50 rfl size50 ?_)
 refine (C w2 hb).mono ?_
 rintro e w3 ⟨ua, uw, um, ue, rfl, hz, hb3⟩
 obtain ⟨na, ea, nw, ew, nm, em, ne, ee, rfl, rfl, rfl, rfl⟩ := hz.slices
 replace R3 := R3.later hb3
 go_wp2_with (refine store_r rfl 27 _ _ rfl _ (cx z na ea nw ew nm em ne ee) rfl rfl R3 size27 rfl (by simp [Value.oneCell']) ?_)
 refine bodyPost_ret (results_r rfl rfl (R3.row _) rfl Tryz.underlying27 size27) rfl ?_
 exact ⟨_, _, _, _, rfl, hz.row R3 _, below_setRow (below_on hb hb3) (by omega) _⟩
theorem do5 (b : Int) (va vw vm ve : Value) (q u : Int) (v : List Int) (t : Int) (sl : Value) (i : Int) (o : O) (w : World) (h1 : ones va vw vm ve) (a4 : (o.act == 4) = false) (a2 : (o.act == 2) = false) {z : X} (C : ∀ w', Below w.heap.size w w' → Calls Tryz.prog 35 #[CV 5 b va vw vm ve] w' (Gives z w')) :
  Calls Tryz.prog 21 #[CV 5 b va vw vm ve, TxV q u v t sl, .int .i64 i, o.val] w (Gives z w) := by
 obtain ⟨w0, hW⟩ : ∃ w0, (((w.alloc (.cells (cvc 5 b va vw vm ve) 27)).alloc (.cells (txc q u v t sl).toArray 34)).alloc (.cells o.cells.toArray 52)).alloc (.cells z4 27) = w0 := ⟨_, rfl⟩
 obtain ⟨R0, R1, R2, R3, hb⟩ := rows4 w _ _ _ _ _ _ _ _ hW
 have t83 : ∀ w, (Instr.typeAssert (.iface 88 (CV 5 b va vw vm ve)) 76 83 true).run Tryz.prog w = .ok (.tuple #[CV 0 0 (.slice none 0 0) (.slice none 0 0) (.slice none 0 0) (.slice none 0 0), .bool false]) w := fun _ => by kernel_rfl
 have t85 : ∀ w, (Instr.typeAssert (.iface 88 (CV 5 b va vw vm ve)) 76 85 true).run Tryz.prog w = .ok (.tuple #[CV 0 0 (.slice none 0 0) (.slice none 0 0) (.slice none 0 0) (.slice none 0 0), .bool false]) w := fun _ => by kernel_rfl
 have t87 : ∀ w, (Instr.typeAssert (.iface 88 (CV 5 b va vw vm ve)) 76 87 true).run Tryz.prog w = .ok (.tuple #[CV 0 0 (.slice none 0 0) (.slice none 0 0) (.slice none 0 0) (.slice none 0 0), .bool false]) w := fun _ => by kernel_rfl
 have t88 : ∀ w, (Instr.typeAssert (.iface 88 (CV 5 b va vw vm ve)) 76 88 true).run Tryz.prog w = .ok (.tuple #[CV 5 b va vw vm ve, .bool true]) w := fun _ => by kernel_rfl
 have h2 := h1 5 b
 clear h1
 go_enter Tryz.func21, Tryz.ntmps21
 go_wp2_with (first | rw [hW] | refine load_r 27 _ rfl rfl _ rfl R0 Tryz.underlying27 rfl size27 ?_)
 refine (atWork_any 5 b va vw vm ve _).mono ?_
 rw [show wk 5 = 88 from rfl]
 rintro e w1 ⟨rfl, hb1⟩
 replace hb := below_on hb hb1
 obtain ⟨w2, hW2⟩ : ∃ w2, (w1.alloc (.cells z4 88)).setRow w1.heap.size (cvc 5 b va vw vm ve) = w2 := ⟨_, rfl⟩
 obtain ⟨RB, hb2⟩ := box_set hW2
 replace hb := below_on hb hb2
 have R0 := (R0.later hb1).later hb2
 have R1 := (R1.later hb1).later hb2
 have R2 := (R2.later hb1).later hb2
 replace R3 := (R3.later hb1).later hb2
 have c4 : w2.cell? ⟨w.heap.size + 1 + 1, 4, none⟩ = some (.int .i64 o.act) := R2.cell 4
 clear hW hb1
 go_wp2_with (first | rw [hW2] | refine store_r rfl 88 _ _ rfl _ (cvc 5 b va vw vm ve) rfl rfl (rw_new w1 88 _) size88 rfl h2 ?_ | refine load_r 27 _ rfl rfl _ rfl R0 Tryz.underlying27 rfl size27 ?_)
 refine (C w2 hb).mono ?_
 rintro e w3 ⟨ua, uw, um, ue, rfl, hz, hb3⟩
 obtain ⟨na, ea, nw, ew, nm, em, ne, ee, rfl, rfl, rfl, rfl⟩ := hz.slices
 replace R3 := R3.later hb3
 go_wp2_with (refine store_r rfl 27 _ _ rfl _ (cx z na ea nw ew nm em ne ee) rfl rfl R3 size27 rfl (by simp [Value.oneCell']) ?_)
 refine bodyPost_ret (results_r rfl rfl (R3.row _) rfl Tryz.underlying27 size27) rfl ?_
 exact ⟨_, _, _, _, rfl, hz.row R3 _, below_setRow (below_on hb hb3) (by omega) _⟩
theorem do0 (k b : Int) (va vw vm ve : Value) (q u : Int) (v : List Int) (t : Int) (sl : Value) (i : Int) (o : O) (w : World) (h1 : ones va vw vm ve) (hk : (k == 1) = false ∧ (k == 2) = false ∧ (k == 3) = false ∧ (k == 4) = false ∧ (k == 5) = false) {z : X} (C : ∀ w', Below w.heap.size w w' → Calls Tryz.prog 35 #[CV k b va vw vm ve] w' (Gives z w')) :
  Calls Tryz.prog 21 #[CV k b va vw vm ve, TxV q u v t sl, .int .i64 i, o.val] w (Gives z w) := by
 obtain ⟨w0, hW⟩ : ∃ w0, (((w.alloc (.cells (cvc k b va vw vm ve) 27)).alloc (.cells (txc q u v t sl).toArray 34)).alloc (.cells o.cells.toArray 52)).alloc (.cells z4 27) = w0 := ⟨_, rfl⟩
 obtain ⟨R0, R1, R2, R3, hb⟩ := rows4 w _ _ _ _ _ _ _ _ hW
 have t83 : ∀ w, (Instr.typeAssert (.iface 97 (CV k b va vw vm ve)) 76 83 true).run Tryz.prog w = .ok (.tuple #[CV 0 0 (.slice none 0 0) (.slice none 0 0) (.slice none 0 0) (.slice none 0 0), .bool false]) w := fun _ => by kernel_rfl
 have t85 : ∀ w, (Instr.typeAssert (.iface 97 (CV k b va vw vm ve)) 76 85 true).run Tryz.prog w = .ok (.tuple #[CV 0 0 (.slice none 0 0) (.slice none 0 0) (.slice none 0 0) (.slice none 0 0), .bool false]) w := fun _ => by kernel_rfl
 have t87 : ∀ w, (Instr.typeAssert (.iface 97 (CV k b va vw vm ve)) 76 87 true).run Tryz.prog w = .ok (.tuple #[CV 0 0 (.slice none 0 0) (.slice none 0 0) (.slice none 0 0) (.slice none 0 0), .bool false]) w := fun _ => by kernel_rfl
 have t88 : ∀ w, (Instr.typeAssert (.iface 97 (CV k b va vw vm ve)) 76 88 true).run Tryz.prog w = .ok (.tuple #[CV 0 0 (.slice none 0 0) (.slice none 0 0) (.slice none 0 0) (.slice none 0 0), .bool false]) w := fun _ => by kernel_rfl
 have h2 := h1 k b
 clear h1
 go_enter Tryz.func21, Tryz.ntmps21
 go_wp2_with (first | rw [hW] | refine load_r 27 _ rfl rfl _ rfl R0 Tryz.underlying27 rfl size27 ?_)
 refine (atWork_any k b va vw vm ve _).mono ?_
 rw [wk0 hk]
 rintro e w1 ⟨rfl, hb1⟩
 replace hb := below_on hb hb1
 have R0 := R0.later hb1
 replace R3 := R3.later hb1
 clear hW hb1
 go_wp2_with (first | refine load_r 27 _ rfl rfl _ rfl R0 Tryz.underlying27 rfl size27 ?_)
 refine (C w1 hb).mono ?_
 rintro e w3 ⟨ua, uw, um, ue, rfl, hz, hb3⟩
 obtain ⟨na, ea, nw, ew, nm, em, ne, ee, rfl, rfl, rfl, rfl⟩ := hz.slices
 replace R3 := R3.later hb3
 go_wp2_with (refine store_r rfl 27 _ _ rfl _ (cx z na ea nw ew nm em ne ee) rfl rfl R3 size27 rfl (by simp [Value.oneCell']) ?_)
 refine bodyPost_ret (results_r rfl rfl (R3.row _) rfl Tryz.underlying27 size27) rfl ?_
 exact ⟨_, _, _, _, rfl, hz.row R3 _, below_setRow (below_on hb hb3) (by omega) _⟩
def doc (x : X) (o : O) (q u : Int) (v : List Int) (t i : Int) : X := cse x.k
 (if (o.act == 1) = true then Ct.doX x ⟨q, u, i, o.n⟩ else x)
 (if (o.act == 3) = true then Rg.doX x ⟨q, u, i, t, o.text⟩ v else x)
 (if (o.act == 1) = true then Os.addX x ⟨q, u, i⟩ o.text else if (o.act == 2) = true then Os.delX x q u v i o.text else x)
 (if (o.act == 4) = true then insX x ⟨q, u, i, t, o.p, o.s, o.i, o.text, []⟩ (bfP q u v i) else if (o.act == 2) = true then goX x ⟨q, u, i⟩ (fun y => decide (kM y = kM ⟨o.p, o.s, o.i⟩)) else x)
 x
theorem do_c (x : X) (va vw vm ve : Value) (q u : Int) (v : List Int) (t : Int) (sl : Value) (i : Int) (o : O) (w : World) (hv : v.length = 13) (hx : o.text.size ≤ 1000) (h : Four w x va vw vm ve) (hs : Sm x) :
  Calls Tryz.prog 21 #[CV x.k x.b va vw vm ve, TxV q u v t sl, .int .i64 i, o.val] w (Gives (doc x o q u v t i) w) := by
 have h1 := h.ones
 obtain ⟨k, b, am, wr, mb, el⟩ := x
 rcases kinds k with rfl | rfl | rfl | rfl | rfl | hk
 ·cases a1 : (o.act == 1)
  ·rw [show doc ⟨1, b, am, wr, mb, el⟩ o q u v t i = ⟨1, b, am, wr, mb, el⟩ by simp only [doc, cse1, a1]; rfl]
   exact do1 b va vw vm ve q u v t sl i o w h1 a1 (fun w' hb => copy_c ⟨1, b, am, wr, mb, el⟩ va vw vm ve w' (h.later hb) hs)
  ·rw [show doc ⟨1, b, am, wr, mb, el⟩ o q u v t i = Ct.doX ⟨1, b, am, wr, mb, el⟩ ⟨q, u, i, o.n⟩ by simp only [doc, cse1, a1]; rfl]
   exact do1a b va vw vm ve q u v t sl i o w hv h1 a1 fun w' hb => Ct.do_any ⟨1, b, am, wr, mb, el⟩ va vw vm ve q u v t sl i o.n w' hv (h.later hb) hs
 ·cases a3 : (o.act == 3)
  ·rw [show doc ⟨2, b, am, wr, mb, el⟩ o q u v t i = ⟨2, b, am, wr, mb, el⟩ by simp only [doc, cse2, a3]; rfl]
   exact do2 b va vw vm ve q u v t sl i o w h1 a3 (fun w' hb => copy_c ⟨2, b, am, wr, mb, el⟩ va vw vm ve w' (h.later hb) hs)
  ·rw [show doc ⟨2, b, am, wr, mb, el⟩ o q u v t i = Rg.doX ⟨2, b, am, wr, mb, el⟩ ⟨q, u, i, t, o.text⟩ v by simp only [doc, cse2, a3]; rfl]
   exact do2a b va vw vm ve q u v t sl i o w hv h1 a3 fun w' hb => Rg.do_any ⟨2, b, am, wr, mb, el⟩ va vw vm ve q u v t sl i o.text w' hv (h.later hb) hs
 ·cases a3 : (o.act == 3)
  ·rw [show doc ⟨3, b, am, wr, mb, el⟩ o q u v t i = ⟨3, b, am, wr, mb, el⟩ by simp only [doc, cse3, a3]; rfl]
   exact do3 b va vw vm ve q u v t sl i o w h1 a3 (fun w' hb => copy_c ⟨3, b, am, wr, mb, el⟩ va vw vm ve w' (h.later hb) hs)
  ·rw [show doc ⟨3, b, am, wr, mb, el⟩ o q u v t i = Rg.doX ⟨3, b, am, wr, mb, el⟩ ⟨q, u, i, t, o.text⟩ v by simp only [doc, cse3, a3]; rfl]
   exact do3a b va vw vm ve q u v t sl i o w hv h1 a3 fun w' hb => Rg.do_any ⟨3, b, am, wr, mb, el⟩ va vw vm ve q u v t sl i o.text w' hv (h.later hb) hs
 ·cases a1 : (o.act == 1)
  ·cases a2 : (o.act == 2)
   ·rw [show doc ⟨4, b, am, wr, mb, el⟩ o q u v t i = ⟨4, b, am, wr, mb, el⟩ by simp only [doc, cse4, a1, a2]; rfl]
    exact do4 b va vw vm ve q u v t sl i o w h1 a1 a2 (fun w' hb => copy_c ⟨4, b, am, wr, mb, el⟩ va vw vm ve w' (h.later hb) hs)
   ·rw [show doc ⟨4, b, am, wr, mb, el⟩ o q u v t i = Os.delX ⟨4, b, am, wr, mb, el⟩ q u v i o.text by simp only [doc, cse4, a1, a2]; rfl]
    exact do4b b va vw vm ve q u v t sl i o w hv h1 a1 a2 fun w' hb => Os.del_any ⟨4, b, am, wr, mb, el⟩ va vw vm ve q u v t sl i o.text w' hv (h.later hb) hs hx
  ·rw [show doc ⟨4, b, am, wr, mb, el⟩ o q u v t i = Os.addX ⟨4, b, am, wr, mb, el⟩ ⟨q, u, i⟩ o.text by simp only [doc, cse4, a1]; rfl]
   exact do4a b va vw vm ve q u v t sl i o w hv h1 a1 fun w' hb => Os.add_any ⟨4, b, am, wr, mb, el⟩ va vw vm ve q u v t sl i o.text w' hv (h.later hb) hs
 ·cases a4 : (o.act == 4)
  ·cases a2 : (o.act == 2)
   ·rw [show doc ⟨5, b, am, wr, mb, el⟩ o q u v t i = ⟨5, b, am, wr, mb, el⟩ by simp only [doc, cse5, a4, a2]; rfl]
    exact do5 b va vw vm ve q u v t sl i o w h1 a4 a2 (fun w' hb => copy_c ⟨5, b, am, wr, mb, el⟩ va vw vm ve w' (h.later hb) hs)
   ·rw [show doc ⟨5, b, am, wr, mb, el⟩ o q u v t i = goX ⟨5, b, am, wr, mb, el⟩ ⟨q, u, i⟩ (fun y => decide (kM y = kM ⟨o.p, o.s, o.i⟩)) by simp only [doc, cse5, a4, a2]; rfl]
    exact do5b b va vw vm ve q u v t sl i o w hv h1 a4 a2 fun w' hb => del_any ⟨5, b, am, wr, mb, el⟩ va vw vm ve q u v t sl i ⟨o.p, o.s, o.i⟩ w' hv (h.later hb) hs
  ·rw [show doc ⟨5, b, am, wr, mb, el⟩ o q u v t i = insX ⟨5, b, am, wr, mb, el⟩ ⟨q, u, i, t, o.p, o.s, o.i, o.text, []⟩ (bfP q u v i) by simp only [doc, cse5, a4]; rfl]
   exact do5a b va vw vm ve q u v t sl i o w hv h1 a4 fun w' hb => ins_any ⟨5, b, am, wr, mb, el⟩ va vw vm ve q u v t sl i ⟨o.p, o.s, o.i⟩ o.text w' hv (h.later hb) hs
 ·rw [show doc ⟨k, b, am, wr, mb, el⟩ o q u v t i = ⟨k, b, am, wr, mb, el⟩ from cse0 _ _ _ _ _ hk]
  exact do0 k b va vw vm ve q u v t sl i o w h1 hk (fun w' hb => copy_c ⟨k, b, am, wr, mb, el⟩ va vw vm ve w' (h.later hb) hs)
end Go.Proofs.YtjbbmcommnhgeaaGreat
namespace Go.Proofs.YtjbbmcommnhgeaaGreat.Ct
open Go.RowKit
theorem refCheck_any (x : X) (va vw vm ve : Value) (w : World) (h : Four w x va vw vm ve) (hs : Sm x) : Calls Tryz.prog 29 #[CV x.k x.b va vw vm ve] w (Tells (.bool (ck x)) w) := by
 obtain ⟨z, HZ⟩ := hid_ex (ck x)
 rw [HZ.out]
 obtain ⟨pa, ca', pw, cw, pm, cm, pe, ce, rfl, rfl, rfl, rfl⟩ := h.slices
 have HR : Hid (AHas w (.slice pa x.am.length ca') x.am) := h.a
 clear h
 obtain ⟨ha, ht, hm, he, _, _⟩ := hs
 have R0 := rw_new w 27 (cvc x.k x.b (.slice pa x.am.length ca') (.slice pw x.wr.length cw) (.slice pm x.mb.length cm) (.slice pe x.el.length ce))
 have hbel := bel_alloc (Below.refl w.heap.size w) (.cells (cvc x.k x.b (.slice pa x.am.length ca') (.slice pw x.wr.length cw) (.slice pm x.mb.length cm) (.slice pe x.el.length ce)) 27)
 by_cases hk : x.k = 1
 ·by_cases h0 : x.wr.length + x.mb.length + x.el.length = 0
  ·have e1 : x.wr.length = 0 := by omega
   have e2 : x.mb.length = 0 := by omega
   have e3 : x.el.length = 0 := by omega
   by_cases hb1 : x.b < -1152921504606846976
   ·obtain rfl : z = false := by
     rw [← HZ.out]
     unfold ck wi
     rw [decide_eq_false (show ¬ -1152921504606846976 ≤ x.b by omega)]
     simp
    rw [e1, e2, e3]
    go_enter Tryz.func29, Tryz.ntmps29
    go_wp2_with fail
    go_ret
    exact ⟨rfl, bel_alloc (Below.refl _ _) _⟩
   ·by_cases hb2 : 1152921504606846976 < x.b
    ·obtain rfl : z = false := by
      rw [← HZ.out]
      unfold ck wi
      rw [decide_eq_false (show ¬ x.b ≤ 1152921504606846976 by omega)]
      simp
     have hb1' : ¬ x.b < -1152921504606846976 := hb1
     rw [e1, e2, e3]
     go_enter Tryz.func29, Tryz.ntmps29
     go_wp2_with fail
     go_ret
     exact ⟨rfl, bel_alloc (Below.refl _ _) _⟩
    ·have HZ2 : Hid (ca x.am = z) := by
      show _ = _
      rw [← HZ.out]
      unfold ck wi
      rw [decide_eq_true hk, decide_eq_true h0, decide_eq_true (show -1152921504606846976 ≤ x.b by omega), decide_eq_true (show x.b ≤ 1152921504606846976 by omega)]
      rfl
     have hd1 : decide (x.b < -1152921504606846976) = false := decide_eq_false hb1
     have hd2 : decide (1152921504606846976 < x.b) = false := decide_eq_false hb2
     clear HZ
     rw [e1, e2, e3] at R0 hbel ⊢
     rw [hk] at R0 hbel ⊢
     obtain ⟨l, HL⟩ := hid_ex x.am
     rw [HL.out] at HR HZ2 ha
     have e4 : x.am.length = l.length := by rw [HL.out]
     rw [e4] at R0 hbel ⊢
     clear e4 HL e1 e2 e3 h0 hb1 hb2 ht hm he
     generalize hW : w.alloc (.cells (cvc 1 x.b (.slice pa l.length ca') (.slice pw 0 cw) (.slice pm 0 cm) (.slice pe 0 ce)) 27) = w0 at R0 hbel
     have c1 : w0.cell? ⟨w.heap.size, 1, none⟩ = some (.int .i64 x.b) := R0.cell 1
     have c0 : w0.cell? ⟨w.heap.size, 0, none⟩ = some (.int .i64 1) := R0.cell 0
     have c3 : w0.cell? ⟨w.heap.size, 3, none⟩ = some (.slice pw 0 cw) := R0.cell 3
     have c4 : w0.cell? ⟨w.heap.size, 4, none⟩ = some (.slice pm 0 cm) := R0.cell 4
     have c5 : w0.cell? ⟨w.heap.size, 5, none⟩ = some (.slice pe 0 ce) := R0.cell 5
     go_enter Tryz.func29, Tryz.ntmps29
     go_wp2_with (first | rw [hW])
     clear hW c0 c1 c3 c4 c5 hd1 hd2
     go_loopw [3] (fun vi wr => ∃ k : Nat, vi = .int .i64 k ∧ k ≤ l.length ∧ Rw wr w.heap.size 27 (cvc 1 x.b (.slice pa l.length ca') (.slice pw 0 cw) (.slice pm 0 cm) (.slice pe 0 ce)) ∧ Hid (∀ i (h : i < l.length), i < k → okk l i h = true) ∧ Below w.heap.size w wr) (fun vi _ => l.length - (intOf vi).toNat)
     case atStart => exact ⟨0, rfl, by omega, R0, (show ∀ i (_ : i < l.length), i < 0 → _ from fun i _ h => by omega), hbel⟩
     case round =>
      clear R0 hbel
      obtain ⟨k, rfl, hk, R0, HV, hbel⟩ := hrel
      have c2 : wr.cell? ⟨w.heap.size, 2, none⟩ = some (.slice pa l.length ca') := R0.cell 2
      by_cases hlt : k < l.length
      ·have hlt' : (k : Int) < (l.length : Int) := by omega
       obtain ⟨g, o, rfl, hd0⟩ := HR.out.at (by omega)
       have hd := range_later hd0 hbel
       clear hd0 HR
       have d := AHas.elem hd k hlt
       obtain ⟨y, HY⟩ := hid_ex l[k]
       rw [HY.out] at d
       have z42 : (Tryz.prog.info? 71).map (·.size) = some y.cells.length := size71
       have zm : (Tryz.prog.info? 50).map (·.size) = some [Value.int .i64 y.p, .int .i64 y.s, .int .i64 y.i].length := size50
       have RB := rw_new wr 71 #[.int .i64 y.p, .int .i64 y.s, .int .i64 y.i, .int .i64 y.n]
       have hba := bel_alloc (Below.refl wr.heap.size wr) (.cells #[.int .i64 y.p, .int .i64 y.s, .int .i64 y.i, .int .i64 y.n] 71)
       generalize hW : wr.alloc (.cells #[.int .i64 y.p, .int .i64 y.s, .int .i64 y.i, .int .i64 y.n] 71) = wx at RB hba
       go_wp2_with (first | rw [hW] | refine load_m 71 _ rfl rfl _ _ rfl d Tryz.underlying71 rfl z42 ?_)
       clear hW
       replace R0 := R0.later hba
       replace hbel := below_on hbel hba
       have C1 := fun w => refAmount_any y.n w
       have hO0 : ∀ h', okk l k h' = (ia y.i y.n && (decide (k = 0) || lt (l[k - 1]'(by omega)) y)) := fun h' => by unfold okk; rw [HY.out]
       have HO0 : Hid (∀ h', okk l k h' = (ia y.i y.n && (decide (k = 0) || lt (l[k - 1]'(by omega)) y))) := hO0
       clear hO0
       obtain ⟨y1, HY1⟩ := hid_ex (wi y.n (-1073741824) 1073741824)
       rw [HY1.out] at C1
       cases y1
       ·have HF := ca_not HZ2 hlt (by rw [HO0.out]; unfold ia; rw [HY1.out]; simp)
        have e := HF.out
        subst e
        clear HZ2 HF HV hd d HO0
        have hs : Calm.Stays (fun w' => Rw w' w.heap.size 27 (cvc 1 x.b (.slice (some ⟨g, o, none⟩) l.length ca') (.slice pw 0 cw) (.slice pm 0 cm) (.slice pe 0 ce)) ∧ Rw w' wr.heap.size 71 #[.int .i64 y.p, .int .i64 y.s, .int .i64 y.i, .int .i64 y.n] ∧ Below w.heap.size w w') := fun wa wb h hb => ⟨h.1.later hb, h.2.1.later hb, below_on h.2.2 hb⟩
        refine Calm.region (by kernel_rfl) (by kernel_rfl) (fun w' => Rw w' w.heap.size 27 (cvc 1 x.b (.slice (some ⟨g, o, none⟩) l.length ca') (.slice pw 0 cw) (.slice pm 0 cm) (.slice pe 0 ce)) ∧ Rw w' wr.heap.size 71 #[.int .i64 y.p, .int .i64 y.s, .int .i64 y.i, .int .i64 y.n] ∧ Below w.heap.size w w') ⟨R0, RB, hbel.drew⟩ ?_
        all_goals refine Calm.sp ?_
        all_goals refine Calm.cs (fun _ h => h.2.1.cell 3) ?_
        all_goals refine Calm.k1 hs (fun w1 h => C1 w1) ?_
        iterate 4 (all_goals refine Calm.sp ?_)
        all_goals first | refine Calm.sk ?_ | refine Calm.cs (fun _ h => h.2.1.cell 2) ?_
        iterate 7 (all_goals refine Calm.sp ?_)
        all_goals first | refine Calm.sk ?_ | refine Calm.cs (fun _ h => h.1.cell 2) ?_
        iterate 4 (all_goals refine Calm.sp ?_)
        all_goals first | refine Calm.sk ?_ | refine Calm.lm zm (fun _ h => A.mark (x := y) (Rw.whole h.2.1)) Tryz.underlying50 ?_
        all_goals refine Calm.sp ?_
        all_goals first | refine Calm.sk ?_ | refine Calm.lm zm (fun _ h => A.mark (x := y) (Rw.whole h.2.1)) Tryz.underlying50 ?_
        all_goals first | refine Calm.sk ?_ | refine Calm.k2 hs (fun w1 h => refLess_any 0 0 0 0 0 0 w1) ?_
        iterate 3 (all_goals refine Calm.sp ?_)
        all_goals
         rintro w9 ⟨R09, _, hbel9⟩
        go_wp2_with fail
        go_ret
        exact ⟨rfl, hbel9⟩
       ·by_cases hyi : y.i < 1
        ·have HF := ca_not HZ2 hlt (by rw [HO0.out]; unfold ia; rw [decide_eq_false (show ¬ 1 ≤ y.i by omega)]; rfl)
         have e := HF.out
         subst e
         have hyd : decide (y.i < 1) = true := decide_eq_true hyi
         clear HZ2 HF HV hd d HO0
         have hs : Calm.Stays (fun w' => Rw w' w.heap.size 27 (cvc 1 x.b (.slice (some ⟨g, o, none⟩) l.length ca') (.slice pw 0 cw) (.slice pm 0 cm) (.slice pe 0 ce)) ∧ Rw w' wr.heap.size 71 #[.int .i64 y.p, .int .i64 y.s, .int .i64 y.i, .int .i64 y.n] ∧ Below w.heap.size w w') := fun wa wb h hb => ⟨h.1.later hb, h.2.1.later hb, below_on h.2.2 hb⟩
         refine Calm.region (by kernel_rfl) (by kernel_rfl) (fun w' => Rw w' w.heap.size 27 (cvc 1 x.b (.slice (some ⟨g, o, none⟩) l.length ca') (.slice pw 0 cw) (.slice pm 0 cm) (.slice pe 0 ce)) ∧ Rw w' wr.heap.size 71 #[.int .i64 y.p, .int .i64 y.s, .int .i64 y.i, .int .i64 y.n] ∧ Below w.heap.size w w') ⟨R0, RB, hbel.drew⟩ ?_
         all_goals refine Calm.sp ?_
         all_goals refine Calm.cs (fun _ h => h.2.1.cell 3) ?_
         all_goals refine Calm.k1 hs (fun w1 h => C1 w1) ?_
         iterate 4 (all_goals refine Calm.sp ?_)
         all_goals first | refine Calm.sk ?_ | refine Calm.cs (fun _ h => h.2.1.cell 2) ?_
         iterate 7 (all_goals refine Calm.sp ?_)
         all_goals first | refine Calm.sk ?_ | refine Calm.cs (fun _ h => h.1.cell 2) ?_
         iterate 4 (all_goals refine Calm.sp ?_)
         all_goals first | refine Calm.sk ?_ | refine Calm.lm zm (fun _ h => A.mark (x := y) (Rw.whole h.2.1)) Tryz.underlying50 ?_
         all_goals refine Calm.sp ?_
         all_goals first | refine Calm.sk ?_ | refine Calm.lm zm (fun _ h => A.mark (x := y) (Rw.whole h.2.1)) Tryz.underlying50 ?_
         all_goals first | refine Calm.sk ?_ | refine Calm.k2 hs (fun w1 h => refLess_any 0 0 0 0 0 0 w1) ?_
         iterate 3 (all_goals refine Calm.sp ?_)
         all_goals
          rintro w9 ⟨R09, _, hbel9⟩
         go_wp2_with fail
         go_ret
         exact ⟨rfl, hbel9⟩
        ·have hia : ia y.i y.n = true := by unfold ia; rw [decide_eq_true (show 1 ≤ y.i by omega), HY1.out]; rfl
         have HIA : Hid (ia y.i y.n = true) := hia
         have hyd : decide (y.i < 1) = false := decide_eq_false hyi
         clear hia
         rcases Nat.eq_zero_or_pos k with rfl | hpos
         ·have HV2 : Hid (∀ i (h : i < l.length), i < 0 + 1 → okk l i h = true) := fun i h hi => by
           obtain rfl : i = 0 := by omega
           rw [HO0.out, HIA.out]
           rfl
          clear hd d HV HO0 HZ2
          have hs : Calm.Stays (fun w' => Rw w' w.heap.size 27 (cvc 1 x.b (.slice (some ⟨g, o, none⟩) l.length ca') (.slice pw 0 cw) (.slice pm 0 cm) (.slice pe 0 ce)) ∧ Rw w' wr.heap.size 71 #[.int .i64 y.p, .int .i64 y.s, .int .i64 y.i, .int .i64 y.n] ∧ Below w.heap.size w w') := fun wa wb h hb => ⟨h.1.later hb, h.2.1.later hb, below_on h.2.2 hb⟩
          refine Calm.region (by kernel_rfl) (by kernel_rfl) (fun w' => Rw w' w.heap.size 27 (cvc 1 x.b (.slice (some ⟨g, o, none⟩) l.length ca') (.slice pw 0 cw) (.slice pm 0 cm) (.slice pe 0 ce)) ∧ Rw w' wr.heap.size 71 #[.int .i64 y.p, .int .i64 y.s, .int .i64 y.i, .int .i64 y.n] ∧ Below w.heap.size w w') ⟨R0, RB, hbel.drew⟩ ?_
          all_goals refine Calm.sp ?_
          all_goals refine Calm.cs (fun _ h => h.2.1.cell 3) ?_
          all_goals refine Calm.k1 hs (fun w1 h => C1 w1) ?_
          iterate 4 (all_goals refine Calm.sp ?_)
          all_goals first | refine Calm.sk ?_ | refine Calm.cs (fun _ h => h.2.1.cell 2) ?_
          iterate 7 (all_goals refine Calm.sp ?_)
          all_goals first | refine Calm.sk ?_ | refine Calm.cs (fun _ h => h.1.cell 2) ?_
          iterate 4 (all_goals refine Calm.sp ?_)
          all_goals first | refine Calm.sk ?_ | refine Calm.lm zm (fun _ h => A.mark (x := y) (Rw.whole h.2.1)) Tryz.underlying50 ?_
          all_goals refine Calm.sp ?_
          all_goals first | refine Calm.sk ?_ | refine Calm.lm zm (fun _ h => A.mark (x := y) (Rw.whole h.2.1)) Tryz.underlying50 ?_
          all_goals first | refine Calm.sk ?_ | refine Calm.k2 hs (fun w1 h => refLess_any 0 0 0 0 0 0 w1) ?_
          iterate 3 (all_goals refine Calm.sp ?_)
          all_goals
           rintro w9 ⟨R09, _, hbel9⟩
          go_wp2_with fail
          go_roundw
          case rel => exact ⟨0 + 1, by simp, by omega, R09, HV2, hbel9⟩
          case measure => simp [intOf]; omega
         ·obtain ⟨m, rfl⟩ : ∃ m, k = m + 1 := ⟨k - 1, by omega⟩
          have d2 := range_later (AHas.elem hd m (by omega)) hba
          obtain ⟨yp, HP⟩ := hid_ex (l[m]'(by omega))
          rw [HP.out] at d2
          have zy : (Tryz.prog.info? 50).map (·.size) = some [Value.int .i64 yp.p, .int .i64 yp.s, .int .i64 yp.i].length := size50
          have C2 : ∀ w, Calls Tryz.prog 63 #[MV yp.p yp.s yp.i, MV y.p y.s y.i] w (Tells (.bool (lt yp y)) w) := fun w => refLess_any yp.p yp.s yp.i y.p y.s y.i w
          have HO : Hid (okk l (m + 1) hlt = lt yp y) := by
           show _ = _
           rw [HO0.out, HIA.out]
           simp only [Nat.add_sub_cancel]
           rw [HP.out]
           simp
          obtain ⟨y2, HY2⟩ := hid_ex (lt yp y)
          rw [HY2.out] at C2 HO
          have hw1 : IntKind.i64.wrap (m : Int) = (m : Int) := by rw [IntKind.wrap_i64]; omega
          have hml2 : (m : Int) < (l.length : Int) := by omega
          clear hd d HO0
          cases y2
          ·have HF := ca_not HZ2 hlt HO.out
           have e := HF.out
           subst e
           clear HZ2 HF HV
           have hs : Calm.Stays (fun w' => Rw w' w.heap.size 27 (cvc 1 x.b (.slice (some ⟨g, o, none⟩) l.length ca') (.slice pw 0 cw) (.slice pm 0 cm) (.slice pe 0 ce)) ∧ Rw w' wr.heap.size 71 #[.int .i64 y.p, .int .i64 y.s, .int .i64 y.i, .int .i64 y.n] ∧ w'.rangeAt g (o + m * 4) yp.cells ∧ Below w.heap.size w w') := fun wa wb h hb => ⟨h.1.later hb, h.2.1.later hb, range_later h.2.2.1 hb, below_on h.2.2.2 hb⟩
           refine Calm.region (by kernel_rfl) (by kernel_rfl) (fun w' => Rw w' w.heap.size 27 (cvc 1 x.b (.slice (some ⟨g, o, none⟩) l.length ca') (.slice pw 0 cw) (.slice pm 0 cm) (.slice pe 0 ce)) ∧ Rw w' wr.heap.size 71 #[.int .i64 y.p, .int .i64 y.s, .int .i64 y.i, .int .i64 y.n] ∧ w'.rangeAt g (o + m * 4) yp.cells ∧ Below w.heap.size w w') ⟨R0, RB, d2, hbel.drew⟩ ?_
           all_goals refine Calm.sp ?_
           all_goals refine Calm.cs (fun _ h => h.2.1.cell 3) ?_
           all_goals refine Calm.k1 hs (fun w1 h => C1 w1) ?_
           iterate 4 (all_goals refine Calm.sp ?_)
           all_goals first | refine Calm.sk ?_ | refine Calm.cs (fun _ h => h.2.1.cell 2) ?_
           iterate 7 (all_goals refine Calm.sp ?_)
           all_goals first | refine Calm.sk ?_ | refine Calm.cs (fun _ h => h.1.cell 2) ?_
           iterate 4 (all_goals refine Calm.sp ?_)
           all_goals first | refine Calm.sk ?_ | refine Calm.lm zy (fun _ h => A.mark h.2.2.1) Tryz.underlying50 ?_ | refine Calm.lm zm (fun _ h => A.mark (x := y) (Rw.whole h.2.1)) Tryz.underlying50 ?_
           all_goals refine Calm.sp ?_
           all_goals first | refine Calm.sk ?_ | refine Calm.lm zy (fun _ h => A.mark h.2.2.1) Tryz.underlying50 ?_ | refine Calm.lm zm (fun _ h => A.mark (x := y) (Rw.whole h.2.1)) Tryz.underlying50 ?_
           all_goals first | refine Calm.sk ?_ | refine Calm.k2 hs (fun w1 h => C2 w1) ?_
           iterate 3 (all_goals refine Calm.sp ?_)
           all_goals
            rintro w9 ⟨R09, _, _, hbel9⟩
           go_wp2_with fail
           go_ret
           exact ⟨rfl, hbel9⟩
          ·have HV2 : Hid (∀ i (h : i < l.length), i < m + 1 + 1 → okk l i h = true) := fun i h hi => by
            rcases Nat.lt_or_ge i (m + 1) with h' | h'
            ·exact HV.out i h h'
            ·obtain rfl : i = m + 1 := by omega
             exact HO.out
           clear HV HO HZ2
           have hs : Calm.Stays (fun w' => Rw w' w.heap.size 27 (cvc 1 x.b (.slice (some ⟨g, o, none⟩) l.length ca') (.slice pw 0 cw) (.slice pm 0 cm) (.slice pe 0 ce)) ∧ Rw w' wr.heap.size 71 #[.int .i64 y.p, .int .i64 y.s, .int .i64 y.i, .int .i64 y.n] ∧ w'.rangeAt g (o + m * 4) yp.cells ∧ Below w.heap.size w w') := fun wa wb h hb => ⟨h.1.later hb, h.2.1.later hb, range_later h.2.2.1 hb, below_on h.2.2.2 hb⟩
           refine Calm.region (by kernel_rfl) (by kernel_rfl) (fun w' => Rw w' w.heap.size 27 (cvc 1 x.b (.slice (some ⟨g, o, none⟩) l.length ca') (.slice pw 0 cw) (.slice pm 0 cm) (.slice pe 0 ce)) ∧ Rw w' wr.heap.size 71 #[.int .i64 y.p, .int .i64 y.s, .int .i64 y.i, .int .i64 y.n] ∧ w'.rangeAt g (o + m * 4) yp.cells ∧ Below w.heap.size w w') ⟨R0, RB, d2, hbel.drew⟩ ?_
           all_goals refine Calm.sp ?_
           all_goals refine Calm.cs (fun _ h => h.2.1.cell 3) ?_
           all_goals refine Calm.k1 hs (fun w1 h => C1 w1) ?_
           iterate 4 (all_goals refine Calm.sp ?_)
           all_goals first | refine Calm.sk ?_ | refine Calm.cs (fun _ h => h.2.1.cell 2) ?_
           iterate 7 (all_goals refine Calm.sp ?_)
           all_goals first | refine Calm.sk ?_ | refine Calm.cs (fun _ h => h.1.cell 2) ?_
           iterate 4 (all_goals refine Calm.sp ?_)
           all_goals first | refine Calm.sk ?_ | refine Calm.lm zy (fun _ h => A.mark h.2.2.1) Tryz.underlying50 ?_ | refine Calm.lm zm (fun _ h => A.mark (x := y) (Rw.whole h.2.1)) Tryz.underlying50 ?_
           all_goals refine Calm.sp ?_
           all_goals first | refine Calm.sk ?_ | refine Calm.lm zy (fun _ h => A.mark h.2.2.1) Tryz.underlying50 ?_ | refine Calm.lm zm (fun _ h => A.mark (x := y) (Rw.whole h.2.1)) Tryz.underlying50 ?_
           all_goals first | refine Calm.sk ?_ | refine Calm.k2 hs (fun w1 h => C2 w1) ?_
           iterate 3 (all_goals refine Calm.sp ?_)
           all_goals
            rintro w9 ⟨R09, _, _, hbel9⟩
           go_wp2_with fail
           go_roundw
           case rel => exact ⟨m + 1 + 1, by simp, by omega, R09, HV2, hbel9⟩
           case measure => simp [intOf]; omega
      ·have hlt' : ¬ (k : Int) < (l.length : Int) := by omega
       have hz : z = true := by
        rw [← HZ2.out, ca_iff]
        exact fun i h => HV.out i h (by omega)
       subst hz
       clear HR HV HZ2
       go_wp2_with fail
       go_ret
       exact ⟨rfl, hbel⟩
  ·have h0' : 0 < (x.wr.length : Int) + (x.mb.length : Int) + (x.el.length : Int) := by omega
   have w1 : IntKind.i64.wrap ((x.wr.length : Int) + (x.mb.length : Int)) = (x.wr.length : Int) + (x.mb.length : Int) := by rw [IntKind.wrap_i64]; omega
   have w2 : IntKind.i64.wrap ((x.wr.length : Int) + (x.mb.length : Int) + (x.el.length : Int)) = (x.wr.length : Int) + (x.mb.length : Int) + (x.el.length : Int) := by rw [IntKind.wrap_i64]; omega
   obtain rfl : z = false := by
    rw [← HZ.out]
    unfold ck
    rw [decide_eq_false h0]
    simp
   clear HZ
   go_enter Tryz.func29, Tryz.ntmps29
   go_wp2
   go_ret
   exact ⟨rfl, bel_alloc (Below.refl _ _) _⟩
 ·obtain rfl : z = false := by
   rw [← HZ.out]
   unfold ck
   simp [hk]
  clear HZ
  go_enter Tryz.func29, Tryz.ntmps29
  go_wp2
  go_ret
  exact ⟨rfl, bel_alloc (Below.refl _ _) _⟩
end Go.Proofs.YtjbbmcommnhgeaaGreat.Ct
