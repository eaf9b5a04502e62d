import Derived.Test.YtfiamiflkfdhoaaP7
import Derived.Test.YtfiamiflkfdhoaaP9
import Derived.Test.YtfiamiflkfdhoaaP2
import Derived.Deep.Cut
import Derived.Maps.AppendAt
/- The functions Next and Add of package vec, Ready and ahead of package order, and slices.Min of ints. -/
namespace Go.Proofs.Ytfiamiflkfdhoaa
open Go.RowKit

set_option maxHeartbeats 2000000 in
set_option maxRecDepth 100000 in
theorem next_any (v : List Int) (p s : Int) (w : World) (hv : v.length = 13) (hp : 1 ≤ p ∧ p ≤ 12) (hs : 1 ≤ s ∧ s ≤ 1048576) : Calls Try.prog 29 #[V v, D p s] w (Tells (.bool (nxt v p s)) w) := by
  obtain ⟨n, rfl⟩ : ∃ n : Nat, p = (n : Int) := ⟨p.toNat, by omega⟩
  have hn : n < 13 := by omega
  have hn' : (n : Int) < 13 := by omega
  have C := fun w' => isPeer_any (n : Int) w'
  rw [show wi (n : Int) 1 12 = true by unfold wi; simp; omega] at C
  have e1 : IntKind.i64.wrap (s - 1) = s - 1 := by rw [IntKind.wrap_i64]; omega
  obtain ⟨R1, R2, hbel⟩ := two_rows w (vals v).toArray 26 #[.int .i64 (n : Int), .int .i64 s] 31
  have A1 : At ((w.alloc (.cells (vals v).toArray 26)).alloc (.cells #[.int .i64 (n : Int), .int .i64 s] 31)) w.heap.size v := ⟨hv, R1⟩
  have c1 := A1.cell hn
  have d1 := R2.cell 0
  have d2 := R2.cell 1
  generalize hW : (w.alloc (.cells (vals v).toArray 26)).alloc (.cells #[.int .i64 (n : Int), .int .i64 s] 31) = w0 at c1 d1 d2 hbel
  clear A1 R1 R2
  unfold nxt
  rw [show ((n : Int)).toNat = n by simp]
  generalize v.getD n 0 = x at c1
  have hs3 : Calm.Stays (fun w' : World => w'.cell? ⟨w.heap.size, n, none⟩ = some (.int .i64 x) ∧ w'.cell? ⟨w.heap.size + 1, 0, none⟩ = some (.int .i64 n) ∧ w'.cell? ⟨w.heap.size + 1, 1, none⟩ = some (.int .i64 s) ∧ Below w.heap.size w w') := fun a b h hb => ⟨cell_later hb h.1, cell_later hb h.2.1, cell_later hb h.2.2.1, below_on h.2.2.2 hb⟩
  go_enter Try.func29, Try.ntmps29
  go_wp2_with (rw [hW])
  clear hW
  by_cases hx : x < s
  all_goals
    refine Calm.region (by kernel_rfl) (by kernel_rfl) (fun w' => w'.cell? ⟨w.heap.size, n, none⟩ = some (.int .i64 x) ∧ w'.cell? ⟨w.heap.size + 1, 0, none⟩ = some (.int .i64 n) ∧ w'.cell? ⟨w.heap.size + 1, 1, none⟩ = some (.int .i64 s) ∧ Below w.heap.size w w') ⟨c1, d1, d2, hbel.drew⟩ ?_
    refine Calm.pu ?_
    refine Calm.ce (fun _ h => h.2.1) ?_
    refine Calm.k1 hs3 (fun w' _ => C w') ?_
    iterate 2 (refine Calm.pu ?_)
    refine Calm.ce (fun _ h => h.2.2.1) ?_
    refine Calm.pu ?_
    refine Calm.ce (fun _ h => h.2.1) ?_
    refine Calm.pu ?_
    refine Calm.ce (fun _ h => h.1) ?_
    iterate 3 (refine Calm.pu ?_)
  · refine Calm.pu ?_
    refine Calm.ce (fun _ h => h.2.2.1) ?_
    iterate 2 (refine Calm.pu ?_)
    refine Calm.ce (fun _ h => h.2.1) ?_
    refine Calm.pu ?_
    refine Calm.ce (fun _ h => h.1) ?_
    iterate 3 (refine Calm.pu ?_)
    intro w3 hS3
    go_wp2_with fail
    go_ret
    refine tells_bool ?_ hS3.2.2.2
    rw [Bool.eq_iff_iff, beq_iff_eq, decide_eq_true_eq]
    omega
  · iterate 8 (refine Calm.sk ?_)
    iterate 2 (refine Calm.pu ?_)
    intro w3 hS3
    go_wp2_with fail
    go_ret
    refine tells_bool ?_ hS3.2.2.2
    symm
    rw [decide_eq_false_iff_not]
    omega
/-- A dot that lies somewhere is loaded. -/
theorem load_dm {ops : Array Oper} {rest : List Oper} {op : Oper} {a : Act} {w : World} {Q : Exit → Act → World → Prop} (x : Operand) (ho : op.op = .load 31 x) (hw : Region.wanted op (yielded ops a.tmps) = true)
    (b o : Nat) (hx : a.eval x = .pointer (some ⟨b, o, none⟩)) {p s : Int} (hc : w.rangeAt b o [.int .i64 p, .int .i64 s]) (h : wpList Try.prog ops Q rest (a.put op.dst (D p s)) w) : wpList Try.prog ops Q (op :: rest) a w :=
  load_m 31 x ho hw b o hx hc Try.underlying31 rfl (zd p s) h
theorem add_world (v : List Int) (n s : Int) (w : World) (hv : v.length = 13) : ∀ w0, w0 = ((w.alloc (.cells (vals v).toArray 26)).alloc (.cells #[.int .i64 n, .int .i64 s] 31)).alloc (.cells (vals zeros).toArray 26) →
    At w0 w.heap.size v ∧ Rw w0 (w.heap.size + 1) 31 #[.int .i64 n, .int .i64 s] ∧ At w0 (w.heap.size + 1 + 1) zeros ∧ Below w.heap.size w w0 := by
  rintro w0 rfl
  exact ⟨((at_new w v hv).alloc _).alloc _, (rw_next _ (by simp) _ _).alloc _, at_next _ (by simp) zeros rfl, bel_alloc (bel_alloc (bel_alloc (Below.refl _ _) _) _) _⟩
set_option maxHeartbeats 1000000 in
set_option maxRecDepth 100000 in
theorem vadd_any (v : List Int) (p s : Int) (w : World) (hv : v.length = 13) (hp : 1 ≤ p ∧ p ≤ 12) (hs : 1 ≤ s ∧ s ≤ 1048576) (hn : v.getD p.toNat 0 + 1 = s) : Calls Try.prog 26 #[V v, D p s] w (Tells (.tuple #[V (v.set p.toNat s), .int .i64 0]) w) := by
  have C := fun w1 => next_any v p s w1 hv hp hs
  rw [show nxt v p s = true by unfold nxt; exact decide_eq_true hn] at C
  obtain ⟨n, rfl⟩ : ∃ n : Nat, p = (n : Int) := ⟨p.toNat, by omega⟩
  rw [show ((n : Int)).toNat = n by simp]
  have hn1 : (n : Int) < 13 := by omega
  have hi2 : ¬ (1048576 : Int) < s := by omega
  obtain ⟨h1, g1, h2, hbel⟩ := add_world v n s w hv _ rfl
  clear hn
  go_enter Try.func26, Try.ntmps26
  go_wp2_with (first | refine load_at rfl _ rfl _ rfl h1 ?_ | refine load_dm _ rfl rfl _ _ rfl (g1.range 0 _ (fun j v h => by simpa using h)) ?_)
  refine (C _).mono ?_
  rintro e w1 ⟨rfl, hb1⟩
  have h3 := h1.later hb1
  have h4 := h2.later hb1
  have g3 := g1.later hb1
  have g4 := g3.cell 0
  have g5 := g3.cell 1
  have c1 := h3.cell (show n < 13 by omega)
  have f1 := h3.frozen n
  have h5 := h3.set (i := n) s
  have h6 := h4.setOther (c := w.heap.size) (i := n) (by omega) (.int .i64 s)
  have R0 : Below w.heap.size w (w1.setCell ⟨w.heap.size, n, none⟩ (.int .i64 s)) := (below_on hbel hb1).setCell (Nat.le_refl _) _
  have R := below_setRow R0 (g := w.heap.size + 1 + 1) (by omega) (vals (v.set n s)).toArray
  have hv2 := h5.1
  obtain ⟨v2, HV2⟩ : ∃ v2, Hid (v.set n s = v2) := ⟨_, rfl⟩
  rw [HV2.out] at h5 R hv2
  generalize v.getD n 0 = y at c1
  clear h1 h2 g1 hbel hb1 C h3 h4 R0 g3
  go_wp2_with (first | refine load_at rfl _ rfl _ rfl h5 ?_ | refine store_at rfl _ _ rfl _ _ rfl rfl h6 hv2 ?_)
  exact bodyPost_ret (results_at2 rfl rfl (h6.row hv2)) rfl ⟨by rw [HV2.out]; rfl, R⟩
set_option maxHeartbeats 1000000 in
set_option maxRecDepth 100000 in
theorem ready_any (v : List Int) (t : T) (sl : Value) (w : World) (hv : v.length = 13) (ho : OHas w sl t.ops) : Calls Try.prog 13 #[V v, TxV t.p t.s t.v t.t sl] w (Tells (.bool (rdy v t)) w) := by
  obtain ⟨z, HZ⟩ : ∃ z, Hid (rdy v t = z) := hid_ex _
  rw [HZ.out]
  have C1 : ∀ w', Below w.heap.size w w' → Calls Try.prog 18 #[TxV t.p t.s t.v t.t sl] w' (Tells (.bool t.ok) w') := fun w' h => checkTx_any t.p t.s t.v t.t sl t.ops w' t.hv (ho.later h)
  have C3 := fun w' => leq_any t.v v w' t.hv hv
  obtain ⟨R1, R2, hbel⟩ := two_rows w (vals v).toArray 26 (txc t.p t.s t.v t.t sl).toArray 34
  have A1 : At ((w.alloc (.cells (vals v).toArray 26)).alloc (.cells (txc t.p t.s t.v t.t sl).toArray 34)) w.heap.size v := ⟨hv, R1⟩
  have r1 := A1.range
  have r2 := tx_dot R2
  have r3 := tx_vec R2
  have r4 := R2.range 0 (txc t.p t.s t.v t.t sl) (fun j v h => by simpa using h)
  generalize hW : (w.alloc (.cells (vals v).toArray 26)).alloc (.cells (txc t.p t.s t.v t.t sl).toArray 34) = w0 at r1 r2 r3 r4 hbel
  clear A1 R1 R2
  have s1 : (Try.prog.info? 26).map (·.size) = some (vals v).length := info_vals hv
  have s2 : (Try.prog.info? 26).map (·.size) = some (vals t.v).length := info_vals t.hv
  have s3 : (Try.prog.info? 34).map (·.size) = some (txc t.p t.s t.v t.t sl).length := tx_size t sl
  go_enter Try.func13, Try.ntmps13
  go_wp2_with (first | (rw [hW]; clear hW) | refine load_m 34 _ rfl rfl (w.heap.size + 1) 0 rfl r4 Try.underlying34 rfl s3 ?_)
  refine (C1 _ hbel).mono ?_
  rintro e w1 ⟨rfl, hb1⟩
  replace r1 := range_later r1 hb1
  replace r2 := range_later r2 hb1
  replace r3 := range_later r3 hb1
  replace hbel := below_on hbel hb1
  clear r4 hb1 C1
  have HE := HZ.out
  clear HZ
  cases hok : t.ok with
  | false =>
    go_wp2_with fail
    go_ret
    exact tells_bool (by rw [← HE, rdy, hok]; rfl) hbel
  | true =>
    have hp := T.ok_p hok
    have hq := T.ok_s hok
    have C2 := fun w' => next_any v t.p t.s w' hv hp hq
    obtain ⟨x, HX⟩ : ∃ x, Hid (nxt v t.p t.s = x) := hid_ex _
    rw [HX.out] at C2
    obtain ⟨y, HY⟩ : ∃ y, Hid (lq t.v v = y) := hid_ex _
    have C3' : ∀ w', Calls Try.prog 30 #[V t.v, V v] w' (Tells (.bool y) w') := fun w' => by rw [← HY.out]; exact C3 w'
    clear C3
    have HR : Hid (z = (x && y)) := by
      show _ = _
      rw [← HE, ← HX.out, ← HY.out, rdy, hok, nxt]
      rfl
    clear HX HY HE hok hp hq
    go_wp2_with (first | refine load_m 26 _ rfl rfl w.heap.size 0 rfl r1 Try.underlying26 rfl s1 ?_ | refine load_m 31 _ rfl rfl (w.heap.size + 1) 0 rfl r2 Try.underlying31 rfl (zd t.p t.s) ?_)
    refine (C2 _).mono ?_
    rintro e w2 ⟨rfl, hb1⟩
    replace r1 := range_later r1 hb1
    replace r3 := range_later r3 hb1
    replace hbel := below_on hbel hb1
    clear r2 hb1 C2
    cases x with
    | false =>
      go_wp2_with fail
      go_ret
      exact tells_bool (by rw [HR.out]; rfl) hbel
    | true =>
      go_wp2_with (first | refine load_m 26 _ rfl rfl w.heap.size 0 rfl r1 Try.underlying26 rfl s1 ?_ | refine load_m 26 _ rfl rfl (w.heap.size + 1) 2 rfl r3 Try.underlying26 rfl s2 ?_)
      refine (C3' _).mono ?_
      rintro e w3 ⟨rfl, hb1⟩
      replace hbel := below_on hbel hb1
      clear r1 r3 hb1 C3'
      go_wp2_with fail
      go_ret
      exact tells_bool (by rw [HR.out]; rfl) hbel
/-- The zero vector's cells, written out. -/
abbrev z13 : Array Value := #[.int .i64 0, .int .i64 0, .int .i64 0, .int .i64 0, .int .i64 0, .int .i64 0, .int .i64 0, .int .i64 0, .int .i64 0, .int .i64 0, .int .i64 0, .int .i64 0, .int .i64 0]
theorem at_z13 (w : World) {b : Nat} (hb : b = w.heap.size) : At (w.alloc (.cells z13 26)) b zeros := at_next w hb zeros rfl
set_option maxHeartbeats 1000000 in
set_option maxRecDepth 100000 in
theorem ahead_any (t : T) (sl : Value) (w : World) (hok : t.ok = true) : Calls Try.prog 74 #[TxV t.p t.s t.v t.t sl] w (Tells (V (an t)) w) := by
  have hp := T.ok_p hok
  have hs := T.ok_s hok
  obtain ⟨a, HA⟩ : ∃ a, Hid (an t = a) := hid_ex _
  rw [HA.out]
  unfold an at HA
  obtain ⟨p, s, v, tt, ops, hv⟩ := t
  simp only at hp hs HA ⊢
  clear hok
  obtain ⟨n, rfl⟩ : ∃ n : Nat, p = (n : Int) := ⟨p.toNat, by omega⟩
  have hn : n < 13 := by omega
  have hn' : (n : Int) < 13 := by omega
  have e1 : IntKind.i64.wrap (s - 1) = s - 1 := by rw [IntKind.wrap_i64]; omega
  rw [show ((n : Int)).toNat = n by simp] at HA
  have hv2 : a.length = 13 := by rw [← HA.out]; simp [hv]
  have hx : ∃ x, v.getD n 0 = x := ⟨_, rfl⟩
  obtain ⟨x, HX⟩ := hx
  obtain ⟨w0, HW⟩ : ∃ w0, (w.alloc (.cells (txc n s v tt sl).toArray 34)).alloc (.cells z13 26) = w0 := ⟨_, rfl⟩
  have R1 : Rw w0 w.heap.size 34 (txc n s v tt sl).toArray := by rw [← HW]; exact (rw_new _ _ _).alloc _
  have A1 : At w0 (w.heap.size + 1) zeros := by rw [← HW]; exact at_z13 _ (by simp)
  have hbel : Below w.heap.size w w0 := by rw [← HW]; exact bel_alloc (bel_alloc (Below.refl _ _) _) _
  have hsz : w0.heap.size = w.heap.size + 1 + 1 := by rw [← HW]; simp
  have s2 : (Try.prog.info? 26).map (·.size) = some (vals v).length := info_vals hv
  have r3 := tx_vec R1
  have A2 : At (w0.alloc (.cells z13 26)) (w.heap.size + 1 + 1) zeros := at_z13 w0 hsz.symm
  obtain ⟨w1, HW1⟩ : ∃ w1, (w0.alloc (.cells z13 26)).setRow (w.heap.size + 1 + 1) (vals v).toArray = w1 := ⟨_, rfl⟩
  have B1 : At w1 (w.heap.size + 1) zeros := by rw [← HW1]; exact (A1.alloc _).rowOther (by omega) _
  have B2 : At w1 (w.heap.size + 1 + 1) v := by rw [← HW1]; exact A2.row hv
  have B3 : Rw w1 w.heap.size 34 (txc n s v tt sl).toArray := by rw [← HW1]; exact (R1.alloc _).rowOther (by omega) _
  have hb1 : Below w.heap.size w w1 := by rw [← HW1]; exact below_setRow (bel_alloc hbel _) (by omega) _
  have g1 := tx_p B3
  have g2 := tx_s B3
  have c1 := B2.cell hn
  rw [HX] at c1
  have f1 := B2.frozen n
  have B4 := B2.set (i := n) (s - 1)
  rw [HA.out] at B4
  have B5 := B1.setOther (c := w.heap.size + 1 + 1) (i := n) (by omega) (.int .i64 (s - 1))
  have hb2 := hb1.setCell (p := ⟨w.heap.size + 1 + 1, n, none⟩) (show w.heap.size ≤ w.heap.size + 1 + 1 by omega) (.int .i64 (s - 1))
  have R := below_setRow hb2 (g := w.heap.size + 1) (by omega) (vals a).toArray
  clear B1 B2 B3 hb1 hb2 R1 A1 HX
  go_enter Try.func74, Try.ntmps74
  go_upto_region 1 with fail
  try rw [HW]
  clear HW
  go_upto_region 2 with (first | refine load_m 26 _ rfl rfl w.heap.size 2 rfl r3 Try.underlying26 rfl s2 ?_ | refine store_at rfl _ _ rfl _ _ rfl rfl A2 hv ?_)
  try rw [HW1]
  clear HW1 A2 r3
  go_wp2_with (first | refine load_at rfl _ rfl _ rfl B4 ?_ | refine store_at rfl _ _ rfl _ _ rfl rfl B5 hv2 ?_)
  refine bodyPost_ret (v := V a) ?_ ?_ ?_
  · exact results_at rfl rfl (B5.row hv2)
  · rfl
  · exact ⟨rfl, R⟩
/-- The least of a row of ints. -/
def IRow (w : World) (b o : Nat) (l : List Int) : Prop := w.rangeAt b o (vals l)
set_option maxHeartbeats 1000000 in
set_option maxRecDepth 100000 in
theorem min_any (b o c : Nat) (x : Int) (r : List Int) (w : World) (h : IRow w b o (x :: r)) (hl : (x :: r).length ≤ 100) : Calls Try.prog 63 #[.slice (some ⟨b, o, none⟩) (x :: r).length c] w (Tells (.int .i64 (minF x r)) w) := by
  obtain ⟨z, HZ⟩ : ∃ z, Hid (minF x r = z) := hid_ex _
  rw [HZ.out]
  have hc : ∀ wr, Below w.heap.size w wr → ∀ k, k < (x :: r).length → wr.cell? ⟨b, o + k, none⟩ = some (.int .i64 ((x :: r).getD k 0)) := fun wr hb k hk => by
    have h1 := range_later h hb
    have := h1 k (.int .i64 ((x :: r).getD k 0)) (by rw [vals, List.getElem?_map, List.getElem?_eq_getElem hk, getD_at _ _ hk]; rfl)
    simpa using this
  obtain ⟨m, HM⟩ : ∃ m, Hid ((x :: r).length = m) := hid_ex _
  have hm : 1 ≤ m ∧ m ≤ 100 := by rw [← HM.out]; simp at hl ⊢; omega
  have c0 : w.cell? ⟨b, o, none⟩ = some (.int .i64 x) := by simpa using hc w (Below.refl _ _) 0 (by simp)
  have hl' : Hid (r.length + 1 = m) := by rw [← HM.out]; rfl
  rw [HM.out]
  have hml : ¬ (m : Int) < 1 := by omega
  go_enter Try.func63, Try.ntmps63
  go_wp2
  go_loopw [3, 4] (fun vm vi wr => ∃ (k : Nat), vi = .int .i64 ((k : Int) + 1) ∧ k ≤ r.length ∧ vm = .int .i64 (minF x (r.take k)) ∧ Below w.heap.size w wr) (fun _ vi _ => m - (intOf vi).toNat)
  case atStart => exact ⟨0, by simp, by omega, rfl, Below.refl _ _⟩
  case round =>
    obtain ⟨k, rfl, hk, rfl, hbel⟩ := hrel
    by_cases hlt : k < r.length
    · have c1 := hc wr hbel (k + 1) (by simp; omega)
      have e : Hid (minF x (r.take (k + 1)) = if r.getD k 0 < minF x (r.take k) then r.getD k 0 else minF x (r.take k)) := by
        show _ = _
        rw [List.take_succ_eq_append_getElem hlt, minF_snoc]
        simp [List.getD_eq_getElem?_getD, List.getElem?_eq_getElem hlt]
      rw [show (x :: r).getD (k + 1) 0 = r.getD k 0 by simp []] at c1
      clear hc
      generalize r.getD k 0 = y at c1 e
      generalize minF x (r.take k) = u at e
      have hi1 : (k : Int) + 1 < m := by have := hl'.out; omega
      have hk2 : IntKind.i64.wrap ((k : Int) + 1 + 1) = (k : Int) + 1 + 1 := by rw [IntKind.wrap_i64]; omega
      have hb1 : 0 ≤ (k : Int) + 1 := by omega
      by_cases hyu : y < u
      · rw [if_pos hyu] at e
        go_wp2
        go_roundw
        case rel => exact ⟨k + 1, by simp, by omega, by rw [e.out], hbel⟩
        case measure => simp [intOf]; omega
      · rw [if_neg hyu] at e
        go_wp2
        go_roundw
        case rel => exact ⟨k + 1, by simp, by omega, by rw [e.out], hbel⟩
        case measure => simp [intOf]; omega
    · have hk13 : k = r.length := by omega
      subst hk13
      have hi1 : ¬ ((r.length : Int) + 1 < m) := by have := hl'.out; omega
      go_wp2
      go_ret
      exact ⟨by rw [← HZ.out]; rfl, hbel⟩
end Go.Proofs.Ytfiamiflkfdhoaa
/- A region that draws its order, walked in an order of one's own: each operation by its number. Nothing of one program. -/
namespace Go.Proofs.Ytfiamiflkfdhoaa.HeldI

section
variable {P : Program} {ops : Array Oper} {Q : Exit → Act → World → Prop} {S : World → Prop} {fuel : Nat} {listed : Array Bool} {a a' : Act} {w : World} {o : Oper}
theorem pu (i : Nat) {v : Value} (hS : S w) (h : wpAnyH P .any ops Q S fuel (listed.setIfInBounds i true) a' w) (hi : ops[i]? = some o := by (simp only [List.getElem?_toArray, List.getElem?_cons_succ, List.getElem?_cons_zero]; rfl)) (hs : Region.noSelect ops = true := by kernel_rfl) (hf : Region.free .any ops listed i = true := by kernel_rfl) (hr : (Region.ready .any ops listed).contains i = true := by kernel_rfl) (hw : Region.wanted o (yielded ops a.tmps) = true := by rfl) (hv : ∀ w, S w → (execOp a.eval o).run P w = .ok (.value v) w := by (intro w hSw; go_simp <;> rfl)) (hQ : ∀ c a w, Q (.panic c) (a.put o.dst v) w → Q (.panic c) a w := by exact fun _ _ _ h => h)
    (hp : a.put o.dst v = a' := by (simp only [Act.put, List.setIfInBounds_toArray, List.set_cons_zero, List.set_cons_succ]; rfl)) : wpAnyH P .any ops Q S (fuel + 1) listed a w :=
  wpAnyH_take hi hs hf hr hQ (.inl ⟨hw, hv⟩) hS (hp ▸ h)
theorem ce (i : Nat) {v : Value} {ad : Addr} (g : ∀ w, S w → w.cell? ad = some v) (hS : S w) (h : wpAnyH P .any ops Q S fuel (listed.setIfInBounds i true) a' w) (hi : ops[i]? = some o := by (simp only [List.getElem?_toArray, List.getElem?_cons_succ, List.getElem?_cons_zero]; rfl)) (hs : Region.noSelect ops = true := by kernel_rfl) (hf : Region.free .any ops listed i = true := by kernel_rfl) (hr : (Region.ready .any ops listed).contains i = true := by kernel_rfl) (hw : Region.wanted o (yielded ops a.tmps) = true := by rfl) (hv : ∀ w, S w → w.cell? ad = some v → (execOp a.eval o).run P w = .ok (.value v) w := by (intro w hSw g1; go_simp)) (hQ : ∀ c a w, Q (.panic c) (a.put o.dst v) w → Q (.panic c) a w := by exact fun _ _ _ h => h)
    (hp : a.put o.dst v = a' := by (simp only [Act.put, List.setIfInBounds_toArray, List.set_cons_zero, List.set_cons_succ]; rfl)) : wpAnyH P .any ops Q S (fuel + 1) listed a w :=
  wpAnyH_take hi hs hf hr hQ (.inl ⟨hw, fun w h => hv w h (g w h)⟩) hS (hp ▸ h)
theorem lm (i : Nat) {b f : Nat} {cs : List Value} {t : TypeId} {d : TypeDesc} {x : Operand} (hz : (P.info? t).map (·.size) = some cs.length) (g : ∀ w, S w → w.rangeAt b f cs) (hu : P.underlying t = some d) (hS : S w) (h : wpAnyH P .any ops Q S fuel (listed.setIfInBounds i true) a' w) (hi : ops[i]? = some o := by (simp only [List.getElem?_toArray, List.getElem?_cons_succ, List.getElem?_cons_zero]; rfl)) (hs : Region.noSelect ops = true := by kernel_rfl) (hf : Region.free .any ops listed i = true := by kernel_rfl) (hr : (Region.ready .any ops listed).contains i = true := by kernel_rfl) (hw : Region.wanted o (yielded ops a.tmps) = true := by rfl) (ho : o.op = .load t x := by rfl) (hx : a.eval x = .pointer (some ⟨b, f, none⟩) := by rfl) (hd : d.isRow = true := by rfl)
    (hQ : ∀ c a w, Q (.panic c) (a.put o.dst (.agg cs.toArray)) w → Q (.panic c) a w := by exact fun _ _ _ h => h) (hp : a.put o.dst (.agg cs.toArray) = a' := by (simp only [Act.put, List.setIfInBounds_toArray, List.set_cons_zero, List.set_cons_succ]; rfl)) : wpAnyH P .any ops Q S (fuel + 1) listed a w :=
  wpAnyH_take hi hs hf hr hQ (.inl ⟨hw, fun w hw' => by
    have h2 := run_loadVar_mid (P := P) w b f t cs d (g w hw') hu hd hz
    unfold execOp
    simp only [ho, hx, Instr.loadAt, Instr.sureAddr, Sem.run_bind, Sem.run_pure, h2, Result.andThen_ok]⟩) hS (hp ▸ h)
theorem al (i : Nat) (h : o.wp P a w (fun a' w' => S w' ∧ wpAnyH P .any ops Q S fuel (listed.setIfInBounds i true) a' w') Q) (hi : ops[i]? = some o) (hr : Region.ready .any ops listed = [i]) (hw : Region.wanted o (yielded ops a.tmps) = true) : wpAnyH P .any ops Q S (fuel + 1) listed a w :=
  wpAnyH_all hr (by simp) fun j hj => by
    obtain rfl : j = i := by simpa using hj
    unfold wpOp
    simp only [hi, hw, if_true]
    exact .inl h
/-- A load of a struct, alone in its turn. -/
theorem la (i : Nat) {b f : Nat} {cs : List Value} {t : TypeId} {d : TypeDesc} {x : Operand} (hz : (P.info? t).map (·.size) = some cs.length) (g : w.rangeAt b f cs) (hu : P.underlying t = some d) (hS : S w) (h : wpAnyH P .any ops Q S fuel (listed.setIfInBounds i true) a' w) (hi : ops[i]? = some o := by (simp only [List.getElem?_toArray, List.getElem?_cons_succ, List.getElem?_cons_zero]; rfl)) (hr : Region.ready .any ops listed = [i] := by kernel_rfl) (hw : Region.wanted o (yielded ops a.tmps) = true := by rfl) (ho : o.op = .load t x := by rfl) (hx : a.eval x = .pointer (some ⟨b, f, none⟩) := by rfl) (hd : d.isRow = true := by rfl)
    (hp : a.put o.dst (.agg cs.toArray) = a' := by (simp only [Act.put, List.setIfInBounds_toArray, List.set_cons_zero, List.set_cons_succ]; rfl)) : wpAnyH P .any ops Q S (fuel + 1) listed a w :=
  al i (by
    have h2 := run_loadVar_mid (P := P) w b f t cs d g hu hd hz
    unfold Oper.wp execOp
    simp only [ho, hx, Instr.loadAt, Instr.sureAddr, Sem.run_bind, Sem.run_pure, h2, Result.andThen_ok]
    exact ⟨hS, hp ▸ h⟩) hi hr hw
theorem kn (i : Nat) {f : FuncId} {us : Array Operand} {ts : Array TypeId} {args : List Value} {φ : Ending → World → Prop} {au : Value → Act} (hc : Calls P f args.toArray w φ) (h : ∀ e w', φ e w' → ∃ u, e = .returned u ∧ S w' ∧ wpAnyH P .any ops Q S fuel (listed.setIfInBounds i true) (au u) w')
    (hi : ops[i]? = some o := by (simp only [List.getElem?_toArray, List.getElem?_cons_succ, List.getElem?_cons_zero]; rfl)) (hr : Region.ready .any ops listed = [i] := by kernel_rfl) (hw : Region.wanted o (yielded ops a.tmps) = true := by rfl) (hf : Calm.enters P f = true := by kernel_rfl)
    (ho : o.op = .call { callee := .value (.func f), args := us, argTypes := ts } := by rfl) (ha : us.toList.map a.eval = args := by rfl) (hp : ∀ u, a.put o.dst u = au u := by (intro u; simp only [Act.put, List.setIfInBounds_toArray, List.set_cons_zero, List.set_cons_succ]; rfl)) : wpAnyH P .any ops Q S (fuel + 1) listed a w :=
  al i (by
    have e : ∀ args, (callFunc f args).run P w = .ok (.enter f args) w := fun args => Calm.enters_run hf args w
    have hr' : (execOp a.eval o).run P w = .ok (.enter f args.toArray) w := by
      have ha' : us.map a.eval = args.toArray := by
        rw [← ha, ← Array.toList_map, Array.toArray_toList]
      unfold execOp
      rw [ho]
      simp [go_sem, Act.eval, e, ← ha']
    unfold Oper.wp
    rw [hr']
    refine hc.mono fun e w' he => ?_
    obtain ⟨u, rfl, h1, h2⟩ := h e w' he
    exact ⟨h1, hp u ▸ h2⟩) hi hr hw
theorem st (i : Nat) {w1 : World} (hv : (execOp a.eval o).run P w = .ok .skip w1) (hS : S w1) (h : wpAnyH P .any ops Q S fuel (listed.setIfInBounds i true) a' w1) (hi : ops[i]? = some o := by (simp only [List.getElem?_toArray, List.getElem?_cons_succ, List.getElem?_cons_zero]; rfl)) (hr : Region.ready .any ops listed = [i] := by kernel_rfl) (hw : Region.wanted o (yielded ops a.tmps) = true := by rfl) (hp : a.put o.dst undef = a' := by (simp only [Act.put, List.setIfInBounds_toArray, List.set_cons_zero, List.set_cons_succ]; rfl)) : wpAnyH P .any ops Q S (fuel + 1) listed a w :=
  al i (by
    unfold Oper.wp
    rw [hv]
    exact ⟨hS, hp ▸ h⟩) hi hr hw
/-- A store of a struct, or of what a cell holds. -/
theorem ss (i : Nat) {w1 : World} {t : TypeId} {x y : Operand} {pv vv : Value} (hv : (Instr.storeAt t pv vv).run P w = .ok () w1) (hS : S w1) (h : wpAnyH P .any ops Q S fuel (listed.setIfInBounds i true) a' w1) (hi : ops[i]? = some o := by (simp only [List.getElem?_toArray, List.getElem?_cons_succ, List.getElem?_cons_zero]; rfl)) (hr : Region.ready .any ops listed = [i] := by kernel_rfl) (hw : Region.wanted o (yielded ops a.tmps) = true := by rfl) (ho : o.op = .store t x y := by rfl) (hx : a.eval x = pv := by rfl) (hy : a.eval y = vv := by rfl) (hp : a.put o.dst undef = a' := by (simp only [Act.put, List.setIfInBounds_toArray, List.set_cons_zero, List.set_cons_succ]; rfl)) : wpAnyH P .any ops Q S (fuel + 1) listed a w :=
  al i (by
    unfold Oper.wp execOp
    simp only [ho, hx, hy, Sem.run_bind, hv, Result.andThen_ok, Sem.run_pure]
    exact ⟨hS, hp ▸ h⟩) hi hr hw
theorem dn (h : Q .normal a w) (hr : Region.ready .any ops listed = [] := by kernel_rfl) : wpAnyH P .any ops Q S fuel listed a w := wpAnyH_done hr h _
theorem region {id : Nat} (S : World → Prop) (hm : P.follows .mixedOrders = true) {l : List Oper} (h : wpAnyH P .any l.toArray Q S l.length (Array.replicate l.length false) a w.drew) : (Code.region id l.toArray true).wp P Q a w := wp_region_held (S := S) hm (by simpa using h)
end
end Go.Proofs.Ytfiamiflkfdhoaa.HeldI
/- The queue as it lies in memory, and what keeps it. -/
namespace Go.Proofs.Ytfiamiflkfdhoaa
open Go.RowKit Go.ChangeMaps

/-- What the queue's own work may turn: maps, rows of ints, the queue itself. -/
def q3 : Obj → Bool
  | .cells _ t _ => t == 3
  | .map _ _ => true
  | _ => false
def qt : Obj → Bool
  | .cells _ t _ => t == 3 || t == 79
  | .map _ _ => true
  | _ => false
theorem qt_q3 {o : Obj} (h : qt o = false) : q3 o = false := by
  cases o <;> simp_all [qt, q3]
structure KQ (w w' : World) : Prop where
  size : w.heap.size ≤ w'.heap.size
  same : ∀ (b : Nat) (o : Obj), w.heap[b]? = some o → qt o = false → w'.heap[b]? = some o
theorem KQ.refl (w : World) : KQ w w := ⟨Nat.le_refl _, fun _ _ h _ => h⟩
theorem KQ.trans {a b c : World} (h : KQ a b) (k : KQ b c) : KQ a c := ⟨Nat.le_trans h.size k.size, fun i o h1 h2 => k.same i o (h.same i o h1 h2) h2⟩
theorem KQ.of_below {w w' : World} (h : Below w.heap.size w w') : KQ w w' := ⟨h.size, fun b _ h1 _ => (h.block b (Array.getElem?_eq_some_iff.1 h1).1).trans h1⟩
theorem KQ.grown {w w' : World} {row : Option Nat} (hg : w.grownBy w' row) (hr : ∀ b, row = some b → ∃ o, w.heap[b]? = some o ∧ qt o = true) : KQ w w' := ⟨hg.size, fun b o h1 h2 => by
  refine (hg.block b (Array.getElem?_eq_some_iff.1 h1).1 fun e => ?_).trans h1
  obtain ⟨o', h3, h4⟩ := hr b e.symm
  rw [h1] at h3
  cases h3
  rw [h2] at h4
  cases h4⟩
theorem KQ.setCell {w : World} {g : Nat} {cs : Array Value} (h : Rw w g 79 cs) (i : Nat) (v : Value) : KQ w (w.setCell ⟨g, i, none⟩ v) := ⟨by simp [World.setCell], fun b o h1 h2 => by
  rw [Below.heap_setCell w ⟨g, i, none⟩ v b fun e => ?_]
  · exact h1
  · have e' : b = g := e
    subst e'
    rw [show w.heap[b]? = _ from h] at h1
    cases h1
    cases h2⟩
theorem PRow.keep {w w' : World} {B : Nat} {v : Value} {q : List Nat} (h : PRow w B v q) (hk : ∀ b, v.ownBlock = some b → w'.heap[b]? = w.heap[b]?) : PRow w' B v q := by
  refine ⟨h.1, ?_⟩
  rcases h.2 with h | ⟨g, cap, cur, rfl, hbg, hg, h1, h2, h3, h4⟩
  · exact .inl h
  · exact .inr ⟨g, cap, cur, rfl, hbg, (hk g rfl).trans hg, h1, h2, h3, h4⟩
theorem PRow.block {w : World} {B : Nat} {v : Value} {q : List Nat} (h : PRow w B v q) {b : Nat} (e : v.ownBlock = some b) : B ≤ b ∧ ∃ cur, w.heap[b]? = some (.cells cur 3) := by
  rcases h.2 with ⟨rfl, _⟩ | ⟨g, cap, cur, rfl, hbg, hg, _⟩
  · simp [Value.ownBlock] at e
  · simp only [Value.ownBlock, Option.some.injEq] at e
    subst e
    exact ⟨hbg, cur, hg⟩
/-- Rows that are there go on to be. -/
theorem MOk.move {w w' : World} {B : Nat} {es : Array MapEntry} {clock : Nat} {lk : LK} (M : MOk w B es clock lk) (h : ∀ v q, PRow w B v q → PRow w' B v q) : MOk w' B es clock lk :=
  ⟨M.s1, M.s2, M.ks, M.kn, fun x hx p s e => h _ _ (M.vs x hx p s e), M.no, M.ap⟩
theorem Ext.move {w w' : World} {B : Nat} {es : Array MapEntry} {pv : Value} {pl : List Nat} {dp ds : Int} (E : Ext w B es pv pl dp ds) (h : ∀ v q, PRow w B v q → PRow w' B v q) : Ext w' B es pv pl dp ds := ⟨h _ _ E.p, E.a⟩
abbrev qc (lv : Value) (had rd : List Int) (bm : Nat) : List Value := lv :: (vals had ++ (vals rd ++ [.map (some bm)]))
theorem qc_length {lv : Value} {had rd : List Int} {bm : Nat} (h : had.length = 13) (r : rd.length = 13) : (qc lv had rd bm).length = 28 := by simp [qc, vals, h, r]
/-- The queue. -/
structure QAt (w : World) (B g m : Nat) (lv : Value) (had : List Int) (st : List Int × LK) (pv : Value) (pl : List Nat) (dp ds : Int) : Prop where
  q : Rw w g 79 (qc lv had st.1 m).toArray
  h : had.length = 13
  r : st.1.length = 13
  bg : B ≤ g
  bm : B ≤ m
  m : ∃ es clock, w.heap[m]? = some (.map es clock) ∧ MOk w B es clock st.2 ∧ Ext w B es pv pl dp ds
section
variable {w w' : World} {B g m : Nat} {lv : Value} {had : List Int} {st : List Int × LK} {pv : Value} {pl : List Nat} {dp ds : Int}
/-- It stays where what it lies in does. -/
theorem QAt.keep (Q : QAt w B g m lv had st pv pl dp ds) (h : ∀ (b : Nat) (o : Obj), w.heap[b]? = some o → qt o = true → w'.heap[b]? = some o) : QAt w' B g m lv had st pv pl dp ds := by
  obtain ⟨es, clock, hb, M, E⟩ := Q.m
  have hp : ∀ v q, PRow w B v q → PRow w' B v q := fun v q hv => hv.keep fun b e => by
    obtain ⟨_, cur, hc⟩ := hv.block e
    rw [hc]
    exact h b _ hc rfl
  exact ⟨h g _ Q.q rfl, Q.h, Q.r, Q.bg, Q.bm, es, clock, h m _ hb rfl, M.move hp, E.move hp⟩
theorem QAt.later (Q : QAt w B g m lv had st pv pl dp ds) (hb : Below w.heap.size w w') : QAt w' B g m lv had st pv pl dp ds := Q.keep fun b _ h _ => (hb.block b (Array.getElem?_eq_some_iff.1 h).1).trans h
theorem QAt.drew (Q : QAt w B g m lv had st pv pl dp ds) : QAt w.drew B g m lv had st pv pl dp ds := Q.later (Below.refl _ _).drew
theorem QAt.list (Q : QAt w B g m lv had st pv pl dp ds) : w.cell? ⟨g, 0, none⟩ = some lv := Q.q.cell 0
theorem QAt.hads (Q : QAt w B g m lv had st pv pl dp ds) : w.rangeAt g 1 (vals had) := Q.q.range 1 _ fun j v h => by
  have hj := (List.getElem?_eq_some_iff.1 h).1
  rw [Nat.add_comm]
  simp only [List.getElem?_toArray, qc, List.getElem?_cons_succ]
  rw [List.getElem?_append_left hj]
  exact h
theorem QAt.had_at (Q : QAt w B g m lv had st pv pl dp ds) {i : Nat} (hi : i < 13) : w.cell? ⟨g, 1 + i, none⟩ = some (.int .i64 (had.getD i 0)) := by
  have := Q.hads i (.int .i64 (had.getD i 0)) (by rw [vals, List.getElem?_map, List.getElem?_eq_getElem (by rw [Q.h]; exact hi), getD_at _ _ (by rw [Q.h]; exact hi)]; rfl)
  exact this
theorem QAt.rds (Q : QAt w B g m lv had st pv pl dp ds) : w.rangeAt g 14 (vals st.1) := Q.q.range 14 _ fun j v h => by
  have hj := (List.getElem?_eq_some_iff.1 h).1
  rw [show 14 + j = 13 + j + 1 by omega]
  simp only [List.getElem?_toArray, qc, List.getElem?_cons_succ]
  rw [List.getElem?_append_right (by simp [vals, Q.h]), List.getElem?_append_left (by simp [vals, Q.h] at hj ⊢; omega)]
  simpa [vals, Q.h] using h
theorem QAt.rd_at (Q : QAt w B g m lv had st pv pl dp ds) {i : Nat} (hi : i < 13) : w.cell? ⟨g, 14 + i, none⟩ = some (.int .i64 (st.1.getD i 0)) := by
  have := Q.rds i (.int .i64 (st.1.getD i 0)) (by rw [vals, List.getElem?_map, List.getElem?_eq_getElem (by rw [Q.r]; exact hi), getD_at _ _ (by rw [Q.r]; exact hi)]; rfl)
  exact this
theorem QAt.mp (Q : QAt w B g m lv had st pv pl dp ds) : w.cell? ⟨g, 27, none⟩ = some (.map (some m)) := by
  rw [Q.q.cell]
  simp only [List.getElem?_toArray, qc, List.getElem?_cons_succ]
  rw [List.getElem?_append_right (by simp [vals, Q.h]), List.getElem?_append_right (by simp [vals, Q.h, Q.r])]
  simp [vals, Q.h, Q.r]
theorem QAt.frozen (Q : QAt w B g m lv had st pv pl dp ds) (i : Nat) : w.frozen? ⟨g, i, none⟩ = false := Q.q.frozen i
/-- One of the places is another one. -/
theorem QAt.set_rd (Q : QAt w B g m lv had st pv pl dp ds) {i : Nat} (hi : i < 13) (z : Int) : QAt (w.setCell ⟨g, 14 + i, none⟩ (.int .i64 z)) B g m lv had (st.1.set i z, st.2) pv pl dp ds := by
  obtain ⟨es, clock, hb, M, E⟩ := Q.m
  have hne : ∀ (b : Nat) (o : Obj), w.heap[b]? = some o → q3 o = true → (w.setCell ⟨g, 14 + i, none⟩ (.int .i64 z)).heap[b]? = some o := fun b o h1 h2 => by
    rw [Below.heap_setCell w ⟨g, 14 + i, none⟩ _ b fun e => ?_]
    · exact h1
    · have e' : b = g := e
      subst e'
      rw [show w.heap[b]? = _ from Q.q] at h1
      cases h1
      cases h2
  have hp : ∀ v q, PRow w B v q → PRow (w.setCell ⟨g, 14 + i, none⟩ (.int .i64 z)) B v q := fun v q hv => hv.keep fun b e => by
    obtain ⟨_, cur, hc⟩ := hv.block e
    rw [hc]
    exact hne b _ hc rfl
  refine ⟨?_, Q.h, by simp [Q.r], Q.bg, Q.bm, es, clock, hne m _ hb rfl, M.move hp, E.move hp⟩
  have := Q.q.set (14 + i) (.int .i64 z)
  rw [List.setIfInBounds_toArray] at this
  rw [show (qc lv had st.1 m).set (14 + i) (.int .i64 z) = qc lv had (st.1.set i z) m by
    rw [show 14 + i = 13 + i + 1 by omega]
    simp only [qc, List.set_cons_succ]
    rw [List.set_append_right _ _ (by simp [vals, Q.h]), List.set_append_left _ _ (by simp [vals, Q.h, Q.r]; omega)]
    simp [vals, Q.h, List.map_set]] at this
  exact this
end
theorem info3 : (Try.prog.info? 3).map (fun i => (i.zero, i.size, i.bytes)) = some (some (.int .i64 0), 1, 8) := by kernel_rfl
/-- A place is put behind a dot: the append, and the entry's store. -/
theorem app_store {u w3 : World} {B m i : Nat} {es es1 : Array MapEntry} {clock clock1 st : Nat} {lk : LK} {p n : Int} {v0 pv : Value} {pl : List Nat} {dp ds : Int} {a : Nat} (ty : TypeId)
    (_M : MOk u B es clock lk) (E : Ext u B es pv pl dp ds) (hne : D p n ≠ D dp ds) (hv : PRow u B v0 (lk p n))
    (H : ∀ (w2 : World) (val : Value), w2.heap[m]? = some (.map es1 clock1) → ∃ es' clock', (Instr.entryStore 77 (.map (some m)) (goInt st) val).run Try.prog w2 = .ok () (setBlock w2 m (.map es' clock')) ∧
      ∀ w3 : World, (∀ v q, v.ownBlock ≠ v0.ownBlock ∨ v0.ownBlock = none → PRow u B v q → PRow w3 B v q) → PRow w3 B val (lk p n ++ [i]) → (val.ownBlock = v0.ownBlock ∨ ∀ v q, PRow u B v q → ∀ b, v.ownBlock = some b → val.ownBlock ≠ some b) → MOk w3 B es' clock' (lkPut lk p n i) ∧ (∀ pv pl dp ds, D p n ≠ D dp ds → Ext u B es pv pl dp ds → Ext w3 B es' pv pl dp ds))
    (hm : w3.heap[m]? = some (.map es1 clock1)) (hmu : u.heap[m]? = some (.map es clock)) (hk : ∀ b, b ≠ m → b < u.heap.size → w3.heap[b]? = u.heap[b]?) (hb3 : Below B u w3) (hBu : B ≤ u.heap.size) (hBm : B ≤ m)
    (ha : w3.cell? ⟨a, 0, none⟩ = some (.int .i64 i)) (hlen : (lk p n).length ≤ 1000) :
    ∃ v' w4 w5, (Builtin.append_ #[80, 80] ty #[v0, .slice (some ⟨a, 0, none⟩) 1 1]).run Try.prog w3 = .ok v' w4 ∧ (Instr.entryStore 77 (.map (some m)) (goInt st) v').run Try.prog w4 = .ok () w5 ∧
      (∃ es' clock', w5.heap[m]? = some (.map es' clock') ∧ MOk w5 B es' clock' (lkPut lk p n i) ∧ Ext w5 B es' pv pl dp ds) ∧ Below B u w5 ∧ u.heap.size ≤ w5.heap.size ∧ (∀ (b : Nat) (o : Obj), u.heap[b]? = some o → q3 o = false → w4.heap[b]? = some o) ∧ ∀ (b : Nat) (o : Obj), u.heap[b]? = some o → q3 o = false → w5.heap[b]? = some o := by
  obtain ⟨i3, hi, e⟩ := Option.map_eq_some_iff.1 info3
  simp only [Prod.mk.injEq] at e
  have hv3 : PRow w3 B v0 (lk p n) := hv.keep fun b e1 => by
    obtain ⟨_, cur, hc⟩ := hv.block e1
    refine hk b (fun e2 => ?_) (Array.getElem?_eq_some_iff.1 hc).1
    subst e2
    rw [hmu] at hc
    cases hc
  obtain ⟨v', w4, hr, h2, hg, _, hown⟩ := run_append_own_at (P := Try.prog) w3 B 80 ty 3 i3 (.int .i64 0) 1 8 Try.underlying80 hi e.1 e.2.1 e.2.2 rfl (by decide) v0 (lk p n).length _ hv3 ⟨a, 0, none⟩ 1 1 [.int .i64 i] rfl (fun j x hx => by
    match j with
    | 0 => simp at hx; subst hx; simpa [Addr.add_mid] using ha
    | j + 1 => simp at hx) (by simp [Value.oneCell']) (by simp [maxLen]; omega) (by omega) (Nat.le_trans hBu hb3.size)
  have h2' : PRow w4 B v' (lk p n ++ [i]) := by
    show w4.ownsRow B 3 1 v' (lk p n ++ [i]).length (plv (lk p n ++ [i]))
    rw [List.length_append, show plv (lk p n ++ [i]) = plv (lk p n) ++ [.int .i64 i] by simp [plv]]
    exact h2
  have hm4 : w4.heap[m]? = some (.map es1 clock1) := by
    refine (hg.block m (Array.getElem?_eq_some_iff.1 hm).1 fun e1 => ?_).trans hm
    obtain ⟨_, cur, hc⟩ := hv3.block e1.symm
    rw [hm] at hc
    cases hc
  obtain ⟨es', clock', hst, Hm⟩ := H w4 v' hm4
  have hold : ∀ b, b ≠ m → w4.heap[b]? = (setBlock w4 m (.map es' clock')).heap[b]? := fun b hb => by
    simp [setBlock, Array.getElem?_setIfInBounds_ne (Ne.symm hb)]
  have hm5 : (setBlock w4 m (.map es' clock')).heap[m]? = some (.map es' clock') := by
    simp [setBlock, (Array.getElem?_eq_some_iff.1 hm4).1]
  have hsz : (setBlock w4 m (.map es' clock')).heap.size = w4.heap.size := by simp [setBlock]
  have hv0lt : ∀ b, v0.ownBlock = some b → b < u.heap.size := fun b e1 => by
    obtain ⟨_, cur, hc⟩ := hv.block e1
    exact (Array.getElem?_eq_some_iff.1 hc).1
  have hkeep : ∀ (b : Nat) (o : Obj), u.heap[b]? = some o → b ≠ m → v0.ownBlock ≠ some b → (setBlock w4 m (.map es' clock')).heap[b]? = some o := fun b o h1 h3 h4 => by
    have hlt := (Array.getElem?_eq_some_iff.1 h1).1
    rw [← hold b h3, hg.block b (Nat.lt_of_lt_of_le hlt hb3.size) (fun e1 => h4 e1.symm), hk b h3 hlt]
    exact h1
  have hrow : ∀ v q, v.ownBlock ≠ v0.ownBlock ∨ v0.ownBlock = none → PRow u B v q → PRow (setBlock w4 m (.map es' clock')) B v q := fun v q h1 hq => hq.keep fun b e1 => by
    obtain ⟨_, cur, hc⟩ := hq.block e1
    rw [hc]
    refine hkeep b _ hc (fun e2 => ?_) fun e2 => ?_
    · subst e2
      rw [hmu] at hc
      cases hc
    · rcases h1 with h1 | h1
      · exact h1 (e1.trans e2.symm)
      · rw [h1] at e2
        cases e2
  have hnew : PRow (setBlock w4 m (.map es' clock')) B v' (lk p n ++ [i]) := h2'.keep fun b e1 => by
    obtain ⟨_, cur, hc⟩ := h2'.block e1
    refine (hold b fun e2 => ?_).symm
    subst e2
    rw [hm4] at hc
    cases hc
  obtain ⟨M5, E5⟩ := Hm _ hrow hnew (hown.elim .inl fun e1 => .inr fun v q hq b e2 => by
    obtain ⟨_, cur, hc⟩ := hq.block e2
    have hlt := (Array.getElem?_eq_some_iff.1 hc).1
    rw [e1]
    intro e3
    simp only [Option.some.injEq] at e3
    have := hb3.size
    omega)
  have hB4 : Below B u w4 := hb3.grown hg (Nat.le_trans hBu hb3.size) fun b e1 => (hv.block e1).1
  have hB5 : Below B w4 (setBlock w4 m (.map es' clock')) := ⟨rfl, rfl, rfl, by rw [hsz]; exact Nat.le_refl _, fun b hb => (hold b (by omega)).symm⟩
  have hq1 : ∀ (b : Nat) (o : Obj), u.heap[b]? = some o → q3 o = false → b ≠ m := fun b o h1 h3 e1 => by
    subst e1
    rw [hmu] at h1
    cases h1
    cases h3
  have hq2 : ∀ (b : Nat) (o : Obj), u.heap[b]? = some o → q3 o = false → v0.ownBlock ≠ some b := fun b o h1 h3 e1 => by
    obtain ⟨_, cur, hc⟩ := hv.block e1
    rw [h1] at hc
    cases hc
    cases h3
  exact ⟨v', w4, _, hr, hst, ⟨es', clock', hm5, M5, E5 pv pl dp ds hne E⟩, hB4.trans hB5, (hB4.trans hB5).size, fun b o h1 h3 => (hold b (hq1 b o h1 h3)).trans (hkeep b o h1 (hq1 b o h1 h3) (hq2 b o h1 h3)), fun b o h1 h3 => hkeep b o h1 (hq1 b o h1 h3) (hq2 b o h1 h3)⟩
theorem keep_set {w : World} {m : Nat} {es : Array MapEntry} {clock : Nat} (hb : w.heap[m]? = some (.map es clock)) (o' : Obj) (b : Nat) (o : Obj) (h : w.heap[b]? = some o) (h3 : q3 o = false) : (setBlock w m o').heap[b]? = some o := by
  have hne : m ≠ b := fun e => by
    subst e
    rw [hb] at h
    cases h
    cases h3
  simp only [setBlock]
  rw [Array.getElem?_setIfInBounds_ne hne]
  exact h
end Go.Proofs.Ytfiamiflkfdhoaa
