import Derived.Test.YtfiamiflkfdhoaaP10
import Derived.Test.YtfiamiflkfdhoaaP7
import Derived.WalkMore
import Derived.Deep.Cut
/- What the walk of look wants: boxes of transactions, a vector's number, min. -/
namespace Go.Proofs.Ytfiamiflkfdhoaa
open Go.RowKit Go.ChangeMaps

/-- The zero transaction's cells, written out. -/
abbrev z17 : Array Value := #[.int .i64 0, .int .i64 0, .int .i64 0, .int .i64 0, .int .i64 0, .int .i64 0, .int .i64 0, .int .i64 0, .int .i64 0, .int .i64 0, .int .i64 0, .int .i64 0, .int .i64 0, .int .i64 0, .int .i64 0, .int .i64 0, .slice none 0 0]
theorem tx_one (x : T) {sl : Value} (hs : sl.oneCell' = true) : (txc x.p x.s x.v x.t sl).toArray.all (·.oneCell') = true := by
  rw [Array.all_eq_true_iff_forall_mem]
  intro u hu
  exact T.one sl hs x u (by simpa using hu)
theorem OHas.one {w : World} {sl : Value} {l : List O} (h : OHas w sl l) : sl.oneCell' = true := by
  obtain ⟨p, c, rfl, _⟩ := h
  rfl
section
variable {ops : Array Oper} {rest : List Oper} {op : Oper} {a : Act} {w : World} {Q : Exit → Act → World → Prop}
theorem store_tx (hgd : op.guard = none) (x y : Operand) (ho : op.op = .store 34 x y) (b : Nat) (X : T) (sl : Value) (hx : a.eval x = .pointer (some ⟨b, 0, none⟩)) (hy : a.eval y = TxV X.p X.s X.v X.t sl) (hsl : sl.oneCell' = true) {cs : Array Value} (hc : Rw w b 34 cs) (hs : cs.size = 17)
    (h : wpList Try.prog ops Q rest (a.put op.dst undef) (w.setRow b (txc X.p X.s X.v X.t sl).toArray)) : wpList Try.prog ops Q (op :: rest) a w :=
  store_r hgd 34 x y ho b _ hx hy hc (size_tx X.hv) (by rw [hs, List.size_toArray, txc_length X.hv]) (tx_one X hsl) h
theorem index_v (hgd : op.guard = none) (x y : Operand) (ho : op.op = .index 26 x y) (l : List Int) (j : Nat) (hx : a.eval x = V l) (hy : a.eval y = .int .i64 (j : Int)) (hj : j < 13) (hl : l.length = 13)
    (h : wpList Try.prog ops Q rest (a.put op.dst (.int .i64 (l.getD j 0))) w) : wpList Try.prog ops Q (op :: rest) a w :=
  wpList_plain hgd fun _ hK => by
    have e : (vals l)[j]? = some (.int .i64 (l.getD j 0)) := by rw [vals, List.getElem?_map, List.getElem?_eq_getElem (by rw [hl]; exact hj), getD_at _ _ (by rw [hl]; exact hj)]; rfl
    have hj' : (0 : Int) ≤ (j : Int) ∧ (j : Int) < 13 := by omega
    have hr : (Instr.index 26 (V l) (.int .i64 (j : Int))).run Try.prog w = .ok (.int .i64 (l.getD j 0)) w := by
      simp [Instr.index, go_sem, e, hj]
    unfold Oper.wp execOp
    simp only [ho, hx, hy, Sem.run_bind, hr, Result.andThen_ok, Sem.run_pure]
    exact hK _ _ h
end
namespace HeldI
section
variable {P : Program} {ops : Array Oper} {Q : Exit → Act → World → Prop} {S : World → Prop} {fuel : Nat} {listed : Array Bool} {a a' : Act} {w : World} {o o2 : Oper}
/-- Two are ready. -/
theorem tw (i j : Nat) (hi : ops[i]? = some o) (hj : ops[j]? = some o2) (hr : Region.ready .any ops listed = [i, j]) (hw : Region.wanted o (yielded ops a.tmps) = true) (hw2 : Region.wanted o2 (yielded ops a.tmps) = true)
    (h : o.wp P a w (fun a' w' => S w' ∧ wpAnyH P .any ops Q S fuel (listed.setIfInBounds i true) a' w') Q) (h2 : o2.wp P a w (fun a' w' => S w' ∧ wpAnyH P .any ops Q S fuel (listed.setIfInBounds j true) a' w') Q) : wpAnyH P .any ops Q S (fuel + 1) listed a w :=
  wpAnyH_all hr (by simp) fun k hk => by
    rcases (show k = i ∨ k = j by simpa using hk) with rfl | rfl
    · unfold wpOp
      simp only [hi, hw, if_true]
      exact .inl h
    · unfold wpOp
      simp only [hj, hw2, if_true]
      exact .inl h2
theorem vw {v : Value} {w1 : World} {K : Act → World → Prop} (hv : (execOp a.eval o).run P w = .ok (.value v) w1) (h : K a' w1) (hp : a.put o.dst v = a') : o.wp P a w K Q := by
  subst hp
  unfold Oper.wp
  rw [hv]
  exact h
/-- It comes to a value, and leaves another world. -/
theorem vl (i : Nat) {v : Value} {w1 : World} (hv : (execOp a.eval o).run P w = .ok (.value v) w1) (hS : S w1) (h : wpAnyH P .any ops Q S fuel (listed.setIfInBounds i true) a' w1) (hi : ops[i]? = some o := by (simp only [List.getElem?_toArray, List.getElem?_cons_succ, List.getElem?_cons_zero]; rfl)) (hr : Region.ready .any ops listed = [i] := by kernel_rfl) (hw : Region.wanted o (yielded ops a.tmps) = true := by rfl) (hp : a.put o.dst v = a' := by (simp only [Act.put, List.setIfInBounds_toArray, List.set_cons_zero, List.set_cons_succ]; rfl)) : wpAnyH P .any ops Q S (fuel + 1) listed a w :=
  al i (by
    unfold Oper.wp
    rw [hv]
    exact ⟨hS, hp ▸ h⟩) hi hr hw
end
end HeldI
section
variable {o : Oper} {a : Act} {w : World}
theorem run_one {x : Operand} {i : Int} (ho : o.op = .buildSlice 80 1 #[(0, x)]) (hx : a.eval x = .int .i64 i) : (execOp a.eval o).run Try.prog w = .ok (.value (.slice (some ⟨w.heap.size, 0, none⟩) 1 1)) (w.alloc (.cells #[.int .i64 i] 3)) := by
  unfold execOp
  generalize a.eval = ρ at hx
  simp [ho, hx, go_sem]
theorem run_entry {x y : Operand} {u v k : Value} {w1 : World} (ho : o.op = .mapEntry 77 x y) (hx : a.eval x = u) (hy : a.eval y = k) (hr : (Instr.mapEntry 77 u k).run Try.prog w = .ok v w1) : (execOp a.eval o).run Try.prog w = .ok (.value v) w1 := by
  unfold execOp
  simp only [ho, hx, hy, Sem.run_bind, hr, Result.andThen_ok, Sem.run_pure]
theorem run_estore {x y z : Operand} {u v k : Value} {w1 : World} (ho : o.op = .entryStore 77 x y z) (hx : a.eval x = u) (hy : a.eval y = k) (hz : a.eval z = v) (hr : (Instr.entryStore 77 u k v).run Try.prog w = .ok () w1) : (execOp a.eval o).run Try.prog w = .ok .skip w1 := by
  unfold execOp
  simp only [ho, hx, hy, hz, Sem.run_bind, hr, Result.andThen_ok, Sem.run_pure]
theorem run_app {x y : Operand} {u v k : Value} {w1 : World} (ho : o.op = .call { callee := .builtin .append, args := #[x, y], argTypes := #[80, 80] }) (hx : a.eval x = u) (hy : a.eval y = k) (hr : (Builtin.append_ #[80, 80] o.type #[u, k]).run Try.prog w = .ok v w1) : (execOp a.eval o).run Try.prog w = .ok (.value v) w1 := by
  unfold execOp
  simp only [ho, resolve, invoke, builtin, Sem.run_bind, Sem.run_pure, Result.andThen_ok, List.map_toArray, List.map_cons, List.map_nil, hx, hy, hr]
end
theorem set_there {w : World} {m : Nat} {o o' : Obj} (h : w.heap[m]? = some o') : (setBlock w m o).heap[m]? = some o := by simp [setBlock, (Array.getElem?_eq_some_iff.1 h).1]
theorem box_tx (w : World) (X : T) (sl : Value) {w2 : World} (h : (w.alloc (.cells z17 34)).setRow w.heap.size (txc X.p X.s X.v X.t sl).toArray = w2) : Rw w2 w.heap.size 34 (txc X.p X.s X.v X.t sl).toArray ∧ Below w.heap.size w w2 ∧ w.heap.size < w2.heap.size := by
  subst h
  exact ⟨(rw_new w 34 z17).row _, below_setRow (bel_alloc (Below.refl _ _) _) (Nat.le_refl _) _, by simp [World.setRow]⟩
end Go.Proofs.Ytfiamiflkfdhoaa
/- The function look of the queue. -/
namespace Go.Proofs.Ytfiamiflkfdhoaa
open Go.RowKit Go.ChangeMaps

theorem ok_chk {x : T} (h : x.ok = true) : chk x.v = true := by
  simp only [T.ok, ct, sn, Bool.and_eq_true] at h
  exact h.2.1.1.1
theorem an_bound {x : T} (h : x.ok = true) (i : Nat) (hi : i < 13) : 0 ≤ (an x).getD i 0 ∧ (an x).getD i 0 ≤ 1048576 := by
  by_cases e : i = x.p.toNat
  · subst e
    rw [an_same h]
    have := T.ok_s h
    omega
  · rw [an_other x i e]
    exact chk_at x.hv (ok_chk h) i hi
theorem look_len (had : List Int) (x : T) (i : Nat) (st : List Int × LK) (p n : Int) : ((lookS had x i st).2 p n).length ≤ (st.2 p n).length + 1 := by
  unfold lookS
  split
  · show (lkPut _ _ _ _ p n).length ≤ _
    unfold lkPut
    split
    · rename_i h
      obtain ⟨rfl, rfl⟩ := h
      simp
    · exact Nat.le_succ _
  · split <;> exact Nat.le_succ _
theorem looks_len (had : List Int) (l : List T) (p n : Int) : ∀ (pl : List Nat) (st : List Int × LK), ((looks had l pl st).2 p n).length ≤ (st.2 p n).length + pl.length
  | [], st => by simp [looks]
  | i :: pl, st => by
    simp only [looks]
    split
    · rename_i x _
      have h1 := looks_len had l p n pl (lookS had x i st)
      have h2 := look_len had x i st p n
      simp only [List.length_cons]
      omega
    · have h1 := looks_len had l p n pl st
      simp only [List.length_cons]
      omega
theorem row_at {w : World} {B : Nat} {v : Value} {q : List Nat} (h : PRow w B v q) {k : Nat} (hk : k < q.length) : ∃ b c, v = .slice (some ⟨b, 0, none⟩) q.length c ∧ w.cell? ⟨b, k, none⟩ = some (.int .i64 (q[k] : Int)) := by
  rcases h.2 with ⟨_, h0⟩ | ⟨g, cap, cur, rfl, _⟩
  · omega
  · refine ⟨g, cap, rfl, ?_⟩
    have := World.ownsRow.cells h (g := g) rfl k (.int .i64 (q[k] : Int)) (by simp [plv, hk])
    simpa [Addr.add_mid] using this
set_option maxHeartbeats 4000000 in
set_option maxRecDepth 100000 in
theorem look_any (w0 w : World) (g m : Nat) (lv : Value) (l : List T) (had : List Int) (st : List Int × LK) (pv : Value) (pl : List Nat) (dp ds : Int) (hX : XHas w0 lv l) (hb0 : Below w0.heap.size w0 w) (Q : QAt w w0.heap.size g m lv had st pv pl dp ds)
    (hs : ∀ i ∈ pl, ∃ t, l[i]? = some t ∧ t.ok = true ∧ ∀ p : Nat, fw had (an t) = some p → ¬ ((p : Int) = dp ∧ (an t).getD p 0 = ds)) (hl : l.length ≤ 100) (hpl : pl.length ≤ 100) (hrow : ∀ p n, (st.2 p n).length ≤ 100) :
    Calls Try.prog 62 #[.pointer (some ⟨g, 0, none⟩), pv] w fun e w' => (∃ v, e = .returned v) ∧ QAt w' w0.heap.size g m lv had (looks had l pl st) pv pl dp ds ∧ KQ w w' ∧ Below w0.heap.size w0 w' := by
  obtain ⟨qp, qcap, rfl⟩ : ∃ p c, pv = .slice p pl.length c := by
    obtain ⟨es, clock, _, _, E⟩ := Q.m
    exact own_sl E.p
  obtain ⟨lp, lcap, rfl⟩ := hX.slice
  have HQ : Hid (QAt w w0.heap.size g m (.slice lp l.length lcap) had st (.slice qp pl.length qcap) pl dp ds) := Q
  have HX : Hid (XHas w0 (.slice lp l.length lcap) l) := hX
  have HS : Hid (∀ i ∈ pl, ∃ t, l[i]? = some t ∧ t.ok = true ∧ ∀ p : Nat, fw had (an t) = some p → ¬ ((p : Int) = dp ∧ (an t).getD p 0 = ds)) := hs
  have HR : Hid (∀ p n, (st.2 p n).length ≤ 100) := hrow
  have hh : Hid (had.length = 13) := Q.h
  have hml : Hid (l.length ≤ 100 ∧ pl.length ≤ 100) := ⟨hl, hpl⟩
  clear Q hX hs hrow
  have hplm : (pl.length : Int) ≤ 100 := by omega
  have hlm : (l.length : Int) ≤ 100 := by omega
  clear hl hpl
  go_enter Try.func62, Try.ntmps62
  go_wp2_with fail
  go_step3
  go_wp2_with fail
  go_step3
  go_wp2_with fail
  go_loopw [12] (fun vk wr => ∃ k : Nat, vk = .int .i64 k ∧ k ≤ pl.length ∧ Hid (QAt wr w0.heap.size g m (.slice lp l.length lcap) had (looks had l (pl.take k) st) (.slice qp pl.length qcap) pl dp ds) ∧ Hid (KQ w wr) ∧ Below w0.heap.size w0 wr) (fun vk _ => pl.length - (intOf vk).toNat)
  case atStart => exact ⟨0, rfl, by omega, HQ.out, KQ.refl _, hb0⟩
  case round =>
    clear HQ hb0
    obtain ⟨k, rfl, hk, HQ, HK, hbel⟩ := hrel
    by_cases hlt : k < pl.length
    · have hlt' : (k : Int) < (pl.length : Int) := by omega
      obtain ⟨es, clock, hm, M, E⟩ := HQ.out.m
      obtain ⟨b, c, e, hc⟩ := row_at E.p hlt
      clear es clock hm M E
      simp only [Value.slice.injEq] at e
      obtain ⟨rfl, -, rfl⟩ := e
      obtain ⟨x, hx, hok, hno⟩ := HS.out pl[k] (List.getElem_mem _)
      obtain ⟨hil, hxe⟩ := List.getElem?_eq_some_iff.1 hx
      obtain ⟨gl, ol, sl, rfl, hd, ho⟩ := XHas.at (HX.out.later hbel) pl[k] hil
      rw [hxe] at hd ho
      obtain ⟨i, HI⟩ := hid_ex pl[k]
      have hil' : (i : Int) < (l.length : Int) := by have := HI.out; omega
      have htk : Hid (looks had l (pl.take (k + 1)) st = lookS had x i (looks had l (pl.take k) st)) := by
        show _ = _
        rw [List.take_succ_eq_append_getElem hlt]
        rw [looks_snoc had l pl[k] x hx, HI.out]
      rw [HI.out] at hc hd
      clear hil hxe hx
      have hq0 := HQ.out.list
      have z := tx_size x sl
      obtain ⟨w2, HW⟩ : ∃ w2, (wr.alloc (.cells z17 34)).setRow wr.heap.size (txc x.p x.s x.v x.t sl).toArray = w2 := ⟨_, rfl⟩
      obtain ⟨R2, hb2, hsz2⟩ := box_tx wr x sl HW
      have r2 := R2.range 0 (txc x.p x.s x.v x.t sl) (fun j v h => by simpa using h)
      have hsl := ho.one
      go_upto_region 4 with (first | refine load_m 34 _ rfl rfl _ _ rfl hd Try.underlying34 rfl z ?_ | refine store_tx rfl _ _ rfl _ x sl rfl rfl hsl (rw_new wr 34 z17) rfl ?_)
      try rw [HW]
      clear HW
      have h2q : Hid (QAt w2 w0.heap.size g m (.slice (some ⟨gl, ol, none⟩) l.length lcap) had (looks had l (pl.take k) st) (.slice (some ⟨b, 0, none⟩) pl.length qcap) pl dp ds) := HQ.out.later hb2
      have h2k : Hid (KQ w w2) := HK.out.trans (KQ.of_below hb2)
      have h2b : Below w0.heap.size w0 w2 := hbel.trans (hb2.mono hbel.size)
      have hbw := hsz2
      obtain ⟨tb, HT⟩ := hid_ex wr.heap.size
      have HTB := HT.out
      rw [HTB] at R2 r2 hbw ⊢
      clear HTB
      have ho2 := ho.later hb2
      clear HQ HK hbel hb2 hd ho hq0 hc HT hsz2
      go_upto_region 5 with (refine load_m 34 _ rfl rfl _ _ rfl r2 Try.underlying34 rfl z ?_)
      refine (ahead_any x sl _ hok).mono ?_
      rintro e w3 ⟨rfl, hb3⟩
      have h3q : Hid (QAt w3 w0.heap.size g m (.slice (some ⟨gl, ol, none⟩) l.length lcap) had (looks had l (pl.take k) st) (.slice (some ⟨b, 0, none⟩) pl.length qcap) pl dp ds) := h2q.out.later hb3
      have h3k : Hid (KQ w w3) := h2k.out.trans (KQ.of_below hb3)
      have h3b : Below w0.heap.size w0 w3 := h2b.trans (hb3.mono h2b.size)
      have R3 := R2.later hb3
      have ho3 := ho2.later hb3
      have HAN : Hid (∀ j, j < 13 → 0 ≤ (an x).getD j 0 ∧ (an x).getD j 0 ≤ 1048576) := fun j hj => an_bound hok j hj
      have HNO : Hid (∀ p : Nat, fw had (an x) = some p → ¬ ((p : Int) = dp ∧ (an x).getD p 0 = ds)) := hno
      have HAL : Hid ((an x).length = 13) := an_length x
      have HOK : Hid (x.ok = true) := hok
      obtain ⟨a, HA⟩ := hid_ex (an x)
      rw [HA.out] at HAN HNO HAL ⊢
      clear h2q h2k h2b R2 ho2 hb3 hbw r2 hno hok
      go_upto_region 5 with fail
      go_loopw [25] (fun vp wr2 => ∃ j : Nat, vp = .int .i64 j ∧ j ≤ 13 ∧ Hid (∀ i, i < j → a.getD i 0 ≤ had.getD i 0) ∧ w3 = wr2) (fun vp _ => 13 - (intOf vp).toNat)
      case atStart => exact ⟨0, rfl, by omega, (fun _ h => absurd h (by omega)), rfl⟩
      case round =>
        obtain ⟨j, rfl, hj, HJ, rfl⟩ := hrel
        by_cases hj13 : j < 13
        · have hj' : (j : Int) < 13 := by omega
          have c1 := h3q.out.had_at hj13
          have hal := HAL.out
          have HB := HAN.out j hj13
          obtain ⟨y, HY⟩ := hid_ex (had.getD j 0)
          rw [HY.out] at c1
          obtain ⟨n, HN⟩ := hid_ex (a.getD j 0)
          rw [HN.out] at HB
          by_cases hgt : y < n
          · have hgt' : decide (n > y) = true := by simpa using hgt
            have hfw : fw had (an x) = some j := by
              rw [HA.out]
              refine fw_at hj13 (fun q hq => HJ.out q hq) ?_
              rw [HN.out, HY.out]
              exact hgt
            have hne : D (j : Int) n ≠ D dp ds := fun e => by
              have e2 := D_inj e
              refine HNO.out j (by rw [← HA.out]; exact hfw) ⟨e2.1, ?_⟩
              rw [HN.out]
              exact e2.2
            have hst : Hid (lookS had x i (looks had l (pl.take k) st) = ((looks had l (pl.take k) st).1, lkPut (looks had l (pl.take k) st).2 j n i)) := by
              show _ = _
              unfold lookS
              rw [hfw]
              simp only [HA.out, HN.out]
            have hrl : Hid (((looks had l (pl.take k) st).2 j n).length ≤ 1000) := by
              have h1 := looks_len had l j n (pl.take k) st
              have h2 := HR.out j n
              have h3 := hml.out.2
              rw [List.length_take] at h1
              show _ ≤ _
              omega
            have hIj : I64 (j : Int) := ⟨by omega, by omega⟩
            have hIn : I64 n := ⟨by omega, by omega⟩
            clear hfw HJ HY hgt HNO HAN HAL HR
            obtain ⟨LKp, HLK⟩ := hid_ex (looks had l (pl.take k) st)
            rw [HLK.out] at h3q hst hrl htk
            clear HLK
            go_upto_region 9 with (first | (refine index_v rfl _ _ rfl a j rfl rfl hj13 hal ?_; rw [HN.out]))
            have hQ4 : QAt (w3.alloc (.cells #[.int .i64 j, .int .i64 n] 31)) w0.heap.size g m (.slice (some ⟨gl, ol, none⟩) l.length lcap) had LKp (.slice (some ⟨b, 0, none⟩) pl.length qcap) pl dp ds := h3q.out.later (bel_alloc (Below.refl _ _) _)
            have hD4 : Rw (w3.alloc (.cells #[.int .i64 j, .int .i64 n] 31)) w3.heap.size 31 #[.int .i64 j, .int .i64 n] := rw_new _ _ _
            have hb4 : Below w3.heap.size w3 (w3.alloc (.cells #[.int .i64 j, .int .i64 n] 31)) := bel_alloc (Below.refl _ _) _
            have hk4 : Hid (KQ w (w3.alloc (.cells #[.int .i64 j, .int .i64 n] 31))) := h3k.out.trans (KQ.of_below hb4)
            have hbb4 : Below w0.heap.size w0 (w3.alloc (.cells #[.int .i64 j, .int .i64 n] 31)) := h3b.trans (hb4.mono h3b.size)
            generalize w3.alloc (.cells #[.int .i64 j, .int .i64 n] 31) = w4 at hQ4 hD4 hk4 hbb4 ⊢
            clear hb4 h3q h3k h3b R3 ho3 c1
            obtain ⟨db, HDB⟩ := hid_ex w3.heap.size
            have HDB' := HDB.out
            rw [HDB'] at hD4 ⊢
            clear HDB HDB'
            have hS : Rw w4.drew g 79 (qc (.slice (some ⟨gl, ol, none⟩) l.length lcap) had LKp.1 m).toArray ∧ Rw w4.drew db 31 #[.int .i64 j, .int .i64 n] := ⟨hQ4.drew.q, hD4.drew⟩
            have hmp : ∀ w', Rw w' g 79 (qc (.slice (some ⟨gl, ol, none⟩) l.length lcap) had LKp.1 m).toArray ∧ Rw w' db 31 #[.int .i64 j, .int .i64 n] → w'.cell? ⟨g, 27, none⟩ = some (.map (some m)) := fun w' h => by
              have := hQ4.mp
              rw [hQ4.q.cell] at this
              rw [h.1.cell]
              exact this
            refine HeldI.region (fun w' => Rw w' g 79 (qc (.slice (some ⟨gl, ol, none⟩) l.length lcap) had LKp.1 m).toArray ∧ Rw w' db 31 #[.int .i64 j, .int .i64 n]) (by kernel_rfl) ?_
            refine HeldI.pu 0 hS ?_
            refine HeldI.pu 1 hS ?_
            refine HeldI.pu 2 hS ?_
            refine HeldI.ce 3 hmp hS ?_
            refine HeldI.lm 4 (zd (j : Int) n) (fun _ h => h.2.range 0 _ (fun j v h => by simpa using h)) Try.underlying31 hS ?_
            refine HeldI.pu 5 hS ?_
            have hdl : Below w4.heap.size w4 w4.drew := (Below.refl _ _).drew
            obtain ⟨es, clock, hm4, M4, E4⟩ := hQ4.drew.m
            have hBsz : w0.heap.size ≤ w4.drew.heap.size := hbb4.size
            have hBm := hQ4.bm
            have hrl' := hrl.out
            have hSk : ∀ w', (∀ (b : Nat) (o : Obj), w4.drew.heap[b]? = some o → q3 o = false → w'.heap[b]? = some o) → Rw w' g 79 (qc (.slice (some ⟨gl, ol, none⟩) l.length lcap) had LKp.1 m).toArray ∧ Rw w' db 31 #[.int .i64 j, .int .i64 n] := fun w' h => ⟨h g _ hS.1 rfl, h db _ hS.2 rfl⟩
            have hbA : Below w4.drew.heap.size w4.drew (w4.drew.alloc (.cells #[.int .i64 i] 3)) := bel_alloc (Below.refl _ _) _
            have M5 := M4.move (w' := w4.drew.alloc (.cells #[.int .i64 i] 3)) fun v q h => own_later h hbA
            have E5 := E4.move (w' := w4.drew.alloc (.cells #[.int .i64 i] 3)) fun v q h => own_later h hbA
            have hm5 : (w4.drew.alloc (.cells #[.int .i64 i] 3)).heap[m]? = some (.map es clock) := (Below.heap_alloc _ _ _ (Array.getElem?_eq_some_iff.1 hm4).1).trans hm4
            have k5 : ∀ (b : Nat) (o : Obj), w4.drew.heap[b]? = some o → (w4.drew.alloc (.cells #[.int .i64 i] 3)).heap[b]? = some o := fun b o h => (Below.heap_alloc _ _ _ (Array.getElem?_eq_some_iff.1 h).1).trans h
            have ha5 : (w4.drew.alloc (.cells #[.int .i64 i] 3)).cell? ⟨w4.drew.heap.size, 0, none⟩ = some (.int .i64 i) := (rw_new w4.drew 3 #[.int .i64 i]).cell 0
            have hB5 : Below w0.heap.size w4.drew (w4.drew.alloc (.cells #[.int .i64 i] 3)) := hbA.mono hBsz
            refine HeldI.vl 6 (run_one rfl rfl) (hSk _ fun b o h _ => k5 b o h) ?_
            generalize w4.drew.alloc (.cells #[.int .i64 i] 3) = w5 at M5 E5 hm5 k5 ha5 hB5 ⊢
            obtain ⟨v0, st0, es1, clock1, hrun, hv0, Hst⟩ := MOk.entry hm5 M5 hIj hIn i
            have k6 := keep_set hm5 (.map es1 clock1)
            have hm6 : (setBlock w5 m (.map es1 clock1)).heap[m]? = some (.map es1 clock1) := set_there hm5
            have k6' : ∀ b, b ≠ m → (setBlock w5 m (.map es1 clock1)).heap[b]? = w5.heap[b]? := fun b hb => by simp [setBlock, Array.getElem?_setIfInBounds_ne (Ne.symm hb)]
            have hB6 : Below w0.heap.size w5 (setBlock w5 m (.map es1 clock1)) := ⟨rfl, rfl, rfl, by simp [setBlock], fun b hb => k6' b (by omega)⟩
            have ha6 : (setBlock w5 m (.map es1 clock1)).cell? ⟨w4.drew.heap.size, 0, none⟩ = some (.int .i64 i) := by
              rw [World.cell?_of_block (w := w5) (k6' _ fun e => by have := (Array.getElem?_eq_some_iff.1 hm4).1; have e' : w4.drew.heap.size = m := e; omega)]
              exact ha5
            obtain ⟨v', w7, w8, hap, hes, hm8, hb8, hsz8, hkp7, hkp8⟩ := app_store (w3 := setBlock w5 m (.map es1 clock1)) 80 M5 E5 hne hv0 Hst hm6 hm5 (fun b hb _ => k6' b hb) hB6 (Nat.le_trans hBsz hB5.size) hBm ha6 hrl'
            refine HeldI.vl 7 (run_entry (u := .map (some m)) (k := D (j : Int) n) rfl rfl rfl hrun) (hSk _ fun b o h h3 => k6 b o (k5 b o h) h3) ?_
            refine HeldI.pu 8 (hSk _ fun b o h h3 => k6 b o (k5 b o h) h3) ?_
            refine HeldI.pu 10 (hSk _ fun b o h h3 => k6 b o (k5 b o h) h3) ?_
            refine HeldI.vl 9 (run_app rfl rfl rfl hap) (hSk _ fun b o h h3 => hkp7 b o (k5 b o h) h3) ?_
            refine HeldI.st 11 (run_estore (u := .map (some m)) (k := goInt st0) (v := v') rfl rfl rfl rfl hes) (hSk _ fun b o h h3 => hkp8 b o (k5 b o h) h3) ?_
            have hkp8' : ∀ (b : Nat) (o : Obj), w4.drew.heap[b]? = some o → q3 o = false → w8.heap[b]? = some o := fun b o h h3 => hkp8 b o (k5 b o h) h3
            have hb8' : Below w0.heap.size w4.drew w8 := hB5.trans hb8
            have hsz8' : w4.heap.size ≤ w8.heap.size := Nat.le_trans hB5.size hsz8
            clear hkp8 hkp7 hb8 hsz8 Hst hv0 hrun k6 hm6 k6' hB6 ha6 M5 E5 hm5 k5 ha5 hB5 hbA
            refine HeldI.dn ?_
            have hQ8 : Hid (QAt w8 w0.heap.size g m (.slice (some ⟨gl, ol, none⟩) l.length lcap) had (looks had l (pl.take (k + 1)) st) (.slice (some ⟨b, 0, none⟩) pl.length qcap) pl dp ds) := by
              show QAt _ _ _ _ _ _ _ _ _ _ _
              rw [htk.out, hst.out]
              exact ⟨hkp8' g _ hS.1 rfl, hQ4.h, hQ4.r, hQ4.bg, hQ4.bm, hm8⟩
            have hK8 : Hid (KQ w w8) := hk4.out.trans ⟨hsz8', fun b o h1 h2 => hkp8' b o h1 (qt_q3 h2)⟩
            have hB8 : Below w0.heap.size w0 w8 := hbb4.drew.trans hb8'
            clear hkp8' hm8 hap hes hb8' hsz8' hst hS hSk hQ4 hk4 hbb4 M4 E4 hmp htk hgt' hj' hal HB
            go_wp2_with fail
            go_roundw
            case rel => exact ⟨k + 1, by simp, by omega, hQ8, hK8, hB8⟩
            case measure => simp [intOf]; omega
          · have hgt' : decide (n > y) = false := by simpa using hgt
            go_wp2_with (first | (refine index_v rfl _ _ rfl a j rfl rfl hj13 hal ?_; rw [HN.out]))
            go_roundw
            case rel => exact ⟨j + 1, by simp, by omega, (fun q hq => by
              rcases Nat.lt_succ_iff_lt_or_eq.1 hq with h | rfl
              · exact HJ.out q h
              · rw [HN.out, HY.out]; omega), trivial⟩
            case measure => simp [intOf]; omega
        · obtain rfl : j = 13 := by omega
          have hfw : fw had (an x) = none := by
            rw [HA.out]
            exact fw_no fun q hq => HJ.out q hq
          have hst : Hid (lookS had x i (looks had l (pl.take k) st) = if rdy had x = true then ((looks had l (pl.take k) st).1.set x.p.toNat (if (i : Int) < (looks had l (pl.take k) st).1.getD x.p.toNat 0 then (i : Int) else (looks had l (pl.take k) st).1.getD x.p.toNat 0), (looks had l (pl.take k) st).2) else looks had l (pl.take k) st) := by
            show _ = _
            unfold lookS
            rw [hfw]
          clear hfw HJ HNO HAN HAL HA HR
          obtain ⟨LKp, HLK⟩ := hid_ex (looks had l (pl.take k) st)
          rw [HLK.out] at h3q hst htk
          clear HLK
          have hp := T.ok_p HOK.out
          have hh' := hh.out
          have s1 : (Try.prog.info? 26).map (·.size) = some (vals had).length := info_vals hh'
          have hs3 : Calm.Stays (fun w' : World => w'.rangeAt g 1 (vals had) ∧ w'.rangeAt tb 0 (txc x.p x.s x.v x.t sl) ∧ Below w3.heap.size w3 w') := fun a b h hb => ⟨range_later h.1 hb, range_later h.2.1 hb, below_on h.2.2 hb⟩
          have hS0 : w3.rangeAt g 1 (vals had) ∧ w3.rangeAt tb 0 (txc x.p x.s x.v x.t sl) := ⟨h3q.out.hads, R3.range 0 _ (fun j v h => by simpa using h)⟩
          have C1 : ∀ w', Below w3.heap.size w3 w' → Calls Try.prog 13 #[V had, TxV x.p x.s x.v x.t sl] w' (Tells (.bool (rdy had x)) w') := fun w' h => ready_any had x sl w' hh' (ho3.later h)
          obtain ⟨z2, HZ⟩ := hid_ex (rdy had x)
          rw [HZ.out] at C1 hst
          clear hj HOK HZ
          go_upto_region 11 with fail
          refine Calm.region (by kernel_rfl) (by kernel_rfl) (fun w' => w'.rangeAt g 1 (vals had) ∧ w'.rangeAt tb 0 (txc x.p x.s x.v x.t sl) ∧ Below w3.heap.size w3 w') ⟨hS0.1, hS0.2, (Below.refl _ _).drew⟩ ?_
          iterate 3 (refine Calm.pu ?_)
          refine Calm.lm s1 (fun _ h => h.1) Try.underlying26 ?_
          refine Calm.lm z (fun _ h => h.2.1) Try.underlying34 ?_
          refine Calm.k2 hs3 (fun w' h => C1 w' h.2.2) ?_
          rintro w4 ⟨-, -, hb4⟩
          have h4q : Hid (QAt w4 w0.heap.size g m (.slice (some ⟨gl, ol, none⟩) l.length lcap) had LKp (.slice (some ⟨b, 0, none⟩) pl.length qcap) pl dp ds) := h3q.out.later hb4
          have h4k : Hid (KQ w w4) := h3k.out.trans (KQ.of_below hb4)
          have h4b : Below w0.heap.size w0 w4 := h3b.trans (hb4.mono h3b.size)
          have R4 := R3.later hb4
          clear h3q h3k h3b R3 hb4 hS0 C1 hs3 ho3
          cases z2 with
          | false =>
            go_wp2_with fail
            go_roundw
            case rel => exact ⟨k + 1, by simp, by omega, (by
              show QAt _ _ _ _ _ _ _ _ _ _ _
              rw [htk.out, hst.out]
              exact h4q.out), h4k, h4b⟩
            case measure => simp [intOf]; omega
          | true =>
            obtain ⟨P, hP⟩ : ∃ P : Nat, x.p = (P : Int) := ⟨x.p.toNat, by omega⟩
            have hP13 : P < 13 := by omega
            have hP' : (P : Int) < 13 := by omega
            have c0 : w4.drew.cell? ⟨tb, 0, none⟩ = some (.int .i64 P) := by rw [← hP]; exact tx_p R4
            have c1 : w4.drew.cell? ⟨g, 14 + P, none⟩ = some (.int .i64 (LKp.1.getD P 0)) := h4q.out.rd_at hP13
            have f1 : w4.drew.frozen? ⟨g, 14 + P, none⟩ = false := h4q.out.frozen (14 + P)
            obtain ⟨r, HRR⟩ := hid_ex (LKp.1.getD P 0)
            rw [HRR.out] at c1
            obtain ⟨q, HQQ⟩ := hid_ex (if (i : Int) < r then (i : Int) else r)
            have hst2 : Hid (looks had l (pl.take (k + 1)) st = (LKp.1.set P q, LKp.2)) := by
              show _ = _
              rw [htk.out, hst.out, if_pos rfl, hP, ← HQQ.out, ← HRR.out]
              rfl
            have h5q : Hid (QAt (w4.drew.setCell ⟨g, 14 + P, none⟩ (.int .i64 q)) w0.heap.size g m (.slice (some ⟨gl, ol, none⟩) l.length lcap) had (looks had l (pl.take (k + 1)) st) (.slice (some ⟨b, 0, none⟩) pl.length qcap) pl dp ds) := by
              show QAt _ _ _ _ _ _ _ _ _ _ _
              rw [hst2.out]
              exact h4q.out.drew.set_rd hP13 q
            have h5k : Hid (KQ w (w4.drew.setCell ⟨g, 14 + P, none⟩ (.int .i64 q))) := h4k.out.trans ((KQ.of_below (Below.refl _ _).drew).trans (KQ.setCell h4q.out.drew.q _ _))
            have hgB : w0.heap.size ≤ g := h4q.out.bg
            have h5b : Below w0.heap.size w0 (w4.drew.setCell ⟨g, 14 + P, none⟩ (.int .i64 q)) := h4b.drew.setCell (p := ⟨g, 14 + P, none⟩) hgB _
            have hsto : (Instr.storeAt 3 (.pointer (some ⟨g, 14 + P, none⟩)) (.int .i64 q)).run Try.prog w4.drew = .ok () (w4.drew.setCell ⟨g, 14 + P, none⟩ (.int .i64 q)) := by
              simp [go_sem, c1, f1]
            have hne : tb ≠ g := fun e => by
              have h1 : w4.heap[tb]? = _ := R4
              have h2 : w4.heap[g]? = _ := h4q.out.q
              rw [e, h2] at h1
              simp at h1
            have hS2 : (w4.drew.setCell ⟨g, 14 + P, none⟩ (.int .i64 q)).cell? ⟨tb, 0, none⟩ = some (.int .i64 P) := by
              rw [World.cell?_of_block (w := w4.drew) (Below.heap_setCell _ _ _ _ hne)]
              exact c0
            clear hst2 h4q h4k h4b hst htk R4 hP hp
            by_cases hir : (i : Int) < r
            · rw [if_pos hir] at HQQ
              have hq := HQQ.out
              subst hq
              go_upto_region 12 with fail
              refine HeldI.region (fun w' => w'.cell? ⟨tb, 0, none⟩ = some (.int .i64 P)) (by kernel_rfl) ?_
              iterate 1 (refine HeldI.pu 0 c0 ?_)
              refine HeldI.pu 1 c0 ?_
              refine HeldI.pu 2 c0 ?_
              refine HeldI.ce 3 (fun _ h => h) c0 ?_
              refine HeldI.pu 4 c0 ?_
              refine HeldI.pu 5 c0 ?_
              refine HeldI.pu 6 c0 ?_
              refine HeldI.ce 7 (fun _ h => h) c0 ?_
              refine HeldI.pu 8 c0 ?_
              refine HeldI.pu 9 c0 ?_
              refine HeldI.pu 10 c0 ?_
              refine HeldI.pu 12 c0 ?_
              refine HeldI.pu 14 c0 ?_
              refine HeldI.pu 15 c0 ?_
              refine HeldI.vl 11 (v := .int .i64 r) (w1 := w4.drew) ?_ c0 ?_
              · go_simp
              refine HeldI.pu 13 c0 ?_
              refine HeldI.pu 16 c0 ?_
              refine HeldI.ss 17 hsto hS2 ?_
              refine HeldI.dn ?_
              go_wp2_with fail
              go_roundw
              case rel => exact ⟨k + 1, by simp, by omega, h5q, h5k, h5b⟩
              case measure => simp [intOf]; omega
            · rw [if_neg hir] at HQQ
              have hq := HQQ.out
              subst hq
              go_upto_region 12 with fail
              refine HeldI.region (fun w' => w'.cell? ⟨tb, 0, none⟩ = some (.int .i64 P)) (by kernel_rfl) ?_
              iterate 1 (refine HeldI.pu 0 c0 ?_)
              refine HeldI.pu 1 c0 ?_
              refine HeldI.pu 2 c0 ?_
              refine HeldI.ce 3 (fun _ h => h) c0 ?_
              refine HeldI.pu 4 c0 ?_
              refine HeldI.pu 5 c0 ?_
              refine HeldI.pu 6 c0 ?_
              refine HeldI.ce 7 (fun _ h => h) c0 ?_
              refine HeldI.pu 8 c0 ?_
              refine HeldI.pu 9 c0 ?_
              refine HeldI.pu 10 c0 ?_
              refine HeldI.pu 12 c0 ?_
              refine HeldI.pu 14 c0 ?_
              refine HeldI.pu 15 c0 ?_
              refine HeldI.vl 11 (v := .int .i64 r) (w1 := w4.drew) ?_ c0 ?_
              · go_simp
              refine HeldI.pu 13 c0 ?_
              refine HeldI.pu 16 c0 ?_
              refine HeldI.ss 17 hsto hS2 ?_
              refine HeldI.dn ?_
              go_wp2_with fail
              go_roundw
              case rel => exact ⟨k + 1, by simp, by omega, h5q, h5k, h5b⟩
              case measure => simp [intOf]; omega
    · obtain rfl : k = pl.length := by omega
      have hQ : QAt wr w0.heap.size g m (.slice lp l.length lcap) had (looks had l pl st) (.slice qp pl.length qcap) pl dp ds := by
        have := HQ.out
        rwa [List.take_of_length_le (Nat.le_refl _)] at this
      clear HQ
      have HQ2 : Hid (QAt wr w0.heap.size g m (.slice lp l.length lcap) had (looks had l pl st) (.slice qp pl.length qcap) pl dp ds) := hQ
      clear hQ
      go_wp2_with fail
      rw [Exit.noGoto_normal]
      show bodyPost Try.prog Try.f62 _ _ _ _
      go_end0
      exact ⟨⟨_, rfl⟩, HQ2.out, HK.out, hbel⟩
end Go.Proofs.Ytfiamiflkfdhoaa
