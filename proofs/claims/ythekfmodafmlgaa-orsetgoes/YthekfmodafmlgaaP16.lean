import Derived.Test.YthekfmodafmlgaaP13
import Derived.Test.YthekfmodafmlgaaP15
/- Members that are gathered, one behind another: marks that were there, or lie in rows of the call's own. Nothing of one function. -/
namespace Go.Proofs.Ythekfmodafmlgaa
open Go.RowKit Go.Sort

/-- Marks that were there at the call, or lie in a row of its own. -/
def OKm (w wr : World) (v : Value) (l : List M) : Prop := MHas w v l ∨ wr.ownsRow w.heap.size 44 3 v l.length (rows M.cells l)
section
variable {w wr w' : World} {v : Value} {l : List M}
theorem OKm.later (h : OKm w wr v l) (hb : Below wr.heap.size wr w') : OKm w w' v l := h.elim .inl (fun h => .inr (own_later h hb))
theorem OKm.has (h : OKm w wr v l) (hb : Below w.heap.size w wr) : MHas wr v l := h.elim (fun h => h.later hb) own_sh
theorem OKm.slice (h : OKm w wr v l) : ∃ p c, v = .slice p l.length c := h.elim (fun h => SHas.slice h) own_sl
theorem OKm.box (h : OKm w wr v l) {b : Nat} {cs : Array Value} (R : Rw wr b 41 cs) (hk : Kp (some b) wr w') : OKm w w' v l := h.elim .inl (fun h => .inr (own_kp h hk (fun k hk2 e => own_ne h R (by decide) k hk2 (Option.some.inj e).symm)))
theorem OKm.grown (h : OKm w wr v l) {B n : Nat} {u : Value} {xs : List Value} (ho : wr.ownsRow B 41 3 u n xs) (hg : wr.grownBy w' u.ownBlock) : OKm w w' v l := h.elim .inl (fun h => .inr (own_grown h hg (fun k hk e => own_tag h ho (by decide) e k hk rfl)))
theorem OKm.row (h : OKm w wr v l) {b : Nat} (hb : b < w.heap.size) (cs : Array Value) : OKm w (wr.setRow b cs) v l := h.elim .inl (fun h => .inr (own_row h hb cs))
end
/-- What is gathered so far. -/
def Out (w : World) (B : Nat) (wr : World) (vn : Value) (l : List Mb) : Prop := ∃ ys : List (Mb × Value), ys.map (·.1) = l ∧ wr.ownsRow B 41 3 vn l.length (rows Mb.cells ys) ∧ ∀ y ∈ ys, OKm w wr y.2 y.1.ms
section
variable {w wr w' : World} {B : Nat} {vn : Value} {l : List Mb}
theorem Out.nil (w wr : World) (B : Nat) : Out w B wr (.slice none 0 0) [] := ⟨[], rfl, World.ownsRow_nil _ _ _ _, fun _ h => by cases h⟩
theorem Out.sl (h : Out w B wr vn l) : ∃ p c, vn = .slice p l.length c := by
  obtain ⟨ys, _, h2, _⟩ := h
  exact own_sl h2
theorem Out.later (h : Out w B wr vn l) (hb : Below wr.heap.size wr w') : Out w B w' vn l := by
  obtain ⟨ys, h1, h2, h3⟩ := h
  exact ⟨ys, h1, own_later h2 hb, fun y hy => (h3 y hy).later hb⟩
theorem Out.lt (h : Out w B wr vn l) : ∀ k, vn.ownBlock = some k → B ≤ k ∧ k < wr.heap.size := by
  obtain ⟨ys, _, h2, _⟩ := h
  exact World.ownsRow.lt h2
theorem Out.box (h : Out w B wr vn l) {b : Nat} {cs : Array Value} (R : Rw wr b 41 cs) (hk : Kp (some b) wr w') (hne : ∀ k, vn.ownBlock = some k → k ≠ b) : Out w B w' vn l := by
  obtain ⟨ys, h1, h2, h3⟩ := h
  exact ⟨ys, h1, own_kp h2 hk (fun k hk2 e => hne k hk2 (Option.some.inj e).symm), fun y hy => (h3 y hy).box R hk⟩
theorem Out.bhas (h : Out w B wr vn l) (hb : Below w.heap.size w wr) : BHas wr vn l := by
  obtain ⟨ys, h1, h2, h3⟩ := h
  exact ⟨ys, h1, own_sh h2, fun y hy => (h3 y hy).has hb⟩
theorem Out.owns (h : Out w B wr vn l) : ∃ xs, wr.ownsRow B 41 3 vn l.length xs ∧ ∀ (w2 : World) (v2 : Value) (z : Mb × Value), wr.grownBy w2 vn.ownBlock → w2.ownsRow B 41 3 v2 (l.length + 1) (xs ++ Mb.cells z) → OKm w wr z.2 z.1.ms → Out w B w2 v2 (l ++ [z.1]) := by
  obtain ⟨ys, h1, h2, h3⟩ := h
  refine ⟨_, h2, fun w2 v2 z hg ho hz => ⟨ys ++ [z], ?_, ?_, fun y hy => ?_⟩⟩
  · rw [List.map_append, h1]
    rfl
  · rw [rows_append, rows_one, List.length_append]
    exact ho
  · rcases List.mem_append.1 hy with h | h
    · exact (h3 y h).grown h2 hg
    · rw [List.mem_singleton.1 h]
      exact hz.grown h2 hg
end
theorem OKm.other {w wr w' : World} {v : Value} {l : List M} (h : OKm w wr v l) {b : Nat} {t : TypeId} {cs : Array Value} (R : Rw wr b t cs) (h4 : 44 ≠ t) (hk : Kp (some b) wr w') : OKm w w' v l := h.elim .inl (fun h => .inr (own_kp h hk (fun k hk2 e => own_ne h R h4 k hk2 (Option.some.inj e).symm)))
theorem Out.other {w wr w' : World} {B : Nat} {vn : Value} {l : List Mb} (h : Out w B wr vn l) {b : Nat} {t : TypeId} {cs : Array Value} (R : Rw wr b t cs) (h1 : 41 ≠ t) (h4 : 44 ≠ t) (hk : Kp (some b) wr w') : Out w B w' vn l := by
  obtain ⟨ys, e1, h2, h3⟩ := h
  exact ⟨ys, e1, own_kp h2 hk (fun k hk2 e => own_ne h2 R h1 k hk2 (Option.some.inj e).symm), fun y hy => (h3 y hy).other R h4 hk⟩
/-- A box of the call's own is written over, twice at most. -/
theorem Kp.cell (w : World) (b j : Nat) (u : Value) : Kp (some b) w (w.setCell ⟨b, j, none⟩ u) := fun c _ hne => Below.heap_setCell _ _ _ c (fun e => hne (by rw [e]))
theorem Kp.row1 (w : World) (b : Nat) (cs : Array Value) : Kp (some b) w (w.setRow b cs) := fun c _ hne => setRow_other w b c cs (fun e => hne (by rw [e]))
theorem four_with {w w' : World} {x : X} {va vw vm ve : Value} (h : Four w x va vw vm ve) (hb : Below w.heap.size w w') {vm' : Value} {l : List Mb} (hm : BHas w' vm' l) : Four w' { x with mb := l } va vw vm' ve := ⟨h.a.later hb, h.t.later hb, hm, h.e.later hb⟩
theorem Kp.trans {o : Option Nat} {w1 w2 w3 : World} (h : Kp o w1 w2) (hs : w1.heap.size ≤ w2.heap.size) (k : Kp o w2 w3) : Kp o w1 w3 := fun c h1 h2 => (k c (Nat.lt_of_lt_of_le h1 hs) h2).trans (h c h1 h2)
end Go.Proofs.Ythekfmodafmlgaa
/- without, Del and Clear of the document's answer. -/
namespace Go.Proofs.Ythekfmodafmlgaa
open Go.RowKit Go.Sort

set_option maxHeartbeats 8000000 in
set_option maxRecDepth 100000 in
theorem refWithout_any (x : X) (va vw vm ve : Value) (q u : Int) (v : List Int) (t : Int) (sl : Value) (idx : Int) (s : ByteArray) (al : Bool) (w : World) (hv : v.length = 13) (h : Four w x va vw vm ve) (hs : Sm x) :
    Calls Try.prog 39 #[CV x.k x.b va vw vm ve, TxV q u v t sl, .int .i64 idx, .string s, .bool al] w (Gives { x with mb := wo (fun y => al || decide (tx y = bs s)) (bfP q u v idx) x.mb } w) := by
  obtain ⟨i0, hi, hz0, hz1, hz2⟩ := info_parts info41
  obtain ⟨z, HZ⟩ := hid_ex ({ x with mb := wo (fun y => al || decide (tx y = bs s)) (bfP q u v idx) x.mb } : X)
  rw [HZ.out]
  obtain ⟨pa, ca', pw, cw, pm, cm, pe, ce, rfl, rfl, rfl, rfl⟩ := h.slices
  have HF : Hid (Four w x (.slice pa x.am.length ca') (.slice pw x.wr.length cw) (.slice pm x.mb.length cm) (.slice pe x.el.length ce)) := h
  clear h
  obtain ⟨ys, hys, HS, HYS⟩ := HF.out.m
  have hyl : ys.length = x.mb.length := by rw [← hys, List.length_map]
  have HR : Hid (SHas 3 w (.slice pm x.mb.length cm) x.mb.length (rows Mb.cells ys)) := HS
  have HYY : Hid (∀ y ∈ ys, MHas w y.2 y.1.ms) := HYS
  have HL : Hid (∀ k (h1 : k < ys.length) (h2 : k < x.mb.length), ys[k].1 = x.mb[k]) := fun k h1 h2 => by
    have := congrArg (fun l => l[k]?) hys
    simp only [List.getElem?_map, List.getElem?_eq_getElem h1, List.getElem?_eq_getElem h2, Option.map_some, Option.some.injEq] at this
    exact this
  have HMI : Hid (∀ m ∈ x.mb, m.ms.length ≤ 100) := hs.mi
  have hm100 := hs.m
  clear hys HS HYS
  have R0 := (((rw_new w 27 (cvc x.k x.b (.slice pa x.am.length ca') (.slice pw x.wr.length cw) (.slice pm x.mb.length cm) (.slice pe x.el.length ce))).alloc (.cells (txc q u v t sl).toArray 34)).alloc (.cells (cvc 0 0 (.slice none 0 0) (.slice none 0 0) (.slice none 0 0) (.slice none 0 0)) 27))
  have R1 := ((rw_new (w.alloc (.cells (cvc x.k x.b (.slice pa x.am.length ca') (.slice pw x.wr.length cw) (.slice pm x.mb.length cm) (.slice pe x.el.length ce)) 27)) 34 (txc q u v t sl).toArray).alloc (.cells (cvc 0 0 (.slice none 0 0) (.slice none 0 0) (.slice none 0 0) (.slice none 0 0)) 27))
  have R2 := (rw_new ((w.alloc (.cells (cvc x.k x.b (.slice pa x.am.length ca') (.slice pw x.wr.length cw) (.slice pm x.mb.length cm) (.slice pe x.el.length ce)) 27)).alloc (.cells (txc q u v t sl).toArray 34)) 27 (cvc 0 0 (.slice none 0 0) (.slice none 0 0) (.slice none 0 0) (.slice none 0 0)))
  have hbel := bel_alloc (bel_alloc (bel_alloc (Below.refl w.heap.size w) (.cells (cvc x.k x.b (.slice pa x.am.length ca') (.slice pw x.wr.length cw) (.slice pm x.mb.length cm) (.slice pe x.el.length ce)) 27)) (.cells (txc q u v t sl).toArray 34)) (.cells (cvc 0 0 (.slice none 0 0) (.slice none 0 0) (.slice none 0 0) (.slice none 0 0)) 27)
  have hB : w.heap.size + 3 ≤ (((w.alloc (.cells (cvc x.k x.b (.slice pa x.am.length ca') (.slice pw x.wr.length cw) (.slice pm x.mb.length cm) (.slice pe x.el.length ce)) 27)).alloc (.cells (txc q u v t sl).toArray 34)).alloc (.cells (cvc 0 0 (.slice none 0 0) (.slice none 0 0) (.slice none 0 0) (.slice none 0 0)) 27)).heap.size := by simp
  generalize hW : (((w.alloc (.cells (cvc x.k x.b (.slice pa x.am.length ca') (.slice pw x.wr.length cw) (.slice pm x.mb.length cm) (.slice pe x.el.length ce)) 27)).alloc (.cells (txc q u v t sl).toArray 34)).alloc (.cells (cvc 0 0 (.slice none 0 0) (.slice none 0 0) (.slice none 0 0) (.slice none 0 0)) 27)) = w0 at R0 R1 R2 hbel hB
  simp only [World.size_alloc, Nat.add_assoc, Nat.reduceAdd] at R1 R2
  have zt := size_tx (p := q) (s := u) (t := t) (sl := sl) hv
  go_enter Try.func39, Try.ntmps39
  go_wp2_with (first | rw [hW])
  clear hW
  go_loopw [11, 12] (fun vn vi wr => ∃ k : Nat, vi = .int .i64 k ∧ k ≤ x.mb.length ∧ Out w (w.heap.size + 3) wr vn (wo (fun y => al || decide (tx y = bs s)) (bfP q u v idx) (x.mb.take k)) ∧ Rw wr w.heap.size 27 (cvc x.k x.b (.slice pa x.am.length ca') (.slice pw x.wr.length cw) (.slice pm x.mb.length cm) (.slice pe x.el.length ce)) ∧ Rw wr (w.heap.size + 1) 34 (txc q u v t sl).toArray ∧ Rw wr (w.heap.size + 2) 27 (cvc 0 0 (.slice none 0 0) (.slice none 0 0) (.slice none 0 0) (.slice none 0 0)) ∧ Below w.heap.size w wr ∧ w.heap.size + 3 ≤ wr.heap.size) (fun _ vi _ => x.mb.length - (intOf vi).toNat)
  case atStart => exact ⟨0, rfl, by omega, Out.nil _ _ _, R0, R1, R2, hbel, hB⟩
  case round =>
    clear R0 R1 R2 hbel hB
    obtain ⟨k, rfl, hk, hout, R0, R1, R2, hbel, hB⟩ := hrel
    have hL100 : (wo (fun y => al || decide (tx y = bs s)) (bfP q u v idx) (x.mb.take k)).length ≤ 100 := Nat.le_trans (wo_length _ _ _) (by rw [List.length_take]; omega)
    obtain ⟨L, HLL⟩ := hid_ex (wo (fun y => al || decide (tx y = bs s)) (bfP q u v idx) (x.mb.take k))
    rw [HLL.out] at hout hL100
    obtain ⟨P, cc, rfl⟩ := hout.sl
    have c4 : wr.cell? ⟨w.heap.size, 4, none⟩ = some (.slice pm x.mb.length cm) := R0.cell 4
    by_cases hlt : k < x.mb.length
    · have hlt' : (k : Int) < (x.mb.length : Int) := by omega
      have hk0 : (0 : Int) ≤ (k : Int) := by omega
      obtain ⟨g, o, rfl, hd0⟩ := HR.out.at (by omega)
      have d := Mb.elem (range_later hd0 hbel) k (by omega)
      have hyk := HYY.out ys[k] (List.getElem_mem _)
      obtain ⟨yy, HX⟩ := hid_ex (ys[k]'(by omega))
      have HX2 : Hid (x.mb[k] = yy.1) := by
        show _ = _
        rw [← HL.out k (by omega) hlt, HX.out]
      rw [HX.out] at d hyk
      obtain ⟨y, yv⟩ := yy
      replace hyk : MHas w yv y.ms := hyk
      have HMI2 : y.ms.length ≤ 100 := by
        have := HMI.out x.mb[k] (List.getElem_mem _)
        rw [HX2.out] at this
        exact this
      obtain ⟨py, cy, rfl⟩ := hyk.slice
      replace d : wr.rangeAt g (o + k * 3) [Value.string y.x, .bool y.b, .slice py y.ms.length cy] := d
      replace HX2 : Hid (x.mb[k] = y) := HX2
      have HTK : Hid (x.mb.take (k + 1) = x.mb.take k ++ [y]) := by
        show _ = _
        rw [List.take_succ_eq_append_getElem hlt, HX2.out]
      clear hd0 HX
      have zb : (Try.prog.info? 41).map (·.size) = some [Value.string y.x, .bool y.b, .slice py y.ms.length cy].length := size41
      have RB := rw_new wr 41 #[.string y.x, .bool y.b, .slice py y.ms.length cy]
      have hbA := bel_alloc (Below.refl wr.heap.size wr) (.cells #[.string y.x, .bool y.b, .slice py y.ms.length cy] 41)
      have hlo := hout.lt
      have hnb : ∀ q', (Value.slice P L.length cc).ownBlock = some q' → q' ≠ wr.heap.size := fun q' hq => by have := (hlo q' hq).2; omega
      replace R0 := R0.later hbA
      replace R1 := R1.later hbA
      replace R2 := R2.later hbA
      replace hout := hout.later hbA
      replace hbel := below_on hbel hbA
      have hBx : w.heap.size + 3 ≤ wr.heap.size := hB
      replace hB := Nat.le_trans hB hbA.size
      generalize hW : wr.alloc (.cells #[.string y.x, .bool y.b, .slice py y.ms.length cy] 41) = w1 at RB R0 R1 R2 hout hbel hB
      have c0 : w1.cell? ⟨wr.heap.size, 0, none⟩ = some (.string y.x) := RB.cell 0
      clear hlo hbA
      obtain ⟨z1, HZ1⟩ := hid_ex (decide (tx y = bs s))
      have E1 : (y.x.toList == s.toList) = z1 := by rw [eq_str, ← HZ1.out]
      cases al
      · cases z1
        · have HSEL : Hid ((false || decide (tx y = bs s)) = false) := by show _ = _; rw [HZ1.out]; rfl
          have HN : Hid (wo (fun y => false || decide (tx y = bs s)) (bfP q u v idx) (x.mb.take (k + 1)) = L ++ [y]) := by
            show _ = _
            rw [HTK.out, wo_append, HLL.out]
            congr 1
            exact wo_none _ (fun z hz => by rw [List.mem_singleton.1 hz]; exact HSEL.out)
          clear HSEL HZ1
          obtain ⟨xs, hox, hsn⟩ := hout.owns
          have HSN : Hid (∀ (w2 : World) (v2 : Value) (z : Mb × Value), w1.grownBy w2 (Value.slice P L.length cc).ownBlock → w2.ownsRow (w.heap.size + 3) 41 3 v2 (L.length + 1) (xs ++ Mb.cells z) → OKm w w1 z.2 z.1.ms → Out w (w.heap.size + 3) w2 v2 (L ++ [z.1])) := hsn
          have hBg : ∀ q', (Value.slice P L.length cc).ownBlock = some q' → w.heap.size + 3 ≤ q' := fun q' hq => (World.ownsRow.lt hox q' hq).1
          have hc1 : ∀ q u, ([Value.string y.x, .bool y.b, .slice py y.ms.length cy] : List Value)[q]? = some u → (w1.alloc (.cells #[Value.string y.x, .bool y.b, .slice py y.ms.length cy] 41)).cell? ((⟨w1.heap.size, 0, none⟩ : Addr).add q) = some u := fun q u hq => (cells_new w1 [Value.string y.x, .bool y.b, .slice py y.ms.length cy] 41 q).trans hq
          have hc2 : ∀ u ∈ ([Value.string y.x, .bool y.b, .slice py y.ms.length cy] : List Value), u.oneCell' = true := by simp [Value.oneCell']
          have hc3 : L.length + 1 ≤ maxLen := by unfold maxLen; omega
          have hc4 : (L.length + 1) * 48 ≤ 140737488355328 := by omega
          have hc5 : w.heap.size + 3 ≤ (w1.alloc (.cells #[Value.string y.x, .bool y.b, .slice py y.ms.length cy] 41)).heap.size := by simp; omega
          clear hsn
          go_wp2_with (first
            | rw [hW]
            | refine load_m 41 _ rfl rfl _ _ rfl d Try.underlying41 rfl zb ?_
            | refine load_r 41 _ rfl rfl _ rfl RB Try.underlying41 rfl size41 ?_
            | (at_builtin; refine wpList_append_own _ rfl _ _ 24 rfl (w.heap.size + 3) 41 i0 (.agg #[.string noS, .bool false, .slice none 0 0]) 3 48 Try.underlying24 hi hz0 hz1 hz2 rfl (by decide) _ _ _ rfl (hox.alloc _) ⟨w1.heap.size, 0, none⟩ 1 1 [Value.string y.x, .bool y.b, .slice py y.ms.length cy] rfl rfl hc1 hc2 hc3 hc4 hc5 ?_))
          intro v2 w9 hown9 hg9 _
          clear hW d zb c0 c4 HTK
          have hbA := bel_alloc (Below.refl w1.heap.size w1) (.cells #[Value.string y.x, .bool y.b, .slice py y.ms.length cy] 41)
          have hgk : w1.grownBy w9 (Value.slice P L.length cc).ownBlock := ⟨hg9.os, hg9.tape, hg9.output, Nat.le_trans hbA.size hg9.size, fun k' h1 h2 => (hg9.block k' (Nat.lt_of_lt_of_le h1 hbA.size) h2).trans (hbA.block k' h1)⟩
          have hout9 : Out w (w.heap.size + 3) w9 v2 (L ++ [y]) := HSN.out w9 v2 (y, .slice py y.ms.length cy) hgk hown9 (.inl hyk)
          have hb9 := hbel.grown hgk hbel.size (fun q' hq => by have := hBg q' hq; omega)
          have R09 := R0.grown hgk (fun q' hq => by have := hBg q' hq; omega)
          have R19 := R1.grown hgk (fun q' hq => by have := hBg q' hq; omega)
          have R29 := R2.grown hgk (fun q' hq => by have := hBg q' hq; omega)
          have hB9 : w.heap.size + 3 ≤ w9.heap.size := Nat.le_trans hB hgk.size
          clear hg9 hgk hbA hown9 hox HSN hc1 hc2 hc3 hc4 hc5
          go_wp2_with fail
          go_roundw
          case rel => exact ⟨k + 1, by simp, by omega, by rw [HN.out]; exact hout9, R09, R19, R29, hb9, hB9⟩
          case measure => simp [intOf]; omega
        · have HSEL : Hid ((false || decide (tx y = bs s)) = true) := by show _ = _; rw [HZ1.out]; rfl
          have HDM : Hid (wo (fun y => false || decide (tx y = bs s)) (bfP q u v idx) (x.mb.take (k + 1)) = L ++ (dm (bfP q u v idx) y).toList) := by
            show _ = _
            rw [HTK.out, wo_append, HLL.out]
            congr 1 <;> (simp only [wo, List.filterMap_cons, List.filterMap_nil, HSEL.out, if_true]; cases dm (bfP q u v idx) y <;> rfl)
          have HD2 : Hid (dm (bfP q u v idx) y = if (y.ms.filter (fun m => !bf m.p m.s m.i q u v idx)).length = 0 then none else some ⟨y.x, false, y.ms.filter (fun m => !bf m.p m.s m.i q u v idx)⟩) := rfl
          have g1 : w1.cell? ⟨wr.heap.size, 1, none⟩ = some (.bool y.b) := RB.cell 1
          have f1 : w1.frozen? ⟨wr.heap.size, 1, none⟩ = false := RB.frozen 1
          have RB2 : Rw (w1.setCell ⟨wr.heap.size, 1, none⟩ (.bool false)) wr.heap.size 41 #[.string y.x, .bool false, .slice py y.ms.length cy] := RB.set 1 _
          have hk2 := Kp.cell w1 wr.heap.size 1 (.bool false)
          have hout2 := hout.box RB hk2 hnb
          have R02 := R0.setOther (q := wr.heap.size) (by omega) 1 (.bool false)
          have R12 := R1.setOther (q := wr.heap.size) (by omega) 1 (.bool false)
          have R22 := R2.setOther (q := wr.heap.size) (by omega) 1 (.bool false)
          have hbel2 := hbel.setCell (p := ⟨wr.heap.size, 1, none⟩) (by show w.heap.size ≤ wr.heap.size; omega) (.bool false)
          have hB2 : w.heap.size + 3 ≤ (w1.setCell ⟨wr.heap.size, 1, none⟩ (.bool false)).heap.size := by rw [World.size_setCell]; exact hB
          have hlt2 : wr.heap.size < (w1.setCell ⟨wr.heap.size, 1, none⟩ (.bool false)).heap.size := RB2.lt
          generalize hW2 : w1.setCell ⟨wr.heap.size, 1, none⟩ (.bool false) = w2 at RB2 hk2 hout2 R02 R12 R22 hbel2 hB2 hlt2
          have c2 : w2.cell? ⟨wr.heap.size, 2, none⟩ = some (.slice py y.ms.length cy) := RB2.cell 2
          have CL := left_any (.slice py y.ms.length cy) y.ms q u v t sl idx w2 hv (hyk.later hbel2) HMI2
          obtain ⟨l5, HL5⟩ := hid_ex (y.ms.filter (fun m => !bf m.p m.s m.i q u v idx))
          rw [HL5.out] at CL HD2
          clear HSEL HZ1
          go_wp2_with (first | rw [hW] | rw [hW2] | refine load_m 41 _ rfl rfl _ _ rfl d Try.underlying41 rfl zb ?_ | refine load_r 34 _ rfl rfl _ rfl R12 Try.underlying34 rfl zt ?_)
          clear hW hW2 d zb c0 c4 g1 f1 HTK HL5 RB R0 R1 R2 hout hbel hB hk2 c2
          refine CL.mono ?_
          clear CL
          rintro e w3 ⟨u3, rfl, ho3, hb3⟩
          obtain ⟨p3, c3_, rfl⟩ := own_sl ho3
          replace RB2 := RB2.later hb3
          replace R02 := R02.later hb3
          replace R12 := R12.later hb3
          replace R22 := R22.later hb3
          replace hout2 := hout2.later hb3
          replace hbel2 := below_on hbel2 hb3
          have hOK3 : OKm w w3 (.slice p3 l5.length c3_) l5 := .inr (own_mono ho3 (Nat.le_trans (by omega) hB2))
          replace hB2 := Nat.le_trans hB2 hb3.size
          have g2 : w3.cell? ⟨wr.heap.size, 2, none⟩ = some (.slice py y.ms.length cy) := RB2.cell 2
          have f2 : w3.frozen? ⟨wr.heap.size, 2, none⟩ = false := RB2.frozen 2
          have RB : Rw (w3.setCell ⟨wr.heap.size, 2, none⟩ (.slice p3 l5.length c3_)) wr.heap.size 41 #[.string y.x, .bool false, .slice p3 l5.length c3_] := RB2.set 2 _
          have hk3 := Kp.cell w3 wr.heap.size 2 (.slice p3 l5.length c3_)
          have hout := hout2.box RB2 hk3 hnb
          have hOK := hOK3.box RB2 hk3
          have R0 := R02.setOther (q := wr.heap.size) (by omega) 2 (.slice p3 l5.length c3_)
          have R1 := R12.setOther (q := wr.heap.size) (by omega) 2 (.slice p3 l5.length c3_)
          have R2 := R22.setOther (q := wr.heap.size) (by omega) 2 (.slice p3 l5.length c3_)
          have hbel := hbel2.setCell (p := ⟨wr.heap.size, 2, none⟩) (by show w.heap.size ≤ wr.heap.size; omega) (.slice p3 l5.length c3_)
          have hB : w.heap.size + 3 ≤ (w3.setCell ⟨wr.heap.size, 2, none⟩ (.slice p3 l5.length c3_)).heap.size := by rw [World.size_setCell]; exact hB2
          generalize hW3 : w3.setCell ⟨wr.heap.size, 2, none⟩ (.slice p3 l5.length c3_) = w4 at RB hk3 hout hOK R0 R1 R2 hbel hB
          have c4_ : w4.cell? ⟨wr.heap.size, 2, none⟩ = some (.slice p3 l5.length c3_) := RB.cell 2
          clear ho3 hb3 RB2 hout2 R02 R12 R22 hbel2 hB2 hOK3 hk3
          by_cases hl5 : l5.length = 0
          · have HN : Hid (wo (fun y => false || decide (tx y = bs s)) (bfP q u v idx) (x.mb.take (k + 1)) = L) := by
              show _ = _
              rw [HDM.out, HD2.out, if_pos hl5]
              simp
            have hl5' : ((l5.length : Int) == 0) = true := by rw [hl5]; rfl
            clear hl5
            go_wp2_with (first | rw [hW3])
            try rw [hW3]
            clear hW3 g2 f2
            go_roundw
            case rel => exact ⟨k + 1, by simp, by omega, by rw [HN.out]; exact hout, R0, R1, R2, hbel, hB⟩
            case measure => simp [intOf]; omega
          · have HN : Hid (wo (fun y => false || decide (tx y = bs s)) (bfP q u v idx) (x.mb.take (k + 1)) = L ++ [⟨y.x, false, l5⟩]) := by
              show _ = _
              rw [HDM.out, HD2.out, if_neg hl5]
              simp
            have hl5' : ((l5.length : Int) == 0) = false := by
              rw [beq_eq_false_iff_ne]
              omega
            obtain ⟨xs, hox, hsn⟩ := hout.owns
            have HSN : Hid (∀ (w2 : World) (v2 : Value) (z : Mb × Value), w4.grownBy w2 (Value.slice P L.length cc).ownBlock → w2.ownsRow (w.heap.size + 3) 41 3 v2 (L.length + 1) (xs ++ Mb.cells z) → OKm w w4 z.2 z.1.ms → Out w (w.heap.size + 3) w2 v2 (L ++ [z.1])) := hsn
            have hBg : ∀ q', (Value.slice P L.length cc).ownBlock = some q' → w.heap.size + 3 ≤ q' := fun q' hq => (World.ownsRow.lt hox q' hq).1
            have hc1 : ∀ q u, ([Value.string y.x, .bool false, .slice p3 l5.length c3_] : List Value)[q]? = some u → (w4.alloc (.cells #[Value.string y.x, .bool false, .slice p3 l5.length c3_] 41)).cell? ((⟨w4.heap.size, 0, none⟩ : Addr).add q) = some u := fun q u hq => (cells_new w4 [Value.string y.x, .bool false, .slice p3 l5.length c3_] 41 q).trans hq
            have hc2 : ∀ u ∈ ([Value.string y.x, .bool false, .slice p3 l5.length c3_] : List Value), u.oneCell' = true := by simp [Value.oneCell']
            have hc3 : L.length + 1 ≤ maxLen := by unfold maxLen; omega
            have hc4 : (L.length + 1) * 48 ≤ 140737488355328 := by omega
            have hc5 : w.heap.size + 3 ≤ (w4.alloc (.cells #[Value.string y.x, .bool false, .slice p3 l5.length c3_] 41)).heap.size := by simp; omega
            clear hsn
            go_wp2_with (first
              | rw [hW3]
              | refine load_r 41 _ rfl rfl _ rfl RB Try.underlying41 rfl size41 ?_
              | (at_builtin; refine wpList_append_own _ rfl _ _ 24 rfl (w.heap.size + 3) 41 i0 (.agg #[.string noS, .bool false, .slice none 0 0]) 3 48 Try.underlying24 hi hz0 hz1 hz2 rfl (by decide) _ _ _ rfl (hox.alloc _) ⟨w4.heap.size, 0, none⟩ 1 1 [Value.string y.x, .bool false, .slice p3 l5.length c3_] rfl rfl hc1 hc2 hc3 hc4 hc5 ?_))
            intro v2 w9 hown9 hg9 _
            have hbA := bel_alloc (Below.refl w4.heap.size w4) (.cells #[Value.string y.x, .bool false, .slice p3 l5.length c3_] 41)
            have hgk : w4.grownBy w9 (Value.slice P L.length cc).ownBlock := ⟨hg9.os, hg9.tape, hg9.output, Nat.le_trans hbA.size hg9.size, fun k' h1 h2 => (hg9.block k' (Nat.lt_of_lt_of_le h1 hbA.size) h2).trans (hbA.block k' h1)⟩
            have hout9 : Out w (w.heap.size + 3) w9 v2 (L ++ [⟨y.x, false, l5⟩]) := HSN.out w9 v2 (⟨y.x, false, l5⟩, .slice p3 l5.length c3_) hgk hown9 hOK
            have hb9 := hbel.grown hgk hbel.size (fun q' hq => by have := hBg q' hq; omega)
            have R09 := R0.grown hgk (fun q' hq => by have := hBg q' hq; omega)
            have R19 := R1.grown hgk (fun q' hq => by have := hBg q' hq; omega)
            have R29 := R2.grown hgk (fun q' hq => by have := hBg q' hq; omega)
            have hB9 : w.heap.size + 3 ≤ w9.heap.size := Nat.le_trans hB hgk.size
            clear hg9 hgk hbA hown9 hox HSN hc1 hc2 hc3 hc4 hc5
            go_wp2_with fail
            go_roundw
            case rel => exact ⟨k + 1, by simp, by omega, by rw [HN.out]; exact hout9, R09, R19, R29, hb9, hB9⟩
            case measure => simp [intOf]; omega
      · have HSEL : Hid ((true || decide (tx y = bs s)) = true) := rfl
        have HDM : Hid (wo (fun y => true || decide (tx y = bs s)) (bfP q u v idx) (x.mb.take (k + 1)) = L ++ (dm (bfP q u v idx) y).toList) := by
          show _ = _
          rw [HTK.out, wo_append, HLL.out]
          congr 1 <;> (simp only [wo, List.filterMap_cons, List.filterMap_nil, HSEL.out, if_true]; cases dm (bfP q u v idx) y <;> rfl)
        have HD2 : Hid (dm (bfP q u v idx) y = if (y.ms.filter (fun m => !bf m.p m.s m.i q u v idx)).length = 0 then none else some ⟨y.x, false, y.ms.filter (fun m => !bf m.p m.s m.i q u v idx)⟩) := rfl
        have g1 : w1.cell? ⟨wr.heap.size, 1, none⟩ = some (.bool y.b) := RB.cell 1
        have f1 : w1.frozen? ⟨wr.heap.size, 1, none⟩ = false := RB.frozen 1
        have RB2 : Rw (w1.setCell ⟨wr.heap.size, 1, none⟩ (.bool false)) wr.heap.size 41 #[.string y.x, .bool false, .slice py y.ms.length cy] := RB.set 1 _
        have hk2 := Kp.cell w1 wr.heap.size 1 (.bool false)
        have hout2 := hout.box RB hk2 hnb
        have R02 := R0.setOther (q := wr.heap.size) (by omega) 1 (.bool false)
        have R12 := R1.setOther (q := wr.heap.size) (by omega) 1 (.bool false)
        have R22 := R2.setOther (q := wr.heap.size) (by omega) 1 (.bool false)
        have hbel2 := hbel.setCell (p := ⟨wr.heap.size, 1, none⟩) (by show w.heap.size ≤ wr.heap.size; omega) (.bool false)
        have hB2 : w.heap.size + 3 ≤ (w1.setCell ⟨wr.heap.size, 1, none⟩ (.bool false)).heap.size := by rw [World.size_setCell]; exact hB
        have hlt2 : wr.heap.size < (w1.setCell ⟨wr.heap.size, 1, none⟩ (.bool false)).heap.size := RB2.lt
        generalize hW2 : w1.setCell ⟨wr.heap.size, 1, none⟩ (.bool false) = w2 at RB2 hk2 hout2 R02 R12 R22 hbel2 hB2 hlt2
        have c2 : w2.cell? ⟨wr.heap.size, 2, none⟩ = some (.slice py y.ms.length cy) := RB2.cell 2
        have CL := left_any (.slice py y.ms.length cy) y.ms q u v t sl idx w2 hv (hyk.later hbel2) HMI2
        obtain ⟨l5, HL5⟩ := hid_ex (y.ms.filter (fun m => !bf m.p m.s m.i q u v idx))
        rw [HL5.out] at CL HD2
        clear HSEL HZ1 E1
        go_wp2_with (first | rw [hW] | rw [hW2] | refine load_m 41 _ rfl rfl _ _ rfl d Try.underlying41 rfl zb ?_ | refine load_r 34 _ rfl rfl _ rfl R12 Try.underlying34 rfl zt ?_)
        clear hW hW2 d zb c0 c4 g1 f1 HTK HL5 RB R0 R1 R2 hout hbel hB hk2 c2
        refine CL.mono ?_
        clear CL
        rintro e w3 ⟨u3, rfl, ho3, hb3⟩
        obtain ⟨p3, c3_, rfl⟩ := own_sl ho3
        replace RB2 := RB2.later hb3
        replace R02 := R02.later hb3
        replace R12 := R12.later hb3
        replace R22 := R22.later hb3
        replace hout2 := hout2.later hb3
        replace hbel2 := below_on hbel2 hb3
        have hOK3 : OKm w w3 (.slice p3 l5.length c3_) l5 := .inr (own_mono ho3 (Nat.le_trans (by omega) hB2))
        replace hB2 := Nat.le_trans hB2 hb3.size
        have g2 : w3.cell? ⟨wr.heap.size, 2, none⟩ = some (.slice py y.ms.length cy) := RB2.cell 2
        have f2 : w3.frozen? ⟨wr.heap.size, 2, none⟩ = false := RB2.frozen 2
        have RB : Rw (w3.setCell ⟨wr.heap.size, 2, none⟩ (.slice p3 l5.length c3_)) wr.heap.size 41 #[.string y.x, .bool false, .slice p3 l5.length c3_] := RB2.set 2 _
        have hk3 := Kp.cell w3 wr.heap.size 2 (.slice p3 l5.length c3_)
        have hout := hout2.box RB2 hk3 hnb
        have hOK := hOK3.box RB2 hk3
        have R0 := R02.setOther (q := wr.heap.size) (by omega) 2 (.slice p3 l5.length c3_)
        have R1 := R12.setOther (q := wr.heap.size) (by omega) 2 (.slice p3 l5.length c3_)
        have R2 := R22.setOther (q := wr.heap.size) (by omega) 2 (.slice p3 l5.length c3_)
        have hbel := hbel2.setCell (p := ⟨wr.heap.size, 2, none⟩) (by show w.heap.size ≤ wr.heap.size; omega) (.slice p3 l5.length c3_)
        have hB : w.heap.size + 3 ≤ (w3.setCell ⟨wr.heap.size, 2, none⟩ (.slice p3 l5.length c3_)).heap.size := by rw [World.size_setCell]; exact hB2
        generalize hW3 : w3.setCell ⟨wr.heap.size, 2, none⟩ (.slice p3 l5.length c3_) = w4 at RB hk3 hout hOK R0 R1 R2 hbel hB
        have c4_ : w4.cell? ⟨wr.heap.size, 2, none⟩ = some (.slice p3 l5.length c3_) := RB.cell 2
        clear ho3 hb3 RB2 hout2 R02 R12 R22 hbel2 hB2 hOK3 hk3
        by_cases hl5 : l5.length = 0
        · have HN : Hid (wo (fun y => true || decide (tx y = bs s)) (bfP q u v idx) (x.mb.take (k + 1)) = L) := by
            show _ = _
            rw [HDM.out, HD2.out, if_pos hl5]
            simp
          have hl5' : ((l5.length : Int) == 0) = true := by rw [hl5]; rfl
          clear hl5
          go_wp2_with (first | rw [hW3])
          try rw [hW3]
          clear hW3 g2 f2
          go_roundw
          case rel => exact ⟨k + 1, by simp, by omega, by rw [HN.out]; exact hout, R0, R1, R2, hbel, hB⟩
          case measure => simp [intOf]; omega
        · have HN : Hid (wo (fun y => true || decide (tx y = bs s)) (bfP q u v idx) (x.mb.take (k + 1)) = L ++ [⟨y.x, false, l5⟩]) := by
            show _ = _
            rw [HDM.out, HD2.out, if_neg hl5]
            simp
          have hl5' : ((l5.length : Int) == 0) = false := by
            rw [beq_eq_false_iff_ne]
            omega
          obtain ⟨xs, hox, hsn⟩ := hout.owns
          have HSN : Hid (∀ (w2 : World) (v2 : Value) (z : Mb × Value), w4.grownBy w2 (Value.slice P L.length cc).ownBlock → w2.ownsRow (w.heap.size + 3) 41 3 v2 (L.length + 1) (xs ++ Mb.cells z) → OKm w w4 z.2 z.1.ms → Out w (w.heap.size + 3) w2 v2 (L ++ [z.1])) := hsn
          have hBg : ∀ q', (Value.slice P L.length cc).ownBlock = some q' → w.heap.size + 3 ≤ q' := fun q' hq => (World.ownsRow.lt hox q' hq).1
          have hc1 : ∀ q u, ([Value.string y.x, .bool false, .slice p3 l5.length c3_] : List Value)[q]? = some u → (w4.alloc (.cells #[Value.string y.x, .bool false, .slice p3 l5.length c3_] 41)).cell? ((⟨w4.heap.size, 0, none⟩ : Addr).add q) = some u := fun q u hq => (cells_new w4 [Value.string y.x, .bool false, .slice p3 l5.length c3_] 41 q).trans hq
          have hc2 : ∀ u ∈ ([Value.string y.x, .bool false, .slice p3 l5.length c3_] : List Value), u.oneCell' = true := by simp [Value.oneCell']
          have hc3 : L.length + 1 ≤ maxLen := by unfold maxLen; omega
          have hc4 : (L.length + 1) * 48 ≤ 140737488355328 := by omega
          have hc5 : w.heap.size + 3 ≤ (w4.alloc (.cells #[Value.string y.x, .bool false, .slice p3 l5.length c3_] 41)).heap.size := by simp; omega
          clear hsn
          go_wp2_with (first
            | rw [hW3]
            | refine load_r 41 _ rfl rfl _ rfl RB Try.underlying41 rfl size41 ?_
            | (at_builtin; refine wpList_append_own _ rfl _ _ 24 rfl (w.heap.size + 3) 41 i0 (.agg #[.string noS, .bool false, .slice none 0 0]) 3 48 Try.underlying24 hi hz0 hz1 hz2 rfl (by decide) _ _ _ rfl (hox.alloc _) ⟨w4.heap.size, 0, none⟩ 1 1 [Value.string y.x, .bool false, .slice p3 l5.length c3_] rfl rfl hc1 hc2 hc3 hc4 hc5 ?_))
          intro v2 w9 hown9 hg9 _
          have hbA := bel_alloc (Below.refl w4.heap.size w4) (.cells #[Value.string y.x, .bool false, .slice p3 l5.length c3_] 41)
          have hgk : w4.grownBy w9 (Value.slice P L.length cc).ownBlock := ⟨hg9.os, hg9.tape, hg9.output, Nat.le_trans hbA.size hg9.size, fun k' h1 h2 => (hg9.block k' (Nat.lt_of_lt_of_le h1 hbA.size) h2).trans (hbA.block k' h1)⟩
          have hout9 : Out w (w.heap.size + 3) w9 v2 (L ++ [⟨y.x, false, l5⟩]) := HSN.out w9 v2 (⟨y.x, false, l5⟩, .slice p3 l5.length c3_) hgk hown9 hOK
          have hb9 := hbel.grown hgk hbel.size (fun q' hq => by have := hBg q' hq; omega)
          have R09 := R0.grown hgk (fun q' hq => by have := hBg q' hq; omega)
          have R19 := R1.grown hgk (fun q' hq => by have := hBg q' hq; omega)
          have R29 := R2.grown hgk (fun q' hq => by have := hBg q' hq; omega)
          have hB9 : w.heap.size + 3 ≤ w9.heap.size := Nat.le_trans hB hgk.size
          clear hg9 hgk hbA hown9 hox HSN hc1 hc2 hc3 hc4 hc5
          go_wp2_with fail
          go_roundw
          case rel => exact ⟨k + 1, by simp, by omega, by rw [HN.out]; exact hout9, R09, R19, R29, hb9, hB9⟩
          case measure => simp [intOf]; omega
    · have hlt' : ¬ (k : Int) < (x.mb.length : Int) := by omega
      obtain rfl : k = x.mb.length := by omega
      rw [List.take_length] at HLL
      have HGV : Hid (∀ (w' : World) (vm' : Value), Below w.heap.size w w' → BHas w' vm' L → Gives { x with mb := L } w (.returned (CV x.k x.b (.slice pa x.am.length ca') (.slice pw x.wr.length cw) vm' (.slice pe x.el.length ce))) w') := fun w' vm' hb hm => ⟨_, _, _, _, rfl, four_with HF.out hb hm, hb⟩
      have g4 : wr.cell? ⟨w.heap.size, 4, none⟩ = some (.slice pm x.mb.length cm) := R0.cell 4
      have f4 : wr.frozen? ⟨w.heap.size, 4, none⟩ = false := R0.frozen 4
      have hk1 := Kp.cell wr w.heap.size 4 (.slice P L.length cc)
      have hout2 := hout.other R0 (by decide) (by decide) hk1
      have R02 : Rw (wr.setCell ⟨w.heap.size, 4, none⟩ (.slice P L.length cc)) w.heap.size 27 (cvc x.k x.b (.slice pa x.am.length ca') (.slice pw x.wr.length cw) (.slice P L.length cc) (.slice pe x.el.length ce)) := R0.set 4 _
      have R22 := R2.setOther (q := w.heap.size) (by omega) 4 (.slice P L.length cc)
      have hbel2 := hbel.setCell (p := ⟨w.heap.size, 4, none⟩) (Nat.le_refl _) (.slice P L.length cc)
      generalize hW : wr.setCell ⟨w.heap.size, 4, none⟩ (.slice P L.length cc) = w3 at hk1 hout2 R02 R22 hbel2
      go_wp2_with (first | rw [hW] | refine load_r 27 _ rfl rfl _ rfl R02 Try.underlying27 rfl size27 ?_ | refine store_r rfl 27 _ _ rfl _ (cvc x.k x.b (.slice pa x.am.length ca') (.slice pw x.wr.length cw) (.slice P L.length cc) (.slice pe x.el.length ce)) rfl rfl R22 size27 rfl (by simp [Value.oneCell']) ?_)
      refine bodyPost_ret (results_r rfl rfl (R22.row (cvc x.k x.b (.slice pa x.am.length ca') (.slice pw x.wr.length cw) (.slice P L.length cc) (.slice pe x.el.length ce))) rfl Try.underlying27 size27) rfl ?_
      have hb4 := below_setRow hbel2 (g := w.heap.size + 2) (by omega) (cvc x.k x.b (.slice pa x.am.length ca') (.slice pw x.wr.length cw) (.slice P L.length cc) (.slice pe x.el.length ce))
      have hout3 := hout2.other R22 (by decide) (by decide) (Kp.row1 w3 (w.heap.size + 2) (cvc x.k x.b (.slice pa x.am.length ca') (.slice pw x.wr.length cw) (.slice P L.length cc) (.slice pe x.el.length ce)))
      have e : z = { x with mb := L } := by rw [← HZ.out, HLL.out]
      rw [e]
      exact HGV.out _ _ hb4 (hout3.bhas hb4)
end Go.Proofs.Ythekfmodafmlgaa
/- Del and Clear of the document's answer. -/
namespace Go.Proofs.Ythekfmodafmlgaa
open Go.RowKit Go.Sort

set_option maxHeartbeats 4000000 in
set_option maxRecDepth 100000 in
theorem refDel_any (x : X) (va vw vm ve : Value) (q u : Int) (v : List Int) (t : Int) (sl : Value) (idx : Int) (s : ByteArray) (w : World) (hv : v.length = 13) (h : Four w x va vw vm ve) (hs : Sm x) :
    Calls Try.prog 19 #[CV x.k x.b va vw vm ve, TxV q u v t sl, .int .i64 idx, .string s] w (Gives (delX x q u v idx s) w) := by
  obtain ⟨z, HZ⟩ := hid_ex (delX x q u v idx s)
  rw [HZ.out]
  obtain ⟨pa, ca', pw, cw, pm, cm, pe, ce, rfl, rfl, rfl, rfl⟩ := h.slices
  have HF : Hid (Four w x (.slice pa x.am.length ca') (.slice pw x.wr.length cw) (.slice pm x.mb.length cm) (.slice pe x.el.length ce)) := h
  clear h
  have R0 := (((rw_new w 27 (cvc x.k x.b (.slice pa x.am.length ca') (.slice pw x.wr.length cw) (.slice pm x.mb.length cm) (.slice pe x.el.length ce))).alloc (.cells (txc q u v t sl).toArray 34)).alloc (.cells (cvc 0 0 (.slice none 0 0) (.slice none 0 0) (.slice none 0 0) (.slice none 0 0)) 27))
  have R1 := ((rw_new (w.alloc (.cells (cvc x.k x.b (.slice pa x.am.length ca') (.slice pw x.wr.length cw) (.slice pm x.mb.length cm) (.slice pe x.el.length ce)) 27)) 34 (txc q u v t sl).toArray).alloc (.cells (cvc 0 0 (.slice none 0 0) (.slice none 0 0) (.slice none 0 0) (.slice none 0 0)) 27))
  have R2 := (rw_new ((w.alloc (.cells (cvc x.k x.b (.slice pa x.am.length ca') (.slice pw x.wr.length cw) (.slice pm x.mb.length cm) (.slice pe x.el.length ce)) 27)).alloc (.cells (txc q u v t sl).toArray 34)) 27 (cvc 0 0 (.slice none 0 0) (.slice none 0 0) (.slice none 0 0) (.slice none 0 0)))
  have hbel := bel_alloc (bel_alloc (bel_alloc (Below.refl w.heap.size w) (.cells (cvc x.k x.b (.slice pa x.am.length ca') (.slice pw x.wr.length cw) (.slice pm x.mb.length cm) (.slice pe x.el.length ce)) 27)) (.cells (txc q u v t sl).toArray 34)) (.cells (cvc 0 0 (.slice none 0 0) (.slice none 0 0) (.slice none 0 0) (.slice none 0 0)) 27)
  generalize hW : (((w.alloc (.cells (cvc x.k x.b (.slice pa x.am.length ca') (.slice pw x.wr.length cw) (.slice pm x.mb.length cm) (.slice pe x.el.length ce)) 27)).alloc (.cells (txc q u v t sl).toArray 34)).alloc (.cells (cvc 0 0 (.slice none 0 0) (.slice none 0 0) (.slice none 0 0) (.slice none 0 0)) 27)) = w0 at R0 R1 R2 hbel
  simp only [World.size_alloc, Nat.add_assoc, Nat.reduceAdd] at R1 R2
  have zt := size_tx (p := q) (s := u) (t := t) (sl := sl) hv
  go_enter Try.func19, Try.ntmps19
  go_wp2_with (first | rw [hW] | refine load_r 27 _ rfl rfl _ rfl R0 Try.underlying27 rfl size27 ?_)
  clear hW
  refine (refCheck_any x _ _ _ _ w0 (HF.out.later hbel) hs).mono ?_
  rintro e w1 ⟨rfl, hb1⟩
  replace R0 := R0.later hb1
  replace R1 := R1.later hb1
  replace R2 := R2.later hb1
  replace hbel := below_on hbel hb1
  clear hb1
  obtain ⟨y1, HY1⟩ := hid_ex (ck x)
  rw [HY1.out]
  cases y1
  ·
    have e : x = z := by rw [← HZ.out]; unfold delX woX; rw [HY1.out]; rfl
    subst e
    go_wp2_with (first | refine load_r 27 _ rfl rfl _ rfl R0 Try.underlying27 rfl size27 ?_ | refine store_r rfl 27 _ _ rfl _ (cvc x.k x.b (.slice pa x.am.length ca') (.slice pw x.wr.length cw) (.slice pm x.mb.length cm) (.slice pe x.el.length ce)) rfl rfl R2 size27 rfl (by simp [Value.oneCell']) ?_)
    refine bodyPost_ret (results_r rfl rfl (R2.row (cvc x.k x.b (.slice pa x.am.length ca') (.slice pw x.wr.length cw) (.slice pm x.mb.length cm) (.slice pe x.el.length ce))) rfl Try.underlying27 size27) rfl ?_
    replace hbel := below_setRow hbel (g := w.heap.size + 2) (by omega) (cvc x.k x.b (.slice pa x.am.length ca') (.slice pw x.wr.length cw) (.slice pm x.mb.length cm) (.slice pe x.el.length ce))
    exact ⟨_, _, _, _, rfl, HF.out.later hbel, hbel⟩
  · have hii : decide (idx < 1) = !im idx := by unfold im; by_cases h : idx < 1 <;> simp [h] <;> omega
    obtain ⟨y2, HY2⟩ := hid_ex (im idx)
    rw [HY2.out] at hii
    cases y2
    · have hil : idx < 1 := of_decide_eq_true hii
      have e : x = z := by rw [← HZ.out]; unfold delX woX; rw [HY1.out, HY2.out]; rfl
      subst e
      go_wp2_with (first | refine load_r 27 _ rfl rfl _ rfl R0 Try.underlying27 rfl size27 ?_ | refine store_r rfl 27 _ _ rfl _ (cvc x.k x.b (.slice pa x.am.length ca') (.slice pw x.wr.length cw) (.slice pm x.mb.length cm) (.slice pe x.el.length ce)) rfl rfl R2 size27 rfl (by simp [Value.oneCell']) ?_)
      refine bodyPost_ret (results_r rfl rfl (R2.row (cvc x.k x.b (.slice pa x.am.length ca') (.slice pw x.wr.length cw) (.slice pm x.mb.length cm) (.slice pe x.el.length ce))) rfl Try.underlying27 size27) rfl ?_
      replace hbel := below_setRow hbel (g := w.heap.size + 2) (by omega) (cvc x.k x.b (.slice pa x.am.length ca') (.slice pw x.wr.length cw) (.slice pm x.mb.length cm) (.slice pe x.el.length ce))
      exact ⟨_, _, _, _, rfl, HF.out.later hbel, hbel⟩
    · have hil : ¬ idx < 1 := of_decide_eq_false hii
      clear hii
      by_cases hsx : s.size ≤ 64
      · have hsx' : ¬ (64 : Int) < (s.size : Int) := by omega
        have CW := refWithout_any x _ _ _ _ q u v t sl idx s false w1 hv (HF.out.later hbel) hs
        rw [show ({ x with mb := wo (fun y => false || decide (tx y = bs s)) (bfP q u v idx) x.mb } : X) = z from ?_] at CW
        rotate_left
        · rw [← HZ.out]
          unfold delX woX
          rw [HY1.out, HY2.out]
          simp
        go_wp2_with (first | refine load_r 27 _ rfl rfl _ rfl R0 Try.underlying27 rfl size27 ?_ | refine load_r 34 _ rfl rfl _ rfl R1 Try.underlying34 rfl zt ?_)
        refine CW.mono ?_
        clear CW
        rintro e w2 ⟨ua, uw, um, ue, rfl, hf, hb2⟩
        obtain ⟨na, ea, nw, ew, nm, em, ne, ee, rfl, rfl, rfl, rfl⟩ := hf.slices
        replace R2 := R2.later hb2
        replace hbel := below_on hbel hb2
        go_wp2_with (first | refine store_r rfl 27 _ _ rfl _ (cvc z.k z.b (.slice na z.am.length ea) (.slice nw z.wr.length ew) (.slice nm z.mb.length em) (.slice ne z.el.length ee)) rfl rfl R2 size27 rfl (by simp [Value.oneCell']) ?_)
        refine bodyPost_ret (results_r rfl rfl (R2.row _) rfl Try.underlying27 size27) rfl ?_
        exact ⟨_, _, _, _, rfl, hf.row R2 _, below_setRow hbel (by omega) _⟩
      · have hsx' : (64 : Int) < (s.size : Int) := by omega
        have e : x = z := by rw [← HZ.out]; unfold delX woX; rw [HY1.out, HY2.out, if_pos (by decide), wo_none]; intro y hy; refine decide_eq_false (fun e => hsx ?_); rw [← bs_inj e]; exact ck_text HY1.out y hy
        subst e
        go_wp2_with (first | refine load_r 27 _ rfl rfl _ rfl R0 Try.underlying27 rfl size27 ?_ | refine store_r rfl 27 _ _ rfl _ (cvc x.k x.b (.slice pa x.am.length ca') (.slice pw x.wr.length cw) (.slice pm x.mb.length cm) (.slice pe x.el.length ce)) rfl rfl R2 size27 rfl (by simp [Value.oneCell']) ?_)
        refine bodyPost_ret (results_r rfl rfl (R2.row (cvc x.k x.b (.slice pa x.am.length ca') (.slice pw x.wr.length cw) (.slice pm x.mb.length cm) (.slice pe x.el.length ce))) rfl Try.underlying27 size27) rfl ?_
        replace hbel := below_setRow hbel (g := w.heap.size + 2) (by omega) (cvc x.k x.b (.slice pa x.am.length ca') (.slice pw x.wr.length cw) (.slice pm x.mb.length cm) (.slice pe x.el.length ce))
        exact ⟨_, _, _, _, rfl, HF.out.later hbel, hbel⟩
set_option maxHeartbeats 4000000 in
set_option maxRecDepth 100000 in
theorem refClear_any (x : X) (va vw vm ve : Value) (q u : Int) (v : List Int) (t : Int) (sl : Value) (idx : Int) (w : World) (hv : v.length = 13) (h : Four w x va vw vm ve) (hs : Sm x) :
    Calls Try.prog 21 #[CV x.k x.b va vw vm ve, TxV q u v t sl, .int .i64 idx] w (Gives (clX x q u v idx) w) := by
  obtain ⟨z, HZ⟩ := hid_ex (clX x q u v idx)
  rw [HZ.out]
  obtain ⟨pa, ca', pw, cw, pm, cm, pe, ce, rfl, rfl, rfl, rfl⟩ := h.slices
  have HF : Hid (Four w x (.slice pa x.am.length ca') (.slice pw x.wr.length cw) (.slice pm x.mb.length cm) (.slice pe x.el.length ce)) := h
  clear h
  have R0 := (((rw_new w 27 (cvc x.k x.b (.slice pa x.am.length ca') (.slice pw x.wr.length cw) (.slice pm x.mb.length cm) (.slice pe x.el.length ce))).alloc (.cells (txc q u v t sl).toArray 34)).alloc (.cells (cvc 0 0 (.slice none 0 0) (.slice none 0 0) (.slice none 0 0) (.slice none 0 0)) 27))
  have R1 := ((rw_new (w.alloc (.cells (cvc x.k x.b (.slice pa x.am.length ca') (.slice pw x.wr.length cw) (.slice pm x.mb.length cm) (.slice pe x.el.length ce)) 27)) 34 (txc q u v t sl).toArray).alloc (.cells (cvc 0 0 (.slice none 0 0) (.slice none 0 0) (.slice none 0 0) (.slice none 0 0)) 27))
  have R2 := (rw_new ((w.alloc (.cells (cvc x.k x.b (.slice pa x.am.length ca') (.slice pw x.wr.length cw) (.slice pm x.mb.length cm) (.slice pe x.el.length ce)) 27)).alloc (.cells (txc q u v t sl).toArray 34)) 27 (cvc 0 0 (.slice none 0 0) (.slice none 0 0) (.slice none 0 0) (.slice none 0 0)))
  have hbel := bel_alloc (bel_alloc (bel_alloc (Below.refl w.heap.size w) (.cells (cvc x.k x.b (.slice pa x.am.length ca') (.slice pw x.wr.length cw) (.slice pm x.mb.length cm) (.slice pe x.el.length ce)) 27)) (.cells (txc q u v t sl).toArray 34)) (.cells (cvc 0 0 (.slice none 0 0) (.slice none 0 0) (.slice none 0 0) (.slice none 0 0)) 27)
  generalize hW : (((w.alloc (.cells (cvc x.k x.b (.slice pa x.am.length ca') (.slice pw x.wr.length cw) (.slice pm x.mb.length cm) (.slice pe x.el.length ce)) 27)).alloc (.cells (txc q u v t sl).toArray 34)).alloc (.cells (cvc 0 0 (.slice none 0 0) (.slice none 0 0) (.slice none 0 0) (.slice none 0 0)) 27)) = w0 at R0 R1 R2 hbel
  simp only [World.size_alloc, Nat.add_assoc, Nat.reduceAdd] at R1 R2
  have zt := size_tx (p := q) (s := u) (t := t) (sl := sl) hv
  go_enter Try.func21, Try.ntmps21
  go_wp2_with (first | rw [hW] | refine load_r 27 _ rfl rfl _ rfl R0 Try.underlying27 rfl size27 ?_)
  clear hW
  refine (refCheck_any x _ _ _ _ w0 (HF.out.later hbel) hs).mono ?_
  rintro e w1 ⟨rfl, hb1⟩
  replace R0 := R0.later hb1
  replace R1 := R1.later hb1
  replace R2 := R2.later hb1
  replace hbel := below_on hbel hb1
  clear hb1
  obtain ⟨y1, HY1⟩ := hid_ex (ck x)
  rw [HY1.out]
  cases y1
  ·
    have e : x = z := by rw [← HZ.out]; unfold clX woX; rw [HY1.out]; rfl
    subst e
    go_wp2_with (first | refine load_r 27 _ rfl rfl _ rfl R0 Try.underlying27 rfl size27 ?_ | refine store_r rfl 27 _ _ rfl _ (cvc x.k x.b (.slice pa x.am.length ca') (.slice pw x.wr.length cw) (.slice pm x.mb.length cm) (.slice pe x.el.length ce)) rfl rfl R2 size27 rfl (by simp [Value.oneCell']) ?_)
    refine bodyPost_ret (results_r rfl rfl (R2.row (cvc x.k x.b (.slice pa x.am.length ca') (.slice pw x.wr.length cw) (.slice pm x.mb.length cm) (.slice pe x.el.length ce))) rfl Try.underlying27 size27) rfl ?_
    replace hbel := below_setRow hbel (g := w.heap.size + 2) (by omega) (cvc x.k x.b (.slice pa x.am.length ca') (.slice pw x.wr.length cw) (.slice pm x.mb.length cm) (.slice pe x.el.length ce))
    exact ⟨_, _, _, _, rfl, HF.out.later hbel, hbel⟩
  · have hii : decide (idx < 1) = !im idx := by unfold im; by_cases h : idx < 1 <;> simp [h] <;> omega
    obtain ⟨y2, HY2⟩ := hid_ex (im idx)
    rw [HY2.out] at hii
    cases y2
    · have hil : idx < 1 := of_decide_eq_true hii
      have e : x = z := by rw [← HZ.out]; unfold clX woX; rw [HY1.out, HY2.out]; rfl
      subst e
      go_wp2_with (first | refine load_r 27 _ rfl rfl _ rfl R0 Try.underlying27 rfl size27 ?_ | refine store_r rfl 27 _ _ rfl _ (cvc x.k x.b (.slice pa x.am.length ca') (.slice pw x.wr.length cw) (.slice pm x.mb.length cm) (.slice pe x.el.length ce)) rfl rfl R2 size27 rfl (by simp [Value.oneCell']) ?_)
      refine bodyPost_ret (results_r rfl rfl (R2.row (cvc x.k x.b (.slice pa x.am.length ca') (.slice pw x.wr.length cw) (.slice pm x.mb.length cm) (.slice pe x.el.length ce))) rfl Try.underlying27 size27) rfl ?_
      replace hbel := below_setRow hbel (g := w.heap.size + 2) (by omega) (cvc x.k x.b (.slice pa x.am.length ca') (.slice pw x.wr.length cw) (.slice pm x.mb.length cm) (.slice pe x.el.length ce))
      exact ⟨_, _, _, _, rfl, HF.out.later hbel, hbel⟩
    · have hil : ¬ idx < 1 := of_decide_eq_false hii
      clear hii
      have CW := refWithout_any x _ _ _ _ q u v t sl idx ⟨#[]⟩ true w1 hv (HF.out.later hbel) hs
      rw [show ({ x with mb := wo (fun y => true || decide (tx y = bs ⟨#[]⟩)) (bfP q u v idx) x.mb } : X) = z from ?_] at CW
      rotate_left
      · rw [← HZ.out]
        unfold clX woX
        rw [HY1.out, HY2.out]
        simp
      go_wp2_with (first | refine load_r 27 _ rfl rfl _ rfl R0 Try.underlying27 rfl size27 ?_ | refine load_r 34 _ rfl rfl _ rfl R1 Try.underlying34 rfl zt ?_)
      refine CW.mono ?_
      clear CW
      rintro e w2 ⟨ua, uw, um, ue, rfl, hf, hb2⟩
      obtain ⟨na, ea, nw, ew, nm, em, ne, ee, rfl, rfl, rfl, rfl⟩ := hf.slices
      replace R2 := R2.later hb2
      replace hbel := below_on hbel hb2
      go_wp2_with (first | refine store_r rfl 27 _ _ rfl _ (cvc z.k z.b (.slice na z.am.length ea) (.slice nw z.wr.length ew) (.slice nm z.mb.length em) (.slice ne z.el.length ee)) rfl rfl R2 size27 rfl (by simp [Value.oneCell']) ?_)
      refine bodyPost_ret (results_r rfl rfl (R2.row _) rfl Try.underlying27 size27) rfl ?_
      exact ⟨_, _, _, _, rfl, hf.row R2 _, below_setRow hbel (by omega) _⟩
end Go.Proofs.Ythekfmodafmlgaa
