import Derived.Test.YtfiamiflkfdhoaaP11
/- The functions first and deliver of the queue. -/
namespace Go.Proofs.Ytfiamiflkfdhoaa
open Go.RowKit Go.ChangeMaps

theorem setCells_ne {w : World} {g b : Nat} (hne : b ≠ g) : ∀ (cs : List Value) (o : Nat), (w.setCells g o cs).heap[b]? = w.heap[b]? := by
  intro cs
  induction cs generalizing w with
  | nil => intro o; rfl
  | cons a cs ih =>
    intro o
    show ((w.setCell ⟨g, o, none⟩ a).setCells g (o + 1) cs).heap[b]? = _
    rw [ih]
    exact Below.heap_setCell w _ a b hne
theorem size_setCells (w : World) (g : Nat) : ∀ (cs : List Value) (o : Nat), (w.setCells g o cs).heap.size = w.heap.size := by
  intro cs
  induction cs generalizing w with
  | nil => intro o; rfl
  | cons a cs ih =>
    intro o
    show ((w.setCell ⟨g, o, none⟩ a).setCells g (o + 1) cs).heap.size = _
    rw [ih, World.size_setCell]
theorem bel_setCells {n g : Nat} {w0 w : World} (h : Below n w0 w) (hg : n ≤ g) : ∀ (cs : List Value) (o : Nat), Below n w0 (w.setCells g o cs) := by
  intro cs
  induction cs generalizing w with
  | nil => intro o; exact h
  | cons a cs ih =>
    intro o
    exact ih (h.setCell (p := ⟨g, o, none⟩) hg a) (o + 1)
theorem rw_setCells {w : World} {b g : Nat} {t : TypeId} {cs : Array Value} (h : Rw w b t cs) (hne : b ≠ g) (vs : List Value) (o : Nat) : Rw (w.setCells g o vs) b t cs := (setCells_ne hne vs o).trans h

def setAll (cs : List Value) : Nat → List Value → List Value
  | _, [] => cs
  | o, v :: r => setAll (cs.set o v) (o + 1) r
theorem setAll_at : ∀ (vs : List Value) (cs : List Value) (o i : Nat), o + vs.length ≤ cs.length → (setAll cs o vs)[i]? = if o ≤ i ∧ i < o + vs.length ∧ i < cs.length then vs[i - o]? else cs[i]?
  | [], cs, o, i, _ => by
    simp only [setAll, List.length_nil, Nat.add_zero]
    rw [if_neg (by omega)]
  | v :: r, cs, o, i, h => by
    simp only [List.length_cons] at h
    rw [setAll, setAll_at r (cs.set o v) (o + 1) i (by rw [List.length_set]; omega), List.length_set, List.length_cons]
    by_cases h1 : i = o
    · subst h1
      rw [if_neg (by omega), if_pos (by omega)]
      simp [show i < cs.length by omega]
    · by_cases h2 : o + 1 ≤ i ∧ i < o + 1 + r.length ∧ i < cs.length
      · rw [if_pos h2, if_pos (by omega), show i - o = i - (o + 1) + 1 by omega, List.getElem?_cons_succ]
      · rw [if_neg h2, List.getElem?_set_ne (Ne.symm h1)]
        by_cases h3 : o ≤ i ∧ i < o + (r.length + 1) ∧ i < cs.length
        · omega
        · rw [if_neg h3]
theorem rw_all {b : Nat} {t : TypeId} : ∀ (vs : List Value) (cs : List Value) (o : Nat) (w : World), Rw w b t cs.toArray → Rw (w.setCells b o vs) b t (setAll cs o vs).toArray
  | [], _, _, _, h => h
  | v :: r, cs, o, w, h => by
    have := h.set o v
    rw [List.setIfInBounds_toArray] at this
    exact rw_all r (cs.set o v) (o + 1) _ this
theorem setAll_mid : ∀ (vs a b c : List Value), b.length = vs.length → setAll (a ++ (b ++ c)) a.length vs = a ++ (vs ++ c) := fun vs a b c h => List.ext_getElem? fun i => by
  rw [setAll_at vs _ _ i (by simp; omega)]
  by_cases h1 : i < a.length
  · rw [if_neg (by omega), List.getElem?_append_left h1, List.getElem?_append_left h1]
  · by_cases h2 : i < a.length + vs.length
    · rw [if_pos ⟨by omega, h2, by simp; omega⟩, List.getElem?_append_right (by omega), List.getElem?_append_left (by omega)]
    · rw [if_neg (by omega), List.getElem?_append_right (by omega), List.getElem?_append_right (by omega), List.getElem?_append_right (by omega), List.getElem?_append_right (by omega), h]
section
variable {w w' : World} {B g m : Nat} {lv : Value} {had : List Int} {st : List Int × LK} {pv : Value} {pl : List Nat} {dp ds : Int}
/-- Another vector is had. -/
theorem QAt.set_had (Q : QAt w B g m lv had st pv pl dp ds) {v' : List Int} (hv : v'.length = 13) : QAt (w.setCells g 1 (vals v')) B g m lv v' st pv pl dp ds := by
  obtain ⟨es, clock, hb, M, E⟩ := Q.m
  have hne : ∀ (b : Nat) (o : Obj), w.heap[b]? = some o → q3 o = true → (w.setCells g 1 (vals v')).heap[b]? = some o := fun b o h1 h2 => by
    refine (setCells_ne (fun e => ?_) _ _).trans h1
    subst e
    rw [show w.heap[b]? = _ from Q.q] at h1
    cases h1
    cases h2
  have hp : ∀ v q, PRow w B v q → PRow (w.setCells g 1 (vals v')) B v q := fun v q hv => hv.keep fun b e => by
    obtain ⟨_, cur, hc⟩ := hv.block e
    rw [hc]
    exact hne b _ hc rfl
  refine ⟨?_, hv, Q.r, Q.bg, Q.bm, es, clock, hne m _ hb rfl, M.move hp, E.move hp⟩
  have h1 := rw_all (vals v') _ 1 w Q.q
  rw [show setAll (qc lv had st.1 m) 1 (vals v') = qc lv v' st.1 m from setAll_mid (vals v') [lv] (vals had) _ (by simp [vals, Q.h, hv])] at h1
  exact h1
theorem QAt.there_had (Q : QAt w B g m lv had st pv pl dp ds) : w.there g 1 13 := fun j hj => ⟨by rw [Q.had_at hj]; rfl, Q.frozen _⟩
theorem KQ.setCells {cs : Array Value} (h : Rw w g 79 cs) (o : Nat) (vs : List Value) : KQ w (w.setCells g o vs) := ⟨by rw [size_setCells]; exact Nat.le_refl _, fun b x h1 h2 => by
  refine (setCells_ne (fun e => ?_) _ _).trans h1
  subst e
  rw [show w.heap[b]? = _ from h] at h1
  cases h1
  cases h2⟩
/-- Another row is looked at. -/
theorem QAt.ext (Q : QAt w B g m lv had st pv pl dp ds) {pv' : Value} {pl' : List Nat} {dp' ds' : Int} (h : ∀ es clock, w.heap[m]? = some (.map es clock) → Ext w B es pv' pl' dp' ds') : QAt w B g m lv had st pv' pl' dp' ds' := by
  obtain ⟨es, clock, hb, M, _⟩ := Q.m
  exact ⟨Q.q, Q.h, Q.r, Q.bg, Q.bm, es, clock, hb, M, h es clock hb⟩
abbrev QN (w : World) (B g m : Nat) (lv : Value) (had : List Int) (st : List Int × LK) : Prop := QAt w B g m lv had st (.slice none 0 0) [] 0 0
theorem QAt.nn (Q : QAt w B g m lv had st pv pl dp ds) : QN w B g m lv had st := Q.ext fun es clock _ => ⟨World.ownsRow_nil _ _ _ _, fun x _ _ b e => by simp [Value.ownBlock] at e⟩
/-- The row behind a dot. -/
theorem QAt.look (Q : QAt w B g m lv had st pv pl dp ds) {p s : Int} (hp : I64 p) (hs : I64 s) : ∃ v, (Instr.lookup 77 (.map (some m)) (D p s) false).run Try.prog w = .ok v w ∧ QAt w B g m lv had st v (st.2 p s) p s := by
  obtain ⟨es, clock, hb, M, E⟩ := Q.m
  obtain ⟨l, hl⟩ := dot_key hp hs
  rcases dot_law.find w hl es.toList M.keys with ⟨h1, h2⟩ | ⟨j, e0, h1, h2, h3⟩
  · refine ⟨.slice none 0 0, by simp [Instr.lookup, run_underlying Try.underlying77, MapKept.run_getObj_map hb, dot_law.check w _ hl, h1, Result.andThen], Q.q, Q.h, Q.r, Q.bg, Q.bm, es, clock, hb, M, ?_, fun x _ _ b e => by simp [Value.ownBlock] at e⟩
    rw [M.no p s h2]
    exact World.ownsRow_nil _ _ _ _
  · have hm := List.mem_of_getElem? h2
    exact ⟨e0.val, by simp [Instr.lookup, run_underlying Try.underlying77, MapKept.run_getObj_map hb, dot_law.check w _ hl, h1, Result.andThen], Q.q, Q.h, Q.r, Q.bg, Q.bm, es, clock, hb, M, M.vs e0 hm p s h3, fun x hx hk b e e2 => M.ap x hx e0 hm (fun e3 => hk (e3.trans h3)) b e2 e⟩
end
set_option maxRecDepth 100000 in
theorem first_any (w : World) (B g m : Nat) (lv : Value) (had : List Int) (st : List Int × LK) (Q : QN w B g m lv had st) : Calls Try.prog 47 #[.pointer (some ⟨g, 0, none⟩)] w (Tells (.int .i64 (minF (st.1.getD 0 0) (st.1.drop 1))) w) := by
  have hr := Q.r
  have hd := Q.rds
  obtain ⟨x, r, e⟩ : ∃ x r, st.1 = x :: r := by
    cases h : st.1 with
    | nil => rw [h] at hr; cases hr
    | cons x r => exact ⟨x, r, rfl⟩
  rw [e] at hd hr ⊢
  have C := fun w' (h : Below w.heap.size w w') => min_any g 14 13 x r w' (range_later hd h) (by rw [hr]; decide)
  rw [hr] at C
  have e2 : minF ((x :: r).getD 0 0) ((x :: r).drop 1) = minF x r := rfl
  rw [e2]
  clear e2 hd hr e Q
  go_enter Try.func47, Try.ntmps47
  go_wp2_with fail
  refine (C _ (Below.refl _ _)).mono ?_
  rintro e w1 ⟨rfl, hb1⟩
  go_wp2_with fail
  go_ret
  exact ⟨rfl, hb1⟩
theorem run_look {o : Oper} {a : Act} {w w1 : World} {x y : Operand} {u k v : Value} (ho : o.op = .lookup 77 x y false) (hx : a.eval x = u) (hy : a.eval y = k) (hr : (Instr.lookup 77 u k false).run Try.prog w = .ok v w1) : (execOp a.eval o).run Try.prog w = .ok (.value v) w1 := by
  unfold execOp
  simp only [ho, hx, hy, Sem.run_bind, hr, Result.andThen_ok, Sem.run_pure]
theorem i64_small {x : Int} (h0 : 0 ≤ x) (h1 : x ≤ 1048576) : I64 x := ⟨by omega, by omega⟩
set_option maxHeartbeats 4000000 in
set_option maxRecDepth 100000 in
theorem deliver_any (w0 w : World) (g m : Nat) (lv : Value) (l : List T) (had : List Int) (st : List Int × LK) (x : T) (hX : XHas w0 lv l) (hb0 : Below w0.heap.size w0 w) (Q : QN w w0.heap.size g m lv had st) (K : Qok l had st fun _ => False) (hx : rdy had x = true) (hl : l.length ≤ 100) :
    Calls Try.prog 48 #[.pointer (some ⟨g, 0, none⟩), D x.p x.s] w fun e w' => (∃ v, e = .returned v) ∧ QN w' w0.heap.size g m lv (stp had x) (looks (stp had x) l (st.2 x.p x.s) (st.1.set x.p.toNat (l.length : Int), st.2)) ∧ KQ w w' ∧ Below w0.heap.size w0 w' := by
  have hok := rdy_ok hx
  have hp := T.ok_p hok
  have hs := T.ok_s hok
  have K2 := K.deliver hx
  have hlk : ∀ i ∈ st.2 x.p x.s, ∃ t, l[i]? = some t ∧ t.ok = true ∧ ∀ p : Nat, fw (stp had x) (an t) = some p → ¬ ((p : Int) = x.p ∧ (an t).getD p 0 = x.s) := fun i hi => by
    obtain ⟨t, ht, ho⟩ := K.k _ _ i hi
    refine ⟨t, ht, ho, fun p hpp e => ?_⟩
    have h1 := (fw_some hpp).2
    have e1 : p = x.p.toNat := by omega
    subst e1
    rw [stp_same Q.h hok, e.2] at h1
    omega
  have hlen1 : (st.2 x.p x.s).length ≤ 100 := Nat.le_trans (K.row _ _) hl
  have hrow : ∀ p n, (st.2 p n).length ≤ 100 := fun p n => Nat.le_trans (K.row p n) hl
  have hsv := stp_length had x
  have hv' : (stp had x).length = 13 := by rw [hsv]; exact Q.h
  obtain ⟨lp, lcap, rfl⟩ := hX.slice
  have CA : ∀ w', Calls Try.prog 26 #[V had, D x.p x.s] w' (Tells (.tuple #[V (stp had x), .int .i64 0]) w') := fun w' => vadd_any had x.p x.s w' Q.h hp hs (rdy_s hx)
  have CL := fun w2 v (h1 : Below w0.heap.size w0 w2) (h2 : QAt w2 w0.heap.size g m (.slice lp l.length lcap) (stp had x) (st.1.set x.p.toNat (l.length : Int), st.2) v (st.2 x.p x.s) x.p x.s) => look_any w0 w2 g m _ l (stp had x) (st.1.set x.p.toNat (l.length : Int), st.2) v (st.2 x.p x.s) x.p x.s hX h1 h2 hlk hl hlen1 hrow
  have hIp : I64 x.p := i64_small (by omega) (by omega)
  have hIs : I64 x.s := i64_small (by omega) (by omega)
  have HQ : Hid (QN w w0.heap.size g m (.slice lp l.length lcap) had st) := Q
  obtain ⟨P, hP⟩ : ∃ P : Nat, Hid (x.p = (P : Int)) := ⟨x.p.toNat, show _ = _ by omega⟩
  have hP13 : P < 13 := by have := hP.out; omega
  have hP' : (P : Int) < 13 := by omega
  have hPt : x.p.toNat = P := by have := hP.out; omega
  rw [hPt] at CL ⊢
  rw [hP.out] at CA CL hIp ⊢
  clear hlk hlen1 hrow hsv K K2 hp hs hok hx Q hX hPt hP
  obtain ⟨s, HSX⟩ := hid_ex x.s
  rw [HSX.out] at CA CL hIs ⊢
  clear HSX
  generalize stp had x = had2 at hv' CA CL ⊢
  obtain ⟨pls, HPL⟩ := hid_ex (st.2 P s)
  rw [HPL.out] at CL ⊢
  have hb1 : Below w.heap.size w (w.alloc (.cells #[.int .i64 P, .int .i64 s] 31)) := bel_alloc (Below.refl _ _) _
  have R1 : Rw (w.alloc (.cells #[.int .i64 P, .int .i64 s] 31)) w.heap.size 31 #[.int .i64 P, .int .i64 s] := rw_new _ _ _
  obtain ⟨db, HDB⟩ := hid_ex w.heap.size
  have HDB' := HDB.out
  rw [HDB'] at R1
  go_enter Try.func48, Try.ntmps48
  go_upto_region 1 with fail
  try rw [HDB']
  have hdg : db ≠ g := fun e => by
    have h1 := (Array.getElem?_eq_some_iff.1 (show w.heap[g]? = _ from HQ.out.q)).1
    omega
  have Q1 : Hid (QN (w.alloc (.cells #[.int .i64 P, .int .i64 s] 31)) w0.heap.size g m (.slice lp l.length lcap) had st) := HQ.out.later hb1
  have k1 : Hid (KQ w (w.alloc (.cells #[.int .i64 P, .int .i64 s] 31))) := KQ.of_below hb1
  have b1 : Below w0.heap.size w0 (w.alloc (.cells #[.int .i64 P, .int .i64 s] 31)) := hb0.trans (hb1.mono hb0.size)
  generalize w.alloc (.cells #[.int .i64 P, .int .i64 s] 31) = w1 at R1 Q1 k1 b1 ⊢
  clear hb1 HDB HDB' HQ hb0
  have r1 : w1.drew.rangeAt db 0 [.int .i64 P, .int .i64 s] := R1.range 0 _ (fun j v h => by simpa using h)
  have zt := zd (P : Int) s
  have zv : (Try.prog.info? 26).map (·.size) = some (vals had).length := info_vals Q1.out.h
  have zv2 : (Try.prog.info? 26).map (·.size) = some (vals had2).toArray.size := by
    rw [vals_size, hv']
    exact size26
  have rh : w1.drew.rangeAt g 1 (vals had) := Q1.out.hads
  refine HeldI.region (fun w' => w'.rangeAt db 0 [.int .i64 P, .int .i64 s]) (by kernel_rfl) ?_
  refine HeldI.pu 0 r1 ?_
  refine HeldI.pu 1 r1 ?_
  refine HeldI.pu 2 r1 ?_
  refine HeldI.pu 3 r1 ?_
  refine HeldI.lm 5 zt (fun _ h => h) Try.underlying31 r1 ?_
  refine HeldI.la 4 zv rh Try.underlying26 r1 ?_
  refine HeldI.kn 6 (CA _) ?_
  rintro e w2 ⟨rfl, hb2⟩
  have r2 := range_later r1 hb2
  refine ⟨_, rfl, r2, ?_⟩
  have Q2 : Hid (QN w2 w0.heap.size g m (.slice lp l.length lcap) had st) := Q1.out.drew.later hb2
  have D2 := R1.drew.later hb2
  have k2 : Hid (KQ w w2) := k1.out.trans ((KQ.of_below (Below.refl _ _).drew).trans (KQ.of_below hb2))
  have b2 : Below w0.heap.size w0 w2 := b1.drew.trans (hb2.mono b1.size)
  clear hb2 r1 rh R1 Q1 k1 b1
  refine HeldI.pu 7 r2 ?_
  refine HeldI.pu 8 r2 ?_
  refine HeldI.pu 9 r2 ?_
  refine HeldI.pu 10 r2 ?_
  refine HeldI.pu 11 r2 ?_
  have hst := run_storeAt_mid (P := Try.prog) w2 g 1 26 (vals had2).toArray (by rw [vals_size, hv']; exact Q2.out.there_had) zv2 (vals_one had2)
  have r3 : (w2.setCells g 1 (vals had2)).rangeAt db 0 [.int .i64 P, .int .i64 s] := fun j v h => by
    rw [World.cell?_of_block (w := w2) (setCells_ne hdg _ _)]
    exact r2 j v h
  refine HeldI.ss 12 hst r3 ?_
  refine HeldI.dn ?_
  have Q3 : Hid (QN (w2.setCells g 1 (vals had2)) w0.heap.size g m (.slice lp l.length lcap) had2 st) := Q2.out.set_had hv'
  have D3 := rw_setCells D2 hdg (vals had2) 1
  have k3 : Hid (KQ w (w2.setCells g 1 (vals had2))) := k2.out.trans (KQ.setCells Q2.out.q _ _)
  have b3 : Below w0.heap.size w0 (w2.setCells g 1 (vals had2)) := bel_setCells b2 Q2.out.bg _ _
  generalize w2.setCells g 1 (vals had2) = w3 at r3 Q3 k3 b3 D3 ⊢
  clear D2 hst r2 Q2 k2 b2 zv zv2 CA
  obtain ⟨r, HRR⟩ := hid_ex (st.1.getD P 0)
  have c3 : w3.drew.cell? ⟨g, 14 + P, none⟩ = some (.int .i64 r) := by rw [← HRR.out]; exact Q3.out.rd_at hP13
  have f3 : w3.drew.frozen? ⟨g, 14 + P, none⟩ = false := Q3.out.frozen (14 + P)
  have d3 : w3.drew.cell? ⟨db, 0, none⟩ = some (.int .i64 P) := r3 0 _ rfl
  have l3 : w3.drew.cell? ⟨g, 0, none⟩ = some (.slice lp l.length lcap) := Q3.out.list
  have hS3 : w3.drew.cell? ⟨db, 0, none⟩ = some (.int .i64 P) ∧ w3.drew.cell? ⟨g, 0, none⟩ = some (.slice lp l.length lcap) := ⟨d3, l3⟩
  have hsto : (Instr.storeAt 3 (.pointer (some ⟨g, 14 + P, none⟩)) (.int .i64 l.length)).run Try.prog w3.drew = .ok () (w3.drew.setCell ⟨g, 14 + P, none⟩ (.int .i64 l.length)) := by
    simp [go_sem, c3, f3]
  have hS4 : (w3.drew.setCell ⟨g, 14 + P, none⟩ (.int .i64 l.length)).cell? ⟨db, 0, none⟩ = some (.int .i64 P) ∧ (w3.drew.setCell ⟨g, 14 + P, none⟩ (.int .i64 l.length)).cell? ⟨g, 0, none⟩ = some (.slice lp l.length lcap) := by
    refine ⟨?_, ?_⟩
    · rw [World.cell?_of_block (w := w3.drew) (Below.heap_setCell _ _ _ _ hdg)]
      exact d3
    · rw [World.cell?_setCell_other _ _ _ _ (by simp)]
      exact l3
  have Q4 : Hid (QN (w3.drew.setCell ⟨g, 14 + P, none⟩ (.int .i64 l.length)) w0.heap.size g m (.slice lp l.length lcap) had2 (st.1.set P (l.length : Int), st.2)) := Q3.out.drew.set_rd hP13 _
  have k4 : Hid (KQ w (w3.drew.setCell ⟨g, 14 + P, none⟩ (.int .i64 l.length))) := k3.out.trans ((KQ.of_below (Below.refl _ _).drew).trans (KQ.setCell Q3.out.drew.q _ _))
  have hgB : w0.heap.size ≤ g := Q3.out.bg
  have D4 := D3.drew.setOther hdg (14 + P) (.int .i64 l.length)
  have b4 : Below w0.heap.size w0 (w3.drew.setCell ⟨g, 14 + P, none⟩ (.int .i64 l.length)) := b3.drew.setCell (p := ⟨g, 14 + P, none⟩) hgB _
  have r4 : (w3.drew.setCell ⟨g, 14 + P, none⟩ (.int .i64 l.length)).rangeAt db 0 [.int .i64 P, .int .i64 s] := fun j v h => by
    rw [World.cell?_of_block (w := w3.drew) (Below.heap_setCell _ _ _ _ hdg)]
    exact r3 j v h
  go_upto_region 2 with fail
  refine HeldI.region (fun w' => w'.cell? ⟨db, 0, none⟩ = some (.int .i64 P) ∧ w'.cell? ⟨g, 0, none⟩ = some (.slice lp l.length lcap)) (by kernel_rfl) ?_
  refine HeldI.pu 0 hS3 ?_
  refine HeldI.pu 1 hS3 ?_
  refine HeldI.ce 2 (fun _ h => h.1) hS3 ?_
  refine HeldI.pu 3 hS3 ?_
  refine HeldI.pu 4 hS3 ?_
  refine HeldI.pu 5 hS3 ?_
  refine HeldI.ce 6 (fun _ h => h.2) hS3 ?_
  refine HeldI.pu 7 hS3 ?_
  refine HeldI.pu 8 hS3 ?_
  refine HeldI.pu 9 hS3 ?_
  refine HeldI.pu 10 hS3 ?_
  refine HeldI.ss 11 hsto hS4 ?_
  refine HeldI.dn ?_
  generalize w3.drew.setCell ⟨g, 14 + P, none⟩ (.int .i64 l.length) = w4 at Q4 k4 b4 r4 D4 ⊢
  clear D3 hS4 hsto hS3 l3 d3 f3 c3 HRR Q3 k3 b3 r3
  obtain ⟨v, hlook, Q5⟩ := (show QN w4.drew _ _ _ _ _ _ from Q4.out.drew).look hIp hIs
  have Q5' : QAt w4.drew w0.heap.size g m (.slice lp l.length lcap) had2 (st.1.set P (l.length : Int), st.2) v pls P s := by
    rw [← HPL.out]
    exact Q5
  have C5 := CL w4.drew v b4.drew Q5'
  go_upto_region 3 with fail
  have m4 : w4.drew.cell? ⟨g, 27, none⟩ = some (.map (some m)) := Q4.out.mp
  have D5 : Rw w4.drew db 31 #[.int .i64 P, .int .i64 s] := D4
  refine HeldI.region (fun w' => Rw w' db 31 #[.int .i64 P, .int .i64 s]) (by kernel_rfl) ?_
  refine HeldI.pu 0 D5 ?_
  refine HeldI.pu 1 D5 ?_
  refine HeldI.pu 2 D5 ?_
  refine HeldI.pu 3 D5 ?_
  refine HeldI.lm 5 zt (fun _ h => h.range 0 _ (fun j v h => by simpa using h)) Try.underlying31 D5 ?_
  refine HeldI.vl 4 (v := .map (some m)) (w1 := w4.drew) ?_ D5 ?_
  · go_simp
  refine HeldI.vl 6 (run_look (u := .map (some m)) (k := D (P : Int) s) rfl rfl rfl hlook) D5 ?_
  refine HeldI.kn 7 C5 ?_
  rintro e w5 ⟨⟨u, rfl⟩, h1, h2, h3⟩
  refine ⟨_, rfl, h2.same db _ D5 rfl, ?_⟩
  refine HeldI.dn ?_
  have h1' : Hid (QN w5 w0.heap.size g m (.slice lp l.length lcap) had2 (looks had2 l pls (st.1.set P (l.length : Int), st.2))) := h1.nn
  have h2' : Hid (KQ w w5) := k4.out.trans ((KQ.of_below (Below.refl _ _).drew).trans h2)
  clear h1 h2 C5 Q5' Q5 hlook m4 D5 D4 r4 Q4 k4 b4 CL
  go_wp2_with fail
  go_end0
  exact ⟨⟨_, rfl⟩, h1'.out, h2'.out, h3⟩
end Go.Proofs.Ytfiamiflkfdhoaa
/- The function queueOf. -/
namespace Go.Proofs.Ytfiamiflkfdhoaa
open Go.RowKit Go.ChangeMaps

theorem one_tx {w : World} {b : Nat} (x : T) (s1 : Value) (off : Nat → Prop) (hb : b = w.heap.size) (ho : OHas w s1 x.ops) (hof : ∀ q, off q → Off q s1 ∧ q ≠ b) : XAt (w.alloc (.cells (txc x.p x.s x.v x.t s1).toArray 34)) (.slice (some ⟨b, 0, none⟩) 1 1) [(x, s1)] off := by
  subst hb
  refine ⟨⟨(show 1 ≤ maxLen by decide), ?_, .inr ⟨_, 1, rfl, ⟨Nat.le_refl _, by decide⟩, fun _ => ⟨w.heap.size, 0, rfl, ?_⟩⟩⟩, fun y hy => ?_, fun q hq => ⟨fun a n c e hn => ?_, fun y hy => ?_⟩⟩
  · rw [rows_length T.len]
  · exact (rw_new w 34 _).range 0 _ fun j u hu => by
      rw [rows_one] at hu
      simpa using hu
  · simp only [List.mem_singleton] at hy
    subst hy
    exact ho.later (bel_alloc (Below.refl _ _) _)
  · simp only [Value.slice.injEq, Option.some.injEq] at e
    rw [← e.1]
    exact Ne.symm (hof q hq).2
  · simp only [List.mem_singleton] at hy
    subst hy
    exact (hof q hq).1
set_option maxRecDepth 100000 in
theorem build_one (x : T) (s1 : Value) (_h1 : s1.oneCell' = true) (w : World) : (Instr.buildSlice 22 1 #[(0, TxV x.p x.s x.v x.t s1)]).run Try.prog w = .ok (.slice (some ⟨w.heap.size, 0, none⟩) 1 1) (w.alloc (.cells (txc x.p x.s x.v x.t s1).toArray 34)) := by
  obtain ⟨p, s, v, t, ops, hv⟩ := x
  match v, hv with
  | [v0, v1, v2, v3, v4, v5, v6, v7, v8, v9, v10, v11, v12], _ =>
    go_simp
    simp [txc, vals, go_sem]
theorem build_at {ops : Array Oper} {rest : List Oper} {op : Oper} {a : Act} {w w1 : World} {Q : Exit → Act → World → Prop} {ty : TypeId} {n : Nat} (hgd : op.guard = none) (x : Operand) (ho : op.op = .buildSlice ty n #[(0, x)]) {u v : Value} (hx : a.eval x = v) (hr : (Instr.buildSlice ty n #[(0, v)]).run Try.prog w = .ok u w1)
    (h : wpList Try.prog ops Q rest (a.put op.dst u) w1) : wpList Try.prog ops Q (op :: rest) a w :=
  wpList_plain hgd fun _ hK => by
    unfold Oper.wp execOp
    simp only [ho, List.map_toArray, List.map_cons, List.map_nil, hx, Sem.run_bind, hr, Result.andThen_ok, Sem.run_pure]
    exact hK _ _ h
/-- The places of those that Check. -/
def snd (l : List T) : Nat → List Nat
  | 0 => []
  | k + 1 => match l[k]? with
    | some t => if t.ok = true then snd l k ++ [k] else snd l k
    | none => snd l k
theorem snd_mem (l : List T) (i : Nat) : ∀ k, i ∈ snd l k ↔ i < k ∧ ∃ t, l[i]? = some t ∧ t.ok = true
  | 0 => by simp [snd]
  | k + 1 => by
    have ih := snd_mem l i k
    unfold snd
    split
    · rename_i t ht
      split
      · rename_i hok
        rw [List.mem_append, ih]
        constructor
        · rintro (⟨h1, h2⟩ | h)
          · exact ⟨by omega, h2⟩
          · simp only [List.mem_singleton] at h
            subst h
            exact ⟨by omega, t, ht, hok⟩
        · rintro ⟨h1, h2⟩
          by_cases e : i = k
          · exact .inr (by simp [e])
          · exact .inl ⟨by omega, h2⟩
      · rename_i hok
        rw [ih]
        refine ⟨fun ⟨h1, h2⟩ => ⟨by omega, h2⟩, fun ⟨h1, t', h2, h3⟩ => ⟨?_, t', h2, h3⟩⟩
        by_cases e : i = k
        · subst e
          rw [ht] at h2
          cases h2
          exact absurd h3 hok
        · omega
    · rename_i ht
      rw [ih]
      refine ⟨fun ⟨h1, h2⟩ => ⟨by omega, h2⟩, fun ⟨h1, t', h2, h3⟩ => ⟨?_, t', h2, h3⟩⟩
      by_cases e : i = k
      · subst e
        rw [ht] at h2
        cases h2
      · omega
theorem snd_len (l : List T) : ∀ k, (snd l k).length ≤ k
  | 0 => by simp [snd]
  | k + 1 => by
    have := snd_len l k
    unfold snd
    split
    · split
      · rw [List.length_append]
        simp
        omega
      · omega
    · omega
theorem snd_nodup (l : List T) : ∀ k, (snd l k).Nodup
  | 0 => by simp [snd]
  | k + 1 => by
    have ih := snd_nodup l k
    unfold snd
    split
    · split
      · refine List.nodup_append.2 ⟨ih, by simp, fun a ha c hc e => ?_⟩
        simp only [List.mem_singleton] at hc
        have := (snd_mem l a k).1 ha
        omega
      · exact ih
    · exact ih
/-- The queue at its beginning. -/
abbrev q0 (v : List Int) (l : List T) : List Int × LK := looks v l (snd l l.length) (List.replicate 13 (l.length : Int), fun _ _ => [])
theorem q0_ok {v : List Int} (hv : v.length = 13) (l : List T) : Qok l v (q0 v l) fun _ => False := by
  refine Qok.looks _ ?_ (snd_nodup l _) fun i hi => ((snd_mem l i _).1 hi).2
  have Q := Qok.start (l := l) hv
  refine ⟨Q.h, Q.r, Q.r1, fun i t h hn hr => absurd ((snd_mem l i _).2 ⟨(List.getElem?_eq_some_iff.1 h).1, t, h, rdy_ok hr⟩) hn, fun i t h hn ho _ _ => absurd ((snd_mem l i _).2 ⟨(List.getElem?_eq_some_iff.1 h).1, t, h, ho⟩) hn, Q.k, Q.nd, (fun _ _ _ h => by cases h), Q.un⟩
def rdk (n : Int) (k : Nat) : List Int := List.replicate k n ++ List.replicate (13 - k) 0
theorem rdk_set (n : Int) {k : Nat} (h : k < 13) : (rdk n k).set k n = rdk n (k + 1) := by
  unfold rdk
  rw [show 13 - k = (13 - (k + 1)) + 1 by omega, List.replicate_succ, List.set_append_right _ _ (by simp)]
  simp [List.replicate_succ']
theorem qn_new (w : World) (lv : Value) (v : List Int) (hv : v.length = 13) : ∀ w2, w2 = (w.alloc (.map #[] 0)).alloc (.cells (qc lv v zeros w.heap.size).toArray 79) → ∀ B, B ≤ w.heap.size → QN w2 B (w.heap.size + 1) w.heap.size lv v (rdk 0 0, fun _ _ => []) ∧ w2.heap[w.heap.size]? = some (.map #[] 0) ∧ Below w.heap.size w w2 := by
  rintro w2 rfl B hB
  have h1 : ((w.alloc (.map #[] 0)).alloc (.cells (qc lv v zeros w.heap.size).toArray 79)).heap[w.heap.size]? = some (.map #[] 0) := (Below.heap_alloc _ _ _ (by simp)).trans (heap_alloc_last w _)
  refine ⟨⟨?_, hv, by simp [rdk], by omega, hB, #[], 0, h1, ⟨(fun x h => by cases h), (by simp), (fun x h => by cases h), (by simp), (fun x h => by cases h), (fun _ _ _ => rfl), (fun x h => by cases h)⟩, World.ownsRow_nil _ _ _ _, fun x h => by cases h⟩, h1, bel_alloc (bel_alloc (Below.refl _ _) _) _⟩
  exact rw_next _ (by simp) _ _
/-- A bound that is the first world's own. -/
theorem _root_.Go.RowKit.Below.size' {B : Nat} {a b : World} (h : Below B a b) (hB : B ≤ a.heap.size := by first | exact Nat.le_refl _ | assumption) : B ≤ b.heap.size := Nat.le_trans hB h.size
/-- The queue with nothing that lacks something. -/
structure QE (w : World) (g m : Nat) (lv : Value) (had rd : List Int) : Prop where
  q : Rw w g 79 (qc lv had rd m).toArray
  m : w.heap[m]? = some (.map #[] 0)
theorem QE.later {w w' : World} {g m : Nat} {lv : Value} {had rd : List Int} (h : QE w g m lv had rd) (hb : Below w.heap.size w w') : QE w' g m lv had rd := ⟨h.q.later hb, (hb.block _ (Array.getElem?_eq_some_iff.1 h.m).1).trans h.m⟩
theorem QE.qa {w : World} {B g m : Nat} {lv : Value} {had rd : List Int} (h : QE w g m lv had rd) (hh : had.length = 13) (hr : rd.length = 13) (hg : B ≤ g) (hm : B ≤ m) {pv : Value} {pl : List Nat} {dp ds : Int} (hp : PRow w B pv pl) : QAt w B g m lv had (rd, fun _ _ => []) pv pl dp ds :=
  ⟨h.q, hh, hr, hg, hm, #[], 0, h.m, ⟨(fun x h => by cases h), (by simp), (fun x h => by cases h), (by simp), (fun x h => by cases h), (fun _ _ _ => rfl), (fun x h => by cases h)⟩, hp, fun x h => by cases h⟩
theorem QE.grown {w w' : World} {B g m : Nat} {lv va : Value} {had rd : List Int} {q : List Nat} (h : QE w g m lv had rd) (hp : PRow w B va q) (hg : w.grownBy w' va.ownBlock) : QE w' g m lv had rd := by
  refine ⟨(hg.block g h.q.lt fun e => ?_).trans h.q, (hg.block m (Array.getElem?_eq_some_iff.1 h.m).1 fun e => ?_).trans h.m⟩
  · obtain ⟨_, cur, hc⟩ := hp.block e.symm
    rw [show w.heap[g]? = _ from h.q] at hc
    simp at hc
  · obtain ⟨_, cur, hc⟩ := hp.block e.symm
    rw [h.m] at hc
    cases hc
theorem append_pl {ops : Array Oper} {rest : List Oper} {o : Oper} {a : Act} {Q : Exit → Act → World → Prop} {w : World} {B ab i : Nat} {va : Value} {q : List Nat} (hgd : o.guard = none) (s x : Operand) (ho : o.op = .call { callee := .builtin .append, args := #[s, x], argTypes := #[80, 80] })
    (hs : a.eval s = va) (hx : a.eval x = .slice (some ⟨ab, 0, none⟩) 1 1) (hown : PRow w B va q) (hc : w.cell? ⟨ab, 0, none⟩ = some (.int .i64 i)) (hlen : q.length ≤ 1000) (hB : B ≤ w.heap.size)
    (h : ∀ v' w', PRow w' B v' (q ++ [i]) → w.grownBy w' va.ownBlock → wpList Try.prog ops Q rest (a.put o.dst v') w') : wpList Try.prog ops Q (o :: rest) a w := by
  obtain ⟨i3, hi, e⟩ := Option.map_eq_some_iff.1 info3
  simp only [Prod.mk.injEq] at e
  obtain ⟨v', w', hr, h2, hg, _, _⟩ := run_append_own_at (P := Try.prog) w B 80 o.type 3 i3 (.int .i64 0) 1 8 Try.underlying80 hi e.1 e.2.1 e.2.2 rfl (by decide) va q.length _ hown ⟨ab, 0, none⟩ 1 1 [.int .i64 i] rfl (fun j u hu => by
    match j with
    | 0 => simp at hu; subst hu; simpa [Addr.add_mid] using hc
    | j + 1 => simp at hu) (by simp [Value.oneCell']) (by simp [maxLen]; omega) (by omega) hB
  refine wpList_plain hgd fun _ hK => ?_
  unfold Oper.wp
  rw [run_app ho hs hx hr]
  refine hK _ _ (h v' w' ?_ hg)
  show w'.ownsRow B 3 1 v' (q ++ [i]).length (plv (q ++ [i]))
  rw [List.length_append, show plv (q ++ [i]) = plv q ++ [.int .i64 i] by simp [plv]]
  exact h2
set_option maxHeartbeats 4000000 in
set_option maxRecDepth 100000 in
theorem queueOf_any (w : World) (v : List Int) (lv : Value) (l : List T) (hX : XHas w lv l) (hv : v.length = 13) (hl : l.length ≤ 100) :
    Calls Try.prog 46 #[V v, lv] w fun e w' => ∃ g m, e = .returned (.pointer (some ⟨g, 0, none⟩)) ∧ QN w' w.heap.size g m lv v (q0 v l) ∧ Below w.heap.size w w' := by
  obtain ⟨lp, lcap, rfl⟩ := hX.slice
  have HX : Hid (XHas w (.slice lp l.length lcap) l) := hX
  have hlm : (l.length : Int) ≤ 100 := by omega
  have hb1 : Below w.heap.size w (w.alloc (.cells (vals v).toArray 26)) := bel_alloc (Below.refl _ _) _
  have hA := at_new w v hv
  have hsz1 : w.heap.size ≤ (w.alloc (.cells (vals v).toArray 26)).heap.size := hb1.size
  have hQv : ∀ w1 : World, w.heap.size ≤ w1.heap.size → ∀ w2, w2 = (w1.alloc (.map #[] 0)).alloc (.cells (qc (.slice lp l.length lcap) v zeros w1.heap.size).toArray 79) → QN w2 w.heap.size (w1.heap.size + 1) w1.heap.size (.slice lp l.length lcap) v (rdk 0 0, fun _ _ => []) ∧ w2.heap[w1.heap.size]? = some (.map #[] 0) ∧ Below w1.heap.size w1 w2 := fun w1 h w2 h2 => qn_new w1 _ v hv w2 h2 _ h
  have HV : Hid (q0 v l = q0 v l ∧ v.length = 13) := ⟨rfl, hv⟩
  obtain ⟨v0, v1, v2, v3, v4, v5, v6, v7, v8, v9, v10, v11, v12, rfl⟩ : ∃ v0 v1 v2 v3 v4 v5 v6 v7 v8 v9 v10 v11 v12, v = [v0, v1, v2, v3, v4, v5, v6, v7, v8, v9, v10, v11, v12] := by
    match v, hv with
    | [v0, v1, v2, v3, v4, v5, v6, v7, v8, v9, v10, v11, v12], _ => exact ⟨_, _, _, _, _, _, _, _, _, _, _, _, _, rfl⟩
  have hmm := @run_makeMap Try.prog
  clear hX hv
  go_enter Try.func46, Try.ntmps46
  go_upto_region 1 with fail
  obtain ⟨B, HB⟩ := hid_ex w.heap.size
  have HB' := HB.out
  rw [HB'] at hb1 hA hsz1 hQv ⊢
  clear HB'
  generalize w.alloc (.cells (vals [v0, v1, v2, v3, v4, v5, v6, v7, v8, v9, v10, v11, v12]).toArray 26) = w1 at hA hb1 hsz1 ⊢
  obtain ⟨hQ2, hm2, hb2⟩ := hQv w1 hsz1 _ rfl
  clear hQv
  obtain ⟨w2, HW2⟩ : ∃ w2, (w1.alloc (.map #[] 0)).alloc (.cells #[.slice lp l.length lcap, .int .i64 v0, .int .i64 v1, .int .i64 v2, .int .i64 v3, .int .i64 v4, .int .i64 v5, .int .i64 v6, .int .i64 v7, .int .i64 v8, .int .i64 v9, .int .i64 v10, .int .i64 v11, .int .i64 v12, .int .i64 0, .int .i64 0, .int .i64 0, .int .i64 0, .int .i64 0, .int .i64 0, .int .i64 0, .int .i64 0, .int .i64 0, .int .i64 0, .int .i64 0, .int .i64 0, .int .i64 0, .map (some w1.heap.size)] 79) = w2 := ⟨_, rfl⟩
  have hQ : QN w2 B (w1.heap.size + 1) w1.heap.size (.slice lp l.length lcap) [v0, v1, v2, v3, v4, v5, v6, v7, v8, v9, v10, v11, v12] (rdk 0 0, fun _ _ => []) := by rw [← HW2]; exact hQ2
  have hm : w2.heap[w1.heap.size]? = some (.map #[] 0) := by rw [← HW2]; exact hm2
  have hb : Below B w w2 := hb1.trans (by rw [← HW2]; exact hb2.mono hsz1)
  clear hQ2 hm2 hb2
  have hvals : (vals [v0, v1, v2, v3, v4, v5, v6, v7, v8, v9, v10, v11, v12]).toArray = #[.int .i64 v0, .int .i64 v1, .int .i64 v2, .int .i64 v3, .int .i64 v4, .int .i64 v5, .int .i64 v6, .int .i64 v7, .int .i64 v8, .int .i64 v9, .int .i64 v10, .int .i64 v11, .int .i64 v12] := rfl
  go_upto_region 2 with (refine load_at rfl _ rfl _ rfl hA ?_)
  have hgm : w1.heap.size ≠ w1.heap.size + 1 := by omega
  have hBm : B ≤ w1.heap.size := hsz1
  have hBg : B ≤ w1.heap.size + 1 := by omega
  generalize w1.heap.size + 1 = g at hQ hgm hBg ⊢
  generalize w1.heap.size = m at hQ hgm hBm hm ⊢
  clear hvals HW2 hsz1 hb1 hA hmm
  obtain ⟨v, HVV⟩ := hid_ex [v0, v1, v2, v3, v4, v5, v6, v7, v8, v9, v10, v11, v12]
  rw [HVV.out] at hQ HV ⊢
  have hE : QE w2 g m (.slice lp l.length lcap) v (rdk l.length 0) := ⟨hQ.q, hm⟩
  clear hQ hm
  go_upto_region 3 with fail
  go_loopw [15] (fun vk wr => ∃ k : Nat, vk = .int .i64 k ∧ k ≤ 13 ∧ Hid (QE wr g m (.slice lp l.length lcap) v (rdk l.length k)) ∧ Below B w wr) (fun vk _ => 13 - (intOf vk).toNat)
  case atStart => exact ⟨0, rfl, by omega, hE, hb⟩
  case round =>
    clear hE hb
    obtain ⟨k, rfl, hk, hE, hb⟩ := hrel
    have hlr : ∀ k, k ≤ 13 → (rdk (l.length : Int) k).length = 13 := fun k hk => by simp [rdk]; omega
    by_cases hk13 : k < 13
    · have hk' : (k : Int) < 13 := by omega
      have Q0 : QN wr B g m (.slice lp l.length lcap) v (rdk l.length k, fun _ _ => []) := hE.out.qa HV.out.2 (hlr k hk) hBg hBm (World.ownsRow_nil _ _ _ _)
      have c1 := Q0.rd_at hk13
      have f1 := Q0.frozen (14 + k)
      have Q1 := (Q0.set_rd hk13 l.length).q
      simp only [rdk_set _ hk13] at Q1
      have E1 : Hid (QE (wr.setCell ⟨g, 14 + k, none⟩ (.int .i64 l.length)) g m (.slice lp l.length lcap) v (rdk l.length (k + 1))) := ⟨Q1, (Below.heap_setCell _ ⟨g, 14 + k, none⟩ _ m hgm).trans hE.out.m⟩
      have hb1 : Below B w (wr.setCell ⟨g, 14 + k, none⟩ (.int .i64 l.length)) := hb.setCell (p := ⟨g, 14 + k, none⟩) hBg _
      obtain ⟨r, HR⟩ := hid_ex ((rdk (l.length : Int) k).getD k 0)
      simp only at c1
      rw [HR.out] at c1
      clear Q0 Q1 hE hb HR
      go_wp2_with fail
      go_roundw
      case rel => exact ⟨k + 1, by simp, by omega, E1, hb1⟩
      case measure => simp [intOf]; omega
    · obtain rfl : k = 13 := by omega
      clear hlr hk13 hk
      go_upto_region 9 with fail
      rw [show ((13 : Nat) : Int) = 13 from rfl]
      go_loopw [7, 28] (fun v7 vk wr2 => ∃ (k : Nat) (vs : Value), vs = v7 ∧ vk = .int .i64 k ∧ k ≤ l.length ∧ Hid (PRow wr2 B vs (snd l k)) ∧ Hid (QE wr2 g m (.slice lp l.length lcap) v (rdk l.length 13)) ∧ Below B w wr2) (fun _ vk _ => l.length - (intOf vk).toNat)
      case atStart => exact ⟨0, _, rfl, rfl, by omega, World.ownsRow_nil _ _ _ _, hE.out, hb⟩
      case round =>
        clear hE hb
        obtain ⟨k, vs, hvs, rfl, hk, hP, hE, hb⟩ := hrel
        subst hvs
        have hBw : B ≤ w.heap.size := by have := HB.out; omega
        have hBsz : B ≤ wr.heap.size := by have := HB.out; have := hb.size; omega
        by_cases hlt : k < l.length
        · have hlt' : (k : Int) < (l.length : Int) := by omega
          obtain ⟨gl, ol, sl, rfl, hd, ho⟩ := XHas.at (HX.out.later (HB.out ▸ hb)) k hlt
          obtain ⟨x, HXX⟩ := hid_ex l[k]
          rw [HXX.out] at hd ho
          have hsn : Hid (snd l (k + 1) = if x.ok = true then snd l k ++ [k] else snd l k) := by
            show _ = _
            rw [snd, List.getElem?_eq_getElem hlt, HXX.out]
          have hlen : Hid ((snd l k).length ≤ 1000) := by
            show _ ≤ _
            have := snd_len l k
            omega
          have z := tx_size x sl
          have hsl := ho.one
          obtain ⟨w3, HW⟩ : ∃ w3, (wr.alloc (.cells z17 34)).setRow wr.heap.size (txc x.p x.s x.v x.t sl).toArray = w3 := ⟨_, rfl⟩
          obtain ⟨R3, hb3, hsz3⟩ := box_tx wr x sl HW
          have r3 := R3.range 0 (txc x.p x.s x.v x.t sl) (fun j v h => by simpa using h)
          have ho3 := ho.later hb3
          have hP3 : Hid (PRow w3 B vs (snd l k)) := own_later hP.out hb3
          have hE3 : Hid (QE w3 g m (.slice (some ⟨gl, ol, none⟩) l.length lcap) v (rdk l.length 13)) := hE.out.later hb3
          have hB3 : Below B w w3 := hb.trans (hb3.mono hBsz)
          clear HXX hP hE hb ho R3
          go_upto_region 11 with (first | refine load_m 34 _ rfl rfl _ _ rfl hd Try.underlying34 rfl z ?_ | refine store_tx rfl _ _ rfl _ x sl rfl rfl hsl (rw_new wr 34 z17) rfl ?_)
          try rw [HW]
          clear HW hd hb3
          go_upto_region 12 with (refine load_m 34 _ rfl rfl _ _ rfl r3 Try.underlying34 rfl z ?_)
          refine (checkTx_any x.p x.s x.v x.t sl x.ops _ x.hv ho3).mono ?_
          rintro e w4 ⟨rfl, hb4⟩
          have hP4 : Hid (PRow w4 B vs (snd l k)) := own_later hP3.out hb4
          have hE4 : Hid (QE w4 g m (.slice (some ⟨gl, ol, none⟩) l.length lcap) v (rdk l.length 13)) := hE3.out.later hb4
          have hB4 : Below B w w4 := hB3.trans (hb4.mono hB3.size')
          have hBsz4 : B ≤ w4.heap.size := hB4.size'
          clear hP3 hE3 hB3 ho3 r3 hb4 hBsz hsz3
          obtain ⟨ok, HOK⟩ := hid_ex x.ok
          rw [show ct x.p x.s x.v x.t x.ops = ok from HOK.out]
          rw [HOK.out] at hsn
          clear HOK
          cases ok with
          | false =>
            go_wp2_with fail
            go_roundw
            case rel => exact ⟨k + 1, vs, rfl, by simp, by omega, (by show PRow _ _ _ _; rw [hsn.out]; exact hP4.out), hE4, hB4⟩
            case measure => simp [intOf]; omega
          | true =>
            have hb5 : Below w4.heap.size w4 (w4.alloc (.cells #[.int .i64 k] 3)) := bel_alloc (Below.refl _ _) _
            have hP5 : Hid (PRow (w4.alloc (.cells #[.int .i64 k] 3)) B vs (snd l k)) := own_later hP4.out hb5
            have hE5 : Hid (QE (w4.alloc (.cells #[.int .i64 k] 3)) g m (.slice (some ⟨gl, ol, none⟩) l.length lcap) v (rdk l.length 13)) := hE4.out.later hb5
            have hB5 : Below B w (w4.alloc (.cells #[.int .i64 k] 3)) := hB4.trans (hb5.mono hBsz4)
            have hc5 : (w4.alloc (.cells #[.int .i64 k] 3)).cell? ⟨w4.heap.size, 0, none⟩ = some (.int .i64 k) := (rw_new w4 3 #[.int .i64 k]).cell 0
            clear hP4 hE4 hB4 hb5
            go_wp2_with (at_builtin; refine append_pl rfl _ _ rfl rfl rfl hP5.out hc5 hlen.out hB5.size' ?_)
            intro v6 w6 hP6 hg6
            have hE6 : Hid (QE w6 g m (.slice (some ⟨gl, ol, none⟩) l.length lcap) v (rdk l.length 13)) := hE5.out.grown hP5.out hg6
            have hB6 : Below B w w6 := hB5.grown hg6 hB5.size' fun b e => (hP5.out.block e).1
            have hP6' : Hid (PRow w6 B v6 (snd l (k + 1))) := by
              show PRow _ _ _ _
              rw [hsn.out]
              exact hP6
            obtain ⟨p6, c6, hv6⟩ := own_sl hP6
            clear hP5 hE5 hB5 hc5 hg6 hP6
            subst hv6
            go_wp2_with fail
            go_roundw
            case rel => exact ⟨k + 1, _, rfl, by simp, by omega, hP6', hE6, hB6⟩
            case measure => simp [intOf]; omega
        · obtain rfl : k = l.length := by omega
          have hb' := hb
          have hP' := hP.out
          have hlr : (rdk (l.length : Int) 13).length = 13 := by simp [rdk]
          have HB' := HB.out
          subst HB'
          have Q0 : QAt wr w.heap.size g m (.slice lp l.length lcap) v (rdk l.length 13, fun _ _ => []) vs (snd l l.length) (-1) 0 := hE.out.qa HV.out.2 hlr hBg hBm hP'
          have hlk : ∀ i ∈ snd l l.length, ∃ t, l[i]? = some t ∧ t.ok = true ∧ ∀ p : Nat, fw v (an t) = some p → ¬ ((p : Int) = -1 ∧ (an t).getD p 0 = 0) := fun i hi => by
            obtain ⟨_, t, ht, ho⟩ := (snd_mem l i _).1 hi
            exact ⟨t, ht, ho, fun p _ e => by have := e.1; omega⟩
          have C := look_any w wr g m _ l v (rdk l.length 13, fun _ _ => []) vs (snd l l.length) (-1) 0 HX.out hb' Q0 hlk hl (Nat.le_trans (snd_len l _) hl) (fun p n => by simp)
          rw [show rdk (l.length : Int) 13 = List.replicate 13 (l.length : Int) by simp [rdk]] at C
          clear hlk Q0 hP' hb' hlr hP hE hb hk hlt
          go_wp2_with fail
          refine C.mono ?_
          rintro e w3 ⟨⟨u, rfl⟩, h1, h2, h3⟩
          have h1' := h1.nn
          clear h1 h2 C
          have hvv := HVV.out
          subst hvv
          go_wp2_with fail
          go_ret
          exact ⟨g, m, rfl, h1', h3⟩
end Go.Proofs.Ytfiamiflkfdhoaa
