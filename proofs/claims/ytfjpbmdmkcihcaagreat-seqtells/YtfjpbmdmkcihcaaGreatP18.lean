import Derived.Test.YtfjpbmdmkcihcaaGreatP13
import Derived.Test.YtfjpbmdmkcihcaaGreatP5
import Derived.ArgAppend
import Derived.Test.YtfjpbmdmkcihcaaGreatP16
import Derived.Test.YtfjpbmdmkcihcaaGreatP17
import Derived.Test.YtfjpbmdmkcihcaaGreatP12
import Derived.Test.YtfjpbmdmkcihcaaGreatP10
import Derived.Deep.MidRow
import Derived.Test.YtfjpbmdmkcihcaaGreatP9
import Derived.Test.YtfjpbmdmkcihcaaGreatP4
/- append, by facts and in a region's tail. -/
namespace Go.Proofs.YtfjpbmdmkcihcaaGreat
open Go.RowKit

section
variable {Q : Exit → Act → World → Prop} {S : World → Prop} {md : Region.Mode} {A : (Nat → Value) → Act} {F : List Facts.Fact} {i : Nat} {o : Oper} {φ : Value → World → Prop}
theorem Facts.appendD (hS : Calm.Stays S) (hF : Facts.Stay F) (hA : ∀ x u, (A x).put o.dst u = A (Facts.put x i u)) (s x : Operand) (t : TypeId) (ho : o.op = .call { callee := .builtin .append, args := #[s, x], argTypes := #[t, t] }) (hf : F[i]? = some (pF i φ))
    (h : ∀ xv w, S w → (∀ e ∈ o.after, Region.binds md e = true → ∀ f, F[e.on]? = some f → Facts.holds f xv w) → ∃ v w', (Builtin.append_ #[t, t] o.type #[(A xv).eval s, (A xv).eval x]).run Tryz.prog w = .ok v w' ∧ Below w.heap.size w w' ∧ φ v w') : Facts.StepOk Tryz.prog md Q S A F i o :=
  Facts.makeD hS hF hA hf fun xv w hSw hd => by
    obtain ⟨v, w', hr, hb, h2⟩ := h xv w hSw hd; refine ⟨v, w', ?_, hb, h2⟩; unfold execOp; simp only [ho, resolve, invoke, builtin, Sem.run_bind, Sem.run_pure, Result.andThen_ok, List.map_toArray, List.map_cons, List.map_nil, hr]
theorem tail_append {r : List Oper} {a : Act} {w : World} (s x : Operand) (t : TypeId) (ho : o.op = .call { callee := .builtin .append, args := #[s, x], argTypes := #[t, t] })
    (base : Nat) (e : TypeId) (i : TypeInfo) (z : Value) (size bytes : Nat) (ht : Tryz.prog.underlying t = some (.slice e)) (hi : Tryz.prog.info? e = some i) (hz : i.zero = some z)
    (hsize : i.size = size) (hby : i.bytes = bytes) (hzs : z.cells.size = size) (hsz : 0 < size)
    (v : Value) (n : Nat) (xs : List Value) (hs : a.eval s = v) (hown : w.ownsRow base e size v n xs)
    (ad : Addr) (m c : Nat) (news : List Value) (hx : a.eval x = .slice (some ad) m c) (hl : news.length = m * size) (hnews : ∀ j u, news[j]? = some u → w.cell? (ad.add j) = some u) (h1 : ∀ u ∈ news, u.oneCell' = true)
    (h63 : n + m ≤ maxLen) (hbytes : (n + m) * bytes ≤ 140737488355328) (hbase : base ≤ w.heap.size)
    (h : ∀ v' w', w'.ownsRow base e size v' (n + m) (xs ++ news) → w.grownBy w' v.ownBlock → Facts.tailWp Tryz.prog Q r (a.put o.dst v') w') : Facts.tailWp Tryz.prog Q (o :: r) a w :=
  wp_append_own w s x t ho base e i z size bytes ht hi hz hsize hby hzs hsz v n xs hs hown ad m c news hx hl hnews h1 h63 hbytes hbase fun v' w' h2 h3 _ => h v' w' h2 h3
/-- What is appended to a slice without room: it lies in a row of its own. -/
theorem append_empty {w : World} {B g : Nat} {t ty e : TypeId} {i : TypeInfo} {z : Value} {size bytes : Nat} (ht : Tryz.prog.underlying t = some (.slice e)) (hi : Tryz.prog.info? e = some i) (hz : i.zero = some z) (hsize : i.size = size) (hby : i.bytes = bytes) (hzs : z.cells.size = size) (hsz : 0 < size)
    (hown : w.ownsRow B e size (.slice (some ⟨g, 0, none⟩) 0 0) 0 []) (hB : B ≤ w.heap.size) (ad : Addr) (m c : Nat) (news : List Value) (hl : news.length = m * size) (hnews : ∀ j u, news[j]? = some u → w.cell? (ad.add j) = some u) (h63 : m ≤ maxLen) (hbytes : m * bytes ≤ 140737488355328) :
    ∃ v w', (Builtin.append_ #[t, t] ty #[.slice (some ⟨g, 0, none⟩) 0 0, .slice (some ad) m c]).run Tryz.prog w = .ok v w' ∧ Below w.heap.size w w' ∧ w'.ownsRow B e size v m news := by
  by_cases h0 : m = 0
  · subst h0
    have hn : news = [] := List.length_eq_zero_iff.1 (by rw [hl, Nat.zero_mul]); subst hn; refine ⟨.slice (some ⟨g, 0, none⟩) 0 0, w, ?_, Below.refl _ _, hown⟩
    simp [Builtin.append_, run_underlying ht, sizeOf, typeInfo, hi, Builtin.lenOf, Builtin.firstCells, loadCells, loadCellsFrom, storeCells]
  · obtain ⟨v, w', hr, h2, h3⟩ := run_append_arg_grows (P := Tryz.prog) w t ty e i z size bytes ht hi hz hsize hby hzs hsz ⟨g, 0, none⟩ 0 0 [] (by simp) (fun j u hu => by simp at hu) ad m c news hl hnews (by omega) (by omega) (by rw [Nat.zero_add]; exact hbytes)
    rw [Nat.zero_add, List.nil_append] at h2; exact ⟨v, w', hr, (Below.refl _ _).grown h3 (Nat.le_refl _) (fun k hk => by cases hk), own_mono h2 hB⟩
end
end Go.Proofs.YtfjpbmdmkcihcaaGreat
/- Del and Clear of the document's answer. -/
namespace Go.Proofs.YtfjpbmdmkcihcaaGreat
open Go.RowKit

theorem go_set {l : List El} (hp : l.Pairwise (fun a b => kl (kE a) (kE b) = true)) {r m : M} {k : Nat} (h : pl l (kM r) = some k) : ∃ hk : k < l.length, l.map (gE (fun y => decide (kM y = kM r)) m) = l.set k { l[k] with gone := wth l[k].gone m } := by
  obtain ⟨hk, e⟩ := pl_some h; refine ⟨hk, ?_⟩
  apply List.ext_getElem
  · simp
  · intro i h1 h2
    have hi : i < l.length := by simpa using h1
    rw [List.getElem_map, List.getElem_set]
    by_cases hik : k = i
    · subst hik
      rw [if_pos rfl]; unfold gE; rw [if_pos (show (fun y => decide (kM y = kM r)) (mE l[k]) = true from decide_eq_true e)]
    · rw [if_neg hik]
      unfold gE; rw [if_neg]; intro hc; exact hik (up_inj hp hk hi (e.trans (of_decide_eq_true hc).symm))
theorem go_none {l : List El} {r m : M} (h : pl l (kM r) = none) : l.map (gE (fun y => decide (kM y = kM r)) m) = l := by
  conv => rhs; rw [← List.map_id l]
  refine List.map_congr_left (fun e he => ?_); unfold gE; rw [if_neg]
  · rfl
  · intro hc
    exact pl_none.1 h e he (of_decide_eq_true hc)
/-- The marks of an element lie where they lay, or in a row of their own. -/
def Gq (B : Nat) (w wr : World) (y : El × Value) : Prop := MHas w y.2 y.1.gone ∨ wr.ownsRow B 36 3 y.2 y.1.gone.length (rows M.cells y.1.gone)
theorem Gq.has {B : Nat} {w wr : World} {y : El × Value} (h : Gq B w wr y) (hb : Below w.heap.size w wr) : MHas wr y.2 y.1.gone := by
  rcases h with h | h
  · exact h.later hb
  · exact own_sh h
theorem Gq.later {B : Nat} {w wr w' : World} {y : El × Value} (h : Gq B w wr y) (hb : Below wr.heap.size wr w') : Gq B w w' y := by
  rcases h with h | h
  · exact Or.inl h
  · exact Or.inr (own_later h hb)
theorem own_cells_ne {w : World} {B e S n g : Nat} {v : Value} {xs : List Value} (h : w.ownsRow B e S v n xs) (hne : ∀ k, v.ownBlock = some k → k ≠ g) (cs : List Value) (o : Nat) : (w.setCells g o cs).ownsRow B e S v n xs := by
  obtain ⟨h1, ⟨rfl, h0⟩ | ⟨g', cap, cur, rfl, hbg, hg, h2⟩⟩ := h
  · exact ⟨h1, .inl ⟨rfl, h0⟩⟩
  · exact ⟨h1, .inr ⟨g', cap, cur, rfl, hbg, (setCells_ne (hne g' rfl) cs o).trans hg, h2⟩⟩
theorem Gq.put {B B' : Nat} {w wr : World} {y : El × Value} (h : Gq B w wr y) {g n c : Nat} {xs : List Value} (ho : wr.ownsRow B' 60 9 (.slice (some ⟨g, 0, none⟩) n c) n xs) (cs : List Value) (o : Nat) : Gq B w (wr.setCells g o cs) y := by
  rcases h with h | h
  · exact Or.inl h
  · exact Or.inr (own_cells_ne h (own_tag h ho (by decide) rfl) cs o)
theorem Gq.cell {B : Nat} {w wr : World} {y : El × Value} (h : Gq B w wr y) {b : Nat} (hb : b < B) (j : Nat) (u : Value) : Gq B w (wr.setCell ⟨b, j, none⟩ u) y := by
  rcases h with h | h
  · exact Or.inl h
  · exact Or.inr (own_over h (fun k hk => by have := (World.ownsRow.lt h k hk).1; omega) j u)
theorem Gq.row {B : Nat} {w wr : World} {y : El × Value} (h : Gq B w wr y) {b : Nat} (hb : b < B) (cs : Array Value) : Gq B w (wr.setRow b cs) y := by
  rcases h with h | h
  · exact Or.inl h
  · exact Or.inr (own_row h hb cs)
theorem rowsAt {w : World} {B e S n g c : Nat} {xs : List Value} (h : w.ownsRow B e S (.slice (some ⟨g, 0, none⟩) n c) n xs) : w.rangeAt g 0 xs := fun j u hu => by
  have := h.cells rfl j u hu
  rw [Addr.add_mid] at this; exact this
theorem one_el {w : World} {y : El × Value} (h : MHas w y.2 y.1.gone) : ∀ u ∈ El.cells y, u.oneCell' = true := by
  obtain ⟨p, c, e⟩ := h.slice; intro u hu; simp only [El.cells, e, List.mem_cons, List.not_mem_nil, or_false] at hu
  rcases hu with rfl | rfl | rfl | rfl | rfl | rfl | rfl | rfl | rfl <;> rfl
set_option maxHeartbeats 4000000 in
set_option maxRecDepth 100000 in
theorem refDel_any (x : X) (va vw vm ve : Value) (q u : Int) (v : List Int) (t : Int) (sl : Value) (idx : Int) (r : M) (w : World) (hv : v.length = 13) (h : Four w x va vw vm ve) (hs : Sm x) :
    Calls Tryz.prog 13 #[CV x.k x.b va vw vm ve, TxV q u v t sl, .int .i64 idx, MV r.p r.s r.i] w (Gives (goX x ⟨q, u, idx⟩ (fun y => decide (kM y = kM r))) w) := by
  obtain ⟨i0, hi, hz0, hz1, hz2⟩ := info_parts info60; obtain ⟨pa, ca', pw, cw, pm, cm, pe, ce, rfl, rfl, rfl, rfl⟩ := h.slices; have HF : Hid (Four w x (.slice pa x.am.length ca') (.slice pw x.wr.length cw) (.slice pm x.mb.length cm) (.slice pe x.el.length ce)) := h; clear h; have R0 := ((((rw_new w 27 (cvc x.k x.b (.slice pa x.am.length ca') (.slice pw x.wr.length cw) (.slice pm x.mb.length cm) (.slice pe x.el.length ce))).alloc (.cells (txc q u v t sl).toArray 34)).alloc (.cells #[.int .i64 r.p, .int .i64 r.s, .int .i64 r.i] 36)).alloc (.cells (cvc 0 0 (.slice none 0 0) (.slice none 0 0) (.slice none 0 0) (.slice none 0 0)) 27)); have R1 := (((rw_new (w.alloc (.cells (cvc x.k x.b (.slice pa x.am.length ca') (.slice pw x.wr.length cw) (.slice pm x.mb.length cm) (.slice pe x.el.length ce)) 27)) 34 (txc q u v t sl).toArray).alloc (.cells #[.int .i64 r.p, .int .i64 r.s, .int .i64 r.i] 36)).alloc (.cells (cvc 0 0 (.slice none 0 0) (.slice none 0 0) (.slice none 0 0) (.slice none 0 0)) 27)); have R2 := ((rw_new ((w.alloc (.cells (cvc x.k x.b (.slice pa x.am.length ca') (.slice pw x.wr.length cw) (.slice pm x.mb.length cm) (.slice pe x.el.length ce)) 27)).alloc (.cells (txc q u v t sl).toArray 34)) 36 #[.int .i64 r.p, .int .i64 r.s, .int .i64 r.i]).alloc (.cells (cvc 0 0 (.slice none 0 0) (.slice none 0 0) (.slice none 0 0) (.slice none 0 0)) 27)); have R3 := (rw_new (((w.alloc (.cells (cvc x.k x.b (.slice pa x.am.length ca') (.slice pw x.wr.length cw) (.slice pm x.mb.length cm) (.slice pe x.el.length ce)) 27)).alloc (.cells (txc q u v t sl).toArray 34)).alloc (.cells #[.int .i64 r.p, .int .i64 r.s, .int .i64 r.i] 36)) 27 (cvc 0 0 (.slice none 0 0) (.slice none 0 0) (.slice none 0 0) (.slice none 0 0))); have hbel := (bel_alloc (bel_alloc (bel_alloc (bel_alloc (Below.refl w.heap.size w) (.cells (cvc x.k x.b (.slice pa x.am.length ca') (.slice pw x.wr.length cw) (.slice pm x.mb.length cm) (.slice pe x.el.length ce)) 27)) (.cells (txc q u v t sl).toArray 34)) (.cells #[.int .i64 r.p, .int .i64 r.s, .int .i64 r.i] 36)) (.cells (cvc 0 0 (.slice none 0 0) (.slice none 0 0) (.slice none 0 0) (.slice none 0 0)) 27))
  have HSZ : Hid (((((w.alloc (.cells (cvc x.k x.b (.slice pa x.am.length ca') (.slice pw x.wr.length cw) (.slice pm x.mb.length cm) (.slice pe x.el.length ce)) 27)).alloc (.cells (txc q u v t sl).toArray 34)).alloc (.cells #[.int .i64 r.p, .int .i64 r.s, .int .i64 r.i] 36)).alloc (.cells (cvc 0 0 (.slice none 0 0) (.slice none 0 0) (.slice none 0 0) (.slice none 0 0)) 27)).heap.size = w.heap.size + 4) := by
    show _ = _
    simp
  generalize hW : ((((w.alloc (.cells (cvc x.k x.b (.slice pa x.am.length ca') (.slice pw x.wr.length cw) (.slice pm x.mb.length cm) (.slice pe x.el.length ce)) 27)).alloc (.cells (txc q u v t sl).toArray 34)).alloc (.cells #[.int .i64 r.p, .int .i64 r.s, .int .i64 r.i] 36)).alloc (.cells (cvc 0 0 (.slice none 0 0) (.slice none 0 0) (.slice none 0 0) (.slice none 0 0)) 27)) = w0 at R0 R1 R2 R3 hbel HSZ; simp only [World.size_alloc] at R0 R1 R2 R3; have zt := size_tx (p := q) (s := u) (t := t) (sl := sl) hv; have C1 := refCheck_any x _ _ _ _ w0 (HF.out.later hbel) hs; obtain ⟨y1, HY1⟩ := hid_ex (ck x); rw [HY1.out] at C1; obtain ⟨z, HZ⟩ := hid_ex (goX x ⟨q, u, idx⟩ (fun y => decide (kM y = kM r))); rw [HZ.out]
  go_enter Tryz.func13, Tryz.ntmps13
  go_wp2_with (first | rw [hW] | refine load_r 27 _ rfl rfl _ rfl R0 Tryz.underlying27 rfl size27 ?_)
  clear hW; refine C1.mono ?_; clear C1; rintro e w1 ⟨rfl, hb1⟩; replace R0 := R0.later hb1; replace R1 := R1.later hb1; replace R2 := R2.later hb1; replace R3 := R3.later hb1; replace hbel := below_on hbel hb1; have hB1 := hb1.size; clear hb1
  cases y1
  case' false =>
    have e0 : z = x := by
      rw [← HZ.out]; unfold goX; rw [if_neg (by rw [HY1.out]; simp)]
    subst e0
    go_wp2_with (first | refine load_r 27 _ rfl rfl _ rfl R0 Tryz.underlying27 rfl size27 ?_ | refine store_r rfl 27 _ _ rfl _ (cvc z.k z.b (.slice pa z.am.length ca') (.slice pw z.wr.length cw) (.slice pm z.mb.length cm) (.slice pe z.el.length ce)) rfl rfl R3 size27 rfl (by simp [Value.oneCell']) ?_)
    refine bodyPost_ret (results_r rfl rfl (R3.row (cvc z.k z.b (.slice pa z.am.length ca') (.slice pw z.wr.length cw) (.slice pm z.mb.length cm) (.slice pe z.el.length ce))) rfl Tryz.underlying27 size27) rfl ?_; exact ⟨_, _, _, _, rfl, (HF.out.later hbel).row R3 _, below_setRow hbel (by omega) _⟩
  case' true =>
    by_cases hid : idx < 1
    case' pos =>
      have hid' : decide (idx < 1) = true := decide_eq_true hid
      have e0 : z = x := by
        rw [← HZ.out]; unfold goX; rw [if_neg (by rw [HY1.out]; simp [im]; omega)]
      subst e0
      go_wp2_with (first | refine load_r 27 _ rfl rfl _ rfl R0 Tryz.underlying27 rfl size27 ?_ | refine store_r rfl 27 _ _ rfl _ (cvc z.k z.b (.slice pa z.am.length ca') (.slice pw z.wr.length cw) (.slice pm z.mb.length cm) (.slice pe z.el.length ce)) rfl rfl R3 size27 rfl (by simp [Value.oneCell']) ?_)
      refine bodyPost_ret (results_r rfl rfl (R3.row (cvc z.k z.b (.slice pa z.am.length ca') (.slice pw z.wr.length cw) (.slice pm z.mb.length cm) (.slice pe z.el.length ce))) rfl Tryz.underlying27 size27) rfl ?_; exact ⟨_, _, _, _, rfl, (HF.out.later hbel).row R3 _, below_setRow hbel (by omega) _⟩
    case' neg =>
      have hid' : decide (idx < 1) = false := decide_eq_false hid
      have him : im idx = true := by simp [im]; omega
      obtain rfl : z = { x with el := x.el.map (gE (fun y => decide (kM y = kM r)) ⟨q, u, idx⟩) } := by
        rw [← HZ.out]; unfold goX; rw [if_pos (by rw [HY1.out, him]; rfl)]
      clear HZ him hid
      have hbB : Hid (w.heap.size + 4 ≤ w1.heap.size) := by
        show _ ≤ _
        rw [← HSZ.out]; exact hB1
      obtain ⟨ys, hys, hse, hy⟩ := HF.out.e
      have hyl : ys.length = x.el.length := by rw [← hys, List.length_map]
      have hl100 := hs.e; have c5 : w1.cell? ⟨w.heap.size, 5, none⟩ = some (.slice pe x.el.length ce) := R0.cell 5; have hbA := bel_alloc (Below.refl w1.heap.size w1) (.cells #[] 60); have oA : (w1.alloc (.cells #[] 60)).ownsRow w1.heap.size 60 9 (.slice (some ⟨w1.heap.size, 0, none⟩) 0 0) 0 [] := ⟨rfl, .inr ⟨w1.heap.size, 0, #[], rfl, Nat.le_refl _, rw_new w1 60 #[], Nat.le_refl _, Nat.zero_le _, rfl, rfl⟩⟩; have hsA : SHas 9 (w1.alloc (.cells #[] 60)) (.slice pe x.el.length ce) x.el.length (rows El.cells ys) := hse.later (below_on hbel hbA); have c5A := cell_later hbA c5; have h1 := El.one hy
      have h2 : 0 + x.el.length ≤ maxLen := by unfold maxLen; omega
      have h3 : (0 + x.el.length) * 96 ≤ 140737488355328 := by omega
      have h4 := hbA.size; generalize hWA : w1.alloc (.cells #[] 60) = wA at hbA oA hsA c5A h4
      go_wp2_with (first | rw [hWA] | (at_builtin; refine wpList_append_sh rfl _ _ 25 rfl w1.heap.size 60 i0 (.agg #[.int .i64 0, .int .i64 0, .int .i64 0, .int .i64 0, .int .i64 0, .int .i64 0, .int .i64 0, .string noS, .slice none 0 0]) 9 96 Tryz.underlying25 hi hz0 hz1 hz2 rfl (by decide) _ 0 [] rfl oA _ x.el.length (rows El.cells ys) rfl hsA h1 h2 h3 h4 ?_))
      intro v1 w2 o2 hg2 hnn0
      replace o2 : w2.ownsRow w1.heap.size 60 9 v1 ys.length (rows El.cells ys) := by
        rw [hyl]
        simpa using o2
      have hb2 := (below_on (Below.refl w1.heap.size w1) hbA).grown hg2 (below_on (Below.refl w1.heap.size w1) hbA).size (fun q' hq => (World.ownsRow.lt oA q' hq).1)
      have hnn : v1 ≠ .slice none 0 0 := by first | exact hnn0 | exact hnn0 (by simp) | simpa using hnn0
      clear hnn0; have HYL : Hid (ys.length = x.el.length) := hyl; clear hWA hbA oA hsA c5A c5 h1 h2 h3 h4 hg2 hyl; obtain ⟨po, co, rfl⟩ := own_sl o2; replace R0 := R0.later hb2; replace R1 := R1.later hb2; replace R2 := R2.later hb2; replace R3 := R3.later hb2; replace hbel := below_on hbel hb2
      have hG0 : ∀ y ∈ ys, Gq w1.heap.size w w2 y := fun y h => Or.inl (hy y h)
      have C2 := place_any _ x.el r w2 ⟨ys, hys, by rw [← HYL.out]; exact own_sh o2, fun y h => (hy y h).later hbel⟩; obtain ⟨z2, HZ2⟩ := hid_ex (plI x.el (kM r)); rw [HZ2.out] at C2
      go_wp2_with (first | refine load_r 36 _ rfl rfl _ rfl R2 Tryz.underlying36 rfl size36 ?_)
      refine C2.mono ?_; clear C2; rintro e wr ⟨rfl, hb3⟩; replace R0 := R0.later hb3; replace R1 := R1.later hb3; replace R3 := R3.later hb3; replace hbel := below_on hbel hb3; have ho := own_later o2 hb3
      replace hG0 : ∀ y ∈ ys, Gq w1.heap.size w wr y := fun y h => (hG0 y h).later hb3
      have hbR := below_on hb2 hb3; clear o2 hb3 hb2 R2
      by_cases hp : 0 ≤ z2
      case' neg =>
        have hp' : decide (0 ≤ z2) = false := decide_eq_false hp
        have hpn : pl x.el (kM r) = none := by
          have := HZ2.out
          unfold plI at this
          cases hq : pl x.el (kM r) with
          | none => rfl
          | some k => rw [hq] at this; exact absurd (this ▸ Int.natCast_nonneg k) hp
        have hes : ys.map (·.1) = x.el.map (gE (fun y => decide (kM y = kM r)) ⟨q, u, idx⟩) := by rw [go_none hpn, hys]
        have es_ : ys = ys := rfl; have hG := hG0; clear hpn HZ2 hG0; have c5 : wr.cell? ⟨w.heap.size, 5, none⟩ = some (.slice pe x.el.length ce) := R0.cell 5; have f5 : wr.frozen? ⟨w.heap.size, 5, none⟩ = false := R0.frozen 5; have Ra : Rw (wr.setCell ⟨w.heap.size, 5, none⟩ (.slice po ys.length co)) w.heap.size 27 (cvc x.k x.b (.slice pa x.am.length ca') (.slice pw x.wr.length cw) (.slice pm x.mb.length cm) (.slice po ys.length co)) := R0.set 5 _; have Rb := R3.setOther (q := w.heap.size) (by omega) 5 (.slice po ys.length co); have oF := own_over ho (b := w.heap.size) (fun k hk => by have := (World.ownsRow.lt ho k hk).1; have := hbB.out; omega) 5 (.slice po ys.length co); have hbF := hbel.setCell (p := ⟨w.heap.size, 5, none⟩) (Nat.le_refl _) (.slice po ys.length co)
        have gF : ∀ y ∈ ys, Gq w1.heap.size w (wr.setCell ⟨w.heap.size, 5, none⟩ (.slice po ys.length co)) y := fun y hy => (hG y hy).cell (by have := hbB.out; omega) 5 (.slice po ys.length co)
        generalize hX : wr.setCell ⟨w.heap.size, 5, none⟩ (.slice po ys.length co) = wF at Ra Rb oF hbF gF
        have HE : Hid (Gives { x with el := x.el.map (gE (fun y => decide (kM y = kM r)) ⟨q, u, idx⟩) } w (.returned (CV x.k x.b (.slice pa x.am.length ca') (.slice pw x.wr.length cw) (.slice pm x.mb.length cm) (.slice po ys.length co))) (wF.setRow (w.heap.size + 3) (cvc x.k x.b (.slice pa x.am.length ca') (.slice pw x.wr.length cw) (.slice pm x.mb.length cm) (.slice po ys.length co)))) := by
          have hb := below_setRow hbF (g := w.heap.size + 3) (by omega) (cvc x.k x.b (.slice pa x.am.length ca') (.slice pw x.wr.length cw) (.slice pm x.mb.length cm) (.slice po ys.length co)); have hnB := hbB.out; refine ⟨_, _, _, _, rfl, ⟨HF.out.a.later hb, HF.out.t.later hb, HF.out.m.later hb, ys, hes, ?_, fun y hy => ((gF y hy).row (by omega) _).has hb⟩, hb⟩; rw [show (x.el.map (gE (fun y => decide (kM y = kM r)) ⟨q, u, idx⟩)).length = ys.length from (List.length_map _).trans HYL.out.symm]; exact own_sh (own_row oF (by omega) _)
        clear oF hbF gF hbel ho hG
        go_wp2_with (first | rw [hX] | refine load_r 27 _ rfl rfl _ rfl Ra Tryz.underlying27 rfl size27 ?_ | refine store_r rfl 27 _ _ rfl _ (cvc x.k x.b (.slice pa x.am.length ca') (.slice pw x.wr.length cw) (.slice pm x.mb.length cm) (.slice po ys.length co)) rfl rfl Rb size27 rfl (by simp [Value.oneCell']) ?_)
        refine bodyPost_ret (results_r rfl rfl (Rb.row (cvc x.k x.b (.slice pa x.am.length ca') (.slice pw x.wr.length cw) (.slice pm x.mb.length cm) (.slice po ys.length co))) rfl Tryz.underlying27 size27) rfl ?_; exact HE.out
      case' pos =>
        have hp' : decide (0 ≤ z2) = true := decide_eq_true hp
        obtain ⟨k, hk, rfl⟩ : ∃ k, pl x.el (kM r) = some k ∧ z2 = (k : Int) := by
          have := HZ2.out
          unfold plI at this
          cases hq : pl x.el (kM r) with
          | none =>
            rw [hq] at this; replace this : (-1 : Int) = z2 := this
            omega
          | some k => rw [hq] at this; exact ⟨k, rfl, this.symm⟩
        obtain ⟨hkl, hset⟩ := go_set (m := ⟨q, u, idx⟩) (ce_up (ck_parts HY1.out).2.2.2.2.2.1) hk
        have hky : k < ys.length := by rw [HYL.out]; exact hkl
        have eyk : ys[k].1 = x.el[k] := by simp only [← hys, List.getElem_map]
        obtain ⟨g, e1, hgB⟩ := own_some ho (by omega); subst e1; have hyk0 := hy ys[k] (List.getElem_mem _); have hmem : x.el[k] ∈ x.el := List.getElem_mem _; have hy100 := hs.ei _ hmem
        have hyca : ca x.el[k].gone = true := by
          have := ce_ie (ck_parts HY1.out).2.2.2.2.2.1 _ hmem
          unfold ie at this; rw [Bool.and_eq_true, Bool.and_eq_true] at this; exact this.2.2
        have dk0 := El.elem (rowsAt ho) k hky; rw [Nat.zero_add] at dk0
        have hkk : (k : Int) < (ys.length : Int) := by omega
        have hk0 : (0 : Int) ≤ (k : Int) := by omega
        obtain ⟨yy, HX⟩ := hid_ex ys[k]; rw [HX.out] at eyk hyk0 dk0; obtain ⟨y, yv⟩ := yy; replace eyk : y = x.el[k] := eyk; rw [← eyk] at hy100 hyca hset; replace hyk0 : MHas w yv y.gone := hyk0; obtain ⟨py, cy, rfl⟩ := hyk0.slice; have hyw := hyk0; have hyk := hyk0.later hbel; have dk : wr.rangeAt g (k * 9) (El.cells (y, .slice py y.gone.length cy)) := dk0; have zk : (Tryz.prog.info? 60).map (·.size) = some (El.cells (y, .slice py y.gone.length cy)).length := size60; have zd : (Tryz.prog.info? 29).map (·.size) = some [Value.int .i64 q, .int .i64 u].length := size29; clear hyk0 dk0 hmem HZ2 hk; have hBr : w1.heap.size ≤ wr.heap.size := hbR.size; go_wp2_with fail
        have hS : Calm.Stays (fun w' => Below wr.heap.size wr w') := fun wa wb h hb => below_on h hb
        have hF : Facts.Stay [pF 0 (eqP (.slice (some ⟨g, 0, none⟩) ys.length co)), pF 1 (eqP (.int .i64 k)), pF 2 (eqP (.slice (some ⟨g, 0, none⟩) ys.length co)), pF 3 (eqP (.int .i64 k)), pF 4 (eqP (.pointer (some ⟨g, k * 9, none⟩))), pF 5 (eqP (.agg (El.cells (y, .slice py y.gone.length cy)).toArray)), pF 6 (eqP (.pointer (some ⟨w.heap.size + 1, 0, none⟩))), pF 7 (eqP (.agg ([Value.int .i64 q, .int .i64 u] : List Value).toArray)), pF 8 (eqP (.int .i64 idx)), pF 9 (eqP (MV q u idx)), pF 10 ((fun (v' : Value) (w' : World) => ∃ u', v' = EV ({ y with gone := wth y.gone ⟨q, u, idx⟩ }, u') ∧ Gq w1.heap.size w w' ({ y with gone := wth y.gone ⟨q, u, idx⟩ }, u'))), pF 11 (eqP (.pointer (some ⟨g, k * 9, none⟩)))] := stay_of (by simp only [List.forall_mem_cons]; exact ⟨⟨_, _, rfl, eqP_keeps _⟩, ⟨_, _, rfl, eqP_keeps _⟩, ⟨_, _, rfl, eqP_keeps _⟩, ⟨_, _, rfl, eqP_keeps _⟩, ⟨_, _, rfl, eqP_keeps _⟩, ⟨_, _, rfl, eqP_keeps _⟩, ⟨_, _, rfl, eqP_keeps _⟩, ⟨_, _, rfl, eqP_keeps _⟩, ⟨_, _, rfl, eqP_keeps _⟩, ⟨_, _, rfl, eqP_keeps _⟩, ⟨_, _, rfl, (fun _ _ _ ⟨g, e, h⟩ hb => ⟨g, e, h.later hb⟩)⟩, ⟨_, _, rfl, eqP_keeps _⟩, fun _ h => by cases h⟩); refine Facts.regionTail (by kernel_rfl) (by kernel_rfl) 12 (by decide) (by kernel_rfl) (fun w' => Below wr.heap.size wr w') (fun xv => { tmps := #[CV x.k x.b (Value.slice pa x.am.length ca') (Value.slice pw x.wr.length cw) (Value.slice pm x.mb.length cm) (Value.slice pe x.el.length ce), TxV q u v t sl, Value.int IntKind.i64 idx, MV r.p r.s r.i, Value.pointer (some { block := w.heap.size, off := 0 }), Value.pointer (some { block := w.heap.size + 1, off := 0 }), undef, Value.pointer (some { block := w.heap.size + 1 + 1, off := 0 }), Value.pointer (some { block := w.heap.size + 1 + 1 + 1, off := 0 }), Value.slice (some { block := g, off := 0 }) ys.length co, Value.int IntKind.i64 ↑k, Value.agg (cvc x.k x.b (Value.slice pa x.am.length ca') (Value.slice pw x.wr.length cw) (Value.slice pm x.mb.length cm) (Value.slice pe x.el.length ce)), Value.bool true, Value.bool false, Value.bool false, Value.int IntKind.i64 idx, Value.bool false, Value.bool false, undef, Value.slice (some { block := w1.heap.size, off := 0 }) 0 0, Value.pointer (some { block := w.heap.size, off := 5 }), Value.slice pe x.el.length ce, Value.slice (some { block := g, off := 0 }) ys.length co, Value.slice (some { block := g, off := 0 }) ys.length co, Value.agg #[Value.int IntKind.i64 r.p, Value.int IntKind.i64 r.s, Value.int IntKind.i64 r.i], Value.int IntKind.i64 ↑k, Value.int IntKind.i64 ↑k, Value.bool true, xv 0, xv 1, xv 2, xv 3, xv 4, xv 5, xv 6, xv 7, xv 8, xv 9, xv 10, xv 11, undef, undef, undef], defers := [] }) [pF 0 (eqP (.slice (some ⟨g, 0, none⟩) ys.length co)), pF 1 (eqP (.int .i64 k)), pF 2 (eqP (.slice (some ⟨g, 0, none⟩) ys.length co)), pF 3 (eqP (.int .i64 k)), pF 4 (eqP (.pointer (some ⟨g, k * 9, none⟩))), pF 5 (eqP (.agg (El.cells (y, .slice py y.gone.length cy)).toArray)), pF 6 (eqP (.pointer (some ⟨w.heap.size + 1, 0, none⟩))), pF 7 (eqP (.agg ([Value.int .i64 q, .int .i64 u] : List Value).toArray)), pF 8 (eqP (.int .i64 idx)), pF 9 (eqP (MV q u idx)), pF 10 ((fun (v' : Value) (w' : World) => ∃ u', v' = EV ({ y with gone := wth y.gone ⟨q, u, idx⟩ }, u') ∧ Gq w1.heap.size w w' ({ y with gone := wth y.gone ⟨q, u, idx⟩ }, u'))), pF 11 (eqP (.pointer (some ⟨g, k * 9, none⟩)))] _ rfl rfl (by kernel_rfl) (fun j => [undef, undef, undef, undef, undef, undef, undef, undef, undef, undef, undef, undef].getD j undef) rfl (Below.refl _ wr).drew ⟨?_, ?_, ?_, ?_, ?_, ?_, ?_, ?_, ?_, ?_, ?_, ?_, ?_, trivial⟩ ?_
        · exact fun _ => Facts.pureP hS hF (fun _ _ => rfl) rfl (fun xv wv hSw hd => by
            go_simp)
        · exact fun _ => Facts.pureP hS hF (fun _ _ => rfl) rfl (fun xv wv hSw hd => by
            go_simp)
        · exact fun _ => Facts.pureP hS hF (fun _ _ => rfl) rfl (fun xv wv hSw hd => by
            go_simp)
        · exact fun _ => Facts.pureP hS hF (fun _ _ => rfl) rfl (fun xv wv hSw hd => by
            go_simp)
        · exact fun _ => Facts.pureP hS hF (fun _ _ => rfl) rfl (fun xv wv hSw hd => by
            have d2 : xv 2 = _ := pF_get (hd ⟨2, .data⟩ (by simp) rfl _ rfl); have d3 : xv 3 = _ := pF_get (hd ⟨3, .data⟩ (by simp) rfl _ rfl); simp only [d2, d3]
            go_simp)
        · exact fun _ => Facts.loadP hS hF (fun _ _ => rfl) 60 Tryz.underlying60 rfl zk _ rfl rfl (fun xv wv hSw hd => by have d4 : xv 4 = _ := pF_get (hd ⟨4, .data⟩ (by simp) rfl _ rfl); exact d4) (fun wv hSw => range_later dk hSw)
        · exact fun _ => Facts.pureP hS hF (fun _ _ => rfl) rfl (fun xv wv hSw hd => by
            go_simp)
        · exact fun _ => Facts.loadP hS hF (fun _ _ => rfl) 29 Tryz.underlying29 rfl zd _ rfl rfl (fun xv wv hSw hd => by have d6 : xv 6 = _ := pF_get (hd ⟨6, .data⟩ (by simp) rfl _ rfl); exact d6) (fun wv hSw => tx_dot (R1.later hSw))
        · exact fun _ => Facts.pureP hS hF (fun _ _ => rfl) rfl (fun xv wv hSw hd => by
            go_simp)
        · exact fun _ => Facts.pureP hS hF (fun _ _ => rfl) rfl (fun xv wv hSw hd => by
            have d7 : xv 7 = _ := pF_get (hd ⟨7, .data⟩ (by simp) rfl _ rfl); have d8 : xv 8 = _ := pF_get (hd ⟨8, .data⟩ (by simp) rfl _ rfl); simp only [d7, d8]
            go_simp)
        · refine fun _ => Facts.call2P hS hF (fun _ _ => rfl) rfl (by kernel_rfl) rfl (fun xv wv hSw hd => ?_)
          have d5 : xv 5 = _ := pF_get (hd ⟨5, .data⟩ (by simp) rfl _ rfl); have d9 : xv 9 = _ := pF_get (hd ⟨9, .data⟩ (by simp) rfl _ rfl)
          show Calls Tryz.prog 40 #[xv 5, xv 9] wv _
          rw [d5, d9]; refine (gone_any y (.slice py y.gone.length cy) ⟨q, u, idx⟩ wv (hyk.later hSw) hy100 hyca).mono ?_; rintro e w' ⟨u', he, hu', hb⟩; refine ⟨_, he, ⟨u', rfl, ?_⟩, hb⟩
          rcases hu' with ⟨e1, e2⟩ | ho
          · exact Or.inl (by show MHas w u' (wth y.gone ⟨q, u, idx⟩); rw [e1, e2]; exact hyw)
          · exact Or.inr (own_mono ho (Nat.le_trans hBr hSw.size))
        · exact fun _ => Facts.pureP hS hF (fun _ _ => rfl) rfl (fun xv wv hSw hd => by
            have d0 : xv 0 = _ := pF_get (hd ⟨0, .data⟩ (by simp) rfl _ rfl); have d1 : xv 1 = _ := pF_get (hd ⟨1, .data⟩ (by simp) rfl _ rfl); simp only [d0, d1]
            go_simp)
        · exact fun h => absurd h (by decide)
        intro xr w6 hb5 hff; obtain ⟨u', e10, hG⟩ := pF_get (hff 10 _ rfl); have e11 : xr 11 = _ := pF_get (hff 11 _ rfl); clear hff hS hF; have ho6 := own_later ho hb5; have hst := run_storeAt_mid (P := Tryz.prog) w6 g (k * 9) 60 (El.cells ({ y with gone := wth y.gone ⟨q, u, idx⟩ }, u')).toArray (there_own ho6 (by rw [rows_length El.len]; show k * 9 + 9 ≤ _; omega)) size60 (all_oneCell_toArray (one_el (hG.has (below_on hbel hb5)))); refine tail_store 60 _ _ rfl g (k * 9) e11 e10 hst ?_; refine Facts.tailWp_nil ?_; simp only [Act.put]
        have hgne : w.heap.size ≠ g := by have := hbB.out; omega
        have hgn3 : w.heap.size + 3 ≠ g := by have := hbB.out; omega
        have oN := own_put El.len ho6 hky ({ y with gone := wth y.gone ⟨q, u, idx⟩ }, u'); replace R0 := rw_setCells (R0.later hb5) hgne (El.cells ({ y with gone := wth y.gone ⟨q, u, idx⟩ }, u')) (k * 9); replace R3 := rw_setCells (R3.later hb5) hgn3 (El.cells ({ y with gone := wth y.gone ⟨q, u, idx⟩ }, u')) (k * 9); have hbN := bel_setCells (below_on hbel hb5) (show w.heap.size ≤ g by have := hbB.out; omega) (El.cells ({ y with gone := wth y.gone ⟨q, u, idx⟩ }, u')) (k * 9)
        have hGN : ∀ a ∈ ys.set k ({ y with gone := wth y.gone ⟨q, u, idx⟩ }, u'), Gq w1.heap.size w (w6.setCells g (k * 9) (El.cells ({ y with gone := wth y.gone ⟨q, u, idx⟩ }, u'))) a := fun a ha => by
          rcases List.mem_or_eq_of_mem_set ha with h | h
          · exact ((hG0 a h).later hb5).put ho6 _ _
          · subst h
            exact hG.put ho6 _ _
        have hes : (ys.set k ({ y with gone := wth y.gone ⟨q, u, idx⟩ }, u')).map (·.1) = x.el.map (gE (fun y => decide (kM y = kM r)) ⟨q, u, idx⟩) := by
          rw [List.map_set, hys, hset]
        clear hG hG0 ho ho6 hbel hst hb5 dk hset HX e10 e11; generalize w6.setCells g (k * 9) (El.cells ({ y with gone := wth y.gone ⟨q, u, idx⟩ }, u')) = wN at R0 R3 oN hbN hGN ⊢; obtain ⟨es, HES⟩ := hid_ex (ys.set k ({ y with gone := wth y.gone ⟨q, u, idx⟩ }, u')); rw [HES.out] at hes oN hGN; have ho := oN; have hbel := hbN; have hG := hGN; clear oN hbN hGN HES; obtain ⟨wr2, HWR⟩ := hid_ex wN; rw [HWR.out] at R0 R3 ho hbel hG ⊢; clear HWR; have c5 : wr2.cell? ⟨w.heap.size, 5, none⟩ = some (.slice pe x.el.length ce) := R0.cell 5; have f5 : wr2.frozen? ⟨w.heap.size, 5, none⟩ = false := R0.frozen 5; have Ra : Rw (wr2.setCell ⟨w.heap.size, 5, none⟩ (.slice (some ⟨g, 0, none⟩) ys.length co)) w.heap.size 27 (cvc x.k x.b (.slice pa x.am.length ca') (.slice pw x.wr.length cw) (.slice pm x.mb.length cm) (.slice (some ⟨g, 0, none⟩) ys.length co)) := R0.set 5 _; have Rb := R3.setOther (q := w.heap.size) (by omega) 5 (.slice (some ⟨g, 0, none⟩) ys.length co); have oF := own_over ho (b := w.heap.size) (fun k hk => by have := (World.ownsRow.lt ho k hk).1; have := hbB.out; omega) 5 (.slice (some ⟨g, 0, none⟩) ys.length co); have hbF := hbel.setCell (p := ⟨w.heap.size, 5, none⟩) (Nat.le_refl _) (.slice (some ⟨g, 0, none⟩) ys.length co)
        have gF : ∀ y ∈ es, Gq w1.heap.size w (wr2.setCell ⟨w.heap.size, 5, none⟩ (.slice (some ⟨g, 0, none⟩) ys.length co)) y := fun y hy => (hG y hy).cell (by have := hbB.out; omega) 5 (.slice (some ⟨g, 0, none⟩) ys.length co)
        generalize hX : wr2.setCell ⟨w.heap.size, 5, none⟩ (.slice (some ⟨g, 0, none⟩) ys.length co) = wF at Ra Rb oF hbF gF
        have HE : Hid (Gives { x with el := x.el.map (gE (fun y => decide (kM y = kM r)) ⟨q, u, idx⟩) } w (.returned (CV x.k x.b (.slice pa x.am.length ca') (.slice pw x.wr.length cw) (.slice pm x.mb.length cm) (.slice (some ⟨g, 0, none⟩) ys.length co))) (wF.setRow (w.heap.size + 3) (cvc x.k x.b (.slice pa x.am.length ca') (.slice pw x.wr.length cw) (.slice pm x.mb.length cm) (.slice (some ⟨g, 0, none⟩) ys.length co)))) := by
          have hb := below_setRow hbF (g := w.heap.size + 3) (by omega) (cvc x.k x.b (.slice pa x.am.length ca') (.slice pw x.wr.length cw) (.slice pm x.mb.length cm) (.slice (some ⟨g, 0, none⟩) ys.length co)); have hnB := hbB.out; refine ⟨_, _, _, _, rfl, ⟨HF.out.a.later hb, HF.out.t.later hb, HF.out.m.later hb, es, hes, ?_, fun y hy => ((gF y hy).row (by omega) _).has hb⟩, hb⟩; rw [show (x.el.map (gE (fun y => decide (kM y = kM r)) ⟨q, u, idx⟩)).length = ys.length from (List.length_map _).trans HYL.out.symm]; exact own_sh (own_row oF (by omega) _)
        clear oF hbF gF hbel ho hG
        go_wp2_with (first | rw [hX] | refine load_r 27 _ rfl rfl _ rfl Ra Tryz.underlying27 rfl size27 ?_ | refine store_r rfl 27 _ _ rfl _ (cvc x.k x.b (.slice pa x.am.length ca') (.slice pw x.wr.length cw) (.slice pm x.mb.length cm) (.slice (some ⟨g, 0, none⟩) ys.length co)) rfl rfl Rb size27 rfl (by simp [Value.oneCell']) ?_)
        refine bodyPost_ret (results_r rfl rfl (Rb.row (cvc x.k x.b (.slice pa x.am.length ca') (.slice pw x.wr.length cw) (.slice pm x.mb.length cm) (.slice (some ⟨g, 0, none⟩) ys.length co))) rfl Tryz.underlying27 size27) rfl ?_; exact HE.out
end Go.Proofs.YtfjpbmdmkcihcaaGreat
/- The laws of the lists: what is removed is not there, all others are, in their order; an insertion behind what it has seen be gone is nothing. -/
namespace Go.Proofs.YtfjpbmdmkcihcaaGreat
open Go.RowKit

theorem ie_nz {e : El} (h : ie e = true) : kE e ≠ zK := by
  intro hc; unfold ie at h; rw [Bool.and_eq_true] at h; have h1 := h.1; have h2 : e.i = 0 := congrArg (fun a : K => a.2.2) hc; rw [h2] at h1
  simp [im] at h1
end Go.Proofs.YtfjpbmdmkcihcaaGreat
/- ahead of the document's side: of two with one Ref, the later one first. -/
namespace Go.Proofs.YtfjpbmdmkcihcaaGreat
open Go.RowKit

/-- The later one first. -/
def lE (a b : El) : Bool := decide (b.t < a.t) || (decide (b.t = a.t) && kl (kE b) (kE a))
theorem lE_ne {a b : El} (h : ¬ a.t = b.t) : lE a b = decide (b.t < a.t) := by
  unfold lE; rw [decide_eq_false (p := b.t = a.t) (fun e => h e.symm), Bool.false_and, Bool.or_false]
theorem lE_eq {a b : El} (h : a.t = b.t) : lE a b = kl (kE b) (kE a) := by
  unfold lE; rw [decide_eq_true h.symm, decide_eq_false (by omega), Bool.true_and, Bool.false_or]
theorem el_mark {w : World} {b : Nat} {y : El × Value} (h : Rw w b 60 (El.cells y).toArray) : w.rangeAt b 0 [.int .i64 y.1.p, .int .i64 y.1.s, .int .i64 y.1.i] := h.range 0 _ fun j u hu => by
  rw [Nat.zero_add]
  match j with
  | 0 => simpa using hu
  | 1 => simpa using hu
  | 2 => simpa using hu
  | j + 3 => simp at hu
set_option maxHeartbeats 2000000 in
set_option maxRecDepth 100000 in
theorem ahead_any (a b : El × Value) (w : World) : Calls Tryz.prog 84 #[EV a, EV b] w (Tells (.bool (lE a.1 b.1)) w) := by
  obtain ⟨R0, R1, hbel⟩ := two_rows w (El.cells a).toArray 60 (El.cells b).toArray 60; generalize hW : (w.alloc (.cells (El.cells a).toArray 60)).alloc (.cells (El.cells b).toArray 60) = w0 at R0 R1 hbel; have ca : w0.cell? ⟨w.heap.size, 3, none⟩ = some (.int .i64 a.1.t) := R0.cell 3; have cb : w0.cell? ⟨w.heap.size + 1, 3, none⟩ = some (.int .i64 b.1.t) := R1.cell 3; have ma := el_mark R0; have mb := el_mark R1; have za : (Tryz.prog.info? 36).map (·.size) = some [Value.int .i64 a.1.p, .int .i64 a.1.s, .int .i64 a.1.i].length := size36; have zb : (Tryz.prog.info? 36).map (·.size) = some [Value.int .i64 b.1.p, .int .i64 b.1.s, .int .i64 b.1.i].length := size36
  by_cases ht : a.1.t = b.1.t
  · rw [lE_eq ht]
    have C1 : ∀ w, Calls Tryz.prog 28 #[MV b.1.p b.1.s b.1.i, MV a.1.p a.1.s a.1.i] w (Tells (.bool (kl (kE b.1) (kE a.1))) w) := fun w => refLess_any _ _ _ _ _ _ w
    generalize kl (kE b.1) (kE a.1) = z at C1 ⊢
    have ht' : (a.1.t != b.1.t) = false := by simp [ht]
    clear ht
    go_enter Tryz.func84, Tryz.ntmps84
    go_wp2_with (first | rw [hW] | refine load_m 36 _ rfl rfl _ _ rfl ma Tryz.underlying36 rfl za ?_ | refine load_m 36 _ rfl rfl _ _ rfl mb Tryz.underlying36 rfl zb ?_)
    refine (C1 _).mono ?_; rintro e w1 ⟨rfl, hb1⟩; go_wp2_with fail; go_ret; exact ⟨rfl, below_on hbel hb1⟩
  · rw [lE_ne ht]
    have ht' : (a.1.t != b.1.t) = true := by simpa using ht
    obtain ⟨z, HZ⟩ := hid_ex (decide (b.1.t < a.1.t)); rw [HZ.out]; have hz := HZ.out; clear ht
    go_enter Tryz.func84, Tryz.ntmps84
    go_wp2_with (first | rw [hW])
    go_ret; exact ⟨rfl, hbel⟩
end Go.Proofs.YtfjpbmdmkcihcaaGreat
/- Elements by their marks: their order, whatever their places. Lists alone. -/
namespace Go.Proofs.YtfjpbmdmkcihcaaGreat
open Go.RowKit

/-- All elements, in their order. -/
def oE (l : List El) : List El := ord kE rE lE l (l.length + 1) zK
/-- What may be, by marks. -/
structure Tre (l : List El) : Prop where
  up : l.Pairwise (fun a b => kl (kE a) (kE b) = true)
  nz : ∀ e ∈ l, kE e ≠ zK
  rt : Rooted kE rE zK l
  rk : ∃ R : K → Nat, Rk kE rE R l
theorem Tre.inj {l : List El} (h : Tre l) : ∀ a ∈ l, ∀ b ∈ l, kE a = kE b → a = b := fun a ha b hb e => by
  obtain ⟨i, hi, rfl⟩ := List.getElem_of_mem ha; obtain ⟨j, hj, rfl⟩ := List.getElem_of_mem hb; obtain rfl := up_inj h.up hi hj e
  rfl
theorem upNodup {l : List El} (h : l.Pairwise (fun a b => kl (kE a) (kE b) = true)) : l.Nodup := h.imp_of_mem (fun _ _ hk e => by
  rw [e, kl_irr] at hk
  cases hk)
/-- Which one stands behind which. -/
theorem up_iff {l : List El} (h : Tre l) {i j : Nat} (hi : i < l.length) (hj : j < l.length) : upL l (i + 1) = j + 1 ↔ rE l[i] = kE l[j] := by
  rw [upL_succ hi]
  constructor
  · intro e
    by_cases hz : rE l[i] = zK
    · rw [if_pos hz] at e
      omega
    · rw [if_neg hz] at e
      cases hp : pl l (rE l[i]) with
      | none => rw [hp] at e; simp at e
      | some k =>
        rw [hp] at e
        obtain rfl : k = j := by simpa using e
        exact (pl_some hp).2.symm
  · intro e
    rw [if_neg (by rw [e]; exact h.nz _ (List.getElem_mem _)), e, pl_at h.up hj]
theorem up_none {l : List El} (h : Tre l) {i : Nat} (hi : i < l.length) : upL l (i + 1) = 0 ↔ rE l[i] = zK := by
  rw [upL_succ hi]
  constructor
  · intro e
    by_cases hz : rE l[i] = zK
    · exact hz
    · rw [if_neg hz] at e
      cases hp : pl l (rE l[i]) with
      | some k => rw [hp] at e; simp at e
      | none =>
        rcases h.rt l[i] (List.getElem_mem _) with k | ⟨p, hp2, k⟩
        · exact k
        · exact absurd k (pl_none.1 hp p hp2)
  · intro e
    rw [if_pos e]
/-- What may be, may be. -/
theorem tre_of {l : List El} (hc : ce l = true) (hr : cr l = true) : Tre l where
  up := ce_up hc
  nz := fun e he => ie_nz (ce_ie hc e he)
  rt := fun e he => by
    rcases okR_iff.1 (cr_parts hr).1 e he with k | ⟨j, k⟩
    · exact Or.inl k
    · obtain ⟨hj, k⟩ := pl_some k
      exact Or.inr ⟨l[j], List.getElem_mem _, k⟩
  rk := by
    refine ⟨fun m => match pl l m with | some j => dp (upL l) l.length (j + 1) | none => 0, fun e he => ?_⟩; obtain ⟨k, hk, rfl⟩ := List.getElem_of_mem he; have h1 := rk_plc hr (k + 1) (plc_mem.2 ⟨by omega, by omega⟩); rw [upL_succ hk] at h1
    show (match pl l (kE l[k]) with | some j => dp (upL l) l.length (j + 1) | none => 0) = (match pl l (rE l[k]) with | some j => dp (upL l) l.length (j + 1) | none => 0) + 1
    rw [pl_at (ce_up hc) hk]
    show dp (upL l) l.length (k + 1) = _
    rw [h1]
    have hz : dp (upL l) l.length 0 = 0 := by
      cases l.length with
      | zero => rfl
      | succ n => simp [dp]
    rcases okR_iff.1 (cr_parts hr).1 l[k] (List.getElem_mem _) with e | ⟨j, e⟩
    · rw [if_pos e, hz]
      have : pl l (rE l[k]) = none := by
        rw [e]; exact pl_none.2 (fun a ha => ie_nz (ce_ie hc a ha))
      rw [this]
    · by_cases hz' : rE l[k] = zK
      · obtain ⟨hj, e'⟩ := pl_some e
        exact absurd (e'.trans hz') (ie_nz (ce_ie hc l[j] (List.getElem_mem _)))
      · rw [if_neg hz', e]
theorem cr_of {l : List El} (h : Tre l) : cr l = true := by
  obtain ⟨R, hR⟩ := h.rk; unfold cr; rw [Bool.and_eq_true]; refine ⟨okR_iff.2 (fun e he => ?_), noR_iff.2 (fun k hk => ?_)⟩
  · rcases h.rt e he with k | ⟨p, hp, k⟩
    · exact Or.inl k
    · obtain ⟨j, hj, rfl⟩ := List.getElem_of_mem hp
      exact Or.inr ⟨j, by rw [← k]; exact pl_at h.up hj⟩
  · refine rt_of_rank (f := upL l) (n := l.length) (fun k => match k with | 0 => 0 | k + 1 => match l[k]? with | some e => R (kE e) | none => 0) (fun k _ => upL_le l k) (fun k hk hk0 => ?_) _ k hk (Nat.le_refl _)
    obtain ⟨i, rfl⟩ : ∃ i, k = i + 1 := ⟨k - 1, by omega⟩
    have hi : i < l.length := by omega
    have hr := hR l[i] (List.getElem_mem _)
    cases e : upL l (i + 1) with
    | zero =>
      show 0 < (match l[i]? with | some e => R (kE e) | none => 0)
      rw [List.getElem?_eq_getElem hi]
      show 0 < R (kE l[i])
      omega
    | succ j =>
      have hj : j < l.length := by
        have := upL_le l (i + 1)
        omega
      have e2 := (up_iff h hi hj).1 e
      show (match l[j]? with | some e => R (kE e) | none => 0) < (match l[i]? with | some e => R (kE e) | none => 0)
      rw [List.getElem?_eq_getElem hi, List.getElem?_eq_getElem hj]
      show R (kE l[j]) < R (kE l[i])
      rw [← e2]
      omega
theorem Tre.bd {l : List El} (h : Tre l) : ∃ R : K → Nat, Rk kE rE R l ∧ ∀ e ∈ l, R (kE e) ≤ l.length := by
  have hr := cr_of h
  have hz : dp (upL l) l.length 0 = 0 := by
    cases l.length with
    | zero => rfl
    | succ n => simp [dp]
  refine ⟨fun m => match pl l m with | some j => dp (upL l) l.length (j + 1) | none => 0, fun e he => ?_, fun e he => ?_⟩
  · obtain ⟨k, hk, rfl⟩ := List.getElem_of_mem he
    have h1 := rk_plc hr (k + 1) (plc_mem.2 ⟨by omega, by omega⟩); rw [upL_succ hk] at h1
    show (match pl l (kE l[k]) with | some j => dp (upL l) l.length (j + 1) | none => 0) = (match pl l (rE l[k]) with | some j => dp (upL l) l.length (j + 1) | none => 0) + 1
    rw [pl_at h.up hk]
    show dp (upL l) l.length (k + 1) = _
    rw [h1]
    rcases okR_iff.1 (cr_parts hr).1 l[k] (List.getElem_mem _) with e | ⟨j, e⟩
    · rw [if_pos e, hz]
      have : pl l (rE l[k]) = none := by
        rw [e]; exact pl_none.2 h.nz
      rw [this]
    · by_cases hz' : rE l[k] = zK
      · obtain ⟨hj, e'⟩ := pl_some e
        exact absurd (e'.trans hz') (h.nz l[j] (List.getElem_mem _))
      · rw [if_neg hz', e]
  · show (match pl l (kE e) with | some j => dp (upL l) l.length (j + 1) | none => 0) ≤ l.length
    split
    · exact dp_le _ _ _
    · omega
theorem klTot {l : List El} (h : ∀ a ∈ l, ∀ b ∈ l, kE a = kE b → a = b) : Tot (fun a b => kl (kE a) (kE b)) l where
  irr := fun a _ => kl_irr _
  trans := fun a _ b _ c _ h1 h2 => by
    rw [kl_iff] at h1 h2 ⊢
    omega
  tot := fun a ha b hb hne => by
    rw [kl_iff, kl_iff]
    have h1 : ¬ (kE a = kE b) := fun e => hne (h a ha b hb e)
    have h2 : ¬ ((kE a).1 = (kE b).1 ∧ (kE a).2.1 = (kE b).2.1 ∧ (kE a).2.2 = (kE b).2.2) := fun e => h1 (k_ext e.1 e.2.1 e.2.2)
    omega
theorem lE_iff {a b : El} : lE a b = true ↔ b.t < a.t ∨ (b.t = a.t ∧ kl (kE b) (kE a) = true) := by
  simp [lE]
theorem lE_tot {l : List El} (h : ∀ a ∈ l, ∀ b ∈ l, kE a = kE b → a = b) : Tot lE l where
  irr := fun a _ => by
    rw [Bool.eq_false_iff, ne_eq, lE_iff, kl_irr]
    simp
  trans := fun a ha b hb c hc h1 h2 => by
    rw [lE_iff] at h1 h2 ⊢; have h3 := (klTot h).trans c hc b hb a ha
    rcases h1 with h1 | h1 <;> rcases h2 with h2 | h2
    · exact Or.inl (by omega)
    · exact Or.inl (by omega)
    · exact Or.inl (by omega)
    · exact Or.inr ⟨by omega, h3 h2.2 h1.2⟩
  tot := fun a ha b hb hne => by
    rw [lE_iff, lE_iff]; have h3 := (klTot h).tot a ha b hb hne
    rcases Int.lt_trichotomy a.t b.t with k | k | k
    · exact Or.inr (Or.inl k)
    · rcases h3 with h3 | h3
      · exact Or.inr (Or.inr ⟨k, h3⟩)
      · exact Or.inl (Or.inr ⟨k.symm, h3⟩)
    · exact Or.inl (Or.inl k)
/-- The element of a place. -/
def gL (l : List El) (k : Nat) : El := (l[k - 1]?).getD ⟨0, 0, 0, 0, 0, 0, 0, noS, []⟩
def ky (l : List El) (p : Nat) : K := if p = 0 then zK else kE (gL l p)
theorem gL_succ {l : List El} {k : Nat} (hk : k < l.length) : gL l (k + 1) = l[k] := by simp [gL, List.getElem?_eq_getElem hk]
theorem tm_gL (l : List El) (k : Nat) : tmL l k = (gL l k).t := by
  unfold tmL gL
  cases l[k - 1]? with
  | none => rfl
  | some e => rfl
theorem plc_gL (l : List El) : (plc l.length).map (gL l) = l := by
  apply List.ext_getElem
  · simp [plc_len]
  · intro i h1 h2
    simp only [plc, List.getElem_map, List.getElem_range]; exact gL_succ h2
section
variable {E F : Type} {ah : E → E → Bool} {bh : F → F → Bool}
theorem insS_map' (g : E → F) (x : E) : ∀ l : List E, (∀ b ∈ l, bh (g x) (g b) = ah x b) → insS bh (g x) (l.map g) = (insS ah x l).map g
  | [], _ => rfl
  | y :: t, h => by
    simp only [List.map_cons, insS, h y (by simp)]
    split
    · rfl
    · rw [insS_map' g x t (fun b hb => h b (by simp [hb]))]
      rfl
theorem srtA_map' (g : E → F) : ∀ (l a : List E), (∀ x ∈ a ++ l, ∀ y ∈ a ++ l, bh (g x) (g y) = ah x y) → (l.map g).foldl (fun a x => insS bh x a) (a.map g) = (l.foldl (fun a x => insS ah x a) a).map g
  | [], _, _ => rfl
  | x :: t, a, h => by
    simp only [List.map_cons, List.foldl_cons]; rw [insS_map' g x a (fun b hb => h x (by simp) b (by simp [hb]))]; refine srtA_map' g t _ (fun y hy z hz => h y ?_ z ?_)
    · rw [List.mem_append, (insS_perm ah x a).mem_iff, List.mem_cons] at hy
      simp only [List.mem_append, List.mem_cons]
      rcases hy with (rfl | k) | k <;> simp_all
    · rw [List.mem_append, (insS_perm ah x a).mem_iff, List.mem_cons] at hz
      simp only [List.mem_append, List.mem_cons]
      rcases hz with (rfl | k) | k <;> simp_all
theorem srt_map' (g : E → F) (l : List E) (h : ∀ x ∈ l, ∀ y ∈ l, bh (g x) (g y) = ah x y) : srt bh (l.map g) = (srt ah l).map g := srtA_map' g l [] (by simpa using h)
end
theorem lat_gL {l : List El} (h : Tre l) {a b : Nat} (ha : a ∈ plc l.length) (hb : b ∈ plc l.length) : lE (gL l a) (gL l b) = lat l a b := by
  rw [plc_mem] at ha hb; obtain ⟨i, rfl⟩ : ∃ i, a = i + 1 := ⟨a - 1, by omega⟩; obtain ⟨j, rfl⟩ : ∃ j, b = j + 1 := ⟨b - 1, by omega⟩; unfold lE lat; rw [tm_gL, tm_gL]
  congr 2
  rw [gL_succ (by omega), gL_succ (by omega)]; have h1 := List.pairwise_iff_getElem.1 h.up
  rcases Nat.lt_trichotomy j i with k | k | k
  · rw [h1 j i (by omega) (by omega) k, decide_eq_true (by omega)]
  · subst k
    rw [kl_irr, decide_eq_false (by omega)]
  · have h2 := h1 i j (by omega) (by omega) k
    rw [decide_eq_false (by omega), Bool.eq_false_iff]; intro h3; rw [kl_iff] at h2 h3
    omega
theorem up_ky {l : List El} (h : Tre l) {a p : Nat} (ha : a ∈ plc l.length) (hp : p ≤ l.length) : rE (gL l a) = ky l p ↔ upL l a = p := by
  rw [plc_mem] at ha; obtain ⟨i, rfl⟩ : ∃ i, a = i + 1 := ⟨a - 1, by omega⟩; rw [gL_succ (by omega)]
  cases p with
  | zero => exact (up_none h (by omega)).symm
  | succ j =>
    unfold ky; rw [if_neg (by omega), gL_succ (by omega)]; exact (up_iff h (by omega) (by omega)).symm
theorem kids_gL {l : List El} (h : Tre l) {p : Nat} (hp : p ≤ l.length) : kids rE lE l (ky l p) = (kids (upL l) (lat l) (plc l.length) p).map (gL l) := by
  unfold kids
  have e : l.filter (fun e => decide (rE e = ky l p)) = ((plc l.length).filter (fun a => decide (upL l a = p))).map (gL l) := by
    conv => lhs; rw [← plc_gL l]
    rw [List.filter_map]
    congr 1
    refine List.filter_congr (fun a ha => ?_); simp only [Function.comp, plc_gL]; rw [Bool.eq_iff_iff, decide_eq_true_iff, decide_eq_true_iff]; exact up_ky h ha hp
  rw [e]; refine srt_map' (gL l) _ (fun x hx y hy => lat_gL h (List.mem_filter.1 hx).1 (List.mem_filter.1 hy).1)
theorem ord_gL {l : List El} (h : Tre l) : ∀ (f p : Nat), p ≤ l.length → (ord id (upL l) (lat l) (plc l.length) f p).map (gL l) = ord kE rE lE l f (ky l p)
  | 0, _, _ => rfl
  | f + 1, p, hp => by
    unfold ord; rw [kids_gL h hp, List.map_flatMap, List.flatMap_map]; refine flat_congr (fun c hc => ?_); have hc' := plc_mem.1 (kids_mem.1 hc).1; rw [List.map_cons]; have e := ord_gL h f c hc'.2; unfold ky at e; rw [if_neg hc'.1] at e; rw [← e]
    rfl
theorem prE_eq {l : List El} (h : Tre l) : prE l = (oE l).filter nog := by
  have e := ord_gL h (l.length + 1) 0 (Nat.zero_le _)
  have hm : ∀ k ∈ odP l 0, k ∈ plc l.length := fun k hk => (od_perm (cr_of h)).mem_iff.1 hk
  unfold oE; have hz : ky l 0 = zK := rfl; rw [← hz, ← e]
  show prL nog l (odP l 0) = ((odP l 0).map (gL l)).filter nog
  generalize odP l 0 = ks at hm
  induction ks with
  | nil => rfl
  | cons k ks ih =>
    have hk := plc_mem.1 (hm k (by simp)); obtain ⟨i, rfl⟩ : ∃ i, k = i + 1 := ⟨k - 1, by omega⟩; have ih := ih (fun a ha => hm a (by simp [ha])); unfold prL at ih ⊢; rw [List.filterMap_cons, List.map_cons, List.filter_cons, ← ih, gL_succ (by omega)]
    have : l[i + 1 - 1]? = some l[i] := List.getElem?_eq_getElem (by omega)
    rw [this]; simp only [Option.bind_some]
    cases nog l[i] <;> simp
theorem oE_perm {l : List El} (h : Tre l) : (oE l).Perm l := by
  obtain ⟨R, hR, hB⟩ := h.bd; exact ord_perm (upNodup h.up) hR h.inj h.rt (fun e he => Nat.le_succ_of_le (hB e he))
theorem oE_fuel {l : List El} (h : Tre l) {f : Nat} (hf : l.length ≤ f) : ord kE rE lE l f zK = oE l := by
  obtain ⟨R, hR, hB⟩ := h.bd; exact ord_fuel hR hB (by omega) (by omega)
theorem tre_filter {l : List El} (h : Tre l) {p : El → Bool} (hd : ∀ e ∈ l, ∀ c ∈ l, kE c = rE e → p c = false → p e = false) : Tre (l.filter p) where
  up := h.up.sublist List.filter_sublist
  nz := fun e he => h.nz e (List.mem_filter.1 he).1
  rt := fun e he => by
    obtain ⟨h1, h2⟩ := List.mem_filter.1 he
    rcases h.rt e h1 with k | ⟨c, hc, k⟩
    · exact Or.inl k
    · refine Or.inr ⟨c, List.mem_filter.2 ⟨hc, ?_⟩, k⟩
      cases hp : p c with
      | true => rfl
      | false => rw [hd e h1 c hc k hp] at h2; cases h2
  rk := by
    obtain ⟨R, hR⟩ := h.rk; exact ⟨R, hR.sub (fun a ha => (List.mem_filter.1 ha).1)⟩
theorem oE_filter {l : List El} (h : Tre l) {p : El → Bool} (hd : ∀ e ∈ l, ∀ c ∈ l, kE c = rE e → p c = false → p e = false) : oE (l.filter p) = (oE l).filter p := by
  rw [← oE_fuel (tre_filter h hd) (f := l.length + 1) (Nat.le_succ_of_le (List.length_filter_le _ _))]; exact (ord_filter (fun m => (lE_tot h.inj).sub (fun a ha => (List.mem_filter.1 ha).1)) (upNodup h.up) hd _ _).symm
/-- One more. -/
theorem ins_mem {e y : El} {l : List El} : y ∈ insE e l ↔ y = e ∨ y ∈ l := by
  unfold insE; rw [List.mem_append, List.mem_cons, List.mem_filter, List.mem_filter]
  constructor
  · rintro (h | h | h)
    · exact Or.inr h.1
    · exact Or.inl h
    · exact Or.inr h.1
  · rintro (h | h)
    · exact Or.inr (Or.inl h)
    · by_cases hk : kl (kE y) (kE e) = true
      · exact Or.inl ⟨h, hk⟩
      · exact Or.inr (Or.inr ⟨h, by simpa using hk⟩)
theorem ins_up {e : El} {l : List El} (h : l.Pairwise (fun a b => kl (kE a) (kE b) = true)) (hn : ∀ y ∈ l, kE y ≠ kE e) : (insE e l).Pairwise (fun a b => kl (kE a) (kE b) = true) := by
  unfold insE
  have gt : ∀ y ∈ l, kl (kE y) (kE e) = false → kl (kE e) (kE y) = true := fun y hy hk => by
    have h1 : ¬ ((kE y).1 = (kE e).1 ∧ (kE y).2.1 = (kE e).2.1 ∧ (kE y).2.2 = (kE e).2.2) := fun h => hn y hy (k_ext h.1 h.2.1 h.2.2)
    have h2 : ¬ kl (kE y) (kE e) = true := by rw [hk]; simp
    rw [kl_iff] at h2 ⊢
    omega
  rw [List.pairwise_append]; refine ⟨h.sublist List.filter_sublist, List.pairwise_cons.2 ⟨fun y hy => ?_, h.sublist List.filter_sublist⟩, fun a ha b hb => ?_⟩
  · obtain ⟨h1, h2⟩ := List.mem_filter.1 hy
    exact gt y h1 (by simpa using h2)
  · obtain ⟨h1, h2⟩ := List.mem_filter.1 ha
    rcases List.mem_cons.1 hb with rfl | hb
    · exact h2
    · obtain ⟨h3, h4⟩ := List.mem_filter.1 hb
      have h5 := gt b h3 (by simpa using h4); rw [kl_iff] at h2 h5 ⊢
      omega
theorem sorted_mem {a b : List El} (ha : a.Pairwise (fun a b => kl (kE a) (kE b) = true)) (hb : b.Pairwise (fun a b => kl (kE a) (kE b) = true)) (h : ∀ x, x ∈ a ↔ x ∈ b) : a = b := by
  refine sorted_one (ah := fun a b => kl (kE a) (kE b)) (klTot (fun x hx y hy e => ?_)) (perm_of_mem (upNodup ha) (upNodup hb) h) ha hb
  obtain ⟨i, hi, rfl⟩ := List.getElem_of_mem hx; obtain ⟨j, hj, rfl⟩ := List.getElem_of_mem hy; obtain rfl := up_inj ha hi hj e
  rfl
theorem tre_ins {e : El} {l : List El} (h : Tre l) (hz : kE e ≠ zK) (hn : ∀ y ∈ l, kE y ≠ kE e) (hr : rE e = zK ∨ ∃ p ∈ l, kE p = rE e) : Tre (insE e l) where
  up := ins_up h.up hn
  nz := fun y hy => by
    rcases ins_mem.1 hy with rfl | hy
    · exact hz
    · exact h.nz y hy
  rt := fun y hy => by
    rcases ins_mem.1 hy with rfl | hy
    · rcases hr with k | ⟨p, hp, k⟩
      · exact Or.inl k
      · exact Or.inr ⟨p, ins_mem.2 (Or.inr hp), k⟩
    · rcases h.rt y hy with k | ⟨p, hp, k⟩
      · exact Or.inl k
      · exact Or.inr ⟨p, ins_mem.2 (Or.inr hp), k⟩
  rk := by
    obtain ⟨R, hR⟩ := h.rk
    have nr : ∀ y, (rE y = zK ∨ ∃ p ∈ l, kE p = rE y) → rE y ≠ kE e := fun y hy hc => by
      rcases hy with k | ⟨p, hp, k⟩
      · exact hz (by rw [← hc, k])
      · exact hn p hp (k.trans hc)
    refine ⟨fun k => if k = kE e then R (rE e) + 1 else R k, fun y hy => ?_⟩
    show (if kE y = kE e then _ else _) = (if rE y = kE e then _ else _) + 1
    rcases ins_mem.1 hy with rfl | hy
    · rw [if_pos rfl, if_neg (nr y hr)]
    · rw [if_neg (hn y hy), if_neg (nr y (h.rt y hy))]
      exact hR y hy
theorem ins_back {e : El} {l : List El} (h : l.Pairwise (fun a b => kl (kE a) (kE b) = true)) (hn : ∀ y ∈ l, kE y ≠ kE e) : (insE e l).filter (fun y => decide (kE y ≠ kE e)) = l := by
  refine sorted_mem ((ins_up h hn).sublist List.filter_sublist) h (fun x => ?_); rw [List.mem_filter, ins_mem]
  constructor
  · rintro ⟨rfl | h1, h2⟩
    · simp at h2
    · exact h1
  · intro h1
    exact ⟨Or.inr h1, by simpa using hn x h1⟩
theorem ins_comm {a b : El} {l : List El} (h : l.Pairwise (fun a b => kl (kE a) (kE b) = true)) (ha : ∀ y ∈ l, kE y ≠ kE a) (hb : ∀ y ∈ l, kE y ≠ kE b) (hab : kE a ≠ kE b) : insE a (insE b l) = insE b (insE a l) := by
  refine sorted_mem (ins_up (ins_up h hb) (fun y hy => ?_)) (ins_up (ins_up h ha) (fun y hy => ?_)) (fun x => ?_)
  · rcases ins_mem.1 hy with rfl | hy
    · exact hab.symm
    · exact ha y hy
  · rcases ins_mem.1 hy with rfl | hy
    · exact hab
    · exact hb y hy
  · rw [ins_mem, ins_mem, ins_mem, ins_mem]
    constructor <;> (rintro (h | h | h) <;> simp [h])
theorem ck_ins {x : X} {e : El} {p : M → Bool} (h : ck x = true) : ck (insX x e p) = true := by
  unfold insX
  split
  · rename_i hh
    rw [Bool.and_eq_true, Bool.and_eq_true, Bool.and_eq_true] at hh; obtain ⟨_, h2, h3, h4⟩ := hh; have h' := h; obtain ⟨k1, k2, k3, k4, k5, k6, k7⟩ := ck_parts h; have T := tre_of k6 k7
    have hn : ∀ y ∈ x.el, kE y ≠ kE e := by
      cases hp : pl x.el (kE e) with
      | none => exact pl_none.1 hp
      | some j => rw [hp] at h4; cases h4
    have T2 := tre_ins T (ie_nz h2) hn (by
      unfold tk at h3; rw [Bool.or_eq_true, decide_eq_true_iff] at h3
      rcases h3 with h3 | h3
      · exact Or.inl h3
      · split at h3
        · rename_i a ha
          exact Or.inr ⟨a, List.mem_of_find?_eq_some ha, by simpa using List.find?_some ha⟩
        · cases h3)
    unfold ck; simp only [Bool.and_eq_true, decide_eq_true_eq]; refine ⟨k1, k2, by omega, ce_of (fun y hy => ?_) T2.up, cr_of T2⟩
    rcases ins_mem.1 hy with rfl | hy
    · exact h2
    · exact ce_ie k6 y hy
  · exact h
theorem tre_ck {x : X} (h : ck x = true) : Tre x.el := tre_of (ck_parts h).2.2.2.2.2.1 (ck_parts h).2.2.2.2.2.2
/-- What is read, and what the order is. -/
theorem rdT_oE {x : X} (h : ck x = true) : rdT x = ((oE x.el).filter nog).map tE := by
  unfold rdT; rw [if_pos h, prE_eq (tre_ck h)]
theorem orX_oE {x : X} (h : ck x = true) : orX x = ((oE x.el).filter nog).map mE := by
  unfold orX; rw [if_pos h, prE_eq (tre_ck h)]
end Go.Proofs.YtfjpbmdmkcihcaaGreat
/- Folding changes nothing that is read, nor what is read behind an insertion. Lists alone. -/
namespace Go.Proofs.YtfjpbmdmkcihcaaGreat
open Go.RowKit

theorem stay_filter {g : Nat → Bool} {q : El → Bool} : ∀ (k : Nat) (l : List El), (∀ i (h : i < l.length), q l[i] = !g (k + i + 1)) → stay g k l = l.filter q
  | _, [], _ => rfl
  | k, a :: t, h => by
    unfold stay; have h0 := h 0 (by simp); simp only [List.getElem_cons_zero, Nat.add_zero] at h0
    have ih := stay_filter (k + 1) t (q := q) (g := g) (fun i hi => by
      have := h (i + 1) (by simpa using hi)
      simp only [List.getElem_cons_succ] at this
      rw [this, show k + (i + 1) + 1 = k + 1 + i + 1 by omega])
    rw [List.filter_cons, h0, ih]
    cases g (k + 1) <;> rfl
/-- What goes, by places. -/
def gFx (l : List El) (p : M → Bool) : Nat → Bool := gF (upL l) l.length (stL l p) (l.length + 1)
/-- Does it stay? -/
def qF (l : List El) (p : M → Bool) (e : El) : Bool := !gFx l p ((pl l (kE e)).getD 0 + 1)
theorem qF_at {l : List El} (h : Tre l) (p : M → Bool) {i : Nat} (hi : i < l.length) : qF l p l[i] = !gFx l p (i + 1) := by
  unfold qF; rw [pl_at h.up hi]
  rfl
theorem fdE_filter {l : List El} (h : Tre l) (p : M → Bool) : fdE l p = l.filter (qF l p) :=
  stay_filter 0 l (fun i hi => by rw [qF_at h p hi, Nat.zero_add]; rfl)
theorem gFx_fix {l : List El} (h : Tre l) (p : M → Bool) : Fix (upL l) l.length (stL l p) (gFx l p) := gF_fix (fun k _ => upL_le l k) (upL_zero l) (cr_parts (cr_of h)).2
theorem qF_shut {l : List El} (h : Tre l) (p : M → Bool) : ∀ e ∈ l, ∀ c ∈ l, kE c = rE e → qF l p c = false → qF l p e = false := fun e he c hc hk hq => by
  obtain ⟨i, hi, rfl⟩ := List.getElem_of_mem he; obtain ⟨j, hj, rfl⟩ := List.getElem_of_mem hc; rw [qF_at h p hj, Bool.not_eq_false'] at hq; rw [qF_at h p hi, Bool.not_eq_false']; exact ((gFx_fix h p (j + 1) (by omega) (by omega)).1 hq).2 (i + 1) (by omega) (by omega) ((up_iff h hi hj).2 hk.symm)
theorem qF_nog {l : List El} (h : Tre l) (p : M → Bool) {e : El} (he : e ∈ l) (hn : nog e = true) : qF l p e = true := by
  obtain ⟨i, hi, rfl⟩ := List.getElem_of_mem he; rw [qF_at h p hi, Bool.not_eq_true']
  cases hg : gFx l p (i + 1) with
  | false => rfl
  | true =>
    have h1 := ((gFx_fix h p (i + 1) (by omega) (by omega)).1 hg).1; rw [stL_succ hi] at h1; unfold nog at hn; rw [decide_eq_true_iff, List.length_eq_zero_iff] at hn; rw [hn] at h1
    cases h1
theorem filter_both {p q : El → Bool} {l : List El} (h : ∀ e ∈ l, p e = true → q e = true) : (l.filter q).filter p = l.filter p := by
  rw [List.filter_filter]; refine List.filter_congr (fun e he => ?_)
  cases hp : p e with
  | false => rfl
  | true => rw [h e he hp]; rfl
theorem tre_fd {l : List El} (h : Tre l) (p : M → Bool) : Tre (fdE l p) := by
  rw [fdE_filter h p]; exact tre_filter h (qF_shut h p)
theorem oE_fd {l : List El} (h : Tre l) (p : M → Bool) : (oE (fdE l p)).filter nog = (oE l).filter nog := by
  rw [fdE_filter h p, oE_filter h (qF_shut h p)]; exact filter_both (fun e he hn => qF_nog h p ((oE_perm h).mem_iff.1 he) hn)
/-- What is folded is folded. -/
theorem fd_fd {l : List El} (h : Tre l) (p : M → Bool) : fdE (fdE l p) p = fdE l p := by
  have T := tre_fd h p
  rw [← fd_stay (cr_of T) (g := fun _ => false)]
  · have : ∀ (k : Nat) (l : List El), stay (fun _ => false) k l = l := by
      intro k l
      induction l generalizing k with
      | nil => rfl
      | cons a t ih => simp [stay, ih]
    exact this 0 _
  · intro a a1 a2
    refine Iff.intro (fun hc => by cases hc) ?_; rintro ⟨h1, h2⟩
    exfalso
    obtain ⟨i, rfl⟩ : ∃ i, a = i + 1 := ⟨a - 1, by omega⟩
    have hi : i < (fdE l p).length := by omega
    have hm : (fdE l p)[i] ∈ l.filter (qF l p) := by
      rw [← fdE_filter h p]; exact List.getElem_mem _
    obtain ⟨m1, m2⟩ := List.mem_filter.1 hm; rw [stL_succ hi] at h1; obtain ⟨j, hj, e⟩ := List.getElem_of_mem m1; rw [← e, qF_at h p hj, Bool.not_eq_true'] at m2; have hf := gFx_fix h p (j + 1) (by omega) (by omega)
    have : ¬ gFx l p (j + 1) = true := by rw [m2]; simp
    rw [hf] at this
    apply this
    refine ⟨by rw [stL_succ hj, e]; exact h1, fun c c1 c2 hc => ?_⟩; obtain ⟨k, rfl⟩ : ∃ k, c = k + 1 := ⟨c - 1, by omega⟩
    have hk : k < l.length := by omega
    have hr := (up_iff h hk hj).1 hc
    cases hg : gFx l p (k + 1) with
    | true => rfl
    | false =>
      have hq : qF l p l[k] = true := by rw [qF_at h p hk, hg]; rfl
      have hm2 : l[k] ∈ fdE l p := by
        rw [fdE_filter h p]; exact List.mem_filter.2 ⟨List.getElem_mem _, hq⟩
      obtain ⟨m, hm3, e2⟩ := List.getElem_of_mem hm2
      have := h2 (m + 1) (by omega) (by omega) ((up_iff T hm3 hi).2 (by rw [e2, hr, e]))
      cases this
theorem ck_fd {x : X} (h : ck x = true) (p : M → Bool) : ck (fdX x p) = true := by
  have T := tre_fd (tre_ck h) p; obtain ⟨k1, k2, k3, k4, k5, k6, k7⟩ := ck_parts h; unfold fdX; rw [if_pos h]; unfold ck; simp only [Bool.and_eq_true, decide_eq_true_eq]; refine ⟨k1, k2, by omega, ce_of (fun y hy => ce_ie k6 y ?_) T.up, cr_of T⟩; exact (stay_sub _ _ _).mem hy
theorem el_fd {x : X} (h : ck x = true) (p : M → Bool) : (fdX x p).el = fdE x.el p := by
  unfold fdX; rw [if_pos h]
theorem fdX_fdX {x : X} (h : ck x = true) (p : M → Bool) : fdX (fdX x p) p = fdX x p := by
  have h2 := ck_fd h p
  have e : fdX (fdX x p) p = { fdX x p with el := fdE (fdX x p).el p } := by
    rw [fdX, if_pos h2]
  rw [e, el_fd h p, fd_fd (tre_ck h) p]
  conv => rhs; rw [fdX, if_pos h]
  rw [fdX, if_pos h]
theorem rdT_fd {x : X} (h : ck x = true) (p : M → Bool) : rdT (fdX x p) = rdT x := by
  rw [rdT_oE (ck_fd h p), rdT_oE h, el_fd h p, oE_fd (tre_ck h) p]
theorem orX_fd {x : X} (h : ck x = true) (p : M → Bool) : orX (fdX x p) = orX x := by
  rw [orX_oE (ck_fd h p), orX_oE h, el_fd h p, oE_fd (tre_ck h) p]
/-- One that stands behind what is there, or behind nothing, is put in. -/
theorem tk_nog {l : List El} (h : Tre l) {r : K} {p : M → Bool} (hr : r = zK ∨ ∃ a ∈ l, nog a = true ∧ kE a = r) : tk l r p = true := by
  unfold tk; rw [Bool.or_eq_true]
  rcases hr with k | ⟨a, ha, hn, k⟩
  · exact Or.inl (decide_eq_true k)
  · right
    cases hf : l.find? (fun e => decide (kE e = r)) with
    | none =>
      have := List.find?_eq_none.1 hf a ha
      simp [k] at this
    | some b =>
      have hb := List.mem_of_find?_eq_some hf
      have hk : kE b = r := by simpa using List.find?_some hf
      obtain rfl := h.inj b hb a ha (hk.trans k.symm); unfold nog at hn; rw [decide_eq_true_iff, List.length_eq_zero_iff] at hn
      simp [hn]
theorem el_ins {x : X} {e : El} {p : M → Bool} (h : ck x = true) (he : ie e = true) (hn : ∀ y ∈ x.el, kE y ≠ kE e) (hr : rE e = zK ∨ ∃ a ∈ x.el, nog a = true ∧ kE a = rE e) : insX x e p = { x with el := insE e x.el } := by
  unfold insX; rw [if_pos]; rw [h, he, tk_nog (tre_ck h) hr, pl_none.2 hn]
  rfl
theorem rdT_fd_ins {x : X} (h : ck x = true) (p : M → Bool) {e : El} {p' : M → Bool} (he : ie e = true) (hn : ∀ y ∈ x.el, kE y ≠ kE e) (hr : rE e = zK ∨ ∃ a ∈ x.el, nog a = true ∧ kE a = rE e) : rdT (insX (fdX x p) e p') = rdT (insX x e p') := by
  have T := tre_ck h; have hf := ck_fd h p; have T2 := tre_fd T p
  have hm : ∀ y ∈ fdE x.el p, y ∈ x.el := fun y hy => (stay_sub _ _ _).mem hy
  have i1 := el_ins (p := p') h he hn hr
  have i2 := el_ins (p := p') (e := e) hf he (fun y hy => by rw [el_fd h p] at hy; exact hn y (hm y hy)) (by
    rw [el_fd h p]
    rcases hr with k | ⟨a, ha, hna, k⟩
    · exact Or.inl k
    · exact Or.inr ⟨a, by rw [fdE_filter T p]; exact List.mem_filter.2 ⟨ha, qF_nog T p ha hna⟩, hna, k⟩)
  rw [rdT_oE (ck_ins hf), rdT_oE (ck_ins h), i1, i2]
  show ((oE (insE e (fdX x p).el)).filter nog).map tE = ((oE (insE e x.el)).filter nog).map tE
  rw [el_fd h p]
  have T3 := tre_ins T (ie_nz he) hn (by
    rcases hr with k | ⟨a, ha, _, k⟩
    · exact Or.inl k
    · exact Or.inr ⟨a, ha, k⟩)
  let q : El → Bool := fun y => decide (kE y = kE e) || qF x.el p y
  have e1 : insE e (fdE x.el p) = (insE e x.el).filter q := by
    refine sorted_mem (ins_up T2.up (fun y hy => hn y (hm y hy))) (T3.up.sublist List.filter_sublist) (fun y => ?_); rw [List.mem_filter, ins_mem, ins_mem, fdE_filter T p, List.mem_filter]
    constructor
    · rintro (rfl | ⟨h1, h2⟩)
      · exact ⟨Or.inl rfl, by simp [q]⟩
      · exact ⟨Or.inr h1, by simp [q, h2]⟩
    · rintro ⟨rfl | h1, h2⟩
      · exact Or.inl rfl
      · refine Or.inr ⟨h1, ?_⟩
        simp only [q, Bool.or_eq_true, decide_eq_true_iff] at h2; exact h2.resolve_left (hn y h1)
  have hd : ∀ y ∈ insE e x.el, ∀ c ∈ insE e x.el, kE c = rE y → q c = false → q y = false := fun y hy c hc hk hq => by
    simp only [q, Bool.or_eq_false_iff, decide_eq_false_iff_not] at hq; have hc' : c ∈ x.el := (ins_mem.1 hc).resolve_left (fun e' => hq.1 (by rw [e']))
    rcases ins_mem.1 hy with rfl | hy
    · exfalso
      rcases hr with k | ⟨a, ha, hna, k⟩
      · exact T.nz c hc' (hk.trans k)
      · obtain rfl := T.inj a ha c hc' (k.trans hk.symm)
        rw [qF_nog T p ha hna] at hq; exact absurd hq.2 (by simp)
    · simp only [q, Bool.or_eq_false_iff, decide_eq_false_iff_not]
      exact ⟨hn y hy, qF_shut T p y hy c hc' hk hq.2⟩
  rw [e1, oE_filter T3 hd, filter_both (fun y hy hny => ?_)]; simp only [q, Bool.or_eq_true, decide_eq_true_iff]
  rcases ins_mem.1 ((oE_perm T3).mem_iff.1 hy) with rfl | k
  · exact Or.inl rfl
  · exact Or.inr (qF_nog T p k hny)
end Go.Proofs.YtfjpbmdmkcihcaaGreat
/- Folding round by round, as the document does, comes to the same. Lists alone. -/
namespace Go.Proofs.YtfjpbmdmkcihcaaGreat
open Go.RowKit

/-- Does an element go: it is gone by what the cut has, and none stands behind it? -/
def lsE (l : List El) (p : M → Bool) (e : El) : Bool := e.gone.any p && !l.any (fun c => decide (rE c = kE e))
def stp1 (l : List El) (p : M → Bool) : List El := l.filter (fun e => !lsE l p e)
/-- So many rounds. -/
def sN (l : List El) (p : M → Bool) : Nat → List El
  | 0 => l
  | k + 1 => stp1 (sN l p k) p
theorem sN_sub (l : List El) (p : M → Bool) : ∀ k, (sN l p k).Sublist l
  | 0 => List.Sublist.refl _
  | k + 1 => List.filter_sublist.trans (sN_sub l p k)
theorem sN_keep {l : List El} (h : Tre l) (p : M → Bool) : ∀ k, ∀ e ∈ l, qF l p e = true → e ∈ sN l p k
  | 0, _, he, _ => he
  | k + 1, e, he, hq => by
    have h0 := sN_keep h p k e he hq; refine List.mem_filter.2 ⟨h0, ?_⟩; rw [Bool.not_eq_true']; unfold lsE; obtain ⟨i, hi, rfl⟩ := List.getElem_of_mem he; rw [qF_at h p hi, Bool.not_eq_true'] at hq; have hf := gFx_fix h p (i + 1) (by omega) (by omega)
    have hn : ¬ gFx l p (i + 1) = true := by rw [hq]; simp
    rw [hf, stL_succ hi] at hn
    cases hs : l[i].gone.any p with
    | false => rfl
    | true =>
      rw [hs] at hn; rw [Bool.true_and, Bool.not_eq_false', List.any_eq_true]
      have : ∃ c, 1 ≤ c ∧ c ≤ l.length ∧ upL l c = i + 1 ∧ gFx l p c = false := by
        apply Classical.byContradiction
        intro hc; refine hn ⟨rfl, fun c c1 c2 e => ?_⟩
        cases hg : gFx l p c with
        | true => rfl
        | false => exact absurd ⟨c, c1, c2, e, hg⟩ hc
      obtain ⟨c, c1, c2, e, hg⟩ := this; obtain ⟨j, rfl⟩ : ∃ j, c = j + 1 := ⟨c - 1, by omega⟩
      have hj : j < l.length := by omega
      have hr := (up_iff h hj hi).1 e; refine ⟨l[j], sN_keep h p k l[j] (List.getElem_mem _) (by rw [qF_at h p hj, hg]; rfl), decide_eq_true hr⟩
theorem sN_deep {l : List El} (h : Tre l) (p : M → Bool) {R : K → Nat} (hR : Rk kE rE R l) {B : Nat} (hB : ∀ e ∈ l, R (kE e) ≤ B) : ∀ k, ∀ e ∈ sN l p k, qF l p e = false → R (kE e) + k ≤ B
  | 0, e, he, _ => hB e he
  | k + 1, e, he, hq => by
    obtain ⟨h1, h2⟩ := List.mem_filter.1 he; have hl := (sN_sub l p k).mem h1; obtain ⟨i, hi, rfl⟩ := List.getElem_of_mem hl; rw [qF_at h p hi, Bool.not_eq_false'] at hq; have hf := (gFx_fix h p (i + 1) (by omega) (by omega)).1 hq; rw [stL_succ hi] at hf; rw [Bool.not_eq_true'] at h2; unfold lsE at h2; rw [hf.1, Bool.true_and, Bool.not_eq_false', List.any_eq_true] at h2; obtain ⟨c, hc, e⟩ := h2; have e := of_decide_eq_true e; have hcl := (sN_sub l p k).mem hc; obtain ⟨j, hj, rfl⟩ := List.getElem_of_mem hcl; have hg := hf.2 (j + 1) (by omega) (by omega) ((up_iff h hj hi).2 e); have h3 := sN_deep h p hR hB k l[j] hc (by rw [qF_at h p hj, hg]; rfl); have h4 := hR l[j] hcl; rw [e] at h4
    omega
theorem fd_sN {l : List El} (h : Tre l) (p : M → Bool) : sN l p (l.length + 1) = fdE l p := by
  obtain ⟨R, hR, hB⟩ := h.bd; rw [fdE_filter h p]; refine sorted_mem (h.up.sublist (sN_sub l p _)) (h.up.sublist List.filter_sublist) (fun e => ?_); rw [List.mem_filter]
  constructor
  · intro he
    refine ⟨(sN_sub l p _).mem he, ?_⟩
    cases hq : qF l p e with
    | true => rfl
    | false =>
      have := sN_deep h p hR hB _ e he hq
      omega
  · rintro ⟨he, hq⟩
    exact sN_keep h p _ e he hq
end Go.Proofs.YtfjpbmdmkcihcaaGreat
