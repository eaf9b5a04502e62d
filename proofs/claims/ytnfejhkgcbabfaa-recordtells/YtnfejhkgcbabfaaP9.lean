import Derived.Test.YtnfejhkgcbabfaaP8
import Derived.RangeFuncBound
/- The program's Scan. -/
namespace Go.Proofs.Ytnfejhkgcbabfaa
open Go.RowKit

theorem records_any (p : Option Addr) (n c : Nat) (w : World) : Calls Try.prog 18 #[.slice p n c] w (Leaves (.func (.func 24) #[] #[.pointer (some ⟨w.heap.size, 0, none⟩)]) (w.alloc (.cells #[.slice p n c] 23))) := by
  have hmf : ∀ (fn : Fn) (first cap : Array Value) (w : World), (Instr.makeFunc fn first cap).run Try.prog w = .ok (.func fn first cap) w := fun _ _ _ _ => rfl
  go_enter Try.func18, Try.ntmps18
  go_wp2
  go_ret
  exact ⟨rfl, rfl⟩
/-- Rows that lie high, their bytes too, stay as they are where nothing high is written. -/
theorem OwnB.low {w w' : World} {B : Nat} {v : Value} {ys : List (List UInt8 × Value)} {off : Nat → Prop} (h : OwnB w B v ys off) (hoff : ∀ b, b < B → off b) (hk : ∀ b, B ≤ b → w'.heap[b]? = w.heap[b]?) : OwnB w' B v ys off := by
  refine ⟨?_, fun y hy => ?_, h.f⟩
  · obtain ⟨h1, h2⟩ := h.r
    refine ⟨h1, ?_⟩
    rcases h2 with h2 | ⟨g, cap, cur, e, hbg, hg, r⟩
    · exact .inl h2
    · exact .inr ⟨g, cap, cur, e, hbg, (hk g hbg).trans hg, r⟩
  · obtain ⟨hm, hl, h3 | ⟨ad, c, e, hc, hd⟩⟩ := h.o y hy
    · exact ⟨hm, hl, .inl h3⟩
    · refine ⟨hm, hl, .inr ⟨ad, c, e, hc, fun h0 => ?_⟩⟩
      obtain ⟨g, o, rfl, hr⟩ := hd h0
      refine ⟨g, o, rfl, range_same hr (hk g ?_)⟩
      rcases Nat.lt_or_ge g B with hlt | hge
      · exact absurd rfl (h.f y hy g (.inr (hoff g hlt)) _ _ _ e h0)
      · exact hge
/-- Between two rounds. -/
structure SJ (w : World) (v : Value) (D L : Nat) (o : Obj) (pre : List (List UInt8)) (a : Nat) (W : World) : Prop where
  d : ∃ p n c, ∃ ys : List (List UInt8 × Value), Rw W w.heap.size 22 #[.slice p n c] ∧ OwnB W (L + 1) (.slice p n c) ys (fun q => q < L + 1) ∧ ys.map (·.1) = pre
  p : Rw W (w.heap.size + 1) 3 #[.int .i64 a]
  bb : Rw W (w.heap.size + 2) 23 #[v]
  r : W.heap[L]? = some o
  k : W.heap[D]? = some (.deferred (some []))
  b : Below w.heap.size w W
  n : pre.length * 8 ≤ a
theorem SJ.later {w W W' : World} {v : Value} {D L : Nat} {o : Obj} {pre : List (List UInt8)} {a : Nat} (h : SJ w v D L o pre a W) (hb : Below W.heap.size W W') : SJ w v D L o pre a W' := by
  obtain ⟨p, n, c, ys, h1, h2, h3⟩ := h.d
  have hk : ∀ {b : Nat} {x : Obj}, W.heap[b]? = some x → W'.heap[b]? = some x := fun {b x} hx => (hb.block b (Array.getElem?_eq_some_iff.1 hx).1).trans hx
  exact ⟨⟨p, n, c, ys, h1.later hb, h2.later hb, h3⟩, h.p.later hb, h.bb.later hb, hk h.r, hk h.k, h.b.trans (hb.mono h.b.size), h.n⟩
/-- The loop's own record is put. -/
theorem SJ.put {w W : World} {v : Value} {D L : Nat} {o o' : Obj} {pre : List (List UInt8)} {a : Nat} (h : SJ w v D L o pre a W) (hD : w.heap.size + 2 < D) (hL : D < L) : SJ w v D L o' pre a (W.putObj L o') := by
  obtain ⟨p, n, c, ys, h1, h2, h3⟩ := h.d
  have hk : ∀ {b : Nat} {x : Obj}, b < L → W.heap[b]? = some x → (W.putObj L o').heap[b]? = some x := fun {b x} hb hx => (World.putObj_heap_other (by omega)).trans hx
  refine ⟨⟨p, n, c, ys, hk (by omega) h1, h2.low (fun _ h => h) fun b hb => World.putObj_heap_other (by omega), h3⟩, hk (by omega) h.p, hk (by omega) h.bb, World.putObj_heap_same (Array.getElem?_eq_some_iff.1 h.r).1, hk hL h.k, ?_, h.n⟩
  exact h.b.trans ⟨rfl, rfl, rfl, by simp, fun b hb => World.putObj_heap_other (by omega)⟩
/-- A round: the row is longer, and both boxes are stored. -/
theorem SJ.step {w W W' : World} {v : Value} {D L : Nat} {o : Obj} {pre pre' : List (List UInt8)} {a a' : Nat} {row : Option Nat} {p' : Option Addr} {n' c' : Nat} {ys' : List (List UInt8 × Value)} (h : SJ w v D L o pre a W) (hD : w.heap.size + 2 < D) (hL : D < L) (hg : W.grownBy W' row) (hrow : ∀ k, row = some k → L + 1 ≤ k) (hO : OwnB W' (L + 1) (.slice p' n' c') ys' (fun q => q < L + 1)) (he : ys'.map (·.1) = pre') (hn : pre'.length * 8 ≤ a') : SJ w v D L o pre' a' ((W'.setCell ⟨w.heap.size, 0, none⟩ (.slice p' n' c')).setCell ⟨w.heap.size + 1, 0, none⟩ (.int .i64 a')) := by
  obtain ⟨p, n, c, ys, h1, h2, h3⟩ := h.d
  have hs := h.r
  have hlt : L < W.heap.size := (Array.getElem?_eq_some_iff.1 hs).1
  have k0 : ∀ {b : Nat}, b ≤ L → W'.heap[b]? = W.heap[b]? := fun {b} hb => hg.block b (by omega) fun e => by
    have := hrow b e.symm
    omega
  have k1 : ∀ {b : Nat}, b ≠ w.heap.size → b ≠ w.heap.size + 1 → ((W'.setCell ⟨w.heap.size, 0, none⟩ (.slice p' n' c')).setCell ⟨w.heap.size + 1, 0, none⟩ (.int .i64 a')).heap[b]? = W'.heap[b]? := fun {b} hb hb' => (Below.heap_setCell _ _ _ _ hb').trans (Below.heap_setCell _ _ _ _ hb)
  have r1 : Rw W' w.heap.size 22 #[.slice p n c] := (k0 (by omega)).trans h1
  have r2 : Rw W' (w.heap.size + 1) 3 #[.int .i64 a] := (k0 (by omega)).trans h.p
  have hb0 : Below w.heap.size w W' := h.b.grown hg h.b.size fun k e => by have := hrow k e; omega
  exact ⟨⟨p', n', c', ys', (r1.set 0 _).setOther (by omega) _ _, hO.low (fun _ h => h) fun b hb => k1 (by omega) (by omega), he⟩, (r2.setOther (by omega) _ _).set 0 _, (k1 (by omega) (by omega)).trans ((k0 (by omega)).trans h.bb), (k1 (by omega) (by omega)).trans ((k0 (by omega)).trans h.r), (k1 (by omega) (by omega)).trans ((k0 (by omega)).trans h.k), (hb0.setCell (Nat.le_refl _) _).setCell (Nat.le_succ _) _, hn⟩
theorem OwnB.slice {w : World} {B : Nat} {v : Value} {ys : List (List UInt8 × Value)} {off : Nat → Prop} (h : OwnB w B v ys off) : ∃ p n c, v = .slice p n c := by
  obtain ⟨p, c, e⟩ := own_sl h.r
  exact ⟨p, _, c, e⟩
theorem wp_normal {c : Code} {Q : Exit → Act → World → Prop} {a : Act} {w : World} (h : c.wp Try.prog (Round.endPost fun a w => Q .normal a w) a w) : c.wp Try.prog Q a w := Code.wp_mono (fun e a w h => by
  cases e with
  | normal => exact h
  | _ => exact h.elim) h
set_option maxHeartbeats 4000000 in
set_option maxRecDepth 100000 in
theorem pScan_any (v : Value) (b : List UInt8) (w : World) (hV : DB w v b) (hb : b.length ≤ 700000) : Calls Try.prog 10 #[v] w (ScPost (scanR b) w) := by
  obtain ⟨p, c, rfl⟩ := SHas.slice hV
  refine (callsIn_wide (n := 1)).1 (callsIn_of_wp_marks Try.func10 rfl trivial (wpIn_wide.2 ?_))
  simp only [Try.ntmps10, List.size_toArray, List.length_cons, List.length_nil, Nat.reduceAdd, Nat.reduceSub, Array.replicate_succ, Array.replicate_zero, List.push_toArray, List.append_toArray, List.nil_append, List.cons_append]
  go_upto_region 3 with fail
  obtain ⟨w1, HW⟩ : ∃ w1, (w.alloc (.cells #[.slice none 0 0] 22)).alloc (.cells #[.int .i64 0] 3) = w1 := ⟨_, rfl⟩
  have A1 : Rw w1 w.heap.size 22 #[.slice none 0 0] := by rw [← HW]; exact (rw_new w 22 _).alloc _
  have A2 : Rw w1 (w.heap.size + 1) 3 #[.int .i64 0] := by rw [← HW]; exact rw_next _ (by simp) _ _
  have hsz : w1.heap.size = w.heap.size + 2 := by rw [← HW]; simp
  have hb1 : Below w.heap.size w w1 := by rw [← HW]; exact bel_alloc (bel_alloc (Below.refl _ _) _) _
  rw [HW]
  clear HW
  go_wp2_with fail
  refine (records_any p b.length c w1).mono ?_
  rintro e w2 ⟨rfl, hw2⟩
  have B1 : Rw w2 w.heap.size 22 #[.slice none 0 0] := by rw [hw2]; exact A1.alloc _
  have B2 : Rw w2 (w.heap.size + 1) 3 #[.int .i64 0] := by rw [hw2]; exact A2.alloc _
  have B3 : Rw w2 (w.heap.size + 2) 23 #[.slice p b.length c] := by rw [hw2]; exact rw_next _ hsz.symm _ _
  have hb2 : Below w.heap.size w w2 := by rw [hw2]; exact bel_alloc hb1 _
  have hsz2 : w2.heap.size = w.heap.size + 3 := by rw [hw2]; simp [hsz]
  rw [hsz]
  clear hw2 A1 A2 hb1 hsz
  go_wp2_with fail
  refine Round.range_one (gf := 24) rfl (fun args w => Calm.enters_run (by kernel_rfl) args w) ?_
  intro D L ready busy done hD hL hr hbu hd hY
  refine (records1_any w b (.slice p b.length c) (w.heap.size + 2) L (fun pre a => SJ w (.slice p b.length c) D L ready pre a) hV hb (fun pre a W W' h hb => h.later hb) (fun pre a W h => ⟨h.bb, h.b⟩) ?hY _ ?h0).mono ?_
  case h0 =>
    have hL' : ((w2.alloc (.deferred (some []))).alloc ready).heap[L]? = some ready := by
      rw [← hL]
      have := heap_alloc_last (w2.alloc (.deferred (some []))) ready
      simpa using this
    have hD' : ((w2.alloc (.deferred (some []))).alloc ready).heap[D]? = some (.deferred (some [])) := by
      rw [← hD]
      exact (Below.heap_alloc _ _ _ (by simp)).trans (heap_alloc_last w2 _)
    exact ⟨⟨none, 0, 0, [], (B1.alloc _).alloc _, OwnB.nil _ _ _, rfl⟩, (B2.alloc _).alloc _, (B3.alloc _).alloc _, hL', hD', bel_alloc (bel_alloc hb2 _) _, (by simp)⟩
  case hY =>
    intro pre a x px W0 W hJ0 hbW hle dx hof
    have hJ := hJ0.later hbW
    refine (YieldAt.mono (hY #[.slice px x.length x.length, .int .i64 ((a : Int) + ((x.length : Int) + 8))] W (fun W' => SJ w (.slice p b.length c) D L ready (pre ++ [x]) (a + x.length + 8) W') rfl hJ.r ?_) ?_)
    rotate_left
    · rintro e w' ⟨h1, h2⟩
      exact ⟨h1, h2⟩
    simp only [Array.zip]
    refine wpIn_seq ?_
    refine Round.region_list rfl (Round.then_no Round.endPost_no) ?_
    go_wp2_with fail
    refine Round.region_list rfl Round.endPost_no ?_
    go_wp2_with fail
    refine ⟨hJ.r, wpIn_block (wpIn_seq ?_)⟩
    have hD2 : w.heap.size + 2 < D := by omega
    have hDL : D < L := by omega
    have hJ2 : SJ w (.slice p b.length c) D L busy pre a (W.putObj L busy) := hJ.put hD2 hDL
    obtain ⟨p0, n0, c0, ys, D1, D2, D3⟩ := hJ0.d
    have D1b : Rw (W.putObj L busy) w.heap.size 22 #[.slice p0 n0 c0] := (World.putObj_heap_other (by omega)).trans (D1.later hbW)
    have D2b : OwnB (W.putObj L busy) (L + 1) (.slice p0 n0 c0) ys (fun q => q < L + 1) := (D2.later hbW).low (fun _ h => h) fun b hb => World.putObj_heap_other (by omega)
    have hoff : ∀ q, (.slice p0 n0 c0 : Value).ownBlock = some q ∨ q < L + 1 → Off q (.slice px x.length x.length) := fun q hq => by
      rcases hq with hq | hq
      · exact hof q (D2.block hq).2
      · have := (Array.getElem?_eq_some_iff.1 hJ0.r).1
        exact hof q (by omega)
    have dx2 : DB (W.putObj L busy) (.slice px x.length x.length) x := dx.grown (by decide) (row := some L) ⟨rfl, rfl, rfl, by simp, fun k _ hk => World.putObj_heap_other fun e => hk (by rw [e])⟩ fun q hq => hoff q (by simp at hq; omega)
    have hc1 := D1b.cell 0
    refine Round.region_list rfl (Round.then_no (Round.block_no Round.endPost_no)) ?_
    have hLW : L < (W.putObj L busy).heap.size := (Array.getElem?_eq_some_iff.1 hJ2.r).1
    clear D1 D2 hJ hJ0 hY dx hbW
    generalize W.putObj L busy = W2 at hJ2 D1b D2b dx2 hc1 hLW ⊢
    have hba := bel_alloc (Below.refl W2.heap.size W2) (.cells #[.slice px x.length x.length] 23)
    have XO : BAt (W2.alloc (.cells #[.slice px x.length x.length] 23)) (.slice (some ⟨W2.heap.size, 0, none⟩) 1 1) [(x, .slice px x.length x.length)] (fun q => (.slice p0 n0 c0 : Value).ownBlock = some q ∨ q < L + 1) := one_by x _ _ rfl dx2 (fun q hq => ⟨hoff q hq, by
      rcases hq with hq | hq
      · have := (D2b.block hq).2
        omega
      · omega⟩)
    have O1 := D2b.later hba
    have J1 := hJ2.later hba
    have R1 := D1b.later hba
    have hlen : ys.length + 1 ≤ 100000 := by
      have h1 := congrArg List.length D3
      rw [List.length_map] at h1
      have := hJ2.n
      omega
    have hsz1 : L + 1 ≤ (W2.alloc (.cells #[.slice px x.length x.length] 23)).heap.size := by simp; omega
    clear hba D1b D2b
    go_wp2_with (at_builtin; refine append_bs rfl _ _ rfl rfl rfl O1 XO hlen hsz1 ?_)
    intro v7 w7 O7 g7 _
    obtain ⟨p7, n7, c7, rfl⟩ := O7.slice
    have hrow : ∀ k, (.slice p0 n0 c0 : Value).ownBlock = some k → L + 1 ≤ k := fun k e => (O1.block e).1
    have J7 := J1.step hD2 hDL (a' := a + x.length + 8) g7 hrow O7 (pre' := pre ++ [x]) (by simp [D3]) (by rw [List.length_append]; have := hJ2.n; simp; omega)
    have k0 : ∀ {q : Nat}, q ≤ L → w7.heap[q]? = (W2.alloc (.cells #[.slice px x.length x.length] 23)).heap[q]? := fun {q} hq => g7.block q (by omega) fun e => by
      have := hrow q e.symm
      omega
    have r1 : Rw w7 w.heap.size 22 #[.slice p0 n0 c0] := (k0 (by omega)).trans R1
    have r2 : Rw w7 (w.heap.size + 1) 3 #[.int .i64 a] := (k0 (by omega)).trans J1.p
    have r3 := r2.setOther (q := w.heap.size) (by omega) 0 (.slice p7 n7 c7)
    have z1 := r1.cell 0
    have z2 := r1.frozen 0
    have z3 := r3.cell 0
    have z4 := r3.frozen 0
    clear hc1 O7 O1 XO R1 J1 hJ2 g7 k0 r1 r2 r3 hrow hlen hsz1 D3 hoff dx2
    go_wp2_with fail
    refine Round.region_list rfl (Round.block_no Round.endPost_no) ?_
    go_wp2_with fail
    have e8 : ((a + x.length + 8 : Nat) : Int) = (a : Int) + ((x.length : Int) + 8) := by omega
    rw [e8] at J7
    exact ⟨J7.r, J7.put hD2 hDL⟩
  rintro e w3 ⟨hv3, hJ3⟩
  refine ⟨hv3, hJ3.r, ?_⟩
  have hJ4 := hJ3.put (o' := done) (by omega) (by omega)
  obtain ⟨gp, gn, gc, gz, G1, G2, G3⟩ := hJ4.d
  have GP : Hid (Rw (w3.putObj L done) (w.heap.size + 1) 3 #[.int .i64 (scanR b).2]) := hJ4.p
  have GK : Hid ((w3.putObj L done).heap[D]? = some (.deferred (some []))) := hJ4.k
  have GB : Hid (Below w.heap.size w (w3.putObj L done)) := hJ4.b
  have G1' : Hid (Rw (w3.putObj L done) w.heap.size 22 #[.slice gp gn gc]) := G1
  have G2' : Hid (OwnB (w3.putObj L done) (L + 1) (.slice gp gn gc) gz (fun q => q < L + 1)) := G2
  have G3' : Hid (gz.map (·.1) = (scanR b).1) := G3
  have hDB : w.heap.size + 2 < D := by omega
  have hDL : D < L := by omega
  clear hJ4 hJ3 hv3 G1 G2 G3 B1 B2 B3 hb2 hsz2
  generalize w3.putObj L done = w4 at GP GK GB G1' G2' ⊢
  clear hY hD hL hr hbu hd w3 w2 ready busy done
  obtain ⟨sc, HU⟩ := hid_ex (scanR b)
  rw [HU.out] at GP G3' ⊢
  rename_i K hKK
  show K _ _
  refine hKK _ _ ?_
  clear hKK
  clear K
  have hS0 : w4.drew.cell? ⟨w.heap.size, 0, none⟩ = some (.slice gp gn gc) ∧ w4.drew.cell? ⟨w.heap.size + 1, 0, none⟩ = some (.int .i64 sc.2) := ⟨G1'.out.drew.cell 0, GP.out.drew.cell 0⟩
  go_upto_region 8 with fail
  refine wp_normal ?_
  refine HeldI.region (fun w' => w'.cell? ⟨w.heap.size, 0, none⟩ = some (.slice gp gn gc) ∧ w'.cell? ⟨w.heap.size + 1, 0, none⟩ = some (.int .i64 sc.2)) (by kernel_rfl) ?_
  refine HeldI.ce 0 (fun _ h => h.1) hS0 ?_
  refine HeldI.ce 1 (fun _ h => h.2) hS0 ?_
  refine HeldI.pu 2 hS0 ?_
  refine HeldI.pu 3 hS0 ?_
  refine HeldI.dn ?_
  rename_i K hKK
  show K _ _
  refine hKK _ _ ?_
  clear hKK
  have gD : w4.drew.heap[D]? = some (.deferred (some [])) := GK.out
  have hO := G2'.out.low (w' := w4.drew.putObj D (.deferred none)) (fun _ h => h) fun q hq => World.putObj_heap_other (by omega)
  have hbf : Below w.heap.size w (w4.drew.putObj D (.deferred none)) := GB.out.drew.trans ⟨rfl, rfl, rfl, by simp, fun b hb => World.putObj_heap_other (by omega)⟩
  refine wp_ret ?_
  refine ⟨by simp, .inl ⟨_, _, rfl, run_takeDeferred gD, ?_⟩⟩
  change LeavesIn Fence.wide 1 Try.prog Try.f10 _ (ScPost (scanR b) w) [] .returning _
  refine ⟨_, results_tmp2 rfl _ _ _, ?_⟩
  exact ⟨.slice gp gn gc, by rw [HU.out]; rfl, by rw [HU.out, ← G3'.out]; exact hO.fat.has, hbf⟩
end Go.Proofs.Ytnfejhkgcbabfaa
/- The three calls of layer 23, all of them the program's own. -/
namespace Go.Proofs.Ytnfejhkgcbabfaa
open Go.RowKit
theorem prr_all : Prr :=
  ⟨fun b l u v w hu hv hb hl => pPut_any u v b l w hu hv hb hl, fun b u w hu hb => pScan_any u b w hu (by omega), fun l v w hv _ => pSize_any v l w hv⟩
end Go.Proofs.Ytnfejhkgcbabfaa
