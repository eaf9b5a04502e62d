import Derived.Test.YthekfmodafmlgaaP9
import Derived.Test.YthekfmodafmlgaaP10
/- without of package orset. -/
namespace Go.Proofs.Ythekfmodafmlgaa
open Go.RowKit Go.Sort Go.Maps Go.WideMaps

/-- A slice of texts. -/
abbrev THas (w : World) (v : Value) (l : List Bs) : Prop := SHas 1 w v l.length (l.map encStr)
theorem SHas.zero {S : Nat} {w w' : World} {v : Value} {xs : List Value} (h : SHas S w v 0 xs) : SHas S w' v 0 xs := by
  obtain ⟨hm, hl, ⟨rfl, _⟩ | ⟨ad, c, rfl, hc, hd⟩⟩ := h
  · exact ⟨hm, hl, .inl ⟨rfl, rfl⟩⟩
  · exact ⟨hm, hl, .inr ⟨ad, c, rfl, hc, fun h => by omega⟩⟩
/-- A cell's row holds no text. -/
theorem range_offS {w : World} {g o b : Nat} {xs : List Value} (h : w.rangeAt g o xs) {s : ByteArray} (h0 : xs[0]? = some (.string s)) {t : TypeId} {k i : Int} {pa : Option Addr} {la ca : Nat} {pw : Option Addr} {lw cw : Nat} {pm : Option Addr} {lm cm : Nat} {pe : Option Addr} {le ce : Nat} (R : Rw w b t (cvc k i (.slice pa la ca) (.slice pw lw cw) (.slice pm lm cm) (.slice pe le ce))) : g ≠ b := by
  rintro rfl
  have h2 := h 0 _ h0
  rw [R.cell] at h2
  match o, h2 with
  | 0, h2 => cases h2
  | 1, h2 => cases h2
  | 2, h2 => cases h2
  | 3, h2 => cases h2
  | 4, h2 => cases h2
  | 5, h2 => cases h2
  | o + 6, h2 => simp at h2
theorem BHas.row {w : World} {v : Value} {l : List Mb} (h : BHas w v l) {b : Nat} {t : TypeId} {k i : Int} {pa : Option Addr} {la ca : Nat} {pw : Option Addr} {lw cw : Nat} {pm : Option Addr} {lm cm : Nat} {pe : Option Addr} {le ce : Nat} (R : Rw w b t (cvc k i (.slice pa la ca) (.slice pw lw cw) (.slice pm lm cm) (.slice pe le ce))) (cs : Array Value) : BHas (w.setRow b cs) v l := by
  obtain ⟨ys, h1, h2, h3⟩ := h
  refine ⟨ys, h1, ?_, fun y hy => (h3 y hy).row (M.flat _) (by decide) R cs⟩
  obtain ⟨hm, hl, ⟨rfl, h0⟩ | ⟨ad, cc, rfl, hc', hd⟩⟩ := h2
  · exact ⟨hm, hl, .inl ⟨rfl, h0⟩⟩
  · refine ⟨hm, hl, .inr ⟨ad, cc, rfl, hc', fun h => ?_⟩⟩
    obtain ⟨g, o, rfl, hd2⟩ := hd h
    refine ⟨g, o, rfl, range_row hd2 ?_ cs⟩
    have hy : 0 < ys.length := by rw [← h1, List.length_map] at h; exact h
    exact range_offS hd2 (s := ys[0].1.x) (rows_at Mb.len ys 0 hy 0 _ rfl) R
theorem four4_row {w : World} {l : List Mb} {va vw vm ve : Value} (h : Four w (x4 l) va vw vm ve) {b : Nat} {t : TypeId} {k i : Int} {pa : Option Addr} {la ca : Nat} {pw : Option Addr} {lw cw : Nat} {pm : Option Addr} {lm cm : Nat} {pe : Option Addr} {le ce : Nat} (R : Rw w b t (cvc k i (.slice pa la ca) (.slice pw lw cw) (.slice pm lm cm) (.slice pe le ce))) (cs : Array Value) : Four (w.setRow b cs) (x4 l) va vw vm ve := by
  obtain ⟨ha, ht, hm, ⟨es, e3, e4, _⟩⟩ := h
  obtain rfl := List.map_eq_nil_iff.1 e3
  exact ⟨SHas.zero ha, SHas.zero ht, hm.row R cs, ⟨[], rfl, SHas.zero e4, fun _ h => by cases h⟩⟩
theorem field_b (s : ByteArray) (b : Bool) (p : Option Addr) (n c : Nat) (w : World) : (Instr.field 41 (.agg #[.string s, .bool b, .slice p n c]) 2).run Try.prog w = .ok (.slice p n c) w := by
  simp [Instr.field, go_sem, asAgg]
/-- What stands ahead of each round of without. -/
structure WI (w : World) (B : Nat) (x : X) (q u : Int) (v : List Int) (t : Int) (sl : Value) (idx : Int) (b : Nat) (Gd : List Bs) (n : Nat) (wr : World) : Prop where
  r : Bxs wr (w.heap.size + 1) (w.heap.size + 2) q u v t sl idx
  z : Rw wr (w.heap.size + 3) 27 (cvc 0 0 (.slice none 0 0) (.slice none 0 0) (.slice none 0 0) (.slice none 0 0))
  i : ∃ D ms, wr.ownsMap Try.prog 9 vE b n D ∧ MapIs D ms ∧ OwnB B wr ms ∧ ms.map (·.1) = wo (fun y => decide (tx y ∈ Gd)) (bfP q u v idx) x.mb
  b : Below w.heap.size w wr
  s : B ≤ wr.heap.size
theorem wo_small {x : X} (hs : Sm x) (G : Mb → Bool) (p : M → Bool) : (wo G p x.mb).length ≤ 100 ∧ ∀ y ∈ wo G p x.mb, y.ms.length ≤ 100 := by
  refine ⟨Nat.le_trans (wo_length _ _ _) hs.m, fun z hz => ?_⟩
  obtain ⟨y, hy, rfl | e⟩ := wo_sub hz
  · exact hs.mi _ hy
  · exact Nat.le_trans (dm_length e) (hs.mi _ hy)
theorem wo_text {l : List Mb} (h : cb l = true) (G : Mb → Bool) (p : M → Bool) : ∀ y ∈ wo G p l, y.x.size ≤ 64 := fun z hz => by
  have h1 := ((cb_pair _).1 (wo_cb h G p)).1 z hz
  unfold ib at h1
  simp only [Bool.and_eq_true, decide_eq_true_eq] at h1
  exact h1.2.1
set_option maxHeartbeats 4000000 in
set_option maxRecDepth 100000 in
theorem without_any (x : X) (va vw vm ve : Value) (q u : Int) (v : List Int) (t : Int) (sl : Value) (idx : Int) (vg : Value) (G : List Bs) (w : World) (hv : v.length = 13) (h : Four w x va vw vm ve) (hs : Sm x) (hg : THas w vg G) (hgl : G.length ≤ 200) (hgt : ck x = true → ∀ s ∈ G, s.length ≤ 1000) :
    Calls Try.prog 30 #[CV x.k x.b va vw vm ve, TxV q u v t sl, .int .i64 idx, vg] w (Gives (woX x idx (fun y => decide (tx y ∈ G)) (bfP q u v idx)) w) := by
  obtain ⟨pa, ca', pw, cw, pm, cm, pe, ce, rfl, rfl, rfl, rfl⟩ := h.slices
  obtain ⟨pg, cg, rfl⟩ := hg.slice
  have HF : Hid (Four w x (.slice pa x.am.length ca') (.slice pw x.wr.length cw) (.slice pm x.mb.length cm) (.slice pe x.el.length ce)) := h
  have HG : Hid (THas w (.slice pg G.length cg) G) := hg
  clear h hg
  obtain ⟨z, HZ⟩ := hid_ex (woX x idx (fun y => decide (tx y ∈ G)) (bfP q u v idx))
  rw [HZ.out]
  have R0 := ((((rw_new w 27 (cvc x.k x.b (.slice pa x.am.length ca') (.slice pw x.wr.length cw) (.slice pm x.mb.length cm) (.slice pe x.el.length ce))).alloc (.cells (txc q u v t sl).toArray 34)).alloc (.cells #[.int .i64 idx] 3)).alloc (.cells (cvc 0 0 (.slice none 0 0) (.slice none 0 0) (.slice none 0 0) (.slice none 0 0)) 27))
  have R1 := (((rw_new (w.alloc (.cells (cvc x.k x.b (.slice pa x.am.length ca') (.slice pw x.wr.length cw) (.slice pm x.mb.length cm) (.slice pe x.el.length ce)) 27)) 34 (txc q u v t sl).toArray).alloc (.cells #[.int .i64 idx] 3)).alloc (.cells (cvc 0 0 (.slice none 0 0) (.slice none 0 0) (.slice none 0 0) (.slice none 0 0)) 27))
  have R2 := ((rw_new ((w.alloc (.cells (cvc x.k x.b (.slice pa x.am.length ca') (.slice pw x.wr.length cw) (.slice pm x.mb.length cm) (.slice pe x.el.length ce)) 27)).alloc (.cells (txc q u v t sl).toArray 34)) 3 #[.int .i64 idx]).alloc (.cells (cvc 0 0 (.slice none 0 0) (.slice none 0 0) (.slice none 0 0) (.slice none 0 0)) 27))
  have R3 := (rw_new (((w.alloc (.cells (cvc x.k x.b (.slice pa x.am.length ca') (.slice pw x.wr.length cw) (.slice pm x.mb.length cm) (.slice pe x.el.length ce)) 27)).alloc (.cells (txc q u v t sl).toArray 34)).alloc (.cells #[.int .i64 idx] 3)) 27 (cvc 0 0 (.slice none 0 0) (.slice none 0 0) (.slice none 0 0) (.slice none 0 0)))
  have hbel := bel_alloc (bel_alloc (bel_alloc (bel_alloc (Below.refl w.heap.size w) (.cells (cvc x.k x.b (.slice pa x.am.length ca') (.slice pw x.wr.length cw) (.slice pm x.mb.length cm) (.slice pe x.el.length ce)) 27)) (.cells (txc q u v t sl).toArray 34)) (.cells #[.int .i64 idx] 3)) (.cells (cvc 0 0 (.slice none 0 0) (.slice none 0 0) (.slice none 0 0) (.slice none 0 0)) 27)
  have hsz : ((((w.alloc (.cells (cvc x.k x.b (.slice pa x.am.length ca') (.slice pw x.wr.length cw) (.slice pm x.mb.length cm) (.slice pe x.el.length ce)) 27)).alloc (.cells (txc q u v t sl).toArray 34)).alloc (.cells #[.int .i64 idx] 3)).alloc (.cells (cvc 0 0 (.slice none 0 0) (.slice none 0 0) (.slice none 0 0) (.slice none 0 0)) 27)).heap.size = w.heap.size + 4 := by simp
  generalize hW : ((((w.alloc (.cells (cvc x.k x.b (.slice pa x.am.length ca') (.slice pw x.wr.length cw) (.slice pm x.mb.length cm) (.slice pe x.el.length ce)) 27)).alloc (.cells (txc q u v t sl).toArray 34)).alloc (.cells #[.int .i64 idx] 3)).alloc (.cells (cvc 0 0 (.slice none 0 0) (.slice none 0 0) (.slice none 0 0) (.slice none 0 0)) 27)) = w0 at R0 R1 R2 R3 hbel hsz
  simp only [World.size_alloc, Nat.add_assoc, Nat.reduceAdd] at R1 R2 R3
  go_enter Try.func30, Try.ntmps30
  go_wp2_with (first | rw [hW] | refine load_r 27 _ rfl rfl _ rfl R0 Try.underlying27 rfl size27 ?_)
  clear hW
  refine (copied_any x _ _ _ _ w0 (HF.out.later hbel) hs).mono ?_
  rintro e w1 ⟨ua, uw, um, ue, rfl, ho, hb1⟩
  obtain ⟨qa, da, qw, dw, qm, dx, qe, de, rfl, rfl, rfl, rfl⟩ := ho.four.slices
  rw [hsz] at ho
  replace R0 := R0.later hb1
  replace R1 := R1.later hb1
  replace R2 := R2.later hb1
  replace R3 := R3.later hb1
  replace hbel := below_on hbel hb1
  have hB : w.heap.size + 4 ≤ w1.heap.size := by have := hb1.size; omega
  clear hb1 hsz
  have ho2 := ho.row (by omega) R0 (cvc x.k x.b (.slice qa x.am.length da) (.slice qw x.wr.length dw) (.slice qm x.mb.length dx) (.slice qe x.el.length de))
  have hbs := below_setRow hbel (Nat.le_refl w.heap.size) (cvc x.k x.b (.slice qa x.am.length da) (.slice qw x.wr.length dw) (.slice qm x.mb.length dx) (.slice qe x.el.length de))
  have hB2 : w.heap.size + 4 ≤ (w1.setRow w.heap.size (cvc x.k x.b (.slice qa x.am.length da) (.slice qw x.wr.length dw) (.slice qm x.mb.length dx) (.slice qe x.el.length de))).heap.size := by simpa [World.setRow] using hB
  replace R1 := R1.rowOther (q := w.heap.size) (by omega) (cvc x.k x.b (.slice qa x.am.length da) (.slice qw x.wr.length dw) (.slice qm x.mb.length dx) (.slice qe x.el.length de))
  replace R2 := R2.rowOther (q := w.heap.size) (by omega) (cvc x.k x.b (.slice qa x.am.length da) (.slice qw x.wr.length dw) (.slice qm x.mb.length dx) (.slice qe x.el.length de))
  replace R3 := R3.rowOther (q := w.heap.size) (by omega) (cvc x.k x.b (.slice qa x.am.length da) (.slice qw x.wr.length dw) (.slice qm x.mb.length dx) (.slice qe x.el.length de))
  have R4 := R0.row (cvc x.k x.b (.slice qa x.am.length da) (.slice qw x.wr.length dw) (.slice qm x.mb.length dx) (.slice qe x.el.length de))
  generalize hW : w1.setRow w.heap.size (cvc x.k x.b (.slice qa x.am.length da) (.slice qw x.wr.length dw) (.slice qm x.mb.length dx) (.slice qe x.el.length de)) = w2 at ho2 hbs hB2 R1 R2 R3 R4
  go_wp2_with (first | rw [hW] | refine store_r rfl 27 _ _ rfl _ (cvc x.k x.b (.slice qa x.am.length da) (.slice qw x.wr.length dw) (.slice qm x.mb.length dx) (.slice qe x.el.length de)) rfl rfl R0 size27 rfl (by simp [Value.oneCell']) ?_ | refine load_r 27 _ rfl rfl _ rfl R4 Try.underlying27 rfl size27 ?_)
  clear hW ho hbel hB R0
  refine (check_any x _ _ _ _ w2 ho2.four hs).mono ?_
  rintro e w3 ⟨rfl, hb1⟩
  replace R1 := R1.later hb1
  replace R2 := R2.later hb1
  replace R3 := R3.later hb1
  replace R4 := R4.later hb1
  replace ho2 := ho2.later hb1
  replace hbs := below_on hbs hb1
  replace hB2 := Nat.le_trans hB2 hb1.size
  clear hb1
  have c2 : w3.cell? ⟨w.heap.size + 2, 0, none⟩ = some (.int .i64 idx) := R2.cell 0
  have HQ : Hid (z = if (ck x && im idx) = true then { x with mb := wo (fun y => decide (tx y ∈ G)) (bfP q u v idx) x.mb } else x) := by
    show _ = _
    rw [← HZ.out]
    rfl
  clear HZ
  obtain ⟨y1, HY1⟩ := hid_ex (ck x)
  rw [HY1.out] at HQ ⊢
  cases y1
  · have e := HQ.out
    rw [show (false && im idx) = false from rfl, if_neg (by decide)] at e
    have e := e.symm
    subst e
    go_wp2_with (first | refine load_r 27 _ rfl rfl _ rfl R4 Try.underlying27 rfl size27 ?_ | refine store_r rfl 27 _ _ rfl _ (cvc x.k x.b (.slice qa x.am.length da) (.slice qw x.wr.length dw) (.slice qm x.mb.length dx) (.slice qe x.el.length de)) rfl rfl R3 size27 rfl (by simp [Value.oneCell']) ?_)
    refine bodyPost_ret (results_r rfl rfl (R3.row (cvc x.k x.b (.slice qa x.am.length da) (.slice qw x.wr.length dw) (.slice qm x.mb.length dx) (.slice qe x.el.length de))) rfl Try.underlying27 size27) rfl ?_
    exact ⟨_, _, _, _, rfl, (ho2.row (by omega) R3 (cvc x.k x.b (.slice qa x.am.length da) (.slice qw x.wr.length dw) (.slice qm x.mb.length dx) (.slice qe x.el.length de))).four, below_setRow hbs (by omega) _⟩
  · have hii : decide (idx < 1) = !im idx := by unfold im; by_cases h : idx < 1 <;> simp [h] <;> omega
    obtain ⟨y2, HY2⟩ := hid_ex (im idx)
    rw [HY2.out] at hii HQ
    cases y2
    · have e := HQ.out
      rw [show (true && false) = false from rfl, if_neg (by decide)] at e
      have e := e.symm
      subst e
      have hid : decide (idx < 1) = true := hii
      have hil : idx < 1 := of_decide_eq_true hii
      go_wp2_with (first | refine load_r 27 _ rfl rfl _ rfl R4 Try.underlying27 rfl size27 ?_ | refine store_r rfl 27 _ _ rfl _ (cvc x.k x.b (.slice qa x.am.length da) (.slice qw x.wr.length dw) (.slice qm x.mb.length dx) (.slice qe x.el.length de)) rfl rfl R3 size27 rfl (by simp [Value.oneCell']) ?_)
      refine bodyPost_ret (results_r rfl rfl (R3.row (cvc x.k x.b (.slice qa x.am.length da) (.slice qw x.wr.length dw) (.slice qm x.mb.length dx) (.slice qe x.el.length de))) rfl Try.underlying27 size27) rfl ?_
      exact ⟨_, _, _, _, rfl, (ho2.row (by omega) R3 (cvc x.k x.b (.slice qa x.am.length da) (.slice qw x.wr.length dw) (.slice qm x.mb.length dx) (.slice qe x.el.length de))).four, below_setRow hbs (by omega) _⟩
    · have e := HQ.out
      rw [show (true && true) = true from rfl, if_pos rfl, ck_x4 HY1.out] at e
      have HQ2 : Hid (z = x4 (wo (fun y => decide (tx y ∈ G)) (bfP q u v idx) x.mb)) := e
      have hil : ¬ idx < 1 := of_decide_eq_false hii
      have HGT : Hid (∀ s ∈ G, s.length ≤ 1000) := hgt HY1.out
      obtain ⟨ms, hms, hom, hOB⟩ := ho2.m
      have hcb := (ck_parts HY1.out).2.2.2.2.2
      have hcp := (cb_pair _).1 hcb
      have hup : upB ms := by
        have h2 := hcp.2
        rw [← hms] at h2
        unfold upm at h2
        rw [List.pairwise_map] at h2
        exact h2
      have htx : ∀ y ∈ ms, y.1.x.size ≤ 64 := fun y hy => by
        have h1 := hcp.1 y.1 (by rw [← hms]; exact List.mem_map_of_mem hy)
        unfold ib at h1
        simp only [Bool.and_eq_true, decide_eq_true_eq] at h1
        exact h1.2.1
      have hml : ms.length = x.mb.length := by rw [← hms, List.length_map]
      have hlm : ms.length ≤ 100 := by rw [hml]; exact hs.m
      have HCB : Hid (cb x.mb = true) := hcb
      have c4 : w3.cell? ⟨w.heap.size, 4, none⟩ = some (.slice qm x.mb.length dx) := R4.cell 4
      rw [← hml] at hom c4
      have CB := byText_any (.slice qm ms.length dx) ms w3 (own_sh hom) hOB.has hlm htx hup
      clear e HQ hii HY2 hcp hgt hup htx hcb hml
      go_wp2_with fail
      refine CB.mono ?_
      clear CB c2 c4
      rintro e w4 ⟨b, D, rfl, hbb, hown, hD, hb4⟩
      have WI0 : WI w (w.heap.size + 4) x q u v t sl idx b [] 100 w4 := ⟨⟨R1.later hb4, R2.later hb4⟩, R3.later hb4, ⟨D, ms, hown.mono hlm, hD, hOB.later hb4, by rw [hms, wo_none]; intro y _; simp⟩, below_on hbs hb4, Nat.le_trans hB2 hb4.size⟩
      have hbB : w.heap.size + 4 ≤ b := Nat.le_trans hB2 hbb
      clear R1 R2 R3 R4 hom hOB hD hown hb4 hB2 hbb ho2 hms hlm hbs HF
      go_wp2_with fail
      go_loopw [28] (fun vi wr => ∃ k : Nat, vi = .int .i64 k ∧ k ≤ G.length ∧ WI w (w.heap.size + 4) x q u v t sl idx b (G.take k) (100 + k) wr) (fun vi _ => G.length - (intOf vi).toNat)
      case atStart => exact ⟨0, rfl, by omega, WI0⟩
      case round =>
        clear WI0
        obtain ⟨k, rfl, hk, HI⟩ := hrel
        have HW : Hid (WI w (w.heap.size + 4) x q u v t sl idx b (G.take k) (100 + k) wr) := HI
        clear HI
        by_cases hlt : k < G.length
        · have hlt' : (k : Int) < (G.length : Int) := by omega
          obtain ⟨g, o, rfl, hd0⟩ := HG.out.at (by omega)
          have hd := range_later hd0 HW.out.b
          obtain ⟨Y, HY⟩ := hid_ex (⟨G[k].toArray⟩ : ByteArray)
          have c1 : wr.cell? ⟨g, o + k, none⟩ = some (.string Y) := by
            have := hd k _ (by simp [hlt]; rfl)
            rw [this, ← HY.out]
          have hY : bs Y = G[k] := by rw [← HY.out]
          have hYs : Y.size ≤ 1000 := by
            have h1 := HGT.out G[k] (List.getElem_mem _)
            rw [← hY] at h1
            simpa using h1
          have HTK : Hid (G.take (k + 1) = G.take k ++ [bs Y]) := by
            show _ = _
            rw [List.take_succ_eq_append_getElem hlt, hY]
          have hkey : keyOf Try.prog 9 (.string Y) = some (.string (bs Y)) := keyOf_string_mk Try.underlying9 (by unfold maxLen; omega)
          clear hd0 hd hY HY
          obtain ⟨⟨r1, r2⟩, R3, ⟨D, ms, hown, hD, hOB, hms⟩, hbel, hB⟩ := HW.out
          have HMS : Hid (ms.map (·.1) = wo (fun y => decide (tx y ∈ G.take k)) (bfP q u v idx) x.mb) := hms
          have HNX : Hid (wo (fun y => decide (tx y ∈ G.take (k + 1))) (bfP q u v idx) x.mb = wo (fun y => decide (tx y = bs Y)) (bfP q u v idx) (ms.map (·.1))) := by
            show _ = _
            rw [HTK.out, hms, wo_more]
          have hsm := wo_small hs (fun y => decide (tx y ∈ G.take k)) (bfP q u v idx)
          rw [← hms] at hsm
          clear hms HTK
          rcases upB_split hD.u (bs Y) with hno | ⟨A, y, C, rfl, hyt, hA, hC⟩
          · have hat := hD.off hno (.held (.agg #[.string noS, .bool false, .slice none 0 0]))
            have CD := delete_any (w.heap.size + 4) (.slice none 0 0) [] (w.heap.size + 1) (w.heap.size + 2) q u v t sl idx wr hv (World.ownsRow_nil _ _ _ _) (by decide) (by omega) (by omega) hB ⟨r1, r2⟩
            have hfl := fun w => field_b noS false none 0 0 w
            go_wp2_with (first | (at_lookup; refine lookup_v rfl _ _ 76 rfl 9 41 law9 Try.underlying76 (Try.zeroValue41 _) rfl hown rfl hkey hat ?_))
            refine CD.mono ?_
            clear CD hfl hat
            rintro e w5 ⟨u5, rfl, ho5, hk5, hu5, hb5⟩
            replace ho5 : w5.ownsRow (w.heap.size + 4) 44 3 u5 0 [] := ho5
            have hb6 := below_kp hb5 hk5
            obtain ⟨p5, c5, rfl⟩ := own_sl ho5
            replace hown := map_later hown hb6
            have HOB : Hid (OwnB (w.heap.size + 4) w5 ms) := hOB.later hb6
            replace r1 := r1.later hb6
            replace r2 := r2.later hb6
            replace R3 := R3.later hb6
            replace hbel := below_on hbel hb6
            replace hB := Nat.le_trans hB hb6.size
            have HDN : Hid (MapIs (D.del (.string (bs Y))) ms) := by
              have h2 := hD.del (bs Y)
              rw [delV_none hno] at h2
              exact h2
            have HNY : Hid (ms.map (·.1) = wo (fun y => decide (tx y ∈ G.take (k + 1))) (bfP q u v idx) x.mb) := by
              show _ = _
              rw [HNX.out, wo_none]
              intro a ha
              obtain ⟨y', hy', rfl⟩ := List.mem_map.1 ha
              exact decide_eq_false (hno y' hy')
            clear ho5 hk5 hu5 hb5 hb6 hD hOB hno HNX HMS hsm HW
            go_wp2_with (first | (at_delete; refine wpList_delete_own _ rfl _ _ 76 9 rfl 41 law9 Try.underlying76 vE b _ _ rfl hown _ _ rfl hkey ?_; intro w7 hown7 ht7))
            have hg7 := ht7.grown
            go_roundw
            case rel => exact ⟨k + 1, by simp, by omega, ⟨⟨r1.turned hown hg7, r2.turned hown hg7⟩, R3.turned hown hg7, ⟨_, ms, hown7.mono (by omega), HDN.out, HOB.out.turned hown hg7, HNY.out⟩, hbel.grown hg7 hbel.size (fun j hj => by cases hj; omega), Nat.le_trans hB hg7.size⟩⟩
            case measure => simp [intOf]; omega
          · obtain ⟨ym, yv⟩ := y
            have hoy := hOB.o (ym, yv) (by simp)
            replace hoy : wr.ownsRow (w.heap.size + 4) 44 3 yv ym.ms.length (rows M.cells ym.ms) := hoy
            obtain ⟨py, cy, rfl⟩ := own_sl hoy
            replace hyt : tx ym = bs Y := hyt
            have HYX : Hid (ym.x = Y) := bs_inj hyt
            have HYT : Hid (tx ym = bs Y) := hyt
            have hat : D.atKey (.string (bs Y)) (.held (.agg #[.string noS, .bool false, .slice none 0 0])) = .held (.agg #[.string ym.x, .bool ym.b, .slice py ym.ms.length cy]) := hD.at (y := (ym, .slice py ym.ms.length cy)) (by simp) hyt _
            have hy1 : ym.ms.length ≤ 100 := hsm.2 ym (by simp)
            have CD := delete_any (w.heap.size + 4) (.slice py ym.ms.length cy) ym.ms (w.heap.size + 1) (w.heap.size + 2) q u v t sl idx wr hv hoy hy1 (by omega) (by omega) hB ⟨r1, r2⟩
            have hfl := fun w => field_b ym.x ym.b py ym.ms.length cy w
            have hne : (Value.slice py ym.ms.length cy).ownBlock ≠ some b := fun e => map_ne hown hoy b e rfl
            have HDM : Hid (dm (bfP q u v idx) ym = if (ym.ms.filter (fun y => !bf y.p y.s y.i q u v idx)).length = 0 then none else some ⟨ym.x, false, ym.ms.filter (fun y => !bf y.p y.s y.i q u v idx)⟩) := rfl
            obtain ⟨l5, HL5⟩ := hid_ex (ym.ms.filter (fun y => !bf y.p y.s y.i q u v idx))
            rw [HL5.out] at CD HDM
            have HE : Hid (wo (fun y => decide (tx y ∈ G.take (k + 1))) (bfP q u v idx) x.mb = A.map (·.1) ++ (dm (bfP q u v idx) ym).toList ++ C.map (·.1)) := by
              show _ = _
              rw [HNX.out, List.map_append, List.map_cons, wo_mid _ hyt]
              · intro a ha
                obtain ⟨y', hy', rfl⟩ := List.mem_map.1 ha
                exact hA y' hy'
              · intro a ha
                obtain ⟨y', hy', rfl⟩ := List.mem_map.1 ha
                exact hC y' hy'
            clear HNX HMS hsm HL5 HW hyt
            have HOA : Hid (∀ a ∈ A ++ C, ∀ k, a.2.ownBlock = some k → (Value.slice py ym.ms.length cy).ownBlock ≠ some k) := hOB.apart
            go_wp2_with (first | (at_lookup; refine lookup_v rfl _ _ 76 rfl 9 41 law9 Try.underlying76 (Try.zeroValue41 _) rfl hown rfl hkey hat ?_))
            refine CD.mono ?_
            clear CD hfl hat
            rintro e w5 ⟨u5, rfl, ho5, hk5, hu5, hb5⟩
            obtain ⟨p5, c5, rfl⟩ := own_sl ho5
            replace hown := map_kp hown hk5 hne
            have HOB : Hid (OwnB (w.heap.size + 4) w5 (A ++ C)) := OwnB.others hOB hk5
            replace r1 : Rw w5 (w.heap.size + 1) 34 _ := (hb5.block _ (by omega)).trans r1
            replace r2 : Rw w5 (w.heap.size + 2) 3 _ := (hb5.block _ (by omega)).trans r2
            replace R3 : Rw w5 (w.heap.size + 3) 27 _ := (hb5.block _ (by omega)).trans R3
            replace hbel := hbel.trans (hb5.mono (show w.heap.size ≤ w.heap.size + 4 by omega))
            replace hB := Nat.le_trans hB hb5.size
            clear hOB hk5 hb5 hne hoy
            by_cases hl5 : l5.length = 0
            · have HDN : Hid (MapIs (D.del (.string (bs Y))) (A ++ C)) := by
                have h2 := hD.del (bs Y)
                rw [delV_mid (y := (ym, .slice py ym.ms.length cy)) HYT.out hA hC] at h2
                exact h2
              have HNY : Hid ((A ++ C).map (·.1) = wo (fun y => decide (tx y ∈ G.take (k + 1))) (bfP q u v idx) x.mb) := by
                show _ = _
                rw [HE.out, HDM.out, if_pos hl5, List.map_append]
                simp
              have hl5' : ((l5.length : Int) == 0) = true := by rw [hl5]; rfl
              clear hD hA hC HE HDM ho5 hu5 HOA
              go_wp2_with (first | (at_delete; refine wpList_delete_own _ rfl _ _ 76 9 rfl 41 law9 Try.underlying76 vE b _ _ rfl hown _ _ rfl hkey ?_; intro w7 hown7 ht7))
              have hg7 := ht7.grown
              go_roundw
              case rel => exact ⟨k + 1, by simp, by omega, ⟨⟨r1.turned hown hg7, r2.turned hown hg7⟩, R3.turned hown hg7, ⟨_, _, hown7.mono (by omega), HDN.out, HOB.out.turned hown hg7, HNY.out⟩, hbel.grown hg7 hbel.size (fun j hj => by cases hj; omega), Nat.le_trans hB hg7.size⟩⟩
              case measure => simp [intOf]; omega
            · have HDN : Hid (MapIs (D.put (.string (bs Y)) (.held (.agg #[.string Y, .bool false, .slice p5 l5.length c5]))) (A ++ (⟨Y, false, l5⟩, .slice p5 l5.length c5) :: C)) := by
                have h2 := hD.put (⟨Y, false, l5⟩, .slice p5 l5.length c5)
                rw [putV_mid (y := (ym, .slice py ym.ms.length cy)) HYT.out hA hC] at h2
                exact h2
              have HNY : Hid ((A ++ (⟨Y, false, l5⟩, .slice p5 l5.length c5) :: C).map (·.1) = wo (fun y => decide (tx y ∈ G.take (k + 1))) (bfP q u v idx) x.mb) := by
                show _ = _
                rw [HE.out, HDM.out, if_neg hl5, List.map_append, HYX.out]
                simp
              have HOC : Hid (OwnB (w.heap.size + 4) w5 (A ++ (⟨Y, false, l5⟩, .slice p5 l5.length c5) :: C)) := HOB.out.mid ho5 (fun k' hk' a ha h2 => by
                rcases hu5 with h3 | h3
                · rw [show (Value.slice p5 l5.length c5).ownBlock = some k' from hk'] at h3
                  cases h3
                · exact HOA.out a ha k' h2 (by rw [← h3]; exact hk'))
              have hl5' : ((l5.length : Int) == 0) = false := by
                rw [beq_eq_false_iff_ne]
                omega
              clear hD hA hC HE HDM ho5 hu5 HOA HOB
              go_wp2_with (first | (at_mapUpdate; refine wpList_mapUpdate_own _ rfl _ _ _ 76 rfl 9 41 law9 Try.underlying76 vE b _ _ rfl hown (by unfold maxLen; omega) _ _ _ rfl rfl hkey _ [] rfl ?_; intro w7 hown7 hg7))
              go_roundw
              case rel => exact ⟨k + 1, by simp, by omega, ⟨⟨r1.turned hown hg7, r2.turned hown hg7⟩, R3.turned hown hg7, ⟨_, _, hown7, HDN.out, HOC.out.turned hown hg7, HNY.out⟩, hbel.grown hg7 hbel.size (fun j hj => by cases hj; omega), Nat.le_trans hB hg7.size⟩⟩
              case measure => simp [intOf]; omega
        · have hlt' : ¬ (k : Int) < (G.length : Int) := by omega
          obtain rfl : k = G.length := by omega
          obtain ⟨⟨r1, r2⟩, R3, ⟨D, ms, hown, hD, hOB, hms⟩, hbel, hB⟩ := HW.out
          rw [List.take_length] at hms
          have hsm := wo_small hs (fun y => decide (tx y ∈ G)) (bfP q u v idx)
          have hwt := wo_text HCB.out (fun y => decide (tx y ∈ G)) (bfP q u v idx)
          rw [← hms] at hsm hwt
          have CC := cellOf_any b _ D ms wr hown hD (by omega) hOB.has (fun y hy => hwt y.1 (List.mem_map_of_mem hy)) (by have := hsm.1; rw [List.length_map] at this; omega)
          rw [hms] at CC
          clear hsm hwt hown hD hOB hms r1 r2 HW HG HGT
          go_wp2_with fail
          refine CC.mono ?_
          rintro e w5 ⟨ua, uw, um, ue, rfl, hf, hb5⟩
          obtain ⟨na, ea, nw, ew, nm, em, ne, ee, rfl, rfl, rfl, rfl⟩ := hf.slices
          replace R3 := R3.later hb5
          replace hbel := below_on hbel hb5
          clear CC
          have e := HQ2.out.symm
          subst e
          go_wp2_with (first | refine store_r rfl 27 _ _ rfl _ (cvc 4 0 (.slice na 0 ea) (.slice nw 0 ew) (.slice nm (wo (fun y => decide (tx y ∈ G)) (bfP q u v idx) x.mb).length em) (.slice ne 0 ee)) rfl rfl R3 size27 rfl (by simp [Value.oneCell']) ?_)
          refine bodyPost_ret (results_r rfl rfl (R3.row _) rfl Try.underlying27 size27) rfl ?_
          exact ⟨_, _, _, _, rfl, four4_row hf R3 _, below_setRow hbel (by omega) _⟩
end Go.Proofs.Ythekfmodafmlgaa
/- texts, Read of package orset. -/
namespace Go.Proofs.Ythekfmodafmlgaa
open Go.RowKit Go.Sort

def TtPost (l : List Bs) (w : World) (e : Ending) (w' : World) : Prop := ∃ u, e = .returned u ∧ THas w' u l ∧ Below w.heap.size w w'
theorem info9 : (Try.prog.info? 9).map (fun i => (i.zero, i.size, i.bytes)) = some (some (.string noS), 1, 16) := by kernel_rfl
theorem one_str (y : ByteArray) : ∀ u ∈ [Value.string y], u.oneCell' = true := by
  intro u hu
  rw [List.mem_singleton.1 hu]
  rfl
theorem bs_enc (x : ByteArray) : encStr (bs x) = .string x := rfl
theorem THas.nil (w : World) : THas w (.slice none 0 0) [] := SHas.nil w 1
theorem txL_take {l : List Mb} {k : Nat} (h : k < l.length) : (txL (l.take (k + 1))).map encStr = (txL (l.take k)).map encStr ++ [.string l[k].x] := by
  unfold txL
  rw [List.take_succ_eq_append_getElem h, List.map_append, List.map_append]
  rfl
set_option maxHeartbeats 2000000 in
set_option maxRecDepth 100000 in
theorem texts_any (v : Value) (l : List Mb) (w : World) (h : BHas w v l) (hl : l.length ≤ 200) : Calls Try.prog 29 #[v] w (TtPost (txL l) w) := by
  obtain ⟨i0, hi, hz0, hz1, hz2⟩ := info_parts info9
  obtain ⟨ys, hys, h, hy⟩ := h
  obtain ⟨p, c, rfl⟩ := h.slice
  have hyl : ys.length = l.length := by rw [← hys, List.length_map]
  have HR : Hid (SHas 3 w (.slice p l.length c) l.length (rows Mb.cells ys)) := h
  have HY : Hid (∀ y ∈ ys, MHas w y.2 y.1.ms) := hy
  have HL : Hid (∀ k (h1 : k < ys.length) (h2 : k < l.length), ys[k].1 = l[k]) := fun k h1 h2 => by
    subst hys
    rw [List.getElem_map]
  clear h hy hys
  go_enter Try.func29, Try.ntmps29
  go_wp2
  go_loopw [3, 8] (fun vn vi wr => ∃ k : Nat, vi = .int .i64 k ∧ k ≤ l.length ∧ wr.ownsRow w.heap.size 9 1 vn k ((txL (l.take k)).map encStr) ∧ Below w.heap.size w wr) (fun _ vi _ => l.length - (intOf vi).toNat)
  case atStart => exact ⟨0, rfl, by omega, by rw [List.take_zero]; exact World.ownsRow_nil _ _ _ _, Below.refl _ _⟩
  case round =>
    obtain ⟨k, rfl, hk, hown, hbel⟩ := hrel
    obtain ⟨P, cc, rfl⟩ := own_sl hown
    by_cases hlt : k < l.length
    · have hlt' : (k : Int) < (l.length : Int) := by omega
      obtain ⟨g, o, rfl, hd0⟩ := HR.out.at (by omega)
      have d := Mb.elem (range_later hd0 hbel) k (by omega)
      have hyk := (HY.out ys[k] (List.getElem_mem _)).later hbel
      have HT := txL_take hlt
      rw [← HL.out k (by omega) hlt] at HT
      have HTT : Hid ((txL (l.take (k + 1))).map encStr = (txL (l.take k)).map encStr ++ [.string (ys[k]'(by omega)).1.x]) := HT
      clear HT hd0
      obtain ⟨yy, HX⟩ := hid_ex (ys[k]'(by omega))
      rw [HX.out] at d hyk HTT
      obtain ⟨y, yv⟩ := yy
      replace hyk : MHas wr yv y.ms := hyk
      obtain ⟨py, cy, rfl⟩ := hyk.slice
      replace d : wr.rangeAt g (o + k * 3) [Value.string y.x, .bool y.b, .slice py y.ms.length cy] := d
      replace HTT : Hid ((txL (l.take (k + 1))).map encStr = (txL (l.take k)).map encStr ++ [.string y.x]) := HTT
      clear HX hyk
      have zb : (Try.prog.info? 41).map (·.size) = some [Value.string y.x, .bool y.b, .slice py y.ms.length cy].length := size41
      have R5 := rw_new wr 41 #[.string y.x, .bool y.b, .slice py y.ms.length cy]
      have hbA := bel_alloc (Below.refl wr.heap.size wr) (.cells #[.string y.x, .bool y.b, .slice py y.ms.length cy] 41)
      have hBg : ∀ q', (Value.slice P k cc).ownBlock = some q' → w.heap.size ≤ q' := fun q' hq => (World.ownsRow.lt hown q' hq).1
      replace hown := own_later hown hbA
      replace hbel := below_on hbel hbA
      generalize hW : wr.alloc (.cells #[.string y.x, .bool y.b, .slice py y.ms.length cy] 41) = w1 at R5 hown hbel
      have cx : w1.cell? ⟨wr.heap.size, 0, none⟩ = some (.string y.x) := R5.cell 0
      clear hbA
      go_wp2_with (first
        | rw [hW]
        | refine load_m 41 _ rfl rfl _ _ rfl d Try.underlying41 rfl zb ?_
        | (at_builtin; refine wpList_append_own _ rfl _ _ 38 rfl w.heap.size 9 i0 (.string noS) 1 16 Try.underlying38 hi hz0 hz1 hz2 rfl (by decide) _ _ _ rfl (hown.alloc _) ⟨w1.heap.size, 0, none⟩ 1 1 [.string y.x] rfl rfl ?c1 ?c2 ?c3 ?c4 ?c5 ?_))
      case c1 => exact fun q u hq => (cells_next _ (by simp) _ _ _).trans hq
      case c2 => exact one_str y.x
      case c3 => unfold maxLen; omega
      case c4 => omega
      case c5 => have := hbel.size; simp; omega
      intro v2 w6 hown6 hg6 _
      go_wp2_with fail
      go_roundw
      case rel => exact ⟨k + 1, by simp, by omega, by rw [HTT.out]; exact hown6, (bel_alloc hbel _).grown hg6 (by have := hbel.size; simp; omega) (fun q' hq => hBg q' hq)⟩
      case measure => simp [intOf]; omega
    · have hlt' : ¬ (k : Int) < (l.length : Int) := by omega
      obtain rfl : k = l.length := by omega
      rw [List.take_length] at hown
      have hsh := own_sh hown
      have HS : Hid (SHas 1 wr (.slice P l.length cc) l.length ((txL l).map encStr)) := hsh
      clear HR HY HL hown hsh
      go_wp2_with fail
      go_ret
      refine ⟨_, rfl, ?_, hbel⟩
      show SHas 1 _ _ (txL l).length _
      rw [show (txL l).length = l.length by simp [txL]]
      exact HS.out
abbrev VV (k : Int) (u : Value) : Value := .agg #[.int .i64 k, .int .i64 0, u, .slice none 0 0]
/-- What is read. -/
def rdK (x : X) : Int := if ck x = true then 4 else 0
def rdT (x : X) : List Bs := if ck x = true then txL x.mb else []
def RdPost (x : X) (w : World) (e : Ending) (w' : World) : Prop := ∃ u, e = .returned (VV (rdK x) u) ∧ THas w' u (rdT x) ∧ Below w.heap.size w w'
def thP (l : List Bs) : Value → World → Prop := fun u w => THas w u l
theorem thP_keeps (l : List Bs) : Keeps (thP l) := fun _ _ _ h hb => h.later hb
theorem THas.rowV {w : World} {v : Value} {l : List Bs} (h : THas w v l) {b : Nat} {k n : Int} {p q : Option Addr} {lp cp lq cq : Nat} (R : Rw w b 48 #[.int .i64 k, .int .i64 n, .slice p lp cp, .slice q lq cq]) (cs : Array Value) : THas (w.setRow b cs) v l := by
  obtain ⟨hm, hl, ⟨rfl, h0⟩ | ⟨ad, cc, rfl, hc', hd⟩⟩ := h
  · exact ⟨hm, hl, .inl ⟨rfl, h0⟩⟩
  · refine ⟨hm, hl, .inr ⟨ad, cc, rfl, hc', fun h => ?_⟩⟩
    obtain ⟨g, o, rfl, hd2⟩ := hd h
    refine ⟨g, o, rfl, range_row hd2 ?_ cs⟩
    rintro rfl
    have h0 : 0 < (l.map encStr).length := by simpa using h
    have h1 := hd2 0 _ (List.getElem?_eq_getElem h0)
    rw [R.cell, List.getElem_map] at h1
    match o, h1 with
    | 0, h1 => exact absurd (Option.some.inj h1) (by simp)
    | 1, h1 => exact absurd (Option.some.inj h1) (by simp)
    | 2, h1 => exact absurd (Option.some.inj h1) (by simp)
    | 3, h1 => exact absurd (Option.some.inj h1) (by simp)
    | o + 4, h1 => simp at h1
set_option maxHeartbeats 2000000 in
set_option maxRecDepth 100000 in
theorem read_any (x : X) (va vw vm ve : Value) (w : World) (h : Four w x va vw vm ve) (hs : Sm x) : Calls Try.prog 13 #[CV x.k x.b va vw vm ve] w (RdPost x w) := by
  obtain ⟨pa, ca', pw, cw, pm, cm, pe, ce, rfl, rfl, rfl, rfl⟩ := h.slices
  have HF : Hid (Four w x (.slice pa x.am.length ca') (.slice pw x.wr.length cw) (.slice pm x.mb.length cm) (.slice pe x.el.length ce)) := h
  clear h
  have R0 := (rw_new w 27 (cvc x.k x.b (.slice pa x.am.length ca') (.slice pw x.wr.length cw) (.slice pm x.mb.length cm) (.slice pe x.el.length ce))).alloc (.cells #[.int .i64 0, .int .i64 0, .slice none 0 0, .slice none 0 0] 48)
  have R1 := rw_new (w.alloc (.cells (cvc x.k x.b (.slice pa x.am.length ca') (.slice pw x.wr.length cw) (.slice pm x.mb.length cm) (.slice pe x.el.length ce)) 27)) 48 #[.int .i64 0, .int .i64 0, .slice none 0 0, .slice none 0 0]
  have hbel := bel_alloc (bel_alloc (Below.refl w.heap.size w) (.cells (cvc x.k x.b (.slice pa x.am.length ca') (.slice pw x.wr.length cw) (.slice pm x.mb.length cm) (.slice pe x.el.length ce)) 27)) (.cells #[.int .i64 0, .int .i64 0, .slice none 0 0, .slice none 0 0] 48)
  generalize hW : (w.alloc (.cells (cvc x.k x.b (.slice pa x.am.length ca') (.slice pw x.wr.length cw) (.slice pm x.mb.length cm) (.slice pe x.el.length ce)) 27)).alloc (.cells #[.int .i64 0, .int .i64 0, .slice none 0 0, .slice none 0 0] 48) = w0 at R0 R1 hbel
  simp only [World.size_alloc] at R1
  have HP : Hid (∀ e w', RdPost x w e w' ↔ ∃ u, e = .returned (VV (rdK x) u) ∧ THas w' u (rdT x) ∧ Below w.heap.size w w') := fun _ _ => Iff.rfl
  go_enter Try.func13, Try.ntmps13
  go_wp2_with (first | rw [hW] | refine load_r 27 _ rfl rfl _ rfl R0 Try.underlying27 rfl size27 ?_)
  clear hW
  refine (check_any x _ _ _ _ w0 (HF.out.later hbel) hs).mono ?_
  rintro e w1 ⟨rfl, hb1⟩
  replace R0 := R0.later hb1
  replace R1 := R1.later hb1
  replace hbel := below_on hbel hb1
  clear hb1
  obtain ⟨y1, HY1⟩ := hid_ex (ck x)
  have HK : Hid (rdK x = if y1 = true then 4 else 0) := by show _ = _; unfold rdK; rw [HY1.out]
  have HT : Hid (rdT x = if y1 = true then txL x.mb else []) := by show _ = _; unfold rdT; rw [HY1.out]
  rw [HY1.out]
  clear HY1
  cases y1
  · have hz : (cvc 0 0 (.slice none 0 0) (.slice none 0 0) (.slice none 0 0) (.slice none 0 0)).size = 6 := rfl
    go_wp2_with (first | refine store_r rfl 48 _ _ rfl _ #[.int .i64 0, .int .i64 0, .slice none 0 0, .slice none 0 0] rfl rfl R1 size48 rfl (by simp [Value.oneCell']) ?_)
    refine bodyPost_ret (results_r rfl rfl (R1.row _) rfl Try.underlying48 size48) rfl ?_
    rw [HP.out, HK.out, HT.out]
    exact ⟨_, rfl, THas.nil _, below_setRow hbel (by omega) _⟩
  · have c4 : w1.cell? ⟨w.heap.size, 4, none⟩ = some (.slice pm x.mb.length cm) := R0.cell 4
    go_wp2_with fail
    refine (texts_any _ x.mb w1 (HF.out.m.later hbel) (by have := hs.m; omega)).mono ?_
    rintro e w2 ⟨ut, rfl, ht, hb2⟩
    obtain ⟨pt, ct, rfl⟩ := ht.slice
    replace R1 := R1.later hb2
    replace hbel := below_on hbel hb2
    go_wp2_with (first | refine store_r rfl 48 _ _ rfl _ #[.int .i64 4, .int .i64 0, .slice pt (txL x.mb).length ct, .slice none 0 0] rfl rfl R1 size48 rfl (by simp [Value.oneCell']) ?_)
    refine bodyPost_ret (results_r rfl rfl (R1.row _) rfl Try.underlying48 size48) rfl ?_
    rw [HP.out, HK.out, HT.out]
    exact ⟨_, rfl, ht.rowV R1 _, below_setRow hbel (by omega) _⟩
end Go.Proofs.Ythekfmodafmlgaa
/- Del and Clear of package orset. -/
namespace Go.Proofs.Ythekfmodafmlgaa
open Go.RowKit Go.Sort

theorem range_off3 {w : World} {g o b : Nat} {xs : List Value} (h : w.rangeAt g o xs) {r : Value} (h0 : xs[2]? = some r) (hr : ∀ p l c, r ≠ .slice p l c) {t : TypeId} {k i : Int} {pa : Option Addr} {la ca : Nat} {pw : Option Addr} {lw cw : Nat} {pm : Option Addr} {lm cm : Nat} {pe : Option Addr} {le ce : Nat} (R : Rw w b t (cvc k i (.slice pa la ca) (.slice pw lw cw) (.slice pm lm cm) (.slice pe le ce))) : g ≠ b := by
  rintro rfl
  have h2 := h 2 _ h0
  rw [R.cell] at h2
  match o, h2 with
  | 0, h2 => exact hr _ _ _ (Option.some.inj h2).symm
  | 1, h2 => exact hr _ _ _ (Option.some.inj h2).symm
  | 2, h2 => exact hr _ _ _ (Option.some.inj h2).symm
  | 3, h2 => exact hr _ _ _ (Option.some.inj h2).symm
  | o + 4, h2 => simp at h2
theorem EHas.row {w : World} {v : Value} {l : List El} (h : EHas w v l) {b : Nat} {t : TypeId} {k i : Int} {pa : Option Addr} {la ca : Nat} {pw : Option Addr} {lw cw : Nat} {pm : Option Addr} {lm cm : Nat} {pe : Option Addr} {le ce : Nat} (R : Rw w b t (cvc k i (.slice pa la ca) (.slice pw lw cw) (.slice pm lm cm) (.slice pe le ce))) (cs : Array Value) : EHas (w.setRow b cs) v l := by
  obtain ⟨ys, h1, h2, h3⟩ := h
  refine ⟨ys, h1, ?_, fun y hy => (h3 y hy).row (M.flat _) (by decide) R cs⟩
  obtain ⟨hm, hl, ⟨rfl, h0⟩ | ⟨ad, cc, rfl, hc', hd⟩⟩ := h2
  · exact ⟨hm, hl, .inl ⟨rfl, h0⟩⟩
  · refine ⟨hm, hl, .inr ⟨ad, cc, rfl, hc', fun h => ?_⟩⟩
    obtain ⟨g, o, rfl, hd2⟩ := hd h
    refine ⟨g, o, rfl, range_row hd2 ?_ cs⟩
    have hy : 0 < ys.length := by rw [← h1, List.length_map] at h; exact h
    have h4 := rows_at El.len ys 0 hy 2 (.int .i64 ys[0].1.i) rfl
    rw [Nat.zero_mul, Nat.zero_add] at h4
    exact range_off3 hd2 h4 (fun _ _ _ e => by cases e) R
theorem Four.row {w : World} {x : X} {va vw vm ve : Value} (h : Four w x va vw vm ve) {b : Nat} {t : TypeId} {k i : Int} {pa : Option Addr} {la ca : Nat} {pw : Option Addr} {lw cw : Nat} {pm : Option Addr} {lm cm : Nat} {pe : Option Addr} {le ce : Nat} (R : Rw w b t (cvc k i (.slice pa la ca) (.slice pw lw cw) (.slice pm lm cm) (.slice pe le ce))) (cs : Array Value) : Four (w.setRow b cs) x va vw vm ve :=
  ⟨h.a.row (A.flat _) (by decide) R cs, h.t.row (Wt.flat _) (by decide) R cs, h.m.row R cs, h.e.row R cs⟩
theorem one_in (s : Bs) : (fun y : Mb => decide (tx y ∈ [s])) = fun y => decide (tx y = s) := funext fun y => by simp
set_option maxHeartbeats 4000000 in
set_option maxRecDepth 100000 in
theorem del_any (x : X) (va vw vm ve : Value) (q u : Int) (v : List Int) (t : Int) (sl : Value) (idx : Int) (s : ByteArray) (w : World) (hv : v.length = 13) (h : Four w x va vw vm ve) (hs : Sm x) (hx : s.size ≤ 1000) :
    Calls Try.prog 14 #[CV x.k x.b va vw vm ve, TxV q u v t sl, .int .i64 idx, .string s] w (Gives (delX x q u v idx s) w) := by
  obtain ⟨pa, ca', pw, cw, pm, cm, pe, ce, rfl, rfl, rfl, rfl⟩ := h.slices
  have HF : Hid (Four w x (.slice pa x.am.length ca') (.slice pw x.wr.length cw) (.slice pm x.mb.length cm) (.slice pe x.el.length ce)) := h
  clear h
  have R0 := ((rw_new w 27 (cvc x.k x.b (.slice pa x.am.length ca') (.slice pw x.wr.length cw) (.slice pm x.mb.length cm) (.slice pe x.el.length ce))).alloc (.cells (txc q u v t sl).toArray 34)).alloc (.cells (cvc 0 0 (.slice none 0 0) (.slice none 0 0) (.slice none 0 0) (.slice none 0 0)) 27)
  have R1 := (rw_new (w.alloc (.cells (cvc x.k x.b (.slice pa x.am.length ca') (.slice pw x.wr.length cw) (.slice pm x.mb.length cm) (.slice pe x.el.length ce)) 27)) 34 (txc q u v t sl).toArray).alloc (.cells (cvc 0 0 (.slice none 0 0) (.slice none 0 0) (.slice none 0 0) (.slice none 0 0)) 27)
  have R2 := rw_new ((w.alloc (.cells (cvc x.k x.b (.slice pa x.am.length ca') (.slice pw x.wr.length cw) (.slice pm x.mb.length cm) (.slice pe x.el.length ce)) 27)).alloc (.cells (txc q u v t sl).toArray 34)) 27 (cvc 0 0 (.slice none 0 0) (.slice none 0 0) (.slice none 0 0) (.slice none 0 0))
  have hbel := bel_alloc (bel_alloc (bel_alloc (Below.refl w.heap.size w) (.cells (cvc x.k x.b (.slice pa x.am.length ca') (.slice pw x.wr.length cw) (.slice pm x.mb.length cm) (.slice pe x.el.length ce)) 27)) (.cells (txc q u v t sl).toArray 34)) (.cells (cvc 0 0 (.slice none 0 0) (.slice none 0 0) (.slice none 0 0) (.slice none 0 0)) 27)
  have hsz : (((w.alloc (.cells (cvc x.k x.b (.slice pa x.am.length ca') (.slice pw x.wr.length cw) (.slice pm x.mb.length cm) (.slice pe x.el.length ce)) 27)).alloc (.cells (txc q u v t sl).toArray 34)).alloc (.cells (cvc 0 0 (.slice none 0 0) (.slice none 0 0) (.slice none 0 0) (.slice none 0 0)) 27)).heap.size = w.heap.size + 3 := by simp
  generalize hW : ((w.alloc (.cells (cvc x.k x.b (.slice pa x.am.length ca') (.slice pw x.wr.length cw) (.slice pm x.mb.length cm) (.slice pe x.el.length ce)) 27)).alloc (.cells (txc q u v t sl).toArray 34)).alloc (.cells (cvc 0 0 (.slice none 0 0) (.slice none 0 0) (.slice none 0 0) (.slice none 0 0)) 27) = w0 at R0 R1 R2 hbel hsz
  simp only [World.size_alloc, Nat.add_assoc, Nat.reduceAdd] at R1 R2
  have zt := size_tx (p := q) (s := u) (t := t) (sl := sl) hv
  obtain ⟨z, HZ⟩ := hid_ex (delX x q u v idx s)
  rw [HZ.out]
  have hbA := bel_alloc (Below.refl w0.heap.size w0) (.cells #[.string s] 38)
  have HT : Hid (THas (w0.alloc (.cells #[.string s] 9)) (.slice (some ⟨w0.heap.size, 0, none⟩) 1 1) [bs s]) := ⟨by show 1 ≤ maxLen; unfold maxLen; omega, rfl, .inr ⟨_, 1, rfl, ⟨Nat.le_refl _, by unfold maxLen; omega⟩, fun _ => ⟨_, 0, rfl, Rw.whole (rw_new w0 9 #[.string s])⟩⟩⟩
  have C : Calls Try.prog 30 #[CV x.k x.b (.slice pa x.am.length ca') (.slice pw x.wr.length cw) (.slice pm x.mb.length cm) (.slice pe x.el.length ce), TxV q u v t sl, .int .i64 idx, .slice (some ⟨w0.heap.size, 0, none⟩) 1 1] (w0.alloc (.cells #[.string s] 9)) (Gives z (w0.alloc (.cells #[.string s] 9))) := by
    have := without_any x _ _ _ _ q u v t sl idx _ [bs s] (w0.alloc (.cells #[.string s] 9)) hv (HF.out.later (below_on hbel (bel_alloc (Below.refl _ _) _))) hs HT.out (by simp) (fun _ s' hs' => by
      rw [List.mem_singleton.1 hs']
      simpa using hx)
    rw [one_in] at this
    rw [← HZ.out]
    exact this
  have HSZ : Hid (w0.heap.size = w.heap.size + 3) := hsz
  clear hsz hbA
  go_enter Try.func14, Try.ntmps14
  go_wp2_with (first | rw [hW] | refine load_r 27 _ rfl rfl _ rfl R0 Try.underlying27 rfl size27 ?_ | refine load_r 34 _ rfl rfl _ rfl R1 Try.underlying34 rfl zt ?_)
  clear hW
  refine C.mono ?_
  rintro e w1 ⟨ua, uw, um, ue, rfl, hf, hb1⟩
  obtain ⟨na, ea, nw, ew, nm, em, ne, ee, rfl, rfl, rfl, rfl⟩ := hf.slices
  have hb2 := below_on (bel_alloc (Below.refl w0.heap.size w0) (.cells #[.string s] 9)) hb1
  replace R2 := R2.later hb2
  replace hbel := below_on hbel hb2
  clear C hb1 hb2 R0 R1
  go_wp2_with (first | refine store_r rfl 27 _ _ rfl _ (cvc z.k z.b (.slice na z.am.length ea) (.slice nw z.wr.length ew) (.slice nm z.mb.length em) (.slice ne z.el.length ee)) rfl rfl R2 size27 rfl (by simp [Value.oneCell']) ?_)
  refine bodyPost_ret (results_r rfl rfl (R2.row _) rfl Try.underlying27 size27) rfl ?_
  exact ⟨_, _, _, _, rfl, hf.row R2 _, below_setRow hbel (by omega) _⟩
end Go.Proofs.Ythekfmodafmlgaa
/- Clear of package orset. -/
namespace Go.Proofs.Ythekfmodafmlgaa
open Go.RowKit
open Go.Sort

theorem wo_congr {G H : Mb → Bool} (p : M → Bool) {l : List Mb} (h : ∀ y ∈ l, G y = H y) : wo G p l = wo H p l := by
  unfold wo
  induction l with
  | nil => rfl
  | cons y l ih =>
    rw [List.filterMap_cons, List.filterMap_cons, h y (by simp), ih (fun z hz => h z (by simp [hz]))]
theorem woX_congr {G H : Mb → Bool} (p : M → Bool) {x : X} (i : Int) (h : ∀ y ∈ x.mb, G y = H y) : woX x i G p = woX x i H p := by
  unfold woX
  rw [wo_congr p h]
theorem ck_text {x : X} (h : ck x = true) : ∀ y ∈ x.mb, y.x.size ≤ 64 := fun y hy => by
  have h1 := ((cb_pair _).1 (ck_parts h).2.2.2.2.2).1 y hy
  unfold ib at h1
  simp only [Bool.and_eq_true, decide_eq_true_eq] at h1
  exact h1.2.1
set_option maxHeartbeats 4000000 in
set_option maxRecDepth 100000 in
theorem clear_any (x : X) (va vw vm ve : Value) (q u : Int) (v : List Int) (t : Int) (sl : Value) (idx : Int) (w : World) (hv : v.length = 13) (h : Four w x va vw vm ve) (hs : Sm x) :
    Calls Try.prog 20 #[CV x.k x.b va vw vm ve, TxV q u v t sl, .int .i64 idx] w (Gives (clX x q u v idx) w) := by
  obtain ⟨pa, ca', pw, cw, pm, cm, pe, ce, rfl, rfl, rfl, rfl⟩ := h.slices
  have HF : Hid (Four w x (.slice pa x.am.length ca') (.slice pw x.wr.length cw) (.slice pm x.mb.length cm) (.slice pe x.el.length ce)) := h
  clear h
  have R0 := ((rw_new w 27 (cvc x.k x.b (.slice pa x.am.length ca') (.slice pw x.wr.length cw) (.slice pm x.mb.length cm) (.slice pe x.el.length ce))).alloc (.cells (txc q u v t sl).toArray 34)).alloc (.cells (cvc 0 0 (.slice none 0 0) (.slice none 0 0) (.slice none 0 0) (.slice none 0 0)) 27)
  have R1 := (rw_new (w.alloc (.cells (cvc x.k x.b (.slice pa x.am.length ca') (.slice pw x.wr.length cw) (.slice pm x.mb.length cm) (.slice pe x.el.length ce)) 27)) 34 (txc q u v t sl).toArray).alloc (.cells (cvc 0 0 (.slice none 0 0) (.slice none 0 0) (.slice none 0 0) (.slice none 0 0)) 27)
  have R2 := rw_new ((w.alloc (.cells (cvc x.k x.b (.slice pa x.am.length ca') (.slice pw x.wr.length cw) (.slice pm x.mb.length cm) (.slice pe x.el.length ce)) 27)).alloc (.cells (txc q u v t sl).toArray 34)) 27 (cvc 0 0 (.slice none 0 0) (.slice none 0 0) (.slice none 0 0) (.slice none 0 0))
  have hbel := bel_alloc (bel_alloc (bel_alloc (Below.refl w.heap.size w) (.cells (cvc x.k x.b (.slice pa x.am.length ca') (.slice pw x.wr.length cw) (.slice pm x.mb.length cm) (.slice pe x.el.length ce)) 27)) (.cells (txc q u v t sl).toArray 34)) (.cells (cvc 0 0 (.slice none 0 0) (.slice none 0 0) (.slice none 0 0) (.slice none 0 0)) 27)
  have hsz : (((w.alloc (.cells (cvc x.k x.b (.slice pa x.am.length ca') (.slice pw x.wr.length cw) (.slice pm x.mb.length cm) (.slice pe x.el.length ce)) 27)).alloc (.cells (txc q u v t sl).toArray 34)).alloc (.cells (cvc 0 0 (.slice none 0 0) (.slice none 0 0) (.slice none 0 0) (.slice none 0 0)) 27)).heap.size = w.heap.size + 3 := by simp
  generalize hW : ((w.alloc (.cells (cvc x.k x.b (.slice pa x.am.length ca') (.slice pw x.wr.length cw) (.slice pm x.mb.length cm) (.slice pe x.el.length ce)) 27)).alloc (.cells (txc q u v t sl).toArray 34)).alloc (.cells (cvc 0 0 (.slice none 0 0) (.slice none 0 0) (.slice none 0 0) (.slice none 0 0)) 27) = w0 at R0 R1 R2 hbel hsz
  simp only [World.size_alloc, Nat.add_assoc, Nat.reduceAdd] at R1 R2
  have zt := size_tx (p := q) (s := u) (t := t) (sl := sl) hv
  obtain ⟨z, HZ⟩ := hid_ex (clX x q u v idx)
  rw [HZ.out]
  have HE : Hid (woX x idx (fun y => decide (tx y ∈ txL x.mb)) (bfP q u v idx) = z) := by
    show _ = _
    rw [← HZ.out]
    exact woX_congr _ _ (fun y hy => decide_eq_true (List.mem_map_of_mem hy))
  have C : ∀ (w' : World) (ug : Value), Below w0.heap.size w0 w' → THas w' ug (txL x.mb) → Calls Try.prog 30 #[CV x.k x.b (.slice pa x.am.length ca') (.slice pw x.wr.length cw) (.slice pm x.mb.length cm) (.slice pe x.el.length ce), TxV q u v t sl, .int .i64 idx, ug] w' (Gives z w') := fun w' ug hb hg => by
    have := without_any x _ _ _ _ q u v t sl idx ug (txL x.mb) w' hv (HF.out.later (below_on hbel hb)) hs hg (by have := hs.m; simp [txL]; omega) (fun hc s' hs' => by
      obtain ⟨y, hy, rfl⟩ := List.mem_map.1 hs'
      have := ck_text hc y hy
      have e : (tx y).length = y.x.size := by simp [tx, bs]
      omega)
    rw [HE.out] at this
    exact this
  have HSZ : Hid (w0.heap.size = w.heap.size + 3) := hsz
  clear hsz HZ HE
  have zx : (Try.prog.info? 27).map (·.size) = some ([Value.int .i64 x.k, .int .i64 x.b, .slice pa x.am.length ca', .slice pw x.wr.length cw, .slice pm x.mb.length cm, .slice pe x.el.length ce] : List Value).length := size27
  have ztx : (Try.prog.info? 34).map (·.size) = some (txc q u v t sl).length := by rw [txc_length hv]; exact size34
  go_enter Try.func20, Try.ntmps20
  go_wp2_with (first | rw [hW])
  clear hW
  have hS : Calm.Stays (fun w' => Below w0.heap.size w0 w') := fun wa wb h hb => below_on h hb
  have hF : Facts.Stay [pF 0 (eqP (.agg ([Value.int .i64 x.k, .int .i64 x.b, .slice pa x.am.length ca', .slice pw x.wr.length cw, .slice pm x.mb.length cm, .slice pe x.el.length ce] : List Value).toArray)), pF 1 (eqP (.agg (txc q u v t sl).toArray)), pF 2 (eqP (.int .i64 idx)), pF 3 (eqP (.pointer (some ⟨w.heap.size, 4, none⟩))), pF 4 (eqP (.slice pm x.mb.length cm)), pF 5 (thP (txL x.mb)), pF 6 (cP z)] := stay_of (by simp only [List.forall_mem_cons]; exact ⟨⟨_, _, rfl, eqP_keeps _⟩, ⟨_, _, rfl, eqP_keeps _⟩, ⟨_, _, rfl, eqP_keeps _⟩, ⟨_, _, rfl, eqP_keeps _⟩, ⟨_, _, rfl, eqP_keeps _⟩, ⟨_, _, rfl, thP_keeps _⟩, ⟨_, _, rfl, cP_keeps _⟩, fun _ h => by cases h⟩)
  refine Facts.regionTail (by kernel_rfl) (by kernel_rfl) 7 (by decide) (by kernel_rfl) (fun w' => Below w0.heap.size w0 w') (fun xv => { tmps := #[CV x.k x.b (Value.slice pa x.am.length ca') (Value.slice pw x.wr.length cw) (Value.slice pm x.mb.length cm) (Value.slice pe x.el.length ce), TxV q u v t sl, Value.int IntKind.i64 idx, Value.pointer (some { block := w.heap.size, off := 0 }), Value.pointer (some { block := w.heap.size + 1, off := 0 }), undef, Value.pointer (some { block := w.heap.size + 1 + 1, off := 0 }), xv 0, xv 1, xv 2, xv 3, xv 4, xv 5, xv 6], defers := [] }) [pF 0 (eqP (.agg ([Value.int .i64 x.k, .int .i64 x.b, .slice pa x.am.length ca', .slice pw x.wr.length cw, .slice pm x.mb.length cm, .slice pe x.el.length ce] : List Value).toArray)), pF 1 (eqP (.agg (txc q u v t sl).toArray)), pF 2 (eqP (.int .i64 idx)), pF 3 (eqP (.pointer (some ⟨w.heap.size, 4, none⟩))), pF 4 (eqP (.slice pm x.mb.length cm)), pF 5 (thP (txL x.mb)), pF 6 (cP z)] _ rfl rfl (by kernel_rfl) (fun j => [undef, undef, undef, undef, undef, undef, undef].getD j undef) rfl (Below.refl _ w0).drew ⟨?_, ?_, ?_, ?_, ?_, ?_, ?_, ?_, trivial⟩ ?_
  · exact fun _ => Facts.loadP hS hF (fun _ _ => rfl) 27 Try.underlying27 rfl zx _ rfl rfl (fun xv wv hSw hd => by rfl) (fun wv hSw => Rw.whole (cs := [Value.int .i64 x.k, .int .i64 x.b, .slice pa x.am.length ca', .slice pw x.wr.length cw, .slice pm x.mb.length cm, .slice pe x.el.length ce]) (R0.later hSw))
  · exact fun _ => Facts.loadP hS hF (fun _ _ => rfl) 34 Try.underlying34 rfl ztx _ rfl rfl (fun xv wv hSw hd => by rfl) (fun wv hSw => Rw.whole (cs := (txc q u v t sl)) (R1.later hSw))
  · exact fun _ => Facts.pureP hS hF (fun _ _ => rfl) rfl (fun xv wv hSw hd => by
      go_simp)
  · exact fun _ => Facts.pureP hS hF (fun _ _ => rfl) rfl (fun xv wv hSw hd => by
      go_simp)
  · exact fun _ => Facts.pureP hS hF (fun _ _ => rfl) rfl (fun xv wv hSw hd => by
      have d3 : xv 3 = _ := pF_get (hd ⟨3, .data⟩ (by simp) rfl _ rfl)
      have g1 : w0.cell? ⟨w.heap.size, 4, none⟩ = some (.slice pm x.mb.length cm) := R0.cell 4
      have g2 := cell_later hSw g1
      simp only [d3]
      go_simp)
  · refine fun _ => Facts.call1P hS hF (fun _ _ => rfl) rfl (by kernel_rfl) rfl (fun xv wv hSw hd => ?_)
    have d4 : xv 4 = _ := pF_get (hd ⟨4, .data⟩ (by simp) rfl _ rfl)
    show Calls Try.prog 29 #[xv 4] wv _
    rw [d4]
    refine (texts_any _ x.mb wv (HF.out.m.later (below_on hbel hSw)) (by have := hs.m; omega)).mono ?_
    rintro e w' ⟨u, he, ht, hb⟩
    exact ⟨u, he, ht, hb⟩
  · refine fun _ => Facts.call4P hS hF (fun _ _ => rfl) rfl (by kernel_rfl) rfl (fun xv wv hSw hd => ?_)
    have d0 : xv 0 = _ := pF_get (hd ⟨0, .data⟩ (by simp) rfl _ rfl)
    have d1 : xv 1 = _ := pF_get (hd ⟨1, .data⟩ (by simp) rfl _ rfl)
    have d2 : xv 2 = _ := pF_get (hd ⟨2, .data⟩ (by simp) rfl _ rfl)
    have d5 := pF_get (hd ⟨5, .data⟩ (by simp) rfl _ rfl)
    show Calls Try.prog 30 #[xv 0, xv 1, xv 2, xv 5] wv _
    rw [d0, d1, d2]
    exact (C wv _ hSw d5).mono fun e w' h => gives_p h
  · exact fun h => absurd h (by decide)
  intro x9 w5 hb5 hf
  have e6 := pF_get (hf 6 _ rfl)
  obtain ⟨ua, uw, um, ue, ez, hz⟩ := e6
  obtain ⟨na, ea, nw, ew, nm, em, ne, ee, rfl, rfl, rfl, rfl⟩ := hz.slices
  replace R2 := R2.later hb5
  replace hbel := below_on hbel hb5
  clear hS hF hf C R0 R1
  refine tail_store 27 _ _ rfl (w.heap.size + 2) 0 rfl (show _ = CV z.k z.b (.slice na z.am.length ea) (.slice nw z.wr.length ew) (.slice nm z.mb.length em) (.slice ne z.el.length ee) from ez) (R2.store (cvc z.k z.b (.slice na z.am.length ea) (.slice nw z.wr.length ew) (.slice nm z.mb.length em) (.slice ne z.el.length ee)) size27 rfl (by simp [Value.oneCell'])) ?_
  refine Facts.tailWp_nil ?_
  go_wp2_with fail
  refine bodyPost_ret (results_r rfl rfl (R2.row (cvc z.k z.b (.slice na z.am.length ea) (.slice nw z.wr.length ew) (.slice nm z.mb.length em) (.slice ne z.el.length ee))) rfl Try.underlying27 size27) rfl ?_
  exact ⟨_, _, _, _, rfl, hz.row R2 _, below_setRow hbel (by omega) _⟩
end Go.Proofs.Ythekfmodafmlgaa
