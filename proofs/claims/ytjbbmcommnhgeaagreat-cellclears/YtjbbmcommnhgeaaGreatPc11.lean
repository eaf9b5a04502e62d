import Derived.Test.YtjbbmcommnhgeaaGreatPc10
set_option maxRecDepth 100000
set_option maxHeartbeats 8000000
namespace Go.Proofs.YtjbbmcommnhgeaaGreat.Os
open Go.RowKit Go.Sort Go.Maps Go.WideMaps
theorem _root_.Go.Proofs.YtjbbmcommnhgeaaGreat.SHas.zero {S : Nat} {w w' : World} {v : Value} {xs : List Value} (h : SHas S w v 0 xs) : SHas S w' v 0 xs := by
 obtain ⟨hm, hl, ⟨rfl, _⟩ | ⟨ad, c, rfl, hc, hd⟩⟩ := h
 ·exact ⟨hm, hl, .inl ⟨rfl, rfl⟩⟩
 ·exact ⟨hm, hl, .inr ⟨ad, c, rfl, hc, fun h => by omega⟩⟩
theorem four4_row {w : World} {l : List Mb} {va vw vm ve : Value} (h : Four w (x4 l) va vw vm ve) {b : Nat} {t : TypeId} {k i : Int} {pa : Option Addr} {la ca : Nat} {pw : Option Addr} {lw cw : Nat} {pm : Option Addr} {lm cm : Nat} {pe : Option Addr} {le ce : Nat} (R : Rw w b t (cvc k i (.slice pa la ca) (.slice pw lw cw) (.slice pm lm cm) (.slice pe le ce))) (cs : Array Value) : Four (w.setRow b cs) (x4 l) va vw vm ve := by
 obtain ⟨ha, ht, hm, ⟨es, e3, e4, _⟩⟩ := h
 obtain rfl := List.map_eq_nil_iff.1 e3
 exact ⟨SHas.zero ha, SHas.zero ht, hm.row R cs, ⟨[], rfl, SHas.zero e4, fun _ h => by cases h⟩⟩
theorem field_b (s : ByteArray) (b : Bool) (p : Option Addr) (n c : Nat) (w : World) : (Instr.field 67 (.agg #[.string s, .bool b, .slice p n c]) 2).run Tryz.prog w = .ok (.slice p n c) w := by
 simp [Instr.field, go_sem, asAgg]
structure WI (w : World) (B : Nat) (x : X) (q u : Int) (v : List Int) (t : Int) (sl : Value) (idx : Int) (b : Nat) (Gd : List Bs) (n : Nat) (wr : World) : Prop where
 r : Bxs wr (w.heap.size + 1) (w.heap.size + 2) q u v t sl idx
 z : Rw wr (w.heap.size + 3) 27 z4
 i : ∃ D ms, wr.ownsMap Tryz.prog 9 vE b n D ∧ MapIs D ms ∧ OwnB B wr ms ∧ ms.map (·.1) = wo (fun y => decide (tx y ∈ Gd)) (bfP q u v idx) x.mb
 b : Below w.heap.size w wr
 s : B ≤ wr.heap.size
theorem wo_small {x : X} (hs : Sm x) (G : Mb → Bool) (p : M → Bool) : (wo G p x.mb).length ≤ 100 ∧ ∀ y ∈ wo G p x.mb, y.ms.length ≤ 100 := by
 refine ⟨Nat.le_trans (wo_length _ _ _) hs.m, fun z hz => ?_⟩
 obtain ⟨y, hy, rfl | e⟩ := wo_sub hz
 ·exact hs.mi _ hy
 ·exact Nat.le_trans (dm_length e) (hs.mi _ hy)
theorem wo_text {l : List Mb} (h : cb l = true) (G : Mb → Bool) (p : M → Bool) : ∀ y ∈ wo G p l, y.x.size ≤ 64 := fun z hz => by
 have h1 := ((cb_pair _).1 (wo_cb h G p)).1 z hz
 unfold ib at h1
 simp only [Bool.and_eq_true, decide_eq_true_eq] at h1
 exact h1.2.1
theorem without_any (x : X) (va vw vm ve : Value) (q u : Int) (v : List Int) (t : Int) (sl : Value) (idx : Int) (vg : Value) (G : List Bs) (w : World) (hv : v.length = 13) (h : Four w x va vw vm ve) (hs : Sm x) (hg : THas w vg G) (hgl : G.length ≤ 200) (hgt : ck x = true → ∀ s ∈ G, s.length ≤ 1000) :
  Calls Tryz.prog 85 #[CV x.k x.b va vw vm ve, TxV q u v t sl, .int .i64 idx, vg] w (Gives (woX x idx (fun y => decide (tx y ∈ G)) (bfP q u v idx)) w) := by
 obtain ⟨pa, ca', pw, cw, pm, cm, pe, ce, rfl, rfl, rfl, rfl⟩ := h.slices
 obtain ⟨pg, cg, rfl⟩ := hg.slice
 have HF : Hid (Four w x (.slice pa x.am.length ca') (.slice pw x.wr.length cw) (.slice pm x.mb.length cm) (.slice pe x.el.length ce)) := h
 have HG : Hid (THas w (.slice pg G.length cg) G) := hg
 clear h hg
 obtain ⟨z, HZ⟩ := hid_ex (woX x idx (fun y => decide (tx y ∈ G)) (bfP q u v idx))
 rw [HZ.out]
 have R0 := ((((rw_new w 27 (cvc x.k x.b (.slice pa x.am.length ca') (.slice pw x.wr.length cw) (.slice pm x.mb.length cm) (.slice pe x.el.length ce))).alloc (.cells (txc q u v t sl).toArray 34)).alloc (.cells #[.int .i64 idx] 3)).alloc (.cells z4 27))
 have R1 := (((rw_new (w.alloc (.cells (cvc x.k x.b (.slice pa x.am.length ca') (.slice pw x.wr.length cw) (.slice pm x.mb.length cm) (.slice pe x.el.length ce)) 27)) 34 (txc q u v t sl).toArray).alloc (.cells #[.int .i64 idx] 3)).alloc (.cells z4 27))
 have R2 := ((rw_new ((w.alloc (.cells (cvc x.k x.b (.slice pa x.am.length ca') (.slice pw x.wr.length cw) (.slice pm x.mb.length cm) (.slice pe x.el.length ce)) 27)).alloc (.cells (txc q u v t sl).toArray 34)) 3 #[.int .i64 idx]).alloc (.cells z4 27))
 have R3 := (rw_new (((w.alloc (.cells (cvc x.k x.b (.slice pa x.am.length ca') (.slice pw x.wr.length cw) (.slice pm x.mb.length cm) (.slice pe x.el.length ce)) 27)).alloc (.cells (txc q u v t sl).toArray 34)).alloc (.cells #[.int .i64 idx] 3)) 27 z4)
 have hbel := bel_alloc (bel_alloc (bel_alloc (bel_alloc (Below.refl w.heap.size w) (.cells (cvc x.k x.b (.slice pa x.am.length ca') (.slice pw x.wr.length cw) (.slice pm x.mb.length cm) (.slice pe x.el.length ce)) 27)) (.cells (txc q u v t sl).toArray 34)) (.cells #[.int .i64 idx] 3)) (.cells z4 27)
 have hsz : ((((w.alloc (.cells (cvc x.k x.b (.slice pa x.am.length ca') (.slice pw x.wr.length cw) (.slice pm x.mb.length cm) (.slice pe x.el.length ce)) 27)).alloc (.cells (txc q u v t sl).toArray 34)).alloc (.cells #[.int .i64 idx] 3)).alloc (.cells z4 27)).heap.size = w.heap.size + 4 := by simp
 generalize hW : ((((w.alloc (.cells (cvc x.k x.b (.slice pa x.am.length ca') (.slice pw x.wr.length cw) (.slice pm x.mb.length cm) (.slice pe x.el.length ce)) 27)).alloc (.cells (txc q u v t sl).toArray 34)).alloc (.cells #[.int .i64 idx] 3)).alloc (.cells z4 27)) = w0 at R0 R1 R2 R3 hbel hsz
 simp only [World.size_alloc, Nat.add_assoc, Nat.reduceAdd] at R1 R2 R3
 go_enter Tryz.func85, Tryz.ntmps85
 go_wp2_with (first | rw [hW] | refine load_r 27 _ rfl rfl _ rfl R0 Tryz.underlying27 rfl size27 ?_)
 clear hW
 refine (copied_any x _ _ _ _ w0 (HF.out.later hbel) hs).mono ?_
 rintro e w1 ⟨ua, uw, um, ue, rfl, ho, hb1⟩
 obtain ⟨qa, da, qw, dw, qm, dx, qe, de, rfl, rfl, rfl, rfl⟩ := ho.four.slices
 rw [hsz] at ho
 replace R0 := R0.later hb1
 replace R1 := R1.later hb1
 replace R2 := R2.later hb1
 replace R3 := R3.later hb1
 replace hbel := below_on hbel hb1
 have hB : w.heap.size + 4 ≤ w1.heap.size := by have := hb1.size; omega
 clear hb1 hsz
 have ho2 := ho.row (by omega) R0 (cvc x.k x.b (.slice qa x.am.length da) (.slice qw x.wr.length dw) (.slice qm x.mb.length dx) (.slice qe x.el.length de))
 have hbs := below_setRow hbel (Nat.le_refl w.heap.size) (cvc x.k x.b (.slice qa x.am.length da) (.slice qw x.wr.length dw) (.slice qm x.mb.length dx) (.slice qe x.el.length de))
 have hB2 : w.heap.size + 4 ≤ (w1.setRow w.heap.size (cvc x.k x.b (.slice qa x.am.length da) (.slice qw x.wr.length dw) (.slice qm x.mb.length dx) (.slice qe x.el.length de))).heap.size := by simpa [World.setRow] using hB
 replace R1 := R1.rowOther (q := w.heap.size) (by omega) (cvc x.k x.b (.slice qa x.am.length da) (.slice qw x.wr.length dw) (.slice qm x.mb.length dx) (.slice qe x.el.length de))
 replace R2 := R2.rowOther (q := w.heap.size) (by omega) (cvc x.k x.b (.slice qa x.am.length da) (.slice qw x.wr.length dw) (.slice qm x.mb.length dx) (.slice qe x.el.length de))
 replace R3 := R3.rowOther (q := w.heap.size) (by omega) (cvc x.k x.b (.slice qa x.am.length da) (.slice qw x.wr.length dw) (.slice qm x.mb.length dx) (.slice qe x.el.length de))
 have R4 := R0.row (cvc x.k x.b (.slice qa x.am.length da) (.slice qw x.wr.length dw) (.slice qm x.mb.length dx) (.slice qe x.el.length de))
 generalize hW : w1.setRow w.heap.size (cvc x.k x.b (.slice qa x.am.length da) (.slice qw x.wr.length dw) (.slice qm x.mb.length dx) (.slice qe x.el.length de)) = w2 at ho2 hbs hB2 R1 R2 R3 R4
 go_wp2_with (first | rw [hW] | refine store_r rfl 27 _ _ rfl _ (cvc x.k x.b (.slice qa x.am.length da) (.slice qw x.wr.length dw) (.slice qm x.mb.length dx) (.slice qe x.el.length de)) rfl rfl R0 size27 rfl (by simp [Value.oneCell']) ?_ | refine load_r 27 _ rfl rfl _ rfl R4 Tryz.underlying27 rfl size27 ?_)
 clear hW ho hbel hB R0
 refine (check_any x _ _ _ _ w2 ho2.four hs).mono ?_
 rintro e w3 ⟨rfl, hb1⟩
 replace R1 := R1.later hb1
 replace R2 := R2.later hb1
 replace R3 := R3.later hb1
 replace R4 := R4.later hb1
 replace ho2 := ho2.later hb1
 replace hbs := below_on hbs hb1
 replace hB2 := Nat.le_trans hB2 hb1.size
 clear hb1
 have c2 : w3.cell? ⟨w.heap.size + 2, 0, none⟩ = some (.int .i64 idx) := R2.cell 0
 have HQ : Hid (z = if (ck x && im idx) = true then { x with mb := wo (fun y => decide (tx y ∈ G)) (bfP q u v idx) x.mb } else x) := by
  show _ = _
  rw [← HZ.out]
  rfl
 clear HZ
 obtain ⟨y1, HY1⟩ := hid_ex (ck x)
 rw [HY1.out] at HQ ⊢
 cases y1
 ·have e := HQ.out
  rw [show (false && im idx) = false from rfl, if_neg (by decide)] at e
  have e := e.symm
  subst e
  go_wp2_with (first | refine load_r 27 _ rfl rfl _ rfl R4 Tryz.underlying27 rfl size27 ?_ | refine store_r rfl 27 _ _ rfl _ (cvc x.k x.b (.slice qa x.am.length da) (.slice qw x.wr.length dw) (.slice qm x.mb.length dx) (.slice qe x.el.length de)) rfl rfl R3 size27 rfl (by simp [Value.oneCell']) ?_)
  refine bodyPost_ret (results_r rfl rfl (R3.row (cvc x.k x.b (.slice qa x.am.length da) (.slice qw x.wr.length dw) (.slice qm x.mb.length dx) (.slice qe x.el.length de))) rfl Tryz.underlying27 size27) rfl ?_
  exact ⟨_, _, _, _, rfl, (ho2.row (by omega) R3 (cvc x.k x.b (.slice qa x.am.length da) (.slice qw x.wr.length dw) (.slice qm x.mb.length dx) (.slice qe x.el.length de))).four, below_setRow hbs (by omega) _⟩
 ·have hii : decide (idx < 1) = !im idx := by unfold im; by_cases h : idx < 1 <;> simp [h] <;> omega
  obtain ⟨y2, HY2⟩ := hid_ex (im idx)
  rw [HY2.out] at hii HQ
  cases y2
  ·have e := HQ.out
   rw [show (true && false) = false from rfl, if_neg (by decide)] at e
   have e := e.symm
   subst e
   have hid : decide (idx < 1) = true := hii
   have hil : idx < 1 := of_decide_eq_true hii
   go_wp2_with (first | refine load_r 27 _ rfl rfl _ rfl R4 Tryz.underlying27 rfl size27 ?_ | refine store_r rfl 27 _ _ rfl _ (cvc x.k x.b (.slice qa x.am.length da) (.slice qw x.wr.length dw) (.slice qm x.mb.length dx) (.slice qe x.el.length de)) rfl rfl R3 size27 rfl (by simp [Value.oneCell']) ?_)
   refine bodyPost_ret (results_r rfl rfl (R3.row (cvc x.k x.b (.slice qa x.am.length da) (.slice qw x.wr.length dw) (.slice qm x.mb.length dx) (.slice qe x.el.length de))) rfl Tryz.underlying27 size27) rfl ?_
   exact ⟨_, _, _, _, rfl, (ho2.row (by omega) R3 (cvc x.k x.b (.slice qa x.am.length da) (.slice qw x.wr.length dw) (.slice qm x.mb.length dx) (.slice qe x.el.length de))).four, below_setRow hbs (by omega) _⟩
  ·have e := HQ.out
   rw [show (true && true) = true from rfl, if_pos rfl, ck_x4 HY1.out] at e
   have HQ2 : Hid (z = x4 (wo (fun y => decide (tx y ∈ G)) (bfP q u v idx) x.mb)) := e
   have hil : ¬ idx < 1 := of_decide_eq_false hii
   have HGT : Hid (∀ s ∈ G, s.length ≤ 1000) := hgt HY1.out
   obtain ⟨ms, hms, hom, hOB⟩ := ho2.m
   have hcb := (ck_parts HY1.out).2.2.2.2.2
   have hcp := (cb_pair _).1 hcb
   have hup : upB ms := by
    have h2 := hcp.2
    rw [← hms] at h2
    unfold upm at h2
    rw [List.pairwise_map] at h2
    exact h2
   have htx : ∀ y ∈ ms, y.1.x.size ≤ 64 := fun y hy => by
    have h1 := hcp.1 y.1 (by rw [← hms]; exact List.mem_map_of_mem hy)
    unfold ib at h1
    simp only [Bool.and_eq_true, decide_eq_true_eq] at h1
    exact h1.2.1
   have hml : ms.length = x.mb.length := by rw [← hms, List.length_map]
   have hlm : ms.length ≤ 100 := by rw [hml]; exact hs.m
   have HCB : Hid (cb x.mb = true) := hcb
   have c4 : w3.cell? ⟨w.heap.size, 4, none⟩ = some (.slice qm x.mb.length dx) := R4.cell 4
   rw [← hml] at hom c4
   have CB := byText_any (.slice qm ms.length dx) ms w3 (own_sh hom) hOB.has hlm htx hup
   clear e HQ hii HY2 hcp hgt hup htx hcb hml
   go_wp2_with fail
   refine CB.mono ?_
   clear CB c2 c4
   rintro e w4 ⟨b, D, rfl, hbb, hown, hD, hb4⟩
   have WI0 : WI w (w.heap.size + 4) x q u v t sl idx b [] 100 w4 := ⟨⟨R1.later hb4, R2.later hb4⟩, R3.later hb4, ⟨D, ms, hown.mono hlm, hD, hOB.later hb4, by rw [hms, wo_none]; intro y _; simp⟩, below_on hbs hb4, Nat.le_trans hB2 hb4.size⟩
   have hbB : w.heap.size + 4 ≤ b := Nat.le_trans hB2 hbb
   clear R1 R2 R3 R4 hom hOB hD hown hb4 hB2 hbb ho2 hms hlm hbs HF
   go_wp2_with fail
   go_loopw [28] (fun vi wr => ∃ k : Nat, vi = .int .i64 k ∧ k ≤ G.length ∧ WI w (w.heap.size + 4) x q u v t sl idx b (G.take k) (100 + k) wr) (fun vi _ => G.length - (intOf vi).toNat)
   case atStart => exact ⟨0, rfl, by omega, WI0⟩
   case round =>
    clear WI0
    obtain ⟨k, rfl, hk, HI⟩ := hrel
    have HW : Hid (WI w (w.heap.size + 4) x q u v t sl idx b (G.take k) (100 + k) wr) := HI
    clear HI
    by_cases hlt : k < G.length
    ·have hlt' : (k : Int) < (G.length : Int) := by omega
     obtain ⟨g, o, rfl, hd0⟩ := HG.out.at (by omega)
     have hd := range_later hd0 HW.out.b
     obtain ⟨Y, HY⟩ := hid_ex (⟨G[k].toArray⟩ : ByteArray)
     have c1 : wr.cell? ⟨g, o + k, none⟩ = some (.string Y) := by
      have := hd k _ (by simp [hlt]; rfl)
      rw [this, ← HY.out]
     have hY : bs Y = G[k] := by rw [← HY.out]
     have hYs : Y.size ≤ 1000 := by
      have h1 := HGT.out G[k] (List.getElem_mem _)
      rw [← hY] at h1
      simpa using h1
     have HTK : Hid (G.take (k + 1) = G.take k ++ [bs Y]) := by
      show _ = _
      rw [List.take_succ_eq_append_getElem hlt, hY]
     have hkey : keyOf Tryz.prog 9 (.string Y) = some (.string (bs Y)) := keyOf_string_mk Tryz.underlying9 (by unfold maxLen; omega)
     clear hd0 hd hY HY
     obtain ⟨⟨r1, r2⟩, R3, ⟨D, ms, hown, hD, hOB, hms⟩, hbel, hB⟩ := HW.out
     have HMS : Hid (ms.map (·.1) = wo (fun y => decide (tx y ∈ G.take k)) (bfP q u v idx) x.mb) := hms
     have HNX : Hid (wo (fun y => decide (tx y ∈ G.take (k + 1))) (bfP q u v idx) x.mb = wo (fun y => decide (tx y = bs Y)) (bfP q u v idx) (ms.map (·.1))) := by
      show _ = _
      rw [HTK.out, hms, wo_more]
     have hsm := wo_small hs (fun y => decide (tx y ∈ G.take k)) (bfP q u v idx)
     rw [← hms] at hsm
     clear hms HTK
     rcases upB_split hD.u (bs Y) with hno | ⟨A, y, C, rfl, hyt, hA, hC⟩
     ·have hat := hD.off hno (.held (.agg #[.string noS, .bool false, .slice none 0 0]))
      have CD := delete_any (w.heap.size + 4) (.slice none 0 0) [] (w.heap.size + 1) (w.heap.size + 2) q u v t sl idx wr hv (World.ownsRow_nil _ _ _ _) (by decide) (by omega) (by omega) hB ⟨r1, r2⟩
      have hfl := fun w => field_b noS false none 0 0 w
      go_wp2_with (first | (at_lookup; refine lookup_v rfl _ _ 111 rfl 9 67 law9 Tryz.underlying111 (Tryz.zeroValue67 _) rfl hown rfl hkey hat ?_))
      refine CD.mono ?_
      clear CD hfl hat
      rintro e w5 ⟨u5, rfl, ho5, hk5, hu5, hb5⟩
      replace ho5 : w5.ownsRow (w.heap.size + 4) 50 3 u5 0 [] := ho5
      have hb6 := below_kp hb5 hk5
      obtain ⟨p5, c5, rfl⟩ := own_sl ho5
      replace hown := map_later hown hb6
      have HOB : Hid (OwnB (w.heap.size + 4) w5 ms) := hOB.later hb6
      replace r1 := r1.later hb6
      replace r2 := r2.later hb6
      replace R3 := R3.later hb6
      replace hbel := below_on hbel hb6
      replace hB := Nat.le_trans hB hb6.size
      have HDN : Hid (MapIs (D.del (.string (bs Y))) ms) := by
       have h2 := hD.del (bs Y)
       rw [delV_none hno] at h2
       exact h2
      have HNY : Hid (ms.map (·.1) = wo (fun y => decide (tx y ∈ G.take (k + 1))) (bfP q u v idx) x.mb) := by
       show _ = _
       rw [HNX.out, wo_none]
       intro a ha
       obtain ⟨y', hy', rfl⟩ := List.mem_map.1 ha
       exact decide_eq_false (hno y' hy')
      clear ho5 hk5 hu5 hb5 hb6 hD hOB hno HNX HMS hsm HW
      go_wp2_with (first | (at_delete; refine wpList_delete_own _ rfl _ _ 111 9 rfl 67 law9 Tryz.underlying111 vE b _ _ rfl hown _ _ rfl hkey ?_; intro w7 hown7 ht7))
      have hg7 := ht7.grown
      go_roundw
      case rel => exact ⟨k + 1, by simp, by omega, ⟨⟨r1.turned hown hg7, r2.turned hown hg7⟩, R3.turned hown hg7, ⟨_, ms, hown7.mono (by omega), HDN.out, HOB.out.turned hown hg7, HNY.out⟩, hbel.grown hg7 hbel.size (fun j hj => by cases hj; omega), Nat.le_trans hB hg7.size⟩⟩
      case measure => simp [intOf]; omega
     ·obtain ⟨ym, yv⟩ := y
      have hoy := hOB.o (ym, yv) (by simp)
      replace hoy : wr.ownsRow (w.heap.size + 4) 50 3 yv ym.ms.length (rows M.cells ym.ms) := hoy
      obtain ⟨py, cy, rfl⟩ := own_sl hoy
      replace hyt : tx ym = bs Y := hyt
      have HYX : Hid (ym.x = Y) := bs_inj hyt
      have HYT : Hid (tx ym = bs Y) := hyt
      have hat : D.atKey (.string (bs Y)) (.held (.agg #[.string noS, .bool false, .slice none 0 0])) = .held (.agg #[.string ym.x, .bool ym.b, .slice py ym.ms.length cy]) := hD.at (y := (ym, .slice py ym.ms.length cy)) (by simp) hyt _
      have hy1 : ym.ms.length ≤ 100 := hsm.2 ym (by simp)
      have CD := delete_any (w.heap.size + 4) (.slice py ym.ms.length cy) ym.ms (w.heap.size + 1) (w.heap.size + 2) q u v t sl idx wr hv hoy hy1 (by omega) (by omega) hB ⟨r1, r2⟩
      have hfl := fun w => field_b ym.x ym.b py ym.ms.length cy w
      have hne : (Value.slice py ym.ms.length cy).ownBlock ≠ some b := fun e => map_ne hown hoy b e rfl
      have HDM : Hid (dm (bfP q u v idx) ym = if (ym.ms.filter (fun y => !bf y.p y.s y.i q u v idx)).length = 0 then none else some ⟨ym.x, false, ym.ms.filter (fun y => !bf y.p y.s y.i q u v idx)⟩) := rfl
      obtain ⟨l5, HL5⟩ := hid_ex (ym.ms.filter (fun y => !bf y.p y.s y.i q u v idx))
      rw [HL5.out] at CD HDM
      have HE : Hid (wo (fun y => decide (tx y ∈ G.take (k + 1))) (bfP q u v idx) x.mb = A.map (·.1) ++ (dm (bfP q u v idx) ym).toList ++ C.map (·.1)) := by
       show _ = _
       rw [HNX.out, List.map_append, List.map_cons, wo_mid _ hyt]
       ·intro a ha
        obtain ⟨y', hy', rfl⟩ := List.mem_map.1 ha
        exact hA y' hy'
       ·intro a ha
        obtain ⟨y', hy', rfl⟩ := List.mem_map.1 ha
        exact hC y' hy'
      clear HNX HMS hsm HL5 HW hyt
      have HOA : Hid (∀ a ∈ A ++ C, ∀ k, a.2.ownBlock = some k → (Value.slice py ym.ms.length cy).ownBlock ≠ some k) := hOB.apart
      go_wp2_with (first | (at_lookup; refine lookup_v rfl _ _ 111 rfl 9 67 law9 Tryz.underlying111 (Tryz.zeroValue67 _) rfl hown rfl hkey hat ?_))
      refine CD.mono ?_
      clear CD hfl hat
      rintro e w5 ⟨u5, rfl, ho5, hk5, hu5, hb5⟩
      obtain ⟨p5, c5, rfl⟩ := own_sl ho5
      replace hown := map_kp hown hk5 hne
      have HOB : Hid (OwnB (w.heap.size + 4) w5 (A ++ C)) := OwnB.others hOB hk5
      replace r1 : Rw w5 (w.heap.size + 1) 34 _ := (hb5.block _ (by omega)).trans r1
      replace r2 : Rw w5 (w.heap.size + 2) 3 _ := (hb5.block _ (by omega)).trans r2
      replace R3 : Rw w5 (w.heap.size + 3) 27 _ := (hb5.block _ (by omega)).trans R3
      replace hbel := hbel.trans (hb5.mono (show w.heap.size ≤ w.heap.size + 4 by omega))
      replace hB := Nat.le_trans hB hb5.size
      clear hOB hk5 hb5 hne hoy
      by_cases hl5 : l5.length = 0
      ·have HDN : Hid (MapIs (D.del (.string (bs Y))) (A ++ C)) := by
        have h2 := hD.del (bs Y)
        rw [delV_mid (y := (ym, .slice py ym.ms.length cy)) HYT.out hA hC] at h2
        exact h2
       have HNY : Hid ((A ++ C).map (·.1) = wo (fun y => decide (tx y ∈ G.take (k + 1))) (bfP q u v idx) x.mb) := by
        show _ = _
        rw [HE.out, HDM.out, if_pos hl5, List.map_append]
        simp
       have hl5' : ((l5.length : Int) == 0) = true := by rw [hl5]; rfl
       clear hD hA hC HE HDM ho5 hu5 HOA
       go_wp2_with (first | (at_delete; refine wpList_delete_own _ rfl _ _ 111 9 rfl 67 law9 Tryz.underlying111 vE b _ _ rfl hown _ _ rfl hkey ?_; intro w7 hown7 ht7))
       have hg7 := ht7.grown
       go_roundw
       case rel => exact ⟨k + 1, by simp, by omega, ⟨⟨r1.turned hown hg7, r2.turned hown hg7⟩, R3.turned hown hg7, ⟨_, _, hown7.mono (by omega), HDN.out, HOB.out.turned hown hg7, HNY.out⟩, hbel.grown hg7 hbel.size (fun j hj => by cases hj; omega), Nat.le_trans hB hg7.size⟩⟩
       case measure => simp [intOf]; omega
      ·have HDN : Hid (MapIs (D.put (.string (bs Y)) (.held (.agg #[.string Y, .bool false, .slice p5 l5.length c5]))) (A ++ (⟨Y, false, l5⟩, .slice p5 l5.length c5) :: C)) := by
        have h2 := hD.put (⟨Y, false, l5⟩, .slice p5 l5.length c5)
        rw [putV_mid (y := (ym, .slice py ym.ms.length cy)) HYT.out hA hC] at h2
        exact h2
       have HNY : Hid ((A ++ (⟨Y, false, l5⟩, .slice p5 l5.length c5) :: C).map (·.1) = wo (fun y => decide (tx y ∈ G.take (k + 1))) (bfP q u v idx) x.mb) := by
        show _ = _
        rw [HE.out, HDM.out, if_neg hl5, List.map_append, HYX.out]
        simp
       have HOC : Hid (OwnB (w.heap.size + 4) w5 (A ++ (⟨Y, false, l5⟩, .slice p5 l5.length c5) :: C)) := HOB.out.mid ho5 (fun k' hk' a ha h2 => by
        rcases hu5 with h3 | h3
        ·rw [show (Value.slice p5 l5.length c5).ownBlock = some k' from hk'] at h3
         cases h3
        ·exact HOA.out a ha k' h2 (by rw [← h3]; exact hk'))
       have hl5' : ((l5.length : Int) == 0) = false := by
        rw [beq_eq_false_iff_ne]
        omega
       clear hD hA hC HE HDM ho5 hu5 HOA HOB
       go_wp2_with (first | (at_mapUpdate; refine wpList_mapUpdate_own _ rfl _ _ _ 111 rfl 9 67 law9 Tryz.underlying111 vE b _ _ rfl hown (by unfold maxLen; omega) _ _ _ rfl rfl hkey _ [] rfl ?_; intro w7 hown7 hg7))
       go_roundw
       case rel => exact ⟨k + 1, by simp, by omega, ⟨⟨r1.turned hown hg7, r2.turned hown hg7⟩, R3.turned hown hg7, ⟨_, _, hown7, HDN.out, HOC.out.turned hown hg7, HNY.out⟩, hbel.grown hg7 hbel.size (fun j hj => by cases hj; omega), Nat.le_trans hB hg7.size⟩⟩
       case measure => simp [intOf]; omega
    ·have hlt' : ¬ (k : Int) < (G.length : Int) := by omega
     obtain rfl : k = G.length := by omega
     obtain ⟨⟨r1, r2⟩, R3, ⟨D, ms, hown, hD, hOB, hms⟩, hbel, hB⟩ := HW.out
     rw [List.take_length] at hms
     have hsm := wo_small hs (fun y => decide (tx y ∈ G)) (bfP q u v idx)
     have hwt := wo_text HCB.out (fun y => decide (tx y ∈ G)) (bfP q u v idx)
     rw [← hms] at hsm hwt
     have CC := cellOf_any b _ D ms wr hown hD (by omega) hOB.has (fun y hy => hwt y.1 (List.mem_map_of_mem hy)) (by have := hsm.1; rw [List.length_map] at this; omega)
     rw [hms] at CC
     clear hsm hwt hown hD hOB hms r1 r2 HW HG HGT
     go_wp2_with fail
     refine CC.mono ?_
     rintro e w5 ⟨ua, uw, um, ue, rfl, hf, hb5⟩
     obtain ⟨na, ea, nw, ew, nm, em, ne, ee, rfl, rfl, rfl, rfl⟩ := hf.slices
     replace R3 := R3.later hb5
     replace hbel := below_on hbel hb5
     clear CC
     have e := HQ2.out.symm
     subst e
     go_wp2_with (first | refine store_r rfl 27 _ _ rfl _ (cvc 4 0 (.slice na 0 ea) (.slice nw 0 ew) (.slice nm (wo (fun y => decide (tx y ∈ G)) (bfP q u v idx) x.mb).length em) (.slice ne 0 ee)) rfl rfl R3 size27 rfl (by simp [Value.oneCell']) ?_)
     refine bodyPost_ret (results_r rfl rfl (R3.row _) rfl Tryz.underlying27 size27) rfl ?_
     exact ⟨_, _, _, _, rfl, four4_row hf R3 _, below_setRow hbel (by omega) _⟩
end Go.Proofs.YtjbbmcommnhgeaaGreat.Os
namespace Go.Proofs.YtjbbmcommnhgeaaGreat
open Go.RowKit
theorem Wt.len (x : Wt) : x.cells.length = 5 := rfl
theorem Wt.elem {w : World} {l : List Wt} {g o : Nat} (h : w.rangeAt g o (rows Wt.cells l)) (k : Nat) (hk : k < l.length) : w.rangeAt g (o + k * 5) l[k].cells :=
 range_sub h (k * 5) fun j u hu => rows_at Wt.len l k hk j u hu
structure Fw (x : X) : Prop where
 n : x.am.length + x.wr.length + x.mb.length + x.el.length ≤ 60
 m : ∀ y ∈ x.mb, y.ms.length ≤ 30
 e : ∀ y ∈ x.el, y.gone.length ≤ 30
theorem Fw.sm {x : X} (h : Fw x) : Sm x := by
 obtain ⟨h1, h2, h3⟩ := h
 exact ⟨by omega, by omega, by omega, by omega, fun y hy => by have := h2 y hy; omega, fun y hy => by have := h3 y hy; omega⟩
structure Lk (x : X) : Prop where
 a : x.am.length ≤ 17592186044416
 t : x.wr.length ≤ 17592186044416
 m : x.mb.length ≤ 17592186044416
 e : x.el.length ≤ 17592186044416
def FwPost (x : X) (w : World) (e : Ending) (w' : World) : Prop := ∃ b, e = .returned (.bool b) ∧ (b = true → Fw x) ∧ Below w.heap.size w w'
theorem El.elem {w : World} {l : List (El × Value)} {g o : Nat} (h : w.rangeAt g o (rows El.cells l)) (k : Nat) (hk : k < l.length) : w.rangeAt g (o + k * 9) (El.cells l[k]) :=
 range_sub h (k * 9) fun j u hu => rows_at El.len l k hk j u hu
theorem few_any (x : X) (va vw vm ve : Value) (w : World) (h : Four w x va vw vm ve) (hl : Lk x) : Calls Tryz.prog 7 #[CV x.k x.b va vw vm ve] w (FwPost x w) := by
 obtain ⟨pa, ca', pw, cw, pm, cm, pe, ce, rfl, rfl, rfl, rfl⟩ := h.slices
 have HT : Hid (WHas w (.slice pw x.wr.length cw) x.wr) := h.t
 have HM : Hid (BHas w (.slice pm x.mb.length cm) x.mb) := h.m
 have HE : Hid (EHas w (.slice pe x.el.length ce) x.el) := h.e
 clear h
 obtain ⟨l1, l2, l3, l4⟩ := hl
 have R0 := rw_new w 27 (cvc x.k x.b (.slice pa x.am.length ca') (.slice pw x.wr.length cw) (.slice pm x.mb.length cm) (.slice pe x.el.length ce))
 have hbel := bel_alloc (Below.refl w.heap.size w) (.cells (cvc x.k x.b (.slice pa x.am.length ca') (.slice pw x.wr.length cw) (.slice pm x.mb.length cm) (.slice pe x.el.length ce)) 27)
 generalize hW : w.alloc (.cells (cvc x.k x.b (.slice pa x.am.length ca') (.slice pw x.wr.length cw) (.slice pm x.mb.length cm) (.slice pe x.el.length ce)) 27) = w0 at R0 hbel
 have c2 : w0.cell? ⟨w.heap.size, 2, none⟩ = some (.slice pa x.am.length ca') := R0.cell 2
 have c3 : w0.cell? ⟨w.heap.size, 3, none⟩ = some (.slice pw x.wr.length cw) := R0.cell 3
 have c4 : w0.cell? ⟨w.heap.size, 4, none⟩ = some (.slice pm x.mb.length cm) := R0.cell 4
 have c5 : w0.cell? ⟨w.heap.size, 5, none⟩ = some (.slice pe x.el.length ce) := R0.cell 5
 have w1 : IntKind.i64.wrap ((x.am.length : Int) + (x.wr.length : Int)) = (x.am.length : Int) + (x.wr.length : Int) := by rw [IntKind.wrap_i64]; omega
 have w2 : IntKind.i64.wrap ((x.am.length : Int) + (x.wr.length : Int) + (x.mb.length : Int)) = (x.am.length : Int) + (x.wr.length : Int) + (x.mb.length : Int) := by rw [IntKind.wrap_i64]; omega
 have w3 : IntKind.i64.wrap ((x.am.length : Int) + (x.wr.length : Int) + (x.mb.length : Int) + (x.el.length : Int)) = (x.am.length : Int) + (x.wr.length : Int) + (x.mb.length : Int) + (x.el.length : Int) := by rw [IntKind.wrap_i64]; omega
 by_cases h60 : x.am.length + x.wr.length + x.mb.length + x.el.length ≤ 60
 ·have h60' : ¬ 60 < (x.am.length : Int) + (x.wr.length : Int) + (x.mb.length : Int) + (x.el.length : Int) := by omega
  have HN : Hid (x.am.length + x.wr.length + x.mb.length + x.el.length ≤ 60) := h60
  go_enter Tryz.func7, Tryz.ntmps7
  go_wp2_with (first | rw [hW])
  clear hW c2 c3 c4 c5 w1 w2 w3
  have hwl : x.wr.length ≤ 60 := by omega
  have hml : x.mb.length ≤ 60 := by omega
  have hel : x.el.length ≤ 60 := by omega
  clear h60 h60' l1 l2 l3 l4
  go_loopw [3] (fun vi wr => ∃ k : Nat, vi = .int .i64 k ∧ k ≤ x.wr.length ∧ Rw wr w.heap.size 27 (cvc x.k x.b (.slice pa x.am.length ca') (.slice pw x.wr.length cw) (.slice pm x.mb.length cm) (.slice pe x.el.length ce)) ∧ Below w.heap.size w wr) (fun vi _ => x.wr.length - (intOf vi).toNat)
  case atStart => exact ⟨0, rfl, by omega, R0, hbel⟩
  case round =>
   clear R0 hbel
   obtain ⟨k, rfl, hk, R0, hbel⟩ := hrel
   have c3 : wr.cell? ⟨w.heap.size, 3, none⟩ = some (.slice pw x.wr.length cw) := R0.cell 3
   by_cases hlt : k < x.wr.length
   ·have hlt' : (k : Int) < (x.wr.length : Int) := by omega
    obtain ⟨g, o, rfl, hd0⟩ := HT.out.at (by omega)
    have d := Wt.elem (range_later hd0 hbel) k hlt 4 _ rfl
    clear hd0
    by_cases hx : 100 < (x.wr[k].x.size : Int)
    ·go_wp2_with fail
     go_ret
     exact ⟨false, rfl, (fun h => by cases h), hbel⟩
    ·go_wp2_with fail
     go_roundw
     case rel => exact ⟨k + 1, by simp, by omega, R0, hbel⟩
     case measure => simp [intOf]; omega
   ·obtain rfl : k = x.wr.length := by omega
    have hlt' : ¬ (x.wr.length : Int) < (x.wr.length : Int) := by omega
    clear HT
    go_wp2_with fail
    clear c3
    go_loopw [4] (fun vi wr => ∃ k : Nat, vi = .int .i64 k ∧ k ≤ x.mb.length ∧ Hid (∀ i (h : i < x.mb.length), i < k → x.mb[i].ms.length ≤ 30) ∧ Rw wr w.heap.size 27 (cvc x.k x.b (.slice pa x.am.length ca') (.slice pw x.wr.length cw) (.slice pm x.mb.length cm) (.slice pe x.el.length ce)) ∧ Below w.heap.size w wr) (fun vi _ => x.mb.length - (intOf vi).toNat)
    case atStart => exact ⟨0, rfl, by omega, (show ∀ i (_ : i < x.mb.length), i < 0 → _ from fun i _ h => by omega), R0, hbel⟩
    case round =>
     clear R0 hbel hlt hlt'
     obtain ⟨k, rfl, hk, HV, R0, hbel⟩ := hrel
     have c4 : wr.cell? ⟨w.heap.size, 4, none⟩ = some (.slice pm x.mb.length cm) := R0.cell 4
     by_cases hlt : k < x.mb.length
     ·have hlt' : (k : Int) < (x.mb.length : Int) := by omega
      obtain ⟨ys, hys, hy1, hy2⟩ := HM.out
      have hyl : ys.length = x.mb.length := by rw [← hys, List.length_map]
      obtain ⟨g, o, rfl, hd0⟩ := hy1.at (by omega)
      have d := Mb.elem (range_later hd0 hbel) k (by omega)
      have d0 := d 0 _ rfl
      have d2 := d 2 _ rfl
      have hyk := (hy2 ys[k] (List.getElem_mem _)).later hbel
      have hxk : Hid (x.mb[k] = ys[k].1) := by
       show _ = _
       simp only [← hys, List.getElem_map]
      obtain ⟨y, HY⟩ := hid_ex ys[k]
      rw [HY.out] at d0 d2 hyk hxk
      obtain ⟨ym, yv⟩ := y
      replace hyk : MHas wr yv ym.ms := hyk
      have hmm := maxLen_lt hyk.1
      obtain ⟨py, cy, rfl⟩ := hyk.slice
      simp only [Nat.add_zero] at d0 d2
      clear hd0 d hyk hy1 hy2
      by_cases hx : 100 < (ym.x.size : Int)
      ·go_wp2_with fail
       go_ret
       exact ⟨false, rfl, (fun h => by cases h), hbel⟩
      ·by_cases hx2 : 30 < (ym.ms.length : Int)
       ·go_wp2_with fail
        go_ret
        exact ⟨false, rfl, (fun h => by cases h), hbel⟩
       ·have HV2 : Hid (∀ i (h : i < x.mb.length), i < k + 1 → x.mb[i].ms.length ≤ 30) := fun i h hi => by
         rcases Nat.lt_or_ge i k with h' | h'
         ·exact HV.out i h h'
         ·obtain rfl : i = k := by omega
          rw [hxk.out]
          show ym.ms.length ≤ 30
          omega
        go_wp2_with fail
        go_roundw
        case rel => exact ⟨k + 1, by simp, by omega, HV2, R0, hbel⟩
        case measure => simp [intOf]; omega
     ·obtain rfl : k = x.mb.length := by omega
      have hlt' : ¬ (x.mb.length : Int) < (x.mb.length : Int) := by omega
      have HMB : Hid (∀ y ∈ x.mb, y.ms.length ≤ 30) := fun y hy => by
       obtain ⟨i, hi, rfl⟩ := List.getElem_of_mem hy
       exact HV.out i hi hi
      clear HM HV
      go_wp2_with fail
      clear c4
      go_loopw [5] (fun vi wr => ∃ k : Nat, vi = .int .i64 k ∧ k ≤ x.el.length ∧ Hid (∀ i (h : i < x.el.length), i < k → x.el[i].gone.length ≤ 30) ∧ Rw wr w.heap.size 27 (cvc x.k x.b (.slice pa x.am.length ca') (.slice pw x.wr.length cw) (.slice pm x.mb.length cm) (.slice pe x.el.length ce)) ∧ Below w.heap.size w wr) (fun vi _ => x.el.length - (intOf vi).toNat)
      case atStart => exact ⟨0, rfl, by omega, (show ∀ i (_ : i < x.el.length), i < 0 → _ from fun i _ h => by omega), R0, hbel⟩
      case round =>
       clear R0 hbel hlt hlt'
       obtain ⟨k, rfl, hk, HV, R0, hbel⟩ := hrel
       have c5 : wr.cell? ⟨w.heap.size, 5, none⟩ = some (.slice pe x.el.length ce) := R0.cell 5
       by_cases hlt : k < x.el.length
       ·have hlt' : (k : Int) < (x.el.length : Int) := by omega
        obtain ⟨ys, hys, hy1, hy2⟩ := HE.out
        have hyl : ys.length = x.el.length := by rw [← hys, List.length_map]
        obtain ⟨g, o, rfl, hd0⟩ := hy1.at (by omega)
        have d := El.elem (range_later hd0 hbel) k (by omega)
        have d0 := d 7 _ rfl
        have d2 := d 8 _ rfl
        have hyk := (hy2 ys[k] (List.getElem_mem _)).later hbel
        have hxk : Hid (x.el[k] = ys[k].1) := by
         show _ = _
         simp only [← hys, List.getElem_map]
        obtain ⟨y, HY⟩ := hid_ex ys[k]
        rw [HY.out] at d0 d2 hyk hxk
        obtain ⟨ym, yv⟩ := y
        replace hyk : MHas wr yv ym.gone := hyk
        have hmm := maxLen_lt hyk.1
        obtain ⟨py, cy, rfl⟩ := hyk.slice
        simp only at d0 d2
        clear hd0 d hyk hy1 hy2
        by_cases hx : 100 < (ym.x.size : Int)
        ·go_wp2_with fail
         go_ret
         exact ⟨false, rfl, (fun h => by cases h), hbel⟩
        ·by_cases hx2 : 30 < (ym.gone.length : Int)
         ·go_wp2_with fail
          go_ret
          exact ⟨false, rfl, (fun h => by cases h), hbel⟩
         ·have HV2 : Hid (∀ i (h : i < x.el.length), i < k + 1 → x.el[i].gone.length ≤ 30) := fun i h hi => by
           rcases Nat.lt_or_ge i k with h' | h'
           ·exact HV.out i h h'
           ·obtain rfl : i = k := by omega
            rw [hxk.out]
            show ym.gone.length ≤ 30
            omega
          go_wp2_with fail
          go_roundw
          case rel => exact ⟨k + 1, by simp, by omega, HV2, R0, hbel⟩
          case measure => simp [intOf]; omega
       ·obtain rfl : k = x.el.length := by omega
        have hlt' : ¬ (x.el.length : Int) < (x.el.length : Int) := by omega
        have HEB : Hid (∀ y ∈ x.el, y.gone.length ≤ 30) := fun y hy => by
         obtain ⟨i, hi, rfl⟩ := List.getElem_of_mem hy
         exact HV.out i hi hi
        clear HE HV
        go_wp2_with fail
        go_ret
        exact ⟨true, rfl, fun _ => ⟨HN.out, HMB.out, HEB.out⟩, hbel⟩
 ·have h60' : 60 < (x.am.length : Int) + (x.wr.length : Int) + (x.mb.length : Int) + (x.el.length : Int) := by omega
  go_enter Tryz.func7, Tryz.ntmps7
  go_wp2_with (first | rw [hW])
  go_ret
  exact ⟨false, rfl, (fun h => by cases h), hbel⟩
theorem AHas.elem {w : World} {l : List A} {g o : Nat} (h : w.rangeAt g o (rows A.cells l)) (k : Nat) (hk : k < l.length) : w.rangeAt g (o + k * 4) l[k].cells :=
 range_sub h (k * 4) fun j u hu => rows_at A.len l k hk j u hu
def R2 (a b : Nat) (i j : Nat) (u v : Value) : Prop := ((i = a ∧ j = b) ∨ (i = b ∧ j = a)) → u ≠ v
section
variable {Q : Exit → Act → World → Prop} {S : World → Prop} {md : Region.Mode} {A : (Nat → Value) → Act} {F : List Facts.Fact} {i : Nat} {o : Oper} {l : List Oper}
end
end Go.Proofs.YtjbbmcommnhgeaaGreat
namespace Go.Proofs.YtjbbmcommnhgeaaGreat.Ct
open Go.RowKit
theorem isBase_any (n : Int) (w : World) : Calls Tryz.prog 103 #[.int .i64 n] w (Tells (.bool (wi n (-1152921504606846976) 1152921504606846976)) w) := by
 unfold wi
 go_enter Tryz.func103, Tryz.ntmps103
 go_wp2
 all_goals
  go_ret
  refine tells_bool ?_ ?_
  focus (first | (simp_all; done) | grind)
  repeat refine bel_alloc ?_ _
  exact Below.refl _ _
theorem refAmount_any (n : Int) (w : World) : Calls Tryz.prog 62 #[.int .i64 n] w (Tells (.bool (wi n (-1073741824) 1073741824)) w) := by
 unfold wi
 go_enter Tryz.func62, Tryz.ntmps62
 go_wp2
 all_goals
  go_ret
  refine tells_bool ?_ ?_
  focus (first | (simp_all; done) | grind)
  repeat refine bel_alloc ?_ _
  exact Below.refl _ _
def ia (i n : Int) : Bool := decide (1 ≤ i) && wi n (-1073741824) 1073741824
theorem isAmount_any (p s i n : Int) (w : World) : Calls Tryz.prog 72 #[AV p s i n] w (Tells (.bool (ia i n)) w) := by
 unfold ia wi
 go_enter Tryz.func72, Tryz.ntmps72
 go_wp2
 all_goals
  go_ret
  refine tells_bool ?_ ?_
  focus (first | (simp_all; done) | grind)
  repeat refine bel_alloc ?_ _
  exact Below.refl _ _
theorem markOf_any (p s i n : Int) (w : World) : Calls Tryz.prog 74 #[AV p s i n] w (Tells (MV p s i) w) := by
 go_enter Tryz.func74, Tryz.ntmps74
 go_wp2
 exact bodyPost_ret (results_r rfl rfl (rw_next _ (by simp) 50 _) rfl Tryz.underlying50 size50) rfl ⟨rfl, bel_alloc (bel_alloc (Below.refl _ _) _) _⟩
theorem cellOf_any (b : Int) (q : Option Addr) (l c : Nat) (w : World) : Calls Tryz.prog 208 #[.int .i64 b, .slice q l c] w (Tells (CV 1 b (.slice q l c) (.slice none 0 0) (.slice none 0 0) (.slice none 0 0)) w) := by
 go_enter Tryz.func208, Tryz.ntmps208
 go_wp2
 exact bodyPost_ret (results_r rfl rfl (rw_next _ (by simp) 27 _) rfl Tryz.underlying27 size27) rfl ⟨rfl, bel_alloc (Below.refl _ _) _⟩
def lt (x y : A) : Bool := ls x.p x.s x.i y.p y.s y.i
def okk (l : List A) (k : Nat) (h : k < l.length) : Bool := ia l[k].i l[k].n && (decide (k = 0) || lt (l[k - 1]'(by omega)) l[k])
def ca (l : List A) : Bool := decide (∀ k (h : k < l.length), okk l k h = true)
theorem ca_iff (l : List A) : ca l = true ↔ ∀ k (h : k < l.length), okk l k h = true := by simp [ca]
theorem ca_not {l : List A} {z : Bool} (HZ : Hid (ca l = z)) {k : Nat} (h : k < l.length) (h' : okk l k h = false) : Hid (z = false) := by
 show z = false
 have hz := HZ.out
 cases z
 ·rfl
 ·rw [(ca_iff l).1 hz k h] at h'
  cases h'
theorem _root_.Go.Proofs.YtjbbmcommnhgeaaGreat.A.mark {w : World} {b o : Nat} {x : A} (h : w.rangeAt b o x.cells) : w.rangeAt b o [.int .i64 x.p, .int .i64 x.s, .int .i64 x.i] := fun j u hu => by
 refine h j u ?_
 match j, hu with
 | 0, hu => exact hu
 | 1, hu => exact hu
 | 2, hu => exact hu
 | j + 3, hu => simp at hu
theorem checkAmounts_any (v : Value) (l : List A) (w : World) (h : AHas w v l) : Calls Tryz.prog 104 #[v] w (Tells (.bool (ca l)) w) := by
 obtain ⟨z, HZ⟩ := hid_ex (ca l)
 rw [HZ.out]
 have hml := maxLen_lt h.1
 obtain ⟨p, c, rfl⟩ := h.slice
 have HR : Hid (AHas w (.slice p l.length c) l) := h
 clear h
 go_enter Tryz.func104, Tryz.ntmps104
 go_wp2
 go_loopw [7] (fun vi wr => ∃ k : Nat, vi = .int .i64 k ∧ k ≤ l.length ∧ Hid (∀ i (h : i < l.length), i < k → okk l i h = true) ∧ Below w.heap.size w wr) (fun vi _ => l.length - (intOf vi).toNat)
 case atStart => exact ⟨0, rfl, by omega, (show ∀ i (_ : i < l.length), i < 0 → _ from fun i _ h => by omega), Below.refl _ _⟩
 case round =>
  obtain ⟨k, rfl, hk, HV, hbel⟩ := hrel
  by_cases hlt : k < l.length
  ·have hlt' : (k : Int) < (l.length : Int) := by omega
   obtain ⟨g, o, rfl, hd0⟩ := HR.out.at (by omega)
   have hd := range_later hd0 hbel
   clear hd0 HR
   have d := AHas.elem hd k hlt
   obtain ⟨x, HX⟩ := hid_ex l[k]
   rw [HX.out] at d
   have z42 : (Tryz.prog.info? 71).map (·.size) = some x.cells.length := size71
   have R := rw_new wr 71 #[.int .i64 x.p, .int .i64 x.s, .int .i64 x.i, .int .i64 x.n]
   replace hbel := bel_alloc hbel (.cells #[.int .i64 x.p, .int .i64 x.s, .int .i64 x.i, .int .i64 x.n] 71)
   have C1 := fun w => isAmount_any x.p x.s x.i x.n w
   obtain ⟨y1, HY1⟩ := hid_ex (ia x.i x.n)
   rw [HY1.out] at C1
   have zm : (Tryz.prog.info? 50).map (·.size) = some [Value.int .i64 x.p, .int .i64 x.s, .int .i64 x.i].length := size50
   cases y1
   ·have HF := ca_not HZ hlt (show okk l k hlt = false by unfold okk; rw [HX.out, HY1.out]; rfl)
    have e := HF.out
    subst e
    clear HZ HF HV
    go_wp2_with (refine load_m 71 _ rfl rfl _ _ rfl d Tryz.underlying71 rfl z42 ?_)
    clear hd d
    have hs : Calm.Stays (fun w' => Rw w' wr.heap.size 71 #[.int .i64 x.p, .int .i64 x.s, .int .i64 x.i, .int .i64 x.n] ∧ Below w.heap.size w w') := fun wa wb h hb => ⟨h.1.later hb, below_on h.2 hb⟩
    refine Calm.region (by kernel_rfl) (by kernel_rfl) (fun w' => Rw w' wr.heap.size 71 #[.int .i64 x.p, .int .i64 x.s, .int .i64 x.i, .int .i64 x.n] ∧ Below w.heap.size w w') ⟨R, hbel.drew⟩ ?_
    all_goals refine Calm.lm z42 (fun _ h => Rw.whole h.1) Tryz.underlying71 ?_
    all_goals refine Calm.k1 hs (fun w1 h => C1 w1) ?_
    iterate 10 (all_goals refine Calm.sp ?_)
    all_goals first | refine Calm.sk ?_ | refine Calm.lm zm (fun _ h => A.mark (x := x) (Rw.whole h.1)) Tryz.underlying50 ?_
    all_goals refine Calm.sp ?_
    all_goals first | refine Calm.sk ?_ | refine Calm.lm zm (fun _ h => A.mark (x := x) (Rw.whole h.1)) Tryz.underlying50 ?_
    all_goals first | refine Calm.sk ?_ | refine Calm.k2 hs (fun w1 h => less_any 0 0 0 0 0 0 w1) ?_
    iterate 3 (all_goals refine Calm.sp ?_)
    all_goals
     rintro w9 ⟨_, hbel9⟩
    go_wp2_with fail
    go_ret
    exact ⟨rfl, hbel9⟩
   ·rcases Nat.eq_zero_or_pos k with rfl | hpos
    ·have HV2 : Hid (∀ i (h : i < l.length), i < 0 + 1 → okk l i h = true) := fun i h hi => by
      obtain rfl : i = 0 := by omega
      unfold okk
      rw [HX.out, HY1.out]
      rfl
     go_wp2_with (refine load_m 71 _ rfl rfl _ _ rfl d Tryz.underlying71 rfl z42 ?_)
     clear hd d HV
     have hs : Calm.Stays (fun w' => Rw w' wr.heap.size 71 #[.int .i64 x.p, .int .i64 x.s, .int .i64 x.i, .int .i64 x.n] ∧ Below w.heap.size w w') := fun wa wb h hb => ⟨h.1.later hb, below_on h.2 hb⟩
     refine Calm.region (by kernel_rfl) (by kernel_rfl) (fun w' => Rw w' wr.heap.size 71 #[.int .i64 x.p, .int .i64 x.s, .int .i64 x.i, .int .i64 x.n] ∧ Below w.heap.size w w') ⟨R, hbel.drew⟩ ?_
     all_goals refine Calm.lm z42 (fun _ h => Rw.whole h.1) Tryz.underlying71 ?_
     all_goals refine Calm.k1 hs (fun w1 h => C1 w1) ?_
     iterate 10 (all_goals refine Calm.sp ?_)
     all_goals first | refine Calm.sk ?_ | refine Calm.lm zm (fun _ h => A.mark (x := x) (Rw.whole h.1)) Tryz.underlying50 ?_
     all_goals refine Calm.sp ?_
     all_goals first | refine Calm.sk ?_ | refine Calm.lm zm (fun _ h => A.mark (x := x) (Rw.whole h.1)) Tryz.underlying50 ?_
     all_goals first | refine Calm.sk ?_ | refine Calm.k2 hs (fun w1 h => less_any 0 0 0 0 0 0 w1) ?_
     iterate 3 (all_goals refine Calm.sp ?_)
     all_goals
      rintro w9 ⟨_, hbel9⟩
     go_wp2_with fail
     go_roundw
     case rel => exact ⟨0 + 1, by simp, by omega, HV2, hbel9⟩
     case measure => simp [intOf]; omega
    ·obtain ⟨m, rfl⟩ : ∃ m, k = m + 1 := ⟨k - 1, by omega⟩
     have d2 := range_later (AHas.elem hd m (by omega)) (bel_alloc (Below.refl _ _) (.cells #[.int .i64 x.p, .int .i64 x.s, .int .i64 x.i, .int .i64 x.n] 71))
     obtain ⟨y, HY⟩ := hid_ex (l[m]'(by omega))
     rw [HY.out] at d2
     have zy : (Tryz.prog.info? 50).map (·.size) = some [Value.int .i64 y.p, .int .i64 y.s, .int .i64 y.i].length := size50
     have C2 := fun w => less_any y.p y.s y.i x.p x.s x.i w
     have hO : okk l (m + 1) hlt = lt y x := by
      unfold okk
      simp only [Nat.add_sub_cancel]
      rw [HX.out, HY1.out, HY.out]
      simp
     have HO : Hid (okk l (m + 1) hlt = lt y x) := hO
     clear hO
     have C2 : ∀ w, Calls Tryz.prog 107 #[MV y.p y.s y.i, MV x.p x.s x.i] w (Tells (.bool (lt y x)) w) := C2
     obtain ⟨y2, HY2⟩ := hid_ex (lt y x)
     rw [HY2.out] at C2 HO
     have hw1 : IntKind.i64.wrap (m : Int) = (m : Int) := by rw [IntKind.wrap_i64]; omega
     have hml2 : (m : Int) < (l.length : Int) := by omega
     go_wp2_with (refine load_m 71 _ rfl rfl _ _ rfl d Tryz.underlying71 rfl z42 ?_)
     clear hd d
     cases y2
     ·have HF := ca_not HZ hlt HO.out
      have e := HF.out
      subst e
      clear HZ HF HV
      have hs : Calm.Stays (fun w' => Rw w' wr.heap.size 71 #[.int .i64 x.p, .int .i64 x.s, .int .i64 x.i, .int .i64 x.n] ∧ w'.rangeAt g (o + m * 4) y.cells ∧ Below w.heap.size w w') := fun wa wb h hb => ⟨h.1.later hb, range_later h.2.1 hb, below_on h.2.2 hb⟩
      refine Calm.region (by kernel_rfl) (by kernel_rfl) (fun w' => Rw w' wr.heap.size 71 #[.int .i64 x.p, .int .i64 x.s, .int .i64 x.i, .int .i64 x.n] ∧ w'.rangeAt g (o + m * 4) y.cells ∧ Below w.heap.size w w') ⟨R, d2, hbel.drew⟩ ?_
      all_goals refine Calm.lm z42 (fun _ h => Rw.whole h.1) Tryz.underlying71 ?_
      all_goals refine Calm.k1 hs (fun w1 h => C1 w1) ?_
      iterate 10 (all_goals refine Calm.sp ?_)
      all_goals first | refine Calm.sk ?_ | refine Calm.lm zy (fun _ h => A.mark h.2.1) Tryz.underlying50 ?_ | refine Calm.lm zm (fun _ h => A.mark (x := x) (Rw.whole h.1)) Tryz.underlying50 ?_
      all_goals refine Calm.sp ?_
      all_goals first | refine Calm.sk ?_ | refine Calm.lm zy (fun _ h => A.mark h.2.1) Tryz.underlying50 ?_ | refine Calm.lm zm (fun _ h => A.mark (x := x) (Rw.whole h.1)) Tryz.underlying50 ?_
      all_goals first | refine Calm.sk ?_ | refine Calm.k2 hs (fun w1 h => C2 w1) ?_
      iterate 3 (all_goals refine Calm.sp ?_)
      all_goals
       rintro w9 ⟨_, _, hbel9⟩
      go_wp2_with fail
      go_ret
      exact ⟨rfl, hbel9⟩
     ·have HV2 : Hid (∀ i (h : i < l.length), i < m + 1 + 1 → okk l i h = true) := fun i h hi => by
       rcases Nat.lt_or_ge i (m + 1) with h' | h'
       ·exact HV.out i h h'
       ·obtain rfl : i = m + 1 := by omega
        exact HO.out
      clear HV HO
      have hs : Calm.Stays (fun w' => Rw w' wr.heap.size 71 #[.int .i64 x.p, .int .i64 x.s, .int .i64 x.i, .int .i64 x.n] ∧ w'.rangeAt g (o + m * 4) y.cells ∧ Below w.heap.size w w') := fun wa wb h hb => ⟨h.1.later hb, range_later h.2.1 hb, below_on h.2.2 hb⟩
      refine Calm.region (by kernel_rfl) (by kernel_rfl) (fun w' => Rw w' wr.heap.size 71 #[.int .i64 x.p, .int .i64 x.s, .int .i64 x.i, .int .i64 x.n] ∧ w'.rangeAt g (o + m * 4) y.cells ∧ Below w.heap.size w w') ⟨R, d2, hbel.drew⟩ ?_
      all_goals refine Calm.lm z42 (fun _ h => Rw.whole h.1) Tryz.underlying71 ?_
      all_goals refine Calm.k1 hs (fun w1 h => C1 w1) ?_
      iterate 10 (all_goals refine Calm.sp ?_)
      all_goals first | refine Calm.sk ?_ | refine Calm.lm zy (fun _ h => A.mark h.2.1) Tryz.underlying50 ?_ | refine Calm.lm zm (fun _ h => A.mark (x := x) (Rw.whole h.1)) Tryz.underlying50 ?_
      all_goals refine Calm.sp ?_
      all_goals first | refine Calm.sk ?_ | refine Calm.lm zy (fun _ h => A.mark h.2.1) Tryz.underlying50 ?_ | refine Calm.lm zm (fun _ h => A.mark (x := x) (Rw.whole h.1)) Tryz.underlying50 ?_
      all_goals first | refine Calm.sk ?_ | refine Calm.k2 hs (fun w1 h => C2 w1) ?_
      iterate 3 (all_goals refine Calm.sp ?_)
      all_goals
       rintro w9 ⟨_, _, hbel9⟩
      go_wp2_with fail
      go_roundw
      case rel => exact ⟨m + 1 + 1, by simp, by omega, HV2, hbel9⟩
      case measure => simp [intOf]; omega
  ·have hlt' : ¬ (k : Int) < (l.length : Int) := by omega
   have hz : z = true := by
    rw [← HZ.out, ca_iff]
    exact fun i h => HV.out i h (by omega)
   subst hz
   clear HR HV HZ
   go_wp2_with fail
   go_ret
   exact ⟨rfl, hbel⟩
def ck (x : X) : Bool := decide (x.k = 1) && (decide (x.wr.length + x.mb.length + x.el.length = 0) && (wi x.b (-1152921504606846976) 1152921504606846976 && ca x.am))
theorem check_any (x : X) (va vw vm ve : Value) (w : World) (h : Four w x va vw vm ve) (hs : Sm x) : Calls Tryz.prog 71 #[CV x.k x.b va vw vm ve] w (Tells (.bool (ck x)) w) := by
 obtain ⟨z, HZ⟩ := hid_ex (ck x)
 rw [HZ.out]
 obtain ⟨pa, ca', pw, cw, pm, cm, pe, ce, rfl, rfl, rfl, rfl⟩ := h.slices
 have HA : Hid (AHas w (.slice pa x.am.length ca') x.am) := h.a
 clear h
 obtain ⟨ha, ht, hm, he, _, _⟩ := hs
 by_cases hk : x.k = 1
 ·by_cases h0 : x.wr.length + x.mb.length + x.el.length = 0
  ·have e1 : x.wr.length = 0 := by omega
   have e2 : x.mb.length = 0 := by omega
   have e3 : x.el.length = 0 := by omega
   have C1 := fun w => isBase_any x.b w
   obtain ⟨y1, HY1⟩ := hid_ex (wi x.b (-1152921504606846976) 1152921504606846976)
   rw [HY1.out] at C1
   have hz : Hid (z = (y1 && ca x.am)) := by
    show _ = _
    rw [← HZ.out]
    unfold ck
    rw [HY1.out]
    simp [hk, h0]
   rw [e1, e2, e3]
   clear HY1 HZ e1 e2 e3 h0 ht hm he
   cases y1
   ·obtain rfl : z = false := by have := hz.out; simpa using this
    clear hz
    go_enter Tryz.func71, Tryz.ntmps71
    go_wp2_with fail
    refine (C1 _).mono ?_
    rintro e w1 ⟨rfl, hb1⟩
    replace hb1 := below_on (bel_alloc (Below.refl _ _) _) hb1
    go_wp2_with fail
    go_ret
    exact ⟨rfl, hb1⟩
   ·obtain rfl : z = ca x.am := by have := hz.out; simpa using this
    clear hz
    go_enter Tryz.func71, Tryz.ntmps71
    go_wp2_with fail
    refine (C1 _).mono ?_
    rintro e w1 ⟨rfl, hb1⟩
    have R := Rw.later (rw_new w 27 _) hb1
    have c2 : w1.cell? ⟨w.heap.size, 2, none⟩ = some (.slice pa x.am.length ca') := R.cell 2
    replace hb1 := below_on (bel_alloc (Below.refl _ _) _) hb1
    go_wp2_with fail
    refine (checkAmounts_any _ _ _ (HA.out.later hb1)).mono ?_
    rintro e w2 ⟨rfl, hb2⟩
    go_wp2_with fail
    go_ret
    exact ⟨rfl, below_on hb1 hb2⟩
  ·have h0' : ¬ (x.wr.length : Int) + (x.mb.length : Int) + (x.el.length : Int) = 0 := by omega
   have w1 : IntKind.i64.wrap ((x.wr.length : Int) + (x.mb.length : Int)) = (x.wr.length : Int) + (x.mb.length : Int) := by rw [IntKind.wrap_i64]; omega
   have w2 : IntKind.i64.wrap ((x.wr.length : Int) + (x.mb.length : Int) + (x.el.length : Int)) = (x.wr.length : Int) + (x.mb.length : Int) + (x.el.length : Int) := by rw [IntKind.wrap_i64]; omega
   obtain rfl : z = false := by
    rw [← HZ.out]
    unfold ck
    rw [decide_eq_false h0]
    simp
   clear HZ
   go_enter Tryz.func71, Tryz.ntmps71
   go_wp2_with fail
   go_ret
   exact ⟨rfl, bel_alloc (Below.refl _ _) _⟩
 ·obtain rfl : z = false := by
   rw [← HZ.out]
   unfold ck
   simp [hk]
  clear HZ
  go_enter Tryz.func71, Tryz.ntmps71
  go_wp2_with fail
  go_ret
  exact ⟨rfl, bel_alloc (Below.refl _ _) _⟩
def sm (l : List A) : Int := (l.map A.n).sum
theorem sm_cons (a : A) (l : List A) : sm (a :: l) = a.n + sm l := by simp [sm]
theorem sm_append (a b : List A) : sm (a ++ b) = sm a + sm b := by simp [sm]
def nb (l : List A) : Prop := ∀ a ∈ l, -1073741824 ≤ a.n ∧ a.n ≤ 1073741824
theorem sm_bound : ∀ (l : List A), nb l → -(1073741824 * (l.length : Int)) ≤ sm l ∧ sm l ≤ 1073741824 * (l.length : Int)
 | [], _ => by simp [sm]
 | a :: l, h => by
  have h1 := h a (by simp)
  have h2 := sm_bound l (fun x hx => h x (by simp [hx]))
  rw [sm_cons, List.length_cons]
  omega
theorem ca_nb {l : List A} (h : ca l = true) : nb l := fun a ha => by
 obtain ⟨k, hk, rfl⟩ := List.getElem_of_mem ha
 have := (ca_iff l).1 h k hk
 simp only [okk, ia, wi, Bool.and_eq_true, decide_eq_true_eq] at this
 exact this.1.2
theorem nb_take {l : List A} (h : nb l) (k : Nat) : nb (l.take k) := fun a ha => h a (List.mem_of_mem_take ha)
theorem total_any (k b : Int) (va : Value) (l : List A) (pw : Option Addr) (lw cw : Nat) (pm : Option Addr) (lm cm : Nat) (pe : Option Addr) (le ce : Nat) (w : World) (h : AHas w va l) (hl : l.length ≤ 100) (hn : nb l) (hb : wi b (-1152921504606846976) 1152921504606846976 = true) :
  Calls Tryz.prog 211 #[CV k b va (.slice pw lw cw) (.slice pm lm cm) (.slice pe le ce)] w (Tells (.int .i64 (b + sm l)) w) := by
 obtain ⟨pa, ca', rfl⟩ := h.slice
 have HA : Hid (AHas w (.slice pa l.length ca') l) := h
 have HN : Hid (nb l) := hn
 clear h hn
 obtain ⟨hb1, hb2⟩ : -1152921504606846976 ≤ b ∧ b ≤ 1152921504606846976 := by simpa [wi] using hb
 clear hb
 obtain ⟨z, HZ⟩ := hid_ex (b + sm l)
 rw [HZ.out]
 have hbel0 := bel_alloc (Below.refl w.heap.size w) (.cells (cvc k b (.slice pa l.length ca') (.slice pw lw cw) (.slice pm lm cm) (.slice pe le ce)) 27)
 go_enter Tryz.func211, Tryz.ntmps211
 go_wp2
 go_loopw [3, 11] (fun vn vi wr => ∃ k : Nat, vi = .int .i64 k ∧ k ≤ l.length ∧ vn = .int .i64 (b + sm (l.take k)) ∧ Below w.heap.size w wr) (fun _ vi _ => l.length - (intOf vi).toNat)
 case atStart => exact ⟨0, rfl, by omega, by simp [sm], hbel0⟩
 case round =>
  obtain ⟨k, rfl, hk, rfl, hbel⟩ := hrel
  by_cases hlt : k < l.length
  ·have hlt' : (k : Int) < (l.length : Int) := by omega
   obtain ⟨g, o, rfl, hd0⟩ := HA.out.at (by omega)
   have hd := range_later hd0 hbel
   clear hd0 HA
   have d := AHas.elem hd k hlt
   obtain ⟨x, HX⟩ := hid_ex l[k]
   rw [HX.out] at d
   have z42 : (Tryz.prog.info? 71).map (·.size) = some x.cells.length := size71
   have hx := HN.out l[k] (List.getElem_mem _)
   rw [HX.out] at hx
   have hsb := sm_bound _ (nb_take HN.out k)
   have hlk : ((l.take k).length : Int) = k := by rw [List.length_take]; omega
   have hst : Hid (sm (l.take (k + 1)) = sm (l.take k) + x.n) := by
    show _ = _
    rw [List.take_succ_eq_append_getElem hlt, sm_append, HX.out]
    simp [sm]
   obtain ⟨y, HY⟩ := hid_ex (sm (l.take k))
   rw [HY.out] at hsb ⊢
   rw [hlk] at hsb
   clear hlk
   go_wp2_with (refine load_m 71 _ rfl rfl _ _ rfl d Tryz.underlying71 rfl z42 ?_)
   go_roundw
   case rel =>
    refine ⟨k + 1, by simp, by omega, ?_, bel_alloc hbel _⟩
    rw [hst.out, HY.out]
    simp
    omega
   case measure => simp [intOf]; omega
  ·have hlt' : ¬ (k : Int) < (l.length : Int) := by omega
   obtain rfl : k = l.length := by omega
   rw [List.take_length, HZ.out]
   clear HA HN HZ
   go_wp2_with fail
   go_ret
   exact ⟨rfl, hbel⟩
abbrev VV (k n : Int) : Value := .agg #[.int .i64 k, .int .i64 n, .slice none 0 0, .slice none 0 0]
def rdK (x : X) : Int := if ck x = true then 1 else 0
def rdN (x : X) : Int := if ck x = true then x.b + sm x.am else 0
theorem ck_parts {x : X} (h : ck x = true) : x.k = 1 ∧ x.wr.length = 0 ∧ x.mb.length = 0 ∧ x.el.length = 0 ∧ wi x.b (-1152921504606846976) 1152921504606846976 = true ∧ ca x.am = true := by
 simp only [ck, Bool.and_eq_true, decide_eq_true_eq] at h
 obtain ⟨h1, h2, h3, h4⟩ := h
 exact ⟨h1, by omega, by omega, by omega, h3, h4⟩
theorem read_any (x : X) (va vw vm ve : Value) (w : World) (h : Four w x va vw vm ve) (hs : Sm x) : Calls Tryz.prog 206 #[CV x.k x.b va vw vm ve] w (Tells (VV (rdK x) (rdN x)) w) := by
 have C1 := fun w' (hb : Below w.heap.size w w') => check_any x va vw vm ve w' (h.later hb) hs
 obtain ⟨z, HZ⟩ := hid_ex (ck x)
 have C2 : z = true → ∀ w', Below w.heap.size w w' → Calls Tryz.prog 211 #[CV x.k x.b va vw vm ve] w' (Tells (.int .i64 (x.b + sm x.am)) w') := by
  intro hz w' hb
  obtain ⟨pa, ca', pw, cw, pm, cm, pe, ce, rfl, rfl, rfl, rfl⟩ := h.slices
  have hp := ck_parts (HZ.out.trans hz)
  exact total_any _ _ _ _ _ _ _ _ _ _ _ _ _ _ (h.a.later hb) hs.a (ca_nb hp.2.2.2.2.2) hp.2.2.2.2.1
 unfold rdK rdN
 rw [HZ.out] at C1 ⊢
 obtain ⟨pa, ca', pw, cw, pm, cm, pe, ce, rfl, rfl, rfl, rfl⟩ := h.slices
 clear h hs HZ
 obtain ⟨t, HT⟩ := hid_ex (x.b + sm x.am)
 rw [HT.out] at C2 ⊢
 clear HT
 have hbel0 := bel_alloc (bel_alloc (Below.refl w.heap.size w) (.cells (cvc x.k x.b (.slice pa x.am.length ca') (.slice pw x.wr.length cw) (.slice pm x.mb.length cm) (.slice pe x.el.length ce)) 27)) (.cells #[.int .i64 0, .int .i64 0, .slice none 0 0, .slice none 0 0] 46)
 obtain ⟨R0, R1, _⟩ := two_rows w (cvc x.k x.b (.slice pa x.am.length ca') (.slice pw x.wr.length cw) (.slice pm x.mb.length cm) (.slice pe x.el.length ce)) 27 #[.int .i64 0, .int .i64 0, .slice none 0 0, .slice none 0 0] 46
 generalize hW : (w.alloc (.cells (cvc x.k x.b (.slice pa x.am.length ca') (.slice pw x.wr.length cw) (.slice pm x.mb.length cm) (.slice pe x.el.length ce)) 27)).alloc (.cells #[.int .i64 0, .int .i64 0, .slice none 0 0, .slice none 0 0] 46) = w0 at hbel0 R0 R1
 cases z
 ·rw [if_neg (by simp), if_neg (by simp)]
  clear C2
  go_enter Tryz.func206, Tryz.ntmps206
  go_wp2_with (first | rw [hW] | refine load_r 27 _ rfl rfl _ rfl R0 Tryz.underlying27 rfl size27 ?_)
  refine (C1 _ hbel0).mono ?_
  rintro e w1 ⟨rfl, hb1⟩
  replace R1 := R1.later hb1
  replace hbel0 := below_on hbel0 hb1
  go_wp2_with (first | refine store_r rfl 46 _ _ rfl _ #[.int .i64 0, .int .i64 0, .slice none 0 0, .slice none 0 0] rfl rfl R1 size46 rfl (by simp [Value.oneCell']) ?_)
  exact bodyPost_ret (v := VV 0 0) (results_r rfl rfl (R1.row #[.int .i64 0, .int .i64 0, .slice none 0 0, .slice none 0 0]) rfl Tryz.underlying46 size46) rfl ⟨rfl, below_setRow hbel0 (by omega) _⟩
 ·rw [if_pos rfl, if_pos rfl]
  have C3 := C2 rfl
  clear C2
  go_enter Tryz.func206, Tryz.ntmps206
  go_wp2_with (first | rw [hW] | refine load_r 27 _ rfl rfl _ rfl R0 Tryz.underlying27 rfl size27 ?_)
  refine (C1 _ hbel0).mono ?_
  rintro e w1 ⟨rfl, hb1⟩
  replace R0 := R0.later hb1
  replace R1 := R1.later hb1
  replace hbel0 := below_on hbel0 hb1
  go_wp2_with (first | refine load_r 27 _ rfl rfl _ rfl R0 Tryz.underlying27 rfl size27 ?_)
  refine (C3 _ hbel0).mono ?_
  rintro e w2 ⟨rfl, hb1⟩
  replace R1 := R1.later hb1
  replace hbel0 := below_on hbel0 hb1
  go_wp2_with (first | refine store_r rfl 46 _ _ rfl _ #[.int .i64 1, .int .i64 t, .slice none 0 0, .slice none 0 0] rfl rfl R1 size46 rfl (by simp [Value.oneCell']) ?_)
  exact bodyPost_ret (v := VV 1 t) (results_r rfl rfl (R1.row #[.int .i64 1, .int .i64 t, .slice none 0 0, .slice none 0 0]) rfl Tryz.underlying46 size46) rfl ⟨rfl, below_setRow hbel0 (by omega) _⟩
theorem clear1_any (p s i n : Int) (bt bi : Nat) (q u : Int) (v : List Int) (t : Int) (sl : Value) (idx : Int) (w : World) (hv : v.length = 13) (R : Rw w bt 34 (txc q u v t sl).toArray) (c : w.cell? ⟨bi, 0, none⟩ = some (.int .i64 idx)) :
  Calls Tryz.prog 207 #[AV p s i n, .pointer (some ⟨bt, 0, none⟩), .pointer (some ⟨bi, 0, none⟩)] w (Tells (.bool (!bf p s i q u v idx)) w) := by
 have C1 := fun w => before_any p s i q u v t sl idx w hv
 generalize bf p s i q u v idx = y at C1 ⊢
 have hbel := bel_alloc (Below.refl w.heap.size w) (.cells #[.int .i64 p, .int .i64 s, .int .i64 i, .int .i64 n] 71)
 have R0 := rw_new w 71 #[.int .i64 p, .int .i64 s, .int .i64 i, .int .i64 n]
 have R1 := R.later hbel
 have c1 := cell_later hbel c
 generalize hW : w.alloc (.cells #[.int .i64 p, .int .i64 s, .int .i64 i, .int .i64 n] 71) = w0 at hbel R0 R1 c1
 have d0 := A.mark (x := ⟨p, s, i, n⟩) (Rw.whole R0)
 have zm : (Tryz.prog.info? 50).map (·.size) = some [Value.int .i64 p, .int .i64 s, .int .i64 i].length := size50
 have zt := size_tx (p := q) (s := u) (t := t) (sl := sl) hv
 go_enter Tryz.func207, Tryz.ntmps207
 go_wp2_with (first | rw [hW] | refine load_m 50 _ rfl rfl _ _ rfl d0 Tryz.underlying50 rfl zm ?_ | refine load_r 34 _ rfl rfl _ rfl R1 Tryz.underlying34 rfl zt ?_)
 refine (C1 _).mono ?_
 rintro e w1 ⟨rfl, hb1⟩
 go_wp2_with fail
 go_ret
 exact ⟨rfl, below_on hbel hb1⟩
def ThPost (l : List A) (w : World) (e : Ending) (w' : World) : Prop := ∃ u, e = .returned u ∧ w'.ownsRow w.heap.size 71 4 u l.length (rows A.cells l) ∧ Below w.heap.size w w'
theorem those27_any (v : Value) (l : List A) (f : A → Bool) (b1 b2 : Nat) (w : World) (h : AHas w v l) (hl : l.length ≤ 100) (C : ∀ (x : A) (w' : World), Below w.heap.size w w' → Calls Tryz.prog 207 #[AV x.p x.s x.i x.n, .pointer (some ⟨b1, 0, none⟩), .pointer (some ⟨b2, 0, none⟩)] w' (Tells (.bool (f x)) w')) :
  Calls Tryz.prog 209 #[v, .func (.func 207) #[] #[.pointer (some ⟨b1, 0, none⟩), .pointer (some ⟨b2, 0, none⟩)]] w (ThPost (l.filter f) w) := by
 obtain ⟨i0, hi, hz0, hz1, hz2⟩ := info_parts info71
 obtain ⟨pa, ca', rfl⟩ := h.slice
 have HA : Hid (AHas w (.slice pa l.length ca') l) := h
 clear h
 go_enter Tryz.func209, Tryz.ntmps209
 go_wp2
 go_loopw [5, 10] (fun vn vi wr => ∃ k : Nat, vi = .int .i64 k ∧ k ≤ l.length ∧ wr.ownsRow w.heap.size 71 4 vn ((l.take k).filter f).length (rows A.cells ((l.take k).filter f)) ∧ Below w.heap.size w wr) (fun _ vi _ => l.length - (intOf vi).toNat)
 case atStart => exact ⟨0, rfl, by omega, World.ownsRow_nil _ _ _ _, Below.refl _ _⟩
 case round =>
  obtain ⟨k, rfl, hk, hown, hbel⟩ := hrel
  obtain ⟨P, cc, rfl⟩ := own_sl hown
  by_cases hlt : k < l.length
  ·have hlt' : (k : Int) < (l.length : Int) := by omega
   obtain ⟨g, o, rfl, hd0⟩ := HA.out.at (by omega)
   have d := AHas.elem (range_later hd0 hbel) k hlt
   clear hd0 HA
   obtain ⟨x, HX⟩ := hid_ex l[k]
   rw [HX.out] at d
   have z42 : (Tryz.prog.info? 71).map (·.size) = some x.cells.length := size71
   have hf100 : ((l.take k).filter f).length ≤ 100 := by
    have h1 := List.length_filter_le f (l.take k)
    rw [List.length_take] at h1
    omega
   have HT : Hid ((l.take (k + 1)).filter f = (l.take k).filter f ++ [x].filter f) := by
    show _ = _
    rw [List.take_succ_eq_append_getElem hlt, List.filter_append, HX.out]
   obtain ⟨m, HM⟩ := hid_ex ((l.take k).filter f)
   rw [HM.out] at hown hf100 HT
   rw [HM.out]
   have hsz := hbel.size
   have hlt5 := hown.lt
   replace hown := hown.alloc (.cells #[.int .i64 x.p, .int .i64 x.s, .int .i64 x.i, .int .i64 x.n] 71)
   have R := rw_new wr 71 #[.int .i64 x.p, .int .i64 x.s, .int .i64 x.i, .int .i64 x.n]
   have hbel1 := bel_alloc hbel (.cells #[.int .i64 x.p, .int .i64 x.s, .int .i64 x.i, .int .i64 x.n] 71)
   have Cx := C x _ hbel1
   obtain ⟨y, HY⟩ := hid_ex (f x)
   rw [HY.out] at Cx
   clear C
   go_wp2_with (refine load_m 71 _ rfl rfl _ _ rfl d Tryz.underlying71 rfl z42 ?_)
   refine Cx.mono ?_
   clear Cx
   rintro e w1 ⟨rfl, hb1⟩
   replace hown := own_later hown hb1
   replace R := R.later hb1
   replace hbel1 := below_on hbel1 hb1
   cases y
   ·go_wp2_with fail
    go_roundw
    case rel =>
     refine ⟨k + 1, by simp, by omega, ?_, hbel1⟩
     rw [HT.out, List.filter_cons_of_neg (by rw [HY.out]; simp), List.filter_nil, List.append_nil]
     exact hown
    case measure => simp [intOf]; omega
   ·go_wp2_with (first | refine load_r 71 _ rfl rfl _ rfl R Tryz.underlying71 rfl size71 ?_ | (at_builtin; refine wpList_append_own _ rfl _ _ 22 rfl w.heap.size 71 i0 (AV 0 0 0 0) 4 32 Tryz.underlying22 hi hz0 hz1 hz2 rfl (by decide) _ _ _ rfl (hown.alloc _) ⟨w1.heap.size, 0, none⟩ 1 1 x.cells rfl rfl ?c1 ?c2 ?c3 ?c4 ?c5 ?_))
    case c1 => exact fun q u hq => (cells_next _ (by simp) _ _ _).trans hq
    case c2 => exact x.one
    case c3 => unfold maxLen; omega
    case c4 => omega
    case c5 => have := hb1.size; simp at this ⊢; omega
    intro v2 w2 hown6 hg6 _
    go_wp2_with fail
    go_roundw
    case rel =>
     refine ⟨k + 1, by simp, by omega, ?_, (bel_alloc hbel1 _).grown hg6 (by have := hb1.size; simp at this ⊢; omega) (fun q hq => (hown.lt q hq).1)⟩
     rw [HT.out, List.filter_cons_of_pos (by rw [HY.out]), List.filter_nil, rows_append, List.length_append, rows_one]
     simpa using hown6
    case measure => simp [intOf]; omega
  ·have hlt' : ¬ (k : Int) < (l.length : Int) := by omega
   obtain rfl : k = l.length := by omega
   rw [List.take_length] at hown ⊢
   clear HA C
   obtain ⟨m, HM⟩ := hid_ex (l.filter f)
   rw [HM.out] at hown ⊢
   go_wp2_with fail
   go_ret
   exact ⟨_, rfl, by rw [HM.out]; exact hown, hbel⟩
end Go.Proofs.YtjbbmcommnhgeaaGreat.Ct
