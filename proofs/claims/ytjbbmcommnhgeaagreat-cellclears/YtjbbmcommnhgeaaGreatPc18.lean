import Derived.Test.YtjbbmcommnhgeaaGreatPc17
set_option maxRecDepth 100000
set_option maxHeartbeats 8000000
namespace Go.Proofs.YtjbbmcommnhgeaaGreat
open Go.RowKit
def prL {α : Type} (g : α → Bool) (ys : List α) (ks : List Nat) : List α := ks.filterMap (fun k => (ys[k - 1]?).bind (fun y => if g y = true then some y else none))
theorem prL_snoc {α : Type} (g : α → Bool) (ys : List α) (ks : List Nat) (k : Nat) (hk : k - 1 < ys.length) : prL g ys (ks ++ [k]) = prL g ys ks ++ (if g ys[k - 1] = true then [ys[k - 1]] else []) := by
 unfold prL
 rw [List.filterMap_append]
 congr 1
 simp only [List.filterMap_cons, List.filterMap_nil, List.getElem?_eq_getElem hk, Option.bind_some]
 split <;> rename_i e <;> split at e <;> simp_all
theorem prL_map {α β : Type} (g : β → Bool) (f : α → β) (ys : List α) (ks : List Nat) : (prL (fun y => g (f y)) ys ks).map f = prL g (ys.map f) ks := by
 unfold prL
 rw [List.map_filterMap]
 congr 1
 funext k
 simp only [List.getElem?_map]
 cases ys[k - 1]? with
 | none => rfl
 | some y =>
  simp only [Option.bind_some, Option.map_some]
  split <;> rfl
theorem prL_len {α : Type} (g : α → Bool) (ys : List α) (ks : List Nat) : (prL g ys ks).length ≤ ks.length := List.length_filterMap_le _ _
def nog (e : El) : Bool := decide (e.gone.length = 0)
def prE (l : List El) : List El := prL nog l (odP l 0)
def PrPost (l : List El) (w : World) (e : Ending) (w' : World) : Prop := ∃ u, e = .returned u ∧ EHas w' u (prE l) ∧ Below w.heap.size w w'
theorem prL_mem {α : Type} {g : α → Bool} {ys : List α} {ks : List Nat} {y : α} (h : y ∈ prL g ys ks) : y ∈ ys := by
 unfold prL at h
 obtain ⟨k, _, e⟩ := List.mem_filterMap.1 h
 cases hk : ys[k - 1]? with
 | none => rw [hk] at e; cases e
 | some z =>
  rw [hk] at e
  simp only [Option.bind_some] at e
  split at e
  ·cases e
   exact List.mem_of_getElem? hk
  ·cases e
theorem present_any (v : Value) (l : List El) (w : World) (h : EHas w v l) (hl : l.length ≤ 100) (hp : l.Pairwise (fun a b => kl (kE a) (kE b) = true)) (hcr : cr l = true) : Calls Tryz.prog 240 #[v] w (PrPost l w) := by
 have C1 := inOrder_any v l w h hl hp hcr
 have hop := od_perm hcr
 obtain ⟨ys, hys, h, hy⟩ := h
 have hml := maxLen_lt h.1
 obtain ⟨pv, cv, rfl⟩ := h.slice
 have hyl : ys.length = l.length := by rw [← hys, List.length_map]
 have HR : Hid (SHas 9 w (.slice pv l.length cv) l.length (rows El.cells ys)) := h
 have HY : Hid (∀ y ∈ ys, MHas w y.2 y.1.gone) := hy
 have HYS : Hid (ys.map (·.1) = l) := hys
 obtain ⟨ks, HK⟩ := hid_ex (odP l 0)
 rw [HK.out] at hop
 have hkl : ks.length = l.length := by rw [hop.length_eq, plc_len]
 have HKM : Hid (∀ k ∈ ks, k ≠ 0 ∧ k ≤ l.length) := fun k hk => plc_mem.1 (hop.mem_iff.1 hk)
 obtain ⟨Q, HQ⟩ : ∃ Q, Hid (PrPost l w = Q) := ⟨_, rfl⟩
 rw [HQ.out]
 obtain ⟨j0, hj0, hje0, hje1, hje2⟩ := info_parts info69
 clear h hy hys hp hcr hop
 go_enter Tryz.func240, Tryz.ntmps240
 go_wp2_with fail
 refine C1.mono ?_
 clear C1
 rintro e w1 ⟨u, rfl, hu, hb1⟩
 rw [HK.out] at hu
 obtain ⟨pk, dk, rfl⟩ := own_sl hu
 go_wp2_with fail
 go_loopw [3, 10] (fun vs vi wr => ∃ i : Nat, vi = .int .i64 i ∧ i ≤ l.length ∧ wr.ownsRow w1.heap.size 69 9 vs (prL (fun y => nog y.1) ys (ks.take i)).length (rows El.cells (prL (fun y => nog y.1) ys (ks.take i))) ∧ wr.ownsRow w.heap.size 3 1 (.slice pk l.length dk) l.length (iv ks) ∧ Below w.heap.size w wr ∧ w1.heap.size ≤ wr.heap.size) (fun _ vi _ => l.length - (intOf vi).toNat)
 case atStart => exact ⟨0, rfl, by omega, own_none _ _ _ _, hu, hb1, Nat.le_refl _⟩
 case round =>
  clear hu
  obtain ⟨i, rfl, hi, ho, hu, hbw, hw1⟩ := hrel
  obtain ⟨n0, HN0⟩ := hid_ex (prL (fun y => nog y.1) ys (ks.take i)).length
  have hn0 : n0 ≤ i := by
   rw [← HN0.out]
   exact Nat.le_trans (prL_len _ _ _) (by simp; omega)
  rw [HN0.out] at ho
  obtain ⟨q0, d0, rfl⟩ := own_sl ho
  by_cases hlt : i < l.length
  ·have hlt' : (i : Int) < (l.length : Int) := by omega
   have hik : i < ks.length := by omega
   obtain ⟨gk, rfl, hgk⟩ := own_some hu (by omega)
   have ck := own_iat hu hik
   have hkm := HKM.out _ (List.getElem_mem hik)
   have HSN : Hid (∀ hk : ks[i] - 1 < ys.length, prL (fun y => nog y.1) ys (ks.take (i + 1)) = prL (fun y => nog y.1) ys (ks.take i) ++ (if nog ys[ks[i] - 1].1 = true then [ys[ks[i] - 1]] else [])) := fun hk => by
    rw [List.take_succ_eq_append_getElem hik, prL_snoc _ _ _ _ hk]
   obtain ⟨k, HKI⟩ := hid_ex (ks[i])
   rw [HKI.out] at ck hkm HSN
   obtain ⟨k1, rfl⟩ : ∃ k1, k = k1 + 1 := ⟨k - 1, by omega⟩
   have hk1 : k1 < ys.length := by omega
   have HSN2 : Hid (prL (fun y => nog y.1) ys (ks.take (i + 1)) = prL (fun y => nog y.1) ys (ks.take i) ++ (if nog ys[k1].1 = true then [ys[k1]] else [])) := HSN.out hk1
   obtain ⟨g1, o, rfl, hd0⟩ := HR.out.at (by omega)
   have hd := range_later hd0 hbw
   have d : wr.rangeAt g1 (o + k1 * 9) (El.cells ys[k1]) := range_sub hd (k1 * 9) fun j u hu => rows_at El.len ys k1 hk1 j u hu
   have hyk := (HY.out ys[k1] (List.getElem_mem _)).later hbw
   obtain ⟨yy, HX⟩ := hid_ex (ys[k1])
   rw [HX.out] at d hyk HSN2
   obtain ⟨y, yv⟩ := yy
   replace hyk : MHas wr yv y.gone := hyk
   obtain ⟨py, cy, rfl⟩ := hyk.slice
   obtain ⟨gl, HGL⟩ := hid_ex y.gone.length
   rw [HGL.out] at d HSN2
   replace d : wr.rangeAt g1 (o + k1 * 9) [Value.int .i64 y.p, .int .i64 y.s, .int .i64 y.i, .int .i64 y.t, .int .i64 y.q, .int .i64 y.u, .int .i64 y.j, .string y.x, .slice py gl cy] := d
   replace HSN2 : Hid (prL (fun y => nog y.1) ys (ks.take (i + 1)) = prL (fun y => nog y.1) ys (ks.take i) ++ (if nog y = true then [(y, .slice py gl cy)] else [])) := HSN2
   have zb : (Tryz.prog.info? 69).map (·.size) = some [Value.int .i64 y.p, .int .i64 y.s, .int .i64 y.i, .int .i64 y.t, .int .i64 y.q, .int .i64 y.u, .int .i64 y.j, .string y.x, .slice py gl cy].length := size69
   have RB := rw_new wr 69 #[.int .i64 y.p, .int .i64 y.s, .int .i64 y.i, .int .i64 y.t, .int .i64 y.q, .int .i64 y.u, .int .i64 y.j, .string y.x, .slice py gl cy]
   have hbA := bel_alloc (Below.refl wr.heap.size wr) (.cells #[.int .i64 y.p, .int .i64 y.s, .int .i64 y.i, .int .i64 y.t, .int .i64 y.q, .int .i64 y.u, .int .i64 y.j, .string y.x, .slice py gl cy] 69)
   replace hu := own_later hu hbA
   replace ho := own_later ho hbA
   replace hbw := below_on hbw hbA
   replace hw1 := Nat.le_trans hw1 hbA.size
   generalize hWA : wr.alloc (.cells #[.int .i64 y.p, .int .i64 y.s, .int .i64 y.i, .int .i64 y.t, .int .i64 y.q, .int .i64 y.u, .int .i64 y.j, .string y.x, .slice py gl cy] 69) = wa at RB hbA hu ho hbw hw1
   have cg : wa.cell? ⟨wr.heap.size, 8, none⟩ = some (.slice py gl cy) := RB.cell 8
   have wk0 : IntKind.i64.wrap (((k1 + 1 : Nat) : Int) - 1) = (k1 : Int) := by rw [IntKind.wrap_i64]; omega
   have wk1 : IntKind.i64.wrap (k1 : Int) = (k1 : Int) := by rw [IntKind.wrap_i64]; omega
   have wk2 : (0 : Int) ≤ (k1 : Int) := by omega
   have wk3 : (k1 : Int) < (l.length : Int) := by omega
   have wi0 : (0 : Int) ≤ (i : Int) := by omega
   clear hd hd0 hyk HX HSN HKI
   by_cases hg : gl = 0
   ·subst hg
    have e := HSN2.out
    rw [if_pos (show nog y = true from decide_eq_true HGL.out)] at e
    have HSN3 : Hid (prL (fun y => nog y.1) ys (ks.take (i + 1)) = prL (fun y => nog y.1) ys (ks.take i) ++ [(y, .slice py 0 cy)]) := e
    clear e HSN2
    have hb2 := bel_alloc (Below.refl wa.heap.size wa) (.cells #[.int .i64 y.p, .int .i64 y.s, .int .i64 y.i, .int .i64 y.t, .int .i64 y.q, .int .i64 y.u, .int .i64 y.j, .string y.x, .slice py 0 cy] 69)
    have ho2 := own_later ho hb2
    have hu2 := own_later hu hb2
    have hbw2 := below_on hbw hb2
    have hB1 : w1.heap.size ≤ (wa.alloc (.cells #[.int .i64 y.p, .int .i64 y.s, .int .i64 y.i, .int .i64 y.t, .int .i64 y.q, .int .i64 y.u, .int .i64 y.j, .string y.x, .slice py 0 cy] 69)).heap.size := Nat.le_trans hw1 hb2.size
    have HCL : Hid (∀ j u, [Value.int .i64 y.p, .int .i64 y.s, .int .i64 y.i, .int .i64 y.t, .int .i64 y.q, .int .i64 y.u, .int .i64 y.j, .string y.x, .slice py 0 cy][j]? = some u → (wa.alloc (.cells #[.int .i64 y.p, .int .i64 y.s, .int .i64 y.i, .int .i64 y.t, .int .i64 y.q, .int .i64 y.u, .int .i64 y.j, .string y.x, .slice py 0 cy] 69)).cell? ((⟨wa.heap.size, 0, none⟩ : Addr).add j) = some u) := fun j u hu => by
     have Rn := rw_new wa 69 #[.int .i64 y.p, .int .i64 y.s, .int .i64 y.i, .int .i64 y.t, .int .i64 y.q, .int .i64 y.u, .int .i64 y.j, .string y.x, .slice py 0 cy]
     rw [show ((⟨wa.heap.size, 0, none⟩ : Addr).add j) = ⟨wa.heap.size, j, none⟩ by simp [Addr.add]; (try omega), Rn.cell j]
     simpa using hu
    have hm1 : n0 + 1 ≤ maxLen := by simp [maxLen]; omega
    have hm2 : (n0 + 1) * 96 ≤ 140737488355328 := by omega
    clear HGL
    generalize hWn : wa.alloc (.cells #[.int .i64 y.p, .int .i64 y.s, .int .i64 y.i, .int .i64 y.t, .int .i64 y.q, .int .i64 y.u, .int .i64 y.j, .string y.x, .slice py 0 cy] 69) = wn at hb2 ho2 hu2 hbw2 hB1 HCL
    go_wp2_with (first | refine load_m 69 _ rfl rfl _ _ rfl d Tryz.underlying69 rfl zb ?_ | rw [hWA] | refine load_r 69 _ rfl rfl _ rfl RB Tryz.underlying69 rfl size69 ?_ | rw [hWn] | (at_builtin; refine wpList_append_own _ rfl _ _ 25 rfl w1.heap.size 69 j0 (.agg #[.int .i64 0, .int .i64 0, .int .i64 0, .int .i64 0, .int .i64 0, .int .i64 0, .int .i64 0, .string noS, .slice none 0 0]) 9 96 Tryz.underlying25 hj0 hje0 hje1 hje2 rfl (by decide) _ _ _ rfl ho2 ⟨wa.heap.size, 0, none⟩ 1 1 [Value.int .i64 y.p, .int .i64 y.s, .int .i64 y.i, .int .i64 y.t, .int .i64 y.q, .int .i64 y.u, .int .i64 y.j, .string y.x, .slice py 0 cy] rfl rfl HCL.out (by simp [Value.oneCell']) hm1 hm2 hB1 ?_))
    intro v2 w2 ho3 hg3 _
    have hbw3 : Below w.heap.size w w2 := hbw2.grown hg3 hbw2.size (fun q hq => Nat.le_trans (Nat.le_trans hb1.size (Nat.le_refl _)) (World.ownsRow.lt ho2 q hq).1)
    have hu3 := own_kp hu2 (o := (Value.slice q0 n0 d0).ownBlock) (fun b h1 h2 => hg3.block b h1 (Ne.symm h2)) (fun q hq e => own_tag hu2 ho2 (by decide) e q hq rfl)
    have hw3 : w1.heap.size ≤ w2.heap.size := Nat.le_trans hB1 hg3.size
    have ho4 : w2.ownsRow w1.heap.size 69 9 v2 (prL (fun y => nog y.1) ys (ks.take (i + 1))).length (rows El.cells (prL (fun y => nog y.1) ys (ks.take (i + 1)))) := by
     rw [HSN3.out, List.length_append, HN0.out, rows_append]
     exact ho3
    obtain ⟨q2, d2, e2⟩ := own_sl ho3
    clear HSN3 HN0 ho ho2 ho3 hg3 HCL hWA hWn hu2
    subst e2
    go_wp2_with fail
    go_roundw
    case rel => exact ⟨i + 1, by simp, by omega, ho4, hu3, hbw3, hw3⟩
    case measure => simp [intOf]; omega
   ·have hg' : ¬ (gl : Int) = 0 := by omega
    have e := HSN2.out
    rw [if_neg (show ¬ nog y = true by unfold nog; rw [HGL.out]; simpa using hg), List.append_nil] at e
    have ho2 : wa.ownsRow w1.heap.size 69 9 (.slice q0 n0 d0) (prL (fun y => nog y.1) ys (ks.take (i + 1))).length (rows El.cells (prL (fun y => nog y.1) ys (ks.take (i + 1)))) := by rw [e, HN0.out]; exact ho
    clear e HSN2 HN0 ho hg
    go_wp2_with (first | refine load_m 69 _ rfl rfl _ _ rfl d Tryz.underlying69 rfl zb ?_ | rw [hWA])
    go_roundw
    case rel => exact ⟨i + 1, by simp, by omega, ho2, hu, hbw, hw1⟩
    case measure => simp [intOf]; omega
  ·have hlt' : ¬ (i : Int) < (l.length : Int) := by omega
   obtain rfl : i = l.length := by omega
   have HF : Hid (Q (.returned (.slice q0 n0 d0)) wr) := by
    show Q _ _
    rw [← HQ.out]
    refine ⟨_, rfl, ⟨prL (fun y => nog y.1) ys ks, ?_, ?_, ?_⟩, hbw⟩
    ·unfold prE
     rw [HK.out, ← HYS.out, prL_map]
    ·rw [List.take_of_length_le (by omega)] at ho HN0
     have e : (prE l).length = n0 := by
      unfold prE
      rw [HK.out, ← HN0.out, ← HYS.out, ← prL_map, List.length_map]
     rw [e]
     exact own_sh ho
    ·exact fun y hy => (HY.out y (prL_mem hy)).later hbw
   clear ho HYS HY HQ HN0 HK
   go_wp2_with fail
   exact HF.out
theorem prE_len {l : List El} (h : cr l = true) : (prE l).length ≤ l.length := by
 refine Nat.le_trans (prL_len _ _ _) ?_
 rw [(od_perm h).length_eq, plc_len]
 exact Nat.le_refl _
end Go.Proofs.YtjbbmcommnhgeaaGreat
namespace Go.Proofs.YtjbbmcommnhgeaaGreat
open Go.RowKit Go.Sort
def tE (e : El) : Bs := bs e.x
def rdK (x : X) : Int := if ck x = true then 5 else 0
def rdT (x : X) : List Bs := if ck x = true then (prE x.el).map tE else []
def RdPost (x : X) (w : World) (e : Ending) (w' : World) : Prop := ∃ u, e = .returned (VV (rdK x) u) ∧ THas w' u (rdT x) ∧ Below w.heap.size w w'
theorem read_any (x : X) (va vw vm ve : Value) (w : World) (h : Four w x va vw vm ve) (hs : Sm x) : Calls Tryz.prog 236 #[CV x.k x.b va vw vm ve] w (RdPost x w) := by
 obtain ⟨pa, ca', pw, cw, pm, cm, pe, ce', rfl, rfl, rfl, rfl⟩ := h.slices
 have hb0 := bel_alloc (bel_alloc (Below.refl w.heap.size w) (.cells (cvc x.k x.b (.slice pa x.am.length ca') (.slice pw x.wr.length cw) (.slice pm x.mb.length cm) (.slice pe x.el.length ce')) 27)) (.cells #[.int .i64 0, .int .i64 0, .slice none 0 0, .slice none 0 0] 46)
 have R0 := (rw_new w 27 (cvc x.k x.b (.slice pa x.am.length ca') (.slice pw x.wr.length cw) (.slice pm x.mb.length cm) (.slice pe x.el.length ce'))).alloc (.cells #[.int .i64 0, .int .i64 0, .slice none 0 0, .slice none 0 0] 46)
 have R1 := rw_next (w.alloc (.cells (cvc x.k x.b (.slice pa x.am.length ca') (.slice pw x.wr.length cw) (.slice pm x.mb.length cm) (.slice pe x.el.length ce')) 27)) (b := w.heap.size + 1) (by simp) 46 #[.int .i64 0, .int .i64 0, .slice none 0 0, .slice none 0 0]
 have hf := h.later hb0
 have hsz0 : ((w.alloc (.cells (cvc x.k x.b (.slice pa x.am.length ca') (.slice pw x.wr.length cw) (.slice pm x.mb.length cm) (.slice pe x.el.length ce')) 27)).alloc (.cells #[.int .i64 0, .int .i64 0, .slice none 0 0, .slice none 0 0] 46)).heap.size = w.heap.size + 2 := by simp
 generalize hW : (w.alloc (.cells (cvc x.k x.b (.slice pa x.am.length ca') (.slice pw x.wr.length cw) (.slice pm x.mb.length cm) (.slice pe x.el.length ce')) 27)).alloc (.cells #[.int .i64 0, .int .i64 0, .slice none 0 0, .slice none 0 0] 46) = w0 at hb0 R0 R1 hf hsz0
 have C1 := check_any x _ _ _ _ w0 hf hs
 obtain ⟨j0, hj0, hje0, hje1, hje2⟩ := info_parts info9
 obtain ⟨zk, HZK⟩ := hid_ex (rdK x)
 obtain ⟨zt, HZT⟩ := hid_ex (rdT x)
 have HP : Hid (∀ e w', (∃ u, e = .returned (VV zk u) ∧ THas w' u zt ∧ Below w.heap.size w w') → RdPost x w e w') := fun e w' h => by unfold RdPost; rw [HZK.out, HZT.out]; exact h
 obtain ⟨Q, HQ⟩ : ∃ Q, Hid (RdPost x w = Q) := ⟨_, rfl⟩
 rw [HQ.out] at HP ⊢
 clear h HQ
 go_enter Tryz.func236, Tryz.ntmps236
 go_wp2_with (first | rw [hW] | refine load_r 27 _ rfl rfl _ rfl R0 Tryz.underlying27 rfl size27 ?_)
 clear hW
 refine C1.mono ?_
 clear C1
 rintro e w1 ⟨rfl, hb1⟩
 have R1' := R1.later hb1
 obtain ⟨y1, HY1⟩ := hid_ex (ck x)
 rw [HY1.out]
 have hw1 : w.heap.size + 2 ≤ w1.heap.size := by have := hb1.size; omega
 cases y1
 ·have e1 : zk = 0 := by rw [← HZK.out]; unfold rdK; rw [HY1.out]; rfl
  have e2 : zt = [] := by rw [← HZT.out]; unfold rdT; rw [HY1.out]; rfl
  have HF : Hid (Q (.returned (VV 0 (.slice none 0 0))) (w1.setRow (w.heap.size + 1) #[.int .i64 0, .int .i64 0, .slice none 0 0, .slice none 0 0])) := HP.out _ _ ⟨_, by rw [e1], by rw [e2]; exact SHas.nil _ 1, below_setRow (below_on hb0 hb1) (by omega) _⟩
  clear HP e1 e2 HZK HZT HY1
  go_wp2_with (first | refine store_r rfl 46 _ _ rfl _ #[.int .i64 0, .int .i64 0, .slice none 0 0, .slice none 0 0] rfl rfl R1' size46 rfl (by simp [Value.oneCell']) ?_)
  refine bodyPost_ret (results_r rfl rfl (R1'.row _) rfl Tryz.underlying46 size46) rfl ?_
  exact HF.out
 ·have hcr := (ck_parts HY1.out).2.2.2.2.2.2
  have hup := ce_up (ck_parts HY1.out).2.2.2.2.2.1
  have e1 : zk = 5 := by rw [← HZK.out]; unfold rdK; rw [HY1.out]; rfl
  have HT : Hid (zt = (prE x.el).map tE) := by show _ = _; rw [← HZT.out]; unfold rdT; rw [HY1.out]; rfl
  have hbV := bel_alloc (Below.refl w1.heap.size w1) (.cells #[.int .i64 5, .int .i64 0, .slice none 0 0, .slice none 0 0] 46)
  have RV := rw_new w1 46 #[.int .i64 5, .int .i64 0, .slice none 0 0, .slice none 0 0]
  have hszV : (w1.alloc (.cells #[.int .i64 5, .int .i64 0, .slice none 0 0, .slice none 0 0] 46)).heap.size = w1.heap.size + 1 := by simp
  have hb1V := below_on hb1 hbV
  have cE : (w1.alloc (.cells #[.int .i64 5, .int .i64 0, .slice none 0 0, .slice none 0 0] 46)).cell? ⟨w.heap.size, 5, none⟩ = some (.slice pe x.el.length ce') := (R0.later hb1V).cell 5
  go_wp2_with fail
  generalize hWV : w1.alloc (.cells #[.int .i64 5, .int .i64 0, .slice none 0 0, .slice none 0 0] 46) = wv at hbV RV hb1V hszV cE ⊢
  have C2 := present_any _ x.el wv (hf.e.later hb1V) hs.e hup hcr
  have hpl := prE_len hcr
  have hel := hs.e
  subst e1
  clear hcr hup HY1 hf HZK HZT hWV
  refine C2.mono ?_
  clear C2 cE
  rintro e w2 ⟨u, rfl, hE, hb2⟩
  obtain ⟨L, HL⟩ := hid_ex (prE x.el)
  rw [HL.out] at hE hpl HT
  obtain ⟨ys, hys, hS, hy⟩ := hE
  obtain ⟨pv, cv, rfl⟩ := hS.slice
  have hyl : ys.length = L.length := by rw [← hys, List.length_map]
  have hml := maxLen_lt hS.1
  have HR : Hid (SHas 9 w2 (.slice pv L.length cv) L.length (rows El.cells ys)) := hS
  have HY : Hid (∀ y ∈ ys, MHas w2 y.2 y.1.gone) := hy
  have HLL : Hid (∀ k (h1 : k < ys.length) (h2 : k < L.length), ys[k].1 = L[k]) := fun k h1 h2 => by
   subst hys
   rw [List.getElem_map]
  replace RV := RV.later hb2
  have R2 := (R1'.later hbV).later hb2
  have hbw := below_on hb0 (below_on hb1V hb2)
  have hw2 : wv.heap.size ≤ w2.heap.size := hb2.size
  obtain ⟨bv, hbv⟩ : ∃ b, b = w1.heap.size := ⟨_, rfl⟩
  rw [← hbv] at RV hszV ⊢
  have hbv2 : w.heap.size + 2 ≤ bv ∧ bv < w2.heap.size := by omega
  have HRV : Hid (Rw w2 bv 46 #[.int .i64 5, .int .i64 0, .slice none 0 0, .slice none 0 0]) := RV
  have hwle : w.heap.size ≤ w2.heap.size := hbw.size
  clear hS hy hys HL hb1 hb2 hb1V hbV R0 R1 R1' hbv hszV hw2 hsz0
  go_wp2_with fail
  go_loopw [15] (fun vi wr => ∃ (k : Nat) (q0 : Option Addr) (d0 : Nat), vi = .int .i64 k ∧ k ≤ L.length ∧ Rw wr bv 46 #[.int .i64 5, .int .i64 0, .slice q0 k d0, .slice none 0 0] ∧ Rw wr (w.heap.size + 1) 46 #[.int .i64 0, .int .i64 0, .slice none 0 0, .slice none 0 0] ∧ wr.ownsRow w2.heap.size 9 1 (.slice q0 k d0) k (((L.take k).map tE).map encStr) ∧ Below w.heap.size w wr ∧ (∀ b, b < w2.heap.size → b ≠ bv → wr.heap[b]? = w2.heap[b]?) ∧ w2.heap.size ≤ wr.heap.size) (fun vi _ => L.length - (intOf vi).toNat)
  case atStart => exact ⟨0, none, 0, rfl, by omega, RV, R2, own_none _ _ _ _, hbw, (fun _ _ _ => rfl), Nat.le_refl _⟩
  case round =>
   clear RV R2 hbw
   obtain ⟨k, q0, d0, rfl, hk, RV, R2, ho, hbw, hkp, hsz⟩ := hrel
   by_cases hlt : k < L.length
   ·have hlt' : (k : Int) < (L.length : Int) := by omega
    have hky : k < ys.length := by omega
    obtain ⟨g1, o, rfl, hd0⟩ := HR.out.at (by omega)
    have d2 : w2.rangeAt g1 (o + k * 9) (El.cells ys[k]) := range_sub hd0 (k * 9) fun j u hu => rows_at El.len ys k hky j u hu
    have hc8 := d2 8 _ rfl
    have hg1 : g1 < w2.heap.size := by
     unfold World.cell? at hc8
     rcases Nat.lt_or_ge g1 w2.heap.size with h | h
     ·exact h
     ·simp only at hc8
      rw [Array.getElem?_eq_none h] at hc8
      cases hc8
    have hne : g1 ≠ bv := fun e => by
     subst e
     rw [Rw.cell HRV.out (o + k * 9 + 8)] at hc8
     simp at hc8
    have d : wr.rangeAt g1 (o + k * 9) (El.cells ys[k]) := fun j u hu => by
     rw [World.cell?_of_block (hkp g1 hg1 hne)]
     exact d2 j u hu
    have hyk := HY.out ys[k] (List.getElem_mem _)
    have ey := HLL.out k hky hlt
    have HSN : Hid (((L.take (k + 1)).map tE).map encStr = ((L.take k).map tE).map encStr ++ [.string ys[k].1.x]) := by
     show _ = _
     rw [List.take_succ_eq_append_getElem hlt, List.map_append, List.map_append, ey]
     rfl
    obtain ⟨yy, HX⟩ := hid_ex (ys[k])
    rw [HX.out] at d hyk HSN
    obtain ⟨y, yv⟩ := yy
    replace hyk : MHas w2 yv y.gone := hyk
    obtain ⟨py, cy, rfl⟩ := hyk.slice
    replace d : wr.rangeAt g1 (o + k * 9) [Value.int .i64 y.p, .int .i64 y.s, .int .i64 y.i, .int .i64 y.t, .int .i64 y.q, .int .i64 y.u, .int .i64 y.j, .string y.x, .slice py y.gone.length cy] := d
    replace HSN : Hid (((L.take (k + 1)).map tE).map encStr = ((L.take k).map tE).map encStr ++ [.string y.x]) := HSN
    have zb : (Tryz.prog.info? 69).map (·.size) = some [Value.int .i64 y.p, .int .i64 y.s, .int .i64 y.i, .int .i64 y.t, .int .i64 y.q, .int .i64 y.u, .int .i64 y.j, .string y.x, .slice py y.gone.length cy].length := size69
    have RB := rw_new wr 69 #[.int .i64 y.p, .int .i64 y.s, .int .i64 y.i, .int .i64 y.t, .int .i64 y.q, .int .i64 y.u, .int .i64 y.j, .string y.x, .slice py y.gone.length cy]
    have hbA := bel_alloc (Below.refl wr.heap.size wr) (.cells #[.int .i64 y.p, .int .i64 y.s, .int .i64 y.i, .int .i64 y.t, .int .i64 y.q, .int .i64 y.u, .int .i64 y.j, .string y.x, .slice py y.gone.length cy] 69)
    replace ho := own_later ho hbA
    replace RV := RV.later hbA
    replace R2 := R2.later hbA
    replace hbw := below_on hbw hbA
    have hkp1 : ∀ b, b < w2.heap.size → b ≠ bv → (wr.alloc (.cells #[.int .i64 y.p, .int .i64 y.s, .int .i64 y.i, .int .i64 y.t, .int .i64 y.q, .int .i64 y.u, .int .i64 y.j, .string y.x, .slice py y.gone.length cy] 69)).heap[b]? = w2.heap[b]? := fun b h1 h2 => (hbA.block b (by omega)).trans (hkp b h1 h2)
    have hsz1 : w2.heap.size ≤ (wr.alloc (.cells #[.int .i64 y.p, .int .i64 y.s, .int .i64 y.i, .int .i64 y.t, .int .i64 y.q, .int .i64 y.u, .int .i64 y.j, .string y.x, .slice py y.gone.length cy] 69)).heap.size := Nat.le_trans hsz hbA.size
    generalize hWA : wr.alloc (.cells #[.int .i64 y.p, .int .i64 y.s, .int .i64 y.i, .int .i64 y.t, .int .i64 y.q, .int .i64 y.u, .int .i64 y.j, .string y.x, .slice py y.gone.length cy] 69) = wa at RB hbA ho RV R2 hbw hkp1 hsz1
    have ct : wa.cell? ⟨wr.heap.size, 7, none⟩ = some (.string y.x) := RB.cell 7
    have cv2 : wa.cell? ⟨bv, 2, none⟩ = some (.slice q0 k d0) := RV.cell 2
    have hbB := bel_alloc (Below.refl wa.heap.size wa) (.cells #[.string y.x] 9)
    have ho2 := own_later ho hbB
    have RV2 := RV.later hbB
    have R22 := R2.later hbB
    have hbw2 := below_on hbw hbB
    have hB1 : w2.heap.size ≤ (wa.alloc (.cells #[.string y.x] 9)).heap.size := Nat.le_trans hsz1 hbB.size
    have hkp2 : ∀ b, b < w2.heap.size → b ≠ bv → (wa.alloc (.cells #[.string y.x] 9)).heap[b]? = w2.heap[b]? := fun b h1 h2 => (hbB.block b (by omega)).trans (hkp1 b h1 h2)
    have HCL : Hid (∀ j u, [Value.string y.x][j]? = some u → (wa.alloc (.cells #[.string y.x] 9)).cell? ((⟨wa.heap.size, 0, none⟩ : Addr).add j) = some u) := fun j u hu => by
     have Rn := rw_new wa 9 #[.string y.x]
     match j, hu with
     | 0, hu => exact (Rn.cell 0).trans hu
     | j + 1, hu => simp at hu
    have hm1 : k + 1 ≤ maxLen := by simp [maxLen]; omega
    have hm2 : (k + 1) * 16 ≤ 140737488355328 := by omega
    generalize hWn : wa.alloc (.cells #[.string y.x] 9) = wn at hbB ho2 RV2 R22 hbw2 hB1 hkp2 HCL
    clear hd0 hyk HX ey d2 hc8 RV R2
    go_wp2_with (first | refine load_m 69 _ rfl rfl _ _ rfl d Tryz.underlying69 rfl zb ?_ | rw [hWA] | rw [hWn] | (at_builtin; refine wpList_append_own _ rfl _ _ 43 rfl w2.heap.size 9 j0 (.string noS) 1 16 Tryz.underlying43 hj0 hje0 hje1 hje2 rfl (by decide) _ _ _ rfl ho2 ⟨wa.heap.size, 0, none⟩ 1 1 [.string y.x] rfl rfl HCL.out (by simp [Value.oneCell']) hm1 hm2 hB1 ?_))
    intro v2 w3 ho3 hg3 _
    have neV := rw_own_ne RV2 ho2 (by decide)
    have neR := rw_own_ne R22 ho2 (by decide)
    have kp3 : ∀ q, q < wn.heap.size → (∀ j, (Value.slice q0 k d0).ownBlock = some j → j ≠ q) → w3.heap[q]? = wn.heap[q]? := fun q hq hn => hg3.block q hq (fun e => hn q e.symm rfl)
    have RV3 : Rw w3 bv 46 #[.int .i64 5, .int .i64 0, .slice q0 k d0, .slice none 0 0] := (kp3 bv RV2.lt neV).trans RV2
    have R23 : Rw w3 (w.heap.size + 1) 46 #[.int .i64 0, .int .i64 0, .slice none 0 0, .slice none 0 0] := (kp3 _ R22.lt neR).trans R22
    obtain ⟨q2, d2, rfl⟩ := own_sl ho3
    have cv3 : w3.cell? ⟨bv, 2, none⟩ = some (.slice q0 k d0) := RV3.cell 2
    have fv3 := RV3.frozen 2
    have RV4 := RV3.set 2 (.slice q2 (k + 1) d2)
    replace RV4 : Rw (w3.setCell ⟨bv, 2, none⟩ (.slice q2 (k + 1) d2)) bv 46 #[.int .i64 5, .int .i64 0, .slice q2 (k + 1) d2, .slice none 0 0] := RV4
    have R24 := R23.setOther (q := bv) (by omega) 2 (.slice q2 (k + 1) d2)
    have ho4 : (w3.setCell ⟨bv, 2, none⟩ (.slice q2 (k + 1) d2)).ownsRow w2.heap.size 9 1 (.slice q2 (k + 1) d2) (k + 1) (((L.take (k + 1)).map tE).map encStr) := by
     rw [HSN.out]
     have := own_over ho3 (rw_own_ne RV3 ho3 (by decide)) 2 (.slice q2 (k + 1) d2)
     simp only [List.map_take, List.map_map] at this ⊢
     exact this
    have hbw4 : Below w.heap.size w (w3.setCell ⟨bv, 2, none⟩ (.slice q2 (k + 1) d2)) := below_cell (hbw2.grown hg3 hbw2.size (fun q hq => Nat.le_trans hwle (World.ownsRow.lt ho2 q hq).1)) (by omega) _ _
    have hkp4 : ∀ b, b < w2.heap.size → b ≠ bv → (w3.setCell ⟨bv, 2, none⟩ (.slice q2 (k + 1) d2)).heap[b]? = w2.heap[b]? := fun b h1 h2 => by
     refine (Below.heap_setCell w3 ⟨bv, 2, none⟩ _ b (by simpa using h2)).trans ?_
     refine (kp3 b (by omega) (fun j hj e => ?_)).trans (hkp2 b h1 h2)
     have := (World.ownsRow.lt ho2 j hj).1
     omega
    have hsz4 : w2.heap.size ≤ (w3.setCell ⟨bv, 2, none⟩ (.slice q2 (k + 1) d2)).heap.size := by
     rw [World.size_setCell]
     exact Nat.le_trans hB1 hg3.size
    clear HSN ho ho2 ho3 hg3 HCL hWA hWn RV2 R22 RV3 R23 kp3 hkp hkp1 hkp2 hbw hbw2 neV neR
    go_wp2_with fail
    go_roundw
    case rel => exact ⟨k + 1, q2, d2, by simp, by omega, RV4, R24, ho4, hbw4, hkp4, hsz4⟩
    case measure => simp [intOf]; omega
   ·have hlt' : ¬ (k : Int) < (L.length : Int) := by omega
    obtain rfl : k = L.length := by omega
    rw [List.take_of_length_le (Nat.le_refl _)] at ho
    have HF : Hid (Q (.returned (VV 5 (.slice q0 L.length d0))) (wr.setRow (w.heap.size + 1) #[.int .i64 5, .int .i64 0, .slice q0 L.length d0, .slice none 0 0])) := HP.out _ _ ⟨_, rfl, by
     rw [HT.out]
     show SHas 1 _ _ (L.map tE).length _
     rw [List.length_map]
     exact own_sh (own_row ho (by omega) _), below_setRow hbw (by omega) _⟩
    clear ho HP HT HY hkp
    go_wp2_with (first | refine load_r 46 _ rfl rfl _ rfl RV Tryz.underlying46 rfl size46 ?_ | refine store_r rfl 46 _ _ rfl _ #[.int .i64 5, .int .i64 0, .slice q0 L.length d0, .slice none 0 0] rfl rfl R2 size46 rfl (by simp [Value.oneCell']) ?_)
    refine bodyPost_ret (results_r rfl rfl (R2.row _) rfl Tryz.underlying46 size46) rfl ?_
    exact HF.out
end Go.Proofs.YtjbbmcommnhgeaaGreat
namespace Go.Proofs.YtjbbmcommnhgeaaGreat
open Go.RowKit
def ckc (x : X) : Bool := cse x.k (Ct.ck x) (Rg.ck x) (Os.ck x) (ck x) false
def rkc (x : X) : Int := cse x.k (Ct.rdK x) (Rg.rdK x) (Os.rdK x) (rdK x) 0
def rnc (x : X) : Int := cse x.k (Ct.rdN x) 0 0 0 0
def rtc (x : X) : List Bs := cse x.k [] (Rg.rdT x) (Os.rdT x) (rdT x) []
theorem checkM (x : X) (va vw vm ve : Value) (w : World) (h : Four w x va vw vm ve) (hs : Sm x) : Calls Tryz.prog (cse x.k 200 212 221 230 259) #[CV x.k x.b va vw vm ve] w (Tells (.bool (ckc x)) w) := by
 obtain ⟨k, b, am, wr, mb, el⟩ := x
 rcases kinds k with rfl | rfl | rfl | rfl | rfl | hk
 ·rw [cse1, show ckc ⟨1, b, am, wr, mb, el⟩ = Ct.ck ⟨1, b, am, wr, mb, el⟩ from rfl]
  exact chk83 1 b va vw vm ve w fun w' hb => Ct.check_any ⟨1, b, am, wr, mb, el⟩ va vw vm ve w' (h.later hb) hs
 ·rw [cse2, show ckc ⟨2, b, am, wr, mb, el⟩ = Rg.ck ⟨2, b, am, wr, mb, el⟩ from rfl]
  exact chk85 2 b va vw vm ve w fun w' hb => Rg.check_any ⟨2, b, am, wr, mb, el⟩ va vw vm ve w' (h.later hb) hs
 ·rw [cse3, show ckc ⟨3, b, am, wr, mb, el⟩ = Rg.ck ⟨3, b, am, wr, mb, el⟩ from rfl]
  exact chk85 3 b va vw vm ve w fun w' hb => Rg.check_any ⟨3, b, am, wr, mb, el⟩ va vw vm ve w' (h.later hb) hs
 ·rw [cse4, show ckc ⟨4, b, am, wr, mb, el⟩ = Os.ck ⟨4, b, am, wr, mb, el⟩ from rfl]
  exact chk87 4 b va vw vm ve w fun w' hb => Os.check_any ⟨4, b, am, wr, mb, el⟩ va vw vm ve w' (h.later hb) hs
 ·rw [cse5, show ckc ⟨5, b, am, wr, mb, el⟩ = ck ⟨5, b, am, wr, mb, el⟩ from rfl]
  exact chk88 5 b va vw vm ve w fun w' hb => check_any ⟨5, b, am, wr, mb, el⟩ va vw vm ve w' (h.later hb) hs
 ·unfold ckc
  rw [cse0 _ _ _ _ _ hk, cse0 _ _ _ _ _ hk]
  exact chk97 k b va vw vm ve w
theorem readM (x : X) (va vw vm ve : Value) (w : World) (h : Four w x va vw vm ve) (hs : Sm x) : Calls Tryz.prog (cse x.k 203 215 224 233 262) #[CV x.k x.b va vw vm ve] w (Reads (rkc x) (rnc x) (rtc x) w) := by
 obtain ⟨k, b, am, wr, mb, el⟩ := x
 rcases kinds k with rfl | rfl | rfl | rfl | rfl | hk
 ·rw [cse1, show rkc ⟨1, b, am, wr, mb, el⟩ = Ct.rdK ⟨1, b, am, wr, mb, el⟩ from rfl, show rnc ⟨1, b, am, wr, mb, el⟩ = Ct.rdN ⟨1, b, am, wr, mb, el⟩ from rfl, show rtc ⟨1, b, am, wr, mb, el⟩ = [] from rfl]
  exact rd83 1 b va vw vm ve w fun w' hb => (Ct.read_any ⟨1, b, am, wr, mb, el⟩ va vw vm ve w' (h.later hb) hs).mono fun _ _ ⟨he, hb'⟩ => ⟨_, he, THas.nil _, hb'⟩
 ·rw [cse2, show rkc ⟨2, b, am, wr, mb, el⟩ = Rg.rdK ⟨2, b, am, wr, mb, el⟩ from rfl, show rnc ⟨2, b, am, wr, mb, el⟩ = 0 from rfl, show rtc ⟨2, b, am, wr, mb, el⟩ = Rg.rdT ⟨2, b, am, wr, mb, el⟩ from rfl]
  exact rd85 2 b va vw vm ve w fun w' hb => Rg.read_any ⟨2, b, am, wr, mb, el⟩ va vw vm ve w' (h.later hb) hs
 ·rw [cse3, show rkc ⟨3, b, am, wr, mb, el⟩ = Rg.rdK ⟨3, b, am, wr, mb, el⟩ from rfl, show rnc ⟨3, b, am, wr, mb, el⟩ = 0 from rfl, show rtc ⟨3, b, am, wr, mb, el⟩ = Rg.rdT ⟨3, b, am, wr, mb, el⟩ from rfl]
  exact rd85 3 b va vw vm ve w fun w' hb => Rg.read_any ⟨3, b, am, wr, mb, el⟩ va vw vm ve w' (h.later hb) hs
 ·rw [cse4, show rkc ⟨4, b, am, wr, mb, el⟩ = Os.rdK ⟨4, b, am, wr, mb, el⟩ from rfl, show rnc ⟨4, b, am, wr, mb, el⟩ = 0 from rfl, show rtc ⟨4, b, am, wr, mb, el⟩ = Os.rdT ⟨4, b, am, wr, mb, el⟩ from rfl]
  exact rd87 4 b va vw vm ve w fun w' hb => Os.read_any ⟨4, b, am, wr, mb, el⟩ va vw vm ve w' (h.later hb) hs
 ·rw [cse5, show rkc ⟨5, b, am, wr, mb, el⟩ = rdK ⟨5, b, am, wr, mb, el⟩ from rfl, show rnc ⟨5, b, am, wr, mb, el⟩ = 0 from rfl, show rtc ⟨5, b, am, wr, mb, el⟩ = rdT ⟨5, b, am, wr, mb, el⟩ from rfl]
  exact rd88 5 b va vw vm ve w fun w' hb => read_any ⟨5, b, am, wr, mb, el⟩ va vw vm ve w' (h.later hb) hs
 ·unfold rkc rnc rtc
  rw [cse0 _ _ _ _ _ hk, cse0 _ _ _ _ _ hk, cse0 _ _ _ _ _ hk, cse0 _ _ _ _ _ hk]
  exact rd97 k b va vw vm ve w
theorem check_c (x : X) (va vw vm ve : Value) (w : World) (h : Four w x va vw vm ve) (hs : Sm x) : Calls Tryz.prog 18 #[CV x.k x.b va vw vm ve] w (Tells (.bool (ckc x)) w) := by
 have R := rw_new w 27 (cvc x.k x.b va vw vm ve)
 have hb := bel_alloc (Below.refl w.heap.size w) (.cells (cvc x.k x.b va vw vm ve) 27)
 generalize hW : w.alloc (.cells (cvc x.k x.b va vw vm ve) 27) = w0 at R hb
 have C : ∀ w', Below w.heap.size w w' → Calls Tryz.prog (cse x.k 200 212 221 230 259) #[CV x.k x.b va vw vm ve] w' (Tells (.bool (ckc x)) w') := fun w' hb => checkM x va vw vm ve w' (h.later hb) hs
 have M := m_check x.k (CV x.k x.b va vw vm ve)
 have E : ∀ args w, (callFunc (cse x.k 200 212 221 230 259) args).run Tryz.prog w = .ok (.enter (cse x.k 200 212 221 230 259) args) w := fun args w => Calm.enters_run (e_check x.k) args w
 generalize cse x.k 200 212 221 230 259 = F at C M E
 generalize ckc x = z at C ⊢
 go_enter Tryz.func18, Tryz.ntmps18
 go_wp2_with (first | rw [hW] | refine load_r 27 _ rfl rfl _ rfl R Tryz.underlying27 rfl size27 ?_)
 refine (atWork_any x.k x.b va vw vm ve w0).mono ?_
 rintro e w1 ⟨rfl, hb1⟩
 go_wp2_with fail
 rw [M _ (by kernel_rfl)]
 go_wp2_with fail
 refine (C w1 (below_on hb hb1)).mono ?_
 rintro e w2 ⟨rfl, hb2⟩
 go_wp2_with fail
 go_ret
 exact ⟨rfl, below_on (below_on hb hb1) hb2⟩
theorem read_c (x : X) (va vw vm ve : Value) (w : World) (h : Four w x va vw vm ve) (hs : Sm x) : Calls Tryz.prog 14 #[CV x.k x.b va vw vm ve] w (Reads (rkc x) (rnc x) (rtc x) w) := by
 obtain ⟨R, R1, hb⟩ := two_rows w (cvc x.k x.b va vw vm ve) 27 #[.int .i64 0, .int .i64 0, .slice none 0 0, .slice none 0 0] 46
 generalize hW : (w.alloc (.cells (cvc x.k x.b va vw vm ve) 27)).alloc (.cells #[.int .i64 0, .int .i64 0, .slice none 0 0, .slice none 0 0] 46) = w0 at R R1 hb
 have C : ∀ w', Below w.heap.size w w' → Calls Tryz.prog (cse x.k 203 215 224 233 262) #[CV x.k x.b va vw vm ve] w' (Reads (rkc x) (rnc x) (rtc x) w') := fun w' hb => readM x va vw vm ve w' (h.later hb) hs
 have M := m_read x.k (CV x.k x.b va vw vm ve)
 have E : ∀ args w, (callFunc (cse x.k 203 215 224 233 262) args).run Tryz.prog w = .ok (.enter (cse x.k 203 215 224 233 262) args) w := fun args w => Calm.enters_run (e_read x.k) args w
 generalize cse x.k 203 215 224 233 262 = F at C M E
 generalize rkc x = K at C ⊢
 generalize rnc x = n at C ⊢
 generalize rtc x = l at C ⊢
 go_enter Tryz.func14, Tryz.ntmps14
 go_wp2_with (first | rw [hW] | refine load_r 27 _ rfl rfl _ rfl R Tryz.underlying27 rfl size27 ?_)
 refine (atWork_any x.k x.b va vw vm ve w0).mono ?_
 rintro e w1 ⟨rfl, hb1⟩
 go_wp2_with fail
 rw [M _ (by kernel_rfl)]
 go_wp2_with fail
 refine (C w1 (below_on hb hb1)).mono ?_
 rintro e w2 ⟨u, rfl, hu, hb2⟩
 obtain ⟨p, c, rfl⟩ := hu.slice
 replace R1 := (R1.later hb1).later hb2
 go_wp2_with (refine store_r rfl 46 _ _ rfl _ #[.int .i64 K, .int .i64 n, .slice p l.length c, .slice none 0 0] rfl rfl R1 size46 rfl (by simp [Value.oneCell']) ?_)
 refine bodyPost_ret (results_r rfl rfl (R1.row _) rfl Tryz.underlying46 size46) rfl ?_
 exact ⟨_, rfl, hu.rowV R1 _, below_setRow (below_on (below_on hb hb1) hb2) (by omega) _⟩
end Go.Proofs.YtjbbmcommnhgeaaGreat
namespace Go.Proofs.YtjbbmcommnhgeaaGreat.Rg
open Go.RowKit
def doX (x : X) (a : Wt) (v : List Int) : X := if (ck x && (iw a.i a.x && !has a x.wr)) = true then { x with wr := insF a (lef x.wr a.p a.s v a.i) } else x
theorem own_ne {w : World} {B S n : Nat} {v : Value} {xs : List Value} {e : TypeId} (h : w.ownsRow B e S v n xs) {b : Nat} {t : TypeId} {cs : Array Value} (R : Rw w b t cs) (hne : e ≠ t) : ∀ k, v.ownBlock = some k → k ≠ b := by
 intro k hk ek
 subst ek
 obtain ⟨_, ⟨rfl, _⟩ | ⟨g, cap, cur, rfl, _, hg, _⟩⟩ := h
 ·cases hk
 ·have e1 := Option.some.inj hk
  simp only at e1
  subst e1
  have := Option.some.inj (hg.symm.trans R)
  simp at this
  exact hne this.2
theorem lef_pair {l : List Wt} (h : l.Pairwise (fun a b => lt a b = true)) (q u : Int) (v : List Int) (idx : Int) : (lef l q u v idx).Pairwise (fun a b => lt a b = true) := h.filter _
theorem lef_length (l : List Wt) (q u : Int) (v : List Int) (idx : Int) : (lef l q u v idx).length ≤ l.length := List.length_filter_le _ _
theorem do_any (x : X) (va vw vm ve : Value) (p s : Int) (u : List Int) (t : Int) (sl : Value) (i : Int) (tx : ByteArray) (w : World) (hu : u.length = 13) (h : Four w x va vw vm ve) (hs : Sm x) :
  Calls Tryz.prog 39 #[CV x.k x.b va vw vm ve, TxV p s u t sl, .int .i64 i, .string tx] w (Gives (doX x ⟨p, s, i, t, tx⟩ u) w) := by
 obtain ⟨pa, ca', pw, cw, pm, cm, pe, ce, rfl, rfl, rfl, rfl⟩ := h.slices
 have HF : Hid (Four w x (.slice pa x.am.length ca') (.slice pw x.wr.length cw) (.slice pm x.mb.length cm) (.slice pe x.el.length ce)) := h
 clear h
 obtain ⟨z, HZ⟩ := hid_ex (doX x ⟨p, s, i, t, tx⟩ u)
 rw [HZ.out]
 have R0 := ((rw_new w 27 (cx x pa ca' pw cw pm cm pe ce)).alloc (.cells (txc p s u t sl).toArray 34)).alloc (.cells z4 27)
 have R1 := (rw_new (w.alloc (.cells (cx x pa ca' pw cw pm cm pe ce) 27)) 34 (txc p s u t sl).toArray).alloc (.cells z4 27)
 have R2 := rw_new ((w.alloc (.cells (cx x pa ca' pw cw pm cm pe ce) 27)).alloc (.cells (txc p s u t sl).toArray 34)) 27 z4
 have hbel := bel_alloc (bel_alloc (bel_alloc (Below.refl w.heap.size w) (.cells (cx x pa ca' pw cw pm cm pe ce) 27)) (.cells (txc p s u t sl).toArray 34)) (.cells z4 27)
 have hsz : (((w.alloc (.cells (cx x pa ca' pw cw pm cm pe ce) 27)).alloc (.cells (txc p s u t sl).toArray 34)).alloc (.cells z4 27)).heap.size = w.heap.size + 3 := by simp
 generalize hW : ((w.alloc (.cells (cx x pa ca' pw cw pm cm pe ce) 27)).alloc (.cells (txc p s u t sl).toArray 34)).alloc (.cells z4 27) = w0 at R0 R1 R2 hbel hsz
 simp only [World.size_alloc, Nat.add_assoc, Nat.reduceAdd] at R1 R2
 have zd : (Tryz.prog.info? 29).map (·.size) = some [Value.int .i64 p, .int .i64 s].length := size29
 have zm : (Tryz.prog.info? 50).map (·.size) = some [Value.int .i64 p, .int .i64 s, .int .i64 i].length := size50
 have zt := size_tx (p := p) (s := s) (t := t) (sl := sl) hu
 have c15 := tx_time R1 hu
 have R3 := rw_new w0 64 #[.int .i64 p, .int .i64 s, .int .i64 i, .int .i64 t, .string tx]
 have hbA := bel_alloc (Below.refl w0.heap.size w0) (.cells #[.int .i64 p, .int .i64 s, .int .i64 i, .int .i64 t, .string tx] 64)
 rw [hsz] at R3
 have L0 := R0.later hbA
 go_enter Tryz.func39, Tryz.ntmps39
 go_wp2_with (first | rw [hW] | refine load_m 29 _ rfl rfl _ _ rfl (tx_dot R1) Tryz.underlying29 rfl zd ?_ | refine load_r 27 _ rfl rfl _ rfl L0 Tryz.underlying27 rfl size27 ?_)
 clear hW c15 L0
 replace R0 := R0.later hbA
 replace R1 := R1.later hbA
 replace R2 := R2.later hbA
 replace hbel := below_on hbel hbA
 have hB : w.heap.size + 4 ≤ (w0.alloc (.cells #[.int .i64 p, .int .i64 s, .int .i64 i, .int .i64 t, .string tx] 64)).heap.size := by simp [hsz]
 clear hbA hsz
 generalize w0.alloc (.cells #[.int .i64 p, .int .i64 s, .int .i64 i, .int .i64 t, .string tx] 64) = w1 at R0 R1 R2 R3 hbel hB ⊢
 refine (check_any x _ _ _ _ w1 (HF.out.later hbel) hs).mono ?_
 rintro e w2 ⟨rfl, hb1⟩
 replace R0 := R0.later hb1
 replace R1 := R1.later hb1
 replace R2 := R2.later hb1
 replace R3 := R3.later hb1
 replace hbel := below_on hbel hb1
 replace hB := Nat.le_trans hB hb1.size
 clear hb1
 obtain ⟨y1, HY1⟩ := hid_ex (ck x)
 rw [HY1.out]
 cases y1
 ·have HD : Hid (doX x ⟨p, s, i, t, tx⟩ u = x) := by
   show _ = _
   unfold doX
   rw [HY1.out]
   rfl
  rw [HD.out] at HZ
  go_wp2_with (first | refine load_r 27 _ rfl rfl _ rfl R0 Tryz.underlying27 rfl size27 ?_)
  refine (copied_any x _ _ _ _ _ (HF.out.later hbel) hs).mono ?_
  rintro e w9 ⟨ua, uw, um, ue, rfl, ho, hb1⟩
  obtain ⟨qa, da, qw, dw, qm, dm, qe, de, rfl, rfl, rfl, rfl⟩ := ho.four.slices
  replace R2 := R2.later hb1
  replace hbel := below_on hbel hb1
  go_wp2_with (first | refine store_r rfl 27 _ _ rfl _ (cx x qa da qw dw qm dm qe de) rfl rfl R2 size27 rfl (by simp [Value.oneCell']) ?_)
  refine bodyPost_ret (results_r rfl rfl (R2.row (cx x qa da qw dw qm dm qe de)) rfl Tryz.underlying27 size27) rfl ?_
  have e := HZ.out
  subst e
  exact ⟨_, _, _, _, rfl, (ho.row (by omega) R2 _).four, below_setRow hbel (by omega) _⟩
 ·go_wp2_with (first | refine load_r 64 _ rfl rfl _ rfl R3 Tryz.underlying64 rfl size64 ?_)
  refine (isWrite_any p s i t tx w2).mono ?_
  rintro e w3 ⟨rfl, hb1⟩
  replace R0 := R0.later hb1
  replace R1 := R1.later hb1
  replace R2 := R2.later hb1
  replace R3 := R3.later hb1
  replace hbel := below_on hbel hb1
  replace hB := Nat.le_trans hB hb1.size
  clear hb1
  obtain ⟨y2, HY2⟩ := hid_ex (iw i tx)
  rw [HY2.out]
  cases y2
  ·have HD : Hid (doX x ⟨p, s, i, t, tx⟩ u = x) := by
    show _ = _
    unfold doX
    rw [HY1.out]
    simp only [HY2.out]
    rfl
   rw [HD.out] at HZ
   go_wp2_with (first | refine load_r 27 _ rfl rfl _ rfl R0 Tryz.underlying27 rfl size27 ?_)
   refine (copied_any x _ _ _ _ _ (HF.out.later hbel) hs).mono ?_
   rintro e w9 ⟨ua, uw, um, ue, rfl, ho, hb1⟩
   obtain ⟨qa, da, qw, dw, qm, dm, qe, de, rfl, rfl, rfl, rfl⟩ := ho.four.slices
   replace R2 := R2.later hb1
   replace hbel := below_on hbel hb1
   go_wp2_with (first | refine store_r rfl 27 _ _ rfl _ (cx x qa da qw dw qm dm qe de) rfl rfl R2 size27 rfl (by simp [Value.oneCell']) ?_)
   refine bodyPost_ret (results_r rfl rfl (R2.row (cx x qa da qw dw qm dm qe de)) rfl Tryz.underlying27 size27) rfl ?_
   have e := HZ.out
   subst e
   exact ⟨_, _, _, _, rfl, (ho.row (by omega) R2 _).four, below_setRow hbel (by omega) _⟩
  ·have c3 : w3.cell? ⟨w.heap.size, 3, none⟩ = some (.slice pw x.wr.length cw) := R0.cell 3
   have d3 := Wt.mark (x := ⟨p, s, i, t, tx⟩) (Rw.whole R3)
   have hpr := ((ca_pair x.wr).1 (ck_parts HY1.out).2.2.2.2.2).2
   go_wp2_with (first | refine load_m 50 _ rfl rfl _ _ rfl d3 Tryz.underlying50 rfl zm ?_)
   refine (find_any _ x.wr ⟨p, s, i, t, tx⟩ w3 (HF.out.t.later hbel) hs.t hpr).mono ?_
   rintro e w4 ⟨k, rfl, hk, hins, hb1⟩
   clear hins c3 d3 hk
   replace R0 := R0.later hb1
   replace R1 := R1.later hb1
   replace R2 := R2.later hb1
   replace R3 := R3.later hb1
   replace hbel := below_on hbel hb1
   replace hB := Nat.le_trans hB hb1.size
   clear hb1
   obtain ⟨y3, HY3⟩ := hid_ex (has ⟨p, s, i, t, tx⟩ x.wr)
   rw [HY3.out]
   cases y3
   ·have HD : Hid (doX x ⟨p, s, i, t, tx⟩ u = { x with wr := insF ⟨p, s, i, t, tx⟩ (lef x.wr p s u i) }) := by
     show _ = _
     unfold doX
     rw [HY1.out, HY3.out]
     simp only [HY2.out]
     rfl
    have HC : Hid (clX x p s u i = { x with wr := lef x.wr p s u i }) := by
     show _ = _
     unfold clX
     rw [HY1.out]
     rfl
    have HPR : Hid ((lef x.wr p s u i).Pairwise (fun a b => lt a b = true)) := lef_pair hpr p s u i
    have hl100 : (lef x.wr p s u i).length ≤ 100 := Nat.le_trans (lef_length _ _ _ _ _) hs.t
    have HZ0 : Hid ((x.k = 2 ∨ x.k = 3) ∧ x.b = 0 ∧ x.am.length = 0 ∧ x.mb.length = 0 ∧ x.el.length = 0 ∧ ca x.wr = true) := ck_parts HY1.out
    have C7 := clear_own x _ _ _ _ p s u t sl i w4 hu (HF.out.later hbel) hs
    rw [HC.out] at C7
    generalize lef x.wr p s u i = m at HC HD HPR hl100 C7
    clear hpr
    go_wp2_with (first | refine load_r 27 _ rfl rfl _ rfl R0 Tryz.underlying27 rfl size27 ?_ | refine load_r 34 _ rfl rfl _ rfl R1 Tryz.underlying34 rfl zt ?_)
    refine C7.mono ?_
    clear C7
    rintro e w5 ⟨ua, uw, um, ue, rfl, hf, ho, hb1⟩
    obtain ⟨qa, da, qw, dw, qm, dm, qe, de, rfl, rfl, rfl, rfl⟩ := hf.slices
    simp only at hf ho
    replace R2 := R2.later hb1
    replace R3 := R3.later hb1
    replace hbel := below_on hbel hb1
    have hB5 := Nat.le_trans hB hb1.size
    have hsz5 := hb1.size
    clear hb1 R0 R1
    have hlt := World.ownsRow.lt ho
    have hbA := bel_alloc (Below.refl w5.heap.size w5) (.cells (cvc x.k x.b (.slice qa x.am.length da) (.slice qw m.length dw) (.slice qm x.mb.length dm) (.slice qe x.el.length de)) 27)
    have R7 := rw_new w5 27 (cvc x.k x.b (.slice qa x.am.length da) (.slice qw m.length dw) (.slice qm x.mb.length dm) (.slice qe x.el.length de))
    replace R2 := R2.later hbA
    replace R3 := R3.later hbA
    replace ho := own_later ho hbA
    replace hf := hf.later hbA
    replace hbel := below_on hbel hbA
    have hB6 := Nat.le_trans hB5 hbA.size
    have hsz6 := Nat.le_trans hsz5 hbA.size
    clear hbA hlt
    generalize hW : w5.alloc (.cells (cvc x.k x.b (.slice qa x.am.length da) (.slice qw m.length dw) (.slice qm x.mb.length dm) (.slice qe x.el.length de)) 27) = w6 at R2 R3 R7 ho hf hbel hB6 hsz6
    have c6 : w6.cell? ⟨w5.heap.size, 3, none⟩ = some (.slice qw m.length dw) := R7.cell 3
    have d3 := Wt.mark (x := ⟨p, s, i, t, tx⟩) (Rw.whole R3)
    go_wp2_with (first | rw [hW] | refine load_m 50 _ rfl rfl _ _ rfl d3 Tryz.underlying50 rfl zm ?_)
    clear hW
    refine (find_any _ m ⟨p, s, i, t, tx⟩ w6 hf.t hl100 HPR.out).mono ?_
    rintro e w7 ⟨k2, rfl, hk2, hins, hb1⟩
    have HI : Hid (m.take k2 ++ ⟨p, s, i, t, tx⟩ :: m.drop k2 = insF ⟨p, s, i, t, tx⟩ m) := hins
    obtain ⟨y4, HY4⟩ := hid_ex (has ⟨p, s, i, t, tx⟩ m)
    rw [HY4.out]
    clear hins c6 d3 HPR HY4
    replace R2 := R2.later hb1
    replace R3 := R3.later hb1
    replace R7 := R7.later hb1
    replace ho := own_later ho hb1
    replace hf := hf.later hb1
    replace hbel := below_on hbel hb1
    have hB7 := Nat.le_trans hB6 hb1.size
    have hsz7 := Nat.le_trans hsz6 hb1.size
    clear hb1
    have c7 : w7.cell? ⟨w5.heap.size, 3, none⟩ = some (.slice qw m.length dw) := R7.cell 3
    go_wp2_with (first | refine load_r 64 _ rfl rfl _ rfl R3 Tryz.underlying64 rfl size64 ?_)
    have hlt := World.ownsRow.lt ho
    have hbA := bel_alloc (Below.refl w7.heap.size w7) (.cells #[.int .i64 p, .int .i64 s, .int .i64 i, .int .i64 t, .string tx] 64)
    refine (insert_any w4.heap.size _ m k2 w7.heap.size ⟨p, s, i, t, tx⟩ _ (own_later ho hbA) hk2 hl100 (Nat.le_trans hsz7 hbA.size) (rw_new w7 64 _) (fun q hq => by have := (hlt q hq).2; omega)).mono ?_
    rintro e w8 ⟨ub, rfl, hob, hkp, hb1⟩
    obtain ⟨qb, db, rfl⟩ := own_sl hob
    rw [HI.out] at hob
    have hfz : ∀ w' : World, WHas w' (.slice qb (m.length + 1) db) (insF ⟨p, s, i, t, tx⟩ m) → Four w' { x with wr := insF ⟨p, s, i, t, tx⟩ m } (.slice qa x.am.length da) (.slice qb (m.length + 1) db) (.slice qm x.mb.length dm) (.slice qe x.el.length de) := fun w' ha => four_zero hf HZ0.out.2.2.1 HZ0.out.2.2.2.1 HZ0.out.2.2.2.2.1 ha
    have HFZ : Hid (∀ w' : World, WHas w' (.slice qb (m.length + 1) db) (insF ⟨p, s, i, t, tx⟩ m) → Four w' { x with wr := insF ⟨p, s, i, t, tx⟩ m } (.slice qa x.am.length da) (.slice qb (m.length + 1) db) (.slice qm x.mb.length dm) (.slice qe x.el.length de)) := hfz
    replace R7 := R7.later hbA
    replace R7 : Rw w8 w5.heap.size 27 _ := (hkp _ R7.lt (fun e => own_ne (own_later ho hbA) R7 (by decide) _ e rfl)).trans R7
    replace R2 : Rw w8 (w.heap.size + 2) 27 _ := (hb1.block _ (by omega)).trans (R2.later hbA)
    replace hbel := (below_on hbel hbA).trans (hb1.mono (by omega))
    have hnb := own_ne hob R7 (by decide)
    clear hfz hlt HZ0 hkp hb1 ho hf hbA c7
    have c8 : w8.cell? ⟨w5.heap.size, 3, none⟩ = some (.slice qw m.length dw) := R7.cell 3
    have f8 : w8.frozen? ⟨w5.heap.size, 3, none⟩ = false := R7.frozen 3
    replace R7 : Rw (w8.setCell ⟨w5.heap.size, 3, none⟩ (.slice qb (m.length + 1) db)) w5.heap.size 27 (cvc x.k x.b (.slice qa x.am.length da) (.slice qb (m.length + 1) db) (.slice qm x.mb.length dm) (.slice qe x.el.length de)) := R7.set 3 _
    replace R2 := R2.setOther (q := w5.heap.size) (by omega) 3 (.slice qb (m.length + 1) db)
    replace hob := own_over hob (b := w5.heap.size) hnb 3 (.slice qb (m.length + 1) db)
    replace hbel := hbel.setCell (p := ⟨w5.heap.size, 3, none⟩) (by show w.heap.size ≤ w5.heap.size; omega) (.slice qb (m.length + 1) db)
    generalize hW : w8.setCell ⟨w5.heap.size, 3, none⟩ (.slice qb (m.length + 1) db) = w9 at R7 R2 hob hbel
    go_wp2_with (first | rw [hW] | refine load_r 27 _ rfl rfl _ rfl R7 Tryz.underlying27 rfl size27 ?_ | refine store_r rfl 27 _ _ rfl _ (cvc x.k x.b (.slice qa x.am.length da) (.slice qb (m.length + 1) db) (.slice qm x.mb.length dm) (.slice qe x.el.length de)) rfl rfl R2 size27 rfl (by simp [Value.oneCell']) ?_)
    refine bodyPost_ret (results_r rfl rfl (R2.row (cvc x.k x.b (.slice qa x.am.length da) (.slice qb (m.length + 1) db) (.slice qm x.mb.length dm) (.slice qe x.el.length de))) rfl Tryz.underlying27 size27) rfl ?_
    rw [HD.out] at HZ
    have e := HZ.out
    subst e
    refine ⟨_, _, _, _, rfl, HFZ.out _ ?_, below_setRow hbel (by omega) _⟩
    have := own_sh (own_row hob (b := w.heap.size + 2) (by omega) (cvc x.k x.b (.slice qa x.am.length da) (.slice qb (m.length + 1) db) (.slice qm x.mb.length dm) (.slice qe x.el.length de)))
    unfold WHas
    rw [insF_length]
    exact this
   ·have HD : Hid (doX x ⟨p, s, i, t, tx⟩ u = x) := by
     show _ = _
     unfold doX
     rw [HY1.out, HY3.out]
     simp
    rw [HD.out] at HZ
    go_wp2_with (first | refine load_r 27 _ rfl rfl _ rfl R0 Tryz.underlying27 rfl size27 ?_)
    refine (copied_any x _ _ _ _ _ (HF.out.later hbel) hs).mono ?_
    rintro e w9 ⟨ua, uw, um, ue, rfl, ho, hb1⟩
    obtain ⟨qa, da, qw, dw, qm, dm, qe, de, rfl, rfl, rfl, rfl⟩ := ho.four.slices
    replace R2 := R2.later hb1
    replace hbel := below_on hbel hb1
    go_wp2_with (first | refine store_r rfl 27 _ _ rfl _ (cx x qa da qw dw qm dm qe de) rfl rfl R2 size27 rfl (by simp [Value.oneCell']) ?_)
    refine bodyPost_ret (results_r rfl rfl (R2.row (cx x qa da qw dw qm dm qe de)) rfl Tryz.underlying27 size27) rfl ?_
    have e := HZ.out
    subst e
    exact ⟨_, _, _, _, rfl, (ho.row (by omega) R2 _).four, below_setRow hbel (by omega) _⟩
end Go.Proofs.YtjbbmcommnhgeaaGreat.Rg
