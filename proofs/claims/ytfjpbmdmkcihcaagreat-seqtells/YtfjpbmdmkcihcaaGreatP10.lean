import Derived.Test.YtfjpbmdmkcihcaaGreatP9
import Derived.Test.YtfjpbmdmkcihcaaGreatP3
import Derived.Sort.KeysCollected
import Derived.Test.YtfjpbmdmkcihcaaGreatP5
/- present of package seq: the elements that are there, in their order. -/
namespace Go.Proofs.YtfjpbmdmkcihcaaGreat
open Go.RowKit

/-- Those of these places that are there. -/
def prL {α : Type} (g : α → Bool) (ys : List α) (ks : List Nat) : List α := ks.filterMap (fun k => (ys[k - 1]?).bind (fun y => if g y = true then some y else none))
theorem prL_snoc {α : Type} (g : α → Bool) (ys : List α) (ks : List Nat) (k : Nat) (hk : k - 1 < ys.length) : prL g ys (ks ++ [k]) = prL g ys ks ++ (if g ys[k - 1] = true then [ys[k - 1]] else []) := by
  unfold prL; rw [List.filterMap_append]
  congr 1
  simp only [List.filterMap_cons, List.filterMap_nil, List.getElem?_eq_getElem hk, Option.bind_some]
  split <;> rename_i e <;> split at e <;> simp_all
theorem prL_map {α β : Type} (g : β → Bool) (f : α → β) (ys : List α) (ks : List Nat) : (prL (fun y => g (f y)) ys ks).map f = prL g (ys.map f) ks := by
  unfold prL; rw [List.map_filterMap]
  congr 1
  funext k
  simp only [List.getElem?_map]
  cases ys[k - 1]? with
  | none => rfl
  | some y =>
    simp only [Option.bind_some, Option.map_some]
    split <;> rfl
theorem prL_len {α : Type} (g : α → Bool) (ys : List α) (ks : List Nat) : (prL g ys ks).length ≤ ks.length := List.length_filterMap_le _ _
/-- Is one there? -/
def nog (e : El) : Bool := decide (e.gone.length = 0)
/-- The elements that are there, in their order. -/
def prE (l : List El) : List El := prL nog l (odP l 0)
/-- What present answers. -/
def PrPost (l : List El) (w : World) (e : Ending) (w' : World) : Prop := ∃ u, e = .returned u ∧ EHas w' u (prE l) ∧ Below w.heap.size w w'
theorem prL_mem {α : Type} {g : α → Bool} {ys : List α} {ks : List Nat} {y : α} (h : y ∈ prL g ys ks) : y ∈ ys := by
  unfold prL at h; obtain ⟨k, _, e⟩ := List.mem_filterMap.1 h
  cases hk : ys[k - 1]? with
  | none => rw [hk] at e; cases e
  | some z =>
    rw [hk] at e; simp only [Option.bind_some] at e
    split at e
    · cases e
      exact List.mem_of_getElem? hk
    · cases e
set_option maxHeartbeats 8000000 in
set_option maxRecDepth 100000 in
theorem present_any (v : Value) (l : List El) (w : World) (h : EHas w v l) (hl : l.length ≤ 100) (hp : l.Pairwise (fun a b => kl (kE a) (kE b) = true)) (hcr : cr l = true) : Calls Tryz.prog 48 #[v] w (PrPost l w) := by
  have C1 := inOrder_any v l w h hl hp hcr; have hop := od_perm hcr; obtain ⟨ys, hys, h, hy⟩ := h; have hml := maxLen_lt h.1; obtain ⟨pv, cv, rfl⟩ := h.slice
  have hyl : ys.length = l.length := by rw [← hys, List.length_map]
  have HR : Hid (SHas 9 w (.slice pv l.length cv) l.length (rows El.cells ys)) := h; have HY : Hid (∀ y ∈ ys, MHas w y.2 y.1.gone) := hy; have HYS : Hid (ys.map (·.1) = l) := hys; obtain ⟨ks, HK⟩ := hid_ex (odP l 0); rw [HK.out] at hop
  have hkl : ks.length = l.length := by rw [hop.length_eq, plc_len]
  have HKM : Hid (∀ k ∈ ks, k ≠ 0 ∧ k ≤ l.length) := fun k hk => plc_mem.1 (hop.mem_iff.1 hk)
  obtain ⟨Q, HQ⟩ : ∃ Q, Hid (PrPost l w = Q) := ⟨_, rfl⟩; rw [HQ.out]; obtain ⟨j0, hj0, hje0, hje1, hje2⟩ := info_parts info60; clear h hy hys hp hcr hop
  go_enter Tryz.func48, Tryz.ntmps48
  go_wp2_with fail; refine C1.mono ?_; clear C1; rintro e w1 ⟨u, rfl, hu, hb1⟩; rw [HK.out] at hu; obtain ⟨pk, dk, rfl⟩ := own_sl hu; go_wp2_with fail
  go_loopw [3, 10] (fun vs vi wr => ∃ i : Nat, vi = .int .i64 i ∧ i ≤ l.length ∧ wr.ownsRow w1.heap.size 60 9 vs (prL (fun y => nog y.1) ys (ks.take i)).length (rows El.cells (prL (fun y => nog y.1) ys (ks.take i))) ∧ wr.ownsRow w.heap.size 3 1 (.slice pk l.length dk) l.length (iv ks) ∧ Below w.heap.size w wr ∧ w1.heap.size ≤ wr.heap.size) (fun _ vi _ => l.length - (intOf vi).toNat)
  case atStart => exact ⟨0, rfl, by omega, own_none _ _ _ _, hu, hb1, Nat.le_refl _⟩
  case round =>
    clear hu; obtain ⟨i, rfl, hi, ho, hu, hbw, hw1⟩ := hrel; obtain ⟨n0, HN0⟩ := hid_ex (prL (fun y => nog y.1) ys (ks.take i)).length
    have hn0 : n0 ≤ i := by
      rw [← HN0.out]; exact Nat.le_trans (prL_len _ _ _) (by simp; omega)
    rw [HN0.out] at ho; obtain ⟨q0, d0, rfl⟩ := own_sl ho
    by_cases hlt : i < l.length
    · have hlt' : (i : Int) < (l.length : Int) := by omega
      have hik : i < ks.length := by omega
      obtain ⟨gk, rfl, hgk⟩ := own_some hu (by omega); have ck := own_iat hu hik; have hkm := HKM.out _ (List.getElem_mem hik)
      have HSN : Hid (∀ hk : ks[i] - 1 < ys.length, prL (fun y => nog y.1) ys (ks.take (i + 1)) = prL (fun y => nog y.1) ys (ks.take i) ++ (if nog ys[ks[i] - 1].1 = true then [ys[ks[i] - 1]] else [])) := fun hk => by
        rw [List.take_succ_eq_append_getElem hik, prL_snoc _ _ _ _ hk]
      obtain ⟨k, HKI⟩ := hid_ex (ks[i]); rw [HKI.out] at ck hkm HSN; obtain ⟨k1, rfl⟩ : ∃ k1, k = k1 + 1 := ⟨k - 1, by omega⟩
      have hk1 : k1 < ys.length := by omega
      have HSN2 : Hid (prL (fun y => nog y.1) ys (ks.take (i + 1)) = prL (fun y => nog y.1) ys (ks.take i) ++ (if nog ys[k1].1 = true then [ys[k1]] else [])) := HSN.out hk1; obtain ⟨g1, o, rfl, hd0⟩ := HR.out.at (by omega); have hd := range_later hd0 hbw; have d : wr.rangeAt g1 (o + k1 * 9) (El.cells ys[k1]) := range_sub hd (k1 * 9) fun j u hu => rows_at El.len ys k1 hk1 j u hu; have hyk := (HY.out ys[k1] (List.getElem_mem _)).later hbw; obtain ⟨yy, HX⟩ := hid_ex (ys[k1]); rw [HX.out] at d hyk HSN2; obtain ⟨y, yv⟩ := yy; replace hyk : MHas wr yv y.gone := hyk; obtain ⟨py, cy, rfl⟩ := hyk.slice; obtain ⟨gl, HGL⟩ := hid_ex y.gone.length; rw [HGL.out] at d HSN2; replace d : wr.rangeAt g1 (o + k1 * 9) [Value.int .i64 y.p, .int .i64 y.s, .int .i64 y.i, .int .i64 y.t, .int .i64 y.q, .int .i64 y.u, .int .i64 y.j, .string y.x, .slice py gl cy] := d; replace HSN2 : Hid (prL (fun y => nog y.1) ys (ks.take (i + 1)) = prL (fun y => nog y.1) ys (ks.take i) ++ (if nog y = true then [(y, .slice py gl cy)] else [])) := HSN2; have zb : (Tryz.prog.info? 60).map (·.size) = some [Value.int .i64 y.p, .int .i64 y.s, .int .i64 y.i, .int .i64 y.t, .int .i64 y.q, .int .i64 y.u, .int .i64 y.j, .string y.x, .slice py gl cy].length := size60; have RB := rw_new wr 60 #[.int .i64 y.p, .int .i64 y.s, .int .i64 y.i, .int .i64 y.t, .int .i64 y.q, .int .i64 y.u, .int .i64 y.j, .string y.x, .slice py gl cy]; have hbA := bel_alloc (Below.refl wr.heap.size wr) (.cells #[.int .i64 y.p, .int .i64 y.s, .int .i64 y.i, .int .i64 y.t, .int .i64 y.q, .int .i64 y.u, .int .i64 y.j, .string y.x, .slice py gl cy] 60); replace hu := own_later hu hbA; replace ho := own_later ho hbA; replace hbw := below_on hbw hbA; replace hw1 := Nat.le_trans hw1 hbA.size; generalize hWA : wr.alloc (.cells #[.int .i64 y.p, .int .i64 y.s, .int .i64 y.i, .int .i64 y.t, .int .i64 y.q, .int .i64 y.u, .int .i64 y.j, .string y.x, .slice py gl cy] 60) = wa at RB hbA hu ho hbw hw1; have cg : wa.cell? ⟨wr.heap.size, 8, none⟩ = some (.slice py gl cy) := RB.cell 8
      have wk0 : IntKind.i64.wrap (((k1 + 1 : Nat) : Int) - 1) = (k1 : Int) := by rw [IntKind.wrap_i64]; omega
      have wk1 : IntKind.i64.wrap (k1 : Int) = (k1 : Int) := by rw [IntKind.wrap_i64]; omega
      have wk2 : (0 : Int) ≤ (k1 : Int) := by omega
      have wk3 : (k1 : Int) < (l.length : Int) := by omega
      have wi0 : (0 : Int) ≤ (i : Int) := by omega
      clear hd hd0 hyk HX HSN HKI
      by_cases hg : gl = 0
      · subst hg
        have e := HSN2.out; rw [if_pos (show nog y = true from decide_eq_true HGL.out)] at e; have HSN3 : Hid (prL (fun y => nog y.1) ys (ks.take (i + 1)) = prL (fun y => nog y.1) ys (ks.take i) ++ [(y, .slice py 0 cy)]) := e; clear e HSN2; have hb2 := bel_alloc (Below.refl wa.heap.size wa) (.cells #[.int .i64 y.p, .int .i64 y.s, .int .i64 y.i, .int .i64 y.t, .int .i64 y.q, .int .i64 y.u, .int .i64 y.j, .string y.x, .slice py 0 cy] 60); have ho2 := own_later ho hb2; have hu2 := own_later hu hb2; have hbw2 := below_on hbw hb2; have hB1 : w1.heap.size ≤ (wa.alloc (.cells #[.int .i64 y.p, .int .i64 y.s, .int .i64 y.i, .int .i64 y.t, .int .i64 y.q, .int .i64 y.u, .int .i64 y.j, .string y.x, .slice py 0 cy] 60)).heap.size := Nat.le_trans hw1 hb2.size
        have HCL : Hid (∀ j u, [Value.int .i64 y.p, .int .i64 y.s, .int .i64 y.i, .int .i64 y.t, .int .i64 y.q, .int .i64 y.u, .int .i64 y.j, .string y.x, .slice py 0 cy][j]? = some u → (wa.alloc (.cells #[.int .i64 y.p, .int .i64 y.s, .int .i64 y.i, .int .i64 y.t, .int .i64 y.q, .int .i64 y.u, .int .i64 y.j, .string y.x, .slice py 0 cy] 60)).cell? ((⟨wa.heap.size, 0, none⟩ : Addr).add j) = some u) := fun j u hu => by
          have Rn := rw_new wa 60 #[.int .i64 y.p, .int .i64 y.s, .int .i64 y.i, .int .i64 y.t, .int .i64 y.q, .int .i64 y.u, .int .i64 y.j, .string y.x, .slice py 0 cy]; rw [show ((⟨wa.heap.size, 0, none⟩ : Addr).add j) = ⟨wa.heap.size, j, none⟩ by simp [Addr.add]; (try omega), Rn.cell j]
          simpa using hu
        have hm1 : n0 + 1 ≤ maxLen := by simp [maxLen]; omega
        have hm2 : (n0 + 1) * 96 ≤ 140737488355328 := by omega
        clear HGL; generalize hWn : wa.alloc (.cells #[.int .i64 y.p, .int .i64 y.s, .int .i64 y.i, .int .i64 y.t, .int .i64 y.q, .int .i64 y.u, .int .i64 y.j, .string y.x, .slice py 0 cy] 60) = wn at hb2 ho2 hu2 hbw2 hB1 HCL
        go_wp2_with (first | refine load_m 60 _ rfl rfl _ _ rfl d Tryz.underlying60 rfl zb ?_ | rw [hWA] | refine load_r 60 _ rfl rfl _ rfl RB Tryz.underlying60 rfl size60 ?_ | rw [hWn] | (at_builtin; refine wpList_append_own _ rfl _ _ 25 rfl w1.heap.size 60 j0 (.agg #[.int .i64 0, .int .i64 0, .int .i64 0, .int .i64 0, .int .i64 0, .int .i64 0, .int .i64 0, .string noS, .slice none 0 0]) 9 96 Tryz.underlying25 hj0 hje0 hje1 hje2 rfl (by decide) _ _ _ rfl ho2 ⟨wa.heap.size, 0, none⟩ 1 1 [Value.int .i64 y.p, .int .i64 y.s, .int .i64 y.i, .int .i64 y.t, .int .i64 y.q, .int .i64 y.u, .int .i64 y.j, .string y.x, .slice py 0 cy] rfl rfl HCL.out (by simp [Value.oneCell']) hm1 hm2 hB1 ?_))
        intro v2 w2 ho3 hg3 _; have hbw3 : Below w.heap.size w w2 := hbw2.grown hg3 hbw2.size (fun q hq => Nat.le_trans (Nat.le_trans hb1.size (Nat.le_refl _)) (World.ownsRow.lt ho2 q hq).1); have hu3 := own_kp hu2 (o := (Value.slice q0 n0 d0).ownBlock) (fun b h1 h2 => hg3.block b h1 (Ne.symm h2)) (fun q hq e => own_tag hu2 ho2 (by decide) e q hq rfl); have hw3 : w1.heap.size ≤ w2.heap.size := Nat.le_trans hB1 hg3.size
        have ho4 : w2.ownsRow w1.heap.size 60 9 v2 (prL (fun y => nog y.1) ys (ks.take (i + 1))).length (rows El.cells (prL (fun y => nog y.1) ys (ks.take (i + 1)))) := by
          rw [HSN3.out, List.length_append, HN0.out, rows_append]; exact ho3
        obtain ⟨q2, d2, e2⟩ := own_sl ho3; clear HSN3 HN0 ho ho2 ho3 hg3 HCL hWA hWn hu2; subst e2; go_wp2_with fail; go_roundw
        case rel => exact ⟨i + 1, by simp, by omega, ho4, hu3, hbw3, hw3⟩
        case measure => simp [intOf]; omega
      · have hg' : ¬ (gl : Int) = 0 := by omega
        have e := HSN2.out; rw [if_neg (show ¬ nog y = true by unfold nog; rw [HGL.out]; simpa using hg), List.append_nil] at e
        have ho2 : wa.ownsRow w1.heap.size 60 9 (.slice q0 n0 d0) (prL (fun y => nog y.1) ys (ks.take (i + 1))).length (rows El.cells (prL (fun y => nog y.1) ys (ks.take (i + 1)))) := by rw [e, HN0.out]; exact ho
        clear e HSN2 HN0 ho hg
        go_wp2_with (first | refine load_m 60 _ rfl rfl _ _ rfl d Tryz.underlying60 rfl zb ?_ | rw [hWA])
        go_roundw
        case rel => exact ⟨i + 1, by simp, by omega, ho2, hu, hbw, hw1⟩
        case measure => simp [intOf]; omega
    · have hlt' : ¬ (i : Int) < (l.length : Int) := by omega
      obtain rfl : i = l.length := by omega
      have HF : Hid (Q (.returned (.slice q0 n0 d0)) wr) := by
        show Q _ _
        rw [← HQ.out]; refine ⟨_, rfl, ⟨prL (fun y => nog y.1) ys ks, ?_, ?_, ?_⟩, hbw⟩
        · unfold prE
          rw [HK.out, ← HYS.out, prL_map]
        · rw [List.take_of_length_le (by omega)] at ho HN0
          have e : (prE l).length = n0 := by
            unfold prE; rw [HK.out, ← HN0.out, ← HYS.out, ← prL_map, List.length_map]
          rw [e]; exact own_sh ho
        · exact fun y hy => (HY.out y (prL_mem hy)).later hbw
      clear ho HYS HY HQ HN0 HK; go_wp2_with fail; exact HF.out
end Go.Proofs.YtfjpbmdmkcihcaaGreat
/- Order of package seq. -/
namespace Go.Proofs.YtfjpbmdmkcihcaaGreat
open Go.RowKit

/-- The marks of those that are there, in their order. -/
def orX (x : X) : List M := if ck x = true then (prE x.el).map mE else []
/-- What Order answers: a row of its own. -/
def OrPost (x : X) (w : World) (e : Ending) (w' : World) : Prop := ∃ u, e = .returned u ∧ w'.ownsRow w.heap.size 36 3 u (orX x).length (rows M.cells (orX x)) ∧ Below w.heap.size w w'
theorem prE_len {l : List El} (h : cr l = true) : (prE l).length ≤ l.length := by
  refine Nat.le_trans (prL_len _ _ _) ?_; rw [(od_perm h).length_eq, plc_len]; exact Nat.le_refl _
set_option maxHeartbeats 4000000 in
set_option maxRecDepth 100000 in
theorem order_any (x : X) (va vw vm ve : Value) (w : World) (h : Four w x va vw vm ve) (hs : Sm x) : Calls Tryz.prog 19 #[CV x.k x.b va vw vm ve] w (OrPost x w) := by
  obtain ⟨pa, ca', pw, cw, pm, cm, pe, ce', rfl, rfl, rfl, rfl⟩ := h.slices; have hb0 := bel_alloc (Below.refl w.heap.size w) (.cells (cvc x.k x.b (.slice pa x.am.length ca') (.slice pw x.wr.length cw) (.slice pm x.mb.length cm) (.slice pe x.el.length ce')) 27); have R0 := rw_new w 27 (cvc x.k x.b (.slice pa x.am.length ca') (.slice pw x.wr.length cw) (.slice pm x.mb.length cm) (.slice pe x.el.length ce')); have hf := h.later hb0
  have hsz0 : w.heap.size < (w.alloc (.cells (cvc x.k x.b (.slice pa x.am.length ca') (.slice pw x.wr.length cw) (.slice pm x.mb.length cm) (.slice pe x.el.length ce')) 27)).heap.size := by simp
  generalize hW : w.alloc (.cells (cvc x.k x.b (.slice pa x.am.length ca') (.slice pw x.wr.length cw) (.slice pm x.mb.length cm) (.slice pe x.el.length ce')) 27) = w0 at hb0 R0 hf hsz0; have C1 := check_any x _ _ _ _ w0 hf hs; obtain ⟨Q, HQ⟩ : ∃ Q, Hid (OrPost x w = Q) := ⟨_, rfl⟩; rw [HQ.out]; obtain ⟨j0, hj0, hje0, hje1, hje2⟩ := info_parts info36; clear h
  go_enter Tryz.func19, Tryz.ntmps19
  go_wp2_with (first | rw [hW] | refine load_r 27 _ rfl rfl _ rfl R0 Tryz.underlying27 rfl size27 ?_)
  clear hW; refine C1.mono ?_; clear C1; rintro e w1 ⟨rfl, hb1⟩; obtain ⟨y1, HY1⟩ := hid_ex (ck x); rw [HY1.out]
  cases y1
  · have HF : Hid (Q (.returned (.slice none 0 0)) w1) := by
      show Q _ _
      rw [← HQ.out]; unfold OrPost orX; rw [HY1.out]; exact ⟨_, rfl, own_none _ _ _ _, below_on hb0 hb1⟩
    clear HQ HY1; go_wp2_with fail; exact HF.out
  · have hcr := (ck_parts HY1.out).2.2.2.2.2.2
    have hup := ce_up (ck_parts HY1.out).2.2.2.2.2.1; have C2 := present_any _ x.el w1 (hf.e.later hb1) hs.e hup hcr; have hpl := prE_len hcr; have hel := hs.e; have cE : w1.cell? ⟨w.heap.size, 5, none⟩ = some (.slice pe x.el.length ce') := (R0.later hb1).cell 5
    have HO : Hid (orX x = (prE x.el).map mE) := by
      show _ = _
      unfold orX; rw [HY1.out]
      rfl
    clear hcr hup HY1 R0 hf; go_wp2_with fail; refine C2.mono ?_; clear C2 cE; rintro e w2 ⟨u, rfl, hE, hb2⟩; obtain ⟨L, HL⟩ := hid_ex (prE x.el); rw [HL.out] at hE hpl HO; obtain ⟨ys, hys, hS, hy⟩ := hE; obtain ⟨pv, cv, rfl⟩ := hS.slice
    have hyl : ys.length = L.length := by rw [← hys, List.length_map]
    have hml := maxLen_lt hS.1; have HR : Hid (SHas 9 w2 (.slice pv L.length cv) L.length (rows El.cells ys)) := hS; have HY : Hid (∀ y ∈ ys, MHas w2 y.2 y.1.gone) := hy
    have HLL : Hid (∀ k (h1 : k < ys.length) (h2 : k < L.length), ys[k].1 = L[k]) := fun k h1 h2 => by
      subst hys; rw [List.getElem_map]
    have hbw := below_on hb0 (below_on hb1 hb2); have hw2 : w.heap.size ≤ w2.heap.size := hbw.size; clear hS hy hys HL hb1 hb2; go_wp2_with fail
    go_loopw [3, 13] (fun vs vi wr => ∃ k : Nat, vi = .int .i64 k ∧ k ≤ L.length ∧ wr.ownsRow w2.heap.size 36 3 vs k (rows M.cells ((L.take k).map mE)) ∧ Below w.heap.size w wr ∧ Below w2.heap.size w2 wr) (fun _ vi _ => L.length - (intOf vi).toNat)
    case atStart => exact ⟨0, rfl, by omega, own_none _ _ _ _, hbw, Below.refl _ _⟩
    case round =>
      clear hbw; obtain ⟨k, rfl, hk, ho, hbw, hb2⟩ := hrel; obtain ⟨q0, d0, rfl⟩ := own_sl ho
      by_cases hlt : k < L.length
      · have hlt' : (k : Int) < (L.length : Int) := by omega
        have hky : k < ys.length := by omega
        obtain ⟨g1, o, rfl, hd0⟩ := HR.out.at (by omega); have hd := range_later hd0 hb2; have d : wr.rangeAt g1 (o + k * 9) (El.cells ys[k]) := range_sub hd (k * 9) fun j u hu => rows_at El.len ys k hky j u hu; have hyk := (HY.out ys[k] (List.getElem_mem _)).later hb2; have ey := HLL.out k hky hlt
        have HSN : Hid ((L.take (k + 1)).map mE = (L.take k).map mE ++ [mE ys[k].1]) := by
          show _ = _
          rw [List.take_succ_eq_append_getElem hlt, List.map_append, ey]
          rfl
        obtain ⟨yy, HX⟩ := hid_ex (ys[k]); rw [HX.out] at d hyk HSN; obtain ⟨y, yv⟩ := yy; replace hyk : MHas wr yv y.gone := hyk; obtain ⟨py, cy, rfl⟩ := hyk.slice; replace d : wr.rangeAt g1 (o + k * 9) [Value.int .i64 y.p, .int .i64 y.s, .int .i64 y.i, .int .i64 y.t, .int .i64 y.q, .int .i64 y.u, .int .i64 y.j, .string y.x, .slice py y.gone.length cy] := d; replace HSN : Hid ((L.take (k + 1)).map mE = (L.take k).map mE ++ [mE y]) := HSN; have zb : (Tryz.prog.info? 60).map (·.size) = some [Value.int .i64 y.p, .int .i64 y.s, .int .i64 y.i, .int .i64 y.t, .int .i64 y.q, .int .i64 y.u, .int .i64 y.j, .string y.x, .slice py y.gone.length cy].length := size60; have RB := rw_new wr 60 #[.int .i64 y.p, .int .i64 y.s, .int .i64 y.i, .int .i64 y.t, .int .i64 y.q, .int .i64 y.u, .int .i64 y.j, .string y.x, .slice py y.gone.length cy]; have hbA := bel_alloc (Below.refl wr.heap.size wr) (.cells #[.int .i64 y.p, .int .i64 y.s, .int .i64 y.i, .int .i64 y.t, .int .i64 y.q, .int .i64 y.u, .int .i64 y.j, .string y.x, .slice py y.gone.length cy] 60); replace ho := own_later ho hbA; replace hbw := below_on hbw hbA; replace hb2 := below_on hb2 hbA; generalize hWA : wr.alloc (.cells #[.int .i64 y.p, .int .i64 y.s, .int .i64 y.i, .int .i64 y.t, .int .i64 y.q, .int .i64 y.u, .int .i64 y.j, .string y.x, .slice py y.gone.length cy] 60) = wa at RB hbA ho hbw hb2
        have dm : wa.rangeAt wr.heap.size 0 [Value.int .i64 y.p, .int .i64 y.s, .int .i64 y.i] := RB.range 0 _ fun j u hu => by
          rw [Nat.zero_add]
          match j, hu with
          | 0, h => exact h
          | 1, h => exact h
          | 2, h => exact h
          | j + 3, h => simp at h
        have zm : (Tryz.prog.info? 36).map (·.size) = some [Value.int .i64 y.p, .int .i64 y.s, .int .i64 y.i].length := size36; have hbB := bel_alloc (Below.refl wa.heap.size wa) (.cells #[.int .i64 y.p, .int .i64 y.s, .int .i64 y.i] 36); have ho2 := own_later ho hbB; have hbw2 := below_on hbw hbB; have hb22 := below_on hb2 hbB; have hB1 : w2.heap.size ≤ (wa.alloc (.cells #[.int .i64 y.p, .int .i64 y.s, .int .i64 y.i] 36)).heap.size := hb22.size
        have HCL : Hid (∀ j u, [Value.int .i64 y.p, .int .i64 y.s, .int .i64 y.i][j]? = some u → (wa.alloc (.cells #[.int .i64 y.p, .int .i64 y.s, .int .i64 y.i] 36)).cell? ((⟨wa.heap.size, 0, none⟩ : Addr).add j) = some u) := fun j u hu => by
          have Rn := rw_new wa 36 #[.int .i64 y.p, .int .i64 y.s, .int .i64 y.i]; rw [show ((⟨wa.heap.size, 0, none⟩ : Addr).add j) = ⟨wa.heap.size, j, none⟩ by simp [Addr.add]; (try omega), Rn.cell j]
          simpa using hu
        have hm1 : k + 1 ≤ maxLen := by simp [maxLen]; omega
        have hm2 : (k + 1) * 24 ≤ 140737488355328 := by omega
        generalize hWn : wa.alloc (.cells #[.int .i64 y.p, .int .i64 y.s, .int .i64 y.i] 36) = wn at hbB ho2 hbw2 hb22 hB1 HCL; clear hd hd0 hyk HX ey
        go_wp2_with (first | refine load_m 60 _ rfl rfl _ _ rfl d Tryz.underlying60 rfl zb ?_ | rw [hWA] | refine load_m 36 _ rfl rfl _ _ rfl dm Tryz.underlying36 rfl zm ?_ | rw [hWn] | (at_builtin; refine wpList_append_own _ rfl _ _ 46 rfl w2.heap.size 36 j0 (MV 0 0 0) 3 24 Tryz.underlying46 hj0 hje0 hje1 hje2 rfl (by decide) _ _ _ rfl ho2 ⟨wa.heap.size, 0, none⟩ 1 1 [Value.int .i64 y.p, .int .i64 y.s, .int .i64 y.i] rfl rfl HCL.out (by simp [Value.oneCell']) hm1 hm2 hB1 ?_))
        intro v2 w3 ho3 hg3 _; have hb23 : Below w2.heap.size w2 w3 := hb22.grown hg3 hB1 (fun q hq => (World.ownsRow.lt ho2 q hq).1); have hbw3 : Below w.heap.size w w3 := hbw2.grown hg3 hbw2.size (fun q hq => Nat.le_trans hw2 (World.ownsRow.lt ho2 q hq).1)
        have ho4 : w3.ownsRow w2.heap.size 36 3 v2 (k + 1) (rows M.cells ((L.take (k + 1)).map mE)) := by
          rw [HSN.out, rows_append, List.map_take]; exact ho3
        obtain ⟨q2, d2, e2⟩ := own_sl ho3; clear HSN ho ho2 ho3 hg3 HCL hWA hWn; subst e2; go_wp2_with fail; go_roundw
        case rel => exact ⟨k + 1, by simp, by omega, ho4, hbw3, hb23⟩
        case measure => simp [intOf]; omega
      · have hlt' : ¬ (k : Int) < (L.length : Int) := by omega
        obtain rfl : k = L.length := by omega
        have HF : Hid (Q (.returned (.slice q0 L.length d0)) wr) := by
          show Q _ _
          rw [← HQ.out]; refine ⟨_, rfl, ?_, hbw⟩; rw [HO.out, List.length_map]; rw [List.take_of_length_le (Nat.le_refl _)] at ho; exact own_mono ho hw2
        clear ho HQ HO HY; go_wp2_with fail; exact HF.out
end Go.Proofs.YtfjpbmdmkcihcaaGreat
/- Texts that rise, each once. Nothing of the program. -/
namespace Go.Proofs.YtfjpbmdmkcihcaaGreat
open Go.RowKit Go.Sort

/-- A text as bytes. -/
abbrev Bs := List UInt8
abbrev bs (x : ByteArray) : Bs := x.data.toList
theorem Bs.irr (a : Bs) : ¬ a < a := List.lt_irrefl a
theorem Bs.le_of {a b : Bs} (h : a < b) : a ≤ b := by
  rcases List.le_total a b with k | k
  · exact k
  · exact absurd h (List.not_lt.2 k)
theorem Bs.tri {a b : Bs} (h : ¬ a < b) (k : a ≠ b) : b < a := by
  have h1 : b ≤ a := List.not_lt.1 h
  rcases Classical.em (b < a) with h2 | h2
  · exact h2
  · exact absurd (List.le_antisymm (List.not_lt.1 h2) h1) k
theorem Bs.trans {a b c : Bs} (h : a < b) (k : b < c) : a < c := List.lt_trans h k
theorem Bs.asymm {a b : Bs} (h : a < b) : ¬ b < a := fun k => Bs.irr a (Bs.trans h k)
/-- A text put among rising ones, once. -/
def insT (l : List Bs) (s : Bs) : List Bs := l.filter (fun y => decide (y < s)) ++ s :: l.filter (fun y => !decide (y < s))
def rise (l : List Bs) (s : Bs) : List Bs := if s ∈ l then l else insT l s
def txs (l : List Bs) : List Bs := l.foldl rise []
abbrev up (l : List Bs) : Prop := l.Pairwise (fun a b => a < b)
theorem txs_snoc (l : List Bs) (s : Bs) : txs (l ++ [s]) = rise (txs l) s := by simp [txs]
theorem txs_nil : txs [] = [] := rfl
theorem txs_one (s : Bs) : txs [s] = [s] := by simp [txs, rise, insT]
theorem insT_mem (l : List Bs) (s x : Bs) : x ∈ insT l s ↔ x = s ∨ x ∈ l := by
  unfold insT; simp only [List.mem_append, List.mem_cons, List.mem_filter]
  by_cases h : x < s
  · simp [h]
    exact ⟨fun k => k.elim .inr .inl, fun k => k.elim .inr .inl⟩
  · simp [h]
theorem rise_mem (l : List Bs) (s x : Bs) : x ∈ rise l s ↔ x = s ∨ x ∈ l := by
  unfold rise
  split
  · rename_i h
    exact ⟨.inr, fun k => k.elim (fun e => e ▸ h) id⟩
  · exact insT_mem l s x
theorem insT_up {l : List Bs} (h : up l) {s : Bs} (hs : s ∉ l) : up (insT l s) := by
  unfold insT up; rw [List.pairwise_append]; refine ⟨h.filter _, ?_, ?_⟩
  · rw [List.pairwise_cons]
    refine ⟨fun y hy => ?_, h.filter _⟩; obtain ⟨h1, h2⟩ := List.mem_filter.1 hy; exact Bs.tri (by simpa using h2) (fun e => hs (e ▸ h1))
  · intro y hy z hz
    obtain ⟨_, h2⟩ := List.mem_filter.1 hy
    have h2 : y < s := by simpa using h2
    rcases List.mem_cons.1 hz with rfl | hz
    · exact h2
    · obtain ⟨h3, h4⟩ := List.mem_filter.1 hz
      exact Bs.trans h2 (Bs.tri (by simpa using h4) (fun e => hs (e ▸ h3)))
theorem rise_up {l : List Bs} (h : up l) (s : Bs) : up (rise l s) := by
  unfold rise
  split
  · exact h
  · rename_i hs
    exact insT_up h hs
theorem rise_length (l : List Bs) (s : Bs) : (rise l s).length ≤ l.length + 1 := by
  unfold rise
  split
  · omega
  · unfold insT
    rw [List.length_append, List.length_cons]
    have : (l.filter (fun y => decide (y < s))).length + (l.filter (fun y => !decide (y < s))).length = l.length := by
      induction l with
      | nil => rfl
      | cons y l ih =>
        rename_i h
        have ih := ih (fun k => h (by simp [k])); rw [List.filter_cons, List.filter_cons]
        by_cases k : y < s
        · simp [k]
          omega
        · simp [k]
          omega
    omega
theorem fold_mem (l : List Bs) : ∀ (m : List Bs) (x : Bs), x ∈ l.foldl rise m ↔ x ∈ l ∨ x ∈ m := by
  induction l with
  | nil => simp
  | cons y l ih =>
    intro m x; rw [List.foldl_cons, ih, rise_mem, List.mem_cons]
    constructor
    · rintro (h | h | h)
      · exact .inl (.inr h)
      · exact .inl (.inl h)
      · exact .inr h
    · rintro ((h | h) | h)
      · exact .inr (.inl h)
      · exact .inl h
      · exact .inr (.inr h)
theorem fold_up (l : List Bs) : ∀ (m : List Bs), up m → up (l.foldl rise m) := by
  induction l with
  | nil => exact fun _ h => h
  | cons y l ih => exact fun m h => ih _ (rise_up h y)
theorem fold_length (l : List Bs) : ∀ (m : List Bs), (l.foldl rise m).length ≤ m.length + l.length := by
  induction l with
  | nil => intro m; simp
  | cons y l ih =>
    intro m; rw [List.foldl_cons]; have h1 := ih (rise m y); have h2 := rise_length m y; rw [List.length_cons]
    omega
theorem txs_mem (l : List Bs) (x : Bs) : x ∈ txs l ↔ x ∈ l := by
  unfold txs; rw [fold_mem]
  simp
theorem txs_up (l : List Bs) : up (txs l) := fold_up l [] List.Pairwise.nil
theorem txs_length (l : List Bs) : (txs l).length ≤ l.length := by
  have := fold_length l []
  unfold txs
  simpa using this
/-- What holds of each two holds of what follows of it. -/
theorem pair_of {α : Type} {R S : α → α → Prop} {l : List α} (h : l.Pairwise R) (hi : ∀ a b, R a b → S a b) : l.Pairwise S := by
  rw [List.pairwise_iff_getElem] at *; exact fun i j hi' hj hij => hi _ _ (h i j hi' hj hij)
theorem up_nodup {l : List Bs} (h : up l) : l.Nodup := by
  unfold List.Nodup; exact pair_of h (fun a b k (e : a = b) => Bs.irr a (by rw [← e] at k; exact k))
/-- Whatever holds each once comes, sorted, to the rising ones. -/
theorem sorted_txs {ss l : List Bs} (hnd : ss.Nodup) (hm : ∀ x, x ∈ ss ↔ x ∈ l) : ss.mergeSort (fun x y => decide (x ≤ y)) = txs l := by
  have hp : ss.Perm (txs l) := (List.perm_ext_iff_of_nodup hnd (up_nodup (txs_up l))).2 fun x => by rw [hm, txs_mem]
  rw [mergeSort_of_perm hp]
  have tr : ∀ a b c : List UInt8, leB a b = true → leB b c = true → leB a c = true := fun a b c h1 h2 => by simp only [leB, decide_eq_true_eq] at *; exact List.le_trans h1 h2
  have to : ∀ a b : List UInt8, (leB a b || leB b a) = true := fun a b => by simp only [leB, Bool.or_eq_true, decide_eq_true_eq]; exact List.le_total a b
  refine List.Perm.eq_of_pairwise (le := fun a b => leB a b = true) (fun a b _ _ h1 h2 => ?_) (List.pairwise_mergeSort tr to _) (pair_of (txs_up l) (fun a b k => by simp only [leB, decide_eq_true_eq]; exact Bs.le_of k)) (List.mergeSort_perm _ leB)
  simp only [leB, decide_eq_true_eq] at h1 h2; exact List.le_antisymm h1 h2
/-- Strictly rising lists of the same texts are one. -/
theorem up_eq {l m : List Bs} (hl : up l) (hm : up m) (h : ∀ x, x ∈ l ↔ x ∈ m) : l = m := by
  have hp : l.Perm m := (List.perm_ext_iff_of_nodup (up_nodup hl) (up_nodup hm)).2 h
  refine List.Perm.eq_of_pairwise (le := fun a b => a < b) (fun a b _ _ h1 h2 => absurd h2 (Bs.asymm h1)) hl hm hp
/-- The write of the greatest time, of these the last one. -/
def bst (b : Wt) (l : List Wt) : Wt := l.foldl (fun b y => if b.t ≤ y.t then y else b) b
def lastW : List Wt → List Wt
  | [] => []
  | y :: l => [bst y l]
theorem bst_snoc (b : Wt) (l : List Wt) (y : Wt) : bst b (l ++ [y]) = if (bst b l).t ≤ y.t then y else bst b l := by
  unfold bst; rw [List.foldl_append]
  rfl
theorem bst_mem (b : Wt) (l : List Wt) : bst b l ∈ b :: l := by
  unfold bst
  induction l generalizing b with
  | nil => simp
  | cons y l ih =>
    rw [List.foldl_cons]
    have := ih (if b.t ≤ y.t then y else b)
    rcases List.mem_cons.1 this with h | h
    · rw [h]
      split <;> simp
    · simp [h]
theorem lastW_mem {l : List Wt} {y : Wt} (h : y ∈ lastW l) : y ∈ l := by
  cases l with
  | nil => exact h
  | cons b l =>
    simp only [lastW, List.mem_singleton] at h; rw [h]; exact bst_mem b l
theorem lastW_length (l : List Wt) : (lastW l).length ≤ 1 := by cases l <;> simp [lastW]
end Go.Proofs.YtfjpbmdmkcihcaaGreat
/- Read of package seq. -/
namespace Go.Proofs.YtfjpbmdmkcihcaaGreat
open Go.RowKit Go.Sort

/-- A slice of texts. -/
abbrev THas (w : World) (v : Value) (l : List Bs) : Prop := SHas 1 w v l.length (l.map encStr)
theorem THas.later {w w' : World} {v : Value} {l : List Bs} (h : THas w v l) (hb : Below w.heap.size w w') : THas w' v l := SHas.later h hb
abbrev VV (k : Int) (u : Value) : Value := .agg #[.int .i64 k, .int .i64 0, u, .slice none 0 0]
theorem info9 : (Tryz.prog.info? 9).map (fun i => (i.zero, i.size, i.bytes)) = some (some (.string noS), 1, 16) := by kernel_rfl
/-- What is read. -/
def tE (e : El) : Bs := bs e.x
def rdK (x : X) : Int := if ck x = true then 5 else 0
def rdT (x : X) : List Bs := if ck x = true then (prE x.el).map tE else []
def RdPost (x : X) (w : World) (e : Ending) (w' : World) : Prop := ∃ u, e = .returned (VV (rdK x) u) ∧ THas w' u (rdT x) ∧ Below w.heap.size w w'
set_option maxHeartbeats 4000000 in
set_option maxRecDepth 100000 in
theorem read_any (x : X) (va vw vm ve : Value) (w : World) (h : Four w x va vw vm ve) (hs : Sm x) : Calls Tryz.prog 22 #[CV x.k x.b va vw vm ve] w (RdPost x w) := by
  obtain ⟨pa, ca', pw, cw, pm, cm, pe, ce', rfl, rfl, rfl, rfl⟩ := h.slices; have hb0 := bel_alloc (bel_alloc (Below.refl w.heap.size w) (.cells (cvc x.k x.b (.slice pa x.am.length ca') (.slice pw x.wr.length cw) (.slice pm x.mb.length cm) (.slice pe x.el.length ce')) 27)) (.cells #[.int .i64 0, .int .i64 0, .slice none 0 0, .slice none 0 0] 52); have R0 := (rw_new w 27 (cvc x.k x.b (.slice pa x.am.length ca') (.slice pw x.wr.length cw) (.slice pm x.mb.length cm) (.slice pe x.el.length ce'))).alloc (.cells #[.int .i64 0, .int .i64 0, .slice none 0 0, .slice none 0 0] 52); have R1 := rw_next (w.alloc (.cells (cvc x.k x.b (.slice pa x.am.length ca') (.slice pw x.wr.length cw) (.slice pm x.mb.length cm) (.slice pe x.el.length ce')) 27)) (b := w.heap.size + 1) (by simp) 52 #[.int .i64 0, .int .i64 0, .slice none 0 0, .slice none 0 0]; have hf := h.later hb0
  have hsz0 : ((w.alloc (.cells (cvc x.k x.b (.slice pa x.am.length ca') (.slice pw x.wr.length cw) (.slice pm x.mb.length cm) (.slice pe x.el.length ce')) 27)).alloc (.cells #[.int .i64 0, .int .i64 0, .slice none 0 0, .slice none 0 0] 52)).heap.size = w.heap.size + 2 := by simp
  generalize hW : (w.alloc (.cells (cvc x.k x.b (.slice pa x.am.length ca') (.slice pw x.wr.length cw) (.slice pm x.mb.length cm) (.slice pe x.el.length ce')) 27)).alloc (.cells #[.int .i64 0, .int .i64 0, .slice none 0 0, .slice none 0 0] 52) = w0 at hb0 R0 R1 hf hsz0; have C1 := check_any x _ _ _ _ w0 hf hs; obtain ⟨j0, hj0, hje0, hje1, hje2⟩ := info_parts info9; obtain ⟨zk, HZK⟩ := hid_ex (rdK x); obtain ⟨zt, HZT⟩ := hid_ex (rdT x)
  have HP : Hid (∀ e w', (∃ u, e = .returned (VV zk u) ∧ THas w' u zt ∧ Below w.heap.size w w') → RdPost x w e w') := fun e w' h => by unfold RdPost; rw [HZK.out, HZT.out]; exact h
  obtain ⟨Q, HQ⟩ : ∃ Q, Hid (RdPost x w = Q) := ⟨_, rfl⟩; rw [HQ.out] at HP ⊢; clear h HQ
  go_enter Tryz.func22, Tryz.ntmps22
  go_wp2_with (first | rw [hW] | refine load_r 27 _ rfl rfl _ rfl R0 Tryz.underlying27 rfl size27 ?_)
  clear hW; refine C1.mono ?_; clear C1; rintro e w1 ⟨rfl, hb1⟩; have R1' := R1.later hb1; obtain ⟨y1, HY1⟩ := hid_ex (ck x); rw [HY1.out]
  have hw1 : w.heap.size + 2 ≤ w1.heap.size := by have := hb1.size; omega
  cases y1
  · have e1 : zk = 0 := by rw [← HZK.out]; unfold rdK; rw [HY1.out]; rfl
    have e2 : zt = [] := by rw [← HZT.out]; unfold rdT; rw [HY1.out]; rfl
    have HF : Hid (Q (.returned (VV 0 (.slice none 0 0))) (w1.setRow (w.heap.size + 1) #[.int .i64 0, .int .i64 0, .slice none 0 0, .slice none 0 0])) := HP.out _ _ ⟨_, by rw [e1], by rw [e2]; exact SHas.nil _ 1, below_setRow (below_on hb0 hb1) (by omega) _⟩; clear HP e1 e2 HZK HZT HY1
    go_wp2_with (first | refine store_r rfl 52 _ _ rfl _ #[.int .i64 0, .int .i64 0, .slice none 0 0, .slice none 0 0] rfl rfl R1' size52 rfl (by simp [Value.oneCell']) ?_)
    refine bodyPost_ret (results_r rfl rfl (R1'.row _) rfl Tryz.underlying52 size52) rfl ?_; exact HF.out
  · have hcr := (ck_parts HY1.out).2.2.2.2.2.2
    have hup := ce_up (ck_parts HY1.out).2.2.2.2.2.1
    have e1 : zk = 5 := by rw [← HZK.out]; unfold rdK; rw [HY1.out]; rfl
    have HT : Hid (zt = (prE x.el).map tE) := by show _ = _; rw [← HZT.out]; unfold rdT; rw [HY1.out]; rfl
    have hbV := bel_alloc (Below.refl w1.heap.size w1) (.cells #[.int .i64 5, .int .i64 0, .slice none 0 0, .slice none 0 0] 52); have RV := rw_new w1 52 #[.int .i64 5, .int .i64 0, .slice none 0 0, .slice none 0 0]
    have hszV : (w1.alloc (.cells #[.int .i64 5, .int .i64 0, .slice none 0 0, .slice none 0 0] 52)).heap.size = w1.heap.size + 1 := by simp
    have hb1V := below_on hb1 hbV; have cE : (w1.alloc (.cells #[.int .i64 5, .int .i64 0, .slice none 0 0, .slice none 0 0] 52)).cell? ⟨w.heap.size, 5, none⟩ = some (.slice pe x.el.length ce') := (R0.later hb1V).cell 5; go_wp2_with fail; generalize hWV : w1.alloc (.cells #[.int .i64 5, .int .i64 0, .slice none 0 0, .slice none 0 0] 52) = wv at hbV RV hb1V hszV cE ⊢; have C2 := present_any _ x.el wv (hf.e.later hb1V) hs.e hup hcr; have hpl := prE_len hcr; have hel := hs.e; subst e1; clear hcr hup HY1 hf HZK HZT hWV; refine C2.mono ?_; clear C2 cE; rintro e w2 ⟨u, rfl, hE, hb2⟩; obtain ⟨L, HL⟩ := hid_ex (prE x.el); rw [HL.out] at hE hpl HT; obtain ⟨ys, hys, hS, hy⟩ := hE; obtain ⟨pv, cv, rfl⟩ := hS.slice
    have hyl : ys.length = L.length := by rw [← hys, List.length_map]
    have hml := maxLen_lt hS.1; have HR : Hid (SHas 9 w2 (.slice pv L.length cv) L.length (rows El.cells ys)) := hS; have HY : Hid (∀ y ∈ ys, MHas w2 y.2 y.1.gone) := hy
    have HLL : Hid (∀ k (h1 : k < ys.length) (h2 : k < L.length), ys[k].1 = L[k]) := fun k h1 h2 => by
      subst hys; rw [List.getElem_map]
    replace RV := RV.later hb2; have R2 := (R1'.later hbV).later hb2; have hbw := below_on hb0 (below_on hb1V hb2); have hw2 : wv.heap.size ≤ w2.heap.size := hb2.size; obtain ⟨bv, hbv⟩ : ∃ b, b = w1.heap.size := ⟨_, rfl⟩; rw [← hbv] at RV hszV ⊢
    have hbv2 : w.heap.size + 2 ≤ bv ∧ bv < w2.heap.size := by omega
    have HRV : Hid (Rw w2 bv 52 #[.int .i64 5, .int .i64 0, .slice none 0 0, .slice none 0 0]) := RV; have hwle : w.heap.size ≤ w2.heap.size := hbw.size; clear hS hy hys HL hb1 hb2 hb1V hbV R0 R1 R1' hbv hszV hw2 hsz0; go_wp2_with fail
    go_loopw [15] (fun vi wr => ∃ (k : Nat) (q0 : Option Addr) (d0 : Nat), vi = .int .i64 k ∧ k ≤ L.length ∧ Rw wr bv 52 #[.int .i64 5, .int .i64 0, .slice q0 k d0, .slice none 0 0] ∧ Rw wr (w.heap.size + 1) 52 #[.int .i64 0, .int .i64 0, .slice none 0 0, .slice none 0 0] ∧ wr.ownsRow w2.heap.size 9 1 (.slice q0 k d0) k (((L.take k).map tE).map encStr) ∧ Below w.heap.size w wr ∧ (∀ b, b < w2.heap.size → b ≠ bv → wr.heap[b]? = w2.heap[b]?) ∧ w2.heap.size ≤ wr.heap.size) (fun vi _ => L.length - (intOf vi).toNat)
    case atStart => exact ⟨0, none, 0, rfl, by omega, RV, R2, own_none _ _ _ _, hbw, (fun _ _ _ => rfl), Nat.le_refl _⟩
    case round =>
      clear RV R2 hbw; obtain ⟨k, q0, d0, rfl, hk, RV, R2, ho, hbw, hkp, hsz⟩ := hrel
      by_cases hlt : k < L.length
      · have hlt' : (k : Int) < (L.length : Int) := by omega
        have hky : k < ys.length := by omega
        obtain ⟨g1, o, rfl, hd0⟩ := HR.out.at (by omega); have d2 : w2.rangeAt g1 (o + k * 9) (El.cells ys[k]) := range_sub hd0 (k * 9) fun j u hu => rows_at El.len ys k hky j u hu; have hc8 := d2 8 _ rfl
        have hg1 : g1 < w2.heap.size := by
          unfold World.cell? at hc8
          rcases Nat.lt_or_ge g1 w2.heap.size with h | h
          · exact h
          · simp only at hc8
            rw [Array.getElem?_eq_none h] at hc8
            cases hc8
        have hne : g1 ≠ bv := fun e => by
          subst e; rw [Rw.cell HRV.out (o + k * 9 + 8)] at hc8
          simp at hc8
        have d : wr.rangeAt g1 (o + k * 9) (El.cells ys[k]) := fun j u hu => by
          rw [World.cell?_of_block (hkp g1 hg1 hne)]; exact d2 j u hu
        have hyk := HY.out ys[k] (List.getElem_mem _); have ey := HLL.out k hky hlt
        have HSN : Hid (((L.take (k + 1)).map tE).map encStr = ((L.take k).map tE).map encStr ++ [.string ys[k].1.x]) := by
          show _ = _
          rw [List.take_succ_eq_append_getElem hlt, List.map_append, List.map_append, ey]
          rfl
        obtain ⟨yy, HX⟩ := hid_ex (ys[k]); rw [HX.out] at d hyk HSN; obtain ⟨y, yv⟩ := yy; replace hyk : MHas w2 yv y.gone := hyk; obtain ⟨py, cy, rfl⟩ := hyk.slice; replace d : wr.rangeAt g1 (o + k * 9) [Value.int .i64 y.p, .int .i64 y.s, .int .i64 y.i, .int .i64 y.t, .int .i64 y.q, .int .i64 y.u, .int .i64 y.j, .string y.x, .slice py y.gone.length cy] := d; replace HSN : Hid (((L.take (k + 1)).map tE).map encStr = ((L.take k).map tE).map encStr ++ [.string y.x]) := HSN; have zb : (Tryz.prog.info? 60).map (·.size) = some [Value.int .i64 y.p, .int .i64 y.s, .int .i64 y.i, .int .i64 y.t, .int .i64 y.q, .int .i64 y.u, .int .i64 y.j, .string y.x, .slice py y.gone.length cy].length := size60; have RB := rw_new wr 60 #[.int .i64 y.p, .int .i64 y.s, .int .i64 y.i, .int .i64 y.t, .int .i64 y.q, .int .i64 y.u, .int .i64 y.j, .string y.x, .slice py y.gone.length cy]; have hbA := bel_alloc (Below.refl wr.heap.size wr) (.cells #[.int .i64 y.p, .int .i64 y.s, .int .i64 y.i, .int .i64 y.t, .int .i64 y.q, .int .i64 y.u, .int .i64 y.j, .string y.x, .slice py y.gone.length cy] 60); replace ho := own_later ho hbA; replace RV := RV.later hbA; replace R2 := R2.later hbA; replace hbw := below_on hbw hbA
        have hkp1 : ∀ b, b < w2.heap.size → b ≠ bv → (wr.alloc (.cells #[.int .i64 y.p, .int .i64 y.s, .int .i64 y.i, .int .i64 y.t, .int .i64 y.q, .int .i64 y.u, .int .i64 y.j, .string y.x, .slice py y.gone.length cy] 60)).heap[b]? = w2.heap[b]? := fun b h1 h2 => (hbA.block b (by omega)).trans (hkp b h1 h2)
        have hsz1 : w2.heap.size ≤ (wr.alloc (.cells #[.int .i64 y.p, .int .i64 y.s, .int .i64 y.i, .int .i64 y.t, .int .i64 y.q, .int .i64 y.u, .int .i64 y.j, .string y.x, .slice py y.gone.length cy] 60)).heap.size := Nat.le_trans hsz hbA.size; generalize hWA : wr.alloc (.cells #[.int .i64 y.p, .int .i64 y.s, .int .i64 y.i, .int .i64 y.t, .int .i64 y.q, .int .i64 y.u, .int .i64 y.j, .string y.x, .slice py y.gone.length cy] 60) = wa at RB hbA ho RV R2 hbw hkp1 hsz1; have ct : wa.cell? ⟨wr.heap.size, 7, none⟩ = some (.string y.x) := RB.cell 7; have cv2 : wa.cell? ⟨bv, 2, none⟩ = some (.slice q0 k d0) := RV.cell 2; have hbB := bel_alloc (Below.refl wa.heap.size wa) (.cells #[.string y.x] 9); have ho2 := own_later ho hbB; have RV2 := RV.later hbB; have R22 := R2.later hbB; have hbw2 := below_on hbw hbB; have hB1 : w2.heap.size ≤ (wa.alloc (.cells #[.string y.x] 9)).heap.size := Nat.le_trans hsz1 hbB.size
        have hkp2 : ∀ b, b < w2.heap.size → b ≠ bv → (wa.alloc (.cells #[.string y.x] 9)).heap[b]? = w2.heap[b]? := fun b h1 h2 => (hbB.block b (by omega)).trans (hkp1 b h1 h2)
        have HCL : Hid (∀ j u, [Value.string y.x][j]? = some u → (wa.alloc (.cells #[.string y.x] 9)).cell? ((⟨wa.heap.size, 0, none⟩ : Addr).add j) = some u) := fun j u hu => by
          have Rn := rw_new wa 9 #[.string y.x]
          match j, hu with
          | 0, hu => exact (Rn.cell 0).trans hu
          | j + 1, hu => simp at hu
        have hm1 : k + 1 ≤ maxLen := by simp [maxLen]; omega
        have hm2 : (k + 1) * 16 ≤ 140737488355328 := by omega
        generalize hWn : wa.alloc (.cells #[.string y.x] 9) = wn at hbB ho2 RV2 R22 hbw2 hB1 hkp2 HCL; clear hd0 hyk HX ey d2 hc8 RV R2
        go_wp2_with (first | refine load_m 60 _ rfl rfl _ _ rfl d Tryz.underlying60 rfl zb ?_ | rw [hWA] | rw [hWn] | (at_builtin; refine wpList_append_own _ rfl _ _ 49 rfl w2.heap.size 9 j0 (.string noS) 1 16 Tryz.underlying49 hj0 hje0 hje1 hje2 rfl (by decide) _ _ _ rfl ho2 ⟨wa.heap.size, 0, none⟩ 1 1 [.string y.x] rfl rfl HCL.out (by simp [Value.oneCell']) hm1 hm2 hB1 ?_))
        intro v2 w3 ho3 hg3 _; have neV := rw_own_ne RV2 ho2 (by decide); have neR := rw_own_ne R22 ho2 (by decide)
        have kp3 : ∀ q, q < wn.heap.size → (∀ j, (Value.slice q0 k d0).ownBlock = some j → j ≠ q) → w3.heap[q]? = wn.heap[q]? := fun q hq hn => hg3.block q hq (fun e => hn q e.symm rfl)
        have RV3 : Rw w3 bv 52 #[.int .i64 5, .int .i64 0, .slice q0 k d0, .slice none 0 0] := (kp3 bv RV2.lt neV).trans RV2; have R23 : Rw w3 (w.heap.size + 1) 52 #[.int .i64 0, .int .i64 0, .slice none 0 0, .slice none 0 0] := (kp3 _ R22.lt neR).trans R22; obtain ⟨q2, d2, rfl⟩ := own_sl ho3; have cv3 : w3.cell? ⟨bv, 2, none⟩ = some (.slice q0 k d0) := RV3.cell 2; have fv3 := RV3.frozen 2; have RV4 := RV3.set 2 (.slice q2 (k + 1) d2); replace RV4 : Rw (w3.setCell ⟨bv, 2, none⟩ (.slice q2 (k + 1) d2)) bv 52 #[.int .i64 5, .int .i64 0, .slice q2 (k + 1) d2, .slice none 0 0] := RV4; have R24 := R23.setOther (q := bv) (by omega) 2 (.slice q2 (k + 1) d2)
        have ho4 : (w3.setCell ⟨bv, 2, none⟩ (.slice q2 (k + 1) d2)).ownsRow w2.heap.size 9 1 (.slice q2 (k + 1) d2) (k + 1) (((L.take (k + 1)).map tE).map encStr) := by
          rw [HSN.out]
          have := own_over ho3 (rw_own_ne RV3 ho3 (by decide)) 2 (.slice q2 (k + 1) d2)
          simp only [List.map_take, List.map_map] at this ⊢; exact this
        have hbw4 : Below w.heap.size w (w3.setCell ⟨bv, 2, none⟩ (.slice q2 (k + 1) d2)) := below_cell (hbw2.grown hg3 hbw2.size (fun q hq => Nat.le_trans hwle (World.ownsRow.lt ho2 q hq).1)) (by omega) _ _
        have hkp4 : ∀ b, b < w2.heap.size → b ≠ bv → (w3.setCell ⟨bv, 2, none⟩ (.slice q2 (k + 1) d2)).heap[b]? = w2.heap[b]? := fun b h1 h2 => by
          refine (Below.heap_setCell w3 ⟨bv, 2, none⟩ _ b (by simpa using h2)).trans ?_; refine (kp3 b (by omega) (fun j hj e => ?_)).trans (hkp2 b h1 h2)
          have := (World.ownsRow.lt ho2 j hj).1
          omega
        have hsz4 : w2.heap.size ≤ (w3.setCell ⟨bv, 2, none⟩ (.slice q2 (k + 1) d2)).heap.size := by
          rw [World.size_setCell]; exact Nat.le_trans hB1 hg3.size
        clear HSN ho ho2 ho3 hg3 HCL hWA hWn RV2 R22 RV3 R23 kp3 hkp hkp1 hkp2 hbw hbw2 neV neR; go_wp2_with fail; go_roundw
        case rel => exact ⟨k + 1, q2, d2, by simp, by omega, RV4, R24, ho4, hbw4, hkp4, hsz4⟩
        case measure => simp [intOf]; omega
      · have hlt' : ¬ (k : Int) < (L.length : Int) := by omega
        obtain rfl : k = L.length := by omega
        rw [List.take_of_length_le (Nat.le_refl _)] at ho
        have HF : Hid (Q (.returned (VV 5 (.slice q0 L.length d0))) (wr.setRow (w.heap.size + 1) #[.int .i64 5, .int .i64 0, .slice q0 L.length d0, .slice none 0 0])) := HP.out _ _ ⟨_, rfl, by
          rw [HT.out]
          show SHas 1 _ _ (L.map tE).length _
          rw [List.length_map]
          exact own_sh (own_row ho (by omega) _), below_setRow hbw (by omega) _⟩
        clear ho HP HT HY hkp
        go_wp2_with (first | refine load_r 52 _ rfl rfl _ rfl RV Tryz.underlying52 rfl size52 ?_ | refine store_r rfl 52 _ _ rfl _ #[.int .i64 5, .int .i64 0, .slice q0 L.length d0, .slice none 0 0] rfl rfl R2 size52 rfl (by simp [Value.oneCell']) ?_)
        refine bodyPost_ret (results_r rfl rfl (R2.row _) rfl Tryz.underlying52 size52) rfl ?_; exact HF.out
end Go.Proofs.YtfjpbmdmkcihcaaGreat
/- Few of the document's answer. -/
namespace Go.Proofs.YtfjpbmdmkcihcaaGreat
open Go.RowKit

theorem Wt.len (x : Wt) : x.cells.length = 5 := rfl
theorem Wt.elem {w : World} {l : List Wt} {g o : Nat} (h : w.rangeAt g o (rows Wt.cells l)) (k : Nat) (hk : k < l.length) : w.rangeAt g (o + k * 5) l[k].cells :=
  range_sub h (k * 5) fun j u hu => rows_at Wt.len l k hk j u hu
/-- Not great. -/
structure Fw (x : X) : Prop where
  n : x.am.length + x.wr.length + x.mb.length + x.el.length ≤ 60
  m : ∀ y ∈ x.mb, y.ms.length ≤ 30
  e : ∀ y ∈ x.el, y.gone.length ≤ 30
theorem Fw.sm {x : X} (h : Fw x) : Sm x := by
  obtain ⟨h1, h2, h3⟩ := h; exact ⟨by omega, by omega, by omega, by omega, fun y hy => by have := h2 y hy; omega, fun y hy => by have := h3 y hy; omega⟩
/-- What fits into a machine. -/
structure Lk (x : X) : Prop where
  a : x.am.length ≤ 17592186044416
  t : x.wr.length ≤ 17592186044416
  m : x.mb.length ≤ 17592186044416
  e : x.el.length ≤ 17592186044416
def FwPost (x : X) (w : World) (e : Ending) (w' : World) : Prop := ∃ b, e = .returned (.bool b) ∧ (b = true → Fw x) ∧ Below w.heap.size w w'
theorem El.elem {w : World} {l : List (El × Value)} {g o : Nat} (h : w.rangeAt g o (rows El.cells l)) (k : Nat) (hk : k < l.length) : w.rangeAt g (o + k * 9) (El.cells l[k]) :=
  range_sub h (k * 9) fun j u hu => rows_at El.len l k hk j u hu
set_option maxHeartbeats 4000000 in
set_option maxRecDepth 100000 in
theorem few_any (x : X) (va vw vm ve : Value) (w : World) (h : Four w x va vw vm ve) (hl : Lk x) : Calls Tryz.prog 4 #[CV x.k x.b va vw vm ve] w (FwPost x w) := by
  obtain ⟨pa, ca', pw, cw, pm, cm, pe, ce, rfl, rfl, rfl, rfl⟩ := h.slices; have HT : Hid (WHas w (.slice pw x.wr.length cw) x.wr) := h.t; have HM : Hid (BHas w (.slice pm x.mb.length cm) x.mb) := h.m; have HE : Hid (EHas w (.slice pe x.el.length ce) x.el) := h.e; clear h; obtain ⟨l1, l2, l3, l4⟩ := hl; have R0 := rw_new w 27 (cvc x.k x.b (.slice pa x.am.length ca') (.slice pw x.wr.length cw) (.slice pm x.mb.length cm) (.slice pe x.el.length ce)); have hbel := bel_alloc (Below.refl w.heap.size w) (.cells (cvc x.k x.b (.slice pa x.am.length ca') (.slice pw x.wr.length cw) (.slice pm x.mb.length cm) (.slice pe x.el.length ce)) 27); generalize hW : w.alloc (.cells (cvc x.k x.b (.slice pa x.am.length ca') (.slice pw x.wr.length cw) (.slice pm x.mb.length cm) (.slice pe x.el.length ce)) 27) = w0 at R0 hbel; have c2 : w0.cell? ⟨w.heap.size, 2, none⟩ = some (.slice pa x.am.length ca') := R0.cell 2; have c3 : w0.cell? ⟨w.heap.size, 3, none⟩ = some (.slice pw x.wr.length cw) := R0.cell 3; have c4 : w0.cell? ⟨w.heap.size, 4, none⟩ = some (.slice pm x.mb.length cm) := R0.cell 4; have c5 : w0.cell? ⟨w.heap.size, 5, none⟩ = some (.slice pe x.el.length ce) := R0.cell 5
  have w1 : IntKind.i64.wrap ((x.am.length : Int) + (x.wr.length : Int)) = (x.am.length : Int) + (x.wr.length : Int) := by rw [IntKind.wrap_i64]; omega
  have w2 : IntKind.i64.wrap ((x.am.length : Int) + (x.wr.length : Int) + (x.mb.length : Int)) = (x.am.length : Int) + (x.wr.length : Int) + (x.mb.length : Int) := by rw [IntKind.wrap_i64]; omega
  have w3 : IntKind.i64.wrap ((x.am.length : Int) + (x.wr.length : Int) + (x.mb.length : Int) + (x.el.length : Int)) = (x.am.length : Int) + (x.wr.length : Int) + (x.mb.length : Int) + (x.el.length : Int) := by rw [IntKind.wrap_i64]; omega
  by_cases h60 : x.am.length + x.wr.length + x.mb.length + x.el.length ≤ 60
  · have h60' : ¬ 60 < (x.am.length : Int) + (x.wr.length : Int) + (x.mb.length : Int) + (x.el.length : Int) := by omega
    have HN : Hid (x.am.length + x.wr.length + x.mb.length + x.el.length ≤ 60) := h60
    go_enter Tryz.func4, Tryz.ntmps4
    go_wp2_with (first | rw [hW])
    clear hW c2 c3 c4 c5 w1 w2 w3
    have hwl : x.wr.length ≤ 60 := by omega
    have hml : x.mb.length ≤ 60 := by omega
    have hel : x.el.length ≤ 60 := by omega
    clear h60 h60' l1 l2 l3 l4
    go_loopw [3] (fun vi wr => ∃ k : Nat, vi = .int .i64 k ∧ k ≤ x.wr.length ∧ Rw wr w.heap.size 27 (cvc x.k x.b (.slice pa x.am.length ca') (.slice pw x.wr.length cw) (.slice pm x.mb.length cm) (.slice pe x.el.length ce)) ∧ Below w.heap.size w wr) (fun vi _ => x.wr.length - (intOf vi).toNat)
    case atStart => exact ⟨0, rfl, by omega, R0, hbel⟩
    case round =>
      clear R0 hbel; obtain ⟨k, rfl, hk, R0, hbel⟩ := hrel; have c3 : wr.cell? ⟨w.heap.size, 3, none⟩ = some (.slice pw x.wr.length cw) := R0.cell 3
      by_cases hlt : k < x.wr.length
      · have hlt' : (k : Int) < (x.wr.length : Int) := by omega
        obtain ⟨g, o, rfl, hd0⟩ := HT.out.at (by omega); have d := Wt.elem (range_later hd0 hbel) k hlt 4 _ rfl; clear hd0
        by_cases hx : 100 < (x.wr[k].x.size : Int)
        · go_wp2_with fail
          go_ret; exact ⟨false, rfl, (fun h => by cases h), hbel⟩
        · go_wp2_with fail
          go_roundw
          case rel => exact ⟨k + 1, by simp, by omega, R0, hbel⟩
          case measure => simp [intOf]; omega
      · obtain rfl : k = x.wr.length := by omega
        have hlt' : ¬ (x.wr.length : Int) < (x.wr.length : Int) := by omega
        clear HT; go_wp2_with fail; clear c3
        go_loopw [4] (fun vi wr => ∃ k : Nat, vi = .int .i64 k ∧ k ≤ x.mb.length ∧ Hid (∀ i (h : i < x.mb.length), i < k → x.mb[i].ms.length ≤ 30) ∧ Rw wr w.heap.size 27 (cvc x.k x.b (.slice pa x.am.length ca') (.slice pw x.wr.length cw) (.slice pm x.mb.length cm) (.slice pe x.el.length ce)) ∧ Below w.heap.size w wr) (fun vi _ => x.mb.length - (intOf vi).toNat)
        case atStart => exact ⟨0, rfl, by omega, (show ∀ i (_ : i < x.mb.length), i < 0 → _ from fun i _ h => by omega), R0, hbel⟩
        case round =>
          clear R0 hbel hlt hlt'; obtain ⟨k, rfl, hk, HV, R0, hbel⟩ := hrel; have c4 : wr.cell? ⟨w.heap.size, 4, none⟩ = some (.slice pm x.mb.length cm) := R0.cell 4
          by_cases hlt : k < x.mb.length
          · have hlt' : (k : Int) < (x.mb.length : Int) := by omega
            obtain ⟨ys, hys, hy1, hy2⟩ := HM.out
            have hyl : ys.length = x.mb.length := by rw [← hys, List.length_map]
            obtain ⟨g, o, rfl, hd0⟩ := hy1.at (by omega); have d := Mb.elem (range_later hd0 hbel) k (by omega); have d0 := d 0 _ rfl; have d2 := d 2 _ rfl; have hyk := (hy2 ys[k] (List.getElem_mem _)).later hbel
            have hxk : Hid (x.mb[k] = ys[k].1) := by
              show _ = _
              simp only [← hys, List.getElem_map]
            obtain ⟨y, HY⟩ := hid_ex ys[k]; rw [HY.out] at d0 d2 hyk hxk; obtain ⟨ym, yv⟩ := y; replace hyk : MHas wr yv ym.ms := hyk; have hmm := maxLen_lt hyk.1; obtain ⟨py, cy, rfl⟩ := hyk.slice; simp only [Nat.add_zero] at d0 d2; clear hd0 d hyk hy1 hy2
            by_cases hx : 100 < (ym.x.size : Int)
            · go_wp2_with fail
              go_ret; exact ⟨false, rfl, (fun h => by cases h), hbel⟩
            · by_cases hx2 : 30 < (ym.ms.length : Int)
              · go_wp2_with fail
                go_ret; exact ⟨false, rfl, (fun h => by cases h), hbel⟩
              · have HV2 : Hid (∀ i (h : i < x.mb.length), i < k + 1 → x.mb[i].ms.length ≤ 30) := fun i h hi => by
                  rcases Nat.lt_or_ge i k with h' | h'
                  · exact HV.out i h h'
                  · obtain rfl : i = k := by omega
                    rw [hxk.out]
                    show ym.ms.length ≤ 30
                    omega
                go_wp2_with fail; go_roundw
                case rel => exact ⟨k + 1, by simp, by omega, HV2, R0, hbel⟩
                case measure => simp [intOf]; omega
          · obtain rfl : k = x.mb.length := by omega
            have hlt' : ¬ (x.mb.length : Int) < (x.mb.length : Int) := by omega
            have HMB : Hid (∀ y ∈ x.mb, y.ms.length ≤ 30) := fun y hy => by
              obtain ⟨i, hi, rfl⟩ := List.getElem_of_mem hy; exact HV.out i hi hi
            clear HM HV; go_wp2_with fail; clear c4
            go_loopw [5] (fun vi wr => ∃ k : Nat, vi = .int .i64 k ∧ k ≤ x.el.length ∧ Hid (∀ i (h : i < x.el.length), i < k → x.el[i].gone.length ≤ 30) ∧ Rw wr w.heap.size 27 (cvc x.k x.b (.slice pa x.am.length ca') (.slice pw x.wr.length cw) (.slice pm x.mb.length cm) (.slice pe x.el.length ce)) ∧ Below w.heap.size w wr) (fun vi _ => x.el.length - (intOf vi).toNat)
            case atStart => exact ⟨0, rfl, by omega, (show ∀ i (_ : i < x.el.length), i < 0 → _ from fun i _ h => by omega), R0, hbel⟩
            case round =>
              clear R0 hbel hlt hlt'; obtain ⟨k, rfl, hk, HV, R0, hbel⟩ := hrel; have c5 : wr.cell? ⟨w.heap.size, 5, none⟩ = some (.slice pe x.el.length ce) := R0.cell 5
              by_cases hlt : k < x.el.length
              · have hlt' : (k : Int) < (x.el.length : Int) := by omega
                obtain ⟨ys, hys, hy1, hy2⟩ := HE.out
                have hyl : ys.length = x.el.length := by rw [← hys, List.length_map]
                obtain ⟨g, o, rfl, hd0⟩ := hy1.at (by omega); have d := El.elem (range_later hd0 hbel) k (by omega); have d0 := d 7 _ rfl; have d2 := d 8 _ rfl; have hyk := (hy2 ys[k] (List.getElem_mem _)).later hbel
                have hxk : Hid (x.el[k] = ys[k].1) := by
                  show _ = _
                  simp only [← hys, List.getElem_map]
                obtain ⟨y, HY⟩ := hid_ex ys[k]; rw [HY.out] at d0 d2 hyk hxk; obtain ⟨ym, yv⟩ := y; replace hyk : MHas wr yv ym.gone := hyk; have hmm := maxLen_lt hyk.1; obtain ⟨py, cy, rfl⟩ := hyk.slice; simp only at d0 d2; clear hd0 d hyk hy1 hy2
                by_cases hx : 100 < (ym.x.size : Int)
                · go_wp2_with fail
                  go_ret; exact ⟨false, rfl, (fun h => by cases h), hbel⟩
                · by_cases hx2 : 30 < (ym.gone.length : Int)
                  · go_wp2_with fail
                    go_ret; exact ⟨false, rfl, (fun h => by cases h), hbel⟩
                  · have HV2 : Hid (∀ i (h : i < x.el.length), i < k + 1 → x.el[i].gone.length ≤ 30) := fun i h hi => by
                      rcases Nat.lt_or_ge i k with h' | h'
                      · exact HV.out i h h'
                      · obtain rfl : i = k := by omega
                        rw [hxk.out]
                        show ym.gone.length ≤ 30
                        omega
                    go_wp2_with fail; go_roundw
                    case rel => exact ⟨k + 1, by simp, by omega, HV2, R0, hbel⟩
                    case measure => simp [intOf]; omega
              · obtain rfl : k = x.el.length := by omega
                have hlt' : ¬ (x.el.length : Int) < (x.el.length : Int) := by omega
                have HEB : Hid (∀ y ∈ x.el, y.gone.length ≤ 30) := fun y hy => by
                  obtain ⟨i, hi, rfl⟩ := List.getElem_of_mem hy; exact HV.out i hi hi
                clear HE HV; go_wp2_with fail; go_ret; exact ⟨true, rfl, fun _ => ⟨HN.out, HMB.out, HEB.out⟩, hbel⟩
  · have h60' : 60 < (x.am.length : Int) + (x.wr.length : Int) + (x.mb.length : Int) + (x.el.length : Int) := by omega
    go_enter Tryz.func4, Tryz.ntmps4
    go_wp2_with (first | rw [hW])
    go_ret; exact ⟨false, rfl, (fun h => by cases h), hbel⟩
end Go.Proofs.YtfjpbmdmkcihcaaGreat
/- Marks and members of the document's answer: what is the same is told so. -/
namespace Go.Proofs.YtfjpbmdmkcihcaaGreat
open Go.RowKit

theorem same_mark (w : World) (p s i : Int) : (Op.equalIn 10000 36 (MV p s i) (MV p s i)).run Tryz.prog w = .ok true w := by
  rw [eq_mark]
  simp
theorem same_amount (w : World) (p s i n : Int) : (Op.equalIn 10000 70 (AV p s i n) (AV p s i n)).run Tryz.prog w = .ok true w := by go_simp
theorem same_write (w : World) (y : Wt) : (Op.equalIn 10000 56 (.agg #[.int .i64 y.p, .int .i64 y.s, .int .i64 y.i, .int .i64 y.t, .string y.x]) (.agg #[.int .i64 y.p, .int .i64 y.s, .int .i64 y.i, .int .i64 y.t, .string y.x])).run Tryz.prog w = .ok true w := by go_simp
set_option maxHeartbeats 2000000 in
set_option maxRecDepth 100000 in
theorem marks_any (v1 v2 : Value) (l : List M) (w : World) (h1 : MHas w v1 l) (h2 : MHas w v2 l) : Calls Tryz.prog 18 #[v1, v2] w (Tells (.bool true) w) := by
  have hml := maxLen_lt h1.1; obtain ⟨p1, c1, rfl⟩ := h1.slice; obtain ⟨p2, c2, rfl⟩ := h2.slice; have H1 : Hid (MHas w (.slice p1 l.length c1) l) := h1; have H2 : Hid (MHas w (.slice p2 l.length c2) l) := h2; clear h1 h2
  go_enter Tryz.func18, Tryz.ntmps18
  go_wp2
  go_loopw [5] (fun vi wr => ∃ k : Nat, vi = .int .i64 k ∧ k ≤ l.length ∧ Below w.heap.size w wr) (fun vi _ => l.length - (intOf vi).toNat)
  case atStart => exact ⟨0, rfl, by omega, Below.refl _ _⟩
  case round =>
    obtain ⟨k, rfl, hk, hbel⟩ := hrel
    by_cases hlt : k < l.length
    · have hlt' : (k : Int) < (l.length : Int) := by omega
      obtain ⟨g1, o1, rfl, hd1⟩ := H1.out.at (by omega); obtain ⟨g2, o2, rfl, hd2⟩ := H2.out.at (by omega); have d1 := M.elem (range_later hd1 hbel) k hlt; have d2 := M.elem (range_later hd2 hbel) k hlt; obtain ⟨y, HY⟩ := hid_ex l[k]; rw [HY.out] at d1 d2; clear hd1 hd2 H1 H2 HY
      have E := fun w => same_mark w y.p y.s y.i
      have zm : (Tryz.prog.info? 36).map (·.size) = some y.cells.length := size36
      go_wp2
      have hs : Calm.Stays (fun w' => w'.rangeAt g1 (o1 + k * 3) y.cells ∧ w'.rangeAt g2 (o2 + k * 3) y.cells ∧ Below w.heap.size w w') := fun wa wb h hb => ⟨range_later h.1 hb, range_later h.2.1 hb, below_on h.2.2 hb⟩
      refine Calm.region (by kernel_rfl) (by kernel_rfl) (fun w' => w'.rangeAt g1 (o1 + k * 3) y.cells ∧ w'.rangeAt g2 (o2 + k * 3) y.cells ∧ Below w.heap.size w w') ⟨d1, d2, hbel.drew⟩ ?_
      iterate 3
        all_goals
          refine Calm.pure (v := ?_) (by rfl) ?_ ?_; rotate_left; focus (intro w hSw; go_simp <;> rfl)
          simp only [put4]
      all_goals
        first | (refine Calm.loadM 36 Tryz.underlying36 rfl zm (by rfl) _ rfl rfl (fun _ h => h.1) ?_) | (refine Calm.loadM 36 Tryz.underlying36 rfl zm (by rfl) _ rfl rfl (fun _ h => h.2.1) ?_)
        simp only [put4]
      iterate 3
        all_goals
          refine Calm.pure (v := ?_) (by rfl) ?_ ?_; rotate_left; focus (intro w hSw; go_simp <;> rfl)
          simp only [put4]
      all_goals
        first | (refine Calm.loadM 36 Tryz.underlying36 rfl zm (by rfl) _ rfl rfl (fun _ h => h.1) ?_) | (refine Calm.loadM 36 Tryz.underlying36 rfl zm (by rfl) _ rfl rfl (fun _ h => h.2.1) ?_)
        simp only [put4]
      all_goals
        refine Calm.pure (v := ?_) (by rfl) ?_ ?_; rotate_left; focus (intro w hSw; go_simp <;> rfl)
        simp only [put4]
      all_goals
        rintro w9 ⟨_, _, hbel9⟩
      go_wp2_with fail; go_roundw
      case rel => exact ⟨k + 1, by simp, by omega, hbel9⟩
      case measure => simp [intOf]; omega
    · have hlt' : ¬ (k : Int) < (l.length : Int) := by omega
      clear H1 H2; go_wp2_with fail; go_ret; exact ⟨rfl, hbel⟩
set_option maxHeartbeats 2000000 in
set_option maxRecDepth 100000 in
theorem members_any (v1 v2 : Value) (l : List Mb) (w : World) (h1 : BHas w v1 l) (h2 : BHas w v2 l) : Calls Tryz.prog 30 #[v1, v2] w (Tells (.bool true) w) := by
  obtain ⟨p1, c1, rfl⟩ := h1.slice; obtain ⟨p2, c2, rfl⟩ := h2.slice
  have hml : (l.length : Int) ≤ 9223372036854775807 := by
    obtain ⟨ys, _, h, _⟩ := h1; exact maxLen_lt h.1
  have H1 : Hid (BHas w (.slice p1 l.length c1) l) := h1; have H2 : Hid (BHas w (.slice p2 l.length c2) l) := h2; clear h1 h2
  go_enter Tryz.func30, Tryz.ntmps30
  go_wp2
  go_loopw [5] (fun vi wr => ∃ k : Nat, vi = .int .i64 k ∧ k ≤ l.length ∧ Below w.heap.size w wr) (fun vi _ => l.length - (intOf vi).toNat)
  case atStart => exact ⟨0, rfl, by omega, Below.refl _ _⟩
  case round =>
    obtain ⟨k, rfl, hk, hbel⟩ := hrel
    by_cases hlt : k < l.length
    · have hlt' : (k : Int) < (l.length : Int) := by omega
      obtain ⟨m1, e1, s1, t1⟩ := H1.out; obtain ⟨m2, e2, s2, t2⟩ := H2.out
      have hl1 : m1.length = l.length := by rw [← e1, List.length_map]
      have hl2 : m2.length = l.length := by rw [← e2, List.length_map]
      obtain ⟨g1, o1, rfl, hd1⟩ := s1.at (by omega); obtain ⟨g2, o2, rfl, hd2⟩ := s2.at (by omega); have d1 := Mb.elem (range_later hd1 hbel) k (by omega); have d2 := Mb.elem (range_later hd2 hbel) k (by omega); have q1 := (t1 m1[k] (List.getElem_mem _)).later hbel; have q2 := (t2 m2[k] (List.getElem_mem _)).later hbel
      have f1 : m1[k].1 = l[k] := by simp only [← e1, List.getElem_map]
      have f2 : m2[k].1 = l[k] := by simp only [← e2, List.getElem_map]
      obtain ⟨y1, HY1⟩ := hid_ex m1[k]; obtain ⟨y2, HY2⟩ := hid_ex m2[k]; rw [HY1.out] at d1 q1 f1; rw [HY2.out] at d2 q2 f2; obtain ⟨a1, u1⟩ := y1; obtain ⟨a2, u2⟩ := y2; replace f1 : a1 = l[k] := f1; replace f2 : a2 = l[k] := f2; obtain ⟨y, HY⟩ := hid_ex l[k]; rw [HY.out] at f1 f2; subst f1; subst f2; replace q1 : MHas wr u1 a2.ms := q1; replace q2 : MHas wr u2 a2.ms := q2; obtain ⟨x1, z1, rfl⟩ := q1.slice; obtain ⟨x2, z2, rfl⟩ := q2.slice; replace d1 : wr.rangeAt g1 (o1 + k * 3) [.string a2.x, .bool a2.b, .slice x1 a2.ms.length z1] := d1; replace d2 : wr.rangeAt g2 (o2 + k * 3) [.string a2.x, .bool a2.b, .slice x2 a2.ms.length z2] := d2; clear hd1 hd2 H1 H2 HY HY1 HY2 s1 s2 t1 t2 e1 e2
      have C1 := fun w' (hb : Below wr.heap.size wr w') => marks_any _ _ a2.ms w' (q1.later hb) (q2.later hb)
      have hb0 := Below.refl wr.heap.size wr; go_wp2_with fail
      have hs : Calm.Stays (fun w' => w'.rangeAt g1 (o1 + k * 3) [.string a2.x, .bool a2.b, .slice x1 a2.ms.length z1] ∧ w'.rangeAt g2 (o2 + k * 3) [.string a2.x, .bool a2.b, .slice x2 a2.ms.length z2] ∧ Below wr.heap.size wr w' ∧ Below w.heap.size w w') := fun wa wb h hb => ⟨range_later h.1 hb, range_later h.2.1 hb, below_on h.2.2.1 hb, below_on h.2.2.2 hb⟩
      refine Calm.region (by kernel_rfl) (by kernel_rfl) (fun w' => w'.rangeAt g1 (o1 + k * 3) [.string a2.x, .bool a2.b, .slice x1 a2.ms.length z1] ∧ w'.rangeAt g2 (o2 + k * 3) [.string a2.x, .bool a2.b, .slice x2 a2.ms.length z2] ∧ Below wr.heap.size wr w' ∧ Below w.heap.size w w') ⟨d1, d2, hb0.drew, hbel.drew⟩ ?_
      iterate 4
        all_goals
          refine Calm.pure (v := ?_) (by rfl) ?_ ?_; rotate_left; focus (intro w hSw; go_simp <;> rfl)
          simp only [put4]
      all_goals
        refine Calm.pure (v := ?_) (by rfl) ?_ ?_; rotate_left; focus (intro w hSw; have g1 := hSw.1 0 _ rfl; simp only [Nat.add_zero] at g1; go_simp <;> rfl)
        simp only [put4]
      iterate 4
        all_goals
          refine Calm.pure (v := ?_) (by rfl) ?_ ?_; rotate_left; focus (intro w hSw; go_simp <;> rfl)
          simp only [put4]
      all_goals
        refine Calm.pure (v := ?_) (by rfl) ?_ ?_; rotate_left; focus (intro w hSw; have g1 := hSw.2.1 0 _ rfl; simp only [Nat.add_zero] at g1; go_simp <;> rfl)
        simp only [put4]
      iterate 2
        all_goals
          refine Calm.pure (v := ?_) (by rfl) ?_ ?_; rotate_left; focus (intro w hSw; go_simp <;> rfl)
          simp only [put4]
      iterate 4
        all_goals
          first
            | (refine Calm.skip ?_ ?_; focus rfl)
            | (refine Calm.pure (v := ?_) (by rfl) ?_ ?_
               rotate_left
               focus (intro w hSw; go_simp <;> rfl))
          simp only [put4]
      all_goals
        first
          | (refine Calm.skip ?_ ?_; focus rfl)
          | (refine Calm.pure (v := ?_) (by rfl) ?_ ?_
             rotate_left
             focus (intro w hSw; have g1 := hSw.1 1 _ rfl; go_simp <;> rfl))
        simp only [put4]
      iterate 4
        all_goals
          first
            | (refine Calm.skip ?_ ?_; focus rfl)
            | (refine Calm.pure (v := ?_) (by rfl) ?_ ?_
               rotate_left
               focus (intro w hSw; go_simp <;> rfl))
          simp only [put4]
      all_goals
        first
          | (refine Calm.skip ?_ ?_; focus rfl)
          | (refine Calm.pure (v := ?_) (by rfl) ?_ ?_
             rotate_left
             focus (intro w hSw; have g1 := hSw.2.1 1 _ rfl; go_simp <;> rfl))
        simp only [put4]
      all_goals
        first
          | (refine Calm.skip ?_ ?_; focus rfl)
          | (refine Calm.pure (v := ?_) (by rfl) ?_ ?_
             rotate_left
             focus (intro w hSw; go_simp <;> rfl))
        simp only [put4]
      iterate 2
        all_goals
          refine Calm.pure (v := ?_) (by rfl) ?_ ?_; rotate_left; focus (intro w hSw; go_simp <;> rfl)
          simp only [put4]
      iterate 4
        all_goals
          first
            | (refine Calm.skip ?_ ?_; focus rfl)
            | (refine Calm.pure (v := ?_) (by rfl) ?_ ?_
               rotate_left
               focus (intro w hSw; go_simp <;> rfl))
          simp only [put4]
      all_goals
        first
          | (refine Calm.skip ?_ ?_; focus rfl)
          | (refine Calm.pure (v := ?_) (by rfl) ?_ ?_
             rotate_left
             focus (intro w hSw; have g1 := hSw.1 2 _ rfl; go_simp <;> rfl))
        simp only [put4]
      iterate 4
        all_goals
          first
            | (refine Calm.skip ?_ ?_; focus rfl)
            | (refine Calm.pure (v := ?_) (by rfl) ?_ ?_
               rotate_left
               focus (intro w hSw; go_simp <;> rfl))
          simp only [put4]
      all_goals
        first
          | (refine Calm.skip ?_ ?_; focus rfl)
          | (refine Calm.pure (v := ?_) (by rfl) ?_ ?_
             rotate_left
             focus (intro w hSw; have g1 := hSw.2.1 2 _ rfl; go_simp <;> rfl))
        simp only [put4]
      all_goals
        first
          | (refine Calm.skip ?_ ?_; focus rfl)
          | (refine Calm.call2s (by rfl) rfl rfl rfl (by kernel_rfl) hs (fun w1 h => C1 w1 h.2.2.1) ?_)
        simp only [put4]
      all_goals
        first
          | (refine Calm.skip ?_ ?_; focus rfl)
          | (refine Calm.pure (v := ?_) (by rfl) ?_ ?_
             rotate_left
             focus (intro w hSw; go_simp <;> rfl))
        simp only [put4]
      all_goals
        refine Calm.pure (v := ?_) (by rfl) ?_ ?_; rotate_left; focus (intro w hSw; go_simp <;> rfl)
        simp only [put4]
      all_goals
        rintro w9 ⟨_, _, _, hbel9⟩
      go_wp2_with fail; go_roundw
      case rel => exact ⟨k + 1, by simp, by omega, hbel9⟩
      case measure => simp [intOf]; omega
    · have hlt' : ¬ (k : Int) < (l.length : Int) := by omega
      clear H1 H2; go_wp2_with fail; go_ret; exact ⟨rfl, hbel⟩
end Go.Proofs.YtfjpbmdmkcihcaaGreat
/- Texts and Values of the document's answer: what is the same is told so. -/
namespace Go.Proofs.YtfjpbmdmkcihcaaGreat
open Go.RowKit Go.Sort

theorem THas.elem {w : World} {l : List Bs} {g o : Nat} (h : w.rangeAt g o (l.map encStr)) (k : Nat) (hk : k < l.length) : w.cell? ⟨g, o + k, none⟩ = some (encStr l[k]) := h k _ (by simp [hk])
set_option maxHeartbeats 2000000 in
set_option maxRecDepth 100000 in
theorem refTexts_any (v1 v2 : Value) (l : List Bs) (w : World) (h1 : THas w v1 l) (h2 : THas w v2 l) : Calls Tryz.prog 24 #[v1, v2] w (Tells (.bool true) w) := by
  have hml := maxLen_lt h1.1; obtain ⟨p1, c1, rfl⟩ := h1.slice; obtain ⟨p2, c2, rfl⟩ := h2.slice; have H1 : Hid (THas w (.slice p1 l.length c1) l) := h1; have H2 : Hid (THas w (.slice p2 l.length c2) l) := h2; clear h1 h2
  go_enter Tryz.func24, Tryz.ntmps24
  go_wp2
  go_loopw [5] (fun vi wr => ∃ k : Nat, vi = .int .i64 k ∧ k ≤ l.length ∧ Below w.heap.size w wr) (fun vi _ => l.length - (intOf vi).toNat)
  case atStart => exact ⟨0, rfl, by omega, Below.refl _ _⟩
  case round =>
    obtain ⟨k, rfl, hk, hbel⟩ := hrel
    by_cases hlt : k < l.length
    · have hlt' : (k : Int) < (l.length : Int) := by omega
      have hk0 : (0 : Int) ≤ (k : Int) := by omega
      obtain ⟨g, o, rfl, hd1⟩ := H1.out.at (by omega); obtain ⟨g', o', rfl, hd2⟩ := H2.out.at (by omega); have c1 := THas.elem (range_later hd1 hbel) k hlt; have c2 := THas.elem (range_later hd2 hbel) k hlt; obtain ⟨s, HS⟩ := hid_ex l[k]; rw [HS.out] at c1 c2; clear hd1 hd2 H1 H2 HS; go_wp2_with fail
      have hs : Calm.Stays (fun w' => w'.cell? ⟨g, o + k, none⟩ = some (encStr s) ∧ w'.cell? ⟨g', o' + k, none⟩ = some (encStr s) ∧ Below w.heap.size w w') := fun wa wb h hb => ⟨cell_later hb h.1, cell_later hb h.2.1, below_on h.2.2 hb⟩
      refine Calm.region (by kernel_rfl) (by kernel_rfl) (fun w' => w'.cell? ⟨g, o + k, none⟩ = some (encStr s) ∧ w'.cell? ⟨g', o' + k, none⟩ = some (encStr s) ∧ Below w.heap.size w w') ⟨c1, c2, hbel.drew⟩ ?_
      iterate 3
        all_goals
          refine Calm.pure (v := ?_) (by rfl) ?_ ?_; rotate_left; focus (intro w hSw; go_simp <;> rfl)
          simp only [put4]
      all_goals
        refine Calm.pure (v := ?_) (by rfl) ?_ ?_; rotate_left; focus (intro w hSw; have g1 := hSw.1; go_simp <;> rfl)
        simp only [put4]
      iterate 3
        all_goals
          refine Calm.pure (v := ?_) (by rfl) ?_ ?_; rotate_left; focus (intro w hSw; go_simp <;> rfl)
          simp only [put4]
      all_goals
        refine Calm.pure (v := ?_) (by rfl) ?_ ?_; rotate_left; focus (intro w hSw; have g1 := hSw.2.1; go_simp <;> rfl)
        simp only [put4]
      all_goals
        refine Calm.pure (v := ?_) (by rfl) ?_ ?_; rotate_left; focus (intro w hSw; go_simp <;> rfl)
        simp only [put4]
      all_goals
        rintro w9 ⟨_, _, hbel9⟩
      go_wp2_with fail; go_roundw
      case rel => exact ⟨k + 1, by simp, by omega, hbel9⟩
      case measure => simp [intOf]; omega
    · have hlt' : ¬ (k : Int) < (l.length : Int) := by omega
      clear H1 H2; go_wp2_with fail; go_ret; exact ⟨rfl, hbel⟩
set_option maxHeartbeats 2000000 in
set_option maxRecDepth 100000 in
theorem values_any (k : Int) (u1 u2 : Value) (l : List Bs) (w : World) (h1 : THas w u1 l) (h2 : THas w u2 l) : Calls Tryz.prog 21 #[VV k u1, VV k u2] w (Tells (.bool true) w) := by
  obtain ⟨p1, c1, rfl⟩ := h1.slice; obtain ⟨p2, c2, rfl⟩ := h2.slice; obtain ⟨R0, R1, hbel⟩ := two_rows w #[.int .i64 k, .int .i64 0, .slice p1 l.length c1, .slice none 0 0] 52 #[.int .i64 k, .int .i64 0, .slice p2 l.length c2, .slice none 0 0] 52; generalize hW : (w.alloc (.cells #[.int .i64 k, .int .i64 0, .slice p1 l.length c1, .slice none 0 0] 52)).alloc (.cells #[.int .i64 k, .int .i64 0, .slice p2 l.length c2, .slice none 0 0] 52) = w0 at R0 R1 hbel; have a0 : w0.cell? ⟨w.heap.size, 0, none⟩ = some (.int .i64 k) := R0.cell 0; have a1 : w0.cell? ⟨w.heap.size, 1, none⟩ = some (.int .i64 0) := R0.cell 1; have a2 : w0.cell? ⟨w.heap.size, 2, none⟩ = some (.slice p1 l.length c1) := R0.cell 2; have e0 : w0.cell? ⟨w.heap.size + 1, 0, none⟩ = some (.int .i64 k) := R1.cell 0; have e1 : w0.cell? ⟨w.heap.size + 1, 1, none⟩ = some (.int .i64 0) := R1.cell 1; have e2 : w0.cell? ⟨w.heap.size + 1, 2, none⟩ = some (.slice p2 l.length c2) := R1.cell 2; have C := refTexts_any _ _ l w0 (h1.later hbel) (h2.later hbel); clear h1 h2
  go_enter Tryz.func21, Tryz.ntmps21
  go_wp2_with (first | rw [hW])
  refine C.mono ?_; rintro e w1 ⟨rfl, hb1⟩; have a3 : w1.cell? ⟨w.heap.size, 3, none⟩ = some (.slice none 0 0) := (R0.later hb1).cell 3; have e3 : w1.cell? ⟨w.heap.size + 1, 3, none⟩ = some (.slice none 0 0) := (R1.later hb1).cell 3; go_wp2_with fail; have R := R0.later hb1; replace hbel := below_on hbel hb1; clear a0 a1 a2 a3 e0 e1 e2 e3 hb1 hW R0 R1
  go_loopw [5] (fun vi wr => vi = .int .i64 0 ∧ wr.cell? ⟨w.heap.size, 3, none⟩ = some (.slice none 0 0) ∧ Below w.heap.size w wr) (fun _ _ => 0)
  case atStart => exact ⟨rfl, R.cell 3, hbel⟩
  case round =>
    clear hbel; obtain ⟨rfl, c3, hbel⟩ := hrel; go_wp2_with fail; go_ret; exact ⟨rfl, hbel⟩
end Go.Proofs.YtfjpbmdmkcihcaaGreat
