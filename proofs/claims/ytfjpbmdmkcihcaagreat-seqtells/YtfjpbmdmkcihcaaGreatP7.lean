import Derived.Test.YtfjpbmdmkcihcaaGreatP6
import Derived.Sort.OwnSortedInts
import Derived.Test.YtfjpbmdmkcihcaaGreatP5
import Derived.Shelf.Spec.SlicesInsertGrow
import Derived.Maps.AppendAt
/- rising of package seq: the places by rising time, of one time as they stand. -/
namespace Go.Proofs.YtfjpbmdmkcihcaaGreat
open Go.RowKit Go.Sort Go.Shelf Go.Proofs

/-- The time at a place. -/
def tmL (l : List El) (k : Nat) : Int := match l[k - 1]? with
  | some e => e.t
  | none => 0
theorem tmL_succ {l : List El} {k : Nat} (h : k < l.length) : tmL l (k + 1) = l[k].t := by
  simp [tmL, List.getElem?_eq_getElem h]
/-- The earlier one. -/
def er (l : List El) (a b : Nat) : Prop := tmL l a < tmL l b ∨ (tmL l a = tmL l b ∧ a < b)
def plc (n : Nat) : List Nat := (List.range n).map (· + 1)
theorem plc_succ (n : Nat) : plc (n + 1) = plc n ++ [n + 1] := by simp [plc, List.range_succ]
theorem plc_len (n : Nat) : (plc n).length = n := by simp [plc]
/-- A place, as a value. -/
def encP (n : Nat) (k : Fin n) : Value := .int .i64 ((k.val + 1 : Nat) : Int)
theorem encP_one (n : Nat) : OneCell (encP n) := fun _ => rfl
/-- How two places compare. -/
def cfP (l : List El) (a b : Fin l.length) : Int := or2 (cmpI (tmL l (a.val + 1)) (tmL l (b.val + 1))) (cmpI ((a.val + 1 : Nat) : Int) ((b.val + 1 : Nat) : Int))
theorem ltP {l : List El} (a b : Fin l.length) : ltOf (cfP l) a b = true ↔ er l (a.val + 1) (b.val + 1) := by
  unfold ltOf cfP or2 cmpI er; rw [decide_eq_true_iff]
  (repeat' split) <;> omega
theorem swoP (l : List El) : SWO (ltOf (cfP l)) where
  irrefl x := by
    cases h : ltOf (cfP l) x x
    · rfl
    · rw [ltP] at h
      unfold er at h
      omega
  trans x y z h1 h2 := by
    rw [ltP] at *; unfold er at *
    omega
  ntrans x y z h1 h2 := by
    cases h : ltOf (cfP l) x z
    · rfl
    · have n1 : ¬ er l (x.val + 1) (y.val + 1) := fun e => by rw [← ltP, h1] at e; cases e
      have n2 : ¬ er l (y.val + 1) (z.val + 1) := fun e => by rw [← ltP, h2] at e; cases e
      rw [ltP] at h; unfold er at *
      omega
theorem totP {l : List El} (x y : Fin l.length) (h1 : ltOf (cfP l) x y = false) (h2 : ltOf (cfP l) y x = false) : x = y := by
  have n1 : ¬ er l (x.val + 1) (y.val + 1) := fun e => by rw [← ltP, h1] at e; cases e
  have n2 : ¬ er l (y.val + 1) (x.val + 1) := fun e => by rw [← ltP, h2] at e; cases e
  unfold er at *
  omega
section
variable {α : Type} [Inhabited α] {enc : α → Value} {w : World} {g n : Nat} {os : Array Obj}
theorem holds_of_blk {cur : Array Value} {e : TypeId} {ss : List α} (hb : w.heap[g]? = some (.cells cur e (0, 0))) (ht : cur.toList.take ss.length = ss.map enc) : Holds enc w g 0 ss.toArray := by
  intro j hj
  have hj' : j < ss.length := by simpa using hj
  refine ⟨?_, by simp [World.frozen?, hb]⟩
  have h1 : (cur.toList.take ss.length)[j]? = (ss.map enc)[j]? := by rw [ht]
  rw [List.getElem?_take_of_lt hj'] at h1; simp only [World.cell?, hb, Nat.zero_add]; simp only [Option.isSome_none, Bool.false_eq_true, if_false]; rw [← Array.getElem?_toList, h1]
  simp [hj']
theorem heap_srt {cur : Array Value} {e : TypeId} {fr : Nat × Nat} (d : Array α) (hb : w.heap[g]? = some (.cells cur e fr)) :
    (grow (putRow enc (Sort.ahead w n) g 0 d) os).heap[g]? = some (.cells (putCells enc 0 d cur) e fr) := by
  have hg : g < w.heap.size := (Array.getElem?_eq_some_iff.1 hb).1; rw [heap_grow_old _ _ (by simpa using hg)]
  simp [putRow, mapBlock, Sort.ahead, Array.getElem?_modify, hb, onCells]
theorem grownBy_srt (d : Array α) : w.grownBy (grow (putRow enc (Sort.ahead w n) g 0 d) os) (some g) := by
  refine ⟨rfl, rfl, rfl, by simp, fun k hk hne => ?_⟩; rw [heap_grow_old _ _ (by simpa using hk)]
  have : g ≠ k := fun e => hne (by rw [e])
  simp [putRow, mapBlock, Sort.ahead, Array.getElem?_modify, this]
theorem take_putCellsP (cur : Array Value) (ts : List α) (h : ts.length ≤ cur.size) : (putCells enc 0 ts.toArray cur).toList.take ts.length = ts.map enc := by
  apply List.ext_getElem?
  intro j
  by_cases hj : j < ts.length
  · rw [List.getElem?_take_of_lt hj, Array.getElem?_toList]
    simp [putCells, hj, show j < cur.size by omega]
  · rw [List.getElem?_take_eq_none (by omega), List.getElem?_eq_none (by simp; omega)]
end
/-- What was there stays: blocks are laid behind, and it is drawn. -/
theorem grow_of {w w' : World} (h : Tam2.Bl w w') : ∃ q os, w' = grow (w.drewN q) os := by
  refine ⟨w'.drawn - w.drawn, w'.heap.extract w.heap.size w'.heap.size, ?_⟩; obtain ⟨⟨h1, h2, h3, h4, h5⟩, h6⟩ := h
  have hh : w.heap ++ w'.heap.extract w.heap.size w'.heap.size = w'.heap := by
    apply Array.ext_getElem?
    intro i; rw [Array.getElem?_append]
    split
    · rename_i hi
      rw [h5 i hi]
    · rename_i hi
      rw [Array.getElem?_extract]
      split
      · rw [Nat.add_sub_cancel' (by omega)]
      · rw [Array.getElem?_eq_none (by omega)]
  obtain ⟨heap, tape, drawn, os, output⟩ := w'; simp only at h1 h2 h3 h6 hh; subst h1 h2 h3; unfold grow World.drewN; simp only [hh]
  congr 1
  omega
/-- What rising answers. -/
def RsPost (l : List El) (w : World) (e : Ending) (w' : World) : Prop := ∃ u ps, e = .returned u ∧ w'.ownsRow w.heap.size 3 1 u l.length (iv ps) ∧ ps.Perm (plc l.length) ∧ ps.Pairwise (er l) ∧ Below w.heap.size w w'
/-- slices.SortFunc of the places. -/
theorem sortP (l : List El) (v : Value) (bl g cap : Nat) (w : World) (B : Nat) (h : EHas w v l) (hn : 0 < l.length) (hl : l.length ≤ 100) (cb : w.cell? ⟨bl, 0, none⟩ = some v) (hbl : bl < w.heap.size) (hbg : bl ≠ g) (hvg : ∀ a n c, v = .slice (some a) n c → a.block ≠ g)
    (ho : w.ownsRow B 3 1 (.slice (some ⟨g, 0, none⟩) l.length cap) l.length (iv (plc l.length))) :
    Calls Tryz.prog 90 #[.slice (some ⟨g, 0, none⟩) l.length cap, .func (.func 91) #[] #[.pointer (some ⟨bl, 0, none⟩)]] w (fun e w' => e = .returned (.tuple #[]) ∧ ∃ ps, w'.ownsRow B 3 1 (.slice (some ⟨g, 0, none⟩) l.length cap) l.length (iv ps) ∧ ps.Perm (plc l.length) ∧ ps.Pairwise (er l) ∧ w.grownBy w' (some g)) := by
  obtain ⟨g0, hg0⟩ : ∃ n, l.length = n + 1 := ⟨l.length - 1, by omega⟩; haveI : Inhabited (Fin l.length) := ⟨⟨0, hn⟩⟩; obtain ⟨h1, ⟨h0, _⟩ | ⟨g', cap', cur, h', hbg', hg, hnc, hcm, hcs, htk⟩⟩ := ho
  · cases h0
  simp only [Value.slice.injEq, Option.some.injEq, Addr.mk.injEq, and_true, true_and] at h'; obtain ⟨rfl, rfl⟩ := h'
  have hd : (List.finRange l.length).map (encP l.length) = iv (plc l.length) := by
    apply List.ext_getElem
    · simp [iv, plc]
    · intro i h1 h2
      simp [iv, plc, encP]
  have hdl : (List.finRange l.length).length = l.length := List.length_finRange; have hH : Holds (encP l.length) w g 0 (List.finRange l.length).toArray := holds_of_blk hg (by rw [hdl, hd, ← htk, Nat.mul_one]); obtain ⟨ys, hys, hS, hy⟩ := h
  have hyl : ys.length = l.length := by rw [← hys, List.length_map]
  obtain ⟨p0, c0, rfl⟩ := hS.slice; obtain ⟨g1, o, rfl, hrg⟩ := hS.at (by omega); have hg1 : g1 ≠ g := hvg _ _ _ rfl
  have tc : ∀ k, k < l.length → w.cell? ⟨g1, o + k * 9 + 3, none⟩ = some (.int .i64 (tmL l (k + 1))) := fun k hk => by
    have hky : k < ys.length := by omega
    have := hrg (k * 9 + 3) (.int .i64 (ys[k].1.t)) (rows_at El.len ys k hky 3 _ rfl)
    rw [← Nat.add_assoc] at this; rw [this, tmL_succ hk]; subst hys; rw [List.getElem_map]
  have hgl : g1 < w.heap.size := by
    have := tc 0 hn
    unfold World.cell? at this
    rcases Nat.lt_or_ge g1 w.heap.size with h | h
    · exact h
    · rw [Array.getElem?_eq_none h] at this
      cases this
  have hcmp : CmpLays1 Tryz.prog 91 #[.pointer (some ⟨bl, 0, none⟩)] (encP l.length) (cfP l) g 0 (List.finRange l.length).toArray.size w := fun m os dk _ x y => by
    have hgr : w.grownBy (sortWorld (encP l.length) w g 0 m dk os) (some g) := grownBy_srt dk
    have keep : ∀ b i u, b ≠ g → b < w.heap.size → w.cell? ⟨b, i, none⟩ = some u → (sortWorld (encP l.length) w g 0 m dk os).cell? ⟨b, i, none⟩ = some u := fun b i u hb hlt hc => by
      rw [World.cell?_of_block (hgr.block b hlt (by simpa using hb))]; exact hc
    refine (rising1_any (x.val + 1) (y.val + 1) bl g1 o l.length c0 (tmL l (x.val + 1)) (tmL l (y.val + 1)) _ ⟨by omega, x.isLt⟩ ⟨by omega, y.isLt⟩ hl (keep _ _ _ hbg hbl cb) (Nat.lt_of_lt_of_le hgl hgr.size) (keep _ _ _ hg1 hgl (tc x.val x.isLt)) (keep _ _ _ hg1 hgl (tc y.val y.isLt))).mono ?_; rintro e w' ⟨he, hb⟩; exact ⟨he, grow_of hb⟩
  have hgw : g < w.heap.size := (Array.getElem?_eq_some_iff.1 hg).1; have K := Any.slices_SortFunc_total sortL (encP l.length) (encP_one _) (cfP l) (swoP l) 91 #[.pointer (some ⟨bl, 0, none⟩)] g 0 cap (List.finRange l.length).toArray w (fun args w => Calm.enters_run (by kernel_rfl) args w) hcmp hH hgw (by simp; omega) totP; rw [show (List.finRange l.length).toArray.size = l.length by simp] at K; refine Calls.mono K ?_; rintro e w' ⟨he, m, os, rfl⟩; obtain ⟨ts, HT⟩ := hid_ex ((List.finRange l.length).mergeSort fun x y => !(ltOf (cfP l)) y x)
  have hp : ts.Perm (List.finRange l.length) := by rw [← HT.out]; exact List.mergeSort_perm _ _
  have hsrt : ts.Pairwise (fun a b => (!(ltOf (cfP l)) b a) = true) := by
    rw [← HT.out]; refine List.pairwise_mergeSort (fun a b c h1 h2 => ?_) (fun a b => ?_) _
    · simp only [Bool.not_eq_true'] at *
      exact (swoP l).ntrans _ _ _ h2 h1
    · cases k1 : ltOf (cfP l) b a
      · rfl
      · cases k2 : ltOf (cfP l) a b
        · rfl
        · have := (swoP l).trans _ _ _ k1 k2
          rw [(swoP l).irrefl] at this
          cases this
  have hnd : ts.Nodup := hp.nodup_iff.2 (List.nodup_finRange _)
  have htl : ts.length = l.length := by rw [hp.length_eq, hdl]
  have hmap : ts.map (encP l.length) = iv (ts.map (fun k => k.val + 1)) := by
    unfold iv encP; rw [List.map_map]
    rfl
  refine ⟨he, ts.map (fun k => k.val + 1), ?_, ?_, ?_, grownBy_srt _⟩
  · show World.ownsRow (grow (putRow (encP l.length) (Sort.ahead w m) g 0 ((List.finRange l.length).mergeSort fun x y => !(ltOf (cfP l)) y x).toArray) os) _ _ _ _ _ _
    rw [HT.out]
    exact ⟨by rw [iv_len, List.length_map, htl, Nat.mul_one], .inr ⟨g, cap, _, rfl, hbg', heap_srt _ hg, hnc, hcm, by simp [putCells]; omega, by
      have k := take_putCellsP (enc := encP l.length) cur ts (by rw [htl]; omega); rw [htl] at k
      rw [Nat.mul_one, k, hmap]⟩⟩
  · have := hp.map (fun k : Fin l.length => k.val + 1)
    rwa [show (List.finRange l.length).map (fun k : Fin l.length => k.val + 1) = plc l.length by
      apply List.ext_getElem
      · simp [plc]
      · intro i h1 h2
        simp [plc]] at this
  · rw [List.pairwise_map, List.pairwise_iff_getElem]
    intro i j hi hj hij; have a1 := (List.pairwise_iff_getElem.1 hsrt) i j hi hj hij; have a2 := (List.pairwise_iff_getElem.1 hnd) i j hi hj hij; simp only [Bool.not_eq_true'] at a1
    apply Classical.byContradiction
    intro hne
    have a3 : ltOf (cfP l) ts[i] ts[j] = false := by
      cases k : ltOf (cfP l) ts[i] ts[j]
      · rfl
      · exact absurd (ltP _ _ |>.1 k) hne
    exact a2 (totP _ _ a3 a1)
theorem own_none (w : World) (B e S : Nat) : w.ownsRow B e S (.slice none 0 0) 0 [] := ⟨by simp, .inl ⟨rfl, rfl⟩⟩
set_option maxHeartbeats 2000000 in
set_option maxRecDepth 100000 in
theorem rising_any (v : Value) (l : List El) (w : World) (h : EHas w v l) (hl : l.length ≤ 100) : Calls Tryz.prog 82 #[v] w (RsPost l w) := by
  obtain ⟨p, c, rfl⟩ := h.slice; have hbA := bel_alloc (Below.refl w.heap.size w) (.cells #[.slice p l.length c] 25); have R := rw_new w 25 #[.slice p l.length c]
  have hsz : (w.alloc (.cells #[.slice p l.length c] 25)).heap.size = w.heap.size + 1 := by simp
  have HE : Hid (EHas (w.alloc (.cells #[.slice p l.length c] 25)) (.slice p l.length c) l) := h.later hbA
  have HG : Hid (∀ a n c', Value.slice p l.length c = .slice (some a) n c' → 0 < l.length → a.block < w.heap.size) := fun a n c' e hn => by
    obtain ⟨ys, hys, hS, _⟩ := h; obtain ⟨g, o, e1, hd⟩ := hS.at hn
    have hy : 0 < ys.length := by rw [← hys, List.length_map] at hn; exact hn
    have hc := hd 0 _ (rows_at El.len ys 0 hy 0 _ rfl); rw [e1] at e; simp only [Value.slice.injEq, Option.some.injEq] at e; rw [← e.1]; unfold World.cell? at hc
    rcases Nat.lt_or_ge g w.heap.size with h | h
    · exact h
    · simp only at hc
      rw [Array.getElem?_eq_none h] at hc
      cases hc
  obtain ⟨i0, hi, hz0, hz1, hz2⟩ := info_parts info3; have cl : (w.alloc (.cells #[.slice p l.length c] 25)).cell? ⟨w.heap.size, 0, none⟩ = some (.slice p l.length c) := R.cell 0; generalize hW : w.alloc (.cells #[.slice p l.length c] 25) = w0 at hbA R hsz HE cl; clear h
  go_enter Tryz.func82, Tryz.ntmps82
  go_wp2_with (first | rw [hW])
  clear hW cl
  go_loopw [3, 7] (fun vs vi wr => ∃ k : Nat, vi = .int .i64 k ∧ k ≤ l.length ∧ wr.ownsRow (w.heap.size + 1) 3 1 vs k (iv (plc k)) ∧ Below w0.heap.size w0 wr) (fun _ vi _ => l.length - (intOf vi).toNat)
  case atStart => exact ⟨0, rfl, by omega, own_none _ _ _ _, Below.refl _ _⟩
  case round =>
    obtain ⟨k, rfl, hk, ho, hbel⟩ := hrel; obtain ⟨q, d, rfl⟩ := own_sl ho
    by_cases hlt : k < l.length
    · have hlt' : (k : Int) < (l.length : Int) := by omega
      have w3 : IntKind.i64.wrap ((k : Int) + 1) = ((k : Int) + 1) := by rw [IntKind.wrap_i64]; omega
      have hB : w.heap.size + 1 ≤ wr.heap.size := by have := hbel.size; omega
      have hbn := bel_alloc (Below.refl wr.heap.size wr) (.cells #[.int .i64 ((k : Int) + 1)] 3); have ho1 := own_later ho hbn; have hB1 := Nat.le_trans hB hbn.size
      have HC : Hid (∀ j u, [Value.int .i64 ((k : Int) + 1)][j]? = some u → (wr.alloc (.cells #[.int .i64 ((k : Int) + 1)] 3)).cell? ((⟨wr.heap.size, 0, none⟩ : Addr).add j) = some u) := fun j u hu => by
        have Rn := rw_new wr 3 #[.int .i64 ((k : Int) + 1)]
        match j, hu with
        | 0, hu => exact (Rn.cell 0).trans hu
        | j + 1, hu => simp at hu
      have hm1 : k + 1 ≤ maxLen := by simp [maxLen]; omega
      have hm2 : (k + 1) * 8 ≤ 140737488355328 := by omega
      generalize hWn : wr.alloc (.cells #[.int .i64 ((k : Int) + 1)] 3) = wn at hbn ho1 hB1 HC
      go_wp2_with (first | rw [hWn] | (at_builtin; refine wpList_append_own _ rfl _ _ 87 rfl (w.heap.size + 1) 3 i0 (.int .i64 0) 1 8 Tryz.underlying87 hi hz0 hz1 hz2 rfl (by decide) _ _ _ rfl ho1 ⟨wr.heap.size, 0, none⟩ 1 1 [.int .i64 ((k : Int) + 1)] rfl rfl HC.out (by simp [Value.oneCell']) hm1 hm2 hB1 ?_))
      intro v2 w2 ho2 hg2 _; have hg3 : Below (w.heap.size + 1) wn w2 := (Below.refl _ wn).grown hg2 hB1 (fun q hq => (World.ownsRow.lt ho1 q hq).1); have hb2 : Below w0.heap.size w0 w2 := (below_on hbel hbn).trans (by rw [hsz]; exact hg3); obtain ⟨q2, d2, rfl⟩ := own_sl ho2
      have ho3 : w2.ownsRow (w.heap.size + 1) 3 1 (.slice q2 (k + 1) d2) (k + 1) (iv (plc (k + 1))) := by
        rw [plc_succ]; unfold iv; rw [List.map_append]; exact ho2
      clear ho2 hg2 hg3 HC ho1 hbn hWn; go_wp2_with fail; go_roundw
      case rel => exact ⟨k + 1, by simp, by omega, ho3, hb2⟩
      case measure => simp [intOf]; omega
    · have hlt' : ¬ (k : Int) < (l.length : Int) := by omega
      obtain rfl : k = l.length := by omega
      have hb0 := below_on hbA hbel
      rcases Nat.eq_zero_or_pos l.length with hz | hpos
      · have HF : Hid (∀ w', w' = wr → RsPost l w (.returned (.slice q l.length d)) w') := fun w' e => by
          subst e; refine ⟨_, [], rfl, ?_, ?_, List.Pairwise.nil, hb0⟩
          · have := own_mono ho (show w.heap.size ≤ w.heap.size + 1 by omega)
            rw [hz] at this ⊢; exact this
          · rw [hz]
            exact List.Perm.refl _
        have K : Calls Tryz.prog 90 #[.slice q l.length d, .func (.func 91) #[] #[.pointer (some ⟨w.heap.size, 0, none⟩)]] wr fun e w' => e = .returned (.tuple #[]) ∧ w' = wr := by
          rw [hz]; exact AnyF.slices_SortFunc_none (P := Tryz.prog) (ρ := sortL_ren) { sortL with } q d (.func (.func 91) #[] #[.pointer (some ⟨w.heap.size, 0, none⟩)]) wr
        clear ho hz; go_wp2_with fail; refine K.mono ?_; rintro e w' ⟨rfl, rfl⟩; go_wp2_with fail; go_ret; exact HF.out _ rfl
      · obtain ⟨g, rfl, hBg⟩ := own_some ho hpos
        have hgl := (own_ge ho).2; have K := sortP l _ w.heap.size g d wr (w.heap.size + 1) (HE.out.later hbel) hpos hl ((R.later hbel).cell 0) (by have := hbel.size; omega) (by omega) (fun a n c' e => by have := HG.out a n c' e hpos; omega) ho; go_wp2_with fail; refine K.mono ?_; clear K; rintro e w' ⟨rfl, ps, ho', hpm, hps, hgr⟩; have HF : Hid (RsPost l w (.returned (.slice (some ⟨g, 0, none⟩) l.length d)) w') := ⟨_, ps, rfl, own_mono ho' (by omega), hpm, hps, hb0.grown hgr (by have := hbel.size; omega) (fun q hq => by cases hq; omega)⟩; clear ho' hpm hps hgr ho; go_wp2_with fail; go_ret; exact HF.out
end Go.Proofs.YtfjpbmdmkcihcaaGreat
/- slices.Insert of one mark into a row that the call made. -/
namespace Go.Proofs.YtfjpbmdmkcihcaaGreat
open Go.RowKit

/-- copy of elements of S cells, into a row. -/
theorem run_copy_rowS {P : Program} (w : World) (dT sT ty elem : TypeId) (g o dLen dCap : Nat) (a : Addr) (sLen sCap : Nat) (cur : Array Value) (t : TypeId) (cs : List Value) (S k : Nat)
    (hu : P.underlying dT = some (.slice elem)) (hs : (P.info? elem).map (·.size) = some S)
    (hg : w.heap[g]? = some (.cells cur t (0, 0))) (hk : Nat.min sLen dLen = k) (hn : cs.length = k * S)
    (hsrc : ∀ j v, cs[j]? = some v → w.cell? (a.add j) = some v) (hfit : o + cs.length ≤ cur.size) (h1 : ∀ v ∈ cs, v.oneCell' = true) :
    (Builtin.copy_ #[dT, sT] ty #[.slice (some ⟨g, o, none⟩) dLen dCap, .slice (some a) sLen sCap]).run P w =
      .ok (goInt k) (w.setRow g (cur.toList.take o ++ cs ++ cur.toList.drop (o + cs.length)).toArray) := by
  have hl := run_loadCells_list (P := P) w a cs hsrc; have hst := run_storeCells_at P g o t cs 0 cur w hg (by simpa using hfit) h1
  cases hq : P.info? elem with
  | none => simp [hq] at hs
  | some i =>
    have hi : i.size = S := by simpa [hq] using hs
    simp [Builtin.copy_, run_underlying hu, Builtin.lenOf, Builtin.firstCells, sizeOf, typeInfo, hq, hi, hk, ← hn, hl, hst]
/-- All that was there stays, but for one block. -/
def Kp (o : Option Nat) (w w' : World) : Prop := ∀ b, b < w.heap.size → o ≠ some b → w'.heap[b]? = w.heap[b]?
theorem Kp.on {o : Option Nat} {w w1 w2 : World} (h : Kp o w w1) (hs : w.heap.size ≤ w1.heap.size) (hb : Below w1.heap.size w1 w2) : Kp o w w2 := fun b h1 h2 => (hb.block b (by omega)).trans (h b h1 h2)
theorem Kp.row {g : Nat} {w w1 : World} (h : Kp (some g) w w1) (cs : Array Value) : Kp (some g) w (w1.setRow g cs) := fun b h1 h2 => (setRow_other w1 g b cs (fun e => h2 (by rw [e]))).trans (h b h1 h2)
/-- What Insert answers: a row of its own. -/
def InPost (B : Nat) (v : Value) (n : Nat) (xs : List Value) (w : World) (e : Ending) (w' : World) : Prop := ∃ u, e = .returned u ∧ w'.ownsRow B 36 3 u n xs ∧ Kp v.ownBlock w w' ∧ (∀ k, u.ownBlock = some k → v.ownBlock = some k ∨ w.heap.size ≤ k) ∧ Below B w w'

set_option maxHeartbeats 2000000 in
set_option maxRecDepth 100000 in
theorem insert_end (B : Nat) (p : Option Addr) (n c : Nat) (xs : List Value) (vb : Nat) (x : M) (w : World) (hown : w.ownsRow B 36 3 (.slice p n c) n xs) (hn : n ≤ 100) (hB : B ≤ w.heap.size) (R : Rw w vb 36 x.cells.toArray) :
    Calls Tryz.prog 80 #[.slice p n c, .int .i64 n, .slice (some ⟨vb, 0, none⟩) 1 1] w (InPost B (.slice p n c) (n + 1) (xs ++ x.cells) w) := by
  obtain ⟨i0, hi, hz0, hz1, hz2⟩ := info_parts info36
  have hc1 : ∀ j u, x.cells[j]? = some u → w.cell? ((⟨vb, 0, none⟩ : Addr).add j) = some u := fun j u hu => by
    rw [Addr.add_mid]; exact Rw.whole R j u hu
  have HC : Hid (∀ j u, x.cells[j]? = some u → w.cell? ((⟨vb, 0, none⟩ : Addr).add j) = some u) := hc1
  have hnc : (n : Int) ≤ (c : Int) := by
    rcases hown.2 with ⟨h, h0⟩ | ⟨g, cap, cur, h, _, _, h2, _⟩
    · simp only [Value.slice.injEq] at h
      omega
    · simp only [Value.slice.injEq] at h
      omega
  clear hc1 R
  have hm1 : n + 1 ≤ maxLen := by unfold maxLen; omega
  have hm2 : (n + 1) * 24 ≤ 140737488355328 := by omega
  have HL : Hid (∀ q, (Value.slice p n c).ownBlock = some q → B ≤ q) := fun q hq => (hown.lt q hq).1
  by_cases hcn : c = n
  all_goals
    go_enter Tryz.func80, Tryz.ntmps80
    go_wp2_with (first | (at_builtin; refine wpList_append_own_at _ rfl _ _ 46 rfl B 36 i0 (MV 0 0 0) 3 24 Tryz.underlying46 hi hz0 hz1 hz2 rfl (by decide) _ _ _ rfl hown ⟨vb, 0, none⟩ 1 1 x.cells rfl rfl HC.out x.one hm1 hm2 hB ?_))
    intro v2 w2 hown2 hg2 _ hat
    have HAT : Hid (∀ k, v2.ownBlock = some k → (Value.slice p n c).ownBlock = some k ∨ w.heap.size ≤ k) := fun k hk => hat.elim (fun e => .inl (by rw [← hk, e]; first | done | (cases p <;> rfl))) (fun e => .inr (Nat.le_of_eq (Option.some.inj (e.symm.trans hk))))
    clear hat; go_wp2_with fail; go_ret; exact ⟨_, rfl, hown2, (fun b h1 h2 => hg2.block b h1 (fun e => h2 (by rw [e]; first | done | (cases p <;> rfl)))), HAT.out, (Below.refl _ _).grown hg2 hB (fun q hq => HL.out q (by cases p <;> exact hq))⟩
set_option maxRecDepth 100000 in
theorem f66_extern (w : World) (vb g o lb cb k : Nat) (hne : vb ≠ g) {tA tB : TypeId} {c1 c2 : Array Value} (R : Rw w vb tA c1) (R2 : Rw w g tB c2) (hk : c2.size = k + 1) : (callFunc 88 #[.slice (some ⟨vb, 0, none⟩) 1 1, .slice (some ⟨g, o, none⟩) lb cb]).run Tryz.prog w = .ok (.value (.bool false)) w := by
  rw [run_callFunc_extern Tryz.func88 (by kernel_rfl) (by kernel_rfl) (by kernel_rfl) (e := Extern.SlicesOverlaps.overlaps #[46, 46] #[4]) (by kernel_rfl),
    Lib.run_overlaps_apart w 46 4 36 Tryz.underlying46 3 (fun w => by rfl) ⟨vb, 0, none⟩ ⟨g, o, none⟩ 1 1 lb cb hne tA tB c1.size c2.size (by unfold World.shape?; rw [show w.heap[vb]? = _ from R]) (by unfold World.shape?; rw [show w.heap[g]? = _ from R2]) (by omega) (R.frozen _) (R.frozen _)]
  rfl
/-- Put in at a place. -/
def put3 (xs ys : List Value) (i : Nat) : List Value := xs.take (i * 3) ++ ys ++ xs.drop (i * 3)
theorem put3_length (xs ys : List Value) (i : Nat) : (put3 xs ys i).length = xs.length + ys.length := by
  simp [put3]
  omega
theorem shift_list (cur xs ys : List Value) (n i : Nat) (hi : i < n) (hl : xs.length = n * 3) (hy : ys.length = 3) (hc : (n + 1) * 3 ≤ cur.length) (ht : cur.take (n * 3) = xs) (c1 : List Value) (h1 : c1 = cur.take ((i + 1) * 3) ++ xs.drop (i * 3) ++ cur.drop ((i + 1) * 3 + (xs.drop (i * 3)).length)) :
    (c1.take (i * 3) ++ ys ++ c1.drop (i * 3 + ys.length)).take ((n + 1) * 3) = xs.take (i * 3) ++ ys ++ xs.drop (i * 3) := by
  have hk : (cur.take ((i + 1) * 3)).length = (i + 1) * 3 := by rw [List.length_take]; omega
  have e1 : c1.take (i * 3) = xs.take (i * 3) := by
    rw [h1, List.append_assoc, List.take_append_of_le_length (by omega), List.take_take, Nat.min_eq_left (by omega), ← ht, List.take_take, Nat.min_eq_left (by omega)]
  have e2 : c1.drop (i * 3 + ys.length) = xs.drop (i * 3) ++ cur.drop ((i + 1) * 3 + (xs.drop (i * 3)).length) := by
    rw [h1, List.append_assoc, List.drop_left' (by rw [hk, hy]; omega)]
  rw [e1, e2, ← List.append_assoc, List.take_left']; simp only [List.length_append, List.length_take, List.length_drop, hy, hl]
  omega
set_option maxHeartbeats 2000000 in
set_option maxRecDepth 100000 in
theorem insert_shift (B g n c i : Nat) (xs : List Value) (vb : Nat) (x : M) (w : World) (hown : w.ownsRow B 36 3 (.slice (some ⟨g, 0, none⟩) n c) n xs) (hi : i < n) (hc : n + 1 ≤ c) (hn : n ≤ 100) (hvb : vb ≠ g) (h1 : ∀ u ∈ xs, u.oneCell' = true) (R : Rw w vb 36 x.cells.toArray) :
    Calls Tryz.prog 80 #[.slice (some ⟨g, 0, none⟩) n c, .int .i64 i, .slice (some ⟨vb, 0, none⟩) 1 1] w (InPost B (.slice (some ⟨g, 0, none⟩) n c) (n + 1) (put3 xs x.cells i) w) := by
  obtain ⟨hxl, ⟨h0, _⟩ | ⟨g', cap, cur, h0, hBg, hg, hnc, hcm, hcs, htake⟩⟩ := hown
  · simp at h0
  simp only [Value.slice.injEq, Option.some.injEq, Addr.mk.injEq, and_true, true_and] at h0; obtain ⟨rfl, rfl⟩ := h0
  have hov : ∀ lb cb, (callFunc 88 #[.slice (some ⟨vb, 0, none⟩) 1 1, .slice (some ⟨g, (i + 1) * 3, none⟩) lb cb]).run Tryz.prog w = .ok (.value (.bool false)) w := fun lb cb => f66_extern w vb g _ lb cb (cur.size - 1) hvb R hg (by omega)
  have hsrc : ∀ j v, (xs.drop (i * 3))[j]? = some v → w.drew.cell? ((⟨g, i * 3, none⟩ : Addr).add j) = some v := fun j v hv => by
    rw [Addr.add_mid]
    show w.cell? _ = _
    rw [cell_of_row w g _ cur 36 (0, 0) hg]; rw [List.getElem?_drop] at hv; have hlt := (List.getElem?_eq_some_iff.1 hv).1; rw [← htake, List.getElem?_take, if_pos (by omega)] at hv
    simpa using hv
  have hcp1 : ∀ ty dc sc, (Builtin.copy_ #[46, 46] ty #[.slice (some ⟨g, (i + 1) * 3, none⟩) (n - i) dc, .slice (some ⟨g, i * 3, none⟩) (n + 1 - i) sc]).run Tryz.prog w.drew = .ok (goInt ((n - i : Nat) : Int)) (w.drew.setRow g (cur.toList.take ((i + 1) * 3) ++ xs.drop (i * 3) ++ cur.toList.drop ((i + 1) * 3 + (xs.drop (i * 3)).length)).toArray) := fun ty dc sc =>
    run_copy_rowS w.drew 46 46 ty 36 g ((i + 1) * 3) (n - i) dc ⟨g, i * 3, none⟩ (n + 1 - i) sc cur 36 (xs.drop (i * 3)) 3 (n - i) Tryz.underlying46 size36 hg (by simp only [Nat.min_def]; split <;> omega) (by rw [List.length_drop]; omega) hsrc (by rw [List.length_drop]; omega) (fun v hv => h1 v (List.mem_of_mem_drop hv))
  obtain ⟨cur1, HC1⟩ := hid_ex (cur.toList.take ((i + 1) * 3) ++ xs.drop (i * 3) ++ cur.toList.drop ((i + 1) * 3 + (xs.drop (i * 3)).length)).toArray
  have hl1 : cur1.size = cur.size := by
    rw [← HC1.out]
    simp
    omega
  rw [HC1.out] at hcp1; have hg1 : (w.drew.setRow g cur1).heap[g]? = some (.cells cur1 36 (0, 0)) := setRow_heap w.drew g cur cur1 36 (0, 0) hg
  have hsrc2 : ∀ j v, x.cells[j]? = some v → (w.drew.setRow g cur1).cell? ((⟨vb, 0, none⟩ : Addr).add j) = some v := fun j v hv => by
    rw [Addr.add_mid, World.cell?_of_block (w := w) (setRow_other w.drew g vb cur1 hvb)]; exact Rw.whole R j v hv
  have hcp2 : ∀ (W : World), W.heap = (w.drew.setRow g cur1).heap → ∀ ty dc, (Builtin.copy_ #[46, 46] ty #[.slice (some ⟨g, i * 3, none⟩) (n + 1 - i) dc, .slice (some ⟨vb, 0, none⟩) 1 1]).run Tryz.prog W = .ok (goInt 1) (W.setRow g (cur1.toList.take (i * 3) ++ x.cells ++ cur1.toList.drop (i * 3 + x.cells.length)).toArray) := fun W hW ty dc =>
    run_copy_rowS W 46 46 ty 36 g (i * 3) (n + 1 - i) dc ⟨vb, 0, none⟩ 1 1 cur1 36 x.cells 3 1 Tryz.underlying46 size36 (by rw [hW]; exact hg1) (by simp only [Nat.min_def]; split <;> omega) rfl (fun j v hv => by rw [World.cell?_of_block (w := w.drew.setRow g cur1) (by rw [hW])]; exact hsrc2 j v hv) (by rw [M.len]; omega) x.one
  have hw1 : IntKind.i64.wrap ((i : Int) + 1) = (i : Int) + 1 := by rw [IntKind.wrap_i64]; omega
  have hz2 : ¬ ((i : Int) = (n : Int)) := by omega
  have hb1 : (0 : Int) ≤ (i : Int) + 1 := by omega
  have htn : ((i : Int) + 1).toNat = i + 1 := by omega
  have hb2 : ¬ (c = i + 1) := by omega
  have hb3 : (i : Int) ≤ (n : Int) + 1 := by omega
  have hb4 : ¬ (c = i) := by omega
  have hin : i ≤ n := by omega
  have mixed : Tryz.prog.follows .mixedOrders = true := by kernel_rfl
  go_enter Tryz.func80, Tryz.ntmps80
  go_wp2_with (simp only [hov])
  go_region_law_o (refine step_copy_runI rfl _ _ 46 46 rfl _ _ (by simp [Act.eval, Act.put]) (by simp [Act.eval, Act.put]) (hcp1 _ _ _) ?_)
  go_wp2_with (at_builtin; refine wpList_copy_runI _ rfl _ _ 46 46 rfl _ _ rfl rfl (hcp2 _ rfl _ _) ?_)
  go_ret; refine ⟨_, rfl, ⟨?_, .inr ⟨g, c, _, rfl, hBg, setRow_heap _ g cur1 _ 36 (0, 0) hg1, hc, hcm, ?_, ?_⟩⟩, Kp.row (Kp.row (fun _ _ _ => rfl) _) _, (fun k hk => .inl hk), below_setRow (below_setRow (Below.refl B w).drew hBg _) hBg _⟩
  · rw [put3_length, hxl, M.len]
    omega
  · simp only [List.size_toArray, List.length_append, List.length_take, List.length_cons, List.length_drop, Array.length_toList]
    omega
  · have := shift_list cur.toList xs x.cells n i hi hxl rfl (by rw [Array.length_toList]; omega) htake cur1.toList (by rw [← HC1.out])
    rw [List.append_assoc] at this; exact this
theorem grow_list (xs ys z1 z2 : List Value) (n i : Nat) (hi : i < n) (hl : xs.length = n * 3) (hy : ys.length = 3) (hz : z1.length = (n + 1 - i) * 3) (r1 r2 : List Value) (h1 : r1 = (xs.take (i * 3) ++ z1 ++ z2).take (i * 3) ++ ys ++ (xs.take (i * 3) ++ z1 ++ z2).drop (i * 3 + ys.length))
    (h2 : r2 = r1.take ((i + 1) * 3) ++ xs.drop (i * 3) ++ r1.drop ((i + 1) * 3 + (xs.drop (i * 3)).length)) : r2.take ((n + 1) * 3) = xs.take (i * 3) ++ ys ++ xs.drop (i * 3) ∧ r2.length = xs.length + 3 + z2.length := by
  have hk : (xs.take (i * 3)).length = i * 3 := by rw [List.length_take]; omega
  have e1 : (xs.take (i * 3) ++ z1 ++ z2).take (i * 3) = xs.take (i * 3) := by
    rw [List.append_assoc, List.take_left' hk]
  have e2 : r1.take ((i + 1) * 3) = xs.take (i * 3) ++ ys := by
    rw [h1, e1, List.take_left' (by rw [List.length_append, hk, hy]; omega)]
  refine ⟨?_, ?_⟩
  · rw [h2, e2, List.take_left']
    simp only [List.length_append, List.length_take, List.length_drop, hy, hl]
    omega
  · rw [h2, e2, h1, e1]
    simp only [List.length_append, List.length_take, List.length_drop, hy, hl, hz]
    omega
set_option maxHeartbeats 2000000 in
set_option maxRecDepth 100000 in
theorem insert_grow (B g n c i : Nat) (xs : List Value) (vb : Nat) (x : M) (w : World) (hown : w.ownsRow B 36 3 (.slice (some ⟨g, 0, none⟩) n c) n xs) (hi : i < n) (hc : c < n + 1) (hn : n ≤ 100) (h1 : ∀ u ∈ xs, u.oneCell' = true) (hB : B ≤ w.heap.size) (R : Rw w vb 36 x.cells.toArray) :
    Calls Tryz.prog 80 #[.slice (some ⟨g, 0, none⟩) n c, .int .i64 i, .slice (some ⟨vb, 0, none⟩) 1 1] w (InPost B (.slice (some ⟨g, 0, none⟩) n c) (n + 1) (put3 xs x.cells i) w) := by
  obtain ⟨i0, hi0, hz0, hz1, hz2⟩ := info_parts info36; obtain ⟨hxl, ⟨h0, _⟩ | ⟨g', cap, cur, h0, hBg, hg, hnc, hcm, hcs, htake⟩⟩ := hown
  · simp at h0
  simp only [Value.slice.injEq, Option.some.injEq, Addr.mk.injEq, and_true, true_and] at h0; obtain ⟨rfl, rfl⟩ := h0
  have hcell : ∀ j v, xs[j]? = some v → w.cell? ⟨g, j, none⟩ = some v := fun j v hv => by
    rw [cell_of_row w g _ cur 36 (0, 0) hg]; have hlt := (List.getElem?_eq_some_iff.1 hv).1; rw [← htake, List.getElem?_take, if_pos (by omega)] at hv
    simpa using hv
  have hold : (Builtin.firstCells i0.size i (.slice (some ⟨g, 0, none⟩) i c)).run Tryz.prog w.drew = .ok (xs.take (i * 3)).toArray w.drew := by
    rw [hz1]
    exact run_firstCells_some w.drew 3 i ⟨g, 0, none⟩ i c (xs.take (i * 3)) (by rw [List.length_take]; omega) (fun j v hj => by
      rw [Addr.add_mid, Nat.zero_add]; rw [List.getElem?_take] at hj
      split at hj
      · exact hcell j v hj
      · cases hj)
  have hrz : ∀ ty, (Builtin.append_ #[46, 3] ty #[.slice (some ⟨g, 0, none⟩) i c, .int .i64 ((n : Int) + 1 - (i : Int))]).run Tryz.prog w =
      .ok (.slice (some ⟨w.heap.size, 0, none⟩) (n + 1) (grownCap w (n + 1) c 36)) (w.drew.alloc (.cells ((xs.take (i * 3)).toArray ++ Builtin.zeroCells (MV 0 0 0).cells (n + 1 - i) ++ Builtin.zeroCells (MV 0 0 0).cells (grownCap w (n + 1) c 36 - (n + 1))) 36)) := fun ty => by
    have h := Lib.run_append_grow_zeros w 46 3 ty 36 i0 _ .i64 .i64 Tryz.underlying46 Tryz.underlying3 hi0 hz0 (some ⟨g, 0, none⟩) i c (xs.take (i * 3)) hold (n + 1 - i) (by omega) (by omega) (by omega) (by omega) (by rw [hz2]; omega) (by rw [hz2, show i + (n + 1 - i) = n + 1 by omega]; exact growslice_fits hc (by omega)); rw [show i + (n + 1 - i) = n + 1 by omega] at h; rw [show (n : Int) + 1 - (i : Int) = ((n + 1 - i : Nat) : Int) by omega]; exact h
  obtain ⟨G, HG⟩ := hid_ex (grownCap w (n + 1) c 36)
  have hGn : n + 1 ≤ G := by rw [← HG.out]; exact grownCap_ge w _ _ _
  have hGm : G ≤ maxLen := by rw [← HG.out]; exact grownCap_le_maxLen w (n + 1) c 36 (by unfold maxLen; omega)
  have hG63 : G ≤ 9223372036854775807 := by unfold maxLen at hGm; omega
  rw [HG.out] at hrz; obtain ⟨z1, hz1'⟩ : ∃ z1 : List Value, z1 = (Builtin.zeroCells (MV 0 0 0).cells (n + 1 - i)).toList := ⟨_, rfl⟩; obtain ⟨z2, hz2'⟩ : ∃ z2 : List Value, z2 = (Builtin.zeroCells (MV 0 0 0).cells (G - (n + 1))).toList := ⟨_, rfl⟩
  have hzl1 : z1.length = (n + 1 - i) * 3 := by rw [hz1']; simp [Builtin.zeroCells, Value.cells]
  have hzl2 : z2.length = (G - (n + 1)) * 3 := by rw [hz2']; simp [Builtin.zeroCells, Value.cells]
  obtain ⟨row, hrow⟩ : ∃ row : Array Value, row = (xs.take (i * 3)).toArray ++ Builtin.zeroCells (MV 0 0 0).cells (n + 1 - i) ++ Builtin.zeroCells (MV 0 0 0).cells (G - (n + 1)) := ⟨_, rfl⟩; rw [← hrow] at hrz
  have hrl : row.toList = xs.take (i * 3) ++ z1 ++ z2 := by rw [hrow, hz1', hz2']; simp
  have hrs : row.size = G * 3 := by
    rw [← Array.length_toList, hrl]; simp only [List.length_append, List.length_take, hzl1, hzl2]
    omega
  clear hrow hz1' hz2'; have hgw : g < w.heap.size := (Array.getElem?_eq_some_iff.1 hg).1; have hvw : vb < w.heap.size := R.lt
  have hsrcA : ∀ j v, x.cells[j]? = some v → (w.drew.alloc (.cells row 36)).cell? ((⟨vb, 0, none⟩ : Addr).add j) = some v := fun j v hv => by
    rw [Addr.add_mid, World.cell?_of_block (w := w) (Below.heap_alloc w.drew _ vb hvw)]; exact Rw.whole R j v hv
  have hgN : (w.drew.alloc (.cells row 36)).heap[w.heap.size]? = some (.cells row 36 (0, 0)) := heap_alloc_last w.drew _
  have hcpA : ∀ (W : World), W.heap = (w.drew.alloc (.cells row 36)).heap → ∀ ty dc, (Builtin.copy_ #[46, 46] ty #[.slice (some ⟨w.heap.size, i * 3, none⟩) (n + 1 - i) dc, .slice (some ⟨vb, 0, none⟩) 1 1]).run Tryz.prog W = .ok (goInt 1) (W.setRow w.heap.size (row.toList.take (i * 3) ++ x.cells ++ row.toList.drop (i * 3 + x.cells.length)).toArray) := fun W hW ty dc =>
    run_copy_rowS W 46 46 ty 36 w.heap.size (i * 3) (n + 1 - i) dc ⟨vb, 0, none⟩ 1 1 row 36 x.cells 3 1 Tryz.underlying46 size36 (by rw [hW]; exact hgN) (by simp only [Nat.min_def]; split <;> omega) rfl (fun j v hv => by rw [World.cell?_of_block (w := w.drew.alloc (.cells row 36)) (by rw [hW])]; exact hsrcA j v hv) (by rw [M.len]; omega) x.one
  obtain ⟨r1, HR1⟩ := hid_ex (row.toList.take (i * 3) ++ x.cells ++ row.toList.drop (i * 3 + x.cells.length)).toArray; rw [HR1.out] at hcpA
  have hr1s : r1.size = G * 3 := by
    rw [← HR1.out]; simp only [List.size_toArray, List.length_append, List.length_take, List.length_drop, Array.length_toList, M.len, hrs]
    omega
  have hg1 : ((w.drew.alloc (.cells row 36)).setRow w.heap.size r1).heap[w.heap.size]? = some (.cells r1 36 (0, 0)) := setRow_heap _ _ row r1 36 (0, 0) hgN
  have hsrcB : ∀ j v, (xs.drop (i * 3))[j]? = some v → ((w.drew.alloc (.cells row 36)).setRow w.heap.size r1).cell? ((⟨g, i * 3, none⟩ : Addr).add j) = some v := fun j v hv => by
    rw [Addr.add_mid, World.cell?_of_block (w := w) ((setRow_other _ w.heap.size g r1 (by omega)).trans (Below.heap_alloc w.drew _ g hgw))]; rw [List.getElem?_drop] at hv; exact hcell _ v hv
  have hcpB : ∀ (W : World), W.heap = ((w.drew.alloc (.cells row 36)).setRow w.heap.size r1).heap → ∀ ty dc sc, (Builtin.copy_ #[46, 46] ty #[.slice (some ⟨w.heap.size, (i + 1) * 3, none⟩) (n - i) dc, .slice (some ⟨g, i * 3, none⟩) (n - i) sc]).run Tryz.prog W = .ok (goInt ((n - i : Nat) : Int)) (W.setRow w.heap.size (r1.toList.take ((i + 1) * 3) ++ xs.drop (i * 3) ++ r1.toList.drop ((i + 1) * 3 + (xs.drop (i * 3)).length)).toArray) := fun W hW ty dc sc =>
    run_copy_rowS W 46 46 ty 36 w.heap.size ((i + 1) * 3) (n - i) dc ⟨g, i * 3, none⟩ (n - i) sc r1 36 (xs.drop (i * 3)) 3 (n - i) Tryz.underlying46 size36 (by rw [hW]; exact hg1) (Nat.min_self _) (by rw [List.length_drop]; omega) (fun j v hv => by rw [World.cell?_of_block (w := (w.drew.alloc (.cells row 36)).setRow w.heap.size r1) (by rw [hW])]; exact hsrcB j v hv) (by rw [List.length_drop]; omega) (fun v hv => h1 v (List.mem_of_mem_drop hv))
  obtain ⟨r2, HR2⟩ := hid_ex (r1.toList.take ((i + 1) * 3) ++ xs.drop (i * 3) ++ r1.toList.drop ((i + 1) * 3 + (xs.drop (i * 3)).length)).toArray; rw [HR2.out] at hcpB; have hfin := grow_list xs x.cells z1 z2 n i hi hxl rfl hzl1 r1.toList r2.toList (by rw [← HR1.out, hrl]) (by rw [← HR2.out]); have HFI : Hid (r2.toList.take ((n + 1) * 3) = put3 xs x.cells i ∧ r2.size = G * 3) := ⟨hfin.1, by rw [← Array.length_toList, hfin.2]; omega⟩; have hg2 : (((w.drew.alloc (.cells row 36)).setRow w.heap.size r1).setRow w.heap.size r2).heap[w.heap.size]? = some (.cells r2 36 (0, 0)) := setRow_heap _ _ r1 r2 36 (0, 0) hg1
  have hw1 : IntKind.i64.wrap ((i : Int) + 1) = (i : Int) + 1 := by rw [IntKind.wrap_i64]; omega
  have hz2i : ¬ ((i : Int) = (n : Int)) := by omega
  have hz3 : (c : Int) < (n : Int) + 1 := by omega
  have hb1 : (0 : Int) ≤ (i : Int) + 1 := by omega
  have htn : ((i : Int) + 1).toNat = i + 1 := by omega
  have hb3 : (i : Int) ≤ (n : Int) := by omega
  have hci : ¬ (c = i) := by omega
  have hGi : ¬ (G = i) := by omega
  have hGim : ¬ (G = i + 1) := by omega
  have hin : i ≤ n := by omega
  have mixed : Tryz.prog.follows .mixedOrders = true := by kernel_rfl
  clear hfin hold hrl hzl1 hzl2 hcell hsrcA hsrcB HR1 HR2; have hA := hcpA (w.alloc (.cells row 36)).drew rfl 3 (G - i)
  go_enter Tryz.func80, Tryz.ntmps80
  go_wp2_with (first
    | (at_builtin; refine Lib.wpList_append_run _ rfl _ _ _ _ rfl _ _ rfl rfl _ _ (hrz _) ?_))
  go_region_law_o (refine step_copy_runI rfl _ _ 46 46 rfl (.slice (some ⟨w.heap.size, (i + 1) * 3, none⟩) (n - i) (G - (i + 1))) (.slice (some ⟨g, i * 3, none⟩) (n - i) (c - i)) (by simp [Act.eval, Act.put]) (by simp [Act.eval, Act.put]) (hcpB (((w.alloc (.cells row 36)).drew.setRow w.heap.size r1).drew) rfl 3 (G - (i + 1)) (c - i)) ?_)
  go_wp2
  go_ret; refine ⟨_, rfl, ⟨?_, .inr ⟨w.heap.size, G, r2, rfl, hB, hg2, hGn, hGm, HFI.out.2, HFI.out.1⟩⟩, ?_, (fun k hk => .inr (Nat.le_of_eq (Option.some.inj hk))), ?_⟩
  · rw [put3_length, hxl, M.len]
    omega
  · intro b h1 h2
    refine (setRow_other _ w.heap.size b _ (by omega)).trans ?_; refine (setRow_other _ w.heap.size b _ (by omega)).trans ?_; exact Below.heap_alloc w _ b h1
  · exact below_setRow (below_setRow ((Below.refl B w).alloc hB _).drew hB _).drew hB _
/-- Put in at a place. -/
theorem put3_rows (l : List M) (x : M) (i : Nat) : put3 (rows M.cells l) x.cells i = rows M.cells (l.take i ++ x :: l.drop i) := by
  unfold put3; rw [rows_append, rows_cons, rows_take M.len, rows_drop M.len, List.append_assoc]
theorem insert_any (B : Nat) (v : Value) (l : List M) (i : Nat) (vb : Nat) (x : M) (w : World) (hown : w.ownsRow B 36 3 v l.length (rows M.cells l)) (hi : i ≤ l.length) (hn : l.length ≤ 100) (hB : B ≤ w.heap.size) (R : Rw w vb 36 x.cells.toArray) (hvb : ∀ k, v.ownBlock = some k → vb ≠ k) :
    Calls Tryz.prog 80 #[v, .int .i64 i, .slice (some ⟨vb, 0, none⟩) 1 1] w (InPost B v (l.length + 1) (rows M.cells (l.take i ++ x :: l.drop i)) w) := by
  rw [← put3_rows]; obtain ⟨p, c, rfl⟩ := own_sl hown
  rcases Nat.lt_or_ge i l.length with h | h
  · obtain ⟨g, rfl, hg⟩ := own_some hown (by omega)
    rcases Nat.lt_or_ge c (l.length + 1) with hc | hc
    · exact insert_grow B g _ c i _ vb x w hown h hc hn (rows_all M.one l) hB R
    · exact insert_shift B g _ c i _ vb x w hown h hc hn (hvb g rfl) (rows_all M.one l) R
  · obtain rfl : i = l.length := by omega
    have := insert_end B p l.length c _ vb x w hown hn hB R
    rw [show put3 (rows M.cells l) x.cells l.length = rows M.cells l ++ x.cells by unfold put3; rw [List.take_of_length_le (by rw [rows_length M.len]; omega), List.drop_of_length_le (by rw [rows_length M.len]; omega), List.append_nil]]; exact this
end Go.Proofs.YtfjpbmdmkcihcaaGreat
/- marks.With: marks with one more. -/
namespace Go.Proofs.YtfjpbmdmkcihcaaGreat
open Go.RowKit

/-- Marks with one more, where it belongs, once. -/
def wth (l : List M) (m : M) : List M := if has m l = true then l else insF m l
theorem wth_length (l : List M) (m : M) : (wth l m).length ≤ l.length + 1 := by
  unfold wth
  split
  · omega
  · rw [insF_length]
    omega
theorem wth_ca {l : List M} {m : M} (h : ca l = true) (hi : im m.i = true) : ca (wth l m) = true := by
  unfold wth
  split
  · exact h
  · rename_i hn
    exact insF_ca h hi (by simpa using hn)
theorem insF_mem (x : M) (l : List M) (y : M) : y ∈ insF x l ↔ y = x ∨ y ∈ l := by
  unfold insF; simp only [List.mem_append, List.mem_cons, List.mem_filter]
  cases h : lt y x
  · simp
  · simp
    exact ⟨fun k => k.elim .inr .inl, fun k => k.elim .inr .inl⟩
theorem mk_eq {x y : M} (h : mk x y = true) : x = y := by
  rw [mk_iff] at h; obtain ⟨p, s, i⟩ := x; obtain ⟨q, u, j⟩ := y; simp only at h; obtain ⟨rfl, rfl, rfl⟩ := h
  rfl
theorem wth_mem (l : List M) (m : M) : m ∈ wth l m := by
  unfold wth
  split
  · rename_i h
    unfold has at h; obtain ⟨y, hy, e⟩ := List.any_eq_true.1 h; rw [← mk_eq e]; exact hy
  · exact (insF_mem m l m).2 (.inl rfl)
theorem wth_ne (l : List M) (m : M) : 0 < (wth l m).length := List.length_pos_of_mem (wth_mem l m)
theorem has_k (x : M) (l : List M) : has x l = true ↔ ∃ y ∈ l, kM y = kM x := by
  unfold has; rw [List.any_eq_true]
  constructor
  · rintro ⟨y, hy, e⟩
    exact ⟨y, hy, by rw [mk_eq e]⟩
  · rintro ⟨y, hy, e⟩
    refine ⟨y, hy, ?_⟩; rw [mk_iff]; unfold kM at e; simp only [Prod.mk.injEq] at e; exact e
/-- What With answers: a row of its own. -/
def WwPost (l : List M) (w : World) (e : Ending) (w' : World) : Prop := ∃ u, e = .returned u ∧ w'.ownsRow w.heap.size 36 3 u l.length (rows M.cells l) ∧ Below w.heap.size w w'
theorem ww_eq {l z : List M} {x : M} {k : Nat} {b : Bool} (hp : l.Pairwise (fun a b => lt a b = true)) (h1 : ∀ j (h : j < l.length), j < k → kl (kM l[j]) (kM x) = true) (h2 : ∀ j (h : j < l.length), k ≤ j → kl (kM l[j]) (kM x) = false) (hb : b = true ↔ ∃ h : k < l.length, kM l[k] = kM x) (e : wth l x = z) : z = if b = true then l else l.take k ++ x :: l.drop k := by
  subst e
  have hh : has x l = b := by
    cases b
    · cases h : has x l
      · rfl
      · exfalso
        obtain ⟨y, hy, e⟩ := (has_k x l).1 h; obtain ⟨j, hj, rfl⟩ := List.getElem_of_mem hy
        rcases Nat.lt_trichotomy j k with h' | h' | h'
        · have := h1 j hj h'
          rw [e, kl_irr] at this
          cases this
        · subst h'
          have := hb.2 ⟨hj, e⟩
          cases this
        · have a1 := h2 k (by omega) (Nat.le_refl _)
          have a2 : kl (kM l[k]) (kM l[j]) = true := (List.pairwise_iff_getElem.1 hp) k j (by omega) hj h'; rw [e, a1] at a2
          cases a2
    · obtain ⟨h, e⟩ := hb.1 rfl
      exact (has_k x l).2 ⟨_, List.getElem_mem h, e⟩
  unfold wth; rw [hh, insF_at h1 h2]
set_option maxHeartbeats 2000000 in
set_option maxRecDepth 100000 in
theorem ww_any (v : Value) (l : List M) (x : M) (w : World) (h : MHas w v l) (hl : l.length ≤ 100) (hp : l.Pairwise (fun a b => lt a b = true)) :
    Calls Tryz.prog 65 #[v, MV x.p x.s x.i] w (WwPost (wth l x) w) := by
  obtain ⟨z, HZ⟩ := hid_ex (wth l x); rw [HZ.out]; have hbA := bel_alloc (Below.refl w.heap.size w) (.cells #[.int .i64 x.p, .int .i64 x.s, .int .i64 x.i] 36); have R := rw_new w 36 #[.int .i64 x.p, .int .i64 x.s, .int .i64 x.i]; replace h := h.later hbA; obtain ⟨p, c, rfl⟩ := h.slice; have HP : Hid (l.Pairwise (fun a b => lt a b = true)) := hp; have C1 := findM_any (.slice p l.length c) l x _ h hl hp; generalize hW : w.alloc (.cells #[.int .i64 x.p, .int .i64 x.s, .int .i64 x.i] 36) = w0 at hbA R h C1; clear hp
  go_enter Tryz.func65, Tryz.ntmps65
  have c0 : w0.cell? ⟨w.heap.size, 0, none⟩ = some (.int .i64 x.p) := R.cell 0; have c1 : w0.cell? ⟨w.heap.size, 1, none⟩ = some (.int .i64 x.s) := R.cell 1; have c2 : w0.cell? ⟨w.heap.size, 2, none⟩ = some (.int .i64 x.i) := R.cell 2
  go_wp2_with (first | rw [hW])
  clear hW c0 c1 c2; refine C1.mono ?_; clear C1; rintro e w1 ⟨k, b, rfl, hk, h1, h2, hb, hb1⟩; have HE : Hid (z = if b = true then l else l.take k ++ x :: l.drop k) := ww_eq HP.out h1 h2 hb HZ.out; replace h := h.later hb1; replace R := R.later hb1; replace hbA := below_on hbA hb1; clear h1 h2 hb hb1 HP HZ; have C2 := clone36_any (.slice p l.length c) l.length (rows M.cells l) w1 h hl (rows_all M.one l); go_wp2_with fail; refine C2.mono ?_; clear C2; rintro e w2 ⟨u, rfl, ho, hb2⟩; replace R := R.later hb2; have hbB := below_on hbA hb2; obtain ⟨pu, cu, rfl⟩ := own_sl ho
  cases b
  · have hne : ∀ k, (Value.slice pu l.length cu).ownBlock = some k → k < w2.heap.size := fun k hk => (World.ownsRow.lt ho k hk).2
    go_wp2_with (first | refine load_r 36 _ rfl rfl _ rfl R Tryz.underlying36 rfl size36 ?_)
    have hbC := bel_alloc (Below.refl w2.heap.size w2) (.cells #[.int .i64 x.p, .int .i64 x.s, .int .i64 x.i] 36); refine (insert_any w1.heap.size _ l k w2.heap.size x _ (own_later ho hbC) hk hl (Nat.le_trans hb2.size hbC.size) (rw_new w2 36 _) (fun q hq => by have := hne q hq; omega)).mono ?_; rintro e w3 ⟨u, rfl, hou, hkp, hnu, hb3⟩
    have HF : Hid (WwPost z w (.returned u) w3) := by
      have e : z = l.take k ++ x :: l.drop k := HE.out; subst e; refine ⟨u, rfl, ?_, ?_⟩
      · rw [show (l.take k ++ x :: l.drop k).length = l.length + 1 by simp; omega]
        exact own_mono hou hbA.size
      · exact (below_on hbA (below_on hb2 hbC)).trans (hb3.mono hbA.size)
    obtain ⟨p3, c3, rfl⟩ := own_sl hou; clear hou hkp hnu hb3 hne; go_wp2_with fail; go_ret; exact HF.out
  · have HF : Hid (WwPost z w (.returned (.slice pu l.length cu)) w2) := by
      have e : z = l := HE.out; subst e; exact ⟨_, rfl, own_mono ho hbA.size, hbB⟩
    go_wp2_with fail; go_ret; exact HF.out
end Go.Proofs.YtfjpbmdmkcihcaaGreat
/- The closures of takes, Clear, Del and Fold of package seq; slices.IndexFunc and slices.ContainsFunc over rows of marks; takes. -/
namespace Go.Proofs.YtfjpbmdmkcihcaaGreat
open Go.RowKit


/-- The boxes that the closure looks at. -/
structure Bxs (w : World) (bt bi : Nat) (q u : Int) (v : List Int) (t : Int) (sl : Value) (idx : Int) : Prop where
  r : Rw w bt 34 (txc q u v t sl).toArray
  c : Rw w bi 3 #[.int .i64 idx]
theorem Bxs.later {w w' : World} {bt bi : Nat} {q u : Int} {v : List Int} {t : Int} {sl : Value} {idx : Int} (h : Bxs w bt bi q u v t sl idx) (hb : Below w.heap.size w w') : Bxs w' bt bi q u v t sl idx := ⟨h.r.later hb, h.c.later hb⟩
theorem Bxs.row {w : World} {bt bi : Nat} {q u : Int} {v : List Int} {t : Int} {sl : Value} {idx : Int} (h : Bxs w bt bi q u v t sl idx) {g : Nat} (h1 : bt ≠ g) (h2 : bi ≠ g) (cs : Array Value) : Bxs (w.setRow g cs) bt bi q u v t sl idx := ⟨h.r.rowOther h1 cs, h.c.rowOther h2 cs⟩
set_option maxHeartbeats 1000000 in
set_option maxRecDepth 100000 in
theorem takes1_any (y : M) (bt bi : Nat) (q u : Int) (v : List Int) (t : Int) (sl : Value) (idx : Int) (w : World) (hv : v.length = 13) (B : Bxs w bt bi q u v t sl idx) :
    Calls Tryz.prog 60 #[MV y.p y.s y.i, .pointer (some ⟨bt, 0, none⟩), .pointer (some ⟨bi, 0, none⟩)] w (Tells (.bool (bf y.p y.s y.i q u v idx)) w) := by
  have C1 := fun w => before_any y.p y.s y.i q u v t sl idx w hv
  generalize bf y.p y.s y.i q u v idx = z at C1 ⊢; have hbel := bel_alloc (Below.refl w.heap.size w) (.cells #[.int .i64 y.p, .int .i64 y.s, .int .i64 y.i] 36); have R0 := rw_new w 36 #[.int .i64 y.p, .int .i64 y.s, .int .i64 y.i]; have R1 := B.r.later hbel; have c1 : (w.alloc (.cells #[.int .i64 y.p, .int .i64 y.s, .int .i64 y.i] 36)).cell? ⟨bi, 0, none⟩ = some (.int .i64 idx) := (B.c.later hbel).cell 0; generalize hW : w.alloc (.cells #[.int .i64 y.p, .int .i64 y.s, .int .i64 y.i] 36) = w0 at hbel R0 R1 c1; have zt := size_tx (p := q) (s := u) (t := t) (sl := sl) hv
  go_enter Tryz.func60, Tryz.ntmps60
  go_wp2_with (first | rw [hW] | refine load_r 36 _ rfl rfl _ rfl R0 Tryz.underlying36 rfl size36 ?_ | refine load_r 34 _ rfl rfl _ rfl R1 Tryz.underlying34 rfl zt ?_)
  refine (C1 _).mono ?_; rintro e w1 ⟨rfl, hb1⟩; go_wp2_with fail; go_ret; exact ⟨rfl, below_on hbel hb1⟩
/-- The box that the closure of Fold looks at. -/
def Bxc (w : World) (bt : Nat) (v : List Int) : Prop := At w bt v
theorem Bxc.later {w w' : World} {bt : Nat} {v : List Int} (h : Bxc w bt v) (hb : Below w.heap.size w w') : Bxc w' bt v := At.later h hb
theorem Bxc.row {w : World} {bt : Nat} {v : List Int} (h : Bxc w bt v) {g : Nat} (h1 : bt ≠ g) (cs : Array Value) : Bxc (w.setRow g cs) bt v := At.rowOther h h1 cs
set_option maxHeartbeats 1000000 in
set_option maxRecDepth 100000 in
theorem fold1_any (y : M) (bt : Nat) (v : List Int) (w : World) (hv : v.length = 13) (B : Bxc w bt v) :
    Calls Tryz.prog 45 #[MV y.p y.s y.i, .pointer (some ⟨bt, 0, none⟩)] w (Tells (.bool (hs v y.p y.s)) w) := by
  have C1 := fun w => has_any v y.p y.s w hv
  generalize hs v y.p y.s = z at C1 ⊢; have hbel := bel_alloc (Below.refl w.heap.size w) (.cells #[.int .i64 y.p, .int .i64 y.s, .int .i64 y.i] 36); have R0 := rw_new w 36 #[.int .i64 y.p, .int .i64 y.s, .int .i64 y.i]; have R1 : At _ bt v := Bxc.later B hbel; generalize hW : w.alloc (.cells #[.int .i64 y.p, .int .i64 y.s, .int .i64 y.i] 36) = w0 at hbel R0 R1
  have d0 : w0.rangeAt w.heap.size 0 [.int .i64 y.p, .int .i64 y.s] := R0.range 0 _ fun j u hu => by
    match j, hu with
    | 0, hu => exact hu
    | 1, hu => exact hu
    | j + 2, hu => simp at hu
  have z2 : (Tryz.prog.info? 29).map (·.size) = some [Value.int .i64 y.p, .int .i64 y.s].length := size29
  go_enter Tryz.func45, Tryz.ntmps45
  go_wp2_with (first | rw [hW] | refine load_at rfl _ rfl _ rfl R1 ?_ | refine load_m 29 _ rfl rfl _ _ rfl d0 Tryz.underlying29 rfl z2 ?_)
  refine (C1 _).mono ?_; rintro e w1 ⟨rfl, hb1⟩; go_wp2_with fail; go_ret; exact ⟨rfl, below_on hbel hb1⟩
/-- What IndexFunc answers. -/
def IxPost (l : List M) (f : M → Bool) (w : World) (e : Ending) (w' : World) : Prop :=
  (e = .returned (.int .i64 (-1)) ∧ (∀ y ∈ l, f y = false) ∧ Below w.heap.size w w') ∨ ∃ k : Nat, ∃ h : k < l.length, e = .returned (.int .i64 k) ∧ f l[k] = true ∧ (∀ j (hj : j < l.length), j < k → f l[j] = false) ∧ Below w.heap.size w w'
set_option maxHeartbeats 2000000 in
set_option maxRecDepth 100000 in
theorem index_any (v0 : Value) (l : List M) (f : M → Bool) (bt bi : Nat) (w : World) (h : MHas w v0 l) (hl : l.length ≤ 100) (C : ∀ (y : M) (w' : World), Below w.heap.size w w' → Calls Tryz.prog 60 #[MV y.p y.s y.i, .pointer (some ⟨bt, 0, none⟩), .pointer (some ⟨bi, 0, none⟩)] w' (Tells (.bool (f y)) w')) :
    Calls Tryz.prog 74 #[v0, .func (.func 60) #[] #[.pointer (some ⟨bt, 0, none⟩), .pointer (some ⟨bi, 0, none⟩)]] w (IxPost l f w) := by
  obtain ⟨pa, ca', rfl⟩ := h.slice; have HA : Hid (MHas w (.slice pa l.length ca') l) := h; clear h
  go_enter Tryz.func74, Tryz.ntmps74
  go_wp2
  go_loopw [8] (fun vi wr => ∃ k : Nat, vi = .int .i64 k ∧ k ≤ l.length ∧ Hid (∀ j (hj : j < l.length), j < k → f l[j] = false) ∧ Below w.heap.size w wr) (fun vi _ => l.length - (intOf vi).toNat)
  case atStart => exact ⟨0, rfl, by omega, (show ∀ j (_ : j < l.length), j < 0 → _ from fun j _ h => by omega), Below.refl _ _⟩
  case round =>
    obtain ⟨k, rfl, hk, HV, hbel⟩ := hrel
    by_cases hlt : k < l.length
    · have hlt' : (k : Int) < (l.length : Int) := by omega
      obtain ⟨g, o, rfl, hd0⟩ := HA.out.at (by omega); have d := M.elem (range_later hd0 hbel) k hlt; clear hd0 HA; obtain ⟨x, HX⟩ := hid_ex l[k]; rw [HX.out] at d; have zm : (Tryz.prog.info? 36).map (·.size) = some x.cells.length := size36; have Cx := C x _ hbel; obtain ⟨y, HY⟩ := hid_ex (f x); rw [HY.out] at Cx
      have HF : Hid (f l[k] = y) := by show _ = _; rw [HX.out, HY.out]
      clear C HX HY
      go_wp2_with (refine load_m 36 _ rfl rfl _ _ rfl d Tryz.underlying36 rfl zm ?_)
      refine Cx.mono ?_; clear Cx; rintro e w1 ⟨rfl, hb1⟩; replace hbel := below_on hbel hb1
      cases y
      · go_wp2_with fail
        go_roundw
        case rel =>
          refine ⟨k + 1, by simp, by omega, (show ∀ j (hj : j < l.length), j < k + 1 → f l[j] = false from fun j hj hjk => ?_), hbel⟩
          rcases Nat.lt_or_ge j k with h' | h'
          · exact HV.out j hj h'
          · obtain rfl : j = k := by omega
            exact HF.out
        case measure => simp [intOf]; omega
      · go_wp2_with fail
        go_ret; exact .inr ⟨k, hlt, rfl, HF.out, HV.out, hbel⟩
    · have hlt' : ¬ (k : Int) < (l.length : Int) := by omega
      clear HA C; go_wp2_with fail; go_ret; refine .inl ⟨rfl, fun y hy => ?_, hbel⟩; obtain ⟨j, hj, rfl⟩ := List.getElem_of_mem hy; exact HV.out j hj (by omega)
set_option maxHeartbeats 2000000 in
set_option maxRecDepth 100000 in
theorem indexF_any (v0 : Value) (l : List M) (f : M → Bool) (bt : Nat) (w : World) (h : MHas w v0 l) (hl : l.length ≤ 100) (C : ∀ (y : M) (w' : World), Below w.heap.size w w' → Calls Tryz.prog 45 #[MV y.p y.s y.i, .pointer (some ⟨bt, 0, none⟩)] w' (Tells (.bool (f y)) w')) :
    Calls Tryz.prog 74 #[v0, .func (.func 45) #[] #[.pointer (some ⟨bt, 0, none⟩)]] w (IxPost l f w) := by
  obtain ⟨pa, ca', rfl⟩ := h.slice; have HA : Hid (MHas w (.slice pa l.length ca') l) := h; clear h
  go_enter Tryz.func74, Tryz.ntmps74
  go_wp2
  go_loopw [8] (fun vi wr => ∃ k : Nat, vi = .int .i64 k ∧ k ≤ l.length ∧ Hid (∀ j (hj : j < l.length), j < k → f l[j] = false) ∧ Below w.heap.size w wr) (fun vi _ => l.length - (intOf vi).toNat)
  case atStart => exact ⟨0, rfl, by omega, (show ∀ j (_ : j < l.length), j < 0 → _ from fun j _ h => by omega), Below.refl _ _⟩
  case round =>
    obtain ⟨k, rfl, hk, HV, hbel⟩ := hrel
    by_cases hlt : k < l.length
    · have hlt' : (k : Int) < (l.length : Int) := by omega
      obtain ⟨g, o, rfl, hd0⟩ := HA.out.at (by omega); have d := M.elem (range_later hd0 hbel) k hlt; clear hd0 HA; obtain ⟨x, HX⟩ := hid_ex l[k]; rw [HX.out] at d; have zm : (Tryz.prog.info? 36).map (·.size) = some x.cells.length := size36; have Cx := C x _ hbel; obtain ⟨y, HY⟩ := hid_ex (f x); rw [HY.out] at Cx
      have HF : Hid (f l[k] = y) := by show _ = _; rw [HX.out, HY.out]
      clear C HX HY
      go_wp2_with (refine load_m 36 _ rfl rfl _ _ rfl d Tryz.underlying36 rfl zm ?_)
      refine Cx.mono ?_; clear Cx; rintro e w1 ⟨rfl, hb1⟩; replace hbel := below_on hbel hb1
      cases y
      · go_wp2_with fail
        go_roundw
        case rel =>
          refine ⟨k + 1, by simp, by omega, (show ∀ j (hj : j < l.length), j < k + 1 → f l[j] = false from fun j hj hjk => ?_), hbel⟩
          rcases Nat.lt_or_ge j k with h' | h'
          · exact HV.out j hj h'
          · obtain rfl : j = k := by omega
            exact HF.out
        case measure => simp [intOf]; omega
      · go_wp2_with fail
        go_ret; exact .inr ⟨k, hlt, rfl, HF.out, HV.out, hbel⟩
    · have hlt' : ¬ (k : Int) < (l.length : Int) := by omega
      clear HA C; go_wp2_with fail; go_ret; refine .inl ⟨rfl, fun y hy => ?_, hbel⟩; obtain ⟨j, hj, rfl⟩ := List.getElem_of_mem hy; exact HV.out j hj (by omega)
set_option maxHeartbeats 1000000 in
set_option maxRecDepth 100000 in
theorem clear1_any (y : M) (bt bi : Nat) (q u : Int) (v : List Int) (t : Int) (sl : Value) (idx : Int) (w : World) (hv : v.length = 13) (B : Bxs w bt bi q u v t sl idx) :
    Calls Tryz.prog 41 #[MV y.p y.s y.i, .pointer (some ⟨bt, 0, none⟩), .pointer (some ⟨bi, 0, none⟩)] w (Tells (.bool (bf y.p y.s y.i q u v idx)) w) := by
  have C1 := fun w => before_any y.p y.s y.i q u v t sl idx w hv
  generalize bf y.p y.s y.i q u v idx = z at C1 ⊢; have hbel := bel_alloc (Below.refl w.heap.size w) (.cells #[.int .i64 y.p, .int .i64 y.s, .int .i64 y.i] 36); have R0 := rw_new w 36 #[.int .i64 y.p, .int .i64 y.s, .int .i64 y.i]; have R1 := B.r.later hbel; have c1 : (w.alloc (.cells #[.int .i64 y.p, .int .i64 y.s, .int .i64 y.i] 36)).cell? ⟨bi, 0, none⟩ = some (.int .i64 idx) := (B.c.later hbel).cell 0; generalize hW : w.alloc (.cells #[.int .i64 y.p, .int .i64 y.s, .int .i64 y.i] 36) = w0 at hbel R0 R1 c1; have zt := size_tx (p := q) (s := u) (t := t) (sl := sl) hv
  go_enter Tryz.func41, Tryz.ntmps41
  go_wp2_with (first | rw [hW] | refine load_r 36 _ rfl rfl _ rfl R0 Tryz.underlying36 rfl size36 ?_ | refine load_r 34 _ rfl rfl _ rfl R1 Tryz.underlying34 rfl zt ?_)
  refine (C1 _).mono ?_; rintro e w1 ⟨rfl, hb1⟩; go_wp2_with fail; go_ret; exact ⟨rfl, below_on hbel hb1⟩
set_option maxHeartbeats 1000000 in
set_option maxRecDepth 100000 in
theorem del1_any (y x : M) (br : Nat) (w : World) (R : Rw w br 36 #[.int .i64 x.p, .int .i64 x.s, .int .i64 x.i]) :
    Calls Tryz.prog 39 #[MV y.p y.s y.i, .pointer (some ⟨br, 0, none⟩)] w (Tells (.bool (decide (kM y = kM x))) w) := by
  have E := fun w => eq_mark w y.p y.s y.i x.p x.s x.i
  obtain ⟨z, HZ⟩ := hid_ex (decide (kM y = kM x)); rw [show (decide (y.p = x.p) && decide (y.s = x.s) && decide (y.i = x.i)) = z from (kq y.p y.s y.i x).symm.trans HZ.out] at E; rw [HZ.out]; have hbel := bel_alloc (Below.refl w.heap.size w) (.cells #[.int .i64 y.p, .int .i64 y.s, .int .i64 y.i] 36); have R0 := rw_new w 36 #[.int .i64 y.p, .int .i64 y.s, .int .i64 y.i]; replace R := R.later hbel; generalize hW : w.alloc (.cells #[.int .i64 y.p, .int .i64 y.s, .int .i64 y.i] 36) = w0 at hbel R0 R; clear HZ
  go_enter Tryz.func39, Tryz.ntmps39
  go_wp2_with (first | rw [hW] | refine load_r 36 _ rfl rfl _ rfl R0 Tryz.underlying36 rfl size36 ?_ | refine load_r 36 _ rfl rfl _ rfl R Tryz.underlying36 rfl size36 ?_ | rw [E])
  go_ret; exact ⟨rfl, hbel⟩
set_option maxHeartbeats 1000000 in
set_option maxRecDepth 100000 in
theorem contains_any (v0 : Value) (l : List M) (f : M → Bool) (bt bi : Nat) (w : World) (h : MHas w v0 l) (hl : l.length ≤ 100) (C : ∀ (y : M) (w' : World), Below w.heap.size w w' → Calls Tryz.prog 60 #[MV y.p y.s y.i, .pointer (some ⟨bt, 0, none⟩), .pointer (some ⟨bi, 0, none⟩)] w' (Tells (.bool (f y)) w')) :
    Calls Tryz.prog 59 #[v0, .func (.func 60) #[] #[.pointer (some ⟨bt, 0, none⟩), .pointer (some ⟨bi, 0, none⟩)]] w (Tells (.bool (l.any f)) w) := by
  obtain ⟨z, HZ⟩ := hid_ex (l.any f); rw [HZ.out]; obtain ⟨p, c, rfl⟩ := h.slice; have C1 := index_any _ l f bt bi w h hl C; clear h C
  go_enter Tryz.func59, Tryz.ntmps59
  go_wp2_with fail; refine C1.mono ?_; clear C1; rintro e w1 (⟨rfl, hn, hb1⟩ | ⟨k, hk, rfl, hf, _, hb1⟩)
  · obtain rfl : z = false := by
      rw [← HZ.out, List.any_eq_false]
      exact fun y hy => by rw [hn y hy]; simp
    clear HZ hn; go_wp2_with fail; go_ret; exact ⟨rfl, hb1⟩
  · obtain rfl : z = true := by
      rw [← HZ.out, List.any_eq_true]; exact ⟨_, List.getElem_mem hk, hf⟩
    have hk0 : (0 : Int) ≤ (k : Int) := by omega
    clear HZ hf; go_wp2_with fail; go_ret; exact ⟨rfl, hb1⟩
set_option maxHeartbeats 1000000 in
set_option maxRecDepth 100000 in
theorem containsF_any (v0 : Value) (l : List M) (f : M → Bool) (bt : Nat) (w : World) (h : MHas w v0 l) (hl : l.length ≤ 100) (C : ∀ (y : M) (w' : World), Below w.heap.size w w' → Calls Tryz.prog 45 #[MV y.p y.s y.i, .pointer (some ⟨bt, 0, none⟩)] w' (Tells (.bool (f y)) w')) :
    Calls Tryz.prog 59 #[v0, .func (.func 45) #[] #[.pointer (some ⟨bt, 0, none⟩)]] w (Tells (.bool (l.any f)) w) := by
  obtain ⟨z, HZ⟩ := hid_ex (l.any f); rw [HZ.out]; obtain ⟨p, c, rfl⟩ := h.slice; have C1 := indexF_any _ l f bt w h hl C; clear h C
  go_enter Tryz.func59, Tryz.ntmps59
  go_wp2_with fail; refine C1.mono ?_; clear C1; rintro e w1 (⟨rfl, hn, hb1⟩ | ⟨k, hk, rfl, hf, _, hb1⟩)
  · obtain rfl : z = false := by
      rw [← HZ.out, List.any_eq_false]
      exact fun y hy => by rw [hn y hy]; simp
    clear HZ hn; go_wp2_with fail; go_ret; exact ⟨rfl, hb1⟩
  · obtain rfl : z = true := by
      rw [← HZ.out, List.any_eq_true]; exact ⟨_, List.getElem_mem hk, hf⟩
    have hk0 : (0 : Int) ≤ (k : Int) := by omega
    clear HZ hf; go_wp2_with fail; go_ret; exact ⟨rfl, hb1⟩
abbrev bfP (q u : Int) (v : List Int) (idx : Int) : M → Bool := fun y => bf y.p y.s y.i q u v idx
abbrev hsP (v : List Int) : M → Bool := fun y => hs v y.p y.s
/-- May one be put behind that one? -/
def tk (l : List El) (r : K) (p : M → Bool) : Bool := decide (r = zK) || (match l.find? (fun e => decide (kE e = r)) with
  | some e => !e.gone.any p
  | none => false)
theorem find_pl {l : List El} {r : K} : l.find? (fun e => decide (kE e = r)) = (pl l r).bind (fun k => l[k]?) := by
  unfold pl
  induction l with
  | nil => rfl
  | cons a t ih =>
    rw [List.find?_cons, List.findIdx?_cons]
    cases h : decide (kE a = r)
    · rw [ih]
      cases List.findIdx? (fun e => decide (kE e = r)) t <;> simp
    · simp
set_option maxHeartbeats 2000000 in
set_option maxRecDepth 100000 in
theorem takes_any (v0 : Value) (l : List El) (x : M) (q u : Int) (v : List Int) (t : Int) (sl : Value) (idx : Int) (w : World) (hv : v.length = 13) (h : EHas w v0 l) (hl : l.length ≤ 100) (hg : ∀ e ∈ l, e.gone.length ≤ 100) (hp : l.Pairwise (fun a b => kl (kE a) (kE b) = true)) :
    Calls Tryz.prog 33 #[v0, MV x.p x.s x.i, TxV q u v t sl, .int .i64 idx] w (Tells (.bool (tk l (kM x) (bfP q u v idx))) w) := by
  obtain ⟨z, HZ⟩ := hid_ex (tk l (kM x) (bfP q u v idx)); rw [HZ.out]; have b0 := Below.refl w.heap.size w; have b1 := bel_alloc b0 (.cells #[.int .i64 x.p, .int .i64 x.s, .int .i64 x.i] 36); have b2 := bel_alloc b1 (.cells (txc q u v t sl).toArray 34); have b3 := bel_alloc b2 (.cells #[.int .i64 idx] 3); have R1 := ((rw_new w 36 #[.int .i64 x.p, .int .i64 x.s, .int .i64 x.i]).alloc (.cells (txc q u v t sl).toArray 34)).alloc (.cells #[.int .i64 idx] 3); have R2 := (rw_new (w.alloc (.cells #[.int .i64 x.p, .int .i64 x.s, .int .i64 x.i] 36)) 34 (txc q u v t sl).toArray).alloc (.cells #[.int .i64 idx] 3); have R3 := rw_new ((w.alloc (.cells #[.int .i64 x.p, .int .i64 x.s, .int .i64 x.i] 36)).alloc (.cells (txc q u v t sl).toArray 34)) 3 #[.int .i64 idx]; simp only [World.size_alloc] at R2 R3; generalize hW : ((w.alloc (.cells #[.int .i64 x.p, .int .i64 x.s, .int .i64 x.i] 36)).alloc (.cells (txc q u v t sl).toArray 34)).alloc (.cells #[.int .i64 idx] 3) = w0 at b3 R1 R2 R3; have BX : Bxs w0 (w.heap.size + 1) (w.heap.size + 1 + 1) q u v t sl idx := ⟨R2, R3⟩; have HB : Hid (Bxs w0 (w.heap.size + 1) (w.heap.size + 1 + 1) q u v t sl idx) := BX
  have E := fun w => eq_mark w x.p x.s x.i 0 0 0
  obtain ⟨y1, HY⟩ := hid_ex (decide (kM x = zK)); rw [show (decide (x.p = 0) && decide (x.s = 0) && decide (x.i = 0)) = y1 from (kz_eq _ _ _).symm.trans HY.out] at E; replace h := h.later b3; obtain ⟨p0, c0, rfl⟩ := h.slice; have HE : Hid (EHas w0 (.slice p0 l.length c0) l) := h; have C1 := find_any _ l x w0 h hl hp; clear b0 b1 b2 R2 R3 BX h
  cases y1
  · have hne : kM x ≠ zK := by simpa using HY.out
    go_enter Tryz.func33, Tryz.ntmps33
    go_wp2_with (first | rw [hW] | refine load_r 36 _ rfl rfl _ rfl R1 Tryz.underlying36 rfl size36 ?_ | rw [E])
    clear hW E R1; refine C1.mono ?_; clear C1; rintro e w1 ⟨k, b, rfl, hk, _, _, hpl, hb1⟩
    cases b
    · obtain rfl : z = false := by
        rw [← HZ.out]; unfold tk; rw [find_pl, hpl, decide_eq_false hne]
        rfl
      clear HZ hpl HY HE; go_wp2_with fail; go_ret; exact ⟨rfl, below_on b3 hb1⟩
    · obtain ⟨hkl, ek⟩ := pl_some hpl
      have hz : Hid (z = !(l[k].gone.any (bfP q u v idx))) := by
        show _ = _
        rw [← HZ.out]; unfold tk; rw [find_pl, hpl, decide_eq_false hne]
        simp [hkl]
      obtain ⟨ys, hys, hS, hy⟩ := HE.out.later hb1
      have hyl : ys.length = l.length := by rw [← hys, List.length_map]
      obtain ⟨g1, o, rfl, hd⟩ := hS.at (by omega); have d : w1.rangeAt g1 (o + k * 9) (El.cells (ys[k]'(by omega))) := range_sub hd (k * 9) fun j u hu => rows_at El.len ys k (by omega) j u hu; have hyk := hy ys[k] (List.getElem_mem _)
      have ey : l[k] = ys[k].1 := by
        subst hys; rw [List.getElem_map]
      have hgk : ys[k].1.gone.length ≤ 100 := by rw [← ey]; exact hg _ (List.getElem_mem _)
      rw [ey] at hz; obtain ⟨yy, HX⟩ := hid_ex (ys[k]'(by omega)); rw [HX.out] at d hyk hgk hz; obtain ⟨y, yv⟩ := yy; replace hyk : MHas w1 yv y.gone := hyk; replace hgk : y.gone.length ≤ 100 := hgk; replace hz : Hid (z = !(y.gone.any (bfP q u v idx))) := hz; have cg : w1.cell? ⟨g1, o + k * 9 + 8, none⟩ = some yv := d 8 yv rfl; have C2 := contains_any yv y.gone (bfP q u v idx) (w.heap.size + 1) (w.heap.size + 1 + 1) w1 hyk hgk (fun m w' hb' => takes1_any m _ _ q u v t sl idx w' hv (HB.out.later (below_on hb1 hb'))); obtain ⟨t2, HT2⟩ := hid_ex (y.gone.any (bfP q u v idx)); rw [HT2.out] at C2 hz; have e := hz.out; subst e; obtain ⟨py, cy, rfl⟩ := hyk.slice
      have hk0 : (0 : Int) ≤ (k : Int) := by omega
      have hk1 : (k : Int) < (l.length : Int) := by omega
      clear HZ hpl HY HE hz hS hy hys hd d hyk HX ey HT2; go_wp2_with fail; refine C2.mono ?_; clear C2; rintro e w2 ⟨rfl, hb2⟩; go_wp2_with fail; go_ret; exact ⟨rfl, below_on (below_on b3 hb1) hb2⟩
  · obtain rfl : z = true := by
      rw [← HZ.out]; unfold tk; rw [HY.out]
      rfl
    clear C1 HZ HE HY
    go_enter Tryz.func33, Tryz.ntmps33
    go_wp2_with (first | rw [hW] | refine load_r 36 _ rfl rfl _ rfl R1 Tryz.underlying36 rfl size36 ?_ | rw [E])
    go_ret; exact ⟨rfl, b3⟩
end Go.Proofs.YtfjpbmdmkcihcaaGreat
/- What goes, and what stays: by places; what left of package seq keeps. -/
namespace Go.Proofs.YtfjpbmdmkcihcaaGreat
open Go.RowKit

/-- How many stand behind a place, of those that do not go. -/
def cntG (up : Nat → Nat) (n : Nat) (G : Nat → Bool) (p : Nat) : Nat := (List.range n).countP (fun c => decide (up (c + 1) = p) && !G (c + 1))
theorem cntG_succ (up : Nat → Nat) (n : Nat) (G : Nat → Bool) (p : Nat) : cntG up (n + 1) G p = cntG up n G p + (if (decide (up (n + 1) = p) && !G (n + 1)) = true then 1 else 0) := by
  unfold cntG; rw [List.range_succ, List.countP_append]
  simp [List.countP_cons]
theorem cntG_zero {up : Nat → Nat} {n : Nat} {G : Nat → Bool} {p : Nat} : cntG up n G p = 0 ↔ ∀ c, 1 ≤ c → c ≤ n → up c = p → G c = true := by
  unfold cntG; rw [List.countP_eq_zero]
  constructor
  · intro h c h1 h2 e
    have := h (c - 1) (List.mem_range.2 (by omega))
    rw [show c - 1 + 1 = c by omega] at this
    simpa [e] using this
  · intro h c hc
    rw [List.mem_range] at hc
    have := h (c + 1) (by omega) (by omega)
    simp only [Bool.and_eq_true, decide_eq_true_eq, Bool.not_eq_true', not_and]; intro e; rw [this e]
    simp
theorem cntG_set {up : Nat → Nat} {G : Nat → Bool} {a : Nat} (ha : G a = false) : ∀ {n : Nat}, 1 ≤ a → ∀ p, cntG up n G p = cntG up n (fun c => if c = a then true else G c) p + (if a ≤ n ∧ up a = p then 1 else 0)
  | 0, h1, p => by simp [cntG]; omega
  | n + 1, h1, p => by
    rw [cntG_succ, cntG_succ, cntG_set ha h1 p (n := n)]
    by_cases e : n + 1 = a
    · subst e
      by_cases h : up (n + 1) = p
      · simp [h, ha]
      · simp [h]
    · by_cases h : a ≤ n
      · simp [e, h, show a ≤ n + 1 by omega]
        try omega
      · simp [e, h, show ¬ a ≤ n + 1 by omega]
/-- Just those go that are taken away, and all behind which go. -/
def Fix (up : Nat → Nat) (n : Nat) (St G : Nat → Bool) : Prop := ∀ a, 1 ≤ a → a ≤ n → (G a = true ↔ St a = true ∧ ∀ c, 1 ≤ c → c ≤ n → up c = a → G c = true)
theorem fix_one {up : Nat → Nat} {n : Nat} {St G H : Nat → Bool} (hf : ∀ k, k ≤ n → up k ≤ n) (h0 : up 0 = 0) (hr : ∀ k, k ≤ n → rt up k) (hG : Fix up n St G) (hH : Fix up n St H) : ∀ (r a : Nat), 1 ≤ a → a ≤ n → n - dp up n a ≤ r → G a = H a := by
  intro r
  induction r with
  | zero =>
    intro a h1 h2 h3
    have nk : ∀ c, 1 ≤ c → c ≤ n → up c ≠ a := fun c c1 c2 e => by
      have := dp_up hf h0 c2 (by omega) (hr c c2)
      rw [e] at this
      have := dp_le up n c
      omega
    have g := hG a h1 h2; have h := hH a h1 h2
    have e1 : G a = true ↔ St a = true := by rw [g]; exact ⟨fun x => x.1, fun x => ⟨x, fun c c1 c2 e => absurd e (nk c c1 c2)⟩⟩
    have e2 : H a = true ↔ St a = true := by rw [h]; exact ⟨fun x => x.1, fun x => ⟨x, fun c c1 c2 e => absurd e (nk c c1 c2)⟩⟩
    rw [Bool.eq_iff_iff, e1, e2]
  | succ r ih =>
    intro a h1 h2 h3; rw [Bool.eq_iff_iff, hG a h1 h2, hH a h1 h2]
    have kid : ∀ c, 1 ≤ c → c ≤ n → up c = a → G c = H c := fun c c1 c2 e => by
      have := dp_up hf h0 c2 (by omega) (hr c c2)
      rw [e] at this; exact ih c c1 c2 (by omega)
    constructor
    · rintro ⟨x, y⟩
      exact ⟨x, fun c c1 c2 e => by rw [← kid c c1 c2 e]; exact y c c1 c2 e⟩
    · rintro ⟨x, y⟩
      exact ⟨x, fun c c1 c2 e => by rw [kid c c1 c2 e]; exact y c c1 c2 e⟩
/-- Those that stay. -/
def stay {α : Type} (g : Nat → Bool) : Nat → List α → List α
  | _, [] => []
  | k, e :: t => if g (k + 1) = true then stay g (k + 1) t else e :: stay g (k + 1) t
theorem stay_snoc {α : Type} (g : Nat → Bool) (e : α) : ∀ (k : Nat) (l : List α), stay g k (l ++ [e]) = stay g k l ++ (if g (k + l.length + 1) = true then [] else [e])
  | k, [] => by
    simp only [List.nil_append, stay, List.length_nil, Nat.add_zero]
  | k, a :: t => by
    simp only [List.cons_append, stay, List.length_cons]; rw [stay_snoc g e (k + 1) t, show k + 1 + t.length + 1 = k + (t.length + 1) + 1 by omega]
    split <;> rfl
theorem stay_map {α β : Type} (g : Nat → Bool) (f : α → β) : ∀ (k : Nat) (l : List α), stay g k (l.map f) = (stay g k l).map f
  | _, [] => rfl
  | k, a :: t => by
    simp only [List.map_cons, stay]; rw [stay_map g f (k + 1) t]
    split <;> rfl
theorem stay_sub {α : Type} (g : Nat → Bool) : ∀ (k : Nat) (l : List α), (stay g k l).Sublist l
  | _, [] => List.Sublist.slnil
  | k, a :: t => by
    unfold stay
    split
    · exact (stay_sub g (k + 1) t).cons a
    · exact (stay_sub g (k + 1) t).cons_cons a
/-- Is one taken away? -/
def stL (l : List El) (p : M → Bool) (k : Nat) : Bool := match l[k - 1]? with
  | some e => e.gone.any p
  | none => false
theorem stL_succ {l : List El} {p : M → Bool} {k : Nat} (h : k < l.length) : stL l p (k + 1) = l[k].gone.any p := by
  simp [stL, List.getElem?_eq_getElem h]
end Go.Proofs.YtfjpbmdmkcihcaaGreat
