import Derived.Test.YtfjpbmdmkcihcaaGreatP18
import Derived.Test.YtfjpbmdmkcihcaaGreatP19
import Derived.Test.YtfjpbmdmkcihcaaGreatP9
import Derived.Deep.Cut
/- Ins of the document's answer. -/
namespace Go.Proofs.YtfjpbmdmkcihcaaGreat
open Go.RowKit

/-- One is put where it belongs, step by step. -/
def NJ {α : Type} (ah : α → α → Bool) (i : α) (ks : List α) (k : Nat) (d : Bool) (nx : List α) : Prop := (d = true → nx ++ ks.drop k = insS ah i ks) ∧ (d = false → nx = ks.take k ∧ ks.take k ++ insS ah i (ks.drop k) = insS ah i ks)
section
variable {α : Type} {ah : α → α → Bool} {i : α} {ks : List α} {k : Nat} {d : Bool} {nx : List α}
theorem NJ_zero : NJ ah i ks 0 false [] := ⟨(fun h => by cases h), fun _ => ⟨rfl, rfl⟩⟩
theorem NJ_put (hk : k < ks.length) (h : NJ ah i ks k false nx) (ha : ah i ks[k] = true) : NJ ah i ks (k + 1) true (nx ++ [i] ++ [ks[k]]) := by
  obtain ⟨h1, h2⟩ := h.2 rfl; refine ⟨fun _ => ?_, fun h => by cases h⟩; rw [← h2, h1, List.drop_eq_getElem_cons hk]
  simp [insS, ha]
theorem NJ_skip (hk : k < ks.length) (h : NJ ah i ks k false nx) (ha : ah i ks[k] = false) : NJ ah i ks (k + 1) false (nx ++ [ks[k]]) := by
  obtain ⟨h1, h2⟩ := h.2 rfl; refine ⟨(fun h => by cases h), fun _ => ⟨by rw [h1, List.take_succ_eq_append_getElem hk], ?_⟩⟩
  have e : insS ah i (ks[k] :: ks.drop (k + 1)) = ks[k] :: insS ah i (ks.drop (k + 1)) := by simp [insS, ha]
  rw [← h2, List.take_succ_eq_append_getElem hk, List.drop_eq_getElem_cons hk, e, List.append_assoc]
  rfl
theorem NJ_on (hk : k < ks.length) (h : NJ ah i ks k true nx) : NJ ah i ks (k + 1) true (nx ++ [ks[k]]) := by
  refine ⟨fun _ => ?_, fun h => by cases h⟩; rw [← h.1 rfl, List.drop_eq_getElem_cons hk]
  simp
theorem NJ_len (h : NJ ah i ks k d nx) (hk : k ≤ ks.length) : nx.length ≤ k + 1 := by
  cases d with
  | true =>
    have e := congrArg List.length (h.1 rfl); rw [List.length_append, List.length_drop, (insS_perm ah i ks).length_eq, List.length_cons] at e
    omega
  | false =>
    rw [(h.2 rfl).1, List.length_take]
    omega
theorem NJ_end (h : NJ ah i ks ks.length true nx) : nx = insS ah i ks := by
  have := h.1 rfl
  rwa [List.drop_length, List.append_nil] at this
theorem NJ_last (h : NJ ah i ks ks.length false nx) : nx ++ [i] = insS ah i ks := by
  obtain ⟨h1, h2⟩ := h.2 rfl; rw [← h2, h1, List.drop_length]
  rfl
end
theorem ins_insS {e : El} {l : List El} (h : l.Pairwise (fun a b => kl (kE a) (kE b) = true)) (hn : ∀ y ∈ l, kE y ≠ kE e) : insS (fun a b => kl (kE a) (kE b)) e l = insE e l := by
  have hinj : ∀ a ∈ e :: l, ∀ b ∈ e :: l, kE a = kE b → a = b := fun a ha b hb hab => by
    rcases List.mem_cons.1 ha with rfl | ha' <;> rcases List.mem_cons.1 hb with rfl | hb'
    · rfl
    · exact absurd hab.symm (hn b hb')
    · exact absurd hab (hn a ha')
    · obtain ⟨i, hi, rfl⟩ := List.getElem_of_mem ha'
      obtain ⟨j, hj, rfl⟩ := List.getElem_of_mem hb'; obtain rfl := up_inj h hi hj hab
      rfl
  refine sorted_mem (insS_sorted (klTot hinj) (fun hm => hn e hm rfl) h) (ins_up h hn) (fun y => ?_); rw [(insS_perm _ e l).mem_iff, List.mem_cons, ins_mem]
theorem mem_insS {α : Type} {ah : α → α → Bool} {x y : α} {l : List α} (h : y ∈ insS ah x l) : y = x ∨ y ∈ l := List.mem_cons.1 ((insS_perm ah x l).mem_iff.1 h)
theorem el_mark3 {w : World} {b : Nat} {a0 a1 a2 a3 a4 a5 a6 : Int} {s : ByteArray} {sv : Value} (h : Rw w b 60 #[.int .i64 a0, .int .i64 a1, .int .i64 a2, .int .i64 a3, .int .i64 a4, .int .i64 a5, .int .i64 a6, .string s, sv]) : w.rangeAt b 0 [.int .i64 a0, .int .i64 a1, .int .i64 a2] := h.range 0 _ fun j u hu => by
  rw [Nat.zero_add]
  match j with
  | 0 => simpa using hu
  | 1 => simpa using hu
  | 2 => simpa using hu
  | j + 3 => simp at hu
set_option maxHeartbeats 8000000 in
set_option maxRecDepth 100000 in
theorem refIns_any (x : X) (va vw vm ve : Value) (q u : Int) (v : List Int) (t : Int) (sl : Value) (idx : Int) (r : M) (s : ByteArray) (w : World) (hv : v.length = 13) (h : Four w x va vw vm ve) (hs : Sm x) :
    Calls Tryz.prog 11 #[CV x.k x.b va vw vm ve, TxV q u v t sl, .int .i64 idx, MV r.p r.s r.i, .string s] w (Gives (insX x (⟨q, u, idx, t, r.p, r.s, r.i, s, []⟩ : El) (bfP q u v idx)) w) := by
  obtain ⟨i0, hi, hz0, hz1, hz2⟩ := info_parts info60; obtain ⟨pa, ca', pw, cw, pm, cm, pe, ce, rfl, rfl, rfl, rfl⟩ := h.slices; have HF : Hid (Four w x (.slice pa x.am.length ca') (.slice pw x.wr.length cw) (.slice pm x.mb.length cm) (.slice pe x.el.length ce)) := h; clear h; have R0 := (((rw_new w 27 (cvc x.k x.b (.slice pa x.am.length ca') (.slice pw x.wr.length cw) (.slice pm x.mb.length cm) (.slice pe x.el.length ce))).alloc (.cells (txc q u v t sl).toArray 34)).alloc (.cells #[.int .i64 r.p, .int .i64 r.s, .int .i64 r.i] 36)).alloc (.cells (cvc 0 0 (.slice none 0 0) (.slice none 0 0) (.slice none 0 0) (.slice none 0 0)) 27); have R1 := ((rw_new (w.alloc (.cells (cvc x.k x.b (.slice pa x.am.length ca') (.slice pw x.wr.length cw) (.slice pm x.mb.length cm) (.slice pe x.el.length ce)) 27)) 34 (txc q u v t sl).toArray).alloc (.cells #[.int .i64 r.p, .int .i64 r.s, .int .i64 r.i] 36)).alloc (.cells (cvc 0 0 (.slice none 0 0) (.slice none 0 0) (.slice none 0 0) (.slice none 0 0)) 27); have R2 := (rw_new ((w.alloc (.cells (cvc x.k x.b (.slice pa x.am.length ca') (.slice pw x.wr.length cw) (.slice pm x.mb.length cm) (.slice pe x.el.length ce)) 27)).alloc (.cells (txc q u v t sl).toArray 34)) 36 #[.int .i64 r.p, .int .i64 r.s, .int .i64 r.i]).alloc (.cells (cvc 0 0 (.slice none 0 0) (.slice none 0 0) (.slice none 0 0) (.slice none 0 0)) 27); have R3 := rw_new (((w.alloc (.cells (cvc x.k x.b (.slice pa x.am.length ca') (.slice pw x.wr.length cw) (.slice pm x.mb.length cm) (.slice pe x.el.length ce)) 27)).alloc (.cells (txc q u v t sl).toArray 34)).alloc (.cells #[.int .i64 r.p, .int .i64 r.s, .int .i64 r.i] 36)) 27 (cvc 0 0 (.slice none 0 0) (.slice none 0 0) (.slice none 0 0) (.slice none 0 0)); have hbel := bel_alloc (bel_alloc (bel_alloc (bel_alloc (Below.refl w.heap.size w) (.cells (cvc x.k x.b (.slice pa x.am.length ca') (.slice pw x.wr.length cw) (.slice pm x.mb.length cm) (.slice pe x.el.length ce)) 27)) (.cells (txc q u v t sl).toArray 34)) (.cells #[.int .i64 r.p, .int .i64 r.s, .int .i64 r.i] 36)) (.cells (cvc 0 0 (.slice none 0 0) (.slice none 0 0) (.slice none 0 0) (.slice none 0 0)) 27)
  have HSZ : Hid (((((w.alloc (.cells (cvc x.k x.b (.slice pa x.am.length ca') (.slice pw x.wr.length cw) (.slice pm x.mb.length cm) (.slice pe x.el.length ce)) 27)).alloc (.cells (txc q u v t sl).toArray 34)).alloc (.cells #[.int .i64 r.p, .int .i64 r.s, .int .i64 r.i] 36)).alloc (.cells (cvc 0 0 (.slice none 0 0) (.slice none 0 0) (.slice none 0 0) (.slice none 0 0)) 27)).heap.size = w.heap.size + 4) := by
    show _ = _
    simp
  generalize hW : (((w.alloc (.cells (cvc x.k x.b (.slice pa x.am.length ca') (.slice pw x.wr.length cw) (.slice pm x.mb.length cm) (.slice pe x.el.length ce)) 27)).alloc (.cells (txc q u v t sl).toArray 34)).alloc (.cells #[.int .i64 r.p, .int .i64 r.s, .int .i64 r.i] 36)).alloc (.cells (cvc 0 0 (.slice none 0 0) (.slice none 0 0) (.slice none 0 0) (.slice none 0 0)) 27) = w4 at R0 R1 R2 R3 hbel HSZ; simp only [World.size_alloc] at R0 R1 R2 R3; have hbA := below_setRow (bel_alloc (Below.refl w4.heap.size w4) (.cells #[.int .i64 0, .int .i64 0, .int .i64 0] 36)) (g := w4.heap.size) (Nat.le_refl _) #[.int .i64 0, .int .i64 0, .int .i64 0]; have rm := rw_new w4 36 #[.int .i64 0, .int .i64 0, .int .i64 0]; have R4 := rm.row #[.int .i64 0, .int .i64 0, .int .i64 0]; replace R0 := R0.later hbA; replace R1 := R1.later hbA; replace R2 := R2.later hbA; replace R3 := R3.later hbA; replace hbel := below_on hbel hbA; have hB5 := hbA.size; have hlt4 : w4.heap.size < ((w4.alloc (.cells #[.int .i64 0, .int .i64 0, .int .i64 0] 36)).setRow w4.heap.size #[.int .i64 0, .int .i64 0, .int .i64 0]).heap.size := R4.lt; clear hbA; generalize hV : w4.alloc (.cells #[.int .i64 0, .int .i64 0, .int .i64 0] 36) = w50 at rm R0 R1 R2 R3 R4 hbel hlt4; generalize hX : w50.setRow w4.heap.size #[.int .i64 0, .int .i64 0, .int .i64 0] = w5 at R0 R1 R2 R3 R4 hbel hlt4; have d1 := tx_dot R1; have c15 := tx_time R1 hv; have R25 := R2; have hbX := below_setRow (bel_alloc (Below.refl w5.heap.size w5) (.cells #[.int .i64 0, .int .i64 0, .int .i64 0, .int .i64 0, .int .i64 0, .int .i64 0, .int .i64 0, .string noS, .slice none 0 0] 60)) (g := w5.heap.size) (Nat.le_refl _) #[.int .i64 q, .int .i64 u, .int .i64 idx, .int .i64 t, .int .i64 r.p, .int .i64 r.s, .int .i64 r.i, .string s, .slice none 0 0]; have rx := rw_new w5 60 #[.int .i64 0, .int .i64 0, .int .i64 0, .int .i64 0, .int .i64 0, .int .i64 0, .int .i64 0, .string noS, .slice none 0 0]; have RX := rx.row #[.int .i64 q, .int .i64 u, .int .i64 idx, .int .i64 t, .int .i64 r.p, .int .i64 r.s, .int .i64 r.i, .string s, .slice none 0 0]; replace R0 := R0.later hbX; replace R1 := R1.later hbX; replace R2 := R2.later hbX; replace R3 := R3.later hbX; replace R4 := R4.later hbX; replace hbel := below_on hbel hbX; clear hbX; have HB6 : Hid (w.heap.size + 4 ≤ w4.heap.size ∧ w4.heap.size < w5.heap.size) := ⟨by rw [HSZ.out]; exact Nat.le_refl _, hlt4⟩; clear HSZ hlt4 hB5; generalize hU0 : w5.alloc (.cells #[.int .i64 0, .int .i64 0, .int .i64 0, .int .i64 0, .int .i64 0, .int .i64 0, .int .i64 0, .string noS, .slice none 0 0] 60) = w51 at rx R0 R1 R2 R3 R4 RX hbel; generalize hU : w51.setRow w5.heap.size #[.int .i64 q, .int .i64 u, .int .i64 idx, .int .i64 t, .int .i64 r.p, .int .i64 r.s, .int .i64 r.i, .string s, .slice none 0 0] = w0 at R0 R1 R2 R3 R4 RX hbel; have zt := size_tx (p := q) (s := u) (t := t) (sl := sl) hv; have zd : (Tryz.prog.info? 29).map (·.size) = some [Value.int .i64 q, .int .i64 u].length := size29; have C1 := refCheck_any x _ _ _ _ w0 (HF.out.later hbel) hs; obtain ⟨y1, HY1⟩ := hid_ex (ck x); rw [HY1.out] at C1; obtain ⟨z, HZ⟩ := hid_ex (insX x (⟨q, u, idx, t, r.p, r.s, r.i, s, []⟩ : El) (bfP q u v idx)); rw [HZ.out]
  go_enter Tryz.func11, Tryz.ntmps11
  go_wp2_with (first | rw [hW] | rw [hV] | (refine store_r rfl 36 _ _ rfl w4.heap.size #[.int .i64 0, .int .i64 0, .int .i64 0] rfl rfl rm size36 rfl (by simp [Value.oneCell']) ?_; rw [hX]) | refine load_m 29 _ rfl rfl _ _ rfl d1 Tryz.underlying29 rfl zd ?_ | refine load_r 36 _ rfl rfl _ rfl R25 Tryz.underlying36 rfl size36 ?_ | rw [hU0] | (refine store_r rfl 60 _ _ rfl w5.heap.size #[.int .i64 q, .int .i64 u, .int .i64 idx, .int .i64 t, .int .i64 r.p, .int .i64 r.s, .int .i64 r.i, .string s, .slice none 0 0] rfl rfl rx size60 rfl (by simp [Value.oneCell']) ?_; rw [hU]) | refine load_r 27 _ rfl rfl _ rfl R0 Tryz.underlying27 rfl size27 ?_)
  clear hW hV hX hU hU0 rx rm d1 c15 R25; refine C1.mono ?_; clear C1; rintro e w1 ⟨rfl, hb1⟩; replace R0 := R0.later hb1; replace R1 := R1.later hb1; replace R2 := R2.later hb1; replace R3 := R3.later hb1; replace R4 := R4.later hb1; replace RX := RX.later hb1; replace hbel := below_on hbel hb1; clear hb1
  cases y1
  case' false =>
    have e0 : z = x := by
      rw [← HZ.out]; unfold insX; rw [if_neg (by rw [HY1.out]; simp)]
    subst e0
    go_upto_region 4 with fail
    go_wp2_with (first | refine load_r 27 _ rfl rfl _ rfl R0 Tryz.underlying27 rfl size27 ?_ | refine store_r rfl 27 _ _ rfl _ (cvc z.k z.b (.slice pa z.am.length ca') (.slice pw z.wr.length cw) (.slice pm z.mb.length cm) (.slice pe z.el.length ce)) rfl rfl R3 size27 rfl (by simp [Value.oneCell']) ?_)
    refine bodyPost_ret (results_r rfl rfl (R3.row (cvc z.k z.b (.slice pa z.am.length ca') (.slice pw z.wr.length cw) (.slice pm z.mb.length cm) (.slice pe z.el.length ce))) rfl Tryz.underlying27 size27) rfl ?_; exact ⟨_, _, _, _, rfl, (HF.out.later hbel).row R3 _, below_setRow hbel (by omega) _⟩
  case' true =>
    by_cases hid : idx < 1
    case' pos =>
      have hid' : decide (idx < 1) = true := decide_eq_true hid
      have e0 : z = x := by
        rw [← HZ.out]; unfold insX; rw [if_neg (by rw [HY1.out]; simp [ie, im]; omega)]
      subst e0
      go_upto_region 4 with fail
      go_wp2_with (first | refine load_r 27 _ rfl rfl _ rfl R0 Tryz.underlying27 rfl size27 ?_ | refine store_r rfl 27 _ _ rfl _ (cvc z.k z.b (.slice pa z.am.length ca') (.slice pw z.wr.length cw) (.slice pm z.mb.length cm) (.slice pe z.el.length ce)) rfl rfl R3 size27 rfl (by simp [Value.oneCell']) ?_)
      refine bodyPost_ret (results_r rfl rfl (R3.row (cvc z.k z.b (.slice pa z.am.length ca') (.slice pw z.wr.length cw) (.slice pm z.mb.length cm) (.slice pe z.el.length ce))) rfl Tryz.underlying27 size27) rfl ?_; exact ⟨_, _, _, _, rfl, (HF.out.later hbel).row R3 _, below_setRow hbel (by omega) _⟩
    case' neg =>
      have hid' : decide (idx < 1) = false := decide_eq_false hid
      by_cases hsz : 64 < s.size
      case' pos =>
        have hsz' : decide ((64 : Int) < (s.size : Int)) = true := decide_eq_true (by omega)
        have e0 : z = x := by
          rw [← HZ.out]; unfold insX; rw [if_neg (by rw [HY1.out]; simp [ie]; omega)]
        subst e0
        go_upto_region 4 with fail
        go_wp2_with (first | refine load_r 27 _ rfl rfl _ rfl R0 Tryz.underlying27 rfl size27 ?_ | refine store_r rfl 27 _ _ rfl _ (cvc z.k z.b (.slice pa z.am.length ca') (.slice pw z.wr.length cw) (.slice pm z.mb.length cm) (.slice pe z.el.length ce)) rfl rfl R3 size27 rfl (by simp [Value.oneCell']) ?_)
        refine bodyPost_ret (results_r rfl rfl (R3.row (cvc z.k z.b (.slice pa z.am.length ca') (.slice pw z.wr.length cw) (.slice pm z.mb.length cm) (.slice pe z.el.length ce))) rfl Tryz.underlying27 size27) rfl ?_; exact ⟨_, _, _, _, rfl, (HF.out.later hbel).row R3 _, below_setRow hbel (by omega) _⟩
      case' neg =>
        have hsz' : decide ((64 : Int) < (s.size : Int)) = false := decide_eq_false (by omega)
        have HIE : Hid (ie (⟨q, u, idx, t, r.p, r.s, r.i, s, []⟩ : El) = true) := by
          show _ = _
          unfold ie; rw [Bool.and_eq_true, Bool.and_eq_true, decide_eq_true_iff]; exact ⟨by show im idx = true; simp [im]; omega, by show s.size ≤ 64; omega, by show ca [] = true; decide⟩
        have c5 : w1.cell? ⟨w.heap.size, 5, none⟩ = some (.slice pe x.el.length ce) := R0.cell 5; have dx : w1.rangeAt w5.heap.size 0 [Value.int .i64 q, .int .i64 u, .int .i64 idx] := el_mark3 RX; have zx : (Tryz.prog.info? 36).map (·.size) = some [Value.int .i64 q, .int .i64 u, .int .i64 idx].length := size36; have C1 := place_any _ x.el ⟨q, u, idx⟩ w1 (HF.out.later hbel).e; obtain ⟨z1, HZ1⟩ := hid_ex (plI x.el (kM ⟨q, u, idx⟩)); rw [HZ1.out] at C1
        go_wp2_with (first | refine load_m 36 _ rfl rfl _ _ rfl dx Tryz.underlying36 rfl zx ?_)
        refine C1.mono ?_; clear C1 c5 dx; rintro e w2 ⟨rfl, hb1⟩; replace R0 := R0.later hb1; replace R1 := R1.later hb1; replace R2 := R2.later hb1; replace R3 := R3.later hb1; replace R4 := R4.later hb1; replace RX := RX.later hb1; replace hbel := below_on hbel hb1; clear hb1
        by_cases hp : 0 ≤ z1
        case' pos =>
          have hp' : decide (0 ≤ z1) = true := decide_eq_true hp
          have hps : (pl x.el (kE (⟨q, u, idx, t, r.p, r.s, r.i, s, []⟩ : El))).isSome = true := by
            have := HZ1.out
            unfold plI at this
            cases hq : pl x.el (kM ⟨q, u, idx⟩) with
            | none =>
              rw [hq] at this; replace this : (-1 : Int) = z1 := this
              omega
            | some k => exact congrArg Option.isSome hq
          have e0 : z = x := by
            rw [← HZ.out]; unfold insX; rw [if_neg (by rw [hps]; simp)]
          subst e0
          go_upto_region 4 with fail
          go_wp2_with (first | refine load_r 27 _ rfl rfl _ rfl R0 Tryz.underlying27 rfl size27 ?_ | refine store_r rfl 27 _ _ rfl _ (cvc z.k z.b (.slice pa z.am.length ca') (.slice pw z.wr.length cw) (.slice pm z.mb.length cm) (.slice pe z.el.length ce)) rfl rfl R3 size27 rfl (by simp [Value.oneCell']) ?_)
          refine bodyPost_ret (results_r rfl rfl (R3.row (cvc z.k z.b (.slice pa z.am.length ca') (.slice pw z.wr.length cw) (.slice pm z.mb.length cm) (.slice pe z.el.length ce))) rfl Tryz.underlying27 size27) rfl ?_; exact ⟨_, _, _, _, rfl, (HF.out.later hbel).row R3 _, below_setRow hbel (by omega) _⟩
        case' neg =>
          have hp' : decide (0 ≤ z1) = false := decide_eq_false hp
          have HPN : Hid (∀ y ∈ x.el, kE y ≠ kE (⟨q, u, idx, t, r.p, r.s, r.i, s, []⟩ : El)) := by
            have := HZ1.out
            unfold plI at this
            cases hq : pl x.el (kM ⟨q, u, idx⟩) with
            | none => exact pl_none.1 hq
            | some k =>
              rw [hq] at this; exact absurd (this ▸ Int.natCast_nonneg k) hp
          clear HZ1; obtain ⟨zr, HZR⟩ := hid_ex (decide (r.p = 0) && decide (r.s = 0) && decide (r.i = 0))
          have E := fun w => eq_mark w r.p r.s r.i 0 0 0
          rw [HZR.out] at E; have cr0 : w2.cell? ⟨w.heap.size + 1 + 1, 0, none⟩ = some (.int .i64 r.p) := R2.cell 0; have cr1 : w2.cell? ⟨w.heap.size + 1 + 1, 1, none⟩ = some (.int .i64 r.s) := R2.cell 1; have cr2 : w2.cell? ⟨w.heap.size + 1 + 1, 2, none⟩ = some (.int .i64 r.i) := R2.cell 2; have cz0 : w2.cell? ⟨w4.heap.size, 0, none⟩ = some (.int .i64 0) := R4.cell 0; have cz1 : w2.cell? ⟨w4.heap.size, 1, none⟩ = some (.int .i64 0) := R4.cell 1; have cz2 : w2.cell? ⟨w4.heap.size, 2, none⟩ = some (.int .i64 0) := R4.cell 2
          go_upto_if 50 with fail
          clear cr0 cr1 cr2 cz0 cz1 cz2 hp' hsz' hid' hp
          go_cut [] from 17 (fun wc => Hid (tk x.el (rE (⟨q, u, idx, t, r.p, r.s, r.i, s, []⟩ : El)) (bfP q u v idx) = true) ∧ Below w2.heap.size w2 wc)
          case first =>
            cases zr
            case' true =>
              have htk : tk x.el (rE (⟨q, u, idx, t, r.p, r.s, r.i, s, []⟩ : El)) (bfP q u v idx) = true := by
                have h0 := HZR.out; simp only [Bool.and_eq_true, decide_eq_true_eq] at h0; unfold tk; rw [decide_eq_true (show rE (⟨q, u, idx, t, r.p, r.s, r.i, s, []⟩ : El) = zK by unfold rE zK; rw [h0.1.1, h0.1.2, h0.2]), Bool.true_or]
              go_wp2_with fail
              go_meet
              case rel => exact ⟨htk, Below.refl _ _⟩
            case' false =>
              have hrz : decide (rE (⟨q, u, idx, t, r.p, r.s, r.i, s, []⟩ : El) = zK) = false := by
                rw [decide_eq_false_iff_not]; intro hc; have h0 := HZR.out; simp only [rE, zK, Prod.mk.injEq] at hc; rw [hc.1, hc.2.1, hc.2.2] at h0
                simp at h0
              have c5 : w2.cell? ⟨w.heap.size, 5, none⟩ = some (.slice pe x.el.length ce) := R0.cell 5; have C1 := place_any _ x.el r w2 (HF.out.later hbel).e; obtain ⟨z2, HZ2⟩ := hid_ex (plI x.el (kM r)); rw [HZ2.out] at C1; clear E
              go_upto_region 7 with (first | refine load_r 36 _ rfl rfl _ rfl R2 Tryz.underlying36 rfl size36 ?_ | (refine C1.mono ?_; rintro e w3 ⟨rfl, hb1⟩))
              clear C1 c5; replace R0 := R0.later hb1; replace R1 := R1.later hb1; replace R3 := R3.later hb1; replace hbel := below_on hbel hb1; have c5 : w3.cell? ⟨w.heap.size, 5, none⟩ = some (.slice pe x.el.length ce) := R0.cell 5
              by_cases hz2' : z2 < 0
              case' pos =>
                have hzd : decide (z2 < 0) = true := decide_eq_true hz2'
                have htk : tk x.el (rE (⟨q, u, idx, t, r.p, r.s, r.i, s, []⟩ : El)) (bfP q u v idx) = false := by
                  have hpn : pl x.el (rE (⟨q, u, idx, t, r.p, r.s, r.i, s, []⟩ : El)) = none := by
                    have := HZ2.out
                    unfold plI at this
                    cases hq : pl x.el (kM r) with
                    | none => exact hq
                    | some k =>
                      rw [hq] at this; replace this : (k : Int) = z2 := this
                      omega
                  unfold tk; rw [hrz, find_pl, hpn]
                  rfl
                have hs : Calm.Stays (fun w' => w'.cell? ⟨w.heap.size, 5, none⟩ = some (.slice pe x.el.length ce) ∧ Below w3.heap.size w3 w') := fun wa wb h hb => ⟨cell_later hb h.1, below_on h.2 hb⟩
                refine Calm.region (by kernel_rfl) (by kernel_rfl) (fun w' => w'.cell? ⟨w.heap.size, 5, none⟩ = some (.slice pe x.el.length ce) ∧ Below w3.heap.size w3 w') ⟨c5, (Below.refl _ w3).drew⟩ ?_
                iterate 3
                  all_goals
                    refine Calm.pure (v := ?_) (by rfl) ?_ ?_; rotate_left; focus (intro w hSw; go_simp <;> rfl)
                    simp only [put4]
                iterate 8
                  all_goals
                    first
                      | (refine Calm.skip ?_ ?_; focus rfl)
                      | (refine Calm.pure (v := ?_) (by rfl) ?_ ?_
                         rotate_left
                         focus (intro w hSw; go_simp <;> rfl))
                    simp only [put4]
                all_goals
                  first
                    | (refine Calm.skip ?_ ?_; focus rfl)
                    | (refine Calm.call3s (by rfl) rfl rfl rfl rfl (by kernel_rfl) hs (fun w1 h => trivial) ?_)
                  simp only [put4]
                iterate 9
                  all_goals
                    first
                      | (refine Calm.skip ?_ ?_; focus rfl)
                      | (refine Calm.pure (v := ?_) (by rfl) ?_ ?_
                         rotate_left
                         focus (intro w hSw; go_simp <;> rfl))
                    simp only [put4]
                all_goals
                  refine Calm.pure (v := ?_) (by rfl) ?_ ?_; rotate_left; focus (intro w hSw; go_simp <;> rfl)
                  simp only [put4]
                all_goals
                  rintro w9 ⟨_, hb9⟩
                replace R0 := R0.later hb9; replace R3 := R3.later hb9; replace hbel := below_on hbel hb9; clear hb9 c5
                have e0 : z = x := by
                  rw [← HZ.out]; unfold insX; rw [if_neg (by rw [htk]; simp)]
                subst e0
                go_wp2_with (first | refine load_r 27 _ rfl rfl _ rfl R0 Tryz.underlying27 rfl size27 ?_ | refine store_r rfl 27 _ _ rfl _ (cvc z.k z.b (.slice pa z.am.length ca') (.slice pw z.wr.length cw) (.slice pm z.mb.length cm) (.slice pe z.el.length ce)) rfl rfl R3 size27 rfl (by simp [Value.oneCell']) ?_)
                refine bodyPost_ret (results_r rfl rfl (R3.row (cvc z.k z.b (.slice pa z.am.length ca') (.slice pw z.wr.length cw) (.slice pm z.mb.length cm) (.slice pe z.el.length ce))) rfl Tryz.underlying27 size27) rfl ?_; exact ⟨_, _, _, _, rfl, (HF.out.later hbel).row R3 _, below_setRow hbel (by omega) _⟩
              case' neg =>
                have hzd : decide (z2 < 0) = false := decide_eq_false hz2'
                obtain ⟨k, hk, rfl⟩ : ∃ k, pl x.el (kM r) = some k ∧ z2 = (k : Int) := by
                  have := HZ2.out
                  unfold plI at this
                  cases hq : pl x.el (kM r) with
                  | none =>
                    rw [hq] at this; replace this : (-1 : Int) = z2 := this
                    omega
                  | some k => rw [hq] at this; exact ⟨k, rfl, this.symm⟩
                obtain ⟨hkl, _⟩ := pl_some hk; obtain ⟨ys, hys, hse, hy⟩ := HF.out.e
                have hky : k < ys.length := by rw [← hys, List.length_map] at hkl; exact hkl
                obtain ⟨g, o, e1, hr0⟩ := hse.at (by omega); subst e1; have dk := El.elem hr0 k hky
                have ey : ys[k].1 = x.el[k] := by simp only [← hys, List.getElem_map]
                have hyk := hy ys[k] (List.getElem_mem _); have hg1 := hs.ei x.el[k] (List.getElem_mem _)
                have htk0 : tk x.el (rE (⟨q, u, idx, t, r.p, r.s, r.i, s, []⟩ : El)) (bfP q u v idx) = !x.el[k].gone.any (bfP q u v idx) := by
                  unfold tk; rw [hrz, find_pl, show pl x.el (rE (⟨q, u, idx, t, r.p, r.s, r.i, s, []⟩ : El)) = some k from hk, Option.bind_some, List.getElem?_eq_getElem hkl]
                  rfl
                obtain ⟨yy, HX⟩ := hid_ex ys[k]; rw [HX.out] at dk ey hyk; obtain ⟨y, yv⟩ := yy; replace ey : y = x.el[k] := ey; rw [← ey] at hg1 htk0; replace hyk : MHas w yv y.gone := hyk; obtain ⟨py, cy, rfl⟩ := hyk.slice; have c8 : w3.cell? ⟨g, o + k * 9 + 8, none⟩ = some (.slice py y.gone.length cy) := cell_later hbel (dk 8 _ rfl)
                have C2 := fun w' (hb : Below w3.heap.size w3 w') => refLeft_any _ y.gone q u v t sl idx w' hv ((hyk.later hbel).later hb) hg1
                unfold LePost at C2; obtain ⟨nl, HNL⟩ := hid_ex (y.gone.filter (fun y => !bf y.p y.s y.i q u v idx)).length
                have HBB0 : Hid (decide (nl < y.gone.length) = y.gone.any (bfP q u v idx)) := by
                  show _ = _
                  rw [← HNL.out]; exact any_lt (f := bfP q u v idx)
                obtain ⟨bb, HBB⟩ := hid_ex (y.gone.any (bfP q u v idx)); rw [HBB.out] at HBB0 htk0
                have hk0 : (0 : Int) ≤ (k : Int) := by omega
                have hk1 : (k : Int) < (x.el.length : Int) := by omega
                have ztx : (Tryz.prog.info? 34).map (·.size) = some (txc q u v t sl).length := by rw [txc_length hv]; exact size34
                have hbb' : decide ((nl : Int) < (y.gone.length : Int)) = bb := by rw [← HBB0.out]; simp
                clear dk ey hr0 hse hy HX hg1 hys hky hk HZ2 hz2'
                have hS : Calm.Stays (fun w' => Below w3.heap.size w3 w') := fun wa wb h hb => below_on h hb
                have hF : Facts.Stay [pF 0 (eqP (.int .i64 k)), pF 1 (eqP (.bool false)), pF 2 (eqP (.bool false)), pF 3 (eqP (.pointer (some ⟨w.heap.size, 5, none⟩))), pF 4 (eqP (.slice (some ⟨g, o, none⟩) x.el.length ce)), pF 5 (eqP (.int .i64 k)), pF 6 (eqP (.pointer (some ⟨g, o + k * 9, none⟩))), pF 7 (eqP (.pointer (some ⟨g, o + k * 9 + 8, none⟩))), pF 8 (eqP (.slice py y.gone.length cy)), pF 9 (eqP (.agg (txc q u v t sl).toArray)), pF 10 (eqP (.int .i64 idx)), pF 11 ((fun (v' : Value) (_ : World) => ∃ p' c', v' = .slice p' nl c')), pF 12 (eqP (.int .i64 nl)), pF 13 (eqP (.pointer (some ⟨w.heap.size, 5, none⟩))), pF 14 (eqP (.slice (some ⟨g, o, none⟩) x.el.length ce)), pF 15 (eqP (.int .i64 k)), pF 16 (eqP (.pointer (some ⟨g, o + k * 9, none⟩))), pF 17 (eqP (.pointer (some ⟨g, o + k * 9 + 8, none⟩))), pF 18 (eqP (.slice py y.gone.length cy)), pF 19 (eqP (.int .i64 y.gone.length)), pF 20 (eqP (.bool bb)), pF 21 (eqP (.bool bb))] := stay_of (by simp only [List.forall_mem_cons]; exact ⟨⟨_, _, rfl, eqP_keeps _⟩, ⟨_, _, rfl, eqP_keeps _⟩, ⟨_, _, rfl, eqP_keeps _⟩, ⟨_, _, rfl, eqP_keeps _⟩, ⟨_, _, rfl, eqP_keeps _⟩, ⟨_, _, rfl, eqP_keeps _⟩, ⟨_, _, rfl, eqP_keeps _⟩, ⟨_, _, rfl, eqP_keeps _⟩, ⟨_, _, rfl, eqP_keeps _⟩, ⟨_, _, rfl, eqP_keeps _⟩, ⟨_, _, rfl, eqP_keeps _⟩, ⟨_, _, rfl, (fun _ _ _ h _ => h)⟩, ⟨_, _, rfl, eqP_keeps _⟩, ⟨_, _, rfl, eqP_keeps _⟩, ⟨_, _, rfl, eqP_keeps _⟩, ⟨_, _, rfl, eqP_keeps _⟩, ⟨_, _, rfl, eqP_keeps _⟩, ⟨_, _, rfl, eqP_keeps _⟩, ⟨_, _, rfl, eqP_keeps _⟩, ⟨_, _, rfl, eqP_keeps _⟩, ⟨_, _, rfl, eqP_keeps _⟩, ⟨_, _, rfl, eqP_keeps _⟩, fun _ h => by cases h⟩); refine FactsG.region (by kernel_rfl) (by kernel_rfl) (fun w' => Below w3.heap.size w3 w') (fun xv => { tmps := #[CV x.k x.b (Value.slice pa x.am.length ca') (Value.slice pw x.wr.length cw) (Value.slice pm x.mb.length cm) (Value.slice (some { block := g, off := o }) x.el.length ce), TxV q u v t sl, Value.int IntKind.i64 idx, MV r.p r.s r.i, Value.string s, Value.pointer (some { block := w.heap.size, off := 0 }), Value.pointer (some { block := w.heap.size + 1, off := 0 }), undef, Value.pointer (some { block := w.heap.size + 1 + 1, off := 0 }), undef, Value.pointer (some { block := w.heap.size + 1 + 1 + 1, off := 0 }), Value.pointer (some { block := w4.heap.size, off := 0 }), Value.pointer (some { block := w5.heap.size, off := 0 }), Value.int IntKind.i64 ↑k, undef, undef, undef, Value.agg #[Value.int IntKind.i64 0, Value.int IntKind.i64 0, Value.int IntKind.i64 0], Value.pointer (some { block := w.heap.size + 1, off := 0 }), Value.agg #[Value.int IntKind.i64 q, Value.int IntKind.i64 u], Value.int IntKind.i64 idx, Value.agg #[Value.int IntKind.i64 q, Value.int IntKind.i64 u, Value.int IntKind.i64 idx], Value.pointer (some { block := w.heap.size + 1, off := 15 }), Value.int IntKind.i64 t, Value.agg #[Value.int IntKind.i64 r.p, Value.int IntKind.i64 r.s, Value.int IntKind.i64 r.i], Value.string s, Value.agg #[Value.int IntKind.i64 q, Value.int IntKind.i64 u, Value.int IntKind.i64 idx, Value.int IntKind.i64 t, Value.int IntKind.i64 r.p, Value.int IntKind.i64 r.s, Value.int IntKind.i64 r.i, Value.string s, Value.slice none 0 0], Value.agg (cvc x.k x.b (Value.slice pa x.am.length ca') (Value.slice pw x.wr.length cw) (Value.slice pm x.mb.length cm) (Value.slice (some { block := g, off := o }) x.el.length ce)), Value.bool true, Value.bool false, Value.bool false, Value.int IntKind.i64 idx, Value.bool false, Value.bool false, Value.bool false, Value.string s, Value.int IntKind.i64 ↑s.size, Value.bool false, Value.bool false, Value.bool false, Value.pointer (some { block := w.heap.size, off := 5 }), Value.slice (some { block := g, off := o }) x.el.length ce, Value.pointer (some { block := w5.heap.size, off := 0 }), Value.agg #[Value.int IntKind.i64 q, Value.int IntKind.i64 u, Value.int IntKind.i64 idx], Value.int IntKind.i64 z1, Value.bool false, Value.bool false, undef, Value.agg #[Value.int IntKind.i64 r.p, Value.int IntKind.i64 r.s, Value.int IntKind.i64 r.i], Value.agg #[Value.int IntKind.i64 0, Value.int IntKind.i64 0, Value.int IntKind.i64 0], Value.bool true, Value.pointer (some { block := w.heap.size, off := 5 }), Value.slice (some { block := g, off := o }) x.el.length ce, Value.agg #[Value.int IntKind.i64 r.p, Value.int IntKind.i64 r.s, Value.int IntKind.i64 r.i], Value.int IntKind.i64 ↑k, xv 0, xv 1, xv 2, xv 3, xv 4, xv 5, xv 6, xv 7, xv 8, xv 9, xv 10, xv 11, xv 12, xv 13, xv 14, xv 15, xv 16, xv 17, xv 18, xv 19, xv 20, xv 21, undef, undef, undef, undef, undef, undef, undef, undef, undef, undef, undef, undef, undef, undef, undef, undef, undef, undef, undef, undef, undef, undef, undef, undef, undef, undef, undef, undef, undef, undef, undef, undef, undef, undef, undef, undef, undef, undef, undef, undef, undef, undef], defers := [] }) [pF 0 (eqP (.int .i64 k)), pF 1 (eqP (.bool false)), pF 2 (eqP (.bool false)), pF 3 (eqP (.pointer (some ⟨w.heap.size, 5, none⟩))), pF 4 (eqP (.slice (some ⟨g, o, none⟩) x.el.length ce)), pF 5 (eqP (.int .i64 k)), pF 6 (eqP (.pointer (some ⟨g, o + k * 9, none⟩))), pF 7 (eqP (.pointer (some ⟨g, o + k * 9 + 8, none⟩))), pF 8 (eqP (.slice py y.gone.length cy)), pF 9 (eqP (.agg (txc q u v t sl).toArray)), pF 10 (eqP (.int .i64 idx)), pF 11 ((fun (v' : Value) (_ : World) => ∃ p' c', v' = .slice p' nl c')), pF 12 (eqP (.int .i64 nl)), pF 13 (eqP (.pointer (some ⟨w.heap.size, 5, none⟩))), pF 14 (eqP (.slice (some ⟨g, o, none⟩) x.el.length ce)), pF 15 (eqP (.int .i64 k)), pF 16 (eqP (.pointer (some ⟨g, o + k * 9, none⟩))), pF 17 (eqP (.pointer (some ⟨g, o + k * 9 + 8, none⟩))), pF 18 (eqP (.slice py y.gone.length cy)), pF 19 (eqP (.int .i64 y.gone.length)), pF 20 (eqP (.bool bb)), pF 21 (eqP (.bool bb))] (fun _ _ _ _ => True) (fun _ _ _ _ _ => trivial) _ rfl rfl (by kernel_rfl) (fun j => [undef, undef, undef, undef, undef, undef, undef, undef, undef, undef, undef, undef, undef, undef, undef, undef, undef, undef, undef, undef, undef, undef].getD j undef) rfl (Below.refl _ w3).drew ⟨?_, ?_, ?_, ?_, ?_, ?_, ?_, ?_, ?_, ?_, ?_, ?_, ?_, ?_, ?_, ?_, ?_, ?_, ?_, ?_, ?_, ?_, trivial⟩ ?_
                · exact FactsG.of rfl (fun _ _ _ => trivial) (fun _ _ _ _ => rfl) (Facts.pureP hS hF (fun _ _ => rfl) rfl (fun xv wv hSw hd => by
                    go_simp))
                · exact FactsG.of rfl (fun _ _ _ => trivial) (fun _ _ _ _ => rfl) (Facts.pureP hS hF (fun _ _ => rfl) rfl (fun xv wv hSw hd => by
                    have d0 : xv 0 = _ := pF_get (hd ⟨0, .data⟩ (by simp) rfl _ rfl); simp only [d0]
                    go_simp))
                · exact FactsG.of rfl (fun _ _ _ => trivial) (fun _ _ _ _ => rfl) (Facts.pureP hS hF (fun _ _ => rfl) rfl (fun xv wv hSw hd => by
                    have d1 : xv 1 = _ := pF_get (hd ⟨1, .data⟩ (by simp) rfl _ rfl); simp only [d1]
                    go_simp))
                · exact FactsG.of rfl (fun _ _ _ => trivial) (fun xv wv hSw hd => by have dg : xv 2 = _ := pF_get (hd ⟨2, .guard⟩ (by simp) rfl _ rfl); simp only [dg]; rfl) (Facts.pureP hS hF (fun _ _ => rfl) rfl (fun xv wv hSw hd => by
                    go_simp))
                · exact FactsG.of rfl (fun _ _ _ => trivial) (fun xv wv hSw hd => by have dg : xv 2 = _ := pF_get (hd ⟨2, .guard⟩ (by simp) rfl _ rfl); simp only [dg]; rfl) (Facts.pureP hS hF (fun _ _ => rfl) rfl (fun xv wv hSw hd => by
                    have d3 : xv 3 = _ := pF_get (hd ⟨3, .data⟩ (by simp) rfl _ rfl); have g5 := cell_later hSw c5; have g8 := cell_later hSw c8; simp only [d3]
                    go_simp))
                · exact FactsG.of rfl (fun _ _ _ => trivial) (fun xv wv hSw hd => by have dg : xv 2 = _ := pF_get (hd ⟨2, .guard⟩ (by simp) rfl _ rfl); simp only [dg]; rfl) (Facts.pureP hS hF (fun _ _ => rfl) rfl (fun xv wv hSw hd => by
                    go_simp))
                · exact FactsG.of rfl (fun _ _ _ => trivial) (fun xv wv hSw hd => by have dg : xv 2 = _ := pF_get (hd ⟨2, .guard⟩ (by simp) rfl _ rfl); simp only [dg]; rfl) (Facts.pureP hS hF (fun _ _ => rfl) rfl (fun xv wv hSw hd => by
                    have d4 : xv 4 = _ := pF_get (hd ⟨4, .data⟩ (by simp) rfl _ rfl); have d5 : xv 5 = _ := pF_get (hd ⟨5, .data⟩ (by simp) rfl _ rfl); simp only [d4, d5]
                    go_simp))
                · exact FactsG.of rfl (fun _ _ _ => trivial) (fun xv wv hSw hd => by have dg : xv 2 = _ := pF_get (hd ⟨2, .guard⟩ (by simp) rfl _ rfl); simp only [dg]; rfl) (Facts.pureP hS hF (fun _ _ => rfl) rfl (fun xv wv hSw hd => by
                    have d6 : xv 6 = _ := pF_get (hd ⟨6, .data⟩ (by simp) rfl _ rfl); simp only [d6]
                    go_simp))
                · exact FactsG.of rfl (fun _ _ _ => trivial) (fun xv wv hSw hd => by have dg : xv 2 = _ := pF_get (hd ⟨2, .guard⟩ (by simp) rfl _ rfl); simp only [dg]; rfl) (Facts.pureP hS hF (fun _ _ => rfl) rfl (fun xv wv hSw hd => by
                    have d7 : xv 7 = _ := pF_get (hd ⟨7, .data⟩ (by simp) rfl _ rfl); have g5 := cell_later hSw c5; have g8 := cell_later hSw c8; simp only [d7]
                    go_simp))
                · exact FactsG.of rfl (fun _ _ _ => trivial) (fun xv wv hSw hd => by have dg : xv 2 = _ := pF_get (hd ⟨2, .guard⟩ (by simp) rfl _ rfl); simp only [dg]; rfl) (Facts.loadP hS hF (fun _ _ => rfl) 34 Tryz.underlying34 rfl ztx _ rfl rfl (fun xv wv hSw hd => by rfl) (fun wv hSw => Rw.whole (cs := (txc q u v t sl)) (R1.later hSw)))
                · exact FactsG.of rfl (fun _ _ _ => trivial) (fun xv wv hSw hd => by have dg : xv 2 = _ := pF_get (hd ⟨2, .guard⟩ (by simp) rfl _ rfl); simp only [dg]; rfl) (Facts.pureP hS hF (fun _ _ => rfl) rfl (fun xv wv hSw hd => by
                    go_simp))
                · refine FactsG.of rfl (fun _ _ _ => trivial) (fun xv wv hSw hd => by have dg : xv 2 = _ := pF_get (hd ⟨2, .guard⟩ (by simp) rfl _ rfl); simp only [dg]; rfl) (Facts.call3P hS hF (fun _ _ => rfl) rfl (by kernel_rfl) rfl (fun xv wv hSw hd => ?_))
                  have d8 : xv 8 = _ := pF_get (hd ⟨8, .data⟩ (by simp) rfl _ rfl); have d9 : xv 9 = _ := pF_get (hd ⟨9, .data⟩ (by simp) rfl _ rfl); have d10 : xv 10 = _ := pF_get (hd ⟨10, .data⟩ (by simp) rfl _ rfl)
                  show Calls Tryz.prog 37 #[xv 8, xv 9, xv 10] wv _
                  rw [d8, d9, d10]; refine (C2 wv hSw).mono ?_; rintro e w' ⟨u', he, ho, hb⟩; obtain ⟨p', c', rfl⟩ := own_sl ho; exact ⟨_, he, ⟨p', c', by rw [HNL.out]⟩, hb⟩
                · refine FactsG.of rfl (fun _ _ _ => trivial) (fun xv wv hSw hd => by have dg : xv 2 = _ := pF_get (hd ⟨2, .guard⟩ (by simp) rfl _ rfl); simp only [dg]; rfl) (Facts.pureP hS hF (fun _ _ => rfl) rfl (fun xv wv hSw hd => ?_))
                  obtain ⟨p', c', e11⟩ := pF_get (hd ⟨11, .data⟩ (by simp) rfl _ rfl); simp only [e11]
                  go_simp
                · exact FactsG.of rfl (fun _ _ _ => trivial) (fun xv wv hSw hd => by have dg : xv 2 = _ := pF_get (hd ⟨2, .guard⟩ (by simp) rfl _ rfl); simp only [dg]; rfl) (Facts.pureP hS hF (fun _ _ => rfl) rfl (fun xv wv hSw hd => by
                    go_simp))
                · exact FactsG.of rfl (fun _ _ _ => trivial) (fun xv wv hSw hd => by have dg : xv 2 = _ := pF_get (hd ⟨2, .guard⟩ (by simp) rfl _ rfl); simp only [dg]; rfl) (Facts.pureP hS hF (fun _ _ => rfl) rfl (fun xv wv hSw hd => by
                    have d13 : xv 13 = _ := pF_get (hd ⟨13, .data⟩ (by simp) rfl _ rfl); have g5 := cell_later hSw c5; have g8 := cell_later hSw c8; simp only [d13]
                    go_simp))
                · exact FactsG.of rfl (fun _ _ _ => trivial) (fun xv wv hSw hd => by have dg : xv 2 = _ := pF_get (hd ⟨2, .guard⟩ (by simp) rfl _ rfl); simp only [dg]; rfl) (Facts.pureP hS hF (fun _ _ => rfl) rfl (fun xv wv hSw hd => by
                    go_simp))
                · exact FactsG.of rfl (fun _ _ _ => trivial) (fun xv wv hSw hd => by have dg : xv 2 = _ := pF_get (hd ⟨2, .guard⟩ (by simp) rfl _ rfl); simp only [dg]; rfl) (Facts.pureP hS hF (fun _ _ => rfl) rfl (fun xv wv hSw hd => by
                    have d14 : xv 14 = _ := pF_get (hd ⟨14, .data⟩ (by simp) rfl _ rfl); have d15 : xv 15 = _ := pF_get (hd ⟨15, .data⟩ (by simp) rfl _ rfl); simp only [d14, d15]
                    go_simp))
                · exact FactsG.of rfl (fun _ _ _ => trivial) (fun xv wv hSw hd => by have dg : xv 2 = _ := pF_get (hd ⟨2, .guard⟩ (by simp) rfl _ rfl); simp only [dg]; rfl) (Facts.pureP hS hF (fun _ _ => rfl) rfl (fun xv wv hSw hd => by
                    have d16 : xv 16 = _ := pF_get (hd ⟨16, .data⟩ (by simp) rfl _ rfl); simp only [d16]
                    go_simp))
                · exact FactsG.of rfl (fun _ _ _ => trivial) (fun xv wv hSw hd => by have dg : xv 2 = _ := pF_get (hd ⟨2, .guard⟩ (by simp) rfl _ rfl); simp only [dg]; rfl) (Facts.pureP hS hF (fun _ _ => rfl) rfl (fun xv wv hSw hd => by
                    have d17 : xv 17 = _ := pF_get (hd ⟨17, .data⟩ (by simp) rfl _ rfl); have g5 := cell_later hSw c5; have g8 := cell_later hSw c8; simp only [d17]
                    go_simp))
                · exact FactsG.of rfl (fun _ _ _ => trivial) (fun xv wv hSw hd => by have dg : xv 2 = _ := pF_get (hd ⟨2, .guard⟩ (by simp) rfl _ rfl); simp only [dg]; rfl) (Facts.pureP hS hF (fun _ _ => rfl) rfl (fun xv wv hSw hd => by
                    have d18 : xv 18 = _ := pF_get (hd ⟨18, .data⟩ (by simp) rfl _ rfl); simp only [d18]
                    go_simp))
                · exact FactsG.of rfl (fun _ _ _ => trivial) (fun xv wv hSw hd => by have dg : xv 2 = _ := pF_get (hd ⟨2, .guard⟩ (by simp) rfl _ rfl); simp only [dg]; rfl) (Facts.pureP hS hF (fun _ _ => rfl) rfl (fun xv wv hSw hd => by
                    have d12 : xv 12 = _ := pF_get (hd ⟨12, .data⟩ (by simp) rfl _ rfl); have d19 : xv 19 = _ := pF_get (hd ⟨19, .data⟩ (by simp) rfl _ rfl); simp only [d12, d19]
                    go_simp
                    exact HBB0.out))
                · exact FactsG.of rfl (fun _ _ _ => trivial) (fun _ _ _ _ => rfl) (Facts.pureP hS hF (fun _ _ => rfl) rfl (fun xv wv hSw hd => by
                    have d2 : xv 2 = _ := pF_get (hd ⟨2, .data⟩ (by simp) rfl _ rfl); have d20 : xv 20 = _ := pF_get (hd ⟨20, .data⟩ (by simp) rfl _ rfl); simp only [d2, d20]
                    go_simp))
                rintro xq w9 hb9 hff _; have e21 : xq 21 = _ := pF_get (hff 21 _ (by decide) rfl); simp only [e21]; clear hff hS hF e21 C2 c8; replace R0 := R0.later hb9; replace R3 := R3.later hb9; replace hbel := below_on hbel hb9; clear c5
                cases bb
                case' true =>
                  have e0 : z = x := by
                    rw [← HZ.out]; unfold insX; rw [if_neg (by rw [htk0]; simp)]
                  subst e0
                  go_wp2_with (first | refine load_r 27 _ rfl rfl _ rfl R0 Tryz.underlying27 rfl size27 ?_ | refine store_r rfl 27 _ _ rfl _ (cvc z.k z.b (.slice pa z.am.length ca') (.slice pw z.wr.length cw) (.slice pm z.mb.length cm) (.slice (some ⟨g, o, none⟩) z.el.length ce)) rfl rfl R3 size27 rfl (by simp [Value.oneCell']) ?_)
                  refine bodyPost_ret (results_r rfl rfl (R3.row (cvc z.k z.b (.slice pa z.am.length ca') (.slice pw z.wr.length cw) (.slice pm z.mb.length cm) (.slice (some ⟨g, o, none⟩) z.el.length ce))) rfl Tryz.underlying27 size27) rfl ?_; exact ⟨_, _, _, _, rfl, (HF.out.later hbel).row R3 _, below_setRow hbel (by omega) _⟩
                case' false =>
                  go_wp2_with fail
                  go_meet
                  case rel => exact ⟨htk0, below_on hb1 hb9⟩
          case rest =>
            obtain ⟨HTK, hbC⟩ := hcut; replace R0 := R0.later hbC; replace R1 := R1.later hbC; replace R2 := R2.later hbC; replace R3 := R3.later hbC; replace R4 := R4.later hbC; replace RX := RX.later hbC; replace hbel := below_on hbel hbC; clear hbC E HZR
            obtain rfl : z = { x with el := insE (⟨q, u, idx, t, r.p, r.s, r.i, s, []⟩ : El) x.el } := by
              rw [← HZ.out]; unfold insX; rw [if_pos (by rw [HY1.out, HIE.out, HTK.out, pl_none.2 HPN.out]; rfl)]
            obtain ⟨ys, hys, hse, hy⟩ := HF.out.e
            have HINS : Hid ((insS (fun a b : El × Value => kl (kE a.1) (kE b.1)) ((⟨q, u, idx, t, r.p, r.s, r.i, s, []⟩ : El), Value.slice none 0 0) ys).map (·.1) = insE (⟨q, u, idx, t, r.p, r.s, r.i, s, []⟩ : El) x.el) := by
              show _ = _
              rw [← ins_insS (ce_up (ck_parts HY1.out).2.2.2.2.2.1) HPN.out, ← hys]
              exact (insS_map (bh := fun a b => kl (kE a) (kE b)) (·.1) (fun _ _ => rfl) ((⟨q, u, idx, t, r.p, r.s, r.i, s, []⟩ : El), Value.slice none 0 0) ys).symm
            have HYL : Hid (ys.length = x.el.length) := by show _ = _; rw [← hys, List.length_map]
            have HSE : Hid (SHas 9 w (.slice pe x.el.length ce) x.el.length (rows El.cells ys)) := hse; have hl100 := hs.e; clear hse hys HZ HTK HIE; have c5 : wc.cell? ⟨w.heap.size, 5, none⟩ = some (.slice pe x.el.length ce) := R0.cell 5; go_wp2_with fail
            go_loopw [14, 15, 16] (fun vo vd vi wr => ∃ (k : Nat) (fl : Bool) (nx : List (El × Value)), vi = .int .i64 k ∧ k ≤ x.el.length ∧ vd = .bool fl ∧ wr.ownsRow wc.heap.size 60 9 vo nx.length (rows El.cells nx) ∧ NJ (fun a b : El × Value => kl (kE a.1) (kE b.1)) ((⟨q, u, idx, t, r.p, r.s, r.i, s, []⟩ : El), Value.slice none 0 0) ys k fl nx ∧ (∀ a ∈ nx, MHas w a.2 a.1.gone) ∧ Below wc.heap.size wc wr) (fun _ _ vi _ => x.el.length - (intOf vi).toNat)
            case atStart => exact ⟨0, false, [], rfl, by omega, rfl, World.ownsRow_nil _ _ _ _, NJ_zero, (fun _ h => by cases h), Below.refl _ _⟩
            case round =>
              obtain ⟨k, fl, nx, rfl, hk, rfl, hown, HNI, hms, hb9⟩ := hrel; have hnx : nx.length ≤ k + 1 := NJ_len HNI (by rw [HYL.out]; exact hk); have c5C := c5; replace c5 := cell_later hb9 c5
              by_cases hlt : k < x.el.length
              case' pos =>
                obtain ⟨Q, qc, rfl⟩ := own_sl hown
                have hlt' : (k : Int) < (x.el.length : Int) := by omega
                have hk0 : (0 : Int) ≤ (k : Int) := by omega
                have hky : k < ys.length := by rw [HYL.out]; exact hlt
                obtain ⟨g, o, e1, hr0⟩ := HSE.out.at (by omega); subst e1; have dk0 := El.elem hr0 k hky; have hyk := hy ys[k] (List.getElem_mem _); obtain ⟨yy, HX⟩ := hid_ex ys[k]; rw [HX.out] at dk0 hyk; have dkC := range_later dk0 hbel
                have dm : wr.rangeAt g (o + k * 9) [Value.int .i64 yy.1.p, .int .i64 yy.1.s, .int .i64 yy.1.i] := range_sub (o := o + k * 9) (xs := El.cells yy) (range_later dkC hb9) 0 (fun j a ha => by
                  rw [Nat.zero_add]
                  match j, ha with
                  | 0, h => exact h
                  | 1, h => exact h
                  | 2, h => exact h
                  | j + 3, h => simp at h)
                have HRX := RX; have dx := el_mark3 (RX.later hb9); have zx : (Tryz.prog.info? 36).map (·.size) = some [Value.int .i64 q, .int .i64 u, .int .i64 idx].length := size36; have zy : (Tryz.prog.info? 36).map (·.size) = some [Value.int .i64 yy.1.p, .int .i64 yy.1.s, .int .i64 yy.1.i].length := size36; have zk : (Tryz.prog.info? 60).map (·.size) = some (El.cells yy).length := size60
                have CA : ∀ w, Calls Tryz.prog 28 #[MV q u idx, MV yy.1.p yy.1.s yy.1.i] w (Tells (.bool (kl (kE (⟨q, u, idx, t, r.p, r.s, r.i, s, []⟩ : El)) (kE yy.1))) w) := fun w => refLess_any q u idx yy.1.p yy.1.s yy.1.i w
                obtain ⟨z3, HZ3⟩ := hid_ex (kl (kE (⟨q, u, idx, t, r.p, r.s, r.i, s, []⟩ : El)) (kE yy.1)); rw [HZ3.out] at CA
                have hms2x : ∀ a ∈ nx ++ [yy], MHas w a.2 a.1.gone := fun a ha => by
                  rcases List.mem_append.1 ha with h | h
                  · exact hms a h
                  · rw [List.mem_singleton.1 h]
                    exact hyk
                clear hr0 dk0
                cases fl
                case' false =>
                  cases z3
                  case' false =>
                    have HI : NJ (fun a b : El × Value => kl (kE a.1) (kE b.1)) ((⟨q, u, idx, t, r.p, r.s, r.i, s, []⟩ : El), Value.slice none 0 0) ys (k + 1) false (nx ++ [yy]) := by
                      have := NJ_skip hky HNI (by rw [HX.out]; exact HZ3.out)
                      rw [HX.out] at this; exact this
                    have hms2 := hms2x; clear HNI HZ3 HX hms2x; go_wp2_with fail
                    have hs : Calm.Stays (fun w' => w'.cell? ⟨w.heap.size, 5, none⟩ = some (.slice (some ⟨g, o, none⟩) x.el.length ce) ∧ w'.rangeAt w5.heap.size 0 [Value.int .i64 q, .int .i64 u, .int .i64 idx] ∧ w'.rangeAt g (o + k * 9) [Value.int .i64 yy.1.p, .int .i64 yy.1.s, .int .i64 yy.1.i] ∧ w'.ownsRow wc.heap.size 60 9 (.slice Q nx.length qc) nx.length (rows El.cells nx) ∧ Below wc.heap.size wc w') := fun wa wb h hb => ⟨cell_later hb h.1, range_later h.2.1 hb, range_later h.2.2.1 hb, own_later h.2.2.2.1 hb, below_on h.2.2.2.2 hb⟩
                    refine Calm.region (by kernel_rfl) (by kernel_rfl) (fun w' => w'.cell? ⟨w.heap.size, 5, none⟩ = some (.slice (some ⟨g, o, none⟩) x.el.length ce) ∧ w'.rangeAt w5.heap.size 0 [Value.int .i64 q, .int .i64 u, .int .i64 idx] ∧ w'.rangeAt g (o + k * 9) [Value.int .i64 yy.1.p, .int .i64 yy.1.s, .int .i64 yy.1.i] ∧ w'.ownsRow wc.heap.size 60 9 (.slice Q nx.length qc) nx.length (rows El.cells nx) ∧ Below wc.heap.size wc w') ⟨c5, dx, dm, hown, hb9.drew⟩ ?_
                    iterate 3
                      all_goals
                        refine Calm.pure (v := ?_) (by rfl) ?_ ?_; rotate_left; focus (intro w hSw; go_simp <;> rfl)
                        simp only [put4]
                    all_goals
                      first
                        | (refine Calm.skip ?_ ?_; focus rfl)
                        | (refine Calm.pure (v := ?_) (by rfl) ?_ ?_
                           rotate_left
                           focus (intro w hSw; go_simp <;> rfl))
                      simp only [put4]
                    all_goals
                      first
                        | (refine Calm.skip ?_ ?_; focus rfl)
                        | (first | (refine Calm.loadM 36 Tryz.underlying36 rfl zx (by rfl) _ rfl rfl (fun _ h => h.2.1) ?_) | (refine Calm.loadM 36 Tryz.underlying36 rfl zy (by rfl) _ rfl rfl (fun _ h => h.2.2.1) ?_))
                      simp only [put4]
                    iterate 5
                      all_goals
                        first
                          | (refine Calm.skip ?_ ?_; focus rfl)
                          | (refine Calm.pure (v := ?_) (by rfl) ?_ ?_
                             rotate_left
                             focus (intro w hSw; go_simp <;> rfl))
                        simp only [put4]
                    all_goals
                      first
                        | (refine Calm.skip ?_ ?_; focus rfl)
                        | (first | (refine Calm.loadM 36 Tryz.underlying36 rfl zx (by rfl) _ rfl rfl (fun _ h => h.2.1) ?_) | (refine Calm.loadM 36 Tryz.underlying36 rfl zy (by rfl) _ rfl rfl (fun _ h => h.2.2.1) ?_))
                      simp only [put4]
                    all_goals
                      first
                        | (refine Calm.skip ?_ ?_; focus rfl)
                        | (refine Calm.call2s (by rfl) rfl rfl rfl (by kernel_rfl) hs (fun w1 h => CA w1) ?_)
                      simp only [put4]
                    all_goals
                      refine Calm.pure (v := ?_) (by rfl) ?_ ?_; rotate_left; focus (intro w hSw; go_simp <;> rfl)
                      simp only [put4]
                    all_goals
                      rintro w9 ⟨c59, _, _, hown9, hb10⟩
                    clear CA dx dm c5 hown; replace hb9 := hb10; have dkn := range_later dkC hb9
                    have h1a : ∀ q' u', ((El.cells yy) : List Value)[q']? = some u' → (w9.alloc (.cells (El.cells yy).toArray 60)).cell? ((⟨w9.heap.size, 0, none⟩ : Addr).add q') = some u' := fun q' u' hq => (cells_new w9 (El.cells yy) 60 q').trans hq
                    have h2a : ∀ u' ∈ ((El.cells yy) : List Value), u'.oneCell' = true := one_el hyk
                    have h3a : nx.length + 1 ≤ maxLen := by unfold maxLen; omega
                    have h4a : (nx.length + 1) * 96 ≤ 140737488355328 := by omega
                    have h5a : wc.heap.size ≤ (w9.alloc (.cells (El.cells yy).toArray 60)).heap.size := by simp; have := hb9.size; omega
                    have hAa := bel_alloc (Below.refl w9.heap.size w9) (.cells (El.cells yy).toArray 60); have oAa := hown9.alloc (.cells (El.cells yy).toArray 60); generalize hWna : w9.alloc (.cells (El.cells yy).toArray 60) = wna at h1a h5a hAa oAa
                    go_wp2_with (first | refine load_m 60 _ rfl rfl _ _ rfl dkn Tryz.underlying60 rfl zk ?_ | rw [hWna] | (at_builtin; refine wpList_append_own _ rfl _ _ 25 rfl wc.heap.size 60 i0 (.agg #[.int .i64 0, .int .i64 0, .int .i64 0, .int .i64 0, .int .i64 0, .int .i64 0, .int .i64 0, .string noS, .slice none 0 0]) 9 96 Tryz.underlying25 hi hz0 hz1 hz2 rfl (by decide) _ _ _ rfl oAa ⟨w9.heap.size, 0, none⟩ 1 1 (El.cells yy) rfl rfl h1a h2a h3a h4a h5a ?_))
                    intro va_ w10 oa hga _; replace hb9 := (below_on hb9 hAa).grown hga (below_on hb9 hAa).size (fun q' hq => (World.ownsRow.lt oAa q' hq).1)
                    have ea : w10.ownsRow wc.heap.size 60 9 va_ (nx ++ [yy]).length (rows El.cells (nx ++ [yy])) := by
                      rw [rows_append, rows_one, List.length_append]; exact oa
                    clear oa hga oAa hAa h1a h3a h4a h5a; clear hown9 c59 dkn; go_wp2_with fail; go_roundw
                    case rel => exact ⟨k + 1, false, nx ++ [yy], by simp, by omega, rfl, ea, HI, hms2, hb9⟩
                    case measure => simp [intOf]; omega
                  case' true =>
                    have HI : NJ (fun a b : El × Value => kl (kE a.1) (kE b.1)) ((⟨q, u, idx, t, r.p, r.s, r.i, s, []⟩ : El), Value.slice none 0 0) ys (k + 1) true (nx ++ [((⟨q, u, idx, t, r.p, r.s, r.i, s, []⟩ : El), Value.slice none 0 0)] ++ [yy]) := by
                      have := NJ_put hky HNI (by rw [HX.out]; exact HZ3.out)
                      rw [HX.out] at this; exact this
                    have hms2 : ∀ a ∈ nx ++ [((⟨q, u, idx, t, r.p, r.s, r.i, s, []⟩ : El), Value.slice none 0 0)] ++ [yy], MHas w a.2 a.1.gone := fun a ha => by
                      rcases List.mem_append.1 ha with h | h
                      · rcases List.mem_append.1 h with h | h
                        · exact hms a h
                        · rw [List.mem_singleton.1 h]
                          exact SHas.nil w 3
                      · rw [List.mem_singleton.1 h]
                        exact hyk
                    clear HNI HZ3 HX hms2x; go_wp2_with fail
                    have hs : Calm.Stays (fun w' => w'.cell? ⟨w.heap.size, 5, none⟩ = some (.slice (some ⟨g, o, none⟩) x.el.length ce) ∧ w'.rangeAt w5.heap.size 0 [Value.int .i64 q, .int .i64 u, .int .i64 idx] ∧ w'.rangeAt g (o + k * 9) [Value.int .i64 yy.1.p, .int .i64 yy.1.s, .int .i64 yy.1.i] ∧ w'.ownsRow wc.heap.size 60 9 (.slice Q nx.length qc) nx.length (rows El.cells nx) ∧ Below wc.heap.size wc w') := fun wa wb h hb => ⟨cell_later hb h.1, range_later h.2.1 hb, range_later h.2.2.1 hb, own_later h.2.2.2.1 hb, below_on h.2.2.2.2 hb⟩
                    refine Calm.region (by kernel_rfl) (by kernel_rfl) (fun w' => w'.cell? ⟨w.heap.size, 5, none⟩ = some (.slice (some ⟨g, o, none⟩) x.el.length ce) ∧ w'.rangeAt w5.heap.size 0 [Value.int .i64 q, .int .i64 u, .int .i64 idx] ∧ w'.rangeAt g (o + k * 9) [Value.int .i64 yy.1.p, .int .i64 yy.1.s, .int .i64 yy.1.i] ∧ w'.ownsRow wc.heap.size 60 9 (.slice Q nx.length qc) nx.length (rows El.cells nx) ∧ Below wc.heap.size wc w') ⟨c5, dx, dm, hown, hb9.drew⟩ ?_
                    iterate 3
                      all_goals
                        refine Calm.pure (v := ?_) (by rfl) ?_ ?_; rotate_left; focus (intro w hSw; go_simp <;> rfl)
                        simp only [put4]
                    all_goals
                      first
                        | (refine Calm.skip ?_ ?_; focus rfl)
                        | (refine Calm.pure (v := ?_) (by rfl) ?_ ?_
                           rotate_left
                           focus (intro w hSw; go_simp <;> rfl))
                      simp only [put4]
                    all_goals
                      first
                        | (refine Calm.skip ?_ ?_; focus rfl)
                        | (first | (refine Calm.loadM 36 Tryz.underlying36 rfl zx (by rfl) _ rfl rfl (fun _ h => h.2.1) ?_) | (refine Calm.loadM 36 Tryz.underlying36 rfl zy (by rfl) _ rfl rfl (fun _ h => h.2.2.1) ?_))
                      simp only [put4]
                    iterate 5
                      all_goals
                        first
                          | (refine Calm.skip ?_ ?_; focus rfl)
                          | (refine Calm.pure (v := ?_) (by rfl) ?_ ?_
                             rotate_left
                             focus (intro w hSw; go_simp <;> rfl))
                        simp only [put4]
                    all_goals
                      first
                        | (refine Calm.skip ?_ ?_; focus rfl)
                        | (first | (refine Calm.loadM 36 Tryz.underlying36 rfl zx (by rfl) _ rfl rfl (fun _ h => h.2.1) ?_) | (refine Calm.loadM 36 Tryz.underlying36 rfl zy (by rfl) _ rfl rfl (fun _ h => h.2.2.1) ?_))
                      simp only [put4]
                    all_goals
                      first
                        | (refine Calm.skip ?_ ?_; focus rfl)
                        | (refine Calm.call2s (by rfl) rfl rfl rfl (by kernel_rfl) hs (fun w1 h => CA w1) ?_)
                      simp only [put4]
                    all_goals
                      refine Calm.pure (v := ?_) (by rfl) ?_ ?_; rotate_left; focus (intro w hSw; go_simp <;> rfl)
                      simp only [put4]
                    all_goals
                      rintro w9 ⟨c59, _, _, hown9, hb10⟩
                    clear CA dx dm c5 hown; replace hb9 := hb10; have RXn := HRX.later hb9
                    have h1a : ∀ q' u', ([Value.int .i64 q, .int .i64 u, .int .i64 idx, .int .i64 t, .int .i64 r.p, .int .i64 r.s, .int .i64 r.i, .string s, .slice none 0 0] : List Value)[q']? = some u' → (w9.alloc (.cells #[.int .i64 q, .int .i64 u, .int .i64 idx, .int .i64 t, .int .i64 r.p, .int .i64 r.s, .int .i64 r.i, .string s, .slice none 0 0] 60)).cell? ((⟨w9.heap.size, 0, none⟩ : Addr).add q') = some u' := fun q' u' hq => (cells_new w9 [Value.int .i64 q, .int .i64 u, .int .i64 idx, .int .i64 t, .int .i64 r.p, .int .i64 r.s, .int .i64 r.i, .string s, .slice none 0 0] 60 q').trans hq
                    have h2a : ∀ u' ∈ ([Value.int .i64 q, .int .i64 u, .int .i64 idx, .int .i64 t, .int .i64 r.p, .int .i64 r.s, .int .i64 r.i, .string s, .slice none 0 0] : List Value), u'.oneCell' = true := one_el (y := ((⟨q, u, idx, t, r.p, r.s, r.i, s, []⟩ : El), Value.slice none 0 0)) (w := w) (SHas.nil w 3)
                    have h3a : nx.length + 1 ≤ maxLen := by unfold maxLen; omega
                    have h4a : (nx.length + 1) * 96 ≤ 140737488355328 := by omega
                    have h5a : wc.heap.size ≤ (w9.alloc (.cells #[.int .i64 q, .int .i64 u, .int .i64 idx, .int .i64 t, .int .i64 r.p, .int .i64 r.s, .int .i64 r.i, .string s, .slice none 0 0] 60)).heap.size := by simp; have := hb9.size; omega
                    have hAa := bel_alloc (Below.refl w9.heap.size w9) (.cells #[.int .i64 q, .int .i64 u, .int .i64 idx, .int .i64 t, .int .i64 r.p, .int .i64 r.s, .int .i64 r.i, .string s, .slice none 0 0] 60); have oAa := hown9.alloc (.cells #[.int .i64 q, .int .i64 u, .int .i64 idx, .int .i64 t, .int .i64 r.p, .int .i64 r.s, .int .i64 r.i, .string s, .slice none 0 0] 60); generalize hWna : w9.alloc (.cells #[.int .i64 q, .int .i64 u, .int .i64 idx, .int .i64 t, .int .i64 r.p, .int .i64 r.s, .int .i64 r.i, .string s, .slice none 0 0] 60) = wna at h1a h5a hAa oAa
                    go_wp2_with (first | refine load_r 60 _ rfl rfl _ rfl RXn Tryz.underlying60 rfl size60 ?_ | rw [hWna] | (at_builtin; refine wpList_append_own _ rfl _ _ 25 rfl wc.heap.size 60 i0 (.agg #[.int .i64 0, .int .i64 0, .int .i64 0, .int .i64 0, .int .i64 0, .int .i64 0, .int .i64 0, .string noS, .slice none 0 0]) 9 96 Tryz.underlying25 hi hz0 hz1 hz2 rfl (by decide) _ _ _ rfl oAa ⟨w9.heap.size, 0, none⟩ 1 1 [Value.int .i64 q, .int .i64 u, .int .i64 idx, .int .i64 t, .int .i64 r.p, .int .i64 r.s, .int .i64 r.i, .string s, .slice none 0 0] rfl rfl h1a h2a h3a h4a h5a ?_))
                    intro va_ w10 oa hga _; replace hb9 := (below_on hb9 hAa).grown hga (below_on hb9 hAa).size (fun q' hq => (World.ownsRow.lt oAa q' hq).1)
                    have ea : w10.ownsRow wc.heap.size 60 9 va_ (nx ++ [((⟨q, u, idx, t, r.p, r.s, r.i, s, []⟩ : El), Value.slice none 0 0)]).length (rows El.cells (nx ++ [((⟨q, u, idx, t, r.p, r.s, r.i, s, []⟩ : El), Value.slice none 0 0)])) := by
                      rw [rows_append, rows_one, List.length_append]; exact oa
                    clear oa hga oAa hAa h1a h3a h4a h5a hown9 RXn; obtain ⟨nz, HNZ⟩ := hid_ex (nx ++ [((⟨q, u, idx, t, r.p, r.s, r.i, s, []⟩ : El), Value.slice none 0 0)]); rw [HNZ.out] at ea
                    have hnz : nz.length ≤ 102 := by rw [← HNZ.out, List.length_append]; simp only [List.length_singleton]; omega
                    obtain ⟨Q2, qc2, rfl⟩ := own_sl ea; have dkn := range_later dkC hb9; have c510 := cell_later hb9 c5C
                    have h1b : ∀ q' u', ((El.cells yy) : List Value)[q']? = some u' → (w10.alloc (.cells (El.cells yy).toArray 60)).cell? ((⟨w10.heap.size, 0, none⟩ : Addr).add q') = some u' := fun q' u' hq => (cells_new w10 (El.cells yy) 60 q').trans hq
                    have h2b : ∀ u' ∈ ((El.cells yy) : List Value), u'.oneCell' = true := one_el hyk
                    have h3b : nz.length + 1 ≤ maxLen := by unfold maxLen; omega
                    have h4b : (nz.length + 1) * 96 ≤ 140737488355328 := by omega
                    have h5b : wc.heap.size ≤ (w10.alloc (.cells (El.cells yy).toArray 60)).heap.size := by simp; have := hb9.size; omega
                    have hAb := bel_alloc (Below.refl w10.heap.size w10) (.cells (El.cells yy).toArray 60); have oAb := ea.alloc (.cells (El.cells yy).toArray 60); generalize hWnb : w10.alloc (.cells (El.cells yy).toArray 60) = wnb at h1b h5b hAb oAb
                    go_wp2_with (first | refine load_m 60 _ rfl rfl _ _ rfl dkn Tryz.underlying60 rfl zk ?_ | rw [hWnb] | (at_builtin; refine wpList_append_own _ rfl _ _ 25 rfl wc.heap.size 60 i0 (.agg #[.int .i64 0, .int .i64 0, .int .i64 0, .int .i64 0, .int .i64 0, .int .i64 0, .int .i64 0, .string noS, .slice none 0 0]) 9 96 Tryz.underlying25 hi hz0 hz1 hz2 rfl (by decide) _ _ _ rfl oAb ⟨w10.heap.size, 0, none⟩ 1 1 (El.cells yy) rfl rfl h1b h2b h3b h4b h5b ?_))
                    intro vb_ w11 ob hgb _; replace hb9 := (below_on hb9 hAb).grown hgb (below_on hb9 hAb).size (fun q' hq => (World.ownsRow.lt oAb q' hq).1)
                    have eb : w11.ownsRow wc.heap.size 60 9 vb_ (nz ++ [yy]).length (rows El.cells (nz ++ [yy])) := by
                      rw [rows_append, rows_one, List.length_append]; exact ob
                    clear ob hgb oAb hAb h1b h3b h4b h5b
                    have HI2 : NJ (fun a b : El × Value => kl (kE a.1) (kE b.1)) ((⟨q, u, idx, t, r.p, r.s, r.i, s, []⟩ : El), Value.slice none 0 0) ys (k + 1) true (nz ++ [yy]) := by
                      rw [← HNZ.out]; exact HI
                    have hms3 : ∀ a ∈ nz ++ [yy], MHas w a.2 a.1.gone := by
                      rw [← HNZ.out]; exact hms2
                    clear ea c510 dkn c59; go_wp2_with fail; go_roundw
                    case rel => exact ⟨k + 1, true, nz ++ [yy], by simp, by omega, rfl, eb, HI2, hms3, hb9⟩
                    case measure => simp [intOf]; omega
                case' true =>
                  have HI : NJ (fun a b : El × Value => kl (kE a.1) (kE b.1)) ((⟨q, u, idx, t, r.p, r.s, r.i, s, []⟩ : El), Value.slice none 0 0) ys (k + 1) true (nx ++ [yy]) := by
                    have := NJ_on hky HNI
                    rw [HX.out] at this; exact this
                  have hms2 := hms2x; clear HNI HZ3 HX hms2x; go_wp2_with fail
                  have hs : Calm.Stays (fun w' => w'.cell? ⟨w.heap.size, 5, none⟩ = some (.slice (some ⟨g, o, none⟩) x.el.length ce) ∧ w'.rangeAt w5.heap.size 0 [Value.int .i64 q, .int .i64 u, .int .i64 idx] ∧ w'.rangeAt g (o + k * 9) [Value.int .i64 yy.1.p, .int .i64 yy.1.s, .int .i64 yy.1.i] ∧ w'.ownsRow wc.heap.size 60 9 (.slice Q nx.length qc) nx.length (rows El.cells nx) ∧ Below wc.heap.size wc w') := fun wa wb h hb => ⟨cell_later hb h.1, range_later h.2.1 hb, range_later h.2.2.1 hb, own_later h.2.2.2.1 hb, below_on h.2.2.2.2 hb⟩
                  refine Calm.region (by kernel_rfl) (by kernel_rfl) (fun w' => w'.cell? ⟨w.heap.size, 5, none⟩ = some (.slice (some ⟨g, o, none⟩) x.el.length ce) ∧ w'.rangeAt w5.heap.size 0 [Value.int .i64 q, .int .i64 u, .int .i64 idx] ∧ w'.rangeAt g (o + k * 9) [Value.int .i64 yy.1.p, .int .i64 yy.1.s, .int .i64 yy.1.i] ∧ w'.ownsRow wc.heap.size 60 9 (.slice Q nx.length qc) nx.length (rows El.cells nx) ∧ Below wc.heap.size wc w') ⟨c5, dx, dm, hown, hb9.drew⟩ ?_
                  iterate 3
                    all_goals
                      refine Calm.pure (v := ?_) (by rfl) ?_ ?_; rotate_left; focus (intro w hSw; go_simp <;> rfl)
                      simp only [put4]
                  all_goals
                    first
                      | (refine Calm.skip ?_ ?_; focus rfl)
                      | (refine Calm.pure (v := ?_) (by rfl) ?_ ?_
                         rotate_left
                         focus (intro w hSw; go_simp <;> rfl))
                    simp only [put4]
                  all_goals
                    first
                      | (refine Calm.skip ?_ ?_; focus rfl)
                      | (first | (refine Calm.loadM 36 Tryz.underlying36 rfl zx (by rfl) _ rfl rfl (fun _ h => h.2.1) ?_) | (refine Calm.loadM 36 Tryz.underlying36 rfl zy (by rfl) _ rfl rfl (fun _ h => h.2.2.1) ?_))
                    simp only [put4]
                  iterate 5
                    all_goals
                      first
                        | (refine Calm.skip ?_ ?_; focus rfl)
                        | (refine Calm.pure (v := ?_) (by rfl) ?_ ?_
                           rotate_left
                           focus (intro w hSw; go_simp <;> rfl))
                      simp only [put4]
                  all_goals
                    first
                      | (refine Calm.skip ?_ ?_; focus rfl)
                      | (first | (refine Calm.loadM 36 Tryz.underlying36 rfl zx (by rfl) _ rfl rfl (fun _ h => h.2.1) ?_) | (refine Calm.loadM 36 Tryz.underlying36 rfl zy (by rfl) _ rfl rfl (fun _ h => h.2.2.1) ?_))
                    simp only [put4]
                  all_goals
                    first
                      | (refine Calm.skip ?_ ?_; focus rfl)
                      | (refine Calm.call2s (by rfl) rfl rfl rfl (by kernel_rfl) hs (fun w1 h => CA w1) ?_)
                    simp only [put4]
                  all_goals
                    refine Calm.pure (v := ?_) (by rfl) ?_ ?_; rotate_left; focus (intro w hSw; go_simp <;> rfl)
                    simp only [put4]
                  all_goals
                    rintro w9 ⟨c59, _, _, hown9, hb10⟩
                  clear CA dx dm c5 hown; replace hb9 := hb10; have dkn := range_later dkC hb9
                  have h1a : ∀ q' u', ((El.cells yy) : List Value)[q']? = some u' → (w9.alloc (.cells (El.cells yy).toArray 60)).cell? ((⟨w9.heap.size, 0, none⟩ : Addr).add q') = some u' := fun q' u' hq => (cells_new w9 (El.cells yy) 60 q').trans hq
                  have h2a : ∀ u' ∈ ((El.cells yy) : List Value), u'.oneCell' = true := one_el hyk
                  have h3a : nx.length + 1 ≤ maxLen := by unfold maxLen; omega
                  have h4a : (nx.length + 1) * 96 ≤ 140737488355328 := by omega
                  have h5a : wc.heap.size ≤ (w9.alloc (.cells (El.cells yy).toArray 60)).heap.size := by simp; have := hb9.size; omega
                  have hAa := bel_alloc (Below.refl w9.heap.size w9) (.cells (El.cells yy).toArray 60); have oAa := hown9.alloc (.cells (El.cells yy).toArray 60); generalize hWna : w9.alloc (.cells (El.cells yy).toArray 60) = wna at h1a h5a hAa oAa
                  go_wp2_with (first | refine load_m 60 _ rfl rfl _ _ rfl dkn Tryz.underlying60 rfl zk ?_ | rw [hWna] | (at_builtin; refine wpList_append_own _ rfl _ _ 25 rfl wc.heap.size 60 i0 (.agg #[.int .i64 0, .int .i64 0, .int .i64 0, .int .i64 0, .int .i64 0, .int .i64 0, .int .i64 0, .string noS, .slice none 0 0]) 9 96 Tryz.underlying25 hi hz0 hz1 hz2 rfl (by decide) _ _ _ rfl oAa ⟨w9.heap.size, 0, none⟩ 1 1 (El.cells yy) rfl rfl h1a h2a h3a h4a h5a ?_))
                  intro va_ w10 oa hga _; replace hb9 := (below_on hb9 hAa).grown hga (below_on hb9 hAa).size (fun q' hq => (World.ownsRow.lt oAa q' hq).1)
                  have ea : w10.ownsRow wc.heap.size 60 9 va_ (nx ++ [yy]).length (rows El.cells (nx ++ [yy])) := by
                    rw [rows_append, rows_one, List.length_append]; exact oa
                  clear oa hga oAa hAa h1a h3a h4a h5a; clear hown9 c59 dkn; go_wp2_with fail; go_roundw
                  case rel => exact ⟨k + 1, true, nx ++ [yy], by simp, by omega, rfl, ea, HI, hms2, hb9⟩
                  case measure => simp [intOf]; omega
              case' neg =>
                obtain rfl : k = x.el.length := by omega
                have hlt' : ¬ (x.el.length : Int) < (x.el.length : Int) := by omega
                rw [← HYL.out] at HNI
                cases fl
                case' true =>
                  have HE : Hid (nx = insS (fun a b : El × Value => kl (kE a.1) (kE b.1)) ((⟨q, u, idx, t, r.p, r.s, r.i, s, []⟩ : El), Value.slice none 0 0) ys) := NJ_end HNI; have hmsF := hms; clear c5
                  have HEL : Hid (nx.length = (insE (⟨q, u, idx, t, r.p, r.s, r.i, s, []⟩ : El) x.el).length) := by
                    show _ = _
                    rw [← HINS.out, ← HE.out, List.length_map]
                  have hbW := below_on hbel hb9; have R0n := R0.later hb9; have R3n := R3.later hb9; have c5n : wr.cell? ⟨w.heap.size, 5, none⟩ = some (.slice pe x.el.length ce) := R0n.cell 5; have f5n : wr.frozen? ⟨w.heap.size, 5, none⟩ = false := R0n.frozen 5; obtain ⟨QF, qf, rfl⟩ := own_sl hown; have Ra : Rw (wr.setCell ⟨w.heap.size, 5, none⟩ (.slice QF nx.length qf)) w.heap.size 27 (cvc x.k x.b (.slice pa x.am.length ca') (.slice pw x.wr.length cw) (.slice pm x.mb.length cm) (.slice QF nx.length qf)) := R0n.set 5 _; have Rb := R3n.setOther (q := w.heap.size) (by omega) 5 (.slice QF nx.length qf); have hbF := hbW.setCell (p := ⟨w.heap.size, 5, none⟩) (Nat.le_refl _) (.slice QF nx.length qf); have hcw := hbel.size
                  have hwc : w.heap.size + 4 < wc.heap.size := by have := HB6.out; have := RX.lt; omega
                  have oF := own_over hown (b := w.heap.size) (fun k' hk' => by have := (World.ownsRow.lt hown k' hk').1; omega) 5 (.slice QF nx.length qf)
                  have HG : Hid (Gives { x with el := insE (⟨q, u, idx, t, r.p, r.s, r.i, s, []⟩ : El) x.el } w (.returned (CV x.k x.b (.slice pa x.am.length ca') (.slice pw x.wr.length cw) (.slice pm x.mb.length cm) (.slice QF nx.length qf))) ((wr.setCell ⟨w.heap.size, 5, none⟩ (.slice QF nx.length qf)).setRow (w.heap.size + 3) (cvc x.k x.b (.slice pa x.am.length ca') (.slice pw x.wr.length cw) (.slice pm x.mb.length cm) (.slice QF nx.length qf)))) := by
                    have hb := below_setRow hbF (g := w.heap.size + 3) (by omega) (cvc x.k x.b (.slice pa x.am.length ca') (.slice pw x.wr.length cw) (.slice pm x.mb.length cm) (.slice QF nx.length qf)); refine ⟨_, _, _, _, rfl, ⟨HF.out.a.later hb, HF.out.t.later hb, HF.out.m.later hb, nx, by rw [HE.out, HINS.out], ?_, fun y hy => (hmsF y hy).later hb⟩, hb⟩; rw [← HEL.out]; exact own_sh (own_row oF (by omega) _)
                  generalize hXF : wr.setCell ⟨w.heap.size, 5, none⟩ (.slice QF nx.length qf) = wF at Ra Rb HG; clear hbF oF hbW
                  go_wp2_with (first | rw [hXF] | refine load_r 27 _ rfl rfl _ rfl Ra Tryz.underlying27 rfl size27 ?_ | refine store_r rfl 27 _ _ rfl _ (cvc x.k x.b (.slice pa x.am.length ca') (.slice pw x.wr.length cw) (.slice pm x.mb.length cm) (.slice QF nx.length qf)) rfl rfl Rb size27 rfl (by simp [Value.oneCell']) ?_)
                  refine bodyPost_ret (results_r rfl rfl (Rb.row (cvc x.k x.b (.slice pa x.am.length ca') (.slice pw x.wr.length cw) (.slice pm x.mb.length cm) (.slice QF nx.length qf))) rfl Tryz.underlying27 size27) rfl ?_; exact HG.out
                case' false =>
                  have HE0 : nx ++ [((⟨q, u, idx, t, r.p, r.s, r.i, s, []⟩ : El), Value.slice none 0 0)] = insS (fun a b : El × Value => kl (kE a.1) (kE b.1)) ((⟨q, u, idx, t, r.p, r.s, r.i, s, []⟩ : El), Value.slice none 0 0) ys := NJ_last HNI
                  have hmsF0 : ∀ a ∈ nx ++ [((⟨q, u, idx, t, r.p, r.s, r.i, s, []⟩ : El), Value.slice none 0 0)], MHas w a.2 a.1.gone := fun a ha => by
                    rcases List.mem_append.1 ha with h | h
                    · exact hms a h
                    · rw [List.mem_singleton.1 h]
                      exact SHas.nil w 3
                  obtain ⟨Q, qc, rfl⟩ := own_sl hown; have RXn := RX.later hb9
                  have h1a : ∀ q' u', ([Value.int .i64 q, .int .i64 u, .int .i64 idx, .int .i64 t, .int .i64 r.p, .int .i64 r.s, .int .i64 r.i, .string s, .slice none 0 0] : List Value)[q']? = some u' → (wr.alloc (.cells #[.int .i64 q, .int .i64 u, .int .i64 idx, .int .i64 t, .int .i64 r.p, .int .i64 r.s, .int .i64 r.i, .string s, .slice none 0 0] 60)).cell? ((⟨wr.heap.size, 0, none⟩ : Addr).add q') = some u' := fun q' u' hq => (cells_new wr [Value.int .i64 q, .int .i64 u, .int .i64 idx, .int .i64 t, .int .i64 r.p, .int .i64 r.s, .int .i64 r.i, .string s, .slice none 0 0] 60 q').trans hq
                  have h2a : ∀ u' ∈ ([Value.int .i64 q, .int .i64 u, .int .i64 idx, .int .i64 t, .int .i64 r.p, .int .i64 r.s, .int .i64 r.i, .string s, .slice none 0 0] : List Value), u'.oneCell' = true := one_el (y := ((⟨q, u, idx, t, r.p, r.s, r.i, s, []⟩ : El), Value.slice none 0 0)) (w := w) (SHas.nil w 3)
                  have h3a : nx.length + 1 ≤ maxLen := by unfold maxLen; omega
                  have h4a : (nx.length + 1) * 96 ≤ 140737488355328 := by omega
                  have h5a : wc.heap.size ≤ (wr.alloc (.cells #[.int .i64 q, .int .i64 u, .int .i64 idx, .int .i64 t, .int .i64 r.p, .int .i64 r.s, .int .i64 r.i, .string s, .slice none 0 0] 60)).heap.size := by simp; have := hb9.size; omega
                  have hAa := bel_alloc (Below.refl wr.heap.size wr) (.cells #[.int .i64 q, .int .i64 u, .int .i64 idx, .int .i64 t, .int .i64 r.p, .int .i64 r.s, .int .i64 r.i, .string s, .slice none 0 0] 60); have oAa := hown.alloc (.cells #[.int .i64 q, .int .i64 u, .int .i64 idx, .int .i64 t, .int .i64 r.p, .int .i64 r.s, .int .i64 r.i, .string s, .slice none 0 0] 60); generalize hWna : wr.alloc (.cells #[.int .i64 q, .int .i64 u, .int .i64 idx, .int .i64 t, .int .i64 r.p, .int .i64 r.s, .int .i64 r.i, .string s, .slice none 0 0] 60) = wna at h1a h5a hAa oAa
                  go_upto_region 20 with (first | refine load_r 60 _ rfl rfl _ rfl RXn Tryz.underlying60 rfl size60 ?_ | rw [hWna] | (at_builtin; refine wpList_append_own _ rfl _ _ 25 rfl wc.heap.size 60 i0 (.agg #[.int .i64 0, .int .i64 0, .int .i64 0, .int .i64 0, .int .i64 0, .int .i64 0, .int .i64 0, .string noS, .slice none 0 0]) 9 96 Tryz.underlying25 hi hz0 hz1 hz2 rfl (by decide) _ _ _ rfl oAa ⟨wr.heap.size, 0, none⟩ 1 1 [Value.int .i64 q, .int .i64 u, .int .i64 idx, .int .i64 t, .int .i64 r.p, .int .i64 r.s, .int .i64 r.i, .string s, .slice none 0 0] rfl rfl h1a h2a h3a h4a h5a ?_) | intro va_ w10 oa hga _)
                  replace hb9 := (below_on hb9 hAa).grown hga (below_on hb9 hAa).size (fun q' hq => (World.ownsRow.lt oAa q' hq).1)
                  have ea : w10.ownsRow wc.heap.size 60 9 va_ (nx ++ [((⟨q, u, idx, t, r.p, r.s, r.i, s, []⟩ : El), Value.slice none 0 0)]).length (rows El.cells (nx ++ [((⟨q, u, idx, t, r.p, r.s, r.i, s, []⟩ : El), Value.slice none 0 0)])) := by
                    rw [rows_append, rows_one, List.length_append]; exact oa
                  clear oa hga oAa hAa h1a h3a h4a h5a hown RXn c5; obtain ⟨nz, HNZ⟩ := hid_ex (nx ++ [((⟨q, u, idx, t, r.p, r.s, r.i, s, []⟩ : El), Value.slice none 0 0)]); rw [HNZ.out] at ea HE0 hmsF0; have HE : Hid (nz = insS (fun a b : El × Value => kl (kE a.1) (kE b.1)) ((⟨q, u, idx, t, r.p, r.s, r.i, s, []⟩ : El), Value.slice none 0 0) ys) := HE0; have hmsF := hmsF0; clear HE0 hmsF0
                  have HEL : Hid (nz.length = (insE (⟨q, u, idx, t, r.p, r.s, r.i, s, []⟩ : El) x.el).length) := by
                    show _ = _
                    rw [← HINS.out, ← HE.out, List.length_map]
                  have hbW := below_on hbel hb9; have R0n := R0.later hb9; have R3n := R3.later hb9; have c5n : w10.cell? ⟨w.heap.size, 5, none⟩ = some (.slice pe x.el.length ce) := R0n.cell 5; have f5n : w10.frozen? ⟨w.heap.size, 5, none⟩ = false := R0n.frozen 5; obtain ⟨QF, qf, rfl⟩ := own_sl ea; have Ra : Rw (w10.setCell ⟨w.heap.size, 5, none⟩ (.slice QF nz.length qf)) w.heap.size 27 (cvc x.k x.b (.slice pa x.am.length ca') (.slice pw x.wr.length cw) (.slice pm x.mb.length cm) (.slice QF nz.length qf)) := R0n.set 5 _; have Rb := R3n.setOther (q := w.heap.size) (by omega) 5 (.slice QF nz.length qf); have hbF := hbW.setCell (p := ⟨w.heap.size, 5, none⟩) (Nat.le_refl _) (.slice QF nz.length qf); have hcw := hbel.size
                  have hwc : w.heap.size + 4 < wc.heap.size := by have := HB6.out; have := RX.lt; omega
                  have oF := own_over ea (b := w.heap.size) (fun k' hk' => by have := (World.ownsRow.lt ea k' hk').1; omega) 5 (.slice QF nz.length qf)
                  have HG : Hid (Gives { x with el := insE (⟨q, u, idx, t, r.p, r.s, r.i, s, []⟩ : El) x.el } w (.returned (CV x.k x.b (.slice pa x.am.length ca') (.slice pw x.wr.length cw) (.slice pm x.mb.length cm) (.slice QF nz.length qf))) ((w10.setCell ⟨w.heap.size, 5, none⟩ (.slice QF nz.length qf)).setRow (w.heap.size + 3) (cvc x.k x.b (.slice pa x.am.length ca') (.slice pw x.wr.length cw) (.slice pm x.mb.length cm) (.slice QF nz.length qf)))) := by
                    have hb := below_setRow hbF (g := w.heap.size + 3) (by omega) (cvc x.k x.b (.slice pa x.am.length ca') (.slice pw x.wr.length cw) (.slice pm x.mb.length cm) (.slice QF nz.length qf)); refine ⟨_, _, _, _, rfl, ⟨HF.out.a.later hb, HF.out.t.later hb, HF.out.m.later hb, nz, by rw [HE.out, HINS.out], ?_, fun y hy => (hmsF y hy).later hb⟩, hb⟩; rw [← HEL.out]; exact own_sh (own_row oF (by omega) _)
                  generalize hXF : w10.setCell ⟨w.heap.size, 5, none⟩ (.slice QF nz.length qf) = wF at Ra Rb HG; clear hbF oF hbW
                  go_wp2_with (first | rw [hXF] | refine load_r 27 _ rfl rfl _ rfl Ra Tryz.underlying27 rfl size27 ?_ | refine store_r rfl 27 _ _ rfl _ (cvc x.k x.b (.slice pa x.am.length ca') (.slice pw x.wr.length cw) (.slice pm x.mb.length cm) (.slice QF nz.length qf)) rfl rfl Rb size27 rfl (by simp [Value.oneCell']) ?_)
                  refine bodyPost_ret (results_r rfl rfl (Rb.row (cvc x.k x.b (.slice pa x.am.length ca') (.slice pw x.wr.length cw) (.slice pm x.mb.length cm) (.slice QF nz.length qf))) rfl Tryz.underlying27 size27) rfl ?_; exact HG.out
end Go.Proofs.YtfjpbmdmkcihcaaGreat
