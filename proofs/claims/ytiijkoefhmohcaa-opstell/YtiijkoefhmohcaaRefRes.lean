/- Resolve of the document's answer. -/
import Derived.Test.YtiijkoefhmohcaaRes
import Derived.Test.YtiijkoefhmohcaaEq
namespace Go.Proofs.Ytiijkoefhmohcaa
open Go.RowKit

theorem two_dots (w : World) (a b : Int) : Rw ((w.alloc (.cells #[.int .i64 a, .int .i64 b] 23)).alloc (.cells #[.int .i64 0, .int .i64 0] 23)) w.heap.size 23 #[.int .i64 a, .int .i64 b] ∧ Rw ((w.alloc (.cells #[.int .i64 a, .int .i64 b] 23)).alloc (.cells #[.int .i64 0, .int .i64 0] 23)) (w.heap.size + 1) 23 #[.int .i64 0, .int .i64 0] ∧ Below w.heap.size w ((w.alloc (.cells #[.int .i64 a, .int .i64 b] 23)).alloc (.cells #[.int .i64 0, .int .i64 0] 23)) :=
  ⟨(rw_new _ _ _).alloc _, rw_next _ (by simp) _ _, bel_alloc (bel_alloc (Below.refl _ _) _) _⟩
theorem ocel_dot (l1 l2 : List O) (x : O) (a b : Int) (k : Nat) (hk : l1.length = k) : ((ocel (l1 ++ x :: l2)).set (k * 10 + 7) (.int .i64 a)).set (k * 10 + 7 + 1) (.int .i64 b) = ocel (l1 ++ { x with p := a, s := b } :: l2) := by
  have hl := ocel_length l1
  rw [ocel_append, ocel_append, ocel_cons, ocel_cons, List.set_append_right _ _ (by omega), List.set_append_right _ _ (by omega)]
  rw [show k * 10 + 7 - (ocel l1).length = 7 by omega, show k * 10 + 7 + 1 - (ocel l1).length = 8 by omega]
  rfl
/-- The row of which the first k are done. -/
def stg (a b : Int) (l : List O) (k : Nat) : List O := rvs a b (l.take k) ++ l.drop k
theorem stg_length (a b : Int) (l : List O) (k : Nat) (hk : k ≤ l.length) : (stg a b l k).length = l.length := by simp [stg, rvs]; omega
theorem stg_at (a b : Int) (l : List O) (k : Nat) (hk : k < l.length) : stg a b l k = rvs a b (l.take k) ++ l[k] :: l.drop (k + 1) := by
  unfold stg
  rw [List.drop_eq_getElem_cons hk]
theorem stg_next (a b : Int) (l : List O) (k : Nat) (hk : k < l.length) : stg a b l (k + 1) = rvs a b (l.take k) ++ rv a b l[k] :: l.drop (k + 1) := by
  unfold stg rvs
  rw [List.take_succ_eq_append_getElem hk, List.map_append, List.map_cons, List.map_nil, List.append_assoc]
  rfl
theorem stg_cell {w : World} {B g n c : Nat} {a b : Int} {l : List O} {k : Nat} (hk : k < l.length) (hn : n = l.length) (h : w.ownsRow B 35 10 (.slice (some ⟨g, 0, none⟩) n c) n (ocel (stg a b l k))) : w.rangeAt g (k * 10) (l[k]).cells := by
  intro j u hu
  have hj : j < 10 := (List.getElem?_eq_some_iff.1 hu).1
  subst hn
  rw [h.cellAt _ (by omega)]
  refine ocel_at _ k (by rw [stg_length _ _ _ _ (by omega)]; exact hk) j u ?_
  have e : (stg a b l k)[k]? = some l[k] := by
    rw [stg_at _ _ _ _ hk, List.getElem?_append_right (by simp [rvs]; omega)]
    simp [rvs, Nat.min_eq_left (Nat.le_of_lt hk)]
  rw [List.getElem?_eq_some_iff] at e
  obtain ⟨h1, h2⟩ := e
  rw [h2]
  exact hu
theorem ref_parts {w : World} {g o : Nat} {x : O} (h : w.rangeAt g o x.cells) : w.rangeAt g (o + 7) [.int .i64 x.p, .int .i64 x.s] ∧ w.cell? ⟨g, o + 9, none⟩ = some (.int .i64 x.i) := by
  refine ⟨fun j u hu => ?_, h 9 _ rfl⟩
  rw [Nat.add_assoc]
  refine h (7 + j) u ?_
  match j with
  | 0 => exact hu
  | 1 => exact hu
  | j + 2 => simp at hu

set_option maxHeartbeats 4000000 in
set_option maxRecDepth 100000 in
theorem refResolve_any (v : Value) (l : List O) (a b : Int) (w : World) (ho : OIs w v l) (h40 : l.length ≤ 40) : Calls Try.prog 23 #[v, D a b] w (RsPost (rvs a b l) w) := by
  obtain ⟨i0, hi, hz0, hz1, hz2⟩ := info_parts info35
  obtain ⟨R0, R1, hbel⟩ := two_dots w a b
  have own0 := World.ownsRow_lit (base := w.heap.size + 2) (e := 35) (size := 10) ((w.alloc (.cells #[.int .i64 a, .int .i64 b] 23)).alloc (.cells #[.int .i64 0, .int .i64 0] 23)) #[] 0 (by simp) (by decide) rfl
  have ebl : ((w.alloc (.cells #[.int .i64 a, .int .i64 b] 23)).alloc (.cells #[.int .i64 0, .int .i64 0] 23)).heap.size = w.heap.size + 1 + 1 := by simp
  rw [ebl] at own0
  have S0 := R0.alloc (.cells #[] 35)
  have S1 := R1.alloc (.cells #[] 35)
  have sbel := bel_alloc hbel (.cells #[] 35)
  clear R0 R1 hbel
  obtain ⟨hm, ⟨rfl, rfl⟩ | ⟨ad, c, rfl, hd⟩⟩ := ho
  · clear ebl
    go_enter Try.func23, Try.ntmps23
    go_wp2_with (at_builtin; refine wpList_append_own_none rfl _ _ 26 rfl (w.heap.size + 2) 35 i0 10 Try.underlying26 hi _ _ _ rfl own0 rfl ?_)
    generalize hW : ((w.alloc (.cells #[.int .i64 a, .int .i64 b] 23)).alloc (.cells #[.int .i64 0, .int .i64 0] 23)).alloc (.cells #[] 35) = w0 at S0 S1 sbel own0 ⊢
    go_loopw [7] (fun vi wr => vi = .int .i64 0 ∧ wr = w0) (fun _ _ => 0)
    case atStart => exact ⟨rfl, rfl⟩
    case round =>
      obtain ⟨rfl, rfl⟩ := hrel
      clear hW
      go_wp2_with fail
      go_ret
      exact ⟨_, rfl, ⟨by simp [rvs], .inr ⟨_, 0, rfl, fun hi => by simp [rvs] at hi⟩⟩, own_fr own0 (by omega), sbel⟩
  · have hd' : ∀ j u, (ocel l)[j]? = some u → (((w.alloc (.cells #[.int .i64 a, .int .i64 b] 23)).alloc (.cells #[.int .i64 0, .int .i64 0] 23)).alloc (.cells #[] 35)).cell? (ad.add j) = some u := by
      intro j u hu
      have hj := (List.getElem?_eq_some_iff.1 hu).1
      rw [ocel_length] at hj
      obtain ⟨g0, o0, rfl, hd2⟩ := hd (by omega)
      rw [Addr.add_mid]
      have h1 := range_later (hd2 (j / 10) (by omega)) sbel (j % 10) u (by
        have hq : j % 10 < (l[j / 10]'(by omega)).cells.length := by rw [O.cells_length]; omega
        have := ocel_at l (j / 10) (by omega) (j % 10) _ (List.getElem?_eq_getElem hq)
        rw [show j / 10 * 10 + j % 10 = j by omega, hu] at this
        rw [List.getElem?_eq_getElem hq, ← this])
      rw [show o0 + j / 10 * 10 + j % 10 = o0 + j by omega] at h1
      exact h1
    clear hd
    go_enter Try.func23, Try.ntmps23
    go_wp2_with (at_builtin; refine wpList_append_own _ rfl _ _ 26 rfl (w.heap.size + 2) 35 i0 (OV 0 noS noS 0 0 0 noS 0 0 0) 10 104 Try.underlying26 hi hz0 hz1 hz2 rfl (by decide) _ _ _ rfl own0 ad l.length c (ocel l) rfl (ocel_length l) hd' (ocel_one l) (by unfold maxLen; omega) (by omega) (by simp) ?_)
    intro v2 w2 own2 hg2 hiff
    clear hd'
    replace S0 := S0.grown hg2 (fun q hq => by have := (own0.lt q hq).1; omega)
    replace S1 := S1.grown hg2 (fun q hq => by have := (own0.lt q hq).1; omega)
    replace sbel := sbel.grown hg2 (by simp; omega) (fun q hq => by have := (own0.lt q hq).1; omega)
    clear hg2 own0 ebl
    obtain ⟨g, cap, rfl, hgb⟩ : ∃ g cap, v2 = .slice (some ⟨g, 0, none⟩) l.length cap ∧ w.heap.size + 2 ≤ g := by
      rcases own2.2 with ⟨h1, _⟩ | ⟨g, cap, cur, h1, h2, _⟩
      · exact (hiff h1).elim
      · exact ⟨g, cap, h1, h2⟩
    clear hiff
    go_wp2_with fail
    go_loopw [7] (fun vi wr => ∃ k : Nat, vi = .int .i64 k ∧ k ≤ l.length ∧ wr.ownsRow (w.heap.size + 2) 35 10 (.slice (some ⟨g, 0, none⟩) l.length cap) l.length (ocel (stg a b l k)) ∧ Rw wr w.heap.size 23 #[.int .i64 a, .int .i64 b] ∧ Rw wr (w.heap.size + 1) 23 #[.int .i64 0, .int .i64 0] ∧ Below w.heap.size w wr) (fun vi _ => l.length - (intOf vi).toNat)
    case atStart => exact ⟨0, rfl, by omega, by simpa [stg, rvs] using own2, S0, S1, sbel⟩
    case round =>
      clear own2 S0 S1 sbel
      obtain ⟨k, rfl, hk, hown, S0, S1, hbel⟩ := hrel
      by_cases hlt : k < l.length
      · have hlt' : (k : Int) < (l.length : Int) := by omega
        have d := stg_cell hlt rfl hown
        obtain ⟨x, HX⟩ := hid_ex l[k]
        rw [HX.out] at d
        obtain ⟨d7, c9⟩ := ref_parts d
        clear d
        have E := fun w => eq_dot w x.p x.s 0 0
        obtain ⟨y, HY⟩ := hid_ex (decide (x.p = 0) && decide (x.s = 0))
        rw [HY.out] at E
        obtain ⟨f, HF⟩ := hid_ex (decide (x.i = 0))
        have zd : (Try.prog.info? 23).map (·.size) = some [Value.int .i64 x.p, Value.int .i64 x.s].length := size23
        have zn : (Try.prog.info? 23).map (·.size) = some [Value.int .i64 0, Value.int .i64 0].length := size23
        have dn : wr.rangeAt (w.heap.size + 1) 0 [.int .i64 0, .int .i64 0] := S1.range 0 _ (fun j u hu => by rw [Nat.zero_add]; simpa using hu)
        have hxi : (f = true → x.i = 0) ∧ (f = false → ¬ x.i = 0) := by
          have hf := HF.out
          constructor
          · intro e
            rw [e] at hf
            exact of_decide_eq_true hf
          · intro e
            rw [e] at hf
            exact of_decide_eq_false hf
        have HN : Hid (rv a b x = if (y && !f) = true then { x with p := a, s := b } else x) := by
          show _ = _
          unfold rv z2
          rw [HY.out, HF.out]
        have HS : Hid (stg a b l k = rvs a b (l.take k) ++ x :: l.drop (k + 1) ∧ stg a b l (k + 1) = rvs a b (l.take k) ++ rv a b x :: l.drop (k + 1)) := by
          show _ ∧ _
          rw [stg_at _ _ _ _ hlt, stg_next _ _ _ _ hlt, HX.out]
          exact ⟨rfl, rfl⟩
        have hlen : (rvs a b (l.take k)).length = k := by simp [rvs]; omega
        have HL : Hid ((rvs a b (l.take k)).length = k) := hlen
        clear HF HY hlen
        cases y <;> cases f
        all_goals
          first
          | have hf := hxi.1 rfl
          | have hf := hxi.2 rfl
          go_wp2_with fail
          refine Calm.region (by kernel_rfl) (by kernel_rfl) (fun w' => w' = wr.drew) rfl ?_
        all_goals
          refine Calm.pure (v := ?_) (by rfl) ?_ ?_
          rotate_left
          focus (intro w hSw; subst hSw; go_simp <;> rfl)
          simp only [Act.put, List.setIfInBounds_toArray, List.set_cons_zero, List.set_cons_succ]
        all_goals
          refine Calm.pure (v := ?_) (by rfl) ?_ ?_
          rotate_left
          focus (intro w hSw; subst hSw; go_simp <;> rfl)
          simp only [Act.put, List.setIfInBounds_toArray, List.set_cons_zero, List.set_cons_succ]
        all_goals
          refine Calm.pure (v := ?_) (by rfl) ?_ ?_
          rotate_left
          focus (intro w hSw; subst hSw; go_simp <;> rfl)
          simp only [Act.put, List.setIfInBounds_toArray, List.set_cons_zero, List.set_cons_succ]
        all_goals
          refine Calm.pure (v := ?_) (by rfl) ?_ ?_
          rotate_left
          focus (intro w hSw; subst hSw; go_simp <;> rfl)
          simp only [Act.put, List.setIfInBounds_toArray, List.set_cons_zero, List.set_cons_succ]
        all_goals
          refine Calm.pure (v := ?_) (by rfl) ?_ ?_
          rotate_left
          focus (intro w hSw; subst hSw; go_simp <;> rfl)
          simp only [Act.put, List.setIfInBounds_toArray, List.set_cons_zero, List.set_cons_succ]
        all_goals
          refine Calm.loadM 23 Try.underlying23 rfl zd (by rfl) _ rfl rfl (fun _ h => by subst h; exact d7) ?_
          simp only [Act.put, List.setIfInBounds_toArray, List.set_cons_zero, List.set_cons_succ]
        all_goals
          refine Calm.loadM 23 Try.underlying23 rfl zn (by rfl) _ rfl rfl (fun _ h => by subst h; exact dn) ?_
          simp only [Act.put, List.setIfInBounds_toArray, List.set_cons_zero, List.set_cons_succ]
        all_goals
          refine Calm.pure (v := ?_) (by rfl) ?_ ?_
          rotate_left
          focus (intro w hSw; subst hSw; go_simp <;> rfl)
          simp only [Act.put, List.setIfInBounds_toArray, List.set_cons_zero, List.set_cons_succ]
        all_goals
          refine Calm.pure (v := ?_) (by rfl) ?_ ?_
          rotate_left
          focus (intro w hSw; subst hSw; go_simp <;> rfl)
          simp only [Act.put, List.setIfInBounds_toArray, List.set_cons_zero, List.set_cons_succ]
        all_goals
          first
            | (refine Calm.skip ?_ ?_; focus rfl)
            | (refine Calm.pure (v := ?_) (by rfl) ?_ ?_
               rotate_left
               focus (intro w hSw; subst hSw; go_simp <;> rfl))
          simp only [Act.put, List.setIfInBounds_toArray, List.set_cons_zero, List.set_cons_succ]
        all_goals
          first
            | (refine Calm.skip ?_ ?_; focus rfl)
            | (refine Calm.pure (v := ?_) (by rfl) ?_ ?_
               rotate_left
               focus (intro w hSw; subst hSw; go_simp <;> rfl))
          simp only [Act.put, List.setIfInBounds_toArray, List.set_cons_zero, List.set_cons_succ]
        all_goals
          first
            | (refine Calm.skip ?_ ?_; focus rfl)
            | (refine Calm.pure (v := ?_) (by rfl) ?_ ?_
               rotate_left
               focus (intro w hSw; subst hSw; go_simp <;> rfl))
          simp only [Act.put, List.setIfInBounds_toArray, List.set_cons_zero, List.set_cons_succ]
        all_goals
          first
            | (refine Calm.skip ?_ ?_; focus rfl)
            | (refine Calm.pure (v := ?_) (by rfl) ?_ ?_
               rotate_left
               focus (intro w hSw; subst hSw; go_simp <;> rfl))
          simp only [Act.put, List.setIfInBounds_toArray, List.set_cons_zero, List.set_cons_succ]
        all_goals
          first
            | (refine Calm.skip ?_ ?_; focus rfl)
            | (refine Calm.pure (v := ?_) (by rfl) ?_ ?_
               rotate_left
               focus (intro w hSw; subst hSw; go_simp <;> rfl))
          simp only [Act.put, List.setIfInBounds_toArray, List.set_cons_zero, List.set_cons_succ]
        all_goals
          first
            | (refine Calm.skip ?_ ?_; focus rfl)
            | (refine Calm.pure (v := ?_) (by rfl) ?_ ?_
               rotate_left
               focus (intro w hSw; subst hSw; go_simp <;> rfl))
          simp only [Act.put, List.setIfInBounds_toArray, List.set_cons_zero, List.set_cons_succ]
        all_goals
          first
            | (refine Calm.skip ?_ ?_; focus rfl)
            | (refine Calm.pure (v := ?_) (by rfl) ?_ ?_
               rotate_left
               focus (intro w hSw; subst hSw; go_simp <;> rfl))
          simp only [Act.put, List.setIfInBounds_toArray, List.set_cons_zero, List.set_cons_succ]
        all_goals
          refine Calm.pure (v := ?_) (by rfl) ?_ ?_
          rotate_left
          focus (intro w hSw; subst hSw; go_simp <;> rfl)
          simp only [Act.put, List.setIfInBounds_toArray, List.set_cons_zero, List.set_cons_succ]
        all_goals
          rintro w9 rfl
        rotate_left 2
        · have hth : wr.drew.there g (k * 10 + 7) 2 := fun j hj => ⟨d7.isSome j hj, hown.frozenAt _⟩
          have own3 := ((hown.drew.stored (k * 10 + 7) (.int .i64 a)).1.stored (k * 10 + 7 + 1) (.int .i64 b)).1
          have e : stg a b l (k + 1) = rvs a b (l.take k) ++ { x with p := a, s := b } :: l.drop (k + 1) := by rw [HS.out.2, HN.out]; rfl
          rw [HS.out.1, ocel_dot _ _ _ _ _ _ HL.out, ← e] at own3
          have T0 : Rw ((wr.drew.setCell ⟨g, k * 10 + 7, none⟩ (.int .i64 a)).setCell ⟨g, k * 10 + 7 + 1, none⟩ (.int .i64 b)) w.heap.size 23 #[.int .i64 a, .int .i64 b] := (S0.drew.setOther (by omega) _ _).setOther (by omega) _ _
          have T1 : Rw ((wr.drew.setCell ⟨g, k * 10 + 7, none⟩ (.int .i64 a)).setCell ⟨g, k * 10 + 7 + 1, none⟩ (.int .i64 b)) (w.heap.size + 1) 23 #[.int .i64 0, .int .i64 0] := (S1.drew.setOther (by omega) _ _).setOther (by omega) _ _
          have tbel : Below w.heap.size w ((wr.drew.setCell ⟨g, k * 10 + 7, none⟩ (.int .i64 a)).setCell ⟨g, k * 10 + 7 + 1, none⟩ (.int .i64 b)) := (hbel.drew.setCell (by show _ ≤ g; omega) _).setCell (by show _ ≤ g; omega) _
          clear e HN HS HL HX hown
          go_wp2_with (first | refine load_r 23 _ rfl rfl _ rfl S0.drew Try.underlying23 rfl size23 ?_ | refine wpList_store_mid rfl 23 _ _ rfl g (k * 10 + 7) #[.int .i64 a, .int .i64 b] rfl rfl hth size23 (by simp [Value.oneCell']) ?_)
          go_roundw
          case rel => exact ⟨k + 1, by simp, by omega, own3, T0, T1, tbel⟩
          case measure => simp [intOf]; omega
        all_goals
          have e : stg a b l (k + 1) = stg a b l k := by rw [HS.out.1, HS.out.2, HN.out]; rfl
          rw [← e] at hown
          clear e HN HS HL HX
          go_wp2_with fail
          go_roundw
          case rel => exact ⟨k + 1, by simp, by omega, hown.drew, S0.drew, S1.drew, hbel.drew⟩
          case measure => simp [intOf]; omega
      · have hlt' : ¬ (k : Int) < (l.length : Int) := by omega
        obtain rfl : k = l.length := by omega
        have e : stg a b l l.length = rvs a b l := by simp [stg]
        rw [e] at hown
        have hl : l.length = (rvs a b l).length := by simp [rvs]
        have hres := own_ois hl hown (by rw [← hl]; exact hm)
        have hfr := own_fr (w := w) hown (by omega)
        clear hl e hown
        go_wp2_with fail
        go_ret
        exact ⟨_, rfl, hres, hfr, hbel⟩
end Go.Proofs.Ytiijkoefhmohcaa
