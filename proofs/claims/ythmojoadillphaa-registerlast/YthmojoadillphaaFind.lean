/- find of package register, its closure and slices.BinarySearchFunc. -/
import Derived.Test.YthmojoadillphaaOrd
import Derived.Test.YthmojoadillphaaCk
import Derived.Test.YthmojoadillphaaCalmT
namespace Go.Proofs.Ythmojoadillphaa
open Go.RowKit

theorem Calm.callF2s {P : Program} {ops : Array Oper} {S : World → Prop} {K : Act → Prop} {o : Oper} {l : List Oper} {a : Act} {r x y : Value} {f : FuncId} {ts : Array TypeId} {uf u v : Operand} (hw : Region.wanted o (yielded ops a.tmps) = true)
    (ho : o.op = .call { callee := .value uf, args := #[u, v], argTypes := ts }) (hv : a.eval uf = .func (.func f) #[] #[]) (hu : a.eval u = x) (hy : a.eval v = y) (hf : Calm.enters P f = true) (hs : Calm.Stays S)
    (hc : ∀ w, S w → Calls P f #[x, y] w fun e w' => e = .returned r ∧ RowKit.Below w.heap.size w w')
    (h : Calm.calmList P ops S K l (a.put o.dst r)) : Calm.calmList P ops S K (o :: l) a :=
  Calm.call (f := f) (args := #[x, y]) hw (fun w => by
    have e : ∀ args, (callFunc f args).run P w = .ok (.enter f args) w := fun args => Calm.enters_run hf args w
    generalize a.eval = ρ at hv hu hy ⊢
    subst hu
    subst hy
    unfold execOp
    simp [ho, go_sem, hv, e]) (fun w hS => (hc w hS).mono fun e w' he => ⟨he.1, hs w w' hS he.2⟩) h
/-- How two marks stand. -/
def cmpW (y x : Wt) : Int := if lt y x = true then -1 else if lt x y = true then 1 else 0
theorem cmpW_lt (y x : Wt) : decide (cmpW y x < 0) = lt y x := by
  unfold cmpW
  cases lt y x
  · cases lt x y <;> simp
  · simp
theorem cmpW_eq (y x : Wt) : decide (cmpW y x = 0) = mk y x := by
  unfold cmpW
  cases h1 : lt y x
  · cases h2 : lt x y
    · cases h3 : mk y x
      · have := lt_total h1 h3
        rw [h2] at this
        cases this
      · simp
    · cases h3 : mk y x
      · simp
      · rw [mk_iff] at h3
        rw [lt_iff] at h2
        omega
  · cases h3 : mk y x
    · simp
    · rw [mk_lt h3] at h1
      cases h1
set_option maxHeartbeats 1000000 in
set_option maxRecDepth 100000 in
theorem find1_any (y x : Wt) (w : World) : Calls Try.prog 47 #[WV y.p y.s y.i y.t y.x, MV x.p x.s x.i] w (Tells (.int .i64 (cmpW y x)) w) := by
  have C1 : ∀ w, Calls Try.prog 48 #[MV y.p y.s y.i, MV x.p x.s x.i] w (Tells (.bool (lt y x)) w) := fun w => less_any y.p y.s y.i x.p x.s x.i w
  have C2 : ∀ w, Calls Try.prog 48 #[MV x.p x.s x.i, MV y.p y.s y.i] w (Tells (.bool (lt x y)) w) := fun w => less_any x.p x.s x.i y.p y.s y.i w
  obtain ⟨r, HR⟩ := hid_ex (cmpW y x)
  rw [HR.out]
  unfold cmpW at HR
  generalize lt y x = z1 at C1 HR
  generalize lt x y = z2 at C2 HR
  obtain ⟨R0, R1, hbel⟩ := two_rows w #[.int .i64 y.p, .int .i64 y.s, .int .i64 y.i, .int .i64 y.t, .string y.x] 42 #[.int .i64 x.p, .int .i64 x.s, .int .i64 x.i] 39
  generalize hW : (w.alloc (.cells #[.int .i64 y.p, .int .i64 y.s, .int .i64 y.i, .int .i64 y.t, .string y.x] 42)).alloc (.cells #[.int .i64 x.p, .int .i64 x.s, .int .i64 x.i] 39) = w0 at R0 R1 hbel
  have d0 := Wt.mark (x := y) (Rw.whole R0)
  have zm : (Try.prog.info? 39).map (·.size) = some [Value.int .i64 y.p, .int .i64 y.s, .int .i64 y.i].length := size39
  go_enter Try.func47, Try.ntmps47
  go_wp2_with (first | rw [hW] | refine load_m 39 _ rfl rfl _ _ rfl d0 Try.underlying39 rfl zm ?_ | refine load_r 39 _ rfl rfl _ rfl R1 Try.underlying39 rfl size39 ?_)
  refine (C1 _).mono ?_
  clear C1
  rintro e w1 ⟨rfl, hb1⟩
  replace R0 := R0.later hb1
  replace R1 := R1.later hb1
  replace hbel := below_on hbel hb1
  clear hb1 hW d0
  cases z1
  · have d0 := Wt.mark (x := y) (Rw.whole R0)
    go_wp2_with (first | refine load_m 39 _ rfl rfl _ _ rfl d0 Try.underlying39 rfl zm ?_ | refine load_r 39 _ rfl rfl _ rfl R1 Try.underlying39 rfl size39 ?_)
    refine (C2 _).mono ?_
    clear C2
    rintro e w2 ⟨rfl, hb1⟩
    replace hbel := below_on hbel hb1
    cases z2
    · obtain rfl : r = 0 := HR.out.symm
      clear HR
      go_wp2_with fail
      go_ret
      exact ⟨rfl, hbel⟩
    · obtain rfl : r = 1 := HR.out.symm
      clear HR
      go_wp2_with fail
      go_ret
      exact ⟨rfl, hbel⟩
  · obtain rfl : r = -1 := HR.out.symm
    clear HR
    go_wp2_with fail
    go_ret
    exact ⟨rfl, hbel⟩
theorem pair_at {l : List Wt} (h : l.Pairwise (fun a b => lt a b = true)) (i j : Nat) (hj : j < l.length) (hij : i < j) : lt (l[i]'(by omega)) l[j] = true := (List.pairwise_iff_getElem.1 h) i j (by omega) hj hij
/-- What find answers: whether it is there, and where it would stand. -/
def FdPost (l : List Wt) (x : Wt) (w : World) (e : Ending) (w' : World) : Prop := ∃ k : Nat, e = .returned (.tuple #[.int .i64 k, .bool (has x l)]) ∧ k ≤ l.length ∧ l.take k ++ x :: l.drop k = insF x l ∧ Below w.heap.size w w'
theorem has_at {x : Wt} {l : List Wt} {k : Nat} (hp : l.Pairwise (fun a b => lt a b = true)) (h1 : ∀ j (h : j < l.length), j < k → lt l[j] x = true) (h2 : ∀ j (h : j < l.length), k ≤ j → lt l[j] x = false) : has x l = (if h : k < l.length then mk l[k] x else false) := by
  split
  · rename_i h
    cases e : mk l[k] x
    · rw [has_false]
      intro y hy
      obtain ⟨j, hj, rfl⟩ := List.getElem_of_mem hy
      cases e2 : mk l[j] x
      · rfl
      · exfalso
        rcases Nat.lt_trichotomy j k with h' | h' | h'
        · have := h1 j hj h'
          rw [mk_lt e2] at this
          cases this
        · subst h'
          rw [e] at e2
          cases e2
        · have a1 := pair_at hp k j hj h'
          have a2 := h2 k h (Nat.le_refl _)
          have a3 : lt l[k] x = true := by
            rw [lt_iff] at a1 ⊢
            rw [mk_iff] at e2
            omega
          rw [a3] at a2
          cases a2
    · unfold has
      rw [List.any_eq_true]
      exact ⟨l[k], List.getElem_mem _, e⟩
  · rename_i h
    rw [has_false]
    intro y hy
    obtain ⟨j, hj, rfl⟩ := List.getElem_of_mem hy
    have := h1 j hj (by omega)
    cases e2 : mk l[j] x
    · rfl
    · rw [mk_lt e2] at this
      cases this
set_option maxHeartbeats 4000000 in
set_option maxRecDepth 100000 in
theorem search_any (v : Value) (l : List Wt) (x : Wt) (w : World) (h : WHas w v l) (hl : l.length ≤ 100) (hp : l.Pairwise (fun a b => lt a b = true)) :
    Calls Try.prog 46 #[v, MV x.p x.s x.i, .func (.func 47) #[] #[]] w (FdPost l x w) := by
  obtain ⟨p, c, rfl⟩ := h.slice
  have HA : Hid (WHas w (.slice p l.length c) l) := h
  have HP : Hid (l.Pairwise (fun a b => lt a b = true)) := hp
  clear h hp
  have zm : (Try.prog.info? 39).map (·.size) = some [Value.int .i64 x.p, .int .i64 x.s, .int .i64 x.i].length := size39
  have R := rw_new w 39 #[.int .i64 x.p, .int .i64 x.s, .int .i64 x.i]
  have hbel := bel_alloc (Below.refl w.heap.size w) (.cells #[.int .i64 x.p, .int .i64 x.s, .int .i64 x.i] 39)
  generalize hW : w.alloc (.cells #[.int .i64 x.p, .int .i64 x.s, .int .i64 x.i] 39) = w0 at R hbel
  go_enter Try.func46, Try.ntmps46
  go_wp2_with (first | rw [hW])
  clear hW
  go_loopw [9, 10] (fun vi vj wr => ∃ a b : Nat, vi = .int .i64 a ∧ vj = .int .i64 b ∧ a ≤ b ∧ b ≤ l.length ∧ Hid (∀ j (h : j < l.length), j < a → lt l[j] x = true) ∧ Hid (∀ j (h : j < l.length), b ≤ j → lt l[j] x = false) ∧ Rw wr w.heap.size 39 #[.int .i64 x.p, .int .i64 x.s, .int .i64 x.i] ∧ Below w.heap.size w wr) (fun vi vj _ => (intOf vj).toNat - (intOf vi).toNat)
  case atStart => exact ⟨0, l.length, rfl, rfl, by omega, by omega, (show ∀ j (_ : j < l.length), j < 0 → _ from fun j _ h => by omega), (show ∀ j (_ : j < l.length), l.length ≤ j → _ from fun j h h' => by omega), R, hbel⟩
  case round =>
    clear R hbel w0
    obtain ⟨a, b, rfl, rfl, hab, hbl, HV, HW, R, hbel⟩ := hrel
    by_cases hlt : a < b
    · have hlt' : (a : Int) < (b : Int) := by omega
      obtain ⟨m, hm⟩ : ∃ m : Nat, m = (a + b) / 2 := ⟨_, rfl⟩
      have hmi : ((a : Int) + (b : Int)) / 2 = (m : Int) := by omega
      have hm1 : a ≤ m := by omega
      have hm2 : m < b := by omega
      have hml : m < l.length := by omega
      have hml' : (m : Int) < (l.length : Int) := by omega
      have hm0 : (0 : Int) ≤ (m : Int) := by omega
      obtain ⟨g, o, rfl, hd0⟩ := HA.out.at (by omega)
      have d := Wt.elem (range_later hd0 hbel) m hml
      clear hd0
      obtain ⟨y, HY⟩ := hid_ex l[m]
      rw [HY.out] at d
      have z42 : (Try.prog.info? 42).map (·.size) = some y.cells.length := size42
      obtain ⟨z, HZ⟩ := hid_ex (lt y x)
      have hcz : decide (cmpW y x < 0) = z := by rw [cmpW_lt, HZ.out]
      have HZ' : Hid (lt l[m] x = z) := by show _ = _; rw [HY.out, HZ.out]
      clear hm HY HZ HA
      obtain ⟨cz, HCZ⟩ := hid_ex (cmpW y x)
      rw [HCZ.out] at hcz
      have C1 : ∀ w, Calls Try.prog 47 #[WV y.p y.s y.i y.t y.x, MV x.p x.s x.i] w (Tells (.int .i64 cz) w) := fun w => by rw [← HCZ.out]; exact find1_any y x w
      clear HCZ
      go_wp2_with (first | rw [hmi])
      have hs : Calm.Stays (fun w' => Rw w' w.heap.size 39 #[.int .i64 x.p, .int .i64 x.s, .int .i64 x.i] ∧ w'.rangeAt g (o + m * 5) y.cells ∧ Below w.heap.size w w') := fun wa wb h hb => ⟨h.1.later hb, range_later h.2.1 hb, below_on h.2.2 hb⟩
      refine Calm.region (by kernel_rfl) (by kernel_rfl) (fun w' => Rw w' w.heap.size 39 #[.int .i64 x.p, .int .i64 x.s, .int .i64 x.i] ∧ w'.rangeAt g (o + m * 5) y.cells ∧ Below w.heap.size w w') ⟨R, d, hbel.drew⟩ ?_
      all_goals
        refine Calm.pure (v := ?_) (by rfl) ?_ ?_
        rotate_left
        focus (intro w hSw; go_simp <;> rfl)
        simp only [Act.put, List.setIfInBounds_toArray, List.set_cons_zero, List.set_cons_succ]
      all_goals
        refine Calm.pure (v := ?_) (by rfl) ?_ ?_
        rotate_left
        focus (intro w hSw; go_simp <;> rfl)
        simp only [Act.put, List.setIfInBounds_toArray, List.set_cons_zero, List.set_cons_succ]
      all_goals
        refine Calm.pure (v := ?_) (by rfl) ?_ ?_
        rotate_left
        focus (intro w hSw; go_simp <;> rfl)
        simp only [Act.put, List.setIfInBounds_toArray, List.set_cons_zero, List.set_cons_succ]
      all_goals
        refine Calm.pure (v := ?_) (by rfl) ?_ ?_
        rotate_left
        focus (intro w hSw; go_simp <;> rfl)
        simp only [Act.put, List.setIfInBounds_toArray, List.set_cons_zero, List.set_cons_succ]
      all_goals
        refine Calm.loadM 42 Try.underlying42 rfl z42 (by rfl) _ rfl rfl (fun _ h => h.2.1) ?_
        simp only [Act.put, List.setIfInBounds_toArray, List.set_cons_zero, List.set_cons_succ]
      all_goals
        refine Calm.loadM 39 Try.underlying39 rfl zm (by rfl) _ rfl rfl (fun _ h => Rw.whole h.1) ?_
        simp only [Act.put, List.setIfInBounds_toArray, List.set_cons_zero, List.set_cons_succ]
      all_goals
        refine Calm.callF2s (by rfl) rfl rfl rfl rfl (by kernel_rfl) hs (fun w1 h => C1 w1) ?_
        simp only [Act.put, List.setIfInBounds_toArray, List.set_cons_zero, List.set_cons_succ]
      all_goals
        refine Calm.pure (v := ?_) (by rfl) ?_ ?_
        rotate_left
        focus (intro w hSw; go_simp <;> rfl)
        simp only [Act.put, List.setIfInBounds_toArray, List.set_cons_zero, List.set_cons_succ]
      all_goals
        rintro w9 ⟨R9, _, hbel9⟩
      cases z
      · have hcz' : ¬ cz < 0 := by simpa using hcz
        have HW2 : Hid (∀ j (h : j < l.length), m ≤ j → lt l[j] x = false) := fun j h hj => by
          rcases Nat.lt_or_ge m j with h' | h'
          · cases k : lt l[j] x
            · rfl
            · have := lt_trans (pair_at HP.out m j h h') k
              rw [HZ'.out] at this
              cases this
          · obtain rfl : j = m := by omega
            exact HZ'.out
        clear hcz
        go_wp2_with fail
        go_roundw
        case rel => exact ⟨a, m, rfl, rfl, by omega, by omega, HV, HW2, R9, hbel9⟩
        case measure => simp [intOf]; omega
      · have hcz' : cz < 0 := by simpa using hcz
        have HV2 : Hid (∀ j (h : j < l.length), j < m + 1 → lt l[j] x = true) := fun j h hj => by
          rcases Nat.lt_or_ge j m with h' | h'
          · exact lt_trans (pair_at HP.out j m hml h') HZ'.out
          · obtain rfl : j = m := by omega
            exact HZ'.out
        clear hcz
        go_wp2_with fail
        go_roundw
        case rel => exact ⟨m + 1, b, by simp, rfl, by omega, by omega, HV2, HW, R9, hbel9⟩
        case measure => simp [intOf]; omega
    · obtain rfl : a = b := by omega
      have hlt' : ¬ (a : Int) < (a : Int) := by omega
      have HI : Hid (l.take a ++ x :: l.drop a = insF x l) := insF_at HV.out HW.out
      have hh := has_at HP.out HV.out HW.out
      obtain ⟨t, HT⟩ := hid_ex (has x l)
      have HF : Hid (∀ e w', FdPost l x w e w' ↔ ∃ k : Nat, e = .returned (.tuple #[.int .i64 k, .bool t]) ∧ k ≤ l.length ∧ l.take k ++ x :: l.drop k = insF x l ∧ Below w.heap.size w w') := fun e w' => by unfold FdPost; rw [HT.out]
      rw [HT.out] at hh
      clear HV HW HP
      by_cases hal : a < l.length
      · rw [dif_pos hal] at hh
        have hal' : (a : Int) < (l.length : Int) := by omega
        have ha0 : (0 : Int) ≤ (a : Int) := by omega
        obtain ⟨g, o, rfl, hd0⟩ := HA.out.at (by omega)
        have d := Wt.elem (range_later hd0 hbel) a hal
        clear hd0 HA
        obtain ⟨y, HY⟩ := hid_ex l[a]
        rw [HY.out] at d hh
        have z42 : (Try.prog.info? 42).map (·.size) = some y.cells.length := size42
        have hcz : decide (cmpW y x = 0) = t := by rw [cmpW_eq, hh]
        clear hh HY HT
        obtain ⟨cz, HCZ⟩ := hid_ex (cmpW y x)
        rw [HCZ.out] at hcz
        have C1 : ∀ w, Calls Try.prog 47 #[WV y.p y.s y.i y.t y.x, MV x.p x.s x.i] w (Tells (.int .i64 cz) w) := fun w => by rw [← HCZ.out]; exact find1_any y x w
        clear HCZ
        go_wp2_with fail
        have hs : Calm.Stays (fun w' => Rw w' w.heap.size 39 #[.int .i64 x.p, .int .i64 x.s, .int .i64 x.i] ∧ w'.rangeAt g (o + a * 5) y.cells ∧ Below w.heap.size w w') := fun wa wb h hb => ⟨h.1.later hb, range_later h.2.1 hb, below_on h.2.2 hb⟩
        refine Calm.region (by kernel_rfl) (by kernel_rfl) (fun w' => Rw w' w.heap.size 39 #[.int .i64 x.p, .int .i64 x.s, .int .i64 x.i] ∧ w'.rangeAt g (o + a * 5) y.cells ∧ Below w.heap.size w w') ⟨R, d, hbel.drew⟩ ?_
        all_goals
          refine Calm.pure (v := ?_) (by rfl) ?_ ?_
          rotate_left
          focus (intro w hSw; go_simp <;> rfl)
          simp only [Act.put, List.setIfInBounds_toArray, List.set_cons_zero, List.set_cons_succ]
        all_goals
          refine Calm.pure (v := ?_) (by rfl) ?_ ?_
          rotate_left
          focus (intro w hSw; go_simp <;> rfl)
          simp only [Act.put, List.setIfInBounds_toArray, List.set_cons_zero, List.set_cons_succ]
        all_goals
          refine Calm.pure (v := ?_) (by rfl) ?_ ?_
          rotate_left
          focus (intro w hSw; go_simp <;> rfl)
          simp only [Act.put, List.setIfInBounds_toArray, List.set_cons_zero, List.set_cons_succ]
        all_goals
          refine Calm.pure (v := ?_) (by rfl) ?_ ?_
          rotate_left
          focus (intro w hSw; go_simp <;> rfl)
          simp only [Act.put, List.setIfInBounds_toArray, List.set_cons_zero, List.set_cons_succ]
        all_goals
          refine Calm.pure (v := ?_) (by rfl) ?_ ?_
          rotate_left
          focus (intro w hSw; go_simp <;> rfl)
          simp only [Act.put, List.setIfInBounds_toArray, List.set_cons_zero, List.set_cons_succ]
        all_goals
          first
            | (refine Calm.skip ?_ ?_; focus rfl)
            | (refine Calm.pure (v := ?_) (by rfl) ?_ ?_
               rotate_left
               focus (intro w hSw; go_simp <;> rfl))
          simp only [Act.put, List.setIfInBounds_toArray, List.set_cons_zero, List.set_cons_succ]
        all_goals
          first
            | (refine Calm.skip ?_ ?_; focus rfl)
            | (refine Calm.pure (v := ?_) (by rfl) ?_ ?_
               rotate_left
               focus (intro w hSw; go_simp <;> rfl))
          simp only [Act.put, List.setIfInBounds_toArray, List.set_cons_zero, List.set_cons_succ]
        all_goals
          first
            | (refine Calm.skip ?_ ?_; focus rfl)
            | (refine Calm.pure (v := ?_) (by rfl) ?_ ?_
               rotate_left
               focus (intro w hSw; go_simp <;> rfl))
          simp only [Act.put, List.setIfInBounds_toArray, List.set_cons_zero, List.set_cons_succ]
        all_goals
          first
            | (refine Calm.skip ?_ ?_; focus rfl)
            | (refine Calm.pure (v := ?_) (by rfl) ?_ ?_
               rotate_left
               focus (intro w hSw; go_simp <;> rfl))
          simp only [Act.put, List.setIfInBounds_toArray, List.set_cons_zero, List.set_cons_succ]
        all_goals
          first
            | (refine Calm.skip ?_ ?_; focus rfl)
            | (refine Calm.loadM 42 Try.underlying42 rfl z42 (by rfl) _ rfl rfl (fun _ h => h.2.1) ?_)
          simp only [Act.put, List.setIfInBounds_toArray, List.set_cons_zero, List.set_cons_succ]
        all_goals
          first
            | (refine Calm.skip ?_ ?_; focus rfl)
            | (refine Calm.loadM 39 Try.underlying39 rfl zm (by rfl) _ rfl rfl (fun _ h => Rw.whole h.1) ?_)
          simp only [Act.put, List.setIfInBounds_toArray, List.set_cons_zero, List.set_cons_succ]
        all_goals
          first
            | (refine Calm.skip ?_ ?_; focus rfl)
            | (refine Calm.callF2s (by rfl) rfl rfl rfl rfl (by kernel_rfl) hs (fun w1 h => C1 w1) ?_)
          simp only [Act.put, List.setIfInBounds_toArray, List.set_cons_zero, List.set_cons_succ]
        all_goals
          first
            | (refine Calm.skip ?_ ?_; focus rfl)
            | (refine Calm.pure (v := ?_) (by rfl) ?_ ?_
               rotate_left
               focus (intro w hSw; go_simp <;> rfl))
          simp only [Act.put, List.setIfInBounds_toArray, List.set_cons_zero, List.set_cons_succ]
        all_goals
          refine Calm.pure (v := ?_) (by rfl) ?_ ?_
          rotate_left
          focus (intro w hSw; go_simp <;> rfl)
          simp only [Act.put, List.setIfInBounds_toArray, List.set_cons_zero, List.set_cons_succ]
        all_goals
          refine Calm.pure (v := ?_) (by rfl) ?_ ?_
          rotate_left
          focus (intro w hSw; go_simp <;> rfl)
          simp only [Act.put, List.setIfInBounds_toArray, List.set_cons_zero, List.set_cons_succ]
        all_goals
          refine Calm.pure (v := ?_) (by rfl) ?_ ?_
          rotate_left
          focus (intro w hSw; go_simp <;> rfl)
          simp only [Act.put, List.setIfInBounds_toArray, List.set_cons_zero, List.set_cons_succ]
        all_goals
          rintro w9 ⟨_, _, hbel9⟩
        go_wp2_with fail
        refine bodyPost_ret (v := .tuple #[.int .i64 a, .bool t]) (by simp [results, Try.results46, go_sem]; exact hcz) rfl ?_
        rw [HF.out]
        exact ⟨a, rfl, hbl, HI.out, hbel9⟩
      · rw [dif_neg hal] at hh
        have hal' : ¬ (a : Int) < (l.length : Int) := by omega
        have e := hh
        subst e
        clear HT hh HA
        go_wp2_with fail
        have hs : Calm.Stays (fun w' => Rw w' w.heap.size 39 #[.int .i64 x.p, .int .i64 x.s, .int .i64 x.i] ∧ Below w.heap.size w w') := fun wa wb h hb => ⟨h.1.later hb, below_on h.2 hb⟩
        refine Calm.region (by kernel_rfl) (by kernel_rfl) (fun w' => Rw w' w.heap.size 39 #[.int .i64 x.p, .int .i64 x.s, .int .i64 x.i] ∧ Below w.heap.size w w') ⟨R, hbel.drew⟩ ?_
        all_goals
          refine Calm.pure (v := ?_) (by rfl) ?_ ?_
          rotate_left
          focus (intro w hSw; go_simp <;> rfl)
          simp only [Act.put, List.setIfInBounds_toArray, List.set_cons_zero, List.set_cons_succ]
        all_goals
          refine Calm.pure (v := ?_) (by rfl) ?_ ?_
          rotate_left
          focus (intro w hSw; go_simp <;> rfl)
          simp only [Act.put, List.setIfInBounds_toArray, List.set_cons_zero, List.set_cons_succ]
        all_goals
          refine Calm.pure (v := ?_) (by rfl) ?_ ?_
          rotate_left
          focus (intro w hSw; go_simp <;> rfl)
          simp only [Act.put, List.setIfInBounds_toArray, List.set_cons_zero, List.set_cons_succ]
        all_goals
          refine Calm.pure (v := ?_) (by rfl) ?_ ?_
          rotate_left
          focus (intro w hSw; go_simp <;> rfl)
          simp only [Act.put, List.setIfInBounds_toArray, List.set_cons_zero, List.set_cons_succ]
        all_goals
          refine Calm.pure (v := ?_) (by rfl) ?_ ?_
          rotate_left
          focus (intro w hSw; go_simp <;> rfl)
          simp only [Act.put, List.setIfInBounds_toArray, List.set_cons_zero, List.set_cons_succ]
        all_goals
          first
            | (refine Calm.skip ?_ ?_; focus rfl)
            | (refine Calm.pure (v := ?_) (by rfl) ?_ ?_
               rotate_left
               focus (intro w hSw; go_simp <;> rfl))
          simp only [Act.put, List.setIfInBounds_toArray, List.set_cons_zero, List.set_cons_succ]
        all_goals
          first
            | (refine Calm.skip ?_ ?_; focus rfl)
            | (refine Calm.pure (v := ?_) (by rfl) ?_ ?_
               rotate_left
               focus (intro w hSw; go_simp <;> rfl))
          simp only [Act.put, List.setIfInBounds_toArray, List.set_cons_zero, List.set_cons_succ]
        all_goals
          first
            | (refine Calm.skip ?_ ?_; focus rfl)
            | (refine Calm.pure (v := ?_) (by rfl) ?_ ?_
               rotate_left
               focus (intro w hSw; go_simp <;> rfl))
          simp only [Act.put, List.setIfInBounds_toArray, List.set_cons_zero, List.set_cons_succ]
        all_goals
          first
            | (refine Calm.skip ?_ ?_; focus rfl)
            | (refine Calm.pure (v := ?_) (by rfl) ?_ ?_
               rotate_left
               focus (intro w hSw; go_simp <;> rfl))
          simp only [Act.put, List.setIfInBounds_toArray, List.set_cons_zero, List.set_cons_succ]
        all_goals
          first
            | (refine Calm.skip ?_ ?_; focus rfl)
            | (fail)
          simp only [Act.put, List.setIfInBounds_toArray, List.set_cons_zero, List.set_cons_succ]
        all_goals
          first
            | (refine Calm.skip ?_ ?_; focus rfl)
            | (refine Calm.loadM 39 Try.underlying39 rfl zm (by rfl) _ rfl rfl (fun _ h => Rw.whole h.1) ?_)
          simp only [Act.put, List.setIfInBounds_toArray, List.set_cons_zero, List.set_cons_succ]
        all_goals
          first
            | (refine Calm.skip ?_ ?_; focus rfl)
            | (fail)
          simp only [Act.put, List.setIfInBounds_toArray, List.set_cons_zero, List.set_cons_succ]
        all_goals
          first
            | (refine Calm.skip ?_ ?_; focus rfl)
            | (refine Calm.pure (v := ?_) (by rfl) ?_ ?_
               rotate_left
               focus (intro w hSw; go_simp <;> rfl))
          simp only [Act.put, List.setIfInBounds_toArray, List.set_cons_zero, List.set_cons_succ]
        all_goals
          refine Calm.pure (v := ?_) (by rfl) ?_ ?_
          rotate_left
          focus (intro w hSw; go_simp <;> rfl)
          simp only [Act.put, List.setIfInBounds_toArray, List.set_cons_zero, List.set_cons_succ]
        all_goals
          refine Calm.pure (v := ?_) (by rfl) ?_ ?_
          rotate_left
          focus (intro w hSw; go_simp <;> rfl)
          simp only [Act.put, List.setIfInBounds_toArray, List.set_cons_zero, List.set_cons_succ]
        all_goals
          refine Calm.pure (v := ?_) (by rfl) ?_ ?_
          rotate_left
          focus (intro w hSw; go_simp <;> rfl)
          simp only [Act.put, List.setIfInBounds_toArray, List.set_cons_zero, List.set_cons_succ]
        all_goals
          rintro w9 ⟨_, hbel9⟩
        go_wp2_with fail
        refine bodyPost_ret (v := .tuple #[.int .i64 a, .bool false]) (by simp [results, Try.results46, go_sem]) rfl ?_
        rw [HF.out]
        exact ⟨a, rfl, hbl, HI.out, hbel9⟩
set_option maxHeartbeats 1000000 in
set_option maxRecDepth 100000 in
theorem find_any (v : Value) (l : List Wt) (x : Wt) (w : World) (h : WHas w v l) (hl : l.length ≤ 100) (hp : l.Pairwise (fun a b => lt a b = true)) :
    Calls Try.prog 28 #[v, MV x.p x.s x.i] w (FdPost l x w) := by
  obtain ⟨p, c, rfl⟩ := h.slice
  have R := rw_new w 39 #[.int .i64 x.p, .int .i64 x.s, .int .i64 x.i]
  have hbel := bel_alloc (Below.refl w.heap.size w) (.cells #[.int .i64 x.p, .int .i64 x.s, .int .i64 x.i] 39)
  replace h := h.later hbel
  generalize hW : w.alloc (.cells #[.int .i64 x.p, .int .i64 x.s, .int .i64 x.i] 39) = w0 at R hbel h
  have C := search_any _ l x w0 h hl hp
  go_enter Try.func28, Try.ntmps28
  go_wp2_with (first | rw [hW] | refine load_r 39 _ rfl rfl _ rfl R Try.underlying39 rfl size39 ?_)
  refine C.mono ?_
  rintro e w1 ⟨k, rfl, hk, hi, hb1⟩
  have HI : Hid (l.take k ++ x :: l.drop k = insF x l) := hi
  obtain ⟨t, HT⟩ := hid_ex (has x l)
  have HF : Hid (∀ e w', FdPost l x w e w' ↔ ∃ k : Nat, e = .returned (.tuple #[.int .i64 k, .bool t]) ∧ k ≤ l.length ∧ l.take k ++ x :: l.drop k = insF x l ∧ Below w.heap.size w w') := fun e w' => by unfold FdPost; rw [HT.out]
  rw [HT.out]
  clear hi HT h hp C
  go_wp2_with fail
  refine bodyPost_ret (v := .tuple #[.int .i64 k, .bool t]) (by simp [results, Try.results28, go_sem]) rfl ?_
  rw [HF.out]
  exact ⟨k, rfl, hk, HI.out, below_on hbel hb1⟩
end Go.Proofs.Ythmojoadillphaa
