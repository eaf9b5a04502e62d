/- marks.Find of writes, with its closure and sort.Search; find of package register. -/
import Derived.Test.YtknpnjhedfdggaaOrd
import Derived.Test.YtknpnjhedfdggaaCk
import Derived.Test.YtknpnjhedfdggaaCalmT
namespace Go.Proofs.Ytknpnjhedfdggaa
open Go.RowKit

theorem markW_any (y : Wt) (w : World) : Calls Try.prog 47 #[WV y.p y.s y.i y.t y.x] w (Tells (MV y.p y.s y.i) w) := by
  go_enter Try.func47, Try.ntmps47
  go_wp2
  exact bodyPost_ret (results_r rfl rfl (rw_next _ (by simp) 39 _) rfl Try.underlying39 size39) rfl ⟨rfl, bel_alloc (bel_alloc (Below.refl _ _) _) _⟩
theorem Calm.callF1s {P : Program} {ops : Array Oper} {S : World → Prop} {K : Act → Prop} {o : Oper} {l : List Oper} {a : Act} {r x : Value} {f : FuncId} {ts : Array TypeId} {uf u : Operand} (hw : Region.wanted o (yielded ops a.tmps) = true)
    (ho : o.op = .call { callee := .value uf, args := #[u], argTypes := ts }) (hv : a.eval uf = .func (.func f) #[] #[]) (hu : a.eval u = x) (hf : Calm.enters P f = true) (hs : Calm.Stays S)
    (hc : ∀ w, S w → Calls P f #[x] w fun e w' => e = .returned r ∧ RowKit.Below w.heap.size w w')
    (h : Calm.calmList P ops S K l (a.put o.dst r)) : Calm.calmList P ops S K (o :: l) a :=
  Calm.call (f := f) (args := #[x]) hw (fun w => by
    have e : ∀ args, (callFunc f args).run P w = .ok (.enter f args) w := fun args => Calm.enters_run hf args w
    generalize a.eval = ρ at hv hu ⊢
    subst hu
    unfold execOp
    simp [ho, go_sem, hv, e]) (fun w hS => (hc w hS).mono fun e w' he => ⟨he.1, hs w w' hS he.2⟩) h
/-- The boxes that the closure looks at. -/
structure Cap (w : World) (b1 b2 b3 : Nat) (v : Value) (x : Wt) : Prop where
  f : w.cell? ⟨b1, 0, none⟩ = some (.func (.func 47) #[] #[])
  l : w.cell? ⟨b2, 0, none⟩ = some v
  m : Rw w b3 39 #[.int .i64 x.p, .int .i64 x.s, .int .i64 x.i]
theorem Cap.later {w w' : World} {b1 b2 b3 : Nat} {v : Value} {x : Wt} (h : Cap w b1 b2 b3 v x) (hb : Below w.heap.size w w') : Cap w' b1 b2 b3 v x := ⟨cell_later hb h.f, cell_later hb h.l, h.m.later hb⟩
set_option maxHeartbeats 2000000 in
set_option maxRecDepth 100000 in
theorem find1_any (k : Nat) (b1 b2 b3 : Nat) (v : Value) (l : List Wt) (x : Wt) (w : World) (h : WHas w v l) (hk : k < l.length) (hC : Cap w b1 b2 b3 v x) :
    Calls Try.prog 57 #[.int .i64 k, .pointer (some ⟨b1, 0, none⟩), .pointer (some ⟨b2, 0, none⟩), .pointer (some ⟨b3, 0, none⟩)] w (Tells (.bool (!lt l[k] x)) w) := by
  have hml := maxLen_lt h.1
  obtain ⟨p, c, rfl⟩ := h.slice
  obtain ⟨g, o, rfl, hd⟩ := h.at (by omega)
  have d := range_sub hd (k * 5) fun j u hu => rows_at Wt.len l k hk j u hu
  obtain ⟨y, HY⟩ := hid_ex l[k]
  rw [HY.out] at d ⊢
  clear HY h hd
  have ze : (Try.prog.info? 42).map (·.size) = some y.cells.length := size42
  have zm : (Try.prog.info? 39).map (·.size) = some [Value.int .i64 x.p, .int .i64 x.s, .int .i64 x.i].length := size39
  have C1 : ∀ w, Calls Try.prog 50 #[MV y.p y.s y.i, MV x.p x.s x.i] w (Tells (.bool (lt y x)) w) := fun w => less_any y.p y.s y.i x.p x.s x.i w
  generalize lt y x = z at C1 ⊢
  have hbel := Below.refl w.heap.size w
  have hk0 : (0 : Int) ≤ (k : Int) := by omega
  have hk1 : (k : Int) < (l.length : Int) := by omega
  go_enter Try.func57, Try.ntmps57
  go_wp2_with fail
  have hs : Calm.Stays (fun w' => Cap w' b1 b2 b3 (.slice (some ⟨g, o, none⟩) l.length c) x ∧ w'.rangeAt g (o + k * 5) y.cells ∧ Below w.heap.size w w') := fun wa wb h hb => ⟨h.1.later hb, range_later h.2.1 hb, below_on h.2.2 hb⟩
  refine Calm.region (by kernel_rfl) (by kernel_rfl) (fun w' => Cap w' b1 b2 b3 (.slice (some ⟨g, o, none⟩) l.length c) x ∧ w'.rangeAt g (o + k * 5) y.cells ∧ Below w.heap.size w w') ⟨⟨hC.f, hC.l, hC.m⟩, d, hbel.drew⟩ ?_
  all_goals
    refine Calm.pure (v := ?_) (by rfl) ?_ ?_
    rotate_left
    focus (intro w hSw; have g1 := hSw.1.f; go_simp <;> rfl)
    simp only [Act.put, List.setIfInBounds_toArray, List.set_cons_zero, List.set_cons_succ]
  all_goals
    refine Calm.pure (v := ?_) (by rfl) ?_ ?_
    rotate_left
    focus (intro w hSw; have g1 := hSw.1.l; go_simp <;> rfl)
    simp only [Act.put, List.setIfInBounds_toArray, List.set_cons_zero, List.set_cons_succ]
  all_goals
    refine Calm.pure (v := ?_) (by rfl) ?_ ?_
    rotate_left
    focus (intro w hSw; go_simp <;> rfl)
    simp only [Act.put, List.setIfInBounds_toArray, List.set_cons_zero, List.set_cons_succ]
  all_goals
    refine Calm.pure (v := ?_) (by rfl) ?_ ?_
    rotate_left
    focus (intro w hSw; go_simp <;> rfl)
    simp only [Act.put, List.setIfInBounds_toArray, List.set_cons_zero, List.set_cons_succ]
  all_goals
    refine Calm.loadM 42 Try.underlying42 rfl ze (by rfl) _ rfl rfl (fun _ h => h.2.1) ?_
    simp only [Act.put, List.setIfInBounds_toArray, List.set_cons_zero, List.set_cons_succ]
  all_goals
    refine Calm.callF1s (by rfl) rfl rfl rfl (by kernel_rfl) hs (fun w1 h => markW_any y w1) ?_
    simp only [Act.put, List.setIfInBounds_toArray, List.set_cons_zero, List.set_cons_succ]
  all_goals
    refine Calm.loadM 39 Try.underlying39 rfl zm (by rfl) _ rfl rfl (fun _ h => Rw.whole h.1.m) ?_
    simp only [Act.put, List.setIfInBounds_toArray, List.set_cons_zero, List.set_cons_succ]
  all_goals
    refine Calm.call2s (by rfl) rfl rfl rfl (by kernel_rfl) hs (fun w1 h => C1 w1) ?_
    simp only [Act.put, List.setIfInBounds_toArray, List.set_cons_zero, List.set_cons_succ]
  all_goals
    refine Calm.pure (v := ?_) (by rfl) ?_ ?_
    rotate_left
    focus (intro w hSw; go_simp <;> rfl)
    simp only [Act.put, List.setIfInBounds_toArray, List.set_cons_zero, List.set_cons_succ]
  all_goals
    refine Calm.pure (v := ?_) (by rfl) ?_ ?_
    rotate_left
    focus (intro w hSw; go_simp <;> rfl)
    simp only [Act.put, List.setIfInBounds_toArray, List.set_cons_zero, List.set_cons_succ]
  all_goals
    rintro w9 ⟨_, _, hbel9⟩
  go_wp2_with fail
  go_ret
  exact ⟨rfl, hbel9⟩
theorem pair_at {l : List Wt} (h : l.Pairwise (fun a b => lt a b = true)) (i j : Nat) (hj : j < l.length) (hij : i < j) : lt (l[i]'(by omega)) l[j] = true := (List.pairwise_iff_getElem.1 h) i j (by omega) hj hij
/-- What a search comes to: where it stands, or would stand. -/
def SePost (l : List Wt) (x : Wt) (w : World) (e : Ending) (w' : World) : Prop := ∃ k : Nat, e = .returned (.int .i64 k) ∧ k ≤ l.length ∧ (∀ j (h : j < l.length), j < k → lt l[j] x = true) ∧ (∀ j (h : j < l.length), k ≤ j → lt l[j] x = false) ∧ Below w.heap.size w w'
set_option maxHeartbeats 2000000 in
set_option maxRecDepth 100000 in
theorem search_any (b1 b2 b3 : Nat) (v : Value) (l : List Wt) (x : Wt) (w : World) (h : WHas w v l) (hl : l.length ≤ 100) (hp : l.Pairwise (fun a b => lt a b = true)) (hC : Cap w b1 b2 b3 v x) :
    Calls Try.prog 56 #[.int .i64 l.length, .func (.func 57) #[] #[.pointer (some ⟨b1, 0, none⟩), .pointer (some ⟨b2, 0, none⟩), .pointer (some ⟨b3, 0, none⟩)]] w (SePost l x w) := by
  have HA : Hid (WHas w v l) := h
  have HP : Hid (l.Pairwise (fun a b => lt a b = true)) := hp
  have HC : Hid (Cap w b1 b2 b3 v x) := hC
  clear h hp hC
  go_enter Try.func56, Try.ntmps56
  go_wp2
  go_loopw [5, 6] (fun vi vj wr => ∃ a b : Nat, vi = .int .i64 a ∧ vj = .int .i64 b ∧ a ≤ b ∧ b ≤ l.length ∧ Hid (∀ j (h : j < l.length), j < a → lt l[j] x = true) ∧ Hid (∀ j (h : j < l.length), b ≤ j → lt l[j] x = false) ∧ Below w.heap.size w wr) (fun vi vj _ => (intOf vj).toNat - (intOf vi).toNat)
  case atStart => exact ⟨0, l.length, rfl, rfl, by omega, by omega, (show ∀ j (_ : j < l.length), j < 0 → _ from fun j _ h => by omega), (show ∀ j (_ : j < l.length), l.length ≤ j → _ from fun j h h' => by omega), Below.refl _ _⟩
  case round =>
    obtain ⟨a, b, rfl, rfl, hab, hbl, HV, HW, hbel⟩ := hrel
    by_cases hlt : a < b
    · have hlt' : (a : Int) < (b : Int) := by omega
      obtain ⟨m, hm⟩ : ∃ m : Nat, m = (a + b) / 2 := ⟨_, rfl⟩
      have hmi : ((a : Int) + (b : Int)) / 2 = (m : Int) := by omega
      have hm1 : a ≤ m := by omega
      have hm2 : m < b := by omega
      have hml : m < l.length := by omega
      have C1 := find1_any m b1 b2 b3 v l x wr (HA.out.later hbel) hml (HC.out.later hbel)
      obtain ⟨z, HZ⟩ := hid_ex (lt l[m] x)
      rw [HZ.out] at C1
      clear hm
      go_wp2_with (first | rw [hmi])
      refine C1.mono ?_
      clear C1
      rintro e w1 ⟨rfl, hb1⟩
      cases z
      · have HW2 : Hid (∀ j (h : j < l.length), m ≤ j → lt l[j] x = false) := fun j h hj => by
          rcases Nat.lt_or_ge m j with h' | h'
          · cases k : lt l[j] x
            · rfl
            · have := lt_trans (pair_at HP.out m j h h') k
              rw [HZ.out] at this
              cases this
          · obtain rfl : j = m := by omega
            exact HZ.out
        go_wp2_with fail
        go_roundw
        case rel => exact ⟨a, m, rfl, rfl, by omega, by omega, HV, HW2, below_on hbel hb1⟩
        case measure => simp [intOf]; omega
      · have HV2 : Hid (∀ j (h : j < l.length), j < m + 1 → lt l[j] x = true) := fun j h hj => by
          rcases Nat.lt_or_ge j m with h' | h'
          · exact lt_trans (pair_at HP.out j m hml h') HZ.out
          · obtain rfl : j = m := by omega
            exact HZ.out
        go_wp2_with fail
        go_roundw
        case rel => exact ⟨m + 1, b, by simp, rfl, by omega, by omega, HV2, HW, below_on hbel hb1⟩
        case measure => simp [intOf]; omega
    · obtain rfl : a = b := by omega
      have hlt' : ¬ (a : Int) < (a : Int) := by omega
      clear HA HP HC
      go_wp2_with fail
      go_ret
      exact ⟨a, rfl, hbl, HV.out, HW.out, hbel⟩
/-- What find answers: whether it is there, and where it would stand. -/
def FdPost (l : List Wt) (x : Wt) (w : World) (e : Ending) (w' : World) : Prop := ∃ k : Nat, e = .returned (.tuple #[.int .i64 k, .bool (has x l)]) ∧ k ≤ l.length ∧ l.take k ++ x :: l.drop k = insF x l ∧ Below w.heap.size w w'
theorem has_at {x : Wt} {l : List Wt} {k : Nat} (hp : l.Pairwise (fun a b => lt a b = true)) (h1 : ∀ j (h : j < l.length), j < k → lt l[j] x = true) (h2 : ∀ j (h : j < l.length), k ≤ j → lt l[j] x = false) : has x l = (if h : k < l.length then mk l[k] x else false) := by
  split
  · rename_i h
    cases e : mk l[k] x
    · rw [has_false]
      intro y hy
      obtain ⟨j, hj, rfl⟩ := List.getElem_of_mem hy
      cases e2 : mk l[j] x
      · rfl
      · exfalso
        rcases Nat.lt_trichotomy j k with h' | h' | h'
        · have := h1 j hj h'
          rw [mk_lt e2] at this
          cases this
        · subst h'
          rw [e] at e2
          cases e2
        · have a1 := pair_at hp k j hj h'
          have a2 := h2 k h (Nat.le_refl _)
          have a3 : lt l[k] x = true := by
            rw [lt_iff] at a1 ⊢
            rw [mk_iff] at e2
            omega
          rw [a3] at a2
          cases a2
    · unfold has
      rw [List.any_eq_true]
      exact ⟨l[k], List.getElem_mem _, e⟩
  · rename_i h
    rw [has_false]
    intro y hy
    obtain ⟨j, hj, rfl⟩ := List.getElem_of_mem hy
    have := h1 j hj (by omega)
    cases e2 : mk l[j] x
    · rfl
    · rw [mk_lt e2] at this
      cases this
set_option maxHeartbeats 2000000 in
set_option maxRecDepth 100000 in
theorem findW_any (v : Value) (l : List Wt) (x : Wt) (w : World) (h : WHas w v l) (hl : l.length ≤ 100) (hp : l.Pairwise (fun a b => lt a b = true)) :
    Calls Try.prog 46 #[v, MV x.p x.s x.i, .func (.func 47) #[] #[]] w (FdPost l x w) := by
  obtain ⟨pa, ca', rfl⟩ := h.slice
  have hbel := bel_alloc (bel_alloc (bel_alloc (Below.refl w.heap.size w) (.cells #[.slice pa l.length ca'] 23)) (.cells #[.int .i64 x.p, .int .i64 x.s, .int .i64 x.i] 39)) (.cells #[.func (.func 47) #[] #[]] 93)
  have r1 := ((rw_new w 23 #[.slice pa l.length ca']).alloc (.cells #[.int .i64 x.p, .int .i64 x.s, .int .i64 x.i] 39)).alloc (.cells #[.func (.func 47) #[] #[]] 93)
  have r2 := (rw_new (w.alloc (.cells #[.slice pa l.length ca'] 23)) 39 #[.int .i64 x.p, .int .i64 x.s, .int .i64 x.i]).alloc (.cells #[.func (.func 47) #[] #[]] 93)
  have r3 := rw_new ((w.alloc (.cells #[.slice pa l.length ca'] 23)).alloc (.cells #[.int .i64 x.p, .int .i64 x.s, .int .i64 x.i] 39)) 93 #[.func (.func 47) #[] #[]]
  generalize hW : ((w.alloc (.cells #[.slice pa l.length ca'] 23)).alloc (.cells #[.int .i64 x.p, .int .i64 x.s, .int .i64 x.i] 39)).alloc (.cells #[.func (.func 47) #[] #[]] 93) = w0 at hbel r1 r2 r3
  simp only [World.size_alloc, Nat.add_assoc, Nat.reduceAdd] at r2 r3
  have hC : Cap w0 (w.heap.size + 2) w.heap.size (w.heap.size + 1) (.slice pa l.length ca') x := ⟨r3.cell 0, r1.cell 0, r2⟩
  have c1 := hC.l
  replace h := h.later hbel
  clear r1 r2 r3
  go_enter Try.func46, Try.ntmps46
  go_wp2_with (first | rw [hW])
  clear hW
  refine (search_any (w.heap.size + 2) w.heap.size (w.heap.size + 1) _ l x w0 h hl hp hC).mono ?_
  rintro e w1 ⟨k, rfl, hk, h1, h2, hb1⟩
  have HI : Hid (l.take k ++ x :: l.drop k = insF x l) := insF_at h1 h2
  have hh := has_at hp h1 h2
  obtain ⟨t, HT⟩ := hid_ex (has x l)
  have HF : Hid (∀ e w', FdPost l x w e w' ↔ ∃ k : Nat, e = .returned (.tuple #[.int .i64 k, .bool t]) ∧ k ≤ l.length ∧ l.take k ++ x :: l.drop k = insF x l ∧ Below w.heap.size w w') := fun e w' => by unfold FdPost; rw [HT.out]
  replace h := h.later hb1
  replace hC := hC.later hb1
  replace hbel := below_on hbel hb1
  clear h1 h2 hb1 hp c1
  rw [HT.out] at hh
  by_cases hlt : k < l.length
  · rw [dif_pos hlt] at hh
    have hlt' : (k : Int) < (l.length : Int) := by omega
    have hk0 : (0 : Int) ≤ (k : Int) := by omega
    obtain ⟨g, o, rfl, hd⟩ := h.at (by omega)
    have d := range_sub hd (k * 5) fun j u hu => rows_at Wt.len l k hlt j u hu
    obtain ⟨y, HY⟩ := hid_ex l[k]
    rw [HY.out] at d hh
    have E := fun w => eq_mark w y.p y.s y.i x.p x.s x.i
    rw [show (decide (y.p = x.p) && decide (y.s = x.s) && decide (y.i = x.i)) = t from hh.symm] at E
    have ze : (Try.prog.info? 42).map (·.size) = some y.cells.length := size42
    have zm : (Try.prog.info? 39).map (·.size) = some [Value.int .i64 x.p, .int .i64 x.s, .int .i64 x.i].length := size39
    clear hh h hd HY HT
    go_wp2_with fail
    have hs : Calm.Stays (fun w' => Cap w' (w.heap.size + 2) w.heap.size (w.heap.size + 1) (.slice (some ⟨g, o, none⟩) l.length ca') x ∧ w'.rangeAt g (o + k * 5) y.cells ∧ Below w.heap.size w w') := fun wa wb h hb => ⟨h.1.later hb, range_later h.2.1 hb, below_on h.2.2 hb⟩
    refine Calm.region (by kernel_rfl) (by kernel_rfl) (fun w' => Cap w' (w.heap.size + 2) w.heap.size (w.heap.size + 1) (.slice (some ⟨g, o, none⟩) l.length ca') x ∧ w'.rangeAt g (o + k * 5) y.cells ∧ Below w.heap.size w w') ⟨⟨hC.f, hC.l, hC.m⟩, d, hbel.drew⟩ ?_
    all_goals
      refine Calm.pure (v := ?_) (by rfl) ?_ ?_
      rotate_left
      focus (intro w hSw; go_simp <;> rfl)
      simp only [Act.put, List.setIfInBounds_toArray, List.set_cons_zero, List.set_cons_succ]
    all_goals
      refine Calm.pure (v := ?_) (by rfl) ?_ ?_
      rotate_left
      focus (intro w hSw; go_simp <;> rfl)
      simp only [Act.put, List.setIfInBounds_toArray, List.set_cons_zero, List.set_cons_succ]
    all_goals
      refine Calm.pure (v := ?_) (by rfl) ?_ ?_
      rotate_left
      focus (intro w hSw; have g1 := hSw.1.l; go_simp <;> rfl)
      simp only [Act.put, List.setIfInBounds_toArray, List.set_cons_zero, List.set_cons_succ]
    all_goals
      refine Calm.pure (v := ?_) (by rfl) ?_ ?_
      rotate_left
      focus (intro w hSw; go_simp <;> rfl)
      simp only [Act.put, List.setIfInBounds_toArray, List.set_cons_zero, List.set_cons_succ]
    all_goals
      refine Calm.pure (v := ?_) (by rfl) ?_ ?_
      rotate_left
      focus (intro w hSw; go_simp <;> rfl)
      simp only [Act.put, List.setIfInBounds_toArray, List.set_cons_zero, List.set_cons_succ]
    all_goals
      refine Calm.pure (v := ?_) (by rfl) ?_ ?_
      rotate_left
      focus (intro w hSw; go_simp <;> rfl)
      simp only [Act.put, List.setIfInBounds_toArray, List.set_cons_zero, List.set_cons_succ]
    all_goals
      first
        | (refine Calm.skip ?_ ?_; focus rfl)
        | (refine Calm.pure (v := ?_) (by rfl) ?_ ?_
           rotate_left
           focus (intro w hSw; have g1 := hSw.1.f; go_simp <;> rfl))
      simp only [Act.put, List.setIfInBounds_toArray, List.set_cons_zero, List.set_cons_succ]
    all_goals
      first
        | (refine Calm.skip ?_ ?_; focus rfl)
        | (refine Calm.pure (v := ?_) (by rfl) ?_ ?_
           rotate_left
           focus (intro w hSw; have g1 := hSw.1.l; go_simp <;> rfl))
      simp only [Act.put, List.setIfInBounds_toArray, List.set_cons_zero, List.set_cons_succ]
    all_goals
      first
        | (refine Calm.skip ?_ ?_; focus rfl)
        | (refine Calm.pure (v := ?_) (by rfl) ?_ ?_
           rotate_left
           focus (intro w hSw; go_simp <;> rfl))
      simp only [Act.put, List.setIfInBounds_toArray, List.set_cons_zero, List.set_cons_succ]
    all_goals
      first
        | (refine Calm.skip ?_ ?_; focus rfl)
        | (refine Calm.pure (v := ?_) (by rfl) ?_ ?_
           rotate_left
           focus (intro w hSw; go_simp <;> rfl))
      simp only [Act.put, List.setIfInBounds_toArray, List.set_cons_zero, List.set_cons_succ]
    all_goals
      first
        | (refine Calm.skip ?_ ?_; focus rfl)
        | (refine Calm.loadM 42 Try.underlying42 rfl ze (by rfl) _ rfl rfl (fun _ h => h.2.1) ?_)
      simp only [Act.put, List.setIfInBounds_toArray, List.set_cons_zero, List.set_cons_succ]
    all_goals
      first
        | (refine Calm.skip ?_ ?_; focus rfl)
        | (refine Calm.callF1s (by rfl) rfl rfl rfl (by kernel_rfl) hs (fun w1 h => markW_any y w1) ?_)
      simp only [Act.put, List.setIfInBounds_toArray, List.set_cons_zero, List.set_cons_succ]
    all_goals
      first
        | (refine Calm.skip ?_ ?_; focus rfl)
        | (refine Calm.loadM 39 Try.underlying39 rfl zm (by rfl) _ rfl rfl (fun _ h => Rw.whole h.1.m) ?_)
      simp only [Act.put, List.setIfInBounds_toArray, List.set_cons_zero, List.set_cons_succ]
    all_goals
      first
        | (refine Calm.skip ?_ ?_; focus rfl)
        | (refine Calm.pure (v := ?_) (by rfl) ?_ ?_
           rotate_left
           focus (intro w hSw; go_simp <;> rfl))
      simp only [Act.put, List.setIfInBounds_toArray, List.set_cons_zero, List.set_cons_succ]
    all_goals
      refine Calm.pure (v := ?_) (by rfl) ?_ ?_
      rotate_left
      focus (intro w hSw; go_simp <;> rfl)
      simp only [Act.put, List.setIfInBounds_toArray, List.set_cons_zero, List.set_cons_succ]
    all_goals
      refine Calm.pure (v := ?_) (by rfl) ?_ ?_
      rotate_left
      focus (intro w hSw; go_simp <;> rfl)
      simp only [Act.put, List.setIfInBounds_toArray, List.set_cons_zero, List.set_cons_succ]
    all_goals
      refine Calm.pure (v := ?_) (by rfl) ?_ ?_
      rotate_left
      focus (intro w hSw; go_simp <;> rfl)
      simp only [Act.put, List.setIfInBounds_toArray, List.set_cons_zero, List.set_cons_succ]
    all_goals
      rintro w9 ⟨_, _, hbel9⟩
    go_wp2_with fail
    refine bodyPost_ret (v := .tuple #[.int .i64 k, .bool t]) (by simp [results, Try.results46, go_sem]) rfl ?_
    rw [HF.out]
    exact ⟨k, rfl, hk, HI.out, hbel9⟩
  · rw [dif_neg hlt] at hh
    have hlt' : ¬ (k : Int) < (l.length : Int) := by omega
    have e := hh
    subst e
    clear HT hh
    go_wp2_with fail
    have hs : Calm.Stays (fun w' => Cap w' (w.heap.size + 2) w.heap.size (w.heap.size + 1) (.slice pa l.length ca') x ∧ Below w.heap.size w w') := fun wa wb h hb => ⟨h.1.later hb, below_on h.2 hb⟩
    refine Calm.region (by kernel_rfl) (by kernel_rfl) (fun w' => Cap w' (w.heap.size + 2) w.heap.size (w.heap.size + 1) (.slice pa l.length ca') x ∧ Below w.heap.size w w') ⟨⟨hC.f, hC.l, hC.m⟩, hbel.drew⟩ ?_
    all_goals
      refine Calm.pure (v := ?_) (by rfl) ?_ ?_
      rotate_left
      focus (intro w hSw; go_simp <;> rfl)
      simp only [Act.put, List.setIfInBounds_toArray, List.set_cons_zero, List.set_cons_succ]
    all_goals
      refine Calm.pure (v := ?_) (by rfl) ?_ ?_
      rotate_left
      focus (intro w hSw; go_simp <;> rfl)
      simp only [Act.put, List.setIfInBounds_toArray, List.set_cons_zero, List.set_cons_succ]
    all_goals
      refine Calm.pure (v := ?_) (by rfl) ?_ ?_
      rotate_left
      focus (intro w hSw; have g1 := hSw.1.l; go_simp <;> rfl)
      simp only [Act.put, List.setIfInBounds_toArray, List.set_cons_zero, List.set_cons_succ]
    all_goals
      refine Calm.pure (v := ?_) (by rfl) ?_ ?_
      rotate_left
      focus (intro w hSw; go_simp <;> rfl)
      simp only [Act.put, List.setIfInBounds_toArray, List.set_cons_zero, List.set_cons_succ]
    all_goals
      refine Calm.pure (v := ?_) (by rfl) ?_ ?_
      rotate_left
      focus (intro w hSw; go_simp <;> rfl)
      simp only [Act.put, List.setIfInBounds_toArray, List.set_cons_zero, List.set_cons_succ]
    all_goals
      refine Calm.pure (v := ?_) (by rfl) ?_ ?_
      rotate_left
      focus (intro w hSw; go_simp <;> rfl)
      simp only [Act.put, List.setIfInBounds_toArray, List.set_cons_zero, List.set_cons_succ]
    all_goals
      first
        | (refine Calm.skip ?_ ?_; focus rfl)
        | (refine Calm.pure (v := ?_) (by rfl) ?_ ?_
           rotate_left
           focus (intro w hSw; go_simp <;> rfl))
      simp only [Act.put, List.setIfInBounds_toArray, List.set_cons_zero, List.set_cons_succ]
    all_goals
      first
        | (refine Calm.skip ?_ ?_; focus rfl)
        | (refine Calm.pure (v := ?_) (by rfl) ?_ ?_
           rotate_left
           focus (intro w hSw; go_simp <;> rfl))
      simp only [Act.put, List.setIfInBounds_toArray, List.set_cons_zero, List.set_cons_succ]
    all_goals
      first
        | (refine Calm.skip ?_ ?_; focus rfl)
        | (refine Calm.pure (v := ?_) (by rfl) ?_ ?_
           rotate_left
           focus (intro w hSw; go_simp <;> rfl))
      simp only [Act.put, List.setIfInBounds_toArray, List.set_cons_zero, List.set_cons_succ]
    all_goals
      first
        | (refine Calm.skip ?_ ?_; focus rfl)
        | (refine Calm.pure (v := ?_) (by rfl) ?_ ?_
           rotate_left
           focus (intro w hSw; go_simp <;> rfl))
      simp only [Act.put, List.setIfInBounds_toArray, List.set_cons_zero, List.set_cons_succ]
    all_goals
      first
        | (refine Calm.skip ?_ ?_; focus rfl)
        | (refine Calm.pure (v := ?_) (by rfl) ?_ ?_
           rotate_left
           focus (intro w hSw; go_simp <;> rfl))
      simp only [Act.put, List.setIfInBounds_toArray, List.set_cons_zero, List.set_cons_succ]
    all_goals
      first
        | (refine Calm.skip ?_ ?_; focus rfl)
        | (refine Calm.pure (v := ?_) (by rfl) ?_ ?_
           rotate_left
           focus (intro w hSw; go_simp <;> rfl))
      simp only [Act.put, List.setIfInBounds_toArray, List.set_cons_zero, List.set_cons_succ]
    all_goals
      first
        | (refine Calm.skip ?_ ?_; focus rfl)
        | (refine Calm.pure (v := ?_) (by rfl) ?_ ?_
           rotate_left
           focus (intro w hSw; go_simp <;> rfl))
      simp only [Act.put, List.setIfInBounds_toArray, List.set_cons_zero, List.set_cons_succ]
    all_goals
      first
        | (refine Calm.skip ?_ ?_; focus rfl)
        | (refine Calm.pure (v := ?_) (by rfl) ?_ ?_
           rotate_left
           focus (intro w hSw; go_simp <;> rfl))
      simp only [Act.put, List.setIfInBounds_toArray, List.set_cons_zero, List.set_cons_succ]
    all_goals
      refine Calm.pure (v := ?_) (by rfl) ?_ ?_
      rotate_left
      focus (intro w hSw; go_simp <;> rfl)
      simp only [Act.put, List.setIfInBounds_toArray, List.set_cons_zero, List.set_cons_succ]
    all_goals
      refine Calm.pure (v := ?_) (by rfl) ?_ ?_
      rotate_left
      focus (intro w hSw; go_simp <;> rfl)
      simp only [Act.put, List.setIfInBounds_toArray, List.set_cons_zero, List.set_cons_succ]
    all_goals
      refine Calm.pure (v := ?_) (by rfl) ?_ ?_
      rotate_left
      focus (intro w hSw; go_simp <;> rfl)
      simp only [Act.put, List.setIfInBounds_toArray, List.set_cons_zero, List.set_cons_succ]
    all_goals
      rintro w9 ⟨_, hbel9⟩
    go_wp2_with fail
    refine bodyPost_ret (v := .tuple #[.int .i64 k, .bool false]) (by simp [results, Try.results46, go_sem]) rfl ?_
    rw [HF.out]
    exact ⟨k, rfl, hk, HI.out, hbel9⟩
set_option maxHeartbeats 1000000 in
set_option maxRecDepth 100000 in
theorem find_any (v : Value) (l : List Wt) (x : Wt) (w : World) (h : WHas w v l) (hl : l.length ≤ 100) (hp : l.Pairwise (fun a b => lt a b = true)) :
    Calls Try.prog 28 #[v, MV x.p x.s x.i] w (FdPost l x w) := by
  have hbA := bel_alloc (Below.refl w.heap.size w) (.cells #[.int .i64 x.p, .int .i64 x.s, .int .i64 x.i] 39)
  have C1 := findW_any v l x _ (h.later hbA) hl hp
  obtain ⟨p, c, rfl⟩ := h.slice
  clear h hp
  have R := rw_new w 39 #[.int .i64 x.p, .int .i64 x.s, .int .i64 x.i]
  generalize hW : w.alloc (.cells #[.int .i64 x.p, .int .i64 x.s, .int .i64 x.i] 39) = w0 at hbA C1 R
  have c0 : w0.cell? ⟨w.heap.size, 0, none⟩ = some (.int .i64 x.p) := R.cell 0
  have c1 : w0.cell? ⟨w.heap.size, 1, none⟩ = some (.int .i64 x.s) := R.cell 1
  have c2 : w0.cell? ⟨w.heap.size, 2, none⟩ = some (.int .i64 x.i) := R.cell 2
  have HH : Hid (∀ e w1, FdPost l x w0 e w1 → FdPost l x w e w1) := fun e w1 ⟨k, he, hk, hi, hb⟩ => ⟨k, he, hk, hi, below_on hbA hb⟩
  obtain ⟨t, HT⟩ := hid_ex (has x l)
  go_enter Try.func28, Try.ntmps28
  go_wp2_with (first | rw [hW])
  clear hW c0 c1 c2 R
  refine C1.mono ?_
  rintro e w1 ⟨k, rfl, hk, hi, hb1⟩
  have HG : Hid (FdPost l x w (.returned (.tuple #[.int .i64 k, .bool t])) w1) := by rw [← HT.out]; exact HH.out _ _ ⟨k, rfl, hk, hi, hb1⟩
  rw [HT.out]
  clear hk hi hb1 HH HT C1 hbA
  go_wp2_with fail
  refine bodyPost_ret (v := .tuple #[.int .i64 k, .bool t]) (by simp [results, Try.results28, go_sem]) rfl ?_
  exact HG.out
end Go.Proofs.Ytknpnjhedfdggaa
