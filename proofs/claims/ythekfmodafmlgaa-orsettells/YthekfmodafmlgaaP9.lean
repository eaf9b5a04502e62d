import Derived.Test.YthekfmodafmlgaaP8
import Derived.Test.YthekfmodafmlgaaP7
/- marks.Find of marks, with its closure and sort.Search; marks.With. -/
namespace Go.Proofs.Ythekfmodafmlgaa
open Go.RowKit

/-- A mark, as three numbers. -/
abbrev K := Int × Int × Int
def kM (m : M) : K := (m.p, m.s, m.i)
/-- By marks. -/
def kl (a b : K) : Bool := ls a.1 a.2.1 a.2.2 b.1 b.2.1 b.2.2
theorem kl_lt (x y : M) : lt x y = kl (kM x) (kM y) := rfl
theorem kl_iff {a b : K} : kl a b = true ↔ a.1 < b.1 ∨ (a.1 = b.1 ∧ (a.2.1 < b.2.1 ∨ (a.2.1 = b.2.1 ∧ a.2.2 < b.2.2))) := by
  have := lt_iff (x := ⟨a.1, a.2.1, a.2.2⟩) (y := ⟨b.1, b.2.1, b.2.2⟩)
  rw [kl_lt] at this
  exact this
theorem k_ext {a b : K} (h1 : a.1 = b.1) (h2 : a.2.1 = b.2.1) (h3 : a.2.2 = b.2.2) : a = b := by
  obtain ⟨_, _, _⟩ := a
  obtain ⟨_, _, _⟩ := b
  simp_all
theorem kl_irr (a : K) : kl a a = false := by
  cases h : kl a a
  · rfl
  · rw [kl_iff] at h
    omega
theorem kl_trans {a b c : K} (h1 : kl a b = true) (h2 : kl b c = true) : kl a c = true := by
  rw [kl_iff] at *
  omega
theorem kl_tot {a b : K} (h : a ≠ b) : kl a b = true ∨ kl b a = true := by
  rw [kl_iff, kl_iff]
  apply Classical.byContradiction
  intro hc
  exact h (k_ext (by omega) (by omega) (by omega))
theorem kl_asymm {a b : K} (h : kl a b = true) : kl b a = false := by
  cases h2 : kl b a
  · rfl
  · have := kl_trans h h2
    rw [kl_irr] at this
    cases this
theorem Calm.callF1s {P : Program} {ops : Array Oper} {S : World → Prop} {K : Act → Prop} {o : Oper} {l : List Oper} {a : Act} {r x : Value} {f : FuncId} {ts : Array TypeId} {uf u : Operand} (hw : Region.wanted o (yielded ops a.tmps) = true)
    (ho : o.op = .call { callee := .value uf, args := #[u], argTypes := ts }) (hv : a.eval uf = .func (.func f) #[] #[]) (hu : a.eval u = x) (hf : Calm.enters P f = true) (hs : Calm.Stays S)
    (hc : ∀ w, S w → Calls P f #[x] w fun e w' => e = .returned r ∧ RowKit.Below w.heap.size w w')
    (h : Calm.calmList P ops S K l (a.put o.dst r)) : Calm.calmList P ops S K (o :: l) a :=
  Calm.call (f := f) (args := #[x]) hw (fun w => by
    have e : ∀ args, (callFunc f args).run P w = .ok (.enter f args) w := fun args => Calm.enters_run hf args w
    generalize a.eval = ρ at hv hu ⊢
    subst hu
    unfold execOp
    simp [ho, go_sem, hv, e]) (fun w hS => (hc w hS).mono fun e w' he => ⟨he.1, hs w w' hS he.2⟩) h
/-- What a search comes to: where it stands, or would stand. -/
def SePost {α : Type} (key : α → K) (l : List α) (x : K) (w : World) (e : Ending) (w' : World) : Prop := ∃ k : Nat, e = .returned (.int .i64 k) ∧ k ≤ l.length ∧ (∀ j (h : j < l.length), j < k → kl (key l[j]) x = true) ∧ (∀ j (h : j < l.length), k ≤ j → kl (key l[j]) x = false) ∧ Below w.heap.size w w'
/-- What Find answers: where it stands, or would stand, and whether it is there. -/
def FmPost {α : Type} (key : α → K) (l : List α) (x : K) (w : World) (e : Ending) (w' : World) : Prop := ∃ (k : Nat) (b : Bool), e = .returned (.tuple #[.int .i64 k, .bool b]) ∧ k ≤ l.length ∧ (∀ j (h : j < l.length), j < k → kl (key l[j]) x = true) ∧ (∀ j (h : j < l.length), k ≤ j → kl (key l[j]) x = false) ∧ (b = true ↔ ∃ h : k < l.length, key l[k] = x) ∧ Below w.heap.size w w'
theorem kq (p s i : Int) (x : M) : decide (((p, s, i) : K) = kM x) = (decide (p = x.p) && decide (s = x.s) && decide (i = x.i)) := by
  unfold kM
  by_cases h1 : p = x.p <;> by_cases h2 : s = x.s <;> by_cases h3 : i = x.i <;> simp [h1, h2, h3]
theorem itself_any (p s i : Int) (w : World) : Calls Try.prog 55 #[MV p s i] w (Tells (MV p s i) w) := by
  go_enter Try.func55, Try.ntmps55
  go_wp2
  exact bodyPost_ret (results_r rfl rfl (rw_next _ (by simp) 44 _) rfl Try.underlying44 size44) rfl ⟨rfl, bel_alloc (bel_alloc (Below.refl _ _) _) _⟩
structure CapM (w : World) (b1 b2 b3 : Nat) (v : Value) (x : M) : Prop where
  f : w.cell? ⟨b1, 0, none⟩ = some (.func (.func 55) #[] #[])
  l : w.cell? ⟨b2, 0, none⟩ = some v
  m : Rw w b3 44 #[.int .i64 x.p, .int .i64 x.s, .int .i64 x.i]
theorem CapM.later {w w' : World} {b1 b2 b3 : Nat} {v : Value} {x : M} (h : CapM w b1 b2 b3 v x) (hb : Below w.heap.size w w') : CapM w' b1 b2 b3 v x := ⟨cell_later hb h.f, cell_later hb h.l, h.m.later hb⟩
set_option maxHeartbeats 2000000 in
set_option maxRecDepth 100000 in
theorem find1M_any (k : Nat) (b1 b2 b3 : Nat) (v : Value) (l : List M) (x : M) (w : World) (h : SHas 3 w v l.length (rows M.cells l)) (hk : k < l.length) (hC : CapM w b1 b2 b3 v x) :
    Calls Try.prog 64 #[.int .i64 k, .pointer (some ⟨b1, 0, none⟩), .pointer (some ⟨b2, 0, none⟩), .pointer (some ⟨b3, 0, none⟩)] w (Tells (.bool (!kl (kM l[k]) (kM x))) w) := by
  have hml := maxLen_lt h.1
  obtain ⟨p, c, rfl⟩ := h.slice
  obtain ⟨g, o, rfl, hd⟩ := h.at (by omega)
  have d := range_sub hd (k * 3) fun j u hu => rows_at M.len l k hk j u hu
  obtain ⟨y, HY⟩ := hid_ex l[k]
  rw [HY.out] at d ⊢
  clear HY h hd
  have ze : (Try.prog.info? 44).map (·.size) = some y.cells.length := size44
  have zm : (Try.prog.info? 44).map (·.size) = some [Value.int .i64 x.p, .int .i64 x.s, .int .i64 x.i].length := size44
  have C1 : ∀ w, Calls Try.prog 65 #[MV y.p y.s y.i, MV x.p x.s x.i] w (Tells (.bool (kl (kM y) (kM x))) w) := fun w => less_any y.p y.s y.i x.p x.s x.i w
  generalize kl (kM y) (kM x) = z at C1 ⊢
  have hbel := Below.refl w.heap.size w
  have hk0 : (0 : Int) ≤ (k : Int) := by omega
  have hk1 : (k : Int) < (l.length : Int) := by omega
  go_enter Try.func64, Try.ntmps64
  go_wp2_with fail
  have hs : Calm.Stays (fun w' => CapM w' b1 b2 b3 (.slice (some ⟨g, o, none⟩) l.length c) x ∧ w'.rangeAt g (o + k * 3) y.cells ∧ Below w.heap.size w w') := fun wa wb h hb => ⟨h.1.later hb, range_later h.2.1 hb, below_on h.2.2 hb⟩
  refine Calm.region (by kernel_rfl) (by kernel_rfl) (fun w' => CapM w' b1 b2 b3 (.slice (some ⟨g, o, none⟩) l.length c) x ∧ w'.rangeAt g (o + k * 3) y.cells ∧ Below w.heap.size w w') ⟨⟨hC.f, hC.l, hC.m⟩, d, hbel.drew⟩ ?_
  all_goals
    refine Calm.pure (v := ?_) (by rfl) ?_ ?_
    rotate_left
    focus (intro w hSw; have g1 := hSw.1.f; go_simp <;> rfl)
    simp only [Act.put, List.setIfInBounds_toArray, List.set_cons_zero, List.set_cons_succ]
  all_goals
    refine Calm.pure (v := ?_) (by rfl) ?_ ?_
    rotate_left
    focus (intro w hSw; have g1 := hSw.1.l; go_simp <;> rfl)
    simp only [Act.put, List.setIfInBounds_toArray, List.set_cons_zero, List.set_cons_succ]
  all_goals
    refine Calm.pure (v := ?_) (by rfl) ?_ ?_
    rotate_left
    focus (intro w hSw; go_simp <;> rfl)
    simp only [Act.put, List.setIfInBounds_toArray, List.set_cons_zero, List.set_cons_succ]
  all_goals
    refine Calm.pure (v := ?_) (by rfl) ?_ ?_
    rotate_left
    focus (intro w hSw; go_simp <;> rfl)
    simp only [Act.put, List.setIfInBounds_toArray, List.set_cons_zero, List.set_cons_succ]
  all_goals
    refine Calm.loadM 44 Try.underlying44 rfl ze (by rfl) _ rfl rfl (fun _ h => h.2.1) ?_
    simp only [Act.put, List.setIfInBounds_toArray, List.set_cons_zero, List.set_cons_succ]
  all_goals
    refine Calm.callF1s (by rfl) rfl rfl rfl (by kernel_rfl) hs (fun w1 h => itself_any y.p y.s y.i w1) ?_
    simp only [Act.put, List.setIfInBounds_toArray, List.set_cons_zero, List.set_cons_succ]
  all_goals
    refine Calm.loadM 44 Try.underlying44 rfl zm (by rfl) _ rfl rfl (fun _ h => Rw.whole h.1.m) ?_
    simp only [Act.put, List.setIfInBounds_toArray, List.set_cons_zero, List.set_cons_succ]
  all_goals
    refine Calm.call2s (by rfl) rfl rfl rfl (by kernel_rfl) hs (fun w1 h => C1 w1) ?_
    simp only [Act.put, List.setIfInBounds_toArray, List.set_cons_zero, List.set_cons_succ]
  all_goals
    refine Calm.pure (v := ?_) (by rfl) ?_ ?_
    rotate_left
    focus (intro w hSw; go_simp <;> rfl)
    simp only [Act.put, List.setIfInBounds_toArray, List.set_cons_zero, List.set_cons_succ]
  all_goals
    refine Calm.pure (v := ?_) (by rfl) ?_ ?_
    rotate_left
    focus (intro w hSw; go_simp <;> rfl)
    simp only [Act.put, List.setIfInBounds_toArray, List.set_cons_zero, List.set_cons_succ]
  all_goals
    rintro w9 ⟨_, _, hbel9⟩
  go_wp2_with fail
  go_ret
  exact ⟨rfl, hbel9⟩
set_option maxHeartbeats 2000000 in
set_option maxRecDepth 100000 in
theorem searchM_any (b1 b2 b3 : Nat) (v : Value) (l : List M) (x : M) (w : World) (h : SHas 3 w v l.length (rows M.cells l)) (hl : l.length ≤ 100) (hp : l.Pairwise (fun a b => kl (kM a) (kM b) = true)) (hC : CapM w b1 b2 b3 v x) :
    Calls Try.prog 63 #[.int .i64 l.length, .func (.func 64) #[] #[.pointer (some ⟨b1, 0, none⟩), .pointer (some ⟨b2, 0, none⟩), .pointer (some ⟨b3, 0, none⟩)]] w (SePost kM l (kM x) w) := by
  have HA : Hid (SHas 3 w v l.length (rows M.cells l)) := h
  have HP : Hid (l.Pairwise (fun a b => kl (kM a) (kM b) = true)) := hp
  have HC : Hid (CapM w b1 b2 b3 v x) := hC
  clear h hp hC
  go_enter Try.func63, Try.ntmps63
  go_wp2
  go_loopw [5, 6] (fun vi vj wr => ∃ a b : Nat, vi = .int .i64 a ∧ vj = .int .i64 b ∧ a ≤ b ∧ b ≤ l.length ∧ Hid (∀ j (h : j < l.length), j < a → kl (kM l[j]) (kM x) = true) ∧ Hid (∀ j (h : j < l.length), b ≤ j → kl (kM l[j]) (kM x) = false) ∧ Below w.heap.size w wr) (fun vi vj _ => (intOf vj).toNat - (intOf vi).toNat)
  case atStart => exact ⟨0, l.length, rfl, rfl, by omega, by omega, (show ∀ j (_ : j < l.length), j < 0 → _ from fun j _ h => by omega), (show ∀ j (_ : j < l.length), l.length ≤ j → _ from fun j h h' => by omega), Below.refl _ _⟩
  case round =>
    obtain ⟨a, b, rfl, rfl, hab, hbl, HV, HW, hbel⟩ := hrel
    by_cases hlt : a < b
    · have hlt' : (a : Int) < (b : Int) := by omega
      obtain ⟨m, hm⟩ : ∃ m : Nat, m = (a + b) / 2 := ⟨_, rfl⟩
      have hmi : ((a : Int) + (b : Int)) / 2 = (m : Int) := by omega
      have hm1 : a ≤ m := by omega
      have hm2 : m < b := by omega
      have hml : m < l.length := by omega
      have C1 := find1M_any m b1 b2 b3 v l x wr (HA.out.later hbel) hml (HC.out.later hbel)
      obtain ⟨z, HZ⟩ := hid_ex (kl (kM l[m]) (kM x))
      rw [HZ.out] at C1
      clear hm
      go_wp2_with (first | rw [hmi])
      refine C1.mono ?_
      clear C1
      rintro e w1 ⟨rfl, hb1⟩
      cases z
      · have HW2 : Hid (∀ j (h : j < l.length), m ≤ j → kl (kM l[j]) (kM x) = false) := fun j h hj => by
          rcases Nat.lt_or_ge m j with h' | h'
          · cases k : kl (kM l[j]) (kM x)
            · rfl
            · have := kl_trans ((List.pairwise_iff_getElem.1 HP.out) m j hml h h') k
              rw [HZ.out] at this
              cases this
          · obtain rfl : j = m := by omega
            exact HZ.out
        go_wp2_with fail
        go_roundw
        case rel => exact ⟨a, m, rfl, rfl, by omega, by omega, HV, HW2, below_on hbel hb1⟩
        case measure => simp [intOf]; omega
      · have HV2 : Hid (∀ j (h : j < l.length), j < m + 1 → kl (kM l[j]) (kM x) = true) := fun j h hj => by
          rcases Nat.lt_or_ge j m with h' | h'
          · exact kl_trans ((List.pairwise_iff_getElem.1 HP.out) j m h hml h') HZ.out
          · obtain rfl : j = m := by omega
            exact HZ.out
        go_wp2_with fail
        go_roundw
        case rel => exact ⟨m + 1, b, by simp, rfl, by omega, by omega, HV2, HW, below_on hbel hb1⟩
        case measure => simp [intOf]; omega
    · obtain rfl : a = b := by omega
      have hlt' : ¬ (a : Int) < (a : Int) := by omega
      clear HA HP HC
      go_wp2_with fail
      go_ret
      exact ⟨a, rfl, hbl, HV.out, HW.out, hbel⟩
set_option maxHeartbeats 2000000 in
set_option maxRecDepth 100000 in
theorem findM_any (v : Value) (l : List M) (x : M) (w : World) (h : SHas 3 w v l.length (rows M.cells l)) (hl : l.length ≤ 100) (hp : l.Pairwise (fun a b => kl (kM a) (kM b) = true)) :
    Calls Try.prog 54 #[v, MV x.p x.s x.i, .func (.func 55) #[] #[]] w (FmPost kM l (kM x) w) := by
  obtain ⟨pa, ca', rfl⟩ := h.slice
  have hbel := bel_alloc (bel_alloc (bel_alloc (Below.refl w.heap.size w) (.cells #[.slice pa l.length ca'] 39)) (.cells #[.int .i64 x.p, .int .i64 x.s, .int .i64 x.i] 44)) (.cells #[.func (.func 55) #[] #[]] 97)
  have r1 := ((rw_new w 39 #[.slice pa l.length ca']).alloc (.cells #[.int .i64 x.p, .int .i64 x.s, .int .i64 x.i] 44)).alloc (.cells #[.func (.func 55) #[] #[]] 97)
  have r2 := (rw_new (w.alloc (.cells #[.slice pa l.length ca'] 39)) 44 #[.int .i64 x.p, .int .i64 x.s, .int .i64 x.i]).alloc (.cells #[.func (.func 55) #[] #[]] 97)
  have r3 := rw_new ((w.alloc (.cells #[.slice pa l.length ca'] 39)).alloc (.cells #[.int .i64 x.p, .int .i64 x.s, .int .i64 x.i] 44)) 97 #[.func (.func 55) #[] #[]]
  generalize hW : ((w.alloc (.cells #[.slice pa l.length ca'] 39)).alloc (.cells #[.int .i64 x.p, .int .i64 x.s, .int .i64 x.i] 44)).alloc (.cells #[.func (.func 55) #[] #[]] 97) = w0 at hbel r1 r2 r3
  simp only [World.size_alloc, Nat.add_assoc, Nat.reduceAdd] at r2 r3
  have hC : CapM w0 (w.heap.size + 2) w.heap.size (w.heap.size + 1) (.slice pa l.length ca') x := ⟨r3.cell 0, r1.cell 0, r2⟩
  have c1 := hC.l
  replace h := h.later hbel
  clear r1 r2 r3
  go_enter Try.func54, Try.ntmps54
  go_wp2_with (first | rw [hW])
  clear hW
  refine (searchM_any (w.heap.size + 2) w.heap.size (w.heap.size + 1) _ l x w0 h hl hp hC).mono ?_
  rintro e w1 ⟨k, rfl, hk, h1, h2, hb1⟩
  have H1 : Hid (∀ j (h : j < l.length), j < k → kl (kM l[j]) (kM x) = true) := h1
  have H2 : Hid (∀ j (h : j < l.length), k ≤ j → kl (kM l[j]) (kM x) = false) := h2
  obtain ⟨t, HT⟩ := hid_ex (if h : k < l.length then decide (kM l[k] = kM x) else false)
  have hh := HT.out
  replace h := h.later hb1
  replace hC := hC.later hb1
  replace hbel := below_on hbel hb1
  clear h1 h2 hb1 hp c1
  by_cases hlt : k < l.length
  · rw [dif_pos hlt] at hh
    have hlt' : (k : Int) < (l.length : Int) := by omega
    have hk0 : (0 : Int) ≤ (k : Int) := by omega
    obtain ⟨g, o, rfl, hd⟩ := h.at (by omega)
    have d := range_sub hd (k * 3) fun j u hu => rows_at M.len l k hlt j u hu
    obtain ⟨y, HY⟩ := hid_ex l[k]
    rw [HY.out] at d hh
    have E := fun w => eq_mark w y.p y.s y.i x.p x.s x.i
    rw [show (decide (y.p = x.p) && decide (y.s = x.s) && decide (y.i = x.i)) = t from (kq _ _ _ _).symm.trans hh] at E
    have ze : (Try.prog.info? 44).map (·.size) = some y.cells.length := size44
    have zm : (Try.prog.info? 44).map (·.size) = some [Value.int .i64 x.p, .int .i64 x.s, .int .i64 x.i].length := size44
    have HT2 : Hid (t = true ↔ ∃ h : k < l.length, kM l[k] = kM x) := by
      show _ ↔ _
      rw [← HT.out, dif_pos hlt, decide_eq_true_iff]
      exact ⟨fun e => ⟨hlt, e⟩, fun ⟨_, e⟩ => e⟩
    clear hh h hd HY HT
    go_wp2_with fail
    have hs : Calm.Stays (fun w' => CapM w' (w.heap.size + 2) w.heap.size (w.heap.size + 1) (.slice (some ⟨g, o, none⟩) l.length ca') x ∧ w'.rangeAt g (o + k * 3) y.cells ∧ Below w.heap.size w w') := fun wa wb h hb => ⟨h.1.later hb, range_later h.2.1 hb, below_on h.2.2 hb⟩
    refine Calm.region (by kernel_rfl) (by kernel_rfl) (fun w' => CapM w' (w.heap.size + 2) w.heap.size (w.heap.size + 1) (.slice (some ⟨g, o, none⟩) l.length ca') x ∧ w'.rangeAt g (o + k * 3) y.cells ∧ Below w.heap.size w w') ⟨⟨hC.f, hC.l, hC.m⟩, d, hbel.drew⟩ ?_
    all_goals
      refine Calm.pure (v := ?_) (by rfl) ?_ ?_
      rotate_left
      focus (intro w hSw; go_simp <;> rfl)
      simp only [Act.put, List.setIfInBounds_toArray, List.set_cons_zero, List.set_cons_succ]
    all_goals
      refine Calm.pure (v := ?_) (by rfl) ?_ ?_
      rotate_left
      focus (intro w hSw; go_simp <;> rfl)
      simp only [Act.put, List.setIfInBounds_toArray, List.set_cons_zero, List.set_cons_succ]
    all_goals
      refine Calm.pure (v := ?_) (by rfl) ?_ ?_
      rotate_left
      focus (intro w hSw; have g1 := hSw.1.l; go_simp <;> rfl)
      simp only [Act.put, List.setIfInBounds_toArray, List.set_cons_zero, List.set_cons_succ]
    all_goals
      refine Calm.pure (v := ?_) (by rfl) ?_ ?_
      rotate_left
      focus (intro w hSw; go_simp <;> rfl)
      simp only [Act.put, List.setIfInBounds_toArray, List.set_cons_zero, List.set_cons_succ]
    all_goals
      refine Calm.pure (v := ?_) (by rfl) ?_ ?_
      rotate_left
      focus (intro w hSw; go_simp <;> rfl)
      simp only [Act.put, List.setIfInBounds_toArray, List.set_cons_zero, List.set_cons_succ]
    all_goals
      refine Calm.pure (v := ?_) (by rfl) ?_ ?_
      rotate_left
      focus (intro w hSw; go_simp <;> rfl)
      simp only [Act.put, List.setIfInBounds_toArray, List.set_cons_zero, List.set_cons_succ]
    all_goals
      first
        | (refine Calm.skip ?_ ?_; focus rfl)
        | (refine Calm.pure (v := ?_) (by rfl) ?_ ?_
           rotate_left
           focus (intro w hSw; have g1 := hSw.1.f; go_simp <;> rfl))
      simp only [Act.put, List.setIfInBounds_toArray, List.set_cons_zero, List.set_cons_succ]
    all_goals
      first
        | (refine Calm.skip ?_ ?_; focus rfl)
        | (refine Calm.pure (v := ?_) (by rfl) ?_ ?_
           rotate_left
           focus (intro w hSw; have g1 := hSw.1.l; go_simp <;> rfl))
      simp only [Act.put, List.setIfInBounds_toArray, List.set_cons_zero, List.set_cons_succ]
    all_goals
      first
        | (refine Calm.skip ?_ ?_; focus rfl)
        | (refine Calm.pure (v := ?_) (by rfl) ?_ ?_
           rotate_left
           focus (intro w hSw; go_simp <;> rfl))
      simp only [Act.put, List.setIfInBounds_toArray, List.set_cons_zero, List.set_cons_succ]
    all_goals
      first
        | (refine Calm.skip ?_ ?_; focus rfl)
        | (refine Calm.pure (v := ?_) (by rfl) ?_ ?_
           rotate_left
           focus (intro w hSw; go_simp <;> rfl))
      simp only [Act.put, List.setIfInBounds_toArray, List.set_cons_zero, List.set_cons_succ]
    all_goals
      first
        | (refine Calm.skip ?_ ?_; focus rfl)
        | (refine Calm.loadM 44 Try.underlying44 rfl ze (by rfl) _ rfl rfl (fun _ h => h.2.1) ?_)
      simp only [Act.put, List.setIfInBounds_toArray, List.set_cons_zero, List.set_cons_succ]
    all_goals
      first
        | (refine Calm.skip ?_ ?_; focus rfl)
        | (refine Calm.callF1s (by rfl) rfl rfl rfl (by kernel_rfl) hs (fun w1 h => itself_any y.p y.s y.i w1) ?_)
      simp only [Act.put, List.setIfInBounds_toArray, List.set_cons_zero, List.set_cons_succ]
    all_goals
      first
        | (refine Calm.skip ?_ ?_; focus rfl)
        | (refine Calm.loadM 44 Try.underlying44 rfl zm (by rfl) _ rfl rfl (fun _ h => Rw.whole h.1.m) ?_)
      simp only [Act.put, List.setIfInBounds_toArray, List.set_cons_zero, List.set_cons_succ]
    all_goals
      first
        | (refine Calm.skip ?_ ?_; focus rfl)
        | (refine Calm.pure (v := ?_) (by rfl) ?_ ?_
           rotate_left
           focus (intro w hSw; go_simp <;> rfl))
      simp only [Act.put, List.setIfInBounds_toArray, List.set_cons_zero, List.set_cons_succ]
    all_goals
      refine Calm.pure (v := ?_) (by rfl) ?_ ?_
      rotate_left
      focus (intro w hSw; go_simp <;> rfl)
      simp only [Act.put, List.setIfInBounds_toArray, List.set_cons_zero, List.set_cons_succ]
    all_goals
      refine Calm.pure (v := ?_) (by rfl) ?_ ?_
      rotate_left
      focus (intro w hSw; go_simp <;> rfl)
      simp only [Act.put, List.setIfInBounds_toArray, List.set_cons_zero, List.set_cons_succ]
    all_goals
      refine Calm.pure (v := ?_) (by rfl) ?_ ?_
      rotate_left
      focus (intro w hSw; go_simp <;> rfl)
      simp only [Act.put, List.setIfInBounds_toArray, List.set_cons_zero, List.set_cons_succ]
    all_goals
      rintro w9 ⟨_, _, hbel9⟩
    go_wp2_with fail
    refine bodyPost_ret (v := .tuple #[.int .i64 k, .bool t]) (by simp [results, Try.results54, go_sem]) rfl ?_
    exact ⟨k, _, rfl, hk, H1.out, H2.out, HT2.out, hbel9⟩
  · rw [dif_neg hlt] at hh
    have hlt' : ¬ (k : Int) < (l.length : Int) := by omega
    subst hh
    have HT2 : Hid (false = true ↔ ∃ h : k < l.length, kM l[k] = kM x) := ⟨fun e => (by cases e), fun ⟨h, _⟩ => absurd h hlt⟩
    clear HT
    go_wp2_with fail
    have hs : Calm.Stays (fun w' => CapM w' (w.heap.size + 2) w.heap.size (w.heap.size + 1) (.slice pa l.length ca') x ∧ Below w.heap.size w w') := fun wa wb h hb => ⟨h.1.later hb, below_on h.2 hb⟩
    refine Calm.region (by kernel_rfl) (by kernel_rfl) (fun w' => CapM w' (w.heap.size + 2) w.heap.size (w.heap.size + 1) (.slice pa l.length ca') x ∧ Below w.heap.size w w') ⟨⟨hC.f, hC.l, hC.m⟩, hbel.drew⟩ ?_
    all_goals
      refine Calm.pure (v := ?_) (by rfl) ?_ ?_
      rotate_left
      focus (intro w hSw; go_simp <;> rfl)
      simp only [Act.put, List.setIfInBounds_toArray, List.set_cons_zero, List.set_cons_succ]
    all_goals
      refine Calm.pure (v := ?_) (by rfl) ?_ ?_
      rotate_left
      focus (intro w hSw; go_simp <;> rfl)
      simp only [Act.put, List.setIfInBounds_toArray, List.set_cons_zero, List.set_cons_succ]
    all_goals
      refine Calm.pure (v := ?_) (by rfl) ?_ ?_
      rotate_left
      focus (intro w hSw; have g1 := hSw.1.l; go_simp <;> rfl)
      simp only [Act.put, List.setIfInBounds_toArray, List.set_cons_zero, List.set_cons_succ]
    all_goals
      refine Calm.pure (v := ?_) (by rfl) ?_ ?_
      rotate_left
      focus (intro w hSw; go_simp <;> rfl)
      simp only [Act.put, List.setIfInBounds_toArray, List.set_cons_zero, List.set_cons_succ]
    all_goals
      refine Calm.pure (v := ?_) (by rfl) ?_ ?_
      rotate_left
      focus (intro w hSw; go_simp <;> rfl)
      simp only [Act.put, List.setIfInBounds_toArray, List.set_cons_zero, List.set_cons_succ]
    all_goals
      refine Calm.pure (v := ?_) (by rfl) ?_ ?_
      rotate_left
      focus (intro w hSw; go_simp <;> rfl)
      simp only [Act.put, List.setIfInBounds_toArray, List.set_cons_zero, List.set_cons_succ]
    all_goals
      first
        | (refine Calm.skip ?_ ?_; focus rfl)
        | (refine Calm.pure (v := ?_) (by rfl) ?_ ?_
           rotate_left
           focus (intro w hSw; go_simp <;> rfl))
      simp only [Act.put, List.setIfInBounds_toArray, List.set_cons_zero, List.set_cons_succ]
    all_goals
      first
        | (refine Calm.skip ?_ ?_; focus rfl)
        | (refine Calm.pure (v := ?_) (by rfl) ?_ ?_
           rotate_left
           focus (intro w hSw; go_simp <;> rfl))
      simp only [Act.put, List.setIfInBounds_toArray, List.set_cons_zero, List.set_cons_succ]
    all_goals
      first
        | (refine Calm.skip ?_ ?_; focus rfl)
        | (refine Calm.pure (v := ?_) (by rfl) ?_ ?_
           rotate_left
           focus (intro w hSw; go_simp <;> rfl))
      simp only [Act.put, List.setIfInBounds_toArray, List.set_cons_zero, List.set_cons_succ]
    all_goals
      first
        | (refine Calm.skip ?_ ?_; focus rfl)
        | (refine Calm.pure (v := ?_) (by rfl) ?_ ?_
           rotate_left
           focus (intro w hSw; go_simp <;> rfl))
      simp only [Act.put, List.setIfInBounds_toArray, List.set_cons_zero, List.set_cons_succ]
    all_goals
      first
        | (refine Calm.skip ?_ ?_; focus rfl)
        | (refine Calm.pure (v := ?_) (by rfl) ?_ ?_
           rotate_left
           focus (intro w hSw; go_simp <;> rfl))
      simp only [Act.put, List.setIfInBounds_toArray, List.set_cons_zero, List.set_cons_succ]
    all_goals
      first
        | (refine Calm.skip ?_ ?_; focus rfl)
        | (refine Calm.pure (v := ?_) (by rfl) ?_ ?_
           rotate_left
           focus (intro w hSw; go_simp <;> rfl))
      simp only [Act.put, List.setIfInBounds_toArray, List.set_cons_zero, List.set_cons_succ]
    all_goals
      first
        | (refine Calm.skip ?_ ?_; focus rfl)
        | (refine Calm.pure (v := ?_) (by rfl) ?_ ?_
           rotate_left
           focus (intro w hSw; go_simp <;> rfl))
      simp only [Act.put, List.setIfInBounds_toArray, List.set_cons_zero, List.set_cons_succ]
    all_goals
      first
        | (refine Calm.skip ?_ ?_; focus rfl)
        | (refine Calm.pure (v := ?_) (by rfl) ?_ ?_
           rotate_left
           focus (intro w hSw; go_simp <;> rfl))
      simp only [Act.put, List.setIfInBounds_toArray, List.set_cons_zero, List.set_cons_succ]
    all_goals
      refine Calm.pure (v := ?_) (by rfl) ?_ ?_
      rotate_left
      focus (intro w hSw; go_simp <;> rfl)
      simp only [Act.put, List.setIfInBounds_toArray, List.set_cons_zero, List.set_cons_succ]
    all_goals
      refine Calm.pure (v := ?_) (by rfl) ?_ ?_
      rotate_left
      focus (intro w hSw; go_simp <;> rfl)
      simp only [Act.put, List.setIfInBounds_toArray, List.set_cons_zero, List.set_cons_succ]
    all_goals
      refine Calm.pure (v := ?_) (by rfl) ?_ ?_
      rotate_left
      focus (intro w hSw; go_simp <;> rfl)
      simp only [Act.put, List.setIfInBounds_toArray, List.set_cons_zero, List.set_cons_succ]
    all_goals
      rintro w9 ⟨_, hbel9⟩
    go_wp2_with fail
    refine bodyPost_ret (v := .tuple #[.int .i64 k, .bool false]) (by simp [results, Try.results54, go_sem]) rfl ?_
    exact ⟨k, _, rfl, hk, H1.out, H2.out, HT2.out, hbel9⟩
theorem has_k (x : M) (l : List M) : has x l = true ↔ ∃ y ∈ l, kM y = kM x := by
  unfold has
  rw [List.any_eq_true]
  constructor
  · rintro ⟨y, hy, e⟩
    exact ⟨y, hy, by rw [mk_eq e]⟩
  · rintro ⟨y, hy, e⟩
    refine ⟨y, hy, ?_⟩
    rw [mk_iff]
    unfold kM at e
    simp only [Prod.mk.injEq] at e
    exact e
/-- What With answers: a row of its own. -/
def WwPost (l : List M) (w : World) (e : Ending) (w' : World) : Prop := ∃ u, e = .returned u ∧ w'.ownsRow w.heap.size 44 3 u l.length (rows M.cells l) ∧ Below w.heap.size w w'
theorem ww_eq {l z : List M} {x : M} {k : Nat} {b : Bool} (hp : l.Pairwise (fun a b => lt a b = true)) (h1 : ∀ j (h : j < l.length), j < k → kl (kM l[j]) (kM x) = true) (h2 : ∀ j (h : j < l.length), k ≤ j → kl (kM l[j]) (kM x) = false) (hb : b = true ↔ ∃ h : k < l.length, kM l[k] = kM x) (e : wth l x = z) : z = if b = true then l else l.take k ++ x :: l.drop k := by
  subst e
  have hh : has x l = b := by
    cases b
    · cases h : has x l
      · rfl
      · exfalso
        obtain ⟨y, hy, e⟩ := (has_k x l).1 h
        obtain ⟨j, hj, rfl⟩ := List.getElem_of_mem hy
        rcases Nat.lt_trichotomy j k with h' | h' | h'
        · have := h1 j hj h'
          rw [e, kl_irr] at this
          cases this
        · subst h'
          have := hb.2 ⟨hj, e⟩
          cases this
        · have a1 := h2 k (by omega) (Nat.le_refl _)
          have a2 : kl (kM l[k]) (kM l[j]) = true := (List.pairwise_iff_getElem.1 hp) k j (by omega) hj h'
          rw [e, a1] at a2
          cases a2
    · obtain ⟨h, e⟩ := hb.1 rfl
      exact (has_k x l).2 ⟨_, List.getElem_mem h, e⟩
  unfold wth
  rw [hh, insF_at h1 h2]
set_option maxHeartbeats 2000000 in
set_option maxRecDepth 100000 in
theorem ww_any (v : Value) (l : List M) (x : M) (w : World) (h : MHas w v l) (hl : l.length ≤ 100) (hp : l.Pairwise (fun a b => lt a b = true)) :
    Calls Try.prog 36 #[v, MV x.p x.s x.i] w (WwPost (wth l x) w) := by
  obtain ⟨z, HZ⟩ := hid_ex (wth l x)
  rw [HZ.out]
  have hbA := bel_alloc (Below.refl w.heap.size w) (.cells #[.int .i64 x.p, .int .i64 x.s, .int .i64 x.i] 44)
  have R := rw_new w 44 #[.int .i64 x.p, .int .i64 x.s, .int .i64 x.i]
  replace h := h.later hbA
  obtain ⟨p, c, rfl⟩ := h.slice
  have HP : Hid (l.Pairwise (fun a b => lt a b = true)) := hp
  have C1 := findM_any (.slice p l.length c) l x _ h hl hp
  generalize hW : w.alloc (.cells #[.int .i64 x.p, .int .i64 x.s, .int .i64 x.i] 44) = w0 at hbA R h C1
  clear hp
  go_enter Try.func36, Try.ntmps36
  have c0 : w0.cell? ⟨w.heap.size, 0, none⟩ = some (.int .i64 x.p) := R.cell 0
  have c1 : w0.cell? ⟨w.heap.size, 1, none⟩ = some (.int .i64 x.s) := R.cell 1
  have c2 : w0.cell? ⟨w.heap.size, 2, none⟩ = some (.int .i64 x.i) := R.cell 2
  go_wp2_with (first | rw [hW])
  clear hW c0 c1 c2
  refine C1.mono ?_
  clear C1
  rintro e w1 ⟨k, b, rfl, hk, h1, h2, hb, hb1⟩
  have HE : Hid (z = if b = true then l else l.take k ++ x :: l.drop k) := ww_eq HP.out h1 h2 hb HZ.out
  replace h := h.later hb1
  replace R := R.later hb1
  replace hbA := below_on hbA hb1
  clear h1 h2 hb hb1 HP HZ
  have C2 := clone44_any (.slice p l.length c) l.length (rows M.cells l) w1 h hl (rows_all M.one l)
  go_wp2_with fail
  refine C2.mono ?_
  clear C2
  rintro e w2 ⟨u, rfl, ho, hb2⟩
  replace R := R.later hb2
  have hbB := below_on hbA hb2
  obtain ⟨pu, cu, rfl⟩ := own_sl ho
  cases b
  · have hne : ∀ k, (Value.slice pu l.length cu).ownBlock = some k → k < w2.heap.size := fun k hk => (World.ownsRow.lt ho k hk).2
    go_wp2_with (first | refine load_r 44 _ rfl rfl _ rfl R Try.underlying44 rfl size44 ?_)
    have hbC := bel_alloc (Below.refl w2.heap.size w2) (.cells #[.int .i64 x.p, .int .i64 x.s, .int .i64 x.i] 44)
    refine (insert_any w1.heap.size _ l k w2.heap.size x _ (own_later ho hbC) hk hl (Nat.le_trans hb2.size hbC.size) (rw_new w2 44 _) (fun q hq => by have := hne q hq; omega)).mono ?_
    rintro e w3 ⟨u, rfl, hou, hkp, hnu, hb3⟩
    have HF : Hid (WwPost z w (.returned u) w3) := by
      have e : z = l.take k ++ x :: l.drop k := HE.out
      subst e
      refine ⟨u, rfl, ?_, ?_⟩
      · rw [show (l.take k ++ x :: l.drop k).length = l.length + 1 by simp; omega]
        exact own_mono hou hbA.size
      · exact (below_on hbA (below_on hb2 hbC)).trans (hb3.mono hbA.size)
    obtain ⟨p3, c3, rfl⟩ := own_sl hou
    clear hou hkp hnu hb3 hne
    go_wp2_with fail
    go_ret
    exact HF.out
  · have HF : Hid (WwPost z w (.returned (.slice pu l.length cu)) w2) := by
      have e : z = l := HE.out
      subst e
      exact ⟨_, rfl, own_mono ho hbA.size, hbB⟩
    go_wp2_with fail
    go_ret
    exact HF.out
theorem pair_at {l : List M} (h : l.Pairwise (fun a b => lt a b = true)) (i j : Nat) (hj : j < l.length) (hij : i < j) : lt (l[i]'(by omega)) l[j] = true := (List.pairwise_iff_getElem.1 h) i j (by omega) hj hij
theorem has_at {x : M} {l : List M} {k : Nat} (hp : l.Pairwise (fun a b => lt a b = true)) (h1 : ∀ j (h : j < l.length), j < k → lt l[j] x = true) (h2 : ∀ j (h : j < l.length), k ≤ j → lt l[j] x = false) : has x l = (if h : k < l.length then mk l[k] x else false) := by
  split
  · rename_i h
    cases e : mk l[k] x
    · rw [has_false]
      intro y hy
      obtain ⟨j, hj, rfl⟩ := List.getElem_of_mem hy
      cases e2 : mk l[j] x
      · rfl
      · exfalso
        rcases Nat.lt_trichotomy j k with h' | h' | h'
        · have := h1 j hj h'
          rw [mk_lt e2] at this
          cases this
        · subst h'
          rw [e] at e2
          cases e2
        · have a1 := pair_at hp k j hj h'
          have a2 := h2 k h (Nat.le_refl _)
          have a3 : lt l[k] x = true := by
            rw [lt_iff] at a1 ⊢
            rw [mk_iff] at e2
            omega
          rw [a3] at a2
          cases a2
    · unfold has
      rw [List.any_eq_true]
      exact ⟨l[k], List.getElem_mem _, e⟩
  · rename_i h
    rw [has_false]
    intro y hy
    obtain ⟨j, hj, rfl⟩ := List.getElem_of_mem hy
    have := h1 j hj (by omega)
    cases e2 : mk l[j] x
    · rfl
    · rw [mk_lt e2] at this
      cases this
/-- What with answers: a row of its own. -/
def WiPost (B : Nat) (v : Value) (l : List M) (w : World) (e : Ending) (w' : World) : Prop := ∃ u, e = .returned u ∧ w'.ownsRow B 44 3 u l.length (rows M.cells l) ∧ Kp v.ownBlock w w' ∧ (∀ k, u.ownBlock = some k → v.ownBlock = some k ∨ w.heap.size ≤ k) ∧ Below B w w'
theorem with_any (B : Nat) (v : Value) (l : List M) (x : M) (w : World) (hown : w.ownsRow B 44 3 v l.length (rows M.cells l)) (hl : l.length ≤ 100) (hp : l.Pairwise (fun a b => lt a b = true)) (hB : B ≤ w.heap.size) :
    Calls Try.prog 36 #[v, MV x.p x.s x.i] w (WiPost B v (wth l x) w) :=
  (ww_any v l x w (own_sh hown) hl hp).mono fun _ _ ⟨u, he, ho, hb⟩ => ⟨u, he, own_mono ho hB, fun b h1 _ => hb.block b h1, fun k hk => Or.inr (World.ownsRow.lt ho k hk).1, hb.mono hB⟩
end Go.Proofs.Ythekfmodafmlgaa
/- slices.DeleteFunc over a row of marks of the call's own. -/
namespace Go.Proofs.Ythekfmodafmlgaa
open Go.RowKit

set_option maxHeartbeats 4000000 in
set_option maxRecDepth 100000 in
theorem deleteF_any (B : Nat) (v0 : Value) (l : List M) (bt : Nat) (v : List Int) (w : World) (hv : v.length = 13) (hown : w.ownsRow B 44 3 v0 l.length (rows M.cells l)) (hl : l.length ≤ 100) (hbt : bt < B) (hBw : B ≤ w.heap.size) (hX : Bxc w bt v) :
    Calls Try.prog 40 #[v0, .func (.func 41) #[] #[.pointer (some ⟨bt, 0, none⟩)]] w (DlPost B v0 (l.filter (fun y => !hs v y.p y.s)) w) := by
  obtain ⟨f, hf⟩ : ∃ f : M → Bool, f = fun y => hs v y.p y.s := ⟨_, rfl⟩
  have C : ∀ (y : M) (w' : World), Bxc w' bt v → Calls Try.prog 41 #[MV y.p y.s y.i, .pointer (some ⟨bt, 0, none⟩)] w' (Tells (.bool (f y)) w') := fun y w' h => by rw [hf]; exact fold1_any y bt v w' hv h
  rw [show (fun y : M => !hs v y.p y.s) = fun y => !f y by rw [hf]]
  clear hf
  obtain ⟨p, c, rfl⟩ := own_sl hown
  have CI := indexF_any _ l f bt w (own_sh hown) hl (fun y w' hb => C y w' (hX.later hb))
  have HX : Hid (Bxc w bt v) := hX
  have HO : Hid (w.ownsRow B 44 3 (.slice p l.length c) l.length (rows M.cells l)) := hown
  clear hown hX
  go_enter Try.func40, Try.ntmps40
  go_wp2_with fail
  refine CI.mono ?_
  clear CI
  rintro e w1 (⟨rfl, hall, hb1⟩ | ⟨k, hk, rfl, hfk, hbf, hb1⟩)
  · have HE : Hid (l.filter (fun y => !f y) = l) := by
      show _ = _
      rw [List.filter_eq_self]
      intro y hy
      rw [hall y hy]
      rfl
    clear hall C
    go_wp2_with fail
    go_ret
    refine ⟨_, rfl, ?_, fun b h _ => hb1.block b h, .inr rfl, hb1.mono hBw⟩
    rw [HE.out]
    exact own_later HO.out hb1
  · obtain ⟨g, rfl, hg⟩ := own_some HO.out (by omega)
    have ho := own_later HO.out hb1
    obtain ⟨hxl, ⟨h0, _⟩ | ⟨g', cap, cur, h0, hBg, hgc, hnc, hcm, hcs, htake⟩⟩ := ho
    · simp at h0
    simp only [Value.slice.injEq, Option.some.injEq, Addr.mk.injEq, and_true, true_and] at h0
    obtain ⟨rfl, rfl⟩ := h0
    have HD : Hid (DI l f k (k + 1) cur) := DI.start hk hfk hbf htake
    have HB : Hid (Bxc w1 bt v) := HX.out.later hb1
    have HR : Hid (Rw w1 g 44 cur) := hgc
    have hbel := hb1.mono hBw
    have HK : Hid (Kp (some g) w w1) := fun b h _ => hb1.block b h
    have hsw : w.heap.size ≤ w1.heap.size := hb1.size
    clear HX HO hfk hbf htake hxl hgc hb1
    have hkb : ((k : Int) == -1) = false := by
      rw [beq_eq_false_iff_ne]
      omega
    go_wp2_with fail
    go_loopw [5, 6] (fun vi vj wr => ∃ a j : Nat, ∃ cr : Array Value, vi = .int .i64 a ∧ vj = .int .i64 j ∧ j ≤ l.length ∧ a < j ∧ Hid (DI l f a j cr) ∧ cr.size = c * 3 ∧ Hid (Rw wr g 44 cr) ∧ Hid (Bxc wr bt v) ∧ Hid (Kp (some g) w wr) ∧ w.heap.size ≤ wr.heap.size ∧ Below B w wr) (fun _ vj _ => l.length - (intOf vj).toNat)
    case atStart => exact ⟨k, k + 1, cur, rfl, by simp, by omega, by omega, HD, hcs, HR, HB, HK, hsw, hbel⟩
    case round =>
      clear HD hcs HR HB HK hsw hbel
      obtain ⟨a, j, cr, rfl, rfl, hj, haj, HD, hcs, HR, HB, HK, hsw, hbel⟩ := hrel
      by_cases hlt : j < l.length
      · have hlt' : (j : Int) < (l.length : Int) := by omega
        have hgl := HR.out.lt
        have d := DI.elem HD.out hlt HR.out
        obtain ⟨x, HXX⟩ := hid_ex l[j]
        rw [HXX.out] at d
        have zm : (Try.prog.info? 44).map (·.size) = some x.cells.length := size44
        have hbA := bel_alloc (Below.refl wr.heap.size wr) (.cells #[.int .i64 x.p, .int .i64 x.s, .int .i64 x.i] 44)
        have R := rw_new wr 44 #[.int .i64 x.p, .int .i64 x.s, .int .i64 x.i]
        have Cx := C x _ (HB.out.later hbA)
        obtain ⟨y, HY⟩ := hid_ex (f x)
        rw [HY.out] at Cx
        have HF : Hid (f l[j] = y) := by show _ = _; rw [HXX.out, HY.out]
        clear C HY
        have hBr := Nat.le_trans hBw hbel.size
        go_wp2_with (refine load_m 44 _ rfl rfl _ _ rfl d Try.underlying44 rfl zm ?_)
        refine Cx.mono ?_
        clear Cx d
        rintro e w2 ⟨rfl, hb2⟩
        have hbC := below_on hbA hb2
        replace R := R.later hb2
        replace HR : Hid (Rw w2 g 44 cr) := HR.out.later hbC
        replace HB : Hid (Bxc w2 bt v) := HB.out.later hbC
        replace hbel := hbel.trans (hbC.mono hBr)
        replace HK : Hid (Kp (some g) w w2) := HK.out.on hsw hbC
        replace hsw := Nat.le_trans hsw hbC.size
        clear hbA hb2 hbC
        cases y
        · have HD2 : Hid (DI l f (a + 1) (j + 1) (cr.toList.take (a * 3) ++ x.cells ++ cr.toList.drop (a * 3 + 3)).toArray) := by
            have := DI.keep HD.out hlt haj (by omega) HF.out
            rw [HXX.out] at this
            exact this
          have hal' : (a : Int) < (l.length : Int) := by omega
          have ha0 : (0 : Int) ≤ (a : Int) := by omega
          have RR := HR.out
          clear HXX HF
          go_wp2_with (first | refine load_r 44 _ rfl rfl _ rfl R Try.underlying44 rfl size44 ?_ | refine store_mr rfl 44 _ _ rfl _ _ #[.int .i64 x.p, .int .i64 x.s, .int .i64 x.i] rfl rfl RR size44 ?hfit (by simp [Value.oneCell']) ?_)
          case hfit => simp; omega
          go_roundw
          case rel =>
            refine ⟨a + 1, j + 1, _, by simp, by simp, by omega, by omega, ?_, ?_, RR.row _, HB.out.row (by omega) _, HK.out.row _, (by simpa [World.setRow] using hsw), below_setRow hbel hBg _⟩
            · have := HD2.out
              simp only [List.append_assoc, List.cons_append, List.nil_append] at this
              exact this
            · simp
              omega
          case measure => simp [intOf]; omega
        · have HD2 : Hid (DI l f a (j + 1) cr) := DI.skip HD.out hlt HF.out
          clear HF HXX R
          go_wp2_with fail
          go_roundw
          case rel => exact ⟨a, j + 1, cr, rfl, by simp, by omega, by omega, HD2, hcs, HR, HB, HK, hsw, hbel⟩
          case measure => simp [intOf]; omega
      · obtain rfl : j = l.length := by omega
        have hlt' : ¬ (l.length : Int) < (l.length : Int) := by omega
        have hal' : (a : Int) < (l.length : Int) := by omega
        have hale : (a : Int) ≤ (l.length : Int) := by omega
        have hca : ¬ (c = a) := by omega
        have hac : (a : Int) ≤ (c : Int) := by omega
        have han : a ≤ l.length := by omega
        have ha0 : (0 : Int) ≤ (a : Int) := by omega
        have RR := HR.out
        have hcl : ∀ ty cc, (Builtin.clear_ #[39] ty #[.slice (some ⟨g, a * 3, none⟩) (l.length - a) cc]).run Try.prog wr = .ok (.tuple #[]) (wr.setRow g (cr.toList.take (a * 3) ++ (Builtin.zeroCells (MV 0 0 0).cells (l.length - a)).toList ++ cr.toList.drop (a * 3 + (l.length - a) * 3)).toArray) := fun ty cc => run_clear_rowS wr 39 44 ty _ 3 Try.underlying39 zero44 rfl (by decide) (by intro u hu; simp [Value.cells] at hu; rcases hu with rfl | rfl <;> rfl) g (a * 3) _ cc (by omega) 44 cr RR (by omega)
        obtain ⟨cr2, HC2⟩ := hid_ex (cr.toList.take (a * 3) ++ (Builtin.zeroCells (MV 0 0 0).cells (l.length - a)).toList ++ cr.toList.drop (a * 3 + (l.length - a) * 3)).toArray
        rw [HC2.out] at hcl
        have hs2 : cr2.size = c * 3 := by
          rw [← HC2.out]
          simp [Builtin.zeroCells, Value.cells]
          omega
        have ht2 : cr2.toList.take (a * 3) = rows M.cells (l.filter (fun y => !f y)) := by
          have := HD.out.t
          rw [List.take_length] at this
          rw [← HC2.out, ← this, List.toList_toArray, List.append_assoc, List.take_left' (by rw [List.length_take, Array.length_toList]; omega)]
        have hn2 : a = (l.filter (fun y => !f y)).length := by
          have := HD.out.n
          rwa [List.take_length] at this
        have HP : Hid (a = (l.filter (fun y => !f y)).length ∧ cr2.toList.take (a * 3) = rows M.cells (l.filter (fun y => !f y))) := ⟨hn2, ht2⟩
        clear ht2 hn2 HC2 C HD HB HR
        go_wp2_with (first | (at_builtin; refine clear_run rfl _ 39 rfl _ rfl (hcl _ _) ?_))
        go_ret
        refine ⟨_, rfl, ?_, HK.out.row _, .inr rfl, below_setRow hbel hBg _⟩
        obtain ⟨h1, h2⟩ := HP.out
        rw [← h1, ← h2]
        refine ⟨?_, .inr ⟨g, c, cr2, rfl, hBg, RR.row cr2, by omega, hcm, hs2, rfl⟩⟩
        rw [List.length_take, Array.length_toList]
        omega
end Go.Proofs.Ythekfmodafmlgaa
/- What becomes of a set; members whose marks lie in rows of the call's own, beside a map of them. Nothing of one function. -/
namespace Go.Proofs.Ythekfmodafmlgaa
open Go.RowKit Go.Sort Go.Maps Go.WideMaps

def addX (x : X) (m : M) (s : ByteArray) : X := if (ck x && (im m.i && decide (s.size ≤ 64))) = true then { x with mb := addL x.mb s m } else x
def woX (x : X) (i : Int) (G : Mb → Bool) (p : M → Bool) : X := if (ck x && im i) = true then { x with mb := wo G p x.mb } else x
abbrev bfP (q u : Int) (v : List Int) (idx : Int) : M → Bool := fun y => bf y.p y.s y.i q u v idx
abbrev hsP (v : List Int) : M → Bool := fun y => hs v y.p y.s
def delX (x : X) (q u : Int) (v : List Int) (idx : Int) (s : ByteArray) : X := woX x idx (fun y => decide (tx y = bs s)) (bfP q u v idx)
def clX (x : X) (q u : Int) (v : List Int) (idx : Int) : X := woX x idx (fun _ => true) (bfP q u v idx)
def fdX (x : X) (v : List Int) : X := if ck x = true then { x with mb := fdL (hsP v) x.mb } else x
theorem ck_x4 {x : X} (h : ck x = true) (l : List Mb) : { x with mb := l } = x4 l := by
  obtain ⟨h1, h2, h3, h4, h5, _⟩ := ck_parts h
  obtain ⟨k, b, am, wr, mb, el⟩ := x
  simp only at *
  subst h1
  subst h2
  obtain rfl := List.eq_nil_of_length_eq_zero h3
  obtain rfl := List.eq_nil_of_length_eq_zero h4
  obtain rfl := List.eq_nil_of_length_eq_zero h5
  rfl
theorem bs_inj {a b : ByteArray} (h : bs a = bs b) : a = b := by
  obtain ⟨⟨a⟩⟩ := a
  obtain ⟨⟨b⟩⟩ := b
  simp only [bs] at h
  rw [h]
section
variable {B : Nat} {w w' : World} {A C : List (Mb × Value)} {y z : Mb × Value}
theorem own_kp {e S n : Nat} {v : Value} {xs : List Value} (h : w.ownsRow B e S v n xs) {o : Option Nat} (hk : Kp o w w') (hne : ∀ k, v.ownBlock = some k → o ≠ some k) : w'.ownsRow B e S v n xs := by
  obtain ⟨h1, ⟨rfl, h0⟩ | ⟨g, cap, cur, rfl, hbg, hg', h2⟩⟩ := h
  · exact ⟨h1, .inl ⟨rfl, h0⟩⟩
  · exact ⟨h1, .inr ⟨g, cap, cur, rfl, hbg, (hk g (Array.getElem?_eq_some_iff.1 hg').1 (hne g rfl)).trans hg', h2⟩⟩
theorem below_kp (hb : Below B w w') (hk : Kp none w w') : Below w.heap.size w w' := ⟨hb.os, hb.tape, hb.output, hb.size, fun b h => hk b h (by simp)⟩
theorem OwnB.apart (h : OwnB B w (A ++ y :: C)) : ∀ a ∈ A ++ C, ∀ k, a.2.ownBlock = some k → y.2.ownBlock ≠ some k := by
  have hd := h.d
  rw [List.pairwise_append, List.pairwise_cons] at hd
  intro a ha k hk hy
  rcases List.mem_append.1 ha with h1 | h1
  · exact hd.2.2 a h1 y (by simp) k hk hy
  · exact hd.2.1.1 a h1 k hy hk
/-- One of them is written over: the others stay. -/
theorem OwnB.others (h : OwnB B w (A ++ y :: C)) (hk : Kp y.2.ownBlock w w') : OwnB B w' (A ++ C) := by
  refine ⟨fun a ha => ?_, ?_⟩
  · have hm : a ∈ A ++ y :: C := by
      rcases List.mem_append.1 ha with h1 | h1
      · exact List.mem_append.2 (.inl h1)
      · exact List.mem_append.2 (.inr (List.mem_cons_of_mem _ h1))
    exact own_kp (h.o a hm) hk (h.apart a ha)
  · have hd := h.d
    rw [List.pairwise_append, List.pairwise_cons] at hd
    rw [List.pairwise_append]
    exact ⟨hd.1, hd.2.1.2, fun a ha b hb => hd.2.2 a ha b (List.mem_cons_of_mem _ hb)⟩
theorem OwnB.mid (h : OwnB B w (A ++ C)) (hz : w.ownsRow B 44 3 z.2 z.1.ms.length (rows M.cells z.1.ms)) (hn : ∀ k, z.2.ownBlock = some k → ∀ a ∈ A ++ C, a.2.ownBlock ≠ some k) : OwnB B w (A ++ z :: C) := by
  have hd := h.d
  rw [List.pairwise_append] at hd
  refine ⟨fun a ha => ?_, ?_⟩
  · rcases List.mem_append.1 ha with h1 | h1
    · exact h.o a (List.mem_append.2 (.inl h1))
    · rcases List.mem_cons.1 h1 with rfl | h1
      · exact hz
      · exact h.o a (List.mem_append.2 (.inr h1))
  · rw [List.pairwise_append, List.pairwise_cons]
    refine ⟨hd.1, ⟨fun a ha k hk => hn k hk a (List.mem_append.2 (.inr ha)), hd.2.1⟩, fun a ha b hb k hk => ?_⟩
    rcases List.mem_cons.1 hb with rfl | hb
    · exact fun h2 => hn k h2 a (List.mem_append.2 (.inl ha)) hk
    · exact hd.2.2 a ha b hb k hk
theorem map_ne {b n e S m : Nat} {D : DataW Value} {v : Value} {xs : List Value} (hown : w.ownsMap Try.prog 9 vE b n D) (h : w.ownsRow B e S v m xs) : ∀ k, v.ownBlock = some k → b ≠ k := by
  intro k hk e
  subst e
  obtain ⟨es, clock, hb, _⟩ := hown
  obtain ⟨_, ⟨rfl, _⟩ | ⟨g, cap, cur, rfl, _, hg, _⟩⟩ := h
  · cases hk
  · have e1 := Option.some.inj hk
    simp only at e1
    subst e1
    rw [hg] at hb
    cases hb
theorem OwnB.turned {b n : Nat} {D : DataW Value} {ms : List (Mb × Value)} (h : OwnB B w ms) (hown : w.ownsMap Try.prog 9 vE b n D) (hg : w.grownBy w' (some b)) : OwnB B w' ms :=
  ⟨fun a ha => own_grown (h.o a ha) hg (fun k hk e => map_ne hown (h.o a ha) k hk (Option.some.inj e)), h.d⟩
theorem map_kp {b n : Nat} {D : DataW Value} (hown : w.ownsMap Try.prog 9 vE b n D) {o : Option Nat} (hk : Kp o w w') (hne : o ≠ some b) : w'.ownsMap Try.prog 9 vE b n D := by
  obtain ⟨es, clock, hb, F, hs, hE⟩ := hown
  exact ⟨es, clock, (hk b (Array.getElem?_eq_some_iff.1 hb).1 hne).trans hb, F, hs, hE⟩
theorem map_later {b n : Nat} {D : DataW Value} (hown : w.ownsMap Try.prog 9 vE b n D) (hb : Below w.heap.size w w') : w'.ownsMap Try.prog 9 vE b n D := map_kp hown (o := none) (fun b h _ => hb.block b h) (by simp)
theorem Rw.turned {b n p : Nat} {D : DataW Value} {t : TypeId} {cs : Array Value} (R : Rw w p t cs) (hown : w.ownsMap Try.prog 9 vE b n D) (hg : w.grownBy w' (some b)) : Rw w' p t cs := by
  refine (hg.block p R.lt (fun e => ?_)).trans R
  obtain rfl := Option.some.inj e
  obtain ⟨es, clock, hb, _⟩ := hown
  rw [show w.heap[p]? = _ from R] at hb
  cases hb
end
theorem upB_split {ms : List (Mb × Value)} (h : upB ms) (s : Bs) : (∀ y ∈ ms, tx y.1 ≠ s) ∨ ∃ A y C, ms = A ++ y :: C ∧ tx y.1 = s ∧ (∀ a ∈ A, tx a.1 < s) ∧ ∀ c ∈ C, s < tx c.1 := by
  by_cases hs : ∃ y ∈ ms, tx y.1 = s
  · obtain ⟨y, hy, e⟩ := hs
    obtain ⟨A, C, rfl⟩ := List.append_of_mem hy
    right
    unfold upB at h
    rw [List.pairwise_append, List.pairwise_cons] at h
    exact ⟨A, y, C, rfl, e, fun a ha => by rw [← e]; exact h.2.2 a ha y (by simp), fun c hc => by rw [← e]; exact h.2.1.1 c hc⟩
  · left
    exact fun y hy e => hs ⟨y, hy, e⟩
theorem putV_mid {A C : List (Mb × Value)} {y z : Mb × Value} (e : tx y.1 = tx z.1) (h1 : ∀ a ∈ A, tx a.1 < tx z.1) (h2 : ∀ c ∈ C, tx z.1 < tx c.1) : putV z (A ++ y :: C) = A ++ z :: C := by
  unfold putV
  have e1 : A.filter (fun a => decide (tx a.1 < tx z.1)) = A := List.filter_eq_self.2 (fun a ha => decide_eq_true (h1 a ha))
  have e2 : A.filter (fun a => decide (tx z.1 < tx a.1)) = [] := List.filter_eq_nil_iff.2 (fun a ha => by simpa using Bs.le_of (h1 a ha))
  have e3 : C.filter (fun a => decide (tx a.1 < tx z.1)) = [] := List.filter_eq_nil_iff.2 (fun a ha => by simpa using Bs.le_of (h2 a ha))
  have e4 : C.filter (fun a => decide (tx z.1 < tx a.1)) = C := List.filter_eq_self.2 (fun a ha => decide_eq_true (h2 a ha))
  have n1 : ¬ tx y.1 < tx z.1 := by rw [e]; exact Bs.irr _
  have n2 : ¬ tx z.1 < tx y.1 := by rw [e]; exact Bs.irr _
  rw [List.filter_append, List.filter_append, List.filter_cons_of_neg (by simpa using n1), List.filter_cons_of_neg (by simpa using n2), e1, e2, e3, e4]
  simp
theorem delV_mid {A C : List (Mb × Value)} {y : Mb × Value} {s : Bs} (e : tx y.1 = s) (h1 : ∀ a ∈ A, tx a.1 < s) (h2 : ∀ c ∈ C, s < tx c.1) : delV s (A ++ y :: C) = A ++ C := by
  unfold delV
  rw [List.filter_append, List.filter_cons_of_neg (by simpa using e), List.filter_eq_self.2 (fun a ha => ?_), List.filter_eq_self.2 (fun a ha => ?_)]
  · refine decide_eq_true (fun e => ?_)
    have := h2 a ha
    rw [e] at this
    exact Bs.irr _ this
  · refine decide_eq_true (fun e => ?_)
    have := h1 a ha
    rw [e] at this
    exact Bs.irr _ this
theorem delV_none {ms : List (Mb × Value)} {s : Bs} (h : ∀ y ∈ ms, tx y.1 ≠ s) : delV s ms = ms := List.filter_eq_self.2 (fun a ha => decide_eq_true (h a ha))
theorem wo_mid {A C : List Mb} {y : Mb} {s : Bs} (p : M → Bool) (e : tx y = s) (h1 : ∀ a ∈ A, tx a < s) (h2 : ∀ c ∈ C, s < tx c) : wo (fun y => decide (tx y = s)) p (A ++ y :: C) = A ++ (dm p y).toList ++ C := by
  rw [wo_append, wo_none p (fun a ha => decide_eq_false (fun e => ?_)), show y :: C = [y] ++ C from rfl, wo_append, wo_none (l := C) p (fun a ha => decide_eq_false (fun e => ?_))]
  · have : wo (fun y => decide (tx y = s)) p [y] = (dm p y).toList := by
      simp only [wo, List.filterMap_cons, List.filterMap_nil, e, decide_true, if_true]
      cases dm p y <;> rfl
    rw [this, List.append_assoc]
  · have := h2 a ha
    rw [e] at this
    exact Bs.irr _ this
  · have := h1 a ha
    rw [e] at this
    exact Bs.irr _ this
end Go.Proofs.Ythekfmodafmlgaa
