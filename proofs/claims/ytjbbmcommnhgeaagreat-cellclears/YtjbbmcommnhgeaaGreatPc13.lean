import Derived.Test.YtjbbmcommnhgeaaGreatPc12
import Derived.Shelf.Spec.SlicesInsertGrow
set_option maxRecDepth 100000
set_option maxHeartbeats 8000000
namespace Go.Proofs.YtjbbmcommnhgeaaGreat.Rg
open Go.RowKit
def ck (x : X) : Bool := (decide (x.k = 2) || decide (x.k = 3)) && (decide (x.b = 0) && (decide (x.am.length + x.mb.length + x.el.length = 0) && ca x.wr))
theorem ck_parts {x : X} (h : ck x = true) : (x.k = 2 ∨ x.k = 3) ∧ x.b = 0 ∧ x.am.length = 0 ∧ x.mb.length = 0 ∧ x.el.length = 0 ∧ ca x.wr = true := by
 simp only [ck, Bool.and_eq_true, Bool.or_eq_true, decide_eq_true_eq] at h
 obtain ⟨h1, h2, h3, h4⟩ := h
 exact ⟨h1, h2, by omega, by omega, by omega, h4⟩
theorem check_any (x : X) (va vw vm ve : Value) (w : World) (h : Four w x va vw vm ve) (hs : Sm x) : Calls Tryz.prog 76 #[CV x.k x.b va vw vm ve] w (Tells (.bool (ck x)) w) := by
 obtain ⟨z, HZ⟩ := hid_ex (ck x)
 rw [HZ.out]
 obtain ⟨pa, ca', pw, cw, pm, cm, pe, ce, rfl, rfl, rfl, rfl⟩ := h.slices
 have HA : Hid (WHas w (.slice pw x.wr.length cw) x.wr) := h.t
 clear h
 obtain ⟨ha, ht, hm, he, _, _⟩ := hs
 have w1 : IntKind.i64.wrap ((x.am.length : Int) + (x.mb.length : Int)) = (x.am.length : Int) + (x.mb.length : Int) := by rw [IntKind.wrap_i64]; omega
 have w2 : IntKind.i64.wrap ((x.am.length : Int) + (x.mb.length : Int) + (x.el.length : Int)) = (x.am.length : Int) + (x.mb.length : Int) + (x.el.length : Int) := by rw [IntKind.wrap_i64]; omega
 have C1 := fun w => isKind_any x.k w
 obtain ⟨y1, HY1⟩ := hid_ex (decide (x.k = 2) || decide (x.k = 3))
 rw [HY1.out] at C1
 have hz : Hid (z = (y1 && (decide (x.b = 0) && (decide (x.am.length + x.mb.length + x.el.length = 0) && ca x.wr)))) := by
  show _ = _
  rw [← HZ.out]
  unfold ck
  rw [HY1.out]
 clear HY1 HZ
 cases y1
 ·obtain rfl : z = false := by have := hz.out; simpa using this
  clear hz
  go_enter Tryz.func76, Tryz.ntmps76
  go_wp2_with fail
  refine (C1 _).mono ?_
  rintro e w1 ⟨rfl, hb1⟩
  replace hb1 := below_on (bel_alloc (Below.refl _ _) _) hb1
  go_wp2_with fail
  go_ret
  exact ⟨rfl, hb1⟩
 ·go_enter Tryz.func76, Tryz.ntmps76
  go_wp2_with fail
  refine (C1 _).mono ?_
  rintro e w1 ⟨rfl, hb1⟩
  have R := Rw.later (rw_new w 27 _) hb1
  have c1 : w1.cell? ⟨w.heap.size, 1, none⟩ = some (.int .i64 x.b) := R.cell 1
  have c3 : w1.cell? ⟨w.heap.size, 3, none⟩ = some (.slice pw x.wr.length cw) := R.cell 3
  replace hb1 := below_on (bel_alloc (Below.refl _ _) _) hb1
  clear R C1
  by_cases hb : x.b = 0
  ·by_cases h0 : x.am.length + x.mb.length + x.el.length = 0
   ·have h0' : (x.am.length : Int) + (x.mb.length : Int) + (x.el.length : Int) = 0 := by omega
    obtain rfl : z = ca x.wr := by have := hz.out; simpa [hb, h0] using this
    clear hz
    go_wp2_with fail
    refine (checkWrites_any _ _ _ (HA.out.later hb1)).mono ?_
    rintro e w2 ⟨rfl, hb2⟩
    go_wp2_with fail
    go_ret
    exact ⟨rfl, below_on hb1 hb2⟩
   ·have h0' : ¬ (x.am.length : Int) + (x.mb.length : Int) + (x.el.length : Int) = 0 := by omega
    obtain rfl : z = false := by have := hz.out; rw [decide_eq_false h0] at this; simpa using this
    clear hz h0
    go_wp2_with fail
    go_ret
    exact ⟨rfl, hb1⟩
  ·obtain rfl : z = false := by have := hz.out; rw [decide_eq_false hb] at this; simpa using this
   clear hz
   go_wp2_with fail
   go_ret
   exact ⟨rfl, hb1⟩
theorem lt_iff (x y : Wt) : lt x y = true ↔ x.p < y.p ∨ (x.p = y.p ∧ (x.s < y.s ∨ (x.s = y.s ∧ x.i < y.i))) := by simp [lt, ls]
theorem lt_trans {x y z : Wt} (h : lt x y = true) (k : lt y z = true) : lt x z = true := by
 rw [lt_iff] at *
 omega
def mk (x y : Wt) : Bool := decide (x.p = y.p) && decide (x.s = y.s) && decide (x.i = y.i)
theorem mk_iff (x y : Wt) : mk x y = true ↔ x.p = y.p ∧ x.s = y.s ∧ x.i = y.i := by simp [mk, and_assoc]
theorem lt_total {x y : Wt} (h : lt x y = false) (k : mk x y = false) : lt y x = true := by
 rw [lt_iff]
 have h1 : ¬ _ := fun e => by rw [(lt_iff x y).2 e] at h; cases h
 have h2 : ¬ _ := fun e => by rw [(mk_iff x y).2 e] at k; cases k
 omega
theorem mk_lt {x y : Wt} (h : mk x y = true) : lt x y = false := by
 cases k : lt x y
 ·rfl
 ·rw [mk_iff] at h
  rw [lt_iff] at k
  omega
theorem lt_of_not {x y z : Wt} (h : lt x z = true) (k : lt y z = false) : lt x y = true := by
 have k1 : ¬ _ := fun e => by rw [(lt_iff y z).2 e] at k; cases k
 rw [lt_iff] at *
 omega
theorem ca_pair (l : List Wt) : ca l = true ↔ (∀ y ∈ l, iw y.i y.x = true) ∧ l.Pairwise (fun a b => lt a b = true) := by
 rw [ca_iff]
 constructor
 ·intro h
  refine ⟨fun y hy => ?_, ?_⟩
  ·obtain ⟨k, hk, rfl⟩ := List.getElem_of_mem hy
   have := h k hk
   unfold okk at this
   exact (Bool.and_eq_true _ _ ▸ this).1
  ·rw [List.pairwise_iff_getElem]
   intro i j hi hj hij
   obtain ⟨d, rfl⟩ : ∃ d, j = i + 1 + d := ⟨j - (i + 1), by omega⟩
   clear hij
   have step : ∀ k (hk : k + 1 < l.length), lt l[k] l[k + 1] = true := fun k hk => by
    have := h (k + 1) hk
    unfold okk at this
    simpa using (Bool.and_eq_true _ _ ▸ this).2
   induction d with
   | zero => exact step i hj
   | succ d ih => exact lt_trans (ih (by omega) step) (step (i + 1 + d) (by omega))
 ·rintro ⟨h1, h2⟩ k hk
  unfold okk
  rw [h1 _ (List.getElem_mem _), Bool.true_and]
  rcases Nat.eq_zero_or_pos k with rfl | hp
  ·rfl
  ·rw [List.pairwise_iff_getElem] at h2
   simp [h2 (k - 1) k (by omega) hk (by omega)]
theorem ca_filter {l : List Wt} (h : ca l = true) (f : Wt → Bool) : ca (l.filter f) = true := by
 rw [ca_pair] at *
 exact ⟨fun y hy => h.1 y (List.mem_filter.1 hy).1, h.2.filter f⟩
def insF (x : Wt) (l : List Wt) : List Wt := l.filter (fun y => lt y x) ++ x :: l.filter (fun y => !lt y x)
def has (x : Wt) (l : List Wt) : Bool := l.any (fun y => mk y x)
theorem has_false {x : Wt} {l : List Wt} : has x l = false ↔ ∀ y ∈ l, mk y x = false := by
 unfold has
 rw [List.any_eq_false]
 exact ⟨fun h y hy => by simpa using h y hy, fun h y hy => by simpa using h y hy⟩
theorem insF_length (x : Wt) (l : List Wt) : (insF x l).length = l.length + 1 := by
 unfold insF
 rw [List.length_append, List.length_cons]
 induction l with
 | nil => rfl
 | cons y l ih =>
  rw [List.filter_cons, List.filter_cons]
  cases lt y x
  ·simp
   omega
  ·simp
   omega
theorem insF_ca {x : Wt} {l : List Wt} (h : ca l = true) (hi : iw x.i x.x = true) (hn : has x l = false) : ca (insF x l) = true := by
 rw [has_false] at hn
 rw [ca_pair] at *
 obtain ⟨h1, h2⟩ := h
 refine ⟨fun y hy => ?_, ?_⟩
 ·unfold insF at hy
  rcases List.mem_append.1 hy with h | h
  ·exact h1 y (List.mem_filter.1 h).1
  ·rcases List.mem_cons.1 h with rfl | h
   ·exact hi
   ·exact h1 y (List.mem_filter.1 h).1
 ·unfold insF
  rw [List.pairwise_append]
  refine ⟨h2.filter _, ?_, ?_⟩
  ·rw [List.pairwise_cons]
   refine ⟨fun y hy => ?_, h2.filter _⟩
   obtain ⟨hy1, hy2⟩ := List.mem_filter.1 hy
   exact lt_total (by simpa using hy2) (hn y hy1)
  ·intro y hy z hz
   obtain ⟨hy1, hy2⟩ := List.mem_filter.1 hy
   rcases List.mem_cons.1 hz with rfl | hz
   ·exact hy2
   ·obtain ⟨hz1, hz2⟩ := List.mem_filter.1 hz
    exact lt_of_not hy2 (by simpa using hz2)
theorem insF_at {x : Wt} {l : List Wt} {k : Nat} (h1 : ∀ j (h : j < l.length), j < k → lt l[j] x = true) (h2 : ∀ j (h : j < l.length), k ≤ j → lt l[j] x = false) : l.take k ++ x :: l.drop k = insF x l := by
 have e1 : l.filter (fun y => lt y x) = l.take k := by
  conv => lhs; rw [← List.take_append_drop k l]
  rw [List.filter_append, List.filter_eq_self.2, List.filter_eq_nil_iff.2, List.append_nil]
  ·intro y hy
   obtain ⟨j, hj, rfl⟩ := List.getElem_of_mem hy
   rw [List.getElem_drop, h2 _ _ (by omega)]
   simp
  ·intro y hy
   obtain ⟨j, hj, rfl⟩ := List.getElem_of_mem hy
   rw [List.length_take] at hj
   rw [List.getElem_take]
   exact h1 _ _ (by omega)
 have e2 : l.filter (fun y => !lt y x) = l.drop k := by
  conv => lhs; rw [← List.take_append_drop k l]
  rw [List.filter_append, List.filter_eq_nil_iff.2, List.filter_eq_self.2, List.nil_append]
  ·intro y hy
   obtain ⟨j, hj, rfl⟩ := List.getElem_of_mem hy
   rw [List.getElem_drop, h2 _ _ (by omega)]
   rfl
  ·intro y hy
   obtain ⟨j, hj, rfl⟩ := List.getElem_of_mem hy
   rw [List.length_take] at hj
   rw [List.getElem_take, h1 _ _ (by omega)]
   simp
 unfold insF
 rw [e1, e2]
theorem markW_any (y : Wt) (w : World) : Calls Tryz.prog 113 #[WV y.p y.s y.i y.t y.x] w (Tells (MV y.p y.s y.i) w) := by
 go_enter Tryz.func113, Tryz.ntmps113
 go_wp2
 exact bodyPost_ret (results_r rfl rfl (rw_next _ (by simp) 50 _) rfl Tryz.underlying50 size50) rfl ⟨rfl, bel_alloc (bel_alloc (Below.refl _ _) _) _⟩
structure Cap (w : World) (b1 b2 b3 : Nat) (v : Value) (x : Wt) : Prop where
 f : w.cell? ⟨b1, 0, none⟩ = some (.func (.func 113) #[] #[])
 l : w.cell? ⟨b2, 0, none⟩ = some v
 m : Rw w b3 50 #[.int .i64 x.p, .int .i64 x.s, .int .i64 x.i]
theorem Cap.later {w w' : World} {b1 b2 b3 : Nat} {v : Value} {x : Wt} (h : Cap w b1 b2 b3 v x) (hb : Below w.heap.size w w') : Cap w' b1 b2 b3 v x := ⟨cell_later hb h.f, cell_later hb h.l, h.m.later hb⟩
theorem find1_any (k : Nat) (b1 b2 b3 : Nat) (v : Value) (l : List Wt) (x : Wt) (w : World) (h : WHas w v l) (hk : k < l.length) (hC : Cap w b1 b2 b3 v x) :
  Calls Tryz.prog 140 #[.int .i64 k, .pointer (some ⟨b1, 0, none⟩), .pointer (some ⟨b2, 0, none⟩), .pointer (some ⟨b3, 0, none⟩)] w (Tells (.bool (!lt l[k] x)) w) := by
 have hml := maxLen_lt h.1
 obtain ⟨p, c, rfl⟩ := h.slice
 obtain ⟨g, o, rfl, hd⟩ := h.at (by omega)
 have d := range_sub hd (k * 5) fun j u hu => rows_at Wt.len l k hk j u hu
 obtain ⟨y, HY⟩ := hid_ex l[k]
 rw [HY.out] at d ⊢
 clear HY h hd
 have ze : (Tryz.prog.info? 64).map (·.size) = some y.cells.length := size64
 have zm : (Tryz.prog.info? 50).map (·.size) = some [Value.int .i64 x.p, .int .i64 x.s, .int .i64 x.i].length := size50
 have C1 : ∀ w, Calls Tryz.prog 107 #[MV y.p y.s y.i, MV x.p x.s x.i] w (Tells (.bool (lt y x)) w) := fun w => less_any y.p y.s y.i x.p x.s x.i w
 generalize lt y x = z at C1 ⊢
 have hbel := Below.refl w.heap.size w
 have hk0 : (0 : Int) ≤ (k : Int) := by omega
 have hk1 : (k : Int) < (l.length : Int) := by omega
 go_enter Tryz.func140, Tryz.ntmps140
 go_wp2_with fail
 have hs : Calm.Stays (fun w' => Cap w' b1 b2 b3 (.slice (some ⟨g, o, none⟩) l.length c) x ∧ w'.rangeAt g (o + k * 5) y.cells ∧ Below w.heap.size w w') := fun wa wb h hb => ⟨h.1.later hb, range_later h.2.1 hb, below_on h.2.2 hb⟩
 refine Calm.region (by kernel_rfl) (by kernel_rfl) (fun w' => Cap w' b1 b2 b3 (.slice (some ⟨g, o, none⟩) l.length c) x ∧ w'.rangeAt g (o + k * 5) y.cells ∧ Below w.heap.size w w') ⟨⟨hC.f, hC.l, hC.m⟩, d, hbel.drew⟩ ?_
 all_goals refine Calm.cl (fun _ h => h.1.f) ?_
 all_goals refine Calm.cl (fun _ h => h.1.l) ?_
 iterate 2 (all_goals refine Calm.sp ?_)
 all_goals refine Calm.lm ze (fun _ h => h.2.1) Tryz.underlying64 ?_
 all_goals refine Calm.kf1 hs (fun w1 h => markW_any y w1) ?_
 all_goals refine Calm.lm zm (fun _ h => Rw.whole h.1.m) Tryz.underlying50 ?_
 all_goals refine Calm.k2 hs (fun w1 h => C1 w1) ?_
 iterate 2 (all_goals refine Calm.sp ?_)
 all_goals
  rintro w9 ⟨_, _, hbel9⟩
 go_wp2_with fail
 go_ret
 exact ⟨rfl, hbel9⟩
theorem pair_at {l : List Wt} (h : l.Pairwise (fun a b => lt a b = true)) (i j : Nat) (hj : j < l.length) (hij : i < j) : lt (l[i]'(by omega)) l[j] = true := (List.pairwise_iff_getElem.1 h) i j (by omega) hj hij
def SePost (l : List Wt) (x : Wt) (w : World) (e : Ending) (w' : World) : Prop := ∃ k : Nat, e = .returned (.int .i64 k) ∧ k ≤ l.length ∧ (∀ j (h : j < l.length), j < k → lt l[j] x = true) ∧ (∀ j (h : j < l.length), k ≤ j → lt l[j] x = false) ∧ Below w.heap.size w w'
theorem search_any (b1 b2 b3 : Nat) (v : Value) (l : List Wt) (x : Wt) (w : World) (h : WHas w v l) (hl : l.length ≤ 100) (hp : l.Pairwise (fun a b => lt a b = true)) (hC : Cap w b1 b2 b3 v x) :
  Calls Tryz.prog 105 #[.int .i64 l.length, .func (.func 140) #[] #[.pointer (some ⟨b1, 0, none⟩), .pointer (some ⟨b2, 0, none⟩), .pointer (some ⟨b3, 0, none⟩)]] w (SePost l x w) := by
 have HA : Hid (WHas w v l) := h
 have HP : Hid (l.Pairwise (fun a b => lt a b = true)) := hp
 have HC : Hid (Cap w b1 b2 b3 v x) := hC
 clear h hp hC
 go_enter Tryz.func105, Tryz.ntmps105
 go_wp2
 go_loopw [5, 6] (fun vi vj wr => ∃ a b : Nat, vi = .int .i64 a ∧ vj = .int .i64 b ∧ a ≤ b ∧ b ≤ l.length ∧ Hid (∀ j (h : j < l.length), j < a → lt l[j] x = true) ∧ Hid (∀ j (h : j < l.length), b ≤ j → lt l[j] x = false) ∧ Below w.heap.size w wr) (fun vi vj _ => (intOf vj).toNat - (intOf vi).toNat)
 case atStart => exact ⟨0, l.length, rfl, rfl, by omega, by omega, (show ∀ j (_ : j < l.length), j < 0 → _ from fun j _ h => by omega), (show ∀ j (_ : j < l.length), l.length ≤ j → _ from fun j h h' => by omega), Below.refl _ _⟩
 case round =>
  obtain ⟨a, b, rfl, rfl, hab, hbl, HV, HW, hbel⟩ := hrel
  by_cases hlt : a < b
  ·have hlt' : (a : Int) < (b : Int) := by omega
   obtain ⟨m, hm⟩ : ∃ m : Nat, m = (a + b) / 2 := ⟨_, rfl⟩
   have hmi : ((a : Int) + (b : Int)) / 2 = (m : Int) := by omega
   have hm1 : a ≤ m := by omega
   have hm2 : m < b := by omega
   have hml : m < l.length := by omega
   have C1 := find1_any m b1 b2 b3 v l x wr (HA.out.later hbel) hml (HC.out.later hbel)
   obtain ⟨z, HZ⟩ := hid_ex (lt l[m] x)
   rw [HZ.out] at C1
   clear hm
   go_wp2_with (first | rw [hmi])
   refine C1.mono ?_
   clear C1
   rintro e w1 ⟨rfl, hb1⟩
   cases z
   ·have HW2 : Hid (∀ j (h : j < l.length), m ≤ j → lt l[j] x = false) := fun j h hj => by
     rcases Nat.lt_or_ge m j with h' | h'
     ·cases k : lt l[j] x
      ·rfl
      ·have := lt_trans (pair_at HP.out m j h h') k
       rw [HZ.out] at this
       cases this
     ·obtain rfl : j = m := by omega
      exact HZ.out
    go_wp2_with fail
    go_roundw
    case rel => exact ⟨a, m, rfl, rfl, by omega, by omega, HV, HW2, below_on hbel hb1⟩
    case measure => simp [intOf]; omega
   ·have HV2 : Hid (∀ j (h : j < l.length), j < m + 1 → lt l[j] x = true) := fun j h hj => by
     rcases Nat.lt_or_ge j m with h' | h'
     ·exact lt_trans (pair_at HP.out j m hml h') HZ.out
     ·obtain rfl : j = m := by omega
      exact HZ.out
    go_wp2_with fail
    go_roundw
    case rel => exact ⟨m + 1, b, by simp, rfl, by omega, by omega, HV2, HW, below_on hbel hb1⟩
    case measure => simp [intOf]; omega
  ·obtain rfl : a = b := by omega
   have hlt' : ¬ (a : Int) < (a : Int) := by omega
   clear HA HP HC
   go_wp2_with fail
   go_ret
   exact ⟨a, rfl, hbl, HV.out, HW.out, hbel⟩
def FdPost (l : List Wt) (x : Wt) (w : World) (e : Ending) (w' : World) : Prop := ∃ k : Nat, e = .returned (.tuple #[.int .i64 k, .bool (has x l)]) ∧ k ≤ l.length ∧ l.take k ++ x :: l.drop k = insF x l ∧ Below w.heap.size w w'
theorem has_at {x : Wt} {l : List Wt} {k : Nat} (hp : l.Pairwise (fun a b => lt a b = true)) (h1 : ∀ j (h : j < l.length), j < k → lt l[j] x = true) (h2 : ∀ j (h : j < l.length), k ≤ j → lt l[j] x = false) : has x l = (if h : k < l.length then mk l[k] x else false) := by
 split
 ·rename_i h
  cases e : mk l[k] x
  ·rw [has_false]
   intro y hy
   obtain ⟨j, hj, rfl⟩ := List.getElem_of_mem hy
   cases e2 : mk l[j] x
   ·rfl
   ·exfalso
    rcases Nat.lt_trichotomy j k with h' | h' | h'
    ·have := h1 j hj h'
     rw [mk_lt e2] at this
     cases this
    ·subst h'
     rw [e] at e2
     cases e2
    ·have a1 := pair_at hp k j hj h'
     have a2 := h2 k h (Nat.le_refl _)
     have a3 : lt l[k] x = true := by
      rw [lt_iff] at a1 ⊢
      rw [mk_iff] at e2
      omega
     rw [a3] at a2
     cases a2
  ·unfold has
   rw [List.any_eq_true]
   exact ⟨l[k], List.getElem_mem _, e⟩
 ·rename_i h
  rw [has_false]
  intro y hy
  obtain ⟨j, hj, rfl⟩ := List.getElem_of_mem hy
  have := h1 j hj (by omega)
  cases e2 : mk l[j] x
  ·rfl
  ·rw [mk_lt e2] at this
   cases this
theorem findW_any (v : Value) (l : List Wt) (x : Wt) (w : World) (h : WHas w v l) (hl : l.length ≤ 100) (hp : l.Pairwise (fun a b => lt a b = true)) :
  Calls Tryz.prog 112 #[v, MV x.p x.s x.i, .func (.func 113) #[] #[]] w (FdPost l x w) := by
 obtain ⟨pa, ca', rfl⟩ := h.slice
 have hbel := bel_alloc (bel_alloc (bel_alloc (Below.refl w.heap.size w) (.cells #[.slice pa l.length ca'] 23)) (.cells #[.int .i64 x.p, .int .i64 x.s, .int .i64 x.i] 50)) (.cells #[.func (.func 113) #[] #[]] 138)
 have r1 := ((rw_new w 23 #[.slice pa l.length ca']).alloc (.cells #[.int .i64 x.p, .int .i64 x.s, .int .i64 x.i] 50)).alloc (.cells #[.func (.func 113) #[] #[]] 138)
 have r2 := (rw_new (w.alloc (.cells #[.slice pa l.length ca'] 23)) 50 #[.int .i64 x.p, .int .i64 x.s, .int .i64 x.i]).alloc (.cells #[.func (.func 113) #[] #[]] 138)
 have r3 := rw_new ((w.alloc (.cells #[.slice pa l.length ca'] 23)).alloc (.cells #[.int .i64 x.p, .int .i64 x.s, .int .i64 x.i] 50)) 138 #[.func (.func 113) #[] #[]]
 generalize hW : ((w.alloc (.cells #[.slice pa l.length ca'] 23)).alloc (.cells #[.int .i64 x.p, .int .i64 x.s, .int .i64 x.i] 50)).alloc (.cells #[.func (.func 113) #[] #[]] 138) = w0 at hbel r1 r2 r3
 simp only [World.size_alloc, Nat.add_assoc, Nat.reduceAdd] at r2 r3
 have hC : Cap w0 (w.heap.size + 2) w.heap.size (w.heap.size + 1) (.slice pa l.length ca') x := ⟨r3.cell 0, r1.cell 0, r2⟩
 have c1 := hC.l
 replace h := h.later hbel
 clear r1 r2 r3
 go_enter Tryz.func112, Tryz.ntmps112
 go_wp2_with (first | rw [hW])
 clear hW
 refine (search_any (w.heap.size + 2) w.heap.size (w.heap.size + 1) _ l x w0 h hl hp hC).mono ?_
 rintro e w1 ⟨k, rfl, hk, h1, h2, hb1⟩
 have HI : Hid (l.take k ++ x :: l.drop k = insF x l) := insF_at h1 h2
 have hh := has_at hp h1 h2
 obtain ⟨t, HT⟩ := hid_ex (has x l)
 have HF : Hid (∀ e w', FdPost l x w e w' ↔ ∃ k : Nat, e = .returned (.tuple #[.int .i64 k, .bool t]) ∧ k ≤ l.length ∧ l.take k ++ x :: l.drop k = insF x l ∧ Below w.heap.size w w') := fun e w' => by unfold FdPost; rw [HT.out]
 replace h := h.later hb1
 replace hC := hC.later hb1
 replace hbel := below_on hbel hb1
 clear h1 h2 hb1 hp c1
 rw [HT.out] at hh
 by_cases hlt : k < l.length
 ·rw [dif_pos hlt] at hh
  have hlt' : (k : Int) < (l.length : Int) := by omega
  have hk0 : (0 : Int) ≤ (k : Int) := by omega
  obtain ⟨g, o, rfl, hd⟩ := h.at (by omega)
  have d := range_sub hd (k * 5) fun j u hu => rows_at Wt.len l k hlt j u hu
  obtain ⟨y, HY⟩ := hid_ex l[k]
  rw [HY.out] at d hh
  have E := fun w => eq_mark w y.p y.s y.i x.p x.s x.i
  rw [show (decide (y.p = x.p) && decide (y.s = x.s) && decide (y.i = x.i)) = t from hh.symm] at E
  have ze : (Tryz.prog.info? 64).map (·.size) = some y.cells.length := size64
  have zm : (Tryz.prog.info? 50).map (·.size) = some [Value.int .i64 x.p, .int .i64 x.s, .int .i64 x.i].length := size50
  clear hh h hd HY HT
  go_wp2_with fail
  have hs : Calm.Stays (fun w' => Cap w' (w.heap.size + 2) w.heap.size (w.heap.size + 1) (.slice (some ⟨g, o, none⟩) l.length ca') x ∧ w'.rangeAt g (o + k * 5) y.cells ∧ Below w.heap.size w w') := fun wa wb h hb => ⟨h.1.later hb, range_later h.2.1 hb, below_on h.2.2 hb⟩
  refine Calm.region (by kernel_rfl) (by kernel_rfl) (fun w' => Cap w' (w.heap.size + 2) w.heap.size (w.heap.size + 1) (.slice (some ⟨g, o, none⟩) l.length ca') x ∧ w'.rangeAt g (o + k * 5) y.cells ∧ Below w.heap.size w w') ⟨⟨hC.f, hC.l, hC.m⟩, d, hbel.drew⟩ ?_
  iterate 2 (all_goals refine Calm.sp ?_)
  all_goals refine Calm.cl (fun _ h => h.1.l) ?_
  iterate 3 (all_goals refine Calm.sp ?_)
  all_goals first | refine Calm.sk ?_ | refine Calm.cl (fun _ h => h.1.f) ?_
  all_goals first | refine Calm.sk ?_ | refine Calm.cl (fun _ h => h.1.l) ?_
  iterate 2 (all_goals refine Calm.sp ?_)
  all_goals first | refine Calm.sk ?_ | refine Calm.lm ze (fun _ h => h.2.1) Tryz.underlying64 ?_
  all_goals first | refine Calm.sk ?_ | refine Calm.kf1 hs (fun w1 h => markW_any y w1) ?_
  all_goals first | refine Calm.sk ?_ | refine Calm.lm zm (fun _ h => Rw.whole h.1.m) Tryz.underlying50 ?_
  iterate 4 (all_goals refine Calm.sp ?_)
  all_goals
   rintro w9 ⟨_, _, hbel9⟩
  go_wp2_with fail
  refine bodyPost_ret (v := .tuple #[.int .i64 k, .bool t]) (by simp [results, Tryz.results112, go_sem]) rfl ?_
  rw [HF.out]
  exact ⟨k, rfl, hk, HI.out, hbel9⟩
 ·rw [dif_neg hlt] at hh
  have hlt' : ¬ (k : Int) < (l.length : Int) := by omega
  have e := hh
  subst e
  clear HT hh
  go_wp2_with fail
  have hs : Calm.Stays (fun w' => Cap w' (w.heap.size + 2) w.heap.size (w.heap.size + 1) (.slice pa l.length ca') x ∧ Below w.heap.size w w') := fun wa wb h hb => ⟨h.1.later hb, below_on h.2 hb⟩
  refine Calm.region (by kernel_rfl) (by kernel_rfl) (fun w' => Cap w' (w.heap.size + 2) w.heap.size (w.heap.size + 1) (.slice pa l.length ca') x ∧ Below w.heap.size w w') ⟨⟨hC.f, hC.l, hC.m⟩, hbel.drew⟩ ?_
  iterate 2 (all_goals refine Calm.sp ?_)
  all_goals refine Calm.cl (fun _ h => h.1.l) ?_
  iterate 14 (all_goals refine Calm.sp ?_)
  all_goals
   rintro w9 ⟨_, hbel9⟩
  go_wp2_with fail
  refine bodyPost_ret (v := .tuple #[.int .i64 k, .bool false]) (by simp [results, Tryz.results112, go_sem]) rfl ?_
  rw [HF.out]
  exact ⟨k, rfl, hk, HI.out, hbel9⟩
theorem find_any (v : Value) (l : List Wt) (x : Wt) (w : World) (h : WHas w v l) (hl : l.length ≤ 100) (hp : l.Pairwise (fun a b => lt a b = true)) :
  Calls Tryz.prog 78 #[v, MV x.p x.s x.i] w (FdPost l x w) := by
 have hbA := bel_alloc (Below.refl w.heap.size w) (.cells #[.int .i64 x.p, .int .i64 x.s, .int .i64 x.i] 50)
 have C1 := findW_any v l x _ (h.later hbA) hl hp
 obtain ⟨p, c, rfl⟩ := h.slice
 clear h hp
 have R := rw_new w 50 #[.int .i64 x.p, .int .i64 x.s, .int .i64 x.i]
 generalize hW : w.alloc (.cells #[.int .i64 x.p, .int .i64 x.s, .int .i64 x.i] 50) = w0 at hbA C1 R
 have c0 : w0.cell? ⟨w.heap.size, 0, none⟩ = some (.int .i64 x.p) := R.cell 0
 have c1 : w0.cell? ⟨w.heap.size, 1, none⟩ = some (.int .i64 x.s) := R.cell 1
 have c2 : w0.cell? ⟨w.heap.size, 2, none⟩ = some (.int .i64 x.i) := R.cell 2
 have HH : Hid (∀ e w1, FdPost l x w0 e w1 → FdPost l x w e w1) := fun e w1 ⟨k, he, hk, hi, hb⟩ => ⟨k, he, hk, hi, below_on hbA hb⟩
 obtain ⟨t, HT⟩ := hid_ex (has x l)
 go_enter Tryz.func78, Tryz.ntmps78
 go_wp2_with (first | rw [hW])
 clear hW c0 c1 c2 R
 refine C1.mono ?_
 rintro e w1 ⟨k, rfl, hk, hi, hb1⟩
 have HG : Hid (FdPost l x w (.returned (.tuple #[.int .i64 k, .bool t])) w1) := by rw [← HT.out]; exact HH.out _ _ ⟨k, rfl, hk, hi, hb1⟩
 rw [HT.out]
 clear hk hi hb1 HH HT C1 hbA
 go_wp2_with fail
 refine bodyPost_ret (v := .tuple #[.int .i64 k, .bool t]) (by simp [results, Tryz.results78, go_sem]) rfl ?_
 exact HG.out
def InPost (B : Nat) (v : Value) (n : Nat) (xs : List Value) (w : World) (e : Ending) (w' : World) : Prop := ∃ u, e = .returned u ∧ w'.ownsRow B 64 5 u n xs ∧ Kp v.ownBlock w w' ∧ Below B w w'
theorem insert_end (B : Nat) (p : Option Addr) (n c : Nat) (xs : List Value) (vb : Nat) (x : Wt) (w : World) (hown : w.ownsRow B 64 5 (.slice p n c) n xs) (hn : n ≤ 100) (hB : B ≤ w.heap.size) (R : Rw w vb 64 x.cells.toArray) :
  Calls Tryz.prog 80 #[.slice p n c, .int .i64 n, .slice (some ⟨vb, 0, none⟩) 1 1] w (InPost B (.slice p n c) (n + 1) (xs ++ x.cells) w) := by
 obtain ⟨i0, hi, hz0, hz1, hz2⟩ := info_parts info64
 have hc1 : ∀ j u, x.cells[j]? = some u → w.cell? ((⟨vb, 0, none⟩ : Addr).add j) = some u := fun j u hu => by
  rw [Addr.add_mid]
  exact Rw.whole R j u hu
 have HC : Hid (∀ j u, x.cells[j]? = some u → w.cell? ((⟨vb, 0, none⟩ : Addr).add j) = some u) := hc1
 have hnc : (n : Int) ≤ (c : Int) := by
  rcases hown.2 with ⟨h, h0⟩ | ⟨g, cap, cur, h, _, _, h2, _⟩
  ·simp only [Value.slice.injEq] at h
   omega
  ·simp only [Value.slice.injEq] at h
   omega
 clear hc1 R
 have hm1 : n + 1 ≤ maxLen := by unfold maxLen; omega
 have hm2 : (n + 1) * 48 ≤ 140737488355328 := by omega
 have HL : Hid (∀ q, (Value.slice p n c).ownBlock = some q → B ≤ q) := fun q hq => (hown.lt q hq).1
 by_cases hcn : c = n
 all_goals
  go_enter Tryz.func80, Tryz.ntmps80
  go_wp2_with (first | (at_builtin; refine wpList_append_own _ rfl _ _ 23 rfl B 64 i0 (WV 0 0 0 0 noS) 5 48 Tryz.underlying23 hi hz0 hz1 hz2 rfl (by decide) _ _ _ rfl hown ⟨vb, 0, none⟩ 1 1 x.cells rfl rfl HC.out x.one hm1 hm2 hB ?_))
  intro v2 w2 hown2 hg2 _
  go_wp2_with fail
  go_ret
  exact ⟨_, rfl, hown2, (fun b h1 h2 => hg2.block b h1 (fun e => h2 (by rw [e]; first | done | (cases p <;> rfl)))), (Below.refl _ _).grown hg2 hB (fun q hq => HL.out q (by cases p <;> exact hq))⟩
theorem f49_extern (w : World) (vb g o lb cb k : Nat) (hne : vb ≠ g) {tA tB : TypeId} {c1 c2 : Array Value} (R : Rw w vb tA c1) (R2 : Rw w g tB c2) (hk : c2.size = k + 1) : (callFunc 117 #[.slice (some ⟨vb, 0, none⟩) 1 1, .slice (some ⟨g, o, none⟩) lb cb]).run Tryz.prog w = .ok (.value (.bool false)) w := by
 rw [run_callFunc_extern Tryz.func117 (by kernel_rfl) (by kernel_rfl) (by kernel_rfl) (e := Extern.SlicesOverlaps.overlaps #[23, 23] #[4]) (by kernel_rfl),
  Lib.run_overlaps_apart w 23 4 64 Tryz.underlying23 5 (fun w => by rfl) ⟨vb, 0, none⟩ ⟨g, o, none⟩ 1 1 lb cb hne tA tB c1.size c2.size (by unfold World.shape?; rw [show w.heap[vb]? = _ from R]) (by unfold World.shape?; rw [show w.heap[g]? = _ from R2]) (by omega) (R.frozen _) (R.frozen _)]
 rfl
def put5 (xs ys : List Value) (i : Nat) : List Value := xs.take (i * 5) ++ ys ++ xs.drop (i * 5)
theorem put5_length (xs ys : List Value) (i : Nat) : (put5 xs ys i).length = xs.length + ys.length := by
 simp [put5]
 omega
theorem shift_list (cur xs ys : List Value) (n i : Nat) (hi : i < n) (hl : xs.length = n * 5) (hy : ys.length = 5) (hc : (n + 1) * 5 ≤ cur.length) (ht : cur.take (n * 5) = xs) (c1 : List Value) (h1 : c1 = cur.take ((i + 1) * 5) ++ xs.drop (i * 5) ++ cur.drop ((i + 1) * 5 + (xs.drop (i * 5)).length)) :
  (c1.take (i * 5) ++ ys ++ c1.drop (i * 5 + ys.length)).take ((n + 1) * 5) = xs.take (i * 5) ++ ys ++ xs.drop (i * 5) := by
 have hk : (cur.take ((i + 1) * 5)).length = (i + 1) * 5 := by rw [List.length_take]; omega
 have e1 : c1.take (i * 5) = xs.take (i * 5) := by
  rw [h1, List.append_assoc, List.take_append_of_le_length (by omega), List.take_take, Nat.min_eq_left (by omega), ← ht, List.take_take, Nat.min_eq_left (by omega)]
 have e2 : c1.drop (i * 5 + ys.length) = xs.drop (i * 5) ++ cur.drop ((i + 1) * 5 + (xs.drop (i * 5)).length) := by
  rw [h1, List.append_assoc, List.drop_left' (by rw [hk, hy]; omega)]
 rw [e1, e2, ← List.append_assoc, List.take_left']
 simp only [List.length_append, List.length_take, List.length_drop, hy, hl]
 omega
theorem insert_shift (B g n c i : Nat) (xs : List Value) (vb : Nat) (x : Wt) (w : World) (hown : w.ownsRow B 64 5 (.slice (some ⟨g, 0, none⟩) n c) n xs) (hi : i < n) (hc : n + 1 ≤ c) (hn : n ≤ 100) (hvb : vb ≠ g) (h1 : ∀ u ∈ xs, u.oneCell' = true) (R : Rw w vb 64 x.cells.toArray) :
  Calls Tryz.prog 80 #[.slice (some ⟨g, 0, none⟩) n c, .int .i64 i, .slice (some ⟨vb, 0, none⟩) 1 1] w (InPost B (.slice (some ⟨g, 0, none⟩) n c) (n + 1) (put5 xs x.cells i) w) := by
 obtain ⟨hxl, ⟨h0, _⟩ | ⟨g', cap, cur, h0, hBg, hg, hnc, hcm, hcs, htake⟩⟩ := hown
 ·simp at h0
 simp only [Value.slice.injEq, Option.some.injEq, Addr.mk.injEq, and_true, true_and] at h0
 obtain ⟨rfl, rfl⟩ := h0
 have hov : ∀ lb cb, (callFunc 117 #[.slice (some ⟨vb, 0, none⟩) 1 1, .slice (some ⟨g, (i + 1) * 5, none⟩) lb cb]).run Tryz.prog w = .ok (.value (.bool false)) w := fun lb cb => f49_extern w vb g _ lb cb (cur.size - 1) hvb R hg (by omega)
 have hsrc : ∀ j v, (xs.drop (i * 5))[j]? = some v → w.drew.cell? ((⟨g, i * 5, none⟩ : Addr).add j) = some v := fun j v hv => by
  rw [Addr.add_mid]
  show w.cell? _ = _
  rw [cell_of_row w g _ cur 64 (0, 0) hg]
  rw [List.getElem?_drop] at hv
  have hlt := (List.getElem?_eq_some_iff.1 hv).1
  rw [← htake, List.getElem?_take, if_pos (by omega)] at hv
  simpa using hv
 have hcp1 : ∀ ty dc sc, (Builtin.copy_ #[23, 23] ty #[.slice (some ⟨g, (i + 1) * 5, none⟩) (n - i) dc, .slice (some ⟨g, i * 5, none⟩) (n + 1 - i) sc]).run Tryz.prog w.drew = .ok (goInt ((n - i : Nat) : Int)) (w.drew.setRow g (cur.toList.take ((i + 1) * 5) ++ xs.drop (i * 5) ++ cur.toList.drop ((i + 1) * 5 + (xs.drop (i * 5)).length)).toArray) := fun ty dc sc =>
  run_copy_rowS w.drew 23 23 ty 64 g ((i + 1) * 5) (n - i) dc ⟨g, i * 5, none⟩ (n + 1 - i) sc cur 64 (xs.drop (i * 5)) 5 (n - i) Tryz.underlying23 size64 hg (by simp only [Nat.min_def]; split <;> omega) (by rw [List.length_drop]; omega) hsrc (by rw [List.length_drop]; omega) (fun v hv => h1 v (List.mem_of_mem_drop hv))
 obtain ⟨cur1, HC1⟩ := hid_ex (cur.toList.take ((i + 1) * 5) ++ xs.drop (i * 5) ++ cur.toList.drop ((i + 1) * 5 + (xs.drop (i * 5)).length)).toArray
 have hl1 : cur1.size = cur.size := by
  rw [← HC1.out]
  simp
  omega
 rw [HC1.out] at hcp1
 have hg1 : (w.drew.setRow g cur1).heap[g]? = some (.cells cur1 64 (0, 0)) := setRow_heap w.drew g cur cur1 64 (0, 0) hg
 have hsrc2 : ∀ j v, x.cells[j]? = some v → (w.drew.setRow g cur1).cell? ((⟨vb, 0, none⟩ : Addr).add j) = some v := fun j v hv => by
  rw [Addr.add_mid, World.cell?_of_block (w := w) (setRow_other w.drew g vb cur1 hvb)]
  exact Rw.whole R j v hv
 have hcp2 : ∀ (W : World), W.heap = (w.drew.setRow g cur1).heap → ∀ ty dc, (Builtin.copy_ #[23, 23] ty #[.slice (some ⟨g, i * 5, none⟩) (n + 1 - i) dc, .slice (some ⟨vb, 0, none⟩) 1 1]).run Tryz.prog W = .ok (goInt 1) (W.setRow g (cur1.toList.take (i * 5) ++ x.cells ++ cur1.toList.drop (i * 5 + x.cells.length)).toArray) := fun W hW ty dc =>
  run_copy_rowS W 23 23 ty 64 g (i * 5) (n + 1 - i) dc ⟨vb, 0, none⟩ 1 1 cur1 64 x.cells 5 1 Tryz.underlying23 size64 (by rw [hW]; exact hg1) (by simp only [Nat.min_def]; split <;> omega) rfl (fun j v hv => by rw [World.cell?_of_block (w := w.drew.setRow g cur1) (by rw [hW])]; exact hsrc2 j v hv) (by rw [Wt.len]; omega) x.one
 have hw1 : IntKind.i64.wrap ((i : Int) + 1) = (i : Int) + 1 := by rw [IntKind.wrap_i64]; omega
 have hz2 : ¬ ((i : Int) = (n : Int)) := by omega
 have hb1 : (0 : Int) ≤ (i : Int) + 1 := by omega
 have htn : ((i : Int) + 1).toNat = i + 1 := by omega
 have hb2 : ¬ (c = i + 1) := by omega
 have hb3 : (i : Int) ≤ (n : Int) + 1 := by omega
 have hb4 : ¬ (c = i) := by omega
 have hin : i ≤ n := by omega
 have mixed : Tryz.prog.follows .mixedOrders = true := by kernel_rfl
 go_enter Tryz.func80, Tryz.ntmps80
 go_wp2_with (simp only [hov])
 go_region_law_o (refine step_copy_runI rfl _ _ 23 23 rfl _ _ (by simp [Act.eval, Act.put]) (by simp [Act.eval, Act.put]) (hcp1 _ _ _) ?_)
 go_wp2_with (at_builtin; refine wpList_copy_runI _ rfl _ _ 23 23 rfl _ _ rfl rfl (hcp2 _ rfl _ _) ?_)
 go_ret
 refine ⟨_, rfl, ⟨?_, .inr ⟨g, c, _, rfl, hBg, setRow_heap _ g cur1 _ 64 (0, 0) hg1, hc, hcm, ?_, ?_⟩⟩, Kp.row (Kp.row (fun _ _ _ => rfl) _) _, below_setRow (below_setRow (Below.refl B w).drew hBg _) hBg _⟩
 ·rw [put5_length, hxl, Wt.len]
  omega
 ·simp only [List.size_toArray, List.length_append, List.length_take, List.length_cons, List.length_drop, Array.length_toList]
  omega
 ·have := shift_list cur.toList xs x.cells n i hi hxl rfl (by rw [Array.length_toList]; omega) htake cur1.toList (by rw [← HC1.out])
  rw [List.append_assoc] at this
  exact this
theorem grow_list (xs ys z1 z2 : List Value) (n i : Nat) (hi : i < n) (hl : xs.length = n * 5) (hy : ys.length = 5) (hz : z1.length = (n + 1 - i) * 5) (r1 r2 : List Value) (h1 : r1 = (xs.take (i * 5) ++ z1 ++ z2).take (i * 5) ++ ys ++ (xs.take (i * 5) ++ z1 ++ z2).drop (i * 5 + ys.length))
  (h2 : r2 = r1.take ((i + 1) * 5) ++ xs.drop (i * 5) ++ r1.drop ((i + 1) * 5 + (xs.drop (i * 5)).length)) : r2.take ((n + 1) * 5) = xs.take (i * 5) ++ ys ++ xs.drop (i * 5) ∧ r2.length = xs.length + 5 + z2.length := by
 have hk : (xs.take (i * 5)).length = i * 5 := by rw [List.length_take]; omega
 have e1 : (xs.take (i * 5) ++ z1 ++ z2).take (i * 5) = xs.take (i * 5) := by
  rw [List.append_assoc, List.take_left' hk]
 have e2 : r1.take ((i + 1) * 5) = xs.take (i * 5) ++ ys := by
  rw [h1, e1, List.take_left' (by rw [List.length_append, hk, hy]; omega)]
 refine ⟨?_, ?_⟩
 ·rw [h2, e2, List.take_left']
  simp only [List.length_append, List.length_take, List.length_drop, hy, hl]
  omega
 ·rw [h2, e2, h1, e1]
  simp only [List.length_append, List.length_take, List.length_drop, hy, hl, hz]
  omega
theorem insert_grow (B g n c i : Nat) (xs : List Value) (vb : Nat) (x : Wt) (w : World) (hown : w.ownsRow B 64 5 (.slice (some ⟨g, 0, none⟩) n c) n xs) (hi : i < n) (hc : c < n + 1) (hn : n ≤ 100) (h1 : ∀ u ∈ xs, u.oneCell' = true) (hB : B ≤ w.heap.size) (R : Rw w vb 64 x.cells.toArray) :
  Calls Tryz.prog 80 #[.slice (some ⟨g, 0, none⟩) n c, .int .i64 i, .slice (some ⟨vb, 0, none⟩) 1 1] w (InPost B (.slice (some ⟨g, 0, none⟩) n c) (n + 1) (put5 xs x.cells i) w) := by
 obtain ⟨i0, hi0, hz0, hz1, hz2⟩ := info_parts info64
 obtain ⟨hxl, ⟨h0, _⟩ | ⟨g', cap, cur, h0, hBg, hg, hnc, hcm, hcs, htake⟩⟩ := hown
 ·simp at h0
 simp only [Value.slice.injEq, Option.some.injEq, Addr.mk.injEq, and_true, true_and] at h0
 obtain ⟨rfl, rfl⟩ := h0
 have hcell : ∀ j v, xs[j]? = some v → w.cell? ⟨g, j, none⟩ = some v := fun j v hv => by
  rw [cell_of_row w g _ cur 64 (0, 0) hg]
  have hlt := (List.getElem?_eq_some_iff.1 hv).1
  rw [← htake, List.getElem?_take, if_pos (by omega)] at hv
  simpa using hv
 have hold : (Builtin.firstCells i0.size i (.slice (some ⟨g, 0, none⟩) i c)).run Tryz.prog w.drew = .ok (xs.take (i * 5)).toArray w.drew := by
  rw [hz1]
  exact run_firstCells_some w.drew 5 i ⟨g, 0, none⟩ i c (xs.take (i * 5)) (by rw [List.length_take]; omega) (fun j v hj => by
   rw [Addr.add_mid, Nat.zero_add]
   rw [List.getElem?_take] at hj
   split at hj
   ·exact hcell j v hj
   ·cases hj)
 have hrz : ∀ ty, (Builtin.append_ #[23, 3] ty #[.slice (some ⟨g, 0, none⟩) i c, .int .i64 ((n : Int) + 1 - (i : Int))]).run Tryz.prog w =
   .ok (.slice (some ⟨w.heap.size, 0, none⟩) (n + 1) (grownCap w (n + 1) c 64)) (w.drew.alloc (.cells ((xs.take (i * 5)).toArray ++ Builtin.zeroCells (WV 0 0 0 0 noS).cells (n + 1 - i) ++ Builtin.zeroCells (WV 0 0 0 0 noS).cells (grownCap w (n + 1) c 64 - (n + 1))) 64)) := fun ty => by
  have h := Lib.run_append_grow_zeros w 23 3 ty 64 i0 _ .i64 .i64 Tryz.underlying23 Tryz.underlying3 hi0 hz0 (some ⟨g, 0, none⟩) i c (xs.take (i * 5)) hold (n + 1 - i) (by omega) (by omega) (by omega) (by omega) (by rw [hz2]; omega) (by rw [hz2, show i + (n + 1 - i) = n + 1 by omega]; exact growslice_fits hc (by omega))
  rw [show i + (n + 1 - i) = n + 1 by omega] at h
  rw [show (n : Int) + 1 - (i : Int) = ((n + 1 - i : Nat) : Int) by omega]
  exact h
 obtain ⟨G, HG⟩ := hid_ex (grownCap w (n + 1) c 64)
 have hGn : n + 1 ≤ G := by rw [← HG.out]; exact grownCap_ge w _ _ _
 have hGm : G ≤ maxLen := by rw [← HG.out]; exact grownCap_le_maxLen w (n + 1) c 64 (by unfold maxLen; omega)
 have hG63 : G ≤ 9223372036854775807 := by unfold maxLen at hGm; omega
 rw [HG.out] at hrz
 obtain ⟨z1, hz1'⟩ : ∃ z1 : List Value, z1 = (Builtin.zeroCells (WV 0 0 0 0 noS).cells (n + 1 - i)).toList := ⟨_, rfl⟩
 obtain ⟨z2, hz2'⟩ : ∃ z2 : List Value, z2 = (Builtin.zeroCells (WV 0 0 0 0 noS).cells (G - (n + 1))).toList := ⟨_, rfl⟩
 have hzl1 : z1.length = (n + 1 - i) * 5 := by rw [hz1']; simp [Builtin.zeroCells, Value.cells]
 have hzl2 : z2.length = (G - (n + 1)) * 5 := by rw [hz2']; simp [Builtin.zeroCells, Value.cells]
 obtain ⟨row, hrow⟩ : ∃ row : Array Value, row = (xs.take (i * 5)).toArray ++ Builtin.zeroCells (WV 0 0 0 0 noS).cells (n + 1 - i) ++ Builtin.zeroCells (WV 0 0 0 0 noS).cells (G - (n + 1)) := ⟨_, rfl⟩
 rw [← hrow] at hrz
 have hrl : row.toList = xs.take (i * 5) ++ z1 ++ z2 := by rw [hrow, hz1', hz2']; simp
 have hrs : row.size = G * 5 := by
  rw [← Array.length_toList, hrl]
  simp only [List.length_append, List.length_take, hzl1, hzl2]
  omega
 clear hrow hz1' hz2'
 have hgw : g < w.heap.size := (Array.getElem?_eq_some_iff.1 hg).1
 have hvw : vb < w.heap.size := R.lt
 have hsrcA : ∀ j v, x.cells[j]? = some v → (w.drew.alloc (.cells row 64)).cell? ((⟨vb, 0, none⟩ : Addr).add j) = some v := fun j v hv => by
  rw [Addr.add_mid, World.cell?_of_block (w := w) (Below.heap_alloc w.drew _ vb hvw)]
  exact Rw.whole R j v hv
 have hgN : (w.drew.alloc (.cells row 64)).heap[w.heap.size]? = some (.cells row 64 (0, 0)) := heap_alloc_last w.drew _
 have hcpA : ∀ (W : World), W.heap = (w.drew.alloc (.cells row 64)).heap → ∀ ty dc, (Builtin.copy_ #[23, 23] ty #[.slice (some ⟨w.heap.size, i * 5, none⟩) (n + 1 - i) dc, .slice (some ⟨vb, 0, none⟩) 1 1]).run Tryz.prog W = .ok (goInt 1) (W.setRow w.heap.size (row.toList.take (i * 5) ++ x.cells ++ row.toList.drop (i * 5 + x.cells.length)).toArray) := fun W hW ty dc =>
  run_copy_rowS W 23 23 ty 64 w.heap.size (i * 5) (n + 1 - i) dc ⟨vb, 0, none⟩ 1 1 row 64 x.cells 5 1 Tryz.underlying23 size64 (by rw [hW]; exact hgN) (by simp only [Nat.min_def]; split <;> omega) rfl (fun j v hv => by rw [World.cell?_of_block (w := w.drew.alloc (.cells row 64)) (by rw [hW])]; exact hsrcA j v hv) (by rw [Wt.len]; omega) x.one
 obtain ⟨r1, HR1⟩ := hid_ex (row.toList.take (i * 5) ++ x.cells ++ row.toList.drop (i * 5 + x.cells.length)).toArray
 rw [HR1.out] at hcpA
 have hr1s : r1.size = G * 5 := by
  rw [← HR1.out]
  simp only [List.size_toArray, List.length_append, List.length_take, List.length_drop, Array.length_toList, Wt.len, hrs]
  omega
 have hg1 : ((w.drew.alloc (.cells row 64)).setRow w.heap.size r1).heap[w.heap.size]? = some (.cells r1 64 (0, 0)) := setRow_heap _ _ row r1 64 (0, 0) hgN
 have hsrcB : ∀ j v, (xs.drop (i * 5))[j]? = some v → ((w.drew.alloc (.cells row 64)).setRow w.heap.size r1).cell? ((⟨g, i * 5, none⟩ : Addr).add j) = some v := fun j v hv => by
  rw [Addr.add_mid, World.cell?_of_block (w := w) ((setRow_other _ w.heap.size g r1 (by omega)).trans (Below.heap_alloc w.drew _ g hgw))]
  rw [List.getElem?_drop] at hv
  exact hcell _ v hv
 have hcpB : ∀ (W : World), W.heap = ((w.drew.alloc (.cells row 64)).setRow w.heap.size r1).heap → ∀ ty dc sc, (Builtin.copy_ #[23, 23] ty #[.slice (some ⟨w.heap.size, (i + 1) * 5, none⟩) (n - i) dc, .slice (some ⟨g, i * 5, none⟩) (n - i) sc]).run Tryz.prog W = .ok (goInt ((n - i : Nat) : Int)) (W.setRow w.heap.size (r1.toList.take ((i + 1) * 5) ++ xs.drop (i * 5) ++ r1.toList.drop ((i + 1) * 5 + (xs.drop (i * 5)).length)).toArray) := fun W hW ty dc sc =>
  run_copy_rowS W 23 23 ty 64 w.heap.size ((i + 1) * 5) (n - i) dc ⟨g, i * 5, none⟩ (n - i) sc r1 64 (xs.drop (i * 5)) 5 (n - i) Tryz.underlying23 size64 (by rw [hW]; exact hg1) (Nat.min_self _) (by rw [List.length_drop]; omega) (fun j v hv => by rw [World.cell?_of_block (w := (w.drew.alloc (.cells row 64)).setRow w.heap.size r1) (by rw [hW])]; exact hsrcB j v hv) (by rw [List.length_drop]; omega) (fun v hv => h1 v (List.mem_of_mem_drop hv))
 obtain ⟨r2, HR2⟩ := hid_ex (r1.toList.take ((i + 1) * 5) ++ xs.drop (i * 5) ++ r1.toList.drop ((i + 1) * 5 + (xs.drop (i * 5)).length)).toArray
 rw [HR2.out] at hcpB
 have hfin := grow_list xs x.cells z1 z2 n i hi hxl rfl hzl1 r1.toList r2.toList (by rw [← HR1.out, hrl]) (by rw [← HR2.out])
 have HFI : Hid (r2.toList.take ((n + 1) * 5) = put5 xs x.cells i ∧ r2.size = G * 5) := ⟨hfin.1, by rw [← Array.length_toList, hfin.2]; omega⟩
 have hg2 : (((w.drew.alloc (.cells row 64)).setRow w.heap.size r1).setRow w.heap.size r2).heap[w.heap.size]? = some (.cells r2 64 (0, 0)) := setRow_heap _ _ r1 r2 64 (0, 0) hg1
 have hw1 : IntKind.i64.wrap ((i : Int) + 1) = (i : Int) + 1 := by rw [IntKind.wrap_i64]; omega
 have hz2i : ¬ ((i : Int) = (n : Int)) := by omega
 have hz3 : (c : Int) < (n : Int) + 1 := by omega
 have hb1 : (0 : Int) ≤ (i : Int) + 1 := by omega
 have htn : ((i : Int) + 1).toNat = i + 1 := by omega
 have hb3 : (i : Int) ≤ (n : Int) := by omega
 have hci : ¬ (c = i) := by omega
 have hGi : ¬ (G = i) := by omega
 have hGim : ¬ (G = i + 1) := by omega
 have hin : i ≤ n := by omega
 have mixed : Tryz.prog.follows .mixedOrders = true := by kernel_rfl
 clear hfin hold hrl hzl1 hzl2 hcell hsrcA hsrcB HR1 HR2
 have hA := hcpA (w.alloc (.cells row 64)).drew rfl 3 (G - i)
 go_enter Tryz.func80, Tryz.ntmps80
 go_wp2_with (first
  | (at_builtin; refine Lib.wpList_append_run _ rfl _ _ _ _ rfl _ _ rfl rfl _ _ (hrz _) ?_))
 go_region_law_o (refine step_copy_runI rfl _ _ 23 23 rfl (.slice (some ⟨w.heap.size, (i + 1) * 5, none⟩) (n - i) (G - (i + 1))) (.slice (some ⟨g, i * 5, none⟩) (n - i) (c - i)) (by simp [Act.eval, Act.put]) (by simp [Act.eval, Act.put]) (hcpB (((w.alloc (.cells row 64)).drew.setRow w.heap.size r1).drew) rfl 3 (G - (i + 1)) (c - i)) ?_)
 go_wp2
 go_ret
 refine ⟨_, rfl, ⟨?_, .inr ⟨w.heap.size, G, r2, rfl, hB, hg2, hGn, hGm, HFI.out.2, HFI.out.1⟩⟩, ?_, ?_⟩
 ·rw [put5_length, hxl, Wt.len]
  omega
 ·intro b h1 h2
  refine (setRow_other _ w.heap.size b _ (by omega)).trans ?_
  refine (setRow_other _ w.heap.size b _ (by omega)).trans ?_
  exact Below.heap_alloc w _ b h1
 ·exact below_setRow (below_setRow ((Below.refl B w).alloc hB _).drew hB _).drew hB _
theorem put5_rows (l : List Wt) (x : Wt) (i : Nat) : put5 (rows Wt.cells l) x.cells i = rows Wt.cells (l.take i ++ x :: l.drop i) := by
 unfold put5
 rw [rows_append, rows_cons, rows_take Wt.len, rows_drop Wt.len, List.append_assoc]
theorem insert_any (B : Nat) (v : Value) (l : List Wt) (i : Nat) (vb : Nat) (x : Wt) (w : World) (hown : w.ownsRow B 64 5 v l.length (rows Wt.cells l)) (hi : i ≤ l.length) (hn : l.length ≤ 100) (hB : B ≤ w.heap.size) (R : Rw w vb 64 x.cells.toArray) (hvb : ∀ k, v.ownBlock = some k → vb ≠ k) :
  Calls Tryz.prog 80 #[v, .int .i64 i, .slice (some ⟨vb, 0, none⟩) 1 1] w (InPost B v (l.length + 1) (rows Wt.cells (l.take i ++ x :: l.drop i)) w) := by
 rw [← put5_rows]
 obtain ⟨p, c, rfl⟩ := own_sl hown
 rcases Nat.lt_or_ge i l.length with h | h
 ·obtain ⟨g, rfl, hg⟩ := own_some hown (by omega)
  rcases Nat.lt_or_ge c (l.length + 1) with hc | hc
  ·exact insert_grow B g _ c i _ vb x w hown h hc hn (rows_all Wt.one l) hB R
  ·exact insert_shift B g _ c i _ vb x w hown h hc hn (hvb g rfl) (rows_all Wt.one l) R
 ·obtain rfl : i = l.length := by omega
  have := insert_end B p l.length c _ vb x w hown hn hB R
  rw [show put5 (rows Wt.cells l) x.cells l.length = rows Wt.cells l ++ x.cells by unfold put5; rw [List.take_of_length_le (by rw [rows_length Wt.len]; omega), List.drop_of_length_le (by rw [rows_length Wt.len]; omega), List.append_nil]]
  exact this
theorem clear1_any (y : Wt) (bt bi : Nat) (q u : Int) (v : List Int) (t : Int) (sl : Value) (idx : Int) (w : World) (hv : v.length = 13) (B : Bxs w bt bi q u v t sl idx) :
  Calls Tryz.prog 115 #[WV y.p y.s y.i y.t y.x, .pointer (some ⟨bt, 0, none⟩), .pointer (some ⟨bi, 0, none⟩)] w (Tells (.bool (bf y.p y.s y.i q u v idx)) w) := by
 have C1 := fun w => before_any y.p y.s y.i q u v t sl idx w hv
 generalize bf y.p y.s y.i q u v idx = z at C1 ⊢
 have hbel := bel_alloc (Below.refl w.heap.size w) (.cells #[.int .i64 y.p, .int .i64 y.s, .int .i64 y.i, .int .i64 y.t, .string y.x] 64)
 have R0 := rw_new w 64 #[.int .i64 y.p, .int .i64 y.s, .int .i64 y.i, .int .i64 y.t, .string y.x]
 have R1 := B.r.later hbel
 have c1 : (w.alloc (.cells #[.int .i64 y.p, .int .i64 y.s, .int .i64 y.i, .int .i64 y.t, .string y.x] 64)).cell? ⟨bi, 0, none⟩ = some (.int .i64 idx) := (B.c.later hbel).cell 0
 generalize hW : w.alloc (.cells #[.int .i64 y.p, .int .i64 y.s, .int .i64 y.i, .int .i64 y.t, .string y.x] 64) = w0 at hbel R0 R1 c1
 have d0 := Wt.mark (x := y) (Rw.whole R0)
 have zm : (Tryz.prog.info? 50).map (·.size) = some [Value.int .i64 y.p, .int .i64 y.s, .int .i64 y.i].length := size50
 have zt := size_tx (p := q) (s := u) (t := t) (sl := sl) hv
 go_enter Tryz.func115, Tryz.ntmps115
 go_wp2_with (first | rw [hW] | refine load_m 50 _ rfl rfl _ _ rfl d0 Tryz.underlying50 rfl zm ?_ | refine load_r 34 _ rfl rfl _ rfl R1 Tryz.underlying34 rfl zt ?_)
 refine (C1 _).mono ?_
 rintro e w1 ⟨rfl, hb1⟩
 go_wp2_with fail
 go_ret
 exact ⟨rfl, below_on hbel hb1⟩
def IxPost (l : List Wt) (f : Wt → Bool) (w : World) (e : Ending) (w' : World) : Prop :=
 (e = .returned (.int .i64 (-1)) ∧ (∀ y ∈ l, f y = false) ∧ Below w.heap.size w w') ∨ ∃ k : Nat, ∃ h : k < l.length, e = .returned (.int .i64 k) ∧ f l[k] = true ∧ (∀ j (hj : j < l.length), j < k → f l[j] = false) ∧ Below w.heap.size w w'
theorem index_any (v0 : Value) (l : List Wt) (f : Wt → Bool) (bt bi : Nat) (w : World) (h : WHas w v0 l) (hl : l.length ≤ 100) (C : ∀ (y : Wt) (w' : World), Below w.heap.size w w' → Calls Tryz.prog 115 #[WV y.p y.s y.i y.t y.x, .pointer (some ⟨bt, 0, none⟩), .pointer (some ⟨bi, 0, none⟩)] w' (Tells (.bool (f y)) w')) :
  Calls Tryz.prog 141 #[v0, .func (.func 115) #[] #[.pointer (some ⟨bt, 0, none⟩), .pointer (some ⟨bi, 0, none⟩)]] w (IxPost l f w) := by
 obtain ⟨pa, ca', rfl⟩ := h.slice
 have HA : Hid (WHas w (.slice pa l.length ca') l) := h
 clear h
 go_enter Tryz.func141, Tryz.ntmps141
 go_wp2
 go_loopw [8] (fun vi wr => ∃ k : Nat, vi = .int .i64 k ∧ k ≤ l.length ∧ Hid (∀ j (hj : j < l.length), j < k → f l[j] = false) ∧ Below w.heap.size w wr) (fun vi _ => l.length - (intOf vi).toNat)
 case atStart => exact ⟨0, rfl, by omega, (show ∀ j (_ : j < l.length), j < 0 → _ from fun j _ h => by omega), Below.refl _ _⟩
 case round =>
  obtain ⟨k, rfl, hk, HV, hbel⟩ := hrel
  by_cases hlt : k < l.length
  ·have hlt' : (k : Int) < (l.length : Int) := by omega
   obtain ⟨g, o, rfl, hd0⟩ := HA.out.at (by omega)
   have d := Wt.elem (range_later hd0 hbel) k hlt
   clear hd0 HA
   obtain ⟨x, HX⟩ := hid_ex l[k]
   rw [HX.out] at d
   have z42 : (Tryz.prog.info? 64).map (·.size) = some x.cells.length := size64
   have Cx := C x _ hbel
   obtain ⟨y, HY⟩ := hid_ex (f x)
   rw [HY.out] at Cx
   have HF : Hid (f l[k] = y) := by show _ = _; rw [HX.out, HY.out]
   clear C HX HY
   go_wp2_with (refine load_m 64 _ rfl rfl _ _ rfl d Tryz.underlying64 rfl z42 ?_)
   refine Cx.mono ?_
   clear Cx
   rintro e w1 ⟨rfl, hb1⟩
   replace hbel := below_on hbel hb1
   cases y
   ·go_wp2_with fail
    go_roundw
    case rel =>
     refine ⟨k + 1, by simp, by omega, (show ∀ j (hj : j < l.length), j < k + 1 → f l[j] = false from fun j hj hjk => ?_), hbel⟩
     rcases Nat.lt_or_ge j k with h' | h'
     ·exact HV.out j hj h'
     ·obtain rfl : j = k := by omega
      exact HF.out
    case measure => simp [intOf]; omega
   ·go_wp2_with fail
    go_ret
    exact .inr ⟨k, hlt, rfl, HF.out, HV.out, hbel⟩
  ·have hlt' : ¬ (k : Int) < (l.length : Int) := by omega
   clear HA C
   go_wp2_with fail
   go_ret
   refine .inl ⟨rfl, fun y hy => ?_, hbel⟩
   obtain ⟨j, hj, rfl⟩ := List.getElem_of_mem hy
   exact HV.out j hj (by omega)
section
variable {ops : Array Oper} {rest : List Oper} {op : Oper} {a : Act} {w : World} {Q : Exit → Act → World → Prop}
theorem store_mr (hgd : op.guard = none) (t : TypeId) (x y : Operand) (ho : op.op = .store t x y) (b o : Nat) (cs' : Array Value) (hx : a.eval x = .pointer (some ⟨b, o, none⟩)) (hy : a.eval y = .agg cs') {tb : TypeId} {cs : Array Value} (hc : Rw w b tb cs) (hi : (Tryz.prog.info? t).map (·.size) = some cs'.size) (hs : o + cs'.size ≤ cs.size) (h1 : cs'.all (·.oneCell') = true)
  (h : wpList Tryz.prog ops Q rest (a.put op.dst undef) (w.setRow b (cs.toList.take o ++ cs'.toList ++ cs.toList.drop (o + cs'.size)).toArray)) : wpList Tryz.prog ops Q (op :: rest) a w :=
 wpList_plain hgd fun _ hK => by
  have h2 := run_storeCells_at Tryz.prog b o tb cs'.toList 0 cs w hc (by simpa using hs) (fun v hv => (Array.all_eq_true_iff_forall_mem.1 h1) v (by simpa using hv))
  simp only [Nat.add_zero, Array.length_toList] at h2
  generalize w.setRow b (cs.toList.take o ++ cs'.toList ++ cs.toList.drop (o + cs'.size)).toArray = w1 at h2 h
  have h3 : (storeVar t ⟨b, o, none⟩ (.agg cs')).run Tryz.prog w = .ok () w1 := by
   generalize Tryz.prog = P at hi h2 ⊢
   cases hq : P.info? t with
   | none => simp [hq] at hi
   | some i =>
    have hs : cs'.size = i.size := by simp [hq] at hi; omega
    simp [storeVar, sizeOf, typeInfo, hq, Value.cells, hs, h2]
  unfold Oper.wp execOp
  simp only [ho, hx, hy, Instr.storeAt, Instr.sureAddr, Sem.run_bind, Sem.run_pure, Result.andThen_ok, h3]
  exact hK _ _ h
theorem clear_run (hgd : op.guard = none) (d : Operand) (t : TypeId) (ho : op.op = .call { callee := .builtin .clear, args := #[d], argTypes := #[t] }) (v : Value) (hd : a.eval d = v) {v' : Value} {w' : World}
  (hr : (Builtin.clear_ #[t] op.type #[v]).run Tryz.prog w = .ok v' w') (h : wpList Tryz.prog ops Q rest (a.put op.dst v') w') : wpList Tryz.prog ops Q (op :: rest) a w :=
 wpList_plain hgd fun _ hK => by
  unfold Oper.wp execOp
  generalize a.eval = ρ at hd ⊢
  subst hd
  simp [ho, go_sem, hr]
  exact hK _ _ h
end
theorem run_clear_rowS {P : Program} (w : World) (t e ty : TypeId) (z : Value) (S : Nat) (ht : P.underlying t = some (.slice e)) (hv : ∀ w, (zeroValue e).run P w = .ok z w) (hz : z.cells.size = S) (hS : 0 < S) (h1 : ∀ u ∈ z.cells.toList, u.oneCell' = true) (g o n c : Nat) (hn : 0 < n) (tb : TypeId) (cur : Array Value) (hg : w.heap[g]? = some (.cells cur tb (0, 0))) (hfit : o + n * S ≤ cur.size) :
  (Builtin.clear_ #[t] ty #[.slice (some ⟨g, o, none⟩) n c]).run P w = .ok (.tuple #[]) (w.setRow g (cur.toList.take o ++ (Builtin.zeroCells z.cells n).toList ++ cur.toList.drop (o + n * S)).toArray) := by
 have hlen : (Builtin.zeroCells z.cells n).toList.length = n * S := by simp [Builtin.zeroCells, hz]
 have h2 := run_storeCells_at P g o tb (Builtin.zeroCells z.cells n).toList 0 cur w hg (by rw [hlen]; omega) (fun u hu => by
  obtain ⟨i, hi, rfl⟩ : ∃ i, i < n * z.cells.size ∧ z.cells[i % z.cells.size]! = u := by simpa [Builtin.zeroCells] using hu
  have hlt : i % z.cells.size < z.cells.size := Nat.mod_lt _ (by omega)
  rw [getElem!_pos z.cells _ hlt]
  exact h1 _ (by simp))
 rw [hlen] at h2
 simp only [Nat.add_zero] at h2
 obtain ⟨m, rfl⟩ : ∃ m, n = m + 1 := ⟨n - 1, by omega⟩
 simp [Builtin.clear_, run_underlying ht, hv, h2]
structure DI (l : List Wt) (f : Wt → Bool) (a j : Nat) (cr : Array Value) : Prop where
 n : a = ((l.take j).filter (fun y => !f y)).length
 t : cr.toList.take (a * 5) = rows Wt.cells ((l.take j).filter (fun y => !f y))
 r : ∀ i (h : i < l.length), j ≤ i → ∀ m u, l[i].cells[m]? = some u → cr.toList[i * 5 + m]? = some u
theorem DI.start {l : List Wt} {f : Wt → Bool} {k : Nat} {cr : Array Value} (hk : k < l.length) (hf : f l[k] = true) (hb : ∀ j (hj : j < l.length), j < k → f l[j] = false) (ht : cr.toList.take (l.length * 5) = rows Wt.cells l) : DI l f k (k + 1) cr := by
 have e : (l.take (k + 1)).filter (fun y => !f y) = l.take k := by
  rw [List.take_succ_eq_append_getElem hk, List.filter_append, List.filter_cons_of_neg (by rw [hf]; simp), List.filter_nil, List.append_nil, List.filter_eq_self]
  intro y hy
  obtain ⟨j, hj, rfl⟩ := List.getElem_of_mem hy
  rw [List.length_take] at hj
  rw [List.getElem_take, hb j (by omega) (by omega)]
  rfl
 refine ⟨?_, ?_, ?_⟩
 ·rw [e, List.length_take]
  omega
 ·rw [e, rows_take Wt.len, ← ht, List.take_take, Nat.min_eq_left (by omega)]
 ·intro i h hij m u hu
  have h1 := rows_at Wt.len l i h m u hu
  have hm := (List.getElem?_eq_some_iff.1 hu).1
  rw [Wt.len] at hm
  rw [← ht, List.getElem?_take] at h1
  split at h1
  ·exact h1
  ·cases h1
theorem DI.skip {l : List Wt} {f : Wt → Bool} {a j : Nat} {cr : Array Value} (h : DI l f a j cr) (hj : j < l.length) (hf : f l[j] = true) : DI l f a (j + 1) cr := by
 have e : (l.take (j + 1)).filter (fun y => !f y) = (l.take j).filter (fun y => !f y) := by
  rw [List.take_succ_eq_append_getElem hj, List.filter_append, List.filter_cons_of_neg (by rw [hf]; simp), List.filter_nil, List.append_nil]
 exact ⟨by rw [e]; exact h.n, by rw [e]; exact h.t, fun i hi hij => h.r i hi (by omega)⟩
theorem DI.keep {l : List Wt} {f : Wt → Bool} {a j : Nat} {cr : Array Value} (h : DI l f a j cr) (hj : j < l.length) (haj : a < j) (hs : l.length * 5 ≤ cr.size) (hf : f l[j] = false) : DI l f (a + 1) (j + 1) (cr.toList.take (a * 5) ++ l[j].cells ++ cr.toList.drop (a * 5 + 5)).toArray := by
 have e : (l.take (j + 1)).filter (fun y => !f y) = (l.take j).filter (fun y => !f y) ++ [l[j]] := by
  rw [List.take_succ_eq_append_getElem hj, List.filter_append, List.filter_cons_of_pos (by rw [hf]; rfl), List.filter_nil]
 have hl : (cr.toList.take (a * 5)).length = a * 5 := by rw [List.length_take, Array.length_toList]; omega
 refine ⟨?_, ?_, ?_⟩
 ·rw [e, List.length_append, ← h.n]
  rfl
 ·rw [e, rows_append, rows_one, List.toList_toArray, List.take_left' (by rw [List.length_append, hl, Wt.len]; omega), h.t]
 ·intro i hi hij m u hu
  have hm := (List.getElem?_eq_some_iff.1 hu).1
  rw [Wt.len] at hm
  have h1 := h.r i hi (by omega) m u hu
  rw [List.toList_toArray, List.getElem?_append_right (by rw [List.length_append, hl, Wt.len]; omega), List.length_append, hl, Wt.len, List.getElem?_drop, show a * 5 + 5 + (i * 5 + m - (a * 5 + 5)) = i * 5 + m by omega]
  exact h1
theorem DI.elem {l : List Wt} {f : Wt → Bool} {a j g : Nat} {cr : Array Value} {w : World} (h : DI l f a j cr) (hj : j < l.length) (hg : Rw w g 64 cr) : w.rangeAt g (j * 5) l[j].cells := fun m u hu => by
 rw [hg.cell]
 have := h.r j hj (Nat.le_refl _) m u hu
 simpa using this
theorem zero64 : ∀ w, (zeroValue 64).run Tryz.prog w = .ok (WV 0 0 0 0 noS) w := Tryz.zeroValue64
def DlPost (B : Nat) (v0 : Value) (l : List Wt) (w : World) (e : Ending) (w' : World) : Prop := ∃ u, e = .returned u ∧ w'.ownsRow B 64 5 u l.length (rows Wt.cells l) ∧ Kp v0.ownBlock w w' ∧ (u.ownBlock = none ∨ u.ownBlock = v0.ownBlock) ∧ Below B w w'
theorem delete_any (B : Nat) (v0 : Value) (l : List Wt) (bt bi : Nat) (q u : Int) (v : List Int) (t : Int) (sl : Value) (idx : Int) (w : World) (hv : v.length = 13) (hown : w.ownsRow B 64 5 v0 l.length (rows Wt.cells l)) (hl : l.length ≤ 100) (hbt : bt < B) (hbi : bi < B) (hBw : B ≤ w.heap.size) (hX : Bxs w bt bi q u v t sl idx) :
  Calls Tryz.prog 114 #[v0, .func (.func 115) #[] #[.pointer (some ⟨bt, 0, none⟩), .pointer (some ⟨bi, 0, none⟩)]] w (DlPost B v0 (l.filter (fun y => !bf y.p y.s y.i q u v idx)) w) := by
 obtain ⟨f, hf⟩ : ∃ f : Wt → Bool, f = fun y => bf y.p y.s y.i q u v idx := ⟨_, rfl⟩
 have C : ∀ (y : Wt) (w' : World), Bxs w' bt bi q u v t sl idx → Calls Tryz.prog 115 #[WV y.p y.s y.i y.t y.x, .pointer (some ⟨bt, 0, none⟩), .pointer (some ⟨bi, 0, none⟩)] w' (Tells (.bool (f y)) w') := fun y w' h => by rw [hf]; exact clear1_any y bt bi q u v t sl idx w' hv h
 rw [show (fun y : Wt => !bf y.p y.s y.i q u v idx) = fun y => !f y by rw [hf]]
 clear hf
 obtain ⟨p, c, rfl⟩ := own_sl hown
 have CI := index_any _ l f bt bi w (own_sh hown) hl (fun y w' hb => C y w' (hX.later hb))
 have HX : Hid (Bxs w bt bi q u v t sl idx) := hX
 have HO : Hid (w.ownsRow B 64 5 (.slice p l.length c) l.length (rows Wt.cells l)) := hown
 clear hown hX
 go_enter Tryz.func114, Tryz.ntmps114
 go_wp2_with fail
 refine CI.mono ?_
 clear CI
 rintro e w1 (⟨rfl, hall, hb1⟩ | ⟨k, hk, rfl, hfk, hbf, hb1⟩)
 ·have HE : Hid (l.filter (fun y => !f y) = l) := by
   show _ = _
   rw [List.filter_eq_self]
   intro y hy
   rw [hall y hy]
   rfl
  clear hall C
  go_wp2_with fail
  go_ret
  refine ⟨_, rfl, ?_, fun b h _ => hb1.block b h, .inr rfl, hb1.mono hBw⟩
  rw [HE.out]
  exact own_later HO.out hb1
 ·obtain ⟨g, rfl, hg⟩ := own_some HO.out (by omega)
  have ho := own_later HO.out hb1
  obtain ⟨hxl, ⟨h0, _⟩ | ⟨g', cap, cur, h0, hBg, hgc, hnc, hcm, hcs, htake⟩⟩ := ho
  ·simp at h0
  simp only [Value.slice.injEq, Option.some.injEq, Addr.mk.injEq, and_true, true_and] at h0
  obtain ⟨rfl, rfl⟩ := h0
  have HD : Hid (DI l f k (k + 1) cur) := DI.start hk hfk hbf htake
  have HB : Hid (Bxs w1 bt bi q u v t sl idx) := HX.out.later hb1
  have HR : Hid (Rw w1 g 64 cur) := hgc
  have hbel := hb1.mono hBw
  have HK : Hid (Kp (some g) w w1) := fun b h _ => hb1.block b h
  have hsw : w.heap.size ≤ w1.heap.size := hb1.size
  clear HX HO hfk hbf htake hxl hgc hb1
  have hkb : ((k : Int) == -1) = false := by
   rw [beq_eq_false_iff_ne]
   omega
  go_wp2_with fail
  go_loopw [5, 6] (fun vi vj wr => ∃ a j : Nat, ∃ cr : Array Value, vi = .int .i64 a ∧ vj = .int .i64 j ∧ j ≤ l.length ∧ a < j ∧ Hid (DI l f a j cr) ∧ cr.size = c * 5 ∧ Hid (Rw wr g 64 cr) ∧ Hid (Bxs wr bt bi q u v t sl idx) ∧ Hid (Kp (some g) w wr) ∧ w.heap.size ≤ wr.heap.size ∧ Below B w wr) (fun _ vj _ => l.length - (intOf vj).toNat)
  case atStart => exact ⟨k, k + 1, cur, rfl, by simp, by omega, by omega, HD, hcs, HR, HB, HK, hsw, hbel⟩
  case round =>
   clear HD hcs HR HB HK hsw hbel
   obtain ⟨a, j, cr, rfl, rfl, hj, haj, HD, hcs, HR, HB, HK, hsw, hbel⟩ := hrel
   by_cases hlt : j < l.length
   ·have hlt' : (j : Int) < (l.length : Int) := by omega
    have hgl := HR.out.lt
    have d := DI.elem HD.out hlt HR.out
    obtain ⟨x, HXX⟩ := hid_ex l[j]
    rw [HXX.out] at d
    have z42 : (Tryz.prog.info? 64).map (·.size) = some x.cells.length := size64
    have hbA := bel_alloc (Below.refl wr.heap.size wr) (.cells #[.int .i64 x.p, .int .i64 x.s, .int .i64 x.i, .int .i64 x.t, .string x.x] 64)
    have R := rw_new wr 64 #[.int .i64 x.p, .int .i64 x.s, .int .i64 x.i, .int .i64 x.t, .string x.x]
    have Cx := C x _ (HB.out.later hbA)
    obtain ⟨y, HY⟩ := hid_ex (f x)
    rw [HY.out] at Cx
    have HF : Hid (f l[j] = y) := by show _ = _; rw [HXX.out, HY.out]
    clear C HY
    have hBr := Nat.le_trans hBw hbel.size
    go_wp2_with (refine load_m 64 _ rfl rfl _ _ rfl d Tryz.underlying64 rfl z42 ?_)
    refine Cx.mono ?_
    clear Cx d
    rintro e w2 ⟨rfl, hb2⟩
    have hbC := below_on hbA hb2
    replace R := R.later hb2
    replace HR : Hid (Rw w2 g 64 cr) := HR.out.later hbC
    replace HB : Hid (Bxs w2 bt bi q u v t sl idx) := HB.out.later hbC
    replace hbel := hbel.trans (hbC.mono hBr)
    replace HK : Hid (Kp (some g) w w2) := HK.out.on hsw hbC
    replace hsw := Nat.le_trans hsw hbC.size
    clear hbA hb2 hbC
    cases y
    ·have HD2 : Hid (DI l f (a + 1) (j + 1) (cr.toList.take (a * 5) ++ x.cells ++ cr.toList.drop (a * 5 + 5)).toArray) := by
      have := DI.keep HD.out hlt haj (by omega) HF.out
      rw [HXX.out] at this
      exact this
     have hal' : (a : Int) < (l.length : Int) := by omega
     have ha0 : (0 : Int) ≤ (a : Int) := by omega
     have RR := HR.out
     clear HXX HF
     go_wp2_with (first | refine load_r 64 _ rfl rfl _ rfl R Tryz.underlying64 rfl size64 ?_ | refine store_mr rfl 64 _ _ rfl _ _ #[.int .i64 x.p, .int .i64 x.s, .int .i64 x.i, .int .i64 x.t, .string x.x] rfl rfl RR size64 ?hfit (by simp [Value.oneCell']) ?_)
     case hfit => simp; omega
     go_roundw
     case rel =>
      refine ⟨a + 1, j + 1, _, by simp, by simp, by omega, by omega, ?_, ?_, RR.row _, HB.out.row (by omega) (by omega) _, HK.out.row _, (by simpa [World.setRow] using hsw), below_setRow hbel hBg _⟩
      ·have := HD2.out
       simp only [List.append_assoc, List.cons_append, List.nil_append] at this
       exact this
      ·simp
       omega
     case measure => simp [intOf]; omega
    ·have HD2 : Hid (DI l f a (j + 1) cr) := DI.skip HD.out hlt HF.out
     clear HF HXX R
     go_wp2_with fail
     go_roundw
     case rel => exact ⟨a, j + 1, cr, rfl, by simp, by omega, by omega, HD2, hcs, HR, HB, HK, hsw, hbel⟩
     case measure => simp [intOf]; omega
   ·obtain rfl : j = l.length := by omega
    have hlt' : ¬ (l.length : Int) < (l.length : Int) := by omega
    have hal' : (a : Int) < (l.length : Int) := by omega
    have hale : (a : Int) ≤ (l.length : Int) := by omega
    have hca : ¬ (c = a) := by omega
    have hac : (a : Int) ≤ (c : Int) := by omega
    have han : a ≤ l.length := by omega
    have ha0 : (0 : Int) ≤ (a : Int) := by omega
    have RR := HR.out
    have hcl : ∀ ty cc, (Builtin.clear_ #[23] ty #[.slice (some ⟨g, a * 5, none⟩) (l.length - a) cc]).run Tryz.prog wr = .ok (.tuple #[]) (wr.setRow g (cr.toList.take (a * 5) ++ (Builtin.zeroCells (WV 0 0 0 0 noS).cells (l.length - a)).toList ++ cr.toList.drop (a * 5 + (l.length - a) * 5)).toArray) := fun ty cc => run_clear_rowS wr 23 64 ty _ 5 Tryz.underlying23 zero64 rfl (by decide) (by intro u hu; simp [Value.cells] at hu; rcases hu with rfl | rfl <;> rfl) g (a * 5) _ cc (by omega) 64 cr RR (by omega)
    obtain ⟨cr2, HC2⟩ := hid_ex (cr.toList.take (a * 5) ++ (Builtin.zeroCells (WV 0 0 0 0 noS).cells (l.length - a)).toList ++ cr.toList.drop (a * 5 + (l.length - a) * 5)).toArray
    rw [HC2.out] at hcl
    have hs2 : cr2.size = c * 5 := by
     rw [← HC2.out]
     simp [Builtin.zeroCells, Value.cells]
     omega
    have ht2 : cr2.toList.take (a * 5) = rows Wt.cells (l.filter (fun y => !f y)) := by
     have := HD.out.t
     rw [List.take_length] at this
     rw [← HC2.out, ← this, List.toList_toArray, List.append_assoc, List.take_left' (by rw [List.length_take, Array.length_toList]; omega)]
    have hn2 : a = (l.filter (fun y => !f y)).length := by
     have := HD.out.n
     rwa [List.take_length] at this
    have HP : Hid (a = (l.filter (fun y => !f y)).length ∧ cr2.toList.take (a * 5) = rows Wt.cells (l.filter (fun y => !f y))) := ⟨hn2, ht2⟩
    clear ht2 hn2 HC2 C HD HB HR
    go_wp2_with (first | (at_builtin; refine clear_run rfl _ 23 rfl _ rfl (hcl _ _) ?_))
    go_ret
    refine ⟨_, rfl, ?_, HK.out.row _, .inr rfl, below_setRow hbel hBg _⟩
    obtain ⟨h1, h2⟩ := HP.out
    rw [← h1, ← h2]
    refine ⟨?_, .inr ⟨g, c, cr2, rfl, hBg, RR.row cr2, by omega, hcm, hs2, rfl⟩⟩
    rw [List.length_take, Array.length_toList]
    omega
end Go.Proofs.YtjbbmcommnhgeaaGreat.Rg
