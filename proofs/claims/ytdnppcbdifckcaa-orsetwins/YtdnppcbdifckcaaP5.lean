import Derived.Test.YtdnppcbdifckcaaP3
import Derived.Test.YtdnppcbdifckcaaP4
import Derived.Test.YtdnppcbdifckcaaP2
/- The order of marks, marks in order, and one put in. Nothing of the program. -/
namespace Go.Proofs.Ytdnppcbdifckcaa
open Go.RowKit

/-- May it be a mark's index? -/
def im (i : Int) : Bool := decide (1 ≤ i)
/-- One ahead of another one. -/
def lt (x y : M) : Bool := ls x.p x.s x.i y.p y.s y.i
/-- The k-th may stand there. -/
def okk (l : List M) (k : Nat) (h : k < l.length) : Bool := im l[k].i && (decide (k = 0) || lt (l[k - 1]'(by omega)) l[k])
def ca (l : List M) : Bool := decide (∀ k (h : k < l.length), okk l k h = true)
theorem ca_iff (l : List M) : ca l = true ↔ ∀ k (h : k < l.length), okk l k h = true := by simp [ca]
theorem ca_not {l : List M} {z : Bool} (HZ : Hid (ca l = z)) {k : Nat} (h : k < l.length) (h' : okk l k h = false) : Hid (z = false) := by
  show z = false
  have hz := HZ.out
  cases z
  · rfl
  · rw [(ca_iff l).1 hz k h] at h'
    cases h'
theorem M.len (x : M) : x.cells.length = 3 := rfl
/-- The k-th of a slice of marks. -/
theorem M.elem {w : World} {l : List M} {g o : Nat} (h : w.rangeAt g o (rows M.cells l)) (k : Nat) (hk : k < l.length) : w.rangeAt g (o + k * 3) l[k].cells :=
  range_sub h (k * 3) fun j u hu => rows_at M.len l k hk j u hu
theorem Rw.whole {w : World} {b : Nat} {t : TypeId} {cs : List Value} (h : Rw w b t cs.toArray) : w.rangeAt b 0 cs := h.range 0 cs fun j v hv => by simpa using hv
theorem lt_iff (x y : M) : lt x y = true ↔ x.p < y.p ∨ (x.p = y.p ∧ (x.s < y.s ∨ (x.s = y.s ∧ x.i < y.i))) := by simp [lt, ls]
theorem lt_trans {x y z : M} (h : lt x y = true) (k : lt y z = true) : lt x z = true := by
  rw [lt_iff] at *
  omega
theorem lt_irr (x : M) : lt x x = false := by
  cases h : lt x x
  · rfl
  · rw [lt_iff] at h
    omega
theorem lt_asymm {x y : M} (h : lt x y = true) : lt y x = false := by
  cases k : lt y x
  · rfl
  · have := lt_trans h k
    rw [lt_irr] at this
    cases this
/-- One mark. -/
def mk (x y : M) : Bool := decide (x.p = y.p) && decide (x.s = y.s) && decide (x.i = y.i)
theorem mk_iff (x y : M) : mk x y = true ↔ x.p = y.p ∧ x.s = y.s ∧ x.i = y.i := by simp [mk, and_assoc]
theorem lt_total {x y : M} (h : lt x y = false) (k : mk x y = false) : lt y x = true := by
  rw [lt_iff]
  have h1 : ¬ _ := fun e => by rw [(lt_iff x y).2 e] at h; cases h
  have h2 : ¬ _ := fun e => by rw [(mk_iff x y).2 e] at k; cases k
  omega
theorem mk_lt {x y : M} (h : mk x y = true) : lt x y = false := by
  cases k : lt x y
  · rfl
  · rw [mk_iff] at h
    rw [lt_iff] at k
    omega
theorem lt_of_not {x y z : M} (h : lt x z = true) (k : lt y z = false) : lt x y = true := by
  have k1 : ¬ _ := fun e => by rw [(lt_iff y z).2 e] at k; cases k
  rw [lt_iff] at *
  omega
/-- Marks that rise, and that may be. -/
theorem ca_pair (l : List M) : ca l = true ↔ (∀ y ∈ l, im y.i = true) ∧ l.Pairwise (fun a b => lt a b = true) := by
  rw [ca_iff]
  constructor
  · intro h
    refine ⟨fun y hy => ?_, ?_⟩
    · obtain ⟨k, hk, rfl⟩ := List.getElem_of_mem hy
      have := h k hk
      unfold okk at this
      exact (Bool.and_eq_true _ _ ▸ this).1
    · rw [List.pairwise_iff_getElem]
      intro i j hi hj hij
      obtain ⟨d, rfl⟩ : ∃ d, j = i + 1 + d := ⟨j - (i + 1), by omega⟩
      clear hij
      have step : ∀ k (hk : k + 1 < l.length), lt l[k] l[k + 1] = true := fun k hk => by
        have := h (k + 1) hk
        unfold okk at this
        simpa using (Bool.and_eq_true _ _ ▸ this).2
      induction d with
      | zero => exact step i hj
      | succ d ih => exact lt_trans (ih (by omega) step) (step (i + 1 + d) (by omega))
  · rintro ⟨h1, h2⟩ k hk
    unfold okk
    rw [h1 _ (List.getElem_mem _), Bool.true_and]
    rcases Nat.eq_zero_or_pos k with rfl | hp
    · rfl
    · rw [List.pairwise_iff_getElem] at h2
      simp [h2 (k - 1) k (by omega) hk (by omega)]
theorem ca_filter {l : List M} (h : ca l = true) (f : M → Bool) : ca (l.filter f) = true := by
  rw [ca_pair] at *
  exact ⟨fun y hy => h.1 y (List.mem_filter.1 hy).1, h.2.filter f⟩
/-- Put in where it belongs. -/
def insF (x : M) (l : List M) : List M := l.filter (fun y => lt y x) ++ x :: l.filter (fun y => !lt y x)
def has (x : M) (l : List M) : Bool := l.any (fun y => mk y x)
theorem has_false {x : M} {l : List M} : has x l = false ↔ ∀ y ∈ l, mk y x = false := by
  unfold has
  rw [List.any_eq_false]
  exact ⟨fun h y hy => by simpa using h y hy, fun h y hy => by simpa using h y hy⟩
theorem insF_length (x : M) (l : List M) : (insF x l).length = l.length + 1 := by
  unfold insF
  rw [List.length_append, List.length_cons]
  induction l with
  | nil => rfl
  | cons y l ih =>
    rw [List.filter_cons, List.filter_cons]
    cases lt y x
    · simp
      omega
    · simp
      omega
theorem insF_ca {x : M} {l : List M} (h : ca l = true) (hi : im x.i = true) (hn : has x l = false) : ca (insF x l) = true := by
  rw [has_false] at hn
  rw [ca_pair] at *
  obtain ⟨h1, h2⟩ := h
  refine ⟨fun y hy => ?_, ?_⟩
  · unfold insF at hy
    rcases List.mem_append.1 hy with h | h
    · exact h1 y (List.mem_filter.1 h).1
    · rcases List.mem_cons.1 h with rfl | h
      · exact hi
      · exact h1 y (List.mem_filter.1 h).1
  · unfold insF
    rw [List.pairwise_append]
    refine ⟨h2.filter _, ?_, ?_⟩
    · rw [List.pairwise_cons]
      refine ⟨fun y hy => ?_, h2.filter _⟩
      obtain ⟨hy1, hy2⟩ := List.mem_filter.1 hy
      exact lt_total (by simpa using hy2) (hn y hy1)
    · intro y hy z hz
      obtain ⟨hy1, hy2⟩ := List.mem_filter.1 hy
      rcases List.mem_cons.1 hz with rfl | hz
      · exact hy2
      · obtain ⟨hz1, hz2⟩ := List.mem_filter.1 hz
        exact lt_of_not hy2 (by simpa using hz2)
/-- The order of two is nothing. -/
theorem insF_lt {x y : M} (h : lt x y = true) (l : List M) : insF y (insF x l) = l.filter (fun a => lt a x) ++ x :: (l.filter (fun a => lt a y && !lt a x) ++ y :: l.filter (fun a => !lt a y)) ∧ insF x (insF y l) = l.filter (fun a => lt a x) ++ x :: (l.filter (fun a => lt a y && !lt a x) ++ y :: l.filter (fun a => !lt a y)) := by
  have h1 : ∀ a, lt a x = true → lt a y = true := fun a k => lt_trans k h
  have h2 : lt y x = false := lt_asymm h
  have e1 : (fun a => lt a y && lt a x) = fun a => lt a x := funext fun a => by
    cases k : lt a x
    · simp
    · simp [h1 a k]
  have e2 : (fun a => lt a x && lt a y) = fun a => lt a x := funext fun a => by
    cases k : lt a x
    · simp
    · simp [h1 a k]
  have e3 : (fun a => !lt a y && lt a x) = fun _ => false := funext fun a => by
    cases k : lt a x
    · simp
    · simp [h1 a k]
  have e4 : (fun a => lt a x && !lt a y) = fun _ => false := funext fun a => by
    cases k : lt a x
    · simp
    · simp [h1 a k]
  have e5 : (fun a => !lt a y && !lt a x) = fun a => !lt a y := funext fun a => by
    cases k : lt a x
    · simp
    · simp [h1 a k]
  have e6 : (fun a => !lt a x && !lt a y) = fun a => !lt a y := funext fun a => by
    cases k : lt a x
    · simp
    · simp [h1 a k]
  have e7 : (fun a => !lt a x && lt a y) = fun a => lt a y && !lt a x := funext fun a => Bool.and_comm _ _
  constructor
  · unfold insF
    simp only [List.filter_append, List.filter_cons, List.filter_filter, h, e1, e3, e5]
    simp
  · unfold insF
    simp only [List.filter_append, List.filter_cons, List.filter_filter, h2, e2, e4, e6, e7]
    simp
theorem insF_comm {x y : M} (h : mk x y = false) (l : List M) : insF x (insF y l) = insF y (insF x l) := by
  cases k : lt x y
  · have k2 := lt_total k h
    rw [(insF_lt k2 l).1, (insF_lt k2 l).2]
  · rw [(insF_lt k l).1, (insF_lt k l).2]
theorem has_insF {x y : M} (h : mk x y = false) (l : List M) : has y (insF x l) = has y l := by
  unfold has insF
  rw [List.any_append, List.any_cons, h, Bool.false_or]
  induction l with
  | nil => rfl
  | cons a l ih =>
    rw [List.filter_cons, List.filter_cons, List.any_cons, ← ih]
    cases lt a x
    · simp
      cases mk a y <;> simp
    · simp [Bool.or_assoc]
/-- Where it belongs, by its place. -/
theorem insF_at {x : M} {l : List M} {k : Nat} (h1 : ∀ j (h : j < l.length), j < k → lt l[j] x = true) (h2 : ∀ j (h : j < l.length), k ≤ j → lt l[j] x = false) : l.take k ++ x :: l.drop k = insF x l := by
  have e1 : l.filter (fun y => lt y x) = l.take k := by
    conv => lhs; rw [← List.take_append_drop k l]
    rw [List.filter_append, List.filter_eq_self.2, List.filter_eq_nil_iff.2, List.append_nil]
    · intro y hy
      obtain ⟨j, hj, rfl⟩ := List.getElem_of_mem hy
      rw [List.getElem_drop, h2 _ _ (by omega)]
      simp
    · intro y hy
      obtain ⟨j, hj, rfl⟩ := List.getElem_of_mem hy
      rw [List.length_take] at hj
      rw [List.getElem_take]
      exact h1 _ _ (by omega)
  have e2 : l.filter (fun y => !lt y x) = l.drop k := by
    conv => lhs; rw [← List.take_append_drop k l]
    rw [List.filter_append, List.filter_eq_nil_iff.2, List.filter_eq_self.2, List.nil_append]
    · intro y hy
      obtain ⟨j, hj, rfl⟩ := List.getElem_of_mem hy
      rw [List.getElem_drop, h2 _ _ (by omega)]
      rfl
    · intro y hy
      obtain ⟨j, hj, rfl⟩ := List.getElem_of_mem hy
      rw [List.length_take] at hj
      rw [List.getElem_take, h1 _ _ (by omega)]
      simp
  unfold insF
  rw [e1, e2]
end Go.Proofs.Ytdnppcbdifckcaa
/- checkMarks of package orset. -/
namespace Go.Proofs.Ytdnppcbdifckcaa
open Go.RowKit

theorem Calm.loadM {ops : Array Oper} {S : World → Prop} {K : Act → Prop} {o : Oper} {l : List Oper} {a : Act} {b f : Nat} {cs : List Value} (t : TypeId) {d : TypeDesc} (hu : Try.prog.underlying t = some d) (hd : d.isRow = true) (hi : (Try.prog.info? t).map (·.size) = some cs.length) (hw : Region.wanted o (yielded ops a.tmps) = true) (x : Operand) (ho : o.op = .load t x)
    (hx : a.eval x = .pointer (some ⟨b, f, none⟩)) (hS : ∀ w, S w → w.rangeAt b f cs) (h : Calm.calmList Try.prog ops S K l (a.put o.dst (.agg cs.toArray))) : Calm.calmList Try.prog ops S K (o :: l) a :=
  Calm.pure hw (fun w hw' => by
    have h2 := run_loadVar_mid (P := Try.prog) w b f t cs d (hS w hw') hu hd hi
    unfold execOp
    simp only [ho, hx, Instr.loadAt, Instr.sureAddr, Sem.run_bind, Sem.run_pure, h2, Result.andThen_ok]) h
set_option maxHeartbeats 2000000 in
set_option maxRecDepth 100000 in
theorem checkMarks_any (v : Value) (l : List M) (w : World) (h : MHas w v l) : Calls Try.prog 63 #[v] w (Tells (.bool (ca l)) w) := by
  obtain ⟨z, HZ⟩ := hid_ex (ca l)
  rw [HZ.out]
  have hml := maxLen_lt h.1
  obtain ⟨p, c, rfl⟩ := h.slice
  have HR : Hid (MHas w (.slice p l.length c) l) := h
  clear h
  go_enter Try.func63, Try.ntmps63
  go_wp2
  go_loopw [7] (fun vi wr => ∃ k : Nat, vi = .int .i64 k ∧ k ≤ l.length ∧ Hid (∀ i (h : i < l.length), i < k → okk l i h = true) ∧ Below w.heap.size w wr) (fun vi _ => l.length - (intOf vi).toNat)
  case atStart => exact ⟨0, rfl, by omega, (show ∀ i (_ : i < l.length), i < 0 → _ from fun i _ h => by omega), Below.refl _ _⟩
  case round =>
    obtain ⟨k, rfl, hk, HV, hbel⟩ := hrel
    by_cases hlt : k < l.length
    · have hlt' : (k : Int) < (l.length : Int) := by omega
      obtain ⟨g, o, rfl, hd0⟩ := HR.out.at (by omega)
      have hd := range_later hd0 hbel
      clear hd0 HR
      have d := M.elem hd k hlt
      obtain ⟨x, HX⟩ := hid_ex l[k]
      rw [HX.out] at d
      have zm : (Try.prog.info? 44).map (·.size) = some x.cells.length := size44
      have R := rw_new wr 44 #[.int .i64 x.p, .int .i64 x.s, .int .i64 x.i]
      replace hbel := bel_alloc hbel (.cells #[.int .i64 x.p, .int .i64 x.s, .int .i64 x.i] 44)
      have hxi : (decide (x.i < 1)) = !im x.i := by unfold im; by_cases h : x.i < 1 <;> simp [h] <;> omega
      obtain ⟨y1, HY1⟩ := hid_ex (im x.i)
      rw [HY1.out] at hxi
      cases y1
      · have HF := ca_not HZ hlt (show okk l k hlt = false by unfold okk; rw [HX.out, HY1.out]; rfl)
        have e := HF.out
        subst e
        have hxd : decide (x.i < 1) = true := by simpa using hxi
        clear HZ HF HV hxi
        go_wp2_with (refine load_m 44 _ rfl rfl _ _ rfl d Try.underlying44 rfl zm ?_)
        clear hd d
        have hs : Calm.Stays (fun w' => Rw w' wr.heap.size 44 #[.int .i64 x.p, .int .i64 x.s, .int .i64 x.i] ∧ Below w.heap.size w w') := fun wa wb h hb => ⟨h.1.later hb, below_on h.2 hb⟩
        refine Calm.region (by kernel_rfl) (by kernel_rfl) (fun w' => Rw w' wr.heap.size 44 #[.int .i64 x.p, .int .i64 x.s, .int .i64 x.i] ∧ Below w.heap.size w w') ⟨R, hbel.drew⟩ ?_
        all_goals
          refine Calm.pure (v := ?_) (by rfl) ?_ ?_
          rotate_left
          focus (intro w hSw; go_simp <;> rfl)
          simp only [Act.put, List.setIfInBounds_toArray, List.set_cons_zero, List.set_cons_succ]
        all_goals
          refine Calm.pure (v := .int .i64 x.i) (by rfl) ?_ ?_
          focus (intro w hSw; have g1 : w.cell? ⟨wr.heap.size, 2, none⟩ = some (.int .i64 x.i) := hSw.1.cell 2; go_simp)
          simp only [Act.put, List.setIfInBounds_toArray, List.set_cons_zero, List.set_cons_succ]
        all_goals
          refine Calm.pure (v := ?_) (by rfl) ?_ ?_
          rotate_left
          focus (intro w hSw; go_simp <;> rfl)
          simp only [Act.put, List.setIfInBounds_toArray, List.set_cons_zero, List.set_cons_succ]
        all_goals
          refine Calm.pure (v := ?_) (by rfl) ?_ ?_
          rotate_left
          focus (intro w hSw; go_simp <;> rfl)
          simp only [Act.put, List.setIfInBounds_toArray, List.set_cons_zero, List.set_cons_succ]
        all_goals
          first
            | (refine Calm.skip ?_ ?_; focus rfl)
            | (refine Calm.pure (v := ?_) (by rfl) ?_ ?_
               rotate_left
               focus (intro w hSw; go_simp <;> rfl))
          simp only [Act.put, List.setIfInBounds_toArray, List.set_cons_zero, List.set_cons_succ]
        all_goals
          first
            | (refine Calm.skip ?_ ?_; focus rfl)
            | (refine Calm.pure (v := ?_) (by rfl) ?_ ?_
               rotate_left
               focus (intro w hSw; go_simp <;> rfl))
          simp only [Act.put, List.setIfInBounds_toArray, List.set_cons_zero, List.set_cons_succ]
        all_goals
          first
            | (refine Calm.skip ?_ ?_; focus rfl)
            | (refine Calm.pure (v := ?_) (by rfl) ?_ ?_
               rotate_left
               focus (intro w hSw; go_simp <;> rfl))
          simp only [Act.put, List.setIfInBounds_toArray, List.set_cons_zero, List.set_cons_succ]
        all_goals
          first
            | (refine Calm.skip ?_ ?_; focus rfl)
            | (refine Calm.pure (v := ?_) (by rfl) ?_ ?_
               rotate_left
               focus (intro w hSw; go_simp <;> rfl))
          simp only [Act.put, List.setIfInBounds_toArray, List.set_cons_zero, List.set_cons_succ]
        all_goals
          first
            | (refine Calm.skip ?_ ?_; focus rfl)
            | (refine Calm.pure (v := ?_) (by rfl) ?_ ?_
               rotate_left
               focus (intro w hSw; go_simp <;> rfl))
          simp only [Act.put, List.setIfInBounds_toArray, List.set_cons_zero, List.set_cons_succ]
        all_goals
          first
            | (refine Calm.skip ?_ ?_; focus rfl)
            | (refine Calm.pure (v := ?_) (by rfl) ?_ ?_
               rotate_left
               focus (intro w hSw; go_simp <;> rfl))
          simp only [Act.put, List.setIfInBounds_toArray, List.set_cons_zero, List.set_cons_succ]
        all_goals
          first
            | (refine Calm.skip ?_ ?_; focus rfl)
            | (refine Calm.pure (v := ?_) (by rfl) ?_ ?_
               rotate_left
               focus (intro w hSw; go_simp <;> rfl))
          simp only [Act.put, List.setIfInBounds_toArray, List.set_cons_zero, List.set_cons_succ]
        all_goals
          first
            | (refine Calm.skip ?_ ?_; focus rfl)
            | (refine Calm.loadM 44 Try.underlying44 rfl zm (by rfl) _ rfl rfl (fun _ h => Rw.whole h.1) ?_)
          simp only [Act.put, List.setIfInBounds_toArray, List.set_cons_zero, List.set_cons_succ]
        all_goals
          first
            | (refine Calm.skip ?_ ?_; focus rfl)
            | (refine Calm.loadM 44 Try.underlying44 rfl zm (by rfl) _ rfl rfl (fun _ h => Rw.whole h.1) ?_)
          simp only [Act.put, List.setIfInBounds_toArray, List.set_cons_zero, List.set_cons_succ]
        all_goals
          first
            | (refine Calm.skip ?_ ?_; focus rfl)
            | (refine Calm.call2s (by rfl) rfl rfl rfl (by kernel_rfl) hs (fun w1 h => less_any 0 0 0 0 0 0 w1) ?_)
          simp only [Act.put, List.setIfInBounds_toArray, List.set_cons_zero, List.set_cons_succ]
        all_goals
          first
            | (refine Calm.skip ?_ ?_; focus rfl)
            | (refine Calm.pure (v := ?_) (by rfl) ?_ ?_
               rotate_left
               focus (intro w hSw; go_simp <;> rfl))
          simp only [Act.put, List.setIfInBounds_toArray, List.set_cons_zero, List.set_cons_succ]
        all_goals
          first
            | (refine Calm.skip ?_ ?_; focus rfl)
            | (refine Calm.pure (v := ?_) (by rfl) ?_ ?_
               rotate_left
               focus (intro w hSw; go_simp <;> rfl))
          simp only [Act.put, List.setIfInBounds_toArray, List.set_cons_zero, List.set_cons_succ]
        all_goals
          refine Calm.pure (v := ?_) (by rfl) ?_ ?_
          rotate_left
          focus (intro w hSw; go_simp <;> rfl)
          simp only [Act.put, List.setIfInBounds_toArray, List.set_cons_zero, List.set_cons_succ]
        all_goals
          rintro w9 ⟨_, hbel9⟩
        go_wp2_with fail
        go_ret
        exact ⟨rfl, hbel9⟩
      · have hxd : decide (x.i < 1) = false := by simpa using hxi
        clear hxi
        rcases Nat.eq_zero_or_pos k with rfl | hpos
        · have HV2 : Hid (∀ i (h : i < l.length), i < 0 + 1 → okk l i h = true) := fun i h hi => by
            obtain rfl : i = 0 := by omega
            unfold okk
            rw [HX.out, HY1.out]
            rfl
          go_wp2_with (refine load_m 44 _ rfl rfl _ _ rfl d Try.underlying44 rfl zm ?_)
          clear hd d HV
          have hs : Calm.Stays (fun w' => Rw w' wr.heap.size 44 #[.int .i64 x.p, .int .i64 x.s, .int .i64 x.i] ∧ Below w.heap.size w w') := fun wa wb h hb => ⟨h.1.later hb, below_on h.2 hb⟩
          refine Calm.region (by kernel_rfl) (by kernel_rfl) (fun w' => Rw w' wr.heap.size 44 #[.int .i64 x.p, .int .i64 x.s, .int .i64 x.i] ∧ Below w.heap.size w w') ⟨R, hbel.drew⟩ ?_
          all_goals
            refine Calm.pure (v := ?_) (by rfl) ?_ ?_
            rotate_left
            focus (intro w hSw; go_simp <;> rfl)
            simp only [Act.put, List.setIfInBounds_toArray, List.set_cons_zero, List.set_cons_succ]
          all_goals
            refine Calm.pure (v := .int .i64 x.i) (by rfl) ?_ ?_
            focus (intro w hSw; have g1 : w.cell? ⟨wr.heap.size, 2, none⟩ = some (.int .i64 x.i) := hSw.1.cell 2; go_simp)
            simp only [Act.put, List.setIfInBounds_toArray, List.set_cons_zero, List.set_cons_succ]
          all_goals
            refine Calm.pure (v := ?_) (by rfl) ?_ ?_
            rotate_left
            focus (intro w hSw; go_simp <;> rfl)
            simp only [Act.put, List.setIfInBounds_toArray, List.set_cons_zero, List.set_cons_succ]
          all_goals
            refine Calm.pure (v := ?_) (by rfl) ?_ ?_
            rotate_left
            focus (intro w hSw; go_simp <;> rfl)
            simp only [Act.put, List.setIfInBounds_toArray, List.set_cons_zero, List.set_cons_succ]
          all_goals
            first
              | (refine Calm.skip ?_ ?_; focus rfl)
              | (refine Calm.pure (v := ?_) (by rfl) ?_ ?_
                 rotate_left
                 focus (intro w hSw; go_simp <;> rfl))
            simp only [Act.put, List.setIfInBounds_toArray, List.set_cons_zero, List.set_cons_succ]
          all_goals
            first
              | (refine Calm.skip ?_ ?_; focus rfl)
              | (refine Calm.pure (v := ?_) (by rfl) ?_ ?_
                 rotate_left
                 focus (intro w hSw; go_simp <;> rfl))
            simp only [Act.put, List.setIfInBounds_toArray, List.set_cons_zero, List.set_cons_succ]
          all_goals
            first
              | (refine Calm.skip ?_ ?_; focus rfl)
              | (refine Calm.pure (v := ?_) (by rfl) ?_ ?_
                 rotate_left
                 focus (intro w hSw; go_simp <;> rfl))
            simp only [Act.put, List.setIfInBounds_toArray, List.set_cons_zero, List.set_cons_succ]
          all_goals
            first
              | (refine Calm.skip ?_ ?_; focus rfl)
              | (refine Calm.pure (v := ?_) (by rfl) ?_ ?_
                 rotate_left
                 focus (intro w hSw; go_simp <;> rfl))
            simp only [Act.put, List.setIfInBounds_toArray, List.set_cons_zero, List.set_cons_succ]
          all_goals
            first
              | (refine Calm.skip ?_ ?_; focus rfl)
              | (refine Calm.pure (v := ?_) (by rfl) ?_ ?_
                 rotate_left
                 focus (intro w hSw; go_simp <;> rfl))
            simp only [Act.put, List.setIfInBounds_toArray, List.set_cons_zero, List.set_cons_succ]
          all_goals
            first
              | (refine Calm.skip ?_ ?_; focus rfl)
              | (refine Calm.pure (v := ?_) (by rfl) ?_ ?_
                 rotate_left
                 focus (intro w hSw; go_simp <;> rfl))
            simp only [Act.put, List.setIfInBounds_toArray, List.set_cons_zero, List.set_cons_succ]
          all_goals
            first
              | (refine Calm.skip ?_ ?_; focus rfl)
              | (refine Calm.pure (v := ?_) (by rfl) ?_ ?_
                 rotate_left
                 focus (intro w hSw; go_simp <;> rfl))
            simp only [Act.put, List.setIfInBounds_toArray, List.set_cons_zero, List.set_cons_succ]
          all_goals
            first
              | (refine Calm.skip ?_ ?_; focus rfl)
              | (refine Calm.loadM 44 Try.underlying44 rfl zm (by rfl) _ rfl rfl (fun _ h => Rw.whole h.1) ?_)
            simp only [Act.put, List.setIfInBounds_toArray, List.set_cons_zero, List.set_cons_succ]
          all_goals
            first
              | (refine Calm.skip ?_ ?_; focus rfl)
              | (refine Calm.loadM 44 Try.underlying44 rfl zm (by rfl) _ rfl rfl (fun _ h => Rw.whole h.1) ?_)
            simp only [Act.put, List.setIfInBounds_toArray, List.set_cons_zero, List.set_cons_succ]
          all_goals
            first
              | (refine Calm.skip ?_ ?_; focus rfl)
              | (refine Calm.call2s (by rfl) rfl rfl rfl (by kernel_rfl) hs (fun w1 h => less_any 0 0 0 0 0 0 w1) ?_)
            simp only [Act.put, List.setIfInBounds_toArray, List.set_cons_zero, List.set_cons_succ]
          all_goals
            first
              | (refine Calm.skip ?_ ?_; focus rfl)
              | (refine Calm.pure (v := ?_) (by rfl) ?_ ?_
                 rotate_left
                 focus (intro w hSw; go_simp <;> rfl))
            simp only [Act.put, List.setIfInBounds_toArray, List.set_cons_zero, List.set_cons_succ]
          all_goals
            first
              | (refine Calm.skip ?_ ?_; focus rfl)
              | (refine Calm.pure (v := ?_) (by rfl) ?_ ?_
                 rotate_left
                 focus (intro w hSw; go_simp <;> rfl))
            simp only [Act.put, List.setIfInBounds_toArray, List.set_cons_zero, List.set_cons_succ]
          all_goals
            refine Calm.pure (v := ?_) (by rfl) ?_ ?_
            rotate_left
            focus (intro w hSw; go_simp <;> rfl)
            simp only [Act.put, List.setIfInBounds_toArray, List.set_cons_zero, List.set_cons_succ]
          all_goals
            rintro w9 ⟨_, hbel9⟩
          go_wp2_with fail
          go_roundw
          case rel => exact ⟨0 + 1, by simp, by omega, HV2, hbel9⟩
          case measure => simp [intOf]; omega
        · obtain ⟨m, rfl⟩ : ∃ m, k = m + 1 := ⟨k - 1, by omega⟩
          have d2 := range_later (M.elem hd m (by omega)) (bel_alloc (Below.refl _ _) (.cells #[.int .i64 x.p, .int .i64 x.s, .int .i64 x.i] 44))
          obtain ⟨y, HY⟩ := hid_ex (l[m]'(by omega))
          rw [HY.out] at d2
          have zy : (Try.prog.info? 44).map (·.size) = some y.cells.length := size44
          have C2 : ∀ w, Calls Try.prog 56 #[MV y.p y.s y.i, MV x.p x.s x.i] w (Tells (.bool (lt y x)) w) := fun w => less_any y.p y.s y.i x.p x.s x.i w
          have hO : okk l (m + 1) hlt = lt y x := by
            unfold okk
            simp only [Nat.add_sub_cancel]
            rw [HX.out, HY1.out, HY.out]
            simp
          have HO : Hid (okk l (m + 1) hlt = lt y x) := hO
          clear hO
          obtain ⟨y2, HY2⟩ := hid_ex (lt y x)
          rw [HY2.out] at C2 HO
          have hw1 : IntKind.i64.wrap (m : Int) = (m : Int) := by rw [IntKind.wrap_i64]; omega
          have hml2 : (m : Int) < (l.length : Int) := by omega
          go_wp2_with (refine load_m 44 _ rfl rfl _ _ rfl d Try.underlying44 rfl zm ?_)
          clear hd d
          cases y2
          · have HF := ca_not HZ hlt HO.out
            have e := HF.out
            subst e
            clear HZ HF HV
            have hs : Calm.Stays (fun w' => Rw w' wr.heap.size 44 #[.int .i64 x.p, .int .i64 x.s, .int .i64 x.i] ∧ w'.rangeAt g (o + m * 3) y.cells ∧ Below w.heap.size w w') := fun wa wb h hb => ⟨h.1.later hb, range_later h.2.1 hb, below_on h.2.2 hb⟩
            refine Calm.region (by kernel_rfl) (by kernel_rfl) (fun w' => Rw w' wr.heap.size 44 #[.int .i64 x.p, .int .i64 x.s, .int .i64 x.i] ∧ w'.rangeAt g (o + m * 3) y.cells ∧ Below w.heap.size w w') ⟨R, d2, hbel.drew⟩ ?_
            all_goals
              refine Calm.pure (v := ?_) (by rfl) ?_ ?_
              rotate_left
              focus (intro w hSw; go_simp <;> rfl)
              simp only [Act.put, List.setIfInBounds_toArray, List.set_cons_zero, List.set_cons_succ]
            all_goals
              refine Calm.pure (v := .int .i64 x.i) (by rfl) ?_ ?_
              focus (intro w hSw; have g1 : w.cell? ⟨wr.heap.size, 2, none⟩ = some (.int .i64 x.i) := hSw.1.cell 2; go_simp)
              simp only [Act.put, List.setIfInBounds_toArray, List.set_cons_zero, List.set_cons_succ]
            all_goals
              refine Calm.pure (v := ?_) (by rfl) ?_ ?_
              rotate_left
              focus (intro w hSw; go_simp <;> rfl)
              simp only [Act.put, List.setIfInBounds_toArray, List.set_cons_zero, List.set_cons_succ]
            all_goals
              refine Calm.pure (v := ?_) (by rfl) ?_ ?_
              rotate_left
              focus (intro w hSw; go_simp <;> rfl)
              simp only [Act.put, List.setIfInBounds_toArray, List.set_cons_zero, List.set_cons_succ]
            all_goals
              first
                | (refine Calm.skip ?_ ?_; focus rfl)
                | (refine Calm.pure (v := ?_) (by rfl) ?_ ?_
                   rotate_left
                   focus (intro w hSw; go_simp <;> rfl))
              simp only [Act.put, List.setIfInBounds_toArray, List.set_cons_zero, List.set_cons_succ]
            all_goals
              first
                | (refine Calm.skip ?_ ?_; focus rfl)
                | (refine Calm.pure (v := ?_) (by rfl) ?_ ?_
                   rotate_left
                   focus (intro w hSw; go_simp <;> rfl))
              simp only [Act.put, List.setIfInBounds_toArray, List.set_cons_zero, List.set_cons_succ]
            all_goals
              first
                | (refine Calm.skip ?_ ?_; focus rfl)
                | (refine Calm.pure (v := ?_) (by rfl) ?_ ?_
                   rotate_left
                   focus (intro w hSw; go_simp <;> rfl))
              simp only [Act.put, List.setIfInBounds_toArray, List.set_cons_zero, List.set_cons_succ]
            all_goals
              first
                | (refine Calm.skip ?_ ?_; focus rfl)
                | (refine Calm.pure (v := ?_) (by rfl) ?_ ?_
                   rotate_left
                   focus (intro w hSw; go_simp <;> rfl))
              simp only [Act.put, List.setIfInBounds_toArray, List.set_cons_zero, List.set_cons_succ]
            all_goals
              first
                | (refine Calm.skip ?_ ?_; focus rfl)
                | (refine Calm.pure (v := ?_) (by rfl) ?_ ?_
                   rotate_left
                   focus (intro w hSw; go_simp <;> rfl))
              simp only [Act.put, List.setIfInBounds_toArray, List.set_cons_zero, List.set_cons_succ]
            all_goals
              first
                | (refine Calm.skip ?_ ?_; focus rfl)
                | (refine Calm.pure (v := ?_) (by rfl) ?_ ?_
                   rotate_left
                   focus (intro w hSw; go_simp <;> rfl))
              simp only [Act.put, List.setIfInBounds_toArray, List.set_cons_zero, List.set_cons_succ]
            all_goals
              first
                | (refine Calm.skip ?_ ?_; focus rfl)
                | (refine Calm.pure (v := ?_) (by rfl) ?_ ?_
                   rotate_left
                   focus (intro w hSw; go_simp <;> rfl))
              simp only [Act.put, List.setIfInBounds_toArray, List.set_cons_zero, List.set_cons_succ]
            all_goals
              first
                | (refine Calm.skip ?_ ?_; focus rfl)
                | (first | (refine Calm.loadM 44 Try.underlying44 rfl zy (by rfl) _ rfl rfl (fun _ h => h.2.1) ?_) | (refine Calm.loadM 44 Try.underlying44 rfl zm (by rfl) _ rfl rfl (fun _ h => Rw.whole h.1) ?_))
              simp only [Act.put, List.setIfInBounds_toArray, List.set_cons_zero, List.set_cons_succ]
            all_goals
              first
                | (refine Calm.skip ?_ ?_; focus rfl)
                | (first | (refine Calm.loadM 44 Try.underlying44 rfl zy (by rfl) _ rfl rfl (fun _ h => h.2.1) ?_) | (refine Calm.loadM 44 Try.underlying44 rfl zm (by rfl) _ rfl rfl (fun _ h => Rw.whole h.1) ?_))
              simp only [Act.put, List.setIfInBounds_toArray, List.set_cons_zero, List.set_cons_succ]
            all_goals
              first
                | (refine Calm.skip ?_ ?_; focus rfl)
                | (refine Calm.call2s (by rfl) rfl rfl rfl (by kernel_rfl) hs (fun w1 h => C2 w1) ?_)
              simp only [Act.put, List.setIfInBounds_toArray, List.set_cons_zero, List.set_cons_succ]
            all_goals
              first
                | (refine Calm.skip ?_ ?_; focus rfl)
                | (refine Calm.pure (v := ?_) (by rfl) ?_ ?_
                   rotate_left
                   focus (intro w hSw; go_simp <;> rfl))
              simp only [Act.put, List.setIfInBounds_toArray, List.set_cons_zero, List.set_cons_succ]
            all_goals
              first
                | (refine Calm.skip ?_ ?_; focus rfl)
                | (refine Calm.pure (v := ?_) (by rfl) ?_ ?_
                   rotate_left
                   focus (intro w hSw; go_simp <;> rfl))
              simp only [Act.put, List.setIfInBounds_toArray, List.set_cons_zero, List.set_cons_succ]
            all_goals
              refine Calm.pure (v := ?_) (by rfl) ?_ ?_
              rotate_left
              focus (intro w hSw; go_simp <;> rfl)
              simp only [Act.put, List.setIfInBounds_toArray, List.set_cons_zero, List.set_cons_succ]
            all_goals
              rintro w9 ⟨_, _, hbel9⟩
            go_wp2_with fail
            go_ret
            exact ⟨rfl, hbel9⟩
          · have HV2 : Hid (∀ i (h : i < l.length), i < m + 1 + 1 → okk l i h = true) := fun i h hi => by
              rcases Nat.lt_or_ge i (m + 1) with h' | h'
              · exact HV.out i h h'
              · obtain rfl : i = m + 1 := by omega
                exact HO.out
            clear HV HO
            have hs : Calm.Stays (fun w' => Rw w' wr.heap.size 44 #[.int .i64 x.p, .int .i64 x.s, .int .i64 x.i] ∧ w'.rangeAt g (o + m * 3) y.cells ∧ Below w.heap.size w w') := fun wa wb h hb => ⟨h.1.later hb, range_later h.2.1 hb, below_on h.2.2 hb⟩
            refine Calm.region (by kernel_rfl) (by kernel_rfl) (fun w' => Rw w' wr.heap.size 44 #[.int .i64 x.p, .int .i64 x.s, .int .i64 x.i] ∧ w'.rangeAt g (o + m * 3) y.cells ∧ Below w.heap.size w w') ⟨R, d2, hbel.drew⟩ ?_
            all_goals
              refine Calm.pure (v := ?_) (by rfl) ?_ ?_
              rotate_left
              focus (intro w hSw; go_simp <;> rfl)
              simp only [Act.put, List.setIfInBounds_toArray, List.set_cons_zero, List.set_cons_succ]
            all_goals
              refine Calm.pure (v := .int .i64 x.i) (by rfl) ?_ ?_
              focus (intro w hSw; have g1 : w.cell? ⟨wr.heap.size, 2, none⟩ = some (.int .i64 x.i) := hSw.1.cell 2; go_simp)
              simp only [Act.put, List.setIfInBounds_toArray, List.set_cons_zero, List.set_cons_succ]
            all_goals
              refine Calm.pure (v := ?_) (by rfl) ?_ ?_
              rotate_left
              focus (intro w hSw; go_simp <;> rfl)
              simp only [Act.put, List.setIfInBounds_toArray, List.set_cons_zero, List.set_cons_succ]
            all_goals
              refine Calm.pure (v := ?_) (by rfl) ?_ ?_
              rotate_left
              focus (intro w hSw; go_simp <;> rfl)
              simp only [Act.put, List.setIfInBounds_toArray, List.set_cons_zero, List.set_cons_succ]
            all_goals
              first
                | (refine Calm.skip ?_ ?_; focus rfl)
                | (refine Calm.pure (v := ?_) (by rfl) ?_ ?_
                   rotate_left
                   focus (intro w hSw; go_simp <;> rfl))
              simp only [Act.put, List.setIfInBounds_toArray, List.set_cons_zero, List.set_cons_succ]
            all_goals
              first
                | (refine Calm.skip ?_ ?_; focus rfl)
                | (refine Calm.pure (v := ?_) (by rfl) ?_ ?_
                   rotate_left
                   focus (intro w hSw; go_simp <;> rfl))
              simp only [Act.put, List.setIfInBounds_toArray, List.set_cons_zero, List.set_cons_succ]
            all_goals
              first
                | (refine Calm.skip ?_ ?_; focus rfl)
                | (refine Calm.pure (v := ?_) (by rfl) ?_ ?_
                   rotate_left
                   focus (intro w hSw; go_simp <;> rfl))
              simp only [Act.put, List.setIfInBounds_toArray, List.set_cons_zero, List.set_cons_succ]
            all_goals
              first
                | (refine Calm.skip ?_ ?_; focus rfl)
                | (refine Calm.pure (v := ?_) (by rfl) ?_ ?_
                   rotate_left
                   focus (intro w hSw; go_simp <;> rfl))
              simp only [Act.put, List.setIfInBounds_toArray, List.set_cons_zero, List.set_cons_succ]
            all_goals
              first
                | (refine Calm.skip ?_ ?_; focus rfl)
                | (refine Calm.pure (v := ?_) (by rfl) ?_ ?_
                   rotate_left
                   focus (intro w hSw; go_simp <;> rfl))
              simp only [Act.put, List.setIfInBounds_toArray, List.set_cons_zero, List.set_cons_succ]
            all_goals
              first
                | (refine Calm.skip ?_ ?_; focus rfl)
                | (refine Calm.pure (v := ?_) (by rfl) ?_ ?_
                   rotate_left
                   focus (intro w hSw; go_simp <;> rfl))
              simp only [Act.put, List.setIfInBounds_toArray, List.set_cons_zero, List.set_cons_succ]
            all_goals
              first
                | (refine Calm.skip ?_ ?_; focus rfl)
                | (refine Calm.pure (v := ?_) (by rfl) ?_ ?_
                   rotate_left
                   focus (intro w hSw; go_simp <;> rfl))
              simp only [Act.put, List.setIfInBounds_toArray, List.set_cons_zero, List.set_cons_succ]
            all_goals
              first
                | (refine Calm.skip ?_ ?_; focus rfl)
                | (first | (refine Calm.loadM 44 Try.underlying44 rfl zy (by rfl) _ rfl rfl (fun _ h => h.2.1) ?_) | (refine Calm.loadM 44 Try.underlying44 rfl zm (by rfl) _ rfl rfl (fun _ h => Rw.whole h.1) ?_))
              simp only [Act.put, List.setIfInBounds_toArray, List.set_cons_zero, List.set_cons_succ]
            all_goals
              first
                | (refine Calm.skip ?_ ?_; focus rfl)
                | (first | (refine Calm.loadM 44 Try.underlying44 rfl zy (by rfl) _ rfl rfl (fun _ h => h.2.1) ?_) | (refine Calm.loadM 44 Try.underlying44 rfl zm (by rfl) _ rfl rfl (fun _ h => Rw.whole h.1) ?_))
              simp only [Act.put, List.setIfInBounds_toArray, List.set_cons_zero, List.set_cons_succ]
            all_goals
              first
                | (refine Calm.skip ?_ ?_; focus rfl)
                | (refine Calm.call2s (by rfl) rfl rfl rfl (by kernel_rfl) hs (fun w1 h => C2 w1) ?_)
              simp only [Act.put, List.setIfInBounds_toArray, List.set_cons_zero, List.set_cons_succ]
            all_goals
              first
                | (refine Calm.skip ?_ ?_; focus rfl)
                | (refine Calm.pure (v := ?_) (by rfl) ?_ ?_
                   rotate_left
                   focus (intro w hSw; go_simp <;> rfl))
              simp only [Act.put, List.setIfInBounds_toArray, List.set_cons_zero, List.set_cons_succ]
            all_goals
              first
                | (refine Calm.skip ?_ ?_; focus rfl)
                | (refine Calm.pure (v := ?_) (by rfl) ?_ ?_
                   rotate_left
                   focus (intro w hSw; go_simp <;> rfl))
              simp only [Act.put, List.setIfInBounds_toArray, List.set_cons_zero, List.set_cons_succ]
            all_goals
              refine Calm.pure (v := ?_) (by rfl) ?_ ?_
              rotate_left
              focus (intro w hSw; go_simp <;> rfl)
              simp only [Act.put, List.setIfInBounds_toArray, List.set_cons_zero, List.set_cons_succ]
            all_goals
              rintro w9 ⟨_, _, hbel9⟩
            go_wp2_with fail
            go_roundw
            case rel => exact ⟨m + 1 + 1, by simp, by omega, HV2, hbel9⟩
            case measure => simp [intOf]; omega
    · have hlt' : ¬ (k : Int) < (l.length : Int) := by omega
      have e := HZ.out
      rw [(ca_iff l).2 (fun i h => HV.out i h (by omega))] at e
      subst e
      clear HZ HV HR
      go_wp2_with fail
      go_ret
      exact ⟨rfl, hbel⟩
end Go.Proofs.Ytdnppcbdifckcaa
