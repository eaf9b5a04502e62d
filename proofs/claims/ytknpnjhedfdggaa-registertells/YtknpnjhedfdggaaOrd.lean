/- The order of marks, writes in order, and one put in. Nothing of the program. -/
import Derived.Test.YtknpnjhedfdggaaChk
namespace Go.Proofs.Ytknpnjhedfdggaa
open Go.RowKit

theorem lt_iff (x y : Wt) : lt x y = true ↔ x.p < y.p ∨ (x.p = y.p ∧ (x.s < y.s ∨ (x.s = y.s ∧ x.i < y.i))) := by simp [lt, ls]
theorem lt_trans {x y z : Wt} (h : lt x y = true) (k : lt y z = true) : lt x z = true := by
  rw [lt_iff] at *
  omega
theorem lt_irr (x : Wt) : lt x x = false := by
  cases h : lt x x
  · rfl
  · rw [lt_iff] at h
    omega
theorem lt_asymm {x y : Wt} (h : lt x y = true) : lt y x = false := by
  cases k : lt y x
  · rfl
  · have := lt_trans h k
    rw [lt_irr] at this
    cases this
/-- One mark. -/
def mk (x y : Wt) : Bool := decide (x.p = y.p) && decide (x.s = y.s) && decide (x.i = y.i)
theorem mk_iff (x y : Wt) : mk x y = true ↔ x.p = y.p ∧ x.s = y.s ∧ x.i = y.i := by simp [mk, and_assoc]
theorem lt_total {x y : Wt} (h : lt x y = false) (k : mk x y = false) : lt y x = true := by
  rw [lt_iff]
  have h1 : ¬ _ := fun e => by rw [(lt_iff x y).2 e] at h; cases h
  have h2 : ¬ _ := fun e => by rw [(mk_iff x y).2 e] at k; cases k
  omega
theorem mk_lt {x y : Wt} (h : mk x y = true) : lt x y = false := by
  cases k : lt x y
  · rfl
  · rw [mk_iff] at h
    rw [lt_iff] at k
    omega
theorem lt_of_not {x y z : Wt} (h : lt x z = true) (k : lt y z = false) : lt x y = true := by
  have k1 : ¬ _ := fun e => by rw [(lt_iff y z).2 e] at k; cases k
  rw [lt_iff] at *
  omega
/-- Writes that rise, and that may be. -/
theorem ca_pair (l : List Wt) : ca l = true ↔ (∀ y ∈ l, iw y.i y.x = true) ∧ l.Pairwise (fun a b => lt a b = true) := by
  rw [ca_iff]
  constructor
  · intro h
    refine ⟨fun y hy => ?_, ?_⟩
    · obtain ⟨k, hk, rfl⟩ := List.getElem_of_mem hy
      have := h k hk
      unfold okk at this
      exact (Bool.and_eq_true _ _ ▸ this).1
    · rw [List.pairwise_iff_getElem]
      intro i j hi hj hij
      obtain ⟨d, rfl⟩ : ∃ d, j = i + 1 + d := ⟨j - (i + 1), by omega⟩
      clear hij
      have step : ∀ k (hk : k + 1 < l.length), lt l[k] l[k + 1] = true := fun k hk => by
        have := h (k + 1) hk
        unfold okk at this
        simpa using (Bool.and_eq_true _ _ ▸ this).2
      induction d with
      | zero => exact step i hj
      | succ d ih => exact lt_trans (ih (by omega) step) (step (i + 1 + d) (by omega))
  · rintro ⟨h1, h2⟩ k hk
    unfold okk
    rw [h1 _ (List.getElem_mem _), Bool.true_and]
    rcases Nat.eq_zero_or_pos k with rfl | hp
    · rfl
    · rw [List.pairwise_iff_getElem] at h2
      simp [h2 (k - 1) k (by omega) hk (by omega)]
theorem ca_filter {l : List Wt} (h : ca l = true) (f : Wt → Bool) : ca (l.filter f) = true := by
  rw [ca_pair] at *
  exact ⟨fun y hy => h.1 y (List.mem_filter.1 hy).1, h.2.filter f⟩
/-- Put in where it belongs. -/
def insF (x : Wt) (l : List Wt) : List Wt := l.filter (fun y => lt y x) ++ x :: l.filter (fun y => !lt y x)
def has (x : Wt) (l : List Wt) : Bool := l.any (fun y => mk y x)
theorem has_false {x : Wt} {l : List Wt} : has x l = false ↔ ∀ y ∈ l, mk y x = false := by
  unfold has
  rw [List.any_eq_false]
  exact ⟨fun h y hy => by simpa using h y hy, fun h y hy => by simpa using h y hy⟩
theorem insF_length (x : Wt) (l : List Wt) : (insF x l).length = l.length + 1 := by
  unfold insF
  rw [List.length_append, List.length_cons]
  induction l with
  | nil => rfl
  | cons y l ih =>
    rw [List.filter_cons, List.filter_cons]
    cases lt y x
    · simp
      omega
    · simp
      omega
theorem insF_ca {x : Wt} {l : List Wt} (h : ca l = true) (hi : iw x.i x.x = true) (hn : has x l = false) : ca (insF x l) = true := by
  rw [has_false] at hn
  rw [ca_pair] at *
  obtain ⟨h1, h2⟩ := h
  refine ⟨fun y hy => ?_, ?_⟩
  · unfold insF at hy
    rcases List.mem_append.1 hy with h | h
    · exact h1 y (List.mem_filter.1 h).1
    · rcases List.mem_cons.1 h with rfl | h
      · exact hi
      · exact h1 y (List.mem_filter.1 h).1
  · unfold insF
    rw [List.pairwise_append]
    refine ⟨h2.filter _, ?_, ?_⟩
    · rw [List.pairwise_cons]
      refine ⟨fun y hy => ?_, h2.filter _⟩
      obtain ⟨hy1, hy2⟩ := List.mem_filter.1 hy
      exact lt_total (by simpa using hy2) (hn y hy1)
    · intro y hy z hz
      obtain ⟨hy1, hy2⟩ := List.mem_filter.1 hy
      rcases List.mem_cons.1 hz with rfl | hz
      · exact hy2
      · obtain ⟨hz1, hz2⟩ := List.mem_filter.1 hz
        exact lt_of_not hy2 (by simpa using hz2)
/-- The order of two is nothing. -/
theorem insF_lt {x y : Wt} (h : lt x y = true) (l : List Wt) : insF y (insF x l) = l.filter (fun a => lt a x) ++ x :: (l.filter (fun a => lt a y && !lt a x) ++ y :: l.filter (fun a => !lt a y)) ∧ insF x (insF y l) = l.filter (fun a => lt a x) ++ x :: (l.filter (fun a => lt a y && !lt a x) ++ y :: l.filter (fun a => !lt a y)) := by
  have h1 : ∀ a, lt a x = true → lt a y = true := fun a k => lt_trans k h
  have h2 : lt y x = false := lt_asymm h
  have e1 : (fun a => lt a y && lt a x) = fun a => lt a x := funext fun a => by
    cases k : lt a x
    · simp
    · simp [h1 a k]
  have e2 : (fun a => lt a x && lt a y) = fun a => lt a x := funext fun a => by
    cases k : lt a x
    · simp
    · simp [h1 a k]
  have e3 : (fun a => !lt a y && lt a x) = fun _ => false := funext fun a => by
    cases k : lt a x
    · simp
    · simp [h1 a k]
  have e4 : (fun a => lt a x && !lt a y) = fun _ => false := funext fun a => by
    cases k : lt a x
    · simp
    · simp [h1 a k]
  have e5 : (fun a => !lt a y && !lt a x) = fun a => !lt a y := funext fun a => by
    cases k : lt a x
    · simp
    · simp [h1 a k]
  have e6 : (fun a => !lt a x && !lt a y) = fun a => !lt a y := funext fun a => by
    cases k : lt a x
    · simp
    · simp [h1 a k]
  have e7 : (fun a => !lt a x && lt a y) = fun a => lt a y && !lt a x := funext fun a => Bool.and_comm _ _
  constructor
  · unfold insF
    simp only [List.filter_append, List.filter_cons, List.filter_filter, h, e1, e3, e5]
    simp
  · unfold insF
    simp only [List.filter_append, List.filter_cons, List.filter_filter, h2, e2, e4, e6, e7]
    simp
theorem insF_comm {x y : Wt} (h : mk x y = false) (l : List Wt) : insF x (insF y l) = insF y (insF x l) := by
  cases k : lt x y
  · have k2 := lt_total k h
    rw [(insF_lt k2 l).1, (insF_lt k2 l).2]
  · rw [(insF_lt k l).1, (insF_lt k l).2]
theorem has_insF {x y : Wt} (h : mk x y = false) (l : List Wt) : has y (insF x l) = has y l := by
  unfold has insF
  rw [List.any_append, List.any_cons, h, Bool.false_or]
  induction l with
  | nil => rfl
  | cons a l ih =>
    rw [List.filter_cons, List.filter_cons, List.any_cons, ← ih]
    cases lt a x
    · simp
      cases mk a y <;> simp
    · simp [Bool.or_assoc]
/-- Where it belongs, by its place. -/
theorem insF_at {x : Wt} {l : List Wt} {k : Nat} (h1 : ∀ j (h : j < l.length), j < k → lt l[j] x = true) (h2 : ∀ j (h : j < l.length), k ≤ j → lt l[j] x = false) : l.take k ++ x :: l.drop k = insF x l := by
  have e1 : l.filter (fun y => lt y x) = l.take k := by
    conv => lhs; rw [← List.take_append_drop k l]
    rw [List.filter_append, List.filter_eq_self.2, List.filter_eq_nil_iff.2, List.append_nil]
    · intro y hy
      obtain ⟨j, hj, rfl⟩ := List.getElem_of_mem hy
      rw [List.getElem_drop, h2 _ _ (by omega)]
      simp
    · intro y hy
      obtain ⟨j, hj, rfl⟩ := List.getElem_of_mem hy
      rw [List.length_take] at hj
      rw [List.getElem_take]
      exact h1 _ _ (by omega)
  have e2 : l.filter (fun y => !lt y x) = l.drop k := by
    conv => lhs; rw [← List.take_append_drop k l]
    rw [List.filter_append, List.filter_eq_nil_iff.2, List.filter_eq_self.2, List.nil_append]
    · intro y hy
      obtain ⟨j, hj, rfl⟩ := List.getElem_of_mem hy
      rw [List.getElem_drop, h2 _ _ (by omega)]
      rfl
    · intro y hy
      obtain ⟨j, hj, rfl⟩ := List.getElem_of_mem hy
      rw [List.length_take] at hj
      rw [List.getElem_take, h1 _ _ (by omega)]
      simp
  unfold insF
  rw [e1, e2]
end Go.Proofs.Ytknpnjhedfdggaa
