import Derived.Test.YtcebchjokmampaaP4
import Derived.Test.YtcebchjokmampaaP1
import Derived.OrdersHeld
import Derived.Deep.MidRow
import Derived.Test.YtcebchjokmampaaP3
/- What is drained, and where one waits: lists alone. -/
namespace Go.Proofs.Ytcebchjokmampaa

/-- The same dot. -/
def sd (x y : T) : Bool := decide (x.p = y.p) && decide (x.s = y.s)
theorem sd_iff {x y : T} : sd x y = true ↔ x.p = y.p ∧ x.s = y.s := by simp [sd]
/-- How many a vector has not. -/
def lack (v : List Int) (l : List T) : Nat := l.countP fun x => !hsT v x
theorem lack_mono {v u : List Int} (h : ∀ i, v.getD i 0 ≤ u.getD i 0) : ∀ l : List T, lack u l ≤ lack v l := fun l => List.countP_mono_left fun x _ hx => by
  cases e : hsT v x with
  | false => rfl
  | true => rw [has_mono e h] at hx; cases hx
theorem lack_stp {v : List Int} {x : T} (hv : v.length = 13) (h : rdy v x = true) : ∀ l : List T, x ∈ l → lack (stp v x) l + 1 ≤ lack v l
  | y :: l, hx => by
    have hm := lack_mono (stp_le hv h) l
    unfold lack at hm ⊢
    rw [List.countP_cons, List.countP_cons]
    rcases List.mem_cons.1 hx with rfl | hx
    · rw [has_stp hv (rdy_ok h), rdy_not h]
      simp
      omega
    · have := lack_stp hv h l hx
      unfold lack at this
      cases e : hsT v y with
      | true => rw [has_mono e (stp_le hv h)]; simp; omega
      | false =>
        cases e2 : hsT (stp v x) y <;> simp <;> omega
/-- Again and again the first one that is ready. -/
def dr : Nat → List Int → List T → List T × List Int
  | 0, v, _ => ([], v)
  | n + 1, v, l => match l.find? (rdy v) with
    | none => ([], v)
    | some x => (x :: (dr n (stp v x) l).1, (dr n (stp v x) l).2)
theorem dr_none {v : List Int} {l : List T} (n : Nat) (h : l.find? (rdy v) = none) : dr n v l = ([], v) := by
  cases n with
  | zero => rfl
  | succ n => simp only [dr, h]
theorem dr_some {v : List Int} {l : List T} (n : Nat) {x : T} (h : l.find? (rdy v) = some x) : dr (n + 1) v l = (x :: (dr n (stp v x) l).1, (dr n (stp v x) l).2) := by
  simp only [dr, h]
theorem dr_spec : ∀ (n : Nat) (v : List Int) (l : List T), v.length = 13 → clb v (dr n v l).1 = true ∧ (dr n v l).2 = run v (dr n v l).1 ∧ (∀ x ∈ (dr n v l).1, x ∈ l) ∧ (dr n v l).1.length + lack (dr n v l).2 l ≤ lack v l ∧ (lack v l < n → l.find? (rdy (dr n v l).2) = none)
  | 0, v, l, hv => ⟨rfl, rfl, (fun _ h => by cases h), by simp [dr], fun h => by omega⟩
  | n + 1, v, l, hv => by
    cases e : l.find? (rdy v) with
    | none => rw [dr_none _ e]; exact ⟨rfl, rfl, (fun _ h => by cases h), by simp, fun _ => e⟩
    | some x =>
      have hr : rdy v x = true := List.find?_some e
      have hx : x ∈ l := List.mem_of_find?_eq_some e
      obtain ⟨h1, h2, h3, h4, h5⟩ := dr_spec n (stp v x) l (by rw [stp_length]; exact hv)
      have hl := lack_stp hv hr l hx
      rw [dr_some n e]
      refine ⟨by simp only [clb, hr, h1, Bool.and_self], by simp only [run]; exact h2, fun y hy => ?_, by simp only [List.length_cons]; omega, fun h => h5 (by omega)⟩
      rcases List.mem_cons.1 hy with rfl | hy
      · exact hx
      · exact h3 y hy
theorem lack_le (v : List Int) (l : List T) : lack v l ≤ l.length := List.countP_le_length
/-- What is delivered, what still waits, the vector. -/
def drG (v : List Int) (l : List T) : List T := (dr (l.length + 1) v l).1
def drV (v : List Int) (l : List T) : List Int := (dr (l.length + 1) v l).2
def drL (v : List Int) (l : List T) : List T := l.filter fun x => !hsT (drV v l) x
section
variable {v : List Int} {l : List T}
theorem drG_clb (hv : v.length = 13) : clb v (drG v l) = true := (dr_spec _ v l hv).1
theorem drV_run (hv : v.length = 13) : drV v l = run v (drG v l) := (dr_spec _ v l hv).2.1
theorem drG_mem (hv : v.length = 13) {x : T} (h : x ∈ drG v l) : x ∈ l := (dr_spec _ v l hv).2.2.1 x h
theorem drL_mem {x : T} : x ∈ drL v l ↔ x ∈ l ∧ hsT (drV v l) x = false := by
  simp only [drL, List.mem_filter, Bool.not_eq_true']
theorem dr_not (hv : v.length = 13) {x : T} (h : x ∈ l) : rdy (drV v l) x = false := by
  have := (dr_spec (l.length + 1) v l hv).2.2.2.2 (by have := lack_le v l; omega)
  have := List.find?_eq_none.1 this x h
  cases e : rdy (drV v l) x with
  | false => rfl
  | true => exact absurd e this
theorem dr_len (hv : v.length = 13) : (drG v l).length + (drL v l).length ≤ l.length := by
  have h1 := (dr_spec (l.length + 1) v l hv).2.2.2.1
  have h2 := lack_le v l
  have h3 : (drL v l).length = lack (drV v l) l := by unfold drL lack; rw [List.countP_eq_length_filter]
  unfold drG
  unfold drV at h3
  omega
theorem drV_length (hv : v.length = 13) : (drV v l).length = 13 := by rw [drV_run hv, run_length, hv]
end
/-- Where one waits. -/
def insT (t : T) : List T → List T
  | [] => [t]
  | x :: l => if ahd t.p t.s x.p x.s then t :: x :: l else x :: insT t l
def ofE (v : List Int) (l : List T) (t : T) : Int := if t.ok = false then 3 else if (l.any fun x => sd x t) = true then 8 else if hsT v t = true then 8 else if 32 ≤ l.length then 4 else 0
def ofL (v : List Int) (l : List T) (t : T) : List T := if ofE v l t = 0 then insT t l else l
theorem insT_mem {t : T} : ∀ {l : List T} {x : T}, x ∈ insT t l ↔ x = t ∨ x ∈ l
  | [], x => by simp [insT]
  | y :: l, x => by
    unfold insT
    split
    · simp
    · simp only [List.mem_cons, insT_mem (l := l)]
      constructor
      · rintro (h | h | h) <;> simp [h]
      · rintro (h | h | h) <;> simp [h]
theorem insT_length (t : T) : ∀ l : List T, (insT t l).length = l.length + 1
  | [] => rfl
  | y :: l => by
    unfold insT
    split
    · simp
    · simp [insT_length t l]
theorem ofE_ok {v : List Int} {l : List T} {t : T} (h : ofE v l t = 0) : t.ok = true ∧ (∀ x ∈ l, sd x t = false) ∧ hsT v t = false ∧ l.length < 32 := by
  unfold ofE at h
  split at h
  · cases h
  · rename_i h1
    split at h
    · cases h
    · rename_i h2
      split at h
      · cases h
      · rename_i h3
        split at h
        · cases h
        · rename_i h4
          refine ⟨by simpa using h1, fun x hx => ?_, by simpa using h3, by omega⟩
          cases e : sd x t with
          | false => rfl
          | true => exact absurd (List.any_eq_true.2 ⟨x, hx, e⟩) h2
theorem ofE_mk {v : List Int} {l : List T} {t : T} (h1 : t.ok = true) (h2 : ∀ x ∈ l, sd x t = false) (h3 : hsT v t = false) (h4 : l.length < 32) : ofE v l t = 0 := by
  have h5 : (l.any fun x => sd x t) = false := by
    cases e : l.any fun x => sd x t with
    | false => rfl
    | true =>
      obtain ⟨x, hx, hs⟩ := List.any_eq_true.1 e
      rw [h2 x hx] at hs
      cases hs
  unfold ofE
  rw [if_neg (by simp [h1]), if_neg (by simp [h5]), if_neg (by simp [h3]), if_neg (by omega)]
/-- Those that wait rise. -/
abbrev ah (x y : T) : Bool := ahd x.p x.s y.p y.s
def rs : List T → Bool
  | [] => true
  | [_] => true
  | x :: y :: l => ah x y && rs (y :: l)
theorem ah_iff {x y : T} : ah x y = true ↔ x.p < y.p ∨ x.p = y.p ∧ x.s < y.s := by
  unfold ah ahd
  split
  · rename_i h
    simp [h]
  · rename_i h
    simp [h]
theorem ah_total {x y : T} (h : ah x y = false) (h2 : sd y x = false) : ah y x = true := by
  have h1 : ¬ (ah x y = true) := by simp [h]
  have h3 : ¬ (sd y x = true) := by simp [h2]
  rw [ah_iff] at h1
  rw [sd_iff] at h3
  rw [ah_iff]
  omega
theorem rs_ins {t : T} : ∀ {l : List T}, rs l = true → (∀ x ∈ l, sd x t = false) → rs (insT t l) = true
  | [], _, _ => rfl
  | [x], _, h => by
    cases e : ah t x with
    | true =>
      simp only [insT, e, if_true, rs, Bool.and_self]
    | false =>
      have := ah_total e (h x (by simp))
      simp only [insT, e, Bool.false_eq_true, if_false, rs, this, Bool.and_self]
  | x :: y :: l, hr, h => by
    simp only [rs, Bool.and_eq_true] at hr
    cases e : ah t x with
    | true =>
      simp only [insT, e, if_true, rs, hr.1, hr.2, Bool.and_self]
    | false =>
      have h1 := ah_total e (h x (by simp))
      have ih := rs_ins (t := t) (l := y :: l) hr.2 (fun z hz => h z (List.mem_cons_of_mem _ hz))
      cases e2 : ah t y with
      | true =>
        simp only [insT, e, e2, Bool.false_eq_true, if_false, if_true, rs, h1, hr.2, Bool.and_self]
      | false =>
        have e3 : insT t (x :: y :: l) = x :: y :: insT t l := by simp only [insT, e, e2, Bool.false_eq_true, if_false]
        have e4 : insT t (y :: l) = y :: insT t l := by simp only [insT, e2, Bool.false_eq_true, if_false]
        rw [e3, rs, hr.1, Bool.true_and, ← e4]
        exact ih
end Go.Proofs.Ytcebchjokmampaa
/- The laws of what is delivered, of lists alone. -/
namespace Go.Proofs.Ytcebchjokmampaa

theorem zeros_len : zeros.length = 13 := rfl
theorem run_zero : ∀ (l : List T) (v : List Int), clb v l = true → (run v l).getD 0 0 = v.getD 0 0
  | [], _, _ => rfl
  | x :: l, v, h => by
    simp only [clb, Bool.and_eq_true] at h
    have hp := T.ok_p (rdy_ok h.1)
    rw [run, run_zero l _ h.2, stp_other v x 0 (by omega)]
theorem run_nonneg {l : List T} (h : clb zeros l = true) (i : Nat) : 0 ≤ (run zeros l).getD i 0 := by
  have := run_le l zeros rfl h i
  rw [zeros_at] at this
  exact this
/-- What was delivered is below what has all of it. -/
theorem run_below {a : List T} {u : List Int} (h : clb zeros a = true) (hu : ∀ y ∈ a, hsT u y = true) (h0 : ∀ i, 0 ≤ u.getD i 0) (i : Nat) : (run zeros a).getD i 0 ≤ u.getD i 0 := by
  by_cases hs : 0 < (run zeros a).getD i 0
  · have hi0 : i ≠ 0 := by
      rintro rfl
      rw [run_zero a zeros h, zeros_at] at hs
      omega
    have hi13 : i < 13 := by
      rcases Nat.lt_or_ge i 13 with h' | h'
      · exact h'
      · rw [List.getD_eq_getElem?_getD, List.getElem?_eq_none (by rw [run_length]; exact h')] at hs
        simp at hs
    obtain ⟨x, hx, hp, hq⟩ := run_has a zeros rfl h (i : Int) (by omega) (by omega) ((run zeros a).getD i 0) (by rw [zeros_at]; exact hs) (by simp)
    have := (hsT_iff.1 (hu x hx)).2.2
    rw [hp, hq] at this
    simpa using this
  · have := h0 i
    omega
theorem clb_gt : ∀ (l : List T) (v : List Int), v.length = 13 → clb v l = true → ∀ y ∈ l, v.getD y.p.toNat 0 < y.s
  | x :: l, v, hv, h, y, hy => by
    simp only [clb, Bool.and_eq_true] at h
    rcases List.mem_cons.1 hy with rfl | hy
    · have := rdy_s h.1
      omega
    · exact Int.lt_of_le_of_lt (stp_le hv h.1 _) (clb_gt l _ (by rw [stp_length]; exact hv) h.2 y hy)
theorem clb_apart : ∀ (l : List T) (v : List Int), v.length = 13 → clb v l = true → l.Pairwise fun x y => sd x y = false
  | [], _, _, _ => .nil
  | x :: l, v, hv, h => by
    simp only [clb, Bool.and_eq_true] at h
    have hv' : (stp v x).length = 13 := by rw [stp_length]; exact hv
    refine .cons (fun y hy => ?_) (clb_apart l _ hv' h.2)
    cases e : sd x y with
    | false => rfl
    | true =>
      obtain ⟨e1, e2⟩ := sd_iff.1 e
      have h1 := clb_gt l _ hv' h.2 y hy
      rw [← e1, stp_same hv (rdy_ok h.1)] at h1
      omega
theorem sd_comm (x y : T) : sd x y = sd y x := by
  unfold sd
  rw [decide_eq_decide.2 (show x.p = y.p ↔ y.p = x.p from ⟨Eq.symm, Eq.symm⟩), decide_eq_decide.2 (show x.s = y.s ↔ y.s = x.s from ⟨Eq.symm, Eq.symm⟩)]
theorem clb_ne {l : List T} {v : List Int} (hv : v.length = 13) (h : clb v l = true) {i j : Nat} (hi : i < l.length) (hj : j < l.length) (hne : i ≠ j) : sd l[i] l[j] = false := by
  have hp := List.pairwise_iff_getElem.1 (clb_apart l v hv h)
  rcases Nat.lt_or_gt_of_ne hne with h' | h'
  · exact hp i j hi hj h'
  · rw [sd_comm]
    exact hp j i hj hi h'
theorem clb_ok : ∀ (l : List T) (v : List Int), clb v l = true → ∀ x ∈ l, x.ok = true
  | y :: l, v, h, x, hx => by
    simp only [clb, Bool.and_eq_true] at h
    rcases List.mem_cons.1 hx with rfl | hx
    · exact rdy_ok h.1
    · exact clb_ok l _ h.2 x hx

/-- What was delivered, what waits, what a vector has: behind offers, each drained. -/
structure Cd (all wait : List T) (v : List Int) : Prop where
  c : clb zeros all = true
  r : v = run zeros all
  n : ∀ x ∈ wait, hsT v x = false ∧ rdy v x = false
theorem Cd.len {all wait : List T} {v : List Int} (h : Cd all wait v) : v.length = 13 := by rw [h.r, run_length]; rfl
theorem Cd.zero : Cd [] [] zeros := ⟨rfl, rfl, fun _ h => by cases h⟩
theorem Cd.step {all wait : List T} {v : List Int} (h : Cd all wait v) (m : List T) : Cd (all ++ drG v m) (drL v m) (drV v m) := by
  have hv := h.len
  refine ⟨?_, ?_, fun x hx => ?_⟩
  · rw [clb_append, h.c, ← h.r, drG_clb hv]
    rfl
  · rw [run_append, ← h.r]
    exact drV_run hv
  · obtain ⟨h1, h2⟩ := drL_mem.1 hx
    exact ⟨h2, dr_not hv h1⟩
/-- And of what was offered nothing is lost. -/
structure Al (os all wait : List T) (v : List Int) : Prop extends Cd all wait v where
  a : ∀ x ∈ all, x ∈ os
  w : ∀ x ∈ wait, x ∈ os
  h : ∀ x ∈ os, hsT v x = true ∨ x ∈ wait
  l : all.length + wait.length ≤ os.length
theorem Al.zero : Al [] [] [] zeros := ⟨Cd.zero, (fun _ h => by cases h), (fun _ h => by cases h), (fun _ h => by cases h), Nat.le_refl _⟩
theorem Al.new {os all wait : List T} {v : List Int} (h : Al os all wait v) {x : T} (hok : x.ok = true) (hx : ∀ y ∈ os, sd y x = false) (hl : os.length < 32) : ofE v wait x = 0 := by
  refine ofE_mk hok (fun y hy => hx y (h.w y hy)) ?_ (by have := h.l; omega)
  cases e : hsT v x with
  | false => rfl
  | true =>
    obtain ⟨hp, hs, hle⟩ := hsT_iff.1 e
    rw [h.r] at hle
    obtain ⟨y, hy, e1, e2⟩ := run_has all zeros rfl h.c x.p hp.1 hp.2 x.s (by rw [zeros_at]; omega) hle
    have := hx y (h.a y hy)
    rw [sd_iff.2 ⟨e1, e2⟩] at this
    cases this
theorem Al.step {os all wait : List T} {v : List Int} (h : Al os all wait v) (x : T) : Al (os ++ [x]) (all ++ drG v (insT x wait)) (drL v (insT x wait)) (drV v (insT x wait)) := by
  have hv := h.len
  have hin : ∀ y ∈ insT x wait, y ∈ os ++ [x] := fun y hy => by
    rcases insT_mem.1 hy with rfl | hy
    · simp
    · exact List.mem_append_left _ (h.w y hy)
  refine ⟨h.toCd.step _, fun y hy => ?_, fun y hy => hin y (drL_mem.1 hy).1, fun y hy => ?_, ?_⟩
  · rcases List.mem_append.1 hy with hy | hy
    · exact List.mem_append_left _ (h.a y hy)
    · exact hin y (drG_mem hv hy)
  · have hm : hsT v y = true ∨ y ∈ insT x wait := by
      rcases List.mem_append.1 hy with hy | hy
      · rcases h.h y hy with h' | h'
        · exact .inl h'
        · exact .inr (insT_mem.2 (.inr h'))
      · simp only [List.mem_singleton] at hy
        exact .inr (insT_mem.2 (.inl hy))
    rcases hm with h' | h'
    · refine .inl (has_mono h' fun i => ?_)
      rw [drV_run hv]
      exact run_le _ v hv (drG_clb hv) i
    · cases e : hsT (drV v (insT x wait)) y with
      | true => exact .inl rfl
      | false => exact .inr (drL_mem.2 ⟨h', e⟩)
  · have h1 := dr_len (v := v) (l := insT x wait) hv
    have h2 := h.l
    rw [insT_length] at h1
    simp only [List.length_append, List.length_cons, List.length_nil]
    omega
/-- The first one that is not had. -/
theorem first_not {α : Type} (f : α → Bool) : ∀ l : List α, (∃ x ∈ l, f x = false) → ∃ a x b, l = a ++ x :: b ∧ (∀ y ∈ a, f y = true) ∧ f x = false
  | y :: l, h => by
    cases e : f y with
    | false => exact ⟨[], y, l, rfl, (fun _ h => by cases h), e⟩
    | true =>
      obtain ⟨a, x, b, rfl, h1, h2⟩ := first_not f l (by
        obtain ⟨x, hx, hf⟩ := h
        rcases List.mem_cons.1 hx with rfl | hx
        · rw [e] at hf; cases hf
        · exact ⟨x, hx, hf⟩)
      refine ⟨y :: a, x, b, rfl, fun z hz => ?_, h2⟩
      rcases List.mem_cons.1 hz with rfl | hz
      · exact e
      · exact h1 z hz
theorem list_ext13 {a b : List Int} (ha : a.length = 13) (hb : b.length = 13) (h : ∀ i, a.getD i 0 = b.getD i 0) : a = b := by
  refine List.ext_getElem (by omega) fun i h1 h2 => ?_
  have := h i
  simpa [List.getD_eq_getElem?_getD, List.getElem?_eq_getElem h1, List.getElem?_eq_getElem h2] using this
theorem Al.all {l os all wait : List T} {v : List Int} (h : Al os all wait v) (hl : clb zeros l = true) (h1 : ∀ x ∈ l, x ∈ os) (h2 : ∀ x ∈ os, x ∈ l) : wait = [] ∧ all.length = l.length := by
  have hv := h.len
  have h0 : ∀ i, 0 ≤ v.getD i 0 := fun i => by rw [h.r]; exact run_nonneg h.c i
  have hall : ∀ x ∈ l, hsT v x = true := by
    intro x hx
    cases e : hsT v x with
    | true => rfl
    | false =>
      obtain ⟨a, y, b, rfl, ha, hy⟩ := first_not (hsT v) l ⟨x, hx, e⟩
      rw [clb_append, Bool.and_eq_true] at hl
      obtain ⟨hl1, hl2⟩ := hl
      simp only [clb, Bool.and_eq_true] at hl2
      have hr := hl2.1
      have hb := run_below hl1 ha h0
      have hlq := lq_mono y.hv (by rw [run_length]; rfl) hv (rdy_lq hr) hb
      have hok := rdy_ok hr
      have hp := T.ok_p hok
      have hs := T.ok_s hok
      have e1 := rdy_s hr
      have e2 := hb y.p.toNat
      have e3 : v.getD y.p.toNat 0 < y.s := by
        rcases Int.lt_or_le (v.getD y.p.toNat 0) y.s with h' | h'
        · exact h'
        · rw [hsT_iff.2 ⟨hp, hs.1, h'⟩] at hy
          cases hy
      have hrd : rdy v y = true := rdy_mk hok (by omega) hlq
      rcases h.h y (h1 y (by simp)) with h' | h'
      · rw [h'] at hy; cases hy
      · rw [(h.n y h').2] at hrd; cases hrd
  have hw : wait = [] := by
    cases e : wait with
    | nil => rfl
    | cons x m =>
      have hx : x ∈ wait := by rw [e]; simp
      have := hall x (h2 x (h.w x hx))
      rw [(h.n x hx).1] at this
      cases this
  refine ⟨hw, ?_⟩
  have e : run zeros all = run zeros l := by
    refine list_ext13 (by rw [run_length]; rfl) (by rw [run_length]; rfl) fun i => Int.le_antisymm ?_ ?_
    · exact run_below h.c (fun y hy => has_run l zeros rfl hl y (h2 y (h.a y hy))) (run_nonneg hl) i
    · rw [← h.r]
      exact run_below hl hall h0 i
  have t1 := run_tot all zeros rfl h.c
  have t2 := run_tot l zeros rfl hl
  rw [e] at t1
  omega
/-- Places from one on, round. -/
theorem turn_ne {n f i j : Nat} (hi : i < n) (hj : j < i) : (j + f) % n ≠ (i + f) % n := by
  intro e
  have h := Nat.sub_mod_eq_zero_of_mod_eq e.symm
  rw [show i + f - (j + f) = i - j by omega, Nat.mod_eq_of_lt (by omega)] at h
  omega
theorem turn_at {n f k : Nat} (hk : k < n) : ∃ j, j < n ∧ (j + f) % n = k := by
  refine ⟨(k + (n - f % n)) % n, Nat.mod_lt _ (by omega), ?_⟩
  have hf := Nat.mod_lt f (show 0 < n by omega)
  rw [Nat.mod_add_mod, ← Nat.add_mod_mod, show k + (n - f % n) + f % n = k + n by omega, Nat.add_mod_right, Nat.mod_eq_of_lt hk]
end Go.Proofs.Ytcebchjokmampaa
/- A region that draws its order, walked in the text's order: what only reads is taken first, each in one word; what is alone in its turn (a call whose answer hangs on the world, an allocation, a store) is walked as it comes. Nothing of one program. -/
namespace Go.Proofs.Ytcebchjokmampaa.Held

/-- From the operation k on, those of the list. -/
def HL (P : Program) (ops : Array Oper) (Q : Exit → Act → World → Prop) (S : World → Prop) (l : List Oper) (k : Nat) (listed : Array Bool) (a : Act) (w : World) : Prop := (∀ j, l[j]? = ops[k + j]?) → wpAnyH P .any ops Q S l.length listed a w
section
variable {P : Program} {ops : Array Oper} {Q : Exit → Act → World → Prop} {S : World → Prop} {l : List Oper} {k : Nat} {listed : Array Bool} {a a' : Act} {w : World} {o : Oper}
theorem tail (hl : ∀ j, (o :: l)[j]? = ops[k + j]?) (j : Nat) : l[j]? = ops[k + 1 + j]? := by
  have := hl (j + 1)
  rw [show k + 1 + j = k + (j + 1) by omega]
  simpa using this
theorem take {v : Value} (hy : YieldsIf P ops S o v a) (hS : S w) (h : HL P ops Q S l (k + 1) (listed.setIfInBounds k true) (a.put o.dst v) w) (hs : Region.noSelect ops = true) (hf : Region.free .any ops listed k = true) (hr : (Region.ready .any ops listed).contains k = true) (hQ : ∀ c a w, Q (.panic c) (a.put o.dst v) w → Q (.panic c) a w) : HL P ops Q S (o :: l) k listed a w := fun hl =>
  wpAnyH_take (by simpa using (hl 0).symm) hs hf hr hQ hy hS (h (tail hl))
/-- Passed over. -/
theorem sk (hS : S w) (h : HL P ops Q S l (k + 1) (listed.setIfInBounds k true) a' w) (hw : Region.wanted o (yielded ops a.tmps) = false := by rfl) (hs : Region.noSelect ops = true := by kernel_rfl) (hf : Region.free .any ops listed k = true := by kernel_rfl) (hr : (Region.ready .any ops listed).contains k = true := by kernel_rfl) (hQ : ∀ c a w, Q (.panic c) (a.put o.dst undef) w → Q (.panic c) a w := by exact fun _ _ _ h => h)
    (hp : a.put o.dst undef = a' := by (simp only [Act.put, List.setIfInBounds_toArray, List.set_cons_zero, List.set_cons_succ]; rfl)) : HL P ops Q S (o :: l) k listed a w :=
  take (.inr ⟨hw, rfl⟩) hS (hp ▸ h) hs hf hr hQ
/-- Run to a value. -/
theorem pu {v : Value} (hS : S w) (h : HL P ops Q S l (k + 1) (listed.setIfInBounds k true) a' w) (hw : Region.wanted o (yielded ops a.tmps) = true := by rfl) (hv : ∀ w, S w → (execOp a.eval o).run P w = .ok (.value v) w := by (intro w hSw; go_simp <;> rfl)) (hs : Region.noSelect ops = true := by kernel_rfl) (hf : Region.free .any ops listed k = true := by kernel_rfl) (hr : (Region.ready .any ops listed).contains k = true := by kernel_rfl) (hQ : ∀ c a w, Q (.panic c) (a.put o.dst v) w → Q (.panic c) a w := by exact fun _ _ _ h => h)
    (hp : a.put o.dst v = a' := by (simp only [Act.put, List.setIfInBounds_toArray, List.set_cons_zero, List.set_cons_succ]; rfl)) : HL P ops Q S (o :: l) k listed a w :=
  take (.inl ⟨hw, hv⟩) hS (hp ▸ h) hs hf hr hQ
/-- A load of what a cell holds. -/
theorem ce {v : Value} {ad : Addr} (g : ∀ w, S w → w.cell? ad = some v) (hS : S w) (h : HL P ops Q S l (k + 1) (listed.setIfInBounds k true) a' w) (hw : Region.wanted o (yielded ops a.tmps) = true := by rfl) (hv : ∀ w, S w → w.cell? ad = some v → (execOp a.eval o).run P w = .ok (.value v) w := by (intro w hSw g1; go_simp)) (hs : Region.noSelect ops = true := by kernel_rfl) (hf : Region.free .any ops listed k = true := by kernel_rfl) (hr : (Region.ready .any ops listed).contains k = true := by kernel_rfl) (hQ : ∀ c a w, Q (.panic c) (a.put o.dst v) w → Q (.panic c) a w := by exact fun _ _ _ h => h)
    (hp : a.put o.dst v = a' := by (simp only [Act.put, List.setIfInBounds_toArray, List.set_cons_zero, List.set_cons_succ]; rfl)) : HL P ops Q S (o :: l) k listed a w :=
  take (.inl ⟨hw, fun w h => hv w h (g w h)⟩) hS (hp ▸ h) hs hf hr hQ
/-- A load of a struct. -/
theorem lm {b f : Nat} {cs : List Value} {t : TypeId} {d : TypeDesc} {x : Operand} (hz : (P.info? t).map (·.size) = some cs.length) (g : ∀ w, S w → w.rangeAt b f cs) (hu : P.underlying t = some d) (hS : S w) (h : HL P ops Q S l (k + 1) (listed.setIfInBounds k true) a' w) (hw : Region.wanted o (yielded ops a.tmps) = true := by rfl) (ho : o.op = .load t x := by rfl) (hx : a.eval x = .pointer (some ⟨b, f, none⟩) := by rfl) (hd : d.isRow = true := by rfl) (hs : Region.noSelect ops = true := by kernel_rfl) (hf : Region.free .any ops listed k = true := by kernel_rfl) (hr : (Region.ready .any ops listed).contains k = true := by kernel_rfl)
    (hQ : ∀ c a w, Q (.panic c) (a.put o.dst (.agg cs.toArray)) w → Q (.panic c) a w := by exact fun _ _ _ h => h) (hp : a.put o.dst (.agg cs.toArray) = a' := by (simp only [Act.put, List.setIfInBounds_toArray, List.set_cons_zero, List.set_cons_succ]; rfl)) : HL P ops Q S (o :: l) k listed a w :=
  take (.inl ⟨hw, fun w hw' => by
    have h2 := run_loadVar_mid (P := P) w b f t cs d (g w hw') hu hd hz
    unfold execOp
    simp only [ho, hx, Instr.loadAt, Instr.sureAddr, Sem.run_bind, Sem.run_pure, h2, Result.andThen_ok]⟩) hS (hp ▸ h) hs hf hr hQ
/-- The one whose turn it is. -/
theorem al (h : o.wp P a w (fun a' w' => S w' ∧ HL P ops Q S l (k + 1) (listed.setIfInBounds k true) a' w') Q) (hr : Region.ready .any ops listed = [k]) (hw : Region.wanted o (yielded ops a.tmps) = true) : HL P ops Q S (o :: l) k listed a w := fun hl =>
  wpAnyH_all hr (by simp) fun j hj => by
    obtain rfl : j = k := by simpa using hj
    have hi : ops[j]? = some o := by simpa using (hl 0).symm
    unfold wpOp
    simp only [hi, hw, if_true]
    exact .inl (Oper.wp_mono (fun a' w' h => ⟨h.1, h.2 (tail hl)⟩) h)
/-- It is a call of a function by its name. -/
theorem kn {f : FuncId} {us : Array Operand} {ts : Array TypeId} {args : List Value} {φ : Ending → World → Prop} {au : Value → Act} (hc : Calls P f args.toArray w φ) (h : ∀ e w', φ e w' → ∃ u, e = .returned u ∧ S w' ∧ HL P ops Q S l (k + 1) (listed.setIfInBounds k true) (au u) w')
    (hr : Region.ready .any ops listed = [k] := by kernel_rfl) (hw : Region.wanted o (yielded ops a.tmps) = true := by rfl) (hf : Calm.enters P f = true := by kernel_rfl)
    (ho : o.op = .call { callee := .value (.func f), args := us, argTypes := ts } := by rfl) (ha : us.toList.map a.eval = args := by rfl) (hp : ∀ u, a.put o.dst u = au u := by (intro u; simp only [Act.put, List.setIfInBounds_toArray, List.set_cons_zero, List.set_cons_succ]; rfl)) : HL P ops Q S (o :: l) k listed a w :=
  al (by
    have e : ∀ args, (callFunc f args).run P w = .ok (.enter f args) w := fun args => Calm.enters_run hf args w
    have hr' : (execOp a.eval o).run P w = .ok (.enter f args.toArray) w := by
      have ha' : us.map a.eval = args.toArray := by
        rw [← ha, ← Array.toList_map, Array.toArray_toList]
      unfold execOp
      rw [ho]
      simp [go_sem, Act.eval, e, ← ha']
    unfold Oper.wp
    rw [hr']
    refine hc.mono fun e w' he => ?_
    obtain ⟨u, rfl, h1, h2⟩ := h e w' he
    exact ⟨h1, hp u ▸ h2⟩) hr hw
/-- It comes to a value, or to nothing, and leaves another world. -/
theorem vl {v : Value} {w1 : World} (hv : (execOp a.eval o).run P w = .ok (.value v) w1) (hS : S w1) (h : HL P ops Q S l (k + 1) (listed.setIfInBounds k true) a' w1) (hr : Region.ready .any ops listed = [k] := by kernel_rfl) (hw : Region.wanted o (yielded ops a.tmps) = true := by rfl) (hp : a.put o.dst v = a' := by (simp only [Act.put, List.setIfInBounds_toArray, List.set_cons_zero, List.set_cons_succ]; rfl)) : HL P ops Q S (o :: l) k listed a w :=
  al (by
    unfold Oper.wp
    rw [hv]
    exact ⟨hS, hp ▸ h⟩) hr hw
theorem st {w1 : World} (hv : (execOp a.eval o).run P w = .ok .skip w1) (hS : S w1) (h : HL P ops Q S l (k + 1) (listed.setIfInBounds k true) a' w1) (hr : Region.ready .any ops listed = [k] := by kernel_rfl) (hw : Region.wanted o (yielded ops a.tmps) = true := by rfl) (hp : a.put o.dst undef = a' := by (simp only [Act.put, List.setIfInBounds_toArray, List.set_cons_zero, List.set_cons_succ]; rfl)) : HL P ops Q S (o :: l) k listed a w :=
  al (by
    unfold Oper.wp
    rw [hv]
    exact ⟨hS, hp ▸ h⟩) hr hw
/-- A store of a struct, or of what a cell holds. -/
theorem ss {w1 : World} {t : TypeId} {x y : Operand} {pv vv : Value} (hv : (Instr.storeAt t pv vv).run P w = .ok () w1) (hS : S w1) (h : HL P ops Q S l (k + 1) (listed.setIfInBounds k true) a' w1) (hr : Region.ready .any ops listed = [k] := by kernel_rfl) (hw : Region.wanted o (yielded ops a.tmps) = true := by rfl) (ho : o.op = .store t x y := by rfl) (hx : a.eval x = pv := by rfl) (hy : a.eval y = vv := by rfl) (hp : a.put o.dst undef = a' := by (simp only [Act.put, List.setIfInBounds_toArray, List.set_cons_zero, List.set_cons_succ]; rfl)) : HL P ops Q S (o :: l) k listed a w :=
  al (by
    unfold Oper.wp execOp
    simp only [ho, hx, hy, Sem.run_bind, hv, Result.andThen_ok, Sem.run_pure]
    exact ⟨hS, hp ▸ h⟩) hr hw
/-- All have come up. -/
theorem dn (h : Q .normal a w) (hr : Region.ready .any ops listed = [] := by kernel_rfl) : HL P ops Q S [] k listed a w := fun _ => wpAnyH_done hr h _
theorem region {id : Nat} (S : World → Prop) (hm : P.follows .mixedOrders = true) (h : HL P l.toArray Q S l 0 (Array.replicate l.length false) a w.drew) : (Code.region id l.toArray true).wp P Q a w := wp_region_held (S := S) hm (by
  have := h (fun j => by simp)
  simpa using this)
end
end Go.Proofs.Ytcebchjokmampaa.Held
/- Next and Leq of the document's vectors. -/
namespace Go.Proofs.Ytcebchjokmampaa
open Go.RowKit

theorem two_at (w : World) (a b : List Int) (ha : a.length = 13) (hb : b.length = 13) : At ((w.alloc (.cells (vals a).toArray 23)).alloc (.cells (vals b).toArray 23)) w.heap.size a ∧ At ((w.alloc (.cells (vals a).toArray 23)).alloc (.cells (vals b).toArray 23)) (w.heap.size + 1) b ∧ Below w.heap.size w ((w.alloc (.cells (vals a).toArray 23)).alloc (.cells (vals b).toArray 23)) :=
  ⟨(at_new w a ha).alloc _, at_next _ (by simp) b hb, ((Below.refl _ _).alloc (Nat.le_refl _) _).alloc (by simp) _⟩
set_option maxHeartbeats 2000000 in
set_option maxRecDepth 100000 in
theorem refLeq_any (a b : List Int) (w : World) (ha : a.length = 13) (hb : b.length = 13) : Calls Try.prog 13 #[V a, V b] w (Tells (.bool (lq a b)) w) := by
  obtain ⟨h1, h2, hbel⟩ := two_at w a b ha hb
  generalize hW : (w.alloc (.cells (vals a).toArray 23)).alloc (.cells (vals b).toArray 23) = w0 at h1 h2 hbel
  obtain ⟨z, HZ⟩ := hid_ex (lq a b)
  rw [HZ.out]
  go_enter Try.func13, Try.ntmps13
  go_wp2_with (rw [hW])
  clear hW
  go_loopw [5] (fun vi wr => ∃ k : Nat, vi = .int .i64 k ∧ k ≤ 13 ∧ Hid (∀ i, i < k → a.getD i 0 ≤ b.getD i 0) ∧ At wr w.heap.size a ∧ At wr (w.heap.size + 1) b ∧ Below w.heap.size w wr) (fun vi _ => 13 - (intOf vi).toNat)
  case atStart => exact ⟨0, rfl, by omega, (show ∀ i, i < 0 → _ from fun i h => by omega), h1, h2, hbel⟩
  case round =>
    clear h1 h2 hbel
    obtain ⟨k, rfl, hk, HV, h1, h2, hbel⟩ := hrel
    by_cases hlt : k < 13
    · have hlt' : (k : Int) ≤ 12 := by omega
      have hlt2 : (k : Int) < 13 := by omega
      have c1 := h1.cell hlt
      have c2 := h2.cell hlt
      have HC : Hid (lq a b = true → a.getD k 0 ≤ b.getD k 0) := fun h => (lq_iff ha hb).1 h k hlt
      obtain ⟨x, HX⟩ := hid_ex (a.getD k 0)
      obtain ⟨y, HY⟩ := hid_ex (b.getD k 0)
      rw [HX.out] at c1
      rw [HY.out] at c2
      by_cases hxy : y < x
      · obtain rfl : false = z := by
          rw [← HZ.out]
          cases e : lq a b with
          | false => rfl
          | true =>
            have := HC.out e
            rw [HX.out, HY.out] at this
            omega
        go_wp2_with fail
        refine Calm.region (by kernel_rfl) (by kernel_rfl) (fun w' => w'.cell? ⟨w.heap.size, k, none⟩ = some (.int .i64 x) ∧ w'.cell? ⟨w.heap.size + 1, k, none⟩ = some (.int .i64 y) ∧ Below w.heap.size w w') ⟨c1, c2, hbel.drew⟩ ?_
        iterate 2 (refine Calm.pu ?_)
        refine Calm.ce (fun _ h => h.1) ?_
        iterate 2 (refine Calm.pu ?_)
        refine Calm.ce (fun _ h => h.2.1) ?_
        refine Calm.pu ?_
        intro w3 hS3
        go_wp2_with fail
        go_ret
        exact ⟨rfl, hS3.2.2⟩
      · have HV2 : Hid (∀ i, i < k + 1 → a.getD i 0 ≤ b.getD i 0) := fun i hi => by
          rcases Nat.lt_or_ge i k with h3 | h3
          · exact HV.out i h3
          · obtain rfl : i = k := by omega
            rw [HX.out, HY.out]
            omega
        go_wp2_with fail
        refine Calm.region (by kernel_rfl) (by kernel_rfl) (fun w' => w'.cell? ⟨w.heap.size, k, none⟩ = some (.int .i64 x) ∧ w'.cell? ⟨w.heap.size + 1, k, none⟩ = some (.int .i64 y) ∧ Below wr.heap.size wr w') ⟨c1, c2, (Below.refl _ _).drew⟩ ?_
        iterate 2 (refine Calm.pu ?_)
        refine Calm.ce (fun _ h => h.1) ?_
        iterate 2 (refine Calm.pu ?_)
        refine Calm.ce (fun _ h => h.2.1) ?_
        refine Calm.pu ?_
        intro w3 hS3
        go_wp2_with fail
        go_roundw
        case rel => exact ⟨k + 1, by simp, by omega, HV2, h1.later hS3.2.2, h2.later hS3.2.2, below_on hbel hS3.2.2⟩
        case measure => simp [intOf]; omega
    · obtain rfl : k = 13 := by omega
      obtain rfl : true = z := by
        rw [← HZ.out]
        exact ((lq_iff ha hb).2 fun i hi => HV.out i hi).symm
      go_wp2_with fail
      go_ret
      exact ⟨rfl, hbel⟩
/-- The next one, of a peer's number and one that a transaction may have. -/
def nxt (v : List Int) (p s : Int) : Bool := decide (v.getD p.toNat 0 + 1 = s)
set_option maxHeartbeats 2000000 in
set_option maxRecDepth 100000 in
theorem refNext_any (v : List Int) (p s : Int) (w : World) (hv : v.length = 13) (hp : 1 ≤ p ∧ p ≤ 12) (hs : 1 ≤ s ∧ s ≤ 1048576) : Calls Try.prog 35 #[V v, D p s] w (Tells (.bool (nxt v p s)) w) := by
  obtain ⟨n, rfl⟩ : ∃ n : Nat, p = (n : Int) := ⟨p.toNat, by omega⟩
  have hn : n < 13 := by omega
  have hn' : (n : Int) < 13 := by omega
  have C := fun w' => peer_any (n : Int) w'
  rw [show wi (n : Int) 1 12 = true by unfold wi; simp; omega] at C
  have e1 : IntKind.i64.wrap (s - 1) = s - 1 := by rw [IntKind.wrap_i64]; omega
  obtain ⟨R1, R2, hbel⟩ := two_rows w (vals v).toArray 23 #[.int .i64 (n : Int), .int .i64 s] 40
  have A1 : At ((w.alloc (.cells (vals v).toArray 23)).alloc (.cells #[.int .i64 (n : Int), .int .i64 s] 40)) w.heap.size v := ⟨hv, R1⟩
  have c1 := A1.cell hn
  have d1 := R2.cell 0
  have d2 := R2.cell 1
  generalize hW : (w.alloc (.cells (vals v).toArray 23)).alloc (.cells #[.int .i64 (n : Int), .int .i64 s] 40) = w0 at c1 d1 d2 hbel
  clear A1 R1 R2
  unfold nxt
  rw [show ((n : Int)).toNat = n by simp]
  generalize v.getD n 0 = x at c1
  have hs3 : Calm.Stays (fun w' : World => w'.cell? ⟨w.heap.size, n, none⟩ = some (.int .i64 x) ∧ w'.cell? ⟨w.heap.size + 1, 0, none⟩ = some (.int .i64 n) ∧ w'.cell? ⟨w.heap.size + 1, 1, none⟩ = some (.int .i64 s) ∧ Below w.heap.size w w') := fun a b h hb => ⟨cell_later hb h.1, cell_later hb h.2.1, cell_later hb h.2.2.1, below_on h.2.2.2 hb⟩
  go_enter Try.func35, Try.ntmps35
  go_wp2_with (rw [hW])
  clear hW
  by_cases hx : x < s
  all_goals
    refine Calm.region (by kernel_rfl) (by kernel_rfl) (fun w' => w'.cell? ⟨w.heap.size, n, none⟩ = some (.int .i64 x) ∧ w'.cell? ⟨w.heap.size + 1, 0, none⟩ = some (.int .i64 n) ∧ w'.cell? ⟨w.heap.size + 1, 1, none⟩ = some (.int .i64 s) ∧ Below w.heap.size w w') ⟨c1, d1, d2, hbel.drew⟩ ?_
    refine Calm.pu ?_
    refine Calm.ce (fun _ h => h.2.1) ?_
    refine Calm.k1 hs3 (fun w' _ => C w') ?_
    iterate 2 (refine Calm.pu ?_)
    refine Calm.ce (fun _ h => h.2.2.1) ?_
    refine Calm.pu ?_
    refine Calm.ce (fun _ h => h.2.1) ?_
    refine Calm.pu ?_
    refine Calm.ce (fun _ h => h.1) ?_
    iterate 3 (refine Calm.pu ?_)
  · refine Calm.pu ?_
    refine Calm.ce (fun _ h => h.2.2.1) ?_
    iterate 2 (refine Calm.pu ?_)
    refine Calm.ce (fun _ h => h.2.1) ?_
    refine Calm.pu ?_
    refine Calm.ce (fun _ h => h.1) ?_
    iterate 3 (refine Calm.pu ?_)
    intro w3 hS3
    go_wp2_with fail
    go_ret
    refine tells_bool ?_ hS3.2.2.2
    rw [Bool.eq_iff_iff, beq_iff_eq, decide_eq_true_eq]
    omega
  · iterate 8 (refine Calm.sk ?_)
    iterate 2 (refine Calm.pu ?_)
    intro w3 hS3
    go_wp2_with fail
    go_ret
    refine tells_bool ?_ hS3.2.2.2
    symm
    rw [decide_eq_false_iff_not]
    omega
end Go.Proofs.Ytcebchjokmampaa
/- rest of the document's answer. -/
namespace Go.Proofs.Ytcebchjokmampaa
open Go.RowKit

set_option maxHeartbeats 16000000 in
set_option maxRecDepth 100000 in
theorem rest_any (p s : Int) (v : List Int) (t : Int) (sl : Value) (l : List O) (w : World) (hv : v.length = 13) (ho : OHas w sl l) : Calls Try.prog 36 #[TxV p s v t sl] w (Tells (.bool (sn p s v t l)) w) := by
  obtain ⟨q, c, rfl, hm, hr⟩ := ho
  have HR : Hid (0 < l.length → ∃ g o, q = some ⟨g, o, none⟩ ∧ ∀ i (h : i < l.length), w.rangeAt g (o + i * 10) l[i].cells) := hr
  clear hr
  have hml := maxLen_lt hm
  have C0 := fun w => refCheck_any v w hv
  obtain ⟨r, Hr⟩ := hid_ex (chk v)
  obtain ⟨y, HY⟩ := hid_ex (wi t 1 1099511627776)
  rw [Hr.out] at C0
  obtain ⟨z, HZ⟩ := hid_ex (allB (gd p s v) 0 l)
  obtain ⟨m, HM⟩ := hid_ex (decide (l.length ≤ 16))
  have R := rw_new w 43 (txc p s v t (.slice q l.length c)).toArray
  have hbel : Below w.heap.size w (w.alloc (.cells (txc p s v t (.slice q l.length c)).toArray 43)) := bel_alloc (Below.refl _ _) _
  have z25 := info23 hv
  generalize hW : w.alloc (.cells (txc p s v t (.slice q l.length c)).toArray 43) = w0 at R hbel
  unfold sn
  rw [Hr.out, HY.out, HZ.out, HM.out]
  go_enter Try.func36, Try.ntmps36
  go_wp2_with (first | refine load_m 23 _ rfl rfl _ _ rfl (tx_vec R) Try.underlying23 rfl z25 ?_)
  refine (C0 _).mono ?_
  rintro e w1 ⟨rfl, hb1⟩
  clear hW
  replace R := R.later hb1
  replace hbel := below_on hbel hb1
  clear hb1
  have c15 := tx_time R hv
  have c16 := tx_ops R hv
  cases r
  · go_wp2_with fail
    go_ret
    exact ⟨rfl, hbel⟩
  · cases y
    · have hw : ¬ (1 ≤ t ∧ t ≤ 1099511627776) := by
        have h := HY.out
        unfold wi at h
        grind
      by_cases h1 : t < 1
      · go_wp2_with fail
        go_ret
        exact ⟨rfl, hbel⟩
      · have h2 : 1099511627776 < t := by omega
        go_wp2_with fail
        go_ret
        exact ⟨rfl, hbel⟩
    · have hw : 1 ≤ t ∧ t ≤ 1099511627776 := by
        have h := HY.out
        unfold wi at h
        grind
      have h1 : ¬ t < 1 := by omega
      have h2 : ¬ 1099511627776 < t := by omega
      clear hw
      cases m
      case true =>
        have h16 : l.length ≤ 16 := of_decide_eq_true HM.out
        have h16' : ¬ (16 : Int) < (l.length : Int) := by omega
        have Rn := rw_new w1 55 #[.int .i64 0, .int .i64 0, .int .i64 0]
        replace R := R.alloc (.cells #[.int .i64 0, .int .i64 0, .int .i64 0] 55)
        replace hbel := bel_alloc hbel (.cells #[.int .i64 0, .int .i64 0, .int .i64 0] 55)
        go_wp2_with fail
        generalize w1.alloc (.cells #[.int .i64 0, .int .i64 0, .int .i64 0] 55) = w2 at Rn R hbel ⊢
        clear c15 c16
        generalize w1.heap.size = bn at Rn ⊢
        clear C0 Hr HY HM z25 h16'
        go_loopw [4] (fun vi wr => ∃ k : Nat, vi = .int .i64 k ∧ k ≤ l.length ∧ Hid (∀ i (h : i < l.length), i < k → gd p s v i l[i] = true) ∧ Rw wr w.heap.size 43 (txc p s v t (.slice q l.length c)).toArray ∧ Rw wr bn 55 #[.int .i64 0, .int .i64 0, .int .i64 0] ∧ Below w.heap.size w wr) (fun vi _ => l.length - (intOf vi).toNat)
        case atStart => exact ⟨0, rfl, by omega, (show ∀ i (h : i < l.length), i < 0 → _ from fun i _ h => by omega), R, Rn, hbel⟩
        case round =>
          clear R Rn hbel
          obtain ⟨k, rfl, hk, HV, R, Rn, hbel⟩ := hrel
          have c16 := tx_ops R hv
          by_cases hlt : k < l.length
          · have hlt' : (k : Int) < (l.length : Int) := by omega
            obtain ⟨g, o, rfl, hd⟩ := HR.out (by omega)
            have d := range_later (hd k hlt) hbel
            clear HR hd
            have hk16 : k < 16 := by omega
            obtain ⟨x, HX⟩ := hid_ex l[k]
            rw [HX.out] at d
            have z35 : (Try.prog.info? 57).map (·.size) = some x.cells.length := size57
            have C1 := fun w => refOp_any x.k x.key x.field x.inner x.act x.n x.text x.p x.s x.i w
            have C2 := fun w => refBefore_any x.p x.s x.i p s v t (.slice (some ⟨g, o, none⟩) l.length c) ((k : Int) + 1) w hv
            have E := fun w => eq_mark w x.p x.s x.i 0 0 0
            obtain ⟨a, HA⟩ := hid_ex (co x.k x.key x.field x.inner x.act x.n x.text x.p x.s x.i)
            obtain ⟨b, HB⟩ := hid_ex (decide (x.p = 0) && decide (x.s = 0) && decide (x.i = 0))
            obtain ⟨f, HC⟩ := hid_ex (bf x.p x.s x.i p s v ((k : Int) + 1))
            clear h16 hml hm hk
            rw [HA.out] at C1
            rw [HB.out] at E
            rw [HC.out] at C2
            have R3 := rw_new wr 57 #[.int .i64 x.k, .string x.key, .string x.field, .int .i64 x.inner, .int .i64 x.act, .int .i64 x.n, .string x.text, .int .i64 x.p, .int .i64 x.s, .int .i64 x.i]
            replace R := R.alloc (.cells #[.int .i64 x.k, .string x.key, .string x.field, .int .i64 x.inner, .int .i64 x.act, .int .i64 x.n, .string x.text, .int .i64 x.p, .int .i64 x.s, .int .i64 x.i] 57)
            replace hbel := bel_alloc hbel (.cells #[.int .i64 x.k, .string x.key, .string x.field, .int .i64 x.inner, .int .i64 x.act, .int .i64 x.n, .string x.text, .int .i64 x.p, .int .i64 x.s, .int .i64 x.i] 57)
            replace Rn := Rn.alloc (.cells #[.int .i64 x.k, .string x.key, .string x.field, .int .i64 x.inner, .int .i64 x.act, .int .i64 x.n, .string x.text, .int .i64 x.p, .int .i64 x.s, .int .i64 x.i] 57)
            have zr : (Try.prog.info? 55).map (·.size) = some [Value.int .i64 x.p, Value.int .i64 x.s, Value.int .i64 x.i].length := size55
            generalize hW : wr.alloc (.cells #[.int .i64 x.k, .string x.key, .string x.field, .int .i64 x.inner, .int .i64 x.act, .int .i64 x.n, .string x.text, .int .i64 x.p, .int .i64 x.s, .int .i64 x.i] 57) = w2 at R R3 hbel Rn
            go_wp2_with (first | refine load_m 57 _ rfl rfl _ _ rfl d Try.underlying57 rfl z35 ?_ | refine load_r 57 _ rfl rfl _ rfl R3 Try.underlying57 rfl size57 ?_)
            refine (C1 _).mono ?_
            rintro e w3 ⟨rfl, hb3⟩
            clear hW d C1 z35
            replace R := R.later hb3
            replace R3 := R3.later hb3
            replace Rn := Rn.later hb3
            replace hbel := below_on hbel hb3
            clear hb3
            cases a
            · have HF : Hid (z = false) := all_not HZ hlt HX (gd_not HA.out)
              clear HV HX HZ
              clear HA HB HC
              go_wp2_with fail
              go_ret
              exact ⟨by rw [HF.out]; rfl, hbel⟩
            · have dr := op_ref (x := x) R3
              cases b
              · go_wp2_with (first | refine load_m 55 _ rfl rfl _ _ rfl dr Try.underlying55 rfl zr ?_ | refine load_r 55 _ rfl rfl _ rfl Rn Try.underlying55 rfl size55 ?_ | refine load_r 43 _ rfl rfl _ rfl R Try.underlying43 rfl (size_tx hv) ?_)
                refine (C2 _).mono ?_
                rintro e w4 ⟨rfl, hb4⟩
                clear C2
                replace R := R.later hb4
                replace R3 := R3.later hb4
                replace Rn := Rn.later hb4
                replace hbel := below_on hbel hb4
                clear hb4
                cases f
                · have HF : Hid (z = false) := all_not HZ hlt HX (gd_none HB.out HC.out)
                  clear HV HX HZ
                  clear HA HB HC
                  go_wp2_with fail
                  go_ret
                  exact ⟨by rw [HF.out]; rfl, hbel⟩
                · have HV2 : Hid (∀ i (h : i < l.length), i < k + 1 → gd p s v i l[i] = true) := ok_next HV hlt (by rw [HX.out]; exact gd_bef HA.out HC.out)
                  clear HV HX HZ HA HB HC
                  go_wp2_with fail
                  go_roundw
                  case rel => exact ⟨k + 1, by simp, hlt, HV2, R, Rn, hbel⟩
                  case measure => simp [intOf]; omega
              · have HV2 : Hid (∀ i (h : i < l.length), i < k + 1 → gd p s v i l[i] = true) := ok_next HV hlt (by rw [HX.out]; exact gd_ref HA.out HB.out)
                clear HV HX HZ HA HB HC C2 dr
                have q7 : w3.cell? ⟨wr.heap.size, 7, none⟩ = some (.int .i64 x.p) := R3.cell 7
                have q8 : w3.cell? ⟨wr.heap.size, 8, none⟩ = some (.int .i64 x.s) := R3.cell 8
                have q9 : w3.cell? ⟨wr.heap.size, 9, none⟩ = some (.int .i64 x.i) := R3.cell 9
                have m0 : w3.cell? ⟨bn, 0, none⟩ = some (.int .i64 0) := Rn.cell 0
                have m1 : w3.cell? ⟨bn, 1, none⟩ = some (.int .i64 0) := Rn.cell 1
                have m2 : w3.cell? ⟨bn, 2, none⟩ = some (.int .i64 0) := Rn.cell 2
                go_wp2_with fail
                go_roundw
                case rel => exact ⟨k + 1, by simp, hlt, HV2, R, Rn, hbel⟩
                case measure => simp [intOf]; omega

          · have hlt' : ¬ (k : Int) < (l.length : Int) := by omega
            have HT : Hid (z = true) := by
              show z = true
              rw [← HZ.out, allB_iff]
              intro i hi
              rw [Nat.zero_add]
              exact HV.out i hi (by omega)
            clear HR HV HZ
            go_wp2_with fail
            go_ret
            exact ⟨by rw [HT.out]; rfl, hbel⟩
      case false =>
        have h16 : ¬ l.length ≤ 16 := of_decide_eq_false HM.out
        have h16' : (16 : Int) < (l.length : Int) := by omega
        go_wp2_with (fail)
        go_ret
        exact ⟨rfl, hbel⟩
end Go.Proofs.Ytcebchjokmampaa
