/- Rising lists of numbers: one put in, those that a transaction names put in, those that are there. Nothing of one function. -/
import Derived.Test.YtefpdcpcjfjblaaRos
namespace Go.Proofs.Ytefpdcpcjfjblaa
open Go.RowKit

/-- Numbers that rise. -/
def Up (l : List Int) : Prop := l.Pairwise (· < ·)
theorem Up.nil : Up [] := List.Pairwise.nil
theorem up_ext : ∀ {l m : List Int}, Up l → Up m → (∀ x, x ∈ l ↔ x ∈ m) → l = m
  | [], [], _, _, _ => rfl
  | [], y :: m, _, _, h => absurd ((h y).2 (List.mem_cons_self ..)) (by simp)
  | x :: l, [], _, _, h => absurd ((h x).1 (List.mem_cons_self ..)) (by simp)
  | x :: l, y :: m, hl, hm, h => by
    obtain ⟨h1, h2⟩ := List.pairwise_cons.1 hl
    obtain ⟨h3, h4⟩ := List.pairwise_cons.1 hm
    have e : x = y := by
      rcases List.mem_cons.1 ((h x).1 (List.mem_cons_self ..)) with a | a
      · exact a
      rcases List.mem_cons.1 ((h y).2 (List.mem_cons_self ..)) with b | b
      · exact b.symm
      have := h3 x a
      have := h1 y b
      omega
    subst e
    rw [up_ext h2 h4 fun z => ?_]
    constructor
    · intro hz
      rcases List.mem_cons.1 ((h z).1 (List.mem_cons_of_mem _ hz)) with a | a
      · have := h1 z hz
        omega
      · exact a
    · intro hz
      rcases List.mem_cons.1 ((h z).2 (List.mem_cons_of_mem _ hz)) with a | a
      · have := h3 z hz
        omega
      · exact a
theorem Up.nodup {l : List Int} (h : Up l) : l.Nodup := List.Pairwise.imp_of_mem (fun _ _ hab e => by omega) h
/-- One put in. -/
def insI (n : Int) : List Int → List Int
  | [] => [n]
  | x :: l => if n < x then n :: x :: l else if n = x then x :: l else x :: insI n l
theorem mem_insI (n y : Int) : ∀ l : List Int, y ∈ insI n l ↔ y = n ∨ y ∈ l
  | [] => by simp [insI]
  | x :: l => by
    unfold insI
    split
    · simp
    · split
      · rename_i e
        subst e
        simp
      · rw [List.mem_cons, mem_insI n y l, List.mem_cons]
        constructor
        · rintro (h | h | h) <;> simp [h]
        · rintro (h | h | h) <;> simp [h]
theorem up_insI (n : Int) : ∀ l : List Int, Up l → Up (insI n l)
  | [], _ => List.pairwise_singleton ..
  | x :: l, h => by
    obtain ⟨h1, h2⟩ := List.pairwise_cons.1 h
    unfold insI
    split
    · rename_i a
      exact List.pairwise_cons.2 ⟨fun z hz => by
        rcases List.mem_cons.1 hz with e | e
        · omega
        · have := h1 z e
          omega, h⟩
    · split
      · exact h
      · exact List.pairwise_cons.2 ⟨fun z hz => by
          rcases (mem_insI n z l).1 hz with e | e
          · omega
          · exact h1 z e, up_insI n l h2⟩
theorem ins_mem {n : Int} {l : List Int} (hl : Up l) (h : n ∈ l) : insI n l = l :=
  up_ext (up_insI n l hl) hl fun x => by
    rw [mem_insI]
    constructor
    · rintro (rfl | h')
      · exact h
      · exact h'
    · exact .inr
/-- Several put in. -/
def upL (l m : List Int) : List Int := m.foldl (fun a n => insI n a) l
theorem upL_nil (l : List Int) : upL l [] = l := rfl
theorem upL_snoc (l m : List Int) (n : Int) : upL l (m ++ [n]) = insI n (upL l m) := by simp [upL, List.foldl_append]
theorem mem_upL (y : Int) : ∀ m l : List Int, y ∈ upL l m ↔ y ∈ l ∨ y ∈ m
  | [], l => by simp [upL]
  | n :: m, l => by
    show y ∈ upL (insI n l) m ↔ _
    rw [mem_upL y m, mem_insI, List.mem_cons]
    constructor
    · rintro ((h | h) | h) <;> simp [h]
    · rintro (h | h | h) <;> simp [h]
theorem up_upL : ∀ m l : List Int, Up l → Up (upL l m)
  | [], _, h => h
  | n :: m, l, h => up_upL m (insI n l) (up_insI n l h)
theorem upL_comm {l a b : List Int} (h : Up l) : upL (upL l a) b = upL (upL l b) a :=
  up_ext (up_upL _ _ (up_upL _ _ h)) (up_upL _ _ (up_upL _ _ h)) fun x => by
    rw [mem_upL, mem_upL, mem_upL, mem_upL]
    constructor
    · rintro ((h | h) | h) <;> simp [h]
    · rintro ((h | h) | h) <;> simp [h]
theorem ckI_up : ∀ l : List Int, ckI l = true ↔ Up l ∧ ∀ x ∈ l, 1 ≤ x ∧ x ≤ 12
  | [] => by simp [ckI, Up]
  | [x] => by simp [ckI, Up, wi_iff]
  | x :: y :: l => by
    rw [ckI, Bool.and_eq_true, ckI_up (y :: l), Bool.and_eq_true, decide_eq_true_eq, wi_iff]
    constructor
    · rintro ⟨⟨h1, h2⟩, h3, h4⟩
      refine ⟨List.pairwise_cons.2 ⟨fun z hz => ?_, h3⟩, fun z hz => ?_⟩
      · rcases List.mem_cons.1 hz with e | e
        · omega
        · have := (List.pairwise_cons.1 h3).1 z e
          omega
      · rcases List.mem_cons.1 hz with e | e
        · subst e
          exact h1
        · exact h4 z e
    · rintro ⟨h1, h2⟩
      obtain ⟨h3, h4⟩ := List.pairwise_cons.1 h1
      exact ⟨⟨h2 x (List.mem_cons_self ..), h3 y (List.mem_cons_self ..)⟩, h4, fun z hz => h2 z (List.mem_cons_of_mem _ hz)⟩
theorem up_len : ∀ (l : List Int) (a : Int), Up l → a ≤ 13 → (∀ x ∈ l, a ≤ x ∧ x ≤ 12) → (l.length : Int) ≤ 13 - a
  | [], a, _, h, _ => by simp; omega
  | x :: l, a, hu, _, h => by
    obtain ⟨h1, h2⟩ := List.pairwise_cons.1 hu
    have hx := h x (List.mem_cons_self ..)
    have := up_len l (x + 1) h2 (by omega) fun z hz => ⟨by have := h1 z hz; omega, (h z (List.mem_cons_of_mem _ hz)).2⟩
    simp only [List.length_cons]
    omega
theorem ck_len {l : List Int} (h : ckI l = true) : l.length ≤ 12 := by
  obtain ⟨h1, h2⟩ := (ckI_up l).1 h
  have := up_len l 1 h1 (by omega) h2
  omega
/-- Those that ops of the roster name by an act. -/
def nms (a : Int) (l : List O) : List Int := (l.filter fun o => decide (o.k = 7) && decide (o.act = a)).map (·.n)
theorem nms_nil (a : Int) : nms a [] = [] := rfl
theorem nms_snoc (a : Int) (l : List O) (o : O) : nms a (l ++ [o]) = if o.k = 7 ∧ o.act = a then nms a l ++ [o.n] else nms a l := by
  unfold nms
  rw [List.filter_append, List.map_append]
  by_cases h : o.k = 7 ∧ o.act = a
  · rw [if_pos h]
    simp [h.1, h.2]
  · rw [if_neg h]
    have : (decide (o.k = 7) && decide (o.act = a)) = false := by
      rw [Bool.eq_false_iff, Ne, Bool.and_eq_true, decide_eq_true_eq, decide_eq_true_eq]
      exact h
    simp [this]
theorem mem_nms {a y : Int} {l : List O} (h : y ∈ nms a l) : ∃ o ∈ l, o.k = 7 ∧ o.act = a ∧ o.n = y := by
  obtain ⟨o, ho, rfl⟩ := List.mem_map.1 h
  obtain ⟨h1, h2⟩ := List.mem_filter.1 ho
  rw [Bool.and_eq_true, decide_eq_true_eq, decide_eq_true_eq] at h2
  exact ⟨o, h1, h2.1, h2.2, rfl⟩
/-- Those of a that are not among b. -/
def lv (a b : List Int) : List Int := a.filter fun x => !b.contains x
theorem mem_lv {a b : List Int} {x : Int} : x ∈ lv a b ↔ x ∈ a ∧ x ∉ b := by simp [lv]
theorem up_lv {a b : List Int} (h : Up a) : Up (lv a b) := List.Pairwise.filter _ h
/-- Sorted, numbers of which none is there twice are those that rise. -/
theorem sort_up {l s : List Int} (hn : l.Nodup) (hs : Up s) (h : ∀ x, x ∈ l ↔ x ∈ s) : l.mergeSort (fun x y => decide (x ≤ y)) = s := by
  refine up_ext ?_ hs fun x => by rw [List.mem_mergeSort, h]
  have h1 := List.pairwise_mergeSort (le := fun x y : Int => decide (x ≤ y)) (fun a b c h1 h2 => by simp only [decide_eq_true_eq] at *; omega) (fun a b => by simp only [Bool.or_eq_true, decide_eq_true_eq]; omega) l
  have h2 : (l.mergeSort (fun x y => decide (x ≤ y))).Nodup := (List.mergeSort_perm l _).nodup_iff.2 hn
  exact (h1.and h2).imp_of_mem fun {a b} _ _ h => by
    have := h.1
    have := h.2
    simp only [decide_eq_true_eq] at *
    omega
end Go.Proofs.Ytefpdcpcjfjblaa
