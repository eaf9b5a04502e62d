/- Texts that rise, each once. Nothing of the program. -/
import Derived.Test.YtknpnjhedfdggaaOrd
import Derived.Sort.KeysCollected
namespace Go.Proofs.Ytknpnjhedfdggaa
open Go.RowKit Go.Sort

/-- A text as bytes. -/
abbrev Bs := List UInt8
abbrev bs (x : ByteArray) : Bs := x.data.toList
theorem Bs.irr (a : Bs) : ¬ a < a := List.lt_irrefl a
theorem Bs.le_of {a b : Bs} (h : a < b) : a ≤ b := by
  rcases List.le_total a b with k | k
  · exact k
  · exact absurd h (List.not_lt.2 k)
theorem Bs.tri {a b : Bs} (h : ¬ a < b) (k : a ≠ b) : b < a := by
  have h1 : b ≤ a := List.not_lt.1 h
  rcases Classical.em (b < a) with h2 | h2
  · exact h2
  · exact absurd (List.le_antisymm (List.not_lt.1 h2) h1) k
theorem Bs.trans {a b c : Bs} (h : a < b) (k : b < c) : a < c := List.lt_trans h k
theorem Bs.asymm {a b : Bs} (h : a < b) : ¬ b < a := fun k => Bs.irr a (Bs.trans h k)
/-- A text put among rising ones, once. -/
def insT (l : List Bs) (s : Bs) : List Bs := l.filter (fun y => decide (y < s)) ++ s :: l.filter (fun y => !decide (y < s))
def rise (l : List Bs) (s : Bs) : List Bs := if s ∈ l then l else insT l s
def txs (l : List Bs) : List Bs := l.foldl rise []
abbrev up (l : List Bs) : Prop := l.Pairwise (fun a b => a < b)
theorem txs_snoc (l : List Bs) (s : Bs) : txs (l ++ [s]) = rise (txs l) s := by simp [txs]
theorem txs_nil : txs [] = [] := rfl
theorem txs_one (s : Bs) : txs [s] = [s] := by simp [txs, rise, insT]
theorem insT_mem (l : List Bs) (s x : Bs) : x ∈ insT l s ↔ x = s ∨ x ∈ l := by
  unfold insT
  simp only [List.mem_append, List.mem_cons, List.mem_filter]
  by_cases h : x < s
  · simp [h]
    exact ⟨fun k => k.elim .inr .inl, fun k => k.elim .inr .inl⟩
  · simp [h]
theorem rise_mem (l : List Bs) (s x : Bs) : x ∈ rise l s ↔ x = s ∨ x ∈ l := by
  unfold rise
  split
  · rename_i h
    exact ⟨.inr, fun k => k.elim (fun e => e ▸ h) id⟩
  · exact insT_mem l s x
theorem insT_up {l : List Bs} (h : up l) {s : Bs} (hs : s ∉ l) : up (insT l s) := by
  unfold insT up
  rw [List.pairwise_append]
  refine ⟨h.filter _, ?_, ?_⟩
  · rw [List.pairwise_cons]
    refine ⟨fun y hy => ?_, h.filter _⟩
    obtain ⟨h1, h2⟩ := List.mem_filter.1 hy
    exact Bs.tri (by simpa using h2) (fun e => hs (e ▸ h1))
  · intro y hy z hz
    obtain ⟨_, h2⟩ := List.mem_filter.1 hy
    have h2 : y < s := by simpa using h2
    rcases List.mem_cons.1 hz with rfl | hz
    · exact h2
    · obtain ⟨h3, h4⟩ := List.mem_filter.1 hz
      exact Bs.trans h2 (Bs.tri (by simpa using h4) (fun e => hs (e ▸ h3)))
theorem rise_up {l : List Bs} (h : up l) (s : Bs) : up (rise l s) := by
  unfold rise
  split
  · exact h
  · rename_i hs
    exact insT_up h hs
theorem rise_length (l : List Bs) (s : Bs) : (rise l s).length ≤ l.length + 1 := by
  unfold rise
  split
  · omega
  · unfold insT
    rw [List.length_append, List.length_cons]
    have : (l.filter (fun y => decide (y < s))).length + (l.filter (fun y => !decide (y < s))).length = l.length := by
      induction l with
      | nil => rfl
      | cons y l ih =>
        rename_i h
        have ih := ih (fun k => h (by simp [k]))
        rw [List.filter_cons, List.filter_cons]
        by_cases k : y < s
        · simp [k]
          omega
        · simp [k]
          omega
    omega
theorem fold_mem (l : List Bs) : ∀ (m : List Bs) (x : Bs), x ∈ l.foldl rise m ↔ x ∈ l ∨ x ∈ m := by
  induction l with
  | nil => simp
  | cons y l ih =>
    intro m x
    rw [List.foldl_cons, ih, rise_mem, List.mem_cons]
    constructor
    · rintro (h | h | h)
      · exact .inl (.inr h)
      · exact .inl (.inl h)
      · exact .inr h
    · rintro ((h | h) | h)
      · exact .inr (.inl h)
      · exact .inl h
      · exact .inr (.inr h)
theorem fold_up (l : List Bs) : ∀ (m : List Bs), up m → up (l.foldl rise m) := by
  induction l with
  | nil => exact fun _ h => h
  | cons y l ih => exact fun m h => ih _ (rise_up h y)
theorem fold_length (l : List Bs) : ∀ (m : List Bs), (l.foldl rise m).length ≤ m.length + l.length := by
  induction l with
  | nil => intro m; simp
  | cons y l ih =>
    intro m
    rw [List.foldl_cons]
    have h1 := ih (rise m y)
    have h2 := rise_length m y
    rw [List.length_cons]
    omega
theorem txs_mem (l : List Bs) (x : Bs) : x ∈ txs l ↔ x ∈ l := by
  unfold txs
  rw [fold_mem]
  simp
theorem txs_up (l : List Bs) : up (txs l) := fold_up l [] List.Pairwise.nil
theorem txs_length (l : List Bs) : (txs l).length ≤ l.length := by
  have := fold_length l []
  unfold txs
  simpa using this
/-- What holds of each two holds of what follows of it. -/
theorem pair_of {α : Type} {R S : α → α → Prop} {l : List α} (h : l.Pairwise R) (hi : ∀ a b, R a b → S a b) : l.Pairwise S := by
  rw [List.pairwise_iff_getElem] at *
  exact fun i j hi' hj hij => hi _ _ (h i j hi' hj hij)
theorem up_nodup {l : List Bs} (h : up l) : l.Nodup := by
  unfold List.Nodup
  exact pair_of h (fun a b k (e : a = b) => Bs.irr a (by rw [← e] at k; exact k))
/-- Whatever holds each once comes, sorted, to the rising ones. -/
theorem sorted_txs {ss l : List Bs} (hnd : ss.Nodup) (hm : ∀ x, x ∈ ss ↔ x ∈ l) : ss.mergeSort (fun x y => decide (x ≤ y)) = txs l := by
  have hp : ss.Perm (txs l) := (List.perm_ext_iff_of_nodup hnd (up_nodup (txs_up l))).2 fun x => by rw [hm, txs_mem]
  rw [mergeSort_of_perm hp]
  have tr : ∀ a b c : List UInt8, leB a b = true → leB b c = true → leB a c = true := fun a b c h1 h2 => by simp only [leB, decide_eq_true_eq] at *; exact List.le_trans h1 h2
  have to : ∀ a b : List UInt8, (leB a b || leB b a) = true := fun a b => by simp only [leB, Bool.or_eq_true, decide_eq_true_eq]; exact List.le_total a b
  refine List.Perm.eq_of_pairwise (le := fun a b => leB a b = true) (fun a b _ _ h1 h2 => ?_) (List.pairwise_mergeSort tr to _) (pair_of (txs_up l) (fun a b k => by simp only [leB, decide_eq_true_eq]; exact Bs.le_of k)) (List.mergeSort_perm _ leB)
  simp only [leB, decide_eq_true_eq] at h1 h2
  exact List.le_antisymm h1 h2
/-- Strictly rising lists of the same texts are one. -/
theorem up_eq {l m : List Bs} (hl : up l) (hm : up m) (h : ∀ x, x ∈ l ↔ x ∈ m) : l = m := by
  have hp : l.Perm m := (List.perm_ext_iff_of_nodup (up_nodup hl) (up_nodup hm)).2 h
  refine List.Perm.eq_of_pairwise (le := fun a b => a < b) (fun a b _ _ h1 h2 => absurd h2 (Bs.asymm h1)) hl hm hp
/-- The write of the greatest time, of these the last one. -/
def bst (b : Wt) (l : List Wt) : Wt := l.foldl (fun b y => if b.t ≤ y.t then y else b) b
def lastW : List Wt → List Wt
  | [] => []
  | y :: l => [bst y l]
theorem bst_snoc (b : Wt) (l : List Wt) (y : Wt) : bst b (l ++ [y]) = if (bst b l).t ≤ y.t then y else bst b l := by
  unfold bst
  rw [List.foldl_append]
  rfl
theorem bst_mem (b : Wt) (l : List Wt) : bst b l ∈ b :: l := by
  unfold bst
  induction l generalizing b with
  | nil => simp
  | cons y l ih =>
    rw [List.foldl_cons]
    have := ih (if b.t ≤ y.t then y else b)
    rcases List.mem_cons.1 this with h | h
    · rw [h]
      split <;> simp
    · simp [h]
theorem lastW_mem {l : List Wt} {y : Wt} (h : y ∈ lastW l) : y ∈ l := by
  cases l with
  | nil => exact h
  | cons b l =>
    simp only [lastW, List.mem_singleton] at h
    rw [h]
    exact bst_mem b l
theorem lastW_length (l : List Wt) : (lastW l).length ≤ 1 := by cases l <;> simp [lastW]
end Go.Proofs.Ytknpnjhedfdggaa
