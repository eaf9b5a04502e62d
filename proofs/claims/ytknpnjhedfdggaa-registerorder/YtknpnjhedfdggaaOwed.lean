/- A region that draws its order, by what holds when a set of its operations has come up: one step for each operation, whatever came up ahead of it. Operations without guards. Nothing of one program. -/
import Derived.Test.YtknpnjhedfdggaaCalm
namespace Go.Proofs.Ytknpnjhedfdggaa.Owed
open Go.RowKit

section
variable {P : Program} {ops : Array Oper} {Q : Exit → Act → World → Prop} {md : Region.Mode}

/-- Which have come up. -/
def upd (L : Nat → Bool) (i : Nat) : Nat → Bool := fun j => decide (j = i) || L j
theorem upd_self (L : Nat → Bool) (i : Nat) : upd L i i = true := by simp [upd]
theorem upd_ne (L : Nat → Bool) {i j : Nat} (h : j ≠ i) : upd L i j = L j := by simp [upd, h]
theorem upd_true {L : Nat → Bool} {i j : Nat} (h : upd L i j = true) : j = i ∨ L j = true := by simpa [upd] using h

def each (R : Nat → Oper → Prop) : Nat → List Oper → Prop
  | _, [] => True
  | k, o :: l => R k o ∧ each R (k + 1) l
theorem each_at {R : Nat → Oper → Prop} (l : List Oper) : ∀ (k i : Nat) (o : Oper), each R k l → l[i]? = some o → R (k + i) o := by
  induction l with
  | nil => intro k i o _ hi; simp at hi
  | cons x l ih =>
    intro k i o h hi
    cases i with
    | zero =>
      simp at hi
      subst hi
      exact h.1
    | succ i =>
      have := ih (k + 1) i o h.2 (by simpa using hi)
      rwa [show k + 1 + i = k + (i + 1) by omega] at this

/-- What an operation waits for comes ahead of it in the text. -/
def downB (md : Region.Mode) (l : List Oper) : Bool := l.zipIdx.all fun (o, i) => o.guard.isNone && o.after.all fun e => !Region.binds md e || decide (e.on < i)
theorem downB_spec {l : List Oper} (h : downB md l = true) {i : Nat} {o : Oper} (hi : l[i]? = some o) : o.guard = none ∧ ∀ e ∈ o.after, Region.binds md e = true → e.on < i := by
  have hm : (o, i) ∈ l.zipIdx := by
    rw [List.mem_zipIdx_iff_getElem?]
    exact hi
  have := List.all_eq_true.1 h _ hm
  simp only [Bool.and_eq_true, Option.isNone_iff_eq_none] at this
  exact ⟨this.1, fun e he hb => by have := Array.all_eq_true_iff_forall_mem.1 this.2 e he; simpa [hb] using this⟩

theorem ready_of_least {l : List Oper} (h : downB md l = true) {listed : Array Bool} (hs : listed.size = l.length) {n : Nat} (hn : n < l.length) (hun : listed.getD n true = false) : ∃ j, j ∈ Region.ready md l.toArray listed := by
  induction n using Nat.strongRecOn with
  | _ n ih =>
    by_cases hall : ∀ m, m < n → listed.getD m true = true
    · refine ⟨n, mem_ready.2 ⟨hun, l[n], by simp, fun e he hbd => ?_⟩⟩
      have hlt := (downB_spec h (List.getElem?_eq_getElem hn)).2 e he hbd
      have := hall e.on hlt
      have hb : e.on < listed.size := by omega
      simpa [hb] using this
    · simp only [Classical.not_forall] at hall
      obtain ⟨m, hm, hf⟩ := hall
      exact ih m hm (by omega) (by simpa using hf)

def left (listed : Array Bool) : Nat := listed.toList.count false
theorem left_set {listed : Array Bool} {i : Nat} (h : listed.getD i true = false) : left (listed.setIfInBounds i true) + 1 = left listed := by
  rcases Nat.lt_or_ge i listed.size with hlt | hge
  · have hv : listed.toList[i]'(by simpa using hlt) = false := by simpa [hlt] using h
    unfold left
    have hpos : 0 < listed.toList.count false := List.count_pos_iff.2 (hv ▸ List.getElem_mem _)
    rw [Array.toList_setIfInBounds, List.count_set (by simpa using hlt), hv, if_pos (show (false == false) = true from rfl), if_neg (by decide)]
    omega
  · simp [Array.getElem?_eq_none hge] at h

/-- The steps owed. -/
def Step (P : Program) (md : Region.Mode) (Q : Exit → Act → World → Prop) (I : (Nat → Bool) → Act → World → Prop) (i : Nat) (o : Oper) : Prop :=
  ∀ L a w, I L a w → L i = false → (∀ e ∈ o.after, Region.binds md e = true → L e.on = true) → o.wp P a w (fun a' w' => I (upd L i) a' w') Q

theorem wpAny_owed {l : List Oper} {I : (Nat → Bool) → Act → World → Prop} (hd : downB md l = true) (hI : ∀ L L' a w, (∀ i, i < l.length → L i = L' i) → I L a w → I L' a w) (hstep : each (Step P md Q I) 0 l)
    (hend : ∀ L a w, (∀ i, i < l.length → L i = true) → I L a w → Q .normal a w) :
    ∀ (fuel : Nat) (listed : Array Bool) (a : Act) (w : World), listed.size = l.length → left listed ≤ fuel → I (fun i => listed.getD i true) a w → wpAny P md l.toArray Q fuel listed a w := by
  have fin : ∀ (listed : Array Bool) (a : Act) (w : World), listed.size = l.length → Region.ready md l.toArray listed = [] → I (fun i => listed.getD i true) a w → Q .normal a w := fun listed a w hs hr h => by
    refine hend _ a w (fun i hi => ?_) h
    cases hv : listed.getD i true
    · obtain ⟨j, hj⟩ := ready_of_least (md := md) hd hs hi hv
      rw [hr] at hj
      cases hj
    · rfl
  intro fuel
  induction fuel with
  | zero =>
    intro listed a w hs hl h
    have hr : Region.ready md l.toArray listed = [] := by
      cases hr : Region.ready md l.toArray listed with
      | nil => rfl
      | cons i r =>
        have hun := (mem_ready.1 (show i ∈ Region.ready md l.toArray listed by rw [hr]; simp)).1
        have := left_set hun
        omega
    exact ⟨hr, fin listed a w hs hr h⟩
  | succ fuel ih =>
    intro listed a w hs hl h
    refine ⟨fun hr => fin listed a w hs hr h, fun i hi => ?_⟩
    obtain ⟨hun, o, ho, hall⟩ := mem_ready.1 hi
    have ho' : l[i]? = some o := by simpa using ho
    have hilt : i < l.length := (List.getElem?_eq_some_iff.1 ho').1
    have hg := (downB_spec hd ho').1
    have hst := each_at l 0 i o hstep ho'
    rw [Nat.zero_add] at hst
    unfold wpOp
    simp only [ho, Region.wanted, hg, if_true]
    refine .inl (Oper.wp_mono (fun a' w' h' => ?_) (hst (fun i => listed.getD i true) a w h hun (fun e he hb => ?_)))
    · refine ih _ a' w' (by simp [hs]) (by have := left_set hun; omega) (hI _ _ a' w' (fun j hj => ?_) h')
      by_cases hji : j = i
      · subst hji
        rw [upd_self]
        have : j < listed.size := by omega
        simp [this]
      · rw [upd_ne _ hji, getD_set_ne true (Ne.symm hji)]
    · have h1 := hall e he hb
      rcases Nat.lt_or_ge e.on listed.size with h' | h'
      · simpa [h'] using h1
      · simp [Array.getElem?_eq_none h'] at h1

theorem region {id : Nat} {a : Act} {w : World} {l : List Oper} (hm : P.follows .mixedOrders = true) (hd : downB .any l = true) (I : (Nat → Bool) → Act → World → Prop)
    (hI : ∀ L L' a w, (∀ i, i < l.length → L i = L' i) → I L a w → I L' a w) (h0 : ∀ L, (∀ i, i < l.length → L i = false) → I L a w.drew) (hstep : each (Step P .any Q I) 0 l)
    (hend : ∀ L a w, (∀ i, i < l.length → L i = true) → I L a w → Q .normal a w) : (Code.region id l.toArray true).wp P Q a w := by
  refine wp_region_any hm ?_
  have := wpAny_owed (md := .any) (Q := Q) hd hI hstep hend l.toArray.size (Array.replicate l.toArray.size false) a w.drew (by simp) (by simp [left]) (h0 _ (fun i hi => by simp [hi]))
  exact this

end
end Go.Proofs.Ytknpnjhedfdggaa.Owed
