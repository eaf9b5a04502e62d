import Derived.Test.YtjjncmenkepcoaaP1
import Derived.OrdersHeld
import Derived.Deep.MidRow
/- What may be stays so, whatever is done. Nothing of the program. -/
namespace Go.Proofs.Ytjjncmenkepcoaa
open Go.RowKit

abbrev eqF (x : ByteArray) : FV → Bool := fun y => decide (y.x = x)
theorem us_three (f : FV) (l : List FV) : us (l.filter (fun y => decide (fn y < fn f))) + us (l.filter (eqF f.x)) + us (l.filter (fun y => decide (fn f < fn y))) = us l := by
  induction l with
  | nil => rfl
  | cons y l ih =>
    simp only [List.filter_cons, eqF]
    by_cases e : y.x = f.x
    · have h1 : ¬ fn y < fn f := by unfold fn; rw [e]; exact Bs.irr _
      have h2 : ¬ fn f < fn y := by unfold fn; rw [e]; exact Bs.irr _
      simp only [e, h1, h2, decide_true, decide_false, if_true, Bool.false_eq_true, if_false, us_cons]
      omega
    · have h3 : fn y ≠ fn f := fun k => e (bs_inj k)
      by_cases h1 : fn y < fn f
      · have h2 := Bs.asymm h1
        simp only [e, h1, h2, decide_true, decide_false, if_true, Bool.false_eq_true, if_false, us_cons]
        omega
      · have h2 := Bs.tri h1 h3
        simp only [e, h1, h2, decide_true, decide_false, if_true, Bool.false_eq_true, if_false, us_cons]
        omega
theorem len_three (f : FV) (l : List FV) : (l.filter (fun y => decide (fn y < fn f))).length + (l.filter (eqF f.x)).length + (l.filter (fun y => decide (fn f < fn y))).length = l.length := by
  induction l with
  | nil => rfl
  | cons y l ih =>
    simp only [List.filter_cons, eqF]
    by_cases e : y.x = f.x
    · have h1 : ¬ fn y < fn f := by unfold fn; rw [e]; exact Bs.irr _
      have h2 : ¬ fn f < fn y := by unfold fn; rw [e]; exact Bs.irr _
      simp only [e, h1, h2, decide_true, decide_false, if_true, Bool.false_eq_true, if_false, List.length_cons]
      omega
    · have h3 : fn y ≠ fn f := fun k => e (bs_inj k)
      by_cases h1 : fn y < fn f
      · have h2 := Bs.asymm h1
        simp only [e, h1, h2, decide_true, decide_false, if_true, Bool.false_eq_true, if_false, List.length_cons]
        omega
      · have h2 := Bs.tri h1 h3
        simp only [e, h1, h2, decide_true, decide_false, if_true, Bool.false_eq_true, if_false, List.length_cons]
        omega
theorem up_find {l : List FV} (h : upf l) (x : ByteArray) : l.filter (eqF x) = (l.find? (fun f => decide (f.x = x))).toList := by
  induction l with
  | nil => rfl
  | cons y l ih =>
    obtain ⟨h1, h2⟩ := List.pairwise_cons.1 h
    rw [List.filter_cons, List.find?_cons]
    unfold eqF
    by_cases e : y.x = x
    · have : l.filter (fun y => decide (y.x = x)) = [] := by
        rw [List.filter_eq_nil_iff]
        intro z hz k
        have h3 := h1 z hz
        have k2 : z.x = x := by simpa using k
        unfold fn at h3
        rw [e, k2] at h3
        exact Bs.irr _ h3
      simp [e, this]
    · simp only [e, decide_false, Bool.false_eq_true, if_false]
      exact ih h2
theorem find_pl (l : List FV) (x : ByteArray) : (l.find? (fun f => decide (f.x = x)) = none ∧ plF l x = -1) ∨ ∃ f, l.find? (fun f => decide (f.x = x)) = some f ∧ f ∈ l ∧ f.x = x ∧ 0 ≤ plF l x := by
  cases h : l.find? (fun f => decide (f.x = x)) with
  | none =>
    refine .inl ⟨rfl, plF_none fun f hf e => ?_⟩
    have := (List.find?_eq_none.1 h) f hf
    simp [e] at this
  | some f =>
    have h1 := List.mem_of_find?_eq_some h
    have h2 := List.find?_some h
    refine .inr ⟨f, rfl, h1, by simpa using h2, ?_⟩
    rcases plF_spec l x with ⟨_, h3⟩ | ⟨k, _, h3, _⟩
    · exact absurd (by simpa using h2) (h3 f h1)
    · omega
/-- A file with one changed: which may be. -/
theorem with_us {f : FV} {l : List FV} (h : upf l) : us (withF f l) + (fiF l f.x).d.length = us l + f.d.length := by
  rw [withF_up h, us_append, us_cons]
  have h1 := us_three f l
  have h2 : us (l.filter (eqF f.x)) = (fiF l f.x).d.length := by
    rw [up_find h]
    unfold fiF
    cases l.find? (fun g => decide (g.x = f.x)) with
    | none => rfl
    | some g => simp [us]
  omega
theorem with_len {f : FV} {l : List FV} (h : upf l) : (withF f l).length = l.length + if 0 ≤ plF l f.x then 0 else 1 := by
  rw [withF_up h, List.length_append, List.length_cons]
  have h1 := len_three f l
  rw [up_find h] at h1
  rcases find_pl l f.x with ⟨h2, h3⟩ | ⟨g, h2, _, _, h3⟩
  · rw [h2] at h1
    rw [h3, if_neg (by omega)]
    simp only [Option.toList_none, List.length_nil] at h1
    omega
  · rw [h2] at h1
    rw [if_pos h3]
    simp only [Option.toList_some, List.length_cons, List.length_nil] at h1
    omega
theorem with_mem {f y : FV} {l : List FV} (h : upf l) (hy : y ∈ withF f l) : y = f ∨ y ∈ l := by
  rw [withF_up h] at hy
  rcases List.mem_append.1 hy with hy | hy
  · exact .inr (List.mem_filter.1 hy).1
  · rcases List.mem_cons.1 hy with hy | hy
    · exact .inl hy
    · exact .inr (List.mem_filter.1 hy).1
theorem with_up {f : FV} {l : List FV} (h : upf l) : upf (withF f l) := by
  rw [withF_up h]
  unfold upf
  rw [List.pairwise_append]
  refine ⟨h.filter _, ?_, ?_⟩
  · rw [List.pairwise_cons]
    exact ⟨fun y hy => by simpa using (List.mem_filter.1 hy).2, h.filter _⟩
  · intro y hy z hz
    have h2 : fn y < fn f := by simpa using (List.mem_filter.1 hy).2
    rcases List.mem_cons.1 hz with rfl | hz
    · exact h2
    · have h4 : fn f < fn z := by simpa using (List.mem_filter.1 hz).2
      exact Bs.trans h2 h4
theorem us_filter (p : FV → Bool) (l : List FV) : us (l.filter p) ≤ us l := by
  induction l with
  | nil => exact Nat.le_refl _
  | cons y l ih =>
    rw [List.filter_cons]
    split
    · rw [us_cons, us_cons]
      omega
    · rw [us_cons]
      omega
/-- What a disk that may be has. -/
theorem ckD_iff (d : DV) : ckD d = true ↔ 0 ≤ d.room ∧ d.room ≤ 1048576 ∧ -1 ≤ d.arm ∧ d.fs.length ≤ 64 ∧ (∀ f ∈ d.fs, okO f = true) ∧ upf d.fs ∧ (us d.fs : Int) ≤ d.room := by
  unfold ckD ckH
  simp only [Bool.and_eq_true, decide_eq_true_eq]
  constructor
  · rintro ⟨⟨h1, h2, h3, h4⟩, h5⟩
    exact ⟨h1, h2, h3, h4, (ckF_all h1 _).1 h5⟩
  · rintro ⟨h1, h2, h3, h4, h5⟩
    exact ⟨⟨h1, h2, h3, h4⟩, (ckF_all h1 _).2 h5⟩
theorem fit_iff (d : DV) (x : ByteArray) (m : Int) : fit d x m = true ↔ (0 ≤ plF d.fs x ∨ d.fs.length < 64) ∧ m ≤ d.room - us d.fs := by simp [fit]
theorem pw_fs (d : DV) : (pwD d).fs = d.fs := by
  unfold pwD
  split
  · rfl
  · split <;> rfl
theorem pw_room (d : DV) : (pwD d).room = d.room := by
  unfold pwD
  split
  · rfl
  · split <;> rfl
theorem pw_arm {d : DV} (h : -1 ≤ d.arm) : -1 ≤ (pwD d).arm := by
  unfold pwD
  split
  · exact h
  · split
    · show -1 ≤ d.arm - 1
      omega
    · exact h
theorem ck_pw {d : DV} (h : ckD d = true) : ckD (pwD d) = true := by
  rw [ckD_iff] at *
  rw [pw_fs, pw_room]
  exact ⟨h.1, h.2.1, pw_arm h.2.2.1, h.2.2.2⟩
/-- A disk with a file put there. -/
theorem ck_with {d : DV} (h : ckD d = true) {f : FV} (hf : okO f = true) (h1 : 0 ≤ plF d.fs f.x ∨ d.fs.length < 64) (h2 : (f.d.length : Int) - (fiF d.fs f.x).d.length ≤ d.room - us d.fs) : ckD { pwD d with fs := withF f d.fs } = true := by
  rw [ckD_iff] at *
  obtain ⟨a1, a2, a3, a4, a5, a6, a7⟩ := h
  have e1 := with_us (f := f) a6
  have e2 := with_len (f := f) a6
  refine ⟨by rw [show ({ pwD d with fs := withF f d.fs } : DV).room = d.room from pw_room d]; exact a1, by rw [show ({ pwD d with fs := withF f d.fs } : DV).room = d.room from pw_room d]; exact a2, pw_arm a3, ?_, ?_, with_up a6, ?_⟩
  · show (withF f d.fs).length ≤ 64
    split at e2 <;> omega
  · intro g hg
    rcases with_mem a6 hg with rfl | hg
    · exact hf
    · exact a5 g hg
  · rw [show ({ pwD d with fs := withF f d.fs } : DV).room = d.room from pw_room d]
    show ((us (withF f d.fs) : Nat) : Int) ≤ _
    omega
theorem ask_ok {d : DV} {x : ByteArray} (h : askD d x = 0) : ckD d = true ∧ d.dead = false ∧ nmd x = true := by
  unfold askD at h
  cases h1 : ckD d <;> cases h2 : d.dead <;> cases h3 : nmd x <;> simp [h1, h2, h3] at h ⊢
theorem fi_ok {l : List FV} (h : ∀ f ∈ l, okO f = true) (x : ByteArray) : 0 ≤ (fiF l x).k ∧ (fiF l x).k ≤ (fiF l x).d.length := by
  unfold fiF
  rcases find_pl l x with ⟨e, _⟩ | ⟨f, e, hf, _, _⟩
  · rw [e]
    simp
  · rw [e]
    have := h f hf
    simp only [okO, Bool.and_eq_true, decide_eq_true_eq] at this
    exact this.2
theorem ck_put {d : DV} (h : ckD d = true) (x : ByteArray) (b : List UInt8) : ckD (putD d x b).1 = true := by
  unfold putD
  split
  · exact h
  · rename_i h1
    split
    · exact h
    · rename_i h2
      split
      · exact ck_pw h
      · obtain ⟨_, _, hn⟩ := ask_ok (Classical.not_not.1 h1)
        have hf := (fit_iff _ _ _).1 (by simpa using h2)
        exact ck_with h (by simp [okO, hn]) hf.1 hf.2
theorem ck_app {d : DV} (h : ckD d = true) (x : ByteArray) (b : List UInt8) : ckD (appD d x b).1 = true := by
  unfold appD
  split
  · exact h
  · rename_i h1
    split
    · exact h
    · rename_i h2
      obtain ⟨_, _, hn⟩ := ask_ok (Classical.not_not.1 h1)
      have hf := (fit_iff _ _ _).1 (by simpa using h2)
      have hk := fi_ok ((ckD_iff d).1 h).2.2.2.2.1 x
      refine ck_with h ?_ hf.1 ?_
      · simp only [okO, hn, Bool.true_and, Bool.and_eq_true, decide_eq_true_eq, List.length_append]
        omega
      · simp only [List.length_append]
        omega
theorem pl_find {l : List FV} {x : ByteArray} (h : ¬ plF l x < 0) : ∃ f, l.find? (fun f => decide (f.x = x)) = some f ∧ f ∈ l ∧ f.x = x := by
  rcases find_pl l x with ⟨_, e⟩ | ⟨f, e, hf, hx, _⟩
  · omega
  · exact ⟨f, e, hf, hx⟩
theorem ck_syn {d : DV} (h : ckD d = true) (x : ByteArray) : ckD (synD d x).1 = true := by
  unfold synD
  split
  · exact h
  · rename_i h1
    split
    · exact h
    · rename_i h2
      split
      · exact ck_pw h
      · obtain ⟨_, _, hn⟩ := ask_ok (Classical.not_not.1 h1)
        have hc := (ckD_iff d).1 h
        refine ck_with h (by simp [okO, hn]) (.inl (by show 0 ≤ plF d.fs x; omega)) ?_
        show ((fiF d.fs x).d.length : Int) - (fiF d.fs x).d.length ≤ _
        omega
theorem ck_dro {d : DV} (h : ckD d = true) (x : ByteArray) : ckD (droD d x).1 = true := by
  unfold droD
  split
  · exact h
  · split
    · exact h
    · split
      · exact ck_pw h
      · have hc := (ckD_iff d).1 h
        rw [ckD_iff]
        have e1 := us_filter (fun y => !decide (y.x = x)) d.fs
        have e2 := List.length_filter_le (fun y => !decide (y.x = x)) d.fs
        rw [show ({ pwD d with fs := woF d.fs x } : DV).room = d.room from pw_room d]
        refine ⟨hc.1, hc.2.1, pw_arm hc.2.2.1, by show (woF d.fs x).length ≤ 64; unfold woF; omega, fun f hf => hc.2.2.2.2.1 f (List.mem_filter.1 hf).1, hc.2.2.2.2.2.1.filter _, ?_⟩
        show ((us (woF d.fs x) : Nat) : Int) ≤ _
        unfold woF
        omega
theorem ck_arm {d : DV} (h : ckD d = true) (n : Int) : ckD (armD d n).1 = true := by
  unfold armD
  split
  · exact h
  · split
    · exact h
    · rename_i h2
      have hc := (ckD_iff d).1 h
      rw [ckD_iff]
      exact ⟨hc.1, hc.2.1, by show -1 ≤ n; omega, hc.2.2.2⟩
theorem ck_new {n : Int} (h : (newD n).2 = 0) : ckD (newD n).1 = true := by
  unfold newD at *
  split at h
  · cases h
  · rename_i h1
    rw [if_neg h1, ckD_iff]
    exact ⟨by show 0 ≤ n; omega, by show n ≤ 1048576; omega, by show (-1 : Int) ≤ -1; omega, by simp, (fun f hf => by cases hf), List.Pairwise.nil, by show ((us [] : Nat) : Int) ≤ n; rw [us_nil]; omega⟩
/-- How much is kept of a file that may be. -/
theorem kp_of {f : FV} (h : okO f = true) (keep : Int) : f.k ≤ kpN f keep ∧ 0 ≤ kpN f keep ∧ kpN f keep ≤ f.d.length := by
  simp only [okO, Bool.and_eq_true, decide_eq_true_eq] at h
  unfold kpN
  omega
theorem cr_len {f : FV} (h : okO f = true) (keep : Int) : ((crF f keep).d.length : Int) = kpN f keep := by
  have := kp_of h keep
  show ((f.d.take (kpN f keep).toNat).length : Int) = _
  rw [List.length_take]
  omega
theorem ck_cra {d : DV} (h : ckD d = true) (keep : Int) : ckD (craD d keep) = true := by
  unfold craD
  rw [h]
  simp only [Bool.true_eq_false, if_false]
  have hc := (ckD_iff d).1 h
  rw [ckD_iff]
  refine ⟨hc.1, hc.2.1, by show (-1 : Int) ≤ -1; omega, by show (d.fs.map _).length ≤ 64; rw [List.length_map]; exact hc.2.2.2.1, ?_, ?_, ?_⟩
  · intro g hg
    obtain ⟨f, hf, rfl⟩ := List.mem_map.1 hg
    have hk := hc.2.2.2.2.1 f hf
    have h1 := kp_of hk keep
    have h2 := cr_len hk keep
    simp only [okO, Bool.and_eq_true, decide_eq_true_eq] at hk ⊢
    exact ⟨hk.1, h1.2.1, by rw [h2]; exact Int.le_refl _⟩
  · show upf (d.fs.map _)
    unfold upf
    rw [List.pairwise_map]
    exact hc.2.2.2.2.2.1
  · show ((us (d.fs.map (crF · keep)) : Nat) : Int) ≤ d.room
    have : us (d.fs.map (crF · keep)) ≤ us d.fs := by
      have : ∀ l : List FV, us (l.map (crF · keep)) ≤ us l := fun l => by
        induction l with
        | nil => exact Nat.le_refl _
        | cons y l ih =>
          rw [List.map_cons, us_cons, us_cons]
          have : (crF y keep).d.length ≤ y.d.length := by
            show (y.d.take _).length ≤ _
            rw [List.length_take]
            omega
          omega
      exact this _
    omega
/-- What is refused leaves the disk, but where the power goes. -/
def Keep (d : DV) (r : DV × Int) : Prop := r.2 = 0 ∨ r.2 = 220 ∨ r.1 = d
theorem keep_put (d : DV) (x : ByteArray) (b : List UInt8) : Keep d (putD d x b) := by
  unfold putD Keep
  repeat' split
  all_goals simp
theorem keep_app (d : DV) (x : ByteArray) (b : List UInt8) : Keep d (appD d x b) := by
  unfold appD Keep
  repeat' split
  all_goals simp
theorem keep_syn (d : DV) (x : ByteArray) : Keep d (synD d x) := by
  unfold synD Keep
  repeat' split
  all_goals simp
theorem keep_dro (d : DV) (x : ByteArray) : Keep d (droD d x) := by
  unfold droD Keep
  repeat' split
  all_goals simp
theorem keep_arm (d : DV) (n : Int) : Keep d (armD d n) := by
  unfold armD Keep
  repeat' split
  all_goals simp
theorem find_at (l : List FV) (p : FV → Bool) : l.find? p = l[l.findIdx p]? := by
  induction l with
  | nil => rfl
  | cons y l ih =>
    rw [List.find?_cons, List.findIdx_cons]
    cases h : p y
    · simpa using ih
    · rfl
theorem fi_at {l : List FV} {x : ByteArray} (h : ¬ plF l x < 0) : ∃ k, ∃ hk : k < l.length, plF l x = k ∧ fiF l x = l[k] ∧ l[k].x = x := by
  have h1 : l.findIdx (fun f => decide (f.x = x)) < l.length := by
    unfold plF at h
    split at h
    · assumption
    · omega
  have h2 : l.find? (fun f => decide (f.x = x)) = some (l[l.findIdx (fun f => decide (f.x = x))]) := by rw [find_at, List.getElem?_eq_getElem h1]
  refine ⟨_, h1, by unfold plF; rw [if_pos h1], by unfold fiF; rw [h2]; rfl, ?_⟩
  have := List.findIdx_getElem (w := h1)
  simpa using this
theorem fi_none {l : List FV} {x : ByteArray} (h : plF l x < 0) : fiF l x = ⟨x, [], 0⟩ := by
  rcases find_pl l x with ⟨h1, _⟩ | ⟨f, _, _, _, h2⟩
  · unfold fiF
    rw [h1]
    rfl
  · omega
theorem us_mem {f : FV} {l : List FV} (h : f ∈ l) : f.d.length ≤ us l := by
  obtain ⟨k, hk, rfl⟩ := List.getElem_of_mem h
  have := us_at hk
  omega
theorem fi_us (l : List FV) (x : ByteArray) : (fiF l x).d.length ≤ us l := by
  rcases find_pl l x with ⟨h1, h2⟩ | ⟨f, h1, h2, _⟩
  · rw [fi_none (by omega)]
    exact Nat.zero_le _
  · unfold fiF
    rw [h1]
    exact us_mem h2
end Go.Proofs.Ytjjncmenkepcoaa
/- A region that draws its order, walked in the text's order: what only reads is taken first, each in one word; what is alone in its turn (a call whose answer hangs on the world, an allocation, a store) is walked as it comes. Nothing of one program. -/
namespace Go.Proofs.Ytjjncmenkepcoaa.Held

/-- From the operation k on, those of the list. -/
def HL (P : Program) (ops : Array Oper) (Q : Exit → Act → World → Prop) (S : World → Prop) (l : List Oper) (k : Nat) (listed : Array Bool) (a : Act) (w : World) : Prop := (∀ j, l[j]? = ops[k + j]?) → wpAnyH P .any ops Q S l.length listed a w
section
variable {P : Program} {ops : Array Oper} {Q : Exit → Act → World → Prop} {S : World → Prop} {l : List Oper} {k : Nat} {listed : Array Bool} {a a' : Act} {w : World} {o : Oper}
theorem tail (hl : ∀ j, (o :: l)[j]? = ops[k + j]?) (j : Nat) : l[j]? = ops[k + 1 + j]? := by
  have := hl (j + 1)
  rw [show k + 1 + j = k + (j + 1) by omega]
  simpa using this
theorem take {v : Value} (hy : YieldsIf P ops S o v a) (hS : S w) (h : HL P ops Q S l (k + 1) (listed.setIfInBounds k true) (a.put o.dst v) w) (hs : Region.noSelect ops = true) (hf : Region.free .any ops listed k = true) (hr : (Region.ready .any ops listed).contains k = true) (hQ : ∀ c a w, Q (.panic c) (a.put o.dst v) w → Q (.panic c) a w) : HL P ops Q S (o :: l) k listed a w := fun hl =>
  wpAnyH_take (by simpa using (hl 0).symm) hs hf hr hQ hy hS (h (tail hl))
/-- Passed over. -/
theorem sk (hS : S w) (h : HL P ops Q S l (k + 1) (listed.setIfInBounds k true) a' w) (hw : Region.wanted o (yielded ops a.tmps) = false := by rfl) (hs : Region.noSelect ops = true := by kernel_rfl) (hf : Region.free .any ops listed k = true := by kernel_rfl) (hr : (Region.ready .any ops listed).contains k = true := by kernel_rfl) (hQ : ∀ c a w, Q (.panic c) (a.put o.dst undef) w → Q (.panic c) a w := by exact fun _ _ _ h => h)
    (hp : a.put o.dst undef = a' := by (simp only [Act.put, List.setIfInBounds_toArray, List.set_cons_zero, List.set_cons_succ]; rfl)) : HL P ops Q S (o :: l) k listed a w :=
  take (.inr ⟨hw, rfl⟩) hS (hp ▸ h) hs hf hr hQ
/-- Run to a value. -/
theorem pu {v : Value} (hS : S w) (h : HL P ops Q S l (k + 1) (listed.setIfInBounds k true) a' w) (hw : Region.wanted o (yielded ops a.tmps) = true := by rfl) (hv : ∀ w, S w → (execOp a.eval o).run P w = .ok (.value v) w := by (intro w hSw; go_simp <;> rfl)) (hs : Region.noSelect ops = true := by kernel_rfl) (hf : Region.free .any ops listed k = true := by kernel_rfl) (hr : (Region.ready .any ops listed).contains k = true := by kernel_rfl) (hQ : ∀ c a w, Q (.panic c) (a.put o.dst v) w → Q (.panic c) a w := by exact fun _ _ _ h => h)
    (hp : a.put o.dst v = a' := by (simp only [Act.put, List.setIfInBounds_toArray, List.set_cons_zero, List.set_cons_succ]; rfl)) : HL P ops Q S (o :: l) k listed a w :=
  take (.inl ⟨hw, hv⟩) hS (hp ▸ h) hs hf hr hQ
/-- A load of what a cell holds. -/
theorem ce {v : Value} {ad : Addr} (g : ∀ w, S w → w.cell? ad = some v) (hS : S w) (h : HL P ops Q S l (k + 1) (listed.setIfInBounds k true) a' w) (hw : Region.wanted o (yielded ops a.tmps) = true := by rfl) (hv : ∀ w, S w → w.cell? ad = some v → (execOp a.eval o).run P w = .ok (.value v) w := by (intro w hSw g1; go_simp)) (hs : Region.noSelect ops = true := by kernel_rfl) (hf : Region.free .any ops listed k = true := by kernel_rfl) (hr : (Region.ready .any ops listed).contains k = true := by kernel_rfl) (hQ : ∀ c a w, Q (.panic c) (a.put o.dst v) w → Q (.panic c) a w := by exact fun _ _ _ h => h)
    (hp : a.put o.dst v = a' := by (simp only [Act.put, List.setIfInBounds_toArray, List.set_cons_zero, List.set_cons_succ]; rfl)) : HL P ops Q S (o :: l) k listed a w :=
  take (.inl ⟨hw, fun w h => hv w h (g w h)⟩) hS (hp ▸ h) hs hf hr hQ
/-- A load of a struct. -/
theorem lm {b f : Nat} {cs : List Value} {t : TypeId} {d : TypeDesc} {x : Operand} (hz : (P.info? t).map (·.size) = some cs.length) (g : ∀ w, S w → w.rangeAt b f cs) (hu : P.underlying t = some d) (hS : S w) (h : HL P ops Q S l (k + 1) (listed.setIfInBounds k true) a' w) (hw : Region.wanted o (yielded ops a.tmps) = true := by rfl) (ho : o.op = .load t x := by rfl) (hx : a.eval x = .pointer (some ⟨b, f, none⟩) := by rfl) (hd : d.isRow = true := by rfl) (hs : Region.noSelect ops = true := by kernel_rfl) (hf : Region.free .any ops listed k = true := by kernel_rfl) (hr : (Region.ready .any ops listed).contains k = true := by kernel_rfl)
    (hQ : ∀ c a w, Q (.panic c) (a.put o.dst (.agg cs.toArray)) w → Q (.panic c) a w := by exact fun _ _ _ h => h) (hp : a.put o.dst (.agg cs.toArray) = a' := by (simp only [Act.put, List.setIfInBounds_toArray, List.set_cons_zero, List.set_cons_succ]; rfl)) : HL P ops Q S (o :: l) k listed a w :=
  take (.inl ⟨hw, fun w hw' => by
    have h2 := run_loadVar_mid (P := P) w b f t cs d (g w hw') hu hd hz
    unfold execOp
    simp only [ho, hx, Instr.loadAt, Instr.sureAddr, Sem.run_bind, Sem.run_pure, h2, Result.andThen_ok]⟩) hS (hp ▸ h) hs hf hr hQ
/-- The one whose turn it is. -/
theorem al (h : o.wp P a w (fun a' w' => S w' ∧ HL P ops Q S l (k + 1) (listed.setIfInBounds k true) a' w') Q) (hr : Region.ready .any ops listed = [k]) (hw : Region.wanted o (yielded ops a.tmps) = true) : HL P ops Q S (o :: l) k listed a w := fun hl =>
  wpAnyH_all hr (by simp) fun j hj => by
    obtain rfl : j = k := by simpa using hj
    have hi : ops[j]? = some o := by simpa using (hl 0).symm
    unfold wpOp
    simp only [hi, hw, if_true]
    exact .inl (Oper.wp_mono (fun a' w' h => ⟨h.1, h.2 (tail hl)⟩) h)
/-- It is a call of a function by its name. -/
theorem kn {f : FuncId} {us : Array Operand} {ts : Array TypeId} {args : List Value} {φ : Ending → World → Prop} {au : Value → Act} (hc : Calls P f args.toArray w φ) (h : ∀ e w', φ e w' → ∃ u, e = .returned u ∧ S w' ∧ HL P ops Q S l (k + 1) (listed.setIfInBounds k true) (au u) w')
    (hr : Region.ready .any ops listed = [k] := by kernel_rfl) (hw : Region.wanted o (yielded ops a.tmps) = true := by rfl) (hf : Calm.enters P f = true := by kernel_rfl)
    (ho : o.op = .call { callee := .value (.func f), args := us, argTypes := ts } := by rfl) (ha : us.toList.map a.eval = args := by rfl) (hp : ∀ u, a.put o.dst u = au u := by (intro u; simp only [Act.put, List.setIfInBounds_toArray, List.set_cons_zero, List.set_cons_succ]; rfl)) : HL P ops Q S (o :: l) k listed a w :=
  al (by
    have e : ∀ args, (callFunc f args).run P w = .ok (.enter f args) w := fun args => Calm.enters_run hf args w
    have hr' : (execOp a.eval o).run P w = .ok (.enter f args.toArray) w := by
      have ha' : us.map a.eval = args.toArray := by
        rw [← ha, ← Array.toList_map, Array.toArray_toList]
      unfold execOp
      rw [ho]
      simp [go_sem, Act.eval, e, ← ha']
    unfold Oper.wp
    rw [hr']
    refine hc.mono fun e w' he => ?_
    obtain ⟨u, rfl, h1, h2⟩ := h e w' he
    exact ⟨h1, hp u ▸ h2⟩) hr hw
/-- It comes to a value, or to nothing, and leaves another world. -/
theorem vl {v : Value} {w1 : World} (hv : (execOp a.eval o).run P w = .ok (.value v) w1) (hS : S w1) (h : HL P ops Q S l (k + 1) (listed.setIfInBounds k true) a' w1) (hr : Region.ready .any ops listed = [k] := by kernel_rfl) (hw : Region.wanted o (yielded ops a.tmps) = true := by rfl) (hp : a.put o.dst v = a' := by (simp only [Act.put, List.setIfInBounds_toArray, List.set_cons_zero, List.set_cons_succ]; rfl)) : HL P ops Q S (o :: l) k listed a w :=
  al (by
    unfold Oper.wp
    rw [hv]
    exact ⟨hS, hp ▸ h⟩) hr hw
theorem st {w1 : World} (hv : (execOp a.eval o).run P w = .ok .skip w1) (hS : S w1) (h : HL P ops Q S l (k + 1) (listed.setIfInBounds k true) a' w1) (hr : Region.ready .any ops listed = [k] := by kernel_rfl) (hw : Region.wanted o (yielded ops a.tmps) = true := by rfl) (hp : a.put o.dst undef = a' := by (simp only [Act.put, List.setIfInBounds_toArray, List.set_cons_zero, List.set_cons_succ]; rfl)) : HL P ops Q S (o :: l) k listed a w :=
  al (by
    unfold Oper.wp
    rw [hv]
    exact ⟨hS, hp ▸ h⟩) hr hw
/-- A store of a struct, or of what a cell holds. -/
theorem ss {w1 : World} {t : TypeId} {x y : Operand} {pv vv : Value} (hv : (Instr.storeAt t pv vv).run P w = .ok () w1) (hS : S w1) (h : HL P ops Q S l (k + 1) (listed.setIfInBounds k true) a' w1) (hr : Region.ready .any ops listed = [k] := by kernel_rfl) (hw : Region.wanted o (yielded ops a.tmps) = true := by rfl) (ho : o.op = .store t x y := by rfl) (hx : a.eval x = pv := by rfl) (hy : a.eval y = vv := by rfl) (hp : a.put o.dst undef = a' := by (simp only [Act.put, List.setIfInBounds_toArray, List.set_cons_zero, List.set_cons_succ]; rfl)) : HL P ops Q S (o :: l) k listed a w :=
  al (by
    unfold Oper.wp execOp
    simp only [ho, hx, hy, Sem.run_bind, hv, Result.andThen_ok, Sem.run_pure]
    exact ⟨hS, hp ▸ h⟩) hr hw
/-- All have come up. -/
theorem dn (h : Q .normal a w) (hr : Region.ready .any ops listed = [] := by kernel_rfl) : HL P ops Q S [] k listed a w := fun _ => wpAnyH_done hr h _
theorem region {id : Nat} (S : World → Prop) (hm : P.follows .mixedOrders = true) (h : HL P l.toArray Q S l 0 (Array.replicate l.length false) a w.drew) : (Code.region id l.toArray true).wp P Q a w := wp_region_held (S := S) hm (by
  have := h (fun j => by simp)
  simpa using this)
end
end Go.Proofs.Ytjjncmenkepcoaa.Held
/- A region that draws its order, walked in an order of one's own: each operation by its number. Nothing of one program. -/
namespace Go.Proofs.Ytjjncmenkepcoaa.HeldI

section
variable {P : Program} {ops : Array Oper} {Q : Exit → Act → World → Prop} {S : World → Prop} {fuel : Nat} {listed : Array Bool} {a a' : Act} {w : World} {o : Oper}
theorem pu (i : Nat) {v : Value} (hS : S w) (h : wpAnyH P .any ops Q S fuel (listed.setIfInBounds i true) a' w) (hi : ops[i]? = some o := by (simp only [List.getElem?_toArray, List.getElem?_cons_succ, List.getElem?_cons_zero]; rfl)) (hs : Region.noSelect ops = true := by kernel_rfl) (hf : Region.free .any ops listed i = true := by kernel_rfl) (hr : (Region.ready .any ops listed).contains i = true := by kernel_rfl) (hw : Region.wanted o (yielded ops a.tmps) = true := by rfl) (hv : ∀ w, S w → (execOp a.eval o).run P w = .ok (.value v) w := by (intro w hSw; go_simp <;> rfl)) (hQ : ∀ c a w, Q (.panic c) (a.put o.dst v) w → Q (.panic c) a w := by exact fun _ _ _ h => h)
    (hp : a.put o.dst v = a' := by (simp only [Act.put, List.setIfInBounds_toArray, List.set_cons_zero, List.set_cons_succ]; rfl)) : wpAnyH P .any ops Q S (fuel + 1) listed a w :=
  wpAnyH_take hi hs hf hr hQ (.inl ⟨hw, hv⟩) hS (hp ▸ h)
theorem ce (i : Nat) {v : Value} {ad : Addr} (g : ∀ w, S w → w.cell? ad = some v) (hS : S w) (h : wpAnyH P .any ops Q S fuel (listed.setIfInBounds i true) a' w) (hi : ops[i]? = some o := by (simp only [List.getElem?_toArray, List.getElem?_cons_succ, List.getElem?_cons_zero]; rfl)) (hs : Region.noSelect ops = true := by kernel_rfl) (hf : Region.free .any ops listed i = true := by kernel_rfl) (hr : (Region.ready .any ops listed).contains i = true := by kernel_rfl) (hw : Region.wanted o (yielded ops a.tmps) = true := by rfl) (hv : ∀ w, S w → w.cell? ad = some v → (execOp a.eval o).run P w = .ok (.value v) w := by (intro w hSw g1; go_simp)) (hQ : ∀ c a w, Q (.panic c) (a.put o.dst v) w → Q (.panic c) a w := by exact fun _ _ _ h => h)
    (hp : a.put o.dst v = a' := by (simp only [Act.put, List.setIfInBounds_toArray, List.set_cons_zero, List.set_cons_succ]; rfl)) : wpAnyH P .any ops Q S (fuel + 1) listed a w :=
  wpAnyH_take hi hs hf hr hQ (.inl ⟨hw, fun w h => hv w h (g w h)⟩) hS (hp ▸ h)
theorem lm (i : Nat) {b f : Nat} {cs : List Value} {t : TypeId} {d : TypeDesc} {x : Operand} (hz : (P.info? t).map (·.size) = some cs.length) (g : ∀ w, S w → w.rangeAt b f cs) (hu : P.underlying t = some d) (hS : S w) (h : wpAnyH P .any ops Q S fuel (listed.setIfInBounds i true) a' w) (hi : ops[i]? = some o := by (simp only [List.getElem?_toArray, List.getElem?_cons_succ, List.getElem?_cons_zero]; rfl)) (hs : Region.noSelect ops = true := by kernel_rfl) (hf : Region.free .any ops listed i = true := by kernel_rfl) (hr : (Region.ready .any ops listed).contains i = true := by kernel_rfl) (hw : Region.wanted o (yielded ops a.tmps) = true := by rfl) (ho : o.op = .load t x := by rfl) (hx : a.eval x = .pointer (some ⟨b, f, none⟩) := by rfl) (hd : d.isRow = true := by rfl)
    (hQ : ∀ c a w, Q (.panic c) (a.put o.dst (.agg cs.toArray)) w → Q (.panic c) a w := by exact fun _ _ _ h => h) (hp : a.put o.dst (.agg cs.toArray) = a' := by (simp only [Act.put, List.setIfInBounds_toArray, List.set_cons_zero, List.set_cons_succ]; rfl)) : wpAnyH P .any ops Q S (fuel + 1) listed a w :=
  wpAnyH_take hi hs hf hr hQ (.inl ⟨hw, fun w hw' => by
    have h2 := run_loadVar_mid (P := P) w b f t cs d (g w hw') hu hd hz
    unfold execOp
    simp only [ho, hx, Instr.loadAt, Instr.sureAddr, Sem.run_bind, Sem.run_pure, h2, Result.andThen_ok]⟩) hS (hp ▸ h)
theorem al (i : Nat) (h : o.wp P a w (fun a' w' => S w' ∧ wpAnyH P .any ops Q S fuel (listed.setIfInBounds i true) a' w') Q) (hi : ops[i]? = some o) (hr : Region.ready .any ops listed = [i]) (hw : Region.wanted o (yielded ops a.tmps) = true) : wpAnyH P .any ops Q S (fuel + 1) listed a w :=
  wpAnyH_all hr (by simp) fun j hj => by
    obtain rfl : j = i := by simpa using hj
    unfold wpOp
    simp only [hi, hw, if_true]
    exact .inl h
/-- A load of a struct, alone in its turn. -/
theorem la (i : Nat) {b f : Nat} {cs : List Value} {t : TypeId} {d : TypeDesc} {x : Operand} (hz : (P.info? t).map (·.size) = some cs.length) (g : w.rangeAt b f cs) (hu : P.underlying t = some d) (hS : S w) (h : wpAnyH P .any ops Q S fuel (listed.setIfInBounds i true) a' w) (hi : ops[i]? = some o := by (simp only [List.getElem?_toArray, List.getElem?_cons_succ, List.getElem?_cons_zero]; rfl)) (hr : Region.ready .any ops listed = [i] := by kernel_rfl) (hw : Region.wanted o (yielded ops a.tmps) = true := by rfl) (ho : o.op = .load t x := by rfl) (hx : a.eval x = .pointer (some ⟨b, f, none⟩) := by rfl) (hd : d.isRow = true := by rfl)
    (hp : a.put o.dst (.agg cs.toArray) = a' := by (simp only [Act.put, List.setIfInBounds_toArray, List.set_cons_zero, List.set_cons_succ]; rfl)) : wpAnyH P .any ops Q S (fuel + 1) listed a w :=
  al i (by
    have h2 := run_loadVar_mid (P := P) w b f t cs d g hu hd hz
    unfold Oper.wp execOp
    simp only [ho, hx, Instr.loadAt, Instr.sureAddr, Sem.run_bind, Sem.run_pure, h2, Result.andThen_ok]
    exact ⟨hS, hp ▸ h⟩) hi hr hw
theorem kn (i : Nat) {f : FuncId} {us : Array Operand} {ts : Array TypeId} {args : List Value} {φ : Ending → World → Prop} {au : Value → Act} (hc : Calls P f args.toArray w φ) (h : ∀ e w', φ e w' → ∃ u, e = .returned u ∧ S w' ∧ wpAnyH P .any ops Q S fuel (listed.setIfInBounds i true) (au u) w')
    (hi : ops[i]? = some o := by (simp only [List.getElem?_toArray, List.getElem?_cons_succ, List.getElem?_cons_zero]; rfl)) (hr : Region.ready .any ops listed = [i] := by kernel_rfl) (hw : Region.wanted o (yielded ops a.tmps) = true := by rfl) (hf : Calm.enters P f = true := by kernel_rfl)
    (ho : o.op = .call { callee := .value (.func f), args := us, argTypes := ts } := by rfl) (ha : us.toList.map a.eval = args := by rfl) (hp : ∀ u, a.put o.dst u = au u := by (intro u; simp only [Act.put, List.setIfInBounds_toArray, List.set_cons_zero, List.set_cons_succ]; rfl)) : wpAnyH P .any ops Q S (fuel + 1) listed a w :=
  al i (by
    have e : ∀ args, (callFunc f args).run P w = .ok (.enter f args) w := fun args => Calm.enters_run hf args w
    have hr' : (execOp a.eval o).run P w = .ok (.enter f args.toArray) w := by
      have ha' : us.map a.eval = args.toArray := by
        rw [← ha, ← Array.toList_map, Array.toArray_toList]
      unfold execOp
      rw [ho]
      simp [go_sem, Act.eval, e, ← ha']
    unfold Oper.wp
    rw [hr']
    refine hc.mono fun e w' he => ?_
    obtain ⟨u, rfl, h1, h2⟩ := h e w' he
    exact ⟨h1, hp u ▸ h2⟩) hi hr hw
theorem st (i : Nat) {w1 : World} (hv : (execOp a.eval o).run P w = .ok .skip w1) (hS : S w1) (h : wpAnyH P .any ops Q S fuel (listed.setIfInBounds i true) a' w1) (hi : ops[i]? = some o := by (simp only [List.getElem?_toArray, List.getElem?_cons_succ, List.getElem?_cons_zero]; rfl)) (hr : Region.ready .any ops listed = [i] := by kernel_rfl) (hw : Region.wanted o (yielded ops a.tmps) = true := by rfl) (hp : a.put o.dst undef = a' := by (simp only [Act.put, List.setIfInBounds_toArray, List.set_cons_zero, List.set_cons_succ]; rfl)) : wpAnyH P .any ops Q S (fuel + 1) listed a w :=
  al i (by
    unfold Oper.wp
    rw [hv]
    exact ⟨hS, hp ▸ h⟩) hi hr hw
/-- A store of a struct, or of what a cell holds. -/
theorem ss (i : Nat) {w1 : World} {t : TypeId} {x y : Operand} {pv vv : Value} (hv : (Instr.storeAt t pv vv).run P w = .ok () w1) (hS : S w1) (h : wpAnyH P .any ops Q S fuel (listed.setIfInBounds i true) a' w1) (hi : ops[i]? = some o := by (simp only [List.getElem?_toArray, List.getElem?_cons_succ, List.getElem?_cons_zero]; rfl)) (hr : Region.ready .any ops listed = [i] := by kernel_rfl) (hw : Region.wanted o (yielded ops a.tmps) = true := by rfl) (ho : o.op = .store t x y := by rfl) (hx : a.eval x = pv := by rfl) (hy : a.eval y = vv := by rfl) (hp : a.put o.dst undef = a' := by (simp only [Act.put, List.setIfInBounds_toArray, List.set_cons_zero, List.set_cons_succ]; rfl)) : wpAnyH P .any ops Q S (fuel + 1) listed a w :=
  al i (by
    unfold Oper.wp execOp
    simp only [ho, hx, hy, Sem.run_bind, hv, Result.andThen_ok, Sem.run_pure]
    exact ⟨hS, hp ▸ h⟩) hi hr hw
theorem dn (h : Q .normal a w) (hr : Region.ready .any ops listed = [] := by kernel_rfl) : wpAnyH P .any ops Q S fuel listed a w := wpAnyH_done hr h _
theorem region {id : Nat} (S : World → Prop) (hm : P.follows .mixedOrders = true) {l : List Oper} (h : wpAnyH P .any l.toArray Q S l.length (Array.replicate l.length false) a w.drew) : (Code.region id l.toArray true).wp P Q a w := wp_region_held (S := S) hm (by simpa using h)
end
end Go.Proofs.Ytjjncmenkepcoaa.HeldI
