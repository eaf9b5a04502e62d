import Derived.Test.YtfiamiflkfdhoaaP6
import Derived.WideKeyEntry
import Derived.DeepKeys3
import Derived.KernelRfl
/- The queue of those that wait, as lists: what has come, the least place of each peer's that is ready, the places of those that lack something. Lists alone; nothing of one function. -/
namespace Go.Proofs.Ytfiamiflkfdhoaa

/-- What has to be there ahead of one. -/
def an (t : T) : List Int := t.v.set t.p.toNat (t.s - 1)
theorem an_length (t : T) : (an t).length = 13 := by simp [an, t.hv]
theorem an_same {t : T} (h : t.ok = true) : (an t).getD t.p.toNat 0 = t.s - 1 := by
  have hp := T.ok_p h
  have : t.p.toNat < t.v.length := by rw [t.hv]; omega
  simp [an, List.getD_eq_getElem?_getD, this]
theorem an_other (t : T) (i : Nat) (h : i ≠ t.p.toNat) : (an t).getD i 0 = t.v.getD i 0 := by
  simp [an, List.getD_eq_getElem?_getD, List.getElem?_set_ne (Ne.symm h)]
theorem T.ok_v {t : T} (h : t.ok = true) : t.v.getD t.p.toNat 0 < t.s := by
  simp only [T.ok, ct, wi, Bool.and_eq_true, decide_eq_true_eq] at h
  exact h.1.1.2
/-- All that has to be there is. -/
theorem an_lq {had : List Int} {t : T} (hh : had.length = 13) (h : t.ok = true) (ha : ∀ i, i < 13 → (an t).getD i 0 ≤ had.getD i 0) : lq t.v had = true := by
  refine (lq_iff t.hv hh).2 fun i hi => ?_
  by_cases e : i = t.p.toNat
  · subst e
    have h1 := ha _ hi
    rw [an_same h] at h1
    have := T.ok_v h
    omega
  · have h1 := ha i hi
    rw [an_other t i e] at h1
    exact h1
theorem an_rdy {had : List Int} {t : T} (hh : had.length = 13) (h : rdy had t = true) (i : Nat) (hi : i < 13) : (an t).getD i 0 ≤ had.getD i 0 := by
  by_cases e : i = t.p.toNat
  · subst e
    rw [an_same (rdy_ok h)]
    have := rdy_s h
    omega
  · rw [an_other t i e]
    exact (lq_iff t.hv hh).1 (rdy_lq h) i hi
/-- The first number that is lacked. -/
def fw (had a : List Int) : Option Nat := (List.range 13).find? fun p => decide (had.getD p 0 < a.getD p 0)
theorem fw_some {had a : List Int} {p : Nat} (h : fw had a = some p) : p < 13 ∧ had.getD p 0 < a.getD p 0 := by
  have h1 := List.find?_some h
  have h2 := List.mem_of_find?_eq_some h
  exact ⟨List.mem_range.1 h2, of_decide_eq_true h1⟩
theorem fw_none {had a : List Int} (h : fw had a = none) (i : Nat) (hi : i < 13) : a.getD i 0 ≤ had.getD i 0 := by
  have := List.find?_eq_none.1 h i (List.mem_range.2 hi)
  simp only [decide_eq_true_eq] at this
  exact Int.not_lt.1 this
/-- Where it is found: not sooner. -/
theorem fw_at {had a : List Int} {k : Nat} (hk : k < 13) (h0 : ∀ j, j < k → a.getD j 0 ≤ had.getD j 0) (h : had.getD k 0 < a.getD k 0) : fw had a = some k := by
  unfold fw
  rw [List.find?_eq_some_iff_getElem]
  refine ⟨by simpa using h, k, by simpa using hk, by simp, fun j hj => ?_⟩
  have := h0 j hj
  simp only [List.getElem_range, Bool.not_eq_true', decide_eq_false_iff_not]
  exact Int.not_lt.2 this
theorem fw_no {had a : List Int} (h0 : ∀ j, j < 13 → a.getD j 0 ≤ had.getD j 0) : fw had a = none := by
  unfold fw
  rw [List.find?_eq_none]
  intro j hj
  have := h0 j (List.mem_range.1 hj)
  simp only [decide_eq_true_eq]
  exact Int.not_lt.2 this
abbrev LK := Int → Int → List Nat
def lkPut (lk : LK) (p n : Int) (i : Nat) : LK := fun q m => if q = p ∧ m = n then lk p n ++ [i] else lk q m
/-- One of those that wait is looked at. -/
def lookS (had : List Int) (t : T) (i : Nat) (st : List Int × LK) : List Int × LK :=
  match fw had (an t) with
  | some p => (st.1, lkPut st.2 p ((an t).getD p 0) i)
  | none => if rdy had t = true then (st.1.set t.p.toNat (if (i : Int) < st.1.getD t.p.toNat 0 then (i : Int) else st.1.getD t.p.toNat 0), st.2) else st
def looks (had : List Int) (l : List T) : List Nat → List Int × LK → List Int × LK
  | [], st => st
  | i :: r, st => match l[i]? with
    | some t => looks had l r (lookS had t i st)
    | none => looks had l r st
theorem looks_snoc (had : List Int) (l : List T) (i : Nat) (t : T) (ht : l[i]? = some t) : ∀ (a : List Nat) (st : List Int × LK), looks had l (a ++ [i]) st = lookS had t i (looks had l a st)
  | [], st => by simp [looks, ht]
  | j :: a, st => by
    simp only [List.cons_append, looks]
    split
    · exact looks_snoc had l i t ht a _
    · exact looks_snoc had l i t ht a _
/-- What holds of the queue, but for those that are still to be looked at. -/
structure Qok (l : List T) (had : List Int) (st : List Int × LK) (todo : Nat → Prop) : Prop where
  h : had.length = 13
  r : st.1.length = 13
  r1 : ∀ p, p < 13 → st.1.getD p 0 = (l.length : Int) ∨ ∃ (i : Nat) (t : T), l[i]? = some t ∧ st.1.getD p 0 = (i : Int) ∧ rdy had t = true ∧ t.p.toNat = p
  r2 : ∀ (i : Nat) (t : T), l[i]? = some t → ¬ todo i → rdy had t = true → st.1.getD t.p.toNat 0 ≤ (i : Int)
  c : ∀ (i : Nat) (t : T), l[i]? = some t → ¬ todo i → t.ok = true → rdy had t = false → hsT had t = false → ∃ p : Nat, p < 13 ∧ i ∈ st.2 p ((an t).getD p 0) ∧ had.getD p 0 < (an t).getD p 0
  k : ∀ p n (i : Nat), i ∈ st.2 p n → ∃ t, l[i]? = some t ∧ t.ok = true
  nd : ∀ p n, (st.2 p n).Nodup
  lv : ∀ (p n : Int) (i : Nat), i ∈ st.2 p n → had.getD p.toNat 0 < n → ¬ todo i
  un : ∀ (i : Nat) (p n q m : Int), i ∈ st.2 p n → i ∈ st.2 q m → had.getD p.toNat 0 < n → had.getD q.toNat 0 < m → p = q ∧ n = m
theorem lkPut_mem {lk : LK} {p n q m : Int} {i j : Nat} (h : j ∈ lk q m) : j ∈ lkPut lk p n i q m := by
  unfold lkPut
  split
  · rename_i e
    obtain ⟨rfl, rfl⟩ := e
    exact List.mem_append_left _ h
  · exact h
theorem lkPut_new {lk : LK} {p n : Int} {i : Nat} : i ∈ lkPut lk p n i p n := by simp [lkPut]
theorem lkPut_inv2 {lk : LK} {p n q m : Int} {i j : Nat} (h : j ∈ lkPut lk p n i q m) : j ∈ lk q m ∨ j = i ∧ q = p ∧ m = n := by
  unfold lkPut at h
  split at h
  · rename_i e
    obtain ⟨rfl, rfl⟩ := e
    rcases List.mem_append.1 h with h | h
    · exact .inl h
    · exact .inr ⟨by simpa using h, rfl, rfl⟩
  · exact .inl h
theorem lkPut_inv {lk : LK} {p n q m : Int} {i j : Nat} (h : j ∈ lkPut lk p n i q m) : j ∈ lk q m ∨ j = i := by
  unfold lkPut at h
  split at h
  · rename_i e
    obtain ⟨rfl, rfl⟩ := e
    rcases List.mem_append.1 h with h | h
    · exact .inl h
    · exact .inr (by simpa using h)
  · exact .inl h
theorem getD_at (a : List Int) (k : Nat) (h : k < a.length) : a.getD k 0 = a[k] := by simp [List.getD_eq_getElem?_getD, h]
theorem getD_set_self {a : List Int} {k : Nat} (h : k < a.length) (z : Int) : (a.set k z).getD k 0 = z := by
  simp [List.getD_eq_getElem?_getD, h]
theorem getD_set_other (a : List Int) {k j : Nat} (h : j ≠ k) (z : Int) : (a.set k z).getD j 0 = a.getD j 0 := by
  simp [List.getD_eq_getElem?_getD, List.getElem?_set_ne (Ne.symm h)]
/-- One step of it. -/
theorem Qok.look {l : List T} {had : List Int} {st : List Int × LK} {todo todo' : Nat → Prop} {i : Nat} {t : T} (Q : Qok l had st todo) (ht : l[i]? = some t) (hok : t.ok = true) (hd : ∀ j, todo j → j = i ∨ todo' j) (hi : todo i) (hi' : ¬ todo' i) (hsub : ∀ j, todo' j → todo j) : Qok l had (lookS had t i st) todo' := by
  have hp := T.ok_p hok
  unfold lookS
  cases e : fw had (an t) with
  | some p =>
    obtain ⟨hp13, hlt⟩ := fw_some e
    have hnr : rdy had t = false := by
      cases h : rdy had t with
      | false => rfl
      | true =>
        have := an_rdy Q.h h p hp13
        omega
    have hlive : had.getD ((p : Int)).toNat 0 < (an t).getD p 0 := by simpa using hlt
    refine ⟨Q.h, Q.r, Q.r1, fun j u hj hn hr => ?_, fun j u hj hn ho hr hh => ?_, fun p n j hj => ?_, fun q m => ?_, fun q m j hj hlv => ?_, fun j q m q' m' h1 h2 l1 l2 => ?_⟩
    · by_cases hji : j = i
      · subst hji
        rw [ht] at hj
        cases hj
        rw [hnr] at hr
        cases hr
      · exact Q.r2 j u hj (fun h => by rcases hd j h with h | h; exact hji h; exact hn h) hr
    · by_cases hji : j = i
      · subst hji
        rw [ht] at hj
        cases hj
        exact ⟨p, hp13, lkPut_new, hlt⟩
      · obtain ⟨q, h1, h2, h3⟩ := Q.c j u hj (fun h => by rcases hd j h with h | h; exact hji h; exact hn h) ho hr hh
        exact ⟨q, h1, lkPut_mem h2, h3⟩
    · rcases lkPut_inv hj with h | rfl
      · exact Q.k p n j h
      · exact ⟨t, ht, hok⟩
    · show (lkPut _ _ _ _ q m).Nodup
      unfold lkPut
      split
      · refine List.nodup_append.2 ⟨Q.nd _ _, by simp, fun a ha c hc e => ?_⟩
        simp only [List.mem_singleton] at hc
        subst hc
        subst e
        exact Q.lv _ _ _ ha hlive hi
      · exact Q.nd q m
    · rcases lkPut_inv hj with h | rfl
      · exact fun h' => Q.lv q m j h hlv (hsub j h')
      · exact hi'
    · rcases lkPut_inv2 h1 with g1 | ⟨e1, e2, e3⟩
      · rcases lkPut_inv2 h2 with g2 | ⟨e4, e5, e6⟩
        · exact Q.un j q m q' m' g1 g2 l1 l2
        · exact absurd (e4 ▸ hi) (Q.lv q m j g1 l1)
      · rcases lkPut_inv2 h2 with g2 | ⟨e4, e5, e6⟩
        · exact absurd (e1 ▸ hi) (Q.lv q' m' j g2 l2)
        · exact ⟨e2.trans e5.symm, e3.trans e6.symm⟩
  | none =>
    have hle := fw_none e
    have hlq := an_lq Q.h hok hle
    by_cases hr : rdy had t = true
    · simp only [hr, if_true]
      have hk : t.p.toNat < st.1.length := by rw [Q.r]; omega
      have hmin : ∀ x : Int, (if (i : Int) < x then (i : Int) else x) ≤ x ∧ (if (i : Int) < x then (i : Int) else x) ≤ i := fun x => by split <;> omega
      refine ⟨Q.h, by simp [Q.r], fun p hp13 => ?_, fun j u hj hn hru => ?_, fun j u hj hn ho hru hh => ?_, Q.k, Q.nd, fun p n j h h2 h3 => Q.lv p n j h h2 (hsub j h3), Q.un⟩
      · by_cases hpp : p = t.p.toNat
        · subst hpp
          rw [getD_set_self hk]
          split
          · exact .inr ⟨i, t, ht, rfl, hr, rfl⟩
          · exact Q.r1 _ hp13
        · rw [getD_set_other _ hpp]
          exact Q.r1 p hp13
      · by_cases hji : j = i
        · subst hji
          rw [ht] at hj
          cases hj
          rw [getD_set_self hk]
          exact (hmin _).2
        · have h1 := Q.r2 j u hj (fun h => by rcases hd j h with h | h; exact hji h; exact hn h) hru
          by_cases hpp : u.p.toNat = t.p.toNat
          · rw [hpp] at h1 ⊢
            rw [getD_set_self hk]
            exact Int.le_trans (hmin _).1 h1
          · rw [getD_set_other _ hpp]
            exact h1
      · by_cases hji : j = i
        · subst hji
          rw [ht] at hj
          cases hj
          rw [hr] at hru
          cases hru
        · exact Q.c j u hj (fun h => by rcases hd j h with h | h; exact hji h; exact hn h) ho hru hh
    · have hr' : rdy had t = false := by simpa using hr
      simp only [hr', Bool.false_eq_true, if_false]
      have hhas : hsT had t = true := by
        refine hsT_iff.2 ⟨hp, (T.ok_s hok).1, ?_⟩
        have h1 := hle t.p.toNat (by omega)
        rw [an_same hok] at h1
        rcases Int.lt_or_le (had.getD t.p.toNat 0) t.s with h2 | h2
        · exact absurd (rdy_mk hok (by omega) hlq) hr
        · exact h2
      refine ⟨Q.h, Q.r, Q.r1, fun j u hj hn hru => ?_, fun j u hj hn ho hru hh => ?_, Q.k, Q.nd, fun p n j h h2 h3 => Q.lv p n j h h2 (hsub j h3), Q.un⟩
      · by_cases hji : j = i
        · subst hji
          rw [ht] at hj
          cases hj
          rw [hr'] at hru
          cases hru
        · exact Q.r2 j u hj (fun h => by rcases hd j h with h | h; exact hji h; exact hn h) hru
      · by_cases hji : j = i
        · subst hji
          rw [ht] at hj
          cases hj
          rw [hhas] at hh
          cases hh
        · exact Q.c j u hj (fun h => by rcases hd j h with h | h; exact hji h; exact hn h) ho hru hh
/-- All of some are looked at. -/
theorem Qok.looks {l : List T} {had : List Int} : ∀ (pl : List Nat) {st : List Int × LK}, Qok l had st (· ∈ pl) → pl.Nodup → (∀ i ∈ pl, ∃ t, l[i]? = some t ∧ t.ok = true) → Qok l had (looks had l pl st) fun _ => False
  | [], st, Q, _, _ => ⟨Q.h, Q.r, Q.r1, fun i t h _ => Q.r2 i t h (by simp), fun i t h _ => Q.c i t h (by simp), Q.k, Q.nd, fun _ _ _ _ _ h => h, Q.un⟩
  | i :: pl, st, Q, hn, hs => by
    obtain ⟨t, ht, hok⟩ := hs i (by simp)
    simp only [Ytfiamiflkfdhoaa.looks, ht]
    have hn2 := List.nodup_cons.1 hn
    exact Qok.looks pl (Q.look ht hok (fun j hj => by simpa using hj) (by simp) hn2.1 fun j hj => List.mem_cons_of_mem _ hj) hn2.2 fun j hj => hs j (List.mem_cons_of_mem _ hj)
/-- One is delivered. -/
theorem Qok.deliver {l : List T} {had : List Int} {st : List Int × LK} {t : T} (Q : Qok l had st fun _ => False) (hr : rdy had t = true) : Qok l (stp had t) (st.1.set t.p.toNat (l.length : Int), st.2) (· ∈ st.2 t.p t.s) := by
  have hok := rdy_ok hr
  have hp := T.ok_p hok
  have hk : t.p.toNat < st.1.length := by rw [Q.r]; omega
  have hh' : (stp had t).length = 13 := by rw [stp_length]; exact Q.h
  have hold : ∀ q, q < 13 → ∀ n : Int, had.getD q 0 < n → ¬ (stp had t).getD q 0 < n → q = t.p.toNat ∧ n = t.s := fun q hq n h1 h2 => by
    by_cases e : q = t.p.toNat
    · subst e
      rw [stp_same Q.h hok] at h2
      have := rdy_s hr
      exact ⟨rfl, by omega⟩
    · rw [stp_other had t q e] at h2
      exact absurd h1 h2
  have hlive : ∀ p n : Int, (stp had t).getD p.toNat 0 < n → had.getD p.toNat 0 < n := fun p n h => Int.lt_of_le_of_lt (stp_le Q.h hr _) h
  have hstay : ∀ u : T, u.p.toNat ≠ t.p.toNat → rdy had u = true → rdy (stp had t) u = true := fun u hne hu =>
    rdy_mk (rdy_ok hu) (by rw [stp_other had t _ hne]; exact rdy_s hu) (lq_mono u.hv Q.h hh' (rdy_lq hu) (stp_le Q.h hr))
  have hnot : ∀ (i : Nat) (u : T), l[i]? = some u → u.ok = true → rdy had u = false → hsT had u = false → i ∉ st.2 t.p t.s → ∃ p : Nat, p < 13 ∧ i ∈ st.2 p ((an u).getD p 0) ∧ (stp had t).getD p 0 < (an u).getD p 0 := fun i u hi ho h1 h2 h3 => by
    obtain ⟨p, hp13, hm, hlt⟩ := Q.c i u hi (fun h => h) ho h1 h2
    by_cases hh : (stp had t).getD p 0 < (an u).getD p 0
    · exact ⟨p, hp13, hm, hh⟩
    · obtain ⟨e1, e2⟩ := hold p hp13 _ hlt hh
      refine absurd ?_ h3
      rw [e2] at hm
      have : (p : Int) = t.p := by omega
      rwa [this] at hm
  refine ⟨hh', by simp [Q.r], fun p hp13 => ?_, fun i u hi hn hru => ?_, fun i u hi hn ho hru hh => ?_, Q.k, Q.nd, fun p n i h1 h2 h3 => ?_, fun i p n q m h1 h2 l1 l2 => Q.un i p n q m h1 h2 (hlive p n l1) (hlive q m l2)⟩
  · by_cases hpp : p = t.p.toNat
    · subst hpp
      rw [getD_set_self hk]
      exact .inl rfl
    · rw [getD_set_other _ hpp]
      rcases Q.r1 p hp13 with h | ⟨i, u, h1, h2, h3, h4⟩
      · exact .inl h
      · exact .inr ⟨i, u, h1, h2, hstay u (by omega) h3, h4⟩
  · have hou := rdy_ok hru
    by_cases hru0 : rdy had u = true
    · by_cases hpp : u.p.toNat = t.p.toNat
      · have h1 := rdy_s hru
        have h2 := rdy_s hru0
        rw [hpp, stp_same Q.h hok] at h1
        rw [hpp] at h2
        have := rdy_s hr
        omega
      · rw [getD_set_other _ hpp]
        exact Q.r2 i u hi (fun h => h) hru0
    · have hnh : hsT had u = false := by
        cases e : hsT had u with
        | false => rfl
        | true =>
          rw [has_rdy (has_mono e (stp_le Q.h hr))] at hru
          cases hru
      obtain ⟨p, hp13, hm, hlt⟩ := hnot i u hi hou (by simpa using hru0) hnh hn
      have := an_rdy hh' hru p hp13
      omega
  · refine hnot i u hi ho ?_ ?_ hn
    · cases e : rdy had u with
      | false => rfl
      | true =>
        by_cases hpp : u.p.toNat = t.p.toNat
        · have h2 := rdy_s e
          rw [hpp] at h2
          have h3 := rdy_s hr
          have hpu := T.ok_p ho
          have : hsT (stp had t) u = true := hsT_iff.2 ⟨hpu, (T.ok_s ho).1, by rw [hpp, stp_same Q.h hok]; omega⟩
          rw [this] at hh
          cases hh
        · rw [hstay u hpp e] at hru
          cases hru
    · cases e : hsT had u with
      | false => rfl
      | true =>
        rw [has_mono e (stp_le Q.h hr)] at hh
        cases hh
  · have hd : had.getD t.p.toNat 0 < t.s := by
      have := rdy_s hr
      omega
    obtain ⟨rfl, rfl⟩ := Q.un i p n t.p t.s h1 h3 (hlive p n h2) hd
    rw [stp_same Q.h hok] at h2
    omega
/-- Its beginning. -/
theorem Qok.start {l : List T} {v : List Int} (hv : v.length = 13) : Qok l v (List.replicate 13 (l.length : Int), fun _ _ => []) (fun i => ∃ t, l[i]? = some t ∧ t.ok = true) :=
  ⟨hv, by simp, fun p hp => .inl (by rw [List.getD_eq_getElem?_getD, List.getElem?_replicate, if_pos hp]; rfl), fun i t hi hn hr => absurd ⟨t, hi, rdy_ok hr⟩ hn, fun i t hi hn ho _ _ => absurd ⟨t, hi, ho⟩ hn, (fun _ _ _ h => by cases h), (fun _ _ => List.nodup_nil), (fun _ _ _ h => by cases h), fun _ _ _ _ _ h => by cases h⟩
/-- As many as there are places, at most. -/
theorem nodup_len : ∀ (n : Nat) (l : List Nat), l.Nodup → (∀ i ∈ l, i < n) → l.length ≤ n
  | 0, l, _, h => by
    cases l with
    | nil => simp
    | cons x l => exact absurd (h x (by simp)) (by omega)
  | n + 1, l, hd, h => by
    have h1 : (l.erase n).Nodup := hd.erase n
    have h2 : ∀ i ∈ l.erase n, i < n := fun i hi => by
      have h3 := (hd.mem_erase_iff).1 hi
      have := h i h3.2
      have := h3.1
      omega
    have h3 := nodup_len n _ h1 h2
    by_cases hm : n ∈ l
    · rw [List.length_erase_of_mem hm] at h3
      omega
    · rw [List.erase_of_not_mem hm] at h3
      omega
theorem Qok.row {l : List T} {had : List Int} {st : List Int × LK} {todo : Nat → Prop} (Q : Qok l had st todo) (p n : Int) : (st.2 p n).length ≤ l.length :=
  nodup_len _ _ (Q.nd p n) fun i hi => by
    obtain ⟨t, ht, _⟩ := Q.k p n i hi
    exact (List.getElem?_eq_some_iff.1 ht).1
/-- The least of all. -/
def minL : List Int → Int
  | [] => 0
  | [x] => x
  | x :: y :: r => if minL (y :: r) < x then minL (y :: r) else x
/-- From the front: what a loop comes to. -/
def minF (m : Int) : List Int → Int
  | [] => m
  | x :: r => minF (if x < m then x else m) r
theorem minF_le : ∀ (r : List Int) (m : Int), minF m r ≤ m ∧ (∀ x ∈ r, minF m r ≤ x) ∧ (minF m r = m ∨ minF m r ∈ r)
  | [], m => ⟨Int.le_refl _, (fun _ h => by cases h), .inl rfl⟩
  | x :: r, m => by
    obtain ⟨h1, h2, h3⟩ := minF_le r (if x < m then x else m)
    have h4 : (if x < m then x else m) ≤ m ∧ (if x < m then x else m) ≤ x := by split <;> omega
    refine ⟨Int.le_trans h1 h4.1, fun y hy => ?_, ?_⟩
    · rcases List.mem_cons.1 hy with rfl | hy
      · exact Int.le_trans h1 h4.2
      · exact h2 y hy
    · simp only [minF]
      rcases h3 with h3 | h3
      · rw [h3]
        split
        · exact .inr (by simp)
        · exact .inl rfl
      · exact .inr (List.mem_cons_of_mem _ h3)
theorem minF_snoc (x : Int) : ∀ (r : List Int) (m : Int), minF m (r ++ [x]) = if x < minF m r then x else minF m r
  | [], m => rfl
  | y :: r, m => by simp only [List.cons_append, minF]; exact minF_snoc x r _
/-- What is found first. -/
theorem Qok.first {l : List T} {had : List Int} {st : List Int × LK} (Q : Qok l had st fun _ => False) : minF (st.1.getD 0 0) (st.1.drop 1) = ((l.findIdx (rdy had) : Nat) : Int) := by
  obtain ⟨h1, h2, h3⟩ := minF_le (st.1.drop 1) (st.1.getD 0 0)
  generalize minF (st.1.getD 0 0) (st.1.drop 1) = m at h1 h2 h3
  have hle : ∀ p, p < 13 → m ≤ st.1.getD p 0 := fun p hp => by
    cases p with
    | zero => exact h1
    | succ p =>
      refine h2 _ ?_
      have hl : p + 1 < st.1.length := by rw [Q.r]; exact hp
      rw [getD_at _ _ hl]
      refine List.mem_iff_getElem.2 ⟨p, by simp; omega, by simp []⟩
  have hex : ∃ p, p < 13 ∧ st.1.getD p 0 = m := by
    rcases h3 with h3 | h3
    · exact ⟨0, by omega, h3.symm⟩
    · obtain ⟨k, hk, e⟩ := List.mem_iff_getElem.1 h3
      rw [List.length_drop, Q.r] at hk
      refine ⟨k + 1, by omega, ?_⟩
      rw [getD_at _ _ (by rw [Q.r]; omega)]
      rw [← e]
      simp []
  obtain ⟨p, hp, e⟩ := hex
  rcases Q.r1 p hp with h | ⟨i, t, ht, hi, hr, hpt⟩
  · have hno : ∀ x ∈ l, ¬ rdy had x = true := fun x hx hr => by
      obtain ⟨j, hj, ej⟩ := List.mem_iff_getElem.1 hx
      have h4 := Q.r2 j x (by rw [List.getElem?_eq_getElem hj, ej]) (fun h => h) hr
      have h5 := hle x.p.toNat (by have := T.ok_p (rdy_ok hr); omega)
      omega
    rw [List.findIdx_eq_length.2 fun x hx => by simpa using hno x hx]
    omega
  · obtain ⟨hil, eil⟩ := List.getElem?_eq_some_iff.1 ht
    have : l.findIdx (rdy had) = i := by
      refine (List.findIdx_eq hil).2 ⟨by rw [eil]; exact hr, fun j hj => ?_⟩
      cases ej : rdy had l[j] with
      | false => rfl
      | true =>
        have h4 := Q.r2 j l[j] (List.getElem?_eq_getElem (by omega)) (fun h => h) ej
        have h5 := hle (l[j]).p.toNat (by have := T.ok_p (rdy_ok ej); omega)
        omega
    rw [this]
    omega
end Go.Proofs.Ytfiamiflkfdhoaa
/- Maps of places by dots: what a map holds, looked up, and put in. -/
namespace Go.Proofs.Ytfiamiflkfdhoaa
open Go.RowKit Go.ChangeShapes Go.WideShapes Go.MapKept Go.ChangeMaps

theorem dot_law : Go.WideMaps.KeyLaw Try.prog 31 := Go.deep_law (m := 2) (by omega) (by kernel_rfl) (by kernel_rfl) (by kernel_rfl)
def I64 (x : Int) : Prop := -9223372036854775808 ≤ x ∧ x ≤ 9223372036854775807
theorem dot_key {p s : Int} (hp : I64 p) (hs : I64 s) : ∃ l, keyOf Try.prog 31 (D p s) = some l := by
  obtain ⟨m, hm⟩ : ∃ m, Try.prog.types.size = m + 1 := ⟨Try.prog.types.size - 1, by kernel_rfl⟩
  have wp : (Lit.int .i64 p).wf = true := by
    have : wrap64 p = p := by
      unfold wrap64
      have := hp.1
      have := hp.2
      omega
    rw [← this]
    exact wrap64_wf _
  have ws : (Lit.int .i64 s).wf = true := by
    have : wrap64 s = s := by
      unfold wrap64
      have := hs.1
      have := hs.2
      omega
    rw [← this]
    exact wrap64_wf _
  unfold keyOf
  rw [Try.underlying31]
  simp only [show Try.prog.keyType 31 = true by kernel_rfl, hm]
  simp [Value.formed, Value.cells, Program.keyLits, Try.underlying31, Try.underlying3, wp, ws, show Try.prog.cellsOf 31 = 2 by kernel_rfl, show Try.prog.cellsOf 3 = 1 by kernel_rfl]

/-- Places, as ints. -/
abbrev plv (l : List Nat) : List Value := l.map (fun i : Nat => Value.int .i64 (i : Int))
/-- A row of places of one's own. -/
abbrev PRow (w : World) (B : Nat) (v : Value) (l : List Nat) : Prop := w.ownsRow B 3 1 v l.length (plv l)
/-- What a map's entries say: each dot's places lie in a row of their own. -/
structure MOk (w : World) (B : Nat) (es : Array MapEntry) (clock : Nat) (lk : LK) : Prop where
  s1 : ∀ x ∈ es.toList, x.born < clock
  s2 : (es.toList.map (·.born)).Nodup
  ks : ∀ x ∈ es.toList, ∃ p s, I64 p ∧ I64 s ∧ x.key = D p s
  kn : (es.toList.map (·.key)).Nodup
  vs : ∀ x ∈ es.toList, ∀ p s, x.key = D p s → PRow w B x.val (lk p s)
  no : ∀ p s, (∀ x ∈ es.toList, x.key ≠ D p s) → lk p s = []
  ap : ∀ x ∈ es.toList, ∀ y ∈ es.toList, x.key ≠ y.key → ∀ b, x.val.ownBlock = some b → y.val.ownBlock ≠ some b
/-- Another row that lies by itself, but for one dot's. -/
structure Ext (w : World) (B : Nat) (es : Array MapEntry) (pv : Value) (pl : List Nat) (dp ds : Int) : Prop where
  p : PRow w B pv pl
  a : ∀ x ∈ es.toList, x.key ≠ D dp ds → ∀ b, pv.ownBlock = some b → x.val.ownBlock ≠ some b
def MAt (w : World) (B bm : Nat) (lk : LK) : Prop := ∃ es clock, w.heap[bm]? = some (.map es clock) ∧ MOk w B es clock lk
section
variable {w w' : World} {B bm : Nat} {es : Array MapEntry} {clock : Nat} {lk : LK}
theorem MOk.keys (h : MOk w B es clock lk) : ∀ x ∈ es.toList, ∃ l, keyOf Try.prog 31 x.key = some l := fun x hx => by
  obtain ⟨p, s, hp, hs, e⟩ := h.ks x hx
  rw [e]
  exact dot_key hp hs
theorem zero80 (u : World) : (zeroValue 80).run Try.prog u = .ok (.slice none 0 0) u := Try.zeroValue80 u
theorem MAt.look (h : MAt w B bm lk) {p s : Int} (hp : I64 p) (hs : I64 s) : ∃ v, (Instr.lookup 77 (.map (some bm)) (D p s) false).run Try.prog w = .ok v w ∧ PRow w B v (lk p s) := by
  obtain ⟨es, clock, hb, M⟩ := h
  obtain ⟨l, hl⟩ := dot_key hp hs
  rcases dot_law.find w hl es.toList M.keys with ⟨h1, h2⟩ | ⟨j, e0, h1, h2, h3⟩
  · refine ⟨.slice none 0 0, by simp [Instr.lookup, run_underlying Try.underlying77, MapKept.run_getObj_map hb, dot_law.check w _ hl, h1, Result.andThen], ?_⟩
    rw [M.no p s h2]
    exact World.ownsRow_nil _ _ _ _
  · have hm := List.mem_of_getElem? h2
    exact ⟨e0.val, by simp [Instr.lookup, run_underlying Try.underlying77, MapKept.run_getObj_map hb, dot_law.check w _ hl, h1, Result.andThen], M.vs e0 hm p s h3⟩
theorem D_inj {p s q u : Int} (h : D p s = D q u) : p = q ∧ s = u := by
  simp only [Value.agg.injEq, Array.mk.injEq, List.cons.injEq, Value.int.injEq, true_and, and_true] at h
  exact h
/-- One place more behind a dot: the entry, and then its store. -/
theorem MOk.entry (hb : w.heap[bm]? = some (.map es clock)) (M : MOk w B es clock lk) {p s : Int} (hp : I64 p) (hs : I64 s) (i : Nat) : ∃ (v0 : Value) (st : Nat) (es1 : Array MapEntry) (clock1 : Nat), (Instr.mapEntry 77 (.map (some bm)) (D p s)).run Try.prog w = .ok (.tuple #[v0, goInt st]) (setBlock w bm (.map es1 clock1)) ∧ PRow w B v0 (lk p s) ∧
    ∀ (w2 : World) (val : Value), w2.heap[bm]? = some (.map es1 clock1) → ∃ es' clock', (Instr.entryStore 77 (.map (some bm)) (goInt st) val).run Try.prog w2 = .ok () (setBlock w2 bm (.map es' clock')) ∧
      ∀ w3 : World, (∀ v q, v.ownBlock ≠ v0.ownBlock ∨ v0.ownBlock = none → PRow w B v q → PRow w3 B v q) → PRow w3 B val (lk p s ++ [i]) → (val.ownBlock = v0.ownBlock ∨ ∀ v q, PRow w B v q → ∀ b, v.ownBlock = some b → val.ownBlock ≠ some b) → MOk w3 B es' clock' (lkPut lk p s i) ∧ (∀ pv pl dp ds, D p s ≠ D dp ds → Ext w B es pv pl dp ds → Ext w3 B es' pv pl dp ds) := by
  obtain ⟨l, hl⟩ := dot_key hp hs
  have hput : ∀ q u, D q u ≠ D p s → lkPut lk p s i q u = lk q u := fun q u hne => by
    unfold lkPut
    rw [if_neg]
    rintro ⟨rfl, rfl⟩
    exact hne rfl
  have hself : lkPut lk p s i p s = lk p s ++ [i] := by simp [lkPut]
  rcases dot_law.find w hl es.toList M.keys with ⟨h1, h2⟩ | ⟨j, e0, h1, h2, h3⟩
  · refine ⟨.slice none 0 0, clock, es.push ⟨D p s, .slice none 0 0, clock⟩, clock + 1, ?_, by rw [M.no p s h2]; exact World.ownsRow_nil _ _ _ _, fun w2 val hw2 => ⟨es.push ⟨D p s, val, clock⟩, clock + 1, ?_, fun w3 hr hv hb' => ?_⟩⟩
    · simp [Instr.mapEntry, run_underlying Try.underlying77, MapKept.run_getObj_map hb, dot_law.check w false hl, h1, MapKept.run_setObj_map _ hb, Result.andThen, setBlock]
    · have hidx : (es.push ⟨D p s, .slice none 0 0, clock⟩).findIdx? (fun e => ((e.born : Nat) : Int) == ((clock : Nat) : Int)) = some es.size := by
        rw [Go.WideElems.findIdx_arr]
        refine Go.WideElems.findIdx_born (l := (es.push ⟨D p s, .slice none 0 0, clock⟩).toList) (j := es.size) (e0 := ⟨D p s, .slice none 0 0, clock⟩) ?_ (by simp)
        simp only [Array.toList_push, List.map_append, List.map_cons, List.map_nil]
        refine List.nodup_append.2 ⟨M.s2, by simp, fun a ha c hc e1 => ?_⟩
        simp only [List.mem_singleton] at hc
        obtain ⟨x, hx, rfl⟩ := List.mem_map.1 ha
        have := M.s1 x hx
        omega
      have hmod : (es.push ⟨D p s, .slice none 0 0, clock⟩).modify es.size (fun e => { e with val := val }) = es.push ⟨D p s, val, clock⟩ := by
        apply Array.ext'
        rw [Array.toList_modify, Array.toList_push, Array.toList_push, ← Array.length_toList, Go.WideElems.modify_last]
      simp [Instr.entryStore, MapKept.run_getObj_map hw2, asInt, asIntOf, goInt, hidx, hmod, MapKept.run_setObj_map _ hw2, Result.andThen, setBlock]
    · have hmem : ∀ x, x ∈ (es.push ⟨D p s, val, clock⟩).toList ↔ x ∈ es.toList ∨ x = ⟨D p s, val, clock⟩ := fun x => by simp
      refine ⟨⟨fun x hx => ?_, ?_, fun x hx => ?_, ?_, fun x hx q u e => ?_, fun q u hno => ?_, fun x hx y hy hne b hbx => ?_⟩, fun pv pl dp ds hne E => ⟨hr _ _ (.inr rfl) E.p, fun x hx hk b hbp => ?_⟩⟩
      rotate_right
      · rcases (hmem x).1 hx with h | rfl
        · exact E.a x h hk b hbp
        · rcases hb' with hb' | hb'
          · show val.ownBlock ≠ some b
            rw [hb']
            simp [Value.ownBlock]
          · exact hb' _ _ E.p b hbp
      · rcases (hmem x).1 hx with h | rfl
        · have := M.s1 x h
          omega
        · exact Nat.lt_succ_self _
      · simp only [Array.toList_push, List.map_append, List.map_cons, List.map_nil]
        refine List.nodup_append.2 ⟨M.s2, by simp, fun a ha c hc e1 => ?_⟩
        simp only [List.mem_singleton] at hc
        obtain ⟨x, hx, rfl⟩ := List.mem_map.1 ha
        have := M.s1 x hx
        omega
      · rcases (hmem x).1 hx with h | rfl
        · exact M.ks x h
        · exact ⟨p, s, hp, hs, rfl⟩
      · simp only [Array.toList_push, List.map_append, List.map_cons, List.map_nil]
        refine List.nodup_append.2 ⟨M.kn, by simp, fun a ha c hc e1 => ?_⟩
        simp only [List.mem_singleton] at hc
        obtain ⟨x, hx, rfl⟩ := List.mem_map.1 ha
        exact h2 x hx (e1.trans hc)
      · rcases (hmem x).1 hx with h | rfl
        · rw [hput q u (fun e2 => h2 x h (e.trans e2))]
          exact hr _ _ (.inr rfl) (M.vs x h q u e)
        · obtain ⟨rfl, rfl⟩ := D_inj e
          rw [hself]
          exact hv
      · rw [hput q u (fun e2 => hno ⟨D p s, val, clock⟩ ((hmem _).2 (.inr rfl)) e2.symm)]
        exact M.no q u fun x hx => hno x ((hmem x).2 (.inl hx))
      · rcases (hmem x).1 hx with h | rfl
        · rcases (hmem y).1 hy with h' | rfl
          · exact M.ap x h y h' hne b hbx
          · obtain ⟨q, u, _, _, e⟩ := M.ks x h
            rcases hb' with hb' | hb'
            · rw [hb']
              simp [Value.ownBlock]
            · exact hb' _ _ (M.vs x h q u e) b hbx
        · rcases (hmem y).1 hy with h' | rfl
          · obtain ⟨q, u, _, _, e⟩ := M.ks y h'
            intro hyb
            rcases hb' with hb' | hb'
            · rw [hb'] at hbx
              simp [Value.ownBlock] at hbx
            · exact hb' _ _ (M.vs y h' q u e) b hyb hbx
          · exact absurd rfl hne
  · have hm := List.mem_of_getElem? h2
    have hj : es[j]? = some e0 := by simpa using h2
    have hsame : es.modify j (fun e => { e with key := D p s }) = es := by
      apply Array.ext'
      rw [Array.toList_modify, modify_eq_set _ _ _ _ h2]
      have : ({ e0 with key := D p s } : MapEntry) = e0 := by rw [← h3]
      rw [this]
      exact Go.WideElems.set_self _ _ _ h2
    refine ⟨e0.val, e0.born, es, clock, ?_, M.vs e0 hm p s h3, fun w2 val hw2 => ⟨es.modify j (fun e' => { e' with val := val }), clock, ?_, fun w3 hr hv hb' => ?_⟩⟩
    · simp [Instr.mapEntry, run_underlying Try.underlying77, MapKept.run_getObj_map hb, dot_law.check w false hl, h1, hj, h3, dot_law.stays w hl, hsame, MapKept.run_setObj_map _ hb, Result.andThen, setBlock]
    · have hidx : es.findIdx? (fun e => ((e.born : Nat) : Int) == ((e0.born : Nat) : Int)) = some j := by
        rw [Go.WideElems.findIdx_arr]
        exact Go.WideElems.findIdx_born M.s2 h2
      simp [Instr.entryStore, MapKept.run_getObj_map hw2, asInt, asIntOf, goInt, hidx, MapKept.run_setObj_map _ hw2, Result.andThen, setBlock]
    · have hlist : (es.modify j (fun e' => { e' with val := val })).toList = es.toList.set j { e0 with val := val } := by
        rw [Array.toList_modify, modify_eq_set _ _ _ _ h2]
      obtain ⟨hjl, ej⟩ := List.getElem?_eq_some_iff.1 h2
      have hmem : ∀ x, x ∈ (es.modify j (fun e' => { e' with val := val })).toList → (x ∈ es.toList ∧ x.key ≠ D p s) ∨ x = { e0 with val := val } := fun x hx => by
        rw [hlist] at hx
        obtain ⟨k, hk, e⟩ := List.mem_iff_getElem.1 hx
        rw [List.length_set] at hk
        rw [List.getElem_set] at e
        split at e
        · exact .inr e.symm
        · rename_i hne
          refine .inl ⟨e ▸ List.getElem_mem hk, fun ek => hne ?_⟩
          have h5 := List.pairwise_iff_getElem.1 M.kn
          have e6 : (es.toList.map (·.key))[j]'(by simpa using hjl) = (es.toList.map (·.key))[k]'(by simpa using hk) := by simp only [List.getElem_map, ej, h3, e, ek]
          rcases Nat.lt_trichotomy j k with h6 | h6 | h6
          · exact absurd e6 (h5 j k _ _ h6)
          · exact h6
          · exact absurd e6.symm (h5 k j _ _ h6)
      have hold : ∀ x ∈ es.toList, x.key ≠ D p s → x ∈ (es.modify j (fun e' => { e' with val := val })).toList := fun x hx hk => by
        rw [hlist]
        obtain ⟨k, hk', e⟩ := List.mem_iff_getElem.1 hx
        refine List.mem_iff_getElem.2 ⟨k, by simpa using hk', ?_⟩
        rw [List.getElem_set, if_neg]
        · exact e
        · rintro rfl
          rw [ej] at e
          exact hk (e ▸ h3)
      have hborn : (es.modify j (fun e' => { e' with val := val })).toList.map (·.born) = es.toList.map (·.born) := by
        rw [hlist, List.map_set]
        exact Go.WideElems.set_self _ _ _ (by simp [h2])
      have hkeys : (es.modify j (fun e' => { e' with val := val })).toList.map (·.key) = es.toList.map (·.key) := by
        rw [hlist, List.map_set]
        exact Go.WideElems.set_self _ _ _ (by simp [h2])
      refine ⟨⟨fun x hx => ?_, by rw [hborn]; exact M.s2, fun x hx => ?_, by rw [hkeys]; exact M.kn, fun x hx q u e => ?_, fun q u hno => ?_, fun x hx y hy hne b hbx => ?_⟩, fun pv pl dp ds hne E => ⟨hr _ _ ?_ E.p, fun x hx hk b hbp => ?_⟩⟩
      rotate_right 2
      · rcases hx0 : pv.ownBlock with _ | b
        · rcases h0 : e0.val.ownBlock with _ | c
          · exact .inr rfl
          · exact .inl (by simp)
        · exact .inl fun e3 => E.a e0 hm (fun e4 => hne (h3.symm.trans e4)) b hx0 e3.symm
      · rcases hmem x hx with ⟨h, _⟩ | rfl
        · exact E.a x h hk b hbp
        · show val.ownBlock ≠ some b
          rcases hb' with hb' | hb'
          · rw [hb']
            exact E.a e0 hm (fun e4 => hne (h3.symm.trans e4)) b hbp
          · exact hb' _ _ E.p b hbp
      · rcases hmem x hx with ⟨h, _⟩ | rfl
        · exact M.s1 x h
        · exact M.s1 e0 hm
      · rcases hmem x hx with ⟨h, _⟩ | rfl
        · exact M.ks x h
        · exact ⟨p, s, hp, hs, h3⟩
      · rcases hmem x hx with ⟨h, hk⟩ | rfl
        · rw [hput q u (fun e2 => hk (e.trans e2))]
          refine hr _ _ ?_ (M.vs x h q u e)
          rcases hx0 : x.val.ownBlock with _ | b
          · rcases h0 : e0.val.ownBlock with _ | c
            · exact .inr rfl
            · exact .inl (by simp)
          · exact .inl fun e3 => M.ap x h e0 hm (fun e4 => hk (e4.trans h3)) b hx0 e3.symm
        · obtain ⟨rfl, rfl⟩ := D_inj (h3.symm.trans e)
          rw [hself]
          exact hv
      · have hqu : D q u ≠ D p s := fun e2 => by
          have h7 : D p s ∈ (es.modify j (fun e' => { e' with val := val })).toList.map (·.key) := by
            rw [hkeys]
            exact List.mem_map.2 ⟨e0, hm, h3⟩
          obtain ⟨x, hx, e⟩ := List.mem_map.1 h7
          exact hno x hx (e.trans e2.symm)
        rw [hput q u hqu]
        exact M.no q u fun x hx e => hno x (hold x hx (fun e2 => hqu (e.symm.trans e2))) e
      · rcases hmem x hx with ⟨h, hk⟩ | rfl
        · rcases hmem y hy with ⟨h', hk'⟩ | rfl
          · exact M.ap x h y h' hne b hbx
          · obtain ⟨q, u, _, _, e⟩ := M.ks x h
            rcases hb' with hb' | hb'
            · show val.ownBlock ≠ some b
              rw [hb']
              exact M.ap x h e0 hm (fun e4 => hk (e4.trans h3)) b hbx
            · exact hb' _ _ (M.vs x h q u e) b hbx
        · rcases hmem y hy with ⟨h', hk'⟩ | rfl
          · obtain ⟨q, u, _, _, e⟩ := M.ks y h'
            intro hyb
            have hbx' : val.ownBlock = some b := hbx
            rcases hb' with hb' | hb'
            · rw [hb'] at hbx'
              exact M.ap y h' e0 hm (fun e4 => hk' (e4.trans h3)) b hyb hbx'
            · exact hb' _ _ (M.vs y h' q u e) b hyb hbx'
          · exact absurd rfl hne
end
end Go.Proofs.Ytfiamiflkfdhoaa
