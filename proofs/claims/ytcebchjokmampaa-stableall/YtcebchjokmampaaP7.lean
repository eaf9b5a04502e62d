import Derived.Test.YtcebchjokmampaaP6
import Derived.Test.YtcebchjokmampaaP1
import Derived.Test.YtcebchjokmampaaP5
/- Rows of vectors: an array of arrays by value and in a box; a row loaded, a row stored, all of them compared. Nothing of one function. -/
namespace Go.Proofs.Ytcebchjokmampaa
open Go.RowKit

/-- A vector. -/
structure Vc where
  l : List Int
  h : l.length = 13
theorem Vc.ext {a b : Vc} (h : a.l = b.l) : a = b := by
  cases a
  cases b
  simp only at h
  subst h
  rfl
abbrev Vc.cells (x : Vc) : List Value := vals x.l
theorem Vc.len (x : Vc) : x.cells.length = 13 := by rw [Vc.cells, vals_length, x.h]
abbrev RV (M : List Vc) : Value := .agg (rows Vc.cells M).toArray
theorem size24 : (Try.prog.info? 24).map (·.size) = some 169 := by kernel_rfl
def z0 : Vc := ⟨zeros, rfl⟩
theorem rows_size {M : List Vc} (hM : M.length = 13) : (rows Vc.cells M).length = 169 := by rw [rows_length Vc.len, hM]
theorem size_r {M : List Vc} (hM : M.length = 13) : (Try.prog.info? 24).map (·.size) = some (rows Vc.cells M).toArray.size := by
  rw [List.size_toArray, rows_size hM]
  exact size24
theorem rows_one13 (M : List Vc) : (rows Vc.cells M).toArray.all (·.oneCell') = true := by
  refine all_oneCell_toArray (rows_all (fun x u hu => ?_) M)
  simp only [Vc.cells, vals, List.mem_map] at hu
  obtain ⟨n, _, rfl⟩ := hu
  rfl
section
variable {w : World} {b : Nat} {M : List Vc}
/-- A row of them. -/
theorem row_at (h : Rw w b 24 (rows Vc.cells M).toArray) (i : Nat) (hi : i < M.length) : w.rangeAt b (i * 13) (vals M[i].l) := h.range (i * 13) _ fun j u hu => by
  rw [List.getElem?_toArray]
  exact rows_at Vc.len M i hi j u hu
theorem rows_put {α : Type} {f : α → List Value} {S : Nat} (hf : ∀ x, (f x).length = S) {l : List α} {k : Nat} (hk : k < l.length) (x : α) {ys : List Value} (h : ∀ i, ys[i]? = if k * S ≤ i ∧ i < k * S + S ∧ i < (rows f l).length then (f x)[i - k * S]? else (rows f l)[i]?) : ys = rows f (l.set k x) := by
  have e1 : rows f (l.set k x) = rows f (l.take k) ++ (f x ++ rows f (l.drop (k + 1))) := by
    rw [List.set_eq_take_append_cons_drop, if_pos hk, rows_append, rows_cons]
  have e2 : rows f l = rows f (l.take k) ++ (f l[k] ++ rows f (l.drop (k + 1))) := by
    conv => lhs; rw [← List.take_append_drop k l, List.drop_eq_getElem_cons hk, rows_append, rows_cons]
  have hL : (rows f (l.take k)).length = k * S := by rw [rows_length hf, List.length_take, Nat.min_eq_left (by omega)]
  apply List.ext_getElem?
  intro i
  rw [h i, e1, e2]
  generalize rows f (l.take k) = A at hL
  generalize rows f (l.drop (k + 1)) = C
  have h1 := hf x
  have h2 := hf l[k]
  have h3 : (A ++ (f l[k] ++ C)).length = k * S + S + C.length := by rw [List.length_append, List.length_append]; omega
  rcases Nat.lt_or_ge i (k * S) with c1 | c1
  · have r1 : (A ++ (f l[k] ++ C))[i]? = A[i]? := List.getElem?_append_left (by omega)
    have r2 : (A ++ (f x ++ C))[i]? = A[i]? := List.getElem?_append_left (by omega)
    rw [if_neg (by omega), r1, r2]
  · rcases Nat.lt_or_ge i (k * S + S) with c2 | c2
    · have r2 : (A ++ (f x ++ C))[i]? = (f x)[i - k * S]? := by
        rw [List.getElem?_append_right (by omega), List.getElem?_append_left (by omega), hL]
      rw [if_pos ⟨c1, c2, by omega⟩, r2]
    · have r1 : (A ++ (f l[k] ++ C))[i]? = C[i - k * S - S]? := by
        rw [List.getElem?_append_right (by omega), List.getElem?_append_right (by omega), hL, h2]
      have r2 : (A ++ (f x ++ C))[i]? = C[i - k * S - S]? := by
        rw [List.getElem?_append_right (by omega), List.getElem?_append_right (by omega), hL, h1]
      rw [if_neg (by omega), r1, r2]
theorem setCells_ne {w : World} {g b : Nat} (hne : b ≠ g) : ∀ (cs : List Value) (o : Nat), (w.setCells g o cs).heap[b]? = w.heap[b]? := by
  intro cs
  induction cs generalizing w with
  | nil => intro o; rfl
  | cons a cs ih =>
    intro o
    show ((w.setCell ⟨g, o, none⟩ a).setCells g (o + 1) cs).heap[b]? = _
    rw [ih]
    exact Below.heap_setCell w _ a b hne
theorem size_setCells (w : World) (g : Nat) : ∀ (cs : List Value) (o : Nat), (w.setCells g o cs).heap.size = w.heap.size := by
  intro cs
  induction cs generalizing w with
  | nil => intro o; rfl
  | cons a cs ih =>
    intro o
    show ((w.setCell ⟨g, o, none⟩ a).setCells g (o + 1) cs).heap.size = _
    rw [ih, World.size_setCell]
theorem bel_setCells {n g : Nat} {w0 w : World} (h : Below n w0 w) (hg : n ≤ g) : ∀ (cs : List Value) (o : Nat), Below n w0 (w.setCells g o cs) := by
  intro cs
  induction cs generalizing w with
  | nil => intro o; exact h
  | cons a cs ih =>
    intro o
    exact ih (h.setCell (p := ⟨g, o, none⟩) hg a) (o + 1)
theorem rw_setCells {w : World} {b g : Nat} {t : TypeId} {cs : Array Value} (h : Rw w b t cs) (hne : b ≠ g) (vs : List Value) (o : Nat) : Rw (w.setCells g o vs) b t cs := (setCells_ne hne vs o).trans h

def setAll (cs : List Value) : Nat → List Value → List Value
  | _, [] => cs
  | o, v :: r => setAll (cs.set o v) (o + 1) r
theorem setAll_at : ∀ (vs : List Value) (cs : List Value) (o i : Nat), o + vs.length ≤ cs.length → (setAll cs o vs)[i]? = if o ≤ i ∧ i < o + vs.length ∧ i < cs.length then vs[i - o]? else cs[i]?
  | [], cs, o, i, _ => by
    simp only [setAll, List.length_nil, Nat.add_zero]
    rw [if_neg (by omega)]
  | v :: r, cs, o, i, h => by
    simp only [List.length_cons] at h
    rw [setAll, setAll_at r (cs.set o v) (o + 1) i (by rw [List.length_set]; omega), List.length_set, List.length_cons]
    by_cases h1 : i = o
    · subst h1
      rw [if_neg (by omega), if_pos (by omega)]
      simp [show i < cs.length by omega]
    · by_cases h2 : o + 1 ≤ i ∧ i < o + 1 + r.length ∧ i < cs.length
      · rw [if_pos h2, if_pos (by omega), show i - o = i - (o + 1) + 1 by omega, List.getElem?_cons_succ]
      · rw [if_neg h2, List.getElem?_set_ne (Ne.symm h1)]
        by_cases h3 : o ≤ i ∧ i < o + (r.length + 1) ∧ i < cs.length
        · omega
        · rw [if_neg h3]
theorem rw_all {t : TypeId} : ∀ (vs : List Value) (cs : List Value) (o : Nat) (w : World), Rw w b t cs.toArray → Rw (w.setCells b o vs) b t (setAll cs o vs).toArray
  | [], _, _, _, h => h
  | v :: r, cs, o, w, h => by
    have := h.set o v
    rw [List.setIfInBounds_toArray] at this
    exact rw_all r (cs.set o v) (o + 1) _ this
/-- A row is written. -/
theorem put_row (h : Rw w b 24 (rows Vc.cells M).toArray) (i : Nat) (hi : i < M.length) (x : Vc) : Rw (w.setCells b (i * 13) (vals x.l)) b 24 (rows Vc.cells (M.set i x)).toArray := by
  have h1 := rw_all (vals x.l) _ (i * 13) w h
  have e : setAll (rows Vc.cells M) (i * 13) (vals x.l) = rows Vc.cells (M.set i x) := rows_put Vc.len hi x fun j => by
    have hl := Vc.len x
    have hr := rows_length Vc.len M
    have := setAll_at (vals x.l) (rows Vc.cells M) (i * 13) j (by
      rw [hr, show (vals x.l).length = 13 from hl]
      have := Nat.mul_le_mul_right 13 (show i + 1 ≤ M.length from hi)
      omega)
    rw [show (vals x.l).length = 13 from hl] at this
    exact this
  rw [← e]
  exact h1
theorem there_row (h : Rw w b 24 (rows Vc.cells M).toArray) (i : Nat) (hi : i < M.length) : w.there b (i * 13) 13 := fun j hj => by
  refine ⟨?_, h.frozen _⟩
  have hl := M[i].h
  have := row_at h i hi j (.int .i64 (M[i].l[j]'(by omega))) (by simp [vals, List.getElem?_eq_getElem (show j < M[i].l.length by omega)])
  rw [this]
  rfl
end
theorem rows_cut {M : List Vc} (i : Nat) (hi : i < M.length) : (rows Vc.cells M).toArray.extract (i * 13) (i * 13 + 13) = (vals M[i].l).toArray := by
  rw [List.extract_toArray, List.extract_eq_take_drop, ← rows_drop Vc.len, List.drop_eq_getElem_cons hi, rows_cons, show i * 13 + 13 - i * 13 = 13 by omega, List.take_append_of_le_length (by rw [Vc.len]; omega), List.take_of_length_le (by rw [Vc.len]; omega)]
/-- Two arrays are compared whole. -/
theorem eq_arrays9 (w : World) (xs ys : List Int) (hx : xs.length = 13) (hy : ys.length = 13) : (Op.equalIn 9999 23 (V xs) (V ys)).run Try.prog w = .ok (xs == ys) w := by
  have hsz : ∀ w, (sizeOf 3).run Try.prog w = .ok 1 w := fun _ => by kernel_rfl
  rw [← all_range_ints xs ys (hx.trans hy.symm), hx, List.range_eq_range', Op.equalIn]
  simp only [Sem.run_bind, run_underlying Try.underlying23, Result.andThen_ok, hsz, Std.Legacy.Range.forIn_eq_forIn_range', Std.Legacy.Range.size, Nat.sub_zero, Nat.add_sub_cancel, Nat.div_one]
  have hl : ∀ i ∈ List.range' 0 13 1, i < 13 := fun i hi => by simpa using (List.mem_range'_1.1 hi).2
  generalize List.range' 0 13 1 = l at hl ⊢
  induction l with
  | nil => simp
  | cons i l ih =>
    have hi : i < 13 := hl i (by simp)
    have px : (part 3 (vals xs).toArray (i * 1)).run Try.prog w = .ok (.int .i64 (xs.getD i 0)) w := by
      simp [part, isAgg, run_underlying Try.underlying3, vals, List.getD, List.getElem?_eq_getElem (show i < xs.length by omega)]
    have py : (part 3 (vals ys).toArray (i * 1)).run Try.prog w = .ok (.int .i64 (ys.getD i 0)) w := by
      simp [part, isAgg, run_underlying Try.underlying3, vals, List.getD, List.getElem?_eq_getElem (show i < ys.length by omega)]
    have pe : (Op.equalIn 9998 3 (.int .i64 (xs.getD i 0)) (.int .i64 (ys.getD i 0))).run Try.prog w = .ok (xs.getD i 0 == ys.getD i 0) w :=
      run_equalIn_int w 9997 3 .i64 .i64 _ _ Try.underlying3
    simp only [List.forIn_cons, Sem.run_bind, px, py, pe, Result.andThen_ok, List.all_cons]
    cases hb : (xs.getD i 0 == ys.getD i 0)
    · simp
    · simp only [Bool.not_true, Bool.false_eq_true, if_false, Sem.run_pure, Result.andThen_ok, Bool.true_and]
      exact ih fun j hj => hl j (by simp [hj])

/-- All of them are compared. -/
def rqb (A B : List Vc) : Bool := (List.range 13).all fun i => (A.getD i z0).l == (B.getD i z0).l
theorem rqb_iff {A B : List Vc} (hA : A.length = 13) (hB : B.length = 13) : rqb A B = true ↔ A = B := by
  unfold rqb
  rw [List.all_eq_true]
  constructor
  · intro h
    refine List.ext_getElem (by omega) fun i h1 h2 => Vc.ext ?_
    have := h i (by simp; omega)
    simpa [List.getD_eq_getElem?_getD, List.getElem?_eq_getElem h1, List.getElem?_eq_getElem h2] using this
  · rintro rfl i _
    simp
theorem eq_rows (w : World) (A B : List Vc) (hA : A.length = 13) (hB : B.length = 13) : (Op.equalIn 10000 24 (RV A) (RV B)).run Try.prog w = .ok (rqb A B) w := by
  have hsz : ∀ w, (sizeOf 23).run Try.prog w = .ok 13 w := fun _ => by kernel_rfl
  unfold rqb
  rw [List.range_eq_range', Op.equalIn]
  simp only [Sem.run_bind, run_underlying Try.underlying24, Result.andThen_ok, hsz, Std.Legacy.Range.forIn_eq_forIn_range', Std.Legacy.Range.size, Nat.sub_zero, Nat.add_sub_cancel, Nat.div_one]
  have hl : ∀ i ∈ List.range' 0 13 1, i < 13 := fun i hi => by simpa using (List.mem_range'_1.1 hi).2
  generalize List.range' 0 13 1 = l at hl ⊢
  induction l with
  | nil => simp
  | cons i l ih =>
    have hi : i < 13 := hl i (by simp)
    have ha : (A.getD i z0) = A[i]'(by omega) := by simp [List.getD_eq_getElem?_getD, List.getElem?_eq_getElem (show i < A.length by omega)]
    have hb : (B.getD i z0) = B[i]'(by omega) := by simp [List.getD_eq_getElem?_getD, List.getElem?_eq_getElem (show i < B.length by omega)]
    have px : (part 23 (rows Vc.cells A).toArray (i * 13)).run Try.prog w = .ok (V (A.getD i z0).l) w := by
      rw [ha]
      simp only [part, isAgg, Sem.run_bind, run_underlying Try.underlying23, Result.andThen_ok, Sem.run_pure, hsz, if_true, rows_cut i (show i < A.length by omega)]
    have py : (part 23 (rows Vc.cells B).toArray (i * 13)).run Try.prog w = .ok (V (B.getD i z0).l) w := by
      rw [hb]
      simp only [part, isAgg, Sem.run_bind, run_underlying Try.underlying23, Result.andThen_ok, Sem.run_pure, hsz, if_true, rows_cut i (show i < B.length by omega)]
    have pe : (Op.equalIn 9999 23 (V (A.getD i z0).l) (V (B.getD i z0).l)).run Try.prog w = .ok ((A.getD i z0).l == (B.getD i z0).l) w := eq_arrays9 w _ _ (A.getD i z0).h (B.getD i z0).h
    simp only [List.forIn_cons, Sem.run_bind, px, py, pe, Result.andThen_ok, List.all_cons]
    cases hb : ((A.getD i z0).l == (B.getD i z0).l)
    · simp
    · simp only [Bool.not_true, Bool.false_eq_true, if_false, Sem.run_pure, Result.andThen_ok, Bool.true_and]
      exact ih fun j hj => hl j (by simp [hj])
end Go.Proofs.Ytcebchjokmampaa
/- Lists of numbers; Check of the document's roster. -/
namespace Go.Proofs.Ytcebchjokmampaa
open Go.RowKit

/-- A slice of these numbers. -/
abbrev IHas (w : World) (v : Value) (l : List Int) : Prop := SHas 1 w v l.length (vals l)
theorem IHas.at {w : World} {p : Option Addr} {c : Nat} {l : List Int} (h : IHas w (.slice p l.length c) l) (k : Nat) (hk : k < l.length) : ∃ g o, p = some ⟨g, o, none⟩ ∧ ∀ i (hi : i < l.length), w.cell? ⟨g, o + i, none⟩ = some (.int .i64 l[i]) := by
  obtain ⟨g, o, rfl, hd⟩ := SHas.at h (by omega)
  exact ⟨g, o, rfl, fun i hi => hd i _ (by simp [vals, List.getElem?_eq_getElem hi])⟩
/-- They rise, each one of a peer. -/
def ckI : List Int → Bool
  | [] => true
  | [x] => wi x 1 12
  | x :: y :: l => (wi x 1 12 && decide (x < y)) && ckI (y :: l)
theorem ckI_iff : ∀ l : List Int, ckI l = true ↔ (∀ i (h : i < l.length), wi l[i] 1 12 = true) ∧ ∀ i (h : i + 1 < l.length), l[i]'(by omega) < l[i + 1]
  | [] => by simp [ckI]
  | [x] => by simp [ckI]
  | x :: y :: l => by
    rw [ckI, Bool.and_eq_true, ckI_iff (y :: l), Bool.and_eq_true, decide_eq_true_eq]
    constructor
    · rintro ⟨⟨h1, h2⟩, h3, h4⟩
      refine ⟨fun i h => ?_, fun i h => ?_⟩
      · cases i with
        | zero => exact h1
        | succ i => exact h3 i (by simpa using h)
      · cases i with
        | zero => exact h2
        | succ i => exact h4 i (by simpa using h)
    · rintro ⟨h1, h2⟩
      exact ⟨⟨h1 0 (by simp), h2 0 (by simp)⟩, fun i h => h1 (i + 1) (by simpa using h), fun i h => h2 (i + 1) (by simpa using h)⟩
theorem wi_iff {n lo hi : Int} : wi n lo hi = true ↔ lo ≤ n ∧ n ≤ hi := by simp [wi]
set_option maxHeartbeats 4000000 in
set_option maxRecDepth 100000 in
theorem refRoster_any (l : List Int) (sv : Value) (w : World) (h : IHas w sv l) : Calls Try.prog 25 #[sv] w (Tells (.bool (ckI l)) w) := by
  obtain ⟨q, c, rfl⟩ := SHas.slice h
  have hml := maxLen_lt h.1
  obtain ⟨z, HZ⟩ := hid_ex (ckI l)
  rw [HZ.out]
  have H : Hid (IHas w (.slice q l.length c) l) := h
  clear h
  go_enter Try.func25, Try.ntmps25
  go_wp2
  go_loopw [3] (fun vi wr => ∃ k : Nat, vi = .int .i64 k ∧ k ≤ l.length ∧ Hid ((∀ i (h : i < l.length), i < k → wi l[i] 1 12 = true) ∧ ∀ i (h : i + 1 < l.length), i + 1 < k → l[i]'(by omega) < l[i + 1]) ∧ Below w.heap.size w wr) (fun vi _ => l.length - (intOf vi).toNat)
  case atStart => exact ⟨0, rfl, by omega, (show _ ∧ _ from ⟨fun i _ h => by omega, fun i _ h => by omega⟩), Below.refl _ _⟩
  case round =>
    obtain ⟨k, rfl, hk, HV, hbel⟩ := hrel
    by_cases hlt : k < l.length
    · have hlt' : (k : Int) < (l.length : Int) := by omega
      obtain ⟨g, o, rfl, hd0⟩ := H.out.at k hlt
      have hd : ∀ i (hi : i < l.length), wr.cell? ⟨g, o + i, none⟩ = some (.int .i64 l[i]) := fun i hi => cell_later hbel (hd0 i hi)
      clear hd0
      have c1 := hd k hlt
      obtain ⟨x, HX⟩ := hid_ex l[k]
      rw [HX.out] at c1
      obtain ⟨r, HR⟩ := hid_ex (wi x 1 12)
      have C := fun w' => peer_any x w'
      rw [HR.out] at C
      by_cases hk0 : k = 0
      · subst hk0
        rw [Nat.add_zero] at c1
        have ST : Calm.Stays (fun w' : World => w'.cell? ⟨g, o, none⟩ = some (.int .i64 x) ∧ Below wr.heap.size wr w') := fun a b h hb => ⟨cell_later hb h.1, below_on h.2 hb⟩
        cases r
        · obtain rfl : false = z := by
            rw [← HZ.out]
            cases e : ckI l with
            | false => rfl
            | true =>
              have := ((ckI_iff l).1 e).1 0 hlt
              rw [HX.out, HR.out] at this
              cases this
          go_wp2_with fail
          refine Calm.region (by kernel_rfl) (by kernel_rfl) (fun w' : World => w'.cell? ⟨g, o, none⟩ = some (.int .i64 x) ∧ Below wr.heap.size wr w') ⟨c1, (Below.refl _ _).drew⟩ ?_
          iterate 3 (refine Calm.pu ?_)
          refine Calm.ce (fun _ h => h.1) ?_
          refine Calm.k1 ST (fun w' _ => C w') ?_
          iterate 2 (refine Calm.pu ?_)
          iterate 14 (refine Calm.sk ?_)
          refine Calm.pu ?_
          intro w6 hS6
          go_wp2_with fail
          go_ret
          exact ⟨rfl, below_on hbel hS6.2⟩
        · go_wp2_with fail
          refine Calm.region (by kernel_rfl) (by kernel_rfl) (fun w' : World => w'.cell? ⟨g, o, none⟩ = some (.int .i64 x) ∧ Below wr.heap.size wr w') ⟨c1, (Below.refl _ _).drew⟩ ?_
          iterate 3 (refine Calm.pu ?_)
          refine Calm.ce (fun _ h => h.1) ?_
          refine Calm.k1 ST (fun w' _ => C w') ?_
          iterate 5 (refine Calm.pu ?_)
          iterate 10 (refine Calm.sk ?_)
          iterate 2 (refine Calm.pu ?_)
          intro w6 hS6
          have HV2 : Hid ((∀ i (h : i < l.length), i < 0 + 1 → wi l[i] 1 12 = true) ∧ ∀ i (h : i + 1 < l.length), i + 1 < 0 + 1 → l[i]'(by omega) < l[i + 1]) := show _ ∧ _ from ⟨fun i h hi => by
              obtain rfl : i = 0 := by omega
              rw [HX.out]
              exact HR.out, fun i h hi => by omega⟩
          go_wp2_with fail
          go_roundw
          case rel => exact ⟨0 + 1, by simp, by omega, HV2, below_on hbel hS6.2⟩
          case measure => simp [intOf]; omega
      · obtain ⟨j, rfl⟩ : ∃ j, k = j + 1 := ⟨k - 1, by omega⟩
        have c2 := hd j (by omega)
        obtain ⟨y, HY⟩ := hid_ex (l[j]'(by omega))
        rw [HY.out] at c2
        have hk0' : (0 : Int) < (j : Int) + 1 := by omega
        have e1 : IntKind.i64.wrap (j : Int) = (j : Int) := by rw [IntKind.wrap_i64]; omega
        have hj0 : (0 : Int) ≤ (j : Int) + 1 := by omega
        have hj1 : (j : Int) + 1 < (l.length : Int) := by omega
        have hj2 : (j : Int) < (l.length : Int) := by omega
        have ST : Calm.Stays (fun w' : World => w'.cell? ⟨g, o + (j + 1), none⟩ = some (.int .i64 x) ∧ w'.cell? ⟨g, o + j, none⟩ = some (.int .i64 y) ∧ Below wr.heap.size wr w') := fun a b h hb => ⟨cell_later hb h.1, cell_later hb h.2.1, below_on h.2.2 hb⟩
        cases r
        · obtain rfl : false = z := by
            rw [← HZ.out]
            cases e : ckI l with
            | false => rfl
            | true =>
              have := ((ckI_iff l).1 e).1 (j + 1) hlt
              rw [HX.out, HR.out] at this
              cases this
          go_wp2_with fail
          refine Calm.region (by kernel_rfl) (by kernel_rfl) (fun w' : World => w'.cell? ⟨g, o + (j + 1), none⟩ = some (.int .i64 x) ∧ w'.cell? ⟨g, o + j, none⟩ = some (.int .i64 y) ∧ Below wr.heap.size wr w') ⟨c1, c2, (Below.refl _ _).drew⟩ ?_
          iterate 3 (refine Calm.pu ?_)
          refine Calm.ce (fun _ h => h.1) ?_
          refine Calm.k1 ST (fun w' _ => C w') ?_
          iterate 2 (refine Calm.pu ?_)
          iterate 14 (refine Calm.sk ?_)
          refine Calm.pu ?_
          intro w6 hS6
          go_wp2_with fail
          go_ret
          exact ⟨rfl, below_on hbel hS6.2.2⟩
        · by_cases hxy : x ≤ y
          · obtain rfl : false = z := by
              rw [← HZ.out]
              cases e : ckI l with
              | false => rfl
              | true =>
                have := ((ckI_iff l).1 e).2 j hlt
                rw [HX.out, HY.out] at this
                omega
            go_wp2_with fail
            refine Calm.region (by kernel_rfl) (by kernel_rfl) (fun w' : World => w'.cell? ⟨g, o + (j + 1), none⟩ = some (.int .i64 x) ∧ w'.cell? ⟨g, o + j, none⟩ = some (.int .i64 y) ∧ Below wr.heap.size wr w') ⟨c1, c2, (Below.refl _ _).drew⟩ ?_
            iterate 3 (refine Calm.pu ?_)
            refine Calm.ce (fun _ h => h.1) ?_
            refine Calm.k1 ST (fun w' _ => C w') ?_
            iterate 8 (refine Calm.pu ?_)
            refine Calm.ce (fun _ h => h.1) ?_
            iterate 4 (refine Calm.pu ?_)
            refine Calm.ce (fun _ h => h.2.1) ?_
            iterate 3 (refine Calm.pu ?_)
            intro w6 hS6
            go_wp2_with fail
            go_ret
            exact ⟨rfl, below_on hbel hS6.2.2⟩
          · have HV2 : Hid ((∀ i (h : i < l.length), i < j + 1 + 1 → wi l[i] 1 12 = true) ∧ ∀ i (h : i + 1 < l.length), i + 1 < j + 1 + 1 → l[i]'(by omega) < l[i + 1]) := show _ ∧ _ from ⟨fun i h hi => by
                rcases Nat.lt_or_ge i (j + 1) with h3 | h3
                · exact HV.out.1 i h h3
                · obtain rfl : i = j + 1 := by omega
                  rw [HX.out]
                  exact HR.out, fun i h hi => by
                rcases Nat.lt_or_ge (i + 1) (j + 1) with h3 | h3
                · exact HV.out.2 i h h3
                · obtain rfl : i = j := by omega
                  rw [HX.out, HY.out]
                  omega⟩
            go_wp2_with fail
            refine Calm.region (by kernel_rfl) (by kernel_rfl) (fun w' : World => w'.cell? ⟨g, o + (j + 1), none⟩ = some (.int .i64 x) ∧ w'.cell? ⟨g, o + j, none⟩ = some (.int .i64 y) ∧ Below wr.heap.size wr w') ⟨c1, c2, (Below.refl _ _).drew⟩ ?_
            iterate 3 (refine Calm.pu ?_)
            refine Calm.ce (fun _ h => h.1) ?_
            refine Calm.k1 ST (fun w' _ => C w') ?_
            iterate 8 (refine Calm.pu ?_)
            refine Calm.ce (fun _ h => h.1) ?_
            iterate 4 (refine Calm.pu ?_)
            refine Calm.ce (fun _ h => h.2.1) ?_
            iterate 3 (refine Calm.pu ?_)
            intro w6 hS6
            go_wp2_with fail
            go_roundw
            case rel => exact ⟨j + 1 + 1, by simp, by omega, HV2, below_on hbel hS6.2.2⟩
            case measure => simp [intOf]; omega
    · have hlt' : ¬ (k : Int) < (l.length : Int) := by omega
      obtain rfl : true = z := by
        rw [← HZ.out]
        exact ((ckI_iff l).2 ⟨fun i h => HV.out.1 i h (by omega), fun i h => HV.out.2 i h (by omega)⟩).symm
      clear H
      go_wp2_with fail
      go_ret
      exact ⟨rfl, hbel⟩
end Go.Proofs.Ytcebchjokmampaa
/- Accept of the document's answer: a row is taken in. -/
namespace Go.Proofs.Ytcebchjokmampaa
open Go.RowKit

def acb (M : List Vc) (p : Int) (r v : Vc) : Bool := wi p 1 12 && (chk r.l && (lq r.l v.l && lq (M.getD p.toNat z0).l r.l))
def acM (M : List Vc) (p : Int) (r v : Vc) : List Vc := if acb M p r v = true then M.set p.toNat r else M
theorem four_rows (w : World) (c1 : Array Value) (t1 : TypeId) (c2 : Array Value) (t2 : TypeId) (c3 : Array Value) (t3 : TypeId) (c4 : Array Value) (t4 : TypeId) :
    Rw ((((w.alloc (.cells c1 t1)).alloc (.cells c2 t2)).alloc (.cells c3 t3)).alloc (.cells c4 t4)) w.heap.size t1 c1 ∧ Rw ((((w.alloc (.cells c1 t1)).alloc (.cells c2 t2)).alloc (.cells c3 t3)).alloc (.cells c4 t4)) (w.heap.size + 1) t2 c2 ∧
    Rw ((((w.alloc (.cells c1 t1)).alloc (.cells c2 t2)).alloc (.cells c3 t3)).alloc (.cells c4 t4)) (w.heap.size + 1 + 1) t3 c3 ∧ Rw ((((w.alloc (.cells c1 t1)).alloc (.cells c2 t2)).alloc (.cells c3 t3)).alloc (.cells c4 t4)) (w.heap.size + 1 + 1 + 1) t4 c4 ∧
    Below w.heap.size w ((((w.alloc (.cells c1 t1)).alloc (.cells c2 t2)).alloc (.cells c3 t3)).alloc (.cells c4 t4)) :=
  ⟨(((rw_new w t1 c1).alloc _).alloc _).alloc _, ((rw_next (w.alloc _) (by simp) t2 c2).alloc _).alloc _, (rw_next ((w.alloc _).alloc _) (by simp) t3 c3).alloc _, rw_next (((w.alloc _).alloc _).alloc _) (by simp) t4 c4, bel_alloc (bel_alloc (bel_alloc (bel_alloc (Below.refl _ _) _) _) _) _⟩
/-- A zero array of 13 vectors. -/
def zc24 : Array Value := (rows Vc.cells (List.replicate 13 z0)).toArray
theorem zero_rows : zc24 = (rows Vc.cells (List.replicate 13 z0)).toArray := rfl
set_option maxRecDepth 100000 in
theorem zv24 : ∀ w : World, (zeroValue 24).run Try.prog w = .ok (.agg zc24) w := fun w => by
  kernel_rfl
theorem zc24_size : zc24.size = 169 := by kernel_rfl
theorem zc24_ne : zc24 ≠ #[] := fun e => by
  have := congrArg Array.size e
  rw [zc24_size] at this
  cases this
theorem range_of {w : World} {b : Nat} {t : TypeId} {l : List Int} (h : Rw w b t (vals l).toArray) : w.rangeAt b 0 (vals l) := h.range 0 _ fun j u hu => by simpa using hu
set_option maxHeartbeats 8000000 in
set_option maxRecDepth 100000 in
theorem refAccept_any (M : List Vc) (hM : M.length = 13) (p : Int) (r v : Vc) (w : World) : Calls Try.prog 11 #[RV M, .int .i64 p, V r.l, V v.l] w (Tells (.tuple #[RV (acM M p r v), .bool (acb M p r v)]) w) := by
  obtain ⟨R1, R2, R3, R4, hbel⟩ := four_rows w (rows Vc.cells M).toArray 24 (vals r.l).toArray 23 (vals v.l).toArray 23 zc24 24
  generalize hW : (((w.alloc (.cells (rows Vc.cells M).toArray 24)).alloc (.cells (vals r.l).toArray 23)).alloc (.cells (vals v.l).toArray 23)).alloc (.cells zc24 24) = w0 at R1 R2 R3 R4 hbel
  rw [zero_rows] at R4
  obtain ⟨z, HZ⟩ := hid_ex (acb M p r v)
  obtain ⟨M', HM'⟩ := hid_ex (acM M p r v)
  rw [HZ.out, HM'.out]
  have ZV := zv24
  have ZN := zc24_ne
  go_enter Try.func11, Try.ntmps11
  go_upto_region 1 with (rw [hW])
  clear hW
  obtain ⟨r1, H1⟩ := hid_ex (wi p 1 12)
  obtain ⟨r2, H2⟩ := hid_ex (chk r.l)
  obtain ⟨r3, H3⟩ := hid_ex (lq r.l v.l)
  obtain ⟨r4, H4⟩ := hid_ex (lq (M.getD p.toNat z0).l r.l)
  have HB : Hid ((r1 && (r2 && (r3 && r4))) = z) := by
    have := HZ.out
    unfold acb at this
    rw [H1.out, H2.out, H3.out, H4.out] at this
    exact this
  have d2 := range_of R2
  have d3 := range_of R3
  have z2 := info_vals r.h
  have z3 := info_vals v.h
  have C1 := fun w' => peer_any p w'
  have C2 := fun w' => refCheck_any r.l w' r.h
  have C3 := fun w' => refLeq_any r.l v.l w' r.h v.h
  rw [H1.out] at C1
  rw [H2.out] at C2
  rw [H3.out] at C3
  have hzr := size_r hM
  go_cut [31] from 10 to 31 (fun vb wx => vb = .bool (!z) ∧ Below w0.heap.size w0 wx)
  case first =>
    cases hr1 : r1
    · subst hr1
      obtain rfl : false = z := HB.out
      have ST : Calm.Stays (fun w' : World => Below w0.heap.size w0 w') := fun a b h hb => below_on h hb
      refine Calm.region (by kernel_rfl) (by kernel_rfl) (fun w' : World => Below w0.heap.size w0 w') (Below.refl _ _).drew ?_
      refine Calm.pu ?_
      refine Calm.k1 ST (fun w' _ => C1 w') ?_
      iterate 20 (first | refine Calm.sk ?_ | refine Calm.pu ?_)
      intro w1 hS1
      go_wp2_with fail
      go_meet
      case rel => exact ⟨rfl, hS1⟩
    · subst hr1
      obtain ⟨hp1, hp2⟩ := wi_iff.1 (show wi p 1 12 = true from H1.out)
      obtain ⟨n, rfl⟩ : ∃ n : Nat, p = (n : Int) := ⟨p.toNat, by omega⟩
      have hn : n < M.length := by omega
      have hn' : (n : Int) < 13 := by omega
      have dn := row_at R1 n hn
      have eg : M.getD (n : Int).toNat z0 = M[n] := by simp [List.getD_eq_getElem?_getD, List.getElem?_eq_getElem hn]
      have z4 := info_vals M[n].h
      have C4 := fun w' => refLeq_any M[n].l r.l w' M[n].h r.h
      rw [eg] at H4
      rw [H4.out] at C4
      have ST : Calm.Stays (fun w' : World => w'.rangeAt (w.heap.size + 1) 0 (vals r.l) ∧ w'.rangeAt (w.heap.size + 1 + 1) 0 (vals v.l) ∧ w'.rangeAt w.heap.size (n * 13) (vals M[n].l) ∧ Below w0.heap.size w0 w') := fun a b h hb => ⟨range_later h.1 hb, range_later h.2.1 hb, range_later h.2.2.1 hb, below_on h.2.2.2 hb⟩
      rcases (show r2 = false ∨ (r2 = true ∧ r3 = false) ∨ (r2 = true ∧ r3 = true) by cases r2 <;> cases r3 <;> simp) with rfl | ⟨rfl, rfl⟩ | ⟨rfl, rfl⟩
      all_goals
        refine Calm.region (by kernel_rfl) (by kernel_rfl) (fun w' : World => w'.rangeAt (w.heap.size + 1) 0 (vals r.l) ∧ w'.rangeAt (w.heap.size + 1 + 1) 0 (vals v.l) ∧ w'.rangeAt w.heap.size (n * 13) (vals M[n].l) ∧ Below w0.heap.size w0 w') ⟨d2, d3, dn, (Below.refl _ _).drew⟩ ?_
        refine Calm.pu ?_
        refine Calm.k1 ST (fun w' _ => C1 w') ?_
        iterate 2 (refine Calm.pu ?_)
        refine Calm.lm z2 (fun _ h => h.1) Try.underlying23 ?_
        refine Calm.k1 ST (fun w' _ => C2 w') ?_
        iterate 3 (refine Calm.pu ?_)
        first | refine Calm.sk ?_ | refine Calm.lm z2 (fun _ h => h.1) Try.underlying23 ?_
        first | refine Calm.sk ?_ | refine Calm.lm z3 (fun _ h => h.2.1) Try.underlying23 ?_
        first | refine Calm.sk ?_ | refine Calm.k2 ST (fun w' _ => C3 w') ?_
        iterate 5 (first | refine Calm.sk ?_ | refine Calm.pu ?_)
        first | refine Calm.sk ?_ | refine Calm.lm z4 (fun _ h => h.2.2.1) Try.underlying23 ?_
        first | refine Calm.sk ?_ | refine Calm.lm z2 (fun _ h => h.1) Try.underlying23 ?_
        first | refine Calm.sk ?_ | refine Calm.k2 ST (fun w' _ => C4 w') ?_
        iterate 2 (first | refine Calm.sk ?_ | refine Calm.pu ?_)
        intro w1 hS1
        go_wp2_with fail
        go_meet
        case rel => exact ⟨by rw [← HB.out]; simp, hS1.2.2.2⟩
  case rest =>
    obtain ⟨rfl, hb1⟩ := hcut
    clear C1 C2 C3 d2 d3 z3
    replace R1 := R1.later hb1
    replace R2 := R2.later hb1
    replace R4 := R4.later hb1
    replace hbel := below_on hbel hb1
    have zr := size_v r.h
    cases z
    · have hMM : M' = M := by rw [← HM'.out, acM, if_neg (by rw [HZ.out]; simp)]
      subst hMM
      have hbel2 := below_setRow hbel (g := w.heap.size + 1 + 1 + 1) (by omega) (rows Vc.cells M').toArray
      have R5 := R4.row (rows Vc.cells M').toArray
      have hsz : (rows Vc.cells (List.replicate 13 z0)).toArray.size = (rows Vc.cells M').toArray.size := by rw [List.size_toArray, List.size_toArray, rows_size hM, rows_size (by simp)]
      have ho := rows_one13 M'
      go_wp2_with (first | refine load_r 24 _ rfl rfl _ rfl R1 Try.underlying24 rfl hzr ?_ | refine store_r rfl 24 _ _ rfl (w.heap.size + 1 + 1 + 1) _ rfl rfl R4 hzr hsz ho ?_)
      exact bodyPost_ret (results_rt rfl rfl R5 rfl Try.underlying24 hzr) rfl ⟨rfl, hbel2⟩
    · have hr1 : r1 = true := by
        have := HB.out
        cases r1
        · simp at this
        · rfl
      obtain ⟨hp1, hp2⟩ := wi_iff.1 (show wi p 1 12 = true by rw [H1.out, hr1])
      obtain ⟨n, rfl⟩ : ∃ n : Nat, p = (n : Int) := ⟨p.toNat, by omega⟩
      have hn : n < M.length := by omega
      have hn' : (n : Int) < 13 := by omega
      have hMM : M' = M.set n r := by
        rw [← HM'.out, acM, if_pos HZ.out]
        simp
      have hM' : M'.length = 13 := by rw [hMM, List.length_set, hM]
      clear H1 H2 H3 H4 HB HZ HM'
      have ht := there_row R1 n hn
      have ho1 := vals_one r.l
      have hvs : (vals r.l).toArray.size = 13 := by rw [vals_size, r.h]
      have P1 := put_row R1 n hn r
      have P4 := rw_setCells (g := w.heap.size) R4 (by omega) (vals r.l) (n * 13)
      have hbel1 := bel_setCells hbel (Nat.le_refl _) (vals r.l) (n * 13)
      rw [← hMM] at P1
      clear hMM
      generalize hW5 : wc.setCells w.heap.size (n * 13) (vals r.l) = w5 at P1 P4 hbel1
      have hzr' := size_r hM'
      have hbel2 := below_setRow hbel1 (g := w.heap.size + 1 + 1 + 1) (by omega) (rows Vc.cells M').toArray
      have R5 := P4.row (rows Vc.cells M').toArray
      have hsz : (rows Vc.cells (List.replicate 13 z0)).toArray.size = (rows Vc.cells M').toArray.size := by rw [List.size_toArray, List.size_toArray, rows_size hM', rows_size (by simp)]
      have ho := rows_one13 M'
      go_wp2_with (first | refine load_r 23 _ rfl rfl _ rfl R2 Try.underlying23 rfl zr ?_ | (refine Go.wpList_store_mid rfl 23 _ _ rfl w.heap.size (n * 13) (vals r.l).toArray rfl rfl (by rw [hvs]; exact ht) zr ho1 ?_; rw [List.toList_toArray, hW5]) | refine load_r 24 _ rfl rfl _ rfl P1 Try.underlying24 rfl hzr' ?_ | refine store_r rfl 24 _ _ rfl (w.heap.size + 1 + 1 + 1) _ rfl rfl P4 hzr' hsz ho ?_)
      exact bodyPost_ret (results_rt rfl rfl R5 rfl Try.underlying24 hzr') rfl ⟨rfl, hbel2⟩
end Go.Proofs.Ytcebchjokmampaa
/- A region that draws its order, walked in an order of one's own: each operation by its number. Nothing of one program. -/
namespace Go.Proofs.Ytcebchjokmampaa.HeldI

section
variable {P : Program} {ops : Array Oper} {Q : Exit → Act → World → Prop} {S : World → Prop} {fuel : Nat} {listed : Array Bool} {a a' : Act} {w : World} {o : Oper}
theorem pu (i : Nat) {v : Value} (hS : S w) (h : wpAnyH P .any ops Q S fuel (listed.setIfInBounds i true) a' w) (hi : ops[i]? = some o := by (simp only [List.getElem?_toArray, List.getElem?_cons_succ, List.getElem?_cons_zero]; rfl)) (hs : Region.noSelect ops = true := by kernel_rfl) (hf : Region.free .any ops listed i = true := by kernel_rfl) (hr : (Region.ready .any ops listed).contains i = true := by kernel_rfl) (hw : Region.wanted o (yielded ops a.tmps) = true := by rfl) (hv : ∀ w, S w → (execOp a.eval o).run P w = .ok (.value v) w := by (intro w hSw; go_simp <;> rfl)) (hQ : ∀ c a w, Q (.panic c) (a.put o.dst v) w → Q (.panic c) a w := by exact fun _ _ _ h => h)
    (hp : a.put o.dst v = a' := by (simp only [Act.put, List.setIfInBounds_toArray, List.set_cons_zero, List.set_cons_succ]; rfl)) : wpAnyH P .any ops Q S (fuel + 1) listed a w :=
  wpAnyH_take hi hs hf hr hQ (.inl ⟨hw, hv⟩) hS (hp ▸ h)
theorem ce (i : Nat) {v : Value} {ad : Addr} (g : ∀ w, S w → w.cell? ad = some v) (hS : S w) (h : wpAnyH P .any ops Q S fuel (listed.setIfInBounds i true) a' w) (hi : ops[i]? = some o := by (simp only [List.getElem?_toArray, List.getElem?_cons_succ, List.getElem?_cons_zero]; rfl)) (hs : Region.noSelect ops = true := by kernel_rfl) (hf : Region.free .any ops listed i = true := by kernel_rfl) (hr : (Region.ready .any ops listed).contains i = true := by kernel_rfl) (hw : Region.wanted o (yielded ops a.tmps) = true := by rfl) (hv : ∀ w, S w → w.cell? ad = some v → (execOp a.eval o).run P w = .ok (.value v) w := by (intro w hSw g1; go_simp)) (hQ : ∀ c a w, Q (.panic c) (a.put o.dst v) w → Q (.panic c) a w := by exact fun _ _ _ h => h)
    (hp : a.put o.dst v = a' := by (simp only [Act.put, List.setIfInBounds_toArray, List.set_cons_zero, List.set_cons_succ]; rfl)) : wpAnyH P .any ops Q S (fuel + 1) listed a w :=
  wpAnyH_take hi hs hf hr hQ (.inl ⟨hw, fun w h => hv w h (g w h)⟩) hS (hp ▸ h)
theorem lm (i : Nat) {b f : Nat} {cs : List Value} {t : TypeId} {d : TypeDesc} {x : Operand} (hz : (P.info? t).map (·.size) = some cs.length) (g : ∀ w, S w → w.rangeAt b f cs) (hu : P.underlying t = some d) (hS : S w) (h : wpAnyH P .any ops Q S fuel (listed.setIfInBounds i true) a' w) (hi : ops[i]? = some o := by (simp only [List.getElem?_toArray, List.getElem?_cons_succ, List.getElem?_cons_zero]; rfl)) (hs : Region.noSelect ops = true := by kernel_rfl) (hf : Region.free .any ops listed i = true := by kernel_rfl) (hr : (Region.ready .any ops listed).contains i = true := by kernel_rfl) (hw : Region.wanted o (yielded ops a.tmps) = true := by rfl) (ho : o.op = .load t x := by rfl) (hx : a.eval x = .pointer (some ⟨b, f, none⟩) := by rfl) (hd : d.isRow = true := by rfl)
    (hQ : ∀ c a w, Q (.panic c) (a.put o.dst (.agg cs.toArray)) w → Q (.panic c) a w := by exact fun _ _ _ h => h) (hp : a.put o.dst (.agg cs.toArray) = a' := by (simp only [Act.put, List.setIfInBounds_toArray, List.set_cons_zero, List.set_cons_succ]; rfl)) : wpAnyH P .any ops Q S (fuel + 1) listed a w :=
  wpAnyH_take hi hs hf hr hQ (.inl ⟨hw, fun w hw' => by
    have h2 := run_loadVar_mid (P := P) w b f t cs d (g w hw') hu hd hz
    unfold execOp
    simp only [ho, hx, Instr.loadAt, Instr.sureAddr, Sem.run_bind, Sem.run_pure, h2, Result.andThen_ok]⟩) hS (hp ▸ h)
theorem al (i : Nat) (h : o.wp P a w (fun a' w' => S w' ∧ wpAnyH P .any ops Q S fuel (listed.setIfInBounds i true) a' w') Q) (hi : ops[i]? = some o) (hr : Region.ready .any ops listed = [i]) (hw : Region.wanted o (yielded ops a.tmps) = true) : wpAnyH P .any ops Q S (fuel + 1) listed a w :=
  wpAnyH_all hr (by simp) fun j hj => by
    obtain rfl : j = i := by simpa using hj
    unfold wpOp
    simp only [hi, hw, if_true]
    exact .inl h
/-- A load of a struct, alone in its turn. -/
theorem la (i : Nat) {b f : Nat} {cs : List Value} {t : TypeId} {d : TypeDesc} {x : Operand} (hz : (P.info? t).map (·.size) = some cs.length) (g : w.rangeAt b f cs) (hu : P.underlying t = some d) (hS : S w) (h : wpAnyH P .any ops Q S fuel (listed.setIfInBounds i true) a' w) (hi : ops[i]? = some o := by (simp only [List.getElem?_toArray, List.getElem?_cons_succ, List.getElem?_cons_zero]; rfl)) (hr : Region.ready .any ops listed = [i] := by kernel_rfl) (hw : Region.wanted o (yielded ops a.tmps) = true := by rfl) (ho : o.op = .load t x := by rfl) (hx : a.eval x = .pointer (some ⟨b, f, none⟩) := by rfl) (hd : d.isRow = true := by rfl)
    (hp : a.put o.dst (.agg cs.toArray) = a' := by (simp only [Act.put, List.setIfInBounds_toArray, List.set_cons_zero, List.set_cons_succ]; rfl)) : wpAnyH P .any ops Q S (fuel + 1) listed a w :=
  al i (by
    have h2 := run_loadVar_mid (P := P) w b f t cs d g hu hd hz
    unfold Oper.wp execOp
    simp only [ho, hx, Instr.loadAt, Instr.sureAddr, Sem.run_bind, Sem.run_pure, h2, Result.andThen_ok]
    exact ⟨hS, hp ▸ h⟩) hi hr hw
theorem kn (i : Nat) {f : FuncId} {us : Array Operand} {ts : Array TypeId} {args : List Value} {φ : Ending → World → Prop} {au : Value → Act} (hc : Calls P f args.toArray w φ) (h : ∀ e w', φ e w' → ∃ u, e = .returned u ∧ S w' ∧ wpAnyH P .any ops Q S fuel (listed.setIfInBounds i true) (au u) w')
    (hi : ops[i]? = some o := by (simp only [List.getElem?_toArray, List.getElem?_cons_succ, List.getElem?_cons_zero]; rfl)) (hr : Region.ready .any ops listed = [i] := by kernel_rfl) (hw : Region.wanted o (yielded ops a.tmps) = true := by rfl) (hf : Calm.enters P f = true := by kernel_rfl)
    (ho : o.op = .call { callee := .value (.func f), args := us, argTypes := ts } := by rfl) (ha : us.toList.map a.eval = args := by rfl) (hp : ∀ u, a.put o.dst u = au u := by (intro u; simp only [Act.put, List.setIfInBounds_toArray, List.set_cons_zero, List.set_cons_succ]; rfl)) : wpAnyH P .any ops Q S (fuel + 1) listed a w :=
  al i (by
    have e : ∀ args, (callFunc f args).run P w = .ok (.enter f args) w := fun args => Calm.enters_run hf args w
    have hr' : (execOp a.eval o).run P w = .ok (.enter f args.toArray) w := by
      have ha' : us.map a.eval = args.toArray := by
        rw [← ha, ← Array.toList_map, Array.toArray_toList]
      unfold execOp
      rw [ho]
      simp [go_sem, Act.eval, e, ← ha']
    unfold Oper.wp
    rw [hr']
    refine hc.mono fun e w' he => ?_
    obtain ⟨u, rfl, h1, h2⟩ := h e w' he
    exact ⟨h1, hp u ▸ h2⟩) hi hr hw
theorem st (i : Nat) {w1 : World} (hv : (execOp a.eval o).run P w = .ok .skip w1) (hS : S w1) (h : wpAnyH P .any ops Q S fuel (listed.setIfInBounds i true) a' w1) (hi : ops[i]? = some o := by (simp only [List.getElem?_toArray, List.getElem?_cons_succ, List.getElem?_cons_zero]; rfl)) (hr : Region.ready .any ops listed = [i] := by kernel_rfl) (hw : Region.wanted o (yielded ops a.tmps) = true := by rfl) (hp : a.put o.dst undef = a' := by (simp only [Act.put, List.setIfInBounds_toArray, List.set_cons_zero, List.set_cons_succ]; rfl)) : wpAnyH P .any ops Q S (fuel + 1) listed a w :=
  al i (by
    unfold Oper.wp
    rw [hv]
    exact ⟨hS, hp ▸ h⟩) hi hr hw
/-- A store of a struct, or of what a cell holds. -/
theorem ss (i : Nat) {w1 : World} {t : TypeId} {x y : Operand} {pv vv : Value} (hv : (Instr.storeAt t pv vv).run P w = .ok () w1) (hS : S w1) (h : wpAnyH P .any ops Q S fuel (listed.setIfInBounds i true) a' w1) (hi : ops[i]? = some o := by (simp only [List.getElem?_toArray, List.getElem?_cons_succ, List.getElem?_cons_zero]; rfl)) (hr : Region.ready .any ops listed = [i] := by kernel_rfl) (hw : Region.wanted o (yielded ops a.tmps) = true := by rfl) (ho : o.op = .store t x y := by rfl) (hx : a.eval x = pv := by rfl) (hy : a.eval y = vv := by rfl) (hp : a.put o.dst undef = a' := by (simp only [Act.put, List.setIfInBounds_toArray, List.set_cons_zero, List.set_cons_succ]; rfl)) : wpAnyH P .any ops Q S (fuel + 1) listed a w :=
  al i (by
    unfold Oper.wp execOp
    simp only [ho, hx, hy, Sem.run_bind, hv, Result.andThen_ok, Sem.run_pure]
    exact ⟨hS, hp ▸ h⟩) hi hr hw
theorem dn (h : Q .normal a w) (hr : Region.ready .any ops listed = [] := by kernel_rfl) : wpAnyH P .any ops Q S fuel listed a w := wpAnyH_done hr h _
theorem region {id : Nat} (S : World → Prop) (hm : P.follows .mixedOrders = true) {l : List Oper} (h : wpAnyH P .any l.toArray Q S l.length (Array.replicate l.length false) a w.drew) : (Code.region id l.toArray true).wp P Q a w := wp_region_held (S := S) hm (by simpa using h)
end
end Go.Proofs.Ytcebchjokmampaa.HeldI
