/- Less of package ops, and of the document's answer. -/
import Derived.Test.YtknpnjhedfdggaaSmall
import Derived.Test.YtknpnjhedfdggaaTame
namespace Go.Proofs.Ytknpnjhedfdggaa
open Go.RowKit

/-- What Compare tells. -/
def cmpI (x y : Int) : Int := if x < y then -1 else if y < x then 1 else 0

set_option maxRecDepth 100000 in
theorem compare_any (x y : Int) (w : World) : Calls Try.prog 60 #[.int .i64 x, .int .i64 y] w (Leaves (.int .i64 (cmpI x y)) w) := by
  unfold cmpI
  by_cases h1 : x < y
  · rw [if_pos h1]
    go_enter Try.func60, Try.ntmps60
    go_wp2
    go_ret
    exact ⟨rfl, rfl⟩
  · rw [if_neg h1]
    by_cases h2 : y < x
    · rw [if_pos h2]
      go_enter Try.func60, Try.ntmps60
      go_wp2
      go_ret
      exact ⟨rfl, rfl⟩
    · rw [if_neg h2]
      go_enter Try.func60, Try.ntmps60
      go_wp2
      go_ret
      exact ⟨rfl, rfl⟩

/-- The first of three that is not zero. -/
def or3 (a b c : Int) : Int := if a ≠ 0 then a else if b ≠ 0 then b else c
/-- A slice of three ints. -/
def Three (w : World) (v : Value) (a b c : Int) : Prop := ∃ g, v = .slice (some ⟨g, 0, none⟩) 3 3 ∧ Rw w g 3 #[.int .i64 a, .int .i64 b, .int .i64 c]
theorem Three.later {w w' : World} {v : Value} {a b c : Int} (h : Three w v a b c) (hb : Below w.heap.size w w') : Three w' v a b c := by
  obtain ⟨g, e, h⟩ := h
  exact ⟨g, e, h.later hb⟩

set_option maxRecDepth 100000 in
theorem or_any (v : Value) (a b c : Int) (w : World) (h : Three w v a b c) : Calls Try.prog 59 #[v] w (Leaves (.int .i64 (or3 a b c)) w) := by
  obtain ⟨g, rfl, hr⟩ := h
  have c0 : w.cell? ⟨g, 0, none⟩ = some (.int .i64 a) := hr.cell 0
  have c1 : w.cell? ⟨g, 1, none⟩ = some (.int .i64 b) := hr.cell 1
  have c2 : w.cell? ⟨g, 2, none⟩ = some (.int .i64 c) := hr.cell 2
  clear hr
  obtain ⟨z, HZ⟩ : ∃ z, Hid (or3 a b c = z) := ⟨_, rfl⟩
  rw [HZ.out]
  go_enter Try.func59, Try.ntmps59
  go_wp2
  go_loopw [8] (fun vi wr => ∃ k : Nat, vi = .int .i64 k ∧ k ≤ 3 ∧ wr = w ∧ Hid ((1 ≤ k → a = 0) ∧ (2 ≤ k → b = 0) ∧ (3 ≤ k → c = 0))) (fun vi _ => 3 - (intOf vi).toNat)
  case atStart => exact ⟨0, rfl, by omega, rfl, (show _ ∧ _ from ⟨fun h => by omega, fun h => by omega, fun h => by omega⟩)⟩
  case round =>
    obtain ⟨k, rfl, hk, rfl, HV⟩ := hrel
    have hk3 : k = 0 ∨ k = 1 ∨ k = 2 ∨ k = 3 := by omega
    have hv := HV.out
    rcases hk3 with rfl | rfl | rfl | rfl
    · by_cases hx : a = 0
      · have HV2 : Hid ((1 ≤ 1 → a = 0) ∧ (2 ≤ 1 → b = 0) ∧ (3 ≤ 1 → c = 0)) := (show _ ∧ _ from ⟨fun _ => by omega, fun _ => by omega, fun _ => by omega⟩)
        clear hv HV
        rw [hx] at c0
        have HX : Hid (a = 0) := hx
        clear hx
        go_wp2
        go_roundw
        case rel => exact ⟨1, by simp, by omega, by trivial, HV2⟩
        case measure => simp [intOf]
      · have HR : Hid (z = a) := by
          have e := HZ.out
          unfold or3 at e
          show z = _
          rw [← e]
          rw [if_pos hx]
        clear hv HV HZ
        go_wp2
        go_ret
        exact ⟨by rw [HR.out]; rfl, rfl⟩
    · by_cases hx : b = 0
      · have HV2 : Hid ((1 ≤ 2 → a = 0) ∧ (2 ≤ 2 → b = 0) ∧ (3 ≤ 2 → c = 0)) := (show _ ∧ _ from ⟨fun _ => by omega, fun _ => by omega, fun _ => by omega⟩)
        clear hv HV
        rw [hx] at c1
        have HX : Hid (b = 0) := hx
        clear hx
        go_wp2
        go_roundw
        case rel => exact ⟨2, by simp, by omega, by trivial, HV2⟩
        case measure => simp [intOf]
      · have HR : Hid (z = b) := by
          have e := HZ.out
          unfold or3 at e
          show z = _
          rw [← e]
          rw [if_neg (by omega), if_pos hx]
        clear hv HV HZ
        go_wp2
        go_ret
        exact ⟨by rw [HR.out]; rfl, rfl⟩
    · by_cases hx : c = 0
      · have HV2 : Hid ((1 ≤ 3 → a = 0) ∧ (2 ≤ 3 → b = 0) ∧ (3 ≤ 3 → c = 0)) := (show _ ∧ _ from ⟨fun _ => by omega, fun _ => by omega, fun _ => by omega⟩)
        clear hv HV
        rw [hx] at c2
        have HX : Hid (c = 0) := hx
        clear hx
        go_wp2
        go_roundw
        case rel => exact ⟨3, by simp, by omega, by trivial, HV2⟩
        case measure => simp [intOf]
      · have HR : Hid (z = c) := by
          have e := HZ.out
          unfold or3 at e
          show z = _
          rw [← e]
          rw [if_neg (by omega), if_neg (by omega)]
        clear hv HV HZ
        go_wp2
        go_ret
        exact ⟨by rw [HR.out]; rfl, rfl⟩
    · have HR : Hid (z = 0) := by
        have e := HZ.out
        unfold or3 at e
        show z = _
        rw [← e, if_neg (by omega), if_neg (by omega)]
        omega
      clear hv HV HZ
      go_wp2
      go_ret
      exact ⟨by rw [HR.out]; rfl, rfl⟩
/-- What is ahead. -/
def ls (p s i q u j : Int) : Bool := decide (p < q ∨ (p = q ∧ (s < u ∨ (s = u ∧ i < j))))
theorem ls_or (p s i q u j : Int) : decide (or3 (cmpI p q) (cmpI s u) (cmpI i j) < 0) = ls p s i q u j := by
  unfold ls or3 cmpI
  rw [decide_eq_decide]
  (repeat' split) <;> omega
/-- What is known of a value: it is no slice, or it holds the three. -/
def nosl : Value → Bool
  | .slice .. => false
  | _ => true
def isSl (v : Value) : Prop := nosl v = false
def TD (a b c : Int) (v : Value) (w : World) : Prop := nosl v = true ∨ Three w v a b c
theorem sl_three {w : World} {v : Value} {a b c : Int} (h : isSl v) (ht : TD a b c v w) : Three w v a b c := by
  rcases ht with h' | h'
  · rw [isSl, h'] at h; cases h
  · exact h'
theorem TD.later {a b c : Int} (v : Value) (w w' : World) (h : TD a b c v w) (hb : Below w.heap.size w w') : TD a b c v w' := by
  rcases h with h | h
  · exact Or.inl h
  · exact Or.inr (h.later hb)
theorem three_new (w : World) (a b c : Int) : Three (w.alloc (.cells #[.int .i64 a, .int .i64 b, .int .i64 c] 3)) (.slice (some ⟨w.heap.size, 0, none⟩) 3 3) a b c := ⟨w.heap.size, rfl, rw_new w 3 _⟩
theorem build_three {o : Oper} {ac : Act} {x y z : Operand} {a b c : Int} (ho : o.op = .buildSlice 107 3 #[(0, x), (1, y), (2, z)]) (hx : ac.eval x = .int .i64 a) (hy : ac.eval y = .int .i64 b) (hz : ac.eval z = .int .i64 c) (w : World) :
    (execOp ac.eval o).run Try.prog w = .ok (.value (.slice (some ⟨w.heap.size, 0, none⟩) 3 3)) (w.alloc (.cells #[.int .i64 a, .int .i64 b, .int .i64 c] 3)) := by
  unfold execOp
  generalize ac.eval = ρ at hx hy hz
  simp [ho, hx, hy, hz, go_sem]
theorem known_all {a b c : Int} {ac : Act} (h : ac.tmps.toList.all nosl = true) (w : World) : Tame.Known (TD a b c) ac w := by
  intro t
  refine .inl ?_
  rw [Array.getD_eq_getD_getElem?]
  rcases Nat.lt_or_ge t ac.tmps.size with hlt | hge
  · rw [Array.getElem?_eq_getElem hlt]
    exact List.all_eq_true.1 h _ (by simp)
  · rw [Array.getElem?_eq_none hge]
    rfl

set_option maxHeartbeats 1000000 in
set_option maxRecDepth 100000 in
theorem less_any (p s i q u j : Int) (w : World) : Calls Try.prog 50 #[MV p s i, MV q u j] w (Tells (.bool (ls p s i q u j)) w) := by
  rw [← ls_or]
  have C1 : ∀ w, Calls Try.prog 60 #[.int .i64 p, .int .i64 q] w (Tells (.int .i64 (cmpI p q)) w) := fun w => (compare_any p q w).mono fun e w' ⟨he, hw⟩ => ⟨he, by rw [hw]; exact Below.refl _ _⟩
  have C2 : ∀ w, Calls Try.prog 60 #[.int .i64 s, .int .i64 u] w (Tells (.int .i64 (cmpI s u)) w) := fun w => (compare_any s u w).mono fun e w' ⟨he, hw⟩ => ⟨he, by rw [hw]; exact Below.refl _ _⟩
  have C3 : ∀ w, Calls Try.prog 60 #[.int .i64 i, .int .i64 j] w (Tells (.int .i64 (cmpI i j)) w) := fun w => (compare_any i j w).mono fun e w' ⟨he, hw⟩ => ⟨he, by rw [hw]; exact Below.refl _ _⟩
  generalize cmpI p q = a at C1 ⊢
  generalize cmpI s u = b at C2 ⊢
  generalize cmpI i j = c at C3 ⊢
  have C4 : ∀ v w, Three w v a b c → Calls Try.prog 59 #[v] w (Tells (.int .i64 (or3 a b c)) w) := fun v w h => (or_any v a b c w h).mono fun e w' ⟨he, hw⟩ => ⟨he, by rw [hw]; exact Below.refl _ _⟩
  generalize or3 a b c = r at C4 ⊢
  have R1 := (rw_new w 39 #[.int .i64 p, .int .i64 s, .int .i64 i]).alloc (.cells #[.int .i64 q, .int .i64 u, .int .i64 j] 39)
  have R2 := rw_next (w.alloc (.cells #[.int .i64 p, .int .i64 s, .int .i64 i] 39)) (b := w.heap.size + 1) (by simp) 39 #[.int .i64 q, .int .i64 u, .int .i64 j]
  have hbel : Below w.heap.size w ((w.alloc (.cells #[.int .i64 p, .int .i64 s, .int .i64 i] 39)).alloc (.cells #[.int .i64 q, .int .i64 u, .int .i64 j] 39)) := bel_alloc (bel_alloc (Below.refl _ _) _) _
  go_enter Try.func50, Try.ntmps50
  go_wp2_with fail
  generalize (w.alloc (.cells #[.int .i64 p, .int .i64 s, .int .i64 i] 39)).alloc (.cells #[.int .i64 q, .int .i64 u, .int .i64 j] 39) = w0 at R1 R2 hbel ⊢
  have HS : ∀ w', Rw w' w.heap.size 39 #[.int .i64 p, .int .i64 s, .int .i64 i] ∧ Rw w' (w.heap.size + 1) 39 #[.int .i64 q, .int .i64 u, .int .i64 j] ∧ Below w.heap.size w w' → (w'.cell? ⟨w.heap.size, 0, none⟩ = some (.int .i64 p) ∧ w'.cell? ⟨w.heap.size, 1, none⟩ = some (.int .i64 s) ∧ w'.cell? ⟨w.heap.size, 2, none⟩ = some (.int .i64 i) ∧ w'.cell? ⟨w.heap.size + 1, 0, none⟩ = some (.int .i64 q) ∧ w'.cell? ⟨w.heap.size + 1, 1, none⟩ = some (.int .i64 u) ∧ w'.cell? ⟨w.heap.size + 1, 2, none⟩ = some (.int .i64 j)) := fun w' h => ⟨h.1.cell 0, h.1.cell 1, h.1.cell 2, h.2.1.cell 0, h.2.1.cell 1, h.2.1.cell 2⟩
  refine Tame.region (by kernel_rfl) (by kernel_rfl) (fun w' => w'.cell? ⟨w.heap.size, 0, none⟩ = some (.int .i64 p) ∧ w'.cell? ⟨w.heap.size, 1, none⟩ = some (.int .i64 s) ∧ w'.cell? ⟨w.heap.size, 2, none⟩ = some (.int .i64 i) ∧ w'.cell? ⟨w.heap.size + 1, 0, none⟩ = some (.int .i64 q) ∧ w'.cell? ⟨w.heap.size + 1, 1, none⟩ = some (.int .i64 u) ∧ w'.cell? ⟨w.heap.size + 1, 2, none⟩ = some (.int .i64 j) ∧ Below w.heap.size w w') (TD a b c)
    (fun wa wb h hb => ⟨cell_later hb h.1, cell_later hb h.2.1, cell_later hb h.2.2.1, cell_later hb h.2.2.2.1, cell_later hb h.2.2.2.2.1, cell_later hb h.2.2.2.2.2.1, below_on h.2.2.2.2.2.2 hb⟩) TD.later (fun _ => .inl rfl) ⟨R1.cell 0, R1.cell 1, R1.cell 2, R2.cell 0, R2.cell 1, R2.cell 2, hbel.drew⟩ (known_all (by rfl) _) ?_
  clear R1 R2 hbel HS
  refine Tame.pure (v := ?_) (fun _ => by rfl) ?_ ?_ ?_
  rotate_left
  focus (intro p hp w hSw; go_simp <;> rfl)
  focus (intro w; exact .inl rfl)
  simp only [Act.put, List.setIfInBounds_toArray, List.set_cons_zero, List.set_cons_succ]
  refine Tame.pure (v := ?_) (fun _ => by rfl) ?_ ?_ ?_
  rotate_left
  focus (intro p hp w hSw; go_simp <;> rfl)
  focus (intro w; exact .inl rfl)
  simp only [Act.put, List.setIfInBounds_toArray, List.set_cons_zero, List.set_cons_succ]
  refine Tame.pure (v := ?_) (fun _ => by rfl) ?_ ?_ ?_
  rotate_left
  focus (intro p hp w hSw; go_simp <;> rfl)
  focus (intro w; exact .inl rfl)
  simp only [Act.put, List.setIfInBounds_toArray, List.set_cons_zero, List.set_cons_succ]
  refine Tame.pure (v := ?_) (fun _ => by rfl) ?_ ?_ ?_
  rotate_left
  focus (intro p hp w hSw; go_simp <;> rfl)
  focus (intro w; exact .inl rfl)
  simp only [Act.put, List.setIfInBounds_toArray, List.set_cons_zero, List.set_cons_succ]
  refine Tame.pure (v := ?_) (fun _ => by rfl) ?_ ?_ ?_
  rotate_left
  focus (intro p hp w hSw; go_simp <;> rfl)
  focus (intro w; exact .inl rfl)
  simp only [Act.put, List.setIfInBounds_toArray, List.set_cons_zero, List.set_cons_succ]
  refine Tame.pure (v := ?_) (fun _ => by rfl) ?_ ?_ ?_
  rotate_left
  focus (intro p hp w hSw; go_simp <;> rfl)
  focus (intro w; exact .inl rfl)
  simp only [Act.put, List.setIfInBounds_toArray, List.set_cons_zero, List.set_cons_succ]
  refine Tame.call2 (fun _ => by rfl) rfl (fun _ => rfl) (fun _ => rfl) (by kernel_rfl) (fun _ => .inl rfl) (fun _ w _ _ _ => C1 w) ?_
  simp only [Act.put, List.setIfInBounds_toArray, List.set_cons_zero, List.set_cons_succ]
  refine Tame.pure (v := ?_) (fun _ => by rfl) ?_ ?_ ?_
  rotate_left
  focus (intro p hp w hSw; go_simp <;> rfl)
  focus (intro w; exact .inl rfl)
  simp only [Act.put, List.setIfInBounds_toArray, List.set_cons_zero, List.set_cons_succ]
  refine Tame.pure (v := ?_) (fun _ => by rfl) ?_ ?_ ?_
  rotate_left
  focus (intro p hp w hSw; go_simp <;> rfl)
  focus (intro w; exact .inl rfl)
  simp only [Act.put, List.setIfInBounds_toArray, List.set_cons_zero, List.set_cons_succ]
  refine Tame.pure (v := ?_) (fun _ => by rfl) ?_ ?_ ?_
  rotate_left
  focus (intro p hp w hSw; go_simp <;> rfl)
  focus (intro w; exact .inl rfl)
  simp only [Act.put, List.setIfInBounds_toArray, List.set_cons_zero, List.set_cons_succ]
  refine Tame.pure (v := ?_) (fun _ => by rfl) ?_ ?_ ?_
  rotate_left
  focus (intro p hp w hSw; go_simp <;> rfl)
  focus (intro w; exact .inl rfl)
  simp only [Act.put, List.setIfInBounds_toArray, List.set_cons_zero, List.set_cons_succ]
  refine Tame.pure (v := ?_) (fun _ => by rfl) ?_ ?_ ?_
  rotate_left
  focus (intro p hp w hSw; go_simp <;> rfl)
  focus (intro w; exact .inl rfl)
  simp only [Act.put, List.setIfInBounds_toArray, List.set_cons_zero, List.set_cons_succ]
  refine Tame.pure (v := ?_) (fun _ => by rfl) ?_ ?_ ?_
  rotate_left
  focus (intro p hp w hSw; go_simp <;> rfl)
  focus (intro w; exact .inl rfl)
  simp only [Act.put, List.setIfInBounds_toArray, List.set_cons_zero, List.set_cons_succ]
  refine Tame.call2 (fun _ => by rfl) rfl (fun _ => rfl) (fun _ => rfl) (by kernel_rfl) (fun _ => .inl rfl) (fun _ w _ _ _ => C2 w) ?_
  simp only [Act.put, List.setIfInBounds_toArray, List.set_cons_zero, List.set_cons_succ]
  refine Tame.pure (v := ?_) (fun _ => by rfl) ?_ ?_ ?_
  rotate_left
  focus (intro p hp w hSw; go_simp <;> rfl)
  focus (intro w; exact .inl rfl)
  simp only [Act.put, List.setIfInBounds_toArray, List.set_cons_zero, List.set_cons_succ]
  refine Tame.pure (v := ?_) (fun _ => by rfl) ?_ ?_ ?_
  rotate_left
  focus (intro p hp w hSw; go_simp <;> rfl)
  focus (intro w; exact .inl rfl)
  simp only [Act.put, List.setIfInBounds_toArray, List.set_cons_zero, List.set_cons_succ]
  refine Tame.pure (v := ?_) (fun _ => by rfl) ?_ ?_ ?_
  rotate_left
  focus (intro p hp w hSw; go_simp <;> rfl)
  focus (intro w; exact .inl rfl)
  simp only [Act.put, List.setIfInBounds_toArray, List.set_cons_zero, List.set_cons_succ]
  refine Tame.pure (v := ?_) (fun _ => by rfl) ?_ ?_ ?_
  rotate_left
  focus (intro p hp w hSw; go_simp <;> rfl)
  focus (intro w; exact .inl rfl)
  simp only [Act.put, List.setIfInBounds_toArray, List.set_cons_zero, List.set_cons_succ]
  refine Tame.call2 (fun _ => by rfl) rfl (fun _ => rfl) (fun _ => rfl) (by kernel_rfl) (fun _ => .inl rfl) (fun _ w _ _ _ => C3 w) ?_
  simp only [Act.put, List.setIfInBounds_toArray, List.set_cons_zero, List.set_cons_succ]
  refine Tame.fresh isSl ⟨.slice none 0 0, rfl⟩ (fun p hp => .inl ⟨by rfl, fun w hS ht => ?_⟩) ?_
  focus (rw [build_three rfl rfl rfl rfl w]; exact ⟨rfl, .inr (three_new w _ _ _), (Below.refl _ _).alloc (Nat.le_refl _) _⟩)
  simp only [Act.put, List.setIfInBounds_toArray, List.set_cons_zero, List.set_cons_succ]
  refine Tame.call1 (fun _ => by rfl) rfl (fun _ => rfl) (by kernel_rfl) (fun _ => .inl rfl) (fun p w hp hS ht => C4 _ w (sl_three hp.2 (ht 24 (by simp [Op.operands, Call.operands])))) ?_
  simp only [Act.put, List.setIfInBounds_toArray, List.set_cons_zero, List.set_cons_succ]
  refine Tame.pure (v := ?_) (fun _ => by rfl) ?_ ?_ ?_
  rotate_left
  focus (intro p hp w hSw; go_simp <;> rfl)
  focus (intro w; exact .inl rfl)
  simp only [Act.put, List.setIfInBounds_toArray, List.set_cons_zero, List.set_cons_succ]
  refine Tame.pure (v := ?_) (fun _ => by rfl) ?_ ?_ ?_
  rotate_left
  focus (intro p hp w hSw; go_simp <;> rfl)
  focus (intro w; exact .inl rfl)
  simp only [Act.put, List.setIfInBounds_toArray, List.set_cons_zero, List.set_cons_succ]
  refine Tame.done fun p hp w9 hS9 => ?_
  go_wp2
  go_ret
  exact ⟨rfl, by go_split_ands; assumption⟩

set_option maxHeartbeats 1000000 in
set_option maxRecDepth 100000 in
theorem refLess_any (p s i q u j : Int) (w : World) : Calls Try.prog 22 #[MV p s i, MV q u j] w (Tells (.bool (ls p s i q u j)) w) := by
  obtain ⟨z, HZ⟩ : ∃ z, Hid (ls p s i q u j = z) := ⟨_, rfl⟩
  rw [HZ.out]
  go_enter Try.func22, Try.ntmps22
  go_wp2
  all_goals
    go_ret
    refine tells_bool ?_ (bel_alloc (bel_alloc (Below.refl _ _) _) _)
    have hz := HZ.out
    unfold ls at hz
    rw [← hz]
    first | (rw [decide_eq_decide]; omega) | grind
end Go.Proofs.Ytknpnjhedfdggaa
