/- The small functions of package events: isLeaf, sameLeaf, leaf, lifter and what it makes. -/
import Derived.Test.YtlfbabepbajcjaaMath
namespace Go.Proofs.Ytlfbabepbajcjaa
open Go.RowKit

theorem is_tv {w : World} : ∀ {x : EV} {v : Value}, Is w x v → ∃ p c, v = TV x.n p (len x) c
  | ⟨_, .inl _⟩, _, h => h
  | ⟨_, .inr (_, _)⟩, _, ⟨g, o, c, _, _, _, _, _, _, _, _, e, _⟩ => ⟨some ⟨g, o, none⟩, c, e⟩
theorem is_parts {w : World} {x : EV} {n : Int} {p : Option Addr} {l c : Nat} (h : Is w x (TV n p l c)) : n = x.n ∧ l = len x := by
  obtain ⟨p', c', e⟩ := is_tv h
  simp at e
  exact ⟨e.1, e.2.2.1⟩
theorem is_leaf (w : World) (n : Int) (p : Option Addr) (c : Nat) : Is w (.leaf n) (TV n p 0 c) := ⟨p, c, rfl⟩
theorem is_lift {w : World} {x : EV} {n : Int} {p : Option Addr} {l c : Nat} (k : Int) (h : Is w x (TV n p l c)) : Is w (lift x k) (TV (n + k) p l c) := by
  rcases x with ⟨m, _ | ⟨x, y⟩⟩
  · obtain ⟨p', c', e⟩ := h
    simp at e
    obtain ⟨rfl, rfl, rfl, rfl⟩ := e
    exact ⟨p, c, rfl⟩
  · obtain ⟨g, o, c', n0, p0, l0, c0, n1, p1, l1, c1, e, t0, t1, hx, hy⟩ := h
    simp at e
    obtain ⟨rfl, rfl, rfl, rfl⟩ := e
    exact ⟨g, o, c, n0, p0, l0, c0, n1, p1, l1, c1, rfl, t0, t1, hx, hy⟩

theorem one_box (w : World) (n : Int) (p : Option Addr) (l c : Nat) : ∀ w0, w0 = w.alloc (.cells #[.int .i64 n, .slice p l c] 24) → Bx w0 w.heap.size n p l c ∧ Below w.heap.size w w0 := by
  rintro w0 rfl
  exact ⟨bx_new w n p l c, (Below.refl _ _).alloc (Nat.le_refl _) _⟩
theorem two_box (w : World) (n : Int) (p : Option Addr) (l c : Nat) (n' : Int) (p' : Option Addr) (l' c' : Nat) : ∀ w0, w0 = (w.alloc (.cells #[.int .i64 n, .slice p l c] 24)).alloc (.cells #[.int .i64 n', .slice p' l' c'] 24) → Bx w0 w.heap.size n p l c ∧ Bx w0 (w.heap.size + 1) n' p' l' c' ∧ Below w.heap.size w w0 := by
  rintro w0 rfl
  exact ⟨(bx_new w n p l c).alloc _, bx_next _ (by simp) n' p' l' c', ((Below.refl _ _).alloc (Nat.le_refl _) _).alloc (by simp) _⟩
theorem three_box (w : World) (n : Int) (p : Option Addr) (l c : Nat) (n' : Int) (p' : Option Addr) (l' c' : Nat) (n'' : Int) (p'' : Option Addr) (l'' c'' : Nat) : ∀ w0, w0 = ((w.alloc (.cells #[.int .i64 n, .slice p l c] 24)).alloc (.cells #[.int .i64 n', .slice p' l' c'] 24)).alloc (.cells #[.int .i64 n'', .slice p'' l'' c''] 24) → Bx w0 w.heap.size n p l c ∧ Bx w0 (w.heap.size + 1) n' p' l' c' ∧ Bx w0 (w.heap.size + 1 + 1) n'' p'' l'' c'' ∧ Below w.heap.size w w0 := by
  rintro w0 rfl
  exact ⟨((bx_new w n p l c).alloc _).alloc _, (bx_next _ (by simp) n' p' l' c').alloc _, bx_next _ (by simp) n'' p'' l'' c'', (((Below.refl _ _).alloc (Nat.le_refl _) _).alloc (by simp) _).alloc (by simp; omega) _⟩
/-- A new box, and what it holds then. -/
theorem new_box (w : World) (n : Int) (p : Option Addr) (l c : Nat) : Bx ((w.alloc (.cells #[.int .i64 0, .slice none 0 0] 24)).setRow w.heap.size #[.int .i64 n, .slice p l c]) w.heap.size n p l c := (bx_new w 0 none 0 0).row n p l c
theorem new_below (w : World) (n : Int) (p : Option Addr) (l c : Nat) : Below w.heap.size w ((w.alloc (.cells #[.int .i64 0, .slice none 0 0] 24)).setRow w.heap.size #[.int .i64 n, .slice p l c]) :=
  below_setRow ((Below.refl _ _).alloc (Nat.le_refl _) _) (Nat.le_refl _) _
theorem row_tats (w : World) (n : Int) (p : Option Addr) (l c : Nat) (n' : Int) (p' : Option Addr) (l' c' : Nat) : ∀ w0, w0 = w.alloc (.cells #[.int .i64 n, .slice p l c, .int .i64 n', .slice p' l' c'] 24) →
    Tat w0 w.heap.size 0 n p l c ∧ Tat w0 w.heap.size 2 n' p' l' c' ∧ Below w.heap.size w w0 := by
  rintro w0 rfl
  have h := heap_alloc_last w (.cells #[.int .i64 n, .slice p l c, .int .i64 n', .slice p' l' c'] 24)
  refine ⟨⟨?_, ?_⟩, ⟨?_, ?_⟩, (Below.refl _ _).alloc (Nat.le_refl _) _⟩
  all_goals rw [cell_of_row _ _ _ _ 24 (0, 0) h]; rfl

/-- The call answers the tree x; the tree and a number. -/
abbrev Gives (x : EV) (w : World) (e : Ending) (w' : World) : Prop := ∃ n p l c, e = .returned (TV n p l c) ∧ Is w' x (TV n p l c) ∧ Below w.heap.size w w'
abbrev GivesE (x : EV) (r : Int) (w : World) (e : Ending) (w' : World) : Prop := ∃ n p l c, e = .returned (.tuple #[TV n p l c, .int .i64 r]) ∧ Is w' x (TV n p l c) ∧ Below w.heap.size w w'
/-- It answers a value, and leaves what was there alone. -/
abbrev Tells (v : Value) (w : World) (e : Ending) (w' : World) : Prop := e = .returned v ∧ Below w.heap.size w w'

set_option maxRecDepth 100000 in
theorem isLeaf_any (n : Int) (p : Option Addr) (l c : Nat) (w : World) : Calls Try.prog 38 #[TV n p l c] w (Tells (.bool (decide (l = 0))) w) := by
  obtain ⟨h1, hbel⟩ := one_box w n p l c _ rfl
  have c1 := h1.cell1
  go_enter Try.func38, Try.ntmps38
  go_wp2
  go_ret
  refine ⟨?_, hbel⟩
  have : ((l : Int) == 0) = decide (l = 0) := by
    rw [Bool.eq_iff_iff]; simp
  simp [this]
theorem isLeaf_is {w : World} {x : EV} {n : Int} {p : Option Addr} {l c : Nat} (h : Is w x (TV n p l c)) (w1 : World) : Calls Try.prog 38 #[TV n p l c] w1 (Tells (.bool (lf x)) w1) := by
  have := isLeaf_any n p l c w1
  rwa [show decide (l = 0) = lf x by rw [(is_parts h).2, len_lf]] at this

set_option maxRecDepth 100000 in
theorem sameLeaf_any (n : Int) (p : Option Addr) (l c : Nat) (n' : Int) (p' : Option Addr) (l' c' : Nat) (w : World) :
    Calls Try.prog 43 #[TV n p l c, TV n' p' l' c'] w (Tells (.bool (decide (l = 0) && (decide (l' = 0) && n == n'))) w) := by
  obtain ⟨h1, h2, hbel⟩ := two_box w n p l c n' p' l' c' _ rfl
  have hC := isLeaf_any n p l c
  have hC' := isLeaf_any n' p' l' c'
  generalize decide (l = 0) = x at hC ⊢
  generalize decide (l' = 0) = y at hC' ⊢
  go_enter Try.func43, Try.ntmps43
  go_wp2_with (refine load_t _ rfl rfl _ _ rfl h1.tat ?_)
  refine (hC _).mono ?_
  rintro e w1 ⟨rfl, hb1⟩
  replace h1 := h1.later hb1
  replace h2 := h2.later hb1
  replace hbel := below_on hbel hb1
  clear hb1
  cases x
  · go_wp2
    go_ret
    exact ⟨by simp, hbel⟩
  · go_wp2_with (refine load_t _ rfl rfl _ _ rfl h2.tat ?_)
    refine (hC' _).mono ?_
    rintro e w2 ⟨rfl, hb1⟩
    replace h1 := (h1.later hb1).cell0
    replace h2 := (h2.later hb1).cell0
    replace hbel := below_on hbel hb1
    clear hb1
    cases y
    · go_wp2
      go_ret
      exact ⟨by simp, hbel⟩
    · go_wp2
      go_ret
      exact ⟨by simp, hbel⟩

set_option maxRecDepth 100000 in
theorem leaf_any (n : Int) (w : World) : Calls Try.prog 41 #[.int .i64 n] w (Tells (TV n none 0 0) w) := by
  obtain ⟨h1, hbel⟩ := one_box w 0 none 0 0 _ rfl
  go_enter Try.func41, Try.ntmps41
  go_wp2_with (refine store_t rfl _ _ rfl _ n none 0 0 rfl rfl h1 ?_)
  exact bodyPost_ret (results_t rfl rfl (h1.row n none 0 0)) rfl ⟨rfl, below_setRow hbel (Nat.le_refl _) _⟩
theorem leaf_gives (n : Int) (w : World) : Calls Try.prog 41 #[.int .i64 n] w (Gives (.leaf n) w) :=
  (leaf_any n w).mono fun _e _w' ⟨he, hb⟩ => ⟨n, none, 0, 0, he, is_leaf _ _ _ _, hb⟩
set_option maxRecDepth 100000 in
theorem refLeaf_any (n : Int) (w : World) : Calls Try.prog 44 #[.int .i64 n] w (Tells (TV n none 0 0) w) := by
  obtain ⟨h1, hbel⟩ := one_box w 0 none 0 0 _ rfl
  go_enter Try.func44, Try.ntmps44
  go_wp2_with (refine store_t rfl _ _ rfl _ n none 0 0 rfl rfl h1 ?_)
  exact bodyPost_ret (results_t rfl rfl (h1.row n none 0 0)) rfl ⟨rfl, below_setRow hbel (Nat.le_refl _) _⟩
theorem refLeaf_gives (n : Int) (w : World) : Calls Try.prog 44 #[.int .i64 n] w (Gives (.leaf n) w) :=
  (refLeaf_any n w).mono fun _e _w' ⟨he, hb⟩ => ⟨n, none, 0, 0, he, is_leaf _ _ _ _, hb⟩

/-- What lifter makes: it lifts by what lies in the block b. -/
abbrev LF (b : Nat) : Value := .func (.func 48) #[] #[.pointer (some ⟨b, 0, none⟩)]
def By (w : World) (b : Nat) (k : Int) : Prop := w.heap[b]? = some (.cells #[.int .i64 k] 3)
theorem By.lt {w : World} {b : Nat} {k : Int} (h : By w b k) : b < w.heap.size := (Array.getElem?_eq_some_iff.1 h).1
theorem By.later {w w' : World} {b : Nat} {k : Int} (h : By w b k) (hb : Below w.heap.size w w') : By w' b k := (hb.block b h.lt).trans h
theorem By.cell {w : World} {b : Nat} {k : Int} (h : By w b k) : w.cell? ⟨b, 0, none⟩ = some (.int .i64 k) := by rw [cell_of_row _ _ 0 _ 3 (0, 0) h]; rfl
theorem By.box {w : World} {b : Nat} {k : Int} (h : By w b k) {q : Nat} {n : Int} {p : Option Addr} {l c : Nat} (hq : Bx w q n p l c) (cs : Array Value) : By (w.setRow q cs) b k := by
  refine (setRow_other w q b cs (fun e => ?_)).trans h
  subst e
  have := Option.some.inj (h.symm.trans hq)
  simp at this
set_option maxRecDepth 100000 in
theorem lifter_any (k : Int) (w : World) : Calls Try.prog 42 #[.int .i64 k] w fun e w' => ∃ b, e = .returned (LF b) ∧ By w' b k ∧ Below w.heap.size w w' := by
  go_enter Try.func42, Try.ntmps42
  go_wp2
  go_ret
  exact ⟨w.heap.size, rfl, heap_alloc_last w _, (Below.refl _ _).alloc (Nat.le_refl _) _⟩

set_option maxRecDepth 100000 in
theorem lifted_any (n : Int) (p : Option Addr) (l c : Nat) (b : Nat) (k : Int) (w : World) (hk : By w b k) (h0 : -9223372036854775808 ≤ n + k) (h1 : n + k ≤ 9223372036854775807) :
    Calls Try.prog 48 #[TV n p l c, .pointer (some ⟨b, 0, none⟩)] w (Tells (TV (n + k) p l c) w) := by
  obtain ⟨hx, hy, hbel⟩ := two_box w n p l c 0 none 0 0 _ rfl
  have g0 := hx.cell0
  have gk := cell_later hbel hk.cell
  go_enter Try.func48, Try.ntmps48
  go_wp2
  obtain ⟨_, hz, hbel2⟩ := two_box w (n + k) p l c (n + k) p l c _ rfl
  exact bodyPost_ret (results_t rfl rfl hz) rfl ⟨rfl, hbel2⟩
theorem lifted_is {x : EV} (n : Int) (p : Option Addr) (l c : Nat) (b : Nat) (k : Int) (w : World) (hx : Is w x (TV n p l c)) (hk : By w b k) (h0 : -9223372036854775808 ≤ x.n + k) (h1 : x.n + k ≤ 9223372036854775807) :
    Calls Try.prog 48 #[TV n p l c, .pointer (some ⟨b, 0, none⟩)] w (Gives (lift x k) w) := by
  rw [← (is_parts hx).1] at h0 h1
  exact (lifted_any n p l c b k w hk h0 h1).mono fun e w' ⟨he, hb⟩ => ⟨_, _, _, _, he, is_lift k (hx.later hb), hb⟩

set_option maxRecDepth 100000 in
theorem isAtMost_any (a b : Int) (w : World) : Calls Try.prog 35 #[.int .i64 a, .int .i64 b] w (Tells (.bool (decide (a ≤ b))) w) := by
  go_enter Try.func35, Try.ntmps35
  go_wp2
  go_ret
  exact ⟨rfl, Below.refl _ _⟩
set_option maxRecDepth 100000 in
theorem and_any (a b : Bool) (w : World) : Calls Try.prog 36 #[.bool a, .bool b] w (Tells (.bool (a && b)) w) := by
  cases a
  · go_enter Try.func36, Try.ntmps36
    go_wp2
    go_ret
    exact ⟨rfl, Below.refl _ _⟩
  · go_enter Try.func36, Try.ntmps36
    go_wp2
    go_ret
    exact ⟨rfl, Below.refl _ _⟩
set_option maxRecDepth 100000 in
theorem greaterLeaf_any (a b : Int) (w : World) : Calls Try.prog 31 #[.int .i64 a, .int .i64 b] w (Gives (.leaf (max a b)) w) := by
  obtain ⟨h1, hbel⟩ := one_box w 0 none 0 0 _ rfl
  obtain ⟨z, HZ⟩ : ∃ z, Hid (max a b = z) := ⟨_, rfl⟩
  rw [HZ.out]
  by_cases hab : a < b
  · obtain rfl : b = z := by have := HZ.out; omega
    go_enter Try.func31, Try.ntmps31
    go_wp2_with fail
    refine (leaf_any b _).mono ?_
    rintro e w1 ⟨rfl, hb1⟩
    replace h1 := h1.later hb1
    replace hbel := below_on hbel hb1
    clear hb1
    go_wp2_with (refine store_t rfl _ _ rfl _ b none 0 0 rfl rfl h1 ?_)
    exact bodyPost_ret (results_t rfl rfl (h1.row b none 0 0)) rfl ⟨_, _, _, _, rfl, is_leaf _ _ _ _, below_setRow hbel (Nat.le_refl _) _⟩
  · obtain rfl : a = z := by have := HZ.out; omega
    go_enter Try.func31, Try.ntmps31
    go_wp2_with fail
    refine (leaf_any a _).mono ?_
    rintro e w1 ⟨rfl, hb1⟩
    replace h1 := h1.later hb1
    replace hbel := below_on hbel hb1
    clear hb1
    go_wp2_with (refine store_t rfl _ _ rfl _ a none 0 0 rfl rfl h1 ?_)
    exact bodyPost_ret (results_t rfl rfl (h1.row a none 0 0)) rfl ⟨_, _, _, _, rfl, is_leaf _ _ _ _, below_setRow hbel (Nat.le_refl _) _⟩

set_option maxRecDepth 100000 in
theorem refLift_any (n : Int) (p : Option Addr) (l c : Nat) (k : Int) (w : World) (h0 : -9223372036854775808 ≤ n + k) (h1 : n + k ≤ 9223372036854775807) :
    Calls Try.prog 50 #[TV n p l c, .int .i64 k] w (Tells (TV (n + k) p l c) w) := by
  obtain ⟨hx, hy, hbel⟩ := two_box w n p l c 0 none 0 0 _ rfl
  have g0 := hx.cell0
  have g1 := hx.cell1
  go_enter Try.func50, Try.ntmps50
  go_wp2_with (refine store_t rfl _ _ rfl _ (n + k) p l c rfl rfl hy ?_)
  exact bodyPost_ret (results_t rfl rfl (hy.row (n + k) p l c)) rfl ⟨rfl, below_setRow hbel (by omega) _⟩
theorem refLift_is {x : EV} (n : Int) (p : Option Addr) (l c : Nat) (k : Int) (w : World) (hx : Is w x (TV n p l c)) (h0 : -9223372036854775808 ≤ x.n + k) (h1 : x.n + k ≤ 9223372036854775807) :
    Calls Try.prog 50 #[TV n p l c, .int .i64 k] w (Gives (lift x k) w) := by
  rw [← (is_parts hx).1] at h0 h1
  exact (refLift_any n p l c k w h0 h1).mono fun e w' ⟨he, hb⟩ => ⟨_, _, _, _, he, is_lift k (hx.later hb), hb⟩

set_option maxHeartbeats 1000000 in
set_option maxRecDepth 100000 in
theorem inner_any (m : Int) (x y : EV) (n : Int) (p : Option Addr) (l c : Nat) (n' : Int) (p' : Option Addr) (l' c' : Nat) (w : World) (hx : Is w x (TV n p l c)) (hy : Is w y (TV n' p' l' c')) :
    Calls Try.prog 49 #[.int .i64 m, TV n p l c, TV n' p' l' c'] w (Gives (.node m x y) w) := by
  obtain ⟨b1, b2, b3, hbel⟩ := three_box w n p l c n' p' l' c' 0 none 0 0 _ rfl
  generalize hw0 : ((w.alloc (.cells #[.int .i64 n, .slice p l c] 24)).alloc (.cells #[.int .i64 n', .slice p' l' c'] 24)).alloc (.cells #[.int .i64 0, .slice none 0 0] 24) = w0 at b1 b2 b3 hbel
  obtain ⟨t1, t2, hb1⟩ := row_tats w0 n p l c n' p' l' c' _ rfl
  have b4 := b3.later hb1
  have hbel2 := below_on hbel hb1
  have R := below_setRow hbel2 (g := w.heap.size + 1 + 1) (by omega) #[.int .i64 m, .slice (some ⟨w0.heap.size, 0, none⟩) 2 2]
  have hI : Is ((w0.alloc (.cells #[.int .i64 n, .slice p l c, .int .i64 n', .slice p' l' c'] 24)).setRow (w.heap.size + 1 + 1) #[.int .i64 m, .slice (some ⟨w0.heap.size, 0, none⟩) 2 2]) (.node m x y) (TV m (some ⟨w0.heap.size, 0, none⟩) 2 2) :=
    ⟨w0.heap.size, 0, 2, n, p, l, c, n', p', l', c', rfl, t1.box_lo b4 t2 _, t2.box_hi b4 _, (hx.later hbel2).box b4 _, (hy.later hbel2).box b4 _⟩
  clear t1 t2 hx hy hbel hbel2 hb1
  go_enter Try.func49, Try.ntmps49
  go_wp2_with (first | rw [hw0] | refine load_t _ rfl rfl _ _ rfl b1.tat ?_ | refine load_t _ rfl rfl _ _ rfl b2.tat ?_ | refine store_t rfl _ _ rfl _ m (some ⟨w0.heap.size, 0, none⟩) 2 2 rfl rfl b4 ?_)
  exact bodyPost_ret (results_t rfl rfl (b4.row _ _ _ _)) rfl ⟨_, _, _, _, rfl, hI, R⟩

/-- As if a leaf had two of 0. -/
def k0 : EV → EV
  | ⟨_, .inl _⟩ => .leaf 0
  | ⟨_, .inr (x, _)⟩ => x
def k1 : EV → EV
  | ⟨_, .inl _⟩ => .leaf 0
  | ⟨_, .inr (_, y)⟩ => y
set_option maxHeartbeats 1000000 in
set_option maxRecDepth 100000 in
theorem kid0_any (x : EV) (n : Int) (p : Option Addr) (l c : Nat) (w : World) (hx : Is w x (TV n p l c)) : Calls Try.prog 47 #[TV n p l c, .int .i64 0] w (Gives (k0 x) w) := by
  obtain ⟨b1, b2, hbel⟩ := two_box w n p l c 0 none 0 0 _ rfl
  have g1 := b1.cell1
  rcases x with ⟨m, _ | ⟨x, y⟩⟩
  · obtain ⟨_, _, e⟩ := hx
    simp at e
    obtain ⟨rfl, rfl, rfl, rfl⟩ := e
    have R := below_setRow hbel (g := w.heap.size + 1) (by omega) #[.int .i64 0, .slice none 0 0]
    clear hbel
    go_enter Try.func47, Try.ntmps47
    go_wp2_with (refine store_t rfl _ _ rfl _ 0 none 0 0 rfl rfl b2 ?_)
    exact bodyPost_ret (results_t rfl rfl (b2.row _ _ _ _)) rfl ⟨_, _, _, _, rfl, is_leaf _ _ _ _, R⟩
  · obtain ⟨g, o, cc, n0, p0, l0, c0, n1, p1, l1, c1, e, t0, t1, hx, hy⟩ := hx
    simp at e
    obtain ⟨rfl, rfl, rfl, rfl⟩ := e
    replace t0 := t0.later hbel
    have R := below_setRow hbel (g := w.heap.size + 1) (by omega) #[.int .i64 n0, .slice p0 l0 c0]
    have hI := (hx.later hbel).box b2 #[.int .i64 n0, .slice p0 l0 c0]
    clear hx hy hbel t1
    go_enter Try.func47, Try.ntmps47
    go_wp2_with (first | refine load_t _ rfl rfl _ _ rfl t0 ?_ | refine store_t rfl _ _ rfl _ n0 p0 l0 c0 rfl rfl b2 ?_)
    exact bodyPost_ret (results_t rfl rfl (b2.row _ _ _ _)) rfl ⟨_, _, _, _, rfl, hI, R⟩
set_option maxHeartbeats 1000000 in
set_option maxRecDepth 100000 in
theorem kid1_any (x : EV) (n : Int) (p : Option Addr) (l c : Nat) (w : World) (hx : Is w x (TV n p l c)) : Calls Try.prog 47 #[TV n p l c, .int .i64 1] w (Gives (k1 x) w) := by
  obtain ⟨b1, b2, hbel⟩ := two_box w n p l c 0 none 0 0 _ rfl
  have g1 := b1.cell1
  rcases x with ⟨m, _ | ⟨x, y⟩⟩
  · obtain ⟨_, _, e⟩ := hx
    simp at e
    obtain ⟨rfl, rfl, rfl, rfl⟩ := e
    have R := below_setRow hbel (g := w.heap.size + 1) (by omega) #[.int .i64 0, .slice none 0 0]
    clear hbel
    go_enter Try.func47, Try.ntmps47
    go_wp2_with (refine store_t rfl _ _ rfl _ 0 none 0 0 rfl rfl b2 ?_)
    exact bodyPost_ret (results_t rfl rfl (b2.row _ _ _ _)) rfl ⟨_, _, _, _, rfl, is_leaf _ _ _ _, R⟩
  · obtain ⟨g, o, cc, n0, p0, l0, c0, n1, p1, l1, c1, e, t0, t1, hx, hy⟩ := hx
    simp at e
    obtain ⟨rfl, rfl, rfl, rfl⟩ := e
    replace t1 := t1.later hbel
    have R := below_setRow hbel (g := w.heap.size + 1) (by omega) #[.int .i64 n1, .slice p1 l1 c1]
    have hI := (hy.later hbel).box b2 #[.int .i64 n1, .slice p1 l1 c1]
    clear hx hy hbel t0
    go_enter Try.func47, Try.ntmps47
    go_wp2_with (first | refine load_t _ rfl rfl _ _ rfl t1 ?_ | refine store_t rfl _ _ rfl _ n1 p1 l1 c1 rfl rfl b2 ?_)
    exact bodyPost_ret (results_t rfl rfl (b2.row _ _ _ _)) rfl ⟨_, _, _, _, rfl, hI, R⟩
end Go.Proofs.Ytlfbabepbajcjaa
