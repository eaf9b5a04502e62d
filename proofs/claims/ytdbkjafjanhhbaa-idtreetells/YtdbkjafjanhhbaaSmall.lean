/- The small functions of package idtree: isLeaf, isNothing, sameLeaf, leaf. -/
import Derived.Test.YtdbkjafjanhhbaaBase
namespace Go.Proofs.Ytdbkjafjanhhbaa
open Go.RowKit

theorem one_box (w : World) (n : Int) (p : Option Addr) (l c : Nat) : ∀ w0, w0 = w.alloc (.cells #[.int .i64 n, .slice p l c] 24) → Bx w0 w.heap.size n p l c ∧ Below w.heap.size w w0 := by
  rintro w0 rfl
  exact ⟨bx_new w n p l c, (Below.refl _ _).alloc (Nat.le_refl _) _⟩
theorem two_box (w : World) (n : Int) (p : Option Addr) (l c : Nat) (n' : Int) (p' : Option Addr) (l' c' : Nat) : ∀ w0, w0 = (w.alloc (.cells #[.int .i64 n, .slice p l c] 24)).alloc (.cells #[.int .i64 n', .slice p' l' c'] 24) → Bx w0 w.heap.size n p l c ∧ Bx w0 (w.heap.size + 1) n' p' l' c' ∧ Below w.heap.size w w0 := by
  rintro w0 rfl
  exact ⟨(bx_new w n p l c).alloc _, bx_next _ (by simp) n' p' l' c', ((Below.refl _ _).alloc (Nat.le_refl _) _).alloc (by simp) _⟩
theorem three_box (w : World) (n : Int) (p : Option Addr) (l c : Nat) (n' : Int) (p' : Option Addr) (l' c' : Nat) (n'' : Int) (p'' : Option Addr) (l'' c'' : Nat) : ∀ w0, w0 = ((w.alloc (.cells #[.int .i64 n, .slice p l c] 24)).alloc (.cells #[.int .i64 n', .slice p' l' c'] 24)).alloc (.cells #[.int .i64 n'', .slice p'' l'' c''] 24) → Bx w0 w.heap.size n p l c ∧ Bx w0 (w.heap.size + 1) n' p' l' c' ∧ Bx w0 (w.heap.size + 1 + 1) n'' p'' l'' c'' ∧ Below w.heap.size w w0 := by
  rintro w0 rfl
  exact ⟨((bx_new w n p l c).alloc _).alloc _, (bx_next _ (by simp) n' p' l' c').alloc _, bx_next _ (by simp) n'' p'' l'' c'', (((Below.refl _ _).alloc (Nat.le_refl _) _).alloc (by simp) _).alloc (by simp; omega) _⟩

set_option maxRecDepth 100000 in
theorem isLeaf_any (n : Int) (p : Option Addr) (l c : Nat) (w : World) :
    Calls Try.prog 37 #[TV n p l c] w fun e w' => e = .returned (.bool (decide (l = 0))) ∧ Below w.heap.size w w' := by
  obtain ⟨h1, hbel⟩ := one_box w n p l c _ rfl
  have c1 := h1.cell1
  go_enter Try.func37, Try.ntmps37
  go_wp2
  go_ret
  refine ⟨?_, hbel⟩
  have : ((l : Int) == 0) = decide (l = 0) := by
    rw [Bool.eq_iff_iff]; simp
  simp [this]

set_option maxRecDepth 100000 in
theorem isNothing_any (n : Int) (p : Option Addr) (l c : Nat) (w : World) :
    Calls Try.prog 29 #[TV n p l c] w fun e w' => e = .returned (.bool (decide (l = 0) && n == 0)) ∧ Below w.heap.size w w' := by
  obtain ⟨h1, hbel⟩ := one_box w n p l c _ rfl
  have hC := isLeaf_any n p l c
  generalize decide (l = 0) = x at hC ⊢
  go_enter Try.func29, Try.ntmps29
  go_wp2_with (refine load_t _ rfl rfl _ _ rfl h1.tat ?_)
  refine (hC _).mono ?_
  rintro e w1 ⟨rfl, hb1⟩
  have h2 := h1.later hb1
  have c0 := h2.cell0
  replace hbel := below_on hbel hb1
  cases x
  · go_wp2
    go_ret
    exact ⟨by simp, hbel⟩
  · go_wp2
    go_ret
    exact ⟨by simp, hbel⟩

set_option maxRecDepth 100000 in
theorem sameLeaf_any (n : Int) (p : Option Addr) (l c : Nat) (n' : Int) (p' : Option Addr) (l' c' : Nat) (w : World) :
    Calls Try.prog 45 #[TV n p l c, TV n' p' l' c'] w fun e w' => e = .returned (.bool (decide (l = 0) && decide (l' = 0) && n == n')) ∧ Below w.heap.size w w' := by
  obtain ⟨h1, h2, hbel⟩ := two_box w n p l c n' p' l' c' _ rfl
  have hC := isLeaf_any n p l c
  have hC' := isLeaf_any n' p' l' c'
  generalize decide (l = 0) = x at hC ⊢
  generalize decide (l' = 0) = y at hC' ⊢
  go_enter Try.func45, Try.ntmps45
  go_wp2_with (refine load_t _ rfl rfl _ _ rfl h1.tat ?_)
  refine (hC _).mono ?_
  rintro e w1 ⟨rfl, hb1⟩
  replace h1 := h1.later hb1
  replace h2 := h2.later hb1
  replace hbel := below_on hbel hb1
  clear hb1
  cases x
  · go_wp2
    go_ret
    exact ⟨by simp, hbel⟩
  · go_wp2_with (refine load_t _ rfl rfl _ _ rfl h2.tat ?_)
    refine (hC' _).mono ?_
    rintro e w2 ⟨rfl, hb1⟩
    replace h1 := (h1.later hb1).cell0
    replace h2 := (h2.later hb1).cell0
    replace hbel := below_on hbel hb1
    clear hb1
    cases y
    · go_wp2
      go_ret
      exact ⟨by simp, hbel⟩
    · go_wp2
      go_ret
      exact ⟨by simp, hbel⟩

set_option maxRecDepth 100000 in
theorem leaf_any (n : Int) (w : World) :
    Calls Try.prog 40 #[.int .i64 n] w fun e w' => e = .returned (TV n none 0 0) ∧ Below w.heap.size w w' := by
  obtain ⟨h1, hbel⟩ := one_box w 0 none 0 0 _ rfl
  go_enter Try.func40, Try.ntmps40
  go_wp2_with (refine store_t rfl _ _ rfl _ n none 0 0 rfl rfl h1 ?_)
  exact bodyPost_ret (results_t rfl rfl (h1.row n none 0 0)) rfl ⟨rfl, below_setRow hbel (Nat.le_refl _) _⟩
end Go.Proofs.Ytdbkjafjanhhbaa
