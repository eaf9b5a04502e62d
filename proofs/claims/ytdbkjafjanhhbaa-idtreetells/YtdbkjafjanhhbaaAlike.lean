/- The function alike of package idtree at two kids. -/
import Derived.Test.YtdbkjafjanhhbaaSmall
namespace Go.Proofs.Ytdbkjafjanhhbaa
open Go.RowKit

abbrev same45 : Value := .func (.func 45) #[] #[]

/-- A new box, and what it holds then. -/
theorem new_box (w : World) (n : Int) (p : Option Addr) (l c : Nat) : Bx ((w.alloc (.cells #[.int .i64 0, .slice none 0 0] 24)).setRow w.heap.size #[.int .i64 n, .slice p l c]) w.heap.size n p l c := (bx_new w 0 none 0 0).row n p l c
theorem new_below (w : World) (n : Int) (p : Option Addr) (l c : Nat) : Below w.heap.size w ((w.alloc (.cells #[.int .i64 0, .slice none 0 0] 24)).setRow w.heap.size #[.int .i64 n, .slice p l c]) :=
  below_setRow ((Below.refl _ _).alloc (Nat.le_refl _) _) (Nat.le_refl _) _

set_option maxHeartbeats 1000000 in
set_option maxRecDepth 100000 in
theorem alike_any (g o c : Nat) (n0 : Int) (p0 : Option Addr) (l0 c0 : Nat) (n1 : Int) (p1 : Option Addr) (l1 c1 : Nat) (w : World) (h0 : Tat w g o n0 p0 l0 c0) (h1 : Tat w g (o + 2) n1 p1 l1 c1) :
    Calls Try.prog 44 #[.slice (some ⟨g, o, none⟩) 2 c, same45] w fun e w' => e = .returned (.bool (decide (l0 = 0) && decide (l1 = 0) && n0 == n1)) ∧ Below w.heap.size w w' := by
  go_enter Try.func44, Try.ntmps44
  go_wp2
  go_loopw [9] (fun vi wr => ∃ k : Nat, vi = .int .i64 k ∧ k ≤ 2 ∧ Hid (1 ≤ k → l0 = 0) ∧ Hid (2 ≤ k → (decide (l0 = 0) && decide (l1 = 0) && n0 == n1) = true) ∧ Below w.heap.size w wr) (fun vi _ => 2 - (intOf vi).toNat)
  case atStart => exact ⟨0, rfl, by omega, (show 1 ≤ 0 → _ from fun h => by omega), (show 2 ≤ 0 → _ from fun h => by omega), Below.refl _ _⟩
  case round =>
    obtain ⟨k, rfl, hk, H1, H2, hbel⟩ := hrel
    by_cases hlt : k < 2
    · obtain ⟨n, p, l, cc, ht, HS⟩ : ∃ n p l cc, Tat w g (o + k * 2) n p l cc ∧ Hid ((k = 0 ∧ n = n0 ∧ l = l0) ∨ (k = 1 ∧ n = n1 ∧ l = l1)) := by
        match k, hlt with
        | 0, _ => exact ⟨n0, p0, l0, c0, by simpa using h0, .inl ⟨rfl, rfl, rfl⟩⟩
        | 1, _ => exact ⟨n1, p1, l1, c1, by simpa using h1, .inr ⟨rfl, rfl, rfl⟩⟩
      have t0 := (h0.later hbel).later (new_below wr n p l cc)
      have hx := new_box wr n p l cc
      have hbel2 := below_on hbel (new_below wr n p l cc)
      replace ht := ht.later hbel
      have hi1 : (k : Int) < 2 := by omega
      have hC := sameLeaf_any n0 p0 l0 c0 n p l cc
      obtain ⟨r, HR⟩ : ∃ r, Hid ((decide (l0 = 0) && decide (l = 0) && n0 == n) = r) := ⟨_, rfl⟩
      rw [HR.out] at hC
      clear h0 h1 hbel
      have hs : Calm.Stays (fun w' => Tat w' g o n0 p0 l0 c0 ∧ Tat w' wr.heap.size 0 n p l cc ∧ Below w.heap.size w w') := fun w1 w2 h hb => ⟨h.1.later hb, h.2.1.later hb, below_on h.2.2 hb⟩
      go_wp2_with (first | refine load_t _ rfl rfl _ _ rfl ht ?_ | refine store_t rfl _ _ rfl _ n p l cc rfl rfl (bx_new wr 0 none 0 0) ?_)
      refine Calm.region (by kernel_rfl) (by kernel_rfl) (fun w' => Tat w' g o n0 p0 l0 c0 ∧ Tat w' wr.heap.size 0 n p l cc ∧ Below w.heap.size w w') ⟨t0, hx.tat, hbel2.drew⟩ ?_
      refine Calm.pure (v := ?_) (by rfl) ?_ ?_
      rotate_left
      focus (intro w hSw; go_simp <;> rfl)
      simp only [Act.put, List.setIfInBounds_toArray, List.set_cons_zero, List.set_cons_succ]
      refine Calm.pure (v := ?_) (by rfl) ?_ ?_
      rotate_left
      focus (intro w hSw; go_simp <;> rfl)
      simp only [Act.put, List.setIfInBounds_toArray, List.set_cons_zero, List.set_cons_succ]
      refine Calm.pure (v := ?_) (by rfl) ?_ ?_
      rotate_left
      focus (intro w hSw; go_simp <;> rfl)
      simp only [Act.put, List.setIfInBounds_toArray, List.set_cons_zero, List.set_cons_succ]
      refine Calm.loadT (by rfl) _ rfl rfl (fun _ h => by go_split_ands; assumption) ?_
      simp only [Act.put, List.setIfInBounds_toArray, List.set_cons_zero, List.set_cons_succ]
      refine Calm.loadT (by rfl) _ rfl rfl (fun _ h => by go_split_ands; assumption) ?_
      simp only [Act.put, List.setIfInBounds_toArray, List.set_cons_zero, List.set_cons_succ]
      refine Calm.call (f := 45) (args := #[TV n0 p0 l0 c0, TV n p l cc]) (by rfl) ?_ (fun w1 hS1 => (hC w1).mono fun e w2 he => ⟨he.1, hs _ _ hS1 he.2⟩) ?_
      focus (intro w1; unfold execOp; simp [go_sem, Act.eval, Calm.enters_run (P := Try.prog) (f := 45) (by kernel_rfl)])
      simp only [Act.put, List.setIfInBounds_toArray, List.set_cons_zero, List.set_cons_succ]
      refine Calm.pure (v := ?_) (by rfl) ?_ ?_
      rotate_left
      focus (intro w hSw; go_simp <;> rfl)
      simp only [Act.put, List.setIfInBounds_toArray, List.set_cons_zero, List.set_cons_succ]
      rintro w9 ⟨_, _, hbel9⟩
      cases r
      · have HF : Hid ((decide (l0 = 0) && decide (l1 = 0) && n0 == n1) = false) := by
          show _ = _
          have h2 := HR.out
          rcases HS.out with ⟨_, rfl, rfl⟩ | ⟨_, rfl, rfl⟩
          · simp at h2
            simp [h2]
          · exact h2
        go_wp2
        go_ret
        exact ⟨by rw [HF.out]; rfl, hbel9⟩
      · have HA : Hid (1 ≤ k + 1 → l0 = 0) := show _ → _ from fun _ => by have h2 := HR.out; simp at h2; exact h2.1.1
        have HB : Hid (2 ≤ k + 1 → (decide (l0 = 0) && decide (l1 = 0) && n0 == n1) = true) := show _ → _ from fun h => by
          have h2 := HR.out
          rcases HS.out with ⟨h3, rfl, rfl⟩ | ⟨_, rfl, rfl⟩
          · omega
          · exact h2
        go_wp2
        go_roundw
        case rel => exact ⟨k + 1, by simp, by omega, HA, HB, hbel9⟩
        case measure => simp [intOf]; omega
    · have hk : k = 2 := by omega
      subst hk
      have HF : Hid ((decide (l0 = 0) && decide (l1 = 0) && n0 == n1) = true) := H2.out (by omega)
      go_wp2
      go_ret
      exact ⟨by rw [HF.out]; rfl, hbel⟩
end Go.Proofs.Ytdbkjafjanhhbaa
