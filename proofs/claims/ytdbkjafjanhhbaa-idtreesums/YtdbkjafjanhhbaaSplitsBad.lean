/- The walk of IdtreeSplits where nothing is split; and all of it. -/
import Derived.Test.YtdbkjafjanhhbaaSplits
namespace Go.Proofs.Ytdbkjafjanhhbaa
open Go.RowKit

set_option maxHeartbeats 8000000 in
set_option maxRecDepth 100000 in
theorem splits_bad (w : World) (m r : Int) (a b : ID) (kt : Bool) (s : Nat) (hr : ¬ r = 0) (HC : Hid (kt = false ∨ s = 0 ∨ r = 40)) (n : Int) (p : Option Addr) (l c : Nat)
    (rF : ∀ w1, Below w.heap.size w w1 → Calls Try.prog 7 #[TV n p l c] w1 fun e w' => ∃ b : Bool, e = .returned (.bool b) ∧ Below w1.heap.size w1 w')
    (rC : ∀ w1, Below w.heap.size w w1 → Calls Try.prog 15 #[TV n p l c] w1 fun e w' => e = .returned (.bool kt) ∧ Below w1.heap.size w1 w')
    (rH : ∀ w1, Below w.heap.size w w1 → Calls Try.prog 22 #[TV n p l c] w1 fun e w' => e = .returned (.int .i64 s) ∧ Below w1.heap.size w1 w')
    (rP : ∀ w1, Below w.heap.size w w1 → Calls Try.prog 11 #[TV n p l c] w1 (GivesTE a b r w1)) :
    Calls Try.prog 4 #[TV n p l c, .int .i64 m] w fun e w' => e = .returned (.bool true) ∧ Below w.heap.size w w' := by
  obtain ⟨h1, hbel⟩ := one_box w n p l c _ rfl
  go_enter Try.func4, Try.ntmps4
  go_wp2_with (refine load_t _ rfl rfl _ _ rfl h1.tat ?_)
  refine (rF _ hbel).mono ?_
  rintro e w1 ⟨few, rfl, hb1⟩
  replace h1 := h1.later hb1
  replace hbel := below_on hbel hb1
  clear hb1 rF
  cases few
  · clear rP rC rH
    go_wp2_with fail
    refine (heads_any _).mono ?_
    rintro e w2 ⟨rfl, hb1⟩
    go_wp2
    go_ret
    exact ⟨rfl, below_on hbel hb1⟩
  · go_wp2_with (refine load_t _ rfl rfl _ _ rfl h1.tat ?_)
    refine (rP _ hbel).mono ?_
    rintro e w2 ⟨na, pa, la, ca, nb, pb, lb, cb, rfl, ia, ib, hb1⟩
    replace h1 := h1.later hb1
    replace hbel := below_on hbel hb1
    clear hb1 rP ia ib
    have m0 := two_new0 w2
    have m1 := two_new1 w2 na pa la ca
    obtain ⟨ba, bb, hb1⟩ := two_new w2 na pa la ca nb pb lb cb _ rfl
    generalize hw : (((w2.alloc (.cells #[.int .i64 0, .slice none 0 0] 24)).alloc (.cells #[.int .i64 0, .slice none 0 0] 24)).setRow w2.heap.size #[.int .i64 na, .slice pa la ca]).setRow (w2.heap.size + 1) #[.int .i64 nb, .slice pb lb cb] = v2 at ba bb hb1
    replace h1 := h1.later hb1
    replace hbel := below_on hbel hb1
    clear hb1 ba bb
    go_wp2_with (first | rw [hw] | refine store_t rfl _ _ rfl _ na pa la ca rfl rfl m0 ?_ | refine store_t rfl _ _ rfl _ nb pb lb cb rfl rfl m1 ?_ | refine load_t _ rfl rfl _ _ rfl h1.tat ?_)
    clear m0 m1 hw
    refine (rC _ hbel).mono ?_
    rintro e w3 ⟨rfl, hb1⟩
    replace h1 := h1.later hb1
    replace hbel := below_on hbel hb1
    clear hb1 rC
    cases kt
    · clear rH h1 hr
      go_wp2_with fail
      refine (heads_any _).mono ?_
      rintro e w4 ⟨rfl, hb1⟩
      go_wp2
      go_ret
      exact ⟨rfl, below_on hbel hb1⟩
    · go_wp2_with (refine load_t _ rfl rfl _ _ rfl h1.tat ?_)
      refine (rH _ hbel).mono ?_
      rintro e w4 ⟨rfl, hb1⟩
      replace hbel := below_on hbel hb1
      clear hb1 rH h1 hr
      by_cases hs : s = 0
      · subst hs
        clear HC
        go_wp2_with fail
        refine (heads_any _).mono ?_
        rintro e w5 ⟨rfl, hb1⟩
        go_wp2
        go_ret
        exact ⟨rfl, below_on hbel hb1⟩
      · obtain rfl : r = 40 := by
          rcases HC.out with h | h | h
          · cases h
          · exact absurd h hs
          · exact h
        have hs2 : ((s : Int) == 0) = false := by simpa using hs
        clear HC hs
        go_wp2_with fail
        refine (heads_any _).mono ?_
        rintro e w5 ⟨rfl, hb1⟩
        go_wp2
        go_ret
        exact ⟨rfl, below_on hbel hb1⟩

theorem splits_any (t : Tr) (m : Int) (n : Int) (p : Option Addr) (l c : Nat) (w : World) (ht : Lies w t (TV n p l c)) :
    Calls Try.prog 4 #[TV n p l c, .int .i64 m] w fun e w' => e = .returned (.bool true) ∧ Below w.heap.size w w' := by
  have rF := fun w1 (hb : Below w.heap.size w w1) => few_any t n p l c w1 (ht.later hb)
  have rC := fun w1 (hb : Below w.heap.size w w1) => check_tr t n p l c w1 (ht.later hb)
  have rH := fun w1 (hb : Below w.heap.size w w1) => share_tr t n p l c w1 (ht.later hb)
  have rP := fun w1 (hb : Below w.heap.size w w1) => split_tr t n p l c w1 (ht.later hb)
  cases hk : okT t
  · refine splits_bad w m (splE t) (splA t) (splB t) (okT t) (shareT t) ?_ (.inl hk) n p l c rF rC rH rP
    simp [splE, hk]
  · have hx := okT_ok ht hk
    obtain ⟨hd, hs⟩ := ok_parts hx
    cases hn : nil (idOf t)
    · cases hh : ok (halve (idOf t)).1 && ok (halve (idOf t)).2
      · refine splits_bad w m (splE t) (splA t) (splB t) (okT t) (shareT t) ?_ (.inr (.inr ?_)) n p l c rF rC rH rP
        · simp [splE, hk, hn, hh]
        · simp [splE, hk, hn, hh]
      · have eA : splA t = (halve (idOf t)).1 := by rw [splA, hk, hn, Bool.not_false, Bool.true_and, Bool.true_and, hh, if_pos rfl]
        have eB : splB t = (halve (idOf t)).2 := by rw [splB, hk, hn, Bool.not_false, Bool.true_and, Bool.true_and, hh, if_pos rfl]
        have eE : splE t = 0 := by simp [splE, hk, hn, hh]
        rw [eA, eB, eE] at rP
        rw [Bool.and_eq_true] at hh
        have hnn := halve_nil _ hs hn
        exact splits_good w m (idOf t) _ _ _ _ _ _ _ _ (good m (idOf t) _ _ hx hh.1 hh.2 (halve_sum _ hs hn) hnn.1 hnn.2) n p l c (is_ok ht hk) rF rP
    · refine splits_bad w m (splE t) (splA t) (splB t) (okT t) (shareT t) ?_ (.inr (.inl ?_)) n p l c rF rC rH rP
      · simp [splE, hk, hn]
      · rw [shareT, hk, nil_iff.1 hn]
        rfl
end Go.Proofs.Ytdbkjafjanhhbaa
