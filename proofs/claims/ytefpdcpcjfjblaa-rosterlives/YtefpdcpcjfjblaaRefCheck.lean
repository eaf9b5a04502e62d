/- Check of the document's answer, and what the missing dots are. -/
import Derived.Test.YtefpdcpcjfjblaaCheck
namespace Go.Proofs.Ytefpdcpcjfjblaa
open Go.RowKit

set_option maxHeartbeats 1000000 in
set_option maxRecDepth 100000 in
theorem refCheck_any (v : List Int) (w : World) (hv : v.length = 13) :
    Calls Try.prog 37 #[V v] w fun e w' => e = .returned (.bool (chk v)) ∧ Below w.heap.size w w' := by
  have HC : Hid (chk v = true ↔ v.getD 0 0 = 0 ∧ ∀ i, 1 ≤ i → i < 13 → 0 ≤ v.getD i 0 ∧ v.getD i 0 ≤ 1048576) := chk_iff hv
  have h1 := at_new w v hv
  have hbel : Below w.heap.size w (w.alloc (.cells (vals v).toArray 31)) := (Below.refl _ _).alloc (Nat.le_refl _) _
  clear hv
  go_enter Try.func37, Try.ntmps37
  go_wp2
  go_loopw [3] (fun vi wr => ∃ k : Nat, vi = .int .i64 k ∧ 1 ≤ k ∧ k ≤ 13 ∧ Hid (∀ i, 1 ≤ i → i < k → 0 ≤ v.getD i 0 ∧ v.getD i 0 ≤ 1048576) ∧ At wr w.heap.size v ∧ Below w.heap.size w wr) (fun vi _ => 13 - (intOf vi).toNat)
  case atStart => exact ⟨1, rfl, by omega, by omega, (show ∀ i, 1 ≤ i → i < 1 → _ from fun i h1 h2 => by omega), h1, hbel⟩
  case round =>
    obtain ⟨k, rfl, hk1, hk, HV, h2, hbel2⟩ := hrel
    clear h1 hbel
    by_cases hlt : k < 13
    · have c1 := h2.cell hlt
      have hi1 : (k : Int) ≤ 12 := by omega
      have hi2 : (k : Int) < 13 := by omega
      obtain ⟨y, HY⟩ : ∃ y, Hid (v.getD k 0 = y) := ⟨_, rfl⟩
      rw [HY.out] at c1
      by_cases hy : 0 ≤ y ∧ y ≤ 1048576
      · have HV2 : Hid (∀ i, 1 ≤ i → i < k + 1 → 0 ≤ v.getD i 0 ∧ v.getD i 0 ≤ 1048576) := by
          show ∀ i, 1 ≤ i → i < k + 1 → _
          intro i hi1 hi2
          by_cases hik : i = k
          · subst hik; rw [HY.out]; exact hy
          · exact HV.out i hi1 (by omega)
        obtain ⟨hy1, hy2⟩ := hy
        have hn1 : ¬ y < 0 := by omega
        have hn2 : ¬ (1048576 : Int) < y := by omega
        clear HV
        go_wp2
        go_roundw
        case rel => exact ⟨k + 1, by simp, by omega, by omega, HV2, h2, hbel2⟩
        case measure => simp [intOf]; omega
      · have HF : Hid (chk v = false) := by
          show _ = _
          cases e : chk v
          · rfl
          · exfalso
            have := (HC.out.1 e).2 k hk1 hlt
            rw [HY.out] at this
            exact hy this
        by_cases hy1 : y < 0
        · go_wp2
          go_ret
          exact ⟨by rw [HF.out]; rfl, hbel2⟩
        · have hy2 : (1048576 : Int) < y := by omega
          go_wp2
          go_ret
          exact ⟨by rw [HF.out]; rfl, hbel2⟩
    · have hk13 : k = 13 := by omega
      subst hk13
      have c0 := h2.cell (show 0 < 13 by omega)
      have HF : Hid (chk v = (v.getD 0 0 == 0)) := by
        show _ = _
        rw [Bool.eq_iff_iff, HC.out, beq_iff_eq]
        exact ⟨fun h => h.1, fun h => ⟨h, HV.out⟩⟩
      obtain ⟨y, HY⟩ : ∃ y, Hid (v.getD 0 0 = y) := ⟨_, rfl⟩
      rw [HY.out] at c0
      clear HV
      go_wp2
      go_ret
      refine ⟨?_, hbel2⟩
      rw [HF.out, HY.out]
      rfl

end Go.Proofs.Ytefpdcpcjfjblaa
