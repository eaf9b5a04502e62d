/- Check of the document's answer, and what the missing dots are. -/
import Derived.Test.YtbeehmcoeblbcaaDots
namespace Go.Proofs.Ytbeehmcoeblbcaa
open Go.RowKit

set_option maxHeartbeats 1000000 in
set_option maxRecDepth 100000 in
theorem refCheck_any (v : List Int) (w : World) (hv : v.length = 13) :
    Calls Try.prog 8 #[V v] w fun e w' => e = .returned (.bool (chk v)) ∧ Below w.heap.size w w' := by
  have HC : Hid (chk v = true ↔ v.getD 0 0 = 0 ∧ ∀ i, 1 ≤ i → i < 13 → 0 ≤ v.getD i 0 ∧ v.getD i 0 ≤ 1048576) := chk_iff hv
  have h1 := at_new w v hv
  have hbel : Below w.heap.size w (w.alloc (.cells (vals v).toArray 23)) := (Below.refl _ _).alloc (Nat.le_refl _) _
  clear hv
  go_enter Try.func8, Try.ntmps8
  go_wp2
  go_loopw [3] (fun vi wr => ∃ k : Nat, vi = .int .i64 k ∧ 1 ≤ k ∧ k ≤ 13 ∧ Hid (∀ i, 1 ≤ i → i < k → 0 ≤ v.getD i 0 ∧ v.getD i 0 ≤ 1048576) ∧ At wr w.heap.size v ∧ Below w.heap.size w wr) (fun vi _ => 13 - (intOf vi).toNat)
  case atStart => exact ⟨1, rfl, by omega, by omega, (show ∀ i, 1 ≤ i → i < 1 → _ from fun i h1 h2 => by omega), h1, hbel⟩
  case round =>
    obtain ⟨k, rfl, hk1, hk, HV, h2, hbel2⟩ := hrel
    clear h1 hbel
    by_cases hlt : k < 13
    · have c1 := h2.cell hlt
      have hi1 : (k : Int) ≤ 12 := by omega
      have hi2 : (k : Int) < 13 := by omega
      obtain ⟨y, HY⟩ : ∃ y, Hid (v.getD k 0 = y) := ⟨_, rfl⟩
      rw [HY.out] at c1
      by_cases hy : 0 ≤ y ∧ y ≤ 1048576
      · have HV2 : Hid (∀ i, 1 ≤ i → i < k + 1 → 0 ≤ v.getD i 0 ∧ v.getD i 0 ≤ 1048576) := by
          show ∀ i, 1 ≤ i → i < k + 1 → _
          intro i hi1 hi2
          by_cases hik : i = k
          · subst hik; rw [HY.out]; exact hy
          · exact HV.out i hi1 (by omega)
        obtain ⟨hy1, hy2⟩ := hy
        have hn1 : ¬ y < 0 := by omega
        have hn2 : ¬ (1048576 : Int) < y := by omega
        clear HV
        go_wp2
        go_roundw
        case rel => exact ⟨k + 1, by simp, by omega, by omega, HV2, h2, hbel2⟩
        case measure => simp [intOf]; omega
      · have HF : Hid (chk v = false) := by
          show _ = _
          cases e : chk v
          · rfl
          · exfalso
            have := (HC.out.1 e).2 k hk1 hlt
            rw [HY.out] at this
            exact hy this
        by_cases hy1 : y < 0
        · go_wp2
          go_ret
          exact ⟨by rw [HF.out]; rfl, hbel2⟩
        · have hy2 : (1048576 : Int) < y := by omega
          go_wp2
          go_ret
          exact ⟨by rw [HF.out]; rfl, hbel2⟩
    · have hk13 : k = 13 := by omega
      subst hk13
      have c0 := h2.cell (show 0 < 13 by omega)
      have HF : Hid (chk v = (v.getD 0 0 == 0)) := by
        show _ = _
        rw [Bool.eq_iff_iff, HC.out, beq_iff_eq]
        exact ⟨fun h => h.1, fun h => ⟨h, HV.out⟩⟩
      obtain ⟨y, HY⟩ : ∃ y, Hid (v.getD 0 0 = y) := ⟨_, rfl⟩
      rw [HY.out] at c0
      clear HV
      go_wp2
      go_ret
      refine ⟨?_, hbel2⟩
      rw [HF.out, HY.out]
      rfl

/-- What a vector becomes by these dots. -/
def acc (a : List Int) (l : List (Int × Int)) : List Int := l.foldl (fun v d => v.set d.1.toNat d.2) a
theorem acc_snoc (a : List Int) (l : List (Int × Int)) (d : Int × Int) : acc a (l ++ [d]) = (acc a l).set d.1.toNat d.2 := by simp [acc]
theorem acc_length {a : List Int} (ha : a.length = 13) (l : List (Int × Int)) : (acc a l).length = 13 := by
  unfold acc
  induction l generalizing a with
  | nil => exact ha
  | cons d l ih => exact ih (by rw [List.length_set]; exact ha)

/-- The k-th dot is the next one, is there and was not, and its peer is not below the one ahead of it. -/
def Good (a b : List Int) (l : List (Int × Int)) (k : Nat) (h : k < l.length) : Prop :=
  1 ≤ l[k].1 ∧ l[k].1 ≤ 12 ∧ l[k].2 = (acc a (l.take k)).getD l[k].1.toNat 0 + 1 ∧ a.getD l[k].1.toNat 0 < l[k].2 ∧ l[k].2 ≤ b.getD l[k].1.toNat 0 ∧ ∀ m (hm : m < l.length), m + 1 = k → l[m].1 ≤ l[k].1

/-- What holds while the dots are told: K the peer at hand, j how many of its are told. -/
structure Told (a b : List Int) (l : List (Int × Int)) (K j : Nat) : Prop where
  good : ∀ k h, Good a b l k h
  rest : ∀ q, K < q → (acc a l).getD q 0 = a.getD q 0
  here : (acc a l).getD K 0 = a.getD K 0 + (j : Int)
  below : ∀ d ∈ l, d.1 ≤ (K : Int)
  full : l.length < 4096 → ∀ q, q < K → (acc a l).getD q 0 = max (a.getD q 0) (b.getD q 0)

theorem Told.snoc {a b : List Int} (ha : a.length = 13) {l : List (Int × Int)} {K j : Nat} (h : Told a b l K j) (hK1 : 1 ≤ K) (hK : K ≤ 12) (hj : a.getD K 0 + (j : Int) + 1 ≤ b.getD K 0) :
    Told a b (l ++ [((K : Int), a.getD K 0 + 1 + (j : Int))]) K (j + 1) := by
  have hal := acc_length ha l
  have hset : ∀ q, (acc a (l ++ [((K : Int), a.getD K 0 + 1 + (j : Int))])).getD q 0 = if q = K then a.getD K 0 + 1 + (j : Int) else (acc a l).getD q 0 := fun q => by
    rw [acc_snoc]
    exact set_at _ _ _ (by simp [hal]; omega) q
  refine ⟨fun k hk => ?_, fun q hq => ?_, ?_, fun d hd => ?_, fun hlen q hq => ?_⟩
  · by_cases hlt : k < l.length
    · have := h.good k hlt
      unfold Good at *
      simp only [List.getElem_append_left hlt, List.take_append_of_le_length (Nat.le_of_lt hlt)]
      obtain ⟨g1, g2, g3, g4, g5, g6⟩ := this
      refine ⟨g1, g2, g3, g4, g5, fun m hm e => ?_⟩
      have hm' : m < l.length := by omega
      simp only [List.getElem_append_left hm']
      exact g6 m hm' e
    · have hkl : k = l.length := by simp at hk; omega
      subst hkl
      unfold Good
      simp only [List.getElem_concat_length, List.take_left']
      refine ⟨by omega, by omega, ?_, ?_, ?_, fun m hm e => ?_⟩
      · show a.getD K 0 + 1 + (j : Int) = (acc a l).getD ((K : Int)).toNat 0 + 1
        rw [show ((K : Int)).toNat = K by omega, h.here]
        omega
      · show a.getD ((K : Int)).toNat 0 < a.getD K 0 + 1 + (j : Int)
        rw [show ((K : Int)).toNat = K by omega]
        omega
      · show a.getD K 0 + 1 + (j : Int) ≤ b.getD ((K : Int)).toNat 0
        rw [show ((K : Int)).toNat = K by omega]
        omega
      · have hm' : m < l.length := by omega
        simp only [List.getElem_append_left hm']
        exact h.below _ (List.getElem_mem hm')
  · rw [hset, if_neg (by omega)]
    exact h.rest q hq
  · rw [hset, if_pos rfl]
    omega
  · rcases List.mem_append.1 hd with hd | hd
    · exact h.below d hd
    · simp at hd
      subst hd
      exact Int.le_refl _
  · rw [hset, if_neg (by omega)]
    exact h.full (by simp at hlen; omega) q hq

theorem Told.run {a b : List Int} (ha : a.length = 13) {l : List (Int × Int)} {K : Nat} (h : Told a b l K 0) (hK1 : 1 ≤ K) (hK : K ≤ 12) : ∀ c : Nat, (0 < c → a.getD K 0 + (c : Int) ≤ b.getD K 0) → Told a b (l ++ run K (a.getD K 0) c) K c
  | 0, _ => by simpa [Ytbeehmcoeblbcaa.run] using h
  | c + 1, hc => by
    have hc' := hc (by omega)
    have := (Told.run ha h hK1 hK c (fun _ => by omega)).snoc ha hK1 hK (by omega)
    rw [List.append_assoc, ← run_succ] at this
    exact this

theorem Told.next {a b : List Int} {l : List (Int × Int)} {K j : Nat} (h : Told a b l K j) (hj : l.length < 4096 → a.getD K 0 + (j : Int) = max (a.getD K 0) (b.getD K 0)) : Told a b l (K + 1) 0 := by
  refine ⟨h.good, fun q hq => h.rest q (by omega), by rw [h.rest (K + 1) (by omega)]; simp, fun d hd => by have := h.below d hd; omega, fun hlen q hq => ?_⟩
  by_cases hqK : q = K
  · subst hqK
    rw [h.here, hj hlen]
  · exact h.full hlen q (by omega)

theorem told_ms {a b : List Int} (ha : a.length = 13) (hb : b.length = 13) (hca : chk a = true) (hcb : chk b = true) : ∀ K, K ≤ 13 → Told a b (ms a b K) K 0
  | 0, _ => ⟨fun k hk => by simp [ms] at hk, fun q _ => rfl, by simp [ms, acc], fun d hd => by simp [ms] at hd, fun _ q hq => by omega⟩
  | K + 1, hK => by
    have ih := told_ms ha hb hca hcb K (by omega)
    have a0 := ((chk_iff ha).1 hca).1
    have b0 := ((chk_iff hb).1 hcb).1
    have hlen := ms_length a b K
    rw [ms]
    by_cases hK0 : K = 0
    · subst hK0
      have hz : (min (b.getD 0 0 - a.getD 0 0) (4096 - ((ms a b 0).length : Int))).toNat = 0 := by omega
      rw [hz]
      have : ms a b 0 ++ Ytbeehmcoeblbcaa.run 0 (a.getD 0 0) 0 = ms a b 0 := by simp [Ytbeehmcoeblbcaa.run]
      rw [this]
      exact ih.next (fun _ => by rw [a0, b0]; rfl)
    · refine (ih.run ha (by omega) (by omega) _ (fun _ => by omega)).next (fun hl => ?_)
      rw [List.length_append, run_length] at hl
      omega

theorem ms_good {a b : List Int} (ha : a.length = 13) (hb : b.length = 13) (hca : chk a = true) (hcb : chk b = true) (k : Nat) (h : k < (ms a b 13).length) : Good a b (ms a b 13) k h := (told_ms ha hb hca hcb 13 (by omega)).good k h
theorem ms_full {a b : List Int} (ha : a.length = 13) (hb : b.length = 13) (hca : chk a = true) (hcb : chk b = true) (h : (ms a b 13).length < 4096) : acc a (ms a b 13) = jn a b :=
  ext13 (acc_length ha _) (jn_length ha hb) fun i hi => by rw [(told_ms ha hb hca hcb 13 (by omega)).full h i hi, jn_at ha hb i hi]
theorem acc_take {a : List Int} {l : List (Int × Int)} {k : Nat} (h : k < l.length) : acc a (l.take (k + 1)) = (acc a (l.take k)).set l[k].1.toNat l[k].2 := by
  rw [List.take_succ_eq_append_getElem h, acc_snoc]

end Go.Proofs.Ytbeehmcoeblbcaa
