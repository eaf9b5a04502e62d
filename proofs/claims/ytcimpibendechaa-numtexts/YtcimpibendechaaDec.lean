/- The function Dec of package num answers the decimal numeral of its number, and turns nothing that was there. -/
import Derived.Test.YtcimpibendechaaText
namespace Go.Proofs.Ytcimpibendechaa
open Go.RowKit

/-- What the row holds behind k rounds: noughts, and the last k digits. -/
def fil (D : List UInt8) (k : Nat) : List Value := List.replicate (D.length - k) (.int .u8 0) ++ cel (D.drop (D.length - k))

theorem fil_length (D : List UInt8) (k : Nat) : (fil D k).length = D.length := by
  simp [fil, cel]

theorem fil_zero (D : List UInt8) : fil D 0 = List.replicate D.length (.int .u8 0) := by simp [fil, cel]

theorem fil_all (D : List UInt8) : fil D D.length = cel D := by simp [fil]

theorem fil_step (D : List UInt8) (k : Nat) (hk : k < D.length) : (fil D k).set (D.length - 1 - k) (.int .u8 (D[D.length - 1 - k]'(by omega)).toNat) = fil D (k + 1) := by
  unfold fil
  have e1 : D.length - k = (D.length - 1 - k) + 1 := by omega
  have e2 : D.length - (k + 1) = D.length - 1 - k := by omega
  rw [e2, e1, List.replicate_succ', List.append_assoc, List.set_append_right _ _ (by simp)]
  simp only [List.length_replicate, Nat.sub_self]
  congr 1
  have e3 : D.drop (D.length - 1 - k) = D[D.length - 1 - k]'(by omega) :: D.drop (D.length - 1 - k + 1) := List.drop_eq_getElem_cons (by omega)
  rw [e3]
  rfl

theorem fil_at (D : List UInt8) (k : Nat) (hk : k < D.length) : (fil D k)[D.length - 1 - k]? = some (.int .u8 0) := by
  unfold fil
  rw [List.getElem?_append_left (by rw [List.length_replicate]; omega), List.getElem?_replicate, if_pos (by omega)]

/-- The digit that the k-th round lays. -/
theorem dig_at (M k : Nat) (hk : k < Lib.nDigits M) : ((Lib.decDigits M)[(Lib.decDigits M).length - 1 - k]'(by rw [Lib.decDigits_length]; omega)).toNat = 48 + M / 10 ^ k % 10 := by
  have h1 : (Lib.decDigits M)[(Lib.decDigits M).length - 1 - k]? = some (Lib.dg M k) := by
    rw [Lib.decDigits_length]
    conv => lhs; rw [Lib.decDigits_eq]
    rw [List.getElem?_map, List.getElem?_range (by omega)]
    simp only [Option.map_some, Option.some.injEq]
    congr 1
    omega
  have h2 := (List.getElem?_eq_some_iff.1 h1).2
  rw [h2]
  unfold Lib.dg
  have : 48 + M / 10 ^ k % 10 < 256 := by omega
  rw [UInt8.toNat_ofNat']
  omega

theorem neg_u64 (n : Int) (h0 : -9223372036854775808 ≤ n) (hn : n < 0) : IntKind.u64.wrap (-IntKind.u64.wrap n) = ((n.natAbs : Nat) : Int) := by
  rw [IntKind.wrap_u64, IntKind.wrap_u64]; omega

theorem fil_stored {w wr : World} {M k : Nat} (hk : k < Lib.nDigits M) (hown : wr.ownsRow w.heap.size 5 1 (.slice (some ⟨w.heap.size, 0, none⟩) (Lib.nDigits M) (Lib.nDigits M)) (Lib.nDigits M) (fil (Lib.decDigits M) k)) (z : Int) (hz : z = ((48 + M / 10 ^ k % 10 : Nat) : Int)) :
    (wr.setCell ⟨w.heap.size, Lib.nDigits M - 1 - k, none⟩ (.int .u8 z)).ownsRow w.heap.size 5 1 (.slice (some ⟨w.heap.size, 0, none⟩) (Lib.nDigits M) (Lib.nDigits M)) (Lib.nDigits M) (fil (Lib.decDigits M) (k + 1)) := by
  have h := hown.stored (Lib.nDigits M - 1 - k) (.int .u8 z)
  have hs := fil_step (Lib.decDigits M) k (by rw [Lib.decDigits_length]; exact hk)
  rw [dig_at M k hk, Lib.decDigits_length] at hs
  rw [← hs, hz.symm]
  exact h.1

theorem fil_cell {w wr : World} {M k : Nat} (hk : k < Lib.nDigits M) (hown : wr.ownsRow w.heap.size 5 1 (.slice (some ⟨w.heap.size, 0, none⟩) (Lib.nDigits M) (Lib.nDigits M)) (Lib.nDigits M) (fil (Lib.decDigits M) k)) :
    wr.cell? ⟨w.heap.size, Lib.nDigits M - 1 - k, none⟩ = some (.int .u8 0) := by
  have h := fil_at (Lib.decDigits M) k (by rw [Lib.decDigits_length]; exact hk)
  rw [Lib.decDigits_length] at h
  rw [hown.cellAt _ (by omega), h]

theorem fil_string {w wr : World} {M : Nat} (hown : wr.ownsRow w.heap.size 5 1 (.slice (some ⟨w.heap.size, 0, none⟩) (Lib.nDigits M) (Lib.nDigits M)) (Lib.nDigits M) (fil (Lib.decDigits M) (Lib.nDigits M))) :
    (convert 22 9 (.slice (some ⟨w.heap.size, 0, none⟩) (Lib.nDigits M) (Lib.nDigits M))).run Try.prog wr = .ok (.string ⟨(Lib.decDigits M).toArray⟩) wr := by
  have e : fil (Lib.decDigits M) (Lib.nDigits M) = cel (Lib.decDigits M) := by rw [← Lib.decDigits_length, fil_all]
  rw [e] at hown
  have h2 : wr.ownsRow w.heap.size 5 1 (.slice (some ⟨w.heap.size, 0, none⟩) (Lib.nDigits M) (Lib.nDigits M)) (Lib.decDigits M).length (cel (Lib.decDigits M)) := by
    rw [Lib.decDigits_length]; exact hown
  obtain ⟨p, c, hv, hr, _⟩ := own_has h2
  have h3 := run_string hr c
  rw [← hv] at h3
  exact h3

set_option maxHeartbeats 1000000 in
set_option maxRecDepth 100000 in
theorem dec_neg (n : Int) (w : World) (h0 : -9223372036854775808 ≤ n) (hn : n < 0) :
    Calls Try.prog 20 #[.int .i64 n] w fun e w' => ∃ s : ByteArray, e = .returned (.string s) ∧ s.data.toList = Lib.itoa n ∧ Below w.heap.size w w' := by
  obtain ⟨i0, hi, hz0, hz1, hz2⟩ := info_parts info5
  have hng := neg_u64 n h0 hn
  have hM : n.natAbs < 18446744073709551616 := by omega
  have HI : Hid (Lib.itoa n = 45 :: Lib.decDigits n.natAbs) := by
    show _ = _
    unfold Lib.itoa; rw [if_pos hn]
  generalize n.natAbs = M at hng hM HI
  have h20 := Lib.nDigits_le20 _ hM
  have hp := Lib.nDigits_pos M
  go_enter Try.func20, Try.ntmps20
  go_wp2_with (first | (go_at_call 29; refine (count_any M _ hM).mono ?_; rintro e w3 ⟨rfl, hw3⟩; rw [hw3]) | (at_make; refine wpList_make_full _ rfl _ _ 22 rfl w.heap.size 5 i0 (.int .u8 0) 1 Try.underlying22 hi hz0 hz1 _ _ _ _ (Lib.nDigits M) rfl rfl rfl rfl ?hb ?hm ?hB ?_))
  case hb => rw [hz2]; omega
  case hm => unfold maxLen; omega
  case hB => exact Nat.le_refl _
  intro w1 hown1 hg1
  have hb1 : Below w.heap.size w w1 := (Below.refl _ _).grown hg1 (Nat.le_refl _) (fun k hk => by cases hk)
  have hown2 : w1.ownsRow w.heap.size 5 1 (.slice (some ⟨w.heap.size, 0, none⟩) (Lib.nDigits M) (Lib.nDigits M)) (Lib.nDigits M) (fil (Lib.decDigits M) 0) := by
    rw [fil_zero, Lib.decDigits_length]
    rw [← toList_madeCells_one]
    exact hown1
  clear hown1 hg1
  go_wp2
  go_loopw [3, 18] (fun vm vi wr => ∃ k : Nat, vi = .int .i64 k ∧ vm = .int .u64 (M / 10 ^ k : Nat) ∧ k ≤ Lib.nDigits M ∧ wr.ownsRow w.heap.size 5 1 (.slice (some ⟨w.heap.size, 0, none⟩) (Lib.nDigits M) (Lib.nDigits M)) (Lib.nDigits M) (fil (Lib.decDigits M) k) ∧ Below w.heap.size w wr) (fun _ vi _ => Lib.nDigits M - (intOf vi).toNat)
  case atStart => exact ⟨0, rfl, by simp, by omega, hown2, hb1⟩
  case round =>
    obtain ⟨k, rfl, rfl, hk, hown, hbel⟩ := hrel
    clear hown2 hb1
    by_cases hlt : k < Lib.nDigits M
    · have hcell := fil_cell hlt hown
      have hfr := hown.frozenAt (Lib.nDigits M - 1 - k)
      have R1 : Below w.heap.size w (wr.setCell ⟨w.heap.size, Lib.nDigits M - 1 - k, none⟩ (.int .u8 (48 + ((M / 10 ^ k : Nat) : Int) % 10))) := hbel.setCell (Nat.le_refl _) _
      have R2 := fil_stored hlt hown (48 + ((M / 10 ^ k : Nat) : Int) % 10) (by omega)
      have R3 : Hid (M / 10 ^ k / 10 = M / 10 ^ (k + 1)) := by
        show _ = _
        rw [Nat.div_div_eq_div_mul, Nat.pow_succ]
      have hq : M / 10 ^ k < 18446744073709551616 := Nat.lt_of_le_of_lt (Nat.div_le_self _ _) hM
      clear hown hbel
      generalize M / 10 ^ k = q at R1 R2 R3 hq ⊢
      go_wp2
      go_roundw
      case rel => exact ⟨k + 1, by go_num, by rw [← R3.out]; go_num, by omega, R2, R1⟩
      case measure => simp [intOf]; omega
    · obtain rfl : k = Lib.nDigits M := by omega
      have hcv := fil_string hown
      have hdl : (Lib.decDigits M).length ≤ 20 := by rw [Lib.decDigits_length]; exact h20
      have HS : Hid ((({ data := #[45] } : ByteArray) ++ { data := (Lib.decDigits M).toArray }).data.toList = Lib.itoa n) := by
        show _ = _
        rw [HI.out]
        exact congrArg (fun b : ByteArray => b.data.toList) (ByteArray.mk_append_mk [45] (Lib.decDigits M))
      clear hown
      go_wp2
      go_ret
      exact ⟨_, rfl, HS.out, hbel⟩

set_option maxHeartbeats 1000000 in
set_option maxRecDepth 100000 in
theorem dec_pos (n : Int) (w : World) (h0 : 0 ≤ n) (hn : n ≤ 9223372036854775807) :
    Calls Try.prog 20 #[.int .i64 n] w fun e w' => ∃ s : ByteArray, e = .returned (.string s) ∧ s.data.toList = Lib.itoa n ∧ Below w.heap.size w w' := by
  obtain ⟨i0, hi, hz0, hz1, hz2⟩ := info_parts info5
  obtain ⟨M, rfl⟩ := Int.eq_ofNat_of_zero_le h0
  have hM : M < 18446744073709551616 := by omega
  have HI : Hid (Lib.itoa (M : Int) = Lib.decDigits M) := Lib.itoa_nonneg M
  have h20 := Lib.nDigits_le20 _ hM
  have hp := Lib.nDigits_pos M
  go_enter Try.func20, Try.ntmps20
  go_wp2_with (first | (go_at_call 29; refine (count_any M _ hM).mono ?_; rintro e w3 ⟨rfl, hw3⟩; rw [hw3]) | (at_make; refine wpList_make_full _ rfl _ _ 22 rfl w.heap.size 5 i0 (.int .u8 0) 1 Try.underlying22 hi hz0 hz1 _ _ _ _ (Lib.nDigits M) rfl rfl rfl rfl ?hb ?hm ?hB ?_))
  case hb => rw [hz2]; omega
  case hm => unfold maxLen; omega
  case hB => exact Nat.le_refl _
  intro w1 hown1 hg1
  have hb1 : Below w.heap.size w w1 := (Below.refl _ _).grown hg1 (Nat.le_refl _) (fun k hk => by cases hk)
  have hown2 : w1.ownsRow w.heap.size 5 1 (.slice (some ⟨w.heap.size, 0, none⟩) (Lib.nDigits M) (Lib.nDigits M)) (Lib.nDigits M) (fil (Lib.decDigits M) 0) := by
    rw [fil_zero, Lib.decDigits_length]
    rw [← toList_madeCells_one]
    exact hown1
  clear hown1 hg1
  go_wp2
  go_loopw [3, 18] (fun vm vi wr => ∃ k : Nat, vi = .int .i64 k ∧ vm = .int .u64 (M / 10 ^ k : Nat) ∧ k ≤ Lib.nDigits M ∧ wr.ownsRow w.heap.size 5 1 (.slice (some ⟨w.heap.size, 0, none⟩) (Lib.nDigits M) (Lib.nDigits M)) (Lib.nDigits M) (fil (Lib.decDigits M) k) ∧ Below w.heap.size w wr) (fun _ vi _ => Lib.nDigits M - (intOf vi).toNat)
  case atStart => exact ⟨0, rfl, by simp, by omega, hown2, hb1⟩
  case round =>
    obtain ⟨k, rfl, rfl, hk, hown, hbel⟩ := hrel
    clear hown2 hb1
    by_cases hlt : k < Lib.nDigits M
    · have hcell := fil_cell hlt hown
      have hfr := hown.frozenAt (Lib.nDigits M - 1 - k)
      have R1 : Below w.heap.size w (wr.setCell ⟨w.heap.size, Lib.nDigits M - 1 - k, none⟩ (.int .u8 (48 + ((M / 10 ^ k : Nat) : Int) % 10))) := hbel.setCell (Nat.le_refl _) _
      have R2 := fil_stored hlt hown (48 + ((M / 10 ^ k : Nat) : Int) % 10) (by omega)
      have R3 : Hid (M / 10 ^ k / 10 = M / 10 ^ (k + 1)) := by
        show _ = _
        rw [Nat.div_div_eq_div_mul, Nat.pow_succ]
      have hq : M / 10 ^ k < 18446744073709551616 := Nat.lt_of_le_of_lt (Nat.div_le_self _ _) hM
      clear hown hbel
      generalize M / 10 ^ k = q at R1 R2 R3 hq ⊢
      go_wp2
      go_roundw
      case rel => exact ⟨k + 1, by go_num, by rw [← R3.out]; go_num, by omega, R2, R1⟩
      case measure => simp [intOf]; omega
    · obtain rfl : k = Lib.nDigits M := by omega
      have hcv := fil_string hown
      have hdl : (Lib.decDigits M).length ≤ 20 := by rw [Lib.decDigits_length]; exact h20
      have HS : Hid (({ data := (Lib.decDigits M).toArray } : ByteArray).data.toList = Lib.itoa (M : Int)) := by
        show _ = _
        rw [HI.out]
      clear hown
      go_wp2
      go_ret
      exact ⟨_, rfl, HS.out, hbel⟩

theorem dec_any (n : Int) (w : World) (h0 : -9223372036854775808 ≤ n) (h1 : n ≤ 9223372036854775807) :
    Calls Try.prog 20 #[.int .i64 n] w fun e w' => ∃ s : ByteArray, e = .returned (.string s) ∧ s.data.toList = Lib.itoa n ∧ Below w.heap.size w w' := by
  rcases Int.lt_or_le n 0 with h | h
  · exact dec_neg n w h0 h
  · exact dec_pos n w h h1

end Go.Proofs.Ytcimpibendechaa
