/- What every statement of layer 1 looks at first (heads) comes out true, and turns nothing that was there. -/
import Derived.Test.YtcimpibendechaaHas
namespace Go.Proofs.Ytcimpibendechaa
open Go.RowKit

theorem below_on {w a b : World} (h : Below w.heap.size w a) (k : Below a.heap.size a b) : Below w.heap.size w b := h.trans (k.mono h.size)

set_option maxHeartbeats 2000000 in
set_option maxRecDepth 100000 in
theorem heads_any (w : World) : Calls Try.prog 9 #[] w fun e w' => e = .returned (.bool true) ∧ Below w.heap.size w w' := by
  have C1 := put_has _ [] 64 w (nil_has w) (by simp) (by omega) (by omega)
  rw [List.nil_append, e64] at C1
  go_enter Try.func9, Try.ntmps9
  go_wp2_with fail
  refine C1.mono ?_
  rintro e w1 ⟨v1, rfl, hv1, hb1⟩
  clear C1
  have C2 := puttext_has v1 _ ⟨#[97, 98]⟩ w1 hv1 (by simp) (by decide)
  go_wp2_with fail
  refine C2.mono ?_
  rintro e w2 ⟨v2, rfl, hv2, hb2⟩
  clear C2 hv1
  have hv2' : Has w2 v2 [128, 1, 4, 97, 98] := by
    have e : ([128, 1] : List UInt8) ++ (Num.enc ((ByteArray.size ⟨#[97, 98]⟩ : Nat) : Int) ++ (⟨#[97, 98]⟩ : ByteArray).data.toList) = [128, 1, 4, 97, 98] := by
      show [128, 1] ++ (Num.enc ((2 : Nat) : Int) ++ [97, 98]) = _
      rw [e2]; rfl
    rw [e] at hv2; exact hv2
  clear hv2
  replace hb2 := below_on hb1 hb2
  clear hb1
  have C3 := put_has v2 _ (-1) w2 hv2' (by simp) (by omega) (by omega)
  rw [em1] at C3
  go_wp2_with fail
  refine C3.mono ?_
  rintro e w3 ⟨v3, rfl, hv3, hb3⟩
  replace hv3 : Has w3 v3 [128, 1, 4, 97, 98, 1] := hv3
  clear C3 hv2'
  replace hb3 := below_on hb2 hb3
  clear hb2
  have C4 := get_has v3 _ _ _ w3 hv3 (by simp) r1
  go_wp2_with fail
  refine C4.mono ?_
  rintro e w4 ⟨v4, rfl, hv4, hb4⟩
  replace hv4 : Has w4 v4 [4, 97, 98, 1] := hv4
  replace hv3 := hv3.later hb4
  clear C4
  replace hb4 := below_on hb3 hb4
  clear hb3
  rw [show Num.unz 128 = 64 from rfl]
  have C5 := gettext_has v4 _ _ _ 2 w4 hv4 (by simp) r2 rfl (by omega) (by simp)
  go_wp2_with fail
  refine C5.mono ?_
  rintro e w5 ⟨v5, rfl, hv5, hb5⟩
  replace hv5 : Has w5 v5 [1] := hv5
  replace hv3 := hv3.later hb5
  clear C5 hv4
  replace hb5 := below_on hb4 hb5
  clear hb4
  have C6 := get_has v5 _ _ _ w5 hv5 (by simp) r3
  go_wp2_with fail
  refine C6.mono ?_
  rintro e w6 ⟨v6, rfl, hv6, hb6⟩
  replace hv6 : Has w6 v6 [] := hv6
  replace hv3 := hv3.later hb6
  clear C6 hv5
  replace hb6 := below_on hb5 hb6
  clear hb5
  rw [show Num.unz 1 = -1 from rfl]
  obtain ⟨p6, c6, rfl, _, _, _, _⟩ := hv6
  have C7 := getbad_has _ [128] 5 (w6.alloc (.cells #[.int .u8 128] 5)) (built_has w6 [128] #[.int .u8 128] rfl (by unfold maxLen; decide)) (by simp) r4 rfl
  replace hv3 := hv3.later ((Below.refl _ _).alloc (Nat.le_refl _) (.cells #[.int .u8 128] 5))
  replace hb6 := hb6.alloc hb6.size (.cells #[.int .u8 128] 5)
  go_wp2_with fail
  refine C7.mono ?_
  rintro e w7 ⟨rfl, hw⟩
  rw [hw]
  clear C7 hw
  generalize w6.alloc (.cells #[.int .u8 128] 5) = w8 at hv3 hb6 ⊢
  have C8 := getbad_has _ [128, 0] 3 (w8.alloc (.cells #[.int .u8 128, .int .u8 0] 5)) (built_has w8 [128, 0] #[.int .u8 128, .int .u8 0] rfl (by unfold maxLen; decide)) (by simp) r5 rfl
  replace hv3 := hv3.later ((Below.refl _ _).alloc (Nat.le_refl _) (.cells #[.int .u8 128, .int .u8 0] 5))
  replace hb6 := hb6.alloc hb6.size (.cells #[.int .u8 128, .int .u8 0] 5)
  go_wp2_with fail
  refine C8.mono ?_
  rintro e w9 ⟨rfl, hw⟩
  rw [hw]
  clear C8 hw
  generalize w8.alloc (.cells #[.int .u8 128, .int .u8 0] 5) = w10 at hv3 hb6 ⊢
  have C9 := parse_any ⟨#[45, 49, 50]⟩ w10 (by unfold maxLen; decide)
  rw [show prs (⟨#[45, 49, 50]⟩ : ByteArray).data.toList = (-12, true) from p12] at C9
  go_wp2_with fail
  refine C9.mono ?_
  rintro e w11 ⟨rfl, hb11⟩
  replace hv3 := hv3.later hb11
  replace hb11 := below_on hb6 hb11
  clear C9 hb6
  have C10 := parse_any ⟨#[48, 48, 55]⟩ w11 (by unfold maxLen; decide)
  rw [show prs (⟨#[48, 48, 55]⟩ : ByteArray).data.toList = (0, false) from p007] at C10
  go_wp2_with fail
  refine C10.mono ?_
  rintro e w12 ⟨rfl, hb12⟩
  replace hv3 := hv3.later hb12
  replace hb12 := below_on hb11 hb12
  clear C10 hb11
  have C11 := bytes_has v3 _ [128, 1, 4, 97, 98, 1] [128, 1, 4, 97, 98, 1] (w12.alloc (.cells #[.int .u8 128, .int .u8 1, .int .u8 4, .int .u8 97, .int .u8 98, .int .u8 1] 5)) (hv3.later ((Below.refl _ _).alloc (Nat.le_refl _) _)) (built_has w12 [128, 1, 4, 97, 98, 1] #[.int .u8 128, .int .u8 1, .int .u8 4, .int .u8 97, .int .u8 98, .int .u8 1] rfl (by unfold maxLen; decide))
  replace hb12 := hb12.alloc hb12.size (.cells #[.int .u8 128, .int .u8 1, .int .u8 4, .int .u8 97, .int .u8 98, .int .u8 1] 5)
  go_wp2_with fail
  refine C11.mono ?_
  rintro e w13 ⟨rfl, hw⟩
  rw [hw]
  clear C11 hw hv3
  generalize w12.alloc (.cells #[.int .u8 128, .int .u8 1, .int .u8 4, .int .u8 97, .int .u8 98, .int .u8 1] 5) = w14 at hb12 ⊢
  rw [show (([128, 1, 4, 97, 98, 1] : List UInt8) == [128, 1, 4, 97, 98, 1]) = true from rfl]
  have C12 := dec_any (-12) w14 (by omega) (by omega)
  go_wp2_with fail
  refine C12.mono ?_
  rintro e w15 ⟨r, rfl, hr, hb15⟩
  replace hb15 := below_on hb12 hb15
  clear C12 hb12
  have hrs : (r.toList == [45, 49, 50]) = true := by rw [Lib.toList_data, hr, i12]; rfl
  clear hr
  go_wp2
  go_ret
  exact ⟨rfl, hb15⟩

end Go.Proofs.Ytcimpibendechaa
