/- What every statement of layer 2 looks at first: the few sums that must come at any rate. -/
import Derived.Test.YtdakfgoldjkokaaOpen
import Derived.Lib.SlBytesConst
namespace Go.Proofs.Ytdakfgoldjkokaa
open Go.RowKit Crc

theorem sm_nine : sm [49, 50, 51, 52, 53, 54, 55, 56, 57] = 3421780262 := by decide +kernel
theorem sm_nil : sm [] = 0 := by decide +kernel
theorem sealed_ab : sealed ([97, 98] ++ le4 (sm [97, 98])) = true := sealed_seal _
theorem take_seal (l : List UInt8) : (l ++ le4 (sm l)).take ((l ++ le4 (sm l)).length - 4) = l := by
  rw [List.length_append, le4_length, Nat.add_sub_cancel, List.take_left]

/-- A slice of a constant's bytes. -/
theorem const_has (w : World) (l : List UInt8) (cs : Array Value) (fr : Nat × Nat) (hcs : cs.toList = cel l) (hm : l.length ≤ maxLen) : Has (w.alloc (.cells cs 5 fr)) (.slice (some ⟨w.heap.size, 0, none⟩) l.length l.length) l := by
  refine ⟨some ⟨w.heap.size, 0, none⟩, l.length, rfl, fun _ => ⟨w.heap.size, 0, rfl, fun j hj => ?_⟩, (fun h => by cases h), Nat.le_refl _, hm⟩
  rw [Nat.zero_add, cell_of_row (w.alloc (.cells cs 5 fr)) w.heap.size j cs 5 fr (heap_alloc_new w _)]
  have : cs[j]? = cs.toList[j]? := by simp
  rw [this, hcs]
  simp [cel, List.getElem?_eq_getElem hj]

set_option maxHeartbeats 2000000 in
set_option maxRecDepth 100000 in
theorem heads_any (w : World) : Calls Try.prog 8 #[] w fun e w' => e = .returned (.bool true) ∧ Below w.heap.size w w' := by
  have H1 : Hid (Has (w.alloc (.cells #[.int .u8 97, .int .u8 98] 5 (2, 3))) (.slice (some ⟨w.heap.size, 0, none⟩) 2 2) [97, 98]) := const_has w [97, 98] _ _ rfl (by decide)
  have hb0 : Below w.heap.size w (w.alloc (.cells #[.int .u8 97, .int .u8 98] 5 (2, 3))) := (Below.refl _ _).alloc (Nat.le_refl _) _
  have C1 := seal_has _ _ _ H1.out (by simp)
  clear H1
  have kc := fun (w : World) (C : Array Value) (n c : Nat) => Lib.run_convert_bytes_const (P := Try.prog) w 22 5 C n c Try.underlying22 Try.underlying5
  go_enter Try.func8, Try.ntmps8
  go_wp2_with fail
  refine C1.mono ?_
  rintro e w1 ⟨v1, rfl, hv1, hb1⟩
  clear C1
  replace hb1 := below_on hb0 hb1
  clear hb0
  have C2 := open_any v1 _ w1 hv1 (by rw [List.length_append, le4_length]; simp) ⟨by rw [List.length_append, le4_length]; omega, sealed_ab⟩
  rw [take_seal] at C2
  go_wp2_with fail
  refine C2.mono ?_
  rintro e w2 ⟨v2, rfl, hv2, hb2⟩
  clear C2
  have hv1' : ∃ p c, v1 = .slice p 6 c := by
    obtain ⟨p, c, h, _⟩ := hv1
    exact ⟨p, c, h⟩
  clear hv1
  obtain ⟨p1, c1, rfl⟩ := hv1'
  replace hb2 := below_on hb1 hb2
  clear hb1
  have H3 : Has (w2.alloc (.cells #[.int .u8 97, .int .u8 98, .int .u8 99] 5 (3, 4))) (.slice (some ⟨w2.heap.size, 0, none⟩) 3 3) [97, 98, 99] := const_has w2 [97, 98, 99] _ _ rfl (by decide)
  have C3 := open_none _ _ _ H3 (by simp) (by simp)
  have hv2a := hv2.later ((Below.refl _ w2).alloc (Nat.le_refl _) (.cells #[.int .u8 97, .int .u8 98, .int .u8 99] 5 (3, 4)))
  have hb3 := hb2.alloc hb2.size (.cells #[.int .u8 97, .int .u8 98, .int .u8 99] 5 (3, 4))
  clear H3 hv2 hb2
  go_wp2_with fail
  refine C3.mono ?_
  rintro e w3 ⟨rfl, hb4⟩
  clear C3
  replace hv2a := hv2a.later hb4
  replace hb4 := below_on hb3 hb4
  clear hb3
  have H5 : Has (w3.alloc (.cells #[.int .u8 49, .int .u8 50, .int .u8 51, .int .u8 52, .int .u8 53, .int .u8 54, .int .u8 55, .int .u8 56, .int .u8 57] 5 (9, 10))) (.slice (some ⟨w3.heap.size, 0, none⟩) 9 9) [49, 50, 51, 52, 53, 54, 55, 56, 57] := const_has w3 [49, 50, 51, 52, 53, 54, 55, 56, 57] _ _ rfl (by decide)
  have C5 := sum_any _ _ _ H5 (by simp)
  rw [sm_nine] at C5
  replace hv2a := hv2a.later ((Below.refl _ w3).alloc (Nat.le_refl _) (.cells #[.int .u8 49, .int .u8 50, .int .u8 51, .int .u8 52, .int .u8 53, .int .u8 54, .int .u8 55, .int .u8 56, .int .u8 57] 5 (9, 10)))
  have hb5 := hb4.alloc hb4.size (.cells #[.int .u8 49, .int .u8 50, .int .u8 51, .int .u8 52, .int .u8 53, .int .u8 54, .int .u8 55, .int .u8 56, .int .u8 57] 5 (9, 10))
  clear H5 hb4
  go_wp2_with fail
  refine C5.mono ?_
  rintro e w5 ⟨rfl, hb6⟩
  clear C5
  replace hv2a := hv2a.later hb6
  replace hb6 := below_on hb5 hb6
  clear hb5
  obtain ⟨p2, c2, rfl, hr2, _, _, _⟩ := hv2a
  have hs : (convert 22 9 (.slice p2 2 c2)).run Try.prog w5 = .ok (.string ⟨#[97, 98]⟩) w5 := run_string hr2 c2
  clear hr2
  have C6 := sum_any _ _ w5 (nil_has w5) (by simp)
  rw [sm_nil] at C6
  go_wp2_with fail
  refine C6.mono ?_
  rintro e w6 ⟨rfl, hb7⟩
  clear C6
  go_wp2
  go_ret
  exact ⟨rfl, below_on hb6 hb7⟩

end Go.Proofs.Ytdakfgoldjkokaa
