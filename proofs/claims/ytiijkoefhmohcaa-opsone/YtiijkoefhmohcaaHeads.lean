/- What must come at any rate (heads). -/
import Derived.Test.YtiijkoefhmohcaaTxs
import Derived.Test.YtiijkoefhmohcaaLess
import Derived.Test.YtiijkoefhmohcaaRes
namespace Go.Proofs.Ytiijkoefhmohcaa
open Go.RowKit

abbrev ox : O := ⟨5, ⟨#[115]⟩, ⟨#[]⟩, 0, 4, 0, ⟨#[98]⟩, 1, 1, 1⟩
abbrev x0 : O := ⟨0, ⟨#[]⟩, ⟨#[]⟩, 0, 0, 0, ⟨#[]⟩, 0, 0, 2⟩
abbrev e1 : List Int := [0, 1, 0, 0, 0, 0, 0, 0, 0, 0, 0, 0, 0]
theorem hd1 (w : World) : Calls Try.prog 11 #[UV 1 ⟨#[97]⟩ noS 0 1 3 noS 0] w (Tells (.bool true) w) := by
  have e : cu 1 ⟨#[97]⟩ noS 0 1 3 noS 0 = true := by decide +kernel
  rw [← e]
  exact checkUpdate_any _ _ _ _ _ _ _ _ w
theorem hd2 (w : World) : Calls Try.prog 11 #[UV 1 ⟨#[97]⟩ noS 0 1 3 ⟨#[120]⟩ 0] w (Tells (.bool false) w) := by
  have e : cu 1 ⟨#[97]⟩ noS 0 1 3 ⟨#[120]⟩ 0 = false := by decide +kernel
  rw [← e]
  exact checkUpdate_any _ _ _ _ _ _ _ _ w
theorem hd3 (w : World) : Calls Try.prog 13 #[OV 5 ⟨#[115]⟩ noS 0 4 0 ⟨#[98]⟩ 1 1 1] w (Tells (.bool true) w) := by
  have e : co 5 ⟨#[115]⟩ noS 0 4 0 ⟨#[98]⟩ 1 1 1 = true := by decide +kernel
  rw [← e]
  exact checkOp_any _ _ _ _ _ _ _ _ _ _ w
theorem hd4 (sl : Value) (w : World) (h : OHas w sl [ox]) : Calls Try.prog 15 #[TxV 2 1 zeros 1 sl] w (Tells (.bool false) w) := by
  have e : ct 2 1 zeros 1 [ox] = false := by decide +kernel
  rw [← e]
  exact checkTx_any _ _ _ _ _ _ w rfl h
theorem hd5 (sl : Value) (w : World) (h : OHas w sl [ox]) : Calls Try.prog 15 #[TxV 2 1 e1 1 sl] w (Tells (.bool true) w) := by
  have e : ct 2 1 e1 1 [ox] = true := by decide +kernel
  rw [← e]
  exact checkTx_any _ _ _ _ _ _ w rfl h
theorem hd6 (sl : Value) (w : World) : Calls Try.prog 19 #[MV 1 1 1, TxV 2 1 e1 1 sl, .int .i64 1] w (Tells (.bool true) w) := by
  have e : bf 1 1 1 2 1 e1 1 = true := by decide +kernel
  rw [← e]
  exact before_any _ _ _ _ _ _ _ _ _ w rfl
theorem hd7 (sl : Value) (w : World) : Calls Try.prog 19 #[MV 1 1 1, TxV 2 1 zeros 1 sl, .int .i64 1] w (Tells (.bool false) w) := by
  have e : bf 1 1 1 2 1 zeros 1 = false := by decide +kernel
  rw [← e]
  exact before_any _ _ _ _ _ _ _ _ _ w rfl
theorem hd8 (w : World) : Calls Try.prog 21 #[MV 1 1 1, MV 1 1 2] w (Tells (.bool true) w) := less_any 1 1 1 1 1 2 w
theorem hd9 (w : World) : Calls Try.prog 13 #[OV 7 noS noS 0 1 3 noS 0 0 0] w (Tells (.bool true) w) := by
  have e : co 7 noS noS 0 1 3 noS 0 0 0 = true := by decide +kernel
  rw [← e]
  exact checkOp_any _ _ _ _ _ _ _ _ _ _ w
theorem hd_res (v : Value) (w : World) (h : OIs w v [x0]) : Calls Try.prog 9 #[v, D 2 1] w (RsPost [{ x0 with p := 2, s := 1 }] w) := resolve_any v [x0] 2 1 w h (by decide)
theorem hd_eq (w : World) : (Op.equalIn 10000 23 (D 2 1) (D 2 1)).run Try.prog w = .ok true w := eq_dot w 2 1 2 1
theorem new_ois (w : World) (x : O) : OIs (w.alloc (.cells x.cells.toArray 35)) (.slice (some ⟨w.heap.size, 0, none⟩) 1 1) [x] :=
  ⟨(by show 1 ≤ maxLen; decide), .inr ⟨_, 1, rfl, fun _ => ⟨_, 0, rfl, fun i hi => by
    obtain rfl : i = 0 := by simpa using hi
    exact (rw_new w 35 x.cells.toArray).range _ _ (fun j u hu => by simpa using hu)⟩⟩⟩
theorem ref_p {w : World} {g o : Nat} {x : O} (h : w.rangeAt g o x.cells) : w.rangeAt g (o + 7) [.int .i64 x.p, .int .i64 x.s] := fun j u hu => by
  rw [Nat.add_assoc]
  refine h (7 + j) u ?_
  match j with
  | 0 => exact hu
  | 1 => exact hu
  | j + 2 => simp at hu
theorem Rw.allocs {w : World} {b : Nat} {t : TypeId} {cs : Array Value} (h : Rw w b t cs) (x : Obj) : Rw (w.alloc x) b t cs := h.alloc x
theorem dot_r {w : World} {b : Nat} {p s : Int} (h : Rw w b 23 #[.int .i64 p, .int .i64 s]) : w.rangeAt b 0 [.int .i64 p, .int .i64 s] := h.range 0 _ fun j u hu => by rw [Nat.zero_add]; simpa using hu

set_option maxHeartbeats 4000000 in
set_option maxRecDepth 100000 in
theorem heads_any (w : World) : Calls Try.prog 8 #[] w (Tells (.bool true) w) := by
  have hbel : Below w.heap.size w w := Below.refl _ _
  replace hbel := bel_alloc hbel (.cells #[.int .i64 1, .string ⟨#[97]⟩, .string ⟨#[]⟩, .int .i64 0, .int .i64 1, .int .i64 3, .string ⟨#[]⟩, .int .i64 0] 39)
  have R1 := rw_new w 39 #[.int .i64 1, .string ⟨#[97]⟩, .string ⟨#[]⟩, .int .i64 0, .int .i64 1, .int .i64 3, .string ⟨#[]⟩, .int .i64 0]
  generalize hW1 : w.alloc (.cells #[.int .i64 1, .string ⟨#[97]⟩, .string ⟨#[]⟩, .int .i64 0, .int .i64 1, .int .i64 3, .string ⟨#[]⟩, .int .i64 0] 39) = a1 at R1 hbel
  have HW1 : Hid (w.alloc (.cells #[.int .i64 1, .string ⟨#[97]⟩, .string ⟨#[]⟩, .int .i64 0, .int .i64 1, .int .i64 3, .string ⟨#[]⟩, .int .i64 0] 39) = a1) := hW1
  clear hW1
  have L1 := R1
  replace hbel := bel_alloc hbel (.cells #[.int .i64 1, .string ⟨#[97]⟩, .string ⟨#[]⟩, .int .i64 0, .int .i64 1, .int .i64 3, .string ⟨#[120]⟩, .int .i64 0] 39)
  replace R1 := R1.alloc (.cells #[.int .i64 1, .string ⟨#[97]⟩, .string ⟨#[]⟩, .int .i64 0, .int .i64 1, .int .i64 3, .string ⟨#[120]⟩, .int .i64 0] 39)
  have R3 := rw_new a1 39 #[.int .i64 1, .string ⟨#[97]⟩, .string ⟨#[]⟩, .int .i64 0, .int .i64 1, .int .i64 3, .string ⟨#[120]⟩, .int .i64 0]
  generalize hW3 : a1.alloc (.cells #[.int .i64 1, .string ⟨#[97]⟩, .string ⟨#[]⟩, .int .i64 0, .int .i64 1, .int .i64 3, .string ⟨#[120]⟩, .int .i64 0] 39) = a3 at R1 R3 hbel
  have HW3 : Hid (a1.alloc (.cells #[.int .i64 1, .string ⟨#[97]⟩, .string ⟨#[]⟩, .int .i64 0, .int .i64 1, .int .i64 3, .string ⟨#[120]⟩, .int .i64 0] 39) = a3) := hW3
  clear hW3
  replace hbel := bel_alloc hbel (.cells #[.int .i64 1, .int .i64 1, .int .i64 1] 33)
  replace R1 := R1.alloc (.cells #[.int .i64 1, .int .i64 1, .int .i64 1] 33)
  replace R3 := R3.alloc (.cells #[.int .i64 1, .int .i64 1, .int .i64 1] 33)
  have R4 := rw_new a3 33 #[.int .i64 1, .int .i64 1, .int .i64 1]
  generalize hW4 : a3.alloc (.cells #[.int .i64 1, .int .i64 1, .int .i64 1] 33) = a4 at R1 R3 R4 hbel
  have HW4 : Hid (a3.alloc (.cells #[.int .i64 1, .int .i64 1, .int .i64 1] 33) = a4) := hW4
  clear hW4
  have L4 := R4
  replace hbel := bel_alloc hbel (.cells #[.int .i64 5, .string ⟨#[115]⟩, .string ⟨#[]⟩, .int .i64 0, .int .i64 4, .int .i64 0, .string ⟨#[98]⟩, .int .i64 1, .int .i64 1, .int .i64 1] 35)
  replace R1 := R1.alloc (.cells #[.int .i64 5, .string ⟨#[115]⟩, .string ⟨#[]⟩, .int .i64 0, .int .i64 4, .int .i64 0, .string ⟨#[98]⟩, .int .i64 1, .int .i64 1, .int .i64 1] 35)
  replace R3 := R3.alloc (.cells #[.int .i64 5, .string ⟨#[115]⟩, .string ⟨#[]⟩, .int .i64 0, .int .i64 4, .int .i64 0, .string ⟨#[98]⟩, .int .i64 1, .int .i64 1, .int .i64 1] 35)
  replace R4 := R4.alloc (.cells #[.int .i64 5, .string ⟨#[115]⟩, .string ⟨#[]⟩, .int .i64 0, .int .i64 4, .int .i64 0, .string ⟨#[98]⟩, .int .i64 1, .int .i64 1, .int .i64 1] 35)
  have R5 := rw_new a4 35 #[.int .i64 5, .string ⟨#[115]⟩, .string ⟨#[]⟩, .int .i64 0, .int .i64 4, .int .i64 0, .string ⟨#[98]⟩, .int .i64 1, .int .i64 1, .int .i64 1]
  generalize hW5 : a4.alloc (.cells #[.int .i64 5, .string ⟨#[115]⟩, .string ⟨#[]⟩, .int .i64 0, .int .i64 4, .int .i64 0, .string ⟨#[98]⟩, .int .i64 1, .int .i64 1, .int .i64 1] 35) = a5 at R1 R3 R4 R5 hbel
  have HW5 : Hid (a4.alloc (.cells #[.int .i64 5, .string ⟨#[115]⟩, .string ⟨#[]⟩, .int .i64 0, .int .i64 4, .int .i64 0, .string ⟨#[98]⟩, .int .i64 1, .int .i64 1, .int .i64 1] 35) = a5) := hW5
  clear hW5
  have L5 := R5
  replace hbel := bel_alloc hbel (.cells #[.int .i64 5, .string ⟨#[115]⟩, .string ⟨#[]⟩, .int .i64 0, .int .i64 4, .int .i64 0, .string ⟨#[98]⟩, .int .i64 1, .int .i64 1, .int .i64 1] 35)
  replace R1 := R1.alloc (.cells #[.int .i64 5, .string ⟨#[115]⟩, .string ⟨#[]⟩, .int .i64 0, .int .i64 4, .int .i64 0, .string ⟨#[98]⟩, .int .i64 1, .int .i64 1, .int .i64 1] 35)
  replace R3 := R3.alloc (.cells #[.int .i64 5, .string ⟨#[115]⟩, .string ⟨#[]⟩, .int .i64 0, .int .i64 4, .int .i64 0, .string ⟨#[98]⟩, .int .i64 1, .int .i64 1, .int .i64 1] 35)
  replace R4 := R4.alloc (.cells #[.int .i64 5, .string ⟨#[115]⟩, .string ⟨#[]⟩, .int .i64 0, .int .i64 4, .int .i64 0, .string ⟨#[98]⟩, .int .i64 1, .int .i64 1, .int .i64 1] 35)
  replace R5 := R5.alloc (.cells #[.int .i64 5, .string ⟨#[115]⟩, .string ⟨#[]⟩, .int .i64 0, .int .i64 4, .int .i64 0, .string ⟨#[98]⟩, .int .i64 1, .int .i64 1, .int .i64 1] 35)
  have R6 := rw_new a5 35 #[.int .i64 5, .string ⟨#[115]⟩, .string ⟨#[]⟩, .int .i64 0, .int .i64 4, .int .i64 0, .string ⟨#[98]⟩, .int .i64 1, .int .i64 1, .int .i64 1]
  have HO : OIs (a5.alloc (.cells #[.int .i64 5, .string ⟨#[115]⟩, .string ⟨#[]⟩, .int .i64 0, .int .i64 4, .int .i64 0, .string ⟨#[98]⟩, .int .i64 1, .int .i64 1, .int .i64 1] 35)) (.slice (some ⟨a5.heap.size, 0, none⟩) 1 1) [ox] := new_ois a5 ox
  clear R6
  generalize hW6 : a5.alloc (.cells #[.int .i64 5, .string ⟨#[115]⟩, .string ⟨#[]⟩, .int .i64 0, .int .i64 4, .int .i64 0, .string ⟨#[98]⟩, .int .i64 1, .int .i64 1, .int .i64 1] 35) = a6 at R1 R3 R4 R5 HO hbel
  have HW6 : Hid (a5.alloc (.cells #[.int .i64 5, .string ⟨#[115]⟩, .string ⟨#[]⟩, .int .i64 0, .int .i64 4, .int .i64 0, .string ⟨#[98]⟩, .int .i64 1, .int .i64 1, .int .i64 1] 35) = a6) := hW6
  clear hW6
  replace hbel := bel_alloc hbel (.cells #[.int .i64 2, .int .i64 1, .int .i64 0, .int .i64 0, .int .i64 0, .int .i64 0, .int .i64 0, .int .i64 0, .int .i64 0, .int .i64 0, .int .i64 0, .int .i64 0, .int .i64 0, .int .i64 0, .int .i64 0, .int .i64 1, .slice (some ⟨a5.heap.size, 0, none⟩) 1 1] 28)
  replace R1 := R1.alloc (.cells #[.int .i64 2, .int .i64 1, .int .i64 0, .int .i64 0, .int .i64 0, .int .i64 0, .int .i64 0, .int .i64 0, .int .i64 0, .int .i64 0, .int .i64 0, .int .i64 0, .int .i64 0, .int .i64 0, .int .i64 0, .int .i64 1, .slice (some ⟨a5.heap.size, 0, none⟩) 1 1] 28)
  replace R3 := R3.alloc (.cells #[.int .i64 2, .int .i64 1, .int .i64 0, .int .i64 0, .int .i64 0, .int .i64 0, .int .i64 0, .int .i64 0, .int .i64 0, .int .i64 0, .int .i64 0, .int .i64 0, .int .i64 0, .int .i64 0, .int .i64 0, .int .i64 1, .slice (some ⟨a5.heap.size, 0, none⟩) 1 1] 28)
  replace R4 := R4.alloc (.cells #[.int .i64 2, .int .i64 1, .int .i64 0, .int .i64 0, .int .i64 0, .int .i64 0, .int .i64 0, .int .i64 0, .int .i64 0, .int .i64 0, .int .i64 0, .int .i64 0, .int .i64 0, .int .i64 0, .int .i64 0, .int .i64 1, .slice (some ⟨a5.heap.size, 0, none⟩) 1 1] 28)
  replace R5 := R5.alloc (.cells #[.int .i64 2, .int .i64 1, .int .i64 0, .int .i64 0, .int .i64 0, .int .i64 0, .int .i64 0, .int .i64 0, .int .i64 0, .int .i64 0, .int .i64 0, .int .i64 0, .int .i64 0, .int .i64 0, .int .i64 0, .int .i64 1, .slice (some ⟨a5.heap.size, 0, none⟩) 1 1] 28)
  replace HO := HO.later (bel_alloc (Below.refl _ _) (.cells #[.int .i64 2, .int .i64 1, .int .i64 0, .int .i64 0, .int .i64 0, .int .i64 0, .int .i64 0, .int .i64 0, .int .i64 0, .int .i64 0, .int .i64 0, .int .i64 0, .int .i64 0, .int .i64 0, .int .i64 0, .int .i64 1, .slice (some ⟨a5.heap.size, 0, none⟩) 1 1] 28))
  have R7 := rw_new a6 28 #[.int .i64 2, .int .i64 1, .int .i64 0, .int .i64 0, .int .i64 0, .int .i64 0, .int .i64 0, .int .i64 0, .int .i64 0, .int .i64 0, .int .i64 0, .int .i64 0, .int .i64 0, .int .i64 0, .int .i64 0, .int .i64 1, .slice (some ⟨a5.heap.size, 0, none⟩) 1 1]
  generalize hW7 : a6.alloc (.cells #[.int .i64 2, .int .i64 1, .int .i64 0, .int .i64 0, .int .i64 0, .int .i64 0, .int .i64 0, .int .i64 0, .int .i64 0, .int .i64 0, .int .i64 0, .int .i64 0, .int .i64 0, .int .i64 0, .int .i64 0, .int .i64 1, .slice (some ⟨a5.heap.size, 0, none⟩) 1 1] 28) = a7 at R1 R3 R4 R5 R7 HO hbel
  have HW7 : Hid (a6.alloc (.cells #[.int .i64 2, .int .i64 1, .int .i64 0, .int .i64 0, .int .i64 0, .int .i64 0, .int .i64 0, .int .i64 0, .int .i64 0, .int .i64 0, .int .i64 0, .int .i64 0, .int .i64 0, .int .i64 0, .int .i64 0, .int .i64 1, .slice (some ⟨a5.heap.size, 0, none⟩) 1 1] 28) = a7) := hW7
  clear hW7
  have L7 := R7
  replace hbel := bel_alloc hbel (.cells #[.int .i64 2, .int .i64 1, .int .i64 0, .int .i64 1, .int .i64 0, .int .i64 0, .int .i64 0, .int .i64 0, .int .i64 0, .int .i64 0, .int .i64 0, .int .i64 0, .int .i64 0, .int .i64 0, .int .i64 0, .int .i64 1, .slice (some ⟨a5.heap.size, 0, none⟩) 1 1] 28)
  replace R1 := R1.alloc (.cells #[.int .i64 2, .int .i64 1, .int .i64 0, .int .i64 1, .int .i64 0, .int .i64 0, .int .i64 0, .int .i64 0, .int .i64 0, .int .i64 0, .int .i64 0, .int .i64 0, .int .i64 0, .int .i64 0, .int .i64 0, .int .i64 1, .slice (some ⟨a5.heap.size, 0, none⟩) 1 1] 28)
  replace R3 := R3.alloc (.cells #[.int .i64 2, .int .i64 1, .int .i64 0, .int .i64 1, .int .i64 0, .int .i64 0, .int .i64 0, .int .i64 0, .int .i64 0, .int .i64 0, .int .i64 0, .int .i64 0, .int .i64 0, .int .i64 0, .int .i64 0, .int .i64 1, .slice (some ⟨a5.heap.size, 0, none⟩) 1 1] 28)
  replace R4 := R4.alloc (.cells #[.int .i64 2, .int .i64 1, .int .i64 0, .int .i64 1, .int .i64 0, .int .i64 0, .int .i64 0, .int .i64 0, .int .i64 0, .int .i64 0, .int .i64 0, .int .i64 0, .int .i64 0, .int .i64 0, .int .i64 0, .int .i64 1, .slice (some ⟨a5.heap.size, 0, none⟩) 1 1] 28)
  replace R5 := R5.alloc (.cells #[.int .i64 2, .int .i64 1, .int .i64 0, .int .i64 1, .int .i64 0, .int .i64 0, .int .i64 0, .int .i64 0, .int .i64 0, .int .i64 0, .int .i64 0, .int .i64 0, .int .i64 0, .int .i64 0, .int .i64 0, .int .i64 1, .slice (some ⟨a5.heap.size, 0, none⟩) 1 1] 28)
  replace R7 := R7.alloc (.cells #[.int .i64 2, .int .i64 1, .int .i64 0, .int .i64 1, .int .i64 0, .int .i64 0, .int .i64 0, .int .i64 0, .int .i64 0, .int .i64 0, .int .i64 0, .int .i64 0, .int .i64 0, .int .i64 0, .int .i64 0, .int .i64 1, .slice (some ⟨a5.heap.size, 0, none⟩) 1 1] 28)
  replace HO := HO.later (bel_alloc (Below.refl _ _) (.cells #[.int .i64 2, .int .i64 1, .int .i64 0, .int .i64 1, .int .i64 0, .int .i64 0, .int .i64 0, .int .i64 0, .int .i64 0, .int .i64 0, .int .i64 0, .int .i64 0, .int .i64 0, .int .i64 0, .int .i64 0, .int .i64 1, .slice (some ⟨a5.heap.size, 0, none⟩) 1 1] 28))
  have R9 := rw_new a7 28 #[.int .i64 2, .int .i64 1, .int .i64 0, .int .i64 1, .int .i64 0, .int .i64 0, .int .i64 0, .int .i64 0, .int .i64 0, .int .i64 0, .int .i64 0, .int .i64 0, .int .i64 0, .int .i64 0, .int .i64 0, .int .i64 1, .slice (some ⟨a5.heap.size, 0, none⟩) 1 1]
  generalize hW9 : a7.alloc (.cells #[.int .i64 2, .int .i64 1, .int .i64 0, .int .i64 1, .int .i64 0, .int .i64 0, .int .i64 0, .int .i64 0, .int .i64 0, .int .i64 0, .int .i64 0, .int .i64 0, .int .i64 0, .int .i64 0, .int .i64 0, .int .i64 1, .slice (some ⟨a5.heap.size, 0, none⟩) 1 1] 28) = a9 at R1 R3 R4 R5 R7 R9 HO hbel
  have HW9 : Hid (a7.alloc (.cells #[.int .i64 2, .int .i64 1, .int .i64 0, .int .i64 1, .int .i64 0, .int .i64 0, .int .i64 0, .int .i64 0, .int .i64 0, .int .i64 0, .int .i64 0, .int .i64 0, .int .i64 0, .int .i64 0, .int .i64 0, .int .i64 1, .slice (some ⟨a5.heap.size, 0, none⟩) 1 1] 28) = a9) := hW9
  clear hW9
  replace hbel := bel_alloc hbel (.cells #[.int .i64 0, .string ⟨#[]⟩, .string ⟨#[]⟩, .int .i64 0, .int .i64 0, .int .i64 0, .string ⟨#[]⟩, .int .i64 0, .int .i64 0, .int .i64 2] 35)
  replace R1 := R1.alloc (.cells #[.int .i64 0, .string ⟨#[]⟩, .string ⟨#[]⟩, .int .i64 0, .int .i64 0, .int .i64 0, .string ⟨#[]⟩, .int .i64 0, .int .i64 0, .int .i64 2] 35)
  replace R3 := R3.alloc (.cells #[.int .i64 0, .string ⟨#[]⟩, .string ⟨#[]⟩, .int .i64 0, .int .i64 0, .int .i64 0, .string ⟨#[]⟩, .int .i64 0, .int .i64 0, .int .i64 2] 35)
  replace R4 := R4.alloc (.cells #[.int .i64 0, .string ⟨#[]⟩, .string ⟨#[]⟩, .int .i64 0, .int .i64 0, .int .i64 0, .string ⟨#[]⟩, .int .i64 0, .int .i64 0, .int .i64 2] 35)
  replace R5 := R5.alloc (.cells #[.int .i64 0, .string ⟨#[]⟩, .string ⟨#[]⟩, .int .i64 0, .int .i64 0, .int .i64 0, .string ⟨#[]⟩, .int .i64 0, .int .i64 0, .int .i64 2] 35)
  replace R7 := R7.alloc (.cells #[.int .i64 0, .string ⟨#[]⟩, .string ⟨#[]⟩, .int .i64 0, .int .i64 0, .int .i64 0, .string ⟨#[]⟩, .int .i64 0, .int .i64 0, .int .i64 2] 35)
  replace R9 := R9.alloc (.cells #[.int .i64 0, .string ⟨#[]⟩, .string ⟨#[]⟩, .int .i64 0, .int .i64 0, .int .i64 0, .string ⟨#[]⟩, .int .i64 0, .int .i64 0, .int .i64 2] 35)
  replace HO := HO.later (bel_alloc (Below.refl _ _) (.cells #[.int .i64 0, .string ⟨#[]⟩, .string ⟨#[]⟩, .int .i64 0, .int .i64 0, .int .i64 0, .string ⟨#[]⟩, .int .i64 0, .int .i64 0, .int .i64 2] 35))
  have R10 := rw_new a9 35 #[.int .i64 0, .string ⟨#[]⟩, .string ⟨#[]⟩, .int .i64 0, .int .i64 0, .int .i64 0, .string ⟨#[]⟩, .int .i64 0, .int .i64 0, .int .i64 2]
  have HX : OIs (a9.alloc (.cells #[.int .i64 0, .string ⟨#[]⟩, .string ⟨#[]⟩, .int .i64 0, .int .i64 0, .int .i64 0, .string ⟨#[]⟩, .int .i64 0, .int .i64 0, .int .i64 2] 35)) (.slice (some ⟨a9.heap.size, 0, none⟩) 1 1) [x0] := new_ois a9 x0
  clear R10
  generalize hW10 : a9.alloc (.cells #[.int .i64 0, .string ⟨#[]⟩, .string ⟨#[]⟩, .int .i64 0, .int .i64 0, .int .i64 0, .string ⟨#[]⟩, .int .i64 0, .int .i64 0, .int .i64 2] 35) = a10 at R1 R3 R4 R5 R7 R9 HO HX hbel
  have HW10 : Hid (a9.alloc (.cells #[.int .i64 0, .string ⟨#[]⟩, .string ⟨#[]⟩, .int .i64 0, .int .i64 0, .int .i64 0, .string ⟨#[]⟩, .int .i64 0, .int .i64 0, .int .i64 2] 35) = a10) := hW10
  clear hW10
  have D9 : a10.rangeAt a7.heap.size 0 [.int .i64 2, .int .i64 1] := tx_dot (p := 2) (s := 1) (v := e1) (t := 1) (sl := (.slice (some ⟨a5.heap.size, 0, none⟩) 1 1)) R9
  have z2 := zd 2 1
  go_enter Try.func8, Try.ntmps8
  go_wp2_with (first | rw [HW1.out] | rw [HW3.out] | rw [HW4.out] | rw [HW5.out] | rw [HW6.out] | rw [HW7.out] | rw [HW9.out] | rw [HW10.out] | refine load_r 39 _ rfl rfl _ rfl L1 Try.underlying39 rfl size39 ?_ | refine load_r 33 _ rfl rfl _ rfl L4 Try.underlying33 rfl size33 ?_ | refine load_r 35 _ rfl rfl _ rfl L5 Try.underlying35 rfl size35 ?_ | refine load_r 28 _ rfl rfl _ rfl L7 Try.underlying28 rfl size28 ?_ | refine load_m 23 _ rfl rfl _ _ rfl D9 Try.underlying23 rfl z2 ?_)
  refine (hd_res _ _ HX).mono ?_
  rintro e w1 ⟨vl, rfl, hl, _, hb1⟩
  clear HW1 HW3 HW4 HW5 HW6 HW7 HW9 HW10 L1 L4 L5 L7 D9 HX
  replace R1 := R1.later hb1
  replace R3 := R3.later hb1
  replace R4 := R4.later hb1
  replace R5 := R5.later hb1
  replace R7 := R7.later hb1
  replace R9 := R9.later hb1
  replace HO := HO.later hb1
  replace hbel := below_on hbel hb1
  clear hb1
  obtain ⟨_, ⟨_, h0⟩ | ⟨ad, c, rfl, hd⟩⟩ := hl
  · cases h0
  obtain ⟨g, o, rfl, hd2⟩ := hd (by simp)
  clear hd
  have hd0 := (ref_p (hd2 0 (by simp)))
  clear hd2
  generalize a9.heap.size = b10 at *
  generalize a7.heap.size = b9 at *
  generalize a6.heap.size = b7 at *
  generalize a5.heap.size = b6 at *
  generalize a4.heap.size = b5 at *
  generalize a3.heap.size = b4 at *
  generalize a1.heap.size = b3 at *
  have T0 : Rw w1 b7 28 (txc 2 1 zeros 1 (.slice (some ⟨b6, 0, none⟩) 1 1)).toArray := R7
  have T1 : Rw w1 b9 28 (txc 2 1 e1 1 (.slice (some ⟨b6, 0, none⟩) 1 1)).toArray := R9
  clear R7 R9
  have HH := HO.has
  clear HO
  have zm : (Try.prog.info? 23).map (·.size) = some [Value.int .i64 1, Value.int .i64 1].length := size23
  have zt0 := size_tx (p := 2) (s := 1) (v := zeros) (t := 1) (sl := .slice (some ⟨b6, 0, none⟩) 1 1) rfl
  have zt1 := size_tx (p := 2) (s := 1) (v := e1) (t := 1) (sl := .slice (some ⟨b6, 0, none⟩) 1 1) rfl
  have E := hd_eq
  go_wp2_with fail
  have hs : Calm.Stays (fun w' => Rw w' w.heap.size 39 #[.int .i64 1, .string ⟨#[97]⟩, .string ⟨#[]⟩, .int .i64 0, .int .i64 1, .int .i64 3, .string ⟨#[]⟩, .int .i64 0] ∧ Rw w' b3 39 #[.int .i64 1, .string ⟨#[97]⟩, .string ⟨#[]⟩, .int .i64 0, .int .i64 1, .int .i64 3, .string ⟨#[120]⟩, .int .i64 0] ∧ Rw w' b4 33 #[.int .i64 1, .int .i64 1, .int .i64 1] ∧ Rw w' b5 35 #[.int .i64 5, .string ⟨#[115]⟩, .string ⟨#[]⟩, .int .i64 0, .int .i64 4, .int .i64 0, .string ⟨#[98]⟩, .int .i64 1, .int .i64 1, .int .i64 1] ∧ Rw w' b7 28 (txc 2 1 zeros 1 (.slice (some ⟨b6, 0, none⟩) 1 1)).toArray ∧ Rw w' b9 28 (txc 2 1 e1 1 (.slice (some ⟨b6, 0, none⟩) 1 1)).toArray ∧ OHas w' (.slice (some ⟨b6, 0, none⟩) 1 1) [ox] ∧ w'.rangeAt g (o + 0 * 10 + 7) [.int .i64 2, .int .i64 1] ∧ Below w.heap.size w w') := fun wa wb h hb => ⟨h.1.later hb, h.2.1.later hb, h.2.2.1.later hb, h.2.2.2.1.later hb, h.2.2.2.2.1.later hb, h.2.2.2.2.2.1.later hb, h.2.2.2.2.2.2.1.later hb, range_later h.2.2.2.2.2.2.2.1 hb, below_on h.2.2.2.2.2.2.2.2 hb⟩
  refine Calm.region (by kernel_rfl) (by kernel_rfl) (fun w' => Rw w' w.heap.size 39 #[.int .i64 1, .string ⟨#[97]⟩, .string ⟨#[]⟩, .int .i64 0, .int .i64 1, .int .i64 3, .string ⟨#[]⟩, .int .i64 0] ∧ Rw w' b3 39 #[.int .i64 1, .string ⟨#[97]⟩, .string ⟨#[]⟩, .int .i64 0, .int .i64 1, .int .i64 3, .string ⟨#[120]⟩, .int .i64 0] ∧ Rw w' b4 33 #[.int .i64 1, .int .i64 1, .int .i64 1] ∧ Rw w' b5 35 #[.int .i64 5, .string ⟨#[115]⟩, .string ⟨#[]⟩, .int .i64 0, .int .i64 4, .int .i64 0, .string ⟨#[98]⟩, .int .i64 1, .int .i64 1, .int .i64 1] ∧ Rw w' b7 28 (txc 2 1 zeros 1 (.slice (some ⟨b6, 0, none⟩) 1 1)).toArray ∧ Rw w' b9 28 (txc 2 1 e1 1 (.slice (some ⟨b6, 0, none⟩) 1 1)).toArray ∧ OHas w' (.slice (some ⟨b6, 0, none⟩) 1 1) [ox] ∧ w'.rangeAt g (o + 0 * 10 + 7) [.int .i64 2, .int .i64 1] ∧ Below w.heap.size w w') ⟨R1, R3, R4, R5, T0, T1, HH, hd0, hbel.drew⟩ ?_
  clear R1 R3 R4 R5 T0 T1 HH hd0 hbel
  all_goals
    refine Calm.loadW (cs := #[.int .i64 1, .string ⟨#[97]⟩, .string ⟨#[]⟩, .int .i64 0, .int .i64 1, .int .i64 3, .string ⟨#[]⟩, .int .i64 0]) 39 Try.underlying39 rfl size39 (by rfl) _ rfl rfl (fun _ h => h.1) ?_
    simp only [Act.put, List.setIfInBounds_toArray, List.set_cons_zero, List.set_cons_succ]
  all_goals
    refine Calm.call1s (by rfl) rfl rfl (by kernel_rfl) hs (fun w1 h => hd1 w1) ?_
    simp only [Act.put, List.setIfInBounds_toArray, List.set_cons_zero, List.set_cons_succ]
  all_goals
    refine Calm.pure (v := ?_) (by rfl) ?_ ?_
    rotate_left
    focus (intro w hSw; go_simp <;> rfl)
    simp only [Act.put, List.setIfInBounds_toArray, List.set_cons_zero, List.set_cons_succ]
  all_goals
    first
      | (refine Calm.skip ?_ ?_; focus rfl)
      | (refine Calm.loadW (cs := #[.int .i64 1, .string ⟨#[97]⟩, .string ⟨#[]⟩, .int .i64 0, .int .i64 1, .int .i64 3, .string ⟨#[120]⟩, .int .i64 0]) 39 Try.underlying39 rfl size39 (by rfl) _ rfl rfl (fun _ h => h.2.1) ?_)
    simp only [Act.put, List.setIfInBounds_toArray, List.set_cons_zero, List.set_cons_succ]
  all_goals
    first
      | (refine Calm.skip ?_ ?_; focus rfl)
      | (refine Calm.call1s (by rfl) rfl rfl (by kernel_rfl) hs (fun w1 h => hd2 w1) ?_)
    simp only [Act.put, List.setIfInBounds_toArray, List.set_cons_zero, List.set_cons_succ]
  all_goals
    first
      | (refine Calm.skip ?_ ?_; focus rfl)
      | (refine Calm.pure (v := ?_) (by rfl) ?_ ?_
         rotate_left
         focus (intro w hSw; go_simp <;> rfl))
    simp only [Act.put, List.setIfInBounds_toArray, List.set_cons_zero, List.set_cons_succ]
  all_goals
    refine Calm.pure (v := ?_) (by rfl) ?_ ?_
    rotate_left
    focus (intro w hSw; go_simp <;> rfl)
    simp only [Act.put, List.setIfInBounds_toArray, List.set_cons_zero, List.set_cons_succ]
  all_goals
    refine Calm.pure (v := ?_) (by rfl) ?_ ?_
    rotate_left
    focus (intro w hSw; go_simp <;> rfl)
    simp only [Act.put, List.setIfInBounds_toArray, List.set_cons_zero, List.set_cons_succ]
  all_goals
    first
      | (refine Calm.skip ?_ ?_; focus rfl)
      | (refine Calm.loadW (cs := #[.int .i64 5, .string ⟨#[115]⟩, .string ⟨#[]⟩, .int .i64 0, .int .i64 4, .int .i64 0, .string ⟨#[98]⟩, .int .i64 1, .int .i64 1, .int .i64 1]) 35 Try.underlying35 rfl size35 (by rfl) _ rfl rfl (fun _ h => h.2.2.2.1) ?_)
    simp only [Act.put, List.setIfInBounds_toArray, List.set_cons_zero, List.set_cons_succ]
  all_goals
    first
      | (refine Calm.skip ?_ ?_; focus rfl)
      | (refine Calm.call1s (by rfl) rfl rfl (by kernel_rfl) hs (fun w1 h => hd3 w1) ?_)
    simp only [Act.put, List.setIfInBounds_toArray, List.set_cons_zero, List.set_cons_succ]
  all_goals
    refine Calm.pure (v := ?_) (by rfl) ?_ ?_
    rotate_left
    focus (intro w hSw; go_simp <;> rfl)
    simp only [Act.put, List.setIfInBounds_toArray, List.set_cons_zero, List.set_cons_succ]
  all_goals
    refine Calm.pure (v := ?_) (by rfl) ?_ ?_
    rotate_left
    focus (intro w hSw; go_simp <;> rfl)
    simp only [Act.put, List.setIfInBounds_toArray, List.set_cons_zero, List.set_cons_succ]
  all_goals
    first
      | (refine Calm.skip ?_ ?_; focus rfl)
      | (refine Calm.loadW 28 Try.underlying28 rfl zt0 (by rfl) _ rfl rfl (fun _ h => h.2.2.2.2.1) ?_)
    simp only [Act.put, List.setIfInBounds_toArray, List.set_cons_zero, List.set_cons_succ]
  all_goals
    first
      | (refine Calm.skip ?_ ?_; focus rfl)
      | (refine Calm.call1s (by rfl) rfl rfl (by kernel_rfl) hs (fun w1 h => hd4 _ w1 h.2.2.2.2.2.2.1) ?_)
    simp only [Act.put, List.setIfInBounds_toArray, List.set_cons_zero, List.set_cons_succ]
  all_goals
    first
      | (refine Calm.skip ?_ ?_; focus rfl)
      | (refine Calm.pure (v := ?_) (by rfl) ?_ ?_
         rotate_left
         focus (intro w hSw; go_simp <;> rfl))
    simp only [Act.put, List.setIfInBounds_toArray, List.set_cons_zero, List.set_cons_succ]
  all_goals
    refine Calm.pure (v := ?_) (by rfl) ?_ ?_
    rotate_left
    focus (intro w hSw; go_simp <;> rfl)
    simp only [Act.put, List.setIfInBounds_toArray, List.set_cons_zero, List.set_cons_succ]
  all_goals
    refine Calm.pure (v := ?_) (by rfl) ?_ ?_
    rotate_left
    focus (intro w hSw; go_simp <;> rfl)
    simp only [Act.put, List.setIfInBounds_toArray, List.set_cons_zero, List.set_cons_succ]
  all_goals
    first
      | (refine Calm.skip ?_ ?_; focus rfl)
      | (refine Calm.loadW 28 Try.underlying28 rfl zt1 (by rfl) _ rfl rfl (fun _ h => h.2.2.2.2.2.1) ?_)
    simp only [Act.put, List.setIfInBounds_toArray, List.set_cons_zero, List.set_cons_succ]
  all_goals
    first
      | (refine Calm.skip ?_ ?_; focus rfl)
      | (refine Calm.call1s (by rfl) rfl rfl (by kernel_rfl) hs (fun w1 h => hd5 _ w1 h.2.2.2.2.2.2.1) ?_)
    simp only [Act.put, List.setIfInBounds_toArray, List.set_cons_zero, List.set_cons_succ]
  all_goals
    refine Calm.pure (v := ?_) (by rfl) ?_ ?_
    rotate_left
    focus (intro w hSw; go_simp <;> rfl)
    simp only [Act.put, List.setIfInBounds_toArray, List.set_cons_zero, List.set_cons_succ]
  all_goals
    refine Calm.pure (v := ?_) (by rfl) ?_ ?_
    rotate_left
    focus (intro w hSw; go_simp <;> rfl)
    simp only [Act.put, List.setIfInBounds_toArray, List.set_cons_zero, List.set_cons_succ]
  all_goals
    first
      | (refine Calm.skip ?_ ?_; focus rfl)
      | (refine Calm.loadW (cs := #[.int .i64 1, .int .i64 1, .int .i64 1]) 33 Try.underlying33 rfl size33 (by rfl) _ rfl rfl (fun _ h => h.2.2.1) ?_)
    simp only [Act.put, List.setIfInBounds_toArray, List.set_cons_zero, List.set_cons_succ]
  all_goals
    first
      | (refine Calm.skip ?_ ?_; focus rfl)
      | (refine Calm.loadW 28 Try.underlying28 rfl zt1 (by rfl) _ rfl rfl (fun _ h => h.2.2.2.2.2.1) ?_)
    simp only [Act.put, List.setIfInBounds_toArray, List.set_cons_zero, List.set_cons_succ]
  all_goals
    first
      | (refine Calm.skip ?_ ?_; focus rfl)
      | (refine Calm.call3s (by rfl) rfl rfl rfl rfl (by kernel_rfl) hs (fun w1 h => hd6 _ w1) ?_)
    simp only [Act.put, List.setIfInBounds_toArray, List.set_cons_zero, List.set_cons_succ]
  all_goals
    refine Calm.pure (v := ?_) (by rfl) ?_ ?_
    rotate_left
    focus (intro w hSw; go_simp <;> rfl)
    simp only [Act.put, List.setIfInBounds_toArray, List.set_cons_zero, List.set_cons_succ]
  all_goals
    refine Calm.pure (v := ?_) (by rfl) ?_ ?_
    rotate_left
    focus (intro w hSw; go_simp <;> rfl)
    simp only [Act.put, List.setIfInBounds_toArray, List.set_cons_zero, List.set_cons_succ]
  all_goals
    first
      | (refine Calm.skip ?_ ?_; focus rfl)
      | (refine Calm.loadW (cs := #[.int .i64 1, .int .i64 1, .int .i64 1]) 33 Try.underlying33 rfl size33 (by rfl) _ rfl rfl (fun _ h => h.2.2.1) ?_)
    simp only [Act.put, List.setIfInBounds_toArray, List.set_cons_zero, List.set_cons_succ]
  all_goals
    first
      | (refine Calm.skip ?_ ?_; focus rfl)
      | (refine Calm.loadW 28 Try.underlying28 rfl zt0 (by rfl) _ rfl rfl (fun _ h => h.2.2.2.2.1) ?_)
    simp only [Act.put, List.setIfInBounds_toArray, List.set_cons_zero, List.set_cons_succ]
  all_goals
    first
      | (refine Calm.skip ?_ ?_; focus rfl)
      | (refine Calm.call3s (by rfl) rfl rfl rfl rfl (by kernel_rfl) hs (fun w1 h => hd7 _ w1) ?_)
    simp only [Act.put, List.setIfInBounds_toArray, List.set_cons_zero, List.set_cons_succ]
  all_goals
    first
      | (refine Calm.skip ?_ ?_; focus rfl)
      | (refine Calm.pure (v := ?_) (by rfl) ?_ ?_
         rotate_left
         focus (intro w hSw; go_simp <;> rfl))
    simp only [Act.put, List.setIfInBounds_toArray, List.set_cons_zero, List.set_cons_succ]
  all_goals
    refine Calm.pure (v := ?_) (by rfl) ?_ ?_
    rotate_left
    focus (intro w hSw; go_simp <;> rfl)
    simp only [Act.put, List.setIfInBounds_toArray, List.set_cons_zero, List.set_cons_succ]
  all_goals
    refine Calm.pure (v := ?_) (by rfl) ?_ ?_
    rotate_left
    focus (intro w hSw; go_simp <;> rfl)
    simp only [Act.put, List.setIfInBounds_toArray, List.set_cons_zero, List.set_cons_succ]
  all_goals
    first
      | (refine Calm.skip ?_ ?_; focus rfl)
      | (refine Calm.loadW (cs := #[.int .i64 1, .int .i64 1, .int .i64 1]) 33 Try.underlying33 rfl size33 (by rfl) _ rfl rfl (fun _ h => h.2.2.1) ?_)
    simp only [Act.put, List.setIfInBounds_toArray, List.set_cons_zero, List.set_cons_succ]
  all_goals
    first
      | (refine Calm.skip ?_ ?_; focus rfl)
      | (refine Calm.pure (v := ?_) (by rfl) ?_ ?_
         rotate_left
         focus (intro w hSw; go_simp <;> rfl))
    simp only [Act.put, List.setIfInBounds_toArray, List.set_cons_zero, List.set_cons_succ]
  all_goals
    first
      | (refine Calm.skip ?_ ?_; focus rfl)
      | (refine Calm.loadM 23 Try.underlying23 rfl zm (by rfl) _ rfl rfl (fun _ h => mk_dot h.2.2.1) ?_)
    simp only [Act.put, List.setIfInBounds_toArray, List.set_cons_zero, List.set_cons_succ]
  all_goals
    first
      | (refine Calm.skip ?_ ?_; focus rfl)
      | (refine Calm.pure (v := ?_) (by rfl) ?_ ?_
         rotate_left
         focus (intro w hSw; go_simp <;> rfl))
    simp only [Act.put, List.setIfInBounds_toArray, List.set_cons_zero, List.set_cons_succ]
  all_goals
    first
      | (refine Calm.skip ?_ ?_; focus rfl)
      | (refine Calm.call2s (by rfl) rfl rfl rfl (by kernel_rfl) hs (fun w1 h => hd8 w1) ?_)
    simp only [Act.put, List.setIfInBounds_toArray, List.set_cons_zero, List.set_cons_succ]
  all_goals
    refine Calm.pure (v := ?_) (by rfl) ?_ ?_
    rotate_left
    focus (intro w hSw; go_simp <;> rfl)
    simp only [Act.put, List.setIfInBounds_toArray, List.set_cons_zero, List.set_cons_succ]
  all_goals
    refine Calm.pure (v := ?_) (by rfl) ?_ ?_
    rotate_left
    focus (intro w hSw; go_simp <;> rfl)
    simp only [Act.put, List.setIfInBounds_toArray, List.set_cons_zero, List.set_cons_succ]
  all_goals
    first
      | (refine Calm.skip ?_ ?_; focus rfl)
      | (refine Calm.pure (v := ?_) (by rfl) ?_ ?_
         rotate_left
         focus (intro w hSw; go_simp <;> rfl))
    simp only [Act.put, List.setIfInBounds_toArray, List.set_cons_zero, List.set_cons_succ]
  all_goals
    first
      | (refine Calm.skip ?_ ?_; focus rfl)
      | (refine Calm.pure (v := ?_) (by rfl) ?_ ?_
         rotate_left
         focus (intro w hSw; go_simp <;> rfl))
    simp only [Act.put, List.setIfInBounds_toArray, List.set_cons_zero, List.set_cons_succ]
  all_goals
    first
      | (refine Calm.skip ?_ ?_; focus rfl)
      | (refine Calm.pure (v := ?_) (by rfl) ?_ ?_
         rotate_left
         focus (intro w hSw; go_simp <;> rfl))
    simp only [Act.put, List.setIfInBounds_toArray, List.set_cons_zero, List.set_cons_succ]
  all_goals
    refine Calm.pure (v := ?_) (by rfl) ?_ ?_
    rotate_left
    focus (intro w hSw; go_simp <;> rfl)
    simp only [Act.put, List.setIfInBounds_toArray, List.set_cons_zero, List.set_cons_succ]
  all_goals
    refine Calm.pure (v := ?_) (by rfl) ?_ ?_
    rotate_left
    focus (intro w hSw; go_simp <;> rfl)
    simp only [Act.put, List.setIfInBounds_toArray, List.set_cons_zero, List.set_cons_succ]
  all_goals
    first
      | (refine Calm.skip ?_ ?_; focus rfl)
      | (refine Calm.pure (v := ?_) (by rfl) ?_ ?_
         rotate_left
         focus (intro w hSw; go_simp <;> rfl))
    simp only [Act.put, List.setIfInBounds_toArray, List.set_cons_zero, List.set_cons_succ]
  all_goals
    first
      | (refine Calm.skip ?_ ?_; focus rfl)
      | (refine Calm.pure (v := ?_) (by rfl) ?_ ?_
         rotate_left
         focus (intro w hSw; go_simp <;> rfl))
    simp only [Act.put, List.setIfInBounds_toArray, List.set_cons_zero, List.set_cons_succ]
  all_goals
    first
      | (refine Calm.skip ?_ ?_; focus rfl)
      | (refine Calm.pure (v := ?_) (by rfl) ?_ ?_
         rotate_left
         focus (intro w hSw; go_simp <;> rfl))
    simp only [Act.put, List.setIfInBounds_toArray, List.set_cons_zero, List.set_cons_succ]
  all_goals
    first
      | (refine Calm.skip ?_ ?_; focus rfl)
      | (refine Calm.pure (v := ?_) (by rfl) ?_ ?_
         rotate_left
         focus (intro w hSw; go_simp <;> rfl))
    simp only [Act.put, List.setIfInBounds_toArray, List.set_cons_zero, List.set_cons_succ]
  all_goals
    first
      | (refine Calm.skip ?_ ?_; focus rfl)
      | (refine Calm.loadM 23 Try.underlying23 rfl z2 (by rfl) _ rfl rfl (fun _ h => by simpa using h.2.2.2.2.2.2.2.1) ?_)
    simp only [Act.put, List.setIfInBounds_toArray, List.set_cons_zero, List.set_cons_succ]
  all_goals
    first
      | (refine Calm.skip ?_ ?_; focus rfl)
      | (refine Calm.pure (v := ?_) (by rfl) ?_ ?_
         rotate_left
         focus (intro w hSw; go_simp <;> rfl))
    simp only [Act.put, List.setIfInBounds_toArray, List.set_cons_zero, List.set_cons_succ]
  all_goals
    first
      | (refine Calm.skip ?_ ?_; focus rfl)
      | (refine Calm.loadM 23 Try.underlying23 rfl z2 (by rfl) _ rfl rfl (fun _ h => tx_dot h.2.2.2.2.2.1) ?_)
    simp only [Act.put, List.setIfInBounds_toArray, List.set_cons_zero, List.set_cons_succ]
  all_goals
    first
      | (refine Calm.skip ?_ ?_; focus rfl)
      | (refine Calm.pure (v := ?_) (by rfl) ?_ ?_
         rotate_left
         focus (intro w hSw; go_simp <;> rfl))
    simp only [Act.put, List.setIfInBounds_toArray, List.set_cons_zero, List.set_cons_succ]
  all_goals
    refine Calm.pure (v := ?_) (by rfl) ?_ ?_
    rotate_left
    focus (intro w hSw; go_simp <;> rfl)
    simp only [Act.put, List.setIfInBounds_toArray, List.set_cons_zero, List.set_cons_succ]
  all_goals
    refine Calm.pure (v := ?_) (by rfl) ?_ ?_
    rotate_left
    focus (intro w hSw; go_simp <;> rfl)
    simp only [Act.put, List.setIfInBounds_toArray, List.set_cons_zero, List.set_cons_succ]
  all_goals
    first
      | (refine Calm.skip ?_ ?_; focus rfl)
      | (refine Calm.pure (v := ?_) (by rfl) ?_ ?_
         rotate_left
         focus (intro w hSw; go_simp <;> rfl))
    simp only [Act.put, List.setIfInBounds_toArray, List.set_cons_zero, List.set_cons_succ]
  all_goals
    first
      | (refine Calm.skip ?_ ?_; focus rfl)
      | (refine Calm.call1s (by rfl) rfl rfl (by kernel_rfl) hs (fun w1 h => hd9 w1) ?_)
    simp only [Act.put, List.setIfInBounds_toArray, List.set_cons_zero, List.set_cons_succ]
  all_goals
    refine Calm.pure (v := ?_) (by rfl) ?_ ?_
    rotate_left
    focus (intro w hSw; go_simp <;> rfl)
    simp only [Act.put, List.setIfInBounds_toArray, List.set_cons_zero, List.set_cons_succ]
  all_goals
    refine Calm.pure (v := ?_) (by rfl) ?_ ?_
    rotate_left
    focus (intro w hSw; go_simp <;> rfl)
    simp only [Act.put, List.setIfInBounds_toArray, List.set_cons_zero]
  all_goals
    rintro w9 ⟨_, _, _, _, _, _, _, _, hbel9⟩
  all_goals
    go_wp2_with fail
    go_ret
    exact ⟨rfl, hbel9⟩
end Go.Proofs.Ytiijkoefhmohcaa
