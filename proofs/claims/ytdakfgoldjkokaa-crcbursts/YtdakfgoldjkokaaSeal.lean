/- The function Seal of package crc: the bytes, and their sum behind them, in new memory. -/
import Derived.Test.YtdakfgoldjkokaaSum
namespace Go.Proofs.Ytdakfgoldjkokaa
open Go.RowKit Crc

theorem arr4_four (s : Nat) : ∃ a b c d : UInt8, le4 s = [a, b, c, d] ∧ arr4 s = .agg #[.int .u8 a.toNat, .int .u8 b.toNat, .int .u8 c.toNat, .int .u8 d.toNat] := ⟨_, _, _, _, rfl, rfl⟩

theorem Row.keep {w w' : World} {B b o : Nat} {l : List UInt8} (h : Row w (some ⟨b, o, none⟩) l) (hb : Below B w w') (hB : b < B) : Row w' (some ⟨b, o, none⟩) l := by
  intro hp
  obtain ⟨b', o', e, hc⟩ := h hp
  cases e
  exact ⟨b, o, rfl, fun j hj => by rw [← hc j hj]; exact hb.cell hB⟩

set_option maxHeartbeats 1000000 in
set_option maxRecDepth 100000 in
theorem seal_any (v : Value) (l : List UInt8) (w : World) (h : Has w v l) (hl : l.length ≤ 100000) :
    Calls Try.prog 16 #[v] w fun e w' => ∃ v', e = .returned v' ∧ w'.ownsRow w.heap.size 5 1 v' (l ++ le4 (sm l)).length (cel (l ++ le4 (sm l))) ∧ Below w.heap.size w w' := by
  obtain ⟨i0, hi, hz0, hz1, hz2⟩ := info_parts info5
  have C1 := sum_any v l w h hl
  obtain ⟨p, cp, rfl, hr, hpc, _, _⟩ := h
  have HR : Hid (Row w p l) := hr
  have HP : Hid (p = none → l.length = 0 ∧ cp = 0) := hpc
  clear hr hpc
  have hs := sm_lt l
  obtain ⟨a, b, c, d, e4, ea⟩ := arr4_four (sm l)
  go_enter Try.func16, Try.ntmps16
  go_wp2_with fail
  refine C1.mono ?_
  rintro e w1 ⟨rfl, hb1⟩
  clear C1
  have C2 := split_any (sm l) w1 hs
  rw [ea] at C2
  go_wp2_with fail
  refine C2.mono ?_
  rintro e w2 ⟨rfl, hb2⟩
  clear C2
  replace hb2 := below_on hb1 hb2
  clear hb1
  have HE : Hid (le4 (sm l) = [a, b, c, d]) := e4
  clear e4 ea
  have HB3 : Hid (Below w.heap.size w (w2.alloc (.cells #[.int .u8 a.toNat, .int .u8 b.toNat, .int .u8 c.toNat, .int .u8 d.toNat] 38))) := hb2.alloc hb2.size _
  have HT : Hid (Row (w2.alloc (.cells #[.int .u8 a.toNat, .int .u8 b.toNat, .int .u8 c.toNat, .int .u8 d.toNat] 38)) (some ⟨w2.heap.size, 0, none⟩) [a, b, c, d]) := by
    refine fun _ => ⟨_, 0, rfl, fun j hj => ?_⟩
    rw [Nat.zero_add, cell_of_row _ _ j _ 38 (0, 0) (heap_alloc_new w2 _)]
    match j, hj with
    | 0, _ => rfl
    | 1, _ => rfl
    | 2, _ => rfl
    | 3, _ => rfl
  go_wp2_with (at_make; refine wpList_make_own _ rfl _ _ 22 rfl w.heap.size 5 i0 (.int .u8 0) 1 Try.underlying22 hi hz0 hz1 _ _ _ (l.length + 4) rfl rfl ?hC ?hb ?hm ?hB ?_)
  case hC => omega
  case hb => rw [hz2]; omega
  case hm => unfold maxLen; omega
  case hB => exact HB3.out.size
  intro w4 hown4 hg4
  have hb4 := HB3.out.grown hg4 HB3.out.size (fun k hk => by cases hk)
  have HB34 := (Below.refl _ _).grown hg4 (Nat.le_refl _) (fun k hk => by cases hk)
  have HT4 : Hid (Row w4 (some ⟨w2.heap.size, 0, none⟩) [a, b, c, d]) := HT.out.later HB34
  have HR4 : Hid (Row w4 p l) := HR.out.later hb4
  clear HB34 hg4 HT HB3 HR
  have hs4 : w2.heap.size + 1 ≤ w4.heap.size := by
    have := hown4.lt (w2.heap.size + 1) rfl
    omega
  go_wp2_with (at_builtin; refine wpList_append_fits_any _ rfl _ _ 22 rfl w.heap.size 5 i0 1 Try.underlying22 hi hz1 _ _ _ _ rfl hown4 p l.length cp (cel l) rfl ?c0 HP.out HR4.out.cells (cel_one l) ?c2 ?_)
  case c0 => rw [cel_length]; omega
  case c2 => omega
  intro w5 hown5 hg5
  have hb5 := hb4.grown hg5 hb4.size (fun k hk => by cases hk; have := hb2.size; omega)
  have HB45 := (Below.refl (w2.heap.size + 1) w4).grown hg5 hs4 (fun k hk => by cases hk; exact Nat.le_refl _)
  have HT5 : Hid (Row w5 (some ⟨w2.heap.size, 0, none⟩) [a, b, c, d]) := HT4.out.keep HB45 (Nat.lt_succ_self _)
  clear HB45 HT4 hg5 HR4 hb4 hown4
  go_wp2_with (at_builtin; refine wpList_append_fits_any _ rfl _ _ 22 rfl w.heap.size 5 i0 1 Try.underlying22 hi hz1 _ _ _ _ rfl hown5 (some ⟨w2.heap.size, 0, none⟩) 4 4 (cel [a, b, c, d]) rfl ?c0 (fun h => by cases h) HT5.out.cells (cel_one _) ?c2 ?_)
  case c0 => rfl
  case c2 => omega
  intro w6 hown6 hg6
  have hb6 := hb5.grown hg6 hb5.size (fun k hk => by cases hk; have := hb2.size; omega)
  clear HT5 hg6 hown5 hb5
  have R : w6.ownsRow w.heap.size 5 1 (.slice (some ⟨w2.heap.size + 1, 0, none⟩) (l.length + 4) (l.length + 4)) (l ++ le4 (sm l)).length (cel (l ++ le4 (sm l))) := by
    rw [HE.out, cel_append, List.length_append]
    have e : l.length + [a, b, c, d].length = l.length + 4 := rfl
    rw [e]
    exact hown6
  clear hown6
  go_wp2
  go_ret
  exact ⟨_, rfl, R, hb6⟩

theorem seal_has (v : Value) (l : List UInt8) (w : World) (h : Has w v l) (hl : l.length ≤ 100000) :
    Calls Try.prog 16 #[v] w fun e w' => ∃ v', e = .returned v' ∧ Has w' v' (l ++ le4 (sm l)) ∧ Below w.heap.size w w' :=
  (seal_any v l w h hl).mono fun _ _ ⟨v', he, ho, hb⟩ => ⟨v', he, own_has ho, hb⟩

end Go.Proofs.Ytdakfgoldjkokaa
