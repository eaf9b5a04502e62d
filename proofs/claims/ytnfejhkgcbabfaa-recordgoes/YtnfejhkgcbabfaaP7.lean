import Derived.Test.YtnfejhkgcbabfaaP4
import Derived.Stop.BytesEq
import Derived.Test.YtnfejhkgcbabfaaP5
import Derived.Deep.Cut
import Derived.Deep.CutRange
import Derived.Lib.AppendZeros
import Derived.Test.YtnfejhkgcbabfaaP2
/- The program's own crc: Step, Sum, Seal, Open; what is sealed and opened lies in a row of its own. -/
namespace Go.Proofs.Ytnfejhkgcbabfaa.Cr
open Go.RowKit Crc

theorem bits_and_one (a : Nat) (ha : a < 4294967296) : bits .and .u32 (a : Int) 1 = ((a % 2 : Nat) : Int) := by
  have hx : a &&& 1 = a % 2 := Nat.and_one_is_mod a
  show IntKind.u32.wrap ((BitVec.ofInt 32 (a : Int) &&& BitVec.ofInt 32 ((1 : Nat) : Int)).toNat : Int) = _
  rw [BitVec.toNat_and, u32_nat a ha, u32_nat 1 (by decide), hx, IntKind.wrap_u32]
  omega

set_option maxHeartbeats 400000 in
set_option maxRecDepth 100000 in
theorem move_any (x B : Nat) (w : World) (hx : x < 4294967296) (hc : w.cell? ⟨B, 0, none⟩ = some (.int .u32 3988292384)) :
    Calls Try.prog 35 #[.int .u32 x, .pointer (some ⟨B, 0, none⟩)] w fun e w' => e = .returned (.int .u32 (mv x : Nat)) ∧ w' = w := by
  have h1 := bits_and_one x hx
  rcases Nat.mod_two_eq_zero_or_one x with h2 | h2
  · rw [h2] at h1
    have h3 : (x : Int) / 2 = ((mv x : Nat) : Int) := by unfold mv; rw [if_neg (by omega)]; omega
    clear h2
    go_enter Try.func35, Try.ntmps35
    go_wp2
    go_ret
    exact ⟨by rw [← h3]; rfl, rfl⟩
  · have h3 := move_xor x hx h2
    rw [h2] at h1
    clear h2
    go_enter Try.func35, Try.ntmps35
    go_wp2
    go_ret
    exact ⟨by rw [← h3]; rfl, rfl⟩

set_option maxHeartbeats 400000 in
set_option maxRecDepth 100000 in
theorem mover_any (w : World) :
    Calls Try.prog 34 #[.int .u32 3988292384] w fun e w' => e = .returned (.func (.func 35) #[] #[.pointer (some ⟨w.heap.size, 0, none⟩)]) ∧ w' = w.alloc (.cells #[.int .u32 3988292384] 55) := by
  have hmf : ∀ (fn : Fn) (first cap : Array Value) (w : World), (Instr.makeFunc fn first cap).run Try.prog w = .ok (.func fn first cap) w := fun _ _ _ _ => rfl
  go_enter Try.func34, Try.ntmps34
  go_wp2
  go_ret
  exact ⟨rfl, rfl⟩

set_option maxHeartbeats 1000000 in
set_option maxRecDepth 100000 in
theorem step_any (x : Nat) (c : UInt8) (w : World) (hx : x < 4294967296) :
    Calls Try.prog 32 #[.int .u32 x, .int .u8 c.toNat] w fun e w' => e = .returned (.int .u32 (stp x c.toNat : Nat)) ∧ Below w.heap.size w w' := by
  have hlt := c.toNat_lt
  have h1 := bits_xor_u32 x c.toNat hx (by omega)
  have HLT : Hid (x ^^^ c.toNat < 4294967296) := Nat.xor_lt_two_pow (n := 32) hx (by omega)
  have HB : Hid (Below w.heap.size w (w.alloc (.cells #[.int .u32 3988292384] 55))) := (Below.refl _ _).alloc (Nat.le_refl _) _
  have HC : Hid ((w.alloc (.cells #[.int .u32 3988292384] 55)).cell? ⟨w.heap.size, 0, none⟩ = some (.int .u32 3988292384)) := cell_of_one (heap_alloc_new w _)
  have CM := mover_any w
  go_enter Try.func32, Try.ntmps32
  go_wp2_with fail
  refine CM.mono ?_
  rintro e w1 ⟨rfl, hw⟩
  rw [hw]
  clear CM hw
  generalize w.alloc (.cells #[.int .u32 3988292384] 55) = w1 at HB HC ⊢
  generalize w.heap.size = B at HC ⊢
  go_wp2
  generalize hy : x ^^^ c.toNat = y at HLT ⊢
  have HY : Hid (stp x c.toNat = mvs 8 y) := by
    show _ = _
    unfold stp; rw [hy]
  clear hy h1
  go_loop [0, 11] (fun vx vi => ∃ k : Nat, vi = .int .i64 k ∧ vx = .int .u32 (mvs k y : Nat) ∧ k ≤ 8) (fun _ vi => 8 - (intOf vi).toNat)
  case atStart => exact ⟨0, rfl, rfl, by omega⟩
  case round =>
    obtain ⟨k, rfl, rfl, hk⟩ := hrel
    by_cases h8 : k < 8
    · have C1 := move_any (mvs k y) B w1 (mvs_lt k HLT.out) HC.out
      rw [← mvs_last] at C1
      go_wp2_with (go_at_call 35; refine C1.mono ?_; rintro e w2 ⟨rfl, hw⟩; rw [hw])
      clear C1
      go_round
      case rel => exact ⟨k + 1, by go_num, rfl, by omega⟩
      case measure => simp [intOf]; omega
    · obtain rfl : k = 8 := by omega
      go_wp2
      go_ret
      exact ⟨by rw [HY.out]; rfl, HB.out⟩

theorem not_sm (l : List UInt8) : bits .xor .u32 IntKind.u32.max (run 4294967295 l : Nat) = ((sm l : Nat) : Int) := by
  have h1 := run_lt l (x := 4294967295) (by decide)
  have h2 := bits_xor_u32 4294967295 (run 4294967295 l) (by decide) h1
  have h3 := not_xor h1
  rw [Nat.xor_comm] at h3
  rw [← xor_same h3] at h2
  exact h2

set_option maxHeartbeats 1000000 in
set_option maxRecDepth 100000 in
theorem sum_any (v : Value) (l : List UInt8) (w : World) (h : Has w v l) (hl : l.length ≤ 100000) :
    Calls Try.prog 28 #[v] w fun e w' => e = .returned (.int .u32 (sm l : Nat)) ∧ Below w.heap.size w w' := by
  obtain ⟨p, c, rfl, hr, _, _, _⟩ := h
  have HR : Hid (Row w p l) := hr
  clear hr
  go_enter Try.func28, Try.ntmps28
  go_wp2
  go_loopw [3, 8] (fun vx vi wr => ∃ k : Nat, vi = .int .i64 k ∧ vx = .int .u32 (run 4294967295 (l.take k) : Nat) ∧ k ≤ l.length ∧ Below w.heap.size w wr) (fun _ vi _ => l.length - (intOf vi).toNat)
  case atStart => exact ⟨0, rfl, rfl, by omega, Below.refl _ _⟩
  case round =>
    obtain ⟨k, rfl, rfl, hk, hb⟩ := hrel
    by_cases hlt : k < l.length
    · obtain ⟨b, o, rfl, hcell⟩ := (HR.out.later hb) (by omega)
      have hc := hcell k hlt
      have C1 := step_any (run 4294967295 (l.take k)) l[k] wr (run_lt _ (by decide))
      rw [← run_last _ _ _ hlt] at C1
      clear hcell HR
      generalize l[k] = d at hc C1
      go_wp2_with (go_at_call 32; refine C1.mono ?_; rintro e w2 ⟨rfl, hb2⟩)
      clear C1
      go_roundw
      case rel => exact ⟨k + 1, by go_num, rfl, by omega, below_on hb hb2⟩
      case measure => simp [intOf]; omega
    · obtain rfl : k = l.length := by omega
      rw [List.take_length] at *
      have h1 := run_lt l (x := 4294967295) (by decide)
      go_wp2
      go_ret
      exact ⟨by rw [← not_sm l]; rfl, hb⟩

/-- The four bytes of a sum, as an array. -/
def arr4 (s : Nat) : Value := .agg (cel (le4 s)).toArray

theorem arr4_is (s : Nat) (hs : s < 4294967296) : arr4 s = .agg #[.int .u8 ((s : Int) % 256), .int .u8 ((s : Int) / 256 % 256), .int .u8 ((s : Int) / 65536 % 256), .int .u8 ((s : Int) / 16777216)] := by
  have e : ((s : Int) / 16777216) = (s : Int) / 16777216 % 256 := by omega
  rw [e]
  simp [arr4, le4, cel]

set_option maxHeartbeats 1000000 in
set_option maxRecDepth 100000 in
theorem split_any (s : Nat) (w : World) (hs : s < 4294967296) :
    Calls Try.prog 27 #[.int .u32 s] w fun e w' => e = .returned (arr4 s) ∧ Below w.heap.size w w' := by
  have HE : Hid (arr4 s = _) := arr4_is s hs
  go_enter Try.func27, Try.ntmps27
  go_wp2
  refine bodyPost_ret (v := .agg #[.int .u8 ((s : Int) % 256), .int .u8 ((s : Int) / 256 % 256), .int .u8 ((s : Int) / 65536 % 256), .int .u8 ((s : Int) / 16777216)]) (by simp [results, Try.results27, go_sem]) rfl ⟨by rw [HE.out], (Below.refl _ _).alloc (Nat.le_refl _) _⟩

theorem arr4_four (s : Nat) : ∃ a b c d : UInt8, le4 s = [a, b, c, d] ∧ arr4 s = .agg #[.int .u8 a.toNat, .int .u8 b.toNat, .int .u8 c.toNat, .int .u8 d.toNat] := ⟨_, _, _, _, rfl, rfl⟩

theorem Row.keep {w w' : World} {B b o : Nat} {l : List UInt8} (h : Row w (some ⟨b, o, none⟩) l) (hb : Below B w w') (hB : b < B) : Row w' (some ⟨b, o, none⟩) l := by
  intro hp
  obtain ⟨b', o', e, hc⟩ := h hp
  cases e
  exact ⟨b, o, rfl, fun j hj => by rw [← hc j hj]; exact hb.cell hB⟩

set_option maxHeartbeats 1000000 in
set_option maxRecDepth 100000 in
theorem seal_any (v : Value) (l : List UInt8) (w : World) (h : Has w v l) (hl : l.length ≤ 100000) :
    Calls Try.prog 21 #[v] w fun e w' => ∃ v', e = .returned v' ∧ w'.ownsRow w.heap.size 5 1 v' (l ++ le4 (sm l)).length (cel (l ++ le4 (sm l))) ∧ Below w.heap.size w w' := by
  obtain ⟨i0, hi, hz0, hz1, hz2⟩ := info_parts info5
  have C1 := sum_any v l w h hl
  obtain ⟨p, cp, rfl, hr, hpc, _, _⟩ := h
  have HR : Hid (Row w p l) := hr
  have HP : Hid (p = none → l.length = 0 ∧ cp = 0) := hpc
  clear hr hpc
  have hs := sm_lt l
  obtain ⟨a, b, c, d, e4, ea⟩ := arr4_four (sm l)
  go_enter Try.func21, Try.ntmps21
  go_wp2_with fail
  refine C1.mono ?_
  rintro e w1 ⟨rfl, hb1⟩
  clear C1
  have C2 := split_any (sm l) w1 hs
  rw [ea] at C2
  go_wp2_with fail
  refine C2.mono ?_
  rintro e w2 ⟨rfl, hb2⟩
  clear C2
  replace hb2 := below_on hb1 hb2
  clear hb1
  have HE : Hid (le4 (sm l) = [a, b, c, d]) := e4
  clear e4 ea
  have HB3 : Hid (Below w.heap.size w (w2.alloc (.cells #[.int .u8 a.toNat, .int .u8 b.toNat, .int .u8 c.toNat, .int .u8 d.toNat] 45))) := hb2.alloc hb2.size _
  have HT : Hid (Row (w2.alloc (.cells #[.int .u8 a.toNat, .int .u8 b.toNat, .int .u8 c.toNat, .int .u8 d.toNat] 45)) (some ⟨w2.heap.size, 0, none⟩) [a, b, c, d]) := by
    refine fun _ => ⟨_, 0, rfl, fun j hj => ?_⟩
    rw [Nat.zero_add, cell_of_row _ _ j _ 45 (0, 0) (heap_alloc_new w2 _)]
    match j, hj with
    | 0, _ => rfl
    | 1, _ => rfl
    | 2, _ => rfl
    | 3, _ => rfl
  go_wp2_with (at_make; refine wpList_make_own _ rfl _ _ 23 rfl w.heap.size 5 i0 (.int .u8 0) 1 Try.underlying23 hi hz0 hz1 _ _ _ (l.length + 4) rfl rfl ?hC ?hb ?hm ?hB ?_)
  case hC => omega
  case hb => rw [hz2]; omega
  case hm => unfold maxLen; omega
  case hB => exact HB3.out.size
  intro w4 hown4 hg4
  have hb4 := HB3.out.grown hg4 HB3.out.size (fun k hk => by cases hk)
  have HB34 := (Below.refl _ _).grown hg4 (Nat.le_refl _) (fun k hk => by cases hk)
  have HT4 : Hid (Row w4 (some ⟨w2.heap.size, 0, none⟩) [a, b, c, d]) := HT.out.later HB34
  have HR4 : Hid (Row w4 p l) := HR.out.later hb4
  clear HB34 hg4 HT HB3 HR
  have hs4 : w2.heap.size + 1 ≤ w4.heap.size := by
    have := hown4.lt (w2.heap.size + 1) rfl
    omega
  go_wp2_with (at_builtin; refine wpList_append_fits_any _ rfl _ _ 23 rfl w.heap.size 5 i0 1 Try.underlying23 hi hz1 _ _ _ _ rfl hown4 p l.length cp (cel l) rfl ?c0 HP.out HR4.out.cells (cel_one l) ?c2 ?_)
  case c0 => rw [cel_length]; omega
  case c2 => omega
  intro w5 hown5 hg5
  have hb5 := hb4.grown hg5 hb4.size (fun k hk => by cases hk; have := hb2.size; omega)
  have HB45 := (Below.refl (w2.heap.size + 1) w4).grown hg5 hs4 (fun k hk => by cases hk; exact Nat.le_refl _)
  have HT5 : Hid (Row w5 (some ⟨w2.heap.size, 0, none⟩) [a, b, c, d]) := HT4.out.keep HB45 (Nat.lt_succ_self _)
  clear HB45 HT4 hg5 HR4 hb4 hown4
  go_wp2_with (at_builtin; refine wpList_append_fits_any _ rfl _ _ 23 rfl w.heap.size 5 i0 1 Try.underlying23 hi hz1 _ _ _ _ rfl hown5 (some ⟨w2.heap.size, 0, none⟩) 4 4 (cel [a, b, c, d]) rfl ?c0 (fun h => by cases h) HT5.out.cells (cel_one _) ?c2 ?_)
  case c0 => rfl
  case c2 => omega
  intro w6 hown6 hg6
  have hb6 := hb5.grown hg6 hb5.size (fun k hk => by cases hk; have := hb2.size; omega)
  clear HT5 hg6 hown5 hb5
  have R : w6.ownsRow w.heap.size 5 1 (.slice (some ⟨w2.heap.size + 1, 0, none⟩) (l.length + 4) (l.length + 4)) (l ++ le4 (sm l)).length (cel (l ++ le4 (sm l))) := by
    rw [HE.out, cel_append, List.length_append]
    have e : l.length + [a, b, c, d].length = l.length + 4 := rfl
    rw [e]
    exact hown6
  clear hown6
  go_wp2
  go_ret
  exact ⟨_, rfl, R, hb6⟩

theorem seal_has (v : Value) (l : List UInt8) (w : World) (h : Has w v l) (hl : l.length ≤ 100000) :
    Calls Try.prog 21 #[v] w fun e w' => ∃ v', e = .returned v' ∧ Has w' v' (l ++ le4 (sm l)) ∧ Below w.heap.size w w' :=
  (seal_any v l w h hl).mono fun _ _ ⟨v', he, ho, hb⟩ => ⟨v', he, own_has ho, hb⟩

set_option maxHeartbeats 1000000 in
set_option maxRecDepth 100000 in
theorem open_short (p : Option Addr) (len c : Nat) (w : World) (hl : len < 4) :
    Calls Try.prog 31 #[.slice p len c] w fun e w' => e = .returned (.tuple #[.slice none 0 0, .bool false]) ∧ w' = w := by
  go_enter Try.func31, Try.ntmps31
  go_wp2
  go_ret2
  exact ⟨rfl, rfl⟩

theorem four (l : List UInt8) (h : l.length = 4) : ∃ a b c d, l = [a, b, c, d] := by
  match l, h with
  | [a, b, c, d], _ => exact ⟨a, b, c, d, rfl⟩

theorem Row.at4 {w : World} {b m : Nat} {q0 q1 q2 q3 : UInt8} (h : Row w (some ⟨b, m, none⟩) [q0, q1, q2, q3]) :
    w.cell? ⟨b, m, none⟩ = some (.int .u8 q0.toNat) ∧ w.cell? ⟨b, m + 1, none⟩ = some (.int .u8 q1.toNat) ∧ w.cell? ⟨b, m + 2, none⟩ = some (.int .u8 q2.toNat) ∧ w.cell? ⟨b, m + 3, none⟩ = some (.int .u8 q3.toNat) := by
  obtain ⟨b', o', e, hc⟩ := h (by simp)
  cases e
  exact ⟨hc 0 (by simp), hc 1 (by simp), hc 2 (by simp), hc 3 (by simp)⟩

theorem cells4 {w w' : World} {b m : Nat} {x0 x1 x2 x3 : Value} (h : w.cell? ⟨b, m, none⟩ = some x0 ∧ w.cell? ⟨b, m + 1, none⟩ = some x1 ∧ w.cell? ⟨b, m + 2, none⟩ = some x2 ∧ w.cell? ⟨b, m + 3, none⟩ = some x3) (hb : Below w.heap.size w w') :
    w'.cell? ⟨b, m, none⟩ = some x0 ∧ w'.cell? ⟨b, m + 1, none⟩ = some x1 ∧ w'.cell? ⟨b, m + 2, none⟩ = some x2 ∧ w'.cell? ⟨b, m + 3, none⟩ = some x3 := by
  obtain ⟨h0, h1, h2, h3⟩ := h
  exact ⟨(hb.cell (World.block_lt_of_cell? w _ h0)).trans h0, (hb.cell (World.block_lt_of_cell? w _ h1)).trans h1, (hb.cell (World.block_lt_of_cell? w _ h2)).trans h2, (hb.cell (World.block_lt_of_cell? w _ h3)).trans h3⟩

set_option maxHeartbeats 2000000 in
set_option maxRecDepth 100000 in
theorem open_long (b o c : Nat) (l : List UInt8) (w : World) (hr : Row w (some ⟨b, o, none⟩) l) (hlc : l.length ≤ c) (hcm0 : c ≤ maxLen) (h4 : 4 ≤ l.length) (hl : l.length ≤ 100000) (hs : sealed l = true) :
    Calls Try.prog 31 #[.slice (some ⟨b, o, none⟩) l.length c] w fun e w' => ∃ v, e = .returned (.tuple #[v, .bool true]) ∧ w'.ownsRow w.heap.size 5 1 v (l.take (l.length - 4)).length (cel (l.take (l.length - 4))) ∧ Below w.heap.size w w' := by
  obtain ⟨i0, hi, hz0, hz1, hz2⟩ := info_parts info5
  obtain ⟨q0, q1, q2, q3, hq⟩ := four (l.drop (l.length - 4)) (by rw [List.length_drop]; omega)
  obtain ⟨a0, a1, a2, a3, e4, ea⟩ := arr4_four (sm (l.take (l.length - 4)))
  have hsm := sm_lt (l.take (l.length - 4))
  have hlt : (l.take (l.length - 4)).length = l.length - 4 := by rw [List.length_take]; omega
  have hck : ¬ c = l.length - 4 := by omega
  obtain ⟨A, hA, hRA⟩ := hr.drop hlc (l.length - 4) (by omega)
  rw [if_neg hck] at hA
  obtain rfl := Option.some.inj hA
  rw [hq] at hRA
  have hC9 := sum_any (.slice (some ⟨b, o, none⟩) (l.take (l.length - 4)).length c) (l.take (l.length - 4)) w.drew ⟨_, _, rfl, hr.take _, (fun h => by cases h), by omega, hcm0⟩ (by omega)
  have hC19 := fun w1 => split_any (sm (l.take (l.length - 4))) w1 hsm
  rw [hlt] at hC9
  rw [ea] at hC19
  have HT : Hid (Row w (some ⟨b, o, none⟩) (l.take (l.length - 4))) := hr.take _
  unfold maxLen at hcm0
  unfold sealed at hs
  rw [hq, e4] at hs
  clear e4 ea
  generalize sm (l.take (l.length - 4)) = S at hC9 hC19 hsm
  generalize l.take (l.length - 4) = body at hlt HT ⊢
  generalize hk : l.length - 4 = k at hck hRA hC9 hlt
  generalize l.length = n at hk hlc h4 hl ⊢
  have hn4 : (n : Int) - 4 = (k : Int) := by omega
  have hnk : n - k = 4 := by omega
  have hi1 : (0 : Int) ≤ (k : Int) := by omega
  have hi2 : (k : Int) ≤ (c : Int) := by omega
  have hi3 : (k : Int) ≤ (n : Int) := by omega
  have hi4 : (n : Int) ≤ (c : Int) := by omega
  have hi5 : ¬ (n : Int) < 4 := by omega
  have heq : ∀ w1 : World, (Op.equalIn 10000 45 (.agg #[.int .u8 q0.toNat, .int .u8 q1.toNat, .int .u8 q2.toNat, .int .u8 q3.toNat]) (.agg #[.int .u8 a0.toNat, .int .u8 a1.toNat, .int .u8 a2.toNat, .int .u8 a3.toNat])).run Try.prog w1 = .ok true w1 := fun w1 => by
    have h := run_equalIn_bytes (P := Try.prog) w1 9998 45 5 4 Try.underlying45 Try.underlying5 (fun _ => by kernel_rfl) [q0, q1, q2, q3] [a0, a1, a2, a3] rfl rfl
    rw [hs] at h
    exact h
  have harr : ∀ w1 : World, (Instr.arrayAt 45 (.slice (some ⟨b, o + k, none⟩) 4 (c - k))).run Try.prog w1 = .ok (.pointer (some ⟨b, o + k, none⟩)) w1 := fun w1 => by
    simp [Instr.arrayAt, go_sem]
  clear hr hq hs
  obtain ⟨g0, g1, g2, g3⟩ := hRA.at4
  have S0 : (fun w' : World => w'.cell? ⟨b, o + k, none⟩ = some (.int .u8 q0.toNat) ∧ w'.cell? ⟨b, o + k + 1, none⟩ = some (.int .u8 q1.toNat) ∧ w'.cell? ⟨b, o + k + 2, none⟩ = some (.int .u8 q2.toNat) ∧ w'.cell? ⟨b, o + k + 3, none⟩ = some (.int .u8 q3.toNat)) w.drew := ⟨g0, g1, g2, g3⟩
  clear g0 g1 g2 g3
  go_enter Try.func31, Try.ntmps31
  go_wp2
  go_region_held3 (fun w' => w'.cell? ⟨b, o + k, none⟩ = some (.int .u8 q0.toNat) ∧ w'.cell? ⟨b, o + k + 1, none⟩ = some (.int .u8 q1.toNat) ∧ w'.cell? ⟨b, o + k + 2, none⟩ = some (.int .u8 q2.toNat) ∧ w'.cell? ⟨b, o + k + 3, none⟩ = some (.int .u8 q3.toNat))
    (first | exact S0 | exact cells4 S0 hb9 | exact cells4 (cells4 S0 hb9) hb19)
    (first | (go_at_call 28; refine hC9.mono ?_; rintro e w9 ⟨rfl, hb9⟩) | (go_at_call 27; refine (hC19 _).mono ?_; rintro e w19 ⟨rfl, hb19⟩))
  all_goals
    have hb1 : Below w.heap.size w w19 := below_on (below_on (Below.refl _ _).drew hb9) hb19
    have HT2 : Hid (Row w19 (some ⟨b, o, none⟩) body) := HT.out.later hb1
    have HL : Hid (body.length = k) := hlt
    clear hb9 hb19 S0 hC9 hC19 HT hRA hlt
    go_wp2_with (at_builtin; refine wpList_append_any rfl _ _ 23 rfl w.heap.size 5 i0 (.int .u8 0) 1 1 Try.underlying23 hi hz0 hz1 hz2 rfl (by decide) _ 0 [] rfl (World.ownsRow_nil _ _ _ _) (some ⟨b, o, none⟩) k c (cel body) rfl (fun h => by cases h) ?c0 HT2.out.cells (cel_one _) ?c3 ?c4 ?c5 ?_)
    case c0 => rw [cel_length, HL.out]; omega
    case c3 => unfold maxLen; omega
    case c4 => omega
    case c5 => exact hb1.size
    intro v2 w2 hown2 hg2
    have hb2 := hb1.grown hg2 hb1.size (fun k hk => by cases hk)
    have HV : w2.ownsRow w.heap.size 5 1 v2 body.length (cel body) := by rw [HL.out]; simpa using hown2
    clear hown2 hg2 hb1 HT2
    go_wp2
    go_ret2
    exact ⟨_, rfl, HV, hb2⟩

set_option maxHeartbeats 2000000 in
set_option maxRecDepth 100000 in
theorem open_not (b o c : Nat) (l : List UInt8) (w : World) (hr : Row w (some ⟨b, o, none⟩) l) (hlc : l.length ≤ c) (hcm0 : c ≤ maxLen) (h4 : 4 ≤ l.length) (hl : l.length ≤ 100000) (hs : sealed l = false) :
    Calls Try.prog 31 #[.slice (some ⟨b, o, none⟩) l.length c] w fun e w' => e = .returned (.tuple #[.slice none 0 0, .bool false]) ∧ Below w.heap.size w w' := by
  obtain ⟨q0, q1, q2, q3, hq⟩ := four (l.drop (l.length - 4)) (by rw [List.length_drop]; omega)
  obtain ⟨a0, a1, a2, a3, e4, ea⟩ := arr4_four (sm (l.take (l.length - 4)))
  have hsm := sm_lt (l.take (l.length - 4))
  have hlt : (l.take (l.length - 4)).length = l.length - 4 := by rw [List.length_take]; omega
  have hck : ¬ c = l.length - 4 := by omega
  obtain ⟨A, hA, hRA⟩ := hr.drop hlc (l.length - 4) (by omega)
  rw [if_neg hck] at hA
  obtain rfl := Option.some.inj hA
  rw [hq] at hRA
  have hC9 := sum_any (.slice (some ⟨b, o, none⟩) (l.take (l.length - 4)).length c) (l.take (l.length - 4)) w.drew ⟨_, _, rfl, hr.take _, (fun h => by cases h), by omega, hcm0⟩ (by omega)
  have hC19 := fun w1 => split_any (sm (l.take (l.length - 4))) w1 hsm
  rw [hlt] at hC9
  rw [ea] at hC19
  unfold maxLen at hcm0
  unfold sealed at hs
  rw [hq, e4] at hs
  clear e4 ea
  generalize sm (l.take (l.length - 4)) = S at hC9 hC19 hsm
  generalize l.take (l.length - 4) = body at hlt
  generalize hk : l.length - 4 = k at hck hRA hC9 hlt
  generalize l.length = n at hk hlc h4 hl ⊢
  have hn4 : (n : Int) - 4 = (k : Int) := by omega
  have hnk : n - k = 4 := by omega
  have hi1 : (0 : Int) ≤ (k : Int) := by omega
  have hi2 : (k : Int) ≤ (c : Int) := by omega
  have hi3 : (k : Int) ≤ (n : Int) := by omega
  have hi4 : (n : Int) ≤ (c : Int) := by omega
  have hi5 : ¬ (n : Int) < 4 := by omega
  have heq : ∀ w1 : World, (Op.equalIn 10000 45 (.agg #[.int .u8 q0.toNat, .int .u8 q1.toNat, .int .u8 q2.toNat, .int .u8 q3.toNat]) (.agg #[.int .u8 a0.toNat, .int .u8 a1.toNat, .int .u8 a2.toNat, .int .u8 a3.toNat])).run Try.prog w1 = .ok false w1 := fun w1 => by
    have h := run_equalIn_bytes (P := Try.prog) w1 9998 45 5 4 Try.underlying45 Try.underlying5 (fun _ => by kernel_rfl) [q0, q1, q2, q3] [a0, a1, a2, a3] rfl rfl
    rw [hs] at h
    exact h
  have harr : ∀ w1 : World, (Instr.arrayAt 45 (.slice (some ⟨b, o + k, none⟩) 4 (c - k))).run Try.prog w1 = .ok (.pointer (some ⟨b, o + k, none⟩)) w1 := fun w1 => by
    simp [Instr.arrayAt, go_sem]
  clear hr hq hs
  obtain ⟨g0, g1, g2, g3⟩ := hRA.at4
  have S0 : (fun w' : World => w'.cell? ⟨b, o + k, none⟩ = some (.int .u8 q0.toNat) ∧ w'.cell? ⟨b, o + k + 1, none⟩ = some (.int .u8 q1.toNat) ∧ w'.cell? ⟨b, o + k + 2, none⟩ = some (.int .u8 q2.toNat) ∧ w'.cell? ⟨b, o + k + 3, none⟩ = some (.int .u8 q3.toNat)) w.drew := ⟨g0, g1, g2, g3⟩
  clear g0 g1 g2 g3
  go_enter Try.func31, Try.ntmps31
  go_wp2
  go_region_held3 (fun w' => w'.cell? ⟨b, o + k, none⟩ = some (.int .u8 q0.toNat) ∧ w'.cell? ⟨b, o + k + 1, none⟩ = some (.int .u8 q1.toNat) ∧ w'.cell? ⟨b, o + k + 2, none⟩ = some (.int .u8 q2.toNat) ∧ w'.cell? ⟨b, o + k + 3, none⟩ = some (.int .u8 q3.toNat))
    (first | exact S0 | exact cells4 S0 hb9 | exact cells4 (cells4 S0 hb9) hb19)
    (first | (go_at_call 28; refine hC9.mono ?_; rintro e w9 ⟨rfl, hb9⟩) | (go_at_call 27; refine (hC19 _).mono ?_; rintro e w19 ⟨rfl, hb19⟩))
  all_goals
    have hb1 : Below w.heap.size w w19 := below_on (below_on (Below.refl _ _).drew hb9) hb19
    clear hb9 hb19 S0 hC9 hC19 hRA hlt
    go_wp2
    go_ret2
    exact ⟨rfl, hb1⟩

theorem open_any (v : Value) (l : List UInt8) (w : World) (h : Has w v l) (hl : l.length ≤ 100000) (hs : 4 ≤ l.length ∧ sealed l = true) :
    Calls Try.prog 31 #[v] w fun e w' => ∃ v', e = .returned (.tuple #[v', .bool true]) ∧ w'.ownsRow w.heap.size 5 1 v' (l.take (l.length - 4)).length (cel (l.take (l.length - 4))) ∧ Below w.heap.size w w' := by
  obtain ⟨p, c, rfl, hr, _, hlc, hcm⟩ := h
  obtain ⟨b, o, rfl, _⟩ := hr (by omega)
  exact open_long b o c l w hr hlc hcm hs.1 hl hs.2

theorem open_none (v : Value) (l : List UInt8) (w : World) (h : Has w v l) (hl : l.length ≤ 100000) (hs : ¬ (4 ≤ l.length ∧ sealed l = true)) :
    Calls Try.prog 31 #[v] w fun e w' => e = .returned (.tuple #[.slice none 0 0, .bool false]) ∧ Below w.heap.size w w' := by
  obtain ⟨p, c, rfl, hr, _, hlc, hcm⟩ := h
  rcases Nat.lt_or_ge l.length 4 with h4 | h4
  · exact (open_short p l.length c w h4).mono fun e w' ⟨he, hw⟩ => ⟨he, by rw [hw]; exact Below.refl _ _⟩
  · obtain ⟨b, o, rfl, _⟩ := hr (by omega)
    refine open_not b o c l w hr hlc hcm h4 hl ?_
    cases hq : sealed l
    · rfl
    · exact absurd ⟨h4, hq⟩ hs

end Go.Proofs.Ytnfejhkgcbabfaa.Cr
/- The program's Size, and its numbers of four bytes: split and count. -/
namespace Go.Proofs.Ytnfejhkgcbabfaa
open Go.RowKit

set_option maxHeartbeats 2000000 in
set_option maxRecDepth 100000 in
theorem pSize_any (u : Value) (l : List UInt8) (w : World) (h : DB w u l) : Calls Try.prog 16 #[u] w (Tells (.int .i64 (sizR l)) w) := by
  have hml := maxLen_lt h.1
  obtain ⟨p, c, rfl⟩ := SHas.slice h
  clear h
  obtain ⟨z, HZ⟩ := hid_ex (sizR l)
  rw [HZ.out]
  unfold sizR at HZ
  go_enter Try.func16, Try.ntmps16
  by_cases h6 : 60000 < l.length
  · have h6' : (60000 : Int) < (l.length : Int) := by omega
    rw [if_pos h6] at HZ
    obtain rfl := HZ.out
    go_wp2_with fail
    go_ret
    exact ⟨rfl, Below.refl _ _⟩
  · have h6' : ¬ (60000 : Int) < (l.length : Int) := by omega
    rw [if_neg h6] at HZ
    obtain rfl := HZ.out
    go_wp2_with fail
    go_ret
    exact ⟨(by simp; omega), Below.refl _ _⟩
/-- The k lowest bytes of a number, the highest first, behind zeros. -/
def spK (n k : Nat) : Array Value := #[.int .u8 (if 4 ≤ k then (n / 16777216 % 256 : Nat) else 0 : Nat), .int .u8 (if 3 ≤ k then (n / 65536 % 256 : Nat) else 0 : Nat), .int .u8 (if 2 ≤ k then (n / 256 % 256 : Nat) else 0 : Nat), .int .u8 (if 1 ≤ k then (n % 256 : Nat) else 0 : Nat)]
theorem spK_four (n : Nat) : spK n 4 = (cel (be4 n)).toArray := by
  simp [spK, cel, be4]
theorem spK_next (n k : Nat) (hk : k < 4) : (spK n k).setIfInBounds (3 - k) (.int .u8 (n / 256 ^ k % 256 : Nat)) = spK n (k + 1) := by
  match k, hk with
  | 0, _ => simp [spK]
  | 1, _ => simp [spK]
  | 2, _ => simp [spK]
  | 3, _ => simp [spK]
theorem spK_at (n k : Nat) (hk : k < 4) : (spK n k)[3 - k]? = some (.int .u8 0) := by
  match k, hk with
  | 0, _ => simp [spK]
  | 1, _ => simp [spK]
  | 2, _ => simp [spK]
  | 3, _ => simp [spK]
theorem info45 : (Try.prog.info? 45).map (·.size) = some 4 := by kernel_rfl
set_option maxHeartbeats 4000000 in
set_option maxRecDepth 100000 in
theorem pSplit_any (n : Nat) (w : World) (hn : n ≤ 60000) : Calls Try.prog 19 #[.int .i64 n] w (Tells (.agg (cel (be4 n)).toArray) w) := by
  rw [← spK_four]
  have HB0 : Below w.heap.size w ((w.alloc (.cells #[.int .u8 0, .int .u8 0, .int .u8 0, .int .u8 0] 45)).alloc (.cells #[.int .u8 0, .int .u8 0, .int .u8 0, .int .u8 0] 45)) := bel_alloc (bel_alloc (Below.refl _ _) _) _
  have HR0 : Rw ((w.alloc (.cells #[.int .u8 0, .int .u8 0, .int .u8 0, .int .u8 0] 45)).alloc (.cells #[.int .u8 0, .int .u8 0, .int .u8 0, .int .u8 0] 45)) w.heap.size 45 #[.int .u8 0, .int .u8 0, .int .u8 0, .int .u8 0] := (rw_new w 45 _).alloc _
  have HR1 : Rw ((w.alloc (.cells #[.int .u8 0, .int .u8 0, .int .u8 0, .int .u8 0] 45)).alloc (.cells #[.int .u8 0, .int .u8 0, .int .u8 0, .int .u8 0] 45)) (w.heap.size + 1) 45 (spK n 0) := rw_next _ (by simp) 45 _
  go_enter Try.func19, Try.ntmps19
  go_upto_region 3 with fail
  generalize (w.alloc (.cells #[.int .u8 0, .int .u8 0, .int .u8 0, .int .u8 0] 45)).alloc (.cells #[.int .u8 0, .int .u8 0, .int .u8 0, .int .u8 0] 45) = w1 at HB0 HR0 HR1 ⊢
  go_loopw [0, 4, 5] (fun v0 _ v5 wr => ∃ k : Nat, v5 = .int .i64 k ∧ v0 = .int .i64 (n / 256 ^ k : Nat) ∧ k ≤ 4 ∧ Rw wr w.heap.size 45 #[.int .u8 0, .int .u8 0, .int .u8 0, .int .u8 0] ∧ Rw wr (w.heap.size + 1) 45 (spK n k) ∧ Below w.heap.size w wr) (fun _ _ v5 _ => 4 - (intOf v5).toNat)
  case atStart => exact ⟨0, rfl, by simp, by omega, HR0, HR1, HB0⟩
  case round =>
    clear HB0 HR0 HR1
    obtain ⟨k, rfl, rfl, hk, HR0, HR1, HB⟩ := hrel
    by_cases h4 : k < 4
    · have h4' : (k : Int) < 4 := by omega
      have hn2 : n / 256 ^ k ≤ 60000 := Nat.le_trans (Nat.div_le_self _ _) hn
      have HN : Hid (n / 256 ^ k / 256 = n / 256 ^ (k + 1)) := by show _ = _; rw [Nat.div_div_eq_div_mul, Nat.pow_succ]
      have HS := spK_next n k h4
      have em : ((n / 256 ^ k % 256 : Nat) : Int) = ((n / 256 ^ k : Nat) : Int) % 256 := by omega
      have HR2 : Hid (Rw (wr.setCell ⟨w.heap.size + 1, 3 - k, none⟩ (.int .u8 (((n / 256 ^ k : Nat) : Int) % 256))) (w.heap.size + 1) 45 (spK n (k + 1))) := by
        have h9 := HR1.set (3 - k) (.int .u8 (n / 256 ^ k % 256 : Nat))
        rw [HS, em] at h9
        exact h9
      have HR3 : Hid (Rw (wr.setCell ⟨w.heap.size + 1, 3 - k, none⟩ (.int .u8 (((n / 256 ^ k : Nat) : Int) % 256))) w.heap.size 45 #[.int .u8 0, .int .u8 0, .int .u8 0, .int .u8 0]) := HR0.setOther (by omega) _ _
      have HB3 : Hid (Below w.heap.size w (wr.setCell ⟨w.heap.size + 1, 3 - k, none⟩ (.int .u8 (((n / 256 ^ k : Nat) : Int) % 256)))) := HB.setCell (Nat.le_succ _) _
      have hc := HR1.cell (3 - k)
      rw [spK_at n k h4] at hc
      have hf := HR1.frozen (3 - k)
      clear HS em HR0 HR1 HB
      generalize n / 256 ^ k = m at *
      go_wp2_with fail
      go_roundw
      case rel => exact ⟨k + 1, by simp, by rw [← HN.out]; simp, by omega, HR3.out, HR2.out, HB3.out⟩
      case measure => simp [intOf]; omega
    · obtain rfl : k = 4 := by omega
      have z4 : (spK n 4).size = 4 := rfl
      have hall : (spK n 4).all (·.oneCell') = true := by rw [spK_four]; simp [cel, be4, Value.oneCell']
      go_wp2_with (first | refine load_r 45 _ rfl rfl _ rfl HR1 Try.underlying45 rfl info45 ?_ | refine store_r rfl 45 _ _ rfl _ (spK n 4) rfl rfl HR0 info45 rfl hall ?_)
      have HF := HR0.row (spK n 4)
      have HBF := below_setRow HB (g := w.heap.size) (Nat.le_refl _) (spK n 4)
      refine bodyPost_ret (results_r (fn := Try.f19) (t := 2) (ty := 45) rfl rfl HF rfl Try.underlying45 info45) rfl ⟨rfl, HBF⟩
/-- Two numbers, the lower one below what the higher one begins at. -/
theorem u32_or (t : Nat) (c : UInt8) (ht : t < 16777216) : bits .or .u32 (256 * (t : Int)) (c.toNat : Int) = ((256 * t + c.toNat : Nat) : Int) := by
  have hc := c.toNat_lt
  have e1 : (256 * t) ||| c.toNat = 256 * t + c.toNat := by
    have := Nat.two_pow_add_eq_or_of_lt (i := 8) (b := c.toNat) (by omega) t
    rw [show (2 : Nat) ^ 8 * t = 256 * t by rfl] at this
    exact this.symm
  have h2 : (256 * (t : Int)) = ((256 * t : Nat) : Int) := by omega
  rw [h2]
  show IntKind.u32.wrap ((BitVec.ofInt 32 ((256 * t : Nat) : Int) ||| BitVec.ofInt 32 (c.toNat : Int)).toNat : Int) = _
  rw [BitVec.toNat_or, Cr.u32_nat _ (by omega), Cr.u32_nat _ (by omega), e1, IntKind.wrap_u32]
  omega
theorem val4_cons (a b c d : UInt8) : val4 [a, b, c, d] = 256 * (256 * (256 * a.toNat + b.toNat) + c.toNat) + d.toNat := by simp [val4]
set_option maxHeartbeats 4000000 in
set_option maxRecDepth 100000 in
theorem pCount_any (L : List UInt8) (w : World) (hL : L.length = 4) : Calls Try.prog 30 #[.agg (cel L).toArray] w (Tells (.int .u32 (val4 L : Nat)) w) := by
  have HB0 : Below w.heap.size w (w.alloc (.cells (cel L).toArray 45)) := bel_alloc (Below.refl _ _) _
  have HR0 : Rw (w.alloc (.cells (cel L).toArray 45)) w.heap.size 45 (cel L).toArray := rw_new w 45 _
  have hs : (cel L).toArray.size = 4 := by simp [cel, hL]
  go_enter Try.func30, Try.ntmps30
  go_upto_region 2 with fail
  generalize w.alloc (.cells (cel L).toArray 45) = w1 at HB0 HR0 ⊢
  go_upto_region 3 with (refine load_r 45 _ rfl rfl _ rfl HR0 Try.underlying45 rfl (by rw [hs]; exact info45) ?_)
  go_loopw [3, 5, 7] (fun v3 _ v7 wr => ∃ k : Nat, v7 = .int .i64 k ∧ v3 = .int .u32 (val4 (L.take k) : Nat) ∧ k ≤ 4 ∧ Below w.heap.size w wr) (fun _ _ v7 _ => 4 - (intOf v7).toNat)
  case atStart => exact ⟨0, rfl, by simp [val4], by omega, HB0⟩
  case round =>
    clear HB0 HR0
    obtain ⟨k, rfl, rfl, hk, HB⟩ := hrel
    by_cases h4 : k < 4
    · have h4' : (k : Int) < 4 := by omega
      have hlt : val4 (L.take k) < 16777216 := by
        refine Nat.lt_of_lt_of_le (val4_lt _) ?_
        rw [List.length_take]
        exact Nat.le_trans (Nat.pow_le_pow_right (n := 256) (j := 3) (by decide) (by omega)) (by decide)
      have hx : ∀ w' : World, (Instr.index 45 (.agg (cel L).toArray) (.int .i64 k)).run Try.prog w' = .ok (.int .u8 (L[k]'(by omega)).toNat) w' := fun w' => by
        simp [Instr.index, go_sem, cel, hL, h4]
      have HV : Hid (val4 (L.take (k + 1)) = 256 * val4 (L.take k) + (L[k]'(by omega)).toNat) := by
        show _ = _
        rw [List.take_succ_eq_append_getElem (by omega), val4_snoc]
      have ho := u32_or _ (L[k]'(by omega)) hlt
      have hc := (L[k]'(by omega)).toNat_lt
      generalize L[k]'(by omega) = c at *
      generalize val4 (L.take k) = t at *
      have es : IntKind.u32.wrap (256 * (t : Int)) = 256 * (t : Int) := by rw [IntKind.wrap_u32]; omega
      go_wp2_with fail
      go_roundw
      case rel => exact ⟨k + 1, by simp, by rw [HV.out, Int.mul_comm (t : Int) 256, ho], by omega, HB⟩
      case measure => simp [intOf]; omega
    · obtain rfl : k = 4 := by omega
      rw [show L.take 4 = L from List.take_of_length_le (by omega)]
      go_wp2_with fail
      go_ret
      exact ⟨rfl, HB⟩
end Go.Proofs.Ytnfejhkgcbabfaa
/- The library's Grow of no slice, and Concat of slices of bytes. -/
namespace Go.Proofs.Ytnfejhkgcbabfaa
open Go.RowKit

set_option maxHeartbeats 4000000 in
set_option maxRecDepth 100000 in
theorem grow_any (n : Nat) (w : World) (hn : n ≤ 1000000) : Calls Try.prog 26 #[.slice none 0 0, .int .i64 n] w fun e w' => ∃ v, e = .returned v ∧ w'.ownsRow w.heap.size 5 1 v 0 [] ∧ Below w.heap.size w w' := by
  obtain ⟨i, hi, e⟩ := Option.map_eq_some_iff.1 info5
  simp only [Prod.mk.injEq] at e
  go_enter Try.func26, Try.ntmps26
  rcases Nat.eq_zero_or_pos n with rfl | h0
  · go_wp2_with fail
    go_ret
    exact ⟨_, rfl, World.ownsRow_nil _ _ _ _, Below.refl _ _⟩
  · have h0' : (0 : Int) < (n : Int) := by omega
    have hneg : ¬ (n : Int) < 0 := by omega
    have hr := Lib.run_append_nil_zeros (P := Try.prog) w 23 3 23 5 i (.int .u8 0) .i64 .i64 Try.underlying23 Try.underlying3 hi e.1 n h0 (by rw [e.2.1]; decide) (by omega) (by rw [e.2.2]; omega)
    go_wp2_with (at_builtin; refine Lib.wpList_append_run _ rfl _ _ _ _ rfl _ _ rfl rfl _ _ hr ?_)
    go_ret
    have hge := grownCap_ge w n 0 5
    have hle := grownCap_le_maxLen w n 0 5 (Nat.le_trans hn (by decide))
    generalize grownCap w n 0 5 = cp at *
    have hsz : (Builtin.zeroCells #[Value.int .u8 0] n ++ Builtin.zeroCells #[Value.int .u8 0] (cp - n)).size = cp * 1 := by
      rw [Array.size_append, size_zeroCells, size_zeroCells]
      simp
      omega
    exact ⟨_, rfl, World.ownsRow_made (base := w.heap.size) w _ cp (Nat.le_refl _) hle hsz, (bel_alloc (Below.refl _ _) _).drew⟩
/-- How many bytes there are. -/
def lenSum (l : List (List UInt8)) : Nat := (l.map List.length).sum
theorem flat_length (l : List (List UInt8)) : l.flatten.length = lenSum l := List.length_flatten
theorem lenSum_append (a b : List (List UInt8)) : lenSum (a ++ b) = lenSum a + lenSum b := by
  unfold lenSum
  rw [List.map_append, List.sum_append_nat]
theorem lenSum_next {l : List (List UInt8)} {k : Nat} (hk : k < l.length) : lenSum (l.take (k + 1)) = lenSum (l.take k) + l[k].length := by
  rw [List.take_succ_eq_append_getElem hk, lenSum_append]
  rfl
theorem flat_next {l : List (List UInt8)} {k : Nat} (hk : k < l.length) : (l.take (k + 1)).flatten = (l.take k).flatten ++ l[k] := by
  rw [List.take_succ_eq_append_getElem hk, List.flatten_append]
  simp
theorem lenSum_take (l : List (List UInt8)) (k : Nat) : lenSum (l.take k) ≤ lenSum l := by
  have := lenSum_append (l.take k) (l.drop k)
  rw [List.take_append_drop] at this
  omega
set_option maxHeartbeats 4000000 in
set_option maxRecDepth 100000 in
theorem concat_any (v : Value) (l : List (List UInt8)) (w : World) (hv : BHas w v l) (hs : lenSum l ≤ 1000000) : Calls Try.prog 20 #[v] w fun e w' => ∃ u, e = .returned u ∧ w'.ownsRow w.heap.size 5 1 u l.flatten.length (cel l.flatten) ∧ Below w.heap.size w w' := by
  have hml := maxLen_lt hv.max
  obtain ⟨p, c, rfl⟩ := hv.slice
  have HV : Hid (∀ w', Below w.heap.size w w' → BHas w' (.slice p l.length c) l) := fun w' hb => hv.later hb
  clear hv
  go_enter Try.func20, Try.ntmps20
  go_upto_region 3 with fail
  go_loopw [3, 5, 11] (fun vs _ vi wr => ∃ k : Nat, vi = .int .i64 k ∧ vs = .int .i64 (lenSum (l.take k) : Nat) ∧ k ≤ l.length ∧ w = wr) (fun _ _ vi _ => l.length - (intOf vi).toNat)
  case atStart => exact ⟨0, rfl, by simp [lenSum], by omega, rfl⟩
  case round =>
    obtain ⟨k, rfl, rfl, hk, rfl⟩ := hrel
    by_cases hlt : k < l.length
    · have hlt' : (k : Int) < (l.length : Int) := by omega
      obtain ⟨g, o, sl, rfl, hc, hd⟩ := (HV.out _ (Below.refl _ _)).at k hlt
      have hn := lenSum_next hlt
      have ht := lenSum_take l (k + 1)
      obtain ⟨ps, cs, rfl⟩ := SHas.slice hd
      have HS : Hid (lenSum (l.take (k + 1)) = lenSum (l.take k) + l[k].length) := hn
      generalize l[k].length = m at *
      generalize lenSum (l.take k) = t at *
      have htm : t + m ≤ 1000000 := by omega
      have e1 : IntKind.i64.wrap ((t : Int) + (m : Int)) = ((t + m : Nat) : Int) := by rw [IntKind.wrap_i64]; omega
      have hneg : ¬ ((t + m : Nat) : Int) < 0 := by omega
      clear hd hn ht
      go_wp2_with fail
      go_roundw
      case rel => exact ⟨k + 1, by simp, by rw [HS.out]; try simp, by omega, by trivial⟩
      case measure => simp [intOf]; omega
    · obtain rfl : k = l.length := by omega
      rw [List.take_length]
      have C := grow_any (lenSum l) w hs
      clear hlt hk
      go_wp2_with fail
      refine C.mono ?_
      rintro e w1 ⟨u, rfl, hown, hb1⟩
      clear C
      go_upto_region 11 with fail
      go_loopw [6, 8, 27] (fun vu _ vi wq => ∃ k : Nat, vi = .int .i64 k ∧ wq.ownsRow w.heap.size 5 1 vu (l.take k).flatten.length (cel (l.take k).flatten) ∧ k ≤ l.length ∧ Below w.heap.size w wq) (fun _ _ vi _ => l.length - (intOf vi).toNat)
      case atStart => exact ⟨0, rfl, by simpa [cel] using hown, by omega, hb1⟩
      case round =>
        clear hown hb1
        obtain ⟨k, rfl, hown, hk, hb1⟩ := hrel
        by_cases hlt : k < l.length
        · have hlt' : (k : Int) < (l.length : Int) := by omega
          obtain ⟨g, o, sl, rfl, hc, hd⟩ := (HV.out _ hb1).at k hlt
          have hfl : (l.take k).flatten.length + l[k].length ≤ 10000000 := by
            have h1 := lenSum_next hlt
            have h2 := lenSum_take l (k + 1)
            rw [flat_length]
            omega
          have HF : Hid ((l.take (k + 1)).flatten = (l.take k).flatten ++ l[k]) := flat_next hlt
          obtain ⟨ps, cs, rfl⟩ := SHas.slice hd
          generalize (l.take k).flatten = F at *
          obtain ⟨pu, cu, rfl⟩ := own_sl hown
          generalize l[k] = y at *
          go_wp2_with (at_builtin; refine append_db rfl _ _ rfl rfl rfl hown hd hfl hb1.size ?_)
          intro v2 w2 O2 hg2
          have hb2 : Below w.heap.size w w2 := hb1.grown hg2 hb1.size (own_block hown)
          obtain ⟨p2, c2, rfl⟩ := own_sl O2
          clear hown hd hc hg2
          go_wp2_with fail
          go_roundw
          case rel => exact ⟨k + 1, by simp, by rw [HF.out, List.length_append]; exact O2, by omega, hb2⟩
          case measure => simp [intOf]; omega
        · obtain rfl : k = l.length := by omega
          rw [List.take_length] at hown
          clear hlt hk
          go_wp2_with fail
          go_ret
          exact ⟨_, rfl, hown, hb1⟩
end Go.Proofs.Ytnfejhkgcbabfaa
/- Two operations that may come up in a region that draws its order. Nothing of one program. -/
namespace Go.Proofs.Ytnfejhkgcbabfaa.HeldI

section
variable {P : Program} {ops : Array Oper} {Q : Exit → Act → World → Prop} {S : World → Prop} {fuel : Nat} {listed : Array Bool} {a a' : Act} {w w1 : World} {o oi oj : Oper}
theorem al2 (i j : Nat) (h1 : oi.wp P a w (fun a' w' => S w' ∧ wpAnyH P .any ops Q S fuel (listed.setIfInBounds i true) a' w') Q) (h2 : oj.wp P a w (fun a' w' => S w' ∧ wpAnyH P .any ops Q S fuel (listed.setIfInBounds j true) a' w') Q)
    (hi : ops[i]? = some oi := by (simp only [List.getElem?_toArray, List.getElem?_cons_succ, List.getElem?_cons_zero]; rfl)) (hj : ops[j]? = some oj := by (simp only [List.getElem?_toArray, List.getElem?_cons_succ, List.getElem?_cons_zero]; rfl)) (hr : Region.ready .any ops listed = [i, j] := by kernel_rfl) (hwi : Region.wanted oi (yielded ops a.tmps) = true := by rfl) (hwj : Region.wanted oj (yielded ops a.tmps) = true := by rfl) : wpAnyH P .any ops Q S (fuel + 1) listed a w :=
  wpAnyH_all hr (by simp) fun k hk => by
    simp only [List.mem_cons, List.not_mem_nil, or_false] at hk
    rcases hk with rfl | rfl
    · unfold wpOp
      simp only [hi, hwi, if_true]
      exact .inl h1
    · unfold wpOp
      simp only [hj, hwj, if_true]
      exact .inl h2
/-- It comes to a value, whatever it writes. -/
theorem wpv {K : Act → World → Prop} {v : Value} (hv : (execOp a.eval o).run P w = .ok (.value v) w1) (hS : S w1) (h : K a' w1) (hp : a.put o.dst v = a' := by (simp only [Act.put, List.setIfInBounds_toArray, List.set_cons_zero, List.set_cons_succ]; rfl)) : o.wp P a w (fun a' w' => S w' ∧ K a' w') Q := by
  unfold Oper.wp
  rw [hv]
  exact ⟨hS, hp ▸ h⟩
/-- A store of a struct. -/
theorem wps {K : Act → World → Prop} {t : TypeId} {x y : Operand} {pv vv : Value} (hv : (Instr.storeAt t pv vv).run P w = .ok () w1) (hS : S w1) (h : K a' w1) (ho : o.op = .store t x y := by rfl) (hx : a.eval x = pv := by rfl) (hy : a.eval y = vv := by rfl) (hp : a.put o.dst undef = a' := by (simp only [Act.put, List.setIfInBounds_toArray, List.set_cons_zero, List.set_cons_succ]; rfl)) : o.wp P a w (fun a' w' => S w' ∧ K a' w') Q := by
  unfold Oper.wp execOp
  simp only [ho, hx, hy, Sem.run_bind, hv, Result.andThen_ok, Sem.run_pure]
  exact ⟨hS, hp ▸ h⟩
end
end Go.Proofs.Ytnfejhkgcbabfaa.HeldI
