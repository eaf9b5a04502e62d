/- The function Open of package crc: what is sealed, in new memory, and true; else nothing, and false. -/
import Derived.Test.YtdakfgoldjkokaaSeal
import Derived.Stop.BytesEq
namespace Go.Proofs.Ytdakfgoldjkokaa
open Go.RowKit Crc

set_option maxHeartbeats 1000000 in
set_option maxRecDepth 100000 in
theorem open_short (p : Option Addr) (len c : Nat) (w : World) (hl : len < 4) :
    Calls Try.prog 11 #[.slice p len c] w fun e w' => e = .returned (.tuple #[.slice none 0 0, .bool false]) ∧ w' = w := by
  go_enter Try.func11, Try.ntmps11
  go_wp2
  go_ret2
  exact ⟨rfl, rfl⟩

theorem four (l : List UInt8) (h : l.length = 4) : ∃ a b c d, l = [a, b, c, d] := by
  match l, h with
  | [a, b, c, d], _ => exact ⟨a, b, c, d, rfl⟩

theorem Row.at4 {w : World} {b m : Nat} {q0 q1 q2 q3 : UInt8} (h : Row w (some ⟨b, m, none⟩) [q0, q1, q2, q3]) :
    w.cell? ⟨b, m, none⟩ = some (.int .u8 q0.toNat) ∧ w.cell? ⟨b, m + 1, none⟩ = some (.int .u8 q1.toNat) ∧ w.cell? ⟨b, m + 2, none⟩ = some (.int .u8 q2.toNat) ∧ w.cell? ⟨b, m + 3, none⟩ = some (.int .u8 q3.toNat) := by
  obtain ⟨b', o', e, hc⟩ := h (by simp)
  cases e
  exact ⟨hc 0 (by simp), hc 1 (by simp), hc 2 (by simp), hc 3 (by simp)⟩

theorem cells4 {w w' : World} {b m : Nat} {x0 x1 x2 x3 : Value} (h : w.cell? ⟨b, m, none⟩ = some x0 ∧ w.cell? ⟨b, m + 1, none⟩ = some x1 ∧ w.cell? ⟨b, m + 2, none⟩ = some x2 ∧ w.cell? ⟨b, m + 3, none⟩ = some x3) (hb : Below w.heap.size w w') :
    w'.cell? ⟨b, m, none⟩ = some x0 ∧ w'.cell? ⟨b, m + 1, none⟩ = some x1 ∧ w'.cell? ⟨b, m + 2, none⟩ = some x2 ∧ w'.cell? ⟨b, m + 3, none⟩ = some x3 := by
  obtain ⟨h0, h1, h2, h3⟩ := h
  exact ⟨(hb.cell (World.block_lt_of_cell? w _ h0)).trans h0, (hb.cell (World.block_lt_of_cell? w _ h1)).trans h1, (hb.cell (World.block_lt_of_cell? w _ h2)).trans h2, (hb.cell (World.block_lt_of_cell? w _ h3)).trans h3⟩

set_option maxHeartbeats 2000000 in
set_option maxRecDepth 100000 in
theorem open_long (b o c : Nat) (l : List UInt8) (w : World) (hr : Row w (some ⟨b, o, none⟩) l) (hlc : l.length ≤ c) (hcm0 : c ≤ maxLen) (h4 : 4 ≤ l.length) (hl : l.length ≤ 100000) (hs : sealed l = true) :
    Calls Try.prog 11 #[.slice (some ⟨b, o, none⟩) l.length c] w fun e w' => ∃ v, e = .returned (.tuple #[v, .bool true]) ∧ Has w' v (l.take (l.length - 4)) ∧ Below w.heap.size w w' := by
  obtain ⟨i0, hi, hz0, hz1, hz2⟩ := info_parts info5
  obtain ⟨q0, q1, q2, q3, hq⟩ := four (l.drop (l.length - 4)) (by rw [List.length_drop]; omega)
  obtain ⟨a0, a1, a2, a3, e4, ea⟩ := arr4_four (sm (l.take (l.length - 4)))
  have hsm := sm_lt (l.take (l.length - 4))
  have hlt : (l.take (l.length - 4)).length = l.length - 4 := by rw [List.length_take]; omega
  have hck : ¬ c = l.length - 4 := by omega
  obtain ⟨A, hA, hRA⟩ := hr.drop hlc (l.length - 4) (by omega)
  rw [if_neg hck] at hA
  obtain rfl := Option.some.inj hA
  rw [hq] at hRA
  have hC9 := sum_any (.slice (some ⟨b, o, none⟩) (l.take (l.length - 4)).length c) (l.take (l.length - 4)) w.drew ⟨_, _, rfl, hr.take _, (fun h => by cases h), by omega, hcm0⟩ (by omega)
  have hC19 := fun w1 => split_any (sm (l.take (l.length - 4))) w1 hsm
  rw [hlt] at hC9
  rw [ea] at hC19
  have HT : Hid (Row w (some ⟨b, o, none⟩) (l.take (l.length - 4))) := hr.take _
  unfold maxLen at hcm0
  unfold sealed at hs
  rw [hq, e4] at hs
  clear e4 ea
  generalize sm (l.take (l.length - 4)) = S at hC9 hC19 hsm
  generalize l.take (l.length - 4) = body at hlt HT ⊢
  generalize hk : l.length - 4 = k at hck hRA hC9 hlt
  generalize l.length = n at hk hlc h4 hl ⊢
  have hn4 : (n : Int) - 4 = (k : Int) := by omega
  have hnk : n - k = 4 := by omega
  have hi1 : (0 : Int) ≤ (k : Int) := by omega
  have hi2 : (k : Int) ≤ (c : Int) := by omega
  have hi3 : (k : Int) ≤ (n : Int) := by omega
  have hi4 : (n : Int) ≤ (c : Int) := by omega
  have hi5 : ¬ (n : Int) < 4 := by omega
  have heq : ∀ w1 : World, (Op.equalIn 10000 38 (.agg #[.int .u8 q0.toNat, .int .u8 q1.toNat, .int .u8 q2.toNat, .int .u8 q3.toNat]) (.agg #[.int .u8 a0.toNat, .int .u8 a1.toNat, .int .u8 a2.toNat, .int .u8 a3.toNat])).run Try.prog w1 = .ok true w1 := fun w1 => by
    have h := run_equalIn_bytes (P := Try.prog) w1 9998 38 5 4 Try.underlying38 Try.underlying5 (fun _ => by kernel_rfl) [q0, q1, q2, q3] [a0, a1, a2, a3] rfl rfl
    rw [hs] at h
    exact h
  have harr : ∀ w1 : World, (Instr.arrayAt 38 (.slice (some ⟨b, o + k, none⟩) 4 (c - k))).run Try.prog w1 = .ok (.pointer (some ⟨b, o + k, none⟩)) w1 := fun w1 => by
    simp [Instr.arrayAt, go_sem]
  clear hr hq hs
  obtain ⟨g0, g1, g2, g3⟩ := hRA.at4
  have S0 : (fun w' : World => w'.cell? ⟨b, o + k, none⟩ = some (.int .u8 q0.toNat) ∧ w'.cell? ⟨b, o + k + 1, none⟩ = some (.int .u8 q1.toNat) ∧ w'.cell? ⟨b, o + k + 2, none⟩ = some (.int .u8 q2.toNat) ∧ w'.cell? ⟨b, o + k + 3, none⟩ = some (.int .u8 q3.toNat)) w.drew := ⟨g0, g1, g2, g3⟩
  clear g0 g1 g2 g3
  go_enter Try.func11, Try.ntmps11
  go_wp2
  go_region_held3 (fun w' => w'.cell? ⟨b, o + k, none⟩ = some (.int .u8 q0.toNat) ∧ w'.cell? ⟨b, o + k + 1, none⟩ = some (.int .u8 q1.toNat) ∧ w'.cell? ⟨b, o + k + 2, none⟩ = some (.int .u8 q2.toNat) ∧ w'.cell? ⟨b, o + k + 3, none⟩ = some (.int .u8 q3.toNat))
    (first | exact S0 | exact cells4 S0 hb9 | exact cells4 (cells4 S0 hb9) hb19)
    (first | (go_at_call 9; refine hC9.mono ?_; rintro e w9 ⟨rfl, hb9⟩) | (go_at_call 19; refine (hC19 _).mono ?_; rintro e w19 ⟨rfl, hb19⟩))
  all_goals
    have hb1 : Below w.heap.size w w19 := below_on (below_on (Below.refl _ _).drew hb9) hb19
    have HT2 : Hid (Row w19 (some ⟨b, o, none⟩) body) := HT.out.later hb1
    have HL : Hid (body.length = k) := hlt
    clear hb9 hb19 S0 hC9 hC19 HT hRA hlt
    go_wp2_with (at_builtin; refine wpList_append_any rfl _ _ 22 rfl w.heap.size 5 i0 (.int .u8 0) 1 1 Try.underlying22 hi hz0 hz1 hz2 rfl (by decide) _ 0 [] rfl (World.ownsRow_nil _ _ _ _) (some ⟨b, o, none⟩) k c (cel body) rfl (fun h => by cases h) ?c0 HT2.out.cells (cel_one _) ?c3 ?c4 ?c5 ?_)
    case c0 => rw [cel_length, HL.out]; omega
    case c3 => unfold maxLen; omega
    case c4 => omega
    case c5 => exact hb1.size
    intro v2 w2 hown2 hg2
    have hb2 := hb1.grown hg2 hb1.size (fun k hk => by cases hk)
    have HV : Has w2 v2 body := own_has (B := w.heap.size) (by rw [HL.out]; simpa using hown2)
    clear hown2 hg2 hb1 HT2
    go_wp2
    go_ret2
    exact ⟨_, rfl, HV, hb2⟩

set_option maxHeartbeats 2000000 in
set_option maxRecDepth 100000 in
theorem open_not (b o c : Nat) (l : List UInt8) (w : World) (hr : Row w (some ⟨b, o, none⟩) l) (hlc : l.length ≤ c) (hcm0 : c ≤ maxLen) (h4 : 4 ≤ l.length) (hl : l.length ≤ 100000) (hs : sealed l = false) :
    Calls Try.prog 11 #[.slice (some ⟨b, o, none⟩) l.length c] w fun e w' => e = .returned (.tuple #[.slice none 0 0, .bool false]) ∧ Below w.heap.size w w' := by
  obtain ⟨q0, q1, q2, q3, hq⟩ := four (l.drop (l.length - 4)) (by rw [List.length_drop]; omega)
  obtain ⟨a0, a1, a2, a3, e4, ea⟩ := arr4_four (sm (l.take (l.length - 4)))
  have hsm := sm_lt (l.take (l.length - 4))
  have hlt : (l.take (l.length - 4)).length = l.length - 4 := by rw [List.length_take]; omega
  have hck : ¬ c = l.length - 4 := by omega
  obtain ⟨A, hA, hRA⟩ := hr.drop hlc (l.length - 4) (by omega)
  rw [if_neg hck] at hA
  obtain rfl := Option.some.inj hA
  rw [hq] at hRA
  have hC9 := sum_any (.slice (some ⟨b, o, none⟩) (l.take (l.length - 4)).length c) (l.take (l.length - 4)) w.drew ⟨_, _, rfl, hr.take _, (fun h => by cases h), by omega, hcm0⟩ (by omega)
  have hC19 := fun w1 => split_any (sm (l.take (l.length - 4))) w1 hsm
  rw [hlt] at hC9
  rw [ea] at hC19
  unfold maxLen at hcm0
  unfold sealed at hs
  rw [hq, e4] at hs
  clear e4 ea
  generalize sm (l.take (l.length - 4)) = S at hC9 hC19 hsm
  generalize l.take (l.length - 4) = body at hlt
  generalize hk : l.length - 4 = k at hck hRA hC9 hlt
  generalize l.length = n at hk hlc h4 hl ⊢
  have hn4 : (n : Int) - 4 = (k : Int) := by omega
  have hnk : n - k = 4 := by omega
  have hi1 : (0 : Int) ≤ (k : Int) := by omega
  have hi2 : (k : Int) ≤ (c : Int) := by omega
  have hi3 : (k : Int) ≤ (n : Int) := by omega
  have hi4 : (n : Int) ≤ (c : Int) := by omega
  have hi5 : ¬ (n : Int) < 4 := by omega
  have heq : ∀ w1 : World, (Op.equalIn 10000 38 (.agg #[.int .u8 q0.toNat, .int .u8 q1.toNat, .int .u8 q2.toNat, .int .u8 q3.toNat]) (.agg #[.int .u8 a0.toNat, .int .u8 a1.toNat, .int .u8 a2.toNat, .int .u8 a3.toNat])).run Try.prog w1 = .ok false w1 := fun w1 => by
    have h := run_equalIn_bytes (P := Try.prog) w1 9998 38 5 4 Try.underlying38 Try.underlying5 (fun _ => by kernel_rfl) [q0, q1, q2, q3] [a0, a1, a2, a3] rfl rfl
    rw [hs] at h
    exact h
  have harr : ∀ w1 : World, (Instr.arrayAt 38 (.slice (some ⟨b, o + k, none⟩) 4 (c - k))).run Try.prog w1 = .ok (.pointer (some ⟨b, o + k, none⟩)) w1 := fun w1 => by
    simp [Instr.arrayAt, go_sem]
  clear hr hq hs
  obtain ⟨g0, g1, g2, g3⟩ := hRA.at4
  have S0 : (fun w' : World => w'.cell? ⟨b, o + k, none⟩ = some (.int .u8 q0.toNat) ∧ w'.cell? ⟨b, o + k + 1, none⟩ = some (.int .u8 q1.toNat) ∧ w'.cell? ⟨b, o + k + 2, none⟩ = some (.int .u8 q2.toNat) ∧ w'.cell? ⟨b, o + k + 3, none⟩ = some (.int .u8 q3.toNat)) w.drew := ⟨g0, g1, g2, g3⟩
  clear g0 g1 g2 g3
  go_enter Try.func11, Try.ntmps11
  go_wp2
  go_region_held3 (fun w' => w'.cell? ⟨b, o + k, none⟩ = some (.int .u8 q0.toNat) ∧ w'.cell? ⟨b, o + k + 1, none⟩ = some (.int .u8 q1.toNat) ∧ w'.cell? ⟨b, o + k + 2, none⟩ = some (.int .u8 q2.toNat) ∧ w'.cell? ⟨b, o + k + 3, none⟩ = some (.int .u8 q3.toNat))
    (first | exact S0 | exact cells4 S0 hb9 | exact cells4 (cells4 S0 hb9) hb19)
    (first | (go_at_call 9; refine hC9.mono ?_; rintro e w9 ⟨rfl, hb9⟩) | (go_at_call 19; refine (hC19 _).mono ?_; rintro e w19 ⟨rfl, hb19⟩))
  all_goals
    have hb1 : Below w.heap.size w w19 := below_on (below_on (Below.refl _ _).drew hb9) hb19
    clear hb9 hb19 S0 hC9 hC19 hRA hlt
    go_wp2
    go_ret2
    exact ⟨rfl, hb1⟩

theorem open_any (v : Value) (l : List UInt8) (w : World) (h : Has w v l) (hl : l.length ≤ 100000) (hs : 4 ≤ l.length ∧ sealed l = true) :
    Calls Try.prog 11 #[v] w fun e w' => ∃ v', e = .returned (.tuple #[v', .bool true]) ∧ Has w' v' (l.take (l.length - 4)) ∧ Below w.heap.size w w' := by
  obtain ⟨p, c, rfl, hr, _, hlc, hcm⟩ := h
  obtain ⟨b, o, rfl, _⟩ := hr (by omega)
  exact open_long b o c l w hr hlc hcm hs.1 hl hs.2

theorem open_none (v : Value) (l : List UInt8) (w : World) (h : Has w v l) (hl : l.length ≤ 100000) (hs : ¬ (4 ≤ l.length ∧ sealed l = true)) :
    Calls Try.prog 11 #[v] w fun e w' => e = .returned (.tuple #[.slice none 0 0, .bool false]) ∧ Below w.heap.size w w' := by
  obtain ⟨p, c, rfl, hr, _, hlc, hcm⟩ := h
  rcases Nat.lt_or_ge l.length 4 with h4 | h4
  · exact (open_short p l.length c w h4).mono fun e w' ⟨he, hw⟩ => ⟨he, by rw [hw]; exact Below.refl _ _⟩
  · obtain ⟨b, o, rfl, _⟩ := hr (by omega)
    refine open_not b o c l w hr hlc hcm h4 hl ?_
    cases hq : sealed l
    · rfl
    · exact absurd ⟨h4, hq⟩ hs

end Go.Proofs.Ytdakfgoldjkokaa
