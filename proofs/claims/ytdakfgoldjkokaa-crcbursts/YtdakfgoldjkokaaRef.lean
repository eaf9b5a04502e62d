/- The document's answers for layer 2: Step, Sum, Seal and Open of plexusref02, by the same plain mathematics. -/
import Derived.Test.YtdakfgoldjkokaaBack
namespace Go.Proofs.Ytdakfgoldjkokaa
open Go.RowKit Crc

set_option maxHeartbeats 1000000 in
set_option maxRecDepth 100000 in
theorem refstep_any (x : Nat) (c : UInt8) (w : World) (hx : x < 4294967296) :
    Calls Try.prog 14 #[.int .u32 x, .int .u8 c.toNat] w fun e w' => e = .returned (.int .u32 (stp x c.toNat : Nat)) ∧ w' = w := by
  have hlt := c.toNat_lt
  have h1 := bits_xor_u32 x c.toNat hx (by omega)
  have HLT : Hid (x ^^^ c.toNat < 4294967296) := Nat.xor_lt_two_pow (n := 32) hx (by omega)
  go_enter Try.func14, Try.ntmps14
  go_wp2
  generalize hy : x ^^^ c.toNat = y at HLT ⊢
  have HY : Hid (stp x c.toNat = mvs 8 y) := by
    show _ = _
    unfold stp; rw [hy]
  clear hy h1
  go_loop [0, 5] (fun vx vi => ∃ k : Nat, vi = .int .i64 k ∧ vx = .int .u32 (mvs k y : Nat) ∧ k ≤ 8) (fun _ vi => 8 - (intOf vi).toNat)
  case atStart => exact ⟨0, rfl, rfl, by omega⟩
  case round =>
    obtain ⟨k, rfl, rfl, hk⟩ := hrel
    by_cases h8 : k < 8
    · have hz := mvs_lt k HLT.out
      have HZ : Hid (mvs (k + 1) y = mv (mvs k y)) := mvs_last k y
      generalize mvs k y = z at hz HZ ⊢
      rcases Nat.mod_two_eq_zero_or_one z with h2 | h2
      · have h2' : ((z : Int) % 2 == 1) = false := by simp; omega
        have HV : Hid ((z : Int) / 2 = ((mvs (k + 1) y : Nat) : Int)) := by
          show _ = _
          rw [HZ.out]; unfold mv; rw [if_neg (by omega)]; omega
        clear h2 HZ
        go_wp2
        go_round
        case rel => exact ⟨k + 1, by go_num, by rw [← HV.out], by omega⟩
        case measure => simp [intOf]; omega
      · have h2' : ((z : Int) % 2 == 1) = true := by simp; omega
        have h3 := move_xor z hz h2
        rw [← HZ.out] at h3
        clear h2 HZ
        go_wp2
        go_round
        case rel => exact ⟨k + 1, by go_num, rfl, by omega⟩
        case measure => simp [intOf]; omega
    · obtain rfl : k = 8 := by omega
      go_wp2
      go_ret
      exact ⟨by rw [HY.out]; rfl, rfl⟩

set_option maxHeartbeats 1000000 in
set_option maxRecDepth 100000 in
theorem refsum_any (v : Value) (l : List UInt8) (w : World) (h : Has w v l) (hl : l.length ≤ 100000) :
    Calls Try.prog 13 #[v] w fun e w' => e = .returned (.int .u32 (sm l : Nat)) ∧ w' = w := by
  obtain ⟨p, c, rfl, hr, _, _, _⟩ := h
  have HR : Hid (Row w p l) := hr
  clear hr
  go_enter Try.func13, Try.ntmps13
  go_wp2
  go_loop [3, 4] (fun vx vi => ∃ k : Nat, vi = .int .i64 k ∧ vx = .int .u32 (run 4294967295 (l.take k) : Nat) ∧ k ≤ l.length) (fun _ vi => l.length - (intOf vi).toNat)
  case atStart => exact ⟨0, rfl, rfl, by omega⟩
  case round =>
    obtain ⟨k, rfl, rfl, hk⟩ := hrel
    by_cases hlt : k < l.length
    · obtain ⟨b, o, rfl, hcell⟩ := HR.out (by omega)
      have hc := hcell k hlt
      have C1 := refstep_any (run 4294967295 (l.take k)) l[k] w (run_lt _ (by decide))
      rw [← run_last _ _ _ hlt] at C1
      clear hcell HR
      generalize l[k] = d at hc C1
      go_wp2_with (go_at_call 14; refine C1.mono ?_; rintro e w2 ⟨rfl, hw⟩; rw [hw])
      clear C1
      go_round
      case rel => exact ⟨k + 1, by go_num, rfl, by omega⟩
      case measure => simp [intOf]; omega
    · obtain rfl : k = l.length := by omega
      rw [List.take_length]
      have h1 := run_lt l (x := 4294967295) (by decide)
      have HS : Hid ((4294967295 : Int) - (run 4294967295 l : Nat) = (sm l : Nat)) := by
        show _ = _
        unfold sm; omega
      go_wp2
      go_ret
      exact ⟨by rw [← HS.out]; rfl, rfl⟩

theorem le4_take (s k : Nat) (hk : k < 4) : (le4 s).take (k + 1) = (le4 s).take k ++ [(s / 256 ^ k).toUInt8] := by
  match k, hk with
  | 0, _ => simp [le4]
  | 1, _ => simp [le4]
  | 2, _ => simp [le4]
  | 3, _ => simp [le4]

set_option maxHeartbeats 1000000 in
set_option maxRecDepth 100000 in
theorem refseal_any (v : Value) (l : List UInt8) (w : World) (h : Has w v l) (hl : l.length ≤ 100000) :
    Calls Try.prog 17 #[v] w fun e w' => ∃ v', e = .returned v' ∧ w'.ownsRow w.heap.size 5 1 v' (l ++ le4 (sm l)).length (cel (l ++ le4 (sm l))) ∧ Below w.heap.size w w' := by
  obtain ⟨i0, hi, hz0, hz1, hz2⟩ := info_parts info5
  have HL0 : Hid (Has w v l) := h
  have HL : Hid (Has (w.alloc (.cells #[] 5)) v l) := h.later ((Below.refl _ _).alloc (Nat.le_refl _) _)
  clear h
  obtain ⟨p, c, rfl, hr, hpc, _, _⟩ := HL.out
  have HR : Hid (Row (w.alloc (.cells #[] 5)) p l) := hr
  have HP : Hid (p = none → l.length = 0 ∧ c = 0) := hpc
  clear hr hpc HL
  have hs := sm_lt l
  go_enter Try.func17, Try.ntmps17
  go_wp2_with (at_builtin; refine wpList_append_any rfl _ _ 22 rfl w.heap.size 5 i0 (.int .u8 0) 1 1 Try.underlying22 hi hz0 hz1 hz2 rfl (by decide) _ _ _ rfl (own_empty w _ (Nat.le_refl _)) p l.length c (cel l) rfl HP.out ?c0 HR.out.cells (cel_one l) ?c3 ?c4 ?c5 ?_)
  case c0 => rw [cel_length, Nat.mul_one]
  case c3 => unfold maxLen; omega
  case c4 => omega
  case c5 => simp
  intro v1 w1 hown1 hg1
  have hb1 : Below w.heap.size w w1 := ((Below.refl _ _).alloc (Nat.le_refl _) _).grown hg1 (by simp) (fun k hk => by cases hk; exact Nat.le_refl _)
  have C2 := refsum_any _ l w1 (HL0.out.later hb1) hl
  clear hg1 HR HP HL0
  go_wp2_with fail
  refine C2.mono ?_
  rintro e w2 ⟨rfl, hw⟩
  rw [hw]
  clear C2 hw
  have R1 : w1.ownsRow w.heap.size 5 1 v1 (l ++ (le4 (sm l)).take 0).length (cel (l ++ (le4 (sm l)).take 0)) := by simpa using hown1
  clear hown1
  generalize hsm : sm l = s at hs R1 ⊢
  have HSM : Hid (sm l = s) := hsm
  clear hsm
  go_wp2
  go_loopw [3, 4, 5] (fun vo vs vi wr => ∃ k : Nat, vi = .int .i64 k ∧ vs = .int .u32 (s / 256 ^ k : Nat) ∧ k ≤ 4 ∧ wr.ownsRow w.heap.size 5 1 vo (l ++ (le4 s).take k).length (cel (l ++ (le4 s).take k)) ∧ Below w.heap.size w wr) (fun _ _ vi _ => 4 - (intOf vi).toNat)
  case atStart => exact ⟨0, rfl, by simp, by omega, R1, hb1⟩
  case round =>
    obtain ⟨k, rfl, rfl, hk, hown, hbel⟩ := hrel
    clear R1 hb1
    by_cases h4 : k < 4
    · have HE : Hid (l ++ (le4 s).take (k + 1) = (l ++ (le4 s).take k) ++ [(s / 256 ^ k).toUInt8]) := by
        show _ = _
        rw [le4_take s k h4, List.append_assoc]
      have HD : Hid (s / 256 ^ k / 256 = s / 256 ^ (k + 1)) := by
        show _ = _
        rw [Nat.div_div_eq_div_mul, ← Nat.pow_succ]
      have hlen : (l ++ (le4 s).take k).length ≤ 100004 := by
        rw [List.length_append, List.length_take, le4_length]; omega
      have hz : s / 256 ^ k < 4294967296 := Nat.lt_of_le_of_lt (Nat.div_le_self _ _) hs
      generalize s / 256 ^ k = z at HE HD hz ⊢
      generalize l ++ (le4 s).take k = done at hown HE hlen
      go_wp2_with (first | (at_builtin; refine wpList_append_own _ rfl _ _ 22 rfl w.heap.size 5 i0 (.int .u8 0) 1 1 Try.underlying22 hi hz0 hz1 hz2 rfl (by decide) _ _ _ rfl (hown.alloc _) ⟨wr.heap.size, 0, none⟩ 1 1 [.int .u8 ((z : Int) % 256)] rfl rfl ?c1 ?c2 ?c3 ?c4 ?c5 ?_) | go_in)
      case c1 => exact cell_one_new _ _ _
      case c2 => intro u hu; simp at hu; subst hu; rfl
      case c3 => unfold maxLen; omega
      case c4 => omega
      case c5 => have := hbel.size; simp; omega
      intro v' w3 hown' hgrow _
      have R1 := push_below hbel (Nat.le_refl _) hown hgrow
      have R2 := push_own z.toUInt8 (by simp) hown'
      rw [← HE.out] at R2
      clear hown hown' hgrow hbel HE
      go_wp2
      go_roundw
      case rel => exact ⟨k + 1, by go_num, by rw [← HD.out]; rfl, by omega, R2, R1⟩
      case measure => simp [intOf]; omega
    · obtain rfl : k = 4 := by omega
      have e : (le4 s).take 4 = le4 s := rfl
      rw [e] at hown
      go_wp2
      go_ret
      exact ⟨_, rfl, by rw [HSM.out]; exact hown, hbel⟩

theorem refseal_has (v : Value) (l : List UInt8) (w : World) (h : Has w v l) (hl : l.length ≤ 100000) :
    Calls Try.prog 17 #[v] w fun e w' => ∃ v', e = .returned v' ∧ Has w' v' (l ++ le4 (sm l)) ∧ Below w.heap.size w w' :=
  (refseal_any v l w h hl).mono fun _ _ ⟨v', he, ho, hb⟩ => ⟨v', he, own_has ho, hb⟩

set_option maxHeartbeats 1000000 in
set_option maxRecDepth 100000 in
theorem refopen_short (p : Option Addr) (len c : Nat) (w : World) (hl : len < 4) :
    Calls Try.prog 12 #[.slice p len c] w fun e w' => e = .returned (.tuple #[.slice none 0 0, .bool false]) ∧ w' = w := by
  go_enter Try.func12, Try.ntmps12
  go_wp2
  go_ret2
  exact ⟨rfl, rfl⟩

theorem seal_take (l : List UInt8) : (l.take (l.length - 4) ++ le4 (sm (l.take (l.length - 4))) == l) = sealed l := by
  cases hs : sealed l with
  | true => rw [seal_open l hs]; exact beq_self_eq_true _
  | false =>
    apply beq_eq_false_iff_ne.2
    intro e
    have h := sealed_seal (l.take (l.length - 4))
    rw [e, hs] at h
    cases h

set_option maxHeartbeats 2000000 in
set_option maxRecDepth 100000 in
theorem refopen_yes (p : Option Addr) (c : Nat) (l : List UInt8) (w : World) (h : Has w (.slice p l.length c) l) (h4 : 4 ≤ l.length) (hl : l.length ≤ 100000) (hs : sealed l = true) :
    Calls Try.prog 12 #[.slice p l.length c] w fun e w' => e = .returned (.tuple #[.slice p (l.length - 4) c, .bool true]) ∧ Below w.heap.size w w' := by
  have hq := seal_take l
  rw [hs] at hq
  obtain ⟨p', c', e, hr, hpc, hlc, hcm⟩ := h
  cases e
  have hlt : (l.take (l.length - 4)).length = l.length - 4 := by rw [List.length_take]; omega
  have HR : Hid (Row w p l) := hr
  have C17 := refseal_has (.slice p (l.take (l.length - 4)).length c) (l.take (l.length - 4)) w.drew ⟨p, c, rfl, hr.take _, (fun h => by have := hpc h; omega), by omega, hcm⟩ (by omega)
  rw [hlt] at C17
  unfold maxLen at hcm
  clear hr hpc hs hlt
  generalize hX : l.take (l.length - 4) ++ le4 (sm (l.take (l.length - 4))) = X at C17 hq
  clear hX
  have hn4 : (l.length : Int) - 4 = ((l.length - 4 : Nat) : Int) := by omega
  generalize l.length - 4 = k at C17 hn4 ⊢
  have hi1 : (0 : Int) ≤ (k : Int) := by omega
  have hi2 : (k : Int) ≤ (c : Int) := by omega
  have S0 := fun w' (hb : Below w.heap.size w w') => run_string (HR.out.later hb) c
  have hSd := S0 w.drew (Below.refl _ _).drew
  have HS0 : Hid (∀ w', Below w.heap.size w w' → (convert 22 9 (.slice p l.length c)).run Try.prog w' = .ok (.string ⟨l.toArray⟩) w') := S0
  clear S0
  go_enter Try.func12, Try.ntmps12
  go_wp2
  go_region_with (go_at_call 17; refine C17.mono ?_; rintro e w17 ⟨v17, rfl, hv17, hb17⟩; obtain ⟨p17, c17, rfl, hr17, _, _, _⟩ := hv17; have h17 := run_string hr17 c17; have hS17 := HS0.out _ (below_on (Below.refl _ _).drew hb17); clear hr17)
  all_goals
    have hb2 := below_on (Below.refl _ _).drew hb17
    clear hb17 hS17 h17 hSd HS0
    go_wp2
    go_ret2
    exact ⟨rfl, hb2⟩

set_option maxHeartbeats 2000000 in
set_option maxRecDepth 100000 in
theorem refopen_no (p : Option Addr) (c : Nat) (l : List UInt8) (w : World) (h : Has w (.slice p l.length c) l) (h4 : 4 ≤ l.length) (hl : l.length ≤ 100000) (hs : sealed l = false) :
    Calls Try.prog 12 #[.slice p l.length c] w fun e w' => e = .returned (.tuple #[.slice none 0 0, .bool false]) ∧ Below w.heap.size w w' := by
  have hq := seal_take l
  rw [hs] at hq
  obtain ⟨p', c', e, hr, hpc, hlc, hcm⟩ := h
  cases e
  have hlt : (l.take (l.length - 4)).length = l.length - 4 := by rw [List.length_take]; omega
  have HR : Hid (Row w p l) := hr
  have C17 := refseal_has (.slice p (l.take (l.length - 4)).length c) (l.take (l.length - 4)) w.drew ⟨p, c, rfl, hr.take _, (fun h => by have := hpc h; omega), by omega, hcm⟩ (by omega)
  rw [hlt] at C17
  unfold maxLen at hcm
  clear hr hpc hs hlt
  generalize hX : l.take (l.length - 4) ++ le4 (sm (l.take (l.length - 4))) = X at C17 hq
  clear hX
  have hn4 : (l.length : Int) - 4 = ((l.length - 4 : Nat) : Int) := by omega
  generalize l.length - 4 = k at C17 hn4
  have hi1 : (0 : Int) ≤ (k : Int) := by omega
  have hi2 : (k : Int) ≤ (c : Int) := by omega
  have S0 := fun w' (hb : Below w.heap.size w w') => run_string (HR.out.later hb) c
  have hSd := S0 w.drew (Below.refl _ _).drew
  have HS0 : Hid (∀ w', Below w.heap.size w w' → (convert 22 9 (.slice p l.length c)).run Try.prog w' = .ok (.string ⟨l.toArray⟩) w') := S0
  clear S0
  go_enter Try.func12, Try.ntmps12
  go_wp2
  go_region_with (go_at_call 17; refine C17.mono ?_; rintro e w17 ⟨v17, rfl, hv17, hb17⟩; obtain ⟨p17, c17, rfl, hr17, _, _, _⟩ := hv17; have h17 := run_string hr17 c17; have hS17 := HS0.out _ (below_on (Below.refl _ _).drew hb17); clear hr17)
  all_goals
    have hb2 := below_on (Below.refl _ _).drew hb17
    clear hb17 hS17 h17 hSd HS0
    go_wp2
    go_ret2
    exact ⟨rfl, hb2⟩

theorem refopen_any (v : Value) (l : List UInt8) (w : World) (h : Has w v l) (hl : l.length ≤ 100000) (hs : 4 ≤ l.length ∧ sealed l = true) :
    Calls Try.prog 12 #[v] w fun e w' => ∃ v', e = .returned (.tuple #[v', .bool true]) ∧ Has w' v' (l.take (l.length - 4)) ∧ Below w.heap.size w w' := by
  obtain ⟨p, c, rfl, hr, hpc, hlc, hcm⟩ := h
  have hlt : (l.take (l.length - 4)).length = l.length - 4 := by rw [List.length_take]; omega
  refine (refopen_yes p c l w ⟨p, c, rfl, hr, hpc, hlc, hcm⟩ hs.1 hl hs.2).mono fun e w' ⟨he, hb⟩ => ⟨_, he, ⟨p, c, by rw [hlt], (hr.take _).later hb, fun h => ?_, by omega, hcm⟩, hb⟩
  have := hpc h
  omega

theorem refopen_none (v : Value) (l : List UInt8) (w : World) (h : Has w v l) (hl : l.length ≤ 100000) (hs : ¬ (4 ≤ l.length ∧ sealed l = true)) :
    Calls Try.prog 12 #[v] w fun e w' => e = .returned (.tuple #[.slice none 0 0, .bool false]) ∧ Below w.heap.size w w' := by
  obtain ⟨p, c, rfl, hr, hpc, hlc, hcm⟩ := h
  rcases Nat.lt_or_ge l.length 4 with h4 | h4
  · exact (refopen_short p l.length c w h4).mono fun e w' ⟨he, hw⟩ => ⟨he, by rw [hw]; exact Below.refl _ _⟩
  · refine refopen_no p c l w ⟨p, c, rfl, hr, hpc, hlc, hcm⟩ h4 hl ?_
    cases hq : sealed l
    · rfl
    · exact absurd ⟨h4, hq⟩ hs

end Go.Proofs.Ytdakfgoldjkokaa
