import Derived.Test.YtnfejhkgcbabfaaP3
import Derived.Stop.BytesEq
import Derived.Lib.SlBytesConst
/- The document's answers for layer 2: Step, Sum, Seal and Open of plexusref02, by the same plain mathematics. -/
namespace Go.Proofs.Ytnfejhkgcbabfaa.Cr
open Go.RowKit Crc

theorem u32_nat (n : Nat) (h : n < 4294967296) : (BitVec.ofInt 32 (n : Int)).toNat = n := by
  rw [BitVec.ofInt_natCast, BitVec.toNat_ofNat]; exact Nat.mod_eq_of_lt (by omega)


theorem bits_xor_u32 (a b : Nat) (ha : a < 4294967296) (hb : b < 4294967296) : bits .xor .u32 (a : Int) (b : Int) = ((a ^^^ b : Nat) : Int) := by
  have hx : a ^^^ b < 2 ^ 32 := Nat.xor_lt_two_pow (by omega) (by omega)
  show IntKind.u32.wrap ((BitVec.ofInt 32 (a : Int) ^^^ BitVec.ofInt 32 (b : Int)).toNat : Int) = _
  rw [BitVec.toNat_xor, u32_nat a ha, u32_nat b hb, IntKind.wrap_u32]
  omega


theorem move_xor (x : Nat) (hx : x < 4294967296) (hodd : x % 2 = 1) : bits .xor .u32 ((x : Int) / 2) 3988292384 = ((mv x : Nat) : Int) := by
  have h := bits_xor_u32 (x / 2) 3988292384 (by omega) (by decide)
  unfold mv
  rw [if_pos hodd, ← h]
  rfl


theorem mvs_last (n x : Nat) : mvs (n + 1) x = mv (mvs n x) := by rw [mvs_add]; rfl

theorem run_last (x : Nat) (l : List UInt8) (k : Nat) (hk : k < l.length) : run x (l.take (k + 1)) = stp (run x (l.take k)) l[k].toNat := by
  rw [List.take_succ_eq_append_getElem hk, run_append]; rfl

/-- What is opened was sealed. -/
theorem seal_open (l : List UInt8) (hs : sealed l = true) : l.take (l.length - 4) ++ le4 (sm (l.take (l.length - 4))) = l := by
  have h : l.drop (l.length - 4) = le4 (sm (l.take (l.length - 4))) := by simpa [sealed] using hs
  rw [← h, List.take_append_drop]




set_option maxHeartbeats 1000000 in
set_option maxRecDepth 100000 in
theorem refstep_any (x : Nat) (c : UInt8) (w : World) (hx : x < 4294967296) :
    Calls Try.prog 33 #[.int .u32 x, .int .u8 c.toNat] w fun e w' => e = .returned (.int .u32 (stp x c.toNat : Nat)) ∧ w' = w := by
  have hlt := c.toNat_lt
  have h1 := bits_xor_u32 x c.toNat hx (by omega)
  have HLT : Hid (x ^^^ c.toNat < 4294967296) := Nat.xor_lt_two_pow (n := 32) hx (by omega)
  go_enter Try.func33, Try.ntmps33
  go_wp2
  generalize hy : x ^^^ c.toNat = y at HLT ⊢
  have HY : Hid (stp x c.toNat = mvs 8 y) := by
    show _ = _
    unfold stp; rw [hy]
  clear hy h1
  go_loop [0, 5] (fun vx vi => ∃ k : Nat, vi = .int .i64 k ∧ vx = .int .u32 (mvs k y : Nat) ∧ k ≤ 8) (fun _ vi => 8 - (intOf vi).toNat)
  case atStart => exact ⟨0, rfl, rfl, by omega⟩
  case round =>
    obtain ⟨k, rfl, rfl, hk⟩ := hrel
    by_cases h8 : k < 8
    · have hz := mvs_lt k HLT.out
      have HZ : Hid (mvs (k + 1) y = mv (mvs k y)) := mvs_last k y
      generalize mvs k y = z at hz HZ ⊢
      rcases Nat.mod_two_eq_zero_or_one z with h2 | h2
      · have h2' : ((z : Int) % 2 == 1) = false := by simp; omega
        have HV : Hid ((z : Int) / 2 = ((mvs (k + 1) y : Nat) : Int)) := by
          show _ = _
          rw [HZ.out]; unfold mv; rw [if_neg (by omega)]; omega
        clear h2 HZ
        go_wp2
        go_round
        case rel => exact ⟨k + 1, by go_num, by rw [← HV.out], by omega⟩
        case measure => simp [intOf]; omega
      · have h2' : ((z : Int) % 2 == 1) = true := by simp; omega
        have h3 := move_xor z hz h2
        rw [← HZ.out] at h3
        clear h2 HZ
        go_wp2
        go_round
        case rel => exact ⟨k + 1, by go_num, rfl, by omega⟩
        case measure => simp [intOf]; omega
    · obtain rfl : k = 8 := by omega
      go_wp2
      go_ret
      exact ⟨by rw [HY.out]; rfl, rfl⟩

set_option maxHeartbeats 1000000 in
set_option maxRecDepth 100000 in
theorem refsum_any (v : Value) (l : List UInt8) (w : World) (h : Has w v l) (hl : l.length ≤ 100000) :
    Calls Try.prog 29 #[v] w fun e w' => e = .returned (.int .u32 (sm l : Nat)) ∧ w' = w := by
  obtain ⟨p, c, rfl, hr, _, _, _⟩ := h
  have HR : Hid (Row w p l) := hr
  clear hr
  go_enter Try.func29, Try.ntmps29
  go_wp2
  go_loop [3, 4] (fun vx vi => ∃ k : Nat, vi = .int .i64 k ∧ vx = .int .u32 (run 4294967295 (l.take k) : Nat) ∧ k ≤ l.length) (fun _ vi => l.length - (intOf vi).toNat)
  case atStart => exact ⟨0, rfl, rfl, by omega⟩
  case round =>
    obtain ⟨k, rfl, rfl, hk⟩ := hrel
    by_cases hlt : k < l.length
    · obtain ⟨b, o, rfl, hcell⟩ := HR.out (by omega)
      have hc := hcell k hlt
      have C1 := refstep_any (run 4294967295 (l.take k)) l[k] w (run_lt _ (by decide))
      rw [← run_last _ _ _ hlt] at C1
      clear hcell HR
      generalize l[k] = d at hc C1
      go_wp2_with (go_at_call 33; refine C1.mono ?_; rintro e w2 ⟨rfl, hw⟩; rw [hw])
      clear C1
      go_round
      case rel => exact ⟨k + 1, by go_num, rfl, by omega⟩
      case measure => simp [intOf]; omega
    · obtain rfl : k = l.length := by omega
      rw [List.take_length]
      have h1 := run_lt l (x := 4294967295) (by decide)
      have HS : Hid ((4294967295 : Int) - (run 4294967295 l : Nat) = (sm l : Nat)) := by
        show _ = _
        unfold sm; omega
      go_wp2
      go_ret
      exact ⟨by rw [← HS.out]; rfl, rfl⟩

theorem le4_take (s k : Nat) (hk : k < 4) : (le4 s).take (k + 1) = (le4 s).take k ++ [(s / 256 ^ k).toUInt8] := by
  match k, hk with
  | 0, _ => simp [le4]
  | 1, _ => simp [le4]
  | 2, _ => simp [le4]
  | 3, _ => simp [le4]

set_option maxHeartbeats 1000000 in
set_option maxRecDepth 100000 in
theorem refseal_any (v : Value) (l : List UInt8) (w : World) (h : Has w v l) (hl : l.length ≤ 100000) :
    Calls Try.prog 22 #[v] w fun e w' => ∃ v', e = .returned v' ∧ w'.ownsRow w.heap.size 5 1 v' (l ++ le4 (sm l)).length (cel (l ++ le4 (sm l))) ∧ Below w.heap.size w w' := by
  obtain ⟨i0, hi, hz0, hz1, hz2⟩ := info_parts info5
  have HL0 : Hid (Has w v l) := h
  have HL : Hid (Has (w.alloc (.cells #[] 5)) v l) := h.later ((Below.refl _ _).alloc (Nat.le_refl _) _)
  clear h
  obtain ⟨p, c, rfl, hr, hpc, _, _⟩ := HL.out
  have HR : Hid (Row (w.alloc (.cells #[] 5)) p l) := hr
  have HP : Hid (p = none → l.length = 0 ∧ c = 0) := hpc
  clear hr hpc HL
  have hs := sm_lt l
  go_enter Try.func22, Try.ntmps22
  go_wp2_with (at_builtin; refine wpList_append_any rfl _ _ 23 rfl w.heap.size 5 i0 (.int .u8 0) 1 1 Try.underlying23 hi hz0 hz1 hz2 rfl (by decide) _ _ _ rfl (own_empty w _ (Nat.le_refl _)) p l.length c (cel l) rfl HP.out ?c0 HR.out.cells (cel_one l) ?c3 ?c4 ?c5 ?_)
  case c0 => rw [cel_length, Nat.mul_one]
  case c3 => unfold maxLen; omega
  case c4 => omega
  case c5 => simp
  intro v1 w1 hown1 hg1
  have hb1 : Below w.heap.size w w1 := ((Below.refl _ _).alloc (Nat.le_refl _) _).grown hg1 (by simp) (fun k hk => by cases hk; exact Nat.le_refl _)
  have C2 := refsum_any _ l w1 (HL0.out.later hb1) hl
  clear hg1 HR HP HL0
  go_wp2_with fail
  refine C2.mono ?_
  rintro e w2 ⟨rfl, hw⟩
  rw [hw]
  clear C2 hw
  have R1 : w1.ownsRow w.heap.size 5 1 v1 (l ++ (le4 (sm l)).take 0).length (cel (l ++ (le4 (sm l)).take 0)) := by simpa using hown1
  clear hown1
  generalize hsm : sm l = s at hs R1 ⊢
  have HSM : Hid (sm l = s) := hsm
  clear hsm
  go_wp2
  go_loopw [3, 4, 5] (fun vo vs vi wr => ∃ k : Nat, vi = .int .i64 k ∧ vs = .int .u32 (s / 256 ^ k : Nat) ∧ k ≤ 4 ∧ wr.ownsRow w.heap.size 5 1 vo (l ++ (le4 s).take k).length (cel (l ++ (le4 s).take k)) ∧ Below w.heap.size w wr) (fun _ _ vi _ => 4 - (intOf vi).toNat)
  case atStart => exact ⟨0, rfl, by simp, by omega, R1, hb1⟩
  case round =>
    obtain ⟨k, rfl, rfl, hk, hown, hbel⟩ := hrel
    clear R1 hb1
    by_cases h4 : k < 4
    · have HE : Hid (l ++ (le4 s).take (k + 1) = (l ++ (le4 s).take k) ++ [(s / 256 ^ k).toUInt8]) := by
        show _ = _
        rw [le4_take s k h4, List.append_assoc]
      have HD : Hid (s / 256 ^ k / 256 = s / 256 ^ (k + 1)) := by
        show _ = _
        rw [Nat.div_div_eq_div_mul, ← Nat.pow_succ]
      have hlen : (l ++ (le4 s).take k).length ≤ 100004 := by
        rw [List.length_append, List.length_take, le4_length]; omega
      have hz : s / 256 ^ k < 4294967296 := Nat.lt_of_le_of_lt (Nat.div_le_self _ _) hs
      generalize s / 256 ^ k = z at HE HD hz ⊢
      generalize l ++ (le4 s).take k = done at hown HE hlen
      go_wp2_with (first | (at_builtin; refine wpList_append_own _ rfl _ _ 23 rfl w.heap.size 5 i0 (.int .u8 0) 1 1 Try.underlying23 hi hz0 hz1 hz2 rfl (by decide) _ _ _ rfl (hown.alloc _) ⟨wr.heap.size, 0, none⟩ 1 1 [.int .u8 ((z : Int) % 256)] rfl rfl ?c1 ?c2 ?c3 ?c4 ?c5 ?_) | go_in)
      case c1 => exact cell_one_new _ _ _
      case c2 => intro u hu; simp at hu; subst hu; rfl
      case c3 => unfold maxLen; omega
      case c4 => omega
      case c5 => have := hbel.size; simp; omega
      intro v' w3 hown' hgrow _
      have R1 := push_below hbel (Nat.le_refl _) hown hgrow
      have R2 := push_own z.toUInt8 (by simp) hown'
      rw [← HE.out] at R2
      clear hown hown' hgrow hbel HE
      go_wp2
      go_roundw
      case rel => exact ⟨k + 1, by go_num, by rw [← HD.out]; rfl, by omega, R2, R1⟩
      case measure => simp [intOf]; omega
    · obtain rfl : k = 4 := by omega
      have e : (le4 s).take 4 = le4 s := rfl
      rw [e] at hown
      go_wp2
      go_ret
      exact ⟨_, rfl, by rw [HSM.out]; exact hown, hbel⟩

theorem refseal_has (v : Value) (l : List UInt8) (w : World) (h : Has w v l) (hl : l.length ≤ 100000) :
    Calls Try.prog 22 #[v] w fun e w' => ∃ v', e = .returned v' ∧ Has w' v' (l ++ le4 (sm l)) ∧ Below w.heap.size w w' :=
  (refseal_any v l w h hl).mono fun _ _ ⟨v', he, ho, hb⟩ => ⟨v', he, own_has ho, hb⟩

set_option maxHeartbeats 1000000 in
set_option maxRecDepth 100000 in
theorem refopen_short (p : Option Addr) (len c : Nat) (w : World) (hl : len < 4) :
    Calls Try.prog 23 #[.slice p len c] w fun e w' => e = .returned (.tuple #[.slice none 0 0, .bool false]) ∧ w' = w := by
  go_enter Try.func23, Try.ntmps23
  go_wp2
  go_ret2
  exact ⟨rfl, rfl⟩

theorem seal_take (l : List UInt8) : (l.take (l.length - 4) ++ le4 (sm (l.take (l.length - 4))) == l) = sealed l := by
  cases hs : sealed l with
  | true => rw [seal_open l hs]; exact beq_self_eq_true _
  | false =>
    apply beq_eq_false_iff_ne.2
    intro e
    have h := sealed_seal (l.take (l.length - 4))
    rw [e, hs] at h
    cases h

set_option maxHeartbeats 2000000 in
set_option maxRecDepth 100000 in
theorem refopen_yes (p : Option Addr) (c : Nat) (l : List UInt8) (w : World) (h : Has w (.slice p l.length c) l) (h4 : 4 ≤ l.length) (hl : l.length ≤ 100000) (hs : sealed l = true) :
    Calls Try.prog 23 #[.slice p l.length c] w fun e w' => e = .returned (.tuple #[.slice p (l.length - 4) c, .bool true]) ∧ Below w.heap.size w w' := by
  have hq := seal_take l
  rw [hs] at hq
  obtain ⟨p', c', e, hr, hpc, hlc, hcm⟩ := h
  cases e
  have hlt : (l.take (l.length - 4)).length = l.length - 4 := by rw [List.length_take]; omega
  have HR : Hid (Row w p l) := hr
  have C17 := refseal_has (.slice p (l.take (l.length - 4)).length c) (l.take (l.length - 4)) w.drew ⟨p, c, rfl, hr.take _, (fun h => by have := hpc h; omega), by omega, hcm⟩ (by omega)
  rw [hlt] at C17
  unfold maxLen at hcm
  clear hr hpc hs hlt
  generalize hX : l.take (l.length - 4) ++ le4 (sm (l.take (l.length - 4))) = X at C17 hq
  clear hX
  have hn4 : (l.length : Int) - 4 = ((l.length - 4 : Nat) : Int) := by omega
  generalize l.length - 4 = k at C17 hn4 ⊢
  have hi1 : (0 : Int) ≤ (k : Int) := by omega
  have hi2 : (k : Int) ≤ (c : Int) := by omega
  have S0 := fun w' (hb : Below w.heap.size w w') => run_string (HR.out.later hb) c
  have hSd := S0 w.drew (Below.refl _ _).drew
  have HS0 : Hid (∀ w', Below w.heap.size w w' → (convert 23 9 (.slice p l.length c)).run Try.prog w' = .ok (.string ⟨l.toArray⟩) w') := S0
  clear S0
  go_enter Try.func23, Try.ntmps23
  go_wp2
  go_region_with (go_at_call 22; refine C17.mono ?_; rintro e w17 ⟨v17, rfl, hv17, hb17⟩; obtain ⟨p17, c17, rfl, hr17, _, _, _⟩ := hv17; have h17 := run_string hr17 c17; have hS17 := HS0.out _ (below_on (Below.refl _ _).drew hb17); clear hr17)
  all_goals
    have hb2 := below_on (Below.refl _ _).drew hb17
    clear hb17 hS17 h17 hSd HS0
    go_wp2
    go_ret2
    exact ⟨rfl, hb2⟩

set_option maxHeartbeats 2000000 in
set_option maxRecDepth 100000 in
theorem refopen_no (p : Option Addr) (c : Nat) (l : List UInt8) (w : World) (h : Has w (.slice p l.length c) l) (h4 : 4 ≤ l.length) (hl : l.length ≤ 100000) (hs : sealed l = false) :
    Calls Try.prog 23 #[.slice p l.length c] w fun e w' => e = .returned (.tuple #[.slice none 0 0, .bool false]) ∧ Below w.heap.size w w' := by
  have hq := seal_take l
  rw [hs] at hq
  obtain ⟨p', c', e, hr, hpc, hlc, hcm⟩ := h
  cases e
  have hlt : (l.take (l.length - 4)).length = l.length - 4 := by rw [List.length_take]; omega
  have HR : Hid (Row w p l) := hr
  have C17 := refseal_has (.slice p (l.take (l.length - 4)).length c) (l.take (l.length - 4)) w.drew ⟨p, c, rfl, hr.take _, (fun h => by have := hpc h; omega), by omega, hcm⟩ (by omega)
  rw [hlt] at C17
  unfold maxLen at hcm
  clear hr hpc hs hlt
  generalize hX : l.take (l.length - 4) ++ le4 (sm (l.take (l.length - 4))) = X at C17 hq
  clear hX
  have hn4 : (l.length : Int) - 4 = ((l.length - 4 : Nat) : Int) := by omega
  generalize l.length - 4 = k at C17 hn4
  have hi1 : (0 : Int) ≤ (k : Int) := by omega
  have hi2 : (k : Int) ≤ (c : Int) := by omega
  have S0 := fun w' (hb : Below w.heap.size w w') => run_string (HR.out.later hb) c
  have hSd := S0 w.drew (Below.refl _ _).drew
  have HS0 : Hid (∀ w', Below w.heap.size w w' → (convert 23 9 (.slice p l.length c)).run Try.prog w' = .ok (.string ⟨l.toArray⟩) w') := S0
  clear S0
  go_enter Try.func23, Try.ntmps23
  go_wp2
  go_region_with (go_at_call 22; refine C17.mono ?_; rintro e w17 ⟨v17, rfl, hv17, hb17⟩; obtain ⟨p17, c17, rfl, hr17, _, _, _⟩ := hv17; have h17 := run_string hr17 c17; have hS17 := HS0.out _ (below_on (Below.refl _ _).drew hb17); clear hr17)
  all_goals
    have hb2 := below_on (Below.refl _ _).drew hb17
    clear hb17 hS17 h17 hSd HS0
    go_wp2
    go_ret2
    exact ⟨rfl, hb2⟩

theorem refopen_any (v : Value) (l : List UInt8) (w : World) (h : Has w v l) (hl : l.length ≤ 100000) (hs : 4 ≤ l.length ∧ sealed l = true) :
    Calls Try.prog 23 #[v] w fun e w' => ∃ v', e = .returned (.tuple #[v', .bool true]) ∧ Has w' v' (l.take (l.length - 4)) ∧ Below w.heap.size w w' := by
  obtain ⟨p, c, rfl, hr, hpc, hlc, hcm⟩ := h
  have hlt : (l.take (l.length - 4)).length = l.length - 4 := by rw [List.length_take]; omega
  refine (refopen_yes p c l w ⟨p, c, rfl, hr, hpc, hlc, hcm⟩ hs.1 hl hs.2).mono fun e w' ⟨he, hb⟩ => ⟨_, he, ⟨p, c, by rw [hlt], (hr.take _).later hb, fun h => ?_, by omega, hcm⟩, hb⟩
  have := hpc h
  omega

theorem refopen_none (v : Value) (l : List UInt8) (w : World) (h : Has w v l) (hl : l.length ≤ 100000) (hs : ¬ (4 ≤ l.length ∧ sealed l = true)) :
    Calls Try.prog 23 #[v] w fun e w' => e = .returned (.tuple #[.slice none 0 0, .bool false]) ∧ Below w.heap.size w w' := by
  obtain ⟨p, c, rfl, hr, hpc, hlc, hcm⟩ := h
  rcases Nat.lt_or_ge l.length 4 with h4 | h4
  · exact (refopen_short p l.length c w h4).mono fun e w' ⟨he, hw⟩ => ⟨he, by rw [hw]; exact Below.refl _ _⟩
  · refine refopen_no p c l w ⟨p, c, rfl, hr, hpc, hlc, hcm⟩ h4 hl ?_
    cases hq : sealed l
    · rfl
    · exact absurd ⟨h4, hq⟩ hs



end Go.Proofs.Ytnfejhkgcbabfaa.Cr
/- Layer 23's mathematics: what a record is, and what is found. -/
namespace Go.Proofs.Ytnfejhkgcbabfaa
open Crc Cr

def be4 (n : Nat) : List UInt8 := [(n / 16777216).toUInt8, (n / 65536).toUInt8, (n / 256).toUInt8, n.toUInt8]
theorem be4_length (n : Nat) : (be4 n).length = 4 := rfl
def val4 (l : List UInt8) : Nat := l.foldl (fun x c => 256 * x + c.toNat) 0
theorem val4_snoc (l : List UInt8) (c : UInt8) : val4 (l ++ [c]) = 256 * val4 l + c.toNat := by simp [val4]
theorem val4_be4 (n : Nat) (h : n < 4294967296) : val4 (be4 n) = n := by
  simp only [val4, be4, List.foldl_cons, List.foldl_nil, ofNat_mod]
  omega
/-- A record. -/
def recB (l : List UInt8) : List UInt8 := be4 l.length ++ (l ++ le4 (sm l))
theorem recB_length (l : List UInt8) : (recB l).length = l.length + 8 := by
  unfold recB
  rw [List.length_append, List.length_append, be4_length, le4_length]
  omega
def putR (b body : List UInt8) : List UInt8 × Int := if 60000 < body.length then ([], 2) else (b ++ recB body, 0)
def sizR (body : List UInt8) : Int := if 60000 < body.length then 0 else body.length + 8
/-- The body of the record that these bytes begin with. -/
def oneR (b : List UInt8) : Option (List UInt8) :=
  if b.length < 8 then none else if 60000 < val4 (b.take 4) ∨ b.length < val4 (b.take 4) + 8 then none else
  if sealed ((b.drop 4).take (val4 (b.take 4) + 4)) = true then some ((b.drop 4).take (val4 (b.take 4))) else none
theorem one_len {b x : List UInt8} (h : oneR b = some x) : x.length + 8 ≤ b.length ∧ x.length ≤ 60000 ∧ x.length = val4 (b.take 4) := by
  unfold oneR at h
  split at h
  · cases h
  · split at h
    · cases h
    · split at h
      · simp only [Option.some.injEq] at h
        have : x.length = val4 (b.take 4) := by
          rw [← h, List.length_take, List.length_drop]
          omega
        omega
      · cases h
def scF : Nat → List UInt8 → List (List UInt8) × Nat
  | 0, _ => ([], 0)
  | f + 1, b => match oneR b with
    | none => ([], 0)
    | some x => (x :: (scF f (b.drop (x.length + 8))).1, x.length + 8 + (scF f (b.drop (x.length + 8))).2)
theorem scF_eq : ∀ (f g : Nat) (b : List UInt8), b.length ≤ f → b.length ≤ g → scF f b = scF g b
  | 0, 0, _, _, _ => rfl
  | 0, g + 1, b, h, _ => by
    have : oneR b = none := by unfold oneR; rw [if_pos (by omega)]
    simp only [scF, this]
  | f + 1, 0, b, _, h => by
    have : oneR b = none := by unfold oneR; rw [if_pos (by omega)]
    simp only [scF, this]
  | f + 1, g + 1, b, h1, h2 => by
    simp only [scF]
    cases e : oneR b with
    | none => rfl
    | some x =>
      have := one_len e
      have e2 := scF_eq f g (b.drop (x.length + 8)) (by rw [List.length_drop]; omega) (by rw [List.length_drop]; omega)
      simp only [e2]
/-- What is found, and up to where. -/
def scanR (b : List UInt8) : List (List UInt8) × Nat := scF b.length b
theorem scan_none {b : List UInt8} (h : oneR b = none) : scanR b = ([], 0) := by
  unfold scanR
  cases e : b.length with
  | zero => rfl
  | succ f => simp only [scF, h]
theorem scan_some {b x : List UInt8} (h : oneR b = some x) : scanR b = (x :: (scanR (b.drop (x.length + 8))).1, x.length + 8 + (scanR (b.drop (x.length + 8))).2) := by
  have hl := one_len h
  unfold scanR
  cases e : b.length with
  | zero => omega
  | succ f =>
    simp only [scF, h]
    have e2 := scF_eq f (b.drop (x.length + 8)).length (b.drop (x.length + 8)) (by rw [List.length_drop]; omega) (Nat.le_refl _)
    rw [e2]
theorem scan_end (b : List UInt8) : (scanR b).2 ≤ b.length := by
  have : ∀ (f : Nat) (b : List UInt8), (scF f b).2 ≤ b.length := fun f => by
    induction f with
    | zero => exact fun b => Nat.zero_le _
    | succ f ih =>
      intro b
      simp only [scF]
      cases e : oneR b with
      | none => exact Nat.zero_le _
      | some x =>
        have h1 := one_len e
        have h2 := ih (b.drop (x.length + 8))
        rw [List.length_drop] at h2
        show x.length + 8 + _ ≤ _
        omega
  exact this _ b
theorem rec_take4 (x r : List UInt8) : (recB x ++ r).take 4 = be4 x.length := by
  unfold recB
  rw [List.append_assoc, List.take_append_of_le_length (Nat.le_of_eq (be4_length _).symm), List.take_of_length_le (Nat.le_of_eq (be4_length _))]
theorem rec_drop4 (x r : List UInt8) : (recB x ++ r).drop 4 = x ++ le4 (sm x) ++ r := by
  unfold recB
  rw [List.append_assoc, List.drop_append_of_le_length (Nat.le_of_eq (be4_length _).symm), List.drop_of_length_le (Nat.le_of_eq (be4_length _)), List.nil_append]
/-- A record with whatever is behind. -/
theorem one_rec {x : List UInt8} (h : x.length ≤ 60000) (r : List UInt8) : oneR (recB x ++ r) = some x := by
  unfold oneR
  have hl : (recB x ++ r).length = x.length + 8 + r.length := by rw [List.length_append, recB_length]
  rw [rec_take4, rec_drop4, val4_be4 _ (by omega), if_neg (by omega), if_neg (by omega)]
  have h1 : (x ++ le4 (sm x) ++ r).take (x.length + 4) = x ++ le4 (sm x) := by
    rw [List.take_append_of_le_length (by rw [List.length_append, le4_length]; omega), List.take_of_length_le (by rw [List.length_append, le4_length]; omega)]
  have h2 : (x ++ le4 (sm x) ++ r).take x.length = x := by
    rw [List.append_assoc, List.take_append_of_le_length (Nat.le_refl _), List.take_length]
  rw [h1, h2, if_pos (sealed_seal x)]
def recs (l : List (List UInt8)) : List UInt8 := l.flatMap recB
theorem recs_cons (x : List UInt8) (l : List (List UInt8)) : recs (x :: l) = recB x ++ recs l := rfl
theorem recs_append (a b : List (List UInt8)) : recs (a ++ b) = recs a ++ recs b := by simp [recs]
theorem recs_nil : recs [] = [] := rfl
theorem scan_recs {l : List (List UInt8)} (h : ∀ x ∈ l, x.length ≤ 60000) (r : List UInt8) : scanR (recs l ++ r) = (l ++ (scanR r).1, (recs l).length + (scanR r).2) := by
  induction l with
  | nil => simp [recs_nil]
  | cons x l ih =>
    have hx := h x (by simp)
    rw [recs_cons, List.append_assoc, scan_some (one_rec hx _)]
    have : (recB x ++ (recs l ++ r)).drop (x.length + 8) = recs l ++ r := by
      rw [← recB_length, List.drop_append_of_le_length (Nat.le_refl _), List.drop_length, List.nil_append]
    rw [this, ih (fun y hy => h y (by simp [hy]))]
    simp only [List.cons_append, List.length_append, recB_length]
    rw [Nat.add_assoc (x.length + 8)]
/-- A record that is cut is none. -/
theorem one_cut {x : List UInt8} (h : x.length ≤ 60000) {c : Nat} (hc : c < (recB x).length) : oneR ((recB x).take c) = none := by
  unfold oneR
  have hl : ((recB x).take c).length = c := by rw [List.length_take]; omega
  rw [hl]
  by_cases h8 : c < 8
  · rw [if_pos h8]
  · rw [if_neg h8]
    have h4 : ((recB x).take c).take 4 = be4 x.length := by
      rw [List.take_take, show min 4 c = 4 by omega]
      have := rec_take4 x []
      rwa [List.append_nil] at this
    rw [h4, val4_be4 _ (by omega), if_pos]
    rw [recB_length] at hc
    omega
/-- Records that are cut: those that are whole. -/
theorem scan_cut {l : List (List UInt8)} (h : ∀ x ∈ l, x.length ≤ 60000) {cut k : Nat} (_hk : k ≤ l.length) (h1 : (recs (l.take k)).length ≤ cut) (h2 : ∀ _hk' : k < l.length, cut < (recs (l.take (k + 1))).length) : scanR ((recs l).take cut) = (l.take k, (recs (l.take k)).length) := by
  have ht : ∀ x ∈ l.take k, x.length ≤ 60000 := fun x hx => h x (List.mem_of_mem_take hx)
  rcases Nat.lt_or_ge k l.length with hlt | hge
  · have e : recs l = recs (l.take k) ++ (recB l[k] ++ recs (l.drop (k + 1))) := by
      rw [← recs_cons, ← recs_append, List.getElem_cons_drop, List.take_append_drop]
    have h3 := h2 hlt
    rw [List.take_succ_eq_append_getElem hlt, recs_append, recs_cons, recs_nil, List.append_nil, List.length_append] at h3
    have h5 : (recB l[k] ++ recs (l.drop (k + 1))).take (cut - (recs (l.take k)).length) = (recB l[k]).take (cut - (recs (l.take k)).length) := List.take_append_of_le_length (by omega)
    rw [e, List.take_append, List.take_of_length_le h1, h5, scan_recs ht, scan_none (one_cut (h _ (List.getElem_mem hlt)) (by omega))]
    simp
  · rw [List.take_of_length_le hge] at h1 ⊢
    rw [List.take_of_length_le h1]
    have := scan_recs h []
    rw [List.append_nil, scan_none (b := []) rfl] at this
    rw [this, List.append_nil, Nat.add_zero]
/-- A record of which a byte of the body, or of the sum, is another one is none. -/
theorem one_turned {x : List UInt8} (h : x.length ≤ 60000) {j : Nat} (hj : j < x.length + 4) {y : UInt8} (hy : y ≠ 0) (r : List UInt8) : oneR ((recB x ++ r).set (4 + j) ((recB x ++ r).getD (4 + j) 0 ^^^ y)) = none := by
  have hl : (recB x ++ r).length = x.length + 8 + r.length := by rw [List.length_append, recB_length]
  have hs : (x ++ le4 (sm x)).length = x.length + 4 := by rw [List.length_append, le4_length]
  generalize hz : (recB x ++ r).getD (4 + j) 0 ^^^ y = z
  have hz2 : z = (x ++ le4 (sm x))[j] ^^^ y := by
    rw [← hz, List.getD_eq_getElem?_getD]
    have : (recB x ++ r)[4 + j]? = some (x ++ le4 (sm x))[j] := by
      unfold recB
      rw [List.append_assoc, List.getElem?_append_right (by rw [be4_length]; omega), be4_length, show 4 + j - 4 = j by omega, List.getElem?_append_left (by omega), List.getElem?_eq_getElem]
    rw [this]
    rfl
  have e4 : ((recB x ++ r).set (4 + j) z).take 4 = be4 x.length := by
    rw [List.take_set_of_le (by omega), rec_take4]
  have ed : ((recB x ++ r).set (4 + j) z).drop 4 = ((x ++ le4 (sm x)) ++ r).set j z := by
    rw [List.drop_set, if_neg (by omega), rec_drop4, show 4 + j - 4 = j by omega]
  unfold oneR
  rw [List.length_set, e4, ed, val4_be4 _ (by omega), if_neg (by omega), if_neg (by omega)]
  have et : (((x ++ le4 (sm x)) ++ r).set j z).take (x.length + 4) = (x ++ le4 (sm x)).set j z := by
    rw [List.set_append_left _ _ (by omega), List.take_append_of_le_length (by rw [List.length_set]; omega), List.take_of_length_le (by rw [List.length_set]; omega)]
  rw [et, if_neg]
  have hr := run_set (x ++ le4 (sm x)) 4294967295 j y (by omega)
  rw [run_seal] at hr
  have h0 : y.toNat ≠ 0 := fun e => hy (by
    have : y = UInt8.ofNat y.toNat := by simp
    rw [this, e]
    rfl)
  have := sealed_not ((x ++ le4 (sm x)).set j z) (by rw [List.length_set]; omega) (8 * ((x ++ le4 (sm x)).length - j)) y.toNat (by have := y.toNat_lt; omega) h0 (by rw [hz2]; exact hr)
  rw [this]
  simp
theorem scan_turned {l : List (List UInt8)} (h : ∀ x ∈ l, x.length ≤ 60000) {k : Nat} (hk : k < l.length) {j : Nat} (hj : j < l[k].length + 4) {y : UInt8} (hy : y ≠ 0) : scanR ((recs l).set ((recs (l.take k)).length + 4 + j) ((recs l).getD ((recs (l.take k)).length + 4 + j) 0 ^^^ y)) = (l.take k, (recs (l.take k)).length) := by
  have ht : ∀ x ∈ l.take k, x.length ≤ 60000 := fun x hx => h x (List.mem_of_mem_take hx)
  have e : recs l = recs (l.take k) ++ (recB l[k] ++ recs (l.drop (k + 1))) := by
    rw [← recs_cons, ← recs_append, List.getElem_cons_drop, List.take_append_drop]
  have eg : (recs l).getD ((recs (l.take k)).length + 4 + j) 0 = (recB l[k] ++ recs (l.drop (k + 1))).getD (4 + j) 0 := by
    rw [e, List.getD_eq_getElem?_getD, List.getElem?_append_right (by omega), List.getD_eq_getElem?_getD]
    congr 2
    omega
  rw [eg]
  generalize hz : (recB l[k] ++ recs (l.drop (k + 1))).getD (4 + j) 0 ^^^ y = z
  rw [e, List.set_append_right _ _ (by omega), show (recs (l.take k)).length + 4 + j - (recs (l.take k)).length = 4 + j by omega, scan_recs ht, ← hz, scan_none (one_turned (h _ (List.getElem_mem hk)) hj hy _)]
  simp
end Go.Proofs.Ytnfejhkgcbabfaa
/- Slices of slices of bytes; what layer 25 wants of bytes in memory, and crc's words for them. -/
namespace Go.Proofs.Ytnfejhkgcbabfaa
open Go.RowKit

/-- A row's cell. -/
abbrev BV.cells (a : List UInt8 × Value) : List Value := [a.2]
theorem BV.len (a : List UInt8 × Value) : (BV.cells a).length = 1 := rfl
/-- A slice of rows of bytes. -/
def BHas (w : World) (v : Value) (l : List (List UInt8)) : Prop := ∃ ys : List (List UInt8 × Value), ys.map (·.1) = l ∧ SHas 1 w v l.length (rows BV.cells ys) ∧ ∀ y ∈ ys, DB w y.2 y.1
section
variable {w w' : World} {v : Value} {l : List (List UInt8)}
theorem BHas.later (h : BHas w v l) (hb : Below w.heap.size w w') : BHas w' v l := by
  obtain ⟨ys, h1, h2, h3⟩ := h
  exact ⟨ys, h1, h2.later hb, fun y hy => (h3 y hy).later hb⟩
theorem BHas.slice (h : BHas w v l) : ∃ p c, v = .slice p l.length c := by
  obtain ⟨ys, h1, h2, h3⟩ := h
  exact h2.slice
theorem BHas.max (h : BHas w v l) : l.length ≤ maxLen := by
  obtain ⟨ys, h1, h2, h3⟩ := h
  exact h2.1
theorem BHas.nil (w : World) : BHas w (.slice none 0 0) [] := ⟨[], rfl, SHas.nil w 1, fun _ h => by cases h⟩
theorem BV.elem {ys : List (List UInt8 × Value)} {g o : Nat} (h : w.rangeAt g o (rows BV.cells ys)) (k : Nat) (hk : k < ys.length) : w.rangeAt g (o + k * 1) (BV.cells ys[k]) :=
  range_sub h (k * 1) fun j u hu => rows_at BV.len ys k hk j u hu
/-- What stands at a place. -/
theorem BHas.at {p : Option Addr} {c : Nat} (h : BHas w (.slice p l.length c) l) (k : Nat) (hk : k < l.length) : ∃ g o sl, p = some ⟨g, o, none⟩ ∧ w.cell? ⟨g, o + k, none⟩ = some sl ∧ DB w sl l[k] := by
  obtain ⟨ys, rfl, h2, h3⟩ := h
  have hk' : k < ys.length := by simpa using hk
  obtain ⟨g, o, rfl, hd⟩ := h2.at (by omega)
  refine ⟨g, o, ys[k].2, rfl, ?_, ?_⟩
  · have := BV.elem hd k hk' 0 _ rfl
    simpa using this
  · simpa using h3 ys[k] (List.getElem_mem _)
end
/-- A slice of rows of bytes, with the slices of their bytes; none of them lies in certain blocks. -/
structure BAt (w : World) (v : Value) (ys : List (List UInt8 × Value)) (off : Nat → Prop) : Prop where
  s : SHas 1 w v ys.length (rows BV.cells ys)
  o : ∀ y ∈ ys, DB w y.2 y.1
  f : ∀ b, off b → Off b v ∧ ∀ y ∈ ys, Off b y.2
section
variable {w w' : World} {v : Value} {ys : List (List UInt8 × Value)} {off off' : Nat → Prop} {row : Option Nat}
theorem BAt.has (h : BAt w v ys off) : BHas w v (ys.map (·.1)) := ⟨ys, rfl, by rw [List.length_map]; exact h.s, h.o⟩
theorem BHas.fat {l : List (List UInt8)} (h : BHas w v l) : ∃ ys : List (List UInt8 × Value), ys.map (·.1) = l ∧ BAt w v ys (fun _ => False) := by
  obtain ⟨ys, h1, h2, h3⟩ := h
  exact ⟨ys, h1, by have : l.length = ys.length := by rw [← h1, List.length_map]
                    exact this ▸ h2, h3, fun _ h => h.elim⟩
theorem BAt.later (h : BAt w v ys off) (hb : Below w.heap.size w w') : BAt w' v ys off := ⟨h.s.later hb, fun y hy => (h.o y hy).later hb, h.f⟩
theorem BAt.sub (h : BAt w v ys off) (hs : ∀ b, off' b → off b) : BAt w v ys off' := ⟨h.s, h.o, fun b hb => h.f b (hs b hb)⟩
/-- Nothing lies in blocks that are not there yet. -/
theorem BAt.more (h : BAt w v ys off) : BAt w v ys (fun b => off b ∨ w.heap.size ≤ b) := ⟨h.s, h.o, fun b hb => by
  rcases hb with hb | hb
  · exact h.f b hb
  · refine ⟨fun a n c e hn => ?_, fun y hy a n c e hn => ?_⟩
    · have := h.s.block (by decide) e hn
      omega
    · have := (h.o y hy).block (by decide) e hn
      omega⟩
theorem BAt.grown (h : BAt w v ys off) (hg : w.grownBy w' row) (hf : ∀ b, row = some b → off b) : BAt w' v ys off :=
  ⟨h.s.grown (by decide) hg fun b hb => (h.f b (hf b hb)).1, fun y hy => (h.o y hy).grown (by decide) hg fun b hb => (h.f b (hf b hb)).2 y hy, h.f⟩
end
/-- A row of rows of bytes of one's own; their bytes keep off it, and off certain blocks. -/
structure OwnB (w : World) (B : Nat) (v : Value) (ys : List (List UInt8 × Value)) (off : Nat → Prop) : Prop where
  r : w.ownsRow B 23 1 v ys.length (rows BV.cells ys)
  o : ∀ y ∈ ys, DB w y.2 y.1
  f : ∀ y ∈ ys, ∀ b, (v.ownBlock = some b ∨ off b) → Off b y.2
section
variable {w w' : World} {B : Nat} {v : Value} {ys zs : List (List UInt8 × Value)} {off : Nat → Prop}
theorem OwnB.later (h : OwnB w B v ys off) (hb : Below w.heap.size w w') : OwnB w' B v ys off := ⟨own_later h.r hb, fun y hy => (h.o y hy).later hb, h.f⟩
theorem OwnB.nil (w : World) (B : Nat) (off : Nat → Prop) : OwnB w B (.slice none 0 0) [] off := ⟨⟨rfl, .inl ⟨rfl, rfl⟩⟩, (fun _ h => by cases h), fun _ h => by cases h⟩
theorem OwnB.fat (h : OwnB w B v ys off) : BAt w v ys (fun _ => False) := ⟨own_sh h.r, h.o, fun _ h => h.elim⟩
theorem OwnB.block (h : OwnB w B v ys off) {b : Nat} (e : v.ownBlock = some b) : B ≤ b ∧ b < w.heap.size := by
  rcases h.r.2 with ⟨rfl, _⟩ | ⟨g, cap, cur, rfl, hbg, hg, _⟩
  · simp [Value.ownBlock] at e
  · simp only [Value.ownBlock, Option.some.injEq] at e
    subst e
    exact ⟨hbg, (Array.getElem?_eq_some_iff.1 hg).1⟩
theorem BV.one (sl : Value) (hs : sl.oneCell' = true) (x : List UInt8) : ∀ u ∈ BV.cells (x, sl), u.oneCell' = true := by
  intro u hu
  simp only [List.mem_cons, List.not_mem_nil, or_false] at hu
  subst hu
  exact hs
theorem BV.ones (h : ∀ y ∈ ys, DB w y.2 y.1) : ∀ u ∈ rows BV.cells ys, u.oneCell' = true := by
  intro u hu
  obtain ⟨y, hy, hx⟩ := List.mem_flatMap.1 hu
  obtain ⟨p, c, e⟩ := (h y hy).slice
  exact BV.one y.2 (by rw [e]; rfl) y.1 u hx
/-- What is there behind an append. -/
theorem OwnB.app {v' vx : Value} (h : OwnB w B v ys off) (hx : BAt w vx zs (fun b => v.ownBlock = some b ∨ off b)) (h2 : w'.ownsRow B 23 1 v' (ys.length + zs.length) (rows BV.cells ys ++ rows BV.cells zs)) (hg : w.grownBy w' v.ownBlock) (hb : v'.ownBlock = v.ownBlock ∨ v'.ownBlock = some w.heap.size) : OwnB w' B v' (ys ++ zs) off := by
  have hall : ∀ y ∈ ys ++ zs, DB w y.2 y.1 ∧ ∀ b, (v.ownBlock = some b ∨ off b) → Off b y.2 := fun y hy => by
    rcases List.mem_append.1 hy with hy | hy
    · exact ⟨h.o y hy, h.f y hy⟩
    · exact ⟨hx.o y hy, fun b hb => (hx.f b hb).2 y hy⟩
  refine ⟨by rw [List.length_append, rows_append]; exact h2, fun y hy => (hall y hy).1.grown (by decide) hg fun b hb => (hall y hy).2 b (.inl hb), fun y hy b e => ?_⟩
  rcases e with e | e
  · rcases hb with hb | hb
    · exact (hall y hy).2 b (.inl (hb ▸ e))
    · rw [hb] at e
      simp only [Option.some.injEq] at e
      subst e
      intro a n c e1 hn
      have := (hall y hy).1.block (by decide) e1 hn
      omega
  · exact (hall y hy).2 b (.inr e)
end
theorem infoB : (Try.prog.info? 23).map (fun i => (i.zero, i.size, i.bytes)) = some (some (.slice none 0 0), 1, 24) := by kernel_rfl
theorem sizeB : (Try.prog.info? 23).map (·.size) = some 1 := by kernel_rfl
theorem append_bs {ops : Array Oper} {rest : List Oper} {o : Oper} {a : Act} {Q : Exit → Act → World → Prop} {w : World} {B : Nat} {va vx : Value} {ys zs : List (List UInt8 × Value)} {off : Nat → Prop} (hgd : o.guard = none) (s x : Operand) (ho : o.op = .call { callee := .builtin .append, args := #[s, x], argTypes := #[22, 22] })
    (hs : a.eval s = va) (hx : a.eval x = vx) (hown : OwnB w B va ys off) (hxs : BAt w vx zs (fun b => va.ownBlock = some b ∨ off b)) (hlen : ys.length + zs.length ≤ 100000) (hbase : B ≤ w.heap.size)
    (h : ∀ v' w', OwnB w' B v' (ys ++ zs) off → w.grownBy w' va.ownBlock → (v'.ownBlock = va.ownBlock ∨ v'.ownBlock = some w.heap.size) → wpList Try.prog ops Q rest (a.put o.dst v') w') : wpList Try.prog ops Q (o :: rest) a w := by
  obtain ⟨i, hi, e⟩ := Option.map_eq_some_iff.1 infoB
  simp only [Prod.mk.injEq] at e
  have hmx : ys.length + zs.length ≤ maxLen := Nat.le_trans hlen (by decide)
  obtain ⟨hm, hl, ⟨rfl, h0⟩ | ⟨ad, c, rfl, hc, hd⟩⟩ := hxs.s
  · obtain rfl := List.length_eq_zero_iff.1 h0
    refine Go.wpList_append_own_none hgd s x 22 ho B 23 i 1 Try.underlying22 hi va ys.length _ hs hown.r hx (h va w ?_ ⟨rfl, rfl, rfl, Nat.le_refl _, fun _ _ _ => rfl⟩ (.inl rfl))
    rw [List.append_nil]
    exact hown
  · refine Go.wpList_append_own_at w hgd s x 22 ho B 23 i _ 1 24 Try.underlying22 hi e.1 e.2.1 e.2.2 rfl (by decide) va ys.length _ hs hown.r ad zs.length c (rows BV.cells zs) hx hl (fun j u hu => ?_) (BV.ones hxs.o) hmx (by omega) hbase fun v' w' h2 hg _ hb => h v' w' (hown.app hxs h2 hg hb) hg hb
    have hz : 0 < zs.length := by
      rcases Nat.eq_zero_or_pos zs.length with h' | h'
      · rw [h', Nat.zero_mul] at hl
        have := (List.getElem?_eq_some_iff.1 hu).1
        omega
      · exact h'
    obtain ⟨g, o', rfl, hr⟩ := hd hz
    rw [Addr.add_mid]
    exact hr j u hu
theorem one_by {w : World} {b : Nat} (x : List UInt8) (s1 : Value) (off : Nat → Prop) (hb : b = w.heap.size) (ho : DB w s1 x) (hof : ∀ q, off q → Off q s1 ∧ q ≠ b) : BAt (w.alloc (.cells (BV.cells (x, s1)).toArray 23)) (.slice (some ⟨b, 0, none⟩) 1 1) [(x, s1)] off := by
  subst hb
  refine ⟨⟨(show 1 ≤ maxLen by decide), ?_, .inr ⟨_, 1, rfl, ⟨Nat.le_refl _, by decide⟩, fun _ => ⟨w.heap.size, 0, rfl, ?_⟩⟩⟩, fun y hy => ?_, fun q hq => ⟨fun a n c e hn => ?_, fun y hy => ?_⟩⟩
  · rw [rows_length BV.len]
  · exact (rw_new w 23 _).range 0 _ fun j u hu => by
      rw [rows_one] at hu
      simpa using hu
  · simp only [List.mem_singleton] at hy
    subst hy
    exact ho.later (bel_alloc (Below.refl _ _) _)
  · simp only [Value.slice.injEq, Option.some.injEq] at e
    rw [← e.1]
    exact Ne.symm (hof q hq).2
  · simp only [List.mem_singleton] at hy
    subst hy
    exact (hof q hq).1

theorem build_by (p : Option Addr) (n c : Nat) (w : World) : (Instr.buildSlice 22 1 #[(0, .slice p n c)]).run Try.prog w = .ok (.slice (some ⟨w.heap.size, 0, none⟩) 1 1) (w.alloc (.cells (BV.cells (([] : List UInt8), .slice p n c)).toArray 23)) := by
  go_simp
theorem cel_cr (l : List UInt8) : Cr.cel l = cel l := rfl
theorem DB.has {w : World} {v : Value} {l : List UInt8} (h : DB w v l) : Cr.Has w v l := by
  obtain ⟨hm, hl, ⟨rfl, h0⟩ | ⟨ad, c, rfl, hc, hd⟩⟩ := h
  · exact ⟨none, 0, by rw [h0], fun hp => by omega, fun _ => ⟨h0, rfl⟩, by omega, by omega⟩
  · refine ⟨some ad, c, rfl, fun hp => ?_, (fun hh => by cases hh), hc.1, hc.2⟩
    obtain ⟨g, o, rfl, hr⟩ := hd hp
    exact ⟨g, o, rfl, fun j hj => hr j _ (by simp [cel, List.getElem?_eq_getElem hj])⟩
theorem has_db {w : World} {v : Value} {l : List UInt8} (h : Cr.Has w v l) : DB w v l := by
  obtain ⟨p, c, rfl, hr, hp, hlc, hcm⟩ := h
  refine ⟨by omega, by rw [cel_length, Nat.mul_one], ?_⟩
  cases p with
  | none =>
    obtain ⟨h0, rfl⟩ := hp rfl
    exact .inl ⟨by rw [h0], h0⟩
  | some ad =>
    refine .inr ⟨ad, c, rfl, ⟨hlc, hcm⟩, fun h0 => ?_⟩
    obtain ⟨g, o, e, hc⟩ := hr h0
    simp only [Option.some.injEq] at e
    subst e
    refine ⟨g, o, rfl, fun j u hu => ?_⟩
    have hj : j < l.length := by have := (List.getElem?_eq_some_iff.1 hu).1; rwa [cel_length] at this
    have : some u = some (.int .u8 (l[j]).toNat) := by rw [← hu]; simp [cel, List.getElem?_eq_getElem hj]
    rw [Option.some.inj this]
    exact hc j hj
/-- A part of bytes. -/
theorem DB.take {w : World} {p : Option Addr} {c : Nat} {l : List UInt8} (h : DB w (.slice p l.length c) l) {n : Nat} (hn : n ≤ l.length) : DB w (.slice p n c) (l.take n) := by
  obtain ⟨hm, hl, ⟨e, h0⟩ | ⟨ad, c', e, hc, hd⟩⟩ := h
  · obtain rfl : n = 0 := by omega
    simp only [Value.slice.injEq] at e
    obtain ⟨rfl, _, rfl⟩ := e
    exact ⟨Nat.zero_le _, by simp [cel], .inl ⟨by simp, by simp⟩⟩
  · simp only [Value.slice.injEq] at e
    obtain ⟨rfl, _, rfl⟩ := e
    have hln : (l.take n).length = n := by rw [List.length_take]; omega
    refine ⟨by omega, by rw [cel_length, Nat.mul_one], .inr ⟨ad, c, by rw [hln], ⟨by omega, hc.2⟩, fun h0 => ?_⟩⟩
    obtain ⟨g, o, rfl, hr⟩ := hd (by omega)
    exact ⟨g, o, rfl, fun j u hu => hr j u (by
      rw [cel_take] at hu
      have := (List.getElem?_eq_some_iff.1 hu).1
      rw [List.length_take] at this
      rwa [List.getElem?_take_of_lt (by omega)] at hu)⟩
end Go.Proofs.Ytnfejhkgcbabfaa
