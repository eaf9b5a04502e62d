/- The inner function read of package num answers what the plain function rd says of the bytes, whatever the bytes, and turns nothing in memory. -/
import Derived.Test.YtcimpibendechaaRows
import Derived.WalkKit
import Derived.WalkSpells
import Derived.WalkLawsBesides
import Derived.WalkMore
import Derived.Lib.Zigzag
import Derived.Laws.Bits64b
import Derived.Test.YtcimpibendechaaMath
namespace Go.Proofs.Ytcimpibendechaa
open Go.RowKit

theorem wrap_u64_nat (n : Nat) : IntKind.u64.wrap (n : Int) = ((n % 18446744073709551616 : Nat) : Int) := by
  rw [IntKind.wrap_u64]; omega

theorem shl_sv (d : UInt8) (k : Nat) : Op.shift .shl .u64 ((d.toNat : Int) % 128) .i64 (7 * (k : Int)) = pure (.int .u64 (Num.sv d k : Nat)) := by
  rw [shift_shl_any _ _ _ _ (by omega)]
  have e1 : (7 * (k : Int)).toNat = 7 * k := by omega
  have e2 : IntKind.u64.bits = 64 := rfl
  have e3 : ((d.toNat : Int) % 128) * 2 ^ min (7 * k) 64 = ((d.toNat % 128 * 2 ^ min (7 * k) 64 : Nat) : Int) := by simp
  rw [e1, e2, e3, wrap_u64_nat]
  rfl

theorem sv_lt (d : UInt8) (k : Nat) : Num.sv d k < 18446744073709551616 := Nat.mod_lt _ (by decide)

theorem or_lt64 {a b : Nat} (ha : a < 18446744073709551616) (hb : b < 18446744073709551616) : a ||| b < 18446744073709551616 :=
  Nat.or_lt_two_pow (n := 64) ha hb

theorem or_sv_nine (d : UInt8) (k u : Nat) (hk : k ≤ 9) (hu : u < 18446744073709551616) : bits .or .u64 (u : Int) (IntKind.u64.wrap ((d.toNat : Int) % 128 * 2 ^ (7 * k))) = ((u ||| Num.sv d k : Nat) : Int) := by
  have e2 : min (7 * k) 64 = 7 * k := by omega
  have e3 : ((d.toNat : Int) % 128) * 2 ^ (7 * k) = ((d.toNat % 128 * 2 ^ min (7 * k) 64 : Nat) : Int) := by rw [e2]; simp
  rw [e3, wrap_u64_nat]
  exact bits_or_u64_nat u _ hu (sv_lt d k)

/-- One round. -/
theorem rd_go {l : List UInt8} {k u : Nat} {g : Bool} (hk : k < l.length) (h1 : 128 ≤ l[k].toNat) :
    Num.rdF (l.drop k) k u g = Num.rdF (l.drop (k + 1)) (k + 1) (u ||| Num.sv l[k] k) (g || (k == 9 && decide (1 < l[k].toNat))) := by
  rw [List.drop_eq_getElem_cons hk]
  conv => lhs; unfold Num.rdF
  rw [if_pos h1]

/-- WHERE A SLICE's BYTES LIE: where there is a byte there is an address, and the cells from there on hold them. -/
def Row (w : World) (p : Option Addr) (l : List UInt8) : Prop :=
  0 < l.length → ∃ b o, p = some ⟨b, o, none⟩ ∧ ∀ j (hj : j < l.length), w.cell? ⟨b, o + j, none⟩ = some (.int .u8 (l[j]).toNat)

/-- What the function answers, as values. -/
def rdV (x : Nat × Nat × Int) : Value := .tuple #[.int .u64 (x.1 : Nat), .int .i64 (x.2.1 : Nat), .int .i64 x.2.2]

set_option maxHeartbeats 4000000 in
set_option maxRecDepth 100000 in
theorem read_any (p : Option Addr) (c : Nat) (l : List UInt8) (w : World) (hrow : Row w p l) (hl : l.length ≤ 1000000) :
    Calls Try.prog 23 #[.slice p l.length c] w fun e w' => e = .returned (rdV (Num.rd l)) ∧ w' = w := by
  have HR : Hid (Row w p l) := hrow
  clear hrow
  go_enter Try.func23, Try.ntmps23
  go_wp2
  go_step3
  go_wp2
  go_step3
  go_wp2
  go_loop [5, 6, 7, 12] (fun vu vs vg vi => ∃ (k u : Nat) (g : Bool), vi = .int .i64 k ∧ vg = .bool g ∧ vu = .int .u64 u ∧ vs = .int .i64 0 ∧ k ≤ l.length ∧ u < 18446744073709551616 ∧ Num.rd l = Num.rdF (l.drop k) k u g) (fun _ _ _ vi => l.length - (intOf vi).toNat)
  case atStart => exact ⟨0, 0, false, rfl, rfl, rfl, rfl, by omega, by omega, rfl⟩
  case round =>
    obtain ⟨k, u, g, rfl, rfl, rfl, rfl, hk0, hu, hrd⟩ := hrel
    by_cases hk : k < l.length
    · obtain ⟨b, o, hp, hcell⟩ := HR.out (by omega)
      subst hp
      have hc := hcell k (by omega)
      rw [List.drop_eq_getElem_cons hk] at hrd
      generalize l[k] = d at hc hrd
      have hb256 : d.toNat < 256 := d.toNat_lt
      clear hcell HR
      have HD : Hid (Num.rd l = Num.rdF (d :: l.drop (k + 1)) k u g) := hrd
      clear hrd
      have hsh := shl_sv d k
      have hor := bits_or_u64_nat u (Num.sv d k) hu (sv_lt d k)
      have hlt := or_lt64 hu (sv_lt d k)
      by_cases hA : 128 ≤ d.toNat
      · have HA : Hid (Num.rd l = Num.rdF (l.drop (k + 1)) (k + 1) (u ||| Num.sv d k) (g || (k == 9 && decide (1 < d.toNat)))) := by
          have := HD.out
          unfold Num.rdF at this
          rw [if_pos hA] at this
          exact this
        clear HD
        cases g
        · by_cases h9 : k = 9
          · have h9b : ((k : Int) == 9) = true := by simp; omega
            have HA' : Hid (Num.rd l = Num.rdF (l.drop (k + 1)) (k + 1) (u ||| Num.sv d k) true) := by
              have := HA.out
              have e : (false || (k == 9 && decide (1 < d.toNat))) = true := by simp; omega
              rw [e] at this
              exact this
            have h1d : (1 : Int) < (d.toNat : Int) := by omega
            have hor2 := or_sv_nine d k u (by omega) hu
            clear HA h9
            go_wp2
            go_round
            case rel => exact ⟨k + 1, _, true, by go_num, rfl, rfl, rfl, by omega, hlt, HA'.out⟩
            case measure => simp [intOf]; omega
          · have h9b : ((k : Int) == 9) = false := by simp; omega
            have HA' : Hid (Num.rd l = Num.rdF (l.drop (k + 1)) (k + 1) (u ||| Num.sv d k) false) := by
              have := HA.out
              have e : (false || (k == 9 && decide (1 < d.toNat))) = false := by simp; omega
              rw [e] at this
              exact this
            clear HA h9
            go_wp2
            go_round
            case rel => exact ⟨k + 1, _, false, by go_num, rfl, rfl, rfl, by omega, hlt, HA'.out⟩
            case measure => simp [intOf]; omega
        · have HA' : Hid (Num.rd l = Num.rdF (l.drop (k + 1)) (k + 1) (u ||| Num.sv d k) true) := HA.out
          clear HA
          go_wp2
          go_round
          case rel => exact ⟨k + 1, _, true, by go_num, rfl, rfl, rfl, by omega, hlt, HA'.out⟩
          case measure => simp [intOf]; omega
      · by_cases hB : 0 < k ∧ d.toNat = 0
        · have HB : Hid (Num.rd l = (0, 0, 3)) := by
            have := HD.out
            unfold Num.rdF at this
            rw [if_neg hA, if_pos hB] at this
            exact this
          clear HD
          have hB1 : (0 : Int) < (k : Int) := by omega
          have hB2 : ((d.toNat : Int) == 0) = true := by simp; omega
          have hB3 : (d.toNat : Int) ≤ 0 := by omega
          clear hB
          cases g
          · by_cases h9 : k = 9
            · have h9b : ((k : Int) == 9) = true := by simp; omega
              have hor2 := or_sv_nine d k u (by omega) hu
              clear h9
              go_wp2
              all_goals (try rw [Exit.noGoto_ret])
              go_ret3
              exact ⟨by rw [HB.out]; rfl, rfl⟩
            · have h9b : ((k : Int) == 9) = false := by simp; omega
              clear h9
              go_wp2
              go_ret3
              exact ⟨by rw [HB.out]; rfl, rfl⟩
          · go_wp2
            go_ret3
            exact ⟨by rw [HB.out]; rfl, rfl⟩
        · have hA' : (d.toNat : Int) < 128 := by omega
          have hE : (k : Int) ≤ 0 ∨ ((0 : Int) < (k : Int) ∧ ((d.toNat : Int) == 0) = false) := by
            rcases Nat.eq_zero_or_pos k with h | h
            · exact Or.inl (by omega)
            · exact Or.inr ⟨by omega, by simp; omega⟩
          cases g
          · by_cases h9 : k = 9
            · have h9b : ((k : Int) == 9) = true := by simp; omega
              have hor2 := or_sv_nine d k u (by omega) hu
              have hE2 : ((d.toNat : Int) == 0) = false := by simp; omega
              have hk1 : (0 : Int) < (k : Int) := by omega
              by_cases h1 : 1 < d.toNat
              · have HC : Hid (Num.rd l = (0, 0, 3)) := by
                  have := HD.out
                  unfold Num.rdF at this
                  rw [if_neg hA, if_neg hB, if_pos (by simp; omega)] at this
                  exact this
                have h1d : (1 : Int) < (d.toNat : Int) := by omega
                clear HD hE h9
                go_wp2
                go_ret3
                exact ⟨by rw [HC.out]; rfl, rfl⟩
              · have HC : Hid (Num.rd l = (u ||| Num.sv d k, k + 1, 0)) := by
                  have := HD.out
                  unfold Num.rdF at this
                  rw [if_neg hA, if_neg hB, if_neg (by simp; omega)] at this
                  exact this
                have h1d : (d.toNat : Int) ≤ 1 := by omega
                clear HD hE h9
                go_wp2
                go_ret3
                exact ⟨by rw [HC.out]; rfl, rfl⟩
            · have h9b : ((k : Int) == 9) = false := by simp; omega
              have HC : Hid (Num.rd l = (u ||| Num.sv d k, k + 1, 0)) := by
                have := HD.out
                unfold Num.rdF at this
                rw [if_neg hA, if_neg hB, if_neg (by simp; omega)] at this
                exact this
              clear HD h9 hB
              rcases hE with hE | ⟨hE1, hE2⟩
              · have hor2 := or_sv_nine d k u (by omega) hu
                go_wp2
                go_ret3
                exact ⟨by rw [HC.out]; rfl, rfl⟩
              · go_wp2
                go_ret3
                exact ⟨by rw [HC.out]; rfl, rfl⟩
          · have HC : Hid (Num.rd l = (0, 0, 3)) := by
              have := HD.out
              unfold Num.rdF at this
              rw [if_neg hA, if_neg hB, if_pos (by simp)] at this
              exact this
            clear HD hB
            rcases hE with hE | ⟨hE1, hE2⟩
            · go_wp2
              go_ret3
              exact ⟨by rw [HC.out]; rfl, rfl⟩
            · go_wp2
              go_ret3
              exact ⟨by rw [HC.out]; rfl, rfl⟩
    · have HC : Hid (Num.rd l = (0, 0, 5)) := by
        rw [hrd, List.drop_eq_nil_of_le (by omega)]
        rfl
      clear hrd
      have hke : ((k : Int) < (l.length : Int)) = False := by simp; omega
      go_wp2
      go_ret3
      exact ⟨by rw [HC.out]; rfl, rfl⟩

end Go.Proofs.Ytcimpibendechaa
