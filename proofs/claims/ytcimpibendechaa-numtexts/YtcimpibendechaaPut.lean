/- The function Put of package num lays the bytes of the number behind those that it is given, in new memory, and turns nothing that was there. -/
import Derived.Test.YtcimpibendechaaPure
import Derived.Test.YtcimpibendechaaRead
import Derived.Lib.AppendStr
namespace Go.Proofs.Ytcimpibendechaa
open Go.RowKit

/-- Bytes as cells. -/
def cel (l : List UInt8) : List Value := l.map fun b => Value.int .u8 b.toNat

theorem cel_length (l : List UInt8) : (cel l).length = l.length := by simp [cel]
theorem cel_append (a b : List UInt8) : cel (a ++ b) = cel a ++ cel b := by simp [cel]
theorem cel_one (l : List UInt8) : ∀ u ∈ cel l, u.oneCell' = true := by
  intro u hu
  obtain ⟨_, _, rfl⟩ := List.mem_map.1 hu
  rfl

theorem Row.cells {w : World} {p : Option Addr} {l : List UInt8} (h : Row w p l) : ∀ ad, p = some ad → ∀ j u, (cel l)[j]? = some u → w.cell? (ad.add j) = some u := by
  intro ad hp j u hj
  have hlt : j < l.length := by
    have := (List.getElem?_eq_some_iff.1 hj).1
    simpa [cel] using this
  obtain ⟨b, o, hp2, hc⟩ := h (by omega)
  rw [hp2] at hp
  obtain rfl := Option.some.inj hp
  rw [Addr.add_lit, hc j hlt]
  simp [cel, List.getElem?_eq_getElem hlt] at hj
  rw [← hj]

theorem push_below {B : Nat} {w wr w1 : World} {v : Value} {n : Nat} {xs : List Value} {o : Obj} (hbel : Below B w wr) (hB : B ≤ w.heap.size) (hown : wr.ownsRow B 5 1 v n xs) (hg : (wr.alloc o).grownBy w1 v.ownBlock) : Below B w w1 := by
  have hs := hbel.size
  exact (hbel.alloc (by omega) o).grown hg (by simp; omega) (fun k hk => (hown.lt k hk).1)

theorem push_own {B : Nat} {w1 : World} {v' : Value} {done : List UInt8} {z : Int} (b : UInt8) (hz : z = (b.toNat : Int)) (h : w1.ownsRow B 5 1 v' (done.length + 1) (cel done ++ [.int .u8 z])) : w1.ownsRow B 5 1 v' (done ++ [b]).length (cel (done ++ [b])) := by
  subst hz
  rw [cel_append, List.length_append]
  exact h

theorem info5 : (Try.prog.info? 5).map (fun i => (i.zero, i.size, i.bytes)) = some (some (.int .u8 0), 1, 1) := by kernel_rfl

set_option maxHeartbeats 1000000 in
set_option maxRecDepth 100000 in
theorem put_any (p : Option Addr) (c : Nat) (l : List UInt8) (n : Int) (w : World) (hrow : Row w p l) (hpc : p = none → l.length = 0 ∧ c = 0) (hl : l.length ≤ 100000) (h0 : -9223372036854775808 ≤ n) (h1 : n ≤ 9223372036854775807) :
    Calls Try.prog 8 #[.slice p l.length c, .int .i64 n] w fun e w' => ∃ v, e = .returned v ∧ w'.ownsRow w.heap.size 5 1 v (l ++ Num.enc n).length (cel (l ++ Num.enc n)) ∧ Below w.heap.size w w' := by
  obtain ⟨i0, hi, hz0, hz1, hz2⟩ := info_parts info5
  have HR : Hid (∀ ad, p = some ad → ∀ j u, (cel l)[j]? = some u → w.cell? (ad.add j) = some u) := hrow.cells
  have HP : Hid (p = none → l.length = 0 ∧ c = 0) := hpc
  clear hpc hrow
  go_enter Try.func8, Try.ntmps8
  go_wp2_with (at_make; refine wpList_make_own _ rfl _ _ 22 rfl w.heap.size 5 i0 (.int .u8 0) 1 Try.underlying22 hi hz0 hz1 _ _ _ (l.length + 10) rfl rfl ?hC ?hb ?hm ?hB ?_)
  case hC => omega
  case hb => rw [hz2]; omega
  case hm => unfold maxLen; omega
  case hB => exact Nat.le_refl _
  intro w1 hown1 hg1
  have hb1 : Below w.heap.size w w1 := (Below.refl _ _).grown hg1 (Nat.le_refl _) (fun k hk => by cases hk)
  go_wp2_with (at_builtin; refine wpList_append_fits_any _ rfl _ _ 22 rfl w.heap.size 5 i0 1 Try.underlying22 hi hz1 _ _ _ _ rfl hown1 p l.length c (cel l) rfl ?c0 HP.out ?c1 (cel_one l) ?c2 ?_)
  case c0 => rw [cel_length]; omega
  case c2 => omega
  case c1 =>
    intro ad had j u hj
    have := HR.out ad had j u hj
    rw [← this]
    exact hb1.cell (World.block_lt_of_cell? w _ this)
  intro w2 hown2 hg2
  have hb2 : Below w.heap.size w w2 := hb1.grown hg2 hb1.size (fun k hk => by cases hk; exact Nat.le_refl _)
  have hZ := Lib.zigzag_lt h0 h1
  clear hown1 hg1 hg2 hb1 HR HP
  go_wp2_with (go_at_call 22; refine (fold_any _ _ h0 h1).mono ?_; rintro e w3 ⟨rfl, hw3⟩; rw [hw3])
  go_loopw [5, 6] (fun v vu wr => ∃ (x : Nat) (done : List UInt8), vu = .int .u64 x ∧ x < 18446744073709551616 ∧ wr.ownsRow w.heap.size 5 1 v done.length (cel done) ∧ done ++ Lib.uvarint x = l ++ Num.enc n ∧ Below w.heap.size w wr) (fun _ vu _ => (intOf vu).toNat)
  case atStart => exact ⟨_, l, rfl, hZ, hown2, rfl, hb2⟩
  case round =>
    obtain ⟨x, done, rfl, hx, hown, heq, hbel⟩ := hrel
    have HQ : Hid (done ++ Lib.uvarint x = l ++ Num.enc n) := heq
    have hlen : done.length ≤ 100010 := by
      have h1 := congrArg List.length heq
      have h2 := Lib.uvarint_length64 hZ
      simp only [List.length_append, Num.enc] at h1
      omega
    clear heq hown2 hb2
    by_cases hbig : 128 ≤ x
    · go_wp2_with (first | (at_builtin; refine wpList_append_own _ rfl _ _ 22 rfl w.heap.size 5 i0 (.int .u8 0) 1 1 Try.underlying22 hi hz0 hz1 hz2 rfl (by decide) _ _ _ rfl (hown.alloc _) ⟨wr.heap.size, 0, none⟩ 1 1 [.int .u8 ((x : Int) % 128 + 128)] rfl rfl ?c1 ?c2 ?c3 ?c4 ?c5 ?_) | go_in)
      case c1 => exact cell_one_new _ _ _
      case c2 => intro u hu; simp at hu; subst hu; rfl
      case c3 => unfold maxLen; omega
      case c4 => omega
      case c5 => have := hbel.size; simp; omega
      intro v' w1 hown' hgrow _
      have R1 := push_below hbel (Nat.le_refl _) hown hgrow
      have R2 := push_own (x % 128 + 128).toUInt8 (by simp; omega) hown'
      have R3 : Hid (done ++ [(x % 128 + 128).toUInt8] ++ Lib.uvarint (x / 128) = l ++ Num.enc n) := by
        show _ = _
        rw [← HQ.out, Lib.uvarint_big hbig, List.append_assoc]; rfl
      clear hown hown' hgrow hbel HQ
      go_wp2
      go_roundw
      case rel => exact ⟨x / 128, _, by go_num, by omega, R2, R3.out, R1⟩
      case measure => simp [intOf]; omega
    · go_wp2_with (first | (at_builtin; refine wpList_append_own _ rfl _ _ 22 rfl w.heap.size 5 i0 (.int .u8 0) 1 1 Try.underlying22 hi hz0 hz1 hz2 rfl (by decide) _ _ _ rfl (hown.alloc _) ⟨wr.heap.size, 0, none⟩ 1 1 [.int .u8 (x : Int)] rfl rfl ?c1 ?c2 ?c3 ?c4 ?c5 ?_) | go_in)
      case c1 => exact cell_one_new _ _ _
      case c2 => intro u hu; simp at hu; subst hu; rfl
      case c3 => unfold maxLen; omega
      case c4 => omega
      case c5 => have := hbel.size; simp; omega
      intro v' w1 hown' hgrow _
      have R1 := push_below hbel (Nat.le_refl _) hown hgrow
      have R2 := push_own x.toUInt8 (by simp; omega) hown'
      have R3 : Hid (done ++ [x.toUInt8] = l ++ Num.enc n) := by
        show _ = _
        rw [← HQ.out, Lib.uvarint_small (by omega)]
      clear hown hown' hgrow hbel HQ
      go_wp2
      go_ret
      exact ⟨_, rfl, by rw [← R3.out]; exact R2, R1⟩

end Go.Proofs.Ytcimpibendechaa
