/- The functions Total and Add of package vec, and Check of the document's answer. -/
import Derived.Test.YtbeehmcoeblbcaaCheck
namespace Go.Proofs.Ytbeehmcoeblbcaa
open Go.RowKit

theorem take_sum (v : List Int) (k : Nat) (hk : k < v.length) : (v.take (k + 1)).sum = (v.take k).sum + v.getD k 0 := by
  rw [List.take_succ_eq_append_getElem hk, List.sum_append]
  simp [List.getD, List.getElem?_eq_getElem hk]

set_option maxHeartbeats 1000000 in
set_option maxRecDepth 100000 in
theorem total_ok (v : List Int) (w : World) (hv : v.length = 13) (hc : chk v = true) :
    Calls Try.prog 14 #[V v] w fun e w' => e = .returned (.int .i64 v.sum) ∧ Below w.heap.size w w' := by
  have hC16 := fun w1 => check_any v w1 hv
  rw [hc] at hC16
  have HV : Hid (v.length = 13) := hv
  have HB : Hid (∀ i, i < 13 → 0 ≤ v.getD i 0 ∧ v.getD i 0 ≤ 1048576) := chk_at hv hc
  have h1 := at_new w v hv
  have hbel : Below w.heap.size w (w.alloc (.cells (vals v).toArray 23)) := (Below.refl _ _).alloc (Nat.le_refl _) _
  clear hv hc
  go_enter Try.func14, Try.ntmps14
  go_wp2_with (refine load_at rfl _ rfl _ rfl h1 ?_)
  refine (hC16 _).mono ?_
  rintro e w1 ⟨rfl, hb1⟩
  have h2 := h1.later hb1
  have hbel1 := below_on hbel hb1
  clear h1 hbel hb1 hC16
  go_wp2
  go_loopw [3, 8] (fun vs vi wr => ∃ (k : Nat) (t : Int), vi = .int .i64 k ∧ vs = .int .i64 t ∧ k ≤ 13 ∧ Hid (t = (v.take k).sum) ∧ 0 ≤ t ∧ t ≤ 1048576 * k ∧ At wr w.heap.size v ∧ Below w.heap.size w wr) (fun _ vi _ => 13 - (intOf vi).toNat)
  case atStart => exact ⟨0, 0, rfl, rfl, by omega, (show (0 : Int) = _ by simp), by omega, by omega, h2, hbel1⟩
  case round =>
    obtain ⟨k, t, rfl, rfl, hk, HT, ht0, ht1, h3, hbel2⟩ := hrel
    clear h2 hbel1
    by_cases hlt : k < 13
    · have c1 := h3.cell hlt
      have hy := HB.out k hlt
      have HT2 := take_sum v k (by rw [HV.out]; exact hlt)
      rw [← HT.out] at HT2
      generalize v.getD k 0 = y at c1 hy HT2
      have HT3 : Hid (t + y = (v.take (k + 1)).sum) := HT2.symm
      clear HT2 HT
      have hi1 : (k : Int) < 13 := by omega
      go_wp2
      go_roundw
      case rel => exact ⟨k + 1, t + y, by simp, by simp, by omega, HT3, by omega, by omega, h3, hbel2⟩
      case measure => simp [intOf]; omega
    · have hk13 : k = 13 := by omega
      subst hk13
      have e : Hid (t = v.sum) := by
        show _ = _
        rw [HT.out, List.take_of_length_le (by rw [HV.out]; omega)]
      clear HT
      go_wp2
      go_ret
      exact ⟨by rw [← e.out]; rfl, hbel2⟩

theorem size25 : (Try.prog.info? 25).map (·.size) = some 2 := by kernel_rfl
/-- Where a dot lies. -/
def DotAt (w : World) (b o : Nat) (p s : Int) : Prop := w.cell? ⟨b, o, none⟩ = some (.int .i64 p) ∧ w.cell? ⟨b, o + 1, none⟩ = some (.int .i64 s)
theorem DotAt.later {w w' : World} {b o : Nat} {p s : Int} (h : DotAt w b o p s) (hb : Below w.heap.size w w') : DotAt w' b o p s := ⟨cell_later hb h.1, cell_later hb h.2⟩
theorem DotAt.range {w : World} {b o : Nat} {p s : Int} (h : DotAt w b o p s) : w.rangeAt b o [.int .i64 p, .int .i64 s] := by
  intro j v hv
  match j with
  | 0 => simp at hv; subst hv; exact h.1
  | 1 => simp at hv; subst hv; exact h.2
  | j + 2 => simp at hv
theorem DotAt.load {w : World} {b o : Nat} {p s : Int} (h : DotAt w b o p s) : (Instr.loadAt 25 (.pointer (some ⟨b, o, none⟩))).run Try.prog w = .ok (D p s) w :=
  run_loadAt_mid w b o 25 _ _ h.range Try.underlying25 rfl size25
/-- A dot is loaded, at the head of a plain region's operations. -/
theorem load_dot {ops : Array Oper} {rest : List Oper} {op : Oper} {a : Act} {w : World} {Q : Exit → Act → World → Prop} (hgd : op.guard = none) (x : Operand) (ho : op.op = .load 25 x)
    (b o : Nat) (hx : a.eval x = .pointer (some ⟨b, o, none⟩)) {p s : Int} (hc : DotAt w b o p s)
    (h : wpList Try.prog ops Q rest (a.put op.dst (D p s)) w) : wpList Try.prog ops Q (op :: rest) a w :=
  wpList_plain hgd fun _ hK => by
    unfold Oper.wp execOp
    simp only [ho, hx, Sem.run_bind, hc.load, Result.andThen_ok, Sem.run_pure]
    exact hK _ _ h
theorem dot_new (w : World) {b : Nat} (hb : b = w.heap.size) (p s : Int) : DotAt (w.alloc (.cells #[.int .i64 p, .int .i64 s] 25)) b 0 p s := ⟨dot_cell0 w hb p s, dot_cell1 w hb p s⟩
theorem DotAt.alloc {w : World} {b o : Nat} {p s : Int} (h : DotAt w b o p s) (x : Obj) : DotAt (w.alloc x) b o p s := h.later ((Below.refl _ _).alloc (Nat.le_refl _) x)

theorem add_world (v : List Int) (n s : Int) (w : World) (hv : v.length = 13) : ∀ w0, w0 = ((w.alloc (.cells (vals v).toArray 23)).alloc (.cells #[.int .i64 n, .int .i64 s] 25)).alloc (.cells (vals zeros).toArray 23) →
    At w0 w.heap.size v ∧ DotAt w0 (w.heap.size + 1) 0 n s ∧ At w0 (w.heap.size + 1 + 1) zeros ∧ Below w.heap.size w w0 := by
  rintro w0 rfl
  exact ⟨((at_new w v hv).alloc _).alloc _, (dot_new _ (by simp) n s).alloc _, at_next _ (by simp) zeros rfl, (((Below.refl _ _).alloc (Nat.le_refl _) _).alloc (by simp) _).alloc (by simp; omega) _⟩

set_option maxHeartbeats 1000000 in
set_option maxRecDepth 100000 in
theorem add_cause (v : List Int) (n : Nat) (s : Int) (w : World) (hv : v.length = 13) (hn1 : 1 ≤ n) (hn2 : n ≤ 12) (h0 : 0 ≤ v.getD n 0) (hsb : s ≤ 9223372036854775807) (hne : ¬ s = v.getD n 0 + 1) :
    Calls Try.prog 10 #[V v, D n s] w fun e w' => e = .returned (.tuple #[V v, .int .i64 190]) ∧ Below w.heap.size w w' := by
  have hC11 := fun w1 => next_peer v n s w1 hv hn1 hn2 h0 hsb
  rw [show decide (s = v.getD n 0 + 1) = false by simpa using hne] at hC11
  obtain ⟨h1, g1, h2, hbel⟩ := add_world v n s w hv _ rfl
  clear hne h0
  go_enter Try.func10, Try.ntmps10
  go_wp2_with (first | refine load_at rfl _ rfl _ rfl h1 ?_ | refine load_dot rfl _ rfl _ _ rfl g1 ?_)
  refine (hC11 _).mono ?_
  rintro e w1 ⟨rfl, hb1⟩
  have h3 := h1.later hb1
  have h4 := h2.later hb1
  have R := below_setRow (below_on hbel hb1) (g := w.heap.size + 1 + 1) (by omega) (vals v).toArray
  clear h1 h2 g1 hbel hb1 hC11
  go_wp2_with (first | refine load_at rfl _ rfl _ rfl h3 ?_ | refine store_at rfl _ _ rfl _ _ rfl rfl h4 hv ?_)
  exact bodyPost_ret (results_at2 rfl rfl (h4.row hv)) rfl ⟨rfl, R⟩

set_option maxHeartbeats 1000000 in
set_option maxRecDepth 100000 in
theorem add_ok (v : List Int) (n : Nat) (s : Int) (w : World) (hv : v.length = 13) (hn1 : 1 ≤ n) (hn2 : n ≤ 12) (h0 : 0 ≤ v.getD n 0) (hs : s = v.getD n 0 + 1) (hsm : s ≤ 1048576) :
    Calls Try.prog 10 #[V v, D n s] w fun e w' => e = .returned (.tuple #[V (v.set n s), .int .i64 0]) ∧ Below w.heap.size w w' := by
  have hC11 := fun w1 => next_peer v n s w1 hv hn1 hn2 h0 (by omega)
  rw [show decide (s = v.getD n 0 + 1) = true by simpa using hs] at hC11
  obtain ⟨h1, g1, h2, hbel⟩ := add_world v n s w hv _ rfl
  clear hs h0
  go_enter Try.func10, Try.ntmps10
  go_wp2_with (first | refine load_at rfl _ rfl _ rfl h1 ?_ | refine load_dot rfl _ rfl _ _ rfl g1 ?_)
  refine (hC11 _).mono ?_
  rintro e w1 ⟨rfl, hb1⟩
  have h3 := h1.later hb1
  have h4 := h2.later hb1
  have g3 := g1.later hb1
  obtain ⟨g4, g5⟩ := g3
  have c1 := h3.cell (show n < 13 by omega)
  have f1 := h3.frozen n
  have h5 := h3.set (i := n) s
  have h6 := h4.setOther (c := w.heap.size) (i := n) (by omega) (.int .i64 s)
  have R0 : Below w.heap.size w (w1.setCell ⟨w.heap.size, n, none⟩ (.int .i64 s)) := (below_on hbel hb1).setCell (Nat.le_refl _) _
  have R := below_setRow R0 (g := w.heap.size + 1 + 1) (by omega) (vals (v.set n s)).toArray
  have hv2 := h5.1
  obtain ⟨v2, HV2⟩ : ∃ v2, Hid (v.set n s = v2) := ⟨_, rfl⟩
  rw [HV2.out] at h5 R hv2
  generalize v.getD n 0 = y at c1
  have hi1 : (n : Int) < 13 := by omega
  have hi2 : ¬ (1048576 : Int) < s := by omega
  clear h1 h2 g1 hbel hb1 hC11 h3 h4 R0
  go_wp2_with (first | refine load_at rfl _ rfl _ rfl h5 ?_ | refine store_at rfl _ _ rfl _ _ rfl rfl h6 hv2 ?_)
  exact bodyPost_ret (results_at2 rfl rfl (h6.row hv2)) rfl ⟨by rw [HV2.out]; rfl, R⟩

end Go.Proofs.Ytbeehmcoeblbcaa
