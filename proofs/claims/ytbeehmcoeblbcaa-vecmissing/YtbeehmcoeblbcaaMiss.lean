/- The function Missing of package vec. -/
import Derived.Test.YtbeehmcoeblbcaaAdd
namespace Go.Proofs.Ytbeehmcoeblbcaa
open Go.RowKit

/-- Dots as cells. -/
def dcel (l : List (Int × Int)) : List Value := l.flatMap fun d => [Value.int .i64 d.1, Value.int .i64 d.2]
theorem dcel_append (a b : List (Int × Int)) : dcel (a ++ b) = dcel a ++ dcel b := by simp [dcel]
theorem dcel_length (l : List (Int × Int)) : (dcel l).length = l.length * 2 := by
  induction l with
  | nil => rfl
  | cons d l ih =>
    have : dcel (d :: l) = Value.int .i64 d.1 :: Value.int .i64 d.2 :: dcel l := rfl
    rw [this]; simp only [List.length_cons, ih]; omega
theorem dcel_at : ∀ (l : List (Int × Int)) (i : Nat) (h : i < l.length), (dcel l)[2 * i]? = some (.int .i64 l[i].1) ∧ (dcel l)[2 * i + 1]? = some (.int .i64 l[i].2)
  | d :: l, 0, _ => ⟨rfl, rfl⟩
  | d :: l, i + 1, h => by
    have e : dcel (d :: l) = Value.int .i64 d.1 :: Value.int .i64 d.2 :: dcel l := rfl
    have := dcel_at l i (by simpa using h)
    rw [e, show 2 * (i + 1) = 2 * i + 1 + 1 by omega]
    simpa using this
theorem dcel_one (l : List (Int × Int)) : ∀ u ∈ dcel l, u.oneCell' = true := by
  intro u hu
  simp only [dcel, List.mem_flatMap, List.mem_cons, List.not_mem_nil, or_false] at hu
  obtain ⟨_, _, rfl | rfl⟩ := hu <;> rfl

/-- The dots of one peer, c of them behind x. -/
def run (p : Nat) (x : Int) (c : Nat) : List (Int × Int) := (List.range c).map fun (i : Nat) => ((p : Int), x + 1 + (i : Int))
theorem run_succ (p : Nat) (x : Int) (c : Nat) : run p x (c + 1) = run p x c ++ [((p : Int), x + 1 + (c : Int))] := by simp [run, List.range_succ]
theorem run_length (p : Nat) (x : Int) (c : Nat) : (run p x c).length = c := by simp [run]
/-- The dots of the peers below k that are missing, the first 4096 of them. -/
def ms (a b : List Int) : Nat → List (Int × Int)
  | 0 => []
  | k + 1 => ms a b k ++ run k (a.getD k 0) (min (b.getD k 0 - a.getD k 0) (4096 - ((ms a b k).length : Int))).toNat
theorem ms_length (a b : List Int) : ∀ k, (ms a b k).length ≤ 4096
  | 0 => by simp [ms]
  | k + 1 => by
    have := ms_length a b k
    rw [ms, List.length_append, run_length]
    omega

theorem At.grown {w w' : World} {b : Nat} {l : List Int} {row : Option Nat} (h : At w b l) (hg : w.grownBy w' row) (hne : ∀ k, row = some k → b < k) : At w' b l :=
  ⟨h.1, (hg.block b h.lt (fun e => by have := hne b e.symm; omega)).trans h.2⟩
theorem own_slice {w : World} {B n : Nat} {v : Value} {xs : List Value} (h : w.ownsRow B 25 2 v n xs) : ∃ p c, v = .slice p n c := by
  rcases h.2 with ⟨rfl, rfl⟩ | ⟨g, cap, cur, rfl, _⟩
  · exact ⟨none, 0, rfl⟩
  · exact ⟨_, _, rfl⟩
theorem info25 : (Try.prog.info? 25).map (fun i => (i.zero, i.size, i.bytes)) = some (some (D 0 0), 2, 16) := by kernel_rfl

theorem cells_new (w : World) (cs : List Value) (t : TypeId) (j : Nat) : (w.alloc (.cells cs.toArray t)).cell? ((⟨w.heap.size, 0, none⟩ : Addr).add j) = cs[j]? := by
  rw [Addr.add_mid, Nat.zero_add, cell_of_row _ _ j _ t (0, 0) (heap_alloc_last w _)]
  simp

/-- The array is loaded whole, where the operation bears a guard that lets it run. -/
theorem load_atg {ops : Array Oper} {rest : List Oper} {op : Oper} {a : Act} {w : World} {Q : Exit → Act → World → Prop} (x : Operand) (ho : op.op = .load 23 x) (hw : Region.wanted op (yielded ops a.tmps) = true)
    (b : Nat) (hx : a.eval x = .pointer (some ⟨b, 0, none⟩)) {l : List Int} (hc : At w b l)
    (h : wpList Try.prog ops Q rest (a.put op.dst (V l)) w) : wpList Try.prog ops Q (op :: rest) a w :=
  BigFrame.wpList_want hw fun _ hK => by
    unfold Oper.wp execOp
    simp only [ho, hx, Sem.run_bind, hc.load, Result.andThen_ok, Sem.run_pure]
    exact hK _ _ h

set_option maxHeartbeats 2000000 in
set_option maxRecDepth 100000 in
theorem missing_ok (a b : List Int) (w : World) (ha : a.length = 13) (hb : b.length = 13) (hca : chk a = true) (hcb : chk b = true) :
    Calls Try.prog 25 #[V a, V b] w fun e w' => ∃ v, e = .returned v ∧ w'.ownsRow (w.heap.size + 2) 25 2 v (ms a b 13).length (dcel (ms a b 13)) ∧ Below w.heap.size w w' := by
  obtain ⟨i0, hi, hz0, hz1, hz2⟩ := info_parts info25
  have hC1 := fun w1 => check_any a w1 ha
  have hC2 := fun w1 => check_any b w1 hb
  rw [hca] at hC1
  rw [hcb] at hC2
  have HA : Hid (∀ i, i < 13 → 0 ≤ a.getD i 0 ∧ a.getD i 0 ≤ 1048576) := chk_at ha hca
  have HB : Hid (∀ i, i < 13 → 0 ≤ b.getD i 0 ∧ b.getD i 0 ≤ 1048576) := chk_at hb hcb
  obtain ⟨h1, h2, hbel⟩ : At ((w.alloc (.cells (vals a).toArray 23)).alloc (.cells (vals b).toArray 23)) w.heap.size a ∧ At ((w.alloc (.cells (vals a).toArray 23)).alloc (.cells (vals b).toArray 23)) (w.heap.size + 1) b ∧ Below w.heap.size w ((w.alloc (.cells (vals a).toArray 23)).alloc (.cells (vals b).toArray 23)) :=
    ⟨(at_new w a ha).alloc _, at_next _ (by simp) b hb, ((Below.refl _ _).alloc (Nat.le_refl _) _).alloc (by simp) _⟩
  clear ha hb hca hcb
  go_enter Try.func25, Try.ntmps25
  go_wp2_with (refine load_at rfl _ rfl _ rfl h1 ?_)
  refine (hC1 _).mono ?_
  rintro e w1 ⟨rfl, hb1⟩
  replace h1 := h1.later hb1
  replace h2 := h2.later hb1
  replace hbel := below_on hbel hb1
  clear hb1 hC1
  go_wp2_with (refine load_atg _ rfl rfl _ rfl h2 ?_)
  refine (hC2 _).mono ?_
  rintro e w2 ⟨rfl, hb2⟩
  replace h1 := h1.later hb2
  replace h2 := h2.later hb2
  replace hbel := below_on hbel hb2
  clear hb2 hC2
  go_wp2
  go_loopw [5, 16] (fun v vi wr => ∃ (k : Nat), vi = .int .i64 k ∧ k ≤ 13 ∧ wr.ownsRow (w.heap.size + 2) 25 2 v (ms a b k).length (dcel (ms a b k)) ∧ At wr w.heap.size a ∧ At wr (w.heap.size + 1) b ∧ Below w.heap.size w wr) (fun _ vi _ => 13 - (intOf vi).toNat)
  case atStart => exact ⟨0, rfl, by omega, World.ownsRow_nil _ _ _ _, h1, h2, hbel⟩
  case round =>
    obtain ⟨k, rfl, hk, hown, h3, h4, hbel3⟩ := hrel
    clear h1 h2 hbel
    by_cases hlt : k < 13
    · have c1 := h3.cell hlt
      have c2 := h4.cell hlt
      have hx := HA.out k hlt
      have hy := HB.out k hlt
      have hn := ms_length a b k
      have HM : Hid (ms a b (k + 1) = ms a b k ++ run k (a.getD k 0) (min (b.getD k 0 - a.getD k 0) (4096 - ((ms a b k).length : Int))).toNat) := rfl
      obtain ⟨x, HXA⟩ : ∃ x, Hid (a.getD k 0 = x) := ⟨_, rfl⟩
      rw [HXA.out] at c1 hx HM
      generalize b.getD k 0 = y at c2 hy HM
      generalize ms a b k = l at hown hn HM
      obtain ⟨P, C, rfl⟩ := own_slice hown
      have e1 : IntKind.i64.wrap (y - x) = y - x := by rw [IntKind.wrap_i64]; omega
      have e2 : IntKind.i64.wrap (4096 - (l.length : Int)) = 4096 - (l.length : Int) := by rw [IntKind.wrap_i64]; omega
      have hi1 : (k : Int) < 13 := by omega
      rcases Int.lt_or_le (4096 - (l.length : Int)) (y - x) with hcase | hcase
      · have hmin : (min (y - x) (4096 - (l.length : Int))).toNat = (4096 - (l.length : Int)).toNat := by omega
        go_wp2
        go_region
        go_wp2
        go_loopw [5, 30] (fun v vi wr => ∃ (j : Nat), vi = .int .i64 j ∧ j ≤ (4096 - (l.length : Int)).toNat ∧ wr.ownsRow (w.heap.size + 2) 25 2 v (l ++ run k x j).length (dcel (l ++ run k x j)) ∧ At wr w.heap.size a ∧ At wr (w.heap.size + 1) b ∧ Below w.heap.size w wr) (fun _ vi _ => (4096 - (l.length : Int)).toNat - (intOf vi).toNat)
        case atStart => exact ⟨0, rfl, by omega, by simpa [run] using hown.drew, h3.drew, h4.drew, hbel3.drew⟩
        case round =>
          obtain ⟨j, rfl, hj, hown4, h5, h6, hbel5⟩ := hrel
          clear hown h3 h4 hbel3 c1 c2 e1 e2
          by_cases hlt2 : (j : Int) < 4096 - (l.length : Int)
          · have c3 := h5.cell hlt
            rw [HXA.out] at c3
            have HR : Hid (l ++ run k x (j + 1) = l ++ run k x j ++ [((k : Int), x + 1 + (j : Int))]) := by
              show _ = _
              rw [run_succ, List.append_assoc]
            have hn5 : (l ++ run k x j).length ≤ 4096 := by rw [List.length_append, run_length]; omega
            generalize l ++ run k x j = l5 at hown4 HR hn5
            have hlt5 := hown4.lt
            go_wp2_with (first | (at_builtin; refine wpList_append_own _ rfl _ _ 38 rfl (w.heap.size + 2) 25 i0 (D 0 0) 2 16 Try.underlying38 hi hz0 hz1 hz2 rfl (by decide) _ _ _ rfl (hown4.alloc _) ⟨wr.heap.size, 0, none⟩ 1 1 [.int .i64 k, .int .i64 (x + 1 + j)] rfl rfl ?c1 ?c2 ?c3 ?c4 ?c5 ?_))
            case c1 => exact fun q u hq => (cells_new _ _ _ _).trans hq
            case c2 => intro u hu; simp at hu; rcases hu with rfl | rfl <;> rfl
            case c3 => unfold maxLen; omega
            case c4 => omega
            case c5 => have := h6.lt; simp; omega
            intro v2 w2 hown6 hg6 _
            go_wp2
            go_roundw
            case rel =>
              refine ⟨j + 1, by simp, by omega, ?_, (h5.alloc _).grown hg6 (fun q hq => by have := (hlt5 q hq).1; omega), (h6.alloc _).grown hg6 (fun q hq => by have := (hlt5 q hq).1; omega), (hbel5.alloc (by have := hbel5.size; omega) _).grown hg6 (by have := hbel5.size; simp; omega) (fun q hq => by have := (hlt5 q hq).1; omega)⟩
              rw [HR.out, List.length_append, dcel_append]
              exact hown6
            case measure => simp [intOf]; omega
          · have HJ : Hid (ms a b (k + 1) = l ++ run k x j) := by
              show _ = _
              rw [HM.out, hmin, show (4096 - (l.length : Int)).toNat = j by omega]
            clear HM hmin
            go_wp2
            go_roundw
            case rel =>
              refine ⟨k + 1, by simp, by omega, ?_, h5, h6, hbel5⟩
              rw [HJ.out]
              exact hown4
            case measure => simp [intOf]; omega
      · have hmin : (min (y - x) (4096 - (l.length : Int))).toNat = (y - x).toNat := by omega
        go_wp2
        go_region
        go_wp2
        go_loopw [5, 30] (fun v vi wr => ∃ (j : Nat), vi = .int .i64 j ∧ j ≤ (y - x).toNat ∧ wr.ownsRow (w.heap.size + 2) 25 2 v (l ++ run k x j).length (dcel (l ++ run k x j)) ∧ At wr w.heap.size a ∧ At wr (w.heap.size + 1) b ∧ Below w.heap.size w wr) (fun _ vi _ => (y - x).toNat - (intOf vi).toNat)
        case atStart => exact ⟨0, rfl, by omega, by simpa [run] using hown.drew, h3.drew, h4.drew, hbel3.drew⟩
        case round =>
          obtain ⟨j, rfl, hj, hown4, h5, h6, hbel5⟩ := hrel
          clear hown h3 h4 hbel3 c1 c2 e1 e2
          by_cases hlt2 : (j : Int) < y - x
          · have c3 := h5.cell hlt
            rw [HXA.out] at c3
            have HR : Hid (l ++ run k x (j + 1) = l ++ run k x j ++ [((k : Int), x + 1 + (j : Int))]) := by
              show _ = _
              rw [run_succ, List.append_assoc]
            have hn5 : (l ++ run k x j).length ≤ 4096 := by rw [List.length_append, run_length]; omega
            generalize l ++ run k x j = l5 at hown4 HR hn5
            have hlt5 := hown4.lt
            go_wp2_with (first | (at_builtin; refine wpList_append_own _ rfl _ _ 38 rfl (w.heap.size + 2) 25 i0 (D 0 0) 2 16 Try.underlying38 hi hz0 hz1 hz2 rfl (by decide) _ _ _ rfl (hown4.alloc _) ⟨wr.heap.size, 0, none⟩ 1 1 [.int .i64 k, .int .i64 (x + 1 + j)] rfl rfl ?c1 ?c2 ?c3 ?c4 ?c5 ?_))
            case c1 => exact fun q u hq => (cells_new _ _ _ _).trans hq
            case c2 => intro u hu; simp at hu; rcases hu with rfl | rfl <;> rfl
            case c3 => unfold maxLen; omega
            case c4 => omega
            case c5 => have := h6.lt; simp; omega
            intro v2 w2 hown6 hg6 _
            go_wp2
            go_roundw
            case rel =>
              refine ⟨j + 1, by simp, by omega, ?_, (h5.alloc _).grown hg6 (fun q hq => by have := (hlt5 q hq).1; omega), (h6.alloc _).grown hg6 (fun q hq => by have := (hlt5 q hq).1; omega), (hbel5.alloc (by have := hbel5.size; omega) _).grown hg6 (by have := hbel5.size; simp; omega) (fun q hq => by have := (hlt5 q hq).1; omega)⟩
              rw [HR.out, List.length_append, dcel_append]
              exact hown6
            case measure => simp [intOf]; omega
          · have HJ : Hid (ms a b (k + 1) = l ++ run k x j) := by
              show _ = _
              rw [HM.out, hmin, show (y - x).toNat = j by omega]
            clear HM hmin
            go_wp2
            go_roundw
            case rel =>
              refine ⟨k + 1, by simp, by omega, ?_, h5, h6, hbel5⟩
              rw [HJ.out]
              exact hown4
            case measure => simp [intOf]; omega
    · have hk13 : k = 13 := by omega
      subst hk13
      go_wp2
      go_ret
      exact ⟨_, rfl, hown, hbel3⟩
end Go.Proofs.Ytbeehmcoeblbcaa
