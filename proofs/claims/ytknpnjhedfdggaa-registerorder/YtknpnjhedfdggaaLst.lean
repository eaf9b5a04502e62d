/- last of package register. -/
import Derived.Test.YtknpnjhedfdggaaTxt
import Derived.Test.YtknpnjhedfdggaaCk
namespace Go.Proofs.Ytknpnjhedfdggaa
open Go.RowKit

/-- A slice of writes that is new, or none. -/
def LaPost (l : List Wt) (w : World) (e : Ending) (w' : World) : Prop := ∃ u, e = .returned u ∧ WHas w' u l ∧ Below w.heap.size w w'
theorem whas_one (w : World) (y : Wt) : WHas (w.alloc (.cells #[.int .i64 y.p, .int .i64 y.s, .int .i64 y.i, .int .i64 y.t, .string y.x] 42)) (.slice (some ⟨w.heap.size, 0, none⟩) 1 1) [y] := by
  refine ⟨by show 1 ≤ maxLen; unfold maxLen; decide, rfl, .inr ⟨_, _, rfl, ⟨Nat.le_refl _, by unfold maxLen; decide⟩, fun _ => ⟨_, _, rfl, ?_⟩⟩⟩
  rw [rows_one]
  exact Rw.whole (cs := y.cells) (rw_new w 42 _)
set_option maxHeartbeats 2000000 in
set_option maxRecDepth 100000 in
theorem last_any (v : Value) (l : List Wt) (w : World) (h : WHas w v l) (hl : l.length ≤ 100) : Calls Try.prog 24 #[v] w (LaPost (lastW l) w) := by
  obtain ⟨p, c, rfl⟩ := h.slice
  obtain ⟨hcl, hcm⟩ := h.cap
  cases l with
  | nil =>
    go_enter Try.func24, Try.ntmps24
    go_wp2
    go_ret
    exact ⟨_, rfl, WHas.nil _, Below.refl _ _⟩
  | cons y l =>
    obtain ⟨g, o, rfl, hd⟩ := h.at (by simp)
    have HD : Hid (w.rangeAt g o (rows Wt.cells (y :: l))) := hd
    have d0 : w.rangeAt g o y.cells := by
      have := Wt.elem hd 0 (by simp)
      simpa using this
    have z42 : (Try.prog.info? 42).map (·.size) = some y.cells.length := size42
    rw [List.length_cons] at hl hcl ⊢
    clear h hd
    have hl0 : ¬ ((l.length : Int) + 1 = 0) := by omega
    have hcI : (c : Int) ≤ 9223372036854775807 := maxLen_lt hcm
    have R := rw_new w 42 #[.int .i64 y.p, .int .i64 y.s, .int .i64 y.i, .int .i64 y.t, .string y.x]
    have hbel := bel_alloc (Below.refl w.heap.size w) (.cells #[.int .i64 y.p, .int .i64 y.s, .int .i64 y.i, .int .i64 y.t, .string y.x] 42)
    obtain ⟨P, hP⟩ : ∃ P : Nat, P = if c = 1 then o else o + 5 := ⟨_, rfl⟩
    obtain ⟨z, HZ⟩ := hid_ex (lastW (y :: l))
    rw [HZ.out]
    generalize hW : w.alloc (.cells #[.int .i64 y.p, .int .i64 y.s, .int .i64 y.i, .int .i64 y.t, .string y.x] 42) = w0 at R hbel
    by_cases hc1 : c = 1
    · subst hc1
      obtain rfl : l = [] := List.eq_nil_of_length_eq_zero (by omega)
      have e : z = [y] := HZ.out.symm
      subst e
      clear HZ
      go_enter Try.func24, Try.ntmps24
      go_wp2_with (first | rw [hW] | refine load_m 42 _ rfl rfl _ _ rfl d0 Try.underlying42 rfl z42 ?_)
      refine wp_loop_rounds 1 ?_
      rw [rounds_succ]
      go_wp2_with (first | refine load_r 42 _ rfl rfl _ rfl R Try.underlying42 rfl size42 ?_)
      go_ret
      exact ⟨_, rfl, whas_one _ _, bel_alloc hbel _⟩
    · go_enter Try.func24, Try.ntmps24
      go_wp2_with (first | rw [hW] | refine load_m 42 _ rfl rfl _ _ rfl d0 Try.underlying42 rfl z42 ?_)
      go_loopw [15] (fun vi wr => ∃ k : Nat, vi = .int .i64 k ∧ k ≤ l.length ∧ (∃ b : Wt, Hid (b = bst y (l.take k)) ∧ Rw wr w.heap.size 42 #[.int .i64 b.p, .int .i64 b.s, .int .i64 b.i, .int .i64 b.t, .string b.x]) ∧ Below w.heap.size w wr) (fun vi _ => l.length - (intOf vi).toNat)
      case atStart => exact ⟨0, rfl, by omega, ⟨y, (rfl : y = y), R⟩, hbel⟩
      case round =>
        clear R hbel hW d0 w0
        obtain ⟨k, rfl, hk, ⟨b, HB, R⟩, hbel⟩ := hrel
        by_cases hlt : k < l.length
        · have hlt' : (k : Int) < (l.length : Int) := by omega
          have d : wr.rangeAt g (o + 5 + k * 5) l[k].cells := by
            have := Wt.elem (range_later HD.out hbel) (k + 1) (by simpa using hlt)
            rw [show o + 5 + k * 5 = o + (k + 1) * 5 by omega]
            simpa using this
          obtain ⟨x, HX⟩ := hid_ex l[k]
          rw [HX.out] at d
          have zx : (Try.prog.info? 42).map (·.size) = some x.cells.length := size42
          have HS : Hid (bst y (l.take (k + 1)) = if b.t ≤ x.t then x else b) := by
            show _ = _
            rw [List.take_succ_eq_append_getElem hlt, bst_snoc, HX.out, HB.out]
          have hbA := bel_alloc (Below.refl wr.heap.size wr) (.cells #[.int .i64 x.p, .int .i64 x.s, .int .i64 x.i, .int .i64 x.t, .string x.x] 42)
          have R5 := rw_new wr 42 #[.int .i64 x.p, .int .i64 x.s, .int .i64 x.i, .int .i64 x.t, .string x.x]
          have hne : w.heap.size < wr.heap.size := R.lt
          replace R := R.later hbA
          replace hbel := below_on hbel hbA
          generalize hW : wr.alloc (.cells #[.int .i64 x.p, .int .i64 x.s, .int .i64 x.i, .int .i64 x.t, .string x.x] 42) = w1 at R R5 hbel
          have cb : w1.cell? ⟨w.heap.size, 3, none⟩ = some (.int .i64 b.t) := R.cell 3
          have cx : w1.cell? ⟨wr.heap.size, 3, none⟩ = some (.int .i64 x.t) := R5.cell 3
          clear hbA HX HZ
          by_cases hge : b.t ≤ x.t
          · rw [if_pos hge] at HS
            go_wp2_with (first | rw [hW] | refine load_m 42 _ rfl rfl _ _ rfl d Try.underlying42 rfl zx ?_ | refine load_r 42 _ rfl rfl _ rfl R5 Try.underlying42 rfl size42 ?_ | refine store_r rfl 42 _ _ rfl _ #[.int .i64 x.p, .int .i64 x.s, .int .i64 x.i, .int .i64 x.t, .string x.x] rfl rfl R size42 rfl (by simp [Value.oneCell']) ?_)
            go_roundw
            case rel => exact ⟨k + 1, by simp, by omega, ⟨x, HS.out.symm, R.row _⟩, below_setRow hbel (Nat.le_refl _) _⟩
            case measure => simp [intOf]; omega
          · rw [if_neg hge] at HS
            have hge' : ¬ b.t ≤ x.t := hge
            go_wp2_with (first | rw [hW] | refine load_m 42 _ rfl rfl _ _ rfl d Try.underlying42 rfl zx ?_)
            go_roundw
            case rel => exact ⟨k + 1, by simp, by omega, ⟨b, HS.out.symm, R⟩, hbel⟩
            case measure => simp [intOf]; omega
        · have hlt' : ¬ (k : Int) < (l.length : Int) := by omega
          obtain rfl : k = l.length := by omega
          rw [List.take_length] at HB
          have e : z = [b] := by
            rw [← HZ.out, HB.out]
            rfl
          subst e
          clear HZ HB HD
          go_wp2_with (first | refine load_r 42 _ rfl rfl _ rfl R Try.underlying42 rfl size42 ?_)
          go_ret
          exact ⟨_, rfl, whas_one _ _, bel_alloc hbel _⟩
end Go.Proofs.Ytknpnjhedfdggaa
