/- Before of package ops, and of the document's answer. -/
import Derived.Test.YtefpdcpcjfjblaaTx
import Derived.Test.YtefpdcpcjfjblaaRefHas
namespace Go.Proofs.Ytefpdcpcjfjblaa
open Go.RowKit

/-- What Before tells. -/
def bf (p s i : Int) (q u : Int) (v : List Int) (idx : Int) : Bool := decide (1 ≤ i) && (((decide (p = q) && decide (s = u)) && decide (i < idx)) || hs v p s)
theorem info31 {v : List Int} (h : v.length = 13) : (Try.prog.info? 31).map (·.size) = some (vals v).length := by rw [vals_length, h]; exact size31
theorem two_rows (w : World) (c1 : Array Value) (t1 : TypeId) (c2 : Array Value) (t2 : TypeId) : Rw ((w.alloc (.cells c1 t1)).alloc (.cells c2 t2)) w.heap.size t1 c1 ∧ Rw ((w.alloc (.cells c1 t1)).alloc (.cells c2 t2)) (w.heap.size + 1) t2 c2 ∧ Below w.heap.size w ((w.alloc (.cells c1 t1)).alloc (.cells c2 t2)) :=
  ⟨(rw_new w t1 c1).alloc _, rw_next _ (by simp) t2 c2, bel_alloc (bel_alloc (Below.refl _ _) _) _⟩
theorem mk_dot {w : World} {b : Nat} {p s i : Int} (h : Rw w b 44 #[.int .i64 p, .int .i64 s, .int .i64 i]) : w.rangeAt b 0 [.int .i64 p, .int .i64 s] := h.range 0 _ fun j u hu => by
  rw [Nat.zero_add]
  match j with
  | 0 => simpa using hu
  | 1 => simpa using hu
  | j + 2 => simp at hu

set_option maxHeartbeats 2000000 in
set_option maxRecDepth 100000 in
theorem before_any (p s i : Int) (q u : Int) (v : List Int) (t : Int) (sl : Value) (idx : Int) (w : World) (hv : v.length = 13) : Calls Try.prog 36 #[MV p s i, TxV q u v t sl, .int .i64 idx] w (Tells (.bool (bf p s i q u v idx)) w) := by
  unfold bf
  have E := fun w => eq_dot w p s q u
  generalize (decide (p = q) && decide (s = u)) = x at E ⊢
  have C := fun w => has_any v p s w hv
  generalize hs v p s = y at C ⊢
  obtain ⟨R0, R1, hbel⟩ := two_rows w #[.int .i64 p, .int .i64 s, .int .i64 i] 44 (txc q u v t sl).toArray 34
  have z3 := info31 hv
  have c0 : ((w.alloc (.cells #[.int .i64 p, .int .i64 s, .int .i64 i] 44)).alloc (.cells (txc q u v t sl).toArray 34)).cell? ⟨w.heap.size, 0, none⟩ = some (.int .i64 p) := R0.cell 0
  have c1 : ((w.alloc (.cells #[.int .i64 p, .int .i64 s, .int .i64 i] 44)).alloc (.cells (txc q u v t sl).toArray 34)).cell? ⟨w.heap.size, 1, none⟩ = some (.int .i64 s) := R0.cell 1
  have c2 : ((w.alloc (.cells #[.int .i64 p, .int .i64 s, .int .i64 i] 44)).alloc (.cells (txc q u v t sl).toArray 34)).cell? ⟨w.heap.size, 2, none⟩ = some (.int .i64 i) := R0.cell 2
  have d0 := tx_p R1
  have d1 := tx_s R1
  generalize hW : (w.alloc (.cells #[.int .i64 p, .int .i64 s, .int .i64 i] 44)).alloc (.cells (txc q u v t sl).toArray 34) = w0 at R1 hbel c0 c1 c2 d0 d1
  clear R0
  cases x
  · by_cases hi : 1 ≤ i
    · go_enter Try.func36, Try.ntmps36
      go_wp2_with (first | refine load_m 31 _ rfl rfl _ _ rfl (tx_vec R1) Try.underlying31 rfl z3 ?_)
      refine (C _).mono ?_
      rintro e w1 ⟨rfl, hb1⟩
      replace hbel := below_on hbel hb1
      clear hb1
      go_wp2_with fail
      go_ret
      refine tells_bool ?_ hbel
      clear R1 hbel c0 c1 c2 d0 d1 hW C
      first | rfl | (simp_all; done) | grind
    · go_enter Try.func36, Try.ntmps36
      go_wp2_with fail
      go_ret
      refine tells_bool ?_ hbel
      clear R1 hbel c0 c1 c2 d0 d1 hW C
      first | rfl | (simp_all; done) | grind
  · by_cases hj : i < idx
    · by_cases hi : 1 ≤ i
      · go_enter Try.func36, Try.ntmps36
        go_wp2_with fail
        go_ret
        refine tells_bool ?_ hbel
        clear R1 hbel c0 c1 c2 d0 d1 hW C
        first | rfl | (simp_all; done) | grind
      · go_enter Try.func36, Try.ntmps36
        go_wp2_with fail
        go_ret
        refine tells_bool ?_ hbel
        clear R1 hbel c0 c1 c2 d0 d1 hW C
        first | rfl | (simp_all; done) | grind
    · by_cases hi : 1 ≤ i
      · go_enter Try.func36, Try.ntmps36
        go_wp2_with (first | refine load_m 31 _ rfl rfl _ _ rfl (tx_vec R1) Try.underlying31 rfl z3 ?_)
        refine (C _).mono ?_
        rintro e w1 ⟨rfl, hb1⟩
        replace hbel := below_on hbel hb1
        clear hb1
        go_wp2_with fail
        go_ret
        refine tells_bool ?_ hbel
        clear R1 hbel c0 c1 c2 d0 d1 hW C
        first | rfl | (simp_all; done) | grind
      · go_enter Try.func36, Try.ntmps36
        go_wp2_with fail
        go_ret
        refine tells_bool ?_ hbel
        clear R1 hbel c0 c1 c2 d0 d1 hW C
        first | rfl | (simp_all; done) | grind

set_option maxHeartbeats 2000000 in
set_option maxRecDepth 100000 in
theorem refBefore_any (p s i : Int) (q u : Int) (v : List Int) (t : Int) (sl : Value) (idx : Int) (w : World) (hv : v.length = 13) : Calls Try.prog 39 #[MV p s i, TxV q u v t sl, .int .i64 idx] w (Tells (.bool (bf p s i q u v idx)) w) := by
  unfold bf
  have E := fun w => eq_dot w p s q u
  generalize (decide (p = q) && decide (s = u)) = x at E ⊢
  have C := fun w => refHas_any v p s w hv
  generalize hs v p s = y at C ⊢
  obtain ⟨R0, R1, hbel⟩ := two_rows w #[.int .i64 p, .int .i64 s, .int .i64 i] 44 (txc q u v t sl).toArray 34
  have z3 := info31 hv
  have c0 : ((w.alloc (.cells #[.int .i64 p, .int .i64 s, .int .i64 i] 44)).alloc (.cells (txc q u v t sl).toArray 34)).cell? ⟨w.heap.size, 0, none⟩ = some (.int .i64 p) := R0.cell 0
  have c1 : ((w.alloc (.cells #[.int .i64 p, .int .i64 s, .int .i64 i] 44)).alloc (.cells (txc q u v t sl).toArray 34)).cell? ⟨w.heap.size, 1, none⟩ = some (.int .i64 s) := R0.cell 1
  have c2 : ((w.alloc (.cells #[.int .i64 p, .int .i64 s, .int .i64 i] 44)).alloc (.cells (txc q u v t sl).toArray 34)).cell? ⟨w.heap.size, 2, none⟩ = some (.int .i64 i) := R0.cell 2
  have d0 := tx_p R1
  have d1 := tx_s R1
  generalize hW : (w.alloc (.cells #[.int .i64 p, .int .i64 s, .int .i64 i] 44)).alloc (.cells (txc q u v t sl).toArray 34) = w0 at R1 hbel c0 c1 c2 d0 d1
  clear R0
  cases x
  · by_cases hi : 1 ≤ i
    · go_enter Try.func39, Try.ntmps39
      go_wp2_with (first | refine load_m 31 _ rfl rfl _ _ rfl (tx_vec R1) Try.underlying31 rfl z3 ?_)
      refine (C _).mono ?_
      rintro e w1 ⟨rfl, hb1⟩
      replace hbel := below_on hbel hb1
      clear hb1
      go_wp2_with fail
      go_ret
      refine tells_bool ?_ hbel
      clear R1 hbel c0 c1 c2 d0 d1 hW C
      first | rfl | (simp_all; done) | grind
    · go_enter Try.func39, Try.ntmps39
      go_wp2_with fail
      go_ret
      refine tells_bool ?_ hbel
      clear R1 hbel c0 c1 c2 d0 d1 hW C
      first | rfl | (simp_all; done) | grind
  · by_cases hj : i < idx
    · by_cases hi : 1 ≤ i
      · go_enter Try.func39, Try.ntmps39
        go_wp2_with fail
        go_ret
        refine tells_bool ?_ hbel
        clear R1 hbel c0 c1 c2 d0 d1 hW C
        first | rfl | (simp_all; done) | grind
      · go_enter Try.func39, Try.ntmps39
        go_wp2_with fail
        go_ret
        refine tells_bool ?_ hbel
        clear R1 hbel c0 c1 c2 d0 d1 hW C
        first | rfl | (simp_all; done) | grind
    · by_cases hi : 1 ≤ i
      · go_enter Try.func39, Try.ntmps39
        go_wp2_with (first | refine load_m 31 _ rfl rfl _ _ rfl (tx_vec R1) Try.underlying31 rfl z3 ?_)
        refine (C _).mono ?_
        rintro e w1 ⟨rfl, hb1⟩
        replace hbel := below_on hbel hb1
        clear hb1
        go_wp2_with fail
        go_ret
        refine tells_bool ?_ hbel
        clear R1 hbel c0 c1 c2 d0 d1 hW C
        first | rfl | (simp_all; done) | grind
      · go_enter Try.func39, Try.ntmps39
        go_wp2_with fail
        go_ret
        refine tells_bool ?_ hbel
        clear R1 hbel c0 c1 c2 d0 d1 hW C
        first | rfl | (simp_all; done) | grind
end Go.Proofs.Ytefpdcpcjfjblaa
