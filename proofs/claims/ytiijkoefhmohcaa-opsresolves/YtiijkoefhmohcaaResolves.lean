/- OpsResolves: what the statement answers. -/
import Derived.Test.YtiijkoefhmohcaaHeads
import Derived.Test.YtiijkoefhmohcaaSml
import Derived.Test.YtiijkoefhmohcaaEq
namespace Go.Proofs.Ytiijkoefhmohcaa
open Go.RowKit

theorem OIs.at {w : World} {q : Option Addr} {n c : Nat} {l : List O} (h : OIs w (.slice q n c) l) (k : Nat) (hk : k < l.length) : ∃ g o, q = some ⟨g, o, none⟩ ∧ w.rangeAt g (o + k * 10) l[k].cells := by
  obtain ⟨_, _, e, _, hr⟩ := h.has
  obtain ⟨g, o, hq, hd⟩ := hr (by omega)
  simp only [Value.slice.injEq] at e
  exact ⟨g, o, e.1.trans hq, hd k hk⟩
theorem rv_parts (a b : Int) (x : O) : (rv a b x).k = x.k ∧ (rv a b x).key = x.key ∧ (rv a b x).field = x.field ∧ (rv a b x).inner = x.inner ∧ (rv a b x).act = x.act ∧ (rv a b x).n = x.n ∧ (rv a b x).text = x.text ∧ (rv a b x).i = x.i := by
  unfold rv
  split <;> exact ⟨rfl, rfl, rfl, rfl, rfl, rfl, rfl, rfl⟩
theorem rv_own {a b : Int} (h : (decide (a = 0) && decide (b = 0)) = false) (x : O) : (rv a b x).i = 0 ∨ (decide ((rv a b x).p = 0) && decide ((rv a b x).s = 0)) = false := by
  unfold rv z2
  split
  · exact .inr h
  · grind
theorem rv_rv {a b : Int} (h : (decide (a = 0) && decide (b = 0)) = false) (x : O) : rv a b (rv a b x) = rv a b x := by
  rcases rv_own h x with h1 | h1
  · generalize rv a b x = y at h1
    unfold rv
    rw [if_neg]
    rw [h1]
    simp
  · generalize rv a b x = y at h1
    unfold rv z2
    rw [if_neg]
    rw [h1]
    simp
theorem rvs_rvs {a b : Int} (h : (decide (a = 0) && decide (b = 0)) = false) (l : List O) : rvs a b (rvs a b l) = rvs a b l := by
  unfold rvs
  rw [List.map_map]
  exact List.map_congr_left fun x _ => rv_rv h x
theorem rvs_length (a b : Int) (l : List O) : (rvs a b l).length = l.length := by simp [rvs]

set_option maxHeartbeats 8000000 in
set_option maxRecDepth 100000 in
theorem resolves_any (p s : Int) (v : List Int) (t : Int) (sl : Value) (l : List O) (a b : Int) (w : World) (hv : v.length = 13) (ho : OIs w sl l) : Calls Try.prog 3 #[TxV p s v t sl, D a b] w (Tells (.bool true) w) := by
  obtain ⟨q, c, rfl⟩ := ho.has.slice
  have CM := fun (w1 : World) (h : OHas w1 (.slice q l.length c) l) => small_any p s v t (.slice q l.length c) l w1 hv h
  have CH := heads_any
  have E := fun w => eq_dot w a b 0 0
  obtain ⟨y, HY⟩ := hid_ex (decide (a = 0) && decide (b = 0))
  rw [HY.out] at E
  obtain ⟨R0, R1, hbel⟩ := two_rows w (txc p s v t (.slice q l.length c)).toArray 28 #[.int .i64 a, .int .i64 b] 23
  have ho0 := ho
  replace ho := ho.later (bel_alloc (bel_alloc (Below.refl _ _) (.cells (txc p s v t (.slice q l.length c)).toArray 28)) (.cells #[.int .i64 a, .int .i64 b] 23))
  clear ho0
  have zt := size_tx (p := p) (s := s) (t := t) (sl := .slice q l.length c) hv
  generalize hW : (w.alloc (.cells (txc p s v t (.slice q l.length c)).toArray 28)).alloc (.cells #[.int .i64 a, .int .i64 b] 23) = w0 at R0 R1 hbel ho
  go_enter Try.func3, Try.ntmps3
  go_wp2_with (first | refine load_r 28 _ rfl rfl _ rfl R0 Try.underlying28 rfl zt ?_)
  refine (CM _ ho.has).mono ?_
  rintro e w1 ⟨x, rfl, hx, hb1⟩
  clear hW CM
  replace R0 := R0.later hb1
  replace R1 := R1.later hb1
  replace ho := ho.later hb1
  replace hbel := below_on hbel hb1
  clear hb1
  cases x
  · clear hx
    go_wp2_with fail
    refine (CH _).mono ?_
    rintro e w2 ⟨rfl, hb2⟩
    go_wp2_with fail
    go_ret
    exact ⟨rfl, below_on hbel hb2⟩
  · have h40 := hx (by trivial)
    clear hx
    cases y
    case true =>
      go_wp2_with (first | refine load_r 23 _ rfl rfl _ rfl R1 Try.underlying23 rfl size23 ?_)
      refine (CH _).mono ?_
      rintro e w2 ⟨rfl, hb2⟩
      go_wp2_with fail
      go_ret
      exact ⟨rfl, below_on hbel hb2⟩
    case false =>
      have c16 := tx_ops R0 hv
      go_wp2_with (first | refine load_r 23 _ rfl rfl _ rfl R1 Try.underlying23 rfl size23 ?_)
      refine (resolve_any _ l a b _ ho h40).mono ?_
      rintro e w2 ⟨u, rfl, hu, _, hb2⟩
      clear c16
      replace R0 := R0.later hb2
      replace R1 := R1.later hb2
      replace ho := ho.later hb2
      replace hbel := below_on hbel hb2
      clear hb2
      obtain ⟨qu, cu', rfl⟩ := hu.has.slice
      have c16 := tx_ops R0 hv
      rw [rvs_length] at hu ⊢
      go_wp2_with fail
      clear c16
      have hm := hu.1
      rw [rvs_length] at hm
      have hml := maxLen_lt hm
      go_loopw [6] (fun vi wr => ∃ k : Nat, vi = .int .i64 k ∧ k ≤ l.length ∧ Rw wr w.heap.size 28 (txc p s v t (.slice q l.length c)).toArray ∧ Rw wr (w.heap.size + 1) 23 #[.int .i64 a, .int .i64 b] ∧ OIs wr (.slice q l.length c) l ∧ OIs wr (.slice qu l.length cu') (rvs a b l) ∧ Below w.heap.size w wr) (fun vi _ => l.length - (intOf vi).toNat)
      case atStart => exact ⟨0, rfl, by omega, R0, R1, ho, hu, hbel⟩
      case round =>
        clear R0 R1 ho hu hbel
        obtain ⟨k, rfl, hk, R0, R1, ho, hu, hbel⟩ := hrel
        by_cases hlt : k < l.length
        · have hlt' : (k : Int) < (l.length : Int) := by omega
          have hltu : k < (rvs a b l).length := by rw [rvs_length]; exact hlt
          obtain ⟨g, o, rfl, d⟩ := ho.at k hlt
          obtain ⟨gu, ou, rfl, du⟩ := hu.at k hltu
          have ex : (rvs a b l)[k] = rv a b l[k] := by simp [rvs]
          rw [ex] at du
          clear ex hltu
          obtain ⟨x, HX⟩ := hid_ex l[k]
          rw [HX.out] at d du
          have hp := rv_parts a b x
          have hown := rv_own HY.out x
          generalize rv a b x = y at du hp hown
          obtain ⟨k', key', f', inner', act', n', text', p', s', i'⟩ := y
          simp only at hp hown
          have du' : wr.rangeAt gu (ou + k * 10) [.int .i64 k', .string key', .string f', .int .i64 inner', .int .i64 act', .int .i64 n', .string text', .int .i64 p', .int .i64 s', .int .i64 i'] := du
          have z35y : (Try.prog.info? 35).map (·.size) = some ([.int .i64 k', .string key', .string f', .int .i64 inner', .int .i64 act', .int .i64 n', .string text', .int .i64 p', .int .i64 s', .int .i64 i'] : List Value).length := size35
          have HP : Hid (k' = x.k ∧ key' = x.key ∧ f' = x.field ∧ inner' = x.inner ∧ act' = x.act ∧ n' = x.n ∧ text' = x.text ∧ i' = x.i) := hp
          clear hp HX du
          have E2 := fun w => eq_dot w p' s' 0 0
          have hyd : ((!decide (i' = 0)) && (decide (p' = 0) && decide (s' = 0))) = false := by
            rcases hown with h1 | h1
            · rw [h1]; rfl
            · rw [h1, Bool.and_false]
          generalize (decide (p' = 0) && decide (s' = 0)) = z at E2 hyd
          clear hown
          have E3 := fun w => eq_op w x x
          have ex : x.eqb x = true := (O.eqb_iff x x).2 rfl
          rw [ex] at E3
          clear ex
          have z35x : (Try.prog.info? 35).map (·.size) = some x.cells.length := size35
          have zx := zd x.p x.s
          by_cases hi : i' = 0
          · subst hi
            clear hyd
            have d2 := ref_p (range_later d (bel_alloc (Below.refl _ _) (.cells #[.int .i64 k', .string key', .string f', .int .i64 inner', .int .i64 act', .int .i64 n', .string text', .int .i64 p', .int .i64 s', .int .i64 0] 35)))
            have c16 := tx_ops (R0.alloc (.cells #[.int .i64 k', .string key', .string f', .int .i64 inner', .int .i64 act', .int .i64 n', .string text', .int .i64 p', .int .i64 s', .int .i64 0] 35)) hv
            have d3 := range_later d (bel_alloc (Below.refl _ _) (.cells #[.int .i64 k', .string key', .string f', .int .i64 inner', .int .i64 act', .int .i64 n', .string text', .int .i64 x.p, .int .i64 x.s, .int .i64 0] 35))
            have c17 := tx_ops (R0.alloc (.cells #[.int .i64 k', .string key', .string f', .int .i64 inner', .int .i64 act', .int .i64 n', .string text', .int .i64 x.p, .int .i64 x.s, .int .i64 0] 35)) hv
            have Rq := rw_new wr 35 #[.int .i64 k', .string key', .string f', .int .i64 inner', .int .i64 act', .int .i64 n', .string text', .int .i64 x.p, .int .i64 x.s, .int .i64 0]
            have T0 := R0.alloc (.cells #[.int .i64 k', .string key', .string f', .int .i64 inner', .int .i64 act', .int .i64 n', .string text', .int .i64 x.p, .int .i64 x.s, .int .i64 0] 35)
            have T1 := R1.alloc (.cells #[.int .i64 k', .string key', .string f', .int .i64 inner', .int .i64 act', .int .i64 n', .string text', .int .i64 x.p, .int .i64 x.s, .int .i64 0] 35)
            have To := ho.later (bel_alloc (Below.refl _ _) (.cells #[.int .i64 k', .string key', .string f', .int .i64 inner', .int .i64 act', .int .i64 n', .string text', .int .i64 x.p, .int .i64 x.s, .int .i64 0] 35))
            have Tu := hu.later (bel_alloc (Below.refl _ _) (.cells #[.int .i64 k', .string key', .string f', .int .i64 inner', .int .i64 act', .int .i64 n', .string text', .int .i64 x.p, .int .i64 x.s, .int .i64 0] 35))
            have Tb := bel_alloc hbel (.cells #[.int .i64 k', .string key', .string f', .int .i64 inner', .int .i64 act', .int .i64 n', .string text', .int .i64 x.p, .int .i64 x.s, .int .i64 0] 35)
            have E4 : ∀ w, (Op.equalIn 10000 35 (.agg #[.int .i64 k', .string key', .string f', .int .i64 inner', .int .i64 act', .int .i64 n', .string text', .int .i64 x.p, .int .i64 x.s, .int .i64 0]) (.agg x.cells.toArray)).run Try.prog w = .ok true w := by
              obtain ⟨rfl, rfl, rfl, rfl, rfl, rfl, rfl, h8⟩ := HP.out
              rw [h8]
              exact E3
            clear E3 HP
            go_wp2_with (first | refine load_m 35 _ rfl rfl _ _ rfl du' Try.underlying35 rfl z35y ?_ | refine load_m 23 _ rfl rfl _ _ rfl d2 Try.underlying23 rfl zx ?_)
            refine Calm.region (by kernel_rfl) (by kernel_rfl) (fun w' => w' = (wr.alloc (.cells #[.int .i64 k', .string key', .string f', .int .i64 inner', .int .i64 act', .int .i64 n', .string text', .int .i64 x.p, .int .i64 x.s, .int .i64 0] 35)).drew) rfl ?_
            refine Calm.loadW (cs := #[.int .i64 k', .string key', .string f', .int .i64 inner', .int .i64 act', .int .i64 n', .string text', .int .i64 x.p, .int .i64 x.s, .int .i64 0]) 35 Try.underlying35 rfl size35 (by rfl) _ rfl rfl (fun _ h => by subst h; exact Rq.drew) ?_
            simp only [Act.put, List.setIfInBounds_toArray, List.set_cons_zero, List.set_cons_succ]
            refine Calm.pure (v := ?_) (by rfl) ?_ ?_
            rotate_left
            focus (intro w hSw; subst hSw; go_simp <;> rfl)
            simp only [Act.put, List.setIfInBounds_toArray, List.set_cons_zero, List.set_cons_succ]
            refine Calm.pure (v := ?_) (by rfl) ?_ ?_
            rotate_left
            focus (intro w hSw; subst hSw; go_simp <;> rfl)
            simp only [Act.put, List.setIfInBounds_toArray, List.set_cons_zero, List.set_cons_succ]
            refine Calm.pure (v := ?_) (by rfl) ?_ ?_
            rotate_left
            focus (intro w hSw; subst hSw; go_simp <;> rfl)
            simp only [Act.put, List.setIfInBounds_toArray, List.set_cons_zero, List.set_cons_succ]
            refine Calm.pure (v := ?_) (by rfl) ?_ ?_
            rotate_left
            focus (intro w hSw; subst hSw; go_simp <;> rfl)
            simp only [Act.put, List.setIfInBounds_toArray, List.set_cons_zero, List.set_cons_succ]
            refine Calm.loadM 35 Try.underlying35 rfl z35x (by rfl) _ rfl rfl (fun _ h => by subst h; exact d3) ?_
            simp only [Act.put, List.setIfInBounds_toArray, List.set_cons_zero, List.set_cons_succ]
            refine Calm.pure (v := ?_) (by rfl) ?_ ?_
            rotate_left
            focus (intro w hSw; subst hSw; go_simp <;> rfl)
            simp only [Act.put, List.setIfInBounds_toArray, List.set_cons_zero, List.set_cons_succ]
            rintro w9 rfl
            go_wp2_with fail
            go_roundw
            case rel => exact ⟨k + 1, by simp, by omega, T0.drew, T1.drew, To.later (Below.refl _ _).drew, Tu.later (Below.refl _ _).drew, Tb.drew⟩
            case measure => simp [intOf]; omega
          · obtain rfl : z = false := by simpa [hi] using hyd
            clear hyd
            have d2 := ref_p (range_later d (bel_alloc (Below.refl _ _) (.cells #[.int .i64 k', .string key', .string f', .int .i64 inner', .int .i64 act', .int .i64 n', .string text', .int .i64 p', .int .i64 s', .int .i64 i'] 35)))
            have c16 := tx_ops (R0.alloc (.cells #[.int .i64 k', .string key', .string f', .int .i64 inner', .int .i64 act', .int .i64 n', .string text', .int .i64 p', .int .i64 s', .int .i64 i'] 35)) hv
            have d3 := range_later d (bel_alloc (Below.refl _ _) (.cells #[.int .i64 k', .string key', .string f', .int .i64 inner', .int .i64 act', .int .i64 n', .string text', .int .i64 x.p, .int .i64 x.s, .int .i64 i'] 35))
            have c17 := tx_ops (R0.alloc (.cells #[.int .i64 k', .string key', .string f', .int .i64 inner', .int .i64 act', .int .i64 n', .string text', .int .i64 x.p, .int .i64 x.s, .int .i64 i'] 35)) hv
            have Rq := rw_new wr 35 #[.int .i64 k', .string key', .string f', .int .i64 inner', .int .i64 act', .int .i64 n', .string text', .int .i64 x.p, .int .i64 x.s, .int .i64 i']
            have T0 := R0.alloc (.cells #[.int .i64 k', .string key', .string f', .int .i64 inner', .int .i64 act', .int .i64 n', .string text', .int .i64 x.p, .int .i64 x.s, .int .i64 i'] 35)
            have T1 := R1.alloc (.cells #[.int .i64 k', .string key', .string f', .int .i64 inner', .int .i64 act', .int .i64 n', .string text', .int .i64 x.p, .int .i64 x.s, .int .i64 i'] 35)
            have To := ho.later (bel_alloc (Below.refl _ _) (.cells #[.int .i64 k', .string key', .string f', .int .i64 inner', .int .i64 act', .int .i64 n', .string text', .int .i64 x.p, .int .i64 x.s, .int .i64 i'] 35))
            have Tu := hu.later (bel_alloc (Below.refl _ _) (.cells #[.int .i64 k', .string key', .string f', .int .i64 inner', .int .i64 act', .int .i64 n', .string text', .int .i64 x.p, .int .i64 x.s, .int .i64 i'] 35))
            have Tb := bel_alloc hbel (.cells #[.int .i64 k', .string key', .string f', .int .i64 inner', .int .i64 act', .int .i64 n', .string text', .int .i64 x.p, .int .i64 x.s, .int .i64 i'] 35)
            have E4 : ∀ w, (Op.equalIn 10000 35 (.agg #[.int .i64 k', .string key', .string f', .int .i64 inner', .int .i64 act', .int .i64 n', .string text', .int .i64 x.p, .int .i64 x.s, .int .i64 i']) (.agg x.cells.toArray)).run Try.prog w = .ok true w := by
              obtain ⟨rfl, rfl, rfl, rfl, rfl, rfl, rfl, h8⟩ := HP.out
              subst h8
              exact E3
            clear E3 HP
            go_wp2_with (first | refine load_m 35 _ rfl rfl _ _ rfl du' Try.underlying35 rfl z35y ?_ | refine load_m 23 _ rfl rfl _ _ rfl d2 Try.underlying23 rfl zx ?_)
            refine Calm.region (by kernel_rfl) (by kernel_rfl) (fun w' => w' = (wr.alloc (.cells #[.int .i64 k', .string key', .string f', .int .i64 inner', .int .i64 act', .int .i64 n', .string text', .int .i64 x.p, .int .i64 x.s, .int .i64 i'] 35)).drew) rfl ?_
            refine Calm.loadW (cs := #[.int .i64 k', .string key', .string f', .int .i64 inner', .int .i64 act', .int .i64 n', .string text', .int .i64 x.p, .int .i64 x.s, .int .i64 i']) 35 Try.underlying35 rfl size35 (by rfl) _ rfl rfl (fun _ h => by subst h; exact Rq.drew) ?_
            simp only [Act.put, List.setIfInBounds_toArray, List.set_cons_zero, List.set_cons_succ]
            refine Calm.pure (v := ?_) (by rfl) ?_ ?_
            rotate_left
            focus (intro w hSw; subst hSw; go_simp <;> rfl)
            simp only [Act.put, List.setIfInBounds_toArray, List.set_cons_zero, List.set_cons_succ]
            refine Calm.pure (v := ?_) (by rfl) ?_ ?_
            rotate_left
            focus (intro w hSw; subst hSw; go_simp <;> rfl)
            simp only [Act.put, List.setIfInBounds_toArray, List.set_cons_zero, List.set_cons_succ]
            refine Calm.pure (v := ?_) (by rfl) ?_ ?_
            rotate_left
            focus (intro w hSw; subst hSw; go_simp <;> rfl)
            simp only [Act.put, List.setIfInBounds_toArray, List.set_cons_zero, List.set_cons_succ]
            refine Calm.pure (v := ?_) (by rfl) ?_ ?_
            rotate_left
            focus (intro w hSw; subst hSw; go_simp <;> rfl)
            simp only [Act.put, List.setIfInBounds_toArray, List.set_cons_zero, List.set_cons_succ]
            refine Calm.loadM 35 Try.underlying35 rfl z35x (by rfl) _ rfl rfl (fun _ h => by subst h; exact d3) ?_
            simp only [Act.put, List.setIfInBounds_toArray, List.set_cons_zero, List.set_cons_succ]
            refine Calm.pure (v := ?_) (by rfl) ?_ ?_
            rotate_left
            focus (intro w hSw; subst hSw; go_simp <;> rfl)
            simp only [Act.put, List.setIfInBounds_toArray, List.set_cons_zero, List.set_cons_succ]
            rintro w9 rfl
            go_wp2_with fail
            go_roundw
            case rel => exact ⟨k + 1, by simp, by omega, T0.drew, T1.drew, To.later (Below.refl _ _).drew, Tu.later (Below.refl _ _).drew, Tb.drew⟩
            case measure => simp [intOf]; omega
        · have hlt' : ¬ (k : Int) < (l.length : Int) := by omega
          have CE : ∀ (u1 : Value) (w : World), OHas w u1 (rvs a b l) → OHas w (.slice qu l.length cu') (rvs a b l) → Calls Try.prog 10 #[u1, .slice qu l.length cu'] w (Tells (.bool true) w) := by
            intro u1 w h1 h2
            have e : leqb (rvs a b l) (rvs a b l) = true := (leqb_iff _ _).2 rfl
            rw [← e]
            exact opsEq_any _ _ _ _ w h1 h2
          go_wp2_with (first | refine load_r 23 _ rfl rfl _ rfl R1 Try.underlying23 rfl size23 ?_)
          refine (resolve_any _ (rvs a b l) a b _ hu (by rw [rvs_length]; exact h40)).mono ?_
          rw [rvs_rvs HY.out]
          rintro e w3 ⟨u1, rfl, hu1, _, hb3⟩
          go_wp2_with fail
          refine (CE _ _ hu1.has (hu.later hb3).has).mono ?_
          rintro e w4 ⟨rfl, hb4⟩
          go_wp2_with fail
          refine (CH _).mono ?_
          rintro e w5 ⟨rfl, hb5⟩
          go_wp2_with fail
          go_ret
          exact ⟨rfl, below_on (below_on (below_on hbel hb3) hb4) hb5⟩
end Go.Proofs.Ytiijkoefhmohcaa
