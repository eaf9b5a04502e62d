import Derived.Test.YtfiamiflkfdhoaaP4
import Derived.Test.YtfiamiflkfdhoaaP2
import Derived.Test.YtfiamiflkfdhoaaP1
import Derived.Deep.MidRow
import Derived.Deep.Cut
/- CheckTx and CheckOpen of package ops, and of the document's answer. -/
namespace Go.Proofs.Ytfiamiflkfdhoaa
open Go.RowKit

/-- What CheckTx, CheckOpen tell. -/
def ct (p s : Int) (v : List Int) (t : Int) (l : List O) : Bool := (wi p 1 12 && wi s 1 1048576) && decide (v.getD p.toNat 0 < s) && decide (1 ≤ l.length) && sn p s v t l
def cop (p s : Int) (v : List Int) (t : Int) (l : List O) : Bool := (decide (p = 0) && decide (s = 0)) && sn p s v t l
theorem OHas.slice {w : World} {sl : Value} {l : List O} (h : OHas w sl l) : ∃ q c, sl = .slice q l.length c := by
  obtain ⟨q, c, e, _⟩ := h
  exact ⟨q, c, e⟩
theorem zd (p s : Int) : (Try.prog.info? 31).map (·.size) = some [Value.int .i64 p, Value.int .i64 s].length := size31
theorem Calm.loadW {ops : Array Oper} {S : World → Prop} {K : Act → Prop} {o : Oper} {l : List Oper} {a : Act} {b : Nat} {cs : Array Value} (t : TypeId) {d : TypeDesc} (hu : Try.prog.underlying t = some d) (hd : d.isRow = true) (hi : (Try.prog.info? t).map (·.size) = some cs.size) (hw : Region.wanted o (yielded ops a.tmps) = true) (x : Operand) (ho : o.op = .load t x)
    (hx : a.eval x = .pointer (some ⟨b, 0, none⟩)) (hS : ∀ w, S w → Rw w b t cs) (h : Calm.calmList Try.prog ops S K l (a.put o.dst (.agg cs))) : Calm.calmList Try.prog ops S K (o :: l) a :=
  Calm.pure hw (fun w hw' => by
    unfold execOp
    simp only [ho, hx, Sem.run_bind, (hS w hw').loadAt hd hu hi, Result.andThen_ok, Sem.run_pure]) h

set_option maxHeartbeats 4000000 in
set_option maxRecDepth 100000 in
theorem checkTx_any (p s : Int) (v : List Int) (t : Int) (sl : Value) (l : List O) (w : World) (hv : v.length = 13) (ho : OHas w sl l) : Calls Try.prog 18 #[TxV p s v t sl] w (Tells (.bool (ct p s v t l)) w) := by
  have CS := fun (w1 : World) (h : OHas w1 sl l) => seen_any p s v t sl l w1 hv h
  obtain ⟨u, HU⟩ := hid_ex (sn p s v t l)
  unfold ct
  rw [HU.out] at CS ⊢
  clear HU
  obtain ⟨q, c, rfl⟩ := ho.slice
  have CD := fun w => isDot_any p s w
  obtain ⟨x, HX⟩ := hid_ex (wi p 1 12 && wi s 1 1048576)
  rw [HX.out] at CD ⊢
  obtain ⟨y, HY⟩ := hid_ex (decide (v.getD p.toNat 0 < s))
  obtain ⟨z, HZ⟩ := hid_ex (decide (1 ≤ l.length))
  rw [HY.out, HZ.out]
  have HP : Hid (x = true → ∃ n : Nat, p = n ∧ n < 13) := by
    show x = true → ∃ n : Nat, p = n ∧ n < 13
    intro e
    have h := HX.out
    rw [e] at h
    have h1 : 1 ≤ p ∧ p ≤ 12 := by unfold wi at h; grind
    exact ⟨p.toNat, by omega, by omega⟩
  clear HX
  have R := rw_new w 34 (txc p s v t (.slice q l.length c)).toArray
  have hbel : Below w.heap.size w (w.alloc (.cells (txc p s v t (.slice q l.length c)).toArray 34)) := bel_alloc (Below.refl _ _) _
  replace ho := ho.later (bel_alloc (Below.refl _ _) (.cells (txc p s v t (.slice q l.length c)).toArray 34))
  have c0 := tx_p R
  have c1 := tx_s R
  have c16 := tx_ops R hv
  have zt := size_tx (p := p) (s := s) (t := t) (sl := .slice q l.length c) hv
  have z2 := zd p s
  cases x
  case false =>
    generalize hW : w.alloc (.cells (txc p s v t (.slice q l.length c)).toArray 34) = w0 at R hbel ho c0 c1 c16
    go_enter Try.func18, Try.ntmps18
    go_wp2_with (rw [hW])
    clear hW
    have hs : Calm.Stays (fun w' => w'.cell? ⟨w.heap.size, 0, none⟩ = some (.int .i64 p) ∧ w'.cell? ⟨w.heap.size, 1, none⟩ = some (.int .i64 s) ∧ w'.cell? ⟨w.heap.size, 16, none⟩ = some (.slice q l.length c) ∧ Rw w' w.heap.size 34 (txc p s v t (.slice q l.length c)).toArray ∧ OHas w' (.slice q l.length c) l ∧ Below w.heap.size w w') := fun wa wb h hb => ⟨cell_later hb h.1, cell_later hb h.2.1, cell_later hb h.2.2.1, h.2.2.2.1.later hb, h.2.2.2.2.1.later hb, below_on h.2.2.2.2.2 hb⟩
    refine Calm.region (by kernel_rfl) (by kernel_rfl) (fun w' => w'.cell? ⟨w.heap.size, 0, none⟩ = some (.int .i64 p) ∧ w'.cell? ⟨w.heap.size, 1, none⟩ = some (.int .i64 s) ∧ w'.cell? ⟨w.heap.size, 16, none⟩ = some (.slice q l.length c) ∧ Rw w' w.heap.size 34 (txc p s v t (.slice q l.length c)).toArray ∧ OHas w' (.slice q l.length c) l ∧ Below w.heap.size w w') ⟨c0, c1, c16, R, ho, hbel.drew⟩ ?_
    clear R hbel ho c0 c1 c16
    all_goals
      refine Calm.pure (v := ?_) (by rfl) ?_ ?_
      rotate_left
      focus (intro w hSw; go_simp <;> rfl)
      simp only [Act.put, List.setIfInBounds_toArray, List.set_cons_zero, List.set_cons_succ]
    all_goals
      refine Calm.loadM 31 Try.underlying31 rfl z2 (by rfl) _ rfl rfl (fun _ h => tx_dot h.2.2.2.1) ?_
      simp only [Act.put, List.setIfInBounds_toArray, List.set_cons_zero, List.set_cons_succ]
    all_goals
      refine Calm.call1s (by rfl) rfl rfl (by kernel_rfl) hs (fun w1 h => CD w1) ?_
      simp only [Act.put, List.setIfInBounds_toArray, List.set_cons_zero, List.set_cons_succ]
    all_goals
      refine Calm.pure (v := ?_) (by rfl) ?_ ?_
      rotate_left
      focus (intro w hSw; go_simp <;> rfl)
      simp only [Act.put, List.setIfInBounds_toArray, List.set_cons_zero, List.set_cons_succ]
    all_goals
      first
        | (refine Calm.skip ?_ ?_; focus rfl)
        | (refine Calm.pure (v := ?_) (by rfl) ?_ ?_
           rotate_left
           focus (intro w hSw; go_simp <;> rfl))
      simp only [Act.put, List.setIfInBounds_toArray, List.set_cons_zero, List.set_cons_succ]
    all_goals
      first
        | (refine Calm.skip ?_ ?_; focus rfl)
        | (refine Calm.pure (v := ?_) (by rfl) ?_ ?_
           rotate_left
           focus (intro w hSw; go_simp <;> rfl))
      simp only [Act.put, List.setIfInBounds_toArray, List.set_cons_zero, List.set_cons_succ]
    all_goals
      first
        | (refine Calm.skip ?_ ?_; focus rfl)
        | (refine Calm.pure (v := ?_) (by rfl) ?_ ?_
           rotate_left
           focus (intro w hSw; go_simp <;> rfl))
      simp only [Act.put, List.setIfInBounds_toArray, List.set_cons_zero, List.set_cons_succ]
    all_goals
      first
        | (refine Calm.skip ?_ ?_; focus rfl)
        | (refine Calm.pure (v := ?_) (by rfl) ?_ ?_
           rotate_left
           focus (intro w hSw; go_simp <;> rfl))
      simp only [Act.put, List.setIfInBounds_toArray, List.set_cons_zero, List.set_cons_succ]
    all_goals
      first
        | (refine Calm.skip ?_ ?_; focus rfl)
        | (refine Calm.pure (v := ?_) (by rfl) ?_ ?_
           rotate_left
           focus (intro w hSw; go_simp <;> rfl))
      simp only [Act.put, List.setIfInBounds_toArray, List.set_cons_zero, List.set_cons_succ]
    all_goals
      first
        | (refine Calm.skip ?_ ?_; focus rfl)
        | (refine Calm.pure (v := ?_) (by rfl) ?_ ?_
           rotate_left
           focus (intro w hSw; go_simp <;> rfl))
      simp only [Act.put, List.setIfInBounds_toArray, List.set_cons_zero, List.set_cons_succ]
    all_goals
      first
        | (refine Calm.skip ?_ ?_; focus rfl)
        | (refine Calm.pure (v := ?_) (by rfl) ?_ ?_
           rotate_left
           focus (intro w hSw; go_simp <;> rfl))
      simp only [Act.put, List.setIfInBounds_toArray, List.set_cons_zero, List.set_cons_succ]
    all_goals
      first
        | (refine Calm.skip ?_ ?_; focus rfl)
        | (refine Calm.pure (v := ?_) (by rfl) ?_ ?_
           rotate_left
           focus (intro w hSw; go_simp <;> rfl))
      simp only [Act.put, List.setIfInBounds_toArray, List.set_cons_zero, List.set_cons_succ]
    all_goals
      first
        | (refine Calm.skip ?_ ?_; focus rfl)
        | (refine Calm.pure (v := ?_) (by rfl) ?_ ?_
           rotate_left
           focus (intro w hSw; go_simp <;> rfl))
      simp only [Act.put, List.setIfInBounds_toArray, List.set_cons_zero, List.set_cons_succ]
    all_goals
      first
        | (refine Calm.skip ?_ ?_; focus rfl)
        | (refine Calm.pure (v := ?_) (by rfl) ?_ ?_
           rotate_left
           focus (intro w hSw; go_simp <;> rfl))
      simp only [Act.put, List.setIfInBounds_toArray, List.set_cons_zero, List.set_cons_succ]
    all_goals
      refine Calm.pure (v := ?_) (by rfl) ?_ ?_
      rotate_left
      focus (intro w hSw; go_simp <;> rfl)
      simp only [Act.put, List.setIfInBounds_toArray, List.set_cons_zero, List.set_cons_succ]
    all_goals
      refine Calm.pure (v := ?_) (by rfl) ?_ ?_
      rotate_left
      focus (intro w hSw; go_simp <;> rfl)
      simp only [Act.put, List.setIfInBounds_toArray, List.set_cons_zero, List.set_cons_succ]
    all_goals
      first
        | (refine Calm.skip ?_ ?_; focus rfl)
        | (refine Calm.pure (v := ?_) (by rfl) ?_ ?_
           rotate_left
           focus (intro w hSw; go_simp <;> rfl))
      simp only [Act.put, List.setIfInBounds_toArray, List.set_cons_zero, List.set_cons_succ]
    all_goals
      first
        | (refine Calm.skip ?_ ?_; focus rfl)
        | (refine Calm.pure (v := ?_) (by rfl) ?_ ?_
           rotate_left
           focus (intro w hSw; go_simp <;> rfl))
      simp only [Act.put, List.setIfInBounds_toArray, List.set_cons_zero, List.set_cons_succ]
    all_goals
      first
        | (refine Calm.skip ?_ ?_; focus rfl)
        | (refine Calm.pure (v := ?_) (by rfl) ?_ ?_
           rotate_left
           focus (intro w hSw; go_simp <;> rfl))
      simp only [Act.put, List.setIfInBounds_toArray, List.set_cons_zero, List.set_cons_succ]
    all_goals
      first
        | (refine Calm.skip ?_ ?_; focus rfl)
        | (refine Calm.pure (v := ?_) (by rfl) ?_ ?_
           rotate_left
           focus (intro w hSw; go_simp <;> rfl))
      simp only [Act.put, List.setIfInBounds_toArray, List.set_cons_zero, List.set_cons_succ]
    all_goals
      refine Calm.pure (v := ?_) (by rfl) ?_ ?_
      rotate_left
      focus (intro w hSw; go_simp <;> rfl)
      simp only [Act.put, List.setIfInBounds_toArray, List.set_cons_zero, List.set_cons_succ]
    all_goals
      refine Calm.pure (v := ?_) (by rfl) ?_ ?_
      rotate_left
      focus (intro w hSw; go_simp <;> rfl)
      simp only [Act.put, List.setIfInBounds_toArray, List.set_cons_zero, List.set_cons_succ]
    all_goals
      first
        | (refine Calm.skip ?_ ?_; focus rfl)
        | (refine Calm.loadW 34 Try.underlying34 rfl zt (by rfl) _ rfl rfl (fun _ h => h.2.2.2.1) ?_)
      simp only [Act.put, List.setIfInBounds_toArray, List.set_cons_zero, List.set_cons_succ]
    all_goals
      first
        | (refine Calm.skip ?_ ?_; focus rfl)
        | (refine Calm.call1s (by rfl) rfl rfl (by kernel_rfl) hs (fun w1 h => CS w1 h.2.2.2.2.1) ?_)
      simp only [Act.put, List.setIfInBounds_toArray, List.set_cons_zero, List.set_cons_succ]
    all_goals
      refine Calm.pure (v := ?_) (by rfl) ?_ ?_
      rotate_left
      focus (intro w hSw; go_simp <;> rfl)
      simp only [Act.put, List.setIfInBounds_toArray, List.set_cons_zero, List.set_cons_succ]
    all_goals
      refine Calm.pure (v := ?_) (by rfl) ?_ ?_
      rotate_left
      focus (intro w hSw; go_simp <;> rfl)
      simp only [Act.put, List.setIfInBounds_toArray, List.set_cons_zero, List.set_cons_succ]
    all_goals
      rintro w9 ⟨_, _, _, _, _, hbel9⟩
    all_goals
      go_wp2_with fail
      go_ret
      exact ⟨rfl, hbel9⟩
  case true =>
    obtain ⟨n, rfl, hn⟩ := HP.out rfl
    have hn' : (n : Int) < 13 := by omega
    rw [show ((n : Int)).toNat = n by omega] at HY
    have cn := tx_at R hv n hn
    obtain ⟨m, HM⟩ := hid_ex (v.getD n 0)
    rw [HM.out] at cn HY
    clear HM HP
    have hy : decide (m < s) = y := HY.out
    have hz : decide (1 ≤ (l.length : Int)) = z := by
      rw [← HZ.out, decide_eq_decide]
      omega
    clear HY HZ
    generalize hW : w.alloc (.cells (txc (n : Int) s v t (.slice q l.length c)).toArray 34) = w0 at R hbel ho c0 c1 c16 cn
    cases y <;> cases z
    all_goals
      go_enter Try.func18, Try.ntmps18
      go_wp2_with (rw [hW])
      clear hW
      have hs : Calm.Stays (fun w' => w'.cell? ⟨w.heap.size, 0, none⟩ = some (.int .i64 n) ∧ w'.cell? ⟨w.heap.size, 1, none⟩ = some (.int .i64 s) ∧ w'.cell? ⟨w.heap.size, 16, none⟩ = some (.slice q l.length c) ∧ w'.cell? ⟨w.heap.size, 2 + n, none⟩ = some (.int .i64 m) ∧ Rw w' w.heap.size 34 (txc (n : Int) s v t (.slice q l.length c)).toArray ∧ OHas w' (.slice q l.length c) l ∧ Below w.heap.size w w') := fun wa wb h hb => ⟨cell_later hb h.1, cell_later hb h.2.1, cell_later hb h.2.2.1, cell_later hb h.2.2.2.1, h.2.2.2.2.1.later hb, h.2.2.2.2.2.1.later hb, below_on h.2.2.2.2.2.2 hb⟩
      refine Calm.region (by kernel_rfl) (by kernel_rfl) (fun w' => w'.cell? ⟨w.heap.size, 0, none⟩ = some (.int .i64 n) ∧ w'.cell? ⟨w.heap.size, 1, none⟩ = some (.int .i64 s) ∧ w'.cell? ⟨w.heap.size, 16, none⟩ = some (.slice q l.length c) ∧ w'.cell? ⟨w.heap.size, 2 + n, none⟩ = some (.int .i64 m) ∧ Rw w' w.heap.size 34 (txc (n : Int) s v t (.slice q l.length c)).toArray ∧ OHas w' (.slice q l.length c) l ∧ Below w.heap.size w w') ⟨c0, c1, c16, cn, R, ho, hbel.drew⟩ ?_
      clear R hbel ho c0 c1 c16 cn
      all_goals
        refine Calm.pure (v := ?_) (by rfl) ?_ ?_
        rotate_left
        focus (intro w hSw; go_simp <;> rfl)
        simp only [Act.put, List.setIfInBounds_toArray, List.set_cons_zero, List.set_cons_succ]
      all_goals
        refine Calm.loadM 31 Try.underlying31 rfl z2 (by rfl) _ rfl rfl (fun _ h => tx_dot h.2.2.2.2.1) ?_
        simp only [Act.put, List.setIfInBounds_toArray, List.set_cons_zero, List.set_cons_succ]
      all_goals
        refine Calm.call1s (by rfl) rfl rfl (by kernel_rfl) hs (fun w1 h => CD w1) ?_
        simp only [Act.put, List.setIfInBounds_toArray, List.set_cons_zero, List.set_cons_succ]
      all_goals
        refine Calm.pure (v := ?_) (by rfl) ?_ ?_
        rotate_left
        focus (intro w hSw; go_simp <;> rfl)
        simp only [Act.put, List.setIfInBounds_toArray, List.set_cons_zero, List.set_cons_succ]
      all_goals
        first
          | (refine Calm.skip ?_ ?_; focus rfl)
          | (refine Calm.pure (v := ?_) (by rfl) ?_ ?_
             rotate_left
             focus (intro w hSw; go_simp <;> rfl))
        simp only [Act.put, List.setIfInBounds_toArray, List.set_cons_zero, List.set_cons_succ]
      all_goals
        first
          | (refine Calm.skip ?_ ?_; focus rfl)
          | (refine Calm.pure (v := ?_) (by rfl) ?_ ?_
             rotate_left
             focus (intro w hSw; go_simp <;> rfl))
        simp only [Act.put, List.setIfInBounds_toArray, List.set_cons_zero, List.set_cons_succ]
      all_goals
        first
          | (refine Calm.skip ?_ ?_; focus rfl)
          | (refine Calm.pure (v := ?_) (by rfl) ?_ ?_
             rotate_left
             focus (intro w hSw; go_simp <;> rfl))
        simp only [Act.put, List.setIfInBounds_toArray, List.set_cons_zero, List.set_cons_succ]
      all_goals
        first
          | (refine Calm.skip ?_ ?_; focus rfl)
          | (refine Calm.pure (v := ?_) (by rfl) ?_ ?_
             rotate_left
             focus (intro w hSw; go_simp <;> rfl))
        simp only [Act.put, List.setIfInBounds_toArray, List.set_cons_zero, List.set_cons_succ]
      all_goals
        first
          | (refine Calm.skip ?_ ?_; focus rfl)
          | (refine Calm.pure (v := ?_) (by rfl) ?_ ?_
             rotate_left
             focus (intro w hSw; go_simp <;> rfl))
        simp only [Act.put, List.setIfInBounds_toArray, List.set_cons_zero, List.set_cons_succ]
      all_goals
        first
          | (refine Calm.skip ?_ ?_; focus rfl)
          | (refine Calm.pure (v := ?_) (by rfl) ?_ ?_
             rotate_left
             focus (intro w hSw; go_simp <;> rfl))
        simp only [Act.put, List.setIfInBounds_toArray, List.set_cons_zero, List.set_cons_succ]
      all_goals
        first
          | (refine Calm.skip ?_ ?_; focus rfl)
          | (refine Calm.pure (v := ?_) (by rfl) ?_ ?_
             rotate_left
             focus (intro w hSw; go_simp <;> rfl))
        simp only [Act.put, List.setIfInBounds_toArray, List.set_cons_zero, List.set_cons_succ]
      all_goals
        first
          | (refine Calm.skip ?_ ?_; focus rfl)
          | (refine Calm.pure (v := ?_) (by rfl) ?_ ?_
             rotate_left
             focus (intro w hSw; go_simp <;> rfl))
        simp only [Act.put, List.setIfInBounds_toArray, List.set_cons_zero, List.set_cons_succ]
      all_goals
        first
          | (refine Calm.skip ?_ ?_; focus rfl)
          | (refine Calm.pure (v := ?_) (by rfl) ?_ ?_
             rotate_left
             focus (intro w hSw; go_simp <;> rfl))
        simp only [Act.put, List.setIfInBounds_toArray, List.set_cons_zero, List.set_cons_succ]
      all_goals
        first
          | (refine Calm.skip ?_ ?_; focus rfl)
          | (refine Calm.pure (v := ?_) (by rfl) ?_ ?_
             rotate_left
             focus (intro w hSw; go_simp <;> rfl))
        simp only [Act.put, List.setIfInBounds_toArray, List.set_cons_zero, List.set_cons_succ]
      all_goals
        refine Calm.pure (v := ?_) (by rfl) ?_ ?_
        rotate_left
        focus (intro w hSw; go_simp <;> rfl)
        simp only [Act.put, List.setIfInBounds_toArray, List.set_cons_zero, List.set_cons_succ]
      all_goals
        refine Calm.pure (v := ?_) (by rfl) ?_ ?_
        rotate_left
        focus (intro w hSw; go_simp <;> rfl)
        simp only [Act.put, List.setIfInBounds_toArray, List.set_cons_zero, List.set_cons_succ]
      all_goals
        first
          | (refine Calm.skip ?_ ?_; focus rfl)
          | (refine Calm.pure (v := ?_) (by rfl) ?_ ?_
             rotate_left
             focus (intro w hSw; go_simp <;> rfl))
        simp only [Act.put, List.setIfInBounds_toArray, List.set_cons_zero, List.set_cons_succ]
      all_goals
        first
          | (refine Calm.skip ?_ ?_; focus rfl)
          | (refine Calm.pure (v := ?_) (by rfl) ?_ ?_
             rotate_left
             focus (intro w hSw; go_simp <;> rfl))
        simp only [Act.put, List.setIfInBounds_toArray, List.set_cons_zero, List.set_cons_succ]
      all_goals
        first
          | (refine Calm.skip ?_ ?_; focus rfl)
          | (refine Calm.pure (v := ?_) (by rfl) ?_ ?_
             rotate_left
             focus (intro w hSw; go_simp <;> rfl))
        simp only [Act.put, List.setIfInBounds_toArray, List.set_cons_zero, List.set_cons_succ]
      all_goals
        first
          | (refine Calm.skip ?_ ?_; focus rfl)
          | (refine Calm.pure (v := ?_) (by rfl) ?_ ?_
             rotate_left
             focus (intro w hSw; go_simp <;> rfl))
        simp only [Act.put, List.setIfInBounds_toArray, List.set_cons_zero, List.set_cons_succ]
      all_goals
        refine Calm.pure (v := ?_) (by rfl) ?_ ?_
        rotate_left
        focus (intro w hSw; go_simp <;> rfl)
        simp only [Act.put, List.setIfInBounds_toArray, List.set_cons_zero, List.set_cons_succ]
      all_goals
        refine Calm.pure (v := ?_) (by rfl) ?_ ?_
        rotate_left
        focus (intro w hSw; go_simp <;> rfl)
        simp only [Act.put, List.setIfInBounds_toArray, List.set_cons_zero, List.set_cons_succ]
      all_goals
        first
          | (refine Calm.skip ?_ ?_; focus rfl)
          | (refine Calm.loadW 34 Try.underlying34 rfl zt (by rfl) _ rfl rfl (fun _ h => h.2.2.2.2.1) ?_)
        simp only [Act.put, List.setIfInBounds_toArray, List.set_cons_zero, List.set_cons_succ]
      all_goals
        first
          | (refine Calm.skip ?_ ?_; focus rfl)
          | (refine Calm.call1s (by rfl) rfl rfl (by kernel_rfl) hs (fun w1 h => CS w1 h.2.2.2.2.2.1) ?_)
        simp only [Act.put, List.setIfInBounds_toArray, List.set_cons_zero, List.set_cons_succ]
      all_goals
        refine Calm.pure (v := ?_) (by rfl) ?_ ?_
        rotate_left
        focus (intro w hSw; go_simp <;> rfl)
        simp only [Act.put, List.setIfInBounds_toArray, List.set_cons_zero, List.set_cons_succ]
      all_goals
        refine Calm.pure (v := ?_) (by rfl) ?_ ?_
        rotate_left
        focus (intro w hSw; go_simp <;> rfl)
        simp only [Act.put, List.setIfInBounds_toArray, List.set_cons_zero, List.set_cons_succ]
      all_goals
        rintro w9 ⟨_, _, _, _, _, _, hbel9⟩
    all_goals
      go_wp2_with fail
      go_ret
      exact ⟨rfl, hbel9⟩
end Go.Proofs.Ytfiamiflkfdhoaa
/- The moves of a region that draws its order, each in one word: what is left to be shown of each is done where it is called. Nothing of one program. -/
namespace Go.Proofs.Ytfiamiflkfdhoaa.Calm

section
variable {P : Program} {ops : Array Oper} {S : World → Prop} {K : Act → Prop} {o : Oper} {l : List Oper} {a a' : Act}
/-- Passed over. -/
theorem sk (h : calmList P ops S K l a') (hw : Region.wanted o (yielded ops a.tmps) = false := by rfl)
    (hp : a.put o.dst undef = a' := by (simp only [Act.put, List.setIfInBounds_toArray, List.set_cons_zero, List.set_cons_succ]; rfl)) : calmList P ops S K (o :: l) a :=
  skip hw (hp ▸ h)
/-- Run to a value. -/
theorem pu {v : Value} (h : calmList P ops S K l a') (hw : Region.wanted o (yielded ops a.tmps) = true := by rfl)
    (hv : ∀ w, S w → (execOp a.eval o).run P w = .ok (.value v) w := by (intro w hSw; go_simp <;> rfl))
    (hp : a.put o.dst v = a' := by (simp only [Act.put, List.setIfInBounds_toArray, List.set_cons_zero, List.set_cons_succ]; rfl)) : calmList P ops S K (o :: l) a :=
  pure hw hv (hp ▸ h)
/-- A load of what a cell holds. -/
theorem ce {v : Value} {ad : Addr} (g : ∀ w, S w → w.cell? ad = some v) (h : calmList P ops S K l a') (hw : Region.wanted o (yielded ops a.tmps) = true := by rfl)
    (hv : ∀ w, S w → w.cell? ad = some v → (execOp a.eval o).run P w = .ok (.value v) w := by (intro w hSw g1; go_simp))
    (hp : a.put o.dst v = a' := by (simp only [Act.put, List.setIfInBounds_toArray, List.set_cons_zero, List.set_cons_succ]; rfl)) : calmList P ops S K (o :: l) a :=
  pure hw (fun w hS => hv w hS (g w hS)) (hp ▸ h)
/-- By a fact of the world. -/
theorem cl {v : Value} {p : World → Prop} (g : ∀ w, S w → p w) (h : calmList P ops S K l a') (hw : Region.wanted o (yielded ops a.tmps) = true := by rfl)
    (hv : ∀ w, S w → p w → (execOp a.eval o).run P w = .ok (.value v) w := by (intro w hSw g1; go_simp <;> rfl))
    (hp : a.put o.dst v = a' := by (simp only [Act.put, List.setIfInBounds_toArray, List.set_cons_zero, List.set_cons_succ]; rfl)) : calmList P ops S K (o :: l) a :=
  pure hw (fun w hS => hv w hS (g w hS)) (hp ▸ h)
theorem cs {v : Value} {p : World → Prop} (g : ∀ w, S w → p w) (h : calmList P ops S K l a') (hw : Region.wanted o (yielded ops a.tmps) = true := by rfl)
    (hv : ∀ w, S w → p w → (execOp a.eval o).run P w = .ok (.value v) w := by (intro w hSw g1; simp at g1; go_simp <;> rfl))
    (hp : a.put o.dst v = a' := by (simp only [Act.put, List.setIfInBounds_toArray, List.set_cons_zero, List.set_cons_succ]; rfl)) : calmList P ops S K (o :: l) a :=
  pure hw (fun w hS => hv w hS (g w hS)) (hp ▸ h)
/-- A load of a struct. -/
theorem lm {b f : Nat} {cs : List Value} {t : TypeId} {d : TypeDesc} {x : Operand} (hi : (P.info? t).map (·.size) = some cs.length) (hS : ∀ w, S w → w.rangeAt b f cs) (hu : P.underlying t = some d) (h : calmList P ops S K l a') (hw : Region.wanted o (yielded ops a.tmps) = true := by rfl)
    (ho : o.op = .load t x := by rfl) (hx : a.eval x = .pointer (some ⟨b, f, none⟩) := by rfl) (hd : d.isRow = true := by rfl)
    (hp : a.put o.dst (.agg cs.toArray) = a' := by (simp only [Act.put, List.setIfInBounds_toArray, List.set_cons_zero, List.set_cons_succ]; rfl)) : calmList P ops S K (o :: l) a :=
  pure hw (fun w hw' => by
    have h2 := run_loadVar_mid (P := P) w b f t cs d (hS w hw') hu hd hi
    unfold execOp
    simp only [ho, hx, Instr.loadAt, Instr.sureAddr, Sem.run_bind, Sem.run_pure, h2, Result.andThen_ok]) (hp ▸ h)
/-- Calls of functions by their names, whose contracts may ask for S; of a function that a slot holds. -/
theorem k0 {r : Value} {f : FuncId} {ts : Array TypeId} (hs : Stays S) (hc : ∀ w, S w → Calls P f #[] w fun e w' => e = .returned r ∧ RowKit.Below w.heap.size w w') (h : calmList P ops S K l a') (hw : Region.wanted o (yielded ops a.tmps) = true := by rfl) (ho : o.op = .call { callee := .value (.func f), args := #[], argTypes := ts } := by rfl)  (hf : enters P f = true := by kernel_rfl)
    (hp : a.put o.dst r = a' := by (simp only [Act.put, List.setIfInBounds_toArray, List.set_cons_zero, List.set_cons_succ]; rfl)) : calmList P ops S K (o :: l) a :=
  call (f := f) (args := #[]) hw (fun w => by
    have e : ∀ args, (callFunc f args).run P w = .ok (.enter f args) w := fun args => enters_run hf args w
    unfold execOp
    simp [ho, go_sem, Act.eval, e]) (fun w hS => (hc w hS).mono fun e w' he => ⟨he.1, hs w w' hS he.2⟩) (hp ▸ h)
theorem k1 {r x : Value} {f : FuncId} {ts : Array TypeId} {u : Operand} (hs : Stays S) (hc : ∀ w, S w → Calls P f #[x] w fun e w' => e = .returned r ∧ RowKit.Below w.heap.size w w') (h : calmList P ops S K l a') (hw : Region.wanted o (yielded ops a.tmps) = true := by rfl) (ho : o.op = .call { callee := .value (.func f), args := #[u], argTypes := ts } := by rfl) (hu : a.eval u = x := by rfl) (hf : enters P f = true := by kernel_rfl)
    (hp : a.put o.dst r = a' := by (simp only [Act.put, List.setIfInBounds_toArray, List.set_cons_zero, List.set_cons_succ]; rfl)) : calmList P ops S K (o :: l) a :=
  call (f := f) (args := #[x]) hw (fun w => by
    have e : ∀ args, (callFunc f args).run P w = .ok (.enter f args) w := fun args => enters_run hf args w
    subst hu
    unfold execOp
    simp [ho, go_sem, Act.eval, e]) (fun w hS => (hc w hS).mono fun e w' he => ⟨he.1, hs w w' hS he.2⟩) (hp ▸ h)
theorem k2 {r x y : Value} {f : FuncId} {ts : Array TypeId} {u v : Operand} (hs : Stays S) (hc : ∀ w, S w → Calls P f #[x, y] w fun e w' => e = .returned r ∧ RowKit.Below w.heap.size w w') (h : calmList P ops S K l a') (hw : Region.wanted o (yielded ops a.tmps) = true := by rfl) (ho : o.op = .call { callee := .value (.func f), args := #[u, v], argTypes := ts } := by rfl) (hu : a.eval u = x := by rfl) (hv : a.eval v = y := by rfl) (hf : enters P f = true := by kernel_rfl)
    (hp : a.put o.dst r = a' := by (simp only [Act.put, List.setIfInBounds_toArray, List.set_cons_zero, List.set_cons_succ]; rfl)) : calmList P ops S K (o :: l) a :=
  call (f := f) (args := #[x, y]) hw (fun w => by
    have e : ∀ args, (callFunc f args).run P w = .ok (.enter f args) w := fun args => enters_run hf args w
    subst hu
    subst hv
    unfold execOp
    simp [ho, go_sem, Act.eval, e]) (fun w hS => (hc w hS).mono fun e w' he => ⟨he.1, hs w w' hS he.2⟩) (hp ▸ h)
theorem k3 {r x y z : Value} {f : FuncId} {ts : Array TypeId} {u v t : Operand} (hs : Stays S) (hc : ∀ w, S w → Calls P f #[x, y, z] w fun e w' => e = .returned r ∧ RowKit.Below w.heap.size w w') (h : calmList P ops S K l a') (hw : Region.wanted o (yielded ops a.tmps) = true := by rfl) (ho : o.op = .call { callee := .value (.func f), args := #[u, v, t], argTypes := ts } := by rfl) (hu : a.eval u = x := by rfl) (hv : a.eval v = y := by rfl) (ht : a.eval t = z := by rfl) (hf : enters P f = true := by kernel_rfl)
    (hp : a.put o.dst r = a' := by (simp only [Act.put, List.setIfInBounds_toArray, List.set_cons_zero, List.set_cons_succ]; rfl)) : calmList P ops S K (o :: l) a :=
  call (f := f) (args := #[x, y, z]) hw (fun w => by
    have e : ∀ args, (callFunc f args).run P w = .ok (.enter f args) w := fun args => enters_run hf args w
    subst hu
    subst hv
    subst ht
    unfold execOp
    simp [ho, go_sem, Act.eval, e]) (fun w hS => (hc w hS).mono fun e w' he => ⟨he.1, hs w w' hS he.2⟩) (hp ▸ h)
theorem k4 {r x y z q : Value} {f : FuncId} {ts : Array TypeId} {u v t n : Operand} (hs : Stays S) (hc : ∀ w, S w → Calls P f #[x, y, z, q] w fun e w' => e = .returned r ∧ RowKit.Below w.heap.size w w') (h : calmList P ops S K l a') (hw : Region.wanted o (yielded ops a.tmps) = true := by rfl) (ho : o.op = .call { callee := .value (.func f), args := #[u, v, t, n], argTypes := ts } := by rfl) (hu : a.eval u = x := by rfl) (hv : a.eval v = y := by rfl) (ht : a.eval t = z := by rfl) (hn : a.eval n = q := by rfl) (hf : enters P f = true := by kernel_rfl)
    (hp : a.put o.dst r = a' := by (simp only [Act.put, List.setIfInBounds_toArray, List.set_cons_zero, List.set_cons_succ]; rfl)) : calmList P ops S K (o :: l) a :=
  call (f := f) (args := #[x, y, z, q]) hw (fun w => by
    have e : ∀ args, (callFunc f args).run P w = .ok (.enter f args) w := fun args => enters_run hf args w
    subst hu
    subst hv
    subst ht
    subst hn
    unfold execOp
    simp [ho, go_sem, Act.eval, e]) (fun w hS => (hc w hS).mono fun e w' he => ⟨he.1, hs w w' hS he.2⟩) (hp ▸ h)
theorem kf1 {r x : Value} {f : FuncId} {ts : Array TypeId} {uf u : Operand} (hs : Stays S) (hc : ∀ w, S w → Calls P f #[x] w fun e w' => e = .returned r ∧ RowKit.Below w.heap.size w w') (h : calmList P ops S K l a') (hw : Region.wanted o (yielded ops a.tmps) = true := by rfl) (ho : o.op = .call { callee := .value uf, args := #[u], argTypes := ts } := by rfl) (hv : a.eval uf = .func (.func f) #[] #[] := by rfl) (hu : a.eval u = x := by rfl) (hf : enters P f = true := by kernel_rfl)
    (hp : a.put o.dst r = a' := by (simp only [Act.put, List.setIfInBounds_toArray, List.set_cons_zero, List.set_cons_succ]; rfl)) : calmList P ops S K (o :: l) a :=
  call (f := f) (args := #[x]) hw (fun w => by
    have e : ∀ args, (callFunc f args).run P w = .ok (.enter f args) w := fun args => enters_run hf args w
    generalize a.eval = ρ at hv hu ⊢
    subst hu
    unfold execOp
    simp [ho, go_sem, hv, e]) (fun w hS => (hc w hS).mono fun e w' he => ⟨he.1, hs w w' hS he.2⟩) (hp ▸ h)
end
end Go.Proofs.Ytfiamiflkfdhoaa.Calm
/- Same and Rows of the document's answer: the same transactions, the same rows of them. -/
namespace Go.Proofs.Ytfiamiflkfdhoaa
open Go.RowKit

/-- Two transactions are one. -/
def T.eqb (a b : T) : Bool := decide (a.p = b.p) && decide (a.s = b.s) && (a.v == b.v) && decide (a.t = b.t) && leqb a.ops b.ops
theorem T.eqb_iff (a b : T) : a.eqb b = true ↔ a = b := by
  obtain ⟨p, s, v, t, ops, hv⟩ := a
  obtain ⟨p', s', v', t', ops', hv'⟩ := b
  simp [T.eqb, leqb_iff]
  constructor
  · rintro ⟨⟨⟨⟨rfl, rfl⟩, rfl⟩, rfl⟩, rfl⟩
    exact ⟨rfl, rfl, rfl, rfl, rfl⟩
  · rintro ⟨rfl, rfl, rfl, rfl, rfl⟩
    exact ⟨⟨⟨⟨rfl, rfl⟩, rfl⟩, rfl⟩, rfl⟩
/-- Two rows of transactions are one. -/
def rwb : List T → List T → Bool
  | [], [] => true
  | a :: l, b :: m => a.eqb b && rwb l m
  | _, _ => false
theorem rwb_iff : ∀ l m : List T, rwb l m = true ↔ l = m
  | [], [] => by simp [rwb]
  | [], _ :: _ => by simp [rwb]
  | _ :: _, [] => by simp [rwb]
  | a :: l, b :: m => by simp [rwb, rwb_iff l m, T.eqb_iff]
set_option maxHeartbeats 4000000 in
set_option maxRecDepth 100000 in
theorem same_any (x y : T) (v1 v2 : Value) (w : World) (h1 : OHas w v1 x.ops) (h2 : OHas w v2 y.ops) : Calls Try.prog 32 #[TxV x.p x.s x.v x.t v1, TxV y.p y.s y.v y.t v2] w (Tells (.bool (x.eqb y)) w) := by
  obtain ⟨R1, R2, hbel⟩ := two_rows w (txc x.p x.s x.v x.t v1).toArray 34 (txc y.p y.s y.v y.t v2).toArray 34
  generalize hW : (w.alloc (.cells (txc x.p x.s x.v x.t v1).toArray 34)).alloc (.cells (txc y.p y.s y.v y.t v2).toArray 34) = w0 at R1 R2 hbel
  have dx := tx_dot R1
  have dy := tx_dot R2
  have ex := tx_vec R1
  have ey := tx_vec R2
  have c1 := tx_time R1 x.hv
  have c2 := tx_time R2 y.hv
  have c3 := tx_ops R1 x.hv
  have c4 := tx_ops R2 y.hv
  have E := fun w => eq_dot w x.p x.s y.p y.s
  have F := fun w => eq_arrays w x.v y.v x.hv y.hv
  have z1 := info26 x.hv
  have z2 := info26 y.hv
  have d1 := zd x.p x.s
  have d2 := zd y.p y.s
  have C := opsEq_any v1 v2 x.ops y.ops w0 (h1.later hbel) (h2.later hbel)
  obtain ⟨r, HR⟩ := hid_ex (x.eqb y)
  unfold T.eqb at HR
  obtain ⟨r1, H1⟩ := hid_ex (decide (x.p = y.p) && decide (x.s = y.s))
  obtain ⟨r2, H2⟩ := hid_ex (x.v == y.v)
  obtain ⟨r4, H4⟩ := hid_ex (leqb x.ops y.ops)
  simp only [H1.out] at E
  simp only [H2.out] at F
  rw [H4.out] at C
  have HR' : Hid ((r1 && r2 && decide (x.t = y.t) && r4) = r) := by
    have := HR.out
    rw [H1.out, H2.out, H4.out] at this
    exact this
  have HG : x.eqb y = r := HR.out
  rw [HG]
  clear HG HR H1 H2 H4 h1 h2
  go_enter Try.func32, Try.ntmps32
  go_upto_region 1 with (rw [hW])
  clear hW
  cases r1
  · obtain rfl : false = r := by simpa using HR'.out
    go_wp2_with (first | refine load_m 31 _ rfl rfl _ _ rfl dx Try.underlying31 rfl d1 ?_ | refine load_m 31 _ rfl rfl _ _ rfl dy Try.underlying31 rfl d2 ?_)
    go_ret
    exact ⟨rfl, hbel⟩
  · cases r2
    · obtain rfl : false = r := by simpa using HR'.out
      go_wp2_with (first | refine load_m 31 _ rfl rfl _ _ rfl dx Try.underlying31 rfl d1 ?_ | refine load_m 31 _ rfl rfl _ _ rfl dy Try.underlying31 rfl d2 ?_ | refine load_m 26 _ rfl rfl _ _ rfl ex Try.underlying26 rfl z1 ?_ | refine load_m 26 _ rfl rfl _ _ rfl ey Try.underlying26 rfl z2 ?_)
      go_ret
      exact ⟨rfl, hbel⟩
    · by_cases ht : x.t = y.t
      · obtain rfl : r4 = r := by simpa [ht] using HR'.out
        go_wp2_with (first | refine load_m 31 _ rfl rfl _ _ rfl dx Try.underlying31 rfl d1 ?_ | refine load_m 31 _ rfl rfl _ _ rfl dy Try.underlying31 rfl d2 ?_ | refine load_m 26 _ rfl rfl _ _ rfl ex Try.underlying26 rfl z1 ?_ | refine load_m 26 _ rfl rfl _ _ rfl ey Try.underlying26 rfl z2 ?_)
        refine C.mono ?_
        rintro e w1 ⟨rfl, hb1⟩
        go_wp2_with fail
        go_ret
        exact ⟨rfl, below_on hbel hb1⟩
      · obtain rfl : false = r := by simpa [ht] using HR'.out
        go_wp2_with (first | refine load_m 31 _ rfl rfl _ _ rfl dx Try.underlying31 rfl d1 ?_ | refine load_m 31 _ rfl rfl _ _ rfl dy Try.underlying31 rfl d2 ?_ | refine load_m 26 _ rfl rfl _ _ rfl ex Try.underlying26 rfl z1 ?_ | refine load_m 26 _ rfl rfl _ _ rfl ey Try.underlying26 rfl z2 ?_)
        go_ret
        exact ⟨rfl, hbel⟩

theorem rwb_false {l m : List T} {k : Nat} (h1 : k < l.length) (h2 : k < m.length) (h : l[k].eqb m[k] = false) : rwb l m = false := by
  cases e : rwb l m with
  | false => rfl
  | true =>
    obtain rfl := (rwb_iff l m).1 e
    rw [(T.eqb_iff _ _).2 rfl] at h
    exact h
set_option maxHeartbeats 4000000 in
set_option maxRecDepth 100000 in
theorem rows_any (v1 v2 : Value) (l m : List T) (w : World) (h1 : XHas w v1 l) (h2 : XHas w v2 m) : Calls Try.prog 17 #[v1, v2] w (Tells (.bool (rwb l m)) w) := by
  obtain ⟨z, HZ⟩ := hid_ex (rwb l m)
  rw [HZ.out]
  obtain ⟨q1, c1, rfl⟩ := h1.slice
  obtain ⟨q2, c2, rfl⟩ := h2.slice
  have hml := maxLen_lt h1.max
  have HX1 : Hid (XHas w (.slice q1 l.length c1) l) := h1
  have HX2 : Hid (XHas w (.slice q2 m.length c2) m) := h2
  clear h1 h2
  by_cases hlen : l.length = m.length
  · have HL : Hid (l.length = m.length) := hlen
    have hlen' : (l.length : Int) = (m.length : Int) := by omega
    rw [← hlen] at HX2 ⊢
    clear hlen hlen'
    go_enter Try.func17, Try.ntmps17
    go_wp2
    go_loopw [5] (fun vi wr => ∃ k : Nat, vi = .int .i64 k ∧ k ≤ l.length ∧ Hid (∀ i (h : i < l.length) (h' : i < m.length), i < k → l[i] = m[i]) ∧ Below w.heap.size w wr) (fun vi _ => l.length - (intOf vi).toNat)
    case atStart => exact ⟨0, rfl, by omega, (show ∀ i (_ : i < l.length) (_ : i < m.length), i < 0 → _ from fun i _ _ h => by omega), Below.refl _ _⟩
    case round =>
      obtain ⟨k, rfl, hk, HV, hbel⟩ := hrel
      by_cases hlt : k < l.length
      · have hlt' : (k : Int) < (l.length : Int) := by omega
        have hltm : k < m.length := by have := HL.out; omega
        obtain ⟨g1, o1, s1, rfl, hd1, hs1⟩ := HX1.out.at k hlt
        have HX3 : XHas w (.slice q2 m.length c2) m := by rw [← HL.out]; exact HX2.out
        obtain ⟨g2, o2, s2, rfl, hd2, hs2⟩ := HX3.at k hltm
        clear HX3
        replace hd1 := range_later hd1 hbel
        replace hd2 := range_later hd2 hbel
        replace hs1 := hs1.later hbel
        replace hs2 := hs2.later hbel
        obtain ⟨x, HX⟩ := hid_ex l[k]
        obtain ⟨y, HY⟩ := hid_ex m[k]
        rw [HX.out] at hd1 hs1
        rw [HY.out] at hd2 hs2
        have C := fun (w' : World) (hb : Below wr.heap.size wr w') => same_any x y s1 s2 w' (hs1.later hb) (hs2.later hb)
        obtain ⟨r, HR⟩ := hid_ex (x.eqb y)
        rw [HR.out] at C
        have z1 := tx_size x s1
        have z2 := tx_size y s2
        clear HX1 HX2 hs1 hs2
        have ST : Calm.Stays (fun w' : World => w'.rangeAt g1 (o1 + k * 17) (txc x.p x.s x.v x.t s1) ∧ w'.rangeAt g2 (o2 + k * 17) (txc y.p y.s y.v y.t s2) ∧ Below wr.heap.size wr w') := fun a b h hb => ⟨range_later h.1 hb, range_later h.2.1 hb, below_on h.2.2 hb⟩
        go_wp2
        refine Calm.region (by kernel_rfl) (by kernel_rfl) (fun w' => w'.rangeAt g1 (o1 + k * 17) (txc x.p x.s x.v x.t s1) ∧ w'.rangeAt g2 (o2 + k * 17) (txc y.p y.s y.v y.t s2) ∧ Below wr.heap.size wr w') ⟨hd1, hd2, (Below.refl _ _).drew⟩ ?_
        refine Calm.pu ?_
        refine Calm.pu ?_
        refine Calm.pu ?_
        refine Calm.lm z1 (fun _ h => h.1) Try.underlying34 ?_
        refine Calm.pu ?_
        refine Calm.pu ?_
        refine Calm.pu ?_
        refine Calm.lm z2 (fun _ h => h.2.1) Try.underlying34 ?_
        refine Calm.k2 ST (fun w' h => C w' h.2.2) ?_
        refine Calm.pu ?_
        intro w1 hS1
        have hbel1 := below_on hbel hS1.2.2
        clear hS1 hd1 hd2 ST C z1 z2
        cases r
        · obtain rfl : false = z := by
            rw [← HZ.out]
            refine (rwb_false hlt hltm ?_).symm
            rw [HX.out, HY.out]
            exact HR.out
          go_wp2_with fail
          go_ret
          exact ⟨rfl, hbel1⟩
        · have HV2 : Hid (∀ i (h : i < l.length) (h' : i < m.length), i < k + 1 → l[i] = m[i]) := fun i h h' hi => by
            rcases Nat.lt_or_ge i k with h3 | h3
            · exact HV.out i h h' h3
            · obtain rfl : i = k := by omega
              rw [HX.out, HY.out]
              exact (T.eqb_iff x y).1 HR.out
          go_wp2_with fail
          go_roundw
          case rel => exact ⟨k + 1, by simp, by omega, HV2, hbel1⟩
          case measure => simp [intOf]; omega
      · have hlt' : ¬ (k : Int) < (l.length : Int) := by omega
        obtain rfl : true = z := by
          rw [← HZ.out]
          refine ((rwb_iff l m).2 (List.ext_getElem HL.out fun i h h' => HV.out i h h' (by omega))).symm
        clear HX1 HX2
        go_wp2_with fail
        go_ret
        exact ⟨rfl, hbel⟩
  · have hlen' : ¬ (l.length : Int) = (m.length : Int) := by omega
    obtain rfl : false = z := by
      rw [← HZ.out]
      cases e : rwb l m with
      | false => rfl
      | true => exact absurd (congrArg List.length ((rwb_iff l m).1 e)) hlen
    clear HX1 HX2
    go_enter Try.func17, Try.ntmps17
    go_wp2
    go_ret
    exact ⟨rfl, Below.refl _ _⟩
end Go.Proofs.Ytfiamiflkfdhoaa
