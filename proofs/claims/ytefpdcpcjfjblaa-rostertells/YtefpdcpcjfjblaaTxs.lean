/- CheckTx and CheckOpen of package ops, and of the document's answer. -/
import Derived.Test.YtefpdcpcjfjblaaSeen
import Derived.Test.YtefpdcpcjfjblaaCalmT
import Derived.Test.YtefpdcpcjfjblaaEq
namespace Go.Proofs.Ytefpdcpcjfjblaa
open Go.RowKit

/-- What CheckTx, CheckOpen tell. -/
def ct (p s : Int) (v : List Int) (t : Int) (l : List O) : Bool := (wi p 1 12 && wi s 1 1048576) && decide (v.getD p.toNat 0 < s) && decide (1 ≤ l.length) && sn p s v t l
def cop (p s : Int) (v : List Int) (t : Int) (l : List O) : Bool := (decide (p = 0) && decide (s = 0)) && sn p s v t l
theorem OHas.slice {w : World} {sl : Value} {l : List O} (h : OHas w sl l) : ∃ q c, sl = .slice q l.length c := by
  obtain ⟨q, c, e, _⟩ := h
  exact ⟨q, c, e⟩
theorem zd (p s : Int) : (Try.prog.info? 29).map (·.size) = some [Value.int .i64 p, Value.int .i64 s].length := size29
theorem Calm.loadW {ops : Array Oper} {S : World → Prop} {K : Act → Prop} {o : Oper} {l : List Oper} {a : Act} {b : Nat} {cs : Array Value} (t : TypeId) {d : TypeDesc} (hu : Try.prog.underlying t = some d) (hd : d.isRow = true) (hi : (Try.prog.info? t).map (·.size) = some cs.size) (hw : Region.wanted o (yielded ops a.tmps) = true) (x : Operand) (ho : o.op = .load t x)
    (hx : a.eval x = .pointer (some ⟨b, 0, none⟩)) (hS : ∀ w, S w → Rw w b t cs) (h : Calm.calmList Try.prog ops S K l (a.put o.dst (.agg cs))) : Calm.calmList Try.prog ops S K (o :: l) a :=
  Calm.pure hw (fun w hw' => by
    unfold execOp
    simp only [ho, hx, Sem.run_bind, (hS w hw').loadAt hd hu hi, Result.andThen_ok, Sem.run_pure]) h

set_option maxHeartbeats 4000000 in
set_option maxRecDepth 100000 in
theorem checkTx_any (p s : Int) (v : List Int) (t : Int) (sl : Value) (l : List O) (w : World) (hv : v.length = 13) (ho : OHas w sl l) : Calls Try.prog 22 #[TxV p s v t sl] w (Tells (.bool (ct p s v t l)) w) := by
  have CS := fun (w1 : World) (h : OHas w1 sl l) => seen_any p s v t sl l w1 hv h
  obtain ⟨u, HU⟩ := hid_ex (sn p s v t l)
  unfold ct
  rw [HU.out] at CS ⊢
  clear HU
  obtain ⟨q, c, rfl⟩ := ho.slice
  have CD := fun w => isDot_any p s w
  obtain ⟨x, HX⟩ := hid_ex (wi p 1 12 && wi s 1 1048576)
  rw [HX.out] at CD ⊢
  obtain ⟨y, HY⟩ := hid_ex (decide (v.getD p.toNat 0 < s))
  obtain ⟨z, HZ⟩ := hid_ex (decide (1 ≤ l.length))
  rw [HY.out, HZ.out]
  have HP : Hid (x = true → ∃ n : Nat, p = n ∧ n < 13) := by
    show x = true → ∃ n : Nat, p = n ∧ n < 13
    intro e
    have h := HX.out
    rw [e] at h
    have h1 : 1 ≤ p ∧ p ≤ 12 := by unfold wi at h; grind
    exact ⟨p.toNat, by omega, by omega⟩
  clear HX
  have R := rw_new w 34 (txc p s v t (.slice q l.length c)).toArray
  have hbel : Below w.heap.size w (w.alloc (.cells (txc p s v t (.slice q l.length c)).toArray 34)) := bel_alloc (Below.refl _ _) _
  replace ho := ho.later (bel_alloc (Below.refl _ _) (.cells (txc p s v t (.slice q l.length c)).toArray 34))
  have c0 := tx_p R
  have c1 := tx_s R
  have c16 := tx_ops R hv
  have zt := size_tx (p := p) (s := s) (t := t) (sl := .slice q l.length c) hv
  have z2 := zd p s
  cases x
  case false =>
    generalize hW : w.alloc (.cells (txc p s v t (.slice q l.length c)).toArray 34) = w0 at R hbel ho c0 c1 c16
    go_enter Try.func22, Try.ntmps22
    go_wp2_with (rw [hW])
    clear hW
    have hs : Calm.Stays (fun w' => w'.cell? ⟨w.heap.size, 0, none⟩ = some (.int .i64 p) ∧ w'.cell? ⟨w.heap.size, 1, none⟩ = some (.int .i64 s) ∧ w'.cell? ⟨w.heap.size, 16, none⟩ = some (.slice q l.length c) ∧ Rw w' w.heap.size 34 (txc p s v t (.slice q l.length c)).toArray ∧ OHas w' (.slice q l.length c) l ∧ Below w.heap.size w w') := fun wa wb h hb => ⟨cell_later hb h.1, cell_later hb h.2.1, cell_later hb h.2.2.1, h.2.2.2.1.later hb, h.2.2.2.2.1.later hb, below_on h.2.2.2.2.2 hb⟩
    refine Calm.region (by kernel_rfl) (by kernel_rfl) (fun w' => w'.cell? ⟨w.heap.size, 0, none⟩ = some (.int .i64 p) ∧ w'.cell? ⟨w.heap.size, 1, none⟩ = some (.int .i64 s) ∧ w'.cell? ⟨w.heap.size, 16, none⟩ = some (.slice q l.length c) ∧ Rw w' w.heap.size 34 (txc p s v t (.slice q l.length c)).toArray ∧ OHas w' (.slice q l.length c) l ∧ Below w.heap.size w w') ⟨c0, c1, c16, R, ho, hbel.drew⟩ ?_
    clear R hbel ho c0 c1 c16
    all_goals
      refine Calm.pure (v := ?_) (by rfl) ?_ ?_
      rotate_left
      focus (intro w hSw; go_simp <;> rfl)
      simp only [Act.put, List.setIfInBounds_toArray, List.set_cons_zero, List.set_cons_succ]
    all_goals
      refine Calm.loadM 29 Try.underlying29 rfl z2 (by rfl) _ rfl rfl (fun _ h => tx_dot h.2.2.2.1) ?_
      simp only [Act.put, List.setIfInBounds_toArray, List.set_cons_zero, List.set_cons_succ]
    all_goals
      refine Calm.call1s (by rfl) rfl rfl (by kernel_rfl) hs (fun w1 h => CD w1) ?_
      simp only [Act.put, List.setIfInBounds_toArray, List.set_cons_zero, List.set_cons_succ]
    all_goals
      refine Calm.pure (v := ?_) (by rfl) ?_ ?_
      rotate_left
      focus (intro w hSw; go_simp <;> rfl)
      simp only [Act.put, List.setIfInBounds_toArray, List.set_cons_zero, List.set_cons_succ]
    all_goals
      first
        | (refine Calm.skip ?_ ?_; focus rfl)
        | (refine Calm.pure (v := ?_) (by rfl) ?_ ?_
           rotate_left
           focus (intro w hSw; go_simp <;> rfl))
      simp only [Act.put, List.setIfInBounds_toArray, List.set_cons_zero, List.set_cons_succ]
    all_goals
      first
        | (refine Calm.skip ?_ ?_; focus rfl)
        | (refine Calm.pure (v := ?_) (by rfl) ?_ ?_
           rotate_left
           focus (intro w hSw; go_simp <;> rfl))
      simp only [Act.put, List.setIfInBounds_toArray, List.set_cons_zero, List.set_cons_succ]
    all_goals
      first
        | (refine Calm.skip ?_ ?_; focus rfl)
        | (refine Calm.pure (v := ?_) (by rfl) ?_ ?_
           rotate_left
           focus (intro w hSw; go_simp <;> rfl))
      simp only [Act.put, List.setIfInBounds_toArray, List.set_cons_zero, List.set_cons_succ]
    all_goals
      first
        | (refine Calm.skip ?_ ?_; focus rfl)
        | (refine Calm.pure (v := ?_) (by rfl) ?_ ?_
           rotate_left
           focus (intro w hSw; go_simp <;> rfl))
      simp only [Act.put, List.setIfInBounds_toArray, List.set_cons_zero, List.set_cons_succ]
    all_goals
      first
        | (refine Calm.skip ?_ ?_; focus rfl)
        | (refine Calm.pure (v := ?_) (by rfl) ?_ ?_
           rotate_left
           focus (intro w hSw; go_simp <;> rfl))
      simp only [Act.put, List.setIfInBounds_toArray, List.set_cons_zero, List.set_cons_succ]
    all_goals
      first
        | (refine Calm.skip ?_ ?_; focus rfl)
        | (refine Calm.pure (v := ?_) (by rfl) ?_ ?_
           rotate_left
           focus (intro w hSw; go_simp <;> rfl))
      simp only [Act.put, List.setIfInBounds_toArray, List.set_cons_zero, List.set_cons_succ]
    all_goals
      first
        | (refine Calm.skip ?_ ?_; focus rfl)
        | (refine Calm.pure (v := ?_) (by rfl) ?_ ?_
           rotate_left
           focus (intro w hSw; go_simp <;> rfl))
      simp only [Act.put, List.setIfInBounds_toArray, List.set_cons_zero, List.set_cons_succ]
    all_goals
      first
        | (refine Calm.skip ?_ ?_; focus rfl)
        | (refine Calm.pure (v := ?_) (by rfl) ?_ ?_
           rotate_left
           focus (intro w hSw; go_simp <;> rfl))
      simp only [Act.put, List.setIfInBounds_toArray, List.set_cons_zero, List.set_cons_succ]
    all_goals
      first
        | (refine Calm.skip ?_ ?_; focus rfl)
        | (refine Calm.pure (v := ?_) (by rfl) ?_ ?_
           rotate_left
           focus (intro w hSw; go_simp <;> rfl))
      simp only [Act.put, List.setIfInBounds_toArray, List.set_cons_zero, List.set_cons_succ]
    all_goals
      first
        | (refine Calm.skip ?_ ?_; focus rfl)
        | (refine Calm.pure (v := ?_) (by rfl) ?_ ?_
           rotate_left
           focus (intro w hSw; go_simp <;> rfl))
      simp only [Act.put, List.setIfInBounds_toArray, List.set_cons_zero, List.set_cons_succ]
    all_goals
      refine Calm.pure (v := ?_) (by rfl) ?_ ?_
      rotate_left
      focus (intro w hSw; go_simp <;> rfl)
      simp only [Act.put, List.setIfInBounds_toArray, List.set_cons_zero, List.set_cons_succ]
    all_goals
      refine Calm.pure (v := ?_) (by rfl) ?_ ?_
      rotate_left
      focus (intro w hSw; go_simp <;> rfl)
      simp only [Act.put, List.setIfInBounds_toArray, List.set_cons_zero, List.set_cons_succ]
    all_goals
      first
        | (refine Calm.skip ?_ ?_; focus rfl)
        | (refine Calm.pure (v := ?_) (by rfl) ?_ ?_
           rotate_left
           focus (intro w hSw; go_simp <;> rfl))
      simp only [Act.put, List.setIfInBounds_toArray, List.set_cons_zero, List.set_cons_succ]
    all_goals
      first
        | (refine Calm.skip ?_ ?_; focus rfl)
        | (refine Calm.pure (v := ?_) (by rfl) ?_ ?_
           rotate_left
           focus (intro w hSw; go_simp <;> rfl))
      simp only [Act.put, List.setIfInBounds_toArray, List.set_cons_zero, List.set_cons_succ]
    all_goals
      first
        | (refine Calm.skip ?_ ?_; focus rfl)
        | (refine Calm.pure (v := ?_) (by rfl) ?_ ?_
           rotate_left
           focus (intro w hSw; go_simp <;> rfl))
      simp only [Act.put, List.setIfInBounds_toArray, List.set_cons_zero, List.set_cons_succ]
    all_goals
      first
        | (refine Calm.skip ?_ ?_; focus rfl)
        | (refine Calm.pure (v := ?_) (by rfl) ?_ ?_
           rotate_left
           focus (intro w hSw; go_simp <;> rfl))
      simp only [Act.put, List.setIfInBounds_toArray, List.set_cons_zero, List.set_cons_succ]
    all_goals
      refine Calm.pure (v := ?_) (by rfl) ?_ ?_
      rotate_left
      focus (intro w hSw; go_simp <;> rfl)
      simp only [Act.put, List.setIfInBounds_toArray, List.set_cons_zero, List.set_cons_succ]
    all_goals
      refine Calm.pure (v := ?_) (by rfl) ?_ ?_
      rotate_left
      focus (intro w hSw; go_simp <;> rfl)
      simp only [Act.put, List.setIfInBounds_toArray, List.set_cons_zero, List.set_cons_succ]
    all_goals
      first
        | (refine Calm.skip ?_ ?_; focus rfl)
        | (refine Calm.loadW 34 Try.underlying34 rfl zt (by rfl) _ rfl rfl (fun _ h => h.2.2.2.1) ?_)
      simp only [Act.put, List.setIfInBounds_toArray, List.set_cons_zero, List.set_cons_succ]
    all_goals
      first
        | (refine Calm.skip ?_ ?_; focus rfl)
        | (refine Calm.call1s (by rfl) rfl rfl (by kernel_rfl) hs (fun w1 h => CS w1 h.2.2.2.2.1) ?_)
      simp only [Act.put, List.setIfInBounds_toArray, List.set_cons_zero, List.set_cons_succ]
    all_goals
      refine Calm.pure (v := ?_) (by rfl) ?_ ?_
      rotate_left
      focus (intro w hSw; go_simp <;> rfl)
      simp only [Act.put, List.setIfInBounds_toArray, List.set_cons_zero, List.set_cons_succ]
    all_goals
      refine Calm.pure (v := ?_) (by rfl) ?_ ?_
      rotate_left
      focus (intro w hSw; go_simp <;> rfl)
      simp only [Act.put, List.setIfInBounds_toArray, List.set_cons_zero, List.set_cons_succ]
    all_goals
      rintro w9 ⟨_, _, _, _, _, hbel9⟩
    all_goals
      go_wp2_with fail
      go_ret
      exact ⟨rfl, hbel9⟩
  case true =>
    obtain ⟨n, rfl, hn⟩ := HP.out rfl
    have hn' : (n : Int) < 13 := by omega
    rw [show ((n : Int)).toNat = n by omega] at HY
    have cn := tx_at R hv n hn
    obtain ⟨m, HM⟩ := hid_ex (v.getD n 0)
    rw [HM.out] at cn HY
    clear HM HP
    have hy : decide (m < s) = y := HY.out
    have hz : decide (1 ≤ (l.length : Int)) = z := by
      rw [← HZ.out, decide_eq_decide]
      omega
    clear HY HZ
    generalize hW : w.alloc (.cells (txc (n : Int) s v t (.slice q l.length c)).toArray 34) = w0 at R hbel ho c0 c1 c16 cn
    cases y <;> cases z
    all_goals
      go_enter Try.func22, Try.ntmps22
      go_wp2_with (rw [hW])
      clear hW
      have hs : Calm.Stays (fun w' => w'.cell? ⟨w.heap.size, 0, none⟩ = some (.int .i64 n) ∧ w'.cell? ⟨w.heap.size, 1, none⟩ = some (.int .i64 s) ∧ w'.cell? ⟨w.heap.size, 16, none⟩ = some (.slice q l.length c) ∧ w'.cell? ⟨w.heap.size, 2 + n, none⟩ = some (.int .i64 m) ∧ Rw w' w.heap.size 34 (txc (n : Int) s v t (.slice q l.length c)).toArray ∧ OHas w' (.slice q l.length c) l ∧ Below w.heap.size w w') := fun wa wb h hb => ⟨cell_later hb h.1, cell_later hb h.2.1, cell_later hb h.2.2.1, cell_later hb h.2.2.2.1, h.2.2.2.2.1.later hb, h.2.2.2.2.2.1.later hb, below_on h.2.2.2.2.2.2 hb⟩
      refine Calm.region (by kernel_rfl) (by kernel_rfl) (fun w' => w'.cell? ⟨w.heap.size, 0, none⟩ = some (.int .i64 n) ∧ w'.cell? ⟨w.heap.size, 1, none⟩ = some (.int .i64 s) ∧ w'.cell? ⟨w.heap.size, 16, none⟩ = some (.slice q l.length c) ∧ w'.cell? ⟨w.heap.size, 2 + n, none⟩ = some (.int .i64 m) ∧ Rw w' w.heap.size 34 (txc (n : Int) s v t (.slice q l.length c)).toArray ∧ OHas w' (.slice q l.length c) l ∧ Below w.heap.size w w') ⟨c0, c1, c16, cn, R, ho, hbel.drew⟩ ?_
      clear R hbel ho c0 c1 c16 cn
      all_goals
        refine Calm.pure (v := ?_) (by rfl) ?_ ?_
        rotate_left
        focus (intro w hSw; go_simp <;> rfl)
        simp only [Act.put, List.setIfInBounds_toArray, List.set_cons_zero, List.set_cons_succ]
      all_goals
        refine Calm.loadM 29 Try.underlying29 rfl z2 (by rfl) _ rfl rfl (fun _ h => tx_dot h.2.2.2.2.1) ?_
        simp only [Act.put, List.setIfInBounds_toArray, List.set_cons_zero, List.set_cons_succ]
      all_goals
        refine Calm.call1s (by rfl) rfl rfl (by kernel_rfl) hs (fun w1 h => CD w1) ?_
        simp only [Act.put, List.setIfInBounds_toArray, List.set_cons_zero, List.set_cons_succ]
      all_goals
        refine Calm.pure (v := ?_) (by rfl) ?_ ?_
        rotate_left
        focus (intro w hSw; go_simp <;> rfl)
        simp only [Act.put, List.setIfInBounds_toArray, List.set_cons_zero, List.set_cons_succ]
      all_goals
        first
          | (refine Calm.skip ?_ ?_; focus rfl)
          | (refine Calm.pure (v := ?_) (by rfl) ?_ ?_
             rotate_left
             focus (intro w hSw; go_simp <;> rfl))
        simp only [Act.put, List.setIfInBounds_toArray, List.set_cons_zero, List.set_cons_succ]
      all_goals
        first
          | (refine Calm.skip ?_ ?_; focus rfl)
          | (refine Calm.pure (v := ?_) (by rfl) ?_ ?_
             rotate_left
             focus (intro w hSw; go_simp <;> rfl))
        simp only [Act.put, List.setIfInBounds_toArray, List.set_cons_zero, List.set_cons_succ]
      all_goals
        first
          | (refine Calm.skip ?_ ?_; focus rfl)
          | (refine Calm.pure (v := ?_) (by rfl) ?_ ?_
             rotate_left
             focus (intro w hSw; go_simp <;> rfl))
        simp only [Act.put, List.setIfInBounds_toArray, List.set_cons_zero, List.set_cons_succ]
      all_goals
        first
          | (refine Calm.skip ?_ ?_; focus rfl)
          | (refine Calm.pure (v := ?_) (by rfl) ?_ ?_
             rotate_left
             focus (intro w hSw; go_simp <;> rfl))
        simp only [Act.put, List.setIfInBounds_toArray, List.set_cons_zero, List.set_cons_succ]
      all_goals
        first
          | (refine Calm.skip ?_ ?_; focus rfl)
          | (refine Calm.pure (v := ?_) (by rfl) ?_ ?_
             rotate_left
             focus (intro w hSw; go_simp <;> rfl))
        simp only [Act.put, List.setIfInBounds_toArray, List.set_cons_zero, List.set_cons_succ]
      all_goals
        first
          | (refine Calm.skip ?_ ?_; focus rfl)
          | (refine Calm.pure (v := ?_) (by rfl) ?_ ?_
             rotate_left
             focus (intro w hSw; go_simp <;> rfl))
        simp only [Act.put, List.setIfInBounds_toArray, List.set_cons_zero, List.set_cons_succ]
      all_goals
        first
          | (refine Calm.skip ?_ ?_; focus rfl)
          | (refine Calm.pure (v := ?_) (by rfl) ?_ ?_
             rotate_left
             focus (intro w hSw; go_simp <;> rfl))
        simp only [Act.put, List.setIfInBounds_toArray, List.set_cons_zero, List.set_cons_succ]
      all_goals
        first
          | (refine Calm.skip ?_ ?_; focus rfl)
          | (refine Calm.pure (v := ?_) (by rfl) ?_ ?_
             rotate_left
             focus (intro w hSw; go_simp <;> rfl))
        simp only [Act.put, List.setIfInBounds_toArray, List.set_cons_zero, List.set_cons_succ]
      all_goals
        first
          | (refine Calm.skip ?_ ?_; focus rfl)
          | (refine Calm.pure (v := ?_) (by rfl) ?_ ?_
             rotate_left
             focus (intro w hSw; go_simp <;> rfl))
        simp only [Act.put, List.setIfInBounds_toArray, List.set_cons_zero, List.set_cons_succ]
      all_goals
        first
          | (refine Calm.skip ?_ ?_; focus rfl)
          | (refine Calm.pure (v := ?_) (by rfl) ?_ ?_
             rotate_left
             focus (intro w hSw; go_simp <;> rfl))
        simp only [Act.put, List.setIfInBounds_toArray, List.set_cons_zero, List.set_cons_succ]
      all_goals
        refine Calm.pure (v := ?_) (by rfl) ?_ ?_
        rotate_left
        focus (intro w hSw; go_simp <;> rfl)
        simp only [Act.put, List.setIfInBounds_toArray, List.set_cons_zero, List.set_cons_succ]
      all_goals
        refine Calm.pure (v := ?_) (by rfl) ?_ ?_
        rotate_left
        focus (intro w hSw; go_simp <;> rfl)
        simp only [Act.put, List.setIfInBounds_toArray, List.set_cons_zero, List.set_cons_succ]
      all_goals
        first
          | (refine Calm.skip ?_ ?_; focus rfl)
          | (refine Calm.pure (v := ?_) (by rfl) ?_ ?_
             rotate_left
             focus (intro w hSw; go_simp <;> rfl))
        simp only [Act.put, List.setIfInBounds_toArray, List.set_cons_zero, List.set_cons_succ]
      all_goals
        first
          | (refine Calm.skip ?_ ?_; focus rfl)
          | (refine Calm.pure (v := ?_) (by rfl) ?_ ?_
             rotate_left
             focus (intro w hSw; go_simp <;> rfl))
        simp only [Act.put, List.setIfInBounds_toArray, List.set_cons_zero, List.set_cons_succ]
      all_goals
        first
          | (refine Calm.skip ?_ ?_; focus rfl)
          | (refine Calm.pure (v := ?_) (by rfl) ?_ ?_
             rotate_left
             focus (intro w hSw; go_simp <;> rfl))
        simp only [Act.put, List.setIfInBounds_toArray, List.set_cons_zero, List.set_cons_succ]
      all_goals
        first
          | (refine Calm.skip ?_ ?_; focus rfl)
          | (refine Calm.pure (v := ?_) (by rfl) ?_ ?_
             rotate_left
             focus (intro w hSw; go_simp <;> rfl))
        simp only [Act.put, List.setIfInBounds_toArray, List.set_cons_zero, List.set_cons_succ]
      all_goals
        refine Calm.pure (v := ?_) (by rfl) ?_ ?_
        rotate_left
        focus (intro w hSw; go_simp <;> rfl)
        simp only [Act.put, List.setIfInBounds_toArray, List.set_cons_zero, List.set_cons_succ]
      all_goals
        refine Calm.pure (v := ?_) (by rfl) ?_ ?_
        rotate_left
        focus (intro w hSw; go_simp <;> rfl)
        simp only [Act.put, List.setIfInBounds_toArray, List.set_cons_zero, List.set_cons_succ]
      all_goals
        first
          | (refine Calm.skip ?_ ?_; focus rfl)
          | (refine Calm.loadW 34 Try.underlying34 rfl zt (by rfl) _ rfl rfl (fun _ h => h.2.2.2.2.1) ?_)
        simp only [Act.put, List.setIfInBounds_toArray, List.set_cons_zero, List.set_cons_succ]
      all_goals
        first
          | (refine Calm.skip ?_ ?_; focus rfl)
          | (refine Calm.call1s (by rfl) rfl rfl (by kernel_rfl) hs (fun w1 h => CS w1 h.2.2.2.2.2.1) ?_)
        simp only [Act.put, List.setIfInBounds_toArray, List.set_cons_zero, List.set_cons_succ]
      all_goals
        refine Calm.pure (v := ?_) (by rfl) ?_ ?_
        rotate_left
        focus (intro w hSw; go_simp <;> rfl)
        simp only [Act.put, List.setIfInBounds_toArray, List.set_cons_zero, List.set_cons_succ]
      all_goals
        refine Calm.pure (v := ?_) (by rfl) ?_ ?_
        rotate_left
        focus (intro w hSw; go_simp <;> rfl)
        simp only [Act.put, List.setIfInBounds_toArray, List.set_cons_zero, List.set_cons_succ]
      all_goals
        rintro w9 ⟨_, _, _, _, _, _, hbel9⟩
    all_goals
      go_wp2_with fail
      go_ret
      exact ⟨rfl, hbel9⟩
end Go.Proofs.Ytefpdcpcjfjblaa
