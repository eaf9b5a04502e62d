/- find of package counter, with its closure and sort.Search. -/
import Derived.Test.YtfjpjodaaofgbaaOrd
import Derived.Test.YtfjpjodaaofgbaaThos
namespace Go.Proofs.Ytfjpjodaaofgbaa
open Go.RowKit

theorem Calm.callF1s {P : Program} {ops : Array Oper} {S : World → Prop} {K : Act → Prop} {o : Oper} {l : List Oper} {a : Act} {r x : Value} {f : FuncId} {ts : Array TypeId} {uf u : Operand} (hw : Region.wanted o (yielded ops a.tmps) = true)
    (ho : o.op = .call { callee := .value uf, args := #[u], argTypes := ts }) (hv : a.eval uf = .func (.func f) #[] #[]) (hu : a.eval u = x) (hf : Calm.enters P f = true) (hs : Calm.Stays S)
    (hc : ∀ w, S w → Calls P f #[x] w fun e w' => e = .returned r ∧ RowKit.Below w.heap.size w w')
    (h : Calm.calmList P ops S K l (a.put o.dst r)) : Calm.calmList P ops S K (o :: l) a :=
  Calm.call (f := f) (args := #[x]) hw (fun w => by
    have e : ∀ args, (callFunc f args).run P w = .ok (.enter f args) w := fun args => Calm.enters_run hf args w
    generalize a.eval = ρ at hv hu ⊢
    subst hu
    unfold execOp
    simp [ho, go_sem, hv, e]) (fun w hS => (hc w hS).mono fun e w' he => ⟨he.1, hs w w' hS he.2⟩) h
/-- The boxes that the closure looks at. -/
structure Cap (w : World) (b1 b2 b3 : Nat) (v : Value) (x : A) : Prop where
  f : w.cell? ⟨b1, 0, none⟩ = some (.func (.func 38) #[] #[])
  l : w.cell? ⟨b2, 0, none⟩ = some v
  m : Rw w b3 40 #[.int .i64 x.p, .int .i64 x.s, .int .i64 x.i]
theorem Cap.later {w w' : World} {b1 b2 b3 : Nat} {v : Value} {x : A} (h : Cap w b1 b2 b3 v x) (hb : Below w.heap.size w w') : Cap w' b1 b2 b3 v x := ⟨cell_later hb h.f, cell_later hb h.l, h.m.later hb⟩
set_option maxHeartbeats 2000000 in
set_option maxRecDepth 100000 in
theorem find1_any (k : Nat) (b1 b2 b3 : Nat) (v : Value) (l : List A) (x : A) (w : World) (h : AHas w v l) (hk : k < l.length) (hC : Cap w b1 b2 b3 v x) :
    Calls Try.prog 51 #[.int .i64 k, .pointer (some ⟨b1, 0, none⟩), .pointer (some ⟨b2, 0, none⟩), .pointer (some ⟨b3, 0, none⟩)] w (Tells (.bool (!lt l[k] x)) w) := by
  have hml := maxLen_lt h.1
  obtain ⟨p, c, rfl⟩ := h.slice
  obtain ⟨g, o, rfl, hd⟩ := h.at (by omega)
  have d := AHas.elem hd k hk
  obtain ⟨y, HY⟩ := hid_ex l[k]
  rw [HY.out] at d ⊢
  clear HY h hd
  have z42 : (Try.prog.info? 42).map (·.size) = some y.cells.length := size42
  have zm : (Try.prog.info? 40).map (·.size) = some [Value.int .i64 x.p, .int .i64 x.s, .int .i64 x.i].length := size40
  have C1 : ∀ w, Calls Try.prog 49 #[MV y.p y.s y.i, MV x.p x.s x.i] w (Tells (.bool (lt y x)) w) := fun w => less_any y.p y.s y.i x.p x.s x.i w
  generalize lt y x = z at C1 ⊢
  have hbel := Below.refl w.heap.size w
  have hk0 : (0 : Int) ≤ (k : Int) := by omega
  have hk1 : (k : Int) < (l.length : Int) := by omega
  go_enter Try.func51, Try.ntmps51
  go_wp2_with fail
  have hs : Calm.Stays (fun w' => Cap w' b1 b2 b3 (.slice (some ⟨g, o, none⟩) l.length c) x ∧ w'.rangeAt g (o + k * 4) y.cells ∧ Below w.heap.size w w') := fun wa wb h hb => ⟨h.1.later hb, range_later h.2.1 hb, below_on h.2.2 hb⟩
  refine Calm.region (by kernel_rfl) (by kernel_rfl) (fun w' => Cap w' b1 b2 b3 (.slice (some ⟨g, o, none⟩) l.length c) x ∧ w'.rangeAt g (o + k * 4) y.cells ∧ Below w.heap.size w w') ⟨⟨hC.f, hC.l, hC.m⟩, d, hbel.drew⟩ ?_
  all_goals
    refine Calm.pure (v := ?_) (by rfl) ?_ ?_
    rotate_left
    focus (intro w hSw; have g1 := hSw.1.f; go_simp <;> rfl)
    simp only [Act.put, List.setIfInBounds_toArray, List.set_cons_zero, List.set_cons_succ]
  all_goals
    refine Calm.pure (v := ?_) (by rfl) ?_ ?_
    rotate_left
    focus (intro w hSw; have g1 := hSw.1.l; go_simp <;> rfl)
    simp only [Act.put, List.setIfInBounds_toArray, List.set_cons_zero, List.set_cons_succ]
  all_goals
    refine Calm.pure (v := ?_) (by rfl) ?_ ?_
    rotate_left
    focus (intro w hSw; go_simp <;> rfl)
    simp only [Act.put, List.setIfInBounds_toArray, List.set_cons_zero, List.set_cons_succ]
  all_goals
    refine Calm.pure (v := ?_) (by rfl) ?_ ?_
    rotate_left
    focus (intro w hSw; go_simp <;> rfl)
    simp only [Act.put, List.setIfInBounds_toArray, List.set_cons_zero, List.set_cons_succ]
  all_goals
    refine Calm.loadM 42 Try.underlying42 rfl z42 (by rfl) _ rfl rfl (fun _ h => h.2.1) ?_
    simp only [Act.put, List.setIfInBounds_toArray, List.set_cons_zero, List.set_cons_succ]
  all_goals
    refine Calm.callF1s (by rfl) rfl rfl rfl (by kernel_rfl) hs (fun w1 h => markOf_any y.p y.s y.i y.n w1) ?_
    simp only [Act.put, List.setIfInBounds_toArray, List.set_cons_zero, List.set_cons_succ]
  all_goals
    refine Calm.loadM 40 Try.underlying40 rfl zm (by rfl) _ rfl rfl (fun _ h => Rw.whole h.1.m) ?_
    simp only [Act.put, List.setIfInBounds_toArray, List.set_cons_zero, List.set_cons_succ]
  all_goals
    refine Calm.call2s (by rfl) rfl rfl rfl (by kernel_rfl) hs (fun w1 h => C1 w1) ?_
    simp only [Act.put, List.setIfInBounds_toArray, List.set_cons_zero, List.set_cons_succ]
  all_goals
    refine Calm.pure (v := ?_) (by rfl) ?_ ?_
    rotate_left
    focus (intro w hSw; go_simp <;> rfl)
    simp only [Act.put, List.setIfInBounds_toArray, List.set_cons_zero, List.set_cons_succ]
  all_goals
    refine Calm.pure (v := ?_) (by rfl) ?_ ?_
    rotate_left
    focus (intro w hSw; go_simp <;> rfl)
    simp only [Act.put, List.setIfInBounds_toArray, List.set_cons_zero, List.set_cons_succ]
  all_goals
    rintro w9 ⟨_, _, hbel9⟩
  go_wp2_with fail
  go_ret
  exact ⟨rfl, hbel9⟩
theorem pair_at {l : List A} (h : l.Pairwise (fun a b => lt a b = true)) (i j : Nat) (hj : j < l.length) (hij : i < j) : lt (l[i]'(by omega)) l[j] = true := (List.pairwise_iff_getElem.1 h) i j (by omega) hj hij
/-- What a search comes to: where it stands, or would stand. -/
def SePost (l : List A) (x : A) (w : World) (e : Ending) (w' : World) : Prop := ∃ k : Nat, e = .returned (.int .i64 k) ∧ k ≤ l.length ∧ (∀ j (h : j < l.length), j < k → lt l[j] x = true) ∧ (∀ j (h : j < l.length), k ≤ j → lt l[j] x = false) ∧ Below w.heap.size w w'
set_option maxHeartbeats 2000000 in
set_option maxRecDepth 100000 in
theorem search_any (b1 b2 b3 : Nat) (v : Value) (l : List A) (x : A) (w : World) (h : AHas w v l) (hl : l.length ≤ 100) (hp : l.Pairwise (fun a b => lt a b = true)) (hC : Cap w b1 b2 b3 v x) :
    Calls Try.prog 50 #[.int .i64 l.length, .func (.func 51) #[] #[.pointer (some ⟨b1, 0, none⟩), .pointer (some ⟨b2, 0, none⟩), .pointer (some ⟨b3, 0, none⟩)]] w (SePost l x w) := by
  have HA : Hid (AHas w v l) := h
  have HP : Hid (l.Pairwise (fun a b => lt a b = true)) := hp
  have HC : Hid (Cap w b1 b2 b3 v x) := hC
  clear h hp hC
  go_enter Try.func50, Try.ntmps50
  go_wp2
  go_loopw [5, 6] (fun vi vj wr => ∃ a b : Nat, vi = .int .i64 a ∧ vj = .int .i64 b ∧ a ≤ b ∧ b ≤ l.length ∧ Hid (∀ j (h : j < l.length), j < a → lt l[j] x = true) ∧ Hid (∀ j (h : j < l.length), b ≤ j → lt l[j] x = false) ∧ Below w.heap.size w wr) (fun vi vj _ => (intOf vj).toNat - (intOf vi).toNat)
  case atStart => exact ⟨0, l.length, rfl, rfl, by omega, by omega, (show ∀ j (_ : j < l.length), j < 0 → _ from fun j _ h => by omega), (show ∀ j (_ : j < l.length), l.length ≤ j → _ from fun j h h' => by omega), Below.refl _ _⟩
  case round =>
    obtain ⟨a, b, rfl, rfl, hab, hbl, HV, HW, hbel⟩ := hrel
    by_cases hlt : a < b
    · have hlt' : (a : Int) < (b : Int) := by omega
      obtain ⟨m, hm⟩ : ∃ m : Nat, m = (a + b) / 2 := ⟨_, rfl⟩
      have hmi : ((a : Int) + (b : Int)) / 2 = (m : Int) := by omega
      have hm1 : a ≤ m := by omega
      have hm2 : m < b := by omega
      have hml : m < l.length := by omega
      have C1 := find1_any m b1 b2 b3 v l x wr (HA.out.later hbel) hml (HC.out.later hbel)
      obtain ⟨z, HZ⟩ := hid_ex (lt l[m] x)
      rw [HZ.out] at C1
      clear hm
      go_wp2_with (first | rw [hmi])
      refine C1.mono ?_
      clear C1
      rintro e w1 ⟨rfl, hb1⟩
      cases z
      · have HW2 : Hid (∀ j (h : j < l.length), m ≤ j → lt l[j] x = false) := fun j h hj => by
          rcases Nat.lt_or_ge m j with h' | h'
          · cases k : lt l[j] x
            · rfl
            · have := lt_trans (pair_at HP.out m j h h') k
              rw [HZ.out] at this
              cases this
          · obtain rfl : j = m := by omega
            exact HZ.out
        go_wp2_with fail
        go_roundw
        case rel => exact ⟨a, m, rfl, rfl, by omega, by omega, HV, HW2, below_on hbel hb1⟩
        case measure => simp [intOf]; omega
      · have HV2 : Hid (∀ j (h : j < l.length), j < m + 1 → lt l[j] x = true) := fun j h hj => by
          rcases Nat.lt_or_ge j m with h' | h'
          · exact lt_trans (pair_at HP.out j m hml h') HZ.out
          · obtain rfl : j = m := by omega
            exact HZ.out
        go_wp2_with fail
        go_roundw
        case rel => exact ⟨m + 1, b, by simp, rfl, by omega, by omega, HV2, HW, below_on hbel hb1⟩
        case measure => simp [intOf]; omega
    · obtain rfl : a = b := by omega
      have hlt' : ¬ (a : Int) < (a : Int) := by omega
      clear HA HP HC
      go_wp2_with fail
      go_ret
      exact ⟨a, rfl, hbl, HV.out, HW.out, hbel⟩
end Go.Proofs.Ytfjpjodaaofgbaa
