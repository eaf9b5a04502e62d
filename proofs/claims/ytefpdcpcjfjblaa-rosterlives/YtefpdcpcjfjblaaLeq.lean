/- The function Leq of package vec. -/
import Derived.Test.YtefpdcpcjfjblaaJoin
import Derived.Test.YtefpdcpcjfjblaaCalm
namespace Go.Proofs.Ytefpdcpcjfjblaa
open Go.RowKit

theorem below_on {w a b : World} (h : Below w.heap.size w a) (k : Below a.heap.size a b) : Below w.heap.size w b := h.trans (k.mono h.size)

theorem Calm.load {ops : Array Oper} {S : World → Prop} {K : Act → Prop} {o : Oper} {l : List Oper} {a : Act} {b : Nat} {v : List Int} (hw : Region.wanted o (yielded ops a.tmps) = true) (x : Operand) (ho : o.op = .load 31 x)
    (hx : a.eval x = .pointer (some ⟨b, 0, none⟩)) (hS : ∀ w, S w → At w b v) (h : Calm.calmList Try.prog ops S K l (a.put o.dst (V v))) : Calm.calmList Try.prog ops S K (o :: l) a :=
  Calm.pure hw (fun w hw' => by unfold execOp; simp only [ho, hx, Sem.run_bind, (hS w hw').load, Result.andThen_ok, Sem.run_pure]) h

set_option maxHeartbeats 1000000 in
set_option maxRecDepth 100000 in
theorem leq_any (a b : List Int) (w : World) (ha : a.length = 13) (hb : b.length = 13) :
    Calls Try.prog 51 #[V a, V b] w fun e w' => e = .returned (.bool (lq a b)) ∧ Below w.heap.size w w' := by
  have hC19 := fun w1 => join_any a b w1 ha hb
  have heq := fun w1 => eq_arrays w1 (jn a b) b (jn_length ha hb) hb
  have HS : Hid (∀ w1 : World, w1 = (w.alloc (.cells (vals a).toArray 31)).alloc (.cells (vals b).toArray 31) → At w1 w.heap.size a ∧ At w1 (w.heap.size + 1) b ∧ Below w.heap.size w w1) := by
    show ∀ w1 : World, _ → _
    rintro w1 rfl
    exact ⟨(at_new w a ha).alloc _, at_next _ (by simp) b hb, ((Below.refl _ _).alloc (Nat.le_refl _) _).alloc (by simp) _⟩
  clear ha hb
  go_enter Try.func51, Try.ntmps51
  go_wp2
  obtain ⟨h1, h2, hbel⟩ := HS.out _ rfl
  generalize (w.alloc (.cells (vals a).toArray 31)).alloc (.cells (vals b).toArray 31) = w0 at h1 h2 hbel ⊢
  clear HS
  have hs : Calm.Stays (fun w' => At w' w.heap.size a ∧ At w' (w.heap.size + 1) b ∧ Below w.heap.size w w') := fun w1 w2 h hb => ⟨h.1.later hb, h.2.1.later hb, below_on h.2.2 hb⟩
  refine Calm.region (by kernel_rfl) (by kernel_rfl) (fun w' => At w' w.heap.size a ∧ At w' (w.heap.size + 1) b ∧ Below w.heap.size w w') ⟨h1, h2, hbel.drew⟩ ?_
  refine Calm.load (by rfl) _ rfl rfl (fun _ h => by go_split_ands; assumption) ?_
  simp only [Act.put, List.setIfInBounds_toArray, List.set_cons_zero, List.set_cons_succ]
  refine Calm.load (by rfl) _ rfl rfl (fun _ h => by go_split_ands; assumption) ?_
  simp only [Act.put, List.setIfInBounds_toArray, List.set_cons_zero, List.set_cons_succ]
  refine Calm.call2 (by rfl) rfl rfl rfl (by kernel_rfl) hs hC19 ?_
  simp only [Act.put, List.setIfInBounds_toArray, List.set_cons_zero, List.set_cons_succ]
  refine Calm.load (by rfl) _ rfl rfl (fun _ h => by go_split_ands; assumption) ?_
  simp only [Act.put, List.setIfInBounds_toArray, List.set_cons_zero, List.set_cons_succ]
  refine Calm.pure (v := ?_) (by rfl) ?_ ?_
  rotate_left
  focus (intro w hSw; go_simp <;> rfl)
  simp only [Act.put, List.setIfInBounds_toArray, List.set_cons_zero, List.set_cons_succ]
  refine Calm.pure (v := ?_) (by rfl) ?_ ?_
  rotate_left
  focus (intro w hSw; go_simp <;> rfl)
  simp only [Act.put, List.setIfInBounds_toArray, List.set_cons_zero, List.set_cons_succ]
  rintro w9 ⟨_, _, hbel9⟩
  go_wp2
  go_ret
  exact ⟨rfl, hbel9⟩
end Go.Proofs.Ytefpdcpcjfjblaa
