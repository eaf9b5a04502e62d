/- Lists of dots, and Dots of the document's answer at two lists that hold the same. -/
import Derived.Test.YtbeehmcoeblbcaaMiss
namespace Go.Proofs.Ytbeehmcoeblbcaa
open Go.RowKit

/-- A slice that holds these dots. -/
def DHas (w : World) (v : Value) (l : List (Int × Int)) : Prop := ∃ p c, v = .slice p l.length c ∧ l.length ≤ 4096 ∧ (0 < l.length → ∃ g o, p = some ⟨g, o, none⟩ ∧ ∀ i (h : i < l.length), DotAt w g (o + i * 2) l[i].1 l[i].2)

theorem own_dhas {w : World} {B : Nat} {v : Value} {l : List (Int × Int)} (h : w.ownsRow B 25 2 v l.length (dcel l)) (hm : l.length ≤ 4096) : DHas w v l := by
  rcases h.2 with ⟨rfl, h0⟩ | ⟨g, cap, cur, rfl, hbg, hg, hnc, hcm, hcs, htake⟩
  · exact ⟨none, 0, by rw [h0], hm, fun hp => by omega⟩
  · refine ⟨some ⟨g, 0, none⟩, cap, rfl, hm, fun _ => ⟨g, 0, rfl, fun i hi => ?_⟩⟩
    have hc := h.cells (g := g) rfl
    have hd := dcel_at l i hi
    have h1 := hc _ _ hd.1
    have h2 := hc _ _ hd.2
    rw [Addr.add_mid] at h1 h2
    constructor
    · rw [show 0 + i * 2 = 0 + 2 * i by omega]; exact h1
    · rw [show 0 + i * 2 + 1 = 0 + (2 * i + 1) by omega]; exact h2
theorem DHas.later {w w' : World} {v : Value} {l : List (Int × Int)} (h : DHas w v l) (hb : Below w.heap.size w w') : DHas w' v l := by
  obtain ⟨p, c, rfl, hm, hr⟩ := h
  refine ⟨p, c, rfl, hm, fun h0 => ?_⟩
  obtain ⟨g, o, hp, hd⟩ := hr h0
  exact ⟨g, o, hp, fun i hi => (hd i hi).later hb⟩

theorem Calm.loadDot {ops : Array Oper} {S : World → Prop} {K : Act → Prop} {o : Oper} {l : List Oper} {a : Act} {b f : Nat} {p s : Int} (hw : Region.wanted o (yielded ops a.tmps) = true) (x : Operand) (ho : o.op = .load 25 x)
    (hx : a.eval x = .pointer (some ⟨b, f, none⟩)) (hS : ∀ w, S w → DotAt w b f p s) (h : Calm.calmList Try.prog ops S K l (a.put o.dst (D p s))) : Calm.calmList Try.prog ops S K (o :: l) a :=
  Calm.pure hw (fun w hw' => by unfold execOp; simp only [ho, hx, Sem.run_bind, (hS w hw').load, Result.andThen_ok, Sem.run_pure]) h

set_option maxHeartbeats 1000000 in
set_option maxRecDepth 100000 in
theorem dots_same (v1 v2 : Value) (l : List (Int × Int)) (w : World) (h1 : DHas w v1 l) (h2 : DHas w v2 l) :
    Calls Try.prog 24 #[v1, v2] w fun e w' => e = .returned (.bool true) ∧ Below w.heap.size w w' := by
  obtain ⟨p1, c1, rfl, hm, hr1⟩ := h1
  obtain ⟨p2, c2, rfl, _, hr2⟩ := h2
  have HR1 : Hid (0 < l.length → ∃ g o, p1 = some ⟨g, o, none⟩ ∧ ∀ i (h : i < l.length), DotAt w g (o + i * 2) l[i].1 l[i].2) := hr1
  have HR2 : Hid (0 < l.length → ∃ g o, p2 = some ⟨g, o, none⟩ ∧ ∀ i (h : i < l.length), DotAt w g (o + i * 2) l[i].1 l[i].2) := hr2
  clear hr1 hr2
  go_enter Try.func24, Try.ntmps24
  go_wp2
  go_loopw [5] (fun vi wr => ∃ k : Nat, vi = .int .i64 k ∧ k ≤ l.length ∧ Below w.heap.size w wr) (fun vi _ => l.length - (intOf vi).toNat)
  case atStart => exact ⟨0, rfl, by omega, Below.refl _ _⟩
  case round =>
    obtain ⟨k, rfl, hk, hbel⟩ := hrel
    by_cases hlt : k < l.length
    · obtain ⟨g1, o1, rfl, hd1⟩ := HR1.out (by omega)
      obtain ⟨g2, o2, rfl, hd2⟩ := HR2.out (by omega)
      have d1 := (hd1 k hlt).later hbel
      have d2 := (hd2 k hlt).later hbel
      generalize l[k].1 = p at d1 d2
      generalize l[k].2 = s at d1 d2
      have hi1 : (k : Int) < (l.length : Int) := by omega
      clear HR1 HR2 hd1 hd2
      go_wp2
      refine Calm.region (by kernel_rfl) (by kernel_rfl) (fun w' => DotAt w' g1 (o1 + k * 2) p s ∧ DotAt w' g2 (o2 + k * 2) p s ∧ Below w.heap.size w w') ⟨d1, d2, hbel.drew⟩ ?_
      all_goals
        refine Calm.pure (v := ?_) (by rfl) ?_ ?_
        rotate_left
        focus (intro w hSw; go_simp <;> rfl)
        simp only [Act.put, List.setIfInBounds_toArray, List.set_cons_zero, List.set_cons_succ]
      all_goals
        refine Calm.pure (v := ?_) (by rfl) ?_ ?_
        rotate_left
        focus (intro w hSw; go_simp <;> rfl)
        simp only [Act.put, List.setIfInBounds_toArray, List.set_cons_zero, List.set_cons_succ]
      all_goals
        refine Calm.pure (v := ?_) (by rfl) ?_ ?_
        rotate_left
        focus (intro w hSw; go_simp <;> rfl)
        simp only [Act.put, List.setIfInBounds_toArray, List.set_cons_zero, List.set_cons_succ]
      all_goals
        refine Calm.loadDot (by rfl) _ rfl rfl (fun _ h => by go_split_ands; assumption) ?_
        simp only [Act.put, List.setIfInBounds_toArray, List.set_cons_zero, List.set_cons_succ]
      all_goals
        refine Calm.pure (v := ?_) (by rfl) ?_ ?_
        rotate_left
        focus (intro w hSw; go_simp <;> rfl)
        simp only [Act.put, List.setIfInBounds_toArray, List.set_cons_zero, List.set_cons_succ]
      all_goals
        refine Calm.pure (v := ?_) (by rfl) ?_ ?_
        rotate_left
        focus (intro w hSw; go_simp <;> rfl)
        simp only [Act.put, List.setIfInBounds_toArray, List.set_cons_zero, List.set_cons_succ]
      all_goals
        refine Calm.pure (v := ?_) (by rfl) ?_ ?_
        rotate_left
        focus (intro w hSw; go_simp <;> rfl)
        simp only [Act.put, List.setIfInBounds_toArray, List.set_cons_zero, List.set_cons_succ]
      all_goals
        refine Calm.loadDot (by rfl) _ rfl rfl (fun _ h => by go_split_ands; assumption) ?_
        simp only [Act.put, List.setIfInBounds_toArray, List.set_cons_zero, List.set_cons_succ]
      all_goals
        refine Calm.pure (v := ?_) (by rfl) ?_ ?_
        rotate_left
        focus (intro w hSw; go_simp <;> rfl)
        simp only [Act.put, List.setIfInBounds_toArray, List.set_cons_zero, List.set_cons_succ]
      rintro w9 ⟨_, _, hbel9⟩
      go_wp2
      go_roundw
      case rel => exact ⟨k + 1, by simp, by omega, hbel9⟩
      case measure => simp [intOf]; omega
    · have hk : k = l.length := by omega
      subst hk
      go_wp2
      go_ret
      exact ⟨rfl, hbel⟩

end Go.Proofs.Ytbeehmcoeblbcaa
