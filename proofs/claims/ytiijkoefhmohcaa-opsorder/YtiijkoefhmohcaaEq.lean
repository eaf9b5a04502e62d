/- Ops of the document's answer: whether two slices hold the same ops. -/
import Derived.Test.YtiijkoefhmohcaaTx
namespace Go.Proofs.Ytiijkoefhmohcaa
open Go.RowKit

/-- Two rows of ops are one. -/
def leqb : List O → List O → Bool
  | [], [] => true
  | a :: l, b :: m => a.eqb b && leqb l m
  | _, _ => false
theorem leqb_iff : ∀ l m : List O, leqb l m = true ↔ l = m
  | [], [] => by simp [leqb]
  | [], _ :: _ => by simp [leqb]
  | _ :: _, [] => by simp [leqb]
  | a :: l, b :: m => by simp [leqb, leqb_iff l m, O.eqb_iff]
theorem Calm.loadM {ops : Array Oper} {S : World → Prop} {K : Act → Prop} {o : Oper} {l : List Oper} {a : Act} {b f : Nat} {cs : List Value} (t : TypeId) {d : TypeDesc} (hu : Try.prog.underlying t = some d) (hd : d.isRow = true) (hi : (Try.prog.info? t).map (·.size) = some cs.length) (hw : Region.wanted o (yielded ops a.tmps) = true) (x : Operand) (ho : o.op = .load t x)
    (hx : a.eval x = .pointer (some ⟨b, f, none⟩)) (hS : ∀ w, S w → w.rangeAt b f cs) (h : Calm.calmList Try.prog ops S K l (a.put o.dst (.agg cs.toArray))) : Calm.calmList Try.prog ops S K (o :: l) a :=
  Calm.pure hw (fun w hw' => by
    have h2 := run_loadVar_mid (P := Try.prog) w b f t cs d (hS w hw') hu hd hi
    unfold execOp
    simp only [ho, hx, Instr.loadAt, Instr.sureAddr, Sem.run_bind, Sem.run_pure, h2, Result.andThen_ok]) h

set_option maxHeartbeats 2000000 in
set_option maxRecDepth 100000 in
theorem opsEq_any (v1 v2 : Value) (l m : List O) (w : World) (h1 : OHas w v1 l) (h2 : OHas w v2 m) :
    Calls Try.prog 10 #[v1, v2] w (Tells (.bool (leqb l m)) w) := by
  obtain ⟨z, HZ⟩ : ∃ z, Hid (leqb l m = z) := ⟨_, rfl⟩
  rw [HZ.out]
  obtain ⟨p1, c1, rfl, hm1, hr1⟩ := h1
  obtain ⟨p2, c2, rfl, hm2, hr2⟩ := h2
  have HR1 : Hid (0 < l.length → ∃ g o, p1 = some ⟨g, o, none⟩ ∧ ∀ i (h : i < l.length), w.rangeAt g (o + i * 10) l[i].cells) := hr1
  have HR2 : Hid (0 < m.length → ∃ g o, p2 = some ⟨g, o, none⟩ ∧ ∀ i (h : i < m.length), w.rangeAt g (o + i * 10) m[i].cells) := hr2
  clear hr1 hr2
  have hml := maxLen_lt hm1
  clear hm1 hm2
  by_cases hlen : l.length = m.length
  · have hlen' : (l.length : Int) = (m.length : Int) := by omega
    have HL : Hid (l.length = m.length) := hlen
    rw [← hlen]
    clear hlen hlen'
    go_enter Try.func10, Try.ntmps10
    go_wp2
    go_loopw [5] (fun vi wr => ∃ k : Nat, vi = .int .i64 k ∧ k ≤ l.length ∧ Hid (∀ i (h : i < l.length) (h' : i < m.length), i < k → l[i] = m[i]) ∧ Below w.heap.size w wr) (fun vi _ => l.length - (intOf vi).toNat)
    case atStart => exact ⟨0, rfl, by omega, (show ∀ i (_ : i < l.length) (_ : i < m.length), i < 0 → _ from fun i _ _ h => by omega), Below.refl _ _⟩
    case round =>
      obtain ⟨k, rfl, hk, HV, hbel⟩ := hrel
      by_cases hlt : k < l.length
      · have hlt' : (k : Int) < (l.length : Int) := by omega
        have hltm : k < m.length := by have := HL.out; omega
        obtain ⟨g1, o1, rfl, hd1⟩ := HR1.out (by omega)
        obtain ⟨g2, o2, rfl, hd2⟩ := HR2.out (by omega)
        have d1 := range_later (hd1 k hlt) hbel
        have d2 := range_later (hd2 k hltm) hbel
        obtain ⟨x, HX⟩ := hid_ex l[k]
        obtain ⟨y, HY⟩ := hid_ex m[k]
        rw [HX.out] at d1
        rw [HY.out] at d2
        clear HR1 HR2 hd1 hd2
        have E := fun w => eq_op w x y
        have E2 := O.eqb_iff x y
        generalize O.eqb x y = r at E E2
        have HE : Hid (r = true ↔ x = y) := E2
        have z1 : (Try.prog.info? 35).map (·.size) = some x.cells.length := size35
        have z2 : (Try.prog.info? 35).map (·.size) = some y.cells.length := size35
        clear E2
        cases r
        all_goals
          go_wp2
          refine Calm.region (by kernel_rfl) (by kernel_rfl) (fun w' => w'.rangeAt g1 (o1 + k * 10) x.cells ∧ w'.rangeAt g2 (o2 + k * 10) y.cells ∧ Below w.heap.size w w') ⟨d1, d2, hbel.drew⟩ ?_
        all_goals
          refine Calm.pure (v := ?_) (by rfl) ?_ ?_
          rotate_left
          focus (intro w hSw; go_simp <;> rfl)
          simp only [Act.put, List.setIfInBounds_toArray, List.set_cons_zero, List.set_cons_succ]
        all_goals
          refine Calm.pure (v := ?_) (by rfl) ?_ ?_
          rotate_left
          focus (intro w hSw; go_simp <;> rfl)
          simp only [Act.put, List.setIfInBounds_toArray, List.set_cons_zero, List.set_cons_succ]
        all_goals
          refine Calm.pure (v := ?_) (by rfl) ?_ ?_
          rotate_left
          focus (intro w hSw; go_simp <;> rfl)
          simp only [Act.put, List.setIfInBounds_toArray, List.set_cons_zero, List.set_cons_succ]
        all_goals
          refine Calm.loadM 35 Try.underlying35 rfl z1 (by rfl) _ rfl rfl (fun _ h => h.1) ?_
          simp only [Act.put, List.setIfInBounds_toArray, List.set_cons_zero, List.set_cons_succ]
        all_goals
          refine Calm.pure (v := ?_) (by rfl) ?_ ?_
          rotate_left
          focus (intro w hSw; go_simp <;> rfl)
          simp only [Act.put, List.setIfInBounds_toArray, List.set_cons_zero, List.set_cons_succ]
        all_goals
          refine Calm.pure (v := ?_) (by rfl) ?_ ?_
          rotate_left
          focus (intro w hSw; go_simp <;> rfl)
          simp only [Act.put, List.setIfInBounds_toArray, List.set_cons_zero, List.set_cons_succ]
        all_goals
          refine Calm.pure (v := ?_) (by rfl) ?_ ?_
          rotate_left
          focus (intro w hSw; go_simp <;> rfl)
          simp only [Act.put, List.setIfInBounds_toArray, List.set_cons_zero, List.set_cons_succ]
        all_goals
          refine Calm.loadM 35 Try.underlying35 rfl z2 (by rfl) _ rfl rfl (fun _ h => h.2.1) ?_
          simp only [Act.put, List.setIfInBounds_toArray, List.set_cons_zero, List.set_cons_succ]
        all_goals
          refine Calm.pure (v := ?_) (by rfl) ?_ ?_
          rotate_left
          focus (intro w hSw; go_simp <;> rfl)
          simp only [Act.put, List.setIfInBounds_toArray, List.set_cons_zero, List.set_cons_succ]
        all_goals
          rintro w9 ⟨_, _, hbel9⟩
        · have HF : Hid (z = false) := by
            show z = false
            have hz := HZ.out
            cases e : z
            · rfl
            · exfalso
              rw [e, leqb_iff] at hz
              have : x = y := by rw [← HX.out, ← HY.out]; simp only [hz]
              have := HE.out.2 this
              cases this
          clear HV HE HX HY HZ HL E
          go_wp2
          go_ret
          exact ⟨by rw [HF.out]; rfl, hbel9⟩
        · have HV2 : Hid (∀ i (h : i < l.length) (h' : i < m.length), i < k + 1 → l[i] = m[i]) := by
            show ∀ i (h : i < l.length) (h' : i < m.length), i < k + 1 → l[i] = m[i]
            intro i h h' hi
            by_cases hik : i = k
            · subst hik
              rw [HX.out, HY.out]
              exact HE.out.1 trivial
            · exact HV.out i h h' (by omega)
          clear HV HE HX HY HZ HL E
          go_wp2
          go_roundw
          case rel => exact ⟨k + 1, by simp, by omega, HV2, hbel9⟩
          case measure => simp [intOf]; omega
      · have hk : k = l.length := by omega
        subst hk
        have HT : Hid (z = true) := by
          show z = true
          rw [← HZ.out, leqb_iff]
          exact List.ext_getElem HL.out fun i h h' => HV.out i h h' h
        clear HR1 HR2 HV HZ HL
        go_wp2
        go_ret
        exact ⟨by rw [HT.out]; rfl, hbel⟩
  · have hlen' : ¬ (l.length : Int) = (m.length : Int) := by omega
    have HF : Hid (z = false) := by
      show z = false
      have hz := HZ.out
      cases e : z
      · rfl
      · exfalso
        rw [e, leqb_iff] at hz
        exact hlen (by rw [hz])
    clear HR1 HR2 HZ
    go_enter Try.func10, Try.ntmps10
    go_wp2
    all_goals
      go_ret
      exact ⟨by rw [HF.out]; rfl, Below.refl _ _⟩
end Go.Proofs.Ytiijkoefhmohcaa
