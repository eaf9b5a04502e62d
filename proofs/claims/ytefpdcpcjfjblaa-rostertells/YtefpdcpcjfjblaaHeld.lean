/- A region that draws its order, walked in the text's order: what only reads is taken first, each in one word; what is alone in its turn (a call whose answer hangs on the world, an allocation, a store) is walked as it comes. Nothing of one program. -/
import Derived.Test.YtefpdcpcjfjblaaCalm
import Derived.OrdersHeld
import Derived.Deep.MidRow
namespace Go.Proofs.Ytefpdcpcjfjblaa.Held

/-- From the operation k on, those of the list. -/
def HL (P : Program) (ops : Array Oper) (Q : Exit → Act → World → Prop) (S : World → Prop) (l : List Oper) (k : Nat) (listed : Array Bool) (a : Act) (w : World) : Prop := (∀ j, l[j]? = ops[k + j]?) → wpAnyH P .any ops Q S l.length listed a w
section
variable {P : Program} {ops : Array Oper} {Q : Exit → Act → World → Prop} {S : World → Prop} {l : List Oper} {k : Nat} {listed : Array Bool} {a a' : Act} {w : World} {o : Oper}
theorem tail (hl : ∀ j, (o :: l)[j]? = ops[k + j]?) (j : Nat) : l[j]? = ops[k + 1 + j]? := by
  have := hl (j + 1)
  rw [show k + 1 + j = k + (j + 1) by omega]
  simpa using this
theorem take {v : Value} (hy : YieldsIf P ops S o v a) (hS : S w) (h : HL P ops Q S l (k + 1) (listed.setIfInBounds k true) (a.put o.dst v) w) (hs : Region.noSelect ops = true) (hf : Region.free .any ops listed k = true) (hr : (Region.ready .any ops listed).contains k = true) (hQ : ∀ c a w, Q (.panic c) (a.put o.dst v) w → Q (.panic c) a w) : HL P ops Q S (o :: l) k listed a w := fun hl =>
  wpAnyH_take (by simpa using (hl 0).symm) hs hf hr hQ hy hS (h (tail hl))
/-- Passed over. -/
theorem sk (hS : S w) (h : HL P ops Q S l (k + 1) (listed.setIfInBounds k true) a' w) (hw : Region.wanted o (yielded ops a.tmps) = false := by rfl) (hs : Region.noSelect ops = true := by kernel_rfl) (hf : Region.free .any ops listed k = true := by kernel_rfl) (hr : (Region.ready .any ops listed).contains k = true := by kernel_rfl) (hQ : ∀ c a w, Q (.panic c) (a.put o.dst undef) w → Q (.panic c) a w := by exact fun _ _ _ h => h)
    (hp : a.put o.dst undef = a' := by (simp only [Act.put, List.setIfInBounds_toArray, List.set_cons_zero, List.set_cons_succ]; rfl)) : HL P ops Q S (o :: l) k listed a w :=
  take (.inr ⟨hw, rfl⟩) hS (hp ▸ h) hs hf hr hQ
/-- Run to a value. -/
theorem pu {v : Value} (hS : S w) (h : HL P ops Q S l (k + 1) (listed.setIfInBounds k true) a' w) (hw : Region.wanted o (yielded ops a.tmps) = true := by rfl) (hv : ∀ w, S w → (execOp a.eval o).run P w = .ok (.value v) w := by (intro w hSw; go_simp <;> rfl)) (hs : Region.noSelect ops = true := by kernel_rfl) (hf : Region.free .any ops listed k = true := by kernel_rfl) (hr : (Region.ready .any ops listed).contains k = true := by kernel_rfl) (hQ : ∀ c a w, Q (.panic c) (a.put o.dst v) w → Q (.panic c) a w := by exact fun _ _ _ h => h)
    (hp : a.put o.dst v = a' := by (simp only [Act.put, List.setIfInBounds_toArray, List.set_cons_zero, List.set_cons_succ]; rfl)) : HL P ops Q S (o :: l) k listed a w :=
  take (.inl ⟨hw, hv⟩) hS (hp ▸ h) hs hf hr hQ
/-- A load of what a cell holds. -/
theorem ce {v : Value} {ad : Addr} (g : ∀ w, S w → w.cell? ad = some v) (hS : S w) (h : HL P ops Q S l (k + 1) (listed.setIfInBounds k true) a' w) (hw : Region.wanted o (yielded ops a.tmps) = true := by rfl) (hv : ∀ w, S w → w.cell? ad = some v → (execOp a.eval o).run P w = .ok (.value v) w := by (intro w hSw g1; go_simp)) (hs : Region.noSelect ops = true := by kernel_rfl) (hf : Region.free .any ops listed k = true := by kernel_rfl) (hr : (Region.ready .any ops listed).contains k = true := by kernel_rfl) (hQ : ∀ c a w, Q (.panic c) (a.put o.dst v) w → Q (.panic c) a w := by exact fun _ _ _ h => h)
    (hp : a.put o.dst v = a' := by (simp only [Act.put, List.setIfInBounds_toArray, List.set_cons_zero, List.set_cons_succ]; rfl)) : HL P ops Q S (o :: l) k listed a w :=
  take (.inl ⟨hw, fun w h => hv w h (g w h)⟩) hS (hp ▸ h) hs hf hr hQ
/-- A load of a struct. -/
theorem lm {b f : Nat} {cs : List Value} {t : TypeId} {d : TypeDesc} {x : Operand} (hz : (P.info? t).map (·.size) = some cs.length) (g : ∀ w, S w → w.rangeAt b f cs) (hu : P.underlying t = some d) (hS : S w) (h : HL P ops Q S l (k + 1) (listed.setIfInBounds k true) a' w) (hw : Region.wanted o (yielded ops a.tmps) = true := by rfl) (ho : o.op = .load t x := by rfl) (hx : a.eval x = .pointer (some ⟨b, f, none⟩) := by rfl) (hd : d.isRow = true := by rfl) (hs : Region.noSelect ops = true := by kernel_rfl) (hf : Region.free .any ops listed k = true := by kernel_rfl) (hr : (Region.ready .any ops listed).contains k = true := by kernel_rfl)
    (hQ : ∀ c a w, Q (.panic c) (a.put o.dst (.agg cs.toArray)) w → Q (.panic c) a w := by exact fun _ _ _ h => h) (hp : a.put o.dst (.agg cs.toArray) = a' := by (simp only [Act.put, List.setIfInBounds_toArray, List.set_cons_zero, List.set_cons_succ]; rfl)) : HL P ops Q S (o :: l) k listed a w :=
  take (.inl ⟨hw, fun w hw' => by
    have h2 := run_loadVar_mid (P := P) w b f t cs d (g w hw') hu hd hz
    unfold execOp
    simp only [ho, hx, Instr.loadAt, Instr.sureAddr, Sem.run_bind, Sem.run_pure, h2, Result.andThen_ok]⟩) hS (hp ▸ h) hs hf hr hQ
/-- The one whose turn it is. -/
theorem al (h : o.wp P a w (fun a' w' => S w' ∧ HL P ops Q S l (k + 1) (listed.setIfInBounds k true) a' w') Q) (hr : Region.ready .any ops listed = [k]) (hw : Region.wanted o (yielded ops a.tmps) = true) : HL P ops Q S (o :: l) k listed a w := fun hl =>
  wpAnyH_all hr (by simp) fun j hj => by
    obtain rfl : j = k := by simpa using hj
    have hi : ops[j]? = some o := by simpa using (hl 0).symm
    unfold wpOp
    simp only [hi, hw, if_true]
    exact .inl (Oper.wp_mono (fun a' w' h => ⟨h.1, h.2 (tail hl)⟩) h)
/-- It is a call of a function by its name. -/
theorem kn {f : FuncId} {us : Array Operand} {ts : Array TypeId} {args : List Value} {φ : Ending → World → Prop} {au : Value → Act} (hc : Calls P f args.toArray w φ) (h : ∀ e w', φ e w' → ∃ u, e = .returned u ∧ S w' ∧ HL P ops Q S l (k + 1) (listed.setIfInBounds k true) (au u) w')
    (hr : Region.ready .any ops listed = [k] := by kernel_rfl) (hw : Region.wanted o (yielded ops a.tmps) = true := by rfl) (hf : Calm.enters P f = true := by kernel_rfl)
    (ho : o.op = .call { callee := .value (.func f), args := us, argTypes := ts } := by rfl) (ha : us.toList.map a.eval = args := by rfl) (hp : ∀ u, a.put o.dst u = au u := by (intro u; simp only [Act.put, List.setIfInBounds_toArray, List.set_cons_zero, List.set_cons_succ]; rfl)) : HL P ops Q S (o :: l) k listed a w :=
  al (by
    have e : ∀ args, (callFunc f args).run P w = .ok (.enter f args) w := fun args => Calm.enters_run hf args w
    have hr' : (execOp a.eval o).run P w = .ok (.enter f args.toArray) w := by
      have ha' : us.map a.eval = args.toArray := by
        rw [← ha, ← Array.toList_map, Array.toArray_toList]
      unfold execOp
      rw [ho]
      simp [go_sem, Act.eval, e, ← ha']
    unfold Oper.wp
    rw [hr']
    refine hc.mono fun e w' he => ?_
    obtain ⟨u, rfl, h1, h2⟩ := h e w' he
    exact ⟨h1, hp u ▸ h2⟩) hr hw
/-- It comes to a value, or to nothing, and leaves another world. -/
theorem vl {v : Value} {w1 : World} (hv : (execOp a.eval o).run P w = .ok (.value v) w1) (hS : S w1) (h : HL P ops Q S l (k + 1) (listed.setIfInBounds k true) a' w1) (hr : Region.ready .any ops listed = [k] := by kernel_rfl) (hw : Region.wanted o (yielded ops a.tmps) = true := by rfl) (hp : a.put o.dst v = a' := by (simp only [Act.put, List.setIfInBounds_toArray, List.set_cons_zero, List.set_cons_succ]; rfl)) : HL P ops Q S (o :: l) k listed a w :=
  al (by
    unfold Oper.wp
    rw [hv]
    exact ⟨hS, hp ▸ h⟩) hr hw
theorem st {w1 : World} (hv : (execOp a.eval o).run P w = .ok .skip w1) (hS : S w1) (h : HL P ops Q S l (k + 1) (listed.setIfInBounds k true) a' w1) (hr : Region.ready .any ops listed = [k] := by kernel_rfl) (hw : Region.wanted o (yielded ops a.tmps) = true := by rfl) (hp : a.put o.dst undef = a' := by (simp only [Act.put, List.setIfInBounds_toArray, List.set_cons_zero, List.set_cons_succ]; rfl)) : HL P ops Q S (o :: l) k listed a w :=
  al (by
    unfold Oper.wp
    rw [hv]
    exact ⟨hS, hp ▸ h⟩) hr hw
/-- A store of a struct, or of what a cell holds. -/
theorem ss {w1 : World} {t : TypeId} {x y : Operand} {pv vv : Value} (hv : (Instr.storeAt t pv vv).run P w = .ok () w1) (hS : S w1) (h : HL P ops Q S l (k + 1) (listed.setIfInBounds k true) a' w1) (hr : Region.ready .any ops listed = [k] := by kernel_rfl) (hw : Region.wanted o (yielded ops a.tmps) = true := by rfl) (ho : o.op = .store t x y := by rfl) (hx : a.eval x = pv := by rfl) (hy : a.eval y = vv := by rfl) (hp : a.put o.dst undef = a' := by (simp only [Act.put, List.setIfInBounds_toArray, List.set_cons_zero, List.set_cons_succ]; rfl)) : HL P ops Q S (o :: l) k listed a w :=
  al (by
    unfold Oper.wp execOp
    simp only [ho, hx, hy, Sem.run_bind, hv, Result.andThen_ok, Sem.run_pure]
    exact ⟨hS, hp ▸ h⟩) hr hw
/-- All have come up. -/
theorem dn (h : Q .normal a w) (hr : Region.ready .any ops listed = [] := by kernel_rfl) : HL P ops Q S [] k listed a w := fun _ => wpAnyH_done hr h _
theorem region {id : Nat} (S : World → Prop) (hm : P.follows .mixedOrders = true) (h : HL P l.toArray Q S l 0 (Array.replicate l.length false) a w.drew) : (Code.region id l.toArray true).wp P Q a w := wp_region_held (S := S) hm (by
  have := h (fun j => by simp)
  simpa using this)
end
end Go.Proofs.Ytefpdcpcjfjblaa.Held
