/- What must come at any rate (heads). -/
import Derived.Test.YtbeehmcoeblbcaaDots
import Derived.Test.YtbeehmcoeblbcaaTame
namespace Go.Proofs.Ytbeehmcoeblbcaa
open Go.RowKit

abbrev ea : List Int := [0, 1, 0, 0, 0, 0, 0, 0, 0, 0, 0, 0, 0]
abbrev eb : List Int := [0, 0, 1, 0, 0, 0, 0, 0, 0, 0, 0, 0, 0]
abbrev ej : List Int := [0, 1, 1, 0, 0, 0, 0, 0, 0, 0, 0, 0, 0]

theorem head1 (w : World) : Calls Try.prog 10 #[V zeros, D 1 1] w fun e w' => e = .returned (.tuple #[V ea, .int .i64 0]) ∧ Below w.heap.size w w' :=
  add_ok zeros 1 1 w rfl (by decide) (by decide) (by decide) (by decide) (by decide)
theorem head2 (w : World) : Calls Try.prog 10 #[V zeros, D 2 1] w fun e w' => e = .returned (.tuple #[V eb, .int .i64 0]) ∧ Below w.heap.size w w' :=
  add_ok zeros 2 1 w rfl (by decide) (by decide) (by decide) (by decide) (by decide)
theorem head3 (w : World) : Calls Try.prog 10 #[V zeros, D 1 2] w fun e w' => e = .returned (.tuple #[V zeros, .int .i64 190]) ∧ Below w.heap.size w w' :=
  add_cause zeros 1 2 w rfl (by decide) (by decide) (by decide) (by decide) (by decide)
theorem head4 (w : World) : Calls Try.prog 12 #[V ea, D 1 1] w fun e w' => e = .returned (.bool true) ∧ Below w.heap.size w w' :=
  has_peer ea 1 1 w rfl (by decide) (by decide) (by decide)
theorem head5 (w : World) : Calls Try.prog 12 #[V eb, D 1 1] w fun e w' => e = .returned (.bool false) ∧ Below w.heap.size w w' :=
  has_peer eb 1 1 w rfl (by decide) (by decide) (by decide)
theorem head6 (w : World) : Calls Try.prog 11 #[V ea, D 1 2] w fun e w' => e = .returned (.bool true) ∧ Below w.heap.size w w' :=
  next_peer ea 1 2 w rfl (by decide) (by decide) (by decide) (by decide)
theorem head7 (w : World) : Calls Try.prog 19 #[V ea, V eb] w fun e w' => e = .returned (V ej) ∧ Below w.heap.size w w' := join_any ea eb w rfl rfl
theorem head8 (w : World) : Calls Try.prog 13 #[V ea, V ej] w fun e w' => e = .returned (.bool true) ∧ Below w.heap.size w w' := leq_any ea ej w rfl rfl
theorem head9 (w : World) : Calls Try.prog 13 #[V ea, V eb] w fun e w' => e = .returned (.bool false) ∧ Below w.heap.size w w' := leq_any ea eb w rfl rfl
theorem head10 (w : World) : Calls Try.prog 21 #[V ea, V eb] w fun e w' => e = .returned (V zeros) ∧ Below w.heap.size w w' := meet_any ea eb w rfl rfl
theorem ms_head : ms ea ej 13 = [(2, 1)] := by decide +kernel
theorem head12 (w : World) : Calls Try.prog 25 #[V ea, V ej] w fun e w' => ∃ v, e = .returned v ∧ DHas w' v [(2, 1)] ∧ Below w.heap.size w w' :=
  (missing_ok ea ej w rfl rfl (by decide +kernel) (by decide +kernel)).mono fun e w' ⟨v, he, ho, hb⟩ => ⟨v, he, by rw [ms_head] at ho; exact own_dhas ho (by decide), hb⟩
theorem head15 (w : World) : Calls Try.prog 14 #[V ej] w fun e w' => e = .returned (.int .i64 2) ∧ Below w.heap.size w w' := total_ok ej w rfl (by decide +kernel)
theorem head16 (w : World) : Calls Try.prog 16 #[V zeros] w fun e w' => e = .returned (.bool true) ∧ Below w.heap.size w w' := check_any zeros w rfl
theorem eq_zeros (w : World) : (Op.equalIn 10000 23 (V zeros) (V zeros)).run Try.prog w = .ok true w := eq_arrays w zeros zeros rfl rfl

theorem store_new (w : World) (l : List Int) (hl : l.length = 13) : At ((w.alloc (.cells (vals zeros).toArray 23)).setRow w.heap.size (vals l).toArray) w.heap.size l := (at_new w zeros rfl).row hl
theorem store_old {w : World} {b : Nat} {x l : List Int} (h : At w b x) : At ((w.alloc (.cells (vals zeros).toArray 23)).setRow w.heap.size (vals l).toArray) b x := (h.alloc _).rowOther (by have := h.lt; omega) _
theorem store_below {w0 w : World} (h : Below w0.heap.size w0 w) (l : List Int) : Below w0.heap.size w0 ((w.alloc (.cells (vals zeros).toArray 23)).setRow w.heap.size (vals l).toArray) := below_setRow (h.alloc h.size _) h.size _

theorem dhas_new (w : World) : DHas (w.alloc (.cells #[.int .i64 2, .int .i64 1] 25)) (.slice (some ⟨w.heap.size, 0, none⟩) 1 1) [(2, 1)] :=
  ⟨some ⟨w.heap.size, 0, none⟩, 1, rfl, by decide, fun _ => ⟨w.heap.size, 0, rfl, fun i hi => by
    obtain rfl : i = 0 := by simpa using hi
    exact dot_new w rfl 2 1⟩⟩

/-- What is known of a value: it is no slice, or it holds the one dot. -/
def nosl : Value → Bool
  | .slice .. => false
  | _ => true
def isSl (v : Value) : Prop := nosl v = false
def TD (v : Value) (w : World) : Prop := nosl v = true ∨ DHas w v [(2, 1)]
theorem DHas.isSl {w : World} {v : Value} {l : List (Int × Int)} (h : DHas w v l) : isSl v := by
  obtain ⟨p, c, rfl, _⟩ := h
  rfl
theorem sl_dhas {w : World} {v : Value} (h : isSl v) (ht : TD v w) : DHas w v [(2, 1)] := by
  rcases ht with h' | h'
  · rw [isSl, h'] at h; cases h
  · exact h'
theorem TD.later (v : Value) (w w' : World) (h : TD v w) (hb : Below w.heap.size w w') : TD v w' := by
  rcases h with h | h
  · exact Or.inl h
  · exact Or.inr (h.later hb)
theorem build_one {o : Oper} {a : Act} {x : Operand} {i j : Int} (ho : o.op = .buildSlice 38 1 #[(0, x)]) (hx : a.eval x = D i j) (w : World) :
    (execOp a.eval o).run Try.prog w = .ok (.value (.slice (some ⟨w.heap.size, 0, none⟩) 1 1)) (w.alloc (.cells #[.int .i64 i, .int .i64 j] 25)) := by
  unfold execOp
  generalize a.eval = ρ at hx
  simp [ho, hx, go_sem]
theorem known_all {a : Act} (h : a.tmps.toList.all nosl = true) (w : World) : Tame.Known TD a w := by
  intro t
  refine .inl ?_
  rw [Array.getD_eq_getD_getElem?]
  rcases Nat.lt_or_ge t a.tmps.size with hlt | hge
  · rw [Array.getElem?_eq_getElem hlt]
    exact List.all_eq_true.1 h _ (by simp)
  · rw [Array.getElem?_eq_none hge]
    rfl
theorem Tame.load {ops : Array Oper} {S : World → Prop} {T : Value → World → Prop} {K : Act → Prop} {o : Oper} {l : List Oper} {E : Type} {G : E → Prop} {f : E → Act} {b : Nat} {v : List Int} (hw : ∀ p, Region.wanted o (yielded ops (f p).tmps) = true) (x : Operand) (ho : o.op = .load 23 x)
    (hx : ∀ p, (f p).eval x = .pointer (some ⟨b, 0, none⟩)) (hS : ∀ w, S w → At w b v) (hT : ∀ w, T (V v) w) (h : Tame.tameList Try.prog ops S T K l (Tame.fam G fun p => (f p).put o.dst (V v))) : Tame.tameList Try.prog ops S T K (o :: l) (Tame.fam G f) :=
  Tame.pure hw (fun p _ w hw' => by unfold execOp; simp only [ho, hx p, Sem.run_bind, (hS w hw').load, Result.andThen_ok, Sem.run_pure]) hT h

set_option maxHeartbeats 4000000 in
set_option maxRecDepth 100000 in
theorem heads_any (w : World) : Calls Try.prog 9 #[] w fun e w' => e = .returned (.bool true) ∧ Below w.heap.size w w' := by
  have hz := at_new w zeros rfl
  have hbel : Below w.heap.size w (w.alloc (.cells (vals zeros).toArray 23)) := (Below.refl _ _).alloc (Nat.le_refl _) _
  have heq := eq_zeros
  go_enter Try.func9, Try.ntmps9
  go_wp2_with (refine load_atg _ rfl rfl _ rfl hz ?_)
  refine (head1 _).mono ?_
  rintro e w1 ⟨rfl, hb1⟩
  replace hz := hz.later hb1
  replace hbel := below_on hbel hb1
  clear hb1
  replace hz := store_old (l := ea) hz
  have ha := store_new w1 ea rfl
  replace hbel := store_below hbel ea
  go_wp2_with (first | refine store_at rfl _ _ rfl _ _ rfl rfl (at_new w1 zeros rfl) rfl ?_ | refine load_atg _ rfl rfl _ rfl hz ?_)
  refine (head2 _).mono ?_
  rintro e w2 ⟨rfl, hb2⟩
  replace hz := hz.later hb2
  replace ha := ha.later hb2
  replace hbel := below_on hbel hb2
  clear hb2
  replace hz := store_old (l := eb) hz
  replace ha := store_old (l := eb) ha
  have hb := store_new w2 eb rfl
  replace hbel := store_below hbel eb
  go_wp2_with (first | refine store_at rfl _ _ rfl _ _ rfl rfl (at_new w2 zeros rfl) rfl ?_ | refine load_atg _ rfl rfl _ rfl hz ?_)
  refine (head3 _).mono ?_
  rintro e w3 ⟨rfl, hb3⟩
  replace hz := hz.later hb3
  replace ha := ha.later hb3
  replace hb := hb.later hb3
  replace hbel := below_on hbel hb3
  clear hb3
  replace hz := store_old (l := zeros) hz
  replace ha := store_old (l := zeros) ha
  replace hb := store_old (l := zeros) hb
  replace hbel := store_below hbel zeros
  go_wp2_with (refine store_at rfl _ _ rfl _ _ rfl rfl (at_new w3 zeros rfl) rfl ?_)
  refine Tame.region (by kernel_rfl) (by kernel_rfl) (fun w' => At w' w.heap.size zeros ∧ At w' w1.heap.size ea ∧ At w' w2.heap.size eb ∧ Below w.heap.size w w') TD
    (fun wa wb h hb => ⟨h.1.later hb, h.2.1.later hb, h.2.2.1.later hb, below_on h.2.2.2 hb⟩) TD.later (fun _ => .inl rfl) ⟨hz, ha, hb, hbel.drew⟩ (known_all (by rfl) _) ?_
  clear hz ha hb hbel
  refine Tame.pure (v := ?_) (fun _ => by rfl) ?_ ?_ ?_
  rotate_left
  focus (intro p hp w hSw; go_simp <;> rfl)
  focus (intro w; exact .inl rfl)
  simp only [Act.put, List.setIfInBounds_toArray, List.set_cons_zero, List.set_cons_succ]
  refine Tame.pure (v := ?_) (fun _ => by rfl) ?_ ?_ ?_
  rotate_left
  focus (intro p hp w hSw; go_simp <;> rfl)
  focus (intro w; exact .inl rfl)
  simp only [Act.put, List.setIfInBounds_toArray, List.set_cons_zero, List.set_cons_succ]
  refine Tame.pure (v := ?_) (fun _ => by rfl) ?_ ?_ ?_
  rotate_left
  focus (intro p hp w hSw; go_simp <;> rfl)
  focus (intro w; exact .inl rfl)
  simp only [Act.put, List.setIfInBounds_toArray, List.set_cons_zero, List.set_cons_succ]
  refine Tame.pure (v := ?_) (fun _ => by rfl) ?_ ?_ ?_
  rotate_left
  focus (intro p hp w hSw; go_simp <;> rfl)
  focus (intro w; exact .inl rfl)
  simp only [Act.put, List.setIfInBounds_toArray, List.set_cons_zero, List.set_cons_succ]
  refine Tame.pure (v := ?_) (fun _ => by rfl) ?_ ?_ ?_
  rotate_left
  focus (intro p hp w hSw; go_simp <;> rfl)
  focus (intro w; exact .inl rfl)
  simp only [Act.put, List.setIfInBounds_toArray, List.set_cons_zero, List.set_cons_succ]
  refine Tame.pure (v := ?_) (fun _ => by rfl) ?_ ?_ ?_
  rotate_left
  focus (intro p hp w hSw; go_simp <;> rfl)
  focus (intro w; exact .inl rfl)
  simp only [Act.put, List.setIfInBounds_toArray, List.set_cons_zero, List.set_cons_succ]
  refine Tame.pure (v := ?_) (fun _ => by rfl) ?_ ?_ ?_
  rotate_left
  focus (intro p hp w hSw; go_simp <;> rfl)
  focus (intro w; exact .inl rfl)
  simp only [Act.put, List.setIfInBounds_toArray, List.set_cons_zero, List.set_cons_succ]
  refine Tame.pure (v := ?_) (fun _ => by rfl) ?_ ?_ ?_
  rotate_left
  focus (intro p hp w hSw; go_simp <;> rfl)
  focus (intro w; exact .inl rfl)
  simp only [Act.put, List.setIfInBounds_toArray, List.set_cons_zero, List.set_cons_succ]
  refine Tame.pure (v := ?_) (fun _ => by rfl) ?_ ?_ ?_
  rotate_left
  focus (intro p hp w hSw; go_simp <;> rfl)
  focus (intro w; exact .inl rfl)
  simp only [Act.put, List.setIfInBounds_toArray, List.set_cons_zero, List.set_cons_succ]
  refine Tame.pure (v := ?_) (fun _ => by rfl) ?_ ?_ ?_
  rotate_left
  focus (intro p hp w hSw; go_simp <;> rfl)
  focus (intro w; exact .inl rfl)
  simp only [Act.put, List.setIfInBounds_toArray, List.set_cons_zero, List.set_cons_succ]
  refine Tame.pure (v := ?_) (fun _ => by rfl) ?_ ?_ ?_
  rotate_left
  focus (intro p hp w hSw; go_simp <;> rfl)
  focus (intro w; exact .inl rfl)
  simp only [Act.put, List.setIfInBounds_toArray, List.set_cons_zero, List.set_cons_succ]
  refine Tame.load (fun _ => by rfl) _ rfl (fun _ => rfl) (fun _ h => by go_split_ands; assumption) (fun _ => .inl rfl) ?_
  simp only [Act.put, List.setIfInBounds_toArray, List.set_cons_zero, List.set_cons_succ]
  refine Tame.pure (v := ?_) (fun _ => by rfl) ?_ ?_ ?_
  rotate_left
  focus (intro p hp w hSw; go_simp <;> rfl)
  focus (intro w; exact .inl rfl)
  simp only [Act.put, List.setIfInBounds_toArray, List.set_cons_zero, List.set_cons_succ]
  refine Tame.call2 (fun _ => by rfl) rfl (fun _ => rfl) (fun _ => rfl) (by kernel_rfl) (fun _ => .inl rfl) (fun _ w _ _ _ => head4 w) ?_
  simp only [Act.put, List.setIfInBounds_toArray, List.set_cons_zero, List.set_cons_succ]
  refine Tame.pure (v := ?_) (fun _ => by rfl) ?_ ?_ ?_
  rotate_left
  focus (intro p hp w hSw; go_simp <;> rfl)
  focus (intro w; exact .inl rfl)
  simp only [Act.put, List.setIfInBounds_toArray, List.set_cons_zero, List.set_cons_succ]
  refine Tame.pure (v := ?_) (fun _ => by rfl) ?_ ?_ ?_
  rotate_left
  focus (intro p hp w hSw; go_simp <;> rfl)
  focus (intro w; exact .inl rfl)
  simp only [Act.put, List.setIfInBounds_toArray, List.set_cons_zero, List.set_cons_succ]
  refine Tame.load (fun _ => by rfl) _ rfl (fun _ => rfl) (fun _ h => by go_split_ands; assumption) (fun _ => .inl rfl) ?_
  simp only [Act.put, List.setIfInBounds_toArray, List.set_cons_zero, List.set_cons_succ]
  refine Tame.pure (v := ?_) (fun _ => by rfl) ?_ ?_ ?_
  rotate_left
  focus (intro p hp w hSw; go_simp <;> rfl)
  focus (intro w; exact .inl rfl)
  simp only [Act.put, List.setIfInBounds_toArray, List.set_cons_zero, List.set_cons_succ]
  refine Tame.call2 (fun _ => by rfl) rfl (fun _ => rfl) (fun _ => rfl) (by kernel_rfl) (fun _ => .inl rfl) (fun _ w _ _ _ => head5 w) ?_
  simp only [Act.put, List.setIfInBounds_toArray, List.set_cons_zero, List.set_cons_succ]
  refine Tame.pure (v := ?_) (fun _ => by rfl) ?_ ?_ ?_
  rotate_left
  focus (intro p hp w hSw; go_simp <;> rfl)
  focus (intro w; exact .inl rfl)
  simp only [Act.put, List.setIfInBounds_toArray, List.set_cons_zero, List.set_cons_succ]
  refine Tame.pure (v := ?_) (fun _ => by rfl) ?_ ?_ ?_
  rotate_left
  focus (intro p hp w hSw; go_simp <;> rfl)
  focus (intro w; exact .inl rfl)
  simp only [Act.put, List.setIfInBounds_toArray, List.set_cons_zero, List.set_cons_succ]
  refine Tame.pure (v := ?_) (fun _ => by rfl) ?_ ?_ ?_
  rotate_left
  focus (intro p hp w hSw; go_simp <;> rfl)
  focus (intro w; exact .inl rfl)
  simp only [Act.put, List.setIfInBounds_toArray, List.set_cons_zero, List.set_cons_succ]
  refine Tame.load (fun _ => by rfl) _ rfl (fun _ => rfl) (fun _ h => by go_split_ands; assumption) (fun _ => .inl rfl) ?_
  simp only [Act.put, List.setIfInBounds_toArray, List.set_cons_zero, List.set_cons_succ]
  refine Tame.pure (v := ?_) (fun _ => by rfl) ?_ ?_ ?_
  rotate_left
  focus (intro p hp w hSw; go_simp <;> rfl)
  focus (intro w; exact .inl rfl)
  simp only [Act.put, List.setIfInBounds_toArray, List.set_cons_zero, List.set_cons_succ]
  refine Tame.call2 (fun _ => by rfl) rfl (fun _ => rfl) (fun _ => rfl) (by kernel_rfl) (fun _ => .inl rfl) (fun _ w _ _ _ => head6 w) ?_
  simp only [Act.put, List.setIfInBounds_toArray, List.set_cons_zero, List.set_cons_succ]
  refine Tame.pure (v := ?_) (fun _ => by rfl) ?_ ?_ ?_
  rotate_left
  focus (intro p hp w hSw; go_simp <;> rfl)
  focus (intro w; exact .inl rfl)
  simp only [Act.put, List.setIfInBounds_toArray, List.set_cons_zero, List.set_cons_succ]
  refine Tame.pure (v := ?_) (fun _ => by rfl) ?_ ?_ ?_
  rotate_left
  focus (intro p hp w hSw; go_simp <;> rfl)
  focus (intro w; exact .inl rfl)
  simp only [Act.put, List.setIfInBounds_toArray, List.set_cons_zero, List.set_cons_succ]
  refine Tame.load (fun _ => by rfl) _ rfl (fun _ => rfl) (fun _ h => by go_split_ands; assumption) (fun _ => .inl rfl) ?_
  simp only [Act.put, List.setIfInBounds_toArray, List.set_cons_zero, List.set_cons_succ]
  refine Tame.load (fun _ => by rfl) _ rfl (fun _ => rfl) (fun _ h => by go_split_ands; assumption) (fun _ => .inl rfl) ?_
  simp only [Act.put, List.setIfInBounds_toArray, List.set_cons_zero, List.set_cons_succ]
  refine Tame.load (fun _ => by rfl) _ rfl (fun _ => rfl) (fun _ h => by go_split_ands; assumption) (fun _ => .inl rfl) ?_
  simp only [Act.put, List.setIfInBounds_toArray, List.set_cons_zero, List.set_cons_succ]
  refine Tame.call2 (fun _ => by rfl) rfl (fun _ => rfl) (fun _ => rfl) (by kernel_rfl) (fun _ => .inl rfl) (fun _ w _ _ _ => head7 w) ?_
  simp only [Act.put, List.setIfInBounds_toArray, List.set_cons_zero, List.set_cons_succ]
  refine Tame.call2 (fun _ => by rfl) rfl (fun _ => rfl) (fun _ => rfl) (by kernel_rfl) (fun _ => .inl rfl) (fun _ w _ _ _ => head8 w) ?_
  simp only [Act.put, List.setIfInBounds_toArray, List.set_cons_zero, List.set_cons_succ]
  refine Tame.pure (v := ?_) (fun _ => by rfl) ?_ ?_ ?_
  rotate_left
  focus (intro p hp w hSw; go_simp <;> rfl)
  focus (intro w; exact .inl rfl)
  simp only [Act.put, List.setIfInBounds_toArray, List.set_cons_zero, List.set_cons_succ]
  refine Tame.pure (v := ?_) (fun _ => by rfl) ?_ ?_ ?_
  rotate_left
  focus (intro p hp w hSw; go_simp <;> rfl)
  focus (intro w; exact .inl rfl)
  simp only [Act.put, List.setIfInBounds_toArray, List.set_cons_zero, List.set_cons_succ]
  refine Tame.load (fun _ => by rfl) _ rfl (fun _ => rfl) (fun _ h => by go_split_ands; assumption) (fun _ => .inl rfl) ?_
  simp only [Act.put, List.setIfInBounds_toArray, List.set_cons_zero, List.set_cons_succ]
  refine Tame.load (fun _ => by rfl) _ rfl (fun _ => rfl) (fun _ h => by go_split_ands; assumption) (fun _ => .inl rfl) ?_
  simp only [Act.put, List.setIfInBounds_toArray, List.set_cons_zero, List.set_cons_succ]
  refine Tame.call2 (fun _ => by rfl) rfl (fun _ => rfl) (fun _ => rfl) (by kernel_rfl) (fun _ => .inl rfl) (fun _ w _ _ _ => head9 w) ?_
  simp only [Act.put, List.setIfInBounds_toArray, List.set_cons_zero, List.set_cons_succ]
  refine Tame.pure (v := ?_) (fun _ => by rfl) ?_ ?_ ?_
  rotate_left
  focus (intro p hp w hSw; go_simp <;> rfl)
  focus (intro w; exact .inl rfl)
  simp only [Act.put, List.setIfInBounds_toArray, List.set_cons_zero, List.set_cons_succ]
  refine Tame.pure (v := ?_) (fun _ => by rfl) ?_ ?_ ?_
  rotate_left
  focus (intro p hp w hSw; go_simp <;> rfl)
  focus (intro w; exact .inl rfl)
  simp only [Act.put, List.setIfInBounds_toArray, List.set_cons_zero, List.set_cons_succ]
  refine Tame.pure (v := ?_) (fun _ => by rfl) ?_ ?_ ?_
  rotate_left
  focus (intro p hp w hSw; go_simp <;> rfl)
  focus (intro w; exact .inl rfl)
  simp only [Act.put, List.setIfInBounds_toArray, List.set_cons_zero, List.set_cons_succ]
  refine Tame.load (fun _ => by rfl) _ rfl (fun _ => rfl) (fun _ h => by go_split_ands; assumption) (fun _ => .inl rfl) ?_
  simp only [Act.put, List.setIfInBounds_toArray, List.set_cons_zero, List.set_cons_succ]
  refine Tame.load (fun _ => by rfl) _ rfl (fun _ => rfl) (fun _ h => by go_split_ands; assumption) (fun _ => .inl rfl) ?_
  simp only [Act.put, List.setIfInBounds_toArray, List.set_cons_zero, List.set_cons_succ]
  refine Tame.call2 (fun _ => by rfl) rfl (fun _ => rfl) (fun _ => rfl) (by kernel_rfl) (fun _ => .inl rfl) (fun _ w _ _ _ => head10 w) ?_
  simp only [Act.put, List.setIfInBounds_toArray, List.set_cons_zero, List.set_cons_succ]
  refine Tame.load (fun _ => by rfl) _ rfl (fun _ => rfl) (fun _ h => by go_split_ands; assumption) (fun _ => .inl rfl) ?_
  simp only [Act.put, List.setIfInBounds_toArray, List.set_cons_zero, List.set_cons_succ]
  refine Tame.pure (v := ?_) (fun _ => by rfl) ?_ ?_ ?_
  rotate_left
  focus (intro p hp w hSw; go_simp <;> rfl)
  focus (intro w; exact .inl rfl)
  simp only [Act.put, List.setIfInBounds_toArray, List.set_cons_zero, List.set_cons_succ]
  refine Tame.pure (v := ?_) (fun _ => by rfl) ?_ ?_ ?_
  rotate_left
  focus (intro p hp w hSw; go_simp <;> rfl)
  focus (intro w; exact .inl rfl)
  simp only [Act.put, List.setIfInBounds_toArray, List.set_cons_zero, List.set_cons_succ]
  refine Tame.pure (v := ?_) (fun _ => by rfl) ?_ ?_ ?_
  rotate_left
  focus (intro p hp w hSw; go_simp <;> rfl)
  focus (intro w; exact .inl rfl)
  simp only [Act.put, List.setIfInBounds_toArray, List.set_cons_zero, List.set_cons_succ]
  refine Tame.load (fun _ => by rfl) _ rfl (fun _ => rfl) (fun _ h => by go_split_ands; assumption) (fun _ => .inl rfl) ?_
  simp only [Act.put, List.setIfInBounds_toArray, List.set_cons_zero, List.set_cons_succ]
  refine Tame.load (fun _ => by rfl) _ rfl (fun _ => rfl) (fun _ h => by go_split_ands; assumption) (fun _ => .inl rfl) ?_
  simp only [Act.put, List.setIfInBounds_toArray, List.set_cons_zero, List.set_cons_succ]
  refine Tame.load (fun _ => by rfl) _ rfl (fun _ => rfl) (fun _ h => by go_split_ands; assumption) (fun _ => .inl rfl) ?_
  simp only [Act.put, List.setIfInBounds_toArray, List.set_cons_zero, List.set_cons_succ]
  refine Tame.call2 (fun _ => by rfl) rfl (fun _ => rfl) (fun _ => rfl) (by kernel_rfl) (fun _ => .inl rfl) (fun _ w _ _ _ => head7 w) ?_
  simp only [Act.put, List.setIfInBounds_toArray, List.set_cons_zero, List.set_cons_succ]
  refine Tame.callNew2 isSl ⟨.slice none 0 0, rfl⟩ (fun _ => by rfl) rfl (fun _ => rfl) (fun _ => rfl) (by kernel_rfl) (fun _ w _ _ _ => (head12 w).mono fun e w' ⟨v, he, hd, hb⟩ => ⟨v, he, hd.isSl, .inr hd, hb⟩) ?_
  simp only [Act.put, List.setIfInBounds_toArray, List.set_cons_zero, List.set_cons_succ]
  refine Tame.pure (v := ?_) (fun _ => by rfl) ?_ ?_ ?_
  rotate_left
  focus (intro p hp w hSw; go_simp <;> rfl)
  focus (intro w; exact .inl rfl)
  simp only [Act.put, List.setIfInBounds_toArray, List.set_cons_zero, List.set_cons_succ]
  refine Tame.fresh isSl ⟨.slice none 0 0, rfl⟩ (fun p hp => .inl ⟨by rfl, fun w hS ht => ?_⟩) ?_
  focus (rw [build_one rfl rfl w]; exact ⟨rfl, .inr (dhas_new w), (Below.refl _ _).alloc (Nat.le_refl _) _⟩)
  simp only [Act.put, List.setIfInBounds_toArray, List.set_cons_zero, List.set_cons_succ]
  refine Tame.call2 (fun _ => by rfl) rfl (fun _ => rfl) (fun _ => rfl) (by kernel_rfl) (fun _ => .inl rfl) (fun p w hp hS ht => dots_same _ _ [(2, 1)] w (sl_dhas hp.1.2 (ht 77 (by simp [Op.operands, Call.operands]))) (sl_dhas hp.2 (ht 79 (by simp [Op.operands, Call.operands])))) ?_
  simp only [Act.put, List.setIfInBounds_toArray, List.set_cons_zero, List.set_cons_succ]
  refine Tame.pure (v := ?_) (fun _ => by rfl) ?_ ?_ ?_
  rotate_left
  focus (intro p hp w hSw; go_simp <;> rfl)
  focus (intro w; exact .inl rfl)
  simp only [Act.put, List.setIfInBounds_toArray, List.set_cons_zero, List.set_cons_succ]
  refine Tame.pure (v := ?_) (fun _ => by rfl) ?_ ?_ ?_
  rotate_left
  focus (intro p hp w hSw; go_simp <;> rfl)
  focus (intro w; exact .inl rfl)
  simp only [Act.put, List.setIfInBounds_toArray, List.set_cons_zero, List.set_cons_succ]
  refine Tame.load (fun _ => by rfl) _ rfl (fun _ => rfl) (fun _ h => by go_split_ands; assumption) (fun _ => .inl rfl) ?_
  simp only [Act.put, List.setIfInBounds_toArray, List.set_cons_zero, List.set_cons_succ]
  refine Tame.load (fun _ => by rfl) _ rfl (fun _ => rfl) (fun _ h => by go_split_ands; assumption) (fun _ => .inl rfl) ?_
  simp only [Act.put, List.setIfInBounds_toArray, List.set_cons_zero, List.set_cons_succ]
  refine Tame.call2 (fun _ => by rfl) rfl (fun _ => rfl) (fun _ => rfl) (by kernel_rfl) (fun _ => .inl rfl) (fun _ w _ _ _ => head7 w) ?_
  simp only [Act.put, List.setIfInBounds_toArray, List.set_cons_zero, List.set_cons_succ]
  refine Tame.call1 (fun _ => by rfl) rfl (fun _ => rfl) (by kernel_rfl) (fun _ => .inl rfl) (fun _ w _ _ _ => head15 w) ?_
  simp only [Act.put, List.setIfInBounds_toArray, List.set_cons_zero, List.set_cons_succ]
  refine Tame.pure (v := ?_) (fun _ => by rfl) ?_ ?_ ?_
  rotate_left
  focus (intro p hp w hSw; go_simp <;> rfl)
  focus (intro w; exact .inl rfl)
  simp only [Act.put, List.setIfInBounds_toArray, List.set_cons_zero, List.set_cons_succ]
  refine Tame.pure (v := ?_) (fun _ => by rfl) ?_ ?_ ?_
  rotate_left
  focus (intro p hp w hSw; go_simp <;> rfl)
  focus (intro w; exact .inl rfl)
  simp only [Act.put, List.setIfInBounds_toArray, List.set_cons_zero, List.set_cons_succ]
  refine Tame.pure (v := ?_) (fun _ => by rfl) ?_ ?_ ?_
  rotate_left
  focus (intro p hp w hSw; go_simp <;> rfl)
  focus (intro w; exact .inl rfl)
  simp only [Act.put, List.setIfInBounds_toArray, List.set_cons_zero, List.set_cons_succ]
  refine Tame.load (fun _ => by rfl) _ rfl (fun _ => rfl) (fun _ h => by go_split_ands; assumption) (fun _ => .inl rfl) ?_
  simp only [Act.put, List.setIfInBounds_toArray, List.set_cons_zero, List.set_cons_succ]
  refine Tame.call1 (fun _ => by rfl) rfl (fun _ => rfl) (by kernel_rfl) (fun _ => .inl rfl) (fun _ w _ _ _ => head16 w) ?_
  simp only [Act.put, List.setIfInBounds_toArray, List.set_cons_zero, List.set_cons_succ]
  refine Tame.pure (v := ?_) (fun _ => by rfl) ?_ ?_ ?_
  rotate_left
  focus (intro p hp w hSw; go_simp <;> rfl)
  focus (intro w; exact .inl rfl)
  simp only [Act.put, List.setIfInBounds_toArray, List.set_cons_zero, List.set_cons_succ]
  refine Tame.pure (v := ?_) (fun _ => by rfl) ?_ ?_ ?_
  rotate_left
  focus (intro p hp w hSw; go_simp <;> rfl)
  focus (intro w; exact .inl rfl)
  simp only [Act.put, List.setIfInBounds_toArray, List.set_cons_zero]
  refine Tame.done fun p hp w9 hS => ?_
  obtain ⟨_, _, _, hbel9⟩ := hS
  go_wp2
  go_ret
  exact ⟨rfl, hbel9⟩

end Go.Proofs.Ytbeehmcoeblbcaa
