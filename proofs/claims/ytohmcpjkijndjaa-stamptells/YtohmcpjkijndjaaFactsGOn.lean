import Derived.Test.YtohmcpjkijndjaaOwedOn
import Derived.Test.YtohmcpjkijndjaaRows
import Derived.Test.YtohmcpjkijndjaaCalmOn
/- A region that draws its order, by a fact of each operation: also where operations are guarded, and where what two operations came to stands in a relation (two new boxes are not one). Nothing of one program. -/
namespace Go.Proofs.Ytohmcpjkijndjaa.FactsG
open Go.RowKit Facts

section
variable {P : Program} {Q : Exit → Act → World → Prop} {S : World → Prop} {md : Region.Mode} {A : (Nat → Value) → Act} {F : List Fact} {l : List Oper} {R : Nat → Nat → Value → Value → Prop}

def downB (md : Region.Mode) (l : List Oper) : Bool := l.zipIdx.all fun (o, i) => o.after.all fun e => !Region.binds md e || decide (e.on < i)
theorem downB_spec (h : downB md l = true) {i : Nat} {o : Oper} (hi : l[i]? = some o) : ∀ e ∈ o.after, Region.binds md e = true → e.on < i := by
  have hm : (o, i) ∈ l.zipIdx := by
    rw [List.mem_zipIdx_iff_getElem?]
    exact hi
  have := List.all_eq_true.1 h _ hm
  exact fun e he hb => by have := Array.all_eq_true_iff_forall_mem.1 this e he; simpa [hb] using this
theorem ready_of_least (h : downB md l = true) {listed : Array Bool} (hs : listed.size = l.length) {n : Nat} (hn : n < l.length) (hun : listed.getD n true = false) : ∃ j, j ∈ Region.ready md l.toArray listed := by
  induction n using Nat.strongRecOn with
  | _ n ih =>
    by_cases hall : ∀ m, m < n → listed.getD m true = true
    · refine ⟨n, mem_ready.2 ⟨hun, l[n], by simp, fun e he hbd => ?_⟩⟩
      have hlt := downB_spec h (List.getElem?_eq_getElem hn) e he hbd
      have := hall e.on hlt
      have hb : e.on < listed.size := by omega
      simpa [hb] using this
    · simp only [Classical.not_forall] at hall
      obtain ⟨m, hm, hf⟩ := hall
      exact ih m hm (by omega) (by simpa using hf)

theorem wpOp_mono {ops : Array Oper} {i : Nat} {K K' : Act → World → Prop} {a : Act} {w : World} (hK : ∀ a w, K a w → K' a w) (h : Go.wpOp P ops Q i K a w) : Go.wpOp P ops Q i K' a w := by
  unfold Go.wpOp at *
  cases ho : ops[i]? with
  | none =>
    simp only [ho] at h ⊢
    exact hK _ _ h
  | some o =>
    simp only [ho] at h ⊢
    split
    · rename_i hw
      rw [if_pos hw] at h
      rcases h with h | h
      · exact .inl (Oper.wp_mono hK h)
      · exact .inr h
    · rename_i hw
      rw [if_neg hw] at h
      exact hK _ _ h

/-- What an operation is asked for. -/
def StepOk (P : Program) (md : Region.Mode) (l : List Oper) (Q : Exit → Act → World → Prop) (S : World → Prop) (A : (Nat → Value) → Act) (F : List Fact) (R : Nat → Nat → Value → Value → Prop) (i : Nat) (o : Oper) : Prop :=
  ∀ x w, S w → (∀ e ∈ o.after, Region.binds md e = true → ∀ f, F[e.on]? = some f → holds f x w) → (∀ e ∈ o.after, Region.binds md e = true → ∀ e' ∈ o.after, Region.binds md e' = true → e.on ≠ e'.on → R e.on e'.on (x e.on) (x e'.on)) →
    Go.wpOp P l.toArray Q i (fun a' w' => ∃ u, a' = A (put x i u) ∧ S w' ∧ (∀ f, F[i]? = some f → holds f (put x i u) w') ∧ (∀ j f, j ≠ i → F[j]? = some f → holds f x w → holds f x w') ∧ (∀ j f, j ≠ i → F[j]? = some f → holds f x w → R i j u (x j))) (A x) w

def Inv (md : Region.Mode) (l : List Oper) (S : World → Prop) (A : (Nat → Value) → Act) (F : List Fact) (R : Nat → Nat → Value → Value → Prop) (L : Nat → Bool) (a : Act) (w : World) : Prop :=
  S w ∧ (∀ i o, l[i]? = some o → L i = true → ∀ e ∈ o.after, Region.binds md e = true → L e.on = true) ∧
    ∃ x, a = A x ∧ (∀ i f, i < l.length → F[i]? = some f → L i = true → holds f x w) ∧ ∀ i j, i < l.length → j < l.length → i ≠ j → L i = true → L j = true → R i j (x i) (x j)

theorem wpAny_inv (hd : downB md l = true) (D : List (List Nat)) (hD : F.map (·.1) = D) (hlen : D.length = l.length) (hl : nearB md l D = true) (hR : ∀ i j u v, R i j u v → R j i v u) (hstep : Owed.each (StepOk P md l Q S A F R) 0 l)
    (hend : ∀ x w', S w' → (∀ i f, i < l.length → F[i]? = some f → holds f x w') → (∀ i j, i < l.length → j < l.length → i ≠ j → R i j (x i) (x j)) → Q .normal (A x) w') :
    ∀ (fuel : Nat) (listed : Array Bool) (a : Act) (w : World), listed.size = l.length → Owed.left listed ≤ fuel → Inv md l S A F R (fun i => listed.getD i true) a w → wpAny P md l.toArray Q fuel listed a w := by
  have hFl : F.length = l.length := by rw [← hlen, ← hD, List.length_map]
  have fin : ∀ (listed : Array Bool) (a : Act) (w : World), listed.size = l.length → Region.ready md l.toArray listed = [] → Inv md l S A F R (fun i => listed.getD i true) a w → Q .normal a w := fun listed a w hs hr h => by
    have all : ∀ i, i < l.length → listed.getD i true = true := fun i hi => by
      cases hv : listed.getD i true
      · obtain ⟨j, hj⟩ := ready_of_least (md := md) hd hs hi hv
        rw [hr] at hj
        cases hj
      · rfl
    obtain ⟨hS, _, x, rfl, hf, hrel⟩ := h
    exact hend x w hS (fun i f hi hfi => hf i f hi hfi (all i hi)) (fun i j hi hj hij => hrel i j hi hj hij (all i hi) (all j hj))
  intro fuel
  induction fuel with
  | zero =>
    intro listed a w hs hle h
    have hr : Region.ready md l.toArray listed = [] := by
      cases hr : Region.ready md l.toArray listed with
      | nil => rfl
      | cons i r =>
        have hun := (mem_ready.1 (show i ∈ Region.ready md l.toArray listed by rw [hr]; simp)).1
        have := Owed.left_set hun
        omega
    exact ⟨hr, fin listed a w hs hr h⟩
  | succ fuel ih =>
    intro listed a w hs hle h
    refine ⟨fun hr => fin listed a w hs hr h, fun i hi => ?_⟩
    obtain ⟨hun, o, ho, hall⟩ := mem_ready.1 hi
    have ho' : l[i]? = some o := by simpa using ho
    have hilt : i < l.length := (List.getElem?_eq_some_iff.1 ho').1
    have hst := Owed.each_at l 0 i o hstep ho'
    rw [Nat.zero_add] at hst
    obtain ⟨hS, hc, x, rfl, hf, hrel⟩ := h
    have hdep : ∀ e ∈ o.after, Region.binds md e = true → listed.getD e.on true = true ∧ e.on < l.length := fun e he hb => by
      have h1 := hall e he hb
      rcases Nat.lt_or_ge e.on listed.size with h' | h'
      · exact ⟨by simpa [h'] using h1, by omega⟩
      · simp [Array.getElem?_eq_none h'] at h1
    have old : ∀ j, j ≠ i → (listed.setIfInBounds i true).getD j true = listed.getD j true := fun j hj => getD_set_ne true (Ne.symm hj)
    refine wpOp_mono (fun a' w' h' => ?_) (hst x w hS (fun e he hb f hfe => hf e.on f (hdep e he hb).2 hfe (hdep e he hb).1) (fun e he hb e' he' hb' hne => hrel _ _ (hdep e he hb).2 (hdep e' he' hb').2 hne (hdep e he hb).1 (hdep e' he' hb').1))
    obtain ⟨u, rfl, hS', hfi, hoth, hrl⟩ := h'
    refine ih _ _ w' (by simp [hs]) (by have := Owed.left_set hun; omega) ⟨hS', fun j o' hj hLj e he hb => ?_, put x i u, rfl, fun j f hj hfj hLj => ?_, fun j k hj hk hjk hLj hLk => ?_⟩
    · by_cases e0 : e.on = i
      · rw [e0]
        have : i < listed.size := by omega
        simp [this]
      · show (listed.setIfInBounds i true).getD e.on true = true
        rw [old _ e0]
        by_cases e1 : j = i
        · subst e1
          obtain rfl : o = o' := by rw [ho'] at hj; exact Option.some.inj hj
          exact (hdep e he hb).1
        · refine hc j o' hj ?_ e he hb
          show listed.getD j true = true
          rw [← old j e1]
          exact hLj
    · by_cases e1 : j = i
      · subst e1; exact hfi f hfj
      · have hLj' : listed.getD j true = true := by rw [← old j e1]; exact hLj
        have h1 := hoth j f e1 hfj (hf j f hj hfj hLj')
        have e2 : f.1.map (put x i u) = f.1.map x := by
          apply List.map_congr_left
          intro k hk
          have hj' : l[j]? = some l[j] := List.getElem?_eq_getElem hj
          have hki : k ≠ i := by
            rcases nearB_spec hl hj' (by rw [← hD, List.getElem?_map, hfj]; rfl) hk with rfl | ⟨e, he, rfl, hb⟩
            · exact e1
            · intro h2
              have h3 : listed.getD e.on true = true := hc j _ hj' hLj' e he hb
              rw [h2, hun] at h3; cases h3
          simp [put, hki]
        unfold holds at *
        rw [e2]
        exact h1
    · have get : ∀ j, j < l.length → ∃ f, F[j]? = some f := fun j hj => ⟨F[j]'(by omega), List.getElem?_eq_getElem _⟩
      by_cases e1 : j = i
      · subst e1
        have hkj : k ≠ j := Ne.symm hjk
        have hLk' : listed.getD k true = true := by rw [← old k hkj]; exact hLk
        obtain ⟨f, hfk⟩ := get k hk
        have := hrl k f hkj hfk (hf k f hk hfk hLk')
        simpa [put, hkj] using this
      · have hLj' : listed.getD j true = true := by rw [← old j e1]; exact hLj
        by_cases e2 : k = i
        · subst e2
          obtain ⟨f, hfj⟩ := get j hj
          have := hR _ _ _ _ (hrl j f e1 hfj (hf j f hj hfj hLj'))
          simpa [put, e1] using this
        · have hLk' : listed.getD k true = true := by rw [← old k e2]; exact hLk
          have := hrel j k hj hk hjk hLj' hLk'
          simpa [put, e1, e2] using this

theorem region {id : Nat} {a : Act} {w : World} (hm : P.follows .mixedOrders = true) (hd : downB .any l = true) (S : World → Prop) (A : (Nat → Value) → Act) (F : List Fact) (R : Nat → Nat → Value → Value → Prop) (hR : ∀ i j u v, R i j u v → R j i v u)
    (D : List (List Nat)) (hD : F.map (·.1) = D) (hlen : D.length = l.length) (hl : nearB .any l D = true)
    (x0 : Nat → Value) (hA : a = A x0) (h0 : S w.drew) (hstep : Owed.each (StepOk P .any l Q S A F R) 0 l)
    (hend : ∀ x w', S w' → (∀ i f, i < l.length → F[i]? = some f → holds f x w') → (∀ i j, i < l.length → j < l.length → i ≠ j → R i j (x i) (x j)) → Q .normal (A x) w') : (Code.region id l.toArray true).wp P Q a w := by
  refine wp_region_any hm ?_
  refine wpAny_inv (md := .any) hd D hD hlen hl hR hstep hend l.toArray.size (Array.replicate l.toArray.size false) a w.drew (by simp) (by simp [Owed.left]) ⟨h0, fun i o hi hLi => ?_, x0, hA, fun i f hi _ hLi => ?_, fun i j hi _ _ hLi => ?_⟩
  · have : i < l.length := (List.getElem?_eq_some_iff.1 hi).1
    simp [this] at hLi
  · simp [hi] at hLi
  · simp [hi] at hLi

/-- By a step without guard and relation, where the guard lets it through. -/
theorem of {i : Nat} {o : Oper} (hi : l[i]? = some o) (hR : ∀ j u v, R i j u v)
    (hw : ∀ x w, S w → (∀ e ∈ o.after, Region.binds md e = true → ∀ f, F[e.on]? = some f → holds f x w) → Region.wanted o (yielded l.toArray (A x).tmps) = true)
    (h : Facts.StepOk P md Q S A F i o) : StepOk P md l Q S A F R i o := by
  intro x w hS hdep _
  unfold Go.wpOp
  have hi' : l.toArray[i]? = some o := by simpa using hi
  simp only [hi', hw x w hS hdep, if_true]
  refine .inl (Oper.wp_mono (fun a' w' hh => ?_) (h x w hS hdep))
  obtain ⟨u, h1, h2, h3, h4⟩ := hh
  exact ⟨u, h1, h2, h3, h4, fun j _ _ _ _ => hR j u _⟩
/-- The same, with the relation. -/
theorem ofR {i : Nat} {o : Oper} (hi : l[i]? = some o)
    (hw : ∀ x w, S w → (∀ e ∈ o.after, Region.binds md e = true → ∀ f, F[e.on]? = some f → holds f x w) → Region.wanted o (yielded l.toArray (A x).tmps) = true)
    (h : ∀ x w, S w → (∀ e ∈ o.after, Region.binds md e = true → ∀ f, F[e.on]? = some f → holds f x w) → (∀ e ∈ o.after, Region.binds md e = true → ∀ e' ∈ o.after, Region.binds md e' = true → e.on ≠ e'.on → R e.on e'.on (x e.on) (x e'.on)) →
      o.wp P (A x) w (fun a' w' => ∃ u, a' = A (put x i u) ∧ S w' ∧ (∀ f, F[i]? = some f → holds f (put x i u) w') ∧ (∀ j f, j ≠ i → F[j]? = some f → holds f x w → holds f x w') ∧ (∀ j f, j ≠ i → F[j]? = some f → holds f x w → R i j u (x j))) Q) : StepOk P md l Q S A F R i o := by
  intro x w hS hdep hrel
  unfold Go.wpOp
  have hi' : l.toArray[i]? = some o := by simpa using hi
  simp only [hi', hw x w hS hdep, if_true]
  exact .inl (h x w hS hdep hrel)
end
end Go.Proofs.Ytohmcpjkijndjaa.FactsG
/- Facts of operations that load, store and answer trees, in a region that draws its order, guarded or not, with several new boxes. -/
namespace Go.Proofs.Ytohmcpjkijndjaa
open Go.RowKit

/-- New boxes (the operations of al) are not one. -/
def NotOne (al : List Nat) (i j : Nat) (u v : Value) : Prop := i ∈ al → j ∈ al → u ≠ v
theorem notOne_symm (al : List Nat) : ∀ i j u v, NotOne al i j u v → NotOne al j i v u := fun _ _ _ _ h hj hi => (h hi hj).symm

section
variable {Q : Exit → Act → World → Prop} {S : World → Prop} {md : Region.Mode} {A : (Nat → Value) → Act} {F : List Facts.Fact} {i : Nat} {o : Oper} {l : List Oper} {al : List Nat}
/-- A function answers a value that is known. -/
theorem Facts.call1V (hS : Calm.Stays S) (hF : Facts.Stay F) (hA : ∀ x u, (A x).put o.dst u = A (Facts.put x i u)) {fn : FuncId} {ts : Array TypeId} {u : Operand} (ho : o.op = .call { callee := .value (.func fn), args := #[u], argTypes := ts }) (hf : Calm.enters Try.prog fn = true) {v : Value} (hz : F[i]? = some (eqF i v))
    (h : ∀ x w, S w → (∀ e ∈ o.after, Region.binds md e = true → ∀ f, F[e.on]? = some f → Facts.holds f x w) → Calls Try.prog fn #[(A x).eval u] w fun e w' => e = .returned v ∧ Below w.heap.size w w') : Facts.StepOk Try.prog md Q S A F i o :=
  Facts.call (f := fn) hS hF hA fun x w hSw hdep => ⟨#[(A x).eval u], by
    have e : ∀ args, (callFunc fn args).run Try.prog w = .ok (.enter fn args) w := fun args => Calm.enters_run hf args w
    unfold execOp
    simp [ho, go_sem, Act.eval, e], (h x w hSw hdep).mono fun e w' ⟨he, hb⟩ => ⟨_, he, hb, fun f hf' => by
      rw [hz] at hf'
      obtain rfl := Option.some.inj hf'
      simp [Facts.holds, eqF, Facts.put]⟩⟩
theorem Facts.call2V (hS : Calm.Stays S) (hF : Facts.Stay F) (hA : ∀ x u, (A x).put o.dst u = A (Facts.put x i u)) {fn : FuncId} {ts : Array TypeId} {u v' : Operand} (ho : o.op = .call { callee := .value (.func fn), args := #[u, v'], argTypes := ts }) (hf : Calm.enters Try.prog fn = true) {v : Value} (hz : F[i]? = some (eqF i v))
    (h : ∀ x w, S w → (∀ e ∈ o.after, Region.binds md e = true → ∀ f, F[e.on]? = some f → Facts.holds f x w) → Calls Try.prog fn #[(A x).eval u, (A x).eval v'] w fun e w' => e = .returned v ∧ Below w.heap.size w w') : Facts.StepOk Try.prog md Q S A F i o :=
  Facts.call (f := fn) hS hF hA fun x w hSw hdep => ⟨#[(A x).eval u, (A x).eval v'], by
    have e : ∀ args, (callFunc fn args).run Try.prog w = .ok (.enter fn args) w := fun args => Calm.enters_run hf args w
    unfold execOp
    simp [ho, go_sem, Act.eval, e], (h x w hSw hdep).mono fun e w' ⟨he, hb⟩ => ⟨_, he, hb, fun f hf' => by
      rw [hz] at hf'
      obtain rfl := Option.some.inj hf'
      simp [Facts.holds, eqF, Facts.put]⟩⟩
theorem Facts.call3T (hS : Calm.Stays S) (hF : Facts.Stay F) (hA : ∀ x u, (A x).put o.dst u = A (Facts.put x i u)) {fn : FuncId} {ts : Array TypeId} {u v t : Operand} (ho : o.op = .call { callee := .value (.func fn), args := #[u, v, t], argTypes := ts }) (hf : Calm.enters Try.prog fn = true) {z : EV} (hz : F[i]? = some (isF i z))
    (h : ∀ x w, S w → (∀ e ∈ o.after, Region.binds md e = true → ∀ f, F[e.on]? = some f → Facts.holds f x w) → Calls Try.prog fn #[(A x).eval u, (A x).eval v, (A x).eval t] w (Gives z w)) : Facts.StepOk Try.prog md Q S A F i o :=
  Facts.call (f := fn) hS hF hA fun x w hSw hdep => ⟨#[(A x).eval u, (A x).eval v, (A x).eval t], by
    have e : ∀ args, (callFunc fn args).run Try.prog w = .ok (.enter fn args) w := fun args => Calm.enters_run hf args w
    unfold execOp
    simp [ho, go_sem, Act.eval, e], (h x w hSw hdep).mono fun e w' ⟨n, p, l, c, he, hi, hb⟩ => ⟨_, he, hb, fun f hf' => by
      rw [hz] at hf'
      obtain rfl := Option.some.inj hf'
      exact isF_put hi⟩⟩
/-- A new box, among others. -/
theorem FactsG.allocT (hi : l[i]? = some o) (hg : o.guard = none) (hS : Calm.Stays S) (hF : Facts.Stay F) (hA : ∀ x u, (A x).put o.dst u = A (Facts.put x i u)) (ho : o.op = .alloc 24) {N : Nat} (hz : F[i]? = some (alF i N)) (hN : ∀ w, S w → N ≤ w.heap.size)
    (hal : ∀ (j : Nat) (f : Facts.Fact), F[j]? = some f → j ∈ al → ∃ N, f = alF j N) : FactsG.StepOk Try.prog md l Q S A F (NotOne al) i o :=
  FactsG.ofR hi (fun _ _ _ _ => by simp [Region.wanted, hg]) fun x w hSw hdep _ => by
    have hr : (execOp (A x).eval o).run Try.prog w = .ok (.value (.pointer (some ⟨w.heap.size, 0, none⟩))) (w.alloc (.cells #[.int .i64 0, .slice none 0 0] 24)) := by
      unfold execOp
      generalize (A x).eval = ρ
      simp [ho, go_sem]
    have hb : Below w.heap.size w (w.alloc (.cells #[.int .i64 0, .slice none 0 0] 24)) := (Below.refl _ _).alloc (Nat.le_refl _) _
    unfold Oper.wp
    rw [hr]
    refine ⟨_, hA x _, hS _ _ hSw hb, fun f hf' => ?_, fun j f _ hj hh => hF j f hj _ _ _ hh hb, fun j f _ hj hh _ hjal => ?_⟩
    · rw [hz] at hf'
      obtain rfl := Option.some.inj hf'
      exact ⟨w.heap.size, 0, none, 0, 0, by simp [Facts.put, alF], hN w hSw, bx_new w 0 none 0 0⟩
    · obtain ⟨N', rfl⟩ := hal j f hj hjal
      obtain ⟨q, n, p, l, c, e, _, hq⟩ := alF_get hh
      rw [e]
      have := hq.lt
      intro h
      simp only [Value.pointer.injEq, Option.some.injEq, Addr.mk.injEq] at h
      omega
theorem sbF_other {m k N : Nat} {z : EV} {x : Nat → Value} {w : World} {q : Nat} {n : Int} {p : Option Addr} {l c : Nat} (h : Facts.holds (sbF m k N z) x w) (hne : x m ≠ .pointer (some ⟨q, 0, none⟩)) (hq : ∃ n p l c, Bx w q n p l c) : Facts.holds (sbF m k N z) x (w.setRow q #[.int .i64 n, .slice p l c]) := by
  obtain ⟨q', n', p', l', c', e, hN, hb, hi⟩ := h
  obtain ⟨_, _, _, _, hq⟩ := hq
  have e' := e
  simp only [sbF, List.map_cons, List.map_nil, List.cons.injEq, and_true] at e'
  refine ⟨q', n', p', l', c', e, hN, hb.rowOther (fun h => hne ?_) _, hi.box hq _⟩
  rw [e'.1, h]
/-- A tree that operation k came to is stored in the new box that operation m made, among others. -/
theorem FactsG.storeP (hi : l[i]? = some o) (hg : o.guard = none) (hial : i ∉ al) (hA : ∀ x u, (A x).put o.dst u = A (Facts.put x i u)) (u v : Operand) (ho : o.op = .store 24 u v) {m k N : Nat} {z : EV} (hmi : m ≠ i) (hki : k ≠ i) (hz : F[i]? = some (sbF m k N z))
    (hx : ∀ x, (A x).eval u = x m) (hy : ∀ x, (A x).eval v = x k) (hm : ∀ x w, S w → (∀ e ∈ o.after, Region.binds md e = true → ∀ f, F[e.on]? = some f → Facts.holds f x w) → Facts.holds (alF m N) x w ∧ Facts.holds (isF k z) x w)
    (hb : ∀ w q n p l c n' p' l' c', S w → N ≤ q → Bx w q n' p' l' c' → S (w.setRow q #[.int .i64 n, .slice p l c]))
    (hoth : ∀ x w q n p l c, (∀ e ∈ o.after, Region.binds md e = true → ∀ e' ∈ o.after, Region.binds md e' = true → e.on ≠ e'.on → NotOne al e.on e'.on (x e.on) (x e'.on)) → x m = .pointer (some ⟨q, 0, none⟩) → N ≤ q → (∃ n p l c, Bx w q n p l c) →
      ∀ (j : Nat) (f : Facts.Fact), j ≠ i → F[j]? = some f → Facts.holds f x w → Facts.holds f x (w.setRow q #[.int .i64 n, .slice p l c])) : FactsG.StepOk Try.prog md l Q S A F (NotOne al) i o :=
  FactsG.ofR hi (fun _ _ _ _ => by simp [Region.wanted, hg]) fun x w hSw hdep hrel => by
    obtain ⟨h1, h2⟩ := hm x w hSw hdep
    obtain ⟨q, n0, p0, l0, c0, eq, hq, hbx⟩ := alF_get h1
    obtain ⟨n, p, l, c, e, hi⟩ := isF_get h2
    refine wp_store_t u v ho q n p l c ((hx x).trans eq) ((hy x).trans e) hbx ?_
    refine ⟨undef, hA x undef, hb w q n p l c _ _ _ _ hSw hq hbx, fun f hf' => ?_, fun j f hj hfj hh => hoth x w q n p l c hrel eq hq ⟨_, _, _, _, hbx⟩ j f hj hfj hh, fun j f _ _ _ h => absurd h hial⟩
    rw [hz] at hf'
    obtain rfl := Option.some.inj hf'
    exact ⟨q, n, p, l, c, by simp [Facts.put, sbF, hki, hmi, e, eq], hq, hbx.row n p l c, hi.box hbx _⟩
end
end Go.Proofs.Ytohmcpjkijndjaa
/- A tree by value (a number, and a slice of trees), in a box of its own and at a place of a row; what a binary one is in memory (Is), and a tree of any form (Lies). Nothing of one function. -/
namespace Go.Proofs.Ytohmcpjkijndjaa.Idn
open Go.ChangeShapes Go.WideShapes Go.ChangeAt Go.RowKit

/-! Trees. -/
/-- A binary tree of leaves that own nothing, or all. -/
structure ID where
  mk ::
  sub : Bool ⊕ (ID × ID)
abbrev ID.leaf (b : Bool) : ID := ⟨.inl b⟩
abbrev ID.node (x y : ID) : ID := ⟨.inr (x, y)⟩
def bi (b : Bool) : Int := if b then 1 else 0
/-- The value v, in w, is the binary tree x. -/
def Is (w : World) : ID → Value → Prop
  | ⟨.inl b⟩, v => ∃ p c, v = TV (bi b) p 0 c
  | ⟨.inr (x, y)⟩, v => ∃ g o c n0 p0 l0 c0 n1 p1 l1 c1, v = TV 0 (some ⟨g, o, none⟩) 2 c ∧ Tat w g o n0 p0 l0 c0 ∧ Tat w g (o + 2) n1 p1 l1 c1 ∧ Is w x (TV n0 p0 l0 c0) ∧ Is w y (TV n1 p1 l1 c1)
theorem Is.later {w w' : World} (hb : Below w.heap.size w w') : ∀ {x : ID} {v : Value}, Is w x v → Is w' x v
  | ⟨.inl _⟩, _, h => h
  | ⟨.inr (_, _)⟩, _, ⟨g, o, c, n0, p0, l0, c0, n1, p1, l1, c1, e, h0, h1, hx, hy⟩ => ⟨g, o, c, n0, p0, l0, c0, n1, p1, l1, c1, e, h0.later hb, h1.later hb, hx.later hb, hy.later hb⟩
theorem Is.box {w : World} {q : Nat} {n : Int} {p : Option Addr} {l c : Nat} (hq : Bx w q n p l c) (cs : Array Value) : ∀ {x : ID} {v : Value}, Is w x v → Is (w.setRow q cs) x v
  | ⟨.inl _⟩, _, h => h
  | ⟨.inr (_, _)⟩, _, ⟨g, o, c, n0, p0, l0, c0, n1, p1, l1, c1, e, h0, h1, hx, hy⟩ => ⟨g, o, c, n0, p0, l0, c0, n1, p1, l1, c1, e, h0.box_lo hq h1 cs, h1.box_hi hq cs, hx.box hq cs, hy.box hq cs⟩

/-- What is told of a tree of whatever form. -/
def rough : Tr → Nat → Bool
  | ⟨n, len, kids⟩, room => if len = 0 then n == 0 || n == 1 else if h : len = 2 then n == 0 && decide (0 < room) && rough (kids ⟨0, by omega⟩) (room - 1) && rough (kids ⟨1, by omega⟩) (room - 1) else false
def idOf : Tr → ID
  | ⟨n, len, kids⟩ => if len = 0 then .leaf (n == 1) else if h : len = 2 then .node (idOf (kids ⟨0, by omega⟩)) (idOf (kids ⟨1, by omega⟩)) else .leaf false
def depth : ID → Nat
  | ⟨.inl _⟩ => 0
  | ⟨.inr (x, y)⟩ => 1 + max (depth x) (depth y)
theorem is_of_lies {w : World} : ∀ (t : Tr) (room : Nat) (v : Value), rough t room = true → Lies w t v → Is w (idOf t) v ∧ depth (idOf t) ≤ room
  | ⟨n, len, kids⟩, room, v, hr, ⟨hn, hl, p, c, e, h⟩ => by
    unfold rough at hr
    unfold idOf
    by_cases h0 : len = 0
    · subst h0
      simp only [if_true, Bool.or_eq_true, beq_iff_eq] at hr ⊢
      refine ⟨⟨p, c, ?_⟩, by simp [depth]⟩
      rw [e]
      rcases hr with rfl | rfl <;> rfl
    · by_cases h2 : len = 2
      · subst h2
        rw [if_neg (by decide), dif_pos rfl] at hr ⊢
        simp only [Bool.and_eq_true, beq_iff_eq, decide_eq_true_eq] at hr
        obtain ⟨⟨⟨rfl, hroom⟩, r0⟩, r1⟩ := hr
        obtain ⟨g, o, rfl, hk⟩ := h (by decide)
        obtain ⟨n0, p0, l0, c0, ha0, hb0⟩ := hk 0 (by decide)
        obtain ⟨n1, p1, l1, c1, ha1, hb1⟩ := hk 1 (by decide)
        have i0 := is_of_lies (kids ⟨0, by decide⟩) (room - 1) _ r0 hb0
        have i1 := is_of_lies (kids ⟨1, by decide⟩) (room - 1) _ r1 hb1
        refine ⟨⟨g, o, c, n0, p0, l0, c0, n1, p1, l1, c1, e, by simpa using ha0, by simpa using ha1, i0.1, i1.1⟩, ?_⟩
        simp only [depth]
        omega
      · simp [h0, h2] at hr
def toTr : ID → Tr
  | ⟨.inl b⟩ => ⟨bi b, 0, fun i => i.elim0⟩
  | ⟨.inr (x, y)⟩ => ⟨0, 2, fun i => if i.1 = 0 then toTr x else toTr y⟩
/-- The same trees? -/
def eqb : ID → ID → Bool
  | ⟨.inl a⟩, ⟨.inl b⟩ => a == b
  | ⟨.inr (x, y)⟩, ⟨.inr (x', y')⟩ => eqb x x' && eqb y y'
  | ⟨.inl _⟩, ⟨.inr _⟩ => false
  | ⟨.inr _⟩, ⟨.inl _⟩ => false
theorem eqb_iff : ∀ x y : ID, eqb x y = true ↔ x = y
  | ⟨.inl a⟩, ⟨.inl b⟩ => by simp [eqb]
  | ⟨.inr (x, y)⟩, ⟨.inr (x', y')⟩ => by simp [eqb, eqb_iff x x', eqb_iff y y']
  | ⟨.inl _⟩, ⟨.inr _⟩ => by simp [eqb]
  | ⟨.inr _⟩, ⟨.inl _⟩ => by simp [eqb]
theorem eqb_refl (x : ID) : eqb x x = true := (eqb_iff x x).2 rfl
theorem eq_of_eqb {x y : ID} (h : eqb x y = true) : x = y := (eqb_iff x y).1 h
end Go.Proofs.Ytohmcpjkijndjaa.Idn
/- The small functions of package idtree: isLeaf, isNothing, sameLeaf, leaf. -/
namespace Go.Proofs.Ytohmcpjkijndjaa.Idn
open Go.RowKit

theorem one_box (w : World) (n : Int) (p : Option Addr) (l c : Nat) : ∀ w0, w0 = w.alloc (.cells #[.int .i64 n, .slice p l c] 24) → Bx w0 w.heap.size n p l c ∧ Below w.heap.size w w0 := by
  rintro w0 rfl
  exact ⟨bx_new w n p l c, (Below.refl _ _).alloc (Nat.le_refl _) _⟩
theorem two_box (w : World) (n : Int) (p : Option Addr) (l c : Nat) (n' : Int) (p' : Option Addr) (l' c' : Nat) : ∀ w0, w0 = (w.alloc (.cells #[.int .i64 n, .slice p l c] 24)).alloc (.cells #[.int .i64 n', .slice p' l' c'] 24) → Bx w0 w.heap.size n p l c ∧ Bx w0 (w.heap.size + 1) n' p' l' c' ∧ Below w.heap.size w w0 := by
  rintro w0 rfl
  exact ⟨(bx_new w n p l c).alloc _, bx_next _ (by simp) n' p' l' c', ((Below.refl _ _).alloc (Nat.le_refl _) _).alloc (by simp) _⟩
theorem three_box (w : World) (n : Int) (p : Option Addr) (l c : Nat) (n' : Int) (p' : Option Addr) (l' c' : Nat) (n'' : Int) (p'' : Option Addr) (l'' c'' : Nat) : ∀ w0, w0 = ((w.alloc (.cells #[.int .i64 n, .slice p l c] 24)).alloc (.cells #[.int .i64 n', .slice p' l' c'] 24)).alloc (.cells #[.int .i64 n'', .slice p'' l'' c''] 24) → Bx w0 w.heap.size n p l c ∧ Bx w0 (w.heap.size + 1) n' p' l' c' ∧ Bx w0 (w.heap.size + 1 + 1) n'' p'' l'' c'' ∧ Below w.heap.size w w0 := by
  rintro w0 rfl
  exact ⟨((bx_new w n p l c).alloc _).alloc _, (bx_next _ (by simp) n' p' l' c').alloc _, bx_next _ (by simp) n'' p'' l'' c'', (((Below.refl _ _).alloc (Nat.le_refl _) _).alloc (by simp) _).alloc (by simp; omega) _⟩

set_option maxRecDepth 100000 in
theorem isLeaf_any (n : Int) (p : Option Addr) (l c : Nat) (w : World) :
    Calls Try.prog 56 #[TV n p l c] w fun e w' => e = .returned (.bool (decide (l = 0))) ∧ Below w.heap.size w w' := by
  obtain ⟨h1, hbel⟩ := one_box w n p l c _ rfl
  have c1 := h1.cell1
  go_enter Try.func56, Try.ntmps56
  go_wp2
  go_ret
  refine ⟨?_, hbel⟩
  have : ((l : Int) == 0) = decide (l = 0) := by
    rw [Bool.eq_iff_iff]; simp
  simp [this]

set_option maxRecDepth 100000 in
theorem isNothing_any (n : Int) (p : Option Addr) (l c : Nat) (w : World) :
    Calls Try.prog 72 #[TV n p l c] w fun e w' => e = .returned (.bool (decide (l = 0) && n == 0)) ∧ Below w.heap.size w w' := by
  obtain ⟨h1, hbel⟩ := one_box w n p l c _ rfl
  have hC := isLeaf_any n p l c
  generalize decide (l = 0) = x at hC ⊢
  go_enter Try.func72, Try.ntmps72
  go_wp2_with (refine load_t _ rfl rfl _ _ rfl h1.tat ?_)
  refine (hC _).mono ?_
  rintro e w1 ⟨rfl, hb1⟩
  have h2 := h1.later hb1
  have c0 := h2.cell0
  replace hbel := below_on hbel hb1
  cases x
  · go_wp2
    go_ret
    exact ⟨by simp, hbel⟩
  · go_wp2
    go_ret
    exact ⟨by simp, hbel⟩

set_option maxRecDepth 100000 in
theorem sameLeaf_any (n : Int) (p : Option Addr) (l c : Nat) (n' : Int) (p' : Option Addr) (l' c' : Nat) (w : World) :
    Calls Try.prog 94 #[TV n p l c, TV n' p' l' c'] w fun e w' => e = .returned (.bool (decide (l = 0) && decide (l' = 0) && n == n')) ∧ Below w.heap.size w w' := by
  obtain ⟨h1, h2, hbel⟩ := two_box w n p l c n' p' l' c' _ rfl
  have hC := isLeaf_any n p l c
  have hC' := isLeaf_any n' p' l' c'
  generalize decide (l = 0) = x at hC ⊢
  generalize decide (l' = 0) = y at hC' ⊢
  go_enter Try.func94, Try.ntmps94
  go_wp2_with (refine load_t _ rfl rfl _ _ rfl h1.tat ?_)
  refine (hC _).mono ?_
  rintro e w1 ⟨rfl, hb1⟩
  replace h1 := h1.later hb1
  replace h2 := h2.later hb1
  replace hbel := below_on hbel hb1
  clear hb1
  cases x
  · go_wp2
    go_ret
    exact ⟨by simp, hbel⟩
  · go_wp2_with (refine load_t _ rfl rfl _ _ rfl h2.tat ?_)
    refine (hC' _).mono ?_
    rintro e w2 ⟨rfl, hb1⟩
    replace h1 := (h1.later hb1).cell0
    replace h2 := (h2.later hb1).cell0
    replace hbel := below_on hbel hb1
    clear hb1
    cases y
    · go_wp2
      go_ret
      exact ⟨by simp, hbel⟩
    · go_wp2
      go_ret
      exact ⟨by simp, hbel⟩

set_option maxRecDepth 100000 in
theorem leaf_any (n : Int) (w : World) :
    Calls Try.prog 95 #[.int .i64 n] w fun e w' => e = .returned (TV n none 0 0) ∧ Below w.heap.size w w' := by
  obtain ⟨h1, hbel⟩ := one_box w 0 none 0 0 _ rfl
  go_enter Try.func95, Try.ntmps95
  go_wp2_with (refine store_t rfl _ _ rfl _ n none 0 0 rfl rfl h1 ?_)
  exact bodyPost_ret (results_t rfl rfl (h1.row n none 0 0)) rfl ⟨rfl, below_setRow hbel (Nat.le_refl _) _⟩
end Go.Proofs.Ytohmcpjkijndjaa.Idn
/- The function alike of package idtree at two kids. -/
namespace Go.Proofs.Ytohmcpjkijndjaa.Idn
open Go.RowKit

abbrev same94 : Value := .func (.func 94) #[] #[]

/-- A new box, and what it holds then. -/
theorem new_box (w : World) (n : Int) (p : Option Addr) (l c : Nat) : Bx ((w.alloc (.cells #[.int .i64 0, .slice none 0 0] 24)).setRow w.heap.size #[.int .i64 n, .slice p l c]) w.heap.size n p l c := (bx_new w 0 none 0 0).row n p l c
theorem new_below (w : World) (n : Int) (p : Option Addr) (l c : Nat) : Below w.heap.size w ((w.alloc (.cells #[.int .i64 0, .slice none 0 0] 24)).setRow w.heap.size #[.int .i64 n, .slice p l c]) :=
  below_setRow ((Below.refl _ _).alloc (Nat.le_refl _) _) (Nat.le_refl _) _

set_option maxHeartbeats 1000000 in
set_option maxRecDepth 100000 in
theorem alike_any (g o c : Nat) (n0 : Int) (p0 : Option Addr) (l0 c0 : Nat) (n1 : Int) (p1 : Option Addr) (l1 c1 : Nat) (w : World) (h0 : Tat w g o n0 p0 l0 c0) (h1 : Tat w g (o + 2) n1 p1 l1 c1) :
    Calls Try.prog 93 #[.slice (some ⟨g, o, none⟩) 2 c, same94] w fun e w' => e = .returned (.bool (decide (l0 = 0) && decide (l1 = 0) && n0 == n1)) ∧ Below w.heap.size w w' := by
  go_enter Try.func93, Try.ntmps93
  go_wp2
  go_loopw [9] (fun vi wr => ∃ k : Nat, vi = .int .i64 k ∧ k ≤ 2 ∧ Hid (1 ≤ k → l0 = 0) ∧ Hid (2 ≤ k → (decide (l0 = 0) && decide (l1 = 0) && n0 == n1) = true) ∧ Below w.heap.size w wr) (fun vi _ => 2 - (intOf vi).toNat)
  case atStart => exact ⟨0, rfl, by omega, (show 1 ≤ 0 → _ from fun h => by omega), (show 2 ≤ 0 → _ from fun h => by omega), Below.refl _ _⟩
  case round =>
    obtain ⟨k, rfl, hk, H1, H2, hbel⟩ := hrel
    by_cases hlt : k < 2
    · obtain ⟨n, p, l, cc, ht, HS⟩ : ∃ n p l cc, Tat w g (o + k * 2) n p l cc ∧ Hid ((k = 0 ∧ n = n0 ∧ l = l0) ∨ (k = 1 ∧ n = n1 ∧ l = l1)) := by
        match k, hlt with
        | 0, _ => exact ⟨n0, p0, l0, c0, by simpa using h0, .inl ⟨rfl, rfl, rfl⟩⟩
        | 1, _ => exact ⟨n1, p1, l1, c1, by simpa using h1, .inr ⟨rfl, rfl, rfl⟩⟩
      have t0 := (h0.later hbel).later (new_below wr n p l cc)
      have hx := new_box wr n p l cc
      have hbel2 := below_on hbel (new_below wr n p l cc)
      replace ht := ht.later hbel
      have hi1 : (k : Int) < 2 := by omega
      have hC := sameLeaf_any n0 p0 l0 c0 n p l cc
      obtain ⟨r, HR⟩ : ∃ r, Hid ((decide (l0 = 0) && decide (l = 0) && n0 == n) = r) := ⟨_, rfl⟩
      rw [HR.out] at hC
      clear h0 h1 hbel
      have hs : Calm.Stays (fun w' => Tat w' g o n0 p0 l0 c0 ∧ Tat w' wr.heap.size 0 n p l cc ∧ Below w.heap.size w w') := fun w1 w2 h hb => ⟨h.1.later hb, h.2.1.later hb, below_on h.2.2 hb⟩
      go_wp2_with (first | refine load_t _ rfl rfl _ _ rfl ht ?_ | refine store_t rfl _ _ rfl _ n p l cc rfl rfl (bx_new wr 0 none 0 0) ?_)
      refine Calm.region (by kernel_rfl) (by kernel_rfl) (fun w' => Tat w' g o n0 p0 l0 c0 ∧ Tat w' wr.heap.size 0 n p l cc ∧ Below w.heap.size w w') ⟨t0, hx.tat, hbel2.drew⟩ ?_
      refine Calm.pure (v := ?_) (by rfl) ?_ ?_
      rotate_left
      focus (intro w hSw; go_simp <;> rfl)
      simp only [Act.put, List.setIfInBounds_toArray, List.set_cons_zero, List.set_cons_succ]
      refine Calm.pure (v := ?_) (by rfl) ?_ ?_
      rotate_left
      focus (intro w hSw; go_simp <;> rfl)
      simp only [Act.put, List.setIfInBounds_toArray, List.set_cons_zero, List.set_cons_succ]
      refine Calm.pure (v := ?_) (by rfl) ?_ ?_
      rotate_left
      focus (intro w hSw; go_simp <;> rfl)
      simp only [Act.put, List.setIfInBounds_toArray, List.set_cons_zero, List.set_cons_succ]
      refine Calm.loadT (by rfl) _ rfl rfl (fun _ h => by go_split_ands; assumption) ?_
      simp only [Act.put, List.setIfInBounds_toArray, List.set_cons_zero, List.set_cons_succ]
      refine Calm.loadT (by rfl) _ rfl rfl (fun _ h => by go_split_ands; assumption) ?_
      simp only [Act.put, List.setIfInBounds_toArray, List.set_cons_zero, List.set_cons_succ]
      refine Calm.call (f := 94) (args := #[TV n0 p0 l0 c0, TV n p l cc]) (by rfl) ?_ (fun w1 hS1 => (hC w1).mono fun e w2 he => ⟨he.1, hs _ _ hS1 he.2⟩) ?_
      focus (intro w1; unfold execOp; simp [go_sem, Act.eval, Calm.enters_run (P := Try.prog) (f := 94) (by kernel_rfl)])
      simp only [Act.put, List.setIfInBounds_toArray, List.set_cons_zero, List.set_cons_succ]
      refine Calm.pure (v := ?_) (by rfl) ?_ ?_
      rotate_left
      focus (intro w hSw; go_simp <;> rfl)
      simp only [Act.put, List.setIfInBounds_toArray, List.set_cons_zero, List.set_cons_succ]
      rintro w9 ⟨_, _, hbel9⟩
      cases r
      · have HF : Hid ((decide (l0 = 0) && decide (l1 = 0) && n0 == n1) = false) := by
          show _ = _
          have h2 := HR.out
          rcases HS.out with ⟨_, rfl, rfl⟩ | ⟨_, rfl, rfl⟩
          · simp at h2
            simp [h2]
          · exact h2
        go_wp2
        go_ret
        exact ⟨by rw [HF.out]; rfl, hbel9⟩
      · have HA : Hid (1 ≤ k + 1 → l0 = 0) := show _ → _ from fun _ => by have h2 := HR.out; simp at h2; exact h2.1.1
        have HB : Hid (2 ≤ k + 1 → (decide (l0 = 0) && decide (l1 = 0) && n0 == n1) = true) := show _ → _ from fun h => by
          have h2 := HR.out
          rcases HS.out with ⟨h3, rfl, rfl⟩ | ⟨_, rfl, rfl⟩
          · omega
          · exact h2
        go_wp2
        go_roundw
        case rel => exact ⟨k + 1, by simp, by omega, HA, HB, hbel9⟩
        case measure => simp [intOf]; omega
    · have hk : k = 2 := by omega
      subst hk
      have HF : Hid ((decide (l0 = 0) && decide (l1 = 0) && n0 == n1) = true) := H2.out (by omega)
      go_wp2
      go_ret
      exact ⟨by rw [HF.out]; rfl, hbel⟩
end Go.Proofs.Ytohmcpjkijndjaa.Idn
