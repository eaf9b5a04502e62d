import Derived.Test.YtohmcpjkijndjaaFactsGOn
import Derived.Test.YtohmcpjkijndjaaRoughOn
/- Calls of three and four arguments, and of functions that are handed in, in a region that draws its order. -/
namespace Go.Proofs.Ytohmcpjkijndjaa
open Go.RowKit

section
variable {Q : Exit → Act → World → Prop} {S : World → Prop} {md : Region.Mode} {A : (Nat → Value) → Act} {F : List Facts.Fact} {i : Nat} {o : Oper}
theorem Facts.call4T (hS : Calm.Stays S) (hF : Facts.Stay F) (hA : ∀ x u, (A x).put o.dst u = A (Facts.put x i u)) {fn : FuncId} {ts : Array TypeId} {u0 u1 u2 u3 : Operand} (ho : o.op = .call { callee := .value (.func fn), args := #[u0, u1, u2, u3], argTypes := ts }) (hf : Calm.enters Try.prog fn = true) {z : EV} (hz : F[i]? = some (isF i z))
    (h : ∀ x w, S w → (∀ e ∈ o.after, Region.binds md e = true → ∀ f, F[e.on]? = some f → Facts.holds f x w) → Calls Try.prog fn #[(A x).eval u0, (A x).eval u1, (A x).eval u2, (A x).eval u3] w (Gives z w)) : Facts.StepOk Try.prog md Q S A F i o :=
  Facts.call (f := fn) hS hF hA fun x w hSw hdep => ⟨#[(A x).eval u0, (A x).eval u1, (A x).eval u2, (A x).eval u3], by
    have e : ∀ args, (callFunc fn args).run Try.prog w = .ok (.enter fn args) w := fun args => Calm.enters_run hf args w
    unfold execOp
    simp [ho, go_sem, Act.eval, e], (h x w hSw hdep).mono fun e w' ⟨n, p, l, c, he, hi, hb⟩ => ⟨_, he, hb, fun f hf' => by
      rw [hz] at hf'
      obtain rfl := Option.some.inj hf'
      exact isF_put hi⟩⟩
theorem Facts.call4V (hS : Calm.Stays S) (hF : Facts.Stay F) (hA : ∀ x u, (A x).put o.dst u = A (Facts.put x i u)) {fn : FuncId} {ts : Array TypeId} {u0 u1 u2 u3 : Operand} (ho : o.op = .call { callee := .value (.func fn), args := #[u0, u1, u2, u3], argTypes := ts }) (hf : Calm.enters Try.prog fn = true) {v : Value} (hz : F[i]? = some (eqF i v))
    (h : ∀ x w, S w → (∀ e ∈ o.after, Region.binds md e = true → ∀ f, F[e.on]? = some f → Facts.holds f x w) → Calls Try.prog fn #[(A x).eval u0, (A x).eval u1, (A x).eval u2, (A x).eval u3] w (Tells v w)) : Facts.StepOk Try.prog md Q S A F i o :=
  Facts.call (f := fn) hS hF hA fun x w hSw hdep => ⟨#[(A x).eval u0, (A x).eval u1, (A x).eval u2, (A x).eval u3], by
    have e : ∀ args, (callFunc fn args).run Try.prog w = .ok (.enter fn args) w := fun args => Calm.enters_run hf args w
    unfold execOp
    simp [ho, go_sem, Act.eval, e], (h x w hSw hdep).mono fun e w' ⟨he, hb⟩ => ⟨_, he, hb, fun f hf' => by
      rw [hz] at hf'
      obtain rfl := Option.some.inj hf'
      simp [Facts.holds, eqF, Facts.put]⟩⟩
theorem Facts.call3V (hS : Calm.Stays S) (hF : Facts.Stay F) (hA : ∀ x u, (A x).put o.dst u = A (Facts.put x i u)) {fn : FuncId} {ts : Array TypeId} {u0 u1 u2 : Operand} (ho : o.op = .call { callee := .value (.func fn), args := #[u0, u1, u2], argTypes := ts }) (hf : Calm.enters Try.prog fn = true) {v : Value} (hz : F[i]? = some (eqF i v))
    (h : ∀ x w, S w → (∀ e ∈ o.after, Region.binds md e = true → ∀ f, F[e.on]? = some f → Facts.holds f x w) → Calls Try.prog fn #[(A x).eval u0, (A x).eval u1, (A x).eval u2] w (Tells v w)) : Facts.StepOk Try.prog md Q S A F i o :=
  Facts.call (f := fn) hS hF hA fun x w hSw hdep => ⟨#[(A x).eval u0, (A x).eval u1, (A x).eval u2], by
    have e : ∀ args, (callFunc fn args).run Try.prog w = .ok (.enter fn args) w := fun args => Calm.enters_run hf args w
    unfold execOp
    simp [ho, go_sem, Act.eval, e], (h x w hSw hdep).mono fun e w' ⟨he, hb⟩ => ⟨_, he, hb, fun f hf' => by
      rw [hz] at hf'
      obtain rfl := Option.some.inj hf'
      simp [Facts.holds, eqF, Facts.put]⟩⟩
theorem Facts.callF2T (hS : Calm.Stays S) (hF : Facts.Stay F) (hA : ∀ x u, (A x).put o.dst u = A (Facts.put x i u)) {fn : FuncId} {ts : Array TypeId} {u0 u1 t : Operand} (ho : o.op = .call { callee := .value t, args := #[u0, u1], argTypes := ts }) (hf : Calm.enters Try.prog fn = true) {z : EV} (hz : F[i]? = some (isF i z))
    (h : ∀ x w, S w → (∀ e ∈ o.after, Region.binds md e = true → ∀ f, F[e.on]? = some f → Facts.holds f x w) → (A x).eval t = .func (.func fn) #[] #[] ∧ Calls Try.prog fn #[(A x).eval u0, (A x).eval u1] w (Gives z w)) : Facts.StepOk Try.prog md Q S A F i o :=
  Facts.call (f := fn) hS hF hA fun x w hSw hdep => ⟨#[(A x).eval u0, (A x).eval u1], by
    have e : ∀ args, (callFunc fn args).run Try.prog w = .ok (.enter fn args) w := fun args => Calm.enters_run hf args w
    have hv := (h x w hSw hdep).1
    generalize (A x).eval = ρ at hv
    unfold execOp
    simp [ho, go_sem, hv, e], (h x w hSw hdep).2.mono fun e w' ⟨n, p, l, c, he, hi, hb⟩ => ⟨_, he, hb, fun f hf' => by
      rw [hz] at hf'
      obtain rfl := Option.some.inj hf'
      exact isF_put hi⟩⟩
theorem Facts.callF2V (hS : Calm.Stays S) (hF : Facts.Stay F) (hA : ∀ x u, (A x).put o.dst u = A (Facts.put x i u)) {fn : FuncId} {ts : Array TypeId} {u0 u1 t : Operand} (ho : o.op = .call { callee := .value t, args := #[u0, u1], argTypes := ts }) (hf : Calm.enters Try.prog fn = true) {v : Value} (hz : F[i]? = some (eqF i v))
    (h : ∀ x w, S w → (∀ e ∈ o.after, Region.binds md e = true → ∀ f, F[e.on]? = some f → Facts.holds f x w) → (A x).eval t = .func (.func fn) #[] #[] ∧ Calls Try.prog fn #[(A x).eval u0, (A x).eval u1] w (Tells v w)) : Facts.StepOk Try.prog md Q S A F i o :=
  Facts.call (f := fn) hS hF hA fun x w hSw hdep => ⟨#[(A x).eval u0, (A x).eval u1], by
    have e : ∀ args, (callFunc fn args).run Try.prog w = .ok (.enter fn args) w := fun args => Calm.enters_run hf args w
    have hv := (h x w hSw hdep).1
    generalize (A x).eval = ρ at hv
    unfold execOp
    simp [ho, go_sem, hv, e], (h x w hSw hdep).2.mono fun e w' ⟨he, hb⟩ => ⟨_, he, hb, fun f hf' => by
      rw [hz] at hf'
      obtain rfl := Option.some.inj hf'
      simp [Facts.holds, eqF, Facts.put]⟩⟩
end
end Go.Proofs.Ytohmcpjkijndjaa
/- The function halves of package events. -/
namespace Go.Proofs.Ytohmcpjkijndjaa
open Go.RowKit

/-- The call answers two trees. -/
abbrev GivesT (x y : EV) (w : World) (e : Ending) (w' : World) : Prop := ∃ n p l c n' p' l' c', e = .returned (.tuple #[TV n p l c, TV n' p' l' c']) ∧ Is w' x (TV n p l c) ∧ Is w' y (TV n' p' l' c') ∧ Below w.heap.size w w'

set_option maxHeartbeats 4000000 in
set_option maxRecDepth 100000 in
theorem halves_leaf (n : Int) (p : Option Addr) (c : Nat) (w : World) : Calls Try.prog 89 #[TV n p 0 c] w (GivesT (.leaf n) (.leaf n) w) := by
  obtain ⟨h1, h2, h3, hbel⟩ := three_box w n p 0 c 0 none 0 0 0 none 0 0 _ rfl
  go_enter Try.func89, Try.ntmps89
  go_wp2_with (refine load_t _ rfl rfl _ _ rfl h1.tat ?_)
  refine (isLeaf_any _ p 0 c _).mono ?_
  rintro e w1 ⟨rfl, hb1⟩
  replace h1 := h1.later hb1
  replace h2 := h2.later hb1
  replace h3 := h3.later hb1
  replace hbel := below_on hbel hb1
  clear hb1
  go_wp2_with fail
  have hS : Calm.Stays (fun w' => Bx w' (w.heap.size) n p 0 c ∧ (∃ n p l c, Bx w' (w.heap.size + 1) n p l c) ∧ (∃ n p l c, Bx w' (w.heap.size + 1 + 1) n p l c) ∧ Below w.heap.size w w') := fun wa wb h hb => ⟨h.1.later hb, (by obtain ⟨n, p, l, c, h2⟩ := h.2.1; exact ⟨n, p, l, c, h2.later hb⟩), (by obtain ⟨n, p, l, c, h2⟩ := h.2.2.1; exact ⟨n, p, l, c, h2.later hb⟩), below_on h.2.2.2 hb⟩
  have hF : Facts.Stay [eqF 0 (TV n p 0 c), eqF 1 (TV n p 0 c), bxF 0 (w.heap.size + 1) (.leaf n), bxF 1 (w.heap.size + 1 + 1) (.leaf n)] := stay_of (by simp only [List.forall_mem_cons]; exact ⟨eqF_stays _ _, eqF_stays _ _, bxF_stays _ _ _, bxF_stays _ _ _, fun _ h => by cases h⟩)
  refine Facts.region (by kernel_rfl) (by kernel_rfl) (fun w' => Bx w' (w.heap.size) n p 0 c ∧ (∃ n p l c, Bx w' (w.heap.size + 1) n p l c) ∧ (∃ n p l c, Bx w' (w.heap.size + 1 + 1) n p l c) ∧ Below w.heap.size w w') (fun x => { tmps := #[TV n p 0 c, .pointer (some ⟨w.heap.size, 0, none⟩), .pointer (some ⟨w.heap.size + 1, 0, none⟩), .pointer (some ⟨w.heap.size + 1 + 1, 0, none⟩), undef, TV n p 0 c, .bool true, x 0, x 1, undef, undef, undef, undef, undef, undef, undef, undef, undef, undef, undef, undef, undef, undef, undef], defers := [] }) [eqF 0 (TV n p 0 c), eqF 1 (TV n p 0 c), bxF 0 (w.heap.size + 1) (.leaf n), bxF 1 (w.heap.size + 1 + 1) (.leaf n)] _ rfl (by kernel_rfl) (fun _ => undef) rfl (⟨h1, ⟨_, _, _, _, h2⟩, ⟨_, _, _, _, h3⟩, hbel.drew⟩) ⟨?_, ?_, ?_, ?_, trivial⟩ ?_
  · exact Facts.loadT hS hF (fun _ _ => rfl) _ rfl rfl (fun x wv hSw hd => by rfl) (fun wv hSw => hSw.1.tat)
  · exact Facts.loadT hS hF (fun _ _ => rfl) _ rfl rfl (fun x wv hSw hd => by rfl) (fun wv hSw => hSw.1.tat)
  · exact Facts.storeT (fun _ _ => rfl) _ _ rfl (by decide) rfl (fun _ => rfl) (fun _ => rfl) (fun x wv hSw hd => ⟨_, _, _, _, eqF_get (hd ⟨0, .data⟩ (by simp) rfl _ rfl), is_leaf _ _ _ _⟩) (fun wv hSw => ⟨hSw.2.1, fun n p l c => (by obtain ⟨s1, ⟨_, _, _, _, s2⟩, ⟨_, _, _, _, s3⟩, s4⟩ := hSw; exact ⟨s1.rowOther (by omega) _, ⟨_, _, _, _, s2.row n p l c⟩, ⟨_, _, _, _, s3.rowOther (by omega) _⟩, below_setRow s4 (by omega) _⟩)⟩) (fun j f hj hfj => by
      match j with
      | 0 => obtain rfl := Option.some.inj hfj; exact eqF_box _ _ _
      | 1 => obtain rfl := Option.some.inj hfj; exact eqF_box _ _ _
      | 3 => obtain rfl := Option.some.inj hfj; exact bxF_box _ _ _ _ (by omega)
      | 2 => exact absurd rfl hj
      | j + 4 => simp at hfj)
  · exact Facts.storeT (fun _ _ => rfl) _ _ rfl (by decide) rfl (fun _ => rfl) (fun _ => rfl) (fun x wv hSw hd => ⟨_, _, _, _, eqF_get (hd ⟨1, .data⟩ (by simp) rfl _ rfl), is_leaf _ _ _ _⟩) (fun wv hSw => ⟨hSw.2.2.1, fun n p l c => (by obtain ⟨s1, ⟨_, _, _, _, s2⟩, ⟨_, _, _, _, s3⟩, s4⟩ := hSw; exact ⟨s1.rowOther (by omega) _, ⟨_, _, _, _, s2.rowOther (by omega) _⟩, ⟨_, _, _, _, s3.row n p l c⟩, below_setRow s4 (by omega) _⟩)⟩) (fun j f hj hfj => by
      match j with
      | 0 => obtain rfl := Option.some.inj hfj; exact eqF_box _ _ _
      | 1 => obtain rfl := Option.some.inj hfj; exact eqF_box _ _ _
      | 2 => obtain rfl := Option.some.inj hfj; exact bxF_box _ _ _ _ (by omega)
      | 3 => exact absurd rfl hj
      | j + 4 => simp at hfj)
  · rintro xv w9 ⟨_, _, _, hbel9⟩ hf
    obtain ⟨n2, p2, l2, c2, _, b2, i2⟩ := bxF_get (hf 2 _ (by decide) rfl)
    obtain ⟨n3, p3, l3, c3, _, b3, i3⟩ := bxF_get (hf 3 _ (by decide) rfl)
    clear hf hS hF
    go_wp2
    exact bodyPost_ret (results_tt rfl rfl b2 rfl b3) rfl ⟨_, _, _, _, _, _, _, _, rfl, i2, i3, hbel9⟩

set_option maxHeartbeats 4000000 in
set_option maxRecDepth 100000 in
theorem halves_node (x y : EV) (n : Int) (g o c : Nat) (n0 : Int) (p0 : Option Addr) (l0 c0 : Nat) (n1 : Int) (p1 : Option Addr) (l1 c1 : Nat) (w : World) (t0 : Tat w g o n0 p0 l0 c0) (t1 : Tat w g (o + 2) n1 p1 l1 c1) (hx : Is w x (TV n0 p0 l0 c0)) (hy : Is w y (TV n1 p1 l1 c1))
    (HB : Hid ((-9223372036854775808 ≤ x.n + n) ∧ (x.n + n ≤ 9223372036854775807) ∧ (-9223372036854775808 ≤ y.n + n) ∧ (y.n + n ≤ 9223372036854775807))) :
    Calls Try.prog 89 #[TV n (some ⟨g, o, none⟩) 2 c] w (GivesT (lift x n) (lift y n) w) := by
  obtain ⟨h1, h2, h3, hbel⟩ := three_box w n (some ⟨g, o, none⟩) 2 c 0 none 0 0 0 none 0 0 _ rfl
  go_enter Try.func89, Try.ntmps89
  go_wp2_with (refine load_t _ rfl rfl _ _ rfl h1.tat ?_)
  refine (isLeaf_any _ _ 2 c _).mono ?_
  rintro e w1 ⟨rfl, hb1⟩
  replace h1 := h1.later hb1
  replace h2 := h2.later hb1
  replace h3 := h3.later hb1
  replace hbel := below_on hbel hb1
  clear hb1
  have g0 := h1.cell0
  go_wp2_with fail
  refine (lifter_any _ _).mono ?_
  rintro e w2 ⟨b, rfl, hby, hb1⟩
  replace h1 := h1.later hb1
  replace h2 := h2.later hb1
  replace h3 := h3.later hb1
  replace hbel := below_on hbel hb1
  replace t0 := t0.later hbel
  replace t1 := t1.later hbel
  replace hx := hx.later hbel
  replace hy := hy.later hbel
  clear hb1 g0
  go_wp2_with fail
  have hS : Calm.Stays (fun w' => Bx w' (w.heap.size) n (some ⟨g, o, none⟩) 2 c ∧ Tat w' g o n0 p0 l0 c0 ∧ Tat w' g (o + 2) n1 p1 l1 c1 ∧ Is w' x (TV n0 p0 l0 c0) ∧ Is w' y (TV n1 p1 l1 c1) ∧ (∃ n p l c, Bx w' (w.heap.size + 1) n p l c) ∧ (∃ n p l c, Bx w' (w.heap.size + 1 + 1) n p l c) ∧ By w' b n ∧ Below w.heap.size w w') := fun wa wb h hb => ⟨h.1.later hb, h.2.1.later hb, h.2.2.1.later hb, h.2.2.2.1.later hb, h.2.2.2.2.1.later hb, (by obtain ⟨n, p, l, c, h2⟩ := h.2.2.2.2.2.1; exact ⟨n, p, l, c, h2.later hb⟩), (by obtain ⟨n, p, l, c, h2⟩ := h.2.2.2.2.2.2.1; exact ⟨n, p, l, c, h2.later hb⟩), h.2.2.2.2.2.2.2.1.later hb, below_on h.2.2.2.2.2.2.2.2 hb⟩
  have hF : Facts.Stay [eqF 0 (LF b), eqF 1 (.pointer (some ⟨w.heap.size, 1, none⟩)), eqF 2 (.slice (some ⟨g, o, none⟩) 2 c), eqF 3 (.pointer (some ⟨g, o, none⟩)), eqF 4 (TV n0 p0 l0 c0), isF 5 (lift x n), eqF 6 (LF b), eqF 7 (.pointer (some ⟨w.heap.size, 1, none⟩)), eqF 8 (.slice (some ⟨g, o, none⟩) 2 c), eqF 9 (.pointer (some ⟨g, o + 2, none⟩)), eqF 10 (TV n1 p1 l1 c1), isF 11 (lift y n), bxF 5 (w.heap.size + 1) (lift x n), bxF 11 (w.heap.size + 1 + 1) (lift y n)] := stay_of (by simp only [List.forall_mem_cons]; exact ⟨eqF_stays _ _, eqF_stays _ _, eqF_stays _ _, eqF_stays _ _, eqF_stays _ _, isF_stays _ _, eqF_stays _ _, eqF_stays _ _, eqF_stays _ _, eqF_stays _ _, eqF_stays _ _, isF_stays _ _, bxF_stays _ _ _, bxF_stays _ _ _, fun _ h => by cases h⟩)
  refine Facts.region (by kernel_rfl) (by kernel_rfl) (fun w' => Bx w' (w.heap.size) n (some ⟨g, o, none⟩) 2 c ∧ Tat w' g o n0 p0 l0 c0 ∧ Tat w' g (o + 2) n1 p1 l1 c1 ∧ Is w' x (TV n0 p0 l0 c0) ∧ Is w' y (TV n1 p1 l1 c1) ∧ (∃ n p l c, Bx w' (w.heap.size + 1) n p l c) ∧ (∃ n p l c, Bx w' (w.heap.size + 1 + 1) n p l c) ∧ By w' b n ∧ Below w.heap.size w w') (fun x => { tmps := #[TV n (some ⟨g, o, none⟩) 2 c, .pointer (some ⟨w.heap.size, 0, none⟩), .pointer (some ⟨w.heap.size + 1, 0, none⟩), .pointer (some ⟨w.heap.size + 1 + 1, 0, none⟩), LF b, TV n (some ⟨g, o, none⟩) 2 c, .bool false, undef, undef, .pointer (some ⟨w.heap.size, 0, none⟩), .int .i64 n, LF b, x 0, x 1, x 2, x 3, x 4, x 5, x 6, x 7, x 8, x 9, x 10, x 11], defers := [] }) [eqF 0 (LF b), eqF 1 (.pointer (some ⟨w.heap.size, 1, none⟩)), eqF 2 (.slice (some ⟨g, o, none⟩) 2 c), eqF 3 (.pointer (some ⟨g, o, none⟩)), eqF 4 (TV n0 p0 l0 c0), isF 5 (lift x n), eqF 6 (LF b), eqF 7 (.pointer (some ⟨w.heap.size, 1, none⟩)), eqF 8 (.slice (some ⟨g, o, none⟩) 2 c), eqF 9 (.pointer (some ⟨g, o + 2, none⟩)), eqF 10 (TV n1 p1 l1 c1), isF 11 (lift y n), bxF 5 (w.heap.size + 1) (lift x n), bxF 11 (w.heap.size + 1 + 1) (lift y n)] _ rfl (by kernel_rfl) (fun _ => undef) rfl (⟨h1, t0.later (Below.refl _ _).drew, t1.later (Below.refl _ _).drew, hx.later (Below.refl _ _).drew, hy.later (Below.refl _ _).drew, ⟨_, _, _, _, h2⟩, ⟨_, _, _, _, h3⟩, hby.later (Below.refl _ _).drew, hbel.drew⟩) ⟨?_, ?_, ?_, ?_, ?_, ?_, ?_, ?_, ?_, ?_, ?_, ?_, ?_, ?_, trivial⟩ ?_
  · exact Facts.pure hS hF (fun _ _ => rfl) rfl (fun x wv hSw hd => by
      go_simp)
  · exact Facts.pure hS hF (fun _ _ => rfl) rfl (fun x wv hSw hd => by
      go_simp)
  · exact Facts.pure hS hF (fun _ _ => rfl) rfl (fun x wv hSw hd => by
      have d1 := eqF_get (hd ⟨1, .data⟩ (by simp) rfl _ rfl)
      have g1 := hSw.1.cell1
      simp only [d1]
      go_simp)
  · exact Facts.pure hS hF (fun _ _ => rfl) rfl (fun x wv hSw hd => by
      have d2 := eqF_get (hd ⟨2, .data⟩ (by simp) rfl _ rfl)
      simp only [d2]
      go_simp)
  · exact Facts.loadT hS hF (fun _ _ => rfl) _ rfl rfl (fun x wv hSw hd => by have d3 := eqF_get (hd ⟨3, .data⟩ (by simp) rfl _ rfl); exact d3) (fun wv hSw => hSw.2.1)
  · refine Facts.callC (b := b) hS hF (fun _ _ => rfl) rfl rfl (fun x wv hSw hd => ?_)
    have d0 := eqF_get (hd ⟨0, .data⟩ (by simp) rfl _ rfl)
    have d4 := eqF_get (hd ⟨4, .data⟩ (by simp) rfl _ rfl)
    refine ⟨d0, ?_⟩
    have hc := lifted_is n0 p0 l0 c0 b n wv hSw.2.2.2.1 hSw.2.2.2.2.2.2.2.1 HB.out.1 HB.out.2.1
    rw [← d4] at hc
    exact hc
  · exact Facts.pure hS hF (fun _ _ => rfl) rfl (fun x wv hSw hd => by
      go_simp)
  · exact Facts.pure hS hF (fun _ _ => rfl) rfl (fun x wv hSw hd => by
      go_simp)
  · exact Facts.pure hS hF (fun _ _ => rfl) rfl (fun x wv hSw hd => by
      have d7 := eqF_get (hd ⟨7, .data⟩ (by simp) rfl _ rfl)
      have g1 := hSw.1.cell1
      simp only [d7]
      go_simp)
  · exact Facts.pure hS hF (fun _ _ => rfl) rfl (fun x wv hSw hd => by
      have d8 := eqF_get (hd ⟨8, .data⟩ (by simp) rfl _ rfl)
      simp only [d8]
      go_simp)
  · exact Facts.loadT hS hF (fun _ _ => rfl) _ rfl rfl (fun x wv hSw hd => by have d9 := eqF_get (hd ⟨9, .data⟩ (by simp) rfl _ rfl); exact d9) (fun wv hSw => hSw.2.2.1)
  · refine Facts.callC (b := b) hS hF (fun _ _ => rfl) rfl rfl (fun x wv hSw hd => ?_)
    have d6 := eqF_get (hd ⟨6, .data⟩ (by simp) rfl _ rfl)
    have d10 := eqF_get (hd ⟨10, .data⟩ (by simp) rfl _ rfl)
    refine ⟨d6, ?_⟩
    have hc := lifted_is n1 p1 l1 c1 b n wv hSw.2.2.2.2.1 hSw.2.2.2.2.2.2.2.1 HB.out.2.2.1 HB.out.2.2.2
    rw [← d10] at hc
    exact hc
  · exact Facts.storeT (fun _ _ => rfl) _ _ rfl (by decide) rfl (fun _ => rfl) (fun _ => rfl) (fun x wv hSw hd => isF_get (hd ⟨5, .data⟩ (by simp) rfl _ rfl)) (fun wv hSw => ⟨hSw.2.2.2.2.2.1, fun n p l c => (by obtain ⟨s1, s2, s3, s4, s5, ⟨_, _, _, _, s6⟩, ⟨_, _, _, _, s7⟩, s8, s9⟩ := hSw; exact ⟨s1.rowOther (by omega) _, s2.box_lo s6 s3 _, s3.box_hi s6 _, s4.box s6 _, s5.box s6 _, ⟨_, _, _, _, s6.row n p l c⟩, ⟨_, _, _, _, s7.rowOther (by omega) _⟩, s8.box s6 _, below_setRow s9 (by omega) _⟩)⟩) (fun j f hj hfj => by
      match j with
      | 0 => obtain rfl := Option.some.inj hfj; exact eqF_box _ _ _
      | 1 => obtain rfl := Option.some.inj hfj; exact eqF_box _ _ _
      | 2 => obtain rfl := Option.some.inj hfj; exact eqF_box _ _ _
      | 3 => obtain rfl := Option.some.inj hfj; exact eqF_box _ _ _
      | 4 => obtain rfl := Option.some.inj hfj; exact eqF_box _ _ _
      | 5 => obtain rfl := Option.some.inj hfj; exact isF_box _ _ _
      | 6 => obtain rfl := Option.some.inj hfj; exact eqF_box _ _ _
      | 7 => obtain rfl := Option.some.inj hfj; exact eqF_box _ _ _
      | 8 => obtain rfl := Option.some.inj hfj; exact eqF_box _ _ _
      | 9 => obtain rfl := Option.some.inj hfj; exact eqF_box _ _ _
      | 10 => obtain rfl := Option.some.inj hfj; exact eqF_box _ _ _
      | 11 => obtain rfl := Option.some.inj hfj; exact isF_box _ _ _
      | 13 => obtain rfl := Option.some.inj hfj; exact bxF_box _ _ _ _ (by omega)
      | 12 => exact absurd rfl hj
      | j + 14 => simp at hfj)
  · exact Facts.storeT (fun _ _ => rfl) _ _ rfl (by decide) rfl (fun _ => rfl) (fun _ => rfl) (fun x wv hSw hd => isF_get (hd ⟨11, .data⟩ (by simp) rfl _ rfl)) (fun wv hSw => ⟨hSw.2.2.2.2.2.2.1, fun n p l c => (by obtain ⟨s1, s2, s3, s4, s5, ⟨_, _, _, _, s6⟩, ⟨_, _, _, _, s7⟩, s8, s9⟩ := hSw; exact ⟨s1.rowOther (by omega) _, s2.box_lo s7 s3 _, s3.box_hi s7 _, s4.box s7 _, s5.box s7 _, ⟨_, _, _, _, s6.rowOther (by omega) _⟩, ⟨_, _, _, _, s7.row n p l c⟩, s8.box s7 _, below_setRow s9 (by omega) _⟩)⟩) (fun j f hj hfj => by
      match j with
      | 0 => obtain rfl := Option.some.inj hfj; exact eqF_box _ _ _
      | 1 => obtain rfl := Option.some.inj hfj; exact eqF_box _ _ _
      | 2 => obtain rfl := Option.some.inj hfj; exact eqF_box _ _ _
      | 3 => obtain rfl := Option.some.inj hfj; exact eqF_box _ _ _
      | 4 => obtain rfl := Option.some.inj hfj; exact eqF_box _ _ _
      | 5 => obtain rfl := Option.some.inj hfj; exact isF_box _ _ _
      | 6 => obtain rfl := Option.some.inj hfj; exact eqF_box _ _ _
      | 7 => obtain rfl := Option.some.inj hfj; exact eqF_box _ _ _
      | 8 => obtain rfl := Option.some.inj hfj; exact eqF_box _ _ _
      | 9 => obtain rfl := Option.some.inj hfj; exact eqF_box _ _ _
      | 10 => obtain rfl := Option.some.inj hfj; exact eqF_box _ _ _
      | 11 => obtain rfl := Option.some.inj hfj; exact isF_box _ _ _
      | 12 => obtain rfl := Option.some.inj hfj; exact bxF_box _ _ _ _ (by omega)
      | 13 => exact absurd rfl hj
      | j + 14 => simp at hfj)
  · rintro xv w9 ⟨_, _, _, _, _, _, _, _, hbel9⟩ hf
    obtain ⟨n2, p2, l2, c2, _, b2, i2⟩ := bxF_get (hf 12 _ (by decide) rfl)
    obtain ⟨n3, p3, l3, c3, _, b3, i3⟩ := bxF_get (hf 13 _ (by decide) rfl)
    clear hf hS hF
    go_wp2
    exact bodyPost_ret (results_tt rfl rfl b2 rfl b3) rfl ⟨_, _, _, _, _, _, _, _, rfl, i2, i3, hbel9⟩

theorem halves_any (x : EV) (room : Nat) (left : Int) (n : Int) (p : Option Addr) (l c : Nat) (w : World) (h : Is w x (TV n p l c)) (hr : rg x room left = true) (hl : left ≤ 1073741824) : Calls Try.prog 89 #[TV n p l c] w (GivesT (h0 x) (h1 x) w) := by
  rcases x with ⟨m, _ | ⟨x, y⟩⟩
  · obtain ⟨_, _, e⟩ := h
    simp at e
    obtain ⟨rfl, rfl, rfl, rfl⟩ := e
    exact halves_leaf n p c w
  · obtain ⟨g, o, c', n0, p0, l0, c0, n1, p1, l1, c1, e, t0, t1, hx, hy⟩ := h
    simp at e
    obtain ⟨rfl, rfl, rfl, rfl⟩ := e
    obtain ⟨b0, _, b1, b2⟩ := rg_kids hr
    have d1 := rg_n b1
    have d2 := rg_n b2
    exact halves_node x y n g o c n0 p0 l0 c0 n1 p1 l1 c1 w t0 t1 hx hy (show _ ∧ _ by omega)
end Go.Proofs.Ytohmcpjkijndjaa
