import Derived.Test.YtmcajjdijjcpkaaP1
import Derived.Test.YtmcajjdijjcpkaaP5
/- Calls within a region that draws its order, whose contracts ask for S. Nothing of one program. -/
namespace Go.Proofs.Ytmcajjdijjcpkaa.Calm

section
variable {P : Program} {ops : Array Oper} {S : World → Prop} {K : Act → Prop}
theorem call1s {o : Oper} {l : List Oper} {a : Act} {r x : Value} {f : FuncId} {ts : Array TypeId} {u : Operand} (hw : Region.wanted o (yielded ops a.tmps) = true)
    (ho : o.op = .call { callee := .value (.func f), args := #[u], argTypes := ts }) (hu : a.eval u = x) (hf : enters P f = true) (hs : Stays S)
    (hc : ∀ w, S w → Calls P f #[x] w fun e w' => e = .returned r ∧ RowKit.Below w.heap.size w w')
    (h : calmList P ops S K l (a.put o.dst r)) : calmList P ops S K (o :: l) a :=
  call (f := f) (args := #[x]) hw (fun w => by
    have e : ∀ args, (callFunc f args).run P w = .ok (.enter f args) w := fun args => enters_run hf args w
    subst hu
    unfold execOp
    simp [ho, go_sem, Act.eval, e]) (fun w hS => (hc w hS).mono fun e w' he => ⟨he.1, hs w w' hS he.2⟩) h
theorem call2s {o : Oper} {l : List Oper} {a : Act} {r x y : Value} {f : FuncId} {ts : Array TypeId} {u v : Operand} (hw : Region.wanted o (yielded ops a.tmps) = true)
    (ho : o.op = .call { callee := .value (.func f), args := #[u, v], argTypes := ts }) (hu : a.eval u = x) (hv : a.eval v = y) (hf : enters P f = true) (hs : Stays S)
    (hc : ∀ w, S w → Calls P f #[x, y] w fun e w' => e = .returned r ∧ RowKit.Below w.heap.size w w')
    (h : calmList P ops S K l (a.put o.dst r)) : calmList P ops S K (o :: l) a :=
  call (f := f) (args := #[x, y]) hw (fun w => by
    have e : ∀ args, (callFunc f args).run P w = .ok (.enter f args) w := fun args => enters_run hf args w
    subst hu
    subst hv
    unfold execOp
    simp [ho, go_sem, Act.eval, e]) (fun w hS => (hc w hS).mono fun e w' he => ⟨he.1, hs w w' hS he.2⟩) h
end
end Go.Proofs.Ytmcajjdijjcpkaa.Calm
/- The functions Same, Size and Few of the document's answer. -/
namespace Go.Proofs.Ytmcajjdijjcpkaa.Idn
open Go.RowKit

theorem node_eq (x y x' y' : ID) : eqb (ID.node x y) (ID.node x' y') = (eqb x x' && eqb y y') := rfl

set_option maxHeartbeats 2000000 in
set_option maxRecDepth 100000 in
theorem same_node (x y x' y' : ID) (g o c g' o' c' : Nat) (n0 : Int) (p0 : Option Addr) (l0 c0 : Nat) (n1 : Int) (p1 : Option Addr) (l1 c1 : Nat) (n2 : Int) (p2 : Option Addr) (l2 c2 : Nat) (n3 : Int) (p3 : Option Addr) (l3 c3 : Nat) (w : World)
    (t0 : Tat w g o n0 p0 l0 c0) (t1 : Tat w g (o + 2) n1 p1 l1 c1) (t2 : Tat w g' o' n2 p2 l2 c2) (t3 : Tat w g' (o' + 2) n3 p3 l3 c3)
    (r0 : ∀ w1, Below w.heap.size w w1 → Calls Try.prog 26 #[TV n0 p0 l0 c0, TV n2 p2 l2 c2] w1 fun e w' => e = .returned (.bool (eqb x x')) ∧ Below w1.heap.size w1 w')
    (r1 : ∀ w1, Below w.heap.size w w1 → Calls Try.prog 26 #[TV n1 p1 l1 c1, TV n3 p3 l3 c3] w1 fun e w' => e = .returned (.bool (eqb y y')) ∧ Below w1.heap.size w1 w') :
    Calls Try.prog 26 #[TV 0 (some ⟨g, o, none⟩) 2 c, TV 0 (some ⟨g', o', none⟩) 2 c'] w fun e w' => e = .returned (.bool (eqb (ID.node x y) (ID.node x' y'))) ∧ Below w.heap.size w w' := by
  rw [node_eq]
  obtain ⟨h1, h2, hbel⟩ := two_box w 0 (some ⟨g, o, none⟩) 2 c 0 (some ⟨g', o', none⟩) 2 c' _ rfl
  have g0 := h1.cell0
  have g1 := h1.cell1
  have g2 := h2.cell0
  have g3 := h2.cell1
  generalize eqb x x' = b0 at r0 ⊢
  generalize eqb y y' = b1 at r1 ⊢
  obtain ⟨z, HZ⟩ : ∃ z, Hid ((b0 && b1) = z) := ⟨_, rfl⟩
  rw [HZ.out]
  go_enter Try.func26, Try.ntmps26
  go_wp2
  go_loopw [5] (fun vi wr => ∃ k : Nat, vi = .int .i64 k ∧ k ≤ 2 ∧ Hid (1 ≤ k → b0 = true) ∧ Hid (2 ≤ k → b1 = true) ∧ Bx wr w.heap.size 0 (some ⟨g, o, none⟩) 2 c ∧ Bx wr (w.heap.size + 1) 0 (some ⟨g', o', none⟩) 2 c' ∧ Below w.heap.size w wr) (fun vi _ => 2 - (intOf vi).toNat)
  case atStart => exact ⟨0, rfl, by omega, (show 1 ≤ 0 → _ from fun h => by omega), (show 2 ≤ 0 → _ from fun h => by omega), h1, h2, hbel⟩
  case round =>
    clear g0 g1 g2 g3 h1 h2 hbel
    obtain ⟨k, rfl, hk, H1, H2, h1, h2, hbel⟩ := hrel
    have g1 := h1.cell1
    have g3 := h2.cell1
    by_cases hlt : k < 2
    · obtain ⟨n, p, l, cc, n', p', l', cc', b, ta, tb, rr, HS⟩ : ∃ n p l cc n' p' l' cc' b, Tat w g (o + k * 2) n p l cc ∧ Tat w g' (o' + k * 2) n' p' l' cc' ∧ (∀ w1, Below w.heap.size w w1 → Calls Try.prog 26 #[TV n p l cc, TV n' p' l' cc'] w1 fun e w' => e = .returned (.bool b) ∧ Below w1.heap.size w1 w') ∧ Hid ((k = 0 ∧ b = b0) ∨ (k = 1 ∧ b = b1)) := by
        match k, hlt with
        | 0, _ => exact ⟨n0, p0, l0, c0, n2, p2, l2, c2, b0, by simpa using t0, by simpa using t2, r0, .inl ⟨rfl, rfl⟩⟩
        | 1, _ => exact ⟨n1, p1, l1, c1, n3, p3, l3, c3, b1, by simpa using t1, by simpa using t3, r1, .inr ⟨rfl, rfl⟩⟩
      replace ta := ta.later hbel
      replace tb := tb.later hbel
      have hi1 : (k : Int) < 2 := by omega
      clear t0 t1 t2 t3 r0 r1
      have hs : Calm.Stays (fun w' => Tat w' g (o + k * 2) n p l cc ∧ Tat w' g' (o' + k * 2) n' p' l' cc' ∧ w'.cell? ⟨w.heap.size, 1, none⟩ = some (.slice (some ⟨g, o, none⟩) 2 c) ∧ w'.cell? ⟨w.heap.size + 1, 1, none⟩ = some (.slice (some ⟨g', o', none⟩) 2 c') ∧ Bx w' w.heap.size 0 (some ⟨g, o, none⟩) 2 c ∧ Bx w' (w.heap.size + 1) 0 (some ⟨g', o', none⟩) 2 c' ∧ Below w.heap.size w w') :=
        fun w1 w2 h hb => ⟨h.1.later hb, h.2.1.later hb, cell_later hb h.2.2.1, cell_later hb h.2.2.2.1, h.2.2.2.2.1.later hb, h.2.2.2.2.2.1.later hb, below_on h.2.2.2.2.2.2 hb⟩
      go_wp2
      refine Calm.region (by kernel_rfl) (by kernel_rfl) (fun w' => Tat w' g (o + k * 2) n p l cc ∧ Tat w' g' (o' + k * 2) n' p' l' cc' ∧ w'.cell? ⟨w.heap.size, 1, none⟩ = some (.slice (some ⟨g, o, none⟩) 2 c) ∧ w'.cell? ⟨w.heap.size + 1, 1, none⟩ = some (.slice (some ⟨g', o', none⟩) 2 c') ∧ Bx w' w.heap.size 0 (some ⟨g, o, none⟩) 2 c ∧ Bx w' (w.heap.size + 1) 0 (some ⟨g', o', none⟩) 2 c' ∧ Below w.heap.size w w') ⟨ta, tb, g1, g3, h1, h2, hbel.drew⟩ ?_
      all_goals
        refine Calm.pure (v := ?_) (by rfl) ?_ ?_
        rotate_left
        focus (intro w hSw; go_simp <;> rfl)
        simp only [Act.put, List.setIfInBounds_toArray, List.set_cons_zero, List.set_cons_succ]
      all_goals
        refine Calm.pure (v := ?_) (by rfl) ?_ ?_
        rotate_left
        focus (intro w hSw; go_simp <;> rfl)
        simp only [Act.put, List.setIfInBounds_toArray, List.set_cons_zero, List.set_cons_succ]
      all_goals
        refine Calm.pure (v := ?_) (by rfl) ?_ ?_
        rotate_left
        focus (intro w hSw; go_simp <;> rfl)
        simp only [Act.put, List.setIfInBounds_toArray, List.set_cons_zero, List.set_cons_succ]
      all_goals
        refine Calm.pure (v := ?_) (by rfl) ?_ ?_
        rotate_left
        focus (intro w hSw; go_simp <;> rfl)
        simp only [Act.put, List.setIfInBounds_toArray, List.set_cons_zero, List.set_cons_succ]
      all_goals
        refine Calm.loadT (by rfl) _ rfl rfl (fun _ h => by go_split_ands; assumption) ?_
        simp only [Act.put, List.setIfInBounds_toArray, List.set_cons_zero, List.set_cons_succ]
      all_goals
        refine Calm.pure (v := ?_) (by rfl) ?_ ?_
        rotate_left
        focus (intro w hSw; go_simp <;> rfl)
        simp only [Act.put, List.setIfInBounds_toArray, List.set_cons_zero, List.set_cons_succ]
      all_goals
        refine Calm.pure (v := ?_) (by rfl) ?_ ?_
        rotate_left
        focus (intro w hSw; go_simp <;> rfl)
        simp only [Act.put, List.setIfInBounds_toArray, List.set_cons_zero, List.set_cons_succ]
      all_goals
        refine Calm.pure (v := ?_) (by rfl) ?_ ?_
        rotate_left
        focus (intro w hSw; go_simp <;> rfl)
        simp only [Act.put, List.setIfInBounds_toArray, List.set_cons_zero, List.set_cons_succ]
      all_goals
        refine Calm.pure (v := ?_) (by rfl) ?_ ?_
        rotate_left
        focus (intro w hSw; go_simp <;> rfl)
        simp only [Act.put, List.setIfInBounds_toArray, List.set_cons_zero, List.set_cons_succ]
      all_goals
        refine Calm.loadT (by rfl) _ rfl rfl (fun _ h => by go_split_ands; assumption) ?_
        simp only [Act.put, List.setIfInBounds_toArray, List.set_cons_zero, List.set_cons_succ]
      all_goals
        refine Calm.call2s (by rfl) rfl rfl rfl (by kernel_rfl) hs (fun w1 h => rr w1 h.2.2.2.2.2.2) ?_
        simp only [Act.put, List.setIfInBounds_toArray, List.set_cons_zero, List.set_cons_succ]
      all_goals
        refine Calm.pure (v := ?_) (by rfl) ?_ ?_
        rotate_left
        focus (intro w hSw; go_simp <;> rfl)
        simp only [Act.put, List.setIfInBounds_toArray, List.set_cons_zero, List.set_cons_succ]
      rintro w9 ⟨_, _, _, _, h1, h2, hbel9⟩
      cases b
      · have HF : Hid (z = false) := by
          show _ = _
          rw [← HZ.out]
          rcases HS.out with ⟨_, rfl⟩ | ⟨_, rfl⟩
          · rfl
          · simp
        go_wp2
        go_ret
        exact ⟨by rw [HF.out]; rfl, hbel9⟩
      · have HA : Hid (1 ≤ k + 1 → b0 = true) := show _ → _ from fun _ => by
          rcases HS.out with ⟨_, rfl⟩ | ⟨h3, _⟩
          · rfl
          · exact H1.out (by omega)
        have HB : Hid (2 ≤ k + 1 → b1 = true) := show _ → _ from fun h => by
          rcases HS.out with ⟨h3, rfl⟩ | ⟨_, rfl⟩
          · omega
          · rfl
        clear H1 H2
        go_wp2
        go_roundw
        case rel => exact ⟨k + 1, by simp, by omega, HA, HB, h1, h2, hbel9⟩
        case measure => simp [intOf]; omega
    · have hk : k = 2 := by omega
      subst hk
      have HF : Hid (z = true) := by
        show _ = _
        rw [← HZ.out, H1.out (by omega), H2.out (by omega)]
        rfl
      go_wp2
      go_ret
      exact ⟨by rw [HF.out]; rfl, hbel⟩

theorem leaf_eq (a b : Bool) : eqb (ID.leaf a) (ID.leaf b) = (a == b) := rfl

set_option maxHeartbeats 2000000 in
set_option maxRecDepth 100000 in
theorem same_leaf (a b : Bool) (p : Option Addr) (c : Nat) (p' : Option Addr) (c' : Nat) (w : World) :
    Calls Try.prog 26 #[TV (bi a) p 0 c, TV (bi b) p' 0 c'] w fun e w' => e = .returned (.bool (eqb (ID.leaf a) (ID.leaf b))) ∧ Below w.heap.size w w' := by
  obtain ⟨h1, h2, hbel⟩ := two_box w (bi a) p 0 c (bi b) p' 0 c' _ rfl
  have g0 := h1.cell0
  have g1 := h1.cell1
  have g2 := h2.cell0
  have g3 := h2.cell1
  obtain ⟨z, HZ⟩ : ∃ z, Hid (eqb (ID.leaf a) (ID.leaf b) = z) := ⟨_, rfl⟩
  rw [HZ.out]
  by_cases hab : a = b
  · subst hab
    have HZ' : Hid (z = true) := show _ = _ by rw [← HZ.out]; exact eqb_refl _
    clear HZ
    go_enter Try.func26, Try.ntmps26
    go_wp2
    go_loopw [5] (fun vi wr => vi = .int .i64 0 ∧ Bx wr w.heap.size (bi a) p 0 c ∧ Below w.heap.size w wr) (fun vi _ => 0)
    case atStart => exact ⟨rfl, h1, hbel⟩
    case round =>
      clear g0 g1 g2 g3 h1 hbel
      obtain ⟨rfl, h1, hbel⟩ := hrel
      have g1 := h1.cell1
      go_wp2
      go_ret
      exact ⟨by rw [HZ'.out]; rfl, hbel⟩
  · have HZ' : Hid (z = false) := show _ = _ by rw [← HZ.out, leaf_eq]; simpa using hab
    have hne : ¬ bi a = bi b := by revert hab; cases a <;> cases b <;> decide
    clear HZ
    go_enter Try.func26, Try.ntmps26
    go_wp2
    go_ret
    exact ⟨by rw [HZ'.out]; rfl, hbel⟩

set_option maxHeartbeats 2000000 in
set_option maxRecDepth 100000 in
theorem same_len (m m' : Int) (p : Option Addr) (l c : Nat) (p' : Option Addr) (l' c' : Nat) (w : World) (hne : ¬ l = l') :
    Calls Try.prog 26 #[TV m p l c, TV m' p' l' c'] w fun e w' => e = .returned (.bool false) ∧ Below w.heap.size w w' := by
  obtain ⟨h1, h2, hbel⟩ := two_box w m p l c m' p' l' c' _ rfl
  have g0 := h1.cell0
  have g1 := h1.cell1
  have g2 := h2.cell0
  have g3 := h2.cell1
  have hne' : ¬ (l : Int) = (l' : Int) := by omega
  by_cases hm : m = m'
  · subst hm
    go_enter Try.func26, Try.ntmps26
    go_wp2
    go_ret
    exact ⟨rfl, hbel⟩
  · go_enter Try.func26, Try.ntmps26
    go_wp2
    go_ret
    exact ⟨rfl, hbel⟩

theorem same_any : ∀ (x y : ID) (n : Int) (p : Option Addr) (l c : Nat) (n' : Int) (p' : Option Addr) (l' c' : Nat) (w : World), Is w x (TV n p l c) → Is w y (TV n' p' l' c') →
    Calls Try.prog 26 #[TV n p l c, TV n' p' l' c'] w fun e w' => e = .returned (.bool (eqb x y)) ∧ Below w.heap.size w w'
  | ⟨.inl a⟩, ⟨.inl b⟩, n, p, l, c, n', p', l', c', w, ⟨_, _, e⟩, ⟨_, _, e'⟩ => by
    simp at e e'
    obtain ⟨rfl, rfl, rfl, rfl⟩ := e
    obtain ⟨rfl, rfl, rfl, rfl⟩ := e'
    exact same_leaf a b p c p' c' w
  | ⟨.inl a⟩, ⟨.inr (x, y)⟩, n, p, l, c, n', p', l', c', w, h, h' => by
    obtain ⟨_, rfl⟩ := is_parts h
    obtain ⟨_, rfl⟩ := is_parts h'
    have := same_len n n' p 0 c p' 2 c' w (by decide)
    rw [show eqb (ID.leaf a) (ID.node x y) = false from rfl]
    exact this
  | ⟨.inr (x, y)⟩, ⟨.inl a⟩, n, p, l, c, n', p', l', c', w, h, h' => by
    obtain ⟨_, rfl⟩ := is_parts h
    obtain ⟨_, rfl⟩ := is_parts h'
    have := same_len n n' p 2 c p' 0 c' w (by decide)
    rw [show eqb (ID.node x y) (ID.leaf a) = false from rfl]
    exact this
  | ⟨.inr (x, y)⟩, ⟨.inr (x', y')⟩, n, p, l, c, n', p', l', c', w, ⟨g, o, cc, n0, p0, l0, c0, n1, p1, l1, c1, e, t0, t1, hx, hy⟩, ⟨g', o', cc', n2, p2, l2, c2, n3, p3, l3, c3, e', t2, t3, hx', hy'⟩ => by
    simp at e e'
    obtain ⟨rfl, rfl, rfl, rfl⟩ := e
    obtain ⟨rfl, rfl, rfl, rfl⟩ := e'
    exact same_node x y x' y' g o c g' o' c' n0 p0 l0 c0 n1 p1 l1 c1 n2 p2 l2 c2 n3 p3 l3 c3 w t0 t1 t2 t3
      (fun w1 hb => same_any x x' _ _ _ _ _ _ _ _ w1 (hx.later hb) (hx'.later hb)) (fun w1 hb => same_any y y' _ _ _ _ _ _ _ _ w1 (hy.later hb) (hy'.later hb))

end Go.Proofs.Ytmcajjdijjcpkaa.Idn
/- The functions unite, Sum and Apart of package idtree. -/
namespace Go.Proofs.Ytmcajjdijjcpkaa.Idn
open Go.RowKit

/-- The sum of two. -/
def unite : ID → ID → Option ID
  | ⟨.inl false⟩, y => some (norm y)
  | ⟨.inl true⟩, ⟨.inl false⟩ => some (.leaf true)
  | ⟨.inl true⟩, ⟨.inl true⟩ => none
  | ⟨.inl true⟩, ⟨.inr (_, _)⟩ => none
  | ⟨.inr (a, b)⟩, ⟨.inl false⟩ => some (norm (.node a b))
  | ⟨.inr (_, _)⟩, ⟨.inl true⟩ => none
  | ⟨.inr (a, b)⟩, ⟨.inr (c, d)⟩ => (unite a c).bind fun x => (unite b d).map fun y => mk x y
def uT (o : Option ID) : ID := o.getD (.leaf false)
def uE (o : Option ID) : Int := if o.isSome then 0 else 42

set_option maxHeartbeats 2000000 in
set_option maxRecDepth 100000 in
theorem unite_node (z0 z1 : Option ID) (g o c g' o' c' : Nat) (n0 : Int) (p0 : Option Addr) (l0 c0 : Nat) (n1 : Int) (p1 : Option Addr) (l1 c1 : Nat) (n2 : Int) (p2 : Option Addr) (l2 c2 : Nat) (n3 : Int) (p3 : Option Addr) (l3 c3 : Nat) (w : World)
    (t0 : Tat w g o n0 p0 l0 c0) (t1 : Tat w g (o + 2) n1 p1 l1 c1) (t2 : Tat w g' o' n2 p2 l2 c2) (t3 : Tat w g' (o' + 2) n3 p3 l3 c3)
    (r0 : ∀ w1, Below w.heap.size w w1 → Calls Try.prog 63 #[TV n0 p0 l0 c0, TV n2 p2 l2 c2] w1 (GivesE (uT z0) (uE z0) w1))
    (r1 : ∀ w1, Below w.heap.size w w1 → Calls Try.prog 63 #[TV n1 p1 l1 c1, TV n3 p3 l3 c3] w1 (GivesE (uT z1) (uE z1) w1)) :
    Calls Try.prog 63 #[TV 0 (some ⟨g, o, none⟩) 2 c, TV 0 (some ⟨g', o', none⟩) 2 c'] w (GivesE (uT (z0.bind fun x => z1.map fun y => mk x y)) (uE (z0.bind fun x => z1.map fun y => mk x y)) w) := by
  obtain ⟨h1, h2, h3, hbel⟩ := three_box w 0 (some ⟨g, o, none⟩) 2 c 0 (some ⟨g', o', none⟩) 2 c' 0 none 0 0 _ rfl
  have hN1 : ∀ w, Calls Try.prog 72 #[TV 0 (some ⟨g, o, none⟩) 2 c] w fun e w' => e = .returned (.bool false) ∧ Below w.heap.size w w' := isNothing_any 0 (some ⟨g, o, none⟩) 2 c
  have hN2 : ∀ w, Calls Try.prog 72 #[TV 0 (some ⟨g', o', none⟩) 2 c'] w fun e w' => e = .returned (.bool false) ∧ Below w.heap.size w w' := isNothing_any 0 (some ⟨g', o', none⟩) 2 c'
  have hL1 : ∀ w, Calls Try.prog 55 #[TV 0 (some ⟨g, o, none⟩) 2 c] w fun e w' => e = .returned (.bool false) ∧ Below w.heap.size w w' := isLeaf_any 0 (some ⟨g, o, none⟩) 2 c
  have hL2 : ∀ w, Calls Try.prog 55 #[TV 0 (some ⟨g', o', none⟩) 2 c'] w fun e w' => e = .returned (.bool false) ∧ Below w.heap.size w w' := isLeaf_any 0 (some ⟨g', o', none⟩) 2 c'
  obtain ⟨z, HZ⟩ : ∃ z, Hid ((z0.bind fun x => z1.map fun y => mk x y) = z) := ⟨_, rfl⟩
  rw [HZ.out]
  obtain ⟨x0, e0, HX0, HE0⟩ : ∃ x e, Hid (uT z0 = x) ∧ Hid (uE z0 = e) := ⟨_, _, rfl, rfl⟩
  obtain ⟨x1, e1, HX1, HE1⟩ : ∃ x e, Hid (uT z1 = x) ∧ Hid (uE z1 = e) := ⟨_, _, rfl, rfl⟩
  obtain ⟨xz, ez, HXZ, HEZ⟩ : ∃ x e, Hid (uT z = x) ∧ Hid (uE z = e) := ⟨_, _, rfl, rfl⟩
  rw [HX0.out, HE0.out] at r0
  rw [HX1.out, HE1.out] at r1
  rw [HXZ.out, HEZ.out]
  go_enter Try.func63, Try.ntmps63
  go_wp2_with (refine load_t _ rfl rfl _ _ rfl h1.tat ?_)
  refine (hN1 _).mono ?_
  rintro e w1 ⟨rfl, hb1⟩
  replace h1 := h1.later hb1
  replace h2 := h2.later hb1
  replace h3 := h3.later hb1
  replace hbel := below_on hbel hb1
  clear hb1 hN1
  go_wp2_with (refine load_t _ rfl rfl _ _ rfl h2.tat ?_)
  refine (hN2 _).mono ?_
  rintro e w2 ⟨rfl, hb1⟩
  replace h1 := h1.later hb1
  replace h2 := h2.later hb1
  replace h3 := h3.later hb1
  replace hbel := below_on hbel hb1
  clear hb1 hN2
  go_wp2_with (refine load_t _ rfl rfl _ _ rfl h1.tat ?_)
  refine (hL1 _).mono ?_
  rintro e w3 ⟨rfl, hb1⟩
  replace h1 := h1.later hb1
  replace h2 := h2.later hb1
  replace h3 := h3.later hb1
  replace hbel := below_on hbel hb1
  clear hb1 hL1
  go_wp2_with (refine load_t _ rfl rfl _ _ rfl h2.tat ?_)
  refine (hL2 _).mono ?_
  rintro e w4 ⟨rfl, hb1⟩
  replace h1 := h1.later hb1
  replace h2 := h2.later hb1
  replace h3 := h3.later hb1
  replace hbel := below_on hbel hb1
  clear hb1 hL2
  go_wp2_with fail
  have hlt := h3.lt
  have hS : Calm.Stays (fun w' => Bx w' (w.heap.size) 0 (some ⟨g, o, none⟩) 2 c ∧ Bx w' (w.heap.size + 1) 0 (some ⟨g', o', none⟩) 2 c' ∧ (∃ n p l c, Bx w' (w.heap.size + 1 + 1) n p l c) ∧ w4.heap.size ≤ w'.heap.size ∧ Below w.heap.size w w') := fun wa wb h hb => ⟨h.1.later hb, h.2.1.later hb, (by obtain ⟨n, p, l, c, h2⟩ := h.2.2.1; exact ⟨n, p, l, c, h2.later hb⟩), Nat.le_trans h.2.2.2.1 hb.size, below_on h.2.2.2.2 hb⟩
  have hF : Facts.Stay [eqF 0 (.pointer (some ⟨w.heap.size, 1, none⟩)), eqF 1 (.slice (some ⟨g, o, none⟩) 2 c), eqF 2 (.pointer (some ⟨g, o, none⟩)), eqF 3 (TV n0 p0 l0 c0), eqF 4 (.pointer (some ⟨w.heap.size + 1, 1, none⟩)), eqF 5 (.slice (some ⟨g', o', none⟩) 2 c'), eqF 6 (.pointer (some ⟨g', o', none⟩)), eqF 7 (TV n2 p2 l2 c2), teF 8 x0 e0, teF 9 x0 e0, isF 10 x0, eqF 11 (.int .i64 e0), alF 12 w4.heap.size, sbF 12 10 w4.heap.size x0, eqF 14 (.int .i64 e0)] := stay_of (by simp only [List.forall_mem_cons]; exact ⟨eqF_stays _ _, eqF_stays _ _, eqF_stays _ _, eqF_stays _ _, eqF_stays _ _, eqF_stays _ _, eqF_stays _ _, eqF_stays _ _, teF_stays _ _ _, teF_stays _ _ _, isF_stays _ _, eqF_stays _ _, alF_stays _ _, sbF_stays _ _ _ _, eqF_stays _ _, fun _ h => by cases h⟩)
  refine Facts.region (by kernel_rfl) (by kernel_rfl) (fun w' => Bx w' (w.heap.size) 0 (some ⟨g, o, none⟩) 2 c ∧ Bx w' (w.heap.size + 1) 0 (some ⟨g', o', none⟩) 2 c' ∧ (∃ n p l c, Bx w' (w.heap.size + 1 + 1) n p l c) ∧ w4.heap.size ≤ w'.heap.size ∧ Below w.heap.size w w') (fun x => { tmps := #[TV 0 (some ⟨g, o, none⟩) 2 c, TV 0 (some ⟨g', o', none⟩) 2 c', .pointer (some ⟨w.heap.size, 0, none⟩), .pointer (some ⟨w.heap.size + 1, 0, none⟩), .pointer (some ⟨w.heap.size + 1 + 1, 0, none⟩), .int .i64 0, x 12, x 14, undef, .bool false, TV 0 (some ⟨g, o, none⟩) 2 c, .bool false, undef, undef, .bool false, TV 0 (some ⟨g', o', none⟩) 2 c', .bool false, undef, undef, .bool false, TV 0 (some ⟨g, o, none⟩) 2 c, .bool false, .bool false, TV 0 (some ⟨g', o', none⟩) 2 c', .bool false, .bool false, undef, x 9, x 0, x 1, x 2, x 3, x 4, x 5, x 6, x 7, x 8, x 10, x 11, undef, undef, undef, undef, undef, undef, undef, undef, undef, undef, undef, undef, undef, undef, undef, undef, undef, undef, undef, undef, undef, undef, undef], defers := [] }) [eqF 0 (.pointer (some ⟨w.heap.size, 1, none⟩)), eqF 1 (.slice (some ⟨g, o, none⟩) 2 c), eqF 2 (.pointer (some ⟨g, o, none⟩)), eqF 3 (TV n0 p0 l0 c0), eqF 4 (.pointer (some ⟨w.heap.size + 1, 1, none⟩)), eqF 5 (.slice (some ⟨g', o', none⟩) 2 c'), eqF 6 (.pointer (some ⟨g', o', none⟩)), eqF 7 (TV n2 p2 l2 c2), teF 8 x0 e0, teF 9 x0 e0, isF 10 x0, eqF 11 (.int .i64 e0), alF 12 w4.heap.size, sbF 12 10 w4.heap.size x0, eqF 14 (.int .i64 e0)] _ rfl (by kernel_rfl) (fun _ => undef) rfl (⟨h1, h2, ⟨_, _, _, _, h3⟩, Nat.le_refl _, hbel.drew⟩) ⟨?_, ?_, ?_, ?_, ?_, ?_, ?_, ?_, ?_, ?_, ?_, ?_, ?_, ?_, ?_, trivial⟩ ?_
  · exact Facts.pure hS hF (fun _ _ => rfl) rfl (fun x wv hSw hd => by
      go_simp)
  · exact Facts.pure hS hF (fun _ _ => rfl) rfl (fun x wv hSw hd => by
      have d0 := eqF_get (hd ⟨0, .data⟩ (by simp) rfl _ rfl)
      have g1 := hSw.1.cell1
      have g2 := hSw.2.1.cell1
      simp only [d0]
      go_simp)
  · exact Facts.pure hS hF (fun _ _ => rfl) rfl (fun x wv hSw hd => by
      have d1 := eqF_get (hd ⟨1, .data⟩ (by simp) rfl _ rfl)
      simp only [d1]
      go_simp)
  · exact Facts.loadT hS hF (fun _ _ => rfl) _ rfl rfl (fun x wv hSw hd => by have d2 := eqF_get (hd ⟨2, .data⟩ (by simp) rfl _ rfl); exact d2) (fun wv hSw => t0.later hSw.2.2.2.2)
  · exact Facts.pure hS hF (fun _ _ => rfl) rfl (fun x wv hSw hd => by
      go_simp)
  · exact Facts.pure hS hF (fun _ _ => rfl) rfl (fun x wv hSw hd => by
      have d4 := eqF_get (hd ⟨4, .data⟩ (by simp) rfl _ rfl)
      have g1 := hSw.1.cell1
      have g2 := hSw.2.1.cell1
      simp only [d4]
      go_simp)
  · exact Facts.pure hS hF (fun _ _ => rfl) rfl (fun x wv hSw hd => by
      have d5 := eqF_get (hd ⟨5, .data⟩ (by simp) rfl _ rfl)
      simp only [d5]
      go_simp)
  · exact Facts.loadT hS hF (fun _ _ => rfl) _ rfl rfl (fun x wv hSw hd => by have d6 := eqF_get (hd ⟨6, .data⟩ (by simp) rfl _ rfl); exact d6) (fun wv hSw => t2.later hSw.2.2.2.2)
  · refine Facts.call2E hS hF (fun _ _ => rfl) rfl (by kernel_rfl) rfl (fun x wv hSw hd => ?_)
    have d3 := eqF_get (hd ⟨3, .data⟩ (by simp) rfl _ rfl)
    have d7 := eqF_get (hd ⟨7, .data⟩ (by simp) rfl _ rfl)
    have hc := r0 _ hSw.2.2.2.2
    rw [← d3, ← d7] at hc
    exact hc
  · exact Facts.moveE hS hF (fun _ _ => rfl) rfl rfl (fun _ => rfl) (fun x wv hSw hd => hd ⟨8, .data⟩ (by simp) rfl _ rfl)
  · exact Facts.fstE hS hF (fun _ _ => rfl) rfl rfl (fun _ => rfl) (fun x wv hSw hd => hd ⟨9, .data⟩ (by simp) rfl _ rfl)
  · exact Facts.sndE hS hF (fun _ _ => rfl) rfl rfl (fun _ => rfl) (fun x wv hSw hd => hd ⟨9, .data⟩ (by simp) rfl _ rfl)
  · exact Facts.allocT hS hF (fun _ _ => rfl) rfl rfl (fun wv hSw => hSw.2.2.2.1)
  · exact Facts.storeP (fun _ _ => rfl) _ _ rfl (by decide) (by decide) rfl (fun _ => rfl) (fun _ => rfl) (fun x wv hSw hd => ⟨hd ⟨12, .data⟩ (by simp) rfl _ rfl, hd ⟨10, .data⟩ (by simp) rfl _ rfl⟩) (fun wv q n p l c n' p' l' c' hSw hq hbx => ⟨hSw.1.rowOther (by omega) _, hSw.2.1.rowOther (by omega) _, (by obtain ⟨n, p, l, c, h⟩ := hSw.2.2.1; exact ⟨n, p, l, c, h.rowOther (by omega) _⟩), (by rw [setRow_size]; exact hSw.2.2.2.1), below_setRow hSw.2.2.2.2 (by omega) _⟩) (fun j f hj hfj q hq => by
      match j with
      | 0 => obtain rfl := Option.some.inj hfj; exact eqF_box _ _ _
      | 1 => obtain rfl := Option.some.inj hfj; exact eqF_box _ _ _
      | 2 => obtain rfl := Option.some.inj hfj; exact eqF_box _ _ _
      | 3 => obtain rfl := Option.some.inj hfj; exact eqF_box _ _ _
      | 4 => obtain rfl := Option.some.inj hfj; exact eqF_box _ _ _
      | 5 => obtain rfl := Option.some.inj hfj; exact eqF_box _ _ _
      | 6 => obtain rfl := Option.some.inj hfj; exact eqF_box _ _ _
      | 7 => obtain rfl := Option.some.inj hfj; exact eqF_box _ _ _
      | 8 => obtain rfl := Option.some.inj hfj; exact teF_box _ _ _ _
      | 9 => obtain rfl := Option.some.inj hfj; exact teF_box _ _ _ _
      | 10 => obtain rfl := Option.some.inj hfj; exact isF_box _ _ _
      | 11 => obtain rfl := Option.some.inj hfj; exact eqF_box _ _ _
      | 12 => obtain rfl := Option.some.inj hfj; exact alF_box _ _ _
      | 14 => obtain rfl := Option.some.inj hfj; exact eqF_box _ _ _
      | 13 => exact absurd rfl hj
      | j + 15 => simp at hfj)
  · exact Facts.pure hS hF (fun _ _ => rfl) rfl (fun x wv hSw hd => by
      have d11 := eqF_get (hd ⟨11, .data⟩ (by simp) rfl _ rfl)
      simp only [d11]
      go_simp)
  rintro xa w5 ⟨h1, h2, ⟨nr, pr, lr, cr, h3⟩, hN5, hbel⟩ hf
  have d14 := eqF_get (hf 14 _ (by decide) rfl)
  obtain ⟨q, nq, pq, lq, cq, d12, d10, hNq, hq, hiq⟩ := sbF_get (hf 13 _ (by decide) rfl)
  clear hf hS hF
  simp only [d14, d12, d10]
  clear d14 d12 d10
  cases z0 with
  | none =>
    obtain rfl : e0 = 42 := by have := HE0.out; rw [← this]; rfl
    obtain rfl : ez = 42 := by have := HEZ.out; rw [← this, ← HZ.out]; rfl
    obtain rfl : xz = .leaf false := by have := HXZ.out; rw [← this, ← HZ.out]; rfl
    have R := below_setRow hbel (g := w.heap.size + 1 + 1) (by omega) #[.int .i64 0, .slice none 0 0]
    clear HX0 HE0 HX1 HE1 HXZ HEZ HZ r0 r1
    go_wp2_with (refine store_t rfl _ _ rfl _ 0 none 0 0 rfl rfl h3 ?_)
    exact bodyPost_ret (results_te rfl rfl (h3.row _ _ _ _)) rfl ⟨_, _, _, _, rfl, is_leaf _ false _ _, R⟩
  | some y0 =>
    obtain rfl : e0 = 0 := by have := HE0.out; rw [← this]; rfl
    have HX0' : Hid (y0 = x0) := HX0.out
    clear HX0 HE0 r0
    go_wp2_with fail
    have hltq := hq.lt
    have hS : Calm.Stays (fun w' => Bx w' (w.heap.size) 0 (some ⟨g, o, none⟩) 2 c ∧ Bx w' (w.heap.size + 1) 0 (some ⟨g', o', none⟩) 2 c' ∧ (∃ n p l c, Bx w' (w.heap.size + 1 + 1) n p l c) ∧ w5.heap.size ≤ w'.heap.size ∧ Below w.heap.size w w' ∧ Bx w' q nq pq lq cq ∧ Is w' x0 (TV nq pq lq cq)) := fun wa wb h hb => ⟨h.1.later hb, h.2.1.later hb, (by obtain ⟨n, p, l, c, h2⟩ := h.2.2.1; exact ⟨n, p, l, c, h2.later hb⟩), Nat.le_trans h.2.2.2.1 hb.size, below_on h.2.2.2.2.1 hb, h.2.2.2.2.2.1.later hb, h.2.2.2.2.2.2.later hb⟩
    have hF : Facts.Stay [eqF 0 (.pointer (some ⟨w.heap.size, 1, none⟩)), eqF 1 (.slice (some ⟨g, o, none⟩) 2 c), eqF 2 (.pointer (some ⟨g, o + 2, none⟩)), eqF 3 (TV n1 p1 l1 c1), eqF 4 (.pointer (some ⟨w.heap.size + 1, 1, none⟩)), eqF 5 (.slice (some ⟨g', o', none⟩) 2 c'), eqF 6 (.pointer (some ⟨g', o' + 2, none⟩)), eqF 7 (TV n3 p3 l3 c3), teF 8 x1 e1, teF 9 x1 e1, isF 10 x1, eqF 11 (.int .i64 e1), alF 12 w5.heap.size, sbF 12 10 w5.heap.size x1, eqF 14 (.int .i64 e1)] := stay_of (by simp only [List.forall_mem_cons]; exact ⟨eqF_stays _ _, eqF_stays _ _, eqF_stays _ _, eqF_stays _ _, eqF_stays _ _, eqF_stays _ _, eqF_stays _ _, eqF_stays _ _, teF_stays _ _ _, teF_stays _ _ _, isF_stays _ _, eqF_stays _ _, alF_stays _ _, sbF_stays _ _ _ _, eqF_stays _ _, fun _ h => by cases h⟩)
    refine Facts.region (by kernel_rfl) (by kernel_rfl) (fun w' => Bx w' (w.heap.size) 0 (some ⟨g, o, none⟩) 2 c ∧ Bx w' (w.heap.size + 1) 0 (some ⟨g', o', none⟩) 2 c' ∧ (∃ n p l c, Bx w' (w.heap.size + 1 + 1) n p l c) ∧ w5.heap.size ≤ w'.heap.size ∧ Below w.heap.size w w' ∧ Bx w' q nq pq lq cq ∧ Is w' x0 (TV nq pq lq cq)) (fun x => { tmps := #[TV 0 (some ⟨g, o, none⟩) 2 c, TV 0 (some ⟨g', o', none⟩) 2 c', .pointer (some ⟨w.heap.size, 0, none⟩), .pointer (some ⟨w.heap.size + 1, 0, none⟩), .pointer (some ⟨w.heap.size + 1 + 1, 0, none⟩), .int .i64 0, .pointer (some ⟨q, 0, none⟩), x 14, x 12, .bool false, TV 0 (some ⟨g, o, none⟩) 2 c, .bool false, undef, undef, .bool false, TV 0 (some ⟨g', o', none⟩) 2 c', .bool false, undef, undef, .bool false, TV 0 (some ⟨g, o, none⟩) 2 c, .bool false, .bool false, TV 0 (some ⟨g', o', none⟩) 2 c', .bool false, .bool false, undef, xa 9, xa 0, xa 1, xa 2, xa 3, xa 4, xa 5, xa 6, xa 7, xa 8, TV nq pq lq cq, xa 11, .int .i64 0, .bool false, undef, undef, x 9, x 0, x 1, x 2, x 3, x 4, x 5, x 6, x 7, x 8, x 10, x 11, undef, undef, undef, undef, undef, undef, undef], defers := [] }) [eqF 0 (.pointer (some ⟨w.heap.size, 1, none⟩)), eqF 1 (.slice (some ⟨g, o, none⟩) 2 c), eqF 2 (.pointer (some ⟨g, o + 2, none⟩)), eqF 3 (TV n1 p1 l1 c1), eqF 4 (.pointer (some ⟨w.heap.size + 1, 1, none⟩)), eqF 5 (.slice (some ⟨g', o', none⟩) 2 c'), eqF 6 (.pointer (some ⟨g', o' + 2, none⟩)), eqF 7 (TV n3 p3 l3 c3), teF 8 x1 e1, teF 9 x1 e1, isF 10 x1, eqF 11 (.int .i64 e1), alF 12 w5.heap.size, sbF 12 10 w5.heap.size x1, eqF 14 (.int .i64 e1)] _ rfl (by kernel_rfl) (fun k => if k = 14 then .int .i64 0 else undef) rfl (⟨h1, h2, ⟨_, _, _, _, h3⟩, Nat.le_refl _, hbel.drew, hq, hiq.later (Below.refl _ _).drew⟩) ⟨?_, ?_, ?_, ?_, ?_, ?_, ?_, ?_, ?_, ?_, ?_, ?_, ?_, ?_, ?_, trivial⟩ ?_
    · exact Facts.pure hS hF (fun _ _ => rfl) rfl (fun x wv hSw hd => by
        go_simp)
    · exact Facts.pure hS hF (fun _ _ => rfl) rfl (fun x wv hSw hd => by
        have d0 := eqF_get (hd ⟨0, .data⟩ (by simp) rfl _ rfl)
        have g1 := hSw.1.cell1
        have g2 := hSw.2.1.cell1
        simp only [d0]
        go_simp)
    · exact Facts.pure hS hF (fun _ _ => rfl) rfl (fun x wv hSw hd => by
        have d1 := eqF_get (hd ⟨1, .data⟩ (by simp) rfl _ rfl)
        simp only [d1]
        go_simp)
    · exact Facts.loadT hS hF (fun _ _ => rfl) _ rfl rfl (fun x wv hSw hd => by have d2 := eqF_get (hd ⟨2, .data⟩ (by simp) rfl _ rfl); exact d2) (fun wv hSw => t1.later hSw.2.2.2.2.1)
    · exact Facts.pure hS hF (fun _ _ => rfl) rfl (fun x wv hSw hd => by
        go_simp)
    · exact Facts.pure hS hF (fun _ _ => rfl) rfl (fun x wv hSw hd => by
        have d4 := eqF_get (hd ⟨4, .data⟩ (by simp) rfl _ rfl)
        have g1 := hSw.1.cell1
        have g2 := hSw.2.1.cell1
        simp only [d4]
        go_simp)
    · exact Facts.pure hS hF (fun _ _ => rfl) rfl (fun x wv hSw hd => by
        have d5 := eqF_get (hd ⟨5, .data⟩ (by simp) rfl _ rfl)
        simp only [d5]
        go_simp)
    · exact Facts.loadT hS hF (fun _ _ => rfl) _ rfl rfl (fun x wv hSw hd => by have d6 := eqF_get (hd ⟨6, .data⟩ (by simp) rfl _ rfl); exact d6) (fun wv hSw => t3.later hSw.2.2.2.2.1)
    · refine Facts.call2E hS hF (fun _ _ => rfl) rfl (by kernel_rfl) rfl (fun x wv hSw hd => ?_)
      have d3 := eqF_get (hd ⟨3, .data⟩ (by simp) rfl _ rfl)
      have d7 := eqF_get (hd ⟨7, .data⟩ (by simp) rfl _ rfl)
      have hc := r1 _ hSw.2.2.2.2.1
      rw [← d3, ← d7] at hc
      exact hc
    · exact Facts.moveE hS hF (fun _ _ => rfl) rfl rfl (fun _ => rfl) (fun x wv hSw hd => hd ⟨8, .data⟩ (by simp) rfl _ rfl)
    · exact Facts.fstE hS hF (fun _ _ => rfl) rfl rfl (fun _ => rfl) (fun x wv hSw hd => hd ⟨9, .data⟩ (by simp) rfl _ rfl)
    · exact Facts.sndE hS hF (fun _ _ => rfl) rfl rfl (fun _ => rfl) (fun x wv hSw hd => hd ⟨9, .data⟩ (by simp) rfl _ rfl)
    · exact Facts.allocT hS hF (fun _ _ => rfl) rfl rfl (fun wv hSw => hSw.2.2.2.1)
    · exact Facts.storeP (fun _ _ => rfl) _ _ rfl (by decide) (by decide) rfl (fun _ => rfl) (fun _ => rfl) (fun x wv hSw hd => ⟨hd ⟨12, .data⟩ (by simp) rfl _ rfl, hd ⟨10, .data⟩ (by simp) rfl _ rfl⟩) (fun wv q n p l c n' p' l' c' hSw hq hbx => ⟨hSw.1.rowOther (by omega) _, hSw.2.1.rowOther (by omega) _, (by obtain ⟨n, p, l, c, h⟩ := hSw.2.2.1; exact ⟨n, p, l, c, h.rowOther (by omega) _⟩), (by rw [setRow_size]; exact hSw.2.2.2.1), below_setRow hSw.2.2.2.2.1 (by omega) _, hSw.2.2.2.2.2.1.rowOther (by omega) _, hSw.2.2.2.2.2.2.box hbx _⟩) (fun j f hj hfj q hq => by
        match j with
        | 0 => obtain rfl := Option.some.inj hfj; exact eqF_box _ _ _
        | 1 => obtain rfl := Option.some.inj hfj; exact eqF_box _ _ _
        | 2 => obtain rfl := Option.some.inj hfj; exact eqF_box _ _ _
        | 3 => obtain rfl := Option.some.inj hfj; exact eqF_box _ _ _
        | 4 => obtain rfl := Option.some.inj hfj; exact eqF_box _ _ _
        | 5 => obtain rfl := Option.some.inj hfj; exact eqF_box _ _ _
        | 6 => obtain rfl := Option.some.inj hfj; exact eqF_box _ _ _
        | 7 => obtain rfl := Option.some.inj hfj; exact eqF_box _ _ _
        | 8 => obtain rfl := Option.some.inj hfj; exact teF_box _ _ _ _
        | 9 => obtain rfl := Option.some.inj hfj; exact teF_box _ _ _ _
        | 10 => obtain rfl := Option.some.inj hfj; exact isF_box _ _ _
        | 11 => obtain rfl := Option.some.inj hfj; exact eqF_box _ _ _
        | 12 => obtain rfl := Option.some.inj hfj; exact alF_box _ _ _
        | 14 => obtain rfl := Option.some.inj hfj; exact eqF_box _ _ _
        | 13 => exact absurd rfl hj
        | j + 15 => simp at hfj)
    · exact Facts.pure hS hF (fun _ _ => rfl) rfl (fun x wv hSw hd => by
        have d11 := eqF_get (hd ⟨11, .data⟩ (by simp) rfl _ rfl)
        simp only [d11]
        go_simp)
    rintro xb w6 ⟨h1, h2, ⟨nr, pr, lr, cr, h3⟩, hN6, hbel, hq, hiq⟩ hf
    have d14 := eqF_get (hf 14 _ (by decide) rfl)
    obtain ⟨q', nq', pq', lq', cq', d12, d10, hNq', hq', hiq'⟩ := sbF_get (hf 13 _ (by decide) rfl)
    clear hf hS hF
    simp only [d14, d12, d10]
    clear d14 d12 d10
    cases z1 with
    | none =>
      obtain rfl : e1 = 42 := by have := HE1.out; rw [← this]; rfl
      obtain rfl : ez = 42 := by have := HEZ.out; rw [← this, ← HZ.out]; rfl
      obtain rfl : xz = .leaf false := by have := HXZ.out; rw [← this, ← HZ.out]; rfl
      have R := below_setRow hbel (g := w.heap.size + 1 + 1) (by omega) #[.int .i64 0, .slice none 0 0]
      clear HX1 HE1 HXZ HEZ HZ r1
      go_wp2_with (refine store_t rfl _ _ rfl _ 0 none 0 0 rfl rfl h3 ?_)
      exact bodyPost_ret (results_te rfl rfl (h3.row _ _ _ _)) rfl ⟨_, _, _, _, rfl, is_leaf _ false _ _, R⟩
    | some y1 =>
      obtain rfl : e1 = 0 := by have := HE1.out; rw [← this]; rfl
      obtain rfl : ez = 0 := by have := HEZ.out; rw [← this, ← HZ.out]; rfl
      obtain rfl : xz = mk x0 x1 := by rw [← HXZ.out, ← HZ.out, ← HX0'.out, ← HX1.out]; rfl
      clear HX1 HE1 HXZ HEZ HZ r1 HX0'
      go_wp2_with (first | refine load_t _ rfl rfl _ _ rfl hq.tat ?_ | refine load_t _ rfl rfl _ _ rfl hq'.tat ?_)
      refine (pair_any x0 x1 _ _ _ _ _ _ _ _ _ hiq hiq').mono ?_
      rintro e w7 ⟨n', p', l', c', rfl, hi, hb1⟩
      replace h3 := h3.later hb1
      have R := below_setRow (below_on hbel hb1) (g := w.heap.size + 1 + 1) (by omega) #[.int .i64 n', .slice p' l' c']
      clear hbel hb1 hq hq'
      go_wp2_with (refine store_t rfl _ _ rfl _ n' p' l' c' rfl rfl h3 ?_)
      exact bodyPost_ret (results_te rfl rfl (h3.row _ _ _ _)) rfl ⟨_, _, _, _, rfl, hi.box h3 _, R⟩

/-- It is the leaf 0. -/
def nil : ID → Bool
  | ⟨.inl b⟩ => !b
  | ⟨.inr (_, _)⟩ => false
theorem nil_eq (x : ID) : (decide (len x = 0) && num x == 0) = nil x := by
  rcases x with ⟨b | ⟨_, _⟩⟩
  · cases b <;> rfl
  · rfl
theorem isNothing_is {x : ID} {n : Int} {p : Option Addr} {l c : Nat} {w0 : World} (h : Is w0 x (TV n p l c)) (w : World) : Calls Try.prog 72 #[TV n p l c] w fun e w' => e = .returned (.bool (nil x)) ∧ Below w.heap.size w w' := by
  have := isNothing_any n p l c w
  obtain ⟨rfl, rfl⟩ := is_parts h
  rwa [nil_eq] at this
theorem isLeaf_is {x : ID} {n : Int} {p : Option Addr} {l c : Nat} {w0 : World} (h : Is w0 x (TV n p l c)) (w : World) : Calls Try.prog 55 #[TV n p l c] w fun e w' => e = .returned (.bool (lf x)) ∧ Below w.heap.size w w' := by
  have := isLeaf_any n p l c w
  obtain ⟨rfl, rfl⟩ := is_parts h
  rwa [len_lf] at this

set_option maxHeartbeats 2000000 in
set_option maxRecDepth 100000 in
theorem unite_left (x y : ID) (n : Int) (p : Option Addr) (l c : Nat) (n' : Int) (p' : Option Addr) (l' c' : Nat) (w : World) (hx : Is w x (TV n p l c)) (hy : Is w y (TV n' p' l' c')) (h0 : nil x = true) :
    Calls Try.prog 63 #[TV n p l c, TV n' p' l' c'] w (GivesE (norm y) 0 w) := by
  obtain ⟨h1, h2, h3, hbel⟩ := three_box w n p l c n' p' l' c' 0 none 0 0 _ rfl
  have hN := isNothing_is hx
  rw [h0] at hN
  have hC := fun w1 (hb : Below w.heap.size w w1) => shorten_any y n' p' l' c' w1 (hy.later hb)
  clear hx hy h0
  go_enter Try.func63, Try.ntmps63
  go_wp2_with (refine load_t _ rfl rfl _ _ rfl h1.tat ?_)
  refine (hN _).mono ?_
  rintro e w1 ⟨rfl, hb1⟩
  replace h2 := h2.later hb1
  replace h3 := h3.later hb1
  replace hbel := below_on hbel hb1
  clear hb1 hN h1
  go_wp2_with (refine load_t _ rfl rfl _ _ rfl h2.tat ?_)
  refine (hC _ hbel).mono ?_
  rintro e w2 ⟨n2, p2, l2, c2, rfl, hi, hb1⟩
  replace h3 := h3.later hb1
  have R := below_setRow (below_on hbel hb1) (g := w.heap.size + 1 + 1) (by omega) #[.int .i64 n2, .slice p2 l2 c2]
  clear hbel hb1 h2 hC
  go_wp2_with (refine store_t rfl _ _ rfl _ n2 p2 l2 c2 rfl rfl h3 ?_)
  exact bodyPost_ret (results_te rfl rfl (h3.row _ _ _ _)) rfl ⟨_, _, _, _, rfl, hi.box h3 _, R⟩

set_option maxHeartbeats 2000000 in
set_option maxRecDepth 100000 in
theorem unite_right (x y : ID) (n : Int) (p : Option Addr) (l c : Nat) (n' : Int) (p' : Option Addr) (l' c' : Nat) (w : World) (hx : Is w x (TV n p l c)) (hy : Is w y (TV n' p' l' c')) (h0 : nil x = false) (h0' : nil y = true) :
    Calls Try.prog 63 #[TV n p l c, TV n' p' l' c'] w (GivesE (norm x) 0 w) := by
  obtain ⟨h1, h2, h3, hbel⟩ := three_box w n p l c n' p' l' c' 0 none 0 0 _ rfl
  have hN := isNothing_is hx
  rw [h0] at hN
  have hN' := isNothing_is hy
  rw [h0'] at hN'
  have hC := fun w1 (hb : Below w.heap.size w w1) => shorten_any x n p l c w1 (hx.later hb)
  clear hx hy h0 h0'
  go_enter Try.func63, Try.ntmps63
  go_wp2_with (refine load_t _ rfl rfl _ _ rfl h1.tat ?_)
  refine (hN _).mono ?_
  rintro e w1 ⟨rfl, hb1⟩
  replace h1 := h1.later hb1
  replace h2 := h2.later hb1
  replace h3 := h3.later hb1
  replace hbel := below_on hbel hb1
  clear hb1 hN
  go_wp2_with (refine load_t _ rfl rfl _ _ rfl h2.tat ?_)
  refine (hN' _).mono ?_
  rintro e w2 ⟨rfl, hb1⟩
  replace h1 := h1.later hb1
  replace h3 := h3.later hb1
  replace hbel := below_on hbel hb1
  clear hb1 hN' h2
  go_wp2_with (refine load_t _ rfl rfl _ _ rfl h1.tat ?_)
  refine (hC _ hbel).mono ?_
  rintro e w3 ⟨n2, p2, l2, c2, rfl, hi, hb1⟩
  replace h3 := h3.later hb1
  have R := below_setRow (below_on hbel hb1) (g := w.heap.size + 1 + 1) (by omega) #[.int .i64 n2, .slice p2 l2 c2]
  clear hbel hb1 h1 hC
  go_wp2_with (refine store_t rfl _ _ rfl _ n2 p2 l2 c2 rfl rfl h3 ?_)
  exact bodyPost_ret (results_te rfl rfl (h3.row _ _ _ _)) rfl ⟨_, _, _, _, rfl, hi.box h3 _, R⟩

set_option maxHeartbeats 2000000 in
set_option maxRecDepth 100000 in
theorem unite_joint (x y : ID) (n : Int) (p : Option Addr) (l c : Nat) (n' : Int) (p' : Option Addr) (l' c' : Nat) (w : World) (hx : Is w x (TV n p l c)) (hy : Is w y (TV n' p' l' c')) (h0 : nil x = false) (h0' : nil y = false) (hl : lf x = true ∨ lf y = true) :
    Calls Try.prog 63 #[TV n p l c, TV n' p' l' c'] w (GivesE (.leaf false) 42 w) := by
  obtain ⟨h1, h2, h3, hbel⟩ := three_box w n p l c n' p' l' c' 0 none 0 0 _ rfl
  have hN := isNothing_is hx
  rw [h0] at hN
  have hN' := isNothing_is hy
  rw [h0'] at hN'
  have hL := isLeaf_is hx
  have hL' := isLeaf_is hy
  generalize lf x = b at hL hl
  generalize lf y = b' at hL' hl
  have HL : Hid (b = true ∨ b' = true) := hl
  clear hx hy h0 h0' hl
  go_enter Try.func63, Try.ntmps63
  go_wp2_with (refine load_t _ rfl rfl _ _ rfl h1.tat ?_)
  refine (hN _).mono ?_
  rintro e w1 ⟨rfl, hb1⟩
  replace h1 := h1.later hb1
  replace h2 := h2.later hb1
  replace h3 := h3.later hb1
  replace hbel := below_on hbel hb1
  clear hb1 hN
  go_wp2_with (refine load_t _ rfl rfl _ _ rfl h2.tat ?_)
  refine (hN' _).mono ?_
  rintro e w2 ⟨rfl, hb1⟩
  replace h1 := h1.later hb1
  replace h2 := h2.later hb1
  replace h3 := h3.later hb1
  replace hbel := below_on hbel hb1
  clear hb1 hN'
  go_wp2_with (refine load_t _ rfl rfl _ _ rfl h1.tat ?_)
  refine (hL _).mono ?_
  rintro e w3 ⟨rfl, hb1⟩
  replace h2 := h2.later hb1
  replace h3 := h3.later hb1
  replace hbel := below_on hbel hb1
  clear hb1 hL h1
  cases b
  · obtain rfl : b' = true := by rcases HL.out with h | h; · cases h
                                 · exact h
    go_wp2_with (refine load_t _ rfl rfl _ _ rfl h2.tat ?_)
    refine (hL' _).mono ?_
    rintro e w4 ⟨rfl, hb1⟩
    replace h3 := h3.later hb1
    have R := below_setRow (below_on hbel hb1) (g := w.heap.size + 1 + 1) (by omega) #[.int .i64 0, .slice none 0 0]
    clear hbel hb1 hL' h2 HL
    go_wp2_with (refine store_t rfl _ _ rfl _ 0 none 0 0 rfl rfl h3 ?_)
    exact bodyPost_ret (results_te rfl rfl (h3.row _ _ _ _)) rfl ⟨_, _, _, _, rfl, is_leaf _ false _ _, R⟩
  · have R := below_setRow hbel (g := w.heap.size + 1 + 1) (by omega) #[.int .i64 0, .slice none 0 0]
    clear hbel h2 HL hL'
    go_wp2_with (refine store_t rfl _ _ rfl _ 0 none 0 0 rfl rfl h3 ?_)
    exact bodyPost_ret (results_te rfl rfl (h3.row _ _ _ _)) rfl ⟨_, _, _, _, rfl, is_leaf _ false _ _, R⟩

theorem unite_any : ∀ (x y : ID) (n : Int) (p : Option Addr) (l c : Nat) (n' : Int) (p' : Option Addr) (l' c' : Nat) (w : World), Is w x (TV n p l c) → Is w y (TV n' p' l' c') →
    Calls Try.prog 63 #[TV n p l c, TV n' p' l' c'] w (GivesE (uT (unite x y)) (uE (unite x y)) w)
  | ⟨.inl false⟩, y, _, _, _, _, _, _, _, _, w, hx, hy => unite_left _ y _ _ _ _ _ _ _ _ w hx hy rfl
  | ⟨.inl true⟩, ⟨.inl false⟩, _, _, _, _, _, _, _, _, w, hx, hy => unite_right _ _ _ _ _ _ _ _ _ _ w hx hy rfl rfl
  | ⟨.inl true⟩, ⟨.inl true⟩, _, _, _, _, _, _, _, _, w, hx, hy => unite_joint _ _ _ _ _ _ _ _ _ _ w hx hy rfl rfl (.inl rfl)
  | ⟨.inl true⟩, ⟨.inr (_, _)⟩, _, _, _, _, _, _, _, _, w, hx, hy => unite_joint _ _ _ _ _ _ _ _ _ _ w hx hy rfl rfl (.inl rfl)
  | ⟨.inr (_, _)⟩, ⟨.inl false⟩, _, _, _, _, _, _, _, _, w, hx, hy => unite_right _ _ _ _ _ _ _ _ _ _ w hx hy rfl rfl
  | ⟨.inr (_, _)⟩, ⟨.inl true⟩, _, _, _, _, _, _, _, _, w, hx, hy => unite_joint _ _ _ _ _ _ _ _ _ _ w hx hy rfl rfl (.inr rfl)
  | ⟨.inr (x, y)⟩, ⟨.inr (x', y')⟩, n, p, l, c, n', p', l', c', w, ⟨g, o, cc, n0, p0, l0, c0, n1, p1, l1, c1, e, t0, t1, hx, hy⟩, ⟨g', o', cc', n2, p2, l2, c2, n3, p3, l3, c3, e', t2, t3, hx', hy'⟩ => by
    simp at e e'
    obtain ⟨rfl, rfl, rfl, rfl⟩ := e
    obtain ⟨rfl, rfl, rfl, rfl⟩ := e'
    exact unite_node (unite x x') (unite y y') g o c g' o' c' n0 p0 l0 c0 n1 p1 l1 c1 n2 p2 l2 c2 n3 p3 l3 c3 w t0 t1 t2 t3
      (fun w1 hb => unite_any x x' _ _ _ _ _ _ _ _ w1 (hx.later hb) (hx'.later hb)) (fun w1 hb => unite_any y y' _ _ _ _ _ _ _ _ w1 (hy.later hb) (hy'.later hb))
end Go.Proofs.Ytmcajjdijjcpkaa.Idn
