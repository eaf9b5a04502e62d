import Derived.Test.YtfiamiflkfdhoaaP6
import Derived.Test.YtfiamiflkfdhoaaP1
import Derived.OrdersHeld
import Derived.Deep.MidRow
import Derived.Test.YtfiamiflkfdhoaaP5
import Derived.Test.YtfiamiflkfdhoaaP4
/- What the program's calls of layer 19 answer, as premises of the laws. -/
namespace Go.Proofs.Ytfiamiflkfdhoaa
open Go.RowKit

def OfPost (off : Nat → Prop) (v : List Int) (l : List T) (t : T) (w : World) (e : Ending) (w' : World) : Prop := ∃ u zs, e = .returned (.tuple #[u, .int .i64 (ofE v l t)]) ∧ (ofE v l t = 0 → zs.map (·.1) = ofL v l t) ∧ XAt w' u zs off ∧ Below w.heap.size w w'
def DrX (off : Nat → Prop) (v : List Int) (l : List T) (w : World) (e : Ending) (w' : World) : Prop := ∃ u1 u2 z1 z2, e = .returned (.tuple #[u1, u2, V (drV v l)]) ∧ z1.map (·.1) = drG v l ∧ z2.map (·.1) = drL v l ∧ XAt w' u1 z1 off ∧ XAt w' u2 z2 off ∧ Below w.heap.size w w'
structure Prg : Prop where
  offer : ∀ (off : Nat → Prop) (v : List Int) (ys : List (T × Value)) (sv : Value) (t : T) (sl : Value) (w : World), v.length = 13 → (∀ b, off b → b < w.heap.size) → XAt w sv ys off → OHas w sl t.ops → (∀ b, off b → Off b sl) → ys.length ≤ 41 → (∀ y ∈ ys, y.1.ops.length ≤ 1000) → Calls Try.prog 7 #[V v, sv, TxV t.p t.s t.v t.t sl] w (OfPost off v (ys.map (·.1)) t w)
  drain : ∀ (off : Nat → Prop) (v : List Int) (ys : List (T × Value)) (sv : Value) (w : World), v.length = 13 → (∀ b, off b → b < w.heap.size) → XAt w sv ys off → ys.length ≤ 41 → (∀ y ∈ ys, y.1.ops.length ≤ 1000) → Calls Try.prog 8 #[V v, sv] w (DrX off v (ys.map (·.1)) w)
  ready : ∀ (v : List Int) (t : T) (sl : Value) (w : World), v.length = 13 → OHas w sl t.ops → Calls Try.prog 13 #[V v, TxV t.p t.s t.v t.t sl] w (Tells (.bool (rdy v t)) w)
  closed : ∀ (l : List T) (sv : Value) (w : World), XHas w sv l → l.length ≤ 100 → Calls Try.prog 14 #[sv] w (Tells (.bool (clb zeros l)) w)
  heads : ∀ (w : World), Calls Try.prog 6 #[] w (Tells (.bool true) w)
end Go.Proofs.Ytfiamiflkfdhoaa
/- A region that draws its order, walked in the text's order: what only reads is taken first, each in one word; what is alone in its turn (a call whose answer hangs on the world, an allocation, a store) is walked as it comes. Nothing of one program. -/
namespace Go.Proofs.Ytfiamiflkfdhoaa.Held

/-- From the operation k on, those of the list. -/
def HL (P : Program) (ops : Array Oper) (Q : Exit → Act → World → Prop) (S : World → Prop) (l : List Oper) (k : Nat) (listed : Array Bool) (a : Act) (w : World) : Prop := (∀ j, l[j]? = ops[k + j]?) → wpAnyH P .any ops Q S l.length listed a w
section
variable {P : Program} {ops : Array Oper} {Q : Exit → Act → World → Prop} {S : World → Prop} {l : List Oper} {k : Nat} {listed : Array Bool} {a a' : Act} {w : World} {o : Oper}
theorem tail (hl : ∀ j, (o :: l)[j]? = ops[k + j]?) (j : Nat) : l[j]? = ops[k + 1 + j]? := by
  have := hl (j + 1)
  rw [show k + 1 + j = k + (j + 1) by omega]
  simpa using this
theorem take {v : Value} (hy : YieldsIf P ops S o v a) (hS : S w) (h : HL P ops Q S l (k + 1) (listed.setIfInBounds k true) (a.put o.dst v) w) (hs : Region.noSelect ops = true) (hf : Region.free .any ops listed k = true) (hr : (Region.ready .any ops listed).contains k = true) (hQ : ∀ c a w, Q (.panic c) (a.put o.dst v) w → Q (.panic c) a w) : HL P ops Q S (o :: l) k listed a w := fun hl =>
  wpAnyH_take (by simpa using (hl 0).symm) hs hf hr hQ hy hS (h (tail hl))
/-- Passed over. -/
theorem sk (hS : S w) (h : HL P ops Q S l (k + 1) (listed.setIfInBounds k true) a' w) (hw : Region.wanted o (yielded ops a.tmps) = false := by rfl) (hs : Region.noSelect ops = true := by kernel_rfl) (hf : Region.free .any ops listed k = true := by kernel_rfl) (hr : (Region.ready .any ops listed).contains k = true := by kernel_rfl) (hQ : ∀ c a w, Q (.panic c) (a.put o.dst undef) w → Q (.panic c) a w := by exact fun _ _ _ h => h)
    (hp : a.put o.dst undef = a' := by (simp only [Act.put, List.setIfInBounds_toArray, List.set_cons_zero, List.set_cons_succ]; rfl)) : HL P ops Q S (o :: l) k listed a w :=
  take (.inr ⟨hw, rfl⟩) hS (hp ▸ h) hs hf hr hQ
/-- Run to a value. -/
theorem pu {v : Value} (hS : S w) (h : HL P ops Q S l (k + 1) (listed.setIfInBounds k true) a' w) (hw : Region.wanted o (yielded ops a.tmps) = true := by rfl) (hv : ∀ w, S w → (execOp a.eval o).run P w = .ok (.value v) w := by (intro w hSw; go_simp <;> rfl)) (hs : Region.noSelect ops = true := by kernel_rfl) (hf : Region.free .any ops listed k = true := by kernel_rfl) (hr : (Region.ready .any ops listed).contains k = true := by kernel_rfl) (hQ : ∀ c a w, Q (.panic c) (a.put o.dst v) w → Q (.panic c) a w := by exact fun _ _ _ h => h)
    (hp : a.put o.dst v = a' := by (simp only [Act.put, List.setIfInBounds_toArray, List.set_cons_zero, List.set_cons_succ]; rfl)) : HL P ops Q S (o :: l) k listed a w :=
  take (.inl ⟨hw, hv⟩) hS (hp ▸ h) hs hf hr hQ
/-- A load of what a cell holds. -/
theorem ce {v : Value} {ad : Addr} (g : ∀ w, S w → w.cell? ad = some v) (hS : S w) (h : HL P ops Q S l (k + 1) (listed.setIfInBounds k true) a' w) (hw : Region.wanted o (yielded ops a.tmps) = true := by rfl) (hv : ∀ w, S w → w.cell? ad = some v → (execOp a.eval o).run P w = .ok (.value v) w := by (intro w hSw g1; go_simp)) (hs : Region.noSelect ops = true := by kernel_rfl) (hf : Region.free .any ops listed k = true := by kernel_rfl) (hr : (Region.ready .any ops listed).contains k = true := by kernel_rfl) (hQ : ∀ c a w, Q (.panic c) (a.put o.dst v) w → Q (.panic c) a w := by exact fun _ _ _ h => h)
    (hp : a.put o.dst v = a' := by (simp only [Act.put, List.setIfInBounds_toArray, List.set_cons_zero, List.set_cons_succ]; rfl)) : HL P ops Q S (o :: l) k listed a w :=
  take (.inl ⟨hw, fun w h => hv w h (g w h)⟩) hS (hp ▸ h) hs hf hr hQ
/-- A load of a struct. -/
theorem lm {b f : Nat} {cs : List Value} {t : TypeId} {d : TypeDesc} {x : Operand} (hz : (P.info? t).map (·.size) = some cs.length) (g : ∀ w, S w → w.rangeAt b f cs) (hu : P.underlying t = some d) (hS : S w) (h : HL P ops Q S l (k + 1) (listed.setIfInBounds k true) a' w) (hw : Region.wanted o (yielded ops a.tmps) = true := by rfl) (ho : o.op = .load t x := by rfl) (hx : a.eval x = .pointer (some ⟨b, f, none⟩) := by rfl) (hd : d.isRow = true := by rfl) (hs : Region.noSelect ops = true := by kernel_rfl) (hf : Region.free .any ops listed k = true := by kernel_rfl) (hr : (Region.ready .any ops listed).contains k = true := by kernel_rfl)
    (hQ : ∀ c a w, Q (.panic c) (a.put o.dst (.agg cs.toArray)) w → Q (.panic c) a w := by exact fun _ _ _ h => h) (hp : a.put o.dst (.agg cs.toArray) = a' := by (simp only [Act.put, List.setIfInBounds_toArray, List.set_cons_zero, List.set_cons_succ]; rfl)) : HL P ops Q S (o :: l) k listed a w :=
  take (.inl ⟨hw, fun w hw' => by
    have h2 := run_loadVar_mid (P := P) w b f t cs d (g w hw') hu hd hz
    unfold execOp
    simp only [ho, hx, Instr.loadAt, Instr.sureAddr, Sem.run_bind, Sem.run_pure, h2, Result.andThen_ok]⟩) hS (hp ▸ h) hs hf hr hQ
/-- The one whose turn it is. -/
theorem al (h : o.wp P a w (fun a' w' => S w' ∧ HL P ops Q S l (k + 1) (listed.setIfInBounds k true) a' w') Q) (hr : Region.ready .any ops listed = [k]) (hw : Region.wanted o (yielded ops a.tmps) = true) : HL P ops Q S (o :: l) k listed a w := fun hl =>
  wpAnyH_all hr (by simp) fun j hj => by
    obtain rfl : j = k := by simpa using hj
    have hi : ops[j]? = some o := by simpa using (hl 0).symm
    unfold wpOp
    simp only [hi, hw, if_true]
    exact .inl (Oper.wp_mono (fun a' w' h => ⟨h.1, h.2 (tail hl)⟩) h)
/-- It is a call of a function by its name. -/
theorem kn {f : FuncId} {us : Array Operand} {ts : Array TypeId} {args : List Value} {φ : Ending → World → Prop} {au : Value → Act} (hc : Calls P f args.toArray w φ) (h : ∀ e w', φ e w' → ∃ u, e = .returned u ∧ S w' ∧ HL P ops Q S l (k + 1) (listed.setIfInBounds k true) (au u) w')
    (hr : Region.ready .any ops listed = [k] := by kernel_rfl) (hw : Region.wanted o (yielded ops a.tmps) = true := by rfl) (hf : Calm.enters P f = true := by kernel_rfl)
    (ho : o.op = .call { callee := .value (.func f), args := us, argTypes := ts } := by rfl) (ha : us.toList.map a.eval = args := by rfl) (hp : ∀ u, a.put o.dst u = au u := by (intro u; simp only [Act.put, List.setIfInBounds_toArray, List.set_cons_zero, List.set_cons_succ]; rfl)) : HL P ops Q S (o :: l) k listed a w :=
  al (by
    have e : ∀ args, (callFunc f args).run P w = .ok (.enter f args) w := fun args => Calm.enters_run hf args w
    have hr' : (execOp a.eval o).run P w = .ok (.enter f args.toArray) w := by
      have ha' : us.map a.eval = args.toArray := by
        rw [← ha, ← Array.toList_map, Array.toArray_toList]
      unfold execOp
      rw [ho]
      simp [go_sem, Act.eval, e, ← ha']
    unfold Oper.wp
    rw [hr']
    refine hc.mono fun e w' he => ?_
    obtain ⟨u, rfl, h1, h2⟩ := h e w' he
    exact ⟨h1, hp u ▸ h2⟩) hr hw
/-- It comes to a value, or to nothing, and leaves another world. -/
theorem vl {v : Value} {w1 : World} (hv : (execOp a.eval o).run P w = .ok (.value v) w1) (hS : S w1) (h : HL P ops Q S l (k + 1) (listed.setIfInBounds k true) a' w1) (hr : Region.ready .any ops listed = [k] := by kernel_rfl) (hw : Region.wanted o (yielded ops a.tmps) = true := by rfl) (hp : a.put o.dst v = a' := by (simp only [Act.put, List.setIfInBounds_toArray, List.set_cons_zero, List.set_cons_succ]; rfl)) : HL P ops Q S (o :: l) k listed a w :=
  al (by
    unfold Oper.wp
    rw [hv]
    exact ⟨hS, hp ▸ h⟩) hr hw
theorem st {w1 : World} (hv : (execOp a.eval o).run P w = .ok .skip w1) (hS : S w1) (h : HL P ops Q S l (k + 1) (listed.setIfInBounds k true) a' w1) (hr : Region.ready .any ops listed = [k] := by kernel_rfl) (hw : Region.wanted o (yielded ops a.tmps) = true := by rfl) (hp : a.put o.dst undef = a' := by (simp only [Act.put, List.setIfInBounds_toArray, List.set_cons_zero, List.set_cons_succ]; rfl)) : HL P ops Q S (o :: l) k listed a w :=
  al (by
    unfold Oper.wp
    rw [hv]
    exact ⟨hS, hp ▸ h⟩) hr hw
/-- A store of a struct, or of what a cell holds. -/
theorem ss {w1 : World} {t : TypeId} {x y : Operand} {pv vv : Value} (hv : (Instr.storeAt t pv vv).run P w = .ok () w1) (hS : S w1) (h : HL P ops Q S l (k + 1) (listed.setIfInBounds k true) a' w1) (hr : Region.ready .any ops listed = [k] := by kernel_rfl) (hw : Region.wanted o (yielded ops a.tmps) = true := by rfl) (ho : o.op = .store t x y := by rfl) (hx : a.eval x = pv := by rfl) (hy : a.eval y = vv := by rfl) (hp : a.put o.dst undef = a' := by (simp only [Act.put, List.setIfInBounds_toArray, List.set_cons_zero, List.set_cons_succ]; rfl)) : HL P ops Q S (o :: l) k listed a w :=
  al (by
    unfold Oper.wp execOp
    simp only [ho, hx, hy, Sem.run_bind, hv, Result.andThen_ok, Sem.run_pure]
    exact ⟨hS, hp ▸ h⟩) hr hw
/-- All have come up. -/
theorem dn (h : Q .normal a w) (hr : Region.ready .any ops listed = [] := by kernel_rfl) : HL P ops Q S [] k listed a w := fun _ => wpAnyH_done hr h _
theorem region {id : Nat} (S : World → Prop) (hm : P.follows .mixedOrders = true) (h : HL P l.toArray Q S l 0 (Array.replicate l.length false) a w.drew) : (Code.region id l.toArray true).wp P Q a w := wp_region_held (S := S) hm (by
  have := h (fun j => by simp)
  simpa using this)
end
end Go.Proofs.Ytfiamiflkfdhoaa.Held
/- Next and Leq of the document's vectors. -/
namespace Go.Proofs.Ytfiamiflkfdhoaa
open Go.RowKit

theorem two_at (w : World) (a b : List Int) (ha : a.length = 13) (hb : b.length = 13) : At ((w.alloc (.cells (vals a).toArray 26)).alloc (.cells (vals b).toArray 26)) w.heap.size a ∧ At ((w.alloc (.cells (vals a).toArray 26)).alloc (.cells (vals b).toArray 26)) (w.heap.size + 1) b ∧ Below w.heap.size w ((w.alloc (.cells (vals a).toArray 26)).alloc (.cells (vals b).toArray 26)) :=
  ⟨(at_new w a ha).alloc _, at_next _ (by simp) b hb, ((Below.refl _ _).alloc (Nat.le_refl _) _).alloc (by simp) _⟩
set_option maxHeartbeats 2000000 in
set_option maxRecDepth 100000 in
theorem refLeq_any (a b : List Int) (w : World) (ha : a.length = 13) (hb : b.length = 13) : Calls Try.prog 11 #[V a, V b] w (Tells (.bool (lq a b)) w) := by
  obtain ⟨h1, h2, hbel⟩ := two_at w a b ha hb
  generalize hW : (w.alloc (.cells (vals a).toArray 26)).alloc (.cells (vals b).toArray 26) = w0 at h1 h2 hbel
  obtain ⟨z, HZ⟩ := hid_ex (lq a b)
  rw [HZ.out]
  go_enter Try.func11, Try.ntmps11
  go_wp2_with (rw [hW])
  clear hW
  go_loopw [5] (fun vi wr => ∃ k : Nat, vi = .int .i64 k ∧ k ≤ 13 ∧ Hid (∀ i, i < k → a.getD i 0 ≤ b.getD i 0) ∧ At wr w.heap.size a ∧ At wr (w.heap.size + 1) b ∧ Below w.heap.size w wr) (fun vi _ => 13 - (intOf vi).toNat)
  case atStart => exact ⟨0, rfl, by omega, (show ∀ i, i < 0 → _ from fun i h => by omega), h1, h2, hbel⟩
  case round =>
    clear h1 h2 hbel
    obtain ⟨k, rfl, hk, HV, h1, h2, hbel⟩ := hrel
    by_cases hlt : k < 13
    · have hlt' : (k : Int) ≤ 12 := by omega
      have hlt2 : (k : Int) < 13 := by omega
      have c1 := h1.cell hlt
      have c2 := h2.cell hlt
      have HC : Hid (lq a b = true → a.getD k 0 ≤ b.getD k 0) := fun h => (lq_iff ha hb).1 h k hlt
      obtain ⟨x, HX⟩ := hid_ex (a.getD k 0)
      obtain ⟨y, HY⟩ := hid_ex (b.getD k 0)
      rw [HX.out] at c1
      rw [HY.out] at c2
      by_cases hxy : y < x
      · obtain rfl : false = z := by
          rw [← HZ.out]
          cases e : lq a b with
          | false => rfl
          | true =>
            have := HC.out e
            rw [HX.out, HY.out] at this
            omega
        go_wp2_with fail
        refine Calm.region (by kernel_rfl) (by kernel_rfl) (fun w' => w'.cell? ⟨w.heap.size, k, none⟩ = some (.int .i64 x) ∧ w'.cell? ⟨w.heap.size + 1, k, none⟩ = some (.int .i64 y) ∧ Below w.heap.size w w') ⟨c1, c2, hbel.drew⟩ ?_
        iterate 2 (refine Calm.pu ?_)
        refine Calm.ce (fun _ h => h.1) ?_
        iterate 2 (refine Calm.pu ?_)
        refine Calm.ce (fun _ h => h.2.1) ?_
        refine Calm.pu ?_
        intro w3 hS3
        go_wp2_with fail
        go_ret
        exact ⟨rfl, hS3.2.2⟩
      · have HV2 : Hid (∀ i, i < k + 1 → a.getD i 0 ≤ b.getD i 0) := fun i hi => by
          rcases Nat.lt_or_ge i k with h3 | h3
          · exact HV.out i h3
          · obtain rfl : i = k := by omega
            rw [HX.out, HY.out]
            omega
        go_wp2_with fail
        refine Calm.region (by kernel_rfl) (by kernel_rfl) (fun w' => w'.cell? ⟨w.heap.size, k, none⟩ = some (.int .i64 x) ∧ w'.cell? ⟨w.heap.size + 1, k, none⟩ = some (.int .i64 y) ∧ Below wr.heap.size wr w') ⟨c1, c2, (Below.refl _ _).drew⟩ ?_
        iterate 2 (refine Calm.pu ?_)
        refine Calm.ce (fun _ h => h.1) ?_
        iterate 2 (refine Calm.pu ?_)
        refine Calm.ce (fun _ h => h.2.1) ?_
        refine Calm.pu ?_
        intro w3 hS3
        go_wp2_with fail
        go_roundw
        case rel => exact ⟨k + 1, by simp, by omega, HV2, h1.later hS3.2.2, h2.later hS3.2.2, below_on hbel hS3.2.2⟩
        case measure => simp [intOf]; omega
    · obtain rfl : k = 13 := by omega
      obtain rfl : true = z := by
        rw [← HZ.out]
        exact ((lq_iff ha hb).2 fun i hi => HV.out i hi).symm
      go_wp2_with fail
      go_ret
      exact ⟨rfl, hbel⟩
/-- The next one, of a peer's number and one that a transaction may have. -/
def nxt (v : List Int) (p s : Int) : Bool := decide (v.getD p.toNat 0 + 1 = s)
set_option maxHeartbeats 2000000 in
set_option maxRecDepth 100000 in
theorem refNext_any (v : List Int) (p s : Int) (w : World) (hv : v.length = 13) (hp : 1 ≤ p ∧ p ≤ 12) (hs : 1 ≤ s ∧ s ≤ 1048576) : Calls Try.prog 10 #[V v, D p s] w (Tells (.bool (nxt v p s)) w) := by
  obtain ⟨n, rfl⟩ : ∃ n : Nat, p = (n : Int) := ⟨p.toNat, by omega⟩
  have hn : n < 13 := by omega
  have hn' : (n : Int) < 13 := by omega
  have C := fun w' => peer_any (n : Int) w'
  rw [show wi (n : Int) 1 12 = true by unfold wi; simp; omega] at C
  have e1 : IntKind.i64.wrap (s - 1) = s - 1 := by rw [IntKind.wrap_i64]; omega
  obtain ⟨R1, R2, hbel⟩ := two_rows w (vals v).toArray 26 #[.int .i64 (n : Int), .int .i64 s] 31
  have A1 : At ((w.alloc (.cells (vals v).toArray 26)).alloc (.cells #[.int .i64 (n : Int), .int .i64 s] 31)) w.heap.size v := ⟨hv, R1⟩
  have c1 := A1.cell hn
  have d1 := R2.cell 0
  have d2 := R2.cell 1
  generalize hW : (w.alloc (.cells (vals v).toArray 26)).alloc (.cells #[.int .i64 (n : Int), .int .i64 s] 31) = w0 at c1 d1 d2 hbel
  clear A1 R1 R2
  unfold nxt
  rw [show ((n : Int)).toNat = n by simp]
  generalize v.getD n 0 = x at c1
  have hs3 : Calm.Stays (fun w' : World => w'.cell? ⟨w.heap.size, n, none⟩ = some (.int .i64 x) ∧ w'.cell? ⟨w.heap.size + 1, 0, none⟩ = some (.int .i64 n) ∧ w'.cell? ⟨w.heap.size + 1, 1, none⟩ = some (.int .i64 s) ∧ Below w.heap.size w w') := fun a b h hb => ⟨cell_later hb h.1, cell_later hb h.2.1, cell_later hb h.2.2.1, below_on h.2.2.2 hb⟩
  go_enter Try.func10, Try.ntmps10
  go_wp2_with (rw [hW])
  clear hW
  by_cases hx : x < s
  all_goals
    refine Calm.region (by kernel_rfl) (by kernel_rfl) (fun w' => w'.cell? ⟨w.heap.size, n, none⟩ = some (.int .i64 x) ∧ w'.cell? ⟨w.heap.size + 1, 0, none⟩ = some (.int .i64 n) ∧ w'.cell? ⟨w.heap.size + 1, 1, none⟩ = some (.int .i64 s) ∧ Below w.heap.size w w') ⟨c1, d1, d2, hbel.drew⟩ ?_
    refine Calm.pu ?_
    refine Calm.ce (fun _ h => h.2.1) ?_
    refine Calm.k1 hs3 (fun w' _ => C w') ?_
    iterate 2 (refine Calm.pu ?_)
    refine Calm.ce (fun _ h => h.2.2.1) ?_
    refine Calm.pu ?_
    refine Calm.ce (fun _ h => h.2.1) ?_
    refine Calm.pu ?_
    refine Calm.ce (fun _ h => h.1) ?_
    iterate 3 (refine Calm.pu ?_)
  · refine Calm.pu ?_
    refine Calm.ce (fun _ h => h.2.2.1) ?_
    iterate 2 (refine Calm.pu ?_)
    refine Calm.ce (fun _ h => h.2.1) ?_
    refine Calm.pu ?_
    refine Calm.ce (fun _ h => h.1) ?_
    iterate 3 (refine Calm.pu ?_)
    intro w3 hS3
    go_wp2_with fail
    go_ret
    refine tells_bool ?_ hS3.2.2.2
    rw [Bool.eq_iff_iff, beq_iff_eq, decide_eq_true_eq]
    omega
  · iterate 8 (refine Calm.sk ?_)
    iterate 2 (refine Calm.pu ?_)
    intro w3 hS3
    go_wp2_with fail
    go_ret
    refine tells_bool ?_ hS3.2.2.2
    symm
    rw [decide_eq_false_iff_not]
    omega
end Go.Proofs.Ytfiamiflkfdhoaa
/- rest of the document's answer. -/
namespace Go.Proofs.Ytfiamiflkfdhoaa
open Go.RowKit

set_option maxHeartbeats 16000000 in
set_option maxRecDepth 100000 in
theorem rest_any (p s : Int) (v : List Int) (t : Int) (sl : Value) (l : List O) (w : World) (hv : v.length = 13) (ho : OHas w sl l) : Calls Try.prog 28 #[TxV p s v t sl] w (Tells (.bool (sn p s v t l)) w) := by
  obtain ⟨q, c, rfl, hm, hr⟩ := ho
  have HR : Hid (0 < l.length → ∃ g o, q = some ⟨g, o, none⟩ ∧ ∀ i (h : i < l.length), w.rangeAt g (o + i * 10) l[i].cells) := hr
  clear hr
  have hml := maxLen_lt hm
  have C0 := fun w => refCheck_any v w hv
  obtain ⟨r, Hr⟩ := hid_ex (chk v)
  obtain ⟨y, HY⟩ := hid_ex (wi t 1 1099511627776)
  rw [Hr.out] at C0
  obtain ⟨z, HZ⟩ := hid_ex (allB (gd p s v) 0 l)
  obtain ⟨m, HM⟩ := hid_ex (decide (l.length ≤ 16))
  have Cw := fun w => within_l t 1 1099511627776 w
  rw [HY.out] at Cw
  have R := rw_new w 34 (txc p s v t (.slice q l.length c)).toArray
  have hbel : Below w.heap.size w (w.alloc (.cells (txc p s v t (.slice q l.length c)).toArray 34)) := bel_alloc (Below.refl _ _) _
  have z25 := info26 hv
  generalize hW : w.alloc (.cells (txc p s v t (.slice q l.length c)).toArray 34) = w0 at R hbel
  unfold sn
  rw [Hr.out, HY.out, HZ.out, HM.out]
  go_enter Try.func28, Try.ntmps28
  go_wp2_with (first | refine load_m 26 _ rfl rfl _ _ rfl (tx_vec R) Try.underlying26 rfl z25 ?_)
  refine (C0 _).mono ?_
  rintro e w1 ⟨rfl, hb1⟩
  clear hW
  replace R := R.later hb1
  replace hbel := below_on hbel hb1
  clear hb1
  have c15 := tx_time R hv
  have c16 := tx_ops R hv
  cases r
  · go_wp2_with fail
    go_ret
    exact ⟨rfl, hbel⟩
  · cases y
    · have hw : ¬ (1 ≤ t ∧ t ≤ 1099511627776) := by
        have h := HY.out
        unfold wi at h
        grind
      by_cases h1 : t < 1
      · go_wp2_with fail
        go_ret
        exact ⟨rfl, hbel⟩
      · have h2 : 1099511627776 < t := by omega
        go_wp2_with fail
        go_ret
        exact ⟨rfl, hbel⟩
    · have hw : 1 ≤ t ∧ t ≤ 1099511627776 := by
        have h := HY.out
        unfold wi at h
        grind
      have h1 : ¬ t < 1 := by omega
      have h2 : ¬ 1099511627776 < t := by omega
      clear hw
      cases m
      case true =>
        have h16 : l.length ≤ 16 := of_decide_eq_true HM.out
        have h16' : ¬ (16 : Int) < (l.length : Int) := by omega
        have Rn := rw_new w1 43 #[.int .i64 0, .int .i64 0, .int .i64 0]
        replace R := R.alloc (.cells #[.int .i64 0, .int .i64 0, .int .i64 0] 43)
        replace hbel := bel_alloc hbel (.cells #[.int .i64 0, .int .i64 0, .int .i64 0] 43)
        go_wp2_with fail
        generalize w1.alloc (.cells #[.int .i64 0, .int .i64 0, .int .i64 0] 43) = w2 at Rn R hbel ⊢
        clear c15 c16
        generalize w1.heap.size = bn at Rn ⊢
        clear Cw C0 Hr HY HM z25 h16'
        go_loopw [4] (fun vi wr => ∃ k : Nat, vi = .int .i64 k ∧ k ≤ l.length ∧ Hid (∀ i (h : i < l.length), i < k → gd p s v i l[i] = true) ∧ Rw wr w.heap.size 34 (txc p s v t (.slice q l.length c)).toArray ∧ Rw wr bn 43 #[.int .i64 0, .int .i64 0, .int .i64 0] ∧ Below w.heap.size w wr) (fun vi _ => l.length - (intOf vi).toNat)
        case atStart => exact ⟨0, rfl, by omega, (show ∀ i (h : i < l.length), i < 0 → _ from fun i _ h => by omega), R, Rn, hbel⟩
        case round =>
          clear R Rn hbel
          obtain ⟨k, rfl, hk, HV, R, Rn, hbel⟩ := hrel
          have c16 := tx_ops R hv
          by_cases hlt : k < l.length
          · have hlt' : (k : Int) < (l.length : Int) := by omega
            obtain ⟨g, o, rfl, hd⟩ := HR.out (by omega)
            have d := range_later (hd k hlt) hbel
            clear HR hd
            have hk16 : k < 16 := by omega
            obtain ⟨x, HX⟩ := hid_ex l[k]
            rw [HX.out] at d
            have z35 : (Try.prog.info? 45).map (·.size) = some x.cells.length := size45
            have C1 := fun w => refOp_any x.k x.key x.field x.inner x.act x.n x.text x.p x.s x.i w
            have C2 := fun w => refBefore_any x.p x.s x.i p s v t (.slice (some ⟨g, o, none⟩) l.length c) ((k : Int) + 1) w hv
            have E := fun w => eq_mark w x.p x.s x.i 0 0 0
            obtain ⟨a, HA⟩ := hid_ex (co x.k x.key x.field x.inner x.act x.n x.text x.p x.s x.i)
            obtain ⟨b, HB⟩ := hid_ex (decide (x.p = 0) && decide (x.s = 0) && decide (x.i = 0))
            obtain ⟨f, HC⟩ := hid_ex (bf x.p x.s x.i p s v ((k : Int) + 1))
            clear h16 hml hm hk
            rw [HA.out] at C1
            rw [HB.out] at E
            rw [HC.out] at C2
            have R3 := rw_new wr 45 #[.int .i64 x.k, .string x.key, .string x.field, .int .i64 x.inner, .int .i64 x.act, .int .i64 x.n, .string x.text, .int .i64 x.p, .int .i64 x.s, .int .i64 x.i]
            replace R := R.alloc (.cells #[.int .i64 x.k, .string x.key, .string x.field, .int .i64 x.inner, .int .i64 x.act, .int .i64 x.n, .string x.text, .int .i64 x.p, .int .i64 x.s, .int .i64 x.i] 45)
            replace hbel := bel_alloc hbel (.cells #[.int .i64 x.k, .string x.key, .string x.field, .int .i64 x.inner, .int .i64 x.act, .int .i64 x.n, .string x.text, .int .i64 x.p, .int .i64 x.s, .int .i64 x.i] 45)
            replace Rn := Rn.alloc (.cells #[.int .i64 x.k, .string x.key, .string x.field, .int .i64 x.inner, .int .i64 x.act, .int .i64 x.n, .string x.text, .int .i64 x.p, .int .i64 x.s, .int .i64 x.i] 45)
            have zr : (Try.prog.info? 43).map (·.size) = some [Value.int .i64 x.p, Value.int .i64 x.s, Value.int .i64 x.i].length := size43
            generalize hW : wr.alloc (.cells #[.int .i64 x.k, .string x.key, .string x.field, .int .i64 x.inner, .int .i64 x.act, .int .i64 x.n, .string x.text, .int .i64 x.p, .int .i64 x.s, .int .i64 x.i] 45) = w2 at R R3 hbel Rn
            go_wp2_with (first | refine load_m 45 _ rfl rfl _ _ rfl d Try.underlying45 rfl z35 ?_ | refine load_r 45 _ rfl rfl _ rfl R3 Try.underlying45 rfl size45 ?_)
            refine (C1 _).mono ?_
            rintro e w3 ⟨rfl, hb3⟩
            clear hW d C1 z35
            replace R := R.later hb3
            replace R3 := R3.later hb3
            replace Rn := Rn.later hb3
            replace hbel := below_on hbel hb3
            clear hb3
            cases a
            · have HF : Hid (z = false) := all_not HZ hlt HX (gd_not HA.out)
              clear HV HX HZ
              clear HA HB HC
              go_wp2_with fail
              go_ret
              exact ⟨by rw [HF.out]; rfl, hbel⟩
            · have dr := op_ref (x := x) R3
              cases b
              · go_wp2_with (first | refine load_m 43 _ rfl rfl _ _ rfl dr Try.underlying43 rfl zr ?_ | refine load_r 43 _ rfl rfl _ rfl Rn Try.underlying43 rfl size43 ?_ | refine load_r 34 _ rfl rfl _ rfl R Try.underlying34 rfl (size_tx hv) ?_)
                refine (C2 _).mono ?_
                rintro e w4 ⟨rfl, hb4⟩
                clear C2
                replace R := R.later hb4
                replace R3 := R3.later hb4
                replace Rn := Rn.later hb4
                replace hbel := below_on hbel hb4
                clear hb4
                cases f
                · have HF : Hid (z = false) := all_not HZ hlt HX (gd_none HB.out HC.out)
                  clear HV HX HZ
                  clear HA HB HC
                  go_wp2_with fail
                  go_ret
                  exact ⟨by rw [HF.out]; rfl, hbel⟩
                · have HV2 : Hid (∀ i (h : i < l.length), i < k + 1 → gd p s v i l[i] = true) := ok_next HV hlt (by rw [HX.out]; exact gd_bef HA.out HC.out)
                  clear HV HX HZ HA HB HC
                  go_wp2_with fail
                  go_roundw
                  case rel => exact ⟨k + 1, by simp, hlt, HV2, R, Rn, hbel⟩
                  case measure => simp [intOf]; omega
              · have HV2 : Hid (∀ i (h : i < l.length), i < k + 1 → gd p s v i l[i] = true) := ok_next HV hlt (by rw [HX.out]; exact gd_ref HA.out HB.out)
                clear HV HX HZ HA HB HC C2 dr
                have q7 : w3.cell? ⟨wr.heap.size, 7, none⟩ = some (.int .i64 x.p) := R3.cell 7
                have q8 : w3.cell? ⟨wr.heap.size, 8, none⟩ = some (.int .i64 x.s) := R3.cell 8
                have q9 : w3.cell? ⟨wr.heap.size, 9, none⟩ = some (.int .i64 x.i) := R3.cell 9
                have m0 : w3.cell? ⟨bn, 0, none⟩ = some (.int .i64 0) := Rn.cell 0
                have m1 : w3.cell? ⟨bn, 1, none⟩ = some (.int .i64 0) := Rn.cell 1
                have m2 : w3.cell? ⟨bn, 2, none⟩ = some (.int .i64 0) := Rn.cell 2
                go_wp2_with fail
                go_roundw
                case rel => exact ⟨k + 1, by simp, hlt, HV2, R, Rn, hbel⟩
                case measure => simp [intOf]; omega

          · have hlt' : ¬ (k : Int) < (l.length : Int) := by omega
            have HT : Hid (z = true) := by
              show z = true
              rw [← HZ.out, allB_iff]
              intro i hi
              rw [Nat.zero_add]
              exact HV.out i hi (by omega)
            clear HR HV HZ
            go_wp2_with fail
            go_ret
            exact ⟨by rw [HT.out]; rfl, hbel⟩
      case false =>
        have h16 : ¬ l.length ≤ 16 := of_decide_eq_false HM.out
        have h16' : (16 : Int) < (l.length : Int) := by omega
        go_wp2_with (fail)
        go_ret
        exact ⟨rfl, hbel⟩
end Go.Proofs.Ytfiamiflkfdhoaa
