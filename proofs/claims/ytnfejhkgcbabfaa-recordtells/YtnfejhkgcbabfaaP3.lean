import Derived.Test.YtnfejhkgcbabfaaP1
import Derived.Deep.MidRow
import Derived.Test.YtnfejhkgcbabfaaP2
import Derived.Lib.AppendStr
import Derived.Laws.BytesArg
import Derived.Test.YtnfejhkgcbabfaaRows
import Derived.WalkKit
import Derived.WalkSpells
import Derived.WalkLawsBesides
import Derived.WalkMore
import Derived.Laws.AppendOwnNone
import Derived.Deep.RegionHeld3
import Derived.ProofKit
import Derived.OpenShut
/- The moves of a region that draws its order, each in one word: what is left to be shown of each is done where it is called. Nothing of one program. -/
namespace Go.Proofs.Ytnfejhkgcbabfaa.Calm

section
variable {P : Program} {ops : Array Oper} {S : World → Prop} {K : Act → Prop} {o : Oper} {l : List Oper} {a a' : Act}
/-- Passed over. -/
theorem sk (h : calmList P ops S K l a') (hw : Region.wanted o (yielded ops a.tmps) = false := by rfl)
    (hp : a.put o.dst undef = a' := by (simp only [Act.put, List.setIfInBounds_toArray, List.set_cons_zero, List.set_cons_succ]; rfl)) : calmList P ops S K (o :: l) a :=
  skip hw (hp ▸ h)
/-- Run to a value. -/
theorem pu {v : Value} (h : calmList P ops S K l a') (hw : Region.wanted o (yielded ops a.tmps) = true := by rfl)
    (hv : ∀ w, S w → (execOp a.eval o).run P w = .ok (.value v) w := by (intro w hSw; go_simp <;> rfl))
    (hp : a.put o.dst v = a' := by (simp only [Act.put, List.setIfInBounds_toArray, List.set_cons_zero, List.set_cons_succ]; rfl)) : calmList P ops S K (o :: l) a :=
  pure hw hv (hp ▸ h)
/-- A load of what a cell holds. -/
theorem ce {v : Value} {ad : Addr} (g : ∀ w, S w → w.cell? ad = some v) (h : calmList P ops S K l a') (hw : Region.wanted o (yielded ops a.tmps) = true := by rfl)
    (hv : ∀ w, S w → w.cell? ad = some v → (execOp a.eval o).run P w = .ok (.value v) w := by (intro w hSw g1; go_simp))
    (hp : a.put o.dst v = a' := by (simp only [Act.put, List.setIfInBounds_toArray, List.set_cons_zero, List.set_cons_succ]; rfl)) : calmList P ops S K (o :: l) a :=
  pure hw (fun w hS => hv w hS (g w hS)) (hp ▸ h)
/-- By a fact of the world. -/
theorem cl {v : Value} {p : World → Prop} (g : ∀ w, S w → p w) (h : calmList P ops S K l a') (hw : Region.wanted o (yielded ops a.tmps) = true := by rfl)
    (hv : ∀ w, S w → p w → (execOp a.eval o).run P w = .ok (.value v) w := by (intro w hSw g1; go_simp <;> rfl))
    (hp : a.put o.dst v = a' := by (simp only [Act.put, List.setIfInBounds_toArray, List.set_cons_zero, List.set_cons_succ]; rfl)) : calmList P ops S K (o :: l) a :=
  pure hw (fun w hS => hv w hS (g w hS)) (hp ▸ h)
theorem cs {v : Value} {p : World → Prop} (g : ∀ w, S w → p w) (h : calmList P ops S K l a') (hw : Region.wanted o (yielded ops a.tmps) = true := by rfl)
    (hv : ∀ w, S w → p w → (execOp a.eval o).run P w = .ok (.value v) w := by (intro w hSw g1; simp at g1; go_simp <;> rfl))
    (hp : a.put o.dst v = a' := by (simp only [Act.put, List.setIfInBounds_toArray, List.set_cons_zero, List.set_cons_succ]; rfl)) : calmList P ops S K (o :: l) a :=
  pure hw (fun w hS => hv w hS (g w hS)) (hp ▸ h)
/-- A load of a struct. -/
theorem lm {b f : Nat} {cs : List Value} {t : TypeId} {d : TypeDesc} {x : Operand} (hi : (P.info? t).map (·.size) = some cs.length) (hS : ∀ w, S w → w.rangeAt b f cs) (hu : P.underlying t = some d) (h : calmList P ops S K l a') (hw : Region.wanted o (yielded ops a.tmps) = true := by rfl)
    (ho : o.op = .load t x := by rfl) (hx : a.eval x = .pointer (some ⟨b, f, none⟩) := by rfl) (hd : d.isRow = true := by rfl)
    (hp : a.put o.dst (.agg cs.toArray) = a' := by (simp only [Act.put, List.setIfInBounds_toArray, List.set_cons_zero, List.set_cons_succ]; rfl)) : calmList P ops S K (o :: l) a :=
  pure hw (fun w hw' => by
    have h2 := run_loadVar_mid (P := P) w b f t cs d (hS w hw') hu hd hi
    unfold execOp
    simp only [ho, hx, Instr.loadAt, Instr.sureAddr, Sem.run_bind, Sem.run_pure, h2, Result.andThen_ok]) (hp ▸ h)
/-- Calls of functions by their names, whose contracts may ask for S; of a function that a slot holds. -/
theorem k0 {r : Value} {f : FuncId} {ts : Array TypeId} (hs : Stays S) (hc : ∀ w, S w → Calls P f #[] w fun e w' => e = .returned r ∧ RowKit.Below w.heap.size w w') (h : calmList P ops S K l a') (hw : Region.wanted o (yielded ops a.tmps) = true := by rfl) (ho : o.op = .call { callee := .value (.func f), args := #[], argTypes := ts } := by rfl)  (hf : enters P f = true := by kernel_rfl)
    (hp : a.put o.dst r = a' := by (simp only [Act.put, List.setIfInBounds_toArray, List.set_cons_zero, List.set_cons_succ]; rfl)) : calmList P ops S K (o :: l) a :=
  call (f := f) (args := #[]) hw (fun w => by
    have e : ∀ args, (callFunc f args).run P w = .ok (.enter f args) w := fun args => enters_run hf args w
    unfold execOp
    simp [ho, go_sem, Act.eval, e]) (fun w hS => (hc w hS).mono fun e w' he => ⟨he.1, hs w w' hS he.2⟩) (hp ▸ h)
theorem k1 {r x : Value} {f : FuncId} {ts : Array TypeId} {u : Operand} (hs : Stays S) (hc : ∀ w, S w → Calls P f #[x] w fun e w' => e = .returned r ∧ RowKit.Below w.heap.size w w') (h : calmList P ops S K l a') (hw : Region.wanted o (yielded ops a.tmps) = true := by rfl) (ho : o.op = .call { callee := .value (.func f), args := #[u], argTypes := ts } := by rfl) (hu : a.eval u = x := by rfl) (hf : enters P f = true := by kernel_rfl)
    (hp : a.put o.dst r = a' := by (simp only [Act.put, List.setIfInBounds_toArray, List.set_cons_zero, List.set_cons_succ]; rfl)) : calmList P ops S K (o :: l) a :=
  call (f := f) (args := #[x]) hw (fun w => by
    have e : ∀ args, (callFunc f args).run P w = .ok (.enter f args) w := fun args => enters_run hf args w
    subst hu
    unfold execOp
    simp [ho, go_sem, Act.eval, e]) (fun w hS => (hc w hS).mono fun e w' he => ⟨he.1, hs w w' hS he.2⟩) (hp ▸ h)
theorem k2 {r x y : Value} {f : FuncId} {ts : Array TypeId} {u v : Operand} (hs : Stays S) (hc : ∀ w, S w → Calls P f #[x, y] w fun e w' => e = .returned r ∧ RowKit.Below w.heap.size w w') (h : calmList P ops S K l a') (hw : Region.wanted o (yielded ops a.tmps) = true := by rfl) (ho : o.op = .call { callee := .value (.func f), args := #[u, v], argTypes := ts } := by rfl) (hu : a.eval u = x := by rfl) (hv : a.eval v = y := by rfl) (hf : enters P f = true := by kernel_rfl)
    (hp : a.put o.dst r = a' := by (simp only [Act.put, List.setIfInBounds_toArray, List.set_cons_zero, List.set_cons_succ]; rfl)) : calmList P ops S K (o :: l) a :=
  call (f := f) (args := #[x, y]) hw (fun w => by
    have e : ∀ args, (callFunc f args).run P w = .ok (.enter f args) w := fun args => enters_run hf args w
    subst hu
    subst hv
    unfold execOp
    simp [ho, go_sem, Act.eval, e]) (fun w hS => (hc w hS).mono fun e w' he => ⟨he.1, hs w w' hS he.2⟩) (hp ▸ h)
theorem k3 {r x y z : Value} {f : FuncId} {ts : Array TypeId} {u v t : Operand} (hs : Stays S) (hc : ∀ w, S w → Calls P f #[x, y, z] w fun e w' => e = .returned r ∧ RowKit.Below w.heap.size w w') (h : calmList P ops S K l a') (hw : Region.wanted o (yielded ops a.tmps) = true := by rfl) (ho : o.op = .call { callee := .value (.func f), args := #[u, v, t], argTypes := ts } := by rfl) (hu : a.eval u = x := by rfl) (hv : a.eval v = y := by rfl) (ht : a.eval t = z := by rfl) (hf : enters P f = true := by kernel_rfl)
    (hp : a.put o.dst r = a' := by (simp only [Act.put, List.setIfInBounds_toArray, List.set_cons_zero, List.set_cons_succ]; rfl)) : calmList P ops S K (o :: l) a :=
  call (f := f) (args := #[x, y, z]) hw (fun w => by
    have e : ∀ args, (callFunc f args).run P w = .ok (.enter f args) w := fun args => enters_run hf args w
    subst hu
    subst hv
    subst ht
    unfold execOp
    simp [ho, go_sem, Act.eval, e]) (fun w hS => (hc w hS).mono fun e w' he => ⟨he.1, hs w w' hS he.2⟩) (hp ▸ h)
theorem k4 {r x y z q : Value} {f : FuncId} {ts : Array TypeId} {u v t n : Operand} (hs : Stays S) (hc : ∀ w, S w → Calls P f #[x, y, z, q] w fun e w' => e = .returned r ∧ RowKit.Below w.heap.size w w') (h : calmList P ops S K l a') (hw : Region.wanted o (yielded ops a.tmps) = true := by rfl) (ho : o.op = .call { callee := .value (.func f), args := #[u, v, t, n], argTypes := ts } := by rfl) (hu : a.eval u = x := by rfl) (hv : a.eval v = y := by rfl) (ht : a.eval t = z := by rfl) (hn : a.eval n = q := by rfl) (hf : enters P f = true := by kernel_rfl)
    (hp : a.put o.dst r = a' := by (simp only [Act.put, List.setIfInBounds_toArray, List.set_cons_zero, List.set_cons_succ]; rfl)) : calmList P ops S K (o :: l) a :=
  call (f := f) (args := #[x, y, z, q]) hw (fun w => by
    have e : ∀ args, (callFunc f args).run P w = .ok (.enter f args) w := fun args => enters_run hf args w
    subst hu
    subst hv
    subst ht
    subst hn
    unfold execOp
    simp [ho, go_sem, Act.eval, e]) (fun w hS => (hc w hS).mono fun e w' he => ⟨he.1, hs w w' hS he.2⟩) (hp ▸ h)
theorem kf1 {r x : Value} {f : FuncId} {ts : Array TypeId} {uf u : Operand} (hs : Stays S) (hc : ∀ w, S w → Calls P f #[x] w fun e w' => e = .returned r ∧ RowKit.Below w.heap.size w w') (h : calmList P ops S K l a') (hw : Region.wanted o (yielded ops a.tmps) = true := by rfl) (ho : o.op = .call { callee := .value uf, args := #[u], argTypes := ts } := by rfl) (hv : a.eval uf = .func (.func f) #[] #[] := by rfl) (hu : a.eval u = x := by rfl) (hf : enters P f = true := by kernel_rfl)
    (hp : a.put o.dst r = a' := by (simp only [Act.put, List.setIfInBounds_toArray, List.set_cons_zero, List.set_cons_succ]; rfl)) : calmList P ops S K (o :: l) a :=
  call (f := f) (args := #[x]) hw (fun w => by
    have e : ∀ args, (callFunc f args).run P w = .ok (.enter f args) w := fun args => enters_run hf args w
    generalize a.eval = ρ at hv hu ⊢
    subst hu
    unfold execOp
    simp [ho, go_sem, hv, e]) (fun w hS => (hc w hS).mono fun e w' he => ⟨he.1, hs w w' hS he.2⟩) (hp ▸ h)
end
end Go.Proofs.Ytnfejhkgcbabfaa.Calm
/- The document's answer for layer 23: Same of equal ones, Few, Names; and bytes and texts that are equal. -/
namespace Go.Proofs.Ytnfejhkgcbabfaa
open Go.RowKit

theorem run_string {w : World} {p : Option Addr} {c : Nat} {l : List UInt8} (h : DB w (.slice p l.length c) l) : (convert 23 9 (.slice p l.length c)).run Try.prog w = .ok (.string ⟨l.toArray⟩) w := by
  rcases Nat.eq_zero_or_pos l.length with hz | hz
  · obtain rfl : l = [] := List.eq_nil_of_length_eq_zero hz
    rw [run_convert_bytes_string w 23 9 5 _ _ c Try.underlying23 Try.underlying5 Try.underlying9]
    cases p <;> simp [Conv.bytesToString, loadCells]
    all_goals rfl
  · obtain ⟨b, o, rfl, hd⟩ := SHas.at h hz
    have hc : ∀ j (hj : j < l.length), w.cell? ⟨b, o + j, none⟩ = some (.int .u8 (l[j]).toNat) := fun j hj => hd j _ (by simp [cel, List.getElem?_eq_getElem hj])
    have := run_convert_bytes_arg (P := Try.prog) w 23 5 Try.underlying23 Try.underlying5 b o l.length c (l.map fun x => (x.toNat : Int)) (by simp) (fun i hi => by
      rw [hc i hi]; simp [List.getD, List.getElem?_eq_getElem hi]) 9 Try.underlying9
    rw [this]
    congr 2
    apply ByteArray.ext
    apply Array.toList_inj.1
    rw [strOfNums_data, List.map_map]
    show _ = l
    conv => rhs; rw [← List.map_id l]
    apply List.map_congr_left
    intro x _
    simp
theorem rBytes_any (v u : Value) (l : List UInt8) (w : World) (hv : DB w v l) (hu : DB w u l) : Calls Try.prog 15 #[v, u] w (Tells (.bool true) w) := by
  obtain ⟨p, c, rfl⟩ := SHas.slice hv
  obtain ⟨q, d, rfl⟩ := SHas.slice hu
  have h1 := run_string hv
  have h2 := run_string hu
  clear hv hu
  go_enter Try.func15, Try.ntmps15
  go_wp2
  go_ret
  exact ⟨rfl, Below.refl _ _⟩
/-- Is a disk not great? -/
def fewF (l : List FV) : Bool := decide (∀ k (h : k < l.length), l[k].x.size ≤ 100 ∧ l[k].d.length + us (l.take k) ≤ 40000)
def fewD (l : List FV) : Bool := decide (l.length ≤ 80) && fewF l
theorem fewF_not {l : List FV} {k : Nat} (h : k < l.length) (h2 : ¬ (l[k].x.size ≤ 100 ∧ l[k].d.length + us (l.take k) ≤ 40000)) : fewF l = false := decide_eq_false fun e => h2 (e k h)
end Go.Proofs.Ytnfejhkgcbabfaa
/- The document's answer for layer 23: Names, Crash; and texts that are equal. -/
namespace Go.Proofs.Ytnfejhkgcbabfaa
open Go.RowKit

theorem info9 : (Try.prog.info? 9).map (fun i => (i.zero, i.size, i.bytes)) = some (some (.string ByteArray.empty), 1, 16) := by kernel_rfl
theorem info_split {t : TypeId} {z : Value} {s b : Nat} (h : (Try.prog.info? t).map (fun i => (i.zero, i.size, i.bytes)) = some (some z, s, b)) : ∃ i, Try.prog.info? t = some i ∧ i.zero = some z ∧ i.size = s ∧ i.bytes = b := by
  obtain ⟨i, hi, e⟩ := Option.map_eq_some_iff.1 h
  simp only [Prod.mk.injEq] at e
  exact ⟨i, hi, e.1, e.2.1, e.2.2⟩
/-- A slice of texts. -/
def sts (l : List ByteArray) : List Value := l.map Value.string
theorem sts_length (l : List ByteArray) : (sts l).length = l.length := by simp [sts]
abbrev THas (w : World) (v : Value) (l : List ByteArray) : Prop := SHas 1 w v l.length (sts l)
theorem THas.elem {w : World} {l : List ByteArray} {g o : Nat} (h : w.rangeAt g o (sts l)) (k : Nat) (hk : k < l.length) : w.cell? ⟨g, o + k, none⟩ = some (.string l[k]) := h k _ (by simp [sts, hk])
def NmPost (l : List ByteArray) (w : World) (e : Ending) (w' : World) : Prop := ∃ u, e = .returned u ∧ THas w' u l ∧ Below w.heap.size w w'
end Go.Proofs.Ytnfejhkgcbabfaa
/- Slices of bytes in memory: where they lie, what they hold, and that a call leaves them alone. Nothing of one function. -/
namespace Go.Proofs.Ytnfejhkgcbabfaa.Cr
open Go.ChangeShapes Go.WideShapes Go.ChangeAt Go.RowKit

/-- WHERE A SLICE's BYTES LIE: where there is a byte there is an address, and the cells from there on hold them. -/
def Row (w : World) (p : Option Addr) (l : List UInt8) : Prop :=
  0 < l.length → ∃ b o, p = some ⟨b, o, none⟩ ∧ ∀ j (hj : j < l.length), w.cell? ⟨b, o + j, none⟩ = some (.int .u8 (l[j]).toNat)

/-- Bytes as cells. -/
def cel (l : List UInt8) : List Value := l.map fun b => Value.int .u8 b.toNat

theorem cel_length (l : List UInt8) : (cel l).length = l.length := by simp [cel]
theorem cel_append (a b : List UInt8) : cel (a ++ b) = cel a ++ cel b := by simp [cel]
theorem cel_one (l : List UInt8) : ∀ u ∈ cel l, u.oneCell' = true := by
  intro u hu
  obtain ⟨_, _, rfl⟩ := List.mem_map.1 hu
  rfl

theorem Row.cells {w : World} {p : Option Addr} {l : List UInt8} (h : Row w p l) : ∀ ad, p = some ad → ∀ j u, (cel l)[j]? = some u → w.cell? (ad.add j) = some u := by
  intro ad hp j u hj
  have hlt : j < l.length := by
    have := (List.getElem?_eq_some_iff.1 hj).1
    simpa [cel] using this
  obtain ⟨b, o, hp2, hc⟩ := h (by omega)
  rw [hp2] at hp
  obtain rfl := Option.some.inj hp
  rw [Addr.add_lit, hc j hlt]
  simp [cel, List.getElem?_eq_getElem hlt] at hj
  rw [← hj]

theorem push_below {B : Nat} {w wr w1 : World} {v : Value} {n : Nat} {xs : List Value} {o : Obj} (hbel : Below B w wr) (hB : B ≤ w.heap.size) (hown : wr.ownsRow B 5 1 v n xs) (hg : (wr.alloc o).grownBy w1 v.ownBlock) : Below B w w1 := by
  have hs := hbel.size
  exact (hbel.alloc (by omega) o).grown hg (by simp; omega) (fun k hk => (hown.lt k hk).1)

theorem push_own {B : Nat} {w1 : World} {v' : Value} {done : List UInt8} {z : Int} (b : UInt8) (hz : z = (b.toNat : Int)) (h : w1.ownsRow B 5 1 v' (done.length + 1) (cel done ++ [.int .u8 z])) : w1.ownsRow B 5 1 v' (done ++ [b]).length (cel (done ++ [b])) := by
  subst hz
  rw [cel_append, List.length_append]
  exact h

theorem info5 : (Try.prog.info? 5).map (fun i => (i.zero, i.size, i.bytes)) = some (some (.int .u8 0), 1, 1) := by kernel_rfl

/-- A SLICE THAT HOLDS THESE BYTES. -/
def Has (w : World) (v : Value) (l : List UInt8) : Prop := ∃ p c, v = .slice p l.length c ∧ Row w p l ∧ (p = none → l.length = 0 ∧ c = 0) ∧ l.length ≤ c ∧ c ≤ maxLen

theorem own_has {w : World} {B : Nat} {v : Value} {l : List UInt8} (h : w.ownsRow B 5 1 v l.length (cel l)) : Has w v l := by
  rcases h.2 with ⟨rfl, h0⟩ | ⟨g, cap, cur, rfl, hbg, hg, hnc, hcm, hcs, htake⟩
  · exact ⟨none, 0, by rw [h0], fun hp => by omega, fun _ => ⟨h0, rfl⟩, by omega, by omega⟩
  · refine ⟨some ⟨g, 0, none⟩, cap, rfl, fun _ => ⟨g, 0, rfl, fun j hj => ?_⟩, (fun hh => by cases hh), hnc, hcm⟩
    have := h.cells (g := g) rfl j (.int .u8 (l[j]).toNat) (by simp [cel, List.getElem?_eq_getElem hj])
    rw [Addr.add_lit] at this
    exact this

theorem Row.later {w w' : World} {p : Option Addr} {l : List UInt8} (h : Row w p l) (hb : Below w.heap.size w w') : Row w' p l := by
  intro hp
  obtain ⟨b, o, hp2, hc⟩ := h hp
  refine ⟨b, o, hp2, fun j hj => ?_⟩
  have := hc j hj
  rw [← this]
  exact hb.cell (World.block_lt_of_cell? w _ this)

theorem Has.later {w w' : World} {v : Value} {l : List UInt8} (h : Has w v l) (hb : Below w.heap.size w w') : Has w' v l := by
  obtain ⟨p, c, hv, hr, hpc, hlc, hcm⟩ := h
  exact ⟨p, c, hv, hr.later hb, hpc, hlc, hcm⟩

theorem own_later {w w' : World} {B : Nat} {v : Value} {n : Nat} {xs : List Value} (h : w.ownsRow B 5 1 v n xs) (hb : Below w.heap.size w w') : w'.ownsRow B 5 1 v n xs := by
  refine ⟨h.1, ?_⟩
  rcases h.2 with h2 | ⟨g, cap, cur, hv, hbg, hg, r⟩
  · exact Or.inl h2
  · have hlt : g < w.heap.size := by
      rcases Nat.lt_or_ge g w.heap.size with hh | hh
      · exact hh
      · rw [Array.getElem?_eq_none hh] at hg; cases hg
    exact Or.inr ⟨g, cap, cur, hv, hbg, by rw [hb.block g hlt]; exact hg, r⟩

/-- The string of these bytes. -/
theorem run_string {w : World} {p : Option Addr} {l : List UInt8} (h : Row w p l) (c : Nat) :
    (convert 23 9 (.slice p l.length c)).run Try.prog w = .ok (.string ⟨l.toArray⟩) w := by
  rcases Nat.eq_zero_or_pos l.length with hz | hz
  · obtain rfl : l = [] := List.eq_nil_of_length_eq_zero hz
    rw [run_convert_bytes_string w 23 9 5 _ _ c Try.underlying23 Try.underlying5 Try.underlying9]
    cases p <;> simp [Conv.bytesToString, loadCells]
    all_goals rfl
  · obtain ⟨b, o, rfl, hc⟩ := h hz
    have := run_convert_bytes_arg (P := Try.prog) w 23 5 Try.underlying23 Try.underlying5 b o l.length c (l.map fun x => (x.toNat : Int)) (by simp) (fun i hi => by
      rw [hc i hi]; simp [List.getD, List.getElem?_eq_getElem hi]) 9 Try.underlying9
    rw [this]
    congr 2
    apply ByteArray.ext
    apply Array.toList_inj.1
    rw [strOfNums_data, List.map_map]
    show _ = l
    conv => rhs; rw [← List.map_id l]
    apply List.map_congr_left
    intro x _
    simp

/-- 'append(nil, xs...)' as a step of a region that draws. -/
theorem step_append_nil {P : Program} {ops : Array Oper} {o : Oper} {a : Act} {w : World} {K : Act → World → Prop} {Q : Exit → Act → World → Prop} {E : Prop}
    (hg : o.guard = none) (s x : Operand) (t : TypeId) (hop : o.op = Op.call { callee := Callee.builtin Builtin.append, args := #[s, x], argTypes := #[t, t] })
    (B : Nat) (hB : B = w.heap.size) (e : TypeId) (i : TypeInfo) (z : Value) (size bytes : Nat) (h1 : P.underlying t = some (.slice e)) (h2 : P.info? e = some i) (h3 : i.zero = some z) (h4 : i.size = size) (h5 : i.bytes = bytes) (h6 : z.cells.size = size) (h7 : 0 < size)
    (hs : a.eval s = .slice none 0 0)
    (ad : Addr) (m c : Nat) (news : List Value) (hx : a.eval x = .slice (some ad) m c) (hn : news.length = m * size) (hc : ∀ j u, news[j]? = some u → w.cell? (ad.add j) = some u) (h1c : ∀ u ∈ news, u.oneCell' = true)
    (b1 : m ≤ maxLen) (b2 : m * bytes ≤ 140737488355328)
    (hK : ∀ v' w', w'.ownsRow B e size v' m news → w.grownBy w' none → K (a.put o.dst v') w') :
    if Region.wanted o (yielded ops a.tmps) = true then Oper.wp P o a w K Q else E := by
  have hw : Region.wanted o (yielded ops a.tmps) = true := by simp [Region.wanted, hg]
  rw [if_pos hw]
  subst hB
  obtain ⟨v', w', hrun, r1, r2, _⟩ := run_append_own (P := P) w w.heap.size t o.type e i z size bytes h1 h2 h3 h4 h5 h6 h7 (.slice none 0 0) 0 [] (World.ownsRow_nil w _ e size) ad m c news hn hc h1c (by omega) (by rw [Nat.zero_add]; exact b2) (Nat.le_refl _)
  simp only [Nat.zero_add, List.nil_append] at r1
  unfold Oper.wp
  simp [execOp, hop, resolve, invoke, builtin, hs, hx, hrun, Result.andThen]
  exact hK v' w' r1 r2

/-- Slicing 'v[n:]' of what holds bytes. -/
theorem Row.drop {w : World} {b o c : Nat} {l : List UInt8} (h : Row w (some ⟨b, o, none⟩) l) (hlc : l.length ≤ c) (n : Nat) (hn : n ≤ l.length) : ∃ A, (if c = n then some (⟨b, o, none⟩ : Addr) else some ⟨b, o + n, none⟩) = some A ∧ Row w (some A) (l.drop n) := by
  by_cases h2 : c = n
  · refine ⟨⟨b, o, none⟩, by rw [if_pos h2], fun hp => ?_⟩
    rw [List.length_drop] at hp; omega
  · refine ⟨⟨b, o + n, none⟩, by rw [if_neg h2], fun hp => ⟨b, o + n, rfl, fun j hj => ?_⟩⟩
    rw [List.length_drop] at hp hj
    obtain ⟨b', o', e, hc⟩ := h (by omega)
    cases e
    rw [Nat.add_assoc, hc (n + j) (by omega)]
    simp

theorem Row.take {w : World} {p : Option Addr} {l : List UInt8} (h : Row w p l) (n : Nat) : Row w p (l.take n) := by
  intro hp
  rw [List.length_take] at hp
  obtain ⟨b, o, e, hc⟩ := h (by omega)
  refine ⟨b, o, e, fun j hj => ?_⟩
  rw [List.length_take] at hj
  rw [hc j (by omega)]
  simp

theorem own_form {w : World} {B : Nat} {v : Value} {l : List UInt8} (h : w.ownsRow B 5 1 v l.length (cel l)) : (v = .slice none 0 0 ∧ l = []) ∨ ∃ g c, v = .slice (some ⟨g, 0, none⟩) l.length c ∧ Row w (some ⟨g, 0, none⟩) l ∧ l.length ≤ c ∧ c ≤ maxLen := by
  obtain ⟨p, c, hv, hr, hpc, hlc, hcm⟩ := own_has h
  rcases h.2 with ⟨rfl, h0⟩ | ⟨g, cap, cur, rfl, hbg, hg, hnc, hcm, hcs, htake⟩
  · exact Or.inl ⟨rfl, List.eq_nil_of_length_eq_zero h0⟩
  · cases hv
    exact Or.inr ⟨g, _, rfl, hr, hlc, hcm⟩

theorem nil_has (w : World) : Has w (.slice none 0 0) [] := ⟨none, 0, rfl, (fun h => by cases h), (fun _ => ⟨rfl, rfl⟩), Nat.le_refl _, Nat.zero_le _⟩

/-- A slice that is written out in place. -/
theorem built_has (w : World) (l : List UInt8) (cs : Array Value) (hcs : cs.toList = cel l) (hm : l.length ≤ maxLen) : Has (w.alloc (.cells cs 5)) (.slice (some ⟨w.heap.size, 0, none⟩) l.length l.length) l := by
  refine ⟨some ⟨w.heap.size, 0, none⟩, l.length, rfl, fun _ => ⟨w.heap.size, 0, rfl, fun j hj => ?_⟩, (fun h => by cases h), Nat.le_refl _, hm⟩
  rw [Nat.zero_add, cell_of_row (w.alloc (.cells cs 5)) w.heap.size j cs 5 (0, 0) (heap_alloc_new w _)]
  have : cs[j]? = cs.toList[j]? := by simp
  rw [this, hcs]
  simp [cel, List.getElem?_eq_getElem hj]

/-- Numbers as bytes. -/
def byt (zs : List Int) : List UInt8 := zs.map fun n => UInt8.ofNat n.toNat

theorem byt_length (zs : List Int) : (byt zs).length = zs.length := by simp [byt]

theorem came_has {w : World} {x : Addr} {len cap : Nat} {zs : List Int} (hl : len ≤ cap) (hm : cap ≤ maxLen) (hz : zs.length = cap)
    (hcell : ∀ i, i < zs.length → w.cell? (x.add i) = some (.int .u8 (zs.getD i 0))) (hwz : ∀ n ∈ zs, (Lit.int .u8 n).wf = true) :
    Has w (.slice (some x) len cap) (byt (zs.take len)) := by
  have hlen : (byt (zs.take len)).length = len := by rw [byt_length, List.length_take]; omega
  refine ⟨some x, cap, by rw [hlen], fun hp => ?_, (fun h => by cases h), by omega, hm⟩
  rw [hlen] at hp
  obtain ⟨b, o, spot⟩ := x
  have hc0 := hcell 0 (by omega)
  have hspot : spot = none := by simpa [Addr.add] using World.cell?_spot hc0
  subst hspot
  refine ⟨b, o, rfl, fun j hj => ?_⟩
  have hjl : j < len := by rw [hlen] at hj; exact hj
  have hc := hcell j (by omega)
  rw [Addr.add_lit] at hc
  rw [hc]
  have hjz : j < zs.length := by omega
  have e : (byt (zs.take len))[j] = UInt8.ofNat (zs[j]).toNat := by simp [byt]
  rw [e]
  have hw := bounds_u8 (hwz zs[j] (List.getElem_mem hjz))
  have e2 : zs.getD j 0 = zs[j] := by simp [List.getD, hjz]
  rw [e2, UInt8.toNat_ofNat']
  congr 2
  omega

theorem own_join {w : World} {B : Nat} {v : Value} {l r : List UInt8} (h : w.ownsRow B 5 1 v (l.length + r.length) (cel l ++ cel r)) : Has w v (l ++ r) := by
  refine own_has (B := B) ?_
  rw [List.length_append, cel_append]
  exact h

theorem own_empty (w : World) (B : Nat) (hB : B ≤ w.heap.size) : (w.alloc (.cells #[] 5)).ownsRow B 5 1 (.slice (some ⟨w.heap.size, 0, none⟩) 0 0) 0 [] :=
  World.ownsRow_made w #[] 0 hB (Nat.zero_le _) rfl

/-- 'append(buf, xs...)', buf the call's own, xs whatever slice: nil or not. -/
theorem wpList_append_any {P : Program} {w : World} {ops : Array Oper} {rest : List Oper} {o : Oper} {a : Act} {Q : Exit → Act → World → Prop} (hgd : o.guard = none) (s x : Operand) (t : TypeId)
    (ho : o.op = .call { callee := .builtin .append, args := #[s, x], argTypes := #[t, t] })
    (base : Nat) (e : TypeId) (i : TypeInfo) (z : Value) (size bytes : Nat) (ht : P.underlying t = some (.slice e)) (hi : P.info? e = some i) (hz : i.zero = some z)
    (hsize : i.size = size) (hby : i.bytes = bytes) (hzs : z.cells.size = size) (hsz : 0 < size)
    (v : Value) (n : Nat) (xs : List Value) (hs : a.eval s = v) (hown : w.ownsRow base e size v n xs)
    (p : Option Addr) (m c : Nat) (news : List Value) (hx : a.eval x = .slice p m c) (hpc : p = none → m = 0 ∧ c = 0) (hl : news.length = m * size) (hnews : ∀ ad, p = some ad → ∀ j u, news[j]? = some u → w.cell? (ad.add j) = some u) (h1 : ∀ u ∈ news, u.oneCell' = true)
    (h63 : n + m ≤ maxLen) (hbytes : (n + m) * bytes ≤ 140737488355328) (hbase : base ≤ w.heap.size)
    (h : ∀ v' w', w'.ownsRow base e size v' (n + m) (xs ++ news) → w.grownBy w' v.ownBlock → wpList P ops Q rest (a.put o.dst v') w') : wpList P ops Q (o :: rest) a w := by
  cases p with
  | some ad => exact wpList_append_own w hgd s x t ho base e i z size bytes ht hi hz hsize hby hzs hsz v n xs hs hown ad m c news hx hl (hnews ad rfl) h1 h63 hbytes hbase fun v' w' h2 h3 _ => h v' w' h2 h3
  | none =>
    obtain ⟨rfl, rfl⟩ := hpc rfl
    have hn : news = [] := List.eq_nil_of_length_eq_zero (by simpa using hl)
    subst hn
    exact wpList_append_own_none hgd s x t ho base e i size ht hi v n xs hs hown hx (h v w (by simpa using hown) (World.grownBy.refl _ _))

theorem Has.drew {w : World} {v : Value} {l : List UInt8} (h : Has w v l) : Has w.drew v l := h.later (Below.refl _ _).drew

theorem below_on {w a b : World} (h : Below w.heap.size w a) (k : Below a.heap.size a b) : Below w.heap.size w b := h.trans (k.mono h.size)

end Go.Proofs.Ytnfejhkgcbabfaa.Cr
/- The check sum of layer 2 as plain mathematics over the natural numbers: a step is linear over xor and can be undone, so that sealed bytes of which bits within 32 side by side are turned are sealed no more. No word of the program. -/
namespace Go.Proofs.Ytnfejhkgcbabfaa.Crc

/-- One bit moved down. -/
def mv (x : Nat) : Nat := if x % 2 = 1 then x / 2 ^^^ 3988292384 else x / 2

/-- n bits moved down. -/
def mvs : Nat → Nat → Nat
  | 0, x => x
  | n + 1, x => mvs n (mv x)

/-- A byte taken in. -/
def stp (x c : Nat) : Nat := mvs 8 (x ^^^ c)

/-- Bytes taken in. -/
def run (x : Nat) (l : List UInt8) : Nat := l.foldl (fun x c => stp x c.toNat) x

/-- The sum. -/
def sm (l : List UInt8) : Nat := 4294967295 - run 4294967295 l

/-- Four bytes, the lowest first. -/
def le4 (s : Nat) : List UInt8 := [s.toUInt8, (s / 256).toUInt8, (s / 65536).toUInt8, (s / 16777216).toUInt8]

theorem le4_length (s : Nat) : (le4 s).length = 4 := rfl

theorem xor_mod2 (x y : Nat) : (x ^^^ y) % 2 = (x % 2 + y % 2) % 2 := by
  have h := Nat.testBit_xor x y 0
  simp only [Nat.testBit_zero] at h
  have hz := Nat.mod_two_eq_zero_or_one (x ^^^ y)
  rcases Nat.mod_two_eq_zero_or_one x with hx | hx <;> rcases Nat.mod_two_eq_zero_or_one y with hy | hy <;> rw [hx, hy] at h ⊢ <;> rcases hz with hz | hz <;> rw [hz] at h ⊢ <;> first | rfl | (exact absurd h (by decide))

theorem xor_same {a b c : Nat} (h : a ^^^ b = c) : a = c ^^^ b := by
  rw [← h, Nat.xor_assoc, Nat.xor_self, Nat.xor_zero]
theorem xor_none {a b : Nat} (h : a ^^^ b = 0) : a = b := by
  have := xor_same h
  rwa [Nat.zero_xor] at this

theorem xor_div2 (x y : Nat) : (x ^^^ y) / 2 = x / 2 ^^^ y / 2 := by
  apply Nat.eq_of_testBit_eq
  intro i
  simp [Nat.testBit_div_two, Nat.testBit_xor]

theorem mv_xor (x y : Nat) : mv (x ^^^ y) = mv x ^^^ mv y := by
  unfold mv
  rw [xor_mod2, xor_div2]
  rcases Nat.mod_two_eq_zero_or_one x with hx | hx <;> rcases Nat.mod_two_eq_zero_or_one y with hy | hy <;> simp only [hx, hy]
  · simp
  · simp [Nat.xor_assoc]
  · simp
    rw [Nat.xor_assoc, Nat.xor_comm (y / 2), ← Nat.xor_assoc]
  · simp
    rw [Nat.xor_assoc, ← Nat.xor_assoc 3988292384, Nat.xor_comm 3988292384 (y / 2), Nat.xor_assoc (y / 2), Nat.xor_self, Nat.xor_zero]

theorem mv_lt {x : Nat} (h : x < 4294967296) : mv x < 4294967296 := by
  unfold mv
  split
  · exact Nat.xor_lt_two_pow (n := 32) (by omega) (by omega)
  · omega

theorem mv_zero {x : Nat} (h : x < 4294967296) (h0 : mv x = 0) : x = 0 := by
  unfold mv at h0
  split at h0
  · have : x / 2 = 3988292384 := xor_none h0
    omega
  · omega

theorem mv_double (x : Nat) : mv (2 * x) = x := by
  unfold mv
  rw [if_neg (by omega)]
  omega

theorem mvs_xor (n x y : Nat) : mvs n (x ^^^ y) = mvs n x ^^^ mvs n y := by
  induction n generalizing x y with
  | zero => rfl
  | succ n ih => show mvs n (mv (x ^^^ y)) = _; rw [mv_xor, ih]; rfl

theorem mvs_lt (n : Nat) {x : Nat} (h : x < 4294967296) : mvs n x < 4294967296 := by
  induction n generalizing x with
  | zero => exact h
  | succ n ih => exact ih (mv_lt h)

theorem mvs_zero (n : Nat) {x : Nat} (h : x < 4294967296) (h0 : mvs n x = 0) : x = 0 := by
  induction n generalizing x with
  | zero => exact h0
  | succ n ih => exact mv_zero h (ih (mv_lt h) h0)

theorem mvs_nil (n : Nat) : mvs n 0 = 0 := by
  induction n with
  | zero => rfl
  | succ n ih => exact ih

theorem mvs_add (n m x : Nat) : mvs (n + m) x = mvs m (mvs n x) := by
  induction n generalizing x with
  | zero => rw [Nat.zero_add]; rfl
  | succ n ih => rw [Nat.succ_add]; exact ih (mv x)

theorem mvs_pow (n x : Nat) : mvs n (2 ^ n * x) = x := by
  induction n generalizing x with
  | zero => show 1 * x = x; omega
  | succ n ih =>
    show mvs n (mv (2 ^ (n + 1) * x)) = x
    have : 2 ^ (n + 1) * x = 2 * (2 ^ n * x) := by rw [Nat.pow_succ, Nat.mul_comm (2 ^ n) 2, Nat.mul_assoc]
    rw [this, mv_double, ih]

theorem mvs_inj (n : Nat) {x y : Nat} (hx : x < 4294967296) (hy : y < 4294967296) (h : mvs n x = mvs n y) : x = y := by
  have h1 : mvs n (x ^^^ y) = 0 := by rw [mvs_xor, h, Nat.xor_self]
  exact xor_none (mvs_zero n (Nat.xor_lt_two_pow (n := 32) hx hy) h1)

theorem stp_lt {x : Nat} (c : UInt8) (h : x < 4294967296) : stp x c.toNat < 4294967296 :=
  mvs_lt 8 (Nat.xor_lt_two_pow (n := 32) h (by have := c.toNat_lt; omega))

theorem run_lt (l : List UInt8) {x : Nat} (h : x < 4294967296) : run x l < 4294967296 := by
  induction l generalizing x with
  | nil => exact h
  | cons c l ih => exact ih (stp_lt c h)

theorem run_append (x : Nat) (a b : List UInt8) : run x (a ++ b) = run (run x a) b := by
  unfold run; rw [List.foldl_append]

theorem run_cons (x : Nat) (c : UInt8) (l : List UInt8) : run x (c :: l) = run (stp x c.toNat) l := rfl

theorem sm_lt (l : List UInt8) : sm l < 4294967296 := by unfold sm; omega

/-- The state behind bytes that are all taken in: the state ahead moves down by their bits. -/
theorem run_xor (l : List UInt8) (x y : Nat) : run (x ^^^ y) l = run x l ^^^ mvs (8 * l.length) y := by
  induction l generalizing x y with
  | nil => rfl
  | cons c l ih =>
    rw [run_cons, run_cons]
    have e : stp (x ^^^ y) c.toNat = stp x c.toNat ^^^ mvs 8 y := by
      unfold stp
      rw [Nat.xor_assoc, Nat.xor_comm y, ← Nat.xor_assoc, mvs_xor]
    rw [e, ih, ← mvs_add]
    congr 2
    simp only [List.length_cons]
    omega

/-- A byte that is xored with y. -/
theorem run_set (l : List UInt8) (x p : Nat) (y : UInt8) (hp : p < l.length) : run x (l.set p (l[p] ^^^ y)) = run x l ^^^ mvs (8 * (l.length - p)) y.toNat := by
  induction l generalizing x p with
  | nil => simp at hp
  | cons c l ih =>
    cases p with
    | zero =>
      show run (stp x (c ^^^ y).toNat) l = run (stp x c.toNat) l ^^^ _
      have e : stp x (c ^^^ y).toNat = stp x c.toNat ^^^ mvs 8 y.toNat := by
        unfold stp
        rw [UInt8.toNat_xor, ← Nat.xor_assoc, mvs_xor]
      rw [e, run_xor, ← mvs_add]
      congr 2
      simp only [List.length_cons]
      omega
    | succ p =>
      have hp' : p < l.length := by simpa using hp
      show run (stp x c.toNat) (l.set p (l[p] ^^^ y)) = run (stp x c.toNat) l ^^^ _
      rw [ih _ p hp']
      congr 2
      simp only [List.length_cons]
      omega

/-- Two parts of a number whose bits are apart. -/
theorem add_xor (n a b : Nat) (ha : a < 2 ^ n) : a + 2 ^ n * b = a ^^^ 2 ^ n * b := by
  apply Nat.eq_of_testBit_eq
  intro i
  rw [Nat.add_comm, Nat.testBit_xor, Nat.testBit_two_pow_mul_add b ha, Nat.testBit_two_pow_mul]
  by_cases h : i < n
  · simp [h, Nat.not_le.2 h]
  · have hh : n ≤ i := Nat.not_lt.1 h
    have : a.testBit i = false := Nat.testBit_lt_two_pow (Nat.lt_of_lt_of_le ha (Nat.pow_le_pow_right (by decide) hh))
    simp [h, hh, this]

theorem ofNat_mod (s : Nat) : s.toUInt8.toNat = s % 256 := by simp

/-- Four bytes taken in. -/
theorem run_le4 (x s : Nat) (hs : s < 4294967296) : run x (le4 s) = mvs 32 (x ^^^ s) := by
  show stp (stp (stp (stp x _) _) _) _ = _
  rw [ofNat_mod, ofNat_mod, ofNat_mod, ofNat_mod]
  unfold stp
  rw [mvs_xor 8 x, mvs_xor 8 (mvs 8 x ^^^ _), mvs_xor 8 (mvs 8 x), mvs_xor 8 (mvs 8 (mvs 8 x) ^^^ mvs 8 (mvs 8 (s % 256)) ^^^ _)]
  have e3 : s / 16777216 % 256 = s / 16777216 := by omega
  rw [e3]
  have d3 : s / 65536 = s / 65536 % 256 ^^^ 2 ^ 8 * (s / 16777216) := by
    rw [← add_xor 8 _ _ (Nat.mod_lt _ (by decide))]; omega
  have d2 : s / 256 = s / 256 % 256 ^^^ 2 ^ 8 * (s / 65536) := by
    rw [← add_xor 8 _ _ (Nat.mod_lt _ (by decide))]; omega
  have d1 : s = s % 256 ^^^ 2 ^ 8 * (s / 256) := by
    rw [← add_xor 8 _ _ (Nat.mod_lt _ (by decide))]; omega
  have k3 : mvs 8 (s / 65536) = mvs 8 (s / 65536 % 256) ^^^ s / 16777216 := by
    conv => lhs; rw [d3, mvs_xor, mvs_pow]
  have k2 : mvs 8 (s / 256) = mvs 8 (s / 256 % 256) ^^^ s / 65536 := by
    conv => lhs; rw [d2, mvs_xor, mvs_pow]
  have k1 : mvs 8 s = mvs 8 (s % 256) ^^^ s / 256 := by
    conv => lhs; rw [d1, mvs_xor, mvs_pow]
  have e32 : ∀ z, mvs 32 z = mvs 8 (mvs 8 (mvs 8 (mvs 8 z))) := fun z => by
    rw [← mvs_add, ← mvs_add, ← mvs_add]
  rw [e32, mvs_xor 8 x s, k1]
  simp only [mvs_xor, k2, k3, Nat.xor_assoc]

/-- The state that all sealed bytes lead to. -/
def fin : Nat := mvs 32 4294967295

theorem fin_lt : fin < 4294967296 := mvs_lt 32 (by decide)

theorem not_xor {r : Nat} (h : r < 4294967296) : r ^^^ (4294967295 - r) = 4294967295 := by
  have h1 : 4294967295 - r = 2 ^ 32 - (r + 1) := by omega
  apply Nat.eq_of_testBit_eq
  intro i
  rw [Nat.testBit_xor, h1, Nat.testBit_two_pow_sub_succ h]
  have e : (4294967295 : Nat) = 2 ^ 32 - 1 := by decide
  rw [e, Nat.testBit_two_pow_sub_one]
  by_cases hi : i < 32
  · simp [hi]
  · have : r.testBit i = false := Nat.testBit_lt_two_pow (Nat.lt_of_lt_of_le h (show 2 ^ 32 ≤ 2 ^ i from Nat.pow_le_pow_right (by decide) (Nat.not_lt.1 hi)))
    simp [hi, this]

theorem run_seal (l : List UInt8) : run 4294967295 (l ++ le4 (sm l)) = fin := by
  rw [run_append, run_le4 _ _ (sm_lt l)]
  unfold sm fin
  rw [not_xor (run_lt l (by decide))]

/-- Four bytes are those of a number. -/
theorem le4_of (a b c d : UInt8) : [a, b, c, d] = le4 (a.toNat + 256 * b.toNat + 65536 * c.toNat + 16777216 * d.toNat) ∧ a.toNat + 256 * b.toNat + 65536 * c.toNat + 16777216 * d.toNat < 4294967296 := by
  have ha := a.toNat_lt
  have hb := b.toNat_lt
  have hc := c.toNat_lt
  have hd := d.toNat_lt
  refine ⟨?_, by omega⟩
  unfold le4
  have : ∀ (x : UInt8) (n : Nat), n % 256 = x.toNat → x = n.toUInt8 := fun x n h => by
    apply UInt8.toNat_inj.1
    rw [ofNat_mod, h]
  rw [← this a _ (by omega), ← this b _ (by omega), ← this c _ (by omega), ← this d _ (by omega)]

/-- SEALED: the last four bytes are the sum of those ahead. -/
def sealed (l : List UInt8) : Bool := l.drop (l.length - 4) == le4 (sm (l.take (l.length - 4)))

theorem sealed_iff (l : List UInt8) (h : 4 ≤ l.length) : sealed l = true ↔ run 4294967295 l = fin := by
  have hsplit : l.take (l.length - 4) ++ l.drop (l.length - 4) = l := List.take_append_drop _ _
  constructor
  · intro hs
    have hs' : l.drop (l.length - 4) = le4 (sm (l.take (l.length - 4))) := by simpa [sealed] using hs
    rw [hs'] at hsplit
    rw [← hsplit]
    exact run_seal _
  · intro hr
    have hlen : (l.drop (l.length - 4)).length = 4 := by rw [List.length_drop]; omega
    generalize hq : l.drop (l.length - 4) = q at hlen hsplit
    match q, hlen with
    | [a, b, c, d], _ =>
      obtain ⟨e, hlt⟩ := le4_of a b c d
      generalize a.toNat + 256 * b.toNat + 65536 * c.toNat + 16777216 * d.toNat = s at e hlt
      rw [e] at hsplit hq
      rw [← hsplit, run_append, run_le4 _ _ hlt] at hr
      have hlt2 := run_lt (l.take (l.length - 4)) (x := 4294967295) (by decide)
      have h2 := mvs_inj 32 (Nat.xor_lt_two_pow (n := 32) hlt2 hlt) (by decide) hr
      have h3 : s = sm (l.take (l.length - 4)) := by
        have h4 := not_xor hlt2
        rw [Nat.xor_comm] at h2 h4
        rw [xor_same h2]
        exact (xor_same h4).symm
      unfold sealed
      rw [hq, h3]
      exact beq_self_eq_true _

theorem sealed_seal (l : List UInt8) : sealed (l ++ le4 (sm l)) = true :=
  (sealed_iff _ (by rw [List.length_append, le4_length]; omega)).2 (run_seal l)

/-- What is sealed, and another state: not sealed. -/
theorem sealed_not (l : List UInt8) (h : 4 ≤ l.length) (n y : Nat) (hy : y < 4294967296) (h0 : y ≠ 0) (hr : run 4294967295 l = fin ^^^ mvs n y) : sealed l = false := by
  cases hs : sealed l with
  | false => rfl
  | true =>
    exfalso
    apply h0
    rw [(sealed_iff l h).1 hs] at hr
    apply mvs_zero n hy
    have : fin ^^^ (fin ^^^ mvs n y) = 0 := by rw [← hr, Nat.xor_self]
    rwa [← Nat.xor_assoc, Nat.xor_self, Nat.zero_xor] at this

/-- A bit that is turned, as the bits of the burst. -/
theorem turn_bit (N j f i : Nat) (hj : j = f + i) (hN : j < 8 * N) : mvs (8 * (N - j / 8)) (2 ^ (j % 8)) = mvs (8 * N - f) (2 ^ i) := by
  have h1 : 8 * (N - j / 8) = j % 8 + (8 * N - j) := by omega
  have h2 : 8 * N - f = i + (8 * N - j) := by omega
  have a := mvs_pow (j % 8) 1
  have b := mvs_pow i 1
  rw [Nat.mul_one] at a b
  rw [h1, h2, mvs_add, mvs_add, a, b]

theorem mod_bit (b i : Nat) : b % 2 ^ (i + 1) = b % 2 ^ i ^^^ (if b / 2 ^ i % 2 = 1 then 2 ^ i else 0) := by
  have h1 : b % 2 ^ (i + 1) = b % 2 ^ i + 2 ^ i * (b / 2 ^ i % 2) := by rw [Nat.pow_succ, Nat.mod_mul]
  rw [h1, add_xor i _ _ (Nat.mod_lt _ (Nat.pow_pos (by decide)))]
  rcases Nat.mod_two_eq_zero_or_one (b / 2 ^ i) with h | h <;> simp [h]

end Go.Proofs.Ytnfejhkgcbabfaa.Crc
