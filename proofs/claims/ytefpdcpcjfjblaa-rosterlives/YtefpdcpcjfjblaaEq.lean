/- Ops of the document's answer: whether two slices hold the same ops. -/
import Derived.Test.YtefpdcpcjfjblaaTx
namespace Go.Proofs.Ytefpdcpcjfjblaa
open Go.RowKit

/-- Two rows of ops are one. -/
def leqb : List O → List O → Bool
  | [], [] => true
  | a :: l, b :: m => a.eqb b && leqb l m
  | _, _ => false
theorem leqb_iff : ∀ l m : List O, leqb l m = true ↔ l = m
  | [], [] => by simp [leqb]
  | [], _ :: _ => by simp [leqb]
  | _ :: _, [] => by simp [leqb]
  | a :: l, b :: m => by simp [leqb, leqb_iff l m, O.eqb_iff]
theorem Calm.loadM {ops : Array Oper} {S : World → Prop} {K : Act → Prop} {o : Oper} {l : List Oper} {a : Act} {b f : Nat} {cs : List Value} (t : TypeId) {d : TypeDesc} (hu : Try.prog.underlying t = some d) (hd : d.isRow = true) (hi : (Try.prog.info? t).map (·.size) = some cs.length) (hw : Region.wanted o (yielded ops a.tmps) = true) (x : Operand) (ho : o.op = .load t x)
    (hx : a.eval x = .pointer (some ⟨b, f, none⟩)) (hS : ∀ w, S w → w.rangeAt b f cs) (h : Calm.calmList Try.prog ops S K l (a.put o.dst (.agg cs.toArray))) : Calm.calmList Try.prog ops S K (o :: l) a :=
  Calm.pure hw (fun w hw' => by
    have h2 := run_loadVar_mid (P := Try.prog) w b f t cs d (hS w hw') hu hd hi
    unfold execOp
    simp only [ho, hx, Instr.loadAt, Instr.sureAddr, Sem.run_bind, Sem.run_pure, h2, Result.andThen_ok]) h

end Go.Proofs.Ytefpdcpcjfjblaa
