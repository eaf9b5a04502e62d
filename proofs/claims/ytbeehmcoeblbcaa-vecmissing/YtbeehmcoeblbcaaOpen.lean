/- An argument that is an array of thirteen ints: the list of its numbers. -/
import Derived.Test.YtbeehmcoeblbcaaArr
namespace Go.Proofs.Ytbeehmcoeblbcaa
open Go.ChangeShapes Go.WideShapes Go.ChangeAt Go.RowKit

theorem vals_of_ints : ∀ (cs : List Value), (∀ i (h : i < cs.length), ∃ n : Int, cs[i] = .int .i64 n ∧ (Lit.int .i64 n).wf = true) → ∃ l : List Int, cs = vals l ∧ ∀ n ∈ l, (Lit.int .i64 n).wf = true
  | [], _ => ⟨[], rfl, fun _ h => by cases h⟩
  | c :: cs, h => by
    obtain ⟨n, hn, hw⟩ := h 0 (by simp)
    obtain ⟨l, hl, hall⟩ := vals_of_ints cs (fun i hi => by have := h (i + 1) (by simpa using hi); simpa using this)
    refine ⟨n :: l, ?_, fun m hm => ?_⟩
    · simp only [List.getElem_cons_zero] at hn
      rw [hn, hl]
      rfl
    · rcases List.mem_cons.1 hm with rfl | hm
      · exact hw
      · exact hall m hm

theorem open_vec {H : Type} {enc : TypeId × Value → H} {W : World} {r : Reach} {b0 base : Nat} {spare : Nat → Bool} {held : Bool} {v : Value} {d : DataW H} {ps : List MemPlace}
    (hval : Value.okWide Try.prog W r b0 23 v) (hd : DataW.Trod enc Try.prog W base spare held 23 v d ps) : ∃ l : List Int, v = V l ∧ l.length = 13 ∧ ∀ n ∈ l, (Lit.int .i64 n).wf = true := by
  obtain ⟨fuel, hf⟩ := hd
  simp only [Value.okWide, Try.underlying23] at hval
  obtain ⟨cs, rfl, h2, _⟩ := hval
  obtain ⟨xs, m, _, _, hlen, hxs, hi⟩ := DataW.trod_array Try.underlying23 hf
  have c3 : Try.prog.cellsOf 3 = 1 := by kernel_rfl
  have c23 : Try.prog.cellsOf 23 = 13 := by kernel_rfl
  have hsz : cs.size = 13 := h2.trans c23
  obtain ⟨l, hl, hw⟩ := vals_of_ints cs.toList (fun i hlt => by
    have hi13 : i < 13 := by simpa [hsz] using hlt
    have h := hi i hi13
    rw [c3, List.getElem?_eq_getElem (show i < xs.length by omega)] at h
    obtain ⟨n, hn, _, hw⟩ := DataW.trod_int Try.underlying3 h
    refine ⟨n, ?_, hw⟩
    simp only [Value.cells, Nat.mul_one] at hn
    rw [List.drop_eq_getElem_cons hlt] at hn
    simpa using hn)
  refine ⟨l, ?_, ?_, hw⟩
  · rw [V, ← hl]
  · have := congrArg List.length hl
    rw [vals_length] at this
    simp [hsz] at this
    exact this.symm

end Go.Proofs.Ytbeehmcoeblbcaa
