import Derived.Test.YtmcajjdijjcpkaaP1
import Derived.Deep.Slices
import Derived.Test.YtmcajjdijjcpkaaP5
/- An argument that is a tree. -/
namespace Go.Proofs.Ytmcajjdijjcpkaa
open Go.ChangeShapes Go.WideShapes Go.ChangeAt Go.RowKit

section
variable {H : Type} {enc : TypeId × Value → H} {w : World} {base : Nat} {spare : Nat → Bool} {held : Bool}
theorem open_tree : ∀ (fuel : Nat) (cs : List Value) (x : DataW H × List MemPlace), DataW.trod enc Try.prog w base spare held fuel 24 cs = some x →
    ∃ n p l c t, cs = [.int .i64 n, .slice p l c] ∧ Lies w t (TV n p l c) := by
  intro fuel
  induction fuel using Nat.strongRecOn with
  | _ fuel ih =>
    intro cs x h
    have c24 : Try.prog.cellsOf 24 = 2 := by kernel_rfl
    have c3 : Try.prog.cellsOf 3 = 1 := by kernel_rfl
    have c22 : Try.prog.cellsOf 22 = 1 := by kernel_rfl
    obtain ⟨xs, k, rfl, rfl, hcl, hxl, hf⟩ := DataW.trod_struct Try.underlying24 h
    rw [c24] at hcl
    match xs, hxl, cs, hcl with
    | [y0, y1], _, [v0, v1], _ =>
      have g0 := hf 0 _ rfl
      have g1 := hf 1 _ rfl
      simp [c3, c22] at g0 g1
      obtain ⟨n, hn, _, hw⟩ := DataW.trod_int Try.underlying3 g0
      simp at hn
      subst hn
      have hb := bounds_i64 hw
      rcases DataW.trod_slice Try.underlying22 g1 with ⟨h0, _⟩ | ⟨a, len, cap, elems, rest, m, hm, hcs, _, hba, hl, hmx, hlen, hel, _, _⟩
      · simp at h0
        subst h0
        exact ⟨n, none, 0, 0, ⟨n, 0, fun i => i.elim0⟩, rfl, hb, Nat.zero_le _, none, 0, rfl, fun h => by omega⟩
      · simp at hcs
        subst hcs
        have each : ∀ i, i < len → ∃ t : Tr, ∃ n0 p0 l0 c0, w.cell? (a.add (i * 2)) = some (.int .i64 n0) ∧ w.cell? (a.add (i * 2 + 1)) = some (.slice p0 l0 c0) ∧ Lies w t (TV n0 p0 l0 c0) := by
          intro i hi
          have hi' := hel i hi
          rw [c24, List.getElem?_eq_getElem (by omega)] at hi'
          obtain ⟨cs', h1, h2⟩ := Option.bind_eq_some_iff.1 hi'
          obtain ⟨_, hlen', hcell⟩ := World.cells?_some h1
          obtain ⟨n0, p0, l0, c0, t, rfl, ht⟩ := ih m (by omega) cs' _ h2
          have e0 := hcell 0 (by omega)
          have e1 := hcell 1 (by omega)
          rw [Deep.add_add] at e0 e1
          exact ⟨t, n0, p0, l0, c0, by simpa using e0, by simpa using e1, ht⟩
        have hinh : Inhabited Tr := ⟨⟨0, 0, fun i => i.elim0⟩⟩
        obtain ⟨kids, hk⟩ := Deep.choose_lt each
        refine ⟨n, some a, len, cap, ⟨n, len, fun i => kids i.1⟩, rfl, hb, by omega, some a, cap, rfl, fun h0 => ?_⟩
        obtain ⟨b, off, spot⟩ := a
        obtain ⟨_, _, _, _, q0, _, _⟩ := hk 0 h0
        have hspot : spot = none := by simpa [Addr.add] using World.cell?_spot q0
        subst hspot
        refine ⟨b, off, rfl, fun i hi => ?_⟩
        obtain ⟨n0, p0, l0, c0, q0, q1, q2⟩ := hk i hi
        rw [Addr.add_mid] at q0 q1
        exact ⟨n0, p0, l0, c0, ⟨q0, q1⟩, q2⟩

theorem open_arg {r : Reach} {b0 : Nat} {v : Value} {d : DataW H} {ps : List MemPlace} (hval : Value.okWide Try.prog w r b0 24 v) (hd : DataW.Trod enc Try.prog w base spare held 24 v d ps) : ∃ n p l c t, v = TV n p l c ∧ Lies w t (TV n p l c) := by
  obtain ⟨fuel, hf⟩ := hd
  obtain ⟨n, p, l, c, t, e, ht⟩ := open_tree fuel _ _ hf
  simp only [Value.okWide, Try.underlying24] at hval
  obtain ⟨cs, rfl, _⟩ := hval
  refine ⟨n, p, l, c, t, ?_, ht⟩
  have : cs = #[.int .i64 n, .slice p l c] := by
    apply Array.toList_inj.1
    exact e
  rw [this]
end
end Go.Proofs.Ytmcajjdijjcpkaa
/- An argument that is a stamp. -/
namespace Go.Proofs.Ytmcajjdijjcpkaa
open Go.ChangeShapes Go.WideShapes Go.ChangeAt Go.RowKit

section
variable {H : Type} {enc : TypeId × Value → H} {w : World} {base : Nat} {spare : Nat → Bool} {held : Bool}
theorem open_stamp {r : Reach} {b0 : Nat} {v : Value} {d : DataW H} {ps : List MemPlace} (hval : Value.okWide Try.prog w r b0 26 v) (hd : DataW.Trod enc Try.prog w base spare held 26 v d ps) : ∃ n p l c n' p' l' c' t u, v = SV n p l c n' p' l' c' ∧ Lies w t (TV n p l c) ∧ Lies w u (TV n' p' l' c') := by
  obtain ⟨fuel, h⟩ := hd
  have c24 : Try.prog.cellsOf 24 = 2 := by kernel_rfl
  have c26 : Try.prog.cellsOf 26 = 4 := by kernel_rfl
  simp only [Value.okWide, Try.underlying26] at hval
  obtain ⟨cs, rfl, _⟩ := hval
  obtain ⟨xs, k, rfl, _, hcl, hxl, hf⟩ := DataW.trod_struct Try.underlying26 h
  rw [c26] at hcl
  match xs, hxl with
  | [y0, y1], _ =>
    have g0 := hf 0 _ rfl
    have g1 := hf 1 _ rfl
    simp only [Value.cells] at hcl g0 g1
    match hc : cs.toList, hcl with
    | [v0, v1, v2, v3], _ =>
      rw [hc] at g0 g1
      simp [c24] at g0 g1
      obtain ⟨n, p, l, c, t, e, ht⟩ := open_tree _ _ _ g0
      obtain ⟨n', p', l', c', u, e', hu⟩ := open_tree _ _ _ g1
      simp at e e'
      obtain ⟨rfl, rfl⟩ := e
      obtain ⟨rfl, rfl⟩ := e'
      refine ⟨n, p, l, c, n', p', l', c', t, u, ?_, ht, hu⟩
      have : cs = #[.int .i64 n, .slice p l c, .int .i64 n', .slice p' l' c'] := by
        apply Array.toList_inj.1
        exact hc
      rw [this]
end
end Go.Proofs.Ytmcajjdijjcpkaa
