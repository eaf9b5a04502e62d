import Derived.Test.YtohmcpjkijndjaaSHeads
import Derived.Test.YtohmcpjkijndjaaCalmOn
import Derived.Deep.Slices
import Derived.Test.YtohmcpjkijndjaaIPairOn
/- What the laws of stamps lean on: Few and Check of the document's answer; stamps that may be; their first steps. -/
namespace Go.Proofs.Ytohmcpjkijndjaa
open Go.RowKit
open Idn (ID)

theorem Calm.loadS {ops : Array Oper} {S : World → Prop} {K : Act → Prop} {o : Oper} {l : List Oper} {a : Act} {b : Nat} {n : Int} {p : Option Addr} {ln c : Nat} {n' : Int} {p' : Option Addr} {ln' c' : Nat} (hw : Region.wanted o (yielded ops a.tmps) = true) (x : Operand) (ho : o.op = .load 26 x)
    (hx : a.eval x = .pointer (some ⟨b, 0, none⟩)) (hS : ∀ w, S w → Sx w b n p ln c n' p' ln' c') (h : Calm.calmList Try.prog ops S K l (a.put o.dst (SV n p ln c n' p' ln' c'))) : Calm.calmList Try.prog ops S K (o :: l) a :=
  Calm.pure hw (fun w hw' => by unfold execOp; simp only [ho, hx, Sem.run_bind, (hS w hw').loadAt', Result.andThen_ok, Sem.run_pure]) h
set_option maxHeartbeats 1000000 in
set_option maxRecDepth 100000 in
theorem few_s (t u : Tr) (n : Int) (p : Option Addr) (l c : Nat) (n' : Int) (p' : Option Addr) (l' c' : Nat) (w : World) (ht : Lies w t (TV n p l c)) (hu : Lies w u (TV n' p' l' c')) :
    Calls Try.prog 7 #[SV n p l c n' p' l' c'] w fun e w' => ∃ b : Bool, e = .returned (.bool b) ∧ (b = true → sz t ≤ 120 ∧ sz u ≤ 120) ∧ Below w.heap.size w w' := by
  obtain ⟨h1, hbel⟩ := one_r w 26 #[.int .i64 n, .slice p l c, .int .i64 n', .slice p' l' c'] _ rfl
  have r0 := fun w1 (hb : Below w.heap.size w w1) => few_sz t n p l c w1 (ht.later hb)
  have r1 := fun w1 (hb : Below w.heap.size w w1) => few_sz u n' p' l' c' w1 (hu.later hb)
  clear ht hu
  go_enter Try.func7, Try.ntmps7
  go_wp2_with (refine load_t _ rfl rfl _ _ rfl (Sx.tat0 h1) ?_)
  refine (r0 _ hbel).mono ?_
  rintro e w1 ⟨b, rfl, hb0, hb1⟩
  replace h1 := h1.later hb1
  replace hbel := below_on hbel hb1
  have H0 : Hid (b = true → sz t ≤ 120) := hb0
  clear hb0 hb1 r0
  cases b
  · go_wp2
    go_ret
    exact ⟨false, rfl, fun h => (by cases h), hbel⟩
  · go_wp2_with (refine load_t _ rfl rfl _ _ rfl (Sx.tat1 h1) ?_)
    refine (r1 _ hbel).mono ?_
    rintro e w2 ⟨b1, rfl, hb0, hb2⟩
    have H1 : Hid (b1 = true → sz u ≤ 120) := hb0
    have hb3 := below_on hbel hb2
    clear hb0 hb2 hbel r1
    go_wp2
    go_ret
    exact ⟨b1, rfl, fun h => ⟨H0.out (by first | rfl | trivial), H1.out h⟩, hb3⟩
set_option maxHeartbeats 1000000 in
set_option maxRecDepth 100000 in
theorem check_s (t u : Tr) (n : Int) (p : Option Addr) (l c : Nat) (n' : Int) (p' : Option Addr) (l' c' : Nat) (w : World) (ht : Lies w t (TV n p l c)) (hu : Lies w u (TV n' p' l' c')) :
    Calls Try.prog 8 #[SV n p l c n' p' l' c'] w (Tells (.bool (Idn.okT t && okT u)) w) := by
  obtain ⟨h1, hbel⟩ := one_r w 26 #[.int .i64 n, .slice p l c, .int .i64 n', .slice p' l' c'] _ rfl
  have r0 := fun w1 (hb : Below w.heap.size w w1) => Idn.refCheck_tr t n p l c w1 (ht.later hb)
  have r1 := fun w1 (hb : Below w.heap.size w w1) => refCheck_tr u n' p' l' c' w1 (hu.later hb)
  generalize Idn.okT t = b at r0 ⊢
  generalize okT u = b1 at r1 ⊢
  clear ht hu
  go_enter Try.func8, Try.ntmps8
  go_wp2_with (refine load_t _ rfl rfl _ _ rfl (Sx.tat0 h1) ?_)
  refine (r0 _ hbel).mono ?_
  rintro e w1 ⟨rfl, hb1⟩
  replace h1 := h1.later hb1
  replace hbel := below_on hbel hb1
  cases b
  · go_wp2
    go_ret
    exact ⟨rfl, hbel⟩
  · go_wp2_with (refine load_t _ rfl rfl _ _ rfl (Sx.tat1 h1) ?_)
    refine (r1 _ hbel).mono ?_
    rintro e w2 ⟨rfl, hb2⟩
    go_wp2
    go_ret
    exact ⟨rfl, below_on hbel hb2⟩
theorem okI_of {w : World} {t : Tr} {v : Value} (h : Lies w t v) (hk : Idn.okT t = true) : Idn.Is w (Idn.idOf t) v ∧ Idn.ok (Idn.idOf t) = true := ⟨Idn.is_ok h hk, Idn.okT_ok h hk⟩
theorem peek_is {a : EV} {n : Int} {p : Option Addr} {l c : Nat} {n' : Int} {p' : Option Addr} {l' c' : Nat} {w : World} {u : Tr} (hu : Lies w u (TV n' p' l' c')) (hz : sz u ≤ 120) (hk : okT u = true) (ha : evOf u = a) : Calls Try.prog 10 #[SV n p l c n' p' l' c'] w (GivesS zI a w) :=
  (peek_tr u n p l c n' p' l' c' w hu hz).mono fun _ _ ⟨m, q, k, d, e, h, hb⟩ => ⟨0, none, 0, 0, m, q, k, d, e, zI_is _, by rw [← ha]; exact (ok_of h hk).1, hb⟩
theorem share_is {x : ID} {n : Int} {p : Option Addr} {l c : Nat} {w : World} (hx : Idn.Is w x (TV n p l c)) (kx : Idn.ok x = true) : Calls Try.prog 14 #[TV n p l c] w (Tells (.int .i64 (Idn.own x 65536 : Nat)) w) := by
  have := Idn.share_any x n p l c w hx
  rwa [Idn.shareT_ok kx] at this
end Go.Proofs.Ytohmcpjkijndjaa
/- An argument that is a tree. -/
namespace Go.Proofs.Ytohmcpjkijndjaa
open Go.ChangeShapes Go.WideShapes Go.ChangeAt Go.RowKit

section
variable {H : Type} {enc : TypeId × Value → H} {w : World} {base : Nat} {spare : Nat → Bool} {held : Bool}
theorem open_tree : ∀ (fuel : Nat) (cs : List Value) (x : DataW H × List MemPlace), DataW.trod enc Try.prog w base spare held fuel 24 cs = some x →
    ∃ n p l c t, cs = [.int .i64 n, .slice p l c] ∧ Lies w t (TV n p l c) := by
  intro fuel
  induction fuel using Nat.strongRecOn with
  | _ fuel ih =>
    intro cs x h
    have c24 : Try.prog.cellsOf 24 = 2 := by kernel_rfl
    have c3 : Try.prog.cellsOf 3 = 1 := by kernel_rfl
    have c22 : Try.prog.cellsOf 22 = 1 := by kernel_rfl
    obtain ⟨xs, k, rfl, rfl, hcl, hxl, hf⟩ := DataW.trod_struct Try.underlying24 h
    rw [c24] at hcl
    match xs, hxl, cs, hcl with
    | [y0, y1], _, [v0, v1], _ =>
      have g0 := hf 0 _ rfl
      have g1 := hf 1 _ rfl
      simp [c3, c22] at g0 g1
      obtain ⟨n, hn, _, hw⟩ := DataW.trod_int Try.underlying3 g0
      simp at hn
      subst hn
      have hb := bounds_i64 hw
      rcases DataW.trod_slice Try.underlying22 g1 with ⟨h0, _⟩ | ⟨a, len, cap, elems, rest, m, hm, hcs, _, hba, hl, hmx, hlen, hel, _, _⟩
      · simp at h0
        subst h0
        exact ⟨n, none, 0, 0, ⟨n, 0, fun i => i.elim0⟩, rfl, hb, Nat.zero_le _, none, 0, rfl, fun h => by omega⟩
      · simp at hcs
        subst hcs
        have each : ∀ i, i < len → ∃ t : Tr, ∃ n0 p0 l0 c0, w.cell? (a.add (i * 2)) = some (.int .i64 n0) ∧ w.cell? (a.add (i * 2 + 1)) = some (.slice p0 l0 c0) ∧ Lies w t (TV n0 p0 l0 c0) := by
          intro i hi
          have hi' := hel i hi
          rw [c24, List.getElem?_eq_getElem (by omega)] at hi'
          obtain ⟨cs', h1, h2⟩ := Option.bind_eq_some_iff.1 hi'
          obtain ⟨_, hlen', hcell⟩ := World.cells?_some h1
          obtain ⟨n0, p0, l0, c0, t, rfl, ht⟩ := ih m (by omega) cs' _ h2
          have e0 := hcell 0 (by omega)
          have e1 := hcell 1 (by omega)
          rw [Deep.add_add] at e0 e1
          exact ⟨t, n0, p0, l0, c0, by simpa using e0, by simpa using e1, ht⟩
        have hinh : Inhabited Tr := ⟨⟨0, 0, fun i => i.elim0⟩⟩
        obtain ⟨kids, hk⟩ := Deep.choose_lt each
        refine ⟨n, some a, len, cap, ⟨n, len, fun i => kids i.1⟩, rfl, hb, by omega, some a, cap, rfl, fun h0 => ?_⟩
        obtain ⟨b, off, spot⟩ := a
        obtain ⟨_, _, _, _, q0, _, _⟩ := hk 0 h0
        have hspot : spot = none := by simpa [Addr.add] using World.cell?_spot q0
        subst hspot
        refine ⟨b, off, rfl, fun i hi => ?_⟩
        obtain ⟨n0, p0, l0, c0, q0, q1, q2⟩ := hk i hi
        rw [Addr.add_mid] at q0 q1
        exact ⟨n0, p0, l0, c0, ⟨q0, q1⟩, q2⟩

theorem open_arg {r : Reach} {b0 : Nat} {v : Value} {d : DataW H} {ps : List MemPlace} (hval : Value.okWide Try.prog w r b0 24 v) (hd : DataW.Trod enc Try.prog w base spare held 24 v d ps) : ∃ n p l c t, v = TV n p l c ∧ Lies w t (TV n p l c) := by
  obtain ⟨fuel, hf⟩ := hd
  obtain ⟨n, p, l, c, t, e, ht⟩ := open_tree fuel _ _ hf
  simp only [Value.okWide, Try.underlying24] at hval
  obtain ⟨cs, rfl, _⟩ := hval
  refine ⟨n, p, l, c, t, ?_, ht⟩
  have : cs = #[.int .i64 n, .slice p l c] := by
    apply Array.toList_inj.1
    exact e
  rw [this]
end
end Go.Proofs.Ytohmcpjkijndjaa
/- An argument that is a stamp. -/
namespace Go.Proofs.Ytohmcpjkijndjaa
open Go.ChangeShapes Go.WideShapes Go.ChangeAt Go.RowKit

section
variable {H : Type} {enc : TypeId × Value → H} {w : World} {base : Nat} {spare : Nat → Bool} {held : Bool}
theorem open_stamp {r : Reach} {b0 : Nat} {v : Value} {d : DataW H} {ps : List MemPlace} (hval : Value.okWide Try.prog w r b0 26 v) (hd : DataW.Trod enc Try.prog w base spare held 26 v d ps) : ∃ n p l c n' p' l' c' t u, v = SV n p l c n' p' l' c' ∧ Lies w t (TV n p l c) ∧ Lies w u (TV n' p' l' c') := by
  obtain ⟨fuel, h⟩ := hd
  have c24 : Try.prog.cellsOf 24 = 2 := by kernel_rfl
  have c26 : Try.prog.cellsOf 26 = 4 := by kernel_rfl
  simp only [Value.okWide, Try.underlying26] at hval
  obtain ⟨cs, rfl, _⟩ := hval
  obtain ⟨xs, k, rfl, _, hcl, hxl, hf⟩ := DataW.trod_struct Try.underlying26 h
  rw [c26] at hcl
  match xs, hxl with
  | [y0, y1], _ =>
    have g0 := hf 0 _ rfl
    have g1 := hf 1 _ rfl
    simp only [Value.cells] at hcl g0 g1
    match hc : cs.toList, hcl with
    | [v0, v1, v2, v3], _ =>
      rw [hc] at g0 g1
      simp [c24] at g0 g1
      obtain ⟨n, p, l, c, t, e, ht⟩ := open_tree _ _ _ g0
      obtain ⟨n', p', l', c', u, e', hu⟩ := open_tree _ _ _ g1
      simp at e e'
      obtain ⟨rfl, rfl⟩ := e
      obtain ⟨rfl, rfl⟩ := e'
      refine ⟨n, p, l, c, n', p', l', c', t, u, ?_, ht, hu⟩
      have : cs = #[.int .i64 n, .slice p l c, .int .i64 n', .slice p' l' c'] := by
        apply Array.toList_inj.1
        exact hc
      rw [this]
end
end Go.Proofs.Ytohmcpjkijndjaa
