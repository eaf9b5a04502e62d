import Derived.Test.YtnfejhkgcbabfaaP7
import Derived.Test.YtnfejhkgcbabfaaP5
import Derived.RangeFuncLeaves
import Derived.RangeFuncRecord
import Derived.RangeFuncSeq
import Derived.RangeFuncCalls
import Derived.OrdersIn
import Derived.OrdersHeld
import Derived.TacticsIn
import Derived.Orders
import Derived.Below
import Derived.RowKit
import Derived.RangeFuncNested
import Derived.Shelf.Abstract
import Derived.WalkKit
import Derived.OwnWalkIn
import Derived.TacticsInMore
import Derived.LoopNIn
import Derived.LoopIn
/- The program's Put. -/
namespace Go.Proofs.Ytnfejhkgcbabfaa
open Go.RowKit

theorem build_by3 (p q r : Option Addr) (n m k c d f : Nat) (w : World) : (Instr.buildSlice 22 3 #[(0, .slice p n c), (1, .slice q m d), (2, .slice r k f)]).run Try.prog w = .ok (.slice (some ⟨w.heap.size, 0, none⟩) 3 3) (w.alloc (.cells #[.slice p n c, .slice q m d, .slice r k f] 23)) := by
  go_simp
theorem run_b3 {o : Oper} {a : Act} {w : World} {x y z : Operand} {p q r : Option Addr} {n m k c d f : Nat} (ho : o.op = .buildSlice 22 3 #[(0, x), (1, y), (2, z)]) (hx : a.eval x = .slice p n c) (hy : a.eval y = .slice q m d) (hz : a.eval z = .slice r k f) : (execOp a.eval o).run Try.prog w = .ok (.value (.slice (some ⟨w.heap.size, 0, none⟩) 3 3)) (w.alloc (.cells #[.slice p n c, .slice q m d, .slice r k f] 23)) := by
  unfold execOp
  simp only [ho, List.map_toArray, List.map_cons, List.map_nil, hx, hy, hz, Sem.run_bind, build_by3, Result.andThen_ok, Sem.run_pure]
/-- Three rows of bytes, built. -/
theorem three_by {w : World} {x y z : Value} {a b c : List UInt8} (hx : DB w x a) (hy : DB w y b) (hz : DB w z c) : BHas (w.alloc (.cells #[x, y, z] 23)) (.slice (some ⟨w.heap.size, 0, none⟩) 3 3) [a, b, c] := by
  refine ⟨[(a, x), (b, y), (c, z)], rfl, ⟨(show 3 ≤ maxLen by decide), rfl, .inr ⟨_, 3, rfl, ⟨Nat.le_refl _, by decide⟩, fun _ => ⟨w.heap.size, 0, rfl, ?_⟩⟩⟩, fun q hq => ?_⟩
  · exact (rw_new w 23 _).range 0 _ fun j u hu => by simpa [rows, BV.cells] using hu
  · have hb := bel_alloc (Below.refl w.heap.size w) (.cells #[x, y, z] 23)
    simp only [List.mem_cons, List.not_mem_nil, or_false] at hq
    rcases hq with rfl | rfl | rfl
    · exact hx.later hb
    · exact hy.later hb
    · exact hz.later hb
theorem DB.row {w : World} {B : Nat} {t : TypeId} {l : List UInt8} (h : Rw w B t (cel l).toArray) (hl : l.length ≤ maxLen) : DB w (.slice (some ⟨B, 0, none⟩) l.length l.length) l :=
  ⟨hl, by rw [cel_length, Nat.mul_one], .inr ⟨_, l.length, rfl, ⟨Nat.le_refl _, hl⟩, fun _ => ⟨B, 0, rfl, h.range 0 _ fun j u hu => by simpa using hu⟩⟩⟩
set_option maxHeartbeats 4000000 in
set_option maxRecDepth 100000 in
theorem pPut_any (u v : Value) (b l : List UInt8) (w : World) (hu : DB w u b) (hv : DB w v l) (hb : b.length ≤ 100000) (hl : l.length ≤ 100000) : Calls Try.prog 12 #[u, v] w (PuPostO (putR b l) u w) := by
  have hml := maxLen_lt hv.1
  obtain ⟨pu, cu, rfl⟩ := SHas.slice hu
  obtain ⟨p, c, rfl⟩ := SHas.slice hv
  obtain ⟨z, HZ⟩ := hid_ex (putR b l)
  rw [HZ.out]
  unfold putR at HZ
  go_enter Try.func12, Try.ntmps12
  by_cases h6 : 60000 < l.length
  · have h6' : (60000 : Int) < (l.length : Int) := by omega
    rw [if_pos h6] at HZ
    obtain rfl := HZ.out
    clear hu hv
    go_wp2_with fail
    go_ret2
    exact ⟨_, rfl, DB.nil _, (fun q hq hof a n c e hn e2 => by cases e), Below.refl _ _⟩
  · have h6' : ¬ (60000 : Int) < (l.length : Int) := by omega
    rw [if_neg h6] at HZ
    obtain rfl := HZ.out
    have C := pSplit_any l.length w (by omega)
    have HU : Hid (∀ w', Below w.heap.size w w' → DB w' (.slice pu b.length cu) b) := fun w' hb => SHas.later hu hb
    have HV : Hid (∀ w', Below w.heap.size w w' → DB w' (.slice p l.length c) l) := fun w' hb => SHas.later hv hb
    clear hu hv HZ
    go_wp2_with fail
    refine C.mono ?_
    rintro e w1 ⟨rfl, hb1⟩
    clear C
    have hi4 : (Try.prog.info? 45).map (·.size) = some (cel (be4 l.length)).toArray.size := by rw [List.size_toArray, cel_length, be4_length]; exact info45
    have h1c : (cel (be4 l.length)).toArray.all (·.oneCell') = true := by simp [cel, be4, Value.oneCell']
    have R0 := rw_new w1 45 #[.int .u8 0, .int .u8 0, .int .u8 0, .int .u8 0]
    have R1 : Hid (Rw ((w1.alloc (.cells #[.int .u8 0, .int .u8 0, .int .u8 0, .int .u8 0] 45)).setRow w1.heap.size (cel (be4 l.length)).toArray) w1.heap.size 45 (cel (be4 l.length)).toArray) := R0.row _
    have hb2 : Below w.heap.size w ((w1.alloc (.cells #[.int .u8 0, .int .u8 0, .int .u8 0, .int .u8 0] 45)).setRow w1.heap.size (cel (be4 l.length)).toArray) := below_setRow (bel_alloc hb1 _) (g := w1.heap.size) hb1.size _
    go_upto_region 4 with (refine store_r rfl 45 _ _ rfl _ (cel (be4 l.length)).toArray rfl rfl R0 hi4 rfl h1c ?_)
    clear R0 hi4 h1c
    generalize (w1.alloc (.cells #[.int .u8 0, .int .u8 0, .int .u8 0, .int .u8 0] 45)).setRow w1.heap.size (cel (be4 l.length)).toArray = w2 at R1 hb2 ⊢
    have hb2s := hb1.size
    generalize w1.heap.size = B6 at R1 hb2s ⊢
    clear hb1
    refine HeldI.region (fun _ => True) (by kernel_rfl) ?_
    refine HeldI.pu 0 trivial ?_
    refine HeldI.pu 1 trivial ?_
    refine HeldI.pu 2 trivial ?_
    refine HeldI.kn 3 (Cr.seal_any _ l w2.drew ((HV.out _ hb2).has) hl) ?_
    rintro e w3 ⟨v3, rfl, hown3, hb3⟩
    refine ⟨_, rfl, trivial, ?_⟩
    obtain ⟨p3, c3, rfl⟩ := own_sl hown3
    have hD3 := own_db hown3
    have hbw3 : Below w.heap.size w w3 := below_on hb2.drew hb3
    have hD1 := HU.out _ hbw3
    have hD2 : DB w3 (.slice (some ⟨B6, 0, none⟩) 4 4) (be4 l.length) := DB.row (R1.out.drew.later hb3) (by rw [be4_length]; decide)
    have hT := three_by hD1 hD2 hD3
    have hb4 : Below w.heap.size w (w3.alloc (.cells #[.slice pu b.length cu, .slice (some ⟨B6, 0, none⟩) 4 4, .slice p3 (l ++ Crc.le4 (Crc.sm l)).length c3] 23)) := bel_alloc hbw3 _
    have C := concat_any _ _ _ hT (by simp [lenSum, be4_length, Crc.le4_length]; omega)
    have hfl : [b, be4 l.length, l ++ Crc.le4 (Crc.sm l)].flatten = b ++ recB l := by simp [recB]
    rw [hfl] at C
    clear hT hD1 hD2 hD3 hown3 hb3 hbw3
    refine HeldI.vl 4 (run_b3 rfl rfl rfl rfl) trivial ?_
    refine HeldI.kn 5 C ?_
    rintro e w5 ⟨v5, rfl, hown5, hb5⟩
    refine ⟨_, rfl, trivial, ?_⟩
    refine HeldI.pu 6 trivial ?_
    refine HeldI.pu 7 trivial ?_
    refine HeldI.dn ?_
    rename_i K hKK
    show K _ _
    refine hKK _ _ ?_
    clear hKK
    have hs4 := hb4.size
    refine wp_ret ?_
    go_ret2
    exact ⟨v5, rfl, own_db hown5, fun q hq _ => own_off hown5 (by omega), below_on hb4 hb5⟩
end Go.Proofs.Ytnfejhkgcbabfaa
/- The program's first record. -/
namespace Go.Proofs.Ytnfejhkgcbabfaa
open Go.RowKit

/-- The body of the first record, and whether there is one; its bytes lie in no older block, with no room behind them. -/
def FiPost (r : Option (List UInt8)) (w : World) (e : Ending) (w' : World) : Prop := (∃ x p, r = some x ∧ e = .returned (.tuple #[.slice p x.length x.length, .bool true]) ∧ DB w' (.slice p x.length x.length) x ∧ (∀ q, q < w.heap.size → Off q (.slice p x.length x.length)) ∧ Below w.heap.size w w') ∨ (r = none ∧ e = .returned (.tuple #[.slice none 0 0, .bool false]) ∧ Below w.heap.size w w')
/-- No room behind. -/
theorem DB.clip {w : World} {p : Option Addr} {c : Nat} {l : List UInt8} (h : DB w (.slice p l.length c) l) : DB w (.slice p l.length l.length) l := by
  obtain ⟨hm, hl, ⟨e, h0⟩ | ⟨ad, c', e, hc, hd⟩⟩ := h
  · simp only [Value.slice.injEq] at e
    obtain ⟨rfl, h1, rfl⟩ := e
    exact ⟨hm, hl, .inl ⟨by rw [h0], h0⟩⟩
  · simp only [Value.slice.injEq] at e
    obtain ⟨rfl, _, rfl⟩ := e
    exact ⟨hm, hl, .inr ⟨ad, l.length, rfl, ⟨Nat.le_refl _, hm⟩, hd⟩⟩
set_option maxHeartbeats 8000000 in
set_option maxRecDepth 100000 in
theorem pFirst_any (u : Value) (b : List UInt8) (w : World) (hu : DB w u b) (hb : b.length ≤ 700000) : Calls Try.prog 25 #[u] w (FiPost (oneR b) w) := by
  obtain ⟨p, c, rfl⟩ := SHas.slice hu
  have hcp := SHas.cap hu
  have hml : (c : Int) ≤ 9223372036854775807 := maxLen_lt hcp.2
  obtain ⟨r, HR⟩ := hid_ex (oneR b)
  rw [HR.out]
  go_enter Try.func25, Try.ntmps25
  by_cases h8 : b.length < 8
  · have h8' : (b.length : Int) < 8 := by omega
    have HN : Hid (r = none) := by
      show _ = _
      rw [← HR.out]
      have := one_end (b := b) (a := 0) (by omega)
      simpa using this
    clear hu HR
    go_wp2_with fail
    go_ret2
    exact .inr ⟨HN.out, rfl, Below.refl _ _⟩
  · have h8' : ¬ (b.length : Int) < 8 := by omega
    obtain ⟨g, o, rfl, hd⟩ := SHas.at hu (by omega)
    have hd4 : w.rangeAt g o (cel (b.take 4)) := range_sub (k := 0) hd fun j v hv => by
      rw [Nat.zero_add]
      simp only [cel, List.getElem?_map] at hv ⊢
      rw [List.getElem?_take] at hv
      split at hv
      · exact hv
      · simp at hv
    have h4 : (b.take 4).length = 4 := by rw [List.length_take]; omega
    have hz : (Try.prog.info? 45).map (·.size) = some (cel (b.take 4)).length := by rw [cel_length, h4]; exact info45
    have C := pCount_any (b.take 4) w h4
    have harr : ∀ w1 : World, (Instr.arrayAt 45 (.slice (some ⟨g, o, none⟩) b.length c)).run Try.prog w1 = .ok (.pointer (some ⟨g, o, none⟩)) w1 := fun w1 => by
      have h9 : ¬ (b.length < 4) := by omega
      simp [Instr.arrayAt, go_sem, h9]
    have HU : Hid (∀ w', Below w.heap.size w w' → DB w' (.slice (some ⟨g, o, none⟩) b.length c) b) := fun w' hb => SHas.later hu hb
    clear hd hu
    go_wp2_with (refine load_m 45 _ rfl rfl _ _ rfl hd4 Try.underlying45 rfl hz ?_)
    refine C.mono ?_
    rintro e w1 ⟨rfl, hb1⟩
    have hN := val4_take_lt (b := b) (a := 0) (k := 4) (by omega)
    rw [List.drop_zero] at hN
    obtain ⟨n, HN⟩ := hid_ex (val4 (b.take 4))
    rw [HN.out] at hN ⊢
    have HN0 : val4 ((b.drop 0).take 4) = n := by rw [List.drop_zero, HN.out]
    clear C harr hd4 hz h4
    by_cases hbig : 60000 < n ∨ b.length < n + 8
    · have HE : Hid (r = none) := by
        show _ = _
        rw [← HR.out]
        have := one_big HN0 (by omega)
        simpa using this
      clear HR HU HN HN0
      by_cases hg : 60000 < n
      · have hg' : (60000 : Int) < (n : Int) := by omega
        go_wp2_with fail
        go_ret2
        exact .inr ⟨HE.out, rfl, hb1⟩
      · have hg' : ¬ (60000 : Int) < (n : Int) := by omega
        have hg2 : (b.length : Int) - 8 < (n : Int) := by omega
        have hg3 : (b.length : Int) - 4 - 4 < (n : Int) := by omega
        go_wp2_with fail
        go_ret2
        exact .inr ⟨HE.out, rfl, hb1⟩
    · have hg' : ¬ (60000 : Int) < (n : Int) := by omega
      have hg2 : ¬ (b.length : Int) - 8 < (n : Int) := by omega
      have hg3 : ¬ (b.length : Int) - 4 - 4 < (n : Int) := by omega
      have f1 : IntKind.i64.wrap (4 + (n : Int)) = ((n + 4 : Nat) : Int) := by rw [IntKind.wrap_i64]; omega
      have f2 : IntKind.i64.wrap (((n + 4 : Nat) : Int) + 4) = ((n + 8 : Nat) : Int) := by rw [IntKind.wrap_i64]; omega
      have hle : n + 8 ≤ c := by omega
      go_upto_region 6 with fail
      clear hg' hg2 hg3
      have HB := HU.out w1 hb1
      have hL : ((b.drop 4).take (n + 4)).length = n + 4 := by rw [List.length_take, List.length_drop]; omega
      have hD := (DB.part HB (m := 4) (n := n + 4) (d := c - 4) (by omega) (by omega) (by omega)).has
      have ho := one_is (b := b) (a := 0) HN0 (by omega) (by omega)
      rw [List.drop_zero, Nat.zero_add, HR.out] at ho
      have hx : ((b.drop 4).take (n + 4)).take (n + 4 - 4) = (b.drop 4).take n := by rw [Nat.add_sub_cancel, List.take_take, Nat.min_eq_left (by omega)]
      obtain ⟨L, HL⟩ := hid_ex ((b.drop 4).take (n + 4))
      obtain ⟨x, HX⟩ := hid_ex ((b.drop 4).take n)
      rw [HL.out] at hL hD ho hx
      rw [HX.out] at ho hx
      by_cases hs : Crc.sealed L = true
      · rw [if_pos hs] at ho
        have C := Cr.open_any _ L w1 hD (by omega) ⟨by omega, hs⟩
        rw [hL, hx] at C
        clear HL HX HB HU HN HN0 HR hs hD hx
        go_wp2_with fail
        refine C.mono ?_
        rintro e w2 ⟨v, rfl, hown, hb2⟩
        have hb3 := below_on hb1 hb2
        obtain ⟨pv, cv, rfl⟩ := own_sl hown
        have hdb := own_db hown
        have hxc := SHas.cap hdb
        have hof : ∀ q, q < w.heap.size → Off q (.slice pv x.length x.length) := fun q hq => by
          have h9 := own_off hown (b := q) (by have := hb1.size; omega)
          intro a m c' e hm e2
          simp only [Value.slice.injEq] at e
          obtain ⟨rfl, rfl, rfl⟩ := e
          exact h9 a _ cv rfl hm e2
        clear C hown hb1 hb2
        rcases pv with _ | ad
        · obtain ⟨h0, rfl⟩ : x.length = 0 ∧ cv = 0 := by
            obtain ⟨_, _, ⟨e, h0⟩ | ⟨_, _, e, _⟩⟩ := hdb
            · simp only [Value.slice.injEq] at e
              exact ⟨h0, e.2.2⟩
            · simp at e
          have hcl := hdb.clip
          have H0 : Hid (x.length = 0) := h0
          rw [h0] at hcl hof hdb ⊢
          clear h0 hdb hxc
          go_wp2_with fail
          go_ret2
          exact .inl ⟨x, none, ho, by rw [H0.out]; rfl, by rw [H0.out]; exact hcl, by rw [H0.out]; exact hof, hb3⟩
        · go_wp2_with fail
          go_ret2
          exact .inl ⟨x, some ad, ho, rfl, hdb.clip, hof, hb3⟩
      · rw [if_neg hs] at ho
        have C := Cr.open_none _ L w1 hD (by omega) (fun h => hs h.2)
        clear HL HX HB HU HN HN0 HR hs hD hx
        go_wp2_with fail
        refine C.mono ?_
        rintro e w2 ⟨rfl, hb2⟩
        have hb3 := below_on hb1 hb2
        go_wp2_with fail
        go_ret2
        exact .inr ⟨ho, rfl, hb3⟩
end Go.Proofs.Ytnfejhkgcbabfaa
/- A range over a function whose iterator keeps state of its own: the statement out of the iterator's call, where each call of yield is met by the body's walk; and a round's regions out of those of a frame of its own. Nothing of one program. -/
namespace Go.Proofs.Ytnfejhkgcbabfaa.Round
open Go.RowKit

abbrev W (l : Nat) : Fence := Fence.wide.inRound l
section
variable {P : Program} {l n : Nat} {ops : Array Oper} {Q : Exit → Act → World → Prop} {a : Act} {w : World}
def noDefer (o : Oper) : Bool := match o.op with
  | .defer _ => false
  | _ => true
theorem wp_round {o : Oper} {K : Act → World → Prop} (hd : noDefer o = true) (h : o.wp P a w K Q) : o.wpIn (W l) n P a w K Q := by
  refine ⟨fun _ _ => trivial, ?_⟩
  show o.uponIn (W l) n P a K Q ((o.semAt (some l) a.eval).run P w)
  rw [Oper.semAt_some l a.eval o (fun c e => by simp [noDefer, e] at hd)]
  unfold Oper.wp at h
  generalize (execOp a.eval o).run P w = r at h ⊢
  cases r with
  | ok x w' =>
    cases x with
    | value v => exact h
    | skip => exact h
    | defer d => exact h
    | enter f args => exact ⟨(fun e => by cases e), CallsIn.inRound l (callsIn_wide.2 h)⟩
    | row row args =>
      refine ⟨(fun e => by cases e), fun c cs _ => ?_⟩
      obtain ⟨v, w2, r, s⟩ := h c cs
      exact ⟨v, w2, r, stepsIn_wide.2 s⟩
    | _ => exact h.elim
  | halt x w' =>
    cases x <;> first | exact h | exact h.elim
theorem wpOp_round {i : Nat} {K K' : Act → World → Prop} (hno : ¬ LetsOut Q) (hd : ∀ o, ops[i]? = some o → noDefer o = true) (hK : ∀ a w, K a w → K' a w) (h : wpOp P ops Q i K a w) : wpOpIn (W l) n P ops Q i K' a w := by
  unfold wpOp at h
  unfold wpOpIn
  cases e : ops[i]? with
  | none =>
    rw [e] at h
    exact hK _ _ h
  | some o =>
    rw [e] at h
    simp only at h ⊢
    split
    · rename_i hw
      rw [if_pos hw] at h
      rcases h with h | ⟨_, h⟩
      · exact wp_round (hd o e) (Oper.wp_mono hK h)
      · exact absurd h hno
    · rename_i hw
      rw [if_neg hw] at h
      exact ⟨fun _ _ => trivial, hK _ _ h⟩
theorem wpAny_round {md : Region.Mode} (hno : ¬ LetsOut Q) (hd : ∀ (i : Nat) (o : Oper), ops[i]? = some o → noDefer o = true) : ∀ (fuel : Nat) (listed : Array Bool) (a : Act) (w : World), wpAny P md ops Q fuel listed a w → wpAnyIn (W l) n P md ops Q fuel listed a w
  | 0, _, _, _, h => h
  | fuel + 1, _, _, _, h => ⟨h.1, fun i hi => wpOp_round hno (hd i) (fun a' w' h' => wpAny_round hno hd fuel _ a' w' h') (h.2 i hi)⟩
theorem all_noDefer (h : ops.all noDefer = true) (i : Nat) (o : Oper) (hi : ops[i]? = some o) : noDefer o = true := by
  rw [Array.all_eq_true_iff_forall_mem] at h
  exact h o (Array.mem_of_getElem? hi)
/-- A region that draws its order. -/
theorem region_any {id : Nat} {S : World → Prop} {L : List Oper} (hm : P.follows .mixedOrders = true) (hd : L.toArray.all noDefer = true) (hno : ¬ LetsOut Q) (h : wpAnyH P .any L.toArray Q S L.length (Array.replicate L.length false) a w.drew) : (Code.region id L.toArray true).wpIn (W l) n P Q a w :=
  wpIn_region_any hm (wpAny_round hno (all_noDefer hd) _ _ _ _ (wpAny_of_held _ _ _ _ (by simpa using h)))
theorem wpList_round (hno : ¬ LetsOut Q) : ∀ (L : List Oper) (a : Act) (w : World), L.all noDefer = true → wpList P ops Q L a w → wpListIn (W l) n P ops Q L a w
  | [], _, _, _, h => h
  | o :: r, a, w, hd, h => by
    have hd' := List.all_eq_true.1 hd
    simp only [wpList] at h
    simp only [wpListIn]
    split
    · rename_i hw
      rw [if_pos hw] at h
      rcases h with h | ⟨_, h⟩
      · exact wp_round (hd' o (by simp)) (Oper.wp_mono (fun a' w' h' => wpList_round hno r a' w' (List.all_eq_true.2 fun x hx => hd' x (by simp [hx])) h') h)
      · exact absurd h hno
    · rename_i hw
      rw [if_neg hw] at h
      exact ⟨fun _ _ => trivial, wpList_round hno r _ w (List.all_eq_true.2 fun x hx => hd' x (by simp [hx])) h⟩
/-- A region in the text's order. -/
theorem region_list {id : Nat} {L : List Oper} (hd : L.all noDefer = true) (hno : ¬ LetsOut Q) (h : wpList P L.toArray Q L a w) : (Code.region id L.toArray false).wpIn (W l) n P Q a w :=
  wpIn_region_lit (wpList_round hno L a w hd h)
/-- How a round's body is left: at its end alone. -/
def endPost (R : Act → World → Prop) : Exit → Act → World → Prop
  | .normal, a, w => R a w
  | _, _, _ => False
theorem endPost_no {R : Act → World → Prop} : ¬ LetsOut (endPost R) := fun ⟨_, _, h⟩ => h
theorem then_no {K : Act → World → Prop} (h : ¬ LetsOut Q) : ¬ LetsOut (Exit.then K Q) := fun ⟨a, w, h'⟩ => h ⟨a, w, h'⟩
theorem block_no {id : Nat} (h : ¬ LetsOut Q) : ¬ LetsOut (Exit.inBlock id Q) := fun ⟨a, w, h'⟩ => h ⟨a, w, h'⟩
def isLp : Obj → Bool
  | .loop _ => true
  | _ => false
/-- The record of a loop. -/
abbrev recOf (fn : FuncId) (tmps : Array Value) (ps : Array Tmp) (assign body : Code) (D : Nat) (s : LoopState) : Loop := { state := s, pending := none, fn := fn, tmps := tmps, params := ps, assign := assign, body := body, defers := D }
/-- What a round has to be, at a call of yield, and the statement out of the iterator's call. -/
theorem range_one {g : Operand} {ps : Array Tmp} {assign body : Code} {gf : Nat} {lb : Array Value} (hg : a.eval g = .func (.func gf) #[] lb) (eg : ∀ args w, (callFunc gf args).run P w = .ok (.enter gf args) w)
    (h : ∀ (D L : Nat) (ready busy done : Obj), w.heap.size = D → w.heap.size + 1 = L → isLp ready = true → isLp busy = true → isLp done = true →
      (∀ (args : Array Value) (W1 : World) (R : World → Prop), args.size = ps.size → W1.heap[L]? = some ready →
        assign.wpIn (W L) 0 P (endPost fun a1 w1 => w1.heap[L]? = some ready ∧ body.wpIn (W L) 0 P (endPost fun _ w2 => w2.heap[L]? = some busy ∧ R (w2.putObj L ready)) a1 (w1.putObj L busy)) { tmps := (ps.zip args).foldl (fun t (p, v) => t.setIfInBounds p v) a.tmps, defers := [] } W1 →
        YieldAt Fence.wide 0 P L args W1 fun e W2 => e = .returned (.bool true) ∧ R W2) →
      Calls P gf (#[.func (.yield L) #[] #[]] ++ lb) ((w.alloc (.deferred (some []))).alloc ready) fun e W2 => (∃ v, e = .returned v) ∧ W2.heap[L]? = some ready ∧ Q .normal { a with defers := { target := .collected D, args := #[] } :: a.defers } (W2.putObj L done)) :
    (Code.rangeFunc g ps assign body).wp P Q a w := by
  refine (wpIn_wide (n := 1)).1 (wpIn_rangeFunc ?_)
  intro fn _
  have H := h w.heap.size (w.heap.size + 1) (.loop (recOf fn a.tmps ps assign body w.heap.size .ready)) (.loop (recOf fn a.tmps ps assign body w.heap.size .busy)) (.loop (recOf fn a.tmps ps assign body w.heap.size .exhausted)) rfl rfl rfl rfl rfl ?_
  · refine ⟨w.heap.size + 1, [{ target := .collected w.heap.size, args := #[] }], (w.alloc (.deferred (some []))).alloc (.loop (recOf fn a.tmps ps assign body w.heap.size .ready)), { target := .fn (.func gf) lb, args := #[.func (.yield (w.heap.size + 1)) #[] #[]] }, (w.alloc (.deferred (some []))).alloc (.loop (recOf fn a.tmps ps assign body w.heap.size .ready)), gf, #[.func (.yield (w.heap.size + 1)) #[] #[]] ++ lb, (w.alloc (.deferred (some []))).alloc (.loop (recOf fn a.tmps ps assign body w.heap.size .ready)), ?_, ?_, ?_, ?_, ?_, ?_⟩
    · exact run_enterLoop_outer _ _ _ _ _
    · simp only [resolve, hg]
      simp [go_sem]
    · exact fun _ _ => trivial
    · simp [invoke, go_sem, eg]
    · intro e
      cases e
    · refine callsIn_wide.2 (H.mono ?_)
      rintro e W2 ⟨⟨v, rfl⟩, hl, hq⟩
      exact ⟨none, _, run_endLoop (P := P) hl (by simp), hq⟩
  · intro args W1 R hsz hl hb
    have hy := run_yield (P := P) (args := args) hl hsz
    refine ⟨fn, _, assign, body, hy, roundIn_of_wpIn trivial ?_⟩
    refine wpIn_mono (Q := endPost _) hb ?_
    rintro e a1 w1 hp
    cases e with
    | normal =>
      obtain ⟨hl1, hb1⟩ := hp
      refine ⟨_, run_beginRound hl1 rfl, wpIn_mono (Q := endPost _) hb1 ?_⟩
      rintro e a2 w2 hp2
      cases e with
      | normal => exact ⟨_, _, run_endRound (P := P) none hp2.1, rfl, hp2.2⟩
      | _ => exact hp2.elim
    | _ => exact hp.elim
end
end Go.Proofs.Ytnfejhkgcbabfaa.Round
/- The program's iterator of records. -/
namespace Go.Proofs.Ytnfejhkgcbabfaa
open Go.RowKit
attribute [local go_sem] Oper.semAt_some

/-- What is behind a place. -/
theorem DB.tail0 {w : World} {p : Option Addr} {c a : Nat} {l : List UInt8} (_h : DB w (.slice p l.length c) l) (ha : l.length = a) (hp : p ≠ none) : DB w (.slice p (l.length - a) 0) (l.drop a) := by
  subst ha
  obtain ⟨ad, rfl⟩ : ∃ ad, p = some ad := Option.ne_none_iff_exists'.1 hp
  rw [Nat.sub_self, List.drop_length]
  exact ⟨Nat.zero_le _, rfl, .inr ⟨ad, 0, rfl, ⟨Nat.le_refl _, Nat.zero_le _⟩, fun h => absurd h (Nat.lt_irrefl _)⟩⟩
theorem DB.tail {w : World} {ad : Addr} {c a : Nat} {l : List UInt8} (h : DB w (.slice (some ad) l.length c) l) (ha : a ≤ l.length) : DB w (.slice (some (ad.add a)) (l.length - a) (c - a)) (l.drop a) := by
  have hcp := SHas.cap h
  have hld : (l.drop a).length = l.length - a := List.length_drop
  refine ⟨by rw [hld]; omega, by rw [cel_length, Nat.mul_one], .inr ⟨ad.add a, c - a, by rw [hld], ⟨by omega, by omega⟩, fun h0 => ?_⟩⟩
  obtain ⟨g, o, e, hr⟩ := SHas.at h (by omega)
  simp only [Option.some.injEq] at e
  subst e
  refine ⟨g, o + a, Addr.add_mid _ _ _, range_sub (k := a) hr fun j u hu => ?_⟩
  simpa [cel, List.getElem?_drop] using hu
theorem siz_small {x : List UInt8} (h : x.length ≤ 60000) : sizR x = ((x.length + 8 : Nat) : Int) := by
  unfold sizR
  rw [if_neg (by omega)]
  omega
set_option maxHeartbeats 4000000 in
set_option maxRecDepth 100000 in
theorem records1_any (w0 : World) (b : List UInt8) (v : Value) (bb L : Nat) (J : List (List UInt8) → Nat → World → Prop) (hV : DB w0 v b) (hb : b.length ≤ 700000)
    (hJ : ∀ pre a W W', J pre a W → Below W.heap.size W W' → J pre a W') (hJb : ∀ pre a W, J pre a W → Rw W bb 23 #[v] ∧ Below w0.heap.size w0 W)
    (hY : ∀ pre a x p W1 W, J pre a W1 → Below W1.heap.size W1 W → a + x.length + 8 ≤ b.length → DB W (.slice p x.length x.length) x → (∀ q, q < W1.heap.size → Off q (.slice p x.length x.length)) → YieldAt Fence.wide 0 Try.prog L #[.slice p x.length x.length, .int .i64 ((a : Int) + ((x.length : Int) + 8))] W fun e W' => e = .returned (.bool true) ∧ J (pre ++ [x]) (a + x.length + 8) W')
    (W : World) (h0 : J [] 0 W) : Calls Try.prog 24 #[.func (.yield L) #[] #[], .pointer (some ⟨bb, 0, none⟩)] W fun e W' => (∃ u, e = .returned u) ∧ J (scanR b).1 (scanR b).2 W' := by
  obtain ⟨p, c, rfl⟩ := SHas.slice hV
  have hcp := SHas.cap hV
  have hml : (c : Int) ≤ 9223372036854775807 := maxLen_lt hcp.2
  have HV : Hid (DB w0 (.slice p b.length c) b) := hV
  have HJ : Hid (∀ pre a W W', J pre a W → Below W.heap.size W W' → J pre a W') := hJ
  have HJb : Hid (∀ pre a W, J pre a W → Rw W bb 23 #[.slice p b.length c] ∧ Below w0.heap.size w0 W) := hJb
  have HY : Hid (∀ pre a x p W1 W, J pre a W1 → Below W1.heap.size W1 W → a + x.length + 8 ≤ b.length → DB W (.slice p x.length x.length) x → (∀ q, q < W1.heap.size → Off q (.slice p x.length x.length)) → YieldAt Fence.wide 0 Try.prog L #[.slice p x.length x.length, .int .i64 ((a : Int) + ((x.length : Int) + 8))] W fun e W' => e = .returned (.bool true) ∧ J (pre ++ [x]) (a + x.length + 8) W') := hY
  have H0 : Hid (J [] 0 W) := h0
  clear hV hJ hJb hY h0
  go_enter Try.func24, Try.ntmps24
  go_upto_region 1 with fail
  go_loopw [3] (fun va wr => ∃ (a : Nat) (pre : List (List UInt8)), va = .int .i64 a ∧ a ≤ b.length ∧ Hid (scanR b = (pre ++ (scanR (b.drop a)).1, a + (scanR (b.drop a)).2)) ∧ Hid (J pre a wr)) (fun va _ => b.length - (intOf va).toNat)
  case atStart => exact ⟨0, [], rfl, by omega, (show _ = _ by simp), H0⟩
  case round =>
    clear H0
    obtain ⟨a, pre, rfl, ha, HS, HJ1⟩ := hrel
    obtain ⟨hbb, hbel⟩ := HJb.out _ _ _ HJ1.out
    have hcl := hbb.cell 0
    have hDB : DB wr (.slice p b.length c) b := SHas.later HV.out hbel
    have ha' : (a : Int) ≤ (b.length : Int) := by omega
    rcases p with _ | ad
    · obtain ⟨h0, rfl⟩ : b.length = 0 ∧ c = 0 := by
        obtain ⟨_, _, ⟨e, h0⟩ | ⟨_, _, e, _⟩⟩ := hDB
        · simp only [Value.slice.injEq] at e
          exact ⟨h0, e.2.2⟩
        · simp at e
      obtain rfl := List.length_eq_zero_iff.1 h0
      obtain rfl : a = 0 := by simpa using ha
      have C := pFirst_any (.slice none 0 0) ([] : List UInt8) wr (SHas.nil _ _) (by simp)
      have ho : oneR (([] : List UInt8).drop 0) = none := rfl
      have ho2 : oneR ([] : List UInt8) = none := rfl
      go_wp2_with fail
      refine C.mono ?_
      rintro e w1 (⟨x, px, ho', _⟩ | ⟨_, rfl, hb1⟩)
      · rw [ho2] at ho'
        cases ho'
      have J1 := HJ.out _ _ _ _ HJ1.out hb1
      have CS := pSize_any (.slice none 0 0) [] w1 (SHas.nil _ _)
      rw [siz_small (x := []) (by simp)] at CS
      have HE : Hid (scanR [] = (pre, 0)) := by
        show _ = _
        rw [HS.out, scan_none ho]
        simp
      go_wp2_with fail
      refine CS.mono ?_
      rintro e w2 ⟨rfl, hb2⟩
      have J2 : Hid (J (scanR []).1 (scanR []).2 w2) := by
        rw [HE.out]
        exact HJ.out _ _ _ _ J1 hb2
      clear J1 CS HE HS HJ1 C ho
      go_wp2_with fail
      refine bodyPost_ret (results_none rfl _ _ _) rfl ?_
      exact ⟨⟨_, rfl⟩, J2.out⟩
    by_cases hac : c = a
    · have C := pFirst_any _ (b.drop a) wr (DB.tail0 (a := a) hDB (by omega) (by simp)) (by rw [List.length_drop]; omega)
      have ho : oneR (b.drop a) = none := one_end (by omega)
      go_upto_region 1 with fail
      go_wp2_with fail
      refine C.mono ?_
      rintro e w1 (⟨x, px, ho', _⟩ | ⟨_, rfl, hb1⟩)
      · rw [ho] at ho'
        cases ho'
      have J1 := HJ.out _ _ _ _ HJ1.out hb1
      have CS := pSize_any (.slice none 0 0) [] w1 (SHas.nil _ _)
      rw [siz_small (x := []) (by simp)] at CS
      have HE : Hid (scanR b = (pre, a)) := by
        show _ = _
        rw [HS.out, scan_none ho]
        simp
      go_wp2_with fail
      refine CS.mono ?_
      rintro e w2 ⟨rfl, hb2⟩
      have J2 : Hid (J (scanR b).1 (scanR b).2 w2) := by
        rw [HE.out]
        exact HJ.out _ _ _ _ J1 hb2
      clear J1 CS HE HS HJ1 C ho
      go_wp2_with fail
      refine bodyPost_ret (results_none rfl _ _ _) rfl ?_
      exact ⟨⟨_, rfl⟩, J2.out⟩
    · have hac' : ¬ (c : Int) = (a : Int) := by omega
      have C := pFirst_any _ (b.drop a) wr (DB.tail (a := a) hDB (by omega)) (by rw [List.length_drop]; omega)
      go_upto_region 1 with fail
      go_wp2_with fail
      refine C.mono ?_
      rintro e w1 (⟨x, px, ho, rfl, dx, hof, hb1⟩ | ⟨ho, rfl, hb1⟩)
      · have h1 := (one_len ho).1
        have h2 := (one_len ho).2.1
        rw [List.length_drop] at h1
        have J1 := HJ.out _ _ _ _ HJ1.out hb1
        have CS := pSize_any _ x w1 dx
        rw [siz_small h2] at CS
        go_wp2_with fail
        refine CS.mono ?_
        rintro e w2 ⟨rfl, hb2⟩
        have J2 := HJ.out _ _ _ _ J1 hb2
        have dx2 := SHas.later dx hb2
        obtain ⟨fn, tmps, assign, body, hy, hR⟩ := HY.out pre a x px wr w2 HJ1.out (below_on hb1 hb2) (by omega) dx2 hof
        go_upto_region 3 with fail
        refine (wpIn_wide (n := 1)).1 ?_
        gi_wp2_with fail
        refine hR.mono ?_
        rintro e w3 ⟨rfl, J3⟩
        have HS2 : Hid (scanR b = ((pre ++ [x]) ++ (scanR (b.drop (a + x.length + 8))).1, (a + x.length + 8) + (scanR (b.drop (a + x.length + 8))).2)) := by
          show _ = _
          rw [HS.out, scan_some ho, List.drop_drop]
          simp only [List.append_assoc, List.cons_append, List.nil_append, Nat.add_assoc]
        have J4 : Hid (J (pre ++ [x]) (a + x.length + 8) w3) := J3
        clear hR hy J3 J2 J1 HS HJ1 C CS ho dx dx2 hof
        gi_wp2
        go_wp2_with fail
        go_roundw
        case rel => exact ⟨a + x.length + 8, pre ++ [x], by congr 1, by omega, HS2, J4⟩
        case measure => simp [intOf]; omega
      · have hb1 := hb1
        have J1 := HJ.out _ _ _ _ HJ1.out hb1
        have CS := pSize_any (.slice none 0 0) [] w1 (SHas.nil _ _)
        rw [siz_small (x := []) (by simp)] at CS
        have HE : Hid (scanR b = (pre, a)) := by
          show _ = _
          rw [HS.out, scan_none ho]
          simp
        go_wp2_with fail
        refine CS.mono ?_
        rintro e w2 ⟨rfl, hb2⟩
        have J2 : Hid (J (scanR b).1 (scanR b).2 w2) := by
          rw [HE.out]
          exact HJ.out _ _ _ _ J1 hb2
        clear J1 CS HE HS HJ1 C ho
        go_wp2_with fail
        refine bodyPost_ret (results_none rfl _ _ _) rfl ?_
        exact ⟨⟨_, rfl⟩, J2.out⟩
end Go.Proofs.Ytnfejhkgcbabfaa
