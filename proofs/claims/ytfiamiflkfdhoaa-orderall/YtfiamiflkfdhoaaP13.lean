import Derived.RangeFuncLeaves
import Derived.RangeFuncRecord
import Derived.RangeFuncSeq
import Derived.RangeFuncCalls
import Derived.OrdersIn
import Derived.OrdersHeld
import Derived.TacticsIn
import Derived.Orders
import Derived.Below
import Derived.RowKit
import Derived.Test.YtfiamiflkfdhoaaP12
import Derived.RangeFuncNested
import Derived.Shelf.Abstract
import Derived.Shelf.RegionOpen
import Derived.WalkKit
import Derived.OwnWalkIn
import Derived.TacticsInMore
import Derived.LoopNIn
import Derived.LoopIn
import Derived.Deep.Cut
import Derived.Laws.CopyOwn
/- A range over a function whose iterator keeps state of its own: the statement out of the iterator's call, where each call of yield is met by the body's walk; and a round's regions out of those of a frame of its own. Nothing of one program. -/
namespace Go.Proofs.Ytfiamiflkfdhoaa.Round
open Go.RowKit

abbrev W (l : Nat) : Fence := Fence.wide.inRound l
section
variable {P : Program} {l n : Nat} {ops : Array Oper} {Q : Exit → Act → World → Prop} {a : Act} {w : World}
def noDefer (o : Oper) : Bool := match o.op with
  | .defer _ => false
  | _ => true
theorem wp_round {o : Oper} {K : Act → World → Prop} (hd : noDefer o = true) (h : o.wp P a w K Q) : o.wpIn (W l) n P a w K Q := by
  refine ⟨fun _ _ => trivial, ?_⟩
  show o.uponIn (W l) n P a K Q ((o.semAt (some l) a.eval).run P w)
  rw [Oper.semAt_some l a.eval o (fun c e => by simp [noDefer, e] at hd)]
  unfold Oper.wp at h
  generalize (execOp a.eval o).run P w = r at h ⊢
  cases r with
  | ok x w' =>
    cases x with
    | value v => exact h
    | skip => exact h
    | defer d => exact h
    | enter f args => exact ⟨(fun e => by cases e), CallsIn.inRound l (callsIn_wide.2 h)⟩
    | row row args =>
      refine ⟨(fun e => by cases e), fun c cs _ => ?_⟩
      obtain ⟨v, w2, r, s⟩ := h c cs
      exact ⟨v, w2, r, stepsIn_wide.2 s⟩
    | _ => exact h.elim
  | halt x w' =>
    cases x <;> first | exact h | exact h.elim
theorem wpOp_round {i : Nat} {K K' : Act → World → Prop} (hno : ¬ LetsOut Q) (hd : ∀ o, ops[i]? = some o → noDefer o = true) (hK : ∀ a w, K a w → K' a w) (h : wpOp P ops Q i K a w) : wpOpIn (W l) n P ops Q i K' a w := by
  unfold wpOp at h
  unfold wpOpIn
  cases e : ops[i]? with
  | none =>
    rw [e] at h
    exact hK _ _ h
  | some o =>
    rw [e] at h
    simp only at h ⊢
    split
    · rename_i hw
      rw [if_pos hw] at h
      rcases h with h | ⟨_, h⟩
      · exact wp_round (hd o e) (Oper.wp_mono hK h)
      · exact absurd h hno
    · rename_i hw
      rw [if_neg hw] at h
      exact ⟨fun _ _ => trivial, hK _ _ h⟩
theorem wpAny_round {md : Region.Mode} (hno : ¬ LetsOut Q) (hd : ∀ (i : Nat) (o : Oper), ops[i]? = some o → noDefer o = true) : ∀ (fuel : Nat) (listed : Array Bool) (a : Act) (w : World), wpAny P md ops Q fuel listed a w → wpAnyIn (W l) n P md ops Q fuel listed a w
  | 0, _, _, _, h => h
  | fuel + 1, _, _, _, h => ⟨h.1, fun i hi => wpOp_round hno (hd i) (fun a' w' h' => wpAny_round hno hd fuel _ a' w' h') (h.2 i hi)⟩
theorem all_noDefer (h : ops.all noDefer = true) (i : Nat) (o : Oper) (hi : ops[i]? = some o) : noDefer o = true := by
  rw [Array.all_eq_true_iff_forall_mem] at h
  exact h o (Array.mem_of_getElem? hi)
/-- A region that draws its order. -/
theorem region_any {id : Nat} {S : World → Prop} {L : List Oper} (hm : P.follows .mixedOrders = true) (hd : L.toArray.all noDefer = true) (hno : ¬ LetsOut Q) (h : wpAnyH P .any L.toArray Q S L.length (Array.replicate L.length false) a w.drew) : (Code.region id L.toArray true).wpIn (W l) n P Q a w :=
  wpIn_region_any hm (wpAny_round hno (all_noDefer hd) _ _ _ _ (wpAny_of_held _ _ _ _ (by simpa using h)))
theorem wpList_round (hno : ¬ LetsOut Q) : ∀ (L : List Oper) (a : Act) (w : World), L.all noDefer = true → wpList P ops Q L a w → wpListIn (W l) n P ops Q L a w
  | [], _, _, _, h => h
  | o :: r, a, w, hd, h => by
    have hd' := List.all_eq_true.1 hd
    simp only [wpList] at h
    simp only [wpListIn]
    split
    · rename_i hw
      rw [if_pos hw] at h
      rcases h with h | ⟨_, h⟩
      · exact wp_round (hd' o (by simp)) (Oper.wp_mono (fun a' w' h' => wpList_round hno r a' w' (List.all_eq_true.2 fun x hx => hd' x (by simp [hx])) h') h)
      · exact absurd h hno
    · rename_i hw
      rw [if_neg hw] at h
      exact ⟨fun _ _ => trivial, wpList_round hno r _ w (List.all_eq_true.2 fun x hx => hd' x (by simp [hx])) h⟩
/-- A region in the text's order. -/
theorem region_list {id : Nat} {L : List Oper} (hd : L.all noDefer = true) (hno : ¬ LetsOut Q) (h : wpList P L.toArray Q L a w) : (Code.region id L.toArray false).wpIn (W l) n P Q a w :=
  wpIn_region_lit (wpList_round hno L a w hd h)
/-- How a round's body is left: at its end alone. -/
def endPost (R : Act → World → Prop) : Exit → Act → World → Prop
  | .normal, a, w => R a w
  | _, _, _ => False
theorem endPost_no {R : Act → World → Prop} : ¬ LetsOut (endPost R) := fun ⟨_, _, h⟩ => h
theorem then_no {K : Act → World → Prop} (h : ¬ LetsOut Q) : ¬ LetsOut (Exit.then K Q) := fun ⟨a, w, h'⟩ => h ⟨a, w, h'⟩
theorem block_no {id : Nat} (h : ¬ LetsOut Q) : ¬ LetsOut (Exit.inBlock id Q) := fun ⟨a, w, h'⟩ => h ⟨a, w, h'⟩
def isLp : Obj → Bool
  | .loop _ => true
  | _ => false
/-- The record of a loop. -/
abbrev recOf (fn : FuncId) (tmps : Array Value) (ps : Array Tmp) (assign body : Code) (D : Nat) (s : LoopState) : Loop := { state := s, pending := none, fn := fn, tmps := tmps, params := ps, assign := assign, body := body, defers := D }
/-- What a round has to be, at a call of yield, and the statement out of the iterator's call. -/
theorem range_one {g : Operand} {ps : Array Tmp} {assign body : Code} {gf : Nat} {lb : Array Value} (hg : a.eval g = .func (.func gf) #[] lb) (eg : ∀ args w, (callFunc gf args).run P w = .ok (.enter gf args) w)
    (h : ∀ (D L : Nat) (ready busy done : Obj), w.heap.size = D → w.heap.size + 1 = L → isLp ready = true → isLp busy = true → isLp done = true →
      (∀ (args : Array Value) (W1 : World) (R : World → Prop), args.size = ps.size → W1.heap[L]? = some ready →
        assign.wpIn (W L) 0 P (endPost fun a1 w1 => w1.heap[L]? = some ready ∧ body.wpIn (W L) 0 P (endPost fun _ w2 => w2.heap[L]? = some busy ∧ R (w2.putObj L ready)) a1 (w1.putObj L busy)) { tmps := (ps.zip args).foldl (fun t (p, v) => t.setIfInBounds p v) a.tmps, defers := [] } W1 →
        YieldAt Fence.wide 0 P L args W1 fun e W2 => e = .returned (.bool true) ∧ R W2) →
      Calls P gf (#[.func (.yield L) #[] #[]] ++ lb) ((w.alloc (.deferred (some []))).alloc ready) fun e W2 => (∃ v, e = .returned v) ∧ W2.heap[L]? = some ready ∧ Q .normal { a with defers := { target := .collected D, args := #[] } :: a.defers } (W2.putObj L done)) :
    (Code.rangeFunc g ps assign body).wp P Q a w := by
  refine (wpIn_wide (n := 1)).1 (wpIn_rangeFunc ?_)
  intro fn _
  have H := h w.heap.size (w.heap.size + 1) (.loop (recOf fn a.tmps ps assign body w.heap.size .ready)) (.loop (recOf fn a.tmps ps assign body w.heap.size .busy)) (.loop (recOf fn a.tmps ps assign body w.heap.size .exhausted)) rfl rfl rfl rfl rfl ?_
  · refine ⟨w.heap.size + 1, [{ target := .collected w.heap.size, args := #[] }], (w.alloc (.deferred (some []))).alloc (.loop (recOf fn a.tmps ps assign body w.heap.size .ready)), { target := .fn (.func gf) lb, args := #[.func (.yield (w.heap.size + 1)) #[] #[]] }, (w.alloc (.deferred (some []))).alloc (.loop (recOf fn a.tmps ps assign body w.heap.size .ready)), gf, #[.func (.yield (w.heap.size + 1)) #[] #[]] ++ lb, (w.alloc (.deferred (some []))).alloc (.loop (recOf fn a.tmps ps assign body w.heap.size .ready)), ?_, ?_, ?_, ?_, ?_, ?_⟩
    · exact run_enterLoop_outer _ _ _ _ _
    · simp only [resolve, hg]
      simp [go_sem]
    · exact fun _ _ => trivial
    · simp [invoke, go_sem, eg]
    · intro e
      cases e
    · refine callsIn_wide.2 (H.mono ?_)
      rintro e W2 ⟨⟨v, rfl⟩, hl, hq⟩
      exact ⟨none, _, run_endLoop (P := P) hl (by simp), hq⟩
  · intro args W1 R hsz hl hb
    have hy := run_yield (P := P) (args := args) hl hsz
    refine ⟨fn, _, assign, body, hy, roundIn_of_wpIn trivial ?_⟩
    refine wpIn_mono (Q := endPost _) hb ?_
    rintro e a1 w1 hp
    cases e with
    | normal =>
      obtain ⟨hl1, hb1⟩ := hp
      refine ⟨_, run_beginRound hl1 rfl, wpIn_mono (Q := endPost _) hb1 ?_⟩
      rintro e a2 w2 hp2
      cases e with
      | normal => exact ⟨_, _, run_endRound (P := P) none hp2.1, rfl, hp2.2⟩
      | _ => exact hp2.elim
    | _ => exact hp.elim
end
end Go.Proofs.Ytfiamiflkfdhoaa.Round
/- The iterator of those that are delivered. -/
namespace Go.Proofs.Ytfiamiflkfdhoaa
open Go.RowKit Go.ChangeMaps
attribute [local go_sem] Oper.semAt_some

/-- What is had, added up. -/
def hadSum (w : World) (g : Nat) : Int := ((List.range 13).map fun i => intOf ((w.cell? ⟨g, 1 + i, none⟩).getD undef)).sum
theorem hadSum_eq {w : World} {B g m : Nat} {lv : Value} {had : List Int} {st : List Int × LK} (Q : QN w B g m lv had st) : hadSum w g = had.sum := by
  unfold hadSum
  congr 1
  refine List.ext_getElem (by simp [Q.h]) fun i h1 h2 => ?_
  simp only [List.length_map, List.length_range] at h1
  simp only [List.getElem_map, List.getElem_range]
  rw [Q.had_at h1, getD_at _ _ (by rw [Q.h]; exact h1)]
  rfl
/-- What a round keeps: the queue. -/
def KR (w w' : World) : Prop := ∀ (b : Nat) (o : Obj), w.heap[b]? = some o → qt o = true → w'.heap[b]? = some o
theorem find_idx {l : List T} {f : T → Bool} (h : l.findIdx f < l.length) : l.find? f = some l[l.findIdx f] := by
  rw [List.find?_eq_some_iff_getElem]
  exact ⟨List.findIdx_getElem, l.findIdx f, h, rfl, fun j hj => by simpa using List.not_of_lt_findIdx hj⟩
theorem QAt.base {w : World} {B B' g m : Nat} {lv : Value} {had : List Int} {st : List Int × LK} {pv : Value} {pl : List Nat} {dp ds : Int} (Q : QAt w B g m lv had st pv pl dp ds) (h : B' ≤ B) : QAt w B' g m lv had st pv pl dp ds := by
  have hp : ∀ v q, PRow w B v q → PRow w B' v q := fun v q hv => ⟨hv.1, hv.2.elim .inl fun ⟨g, cap, cur, e, hb, r⟩ => .inr ⟨g, cap, cur, e, Nat.le_trans h hb, r⟩⟩
  obtain ⟨es, clock, hb, M, E⟩ := Q.m
  exact ⟨Q.q, Q.h, Q.r, Nat.le_trans h Q.bg, Nat.le_trans h Q.bm, es, clock, hb, ⟨M.s1, M.s2, M.ks, M.kn, fun x hx p s e => hp _ _ (M.vs x hx p s e), M.no, M.ap⟩, ⟨hp _ _ E.p, E.a⟩⟩
theorem loadIn {ops : Array Oper} {rest : List Oper} {o : Oper} {a : Act} {w : World} {Q : Exit → Act → World → Prop} {n : Nat} (hgd : o.guard = none) (t : TypeId) (x : Operand) (ho : o.op = .load t x) (b f : Nat) (hx : a.eval x = .pointer (some ⟨b, f, none⟩)) {cs : List Value} (hc : w.rangeAt b f cs) {d : TypeDesc} (hu : Try.prog.underlying t = some d) (hd : d.isRow = true) (hi : (Try.prog.info? t).map (·.size) = some cs.length)
    (h : wpListIn Fence.wide n Try.prog ops Q rest (a.put o.dst (.agg cs.toArray)) w) : wpListIn Fence.wide n Try.prog ops Q (o :: rest) a w :=
  wpListIn_plain hgd fun K hK => by
    have h2 := run_loadAt_mid (P := Try.prog) w b f t cs d hc hu hd hi
    refine ⟨fun _ _ => trivial, ?_⟩
    rw [show Oper.semAt (Fence.wide).round a.eval o = execOp a.eval o from rfl]
    unfold execOp
    simp only [ho, hx, Sem.run_bind, h2, Result.andThen_ok, Sem.run_pure]
    exact hK _ _ h
/-- How far it is. -/
structure Pg (v : List Int) (l : List T) (pre : List T) (n : Nat) : Prop where
  e : pre ++ (dr n (run v pre) l).1 = drG v l
  n : lack (run v pre) l < n
  t : tot (run v pre) = tot v + pre.length
  b : pre.length + lack (run v pre) l ≤ lack v l
theorem tot_stp {v : List Int} {x : T} (hv : v.length = 13) (h : rdy v x = true) : tot (stp v x) = tot v + 1 := by
  have hp := T.ok_p (rdy_ok h)
  have hs := rdy_s h
  unfold tot stp
  rw [sum_set v _ _ (by omega)]
  omega
theorem Pg.start (v : List Int) (l : List T) : Pg v l [] (l.length + 1) := ⟨rfl, by have := lack_le v l; simp only [run]; omega, by simp [run], by simp [run]⟩
theorem Pg.step {v : List Int} {l pre : List T} {n : Nat} (hv : v.length = 13) (P : Pg v l pre (n + 1)) {x : T} (hf : l.find? (rdy (run v pre)) = some x) : Pg v l (pre ++ [x]) n := by
  have hr := List.find?_some hf
  have hx := List.mem_of_find?_eq_some hf
  have hv' : (run v pre).length = 13 := by rw [run_length, hv]
  have hrun : run v (pre ++ [x]) = stp (run v pre) x := by rw [run_append]; rfl
  have hl := lack_stp hv' hr l hx
  have h1 := P.e
  rw [dr_some n hf] at h1
  refine ⟨by rw [hrun, List.append_assoc]; exact h1, ?_, ?_, ?_⟩
  · rw [hrun]
    have := P.n
    omega
  · rw [hrun, tot_stp hv' hr, P.t, List.length_append]
    simp
    omega
  · rw [hrun, List.length_append]
    have := P.b
    simp
    omega
theorem Pg.last {v : List Int} {l pre : List T} {n : Nat} (P : Pg v l pre n) (hf : l.find? (rdy (run v pre)) = none) : pre = drG v l := by
  have := P.e
  rw [dr_none n hf, List.append_nil] at this
  exact this
set_option maxHeartbeats 4000000 in
set_option maxRecDepth 100000 in
theorem turns1_any (w0 : World) (l : List T) (lv : Value) (v : List Int) (bv bl L : Nat) (J : List T → World → Prop) (hX : XHas w0 lv l) (hv : v.length = 13) (hl : l.length ≤ 100)
    (hJ : ∀ pre W W', J pre W → KQ W W' → Below w0.heap.size w0 W' → J pre W') (hJb : ∀ pre W, J pre W → At W bv v ∧ Rw W bl 22 #[lv] ∧ Below w0.heap.size w0 W)
    (hY : ∀ pre x sl W, J pre W → rdy (run v pre) x = true → OHas W sl x.ops → pre.length ≤ 100 → YieldAt Fence.wide 0 Try.prog L #[TxV x.p x.s x.v x.t sl] W fun e W' => e = .returned (.bool true) ∧ J (pre ++ [x]) W' ∧ KR W W')
    (W : World) (h0 : J [] W) : Calls Try.prog 45 #[.func (.yield L) #[] #[], .pointer (some ⟨bv, 0, none⟩), .pointer (some ⟨bl, 0, none⟩)] W fun e W' => (∃ u, e = .returned u) ∧ J (drG v l) W' := by
  obtain ⟨lp, lcap, rfl⟩ := hX.slice
  obtain ⟨hbv, hbl, hbel⟩ := hJb _ _ h0
  have hlm : (l.length : Int) ≤ 100 := by omega
  have CQ := fun w' (h : Below w0.heap.size w0 w') => queueOf_any w' v (.slice lp l.length lcap) l (hX.later h) hv hl
  have HX : Hid (XHas w0 (.slice lp l.length lcap) l) := hX
  have HJ : Hid (∀ pre W W', J pre W → KQ W W' → Below w0.heap.size w0 W' → J pre W') := hJ
  have HJb : Hid (∀ pre W, J pre W → At W bv v ∧ Rw W bl 22 #[.slice lp l.length lcap] ∧ Below w0.heap.size w0 W) := hJb
  have HY : Hid (∀ pre x sl W, J pre W → rdy (run v pre) x = true → OHas W sl x.ops → pre.length ≤ 100 → YieldAt Fence.wide 0 Try.prog L #[TxV x.p x.s x.v x.t sl] W fun e W' => e = .returned (.bool true) ∧ J (pre ++ [x]) W' ∧ KR W W') := hY
  have H0 : Hid (J [] W) := h0
  have hcl := hbl.cell 0
  clear hX hJ hJb hY h0
  go_enter Try.func45, Try.ntmps45
  go_upto_region 1 with (refine load_at rfl _ rfl _ rfl hbv ?_)
  refine (CQ _ hbel).mono ?_
  rintro e w1 ⟨g, m, rfl, Q1, hb1⟩
  have hBW : w0.heap.size ≤ W.heap.size := hbel.size
  have Q1' : Hid (QN w1 w0.heap.size g m (.slice lp l.length lcap) v (q0 v l)) := Q1.base hBW
  have J1 : Hid (J [] w1) := HJ.out _ _ _ H0.out (KQ.of_below hb1) (hbel.trans (hb1.mono hBW))
  have K1 : Hid (Qok l v (q0 v l) fun _ => False) := q0_ok hv l
  have e1 := K1.out.first
  have C1 := first_any w1 _ g m _ v _ Q1'.out
  rw [e1] at C1
  clear e1 H0 hbl hcl hbv Q1 CQ
  go_upto_region 1 with fail
  go_wp2_with fail
  refine C1.mono ?_
  rintro e w2 ⟨rfl, hb2⟩
  have hbel1 : Below w0.heap.size w0 w1 := hbel.trans (hb1.mono hBW)
  have Q2 : Hid (QN w2 w0.heap.size g m (.slice lp l.length lcap) v (q0 v l)) := Q1'.out.later hb2
  have J2 : Hid (J [] w2) := HJ.out _ _ _ J1.out (KQ.of_below hb2) (hbel1.trans (hb2.mono hbel1.size))
  clear Q1' J1 hb1 hb2 C1 hbel hbel1 hBW
  generalize q0 v l = st0 at Q2 K1
  go_upto_region 2 with fail
  go_loopw [5] (fun va wr => ∃ (pre : List T) (st : List Int × LK) (n : Nat), va = .int .i64 (l.findIdx (rdy (run v pre)) : Nat) ∧ Hid (Qok l (run v pre) st fun _ => False) ∧ Hid (QN wr w0.heap.size g m (.slice lp l.length lcap) (run v pre) st) ∧ Hid (J pre wr) ∧ Hid (Pg v l pre n)) (fun _ wr => (tot v + lack v l + 1 - hadSum wr g).toNat)
  case atStart => exact ⟨[], st0, l.length + 1, rfl, K1, Q2, J2, Pg.start v l⟩
  case round =>
    clear K1 Q2 J2
    obtain ⟨pre, st, n, rfl, K, Q, HJ1, P⟩ := hrel
    obtain ⟨hbv, hbl, hbel⟩ := HJb.out _ _ HJ1.out
    have hcl := hbl.cell 0
    obtain ⟨i, HI⟩ := hid_ex (l.findIdx (rdy (run v pre)))
    rw [HI.out]
    by_cases hlt : i < l.length
    · have hlt' : (i : Int) < (l.length : Int) := by omega
      have hf := find_idx (l := l) (f := rdy (run v pre)) (by rw [HI.out]; exact hlt)
      have hii := HI.out
      simp only [hii] at hf
      obtain ⟨gl, ol, sl, rfl, hd, ho⟩ := XHas.at (HX.out.later hbel) i hlt
      obtain ⟨x, HXX⟩ := hid_ex l[i]
      rw [HXX.out] at hd ho hf
      have hr := List.find?_some hf
      have z := tx_size x sl
      obtain ⟨n', rfl⟩ : ∃ n', n = n' + 1 := ⟨n - 1, by have := P.out.n; omega⟩
      have P' : Hid (Pg v l (pre ++ [x]) n') := P.out.step hv hf
      obtain ⟨fn, tmps, assign, body, hy, hR⟩ := HY.out pre x sl wr HJ1.out hr ho (by have h1 := P.out.b; have h2 := lack_le v l; omega)
      go_upto_region 4 with fail
      refine (wpIn_wide (n := 1)).1 ?_
      gi_wp2_with (refine loadIn rfl 34 _ rfl _ _ rfl hd Try.underlying34 rfl z ?_)
      refine hR.mono ?_
      rintro e w3 ⟨rfl, J3, hkr⟩
      have Q3 : Hid (QN w3 w0.heap.size g m (.slice (some ⟨gl, ol, none⟩) l.length lcap) (run v pre) st) := Q.out.keep hkr
      obtain ⟨_, hbl3, hbel3⟩ := HJb.out _ _ J3
      have hcl3 := hbl3.cell 0
      have hmeas : tot v + lack v l + 1 - hadSum wr g = lack v l + 1 - pre.length := by
        rw [hadSum_eq Q.out]
        have := P.out.t
        unfold tot at this ⊢
        omega
      have hplen : (pre.length : Int) < lack v l + 1 := by have := P.out.b; omega
      obtain ⟨gl', ol', sl', e', hd3, ho3⟩ := XHas.at (HX.out.later hbel3) i hlt
      simp only [Option.some.injEq, Addr.mk.injEq, and_true] at e'
      obtain ⟨rfl, rfl⟩ := e'
      rw [HXX.out] at hd3
      have hdot := at_dot hd3
      have hv' : (run v pre).length = 13 := by rw [run_length, hv]
      have CD := deliver_any w0 w3 g m _ l (run v pre) st x HX.out hbel3 Q3.out K.out hr hl
      have K4 : Hid (Qok l (run v (pre ++ [x])) (looks (run v (pre ++ [x])) l (st.2 x.p x.s) (st.1.set x.p.toNat (l.length : Int), st.2)) fun _ => False) := by
        have h1 := K.out.deliver hr
        rw [show run v (pre ++ [x]) = stp (run v pre) x by rw [run_append]; rfl]
        exact h1.looks _ (K.out.nd _ _) fun j hj => K.out.k _ _ j hj
      rw [show stp (run v pre) x = run v (pre ++ [x]) by rw [run_append]; rfl] at CD
      clear hy hR hd ho HXX Q K P hkr hcl hbl hbel hbv
      gi_wp2
      go_wp2_with (refine load_dm _ rfl rfl _ _ rfl hdot ?_)
      refine CD.mono ?_
      rintro e w4 ⟨⟨u, rfl⟩, Q4, k4, b4⟩
      have J4 : Hid (J (pre ++ [x]) w4) := HJ.out _ _ _ J3 k4 b4
      have C4 := first_any w4 _ g m _ _ _ Q4
      rw [K4.out.first] at C4
      have Q4' : Hid (QN w4 w0.heap.size g m (.slice (some ⟨gl, ol, none⟩) l.length lcap) (run v (pre ++ [x])) (looks (run v (pre ++ [x])) l (st.2 x.p x.s) (st.1.set x.p.toNat (l.length : Int), st.2))) := Q4
      clear CD Q4 k4 Q3 J3 hbl3 hbel3 hcl3 hdot hd3 ho3 hii
      go_wp2_with fail
      refine C4.mono ?_
      rintro e w5 ⟨rfl, hb5⟩
      have J5 : Hid (J (pre ++ [x]) w5) := HJ.out _ _ _ J4.out (KQ.of_below hb5) (b4.trans (hb5.mono b4.size))
      have Q5 : Hid (QN w5 w0.heap.size g m (.slice (some ⟨gl, ol, none⟩) l.length lcap) (run v (pre ++ [x])) (looks (run v (pre ++ [x])) l (st.2 x.p x.s) (st.1.set x.p.toNat (l.length : Int), st.2))) := Q4'.out.later hb5
      have hm5 : tot v + lack v l + 1 - hadSum w5 g = lack v l + 1 - (pre.length + 1) := by
        rw [hadSum_eq Q5.out]
        have := P'.out.t
        rw [List.length_append] at this
        unfold tot at this ⊢
        simp at this
        omega
      clear C4 b4 hb5 J4 Q4'
      go_wp2_with fail
      go_roundw
      case rel => exact ⟨pre ++ [x], _, n', rfl, K4, Q5, J5, P'⟩
      case measure =>
        rw [hm5, hmeas]
        omega
    · have hlen : l.findIdx (rdy (run v pre)) = l.length := by
        have := List.findIdx_le_length (xs := l) (p := rdy (run v pre))
        have := HI.out
        omega
      have hnone : l.find? (rdy (run v pre)) = none := by
        rw [List.find?_eq_none]
        intro y hy
        have := List.findIdx_eq_length.1 hlen y hy
        simpa using this
      have hlast := P.out.last hnone
      have hii : i = l.length := by have := HI.out; omega
      have JE : Hid (J (drG v l) wr) := by rw [← hlast]; exact HJ1
      subst hii
      clear hlast hnone hlen HI K Q P HJ1 hlt
      go_wp2_with fail
      go_end0
      exact ⟨⟨_, rfl⟩, JE.out⟩
end Go.Proofs.Ytfiamiflkfdhoaa
/- Transactions made anew: package copies' Tx, and Clone of ops. -/
namespace Go.Proofs.Ytfiamiflkfdhoaa
open Go.RowKit

theorem equalIn_nil (w : World) (d : Nat) (t e : TypeId) (a : Option Addr) (l c : Nat) (h : Try.prog.underlying t = some (.slice e)) : (Op.equalIn (d + 1) t (.slice a l c) (.slice none 0 0)).run Try.prog w = .ok a.isNone w := by
  cases a <;> simp [Op.equalIn, run_underlying h]
theorem equal_nil (w : World) (t e : TypeId) (a : Option Addr) (l c : Nat) (h : Try.prog.underlying t = some (.slice e)) : (Op.equal t (.slice a l c) (.slice none 0 0)).run Try.prog w = .ok a.isNone w := equalIn_nil w 9999 t e a l c h
theorem eql_nil (w : World) (t e : TypeId) (a : Option Addr) (l c : Nat) (h : Try.prog.underlying t = some (.slice e)) : (binOp .eql t (.slice a l c) (.slice none 0 0)).run Try.prog w = .ok (.bool a.isNone) w := by
  simp [binOp, equal_nil w t e a l c h]
theorem OHas.sh {w : World} {v : Value} {l : List O} (h : OHas w v l) : ∃ q c, v = .slice q l.length c ∧ (∀ j u, (rows O.cells l)[j]? = some u → ∃ g o, q = some ⟨g, o, none⟩ ∧ w.cell? ⟨g, o + j, none⟩ = some u) := by
  obtain ⟨q, c, rfl, hm, hr⟩ := h
  refine ⟨q, c, rfl, fun j u hu => ?_⟩
  have hj := (List.getElem?_eq_some_iff.1 hu).1
  have hlen := rows_length O.cells_length l
  have h0 : 0 < l.length := by
    rcases Nat.eq_zero_or_pos l.length with h | h
    · rw [hlen, h] at hj
      omega
    · exact h
  obtain ⟨g, o, rfl, hd⟩ := hr h0
  refine ⟨g, o, rfl, ?_⟩
  have hi : j / 10 < l.length := by
    rw [hlen] at hj
    omega
  have h1 := rows_at O.cells_length l (j / 10) hi (j % 10) ((l[j / 10]).cells[j % 10]'(by rw [O.cells_length]; omega)) (by simp)
  rw [show j / 10 * 10 + j % 10 = j by omega, hu] at h1
  have h2 := hd (j / 10) hi (j % 10) ((l[j / 10]).cells[j % 10]'(by rw [O.cells_length]; omega)) (by simp)
  rw [Option.some.injEq] at h1
  rw [← h1, show o + j / 10 * 10 + j % 10 = o + j by omega] at *
  exact h2
theorem own_oh {w : World} {B : Nat} {v : Value} {l : List O} (h : w.ownsRow B 45 10 v l.length (rows O.cells l)) : OHas w v l := by
  have hs := own_sh h
  obtain ⟨p, c, rfl⟩ := hs.slice
  refine ⟨p, c, rfl, hs.1, fun h0 => ?_⟩
  obtain ⟨g, o, rfl, hr⟩ := hs.at h0
  exact ⟨g, o, rfl, fun i hi => range_sub hr (i * 10) fun j u hu => rows_at O.cells_length l i hi j u hu⟩
theorem info45 : (Try.prog.info? 45).map (fun i => (i.zero, i.size, i.bytes)) = some (some (.agg #[.int .i64 0, .string ⟨#[]⟩, .string ⟨#[]⟩, .int .i64 0, .int .i64 0, .int .i64 0, .string ⟨#[]⟩, .int .i64 0, .int .i64 0, .int .i64 0]), 10, 104) := by kernel_rfl
theorem ops_ones (l : List O) : ∀ u ∈ rows O.cells l, u.oneCell' = true := by
  intro u hu
  obtain ⟨o, _, hx⟩ := List.mem_flatMap.1 hu
  simp only [O.cells, List.mem_cons, List.not_mem_nil, or_false] at hx
  rcases hx with rfl | rfl | rfl | rfl | rfl | rfl | rfl | rfl | rfl | rfl <;> rfl
/-- Ops in a row of one's own. -/
abbrev ORow (w : World) (B : Nat) (v : Value) (l : List O) : Prop := w.ownsRow B 45 10 v l.length (rows O.cells l)
theorem ORow.keep {w w' : World} {B : Nat} {v : Value} {q : List O} (h : ORow w B v q) (hk : ∀ b, v.ownBlock = some b → w'.heap[b]? = w.heap[b]?) : ORow w' B v q := by
  refine ⟨h.1, ?_⟩
  rcases h.2 with h | ⟨g, cap, cur, rfl, hbg, hg, h1, h2, h3, h4⟩
  · exact .inl h
  · exact .inr ⟨g, cap, cur, rfl, hbg, (hk g rfl).trans hg, h1, h2, h3, h4⟩
theorem ORow.block {w : World} {B : Nat} {v : Value} {q : List O} (h : ORow w B v q) {b : Nat} (e : v.ownBlock = some b) : B ≤ b ∧ ∃ cur, w.heap[b]? = some (.cells cur 45) := by
  rcases h.2 with ⟨rfl, _⟩ | ⟨g, cap, cur, rfl, hbg, hg, _⟩
  · simp [Value.ownBlock] at e
  · simp only [Value.ownBlock, Option.some.injEq] at e
    subst e
    exact ⟨hbg, cur, hg⟩
theorem ORow.base {w : World} {B B' : Nat} {v : Value} {q : List O} (h : ORow w B v q) (hB : B' ≤ B) : ORow w B' v q := ⟨h.1, h.2.elim .inl fun ⟨g, cap, cur, e, hb, r⟩ => .inr ⟨g, cap, cur, e, Nat.le_trans hB hb, r⟩⟩
def OPost (l : List O) (w : World) (e : Ending) (w' : World) : Prop := ∃ v, e = .returned v ∧ ORow w' w.heap.size v l ∧ Below w.heap.size w w'
set_option maxHeartbeats 1000000 in
set_option maxRecDepth 100000 in
theorem cloneOps_any (v : Value) (l : List O) (w : World) (h : OHas w v l) (hn : l.length ≤ 1000) : Calls Try.prog 44 #[v] w (OPost l w) := by
  obtain ⟨i0, hi, hz0, hz1, hz2⟩ := info_parts info45
  have h1 := ops_ones l
  obtain ⟨q, c, rfl, hd⟩ := h.sh
  cases q with
  | none =>
    have hl0 : l = [] := by
      rcases Nat.eq_zero_or_pos l.length with h0 | h0
      · exact List.eq_nil_of_length_eq_zero h0
      · obtain ⟨g, o, e, _⟩ := hd 0 (((rows O.cells l)[0]'(by rw [rows_length O.cells_length]; omega))) (by simp)
        cases e
    subst hl0
    have E := fun w => eql_nil w 32 _ none 0 c Try.underlying32
    simp only [Option.isNone_none] at E
    go_enter Try.func44, Try.ntmps44
    go_wp2
    go_ret
    exact ⟨_, rfl, World.ownsRow_nil _ _ _ _, Below.refl _ _⟩
  | some ad =>
    have HD : Hid (∀ (j : Nat) (u : Value), (rows O.cells l)[j]? = some u → w.cell? (ad.add j) = some u) := fun j u hu => by
      obtain ⟨g, o, e, hc⟩ := hd j u hu
      simp only [Option.some.injEq] at e
      rw [e, Addr.add_mid]
      exact hc
    have hown : (w.alloc (.cells #[] 45)).ownsRow w.heap.size 45 10 (.slice (some ⟨w.heap.size, 0, none⟩) 0 0) 0 [] := World.ownsRow_made w #[] 0 (Nat.le_refl _) (Nat.zero_le _) (by simp)
    have hbel : Below w.heap.size w (w.alloc (.cells #[] 45)) := bel_alloc (Below.refl _ _) _
    have HC : Hid (∀ (j : Nat) (u : Value), (rows O.cells l)[j]? = some u → (w.alloc (.cells #[] 45)).cell? (ad.add j) = some u) := fun j u hu => by
      have h2 := HD.out j u hu
      have hlt : (ad.add j).block < w.heap.size := World.block_lt_of_cell? w _ h2
      rw [World.cell?_of_block (w := w) (hbel.block _ hlt)]
      exact h2
    have HL : Hid ((rows O.cells l).length = l.length * 10) := rows_length O.cells_length l
    clear hd HD
    have E := fun w => eql_nil w 32 _ (some ad) l.length c Try.underlying32
    simp only [Option.isNone_some] at E
    go_enter Try.func44, Try.ntmps44
    go_wp2_with (first | (at_builtin; refine wpList_append_own _ rfl _ _ 32 rfl w.heap.size 45 i0 _ 10 104 Try.underlying32 hi hz0 hz1 hz2 rfl (by decide) _ _ _ rfl hown ad l.length c (rows O.cells l) rfl HL.out HC.out h1 ?c3 ?c4 ?c5 ?_))
    case c3 => unfold maxLen; omega
    case c4 => omega
    case c5 => simp
    intro v2 w2 hown2 hg2 _
    go_wp2_with fail
    go_ret
    have hown2 : w2.ownsRow w.heap.size 45 10 v2 l.length (rows O.cells l) := by simpa using hown2
    exact ⟨_, rfl, hown2, hbel.grown hg2 (by simp) (fun q hq => by simp [Value.ownBlock] at hq; omega)⟩
/-- A transaction made anew. -/
def TPost (x : T) (w : World) (e : Ending) (w' : World) : Prop := ∃ sl, e = .returned (TxV x.p x.s x.v x.t sl) ∧ ORow w' w.heap.size sl x.ops ∧ Below w.heap.size w w'
set_option maxHeartbeats 1000000 in
set_option maxRecDepth 100000 in
theorem copyTx_any (x : T) (sl : Value) (w : World) (h : OHas w sl x.ops) (hn : x.ops.length ≤ 1000) : Calls Try.prog 24 #[TxV x.p x.s x.v x.t sl] w (TPost x w) := by
  obtain ⟨ps, ls, cs, hse⟩ : ∃ p n c, sl = .slice p n c := by
    obtain ⟨p, c, e, _⟩ := h
    exact ⟨_, _, _, e⟩
  subst hse
  have z := tx_size x (.slice ps ls cs)
  obtain ⟨w1, HW⟩ : ∃ w1, (w.alloc (.cells (txc x.p x.s x.v x.t (.slice ps ls cs)).toArray 34)).alloc (.cells z17 34) = w1 := ⟨_, rfl⟩
  have R1 : Rw w1 w.heap.size 34 (txc x.p x.s x.v x.t (.slice ps ls cs)).toArray := by rw [← HW]; exact (rw_new _ _ _).alloc _
  have R2 : Rw w1 (w.heap.size + 1) 34 z17 := by rw [← HW]; exact rw_next _ (by simp) _ _
  have hb1 : Below w.heap.size w w1 := by rw [← HW]; exact bel_alloc (bel_alloc (Below.refl _ _) _) _
  have hsz1 : w1.heap.size = w.heap.size + 1 + 1 := by rw [← HW]; simp
  have c1 := tx_ops R1 x.hv
  have C1 := cloneOps_any (.slice ps ls cs) x.ops w1 (h.later hb1) hn
  have hsl := h.one
  go_enter Try.func24, Try.ntmps24
  go_upto_region 1 with fail
  try rw [HW]
  clear HW
  go_wp2_with fail
  refine C1.mono ?_
  rintro e w2 ⟨s2, rfl, hr2, hb2⟩
  have h2 := own_oh hr2
  have hf2 : Fr w1 s2 := own_fr hr2 (Nat.le_refl _)
  obtain ⟨p2, c2, rfl⟩ := h2.slice
  have R3 := R1.later hb2
  have R4 := R2.later hb2
  have c3 := tx_ops R3 x.hv
  have f3 := R3.frozen 16
  have one2 := h2.one
  have R5 := R3.set 16 (.slice p2 x.ops.length c2)
  rw [List.setIfInBounds_toArray, show (txc x.p x.s x.v x.t (.slice ps ls cs)).set 16 (.slice p2 x.ops.length c2) = txc x.p x.s x.v x.t (.slice p2 x.ops.length c2) by
    simp only [txc, List.set_cons_succ]
    rw [List.set_append_right _ _ (by simp [vals, x.hv])]
    simp [vals, x.hv]] at R5
  have R6 := R4.setOther (q := w.heap.size) (by omega) 16 (.slice p2 x.ops.length c2)
  have hb3 : Below w.heap.size w (w2.setCell ⟨w.heap.size, 16, none⟩ (.slice p2 x.ops.length c2)) := (below_on hb1 hb2).setCell (p := ⟨w.heap.size, 16, none⟩) (Nat.le_refl _) _
  have hb4 := below_setRow hb3 (g := w.heap.size + 1) (by omega) (txc x.p x.s x.v x.t (.slice p2 x.ops.length c2)).toArray
  have hOK2 : ORow ((w2.setCell ⟨w.heap.size, 16, none⟩ (.slice p2 x.ops.length c2)).setRow (w.heap.size + 1) (txc x.p x.s x.v x.t (.slice p2 x.ops.length c2)).toArray) w.heap.size (.slice p2 x.ops.length c2) x.ops := (hr2.base (by omega)).keep fun b e => by
    obtain ⟨hb, _⟩ := hr2.block e
    rw [setRow_other _ _ b _ (by omega)]
    exact Below.heap_setCell _ ⟨w.heap.size, 16, none⟩ _ b (show b ≠ w.heap.size by omega)
  have r5 := R5.range 0 (txc x.p x.s x.v x.t (.slice p2 x.ops.length c2)) (fun j v h => by simpa using h)
  have z2 := tx_size x (.slice p2 x.ops.length c2)
  clear R3 R4 R1 R2 c1 C1
  go_wp2_with (first | refine load_m 34 _ rfl rfl _ _ rfl r5 Try.underlying34 rfl z2 ?_ | refine store_tx rfl _ _ rfl _ x (.slice p2 x.ops.length c2) rfl rfl one2 R6 rfl ?_)
  refine bodyPost_ret (v := TxV x.p x.s x.v x.t (.slice p2 x.ops.length c2)) ?_ ?_ ?_
  · exact results_r rfl rfl (R6.row _) rfl Try.underlying34 (size_tx x.hv)
  · rfl
  · exact ⟨_, rfl, hOK2, hb4⟩
/-- Transactions in a row of one's own, and their ops. -/
structure OwnT (w : World) (B : Nat) (v : Value) (zs : List (T × Value)) : Prop where
  r : w.ownsRow B 34 17 v zs.length (rows T.cells zs)
  o : ∀ y ∈ zs, ORow w B y.2 y.1.ops
theorem OwnT.nil (w : World) (B : Nat) : OwnT w B (.slice none 0 0) [] := ⟨World.ownsRow_nil _ _ _ _, fun _ h => by cases h⟩
theorem OwnT.block {w : World} {B : Nat} {v : Value} {zs : List (T × Value)} (h : OwnT w B v zs) {b : Nat} (e : v.ownBlock = some b) : B ≤ b ∧ ∃ cur, w.heap[b]? = some (.cells cur 34) := by
  rcases h.r.2 with ⟨rfl, _⟩ | ⟨g, cap, cur, rfl, hbg, hg, _⟩
  · simp [Value.ownBlock] at e
  · simp only [Value.ownBlock, Option.some.injEq] at e
    subst e
    exact ⟨hbg, cur, hg⟩
def qx : Obj → Bool
  | .cells _ t _ => t == 34 || t == 45
  | _ => false
theorem OwnT.keep {w w' : World} {B : Nat} {v : Value} {zs : List (T × Value)} (h : OwnT w B v zs) (hk : ∀ (b : Nat) (o : Obj), w.heap[b]? = some o → qx o = true → w'.heap[b]? = some o) : OwnT w' B v zs := by
  refine ⟨⟨h.r.1, ?_⟩, fun y hy => (h.o y hy).keep fun b e => ?_⟩
  · rcases h.r.2 with h | ⟨g, cap, cur, rfl, hbg, hg, h1, h2, h3, h4⟩
    · exact .inl h
    · exact .inr ⟨g, cap, cur, rfl, hbg, hk g _ hg rfl, h1, h2, h3, h4⟩
  · obtain ⟨_, cur, hc⟩ := (h.o y hy).block e
    rw [hc]
    exact hk b _ hc rfl
theorem OwnT.later {w w' : World} {B : Nat} {v : Value} {zs : List (T × Value)} (h : OwnT w B v zs) (hb : Below w.heap.size w w') : OwnT w' B v zs := h.keep fun b _ h1 _ => (hb.block b (Array.getElem?_eq_some_iff.1 h1).1).trans h1
theorem OwnT.base {w : World} {B B' : Nat} {v : Value} {zs : List (T × Value)} (h : OwnT w B v zs) (hB : B' ≤ B) : OwnT w B' v zs := ⟨⟨h.r.1, h.r.2.elim .inl fun ⟨g, cap, cur, e, hb, r⟩ => .inr ⟨g, cap, cur, e, Nat.le_trans hB hb, r⟩⟩, fun y hy => (h.o y hy).base hB⟩
theorem own_off {w : World} {B e S n : Nat} {v : Value} {xs : List Value} (h : w.ownsRow B e S v n xs) {b : Nat} (hb : b < B) : Off b v := by
  intro a m c e1 hn
  rcases h.2 with ⟨rfl, _⟩ | ⟨g, cap, cur, rfl, hbg, _⟩
  · cases e1
  · simp only [Value.slice.injEq, Option.some.injEq] at e1
    rw [← e1.1]
    show g ≠ b
    omega
theorem OwnT.xat {w : World} {B : Nat} {v : Value} {zs : List (T × Value)} (h : OwnT w B v zs) : XAt w v zs fun b => b < B := ⟨own_sh h.r, fun y hy => own_oh (h.o y hy), fun _ hb => ⟨own_off h.r hb, fun y hy => own_off (h.o y hy) hb⟩⟩
/-- One more. -/
theorem OwnT.app {w : World} {B ab : Nat} {va : Value} {zs : List (T × Value)} {x : T} {sl : Value} (h : OwnT w B va zs) (hc : w.rangeAt ab 0 (T.cells (x, sl))) (ho : ORow w B sl x.ops) (hlen : zs.length ≤ 1000) (hB : B ≤ w.heap.size) (ty : TypeId) :
    ∃ v' w', (Builtin.append_ #[22, 22] ty #[va, .slice (some ⟨ab, 0, none⟩) 1 1]).run Try.prog w = .ok v' w' ∧ OwnT w' B v' (zs ++ [(x, sl)]) ∧ w.grownBy w' va.ownBlock ∧ ∃ p n c, v' = .slice p n c := by
  obtain ⟨i0, hi, hz0, hz1, hz2⟩ := info_parts info34
  obtain ⟨v', w', hr, h2, hg, _, _⟩ := run_append_own_at (P := Try.prog) w B 22 ty 34 i0 _ 17 152 Try.underlying22 hi hz0 hz1 hz2 rfl (by decide) va zs.length _ h.r ⟨ab, 0, none⟩ 1 1 (T.cells (x, sl)) (by rw [T.len]) (fun j u hu => by
    rw [Addr.add_mid]
    exact hc j u hu) (T.one sl (by
      rcases ho.2 with ⟨rfl, _⟩ | ⟨g, cap, cur, rfl, _⟩ <;> rfl) x) (by simp [maxLen]; omega) (by omega) hB
  have hk : ∀ y : T × Value, ORow w B y.2 y.1.ops → ORow w' B y.2 y.1.ops := fun y hy => hy.keep fun b e => by
    obtain ⟨_, cur, h3⟩ := hy.block e
    refine hg.block b (Array.getElem?_eq_some_iff.1 h3).1 fun e2 => ?_
    obtain ⟨_, cur2, h4⟩ := h.block e2.symm
    rw [h3] at h4
    simp at h4
  have h2' : w'.ownsRow B 34 17 v' (zs ++ [(x, sl)]).length (rows T.cells (zs ++ [(x, sl)])) := by
    rw [List.length_append, rows_append, rows_one]
    exact h2
  refine ⟨v', w', hr, ⟨h2', fun y hy => ?_⟩, hg, own_sl h2' |>.elim fun p ⟨c, e⟩ => ⟨p, _, c, e⟩⟩
  rcases List.mem_append.1 hy with hy | hy
  · exact hk y (h.o y hy)
  · simp only [List.mem_singleton] at hy
    subst hy
    exact hk _ ho
end Go.Proofs.Ytfiamiflkfdhoaa
