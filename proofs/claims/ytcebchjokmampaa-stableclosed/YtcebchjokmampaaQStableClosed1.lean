import Derived.Test.YtcebchjokmampaaP6
import Derived.Test.YtcebchjokmampaaP4
import Derived.Test.YtcebchjokmampaaP8
/- Deliver of the document's answer. -/
namespace Go.Proofs.Ytcebchjokmampaa
open Go.RowKit

/-- Those that were offered so far. -/
def ofs (l : List T) (f k : Nat) : List T := (List.range k).filterMap fun j => l[(j + f) % l.length]?
theorem ofs_succ {l : List T} (h : 0 < l.length) (f k : Nat) : ofs l f (k + 1) = ofs l f k ++ [l[(k + f) % l.length]'(Nat.mod_lt _ h)] := by
  unfold ofs
  rw [List.range_succ, List.filterMap_append]
  congr 1
  simp [List.getElem?_eq_getElem (Nat.mod_lt (k + f) h)]
theorem ofs_len (l : List T) (f k : Nat) : (ofs l f k).length ≤ k := by
  unfold ofs
  have := List.length_filterMap_le (fun j => l[(j + f) % l.length]?) (List.range k)
  simpa using this
theorem ofs_mem {l : List T} {f k : Nat} {x : T} : x ∈ ofs l f k ↔ ∃ j, j < k ∧ l[(j + f) % l.length]? = some x := by
  unfold ofs
  simp
/-- One is taken, if it is ready. -/
def dst (s : List T × List Int) (t : T) : List T × List Int := if rdy s.2 t = true then (s.1 ++ [t], stp s.2 t) else s
def dpass (l : List T) (f k : Nat) (s : List T × List Int) : List T × List Int := (ofs l f k).foldl dst s
def dlv (l : List T) (f : Nat) : Nat → List T × List Int
  | 0 => ([], zeros)
  | r + 1 => dpass l f l.length (dlv l f r)
theorem dpass_succ {l : List T} (h : 0 < l.length) (f k : Nat) (s : List T × List Int) : dpass l f (k + 1) s = dst (dpass l f k s) (l[(k + f) % l.length]'(Nat.mod_lt _ h)) := by
  unfold dpass
  rw [ofs_succ h, List.foldl_append]
  rfl
/-- What holds of what was delivered so far. -/
structure Dok (l : List T) (s : List T × List Int) : Prop where
  c : clb zeros s.1 = true
  r : s.2 = run zeros s.1
  m : ∀ x ∈ s.1, x ∈ l
theorem Dok.len {l : List T} {s : List T × List Int} (h : Dok l s) : s.2.length = 13 := by rw [h.r, run_length]; rfl
theorem Dok.step {l : List T} {s : List T × List Int} (h : Dok l s) {t : T} (ht : t ∈ l) : Dok l (dst s t) := by
  unfold dst
  split
  · rename_i hr
    refine ⟨?_, ?_, fun x hx => ?_⟩
    · show clb zeros (s.1 ++ [t]) = true
      rw [clb_append, h.c, ← h.r]
      simp [clb, hr]
    · show stp s.2 t = run zeros (s.1 ++ [t])
      rw [run_append, ← h.r]
      rfl
    · rcases List.mem_append.1 hx with hx | hx
      · exact h.m x hx
      · simp only [List.mem_singleton] at hx
        exact hx ▸ ht
  · exact h
theorem Dok.pass {l : List T} (f : Nat) {s : List T × List Int} (h : Dok l s) (h0 : 0 < l.length) : ∀ k, Dok l (dpass l f k s)
  | 0 => h
  | k + 1 => by
    rw [dpass_succ h0]
    exact (Dok.pass f h h0 k).step (List.getElem_mem _)
theorem Dok.all (l : List T) (f : Nat) (h0 : 0 < l.length) : ∀ r, Dok l (dlv l f r)
  | 0 => ⟨rfl, rfl, fun _ h => by cases h⟩
  | r + 1 => (Dok.all l f h0 r).pass f h0 l.length
theorem results_tr {fn : Func} {t u : Tmp} {ty : TypeId} (h : fn.results = #[.tmp u, .cell t ty]) {tmps : Array Value} {w : World} {b : Nat} {cs : Array Value} {d : TypeDesc} (hp : tmps.getD t undef = .pointer (some ⟨b, 0, none⟩)) (hc : Rw w b ty cs)
    (hd : d.isRow = true) (hu : Try.prog.underlying ty = some d) (hi : (Try.prog.info? ty).map (·.size) = some cs.size) : (results fn tmps).run Try.prog w = .ok (.tuple #[tmps.getD u undef, .agg cs]) w := by
  have h2 := hc.load hd hu hi
  unfold results
  rw [h]
  simp only [List.mapM_toArray, List.mapM_cons, List.mapM_nil, hp, asAddr]
  simp [h2]
def DvPost (off : Nat → Prop) (s : List T × List Int) (w : World) (e : Ending) (w' : World) : Prop := ∃ u zs, e = .returned (.tuple #[u, V s.2]) ∧ zs.map (·.1) = s.1 ∧ XAt w' u zs off ∧ Below w.heap.size w w'
theorem one_tx {w : World} {b : Nat} (x : T) (s1 : Value) (off : Nat → Prop) (hb : b = w.heap.size) (ho : OHas w s1 x.ops) (hof : ∀ q, off q → Off q s1 ∧ q ≠ b) : XAt (w.alloc (.cells (txc x.p x.s x.v x.t s1).toArray 43)) (.slice (some ⟨b, 0, none⟩) 1 1) [(x, s1)] off := by
  subst hb
  refine ⟨⟨(show 1 ≤ maxLen by decide), ?_, .inr ⟨_, 1, rfl, ⟨Nat.le_refl _, by decide⟩, fun _ => ⟨w.heap.size, 0, rfl, ?_⟩⟩⟩, fun y hy => ?_, fun q hq => ⟨fun a n c e hn => ?_, fun y hy => ?_⟩⟩
  · rw [rows_length T.len]
  · exact (rw_new w 43 _).range 0 _ fun j u hu => by
      rw [rows_one] at hu
      simpa using hu
  · simp only [List.mem_singleton] at hy
    subst hy
    exact ho.later (bel_alloc (Below.refl _ _) _)
  · simp only [Value.slice.injEq, Option.some.injEq] at e
    rw [← e.1]
    exact Ne.symm (hof q hq).2
  · simp only [List.mem_singleton] at hy
    subst hy
    exact (hof q hq).1
set_option maxRecDepth 100000 in
theorem build_one (x : T) (s1 : Value) (_h1 : s1.oneCell' = true) (w : World) : (Instr.buildSlice 35 1 #[(0, TxV x.p x.s x.v x.t s1)]).run Try.prog w = .ok (.slice (some ⟨w.heap.size, 0, none⟩) 1 1) (w.alloc (.cells (txc x.p x.s x.v x.t s1).toArray 43)) := by
  obtain ⟨p, s, v, t, ops, hv⟩ := x
  match v, hv with
  | [v0, v1, v2, v3, v4, v5, v6, v7, v8, v9, v10, v11, v12], _ =>
    go_simp
    simp [txc, vals, go_sem]
theorem build_at {ops : Array Oper} {rest : List Oper} {op : Oper} {a : Act} {w w1 : World} {Q : Exit → Act → World → Prop} {ty : TypeId} {n : Nat} (hgd : op.guard = none) (x : Operand) (ho : op.op = .buildSlice ty n #[(0, x)]) {u v : Value} (hx : a.eval x = v) (hr : (Instr.buildSlice ty n #[(0, v)]).run Try.prog w = .ok u w1)
    (h : wpList Try.prog ops Q rest (a.put op.dst u) w1) : wpList Try.prog ops Q (op :: rest) a w :=
  wpList_plain hgd fun _ hK => by
    unfold Oper.wp execOp
    simp only [ho, List.map_toArray, List.map_cons, List.map_nil, hx, Sem.run_bind, hr, Result.andThen_ok, Sem.run_pure]
    exact hK _ _ h
set_option maxHeartbeats 16000000 in
set_option maxRecDepth 100000 in
theorem refDeliver_any (off : Nat → Prop) (l : List T) (ys0 : List (T × Value)) (hl0 : ys0.map (·.1) = l) (sv : Value) (f : Nat) (w : World) (hoff : ∀ b, off b → b < w.heap.size) (h : XAt w sv ys0 off) (h40 : l.length ≤ 40) (hf : f ≤ 1000000) : Calls Try.prog 16 #[sv, .int .i64 f] w (DvPost off (dlv l f l.length) w) := by
  have hlen0 : ys0.length = l.length := by rw [← hl0, List.length_map]
  obtain ⟨q, c, rfl⟩ := h.s.slice
  rw [hlen0] at h ⊢
  have HX0 : Hid (XAt w (.slice q l.length c) ys0 off) := h
  have HL0 : Hid (ys0.map (·.1) = l) := hl0
  have HN0 : Hid (ys0.length = l.length) := hlen0
  clear h hl0 hlen0
  have R5 := (at_new w zeros rfl).alloc (.cells #[.int .i64 0, .int .i64 0, .int .i64 0, .int .i64 0, .int .i64 0, .int .i64 0, .int .i64 0, .int .i64 0, .int .i64 0, .int .i64 0, .int .i64 0, .int .i64 0, .int .i64 0] 23)
  have R6 : At ((w.alloc (.cells #[.int .i64 0, .int .i64 0, .int .i64 0, .int .i64 0, .int .i64 0, .int .i64 0, .int .i64 0, .int .i64 0, .int .i64 0, .int .i64 0, .int .i64 0, .int .i64 0, .int .i64 0] 23)).alloc (.cells #[.int .i64 0, .int .i64 0, .int .i64 0, .int .i64 0, .int .i64 0, .int .i64 0, .int .i64 0, .int .i64 0, .int .i64 0, .int .i64 0, .int .i64 0, .int .i64 0, .int .i64 0] 23)) (w.heap.size + 1) zeros := at_next (w.alloc (.cells #[.int .i64 0, .int .i64 0, .int .i64 0, .int .i64 0, .int .i64 0, .int .i64 0, .int .i64 0, .int .i64 0, .int .i64 0, .int .i64 0, .int .i64 0, .int .i64 0, .int .i64 0] 23)) (by simp) zeros rfl
  have hbel := bel_alloc (bel_alloc (Below.refl w.heap.size w) (.cells #[.int .i64 0, .int .i64 0, .int .i64 0, .int .i64 0, .int .i64 0, .int .i64 0, .int .i64 0, .int .i64 0, .int .i64 0, .int .i64 0, .int .i64 0, .int .i64 0, .int .i64 0] 23)) (.cells #[.int .i64 0, .int .i64 0, .int .i64 0, .int .i64 0, .int .i64 0, .int .i64 0, .int .i64 0, .int .i64 0, .int .i64 0, .int .i64 0, .int .i64 0, .int .i64 0, .int .i64 0] 23)
  change At ((w.alloc (.cells #[.int .i64 0, .int .i64 0, .int .i64 0, .int .i64 0, .int .i64 0, .int .i64 0, .int .i64 0, .int .i64 0, .int .i64 0, .int .i64 0, .int .i64 0, .int .i64 0, .int .i64 0] 23)).alloc (.cells #[.int .i64 0, .int .i64 0, .int .i64 0, .int .i64 0, .int .i64 0, .int .i64 0, .int .i64 0, .int .i64 0, .int .i64 0, .int .i64 0, .int .i64 0, .int .i64 0, .int .i64 0] 23)) w.heap.size zeros at R5
  generalize hW : (w.alloc (.cells #[.int .i64 0, .int .i64 0, .int .i64 0, .int .i64 0, .int .i64 0, .int .i64 0, .int .i64 0, .int .i64 0, .int .i64 0, .int .i64 0, .int .i64 0, .int .i64 0, .int .i64 0] 23)).alloc (.cells #[.int .i64 0, .int .i64 0, .int .i64 0, .int .i64 0, .int .i64 0, .int .i64 0, .int .i64 0, .int .i64 0, .int .i64 0, .int .i64 0, .int .i64 0, .int .i64 0, .int .i64 0] 23) = w0 at R5 R6 hbel
  go_enter Try.func16, Try.ntmps16
  go_wp2_with (rw [hW])
  clear hW
  go_loopw [7, 8] (fun va vr wr => ∃ (r : Nat) (ys : List (T × Value)), vr = .int .i64 r ∧ r ≤ l.length ∧ ys.map (·.1) = (dlv l f r).1 ∧ ys.length ≤ r * 40 ∧ OwnX wr (w.heap.size + 2) va ys (fun b => (b = w.heap.size ∨ b = w.heap.size + 1) ∨ off b) ∧ At wr w.heap.size zeros ∧ At wr (w.heap.size + 1) (dlv l f r).2 ∧ Below w.heap.size w wr) (fun _ vr _ => l.length - (intOf vr).toNat)
  case atStart => exact ⟨0, [], rfl, by omega, rfl, by simp, OwnX.nil _ _ _, R5, R6, hbel⟩
  case round =>
    clear R5 R6 hbel
    obtain ⟨r, ys, rfl, hr, hys, hyl, hO, R5, R6, hbel⟩ := hrel
    by_cases hrlt : r < l.length
    · have hrlt' : (r : Int) < (l.length : Int) := by omega
      have hp0 : 0 < l.length := by omega
      go_wp2_with fail
      have hwr0 := hbel
      go_loopw [7, 9] (fun va vi wr => ∃ (k : Nat) (ys : List (T × Value)), vi = .int .i64 k ∧ k ≤ l.length ∧ ys.map (·.1) = (dpass l f k (dlv l f r)).1 ∧ ys.length ≤ r * 40 + k ∧ OwnX wr (w.heap.size + 2) va ys (fun b => (b = w.heap.size ∨ b = w.heap.size + 1) ∨ off b) ∧ At wr w.heap.size zeros ∧ At wr (w.heap.size + 1) (dpass l f k (dlv l f r)).2 ∧ Below w.heap.size w wr) (fun _ vi _ => l.length - (intOf vi).toNat)
      case atStart => exact ⟨0, ys, rfl, by omega, hys, hyl, hO, R5, R6, hbel⟩
      case round =>
        clear hys hyl hO R5 R6 hbel hwr0
        obtain ⟨k, ys, rfl, hk, hys, hyl, hO, R5, R6, hbel⟩ := hrel
        by_cases hklt : k < l.length
        · have hklt' : (k : Int) < (l.length : Int) := by omega
          have hl0' : ¬ (l.length : Int) = 0 := by omega
          have hm0 : (k + f) % l.length < l.length := Nat.mod_lt _ hp0
          obtain ⟨m, HM⟩ := hid_ex ((k + f) % l.length)
          have hm : m < l.length := by rw [← HM.out]; exact hm0
          have hm' : (m : Int) < (l.length : Int) := by omega
          have e1 : IntKind.i64.wrap ((k : Int) + (f : Int)) = (k : Int) + (f : Int) := by rw [IntKind.wrap_i64]; omega
          have e2 : Int.tmod ((k : Int) + (f : Int)) (l.length : Int) = (m : Int) := by rw [← HM.out, ← Int.natCast_add]; exact (Int.ofNat_tmod (k + f) l.length).symm
          have hsucc := dpass_succ hp0 f k (dlv l f r)
          have hxm : l[(k + f) % l.length]'hm0 = l[m] := by simp only [HM.out]
          rw [hxm] at hsucc
          have hmy : m < ys0.length := by have := HN0.out; omega
          have hyx : l[m] = ys0[m].1 := by simp only [← HL0.out, List.getElem_map]
          have hs0 := HX0.out.s
          rw [HN0.out] at hs0
          obtain ⟨g, o, rfl, hd0⟩ := hs0.at (by omega)
          have d0 := T.elem hd0 m hmy
          have a0 := HX0.out.o ys0[m] (List.getElem_mem _)
          have hof0 : ∀ b, off b → Off b ys0[m].2 := fun b hb => (HX0.out.f b hb).2 _ (List.getElem_mem _)
          obtain ⟨⟨x, s1⟩, HX⟩ := hid_ex ys0[m]
          rw [hyx, HX.out] at hsucc
          rw [HX.out] at d0 a0 hof0
          replace d0 : w.rangeAt g (o + m * 17) (txc x.p x.s x.v x.t s1) := d0
          replace a0 : OHas w s1 x.ops := a0
          have d1 := range_later d0 hbel
          have ao := a0
          obtain ⟨ps, cs, es1, _⟩ := a0
          have h1c : s1.oneCell' = true := by rw [es1]; rfl
          clear hs0 hd0 hxm hyx es1 d0
          obtain ⟨s, HSS⟩ := hid_ex (dpass l f k (dlv l f r))
          rw [HSS.out] at hsucc hys R6
          have hv := R6.1
          have z1 := tx_size x s1
          have zt := size_tx (p := x.p) (s := x.s) (t := x.t) (sl := s1) x.hv
          have zv := size_v hv
          have B0 : Rw (wr.alloc (.cells #[.int .i64 0, .int .i64 0, .int .i64 0, .int .i64 0, .int .i64 0, .int .i64 0, .int .i64 0, .int .i64 0, .int .i64 0, .int .i64 0, .int .i64 0, .int .i64 0, .int .i64 0, .int .i64 0, .int .i64 0, .int .i64 0, .slice none 0 0] 43)) wr.heap.size 43 #[.int .i64 0, .int .i64 0, .int .i64 0, .int .i64 0, .int .i64 0, .int .i64 0, .int .i64 0, .int .i64 0, .int .i64 0, .int .i64 0, .int .i64 0, .int .i64 0, .int .i64 0, .int .i64 0, .int .i64 0, .int .i64 0, .slice none 0 0] := rw_new wr 43 _
          have hbA := bel_alloc (Below.refl wr.heap.size wr) (.cells #[.int .i64 0, .int .i64 0, .int .i64 0, .int .i64 0, .int .i64 0, .int .i64 0, .int .i64 0, .int .i64 0, .int .i64 0, .int .i64 0, .int .i64 0, .int .i64 0, .int .i64 0, .int .i64 0, .int .i64 0, .int .i64 0, .slice none 0 0] 43)
          generalize hW1 : wr.alloc (.cells #[.int .i64 0, .int .i64 0, .int .i64 0, .int .i64 0, .int .i64 0, .int .i64 0, .int .i64 0, .int .i64 0, .int .i64 0, .int .i64 0, .int .i64 0, .int .i64 0, .int .i64 0, .int .i64 0, .int .i64 0, .int .i64 0, .slice none 0 0] 43) = w1 at B0 hbA
          have B1 := B0.row (txc x.p x.s x.v x.t s1).toArray
          have hb2 := below_setRow hbA (Nat.le_refl _) (txc x.p x.s x.v x.t s1).toArray
          generalize hW2 : w1.setRow wr.heap.size (txc x.p x.s x.v x.t s1).toArray = w2 at B1 hb2
          have hsz : (#[.int .i64 0, .int .i64 0, .int .i64 0, .int .i64 0, .int .i64 0, .int .i64 0, .int .i64 0, .int .i64 0, .int .i64 0, .int .i64 0, .int .i64 0, .int .i64 0, .int .i64 0, .int .i64 0, .int .i64 0, .int .i64 0, .slice none 0 0] : Array Value).size = (txc x.p x.s x.v x.t s1).toArray.size := (show 17 = _ by rw [List.size_toArray, txc_length x.hv])
          have hone : (txc x.p x.s x.v x.t s1).toArray.all (·.oneCell') = true := all_oneCell_toArray (T.one s1 h1c x)
          have hblt : w.heap.size + 1 < wr.heap.size := R6.lt
          replace hO := hO.later hb2
          replace R5 := R5.later hb2
          replace R6 := R6.later hb2
          replace hbel := below_on hbel hb2
          go_wp2_with (first | refine load_m 43 _ rfl rfl _ _ rfl d1 Try.underlying43 rfl z1 ?_ | rw [hW1] | (refine store_r rfl 43 _ _ rfl wr.heap.size _ rfl rfl B0 zt hsz hone ?_; rw [hW2]) | refine load_at rfl _ rfl _ rfl R6 ?_ | refine load_r 43 _ rfl rfl _ rfl B1 Try.underlying43 rfl zt ?_)
          generalize wr.heap.size = b10 at B1 hblt ⊢
          clear hW1 hW2 B0 hbA hb2 d1 e1 e2
          refine (refReady16_any s.2 x s1 _ hv (ao.later hbel)).mono ?_
          obtain ⟨rd, HRD⟩ := hid_ex (rdy s.2 x)
          rw [HRD.out]
          rintro e w3 ⟨rfl, hb3⟩
          replace hO := hO.later hb3
          replace R5 := R5.later hb3
          replace R6 := R6.later hb3
          replace B1 := B1.later hb3
          replace hbel := below_on hbel hb3
          clear hb3
          cases rd
          · rw [dst, if_neg (by rw [show rdy s.2 x = false from HRD.out]; simp)] at hsucc
            go_wp2_with fail
            go_roundw
            case rel => exact ⟨k + 1, ys, by simp, by omega, by rw [hsucc]; exact hys, by omega, hO, R5, by rw [hsucc]; exact R6, hbel⟩
            case measure => simp [intOf]; omega
          · rw [dst, if_pos (show rdy s.2 x = true from HRD.out)] at hsucc
            have hp := T.ok_p (rdy_ok (show rdy s.2 x = true from HRD.out))
            obtain ⟨n, en⟩ : ∃ n : Nat, x.p = (n : Int) := ⟨x.p.toNat, by omega⟩
            have hn13 : n < 13 := by omega
            have hn13' : (n : Int) < 13 := by omega
            have cp := tx_p B1
            rw [en] at cp
            have cs2 := tx_s B1
            have c1 := R6.cell hn13
            have f1 := R6.frozen n
            have HST : Hid (stp s.2 x = s.2.set n x.s) := (show _ = _ by unfold stp; rw [en]; simp)
            have hn1 : 1 ≤ n := by omega
            clear en hp
            have hgr := grown_cell w3 (w.heap.size + 1) n (.int .i64 x.s)
            have hb12 : w.heap.size + 1 ≠ b10 := by omega
            have hneO : ∀ g, u7.ownBlock = some g → g ≠ w.heap.size + 1 := fun g e => by have := (hO.block e).1; omega
            have P6 := R6.set (i := n) x.s
            have P5 := R5.setOther (c := w.heap.size + 1) (i := n) (by omega) (.int .i64 x.s)
            have Pb : Rw (w3.setCell ⟨w.heap.size + 1, n, none⟩ (.int .i64 x.s)) b10 43 (txc x.p x.s x.v x.t s1).toArray := B1.setOther (by omega) n _
            have PO := hO.grown hgr (.inl (.inr rfl)) (fun e => hneO _ e rfl)
            have Pbel : Below w.heap.size w (w3.setCell ⟨w.heap.size + 1, n, none⟩ (.int .i64 x.s)) := hbel.setCell (by show _ ≤ _ + 1; omega) _
            generalize hW3 : w3.setCell ⟨w.heap.size + 1, n, none⟩ (.int .i64 x.s) = w4 at P6 P5 Pb PO Pbel
            have ao4 := ao.later Pbel
            have XO := one_tx x s1 (fun b => u7.ownBlock = some b ∨ ((b = w.heap.size ∨ b = w.heap.size + 1) ∨ off b)) (b := w4.heap.size) rfl ao4 (fun q hq => by
              have hlt4 : q < w4.heap.size := by
                rcases hq with hq | (hq | hq) | hq
                · exact (PO.block hq).2
                · rw [hq]; exact P5.lt
                · rw [hq]; exact P6.lt
                · exact Nat.lt_of_lt_of_le (hoff q hq) Pbel.size
              refine ⟨?_, by omega⟩
              rcases hq with hq | (hq | hq) | hq
              · intro a n' c' e hn'
                have h1 := ao.block e hn'
                have h2 := (PO.block hq).1
                omega
              · intro a n' c' e hn'
                have h1 := ao.block e hn'
                omega
              · intro a n' c' e hn'
                have h1 := ao.block e hn'
                omega
              · exact hof0 q hq)
            have BO := build_one x s1 h1c w4
            have hb5 := bel_alloc (Below.refl w4.heap.size w4) (.cells (txc x.p x.s x.v x.t s1).toArray 43)
            generalize hW4 : w4.alloc (.cells (txc x.p x.s x.v x.t s1).toArray 43) = w5 at XO BO hb5
            have PO5 := PO.later hb5
            have hsz5 : w.heap.size + 2 ≤ w5.heap.size := by have := P6.lt; have := hb5.size; omega
            have hlen5 : ys.length + [(x, s1)].length ≤ 100000 := by
              have : r * 40 ≤ 40 * 40 := Nat.mul_le_mul_right 40 (by omega)
              show ys.length + 1 ≤ _
              omega
            generalize s.2.getD n 0 = y0 at c1
            go_upto_region 12 with (first | rw [hW3])
            have HSU : Hid (dpass l f (k + 1) (dlv l f r) = (s.1 ++ [x], stp s.2 x)) := hsucc
            clear hW3 hgr cp cs2 c1 f1 hsucc
            go_wp2_with (first | refine load_r 43 _ rfl rfl _ rfl Pb Try.underlying43 rfl zt ?_ | refine build_at (v := TxV x.p x.s x.v x.t s1) rfl _ rfl rfl BO ?_ | (at_builtin; refine append_txs rfl _ _ rfl rfl rfl PO5 XO hlen5 hsz5 ?_))
            intro v7 w7 hO7 hg7 hb7
            have P5' := P5.later hb5
            have P6' := P6.later hb5
            have Q5 : At w7 w.heap.size zeros := ⟨rfl, (hg7.block _ P5'.lt (fun e => by have := (PO5.block e.symm).1; omega)).trans P5'.2⟩
            have Q6 : At w7 (w.heap.size + 1) (s.2.set n x.s) := ⟨P6'.1, (hg7.block _ P6'.lt (fun e => by have := (PO5.block e.symm).1; omega)).trans P6'.2⟩
            have Qbel : Below w.heap.size w w7 := (below_on Pbel hb5).grown hg7 (below_on Pbel hb5).size (fun k hk => by have := (PO5.block hk).1; omega)
            clear P5' P6' PO5 PO XO BO hW4
            have hsucc := HSU.out
            go_wp2_with fail
            go_roundw
            case rel => exact ⟨k + 1, ys ++ [(x, s1)], by simp, by omega, by rw [hsucc, List.map_append, hys]; rfl, by rw [List.length_append]; show ys.length + 1 ≤ _; omega, hO7, Q5, by rw [hsucc]; show At w7 (w.heap.size + 1) (stp s.2 x); rw [HST.out]; exact Q6, Qbel⟩
            case measure => simp [intOf]; omega
        · have hklt' : ¬ (k : Int) < (l.length : Int) := by omega
          obtain rfl : k = l.length := by omega
          go_wp2_with fail
          go_roundw
          case rel => exact ⟨r + 1, ys, by simp, by omega, hys, by omega, hO, R5, R6, hbel⟩
          case measure => simp [intOf]; omega
    · have hrlt' : ¬ (r : Int) < (l.length : Int) := by omega
      obtain rfl : r = l.length := by omega
      obtain ⟨s, HSS⟩ := hid_ex (dlv l f l.length)
      rw [HSS.out] at hys R6
      have hv := R6.1
      have zv := info_vals hv
      have HSP : Hid (dlv l f l.length = s) := HSS
      have hx := hO.xat
      go_wp2_with fail
      have hS : wr.rangeAt (w.heap.size + 1) 0 (vals s.2) := R6.range0
      refine Held.region (fun w' => w'.rangeAt (w.heap.size + 1) 0 (vals s.2)) (by kernel_rfl) ?_
      refine Held.pu hS ?_
      refine Held.lm zv (fun _ h => h) Try.underlying23 hS ?_
      refine Held.pu hS ?_
      have hst : (Instr.storeAt 23 (.pointer (some ⟨w.heap.size, 0, none⟩)) (V s.2)).run Try.prog wr.drew = .ok () (wr.drew.setRow w.heap.size (vals s.2).toArray) := At.store (show At wr.drew w.heap.size zeros from R5) hv
      refine Held.ss hst (range_same hS (setRow_other wr.drew w.heap.size _ _ (by omega))) ?_
      refine Held.dn ?_
      go_wp2_with fail
      have hgr := grown_row wr.drew w.heap.size (vals s.2).toArray
      have hRd : Rw (wr.drew.setRow w.heap.size (vals s.2).toArray) w.heap.size 23 (vals s.2).toArray := (At.row (show At wr.drew w.heap.size zeros from R5) hv).2
      have hne : u7.ownBlock ≠ some w.heap.size := fun e => by have := (hO.block e).1; omega
      have hOd := hO.later (Below.refl wr.heap.size wr).drew
      have hbd : Below w.heap.size w wr.drew := below_on hbel (Below.refl _ _).drew
      have hsz2 := hbd.size
      have XF : XAt wr.drew u7 ys (fun b => b = w.heap.size ∨ off b) := ⟨hOd.xat.s, hOd.o, fun b hb => ⟨fun a n c' e hn => ?_, fun y hy => ?_⟩⟩
      · refine bodyPost_ret (results_tr rfl rfl hRd rfl Try.underlying23 (size_v hv)) rfl ⟨u7, ys, ?_, ?_, (XF.grown hgr (fun b e => .inl (by simpa using e.symm))).sub (fun b hb => .inr hb), below_setRow hbd (Nat.le_refl _) _⟩
        · rw [HSP.out]
          rfl
        · rw [HSP.out]
          exact hys
      · have h1 : u7.ownBlock = some a.block := by rw [e]; rfl
        have h2 := (hOd.block h1).1
        rcases hb with hb | hb
        · omega
        · have := hoff b hb
          omega
      · rcases hb with hb | hb
        · exact hOd.f y hy b (.inr (.inl (.inl hb)))
        · exact hOd.f y hy b (.inr (.inr hb))
end Go.Proofs.Ytcebchjokmampaa
/- Apart of the document's answer. -/
namespace Go.Proofs.Ytcebchjokmampaa
open Go.RowKit

/-- No two unlike ones have one dot. -/
def Apt (l : List T) : Prop := ∀ i (hi : i < l.length) k (hk : k < i), sd (l[k]'(by omega)) l[i] = true → l[k]'(by omega) = l[i]
def ApPost (l : List T) (w : World) (e : Ending) (w' : World) : Prop := ∃ b, e = .returned (.bool b) ∧ (b = true → Apt l) ∧ Below w.heap.size w w'
set_option maxHeartbeats 8000000 in
set_option maxRecDepth 100000 in
theorem refApart_any (l : List T) (sv : Value) (w : World) (h : XHas w sv l) : Calls Try.prog 15 #[sv] w (ApPost l w) := by
  obtain ⟨q, c, rfl⟩ := h.slice
  have hml := maxLen_lt h.max
  have H : Hid (XHas w (.slice q l.length c) l) := h
  clear h
  go_enter Try.func15, Try.ntmps15
  go_wp2
  go_loopw [3] (fun vi wr => ∃ i : Nat, vi = .int .i64 i ∧ i ≤ l.length ∧ Hid (∀ j (hj : j < l.length) k (hk : k < j), j < i → sd (l[k]'(by omega)) l[j] = true → l[k]'(by omega) = l[j]) ∧ Below w.heap.size w wr) (fun vi _ => l.length - (intOf vi).toNat)
  case atStart => exact ⟨0, rfl, by omega, (show ∀ j (_ : j < l.length) k (_ : k < j), j < 0 → _ from fun j _ k _ h => by omega), Below.refl _ _⟩
  case round =>
    obtain ⟨i, rfl, hi, HV, hbel⟩ := hrel
    by_cases hilt : i < l.length
    · have hilt' : (i : Int) < (l.length : Int) := by omega
      go_wp2_with fail
      go_loopw [4] (fun vk wr => ∃ k : Nat, vk = .int .i64 k ∧ k ≤ i ∧ Hid (∀ j (hj : j < i), j < k → sd (l[j]'(by omega)) l[i] = true → l[j]'(by omega) = l[i]) ∧ Below w.heap.size w wr) (fun vk _ => i - (intOf vk).toNat)
      case atStart => exact ⟨0, rfl, by omega, (show ∀ j (_ : j < i), j < 0 → _ from fun j _ h => by omega), hbel⟩
      case round =>
        clear hbel
        obtain ⟨k, rfl, hk, HK, hbel⟩ := hrel
        by_cases hklt : k < i
        · have hklt' : (k : Int) < (i : Int) := by omega
          have hkl : (k : Int) < (l.length : Int) := by omega
          obtain ⟨g, o, s1, rfl, d1, a1⟩ := H.out.at k (by omega)
          obtain ⟨g2, o2, s2, e2, d2, a2⟩ := H.out.at i hilt
          obtain ⟨rfl, rfl⟩ : g = g2 ∧ o = o2 := by simpa using e2
          clear e2
          replace d1 := range_later d1 hbel
          replace d2 := range_later d2 hbel
          replace a1 := a1.later hbel
          replace a2 := a2.later hbel
          obtain ⟨x, HX⟩ := hid_ex (l[k]'(by omega))
          obtain ⟨y, HY⟩ := hid_ex l[i]
          rw [HX.out] at d1 a1
          rw [HY.out] at d2 a2
          have E := fun w' => eq_dot w' x.p x.s y.p y.s
          obtain ⟨b, HB⟩ := hid_ex (decide (x.p = y.p) && decide (x.s = y.s))
          simp only [HB.out] at E
          have C := fun (w' : World) (hb : Below wr.heap.size wr w') => same_any x y s1 s2 w' (a1.later hb) (a2.later hb)
          obtain ⟨r, HR⟩ := hid_ex (x.eqb y)
          rw [HR.out] at C
          have z1 := tx_size x s1
          have z2 := tx_size y s2
          have z3 := zd x.p x.s
          have z4 := zd y.p y.s
          have ST : Calm.Stays (fun w' : World => w'.rangeAt g (o + k * 17) (txc x.p x.s x.v x.t s1) ∧ w'.rangeAt g (o + i * 17) (txc y.p y.s y.v y.t s2) ∧ Below wr.heap.size wr w') := fun a b h hb => ⟨range_later h.1 hb, range_later h.2.1 hb, below_on h.2.2 hb⟩
          rcases (show (b = false) ∨ (b = true ∧ r = false) ∨ (b = true ∧ r = true) by cases b <;> cases r <;> simp) with rfl | ⟨rfl, rfl⟩ | ⟨rfl, rfl⟩
          all_goals
            go_wp2_with fail
            refine Calm.region (by kernel_rfl) (by kernel_rfl) (fun w' : World => w'.rangeAt g (o + k * 17) (txc x.p x.s x.v x.t s1) ∧ w'.rangeAt g (o + i * 17) (txc y.p y.s y.v y.t s2) ∧ Below wr.heap.size wr w') ⟨d1, d2, (Below.refl _ _).drew⟩ ?_
            iterate 4 (refine Calm.pu ?_)
            refine Calm.lm z3 (fun _ h => at_dot h.1) Try.underlying40 ?_
            iterate 4 (refine Calm.pu ?_)
            refine Calm.lm z4 (fun _ h => at_dot h.2.1) Try.underlying40 ?_
            iterate 2 (refine Calm.pu ?_)
            iterate 3 (first | refine Calm.sk ?_ | refine Calm.pu ?_)
            first | refine Calm.sk ?_ | refine Calm.lm z1 (fun _ h => h.1) Try.underlying43 ?_
            iterate 3 (first | refine Calm.sk ?_ | refine Calm.pu ?_)
            first | refine Calm.sk ?_ | refine Calm.lm z2 (fun _ h => h.2.1) Try.underlying43 ?_
            first | refine Calm.sk ?_ | refine Calm.k2 ST (fun w' h => C w' h.2.2) ?_
            iterate 2 (first | refine Calm.sk ?_ | refine Calm.pu ?_)
            intro w6 hS6
            have hb6 := hS6.2.2
            clear hS6 ST C z1 z2 z3 z4 d1 d2 a1 a2 E
            go_wp2_with fail
          · go_roundw
            case rel => exact ⟨k + 1, by simp, by omega, (show ∀ j (_ : j < i), j < k + 1 → _ from fun j hj hjk hs => by
              rcases Nat.lt_or_ge j k with h3 | h3
              · exact HK.out j hj h3 hs
              · obtain rfl : j = k := by omega
                rw [HX.out, HY.out, sd, HB.out] at hs
                cases hs), below_on hbel hb6⟩
            case measure => simp [intOf]; omega
          · go_ret
            exact ⟨_, rfl, (fun h => by cases h), below_on hbel hb6⟩
          · go_roundw
            case rel => exact ⟨k + 1, by simp, by omega, (show ∀ j (_ : j < i), j < k + 1 → _ from fun j hj hjk hs => by
              rcases Nat.lt_or_ge j k with h3 | h3
              · exact HK.out j hj h3 hs
              · obtain rfl : j = k := by omega
                rw [HX.out, HY.out]
                exact (T.eqb_iff x y).1 HR.out), below_on hbel hb6⟩
            case measure => simp [intOf]; omega
        · have hklt' : ¬ (k : Int) < (i : Int) := by omega
          go_wp2_with fail
          go_roundw
          case rel => exact ⟨i + 1, by simp, by omega, (show ∀ j (_ : j < l.length) k (_ : k < j), j < i + 1 → _ from fun j hj k' hk' hji hs => by
            rcases Nat.lt_or_ge j i with h3 | h3
            · exact HV.out j hj k' hk' h3 hs
            · obtain rfl : j = i := by omega
              exact HK.out k' hk' (by omega) hs), hbel⟩
          case measure => simp [intOf]; omega
    · have hilt' : ¬ (i : Int) < (l.length : Int) := by omega
      clear H
      go_wp2_with fail
      go_ret
      exact ⟨_, rfl, (fun _ => show Apt l from fun j hj k hk hs => HV.out j hj k hk (by omega) hs), hbel⟩
end Go.Proofs.Ytcebchjokmampaa
/- What StableBelow says. -/
namespace Go.Proofs.Ytcebchjokmampaa
open Go.RowKit

theorem lq_self (a : Vc) : lq a.l a.l = true := (lq_iff a.h a.h).2 fun _ _ => Int.le_refl _
theorem lq_trans {a b c : Vc} (h1 : lq a.l b.l = true) (h2 : lq b.l c.l = true) : lq a.l c.l = true :=
  (lq_iff a.h c.h).2 fun i hi => Int.le_trans ((lq_iff a.h b.h).1 h1 i hi) ((lq_iff b.h c.h).1 h2 i hi)
/-- What is stable is the greatest that is below all of them. -/
theorem ctL_iff (M : List Vc) (self : Int) (c : Vc) : ∀ (live : List Int) (own : Vc), lq c.l (ctL M self own live).l = true ↔ lq c.l own.l = true ∧ ∀ p ∈ live, p ≠ self → lq c.l (M.getD p.toNat z0).l = true
  | [], own => by simp [ctL]
  | p :: live, own => by
    have ih := ctL_iff M self c live (ctS M self own p)
    have e : ctL M self own (p :: live) = ctL M self (ctS M self own p) live := rfl
    rw [e, ih]
    by_cases hp : p = self
    · rw [ctS, if_pos hp]
      simp [hp]
    · rw [ctS, if_neg hp, show (mtV own (M.getD p.toNat z0)).l = mt own.l (M.getD p.toNat z0).l from rfl, bound_m own.h (M.getD p.toNat z0).h c.h, Bool.and_eq_true]
      simp only [List.mem_cons, forall_eq_or_imp]
      constructor
      · rintro ⟨⟨h1, h2⟩, h3⟩
        exact ⟨h1, fun _ => h2, h3⟩
      · rintro ⟨h1, h2, h3⟩
        exact ⟨⟨h1, h2 hp⟩, h3⟩
theorem ctL_own (M : List Vc) (self : Int) (own : Vc) (live : List Int) : lq (ctL M self own live).l own.l = true := ((ctL_iff M self _ live own).1 (lq_self _)).1
theorem ctL_row (M : List Vc) (self : Int) (own : Vc) (live : List Int) {p : Int} (hp : p ∈ live) (hs : p ≠ self) : lq (ctL M self own live).l (M.getD p.toNat z0).l = true := ((ctL_iff M self _ live own).1 (lq_self _)).2 p hp hs
theorem ctL_rises (M : List Vc) (hM : M.length = 13) (self : Int) (own : Vc) (live : List Int) (p : Int) (r v : Vc) (ha : acb M p r v = true) : lq (ctL M self own live).l (ctL (acM M p r v) self own live).l = true := by
  refine (ctL_iff _ self _ live own).2 ⟨ctL_own M self own live, fun x hx hs => ?_⟩
  have h1 := ctL_row M self own live hx hs
  rw [acM, if_pos ha]
  simp only [acb, Bool.and_eq_true] at ha
  have hw := wi_iff.1 ha.1
  by_cases e : x.toNat = p.toNat
  · have : ((M.set p.toNat r).getD x.toNat z0) = r := by
      rw [e, List.getD_eq_getElem?_getD, List.getElem?_set_self (by omega)]
      rfl
    rw [this]
    rw [e] at h1
    exact lq_trans h1 ha.2.2.2
  · have : ((M.set p.toNat r).getD x.toNat z0) = M.getD x.toNat z0 := by
      rw [List.getD_eq_getElem?_getD, List.getElem?_set_ne (Ne.symm e), ← List.getD_eq_getElem?_getD]
    rw [this]
    exact h1
set_option maxHeartbeats 8000000 in
set_option maxRecDepth 100000 in
theorem below_law (K : Prs) (M : List Vc) (hM : M.length = 13) (self : Int) (own : Vc) (live : List Int) (sv : Value) (p : Int) (r : Vc) (w : World) (h : IHas w sv live) : Calls Try.prog 5 #[RV M, .int .i64 self, V own.l, sv, .int .i64 p, V r.l] w (Tells (.bool true) w) := by
  obtain ⟨q, c, rfl⟩ := SHas.slice h
  have hml := maxLen_lt h.1
  obtain ⟨R1, R2, R3, hbel⟩ := three_rows w (rows Vc.cells M).toArray 24 (vals own.l).toArray 23 (vals r.l).toArray 23
  generalize hW : ((w.alloc (.cells (rows Vc.cells M).toArray 24)).alloc (.cells (vals own.l).toArray 23)).alloc (.cells (vals r.l).toArray 23) = w0 at R1 R2 R3 hbel
  have hzM := size_r hM
  have zr := size_v r.h
  have zv := size_v own.h
  have ZV := zv24
  have ZN := zc24_ne
  go_enter Try.func5, Try.ntmps5
  go_upto_region 1 with (rw [hW])
  clear hW
  by_cases h40 : live.length ≤ 40
  case neg =>
    have h40' : (40 : Int) < (live.length : Int) := by omega
    go_wp2_with fail
    refine (K.heads _).mono ?_
    rintro e w2 ⟨rfl, hb2⟩
    go_wp2_with fail
    go_ret
    exact ⟨rfl, below_on hbel hb2⟩
  have h40' : ¬ (40 : Int) < (live.length : Int) := by omega
  obtain ⟨y, HY⟩ := hid_ex (cutV M self own live)
  have C1 := fun (w' : World) (hb : Below w.heap.size w w') => K.cut M self own live (.slice q live.length c) w' hM (SHas.later h hb)
  rw [HY.out] at C1
  go_wp2_with (first | refine load_r 24 _ rfl rfl _ rfl R1 Try.underlying24 rfl hzM ?_ | refine load_r 23 _ rfl rfl _ rfl R2 Try.underlying23 rfl zv ?_)
  refine (C1 _ hbel).mono ?_
  rintro e w1 ⟨rfl, hb1⟩
  replace R1 := R1.later hb1
  replace R2 := R2.later hb1
  replace R3 := R3.later hb1
  replace hbel := below_on hbel hb1
  have A13 : At (w1.alloc (.cells #[.int .i64 0, .int .i64 0, .int .i64 0, .int .i64 0, .int .i64 0, .int .i64 0, .int .i64 0, .int .i64 0, .int .i64 0, .int .i64 0, .int .i64 0, .int .i64 0, .int .i64 0] 23)) w1.heap.size zeros := at_new w1 zeros rfl
  have hbA := bel_alloc (Below.refl w1.heap.size w1) (.cells #[.int .i64 0, .int .i64 0, .int .i64 0, .int .i64 0, .int .i64 0, .int .i64 0, .int .i64 0, .int .i64 0, .int .i64 0, .int .i64 0, .int .i64 0, .int .i64 0, .int .i64 0] 23)
  generalize hW1 : w1.alloc (.cells #[.int .i64 0, .int .i64 0, .int .i64 0, .int .i64 0, .int .i64 0, .int .i64 0, .int .i64 0, .int .i64 0, .int .i64 0, .int .i64 0, .int .i64 0, .int .i64 0, .int .i64 0] 23) = w2 at A13 hbA
  have Q2 := A13.row (l := y.l) y.h
  have hb2 := below_setRow hbA (Nat.le_refl _) (vals y.l).toArray
  generalize hW2 : w2.setRow w1.heap.size (vals y.l).toArray = w3 at Q2 hb2
  replace R1 := R1.later hb2
  replace R2 := R2.later hb2
  replace R3 := R3.later hb2
  replace hbel := below_on hbel hb2
  have hyh := y.h
  obtain ⟨b, HB⟩ := hid_ex (y.l == zeros)
  have E : ∀ w', (Op.equalIn 10000 23 (V y.l) (.agg #[.int .i64 0, .int .i64 0, .int .i64 0, .int .i64 0, .int .i64 0, .int .i64 0, .int .i64 0, .int .i64 0, .int .i64 0, .int .i64 0, .int .i64 0, .int .i64 0, .int .i64 0])).run Try.prog w' = .ok b w' := fun w' => by rw [← HB.out]; exact eq_arrays w' y.l zeros y.h rfl
  cases b
  case true =>
    go_wp2_with (first | rw [hW1] | (refine store_at rfl _ _ rfl w1.heap.size y.l rfl rfl A13 hyh ?_; rw [hW2]) | refine load_at rfl _ rfl _ rfl Q2 ?_)
    refine (K.heads _).mono ?_
    rintro e w4 ⟨rfl, hb4⟩
    go_wp2_with fail
    go_ret
    exact ⟨rfl, below_on hbel hb4⟩
  have hcb : ctB self live = true := by
    cases e : ctB self live with
    | true => rfl
    | false =>
      have h1 : y = z0 := by rw [← HY.out, cutV, if_neg (by simp [e])]
      have := HB.out
      rw [h1] at this
      simp [z0] at this
  have hy : y = ctL M self own live := by rw [← HY.out, cutV, if_pos hcb]
  have HCI : Hid (ckI live = true) := by
    simp only [ctB, Bool.and_eq_true] at hcb
    exact hcb.1
  have HLE : Hid (lq y.l own.l = true) := by rw [hy]; exact ctL_own M self own live
  have HRO : Hid (∀ x ∈ live, x ≠ self → lq y.l (M.getD x.toNat z0).l = true) := by
    rw [hy]
    exact fun x hx hs => ctL_row M self own live hx hs
  have HRI : Hid (acb M p r own = true → lq y.l (cutV (acM M p r own) self own live).l = true) := fun ha => by
    rw [cutV, if_pos hcb, hy]
    exact ctL_rises M hM self own live p r own ha
  clear hcb hy HY HB
  go_wp2_with (first | rw [hW1] | (refine store_at rfl _ _ rfl w1.heap.size y.l rfl rfl A13 hyh ?_; rw [hW2]) | refine load_at rfl _ rfl _ rfl Q2 ?_)
  generalize w1.heap.size = b13 at Q2 ⊢
  clear hW1 hW2 A13 hbA hb1 hb2 C1 E
  go_loopw [14] (fun vi wr => ∃ k : Nat, vi = .int .i64 k ∧ k ≤ live.length ∧ Rw wr w.heap.size 24 (rows Vc.cells M).toArray ∧ Rw wr (w.heap.size + 1) 23 (vals own.l).toArray ∧ Rw wr (w.heap.size + 1 + 1) 23 (vals r.l).toArray ∧ At wr b13 y.l ∧ Below w.heap.size w wr) (fun vi _ => live.length - (intOf vi).toNat)
  case atStart => exact ⟨0, rfl, by omega, R1, R2, R3, Q2, hbel⟩
  case round =>
    clear R1 R2 R3 Q2 hbel
    obtain ⟨k, rfl, hk, R1, R2, R3, Q2, hbel⟩ := hrel
    by_cases hlt : k < live.length
    · have hlt' : (k : Int) < (live.length : Int) := by omega
      obtain ⟨g, o, rfl, hd0⟩ := IHas.at h k hlt
      have c1 := cell_later hbel (hd0 k hlt)
      have hw := ((ckI_iff live).1 HCI.out).1 k hlt
      have hro := HRO.out live[k] (List.getElem_mem _)
      obtain ⟨x, HX⟩ := hid_ex live[k]
      rw [HX.out] at c1 hw hro
      obtain ⟨hx1, hx2⟩ := wi_iff.1 hw
      obtain ⟨n, rfl⟩ : ∃ n : Nat, x = (n : Int) := ⟨x.toNat, by omega⟩
      have hn : n < M.length := by omega
      have hn' : (n : Int) < 13 := by omega
      clear hd0 hw
      by_cases hs : (n : Int) = self
      · have ST : Calm.Stays (fun w' : World => w'.cell? ⟨g, o + k, none⟩ = some (.int .i64 n) ∧ Below wr.heap.size wr w') := fun a b h hb => ⟨cell_later hb h.1, below_on h.2 hb⟩
        subst hs
        go_wp2_with fail
        refine Calm.region (by kernel_rfl) (by kernel_rfl) (fun w' : World => w'.cell? ⟨g, o + k, none⟩ = some (.int .i64 n) ∧ Below wr.heap.size wr w') ⟨c1, (Below.refl _ _).drew⟩ ?_
        iterate 3 (refine Calm.pu ?_)
        refine Calm.ce (fun _ h => h.1) ?_
        iterate 3 (refine Calm.pu ?_)
        iterate 9 (refine Calm.sk ?_)
        refine Calm.pu ?_
        intro w4 hS4
        have hb4 := hS4.2
        go_wp2_with fail
        go_roundw
        case rel => exact ⟨k + 1, by simp, by omega, R1.later hb4, R2.later hb4, R3.later hb4, Q2.later hb4, below_on hbel hb4⟩
        case measure => simp [intOf]; omega
      · have dn := row_at R1 n hn
        have eg : M.getD (n : Int).toNat z0 = M[n] := by simp [List.getD_eq_getElem?_getD, List.getElem?_eq_getElem hn]
        have hro2 := hro hs
        rw [eg] at hro2
        clear hro
        have C := fun w' => refLeq_any y.l M[n].l w' y.h M[n].h
        rw [hro2] at C
        have z1 := info_vals y.h
        have z2 := info_vals M[n].h
        have ST : Calm.Stays (fun w' : World => w'.cell? ⟨g, o + k, none⟩ = some (.int .i64 n) ∧ w'.rangeAt w.heap.size (n * 13) (vals M[n].l) ∧ w'.rangeAt b13 0 (vals y.l) ∧ Below wr.heap.size wr w') := fun a b h hb => ⟨cell_later hb h.1, range_later h.2.1 hb, range_later h.2.2.1 hb, below_on h.2.2.2 hb⟩
        go_wp2_with fail
        have gb : ((n : Int) != self) = true := bne_iff_ne.2 hs
        refine Calm.region (by kernel_rfl) (by kernel_rfl) (fun w' : World => w'.cell? ⟨g, o + k, none⟩ = some (.int .i64 n) ∧ w'.rangeAt w.heap.size (n * 13) (vals M[n].l) ∧ w'.rangeAt b13 0 (vals y.l) ∧ Below wr.heap.size wr w') ⟨c1, dn, Q2.range0, (Below.refl _ _).drew⟩ ?_
        iterate 3 (refine Calm.pu ?_)
        refine Calm.ce (fun _ h => h.1) ?_
        iterate 3 (refine Calm.pu ?_)
        refine Calm.lm z1 (fun _ h => h.2.2.1) Try.underlying23 ?_
        iterate 3 (refine Calm.pu ?_)
        refine Calm.ce (fun _ h => h.1) ?_
        refine Calm.pu ?_
        refine Calm.lm z2 (fun _ h => h.2.1) Try.underlying23 ?_
        refine Calm.k2 ST (fun w' _ => C w') ?_
        iterate 2 (refine Calm.pu ?_)
        intro w4 hS4
        have hb4 := hS4.2.2.2
        go_wp2_with fail
        go_roundw
        case rel => exact ⟨k + 1, by simp, by omega, R1.later hb4, R2.later hb4, R3.later hb4, Q2.later hb4, below_on hbel hb4⟩
        case measure => simp [intOf]; omega
    · have hlt' : ¬ (k : Int) < (live.length : Int) := by omega
      obtain ⟨A, HA⟩ := hid_ex (acM M p r own)
      obtain ⟨z, HZ⟩ := hid_ex (acb M p r own)
      have hA : A.length = 13 := by rw [← HA.out]; exact acM_len hM p r own
      have hzA := size_r hA
      have hsz : (rows Vc.cells (List.replicate 13 z0)).toArray.size = (rows Vc.cells A).toArray.size := by rw [List.size_toArray, List.size_toArray, rows_size hA, rows_size (by simp)]
      have ho := rows_one13 A
      have C1 := fun w' => K.accept M p r own w' hM
      rw [HA.out, HZ.out] at C1
      go_wp2_with (first | refine load_r 24 _ rfl rfl _ rfl R1 Try.underlying24 rfl hzM ?_ | refine load_r 23 _ rfl rfl _ rfl R2 Try.underlying23 rfl zv ?_ | refine load_r 23 _ rfl rfl _ rfl R3 Try.underlying23 rfl zr ?_)
      refine (C1 _).mono ?_
      rintro e w4 ⟨rfl, hb1⟩
      replace R2 := R2.later hb1
      replace Q2 := Q2.later hb1
      replace hbel := below_on hbel hb1
      have Q1 := rw_new w4 24 zc24
      have hbA := bel_alloc (Below.refl w4.heap.size w4) (.cells zc24 24)
      generalize hW1 : w4.alloc (.cells zc24 24) = w5 at Q1 hbA
      rw [zero_rows] at Q1
      have Q3 := Q1.row (rows Vc.cells A).toArray
      have hb2 := below_setRow hbA (Nat.le_refl _) (rows Vc.cells A).toArray
      generalize hW2 : w5.setRow w4.heap.size (rows Vc.cells A).toArray = w6 at Q3 hb2
      replace R2 := R2.later hb2
      replace Q2 := Q2.later hb2
      replace hbel := below_on hbel hb2
      go_wp2_with (first | rw [hW1] | (refine store_r rfl 24 _ _ rfl w4.heap.size _ rfl rfl Q1 hzA hsz ho ?_; rw [hW2]))
      generalize w4.heap.size = b15 at Q3 ⊢
      clear hW1 hW2 Q1 hbA hb1 hb2 C1 R1 R3
      obtain ⟨y2, HY2⟩ := hid_ex (cutV A self own live)
      have hri := HRI.out
      rw [HA.out, HY2.out, HZ.out] at hri
      have hI := SHas.later h hbel
      have C3 := fun (w' : World) (hb : Below w6.heap.size w6 w') => K.cut A self own live (.slice q live.length c) w' hA (SHas.later hI hb)
      rw [HY2.out] at C3
      have C4 := fun w' => refLeq_any y.l own.l w' y.h own.h
      rw [HLE.out] at C4
      have C5 := fun w' => refLeq_any y.l y2.l w' y.h y2.h
      have iA := info_rows hA
      have iv := info_vals own.h
      have iy := info_vals y.h
      have ST : Calm.Stays (fun w' : World => w'.rangeAt b13 0 (vals y.l) ∧ w'.rangeAt (w.heap.size + 1) 0 (vals own.l) ∧ w'.rangeAt b15 0 (rows Vc.cells A) ∧ Below w6.heap.size w6 w') := fun a b h hb => ⟨range_later h.1 hb, range_later h.2.1 hb, range_later h.2.2.1 hb, below_on h.2.2.2 hb⟩
      cases z
      · refine Calm.region (by kernel_rfl) (by kernel_rfl) (fun w' : World => w'.rangeAt b13 0 (vals y.l) ∧ w'.rangeAt (w.heap.size + 1) 0 (vals own.l) ∧ w'.rangeAt b15 0 (rows Vc.cells A) ∧ Below w6.heap.size w6 w') ⟨Q2.range0, range_of R2, range_r Q3, (Below.refl _ _).drew⟩ ?_
        refine Calm.lm iy (fun _ h => h.1) Try.underlying23 ?_
        refine Calm.lm iv (fun _ h => h.2.1) Try.underlying23 ?_
        refine Calm.k2 ST (fun w' _ => C4 w') ?_
        iterate 4 (refine Calm.pu ?_)
        iterate 7 (refine Calm.sk ?_)
        iterate 3 (refine Calm.pu ?_)
        refine Calm.k0 ST (fun w' _ => K.heads w') ?_
        iterate 2 (refine Calm.pu ?_)
        intro w7 hS7
        go_wp2_with fail
        go_ret
        exact ⟨rfl, below_on hbel hS7.2.2.2⟩
      · rw [hri rfl] at C5
        refine Calm.region (by kernel_rfl) (by kernel_rfl) (fun w' : World => w'.rangeAt b13 0 (vals y.l) ∧ w'.rangeAt (w.heap.size + 1) 0 (vals own.l) ∧ w'.rangeAt b15 0 (rows Vc.cells A) ∧ Below w6.heap.size w6 w') ⟨Q2.range0, range_of R2, range_r Q3, (Below.refl _ _).drew⟩ ?_
        refine Calm.lm iy (fun _ h => h.1) Try.underlying23 ?_
        refine Calm.lm iv (fun _ h => h.2.1) Try.underlying23 ?_
        refine Calm.k2 ST (fun w' _ => C4 w') ?_
        iterate 4 (refine Calm.pu ?_)
        refine Calm.lm iy (fun _ h => h.1) Try.underlying23 ?_
        refine Calm.lm iA (fun _ h => h.2.2.1) Try.underlying24 ?_
        refine Calm.pu ?_
        refine Calm.lm iv (fun _ h => h.2.1) Try.underlying23 ?_
        refine Calm.pu ?_
        refine Calm.k4 ST (fun w' h => C3 w' h.2.2.2) ?_
        refine Calm.k2 ST (fun w' _ => C5 w') ?_
        iterate 3 (refine Calm.pu ?_)
        refine Calm.k0 ST (fun w' _ => K.heads w') ?_
        iterate 2 (refine Calm.pu ?_)
        intro w7 hS7
        go_wp2_with fail
        go_ret
        exact ⟨rfl, below_on hbel hS7.2.2.2⟩
end Go.Proofs.Ytcebchjokmampaa
