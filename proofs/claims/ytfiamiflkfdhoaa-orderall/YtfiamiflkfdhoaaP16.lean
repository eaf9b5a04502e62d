import Derived.Test.YtfiamiflkfdhoaaP11
import Derived.Test.YtfiamiflkfdhoaaP15
import Derived.Test.YtfiamiflkfdhoaaP6
import Derived.Test.YtfiamiflkfdhoaaP13
/- The functions waits and place, and those of package slices that they call. -/
namespace Go.Proofs.Ytfiamiflkfdhoaa
open Go.RowKit

set_option maxHeartbeats 1000000 in
set_option maxRecDepth 100000 in
theorem waits1_any (x : T) (sl : Value) (p s : Int) (b : Nat) (w : World) (R : Rw w b 31 #[.int .i64 p, .int .i64 s]) (_ho : sl.oneCell' = true) : Calls Try.prog 37 #[TxV x.p x.s x.v x.t sl, .pointer (some ⟨b, 0, none⟩)] w (Tells (.bool (decide (x.p = p) && decide (x.s = s))) w) := by
  have hbel := bel_alloc (Below.refl w.heap.size w) (.cells (txc x.p x.s x.v x.t sl).toArray 34)
  have R0 := rw_new w 34 (txc x.p x.s x.v x.t sl).toArray
  have R1 := R.later hbel
  have rd := R0.range 0 [.int .i64 x.p, .int .i64 x.s] (fun j v h => by
    match j, h with
    | 0, h => simpa [txc] using h
    | 1, h => simpa [txc] using h)
  have r1 := R1.range 0 [.int .i64 p, .int .i64 s] (fun j v h => by simpa using h)
  generalize hW : w.alloc (.cells (txc x.p x.s x.v x.t sl).toArray 34) = w0 at hbel R0 R1 rd r1
  go_enter Try.func37, Try.ntmps37
  go_upto_region 1 with fail
  try rw [hW]
  go_wp2_with (first | refine load_dm _ rfl rfl _ _ rfl rd ?_ | refine load_dm _ rfl rfl _ _ rfl r1 ?_)
  all_goals
    go_ret
    refine ⟨?_, hbel⟩
    simp_all
set_option maxHeartbeats 1000000 in
set_option maxRecDepth 100000 in
theorem place1_any (x : T) (sl : Value) (p s : Int) (b : Nat) (w : World) (R : Rw w b 31 #[.int .i64 p, .int .i64 s]) (_ho : sl.oneCell' = true) : Calls Try.prog 42 #[TxV x.p x.s x.v x.t sl, .pointer (some ⟨b, 0, none⟩)] w (Tells (.bool (ls p s 0 x.p x.s 0)) w) := by
  have hbel := bel_alloc (Below.refl w.heap.size w) (.cells (txc x.p x.s x.v x.t sl).toArray 34)
  have R0 := rw_new w 34 (txc x.p x.s x.v x.t sl).toArray
  have R1 := R.later hbel
  have rd := R0.range 0 [.int .i64 x.p, .int .i64 x.s] (fun j v h => by
    match j, h with
    | 0, h => simpa [txc] using h
    | 1, h => simpa [txc] using h)
  have r1 := R1.range 0 [.int .i64 p, .int .i64 s] (fun j v h => by simpa using h)
  generalize hW : w.alloc (.cells (txc x.p x.s x.v x.t sl).toArray 34) = w0 at hbel R0 R1 rd r1
  go_enter Try.func42, Try.ntmps42
  go_upto_region 1 with fail
  try rw [hW]
  go_wp2_with (first | refine load_dm _ rfl rfl _ _ rfl rd ?_ | refine load_dm _ rfl rfl _ _ rfl r1 ?_)
  refine (less_any p s 0 x.p x.s 0 w0).mono ?_
  rintro e w1 ⟨rfl, hb1⟩
  go_wp2_with fail
  go_ret
  exact ⟨rfl, below_on hbel hb1⟩
/-- What IndexFunc answers. -/
def IxPost (l : List T) (f : T → Bool) (w : World) (e : Ending) (w' : World) : Prop :=
  (e = .returned (.int .i64 (-1)) ∧ (∀ y ∈ l, f y = false) ∧ Below w.heap.size w w') ∨ ∃ k : Nat, ∃ h : k < l.length, e = .returned (.int .i64 k) ∧ f l[k] = true ∧ (∀ j (hj : j < l.length), j < k → f l[j] = false) ∧ Below w.heap.size w w'
set_option maxHeartbeats 2000000 in
set_option maxRecDepth 100000 in
theorem index37_any (v0 : Value) (l : List T) (f : T → Bool) (b : Nat) (w : World) (h : XHas w v0 l) (hl : l.length ≤ 100) (C : ∀ (y : T) (sl : Value) (w' : World), Below w.heap.size w w' → sl.oneCell' = true → Calls Try.prog 37 #[TxV y.p y.s y.v y.t sl, .pointer (some ⟨b, 0, none⟩)] w' (Tells (.bool (f y)) w')) :
    Calls Try.prog 41 #[v0, .func (.func 37) #[] #[.pointer (some ⟨b, 0, none⟩)]] w (IxPost l f w) := by
  obtain ⟨pa, ca', rfl⟩ := h.slice
  have HA : Hid (XHas w (.slice pa l.length ca') l) := h
  clear h
  go_enter Try.func41, Try.ntmps41
  go_wp2_with fail
  go_loopw [8] (fun vi wr => ∃ k : Nat, vi = .int .i64 k ∧ k ≤ l.length ∧ Hid (∀ j (hj : j < l.length), j < k → f l[j] = false) ∧ Below w.heap.size w wr) (fun vi _ => l.length - (intOf vi).toNat)
  case atStart => exact ⟨0, rfl, by omega, (show ∀ j (_ : j < l.length), j < 0 → _ from fun j _ h => by omega), Below.refl _ _⟩
  case round =>
    obtain ⟨k, rfl, hk, HV, hbel⟩ := hrel
    by_cases hlt : k < l.length
    · have hlt' : (k : Int) < (l.length : Int) := by omega
      obtain ⟨g, o, s1, rfl, d0, a0⟩ := HA.out.at k hlt
      have d := range_later d0 hbel
      have h1 := a0.one
      clear d0 HA a0
      obtain ⟨x, HX⟩ := hid_ex l[k]
      rw [HX.out] at d
      have zm := tx_size x s1
      have Cx := C x s1 _ hbel h1
      obtain ⟨y, HY⟩ := hid_ex (f x)
      rw [HY.out] at Cx
      have HF : Hid (f l[k] = y) := by show _ = _; rw [HX.out, HY.out]
      clear C HX HY
      go_wp2_with (refine load_m 34 _ rfl rfl _ _ rfl d Try.underlying34 rfl zm ?_)
      refine Cx.mono ?_
      clear Cx
      rintro e w1 ⟨rfl, hb1⟩
      replace hbel := below_on hbel hb1
      cases y
      · go_wp2_with fail
        go_roundw
        case rel =>
          refine ⟨k + 1, by simp, by omega, (show ∀ j (hj : j < l.length), j < k + 1 → f l[j] = false from fun j hj hjk => ?_), hbel⟩
          rcases Nat.lt_or_ge j k with h' | h'
          · exact HV.out j hj h'
          · obtain rfl : j = k := by omega
            exact HF.out
        case measure => simp [intOf]; omega
      · go_wp2_with fail
        go_ret
        exact .inr ⟨k, hlt, rfl, HF.out, HV.out, hbel⟩
    · have hlt' : ¬ (k : Int) < (l.length : Int) := by omega
      clear HA C
      go_wp2_with fail
      go_ret
      refine .inl ⟨rfl, fun y hy => ?_, hbel⟩
      obtain ⟨j, hj, rfl⟩ := List.getElem_of_mem hy
      exact HV.out j hj (by omega)
set_option maxHeartbeats 2000000 in
set_option maxRecDepth 100000 in
theorem index42_any (v0 : Value) (l : List T) (f : T → Bool) (b : Nat) (w : World) (h : XHas w v0 l) (hl : l.length ≤ 100) (C : ∀ (y : T) (sl : Value) (w' : World), Below w.heap.size w w' → sl.oneCell' = true → Calls Try.prog 42 #[TxV y.p y.s y.v y.t sl, .pointer (some ⟨b, 0, none⟩)] w' (Tells (.bool (f y)) w')) :
    Calls Try.prog 41 #[v0, .func (.func 42) #[] #[.pointer (some ⟨b, 0, none⟩)]] w (IxPost l f w) := by
  obtain ⟨pa, ca', rfl⟩ := h.slice
  have HA : Hid (XHas w (.slice pa l.length ca') l) := h
  clear h
  go_enter Try.func41, Try.ntmps41
  go_wp2_with fail
  go_loopw [8] (fun vi wr => ∃ k : Nat, vi = .int .i64 k ∧ k ≤ l.length ∧ Hid (∀ j (hj : j < l.length), j < k → f l[j] = false) ∧ Below w.heap.size w wr) (fun vi _ => l.length - (intOf vi).toNat)
  case atStart => exact ⟨0, rfl, by omega, (show ∀ j (_ : j < l.length), j < 0 → _ from fun j _ h => by omega), Below.refl _ _⟩
  case round =>
    obtain ⟨k, rfl, hk, HV, hbel⟩ := hrel
    by_cases hlt : k < l.length
    · have hlt' : (k : Int) < (l.length : Int) := by omega
      obtain ⟨g, o, s1, rfl, d0, a0⟩ := HA.out.at k hlt
      have d := range_later d0 hbel
      have h1 := a0.one
      clear d0 HA a0
      obtain ⟨x, HX⟩ := hid_ex l[k]
      rw [HX.out] at d
      have zm := tx_size x s1
      have Cx := C x s1 _ hbel h1
      obtain ⟨y, HY⟩ := hid_ex (f x)
      rw [HY.out] at Cx
      have HF : Hid (f l[k] = y) := by show _ = _; rw [HX.out, HY.out]
      clear C HX HY
      go_wp2_with (refine load_m 34 _ rfl rfl _ _ rfl d Try.underlying34 rfl zm ?_)
      refine Cx.mono ?_
      clear Cx
      rintro e w1 ⟨rfl, hb1⟩
      replace hbel := below_on hbel hb1
      cases y
      · go_wp2_with fail
        go_roundw
        case rel =>
          refine ⟨k + 1, by simp, by omega, (show ∀ j (hj : j < l.length), j < k + 1 → f l[j] = false from fun j hj hjk => ?_), hbel⟩
          rcases Nat.lt_or_ge j k with h' | h'
          · exact HV.out j hj h'
          · obtain rfl : j = k := by omega
            exact HF.out
        case measure => simp [intOf]; omega
      · go_wp2_with fail
        go_ret
        exact .inr ⟨k, hlt, rfl, HF.out, HV.out, hbel⟩
    · have hlt' : ¬ (k : Int) < (l.length : Int) := by omega
      clear HA C
      go_wp2_with fail
      go_ret
      refine .inl ⟨rfl, fun y hy => ?_, hbel⟩
      obtain ⟨j, hj, rfl⟩ := List.getElem_of_mem hy
      exact HV.out j hj (by omega)
set_option maxHeartbeats 1000000 in
set_option maxRecDepth 100000 in
theorem contains_any (v0 : Value) (l : List T) (f : T → Bool) (b : Nat) (w : World) (h : XHas w v0 l) (hl : l.length ≤ 100) (C : ∀ (y : T) (sl : Value) (w' : World), Below w.heap.size w w' → sl.oneCell' = true → Calls Try.prog 37 #[TxV y.p y.s y.v y.t sl, .pointer (some ⟨b, 0, none⟩)] w' (Tells (.bool (f y)) w')) :
    Calls Try.prog 36 #[v0, .func (.func 37) #[] #[.pointer (some ⟨b, 0, none⟩)]] w (Tells (.bool (l.any f)) w) := by
  have C1 := index37_any v0 l f b w h hl C
  obtain ⟨pa, ca', rfl⟩ := h.slice
  clear C h
  go_enter Try.func36, Try.ntmps36
  go_wp2_with fail
  refine C1.mono ?_
  clear C1
  rintro e w1 (⟨rfl, hf, hb⟩ | ⟨k, hk, rfl, hf, hv, hb⟩)
  · have e1 : l.any f = false := by
      rw [List.any_eq_false]
      intro x hx
      rw [hf x hx]
      simp
    go_wp2_with fail
    go_ret
    exact ⟨by rw [e1]; rfl, hb⟩
  · have e1 : l.any f = true := List.any_eq_true.2 ⟨_, List.getElem_mem hk, hf⟩
    have hk0 : (0 : Int) ≤ (k : Int) := by omega
    go_wp2_with fail
    go_ret
    exact ⟨by rw [e1]; simp, hb⟩
set_option maxHeartbeats 1000000 in
set_option maxRecDepth 100000 in
theorem waits_any (v0 : Value) (l : List T) (p s : Int) (w : World) (h : XHas w v0 l) (hl : l.length ≤ 100) : Calls Try.prog 20 #[v0, D p s] w (Tells (.bool (l.any fun x => decide (x.p = p) && decide (x.s = s))) w) := by
  have hbel := bel_alloc (Below.refl w.heap.size w) (.cells #[.int .i64 p, .int .i64 s] 31)
  have R0 := rw_new w 31 #[.int .i64 p, .int .i64 s]
  generalize hW : w.alloc (.cells #[.int .i64 p, .int .i64 s] 31) = w0 at hbel R0
  have C1 := contains_any v0 l (fun x => decide (x.p = p) && decide (x.s = s)) w.heap.size w0 (h.later hbel) hl (fun y sl w' hb ho => waits1_any y sl p s _ w' (R0.later hb) ho)
  obtain ⟨pa, ca', rfl⟩ := h.slice
  generalize (l.any fun x => decide (x.p = p) && decide (x.s = s)) = z at C1 ⊢
  clear h
  go_enter Try.func20, Try.ntmps20
  go_upto_region 1 with fail
  try rw [hW]
  go_wp2_with fail
  refine C1.mono ?_
  rintro e w1 ⟨rfl, hb1⟩
  go_wp2_with fail
  go_ret
  exact ⟨rfl, below_on hbel hb1⟩
set_option maxHeartbeats 1000000 in
set_option maxRecDepth 100000 in
theorem place_any (v0 : Value) (l : List T) (p s : Int) (w : World) (h : XHas w v0 l) (hl : l.length ≤ 100) : Calls Try.prog 23 #[v0, D p s] w (Tells (.int .i64 (l.findIdx fun x => ls p s 0 x.p x.s 0)) w) := by
  have hbel := bel_alloc (Below.refl w.heap.size w) (.cells #[.int .i64 p, .int .i64 s] 31)
  have R0 := rw_new w 31 #[.int .i64 p, .int .i64 s]
  generalize hW : w.alloc (.cells #[.int .i64 p, .int .i64 s] 31) = w0 at hbel R0
  have C1 := index42_any v0 l (fun x => ls p s 0 x.p x.s 0) w.heap.size w0 (h.later hbel) hl (fun y sl w' hb ho => place1_any y sl p s _ w' (R0.later hb) ho)
  obtain ⟨pa, ca', rfl⟩ := h.slice
  clear h
  obtain ⟨f, HF⟩ := hid_ex (fun x : T => ls p s 0 x.p x.s 0)
  rw [HF.out] at C1 ⊢
  go_enter Try.func23, Try.ntmps23
  go_upto_region 1 with fail
  try rw [hW]
  go_upto_region 2 with fail
  refine C1.mono ?_
  clear C1
  rintro e w1 (⟨rfl, hf, hb⟩ | ⟨k, hk, rfl, hf, hv, hb⟩)
  · have e1 : l.findIdx f = l.length := List.findIdx_eq_length.2 fun x hx => hf x hx
    go_wp2_with fail
    go_ret
    exact ⟨by rw [e1]; rfl, below_on hbel hb⟩
  · have e1 : l.findIdx f = k := (List.findIdx_eq hk).2 ⟨hf, fun j hj => hv j (by omega) hj⟩
    have hk0 : ¬ (k : Int) < 0 := by omega
    go_wp2_with fail
    go_ret
    exact ⟨by rw [e1]; rfl, below_on hbel hb⟩
end Go.Proofs.Ytfiamiflkfdhoaa
/- Clone of transactions. -/
namespace Go.Proofs.Ytfiamiflkfdhoaa
open Go.RowKit

set_option maxHeartbeats 1000000 in
set_option maxRecDepth 100000 in
theorem cloneTxs_any (v : Value) (ys : List (T × Value)) (w : World) (h : SHas 17 w v ys.length (rows T.cells ys)) (h1 : ∀ u ∈ rows T.cells ys, u.oneCell' = true) (hn : ys.length ≤ 1000) : Calls Try.prog 40 #[v] w fun e w' => ∃ u, e = .returned u ∧ w'.ownsRow w.heap.size 34 17 u ys.length (rows T.cells ys) ∧ Below w.heap.size w w' := by
  obtain ⟨i0, hi, hz0, hz1, hz2⟩ := info_parts info34
  have HL : Hid ((rows T.cells ys).length = ys.length * 17) := rows_length T.len ys
  obtain ⟨cs, HCS⟩ := hid_ex (rows T.cells ys)
  rw [HCS.out] at h h1 HL ⊢
  obtain ⟨n, HN⟩ := hid_ex ys.length
  rw [HN.out] at h HL hn ⊢
  clear HCS HN
  obtain ⟨q, c, rfl⟩ := h.slice
  cases q with
  | none =>
    have hl0 : n = 0 := by
      rcases Nat.eq_zero_or_pos n with h0 | h0
      · exact h0
      · obtain ⟨g, o, e, _⟩ := h.at h0
        cases e
    subst hl0
    obtain rfl : cs = [] := List.eq_nil_of_length_eq_zero (by rw [HL.out])
    have E := fun w => eql_nil w 22 _ none 0 c Try.underlying22
    simp only [Option.isNone_none] at E
    go_enter Try.func40, Try.ntmps40
    go_wp2
    go_ret
    exact ⟨_, rfl, World.ownsRow_nil _ _ _ _, Below.refl _ _⟩
  | some ad =>
    have HD : Hid (∀ (j : Nat) (u : Value), cs[j]? = some u → w.cell? (ad.add j) = some u) := fun j u hu => by
      have h0 : 0 < n := by
        have := (List.getElem?_eq_some_iff.1 hu).1
        rw [HL.out] at this
        omega
      obtain ⟨g, o, e, hc⟩ := h.at h0
      simp only [Option.some.injEq] at e
      rw [e, Addr.add_mid]
      exact hc j u hu
    have hown : (w.alloc (.cells #[] 34)).ownsRow w.heap.size 34 17 (.slice (some ⟨w.heap.size, 0, none⟩) 0 0) 0 [] := World.ownsRow_made w #[] 0 (Nat.le_refl _) (Nat.zero_le _) (by simp)
    have hbel : Below w.heap.size w (w.alloc (.cells #[] 34)) := bel_alloc (Below.refl _ _) _
    have HC : Hid (∀ (j : Nat) (u : Value), cs[j]? = some u → (w.alloc (.cells #[] 34)).cell? (ad.add j) = some u) := fun j u hu => by
      have h2 := HD.out j u hu
      have hlt : (ad.add j).block < w.heap.size := World.block_lt_of_cell? w _ h2
      rw [World.cell?_of_block (w := w) (hbel.block _ hlt)]
      exact h2
    clear HD h
    have E := fun w => eql_nil w 22 _ (some ad) n c Try.underlying22
    simp only [Option.isNone_some] at E
    go_enter Try.func40, Try.ntmps40
    go_wp2_with (first | (at_builtin; refine wpList_append_own _ rfl _ _ 22 rfl w.heap.size 34 i0 _ 17 152 Try.underlying22 hi hz0 hz1 hz2 rfl (by decide) _ _ _ rfl hown ad n c cs rfl HL.out HC.out h1 ?c3 ?c4 ?c5 ?_))
    case c3 => unfold maxLen; omega
    case c4 => omega
    case c5 => simp
    intro v2 w2 hown2 hg2 _
    go_wp2_with fail
    go_ret
    have hown2 : w2.ownsRow w.heap.size 34 17 v2 n cs := by simpa using hown2
    exact ⟨_, rfl, hown2, hbel.grown hg2 (by simp) (fun q hq => by simp [Value.ownBlock] at hq; omega)⟩
end Go.Proofs.Ytfiamiflkfdhoaa
/- The function Txs of package copies: each transaction made anew. -/
namespace Go.Proofs.Ytfiamiflkfdhoaa
open Go.RowKit

def setAt (xs : List Value) : Nat → List Value → List Value
  | _, [] => xs
  | j, u :: r => setAt (xs.set j u) (j + 1) r
theorem setAt_mid : ∀ (vs m a c : List Value), m.length = vs.length → setAt (a ++ m ++ c) a.length vs = a ++ vs ++ c
  | [], m, a, c, h => by
    obtain rfl := List.length_eq_zero_iff.1 h
    rfl
  | u :: r, [], a, c, h => by simp at h
  | u :: r, y :: m, a, c, h => by
    have e : (a ++ y :: m ++ c).set a.length u = (a ++ [u]) ++ m ++ c := by simp
    have ih := setAt_mid r m (a ++ [u]) c (by simpa using h)
    rw [List.length_append] at ih
    unfold setAt
    rw [e]
    simpa using ih
theorem setAt_rows {qs : List (T × Value)} {k : Nat} (h : k < qs.length) (y : T × Value) : setAt (rows T.cells qs) (k * 17) (T.cells y) = rows T.cells (qs.set k y) := by
  have e1 : qs = qs.take k ++ qs[k] :: qs.drop (k + 1) := by simp
  have e2 : rows T.cells qs = rows T.cells (qs.take k) ++ T.cells qs[k] ++ rows T.cells (qs.drop (k + 1)) := by
    conv => lhs; rw [e1]
    rw [rows_append, rows_cons, List.append_assoc]
  have e3 : (rows T.cells (qs.take k)).length = k * 17 := by
    rw [rows_length T.len, List.length_take, Nat.min_eq_left (by omega)]
  rw [e2, ← e3, setAt_mid _ _ _ _ (by rw [T.len, T.len]), List.set_eq_take_append_cons_drop, if_pos h, rows_append, rows_cons, List.append_assoc]
theorem own_cells {B e S g n cap : Nat} : ∀ (vs : List Value) (j : Nat) (w : World) (xs : List Value), w.ownsRow B e S (.slice (some ⟨g, 0, none⟩) n cap) n xs → (w.setCells g j vs).ownsRow B e S (.slice (some ⟨g, 0, none⟩) n cap) n (setAt xs j vs) ∧ w.grownBy (w.setCells g j vs) (some g)
  | [], j, w, xs, h => ⟨h, ⟨rfl, rfl, rfl, Nat.le_refl _, fun _ _ _ => rfl⟩⟩
  | u :: r, j, w, xs, h => by
    obtain ⟨h1, h2⟩ := h.stored j u
    obtain ⟨h3, h4⟩ := own_cells r (j + 1) _ _ h1
    exact ⟨h3, ⟨h4.os.trans h2.os, h4.tape.trans h2.tape, h4.output.trans h2.output, Nat.le_trans h2.size h4.size, fun k hk hne => (h4.block k (Nat.lt_of_lt_of_le hk h2.size) hne).trans (h2.block k hk hne)⟩⟩
theorem ORow.grown {w w' : World} {B g : Nat} {v : Value} {q : List O} (h : ORow w B v q) (hg : w.grownBy w' (some g)) {cur : Array Value} (hc : w.heap[g]? = some (.cells cur 34)) : ORow w' B v q := h.keep fun b e => by
  obtain ⟨_, cur2, h2⟩ := h.block e
  refine hg.block b (Array.getElem?_eq_some_iff.1 h2).1 fun e2 => ?_
  cases e2
  rw [hc] at h2
  simp at h2
/-- What Txs answers. -/
def TsPost (l : List T) (w : World) (e : Ending) (w' : World) : Prop := ∃ u zs, e = .returned u ∧ zs.map (·.1) = l ∧ OwnT w' w.heap.size u zs ∧ Below w.heap.size w w'
set_option maxHeartbeats 2000000 in
set_option maxRecDepth 100000 in
theorem copyTxs_any (v : Value) (ys : List (T × Value)) (off : Nat → Prop) (w : World) (h : XAt w v ys off) (hn : ys.length ≤ 100) (hops : ∀ y ∈ ys, y.1.ops.length ≤ 1000) : Calls Try.prog 22 #[v] w (TsPost (ys.map (·.1)) w) := by
  have C1 := cloneTxs_any v ys w h.s (T.ones h.o) (by omega)
  have HO : Hid (∀ y ∈ ys, OHas w y.2 y.1.ops) := h.o
  have HP : Hid (∀ y ∈ ys, y.1.ops.length ≤ 1000) := hops
  have hnm : (ys.length : Int) ≤ 100 := by omega
  obtain ⟨q, c, rfl⟩ := h.s.slice
  clear h hops
  go_enter Try.func22, Try.ntmps22
  go_upto_region 1 with fail
  go_wp2_with fail
  refine C1.mono ?_
  clear C1
  rintro e w2 ⟨u, rfl, hown, hb2⟩
  obtain ⟨up, uc, rfl⟩ : ∃ p c, u = .slice p ys.length c := own_sl hown
  have HW : Hid (w2.ownsRow w.heap.size 34 17 (.slice up ys.length uc) ys.length (rows T.cells ys)) := hown
  clear hown
  go_wp2_with fail
  go_loopw [9] (fun vk wr => ∃ (k : Nat) (qs : List (T × Value)), vk = .int .i64 k ∧ k ≤ ys.length ∧ Hid (qs.map (·.1) = ys.map (·.1)) ∧ Hid (wr.ownsRow w.heap.size 34 17 (.slice up ys.length uc) ys.length (rows T.cells qs)) ∧ Hid (∀ i y, i < k → qs[i]? = some y → ORow wr w.heap.size y.2 y.1.ops) ∧ Hid (∀ i, k ≤ i → qs[i]? = ys[i]?) ∧ Below w.heap.size w wr) (fun vk _ => ys.length - (intOf vk).toNat)
  case atStart => exact ⟨0, ys, rfl, by omega, rfl, HW, (show ∀ (i : Nat) (y : T × Value), i < 0 → _ from fun i _ h => by omega), (show ∀ i, 0 ≤ i → _ from fun _ _ => rfl), hb2⟩
  case round =>
    clear HW hb2
    obtain ⟨k, qs, rfl, hk, HM, HW, HR, HS, hb⟩ := hrel
    have hql : Hid (qs.length = ys.length) := by show _ = _; have := congrArg List.length HM.out; simpa using this
    by_cases hlt : k < ys.length
    · have hlt' : (k : Int) < (ys.length : Int) := by omega
      have hkq : k < qs.length := by have := hql.out; omega
      have hq : qs[k]? = some ys[k] := by rw [HS.out k (Nat.le_refl _)]; simp
      have hqe : qs[k] = ys[k] := by
        rw [List.getElem?_eq_getElem hkq] at hq
        exact Option.some.inj hq
      obtain ⟨g, rfl⟩ : ∃ g, up = some ⟨g, 0, none⟩ := by
        rcases HW.out.2 with ⟨e, h0⟩ | ⟨g, cap, cur, e, _⟩
        · omega
        · simp only [Value.slice.injEq] at e
          exact ⟨g, e.1⟩
      obtain ⟨cur, hgc⟩ : ∃ cur, wr.heap[g]? = some (.cells cur 34) := by
        rcases HW.out.2 with ⟨e, h0⟩ | ⟨g', cap, cur, e, _, hg, _⟩
        · cases e
        · simp only [Value.slice.injEq, Option.some.injEq, Addr.mk.injEq] at e
          rw [e.1.1]
          exact ⟨cur, hg⟩
      have d : wr.rangeAt g (k * 17) (T.cells ys[k]) := fun j u hu => by
        rw [HW.out.cellAt (k * 17 + j) (by have := (List.getElem?_eq_some_iff.1 hu).1; rw [T.len] at this; omega)]
        rw [← hqe] at hu
        exact rows_at T.len qs k hkq j u hu
      have ho := (HO.out ys[k] (List.getElem_mem _)).later hb
      have hp := HP.out ys[k] (List.getElem_mem _)
      have hym : (ys.map (·.1))[k]? = some ys[k].1 := by rw [List.getElem?_map, List.getElem?_eq_getElem hlt]; rfl
      obtain ⟨⟨x, sl⟩, HX⟩ := hid_ex ys[k]
      rw [HX.out] at d ho hp hym
      replace d : wr.rangeAt g (k * 17) (txc x.p x.s x.v x.t sl) := d
      replace ho : OHas wr sl x.ops := ho
      replace hp : x.ops.length ≤ 1000 := hp
      have z := tx_size x sl
      have hsl := ho.one
      obtain ⟨w5, HW5⟩ : ∃ w5, (wr.alloc (.cells z17 34)).setRow wr.heap.size (txc x.p x.s x.v x.t sl).toArray = w5 := ⟨_, rfl⟩
      obtain ⟨R3, hb3, hsz3⟩ := box_tx wr x sl HW5
      have r3 := R3.range 0 (txc x.p x.s x.v x.t sl) (fun j v h => by simpa using h)
      have hBs : w.heap.size ≤ wr.heap.size := hb.size
      have C2 := copyTx_any x sl w5 (ho.later hb3) hp
      clear hq hqe HX ho
      go_upto_region 5 with (first | refine load_m 34 _ rfl rfl _ _ rfl d Try.underlying34 rfl z ?_ | refine store_tx rfl _ _ rfl _ x sl rfl rfl hsl (rw_new wr 34 z17) rfl ?_)
      try rw [HW5]
      clear HW5 d
      go_wp2_with (refine load_m 34 _ rfl rfl _ _ rfl r3 Try.underlying34 rfl z ?_)
      refine C2.mono ?_
      rintro e w6 ⟨sl', rfl, hO, hb6⟩
      have one' := (own_oh hO).one
      have hb7 := below_on hb3 hb6
      have W6 := own_later HW.out hb7
      have hgc6 : w6.heap[g]? = some (.cells cur 34) := (hb7.block g (Array.getElem?_eq_some_iff.1 hgc).1).trans hgc
      have hth : w6.there g (k * 17) (txc x.p x.s x.v x.t sl').toArray.size := fun i hi => by
        have hi' : i < 17 := by simpa [txc_length x.hv] using hi
        refine ⟨?_, W6.frozenAt _⟩
        rw [W6.cellAt (k * 17 + i) (by omega)]
        have : k * 17 + i < (rows T.cells qs).length := by rw [rows_length T.len]; omega
        simp [this]
      have hone : (txc x.p x.s x.v x.t sl').toArray.all (·.oneCell') = true := by
        rw [Array.all_eq_true_iff_forall_mem]
        intro u hu
        exact T.one sl' one' x u (by simpa [T.cells] using hu)
      have hzz : (Try.prog.info? 34).map (·.size) = some (txc x.p x.s x.v x.t sl').toArray.size := by simpa using tx_size x sl'
      obtain ⟨O7, G7⟩ := own_cells (txc x.p x.s x.v x.t sl') (k * 17) w6 _ W6
      rw [show setAt (rows T.cells qs) (k * 17) (txc x.p x.s x.v x.t sl') = rows T.cells (qs.set k (x, sl')) from setAt_rows hkq (x, sl')] at O7
      obtain ⟨w8, HW8⟩ : ∃ w8, w6.setCells g (k * 17) (txc x.p x.s x.v x.t sl') = w8 := ⟨_, rfl⟩
      have hgB : w.heap.size ≤ g := (World.ownsRow.lt W6 g rfl).1
      have HW9 : Hid (w8.ownsRow w.heap.size 34 17 (.slice (some ⟨g, 0, none⟩) ys.length uc) ys.length (rows T.cells (qs.set k (x, sl')))) := by rw [← HW8]; exact O7
      rw [HW8] at G7
      have HR9 : Hid (∀ i y, i < k + 1 → (qs.set k (x, sl'))[i]? = some y → ORow w8 w.heap.size y.2 y.1.ops) := fun i y hi hy => by
        by_cases e : i = k
        · subst e
          rw [List.getElem?_set_self hkq] at hy
          cases hy
          exact (hO.base (by have := hb3.size; omega)).grown G7 hgc6
        · rw [List.getElem?_set_ne (Ne.symm e)] at hy
          exact ORow.grown (own_later (HR.out i y (by omega) hy) hb7) G7 hgc6
      have HS9 : Hid (∀ i, k + 1 ≤ i → (qs.set k (x, sl'))[i]? = ys[i]?) := fun i hi => by
        rw [List.getElem?_set_ne (by omega)]
        exact HS.out i (by omega)
      have HM9 : Hid ((qs.set k (x, sl')).map (·.1) = ys.map (·.1)) := by
        show _ = _
        rw [List.map_set, HM.out]
        refine List.ext_getElem? fun i => ?_
        by_cases e : i = k
        · subst e
          rw [List.getElem?_set_self (by simpa using hlt), hym]
        · rw [List.getElem?_set_ne (Ne.symm e)]
      have hb9 : Below w.heap.size w w8 := (hb.trans (hb7.mono hBs)).trans ⟨G7.os, G7.tape, G7.output, G7.size, fun b hbb => G7.block b (by have := hb7.size; omega) fun e => by cases e; omega⟩
      clear HM HW HR HS hb HO HP hO hb6 hb3 R3 r3 C2 W6 O7 G7 hgc hgc6 hym
      rename_i K hK
      show K _ _
      refine hK _ _ ?_
      clear hK
      go_wp2_with (refine wpList_store_mid rfl 34 _ _ rfl g (k * 17) (txc x.p x.s x.v x.t sl').toArray rfl rfl hth hzz hone ?_)
      clear HW8
      go_roundw
      case rel => exact ⟨k + 1, _, by simp, by omega, HM9, HW9, HR9, HS9, hb9⟩
      case measure => simp [intOf]; omega
    · obtain rfl : k = ys.length := by omega
      have hb' := hb
      have hql' := hql.out
      have hW' := HW.out
      have hR' := HR.out
      have hM' := HM.out
      clear HM HW HR HS hb HO HP hql
      go_wp2_with fail
      go_ret
      refine ⟨_, qs, rfl, hM', ⟨hql'.symm ▸ hW', fun y hy => ?_⟩, hb'⟩
      obtain ⟨i, hi, rfl⟩ := List.getElem_of_mem hy
      exact hR' i _ (by omega) (List.getElem?_eq_getElem hi)
end Go.Proofs.Ytfiamiflkfdhoaa
