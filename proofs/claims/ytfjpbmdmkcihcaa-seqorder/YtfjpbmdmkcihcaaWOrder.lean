/- SeqOrder is proved of every cell, two transactions and two marks: the call returns true, and the arguments read afterwards as they read before; no condition. -/
import Derived.Test.YtfjpbmdmkcihcaaQ1
import Derived.Test.YtfjpbmdmkcihcaaP12
import Derived.Laws.AppendOwnNone
import Derived.Test.YtfjpbmdmkcihcaaP13
import Derived.Test.YtfjpbmdmkcihcaaP11
import Derived.Test.YtfjpbmdmkcihcaaP8
import Derived.Deep.Cut
import Derived.Test.YtfjpbmdmkcihcaaP14
import Derived.ChangeOld
import Derived.SizedLaws
/- The places of all that stand behind a mark, as the document gathers them. Lists alone. -/
namespace Go.Proofs.Ytfjpbmdmkcihcaa
open Go.RowKit

/-- The element of a place from 0 on: its mark, its Ref, which one comes first. -/
def mI (l : List El) (i : Nat) : K := kE (gL l (i + 1))
def rI (l : List El) (i : Nat) : K := rE (gL l (i + 1))
def aI (l : List El) (i j : Nat) : Bool := lE (gL l (i + 1)) (gL l (j + 1))
/-- Those of the first places that stand right behind. -/
def kI (l : List El) (m : K) (k : Nat) : List Nat := srt (aI l) ((List.range k).filter (fun i => decide (rI l i = m)))
/-- All that stand behind. -/
def bI (l : List El) (f : Nat) (m : K) : List Nat := ord (mI l) (rI l) (aI l) (List.range l.length) f m
theorem kI_zero (l : List El) (m : K) : kI l m 0 = [] := rfl
theorem kI_put {l : List El} {m : K} {k : Nat} (h : rI l k = m) : kI l m (k + 1) = insS (aI l) k (kI l m k) := by
  unfold kI srt
  rw [List.range_succ, List.filter_append, List.filter_cons, if_pos (by simpa using h), List.foldl_append]
  rfl
theorem kI_skip {l : List El} {m : K} {k : Nat} (h : rI l k ≠ m) : kI l m (k + 1) = kI l m k := by
  unfold kI srt
  rw [List.range_succ, List.filter_append, List.filter_cons, if_neg (by simpa using h), List.filter_nil, List.append_nil]
theorem kI_mem {l : List El} {m : K} {k c : Nat} (h : c ∈ kI l m k) : c < k ∧ rI l c = m := by
  unfold kI at h
  rw [(srt_perm _ _).mem_iff, List.mem_filter, List.mem_range] at h
  exact ⟨h.1, by simpa using h.2⟩
theorem kI_len (l : List El) (m : K) (k : Nat) : (kI l m k).length ≤ k := by
  unfold kI
  rw [(srt_perm _ _).length_eq]
  exact Nat.le_trans (List.length_filter_le _ _) (by simp)
theorem bI_succ (l : List El) (f : Nat) (m : K) : bI l (f + 1) m = (kI l m l.length).flatMap (fun c => c :: bI l f (mI l c)) := rfl
theorem range_gL (l : List El) : (List.range l.length).map (fun i => gL l (i + 1)) = l := by
  have := plc_gL l
  unfold plc at this
  rw [List.map_map] at this
  exact this
theorem bI_map (l : List El) (f : Nat) (m : K) : (bI l f m).map (fun i => gL l (i + 1)) = ord kE rE lE l f m := by
  have := ord_map (mk := mI l) (rf := rI l) (ah := aI l) (mk' := kE) (rf' := rE) (bh := lE) (fun i => gL l (i + 1)) (fun _ => rfl) (fun _ => rfl) (fun _ _ => rfl) (List.range l.length) f m
  rw [range_gL] at this
  exact this.symm
theorem bI_lt {l : List El} {f : Nat} {m : K} {i : Nat} (h : i ∈ bI l f m) : i < l.length := List.mem_range.1 (ord_sub h)
theorem mI_mem {l : List El} {i : Nat} (h : i < l.length) : gL l (i + 1) ∈ l := by
  rw [gL_succ h]
  exact List.getElem_mem _
theorem bI_rk {l : List El} {R : K → Nat} (h : Rk kE rE R l) : Rk (mI l) (rI l) R (List.range l.length) := fun _ hi => h _ (mI_mem (List.mem_range.1 hi))
theorem bI_len {l : List El} (h : Tre l) (f : Nat) (m : K) : (bI l f m).length ≤ l.length := by
  obtain ⟨R, hR⟩ := h.rk
  refine nodup_len l.length _ (ord_nodup List.nodup_range (bI_rk hR) (fun a ha b hb e => ?_) f m) (fun x hx => bI_lt hx)
  have ha := List.mem_range.1 ha
  have hb := List.mem_range.1 hb
  unfold mI at e
  rw [gL_succ ha, gL_succ hb] at e
  exact up_inj h.up ha hb e
theorem bI_fuel {l : List El} (h : Tre l) {f : Nat} (hf : l.length ≤ f) : (bI l f zK).map (fun i => gL l (i + 1)) = oE l := by
  rw [bI_map, oE_fuel h hf]
/-- One is put where it belongs, step by step. -/
def NI (ah : Nat → Nat → Bool) (i : Nat) (ks : List Nat) (k : Nat) (d : Bool) (nx : List Nat) : Prop := (d = true → nx ++ ks.drop k = insS ah i ks) ∧ (d = false → nx = ks.take k ∧ ks.take k ++ insS ah i (ks.drop k) = insS ah i ks)
section
variable {ah : Nat → Nat → Bool} {i : Nat} {ks : List Nat} {k : Nat} {d : Bool} {nx : List Nat}
theorem NI_zero : NI ah i ks 0 false [] := ⟨(fun h => by cases h), fun _ => ⟨rfl, rfl⟩⟩
theorem NI_put (hk : k < ks.length) (h : NI ah i ks k false nx) (ha : ah i ks[k] = true) : NI ah i ks (k + 1) true (nx ++ [i] ++ [ks[k]]) := by
  obtain ⟨h1, h2⟩ := h.2 rfl
  refine ⟨fun _ => ?_, fun h => by cases h⟩
  rw [← h2, h1, List.drop_eq_getElem_cons hk]
  simp [insS, ha]
theorem NI_skip (hk : k < ks.length) (h : NI ah i ks k false nx) (ha : ah i ks[k] = false) : NI ah i ks (k + 1) false (nx ++ [ks[k]]) := by
  obtain ⟨h1, h2⟩ := h.2 rfl
  refine ⟨(fun h => by cases h), fun _ => ⟨by rw [h1, List.take_succ_eq_append_getElem hk], ?_⟩⟩
  have e : insS ah i (ks[k] :: ks.drop (k + 1)) = ks[k] :: insS ah i (ks.drop (k + 1)) := by simp [insS, ha]
  rw [← h2, List.take_succ_eq_append_getElem hk, List.drop_eq_getElem_cons hk, e, List.append_assoc]
  rfl
theorem NI_on (hk : k < ks.length) (h : NI ah i ks k true nx) : NI ah i ks (k + 1) true (nx ++ [ks[k]]) := by
  refine ⟨fun _ => ?_, fun h => by cases h⟩
  rw [← h.1 rfl, List.drop_eq_getElem_cons hk]
  simp
theorem NI_len (h : NI ah i ks k d nx) (hk : k ≤ ks.length) : nx.length ≤ k + 1 := by
  cases d with
  | true =>
    have e := congrArg List.length (h.1 rfl)
    rw [List.length_append, List.length_drop, (insS_perm ah i ks).length_eq, List.length_cons] at e
    omega
  | false =>
    rw [(h.2 rfl).1, List.length_take]
    omega
theorem NI_end (h : NI ah i ks ks.length true nx) : nx = insS ah i ks := by
  have := h.1 rfl
  rwa [List.drop_length, List.append_nil] at this
theorem NI_last (h : NI ah i ks ks.length false nx) : nx ++ [i] = insS ah i ks := by
  obtain ⟨h1, h2⟩ := h.2 rfl
  rw [← h2, h1, List.drop_length]
  rfl
end
/-- What is gathered of the first ones is no longer than all. -/
theorem flat_take {g : Nat → List Nat} (ks : List Nat) (k : Nat) : ((ks.take k).flatMap g).length ≤ (ks.flatMap g).length := by
  conv => rhs; rw [← List.take_append_drop k ks, List.flatMap_append, List.length_append]
  omega
theorem iv_append (a b : List Nat) : iv (a ++ b) = iv a ++ iv b := List.map_append
end Go.Proofs.Ytfjpbmdmkcihcaa
/- behind of the document's answer: the places of all that stand behind a mark. -/
namespace Go.Proofs.Ytfjpbmdmkcihcaa
open Go.RowKit

theorem rm_eq (y : El) (m : M) : decide (rE y = kM m) = (decide (y.q = m.p) && decide (y.u = m.s) && decide (y.j = m.i)) := by
  unfold rE kM
  by_cases h1 : y.q = m.p <;> by_cases h2 : y.u = m.s <;> by_cases h3 : y.j = m.i <;> simp [h1, h2, h3]
/-- Such places, in a row of their own. -/
def BhPost (r : List Nat) (w : World) (e : Ending) (w' : World) : Prop := ∃ u, e = .returned u ∧ w'.ownsRow w.heap.size 3 1 u r.length (iv r) ∧ Below w.heap.size w w'
theorem grown_refl (w : World) (row : Option Nat) : w.grownBy w row := ⟨rfl, rfl, rfl, Nat.le_refl _, fun _ _ _ => rfl⟩
/-- What lies in a row of its own is appended. -/
theorem wpList_append_rows {w : World} {ops : Array Oper} {rest : List Oper} {o : Oper} {a : Act} {Q : Exit → Act → World → Prop} (hgd : o.guard = none) (s x : Operand) (t : TypeId)
    (ho : o.op = .call { callee := .builtin .append, args := #[s, x], argTypes := #[t, t] })
    (base : Nat) (e : TypeId) (i : TypeInfo) (z : Value) (size bytes : Nat) (ht : Try.prog.underlying t = some (.slice e)) (hi : Try.prog.info? e = some i) (hz : i.zero = some z)
    (hsize : i.size = size) (hby : i.bytes = bytes) (hzs : z.cells.size = size) (hsz : 0 < size)
    (v : Value) (n : Nat) (xs : List Value) (hs : a.eval s = v) (hown : w.ownsRow base e size v n xs)
    (B : Nat) (u : Value) (m : Nat) (news : List Value) (hx : a.eval x = u) (hu : w.ownsRow B e size u m news) (h1 : ∀ u ∈ news, u.oneCell' = true)
    (h63 : n + m ≤ maxLen) (hbytes : (n + m) * bytes ≤ 140737488355328) (hbase : base ≤ w.heap.size)
    (h : ∀ v' w', w'.ownsRow base e size v' (n + m) (xs ++ news) → w.grownBy w' v.ownBlock → wpList Try.prog ops Q rest (a.put o.dst v') w') : wpList Try.prog ops Q (o :: rest) a w := by
  have hu' := hu
  obtain ⟨hlen, ⟨rfl, rfl⟩ | ⟨g, cap, cur, rfl, _, _, _⟩⟩ := hu
  · have hn : news = [] := List.length_eq_zero_iff.1 (by rw [hlen, Nat.zero_mul])
    subst hn
    refine wpList_append_own_none hgd s x t ho base e i size ht hi v n xs hs hown hx (h v w ?_ (grown_refl _ _))
    rw [Nat.add_zero, List.append_nil]
    exact hown
  · exact wpList_append_own w hgd s x t ho base e i z size bytes ht hi hz hsize hby hzs hsz v n xs hs hown ⟨g, 0, none⟩ m cap news hx hlen (hu'.cells rfl) h1 h63 hbytes hbase (fun v' w' h2 h3 _ => h v' w' h2 h3)
theorem iv_one (l : List Nat) : ∀ u ∈ iv l, u.oneCell' = true := fun u hu => by
  obtain ⟨a, _, rfl⟩ := List.mem_map.1 hu
  rfl
set_option maxHeartbeats 4000000 in
set_option maxRecDepth 100000 in
theorem behind_step (v : Value) (l : List El) (m : M) (f : Nat) (w : World) (h : EHas w v l) (hl : l.length ≤ 100) (hlen : (bI l (f + 1) (kM m)).length ≤ 100)
    (CR : ∀ c, c ∈ kI l (kM m) l.length → ∀ w', Below w.heap.size w w' → Calls Try.prog 73 #[v, MV (gL l (c + 1)).p (gL l (c + 1)).s (gL l (c + 1)).i] w' (BhPost (bI l f (mI l c)) w')) :
    Calls Try.prog 73 #[v, MV m.p m.s m.i] w (BhPost (bI l (f + 1) (kM m)) w) := by
  obtain ⟨i0, hi, hz0, hz1, hz2⟩ := info_parts info3
  have HCR := CR
  clear CR
  rw [bI_succ] at hlen ⊢
  obtain ⟨ys, hys, h, hy⟩ := h
  have hml := maxLen_lt h.1
  obtain ⟨p, c0, rfl⟩ := h.slice
  have hyl : ys.length = l.length := by rw [← hys, List.length_map]
  have HR : Hid (SHas 9 w (.slice p l.length c0) l.length (rows El.cells ys)) := h
  have HL : Hid (∀ k (h1 : k < ys.length) (h2 : k < l.length), ys[k].1 = l[k]) := fun k h1 h2 => by
    subst hys
    rw [List.getElem_map]
  clear h hy hys
  have HCR2 : Hid (∀ c, c ∈ kI l (kM m) l.length → ∀ w', Below w.heap.size w w' → Calls Try.prog 73 #[.slice p l.length c0, MV (gL l (c + 1)).p (gL l (c + 1)).s (gL l (c + 1)).i] w' (BhPost (bI l f (mI l c)) w')) := HCR
  clear HCR
  have HLEN : Hid (((kI l (kM m) l.length).flatMap (fun c => c :: bI l f (mI l c))).length ≤ 100) := hlen
  clear hlen
  have R0 := rw_new w 39 #[.int .i64 m.p, .int .i64 m.s, .int .i64 m.i]
  have db0 : (w.alloc (.cells #[.int .i64 m.p, .int .i64 m.s, .int .i64 m.i] 39)).rangeAt w.heap.size 0 [Value.int .i64 m.p, .int .i64 m.s, .int .i64 m.i] := Rw.whole R0
  have hb0 := bel_alloc (Below.refl w.heap.size w) (.cells #[.int .i64 m.p, .int .i64 m.s, .int .i64 m.i] 39)
  have zm : (Try.prog.info? 39).map (·.size) = some [Value.int .i64 m.p, .int .i64 m.s, .int .i64 m.i].length := size39
  go_enter Try.func73, Try.ntmps73
  go_wp2_with fail
  go_loopw [5, 6] (fun vk vi wr => ∃ k : Nat, vi = .int .i64 k ∧ k ≤ l.length ∧ wr.ownsRow w.heap.size 3 1 vk (kI l (kM m) k).length (iv (kI l (kM m) k)) ∧ wr.rangeAt w.heap.size 0 [Value.int .i64 m.p, .int .i64 m.s, .int .i64 m.i] ∧ Below w.heap.size w wr) (fun _ vi _ => l.length - (intOf vi).toNat)
  case atStart => exact ⟨0, rfl, by omega, World.ownsRow_nil _ _ _ _, db0, hb0⟩
  case round =>
    clear R0 db0 hb0
    obtain ⟨k, rfl, hk, hown, db, hbel⟩ := hrel
    obtain ⟨ks, HKS⟩ := hid_ex (kI l (kM m) k)
    have hksl : ks.length ≤ k := by rw [← HKS.out]; exact kI_len _ _ _
    rw [HKS.out] at hown
    obtain ⟨P, cc, rfl⟩ := own_sl hown
    by_cases hlt : k < l.length
    case' pos =>
      have hlt' : (k : Int) < (l.length : Int) := by omega
      have hk0 : (0 : Int) ≤ (k : Int) := by omega
      obtain ⟨g, o, rfl, hd0⟩ := HR.out.at (by omega)
      have d0 : wr.rangeAt g (o + k * 9) (El.cells (ys[k]'(by omega))) := range_sub (range_later hd0 hbel) (k * 9) fun j u hu => rows_at El.len ys k (by omega) j u hu
      obtain ⟨yy, HX⟩ := hid_ex (ys[k]'(by omega))
      have HX2 : Hid (gL l (k + 1) = yy.1) := by
        show _ = _
        rw [gL_succ hlt, ← HL.out k (by omega) hlt, HX.out]
      rw [HX.out] at d0
      obtain ⟨y, yv⟩ := yy
      replace HX2 : Hid (gL l (k + 1) = y) := HX2
      have dr : wr.rangeAt g (o + k * 9 + 4) [Value.int .i64 y.q, .int .i64 y.u, .int .i64 y.j] := range_sub (o := o + k * 9) (xs := El.cells (y, yv)) d0 4 (fun j a ha => by
        match j, ha with
        | 0, h => exact h
        | 1, h => exact h
        | 2, h => exact h
        | j + 3, h => simp at h)
      have zu : (Try.prog.info? 39).map (·.size) = some [Value.int .i64 y.q, .int .i64 y.u, .int .i64 y.j].length := size39
      clear HX
      have E := fun w => eq_mark w y.q y.u y.j m.p m.s m.i
      obtain ⟨t, HT⟩ := hid_ex (decide (rE y = kM m))
      rw [show (decide (y.q = m.p) && decide (y.u = m.s) && decide (y.j = m.i)) = t from (rm_eq _ _).symm.trans HT.out] at E
      cases t
      case' false =>
        have HN : Hid (kI l (kM m) (k + 1) = ks) := by
          show _ = _
          rw [kI_skip, HKS.out]
          unfold rI
          rw [HX2.out]
          exact of_decide_eq_false HT.out
        clear HX2 HT HKS hd0 d0
        go_wp2_with fail
        have hs : Calm.Stays (fun w' => w'.rangeAt g (o + k * 9 + 4) [Value.int .i64 y.q, .int .i64 y.u, .int .i64 y.j] ∧ w'.rangeAt w.heap.size 0 [Value.int .i64 m.p, .int .i64 m.s, .int .i64 m.i] ∧ w'.ownsRow w.heap.size 3 1 (.slice P ks.length cc) ks.length (iv ks) ∧ Below w.heap.size w w') := fun wa wb h hb => ⟨range_later h.1 hb, range_later h.2.1 hb, own_later h.2.2.1 hb, below_on h.2.2.2 hb⟩
        refine Calm.region (by kernel_rfl) (by kernel_rfl) (fun w' => w'.rangeAt g (o + k * 9 + 4) [Value.int .i64 y.q, .int .i64 y.u, .int .i64 y.j] ∧ w'.rangeAt w.heap.size 0 [Value.int .i64 m.p, .int .i64 m.s, .int .i64 m.i] ∧ w'.ownsRow w.heap.size 3 1 (.slice P ks.length cc) ks.length (iv ks) ∧ Below w.heap.size w w') ⟨dr, db, hown, hbel.drew⟩ ?_
        all_goals
          refine Calm.pure (v := ?_) (by rfl) ?_ ?_
          rotate_left
          focus (intro w hSw; go_simp <;> rfl)
          simp only [Act.put, List.setIfInBounds_toArray, List.set_cons_zero, List.set_cons_succ]
        all_goals
          refine Calm.pure (v := ?_) (by rfl) ?_ ?_
          rotate_left
          focus (intro w hSw; go_simp <;> rfl)
          simp only [Act.put, List.setIfInBounds_toArray, List.set_cons_zero, List.set_cons_succ]
        all_goals
          refine Calm.pure (v := ?_) (by rfl) ?_ ?_
          rotate_left
          focus (intro w hSw; go_simp <;> rfl)
          simp only [Act.put, List.setIfInBounds_toArray, List.set_cons_zero, List.set_cons_succ]
        all_goals
          refine Calm.pure (v := ?_) (by rfl) ?_ ?_
          rotate_left
          focus (intro w hSw; go_simp <;> rfl)
          simp only [Act.put, List.setIfInBounds_toArray, List.set_cons_zero, List.set_cons_succ]
        all_goals
          first | (refine Calm.loadM 39 Try.underlying39 rfl zu (by rfl) _ rfl rfl (fun _ h => h.1) ?_) | (refine Calm.loadM 39 Try.underlying39 rfl zm (by rfl) _ rfl rfl (fun _ h => h.2.1) ?_)
          simp only [Act.put, List.setIfInBounds_toArray, List.set_cons_zero, List.set_cons_succ]
        all_goals
          first | (refine Calm.loadM 39 Try.underlying39 rfl zu (by rfl) _ rfl rfl (fun _ h => h.1) ?_) | (refine Calm.loadM 39 Try.underlying39 rfl zm (by rfl) _ rfl rfl (fun _ h => h.2.1) ?_)
          simp only [Act.put, List.setIfInBounds_toArray, List.set_cons_zero, List.set_cons_succ]
        all_goals
          refine Calm.pure (v := ?_) (by rfl) ?_ ?_
          rotate_left
          focus (intro w hSw; go_simp <;> rfl)
          simp only [Act.put, List.setIfInBounds_toArray, List.set_cons_zero, List.set_cons_succ]
        all_goals
          rintro w9 ⟨_, db9, hown9, hbel9⟩
        go_wp2_with fail
        go_roundw
        case rel => exact ⟨k + 1, by simp, by omega, by rw [HN.out]; exact hown9, db9, hbel9⟩
        case measure => simp [intOf]; omega
      case' true =>
        have HN : Hid (kI l (kM m) (k + 1) = insS (aI l) k ks) := by
          show _ = _
          rw [kI_put, HKS.out]
          unfold rI
          rw [HX2.out]
          exact of_decide_eq_true HT.out
        clear HT
        go_wp2_with fail
        have hs : Calm.Stays (fun w' => w'.rangeAt g (o + k * 9 + 4) [Value.int .i64 y.q, .int .i64 y.u, .int .i64 y.j] ∧ w'.rangeAt w.heap.size 0 [Value.int .i64 m.p, .int .i64 m.s, .int .i64 m.i] ∧ w'.ownsRow w.heap.size 3 1 (.slice P ks.length cc) ks.length (iv ks) ∧ Below w.heap.size w w') := fun wa wb h hb => ⟨range_later h.1 hb, range_later h.2.1 hb, own_later h.2.2.1 hb, below_on h.2.2.2 hb⟩
        refine Calm.region (by kernel_rfl) (by kernel_rfl) (fun w' => w'.rangeAt g (o + k * 9 + 4) [Value.int .i64 y.q, .int .i64 y.u, .int .i64 y.j] ∧ w'.rangeAt w.heap.size 0 [Value.int .i64 m.p, .int .i64 m.s, .int .i64 m.i] ∧ w'.ownsRow w.heap.size 3 1 (.slice P ks.length cc) ks.length (iv ks) ∧ Below w.heap.size w w') ⟨dr, db, hown, hbel.drew⟩ ?_
        all_goals
          refine Calm.pure (v := ?_) (by rfl) ?_ ?_
          rotate_left
          focus (intro w hSw; go_simp <;> rfl)
          simp only [Act.put, List.setIfInBounds_toArray, List.set_cons_zero, List.set_cons_succ]
        all_goals
          refine Calm.pure (v := ?_) (by rfl) ?_ ?_
          rotate_left
          focus (intro w hSw; go_simp <;> rfl)
          simp only [Act.put, List.setIfInBounds_toArray, List.set_cons_zero, List.set_cons_succ]
        all_goals
          refine Calm.pure (v := ?_) (by rfl) ?_ ?_
          rotate_left
          focus (intro w hSw; go_simp <;> rfl)
          simp only [Act.put, List.setIfInBounds_toArray, List.set_cons_zero, List.set_cons_succ]
        all_goals
          refine Calm.pure (v := ?_) (by rfl) ?_ ?_
          rotate_left
          focus (intro w hSw; go_simp <;> rfl)
          simp only [Act.put, List.setIfInBounds_toArray, List.set_cons_zero, List.set_cons_succ]
        all_goals
          first | (refine Calm.loadM 39 Try.underlying39 rfl zu (by rfl) _ rfl rfl (fun _ h => h.1) ?_) | (refine Calm.loadM 39 Try.underlying39 rfl zm (by rfl) _ rfl rfl (fun _ h => h.2.1) ?_)
          simp only [Act.put, List.setIfInBounds_toArray, List.set_cons_zero, List.set_cons_succ]
        all_goals
          first | (refine Calm.loadM 39 Try.underlying39 rfl zu (by rfl) _ rfl rfl (fun _ h => h.1) ?_) | (refine Calm.loadM 39 Try.underlying39 rfl zm (by rfl) _ rfl rfl (fun _ h => h.2.1) ?_)
          simp only [Act.put, List.setIfInBounds_toArray, List.set_cons_zero, List.set_cons_succ]
        all_goals
          refine Calm.pure (v := ?_) (by rfl) ?_ ?_
          rotate_left
          focus (intro w hSw; go_simp <;> rfl)
          simp only [Act.put, List.setIfInBounds_toArray, List.set_cons_zero, List.set_cons_succ]
        all_goals
          rintro w9 ⟨_, db9, hown9, hbel9⟩
        clear dr d0 db hown hbel
        have hd2 := range_later hd0 hbel9
        clear hd0
        go_wp2_with fail
        have HB2 : Hid (Below w.heap.size w w9) := hbel9
        have HD2 : Hid (w9.rangeAt w.heap.size 0 [Value.int .i64 m.p, .int .i64 m.s, .int .i64 m.i]) := db9
        clear hbel9 db9 E zu hs
        have HO2 : Hid (w9.ownsRow w.heap.size 3 1 (.slice P ks.length cc) ks.length (iv ks)) := hown9
        clear hown9
        obtain ⟨w2, HW2⟩ := hid_ex w9
        rw [HW2.out] at HB2 HD2 HO2 hd2 ⊢
        clear HW2
        go_loopw [7, 8, 9] (fun vn vd vi wr => ∃ (j : Nat) (fl : Bool) (nx : List Nat), vi = .int .i64 j ∧ j ≤ ks.length ∧ vd = .bool fl ∧ wr.ownsRow w2.heap.size 3 1 vn nx.length (iv nx) ∧ NI (aI l) k ks j fl nx ∧ Below w2.heap.size w2 wr) (fun _ _ vi _ => ks.length - (intOf vi).toNat)
        case atStart => exact ⟨0, false, [], rfl, by omega, rfl, World.ownsRow_nil _ _ _ _, NI_zero, Below.refl _ _⟩
        case round =>
          obtain ⟨j, fl, nx, rfl, hj, rfl, hown, HNI, hbel⟩ := hrel
          obtain ⟨Q, qc, rfl⟩ := own_sl hown
          have hnx : nx.length ≤ j + 1 := NI_len HNI hj
          by_cases hjt : j < ks.length
          case' pos =>
            have hjt' : (j : Int) < (ks.length : Int) := by omega
            have hj0 : (0 : Int) ≤ (j : Int) := by omega
            obtain ⟨c, HC⟩ := hid_ex ks[j]
            have hcm : c ∈ kI l (kM m) k := by rw [HKS.out, ← HC.out]; exact List.getElem_mem _
            have hck : c < k := (kI_mem hcm).1
            have hc0 : (0 : Int) ≤ (c : Int) := by omega
            have hc1 : (c : Int) < (l.length : Int) := by omega
            obtain ⟨gk, ok, e1, hrk⟩ := (own_sh HO2.out).at (by omega)
            obtain ⟨gk', e2, _⟩ := own_some HO2.out (by omega)
            rw [e2] at e1
            simp only [Option.some.injEq, Addr.mk.injEq, and_true] at e1
            obtain ⟨rfl, rfl⟩ := e1
            subst e2
            have hck2 : w2.cell? ⟨gk', j, none⟩ = some (.int .i64 (c : Int)) := by
              have := hrk j _ (iv_at hjt)
              rw [Nat.zero_add, HC.out] at this
              exact this
            clear hrk
            obtain ⟨gk, HGK⟩ := hid_ex gk'
            rw [HGK.out] at hck2 ⊢
            have ck : wr.cell? ⟨gk, j, none⟩ = some (.int .i64 (c : Int)) := cell_later hbel hck2
            have dk : wr.rangeAt g (o + k * 9) (El.cells (ys[k]'(by omega))) := range_sub (range_later hd2 hbel) (k * 9) fun j u hu => rows_at El.len ys k (by omega) j u hu
            have dc : wr.rangeAt g (o + c * 9) (El.cells (ys[c]'(by omega))) := range_sub (range_later hd2 hbel) (c * 9) fun j u hu => rows_at El.len ys c (by omega) j u hu
            have ea : lE (ys[k]'(by omega)).1 (ys[c]'(by omega)).1 = aI l k c := by
              unfold aI
              rw [gL_succ hlt, gL_succ (by omega), HL.out k (by omega) hlt, HL.out c (by omega) (by omega)]
            obtain ⟨yy, HY1⟩ := hid_ex (ys[k]'(by omega))
            obtain ⟨yc, HY2⟩ := hid_ex (ys[c]'(by omega))
            rw [HY1.out] at dk ea
            rw [HY2.out] at dc ea
            clear HY1 HY2
            have CA := fun w => ahead_any yy yc w
            rw [ea] at CA
            obtain ⟨z, HZ⟩ := hid_ex (aI l k c)
            rw [HZ.out] at CA
            clear ea hcm
            have zk : (Try.prog.info? 43).map (·.size) = some (El.cells yy).length := size43
            have zc : (Try.prog.info? 43).map (·.size) = some (El.cells yc).length := size43
            cases fl
            case' false =>
              cases z
              case' false =>
                have HI : NI (aI l) k ks (j + 1) false (nx ++ [c]) := by
                  have := NI_skip hjt HNI (by rw [HC.out]; exact HZ.out)
                  rw [HC.out] at this
                  exact this
                clear HNI HZ HC HGK
                go_wp2_with fail
                have hs : Calm.Stays (fun w' => w'.rangeAt g (o + k * 9) (El.cells yy) ∧ w'.rangeAt g (o + c * 9) (El.cells yc) ∧ w'.cell? ⟨gk, j, none⟩ = some (.int .i64 (c : Int)) ∧ w'.ownsRow w2.heap.size 3 1 (.slice Q nx.length qc) nx.length (iv nx) ∧ Below w2.heap.size w2 w') := fun wa wb h hb => ⟨range_later h.1 hb, range_later h.2.1 hb, cell_later hb h.2.2.1, own_later h.2.2.2.1 hb, below_on h.2.2.2.2 hb⟩
                refine Calm.region (by kernel_rfl) (by kernel_rfl) (fun w' => w'.rangeAt g (o + k * 9) (El.cells yy) ∧ w'.rangeAt g (o + c * 9) (El.cells yc) ∧ w'.cell? ⟨gk, j, none⟩ = some (.int .i64 (c : Int)) ∧ w'.ownsRow w2.heap.size 3 1 (.slice Q nx.length qc) nx.length (iv nx) ∧ Below w2.heap.size w2 w') ⟨dk, dc, ck, hown, hbel.drew⟩ ?_
                all_goals
                  refine Calm.pure (v := ?_) (by rfl) ?_ ?_
                  rotate_left
                  focus (intro w hSw; go_simp <;> rfl)
                  simp only [Act.put, List.setIfInBounds_toArray, List.set_cons_zero, List.set_cons_succ]
                all_goals
                  refine Calm.pure (v := ?_) (by rfl) ?_ ?_
                  rotate_left
                  focus (intro w hSw; go_simp <;> rfl)
                  simp only [Act.put, List.setIfInBounds_toArray, List.set_cons_zero, List.set_cons_succ]
                all_goals
                  refine Calm.pure (v := ?_) (by rfl) ?_ ?_
                  rotate_left
                  focus (intro w hSw; go_simp <;> rfl)
                  simp only [Act.put, List.setIfInBounds_toArray, List.set_cons_zero, List.set_cons_succ]
                all_goals
                  first
                    | (refine Calm.skip ?_ ?_; focus rfl)
                    | (refine Calm.pure (v := ?_) (by rfl) ?_ ?_
                       rotate_left
                       focus (intro w hSw; go_simp <;> rfl))
                  simp only [Act.put, List.setIfInBounds_toArray, List.set_cons_zero, List.set_cons_succ]
                all_goals
                  first
                    | (refine Calm.skip ?_ ?_; focus rfl)
                    | (refine Calm.pure (v := ?_) (by rfl) ?_ ?_
                       rotate_left
                       focus (intro w hSw; go_simp <;> rfl))
                  simp only [Act.put, List.setIfInBounds_toArray, List.set_cons_zero, List.set_cons_succ]
                all_goals
                  first
                    | (refine Calm.skip ?_ ?_; focus rfl)
                    | (refine Calm.pure (v := ?_) (by rfl) ?_ ?_
                       rotate_left
                       focus (intro w hSw; go_simp <;> rfl))
                  simp only [Act.put, List.setIfInBounds_toArray, List.set_cons_zero, List.set_cons_succ]
                all_goals
                  first
                    | (refine Calm.skip ?_ ?_; focus rfl)
                    | (first | (refine Calm.loadM 43 Try.underlying43 rfl zk (by rfl) _ rfl rfl (fun _ h => h.1) ?_) | (refine Calm.loadM 43 Try.underlying43 rfl zc (by rfl) _ rfl rfl (fun _ h => h.2.1) ?_))
                  simp only [Act.put, List.setIfInBounds_toArray, List.set_cons_zero, List.set_cons_succ]
                all_goals
                  first
                    | (refine Calm.skip ?_ ?_; focus rfl)
                    | (refine Calm.pure (v := ?_) (by rfl) ?_ ?_
                       rotate_left
                       focus (intro w hSw; go_simp <;> rfl))
                  simp only [Act.put, List.setIfInBounds_toArray, List.set_cons_zero, List.set_cons_succ]
                all_goals
                  first
                    | (refine Calm.skip ?_ ?_; focus rfl)
                    | (refine Calm.pure (v := ?_) (by rfl) ?_ ?_
                       rotate_left
                       focus (intro w hSw; go_simp <;> rfl))
                  simp only [Act.put, List.setIfInBounds_toArray, List.set_cons_zero, List.set_cons_succ]
                all_goals
                  first
                    | (refine Calm.skip ?_ ?_; focus rfl)
                    | (refine Calm.pure (v := ?_) (by rfl) ?_ ?_
                       rotate_left
                       focus (intro w hSw; go_simp <;> rfl))
                  simp only [Act.put, List.setIfInBounds_toArray, List.set_cons_zero, List.set_cons_succ]
                all_goals
                  first
                    | (refine Calm.skip ?_ ?_; focus rfl)
                    | (refine Calm.pure (v := ?_) (by rfl) ?_ ?_
                       rotate_left
                       focus (intro w hSw; go_simp <;> rfl))
                  simp only [Act.put, List.setIfInBounds_toArray, List.set_cons_zero, List.set_cons_succ]
                all_goals
                  first
                    | (refine Calm.skip ?_ ?_; focus rfl)
                    | (refine Calm.pure (v := ?_) (by rfl) ?_ ?_
                       rotate_left
                       focus (intro w hSw; go_simp <;> rfl))
                  simp only [Act.put, List.setIfInBounds_toArray, List.set_cons_zero, List.set_cons_succ]
                all_goals
                  first
                    | (refine Calm.skip ?_ ?_; focus rfl)
                    | (refine Calm.pure (v := ?_) (by rfl) ?_ ?_
                       rotate_left
                       focus (intro w hSw; go_simp <;> rfl))
                  simp only [Act.put, List.setIfInBounds_toArray, List.set_cons_zero, List.set_cons_succ]
                all_goals
                  first
                    | (refine Calm.skip ?_ ?_; focus rfl)
                    | (first | (refine Calm.loadM 43 Try.underlying43 rfl zk (by rfl) _ rfl rfl (fun _ h => h.1) ?_) | (refine Calm.loadM 43 Try.underlying43 rfl zc (by rfl) _ rfl rfl (fun _ h => h.2.1) ?_))
                  simp only [Act.put, List.setIfInBounds_toArray, List.set_cons_zero, List.set_cons_succ]
                all_goals
                  first
                    | (refine Calm.skip ?_ ?_; focus rfl)
                    | (refine Calm.call2s (by rfl) rfl rfl rfl (by kernel_rfl) hs (fun w1 h => CA w1) ?_)
                  simp only [Act.put, List.setIfInBounds_toArray, List.set_cons_zero, List.set_cons_succ]
                all_goals
                  refine Calm.pure (v := ?_) (by rfl) ?_ ?_
                  rotate_left
                  focus (intro w hSw; go_simp <;> rfl)
                  simp only [Act.put, List.setIfInBounds_toArray, List.set_cons_zero, List.set_cons_succ]
                all_goals
                  rintro w9 ⟨_, _, ck9, hown9, hb9⟩
                clear CA dk dc ck hown hbel
                have h1a : ∀ q u, [Value.int .i64 (c : Int)][q]? = some u → (w9.alloc (.cells #[.int .i64 (c : Int)] 3)).cell? ((⟨w9.heap.size, 0, none⟩ : Addr).add q) = some u := fun q u hq => (cells_new w9 [Value.int .i64 (c : Int)] 3 q).trans hq
                have h2a : ∀ u ∈ [Value.int .i64 (c : Int)], u.oneCell' = true := fun u hu => by rw [List.mem_singleton.1 hu]; rfl
                have h3a : nx.length + 1 ≤ maxLen := by unfold maxLen; omega
                have h4a : (nx.length + 1) * 8 ≤ 140737488355328 := by omega
                have h5a : w2.heap.size ≤ (w9.alloc (.cells #[.int .i64 (c : Int)] 3)).heap.size := by simp; have := hb9.size; omega
                go_wp2_with (first | (at_builtin; refine wpList_append_own _ rfl _ _ 101 rfl w2.heap.size 3 i0 (.int .i64 0) 1 8 Try.underlying101 hi hz0 hz1 hz2 rfl (by decide) _ _ _ rfl (hown9.alloc _) ⟨w9.heap.size, 0, none⟩ 1 1 [.int .i64 (c : Int)] rfl rfl h1a h2a h3a h4a h5a ?_))
                intro va w10 oa hga _
                have hbAa := bel_alloc (Below.refl w9.heap.size w9) (.cells #[.int .i64 (c : Int)] 3)
                replace hb9 := (below_on hb9 hbAa).grown hga (below_on hb9 hbAa).size (fun q' hq => (World.ownsRow.lt hown9 q' hq).1)
                have ea : w10.ownsRow w2.heap.size 3 1 va (nx ++ [c]).length (iv (nx ++ [c])) := by
                  rw [iv_append, List.length_append]
                  exact oa
                clear hbAa hga oa h1a h2a h3a h4a h5a
                clear ck9 hown9
                go_wp2_with fail
                go_roundw
                case rel => exact ⟨j + 1, false, nx ++ [c], by simp, by omega, rfl, ea, HI, hb9⟩
                case measure => simp [intOf]; omega
              case' true =>
                have HI : NI (aI l) k ks (j + 1) true (nx ++ [k] ++ [c]) := by
                  have := NI_put hjt HNI (by rw [HC.out]; exact HZ.out)
                  rw [HC.out] at this
                  exact this
                clear HNI HZ HC HGK
                go_wp2_with fail
                have hs : Calm.Stays (fun w' => w'.rangeAt g (o + k * 9) (El.cells yy) ∧ w'.rangeAt g (o + c * 9) (El.cells yc) ∧ w'.cell? ⟨gk, j, none⟩ = some (.int .i64 (c : Int)) ∧ w'.ownsRow w2.heap.size 3 1 (.slice Q nx.length qc) nx.length (iv nx) ∧ Below w2.heap.size w2 w') := fun wa wb h hb => ⟨range_later h.1 hb, range_later h.2.1 hb, cell_later hb h.2.2.1, own_later h.2.2.2.1 hb, below_on h.2.2.2.2 hb⟩
                refine Calm.region (by kernel_rfl) (by kernel_rfl) (fun w' => w'.rangeAt g (o + k * 9) (El.cells yy) ∧ w'.rangeAt g (o + c * 9) (El.cells yc) ∧ w'.cell? ⟨gk, j, none⟩ = some (.int .i64 (c : Int)) ∧ w'.ownsRow w2.heap.size 3 1 (.slice Q nx.length qc) nx.length (iv nx) ∧ Below w2.heap.size w2 w') ⟨dk, dc, ck, hown, hbel.drew⟩ ?_
                all_goals
                  refine Calm.pure (v := ?_) (by rfl) ?_ ?_
                  rotate_left
                  focus (intro w hSw; go_simp <;> rfl)
                  simp only [Act.put, List.setIfInBounds_toArray, List.set_cons_zero, List.set_cons_succ]
                all_goals
                  refine Calm.pure (v := ?_) (by rfl) ?_ ?_
                  rotate_left
                  focus (intro w hSw; go_simp <;> rfl)
                  simp only [Act.put, List.setIfInBounds_toArray, List.set_cons_zero, List.set_cons_succ]
                all_goals
                  refine Calm.pure (v := ?_) (by rfl) ?_ ?_
                  rotate_left
                  focus (intro w hSw; go_simp <;> rfl)
                  simp only [Act.put, List.setIfInBounds_toArray, List.set_cons_zero, List.set_cons_succ]
                all_goals
                  first
                    | (refine Calm.skip ?_ ?_; focus rfl)
                    | (refine Calm.pure (v := ?_) (by rfl) ?_ ?_
                       rotate_left
                       focus (intro w hSw; go_simp <;> rfl))
                  simp only [Act.put, List.setIfInBounds_toArray, List.set_cons_zero, List.set_cons_succ]
                all_goals
                  first
                    | (refine Calm.skip ?_ ?_; focus rfl)
                    | (refine Calm.pure (v := ?_) (by rfl) ?_ ?_
                       rotate_left
                       focus (intro w hSw; go_simp <;> rfl))
                  simp only [Act.put, List.setIfInBounds_toArray, List.set_cons_zero, List.set_cons_succ]
                all_goals
                  first
                    | (refine Calm.skip ?_ ?_; focus rfl)
                    | (refine Calm.pure (v := ?_) (by rfl) ?_ ?_
                       rotate_left
                       focus (intro w hSw; go_simp <;> rfl))
                  simp only [Act.put, List.setIfInBounds_toArray, List.set_cons_zero, List.set_cons_succ]
                all_goals
                  first
                    | (refine Calm.skip ?_ ?_; focus rfl)
                    | (first | (refine Calm.loadM 43 Try.underlying43 rfl zk (by rfl) _ rfl rfl (fun _ h => h.1) ?_) | (refine Calm.loadM 43 Try.underlying43 rfl zc (by rfl) _ rfl rfl (fun _ h => h.2.1) ?_))
                  simp only [Act.put, List.setIfInBounds_toArray, List.set_cons_zero, List.set_cons_succ]
                all_goals
                  first
                    | (refine Calm.skip ?_ ?_; focus rfl)
                    | (refine Calm.pure (v := ?_) (by rfl) ?_ ?_
                       rotate_left
                       focus (intro w hSw; go_simp <;> rfl))
                  simp only [Act.put, List.setIfInBounds_toArray, List.set_cons_zero, List.set_cons_succ]
                all_goals
                  first
                    | (refine Calm.skip ?_ ?_; focus rfl)
                    | (refine Calm.pure (v := ?_) (by rfl) ?_ ?_
                       rotate_left
                       focus (intro w hSw; go_simp <;> rfl))
                  simp only [Act.put, List.setIfInBounds_toArray, List.set_cons_zero, List.set_cons_succ]
                all_goals
                  first
                    | (refine Calm.skip ?_ ?_; focus rfl)
                    | (refine Calm.pure (v := ?_) (by rfl) ?_ ?_
                       rotate_left
                       focus (intro w hSw; go_simp <;> rfl))
                  simp only [Act.put, List.setIfInBounds_toArray, List.set_cons_zero, List.set_cons_succ]
                all_goals
                  first
                    | (refine Calm.skip ?_ ?_; focus rfl)
                    | (refine Calm.pure (v := ?_) (by rfl) ?_ ?_
                       rotate_left
                       focus (intro w hSw; go_simp <;> rfl))
                  simp only [Act.put, List.setIfInBounds_toArray, List.set_cons_zero, List.set_cons_succ]
                all_goals
                  first
                    | (refine Calm.skip ?_ ?_; focus rfl)
                    | (refine Calm.pure (v := ?_) (by rfl) ?_ ?_
                       rotate_left
                       focus (intro w hSw; go_simp <;> rfl))
                  simp only [Act.put, List.setIfInBounds_toArray, List.set_cons_zero, List.set_cons_succ]
                all_goals
                  first
                    | (refine Calm.skip ?_ ?_; focus rfl)
                    | (refine Calm.pure (v := ?_) (by rfl) ?_ ?_
                       rotate_left
                       focus (intro w hSw; go_simp <;> rfl))
                  simp only [Act.put, List.setIfInBounds_toArray, List.set_cons_zero, List.set_cons_succ]
                all_goals
                  first
                    | (refine Calm.skip ?_ ?_; focus rfl)
                    | (first | (refine Calm.loadM 43 Try.underlying43 rfl zk (by rfl) _ rfl rfl (fun _ h => h.1) ?_) | (refine Calm.loadM 43 Try.underlying43 rfl zc (by rfl) _ rfl rfl (fun _ h => h.2.1) ?_))
                  simp only [Act.put, List.setIfInBounds_toArray, List.set_cons_zero, List.set_cons_succ]
                all_goals
                  first
                    | (refine Calm.skip ?_ ?_; focus rfl)
                    | (refine Calm.call2s (by rfl) rfl rfl rfl (by kernel_rfl) hs (fun w1 h => CA w1) ?_)
                  simp only [Act.put, List.setIfInBounds_toArray, List.set_cons_zero, List.set_cons_succ]
                all_goals
                  refine Calm.pure (v := ?_) (by rfl) ?_ ?_
                  rotate_left
                  focus (intro w hSw; go_simp <;> rfl)
                  simp only [Act.put, List.setIfInBounds_toArray, List.set_cons_zero, List.set_cons_succ]
                all_goals
                  rintro w9 ⟨_, _, ck9, hown9, hb9⟩
                clear CA dk dc ck hown hbel
                have h1a : ∀ q u, [Value.int .i64 (k : Int)][q]? = some u → (w9.alloc (.cells #[.int .i64 (k : Int)] 3)).cell? ((⟨w9.heap.size, 0, none⟩ : Addr).add q) = some u := fun q u hq => (cells_new w9 [Value.int .i64 (k : Int)] 3 q).trans hq
                have h2a : ∀ u ∈ [Value.int .i64 (k : Int)], u.oneCell' = true := fun u hu => by rw [List.mem_singleton.1 hu]; rfl
                have h3a : nx.length + 1 ≤ maxLen := by unfold maxLen; omega
                have h4a : (nx.length + 1) * 8 ≤ 140737488355328 := by omega
                have h5a : w2.heap.size ≤ (w9.alloc (.cells #[.int .i64 (k : Int)] 3)).heap.size := by simp; have := hb9.size; omega
                go_wp2_with (first | (at_builtin; refine wpList_append_own _ rfl _ _ 101 rfl w2.heap.size 3 i0 (.int .i64 0) 1 8 Try.underlying101 hi hz0 hz1 hz2 rfl (by decide) _ _ _ rfl (hown9.alloc _) ⟨w9.heap.size, 0, none⟩ 1 1 [.int .i64 (k : Int)] rfl rfl h1a h2a h3a h4a h5a ?_))
                intro va w10 oa hga _
                have hbAa := bel_alloc (Below.refl w9.heap.size w9) (.cells #[.int .i64 (k : Int)] 3)
                replace hb9 := (below_on hb9 hbAa).grown hga (below_on hb9 hbAa).size (fun q' hq => (World.ownsRow.lt hown9 q' hq).1)
                have ea : w10.ownsRow w2.heap.size 3 1 va (nx ++ [k]).length (iv (nx ++ [k])) := by
                  rw [iv_append, List.length_append]
                  exact oa
                clear hbAa hga oa h1a h2a h3a h4a h5a
                clear ck9 hown9
                have ck10 : w10.cell? ⟨gk, j, none⟩ = some (.int .i64 (c : Int)) := cell_later hb9 hck2
                obtain ⟨nz, HNZ⟩ := hid_ex (nx ++ [k])
                rw [HNZ.out] at ea
                have hnz : nz.length ≤ 102 := by rw [← HNZ.out, List.length_append]; simp only [List.length_singleton]; omega
                obtain ⟨Q2, qc2, rfl⟩ := own_sl ea
                have h1b : ∀ q u, [Value.int .i64 (c : Int)][q]? = some u → (w10.alloc (.cells #[.int .i64 (c : Int)] 3)).cell? ((⟨w10.heap.size, 0, none⟩ : Addr).add q) = some u := fun q u hq => (cells_new w10 [Value.int .i64 (c : Int)] 3 q).trans hq
                have h2b : ∀ u ∈ [Value.int .i64 (c : Int)], u.oneCell' = true := fun u hu => by rw [List.mem_singleton.1 hu]; rfl
                have h3b : nz.length + 1 ≤ maxLen := by unfold maxLen; omega
                have h4b : (nz.length + 1) * 8 ≤ 140737488355328 := by omega
                have h5b : w2.heap.size ≤ (w10.alloc (.cells #[.int .i64 (c : Int)] 3)).heap.size := by simp; have := hb9.size; omega
                go_wp2_with (first | (at_builtin; refine wpList_append_own _ rfl _ _ 101 rfl w2.heap.size 3 i0 (.int .i64 0) 1 8 Try.underlying101 hi hz0 hz1 hz2 rfl (by decide) _ _ _ rfl (ea.alloc _) ⟨w10.heap.size, 0, none⟩ 1 1 [.int .i64 (c : Int)] rfl rfl h1b h2b h3b h4b h5b ?_))
                intro vb w11 ob hgb _
                have hbAb := bel_alloc (Below.refl w10.heap.size w10) (.cells #[.int .i64 (c : Int)] 3)
                replace hb9 := (below_on hb9 hbAb).grown hgb (below_on hb9 hbAb).size (fun q' hq => (World.ownsRow.lt ea q' hq).1)
                have eb : w11.ownsRow w2.heap.size 3 1 vb (nz ++ [c]).length (iv (nz ++ [c])) := by
                  rw [iv_append, List.length_append]
                  exact ob
                clear hbAb hgb ob h1b h2b h3b h4b h5b
                clear ck10 ea
                have HI2 : NI (aI l) k ks (j + 1) true (nz ++ [c]) := by
                  rw [← HNZ.out]
                  exact HI
                go_wp2_with fail
                go_roundw
                case rel => exact ⟨j + 1, true, nz ++ [c], by simp, by omega, rfl, eb, HI2, hb9⟩
                case measure => simp [intOf]; omega
            case' true =>
              have HI : NI (aI l) k ks (j + 1) true (nx ++ [c]) := by
                have := NI_on hjt HNI
                rw [HC.out] at this
                exact this
              clear HNI HZ HC HGK
              go_wp2_with fail
              have hs : Calm.Stays (fun w' => w'.rangeAt g (o + k * 9) (El.cells yy) ∧ w'.rangeAt g (o + c * 9) (El.cells yc) ∧ w'.cell? ⟨gk, j, none⟩ = some (.int .i64 (c : Int)) ∧ w'.ownsRow w2.heap.size 3 1 (.slice Q nx.length qc) nx.length (iv nx) ∧ Below w2.heap.size w2 w') := fun wa wb h hb => ⟨range_later h.1 hb, range_later h.2.1 hb, cell_later hb h.2.2.1, own_later h.2.2.2.1 hb, below_on h.2.2.2.2 hb⟩
              refine Calm.region (by kernel_rfl) (by kernel_rfl) (fun w' => w'.rangeAt g (o + k * 9) (El.cells yy) ∧ w'.rangeAt g (o + c * 9) (El.cells yc) ∧ w'.cell? ⟨gk, j, none⟩ = some (.int .i64 (c : Int)) ∧ w'.ownsRow w2.heap.size 3 1 (.slice Q nx.length qc) nx.length (iv nx) ∧ Below w2.heap.size w2 w') ⟨dk, dc, ck, hown, hbel.drew⟩ ?_
              all_goals
                refine Calm.pure (v := ?_) (by rfl) ?_ ?_
                rotate_left
                focus (intro w hSw; go_simp <;> rfl)
                simp only [Act.put, List.setIfInBounds_toArray, List.set_cons_zero, List.set_cons_succ]
              all_goals
                refine Calm.pure (v := ?_) (by rfl) ?_ ?_
                rotate_left
                focus (intro w hSw; go_simp <;> rfl)
                simp only [Act.put, List.setIfInBounds_toArray, List.set_cons_zero, List.set_cons_succ]
              all_goals
                refine Calm.pure (v := ?_) (by rfl) ?_ ?_
                rotate_left
                focus (intro w hSw; go_simp <;> rfl)
                simp only [Act.put, List.setIfInBounds_toArray, List.set_cons_zero, List.set_cons_succ]
              all_goals
                first
                  | (refine Calm.skip ?_ ?_; focus rfl)
                  | (refine Calm.pure (v := ?_) (by rfl) ?_ ?_
                     rotate_left
                     focus (intro w hSw; go_simp <;> rfl))
                simp only [Act.put, List.setIfInBounds_toArray, List.set_cons_zero, List.set_cons_succ]
              all_goals
                first
                  | (refine Calm.skip ?_ ?_; focus rfl)
                  | (refine Calm.pure (v := ?_) (by rfl) ?_ ?_
                     rotate_left
                     focus (intro w hSw; go_simp <;> rfl))
                simp only [Act.put, List.setIfInBounds_toArray, List.set_cons_zero, List.set_cons_succ]
              all_goals
                first
                  | (refine Calm.skip ?_ ?_; focus rfl)
                  | (refine Calm.pure (v := ?_) (by rfl) ?_ ?_
                     rotate_left
                     focus (intro w hSw; go_simp <;> rfl))
                simp only [Act.put, List.setIfInBounds_toArray, List.set_cons_zero, List.set_cons_succ]
              all_goals
                first
                  | (refine Calm.skip ?_ ?_; focus rfl)
                  | (first | (refine Calm.loadM 43 Try.underlying43 rfl zk (by rfl) _ rfl rfl (fun _ h => h.1) ?_) | (refine Calm.loadM 43 Try.underlying43 rfl zc (by rfl) _ rfl rfl (fun _ h => h.2.1) ?_))
                simp only [Act.put, List.setIfInBounds_toArray, List.set_cons_zero, List.set_cons_succ]
              all_goals
                first
                  | (refine Calm.skip ?_ ?_; focus rfl)
                  | (refine Calm.pure (v := ?_) (by rfl) ?_ ?_
                     rotate_left
                     focus (intro w hSw; go_simp <;> rfl))
                simp only [Act.put, List.setIfInBounds_toArray, List.set_cons_zero, List.set_cons_succ]
              all_goals
                first
                  | (refine Calm.skip ?_ ?_; focus rfl)
                  | (refine Calm.pure (v := ?_) (by rfl) ?_ ?_
                     rotate_left
                     focus (intro w hSw; go_simp <;> rfl))
                simp only [Act.put, List.setIfInBounds_toArray, List.set_cons_zero, List.set_cons_succ]
              all_goals
                first
                  | (refine Calm.skip ?_ ?_; focus rfl)
                  | (refine Calm.pure (v := ?_) (by rfl) ?_ ?_
                     rotate_left
                     focus (intro w hSw; go_simp <;> rfl))
                simp only [Act.put, List.setIfInBounds_toArray, List.set_cons_zero, List.set_cons_succ]
              all_goals
                first
                  | (refine Calm.skip ?_ ?_; focus rfl)
                  | (refine Calm.pure (v := ?_) (by rfl) ?_ ?_
                     rotate_left
                     focus (intro w hSw; go_simp <;> rfl))
                simp only [Act.put, List.setIfInBounds_toArray, List.set_cons_zero, List.set_cons_succ]
              all_goals
                first
                  | (refine Calm.skip ?_ ?_; focus rfl)
                  | (refine Calm.pure (v := ?_) (by rfl) ?_ ?_
                     rotate_left
                     focus (intro w hSw; go_simp <;> rfl))
                simp only [Act.put, List.setIfInBounds_toArray, List.set_cons_zero, List.set_cons_succ]
              all_goals
                first
                  | (refine Calm.skip ?_ ?_; focus rfl)
                  | (refine Calm.pure (v := ?_) (by rfl) ?_ ?_
                     rotate_left
                     focus (intro w hSw; go_simp <;> rfl))
                simp only [Act.put, List.setIfInBounds_toArray, List.set_cons_zero, List.set_cons_succ]
              all_goals
                first
                  | (refine Calm.skip ?_ ?_; focus rfl)
                  | (first | (refine Calm.loadM 43 Try.underlying43 rfl zk (by rfl) _ rfl rfl (fun _ h => h.1) ?_) | (refine Calm.loadM 43 Try.underlying43 rfl zc (by rfl) _ rfl rfl (fun _ h => h.2.1) ?_))
                simp only [Act.put, List.setIfInBounds_toArray, List.set_cons_zero, List.set_cons_succ]
              all_goals
                first
                  | (refine Calm.skip ?_ ?_; focus rfl)
                  | (refine Calm.call2s (by rfl) rfl rfl rfl (by kernel_rfl) hs (fun w1 h => CA w1) ?_)
                simp only [Act.put, List.setIfInBounds_toArray, List.set_cons_zero, List.set_cons_succ]
              all_goals
                refine Calm.pure (v := ?_) (by rfl) ?_ ?_
                rotate_left
                focus (intro w hSw; go_simp <;> rfl)
                simp only [Act.put, List.setIfInBounds_toArray, List.set_cons_zero, List.set_cons_succ]
              all_goals
                rintro w9 ⟨_, _, ck9, hown9, hb9⟩
              clear CA dk dc ck hown hbel
              have h1a : ∀ q u, [Value.int .i64 (c : Int)][q]? = some u → (w9.alloc (.cells #[.int .i64 (c : Int)] 3)).cell? ((⟨w9.heap.size, 0, none⟩ : Addr).add q) = some u := fun q u hq => (cells_new w9 [Value.int .i64 (c : Int)] 3 q).trans hq
              have h2a : ∀ u ∈ [Value.int .i64 (c : Int)], u.oneCell' = true := fun u hu => by rw [List.mem_singleton.1 hu]; rfl
              have h3a : nx.length + 1 ≤ maxLen := by unfold maxLen; omega
              have h4a : (nx.length + 1) * 8 ≤ 140737488355328 := by omega
              have h5a : w2.heap.size ≤ (w9.alloc (.cells #[.int .i64 (c : Int)] 3)).heap.size := by simp; have := hb9.size; omega
              go_wp2_with (first | (at_builtin; refine wpList_append_own _ rfl _ _ 101 rfl w2.heap.size 3 i0 (.int .i64 0) 1 8 Try.underlying101 hi hz0 hz1 hz2 rfl (by decide) _ _ _ rfl (hown9.alloc _) ⟨w9.heap.size, 0, none⟩ 1 1 [.int .i64 (c : Int)] rfl rfl h1a h2a h3a h4a h5a ?_))
              intro va w10 oa hga _
              have hbAa := bel_alloc (Below.refl w9.heap.size w9) (.cells #[.int .i64 (c : Int)] 3)
              replace hb9 := (below_on hb9 hbAa).grown hga (below_on hb9 hbAa).size (fun q' hq => (World.ownsRow.lt hown9 q' hq).1)
              have ea : w10.ownsRow w2.heap.size 3 1 va (nx ++ [c]).length (iv (nx ++ [c])) := by
                rw [iv_append, List.length_append]
                exact oa
              clear hbAa hga oa h1a h2a h3a h4a h5a
              clear ck9 hown9
              go_wp2_with fail
              go_roundw
              case rel => exact ⟨j + 1, true, nx ++ [c], by simp, by omega, rfl, ea, HI, hb9⟩
              case measure => simp [intOf]; omega
          case' neg =>
            obtain rfl : j = ks.length := by omega
            have hjt' : ¬ (ks.length : Int) < (ks.length : Int) := by omega
            have hb9 := hbel
            clear hd2
            cases fl
            case' true =>
              have HE : Hid (nx = insS (aI l) k ks) := NI_end HNI
              go_wp2_with fail
              go_roundw
              case rel => exact ⟨k + 1, by simp, by omega, by rw [HN.out, ← HE.out]; exact own_mono hown HB2.out.size, range_later HD2.out hb9, below_on HB2.out hb9⟩
              case measure => simp [intOf]; omega
            case' false =>
              have HE : Hid (nx ++ [k] = insS (aI l) k ks) := NI_last HNI
              have h1a : ∀ q u, [Value.int .i64 (k : Int)][q]? = some u → (wr.alloc (.cells #[.int .i64 (k : Int)] 3)).cell? ((⟨wr.heap.size, 0, none⟩ : Addr).add q) = some u := fun q u hq => (cells_new wr [Value.int .i64 (k : Int)] 3 q).trans hq
              have h2a : ∀ u ∈ [Value.int .i64 (k : Int)], u.oneCell' = true := fun u hu => by rw [List.mem_singleton.1 hu]; rfl
              have h3a : nx.length + 1 ≤ maxLen := by unfold maxLen; omega
              have h4a : (nx.length + 1) * 8 ≤ 140737488355328 := by omega
              have h5a : w2.heap.size ≤ (wr.alloc (.cells #[.int .i64 (k : Int)] 3)).heap.size := by simp; have := hb9.size; omega
              go_wp2_with (first | (at_builtin; refine wpList_append_own _ rfl _ _ 101 rfl w2.heap.size 3 i0 (.int .i64 0) 1 8 Try.underlying101 hi hz0 hz1 hz2 rfl (by decide) _ _ _ rfl (hown.alloc _) ⟨wr.heap.size, 0, none⟩ 1 1 [.int .i64 (k : Int)] rfl rfl h1a h2a h3a h4a h5a ?_))
              intro va w10 oa hga _
              have hbAa := bel_alloc (Below.refl wr.heap.size wr) (.cells #[.int .i64 (k : Int)] 3)
              replace hb9 := (below_on hb9 hbAa).grown hga (below_on hb9 hbAa).size (fun q' hq => (World.ownsRow.lt hown q' hq).1)
              have ea : w10.ownsRow w2.heap.size 3 1 va (nx ++ [k]).length (iv (nx ++ [k])) := by
                rw [iv_append, List.length_append]
                exact oa
              clear hbAa hga oa h1a h2a h3a h4a h5a
              go_wp2_with fail
              go_roundw
              case rel => exact ⟨k + 1, by simp, by omega, by rw [HN.out, ← HE.out]; exact own_mono ea HB2.out.size, range_later HD2.out hb9, below_on HB2.out hb9⟩
              case measure => simp [intOf]; omega
    case' neg =>
      obtain rfl : k = l.length := by omega
      have hlt' : ¬ (l.length : Int) < (l.length : Int) := by omega
      go_wp2_with fail
      have HB2 : Hid (Below w.heap.size w wr) := hbel
      have HO2 : Hid (wr.ownsRow w.heap.size 3 1 (.slice P ks.length cc) ks.length (iv ks)) := hown
      clear hown db hbel hk
      obtain ⟨w2, HW2⟩ := hid_ex wr
      rw [HW2.out] at HB2 HO2 ⊢
      clear HW2
      rw [HKS.out] at HLEN
      go_loopw [10, 11] (fun vo vi wr => ∃ j : Nat, vi = .int .i64 j ∧ j ≤ ks.length ∧ wr.ownsRow w2.heap.size 3 1 vo ((ks.take j).flatMap (fun c => c :: bI l f (mI l c))).length (iv ((ks.take j).flatMap (fun c => c :: bI l f (mI l c)))) ∧ Below w2.heap.size w2 wr) (fun _ vi _ => ks.length - (intOf vi).toNat)
      case atStart => exact ⟨0, rfl, by omega, World.ownsRow_nil _ _ _ _, Below.refl _ _⟩
      case round =>
        obtain ⟨j, rfl, hj, hown, hb9⟩ := hrel
        by_cases hjt : j < ks.length
        case' pos =>
          have hjt' : (j : Int) < (ks.length : Int) := by omega
          have hj0 : (0 : Int) ≤ (j : Int) := by omega
          obtain ⟨c, HC⟩ := hid_ex ks[j]
          have hcm : c ∈ kI l (kM m) l.length := by rw [HKS.out, ← HC.out]; exact List.getElem_mem _
          have hck : c < l.length := (kI_mem hcm).1
          have hc0 : (0 : Int) ≤ (c : Int) := by omega
          have hc1 : (c : Int) < (l.length : Int) := by omega
          have HT : Hid ((ks.take (j + 1)).flatMap (fun c => c :: bI l f (mI l c)) = (ks.take j).flatMap (fun c => c :: bI l f (mI l c)) ++ [c] ++ bI l f (mI l c)) := by
            show _ = _
            rw [List.take_succ_eq_append_getElem hjt, List.flatMap_append, HC.out]
            simp
          have hL := flat_take (g := (fun c => c :: bI l f (mI l c))) ks (j + 1)
          rw [HT.out, List.length_append, List.length_append, List.length_singleton] at hL
          have hL2 := HLEN.out
          have C := HCR2.out c hcm
          obtain ⟨r, HR2⟩ := hid_ex (bI l f (mI l c))
          rw [HR2.out] at HT hL C
          obtain ⟨L, HLL⟩ := hid_ex ((ks.take j).flatMap (fun c => c :: bI l f (mI l c)))
          rw [HLL.out] at HT hL hown
          replace hL : L.length + 1 + r.length ≤ 100 := Nat.le_trans hL hL2
          clear hL2
          obtain ⟨Q, qc, rfl⟩ := own_sl hown
          obtain ⟨gk, ok, e1, hrk⟩ := (own_sh HO2.out).at (by omega)
          obtain ⟨gk', e2, _⟩ := own_some HO2.out (by omega)
          rw [e2] at e1
          simp only [Option.some.injEq, Addr.mk.injEq, and_true] at e1
          obtain ⟨rfl, rfl⟩ := e1
          subst e2
          have hck2 : w2.cell? ⟨gk', j, none⟩ = some (.int .i64 (c : Int)) := by
            have := hrk j _ (iv_at hjt)
            rw [Nat.zero_add, HC.out] at this
            exact this
          clear hrk
          have ck : wr.cell? ⟨gk', j, none⟩ = some (.int .i64 (c : Int)) := cell_later hb9 hck2
          obtain ⟨g, o, rfl, hd0⟩ := HR.out.at (by omega)
          have dw : w.rangeAt g (o + c * 9) (El.cells (ys[c]'(by omega))) := range_sub hd0 (c * 9) fun j u hu => rows_at El.len ys c (by omega) j u hu
          have ey : (ys[c]'(by omega)).1 = gL l (c + 1) := by rw [gL_succ hck, HL.out c (by omega) hck]
          obtain ⟨yy, HX⟩ := hid_ex (ys[c]'(by omega))
          rw [HX.out] at dw ey
          obtain ⟨y, yv⟩ := yy
          replace ey : y = gL l (c + 1) := ey
          rw [← ey] at C
          have dm : w.rangeAt g (o + c * 9) [Value.int .i64 y.p, .int .i64 y.s, .int .i64 y.i] := range_sub (o := o + c * 9) (xs := El.cells (y, yv)) dw 0 (fun j a ha => by
            rw [Nat.zero_add]
            match j, ha with
            | 0, h => exact h
            | 1, h => exact h
            | 2, h => exact h
            | j + 3, h => simp at h)
          have zu : (Try.prog.info? 39).map (·.size) = some [Value.int .i64 y.p, .int .i64 y.s, .int .i64 y.i].length := size39
          clear hd0 dw ey HX hcm HR2 HC
          have h1a : ∀ q u, [Value.int .i64 (c : Int)][q]? = some u → (wr.alloc (.cells #[.int .i64 (c : Int)] 3)).cell? ((⟨wr.heap.size, 0, none⟩ : Addr).add q) = some u := fun q u hq => (cells_new wr [Value.int .i64 (c : Int)] 3 q).trans hq
          have h2a : ∀ u ∈ [Value.int .i64 (c : Int)], u.oneCell' = true := fun u hu => by rw [List.mem_singleton.1 hu]; rfl
          have h3a : L.length + 1 ≤ maxLen := by unfold maxLen; omega
          have h4a : (L.length + 1) * 8 ≤ 140737488355328 := by omega
          have h5a : w2.heap.size ≤ (wr.alloc (.cells #[.int .i64 (c : Int)] 3)).heap.size := by simp; have := hb9.size; omega
          go_wp2_with (first | (at_builtin; refine wpList_append_own _ rfl _ _ 101 rfl w2.heap.size 3 i0 (.int .i64 0) 1 8 Try.underlying101 hi hz0 hz1 hz2 rfl (by decide) _ _ _ rfl (hown.alloc _) ⟨wr.heap.size, 0, none⟩ 1 1 [.int .i64 (c : Int)] rfl rfl h1a h2a h3a h4a h5a ?_))
          intro va w10 oa hga _
          have hbAa := bel_alloc (Below.refl wr.heap.size wr) (.cells #[.int .i64 (c : Int)] 3)
          replace hb9 := (below_on hb9 hbAa).grown hga (below_on hb9 hbAa).size (fun q' hq => (World.ownsRow.lt hown q' hq).1)
          have ea : w10.ownsRow w2.heap.size 3 1 va (L ++ [c]).length (iv (L ++ [c])) := by
            rw [iv_append, List.length_append]
            exact oa
          clear hbAa hga oa h1a h2a h3a h4a h5a
          have d10 := range_later dm (below_on HB2.out hb9)
          have ck10 : w10.cell? ⟨gk', j, none⟩ = some (.int .i64 (c : Int)) := cell_later hb9 hck2
          have C1 := C w10 (below_on HB2.out hb9)
          clear C ck hown
          go_wp2_with (first | refine load_m 39 _ rfl rfl _ _ rfl d10 Try.underlying39 rfl zu ?_)
          refine C1.mono ?_
          clear C1 d10 ck10
          rintro e w11 ⟨u, rfl, ou, hb11⟩
          replace ea := own_later ea hb11
          obtain ⟨L2, HL2⟩ := hid_ex (L ++ [c])
          have hl2 : L2.length = L.length + 1 := by rw [← HL2.out]; simp
          rw [HL2.out] at ea HT
          obtain ⟨Q3, qc3, rfl⟩ := own_sl ea
          have hx1 : L2.length + r.length ≤ maxLen := by unfold maxLen; omega
          have hx2 : (L2.length + r.length) * 8 ≤ 140737488355328 := by omega
          have hx3 : w2.heap.size ≤ w11.heap.size := Nat.le_trans hb9.size hb11.size
          replace hb9 := below_on hb9 hb11
          clear hl2 HL2 hL hb11
          go_wp2_with (first | (at_builtin; refine wpList_append_rows rfl _ _ 101 rfl w2.heap.size 3 i0 (.int .i64 0) 1 8 Try.underlying101 hi hz0 hz1 hz2 rfl (by decide) _ _ _ rfl ea _ u _ _ rfl ou (iv_one _) hx1 hx2 hx3 ?_))
          intro v2 w12 o12 hg12
          replace hb9 := hb9.grown hg12 hb9.size (fun q' hq => (World.ownsRow.lt ea q' hq).1)
          have e12 : w12.ownsRow w2.heap.size 3 1 v2 (L2 ++ r).length (iv (L2 ++ r)) := by
            rw [iv_append, List.length_append]
            exact o12
          clear o12 hg12 ea ou hx1 hx2 hx3
          go_wp2_with fail
          go_roundw
          case rel => exact ⟨j + 1, by simp, by omega, by rw [HT.out]; exact e12, hb9⟩
          case measure => simp [intOf]; omega
        case' neg =>
          obtain rfl : j = ks.length := by omega
          have hjt' : ¬ (ks.length : Int) < (ks.length : Int) := by omega
          rw [List.take_length] at hown
          obtain ⟨L, HLL⟩ := hid_ex (ks.flatMap (fun c => c :: bI l f (mI l c)))
          rw [HLL.out] at hown
          obtain ⟨Q, qc, rfl⟩ := own_sl hown
          go_wp2_with fail
          go_ret
          exact ⟨_, rfl, by rw [HKS.out, HLL.out]; exact own_mono hown HB2.out.size, below_on HB2.out hb9⟩
end Go.Proofs.Ytfjpbmdmkcihcaa
/- There of the document's answer: the places of what is there, in its order. -/
namespace Go.Proofs.Ytfjpbmdmkcihcaa
open Go.RowKit

theorem behind_any {v : Value} {l : List El} (hT : Tre l) (hl : l.length ≤ 100) {R : K → Nat} (hR : Rk kE rE R l) {B : Nat} (hB : ∀ e ∈ l, R (kE e) ≤ B) : ∀ (f : Nat) (m : M) (w : World), EHas w v l → B ≤ f + R (kM m) → Calls Try.prog 73 #[v, MV m.p m.s m.i] w (BhPost (bI l (f + 1) (kM m)) w)
  | 0, m, w, h, hf => behind_step v l m 0 w h hl (Nat.le_trans (bI_len hT _ _) hl) (fun c hc w' hb => by
    exfalso
    obtain ⟨h1, h2⟩ := kI_mem hc
    have h3 := bI_rk hR c (List.mem_range.2 h1)
    have h4 : R (mI l c) ≤ B := hB _ (mI_mem h1)
    rw [h2] at h3
    omega)
  | f + 1, m, w, h, hf => behind_step v l m (f + 1) w h hl (Nat.le_trans (bI_len hT _ _) hl) (fun c hc w' hb => by
    obtain ⟨h1, h2⟩ := kI_mem hc
    have h3 := bI_rk hR c (List.mem_range.2 h1)
    rw [h2] at h3
    exact behind_any hT hl hR hB f (mE (gL l (c + 1))) w' (h.later hb) (by
      show B ≤ f + R (mI l c)
      omega))
/-- The places of what is there. -/
def thI (l : List El) : List Nat := (bI l (l.length + 1) zK).filter (fun i => nog (gL l (i + 1)))
theorem thI_map {l : List El} (h : Tre l) : (thI l).map (fun i => gL l (i + 1)) = prE l := by
  unfold thI
  rw [prE_eq h, ← bI_fuel h (Nat.le_succ _), List.filter_map]
  rfl
theorem thI_lt {l : List El} {i : Nat} (h : i ∈ thI l) : i < l.length := bI_lt (List.mem_filter.1 h).1
theorem thI_len {l : List El} (h : Tre l) : (thI l).length ≤ l.length := Nat.le_trans (List.length_filter_le _ _) (bI_len h _ _)
set_option maxHeartbeats 4000000 in
set_option maxRecDepth 100000 in
theorem there_any (x : X) (va vw vm ve : Value) (w : World) (h : Four w x va vw vm ve) (hs : Sm x) (hc : ck x = true) : Calls Try.prog 60 #[CV x.k x.b va vw vm ve] w (BhPost (thI x.el) w) := by
  obtain ⟨i0, hi, hz0, hz1, hz2⟩ := info_parts info3
  have hT := tre_ck hc
  obtain ⟨R, hR, hB⟩ := hT.bd
  have hl := hs.e
  have C1 := fun w' (hb : Below w.heap.size w w') => behind_any (v := ve) hT hl hR hB x.el.length ⟨0, 0, 0⟩ w' (h.e.later hb) (Nat.le_add_right _ _)
  unfold thI
  obtain ⟨bs_, HBS⟩ := hid_ex (bI x.el (x.el.length + 1) zK)
  have hbl : bs_.length ≤ 100 := by rw [← HBS.out]; exact Nat.le_trans (bI_len hT _ _) hl
  have HBM : Hid (∀ i ∈ bs_, i < x.el.length) := fun i hi => by rw [← HBS.out] at hi; exact bI_lt hi
  rw [show kM ⟨0, 0, 0⟩ = zK from rfl, HBS.out] at C1
  rw [HBS.out]
  obtain ⟨pa, ca', pw, cw, pm, cm, pe, ce, rfl, rfl, rfl, rfl⟩ := h.slices
  obtain ⟨ys, hys, hse, hy⟩ := h.e
  have hyl : ys.length = x.el.length := by rw [← hys, List.length_map]
  have HR : Hid (SHas 9 w (.slice pe x.el.length ce) x.el.length (rows El.cells ys)) := hse
  have HY : Hid (∀ y ∈ ys, MHas w y.2 y.1.gone) := hy
  have HL : Hid (∀ k (h1 : k < ys.length) (h2 : k < x.el.length), ys[k].1 = x.el[k]) := fun k h1 h2 => by
    simp only [← hys, List.getElem_map]
  clear hse hy hys h hT hR hB hc HBS
  have R0 := rw_new w 27 (cvc x.k x.b (.slice pa x.am.length ca') (.slice pw x.wr.length cw) (.slice pm x.mb.length cm) (.slice pe x.el.length ce))
  have hb0 := bel_alloc (Below.refl w.heap.size w) (.cells (cvc x.k x.b (.slice pa x.am.length ca') (.slice pw x.wr.length cw) (.slice pm x.mb.length cm) (.slice pe x.el.length ce)) 27)
  generalize hW : w.alloc (.cells (cvc x.k x.b (.slice pa x.am.length ca') (.slice pw x.wr.length cw) (.slice pm x.mb.length cm) (.slice pe x.el.length ce)) 27) = w0 at R0 hb0
  have c5 : w0.cell? ⟨w.heap.size, 5, none⟩ = some (.slice pe x.el.length ce) := R0.cell 5
  go_enter Try.func60, Try.ntmps60
  go_wp2_with (first | rw [hW])
  clear hW
  refine (C1 w0 hb0).mono ?_
  clear C1
  rintro e w1 ⟨u, rfl, ou, hb1⟩
  have hb2 := below_on hb0 hb1
  have c52 := cell_later hb1 c5
  obtain ⟨P, pc, rfl⟩ := own_sl ou
  clear hb0 hb1 c5 R0
  go_wp2_with fail
  have HB2 : Hid (Below w.heap.size w w1) := hb2
  have HO2 : Hid (w1.ownsRow w0.heap.size 3 1 (.slice P bs_.length pc) bs_.length (iv bs_)) := ou
  have HC2 : Hid (w1.cell? ⟨w.heap.size, 5, none⟩ = some (.slice pe x.el.length ce)) := c52
  clear ou hb2 c52
  obtain ⟨w2, HW2⟩ := hid_ex w1
  rw [HW2.out] at HB2 HO2 HC2 ⊢
  clear HW2
  go_loopw [4, 5] (fun vo vi wr => ∃ j : Nat, vi = .int .i64 j ∧ j ≤ bs_.length ∧ wr.ownsRow w2.heap.size 3 1 vo ((bs_.take j).filter (fun i => nog (gL x.el (i + 1)))).length (iv ((bs_.take j).filter (fun i => nog (gL x.el (i + 1))))) ∧ Below w2.heap.size w2 wr) (fun _ vi _ => bs_.length - (intOf vi).toNat)
  case atStart => exact ⟨0, rfl, by omega, World.ownsRow_nil _ _ _ _, Below.refl _ _⟩
  case round =>
    obtain ⟨j, rfl, hj, hown, hb9⟩ := hrel
    by_cases hjt : j < bs_.length
    case' pos =>
      have hjt' : (j : Int) < (bs_.length : Int) := by omega
      have hj0 : (0 : Int) ≤ (j : Int) := by omega
      obtain ⟨c, HC⟩ := hid_ex bs_[j]
      have hck : c < x.el.length := HBM.out c (by rw [← HC.out]; exact List.getElem_mem _)
      have hc0 : (0 : Int) ≤ (c : Int) := by omega
      have hc1 : (c : Int) < (x.el.length : Int) := by omega
      have HT : Hid ((bs_.take (j + 1)).filter (fun i => nog (gL x.el (i + 1))) = (bs_.take j).filter (fun i => nog (gL x.el (i + 1))) ++ [c].filter (fun i => nog (gL x.el (i + 1)))) := by
        show _ = _
        rw [List.take_succ_eq_append_getElem hjt, List.filter_append, HC.out]
      obtain ⟨L, HLL⟩ := hid_ex ((bs_.take j).filter (fun i => nog (gL x.el (i + 1))))
      have hL : L.length ≤ j := by
        rw [← HLL.out]
        exact Nat.le_trans (List.length_filter_le _ _) (by rw [List.length_take]; omega)
      rw [HLL.out] at HT hown
      obtain ⟨Q, qc, rfl⟩ := own_sl hown
      obtain ⟨gk0, ok, e1, hrk⟩ := (own_sh HO2.out).at (by omega)
      obtain ⟨gk, e2, _⟩ := own_some HO2.out (by omega)
      rw [e2] at e1
      simp only [Option.some.injEq, Addr.mk.injEq, and_true] at e1
      obtain ⟨rfl, rfl⟩ := e1
      subst e2
      have hck2 : w2.cell? ⟨gk, j, none⟩ = some (.int .i64 (c : Int)) := by
        have := hrk j _ (iv_at hjt)
        rw [Nat.zero_add, HC.out] at this
        exact this
      clear hrk HC
      have ck : wr.cell? ⟨gk, j, none⟩ = some (.int .i64 (c : Int)) := cell_later hb9 hck2
      obtain ⟨g, o, rfl, hd0⟩ := HR.out.at (by omega)
      have dw : w.rangeAt g (o + c * 9) (El.cells (ys[c]'(by omega))) := range_sub hd0 (c * 9) fun j u hu => rows_at El.len ys c (by omega) j u hu
      have ey : (ys[c]'(by omega)).1 = gL x.el (c + 1) := by rw [gL_succ hck, HL.out c (by omega) hck]
      have hyc := HY.out (ys[c]'(by omega)) (List.getElem_mem _)
      obtain ⟨yy, HX⟩ := hid_ex (ys[c]'(by omega))
      rw [HX.out] at dw ey hyc
      obtain ⟨y, yv⟩ := yy
      replace ey : y = gL x.el (c + 1) := ey
      replace hyc : MHas w yv y.gone := hyc
      obtain ⟨pg, cg, rfl⟩ := hyc.slice
      have c8 : w.cell? ⟨g, o + c * 9 + 8, none⟩ = some (.slice pg y.gone.length cg) := dw 8 _ rfl
      have cg8 : wr.cell? ⟨g, o + c * 9 + 8, none⟩ = some (.slice pg y.gone.length cg) := cell_later (below_on HB2.out hb9) c8
      have c5 := cell_later hb9 HC2.out
      clear hd0 dw HX hyc c8
      by_cases hg : y.gone.length = 0
      case' pos =>
        have hg' : ((y.gone.length : Int) == 0) = true := by simpa using hg
        have HN : Hid ([c].filter (fun i => nog (gL x.el (i + 1))) = [c]) := by
          show _ = _
          rw [List.filter_cons, if_pos]
          · rfl
          · rw [← ey]
            unfold nog
            exact decide_eq_true hg
        rw [HN.out] at HT
        clear HN ey hg
        go_wp2_with fail
        have hs : Calm.Stays (fun w' => w'.cell? ⟨w.heap.size, 5, none⟩ = some (.slice (some ⟨g, o, none⟩) x.el.length ce) ∧ w'.cell? ⟨gk, j, none⟩ = some (.int .i64 (c : Int)) ∧ w'.cell? ⟨g, o + c * 9 + 8, none⟩ = some (.slice pg y.gone.length cg) ∧ w'.ownsRow w2.heap.size 3 1 (.slice Q L.length qc) L.length (iv L) ∧ Below w2.heap.size w2 w') := fun wa wb h hb => ⟨cell_later hb h.1, cell_later hb h.2.1, cell_later hb h.2.2.1, own_later h.2.2.2.1 hb, below_on h.2.2.2.2 hb⟩
        refine Calm.region (by kernel_rfl) (by kernel_rfl) (fun w' => w'.cell? ⟨w.heap.size, 5, none⟩ = some (.slice (some ⟨g, o, none⟩) x.el.length ce) ∧ w'.cell? ⟨gk, j, none⟩ = some (.int .i64 (c : Int)) ∧ w'.cell? ⟨g, o + c * 9 + 8, none⟩ = some (.slice pg y.gone.length cg) ∧ w'.ownsRow w2.heap.size 3 1 (.slice Q L.length qc) L.length (iv L) ∧ Below w2.heap.size w2 w') ⟨c5, ck, cg8, hown, hb9.drew⟩ ?_
        all_goals
          refine Calm.pure (v := ?_) (by rfl) ?_ ?_
          rotate_left
          focus (intro w hSw; go_simp <;> rfl)
          simp only [Act.put, List.setIfInBounds_toArray, List.set_cons_zero, List.set_cons_succ]
        all_goals
          refine Calm.pure (v := ?_) (by rfl) ?_ ?_
          rotate_left
          focus (intro w hSw; go_simp <;> rfl)
          simp only [Act.put, List.setIfInBounds_toArray, List.set_cons_zero, List.set_cons_succ]
        all_goals
          refine Calm.pure (v := ?_) (by rfl) ?_ ?_
          rotate_left
          focus (intro w hSw; go_simp <;> rfl)
          simp only [Act.put, List.setIfInBounds_toArray, List.set_cons_zero, List.set_cons_succ]
        all_goals
          refine Calm.pure (v := ?_) (by rfl) ?_ ?_
          rotate_left
          focus (intro w hSw; go_simp <;> rfl)
          simp only [Act.put, List.setIfInBounds_toArray, List.set_cons_zero, List.set_cons_succ]
        all_goals
          refine Calm.pure (v := ?_) (by rfl) ?_ ?_
          rotate_left
          focus (intro w hSw; go_simp <;> rfl)
          simp only [Act.put, List.setIfInBounds_toArray, List.set_cons_zero, List.set_cons_succ]
        all_goals
          refine Calm.pure (v := ?_) (by rfl) ?_ ?_
          rotate_left
          focus (intro w hSw; go_simp <;> rfl)
          simp only [Act.put, List.setIfInBounds_toArray, List.set_cons_zero, List.set_cons_succ]
        all_goals
          refine Calm.pure (v := ?_) (by rfl) ?_ ?_
          rotate_left
          focus (intro w hSw; go_simp <;> rfl)
          simp only [Act.put, List.setIfInBounds_toArray, List.set_cons_zero, List.set_cons_succ]
        all_goals
          refine Calm.pure (v := ?_) (by rfl) ?_ ?_
          rotate_left
          focus (intro w hSw; go_simp <;> rfl)
          simp only [Act.put, List.setIfInBounds_toArray, List.set_cons_zero, List.set_cons_succ]
        all_goals
          refine Calm.pure (v := ?_) (by rfl) ?_ ?_
          rotate_left
          focus (intro w hSw; go_simp <;> rfl)
          simp only [Act.put, List.setIfInBounds_toArray, List.set_cons_zero, List.set_cons_succ]
        all_goals
          refine Calm.pure (v := ?_) (by rfl) ?_ ?_
          rotate_left
          focus (intro w hSw; go_simp <;> rfl)
          simp only [Act.put, List.setIfInBounds_toArray, List.set_cons_zero, List.set_cons_succ]
        all_goals
          refine Calm.pure (v := ?_) (by rfl) ?_ ?_
          rotate_left
          focus (intro w hSw; go_simp <;> rfl)
          simp only [Act.put, List.setIfInBounds_toArray, List.set_cons_zero, List.set_cons_succ]
        all_goals
          rintro w9 ⟨_, ck9, _, hown9, hb10⟩
        clear c5 ck cg8 hown hb9
        replace hb9 := hb10
        have h1a : ∀ q u, [Value.int .i64 (c : Int)][q]? = some u → (w9.alloc (.cells #[.int .i64 (c : Int)] 3)).cell? ((⟨w9.heap.size, 0, none⟩ : Addr).add q) = some u := fun q u hq => (cells_new w9 [Value.int .i64 (c : Int)] 3 q).trans hq
        have h2a : ∀ u ∈ [Value.int .i64 (c : Int)], u.oneCell' = true := fun u hu => by rw [List.mem_singleton.1 hu]; rfl
        have h3a : L.length + 1 ≤ maxLen := by unfold maxLen; omega
        have h4a : (L.length + 1) * 8 ≤ 140737488355328 := by omega
        have h5a : w2.heap.size ≤ (w9.alloc (.cells #[.int .i64 (c : Int)] 3)).heap.size := by simp; have := hb9.size; omega
        go_wp2_with (first | (at_builtin; refine wpList_append_own _ rfl _ _ 101 rfl w2.heap.size 3 i0 (.int .i64 0) 1 8 Try.underlying101 hi hz0 hz1 hz2 rfl (by decide) _ _ _ rfl (hown9.alloc _) ⟨w9.heap.size, 0, none⟩ 1 1 [.int .i64 (c : Int)] rfl rfl h1a h2a h3a h4a h5a ?_))
        intro va w10 oa hga _
        have hbAa := bel_alloc (Below.refl w9.heap.size w9) (.cells #[.int .i64 (c : Int)] 3)
        replace hb9 := (below_on hb9 hbAa).grown hga (below_on hb9 hbAa).size (fun q' hq => (World.ownsRow.lt hown9 q' hq).1)
        have ea : w10.ownsRow w2.heap.size 3 1 va (L ++ [c]).length (iv (L ++ [c])) := by
          rw [iv_append, List.length_append]
          exact oa
        clear hbAa hga oa h1a h2a h3a h4a h5a
        go_wp2_with fail
        go_roundw
        case rel => exact ⟨j + 1, by simp, by omega, by rw [HT.out]; exact ea, hb9⟩
        case measure => simp [intOf]; omega
      case' neg =>
        have hg' : ((y.gone.length : Int) == 0) = false := by simpa using hg
        have HN : Hid ([c].filter (fun i => nog (gL x.el (i + 1))) = []) := by
          show _ = _
          rw [List.filter_cons, if_neg]
          · rfl
          · rw [← ey]
            unfold nog
            simpa using hg
        rw [HN.out, List.append_nil] at HT
        clear HN ey hg
        go_wp2_with fail
        have hs : Calm.Stays (fun w' => w'.cell? ⟨w.heap.size, 5, none⟩ = some (.slice (some ⟨g, o, none⟩) x.el.length ce) ∧ w'.cell? ⟨gk, j, none⟩ = some (.int .i64 (c : Int)) ∧ w'.cell? ⟨g, o + c * 9 + 8, none⟩ = some (.slice pg y.gone.length cg) ∧ w'.ownsRow w2.heap.size 3 1 (.slice Q L.length qc) L.length (iv L) ∧ Below w2.heap.size w2 w') := fun wa wb h hb => ⟨cell_later hb h.1, cell_later hb h.2.1, cell_later hb h.2.2.1, own_later h.2.2.2.1 hb, below_on h.2.2.2.2 hb⟩
        refine Calm.region (by kernel_rfl) (by kernel_rfl) (fun w' => w'.cell? ⟨w.heap.size, 5, none⟩ = some (.slice (some ⟨g, o, none⟩) x.el.length ce) ∧ w'.cell? ⟨gk, j, none⟩ = some (.int .i64 (c : Int)) ∧ w'.cell? ⟨g, o + c * 9 + 8, none⟩ = some (.slice pg y.gone.length cg) ∧ w'.ownsRow w2.heap.size 3 1 (.slice Q L.length qc) L.length (iv L) ∧ Below w2.heap.size w2 w') ⟨c5, ck, cg8, hown, hb9.drew⟩ ?_
        all_goals
          refine Calm.pure (v := ?_) (by rfl) ?_ ?_
          rotate_left
          focus (intro w hSw; go_simp <;> rfl)
          simp only [Act.put, List.setIfInBounds_toArray, List.set_cons_zero, List.set_cons_succ]
        all_goals
          refine Calm.pure (v := ?_) (by rfl) ?_ ?_
          rotate_left
          focus (intro w hSw; go_simp <;> rfl)
          simp only [Act.put, List.setIfInBounds_toArray, List.set_cons_zero, List.set_cons_succ]
        all_goals
          refine Calm.pure (v := ?_) (by rfl) ?_ ?_
          rotate_left
          focus (intro w hSw; go_simp <;> rfl)
          simp only [Act.put, List.setIfInBounds_toArray, List.set_cons_zero, List.set_cons_succ]
        all_goals
          refine Calm.pure (v := ?_) (by rfl) ?_ ?_
          rotate_left
          focus (intro w hSw; go_simp <;> rfl)
          simp only [Act.put, List.setIfInBounds_toArray, List.set_cons_zero, List.set_cons_succ]
        all_goals
          refine Calm.pure (v := ?_) (by rfl) ?_ ?_
          rotate_left
          focus (intro w hSw; go_simp <;> rfl)
          simp only [Act.put, List.setIfInBounds_toArray, List.set_cons_zero, List.set_cons_succ]
        all_goals
          refine Calm.pure (v := ?_) (by rfl) ?_ ?_
          rotate_left
          focus (intro w hSw; go_simp <;> rfl)
          simp only [Act.put, List.setIfInBounds_toArray, List.set_cons_zero, List.set_cons_succ]
        all_goals
          refine Calm.pure (v := ?_) (by rfl) ?_ ?_
          rotate_left
          focus (intro w hSw; go_simp <;> rfl)
          simp only [Act.put, List.setIfInBounds_toArray, List.set_cons_zero, List.set_cons_succ]
        all_goals
          refine Calm.pure (v := ?_) (by rfl) ?_ ?_
          rotate_left
          focus (intro w hSw; go_simp <;> rfl)
          simp only [Act.put, List.setIfInBounds_toArray, List.set_cons_zero, List.set_cons_succ]
        all_goals
          refine Calm.pure (v := ?_) (by rfl) ?_ ?_
          rotate_left
          focus (intro w hSw; go_simp <;> rfl)
          simp only [Act.put, List.setIfInBounds_toArray, List.set_cons_zero, List.set_cons_succ]
        all_goals
          refine Calm.pure (v := ?_) (by rfl) ?_ ?_
          rotate_left
          focus (intro w hSw; go_simp <;> rfl)
          simp only [Act.put, List.setIfInBounds_toArray, List.set_cons_zero, List.set_cons_succ]
        all_goals
          refine Calm.pure (v := ?_) (by rfl) ?_ ?_
          rotate_left
          focus (intro w hSw; go_simp <;> rfl)
          simp only [Act.put, List.setIfInBounds_toArray, List.set_cons_zero, List.set_cons_succ]
        all_goals
          rintro w9 ⟨_, ck9, _, hown9, hb10⟩
        go_wp2_with fail
        go_roundw
        case rel => exact ⟨j + 1, by simp, by omega, by rw [HT.out]; exact hown9, hb10⟩
        case measure => simp [intOf]; omega
    case' neg =>
      obtain rfl : j = bs_.length := by omega
      have hjt' : ¬ (bs_.length : Int) < (bs_.length : Int) := by omega
      rw [List.take_length] at hown
      obtain ⟨L, HLL⟩ := hid_ex (bs_.filter (fun i => nog (gL x.el (i + 1))))
      rw [HLL.out] at hown
      obtain ⟨Q, qc, rfl⟩ := own_sl hown
      go_wp2_with fail
      go_ret
      exact ⟨_, rfl, by rw [HLL.out]; exact own_mono hown HB2.out.size, below_on HB2.out hb9⟩
end Go.Proofs.Ytfjpbmdmkcihcaa
/- Order of the document's answer, and whether an element is there. -/
namespace Go.Proofs.Ytfjpbmdmkcihcaa
open Go.RowKit
open Go.Sort

set_option maxHeartbeats 4000000 in
set_option maxRecDepth 100000 in
theorem refOrder_any (x : X) (va vw vm ve : Value) (w : World) (h : Four w x va vw vm ve) (hs : Sm x) : Calls Try.prog 37 #[CV x.k x.b va vw vm ve] w (OrPost x w) := by
  obtain ⟨i0, hi, hz0, hz1, hz2⟩ := info_parts info39
  obtain ⟨pa, ca', pw, cw, pm, cm, pe, ce, rfl, rfl, rfl, rfl⟩ := h.slices
  have HF : Hid (Four w x (.slice pa x.am.length ca') (.slice pw x.wr.length cw) (.slice pm x.mb.length cm) (.slice pe x.el.length ce)) := h
  clear h
  have R0 := rw_new w 27 (cvc x.k x.b (.slice pa x.am.length ca') (.slice pw x.wr.length cw) (.slice pm x.mb.length cm) (.slice pe x.el.length ce))
  have hb0 := bel_alloc (Below.refl w.heap.size w) (.cells (cvc x.k x.b (.slice pa x.am.length ca') (.slice pw x.wr.length cw) (.slice pm x.mb.length cm) (.slice pe x.el.length ce)) 27)
  generalize hW : w.alloc (.cells (cvc x.k x.b (.slice pa x.am.length ca') (.slice pw x.wr.length cw) (.slice pm x.mb.length cm) (.slice pe x.el.length ce)) 27) = w0 at R0 hb0
  obtain ⟨y1, HY1⟩ := hid_ex (ck x)
  have C1 := refCheck_any x _ _ _ _ w0 (HF.out.later hb0) hs
  rw [HY1.out] at C1
  go_enter Try.func37, Try.ntmps37
  go_wp2_with (first | rw [hW] | refine load_r 27 _ rfl rfl _ rfl R0 Try.underlying27 rfl size27 ?_)
  clear hW
  refine C1.mono ?_
  clear C1
  rintro e w1 ⟨rfl, hb1⟩
  replace R0 := R0.later hb1
  replace hb0 := below_on hb0 hb1
  clear hb1
  cases y1
  case' false =>
    go_wp2_with fail
    go_ret
    have e0 : orX x = [] := by
      unfold orX
      rw [HY1.out]
      rfl
    exact ⟨_, rfl, by rw [e0]; exact World.ownsRow_nil _ _ _ _, hb0⟩
  case' true =>
    have C2 := there_any x _ _ _ _ w1 (HF.out.later hb0) hs HY1.out
    have hT := tre_ck HY1.out
    have hth : (thI x.el).length ≤ 100 := Nat.le_trans (thI_len hT) hs.e
    have HTM : Hid (∀ i ∈ thI x.el, i < x.el.length) := fun i hi => thI_lt hi
    have HO : Hid (orX x = (thI x.el).map (fun i => mE (gL x.el (i + 1)))) := by
      show _ = _
      unfold orX
      rw [if_pos HY1.out, ← thI_map hT, List.map_map]
      rfl
    obtain ⟨th, HTH⟩ := hid_ex (thI x.el)
    rw [HTH.out] at C2 hth HTM HO
    clear hT HTH
    obtain ⟨ys, hys, hse, hy⟩ := HF.out.e
    have hyl : ys.length = x.el.length := by rw [← hys, List.length_map]
    have HR : Hid (SHas 9 w (.slice pe x.el.length ce) x.el.length (rows El.cells ys)) := hse
    have HL : Hid (∀ k (h1 : k < ys.length) (h2 : k < x.el.length), ys[k].1 = x.el[k]) := fun k h1 h2 => by
      simp only [← hys, List.getElem_map]
    clear hse hy hys
    go_wp2_with (first | refine load_r 27 _ rfl rfl _ rfl R0 Try.underlying27 rfl size27 ?_)
    refine C2.mono ?_
    clear C2
    rintro e w3 ⟨u, rfl, ou, hb1⟩
    obtain ⟨P, pc, rfl⟩ := own_sl ou
    have c52 : w3.cell? ⟨w.heap.size, 5, none⟩ = some (.slice pe x.el.length ce) := (R0.later hb1).cell 5
    have hb2 := below_on hb0 hb1
    clear hb0 hb1 R0
    go_wp2_with fail
    have HB2 : Hid (Below w.heap.size w w3) := hb2
    have HO2 : Hid (w3.ownsRow w1.heap.size 3 1 (.slice P th.length pc) th.length (iv th)) := ou
    have HC2 : Hid (w3.cell? ⟨w.heap.size, 5, none⟩ = some (.slice pe x.el.length ce)) := c52
    clear ou hb2 c52
    obtain ⟨w2, HW2⟩ := hid_ex w3
    rw [HW2.out] at HB2 HO2 HC2 ⊢
    clear HW2
    go_loopw [4, 5] (fun vo vi wr => ∃ j : Nat, vi = .int .i64 j ∧ j ≤ th.length ∧ wr.ownsRow w2.heap.size 39 3 vo j (rows M.cells ((th.take j).map (fun i => mE (gL x.el (i + 1))))) ∧ Below w2.heap.size w2 wr) (fun _ vi _ => th.length - (intOf vi).toNat)
    case atStart => exact ⟨0, rfl, by omega, World.ownsRow_nil _ _ _ _, Below.refl _ _⟩
    case round =>
      obtain ⟨j, rfl, hj, hown, hb9⟩ := hrel
      obtain ⟨Q, qc, rfl⟩ := own_sl hown
      by_cases hjt : j < th.length
      case' pos =>
        have hjt' : (j : Int) < (th.length : Int) := by omega
        have hj0 : (0 : Int) ≤ (j : Int) := by omega
        obtain ⟨c, HC⟩ := hid_ex th[j]
        have hck : c < x.el.length := HTM.out c (by rw [← HC.out]; exact List.getElem_mem _)
        have hc0 : (0 : Int) ≤ (c : Int) := by omega
        have hc1 : (c : Int) < (x.el.length : Int) := by omega
        obtain ⟨r, HRR⟩ := hid_ex (mE (gL x.el (c + 1)))
        have HT : Hid ((th.take (j + 1)).map (fun i => mE (gL x.el (i + 1))) = (th.take j).map (fun i => mE (gL x.el (i + 1))) ++ [r]) := by
          show _ = _
          rw [List.take_succ_eq_append_getElem hjt, List.map_append, HC.out]
          show _ ++ [mE (gL x.el (c + 1))] = _
          rw [HRR.out]
        obtain ⟨gk0, ok, e1, hrk⟩ := (own_sh HO2.out).at (by omega)
        obtain ⟨gk, e2, _⟩ := own_some HO2.out (by omega)
        rw [e2] at e1
        simp only [Option.some.injEq, Addr.mk.injEq, and_true] at e1
        obtain ⟨rfl, rfl⟩ := e1
        subst e2
        have ck2 : wr.cell? ⟨gk, j, none⟩ = some (.int .i64 (c : Int)) := by
          have := hrk j _ (iv_at hjt)
          rw [Nat.zero_add, HC.out] at this
          exact cell_later hb9 this
        clear hrk HC
        obtain ⟨g, o, rfl, hd0⟩ := HR.out.at (by omega)
        have dw : w.rangeAt g (o + c * 9) (El.cells (ys[c]'(by omega))) := range_sub hd0 (c * 9) fun j u hu => rows_at El.len ys c (by omega) j u hu
        have ey : mE (ys[c]'(by omega)).1 = r := by rw [HL.out c (by omega) hck, ← HRR.out, gL_succ hck]
        obtain ⟨yy, HX⟩ := hid_ex (ys[c]'(by omega))
        rw [HX.out] at dw ey
        obtain ⟨y, yv⟩ := yy
        have dm : w.rangeAt g (o + c * 9) [Value.int .i64 r.p, .int .i64 r.s, .int .i64 r.i] := by
          rw [← ey]
          exact range_sub (o := o + c * 9) (xs := El.cells (y, yv)) dw 0 (fun j a ha => by
            rw [Nat.zero_add]
            match j, ha with
            | 0, h => exact h
            | 1, h => exact h
            | 2, h => exact h
            | j + 3, h => simp at h)
        have d9 := range_later dm (below_on HB2.out hb9)
        have c5 := cell_later hb9 HC2.out
        have zu : (Try.prog.info? 39).map (·.size) = some [Value.int .i64 r.p, .int .i64 r.s, .int .i64 r.i].length := size39
        clear hd0 dw ey HX dm HRR
        go_wp2_with fail
        have hS : Calm.Stays (fun w' => Below wr.heap.size wr w') := fun wa wb h hb => below_on h hb
        have hF : Facts.Stay [pF 0 (eqP (.slice Q j qc)), pF 1 (eqP (.pointer (some ⟨w.heap.size, 5, none⟩))), pF 2 (eqP (.slice (some ⟨g, o, none⟩) x.el.length ce)), pF 3 (eqP (.slice (some ⟨gk, 0, none⟩) th.length pc)), pF 4 (eqP (.int .i64 j)), pF 5 (eqP (.pointer (some ⟨gk, j, none⟩))), pF 6 (eqP (.int .i64 c)), pF 7 (eqP (.pointer (some ⟨g, o + c * 9, none⟩))), pF 8 (eqP (.pointer (some ⟨g, o + c * 9, none⟩))), pF 9 (eqP (.agg [Value.int .i64 r.p, .int .i64 r.s, .int .i64 r.i].toArray)), pF 10 ((fun (v : Value) (w' : World) => ∃ g', v = .slice (some ⟨g', 0, none⟩) 1 1 ∧ w'.rangeAt g' 0 [Value.int .i64 r.p, .int .i64 r.s, .int .i64 r.i]))] := stay_of (by simp only [List.forall_mem_cons]; exact ⟨⟨_, _, rfl, eqP_keeps _⟩, ⟨_, _, rfl, eqP_keeps _⟩, ⟨_, _, rfl, eqP_keeps _⟩, ⟨_, _, rfl, eqP_keeps _⟩, ⟨_, _, rfl, eqP_keeps _⟩, ⟨_, _, rfl, eqP_keeps _⟩, ⟨_, _, rfl, eqP_keeps _⟩, ⟨_, _, rfl, eqP_keeps _⟩, ⟨_, _, rfl, eqP_keeps _⟩, ⟨_, _, rfl, eqP_keeps _⟩, ⟨_, _, rfl, (fun _ _ _ ⟨g, e, h⟩ hb => ⟨g, e, range_later h hb⟩)⟩, fun _ h => by cases h⟩)
        refine Facts.regionTail (by kernel_rfl) (by kernel_rfl) 11 (by decide) (by kernel_rfl) (fun w' => Below wr.heap.size wr w') (fun xv => { tmps := #[CV x.k x.b (Value.slice pa x.am.length ca') (Value.slice pw x.wr.length cw) (Value.slice pm x.mb.length cm) (Value.slice (some { block := g, off := o }) x.el.length ce), Value.pointer (some { block := w.heap.size, off := 0 }), Value.slice none 0 0, Value.slice (some { block := gk, off := 0 }) th.length pc, Value.slice Q j qc, Value.int IntKind.i64 ↑j, Value.agg (cvc x.k x.b (Value.slice pa x.am.length ca') (Value.slice pw x.wr.length cw) (Value.slice pm x.mb.length cm) (Value.slice (some { block := g, off := o }) x.el.length ce)), Value.bool true, Value.bool false, Value.agg (cvc x.k x.b (Value.slice pa x.am.length ca') (Value.slice pw x.wr.length cw) (Value.slice pm x.mb.length cm) (Value.slice (some { block := g, off := o }) x.el.length ce)), Value.slice (some { block := gk, off := 0 }) th.length pc, Value.int IntKind.i64 ↑j, Value.slice (some { block := gk, off := 0 }) th.length pc, Value.int IntKind.i64 ↑th.length, Value.bool true, u15, u16, xv 0, xv 1, xv 2, xv 3, xv 4, xv 5, xv 6, xv 7, xv 8, xv 9, xv 10, u28, undef], defers := [] }) [pF 0 (eqP (.slice Q j qc)), pF 1 (eqP (.pointer (some ⟨w.heap.size, 5, none⟩))), pF 2 (eqP (.slice (some ⟨g, o, none⟩) x.el.length ce)), pF 3 (eqP (.slice (some ⟨gk, 0, none⟩) th.length pc)), pF 4 (eqP (.int .i64 j)), pF 5 (eqP (.pointer (some ⟨gk, j, none⟩))), pF 6 (eqP (.int .i64 c)), pF 7 (eqP (.pointer (some ⟨g, o + c * 9, none⟩))), pF 8 (eqP (.pointer (some ⟨g, o + c * 9, none⟩))), pF 9 (eqP (.agg [Value.int .i64 r.p, .int .i64 r.s, .int .i64 r.i].toArray)), pF 10 ((fun (v : Value) (w' : World) => ∃ g', v = .slice (some ⟨g', 0, none⟩) 1 1 ∧ w'.rangeAt g' 0 [Value.int .i64 r.p, .int .i64 r.s, .int .i64 r.i]))] _ rfl rfl (by kernel_rfl) (fun j => [u17, u18, u19, u20, u21, u22, u23, u24, u25, u26, u27].getD j undef) rfl (Below.refl _ wr).drew ⟨?_, ?_, ?_, ?_, ?_, ?_, ?_, ?_, ?_, ?_, ?_, ?_, ?_, trivial⟩ ?_
        · exact fun _ => Facts.pureP hS hF (fun _ _ => rfl) rfl (fun xv wv hSw hd => by
            go_simp)
        · exact fun _ => Facts.pureP hS hF (fun _ _ => rfl) rfl (fun xv wv hSw hd => by
            go_simp)
        · exact fun _ => Facts.pureP hS hF (fun _ _ => rfl) rfl (fun xv wv hSw hd => by
            have d1 : xv 1 = _ := pF_get (hd ⟨1, .data⟩ (by simp) rfl _ rfl)
            have c5w := cell_later hSw c5
            have ckw := cell_later hSw ck2
            simp only [d1]
            go_simp)
        · exact fun _ => Facts.pureP hS hF (fun _ _ => rfl) rfl (fun xv wv hSw hd => by
            go_simp)
        · exact fun _ => Facts.pureP hS hF (fun _ _ => rfl) rfl (fun xv wv hSw hd => by
            go_simp)
        · exact fun _ => Facts.pureP hS hF (fun _ _ => rfl) rfl (fun xv wv hSw hd => by
            have d3 : xv 3 = _ := pF_get (hd ⟨3, .data⟩ (by simp) rfl _ rfl)
            have d4 : xv 4 = _ := pF_get (hd ⟨4, .data⟩ (by simp) rfl _ rfl)
            simp only [d3, d4]
            go_simp)
        · exact fun _ => Facts.pureP hS hF (fun _ _ => rfl) rfl (fun xv wv hSw hd => by
            have d5 : xv 5 = _ := pF_get (hd ⟨5, .data⟩ (by simp) rfl _ rfl)
            have c5w := cell_later hSw c5
            have ckw := cell_later hSw ck2
            simp only [d5]
            go_simp)
        · exact fun _ => Facts.pureP hS hF (fun _ _ => rfl) rfl (fun xv wv hSw hd => by
            have d2 : xv 2 = _ := pF_get (hd ⟨2, .data⟩ (by simp) rfl _ rfl)
            have d6 : xv 6 = _ := pF_get (hd ⟨6, .data⟩ (by simp) rfl _ rfl)
            simp only [d2, d6]
            go_simp)
        · exact fun _ => Facts.pureP hS hF (fun _ _ => rfl) rfl (fun xv wv hSw hd => by
            have d7 : xv 7 = _ := pF_get (hd ⟨7, .data⟩ (by simp) rfl _ rfl)
            simp only [d7]
            go_simp)
        · exact fun _ => Facts.loadP hS hF (fun _ _ => rfl) 39 Try.underlying39 rfl zu _ rfl rfl (fun xv wv hSw hd => by have d8 : xv 8 = _ := pF_get (hd ⟨8, .data⟩ (by simp) rfl _ rfl); exact d8) (fun wv hSw => range_later d9 hSw)
        · exact fun _ => Facts.makeD hS hF (fun _ _ => rfl) rfl (fun xv wv hSw hd => by
            have d9 : xv 9 = _ := pF_get (hd ⟨9, .data⟩ (by simp) rfl _ rfl)
            refine ⟨.slice (some ⟨wv.heap.size, 0, none⟩) 1 1, wv.alloc (.cells #[.int .i64 r.p, .int .i64 r.s, .int .i64 r.i] 39), ?_, bel_alloc (Below.refl _ _) _, wv.heap.size, rfl, Rw.whole (cs := [Value.int .i64 r.p, .int .i64 r.s, .int .i64 r.i]) (rw_new wv 39 #[.int .i64 r.p, .int .i64 r.s, .int .i64 r.i])⟩
            simp only [d9]
            go_simp)
        · exact fun h => absurd h (by decide)
        · exact fun h => absurd h (by decide)
        intro xr w6 hb5 hff
        have e0 : xr 0 = _ := pF_get (hff 0 _ rfl)
        obtain ⟨g1, e10, r10⟩ := pF_get (hff 10 _ rfl)
        clear hff hS hF
        have o6 := own_later hown hb5
        refine tail_append _ _ 41 rfl w2.heap.size 39 i0 (MV 0 0 0) 3 24 Try.underlying41 hi hz0 hz1 hz2 rfl (by decide) _ j _ e0 o6 ⟨g1, 0, none⟩ 1 1 [Value.int .i64 r.p, .int .i64 r.s, .int .i64 r.i] e10 rfl (fun q u hq => by rw [Addr.add_mid]; exact r10 q u hq) (M.one r) (by unfold maxLen; omega) (by omega) (Nat.le_trans hb9.size hb5.size) ?_
        intro v1 w7 o7 hg7
        refine tail_pure (v := v1) rfl ?_
        refine Facts.tailWp_nil ?_
        simp only [Act.put, List.setIfInBounds_toArray, List.set_cons_zero, List.set_cons_succ]
        have hb7 := (below_on hb9 hb5).grown hg7 (below_on hb9 hb5).size (fun q' hq => (World.ownsRow.lt o6 q' hq).1)
        have e7 : w7.ownsRow w2.heap.size 39 3 v1 (j + 1) (rows M.cells ((th.take (j + 1)).map (fun i => mE (gL x.el (i + 1))))) := by
          rw [HT.out, rows_append, rows_one]
          exact o7
        clear o7 hg7 o6 hb5 hb9 c5 ck2 d9 e0 e10 r10 hown
        go_wp2_with fail
        go_roundw
        case rel => exact ⟨j + 1, by simp, by omega, e7, hb7⟩
        case measure => simp [intOf]; omega
      case' neg =>
        obtain rfl : j = th.length := by omega
        have hjt' : ¬ (th.length : Int) < (th.length : Int) := by omega
        rw [List.take_length] at hown
        have HE : Hid (wr.ownsRow w2.heap.size 39 3 (.slice Q th.length qc) (orX x).length (rows M.cells (orX x))) := by
          show World.ownsRow _ _ _ _ _ _ _
          rw [HO.out, List.length_map]
          exact hown
        go_wp2_with fail
        go_ret
        exact ⟨_, rfl, own_mono HE.out HB2.out.size, below_on HB2.out hb9⟩
/-- Is one of that mark there? -/
def inX (x : X) (m : M) : Bool := (orX x).any (fun y => decide (kM y = kM m))
theorem mm_eq (y m : M) : decide (kM y = kM m) = (decide (y.p = m.p) && decide (y.s = m.s) && decide (y.i = m.i)) := by
  unfold kM
  by_cases h1 : y.p = m.p <;> by_cases h2 : y.s = m.s <;> by_cases h3 : y.i = m.i <;> simp [h1, h2, h3]
set_option maxHeartbeats 4000000 in
set_option maxRecDepth 100000 in
theorem in_any (x : X) (va vw vm ve : Value) (m : M) (w : World) (h : Four w x va vw vm ve) (hs : Sm x) : Calls Try.prog 15 #[CV x.k x.b va vw vm ve, MV m.p m.s m.i] w (Tells (.bool (inX x m)) w) := by
  obtain ⟨pa, ca', pw, cw, pm, cm, pe, ce, rfl, rfl, rfl, rfl⟩ := h.slices
  obtain ⟨z, HZ⟩ := hid_ex (inX x m)
  rw [HZ.out]
  obtain ⟨R0, R1, hb0⟩ := two_rows w (cvc x.k x.b (.slice pa x.am.length ca') (.slice pw x.wr.length cw) (.slice pm x.mb.length cm) (.slice pe x.el.length ce)) 27 #[.int .i64 m.p, .int .i64 m.s, .int .i64 m.i] 39
  have C1 := refOrder_any x _ _ _ _ _ (h.later hb0) hs
  generalize hW : (w.alloc (.cells (cvc x.k x.b (.slice pa x.am.length ca') (.slice pw x.wr.length cw) (.slice pm x.mb.length cm) (.slice pe x.el.length ce)) 27)).alloc (.cells #[.int .i64 m.p, .int .i64 m.s, .int .i64 m.i] 39) = w0 at R0 R1 hb0 C1
  unfold OrPost at C1
  have hlo : (orX x).length ≤ 100 := by
    unfold orX
    split
    · rename_i hc
      rw [List.length_map]
      exact Nat.le_trans (prE_len (ck_parts hc).2.2.2.2.2.2) hs.e
    · exact Nat.zero_le _
  unfold inX at HZ
  obtain ⟨l, HL⟩ := hid_ex (orX x)
  rw [HL.out] at C1 HZ hlo
  have zm : (Try.prog.info? 39).map (·.size) = some [Value.int .i64 m.p, .int .i64 m.s, .int .i64 m.i].length := size39
  go_enter Try.func15, Try.ntmps15
  go_wp2_with (first | rw [hW] | refine load_r 27 _ rfl rfl _ rfl R0 Try.underlying27 rfl size27 ?_)
  clear hW
  refine C1.mono ?_
  clear C1
  rintro e w1 ⟨u, rfl, ou, hb1⟩
  have db0 := range_later (Rw.whole (cs := [Value.int .i64 m.p, .int .i64 m.s, .int .i64 m.i]) R1) hb1
  replace hb0 := below_on hb0 hb1
  obtain ⟨p, c, rfl⟩ := own_sl ou
  have HR : Hid (MHas w1 (.slice p l.length c) l) := own_sh ou
  clear ou hb1 R0 R1
  go_wp2_with fail
  obtain ⟨w2, HW2⟩ := hid_ex w1
  rw [HW2.out] at HR db0 hb0 ⊢
  clear HW2
  have HB0 : Hid (Below w.heap.size w w2) := hb0
  go_loopw [6] (fun vi wr => ∃ k : Nat, vi = .int .i64 k ∧ k ≤ l.length ∧ Hid (∀ i (h : i < l.length), i < k → kM l[i] ≠ kM m) ∧ wr.rangeAt (w.heap.size + 1) 0 [Value.int .i64 m.p, .int .i64 m.s, .int .i64 m.i] ∧ Below w.heap.size w wr ∧ Below w2.heap.size w2 wr) (fun vi _ => l.length - (intOf vi).toNat)
  case atStart => exact ⟨0, rfl, by omega, (show ∀ i (_ : i < l.length), i < 0 → _ from fun i _ h => by omega), db0, hb0, Below.refl _ _⟩
  case round =>
    clear db0 hb0
    obtain ⟨k, rfl, hk, HV, db, hbel, hb2⟩ := hrel
    by_cases hlt : k < l.length
    · have hlt' : (k : Int) < (l.length : Int) := by omega
      have hk0 : (0 : Int) ≤ (k : Int) := by omega
      obtain ⟨g, o, rfl, hd0⟩ := HR.out.at (by omega)
      have d := M.elem (range_later hd0 hb2) k hlt
      obtain ⟨y, HX⟩ := hid_ex l[k]
      rw [HX.out] at d
      have zu : (Try.prog.info? 39).map (·.size) = some y.cells.length := size39
      clear hd0 HR
      have E := fun w => eq_mark w y.p y.s y.i m.p m.s m.i
      obtain ⟨t, HT⟩ := hid_ex (decide (kM y = kM m))
      rw [show (decide (y.p = m.p) && decide (y.s = m.s) && decide (y.i = m.i)) = t from (mm_eq _ _).symm.trans HT.out] at E
      cases t
      · have HV2 : Hid (∀ i (h : i < l.length), i < k + 1 → kM l[i] ≠ kM m) := fun i h hi => by
          rcases Nat.lt_or_ge i k with h' | h'
          · exact HV.out i h h'
          · obtain rfl : i = k := by omega
            rw [HX.out]
            simpa using HT.out
        clear HV HX HT HZ
        have hbel0 := hbel
        clear hbel
        have hbel := hb2
        go_wp2_with fail
        have hs : Calm.Stays (fun w' => w'.rangeAt g (o + k * 3) y.cells ∧ w'.rangeAt (w.heap.size + 1) 0 [Value.int .i64 m.p, .int .i64 m.s, .int .i64 m.i] ∧ Below w2.heap.size w2 w') := fun wa wb h hb => ⟨range_later h.1 hb, range_later h.2.1 hb, below_on h.2.2 hb⟩
        refine Calm.region (by kernel_rfl) (by kernel_rfl) (fun w' => w'.rangeAt g (o + k * 3) y.cells ∧ w'.rangeAt (w.heap.size + 1) 0 [Value.int .i64 m.p, .int .i64 m.s, .int .i64 m.i] ∧ Below w2.heap.size w2 w') ⟨d, db, hbel.drew⟩ ?_
        all_goals
          refine Calm.pure (v := ?_) (by rfl) ?_ ?_
          rotate_left
          focus (intro w hSw; go_simp <;> rfl)
          simp only [Act.put, List.setIfInBounds_toArray, List.set_cons_zero, List.set_cons_succ]
        all_goals
          refine Calm.pure (v := ?_) (by rfl) ?_ ?_
          rotate_left
          focus (intro w hSw; go_simp <;> rfl)
          simp only [Act.put, List.setIfInBounds_toArray, List.set_cons_zero, List.set_cons_succ]
        all_goals
          refine Calm.pure (v := ?_) (by rfl) ?_ ?_
          rotate_left
          focus (intro w hSw; go_simp <;> rfl)
          simp only [Act.put, List.setIfInBounds_toArray, List.set_cons_zero, List.set_cons_succ]
        all_goals
          first | (refine Calm.loadM 39 Try.underlying39 rfl zu (by rfl) _ rfl rfl (fun _ h => h.1) ?_) | (refine Calm.loadM 39 Try.underlying39 rfl zm (by rfl) _ rfl rfl (fun _ h => h.2.1) ?_)
          simp only [Act.put, List.setIfInBounds_toArray, List.set_cons_zero, List.set_cons_succ]
        all_goals
          first | (refine Calm.loadM 39 Try.underlying39 rfl zu (by rfl) _ rfl rfl (fun _ h => h.1) ?_) | (refine Calm.loadM 39 Try.underlying39 rfl zm (by rfl) _ rfl rfl (fun _ h => h.2.1) ?_)
          simp only [Act.put, List.setIfInBounds_toArray, List.set_cons_zero, List.set_cons_succ]
        all_goals
          refine Calm.pure (v := ?_) (by rfl) ?_ ?_
          rotate_left
          focus (intro w hSw; go_simp <;> rfl)
          simp only [Act.put, List.setIfInBounds_toArray, List.set_cons_zero, List.set_cons_succ]
        all_goals
          rintro w9 ⟨_, db9, hbel9⟩
        go_wp2_with fail
        go_roundw
        case rel => exact ⟨k + 1, by simp, by omega, HV2, db9, below_on HB0.out hbel9, hbel9⟩
        case measure => simp [intOf]; omega
      · have e := HZ.out
        rw [List.any_eq_true.2 ⟨l[k], List.getElem_mem _, by rw [HX.out]; exact HT.out⟩] at e
        subst e
        clear HV HX HT HZ
        go_wp2_with fail
        have hs : Calm.Stays (fun w' => w'.rangeAt g (o + k * 3) y.cells ∧ w'.rangeAt (w.heap.size + 1) 0 [Value.int .i64 m.p, .int .i64 m.s, .int .i64 m.i] ∧ Below w.heap.size w w') := fun wa wb h hb => ⟨range_later h.1 hb, range_later h.2.1 hb, below_on h.2.2 hb⟩
        refine Calm.region (by kernel_rfl) (by kernel_rfl) (fun w' => w'.rangeAt g (o + k * 3) y.cells ∧ w'.rangeAt (w.heap.size + 1) 0 [Value.int .i64 m.p, .int .i64 m.s, .int .i64 m.i] ∧ Below w.heap.size w w') ⟨d, db, hbel.drew⟩ ?_
        all_goals
          refine Calm.pure (v := ?_) (by rfl) ?_ ?_
          rotate_left
          focus (intro w hSw; go_simp <;> rfl)
          simp only [Act.put, List.setIfInBounds_toArray, List.set_cons_zero, List.set_cons_succ]
        all_goals
          refine Calm.pure (v := ?_) (by rfl) ?_ ?_
          rotate_left
          focus (intro w hSw; go_simp <;> rfl)
          simp only [Act.put, List.setIfInBounds_toArray, List.set_cons_zero, List.set_cons_succ]
        all_goals
          refine Calm.pure (v := ?_) (by rfl) ?_ ?_
          rotate_left
          focus (intro w hSw; go_simp <;> rfl)
          simp only [Act.put, List.setIfInBounds_toArray, List.set_cons_zero, List.set_cons_succ]
        all_goals
          first | (refine Calm.loadM 39 Try.underlying39 rfl zu (by rfl) _ rfl rfl (fun _ h => h.1) ?_) | (refine Calm.loadM 39 Try.underlying39 rfl zm (by rfl) _ rfl rfl (fun _ h => h.2.1) ?_)
          simp only [Act.put, List.setIfInBounds_toArray, List.set_cons_zero, List.set_cons_succ]
        all_goals
          first | (refine Calm.loadM 39 Try.underlying39 rfl zu (by rfl) _ rfl rfl (fun _ h => h.1) ?_) | (refine Calm.loadM 39 Try.underlying39 rfl zm (by rfl) _ rfl rfl (fun _ h => h.2.1) ?_)
          simp only [Act.put, List.setIfInBounds_toArray, List.set_cons_zero, List.set_cons_succ]
        all_goals
          refine Calm.pure (v := ?_) (by rfl) ?_ ?_
          rotate_left
          focus (intro w hSw; go_simp <;> rfl)
          simp only [Act.put, List.setIfInBounds_toArray, List.set_cons_zero, List.set_cons_succ]
        all_goals
          rintro w9 ⟨_, _, hbel9⟩
        go_wp2_with fail
        go_ret
        exact ⟨rfl, hbel9⟩
    · have hlt' : ¬ (k : Int) < (l.length : Int) := by omega
      have e := HZ.out
      rw [show l.any (fun y => decide (kM y = kM m)) = false from by
        rw [List.any_eq_false]
        intro y hy
        obtain ⟨i, hi, rfl⟩ := List.getElem_of_mem hy
        simpa using HV.out i hi (by omega)] at e
      subst e
      go_wp2_with fail
      go_ret
      exact ⟨rfl, hbel⟩
end Go.Proofs.Ytfjpbmdmkcihcaa
/- What SeqOrder says, of every cell, two transactions and two marks. -/
namespace Go.Proofs.Ytfjpbmdmkcihcaa
open Go.RowKit
open Go.Sort

theorem pl_neg' {l : List El} {m : K} (h : ¬ 0 ≤ plI l m) : ∀ y ∈ l, kE y ≠ m := by
  unfold plI at h
  cases hp : pl l m with
  | none => exact pl_none.1 hp
  | some k => rw [hp] at h; exact absurd (Int.natCast_nonneg k) h
theorem in_mem {x : X} (h : ck x = true) {m : M} (hm : inX x m = true) : ∃ a ∈ x.el, nog a = true ∧ kE a = kM m := by
  obtain ⟨y, hy, e⟩ := List.any_eq_true.1 hm
  rw [orX_oE h] at hy
  obtain ⟨a, ha, rfl⟩ := List.mem_map.1 hy
  obtain ⟨h1, h2⟩ := List.mem_filter.1 ha
  exact ⟨a, (oE_perm (tre_ck h)).mem_iff.1 h1, h2, of_decide_eq_true e⟩
theorem zk_of {m : M} (h : (decide (m.p = 0) && decide (m.s = 0) && decide (m.i = 0)) = true) : kM m = zK := by
  simp only [Bool.and_eq_true, decide_eq_true_eq] at h
  obtain ⟨⟨h1, h2⟩, h3⟩ := h
  unfold kM zK
  rw [h1, h2, h3]
theorem may_new {x : X} (hc : ck x = true) (q u t : Int) (r : M) (s : ByteArray) (hs : s.size ≤ 64) (hn : ∀ y ∈ x.el, kE y ≠ (q, u, 1)) (hr : kM r = zK ∨ inX x r = true) : May x ⟨q, u, 1, t, r.p, r.s, r.i, s, []⟩ where
  i := by
    unfold ie
    rw [Bool.and_eq_true, Bool.and_eq_true, decide_eq_true_iff]
    exact ⟨by show im (1 : Int) = true; decide, hs, by show ca [] = true; decide⟩
  n := hn
  r := by
    rcases hr with k | k
    · exact Or.inl k
    · exact Or.inr (in_mem hc k)
  g := by
    unfold nog
    exact decide_eq_true rfl
theorem grd_succ {lo la : List M} {i a : Nat} (hi : i < la.length) (h : grd lo (la.take i) 0 = a) (ha : a < lo.length) : grd lo (la.take (i + 1)) 0 = if kM lo[a] = kM la[i] then a + 1 else a := by
  unfold grd at h ⊢
  rw [List.take_succ_eq_append_getElem hi, List.foldl_append, h]
  simp only [List.foldl_cons, List.foldl_nil, List.getElem?_eq_getElem ha, Option.map_some, Option.some.injEq]
set_option maxHeartbeats 16000000 in
set_option maxRecDepth 100000 in
theorem order_law (x : X) (va vw vm ve : Value) (tp ts : Int) (tv : List Int) (tt : Int) (tl : Value) (up us : Int) (uv : List Int) (ut : Int) (ul : Value) (m n : M) (w : World) (hv : tv.length = 13) (hu : uv.length = 13) (h : Four w x va vw vm ve) (hl : Lk x) : Calls Try.prog 4 #[CV x.k x.b va vw vm ve, TxV tp ts tv tt tl, TxV up us uv ut ul, MV m.p m.s m.i, MV n.p n.s n.i] w (Tells (.bool true) w) := by
  obtain ⟨pa, ca', pw, cw, pm, cm, pe, ce, rfl, rfl, rfl, rfl⟩ := h.slices
  have R0 := (((((rw_new w 27 (cvc x.k x.b (.slice pa x.am.length ca') (.slice pw x.wr.length cw) (.slice pm x.mb.length cm) (.slice pe x.el.length ce))).alloc (.cells (txc tp ts tv tt tl).toArray 34)).alloc (.cells (txc up us uv ut ul).toArray 34)).alloc (.cells #[.int .i64 m.p, .int .i64 m.s, .int .i64 m.i] 39)).alloc (.cells #[.int .i64 n.p, .int .i64 n.s, .int .i64 n.i] 39))
  have R1 := ((((rw_new (w.alloc (.cells (cvc x.k x.b (.slice pa x.am.length ca') (.slice pw x.wr.length cw) (.slice pm x.mb.length cm) (.slice pe x.el.length ce)) 27)) 34 (txc tp ts tv tt tl).toArray).alloc (.cells (txc up us uv ut ul).toArray 34)).alloc (.cells #[.int .i64 m.p, .int .i64 m.s, .int .i64 m.i] 39)).alloc (.cells #[.int .i64 n.p, .int .i64 n.s, .int .i64 n.i] 39))
  have R2 := (((rw_new ((w.alloc (.cells (cvc x.k x.b (.slice pa x.am.length ca') (.slice pw x.wr.length cw) (.slice pm x.mb.length cm) (.slice pe x.el.length ce)) 27)).alloc (.cells (txc tp ts tv tt tl).toArray 34)) 34 (txc up us uv ut ul).toArray).alloc (.cells #[.int .i64 m.p, .int .i64 m.s, .int .i64 m.i] 39)).alloc (.cells #[.int .i64 n.p, .int .i64 n.s, .int .i64 n.i] 39))
  have R3 := ((rw_new (((w.alloc (.cells (cvc x.k x.b (.slice pa x.am.length ca') (.slice pw x.wr.length cw) (.slice pm x.mb.length cm) (.slice pe x.el.length ce)) 27)).alloc (.cells (txc tp ts tv tt tl).toArray 34)).alloc (.cells (txc up us uv ut ul).toArray 34)) 39 #[.int .i64 m.p, .int .i64 m.s, .int .i64 m.i]).alloc (.cells #[.int .i64 n.p, .int .i64 n.s, .int .i64 n.i] 39))
  have R4 := rw_new ((((w.alloc (.cells (cvc x.k x.b (.slice pa x.am.length ca') (.slice pw x.wr.length cw) (.slice pm x.mb.length cm) (.slice pe x.el.length ce)) 27)).alloc (.cells (txc tp ts tv tt tl).toArray 34)).alloc (.cells (txc up us uv ut ul).toArray 34)).alloc (.cells #[.int .i64 m.p, .int .i64 m.s, .int .i64 m.i] 39)) 39 #[.int .i64 n.p, .int .i64 n.s, .int .i64 n.i]
  have hbel := bel_alloc (bel_alloc (bel_alloc (bel_alloc (bel_alloc (Below.refl w.heap.size w) (.cells (cvc x.k x.b (.slice pa x.am.length ca') (.slice pw x.wr.length cw) (.slice pm x.mb.length cm) (.slice pe x.el.length ce)) 27)) (.cells (txc tp ts tv tt tl).toArray 34)) (.cells (txc up us uv ut ul).toArray 34)) (.cells #[.int .i64 m.p, .int .i64 m.s, .int .i64 m.i] 39)) (.cells #[.int .i64 n.p, .int .i64 n.s, .int .i64 n.i] 39)
  generalize hW : ((((w.alloc (.cells (cvc x.k x.b (.slice pa x.am.length ca') (.slice pw x.wr.length cw) (.slice pm x.mb.length cm) (.slice pe x.el.length ce)) 27)).alloc (.cells (txc tp ts tv tt tl).toArray 34)).alloc (.cells (txc up us uv ut ul).toArray 34)).alloc (.cells #[.int .i64 m.p, .int .i64 m.s, .int .i64 m.i] 39)).alloc (.cells #[.int .i64 n.p, .int .i64 n.s, .int .i64 n.i] 39) = w5 at R0 R1 R2 R3 R4 hbel
  simp only [World.size_alloc] at R0 R1 R2 R3 R4
  have hbA : Below w5.heap.size w5 ((w5.alloc (.cells #[.int .i64 0, .int .i64 0, .int .i64 0] 39)).setRow w5.heap.size #[.int .i64 0, .int .i64 0, .int .i64 0]) := below_setRow (bel_alloc (Below.refl w5.heap.size w5) (.cells #[.int .i64 0, .int .i64 0, .int .i64 0] 39)) (g := w5.heap.size) (Nat.le_refl _) #[.int .i64 0, .int .i64 0, .int .i64 0]
  have rm := rw_new w5 39 #[.int .i64 0, .int .i64 0, .int .i64 0]
  have R5 := rm.row #[.int .i64 0, .int .i64 0, .int .i64 0]
  replace h := h.later hbel
  replace R0 := R0.later hbA
  replace R1 := R1.later hbA
  replace R2 := R2.later hbA
  replace R3 := R3.later hbA
  replace R4 := R4.later hbA
  replace h := h.later hbA
  replace hbel := below_on hbel hbA
  clear hbA
  generalize hV : w5.alloc (.cells #[.int .i64 0, .int .i64 0, .int .i64 0] 39) = w50 at rm R0 R1 R2 R3 R4 R5 h hbel
  generalize hX : w50.setRow w5.heap.size #[.int .i64 0, .int .i64 0, .int .i64 0] = w0 at R0 R1 R2 R3 R4 R5 h hbel
  have zt := size_tx (p := tp) (s := ts) (t := tt) (sl := tl) hv
  have zu := size_tx (p := up) (s := us) (t := ut) (sl := ul) hu
  have zd1 : (Try.prog.info? 29).map (·.size) = some [Value.int .i64 tp, .int .i64 ts].length := size29
  have zd2 : (Try.prog.info? 29).map (·.size) = some [Value.int .i64 up, .int .i64 us].length := size29
  go_enter Try.func4, Try.ntmps4
  go_upto_region 2 with (first | rw [hW] | rw [hV] | (refine store_r rfl 39 _ _ rfl w5.heap.size #[.int .i64 0, .int .i64 0, .int .i64 0] rfl rfl rm size39 rfl (by simp [Value.oneCell']) ?_; rw [hX]))
  clear hW hV hX rm
  simp only [Act.put]
  go_cut [55] from 18 (fun s55 wc => ∃ b, s55 = .bool b ∧ Below w0.heap.size w0 wc ∧ (b = false → Hid (ck x = true) ∧ Hid (Fw x) ∧ Hid ((decide (tp = up) && decide (ts = us)) = false) ∧ Hid (kM m = zK ∨ inX x m = true) ∧ Hid (kM n = zK ∨ inX x n = true)))
  case first =>
    clear hbel
    have hB0 := Below.refl w0.heap.size w0
    go_wp2_with (first | refine load_r 27 _ rfl rfl _ rfl R0 Try.underlying27 rfl size27 ?_)
    refine (few_any x _ _ _ _ w0 h hl).mono ?_
    rintro e w1 ⟨bf1, rfl, hfw0, hb1⟩
    have HFW : Hid (bf1 = true → Fw x) := hfw0
    clear hfw0 hl
    replace R0 := R0.later hb1
    replace R1 := R1.later hb1
    replace R2 := R2.later hb1
    replace R3 := R3.later hb1
    replace R4 := R4.later hb1
    replace R5 := R5.later hb1
    replace h := h.later hb1
    replace hB0 := below_on hB0 hb1
    clear hb1
    cases bf1
    case' false =>
      clear HFW
      go_wp2_with fail
      go_meet
      case rel => exact ⟨true, rfl, hB0, fun h => by cases h⟩
    case' true =>
      have hfw : Hid (Fw x) := HFW.out rfl
      have hs := hfw.out.sm
      clear HFW
      go_wp2_with (first | refine load_r 27 _ rfl rfl _ rfl R0 Try.underlying27 rfl size27 ?_)
      refine (refCheck_any x _ _ _ _ w1 h hs).mono ?_
      rintro e w2 ⟨rfl, hb1⟩
      replace R0 := R0.later hb1
      replace R1 := R1.later hb1
      replace R2 := R2.later hb1
      replace R3 := R3.later hb1
      replace R4 := R4.later hb1
      replace R5 := R5.later hb1
      replace h := h.later hb1
      replace hB0 := below_on hB0 hb1
      clear hb1
      obtain ⟨y1, HY1⟩ := hid_ex (ck x)
      rw [HY1.out]
      cases y1
      case' false =>
        go_wp2_with fail
        go_meet
        case rel => exact ⟨true, rfl, hB0, fun h => by cases h⟩
      case' true =>
        have c1_0 : w2.cell? ⟨w.heap.size + 1, 0, none⟩ = some (.int .i64 tp) := R1.cell 0
        have c1_1 : w2.cell? ⟨w.heap.size + 1, 1, none⟩ = some (.int .i64 ts) := R1.cell 1
        have c2_0 : w2.cell? ⟨w.heap.size + 1 + 1, 0, none⟩ = some (.int .i64 up) := R2.cell 0
        have c2_1 : w2.cell? ⟨w.heap.size + 1 + 1, 1, none⟩ = some (.int .i64 us) := R2.cell 1
        have c3_0 : w2.cell? ⟨w.heap.size + 1 + 1 + 1, 0, none⟩ = some (.int .i64 m.p) := R3.cell 0
        have c3_1 : w2.cell? ⟨w.heap.size + 1 + 1 + 1, 1, none⟩ = some (.int .i64 m.s) := R3.cell 1
        have c3_2 : w2.cell? ⟨w.heap.size + 1 + 1 + 1, 2, none⟩ = some (.int .i64 m.i) := R3.cell 2
        have c4_0 : w2.cell? ⟨w.heap.size + 1 + 1 + 1 + 1, 0, none⟩ = some (.int .i64 n.p) := R4.cell 0
        have c4_1 : w2.cell? ⟨w.heap.size + 1 + 1 + 1 + 1, 1, none⟩ = some (.int .i64 n.s) := R4.cell 1
        have c4_2 : w2.cell? ⟨w.heap.size + 1 + 1 + 1 + 1, 2, none⟩ = some (.int .i64 n.i) := R4.cell 2
        have c5_0 : w2.cell? ⟨w5.heap.size, 0, none⟩ = some (.int .i64 0) := R5.cell 0
        have c5_1 : w2.cell? ⟨w5.heap.size, 1, none⟩ = some (.int .i64 0) := R5.cell 1
        have c5_2 : w2.cell? ⟨w5.heap.size, 2, none⟩ = some (.int .i64 0) := R5.cell 2
        obtain ⟨z0, HZ0⟩ := hid_ex (decide (tp = up) && decide (ts = us))
        have E0 := fun w => eq_dot w tp ts up us
        rw [HZ0.out] at E0
        cases z0
        case' true =>
          go_wp2_with fail
          go_meet
          case rel => exact ⟨true, rfl, hB0, fun h => by cases h⟩
        case' false =>
          obtain ⟨zm, HM⟩ := hid_ex (decide (m.p = 0) && decide (m.s = 0) && decide (m.i = 0))
          have E1 := fun w => eq_mark w m.p m.s m.i 0 0 0
          rw [HM.out] at E1
          cases zm
          case' true =>
            obtain ⟨zn, HN⟩ := hid_ex (decide (n.p = 0) && decide (n.s = 0) && decide (n.i = 0))
            have E2 := fun w => eq_mark w n.p n.s n.i 0 0 0
            rw [HN.out] at E2
            cases zn
            case' true =>
              go_wp2_with fail
              go_meet
              case rel => exact ⟨false, rfl, hB0, fun _ => ⟨HY1, hfw, HZ0, Or.inl (zk_of HM.out), Or.inl (zk_of HN.out)⟩⟩
            case' false =>
              have CN := in_any x _ _ _ _ n _ h hs
              obtain ⟨yn, HYN⟩ := hid_ex (inX x n)
              rw [HYN.out] at CN
              go_wp2_with (first | refine load_r 27 _ rfl rfl _ rfl R0 Try.underlying27 rfl size27 ?_)
              clear c1_0 c1_1 c2_0 c2_1 c3_0 c3_1 c3_2 c4_0 c4_1 c4_2 c5_0 c5_1 c5_2
              refine CN.mono ?_
              clear CN
              rintro e w7 ⟨rfl, hb1⟩
              replace R0 := R0.later hb1
              replace R1 := R1.later hb1
              replace R2 := R2.later hb1
              replace R3 := R3.later hb1
              replace R4 := R4.later hb1
              replace R5 := R5.later hb1
              replace h := h.later hb1
              replace hB0 := below_on hB0 hb1
              clear hb1
              cases yn
              case' false =>
                go_wp2_with fail
                go_meet
                case rel => exact ⟨true, rfl, hB0, fun h => by cases h⟩
              case' true =>
                go_wp2_with fail
                go_meet
                case rel => exact ⟨false, rfl, hB0, fun _ => ⟨HY1, hfw, HZ0, Or.inl (zk_of HM.out), Or.inr HYN.out⟩⟩
          case' false =>
            have CM := in_any x _ _ _ _ m _ h hs
            obtain ⟨ym, HYM⟩ := hid_ex (inX x m)
            rw [HYM.out] at CM
            go_wp2_with (first | refine load_r 27 _ rfl rfl _ rfl R0 Try.underlying27 rfl size27 ?_)
            clear c1_0 c1_1 c2_0 c2_1 c3_0 c3_1 c3_2 c4_0 c4_1 c4_2 c5_0 c5_1 c5_2
            refine CM.mono ?_
            clear CM
            rintro e w3 ⟨rfl, hb1⟩
            replace R0 := R0.later hb1
            replace R1 := R1.later hb1
            replace R2 := R2.later hb1
            replace R3 := R3.later hb1
            replace R4 := R4.later hb1
            replace R5 := R5.later hb1
            replace h := h.later hb1
            replace hB0 := below_on hB0 hb1
            clear hb1
            cases ym
            case' false =>
              go_wp2_with fail
              go_meet
              case rel => exact ⟨true, rfl, hB0, fun h => by cases h⟩
            case' true =>
              have c1_0 : w3.cell? ⟨w.heap.size + 1, 0, none⟩ = some (.int .i64 tp) := R1.cell 0
              have c1_1 : w3.cell? ⟨w.heap.size + 1, 1, none⟩ = some (.int .i64 ts) := R1.cell 1
              have c2_0 : w3.cell? ⟨w.heap.size + 1 + 1, 0, none⟩ = some (.int .i64 up) := R2.cell 0
              have c2_1 : w3.cell? ⟨w.heap.size + 1 + 1, 1, none⟩ = some (.int .i64 us) := R2.cell 1
              have c3_0 : w3.cell? ⟨w.heap.size + 1 + 1 + 1, 0, none⟩ = some (.int .i64 m.p) := R3.cell 0
              have c3_1 : w3.cell? ⟨w.heap.size + 1 + 1 + 1, 1, none⟩ = some (.int .i64 m.s) := R3.cell 1
              have c3_2 : w3.cell? ⟨w.heap.size + 1 + 1 + 1, 2, none⟩ = some (.int .i64 m.i) := R3.cell 2
              have c4_0 : w3.cell? ⟨w.heap.size + 1 + 1 + 1 + 1, 0, none⟩ = some (.int .i64 n.p) := R4.cell 0
              have c4_1 : w3.cell? ⟨w.heap.size + 1 + 1 + 1 + 1, 1, none⟩ = some (.int .i64 n.s) := R4.cell 1
              have c4_2 : w3.cell? ⟨w.heap.size + 1 + 1 + 1 + 1, 2, none⟩ = some (.int .i64 n.i) := R4.cell 2
              have c5_0 : w3.cell? ⟨w5.heap.size, 0, none⟩ = some (.int .i64 0) := R5.cell 0
              have c5_1 : w3.cell? ⟨w5.heap.size, 1, none⟩ = some (.int .i64 0) := R5.cell 1
              have c5_2 : w3.cell? ⟨w5.heap.size, 2, none⟩ = some (.int .i64 0) := R5.cell 2
              obtain ⟨zn, HN⟩ := hid_ex (decide (n.p = 0) && decide (n.s = 0) && decide (n.i = 0))
              have E2 := fun w => eq_mark w n.p n.s n.i 0 0 0
              rw [HN.out] at E2
              cases zn
              case' true =>
                go_wp2_with fail
                go_meet
                case rel => exact ⟨false, rfl, hB0, fun _ => ⟨HY1, hfw, HZ0, Or.inr HYM.out, Or.inl (zk_of HN.out)⟩⟩
              case' false =>
                have CN := in_any x _ _ _ _ n _ h hs
                obtain ⟨yn, HYN⟩ := hid_ex (inX x n)
                rw [HYN.out] at CN
                go_wp2_with (first | refine load_r 27 _ rfl rfl _ rfl R0 Try.underlying27 rfl size27 ?_)
                clear c1_0 c1_1 c2_0 c2_1 c3_0 c3_1 c3_2 c4_0 c4_1 c4_2 c5_0 c5_1 c5_2
                refine CN.mono ?_
                clear CN
                rintro e w7 ⟨rfl, hb1⟩
                replace R0 := R0.later hb1
                replace R1 := R1.later hb1
                replace R2 := R2.later hb1
                replace R3 := R3.later hb1
                replace R4 := R4.later hb1
                replace R5 := R5.later hb1
                replace h := h.later hb1
                replace hB0 := below_on hB0 hb1
                clear hb1
                cases yn
                case' false =>
                  go_wp2_with fail
                  go_meet
                  case rel => exact ⟨true, rfl, hB0, fun h => by cases h⟩
                case' true =>
                  go_wp2_with fail
                  go_meet
                  case rel => exact ⟨false, rfl, hB0, fun _ => ⟨HY1, hfw, HZ0, Or.inr HYM.out, Or.inr HYN.out⟩⟩
  case rest =>
    obtain ⟨bb, rfl, hb0, hpre⟩ := hcut
    replace R0 := R0.later hb0
    replace R1 := R1.later hb0
    replace R2 := R2.later hb0
    replace R3 := R3.later hb0
    replace R4 := R4.later hb0
    replace R5 := R5.later hb0
    replace h := h.later hb0
    replace hbel := below_on hbel hb0
    clear hb0 hl
    cases bb
    case' true =>
      clear hpre
      go_wp2_with fail
      refine (heads_any _).mono ?_
      rintro e w9 ⟨rfl, hb9⟩
      go_wp2_with fail
      go_ret
      exact ⟨rfl, below_on hbel hb9⟩
    case' false =>
      obtain ⟨HCK, HFW, HZ0, HOM, HON⟩ := hpre rfl
      clear hpre
      have hz := HFW.out.sz
      have hs := hz.sm (by decide) (by decide)
      clear HFW
      have c5 : wc.cell? ⟨w.heap.size, 5, none⟩ = some (.slice pe x.el.length ce) := R0.cell 5
      have C1 := place_any _ x.el ⟨tp, ts, 1⟩ wc h.e
      obtain ⟨z1, HZ1⟩ := hid_ex (plI x.el (kM ⟨tp, ts, 1⟩))
      rw [HZ1.out] at C1
      go_wp2_with (first | refine load_m 29 _ rfl rfl _ _ rfl (tx_dot R1) Try.underlying29 rfl zd1 ?_)
      refine C1.mono ?_
      clear C1 c5
      rintro e w3 ⟨rfl, hb1⟩
      replace R0 := R0.later hb1
      replace R1 := R1.later hb1
      replace R2 := R2.later hb1
      replace R3 := R3.later hb1
      replace R4 := R4.later hb1
      replace R5 := R5.later hb1
      replace h := h.later hb1
      replace hbel := below_on hbel hb1
      clear hb1
      by_cases hp : 0 ≤ z1
      case' pos =>
        have hp' : decide (0 ≤ z1) = true := decide_eq_true hp
        go_wp2_with fail
        refine (heads_any _).mono ?_
        rintro e w9 ⟨rfl, hb9⟩
        go_wp2_with fail
        go_ret
        exact ⟨rfl, below_on hbel hb9⟩
      case' neg =>
        have hp' : decide (0 ≤ z1) = false := decide_eq_false hp
        have HN1 : Hid (∀ y ∈ x.el, kE y ≠ (tp, ts, 1)) := pl_neg' (by show ¬ 0 ≤ plI x.el (kM ⟨tp, ts, 1⟩); rw [HZ1.out]; exact hp)
        have c5 : w3.cell? ⟨w.heap.size, 5, none⟩ = some (.slice pe x.el.length ce) := R0.cell 5
        have C1 := place_any _ x.el ⟨up, us, 1⟩ w3 h.e
        obtain ⟨z2, HZ2⟩ := hid_ex (plI x.el (kM ⟨up, us, 1⟩))
        rw [HZ2.out] at C1
        go_wp2_with (first | refine load_m 29 _ rfl rfl _ _ rfl (tx_dot R2) Try.underlying29 rfl zd2 ?_)
        refine C1.mono ?_
        clear C1 c5
        rintro e w4 ⟨rfl, hb1⟩
        replace R0 := R0.later hb1
        replace R1 := R1.later hb1
        replace R2 := R2.later hb1
        replace R3 := R3.later hb1
        replace R4 := R4.later hb1
        replace R5 := R5.later hb1
        replace h := h.later hb1
        replace hbel := below_on hbel hb1
        clear hb1
        by_cases hq : 0 ≤ z2
        case' pos =>
          have hq' : decide (0 ≤ z2) = true := decide_eq_true hq
          go_wp2_with fail
          refine (heads_any _).mono ?_
          rintro e w9 ⟨rfl, hb9⟩
          go_wp2_with fail
          go_ret
          exact ⟨rfl, below_on hbel hb9⟩
        case' neg =>
          have hq' : decide (0 ≤ z2) = false := decide_eq_false hq
          have HN2 : Hid (∀ y ∈ x.el, kE y ≠ (up, us, 1)) := pl_neg' (by show ¬ 0 ≤ plI x.el (kM ⟨up, us, 1⟩); rw [HZ2.out]; exact hq)
          go_wp2_with fail
          clear hp hq hp' hq' HZ1 HZ2
          have m1 := may_new HCK.out tp ts tt m ⟨#[120]⟩ (by decide) HN1.out HOM.out
          have m2 := may_new HCK.out up us ut n ⟨#[121]⟩ (by decide) HN2.out HON.out
          have hne : kE (⟨tp, ts, 1, tt, m.p, m.s, m.i, ⟨#[120]⟩, []⟩ : El) ≠ kE (⟨up, us, 1, ut, n.p, n.s, n.i, ⟨#[121]⟩, []⟩ : El) := fun e => by
            have h0 := HZ0.out
            rw [Bool.and_eq_false_iff, decide_eq_false_iff_not, decide_eq_false_iff_not] at h0
            simp only [kE, Prod.mk.injEq] at e
            rcases h0 with k | k
            · exact k e.1
            · exact k e.2.1
          obtain ⟨x1, H1⟩ := hid_ex (insX x (⟨tp, ts, 1, tt, m.p, m.s, m.i, ⟨#[120]⟩, []⟩ : El) (bfP tp ts tv 1))
          obtain ⟨x2, H2⟩ := hid_ex (insX x (⟨up, us, 1, ut, n.p, n.s, n.i, ⟨#[121]⟩, []⟩ : El) (bfP up us uv 1))
          obtain ⟨xa, HA⟩ := hid_ex (insX x1 (⟨up, us, 1, ut, n.p, n.s, n.i, ⟨#[121]⟩, []⟩ : El) (bfP up us uv 1))
          have HB : Hid (insX x2 (⟨tp, ts, 1, tt, m.p, m.s, m.i, ⟨#[120]⟩, []⟩ : El) (bfP tp ts tv 1) = xa) := by
            show _ = _
            rw [← HA.out, ← H1.out, ← H2.out]
            exact (two_same m1 m2 HCK.out hne).symm
          have k1 : ck x1 = true := by rw [← H1.out]; exact ck_ins HCK.out
          have HKA : Hid (ck xa = true) := by show _ = _; rw [← HA.out]; exact ck_ins k1
          have m3 : May x1 (⟨up, us, 1, ut, n.p, n.s, n.i, ⟨#[121]⟩, []⟩ : El) := by rw [← H1.out]; exact m1.ins m2 HCK.out hne
          have z1 : Sz 61 30 x1 := by rw [← H1.out]; exact sz_ins hz _ _ (Nat.zero_le _)
          have z2 : Sz 61 30 x2 := by rw [← H2.out]; exact sz_ins hz _ _ (Nat.zero_le _)
          have za : Sz 62 30 xa := by rw [← HA.out]; exact sz_ins z1 _ _ (Nat.zero_le _)
          have s1 := z1.sm (by decide) (by decide)
          have s2 := z2.sm (by decide) (by decide)
          have sa := za.sm (by decide) (by decide)
          obtain ⟨lo, HLO⟩ := hid_ex (orX x)
          obtain ⟨la, HLA⟩ := hid_ex (orX xa)
          have hlen : la.length = lo.length + 2 := by rw [← HLO.out, ← HLA.out, ← HA.out, or_len m3 k1, ← H1.out, or_len m1 HCK.out]
          have HSUB : Hid (lo.Sublist la) := by
            show List.Sublist _ _
            rw [← HLO.out, ← HLA.out, ← HA.out]
            refine List.Sublist.trans ?_ (or_sub m3 k1)
            rw [← H1.out]
            exact or_sub m1 HCK.out
          have hlo : lo.length ≤ 100 := by
            rw [← HLO.out]
            unfold orX
            rw [if_pos HCK.out, List.length_map]
            exact Nat.le_trans (prE_len (ck_parts HCK.out).2.2.2.2.2.2) hs.e
          have HLEN : Hid (la.length = lo.length + 2) := hlen
          have hla : la.length ≤ 102 := by omega
          clear hlen m1 m2 m3 hne k1 z1 z2 za hz HN1 HN2 HOM HON HZ0 R5
          have hf := h
          clear h
          have zx : (Try.prog.info? 27).map (·.size) = some ([Value.int .i64 x.k, .int .i64 x.b, .slice pa x.am.length ca', .slice pw x.wr.length cw, .slice pm x.mb.length cm, .slice pe x.el.length ce] : List Value).length := size27
          have ztx : (Try.prog.info? 34).map (·.size) = some (txc tp ts tv tt tl).length := by rw [txc_length hv]; exact size34
          have zux : (Try.prog.info? 34).map (·.size) = some (txc up us uv ut ul).length := by rw [txc_length hu]; exact size34
          have zm : (Try.prog.info? 39).map (·.size) = some [Value.int .i64 m.p, .int .i64 m.s, .int .i64 m.i].length := size39
          have zn : (Try.prog.info? 39).map (·.size) = some [Value.int .i64 n.p, .int .i64 n.s, .int .i64 n.i].length := size39
          have C1 := fun w' (hb : Below w4.heap.size w4 w') => ins_any x _ _ _ _ tp ts tv tt tl 1 m ⟨#[120]⟩ w' hv (hf.later hb) hs
          have C2 := fun va vw vm ve w' (h : Four w' x1 va vw vm ve) => ins_any x1 va vw vm ve up us uv ut ul 1 n ⟨#[121]⟩ w' hu h s1
          rw [H1.out] at C1
          rw [HA.out] at C2
          have hS : Calm.Stays (fun w' => Below w4.heap.size w4 w') := fun wa wb h hb => below_on h hb
          have hF : Facts.Stay [pF 0 (eqP (.agg ([Value.int .i64 x.k, .int .i64 x.b, .slice pa x.am.length ca', .slice pw x.wr.length cw, .slice pm x.mb.length cm, .slice pe x.el.length ce] : List Value).toArray)), pF 1 (eqP (.agg (txc tp ts tv tt tl).toArray)), pF 2 (eqP (.agg [Value.int .i64 m.p, .int .i64 m.s, .int .i64 m.i].toArray)), pF 3 (cP x1), pF 4 (eqP (.agg (txc up us uv ut ul).toArray)), pF 5 (eqP (.agg [Value.int .i64 n.p, .int .i64 n.s, .int .i64 n.i].toArray)), pF 6 (cP xa), pF 7 (boxP w4.heap.size 27 (cvc 0 0 (.slice none 0 0) (.slice none 0 0) (.slice none 0 0) (.slice none 0 0)))] := stay_of (by simp only [List.forall_mem_cons]; exact ⟨⟨_, _, rfl, eqP_keeps _⟩, ⟨_, _, rfl, eqP_keeps _⟩, ⟨_, _, rfl, eqP_keeps _⟩, ⟨_, _, rfl, cP_keeps _⟩, ⟨_, _, rfl, eqP_keeps _⟩, ⟨_, _, rfl, eqP_keeps _⟩, ⟨_, _, rfl, cP_keeps _⟩, ⟨_, _, rfl, boxP_keeps _ _ _⟩, fun _ h => by cases h⟩)
          refine Facts.regionTail (by kernel_rfl) (by kernel_rfl) 8 (by decide) (by kernel_rfl) (fun w' => Below w4.heap.size w4 w') (fun xv => { tmps := #[CV x.k x.b (Value.slice pa x.am.length ca') (Value.slice pw x.wr.length cw) (Value.slice pm x.mb.length cm) (Value.slice pe x.el.length ce), TxV tp ts tv tt tl, TxV up us uv ut ul, MV m.p m.s m.i, MV n.p n.s n.i, Value.pointer (some { block := w.heap.size, off := 0 }), Value.pointer (some { block := w.heap.size + 1, off := 0 }), Value.pointer (some { block := w.heap.size + 1 + 1, off := 0 }), Value.pointer (some { block := w.heap.size + 1 + 1 + 1, off := 0 }), Value.pointer (some { block := w.heap.size + 1 + 1 + 1 + 1, off := 0 }), Value.bool false, Value.pointer (some { block := w5.heap.size, off := 0 }), xv 7, undef, undef, undef, undef, undef, u18, u19, u20, u21, u22, u23, u24, u25, u26, u27, u28, u29, u30, u31, u32, u33, u34, u35, u36, u37, u38, u39, u40, u41, u42, u43, u44, u45, u46, u47, u48, u49, u50, u51, u52, u53, u54, Value.bool false, u56, Value.pointer (some { block := w.heap.size, off := 5 }), Value.slice pe x.el.length ce, Value.pointer (some { block := w.heap.size + 1, off := 0 }), Value.agg #[Value.int IntKind.i64 tp, Value.int IntKind.i64 ts], Value.agg #[Value.int IntKind.i64 tp, Value.int IntKind.i64 ts, Value.int IntKind.i64 1], Value.int IntKind.i64 z1, Value.bool false, Value.bool false, Value.pointer (some { block := w.heap.size, off := 5 }), Value.slice pe x.el.length ce, Value.pointer (some { block := w.heap.size + 1 + 1, off := 0 }), Value.agg #[Value.int IntKind.i64 up, Value.int IntKind.i64 us], Value.agg #[Value.int IntKind.i64 up, Value.int IntKind.i64 us, Value.int IntKind.i64 1], Value.int IntKind.i64 z2, Value.bool false, Value.bool false, u73, xv 0, xv 1, xv 2, xv 3, xv 4, xv 5, xv 6, u81, u82, u83, u84, u85, u86, u87, u88, u89, u90, u91, u92, u93, u94, u95, u96, u97, u98, u99, u100, u101, u102, u103, u104, u105, u106, u107, u108, u109, u110, u111, u112, u113, u114, u115, u116, u117, u118, u119, u120, u121, u122, u123, u124, u125, u126, u127, u128, u129, u130, u131, u132, u133, u134, u135, u136, u137, u138], defers := [] }) [pF 0 (eqP (.agg ([Value.int .i64 x.k, .int .i64 x.b, .slice pa x.am.length ca', .slice pw x.wr.length cw, .slice pm x.mb.length cm, .slice pe x.el.length ce] : List Value).toArray)), pF 1 (eqP (.agg (txc tp ts tv tt tl).toArray)), pF 2 (eqP (.agg [Value.int .i64 m.p, .int .i64 m.s, .int .i64 m.i].toArray)), pF 3 (cP x1), pF 4 (eqP (.agg (txc up us uv ut ul).toArray)), pF 5 (eqP (.agg [Value.int .i64 n.p, .int .i64 n.s, .int .i64 n.i].toArray)), pF 6 (cP xa), pF 7 (boxP w4.heap.size 27 (cvc 0 0 (.slice none 0 0) (.slice none 0 0) (.slice none 0 0) (.slice none 0 0)))] _ rfl rfl (by kernel_rfl) (fun j => [u74, u75, u76, u77, u78, u79, u80, undef].getD j undef) rfl (Below.refl _ w4).drew ⟨?_, ?_, ?_, ?_, ?_, ?_, ?_, ?_, ?_, trivial⟩ ?_
          · exact fun _ => Facts.loadP hS hF (fun _ _ => rfl) 27 Try.underlying27 rfl zx _ rfl rfl (fun xv wv hSw hd => by rfl) (fun wv hSw => Rw.whole (cs := [Value.int .i64 x.k, .int .i64 x.b, .slice pa x.am.length ca', .slice pw x.wr.length cw, .slice pm x.mb.length cm, .slice pe x.el.length ce]) (R0.later hSw))
          · exact fun _ => Facts.loadP hS hF (fun _ _ => rfl) 34 Try.underlying34 rfl ztx _ rfl rfl (fun xv wv hSw hd => by rfl) (fun wv hSw => Rw.whole (cs := (txc tp ts tv tt tl)) (R1.later hSw))
          · exact fun _ => Facts.loadP hS hF (fun _ _ => rfl) 39 Try.underlying39 rfl zm _ rfl rfl (fun xv wv hSw hd => by rfl) (fun wv hSw => Rw.whole (cs := [Value.int .i64 m.p, .int .i64 m.s, .int .i64 m.i]) (R3.later hSw))
          · refine fun _ => Facts.call5P hS hF (fun _ _ => rfl) rfl (by kernel_rfl) rfl (fun xv wv hSw hd => ?_)
            have d0 : xv 0 = _ := pF_get (hd ⟨0, .data⟩ (by simp) rfl _ rfl)
            have d1 : xv 1 = _ := pF_get (hd ⟨1, .data⟩ (by simp) rfl _ rfl)
            have d2 : xv 2 = _ := pF_get (hd ⟨2, .data⟩ (by simp) rfl _ rfl)
            show Calls Try.prog 14 #[xv 0, xv 1, .int .i64 1, xv 2, .string ⟨#[120]⟩] wv _
            rw [d0, d1, d2]
            exact (C1 wv hSw).mono fun e w' h => gives_p h
          · exact fun _ => Facts.loadP hS hF (fun _ _ => rfl) 34 Try.underlying34 rfl zux _ rfl rfl (fun xv wv hSw hd => by rfl) (fun wv hSw => Rw.whole (cs := (txc up us uv ut ul)) (R2.later hSw))
          · exact fun _ => Facts.loadP hS hF (fun _ _ => rfl) 39 Try.underlying39 rfl zn _ rfl rfl (fun xv wv hSw hd => by rfl) (fun wv hSw => Rw.whole (cs := [Value.int .i64 n.p, .int .i64 n.s, .int .i64 n.i]) (R4.later hSw))
          · refine fun _ => Facts.call5P hS hF (fun _ _ => rfl) rfl (by kernel_rfl) rfl (fun xv wv hSw hd => ?_)
            have d3 := pF_get (hd ⟨3, .data⟩ (by simp) rfl _ rfl)
            have d4 : xv 4 = _ := pF_get (hd ⟨4, .data⟩ (by simp) rfl _ rfl)
            have d5 : xv 5 = _ := pF_get (hd ⟨5, .data⟩ (by simp) rfl _ rfl)
            show Calls Try.prog 14 #[xv 3, xv 4, .int .i64 1, xv 5, .string ⟨#[121]⟩] wv _
            obtain ⟨va, vw, vm, ve, e2, f2⟩ := d3
            rw [e2, d4, d5]
            exact (C2 va vw vm ve wv f2).mono fun e w' h => gives_p h
          · exact fun _ => Facts.allocP hS hF (fun _ _ => rfl) 27 rfl (fun wv hSw => hSw.size) (fun _ _ => rfl)
          · exact fun h => absurd h (by decide)
          intro xqj w6 hb5 hff
          obtain ⟨ua, uw, um, ue, e6, FP⟩ := pF_get (hff 6 _ rfl)
          obtain ⟨qp, eqj, hNj, hq⟩ := pF_get (hff 7 _ rfl)
          clear hff hS hF
          obtain ⟨ja, jb, jc, jd, je, jf, jg, jh, rfl, rfl, rfl, rfl⟩ := FP.slices
          replace e6 : xqj 6 = .agg (cvc xa.k xa.b (.slice ja xa.am.length jb) (.slice jc xa.wr.length jd) (.slice je xa.mb.length jf) (.slice jg xa.el.length jh)) := e6
          refine tail_store 27 _ _ rfl qp 0 eqj e6 (hq.store (cvc xa.k xa.b (.slice ja xa.am.length jb) (.slice jc xa.wr.length jd) (.slice je xa.mb.length jf) (.slice jg xa.el.length jh)) size27 rfl (by simp [Value.oneCell'])) ?_
          refine Facts.tailWp_nil ?_
          simp only [eqj]
          have hb6 := below_setRow hb5 (g := qp) hNj (cvc xa.k xa.b (.slice ja xa.am.length jb) (.slice jc xa.wr.length jd) (.slice je xa.mb.length jf) (.slice jg xa.el.length jh))
          replace R0 := R0.later hb6
          replace R1 := R1.later hb6
          replace R2 := R2.later hb6
          replace R3 := R3.later hb6
          replace R4 := R4.later hb6
          replace hf := hf.later hb6
          replace hbel := below_on hbel hb6
          replace FP := FP.row hq (cvc xa.k xa.b (.slice ja xa.am.length jb) (.slice jc xa.wr.length jd) (.slice je xa.mb.length jf) (.slice jg xa.el.length jh))
          have RP := hq.row (cvc xa.k xa.b (.slice ja xa.am.length jb) (.slice jc xa.wr.length jd) (.slice je xa.mb.length jf) (.slice jg xa.el.length jh))
          clear hb5 hb6 hq eqj e6 hNj
          generalize w6.setRow qp (cvc xa.k xa.b (.slice ja xa.am.length jb) (.slice jc xa.wr.length jd) (.slice je xa.mb.length jf) (.slice jg xa.el.length jh)) = w7 at R0 R1 R2 R3 R4 hf hbel FP RP ⊢
          simp only [Act.put]
          clear C1 C2
          have C1 := fun w' (hb : Below w7.heap.size w7 w') => ins_any x _ _ _ _ up us uv ut ul 1 n ⟨#[121]⟩ w' hu (hf.later hb) hs
          have C2 := fun va vw vm ve w' (h : Four w' x2 va vw vm ve) => ins_any x2 va vw vm ve tp ts tv tt tl 1 m ⟨#[120]⟩ w' hv h s2
          rw [H2.out] at C1
          rw [HB.out] at C2
          go_wp2_with fail
          have hS : Calm.Stays (fun w' => Below w7.heap.size w7 w') := fun wa wb h hb => below_on h hb
          have hF : Facts.Stay [pF 0 (eqP (.agg ([Value.int .i64 x.k, .int .i64 x.b, .slice pa x.am.length ca', .slice pw x.wr.length cw, .slice pm x.mb.length cm, .slice pe x.el.length ce] : List Value).toArray)), pF 1 (eqP (.agg (txc up us uv ut ul).toArray)), pF 2 (eqP (.agg [Value.int .i64 n.p, .int .i64 n.s, .int .i64 n.i].toArray)), pF 3 (cP x2), pF 4 (eqP (.agg (txc tp ts tv tt tl).toArray)), pF 5 (eqP (.agg [Value.int .i64 m.p, .int .i64 m.s, .int .i64 m.i].toArray)), pF 6 (cP xa), pF 7 (boxP w7.heap.size 27 (cvc 0 0 (.slice none 0 0) (.slice none 0 0) (.slice none 0 0) (.slice none 0 0)))] := stay_of (by simp only [List.forall_mem_cons]; exact ⟨⟨_, _, rfl, eqP_keeps _⟩, ⟨_, _, rfl, eqP_keeps _⟩, ⟨_, _, rfl, eqP_keeps _⟩, ⟨_, _, rfl, cP_keeps _⟩, ⟨_, _, rfl, eqP_keeps _⟩, ⟨_, _, rfl, eqP_keeps _⟩, ⟨_, _, rfl, cP_keeps _⟩, ⟨_, _, rfl, boxP_keeps _ _ _⟩, fun _ h => by cases h⟩)
          refine Facts.regionTail (by kernel_rfl) (by kernel_rfl) 8 (by decide) (by kernel_rfl) (fun w' => Below w7.heap.size w7 w') (fun xv => { tmps := #[CV x.k x.b (Value.slice pa x.am.length ca') (Value.slice pw x.wr.length cw) (Value.slice pm x.mb.length cm) (Value.slice pe x.el.length ce), TxV tp ts tv tt tl, TxV up us uv ut ul, MV m.p m.s m.i, MV n.p n.s n.i, Value.pointer (some { block := w.heap.size, off := 0 }), Value.pointer (some { block := w.heap.size + 1, off := 0 }), Value.pointer (some { block := w.heap.size + 1 + 1, off := 0 }), Value.pointer (some { block := w.heap.size + 1 + 1 + 1, off := 0 }), Value.pointer (some { block := w.heap.size + 1 + 1 + 1 + 1, off := 0 }), Value.bool false, Value.pointer (some { block := w5.heap.size, off := 0 }), Value.pointer (some { block := qp, off := 0 }), xv 7, undef, undef, undef, undef, u18, u19, u20, u21, u22, u23, u24, u25, u26, u27, u28, u29, u30, u31, u32, u33, u34, u35, u36, u37, u38, u39, u40, u41, u42, u43, u44, u45, u46, u47, u48, u49, u50, u51, u52, u53, u54, Value.bool false, u56, Value.pointer (some { block := w.heap.size, off := 5 }), Value.slice pe x.el.length ce, Value.pointer (some { block := w.heap.size + 1, off := 0 }), Value.agg #[Value.int IntKind.i64 tp, Value.int IntKind.i64 ts], Value.agg #[Value.int IntKind.i64 tp, Value.int IntKind.i64 ts, Value.int IntKind.i64 1], Value.int IntKind.i64 z1, Value.bool false, Value.bool false, Value.pointer (some { block := w.heap.size, off := 5 }), Value.slice pe x.el.length ce, Value.pointer (some { block := w.heap.size + 1 + 1, off := 0 }), Value.agg #[Value.int IntKind.i64 up, Value.int IntKind.i64 us], Value.agg #[Value.int IntKind.i64 up, Value.int IntKind.i64 us, Value.int IntKind.i64 1], Value.int IntKind.i64 z2, Value.bool false, Value.bool false, u73, xqj 0, xqj 1, xqj 2, xqj 3, xqj 4, xqj 5, xqj 6, xv 0, xv 1, xv 2, xv 3, xv 4, xv 5, xv 6, u88, u89, u90, u91, u92, u93, u94, u95, u96, u97, u98, u99, u100, u101, u102, u103, u104, u105, u106, u107, u108, u109, u110, u111, u112, u113, u114, u115, u116, u117, u118, u119, u120, u121, u122, u123, u124, u125, u126, u127, u128, u129, u130, u131, u132, u133, u134, u135, u136, u137, u138], defers := [] }) [pF 0 (eqP (.agg ([Value.int .i64 x.k, .int .i64 x.b, .slice pa x.am.length ca', .slice pw x.wr.length cw, .slice pm x.mb.length cm, .slice pe x.el.length ce] : List Value).toArray)), pF 1 (eqP (.agg (txc up us uv ut ul).toArray)), pF 2 (eqP (.agg [Value.int .i64 n.p, .int .i64 n.s, .int .i64 n.i].toArray)), pF 3 (cP x2), pF 4 (eqP (.agg (txc tp ts tv tt tl).toArray)), pF 5 (eqP (.agg [Value.int .i64 m.p, .int .i64 m.s, .int .i64 m.i].toArray)), pF 6 (cP xa), pF 7 (boxP w7.heap.size 27 (cvc 0 0 (.slice none 0 0) (.slice none 0 0) (.slice none 0 0) (.slice none 0 0)))] _ rfl rfl (by kernel_rfl) (fun j => [u81, u82, u83, u84, u85, u86, u87, undef].getD j undef) rfl (Below.refl _ w7).drew ⟨?_, ?_, ?_, ?_, ?_, ?_, ?_, ?_, ?_, trivial⟩ ?_
          · exact fun _ => Facts.loadP hS hF (fun _ _ => rfl) 27 Try.underlying27 rfl zx _ rfl rfl (fun xv wv hSw hd => by rfl) (fun wv hSw => Rw.whole (cs := [Value.int .i64 x.k, .int .i64 x.b, .slice pa x.am.length ca', .slice pw x.wr.length cw, .slice pm x.mb.length cm, .slice pe x.el.length ce]) (R0.later hSw))
          · exact fun _ => Facts.loadP hS hF (fun _ _ => rfl) 34 Try.underlying34 rfl zux _ rfl rfl (fun xv wv hSw hd => by rfl) (fun wv hSw => Rw.whole (cs := (txc up us uv ut ul)) (R2.later hSw))
          · exact fun _ => Facts.loadP hS hF (fun _ _ => rfl) 39 Try.underlying39 rfl zn _ rfl rfl (fun xv wv hSw hd => by rfl) (fun wv hSw => Rw.whole (cs := [Value.int .i64 n.p, .int .i64 n.s, .int .i64 n.i]) (R4.later hSw))
          · refine fun _ => Facts.call5P hS hF (fun _ _ => rfl) rfl (by kernel_rfl) rfl (fun xv wv hSw hd => ?_)
            have d0 : xv 0 = _ := pF_get (hd ⟨0, .data⟩ (by simp) rfl _ rfl)
            have d1 : xv 1 = _ := pF_get (hd ⟨1, .data⟩ (by simp) rfl _ rfl)
            have d2 : xv 2 = _ := pF_get (hd ⟨2, .data⟩ (by simp) rfl _ rfl)
            show Calls Try.prog 14 #[xv 0, xv 1, .int .i64 1, xv 2, .string ⟨#[121]⟩] wv _
            rw [d0, d1, d2]
            exact (C1 wv hSw).mono fun e w' h => gives_p h
          · exact fun _ => Facts.loadP hS hF (fun _ _ => rfl) 34 Try.underlying34 rfl ztx _ rfl rfl (fun xv wv hSw hd => by rfl) (fun wv hSw => Rw.whole (cs := (txc tp ts tv tt tl)) (R1.later hSw))
          · exact fun _ => Facts.loadP hS hF (fun _ _ => rfl) 39 Try.underlying39 rfl zm _ rfl rfl (fun xv wv hSw hd => by rfl) (fun wv hSw => Rw.whole (cs := [Value.int .i64 m.p, .int .i64 m.s, .int .i64 m.i]) (R3.later hSw))
          · refine fun _ => Facts.call5P hS hF (fun _ _ => rfl) rfl (by kernel_rfl) rfl (fun xv wv hSw hd => ?_)
            have d3 := pF_get (hd ⟨3, .data⟩ (by simp) rfl _ rfl)
            have d4 : xv 4 = _ := pF_get (hd ⟨4, .data⟩ (by simp) rfl _ rfl)
            have d5 : xv 5 = _ := pF_get (hd ⟨5, .data⟩ (by simp) rfl _ rfl)
            show Calls Try.prog 14 #[xv 3, xv 4, .int .i64 1, xv 5, .string ⟨#[120]⟩] wv _
            obtain ⟨va, vw, vm, ve, e2, f2⟩ := d3
            rw [e2, d4, d5]
            exact (C2 va vw vm ve wv f2).mono fun e w' h => gives_p h
          · exact fun _ => Facts.allocP hS hF (fun _ _ => rfl) 27 rfl (fun wv hSw => hSw.size) (fun _ _ => rfl)
          · exact fun h => absurd h (by decide)
          intro xqk w8 hb5 hff
          obtain ⟨ua, uw, um, ue, e6, FQ⟩ := pF_get (hff 6 _ rfl)
          obtain ⟨qq, eqk, hNk, hq⟩ := pF_get (hff 7 _ rfl)
          clear hff hS hF
          obtain ⟨ka, kb, kc, kd, ke, kf, kg, kh, rfl, rfl, rfl, rfl⟩ := FQ.slices
          replace e6 : xqk 6 = .agg (cvc xa.k xa.b (.slice ka xa.am.length kb) (.slice kc xa.wr.length kd) (.slice ke xa.mb.length kf) (.slice kg xa.el.length kh)) := e6
          refine tail_store 27 _ _ rfl qq 0 eqk e6 (hq.store (cvc xa.k xa.b (.slice ka xa.am.length kb) (.slice kc xa.wr.length kd) (.slice ke xa.mb.length kf) (.slice kg xa.el.length kh)) size27 rfl (by simp [Value.oneCell'])) ?_
          refine Facts.tailWp_nil ?_
          simp only [eqk]
          have hb6 := below_setRow hb5 (g := qq) hNk (cvc xa.k xa.b (.slice ka xa.am.length kb) (.slice kc xa.wr.length kd) (.slice ke xa.mb.length kf) (.slice kg xa.el.length kh))
          replace R0 := R0.later hb6
          replace RP := RP.later hb6
          replace hf := hf.later hb6
          replace FP := FP.later hb6
          replace hbel := below_on hbel hb6
          replace FQ := FQ.row hq (cvc xa.k xa.b (.slice ka xa.am.length kb) (.slice kc xa.wr.length kd) (.slice ke xa.mb.length kf) (.slice kg xa.el.length kh))
          have RQ := hq.row (cvc xa.k xa.b (.slice ka xa.am.length kb) (.slice kc xa.wr.length kd) (.slice ke xa.mb.length kf) (.slice kg xa.el.length kh))
          clear hb5 hb6 hq eqk e6 hNk
          generalize w8.setRow qq (cvc xa.k xa.b (.slice ka xa.am.length kb) (.slice kc xa.wr.length kd) (.slice ke xa.mb.length kf) (.slice kg xa.el.length kh)) = w9 at R0 RP hf FP hbel FQ RQ ⊢
          simp only [Act.put]
          clear C1 C2 R1 R2 R3 R4 H1 H2 HA HB s1 s2
          go_wp2_with fail
          have zp : (Try.prog.info? 27).map (·.size) = some ([Value.int .i64 xa.k, .int .i64 xa.b, .slice ja xa.am.length jb, .slice jc xa.wr.length jd, .slice je xa.mb.length jf, .slice jg xa.el.length jh] : List Value).length := size27
          have C1 := fun w' (hb : Below w9.heap.size w9 w') => order_any x _ _ _ _ w' (hf.later hb) hs
          have C2 := fun w' (hb : Below w9.heap.size w9 w') => order_any xa _ _ _ _ w' (FP.later hb) sa
          unfold OrPost at C1 C2
          rw [HLO.out] at C1
          rw [HLA.out] at C2
          have hS : Calm.Stays (fun w' => Below w9.heap.size w9 w') := fun wa wb h hb => below_on h hb
          have hF : Facts.Stay [pF 0 (eqP (.agg ([Value.int .i64 x.k, .int .i64 x.b, .slice pa x.am.length ca', .slice pw x.wr.length cw, .slice pm x.mb.length cm, .slice pe x.el.length ce] : List Value).toArray)), pF 1 (mkP lo), pF 2 (eqP (.agg ([Value.int .i64 xa.k, .int .i64 xa.b, .slice ja xa.am.length jb, .slice jc xa.wr.length jd, .slice je xa.mb.length jf, .slice jg xa.el.length jh] : List Value).toArray)), pF 3 (mkP la), pF 4 (mkP lo), pF 5 (mkP la)] := stay_of (by simp only [List.forall_mem_cons]; exact ⟨⟨_, _, rfl, eqP_keeps _⟩, ⟨_, _, rfl, mkP_keeps _⟩, ⟨_, _, rfl, eqP_keeps _⟩, ⟨_, _, rfl, mkP_keeps _⟩, ⟨_, _, rfl, mkP_keeps _⟩, ⟨_, _, rfl, mkP_keeps _⟩, fun _ h => by cases h⟩)
          refine FactsG.region (by kernel_rfl) (by kernel_rfl) (fun w' => Below w9.heap.size w9 w') (fun xv => { tmps := #[CV x.k x.b (Value.slice pa x.am.length ca') (Value.slice pw x.wr.length cw) (Value.slice pm x.mb.length cm) (Value.slice pe x.el.length ce), TxV tp ts tv tt tl, TxV up us uv ut ul, MV m.p m.s m.i, MV n.p n.s n.i, Value.pointer (some { block := w.heap.size, off := 0 }), Value.pointer (some { block := w.heap.size + 1, off := 0 }), Value.pointer (some { block := w.heap.size + 1 + 1, off := 0 }), Value.pointer (some { block := w.heap.size + 1 + 1 + 1, off := 0 }), Value.pointer (some { block := w.heap.size + 1 + 1 + 1 + 1, off := 0 }), Value.bool false, Value.pointer (some { block := w5.heap.size, off := 0 }), Value.pointer (some { block := qp, off := 0 }), Value.pointer (some { block := qq, off := 0 }), xv 4, xv 5, undef, undef, u18, u19, u20, u21, u22, u23, u24, u25, u26, u27, u28, u29, u30, u31, u32, u33, u34, u35, u36, u37, u38, u39, u40, u41, u42, u43, u44, u45, u46, u47, u48, u49, u50, u51, u52, u53, u54, Value.bool false, u56, Value.pointer (some { block := w.heap.size, off := 5 }), Value.slice pe x.el.length ce, Value.pointer (some { block := w.heap.size + 1, off := 0 }), Value.agg #[Value.int IntKind.i64 tp, Value.int IntKind.i64 ts], Value.agg #[Value.int IntKind.i64 tp, Value.int IntKind.i64 ts, Value.int IntKind.i64 1], Value.int IntKind.i64 z1, Value.bool false, Value.bool false, Value.pointer (some { block := w.heap.size, off := 5 }), Value.slice pe x.el.length ce, Value.pointer (some { block := w.heap.size + 1 + 1, off := 0 }), Value.agg #[Value.int IntKind.i64 up, Value.int IntKind.i64 us], Value.agg #[Value.int IntKind.i64 up, Value.int IntKind.i64 us, Value.int IntKind.i64 1], Value.int IntKind.i64 z2, Value.bool false, Value.bool false, u73, xqj 0, xqj 1, xqj 2, xqj 3, xqj 4, xqj 5, xqj 6, xqk 0, xqk 1, xqk 2, xqk 3, xqk 4, xqk 5, xqk 6, xv 0, xv 1, xv 2, xv 3, u92, u93, u94, u95, u96, u97, u98, u99, u100, u101, u102, u103, u104, u105, u106, u107, u108, u109, u110, u111, u112, u113, u114, u115, u116, u117, u118, u119, u120, u121, u122, u123, u124, u125, u126, u127, u128, u129, u130, u131, u132, u133, u134, u135, u136, u137, u138], defers := [] }) [pF 0 (eqP (.agg ([Value.int .i64 x.k, .int .i64 x.b, .slice pa x.am.length ca', .slice pw x.wr.length cw, .slice pm x.mb.length cm, .slice pe x.el.length ce] : List Value).toArray)), pF 1 (mkP lo), pF 2 (eqP (.agg ([Value.int .i64 xa.k, .int .i64 xa.b, .slice ja xa.am.length jb, .slice jc xa.wr.length jd, .slice je xa.mb.length jf, .slice jg xa.el.length jh] : List Value).toArray)), pF 3 (mkP la), pF 4 (mkP lo), pF 5 (mkP la)] (fun _ _ _ _ => True) (fun _ _ _ _ _ => trivial) _ rfl rfl (by kernel_rfl) (fun j => [u88, u89, u90, u91, undef, undef].getD j undef) rfl (Below.refl _ w9).drew ⟨?_, ?_, ?_, ?_, ?_, ?_, trivial⟩ ?_
          · exact FactsG.of rfl (fun _ _ _ => trivial) (fun _ _ _ _ => rfl) (Facts.loadP hS hF (fun _ _ => rfl) 27 Try.underlying27 rfl zx _ rfl rfl (fun xv wv hSw hd => by rfl) (fun wv hSw => Rw.whole (cs := [Value.int .i64 x.k, .int .i64 x.b, .slice pa x.am.length ca', .slice pw x.wr.length cw, .slice pm x.mb.length cm, .slice pe x.el.length ce]) (R0.later hSw)))
          · refine FactsG.of rfl (fun _ _ _ => trivial) (fun _ _ _ _ => rfl) (Facts.call1P hS hF (fun _ _ => rfl) rfl (by kernel_rfl) rfl (fun xv wv hSw hd => ?_))
            have d0 : xv 0 = _ := pF_get (hd ⟨0, .data⟩ (by simp) rfl _ rfl)
            show Calls Try.prog 17 #[xv 0] wv _
            rw [d0]
            refine (C1 wv hSw).mono ?_
            rintro e w' ⟨u, he, ht, hb⟩
            exact ⟨_, he, own_sh ht, hb⟩
          · exact FactsG.of rfl (fun _ _ _ => trivial) (fun _ _ _ _ => rfl) (Facts.loadP hS hF (fun _ _ => rfl) 27 Try.underlying27 rfl zp _ rfl rfl (fun xv wv hSw hd => by rfl) (fun wv hSw => Rw.whole (cs := [Value.int .i64 xa.k, .int .i64 xa.b, .slice ja xa.am.length jb, .slice jc xa.wr.length jd, .slice je xa.mb.length jf, .slice jg xa.el.length jh]) (RP.later hSw)))
          · refine FactsG.of rfl (fun _ _ _ => trivial) (fun _ _ _ _ => rfl) (Facts.call1P hS hF (fun _ _ => rfl) rfl (by kernel_rfl) rfl (fun xv wv hSw hd => ?_))
            have d2 : xv 2 = _ := pF_get (hd ⟨2, .data⟩ (by simp) rfl _ rfl)
            show Calls Try.prog 17 #[xv 2] wv _
            rw [d2]
            refine (C2 wv hSw).mono ?_
            rintro e w' ⟨u, he, ht, hb⟩
            exact ⟨_, he, own_sh ht, hb⟩
          · refine FactsG.of rfl (fun _ _ _ => trivial) (fun _ _ _ _ => rfl) (Facts.moveP hS hF (fun _ _ => rfl) rfl (fun xv => xv 1) (fun xv wv hSw hd => ?_))
            have d1 := pF_get (hd ⟨1, .data⟩ (by simp) rfl _ rfl)
            exact ⟨by go_simp, d1⟩
          · refine FactsG.of rfl (fun _ _ _ => trivial) (fun _ _ _ _ => rfl) (Facts.moveP hS hF (fun _ _ => rfl) rfl (fun xv => xv 3) (fun xv wv hSw hd => ?_))
            have d3 := pF_get (hd ⟨3, .data⟩ (by simp) rfl _ rfl)
            exact ⟨by go_simp, d3⟩
          rintro xv w10 hb5 hff _
          have f14 := pF_get (hff 4 _ (by decide) rfl)
          have f15 := pF_get (hff 5 _ (by decide) rfl)
          clear hff hS hF C1 C2
          replace f14 : MHas w10 (xv 4) lo := f14
          replace f15 : MHas w10 (xv 5) la := f15
          obtain ⟨p4, c4, e14⟩ := f14.slice
          obtain ⟨p5, c5, e15⟩ := f15.slice
          rw [e14] at f14
          rw [e15] at f15
          simp only [e14, e15]
          clear e14 e15
          have HRP := RP.later hb5
          have HRQ := RQ.later hb5
          have HFP := FP.later hb5
          have HFQ := FQ.later hb5
          have HBEL := below_on hbel hb5
          clear hb5 RP RQ FP FQ hbel R0 hf
          go_wp2_with fail
          obtain ⟨w11, HW⟩ := hid_ex w10
          rw [HW.out] at HRP HRQ HFP HFQ HBEL f14 f15 ⊢
          clear HW
          go_loopw [16, 17] (fun va vi wr => ∃ (i a : Nat), va = .int .i64 a ∧ vi = .int .i64 i ∧ i ≤ la.length ∧ a ≤ lo.length ∧ Hid (grd lo (la.take i) 0 = a) ∧ Below w11.heap.size w11 wr) (fun _ vi _ => la.length - (intOf vi).toNat)
          case atStart => exact ⟨0, 0, rfl, rfl, by omega, by omega, (show grd lo (la.take 0) 0 = 0 from rfl), Below.refl _ _⟩
          case round =>
            obtain ⟨i, a, rfl, rfl, hi, ha, HG, hb9⟩ := hrel
            by_cases hi' : i < la.length
            case' pos =>
              have hi2 : (i : Int) < (la.length : Int) := by omega
              have hi0 : (0 : Int) ≤ (i : Int) := by omega
              by_cases ha' : a < lo.length
              case' pos =>
                have ha2 : (a : Int) < (lo.length : Int) := by omega
                have ha0 : (0 : Int) ≤ (a : Int) := by omega
                obtain ⟨g1, o1, rfl, hr1⟩ := f15.at (by omega)
                obtain ⟨g2, o2, rfl, hr2⟩ := f14.at (by omega)
                have d1 := M.elem (range_later hr1 hb9) i hi'
                have d2 := M.elem (range_later hr2 hb9) a ha'
                obtain ⟨y1, HY1⟩ := hid_ex la[i]
                obtain ⟨y2, HY2⟩ := hid_ex lo[a]
                rw [HY1.out] at d1
                rw [HY2.out] at d2
                have z1 : (Try.prog.info? 39).map (·.size) = some y1.cells.length := size39
                have z2 : (Try.prog.info? 39).map (·.size) = some y2.cells.length := size39
                have E := fun w => eq_mark w y1.p y1.s y1.i y2.p y2.s y2.i
                obtain ⟨t, HT⟩ := hid_ex (decide (kM y1 = kM y2))
                rw [show (decide (y1.p = y2.p) && decide (y1.s = y2.s) && decide (y1.i = y2.i)) = t from (mm_eq _ _).symm.trans HT.out] at E
                have HG2 := grd_succ (lo := lo) hi' HG.out ha'
                rw [HY1.out, HY2.out] at HG2
                have hwa : IntKind.i64.wrap ((a : Int) + 1) = (a : Int) + 1 := by rw [IntKind.wrap_i64]; omega
                clear hr1 hr2
                cases t
                case' true =>
                  have HG3 : Hid (grd lo (la.take (i + 1)) 0 = a + 1) := by
                    show _ = _
                    rw [HG2, if_pos (of_decide_eq_true HT.out).symm]
                  clear HG2 HG HT HY1 HY2
                  go_wp2_with fail
                  have hs : Calm.Stays (fun w' => w'.rangeAt g1 (o1 + i * 3) y1.cells ∧ w'.rangeAt g2 (o2 + a * 3) y2.cells ∧ Below w11.heap.size w11 w') := fun wa wb h hb => ⟨range_later h.1 hb, range_later h.2.1 hb, below_on h.2.2 hb⟩
                  refine Calm.region (by kernel_rfl) (by kernel_rfl) (fun w' => w'.rangeAt g1 (o1 + i * 3) y1.cells ∧ w'.rangeAt g2 (o2 + a * 3) y2.cells ∧ Below w11.heap.size w11 w') ⟨d1, d2, hb9.drew⟩ ?_
                  all_goals
                    refine Calm.pure (v := ?_) (by rfl) ?_ ?_
                    rotate_left
                    focus (intro w hSw; go_simp <;> rfl)
                    simp only [Act.put, List.setIfInBounds_toArray, List.set_cons_zero, List.set_cons_succ]
                  all_goals
                    refine Calm.pure (v := ?_) (by rfl) ?_ ?_
                    rotate_left
                    focus (intro w hSw; go_simp <;> rfl)
                    simp only [Act.put, List.setIfInBounds_toArray, List.set_cons_zero, List.set_cons_succ]
                  all_goals
                    refine Calm.pure (v := ?_) (by rfl) ?_ ?_
                    rotate_left
                    focus (intro w hSw; go_simp <;> rfl)
                    simp only [Act.put, List.setIfInBounds_toArray, List.set_cons_zero, List.set_cons_succ]
                  all_goals
                    first | (refine Calm.loadM 39 Try.underlying39 rfl z1 (by rfl) _ rfl rfl (fun _ h => h.1) ?_) | (refine Calm.loadM 39 Try.underlying39 rfl z2 (by rfl) _ rfl rfl (fun _ h => h.2.1) ?_)
                    simp only [Act.put, List.setIfInBounds_toArray, List.set_cons_zero, List.set_cons_succ]
                  all_goals
                    refine Calm.pure (v := ?_) (by rfl) ?_ ?_
                    rotate_left
                    focus (intro w hSw; go_simp <;> rfl)
                    simp only [Act.put, List.setIfInBounds_toArray, List.set_cons_zero, List.set_cons_succ]
                  all_goals
                    refine Calm.pure (v := ?_) (by rfl) ?_ ?_
                    rotate_left
                    focus (intro w hSw; go_simp <;> rfl)
                    simp only [Act.put, List.setIfInBounds_toArray, List.set_cons_zero, List.set_cons_succ]
                  all_goals
                    refine Calm.pure (v := ?_) (by rfl) ?_ ?_
                    rotate_left
                    focus (intro w hSw; go_simp <;> rfl)
                    simp only [Act.put, List.setIfInBounds_toArray, List.set_cons_zero, List.set_cons_succ]
                  all_goals
                    first | (refine Calm.loadM 39 Try.underlying39 rfl z1 (by rfl) _ rfl rfl (fun _ h => h.1) ?_) | (refine Calm.loadM 39 Try.underlying39 rfl z2 (by rfl) _ rfl rfl (fun _ h => h.2.1) ?_)
                    simp only [Act.put, List.setIfInBounds_toArray, List.set_cons_zero, List.set_cons_succ]
                  all_goals
                    refine Calm.pure (v := ?_) (by rfl) ?_ ?_
                    rotate_left
                    focus (intro w hSw; go_simp <;> rfl)
                    simp only [Act.put, List.setIfInBounds_toArray, List.set_cons_zero, List.set_cons_succ]
                  all_goals
                    rintro w12 ⟨_, _, hb12⟩
                  go_wp2_with fail
                  go_roundw
                  case rel => exact ⟨i + 1, a + 1, by simp, by simp, by omega, by omega, HG3, hb12⟩
                  case measure => simp [intOf]; omega
                case' false =>
                  have HG3 : Hid (grd lo (la.take (i + 1)) 0 = a) := by
                    show _ = _
                    rw [HG2, if_neg (fun e => of_decide_eq_false HT.out e.symm)]
                  clear HG2 HG HT HY1 HY2
                  go_wp2_with fail
                  have hs : Calm.Stays (fun w' => w'.rangeAt g1 (o1 + i * 3) y1.cells ∧ w'.rangeAt g2 (o2 + a * 3) y2.cells ∧ Below w11.heap.size w11 w') := fun wa wb h hb => ⟨range_later h.1 hb, range_later h.2.1 hb, below_on h.2.2 hb⟩
                  refine Calm.region (by kernel_rfl) (by kernel_rfl) (fun w' => w'.rangeAt g1 (o1 + i * 3) y1.cells ∧ w'.rangeAt g2 (o2 + a * 3) y2.cells ∧ Below w11.heap.size w11 w') ⟨d1, d2, hb9.drew⟩ ?_
                  all_goals
                    refine Calm.pure (v := ?_) (by rfl) ?_ ?_
                    rotate_left
                    focus (intro w hSw; go_simp <;> rfl)
                    simp only [Act.put, List.setIfInBounds_toArray, List.set_cons_zero, List.set_cons_succ]
                  all_goals
                    refine Calm.pure (v := ?_) (by rfl) ?_ ?_
                    rotate_left
                    focus (intro w hSw; go_simp <;> rfl)
                    simp only [Act.put, List.setIfInBounds_toArray, List.set_cons_zero, List.set_cons_succ]
                  all_goals
                    refine Calm.pure (v := ?_) (by rfl) ?_ ?_
                    rotate_left
                    focus (intro w hSw; go_simp <;> rfl)
                    simp only [Act.put, List.setIfInBounds_toArray, List.set_cons_zero, List.set_cons_succ]
                  all_goals
                    first | (refine Calm.loadM 39 Try.underlying39 rfl z1 (by rfl) _ rfl rfl (fun _ h => h.1) ?_) | (refine Calm.loadM 39 Try.underlying39 rfl z2 (by rfl) _ rfl rfl (fun _ h => h.2.1) ?_)
                    simp only [Act.put, List.setIfInBounds_toArray, List.set_cons_zero, List.set_cons_succ]
                  all_goals
                    refine Calm.pure (v := ?_) (by rfl) ?_ ?_
                    rotate_left
                    focus (intro w hSw; go_simp <;> rfl)
                    simp only [Act.put, List.setIfInBounds_toArray, List.set_cons_zero, List.set_cons_succ]
                  all_goals
                    refine Calm.pure (v := ?_) (by rfl) ?_ ?_
                    rotate_left
                    focus (intro w hSw; go_simp <;> rfl)
                    simp only [Act.put, List.setIfInBounds_toArray, List.set_cons_zero, List.set_cons_succ]
                  all_goals
                    refine Calm.pure (v := ?_) (by rfl) ?_ ?_
                    rotate_left
                    focus (intro w hSw; go_simp <;> rfl)
                    simp only [Act.put, List.setIfInBounds_toArray, List.set_cons_zero, List.set_cons_succ]
                  all_goals
                    first | (refine Calm.loadM 39 Try.underlying39 rfl z1 (by rfl) _ rfl rfl (fun _ h => h.1) ?_) | (refine Calm.loadM 39 Try.underlying39 rfl z2 (by rfl) _ rfl rfl (fun _ h => h.2.1) ?_)
                    simp only [Act.put, List.setIfInBounds_toArray, List.set_cons_zero, List.set_cons_succ]
                  all_goals
                    refine Calm.pure (v := ?_) (by rfl) ?_ ?_
                    rotate_left
                    focus (intro w hSw; go_simp <;> rfl)
                    simp only [Act.put, List.setIfInBounds_toArray, List.set_cons_zero, List.set_cons_succ]
                  all_goals
                    rintro w12 ⟨_, _, hb12⟩
                  go_wp2_with fail
                  go_roundw
                  case rel => exact ⟨i + 1, a, rfl, by simp, by omega, by omega, HG3, hb12⟩
                  case measure => simp [intOf]; omega
              case' neg =>
                obtain rfl : a = lo.length := by omega
                have ha2 : ¬ (lo.length : Int) < (lo.length : Int) := by omega
                clear HG
                replace HRP := HRP.later hb9
                replace HRQ := HRQ.later hb9
                have RP := HRP
                have RQ := HRQ
                have FP := HFP.later hb9
                have FQ := HFQ.later hb9
                have hbel := below_on HBEL hb9
                clear hb9 HRP HRQ
                have hw2 : IntKind.i64.wrap ((lo.length : Int) + 2) = (lo.length : Int) + 2 := by rw [IntKind.wrap_i64]; omega
                have hl2 : ((la.length : Int) == (lo.length : Int) + 2) = true := by rw [HLEN.out]; simp
                have C1 := same_any xa _ _ _ _ _ _ _ _ wr FP FQ sa
                go_wp2_with (first | refine load_r 27 _ rfl rfl _ rfl RP Try.underlying27 rfl size27 ?_ | refine load_r 27 _ rfl rfl _ rfl RQ Try.underlying27 rfl size27 ?_)
                refine C1.mono ?_
                clear C1
                rintro e w13 ⟨rfl, hb1⟩
                replace RP := RP.later hb1
                have C2 := check_any xa _ _ _ _ w13 (FP.later hb1) sa
                rw [HKA.out] at C2
                replace hbel := below_on hbel hb1
                clear hb1
                go_wp2_with (first | refine load_r 27 _ rfl rfl _ rfl RP Try.underlying27 rfl size27 ?_)
                refine C2.mono ?_
                clear C2
                rintro e w14 ⟨rfl, hb1⟩
                replace hbel := below_on hbel hb1
                clear hb1
                go_wp2_with fail
                refine (heads_any _).mono ?_
                rintro e w15 ⟨rfl, hb1⟩
                go_wp2_with fail
                go_ret
                exact ⟨rfl, below_on hbel hb1⟩
            case' neg =>
              obtain rfl : i = la.length := by omega
              have hi2 : ¬ (la.length : Int) < (la.length : Int) := by omega
              obtain rfl : lo.length = a := by
                rw [← HG.out, List.take_length]
                exact (grd_all la 0 (Nat.zero_le _) (by rw [List.drop_zero]; exact HSUB.out)).symm
              clear HG
              replace HRP := HRP.later hb9
              replace HRQ := HRQ.later hb9
              have RP := HRP
              have RQ := HRQ
              have FP := HFP.later hb9
              have FQ := HFQ.later hb9
              have hbel := below_on HBEL hb9
              clear hb9 HRP HRQ
              have hw2 : IntKind.i64.wrap ((lo.length : Int) + 2) = (lo.length : Int) + 2 := by rw [IntKind.wrap_i64]; omega
              have hl2 : ((la.length : Int) == (lo.length : Int) + 2) = true := by rw [HLEN.out]; simp
              have C1 := same_any xa _ _ _ _ _ _ _ _ wr FP FQ sa
              go_wp2_with (first | refine load_r 27 _ rfl rfl _ rfl RP Try.underlying27 rfl size27 ?_ | refine load_r 27 _ rfl rfl _ rfl RQ Try.underlying27 rfl size27 ?_)
              refine C1.mono ?_
              clear C1
              rintro e w13 ⟨rfl, hb1⟩
              replace RP := RP.later hb1
              have C2 := check_any xa _ _ _ _ w13 (FP.later hb1) sa
              rw [HKA.out] at C2
              replace hbel := below_on hbel hb1
              clear hb1
              go_wp2_with (first | refine load_r 27 _ rfl rfl _ rfl RP Try.underlying27 rfl size27 ?_)
              refine C2.mono ?_
              clear C2
              rintro e w14 ⟨rfl, hb1⟩
              replace hbel := below_on hbel hb1
              clear hb1
              go_wp2_with fail
              refine (heads_any _).mono ?_
              rintro e w15 ⟨rfl, hb1⟩
              go_wp2_with fail
              go_ret
              exact ⟨rfl, below_on hbel hb1⟩
end Go.Proofs.Ytfjpbmdmkcihcaa
/- An argument that is a mark. -/
namespace Go.Proofs.Ytfjpbmdmkcihcaa
open Go.ChangeShapes Go.WideShapes Go.ChangeAt Go.RowKit

set_option maxRecDepth 100000 in
theorem open_mark {H : Type} {enc : TypeId × Value → H} {w : World} {base : Nat} {spare : Nat → Bool} {held : Bool} {r : Reach} {b0 : Nat} {v : Value} {d : DataW H} {ps : List MemPlace} (hval : Value.okWide Try.prog w r b0 39 v) (hd : DataW.Trod enc Try.prog w base spare held 39 v d ps) : ∃ p s i, v = MV p s i := by
  obtain ⟨fuel, hf⟩ := hd
  simp only [Value.okWide, Try.underlying39] at hval
  obtain ⟨cs, rfl, _⟩ := hval
  obtain ⟨p, s, i, e⟩ := cells_mark hf
  exact ⟨p, s, i, by rw [show cs = #[.int .i64 p, .int .i64 s, .int .i64 i] from Array.toList_inj.1 e]⟩
end Go.Proofs.Ytfjpbmdmkcihcaa
namespace Go.Proofs.Ytfjpbmdmkcihcaa
open Go.ChangeShapes Go.WideShapes Go.ChangeAt Go.RowKit

theorem seqOrder_own : ownKnob Try.prog.godebug = none := by kernel_rfl
theorem seqOrder_laidOut : laidOutB Try.prog = true := by kernel_rfl

set_option maxRecDepth 100000 in
theorem seqOrder_lifted (os : Os) (started : os.Started) (H : Type) (enc : TypeId × Value → H) :
    ReturnsInHanded {} Try.checked os 4 .any (Rows.seqOrderSpec.pre6 enc Try.prog Try.f4 Rows.seqOrderRow.domain false) (Rows.seqOrderSpec.post enc Try.prog Try.f4 false true false false) := by
  refine returnsInHanded_of_change_sized (C := Try.checked) seqOrder_own started (by kernel_rfl) Try.func4
    (ChangeSpec.witness6 (enc := enc) (C := Try.checked) false ⟨#[], #[.agg #[.int .i64 0, .int .i64 0, .slice none 0 0, .slice none 0 0, .slice none 0 0, .slice none 0 0], .agg #[.int .i64 0, .int .i64 0, .int .i64 0, .int .i64 0, .int .i64 0, .int .i64 0, .int .i64 0, .int .i64 0, .int .i64 0, .int .i64 0, .int .i64 0, .int .i64 0, .int .i64 0, .int .i64 0, .int .i64 0, .int .i64 0, .slice none 0 0], .agg #[.int .i64 0, .int .i64 0, .int .i64 0, .int .i64 0, .int .i64 0, .int .i64 0, .int .i64 0, .int .i64 0, .int .i64 0, .int .i64 0, .int .i64 0, .int .i64 0, .int .i64 0, .int .i64 0, .int .i64 0, .int .i64 0, .slice none 0 0], .agg #[.int .i64 0, .int .i64 0, .int .i64 0], .agg #[.int .i64 0, .int .i64 0, .int .i64 0]], []⟩ 8 (by kernel_rfl) (by kernel_rfl) (by kernel_rfl) (by kernel_rfl)) ?_
  intro W base args ds gs before hval0 hW hcnd hsz0 _
  have hsz : (DataW.weightsEach Try.prog (Try.f4.params.toList ++ Rows.seqOrderSpec.plain.varTypes Try.prog) (ds ++ gs)).all (· ≤ reachBytes) = true := hsz0
  clear hsz0
  have hval : ∀ (j : Nat) t v, Try.f4.params[j]? = some t → args[j]? = some v → Value.okWide Try.prog W .any base t v := hval0
  have hW' := hW
  obtain ⟨p, q, hA0, hV, rfl, hfz, hnd⟩ := hW
  have hA : DataW.TrodAll enc Try.prog W 0 (fun _ => true) true Try.f4.params.toList args.toList ds p := hA0
  rw [Try.params4] at hA hval hsz
  obtain ⟨v0, vs0, d0, ds0, p0, q0, hargs, rfl, rfl, h0, r0⟩ := trodAll_cons hA
  obtain ⟨v1, vs1, d1, ds1, p1, q1, rfl, rfl, rfl, h1, r1⟩ := trodAll_cons r0
  obtain ⟨v2, vs2, d2, ds2, p2, q2, rfl, rfl, rfl, h2, r2⟩ := trodAll_cons r1
  obtain ⟨v3, vs3, d3, ds3, p3, q3, rfl, rfl, rfl, h3, r3⟩ := trodAll_cons r2
  obtain ⟨v4, vs4, d4, ds4, p4, q4, rfl, rfl, rfl, h4, r4⟩ := trodAll_cons r3
  obtain ⟨rfl, rfl, rfl⟩ := trodAll_nil r4
  obtain rfl : args = #[v0, v1, v2, v3, v4] := by cases args; simp_all
  obtain ⟨rfl, rfl⟩ := trodVars_none hV
  obtain ⟨x0_, va0, vw0, vm0, ve0, rfl, hf0, hk0⟩ := open_cell (hval 0 27 v0 rfl rfl) h0
  have lk0 : Lk x0_ := hk0 (by simp only [List.cons_append, DataW.weightsEach, List.all_append, Bool.and_eq_true] at hsz; exact hsz.1)
  clear hk0
  obtain ⟨p1_, s1_, u1_, t1_, sl1_, l1_, rfl, hu1_, ho1_⟩ := open_tx (hval 1 34 v1 rfl rfl) h1
  obtain ⟨p2_, s2_, u2_, t2_, sl2_, l2_, rfl, hu2_, ho2_⟩ := open_tx (hval 2 34 v2 rfl rfl) h2
  obtain ⟨p3_, s3_, j3_, rfl⟩ := open_mark (hval 3 39 v3 rfl rfl) h3
  obtain ⟨p4_, s4_, j4_, rfl⟩ := open_mark (hval 4 39 v4 rfl rfl) h4
  clear hA0 hval0 hval hA hsz
  have k0 := h0
  have lt0 : ∀ x ∈ p0, x.block < W.heap.size := by obtain ⟨m, hm⟩ := k0; exact DataW.trod_lt m _ _ _ hm
  have k1 := h1
  have lt1 : ∀ x ∈ p1, x.block < W.heap.size := by obtain ⟨m, hm⟩ := k1; exact DataW.trod_lt m _ _ _ hm
  have k2 := h2
  have lt2 : ∀ x ∈ p2, x.block < W.heap.size := by obtain ⟨m, hm⟩ := k2; exact DataW.trod_lt m _ _ _ hm
  have k3 := h3
  have lt3 : ∀ x ∈ p3, x.block < W.heap.size := by obtain ⟨m, hm⟩ := k3; exact DataW.trod_lt m _ _ _ hm
  have k4 := h4
  have lt4 : ∀ x ∈ p4, x.block < W.heap.size := by obtain ⟨m, hm⟩ := k4; exact DataW.trod_lt m _ _ _ hm
  refine (order_law x0_ va0 vw0 vm0 ve0 p1_ s1_ u1_ t1_ sl1_ p2_ s2_ u2_ t2_ sl2_ ⟨p3_, s3_, j3_⟩ ⟨p4_, s4_, j4_⟩ W hu1_ hu2_ hf0 lk0).mono fun e W' ⟨he, bel⟩ => ?_
  subst he
  exact ⟨_, rfl, _, _, _, [], _, [], hW', trodAll_mk1 (shut_bool Try.underlying4 _), (trodAll_cons_mk (Below.trod seqOrder_laidOut (by kernel_rfl) (of_decide_eq_true (by kernel_rfl)) k0 bel lt0) (trodAll_cons_mk (Below.trod seqOrder_laidOut (by kernel_rfl) (of_decide_eq_true (by kernel_rfl)) k1 bel lt1) (trodAll_cons_mk (Below.trod seqOrder_laidOut (by kernel_rfl) (of_decide_eq_true (by kernel_rfl)) k2 bel lt2) (trodAll_cons_mk (Below.trod seqOrder_laidOut (by kernel_rfl) (of_decide_eq_true (by kernel_rfl)) k3 bel lt3) (trodAll_cons_mk (Below.trod seqOrder_laidOut (by kernel_rfl) (of_decide_eq_true (by kernel_rfl)) k4 bel lt4) trodAll_mk0))))), rfl, bel.frame _, fun h => by cases h⟩

theorem seqOrder_holds : Rows.SeqOrderSaid :=
  OpenClaim.holds_of_wide 4 Try.f4 rfl rfl rfl rfl rfl rfl rfl ⟨rfl, rfl, rfl, rfl, rfl⟩ rfl rfl rfl rfl rfl (by kernel_rfl) Try.func4 (by kernel_rfl)
    (of_decide_eq_true (by kernel_rfl)) (by unfold Func.isWrapper; first | (rw [if_pos (by decide +kernel)]; kernel_rfl) | (rw [if_neg (by decide +kernel)]; exact ⟨rfl, rfl⟩))
    (fun os started H enc _ => seqOrder_lifted os started H enc)

#print axioms seqOrder_holds
end Go.Proofs.Ytfjpbmdmkcihcaa
