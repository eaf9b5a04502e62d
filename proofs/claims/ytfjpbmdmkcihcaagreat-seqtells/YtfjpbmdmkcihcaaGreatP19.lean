import Derived.Test.YtfjpbmdmkcihcaaGreatP18
import Derived.Test.YtfjpbmdmkcihcaaGreatP15
import Derived.Laws.AppendOwnNone
import Derived.Test.YtfjpbmdmkcihcaaGreatP10
import Derived.Test.YtfjpbmdmkcihcaaGreatP13
import Derived.Test.YtfjpbmdmkcihcaaGreatP6
/- The places of all that stand behind a mark, as the document gathers them. Lists alone. -/
namespace Go.Proofs.YtfjpbmdmkcihcaaGreat
open Go.RowKit

/-- The element of a place from 0 on: its mark, its Ref, which one comes first. -/
def mI (l : List El) (i : Nat) : K := kE (gL l (i + 1))
def rI (l : List El) (i : Nat) : K := rE (gL l (i + 1))
def aI (l : List El) (i j : Nat) : Bool := lE (gL l (i + 1)) (gL l (j + 1))
/-- Those of the first places that stand right behind. -/
def kI (l : List El) (m : K) (k : Nat) : List Nat := srt (aI l) ((List.range k).filter (fun i => decide (rI l i = m)))
/-- All that stand behind. -/
def bI (l : List El) (f : Nat) (m : K) : List Nat := ord (mI l) (rI l) (aI l) (List.range l.length) f m
theorem kI_zero (l : List El) (m : K) : kI l m 0 = [] := rfl
theorem kI_put {l : List El} {m : K} {k : Nat} (h : rI l k = m) : kI l m (k + 1) = insS (aI l) k (kI l m k) := by
  unfold kI srt; rw [List.range_succ, List.filter_append, List.filter_cons, if_pos (by simpa using h), List.foldl_append]
  rfl
theorem kI_skip {l : List El} {m : K} {k : Nat} (h : rI l k ≠ m) : kI l m (k + 1) = kI l m k := by
  unfold kI srt; rw [List.range_succ, List.filter_append, List.filter_cons, if_neg (by simpa using h), List.filter_nil, List.append_nil]
theorem kI_mem {l : List El} {m : K} {k c : Nat} (h : c ∈ kI l m k) : c < k ∧ rI l c = m := by
  unfold kI at h; rw [(srt_perm _ _).mem_iff, List.mem_filter, List.mem_range] at h; exact ⟨h.1, by simpa using h.2⟩
theorem kI_len (l : List El) (m : K) (k : Nat) : (kI l m k).length ≤ k := by
  unfold kI; rw [(srt_perm _ _).length_eq]; exact Nat.le_trans (List.length_filter_le _ _) (by simp)
theorem bI_succ (l : List El) (f : Nat) (m : K) : bI l (f + 1) m = (kI l m l.length).flatMap (fun c => c :: bI l f (mI l c)) := rfl
theorem range_gL (l : List El) : (List.range l.length).map (fun i => gL l (i + 1)) = l := by
  have := plc_gL l
  unfold plc at this; rw [List.map_map] at this; exact this
theorem bI_map (l : List El) (f : Nat) (m : K) : (bI l f m).map (fun i => gL l (i + 1)) = ord kE rE lE l f m := by
  have := ord_map (mk := mI l) (rf := rI l) (ah := aI l) (mk' := kE) (rf' := rE) (bh := lE) (fun i => gL l (i + 1)) (fun _ => rfl) (fun _ => rfl) (fun _ _ => rfl) (List.range l.length) f m
  rw [range_gL] at this; exact this.symm
theorem bI_lt {l : List El} {f : Nat} {m : K} {i : Nat} (h : i ∈ bI l f m) : i < l.length := List.mem_range.1 (ord_sub h)
theorem mI_mem {l : List El} {i : Nat} (h : i < l.length) : gL l (i + 1) ∈ l := by
  rw [gL_succ h]; exact List.getElem_mem _
theorem bI_rk {l : List El} {R : K → Nat} (h : Rk kE rE R l) : Rk (mI l) (rI l) R (List.range l.length) := fun _ hi => h _ (mI_mem (List.mem_range.1 hi))
theorem bI_len {l : List El} (h : Tre l) (f : Nat) (m : K) : (bI l f m).length ≤ l.length := by
  obtain ⟨R, hR⟩ := h.rk; refine nodup_len l.length _ (ord_nodup List.nodup_range (bI_rk hR) (fun a ha b hb e => ?_) f m) (fun x hx => bI_lt hx); have ha := List.mem_range.1 ha; have hb := List.mem_range.1 hb; unfold mI at e; rw [gL_succ ha, gL_succ hb] at e; exact up_inj h.up ha hb e
theorem bI_fuel {l : List El} (h : Tre l) {f : Nat} (hf : l.length ≤ f) : (bI l f zK).map (fun i => gL l (i + 1)) = oE l := by
  rw [bI_map, oE_fuel h hf]
/-- One is put where it belongs, step by step. -/
def NI (ah : Nat → Nat → Bool) (i : Nat) (ks : List Nat) (k : Nat) (d : Bool) (nx : List Nat) : Prop := (d = true → nx ++ ks.drop k = insS ah i ks) ∧ (d = false → nx = ks.take k ∧ ks.take k ++ insS ah i (ks.drop k) = insS ah i ks)
section
variable {ah : Nat → Nat → Bool} {i : Nat} {ks : List Nat} {k : Nat} {d : Bool} {nx : List Nat}
theorem NI_zero : NI ah i ks 0 false [] := ⟨(fun h => by cases h), fun _ => ⟨rfl, rfl⟩⟩
theorem NI_put (hk : k < ks.length) (h : NI ah i ks k false nx) (ha : ah i ks[k] = true) : NI ah i ks (k + 1) true (nx ++ [i] ++ [ks[k]]) := by
  obtain ⟨h1, h2⟩ := h.2 rfl; refine ⟨fun _ => ?_, fun h => by cases h⟩; rw [← h2, h1, List.drop_eq_getElem_cons hk]
  simp [insS, ha]
theorem NI_skip (hk : k < ks.length) (h : NI ah i ks k false nx) (ha : ah i ks[k] = false) : NI ah i ks (k + 1) false (nx ++ [ks[k]]) := by
  obtain ⟨h1, h2⟩ := h.2 rfl; refine ⟨(fun h => by cases h), fun _ => ⟨by rw [h1, List.take_succ_eq_append_getElem hk], ?_⟩⟩
  have e : insS ah i (ks[k] :: ks.drop (k + 1)) = ks[k] :: insS ah i (ks.drop (k + 1)) := by simp [insS, ha]
  rw [← h2, List.take_succ_eq_append_getElem hk, List.drop_eq_getElem_cons hk, e, List.append_assoc]
  rfl
theorem NI_on (hk : k < ks.length) (h : NI ah i ks k true nx) : NI ah i ks (k + 1) true (nx ++ [ks[k]]) := by
  refine ⟨fun _ => ?_, fun h => by cases h⟩; rw [← h.1 rfl, List.drop_eq_getElem_cons hk]
  simp
theorem NI_len (h : NI ah i ks k d nx) (hk : k ≤ ks.length) : nx.length ≤ k + 1 := by
  cases d with
  | true =>
    have e := congrArg List.length (h.1 rfl); rw [List.length_append, List.length_drop, (insS_perm ah i ks).length_eq, List.length_cons] at e
    omega
  | false =>
    rw [(h.2 rfl).1, List.length_take]
    omega
theorem NI_end (h : NI ah i ks ks.length true nx) : nx = insS ah i ks := by
  have := h.1 rfl
  rwa [List.drop_length, List.append_nil] at this
theorem NI_last (h : NI ah i ks ks.length false nx) : nx ++ [i] = insS ah i ks := by
  obtain ⟨h1, h2⟩ := h.2 rfl; rw [← h2, h1, List.drop_length]
  rfl
end
/-- What is gathered of the first ones is no longer than all. -/
theorem flat_take {g : Nat → List Nat} (ks : List Nat) (k : Nat) : ((ks.take k).flatMap g).length ≤ (ks.flatMap g).length := by
  conv => rhs; rw [← List.take_append_drop k ks, List.flatMap_append, List.length_append]
  omega
theorem iv_append (a b : List Nat) : iv (a ++ b) = iv a ++ iv b := List.map_append
end Go.Proofs.YtfjpbmdmkcihcaaGreat
/- behind of the document's answer: the places of all that stand behind a mark. -/
namespace Go.Proofs.YtfjpbmdmkcihcaaGreat
open Go.RowKit

theorem rm_eq (y : El) (m : M) : decide (rE y = kM m) = (decide (y.q = m.p) && decide (y.u = m.s) && decide (y.j = m.i)) := by
  unfold rE kM
  by_cases h1 : y.q = m.p <;> by_cases h2 : y.u = m.s <;> by_cases h3 : y.j = m.i <;> simp [h1, h2, h3]
/-- Such places, in a row of their own. -/
def BhPost (r : List Nat) (w : World) (e : Ending) (w' : World) : Prop := ∃ u, e = .returned u ∧ w'.ownsRow w.heap.size 3 1 u r.length (iv r) ∧ Below w.heap.size w w'
theorem grown_refl (w : World) (row : Option Nat) : w.grownBy w row := ⟨rfl, rfl, rfl, Nat.le_refl _, fun _ _ _ => rfl⟩
/-- What lies in a row of its own is appended. -/
theorem wpList_append_rows {w : World} {ops : Array Oper} {rest : List Oper} {o : Oper} {a : Act} {Q : Exit → Act → World → Prop} (hgd : o.guard = none) (s x : Operand) (t : TypeId)
    (ho : o.op = .call { callee := .builtin .append, args := #[s, x], argTypes := #[t, t] })
    (base : Nat) (e : TypeId) (i : TypeInfo) (z : Value) (size bytes : Nat) (ht : Tryz.prog.underlying t = some (.slice e)) (hi : Tryz.prog.info? e = some i) (hz : i.zero = some z)
    (hsize : i.size = size) (hby : i.bytes = bytes) (hzs : z.cells.size = size) (hsz : 0 < size)
    (v : Value) (n : Nat) (xs : List Value) (hs : a.eval s = v) (hown : w.ownsRow base e size v n xs)
    (B : Nat) (u : Value) (m : Nat) (news : List Value) (hx : a.eval x = u) (hu : w.ownsRow B e size u m news) (h1 : ∀ u ∈ news, u.oneCell' = true)
    (h63 : n + m ≤ maxLen) (hbytes : (n + m) * bytes ≤ 140737488355328) (hbase : base ≤ w.heap.size)
    (h : ∀ v' w', w'.ownsRow base e size v' (n + m) (xs ++ news) → w.grownBy w' v.ownBlock → wpList Tryz.prog ops Q rest (a.put o.dst v') w') : wpList Tryz.prog ops Q (o :: rest) a w := by
  have hu' := hu; obtain ⟨hlen, ⟨rfl, rfl⟩ | ⟨g, cap, cur, rfl, _, _, _⟩⟩ := hu
  · have hn : news = [] := List.length_eq_zero_iff.1 (by rw [hlen, Nat.zero_mul])
    subst hn; refine wpList_append_own_none hgd s x t ho base e i size ht hi v n xs hs hown hx (h v w ?_ (grown_refl _ _)); rw [Nat.add_zero, List.append_nil]; exact hown
  · exact wpList_append_own w hgd s x t ho base e i z size bytes ht hi hz hsize hby hzs hsz v n xs hs hown ⟨g, 0, none⟩ m cap news hx hlen (hu'.cells rfl) h1 h63 hbytes hbase (fun v' w' h2 h3 _ => h v' w' h2 h3)
theorem iv_one (l : List Nat) : ∀ u ∈ iv l, u.oneCell' = true := fun u hu => by
  obtain ⟨a, _, rfl⟩ := List.mem_map.1 hu
  rfl
set_option maxHeartbeats 4000000 in
set_option maxRecDepth 100000 in
theorem behind_step (v : Value) (l : List El) (m : M) (f : Nat) (w : World) (h : EHas w v l) (hl : l.length ≤ 100) (hlen : (bI l (f + 1) (kM m)).length ≤ 100)
    (CR : ∀ c, c ∈ kI l (kM m) l.length → ∀ w', Below w.heap.size w w' → Calls Tryz.prog 71 #[v, MV (gL l (c + 1)).p (gL l (c + 1)).s (gL l (c + 1)).i] w' (BhPost (bI l f (mI l c)) w')) :
    Calls Tryz.prog 71 #[v, MV m.p m.s m.i] w (BhPost (bI l (f + 1) (kM m)) w) := by
  obtain ⟨i0, hi, hz0, hz1, hz2⟩ := info_parts info3; have HCR := CR; clear CR; rw [bI_succ] at hlen ⊢; obtain ⟨ys, hys, h, hy⟩ := h; have hml := maxLen_lt h.1; obtain ⟨p, c0, rfl⟩ := h.slice
  have hyl : ys.length = l.length := by rw [← hys, List.length_map]
  have HR : Hid (SHas 9 w (.slice p l.length c0) l.length (rows El.cells ys)) := h
  have HL : Hid (∀ k (h1 : k < ys.length) (h2 : k < l.length), ys[k].1 = l[k]) := fun k h1 h2 => by
    subst hys; rw [List.getElem_map]
  clear h hy hys; have HCR2 : Hid (∀ c, c ∈ kI l (kM m) l.length → ∀ w', Below w.heap.size w w' → Calls Tryz.prog 71 #[.slice p l.length c0, MV (gL l (c + 1)).p (gL l (c + 1)).s (gL l (c + 1)).i] w' (BhPost (bI l f (mI l c)) w')) := HCR; clear HCR; have HLEN : Hid (((kI l (kM m) l.length).flatMap (fun c => c :: bI l f (mI l c))).length ≤ 100) := hlen; clear hlen; have R0 := rw_new w 36 #[.int .i64 m.p, .int .i64 m.s, .int .i64 m.i]; have db0 : (w.alloc (.cells #[.int .i64 m.p, .int .i64 m.s, .int .i64 m.i] 36)).rangeAt w.heap.size 0 [Value.int .i64 m.p, .int .i64 m.s, .int .i64 m.i] := Rw.whole R0; have hb0 := bel_alloc (Below.refl w.heap.size w) (.cells #[.int .i64 m.p, .int .i64 m.s, .int .i64 m.i] 36); have zm : (Tryz.prog.info? 36).map (·.size) = some [Value.int .i64 m.p, .int .i64 m.s, .int .i64 m.i].length := size36
  go_enter Tryz.func71, Tryz.ntmps71
  go_wp2_with fail
  go_loopw [5, 6] (fun vk vi wr => ∃ k : Nat, vi = .int .i64 k ∧ k ≤ l.length ∧ wr.ownsRow w.heap.size 3 1 vk (kI l (kM m) k).length (iv (kI l (kM m) k)) ∧ wr.rangeAt w.heap.size 0 [Value.int .i64 m.p, .int .i64 m.s, .int .i64 m.i] ∧ Below w.heap.size w wr) (fun _ vi _ => l.length - (intOf vi).toNat)
  case atStart => exact ⟨0, rfl, by omega, World.ownsRow_nil _ _ _ _, db0, hb0⟩
  case round =>
    clear R0 db0 hb0; obtain ⟨k, rfl, hk, hown, db, hbel⟩ := hrel; obtain ⟨ks, HKS⟩ := hid_ex (kI l (kM m) k)
    have hksl : ks.length ≤ k := by rw [← HKS.out]; exact kI_len _ _ _
    rw [HKS.out] at hown; obtain ⟨P, cc, rfl⟩ := own_sl hown
    by_cases hlt : k < l.length
    case' pos =>
      have hlt' : (k : Int) < (l.length : Int) := by omega
      have hk0 : (0 : Int) ≤ (k : Int) := by omega
      obtain ⟨g, o, rfl, hd0⟩ := HR.out.at (by omega); have d0 : wr.rangeAt g (o + k * 9) (El.cells (ys[k]'(by omega))) := range_sub (range_later hd0 hbel) (k * 9) fun j u hu => rows_at El.len ys k (by omega) j u hu; obtain ⟨yy, HX⟩ := hid_ex (ys[k]'(by omega))
      have HX2 : Hid (gL l (k + 1) = yy.1) := by
        show _ = _
        rw [gL_succ hlt, ← HL.out k (by omega) hlt, HX.out]
      rw [HX.out] at d0; obtain ⟨y, yv⟩ := yy; replace HX2 : Hid (gL l (k + 1) = y) := HX2
      have dr : wr.rangeAt g (o + k * 9 + 4) [Value.int .i64 y.q, .int .i64 y.u, .int .i64 y.j] := range_sub (o := o + k * 9) (xs := El.cells (y, yv)) d0 4 (fun j a ha => by
        match j, ha with
        | 0, h => exact h
        | 1, h => exact h
        | 2, h => exact h
        | j + 3, h => simp at h)
      have zu : (Tryz.prog.info? 36).map (·.size) = some [Value.int .i64 y.q, .int .i64 y.u, .int .i64 y.j].length := size36; clear HX
      have E := fun w => eq_mark w y.q y.u y.j m.p m.s m.i
      obtain ⟨t, HT⟩ := hid_ex (decide (rE y = kM m)); rw [show (decide (y.q = m.p) && decide (y.u = m.s) && decide (y.j = m.i)) = t from (rm_eq _ _).symm.trans HT.out] at E
      cases t
      case' false =>
        have HN : Hid (kI l (kM m) (k + 1) = ks) := by
          show _ = _
          rw [kI_skip, HKS.out]; unfold rI; rw [HX2.out]; exact of_decide_eq_false HT.out
        clear HX2 HT HKS hd0 d0; go_wp2_with fail
        have hs : Calm.Stays (fun w' => w'.rangeAt g (o + k * 9 + 4) [Value.int .i64 y.q, .int .i64 y.u, .int .i64 y.j] ∧ w'.rangeAt w.heap.size 0 [Value.int .i64 m.p, .int .i64 m.s, .int .i64 m.i] ∧ w'.ownsRow w.heap.size 3 1 (.slice P ks.length cc) ks.length (iv ks) ∧ Below w.heap.size w w') := fun wa wb h hb => ⟨range_later h.1 hb, range_later h.2.1 hb, own_later h.2.2.1 hb, below_on h.2.2.2 hb⟩
        refine Calm.region (by kernel_rfl) (by kernel_rfl) (fun w' => w'.rangeAt g (o + k * 9 + 4) [Value.int .i64 y.q, .int .i64 y.u, .int .i64 y.j] ∧ w'.rangeAt w.heap.size 0 [Value.int .i64 m.p, .int .i64 m.s, .int .i64 m.i] ∧ w'.ownsRow w.heap.size 3 1 (.slice P ks.length cc) ks.length (iv ks) ∧ Below w.heap.size w w') ⟨dr, db, hown, hbel.drew⟩ ?_
        iterate 4
          all_goals
            refine Calm.pure (v := ?_) (by rfl) ?_ ?_; rotate_left; focus (intro w hSw; go_simp <;> rfl)
            simp only [put4]
        iterate 2
          all_goals
            first | (refine Calm.loadM 36 Tryz.underlying36 rfl zu (by rfl) _ rfl rfl (fun _ h => h.1) ?_) | (refine Calm.loadM 36 Tryz.underlying36 rfl zm (by rfl) _ rfl rfl (fun _ h => h.2.1) ?_)
            simp only [put4]
        all_goals
          refine Calm.pure (v := ?_) (by rfl) ?_ ?_; rotate_left; focus (intro w hSw; go_simp <;> rfl)
          simp only [put4]
        all_goals
          rintro w9 ⟨_, db9, hown9, hbel9⟩
        go_wp2_with fail; go_roundw
        case rel => exact ⟨k + 1, by simp, by omega, by rw [HN.out]; exact hown9, db9, hbel9⟩
        case measure => simp [intOf]; omega
      case' true =>
        have HN : Hid (kI l (kM m) (k + 1) = insS (aI l) k ks) := by
          show _ = _
          rw [kI_put, HKS.out]; unfold rI; rw [HX2.out]; exact of_decide_eq_true HT.out
        clear HT; go_wp2_with fail
        have hs : Calm.Stays (fun w' => w'.rangeAt g (o + k * 9 + 4) [Value.int .i64 y.q, .int .i64 y.u, .int .i64 y.j] ∧ w'.rangeAt w.heap.size 0 [Value.int .i64 m.p, .int .i64 m.s, .int .i64 m.i] ∧ w'.ownsRow w.heap.size 3 1 (.slice P ks.length cc) ks.length (iv ks) ∧ Below w.heap.size w w') := fun wa wb h hb => ⟨range_later h.1 hb, range_later h.2.1 hb, own_later h.2.2.1 hb, below_on h.2.2.2 hb⟩
        refine Calm.region (by kernel_rfl) (by kernel_rfl) (fun w' => w'.rangeAt g (o + k * 9 + 4) [Value.int .i64 y.q, .int .i64 y.u, .int .i64 y.j] ∧ w'.rangeAt w.heap.size 0 [Value.int .i64 m.p, .int .i64 m.s, .int .i64 m.i] ∧ w'.ownsRow w.heap.size 3 1 (.slice P ks.length cc) ks.length (iv ks) ∧ Below w.heap.size w w') ⟨dr, db, hown, hbel.drew⟩ ?_
        iterate 4
          all_goals
            refine Calm.pure (v := ?_) (by rfl) ?_ ?_; rotate_left; focus (intro w hSw; go_simp <;> rfl)
            simp only [put4]
        iterate 2
          all_goals
            first | (refine Calm.loadM 36 Tryz.underlying36 rfl zu (by rfl) _ rfl rfl (fun _ h => h.1) ?_) | (refine Calm.loadM 36 Tryz.underlying36 rfl zm (by rfl) _ rfl rfl (fun _ h => h.2.1) ?_)
            simp only [put4]
        all_goals
          refine Calm.pure (v := ?_) (by rfl) ?_ ?_; rotate_left; focus (intro w hSw; go_simp <;> rfl)
          simp only [put4]
        all_goals
          rintro w9 ⟨_, db9, hown9, hbel9⟩
        clear dr d0 db hown hbel; have hd2 := range_later hd0 hbel9; clear hd0; go_wp2_with fail; have HB2 : Hid (Below w.heap.size w w9) := hbel9; have HD2 : Hid (w9.rangeAt w.heap.size 0 [Value.int .i64 m.p, .int .i64 m.s, .int .i64 m.i]) := db9; clear hbel9 db9 E zu hs; have HO2 : Hid (w9.ownsRow w.heap.size 3 1 (.slice P ks.length cc) ks.length (iv ks)) := hown9; clear hown9; obtain ⟨w2, HW2⟩ := hid_ex w9; rw [HW2.out] at HB2 HD2 HO2 hd2 ⊢; clear HW2
        go_loopw [7, 8, 9] (fun vn vd vi wr => ∃ (j : Nat) (fl : Bool) (nx : List Nat), vi = .int .i64 j ∧ j ≤ ks.length ∧ vd = .bool fl ∧ wr.ownsRow w2.heap.size 3 1 vn nx.length (iv nx) ∧ NI (aI l) k ks j fl nx ∧ Below w2.heap.size w2 wr) (fun _ _ vi _ => ks.length - (intOf vi).toNat)
        case atStart => exact ⟨0, false, [], rfl, by omega, rfl, World.ownsRow_nil _ _ _ _, NI_zero, Below.refl _ _⟩
        case round =>
          obtain ⟨j, fl, nx, rfl, hj, rfl, hown, HNI, hbel⟩ := hrel; obtain ⟨Q, qc, rfl⟩ := own_sl hown; have hnx : nx.length ≤ j + 1 := NI_len HNI hj
          by_cases hjt : j < ks.length
          case' pos =>
            have hjt' : (j : Int) < (ks.length : Int) := by omega
            have hj0 : (0 : Int) ≤ (j : Int) := by omega
            obtain ⟨c, HC⟩ := hid_ex ks[j]
            have hcm : c ∈ kI l (kM m) k := by rw [HKS.out, ← HC.out]; exact List.getElem_mem _
            have hck : c < k := (kI_mem hcm).1
            have hc0 : (0 : Int) ≤ (c : Int) := by omega
            have hc1 : (c : Int) < (l.length : Int) := by omega
            obtain ⟨gk, ok, e1, hrk⟩ := (own_sh HO2.out).at (by omega); obtain ⟨gk', e2, _⟩ := own_some HO2.out (by omega); rw [e2] at e1; simp only [Option.some.injEq, Addr.mk.injEq, and_true] at e1; obtain ⟨rfl, rfl⟩ := e1; subst e2
            have hck2 : w2.cell? ⟨gk', j, none⟩ = some (.int .i64 (c : Int)) := by
              have := hrk j _ (iv_at hjt)
              rw [Nat.zero_add, HC.out] at this; exact this
            clear hrk; obtain ⟨gk, HGK⟩ := hid_ex gk'; rw [HGK.out] at hck2 ⊢; have ck : wr.cell? ⟨gk, j, none⟩ = some (.int .i64 (c : Int)) := cell_later hbel hck2; have dk : wr.rangeAt g (o + k * 9) (El.cells (ys[k]'(by omega))) := range_sub (range_later hd2 hbel) (k * 9) fun j u hu => rows_at El.len ys k (by omega) j u hu; have dc : wr.rangeAt g (o + c * 9) (El.cells (ys[c]'(by omega))) := range_sub (range_later hd2 hbel) (c * 9) fun j u hu => rows_at El.len ys c (by omega) j u hu
            have ea : lE (ys[k]'(by omega)).1 (ys[c]'(by omega)).1 = aI l k c := by
              unfold aI; rw [gL_succ hlt, gL_succ (by omega), HL.out k (by omega) hlt, HL.out c (by omega) (by omega)]
            obtain ⟨yy, HY1⟩ := hid_ex (ys[k]'(by omega)); obtain ⟨yc, HY2⟩ := hid_ex (ys[c]'(by omega)); rw [HY1.out] at dk ea; rw [HY2.out] at dc ea; clear HY1 HY2
            have CA := fun w => ahead_any yy yc w
            rw [ea] at CA; obtain ⟨z, HZ⟩ := hid_ex (aI l k c); rw [HZ.out] at CA; clear ea hcm; have zk : (Tryz.prog.info? 60).map (·.size) = some (El.cells yy).length := size60; have zc : (Tryz.prog.info? 60).map (·.size) = some (El.cells yc).length := size60
            cases fl
            case' false =>
              cases z
              case' false =>
                have HI : NI (aI l) k ks (j + 1) false (nx ++ [c]) := by
                  have := NI_skip hjt HNI (by rw [HC.out]; exact HZ.out)
                  rw [HC.out] at this; exact this
                clear HNI HZ HC HGK; go_wp2_with fail
                have hs : Calm.Stays (fun w' => w'.rangeAt g (o + k * 9) (El.cells yy) ∧ w'.rangeAt g (o + c * 9) (El.cells yc) ∧ w'.cell? ⟨gk, j, none⟩ = some (.int .i64 (c : Int)) ∧ w'.ownsRow w2.heap.size 3 1 (.slice Q nx.length qc) nx.length (iv nx) ∧ Below w2.heap.size w2 w') := fun wa wb h hb => ⟨range_later h.1 hb, range_later h.2.1 hb, cell_later hb h.2.2.1, own_later h.2.2.2.1 hb, below_on h.2.2.2.2 hb⟩
                refine Calm.region (by kernel_rfl) (by kernel_rfl) (fun w' => w'.rangeAt g (o + k * 9) (El.cells yy) ∧ w'.rangeAt g (o + c * 9) (El.cells yc) ∧ w'.cell? ⟨gk, j, none⟩ = some (.int .i64 (c : Int)) ∧ w'.ownsRow w2.heap.size 3 1 (.slice Q nx.length qc) nx.length (iv nx) ∧ Below w2.heap.size w2 w') ⟨dk, dc, ck, hown, hbel.drew⟩ ?_
                iterate 3
                  all_goals
                    refine Calm.pure (v := ?_) (by rfl) ?_ ?_; rotate_left; focus (intro w hSw; go_simp <;> rfl)
                    simp only [put4]
                iterate 3
                  all_goals
                    first
                      | (refine Calm.skip ?_ ?_; focus rfl)
                      | (refine Calm.pure (v := ?_) (by rfl) ?_ ?_
                         rotate_left
                         focus (intro w hSw; go_simp <;> rfl))
                    simp only [put4]
                all_goals
                  first
                    | (refine Calm.skip ?_ ?_; focus rfl)
                    | (first | (refine Calm.loadM 60 Tryz.underlying60 rfl zk (by rfl) _ rfl rfl (fun _ h => h.1) ?_) | (refine Calm.loadM 60 Tryz.underlying60 rfl zc (by rfl) _ rfl rfl (fun _ h => h.2.1) ?_))
                  simp only [put4]
                iterate 6
                  all_goals
                    first
                      | (refine Calm.skip ?_ ?_; focus rfl)
                      | (refine Calm.pure (v := ?_) (by rfl) ?_ ?_
                         rotate_left
                         focus (intro w hSw; go_simp <;> rfl))
                    simp only [put4]
                all_goals
                  first
                    | (refine Calm.skip ?_ ?_; focus rfl)
                    | (first | (refine Calm.loadM 60 Tryz.underlying60 rfl zk (by rfl) _ rfl rfl (fun _ h => h.1) ?_) | (refine Calm.loadM 60 Tryz.underlying60 rfl zc (by rfl) _ rfl rfl (fun _ h => h.2.1) ?_))
                  simp only [put4]
                all_goals
                  first
                    | (refine Calm.skip ?_ ?_; focus rfl)
                    | (refine Calm.call2s (by rfl) rfl rfl rfl (by kernel_rfl) hs (fun w1 h => CA w1) ?_)
                  simp only [put4]
                all_goals
                  refine Calm.pure (v := ?_) (by rfl) ?_ ?_; rotate_left; focus (intro w hSw; go_simp <;> rfl)
                  simp only [put4]
                all_goals
                  rintro w9 ⟨_, _, ck9, hown9, hb9⟩
                clear CA dk dc ck hown hbel
                have h1a : ∀ q u, [Value.int .i64 (c : Int)][q]? = some u → (w9.alloc (.cells #[.int .i64 (c : Int)] 3)).cell? ((⟨w9.heap.size, 0, none⟩ : Addr).add q) = some u := fun q u hq => (cells_new w9 [Value.int .i64 (c : Int)] 3 q).trans hq
                have h2a : ∀ u ∈ [Value.int .i64 (c : Int)], u.oneCell' = true := fun u hu => by rw [List.mem_singleton.1 hu]; rfl
                have h3a : nx.length + 1 ≤ maxLen := by unfold maxLen; omega
                have h4a : (nx.length + 1) * 8 ≤ 140737488355328 := by omega
                have h5a : w2.heap.size ≤ (w9.alloc (.cells #[.int .i64 (c : Int)] 3)).heap.size := by simp; have := hb9.size; omega
                go_wp2_with (first | (at_builtin; refine wpList_append_own _ rfl _ _ 87 rfl w2.heap.size 3 i0 (.int .i64 0) 1 8 Tryz.underlying87 hi hz0 hz1 hz2 rfl (by decide) _ _ _ rfl (hown9.alloc _) ⟨w9.heap.size, 0, none⟩ 1 1 [.int .i64 (c : Int)] rfl rfl h1a h2a h3a h4a h5a ?_))
                intro va w10 oa hga _; have hbAa := bel_alloc (Below.refl w9.heap.size w9) (.cells #[.int .i64 (c : Int)] 3); replace hb9 := (below_on hb9 hbAa).grown hga (below_on hb9 hbAa).size (fun q' hq => (World.ownsRow.lt hown9 q' hq).1)
                have ea : w10.ownsRow w2.heap.size 3 1 va (nx ++ [c]).length (iv (nx ++ [c])) := by
                  rw [iv_append, List.length_append]; exact oa
                clear hbAa hga oa h1a h2a h3a h4a h5a; clear ck9 hown9; go_wp2_with fail; go_roundw
                case rel => exact ⟨j + 1, false, nx ++ [c], by simp, by omega, rfl, ea, HI, hb9⟩
                case measure => simp [intOf]; omega
              case' true =>
                have HI : NI (aI l) k ks (j + 1) true (nx ++ [k] ++ [c]) := by
                  have := NI_put hjt HNI (by rw [HC.out]; exact HZ.out)
                  rw [HC.out] at this; exact this
                clear HNI HZ HC HGK; go_wp2_with fail
                have hs : Calm.Stays (fun w' => w'.rangeAt g (o + k * 9) (El.cells yy) ∧ w'.rangeAt g (o + c * 9) (El.cells yc) ∧ w'.cell? ⟨gk, j, none⟩ = some (.int .i64 (c : Int)) ∧ w'.ownsRow w2.heap.size 3 1 (.slice Q nx.length qc) nx.length (iv nx) ∧ Below w2.heap.size w2 w') := fun wa wb h hb => ⟨range_later h.1 hb, range_later h.2.1 hb, cell_later hb h.2.2.1, own_later h.2.2.2.1 hb, below_on h.2.2.2.2 hb⟩
                refine Calm.region (by kernel_rfl) (by kernel_rfl) (fun w' => w'.rangeAt g (o + k * 9) (El.cells yy) ∧ w'.rangeAt g (o + c * 9) (El.cells yc) ∧ w'.cell? ⟨gk, j, none⟩ = some (.int .i64 (c : Int)) ∧ w'.ownsRow w2.heap.size 3 1 (.slice Q nx.length qc) nx.length (iv nx) ∧ Below w2.heap.size w2 w') ⟨dk, dc, ck, hown, hbel.drew⟩ ?_
                iterate 3
                  all_goals
                    refine Calm.pure (v := ?_) (by rfl) ?_ ?_; rotate_left; focus (intro w hSw; go_simp <;> rfl)
                    simp only [put4]
                iterate 3
                  all_goals
                    first
                      | (refine Calm.skip ?_ ?_; focus rfl)
                      | (refine Calm.pure (v := ?_) (by rfl) ?_ ?_
                         rotate_left
                         focus (intro w hSw; go_simp <;> rfl))
                    simp only [put4]
                all_goals
                  first
                    | (refine Calm.skip ?_ ?_; focus rfl)
                    | (first | (refine Calm.loadM 60 Tryz.underlying60 rfl zk (by rfl) _ rfl rfl (fun _ h => h.1) ?_) | (refine Calm.loadM 60 Tryz.underlying60 rfl zc (by rfl) _ rfl rfl (fun _ h => h.2.1) ?_))
                  simp only [put4]
                iterate 6
                  all_goals
                    first
                      | (refine Calm.skip ?_ ?_; focus rfl)
                      | (refine Calm.pure (v := ?_) (by rfl) ?_ ?_
                         rotate_left
                         focus (intro w hSw; go_simp <;> rfl))
                    simp only [put4]
                all_goals
                  first
                    | (refine Calm.skip ?_ ?_; focus rfl)
                    | (first | (refine Calm.loadM 60 Tryz.underlying60 rfl zk (by rfl) _ rfl rfl (fun _ h => h.1) ?_) | (refine Calm.loadM 60 Tryz.underlying60 rfl zc (by rfl) _ rfl rfl (fun _ h => h.2.1) ?_))
                  simp only [put4]
                all_goals
                  first
                    | (refine Calm.skip ?_ ?_; focus rfl)
                    | (refine Calm.call2s (by rfl) rfl rfl rfl (by kernel_rfl) hs (fun w1 h => CA w1) ?_)
                  simp only [put4]
                all_goals
                  refine Calm.pure (v := ?_) (by rfl) ?_ ?_; rotate_left; focus (intro w hSw; go_simp <;> rfl)
                  simp only [put4]
                all_goals
                  rintro w9 ⟨_, _, ck9, hown9, hb9⟩
                clear CA dk dc ck hown hbel
                have h1a : ∀ q u, [Value.int .i64 (k : Int)][q]? = some u → (w9.alloc (.cells #[.int .i64 (k : Int)] 3)).cell? ((⟨w9.heap.size, 0, none⟩ : Addr).add q) = some u := fun q u hq => (cells_new w9 [Value.int .i64 (k : Int)] 3 q).trans hq
                have h2a : ∀ u ∈ [Value.int .i64 (k : Int)], u.oneCell' = true := fun u hu => by rw [List.mem_singleton.1 hu]; rfl
                have h3a : nx.length + 1 ≤ maxLen := by unfold maxLen; omega
                have h4a : (nx.length + 1) * 8 ≤ 140737488355328 := by omega
                have h5a : w2.heap.size ≤ (w9.alloc (.cells #[.int .i64 (k : Int)] 3)).heap.size := by simp; have := hb9.size; omega
                go_wp2_with (first | (at_builtin; refine wpList_append_own _ rfl _ _ 87 rfl w2.heap.size 3 i0 (.int .i64 0) 1 8 Tryz.underlying87 hi hz0 hz1 hz2 rfl (by decide) _ _ _ rfl (hown9.alloc _) ⟨w9.heap.size, 0, none⟩ 1 1 [.int .i64 (k : Int)] rfl rfl h1a h2a h3a h4a h5a ?_))
                intro va w10 oa hga _; have hbAa := bel_alloc (Below.refl w9.heap.size w9) (.cells #[.int .i64 (k : Int)] 3); replace hb9 := (below_on hb9 hbAa).grown hga (below_on hb9 hbAa).size (fun q' hq => (World.ownsRow.lt hown9 q' hq).1)
                have ea : w10.ownsRow w2.heap.size 3 1 va (nx ++ [k]).length (iv (nx ++ [k])) := by
                  rw [iv_append, List.length_append]; exact oa
                clear hbAa hga oa h1a h2a h3a h4a h5a; clear ck9 hown9; have ck10 : w10.cell? ⟨gk, j, none⟩ = some (.int .i64 (c : Int)) := cell_later hb9 hck2; obtain ⟨nz, HNZ⟩ := hid_ex (nx ++ [k]); rw [HNZ.out] at ea
                have hnz : nz.length ≤ 102 := by rw [← HNZ.out, List.length_append]; simp only [List.length_singleton]; omega
                obtain ⟨Q2, qc2, rfl⟩ := own_sl ea
                have h1b : ∀ q u, [Value.int .i64 (c : Int)][q]? = some u → (w10.alloc (.cells #[.int .i64 (c : Int)] 3)).cell? ((⟨w10.heap.size, 0, none⟩ : Addr).add q) = some u := fun q u hq => (cells_new w10 [Value.int .i64 (c : Int)] 3 q).trans hq
                have h2b : ∀ u ∈ [Value.int .i64 (c : Int)], u.oneCell' = true := fun u hu => by rw [List.mem_singleton.1 hu]; rfl
                have h3b : nz.length + 1 ≤ maxLen := by unfold maxLen; omega
                have h4b : (nz.length + 1) * 8 ≤ 140737488355328 := by omega
                have h5b : w2.heap.size ≤ (w10.alloc (.cells #[.int .i64 (c : Int)] 3)).heap.size := by simp; have := hb9.size; omega
                go_wp2_with (first | (at_builtin; refine wpList_append_own _ rfl _ _ 87 rfl w2.heap.size 3 i0 (.int .i64 0) 1 8 Tryz.underlying87 hi hz0 hz1 hz2 rfl (by decide) _ _ _ rfl (ea.alloc _) ⟨w10.heap.size, 0, none⟩ 1 1 [.int .i64 (c : Int)] rfl rfl h1b h2b h3b h4b h5b ?_))
                intro vb w11 ob hgb _; have hbAb := bel_alloc (Below.refl w10.heap.size w10) (.cells #[.int .i64 (c : Int)] 3); replace hb9 := (below_on hb9 hbAb).grown hgb (below_on hb9 hbAb).size (fun q' hq => (World.ownsRow.lt ea q' hq).1)
                have eb : w11.ownsRow w2.heap.size 3 1 vb (nz ++ [c]).length (iv (nz ++ [c])) := by
                  rw [iv_append, List.length_append]; exact ob
                clear hbAb hgb ob h1b h2b h3b h4b h5b; clear ck10 ea
                have HI2 : NI (aI l) k ks (j + 1) true (nz ++ [c]) := by
                  rw [← HNZ.out]; exact HI
                go_wp2_with fail; go_roundw
                case rel => exact ⟨j + 1, true, nz ++ [c], by simp, by omega, rfl, eb, HI2, hb9⟩
                case measure => simp [intOf]; omega
            case' true =>
              have HI : NI (aI l) k ks (j + 1) true (nx ++ [c]) := by
                have := NI_on hjt HNI
                rw [HC.out] at this; exact this
              clear HNI HZ HC HGK; go_wp2_with fail
              have hs : Calm.Stays (fun w' => w'.rangeAt g (o + k * 9) (El.cells yy) ∧ w'.rangeAt g (o + c * 9) (El.cells yc) ∧ w'.cell? ⟨gk, j, none⟩ = some (.int .i64 (c : Int)) ∧ w'.ownsRow w2.heap.size 3 1 (.slice Q nx.length qc) nx.length (iv nx) ∧ Below w2.heap.size w2 w') := fun wa wb h hb => ⟨range_later h.1 hb, range_later h.2.1 hb, cell_later hb h.2.2.1, own_later h.2.2.2.1 hb, below_on h.2.2.2.2 hb⟩
              refine Calm.region (by kernel_rfl) (by kernel_rfl) (fun w' => w'.rangeAt g (o + k * 9) (El.cells yy) ∧ w'.rangeAt g (o + c * 9) (El.cells yc) ∧ w'.cell? ⟨gk, j, none⟩ = some (.int .i64 (c : Int)) ∧ w'.ownsRow w2.heap.size 3 1 (.slice Q nx.length qc) nx.length (iv nx) ∧ Below w2.heap.size w2 w') ⟨dk, dc, ck, hown, hbel.drew⟩ ?_
              iterate 3
                all_goals
                  refine Calm.pure (v := ?_) (by rfl) ?_ ?_; rotate_left; focus (intro w hSw; go_simp <;> rfl)
                  simp only [put4]
              iterate 3
                all_goals
                  first
                    | (refine Calm.skip ?_ ?_; focus rfl)
                    | (refine Calm.pure (v := ?_) (by rfl) ?_ ?_
                       rotate_left
                       focus (intro w hSw; go_simp <;> rfl))
                  simp only [put4]
              all_goals
                first
                  | (refine Calm.skip ?_ ?_; focus rfl)
                  | (first | (refine Calm.loadM 60 Tryz.underlying60 rfl zk (by rfl) _ rfl rfl (fun _ h => h.1) ?_) | (refine Calm.loadM 60 Tryz.underlying60 rfl zc (by rfl) _ rfl rfl (fun _ h => h.2.1) ?_))
                simp only [put4]
              iterate 6
                all_goals
                  first
                    | (refine Calm.skip ?_ ?_; focus rfl)
                    | (refine Calm.pure (v := ?_) (by rfl) ?_ ?_
                       rotate_left
                       focus (intro w hSw; go_simp <;> rfl))
                  simp only [put4]
              all_goals
                first
                  | (refine Calm.skip ?_ ?_; focus rfl)
                  | (first | (refine Calm.loadM 60 Tryz.underlying60 rfl zk (by rfl) _ rfl rfl (fun _ h => h.1) ?_) | (refine Calm.loadM 60 Tryz.underlying60 rfl zc (by rfl) _ rfl rfl (fun _ h => h.2.1) ?_))
                simp only [put4]
              all_goals
                first
                  | (refine Calm.skip ?_ ?_; focus rfl)
                  | (refine Calm.call2s (by rfl) rfl rfl rfl (by kernel_rfl) hs (fun w1 h => CA w1) ?_)
                simp only [put4]
              all_goals
                refine Calm.pure (v := ?_) (by rfl) ?_ ?_; rotate_left; focus (intro w hSw; go_simp <;> rfl)
                simp only [put4]
              all_goals
                rintro w9 ⟨_, _, ck9, hown9, hb9⟩
              clear CA dk dc ck hown hbel
              have h1a : ∀ q u, [Value.int .i64 (c : Int)][q]? = some u → (w9.alloc (.cells #[.int .i64 (c : Int)] 3)).cell? ((⟨w9.heap.size, 0, none⟩ : Addr).add q) = some u := fun q u hq => (cells_new w9 [Value.int .i64 (c : Int)] 3 q).trans hq
              have h2a : ∀ u ∈ [Value.int .i64 (c : Int)], u.oneCell' = true := fun u hu => by rw [List.mem_singleton.1 hu]; rfl
              have h3a : nx.length + 1 ≤ maxLen := by unfold maxLen; omega
              have h4a : (nx.length + 1) * 8 ≤ 140737488355328 := by omega
              have h5a : w2.heap.size ≤ (w9.alloc (.cells #[.int .i64 (c : Int)] 3)).heap.size := by simp; have := hb9.size; omega
              go_wp2_with (first | (at_builtin; refine wpList_append_own _ rfl _ _ 87 rfl w2.heap.size 3 i0 (.int .i64 0) 1 8 Tryz.underlying87 hi hz0 hz1 hz2 rfl (by decide) _ _ _ rfl (hown9.alloc _) ⟨w9.heap.size, 0, none⟩ 1 1 [.int .i64 (c : Int)] rfl rfl h1a h2a h3a h4a h5a ?_))
              intro va w10 oa hga _; have hbAa := bel_alloc (Below.refl w9.heap.size w9) (.cells #[.int .i64 (c : Int)] 3); replace hb9 := (below_on hb9 hbAa).grown hga (below_on hb9 hbAa).size (fun q' hq => (World.ownsRow.lt hown9 q' hq).1)
              have ea : w10.ownsRow w2.heap.size 3 1 va (nx ++ [c]).length (iv (nx ++ [c])) := by
                rw [iv_append, List.length_append]; exact oa
              clear hbAa hga oa h1a h2a h3a h4a h5a; clear ck9 hown9; go_wp2_with fail; go_roundw
              case rel => exact ⟨j + 1, true, nx ++ [c], by simp, by omega, rfl, ea, HI, hb9⟩
              case measure => simp [intOf]; omega
          case' neg =>
            obtain rfl : j = ks.length := by omega
            have hjt' : ¬ (ks.length : Int) < (ks.length : Int) := by omega
            have hb9 := hbel; clear hd2
            cases fl
            case' true =>
              have HE : Hid (nx = insS (aI l) k ks) := NI_end HNI; go_wp2_with fail; go_roundw
              case rel => exact ⟨k + 1, by simp, by omega, by rw [HN.out, ← HE.out]; exact own_mono hown HB2.out.size, range_later HD2.out hb9, below_on HB2.out hb9⟩
              case measure => simp [intOf]; omega
            case' false =>
              have HE : Hid (nx ++ [k] = insS (aI l) k ks) := NI_last HNI
              have h1a : ∀ q u, [Value.int .i64 (k : Int)][q]? = some u → (wr.alloc (.cells #[.int .i64 (k : Int)] 3)).cell? ((⟨wr.heap.size, 0, none⟩ : Addr).add q) = some u := fun q u hq => (cells_new wr [Value.int .i64 (k : Int)] 3 q).trans hq
              have h2a : ∀ u ∈ [Value.int .i64 (k : Int)], u.oneCell' = true := fun u hu => by rw [List.mem_singleton.1 hu]; rfl
              have h3a : nx.length + 1 ≤ maxLen := by unfold maxLen; omega
              have h4a : (nx.length + 1) * 8 ≤ 140737488355328 := by omega
              have h5a : w2.heap.size ≤ (wr.alloc (.cells #[.int .i64 (k : Int)] 3)).heap.size := by simp; have := hb9.size; omega
              go_wp2_with (first | (at_builtin; refine wpList_append_own _ rfl _ _ 87 rfl w2.heap.size 3 i0 (.int .i64 0) 1 8 Tryz.underlying87 hi hz0 hz1 hz2 rfl (by decide) _ _ _ rfl (hown.alloc _) ⟨wr.heap.size, 0, none⟩ 1 1 [.int .i64 (k : Int)] rfl rfl h1a h2a h3a h4a h5a ?_))
              intro va w10 oa hga _; have hbAa := bel_alloc (Below.refl wr.heap.size wr) (.cells #[.int .i64 (k : Int)] 3); replace hb9 := (below_on hb9 hbAa).grown hga (below_on hb9 hbAa).size (fun q' hq => (World.ownsRow.lt hown q' hq).1)
              have ea : w10.ownsRow w2.heap.size 3 1 va (nx ++ [k]).length (iv (nx ++ [k])) := by
                rw [iv_append, List.length_append]; exact oa
              clear hbAa hga oa h1a h2a h3a h4a h5a; go_wp2_with fail; go_roundw
              case rel => exact ⟨k + 1, by simp, by omega, by rw [HN.out, ← HE.out]; exact own_mono ea HB2.out.size, range_later HD2.out hb9, below_on HB2.out hb9⟩
              case measure => simp [intOf]; omega
    case' neg =>
      obtain rfl : k = l.length := by omega
      have hlt' : ¬ (l.length : Int) < (l.length : Int) := by omega
      go_wp2_with fail; have HB2 : Hid (Below w.heap.size w wr) := hbel; have HO2 : Hid (wr.ownsRow w.heap.size 3 1 (.slice P ks.length cc) ks.length (iv ks)) := hown; clear hown db hbel hk; obtain ⟨w2, HW2⟩ := hid_ex wr; rw [HW2.out] at HB2 HO2 ⊢; clear HW2; rw [HKS.out] at HLEN
      go_loopw [10, 11] (fun vo vi wr => ∃ j : Nat, vi = .int .i64 j ∧ j ≤ ks.length ∧ wr.ownsRow w2.heap.size 3 1 vo ((ks.take j).flatMap (fun c => c :: bI l f (mI l c))).length (iv ((ks.take j).flatMap (fun c => c :: bI l f (mI l c)))) ∧ Below w2.heap.size w2 wr) (fun _ vi _ => ks.length - (intOf vi).toNat)
      case atStart => exact ⟨0, rfl, by omega, World.ownsRow_nil _ _ _ _, Below.refl _ _⟩
      case round =>
        obtain ⟨j, rfl, hj, hown, hb9⟩ := hrel
        by_cases hjt : j < ks.length
        case' pos =>
          have hjt' : (j : Int) < (ks.length : Int) := by omega
          have hj0 : (0 : Int) ≤ (j : Int) := by omega
          obtain ⟨c, HC⟩ := hid_ex ks[j]
          have hcm : c ∈ kI l (kM m) l.length := by rw [HKS.out, ← HC.out]; exact List.getElem_mem _
          have hck : c < l.length := (kI_mem hcm).1
          have hc0 : (0 : Int) ≤ (c : Int) := by omega
          have hc1 : (c : Int) < (l.length : Int) := by omega
          have HT : Hid ((ks.take (j + 1)).flatMap (fun c => c :: bI l f (mI l c)) = (ks.take j).flatMap (fun c => c :: bI l f (mI l c)) ++ [c] ++ bI l f (mI l c)) := by
            show _ = _
            rw [List.take_succ_eq_append_getElem hjt, List.flatMap_append, HC.out]
            simp
          have hL := flat_take (g := (fun c => c :: bI l f (mI l c))) ks (j + 1); rw [HT.out, List.length_append, List.length_append, List.length_singleton] at hL; have hL2 := HLEN.out; have C := HCR2.out c hcm; obtain ⟨r, HR2⟩ := hid_ex (bI l f (mI l c)); rw [HR2.out] at HT hL C; obtain ⟨L, HLL⟩ := hid_ex ((ks.take j).flatMap (fun c => c :: bI l f (mI l c))); rw [HLL.out] at HT hL hown; replace hL : L.length + 1 + r.length ≤ 100 := Nat.le_trans hL hL2; clear hL2; obtain ⟨Q, qc, rfl⟩ := own_sl hown; obtain ⟨gk, ok, e1, hrk⟩ := (own_sh HO2.out).at (by omega); obtain ⟨gk', e2, _⟩ := own_some HO2.out (by omega); rw [e2] at e1; simp only [Option.some.injEq, Addr.mk.injEq, and_true] at e1; obtain ⟨rfl, rfl⟩ := e1; subst e2
          have hck2 : w2.cell? ⟨gk', j, none⟩ = some (.int .i64 (c : Int)) := by
            have := hrk j _ (iv_at hjt)
            rw [Nat.zero_add, HC.out] at this; exact this
          clear hrk; have ck : wr.cell? ⟨gk', j, none⟩ = some (.int .i64 (c : Int)) := cell_later hb9 hck2; obtain ⟨g, o, rfl, hd0⟩ := HR.out.at (by omega); have dw : w.rangeAt g (o + c * 9) (El.cells (ys[c]'(by omega))) := range_sub hd0 (c * 9) fun j u hu => rows_at El.len ys c (by omega) j u hu
          have ey : (ys[c]'(by omega)).1 = gL l (c + 1) := by rw [gL_succ hck, HL.out c (by omega) hck]
          obtain ⟨yy, HX⟩ := hid_ex (ys[c]'(by omega)); rw [HX.out] at dw ey; obtain ⟨y, yv⟩ := yy; replace ey : y = gL l (c + 1) := ey; rw [← ey] at C
          have dm : w.rangeAt g (o + c * 9) [Value.int .i64 y.p, .int .i64 y.s, .int .i64 y.i] := range_sub (o := o + c * 9) (xs := El.cells (y, yv)) dw 0 (fun j a ha => by
            rw [Nat.zero_add]
            match j, ha with
            | 0, h => exact h
            | 1, h => exact h
            | 2, h => exact h
            | j + 3, h => simp at h)
          have zu : (Tryz.prog.info? 36).map (·.size) = some [Value.int .i64 y.p, .int .i64 y.s, .int .i64 y.i].length := size36; clear hd0 dw ey HX hcm HR2 HC
          have h1a : ∀ q u, [Value.int .i64 (c : Int)][q]? = some u → (wr.alloc (.cells #[.int .i64 (c : Int)] 3)).cell? ((⟨wr.heap.size, 0, none⟩ : Addr).add q) = some u := fun q u hq => (cells_new wr [Value.int .i64 (c : Int)] 3 q).trans hq
          have h2a : ∀ u ∈ [Value.int .i64 (c : Int)], u.oneCell' = true := fun u hu => by rw [List.mem_singleton.1 hu]; rfl
          have h3a : L.length + 1 ≤ maxLen := by unfold maxLen; omega
          have h4a : (L.length + 1) * 8 ≤ 140737488355328 := by omega
          have h5a : w2.heap.size ≤ (wr.alloc (.cells #[.int .i64 (c : Int)] 3)).heap.size := by simp; have := hb9.size; omega
          go_wp2_with (first | (at_builtin; refine wpList_append_own _ rfl _ _ 87 rfl w2.heap.size 3 i0 (.int .i64 0) 1 8 Tryz.underlying87 hi hz0 hz1 hz2 rfl (by decide) _ _ _ rfl (hown.alloc _) ⟨wr.heap.size, 0, none⟩ 1 1 [.int .i64 (c : Int)] rfl rfl h1a h2a h3a h4a h5a ?_))
          intro va w10 oa hga _; have hbAa := bel_alloc (Below.refl wr.heap.size wr) (.cells #[.int .i64 (c : Int)] 3); replace hb9 := (below_on hb9 hbAa).grown hga (below_on hb9 hbAa).size (fun q' hq => (World.ownsRow.lt hown q' hq).1)
          have ea : w10.ownsRow w2.heap.size 3 1 va (L ++ [c]).length (iv (L ++ [c])) := by
            rw [iv_append, List.length_append]; exact oa
          clear hbAa hga oa h1a h2a h3a h4a h5a; have d10 := range_later dm (below_on HB2.out hb9); have ck10 : w10.cell? ⟨gk', j, none⟩ = some (.int .i64 (c : Int)) := cell_later hb9 hck2; have C1 := C w10 (below_on HB2.out hb9); clear C ck hown
          go_wp2_with (first | refine load_m 36 _ rfl rfl _ _ rfl d10 Tryz.underlying36 rfl zu ?_)
          refine C1.mono ?_; clear C1 d10 ck10; rintro e w11 ⟨u, rfl, ou, hb11⟩; replace ea := own_later ea hb11; obtain ⟨L2, HL2⟩ := hid_ex (L ++ [c])
          have hl2 : L2.length = L.length + 1 := by rw [← HL2.out]; simp
          rw [HL2.out] at ea HT; obtain ⟨Q3, qc3, rfl⟩ := own_sl ea
          have hx1 : L2.length + r.length ≤ maxLen := by unfold maxLen; omega
          have hx2 : (L2.length + r.length) * 8 ≤ 140737488355328 := by omega
          have hx3 : w2.heap.size ≤ w11.heap.size := Nat.le_trans hb9.size hb11.size; replace hb9 := below_on hb9 hb11; clear hl2 HL2 hL hb11
          go_wp2_with (first | (at_builtin; refine wpList_append_rows rfl _ _ 87 rfl w2.heap.size 3 i0 (.int .i64 0) 1 8 Tryz.underlying87 hi hz0 hz1 hz2 rfl (by decide) _ _ _ rfl ea _ u _ _ rfl ou (iv_one _) hx1 hx2 hx3 ?_))
          intro v2 w12 o12 hg12; replace hb9 := hb9.grown hg12 hb9.size (fun q' hq => (World.ownsRow.lt ea q' hq).1)
          have e12 : w12.ownsRow w2.heap.size 3 1 v2 (L2 ++ r).length (iv (L2 ++ r)) := by
            rw [iv_append, List.length_append]; exact o12
          clear o12 hg12 ea ou hx1 hx2 hx3; go_wp2_with fail; go_roundw
          case rel => exact ⟨j + 1, by simp, by omega, by rw [HT.out]; exact e12, hb9⟩
          case measure => simp [intOf]; omega
        case' neg =>
          obtain rfl : j = ks.length := by omega
          have hjt' : ¬ (ks.length : Int) < (ks.length : Int) := by omega
          rw [List.take_length] at hown; obtain ⟨L, HLL⟩ := hid_ex (ks.flatMap (fun c => c :: bI l f (mI l c))); rw [HLL.out] at hown; obtain ⟨Q, qc, rfl⟩ := own_sl hown; go_wp2_with fail; go_ret; exact ⟨_, rfl, by rw [HKS.out, HLL.out]; exact own_mono hown HB2.out.size, below_on HB2.out hb9⟩
end Go.Proofs.YtfjpbmdmkcihcaaGreat
/- loose of the document's answer: does an element go? -/
namespace Go.Proofs.YtfjpbmdmkcihcaaGreat
open Go.RowKit

theorem any_lt {l : List M} {f : M → Bool} : decide ((l.filter (fun y => !f y)).length < l.length) = l.any f := by
  rw [Bool.eq_iff_iff, decide_eq_true_iff, List.any_eq_true]
  constructor
  · intro h
    apply Classical.byContradiction
    intro hc
    rw [List.filter_eq_self.2 (fun a ha => by
      cases hf : f a with
      | false => rfl
      | true => exact absurd ⟨a, ha, hf⟩ hc)] at h
    omega
  · rintro ⟨a, ha, hf⟩
    rcases Nat.lt_or_ge (l.filter (fun y => !f y)).length l.length with k | k
    · exact k
    · have e := List.Sublist.eq_of_length_le (List.filter_sublist (p := fun y => !f y) (l := l)) k
      rw [← e] at ha
      have := (List.mem_filter.1 ha).2
      rw [hf] at this
      cases this
set_option maxHeartbeats 4000000 in
set_option maxRecDepth 100000 in
theorem loose_any (v : Value) (l : List El) (i : Nat) (cv : List Int) (w : World) (hcv : cv.length = 13) (h : EHas w v l) (hi : i < l.length) (hg : ∀ e ∈ l, e.gone.length ≤ 100) : Calls Tryz.prog 47 #[v, .int .i64 i, V cv] w (Tells (.bool (lsE l (hsP cv) l[i])) w) := by
  obtain ⟨z, HZ⟩ := hid_ex (lsE l (hsP cv) l[i]); rw [HZ.out]; obtain ⟨ys, hys, h, hy⟩ := h; have hml := maxLen_lt h.1; obtain ⟨pv, c0, rfl⟩ := h.slice; obtain ⟨g, o, rfl, hr⟩ := h.at (by omega)
  have HYL : Hid (ys.length = l.length) := by show _ = _; rw [← hys, List.length_map]
  have hiy : i < ys.length := by rw [HYL.out]; exact hi
  have HL : Hid (∀ k (h1 : k < ys.length) (h2 : k < l.length), ys[k].1 = l[k]) := fun k h1 h2 => by
    simp only [← hys, List.getElem_map]
  have ey := HL.out i hiy hi; have hyi := hy ys[i] (List.getElem_mem _); have d0 := El.elem hr i hiy; have hg1 := hg l[i] (List.getElem_mem _); obtain ⟨yy, HX⟩ := hid_ex ys[i]; rw [HX.out] at ey hyi d0; obtain ⟨y, yv⟩ := yy; replace ey : y = l[i] := ey; rw [← ey] at HZ hg1; replace hyi : MHas w yv y.gone := hyi; obtain ⟨py, cy, rfl⟩ := hyi.slice; have c8 : w.cell? ⟨g, o + i * 9 + 8, none⟩ = some (.slice py y.gone.length cy) := d0 8 _ rfl
  have dy0 : w.rangeAt g (o + i * 9) [Value.int .i64 y.p, .int .i64 y.s, .int .i64 y.i] := range_sub (o := o + i * 9) (xs := El.cells (y, .slice py y.gone.length cy)) d0 0 (fun j a ha => by
    rw [Nat.zero_add]
    match j, ha with
    | 0, h => exact h
    | 1, h => exact h
    | 2, h => exact h
    | j + 3, h => simp at h)
  have zm : (Tryz.prog.info? 36).map (·.size) = some [Value.int .i64 y.p, .int .i64 y.s, .int .i64 y.i].length := size36; have zv : (Tryz.prog.info? 31).map (·.size) = some (vals cv).length := info31 hcv; have R0 := rw_new w 31 (vals cv).toArray; have hb0 := bel_alloc (Below.refl w.heap.size w) (.cells (vals cv).toArray 31); generalize hW : w.alloc (.cells (vals cv).toArray 31) = w0 at R0 hb0
  have C1 := fun w' (hb : Below w.heap.size w w') => folded_any _ y.gone cv w' hcv (hyi.later hb) hg1
  unfold FoPost at C1; rw [show (fun y : M => !hs cv y.p y.s) = (fun y => !hsP cv y) from rfl, any_lt] at C1; obtain ⟨bb, HBB⟩ := hid_ex (y.gone.any (hsP cv)); rw [HBB.out] at C1
  have hi0 : (0 : Int) ≤ (i : Int) := by omega
  have hi1 : (i : Int) < (l.length : Int) := by omega
  clear d0 HX hg hyi hg1 hy ey
  go_enter Tryz.func47, Tryz.ntmps47
  go_wp2_with (first | rw [hW])
  clear hW
  have hS : Calm.Stays (fun w' => Below w0.heap.size w0 w') := fun wa wb h hb => below_on h hb
  have hF : Facts.Stay [pF 0 (eqP (.slice (some ⟨g, o, none⟩) l.length c0)), pF 1 (eqP (.int .i64 i)), pF 2 (eqP (.pointer (some ⟨g, o + i * 9, none⟩))), pF 3 (eqP (.pointer (some ⟨g, o + i * 9 + 8, none⟩))), pF 4 (eqP (.slice py y.gone.length cy)), pF 5 (eqP (.agg (vals cv).toArray)), pF 6 ((fun (v' : Value) (_ : World) => ∃ u, v' = .tuple #[u, .bool bb])), pF 7 ((fun (v' : Value) (_ : World) => ∃ u, v' = .tuple #[u, .bool bb])), pF 8 ((fun _ _ => True)), pF 9 (eqP (.bool bb)), pF 10 ((fun _ _ => True)), pF 11 (eqP (.bool bb))] := stay_of (by simp only [List.forall_mem_cons]; exact ⟨⟨_, _, rfl, eqP_keeps _⟩, ⟨_, _, rfl, eqP_keeps _⟩, ⟨_, _, rfl, eqP_keeps _⟩, ⟨_, _, rfl, eqP_keeps _⟩, ⟨_, _, rfl, eqP_keeps _⟩, ⟨_, _, rfl, eqP_keeps _⟩, ⟨_, _, rfl, (fun _ _ _ h _ => h)⟩, ⟨_, _, rfl, (fun _ _ _ h _ => h)⟩, ⟨_, _, rfl, (fun _ _ _ h _ => h)⟩, ⟨_, _, rfl, eqP_keeps _⟩, ⟨_, _, rfl, (fun _ _ _ h _ => h)⟩, ⟨_, _, rfl, eqP_keeps _⟩, fun _ h => by cases h⟩); refine FactsG.region (by kernel_rfl) (by kernel_rfl) (fun w' => Below w0.heap.size w0 w') (fun xv => { tmps := #[Value.slice (some { block := g, off := o }) l.length c0, Value.int IntKind.i64 ↑i, V cv, undef, undef, Value.pointer (some { block := w.heap.size, off := 0 }), Value.bool false, xv 10, xv 11, undef, xv 7, xv 0, xv 1, xv 2, xv 3, xv 4, xv 5, xv 6, xv 8, xv 9, undef, undef, undef, undef, undef, undef, undef, undef, undef, undef, undef, undef, undef, undef, undef, undef, undef, undef, undef], defers := [] }) [pF 0 (eqP (.slice (some ⟨g, o, none⟩) l.length c0)), pF 1 (eqP (.int .i64 i)), pF 2 (eqP (.pointer (some ⟨g, o + i * 9, none⟩))), pF 3 (eqP (.pointer (some ⟨g, o + i * 9 + 8, none⟩))), pF 4 (eqP (.slice py y.gone.length cy)), pF 5 (eqP (.agg (vals cv).toArray)), pF 6 ((fun (v' : Value) (_ : World) => ∃ u, v' = .tuple #[u, .bool bb])), pF 7 ((fun (v' : Value) (_ : World) => ∃ u, v' = .tuple #[u, .bool bb])), pF 8 ((fun _ _ => True)), pF 9 (eqP (.bool bb)), pF 10 ((fun _ _ => True)), pF 11 (eqP (.bool bb))] (fun _ _ _ _ => True) (fun _ _ _ _ _ => trivial) _ rfl rfl (by kernel_rfl) (fun j => [undef, undef, undef, undef, undef, undef, undef, undef, undef, undef, undef, undef].getD j undef) rfl (Below.refl _ w0).drew ⟨?_, ?_, ?_, ?_, ?_, ?_, ?_, ?_, ?_, ?_, ?_, ?_, trivial⟩ ?_
  · exact FactsG.of rfl (fun _ _ _ => trivial) (fun _ _ _ _ => rfl) (Facts.pureP hS hF (fun _ _ => rfl) rfl (fun xv wv hSw hd => by
      go_simp))
  · exact FactsG.of rfl (fun _ _ _ => trivial) (fun _ _ _ _ => rfl) (Facts.pureP hS hF (fun _ _ => rfl) rfl (fun xv wv hSw hd => by
      go_simp))
  · exact FactsG.of rfl (fun _ _ _ => trivial) (fun _ _ _ _ => rfl) (Facts.pureP hS hF (fun _ _ => rfl) rfl (fun xv wv hSw hd => by
      have d0 : xv 0 = _ := pF_get (hd ⟨0, .data⟩ (by simp) rfl _ rfl); have d1 : xv 1 = _ := pF_get (hd ⟨1, .data⟩ (by simp) rfl _ rfl); simp only [d0, d1]
      go_simp))
  · exact FactsG.of rfl (fun _ _ _ => trivial) (fun _ _ _ _ => rfl) (Facts.pureP hS hF (fun _ _ => rfl) rfl (fun xv wv hSw hd => by
      have d2 : xv 2 = _ := pF_get (hd ⟨2, .data⟩ (by simp) rfl _ rfl); simp only [d2]
      go_simp))
  · exact FactsG.of rfl (fun _ _ _ => trivial) (fun _ _ _ _ => rfl) (Facts.pureP hS hF (fun _ _ => rfl) rfl (fun xv wv hSw hd => by
      have d3 : xv 3 = _ := pF_get (hd ⟨3, .data⟩ (by simp) rfl _ rfl); have g8 := cell_later hSw (cell_later hb0 c8); simp only [d3]
      go_simp))
  · exact FactsG.of rfl (fun _ _ _ => trivial) (fun _ _ _ _ => rfl) (Facts.loadP hS hF (fun _ _ => rfl) 31 Tryz.underlying31 rfl zv _ rfl rfl (fun xv wv hSw hd => by rfl) (fun wv hSw => Rw.whole (cs := (vals cv)) (R0.later hSw)))
  · refine FactsG.of rfl (fun _ _ _ => trivial) (fun _ _ _ _ => rfl) (Facts.call2P hS hF (fun _ _ => rfl) rfl (by kernel_rfl) rfl (fun xv wv hSw hd => ?_))
    have d4 : xv 4 = _ := pF_get (hd ⟨4, .data⟩ (by simp) rfl _ rfl); have d5 : xv 5 = _ := pF_get (hd ⟨5, .data⟩ (by simp) rfl _ rfl)
    show Calls Tryz.prog 69 #[xv 4, xv 5] wv _
    rw [d4, d5]; refine (C1 wv (below_on hb0 hSw)).mono ?_; rintro e w' ⟨u, he, _, hb⟩; exact ⟨_, he, ⟨u, rfl⟩, hb⟩
  · refine FactsG.of rfl (fun _ _ _ => trivial) (fun _ _ _ _ => rfl) (Facts.moveP hS hF (fun _ _ => rfl) rfl (fun xv => xv 6) (fun xv wv hSw hd => ?_))
    have d6 := pF_get (hd ⟨6, .data⟩ (by simp) rfl _ rfl); exact ⟨by go_simp, d6⟩
  · refine FactsG.of rfl (fun _ _ _ => trivial) (fun _ _ _ _ => rfl) (Facts.pureD hS hF (fun _ _ => rfl) rfl (fun xv wv hSw hd => ?_))
    obtain ⟨u, e7⟩ := pF_get (hd ⟨7, .data⟩ (by simp) rfl _ rfl); refine ⟨u, ?_, trivial⟩; unfold execOp
    simp [go_sem, Act.eval, e7]
  · refine FactsG.of rfl (fun _ _ _ => trivial) (fun _ _ _ _ => rfl) (Facts.pureP hS hF (fun _ _ => rfl) rfl (fun xv wv hSw hd => ?_))
    obtain ⟨u, e7⟩ := pF_get (hd ⟨7, .data⟩ (by simp) rfl _ rfl); unfold execOp
    simp [go_sem, Act.eval, e7]
  · refine FactsG.of rfl (fun _ _ _ => trivial) (fun _ _ _ _ => rfl) (Facts.moveP hS hF (fun _ _ => rfl) rfl (fun xv => xv 8) (fun xv wv hSw hd => ?_))
    exact ⟨by go_simp, trivial⟩
  · exact FactsG.of rfl (fun _ _ _ => trivial) (fun _ _ _ _ => rfl) (Facts.pureP hS hF (fun _ _ => rfl) rfl (fun xv wv hSw hd => by
      have d9 : xv 9 = _ := pF_get (hd ⟨9, .data⟩ (by simp) rfl _ rfl); simp only [d9]
      go_simp))
  rintro xq w1 hb1 hff _; have e11 : xq 11 = _ := pF_get (hff 11 _ (by decide) rfl); simp only [e11]; clear hff hS hF e11 C1; have hbel := below_on hb0 hb1; clear hb0 hb1 R0 c8
  cases bb
  case' false =>
    have e : z = false := by
      rw [← HZ.out]; unfold lsE; rw [HBB.out]
      rfl
    subst e; go_wp2_with fail; go_ret; exact ⟨rfl, hbel⟩
  case' true =>
    have HZ2 : Hid ((!l.any (fun c => decide (rE c = kE y))) = z) := by
      show _ = _
      rw [← HZ.out]; unfold lsE; rw [HBB.out]
      rfl
    clear HZ HBB; go_wp2_with fail
    go_loopw [9] (fun vi wr => ∃ k : Nat, vi = .int .i64 k ∧ k ≤ l.length ∧ Hid (∀ j (h : j < l.length), j < k → rE l[j] ≠ kE y) ∧ Below w.heap.size w wr) (fun vi _ => l.length - (intOf vi).toNat)
    case atStart => exact ⟨0, rfl, by omega, (show ∀ j (_ : j < l.length), j < 0 → _ from fun j _ h => by omega), hbel⟩
    case round =>
      clear hbel; obtain ⟨k, rfl, hk, HV, hbel⟩ := hrel
      by_cases hlt : k < l.length
      case' pos =>
        have hlt' : (k : Int) < (l.length : Int) := by omega
        have hk0 : (0 : Int) ≤ (k : Int) := by omega
        have hky : k < ys.length := by rw [HYL.out]; exact hlt
        have d0 := El.elem (range_later hr hbel) k hky; have ec := HL.out k hky hlt; obtain ⟨cc, HX⟩ := hid_ex ys[k]; rw [HX.out] at d0 ec; obtain ⟨c, cvv⟩ := cc; have HX2 : Hid (l[k] = c) := ec.symm
        have dr : wr.rangeAt g (o + k * 9 + 4) [Value.int .i64 c.q, .int .i64 c.u, .int .i64 c.j] := range_sub (o := o + k * 9) (xs := El.cells (c, cvv)) d0 4 (fun j a ha => by
          skip
          match j, ha with
          | 0, h => exact h
          | 1, h => exact h
          | 2, h => exact h
          | j + 3, h => simp at h)
        have dy := range_later dy0 hbel; have zu : (Tryz.prog.info? 36).map (·.size) = some [Value.int .i64 c.q, .int .i64 c.u, .int .i64 c.j].length := size36; clear HX d0 ec
        have E := fun w => eq_mark w c.q c.u c.j y.p y.s y.i
        obtain ⟨t, HT⟩ := hid_ex (decide (rE c = kE y)); rw [show (decide (c.q = y.p) && decide (c.u = y.s) && decide (c.j = y.i)) = t from (rm_eq c ⟨y.p, y.s, y.i⟩).symm.trans HT.out] at E
        cases t
        case' false =>
          have HV2 : Hid (∀ j (h : j < l.length), j < k + 1 → rE l[j] ≠ kE y) := fun j h hj => by
            rcases Nat.lt_or_ge j k with h' | h'
            · exact HV.out j h h'
            · obtain rfl : j = k := by omega
              rw [HX2.out]; exact of_decide_eq_false HT.out
          clear HV HX2 HT HZ2; go_wp2_with fail
          have hs : Calm.Stays (fun w' => w'.rangeAt g (o + k * 9 + 4) [Value.int .i64 c.q, .int .i64 c.u, .int .i64 c.j] ∧ w'.rangeAt g (o + i * 9) [Value.int .i64 y.p, .int .i64 y.s, .int .i64 y.i] ∧ Below w.heap.size w w') := fun wa wb h hb => ⟨range_later h.1 hb, range_later h.2.1 hb, below_on h.2.2 hb⟩
          refine Calm.region (by kernel_rfl) (by kernel_rfl) (fun w' => w'.rangeAt g (o + k * 9 + 4) [Value.int .i64 c.q, .int .i64 c.u, .int .i64 c.j] ∧ w'.rangeAt g (o + i * 9) [Value.int .i64 y.p, .int .i64 y.s, .int .i64 y.i] ∧ Below w.heap.size w w') ⟨dr, dy, hbel.drew⟩ ?_
          iterate 4
            all_goals
              refine Calm.pure (v := ?_) (by rfl) ?_ ?_; rotate_left; focus (intro w hSw; go_simp <;> rfl)
              simp only [put4]
          all_goals
            first | (refine Calm.loadM 36 Tryz.underlying36 rfl zu (by rfl) _ rfl rfl (fun _ h => h.1) ?_) | (refine Calm.loadM 36 Tryz.underlying36 rfl zm (by rfl) _ rfl rfl (fun _ h => h.2.1) ?_)
            simp only [put4]
          iterate 4
            all_goals
              refine Calm.pure (v := ?_) (by rfl) ?_ ?_; rotate_left; focus (intro w hSw; go_simp <;> rfl)
              simp only [put4]
          all_goals
            first | (refine Calm.loadM 36 Tryz.underlying36 rfl zu (by rfl) _ rfl rfl (fun _ h => h.1) ?_) | (refine Calm.loadM 36 Tryz.underlying36 rfl zm (by rfl) _ rfl rfl (fun _ h => h.2.1) ?_)
            simp only [put4]
          all_goals
            refine Calm.pure (v := ?_) (by rfl) ?_ ?_; rotate_left; focus (intro w hSw; go_simp <;> rfl)
            simp only [put4]
          all_goals
            rintro w9 ⟨_, _, hbel9⟩
          go_wp2_with fail; go_roundw
          case rel => exact ⟨k + 1, by simp, by omega, HV2, hbel9⟩
          case measure => simp [intOf]; omega
        case' true =>
          have e : z = false := by
            rw [← HZ2.out, List.any_eq_true.2 ⟨l[k], List.getElem_mem _, by rw [HX2.out]; exact HT.out⟩]
            rfl
          subst e; clear HV HX2 HT HZ2; go_wp2_with fail
          have hs : Calm.Stays (fun w' => w'.rangeAt g (o + k * 9 + 4) [Value.int .i64 c.q, .int .i64 c.u, .int .i64 c.j] ∧ w'.rangeAt g (o + i * 9) [Value.int .i64 y.p, .int .i64 y.s, .int .i64 y.i] ∧ Below w.heap.size w w') := fun wa wb h hb => ⟨range_later h.1 hb, range_later h.2.1 hb, below_on h.2.2 hb⟩
          refine Calm.region (by kernel_rfl) (by kernel_rfl) (fun w' => w'.rangeAt g (o + k * 9 + 4) [Value.int .i64 c.q, .int .i64 c.u, .int .i64 c.j] ∧ w'.rangeAt g (o + i * 9) [Value.int .i64 y.p, .int .i64 y.s, .int .i64 y.i] ∧ Below w.heap.size w w') ⟨dr, dy, hbel.drew⟩ ?_
          iterate 4
            all_goals
              refine Calm.pure (v := ?_) (by rfl) ?_ ?_; rotate_left; focus (intro w hSw; go_simp <;> rfl)
              simp only [put4]
          all_goals
            first | (refine Calm.loadM 36 Tryz.underlying36 rfl zu (by rfl) _ rfl rfl (fun _ h => h.1) ?_) | (refine Calm.loadM 36 Tryz.underlying36 rfl zm (by rfl) _ rfl rfl (fun _ h => h.2.1) ?_)
            simp only [put4]
          iterate 4
            all_goals
              refine Calm.pure (v := ?_) (by rfl) ?_ ?_; rotate_left; focus (intro w hSw; go_simp <;> rfl)
              simp only [put4]
          all_goals
            first | (refine Calm.loadM 36 Tryz.underlying36 rfl zu (by rfl) _ rfl rfl (fun _ h => h.1) ?_) | (refine Calm.loadM 36 Tryz.underlying36 rfl zm (by rfl) _ rfl rfl (fun _ h => h.2.1) ?_)
            simp only [put4]
          all_goals
            refine Calm.pure (v := ?_) (by rfl) ?_ ?_; rotate_left; focus (intro w hSw; go_simp <;> rfl)
            simp only [put4]
          all_goals
            rintro w9 ⟨_, _, hbel9⟩
          go_wp2_with fail; go_ret; exact ⟨rfl, hbel9⟩
      case' neg =>
        have hlt' : ¬ (k : Int) < (l.length : Int) := by omega
        have e : z = true := by
          rw [← HZ2.out, show l.any (fun c => decide (rE c = kE y)) = false from by
            rw [List.any_eq_false]; intro c hc; obtain ⟨j, hj, rfl⟩ := List.getElem_of_mem hc
            simpa using HV.out j hj (by omega)]
          rfl
        subst e; go_wp2_with fail; go_ret; exact ⟨rfl, hbel⟩
end Go.Proofs.YtfjpbmdmkcihcaaGreat
