import Derived.Test.YtfjpbmdmkcihcaaGreatP15
import Derived.Test.YtfjpbmdmkcihcaaGreatP5
import Derived.Test.YtfjpbmdmkcihcaaGreatP6
/- gone of the document's answer: an element by an op. -/
namespace Go.Proofs.YtfjpbmdmkcihcaaGreat
open Go.RowKit

/-- An element with one mark more that it is gone by. -/
def GnPost (y : El) (yv : Value) (m : M) (w : World) (e : Ending) (w' : World) : Prop := ∃ u, e = .returned (EV ({ y with gone := wth y.gone m }, u)) ∧ ((u = yv ∧ wth y.gone m = y.gone) ∨ w'.ownsRow w.heap.size 36 3 u (wth y.gone m).length (rows M.cells (wth y.gone m))) ∧ Below w.heap.size w w'
set_option maxHeartbeats 2000000 in
set_option maxRecDepth 100000 in
theorem gone_any (y : El) (yv : Value) (m : M) (w : World) (h : MHas w yv y.gone) (hl : y.gone.length ≤ 100) (hc : ca y.gone = true) : Calls Tryz.prog 40 #[EV (y, yv), MV m.p m.s m.i] w (GnPost y yv m w) := by
  obtain ⟨py, cy, rfl⟩ := h.slice
  have HW : Hid (∀ e w', GnPost y (.slice py y.gone.length cy) m w e w' ↔ ∃ u, e = .returned (EV ({ y with gone := wth y.gone m }, u)) ∧ ((u = .slice py y.gone.length cy ∧ wth y.gone m = y.gone) ∨ w'.ownsRow w.heap.size 36 3 u (wth y.gone m).length (rows M.cells (wth y.gone m))) ∧ Below w.heap.size w w') := fun _ _ => Iff.rfl
  have R0 := ((rw_new w 60 #[.int .i64 y.p, .int .i64 y.s, .int .i64 y.i, .int .i64 y.t, .int .i64 y.q, .int .i64 y.u, .int .i64 y.j, .string y.x, .slice py y.gone.length cy]).alloc (.cells #[.int .i64 m.p, .int .i64 m.s, .int .i64 m.i] 36)).alloc (.cells #[.int .i64 0, .int .i64 0, .int .i64 0, .int .i64 0, .int .i64 0, .int .i64 0, .int .i64 0, .string noS, .slice none 0 0] 60); have R1 := (rw_new (w.alloc (.cells #[.int .i64 y.p, .int .i64 y.s, .int .i64 y.i, .int .i64 y.t, .int .i64 y.q, .int .i64 y.u, .int .i64 y.j, .string y.x, .slice py y.gone.length cy] 60)) 36 #[.int .i64 m.p, .int .i64 m.s, .int .i64 m.i]).alloc (.cells #[.int .i64 0, .int .i64 0, .int .i64 0, .int .i64 0, .int .i64 0, .int .i64 0, .int .i64 0, .string noS, .slice none 0 0] 60); have R2 := rw_new ((w.alloc (.cells #[.int .i64 y.p, .int .i64 y.s, .int .i64 y.i, .int .i64 y.t, .int .i64 y.q, .int .i64 y.u, .int .i64 y.j, .string y.x, .slice py y.gone.length cy] 60)).alloc (.cells #[.int .i64 m.p, .int .i64 m.s, .int .i64 m.i] 36)) 60 #[.int .i64 0, .int .i64 0, .int .i64 0, .int .i64 0, .int .i64 0, .int .i64 0, .int .i64 0, .string noS, .slice none 0 0]; have hbel := bel_alloc (bel_alloc (bel_alloc (Below.refl w.heap.size w) (.cells #[.int .i64 y.p, .int .i64 y.s, .int .i64 y.i, .int .i64 y.t, .int .i64 y.q, .int .i64 y.u, .int .i64 y.j, .string y.x, .slice py y.gone.length cy] 60)) (.cells #[.int .i64 m.p, .int .i64 m.s, .int .i64 m.i] 36)) (.cells #[.int .i64 0, .int .i64 0, .int .i64 0, .int .i64 0, .int .i64 0, .int .i64 0, .int .i64 0, .string noS, .slice none 0 0] 60)
  have HSZ : Hid (w.heap.size + 1 + 1 < (((w.alloc (.cells #[.int .i64 y.p, .int .i64 y.s, .int .i64 y.i, .int .i64 y.t, .int .i64 y.q, .int .i64 y.u, .int .i64 y.j, .string y.x, .slice py y.gone.length cy] 60)).alloc (.cells #[.int .i64 m.p, .int .i64 m.s, .int .i64 m.i] 36)).alloc (.cells #[.int .i64 0, .int .i64 0, .int .i64 0, .int .i64 0, .int .i64 0, .int .i64 0, .int .i64 0, .string noS, .slice none 0 0] 60)).heap.size) := by
    show _ < _
    simp
  generalize hW : ((w.alloc (.cells #[.int .i64 y.p, .int .i64 y.s, .int .i64 y.i, .int .i64 y.t, .int .i64 y.q, .int .i64 y.u, .int .i64 y.j, .string y.x, .slice py y.gone.length cy] 60)).alloc (.cells #[.int .i64 m.p, .int .i64 m.s, .int .i64 m.i] 36)).alloc (.cells #[.int .i64 0, .int .i64 0, .int .i64 0, .int .i64 0, .int .i64 0, .int .i64 0, .int .i64 0, .string noS, .slice none 0 0] 60) = w0 at R0 R1 R2 hbel HSZ; simp only [World.size_alloc] at R0 R1 R2; have c8 : w0.cell? ⟨w.heap.size, 8, none⟩ = some (.slice py y.gone.length cy) := R0.cell 8; have C1 := refWith_any _ y.gone m w0 (h.later hbel) hl ((ca_pair _).1 hc).2; unfold WtPost at C1; obtain ⟨z, HZ⟩ := hid_ex (wth y.gone m); rw [HZ.out] at C1
  go_enter Tryz.func40, Tryz.ntmps40
  go_wp2_with (first | rw [hW] | refine load_r 36 _ rfl rfl _ rfl R1 Tryz.underlying36 rfl size36 ?_)
  clear hW; refine C1.mono ?_; clear C1; rintro e w1 ⟨u, rfl, hu, hb1⟩
  have hz : MHas w1 u z := by
    rcases hu with ⟨rfl, e1⟩ | ho
    · rw [e1]
      exact (h.later hbel).later hb1
    · exact own_sh ho
  obtain ⟨pz, cz, rfl⟩ := hz.slice; replace R0 := R0.later hb1; replace R2 := R2.later hb1; replace hbel := below_on hbel hb1; have c8' : w1.cell? ⟨w.heap.size, 8, none⟩ = some (.slice py y.gone.length cy) := R0.cell 8; have f8 : w1.frozen? ⟨w.heap.size, 8, none⟩ = false := R0.frozen 8; have Ra : Rw (w1.setCell ⟨w.heap.size, 8, none⟩ (.slice pz z.length cz)) w.heap.size 60 #[.int .i64 y.p, .int .i64 y.s, .int .i64 y.i, .int .i64 y.t, .int .i64 y.q, .int .i64 y.u, .int .i64 y.j, .string y.x, .slice pz z.length cz] := R0.set 8 _; have Rb := R2.setOther (q := w.heap.size) (by omega) 8 (.slice pz z.length cz); have hb2 := hbel.setCell (p := ⟨w.heap.size, 8, none⟩) (Nat.le_refl _) (.slice pz z.length cz); have hsz := HSZ.out
  have hz2 : ((.slice pz z.length cz = Value.slice py y.gone.length cy) ∧ z = y.gone) ∨ ((w1.setCell ⟨w.heap.size, 8, none⟩ (.slice pz z.length cz)).setRow (w.heap.size + 1 + 1) #[.int .i64 y.p, .int .i64 y.s, .int .i64 y.i, .int .i64 y.t, .int .i64 y.q, .int .i64 y.u, .int .i64 y.j, .string y.x, .slice pz z.length cz]).ownsRow w.heap.size 36 3 (.slice pz z.length cz) z.length (rows M.cells z) := by
    rcases hu with hu | ho
    · exact Or.inl hu
    · exact Or.inr (own_mono (own_row (own_over ho (fun k hk => by have := (World.ownsRow.lt ho k hk).1; omega) _ _) hsz _) (by omega))
  clear hu hb1 c8 hsz; generalize hX : w1.setCell ⟨w.heap.size, 8, none⟩ (.slice pz z.length cz) = w2 at Ra Rb hb2 hz2
  have HE : Hid (GnPost y (.slice py y.gone.length cy) m w (.returned (EV ({ y with gone := wth y.gone m }, .slice pz z.length cz))) (w2.setRow (w.heap.size + 1 + 1) #[.int .i64 y.p, .int .i64 y.s, .int .i64 y.i, .int .i64 y.t, .int .i64 y.q, .int .i64 y.u, .int .i64 y.j, .string y.x, .slice pz z.length cz])) := by
    show GnPost _ _ _ _ _ _
    rw [HW.out]; refine ⟨_, rfl, ?_, below_setRow hb2 (by omega) _⟩; rw [HZ.out]; exact hz2
  clear hz hz2 hb2 hbel
  go_wp2_with (first | rw [hX] | refine load_r 60 _ rfl rfl _ rfl Ra Tryz.underlying60 rfl size60 ?_ | refine store_r rfl 60 _ _ rfl _ #[.int .i64 y.p, .int .i64 y.s, .int .i64 y.i, .int .i64 y.t, .int .i64 y.q, .int .i64 y.u, .int .i64 y.j, .string y.x, .slice pz z.length cz] rfl rfl Rb size60 rfl (by simp [Value.oneCell']) ?_)
  refine bodyPost_ret (results_r rfl rfl (Rb.row #[.int .i64 y.p, .int .i64 y.s, .int .i64 y.i, .int .i64 y.t, .int .i64 y.q, .int .i64 y.u, .int .i64 y.j, .string y.x, .slice pz z.length cz]) rfl Tryz.underlying60 size60) rfl ?_; exact HE.out
end Go.Proofs.YtfjpbmdmkcihcaaGreat
/- Place of the document's answer. -/
namespace Go.Proofs.YtfjpbmdmkcihcaaGreat
open Go.RowKit

/-- Where one of that mark stands; -1: nowhere. -/
def plI (l : List El) (m : K) : Int := match pl l m with
  | some k => (k : Int)
  | none => -1
theorem km_eq (y : El) (m : M) : decide (kE y = kM m) = (decide (y.p = m.p) && decide (y.s = m.s) && decide (y.i = m.i)) := by
  unfold kE kM
  by_cases h1 : y.p = m.p <;> by_cases h2 : y.s = m.s <;> by_cases h3 : y.i = m.i <;> simp [h1, h2, h3]
theorem pl_first {l : List El} {m : K} {k : Nat} (hk : k < l.length) (h : ∀ i (_ : i < l.length), i < k → kE l[i] ≠ m) (e : kE l[k] = m) : pl l m = some k := by
  unfold pl; rw [List.findIdx?_eq_some_iff_getElem]; exact ⟨hk, by simpa using e, fun j hj => by simpa using h j (by omega) hj⟩
set_option maxHeartbeats 2000000 in
set_option maxRecDepth 100000 in
theorem place_any (v : Value) (l : List El) (m : M) (w : World) (h : EHas w v l) : Calls Tryz.prog 36 #[v, MV m.p m.s m.i] w (Tells (.int .i64 (plI l (kM m))) w) := by
  obtain ⟨z, HZ⟩ := hid_ex (plI l (kM m)); rw [HZ.out]; obtain ⟨ys, hys, h, hy⟩ := h; have hml := maxLen_lt h.1; obtain ⟨p, c, rfl⟩ := h.slice
  have hyl : ys.length = l.length := by rw [← hys, List.length_map]
  have HR : Hid (SHas 9 w (.slice p l.length c) l.length (rows El.cells ys)) := h
  have HL : Hid (∀ k (h1 : k < ys.length) (h2 : k < l.length), ys[k].1 = l[k]) := fun k h1 h2 => by
    subst hys; rw [List.getElem_map]
  clear h hy hys; have R0 := rw_new w 36 #[.int .i64 m.p, .int .i64 m.s, .int .i64 m.i]; have db0 : (w.alloc (.cells #[.int .i64 m.p, .int .i64 m.s, .int .i64 m.i] 36)).rangeAt w.heap.size 0 [Value.int .i64 m.p, .int .i64 m.s, .int .i64 m.i] := Rw.whole R0; have hb0 := bel_alloc (Below.refl w.heap.size w) (.cells #[.int .i64 m.p, .int .i64 m.s, .int .i64 m.i] 36); have zm : (Tryz.prog.info? 36).map (·.size) = some [Value.int .i64 m.p, .int .i64 m.s, .int .i64 m.i].length := size36
  go_enter Tryz.func36, Tryz.ntmps36
  go_wp2_with fail
  go_loopw [5] (fun vi wr => ∃ k : Nat, vi = .int .i64 k ∧ k ≤ l.length ∧ Hid (∀ i (h : i < l.length), i < k → kE l[i] ≠ kM m) ∧ wr.rangeAt w.heap.size 0 [Value.int .i64 m.p, .int .i64 m.s, .int .i64 m.i] ∧ Below w.heap.size w wr) (fun vi _ => l.length - (intOf vi).toNat)
  case atStart => exact ⟨0, rfl, by omega, (show ∀ i (_ : i < l.length), i < 0 → _ from fun i _ h => by omega), db0, hb0⟩
  case round =>
    obtain ⟨k, rfl, hk, HV, db, hbel⟩ := hrel
    by_cases hlt : k < l.length
    · have hlt' : (k : Int) < (l.length : Int) := by omega
      obtain ⟨g, o, rfl, hd0⟩ := HR.out.at (by omega); have d0 : wr.rangeAt g (o + k * 9) (El.cells (ys[k]'(by omega))) := range_sub (range_later hd0 hbel) (k * 9) fun j u hu => rows_at El.len ys k (by omega) j u hu; obtain ⟨yy, HX⟩ := hid_ex (ys[k]'(by omega))
      have HX2 : Hid (l[k] = yy.1) := by
        show _ = _
        rw [← HL.out k (by omega) hlt, HX.out]
      rw [HX.out] at d0; obtain ⟨y, yv⟩ := yy; replace HX2 : Hid (l[k] = y) := HX2
      have d : wr.rangeAt g (o + k * 9) [Value.int .i64 y.p, .int .i64 y.s, .int .i64 y.i] := range_sub (o := o + k * 9) (xs := El.cells (y, yv)) d0 0 (fun j a ha => by
        rw [Nat.zero_add]
        match j, ha with
        | 0, h => exact h
        | 1, h => exact h
        | 2, h => exact h
        | j + 3, h => simp at h)
      have zu : (Tryz.prog.info? 36).map (·.size) = some [Value.int .i64 y.p, .int .i64 y.s, .int .i64 y.i].length := size36; clear hd0 HR HX d0
      have E := fun w => eq_mark w y.p y.s y.i m.p m.s m.i
      obtain ⟨t, HT⟩ := hid_ex (decide (kE y = kM m)); rw [show (decide (y.p = m.p) && decide (y.s = m.s) && decide (y.i = m.i)) = t from (km_eq _ _).symm.trans HT.out] at E
      cases t
      · have HV2 : Hid (∀ i (h : i < l.length), i < k + 1 → kE l[i] ≠ kM m) := fun i h hi => by
          rcases Nat.lt_or_ge i k with h' | h'
          · exact HV.out i h h'
          · obtain rfl : i = k := by omega
            rw [HX2.out]
            simpa using HT.out
        clear HV HX2 HT HZ; go_wp2_with fail
        have hs : Calm.Stays (fun w' => w'.rangeAt g (o + k * 9) [Value.int .i64 y.p, .int .i64 y.s, .int .i64 y.i] ∧ w'.rangeAt w.heap.size 0 [Value.int .i64 m.p, .int .i64 m.s, .int .i64 m.i] ∧ Below w.heap.size w w') := fun wa wb h hb => ⟨range_later h.1 hb, range_later h.2.1 hb, below_on h.2.2 hb⟩
        refine Calm.region (by kernel_rfl) (by kernel_rfl) (fun w' => w'.rangeAt g (o + k * 9) [Value.int .i64 y.p, .int .i64 y.s, .int .i64 y.i] ∧ w'.rangeAt w.heap.size 0 [Value.int .i64 m.p, .int .i64 m.s, .int .i64 m.i] ∧ Below w.heap.size w w') ⟨d, db, hbel.drew⟩ ?_
        iterate 4
          all_goals
            refine Calm.pure (v := ?_) (by rfl) ?_ ?_; rotate_left; focus (intro w hSw; go_simp <;> rfl)
            simp only [put4]
        iterate 2
          all_goals
            first | (refine Calm.loadM 36 Tryz.underlying36 rfl zu (by rfl) _ rfl rfl (fun _ h => h.1) ?_) | (refine Calm.loadM 36 Tryz.underlying36 rfl zm (by rfl) _ rfl rfl (fun _ h => h.2.1) ?_)
            simp only [put4]
        all_goals
          refine Calm.pure (v := ?_) (by rfl) ?_ ?_; rotate_left; focus (intro w hSw; go_simp <;> rfl)
          simp only [put4]
        all_goals
          rintro w9 ⟨_, db9, hbel9⟩
        go_wp2_with fail; go_roundw
        case rel => exact ⟨k + 1, by simp, by omega, HV2, db9, hbel9⟩
        case measure => simp [intOf]; omega
      · have e := HZ.out
        unfold plI at e; rw [pl_first hlt HV.out (by rw [HX2.out]; simpa using HT.out)] at e; replace e : (k : Int) = z := e; subst e; clear HV HX2 HT HZ; go_wp2_with fail
        have hs : Calm.Stays (fun w' => w'.rangeAt g (o + k * 9) [Value.int .i64 y.p, .int .i64 y.s, .int .i64 y.i] ∧ w'.rangeAt w.heap.size 0 [Value.int .i64 m.p, .int .i64 m.s, .int .i64 m.i] ∧ Below w.heap.size w w') := fun wa wb h hb => ⟨range_later h.1 hb, range_later h.2.1 hb, below_on h.2.2 hb⟩
        refine Calm.region (by kernel_rfl) (by kernel_rfl) (fun w' => w'.rangeAt g (o + k * 9) [Value.int .i64 y.p, .int .i64 y.s, .int .i64 y.i] ∧ w'.rangeAt w.heap.size 0 [Value.int .i64 m.p, .int .i64 m.s, .int .i64 m.i] ∧ Below w.heap.size w w') ⟨d, db, hbel.drew⟩ ?_
        iterate 4
          all_goals
            refine Calm.pure (v := ?_) (by rfl) ?_ ?_; rotate_left; focus (intro w hSw; go_simp <;> rfl)
            simp only [put4]
        iterate 2
          all_goals
            first | (refine Calm.loadM 36 Tryz.underlying36 rfl zu (by rfl) _ rfl rfl (fun _ h => h.1) ?_) | (refine Calm.loadM 36 Tryz.underlying36 rfl zm (by rfl) _ rfl rfl (fun _ h => h.2.1) ?_)
            simp only [put4]
        all_goals
          refine Calm.pure (v := ?_) (by rfl) ?_ ?_; rotate_left; focus (intro w hSw; go_simp <;> rfl)
          simp only [put4]
        all_goals
          rintro w9 ⟨_, _, hbel9⟩
        go_wp2_with fail; go_ret; exact ⟨rfl, hbel9⟩
    · have hlt' : ¬ (k : Int) < (l.length : Int) := by omega
      have e := HZ.out; unfold plI at e
      rw [pl_none.2 (fun x hx => by
        obtain ⟨i, hi, rfl⟩ := List.getElem_of_mem hx
        exact HV.out i hi (by omega))] at e
      replace e : (-1 : Int) = z := e; subst e; clear HZ HV HR HL; go_wp2_with fail; go_ret; exact ⟨rfl, hbel⟩
end Go.Proofs.YtfjpbmdmkcihcaaGreat
/- ends of the document's answer. -/
namespace Go.Proofs.YtfjpbmdmkcihcaaGreat
open Go.RowKit

/-- Does one come to the zero Ref from place i, by so many steps? -/
def en (l : List El) : Nat → Nat → Bool
  | 0, _ => false
  | f + 1, i => match l[i]? with
    | none => false
    | some e => decide (rE e = zK) || (match pl l (rE e) with
      | none => false
      | some j => en l f j)
theorem en_succ {l : List El} {f i : Nat} (hi : i < l.length) : en l (f + 1) i = (decide (rE l[i] = zK) || (match pl l (rE l[i]) with
      | none => false
      | some j => en l f j)) := by
  rw [en, List.getElem?_eq_getElem hi]
theorem en_rt {l : List El} : ∀ (f i : Nat), i < l.length → en l f i = true → rt (upL l) (i + 1)
  | 0, _, _, h => by simp [en] at h
  | f + 1, i, hi, h => by
    rw [en_succ hi] at h; refine rt_up ?_; rw [upL_succ hi]
    by_cases hz : rE l[i] = zK
    · rw [if_pos hz]
      exact rt_zero
    · rw [if_neg hz]
      rw [decide_eq_false hz, Bool.false_or] at h
      cases e : pl l (rE l[i]) with
      | none => exact rt_zero
      | some j =>
        rw [e] at h; exact en_rt f j (pl_some e).1 h
theorem en_of {l : List El} (hok : okR l = true) : ∀ (j f i : Nat), i < l.length → j ≤ f → it (upL l) j (i + 1) = 0 → en l f i = true
  | 0, _, i, _, _, h => by simp [it] at h
  | j + 1, 0, _, _, h, _ => by omega
  | j + 1, f + 1, i, hi, hj, h => by
    rw [en_succ hi]
    by_cases hz : rE l[i] = zK
    · simp [hz]
    · rcases okR_iff.1 hok _ (List.getElem_mem hi) with h' | ⟨a, e⟩
      · exact absurd h' hz
      · rw [decide_eq_false hz, e, Bool.false_or]
        refine en_of hok j f a (pl_some e).1 (by omega) ?_; rw [it, upL_succ hi, if_neg hz, e] at h; exact h
theorem en_cr (l : List El) : cr l = true ↔ ∀ i, i < l.length → en l (l.length + 1) i = true := by
  constructor
  · intro h i hi
    obtain ⟨h1, h2⟩ := Bool.and_eq_true_iff.1 h; obtain ⟨j, hj, e⟩ := rt_soon (f := upL l) (fun k _ => upL_le l k) (show i + 1 ≤ l.length by omega) (noR_iff.1 h2 _ (by omega)); exact en_of h1 j _ i hi (by omega) e
  · intro h
    refine Bool.and_eq_true_iff.2 ⟨?_, ?_⟩
    · rw [okR_iff]
      intro e he; obtain ⟨i, hi, rfl⟩ := List.getElem_of_mem he
      have := h i hi
      rw [en_succ hi] at this
      by_cases hz : rE l[i] = zK
      · exact Or.inl hz
      · refine Or.inr ?_
        cases e : pl l (rE l[i]) with
        | none =>
          rw [decide_eq_false hz, e] at this
          cases this
        | some j => exact ⟨j, rfl⟩
    · rw [noR_iff]
      intro k hk
      cases k with
      | zero => exact rt_zero
      | succ k => exact en_rt _ k (by omega) (h k (by omega))
set_option maxHeartbeats 2000000 in
set_option maxRecDepth 100000 in
theorem ends_any (v : Value) (l : List El) (i0 : Nat) (w : World) (h : EHas w v l) (hl : l.length ≤ 100) (hi0 : i0 < l.length) : Calls Tryz.prog 29 #[v, .int .i64 i0] w (Tells (.bool (en l (l.length + 1) i0)) w) := by
  obtain ⟨z, HZ⟩ := hid_ex (en l (l.length + 1) i0); rw [HZ.out]; have HE : Hid (EHas w v l) := h; obtain ⟨ys, hys, h, hy⟩ := h; have hml := maxLen_lt h.1; obtain ⟨p, c, rfl⟩ := h.slice
  have hyl : ys.length = l.length := by rw [← hys, List.length_map]
  have HR : Hid (SHas 9 w (.slice p l.length c) l.length (rows El.cells ys)) := h
  have HL : Hid (∀ k (h1 : k < ys.length) (h2 : k < l.length), ys[k].1 = l[k]) := fun k h1 h2 => by
    subst hys; rw [List.getElem_map]
  clear h hy hys; have R0 := rw_new w 36 #[.int .i64 0, .int .i64 0, .int .i64 0]; have db0 : (w.alloc (.cells #[.int .i64 0, .int .i64 0, .int .i64 0] 36)).rangeAt w.heap.size 0 [Value.int .i64 0, .int .i64 0, .int .i64 0] := Rw.whole R0; have hb0 := bel_alloc (Below.refl w.heap.size w) (.cells #[.int .i64 0, .int .i64 0, .int .i64 0] 36); have zm : (Tryz.prog.info? 36).map (·.size) = some [Value.int .i64 0, .int .i64 0, .int .i64 0].length := size36
  go_enter Tryz.func29, Tryz.ntmps29
  go_wp2_with fail
  go_loopw [1, 6] (fun v1 vi wr => ∃ i k : Nat, v1 = .int .i64 i ∧ vi = .int .i64 k ∧ i < l.length ∧ k ≤ l.length + 1 ∧ Hid (en l (l.length + 1 - k) i = z) ∧ wr.rangeAt w.heap.size 0 [Value.int .i64 0, .int .i64 0, .int .i64 0] ∧ Below w.heap.size w wr) (fun _ vi _ => l.length + 1 - (intOf vi).toNat)
  case atStart => exact ⟨i0, 0, rfl, rfl, hi0, by omega, HZ, db0, hb0⟩
  case round =>
    clear HZ hi0 i0 db0 hb0 R0; obtain ⟨i, k, rfl, rfl, hi, hk, HZ, db, hbel⟩ := hrel
    by_cases hlt : k ≤ l.length
    · have hlt' : (k : Int) ≤ (l.length : Int) := by omega
      have hi' : (i : Int) < (l.length : Int) := by omega
      have hi2 : (0 : Int) ≤ (i : Int) := by omega
      obtain ⟨g, o, rfl, hd0⟩ := HR.out.at (by omega); have d0 : wr.rangeAt g (o + i * 9) (El.cells (ys[i]'(by omega))) := range_sub (range_later hd0 hbel) (i * 9) fun j u hu => rows_at El.len ys i (by omega) j u hu; obtain ⟨yy, HX⟩ := hid_ex (ys[i]'(by omega))
      have HX2 : Hid (l[i] = yy.1) := by
        show _ = _
        rw [← HL.out i (by omega) hi, HX.out]
      rw [HX.out] at d0; obtain ⟨y, yv⟩ := yy; replace HX2 : Hid (l[i] = y) := HX2
      have d : wr.rangeAt g (o + i * 9 + 4) [Value.int .i64 y.q, .int .i64 y.u, .int .i64 y.j] := range_sub (o := o + i * 9) (xs := El.cells (y, yv)) d0 4 (fun j a ha => by
        match j, ha with
        | 0, h => exact h
        | 1, h => exact h
        | 2, h => exact h
        | j + 3, h => simp at h)
      have zu : (Tryz.prog.info? 36).map (·.size) = some [Value.int .i64 y.q, .int .i64 y.u, .int .i64 y.j].length := size36; clear hd0 HX d0 HR HL
      have E := fun w => eq_mark w y.q y.u y.j 0 0 0
      obtain ⟨t, HT⟩ := hid_ex (decide (rE y = zK)); rw [show (decide (y.q = 0) && decide (y.u = 0) && decide (y.j = 0)) = t from (kz_eq _ _ _).symm.trans HT.out] at E; obtain ⟨f, hf⟩ : ∃ f, l.length + 1 - k = f + 1 := ⟨l.length - k, by omega⟩
      have hf2 : l.length + 1 - (k + 1) = f := by omega
      have HZ2 : Hid ((t || (match pl l (rE y) with
        | none => false
        | some j => en l f j)) = z) := by
        show _ = _
        rw [← HZ.out, hf, en_succ hi, HX2.out, HT.out]
      clear HZ
      cases t
      · have HK : Hid (rE y ≠ zK) := by
          show _ ≠ _
          simpa using HT.out
        have C1 : ∀ wa, Below w.heap.size w wa → Calls Tryz.prog 36 #[.slice (some ⟨g, o, none⟩) l.length c, MV y.q y.u y.j] wa (Tells (.int .i64 (plI l (rE y))) wa) := fun wa hb => place_any _ l (rM y) wa (HE.out.later hb)
        clear HX2 HT; go_wp2_with fail
        have hs : Calm.Stays (fun w' => w'.rangeAt g (o + i * 9 + 4) [Value.int .i64 y.q, .int .i64 y.u, .int .i64 y.j] ∧ w'.rangeAt w.heap.size 0 [Value.int .i64 0, .int .i64 0, .int .i64 0] ∧ Below w.heap.size w w') := fun wa wb h hb => ⟨range_later h.1 hb, range_later h.2.1 hb, below_on h.2.2 hb⟩
        refine Calm.region (by kernel_rfl) (by kernel_rfl) (fun w' => w'.rangeAt g (o + i * 9 + 4) [Value.int .i64 y.q, .int .i64 y.u, .int .i64 y.j] ∧ w'.rangeAt w.heap.size 0 [Value.int .i64 0, .int .i64 0, .int .i64 0] ∧ Below w.heap.size w w') ⟨d, db, hbel.drew⟩ ?_
        iterate 4
          all_goals
            refine Calm.pure (v := ?_) (by rfl) ?_ ?_; rotate_left; focus (intro w hSw; go_simp <;> rfl)
            simp only [put4]
        iterate 2
          all_goals
            first | (refine Calm.loadM 36 Tryz.underlying36 rfl zu (by rfl) _ rfl rfl (fun _ h => h.1) ?_) | (refine Calm.loadM 36 Tryz.underlying36 rfl zm (by rfl) _ rfl rfl (fun _ h => h.2.1) ?_)
            simp only [put4]
        all_goals
          refine Calm.pure (v := ?_) (by rfl) ?_ ?_; rotate_left; focus (intro w hSw; go_simp <;> rfl)
          simp only [put4]
        all_goals
          rintro w9 ⟨d9, db9, hbel9⟩
        go_wp2_with (refine load_m 36 _ rfl rfl _ _ rfl d9 Tryz.underlying36 rfl zu ?_)
        refine (C1 _ hbel9).mono ?_; rintro e w2 ⟨rfl, hb2⟩; replace hbel9 := below_on hbel9 hb2; replace db9 := range_later db9 hb2
        cases e : pl l (rE y) with
        | none =>
          have e2 := HZ2.out; rw [e] at e2; replace e2 : false = z := e2; subst e2; rw [show plI l (rE y) = -1 by unfold plI; rw [e]]; clear HZ2 e HK C1; go_wp2_with fail; go_ret; exact ⟨rfl, hbel9⟩
        | some j =>
          have e2 := HZ2.out; rw [e] at e2; replace e2 : en l f j = z := e2; have hj := (pl_some e).1
          have HZ3 : Hid (en l (l.length + 1 - (k + 1)) j = z) := by
            show _ = _
            rw [hf2, e2]
          rw [show plI l (rE y) = (j : Int) by unfold plI; rw [e]]
          have hj0 : ¬ (j : Int) < 0 := by omega
          have wk : IntKind.i64.wrap ((k : Int) + 1) = (k : Int) + 1 := by rw [IntKind.wrap_i64]; omega
          clear HZ2 e HK C1 e2 hf hf2; go_wp2_with fail; go_roundw
          case rel => exact ⟨j, k + 1, rfl, by simp, hj, by omega, HZ3, db9, hbel9⟩
          case measure => simp [intOf]; omega
      · have e := HZ2.out
        rw [Bool.true_or] at e; subst e; clear HZ2 HX2 HT HE; go_wp2_with fail
        have hs : Calm.Stays (fun w' => w'.rangeAt g (o + i * 9 + 4) [Value.int .i64 y.q, .int .i64 y.u, .int .i64 y.j] ∧ w'.rangeAt w.heap.size 0 [Value.int .i64 0, .int .i64 0, .int .i64 0] ∧ Below w.heap.size w w') := fun wa wb h hb => ⟨range_later h.1 hb, range_later h.2.1 hb, below_on h.2.2 hb⟩
        refine Calm.region (by kernel_rfl) (by kernel_rfl) (fun w' => w'.rangeAt g (o + i * 9 + 4) [Value.int .i64 y.q, .int .i64 y.u, .int .i64 y.j] ∧ w'.rangeAt w.heap.size 0 [Value.int .i64 0, .int .i64 0, .int .i64 0] ∧ Below w.heap.size w w') ⟨d, db, hbel.drew⟩ ?_
        iterate 4
          all_goals
            refine Calm.pure (v := ?_) (by rfl) ?_ ?_; rotate_left; focus (intro w hSw; go_simp <;> rfl)
            simp only [put4]
        iterate 2
          all_goals
            first | (refine Calm.loadM 36 Tryz.underlying36 rfl zu (by rfl) _ rfl rfl (fun _ h => h.1) ?_) | (refine Calm.loadM 36 Tryz.underlying36 rfl zm (by rfl) _ rfl rfl (fun _ h => h.2.1) ?_)
            simp only [put4]
        all_goals
          refine Calm.pure (v := ?_) (by rfl) ?_ ?_; rotate_left; focus (intro w hSw; go_simp <;> rfl)
          simp only [put4]
        all_goals
          rintro w9 ⟨_, _, hbel9⟩
        go_wp2_with fail; go_ret; exact ⟨rfl, hbel9⟩
    · have hlt' : ¬ (k : Int) ≤ (l.length : Int) := by omega
      have e := HZ.out; rw [show l.length + 1 - k = 0 by omega] at e; replace e : false = z := e; subst e; clear HZ HR HL HE; go_wp2_with fail; go_ret; exact ⟨rfl, hbel⟩
end Go.Proofs.YtfjpbmdmkcihcaaGreat
