import Derived.Test.YtfjpbmdmkcihcaaGreatP2
import Derived.Test.YtfjpbmdmkcihcaaGreatP3
import Derived.Test.YtfjpbmdmkcihcaaGreatP7
import Derived.Test.YtfjpbmdmkcihcaaGreatP4
import Derived.Test.YtfjpbmdmkcihcaaGreatP5
import Derived.Laws.AppendOwnNone
import Derived.Laws.IdiomCopy
/- Small of the document's answer. -/
namespace Go.Proofs.YtfjpbmdmkcihcaaGreat
open Go.RowKit

/-- What Small tells. -/
def SmPost (n : Nat) (w : World) (e : Ending) (w' : World) : Prop := ∃ b, e = .returned (.bool b) ∧ (b = true → n ≤ 40) ∧ Below w.heap.size w w'
theorem O.str (o : O) : o.cells[1]? = some (.string o.key) ∧ o.cells[2]? = some (.string o.field) ∧ o.cells[6]? = some (.string o.text) := ⟨rfl, rfl, rfl⟩
set_option maxHeartbeats 2000000 in
set_option maxRecDepth 100000 in
theorem small_any (p s : Int) (v : List Int) (t : Int) (sl : Value) (l : List O) (w : World) (hv : v.length = 13) (ho : OHas w sl l) : Calls Tryz.prog 5 #[TxV p s v t sl] w (SmPost l.length w) := by
  obtain ⟨q, c, rfl, hm, hr⟩ := ho; have hml := maxLen_lt hm; have HR : Hid (0 < l.length → ∃ g o, q = some ⟨g, o, none⟩ ∧ ∀ i (h : i < l.length), w.rangeAt g (o + i * 10) l[i].cells) := hr; clear hr; have R0 := rw_new w 34 (txc p s v t (.slice q l.length c)).toArray; have hbel : Below w.heap.size w (w.alloc (.cells (txc p s v t (.slice q l.length c)).toArray 34)) := bel_alloc (Below.refl _ _) _; generalize hW : w.alloc (.cells (txc p s v t (.slice q l.length c)).toArray 34) = w0 at R0 hbel
  go_enter Tryz.func5, Tryz.ntmps5
  go_wp2_with (rw [hW])
  clear hW
  go_loopw [3] (fun vi wr => ∃ k : Nat, vi = .int .i64 k ∧ k ≤ l.length ∧ (l.length ≤ 40 ∨ k = 0) ∧ Rw wr w.heap.size 34 (txc p s v t (.slice q l.length c)).toArray ∧ Below w.heap.size w wr) (fun vi _ => l.length - (intOf vi).toNat)
  case atStart => exact ⟨0, rfl, by omega, .inr rfl, R0, hbel⟩
  case round =>
    clear R0 hbel; obtain ⟨k, rfl, hk, hor, R, hbel⟩ := hrel; have c16 := tx_ops R hv
    by_cases hle : l.length ≤ 40
    · have hle' : (l.length : Int) ≤ 40 := by omega
      by_cases hlt : k < l.length
      · have hlt' : (k : Int) < (l.length : Int) := by omega
        obtain ⟨g, o, rfl, hd⟩ := HR.out (by omega); have d := range_later (hd k hlt) hbel; clear HR hd
        have hk40 : k < 40 := by omega
        generalize l[k] = x at d; have z35 : (Tryz.prog.info? 62).map (·.size) = some x.cells.length := size62; have hb2 : Below w.heap.size w (wr.alloc (.cells x.cells.toArray 62)) := bel_alloc hbel _; have R2 := R.alloc (.cells x.cells.toArray 62)
        go_wp2_with (refine load_m 62 _ rfl rfl _ _ rfl d Tryz.underlying62 rfl z35 ?_)
        all_goals first
          | (go_ret; exact ⟨_, rfl, fun _ => hle, hb2⟩)
          | (go_roundw
             case rel => exact ⟨k + 1, by simp, by omega, .inl hle, R2, hb2⟩
             case measure => simp [intOf]; omega)
      · have hlt' : ¬ (k : Int) < (l.length : Int) := by omega
        clear HR; go_wp2_with fail; go_ret; exact ⟨_, rfl, fun _ => hle, hbel⟩
    · obtain rfl : k = 0 := by omega
      have hle' : ¬ (l.length : Int) ≤ 40 := by omega
      have h0 : 0 < (l.length : Int) := by omega
      clear HR; go_wp2_with fail; go_ret; exact ⟨_, rfl, fun h => by simp at h, hbel⟩
end Go.Proofs.YtfjpbmdmkcihcaaGreat
/- Rising of the document's answer. -/
namespace Go.Proofs.YtfjpbmdmkcihcaaGreat
open Go.RowKit

set_option maxHeartbeats 2000000 in
set_option maxRecDepth 100000 in
theorem refRising_any (v : Value) (l : List M) (w : World) (h : MHas w v l) : Calls Tryz.prog 27 #[v] w (Tells (.bool (ca l)) w) := by
  obtain ⟨z, HZ⟩ := hid_ex (ca l); rw [HZ.out]; have hml := maxLen_lt h.1; obtain ⟨p, c, rfl⟩ := h.slice; have HR : Hid (MHas w (.slice p l.length c) l) := h; clear h
  go_enter Tryz.func27, Tryz.ntmps27
  go_wp2
  go_loopw [3] (fun vi wr => ∃ k : Nat, vi = .int .i64 k ∧ k ≤ l.length ∧ Hid (∀ i (h : i < l.length), i < k → okk l i h = true) ∧ Below w.heap.size w wr) (fun vi _ => l.length - (intOf vi).toNat)
  case atStart => exact ⟨0, rfl, by omega, (show ∀ i (_ : i < l.length), i < 0 → _ from fun i _ h => by omega), Below.refl _ _⟩
  case round =>
    obtain ⟨k, rfl, hk, HV, hbel⟩ := hrel
    by_cases hlt : k < l.length
    · have hlt' : (k : Int) < (l.length : Int) := by omega
      have hk0 : (0 : Int) ≤ (k : Int) := by omega
      obtain ⟨g, o, rfl, hd0⟩ := HR.out.at (by omega); have hd := range_later hd0 hbel; clear hd0 HR; have d := M.elem hd k hlt; obtain ⟨x, HX⟩ := hid_ex l[k]; rw [HX.out] at d; have zm : (Tryz.prog.info? 36).map (·.size) = some x.cells.length := size36
      have hxi : (decide (x.i < 1)) = !im x.i := by unfold im; by_cases h : x.i < 1 <;> simp [h] <;> omega
      obtain ⟨y1, HY1⟩ := hid_ex (im x.i); rw [HY1.out] at hxi
      cases y1
      · have HF := ca_not HZ hlt (show okk l k hlt = false by unfold okk; rw [HX.out, HY1.out]; rfl)
        have e := HF.out; subst e
        have hxd : decide (x.i < 1) = true := by simpa using hxi
        clear HZ HF HV hxi; go_wp2_with fail; clear hd
        have hs : Calm.Stays (fun w' => w'.rangeAt g (o + k * 3) x.cells ∧ Below w.heap.size w w') := fun wa wb h hb => ⟨range_later h.1 hb, below_on h.2 hb⟩
        refine Calm.region (by kernel_rfl) (by kernel_rfl) (fun w' => w'.rangeAt g (o + k * 3) x.cells ∧ Below w.heap.size w w') ⟨d, hbel.drew⟩ ?_
        iterate 4
          all_goals
            refine Calm.pure (v := ?_) (by rfl) ?_ ?_; rotate_left; focus (intro w hSw; go_simp <;> rfl)
            simp only [put4]
        all_goals
          refine Calm.pure (v := .int .i64 x.i) (by rfl) ?_ ?_; focus (intro w hSw; have g1 : w.cell? ⟨g, o + k * 3 + 2, none⟩ = some (.int .i64 x.i) := hSw.1 2 _ rfl; go_simp)
          simp only [put4]
        iterate 2
          all_goals
            refine Calm.pure (v := ?_) (by rfl) ?_ ?_; rotate_left; focus (intro w hSw; go_simp <;> rfl)
            simp only [put4]
        iterate 7
          all_goals
            first
              | (refine Calm.skip ?_ ?_; focus rfl)
              | (refine Calm.pure (v := ?_) (by rfl) ?_ ?_
                 rotate_left
                 focus (intro w hSw; go_simp <;> rfl))
            simp only [put4]
        all_goals
          first
            | (refine Calm.skip ?_ ?_; focus rfl)
            | (refine Calm.loadM 36 Tryz.underlying36 rfl zm (by rfl) _ rfl rfl (fun _ h => h.1) ?_)
          simp only [put4]
        iterate 3
          all_goals
            first
              | (refine Calm.skip ?_ ?_; focus rfl)
              | (refine Calm.pure (v := ?_) (by rfl) ?_ ?_
                 rotate_left
                 focus (intro w hSw; go_simp <;> rfl))
            simp only [put4]
        all_goals
          first
            | (refine Calm.skip ?_ ?_; focus rfl)
            | (refine Calm.loadM 36 Tryz.underlying36 rfl zm (by rfl) _ rfl rfl (fun _ h => h.1) ?_)
          simp only [put4]
        all_goals
          first
            | (refine Calm.skip ?_ ?_; focus rfl)
            | (refine Calm.call2s (by rfl) rfl rfl rfl (by kernel_rfl) hs (fun w1 h => refLess_any 0 0 0 0 0 0 w1) ?_)
          simp only [put4]
        iterate 2
          all_goals
            first
              | (refine Calm.skip ?_ ?_; focus rfl)
              | (refine Calm.pure (v := ?_) (by rfl) ?_ ?_
                 rotate_left
                 focus (intro w hSw; go_simp <;> rfl))
            simp only [put4]
        all_goals
          refine Calm.pure (v := ?_) (by rfl) ?_ ?_; rotate_left; focus (intro w hSw; go_simp <;> rfl)
          simp only [put4]
        all_goals
          rintro w9 ⟨_, hbel9⟩
        go_wp2_with fail; go_ret; exact ⟨rfl, hbel9⟩
      · have hxd : decide (x.i < 1) = false := by simpa using hxi
        clear hxi
        rcases Nat.eq_zero_or_pos k with rfl | hpos
        · have HV2 : Hid (∀ i (h : i < l.length), i < 0 + 1 → okk l i h = true) := fun i h hi => by
            obtain rfl : i = 0 := by omega
            unfold okk; rw [HX.out, HY1.out]
            rfl
          go_wp2_with fail; clear hd HV
          have hs : Calm.Stays (fun w' => w'.rangeAt g (o + 0 * 3) x.cells ∧ Below w.heap.size w w') := fun wa wb h hb => ⟨range_later h.1 hb, below_on h.2 hb⟩
          refine Calm.region (by kernel_rfl) (by kernel_rfl) (fun w' => w'.rangeAt g (o + 0 * 3) x.cells ∧ Below w.heap.size w w') ⟨d, hbel.drew⟩ ?_
          iterate 4
            all_goals
              refine Calm.pure (v := ?_) (by rfl) ?_ ?_; rotate_left; focus (intro w hSw; go_simp <;> rfl)
              simp only [put4]
          all_goals
            refine Calm.pure (v := .int .i64 x.i) (by rfl) ?_ ?_; focus (intro w hSw; have g1 : w.cell? ⟨g, o + 0 * 3 + 2, none⟩ = some (.int .i64 x.i) := hSw.1 2 _ rfl; go_simp)
            simp only [put4]
          iterate 2
            all_goals
              refine Calm.pure (v := ?_) (by rfl) ?_ ?_; rotate_left; focus (intro w hSw; go_simp <;> rfl)
              simp only [put4]
          iterate 7
            all_goals
              first
                | (refine Calm.skip ?_ ?_; focus rfl)
                | (refine Calm.pure (v := ?_) (by rfl) ?_ ?_
                   rotate_left
                   focus (intro w hSw; go_simp <;> rfl))
              simp only [put4]
          all_goals
            first
              | (refine Calm.skip ?_ ?_; focus rfl)
              | (refine Calm.loadM 36 Tryz.underlying36 rfl zm (by rfl) _ rfl rfl (fun _ h => h.1) ?_)
            simp only [put4]
          iterate 3
            all_goals
              first
                | (refine Calm.skip ?_ ?_; focus rfl)
                | (refine Calm.pure (v := ?_) (by rfl) ?_ ?_
                   rotate_left
                   focus (intro w hSw; go_simp <;> rfl))
              simp only [put4]
          all_goals
            first
              | (refine Calm.skip ?_ ?_; focus rfl)
              | (refine Calm.loadM 36 Tryz.underlying36 rfl zm (by rfl) _ rfl rfl (fun _ h => h.1) ?_)
            simp only [put4]
          all_goals
            first
              | (refine Calm.skip ?_ ?_; focus rfl)
              | (refine Calm.call2s (by rfl) rfl rfl rfl (by kernel_rfl) hs (fun w1 h => refLess_any 0 0 0 0 0 0 w1) ?_)
            simp only [put4]
          iterate 2
            all_goals
              first
                | (refine Calm.skip ?_ ?_; focus rfl)
                | (refine Calm.pure (v := ?_) (by rfl) ?_ ?_
                   rotate_left
                   focus (intro w hSw; go_simp <;> rfl))
              simp only [put4]
          all_goals
            refine Calm.pure (v := ?_) (by rfl) ?_ ?_; rotate_left; focus (intro w hSw; go_simp <;> rfl)
            simp only [put4]
          all_goals
            rintro w9 ⟨_, hbel9⟩
          go_wp2_with fail; go_roundw
          case rel => exact ⟨0 + 1, by simp, by omega, HV2, hbel9⟩
          case measure => simp [intOf]; omega
        · obtain ⟨m, rfl⟩ : ∃ m, k = m + 1 := ⟨k - 1, by omega⟩
          have d2 := M.elem hd m (by omega); obtain ⟨y, HY⟩ := hid_ex (l[m]'(by omega)); rw [HY.out] at d2; have zy : (Tryz.prog.info? 36).map (·.size) = some y.cells.length := size36
          have C2 : ∀ w, Calls Tryz.prog 28 #[MV y.p y.s y.i, MV x.p x.s x.i] w (Tells (.bool (lt y x)) w) := fun w => refLess_any y.p y.s y.i x.p x.s x.i w
          have hO : okk l (m + 1) hlt = lt y x := by
            unfold okk; simp only [Nat.add_sub_cancel]; rw [HX.out, HY1.out, HY.out]
            simp
          have HO : Hid (okk l (m + 1) hlt = lt y x) := hO; clear hO; obtain ⟨y2, HY2⟩ := hid_ex (lt y x); rw [HY2.out] at C2 HO
          have hw1 : IntKind.i64.wrap (m : Int) = (m : Int) := by rw [IntKind.wrap_i64]; omega
          have hml2 : (m : Int) < (l.length : Int) := by omega
          go_wp2_with fail; clear hd
          cases y2
          · have HF := ca_not HZ hlt HO.out
            have e := HF.out; subst e; clear HZ HF HV
            have hs : Calm.Stays (fun w' => w'.rangeAt g (o + (m + 1) * 3) x.cells ∧ w'.rangeAt g (o + m * 3) y.cells ∧ Below w.heap.size w w') := fun wa wb h hb => ⟨range_later h.1 hb, range_later h.2.1 hb, below_on h.2.2 hb⟩
            refine Calm.region (by kernel_rfl) (by kernel_rfl) (fun w' => w'.rangeAt g (o + (m + 1) * 3) x.cells ∧ w'.rangeAt g (o + m * 3) y.cells ∧ Below w.heap.size w w') ⟨d, d2, hbel.drew⟩ ?_
            iterate 4
              all_goals
                refine Calm.pure (v := ?_) (by rfl) ?_ ?_; rotate_left; focus (intro w hSw; go_simp <;> rfl)
                simp only [put4]
            all_goals
              refine Calm.pure (v := .int .i64 x.i) (by rfl) ?_ ?_; focus (intro w hSw; have g1 : w.cell? ⟨g, o + (m + 1) * 3 + 2, none⟩ = some (.int .i64 x.i) := hSw.1 2 _ rfl; go_simp)
              simp only [put4]
            iterate 2
              all_goals
                refine Calm.pure (v := ?_) (by rfl) ?_ ?_; rotate_left; focus (intro w hSw; go_simp <;> rfl)
                simp only [put4]
            iterate 7
              all_goals
                first
                  | (refine Calm.skip ?_ ?_; focus rfl)
                  | (refine Calm.pure (v := ?_) (by rfl) ?_ ?_
                     rotate_left
                     focus (intro w hSw; go_simp <;> rfl))
                simp only [put4]
            all_goals
              first
                | (refine Calm.skip ?_ ?_; focus rfl)
                | (first | (refine Calm.loadM 36 Tryz.underlying36 rfl zy (by rfl) _ rfl rfl (fun _ h => h.2.1) ?_) | (refine Calm.loadM 36 Tryz.underlying36 rfl zm (by rfl) _ rfl rfl (fun _ h => h.1) ?_))
              simp only [put4]
            iterate 3
              all_goals
                first
                  | (refine Calm.skip ?_ ?_; focus rfl)
                  | (refine Calm.pure (v := ?_) (by rfl) ?_ ?_
                     rotate_left
                     focus (intro w hSw; go_simp <;> rfl))
                simp only [put4]
            all_goals
              first
                | (refine Calm.skip ?_ ?_; focus rfl)
                | (first | (refine Calm.loadM 36 Tryz.underlying36 rfl zy (by rfl) _ rfl rfl (fun _ h => h.2.1) ?_) | (refine Calm.loadM 36 Tryz.underlying36 rfl zm (by rfl) _ rfl rfl (fun _ h => h.1) ?_))
              simp only [put4]
            all_goals
              first
                | (refine Calm.skip ?_ ?_; focus rfl)
                | (refine Calm.call2s (by rfl) rfl rfl rfl (by kernel_rfl) hs (fun w1 h => C2 w1) ?_)
              simp only [put4]
            iterate 2
              all_goals
                first
                  | (refine Calm.skip ?_ ?_; focus rfl)
                  | (refine Calm.pure (v := ?_) (by rfl) ?_ ?_
                     rotate_left
                     focus (intro w hSw; go_simp <;> rfl))
                simp only [put4]
            all_goals
              refine Calm.pure (v := ?_) (by rfl) ?_ ?_; rotate_left; focus (intro w hSw; go_simp <;> rfl)
              simp only [put4]
            all_goals
              rintro w9 ⟨_, _, hbel9⟩
            go_wp2_with fail; go_ret; exact ⟨rfl, hbel9⟩
          · have HV2 : Hid (∀ i (h : i < l.length), i < m + 1 + 1 → okk l i h = true) := fun i h hi => by
              rcases Nat.lt_or_ge i (m + 1) with h' | h'
              · exact HV.out i h h'
              · obtain rfl : i = m + 1 := by omega
                exact HO.out
            clear HV HO
            have hs : Calm.Stays (fun w' => w'.rangeAt g (o + (m + 1) * 3) x.cells ∧ w'.rangeAt g (o + m * 3) y.cells ∧ Below w.heap.size w w') := fun wa wb h hb => ⟨range_later h.1 hb, range_later h.2.1 hb, below_on h.2.2 hb⟩
            refine Calm.region (by kernel_rfl) (by kernel_rfl) (fun w' => w'.rangeAt g (o + (m + 1) * 3) x.cells ∧ w'.rangeAt g (o + m * 3) y.cells ∧ Below w.heap.size w w') ⟨d, d2, hbel.drew⟩ ?_
            iterate 4
              all_goals
                refine Calm.pure (v := ?_) (by rfl) ?_ ?_; rotate_left; focus (intro w hSw; go_simp <;> rfl)
                simp only [put4]
            all_goals
              refine Calm.pure (v := .int .i64 x.i) (by rfl) ?_ ?_; focus (intro w hSw; have g1 : w.cell? ⟨g, o + (m + 1) * 3 + 2, none⟩ = some (.int .i64 x.i) := hSw.1 2 _ rfl; go_simp)
              simp only [put4]
            iterate 2
              all_goals
                refine Calm.pure (v := ?_) (by rfl) ?_ ?_; rotate_left; focus (intro w hSw; go_simp <;> rfl)
                simp only [put4]
            iterate 7
              all_goals
                first
                  | (refine Calm.skip ?_ ?_; focus rfl)
                  | (refine Calm.pure (v := ?_) (by rfl) ?_ ?_
                     rotate_left
                     focus (intro w hSw; go_simp <;> rfl))
                simp only [put4]
            all_goals
              first
                | (refine Calm.skip ?_ ?_; focus rfl)
                | (first | (refine Calm.loadM 36 Tryz.underlying36 rfl zy (by rfl) _ rfl rfl (fun _ h => h.2.1) ?_) | (refine Calm.loadM 36 Tryz.underlying36 rfl zm (by rfl) _ rfl rfl (fun _ h => h.1) ?_))
              simp only [put4]
            iterate 3
              all_goals
                first
                  | (refine Calm.skip ?_ ?_; focus rfl)
                  | (refine Calm.pure (v := ?_) (by rfl) ?_ ?_
                     rotate_left
                     focus (intro w hSw; go_simp <;> rfl))
                simp only [put4]
            all_goals
              first
                | (refine Calm.skip ?_ ?_; focus rfl)
                | (first | (refine Calm.loadM 36 Tryz.underlying36 rfl zy (by rfl) _ rfl rfl (fun _ h => h.2.1) ?_) | (refine Calm.loadM 36 Tryz.underlying36 rfl zm (by rfl) _ rfl rfl (fun _ h => h.1) ?_))
              simp only [put4]
            all_goals
              first
                | (refine Calm.skip ?_ ?_; focus rfl)
                | (refine Calm.call2s (by rfl) rfl rfl rfl (by kernel_rfl) hs (fun w1 h => C2 w1) ?_)
              simp only [put4]
            iterate 2
              all_goals
                first
                  | (refine Calm.skip ?_ ?_; focus rfl)
                  | (refine Calm.pure (v := ?_) (by rfl) ?_ ?_
                     rotate_left
                     focus (intro w hSw; go_simp <;> rfl))
                simp only [put4]
            all_goals
              refine Calm.pure (v := ?_) (by rfl) ?_ ?_; rotate_left; focus (intro w hSw; go_simp <;> rfl)
              simp only [put4]
            all_goals
              rintro w9 ⟨_, _, hbel9⟩
            go_wp2_with fail; go_roundw
            case rel => exact ⟨m + 1 + 1, by simp, by omega, HV2, hbel9⟩
            case measure => simp [intOf]; omega
    · have hlt' : ¬ (k : Int) < (l.length : Int) := by omega
      have e := HZ.out; rw [(ca_iff l).2 (fun i h => HV.out i h (by omega))] at e; subst e; clear HZ HV HR; go_wp2_with fail; go_ret; exact ⟨rfl, hbel⟩
end Go.Proofs.YtfjpbmdmkcihcaaGreat
/- Left and Folded of the document's answer. -/
namespace Go.Proofs.YtfjpbmdmkcihcaaGreat
open Go.RowKit

def LePost (l : List M) (w : World) (e : Ending) (w' : World) : Prop := ∃ u, e = .returned u ∧ w'.ownsRow w.heap.size 36 3 u l.length (rows M.cells l) ∧ Below w.heap.size w w'
def FoPost (l : List M) (n : Nat) (w : World) (e : Ending) (w' : World) : Prop := ∃ u, e = .returned (.tuple #[u, .bool (decide (l.length < n))]) ∧ w'.ownsRow w.heap.size 36 3 u l.length (rows M.cells l) ∧ Below w.heap.size w w'
theorem M.dot {w : World} {b o : Nat} {x : M} (h : w.rangeAt b o x.cells) : w.rangeAt b o [.int .i64 x.p, .int .i64 x.s] := fun j u hu => by
  refine h j u ?_
  match j, hu with
  | 0, hu => exact hu
  | 1, hu => exact hu
  | j + 2, hu => simp at hu
set_option maxHeartbeats 4000000 in
set_option maxRecDepth 100000 in
theorem refLeft_any (v0 : Value) (l : List M) (q u : Int) (v : List Int) (t : Int) (sl : Value) (idx : Int) (w : World) (hv : v.length = 13) (h : MHas w v0 l) (hl : l.length ≤ 100) : Calls Tryz.prog 37 #[v0, TxV q u v t sl, .int .i64 idx] w (LePost (l.filter (fun y => !bf y.p y.s y.i q u v idx)) w) := by
  obtain ⟨i0, hi, hz0, hz1, hz2⟩ := info_parts info36; obtain ⟨p, c, rfl⟩ := h.slice; have HA : Hid (MHas w (.slice p l.length c) l) := h; clear h; have R1 : Rw (w.alloc (.cells (txc q u v t sl).toArray 34)) (w.heap.size) 34 (txc q u v t sl).toArray := rw_new w 34 (txc q u v t sl).toArray; have hbel := bel_alloc (Below.refl w.heap.size w) (.cells (txc q u v t sl).toArray 34)
  have hB : w.heap.size + 1 ≤ (w.alloc (.cells (txc q u v t sl).toArray 34)).heap.size := by simp
  generalize hW : w.alloc (.cells (txc q u v t sl).toArray 34) = w0 at R1 hbel hB
  go_enter Tryz.func37, Tryz.ntmps37
  go_wp2_with (first | rw [hW])
  clear hW
  go_loopw [7, 8] (fun vn vi wr => ∃ k : Nat, vi = .int .i64 k ∧ k ≤ l.length ∧ wr.ownsRow (w.heap.size + 1) 36 3 vn ((l.take k).filter (fun y => !bf y.p y.s y.i q u v idx)).length (rows M.cells ((l.take k).filter (fun y => !bf y.p y.s y.i q u v idx))) ∧ Rw wr (w.heap.size) 34 (txc q u v t sl).toArray ∧ Below w.heap.size w wr ∧ w.heap.size + 1 ≤ wr.heap.size) (fun _ vi _ => l.length - (intOf vi).toNat)
  case atStart => exact ⟨0, rfl, by omega, World.ownsRow_nil _ _ _ _, R1, hbel, hB⟩
  case round =>
    clear R1 hbel hB; obtain ⟨k, rfl, hk, hown, R1, hbel, hB⟩ := hrel; obtain ⟨P, cc, rfl⟩ := own_sl hown
    by_cases hlt : k < l.length
    · have hlt' : (k : Int) < (l.length : Int) := by omega
      have hk0 : (0 : Int) ≤ (k : Int) := by omega
      obtain ⟨g, o, rfl, hd0⟩ := HA.out.at (by omega); have d := M.elem (range_later hd0 hbel) k hlt; obtain ⟨y, HY⟩ := hid_ex l[k]; rw [HY.out] at d; clear hd0
      have hf100 : ((l.take k).filter (fun y => !bf y.p y.s y.i q u v idx)).length ≤ 100 := by
        have h1 := List.length_filter_le (fun y => !bf y.p y.s y.i q u v idx) (l.take k); rw [List.length_take] at h1
        omega
      have HT : Hid ((l.take (k + 1)).filter (fun y => !bf y.p y.s y.i q u v idx) = ((l.take k).filter (fun y => !bf y.p y.s y.i q u v idx)) ++ [y].filter (fun y => !bf y.p y.s y.i q u v idx)) := by
        show _ = _
        rw [List.take_succ_eq_append_getElem hlt, List.filter_append, HY.out]
      obtain ⟨m, HM⟩ := hid_ex ((l.take k).filter (fun y => !bf y.p y.s y.i q u v idx)); rw [HM.out] at hown hf100 HT; rw [HM.out]
      have C1 := fun w => refBefore_any y.p y.s y.i q u v t sl idx w hv
      obtain ⟨zz, HZZ⟩ := hid_ex (bf y.p y.s y.i q u v idx); rw [HZZ.out] at C1; have zm : (Tryz.prog.info? 36).map (·.size) = some y.cells.length := size36
      have ztx : (Tryz.prog.info? 34).map (·.size) = some (txc q u v t sl).length := by rw [txc_length hv]; exact size34
      go_wp2_with fail
      cases zz
      · have HT2 : Hid ((l.take (k + 1)).filter (fun y => !bf y.p y.s y.i q u v idx) = m ++ [y]) := by
          show _ = _
          rw [HT.out, List.filter_cons_of_pos (by rw [HZZ.out]; rfl), List.filter_nil]
        have hs : Calm.Stays (fun w' => Rw w' w.heap.size 34 (txc q u v t sl).toArray ∧ w'.rangeAt g (o + k * 3) y.cells ∧ w'.ownsRow (w.heap.size + 1) 36 3 (.slice P m.length cc) m.length (rows M.cells m) ∧ Below wr.heap.size wr w') := fun wa wb h hb => ⟨h.1.later hb, range_later h.2.1 hb, own_later h.2.2.1 hb, below_on h.2.2.2 hb⟩
        refine Calm.region (by kernel_rfl) (by kernel_rfl) (fun w' => Rw w' w.heap.size 34 (txc q u v t sl).toArray ∧ w'.rangeAt g (o + k * 3) y.cells ∧ w'.ownsRow (w.heap.size + 1) 36 3 (.slice P m.length cc) m.length (rows M.cells m) ∧ Below wr.heap.size wr w') ⟨R1, d, hown, (Below.refl _ _).drew⟩ ?_
        iterate 3
          all_goals
            refine Calm.pure (v := ?_) (by rfl) ?_ ?_; rotate_left; focus (intro w hSw; go_simp <;> rfl)
            simp only [put4]
        all_goals
          refine Calm.loadM 36 Tryz.underlying36 rfl zm (by rfl) _ rfl rfl (fun _ h => h.2.1) ?_; simp only [put4]
        all_goals
          refine Calm.loadM 34 Tryz.underlying34 rfl ztx (by rfl) _ rfl rfl (fun _ h => Rw.whole h.1) ?_; simp only [put4]
        all_goals
          refine Calm.pure (v := ?_) (by rfl) ?_ ?_; rotate_left; focus (intro w hSw; go_simp <;> rfl)
          simp only [put4]
        all_goals
          refine Calm.call3s (by rfl) rfl rfl rfl rfl (by kernel_rfl) hs (fun w1 h => C1 w1) ?_; simp only [put4]
        all_goals
          refine Calm.pure (v := ?_) (by rfl) ?_ ?_; rotate_left; focus (intro w hSw; go_simp <;> rfl)
          simp only [put4]
        all_goals
          rintro w9 ⟨R19, d9, ho9, hbel9⟩
        have hb9 := below_on hbel hbel9; have hB9 := Nat.le_trans hB hbel9.size
        have hBg : ∀ q', (Value.slice P m.length cc).ownBlock = some q' → w.heap.size + 1 ≤ q' := fun q' hq => (World.ownsRow.lt ho9 q' hq).1
        clear hown R1 d hbel9
        go_wp2_with (first
          | refine load_m 36 _ rfl rfl _ _ rfl d9 Tryz.underlying36 rfl zm ?_
          | (at_builtin; refine wpList_append_own _ rfl _ _ 46 rfl (w.heap.size + 1) 36 i0 (MV 0 0 0) 3 24 Tryz.underlying46 hi hz0 hz1 hz2 rfl (by decide) _ _ _ rfl (ho9.alloc _) ⟨w9.heap.size, 0, none⟩ 1 1 y.cells rfl rfl ?c1 ?c2 ?c3 ?c4 ?c5 ?_))
        case c1 => exact fun q u hq => (cells_next _ (by simp) _ _ _).trans hq
        case c2 => exact M.one y
        case c3 => unfold maxLen; omega
        case c4 => omega
        case c5 => simp; omega
        intro v2 w6 hown6 hg6 _; have hbA := bel_alloc (Below.refl w9.heap.size w9) (.cells y.cells.toArray 36); have hb6 := (below_on hb9 hbA).grown hg6 (Nat.le_trans (below_on hb9 hbA).size (Nat.le_refl _)) (fun q' hq => by have := hBg q' hq; omega); have R16 : Rw w6 (w.heap.size) 34 (txc q u v t sl).toArray := (R19.later hbA).grown hg6 (fun q' hq => by have := hBg q' hq; omega); have hB6 : w.heap.size + 1 ≤ w6.heap.size := Nat.le_trans (Nat.le_trans hB9 hbA.size) hg6.size; clear hg6 hbA ho9 d9; go_wp2_with fail; go_roundw
        case rel =>
          refine ⟨k + 1, by simp, by omega, ?_, R16, hb6, hB6⟩; rw [HT2.out, rows_append, rows_one, List.length_append]; exact hown6
        case measure => simp [intOf]; omega
      · have HT2 : Hid ((l.take (k + 1)).filter (fun y => !bf y.p y.s y.i q u v idx) = m) := by
          show _ = _
          rw [HT.out, List.filter_cons_of_neg (by rw [HZZ.out]; simp), List.filter_nil, List.append_nil]
        have hs : Calm.Stays (fun w' => Rw w' w.heap.size 34 (txc q u v t sl).toArray ∧ w'.rangeAt g (o + k * 3) y.cells ∧ w'.ownsRow (w.heap.size + 1) 36 3 (.slice P m.length cc) m.length (rows M.cells m) ∧ Below wr.heap.size wr w') := fun wa wb h hb => ⟨h.1.later hb, range_later h.2.1 hb, own_later h.2.2.1 hb, below_on h.2.2.2 hb⟩
        refine Calm.region (by kernel_rfl) (by kernel_rfl) (fun w' => Rw w' w.heap.size 34 (txc q u v t sl).toArray ∧ w'.rangeAt g (o + k * 3) y.cells ∧ w'.ownsRow (w.heap.size + 1) 36 3 (.slice P m.length cc) m.length (rows M.cells m) ∧ Below wr.heap.size wr w') ⟨R1, d, hown, (Below.refl _ _).drew⟩ ?_
        iterate 3
          all_goals
            refine Calm.pure (v := ?_) (by rfl) ?_ ?_; rotate_left; focus (intro w hSw; go_simp <;> rfl)
            simp only [put4]
        all_goals
          refine Calm.loadM 36 Tryz.underlying36 rfl zm (by rfl) _ rfl rfl (fun _ h => h.2.1) ?_; simp only [put4]
        all_goals
          refine Calm.loadM 34 Tryz.underlying34 rfl ztx (by rfl) _ rfl rfl (fun _ h => Rw.whole h.1) ?_; simp only [put4]
        all_goals
          refine Calm.pure (v := ?_) (by rfl) ?_ ?_; rotate_left; focus (intro w hSw; go_simp <;> rfl)
          simp only [put4]
        all_goals
          refine Calm.call3s (by rfl) rfl rfl rfl rfl (by kernel_rfl) hs (fun w1 h => C1 w1) ?_; simp only [put4]
        all_goals
          refine Calm.pure (v := ?_) (by rfl) ?_ ?_; rotate_left; focus (intro w hSw; go_simp <;> rfl)
          simp only [put4]
        all_goals
          rintro w9 ⟨R19, d9, ho9, hbel9⟩
        have hb9 := below_on hbel hbel9; have hB9 := Nat.le_trans hB hbel9.size; clear hown R1 d hbel9; go_wp2_with fail; go_roundw
        case rel =>
          refine ⟨k + 1, by simp, by omega, ?_, R19, hb9, hB9⟩; rw [HT2.out]; exact ho9
        case measure => simp [intOf]; omega
    · have hlt' : ¬ (k : Int) < (l.length : Int) := by omega
      obtain rfl : k = l.length := by omega
      rw [List.take_length] at hown ⊢; clear HA; obtain ⟨P2, HP2⟩ := hid_ex (l.filter (fun y => !bf y.p y.s y.i q u v idx)); rw [HP2.out] at hown; have HS : Hid (wr.ownsRow w.heap.size 36 3 (.slice P P2.length cc) P2.length (rows M.cells P2)) := own_mono hown (by omega); clear hown; rw [HP2.out]; go_wp2_with fail; go_ret; exact ⟨_, rfl, by rw [HP2.out]; exact HS.out, hbel⟩
set_option maxHeartbeats 4000000 in
set_option maxRecDepth 100000 in
theorem folded_any (v0 : Value) (l : List M) (v : List Int) (w : World) (hv : v.length = 13) (h : MHas w v0 l) (hl : l.length ≤ 100) : Calls Tryz.prog 69 #[v0, V v] w (FoPost (l.filter (fun y => !hs v y.p y.s)) l.length w) := by
  obtain ⟨i0, hi, hz0, hz1, hz2⟩ := info_parts info36; obtain ⟨p, c, rfl⟩ := h.slice; have HA : Hid (MHas w (.slice p l.length c) l) := h; clear h; have R1 : At (w.alloc (.cells (vals v).toArray 31)) (w.heap.size) v := at_new w v hv; have hbel := bel_alloc (Below.refl w.heap.size w) (.cells (vals v).toArray 31)
  have hB : w.heap.size + 1 ≤ (w.alloc (.cells (vals v).toArray 31)).heap.size := by simp
  generalize hW : w.alloc (.cells (vals v).toArray 31) = w0 at R1 hbel hB
  go_enter Tryz.func69, Tryz.ntmps69
  go_wp2_with (first | rw [hW])
  clear hW
  go_loopw [6, 7] (fun vn vi wr => ∃ k : Nat, vi = .int .i64 k ∧ k ≤ l.length ∧ wr.ownsRow (w.heap.size + 1) 36 3 vn ((l.take k).filter (fun y => !hs v y.p y.s)).length (rows M.cells ((l.take k).filter (fun y => !hs v y.p y.s))) ∧ At wr (w.heap.size) v ∧ Below w.heap.size w wr ∧ w.heap.size + 1 ≤ wr.heap.size) (fun _ vi _ => l.length - (intOf vi).toNat)
  case atStart => exact ⟨0, rfl, by omega, World.ownsRow_nil _ _ _ _, R1, hbel, hB⟩
  case round =>
    clear R1 hbel hB; obtain ⟨k, rfl, hk, hown, R1, hbel, hB⟩ := hrel; obtain ⟨P, cc, rfl⟩ := own_sl hown
    by_cases hlt : k < l.length
    · have hlt' : (k : Int) < (l.length : Int) := by omega
      have hk0 : (0 : Int) ≤ (k : Int) := by omega
      obtain ⟨g, o, rfl, hd0⟩ := HA.out.at (by omega); have d := M.elem (range_later hd0 hbel) k hlt; obtain ⟨y, HY⟩ := hid_ex l[k]; rw [HY.out] at d; clear hd0
      have hf100 : ((l.take k).filter (fun y => !hs v y.p y.s)).length ≤ 100 := by
        have h1 := List.length_filter_le (fun y => !hs v y.p y.s) (l.take k); rw [List.length_take] at h1
        omega
      have HT : Hid ((l.take (k + 1)).filter (fun y => !hs v y.p y.s) = ((l.take k).filter (fun y => !hs v y.p y.s)) ++ [y].filter (fun y => !hs v y.p y.s)) := by
        show _ = _
        rw [List.take_succ_eq_append_getElem hlt, List.filter_append, HY.out]
      obtain ⟨m, HM⟩ := hid_ex ((l.take k).filter (fun y => !hs v y.p y.s)); rw [HM.out] at hown hf100 HT; rw [HM.out]
      have C1 := fun w => refHas_any v y.p y.s w hv
      obtain ⟨zz, HZZ⟩ := hid_ex (hs v y.p y.s); rw [HZZ.out] at C1; have zm : (Tryz.prog.info? 36).map (·.size) = some y.cells.length := size36; have zv := info_vals hv; have z2 : (Tryz.prog.info? 29).map (·.size) = some [Value.int .i64 y.p, .int .i64 y.s].length := size29; go_wp2_with fail
      cases zz
      · have HT2 : Hid ((l.take (k + 1)).filter (fun y => !hs v y.p y.s) = m ++ [y]) := by
          show _ = _
          rw [HT.out, List.filter_cons_of_pos (by rw [HZZ.out]; rfl), List.filter_nil]
        have hs : Calm.Stays (fun w' => At w' w.heap.size v ∧ w'.rangeAt g (o + k * 3) y.cells ∧ w'.ownsRow (w.heap.size + 1) 36 3 (.slice P m.length cc) m.length (rows M.cells m) ∧ Below wr.heap.size wr w') := fun wa wb h hb => ⟨h.1.later hb, range_later h.2.1 hb, own_later h.2.2.1 hb, below_on h.2.2.2 hb⟩
        refine Calm.region (by kernel_rfl) (by kernel_rfl) (fun w' => At w' w.heap.size v ∧ w'.rangeAt g (o + k * 3) y.cells ∧ w'.ownsRow (w.heap.size + 1) 36 3 (.slice P m.length cc) m.length (rows M.cells m) ∧ Below wr.heap.size wr w') ⟨R1, d, hown, (Below.refl _ _).drew⟩ ?_
        all_goals
          refine Calm.loadM 31 Tryz.underlying31 rfl zv (by rfl) _ rfl rfl (fun _ h => At.range h.1) ?_; simp only [put4]
        iterate 4
          all_goals
            refine Calm.pure (v := ?_) (by rfl) ?_ ?_; rotate_left; focus (intro w hSw; go_simp <;> rfl)
            simp only [put4]
        all_goals
          refine Calm.loadM 29 Tryz.underlying29 rfl z2 (by rfl) _ rfl rfl (fun _ h => M.dot h.2.1) ?_; simp only [put4]
        all_goals
          refine Calm.call2s (by rfl) rfl rfl rfl (by kernel_rfl) hs (fun w1 h => C1 w1) ?_; simp only [put4]
        all_goals
          refine Calm.pure (v := ?_) (by rfl) ?_ ?_; rotate_left; focus (intro w hSw; go_simp <;> rfl)
          simp only [put4]
        all_goals
          rintro w9 ⟨R19, d9, ho9, hbel9⟩
        have hb9 := below_on hbel hbel9; have hB9 := Nat.le_trans hB hbel9.size
        have hBg : ∀ q', (Value.slice P m.length cc).ownBlock = some q' → w.heap.size + 1 ≤ q' := fun q' hq => (World.ownsRow.lt ho9 q' hq).1
        clear hown R1 d hbel9
        go_wp2_with (first
          | refine load_m 36 _ rfl rfl _ _ rfl d9 Tryz.underlying36 rfl zm ?_
          | (at_builtin; refine wpList_append_own _ rfl _ _ 46 rfl (w.heap.size + 1) 36 i0 (MV 0 0 0) 3 24 Tryz.underlying46 hi hz0 hz1 hz2 rfl (by decide) _ _ _ rfl (ho9.alloc _) ⟨w9.heap.size, 0, none⟩ 1 1 y.cells rfl rfl ?c1 ?c2 ?c3 ?c4 ?c5 ?_))
        case c1 => exact fun q u hq => (cells_next _ (by simp) _ _ _).trans hq
        case c2 => exact M.one y
        case c3 => unfold maxLen; omega
        case c4 => omega
        case c5 => simp; omega
        intro v2 w6 hown6 hg6 _; have hbA := bel_alloc (Below.refl w9.heap.size w9) (.cells y.cells.toArray 36); have hb6 := (below_on hb9 hbA).grown hg6 (Nat.le_trans (below_on hb9 hbA).size (Nat.le_refl _)) (fun q' hq => by have := hBg q' hq; omega); have R16 : At w6 (w.heap.size) v := ⟨R19.1, (hg6.block w.heap.size ((R19.later hbA).lt) (fun e => by have := hBg w.heap.size e.symm; omega)).trans (R19.later hbA).2⟩; have hB6 : w.heap.size + 1 ≤ w6.heap.size := Nat.le_trans (Nat.le_trans hB9 hbA.size) hg6.size; clear hg6 hbA ho9 d9; go_wp2_with fail; go_roundw
        case rel =>
          refine ⟨k + 1, by simp, by omega, ?_, R16, hb6, hB6⟩; rw [HT2.out, rows_append, rows_one, List.length_append]; exact hown6
        case measure => simp [intOf]; omega
      · have HT2 : Hid ((l.take (k + 1)).filter (fun y => !hs v y.p y.s) = m) := by
          show _ = _
          rw [HT.out, List.filter_cons_of_neg (by rw [HZZ.out]; simp), List.filter_nil, List.append_nil]
        have hs : Calm.Stays (fun w' => At w' w.heap.size v ∧ w'.rangeAt g (o + k * 3) y.cells ∧ w'.ownsRow (w.heap.size + 1) 36 3 (.slice P m.length cc) m.length (rows M.cells m) ∧ Below wr.heap.size wr w') := fun wa wb h hb => ⟨h.1.later hb, range_later h.2.1 hb, own_later h.2.2.1 hb, below_on h.2.2.2 hb⟩
        refine Calm.region (by kernel_rfl) (by kernel_rfl) (fun w' => At w' w.heap.size v ∧ w'.rangeAt g (o + k * 3) y.cells ∧ w'.ownsRow (w.heap.size + 1) 36 3 (.slice P m.length cc) m.length (rows M.cells m) ∧ Below wr.heap.size wr w') ⟨R1, d, hown, (Below.refl _ _).drew⟩ ?_
        all_goals
          refine Calm.loadM 31 Tryz.underlying31 rfl zv (by rfl) _ rfl rfl (fun _ h => At.range h.1) ?_; simp only [put4]
        iterate 4
          all_goals
            refine Calm.pure (v := ?_) (by rfl) ?_ ?_; rotate_left; focus (intro w hSw; go_simp <;> rfl)
            simp only [put4]
        all_goals
          refine Calm.loadM 29 Tryz.underlying29 rfl z2 (by rfl) _ rfl rfl (fun _ h => M.dot h.2.1) ?_; simp only [put4]
        all_goals
          refine Calm.call2s (by rfl) rfl rfl rfl (by kernel_rfl) hs (fun w1 h => C1 w1) ?_; simp only [put4]
        all_goals
          refine Calm.pure (v := ?_) (by rfl) ?_ ?_; rotate_left; focus (intro w hSw; go_simp <;> rfl)
          simp only [put4]
        all_goals
          rintro w9 ⟨R19, d9, ho9, hbel9⟩
        have hb9 := below_on hbel hbel9; have hB9 := Nat.le_trans hB hbel9.size; clear hown R1 d hbel9; go_wp2_with fail; go_roundw
        case rel =>
          refine ⟨k + 1, by simp, by omega, ?_, R19, hb9, hB9⟩; rw [HT2.out]; exact ho9
        case measure => simp [intOf]; omega
    · have hlt' : ¬ (k : Int) < (l.length : Int) := by omega
      obtain rfl : k = l.length := by omega
      rw [List.take_length] at hown ⊢; clear HA; have hf100 : (l.filter (fun y => !hs v y.p y.s)).length ≤ 100 := Nat.le_trans (List.length_filter_le _ _) hl; obtain ⟨P2, HP2⟩ := hid_ex (l.filter (fun y => !hs v y.p y.s)); rw [HP2.out] at hown hf100; have HS : Hid (wr.ownsRow w.heap.size 36 3 (.slice P P2.length cc) P2.length (rows M.cells P2)) := own_mono hown (by omega); clear hown; rw [HP2.out]
      have HE : Hid (∀ e w', FoPost P2 l.length w e w' ↔ ∃ u, e = .returned (.tuple #[u, .bool (decide (P2.length < l.length))]) ∧ w'.ownsRow w.heap.size 36 3 u P2.length (rows M.cells P2) ∧ Below w.heap.size w w') := fun _ _ => Iff.rfl
      obtain ⟨zd, HZD⟩ := hid_ex (decide (P2.length < l.length)); rw [HZD.out] at HE; have hzd := HZD.out; go_wp2_with fail; refine bodyPost_ret (v := .tuple #[.slice P P2.length cc, .bool zd]) (by simp [results, go_sem]) rfl ?_; rw [HP2.out, HE.out]; exact ⟨_, rfl, HS.out, hbel⟩
end Go.Proofs.YtfjpbmdmkcihcaaGreat
/- With of the document's answer. -/
namespace Go.Proofs.YtfjpbmdmkcihcaaGreat
open Go.RowKit

theorem pair_at {l : List M} (h : l.Pairwise (fun a b => lt a b = true)) (j k : Nat) (hk : k < l.length) (hjk : j < k) : lt (l[j]'(by omega)) l[k] = true := List.pairwise_iff_getElem.1 h j k (by omega) hk hjk
/-- What stands so far. -/
def WInv (a : M) (l : List M) (k : Nat) (d : Bool) (m : List M) : Prop := (d = true → m = insF a (l.take k) ∧ ∃ j, ∃ h : j < l.length, j < k ∧ lt a l[j] = true) ∧ (d = false → m = l.take k ∧ ∀ y ∈ l.take k, lt y a = true)
theorem insF_all {a : M} {l : List M} (h : ∀ y ∈ l, lt y a = true) : insF a l = l ++ [a] := by
  unfold insF; rw [List.filter_eq_self.2 h, List.filter_eq_nil_iff.2 (fun y hy => by rw [h y hy]; simp)]
theorem insF_snoc {a y : M} (h : lt y a = false) (l : List M) : insF a (l ++ [y]) = insF a l ++ [y] := by
  unfold insF; rw [List.filter_append, List.filter_append, List.filter_cons_of_neg (by rw [h]; simp), List.filter_cons_of_pos (by rw [h]; rfl), List.filter_nil, List.filter_nil, List.append_nil, List.append_assoc, List.cons_append]
theorem mk_symm {x y : M} (h : mk x y = false) : mk y x = false := by
  cases e : mk y x
  · rfl
  · rw [mk_iff] at e
    rw [show mk x y = true from (mk_iff _ _).2 ⟨e.1.symm, e.2.1.symm, e.2.2.symm⟩] at h
    cases h
/-- What With answers: what was there, or a row of its own. -/
def WtPost (v0 : Value) (l : List M) (a : M) (w : World) (e : Ending) (w' : World) : Prop := ∃ u, e = .returned u ∧ ((u = v0 ∧ wth l a = l) ∨ w'.ownsRow w.heap.size 36 3 u (wth l a).length (rows M.cells (wth l a))) ∧ Below w.heap.size w w'
set_option maxHeartbeats 4000000 in
set_option maxRecDepth 100000 in
theorem refWith_any (v0 : Value) (l : List M) (a : M) (w : World) (h : MHas w v0 l) (hl : l.length ≤ 100) (hp : l.Pairwise (fun a b => lt a b = true)) : Calls Tryz.prog 66 #[v0, MV a.p a.s a.i] w (WtPost v0 l a w) := by
  obtain ⟨i0, hi, hz0, hz1, hz2⟩ := info_parts info36; obtain ⟨p, c, rfl⟩ := h.slice; have HA : Hid (MHas w (.slice p l.length c) l) := h; have HP : Hid (l.Pairwise (fun a b => lt a b = true)) := hp; clear h hp
  have HQ : Hid (∀ e w', WtPost (.slice p l.length c) l a w e w' ↔ ∃ u, e = .returned u ∧ ((u = .slice p l.length c ∧ wth l a = l) ∨ w'.ownsRow w.heap.size 36 3 u (wth l a).length (rows M.cells (wth l a))) ∧ Below w.heap.size w w') := fun _ _ => Iff.rfl
  obtain ⟨z, HZ⟩ := hid_ex (wth l a); rw [HZ.out] at HQ; have za : (Tryz.prog.info? 36).map (·.size) = some [Value.int .i64 a.p, .int .i64 a.s, .int .i64 a.i].length := size36; have RB := rw_new w 36 #[.int .i64 a.p, .int .i64 a.s, .int .i64 a.i]; have hbel := bel_alloc (Below.refl w.heap.size w) (.cells #[.int .i64 a.p, .int .i64 a.s, .int .i64 a.i] 36)
  have hB : w.heap.size + 1 ≤ (w.alloc (.cells #[.int .i64 a.p, .int .i64 a.s, .int .i64 a.i] 36)).heap.size := by simp
  generalize hW : w.alloc (.cells #[.int .i64 a.p, .int .i64 a.s, .int .i64 a.i] 36) = w0 at RB hbel hB
  go_enter Tryz.func66, Tryz.ntmps66
  go_wp2_with (first | rw [hW])
  clear hW
  go_loopw [5, 6, 7] (fun vn vd vi wr => ∃ (k : Nat) (fl : Bool) (m : List M), vi = .int .i64 k ∧ k ≤ l.length ∧ vd = .bool fl ∧ m.length ≤ k + 1 ∧ wr.ownsRow (w.heap.size + 1) 36 3 vn m.length (rows M.cells m) ∧ WInv a l k fl m ∧ Hid (∀ j (h : j < l.length), j < k → mk l[j] a = false) ∧ Rw wr w.heap.size 36 #[.int .i64 a.p, .int .i64 a.s, .int .i64 a.i] ∧ Below w.heap.size w wr ∧ w.heap.size + 1 ≤ wr.heap.size) (fun _ _ vi _ => l.length - (intOf vi).toNat)
  case atStart => exact ⟨0, false, [], rfl, by omega, rfl, by simp, World.ownsRow_nil _ _ _ _, ⟨(fun h => by cases h), fun _ => ⟨by simp, fun y hy => by simp at hy⟩⟩, (show ∀ j (_ : j < l.length), j < 0 → _ from fun j _ h => by omega), RB, hbel, hB⟩
  case round =>
    clear RB hbel hB; obtain ⟨k, fl, m, rfl, hk, rfl, hm, hown, HM, HV, RB, hbel, hB⟩ := hrel; obtain ⟨P, cc, rfl⟩ := own_sl hown
    by_cases hlt : k < l.length
    · have hlt' : (k : Int) < (l.length : Int) := by omega
      have hk0 : (0 : Int) ≤ (k : Int) := by omega
      obtain ⟨g, o, rfl, hd0⟩ := HA.out.at (by omega); have d := M.elem (range_later hd0 hbel) k hlt; obtain ⟨y, HY⟩ := hid_ex l[k]; rw [HY.out] at d; clear hd0
      have HTK : Hid (l.take (k + 1) = l.take k ++ [y]) := by
        show _ = _
        rw [List.take_succ_eq_append_getElem hlt, HY.out]
      have zm : (Tryz.prog.info? 36).map (·.size) = some y.cells.length := size36
      have E := fun w => eq_mark w y.p y.s y.i a.p a.s a.i
      obtain ⟨z1, HZ1⟩ := hid_ex (mk y a); rw [show (decide (y.p = a.p) && decide (y.s = a.s) && decide (y.i = a.i)) = z1 from HZ1.out] at E
      have C2 : ∀ w, Calls Tryz.prog 28 #[MV a.p a.s a.i, MV y.p y.s y.i] w (Tells (.bool (lt a y)) w) := fun w => refLess_any a.p a.s a.i y.p y.s y.i w
      obtain ⟨z2, HZ2⟩ := hid_ex (lt a y); rw [HZ2.out] at C2
      cases z1
      · have HV2 : Hid (∀ j (h : j < l.length), j < k + 1 → mk l[j] a = false) := fun j h hj => by
          rcases Nat.lt_or_ge j k with h' | h'
          · exact HV.out j h h'
          · obtain rfl : j = k := by omega
            rw [HY.out]; exact HZ1.out
        go_wp2_with fail
        have hs : Calm.Stays (fun w' => Rw w' w.heap.size 36 #[.int .i64 a.p, .int .i64 a.s, .int .i64 a.i] ∧ w'.rangeAt g (o + k * 3) y.cells ∧ w'.ownsRow (w.heap.size + 1) 36 3 (.slice P m.length cc) m.length (rows M.cells m) ∧ Below wr.heap.size wr w') := fun wa wb h hb => ⟨h.1.later hb, range_later h.2.1 hb, own_later h.2.2.1 hb, below_on h.2.2.2 hb⟩
        refine Calm.region (by kernel_rfl) (by kernel_rfl) (fun w' => Rw w' w.heap.size 36 #[.int .i64 a.p, .int .i64 a.s, .int .i64 a.i] ∧ w'.rangeAt g (o + k * 3) y.cells ∧ w'.ownsRow (w.heap.size + 1) 36 3 (.slice P m.length cc) m.length (rows M.cells m) ∧ Below wr.heap.size wr w') ⟨RB, d, hown, (Below.refl _ _).drew⟩ ?_
        iterate 3
          all_goals
            refine Calm.pure (v := ?_) (by rfl) ?_ ?_; rotate_left; focus (intro w hSw; go_simp <;> rfl)
            simp only [put4]
        iterate 2
          all_goals
            first | (refine Calm.loadM 36 Tryz.underlying36 rfl zm (by rfl) _ rfl rfl (fun _ h => h.2.1) ?_) | (refine Calm.loadM 36 Tryz.underlying36 rfl za (by rfl) _ rfl rfl (fun _ h => Rw.whole h.1) ?_)
            simp only [put4]
        all_goals
          refine Calm.pure (v := ?_) (by rfl) ?_ ?_; rotate_left; focus (intro w hSw; go_simp <;> rfl)
          simp only [put4]
        all_goals
          rintro w7 ⟨RB7, d7, hown7, hbel7⟩
        go_wp2_with fail; clear E
        cases fl
        · obtain ⟨hm1, hm2⟩ := HM.2 rfl
          cases z2
          · have hly : lt y a = true := lt_total HZ2.out (mk_symm HZ1.out)
            have HM2 : WInv a l (k + 1) false (m ++ [y]) := ⟨(fun h => by cases h), fun _ => ⟨by rw [HTK.out, hm1], fun y' hy' => by
              rw [HTK.out] at hy'
              rcases List.mem_append.1 hy' with h' | h'
              · exact hm2 y' h'
              · rw [List.mem_singleton.1 h']
                exact hly⟩⟩
            have hmk : m.length ≤ k := by rw [hm1, List.length_take]; omega
            clear hm1 hm2 HM hly
            have hs : Calm.Stays (fun w' => Rw w' w.heap.size 36 #[.int .i64 a.p, .int .i64 a.s, .int .i64 a.i] ∧ w'.rangeAt g (o + k * 3) y.cells ∧ w'.ownsRow (w.heap.size + 1) 36 3 (.slice P m.length cc) m.length (rows M.cells m) ∧ Below w7.heap.size w7 w') := fun wa wb h hb => ⟨h.1.later hb, range_later h.2.1 hb, own_later h.2.2.1 hb, below_on h.2.2.2 hb⟩
            refine Calm.region (by kernel_rfl) (by kernel_rfl) (fun w' => Rw w' w.heap.size 36 #[.int .i64 a.p, .int .i64 a.s, .int .i64 a.i] ∧ w'.rangeAt g (o + k * 3) y.cells ∧ w'.ownsRow (w.heap.size + 1) 36 3 (.slice P m.length cc) m.length (rows M.cells m) ∧ Below w7.heap.size w7 w') ⟨RB7, d7, hown7, (Below.refl _ _).drew⟩ ?_
            iterate 3
              all_goals
                refine Calm.pure (v := ?_) (by rfl) ?_ ?_; rotate_left; focus (intro w hSw; go_simp <;> rfl)
                simp only [put4]
            all_goals
              first
                | (refine Calm.skip ?_ ?_; focus rfl)
                | (first | (refine Calm.loadM 36 Tryz.underlying36 rfl za (by rfl) _ rfl rfl (fun _ h => Rw.whole h.1) ?_) | (refine Calm.loadM 36 Tryz.underlying36 rfl zm (by rfl) _ rfl rfl (fun _ h => h.2.1) ?_))
              simp only [put4]
            iterate 3
              all_goals
                first
                  | (refine Calm.skip ?_ ?_; focus rfl)
                  | (refine Calm.pure (v := ?_) (by rfl) ?_ ?_
                     rotate_left
                     focus (intro w hSw; go_simp <;> rfl))
                simp only [put4]
            all_goals
              first
                | (refine Calm.skip ?_ ?_; focus rfl)
                | (first | (refine Calm.loadM 36 Tryz.underlying36 rfl za (by rfl) _ rfl rfl (fun _ h => Rw.whole h.1) ?_) | (refine Calm.loadM 36 Tryz.underlying36 rfl zm (by rfl) _ rfl rfl (fun _ h => h.2.1) ?_))
              simp only [put4]
            all_goals
              first
                | (refine Calm.skip ?_ ?_; focus rfl)
                | (refine Calm.call2s (by rfl) rfl rfl rfl (by kernel_rfl) hs (fun w1 h => C2 w1) ?_)
              simp only [put4]
            all_goals
              refine Calm.pure (v := ?_) (by rfl) ?_ ?_; rotate_left; focus (intro w hSw; go_simp <;> rfl)
              simp only [put4]
            all_goals
              rintro w9 ⟨RB9, d9, hown9, hbel9⟩
            have hb9 := below_on (below_on hbel hbel7) hbel9; have hB9 := Nat.le_trans (Nat.le_trans hB hbel7.size) hbel9.size
            have hBg : ∀ q', (Value.slice P m.length cc).ownBlock = some q' → w.heap.size + 1 ≤ q' := fun q' hq => (World.ownsRow.lt hown9 q' hq).1
            clear hbel7 hbel9 RB7 d7 hown7 RB d hown
            go_wp2_with (first
              | refine load_m 36 _ rfl rfl _ _ rfl d9 Tryz.underlying36 rfl zm ?_
              | (at_builtin; refine wpList_append_own _ rfl _ _ 46 rfl (w.heap.size + 1) 36 i0 (MV 0 0 0) 3 24 Tryz.underlying46 hi hz0 hz1 hz2 rfl (by decide) _ _ _ rfl (hown9.alloc _) ⟨w9.heap.size, 0, none⟩ 1 1 y.cells rfl rfl ?c1 ?c2 ?c3 ?c4 ?c5 ?_))
            case c1 => exact fun q u hq => (cells_next _ (by simp) _ _ _).trans hq
            case c2 => exact M.one y
            case c3 => unfold maxLen; omega
            case c4 => omega
            case c5 => simp; omega
            intro v2 w6 hown6 hg6 _; have hbA := bel_alloc (Below.refl w9.heap.size w9) (.cells y.cells.toArray 36); have hb6 := (below_on hb9 hbA).grown hg6 (Nat.le_trans (below_on hb9 hbA).size (Nat.le_refl _)) (fun q' hq => by have := hBg q' hq; omega); have RB6 : Rw w6 w.heap.size 36 #[.int .i64 a.p, .int .i64 a.s, .int .i64 a.i] := (RB9.later hbA).grown hg6 (fun q' hq => by have := hBg q' hq; omega); have hB6 : w.heap.size + 1 ≤ w6.heap.size := Nat.le_trans (Nat.le_trans hB9 hbA.size) hg6.size; clear hg6 hbA hown9 d9; go_wp2_with fail; go_roundw
            case rel =>
              refine ⟨k + 1, _, m ++ [y], by simp, by omega, rfl, by simp; omega, ?_, HM2, HV2, RB6, hb6, hB6⟩; rw [rows_append, rows_one, List.length_append]; exact hown6
            case measure => simp [intOf]; omega
          · have hly : lt y a = false := lt_asymm HZ2.out
            have HM2 : WInv a l (k + 1) true (m ++ [a] ++ [y]) := ⟨fun _ => ⟨by
              rw [HTK.out, insF_snoc hly, hm1, insF_all hm2], k, hlt, by omega, by rw [HY.out]; exact HZ2.out⟩, (fun h => by cases h)⟩
            have hmk : m.length ≤ k := by rw [hm1, List.length_take]; omega
            clear hm1 hm2 HM hly
            have hs : Calm.Stays (fun w' => Rw w' w.heap.size 36 #[.int .i64 a.p, .int .i64 a.s, .int .i64 a.i] ∧ w'.rangeAt g (o + k * 3) y.cells ∧ w'.ownsRow (w.heap.size + 1) 36 3 (.slice P m.length cc) m.length (rows M.cells m) ∧ Below w7.heap.size w7 w') := fun wa wb h hb => ⟨h.1.later hb, range_later h.2.1 hb, own_later h.2.2.1 hb, below_on h.2.2.2 hb⟩
            refine Calm.region (by kernel_rfl) (by kernel_rfl) (fun w' => Rw w' w.heap.size 36 #[.int .i64 a.p, .int .i64 a.s, .int .i64 a.i] ∧ w'.rangeAt g (o + k * 3) y.cells ∧ w'.ownsRow (w.heap.size + 1) 36 3 (.slice P m.length cc) m.length (rows M.cells m) ∧ Below w7.heap.size w7 w') ⟨RB7, d7, hown7, (Below.refl _ _).drew⟩ ?_
            iterate 3
              all_goals
                refine Calm.pure (v := ?_) (by rfl) ?_ ?_; rotate_left; focus (intro w hSw; go_simp <;> rfl)
                simp only [put4]
            all_goals
              first
                | (refine Calm.skip ?_ ?_; focus rfl)
                | (first | (refine Calm.loadM 36 Tryz.underlying36 rfl za (by rfl) _ rfl rfl (fun _ h => Rw.whole h.1) ?_) | (refine Calm.loadM 36 Tryz.underlying36 rfl zm (by rfl) _ rfl rfl (fun _ h => h.2.1) ?_))
              simp only [put4]
            iterate 3
              all_goals
                first
                  | (refine Calm.skip ?_ ?_; focus rfl)
                  | (refine Calm.pure (v := ?_) (by rfl) ?_ ?_
                     rotate_left
                     focus (intro w hSw; go_simp <;> rfl))
                simp only [put4]
            all_goals
              first
                | (refine Calm.skip ?_ ?_; focus rfl)
                | (first | (refine Calm.loadM 36 Tryz.underlying36 rfl za (by rfl) _ rfl rfl (fun _ h => Rw.whole h.1) ?_) | (refine Calm.loadM 36 Tryz.underlying36 rfl zm (by rfl) _ rfl rfl (fun _ h => h.2.1) ?_))
              simp only [put4]
            all_goals
              first
                | (refine Calm.skip ?_ ?_; focus rfl)
                | (refine Calm.call2s (by rfl) rfl rfl rfl (by kernel_rfl) hs (fun w1 h => C2 w1) ?_)
              simp only [put4]
            all_goals
              refine Calm.pure (v := ?_) (by rfl) ?_ ?_; rotate_left; focus (intro w hSw; go_simp <;> rfl)
              simp only [put4]
            all_goals
              rintro w9 ⟨RB9, d9, hown9, hbel9⟩
            have hb9 := below_on (below_on hbel hbel7) hbel9; have hB9 := Nat.le_trans (Nat.le_trans hB hbel7.size) hbel9.size
            have hBg : ∀ q', (Value.slice P m.length cc).ownBlock = some q' → w.heap.size + 1 ≤ q' := fun q' hq => (World.ownsRow.lt hown9 q' hq).1
            clear hbel7 hbel9 RB7 d7 hown7 RB d hown
            have hc1 : ∀ q u, a.cells[q]? = some u → (w9.alloc (.cells #[.int .i64 a.p, .int .i64 a.s, .int .i64 a.i] 36)).cell? ((⟨w9.heap.size, 0, none⟩ : Addr).add q) = some u := fun q u hq => (cells_new w9 a.cells 36 q).trans hq
            have hc3 : m.length + 1 ≤ maxLen := by unfold maxLen; omega
            have hc4 : (m.length + 1) * 24 ≤ 140737488355328 := by omega
            have hc5 : w.heap.size + 1 ≤ (w9.alloc (.cells #[.int .i64 a.p, .int .i64 a.s, .int .i64 a.i] 36)).heap.size := by simp; omega
            have hm9 : m.length + 1 + 1 ≤ 102 := Nat.add_le_add_right (Nat.add_le_add_right (Nat.le_trans hmk (Nat.le_trans (Nat.le_of_lt hlt) hl)) 1) 1; have hx3 : m.length + 1 + 1 ≤ maxLen := Nat.le_trans hm9 (by unfold maxLen; decide); have hx4 : (m.length + 1 + 1) * 24 ≤ 140737488355328 := Nat.le_trans (Nat.mul_le_mul_right 24 hm9) (by decide); clear hm9
            go_wp2_with (first
              | refine load_r 36 _ rfl rfl _ rfl RB9 Tryz.underlying36 rfl size36 ?_
              | (at_builtin; refine wpList_append_own _ rfl _ _ 46 rfl (w.heap.size + 1) 36 i0 (MV 0 0 0) 3 24 Tryz.underlying46 hi hz0 hz1 hz2 rfl (by decide) _ _ _ rfl (hown9.alloc _) ⟨w9.heap.size, 0, none⟩ 1 1 a.cells rfl rfl hc1 (M.one a) hc3 hc4 hc5 ?_))
            intro v2 w6 hown6 hg6 _; have hbA := bel_alloc (Below.refl w9.heap.size w9) (.cells #[.int .i64 a.p, .int .i64 a.s, .int .i64 a.i] 36); have hb6 := (below_on hb9 hbA).grown hg6 (Nat.le_trans (below_on hb9 hbA).size (Nat.le_refl _)) (fun q' hq => by have := hBg q' hq; omega); have RB6 : Rw w6 w.heap.size 36 #[.int .i64 a.p, .int .i64 a.s, .int .i64 a.i] := (RB9.later hbA).grown hg6 (fun q' hq => by have := hBg q' hq; omega); have hB6 : w.heap.size + 1 ≤ w6.heap.size := Nat.le_trans (Nat.le_trans hB9 hbA.size) hg6.size; obtain ⟨g', o', e', hd'⟩ := HA.out.at (by omega)
            have d6 : w6.rangeAt g (o + k * 3) y.cells := by
              simp only [Option.some.injEq, Addr.mk.injEq, and_true] at e'; obtain ⟨rfl, rfl⟩ := e'
              have := M.elem (range_later hd' hb6) k hlt
              rw [HY.out] at this; exact this
            clear hd' e' hg6 hbA hown9 d9 RB9 hb9
            replace hown6 : w6.ownsRow (w.heap.size + 1) 36 3 v2 (m ++ [a]).length (rows M.cells (m ++ [a])) := by
              rw [rows_append, rows_one, List.length_append]; exact hown6
            obtain ⟨P2, c3_, rfl⟩ := own_sl hown6
            have hBg2 : ∀ q', (Value.slice P2 (m ++ [a]).length c3_).ownBlock = some q' → w.heap.size + 1 ≤ q' := fun q' hq => (World.ownsRow.lt hown6 q' hq).1
            obtain ⟨m2, HM3⟩ := hid_ex (m ++ [a])
            have hl2 : m2.length = m.length + 1 := by rw [← HM3.out, List.length_append]; rfl
            rw [HM3.out] at hown6 hBg2; rw [HM3.out]
            have hy3 : m2.length + 1 ≤ maxLen := by rw [hl2]; exact hx3
            have hy4 : (m2.length + 1) * 24 ≤ 140737488355328 := by rw [hl2]; exact hx4
            have HM4 : WInv a l (k + 1) true (m2 ++ [y]) := by rw [← HM3.out]; exact HM2
            have hm2k : m2.length ≤ k + 1 := by rw [hl2]; exact Nat.add_le_add_right hmk 1
            clear hl2 HM3 hx3 hx4 hc1 hc3 hc4 hc5 hB9 HM2
            go_wp2_with (first
              | refine load_m 36 _ rfl rfl _ _ rfl d6 Tryz.underlying36 rfl zm ?_
              | (at_builtin; refine wpList_append_own _ rfl _ _ 46 rfl (w.heap.size + 1) 36 i0 (MV 0 0 0) 3 24 Tryz.underlying46 hi hz0 hz1 hz2 rfl (by decide) _ _ _ rfl (hown6.alloc _) ⟨w6.heap.size, 0, none⟩ 1 1 y.cells rfl rfl ?c1 (M.one y) hy3 hy4 ?c5 ?_))
            case c1 => exact fun q u hq => (cells_next _ (by simp) _ _ _).trans hq
            case c5 => simp; omega
            intro v3 w8 hown8 hg8 _; have hbA := bel_alloc (Below.refl w6.heap.size w6) (.cells y.cells.toArray 36); have hb8 := (below_on hb6 hbA).grown hg8 (Nat.le_trans (below_on hb6 hbA).size (Nat.le_refl _)) (fun q' hq => by have := hBg2 q' hq; omega); have RB8 : Rw w8 w.heap.size 36 #[.int .i64 a.p, .int .i64 a.s, .int .i64 a.i] := (RB6.later hbA).grown hg8 (fun q' hq => by have := hBg2 q' hq; omega); have hB8 : w.heap.size + 1 ≤ w8.heap.size := Nat.le_trans (Nat.le_trans hB6 hbA.size) hg8.size; clear hg8 hbA hown6 d6 RB6; go_wp2_with fail; go_roundw
            case rel =>
              refine ⟨k + 1, _, m2 ++ [y], by simp, by omega, rfl, by simp; omega, ?_, HM4, HV2, RB8, hb8, hB8⟩; rw [rows_append, rows_one, List.length_append]; exact hown8
            case measure => simp [intOf]; omega
        · obtain ⟨hm1, j, hj, hjk, hlj⟩ := HM.1 rfl
          have hly : lt y a = false := lt_asymm (by
            have h1 := pair_at HP.out j k hlt hjk; rw [HY.out] at h1
            exact lt_trans hlj h1)
          have HM2 : WInv a l (k + 1) true (m ++ [y]) := ⟨fun _ => ⟨by rw [HTK.out, insF_snoc hly, hm1], j, hj, by omega, hlj⟩, (fun h => by cases h)⟩; clear hm1 hlj HM hly
          have hs : Calm.Stays (fun w' => Rw w' w.heap.size 36 #[.int .i64 a.p, .int .i64 a.s, .int .i64 a.i] ∧ w'.rangeAt g (o + k * 3) y.cells ∧ w'.ownsRow (w.heap.size + 1) 36 3 (.slice P m.length cc) m.length (rows M.cells m) ∧ Below w7.heap.size w7 w') := fun wa wb h hb => ⟨h.1.later hb, range_later h.2.1 hb, own_later h.2.2.1 hb, below_on h.2.2.2 hb⟩
          refine Calm.region (by kernel_rfl) (by kernel_rfl) (fun w' => Rw w' w.heap.size 36 #[.int .i64 a.p, .int .i64 a.s, .int .i64 a.i] ∧ w'.rangeAt g (o + k * 3) y.cells ∧ w'.ownsRow (w.heap.size + 1) 36 3 (.slice P m.length cc) m.length (rows M.cells m) ∧ Below w7.heap.size w7 w') ⟨RB7, d7, hown7, (Below.refl _ _).drew⟩ ?_
          iterate 3
            all_goals
              refine Calm.pure (v := ?_) (by rfl) ?_ ?_; rotate_left; focus (intro w hSw; go_simp <;> rfl)
              simp only [put4]
          all_goals
            first
              | (refine Calm.skip ?_ ?_; focus rfl)
              | (first | (refine Calm.loadM 36 Tryz.underlying36 rfl za (by rfl) _ rfl rfl (fun _ h => Rw.whole h.1) ?_) | (refine Calm.loadM 36 Tryz.underlying36 rfl zm (by rfl) _ rfl rfl (fun _ h => h.2.1) ?_))
            simp only [put4]
          iterate 3
            all_goals
              first
                | (refine Calm.skip ?_ ?_; focus rfl)
                | (refine Calm.pure (v := ?_) (by rfl) ?_ ?_
                   rotate_left
                   focus (intro w hSw; go_simp <;> rfl))
              simp only [put4]
          all_goals
            first
              | (refine Calm.skip ?_ ?_; focus rfl)
              | (first | (refine Calm.loadM 36 Tryz.underlying36 rfl za (by rfl) _ rfl rfl (fun _ h => Rw.whole h.1) ?_) | (refine Calm.loadM 36 Tryz.underlying36 rfl zm (by rfl) _ rfl rfl (fun _ h => h.2.1) ?_))
            simp only [put4]
          all_goals
            first
              | (refine Calm.skip ?_ ?_; focus rfl)
              | (refine Calm.call2s (by rfl) rfl rfl rfl (by kernel_rfl) hs (fun w1 h => C2 w1) ?_)
            simp only [put4]
          all_goals
            refine Calm.pure (v := ?_) (by rfl) ?_ ?_; rotate_left; focus (intro w hSw; go_simp <;> rfl)
            simp only [put4]
          all_goals
            rintro w9 ⟨RB9, d9, hown9, hbel9⟩
          have hb9 := below_on (below_on hbel hbel7) hbel9; have hB9 := Nat.le_trans (Nat.le_trans hB hbel7.size) hbel9.size
          have hBg : ∀ q', (Value.slice P m.length cc).ownBlock = some q' → w.heap.size + 1 ≤ q' := fun q' hq => (World.ownsRow.lt hown9 q' hq).1
          clear hbel7 hbel9 RB7 d7 hown7 RB d hown
          go_wp2_with (first
            | refine load_m 36 _ rfl rfl _ _ rfl d9 Tryz.underlying36 rfl zm ?_
            | (at_builtin; refine wpList_append_own _ rfl _ _ 46 rfl (w.heap.size + 1) 36 i0 (MV 0 0 0) 3 24 Tryz.underlying46 hi hz0 hz1 hz2 rfl (by decide) _ _ _ rfl (hown9.alloc _) ⟨w9.heap.size, 0, none⟩ 1 1 y.cells rfl rfl ?c1 ?c2 ?c3 ?c4 ?c5 ?_))
          case c1 => exact fun q u hq => (cells_next _ (by simp) _ _ _).trans hq
          case c2 => exact M.one y
          case c3 => unfold maxLen; omega
          case c4 => omega
          case c5 => simp; omega
          intro v2 w6 hown6 hg6 _; have hbA := bel_alloc (Below.refl w9.heap.size w9) (.cells y.cells.toArray 36); have hb6 := (below_on hb9 hbA).grown hg6 (Nat.le_trans (below_on hb9 hbA).size (Nat.le_refl _)) (fun q' hq => by have := hBg q' hq; omega); have RB6 : Rw w6 w.heap.size 36 #[.int .i64 a.p, .int .i64 a.s, .int .i64 a.i] := (RB9.later hbA).grown hg6 (fun q' hq => by have := hBg q' hq; omega); have hB6 : w.heap.size + 1 ≤ w6.heap.size := Nat.le_trans (Nat.le_trans hB9 hbA.size) hg6.size; clear hg6 hbA hown9 d9; go_wp2_with fail; go_roundw
          case rel =>
            refine ⟨k + 1, _, m ++ [y], by simp, by omega, rfl, by simp; omega, ?_, HM2, HV2, RB6, hb6, hB6⟩; rw [rows_append, rows_one, List.length_append]; exact hown6
          case measure => simp [intOf]; omega
      · have HE : Hid (l = z) := by
          have e := HZ.out; unfold wth at e; rw [show has a l = true from ?_] at e
          · exact e
          · unfold has
            rw [List.any_eq_true]; exact ⟨l[k], List.getElem_mem _, by rw [HY.out]; exact HZ1.out⟩
        go_wp2_with fail
        have hs : Calm.Stays (fun w' => Rw w' w.heap.size 36 #[.int .i64 a.p, .int .i64 a.s, .int .i64 a.i] ∧ w'.rangeAt g (o + k * 3) y.cells ∧ w'.ownsRow (w.heap.size + 1) 36 3 (.slice P m.length cc) m.length (rows M.cells m) ∧ Below wr.heap.size wr w') := fun wa wb h hb => ⟨h.1.later hb, range_later h.2.1 hb, own_later h.2.2.1 hb, below_on h.2.2.2 hb⟩
        refine Calm.region (by kernel_rfl) (by kernel_rfl) (fun w' => Rw w' w.heap.size 36 #[.int .i64 a.p, .int .i64 a.s, .int .i64 a.i] ∧ w'.rangeAt g (o + k * 3) y.cells ∧ w'.ownsRow (w.heap.size + 1) 36 3 (.slice P m.length cc) m.length (rows M.cells m) ∧ Below wr.heap.size wr w') ⟨RB, d, hown, (Below.refl _ _).drew⟩ ?_
        iterate 3
          all_goals
            refine Calm.pure (v := ?_) (by rfl) ?_ ?_; rotate_left; focus (intro w hSw; go_simp <;> rfl)
            simp only [put4]
        iterate 2
          all_goals
            first | (refine Calm.loadM 36 Tryz.underlying36 rfl zm (by rfl) _ rfl rfl (fun _ h => h.2.1) ?_) | (refine Calm.loadM 36 Tryz.underlying36 rfl za (by rfl) _ rfl rfl (fun _ h => Rw.whole h.1) ?_)
            simp only [put4]
        all_goals
          refine Calm.pure (v := ?_) (by rfl) ?_ ?_; rotate_left; focus (intro w hSw; go_simp <;> rfl)
          simp only [put4]
        all_goals
          rintro w7 ⟨RB7, d7, hown7, hbel7⟩
        go_wp2_with fail; go_ret; rw [HQ.out]; exact ⟨_, rfl, .inl ⟨rfl, HE.out.symm⟩, below_on hbel hbel7⟩
    · have hlt' : ¬ (k : Int) < (l.length : Int) := by omega
      obtain rfl : k = l.length := by omega
      have HE : Hid (insF a l = z) := by
        have e := HZ.out; unfold wth at e; rw [show has a l = false from ?_] at e
        · exact e
        · rw [has_false]
          intro y hy; obtain ⟨j, hj, rfl⟩ := List.getElem_of_mem hy; exact HV.out j hj hj
      have hBg : ∀ q', (Value.slice P m.length cc).ownBlock = some q' → w.heap.size + 1 ≤ q' := fun q' hq => (World.ownsRow.lt hown q' hq).1
      cases fl
      · obtain ⟨hm1, hm2⟩ := HM.2 rfl
        rw [List.take_length] at hm1 hm2
        have HE2 : Hid (m ++ [a] = z) := by
          show _ = _
          rw [← HE.out, insF_all hm2, hm1]
        have hml : m.length ≤ 100 := by rw [hm1]; exact hl
        clear hm1 hm2 HM HE
        have hc1 : ∀ q u, a.cells[q]? = some u → (wr.alloc (.cells #[.int .i64 a.p, .int .i64 a.s, .int .i64 a.i] 36)).cell? ((⟨wr.heap.size, 0, none⟩ : Addr).add q) = some u := fun q u hq => (cells_new wr a.cells 36 q).trans hq
        have hc3 : m.length + 1 ≤ maxLen := by unfold maxLen; omega
        have hc4 : (m.length + 1) * 24 ≤ 140737488355328 := by omega
        have hc5 : w.heap.size + 1 ≤ (wr.alloc (.cells #[.int .i64 a.p, .int .i64 a.s, .int .i64 a.i] 36)).heap.size := by simp; omega
        go_wp2_with (first
          | refine load_r 36 _ rfl rfl _ rfl RB Tryz.underlying36 rfl size36 ?_
          | (at_builtin; refine wpList_append_own _ rfl _ _ 46 rfl (w.heap.size + 1) 36 i0 (MV 0 0 0) 3 24 Tryz.underlying46 hi hz0 hz1 hz2 rfl (by decide) _ _ _ rfl (hown.alloc _) ⟨wr.heap.size, 0, none⟩ 1 1 a.cells rfl rfl hc1 (M.one a) hc3 hc4 hc5 ?_))
        intro v2 w6 hown6 hg6 _; have hbA := bel_alloc (Below.refl wr.heap.size wr) (.cells #[.int .i64 a.p, .int .i64 a.s, .int .i64 a.i] 36); have hb6 := (below_on hbel hbA).grown hg6 (Nat.le_trans (below_on hbel hbA).size (Nat.le_refl _)) (fun q' hq => by have := hBg q' hq; omega)
        replace hown6 : w6.ownsRow (w.heap.size + 1) 36 3 v2 (m ++ [a]).length (rows M.cells (m ++ [a])) := by
          rw [rows_append, rows_one, List.length_append]; exact hown6
        have HS : Hid (w6.ownsRow w.heap.size 36 3 v2 z.length (rows M.cells z)) := by
          have := own_mono hown6 (show w.heap.size ≤ w.heap.size + 1 by omega)
          rw [HE2.out] at this; exact this
        obtain ⟨P2, c3_, rfl⟩ := own_sl hown6; clear hg6 hbA hown6 hBg; go_wp2_with fail; go_ret; rw [HQ.out]; exact ⟨_, rfl, .inr HS.out, hb6⟩
      · obtain ⟨hm1, _⟩ := HM.1 rfl
        rw [List.take_length] at hm1
        have HE2 : Hid (m = z) := by
          show _ = _
          rw [← HE.out, hm1]
        have HS : Hid (wr.ownsRow w.heap.size 36 3 (.slice P m.length cc) z.length (rows M.cells z)) := by
          have := own_mono hown (show w.heap.size ≤ w.heap.size + 1 by omega)
          show wr.ownsRow _ _ _ _ z.length (rows M.cells z)
          rw [← HE2.out]; exact this
        clear hm1 HM hown; go_wp2_with fail; go_ret; rw [HQ.out]; exact ⟨_, rfl, .inr HS.out, hbel⟩
end Go.Proofs.YtfjpbmdmkcihcaaGreat
/- Whole elements written into a row of one's own; what is appended to such a row. -/
namespace Go.Proofs.YtfjpbmdmkcihcaaGreat
open Go.RowKit

theorem own_cells {w : World} {B e S n g c : Nat} : ∀ (cs : List Value) {xs : List Value} (o : Nat), w.ownsRow B e S (.slice (some ⟨g, 0, none⟩) n c) n xs → ∃ ys, (w.setCells g o cs).ownsRow B e S (.slice (some ⟨g, 0, none⟩) n c) n ys ∧ ∀ i, ys[i]? = if o ≤ i ∧ i < o + cs.length ∧ i < xs.length then cs[i - o]? else xs[i]? := by
  intro cs
  induction cs generalizing w with
  | nil =>
    intro xs o h; refine ⟨xs, h, fun i => ?_⟩; rw [if_neg]; simp only [List.length_nil, Nat.add_zero]
    omega
  | cons a cs ih =>
    intro xs o h; obtain ⟨ys, h1, h2⟩ := ih (o + 1) (h.stored o a).1; refine ⟨ys, h1, fun i => ?_⟩; rw [h2 i]; simp only [List.length_set, List.length_cons, List.getElem?_set]
    by_cases hi : i < xs.length
    · by_cases ho : o = i
      · subst ho
        rw [if_neg (by omega), if_pos rfl, if_pos hi, if_pos (by omega)]
        simp
      · rw [if_neg ho]
        by_cases h3 : o + 1 ≤ i ∧ i < o + 1 + cs.length
        · rw [if_pos ⟨h3.1, h3.2, hi⟩, if_pos (by omega)]
          obtain ⟨k, rfl⟩ : ∃ k, i = o + 1 + k := ⟨i - (o + 1), by omega⟩; rw [show o + 1 + k - (o + 1) = k by omega, show o + 1 + k - o = k + 1 by omega, List.getElem?_cons_succ]
        · rw [if_neg (fun h => h3 ⟨h.1, h.2.1⟩), if_neg (by omega)]
    · have hn : xs[i]? = none := List.getElem?_eq_none (by omega)
      have a1 : ¬ (o + 1 ≤ i ∧ i < o + 1 + cs.length ∧ i < xs.length) := fun h => hi h.2.2
      have a2 : ¬ (o ≤ i ∧ i < o + (cs.length + 1) ∧ i < xs.length) := fun h => hi h.2.2
      rw [if_neg a1, if_neg a2]
      by_cases ho : o = i
      · subst ho
        rw [if_pos rfl, if_neg hi, hn]
      · rw [if_neg ho]
theorem rows_put {α : Type} {f : α → List Value} {S : Nat} (hf : ∀ x, (f x).length = S) {l : List α} {k : Nat} (hk : k < l.length) (x : α) {ys : List Value} (h : ∀ i, ys[i]? = if k * S ≤ i ∧ i < k * S + S ∧ i < (rows f l).length then (f x)[i - k * S]? else (rows f l)[i]?) : ys = rows f (l.set k x) := by
  have e1 : rows f (l.set k x) = rows f (l.take k) ++ (f x ++ rows f (l.drop (k + 1))) := by
    rw [List.set_eq_take_append_cons_drop, if_pos hk, rows_append, rows_cons]
  have e2 : rows f l = rows f (l.take k) ++ (f l[k] ++ rows f (l.drop (k + 1))) := by
    conv => lhs; rw [← List.take_append_drop k l, List.drop_eq_getElem_cons hk, rows_append, rows_cons]
  have hL : (rows f (l.take k)).length = k * S := by rw [rows_length hf, List.length_take, Nat.min_eq_left (by omega)]
  apply List.ext_getElem?
  intro i; rw [h i, e1, e2]; generalize rows f (l.take k) = A at hL; generalize rows f (l.drop (k + 1)) = C; have h1 := hf x; have h2 := hf l[k]
  have h3 : (A ++ (f l[k] ++ C)).length = k * S + S + C.length := by rw [List.length_append, List.length_append]; omega
  rcases Nat.lt_or_ge i (k * S) with c1 | c1
  · have r1 : (A ++ (f l[k] ++ C))[i]? = A[i]? := List.getElem?_append_left (by omega)
    have r2 : (A ++ (f x ++ C))[i]? = A[i]? := List.getElem?_append_left (by omega); rw [if_neg (by omega), r1, r2]
  · rcases Nat.lt_or_ge i (k * S + S) with c2 | c2
    · have r2 : (A ++ (f x ++ C))[i]? = (f x)[i - k * S]? := by
        rw [List.getElem?_append_right (by omega), List.getElem?_append_left (by omega), hL]
      rw [if_pos ⟨c1, c2, by omega⟩, r2]
    · have r1 : (A ++ (f l[k] ++ C))[i]? = C[i - k * S - S]? := by
        rw [List.getElem?_append_right (by omega), List.getElem?_append_right (by omega), hL, h2]
      have r2 : (A ++ (f x ++ C))[i]? = C[i - k * S - S]? := by
        rw [List.getElem?_append_right (by omega), List.getElem?_append_right (by omega), hL, h1]
      rw [if_neg (by omega), r1, r2]
/-- An element is written whole. -/
theorem own_put {w : World} {B e S n g c : Nat} {α : Type} {f : α → List Value} (hf : ∀ x, (f x).length = S) {l : List α} (h : w.ownsRow B e S (.slice (some ⟨g, 0, none⟩) n c) n (rows f l)) {k : Nat} (hk : k < l.length) (x : α) : (w.setCells g (k * S) (f x)).ownsRow B e S (.slice (some ⟨g, 0, none⟩) n c) n (rows f (l.set k x)) := by
  obtain ⟨ys, h1, h2⟩ := own_cells (f x) (k * S) h; rw [hf x] at h2; rw [← rows_put hf hk x h2]; exact h1
theorem setCells_ne {w : World} {g b : Nat} (hne : b ≠ g) : ∀ (cs : List Value) (o : Nat), (w.setCells g o cs).heap[b]? = w.heap[b]? := by
  intro cs
  induction cs generalizing w with
  | nil => intro o; rfl
  | cons a cs ih =>
    intro o
    show ((w.setCell ⟨g, o, none⟩ a).setCells g (o + 1) cs).heap[b]? = _
    rw [ih]; exact Below.heap_setCell w _ a b hne
theorem size_setCells (w : World) (g : Nat) : ∀ (cs : List Value) (o : Nat), (w.setCells g o cs).heap.size = w.heap.size := by
  intro cs
  induction cs generalizing w with
  | nil => intro o; rfl
  | cons a cs ih =>
    intro o
    show ((w.setCell ⟨g, o, none⟩ a).setCells g (o + 1) cs).heap.size = _
    rw [ih, World.size_setCell]
theorem bel_setCells {n g : Nat} {w0 w : World} (h : Below n w0 w) (hg : n ≤ g) : ∀ (cs : List Value) (o : Nat), Below n w0 (w.setCells g o cs) := by
  intro cs
  induction cs generalizing w with
  | nil => intro o; exact h
  | cons a cs ih =>
    intro o; exact ih (h.setCell (p := ⟨g, o, none⟩) hg a) (o + 1)
theorem rw_setCells {w : World} {b g : Nat} {t : TypeId} {cs : Array Value} (h : Rw w b t cs) (hne : b ≠ g) (vs : List Value) (o : Nat) : Rw (w.setCells g o vs) b t cs := (setCells_ne hne vs o).trans h
theorem range_setCells {w : World} {g g' o' : Nat} {xs : List Value} (h : w.rangeAt g' o' xs) (hne : g' ≠ g) (vs : List Value) (o : Nat) : (w.setCells g o vs).rangeAt g' o' xs := fun j u hu => (World.cell?_of_block (setCells_ne hne vs o)).trans (h j u hu)
theorem there_own {w : World} {B e S n g c : Nat} {xs : List Value} (h : w.ownsRow B e S (.slice (some ⟨g, 0, none⟩) n c) n xs) {o m : Nat} (ho : o + m ≤ xs.length) : w.there g o m := fun j hj => by
  have hc := h.cells rfl (o + j) _ (List.getElem?_eq_getElem (by omega)); rw [Addr.add_mid, Nat.zero_add] at hc; exact ⟨by rw [hc]; rfl, h.frozenAt (o + j)⟩
/-- What lies somewhere is appended. -/
theorem wpList_append_sh {w : World} {ops : Array Oper} {rest : List Oper} {o : Oper} {a : Act} {Q : Exit → Act → World → Prop} (hgd : o.guard = none) (s x : Operand) (t : TypeId)
    (ho : o.op = .call { callee := .builtin .append, args := #[s, x], argTypes := #[t, t] })
    (base : Nat) (e : TypeId) (i : TypeInfo) (z : Value) (size bytes : Nat) (ht : Tryz.prog.underlying t = some (.slice e)) (hi : Tryz.prog.info? e = some i) (hz : i.zero = some z)
    (hsize : i.size = size) (hby : i.bytes = bytes) (hzs : z.cells.size = size) (hsz : 0 < size)
    (v : Value) (n : Nat) (xs : List Value) (hs : a.eval s = v) (hown : w.ownsRow base e size v n xs)
    (u : Value) (m : Nat) (news : List Value) (hx : a.eval x = u) (hu : SHas size w u m news) (h1 : ∀ u ∈ news, u.oneCell' = true)
    (h63 : n + m ≤ maxLen) (hbytes : (n + m) * bytes ≤ 140737488355328) (hbase : base ≤ w.heap.size)
    (h : ∀ v' w', w'.ownsRow base e size v' (n + m) (xs ++ news) → w.grownBy w' v.ownBlock → (v ≠ .slice none 0 0 → v' ≠ .slice none 0 0) → wpList Tryz.prog ops Q rest (a.put o.dst v') w') : wpList Tryz.prog ops Q (o :: rest) a w := by
  obtain ⟨_, hlen, ⟨rfl, rfl⟩ | ⟨ad, c, rfl, _, hd⟩⟩ := hu
  · have hn : news = [] := List.length_eq_zero_iff.1 (by rw [hlen, Nat.zero_mul])
    subst hn; refine wpList_append_own_none hgd s x t ho base e i size ht hi v n xs hs hown hx (h v w ?_ ⟨rfl, rfl, rfl, Nat.le_refl _, fun _ _ _ => rfl⟩ (fun h => h)); rw [Nat.add_zero, List.append_nil]; exact hown
  · refine wpList_append_own w hgd s x t ho base e i z size bytes ht hi hz hsize hby hzs hsz v n xs hs hown ad m c news hx hlen (fun j u hu => ?_) h1 h63 hbytes hbase (fun v' w' h2 h3 h4 => h v' w' h2 h3 (fun hn hc => hn (h4.1 hc).1))
    have hm : 0 < m := by
      have := (List.getElem?_eq_some_iff.1 hu).1
      rw [hlen] at this; exact Nat.pos_of_ne_zero (fun h0 => by rw [h0, Nat.zero_mul] at this; omega)
    obtain ⟨g, o', rfl, hr⟩ := hd hm; rw [Addr.add_mid]; exact hr j u hu
end Go.Proofs.YtfjpbmdmkcihcaaGreat
