import Derived.Test.YtcebchjokmampaaQStableClosed1
import Derived.Test.YtcebchjokmampaaP9
/- What StableAll says. -/
namespace Go.Proofs.Ytcebchjokmampaa
open Go.RowKit

def jnV (a b : Vc) : Vc := ⟨jn a.l b.l, jn_length a.h b.h⟩
theorem lq_jn (a b : Vc) : lq b.l (jnV a b).l = true := (lq_iff b.h (jnV a b).h).2 fun i hi => by
  rw [show (jnV a b).l = jn a.l b.l from rfl, jn_at a.h b.h i hi]
  omega
theorem lq_anti {a b : Vc} (h1 : lq a.l b.l = true) (h2 : lq b.l a.l = true) : a = b :=
  Vc.ext (ext13 a.h b.h fun i hi => Int.le_antisymm ((lq_iff a.h b.h).1 h1 i hi) ((lq_iff b.h a.h).1 h2 i hi))
theorem ctL_all (M : List Vc) (self : Int) (own : Vc) (live : List Int) (h : ∀ p ∈ live, lq own.l (M.getD p.toNat z0).l = true) : ctL M self own live = own :=
  lq_anti (ctL_own M self own live) ((ctL_iff M self own live own).2 ⟨lq_self own, fun p hp _ => h p hp⟩)
set_option maxHeartbeats 8000000 in
set_option maxRecDepth 100000 in
theorem all20_law (K : Prs) (M : List Vc) (hM : M.length = 13) (self : Int) (own : Vc) (live : List Int) (sv : Value) (w : World) (h : IHas w sv live) : Calls Try.prog 3 #[RV M, .int .i64 self, V own.l, sv] w (Tells (.bool true) w) := by
  obtain ⟨q, c, rfl⟩ := SHas.slice h
  have hml := maxLen_lt h.1
  obtain ⟨R1, R2, hbel⟩ := two_rows w (rows Vc.cells M).toArray 24 (vals own.l).toArray 23
  generalize hW : (w.alloc (.cells (rows Vc.cells M).toArray 24)).alloc (.cells (vals own.l).toArray 23) = w0 at R1 R2 hbel
  have zv := size_v own.h
  go_enter Try.func3, Try.ntmps3
  go_upto_region 1 with (rw [hW])
  clear hW
  by_cases h40 : live.length ≤ 40
  case neg =>
    have h40' : (40 : Int) < (live.length : Int) := by omega
    go_wp2_with fail
    refine (K.heads _).mono ?_
    rintro e w2 ⟨rfl, hb2⟩
    go_wp2_with fail
    go_ret
    exact ⟨rfl, below_on hbel hb2⟩
  have h40' : ¬ (40 : Int) < (live.length : Int) := by omega
  by_cases hs1 : self < 1
  · go_wp2_with fail
    refine (K.heads _).mono ?_
    rintro e w2 ⟨rfl, hb2⟩
    go_wp2_with fail
    go_ret
    exact ⟨rfl, below_on hbel hb2⟩
  by_cases hs2 : 12 < self
  · go_wp2_with fail
    refine (K.heads _).mono ?_
    rintro e w2 ⟨rfl, hb2⟩
    go_wp2_with fail
    go_ret
    exact ⟨rfl, below_on hbel hb2⟩
  have HS : Hid (wi self 1 12 = true) := wi_iff.2 ⟨by omega, by omega⟩
  go_wp2_with fail
  clear hs1 hs2 h40'
  go_loopw [9] (fun vi wr => ∃ (k : Nat) (Mk : List Vc), vi = .int .i64 k ∧ k ≤ live.length ∧ Mk.length = 13 ∧ Hid ((∀ i (h : i < live.length), i < k → wi live[i] 1 12 = true) ∧ ∀ i (h : i + 1 < live.length), i + 1 < k → live[i]'(by omega) < live[i + 1]) ∧ Hid (∀ i (h : i < live.length), i < k → lq own.l (Mk.getD live[i].toNat z0).l = true) ∧ Rw wr w.heap.size 24 (rows Vc.cells Mk).toArray ∧ Rw wr (w.heap.size + 1) 23 (vals own.l).toArray ∧ Below w.heap.size w wr) (fun vi _ => live.length - (intOf vi).toNat)
  case atStart => exact ⟨0, M, rfl, by omega, hM, (show _ ∧ _ from ⟨fun i _ h => by omega, fun i _ h => by omega⟩), (show ∀ i (_ : i < live.length), i < 0 → _ from fun i _ h => by omega), R1, R2, hbel⟩
  case round =>
    clear R1 R2 hbel
    obtain ⟨k, Mk, rfl, hk, hMk, HV, HQ, R1, R2, hbel⟩ := hrel
    by_cases hlt : k < live.length
    · have hlt' : (k : Int) < (live.length : Int) := by omega
      obtain ⟨g, o, rfl, hd0⟩ := IHas.at h k hlt
      have hgl : g < w.heap.size := SHas.block (by decide) h rfl (show 0 < live.length by omega)
      have hd : ∀ i (hi : i < live.length), wr.cell? ⟨g, o + i, none⟩ = some (.int .i64 live[i]) := fun i hi => cell_later hbel (hd0 i hi)
      clear hd0
      have c1 := hd k hlt
      obtain ⟨x, HX⟩ := hid_ex live[k]
      rw [HX.out] at c1
      have hb0 : Hid (∀ w', Below wr.heap.size wr w' → Below w.heap.size w w') := fun w' hb => below_on hbel hb
      obtain ⟨bad, HBAD⟩ : ∃ b : Bool, Hid (b = true ↔ (x < 1 ∨ 12 < x ∨ ∃ j, ∃ hj : k = j + 1, x ≤ live[j]'(by omega))) := by
        by_cases hp : (x < 1 ∨ 12 < x ∨ ∃ j, ∃ hj : k = j + 1, x ≤ live[j]'(by omega))
        · exact ⟨true, (show _ ↔ _ from ⟨fun _ => hp, fun _ => rfl⟩)⟩
        · exact ⟨false, (show _ ↔ _ from ⟨(fun e => by cases e), fun e => absurd e hp⟩)⟩
      go_upto_region 6 with fail
      go_cut [55] from 22 to 69 (fun vb wx => vb = .bool bad ∧ Below wr.heap.size wr wx)
      case first =>
        by_cases hk0 : k = 0
        · subst hk0
          rw [Nat.add_zero] at c1
          by_cases hx1 : x < 1
          · obtain rfl : true = bad := (HBAD.out.2 (.inl hx1)).symm
            refine Calm.region (by kernel_rfl) (by kernel_rfl) (fun w' : World => w'.cell? ⟨g, o, none⟩ = some (.int .i64 x) ∧ Below wr.heap.size wr w') ⟨c1, (Below.refl _ _).drew⟩ ?_
            iterate 3 (refine Calm.pu ?_)
            refine Calm.ce (fun _ h => h.1) ?_
            iterate 24 (first | refine Calm.sk ?_ | refine Calm.pu ?_)
            intro w4 hS4
            go_wp2_with fail
            go_meet
            case rel => exact ⟨rfl, hS4.2⟩
          · by_cases hx2 : 12 < x
            · obtain rfl : true = bad := (HBAD.out.2 (.inr (.inl hx2))).symm
              refine Calm.region (by kernel_rfl) (by kernel_rfl) (fun w' : World => w'.cell? ⟨g, o, none⟩ = some (.int .i64 x) ∧ Below wr.heap.size wr w') ⟨c1, (Below.refl _ _).drew⟩ ?_
              iterate 3 (refine Calm.pu ?_)
              refine Calm.ce (fun _ h => h.1) ?_
              iterate 5 (refine Calm.pu ?_)
              refine Calm.ce (fun _ h => h.1) ?_
              iterate 18 (first | refine Calm.sk ?_ | refine Calm.pu ?_)
              intro w4 hS4
              go_wp2_with fail
              go_meet
              case rel => exact ⟨rfl, hS4.2⟩
            · obtain rfl : false = bad := by
                refine (Bool.eq_false_iff.2 fun e => ?_).symm
                rcases HBAD.out.1 e with h1 | h1 | ⟨j, hj, _⟩
                · exact hx1 h1
                · exact hx2 h1
                · omega
              refine Calm.region (by kernel_rfl) (by kernel_rfl) (fun w' : World => w'.cell? ⟨g, o, none⟩ = some (.int .i64 x) ∧ Below wr.heap.size wr w') ⟨c1, (Below.refl _ _).drew⟩ ?_
              iterate 3 (refine Calm.pu ?_)
              refine Calm.ce (fun _ h => h.1) ?_
              iterate 5 (refine Calm.pu ?_)
              refine Calm.ce (fun _ h => h.1) ?_
              iterate 18 (first | refine Calm.sk ?_ | refine Calm.pu ?_)
              intro w4 hS4
              go_wp2_with fail
              go_meet
              case rel => exact ⟨rfl, hS4.2⟩
        · obtain ⟨j, rfl⟩ : ∃ j, k = j + 1 := ⟨k - 1, by omega⟩
          have c2 := hd j (by omega)
          obtain ⟨y, HY⟩ := hid_ex (live[j]'(by omega))
          rw [HY.out] at c2
          have hk0' : (0 : Int) < (j : Int) + 1 := by omega
          have e1 : IntKind.i64.wrap (j : Int) = (j : Int) := by rw [IntKind.wrap_i64]; omega
          have hj0 : (0 : Int) ≤ (j : Int) + 1 := by omega
          have hj1 : (j : Int) + 1 < (live.length : Int) := by omega
          have hj2 : (j : Int) < (live.length : Int) := by omega
          rcases (show (x < 1 ∧ true = bad) ∨ (¬ x < 1 ∧ 12 < x ∧ true = bad) ∨ (¬ x < 1 ∧ ¬ 12 < x ∧ x ≤ y ∧ true = bad) ∨ (¬ x < 1 ∧ ¬ 12 < x ∧ ¬ x ≤ y ∧ false = bad) by
            by_cases hx1 : x < 1
            · exact .inl ⟨hx1, (HBAD.out.2 (.inl hx1)).symm⟩
            · by_cases hx2 : 12 < x
              · exact .inr (.inl ⟨hx1, hx2, (HBAD.out.2 (.inr (.inl hx2))).symm⟩)
              · by_cases hxy : x ≤ y
                · exact .inr (.inr (.inl ⟨hx1, hx2, hxy, (HBAD.out.2 (.inr (.inr ⟨j, rfl, by rw [HY.out]; exact hxy⟩))).symm⟩))
                · refine .inr (.inr (.inr ⟨hx1, hx2, hxy, (Bool.eq_false_iff.2 fun e => ?_).symm⟩))
                  rcases HBAD.out.1 e with h1 | h1 | ⟨i, hi, h1⟩
                  · exact hx1 h1
                  · exact hx2 h1
                  · obtain rfl : j = i := by omega
                    rw [HY.out] at h1
                    exact hxy h1) with ⟨hx1, rfl⟩ | ⟨hx1, hx2, rfl⟩ | ⟨hx1, hx2, hxy, rfl⟩ | ⟨hx1, hx2, hxy, rfl⟩
          all_goals
            refine Calm.region (by kernel_rfl) (by kernel_rfl) (fun w' : World => w'.cell? ⟨g, o + (j + 1), none⟩ = some (.int .i64 x) ∧ w'.cell? ⟨g, o + j, none⟩ = some (.int .i64 y) ∧ Below wr.heap.size wr w') ⟨c1, c2, (Below.refl _ _).drew⟩ ?_
            iterate 3 (refine Calm.pu ?_)
            refine Calm.ce (fun _ h => h.1) ?_
            iterate 5 (first | refine Calm.sk ?_ | refine Calm.pu ?_)
            first | refine Calm.sk ?_ | refine Calm.ce (fun _ h => h.1) ?_
            iterate 9 (first | refine Calm.sk ?_ | refine Calm.pu ?_)
            first | refine Calm.sk ?_ | refine Calm.ce (fun _ h => h.1) ?_
            iterate 4 (first | refine Calm.sk ?_ | refine Calm.pu ?_)
            first | refine Calm.sk ?_ | refine Calm.ce (fun _ h => h.2.1) ?_
            iterate 3 (first | refine Calm.sk ?_ | refine Calm.pu ?_)
            intro w4 hS4
            go_wp2_with fail
            go_meet
            case rel => exact ⟨rfl, hS4.2.2⟩
      case rest =>
        obtain ⟨rfl, hb1⟩ := hcut
        cases bad
        case true =>
          go_wp2_with fail
          refine (K.heads _).mono ?_
          rintro e w2 ⟨rfl, hb2⟩
          go_wp2_with fail
          go_ret
          exact ⟨rfl, below_on (below_on hbel hb1) hb2⟩
        have hbd : ¬ (x < 1 ∨ 12 < x ∨ ∃ j, ∃ hj : k = j + 1, x ≤ live[j]'(by omega)) := fun e => by
          have := HBAD.out.2 e
          cases this
        have hx1 : 1 ≤ x := by
          rcases Int.lt_or_le x 1 with h' | h'
          · exact absurd (.inl h') hbd
          · exact h'
        have hx2 : x ≤ 12 := by
          rcases Int.lt_or_le 12 x with h' | h'
          · exact absurd (.inr (.inl h')) hbd
          · exact h'
        have HV2 : Hid ((∀ i (h : i < live.length), i < k + 1 → wi live[i] 1 12 = true) ∧ ∀ i (h : i + 1 < live.length), i + 1 < k + 1 → live[i]'(by omega) < live[i + 1]) := show _ ∧ _ from ⟨fun i h hi => by
            rcases Nat.lt_or_ge i k with h3 | h3
            · exact HV.out.1 i h h3
            · obtain rfl : i = k := by omega
              rw [HX.out]
              exact wi_iff.2 ⟨hx1, hx2⟩, fun i h hi => by
            rcases Nat.lt_or_ge (i + 1) k with h3 | h3
            · exact HV.out.2 i h h3
            · obtain rfl : i + 1 = k := by omega
              rw [HX.out]
              rcases Int.lt_or_le (live[i]'(by omega)) x with h' | h'
              · exact h'
              · exact absurd (.inr (.inr ⟨i, rfl, h'⟩)) hbd⟩
        obtain ⟨n, en⟩ : ∃ n : Nat, x = (n : Int) := ⟨x.toNat, by omega⟩
        subst en
        have hn : n < Mk.length := by omega
        have hn' : (n : Int) < 13 := by omega
        have hbw : Below w.heap.size w wc := below_on hbel hb1
        replace R1 := R1.later hb1
        replace R2 := R2.later hb1
        replace c1 := cell_later hb1 c1
        clear hbd HBAD hd hb0 hbel hb1
        have dn := row_at R1 n hn
        have dv := range_of R2
        have z1 := info_vals Mk[n].h
        have z2 := info_vals own.h
        have hS : wc.cell? ⟨g, o + k, none⟩ = some (.int .i64 n) ∧ wc.rangeAt (w.heap.size + 1) 0 (vals own.l) := ⟨c1, dv⟩
        go_wp2_with fail
        refine HeldI.region (fun w' => w'.cell? ⟨g, o + k, none⟩ = some (.int .i64 n) ∧ w'.rangeAt (w.heap.size + 1) 0 (vals own.l)) (by kernel_rfl) ?_
        refine HeldI.pu 0 hS ?_
        refine HeldI.pu 1 hS ?_
        refine HeldI.pu 2 hS ?_
        refine HeldI.ce 3 (fun _ h => h.1) hS ?_
        refine HeldI.pu 4 hS ?_
        refine HeldI.pu 5 hS ?_
        refine HeldI.pu 6 hS ?_
        refine HeldI.ce 7 (fun _ h => h.1) hS ?_
        refine HeldI.pu 8 hS ?_
        refine HeldI.lm 10 z2 (fun _ h => h.2) Try.underlying23 hS ?_
        refine HeldI.la 9 z1 (show wc.drew.rangeAt w.heap.size (n * 13) (vals Mk[n].l) from dn) Try.underlying23 hS ?_
        refine HeldI.kn 11 (refJoin_any Mk[n].l own.l _ Mk[n].h own.h) ?_
        rintro e w3 ⟨rfl, hb3⟩
        have hb3' : Below wc.heap.size wc w3 := below_on (Below.refl _ _).drew hb3
        have hS3 : w3.cell? ⟨g, o + k, none⟩ = some (.int .i64 n) ∧ w3.rangeAt (w.heap.size + 1) 0 (vals own.l) := ⟨cell_later hb3' hS.1, range_later hS.2 hb3'⟩
        refine ⟨_, rfl, hS3, ?_⟩
        replace R1 := R1.later hb3'
        replace R2 := R2.later hb3'
        have ht := there_row R1 n hn
        have P1 := put_row R1 n hn (jnV Mk[n] own)
        have hst : (Instr.storeAt 23 (.pointer (some ⟨w.heap.size, n * 13, none⟩)) (V (jn Mk[n].l own.l))).run Try.prog w3 = .ok () (w3.setCells w.heap.size (n * 13) (vals (jn Mk[n].l own.l))) := by
          have := run_storeAt_mid (P := Try.prog) w3 w.heap.size (n * 13) 23 (vals (jn Mk[n].l own.l)).toArray (by rw [vals_size, jn_length Mk[n].h own.h]; exact ht) (size_v (jn_length Mk[n].h own.h)) (vals_one _)
          rw [List.toList_toArray] at this
          exact this
        refine HeldI.pu 12 hS3 ?_
        refine HeldI.ss 13 hst ?_ ?_
        · exact ⟨(World.cell?_of_block (setCells_ne (b := g) (g := w.heap.size) (by omega) _ _)).trans hS3.1, range_same hS3.2 (setCells_ne (g := w.heap.size) (by omega) _ _)⟩
        refine HeldI.dn ?_
        go_wp2_with fail
        go_roundw
        case rel =>
          refine ⟨k + 1, Mk.set n (jnV Mk[n] own), by simp, by omega, by rw [List.length_set]; exact hMk, HV2, (show ∀ i (_ : i < live.length), i < k + 1 → _ from fun i hi hik => ?_), P1, rw_setCells R2 (by omega) _ _, bel_setCells (below_on hbw hb3') (Nat.le_refl _) _ _⟩
          by_cases e : live[i].toNat = n
          · rw [e, List.getD_eq_getElem?_getD, List.getElem?_set_self hn]
            exact lq_jn Mk[n] own
          · rw [List.getD_eq_getElem?_getD, List.getElem?_set_ne (Ne.symm e), ← List.getD_eq_getElem?_getD]
            rcases Nat.lt_or_ge i k with h3 | h3
            · exact HQ.out i hi h3
            · obtain rfl : i = k := by omega
              rw [HX.out] at e
              simp at e
        case measure => simp [intOf]; omega
    · have hlt' : ¬ (k : Int) < (live.length : Int) := by omega
      have HCK : Hid (ckI live = true) := (ckI_iff live).2 ⟨fun i h => HV.out.1 i h (by omega), fun i h => HV.out.2 i h (by omega)⟩
      have HAL : Hid (∀ p ∈ live, lq own.l (Mk.getD p.toNat z0).l = true) := fun p hp => by
        obtain ⟨i, hi, rfl⟩ := List.getElem_of_mem hp
        exact HQ.out i hi (by omega)
      clear HV HQ
      have E := fun w' => eq_arrays w' own.l own.l own.h own.h
      simp only [BEq.rfl] at E
      have iM := info_rows hMk
      have iv := info_vals own.h
      have hI := SHas.later h hbel
      by_cases hl0 : live.length = 0
      · have gb : ((live.length : Int) == 0) = true := by rw [beq_iff_eq]; omega
        have ST : Calm.Stays (fun w' : World => Below wr.heap.size wr w') := fun a b h hb => below_on h hb
        clear hl0
        go_wp2_with fail
        refine Calm.region (by kernel_rfl) (by kernel_rfl) (fun w' : World => Below wr.heap.size wr w') (Below.refl _ _).drew ?_
        iterate 4 (refine Calm.pu ?_)
        iterate 7 (refine Calm.sk ?_)
        iterate 2 (refine Calm.pu ?_)
        refine Calm.k0 ST (fun w' _ => K.heads w') ?_
        iterate 2 (refine Calm.pu ?_)
        intro w7 hS7
        go_wp2_with fail
        go_ret
        exact ⟨rfl, below_on hbel hS7⟩
      · have gb : ((live.length : Int) == 0) = false := by rw [beq_eq_false_iff_ne]; omega
        have C3 := fun (w' : World) (hb : Below wr.heap.size wr w') => K.cut Mk self own live (.slice q live.length c) w' hMk (SHas.later hI hb)
        have hcb : ctB self live = true := by
          unfold ctB
          rw [HCK.out, HS.out, decide_eq_true hl0]
          rfl
        rw [cutV, if_pos hcb, ctL_all Mk self own live HAL.out] at C3
        have ST : Calm.Stays (fun w' : World => w'.rangeAt w.heap.size 0 (rows Vc.cells Mk) ∧ w'.rangeAt (w.heap.size + 1) 0 (vals own.l) ∧ Below wr.heap.size wr w') := fun a b h hb => ⟨range_later h.1 hb, range_later h.2.1 hb, below_on h.2.2 hb⟩
        clear hl0 hcb
        go_wp2_with fail
        refine Calm.region (by kernel_rfl) (by kernel_rfl) (fun w' : World => w'.rangeAt w.heap.size 0 (rows Vc.cells Mk) ∧ w'.rangeAt (w.heap.size + 1) 0 (vals own.l) ∧ Below wr.heap.size wr w') ⟨range_r R1, range_of R2, (Below.refl _ _).drew⟩ ?_
        iterate 4 (refine Calm.pu ?_)
        refine Calm.lm iM (fun _ h => h.1) Try.underlying24 ?_
        refine Calm.pu ?_
        refine Calm.lm iv (fun _ h => h.2.1) Try.underlying23 ?_
        refine Calm.pu ?_
        refine Calm.k4 ST (fun w' h => C3 w' h.2.2) ?_
        refine Calm.lm iv (fun _ h => h.2.1) Try.underlying23 ?_
        iterate 3 (refine Calm.pu ?_)
        refine Calm.k0 ST (fun w' _ => K.heads w') ?_
        iterate 2 (refine Calm.pu ?_)
        intro w7 hS7
        go_wp2_with fail
        go_ret
        exact ⟨rfl, below_on hbel hS7.2.2⟩
end Go.Proofs.Ytcebchjokmampaa
/- Closed cuts: lists alone, and a cell of rows. -/
namespace Go.Proofs.Ytcebchjokmampaa
open Go.RowKit

/-- A row that comes of transactions that were delivered. -/
def Good (l : List T) (r : Vc) : Prop := ∃ a : List T, clb zeros a = true ∧ r.l = run zeros a ∧ ∀ x ∈ a, x ∈ l
theorem good_zero (l : List T) : Good l z0 := ⟨[], rfl, rfl, fun _ h => by cases h⟩
theorem clb_deps : ∀ (l : List T) (v : List Int), v.length = 13 → clb v l = true → ∀ x ∈ l, lq x.v (run v l) = true
  | y :: l, v, hv, h, x, hx => by
    simp only [clb, Bool.and_eq_true] at h
    have hv' : (stp v y).length = 13 := by rw [stp_length]; exact hv
    rcases List.mem_cons.1 hx with rfl | hx
    · refine lq_mono x.hv hv (by rw [run_length]; exact hv) (rdy_lq h.1) fun i => ?_
      exact Int.le_trans (stp_le hv h.1 i) (run_le l _ hv' h.2 i)
    · exact clb_deps l (stp v y) hv' h.2 x hx
theorem apt_eq {l : List T} (h : Apt l) {x y : T} (hx : x ∈ l) (hy : y ∈ l) (hs : sd x y = true) : x = y := by
  obtain ⟨i, hi, rfl⟩ := List.getElem_of_mem hx
  obtain ⟨j, hj, rfl⟩ := List.getElem_of_mem hy
  rcases Nat.lt_trichotomy i j with h' | h' | h'
  · exact h j hj i h' hs
  · subst h'
    rfl
  · rw [sd_comm] at hs
    exact (h i hi j h' hs).symm
/-- What a good row has, it has with what that has seen. -/
theorem good_deps {l : List T} (ha : Apt l) {r : Vc} (hr : Good l r) {t : T} (ht : t ∈ l) (h : hsT r.l t = true) : lq t.v r.l = true := by
  obtain ⟨a, h1, h2, h3⟩ := hr
  rw [h2] at h ⊢
  obtain ⟨hp, hs, hle⟩ := hsT_iff.1 h
  obtain ⟨x, hx, e1, e2⟩ := run_has a zeros rfl h1 t.p hp.1 hp.2 t.s (by rw [zeros_at]; omega) hle
  have := apt_eq ha (h3 x hx) ht (sd_iff.2 ⟨e1, e2⟩)
  subst this
  exact clb_deps a zeros rfl h1 x hx
theorem has_lq {a b : Vc} {t : T} (h : lq a.l b.l = true) (ht : hsT a.l t = true) : hsT b.l t = true := by
  obtain ⟨hp, hs, hle⟩ := hsT_iff.1 ht
  exact hsT_iff.2 ⟨hp, hs, Int.le_trans hle ((lq_iff a.h b.h).1 h _ (by omega))⟩
/-- A cut of good rows is closed. -/
theorem cut_closed {l : List T} (ha : Apt l) {M : List Vc} (hM : ∀ r ∈ M, Good l r) (self : Int) {own : Vc} (ho : Good l own) (live : List Int) {t : T} (ht : t ∈ l) (h : hsT (ctL M self own live).l t = true) : lq t.v (ctL M self own live).l = true := by
  have hg : ∀ p : Int, Good l (M.getD p.toNat z0) := fun p => by
    rw [List.getD_eq_getElem?_getD]
    cases e : M[p.toNat]? with
    | none => exact good_zero l
    | some r => exact hM r (List.mem_of_getElem? e)
  have e : lq (Vc.mk t.v t.hv).l (ctL M self own live).l = true := (ctL_iff M self ⟨t.v, t.hv⟩ live own).2 ⟨good_deps ha ho ht (has_lq (ctL_own M self own live) h), fun p hp hs => good_deps ha (hg p) ht (has_lq (ctL_row M self own live hp hs) h)⟩
  exact e
theorem good_take {l : List T} {s : List T × List Int} (h : Dok l s) (n : Nat) : Good l ⟨run zeros (s.1.take n), by rw [run_length]; rfl⟩ := by
  refine ⟨s.1.take n, ?_, rfl, fun x hx => h.m x (List.mem_of_mem_take hx)⟩
  have := h.c
  rw [← List.take_append_drop n s.1, clb_append, Bool.and_eq_true] at this
  exact this.1
theorem good_all {l : List T} {s : List T × List Int} (h : Dok l s) : Good l ⟨s.2, h.len⟩ := ⟨s.1, h.c, h.r, h.m⟩
/-- One cell of the rows is written. -/
theorem rows_set {M : List Vc} (p n : Nat) (hp : p < M.length) (hn : n < 13) (z : Int) : (rows Vc.cells M).set (p * 13 + n) (.int .i64 z) = rows Vc.cells (M.set p ⟨M[p].l.set n z, by rw [List.length_set]; exact M[p].h⟩) := by
  refine rows_put Vc.len hp _ fun i => ?_
  have hlen := rows_length Vc.len M
  have hmul := Nat.mul_le_mul_right 13 (show p + 1 ≤ M.length from hp)
  rw [List.getElem?_set]
  by_cases h1 : p * 13 + n = i
  · subst h1
    rw [if_pos rfl, if_pos (by omega), if_pos ⟨by omega, by omega, by omega⟩]
    simp [vals, show n < M[p].l.length by rw [M[p].h]; exact hn]
  · rw [if_neg h1]
    by_cases h2 : p * 13 ≤ i ∧ i < p * 13 + 13 ∧ i < (rows Vc.cells M).length
    · rw [if_pos h2]
      obtain ⟨j, rfl⟩ : ∃ j, i = p * 13 + j := ⟨i - p * 13, by omega⟩
      have hj : j < M[p].l.length := by rw [M[p].h]; omega
      rw [rows_at Vc.len M p hp j (.int .i64 M[p].l[j]) (by simp [vals, hj]), show p * 13 + j - p * 13 = j by omega]
      show _ = (vals (M[p].l.set n z))[j]?
      rw [vals, List.getElem?_map, List.getElem?_set_ne (show n ≠ j by omega), List.getElem?_eq_getElem hj]
      rfl
    · rw [if_neg h2]
theorem rw_set {w : World} {b : Nat} {M : List Vc} (h : Rw w b 24 (rows Vc.cells M).toArray) (p n : Nat) (hp : p < M.length) (hn : n < 13) (z : Int) : Rw (w.setCell ⟨b, p * 13 + n, none⟩ (.int .i64 z)) b 24 (rows Vc.cells (M.set p ⟨M[p].l.set n z, by rw [List.length_set]; exact M[p].h⟩)).toArray := by
  have := h.set (p * 13 + n) (.int .i64 z)
  rw [List.setIfInBounds_toArray, rows_set p n hp hn z] at this
  exact this
end Go.Proofs.Ytcebchjokmampaa
/- What StableClosed says. -/
namespace Go.Proofs.Ytcebchjokmampaa
open Go.RowKit

theorem wrap_n {k : Nat} (h : (k : Int) ≤ 9223372036854775807) : IntKind.i64.wrap (k : Int) = (k : Int) := by
  rw [IntKind.wrap_i64]
  omega
theorem Dok.any (l : List T) (f : Nat) : Dok l (dlv l f l.length) := by
  rcases Nat.eq_zero_or_pos l.length with h | h
  · rw [h]
    exact ⟨rfl, rfl, fun _ h => by cases h⟩
  · exact Dok.all l f h _
set_option maxHeartbeats 16000000 in
set_option maxRecDepth 100000 in
theorem closed20_law (K : Prs) (l : List T) (sv : Value) (fl ml : List Int) (fv mv : Value) (w : World) (h : XHas w sv l) (hf : IHas w fv fl) (hm : IHas w mv ml) : Calls Try.prog 6 #[sv, fv, mv] w (Tells (.bool true) w) := by
  obtain ⟨q, c, rfl⟩ := h.slice
  obtain ⟨qf, cf, rfl⟩ := SHas.slice hf
  obtain ⟨qm, cm, rfl⟩ := SHas.slice hm
  have hml := maxLen_lt h.max
  have hmf := maxLen_lt hf.1
  have hmm := maxLen_lt hm.1
  have ZV := zv24
  have ZN := zc24_ne
  go_enter Try.func6, Try.ntmps6
  go_wp2_with fail
  refine (few_any _ l _ h).mono ?_
  rintro e w1 ⟨b, rfl, hb, hb1⟩
  cases b
  · go_wp2_with fail
    refine (K.heads _).mono ?_
    rintro e w9 ⟨rfl, hb9⟩
    go_wp2_with fail
    go_ret
    exact ⟨rfl, below_on hb1 hb9⟩
  have h40 := hb rfl
  clear hb
  go_wp2_with fail
  refine (refApart_any l _ _ (h.later hb1)).mono ?_
  rintro e w2 ⟨b, rfl, hap, hb2⟩
  replace hb1 := below_on hb1 hb2
  clear hb2
  cases b
  · go_wp2_with fail
    refine (K.heads _).mono ?_
    rintro e w9 ⟨rfl, hb9⟩
    go_wp2_with fail
    go_ret
    exact ⟨rfl, below_on hb1 hb9⟩
  have HAP : Hid (Apt l) := hap rfl
  clear hap
  by_cases hf12 : (fl.length : Int) < 12
  · go_wp2_with fail
    refine (K.heads _).mono ?_
    rintro e w9 ⟨rfl, hb9⟩
    go_wp2_with fail
    go_ret
    exact ⟨rfl, below_on hb1 hb9⟩
  by_cases hm12 : (ml.length : Int) < 12
  · go_wp2_with fail
    refine (K.heads _).mono ?_
    rintro e w9 ⟨rfl, hb9⟩
    go_wp2_with fail
    go_ret
    exact ⟨rfl, below_on hb1 hb9⟩
  have HF : Hid (12 ≤ fl.length) := (show _ ≤ _ by omega)
  have HM : Hid (12 ≤ ml.length) := (show _ ≤ _ by omega)
  obtain ⟨ys0, hy0, hx0⟩ := h.xat
  have HXA : Hid (XAt w (.slice q l.length c) ys0 (fun b => w.heap.size ≤ b)) := hx0.more.sub fun b hb => .inr hb
  clear hx0
  have hoff0 : ∀ (w' : World) (off : Nat → Prop), Below w.heap.size w w' → (∀ b, off b → w.heap.size ≤ b) → XAt w' (.slice q l.length c) ys0 off := fun w' off hb ho => (HXA.out.sub ho).later hb
  go_wp2_with fail
  clear hf12 hm12
  refine (refDeliver_any (fun _ => False) l ys0 hy0 _ 0 w2 (fun _ h => h.elim) (hoff0 w2 _ hb1 (fun _ h => h.elim)) h40 (by omega)).mono ?_
  rintro e w3 ⟨ua, zs, rfl, hzs, hxa, hb3⟩
  replace hb1 := below_on hb1 hb3
  clear hb3
  obtain ⟨sa, HSA⟩ := hid_ex (dlv l 0 l.length)
  have HDA : Hid (Dok l sa) := by rw [← HSA.out]; exact Dok.any l 0
  rw [HSA.out] at hzs ⊢
  have hva := HDA.out.len
  have A8 : At (w3.alloc (.cells #[.int .i64 0, .int .i64 0, .int .i64 0, .int .i64 0, .int .i64 0, .int .i64 0, .int .i64 0, .int .i64 0, .int .i64 0, .int .i64 0, .int .i64 0, .int .i64 0, .int .i64 0] 23)) w3.heap.size zeros := at_new w3 zeros rfl
  have hbA := bel_alloc (Below.refl w3.heap.size w3) (.cells #[.int .i64 0, .int .i64 0, .int .i64 0, .int .i64 0, .int .i64 0, .int .i64 0, .int .i64 0, .int .i64 0, .int .i64 0, .int .i64 0, .int .i64 0, .int .i64 0, .int .i64 0] 23)
  generalize hW1 : w3.alloc (.cells #[.int .i64 0, .int .i64 0, .int .i64 0, .int .i64 0, .int .i64 0, .int .i64 0, .int .i64 0, .int .i64 0, .int .i64 0, .int .i64 0, .int .i64 0, .int .i64 0, .int .i64 0] 23) = w4 at A8 hbA
  have Q8 := A8.row (l := sa.2) hva
  have hb5 := below_setRow hbA (Nat.le_refl _) (vals sa.2).toArray
  generalize hW2 : w4.setRow w3.heap.size (vals sa.2).toArray = w5 at Q8 hb5
  have B9 := rw_new w5 24 zc24
  have hb6 := bel_alloc (Below.refl w5.heap.size w5) (.cells zc24 24)
  have hxa5 := hxa.later hb5
  have hx9 : XAt w5 ua zs (fun b => b = w5.heap.size) := hxa5.more.sub fun b hb => .inr (by omega)
  generalize hW3 : w5.alloc (.cells zc24 24) = w6 at B9 hb6
  rw [zero_rows] at B9
  change Rw w6 w5.heap.size 24 (rows Vc.cells M0).toArray at B9
  replace hx9 := hx9.later hb6
  replace Q8 := Q8.later hb6
  have hbel := below_on (below_on hb1 hb5) hb6
  have h9 : w.heap.size ≤ w5.heap.size := Nat.le_trans hb1.size hb5.size
  have h89 : w3.heap.size ≠ w5.heap.size := by
    have : w3.heap.size < w5.heap.size := by
      have := A8.lt
      have := hbA.size
      have e : w5.heap.size = w4.heap.size := by rw [← hW2]; simp [World.setRow]
      omega
    omega
  have h8 : w.heap.size ≤ w3.heap.size := hb1.size
  go_wp2_with (first | rw [hW1] | (refine store_at rfl _ _ rfl w3.heap.size sa.2 rfl rfl A8 hva ?_; rw [hW2]) | rw [hW3])
  generalize w5.heap.size = b9 at B9 hx9 h9 h89 ⊢
  generalize w3.heap.size = b8 at Q8 h89 h8 ⊢
  clear hW1 hW2 hW3 A8 hbA hb5 hb6 hxa hxa5 hb1
  go_loopw [10] (fun vi wr => ∃ (p : Nat) (M : List Vc), vi = .int .i64 ((p + 1 : Nat) : Int) ∧ p ≤ 12 ∧ M.length = 13 ∧ Hid (∀ r ∈ M, Good l r) ∧ Hid (∀ j (h : j < M.length), p < j → M[j] = z0) ∧ Rw wr b9 24 (rows Vc.cells M).toArray ∧ At wr b8 sa.2 ∧ XAt wr ua zs (fun b => b = b9) ∧ Below w.heap.size w wr) (fun vi _ => 13 - (intOf vi).toNat)
  case atStart => exact ⟨0, M0, rfl, by omega, rfl, (show ∀ r ∈ M0, Good l r from fun r hr => by rw [List.eq_of_mem_replicate hr]; exact good_zero l), (show ∀ j (_ : j < M0.length), 0 < j → _ from fun j hj _ => List.eq_of_mem_replicate (List.getElem_mem hj)), B9, Q8, hx9, hbel⟩
  case round =>
    clear B9 Q8 hx9 hbel
    obtain ⟨p, M, rfl, hp, hM, HG, HZ, B9, Q8, hx9, hbel⟩ := hrel
    by_cases hplt : p < 12
    · have hp12 : (p : Int) + 1 ≤ 12 := by omega
      have hpf : p < fl.length := by have := HF.out; omega
      have hpm : p < ml.length := by have := HM.out; omega
      have hpf' : (p : Int) < (fl.length : Int) := by omega
      have hpm' : (p : Int) < (ml.length : Int) := by omega
      have e1 : IntKind.i64.wrap (p : Int) = (p : Int) := wrap_n (by omega)
      obtain ⟨gf, of_, rfl, hdf⟩ := IHas.at hf p hpf
      obtain ⟨gm, om, rfl, hdm⟩ := IHas.at hm p hpm
      have cf1 := cell_later hbel (hdf p hpf)
      have cm1 := hdm p hpm
      obtain ⟨x, HX⟩ := hid_ex fl[p]
      obtain ⟨y, HY⟩ := hid_ex ml[p]
      rw [HX.out] at cf1
      rw [HY.out] at cm1
      have cm2 := cell_later hbel cm1
      by_cases hx0 : x < 0
      · go_wp2_with fail
        refine (K.heads _).mono ?_
        rintro e w9 ⟨rfl, hb9⟩
        go_wp2_with fail
        go_ret
        exact ⟨rfl, below_on hbel hb9⟩
      by_cases hy0' : y < 0
      · go_wp2_with fail
        refine (K.heads _).mono ?_
        rintro e w9 ⟨rfl, hb9⟩
        go_wp2_with fail
        go_ret
        exact ⟨rfl, below_on hbel hb9⟩
      obtain ⟨X, rfl⟩ : ∃ X : Nat, x = (X : Int) := ⟨x.toNat, by omega⟩
      obtain ⟨f, Hf⟩ := hid_ex (X % 100)
      have hf100 : f < 100 := by rw [← Hf.out]; exact Nat.mod_lt _ (by omega)
      have ef : Int.tmod (X : Int) 100 = (f : Int) := by rw [← Hf.out]; exact (Int.ofNat_tmod X 100).symm
      have b9lt := B9.lt
      go_wp2_with fail
      refine (refDeliver_any (fun b => b = b9) l ys0 hy0 _ f wr (fun b e => e ▸ b9lt) (hoff0 wr _ hbel (fun b e => e ▸ h9)) h40 (by omega)).mono ?_
      rintro e w3 ⟨us, z2, rfl, hz2, hxs, hb3⟩
      obtain ⟨sp, HSP⟩ := hid_ex (dlv l f l.length)
      have HDP : Hid (Dok l sp) := by rw [← HSP.out]; exact Dok.any l f
      rw [HSP.out] at hz2 ⊢
      have hvp := HDP.out.len
      have hb3n : Below wr.heap.size wr w3 := hb3
      have A8 : At (w3.alloc (.cells #[.int .i64 0, .int .i64 0, .int .i64 0, .int .i64 0, .int .i64 0, .int .i64 0, .int .i64 0, .int .i64 0, .int .i64 0, .int .i64 0, .int .i64 0, .int .i64 0, .int .i64 0] 23)) w3.heap.size zeros := at_new w3 zeros rfl
      have hbA := bel_alloc (Below.refl w3.heap.size w3) (.cells #[.int .i64 0, .int .i64 0, .int .i64 0, .int .i64 0, .int .i64 0, .int .i64 0, .int .i64 0, .int .i64 0, .int .i64 0, .int .i64 0, .int .i64 0, .int .i64 0, .int .i64 0] 23)
      generalize hW1 : w3.alloc (.cells #[.int .i64 0, .int .i64 0, .int .i64 0, .int .i64 0, .int .i64 0, .int .i64 0, .int .i64 0, .int .i64 0, .int .i64 0, .int .i64 0, .int .i64 0, .int .i64 0, .int .i64 0] 23) = w4 at A8 hbA
      have hb5 := below_setRow hbA (Nat.le_refl _) (vals sp.2).toArray
      generalize hW2 : w4.setRow w3.heap.size (vals sp.2).toArray = w5 at hb5
      have hb35 := below_on hb3n hb5
      replace B9 := B9.later hb35
      replace Q8 := Q8.later hb35
      replace hx9 := hx9.later hb35
      replace hxs := hxs.later hb5
      replace hbel := below_on hbel hb35
      go_wp2_with (first | rw [hW1] | (refine store_at rfl _ _ rfl w3.heap.size sp.2 rfl rfl A8 hvp ?_; rw [hW2]))
      clear hW1 hW2 A8 hbA hb5 hb35 hb3 hb3n cf1 cm2 ef b9lt e1
      obtain ⟨pu, cu, rfl⟩ := hxs.s.slice
      have hpM : p + 1 < M.length := by omega
      have HMz : Hid (M[p + 1] = z0) := HZ.out (p + 1) hpM (by omega)
      obtain ⟨som, HSO⟩ := hid_ex sp.1
      rw [HSO.out] at hz2
      have hsol : som.length = z2.length := by rw [← hz2, List.length_map]
      have HSL : Hid (som.length = z2.length) := hsol
      have HGT : Hid (∀ n, Good l ⟨run zeros (som.take n), by rw [run_length]; rfl⟩) := fun n => by
        have := good_take HDP.out n
        simp only [HSO.out] at this
        exact this
      have HCB : Hid (clb zeros som = true) := by rw [← HSO.out]; exact HDP.out.c
      clear hsol
      go_loopw [13] (fun vi wr => ∃ (i : Nat) (M' : List Vc), vi = .int .i64 i ∧ i ≤ z2.length ∧ M'.length = 13 ∧ Hid (M' = M.set (p + 1) ⟨run zeros (som.take i), by rw [run_length]; rfl⟩) ∧ Rw wr b9 24 (rows Vc.cells M').toArray ∧ At wr b8 sa.2 ∧ XAt wr ua zs (fun b => b = b9) ∧ XAt wr (.slice pu z2.length cu) z2 (fun b => b = b9) ∧ Below w.heap.size w wr) (fun vi _ => z2.length - (intOf vi).toNat)
      case atStart => exact ⟨0, M, rfl, by omega, hM, (show M = _ by
        refine List.ext_getElem (by simp) fun j h1 h2 => ?_
        by_cases hj : p + 1 = j
        · subst hj
          rw [List.getElem_set_self, HMz.out]
          rfl
        · rw [List.getElem_set_ne hj]), B9, Q8, hx9, hxs, hbel⟩
      case round =>
        clear B9 Q8 hx9 hxs hbel
        obtain ⟨i, M', rfl, hi, hM', HM', B9, Q8, hx9, hxs, hbel⟩ := hrel
        have hz2m := maxLen_lt hxs.s.1
        have cm2 := cell_later hbel cm1
        have e1 : IntKind.i64.wrap (p : Int) = (p : Int) := wrap_n (by omega)
        have HGN : Hid (∀ r ∈ M', Good l r) := fun r hr => by
          rw [HM'.out] at hr
          rcases List.mem_or_eq_of_mem_set hr with hr | rfl
          · exact HG.out r hr
          · exact HGT.out i
        have HZN : Hid (∀ j (h : j < M'.length), p + 1 < j → M'[j] = z0) := fun j hj hpj => by
          simp only [HM'.out]
          rw [List.getElem_set_ne (by omega)]
          exact HZ.out j (by omega) (by omega)
        by_cases hilt : i < z2.length
        · have hilt' : (i : Int) < (z2.length : Int) := by omega
          by_cases hiy : (i : Int) < y
          · have hia : i < som.length := by have := HSL.out; omega
            obtain ⟨g2, o2, rfl, hd0⟩ := hxs.s.at (by omega)
            have d := T.elem hd0 i hilt
            have hyx : som[i] = z2[i].1 := by simp only [← hz2, List.getElem_map]
            have hrd := clb_at som zeros HCB.out i hia
            have hrun := run_take som zeros i hia
            rw [hyx] at hrd hrun
            obtain ⟨⟨x2, s1⟩, HX2⟩ := hid_ex z2[i]
            rw [HX2.out] at d hrd hrun
            replace d : wr.rangeAt g2 (o2 + i * 17) (txc x2.p x2.s x2.v x2.t s1) := d
            replace hrd : rdy (run zeros (som.take i)) x2 = true := hrd
            replace hrun : run zeros (som.take (i + 1)) = stp (run zeros (som.take i)) x2 := hrun
            have hpp := T.ok_p (rdy_ok hrd)
            obtain ⟨n, en⟩ : ∃ n : Nat, x2.p = (n : Int) := ⟨x2.p.toNat, by omega⟩
            have hn13 : n < 13 := by omega
            have hn13' : (n : Int) < 13 := by omega
            have hg12 : g2 ≠ b9 := (hxs.f b9 rfl).1 _ _ _ rfl (by omega)
            have hpM' : p + 1 < M'.length := by omega
            have hp13 : (p : Int) + 1 < 13 := by omega
            have hp0 : (0 : Int) ≤ (p : Int) + 1 := by omega
            have HST : Hid (M'.set (p + 1) ⟨M'[p + 1].l.set n x2.s, by rw [List.length_set]; exact M'[p + 1].h⟩ = M.set (p + 1) ⟨run zeros (som.take (i + 1)), by rw [run_length]; rfl⟩) := (show _ = _ by
              have e3 : M'[p + 1].l = run zeros (som.take i) := by
                simp only [HM'.out]
                rw [List.getElem_set_self]
              have e4 : (⟨M'[p + 1].l.set n x2.s, by rw [List.length_set]; exact M'[p + 1].h⟩ : Vc) = ⟨run zeros (som.take (i + 1)), by rw [run_length]; rfl⟩ := Vc.ext (by
                show M'[p + 1].l.set n x2.s = run zeros (som.take (i + 1))
                rw [e3, hrun, stp, en]
                simp)
              rw [e4]
              have e5 := HM'.out
              rw [e5, List.set_set])
            have cp := at_p d
            rw [en] at cp
            have cs := at_s d
            clear en hrd hrun hyx hd0 d hpp
            go_wp2_with fail
            have hb7 : Below wr.heap.size wr wr.drew := (Below.refl _ _).drew
            have hgr := grown_cell wr.drew b9 ((p + 1) * 13 + n) (.int .i64 x2.s)
            have P9 := rw_set (show Rw wr.drew b9 24 (rows Vc.cells M').toArray from B9) (p + 1) n hpM' hn13 x2.s
            have Q8d : At wr.drew b8 sa.2 := Q8
            have hx9d := hx9.later hb7
            have hxsd := hxs.later hb7
            have hbeld := below_on hbel hb7
            have f1 := B9.frozen ((p + 1) * 13 + n)
            have c1 : ∃ v0, wr.cell? ⟨b9, (p + 1) * 13 + n, none⟩ = some v0 := by
              have h3 := row_at B9 (p + 1) hpM' n (.int .i64 (M'[p + 1].l[n]'(by rw [M'[p + 1].h]; exact hn13))) (by simp [vals, M'[p + 1].h, hn13])
              exact ⟨_, h3⟩
            obtain ⟨v0, c1⟩ := c1
            have hS : wr.cell? ⟨g2, o2 + i * 17, none⟩ = some (.int .i64 n) ∧ wr.cell? ⟨g2, o2 + i * 17 + 1, none⟩ = some (.int .i64 x2.s) := ⟨cp, cs⟩
            refine Held.region (fun w' => w'.cell? ⟨g2, o2 + i * 17, none⟩ = some (.int .i64 n) ∧ w'.cell? ⟨g2, o2 + i * 17 + 1, none⟩ = some (.int .i64 x2.s)) (by kernel_rfl) ?_
            iterate 6 (refine Held.pu hS ?_)
            refine Held.ce (fun _ h => h.1) hS ?_
            iterate 5 (refine Held.pu hS ?_)
            refine Held.ce (fun _ h => h.2) hS ?_
            refine Held.pu hS ?_
            refine Held.pu hS ?_
            refine Held.st (w1 := wr.drew.setCell ⟨b9, (p + 1) * 13 + n, none⟩ (.int .i64 x2.s)) (by
              have c2 : wr.drew.cell? ⟨b9, (p + 1) * 13 + n, none⟩ = some v0 := c1
              have f2 : wr.drew.frozen? ⟨b9, (p + 1) * 13 + n, none⟩ = false := f1
              go_simp) ?_ ?_
            · have e : (wr.drew.setCell ⟨b9, (p + 1) * 13 + n, none⟩ (.int .i64 x2.s)).heap[g2]? = wr.drew.heap[g2]? := Below.heap_setCell wr.drew _ _ g2 hg12
              exact ⟨(World.cell?_of_block e).trans cp, (World.cell?_of_block e).trans cs⟩
            refine Held.dn ?_
            go_wp2_with fail
            go_roundw
            case rel => exact ⟨i + 1, _, by simp, by omega, by rw [List.length_set]; exact hM', HST, P9, Q8d.setOther (by omega) _, hx9d.grown hgr (fun b e => by simpa using e.symm), hxsd.grown hgr (fun b e => by simpa using e.symm), hbeld.setCell h9 _⟩
            case measure => simp [intOf]; omega
          · go_wp2_with fail
            go_roundw
            case rel => exact ⟨p + 1, M', by simp, by omega, hM', HGN, HZN, B9, Q8, hx9, hbel⟩
            case measure => simp [intOf]; omega
        · have hilt' : ¬ (i : Int) < (z2.length : Int) := by omega
          go_wp2_with fail
          go_roundw
          case rel => exact ⟨p + 1, M', by simp, by omega, hM', HGN, HZN, B9, Q8, hx9, hbel⟩
          case measure => simp [intOf]; omega
    · have hp12 : ¬ (p : Int) + 1 ≤ 12 := by omega
      have zM := size_r hM
      have hva := Q8.1
      obtain ⟨pa, ca, rfl⟩ := hx9.s.slice
      have hzm := maxLen_lt hx9.s.1
      go_wp2_with (first | refine load_r 24 _ rfl rfl _ rfl B9 Try.underlying24 rfl zM ?_ | refine load_at rfl _ rfl _ rfl Q8 ?_)
      have I2 := ints_new wr [1, 2, 3, 4] (by decide)
      have hbA2 := bel_alloc (Below.refl wr.heap.size wr) (.cells #[.int .i64 1, .int .i64 2, .int .i64 3, .int .i64 4] 3)
      have D1 := K.cut M 1 ⟨sa.2, hva⟩ [1, 2, 3, 4] _ _ hM I2
      obtain ⟨y, HY⟩ := hid_ex (cutV M 1 ⟨sa.2, hva⟩ [1, 2, 3, 4])
      have HCC : Hid (∀ t ∈ l, hsT y.l t = true → lq t.v y.l = true) := fun t ht hs => by
        have e : y = ctL M 1 ⟨sa.2, hva⟩ [1, 2, 3, 4] := by rw [← HY.out, cutV, if_pos (by kernel_rfl)]
        rw [e] at hs ⊢
        exact cut_closed HAP.out HG.out 1 (good_all HDA.out) [1, 2, 3, 4] ht hs
      rw [HY.out] at D1
      refine Calls.mono D1 ?_
      rintro e w4 ⟨rfl, hb10⟩
      replace hb10 : Below (wr.alloc (.cells #[.int .i64 1, .int .i64 2, .int .i64 3, .int .i64 4] 3)).heap.size (wr.alloc (.cells #[.int .i64 1, .int .i64 2, .int .i64 3, .int .i64 4] 3)) w4 := hb10
      replace hb10 := below_on hbA2 hb10
      replace hx9 := hx9.later hb10
      replace hbel := below_on hbel hb10
      clear hb10 hbA2 I2 D1 B9 Q8 HG HZ
      have A8 : At (w4.alloc (.cells #[.int .i64 0, .int .i64 0, .int .i64 0, .int .i64 0, .int .i64 0, .int .i64 0, .int .i64 0, .int .i64 0, .int .i64 0, .int .i64 0, .int .i64 0, .int .i64 0, .int .i64 0] 23)) w4.heap.size zeros := at_new w4 zeros rfl
      have hbA := bel_alloc (Below.refl w4.heap.size w4) (.cells #[.int .i64 0, .int .i64 0, .int .i64 0, .int .i64 0, .int .i64 0, .int .i64 0, .int .i64 0, .int .i64 0, .int .i64 0, .int .i64 0, .int .i64 0, .int .i64 0, .int .i64 0] 23)
      generalize hW1 : w4.alloc (.cells #[.int .i64 0, .int .i64 0, .int .i64 0, .int .i64 0, .int .i64 0, .int .i64 0, .int .i64 0, .int .i64 0, .int .i64 0, .int .i64 0, .int .i64 0, .int .i64 0, .int .i64 0] 23) = w5 at A8 hbA
      have Q14 := A8.row (l := y.l) y.h
      have hb5 := below_setRow hbA (Nat.le_refl _) (vals y.l).toArray
      generalize hW2 : w5.setRow w4.heap.size (vals y.l).toArray = w6 at Q14 hb5
      replace hx9 := hx9.later hb5
      replace hbel := below_on hbel hb5
      have hyh := y.h
      go_wp2_with (first | rw [hW1] | (refine store_at rfl _ _ rfl w4.heap.size y.l rfl rfl A8 hyh ?_; rw [hW2]))
      generalize w4.heap.size = b14 at Q14 ⊢
      clear hW1 hW2 A8 hbA hb5
      go_loopw [15] (fun vi wr => ∃ (i : Nat), vi = .int .i64 i ∧ i ≤ zs.length ∧ XAt wr (.slice pa zs.length ca) zs (fun b => b = b9) ∧ At wr b14 y.l ∧ Below w.heap.size w wr) (fun vi _ => zs.length - (intOf vi).toNat)
      case atStart => exact ⟨0, rfl, by omega, hx9, Q14, hbel⟩
      case round =>
        clear hx9 Q14 hbel
        obtain ⟨i, rfl, hi, hx9, Q14, hbel⟩ := hrel
        by_cases hilt : i < zs.length
        · have hilt' : (i : Int) < (zs.length : Int) := by omega
          obtain ⟨g2, o2, rfl, hd0⟩ := hx9.s.at (by omega)
          have d := T.elem hd0 i hilt
          have hmem : zs[i].1 ∈ l := HDA.out.m _ (by rw [← hzs]; exact List.mem_map.2 ⟨zs[i], List.getElem_mem _, rfl⟩)
          have hcc := HCC.out _ hmem
          obtain ⟨⟨x2, s1⟩, HX2⟩ := hid_ex zs[i]
          rw [HX2.out] at d hcc
          replace d : wr.rangeAt g2 (o2 + i * 17) (txc x2.p x2.s x2.v x2.t s1) := d
          replace hcc : hsT y.l x2 = true → lq x2.v y.l = true := hcc
          have HCC2 : Hid (hsT y.l x2 = true → lq x2.v y.l = true) := hcc
          clear hcc hd0 hmem
          have C1 := fun w' => refHas_any y.l x2.p x2.s w' y.h
          have C2 := fun w' => refLeq_any x2.v y.l w' x2.hv y.h
          obtain ⟨b, HB⟩ := hid_ex (hs y.l x2.p x2.s)
          rw [HB.out] at C1
          have z1 := info_vals y.h
          have z2' := zd x2.p x2.s
          have z3 := info_vals x2.hv
          have ST : Calm.Stays (fun w' : World => w'.rangeAt g2 (o2 + i * 17) (txc x2.p x2.s x2.v x2.t s1) ∧ w'.rangeAt b14 0 (vals y.l) ∧ Below wr.heap.size wr w') := fun a b h hb => ⟨range_later h.1 hb, range_later h.2.1 hb, below_on h.2.2 hb⟩
          cases b
          case' true => rw [HCC2.out HB.out] at C2
          all_goals
            go_wp2_with fail
            refine Calm.region (by kernel_rfl) (by kernel_rfl) (fun w' : World => w'.rangeAt g2 (o2 + i * 17) (txc x2.p x2.s x2.v x2.t s1) ∧ w'.rangeAt b14 0 (vals y.l) ∧ Below wr.heap.size wr w') ⟨d, Q14.range0, (Below.refl _ _).drew⟩ ?_
            refine Calm.lm z1 (fun _ h => h.2.1) Try.underlying23 ?_
            iterate 4 (refine Calm.pu ?_)
            refine Calm.lm z2' (fun _ h => at_dot h.1) Try.underlying40 ?_
            refine Calm.k2 ST (fun w' _ => C1 w') ?_
            refine Calm.pu ?_
            iterate 4 (first | refine Calm.sk ?_ | refine Calm.pu ?_)
            first | refine Calm.sk ?_ | refine Calm.lm z3 (fun _ h => at_vec h.1) Try.underlying23 ?_
            first | refine Calm.sk ?_ | refine Calm.lm z1 (fun _ h => h.2.1) Try.underlying23 ?_
            first | refine Calm.sk ?_ | refine Calm.k2 ST (fun w' _ => C2 w') ?_
            iterate 2 (first | refine Calm.sk ?_ | refine Calm.pu ?_)
            intro w7 hS7
            have hb7 := hS7.2.2
            go_wp2_with fail
            go_roundw
            case rel => exact ⟨i + 1, by simp, by omega, hx9.later hb7, Q14.later hb7, below_on hbel hb7⟩
            case measure => simp [intOf]; omega
        · have hilt' : ¬ (i : Int) < (zs.length : Int) := by omega
          go_wp2_with fail
          refine (K.heads _).mono ?_
          rintro e w9 ⟨rfl, hb9⟩
          go_wp2_with fail
          go_ret
          exact ⟨rfl, below_on hbel hb9⟩
end Go.Proofs.Ytcebchjokmampaa
