/- checkSeen of package ops. -/
import Derived.Test.YtefpdcpcjfjblaaSeenD
namespace Go.Proofs.Ytefpdcpcjfjblaa
open Go.RowKit

set_option maxHeartbeats 16000000 in
set_option maxRecDepth 100000 in
theorem seen_any (p s : Int) (v : List Int) (t : Int) (sl : Value) (l : List O) (w : World) (hv : v.length = 13) (ho : OHas w sl l) : Calls Try.prog 29 #[TxV p s v t sl] w (Tells (.bool (sn p s v t l)) w) := by
  obtain ⟨q, c, rfl, hm, hr⟩ := ho
  have HR : Hid (0 < l.length → ∃ g o, q = some ⟨g, o, none⟩ ∧ ∀ i (h : i < l.length), w.rangeAt g (o + i * 10) l[i].cells) := hr
  clear hr
  have hml := maxLen_lt hm
  have C0 := fun w => check_any v w hv
  obtain ⟨r, Hr⟩ := hid_ex (chk v)
  obtain ⟨y, HY⟩ := hid_ex (wi t 1 1099511627776)
  rw [Hr.out] at C0
  obtain ⟨z, HZ⟩ := hid_ex (allB (gd p s v) 0 l)
  obtain ⟨m, HM⟩ := hid_ex (decide (l.length ≤ 16))
  have Cw := fun w => within_l t 1 1099511627776 w
  rw [HY.out] at Cw
  have R := rw_new w 34 (txc p s v t (.slice q l.length c)).toArray
  have hbel : Below w.heap.size w (w.alloc (.cells (txc p s v t (.slice q l.length c)).toArray 34)) := bel_alloc (Below.refl _ _) _
  have z25 := info31 hv
  generalize hW : w.alloc (.cells (txc p s v t (.slice q l.length c)).toArray 34) = w0 at R hbel
  unfold sn
  rw [Hr.out, HY.out, HZ.out, HM.out]
  go_enter Try.func29, Try.ntmps29
  go_wp2_with (first | refine load_m 31 _ rfl rfl _ _ rfl (tx_vec R) Try.underlying31 rfl z25 ?_)
  refine (C0 _).mono ?_
  rintro e w1 ⟨rfl, hb1⟩
  clear hW
  replace R := R.later hb1
  replace hbel := below_on hbel hb1
  clear hb1
  have c15 := tx_time R hv
  have c16 := tx_ops R hv
  cases r
  · go_wp2_with fail
    go_ret
    exact ⟨rfl, hbel⟩
  · cases y
    · go_wp2_with (go_at_call 33; refine (Cw _).mono ?_; rintro e w2 ⟨rfl, rfl⟩)
      go_ret
      exact ⟨rfl, hbel⟩
    · cases m
      case true =>
        have h16 : l.length ≤ 16 := of_decide_eq_true HM.out
        have h16' : ¬ (16 : Int) < (l.length : Int) := by omega
        go_wp2_with (go_at_call 33; refine (Cw _).mono ?_; rintro e w2 ⟨rfl, rfl⟩)
        clear Cw C0 Hr HY HM z25 h16'
        go_loopw [24] (fun vi wr => ∃ k : Nat, vi = .int .i64 k ∧ k ≤ l.length ∧ Hid (∀ i (h : i < l.length), i < k → gd p s v i l[i] = true) ∧ Rw wr w.heap.size 34 (txc p s v t (.slice q l.length c)).toArray ∧ Below w.heap.size w wr) (fun vi _ => l.length - (intOf vi).toNat)
        case atStart => exact ⟨0, rfl, by omega, (show ∀ i (h : i < l.length), i < 0 → _ from fun i _ h => by omega), R, hbel⟩
        case round =>
          clear R c15 c16 hbel
          obtain ⟨k, rfl, hk, HV, R, hbel⟩ := hrel
          by_cases hlt : k < l.length
          · have hlt' : (k : Int) < (l.length : Int) := by omega
            obtain ⟨g, o, rfl, hd⟩ := HR.out (by omega)
            have d := range_later (hd k hlt) hbel
            clear HR hd
            have hk16 : k < 16 := by omega
            obtain ⟨x, HX⟩ := hid_ex l[k]
            rw [HX.out] at d
            have z35 : (Try.prog.info? 46).map (·.size) = some x.cells.length := size46
            have C1 := fun w => checkOp_any x.k x.key x.field x.inner x.act x.n x.text x.p x.s x.i w
            have C2 := fun w => before_any x.p x.s x.i p s v t (.slice (some ⟨g, o, none⟩) l.length c) ((k : Int) + 1) w hv
            have E := fun w => eq_mark w x.p x.s x.i 0 0 0
            obtain ⟨a, HA⟩ := hid_ex (co x.k x.key x.field x.inner x.act x.n x.text x.p x.s x.i)
            obtain ⟨b, HB⟩ := hid_ex (decide (x.p = 0) && decide (x.s = 0) && decide (x.i = 0))
            obtain ⟨f, HC⟩ := hid_ex (bf x.p x.s x.i p s v ((k : Int) + 1))
            clear h16 hml hm hk
            rw [HA.out] at C1
            rw [HB.out] at E
            rw [HC.out] at C2
            have R3 := rw_new wr 46 #[.int .i64 x.k, .string x.key, .string x.field, .int .i64 x.inner, .int .i64 x.act, .int .i64 x.n, .string x.text, .int .i64 x.p, .int .i64 x.s, .int .i64 x.i]
            replace R := R.alloc (.cells #[.int .i64 x.k, .string x.key, .string x.field, .int .i64 x.inner, .int .i64 x.act, .int .i64 x.n, .string x.text, .int .i64 x.p, .int .i64 x.s, .int .i64 x.i] 46)
            replace hbel := bel_alloc hbel (.cells #[.int .i64 x.k, .string x.key, .string x.field, .int .i64 x.inner, .int .i64 x.act, .int .i64 x.n, .string x.text, .int .i64 x.p, .int .i64 x.s, .int .i64 x.i] 46)
            have zr : (Try.prog.info? 44).map (·.size) = some [Value.int .i64 x.p, Value.int .i64 x.s, Value.int .i64 x.i].length := size44
            generalize hW : wr.alloc (.cells #[.int .i64 x.k, .string x.key, .string x.field, .int .i64 x.inner, .int .i64 x.act, .int .i64 x.n, .string x.text, .int .i64 x.p, .int .i64 x.s, .int .i64 x.i] 46) = w2 at R R3 hbel
            go_wp2_with (first | refine load_m 46 _ rfl rfl _ _ rfl d Try.underlying46 rfl z35 ?_ | refine load_r 46 _ rfl rfl _ rfl R3 Try.underlying46 rfl size46 ?_)
            refine (C1 _).mono ?_
            rintro e w3 ⟨rfl, hb3⟩
            clear hW d C1 z35
            replace R := R.later hb3
            replace R3 := R3.later hb3
            replace hbel := below_on hbel hb3
            clear hb3
            cases a
            · have HF : Hid (z = false) := all_not HZ hlt HX (gd_not HA.out)
              clear HV HX HZ
              clear HA HB HC
              go_wp2_with fail
              go_ret
              exact ⟨by rw [HF.out]; rfl, hbel⟩
            · have dr := op_ref (x := x) R3
              cases b
              · go_wp2_with (first | refine load_m 44 _ rfl rfl _ _ rfl dr Try.underlying44 rfl zr ?_ | refine load_r 34 _ rfl rfl _ rfl R Try.underlying34 rfl (size_tx hv) ?_)
                refine (C2 _).mono ?_
                rintro e w4 ⟨rfl, hb4⟩
                clear C2
                replace R := R.later hb4
                replace R3 := R3.later hb4
                replace hbel := below_on hbel hb4
                clear hb4
                cases f
                · have HF : Hid (z = false) := all_not HZ hlt HX (gd_none HB.out HC.out)
                  clear HV HX HZ
                  clear HA HB HC
                  go_wp2_with fail
                  go_ret
                  exact ⟨by rw [HF.out]; rfl, hbel⟩
                · have HV2 : Hid (∀ i (h : i < l.length), i < k + 1 → gd p s v i l[i] = true) := ok_next HV hlt (by rw [HX.out]; exact gd_bef HA.out HC.out)
                  clear HV HX HZ HA HB HC
                  go_wp2_with fail
                  go_roundw
                  case rel => exact ⟨k + 1, by simp, hlt, HV2, R, hbel⟩
                  case measure => simp [intOf]; omega
              · have HV2 : Hid (∀ i (h : i < l.length), i < k + 1 → gd p s v i l[i] = true) := ok_next HV hlt (by rw [HX.out]; exact gd_ref HA.out HB.out)
                clear HV HX HZ HA HB HC C2 dr
                have q7 : w3.cell? ⟨wr.heap.size, 7, none⟩ = some (.int .i64 x.p) := R3.cell 7
                have q8 : w3.cell? ⟨wr.heap.size, 8, none⟩ = some (.int .i64 x.s) := R3.cell 8
                have q9 : w3.cell? ⟨wr.heap.size, 9, none⟩ = some (.int .i64 x.i) := R3.cell 9
                go_wp2_with fail
                go_roundw
                case rel => exact ⟨k + 1, by simp, hlt, HV2, R, hbel⟩
                case measure => simp [intOf]; omega

          · have hlt' : ¬ (k : Int) < (l.length : Int) := by omega
            have HT : Hid (z = true) := by
              show z = true
              rw [← HZ.out, allB_iff]
              intro i hi
              rw [Nat.zero_add]
              exact HV.out i hi (by omega)
            clear HR HV HZ
            go_wp2_with fail
            go_ret
            exact ⟨by rw [HT.out]; rfl, hbel⟩
      case false =>
        have h16 : ¬ l.length ≤ 16 := of_decide_eq_false HM.out
        have h16' : (16 : Int) < (l.length : Int) := by omega
        go_wp2_with (go_at_call 33; refine (Cw _).mono ?_; rintro e w2 ⟨rfl, rfl⟩)
        go_ret
        exact ⟨rfl, hbel⟩
end Go.Proofs.Ytefpdcpcjfjblaa
