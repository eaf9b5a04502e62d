import Derived.Test.YtcebchjokmampaaP7
/- Cut of the document's answer: what is stable. -/
namespace Go.Proofs.Ytcebchjokmampaa
open Go.RowKit

def mtV (a b : Vc) : Vc := ⟨mt a.l b.l, mt_length a.h b.h⟩
def ctS (M : List Vc) (self : Int) (v : Vc) (p : Int) : Vc := if p = self then v else mtV v (M.getD p.toNat z0)
def ctL (M : List Vc) (self : Int) (own : Vc) (live : List Int) : Vc := live.foldl (ctS M self) own
def ctB (self : Int) (live : List Int) : Bool := ckI live && (decide (live.length ≠ 0) && wi self 1 12)
def cutV (M : List Vc) (self : Int) (own : Vc) (live : List Int) : Vc := if ctB self live = true then ctL M self own live else z0
theorem three_rows (w : World) (c1 : Array Value) (t1 : TypeId) (c2 : Array Value) (t2 : TypeId) (c3 : Array Value) (t3 : TypeId) :
    Rw (((w.alloc (.cells c1 t1)).alloc (.cells c2 t2)).alloc (.cells c3 t3)) w.heap.size t1 c1 ∧ Rw (((w.alloc (.cells c1 t1)).alloc (.cells c2 t2)).alloc (.cells c3 t3)) (w.heap.size + 1) t2 c2 ∧
    Rw (((w.alloc (.cells c1 t1)).alloc (.cells c2 t2)).alloc (.cells c3 t3)) (w.heap.size + 1 + 1) t3 c3 ∧ Below w.heap.size w (((w.alloc (.cells c1 t1)).alloc (.cells c2 t2)).alloc (.cells c3 t3)) :=
  ⟨((rw_new w t1 c1).alloc _).alloc _, (rw_next (w.alloc _) (by simp) t2 c2).alloc _, rw_next ((w.alloc _).alloc _) (by simp) t3 c3, bel_alloc (bel_alloc (bel_alloc (Below.refl _ _) _) _) _⟩
theorem ctL_take (M : List Vc) (self : Int) (own : Vc) (live : List Int) (k : Nat) (h : k < live.length) : ctL M self own (live.take (k + 1)) = ctS M self (ctL M self own (live.take k)) live[k] := by
  unfold ctL
  rw [List.take_succ_eq_append_getElem h, List.foldl_append]
  rfl
set_option maxHeartbeats 8000000 in
set_option maxRecDepth 100000 in
theorem refCut_any (M : List Vc) (hM : M.length = 13) (self : Int) (own : Vc) (live : List Int) (sv : Value) (w : World) (h : IHas w sv live) : Calls Try.prog 12 #[RV M, .int .i64 self, V own.l, sv] w (Tells (V (cutV M self own live).l) w) := by
  obtain ⟨q, c, rfl⟩ := SHas.slice h
  have hml := maxLen_lt h.1
  obtain ⟨R1, R2, R3, hbel⟩ := three_rows w (rows Vc.cells M).toArray 24 (vals own.l).toArray 23 #[.int .i64 0, .int .i64 0, .int .i64 0, .int .i64 0, .int .i64 0, .int .i64 0, .int .i64 0, .int .i64 0, .int .i64 0, .int .i64 0, .int .i64 0, .int .i64 0, .int .i64 0] 23
  generalize hW : ((w.alloc (.cells (rows Vc.cells M).toArray 24)).alloc (.cells (vals own.l).toArray 23)).alloc (.cells #[.int .i64 0, .int .i64 0, .int .i64 0, .int .i64 0, .int .i64 0, .int .i64 0, .int .i64 0, .int .i64 0, .int .i64 0, .int .i64 0, .int .i64 0, .int .i64 0, .int .i64 0] 23) = w0 at R1 R2 R3 hbel
  have A3 : At w0 (w.heap.size + 1 + 1) zeros := ⟨rfl, R3⟩
  have A2 : At w0 (w.heap.size + 1) own.l := ⟨own.h, R2⟩
  clear R2 R3
  obtain ⟨z, HZ⟩ := hid_ex (ctB self live)
  obtain ⟨v', HV'⟩ := hid_ex (cutV M self own live)
  rw [HV'.out]
  go_enter Try.func12, Try.ntmps12
  go_upto_region 1 with (rw [hW])
  clear hW
  obtain ⟨r1, H1⟩ := hid_ex (ckI live)
  obtain ⟨r3, H3⟩ := hid_ex (wi self 1 12)
  have HB : Hid ((r1 && (decide (live.length ≠ 0) && r3)) = z) := by
    have := HZ.out
    unfold ctB at this
    rw [H1.out, H3.out] at this
    exact this
  have hZ0 : Hid (z = false → v' = z0) := fun e => by rw [← HV'.out, cutV, if_neg (by rw [HZ.out, e]; simp)]
  have HZ1 : Hid (z = true → v' = ctL M self own live) := fun e => by rw [← HV'.out, cutV, if_pos (by rw [HZ.out, e])]
  clear HZ HV'
  go_cut [23] from 11 to 23 (fun vb wx => vb = .bool (!z) ∧ Below w0.heap.size w0 wx)
  case first =>
    go_wp2_with fail
    refine (refRoster_any live _ _ (SHas.later h hbel)).mono ?_
    rw [H1.out]
    rintro e w1 ⟨rfl, hb1⟩
    cases r1
    · obtain rfl : false = z := HB.out
      go_wp2_with fail
      go_meet
      case rel => exact ⟨rfl, hb1⟩
    · by_cases hl0 : live.length = 0
      · obtain rfl : false = z := by rw [← HB.out]; simp [hl0]
        have g : ((live.length : Int) == 0) = true := by rw [beq_iff_eq]; omega
        clear hl0
        go_wp2_with fail
        go_meet
        case rel => exact ⟨rfl, hb1⟩
      · have g : ((live.length : Int) == 0) = false := by rw [beq_eq_false_iff_ne]; omega
        obtain rfl : r3 = z := by rw [← HB.out, decide_eq_true hl0]; simp
        clear hl0
        go_wp2_with fail
        refine (peer_any self _).mono ?_
        rw [H3.out]
        rintro e w2 ⟨rfl, hb2⟩
        go_wp2_with fail
        go_meet
        case rel => exact ⟨rfl, below_on hb1 hb2⟩
  case rest =>
    obtain ⟨rfl, hb1⟩ := hcut
    replace R1 := R1.later hb1
    replace A2 := A2.later hb1
    replace A3 := A3.later hb1
    replace hbel := below_on hbel hb1
    cases z
    · obtain rfl := hZ0.out rfl
      have R5 := A3.row (l := zeros) rfl
      have hbel2 := below_setRow hbel (g := w.heap.size + 1 + 1) (by omega) (vals zeros).toArray
      go_wp2_with (first | refine store_at rfl _ _ rfl (w.heap.size + 1 + 1) zeros rfl rfl A3 rfl ?_)
      exact bodyPost_ret (results_at rfl rfl R5) rfl ⟨rfl, hbel2⟩
    · obtain rfl := HZ1.out rfl
      have hck : Hid (ckI live = true) := by
        rw [show ckI live = r1 from H1.out]
        have := HB.out
        cases r1
        · simp at this
        · exact rfl
      clear HB H1 H3 hZ0 HZ1
      have A9 := at_new wc zeros rfl
      change At (wc.alloc (.cells #[.int .i64 0, .int .i64 0, .int .i64 0, .int .i64 0, .int .i64 0, .int .i64 0, .int .i64 0, .int .i64 0, .int .i64 0, .int .i64 0, .int .i64 0, .int .i64 0, .int .i64 0] 23)) wc.heap.size zeros at A9
      have hbA := bel_alloc (Below.refl wc.heap.size wc) (.cells #[.int .i64 0, .int .i64 0, .int .i64 0, .int .i64 0, .int .i64 0, .int .i64 0, .int .i64 0, .int .i64 0, .int .i64 0, .int .i64 0, .int .i64 0, .int .i64 0, .int .i64 0] 23)
      generalize hW5 : wc.alloc (.cells #[.int .i64 0, .int .i64 0, .int .i64 0, .int .i64 0, .int .i64 0, .int .i64 0, .int .i64 0, .int .i64 0, .int .i64 0, .int .i64 0, .int .i64 0, .int .i64 0, .int .i64 0] 23) = w5 at A9 hbA
      have hlt3 := A3.lt
      have hb6 : Below wc.heap.size wc (w5.setRow wc.heap.size (vals own.l).toArray) := below_setRow hbA (Nat.le_refl _) _
      have A6 := A9.row (l := own.l) own.h
      generalize hW6 : w5.setRow wc.heap.size (vals own.l).toArray = w6 at hb6 A6
      have hoh := own.h
      go_wp2_with (first | rw [hW5] | refine load_at rfl _ rfl _ rfl A2 ?_ | (refine store_at rfl _ _ rfl wc.heap.size own.l rfl rfl A9 hoh ?_; rw [hW6]))
      clear hW5 hW6 A9 hbA
      replace R1 := R1.later hb6
      replace A3 := A3.later hb6
      replace hbel := below_on hbel hb6
      generalize wc.heap.size = b9 at A6 hlt3 ⊢
      clear hb6 A2 hb1
      go_loopw [10] (fun vi wr => ∃ k : Nat, vi = .int .i64 k ∧ k ≤ live.length ∧ Rw wr w.heap.size 24 (rows Vc.cells M).toArray ∧ At wr (w.heap.size + 1 + 1) zeros ∧ At wr b9 (ctL M self own (live.take k)).l ∧ Below w.heap.size w wr) (fun vi _ => live.length - (intOf vi).toNat)
      case atStart => exact ⟨0, rfl, by omega, R1, A3, A6, hbel⟩
      case round =>
        clear R1 A3 A6 hbel
        obtain ⟨k, rfl, hk, R1, A3, A6, hbel⟩ := hrel
        by_cases hlt : k < live.length
        · have hlt' : (k : Int) < (live.length : Int) := by omega
          obtain ⟨g, o, rfl, hd0⟩ := IHas.at h k hlt
          have hgl : g < w.heap.size := SHas.block (by decide) h rfl (show 0 < live.length by omega)
          have c1 := cell_later hbel (hd0 k hlt)
          have hstep := ctL_take M self own live k hlt
          have hw := ((ckI_iff live).1 hck.out).1 k hlt
          obtain ⟨x, HX⟩ := hid_ex live[k]
          rw [HX.out] at c1 hstep hw
          obtain ⟨hx1, hx2⟩ := wi_iff.1 hw
          obtain ⟨n, rfl⟩ : ∃ n : Nat, x = (n : Int) := ⟨x.toNat, by omega⟩
          have hn : n < M.length := by omega
          have hn' : (n : Int) < 13 := by omega
          obtain ⟨vk, HK⟩ := hid_ex (ctL M self own (live.take k))
          rw [HK.out] at A6 hstep
          clear hd0 hw
          by_cases hs : (n : Int) = self
          · rw [ctS, if_pos hs] at hstep
            go_wp2_with fail
            go_roundw
            case rel => exact ⟨k + 1, by simp, by omega, R1, A3, by rw [hstep]; exact A6, hbel⟩
            case measure => simp [intOf]; omega
          · rw [ctS, if_neg hs] at hstep
            have eg : M.getD (n : Int).toNat z0 = M[n] := by simp [List.getD_eq_getElem?_getD, List.getElem?_eq_getElem hn]
            rw [eg] at hstep
            have dn := row_at R1 n hn
            have z1 := info_vals vk.h
            have z2 := info_vals M[n].h
            have hmt := (mtV vk M[n]).h
            have hS : wr.cell? ⟨g, o + k, none⟩ = some (.int .i64 n) ∧ wr.rangeAt w.heap.size (n * 13) (vals M[n].l) := ⟨c1, dn⟩
            go_wp2_with fail
            refine HeldI.region (fun w' => w'.cell? ⟨g, o + k, none⟩ = some (.int .i64 n) ∧ w'.rangeAt w.heap.size (n * 13) (vals M[n].l)) (by kernel_rfl) ?_
            refine HeldI.pu 1 hS ?_
            refine HeldI.pu 2 hS ?_
            refine HeldI.pu 3 hS ?_
            refine HeldI.ce 4 (fun _ h => h.1) hS ?_
            refine HeldI.pu 5 hS ?_
            refine HeldI.lm 6 z2 (fun _ h => h.2) Try.underlying23 hS ?_
            refine HeldI.la 0 z1 (show wr.drew.rangeAt b9 0 (vals vk.l) from A6.range0) Try.underlying23 hS ?_
            refine HeldI.kn 7 (refMeet_any vk.l M[n].l _ vk.h M[n].h) ?_
            rintro e w3 ⟨rfl, hb3⟩
            have hb3' : Below wr.heap.size wr w3 := below_on (Below.refl _ _).drew hb3
            have hS3 : w3.cell? ⟨g, o + k, none⟩ = some (.int .i64 n) ∧ w3.rangeAt w.heap.size (n * 13) (vals M[n].l) := ⟨cell_later hb3' hS.1, range_later hS.2 hb3'⟩
            refine ⟨_, rfl, hS3, ?_⟩
            replace A6 := A6.later hb3'
            replace A3 := A3.later hb3'
            replace R1 := R1.later hb3'
            have hst : (Instr.storeAt 23 (.pointer (some ⟨b9, 0, none⟩)) (V (mt vk.l M[n].l))).run Try.prog w3 = .ok () (w3.setRow b9 (vals (mt vk.l M[n].l)).toArray) := A6.store hmt
            refine HeldI.ss 8 hst ?_ ?_
            · exact ⟨(World.cell?_of_block (setRow_other w3 b9 g _ (by omega))).trans hS3.1, range_same hS3.2 (setRow_other w3 b9 _ _ (by omega))⟩
            refine HeldI.dn ?_
            go_wp2_with fail
            go_roundw
            case rel => exact ⟨k + 1, by simp, by omega, R1.rowOther (by omega) _, A3.rowOther (by omega) _, by rw [hstep]; exact A6.row hmt, below_setRow (below_on hbel hb3') (by omega) _⟩
            case measure => simp [intOf]; omega
        · have hlt' : ¬ (k : Int) < (live.length : Int) := by omega
          rw [List.take_of_length_le (by omega)] at A6
          obtain ⟨vk, HK⟩ := hid_ex (ctL M self own live)
          rw [HK.out] at A6
          have HK2 := HK
          have R5 := A3.row (l := vk.l) vk.h
          have hbel2 := below_setRow hbel (g := w.heap.size + 1 + 1) (by omega) (vals vk.l).toArray
          have hvk := vk.h
          go_wp2_with (first | refine load_at rfl _ rfl _ rfl A6 ?_ | refine store_at rfl _ _ rfl (w.heap.size + 1 + 1) vk.l rfl rfl A3 hvk ?_)
          exact bodyPost_ret (results_at rfl rfl R5) rfl ⟨by rw [show ctL M self own live = vk from HK2.out], hbel2⟩
end Go.Proofs.Ytcebchjokmampaa
/- What StableTells says. -/
namespace Go.Proofs.Ytcebchjokmampaa
open Go.RowKit

/-- What the program's calls of layer 20 answer, as premises of the laws. -/
structure Prs : Prop where
  accept : ∀ (M : List Vc) (p : Int) (r v : Vc) (w : World), M.length = 13 → Calls Try.prog 10 #[RV M, .int .i64 p, V r.l, V v.l] w (Tells (.tuple #[RV (acM M p r v), .bool (acb M p r v)]) w)
  cut : ∀ (M : List Vc) (self : Int) (own : Vc) (live : List Int) (sv : Value) (w : World), M.length = 13 → IHas w sv live → Calls Try.prog 9 #[RV M, .int .i64 self, V own.l, sv] w (Tells (V (cutV M self own live).l) w)
  heads : ∀ (w : World), Calls Try.prog 7 #[] w (Tells (.bool true) w)
theorem acM_len {M : List Vc} (hM : M.length = 13) (p : Int) (r v : Vc) : (acM M p r v).length = 13 := by
  unfold acM
  split
  · rw [List.length_set, hM]
  · exact hM
theorem range_r {w : World} {b : Nat} {M : List Vc} (h : Rw w b 24 (rows Vc.cells M).toArray) : w.rangeAt b 0 (rows Vc.cells M) := h.range 0 _ fun j u hu => by simpa using hu
theorem info_rows {M : List Vc} (hM : M.length = 13) : (Try.prog.info? 24).map (·.size) = some (rows Vc.cells M).length := by rw [rows_size hM]; exact size24
set_option maxHeartbeats 8000000 in
set_option maxRecDepth 100000 in
theorem tells_law (K : Prs) (M : List Vc) (hM : M.length = 13) (p : Int) (r v : Vc) (live : List Int) (sv : Value) (w : World) (h : IHas w sv live) : Calls Try.prog 4 #[RV M, .int .i64 p, V r.l, V v.l, sv] w (Tells (.bool true) w) := by
  obtain ⟨q, c, rfl⟩ := SHas.slice h
  have hml := maxLen_lt h.1
  obtain ⟨R1, R2, R3, hbel⟩ := three_rows w (rows Vc.cells M).toArray 24 (vals r.l).toArray 23 (vals v.l).toArray 23
  generalize hW : ((w.alloc (.cells (rows Vc.cells M).toArray 24)).alloc (.cells (vals r.l).toArray 23)).alloc (.cells (vals v.l).toArray 23) = w0 at R1 R2 R3 hbel
  have hzM := size_r hM
  have zr := size_v r.h
  have zv := size_v v.h
  have ZV := zv24
  have ZN := zc24_ne
  go_enter Try.func4, Try.ntmps4
  go_upto_region 1 with (rw [hW])
  clear hW
  by_cases h40 : live.length ≤ 40
  case neg =>
    have h40' : (40 : Int) < (live.length : Int) := by omega
    go_wp2_with fail
    refine (K.heads _).mono ?_
    rintro e w2 ⟨rfl, hb2⟩
    go_wp2_with fail
    go_ret
    exact ⟨rfl, below_on hbel hb2⟩
  have h40' : ¬ (40 : Int) < (live.length : Int) := by omega
  obtain ⟨A, HA⟩ := hid_ex (acM M p r v)
  obtain ⟨z, HZ⟩ := hid_ex (acb M p r v)
  have hA : A.length = 13 := by rw [← HA.out]; exact acM_len hM p r v
  have hzA := size_r hA
  have hsz : (rows Vc.cells (List.replicate 13 z0)).toArray.size = (rows Vc.cells A).toArray.size := by rw [List.size_toArray, List.size_toArray, rows_size hA, rows_size (by simp)]
  have ho := rows_one13 A
  have C1 := fun w' => K.accept M p r v w' hM
  have C2 := fun w' => refAccept_any M hM p r v w'
  rw [HA.out, HZ.out] at C1 C2
  go_wp2_with (first | refine load_r 24 _ rfl rfl _ rfl R1 Try.underlying24 rfl hzM ?_ | refine load_r 23 _ rfl rfl _ rfl R2 Try.underlying23 rfl zr ?_ | refine load_r 23 _ rfl rfl _ rfl R3 Try.underlying23 rfl zv ?_)
  refine (C1 _).mono ?_
  rintro e w1 ⟨rfl, hb1⟩
  replace R1 := R1.later hb1
  replace R2 := R2.later hb1
  replace R3 := R3.later hb1
  replace hbel := below_on hbel hb1
  have Q1 := rw_new w1 24 zc24
  have hbA := bel_alloc (Below.refl w1.heap.size w1) (.cells zc24 24)
  generalize hW1 : w1.alloc (.cells zc24 24) = w2 at Q1 hbA
  rw [zero_rows] at Q1
  have Q2 := Q1.row (rows Vc.cells A).toArray
  have hb2 := below_setRow hbA (Nat.le_refl _) (rows Vc.cells A).toArray
  generalize hW2 : w2.setRow w1.heap.size (rows Vc.cells A).toArray = w3 at Q2 hb2
  replace R1 := R1.later hb2
  replace R2 := R2.later hb2
  replace R3 := R3.later hb2
  replace hbel := below_on hbel hb2
  go_wp2_with (first | rw [hW1] | (refine store_r rfl 24 _ _ rfl w1.heap.size _ rfl rfl Q1 hzA hsz ho ?_; rw [hW2]) | refine load_r 24 _ rfl rfl _ rfl R1 Try.underlying24 rfl hzM ?_ | refine load_r 23 _ rfl rfl _ rfl R2 Try.underlying23 rfl zr ?_ | refine load_r 23 _ rfl rfl _ rfl R3 Try.underlying23 rfl zv ?_)
  generalize w1.heap.size = b11 at Q2 ⊢
  clear hW1 hW2 Q1 hbA hb1 hb2
  refine (C2 _).mono ?_
  rintro e w4 ⟨rfl, hb1⟩
  replace R1 := R1.later hb1
  replace R3 := R3.later hb1
  replace Q2 := Q2.later hb1
  replace hbel := below_on hbel hb1
  have Q1 := rw_new w4 24 zc24
  have hbA := bel_alloc (Below.refl w4.heap.size w4) (.cells zc24 24)
  generalize hW1 : w4.alloc (.cells zc24 24) = w5 at Q1 hbA
  rw [zero_rows] at Q1
  have Q3 := Q1.row (rows Vc.cells A).toArray
  have hb2 := below_setRow hbA (Nat.le_refl _) (rows Vc.cells A).toArray
  generalize hW2 : w5.setRow w4.heap.size (rows Vc.cells A).toArray = w6 at Q3 hb2
  replace R1 := R1.later hb2
  replace R3 := R3.later hb2
  replace Q2 := Q2.later hb2
  replace hbel := below_on hbel hb2
  go_wp2_with (first | rw [hW1] | (refine store_r rfl 24 _ _ rfl w4.heap.size _ rfl rfl Q1 hzA hsz ho ?_; rw [hW2]))
  generalize w4.heap.size = b13 at Q3 ⊢
  clear hW1 hW2 Q1 hbA hb1 hb2 C1 C2
  have E := fun w' => eq_rows w' A A hA hA
  simp only [(rqb_iff hA hA).2 rfl] at E
  obtain ⟨y, HY⟩ := hid_ex (cutV M p v live)
  have F := fun w' => eq_arrays w' y.l y.l y.h y.h
  simp only [BEq.rfl] at F
  have hI := SHas.later h hbel
  have C3 := fun (w' : World) (hb : Below w6.heap.size w6 w') => K.cut M p v live (.slice q live.length c) w' hM (SHas.later hI hb)
  have C4 := fun (w' : World) (hb : Below w6.heap.size w6 w') => refCut_any M hM p v live (.slice q live.length c) w' (SHas.later hI hb)
  rw [HY.out] at C3 C4
  have iM := info_rows hM
  have iA := info_rows hA
  have iv := info_vals v.h
  have ST : Calm.Stays (fun w' : World => w'.rangeAt b11 0 (rows Vc.cells A) ∧ w'.rangeAt b13 0 (rows Vc.cells A) ∧ w'.rangeAt w.heap.size 0 (rows Vc.cells M) ∧ w'.rangeAt (w.heap.size + 1 + 1) 0 (vals v.l) ∧ Below w6.heap.size w6 w') := fun a b h hb => ⟨range_later h.1 hb, range_later h.2.1 hb, range_later h.2.2.1 hb, range_later h.2.2.2.1 hb, below_on h.2.2.2.2 hb⟩
  refine Calm.region (by kernel_rfl) (by kernel_rfl) (fun w' : World => w'.rangeAt b11 0 (rows Vc.cells A) ∧ w'.rangeAt b13 0 (rows Vc.cells A) ∧ w'.rangeAt w.heap.size 0 (rows Vc.cells M) ∧ w'.rangeAt (w.heap.size + 1 + 1) 0 (vals v.l) ∧ Below w6.heap.size w6 w') ⟨range_r Q2, range_r Q3, range_r R1, range_of R3, (Below.refl _ _).drew⟩ ?_
  refine Calm.lm iA (fun _ h => h.1) Try.underlying24 ?_
  refine Calm.lm iA (fun _ h => h.2.1) Try.underlying24 ?_
  iterate 7 (refine Calm.pu ?_)
  refine Calm.lm iM (fun _ h => h.2.2.1) Try.underlying24 ?_
  refine Calm.pu ?_
  refine Calm.lm iv (fun _ h => h.2.2.2.1) Try.underlying23 ?_
  refine Calm.pu ?_
  refine Calm.k4 ST (fun w' h => C3 w' h.2.2.2.2) ?_
  refine Calm.lm iM (fun _ h => h.2.2.1) Try.underlying24 ?_
  refine Calm.pu ?_
  refine Calm.lm iv (fun _ h => h.2.2.2.1) Try.underlying23 ?_
  refine Calm.pu ?_
  refine Calm.k4 ST (fun w' h => C4 w' h.2.2.2.2) ?_
  iterate 3 (refine Calm.pu ?_)
  refine Calm.k0 ST (fun w' _ => K.heads w') ?_
  iterate 2 (refine Calm.pu ?_)
  intro w7 hS7
  go_wp2_with fail
  go_ret
  exact ⟨rfl, below_on hbel hS7.2.2.2.2⟩
end Go.Proofs.Ytcebchjokmampaa
/- Check of package roster. -/
namespace Go.Proofs.Ytcebchjokmampaa
open Go.RowKit

/-- Numbers that rise. -/
def Up (l : List Int) : Prop := l.Pairwise (· < ·)
theorem ckI_up : ∀ l : List Int, ckI l = true ↔ Up l ∧ ∀ x ∈ l, 1 ≤ x ∧ x ≤ 12
  | [] => by simp [ckI, Up]
  | [x] => by simp [ckI, Up, wi_iff]
  | x :: y :: l => by
    rw [ckI, Bool.and_eq_true, ckI_up (y :: l), Bool.and_eq_true, decide_eq_true_eq, wi_iff]
    constructor
    · rintro ⟨⟨h1, h2⟩, h3, h4⟩
      refine ⟨List.pairwise_cons.2 ⟨fun z hz => ?_, h3⟩, fun z hz => ?_⟩
      · rcases List.mem_cons.1 hz with e | e
        · omega
        · have := (List.pairwise_cons.1 h3).1 z e
          omega
      · rcases List.mem_cons.1 hz with e | e
        · subst e
          exact h1
        · exact h4 z e
    · rintro ⟨h1, h2⟩
      obtain ⟨h3, h4⟩ := List.pairwise_cons.1 h1
      exact ⟨⟨h2 x (List.mem_cons_self ..), h3 y (List.mem_cons_self ..)⟩, h4, fun z hz => h2 z (List.mem_cons_of_mem _ hz)⟩
/-- Numbers rise, from the one ahead on. -/
def ckF (m : Int) : List Int → Bool
  | [] => true
  | x :: l => (decide (m < x) && decide (x ≤ 12)) && ckF x l
theorem ckF_iff : ∀ (l : List Int) (m : Int), ckF m l = true ↔ Up l ∧ ∀ x ∈ l, m < x ∧ x ≤ 12
  | [], m => by simp [ckF, Up]
  | x :: l, m => by
    rw [ckF, Bool.and_eq_true, Bool.and_eq_true, decide_eq_true_eq, decide_eq_true_eq, ckF_iff l x]
    constructor
    · rintro ⟨⟨h1, h2⟩, h3, h4⟩
      refine ⟨List.pairwise_cons.2 ⟨fun z hz => (h4 z hz).1, h3⟩, fun z hz => ?_⟩
      rcases List.mem_cons.1 hz with e | e
      · subst e
        exact ⟨h1, h2⟩
      · have := h4 z e
        omega
    · rintro ⟨h1, h2⟩
      obtain ⟨h3, h4⟩ := List.pairwise_cons.1 h1
      have := h2 x (List.mem_cons_self ..)
      exact ⟨this, h4, fun z hz => ⟨h3 z hz, (h2 z (List.mem_cons_of_mem _ hz)).2⟩⟩
theorem ckF_zero (l : List Int) : ckF 0 l = ckI l := by
  have : ckF 0 l = true ↔ ckI l = true := by
    rw [ckF_iff, ckI_up]
    constructor
    · rintro ⟨h1, h2⟩
      exact ⟨h1, fun x hx => by have := h2 x hx; omega⟩
    · rintro ⟨h1, h2⟩
      exact ⟨h1, fun x hx => by have := h2 x hx; omega⟩
  cases h : ckI l
  · cases h2 : ckF 0 l
    · rfl
    · rw [this.1 h2] at h
      cases h
  · exact this.2 h
set_option maxHeartbeats 2000000 in
set_option maxRecDepth 100000 in
theorem rosCheck_any (l : List Int) (sv : Value) (w : World) (h : IHas w sv l) : Calls Try.prog 19 #[sv] w (Tells (.bool (ckI l)) w) := by
  obtain ⟨q, c, rfl⟩ := SHas.slice h
  have hml := maxLen_lt h.1
  obtain ⟨z, HZ⟩ := hid_ex (ckI l)
  rw [HZ.out]
  have H : Hid (IHas w (.slice q l.length c) l) := h
  have H0 : Hid (ckF 0 (l.drop 0) = z) := by
    show _ = _
    rw [List.drop_zero, ckF_zero]
    exact HZ.out
  clear h HZ
  go_enter Try.func19, Try.ntmps19
  go_wp2
  go_loopw [3, 8] (fun va vi wr => ∃ (k : Nat) (m : Int), vi = .int .i64 k ∧ va = .int .i64 m ∧ k ≤ l.length ∧ Hid (ckF m (l.drop k) = z) ∧ Below w.heap.size w wr) (fun _ vi _ => l.length - (intOf vi).toNat)
  case atStart => exact ⟨0, 0, rfl, rfl, by omega, H0, Below.refl _ _⟩
  case round =>
    obtain ⟨k, m, rfl, rfl, hk, HV, hbel⟩ := hrel
    by_cases hlt : k < l.length
    · have hlt' : (k : Int) < (l.length : Int) := by omega
      obtain ⟨g, o, rfl, hd0⟩ := H.out.at k hlt
      have c1 := cell_later hbel (hd0 k hlt)
      clear hd0 H H0
      obtain ⟨x, HX⟩ := hid_ex l[k]
      rw [HX.out] at c1
      have HE : Hid (l.drop k = x :: l.drop (k + 1)) := by
        show _ = _
        rw [List.drop_eq_getElem_cons hlt, HX.out]
      clear HX
      by_cases h1 : x ≤ m
      · obtain rfl : false = z := by
          rw [← HV.out, HE.out]
          have : ¬ m < x := by omega
          simp [ckF, this]
        go_wp2
        go_ret
        exact ⟨rfl, hbel⟩
      · by_cases h2 : 12 < x
        · obtain rfl : false = z := by
            rw [← HV.out, HE.out]
            have : ¬ x ≤ 12 := by omega
            simp [ckF, this]
          go_wp2
          go_ret
          exact ⟨rfl, hbel⟩
        · have HN : Hid (ckF x (l.drop (k + 1)) = z) := by
            show _ = _
            rw [← HV.out, HE.out, ckF]
            have e1 : m < x := by omega
            have e2 : x ≤ 12 := by omega
            simp [e1, e2]
          clear HV HE
          go_wp2
          go_roundw
          case rel => exact ⟨k + 1, x, by simp, rfl, by omega, HN, hbel⟩
          case measure => simp [intOf]; omega
    · have hlt' : ¬ (k : Int) < (l.length : Int) := by omega
      obtain rfl : k = l.length := by omega
      obtain rfl : true = z := by
        rw [← HV.out, List.drop_length]
        rfl
      clear HV H H0
      go_wp2
      go_ret
      exact ⟨rfl, hbel⟩
end Go.Proofs.Ytcebchjokmampaa
/- The program's functions of layer 20: between and Accept. -/
namespace Go.Proofs.Ytcebchjokmampaa
open Go.RowKit

theorem mt_lq {a b : List Int} (ha : a.length = 13) (hb : b.length = 13) : (mt a b == a) = lq a b := by
  have : (mt a b == a) = true ↔ lq a b = true := by
    rw [beq_iff_eq, lq_iff ha hb]
    constructor
    · intro h i hi
      have e := mt_at ha hb i hi
      rw [h] at e
      omega
    · intro h
      refine ext13 (mt_length ha hb) ha fun i hi => ?_
      rw [mt_at ha hb i hi]
      have := h i hi
      omega
  cases h1 : lq a b
  · cases h2 : (mt a b == a)
    · rfl
    · rw [this.1 h2] at h1
      cases h1
  · exact this.2 h1
set_option maxHeartbeats 4000000 in
set_option maxRecDepth 100000 in
theorem between_any (a r v : List Int) (w : World) (ha : a.length = 13) (hr : r.length = 13) (hv : v.length = 13) : Calls Try.prog 22 #[V a, V r, V v] w (Tells (.bool (lq a r && lq r v)) w) := by
  have C1 := fun w1 => join_any a r w1 ha hr
  have C2 := fun w1 => meet_any r v w1 hr hv
  have E1 := fun w1 => eq_arrays w1 (jn a r) r (jn_length ha hr) hr
  have E2 := fun w1 => eq_arrays w1 (mt r v) r (mt_length hr hv) hr
  simp only [mt_lq hr hv] at E2
  have hj : Hid ((jn a r == r) = lq a r) := rfl
  simp only [hj.out] at E1
  obtain ⟨r1, H1⟩ := hid_ex (lq a r)
  obtain ⟨r2, H2⟩ := hid_ex (lq r v)
  rw [H1.out, H2.out]
  rw [H1.out] at E1
  rw [H2.out] at E2
  clear hj H1 H2
  have HS : Hid (∀ w1 : World, w1 = ((w.alloc (.cells (vals a).toArray 23)).alloc (.cells (vals r).toArray 23)).alloc (.cells (vals v).toArray 23) → At w1 w.heap.size a ∧ At w1 (w.heap.size + 1) r ∧ At w1 (w.heap.size + 1 + 1) v ∧ Below w.heap.size w w1) := by
    show ∀ w1 : World, _ → _
    rintro w1 rfl
    exact ⟨((at_new w a ha).alloc _).alloc _, (at_next _ (by simp) r hr).alloc _, at_next _ (by simp) v hv, (((Below.refl _ _).alloc (Nat.le_refl _) _).alloc (by simp) _).alloc (by simp; omega) _⟩
  clear ha hr hv
  go_enter Try.func22, Try.ntmps22
  go_wp2
  obtain ⟨h1, h2, h3, hbel⟩ := HS.out _ rfl
  generalize ((w.alloc (.cells (vals a).toArray 23)).alloc (.cells (vals r).toArray 23)).alloc (.cells (vals v).toArray 23) = w0 at h1 h2 h3 hbel ⊢
  clear HS
  have hs : Calm.Stays (fun w' => At w' w.heap.size a ∧ At w' (w.heap.size + 1) r ∧ At w' (w.heap.size + 1 + 1) v ∧ Below w.heap.size w w') := fun w1 w2 h hb => ⟨h.1.later hb, h.2.1.later hb, h.2.2.1.later hb, below_on h.2.2.2 hb⟩
  cases r1
  all_goals
    refine Calm.region (by kernel_rfl) (by kernel_rfl) (fun w' => At w' w.heap.size a ∧ At w' (w.heap.size + 1) r ∧ At w' (w.heap.size + 1 + 1) v ∧ Below w.heap.size w w') ⟨h1, h2, h3, hbel.drew⟩ ?_
    refine Calm.load (by rfl) _ rfl rfl (fun _ h => by go_split_ands; assumption) ?_
    simp only [Act.put, List.setIfInBounds_toArray, List.set_cons_zero, List.set_cons_succ]
    refine Calm.load (by rfl) _ rfl rfl (fun _ h => by go_split_ands; assumption) ?_
    simp only [Act.put, List.setIfInBounds_toArray, List.set_cons_zero, List.set_cons_succ]
    refine Calm.k2 hs (fun w' _ => C1 w') ?_
    refine Calm.load (by rfl) _ rfl rfl (fun _ h => by go_split_ands; assumption) ?_
    simp only [Act.put, List.setIfInBounds_toArray, List.set_cons_zero, List.set_cons_succ]
    refine Calm.pu ?_
    refine Calm.pu ?_
    first | refine Calm.sk ?_ | (refine Calm.load (by rfl) _ rfl rfl (fun _ h => by go_split_ands; assumption) ?_; simp only [Act.put, List.setIfInBounds_toArray, List.set_cons_zero, List.set_cons_succ])
    first | refine Calm.sk ?_ | (refine Calm.load (by rfl) _ rfl rfl (fun _ h => by go_split_ands; assumption) ?_; simp only [Act.put, List.setIfInBounds_toArray, List.set_cons_zero, List.set_cons_succ])
    first | refine Calm.sk ?_ | refine Calm.k2 hs (fun w' _ => C2 w') ?_
    first | refine Calm.sk ?_ | (refine Calm.load (by rfl) _ rfl rfl (fun _ h => by go_split_ands; assumption) ?_; simp only [Act.put, List.setIfInBounds_toArray, List.set_cons_zero, List.set_cons_succ])
    first | refine Calm.sk ?_ | refine Calm.pu ?_
    refine Calm.pu ?_
    refine Calm.pu ?_
    rintro w9 ⟨_, _, _, hbel9⟩
    go_wp2
    go_ret
    exact ⟨rfl, hbel9⟩
end Go.Proofs.Ytcebchjokmampaa
/- Accept of package stable. -/
namespace Go.Proofs.Ytcebchjokmampaa
open Go.RowKit

set_option maxHeartbeats 8000000 in
set_option maxRecDepth 100000 in
theorem accept_any (M : List Vc) (hM : M.length = 13) (p : Int) (r v : Vc) (w : World) : Calls Try.prog 10 #[RV M, .int .i64 p, V r.l, V v.l] w (Tells (.tuple #[RV (acM M p r v), .bool (acb M p r v)]) w) := by
  obtain ⟨R1, R2, R3, R4, hbel⟩ := four_rows w (rows Vc.cells M).toArray 24 (vals r.l).toArray 23 (vals v.l).toArray 23 zc24 24
  generalize hW : (((w.alloc (.cells (rows Vc.cells M).toArray 24)).alloc (.cells (vals r.l).toArray 23)).alloc (.cells (vals v.l).toArray 23)).alloc (.cells zc24 24) = w0 at R1 R2 R3 R4 hbel
  rw [zero_rows] at R4
  obtain ⟨z, HZ⟩ := hid_ex (acb M p r v)
  obtain ⟨M', HM'⟩ := hid_ex (acM M p r v)
  rw [HZ.out, HM'.out]
  have ZV := zv24
  have ZN := zc24_ne
  go_enter Try.func10, Try.ntmps10
  go_upto_region 1 with (rw [hW])
  clear hW
  obtain ⟨r1, H1⟩ := hid_ex (wi p 1 12)
  obtain ⟨r2, H2⟩ := hid_ex (chk r.l)
  obtain ⟨r3, H3⟩ := hid_ex (lq r.l v.l)
  obtain ⟨r4, H4⟩ := hid_ex (lq (M.getD p.toNat z0).l r.l)
  have HB : Hid ((r1 && (r2 && (r3 && r4))) = z) := by
    have := HZ.out
    unfold acb at this
    rw [H1.out, H2.out, H3.out, H4.out] at this
    exact this
  have d2 := range_of R2
  have d3 := range_of R3
  have z2 := info_vals r.h
  have z3 := info_vals v.h
  have C1 := fun w' => isPeer_any p w'
  have C2 := fun w' => check_any r.l w' r.h
  rw [H1.out] at C1
  rw [H2.out] at C2
  have hzr := size_r hM
  go_cut [26] from 10 to 26 (fun vb wx => vb = .bool (!z) ∧ Below w0.heap.size w0 wx)
  case first =>
    cases hr1 : r1
    · subst hr1
      obtain rfl : false = z := HB.out
      have ST : Calm.Stays (fun w' : World => Below w0.heap.size w0 w') := fun a b h hb => below_on h hb
      refine Calm.region (by kernel_rfl) (by kernel_rfl) (fun w' : World => Below w0.heap.size w0 w') (Below.refl _ _).drew ?_
      refine Calm.pu ?_
      refine Calm.k1 ST (fun w' _ => C1 w') ?_
      iterate 15 (first | refine Calm.sk ?_ | refine Calm.pu ?_)
      intro w1 hS1
      go_wp2_with fail
      go_meet
      case rel => exact ⟨rfl, hS1⟩
    · subst hr1
      obtain ⟨hp1, hp2⟩ := wi_iff.1 (show wi p 1 12 = true from H1.out)
      obtain ⟨n, rfl⟩ : ∃ n : Nat, p = (n : Int) := ⟨p.toNat, by omega⟩
      have hn : n < M.length := by omega
      have hn' : (n : Int) < 13 := by omega
      have dn := row_at R1 n hn
      have eg : M.getD (n : Int).toNat z0 = M[n] := by simp [List.getD_eq_getElem?_getD, List.getElem?_eq_getElem hn]
      have z4 := info_vals M[n].h
      have C4 := fun w' => between_any M[n].l r.l v.l w' M[n].h r.h v.h
      rw [eg] at H4
      rw [H3.out, H4.out] at C4
      have ST : Calm.Stays (fun w' : World => w'.rangeAt (w.heap.size + 1) 0 (vals r.l) ∧ w'.rangeAt (w.heap.size + 1 + 1) 0 (vals v.l) ∧ w'.rangeAt w.heap.size (n * 13) (vals M[n].l) ∧ Below w0.heap.size w0 w') := fun a b h hb => ⟨range_later h.1 hb, range_later h.2.1 hb, range_later h.2.2.1 hb, below_on h.2.2.2 hb⟩
      cases r2
      all_goals
        refine Calm.region (by kernel_rfl) (by kernel_rfl) (fun w' : World => w'.rangeAt (w.heap.size + 1) 0 (vals r.l) ∧ w'.rangeAt (w.heap.size + 1 + 1) 0 (vals v.l) ∧ w'.rangeAt w.heap.size (n * 13) (vals M[n].l) ∧ Below w0.heap.size w0 w') ⟨d2, d3, dn, (Below.refl _ _).drew⟩ ?_
        refine Calm.pu ?_
        refine Calm.k1 ST (fun w' _ => C1 w') ?_
        iterate 2 (refine Calm.pu ?_)
        refine Calm.lm z2 (fun _ h => h.1) Try.underlying23 ?_
        refine Calm.k1 ST (fun w' _ => C2 w') ?_
        iterate 3 (refine Calm.pu ?_)
        iterate 2 (first | refine Calm.sk ?_ | refine Calm.pu ?_)
        first | refine Calm.sk ?_ | refine Calm.lm z4 (fun _ h => h.2.2.1) Try.underlying23 ?_
        first | refine Calm.sk ?_ | refine Calm.lm z2 (fun _ h => h.1) Try.underlying23 ?_
        first | refine Calm.sk ?_ | refine Calm.lm z3 (fun _ h => h.2.1) Try.underlying23 ?_
        first | refine Calm.sk ?_ | refine Calm.k3 ST (fun w' _ => C4 w') ?_
        iterate 2 (first | refine Calm.sk ?_ | refine Calm.pu ?_)
        intro w1 hS1
        go_wp2_with fail
        go_meet
        case rel => exact ⟨by rw [← HB.out]; cases r3 <;> cases r4 <;> simp, hS1.2.2.2⟩
  case rest =>
    obtain ⟨rfl, hb1⟩ := hcut
    clear C1 C2 d2 d3 z3
    replace R1 := R1.later hb1
    replace R2 := R2.later hb1
    replace R4 := R4.later hb1
    replace hbel := below_on hbel hb1
    have zr := size_v r.h
    cases z
    · have hMM : M' = M := by rw [← HM'.out, acM, if_neg (by rw [HZ.out]; simp)]
      subst hMM
      have hbel2 := below_setRow hbel (g := w.heap.size + 1 + 1 + 1) (by omega) (rows Vc.cells M').toArray
      have R5 := R4.row (rows Vc.cells M').toArray
      have hsz : (rows Vc.cells (List.replicate 13 z0)).toArray.size = (rows Vc.cells M').toArray.size := by rw [List.size_toArray, List.size_toArray, rows_size hM, rows_size (by simp)]
      have ho := rows_one13 M'
      go_wp2_with (first | refine load_r 24 _ rfl rfl _ rfl R1 Try.underlying24 rfl hzr ?_ | refine store_r rfl 24 _ _ rfl (w.heap.size + 1 + 1 + 1) _ rfl rfl R4 hzr hsz ho ?_)
      exact bodyPost_ret (results_rt rfl rfl R5 rfl Try.underlying24 hzr) rfl ⟨rfl, hbel2⟩
    · have hr1 : r1 = true := by
        have := HB.out
        cases r1
        · simp at this
        · rfl
      obtain ⟨hp1, hp2⟩ := wi_iff.1 (show wi p 1 12 = true by rw [H1.out, hr1])
      obtain ⟨n, rfl⟩ : ∃ n : Nat, p = (n : Int) := ⟨p.toNat, by omega⟩
      have hn : n < M.length := by omega
      have hn' : (n : Int) < 13 := by omega
      have hMM : M' = M.set n r := by
        rw [← HM'.out, acM, if_pos HZ.out]
        simp
      have hM' : M'.length = 13 := by rw [hMM, List.length_set, hM]
      clear H1 H2 H3 H4 HB HZ HM'
      have ht := there_row R1 n hn
      have ho1 := vals_one r.l
      have hvs : (vals r.l).toArray.size = 13 := by rw [vals_size, r.h]
      have P1 := put_row R1 n hn r
      have P4 := rw_setCells (g := w.heap.size) R4 (by omega) (vals r.l) (n * 13)
      have hbel1 := bel_setCells hbel (Nat.le_refl _) (vals r.l) (n * 13)
      rw [← hMM] at P1
      clear hMM
      generalize hW5 : wc.setCells w.heap.size (n * 13) (vals r.l) = w5 at P1 P4 hbel1
      have hzr' := size_r hM'
      have hbel2 := below_setRow hbel1 (g := w.heap.size + 1 + 1 + 1) (by omega) (rows Vc.cells M').toArray
      have R5 := P4.row (rows Vc.cells M').toArray
      have hsz : (rows Vc.cells (List.replicate 13 z0)).toArray.size = (rows Vc.cells M').toArray.size := by rw [List.size_toArray, List.size_toArray, rows_size hM', rows_size (by simp)]
      have ho := rows_one13 M'
      go_wp2_with (first | refine load_r 23 _ rfl rfl _ rfl R2 Try.underlying23 rfl zr ?_ | (refine Go.wpList_store_mid rfl 23 _ _ rfl w.heap.size (n * 13) (vals r.l).toArray rfl rfl (by rw [hvs]; exact ht) zr ho1 ?_; rw [List.toList_toArray, hW5]) | refine load_r 24 _ rfl rfl _ rfl P1 Try.underlying24 rfl hzr' ?_ | refine store_r rfl 24 _ _ rfl (w.heap.size + 1 + 1 + 1) _ rfl rfl P4 hzr' hsz ho ?_)
      exact bodyPost_ret (results_rt rfl rfl R5 rfl Try.underlying24 hzr') rfl ⟨rfl, hbel2⟩
end Go.Proofs.Ytcebchjokmampaa
/- Cut of package stable. -/
namespace Go.Proofs.Ytcebchjokmampaa
open Go.RowKit

set_option maxHeartbeats 8000000 in
set_option maxRecDepth 100000 in
theorem cut_any (M : List Vc) (hM : M.length = 13) (self : Int) (own : Vc) (live : List Int) (sv : Value) (w : World) (h : IHas w sv live) : Calls Try.prog 9 #[RV M, .int .i64 self, V own.l, sv] w (Tells (V (cutV M self own live).l) w) := by
  obtain ⟨q, c, rfl⟩ := SHas.slice h
  have hml := maxLen_lt h.1
  obtain ⟨R1, R2, R3, hbel⟩ := three_rows w (rows Vc.cells M).toArray 24 (vals own.l).toArray 23 #[.int .i64 0, .int .i64 0, .int .i64 0, .int .i64 0, .int .i64 0, .int .i64 0, .int .i64 0, .int .i64 0, .int .i64 0, .int .i64 0, .int .i64 0, .int .i64 0, .int .i64 0] 23
  generalize hW : ((w.alloc (.cells (rows Vc.cells M).toArray 24)).alloc (.cells (vals own.l).toArray 23)).alloc (.cells #[.int .i64 0, .int .i64 0, .int .i64 0, .int .i64 0, .int .i64 0, .int .i64 0, .int .i64 0, .int .i64 0, .int .i64 0, .int .i64 0, .int .i64 0, .int .i64 0, .int .i64 0] 23) = w0 at R1 R2 R3 hbel
  have A3 : At w0 (w.heap.size + 1 + 1) zeros := ⟨rfl, R3⟩
  have A2 : At w0 (w.heap.size + 1) own.l := ⟨own.h, R2⟩
  clear R2 R3
  obtain ⟨z, HZ⟩ := hid_ex (ctB self live)
  obtain ⟨v', HV'⟩ := hid_ex (cutV M self own live)
  rw [HV'.out]
  go_enter Try.func9, Try.ntmps9
  go_upto_region 1 with (rw [hW])
  clear hW
  obtain ⟨r1, H1⟩ := hid_ex (ckI live)
  obtain ⟨r3, H3⟩ := hid_ex (wi self 1 12)
  have HB : Hid ((r1 && (decide (live.length ≠ 0) && r3)) = z) := by
    have := HZ.out
    unfold ctB at this
    rw [H1.out, H3.out] at this
    exact this
  have hZ0 : Hid (z = false → v' = z0) := fun e => by rw [← HV'.out, cutV, if_neg (by rw [HZ.out, e]; simp)]
  have HZ1 : Hid (z = true → v' = ctL M self own live) := fun e => by rw [← HV'.out, cutV, if_pos (by rw [HZ.out, e])]
  clear HZ HV'
  go_cut [24] from 12 to 24 (fun vb wx => vb = .bool (!z) ∧ Below w0.heap.size w0 wx)
  case first =>
    go_wp2_with fail
    refine (isPeer_any self _).mono ?_
    rw [H3.out]
    rintro e w1 ⟨rfl, hb1⟩
    cases r3
    · obtain rfl : false = z := by rw [← HB.out]; simp
      go_wp2_with fail
      go_meet
      case rel => exact ⟨rfl, hb1⟩
    · by_cases hl0 : live.length = 0
      · obtain rfl : false = z := by rw [← HB.out]; simp [hl0]
        have g : ((live.length : Int) == 0) = true := by rw [beq_iff_eq]; omega
        clear hl0
        go_wp2_with fail
        go_meet
        case rel => exact ⟨rfl, hb1⟩
      · have g : ((live.length : Int) == 0) = false := by rw [beq_eq_false_iff_ne]; omega
        obtain rfl : r1 = z := by rw [← HB.out, decide_eq_true hl0]; simp
        clear hl0
        go_wp2_with fail
        refine (rosCheck_any live _ _ (SHas.later h (below_on hbel hb1))).mono ?_
        rw [H1.out]
        rintro e w2 ⟨rfl, hb2⟩
        go_wp2_with fail
        go_meet
        case rel => exact ⟨rfl, below_on hb1 hb2⟩
  case rest =>
    obtain ⟨rfl, hb1⟩ := hcut
    replace R1 := R1.later hb1
    replace A2 := A2.later hb1
    replace A3 := A3.later hb1
    replace hbel := below_on hbel hb1
    cases z
    · obtain rfl := hZ0.out rfl
      have R5 := A3.row (l := zeros) rfl
      have hbel2 := below_setRow hbel (g := w.heap.size + 1 + 1) (by omega) (vals zeros).toArray
      go_wp2_with (first | refine store_at rfl _ _ rfl (w.heap.size + 1 + 1) zeros rfl rfl A3 rfl ?_)
      exact bodyPost_ret (results_at rfl rfl R5) rfl ⟨rfl, hbel2⟩
    · obtain rfl := HZ1.out rfl
      have hck : Hid (ckI live = true) := by
        rw [show ckI live = r1 from H1.out]
        have := HB.out
        cases r1
        · simp at this
        · exact rfl
      clear HB H1 H3 hZ0 HZ1
      have A9 := at_new wc zeros rfl
      change At (wc.alloc (.cells #[.int .i64 0, .int .i64 0, .int .i64 0, .int .i64 0, .int .i64 0, .int .i64 0, .int .i64 0, .int .i64 0, .int .i64 0, .int .i64 0, .int .i64 0, .int .i64 0, .int .i64 0] 23)) wc.heap.size zeros at A9
      have hbA := bel_alloc (Below.refl wc.heap.size wc) (.cells #[.int .i64 0, .int .i64 0, .int .i64 0, .int .i64 0, .int .i64 0, .int .i64 0, .int .i64 0, .int .i64 0, .int .i64 0, .int .i64 0, .int .i64 0, .int .i64 0, .int .i64 0] 23)
      generalize hW5 : wc.alloc (.cells #[.int .i64 0, .int .i64 0, .int .i64 0, .int .i64 0, .int .i64 0, .int .i64 0, .int .i64 0, .int .i64 0, .int .i64 0, .int .i64 0, .int .i64 0, .int .i64 0, .int .i64 0] 23) = w5 at A9 hbA
      have hlt3 := A3.lt
      have hb6 : Below wc.heap.size wc (w5.setRow wc.heap.size (vals own.l).toArray) := below_setRow hbA (Nat.le_refl _) _
      have A6 := A9.row (l := own.l) own.h
      generalize hW6 : w5.setRow wc.heap.size (vals own.l).toArray = w6 at hb6 A6
      have hoh := own.h
      go_wp2_with (first | rw [hW5] | refine load_at rfl _ rfl _ rfl A2 ?_ | (refine store_at rfl _ _ rfl wc.heap.size own.l rfl rfl A9 hoh ?_; rw [hW6]))
      clear hW5 hW6 A9 hbA
      replace R1 := R1.later hb6
      replace A3 := A3.later hb6
      replace hbel := below_on hbel hb6
      generalize wc.heap.size = b9 at A6 hlt3 ⊢
      clear hb6 A2 hb1
      go_loopw [29] (fun vi wr => ∃ k : Nat, vi = .int .i64 k ∧ k ≤ live.length ∧ Rw wr w.heap.size 24 (rows Vc.cells M).toArray ∧ At wr (w.heap.size + 1 + 1) zeros ∧ At wr b9 (ctL M self own (live.take k)).l ∧ Below w.heap.size w wr) (fun vi _ => live.length - (intOf vi).toNat)
      case atStart => exact ⟨0, rfl, by omega, R1, A3, A6, hbel⟩
      case round =>
        clear R1 A3 A6 hbel
        obtain ⟨k, rfl, hk, R1, A3, A6, hbel⟩ := hrel
        by_cases hlt : k < live.length
        · have hlt' : (k : Int) < (live.length : Int) := by omega
          obtain ⟨g, o, rfl, hd0⟩ := IHas.at h k hlt
          have hgl : g < w.heap.size := SHas.block (by decide) h rfl (show 0 < live.length by omega)
          have c1 := cell_later hbel (hd0 k hlt)
          have hstep := ctL_take M self own live k hlt
          have hw := ((ckI_iff live).1 hck.out).1 k hlt
          obtain ⟨x, HX⟩ := hid_ex live[k]
          rw [HX.out] at c1 hstep hw
          obtain ⟨hx1, hx2⟩ := wi_iff.1 hw
          obtain ⟨n, rfl⟩ : ∃ n : Nat, x = (n : Int) := ⟨x.toNat, by omega⟩
          have hn : n < M.length := by omega
          have hn' : (n : Int) < 13 := by omega
          obtain ⟨vk, HK⟩ := hid_ex (ctL M self own (live.take k))
          rw [HK.out] at A6 hstep
          clear hd0 hw
          by_cases hs : (n : Int) = self
          · rw [ctS, if_pos hs] at hstep
            go_wp2_with fail
            go_roundw
            case rel => exact ⟨k + 1, by simp, by omega, R1, A3, by rw [hstep]; exact A6, hbel⟩
            case measure => simp [intOf]; omega
          · rw [ctS, if_neg hs] at hstep
            have eg : M.getD (n : Int).toNat z0 = M[n] := by simp [List.getD_eq_getElem?_getD, List.getElem?_eq_getElem hn]
            rw [eg] at hstep
            have dn := row_at R1 n hn
            have z1 := info_vals vk.h
            have z2 := info_vals M[n].h
            have hmt := (mtV vk M[n]).h
            have hS : wr.rangeAt w.heap.size (n * 13) (vals M[n].l) := dn
            go_wp2_with fail
            refine HeldI.region (fun w' => w'.rangeAt w.heap.size (n * 13) (vals M[n].l)) (by kernel_rfl) ?_
            refine HeldI.pu 1 hS ?_
            refine HeldI.pu 2 hS ?_
            refine HeldI.lm 3 z2 (fun _ h => h) Try.underlying23 hS ?_
            refine HeldI.la 0 z1 (show wr.drew.rangeAt b9 0 (vals vk.l) from A6.range0) Try.underlying23 hS ?_
            refine HeldI.kn 4 (meet_any vk.l M[n].l _ vk.h M[n].h) ?_
            rintro e w3 ⟨rfl, hb3⟩
            have hb3' : Below wr.heap.size wr w3 := below_on (Below.refl _ _).drew hb3
            have hS3 : w3.rangeAt w.heap.size (n * 13) (vals M[n].l) := range_later hS hb3'
            refine ⟨_, rfl, hS3, ?_⟩
            replace A6 := A6.later hb3'
            replace A3 := A3.later hb3'
            replace R1 := R1.later hb3'
            have hst : (Instr.storeAt 23 (.pointer (some ⟨b9, 0, none⟩)) (V (mt vk.l M[n].l))).run Try.prog w3 = .ok () (w3.setRow b9 (vals (mt vk.l M[n].l)).toArray) := A6.store hmt
            refine HeldI.ss 5 hst ?_ ?_
            · exact range_same hS3 (setRow_other w3 b9 _ _ (by omega))
            refine HeldI.dn ?_
            go_wp2_with fail
            go_roundw
            case rel => exact ⟨k + 1, by simp, by omega, R1.rowOther (by omega) _, A3.rowOther (by omega) _, by rw [hstep]; exact A6.row hmt, below_setRow (below_on hbel hb3') (by omega) _⟩
            case measure => simp [intOf]; omega
        · have hlt' : ¬ (k : Int) < (live.length : Int) := by omega
          rw [List.take_of_length_le (by omega)] at A6
          obtain ⟨vk, HK⟩ := hid_ex (ctL M self own live)
          rw [HK.out] at A6
          have HK2 := HK
          have R5 := A3.row (l := vk.l) vk.h
          have hbel2 := below_setRow hbel (g := w.heap.size + 1 + 1) (by omega) (vals vk.l).toArray
          have hvk := vk.h
          go_wp2_with (first | refine load_at rfl _ rfl _ rfl A6 ?_ | refine store_at rfl _ _ rfl (w.heap.size + 1 + 1) vk.l rfl rfl A3 hvk ?_)
          exact bodyPost_ret (results_at rfl rfl R5) rfl ⟨by rw [show ctL M self own live = vk from HK2.out], hbel2⟩
end Go.Proofs.Ytcebchjokmampaa
