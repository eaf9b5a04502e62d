import Derived.Test.YtnfejhkgcbabfaaP5
import Derived.Lib.SlBytesConst
import Derived.Laws.OwnMore
import Derived.Deep.Slices
/- RecordGoes' law over the program's calls. -/
namespace Go.Proofs.Ytnfejhkgcbabfaa
open Go.RowKit

theorem own_bempty (w : World) : OwnB (w.alloc (.cells #[] 23)) w.heap.size (.slice (some ⟨w.heap.size, 0, none⟩) 0 0) [] (fun _ => False) := ⟨World.ownsRow_made w #[] 0 (Nat.le_refl _) (Nat.zero_le _) rfl, (fun _ h => by cases h), fun _ h => by cases h⟩
theorem scan_count (b : List UInt8) : (scanR b).1.length ≤ (scanR b).2 := by
  have : ∀ (f : Nat) (b : List UInt8), (scF f b).1.length ≤ (scF f b).2 := fun f => by
    induction f with
    | zero => exact fun b => Nat.zero_le _
    | succ f ih =>
      intro b
      simp only [scF]
      cases e : oneR b with
      | none => exact Nat.zero_le _
      | some x =>
        have h2 := ih (b.drop (x.length + 8))
        show (_ :: _).length ≤ _
        rw [List.length_cons]
        show _ ≤ x.length + 8 + _
        omega
  exact this _ b
set_option maxHeartbeats 8000000 in
set_option maxRecDepth 100000 in
theorem rgoes_law (K : Prr) (KH : ∀ w : World, Calls Try.prog 8 #[] w (Tells (.bool true) w)) (l : List (List UInt8)) (rest : List UInt8) (u v : Value) (w : World) (hu : BHas w u l) (hv : DB w v rest) : Calls Try.prog 3 #[u, v] w (Tells (.bool true) w) := by
  have hm1 := maxLen_lt hu.max
  have hm2 := maxLen_lt hv.1
  obtain ⟨p, c, rfl⟩ := hu.slice
  obtain ⟨q, d, rfl⟩ := SHas.slice hv
  have HU : Hid (∀ w', Below w.heap.size w w' → BHas w' (.slice p l.length c) l) := fun w' hb => hu.later hb
  have HV : Hid (∀ w', Below w.heap.size w w' → DB w' (.slice q rest.length d) rest) := fun w' hb => SHas.later hv hb
  have CF := rFew23_any _ l w hu
  obtain ⟨z, HZ⟩ := hid_ex (fewR l)
  rw [HZ.out] at CF
  clear hu hv
  go_enter Try.func3, Try.ntmps3
  go_wp2_with fail
  refine CF.mono ?_
  rintro e w1 ⟨rfl, hb1⟩
  clear CF
  cases z
  · go_wp2_with fail
    refine (KH w1).mono ?_
    rintro e w2 ⟨rfl, hb2⟩
    go_wp2_with fail
    go_ret
    exact ⟨rfl, below_on hb1 hb2⟩
  by_cases h2 : 6000 < rest.length
  · have h2' : (6000 : Int) < (rest.length : Int) := by omega
    go_wp2_with fail
    refine (KH w1).mono ?_
    rintro e w2 ⟨rfl, hb2⟩
    go_wp2_with fail
    go_ret
    exact ⟨rfl, below_on hb1 hb2⟩
  have h2' : ¬ (6000 : Int) < (rest.length : Int) := by omega
  go_wp2_with fail
  refine (laid_any K l _ w1 (HU.out _ hb1) HZ.out).mono ?_
  rintro e w2 ⟨u2, v2, rfl, d2, i2, hb2⟩
  replace hb2 := below_on hb1 hb2
  have hr := few_recs HZ.out l.length
  rw [List.take_length] at hr
  have hl40 := ((fewR_iff l).1 HZ.out).1
  have HSC : Hid (scanR (recs l ++ rest) = (l ++ (scanR rest).1, (recs l).length + (scanR rest).2)) := scan_recs (fun x hx => by have := few_each HZ.out x hx; omega) rest
  have hn2 := scan_end rest
  have HSL : Hid ((scanR rest).1.length ≤ (scanR rest).2) := scan_count rest
  obtain ⟨⟨m, n⟩, HS⟩ := hid_ex (scanR rest)
  rw [HS.out] at HSC HSL hn2
  replace HSC : Hid (scanR (recs l ++ rest) = (l ++ m, (recs l).length + n)) := HSC
  replace HSL : m.length ≤ n := HSL.out
  replace hn2 : n ≤ rest.length := hn2
  obtain ⟨R, HR⟩ := hid_ex (recs l)
  rw [HR.out] at d2 hr HSC
  obtain ⟨p2, c2, rfl⟩ := SHas.slice d2
  have CS := K.scan rest _ w2 (HV.out _ hb2) (by omega)
  rw [HS.out] at CS
  clear i2 hb1 HZ HS HR
  go_wp2_with fail
  refine CS.mono ?_
  rintro e w3 ⟨u3, rfl, d3, hb3⟩
  replace d2 := SHas.later d2 hb3
  replace hb3 := below_on hb2 hb3
  clear CS hb2
  go_upto_region 7 with fail
  have hba := bel_alloc (Below.refl w3.heap.size w3) (.cells #[] 5)
  have OE := own_empty w3 w3.heap.size (Nat.le_refl _)
  have d2e := SHas.later d2 hba
  go_wp2_with (at_builtin; refine append_db (l := []) rfl _ _ rfl rfl rfl OE d2e (by show 0 + _ ≤ _; omega) hba.size ?_)
  intro v4 w4 O4 hg4
  have hb4 : Below w3.heap.size w3 w4 := hba.grown hg4 hba.size (fun k' hk' => own_block OE k' hk')
  replace O4 : w4.ownsRow w3.heap.size 5 1 v4 R.length (cel R) := O4
  have hr4 := HV.out w4 (below_on hb3 hb4)
  clear OE d2e hg4 hba
  obtain ⟨p4, c4, rfl⟩ := own_sl O4
  go_wp2_with (at_builtin; refine append_db rfl _ _ rfl rfl rfl O4 hr4 (by omega) hb4.size ?_)
  intro v5 w5 O5 hg5
  replace O5 : w5.ownsRow w3.heap.size 5 1 v5 (R ++ rest).length (cel (R ++ rest)) := by rw [List.length_append]; exact O5
  have hb5 : Below w3.heap.size w3 w5 := hb4.grown hg5 hb4.size (fun k' hk' => own_block O4 k' hk')
  have CS := K.scan (R ++ rest) v5 w5 (own_db O5) (by rw [List.length_append]; omega)
  rw [HSC.out] at CS
  clear O4 hr4 hb4 hg5 O5
  go_wp2_with fail
  refine CS.mono ?_
  rintro e w6 ⟨u6, rfl, d6, hb6⟩
  replace hb5 := below_on hb5 hb6
  replace d2 := SHas.later d2 hb5
  replace d3 := d3.later hb5
  replace hb3 := below_on hb3 hb5
  have du := HU.out w6 hb3
  clear CS hb6 hb5 HV HU HSC d2
  go_upto_region 8 with fail
  obtain ⟨ys, hys, hy⟩ := du.fat
  obtain ⟨zs, hzs, hz⟩ := d3.fat
  have hyl : ys.length = l.length := by rw [← hys, List.length_map]
  have hzl : zs.length = m.length := by rw [← hzs, List.length_map]
  have hba := bel_alloc (Below.refl w6.heap.size w6) (.cells #[] 23)
  have OE := own_bempty w6
  have y1 : BAt (w6.alloc (.cells #[] 23)) (.slice p l.length c) ys (fun b => (Value.slice (some ⟨w6.heap.size, 0, none⟩) 0 0).ownBlock = some b ∨ False) := (hy.more.sub (fun b hb => .inr (by
    rcases hb with hb | hb
    · simp only [Value.ownBlock, Option.some.injEq] at hb
      omega
    · exact hb.elim))).later hba
  have hz1 := hz.more
  have HYL : Hid (ys.length = l.length) := hyl
  have HZL : Hid (zs.length = m.length) := hzl
  have hq1 : ([] : List (List UInt8 × Value)).length + ys.length ≤ 100000 := by show 0 + _ ≤ _; omega
  have hq2 : ys.length + zs.length ≤ 100000 := by omega
  clear hyl hzl hy hz
  go_wp2_with (at_builtin; refine append_bs (ys := []) rfl _ _ rfl rfl rfl OE y1 hq1 hba.size ?_)
  intro v7 w7 O7 g7 _
  have hb7 : Below w6.heap.size w6 w7 := hba.grown g7 hba.size (fun k' hk' => (OE.block hk').1)
  replace O7 : OwnB w7 w6.heap.size v7 ys (fun _ => False) := O7
  have z7 : BAt w7 u3 zs (fun b => v7.ownBlock = some b ∨ False) := (hz1.sub (fun b hb => .inr (by
    rcases hb with hb | hb
    · exact (O7.block hb).1
    · exact hb.elim))).later hb7
  clear OE y1 hz1 g7 hba

  go_wp2_with (at_builtin; refine append_bs rfl _ _ rfl rfl rfl O7 z7 hq2 hb7.size ?_)
  intro v8 w8 O8 g8 _
  have hb8 : Below w6.heap.size w6 w8 := hb7.grown g8 hb7.size (fun k' hk' => (O7.block hk').1)
  have h8 := O8.fat.has
  rw [List.map_append, hys, hzs] at h8
  have CL := rLists_any _ v8 (l ++ m) w8 (d6.later hb8) h8
  replace hb3 := below_on hb3 hb8
  clear O7 z7 hb7 hb8 g8 O8 h8
  go_wp2_with fail
  refine CL.mono ?_
  rintro e w9 ⟨rfl, hb9⟩
  replace hb3 := below_on hb3 hb9
  clear CL hb9 d6 d3
  go_wp2_with fail
  refine (KH w9).mono ?_
  rintro e w10 ⟨rfl, hb10⟩
  go_wp2_with fail
  go_ret
  exact ⟨rfl, below_on hb3 hb10⟩
end Go.Proofs.Ytnfejhkgcbabfaa
/- RecordCuts' law over the program's calls. -/
namespace Go.Proofs.Ytnfejhkgcbabfaa
open Go.RowKit

theorem SHas.take1 {w : World} {p : Option Addr} {n c : Nat} {xs : List Value} (h : SHas 1 w (.slice p n c) n xs) {m : Nat} (hm : m ≤ n) : SHas 1 w (.slice p m c) m (xs.take m) := by
  obtain ⟨hx, hl, ⟨e, h0⟩ | ⟨ad, c', e, hc, hd⟩⟩ := h
  · obtain rfl : m = 0 := by omega
    simp only [Value.slice.injEq] at e
    obtain ⟨rfl, _, rfl⟩ := e
    exact ⟨Nat.zero_le _, by simp, .inl ⟨rfl, rfl⟩⟩
  · simp only [Value.slice.injEq] at e
    obtain ⟨rfl, _, rfl⟩ := e
    refine ⟨by omega, by rw [List.length_take]; omega, .inr ⟨ad, c, rfl, ⟨by omega, hc.2⟩, fun h0 => ?_⟩⟩
    obtain ⟨g, o, rfl, hr⟩ := hd (by omega)
    exact ⟨g, o, rfl, fun j u hu => hr j u (by
      have := (List.getElem?_eq_some_iff.1 hu).1
      rw [List.length_take] at this
      rwa [List.getElem?_take_of_lt (by omega)] at hu)⟩
theorem BHas.take {w : World} {p : Option Addr} {c : Nat} {l : List (List UInt8)} (h : BHas w (.slice p l.length c) l) {m : Nat} (hm : m ≤ l.length) : BHas w (.slice p m c) (l.take m) := by
  obtain ⟨ys, h1, h2, h3⟩ := h
  refine ⟨ys.take m, by rw [List.map_take, h1], ?_, fun y hy => h3 y (List.mem_of_mem_take hy)⟩
  rw [rows_take BV.len, Nat.mul_one, List.length_take, Nat.min_eq_left hm]
  exact h2.take1 hm
set_option maxHeartbeats 8000000 in
set_option maxRecDepth 100000 in
theorem rcuts_law (K : Prr) (KH : ∀ w : World, Calls Try.prog 8 #[] w (Tells (.bool true) w)) (l : List (List UInt8)) (n : Int) (u : Value) (w : World) (hu : BHas w u l) (hn2 : n ≤ 9223372036854775807) : Calls Try.prog 5 #[u, .int .i64 n] w (Tells (.bool true) w) := by
  have hm1 := maxLen_lt hu.max
  obtain ⟨p, c, rfl⟩ := hu.slice
  have hcap : l.length ≤ c := by obtain ⟨ys, h1, h2, _⟩ := hu; exact h2.cap.1
  have HU : Hid (∀ w', Below w.heap.size w w' → BHas w' (.slice p l.length c) l) := fun w' hb => hu.later hb
  have CF := rFew23_any _ l w hu
  obtain ⟨z, HZ⟩ := hid_ex (fewR l)
  rw [HZ.out] at CF
  clear hu
  go_enter Try.func5, Try.ntmps5
  go_wp2_with fail
  refine CF.mono ?_
  rintro e w1 ⟨rfl, hb1⟩
  clear CF
  cases z
  · go_wp2_with fail
    refine (KH w1).mono ?_
    rintro e w2 ⟨rfl, hb2⟩
    go_wp2_with fail
    go_ret
    exact ⟨rfl, below_on hb1 hb2⟩
  by_cases h0 : n < 0
  · go_wp2_with fail
    refine (KH w1).mono ?_
    rintro e w2 ⟨rfl, hb2⟩
    go_wp2_with fail
    go_ret
    exact ⟨rfl, below_on hb1 hb2⟩
  obtain ⟨t, rfl⟩ : ∃ t : Nat, n = t := ⟨n.toNat, by omega⟩
  go_wp2_with fail
  refine (laid_any K l _ w1 (HU.out _ hb1) HZ.out).mono ?_
  rintro e w2 ⟨u2, v2, rfl, d2, i2, hb2⟩
  replace hb2 := below_on hb1 hb2
  have hr := few_recs HZ.out l.length
  rw [List.take_length] at hr
  have hl40 := ((fewR_iff l).1 HZ.out).1
  have HSC : Hid (∀ cut k, k ≤ l.length → (recs (l.take k)).length ≤ cut → (k < l.length → cut < (recs (l.take (k + 1))).length) → scanR ((recs l).take cut) = (l.take k, (recs (l.take k)).length)) := fun cut k h1 h2 h3 => scan_cut (fun x hx => by have := few_each HZ.out x hx; omega) h1 h2 h3
  have HFR : Hid (∀ k, (recs (l.take k)).length ≤ 6320) := few_recs HZ.out
  obtain ⟨R, HR⟩ := hid_ex (recs l)
  rw [HR.out] at d2 hr HSC
  obtain ⟨p2, c2, rfl⟩ := SHas.slice d2
  have hc2 := SHas.cap d2
  obtain ⟨p3, c3, rfl⟩ := SHas.slice i2
  have hct : t % (R.length + 1) ≤ R.length := Nat.le_of_lt_succ (Nat.mod_lt t (Nat.succ_pos R.length))
  have ew : IntKind.i64.wrap ((R.length : Int) + 1) = ((R.length + 1 : Nat) : Int) := by rw [IntKind.wrap_i64]; omega
  clear hb1 HZ HR h0 hn2
  go_upto_region 6 with fail
  go_wp2_with fail
  have ec : (t : Int) % ((R.length : Int) + 1) = ((t % (R.length + 1) : Nat) : Int) := by push_cast; rfl
  rw [ec]
  generalize t % (R.length + 1) = q at hct
  clear ec ew
  have HI : Hid (∀ w', Below w2.heap.size w2 w' → SHas 1 w' (.slice p3 l.length c3) l.length (vals (ends l))) := fun w' hb => SHas.later i2 hb
  have HD : Hid (∀ w', Below w2.heap.size w2 w' → DB w' (.slice p2 R.length c2) R) := fun w' hb => SHas.later d2 hb
  clear i2 d2
  go_loopw [9, 10, 11] (fun va ve vi wr => ∃ k W E1 : Nat, vi = .int .i64 k ∧ k ≤ l.length ∧ va = .int .i64 W ∧ ve = .int .i64 E1 ∧ W ≤ k ∧ Hid ((recs (l.take W)).length = E1) ∧ E1 ≤ q ∧ Hid (W < k → q < (recs (l.take (W + 1))).length) ∧ Below w2.heap.size w2 wr) (fun _ _ vi _ => l.length - (intOf vi).toNat)
  case atStart => exact ⟨0, 0, 0, rfl, by omega, rfl, rfl, by omega, (show (recs (l.take 0)).length = 0 by simp [recs]), by omega, (show 0 < 0 → _ from fun h => by omega), Below.refl _ _⟩
  case round =>
    obtain ⟨k, W, E1, rfl, hk, rfl, rfl, hW, HE, hE, HQ, hbel⟩ := hrel
    by_cases hlt : k < l.length
    · have hlt' : (k : Int) < (l.length : Int) := by omega
      obtain ⟨g, o, rfl, hd⟩ := SHas.at (HI.out wr hbel) (by omega)
      have e1 : wr.cell? ⟨g, o + k, none⟩ = some (.int .i64 ((recs (l.take (k + 1))).length : Nat)) := hd k _ (by simp [vals, ends_at hlt])
      obtain ⟨E2, HE2⟩ := hid_ex (recs (l.take (k + 1))).length
      rw [HE2.out] at e1
      have hE2 : E2 ≤ 6320 := by have := HFR.out (k + 1); rw [HE2.out] at this; exact this
      clear hd
      by_cases hq : E2 ≤ q
      · have hq' : (E2 : Int) ≤ (q : Int) := by omega
        go_upto_region 12 with fail
        refine Calm.region (by kernel_rfl) (by kernel_rfl) (fun w' : World => w'.cell? ⟨g, o + k, none⟩ = some (.int .i64 (E2 : Nat)) ∧ Below wr.heap.size wr w') ⟨e1, (Below.refl _ _).drew⟩ ?_
        iterate 5 (refine Calm.pu ?_)
        refine Calm.ce (fun _ h => h.1) ?_
        iterate 2 (refine Calm.pu ?_)
        intro w6 hS6
        have hb6 := hS6.2
        clear hS6 e1
        go_wp2_with fail
        go_roundw
        case rel => exact ⟨k + 1, k + 1, E2, by simp, by omega, (by simp; rw [IntKind.wrap_i64]; omega), rfl, by omega, HE2, hq, (show k + 1 < k + 1 → _ from fun h => by omega), below_on hbel hb6⟩
        case measure => simp [intOf]; omega
      · have hq' : ¬ (E2 : Int) ≤ (q : Int) := by omega
        have HQ2 : Hid (W < k + 1 → q < (recs (l.take (W + 1))).length) := fun h => by
          rcases Nat.lt_or_ge W k with h' | h'
          · exact HQ.out h'
          · obtain rfl : W = k := by omega
            rw [HE2.out]
            omega
        clear HQ
        go_wp2_with fail
        go_roundw
        case rel => exact ⟨k + 1, W, E1, by simp, by omega, rfl, rfl, by omega, HE, hE, HQ2, hbel⟩
        case measure => simp [intOf]; omega
    · have hlt' : ¬ (k : Int) < (l.length : Int) := by omega
      obtain rfl : k = l.length := by omega
      have hs := HSC.out q W hW (by rw [HE.out]; exact hE) HQ.out
      rw [HE.out] at hs
      have hqc : q ≤ c2 := by omega
      have hWc : W ≤ c := by omega
      have hdq := DB.take (HD.out wr hbel) hct
      obtain ⟨x, HX⟩ := hid_ex (R.take q)
      have hxl : x.length ≤ 6320 := by rw [← HX.out, List.length_take]; omega
      rw [HX.out] at hdq hs
      have CS := K.scan x _ wr hdq (by omega)
      rw [hs] at CS
      have hbw := below_on hb2 hbel
      clear hs HX HQ HSC hdq HI HD HFR
      go_wp2_with fail
      refine CS.mono ?_
      rintro e w6 ⟨u6, rfl, d6, hb6⟩
      replace hbw := below_on hbw hb6
      have hlw := (HU.out w6 hbw).take hW
      have CL := rLists_any _ _ _ w6 d6 hlw
      clear CS d6 hlw HU hb6
      go_wp2_with fail
      refine CL.mono ?_
      rintro e w7 ⟨rfl, hb7⟩
      replace hbw := below_on hbw hb7
      clear CL hb7
      go_wp2_with fail
      refine (KH w7).mono ?_
      rintro e w8 ⟨rfl, hb8⟩
      go_wp2_with fail
      go_ret
      exact ⟨rfl, below_on hbw hb8⟩
end Go.Proofs.Ytnfejhkgcbabfaa
/- The statements' own examples of layer 25, over the program's calls. -/
namespace Go.Proofs.Ytnfejhkgcbabfaa
open Go.RowKit

theorem lit_db23 (w : World) (l : List UInt8) (cs : Array Value) (fr : Nat × Nat) (hcs : cs.toList = cel l) (hm : l.length ≤ maxLen) : DB (w.alloc (.cells cs 5 fr)) (.slice (some ⟨w.heap.size, 0, none⟩) l.length l.length) l :=
  ⟨hm, by rw [cel_length]; omega, .inr ⟨_, _, rfl, ⟨Nat.le_refl _, hm⟩, fun _ => ⟨_, _, rfl, fun j u hu => by
    rw [Nat.zero_add, cell_of_row (w.alloc (.cells cs 5 fr)) w.heap.size j cs 5 fr (heap_alloc_new w _), ← Array.getElem?_toList, hcs]
    exact hu⟩⟩⟩
theorem lit_bs (w : World) (ys : List (List UInt8 × Value)) (cs : Array Value) (hcs : cs.toList = rows BV.cells ys) (hm : ys.length ≤ maxLen) (h : ∀ y ∈ ys, DB w y.2 y.1) : BHas (w.alloc (.cells cs 23)) (.slice (some ⟨w.heap.size, 0, none⟩) ys.length ys.length) (ys.map (·.1)) :=
  ⟨ys, rfl, by
    rw [List.length_map]
    exact ⟨hm, by rw [rows_length BV.len], .inr ⟨_, _, rfl, ⟨Nat.le_refl _, hm⟩, fun _ => ⟨_, _, rfl, fun j u hu => by
      rw [Nat.zero_add, cell_of_row (w.alloc (.cells cs 23)) w.heap.size j cs 23 (0, 0) (heap_alloc_new w _), ← Array.getElem?_toList, hcs]
      exact hu⟩⟩⟩, fun y hy => (h y hy).later (bel_alloc (Below.refl _ _) _)⟩
theorem made_zeros (n : Nat) : (madeCells (Value.int .u8 0).cells n).toList = cel (List.replicate n 0) := by
  unfold madeCells cel
  rw [Array.toList_map, Array.toList_range, List.map_replicate]
  apply List.ext_getElem
  · simp
  · intro i h1 h2
    simp [Value.cells, Nat.mod_one]
theorem zeros_made : (madeCells (Value.int .u8 0).cells (60001 * 1)).toList = cel (List.replicate 60001 0) := made_zeros 60001
theorem db_n {w : World} {v : Value} {l : List UInt8} {n : Nat} (hn : l.length = n) : DB w v l ↔ SHas 1 w v n (cel l) := by
  subst hn
  exact Iff.rfl
theorem ex_two : scanR (recs [[97], [98, 99]]) = ([[97], [98, 99]], 19) := by
  have := scan_recs (l := [[97], [98, 99]]) (by decide) []
  rw [List.append_nil, scan_none (b := []) rfl] at this
  rw [this]
  rfl
theorem ex_cut : scanR ((recs [[97], [98, 99]]).take 18) = ([[97]], 9) := by
  rw [scan_cut (l := [[97], [98, 99]]) (cut := 18) (k := 1) (by decide) (by decide) (by rw [List.take_succ_cons, List.take_zero, recs_length]; decide) (fun _ => by rw [show ([[97], [98, 99]] : List (List UInt8)).take 2 = [[97], [98, 99]] from rfl, recs_length]; decide)]
  rfl
set_option maxHeartbeats 16000000 in
set_option maxRecDepth 100000 in
theorem heads23_any (K : Prr) (w : World) : Calls Try.prog 8 #[] w (Tells (.bool true) w) := by
  obtain ⟨i0, hi0, hz0, hz1, hz2⟩ := info_split info5
  obtain ⟨B1, E1⟩ := hid_ex (recB [97])
  obtain ⟨B2, E2⟩ := hid_ex (recs [[97], [98, 99]])
  obtain ⟨B3, E3⟩ := hid_ex (B2.take 18)
  obtain ⟨Z, E4⟩ := hid_ex (List.replicate 60001 (0 : UInt8))
  have hB1 : Hid (B1.length = 9) := (show B1.length = 9 by rw [← E1.out]; rfl)
  have hB2 : Hid (B2.length = 19) := (show B2.length = 19 by rw [← E2.out, recs_length]; rfl)
  have hB3 : Hid (B3.length = 18) := (show B3.length = 18 by rw [← E3.out, List.length_take, hB2.out]; rfl)
  have hZ : Hid (Z.length = 60001) := (show Z.length = 60001 by rw [← E4.out, List.length_replicate])
  have P1 : ∀ (w' : World) (u : Value), DB w' u [97] → Calls Try.prog 12 #[.slice none 0 0, u] w' (fun e w2 => ∃ p c, e = .returned (.tuple #[.slice p 9 c, .int .i64 0]) ∧ SHas 1 w2 (.slice p 9 c) 9 (cel B1) ∧ Below w'.heap.size w' w2) := fun w' u h => by
    refine (K.put [] [97] _ u w' (DB.nil w') h (by decide) (by decide)).mono fun e w2 ⟨v, h1, h2, _, h4⟩ => ?_
    have hp : putR [] [97] = (B1, 0) := by rw [← E1.out]; rfl
    rw [hp] at h1 h2
    obtain ⟨p, c, rfl⟩ := SHas.slice h2
    replace h2 := (db_n hB1.out).1 h2
    rw [hB1.out] at h1 h2
    exact ⟨p, c, h1, h2, h4⟩
  have P2 : ∀ (w' : World) (p : Option Addr) (c : Nat) (u : Value), SHas 1 w' (.slice p 9 c) 9 (cel B1) → DB w' u [98, 99] → Calls Try.prog 12 #[.slice p 9 c, u] w' (fun e w2 => ∃ p c, e = .returned (.tuple #[.slice p 19 c, .int .i64 0]) ∧ SHas 1 w2 (.slice p 19 c) 19 (cel B2) ∧ Below w'.heap.size w' w2) := fun w' p c u h1 h2 => by
    have hd : DB w' (.slice p 9 c) B1 := (db_n hB1.out).2 h1
    refine (K.put B1 [98, 99] _ u w' hd h2 (by rw [hB1.out]; decide) (by decide)).mono fun e w2 ⟨v, h1, h2, _, h4⟩ => ?_
    have hp : putR B1 [98, 99] = (B2, 0) := by rw [← E1.out, ← E2.out]; rfl
    rw [hp] at h1 h2
    obtain ⟨p, c, rfl⟩ := SHas.slice h2
    replace h2 := (db_n hB2.out).1 h2
    rw [hB2.out] at h1 h2
    exact ⟨p, c, h1, h2, h4⟩
  have P3 : ∀ (w' : World) (p : Option Addr) (c : Nat), SHas 1 w' (.slice p 19 c) 19 (cel B2) → Calls Try.prog 10 #[.slice p 19 c] w' (fun e w2 => ∃ u, e = .returned (.tuple #[u, .int .i64 19]) ∧ BHas w2 u [[97], [98, 99]] ∧ Below w'.heap.size w' w2) := fun w' p c h1 => by
    have hd : DB w' (.slice p 19 c) B2 := (db_n hB2.out).2 h1
    have := K.scan B2 _ w' hd (by rw [hB2.out]; decide)
    rw [show scanR B2 = ([[97], [98, 99]], 19) from by rw [← E2.out]; exact ex_two] at this
    exact this
  have P4 : ∀ (w' : World) (p : Option Addr) (c : Nat), SHas 1 w' (.slice p 18 c) 18 (cel B3) → Calls Try.prog 10 #[.slice p 18 c] w' (fun e w2 => ∃ u, e = .returned (.tuple #[u, .int .i64 9]) ∧ BHas w2 u [[97]] ∧ Below w'.heap.size w' w2) := fun w' p c h1 => by
    have hd : DB w' (.slice p 18 c) B3 := (db_n hB3.out).2 h1
    have := K.scan B3 _ w' hd (by rw [hB3.out]; decide)
    rw [show scanR B3 = ([[97]], 9) from by rw [← E3.out, ← E2.out]; exact ex_cut] at this
    exact this
  have P5 : ∀ (w' : World) (a : Option Addr), SHas 1 w' (.slice a 60001 60001) 60001 (cel Z) → Calls Try.prog 12 #[.slice none 0 0, .slice a 60001 60001] w' (fun e w2 => ∃ p c, e = .returned (.tuple #[.slice p 0 c, .int .i64 2]) ∧ Below w'.heap.size w' w2) := fun w' a h1 => by
    have hd : DB w' (.slice a 60001 60001) Z := (db_n hZ.out).2 h1
    refine (K.put [] Z _ _ w' (DB.nil w') hd (by decide) (by rw [hZ.out]; decide)).mono fun e w2 ⟨v, h1, h2, _, h4⟩ => ?_
    have hp : putR [] Z = ([], 2) := by unfold putR; rw [if_pos (by rw [hZ.out]; decide)]
    rw [hp] at h1 h2
    obtain ⟨p, c, rfl⟩ := SHas.slice h2
    exact ⟨p, c, h1, h4⟩
  have P6 : ∀ (w' : World) (u : Value), DB w' u [97] → Calls Try.prog 16 #[u] w' (Tells (.int .i64 9) w') := fun w' u h => K.size [97] u w' h (by decide)
  clear hB1 hB2 hB3 hZ E1 E2
  have kc := fun (w : World) (C : Array Value) (n c : Nat) => Lib.run_convert_bytes_const (P := Try.prog) w 23 5 C n c Try.underlying23 Try.underlying5
  go_enter Try.func8, Try.ntmps8
  have hbel := Below.refl w.heap.size w
  have hba := bel_alloc (Below.refl w.heap.size w) (.cells #[.int .u8 97] 5 (1, 2))
  have l1 : DB (w.alloc (.cells #[.int .u8 97] 5 (1, 2))) (.slice (some ⟨w.heap.size, 0, none⟩) 1 1) [97] := lit_db23 w [97] #[.int .u8 97] (1, 2) rfl (by decide)
  replace hbel := below_on hbel hba
  generalize hLx1 : w.alloc (.cells #[.int .u8 97] 5 (1, 2)) = x1 at l1 hbel 
  clear hba
  go_wp2_with (first | rw [hLx1])
  clear hLx1
  refine (P1 x1 _ l1).mono ?_
  rintro e w1 ⟨p1, c1, rfl, d1, hb⟩
  replace l1 := SHas.later l1 hb
  replace hbel := below_on hbel hb
  clear hb
  clear l1
  go_upto_region 2 with fail
  have hba := bel_alloc (Below.refl w1.heap.size w1) (.cells #[.int .u8 98, .int .u8 99] 5 (2, 3))
  have l2 : DB (w1.alloc (.cells #[.int .u8 98, .int .u8 99] 5 (2, 3))) (.slice (some ⟨w1.heap.size, 0, none⟩) 2 2) [98, 99] := lit_db23 w1 [98, 99] #[.int .u8 98, .int .u8 99] (2, 3) rfl (by decide)
  replace d1 := SHas.later d1 hba
  replace hbel := below_on hbel hba
  generalize hLx2 : w1.alloc (.cells #[.int .u8 98, .int .u8 99] 5 (2, 3)) = x2 at l2 hbel d1
  clear hba
  go_wp2_with (first | rw [hLx2])
  clear hLx2
  refine (P2 x2 _ _ _ d1 l2).mono ?_
  rintro e w2 ⟨p2, c2, rfl, d2, hb⟩
  replace d1 := SHas.later d1 hb
  replace l2 := SHas.later l2 hb
  replace hbel := below_on hbel hb
  clear hb
  clear l2
  have k2 := (SHas.cap d2).1
  go_wp2_with fail
  refine (P3 w2 _ _ d2).mono ?_
  rintro e w3 ⟨u3, rfl, d3, hb⟩
  replace d1 := SHas.later d1 hb
  replace d2 := SHas.later d2 hb
  replace hbel := below_on hbel hb
  clear hb
  have d4 := SHas.take1 d2 (m := 18) (by omega)
  replace d4 : SHas 1 w3 (.slice p2 18 c2) 18 (cel B3) := by rw [← E3.out, cel_take]; exact d4
  go_wp2_with fail
  refine (P4 w3 _ _ d4).mono ?_
  rintro e w4 ⟨u4, rfl, d5, hb⟩
  replace d1 := SHas.later d1 hb
  replace d2 := SHas.later d2 hb
  replace d3 := d3.later hb
  replace hbel := below_on hbel hb
  clear hb
  clear d4
  go_upto_region 5 with fail
  obtain ⟨wm, hmk, OM, gm⟩ := run_makeSlice_full (P := Try.prog) w4 w4.heap.size 23 5 i0 (.int .u8 0) 1 Try.underlying23 hi0 hz0 hz1 .i64 .i64 60001 (by decide) (by rw [hz2]; decide) (by decide) (Nat.le_refl _)
  have hbm : Below w4.heap.size w4 wm := (Below.refl _ _).grown gm (Nat.le_refl _) (fun q hq => by cases hq)
  have dm := own_sh OM
  rw [zeros_made, E4.out] at dm
  clear OM gm
  replace d1 := SHas.later d1 hbm
  replace d2 := SHas.later d2 hbm
  replace d3 := d3.later hbm
  replace d5 := d5.later hbm
  replace hbel := below_on hbel hbm
  clear hbm
  replace hmk : (Instr.makeSlice 23 (.int .i64 60001) (.int .i64 60001)).run Try.prog w4 = .ok (.slice (some ⟨w4.heap.size, 0, none⟩) 60001 60001) wm := hmk
  go_wp2_with (first | rw [hmk])
  refine (P5 wm _ dm).mono ?_
  rintro e w5 ⟨p5, c5, rfl, hb⟩
  replace d1 := SHas.later d1 hb
  replace d2 := SHas.later d2 hb
  replace d3 := d3.later hb
  replace d5 := d5.later hb
  replace hbel := below_on hbel hb
  clear hb
  clear dm hmk
  go_upto_region 6 with fail
  have hba := bel_alloc (Below.refl w5.heap.size w5) (.cells #[.int .u8 97] 5 (1, 2))
  have l6 : DB (w5.alloc (.cells #[.int .u8 97] 5 (1, 2))) (.slice (some ⟨w5.heap.size, 0, none⟩) 1 1) [97] := lit_db23 w5 [97] #[.int .u8 97] (1, 2) rfl (by decide)
  replace d1 := SHas.later d1 hba
  replace d2 := SHas.later d2 hba
  replace d3 := d3.later hba
  replace d5 := d5.later hba
  replace hbel := below_on hbel hba
  generalize hLy1 : w5.alloc (.cells #[.int .u8 97] 5 (1, 2)) = y1 at l6 hbel d1 d2 d3 d5
  clear hba
  go_wp2_with (first | rw [hLy1])
  clear hLy1
  refine (P6 y1 _ l6).mono ?_
  rintro e w6 ⟨rfl, hb⟩
  replace d1 := SHas.later d1 hb
  replace d2 := SHas.later d2 hb
  replace d3 := d3.later hb
  replace d5 := d5.later hb
  replace l6 := SHas.later l6 hb
  replace hbel := below_on hbel hb
  clear hb
  clear l6
  have hba := bel_alloc (Below.refl w6.heap.size w6) (.cells #[.int .u8 97] 5 (1, 2))
  have l7 : DB (w6.alloc (.cells #[.int .u8 97] 5 (1, 2))) (.slice (some ⟨w6.heap.size, 0, none⟩) 1 1) [97] := lit_db23 w6 [97] #[.int .u8 97] (1, 2) rfl (by decide)
  replace d1 := SHas.later d1 hba
  replace d2 := SHas.later d2 hba
  replace d3 := d3.later hba
  replace d5 := d5.later hba
  replace hbel := below_on hbel hba
  generalize hLy2 : w6.alloc (.cells #[.int .u8 97] 5 (1, 2)) = y2 at l7 hbel d1 d2 d3 d5
  clear hba
  have hba := bel_alloc (Below.refl y2.heap.size y2) (.cells #[.int .u8 98, .int .u8 99] 5 (2, 3))
  have l8 : DB (y2.alloc (.cells #[.int .u8 98, .int .u8 99] 5 (2, 3))) (.slice (some ⟨y2.heap.size, 0, none⟩) 2 2) [98, 99] := lit_db23 y2 [98, 99] #[.int .u8 98, .int .u8 99] (2, 3) rfl (by decide)
  replace d1 := SHas.later d1 hba
  replace d2 := SHas.later d2 hba
  replace d3 := d3.later hba
  replace d5 := d5.later hba
  replace l7 := SHas.later l7 hba
  replace hbel := below_on hbel hba
  generalize hLy3 : y2.alloc (.cells #[.int .u8 98, .int .u8 99] 5 (2, 3)) = y3 at l8 hbel d1 d2 d3 d5 l7
  clear hba
  have hba := bel_alloc (Below.refl y3.heap.size y3) (.cells #[.slice (some ⟨w6.heap.size, 0, none⟩) 1 1, .slice (some ⟨y2.heap.size, 0, none⟩) 2 2] 23)
  have l9 : BHas (y3.alloc (.cells #[.slice (some ⟨w6.heap.size, 0, none⟩) 1 1, .slice (some ⟨y2.heap.size, 0, none⟩) 2 2] 23)) (.slice (some ⟨y3.heap.size, 0, none⟩) 2 2) [[97], [98, 99]] := lit_bs y3 [([97], .slice (some ⟨w6.heap.size, 0, none⟩) 1 1), ([98, 99], .slice (some ⟨y2.heap.size, 0, none⟩) 2 2)] #[.slice (some ⟨w6.heap.size, 0, none⟩) 1 1, .slice (some ⟨y2.heap.size, 0, none⟩) 2 2] rfl (show 2 ≤ maxLen by decide) (by simpa using ⟨l7, l8⟩)
  replace d1 := SHas.later d1 hba
  replace d2 := SHas.later d2 hba
  replace d3 := d3.later hba
  replace d5 := d5.later hba
  replace l7 := SHas.later l7 hba
  replace l8 := SHas.later l8 hba
  replace hbel := below_on hbel hba
  generalize hLy4 : y3.alloc (.cells #[.slice (some ⟨w6.heap.size, 0, none⟩) 1 1, .slice (some ⟨y2.heap.size, 0, none⟩) 2 2] 23) = y4 at l9 hbel d1 d2 d3 d5 l7 l8
  clear hba
  go_wp2_with (first | rw [hLy2] | rw [hLy3] | rw [hLy4])
  clear hLy2 hLy3 hLy4
  refine (rLists_any _ _ _ y4 d3 l9).mono ?_
  rintro e w7 ⟨rfl, hb⟩
  replace d1 := SHas.later d1 hb
  replace d2 := SHas.later d2 hb
  replace d3 := d3.later hb
  replace d5 := d5.later hb
  replace l7 := SHas.later l7 hb
  replace l8 := SHas.later l8 hb
  replace hbel := below_on hbel hb
  clear hb
  clear l7 l8 l9
  have hba := bel_alloc (Below.refl w7.heap.size w7) (.cells #[.int .u8 97] 5 (1, 2))
  have l10 : DB (w7.alloc (.cells #[.int .u8 97] 5 (1, 2))) (.slice (some ⟨w7.heap.size, 0, none⟩) 1 1) [97] := lit_db23 w7 [97] #[.int .u8 97] (1, 2) rfl (by decide)
  replace d1 := SHas.later d1 hba
  replace d2 := SHas.later d2 hba
  replace d3 := d3.later hba
  replace d5 := d5.later hba
  replace hbel := below_on hbel hba
  generalize hLy5 : w7.alloc (.cells #[.int .u8 97] 5 (1, 2)) = y5 at l10 hbel d1 d2 d3 d5
  clear hba
  have hba := bel_alloc (Below.refl y5.heap.size y5) (.cells #[.slice (some ⟨w7.heap.size, 0, none⟩) 1 1] 23)
  have l11 : BHas (y5.alloc (.cells #[.slice (some ⟨w7.heap.size, 0, none⟩) 1 1] 23)) (.slice (some ⟨y5.heap.size, 0, none⟩) 1 1) [[97]] := lit_bs y5 [([97], .slice (some ⟨w7.heap.size, 0, none⟩) 1 1)] #[.slice (some ⟨w7.heap.size, 0, none⟩) 1 1] rfl (show 1 ≤ maxLen by decide) (by simpa using l10)
  replace d1 := SHas.later d1 hba
  replace d2 := SHas.later d2 hba
  replace d3 := d3.later hba
  replace d5 := d5.later hba
  replace l10 := SHas.later l10 hba
  replace hbel := below_on hbel hba
  generalize hLy6 : y5.alloc (.cells #[.slice (some ⟨w7.heap.size, 0, none⟩) 1 1] 23) = y6 at l11 hbel d1 d2 d3 d5 l10
  clear hba
  go_wp2_with (first | rw [hLy5] | rw [hLy6])
  clear hLy5 hLy6
  refine (rLists_any _ _ _ y6 d5 l11).mono ?_
  rintro e w8 ⟨rfl, hb⟩
  replace d1 := SHas.later d1 hb
  replace d2 := SHas.later d2 hb
  replace d3 := d3.later hb
  replace d5 := d5.later hb
  replace l10 := SHas.later l10 hb
  replace hbel := below_on hbel hb
  clear hb
  go_wp2_with fail
  go_ret
  exact ⟨rfl, hbel⟩
end Go.Proofs.Ytnfejhkgcbabfaa
/- Disks, bytes and acts that came in, opened by how they are read. -/
namespace Go.Proofs.Ytnfejhkgcbabfaa
open Go.ChangeShapes Go.WideShapes Go.ChangeAt Go.RowKit

section
variable {H : Type} {enc : TypeId × Value → H} {w : World} {base : Nat} {spare : Nat → Bool} {held : Bool}
theorem n3 : Try.prog.cellsOf 3 = 1 := by kernel_rfl
theorem n4 : Try.prog.cellsOf 4 = 1 := by kernel_rfl
theorem n5 : Try.prog.cellsOf 5 = 1 := by kernel_rfl
theorem n9 : Try.prog.cellsOf 9 = 1 := by kernel_rfl
theorem n22 : Try.prog.cellsOf 23 = 1 := by kernel_rfl
theorem rows_split {α : Type} {f : α → List Value} {S : Nat} (hf : ∀ x, (f x).length = S) : ∀ (l : List α) (j : Nat) (u : Value), (rows f l)[j]? = some u → ∃ i r, ∃ h : i < l.length, r < S ∧ j = i * S + r ∧ (f l[i])[r]? = some u
  | [], j, u, h => by simp [rows] at h
  | x :: l, j, u, h => by
    rw [rows_cons] at h
    rcases Nat.lt_or_ge j S with hj | hj
    · rw [List.getElem?_append_left (by rw [hf]; exact hj)] at h
      exact ⟨0, j, by simp, hj, by omega, h⟩
    · rw [List.getElem?_append_right (by rw [hf]; exact hj), hf] at h
      obtain ⟨i, r, hi, hr, e, hu⟩ := rows_split hf l (j - S) u h
      exact ⟨i + 1, r, by simpa using hi, hr, by rw [Nat.succ_mul]; omega, hu⟩
set_option maxRecDepth 100000 in
/-- A slice whose elements are known one by one. -/
theorem cells_rows {α : Type} [Inhabited α] {ts e S : Nat} (hu : Try.prog.underlying ts = some (.slice e)) (hS : Try.prog.cellsOf e = S) (hS0 : 0 < S) (f : α → List Value) (Pr : α → Prop) (hf : ∀ y, (f y).length = S)
    (each : ∀ (fuel : Nat) (cs : List Value) (x : DataW H × List MemPlace), DataW.trod enc Try.prog w base spare held fuel e cs = some x → ∃ y, cs = f y ∧ Pr y) {fuel : Nat} {cs : List Value} {x : DataW H × List MemPlace} (h : DataW.trod enc Try.prog w base spare held fuel ts cs = some x) :
    ∃ (v : Value) (l : List α), cs = [v] ∧ SHas S w v l.length (rows f l) ∧ (∀ y ∈ l, Pr y) ∧ ∀ b, (DataW.weights Try.prog ts x.1).all (· ≤ b) = true → l.length * Try.prog.bytesOf e ≤ b := by
  rcases DataW.trod_slice hu h with ⟨h0, hx⟩ | ⟨a, len, cap, elems, rest, m, hm, hcs, hx, hba, hl, hmx, hlen, hel, _, _⟩
  · exact ⟨_, [], h0, SHas.nil w S, (fun _ h => by cases h), fun b _ => by simp⟩
  · have one : ∀ i, i < len → ∃ y : α, (∀ j u, (f y)[j]? = some u → w.cell? (a.add (i * S + j)) = some u) ∧ Pr y := by
      intro i hi
      have hi' := hel i hi
      rw [hS, List.getElem?_eq_getElem (by omega)] at hi'
      obtain ⟨cs', h1, h2⟩ := Option.bind_eq_some_iff.1 hi'
      obtain ⟨_, hlen', hcell⟩ := World.cells?_some h1
      obtain ⟨y, rfl, hy⟩ := each _ _ _ h2
      refine ⟨y, fun j u hu => ?_, hy⟩
      have hj : j < S := by have := (List.getElem?_eq_some_iff.1 hu).1; rw [hf] at this; exact this
      have e := hcell j (by omega)
      rw [Deep.add_add] at e
      rw [e]
      exact hu
    obtain ⟨g, hk⟩ := Deep.choose_lt one
    have hll : ((List.range len).map g).length = len := by simp
    refine ⟨_, (List.range len).map g, hcs, ⟨by rw [hll]; omega, by rw [rows_length hf], .inr ⟨a, cap, by rw [hll], ⟨by rw [hll]; omega, by omega⟩, fun h0 => ?_⟩⟩, ?_, ?_⟩
    · have h0' : 0 < len := by simpa using h0
      obtain ⟨b, off, spot⟩ := a
      obtain ⟨u0, hu0⟩ : ∃ u0, (f (g 0))[0]? = some u0 := ⟨(f (g 0))[0]'(by rw [hf]; exact hS0), List.getElem?_eq_getElem _⟩
      have q0 := (hk 0 h0').1 0 _ hu0
      have hspot : spot = none := by simpa [Addr.add] using World.cell?_spot q0
      subst hspot
      refine ⟨b, off, rfl, fun j u hu => ?_⟩
      obtain ⟨i, r, hi, hr, rfl, hq⟩ := rows_split hf _ j u hu
      have hi' : i < len := by simpa using hi
      have := (hk i hi').1 r u (by simpa using hq)
      rw [Addr.add_mid] at this
      exact this
    · intro y hy
      obtain ⟨i, hi, rfl⟩ := List.mem_map.1 hy
      exact (hk i (by simpa using hi)).2
    · intro b hb
      rw [hx] at hb
      simp only [DataW.weights, hu, List.all_cons, Bool.and_eq_true, decide_eq_true_eq, List.length_map] at hb
      rw [hll, ← hlen]
      exact Nat.le_trans (Nat.mul_le_mul_right _ (Nat.le_add_right _ _)) hb.1
theorem rows_cel (l : List UInt8) : rows (fun b : UInt8 => [Value.int .u8 b.toNat]) l = cel l := by
  unfold rows cel
  induction l with
  | nil => rfl
  | cons b l ih => rw [List.flatMap_cons, ih, List.map_cons]; rfl
theorem cells_bytes {fuel : Nat} {cs : List Value} {x : DataW H × List MemPlace} (h : DataW.trod enc Try.prog w base spare held fuel 23 cs = some x) : ∃ (v : Value) (l : List UInt8), cs = [v] ∧ DB w v l := by
  have hinh : Inhabited UInt8 := ⟨0⟩
  obtain ⟨v, l, h1, h2, _, _⟩ := cells_rows (α := UInt8) Try.underlying23 n5 (by decide) (fun b : UInt8 => [Value.int .u8 b.toNat]) (fun _ => True) (fun _ => rfl) (fun fuel cs x hx => by
    obtain ⟨n, e, _, hw⟩ := DataW.trod_int Try.underlying5 hx
    have hb := bounds_u8 hw
    refine ⟨n.toNat.toUInt8, ?_, trivial⟩
    rw [e]
    have : ((n.toNat.toUInt8).toNat : Int) = n := by simp; omega
    rw [this]) h
  rw [rows_cel] at h2
  exact ⟨v, l, h1, h2⟩
variable {r : Reach} {b0 : Nat} {v : Value} {d : DataW H} {ps : List MemPlace}
theorem open_by (hval : Value.okWide Try.prog w r b0 23 v) (hd : DataW.Trod enc Try.prog w base spare held 23 v d ps) : ∃ l : List UInt8, DB w v l := by
  obtain ⟨fuel, hf⟩ := hd
  obtain ⟨a, len, cap, rfl⟩ := okWide_slice Try.underlying23 hval
  obtain ⟨v', l, e, h⟩ := cells_bytes hf
  simp only [Value.cells, List.cons.injEq, and_true] at e
  exact ⟨l, by rw [← e] at h; exact h⟩
end
end Go.Proofs.Ytnfejhkgcbabfaa
/- Slices of slices of bytes that came in, opened by how they are read. -/
namespace Go.Proofs.Ytnfejhkgcbabfaa
open Go.ChangeShapes Go.WideShapes Go.ChangeAt Go.RowKit

section
variable {H : Type} {enc : TypeId × Value → H} {w : World} {base : Nat} {spare : Nat → Bool} {held : Bool}
theorem cells_rbl {fuel : Nat} {cs : List Value} {x : DataW H × List MemPlace} (h : DataW.trod enc Try.prog w base spare held fuel 22 cs = some x) : ∃ (v : Value) (l : List (List UInt8)), cs = [v] ∧ BHas w v l := by
  have hinh : Inhabited (List UInt8 × Value) := ⟨([], .bool false)⟩
  obtain ⟨v, ys, h1, h2, h3, _⟩ := cells_rows (α := List UInt8 × Value) Try.underlying22 n22 (by decide) BV.cells (fun y => DB w y.2 y.1) BV.len (fun fuel cs x hx => by
    obtain ⟨u, l, e, hd⟩ := cells_bytes hx
    exact ⟨(l, u), e, hd⟩) h
  exact ⟨v, ys.map (·.1), h1, ys, rfl, by rw [List.length_map]; exact h2, h3⟩
variable {r : Reach} {b0 : Nat} {v : Value} {d : DataW H} {ps : List MemPlace}
theorem open_bl (hval : Value.okWide Try.prog w r b0 22 v) (hd : DataW.Trod enc Try.prog w base spare held 22 v d ps) : ∃ l : List (List UInt8), BHas w v l := by
  obtain ⟨fuel, hf⟩ := hd
  obtain ⟨a, len, cap, rfl⟩ := okWide_slice Try.underlying22 hval
  obtain ⟨v', l, e, h⟩ := cells_rbl hf
  simp only [Value.cells, List.cons.injEq, and_true] at e
  exact ⟨l, by rw [← e] at h; exact h⟩
end
end Go.Proofs.Ytnfejhkgcbabfaa
