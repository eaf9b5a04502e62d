import Derived.Test.YtjjncmenkepcoaaP5
import Derived.Test.YtjjncmenkepcoaaP2
import Derived.Test.YtjjncmenkepcoaaP4
/- The document's answer for layer 22: a file is gone. -/
namespace Go.Proofs.Ytjjncmenkepcoaa
open Go.RowKit

theorem wo_take {l : List FV} {x : ByteArray} {k : Nat} (h : k < l.length) : woF (l.take (k + 1)) x = if l[k].x = x then woF (l.take k) x else woF (l.take k) x ++ [l[k]] := by
  unfold woF
  rw [List.take_succ_eq_append_getElem h, List.filter_append]
  by_cases e : l[k].x = x <;> simp [e]
set_option maxHeartbeats 16000000 in
set_option maxRecDepth 100000 in
theorem rWithout_any (d : DV) (x : ByteArray) (q : Option Addr) (c : Nat) (w : World) (h : FHas w (.slice q d.fs.length c) d.fs) (hl : d.fs.length ≤ 1000) : Calls Try.prog 56 #[DKV.of (.slice q d.fs.length c) d, .string x] w (DkPost { d with fs := woF d.fs x } w) := by
  have H : Hid (FHas w (.slice q d.fs.length c) d.fs) := h
  clear h
  have R0 := (rw_new w 26 #[(.slice q d.fs.length c), .int .i64 d.room, .int .i64 d.arm, .bool d.dead]).alloc (.cells #[.slice none 0 0, .int .i64 0, .int .i64 0, .bool false] 26)
  have R2 := rw_next (w.alloc (.cells #[(.slice q d.fs.length c), .int .i64 d.room, .int .i64 d.arm, .bool d.dead] 26)) (b := w.heap.size + 1) (by simp) 26 #[.slice none 0 0, .int .i64 0, .int .i64 0, .bool false]
  have hbel := bel_alloc (bel_alloc (Below.refl w.heap.size w) (.cells #[(.slice q d.fs.length c), .int .i64 d.room, .int .i64 d.arm, .bool d.dead] 26)) (.cells #[.slice none 0 0, .int .i64 0, .int .i64 0, .bool false] 26)
  generalize hW : (w.alloc (.cells #[(.slice q d.fs.length c), .int .i64 d.room, .int .i64 d.arm, .bool d.dead] 26)).alloc (.cells #[.slice none 0 0, .int .i64 0, .int .i64 0, .bool false] 26) = w0 at R0 R2 hbel
  go_enter Try.func56, Try.ntmps56
  go_wp2_with (rw [hW])
  clear hW
  go_loopw [5, 6] (fun vo vi wr => ∃ (k : Nat) (ys : List (FV × Value)), vi = .int .i64 k ∧ k ≤ d.fs.length ∧ ys.length ≤ k ∧ Hid (ys.map (·.1) = woF (d.fs.take k) x) ∧ OwnF wr (w.heap.size + 2) vo ys (fun b => b = w.heap.size ∨ b = w.heap.size + 1) ∧ Rw wr w.heap.size 26 #[(.slice q d.fs.length c), .int .i64 d.room, .int .i64 d.arm, .bool d.dead] ∧ Rw wr (w.heap.size + 1) 26 #[.slice none 0 0, .int .i64 0, .int .i64 0, .bool false] ∧ Below w.heap.size w wr) (fun _ vi _ => d.fs.length - (intOf vi).toNat)
  case atStart => exact ⟨0, [], rfl, by omega, by simp, (show _ = _ from rfl), OwnF.nil _ _ _, R0, R2, hbel⟩
  case round =>
    clear R0 R2 hbel
    obtain ⟨k, ys, rfl, hk, hyk, HV, hO, R0, R2, hbel⟩ := hrel
    have k0 : wr.cell? ⟨w.heap.size, 0, none⟩ = some (.slice q d.fs.length c) := R0.cell 0
    by_cases hlt : k < d.fs.length
    · have hlt' : (k : Int) < (d.fs.length : Int) := by omega
      obtain ⟨g, o, s1, rfl, d00, a00⟩ := H.out.at k hlt
      have HW0 := wo_take (x := x) hlt
      rw [← HV.out] at HW0
      obtain ⟨y, HY⟩ := hid_ex d.fs[k]
      rw [HY.out] at d00 a00 HW0
      obtain ⟨p1, c1, rfl⟩ := SHas.slice a00
      have HA : Hid (DB w (.slice p1 y.d.length c1) y.d) := a00
      have HB0 : Hid (DB w (.slice p1 y.d.length c1) y.d) := a00
      have D_ := range_later d00 hbel
      have d1 := (f_cells D_).1
      clear HY d00 a00
      by_cases hxy : y.x = x
      · have g1 := str_eq hxy
        have HV4 : Hid (ys.map (·.1) = woF (d.fs.take (k + 1)) x) := by
          show _ = _
          rw [HW0, if_pos hxy]
        clear HV HW0 hxy D_
        go_wp2_with fail
        go_roundw
        case rel => exact ⟨k + 1, ys, by simp, by omega, by omega, HV4, hO, R0, R2, hbel⟩
        case measure => simp [intOf]; omega
      · have g1 := str_ne hxy
        have HV4 : Hid ((ys ++ [(y, Value.slice p1 y.d.length c1)]).map (·.1) = woF (d.fs.take (k + 1)) x) := by
          show _ = _
          rw [HW0, if_neg hxy]
          simp
        clear HV HW0 hxy
        have a9 := SHas.later HA.out hbel
        have zf : (Try.prog.info? 57).map (·.size) = some [Value.string y.x, .slice p1 y.d.length c1, .int .i64 y.k].length := sizeF
        go_upto_region 6 with fail
        have XO := one_file y (Value.slice p1 y.d.length c1) (fun b => u5.ownBlock = some b ∨ (fun b => b = w.heap.size ∨ b = w.heap.size + 1) b) (b := wr.heap.size) rfl a9 (fun q hq => by
          rcases hq with hq | hq
          · have h1 := hO.block hq
            exact ⟨fun a n' c' e hn' => by have h2 := SHas.block (by decide) HB0.out e hn'; omega, by omega⟩
          · have hwz := hbel.size
            exact ⟨fun a n' c' e hn' => by have h2 := SHas.block (by decide) HB0.out e hn'; rcases hq with hq | hq <;> omega, by have := R2.lt; rcases hq with hq | hq <;> omega⟩)
        have BO := build_file y.x (Value.slice p1 y.d.length c1) y.k (by first | rfl | exact h1c) wr
        have hb5 := bel_alloc (Below.refl wr.heap.size wr) (.cells (FV.cells (y, (Value.slice p1 y.d.length c1))).toArray 57)
        generalize hW4 : wr.alloc (.cells (FV.cells (y, (Value.slice p1 y.d.length c1))).toArray 57) = w5 at XO BO hb5
        have PO5 := hO.later hb5
        have R05 := R0.later hb5
        have R25 := R2.later hb5
        have hbel5 := below_on hbel hb5
        have hsz5 : w.heap.size + 2 ≤ w5.heap.size := by have := R25.lt; omega
        have hlen5 : ys.length + [(y, (Value.slice p1 y.d.length c1))].length ≤ 100000 := by
          show ys.length + 1 ≤ _
          omega
        go_wp2_with (first | refine load_m 57 _ rfl rfl _ _ rfl D_ Try.underlying57 rfl zf ?_ | refine build_at (v := FLV y.x (Value.slice p1 y.d.length c1) y.k) rfl _ rfl rfl BO ?_ | (at_builtin; refine append_fs rfl _ _ rfl rfl rfl PO5 XO hlen5 hsz5 ?_))
        intro v7 w7 hO7 hg7 hb7
        have hbl : ∀ k', u5.ownBlock = some k' → w.heap.size + 2 ≤ k' := fun k' hk' => (PO5.block hk').1
        have Q0 := R05.grown hg7 (fun k' hk' => by have := hbl k' hk'; omega)
        have Q2 := R25.grown hg7 (fun k' hk' => by have := hbl k' hk'; omega)
        have Qb : Below w.heap.size w w7 := hbel5.grown hg7 hbel5.size (fun k' hk' => by have := hbl k' hk'; omega)
        clear PO5 XO BO hW4 R05 R25 hb5 hbel5 hg7 hb7 hbl
        clear hO R0 R2 hbel k0 D_ a9
        go_wp2_with fail
        go_roundw
        case rel => exact ⟨k + 1, ys ++ [(y, Value.slice p1 y.d.length c1)], by simp, by omega, by rw [List.length_append]; show ys.length + 1 ≤ _; omega, HV4, hO7, Q0, Q2, Qb⟩
        case measure => simp [intOf]; omega
    · have hlt' : ¬ (k : Int) < (d.fs.length : Int) := by omega
      rw [List.take_of_length_le (by omega)] at HV
      have HV2 : Hid (ys.map (·.1) = ({ d with fs := woF d.fs x } : DV).fs) := HV
      clear HV k0
      have HYL : Hid (ys.length = ({ d with fs := woF d.fs x } : DV).fs.length) := by
        show _ = _
        rw [← HV2.out, List.length_map]
      obtain ⟨p9, c9, rfl⟩ := own_sl hO.r
      rw [HYL.out] at hO ⊢
      have k9 : wr.cell? ⟨w.heap.size, 0, none⟩ = some (.slice q d.fs.length c) := R0.cell 0
      have e9 : wr.frozen? ⟨w.heap.size, 0, none⟩ = false := R0.frozen 0
      have R09 : Rw (wr.setCell ⟨w.heap.size, 0, none⟩ (.slice p9 ({ d with fs := woF d.fs x } : DV).fs.length c9)) w.heap.size 26 #[.slice p9 ({ d with fs := woF d.fs x } : DV).fs.length c9, .int .i64 d.room, .int .i64 d.arm, .bool d.dead] := R0.set 0 _
      have R29 := R2.setOther (q := w.heap.size) (by omega) 0 (.slice p9 ({ d with fs := woF d.fs x } : DV).fs.length c9)
      have hb9 := bel_set hbel (i := 0) (b := w.heap.size) (Nat.le_refl _) (.slice p9 ({ d with fs := woF d.fs x } : DV).fs.length c9)
      have F0 := hO.fatO (fun b hb => by rcases hb with hb | hb <;> omega)
      have F1 := F0.grown (grown_cell wr w.heap.size 0 (.slice p9 ({ d with fs := woF d.fs x } : DV).fs.length c9)) (fun b hb => .inl (by simp only [Option.some.injEq] at hb; exact hb.symm))
      generalize hW9 : wr.setCell ⟨w.heap.size, 0, none⟩ (.slice p9 ({ d with fs := woF d.fs x } : DV).fs.length c9) = w9 at R09 R29 hb9 F1
      have R2a := R29.row #[.slice p9 ({ d with fs := woF d.fs x } : DV).fs.length c9, .int .i64 d.room, .int .i64 d.arm, .bool d.dead]
      have hb10 := bel_row hb9 (b := w.heap.size + 1) (by omega) #[.slice p9 ({ d with fs := woF d.fs x } : DV).fs.length c9, .int .i64 d.room, .int .i64 d.arm, .bool d.dead]
      have F2 := (F1.grown (grown_row w9 (w.heap.size + 1) #[.slice p9 ({ d with fs := woF d.fs x } : DV).fs.length c9, .int .i64 d.room, .int .i64 d.arm, .bool d.dead]) (fun b hb => .inr (by simp only [Option.some.injEq] at hb; exact hb.symm))).has
      rw [HV2.out] at F2
      clear F0 F1 hb9 hO R0 R2 hbel
      go_wp2_with (first | rw [hW9] | refine load_r 26 _ rfl rfl _ rfl R09 Try.underlying26 rfl size26 ?_ | refine store_r rfl 26 _ _ rfl _ _ rfl rfl R29 size26 rfl (by simp [Value.oneCell']) ?_)
      refine bodyPost_ret (results_r rfl rfl R2a rfl Try.underlying26 size26) rfl ?_
      exact ⟨_, _, rfl, F2, hb10⟩
end Go.Proofs.Ytjjncmenkepcoaa
/- The document's answer for layer 22: Drop, Sync, Read, Arm, New. -/
namespace Go.Proofs.Ytjjncmenkepcoaa
open Go.RowKit

/-- A disk and a number are answered. -/
def DEPost (r : DV × Int) (w : World) (e : Ending) (w' : World) : Prop := ∃ p c, e = .returned (.tuple #[DKV.of (.slice p r.1.fs.length c) r.1, .int .i64 r.2]) ∧ FHas w' (.slice p r.1.fs.length c) r.1.fs ∧ Below w.heap.size w w'
theorem DEPost.mk2 {r : DV × Int} {w w' : World} {p : Option Addr} {c : Nat} {fs : List FV} (hfs : r.1.fs = fs) (h : FHas w' (.slice p fs.length c) fs) (hb : Below w.heap.size w w') : DEPost r w (.returned (.tuple #[DKV (.slice p fs.length c) r.1.room r.1.arm r.1.dead, .int .i64 r.2])) w' := by
  subst hfs
  exact ⟨p, c, rfl, h, hb⟩
/-- Files do not lie in a disk's box. -/
theorem FHas.off {w : World} {sl : Value} {l : List FV} {b : Nat} {t : TypeId} {cs : Array Value} (h : FHas w sl l) (R : Rw w b t cs) (hcs : ∀ (i : Nat) (v : Value), cs[i]? = some v → (∀ s, v ≠ .string s) ∧ ∀ z, v ≠ .int .u8 z) : ∃ ys : List (FV × Value), ys.map (·.1) = l ∧ FAt w sl ys (fun k => k = b) := by
  obtain ⟨ys, h1, h2, h3⟩ := h
  have hl : l.length = ys.length := by rw [← h1, List.length_map]
  rw [hl] at h2
  refine ⟨ys, h1, h2, h3, fun k hk => ⟨fun a n c e hn e2 => ?_, fun y hy a n c e hn e2 => ?_⟩⟩
  · subst hk
    obtain ⟨p', c', e3⟩ := h2.slice
    rw [e3] at e
    simp only [Value.slice.injEq] at e
    obtain ⟨rfl, rfl, rfl⟩ := e
    subst e3
    obtain ⟨g, o, e, hd⟩ := h2.at hn
    simp only [Option.some.injEq] at e
    subst e
    have h5 := (f_cells (FV.elem hd 0 hn)).1
    rw [show g = k from e2, R.cell] at h5
    exact (hcs _ _ h5).1 _ rfl
  · subst hk
    have h6 := h3 y hy
    obtain ⟨p', c', e3⟩ := SHas.slice h6
    rw [e3] at e h6
    simp only [Value.slice.injEq] at e
    obtain ⟨rfl, rfl, rfl⟩ := e
    obtain ⟨g, o, e, hd⟩ := SHas.at h6 hn
    simp only [Option.some.injEq] at e
    subst e
    have h5 := hd 0 (.int .u8 (y.1.d[0]).toNat) (by simp [cel, List.getElem?_eq_getElem hn])
    rw [show g = k from e2, R.cell] at h5
    exact (hcs _ _ h5).2 _ rfl
theorem dk_cells (sl : Value) (hs : ∃ p n c, sl = .slice p n c) (a b : Int) (c : Bool) (i : Nat) (v : Value) (h : (#[sl, .int .i64 a, .int .i64 b, .bool c] : Array Value)[i]? = some v) : (∀ s, v ≠ .string s) ∧ ∀ z, v ≠ .int .u8 z := by
  obtain ⟨p, n, k, rfl⟩ := hs
  match i, h with
  | 0, h => simp at h; subst h; exact ⟨(fun s e => by cases e), fun z e => by cases e⟩
  | 1, h => simp at h; subst h; exact ⟨(fun s e => by cases e), fun z e => by cases e⟩
  | 2, h => simp at h; subst h; exact ⟨(fun s e => by cases e), fun z e => by cases e⟩
  | 3, h => simp at h; subst h; exact ⟨(fun s e => by cases e), fun z e => by cases e⟩
  | i + 4, h => simp at h
theorem FHas.row {w : World} {sl : Value} {l : List FV} {b : Nat} {p : Option Addr} {n c : Nat} {x y : Int} {z : Bool} (h : FHas w sl l) (R : Rw w b 26 #[.slice p n c, .int .i64 x, .int .i64 y, .bool z]) (cs : Array Value) : FHas (w.setRow b cs) sl l := by
  obtain ⟨ys, h1, h2⟩ := h.off R (dk_cells _ ⟨_, _, _, rfl⟩ _ _ _)
  have := (h2.grown (grown_row w b cs) (fun k hk => by simp only [Option.some.injEq] at hk; exact hk.symm)).has
  rwa [h1] at this
set_option maxHeartbeats 4000000 in
set_option maxRecDepth 100000 in
theorem rDrop_any (d : DV) (sl : Value) (x : ByteArray) (w : World) (h : FHas w sl d.fs) (ha : d.arm ≤ 9223372036854775807) : Calls Try.prog 20 #[DKV.of sl d, .string x] w (DEPost (droD d x) w) := by
  obtain ⟨z, HZ⟩ := hid_ex (droD d x)
  rw [HZ.out]
  unfold droD at HZ
  obtain ⟨q, c, rfl⟩ := h.slice
  have hml := maxLen_lt h.max
  have H : Hid (∀ w', Below w.heap.size w w' → FHas w' (.slice q d.fs.length c) d.fs) := fun w' hb => h.later hb
  clear h
  have R0 := (rw_new w 26 #[(.slice q d.fs.length c), .int .i64 d.room, .int .i64 d.arm, .bool d.dead]).alloc (.cells #[.slice none 0 0, .int .i64 0, .int .i64 0, .bool false] 26)
  have R1 := rw_next (w.alloc (.cells #[(.slice q d.fs.length c), .int .i64 d.room, .int .i64 d.arm, .bool d.dead] 26)) (b := w.heap.size + 1) (by simp) 26 #[.slice none 0 0, .int .i64 0, .int .i64 0, .bool false]
  have hbel := bel_alloc (bel_alloc (Below.refl w.heap.size w) (.cells #[(.slice q d.fs.length c), .int .i64 d.room, .int .i64 d.arm, .bool d.dead] 26)) (.cells #[.slice none 0 0, .int .i64 0, .int .i64 0, .bool false] 26)
  generalize hW : (w.alloc (.cells #[(.slice q d.fs.length c), .int .i64 d.room, .int .i64 d.arm, .bool d.dead] 26)).alloc (.cells #[.slice none 0 0, .int .i64 0, .int .i64 0, .bool false] 26) = w0 at R0 R1 hbel
  obtain ⟨e0, HE⟩ := hid_ex (askD d x)
  have C1 := rAsk_any d _ x w0 (H.out w0 hbel)
  rw [HE.out] at C1
  go_enter Try.func20, Try.ntmps20
  go_wp2_with (first | rw [hW] | refine load_r 26 _ rfl rfl _ rfl R0 Try.underlying26 rfl size26 ?_)
  clear hW
  refine C1.mono ?_
  rintro e w1 ⟨rfl, hb1⟩
  replace R0 := R0.later hb1
  replace R1 := R1.later hb1
  replace hbel := below_on hbel hb1
  clear C1 hb1
  by_cases h0 : e0 = 0
  case neg =>
    have g0 : (e0 == 0) = false := by rw [beq_eq_false_iff_ne]; exact h0
    obtain rfl := (show (d, e0) = z by rw [← HZ.out, HE.out, if_pos h0])
    have R1a := R1.row #[(.slice q d.fs.length c), .int .i64 d.room, .int .i64 d.arm, .bool d.dead]
    have hb10 := bel_row hbel (b := w.heap.size + 1) (by omega) #[(.slice q d.fs.length c), .int .i64 d.room, .int .i64 d.arm, .bool d.dead]
    have H9 := H.out _ hb10
    go_wp2_with (first | refine load_r 26 _ rfl rfl _ rfl R0 Try.underlying26 rfl size26 ?_ | refine store_r rfl 26 _ _ rfl _ _ rfl rfl R1 size26 rfl (by simp [Value.oneCell']) ?_)
    refine bodyPost_ret (results_rt rfl rfl R1a rfl Try.underlying26 size26) rfl (DEPost.mk2 rfl H9 hb10)
  subst h0
  have HCK : Hid (ckD d = true) := (ask_ok HE.out).1
  rw [HE.out, if_neg (show ¬ (0 : Int) ≠ 0 from fun h => h rfl)] at HZ
  clear HE
  have C2 := rPlace_any d _ x w1 (H.out w1 hbel)
  obtain ⟨k, HK⟩ := hid_ex (plF d.fs x)
  rw [HK.out] at C2 HZ
  go_wp2_with (first | refine load_r 26 _ rfl rfl _ rfl R0 Try.underlying26 rfl size26 ?_)
  refine C2.mono ?_
  rintro e w2 ⟨rfl, hb2⟩
  replace R0 := R0.later hb2
  replace R1 := R1.later hb2
  replace hbel := below_on hbel hb2
  clear C2 hb2
  by_cases hk : k < 0
  case pos =>
    rw [if_pos hk] at HZ
    obtain rfl := HZ.out
    have R1a := R1.row #[(.slice q d.fs.length c), .int .i64 d.room, .int .i64 d.arm, .bool d.dead]
    have hb10 := bel_row hbel (b := w.heap.size + 1) (by omega) #[(.slice q d.fs.length c), .int .i64 d.room, .int .i64 d.arm, .bool d.dead]
    have H9 := H.out _ hb10
    go_wp2_with (first | refine load_r 26 _ rfl rfl _ rfl R0 Try.underlying26 rfl size26 ?_ | refine store_r rfl 26 _ _ rfl _ _ rfl rfl R1 size26 rfl (by simp [Value.oneCell']) ?_)
    refine bodyPost_ret (results_rt rfl rfl R1a rfl Try.underlying26 size26) rfl (DEPost.mk2 rfl H9 hb10)
  rw [if_neg hk] at HZ
  have C4 := rPower_any d q c w2 ha
  have hpf := pw_fs d
  obtain ⟨pd, HPD⟩ := hid_ex (pwD d)
  rw [HPD.out] at C4 HZ hpf
  obtain ⟨pf, pr, pa, pdd⟩ := pd
  obtain rfl : pf = d.fs := hpf

  obtain ⟨r, HR⟩ := hid_ex (!decide (d.arm = 0))
  rw [HR.out] at C4
  go_wp2_with (first | refine load_r 26 _ rfl rfl _ rfl R0 Try.underlying26 rfl size26 ?_)
  refine C4.mono ?_
  rintro e w3 ⟨rfl, hb3⟩
  replace R0 := R0.later hb3
  replace R1 := R1.later hb3
  replace hbel := below_on hbel hb3
  clear C4 hb3
  replace hbel := bel_row hbel (b := w.heap.size) (Nat.le_refl _) #[.slice q d.fs.length c, .int .i64 pr, .int .i64 pa, .bool pdd]
  have R0s := R0
  replace R1 := R1.rowOther (q := w.heap.size) (by omega) #[.slice q d.fs.length c, .int .i64 pr, .int .i64 pa, .bool pdd]
  replace R0 := R0.row #[.slice q d.fs.length c, .int .i64 pr, .int .i64 pa, .bool pdd]
  generalize hW3 : w3.setRow w.heap.size #[.slice q d.fs.length c, .int .i64 pr, .int .i64 pa, .bool pdd] = w4 at R0 R1 hbel
  cases r
  · have harm : d.arm = 0 := by simpa using HR.out
    rw [if_pos harm] at HZ
    clear HR harm
    obtain rfl := HZ.out
    have R1a := R1.row #[.slice q d.fs.length c, .int .i64 pr, .int .i64 pa, .bool pdd]
    have hb10 := bel_row hbel (b := w.heap.size + 1) (by omega) #[.slice q d.fs.length c, .int .i64 pr, .int .i64 pa, .bool pdd]
    have H9 := H.out _ hb10
    go_wp2_with (first | rw [hW3] | refine store_r rfl 26 _ _ rfl _ _ rfl rfl R0s size26 rfl (by simp [Value.oneCell']) ?_ | refine load_r 26 _ rfl rfl _ rfl R0 Try.underlying26 rfl size26 ?_ | refine store_r rfl 26 _ _ rfl _ _ rfl rfl R1 size26 rfl (by simp [Value.oneCell']) ?_)
    refine bodyPost_ret (results_rt rfl rfl R1a rfl Try.underlying26 size26) rfl (DEPost.mk2 rfl H9 hb10)
  · have harm : ¬ d.arm = 0 := by simpa using HR.out
    rw [if_neg harm] at HZ
    clear HR harm
    obtain rfl := HZ.out
    have hl : d.fs.length ≤ 1000 := by have := ((ckD_iff d).1 HCK.out).2.2.2.1; omega
    have C5 := rWithout_any ⟨d.fs, pr, pa, pdd⟩ x q c w4 (H.out w4 hbel) hl
    go_wp2_with (first | rw [hW3] | refine store_r rfl 26 _ _ rfl _ _ rfl rfl R0s size26 rfl (by simp [Value.oneCell']) ?_ | refine load_r 26 _ rfl rfl _ rfl R0 Try.underlying26 rfl size26 ?_)
    refine C5.mono ?_
    rintro e w5 ⟨p5, c5, rfl, F5, hb5⟩
    replace R1 := R1.later hb5
    replace hbel := below_on hbel hb5
    have F9 := F5.row R1 #[.slice p5 (woF d.fs x).length c5, .int .i64 pr, .int .i64 pa, .bool pdd]
    have R1a := R1.row #[.slice p5 (woF d.fs x).length c5, .int .i64 pr, .int .i64 pa, .bool pdd]
    have hb10 := bel_row hbel (b := w.heap.size + 1) (by omega) #[.slice p5 (woF d.fs x).length c5, .int .i64 pr, .int .i64 pa, .bool pdd]
    clear F5 hb5
    go_wp2_with (first | refine store_r rfl 26 _ _ rfl _ _ rfl rfl R1 size26 rfl (by simp [Value.oneCell']) ?_)
    refine bodyPost_ret (results_rt rfl rfl R1a rfl Try.underlying26 size26) rfl ⟨_, _, rfl, F9, hb10⟩
end Go.Proofs.Ytjjncmenkepcoaa
/- The document's answer for layer 22: Sync, Read, Arm, New. -/
namespace Go.Proofs.Ytjjncmenkepcoaa
open Go.RowKit

set_option maxHeartbeats 4000000 in
set_option maxRecDepth 100000 in
theorem rSync_any (d : DV) (sl : Value) (x : ByteArray) (w : World) (h : FHas w sl d.fs) (ha : d.arm ≤ 9223372036854775807) : Calls Try.prog 18 #[DKV.of sl d, .string x] w (DEPost (synD d x) w) := by
  obtain ⟨z, HZ⟩ := hid_ex (synD d x)
  rw [HZ.out]
  unfold synD at HZ
  obtain ⟨q, c, rfl⟩ := h.slice
  have hml := maxLen_lt h.max
  have H : Hid (∀ w', Below w.heap.size w w' → FHas w' (.slice q d.fs.length c) d.fs) := fun w' hb => h.later hb
  clear h
  have R0 := (rw_new w 26 #[(.slice q d.fs.length c), .int .i64 d.room, .int .i64 d.arm, .bool d.dead]).alloc (.cells #[.slice none 0 0, .int .i64 0, .int .i64 0, .bool false] 26)
  have R1 := rw_next (w.alloc (.cells #[(.slice q d.fs.length c), .int .i64 d.room, .int .i64 d.arm, .bool d.dead] 26)) (b := w.heap.size + 1) (by simp) 26 #[.slice none 0 0, .int .i64 0, .int .i64 0, .bool false]
  have hbel := bel_alloc (bel_alloc (Below.refl w.heap.size w) (.cells #[(.slice q d.fs.length c), .int .i64 d.room, .int .i64 d.arm, .bool d.dead] 26)) (.cells #[.slice none 0 0, .int .i64 0, .int .i64 0, .bool false] 26)
  generalize hW : (w.alloc (.cells #[(.slice q d.fs.length c), .int .i64 d.room, .int .i64 d.arm, .bool d.dead] 26)).alloc (.cells #[.slice none 0 0, .int .i64 0, .int .i64 0, .bool false] 26) = w0 at R0 R1 hbel
  obtain ⟨e0, HE⟩ := hid_ex (askD d x)
  have C1 := rAsk_any d _ x w0 (H.out w0 hbel)
  rw [HE.out] at C1
  go_enter Try.func18, Try.ntmps18
  go_wp2_with (first | rw [hW] | refine load_r 26 _ rfl rfl _ rfl R0 Try.underlying26 rfl size26 ?_)
  clear hW
  refine C1.mono ?_
  rintro e w1 ⟨rfl, hb1⟩
  replace R0 := R0.later hb1
  replace R1 := R1.later hb1
  replace hbel := below_on hbel hb1
  clear C1 hb1
  by_cases h0 : e0 = 0
  case neg =>
    have g0 : (e0 == 0) = false := by rw [beq_eq_false_iff_ne]; exact h0
    obtain rfl := (show (d, e0) = z by rw [← HZ.out, HE.out, if_pos h0])
    have R1a := R1.row #[(.slice q d.fs.length c), .int .i64 d.room, .int .i64 d.arm, .bool d.dead]
    have hb10 := bel_row hbel (b := w.heap.size + 1) (by omega) #[(.slice q d.fs.length c), .int .i64 d.room, .int .i64 d.arm, .bool d.dead]
    have H9 := H.out _ hb10
    go_wp2_with (first | refine load_r 26 _ rfl rfl _ rfl R0 Try.underlying26 rfl size26 ?_ | refine store_r rfl 26 _ _ rfl _ _ rfl rfl R1 size26 rfl (by simp [Value.oneCell']) ?_)
    refine bodyPost_ret (results_rt rfl rfl R1a rfl Try.underlying26 size26) rfl (DEPost.mk2 rfl H9 hb10)
  subst h0
  have HCK : Hid (ckD d = true) := (ask_ok HE.out).1
  rw [HE.out, if_neg (show ¬ (0 : Int) ≠ 0 from fun h => h rfl)] at HZ
  clear HE
  have C2 := rPlace_any d _ x w1 (H.out w1 hbel)
  obtain ⟨k, HK⟩ := hid_ex (plF d.fs x)
  rw [HK.out] at C2 HZ
  go_wp2_with (first | refine load_r 26 _ rfl rfl _ rfl R0 Try.underlying26 rfl size26 ?_)
  refine C2.mono ?_
  rintro e w2 ⟨rfl, hb2⟩
  replace R0 := R0.later hb2
  replace R1 := R1.later hb2
  replace hbel := below_on hbel hb2
  clear C2 hb2
  by_cases hk : k < 0
  case pos =>
    rw [if_pos hk] at HZ
    obtain rfl := HZ.out
    have R1a := R1.row #[(.slice q d.fs.length c), .int .i64 d.room, .int .i64 d.arm, .bool d.dead]
    have hb10 := bel_row hbel (b := w.heap.size + 1) (by omega) #[(.slice q d.fs.length c), .int .i64 d.room, .int .i64 d.arm, .bool d.dead]
    have H9 := H.out _ hb10
    go_wp2_with (first | refine load_r 26 _ rfl rfl _ rfl R0 Try.underlying26 rfl size26 ?_ | refine store_r rfl 26 _ _ rfl _ _ rfl rfl R1 size26 rfl (by simp [Value.oneCell']) ?_)
    refine bodyPost_ret (results_rt rfl rfl R1a rfl Try.underlying26 size26) rfl (DEPost.mk2 rfl H9 hb10)
  rw [if_neg hk] at HZ
  obtain ⟨kk, hkl, h1, h2, h3⟩ := fi_at (l := d.fs) (x := x) (by rw [HK.out]; exact hk)
  rw [HK.out] at h1
  subst h1
  obtain ⟨g, o, s1, rfl, d0, a0⟩ := (H.out w (Below.refl _ _)).at kk hkl
  rw [h2] at HZ
  obtain ⟨f, HF⟩ := hid_ex d.fs[kk]
  rw [HF.out] at d0 a0 HZ h3
  subst h3
  obtain ⟨p1, c1, rfl⟩ := SHas.slice a0
  have HA0 : Hid (∀ w', Below w.heap.size w w' → DB w' (.slice p1 f.d.length c1) f.d) := fun w' hb => SHas.later a0 hb
  have hmf := maxLen_lt a0.1
  replace d0 := range_later d0 hbel
  clear a0
  have hkl' : (kk : Int) < (d.fs.length : Int) := by omega
  have C4 := fun w' : World => rPower_any d (some ⟨g, o, none⟩) c w' ha
  obtain ⟨r, HR⟩ := hid_ex (!decide (d.arm = 0))
  have hpf := pw_fs d
  obtain ⟨pd, HPD⟩ := hid_ex (pwD d)
  rw [HPD.out] at HZ hpf
  rw [HR.out, HPD.out] at C4
  obtain ⟨pf, pr, pa, pdd⟩ := pd
  obtain rfl : pf = d.fs := hpf
  have zf : (Try.prog.info? 57).map (·.size) = some [Value.string f.x, .slice p1 f.d.length c1, .int .i64 f.k].length := sizeF
  have RB := rw_new w2 57 #[.string f.x, .slice p1 f.d.length c1, .int .i64 f.k]
  have hba := bel_alloc (Below.refl w2.heap.size w2) (.cells #[.string f.x, .slice p1 f.d.length c1, .int .i64 f.k] 57)
  generalize hWB : w2.alloc (.cells #[.string f.x, .slice p1 f.d.length c1, .int .i64 f.k] 57) = wb at RB hba
  have hc0 : w2.cell? ⟨w.heap.size, 0, none⟩ = some (.slice (some ⟨g, o, none⟩) d.fs.length c) := R0.cell 0
  have hfb : w.heap.size + 1 < w2.heap.size := R1.lt
  replace R0 := R0.later hba
  replace R1 := R1.later hba
  replace hbel := below_on hbel hba
  go_upto_region 8 with (first | rw [hWB] | refine load_m 57 _ rfl rfl _ _ rfl d0 Try.underlying57 rfl zf ?_)
  clear hWB hc0 d0 zf
  go_wp2_with (first | refine load_r 26 _ rfl rfl _ rfl R0 Try.underlying26 rfl size26 ?_)
  refine (C4 wb).mono ?_
  rintro e w3 ⟨rfl, hb3⟩
  replace R0 := R0.later hb3
  replace R1 := R1.later hb3
  replace RB := RB.later hb3
  replace hbel := below_on hbel hb3
  clear C4 hb3 hba
  replace hbel := bel_row hbel (b := w.heap.size) (Nat.le_refl _) #[.slice (some ⟨g, o, none⟩) d.fs.length c, .int .i64 pr, .int .i64 pa, .bool pdd]
  have R0s := R0
  replace R1 := R1.rowOther (q := w.heap.size) (by omega) #[.slice (some ⟨g, o, none⟩) d.fs.length c, .int .i64 pr, .int .i64 pa, .bool pdd]
  replace RB := RB.rowOther (q := w.heap.size) (by omega) #[.slice (some ⟨g, o, none⟩) d.fs.length c, .int .i64 pr, .int .i64 pa, .bool pdd]
  replace R0 := R0.row #[.slice (some ⟨g, o, none⟩) d.fs.length c, .int .i64 pr, .int .i64 pa, .bool pdd]
  generalize hW3 : w3.setRow w.heap.size #[.slice (some ⟨g, o, none⟩) d.fs.length c, .int .i64 pr, .int .i64 pa, .bool pdd] = w4 at R0 R1 RB hbel
  cases r
  · have harm : d.arm = 0 := by simpa using HR.out
    rw [if_pos harm] at HZ
    clear HR harm
    obtain rfl := HZ.out
    have R1a := R1.row #[.slice (some ⟨g, o, none⟩) d.fs.length c, .int .i64 pr, .int .i64 pa, .bool pdd]
    have hb10 := bel_row hbel (b := w.heap.size + 1) (by omega) #[.slice (some ⟨g, o, none⟩) d.fs.length c, .int .i64 pr, .int .i64 pa, .bool pdd]
    have H9 := H.out _ hb10
    go_wp2_with (first | rw [hW3] | refine store_r rfl 26 _ _ rfl _ _ rfl rfl R0s size26 rfl (by simp [Value.oneCell']) ?_ | refine load_r 26 _ rfl rfl _ rfl R0 Try.underlying26 rfl size26 ?_ | refine store_r rfl 26 _ _ rfl _ _ rfl rfl R1 size26 rfl (by simp [Value.oneCell']) ?_)
    refine bodyPost_ret (results_rt rfl rfl R1a rfl Try.underlying26 size26) rfl (DEPost.mk2 rfl H9 hb10)
  · have harm : ¬ d.arm = 0 := by simpa using HR.out
    rw [if_neg harm] at HZ
    clear HR harm
    obtain rfl := HZ.out
    have hl : d.fs.length ≤ 1000 := by have := ((ckD_iff d).1 HCK.out).2.2.2.1; omega
    have k1 : w4.cell? ⟨w2.heap.size, 1, none⟩ = some (.slice p1 f.d.length c1) := RB.cell 1
    have k2 : w4.cell? ⟨w2.heap.size, 2, none⟩ = some (.int .i64 f.k) := RB.cell 2
    have e2 : w4.frozen? ⟨w2.heap.size, 2, none⟩ = false := RB.frozen 2
    have RB2 : Rw (w4.setCell ⟨w2.heap.size, 2, none⟩ (.int .i64 f.d.length)) w2.heap.size 57 #[.string f.x, .slice p1 f.d.length c1, .int .i64 f.d.length] := RB.set 2 _
    have R0b := R0.setOther (q := w2.heap.size) (by omega) 2 (.int .i64 f.d.length)
    have R1b := R1.setOther (q := w2.heap.size) (by omega) 2 (.int .i64 f.d.length)
    have hbelb := bel_set hbel (i := 2) (b := w2.heap.size) (by omega) (.int .i64 f.d.length)
    generalize hW5 : w4.setCell ⟨w2.heap.size, 2, none⟩ (.int .i64 f.d.length) = w5 at RB2 R0b R1b hbelb
    have C5 := rWith_any ⟨d.fs, pr, pa, pdd⟩ ⟨f.x, f.d, f.d.length⟩ (some ⟨g, o, none⟩) c (.slice p1 f.d.length c1) w5 (H.out w5 hbelb) (HA0.out w5 hbelb) hl
    clear R0 R1 RB hbel
    go_wp2_with (first | rw [hW3] | rw [hW5] | refine store_r rfl 26 _ _ rfl _ _ rfl rfl R0s size26 rfl (by simp [Value.oneCell']) ?_ | refine load_r 26 _ rfl rfl _ rfl R0b Try.underlying26 rfl size26 ?_ | refine load_r 57 _ rfl rfl _ rfl RB2 Try.underlying57 rfl sizeF ?_)
    refine C5.mono ?_
    rintro e w6 ⟨p5, c5, rfl, F5, hb5⟩
    replace R1b := R1b.later hb5
    have hbel := below_on hbelb hb5
    have F9 := F5.row R1b #[.slice p5 (withF ⟨f.x, f.d, f.d.length⟩ d.fs).length c5, .int .i64 pr, .int .i64 pa, .bool pdd]
    have R1a := R1b.row #[.slice p5 (withF ⟨f.x, f.d, f.d.length⟩ d.fs).length c5, .int .i64 pr, .int .i64 pa, .bool pdd]
    have hb10 := bel_row hbel (b := w.heap.size + 1) (by omega) #[.slice p5 (withF ⟨f.x, f.d, f.d.length⟩ d.fs).length c5, .int .i64 pr, .int .i64 pa, .bool pdd]
    clear F5 hb5
    go_wp2_with (first | refine store_r rfl 26 _ _ rfl _ _ rfl rfl R1b size26 rfl (by simp [Value.oneCell']) ?_)
    refine bodyPost_ret (results_rt rfl rfl R1a rfl Try.underlying26 size26) rfl ⟨_, _, rfl, F9, hb10⟩
def RePost (r : List UInt8 × Int) (w : World) (e : Ending) (w' : World) : Prop := ∃ u, e = .returned (.tuple #[u, .int .i64 r.2]) ∧ DB w' u r.1 ∧ Below w.heap.size w w'
set_option maxHeartbeats 4000000 in
set_option maxRecDepth 100000 in
theorem rRead_any (d : DV) (sl : Value) (x : ByteArray) (w : World) (h : FHas w sl d.fs) : Calls Try.prog 21 #[DKV.of sl d, .string x] w (RePost (reaD d x) w) := by
  obtain ⟨z, HZ⟩ := hid_ex (reaD d x)
  rw [HZ.out]
  unfold reaD at HZ
  obtain ⟨q, c, rfl⟩ := h.slice
  have hml := maxLen_lt h.max
  have H : Hid (∀ w', Below w.heap.size w w' → FHas w' (.slice q d.fs.length c) d.fs) := fun w' hb => h.later hb
  clear h
  have R0 := rw_new w 26 #[(.slice q d.fs.length c), .int .i64 d.room, .int .i64 d.arm, .bool d.dead]
  have hbel := bel_alloc (Below.refl w.heap.size w) (.cells #[(.slice q d.fs.length c), .int .i64 d.room, .int .i64 d.arm, .bool d.dead] 26)
  generalize hW : w.alloc (.cells #[(.slice q d.fs.length c), .int .i64 d.room, .int .i64 d.arm, .bool d.dead] 26) = w0 at R0 hbel
  obtain ⟨e0, HE⟩ := hid_ex (askD d x)
  have C1 := rAsk_any d _ x w0 (H.out w0 hbel)
  rw [HE.out] at C1
  go_enter Try.func21, Try.ntmps21
  go_wp2_with (first | rw [hW] | refine load_r 26 _ rfl rfl _ rfl R0 Try.underlying26 rfl size26 ?_)
  clear hW
  refine C1.mono ?_
  rintro e w1 ⟨rfl, hb1⟩
  replace R0 := R0.later hb1
  replace hbel := below_on hbel hb1
  clear C1 hb1
  by_cases h0 : e0 = 0
  case neg =>
    have g0 : (e0 == 0) = false := by rw [beq_eq_false_iff_ne]; exact h0
    obtain rfl := (show (([], e0) : List UInt8 × Int) = z by rw [← HZ.out, HE.out, if_pos h0])
    go_wp2_with fail
    go_ret2
    exact ⟨_, rfl, DB.nil _, hbel⟩
  subst h0
  have HCK : Hid (ckD d = true) := (ask_ok HE.out).1
  rw [HE.out, if_neg (show ¬ (0 : Int) ≠ 0 from fun h => h rfl)] at HZ
  clear HE
  have C2 := rPlace_any d _ x w1 (H.out w1 hbel)
  obtain ⟨k, HK⟩ := hid_ex (plF d.fs x)
  rw [HK.out] at C2 HZ
  go_wp2_with (first | refine load_r 26 _ rfl rfl _ rfl R0 Try.underlying26 rfl size26 ?_)
  refine C2.mono ?_
  rintro e w2 ⟨rfl, hb2⟩
  replace R0 := R0.later hb2
  replace hbel := below_on hbel hb2
  clear C2 hb2
  by_cases hk : k < 0
  case pos =>
    rw [if_pos hk] at HZ
    obtain rfl := HZ.out
    go_wp2_with fail
    go_ret2
    exact ⟨_, rfl, DB.nil _, hbel⟩
  rw [if_neg hk] at HZ
  obtain ⟨kk, hkl, h1, h2, h3⟩ := fi_at (l := d.fs) (x := x) (by rw [HK.out]; exact hk)
  rw [HK.out] at h1
  subst h1
  obtain ⟨g, o, s1, rfl, d0, a0⟩ := (H.out w (Below.refl _ _)).at kk hkl
  rw [h2] at HZ
  obtain ⟨f, HF⟩ := hid_ex d.fs[kk]
  rw [HF.out] at d0 a0 HZ h3
  subst h3
  obtain ⟨p1, c1, rfl⟩ := SHas.slice a0
  have HA0 : Hid (∀ w', Below w.heap.size w w' → DB w' (.slice p1 f.d.length c1) f.d) := fun w' hb => SHas.later a0 hb
  have hmf := maxLen_lt a0.1
  replace d0 := range_later d0 hbel
  clear a0
  have hkl' : (kk : Int) < (d.fs.length : Int) := by omega
  obtain rfl := HZ.out
  have k0 : w2.cell? ⟨w.heap.size, 0, none⟩ = some (.slice (some ⟨g, o, none⟩) d.fs.length c) := R0.cell 0
  obtain ⟨_, k1, _⟩ := f_cells d0
  clear d0
  have hu := HA0.out w2 hbel
  go_wp2_with fail
  go_ret2
  exact ⟨_, rfl, hu, hbel⟩
set_option maxHeartbeats 4000000 in
set_option maxRecDepth 100000 in
theorem rArm_any (d : DV) (sl : Value) (n : Int) (w : World) (h : FHas w sl d.fs) : Calls Try.prog 22 #[DKV.of sl d, .int .i64 n] w (DEPost (armD d n) w) := by
  obtain ⟨z, HZ⟩ := hid_ex (armD d n)
  rw [HZ.out]
  unfold armD at HZ
  obtain ⟨q, c, rfl⟩ := h.slice
  have hml := maxLen_lt h.max
  have H : Hid (∀ w', Below w.heap.size w w' → FHas w' (.slice q d.fs.length c) d.fs) := fun w' hb => h.later hb
  clear h
  have R0 := (rw_new w 26 #[(.slice q d.fs.length c), .int .i64 d.room, .int .i64 d.arm, .bool d.dead]).alloc (.cells #[.slice none 0 0, .int .i64 0, .int .i64 0, .bool false] 26)
  have R1 := rw_next (w.alloc (.cells #[(.slice q d.fs.length c), .int .i64 d.room, .int .i64 d.arm, .bool d.dead] 26)) (b := w.heap.size + 1) (by simp) 26 #[.slice none 0 0, .int .i64 0, .int .i64 0, .bool false]
  have hbel := bel_alloc (bel_alloc (Below.refl w.heap.size w) (.cells #[(.slice q d.fs.length c), .int .i64 d.room, .int .i64 d.arm, .bool d.dead] 26)) (.cells #[.slice none 0 0, .int .i64 0, .int .i64 0, .bool false] 26)
  generalize hW : (w.alloc (.cells #[(.slice q d.fs.length c), .int .i64 d.room, .int .i64 d.arm, .bool d.dead] 26)).alloc (.cells #[.slice none 0 0, .int .i64 0, .int .i64 0, .bool false] 26) = w0 at R0 R1 hbel
  obtain ⟨e0, HE⟩ := hid_ex (askD d Xn1)
  have C1 := rAsk_any d _ Xn1 w0 (H.out w0 hbel)
  rw [HE.out] at C1
  go_enter Try.func22, Try.ntmps22
  go_wp2_with (first | rw [hW] | refine load_r 26 _ rfl rfl _ rfl R0 Try.underlying26 rfl size26 ?_)
  clear hW
  refine C1.mono ?_
  rintro e w1 ⟨rfl, hb1⟩
  replace R0 := R0.later hb1
  replace R1 := R1.later hb1
  replace hbel := below_on hbel hb1
  clear C1 hb1
  by_cases h0 : e0 = 0
  case neg =>
    have g0 : (e0 == 0) = false := by rw [beq_eq_false_iff_ne]; exact h0
    obtain rfl := (show (d, e0) = z by rw [← HZ.out, HE.out, if_pos h0])
    have R1a := R1.row #[(.slice q d.fs.length c), .int .i64 d.room, .int .i64 d.arm, .bool d.dead]
    have hb10 := bel_row hbel (b := w.heap.size + 1) (by omega) #[(.slice q d.fs.length c), .int .i64 d.room, .int .i64 d.arm, .bool d.dead]
    have H9 := H.out _ hb10
    go_wp2_with (first | refine load_r 26 _ rfl rfl _ rfl R0 Try.underlying26 rfl size26 ?_ | refine store_r rfl 26 _ _ rfl _ _ rfl rfl R1 size26 rfl (by simp [Value.oneCell']) ?_)
    refine bodyPost_ret (results_rt rfl rfl R1a rfl Try.underlying26 size26) rfl (DEPost.mk2 rfl H9 hb10)
  subst h0
  have HCK : Hid (ckD d = true) := (ask_ok HE.out).1
  rw [HE.out, if_neg (show ¬ (0 : Int) ≠ 0 from fun h => h rfl)] at HZ
  clear HE
  by_cases hn : n < -1
  · rw [if_pos hn] at HZ
    obtain rfl := HZ.out
    have R1a := R1.row #[(.slice q d.fs.length c), .int .i64 d.room, .int .i64 d.arm, .bool d.dead]
    have hb10 := bel_row hbel (b := w.heap.size + 1) (by omega) #[(.slice q d.fs.length c), .int .i64 d.room, .int .i64 d.arm, .bool d.dead]
    have H9 := H.out _ hb10
    go_wp2_with (first | refine load_r 26 _ rfl rfl _ rfl R0 Try.underlying26 rfl size26 ?_ | refine store_r rfl 26 _ _ rfl _ _ rfl rfl R1 size26 rfl (by simp [Value.oneCell']) ?_)
    refine bodyPost_ret (results_rt rfl rfl R1a rfl Try.underlying26 size26) rfl (DEPost.mk2 rfl H9 hb10)
  · rw [if_neg hn] at HZ
    have k2 : w1.cell? ⟨w.heap.size, 2, none⟩ = some (.int .i64 d.arm) := R0.cell 2
    have e2 : w1.frozen? ⟨w.heap.size, 2, none⟩ = false := R0.frozen 2
    have R0b : Rw (w1.setCell ⟨w.heap.size, 2, none⟩ (.int .i64 n)) w.heap.size 26 #[(.slice q d.fs.length c), .int .i64 d.room, .int .i64 n, .bool d.dead] := R0.set 2 _
    have R1b := R1.setOther (q := w.heap.size) (by omega) 2 (.int .i64 n)
    have hbelb := bel_set hbel (i := 2) (b := w.heap.size) (Nat.le_refl _) (.int .i64 n)
    generalize hW5 : w1.setCell ⟨w.heap.size, 2, none⟩ (.int .i64 n) = w5 at R0b R1b hbelb
    clear R0 R1 hbel
    have R0 := R0b
    have R1 := R1b
    have hbel := hbelb
    clear R0b R1b hbelb
    obtain rfl := HZ.out
    have R1a := R1.row #[(.slice q d.fs.length c), .int .i64 d.room, .int .i64 n, .bool d.dead]
    have hb10 := bel_row hbel (b := w.heap.size + 1) (by omega) #[(.slice q d.fs.length c), .int .i64 d.room, .int .i64 n, .bool d.dead]
    have H9 := H.out _ hb10
    go_wp2_with (first | rw [hW5] | refine load_r 26 _ rfl rfl _ rfl R0 Try.underlying26 rfl size26 ?_ | refine store_r rfl 26 _ _ rfl _ _ rfl rfl R1 size26 rfl (by simp [Value.oneCell']) ?_)
    refine bodyPost_ret (results_rt rfl rfl R1a rfl Try.underlying26 size26) rfl (DEPost.mk2 rfl H9 hb10)
theorem rNew_any (n : Int) (w : World) : Calls Try.prog 23 #[.int .i64 n] w (DEPost (newD n) w) := by
  obtain ⟨z, HZ⟩ := hid_ex (newD n)
  rw [HZ.out]
  unfold newD at HZ
  go_enter Try.func23, Try.ntmps23
  by_cases h1 : n < 0
  · rw [if_pos (.inl h1)] at HZ
    obtain rfl := HZ.out
    go_wp2_with fail
    refine bodyPost_ret (results_rt rfl rfl (rw_new w 26 _) rfl Try.underlying26 size26) rfl ⟨none, 0, rfl, FHas.nil _, ?_⟩
    repeat refine bel_alloc ?_ _
    exact Below.refl _ _
  · by_cases h2 : 1048576 < n
    · rw [if_pos (.inr h2)] at HZ
      obtain rfl := HZ.out
      go_wp2_with fail
      refine bodyPost_ret (results_rt rfl rfl (rw_new w 26 _) rfl Try.underlying26 size26) rfl ⟨none, 0, rfl, FHas.nil _, ?_⟩
      repeat refine bel_alloc ?_ _
      exact Below.refl _ _
    · rw [if_neg (by omega)] at HZ
      obtain rfl := HZ.out
      go_wp2_with fail
      refine bodyPost_ret (results_rt rfl rfl (rw_new w 26 _) rfl Try.underlying26 size26) rfl ⟨none, 0, rfl, FHas.nil _, ?_⟩
      repeat refine bel_alloc ?_ _
      exact Below.refl _ _
end Go.Proofs.Ytjjncmenkepcoaa
/- Rows of bytes of one's own, and what is appended to them; operations that make memory in a region that draws its order. Nothing of one function. -/
namespace Go.Proofs.Ytjjncmenkepcoaa.HeldI

section
variable {P : Program} {ops : Array Oper} {Q : Exit → Act → World → Prop} {S : World → Prop} {fuel : Nat} {listed : Array Bool} {a a' : Act} {w w1 : World} {o : Oper}
/-- An operation alone in its turn that comes to a value, whatever it writes. -/
theorem vl (i : Nat) {v : Value} (hv : (execOp a.eval o).run P w = .ok (.value v) w1) (hS : S w1) (h : wpAnyH P .any ops Q S fuel (listed.setIfInBounds i true) a' w1) (hi : ops[i]? = some o := by (simp only [List.getElem?_toArray, List.getElem?_cons_succ, List.getElem?_cons_zero]; rfl)) (hr : Region.ready .any ops listed = [i] := by kernel_rfl) (hw : Region.wanted o (yielded ops a.tmps) = true := by rfl) (hp : a.put o.dst v = a' := by (simp only [Act.put, List.setIfInBounds_toArray, List.set_cons_zero, List.set_cons_succ]; rfl)) : wpAnyH P .any ops Q S (fuel + 1) listed a w :=
  al i (by
    unfold Oper.wp
    rw [hv]
    exact ⟨hS, hp ▸ h⟩) hi hr hw
theorem ap (i : Nat) {v vs vx : Value} {s x : Operand} {t ty : TypeId} (hrun : (Builtin.append_ #[t, t] ty #[vs, vx]).run P w = .ok v w1) (hS : S w1) (h : wpAnyH P .any ops Q S fuel (listed.setIfInBounds i true) a' w1) (hi : ops[i]? = some o := by (simp only [List.getElem?_toArray, List.getElem?_cons_succ, List.getElem?_cons_zero]; rfl)) (hr : Region.ready .any ops listed = [i] := by kernel_rfl) (hw : Region.wanted o (yielded ops a.tmps) = true := by rfl)
    (ho : o.op = .call { callee := .builtin .append, args := #[s, x], argTypes := #[t, t] } := by rfl) (hty : o.type = ty := by rfl) (hs : a.eval s = vs := by rfl) (hx : a.eval x = vx := by rfl) (hp : a.put o.dst v = a' := by (simp only [Act.put, List.setIfInBounds_toArray, List.set_cons_zero, List.set_cons_succ]; rfl)) : wpAnyH P .any ops Q S (fuel + 1) listed a w :=
  vl i (by
    unfold execOp
    simp only [ho, hty, resolve, invoke, builtin, Sem.run_bind, Sem.run_pure, Result.andThen_ok, List.map_toArray, List.map_cons, List.map_nil, hs, hx, hrun]) hS h hi hr hw hp
end
end Go.Proofs.Ytjjncmenkepcoaa.HeldI
namespace Go.Proofs.Ytjjncmenkepcoaa
open Go.RowKit

theorem info5 : (Try.prog.info? 5).map (fun i => (i.zero, i.size, i.bytes)) = some (some (.int .u8 0), 1, 1) := by kernel_rfl
theorem own_empty (w : World) (B : Nat) (hB : B ≤ w.heap.size) : (w.alloc (.cells #[] 5)).ownsRow B 5 1 (.slice (some ⟨w.heap.size, 0, none⟩) 0 0) 0 [] := World.ownsRow_made w #[] 0 hB (Nat.zero_le _) rfl
theorem own_off {w : World} {B e S n b : Nat} {v : Value} {xs : List Value} (h : w.ownsRow B e S v n xs) (hb : b < B) : Off b v := fun a m c e2 hn e3 => by
  rcases h.2 with ⟨rfl, _⟩ | ⟨g, cap, cur, rfl, hbg, _⟩
  · cases e2
  · simp only [Value.slice.injEq, Option.some.injEq] at e2
    rw [← e2.1] at e3
    simp only at e3
    omega
theorem own_block {w : World} {B e S n : Nat} {v : Value} {xs : List Value} (h : w.ownsRow B e S v n xs) : ∀ k, v.ownBlock = some k → B ≤ k := fun k hk => by
  rcases h.2 with ⟨rfl, _⟩ | ⟨g, cap, cur, rfl, hbg, _⟩
  · cases hk
  · simp only [Value.ownBlock, Option.some.injEq] at hk
    omega
theorem run_app {w : World} {B : Nat} {v vx : Value} {l m : List UInt8} (ty : TypeId) (hown : w.ownsRow B 5 1 v l.length (cel l)) (hx : DB w vx m) (hlen : l.length + m.length ≤ 10000000) (hB : B ≤ w.heap.size) : ∃ v' w', (Builtin.append_ #[22, 22] ty #[v, vx]).run Try.prog w = .ok v' w' ∧ w'.ownsRow B 5 1 v' (l ++ m).length (cel (l ++ m)) ∧ w.grownBy w' v.ownBlock := by
  obtain ⟨i, hi, e⟩ := Option.map_eq_some_iff.1 info5
  simp only [Prod.mk.injEq] at e
  rw [List.length_append, cel_append]
  have hmx : l.length + m.length ≤ maxLen := Nat.le_trans hlen (by decide)
  obtain ⟨hm, hl, ⟨rfl, h0⟩ | ⟨ad, c, rfl, hc, hd⟩⟩ := hx
  · obtain rfl := List.length_eq_zero_iff.1 h0
    refine ⟨v, w, run_append_owned_none (P := Try.prog) (w := w) B 22 ty 5 i 1 Try.underlying22 hi v l.length _ hown, ?_, World.grownBy.refl _ _⟩
    simpa [cel] using hown
  · have hz : ∀ j u, (cel m)[j]? = some u → w.cell? (ad.add j) = some u := fun j u hu => by
      have hz : 0 < m.length := by
        have := (List.getElem?_eq_some_iff.1 hu).1
        rw [cel_length] at this
        omega
      obtain ⟨g, o', rfl, hr⟩ := hd hz
      rw [Addr.add_mid]
      exact hr j u hu
    obtain ⟨v', w', h1, h2, h3, _⟩ := Go.run_append_own_at (P := Try.prog) w B 22 ty 5 i _ 1 1 Try.underlying22 hi e.1 e.2.1 e.2.2 rfl (by decide) v l.length _ hown ad m.length c (cel m) hl hz (cel_one m) hmx (by omega) hB
    exact ⟨v', w', h1, h2, h3⟩
theorem append_db {ops : Array Oper} {rest : List Oper} {o : Oper} {a : Act} {Q : Exit → Act → World → Prop} {w : World} {B : Nat} {va vx : Value} {l m : List UInt8} (hgd : o.guard = none) (s x : Operand) (ho : o.op = .call { callee := .builtin .append, args := #[s, x], argTypes := #[22, 22] })
    (hs : a.eval s = va) (hx : a.eval x = vx) (hown : w.ownsRow B 5 1 va l.length (cel l)) (hxs : DB w vx m) (hlen : l.length + m.length ≤ 10000000) (hB : B ≤ w.heap.size)
    (h : ∀ v' w', w'.ownsRow B 5 1 v' (l ++ m).length (cel (l ++ m)) → w.grownBy w' va.ownBlock → wpList Try.prog ops Q rest (a.put o.dst v') w') : wpList Try.prog ops Q (o :: rest) a w :=
  wpList_plain hgd fun K hK => by
    obtain ⟨v', w', hr, h2, h3⟩ := run_app o.type hown hxs hlen hB
    unfold Oper.wp execOp
    simp only [ho, resolve, invoke, builtin, Sem.run_bind, Sem.run_pure, Result.andThen_ok, List.map_toArray, List.map_cons, List.map_nil, hs, hx, hr]
    exact hK _ _ (h v' w' h2 h3)
theorem own_db {w : World} {B : Nat} {v : Value} {l : List UInt8} (h : w.ownsRow B 5 1 v l.length (cel l)) : DB w v l := own_sh h
end Go.Proofs.Ytjjncmenkepcoaa
