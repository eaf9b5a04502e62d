import Derived.Test.YtjjncmenkepcoaaP7
/- The document's answer for layer 22: Names, Crash; and texts that are equal. -/
namespace Go.Proofs.Ytjjncmenkepcoaa
open Go.RowKit

theorem info9 : (Try.prog.info? 9).map (fun i => (i.zero, i.size, i.bytes)) = some (some (.string ByteArray.empty), 1, 16) := by kernel_rfl
theorem info_split {t : TypeId} {z : Value} {s b : Nat} (h : (Try.prog.info? t).map (fun i => (i.zero, i.size, i.bytes)) = some (some z, s, b)) : ∃ i, Try.prog.info? t = some i ∧ i.zero = some z ∧ i.size = s ∧ i.bytes = b := by
  obtain ⟨i, hi, e⟩ := Option.map_eq_some_iff.1 h
  simp only [Prod.mk.injEq] at e
  exact ⟨i, hi, e.1, e.2.1, e.2.2⟩
/-- A slice of texts. -/
def sts (l : List ByteArray) : List Value := l.map Value.string
theorem sts_length (l : List ByteArray) : (sts l).length = l.length := by simp [sts]
abbrev THas (w : World) (v : Value) (l : List ByteArray) : Prop := SHas 1 w v l.length (sts l)
theorem THas.elem {w : World} {l : List ByteArray} {g o : Nat} (h : w.rangeAt g o (sts l)) (k : Nat) (hk : k < l.length) : w.cell? ⟨g, o + k, none⟩ = some (.string l[k]) := h k _ (by simp [sts, hk])
set_option maxHeartbeats 2000000 in
set_option maxRecDepth 100000 in
theorem rTexts_any (v1 v2 : Value) (l : List ByteArray) (w : World) (h1 : THas w v1 l) (h2 : THas w v2 l) : Calls Try.prog 27 #[v1, v2] w (Tells (.bool true) w) := by
  have hml := maxLen_lt h1.1
  obtain ⟨p1, c1, rfl⟩ := SHas.slice h1
  obtain ⟨p2, c2, rfl⟩ := SHas.slice h2
  have H1 : Hid (THas w (.slice p1 l.length c1) l) := h1
  have H2 : Hid (THas w (.slice p2 l.length c2) l) := h2
  clear h1 h2
  go_enter Try.func27, Try.ntmps27
  go_wp2
  go_loopw [5] (fun vi wr => ∃ k : Nat, vi = .int .i64 k ∧ k ≤ l.length ∧ Below w.heap.size w wr) (fun vi _ => l.length - (intOf vi).toNat)
  case atStart => exact ⟨0, rfl, by omega, Below.refl _ _⟩
  case round =>
    obtain ⟨k, rfl, hk, hbel⟩ := hrel
    by_cases hlt : k < l.length
    · have hlt' : (k : Int) < (l.length : Int) := by omega
      obtain ⟨g, o, rfl, hd1⟩ := SHas.at H1.out (by omega)
      obtain ⟨g', o', rfl, hd2⟩ := SHas.at H2.out (by omega)
      have c1 := THas.elem (range_later hd1 hbel) k hlt
      have c2 := THas.elem (range_later hd2 hbel) k hlt
      obtain ⟨s, HS⟩ := hid_ex l[k]
      rw [HS.out] at c1 c2
      clear hd1 hd2 H1 H2 HS
      go_wp2_with fail
      refine Calm.region (by kernel_rfl) (by kernel_rfl) (fun w' : World => w'.cell? ⟨g, o + k, none⟩ = some (.string s) ∧ w'.cell? ⟨g', o' + k, none⟩ = some (.string s) ∧ Below wr.heap.size wr w') ⟨c1, c2, (Below.refl _ _).drew⟩ ?_
      iterate 3 (refine Calm.pu ?_)
      refine Calm.ce (fun _ h => h.1) ?_
      iterate 3 (refine Calm.pu ?_)
      refine Calm.ce (fun _ h => h.2.1) ?_
      refine Calm.pu ?_
      intro w6 hS6
      have hb6 := hS6.2.2
      clear hS6 c1 c2
      go_wp2_with fail
      go_roundw
      case rel => exact ⟨k + 1, by simp, by omega, below_on hbel hb6⟩
      case measure => simp [intOf]; omega
    · have hlt' : ¬ (k : Int) < (l.length : Int) := by omega
      go_wp2_with fail
      go_ret
      exact ⟨rfl, hbel⟩
def NmPost (l : List ByteArray) (w : World) (e : Ending) (w' : World) : Prop := ∃ u, e = .returned u ∧ THas w' u l ∧ Below w.heap.size w w'
set_option maxHeartbeats 4000000 in
set_option maxRecDepth 100000 in
theorem rNames_any (d : DV) (sl : Value) (w : World) (h : FHas w sl d.fs) : Calls Try.prog 29 #[DKV.of sl d] w (NmPost (namD d) w) := by
  obtain ⟨z, HZ⟩ := hid_ex (namD d)
  rw [HZ.out]
  unfold namD at HZ
  obtain ⟨i0, hi, hz0, hz1, hz2⟩ := info_split info9
  obtain ⟨q, c, rfl⟩ := h.slice
  have hml := maxLen_lt h.max
  have H : Hid (∀ w', Below w.heap.size w w' → FHas w' (.slice q d.fs.length c) d.fs) := fun w' hb => h.later hb
  clear h
  have R0 := rw_new w 26 #[(.slice q d.fs.length c), .int .i64 d.room, .int .i64 d.arm, .bool d.dead]
  have hbel := bel_alloc (Below.refl w.heap.size w) (.cells #[(.slice q d.fs.length c), .int .i64 d.room, .int .i64 d.arm, .bool d.dead] 26)
  generalize hW : w.alloc (.cells #[(.slice q d.fs.length c), .int .i64 d.room, .int .i64 d.arm, .bool d.dead] 26) = w0 at R0 hbel
  have C1 := rCheck_any d _ w0 (H.out w0 hbel)
  obtain ⟨r1, H1⟩ := hid_ex (ckD d)
  rw [H1.out] at C1 HZ
  go_enter Try.func29, Try.ntmps29
  go_wp2_with (first | rw [hW] | refine load_r 26 _ rfl rfl _ rfl R0 Try.underlying26 rfl size26 ?_)
  clear hW
  refine C1.mono ?_
  rintro e w1 ⟨rfl, hb1⟩
  replace R0 := R0.later hb1
  replace hbel := below_on hbel hb1
  clear C1 hb1
  cases r1
  · rw [if_pos (.inl rfl)] at HZ
    obtain rfl := HZ.out
    go_wp2_with fail
    go_ret
    exact ⟨_, rfl, SHas.nil _ 1, hbel⟩
  have c3 := R0.cell 3
  obtain ⟨r2, H2⟩ := hid_ex d.dead
  rw [H2.out] at HZ
  have c3' : w1.cell? ⟨w.heap.size, 3, none⟩ = some (.bool r2) := by rw [← H2.out]; exact c3
  have hl64 : d.fs.length ≤ 64 := ((ckD_iff d).1 H1.out).2.2.2.1
  clear c3 H2 H1
  cases r2
  case true =>
    rw [if_pos (.inr rfl)] at HZ
    obtain rfl := HZ.out
    go_wp2_with fail
    go_ret
    exact ⟨_, rfl, SHas.nil _ 1, hbel⟩
  rw [if_neg (by simp)] at HZ
  go_wp2_with fail
  clear c3'
  go_loopw [3, 4] (fun vo vi wr => ∃ (k : Nat), vi = .int .i64 k ∧ k ≤ d.fs.length ∧ wr.ownsRow (w.heap.size + 1) 9 1 vo k (sts ((d.fs.take k).map (·.x))) ∧ Rw wr w.heap.size 26 #[(.slice q d.fs.length c), .int .i64 d.room, .int .i64 d.arm, .bool d.dead] ∧ Below w.heap.size w wr) (fun _ vi _ => d.fs.length - (intOf vi).toNat)
  case atStart => exact ⟨0, rfl, by omega, ⟨rfl, .inl ⟨rfl, rfl⟩⟩, R0, hbel⟩
  case round =>
    clear R0 hbel
    obtain ⟨k, rfl, hk, hO, R0, hbel⟩ := hrel
    have k0 : wr.cell? ⟨w.heap.size, 0, none⟩ = some (.slice q d.fs.length c) := R0.cell 0
    by_cases hlt : k < d.fs.length
    · have hlt' : (k : Int) < (d.fs.length : Int) := by omega
      obtain ⟨g, o, s1, rfl, d1, e1⟩ := (H.out wr hbel).at k hlt
      have HT : Hid (sts ((d.fs.take (k + 1)).map (·.x)) = sts ((d.fs.take k).map (·.x)) ++ [.string d.fs[k].x]) := by
        show _ = _
        rw [List.take_succ_eq_append_getElem hlt]
        simp only [sts, List.map_append, List.map_cons, List.map_nil]
      have c0 := (f_cells d1).1
      obtain ⟨x, HX⟩ := hid_ex d.fs[k].x
      rw [HX.out] at c0 HT
      clear HX d1 e1
      go_upto_region 7 with fail
      go_wp2_with (first | (at_builtin; refine wpList_append_own _ rfl _ _ 48 rfl (w.heap.size + 1) 9 i0 (.string ByteArray.empty) 1 16 Try.underlying48 hi hz0 hz1 hz2 rfl (by decide) _ _ _ rfl (hO.alloc _) ⟨wr.heap.size, 0, none⟩ 1 1 [.string x] rfl rfl (cell_one_new _ _ _) (by simp [Value.oneCell']) (by unfold maxLen; omega) (by omega) (by have := R0.lt; simp; omega) ?_; intro v2 w2 o_v2 g_v2 _))
      have hlt2 := fun j hj => (World.ownsRow.lt hO j hj).1
      have hb2 := (bel_alloc hbel (.cells #[.string x] 9)).grown g_v2 (bel_alloc hbel (.cells #[.string x] 9)).size (fun j hj => by have := hlt2 j hj; omega)
      have R2 := (R0.alloc (.cells #[.string x] 9)).grown g_v2 (fun j hj => by have := hlt2 j hj; omega)
      rw [← HT.out] at o_v2
      clear hO g_v2 R0 hbel c0 HT hlt2
      go_wp2_with fail
      go_roundw
      case rel => exact ⟨k + 1, by simp, by omega, o_v2, R2, hb2⟩
      case measure => simp [intOf]; omega
    · have hlt' : ¬ (k : Int) < (d.fs.length : Int) := by omega
      obtain rfl : k = d.fs.length := by omega
      rw [List.take_length, HZ.out] at hO
      have hzl : z.length = d.fs.length := by rw [← HZ.out, List.length_map]
      rw [← hzl] at hO
      have hT := own_sh hO
      clear hO HZ
      go_wp2_with fail
      go_ret
      exact ⟨_, rfl, hT, hbel⟩
end Go.Proofs.Ytjjncmenkepcoaa
/- The document's answer for layer 22: Crash. -/
namespace Go.Proofs.Ytjjncmenkepcoaa
open Go.RowKit

theorem run_app_fs {w : World} {B : Nat} {va vx : Value} {ys zs : List (FV × Value)} {off : Nat → Prop} (ty : TypeId) (hown : OwnF w B va ys off) (hxs : FAt w vx zs (fun b => va.ownBlock = some b ∨ off b)) (hlen : ys.length + zs.length ≤ 100000) (hbase : B ≤ w.heap.size) : ∃ v' w', (Builtin.append_ #[24, 24] ty #[va, vx]).run Try.prog w = .ok v' w' ∧ OwnF w' B v' (ys ++ zs) off ∧ w.grownBy w' va.ownBlock := by
  obtain ⟨i, hi, e⟩ := Option.map_eq_some_iff.1 infoF
  simp only [Prod.mk.injEq] at e
  have hmx : ys.length + zs.length ≤ maxLen := Nat.le_trans hlen (by decide)
  obtain ⟨hm, hl, ⟨rfl, h0⟩ | ⟨ad, c, rfl, hc, hd⟩⟩ := hxs.s
  · obtain rfl := List.length_eq_zero_iff.1 h0
    refine ⟨va, w, run_append_owned_none (P := Try.prog) (w := w) B 24 ty 57 i 3 Try.underlying24 hi va ys.length _ hown.r, ?_, World.grownBy.refl _ _⟩
    rw [List.append_nil]
    exact hown
  · have hz : ∀ j u, (rows FV.cells zs)[j]? = some u → w.cell? (ad.add j) = some u := fun j u hu => by
      have hz : 0 < zs.length := by
        rcases Nat.eq_zero_or_pos zs.length with h' | h'
        · rw [h', Nat.zero_mul] at hl
          have := (List.getElem?_eq_some_iff.1 hu).1
          omega
        · exact h'
      obtain ⟨g, o', rfl, hr⟩ := hd hz
      rw [Addr.add_mid]
      exact hr j u hu
    obtain ⟨v', w', h1, h2, h3, _, hb⟩ := Go.run_append_own_at (P := Try.prog) w B 24 ty 57 i _ 3 48 Try.underlying24 hi e.1 e.2.1 e.2.2 rfl (by decide) va ys.length _ hown.r ad zs.length c (rows FV.cells zs) hl hz (FV.ones hxs.o) hmx (by omega) hbase
    exact ⟨v', w', h1, hown.app hxs h2 h3 hb, h3⟩
theorem cell_grown {w w' : World} {row : Option Nat} {b i : Nat} {v : Value} (hg : w.grownBy w' row) (h : w.cell? ⟨b, i, none⟩ = some v) (hne : row ≠ some b) : w'.cell? ⟨b, i, none⟩ = some v := by
  have hlt : b < w.heap.size := by
    rcases Nat.lt_or_ge b w.heap.size with h' | h'
    · exact h'
    · simp [World.cell?, Array.getElem?_eq_none h'] at h
  rw [World.cell?_of_block (w := w) (hg.block b hlt (fun e => hne e.symm))]
  exact h
theorem DB.pre {w : World} {p : Option Addr} {c : Nat} {l : List UInt8} (h : DB w (.slice p l.length c) l) (n : Nat) (hn : n ≤ l.length) : DB w (.slice p n c) (l.take n) := by
  have hlt : (l.take n).length = n := by rw [List.length_take]; omega
  show SHas 1 w _ (l.take n).length _
  rw [hlt]
  obtain ⟨h4, h5, ⟨e1, e2⟩ | ⟨ad, c', e1, h6, h7⟩⟩ := h
  · simp only [Value.slice.injEq] at e1
    obtain ⟨rfl, e3, rfl⟩ := e1
    obtain rfl : n = 0 := by omega
    exact SHas.nil w 1
  · simp only [Value.slice.injEq] at e1
    obtain ⟨rfl, _, rfl⟩ := e1
    refine ⟨by omega, by rw [cel_length, hlt]; omega, .inr ⟨ad, c, rfl, ⟨by omega, h6.2⟩, fun h0 => ?_⟩⟩
    obtain ⟨g, o, rfl, hd⟩ := h7 (by omega)
    refine ⟨g, o, rfl, fun j u hu => hd j u ?_⟩
    rw [cel_take] at hu
    have hj := (List.getElem?_eq_some_iff.1 hu).1
    rw [List.length_take] at hj
    rw [List.getElem?_take_of_lt (by omega)] at hu
    exact hu
set_option maxHeartbeats 8000000 in
set_option maxRecDepth 100000 in
theorem rCrash_any (d : DV) (sl : Value) (keep : Int) (w : World) (h : FHas w sl d.fs) (hk1 : -9223372036854775808 ≤ keep) (hk2 : keep ≤ 9223372036854775807) : Calls Try.prog 30 #[DKV.of sl d, .int .i64 keep] w (DkPost (craD d keep) w) := by
  obtain ⟨z, HZ⟩ := hid_ex (craD d keep)
  rw [HZ.out]
  unfold craD at HZ
  obtain ⟨q, c, rfl⟩ := h.slice
  have hml := maxLen_lt h.max
  have H : Hid (∀ w', Below w.heap.size w w' → FHas w' (.slice q d.fs.length c) d.fs) := fun w' hb => h.later hb
  clear h
  have R0 := (rw_new w 26 #[(.slice q d.fs.length c), .int .i64 d.room, .int .i64 d.arm, .bool d.dead]).alloc (.cells #[.slice none 0 0, .int .i64 0, .int .i64 0, .bool false] 26)
  have R1 := rw_next (w.alloc (.cells #[(.slice q d.fs.length c), .int .i64 d.room, .int .i64 d.arm, .bool d.dead] 26)) (b := w.heap.size + 1) (by simp) 26 #[.slice none 0 0, .int .i64 0, .int .i64 0, .bool false]
  have hbel := bel_alloc (bel_alloc (Below.refl w.heap.size w) (.cells #[(.slice q d.fs.length c), .int .i64 d.room, .int .i64 d.arm, .bool d.dead] 26)) (.cells #[.slice none 0 0, .int .i64 0, .int .i64 0, .bool false] 26)
  generalize hW : (w.alloc (.cells #[(.slice q d.fs.length c), .int .i64 d.room, .int .i64 d.arm, .bool d.dead] 26)).alloc (.cells #[.slice none 0 0, .int .i64 0, .int .i64 0, .bool false] 26) = w0 at R0 R1 hbel
  have C1 := rCheck_any d _ w0 (H.out w0 hbel)
  obtain ⟨r1, H1⟩ := hid_ex (ckD d)
  rw [H1.out] at C1 HZ
  go_enter Try.func30, Try.ntmps30
  go_wp2_with (first | rw [hW] | refine load_r 26 _ rfl rfl _ rfl R0 Try.underlying26 rfl size26 ?_)
  clear hW
  refine C1.mono ?_
  rintro e w1 ⟨rfl, hb1⟩
  replace R0 := R0.later hb1
  replace R1 := R1.later hb1
  replace hbel := below_on hbel hb1
  clear C1 hb1
  cases r1
  · rw [if_pos rfl] at HZ
    obtain rfl := HZ.out
    have R1a := R1.row #[(.slice q d.fs.length c), .int .i64 d.room, .int .i64 d.arm, .bool d.dead]
    have hb10 := bel_row hbel (b := w.heap.size + 1) (by omega) #[(.slice q d.fs.length c), .int .i64 d.room, .int .i64 d.arm, .bool d.dead]
    have H9 := H.out _ hb10
    go_wp2_with (first | refine load_r 26 _ rfl rfl _ rfl R0 Try.underlying26 rfl size26 ?_ | refine store_r rfl 26 _ _ rfl _ _ rfl rfl R1 size26 rfl (by simp [Value.oneCell']) ?_)
    refine bodyPost_ret (results_r rfl rfl R1a rfl Try.underlying26 size26) rfl ⟨_, _, rfl, H9, hb10⟩
  rw [if_neg (by simp)] at HZ
  have hl64 : d.fs.length ≤ 64 := ((ckD_iff d).1 H1.out).2.2.2.1
  have HOK : Hid (∀ f ∈ d.fs, okO f = true) := ((ckD_iff d).1 H1.out).2.2.2.2.1
  clear H1
  go_wp2_with fail
  go_loopw [5, 6] (fun vo vi wr => ∃ (k : Nat) (ys : List (FV × Value)), vi = .int .i64 k ∧ k ≤ d.fs.length ∧ ys.length = k ∧ Hid (ys.map (·.1) = (d.fs.take k).map (crF · keep)) ∧ OwnF wr (w.heap.size + 2) vo ys (fun b => b = w.heap.size ∨ b = w.heap.size + 1) ∧ Rw wr w.heap.size 26 #[(.slice q d.fs.length c), .int .i64 d.room, .int .i64 d.arm, .bool d.dead] ∧ Rw wr (w.heap.size + 1) 26 #[.slice none 0 0, .int .i64 0, .int .i64 0, .bool false] ∧ Below w.heap.size w wr) (fun _ vi _ => d.fs.length - (intOf vi).toNat)
  case atStart => exact ⟨0, [], rfl, by omega, rfl, (show _ = _ from rfl), OwnF.nil _ _ _, R0, R1, hbel⟩
  case round =>
    clear R0 R1 hbel
    obtain ⟨k, ys, rfl, hk, hyk, HV, hO, R0, R1, hbel⟩ := hrel
    have k0 : wr.cell? ⟨w.heap.size, 0, none⟩ = some (.slice q d.fs.length c) := R0.cell 0
    by_cases hlt : k < d.fs.length
    · have hlt' : (k : Int) < (d.fs.length : Int) := by omega
      obtain ⟨g, o, s1, rfl, d00, a00⟩ := (H.out w (Below.refl _ _)).at k hlt
      have hok := HOK.out _ (List.getElem_mem hlt)
      have HTK : Hid ((d.fs.take (k + 1)).map (crF · keep) = (d.fs.take k).map (crF · keep) ++ [crF d.fs[k] keep]) := by
        show _ = _
        rw [List.take_succ_eq_append_getElem hlt, List.map_append]
        rfl
      obtain ⟨f, HF⟩ := hid_ex d.fs[k]
      rw [HF.out] at d00 a00 hok HTK
      clear HF
      obtain ⟨hkp1, hkp2, hkp3⟩ := kp_of hok keep
      obtain ⟨p1, c1, rfl⟩ := SHas.slice a00
      have hmf := maxLen_lt a00.1
      have hcap := SHas.cap a00
      have HB0 : Hid (∀ a n' c', Value.slice p1 f.d.length c1 = .slice (some a) n' c' → 0 < n' → a.block < w.heap.size) := fun a n' c' e hn' => SHas.block (by decide) a00 e hn'
      have d0 := range_later d00 hbel
      have HA0 : Hid (∀ w', Below w.heap.size w w' → DB w' (.slice p1 f.d.length c1) f.d) := fun w' hb => SHas.later a00 hb
      obtain ⟨n, HN⟩ : ∃ n : Nat, Hid (kpN f keep = (n : Int)) := ⟨(kpN f keep).toNat, show _ = _ by omega⟩
      have hok2 : 0 ≤ f.k ∧ f.k ≤ f.d.length := by
        simp only [okO, Bool.and_eq_true, decide_eq_true_eq] at hok
        exact hok.2
      have HCF : Hid (crF f keep = ⟨f.x, f.d.take n, (n : Int)⟩) := by
        show _ = _
        unfold crF
        rw [HN.out]
        rfl
      rw [HN.out] at hkp1 hkp2 hkp3
      have hkn : f.k + max 0 (min keep ((f.d.length : Int) - f.k)) = (n : Int) := HN.out
      have ew1 : IntKind.i64.wrap ((f.d.length : Int) - f.k) = (f.d.length : Int) - f.k := by rw [IntKind.wrap_i64]; omega
      obtain ⟨m, HM⟩ := hid_ex (max 0 (min keep ((f.d.length : Int) - f.k)))
      rw [HM.out] at hkn
      have ew2 : IntKind.i64.wrap (f.k + m) = (n : Int) := by rw [hkn, IntKind.wrap_i64]; omega
      have zf : (Try.prog.info? 57).map (·.size) = some [Value.string f.x, .slice p1 f.d.length c1, .int .i64 f.k].length := sizeF
      have hfo0 : u5.ownBlock ≠ some wr.heap.size := fun e => by have := (hO.block e).2; omega
      have RB := rw_new wr 57 #[.string f.x, .slice p1 f.d.length c1, .int .i64 f.k]
      have hba := bel_alloc (Below.refl wr.heap.size wr) (.cells #[.string f.x, .slice p1 f.d.length c1, .int .i64 f.k] 57)
      have hwz : w.heap.size + 1 < wr.heap.size := R1.lt
      have R0x := R0
      replace R0 := R0.later hba
      replace R1 := R1.later hba
      replace hO := hO.later hba
      replace hbel := below_on hbel hba
      generalize hWB : wr.alloc (.cells #[.string f.x, .slice p1 f.d.length c1, .int .i64 f.k] 57) = w1 at RB R0 R1 hO hbel
      have f0 : w1.cell? ⟨wr.heap.size, 0, none⟩ = some (.string f.x) := RB.cell 0
      have f1 : w1.cell? ⟨wr.heap.size, 1, none⟩ = some (.slice p1 f.d.length c1) := RB.cell 1
      have f2 : w1.cell? ⟨wr.heap.size, 2, none⟩ = some (.int .i64 f.k) := RB.cell 2
      have an := DB.pre (HA0.out w1 hbel) n (by omega)
      clear d00 a00 hok HN hkn R0x
      go_upto_region 8 with (first | rw [hWB] | refine load_m 57 _ rfl rfl _ _ rfl d0 Try.underlying57 rfl zf ?_)
      clear hWB zf d0
      go_cut [8] from 26 to 34 (fun v wx => v = .int .i64 m ∧ wx = w1)
      case first =>
        by_cases hL : (f.d.length : Int) - f.k < keep
        · by_cases hz : 0 < (f.d.length : Int) - f.k
          · go_wp2_with fail
            go_meet
            case rel => exact ⟨by rw [show m = (f.d.length : Int) - f.k from by rw [← HM.out]; omega], rfl⟩
          · go_wp2_with fail
            go_meet
            case rel => exact ⟨by rw [show m = 0 from by rw [← HM.out]; omega], rfl⟩
        · by_cases hz : 0 < keep
          · go_wp2_with fail
            go_meet
            case rel => exact ⟨by rw [show m = keep from by rw [← HM.out]; omega], rfl⟩
          · go_wp2_with fail
            go_meet
            case rel => exact ⟨by rw [show m = 0 from by rw [← HM.out]; omega], rfl⟩
      case rest =>
        obtain ⟨rfl, hwx⟩ := hcut
        subst hwx
        clear HM ew1
        have hn0 : (0 : Int) ≤ (n : Int) := by omega
        have hnc : (n : Int) ≤ (c1 : Int) := by omega
        go_wp2_with fail
        have hS : wc.drew.cell? ⟨wr.heap.size, 0, none⟩ = some (.string f.x) ∧ wc.drew.cell? ⟨wr.heap.size, 1, none⟩ = some (.slice p1 f.d.length c1) := ⟨f0, f1⟩
        have hB : Below w.heap.size w wc.drew := hbel.drew
        have HV2 : Hid ((ys ++ [((⟨f.x, f.d.take n, (n : Int)⟩ : FV), Value.slice p1 n c1)]).map (·.1) = (d.fs.take (k + 1)).map (crF · keep)) := by
          show _ = _
          rw [HTK.out, List.map_append, HV.out, HCF.out]
          rfl
        have HB1 : Hid (∀ a n' c', Value.slice p1 n c1 = .slice (some a) n' c' → 0 < n' → a.block < w.heap.size) := fun a n' c' e hn' => by
          simp only [Value.slice.injEq] at e
          obtain ⟨rfl, rfl, rfl⟩ := e
          exact HB0.out a f.d.length c1 rfl (by omega)
        clear HV HTK HCF HB0 HA0 HOK ew2
        replace hO := hO.later (Below.refl _ _).drew
        replace R0 := R0.drew
        replace R1 := R1.drew
        replace an := SHas.drew an
        refine HeldI.region (fun w' : World => w'.cell? ⟨wr.heap.size, 0, none⟩ = some (.string f.x) ∧ w'.cell? ⟨wr.heap.size, 1, none⟩ = some (.slice p1 f.d.length c1)) (by kernel_rfl) ?_
        generalize wc.drew = wd at hS hB hO R0 R1 an ⊢
        refine HeldI.pu 0 hS ?_
        refine HeldI.pu 1 hS ?_
        refine HeldI.ce 2 (fun _ h => h.1) hS ?_
        refine HeldI.pu 3 hS ?_
        refine HeldI.ce 4 (fun _ h => h.2) hS ?_
        refine HeldI.pu 5 hS ?_
        refine HeldI.pu (v := (Value.slice p1 n c1)) 6 hS ?_
        refine HeldI.pu 7 hS ?_
        refine HeldI.pu 8 hS ?_
        have XO := one_file ⟨f.x, f.d.take n, (n : Int)⟩ (Value.slice p1 n c1) (fun b => u5.ownBlock = some b ∨ (fun b => b = w.heap.size ∨ b = w.heap.size + 1) b) (b := wd.heap.size) rfl an (fun q hq => by
          have h3 := R1.lt
          rcases hq with hq | hq
          · have h1 := hO.block hq
            exact ⟨fun a n' c' e hn' => by have h2 := HB1.out a n' c' e hn'; omega, by omega⟩
          · exact ⟨fun a n' c' e hn' => by have h2 := HB1.out a n' c' e hn'; rcases hq with hq | hq <;> omega, by rcases hq with hq | hq <;> omega⟩)
        have BO := build_file f.x (Value.slice p1 n c1) (n : Int) rfl wd
        have hb5 := bel_alloc (Below.refl wd.heap.size wd) (.cells (FV.cells (⟨f.x, f.d.take n, (n : Int)⟩, (Value.slice p1 n c1))).toArray 57)
        have hS5 := And.intro (cell_later hb5 hS.1) (cell_later hb5 hS.2)
        have PO5 := hO.later hb5
        have R05 := R0.later hb5
        have R15 := R1.later hb5
        have hbel5 := below_on hB hb5
        refine HeldI.vl (w1 := wd.alloc (.cells (FV.cells (⟨f.x, f.d.take n, (n : Int)⟩, (Value.slice p1 n c1))).toArray 57)) (v := .slice (some ⟨wd.heap.size, 0, none⟩) 1 1) 9 ?hv hS5 ?_
        case hv =>
          unfold execOp
          simp only [List.map_toArray, List.map_cons, List.map_nil, Sem.run_bind]
          first | (rw [show (Instr.buildSlice 24 1 #[(0, FLV f.x (Value.slice p1 n c1) (n : Int))]).run Try.prog wd = _ from BO]; rfl) | (go_simp)
        have hfo : u5.ownBlock ≠ some wr.heap.size := hfo0
        have hlen5 : ys.length + [((⟨f.x, f.d.take n, (n : Int)⟩ : FV), ((Value.slice p1 n c1) : Value))].length ≤ 100000 := by
          show ys.length + 1 ≤ _
          omega
        have hsz5 : w.heap.size + 2 ≤ (wd.alloc (.cells (FV.cells (⟨f.x, f.d.take n, (n : Int)⟩, (Value.slice p1 n c1))).toArray 57)).heap.size := by have := R15.lt; omega
        obtain ⟨v7, w7, hrun, hO7, hg7⟩ := run_app_fs 24 PO5 XO hlen5 hsz5
        have hbl : ∀ k', u5.ownBlock = some k' → w.heap.size + 2 ≤ k' := fun k' hk' => (PO5.block hk').1
        have Q0 := R05.grown hg7 (fun k' hk' => by have := hbl k' hk'; omega)
        have Q1 := R15.grown hg7 (fun k' hk' => by have := hbl k' hk'; omega)
        have Qb : Below w.heap.size w w7 := hbel5.grown hg7 hbel5.size (fun k' hk' => by have := hbl k' hk'; omega)
        have hS7 := And.intro (cell_grown hg7 hS5.1 hfo) (cell_grown hg7 hS5.2 hfo)
        refine HeldI.ap 10 hrun hS7 ?_
        refine HeldI.pu 11 hS7 ?_
        refine HeldI.dn ?_
        clear PO5 XO BO R05 R15 hb5 hbel5 hg7 hbl hS hS5 hS7 hrun hB hO R0 R1
        go_wp2_with fail
        go_roundw
        case rel => exact ⟨k + 1, ys ++ [(⟨f.x, f.d.take n, (n : Int)⟩, (Value.slice p1 n c1))], by simp, by omega, by rw [List.length_append]; show ys.length + 1 = _; omega, HV2, hO7, Q0, Q1, Qb⟩
        case measure => simp [intOf]; omega
    · have hlt' : ¬ (k : Int) < (d.fs.length : Int) := by omega
      rw [List.take_of_length_le (by omega)] at HV
      obtain rfl := HZ.out
      have HYL : Hid (ys.length = (d.fs.map (crF · keep)).length) := by
        show _ = _
        rw [← HV.out, List.length_map]
      obtain ⟨p9, c9, rfl⟩ := own_sl hO.r
      rw [HYL.out] at hO ⊢
      have k1 : wr.cell? ⟨w.heap.size, 1, none⟩ = some (.int .i64 d.room) := R0.cell 1
      have F0 := hO.fatO (fun b hb => by rcases hb with hb | hb <;> omega)
      have F2 := (F0.grown (grown_row wr (w.heap.size + 1) #[.slice p9 (d.fs.map (crF · keep)).length c9, .int .i64 d.room, .int .i64 (-1), .bool false]) (fun b hb => .inr (by simp only [Option.some.injEq] at hb; exact hb.symm))).has
      rw [HV.out] at F2
      have R2a := R1.row #[.slice p9 (d.fs.map (crF · keep)).length c9, .int .i64 d.room, .int .i64 (-1), .bool false]
      have hb10 := bel_row hbel (b := w.heap.size + 1) (by omega) #[.slice p9 (d.fs.map (crF · keep)).length c9, .int .i64 d.room, .int .i64 (-1), .bool false]
      clear F0 hO R0 hbel HZ HV
      have HLM : Hid ((d.fs.map (crF · keep)).length = d.fs.length) := by show _ = _; rw [List.length_map]
      obtain ⟨fs2, HFS⟩ := hid_ex (d.fs.map (crF · keep))
      rw [HFS.out] at F2 R2a hb10 ⊢
      clear HYL HLM
      go_wp2_with (first | refine store_r rfl 26 _ _ rfl _ _ rfl rfl R1 size26 rfl (by simp [Value.oneCell']) ?_)
      refine bodyPost_ret (results_r rfl rfl R2a rfl Try.underlying26 size26) rfl ⟨p9, c9, ?_, ?_, hb10⟩
      · show _ = Ending.returned (DKV (.slice p9 (d.fs.map (crF · keep)).length c9) d.room (-1) false)
        rw [HFS.out]
      · show FHas _ (.slice p9 (d.fs.map (crF · keep)).length c9) (d.fs.map (crF · keep))
        rw [HFS.out]
        exact F2
end Go.Proofs.Ytjjncmenkepcoaa
/- What the program's calls of layer 22 answer, as premises of the laws; disks in boxes. -/
namespace Go.Proofs.Ytjjncmenkepcoaa
open Go.RowKit

/-- A disk that is not great: few files, few bytes, numbers of a machine. -/
structure Tm (d : DV) : Prop where
  n : d.fs.length ≤ 80
  u : us d.fs ≤ 1048576
  r1 : -9223372036854775808 ≤ d.room
  r2 : d.room ≤ 9223372036854775807
  a1 : -9223372036854775808 ≤ d.arm
  a2 : d.arm ≤ 9223372036854775807
structure Prk : Prop where
  new : ∀ (n : Int) (w : World), -9223372036854775808 ≤ n → n ≤ 9223372036854775807 → Calls Try.prog 7 #[.int .i64 n] w (DEPost (newD n) w)
  arm : ∀ (d : DV) (sl : Value) (n : Int) (w : World), FHas w sl d.fs → Tm d → -9223372036854775808 ≤ n → n ≤ 9223372036854775807 → Calls Try.prog 8 #[DKV.of sl d, .int .i64 n] w (DEPost (armD d n) w)
  put : ∀ (d : DV) (sl : Value) (x : ByteArray) (b : List UInt8) (u : Value) (w : World), FHas w sl d.fs → Tm d → x.size ≤ 100 → DB w u b → b.length ≤ 6000 → Calls Try.prog 9 #[DKV.of sl d, .string x, u] w (DEPost (putD d x b) w)
  read : ∀ (d : DV) (sl : Value) (x : ByteArray) (w : World), FHas w sl d.fs → Tm d → x.size ≤ 100 → Calls Try.prog 10 #[DKV.of sl d, .string x] w (RePost (reaD d x) w)
  crash : ∀ (d : DV) (sl : Value) (n : Int) (w : World), FHas w sl d.fs → Tm d → -9223372036854775808 ≤ n → n ≤ 9223372036854775807 → Calls Try.prog 11 #[DKV.of sl d, .int .i64 n] w (DkPost (craD d n) w)
  app : ∀ (d : DV) (sl : Value) (x : ByteArray) (b : List UInt8) (u : Value) (w : World), FHas w sl d.fs → Tm d → x.size ≤ 100 → DB w u b → b.length ≤ 6000 → Calls Try.prog 14 #[DKV.of sl d, .string x, u] w (DEPost (appD d x b) w)
  sync : ∀ (d : DV) (sl : Value) (x : ByteArray) (w : World), FHas w sl d.fs → Tm d → x.size ≤ 100 → Calls Try.prog 17 #[DKV.of sl d, .string x] w (DEPost (synD d x) w)
  drop : ∀ (d : DV) (sl : Value) (x : ByteArray) (w : World), FHas w sl d.fs → Tm d → x.size ≤ 100 → Calls Try.prog 19 #[DKV.of sl d, .string x] w (DEPost (droD d x) w)
  check : ∀ (d : DV) (sl : Value) (w : World), FHas w sl d.fs → Tm d → Calls Try.prog 25 #[DKV.of sl d] w (Tells (.bool (ckD d)) w)
  names : ∀ (d : DV) (sl : Value) (w : World), FHas w sl d.fs → Tm d → Calls Try.prog 28 #[DKV.of sl d] w (NmPost (namD d) w)
/-- A box that holds a disk. -/
structure Bx (w : World) (b : Nat) (p : Option Addr) (c : Nat) (d : DV) : Prop where
  r : Rw w b 26 #[.slice p d.fs.length c, .int .i64 d.room, .int .i64 d.arm, .bool d.dead]
  f : FHas w (.slice p d.fs.length c) d.fs
abbrev dkc (p : Option Addr) (c : Nat) (d : DV) : Array Value := #[.slice p d.fs.length c, .int .i64 d.room, .int .i64 d.arm, .bool d.dead]
section
variable {w w' : World} {b b2 c c2 : Nat} {p p2 : Option Addr} {d d2 : DV}
theorem Bx.later (h : Bx w b p c d) (hb : Below w.heap.size w w') : Bx w' b p c d := ⟨h.r.later hb, h.f.later hb⟩
theorem Bx.drew (h : Bx w b p c d) : Bx w.drew b p c d := ⟨h.r, h.f.later (Below.refl _ _).drew⟩
theorem Bx.lt (h : Bx w b p c d) : b < w.heap.size := h.r.lt
theorem Bx.has (h : Bx w b p c d) : DHas w (DKV.of (.slice p d.fs.length c) d) d := ⟨_, rfl, h.f⟩
theorem Bx.range (h : Bx w b p c d) : w.rangeAt b 0 [.slice p d.fs.length c, .int .i64 d.room, .int .i64 d.arm, .bool d.dead] := fun j v hv => (h.r.cell (0 + j)).trans (by simpa using hv)
/-- Another box is written. -/
theorem Bx.other (h : Bx w b p c d) (h2 : Bx w b2 p2 c2 d2) (hne : b ≠ b2) (cs : Array Value) : Bx (w.setRow b2 cs) b p c d := ⟨h.r.rowOther hne cs, h.f.row h2.r cs⟩
/-- It is written. -/
theorem Bx.put (h : Bx w b p c d) (hf : FHas w (.slice p2 d2.fs.length c2) d2.fs) : Bx (w.setRow b (dkc p2 c2 d2)) b p2 c2 d2 := ⟨h.r.row _, hf.row h.r _⟩
/-- A new one. -/
theorem Bx.new (hf : FHas w (.slice p d.fs.length c) d.fs) : Bx (w.alloc (.cells (dkc p c d) 26)) w.heap.size p c d := ⟨rw_new w 26 _, hf.later (bel_alloc (Below.refl _ _) _)⟩
end
end Go.Proofs.Ytjjncmenkepcoaa
