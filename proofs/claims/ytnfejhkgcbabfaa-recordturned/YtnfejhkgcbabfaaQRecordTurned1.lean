import Derived.Test.YtnfejhkgcbabfaaP6
/- RecordTurned's law over the program's calls. -/
namespace Go.Proofs.Ytnfejhkgcbabfaa
open Go.RowKit

theorem bits_xor_u8 (a b : UInt8) : bits .xor .u8 (a.toNat : Int) (b.toNat : Int) = ((a ^^^ b).toNat : Int) := by
  have ha := a.toNat_lt
  have hb := b.toNat_lt
  have hx : a.toNat ^^^ b.toNat < 2 ^ 8 := Nat.xor_lt_two_pow (by omega) (by omega)
  have e : ∀ n : Nat, n < 256 → (BitVec.ofInt 8 (n : Int)).toNat = n := fun n h => by
    rw [BitVec.ofInt_natCast, BitVec.toNat_ofNat]; exact Nat.mod_eq_of_lt (by omega)
  show IntKind.u8.wrap ((BitVec.ofInt 8 (a.toNat : Int) ^^^ BitVec.ofInt 8 (b.toNat : Int)).toNat : Int) = _
  rw [BitVec.toNat_xor, e _ ha, e _ hb, IntKind.wrap_u8, UInt8.toNat_xor]
  omega
/-- What a call owns, where there is a byte. -/
theorem own_some {w : World} {B : Nat} {v : Value} {l : List UInt8} (h : w.ownsRow B 5 1 v l.length (cel l)) (hl : 0 < l.length) : ∃ g cap, v = .slice (some ⟨g, 0, none⟩) l.length cap ∧ B ≤ g ∧ l.length ≤ cap ∧ cap ≤ maxLen := by
  rcases h.2 with ⟨_, h0⟩ | ⟨g, cap, cur, rfl, hbg, _, hnc, hcm, _, _⟩
  · omega
  · exact ⟨g, cap, rfl, hbg, hnc, hcm⟩
/-- A byte of it is written. -/
theorem own_set {w : World} {B g cap : Nat} {l : List UInt8} (h : w.ownsRow B 5 1 (.slice (some ⟨g, 0, none⟩) l.length cap) l.length (cel l)) (j : Nat) (x : UInt8) :
    (w.setCell ⟨g, j, none⟩ (.int .u8 x.toNat)).ownsRow B 5 1 (.slice (some ⟨g, 0, none⟩) (l.set j x).length cap) (l.set j x).length (cel (l.set j x)) := by
  have hs := h.stored j (.int .u8 x.toNat)
  have e : cel (l.set j x) = (cel l).set j (.int .u8 x.toNat) := by simp [cel, List.map_set]
  rw [e, List.length_set]
  exact hs.1
theorem own_cell {w : World} {B g cap : Nat} {l : List UInt8} (h : w.ownsRow B 5 1 (.slice (some ⟨g, 0, none⟩) l.length cap) l.length (cel l)) (j : Nat) (hj : j < l.length) : w.cell? ⟨g, j, none⟩ = some (.int .u8 (l.getD j 0).toNat) := by
  rw [h.cellAt j (by omega)]
  simp [cel, List.getElem?_eq_getElem hj]
set_option maxHeartbeats 16000000 in
set_option maxRecDepth 100000 in
theorem rturned_law (K : Prr) (KH : ∀ w : World, Calls Try.prog 8 #[] w (Tells (.bool true) w)) (l : List (List UInt8)) (n1 n2 : Int) (y : UInt8) (u : Value) (w : World) (hu : BHas w u l) (hn1 : n1 ≤ 9223372036854775807) (hn2 : n2 ≤ 9223372036854775807) : Calls Try.prog 6 #[u, .int .i64 n1, .int .i64 n2, .int .u8 y.toNat] w (Tells (.bool true) w) := by
  have hm1 := maxLen_lt hu.max
  obtain ⟨p, c, rfl⟩ := hu.slice
  have hcap : l.length ≤ c := by obtain ⟨ys, h1, h2, _⟩ := hu; exact h2.cap.1
  have HU : Hid (∀ w', Below w.heap.size w w' → BHas w' (.slice p l.length c) l) := fun w' hb => hu.later hb
  have CF := rFew23_any _ l w hu
  obtain ⟨z, HZ⟩ := hid_ex (fewR l)
  rw [HZ.out] at CF
  clear hu
  go_enter Try.func6, Try.ntmps6
  go_wp2_with fail
  refine CF.mono ?_
  rintro e w1 ⟨rfl, hb1⟩
  clear CF
  cases z
  · go_wp2_with fail
    refine (KH w1).mono ?_
    rintro e w2 ⟨rfl, hb2⟩
    go_wp2_with fail
    go_ret
    exact ⟨rfl, below_on hb1 hb2⟩
  by_cases hl0 : l.length = 0
  · have hl0' : ((l.length : Int) == 0) = true := by simp [hl0]
    go_wp2_with fail
    refine (KH w1).mono ?_
    rintro e w2 ⟨rfl, hb2⟩
    go_wp2_with fail
    go_ret
    exact ⟨rfl, below_on hb1 hb2⟩
  have hlp : 0 < l.length := Nat.pos_of_ne_zero hl0
  have hl0' : ((l.length : Int) == 0) = false := by
    rw [beq_eq_false_iff_ne]
    omega
  by_cases h1 : n1 < 0
  · clear hl0 hlp
    go_wp2_with fail
    refine (KH w1).mono ?_
    rintro e w2 ⟨rfl, hb2⟩
    go_wp2_with fail
    go_ret
    exact ⟨rfl, below_on hb1 hb2⟩
  by_cases h2 : n2 < 0
  · clear hl0 hlp
    go_wp2_with fail
    refine (KH w1).mono ?_
    rintro e w2 ⟨rfl, hb2⟩
    go_wp2_with fail
    go_ret
    exact ⟨rfl, below_on hb1 hb2⟩
  by_cases hy : y = 0
  · have hy' : ((y.toNat : Int) == 0) = true := by simp [hy]
    clear hl0 hlp hy
    go_wp2_with fail
    refine (KH w1).mono ?_
    rintro e w2 ⟨rfl, hb2⟩
    go_wp2_with fail
    go_ret
    exact ⟨rfl, below_on hb1 hb2⟩
  have hy' : ((y.toNat : Int) == 0) = false := by
    rw [beq_eq_false_iff_ne]
    intro h
    exact hy (by
      have h0 : y.toNat = 0 := by omega
      have : y = UInt8.ofNat y.toNat := by simp
      rw [this, h0]
      rfl)
  have HY : Hid (y ≠ 0) := hy
  clear hy hl0
  obtain ⟨t1, rfl⟩ : ∃ t : Nat, n1 = t := ⟨n1.toNat, by omega⟩
  obtain ⟨t2, rfl⟩ : ∃ t : Nat, n2 = t := ⟨n2.toNat, by omega⟩
  go_wp2_with fail
  refine (laid_any K l _ w1 (HU.out _ hb1) HZ.out).mono ?_
  rintro e w2 ⟨u2, v2, rfl, d2, i2, hb2⟩
  replace hb2 := below_on hb1 hb2
  have HT0 : Hid (∀ (k : Nat) (hk : k < l.length) (j : Nat), j < l[k].length + 4 → scanR ((recs l).set ((recs (l.take k)).length + 4 + j) ((recs l).getD ((recs (l.take k)).length + 4 + j) 0 ^^^ y)) = (l.take k, (recs (l.take k)).length)) := fun k hk j hj => scan_turned (fun x hx => by have := few_each HZ.out x hx; omega) hk hj HY.out
  have HFE : Hid (∀ x ∈ l, x.length ≤ 6000) := few_each HZ.out
  have HFR : Hid (∀ k, (recs (l.take k)).length ≤ 6320) := few_recs HZ.out
  have hr := few_recs HZ.out l.length
  rw [List.take_length] at hr
  obtain ⟨R, HR⟩ := hid_ex (recs l)
  have HT := HT0.out
  rw [HR.out] at HT hr d2
  clear HT0
  have hkl : t1 % l.length < l.length := Nat.mod_lt _ hlp
  have ec : (t1 : Int) % (l.length : Int) = ((t1 % l.length : Nat) : Int) := by push_cast; rfl
  obtain ⟨p3, c3, rfl⟩ := SHas.slice i2
  obtain ⟨p2, c2, rfl⟩ := SHas.slice d2
  clear hb1 HZ h1 h2 hn1 hn2 HY
  go_upto_region 7 with fail
  try rw [ec]
  generalize t1 % l.length = k at hkl
  clear ec
  obtain ⟨ge, oe, rfl, hd⟩ := SHas.at i2 (by omega)
  have e1 : w2.cell? ⟨ge, oe + k, none⟩ = some (.int .i64 ((recs (l.take (k + 1))).length : Nat)) := hd k _ (by simp [vals, ends_at hkl])
  clear hd i2
  obtain ⟨g, o, s1, rfl, e2, f2⟩ := (HU.out w2 hb2).at k hkl
  have hx6 := HFE.out _ (List.getElem_mem hkl)
  have hT := HT k hkl
  have hE : (recs (l.take (k + 1))).length = (recs (l.take k)).length + (l[k].length + 8) := by
    rw [List.take_succ_eq_append_getElem hkl, recs_append, List.length_append]
    simp only [recs_cons, recs_nil, List.append_nil, recB_length]
  have hAR : (recs (l.take k)).length + (l[k].length + 8) ≤ (recs l).length := by
    rw [← hE]
    conv => rhs; rw [← List.take_append_drop (k + 1) l, recs_append, List.length_append]
    omega
  obtain ⟨x, HX⟩ := hid_ex l[k]
  rw [HX.out] at f2 hx6 hE hT hAR
  obtain ⟨px, cx, rfl⟩ := SHas.slice f2
  obtain ⟨E2, HE2⟩ := hid_ex (recs (l.take (k + 1))).length
  obtain ⟨A, HA⟩ := hid_ex (recs (l.take k)).length
  rw [HE2.out] at e1 hE
  rw [HA.out] at hE hT hAR
  rw [HR.out] at hAR
  have HTT : Hid (∀ j, j < x.length + 4 → scanR (R.set (A + 4 + j) (R.getD (A + 4 + j) 0 ^^^ y)) = (l.take k, A)) := hT
  have HEE : Hid (E2 = A + (x.length + 8)) := hE
  clear hT hE HT HFE HFR HX HE2 HA HR f2
  refine Calm.region (by kernel_rfl) (by kernel_rfl) (fun w' : World => w'.cell? ⟨ge, oe + k, none⟩ = some (.int .i64 (E2 : Nat)) ∧ w'.cell? ⟨g, o + k, none⟩ = some (.slice px x.length cx) ∧ Below w2.heap.size w2 w') ⟨e1, e2, (Below.refl _ _).drew⟩ ?_
  iterate 3 (refine Calm.pu ?_)
  refine Calm.ce (fun _ h => h.1) ?_
  iterate 3 (refine Calm.pu ?_)
  refine Calm.ce (fun _ h => h.2.1) ?_
  iterate 4 (refine Calm.pu ?_)
  intro w6 hS6
  have e26 := hS6.2.1
  have hb6 := hS6.2.2
  have HU6 := below_on hb2 hb6
  replace d2 := SHas.later d2 hb6
  clear hS6 e1 e2 hb6 hb2
  obtain ⟨G, HG⟩ := hid_ex (A + 8)
  obtain ⟨F, HF⟩ := hid_ex (A + 4)
  have HGF : Hid (G = F + 4) := (show G = F + 4 by rw [← HG.out, ← HF.out])
  have hF4 : ¬ (F : Int) < 4 := by have := HF.out; omega
  have hFR : F + (x.length + 4) ≤ R.length := by have := HF.out; omega
  have q1 : IntKind.i64.wrap ((E2 : Int) - (x.length : Int)) = (G : Int) := by rw [HEE.out, ← HG.out, IntKind.wrap_i64]; omega
  have hGm : (G : Int) ≤ 100000 := by have := HG.out; omega
  have q2 : IntKind.i64.wrap ((G : Int) - 4) = (F : Int) := by rw [HGF.out, IntKind.wrap_i64]; omega
  clear hAR
  go_upto_region 10 with fail
  have hba := bel_alloc (Below.refl w6.heap.size w6) (.cells #[] 5)
  have OE := own_empty w6 w6.heap.size (Nat.le_refl _)
  have d2e := SHas.later d2 hba
  go_wp2_with (at_builtin; refine append_db (l := []) rfl _ _ rfl rfl rfl OE d2e (by show 0 + _ ≤ _; omega) hba.size ?_)
  intro v7 w7 O7 hg7
  have hb7 : Below w6.heap.size w6 w7 := hba.grown hg7 hba.size (fun k' hk' => own_block OE k' hk')
  replace O7 : w7.ownsRow w6.heap.size 5 1 v7 R.length (cel R) := O7
  have e27 := cell_later hb7 e26
  have HB7 := below_on HU6 hb7
  clear OE d2e hg7 hba d2 e26 hb7 q1 q2
  obtain ⟨gc, cc, rfl, hBg, hcc, hcm⟩ := own_some O7 (by omega)
  unfold maxLen at hcm
  obtain ⟨J, HJ⟩ := hid_ex (t2 % (x.length + 4))
  have hJ : J < x.length + 4 := by rw [← HJ.out]; exact Nat.mod_lt _ (by omega)
  have q4 : (t2 : Int) % ((x.length : Int) + 4) = (J : Int) := by rw [← HJ.out]; push_cast; rfl
  go_upto_region 12 with fail
  rw [show (F : Int) + (J : Int) = ((F + J : Nat) : Int) from by push_cast; rfl]
  have hIR : F + J < R.length := by omega
  have HS0 : Hid (scanR (R.set (F + J) (R.getD (F + J) 0 ^^^ y)) = (l.take k, A)) := by
    show _ = _
    have := HTT.out J hJ
    rw [HF.out] at this
    exact this
  have HFA : Hid (F = A + 4) := HF.out.symm
  have hc := own_cell O7 (F + J) hIR
  have hf := O7.frozenAt (F + J)
  have hx := bits_xor_u8 (R.getD (F + J) 0) y
  have hI2 : ¬ (R.length : Int) ≤ ((F + J : Nat) : Int) := by omega
  generalize F + J = I at hIR HS0 hc hf hx hI2
  generalize hZ : R.getD I 0 = z at HS0 hc hx
  have O8 := own_set O7 I (z ^^^ y)
  have g8 := (O7.stored I (.int .u8 (z ^^^ y).toNat)).2
  have hb8 : Below w.heap.size w (w7.setCell ⟨gc, I, none⟩ (.int .u8 (z ^^^ y).toNat)) := HB7.grown g8 HB7.size (fun q hq => by
    simp only [Option.some.injEq] at hq
    have := HU6.size
    omega)
  have hdb := own_db O8
  have hln : (R.set I (z ^^^ y)).length = R.length := List.length_set
  obtain ⟨R8, HR8⟩ := hid_ex (R.set I (z ^^^ y))
  rw [HR8.out] at hdb hln HS0
  rw [hln] at hdb
  have CS := K.scan R8 (.slice (some ⟨gc, 0, none⟩) R.length cc) (w7.setCell ⟨gc, I, none⟩ (.int .u8 (z ^^^ y).toNat)) hdb (by omega)
  rw [HS0.out] at CS
  generalize z ^^^ y = zy at CS hb8 hx
  generalize hW8 : w7.setCell ⟨gc, I, none⟩ (.int .u8 zy.toNat) = w8 at CS hb8
  clear hZ hln HR8 hdb O8 g8 O7 HS0 HJ q4 HTT HG HGF hGm e27 HB7 HU6 hBg HEE HF
  have hIc : I < cc := by omega
  go_wp2_with (rw [hW8])
  refine CS.mono ?_
  rintro e w9 ⟨u9, rfl, d9, hb9⟩
  replace hb9 := below_on hb8 hb9
  have hlw := (HU.out w9 hb9).take (m := k) (by omega)
  have CL := rLists_any _ _ _ w9 d9 hlw
  have hkc : k ≤ c := by omega
  have q6 : IntKind.i64.wrap ((F : Int) - 4) = (A : Int) := by have := HFA.out; rw [IntKind.wrap_i64]; omega
  clear CS d9 hlw HU hb8 hc hf hx hW8
  go_wp2_with fail
  refine CL.mono ?_
  rintro e w10 ⟨rfl, hb10⟩
  replace hb10 := below_on hb9 hb10
  clear CL hb9
  go_wp2_with fail
  refine (KH w10).mono ?_
  rintro e w11 ⟨rfl, hb11⟩
  go_wp2_with fail
  go_ret
  exact ⟨rfl, below_on hb10 hb11⟩
theorem rturned_int (K : Prr) (KH : ∀ w : World, Calls Try.prog 8 #[] w (Tells (.bool true) w)) (l : List (List UInt8)) (n1 n2 n3 : Int) (u : Value) (w : World) (hu : BHas w u l) (hn1 : n1 ≤ 9223372036854775807) (hn2 : n2 ≤ 9223372036854775807) (h0 : 0 ≤ n3) (h255 : n3 ≤ 255) : Calls Try.prog 6 #[u, .int .i64 n1, .int .i64 n2, .int .u8 n3] w (Tells (.bool true) w) := by
  have := rturned_law K KH l n1 n2 n3.toNat.toUInt8 u w hu hn1 hn2
  have e : ((n3.toNat.toUInt8).toNat : Int) = n3 := by simp; omega
  rwa [e] at this
end Go.Proofs.Ytnfejhkgcbabfaa
