/- Apply, Live and Epoch of the document's roster. -/
import Derived.Test.YtefpdcpcjfjblaaRwi
import Derived.Test.YtefpdcpcjfjblaaApl
import Derived.Test.YtefpdcpcjfjblaaRefTxs
namespace Go.Proofs.Ytefpdcpcjfjblaa
open Go.RowKit Go.Sort

theorem ck_upL {l m : List Int} (h : ckI l = true) (hm : ∀ x ∈ m, 1 ≤ x ∧ x ≤ 12) : ckI (upL l m) = true := by
  obtain ⟨h1, h2⟩ := (ckI_up l).1 h
  refine (ckI_up _).2 ⟨up_upL _ _ h1, fun x hx => ?_⟩
  rcases (mem_upL x m l).1 hx with e | e
  · exact h2 x e
  · exact hm x e
theorem ck_nms {p s : Int} {v : List Int} {t : Int} {l : List O} (h : ct p s v t l = true) (a : Int) (k : Nat) : ∀ x ∈ nms a (l.take k), 1 ≤ x ∧ x ≤ 12 := fun x hx => by
  obtain ⟨o, ho, h1, _, rfl⟩ := mem_nms hx
  exact (ct_op h o (List.mem_of_mem_take ho) h1).2
set_option maxHeartbeats 4000000 in
set_option maxRecDepth 100000 in
theorem refApply_any (a b : List Int) (va vb : Value) (p s : Int) (v : List Int) (t : Int) (sl : Value) (l : List O) (w : World) (ha : IHas w va a) (hb : IHas w vb b) (hv : v.length = 13) (ho : OHas w sl l) :
    Calls Try.prog 13 #[va, vb, TxV p s v t sl] w (ApPost (apJ a b p s v t l) (apL a b p s v t l) w) := by
  obtain ⟨q, c, hq, hm, hr⟩ := ho
  subst hq
  have ho : OHas w (.slice q l.length c) l := ⟨q, c, rfl, hm, hr⟩
  have R0 := rw_new w 34 (txc p s v t (.slice q l.length c)).toArray
  have hbel : Below w.heap.size w (w.alloc (.cells (txc p s v t (.slice q l.length c)).toArray 34)) := bel_alloc (Below.refl _ _) _
  generalize hW : w.alloc (.cells (txc p s v t (.slice q l.length c)).toArray 34) = w0 at R0 hbel
  have C0 := refRoster_any a va w0 (SHas.later ha hbel)
  have C1 := fun (w1 : World) (hb1 : Below w.heap.size w w1) => refRoster_any b vb w1 (SHas.later hb hb1)
  have C2 := fun (w1 : World) (hb1 : Below w.heap.size w w1) => refCheckTx_any p s v t (.slice q l.length c) l w1 hv (ho.later hb1)
  obtain ⟨qa, ca, rfl⟩ := SHas.slice ha
  obtain ⟨qb, cb, rfl⟩ := SHas.slice hb
  have HA : Hid (∀ w1, Below w.heap.size w w1 → IHas w1 (.slice qa a.length ca) a) := fun w1 hb1 => SHas.later ha hb1
  have HB : Hid (∀ w1, Below w.heap.size w w1 → IHas w1 (.slice qb b.length cb) b) := fun w1 hb1 => SHas.later hb hb1
  unfold apJ apL okA
  cases h1 : ckI a
  · rw [h1] at C0
    simp only [Bool.false_and, Bool.false_eq_true, if_false]
    clear ha hb hr ho
    go_enter Try.func13, Try.ntmps13
    go_wp2_with (rw [hW])
    clear hW
    refine C0.mono ?_
    rintro e w1 ⟨rfl, hb1⟩
    replace hb1 := below_on hbel hb1
    go_wp2_with fail
    go_ret2
    exact ⟨_, _, rfl, HA.out w1 hb1, HB.out w1 hb1, hb1⟩
  rw [h1] at C0
  cases h2 : ckI b
  · rw [h2] at C1
    simp only [Bool.false_and, Bool.and_false, Bool.false_eq_true, if_false]
    clear ha hb hr ho
    go_enter Try.func13, Try.ntmps13
    go_wp2_with (rw [hW])
    clear hW
    refine C0.mono ?_
    rintro e w1 ⟨rfl, hb1⟩
    replace hb1 := below_on hbel hb1
    go_wp2_with fail
    refine (C1 w1 hb1).mono ?_
    rintro e w2 ⟨rfl, hb2⟩
    replace hb2 := below_on hb1 hb2
    go_wp2_with fail
    go_ret2
    exact ⟨_, _, rfl, HA.out w2 hb2, HB.out w2 hb2, hb2⟩
  rw [h2] at C1
  cases h3 : ct p s v t l
  · rw [h3] at C2
    simp only [Bool.and_false, Bool.false_eq_true, if_false]
    clear ha hb hr ho
    go_enter Try.func13, Try.ntmps13
    go_wp2_with (rw [hW])
    clear hW
    refine C0.mono ?_
    rintro e w1 ⟨rfl, hb1⟩
    have R1 := R0.later hb1
    replace hb1 := below_on hbel hb1
    go_wp2_with fail
    refine (C1 w1 hb1).mono ?_
    rintro e w2 ⟨rfl, hb2⟩
    replace R1 := R1.later hb2
    replace hb2 := below_on hb1 hb2
    go_wp2_with (refine load_r 34 _ rfl rfl _ rfl R1 Try.underlying34 rfl (size_tx hv) ?_)
    refine (C2 w2 hb2).mono ?_
    rintro e w3 ⟨rfl, hb3⟩
    replace hb3 := below_on hb2 hb3
    clear R0 R1
    go_wp2_with fail
    go_ret2
    exact ⟨_, _, rfl, HA.out w3 hb3, HB.out w3 hb3, hb3⟩
  rw [h3] at C2
  simp only [Bool.and_true, if_true]
  have HO : Hid (∀ o ∈ l, o.k = 7 → (o.act = 1 ∨ o.act = 2) ∧ 1 ≤ o.n ∧ o.n ≤ 12) := ct_op h3
  have HK1 : Hid (∀ k, ckI (upL a (nms 1 (l.take k))) = true) := fun k => ck_upL h1 (ck_nms h3 1 k)
  have HK2 : Hid (∀ k, ckI (upL b (nms 2 (l.take k))) = true) := fun k => ck_upL h2 (ck_nms h3 2 k)
  have HR : Hid (0 < l.length → ∃ g o, q = some ⟨g, o, none⟩ ∧ ∀ i (h : i < l.length), w.rangeAt g (o + i * 10) l[i].cells) := hr
  have hml := maxLen_lt hm
  clear ha hb hr ho h1 h2 h3
  go_enter Try.func13, Try.ntmps13
  go_wp2_with (rw [hW])
  clear hW
  refine C0.mono ?_
  rintro e w1 ⟨rfl, hb1⟩
  have R1 := R0.later hb1
  replace hb1 := below_on hbel hb1
  go_wp2_with fail
  refine (C1 w1 hb1).mono ?_
  rintro e w2 ⟨rfl, hb2⟩
  replace R1 := R1.later hb2
  replace hb2 := below_on hb1 hb2
  go_wp2_with (refine load_r 34 _ rfl rfl _ rfl R1 Try.underlying34 rfl (size_tx hv) ?_)
  refine (C2 w2 hb2).mono ?_
  rintro e w3 ⟨rfl, hb3⟩
  replace R1 := R1.later hb3
  replace hb3 := below_on hb2 hb3
  clear R0 C0 C1 C2 hb1 hb2 hbel
  go_wp2_with fail
  go_loopw [0, 1, 8] (fun v0 v1 vi wr => ∃ (k : Nat), vi = .int .i64 k ∧ k ≤ l.length ∧ IHas wr v0 (upL a (nms 1 (l.take k))) ∧ IHas wr v1 (upL b (nms 2 (l.take k))) ∧ Rw wr w.heap.size 34 (txc p s v t (.slice q l.length c)).toArray ∧ Below w.heap.size w wr) (fun _ _ vi _ => l.length - (intOf vi).toNat)
  case atStart => exact ⟨0, rfl, by omega, HA.out _ hb3, HB.out _ hb3, R1, hb3⟩
  case round =>
    clear hb3 R1 HA HB
    obtain ⟨k, rfl, hk, hI0, hI1, R, hbel⟩ := hrel
    have c16 := tx_ops R hv
    by_cases hlt : k < l.length
    · have hlt' : (k : Int) < (l.length : Int) := by omega
      obtain ⟨g, o, rfl, hd⟩ := HR.out (by omega)
      have d := range_later (hd k hlt) hbel
      have hx := HO.out l[k] (List.getElem_mem _)
      have hE1 := nms_snoc 1 (l.take k) l[k]
      have hE2 := nms_snoc 2 (l.take k) l[k]
      rw [← List.take_succ_eq_append_getElem hlt] at hE1 hE2
      have hk1 := HK1.out k
      have hk2 := HK2.out k
      clear HR hd HO HK1 HK2
      generalize l[k] = x at d hx hE1 hE2
      obtain ⟨xk, xkey, xfield, xinner, xact, xn, xtext, xp, xs, xi⟩ := x
      simp only at hx hE1 hE2
      have c0 : wr.cell? ⟨g, o + k * 10, none⟩ = some (.int .i64 xk) := d 0 _ rfl
      have c4 : wr.cell? ⟨g, o + k * 10 + 4, none⟩ = some (.int .i64 xact) := d 4 _ rfl
      have c5 : wr.cell? ⟨g, o + k * 10 + 5, none⟩ = some (.int .i64 xn) := d 5 _ rfl
      clear d
      have HE1 : Hid (nms 1 (l.take (k + 1)) = if xk = 7 ∧ xact = 1 then nms 1 (l.take k) ++ [xn] else nms 1 (l.take k)) := hE1
      have HE2 : Hid (nms 2 (l.take (k + 1)) = if xk = 7 ∧ xact = 2 then nms 2 (l.take k) ++ [xn] else nms 2 (l.take k)) := hE2
      have HX := hx
      obtain ⟨q0, cc0, hq0⟩ := SHas.slice hI0
      obtain ⟨q1, cc1, hq1⟩ := SHas.slice hI1
      have W1 := refWith_any _ xn _ wr hI0 ((ckI_up _).1 hk1).1 (by have := ck_len hk1; omega)
      have W2 := refWith_any _ xn _ wr hI1 ((ckI_up _).1 hk2).1 (by have := ck_len hk2; omega)
      clear hE1 hE2 hx hk1 hk2
      subst hq0
      subst hq1
      by_cases h1 : xk = 7
      · rcases (HX h1).1 with h2 | h2
        · have e1 : Hid (insI xn (upL a (nms 1 (l.take k))) = upL a (nms 1 (l.take (k + 1)))) := by
            show _ = _
            rw [HE1.out, if_pos ⟨h1, h2⟩, upL_snoc]
          have e2 : Hid (nms 2 (l.take (k + 1)) = nms 2 (l.take k)) := by
            show _ = _
            rw [HE2.out, if_neg (by omega)]
          clear HE1 HE2 HX W2
          subst h1
          subst h2
          rw [e1.out] at W1
          go_wp2_with fail
          refine W1.mono ?_
          rintro e w4 ⟨u4, rfl, hI4, hb4⟩
          have R4 := R.later hb4
          have hI5 := SHas.later hI1 hb4
          replace hb4 := below_on hbel hb4
          go_wp2_with fail
          go_roundw
          case rel => exact ⟨k + 1, by simp, by omega, hI4, by unfold IHas; rw [e2.out]; exact hI5, R4, hb4⟩
          case measure => simp [intOf]; omega
        · have e1 : Hid (insI xn (upL b (nms 2 (l.take k))) = upL b (nms 2 (l.take (k + 1)))) := by
            show _ = _
            rw [HE2.out, if_pos ⟨h1, h2⟩, upL_snoc]
          have e2 : Hid (nms 1 (l.take (k + 1)) = nms 1 (l.take k)) := by
            show _ = _
            rw [HE1.out, if_neg (by omega)]
          clear HE1 HE2 HX W1
          subst h1
          subst h2
          rw [e1.out] at W2
          go_wp2_with fail
          refine W2.mono ?_
          rintro e w4 ⟨u4, rfl, hI4, hb4⟩
          have R4 := R.later hb4
          have hI5 := SHas.later hI0 hb4
          replace hb4 := below_on hbel hb4
          go_wp2_with fail
          go_roundw
          case rel => exact ⟨k + 1, by simp, by omega, by unfold IHas; rw [e2.out]; exact hI5, hI4, R4, hb4⟩
          case measure => simp [intOf]; omega
      · have e1 : Hid (nms 1 (l.take (k + 1)) = nms 1 (l.take k)) := by
          show _ = _
          rw [HE1.out, if_neg fun h => h1 h.1]
        have e2 : Hid (nms 2 (l.take (k + 1)) = nms 2 (l.take k)) := by
          show _ = _
          rw [HE2.out, if_neg fun h => h1 h.1]
        have h1' : (xk != 7) = true := bne_iff_ne.2 h1
        clear HE1 HE2 HX W1 W2
        go_wp2_with fail
        go_roundw
        case rel => exact ⟨k + 1, by simp, by omega, by unfold IHas; rw [e1.out]; exact hI0, by unfold IHas; rw [e2.out]; exact hI1, R, hbel⟩
        case measure => simp [intOf]; omega
    · have hlt' : ¬ (k : Int) < (l.length : Int) := by omega
      obtain rfl : k = l.length := by omega
      rw [List.take_length] at hI0 hI1
      clear HR HO HK1 HK2
      obtain ⟨q0, cc0, rfl⟩ := SHas.slice hI0
      obtain ⟨q1, cc1, rfl⟩ := SHas.slice hI1
      go_wp2_with fail
      go_ret2
      exact ⟨_, _, rfl, hI0, hI1, hbel⟩
end Go.Proofs.Ytefpdcpcjfjblaa
