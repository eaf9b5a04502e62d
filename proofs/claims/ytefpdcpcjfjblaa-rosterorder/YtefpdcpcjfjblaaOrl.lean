/- What RosterOrder says. -/
import Derived.Test.YtefpdcpcjfjblaaHds
import Derived.Test.YtefpdcpcjfjblaaSml
namespace Go.Proofs.Ytefpdcpcjfjblaa
open Go.RowKit

theorem ins_len (n : Int) : ∀ l : List Int, l.length ≤ (insI n l).length ∧ ((insI n l).length = l.length → insI n l = l)
  | [] => by simp [insI]
  | x :: l => by
    unfold insI
    split
    · simp
    · split
      · simp
      · have h := ins_len n l
        refine ⟨by simp only [List.length_cons]; omega, fun e => ?_⟩
        simp only [List.length_cons] at e
        rw [h.2 (by omega)]
theorem upL_len : ∀ m l : List Int, l.length ≤ (upL l m).length ∧ ((upL l m).length = l.length → upL l m = l)
  | [], l => by simp [upL]
  | n :: m, l => by
    have h1 := ins_len n l
    have h2 := upL_len m (insI n l)
    have e : upL l (n :: m) = upL (insI n l) m := rfl
    rw [e]
    refine ⟨by omega, fun h => ?_⟩
    rw [h2.2 (by omega), h1.2 (by omega)]
/-- Numbers, behind a transaction that names some by an act. -/
def jnA (act p s : Int) (v : List Int) (t : Int) (l : List O) (a : List Int) : List Int := if ct p s v t l then upL a (nms act l) else a
section
variable {a b : List Int} {act p s : Int} {v : List Int} {t : Int} {l : List O} {p2 s2 : Int} {v2 : List Int} {t2 : Int} {l2 : List O}
theorem apJ_jnA (ha : ckI a = true) (hb : ckI b = true) : apJ a b p s v t l = jnA 1 p s v t l a := by simp [apJ, okA, jnA, ha, hb]
theorem apL_jnA (ha : ckI a = true) (hb : ckI b = true) : apL a b p s v t l = jnA 2 p s v t l b := by simp [apL, okA, jnA, ha, hb]
theorem ck_jnA (ha : ckI a = true) : ckI (jnA act p s v t l a) = true := by
  unfold jnA
  cases h : ct p s v t l
  · exact ha
  · have := ck_nms h act l.length
    rw [List.take_length] at this
    exact ck_upL ha this
theorem jnA_comm (ha : ckI a = true) : jnA act p2 s2 v2 t2 l2 (jnA act p s v t l a) = jnA act p s v t l (jnA act p2 s2 v2 t2 l2 a) := by
  unfold jnA
  cases ct p s v t l <;> cases ct p2 s2 v2 t2 l2 <;> try rfl
  exact upL_comm ((ckI_up a).1 ha).1
theorem jnA_len : a.length ≤ (jnA act p s v t l a).length ∧ ((jnA act p s v t l a).length = a.length → jnA act p s v t l a = a) := by
  unfold jnA
  cases ct p s v t l
  · exact ⟨Nat.le_refl _, fun _ => rfl⟩
  · exact upL_len _ _
end
set_option maxHeartbeats 4000000 in
set_option maxRecDepth 100000 in
theorem order_any (a b : List Int) (va vb : Value) (p s : Int) (v : List Int) (t : Int) (sl : Value) (l : List O) (p2 s2 : Int) (v2 : List Int) (t2 : Int) (sl2 : Value) (l2 : List O) (w : World) (ha : IHas w va a) (hb : IHas w vb b) (hv : v.length = 13) (ho : OHas w sl l) (hv2 : v2.length = 13) (ho2 : OHas w sl2 l2) :
    Calls Try.prog 5 #[va, vb, TxV p s v t sl, TxV p2 s2 v2 t2 sl2] w (Tells (.bool true) w) := by
  have hma := maxLen_lt ha.1
  have hmb := maxLen_lt hb.1
  have R1 := (rw_new w 34 (txc p s v t sl).toArray).alloc (.cells (txc p2 s2 v2 t2 sl2).toArray 34)
  have R2 := rw_new (w.alloc (.cells (txc p s v t sl).toArray 34)) 34 (txc p2 s2 v2 t2 sl2).toArray
  have e1 : (w.alloc (.cells (txc p s v t sl).toArray 34)).heap.size = w.heap.size + 1 := by simp
  rw [e1] at R2
  clear e1
  have B0 : Below w.heap.size w ((w.alloc (.cells (txc p s v t sl).toArray 34)).alloc (.cells (txc p2 s2 v2 t2 sl2).toArray 34)) := bel_alloc (bel_alloc (Below.refl _ _) _) _
  generalize hW : (w.alloc (.cells (txc p s v t sl).toArray 34)).alloc (.cells (txc p2 s2 v2 t2 sl2).toArray 34) = w0 at R1 R2 B0
  have CH := fun (w1 : World) => heads_any w1
  have S1 := fun (w1 : World) (hb1 : Below w.heap.size w w1) => small_any p s v t sl l w1 hv (ho.later hb1)
  have S2 := fun (w1 : World) (hb1 : Below w.heap.size w w1) => small_any p2 s2 v2 t2 sl2 l2 w1 hv2 (ho2.later hb1)
  have C0 := fun (w1 : World) (hb1 : Below w.heap.size w w1) => refRoster_any a va w1 (SHas.later ha hb1)
  have C1 := fun (w1 : World) (hb1 : Below w.heap.size w w1) => refRoster_any b vb w1 (SHas.later hb hb1)
  have A1 := fun (x y : List Int) (vx vy : Value) (w1 : World) (hb1 : Below w.heap.size w w1) (hx : IHas w1 vx x) (hy : IHas w1 vy y) (h1 : x.length ≤ 1000) (h2 : y.length ≤ 1000) => apply_any x y vx vy p s v t sl l w1 hx hy hv (ho.later hb1) h1 h2
  have A2 := fun (x y : List Int) (vx vy : Value) (w1 : World) (hb1 : Below w.heap.size w w1) (hx : IHas w1 vx x) (hy : IHas w1 vy y) (h1 : x.length ≤ 1000) (h2 : y.length ≤ 1000) => apply_any x y vx vy p2 s2 v2 t2 sl2 l2 w1 hx hy hv2 (ho2.later hb1) h1 h2
  obtain ⟨q, c, rfl⟩ := SHas.slice ha
  obtain ⟨q2, c2, rfl⟩ := SHas.slice hb
  replace ha := SHas.later ha B0
  replace hb := SHas.later hb B0
  clear ho ho2
  go_enter Try.func5, Try.ntmps5
  go_upto_region 1 with (rw [hW])
  clear hW
  by_cases h1 : 40 < a.length
  · have g1 : (40 : Int) < (a.length : Int) := by omega
    clear S1 S2 C0 C1 A1 A2 R1 R2
    go_wp2_with fail
    refine (CH w0).mono ?_
    rintro e wh ⟨rfl, hbh⟩
    replace hbh := below_on B0 hbh
    go_wp2_with fail
    go_ret
    exact ⟨rfl, hbh⟩
  have g1 : ¬ (40 : Int) < (a.length : Int) := by omega
  by_cases h2 : 40 < b.length
  · have g2 : (40 : Int) < (b.length : Int) := by omega
    clear S1 S2 C0 C1 A1 A2 R1 R2
    go_wp2_with fail
    refine (CH w0).mono ?_
    rintro e wh ⟨rfl, hbh⟩
    replace hbh := below_on B0 hbh
    go_wp2_with fail
    go_ret
    exact ⟨rfl, hbh⟩
  have g2 : ¬ (40 : Int) < (b.length : Int) := by omega
  go_wp2_with (refine load_r 34 _ rfl rfl _ rfl R1 Try.underlying34 rfl (size_tx hv) ?_)
  refine (S1 w0 B0).mono ?_
  rintro e w1 ⟨b1, rfl, -, hbb⟩
  replace R1 := R1.later hbb
  replace R2 := R2.later hbb
  replace ha := SHas.later ha hbb
  replace hb := SHas.later hb hbb
  replace B0 := below_on B0 hbb
  clear hbb S1
  cases b1
  · clear S2 C0 C1 A1 A2 R1 R2
    go_wp2_with fail
    refine (CH w1).mono ?_
    rintro e wh ⟨rfl, hbh⟩
    replace hbh := below_on B0 hbh
    go_wp2_with fail
    go_ret
    exact ⟨rfl, hbh⟩
  go_wp2_with (refine load_r 34 _ rfl rfl _ rfl R2 Try.underlying34 rfl (size_tx hv2) ?_)
  refine (S2 w1 B0).mono ?_
  rintro e w2 ⟨b1, rfl, -, hbb⟩
  replace R1 := R1.later hbb
  replace R2 := R2.later hbb
  replace ha := SHas.later ha hbb
  replace hb := SHas.later hb hbb
  replace B0 := below_on B0 hbb
  clear hbb S2
  cases b1
  · clear C0 C1 A1 A2 R1 R2
    go_wp2_with fail
    refine (CH w2).mono ?_
    rintro e wh ⟨rfl, hbh⟩
    replace hbh := below_on B0 hbh
    go_wp2_with fail
    go_ret
    exact ⟨rfl, hbh⟩
  cases h3 : ckI a
  · rw [h3] at C0
    clear C1 A1 A2 R1 R2
    go_wp2_with fail
    refine (C0 w2 B0).mono ?_
    rintro e w3 ⟨rfl, hbb⟩
    replace B0 := below_on B0 hbb
    go_wp2_with fail
    refine (CH w3).mono ?_
    rintro e wh ⟨rfl, hbh⟩
    replace hbh := below_on B0 hbh
    go_wp2_with fail
    go_ret
    exact ⟨rfl, hbh⟩
  rw [h3] at C0
  go_wp2_with fail
  refine (C0 w2 B0).mono ?_
  rintro e w3 ⟨rfl, hbb⟩
  replace R1 := R1.later hbb
  replace R2 := R2.later hbb
  replace ha := SHas.later ha hbb
  replace hb := SHas.later hb hbb
  replace B0 := below_on B0 hbb
  clear hbb C0
  cases h4 : ckI b
  · rw [h4] at C1
    clear A1 A2 R1 R2
    go_wp2_with fail
    refine (C1 w3 B0).mono ?_
    rintro e w4 ⟨rfl, hbb⟩
    replace B0 := below_on B0 hbb
    go_wp2_with fail
    refine (CH w4).mono ?_
    rintro e wh ⟨rfl, hbh⟩
    replace hbh := below_on B0 hbh
    go_wp2_with fail
    go_ret
    exact ⟨rfl, hbh⟩
  rw [h4] at C1
  go_wp2_with fail
  refine (C1 w3 B0).mono ?_
  rintro e w4 ⟨rfl, hbb⟩
  replace R1 := R1.later hbb
  replace R2 := R2.later hbb
  replace ha := SHas.later ha hbb
  replace hb := SHas.later hb hbb
  replace B0 := below_on B0 hbb
  clear hbb C1
  have kA : ckI (jnA 1 p s v t l a) = true := ck_jnA h3
  have kB : ckI (jnA 2 p s v t l b) = true := ck_jnA h4
  have kE : ckI (jnA 1 p2 s2 v2 t2 l2 a) = true := ck_jnA h3
  have kF : ckI (jnA 2 p2 s2 v2 t2 l2 b) = true := ck_jnA h4
  have la := ck_len h3
  have lb := ck_len h4
  have D1 := A1 a b _ _ w4 B0 ha hb (by omega) (by omega)
  rw [apJ_jnA h3 h4, apL_jnA h3 h4] at D1
  go_wp2_with (refine load_r 34 _ rfl rfl _ rfl R1 Try.underlying34 rfl (size_tx hv) ?_)
  refine D1.mono ?_
  rintro e w5 ⟨uA, uB, rfl, hA, hB, hbb⟩
  replace R1 := R1.later hbb
  replace R2 := R2.later hbb
  replace ha := SHas.later ha hbb
  replace hb := SHas.later hb hbb
  replace B0 := below_on B0 hbb
  clear hbb D1
  have D2 := A2 _ _ _ _ w5 B0 hA hB (by have := ck_len kA; omega) (by have := ck_len kB; omega)
  rw [apJ_jnA kA kB, apL_jnA kA kB] at D2
  obtain ⟨qA, cA, rfl⟩ := SHas.slice hA
  obtain ⟨qB, cB, rfl⟩ := SHas.slice hB
  go_wp2_with (refine load_r 34 _ rfl rfl _ rfl R2 Try.underlying34 rfl (size_tx hv2) ?_)
  refine D2.mono ?_
  rintro e w6 ⟨uC, uD, rfl, hC, hD, hbb⟩
  replace R1 := R1.later hbb
  replace R2 := R2.later hbb
  replace ha := SHas.later ha hbb
  replace hb := SHas.later hb hbb
  replace hA := SHas.later hA hbb
  replace hB := SHas.later hB hbb
  replace B0 := below_on B0 hbb
  clear hbb D2
  have D3 := A2 a b _ _ w6 B0 ha hb (by omega) (by omega)
  rw [apJ_jnA h3 h4, apL_jnA h3 h4] at D3
  obtain ⟨qC, cC, rfl⟩ := SHas.slice hC
  obtain ⟨qD, cD, rfl⟩ := SHas.slice hD
  go_wp2_with (refine load_r 34 _ rfl rfl _ rfl R2 Try.underlying34 rfl (size_tx hv2) ?_)
  refine D3.mono ?_
  rintro e w7 ⟨uE, uF, rfl, hE, hF, hbb⟩
  replace R1 := R1.later hbb
  replace ha := SHas.later ha hbb
  replace hb := SHas.later hb hbb
  replace hA := SHas.later hA hbb
  replace hB := SHas.later hB hbb
  replace hC := SHas.later hC hbb
  replace hD := SHas.later hD hbb
  replace B0 := below_on B0 hbb
  clear hbb D3 R2 A2
  have D4 := A1 _ _ _ _ w7 B0 hE hF (by have := ck_len kE; omega) (by have := ck_len kF; omega)
  rw [apJ_jnA kE kF, apL_jnA kE kF, jnA_comm h3, jnA_comm h4] at D4
  obtain ⟨qE, cE, rfl⟩ := SHas.slice hE
  obtain ⟨qF, cF, rfl⟩ := SHas.slice hF
  go_wp2_with (refine load_r 34 _ rfl rfl _ rfl R1 Try.underlying34 rfl (size_tx hv) ?_)
  refine D4.mono ?_
  rintro e w8 ⟨uG, uH, rfl, hG, hH, hbb⟩
  replace ha := SHas.later ha hbb
  replace hb := SHas.later hb hbb
  replace hA := SHas.later hA hbb
  replace hB := SHas.later hB hbb
  replace hC := SHas.later hC hbb
  replace hD := SHas.later hD hbb
  replace B0 := below_on B0 hbb
  clear hbb D4 R1 A1 hE hF
  obtain ⟨qG, cG, rfl⟩ := SHas.slice hG
  obtain ⟨qH, cH, rfl⟩ := SHas.slice hH
  have hle : ep a b ≤ ep (jnA 1 p s v t l a) (jnA 2 p s v t l b) := by
    have e1 := (jnA_len (a := a) (act := 1) (p := p) (s := s) (v := v) (t := t) (l := l)).1
    have e2 := (jnA_len (a := b) (act := 2) (p := p) (s := s) (v := v) (t := t) (l := l)).1
    simp only [ep, h3, h4, kA, kB, Bool.and_true, if_true]
    omega
  have HEQ : Hid (¬ ep a b < ep (jnA 1 p s v t l a) (jnA 2 p s v t l b) → jnA 1 p s v t l a = a ∧ jnA 2 p s v t l b = b) := fun hn => by
    have e1 := jnA_len (a := a) (act := 1) (p := p) (s := s) (v := v) (t := t) (l := l)
    have e2 := jnA_len (a := b) (act := 2) (p := p) (s := s) (v := v) (t := t) (l := l)
    simp only [ep, h3, h4, kA, kB, Bool.and_true, if_true] at hn
    exact ⟨e1.2 (by omega), e2.2 (by omega)⟩
  have P1 := fun (w1 : World) (h1 : IHas w1 _ a) (h2 : IHas w1 _ b) => epoch_any a b (.slice q a.length c) (.slice q2 b.length c2) w1 h1 h2
  have L1 := fun (w1 : World) (h1 : IHas w1 _ a) (h2 : IHas w1 _ b) => live_any a b (.slice q a.length c) (.slice q2 b.length c2) w1 h1 h2
  generalize jnA 1 p s v t l a = A at *
  generalize jnA 2 p s v t l b = B at *
  generalize jnA 1 p2 s2 v2 t2 l2 A = C at *
  generalize jnA 2 p2 s2 v2 t2 l2 B = D at *
  clear kE kF
  have P2 := fun (w1 : World) (h1 : IHas w1 _ A) (h2 : IHas w1 _ B) => epoch_any A B (.slice qA A.length cA) (.slice qB B.length cB) w1 h1 h2
  have L2 := fun (w1 : World) (h1 : IHas w1 _ A) (h2 : IHas w1 _ B) => live_any A B (.slice qA A.length cA) (.slice qB B.length cB) w1 h1 h2
  obtain ⟨m1, HM1⟩ := hid_ex (ep a b)
  obtain ⟨m2, HM2⟩ := hid_ex (ep A B)
  rw [HM1.out, HM2.out] at hle HEQ
  rw [HM1.out] at P1
  rw [HM2.out] at P2
  clear HM1 HM2
  go_wp2_with fail
  refine (P1 w8 ha hb).mono ?_
  rintro e w9 ⟨rfl, hbb⟩
  replace ha := SHas.later ha hbb
  replace hb := SHas.later hb hbb
  replace hA := SHas.later hA hbb
  replace hB := SHas.later hB hbb
  replace hC := SHas.later hC hbb
  replace hD := SHas.later hD hbb
  replace hG := SHas.later hG hbb
  replace hH := SHas.later hH hbb
  replace B0 := below_on B0 hbb
  clear hbb P1
  go_wp2_with fail
  refine (P2 w9 hA hB).mono ?_
  rintro e w10 ⟨rfl, hbb⟩
  replace ha := SHas.later ha hbb
  replace hb := SHas.later hb hbb
  replace hA := SHas.later hA hbb
  replace hB := SHas.later hB hbb
  replace hC := SHas.later hC hbb
  replace hD := SHas.later hD hbb
  replace hG := SHas.later hG hbb
  replace hH := SHas.later hH hbb
  replace B0 := below_on B0 hbb
  clear hbb P2
  go_wp2_with fail
  refine (hd_ints w10 C _ _ hC hG).mono ?_
  rintro e w11 ⟨rfl, hbb⟩
  replace ha := SHas.later ha hbb
  replace hb := SHas.later hb hbb
  replace hA := SHas.later hA hbb
  replace hB := SHas.later hB hbb
  replace hD := SHas.later hD hbb
  replace hH := SHas.later hH hbb
  replace B0 := below_on B0 hbb
  clear hbb hC hG
  go_wp2_with fail
  refine (hd_ints w11 D _ _ hD hH).mono ?_
  rintro e w12 ⟨rfl, hbb⟩
  replace ha := SHas.later ha hbb
  replace hb := SHas.later hb hbb
  replace hA := SHas.later hA hbb
  replace hB := SHas.later hB hbb
  replace B0 := below_on B0 hbb
  clear hbb hD hH
  by_cases hgt : m1 < m2
  · clear HEQ L1 L2
    go_wp2_with fail
    have CK := rosCheck_any A _ w12 hA
    rw [kA] at CK
    refine CK.mono ?_
    rintro e w13 ⟨rfl, hbb⟩
    replace hB := SHas.later hB hbb
    replace B0 := below_on B0 hbb
    clear hbb CK
    go_wp2_with fail
    have CK := rosCheck_any B _ w13 hB
    rw [kB] at CK
    refine CK.mono ?_
    rintro e w14 ⟨rfl, hbb⟩
    replace B0 := below_on B0 hbb
    go_wp2_with fail
    refine (CH w14).mono ?_
    rintro e wh ⟨rfl, hbh⟩
    replace hbh := below_on B0 hbh
    go_wp2_with fail
    go_ret
    exact ⟨rfl, hbh⟩
  · have HQ : Hid (A = a ∧ B = b) := HEQ.out (by omega)
    clear HEQ
    obtain rfl : m1 = m2 := by omega
    go_wp2_with fail
    refine (L2 w12 hA hB).mono ?_
    rintro e w13 ⟨uL, rfl, hL, hbb⟩
    replace ha := SHas.later ha hbb
    replace hb := SHas.later hb hbb
    replace hA := SHas.later hA hbb
    replace hB := SHas.later hB hbb
    replace B0 := below_on B0 hbb
    clear hbb
    obtain ⟨qL, cL, rfl⟩ := SHas.slice hL
    go_wp2_with fail
    refine (L1 w13 ha hb).mono ?_
    rintro e w14 ⟨uK, rfl, hK, hbb⟩
    replace hA := SHas.later hA hbb
    replace hB := SHas.later hB hbb
    replace hL := SHas.later hL hbb
    replace B0 := below_on B0 hbb
    clear hbb L1 L2
    obtain ⟨qK, cK, rfl⟩ := SHas.slice hK
    have CI := ints_any _ _ _ _ w14 hL hK
    have ed : decide (lvL A B = lvL a b) = true := decide_eq_true (by rw [HQ.out.1, HQ.out.2])
    rw [ed] at CI
    clear ed
    go_wp2_with fail
    refine CI.mono ?_
    rintro e w15 ⟨rfl, hbb⟩
    replace hA := SHas.later hA hbb
    replace hB := SHas.later hB hbb
    replace B0 := below_on B0 hbb
    clear hbb CI
    go_wp2_with fail
    have CK := rosCheck_any A _ w15 hA
    rw [kA] at CK
    refine CK.mono ?_
    rintro e w16 ⟨rfl, hbb⟩
    replace hB := SHas.later hB hbb
    replace B0 := below_on B0 hbb
    clear hbb CK
    go_wp2_with fail
    have CK := rosCheck_any B _ w16 hB
    rw [kB] at CK
    refine CK.mono ?_
    rintro e w17 ⟨rfl, hbb⟩
    replace B0 := below_on B0 hbb
    go_wp2_with fail
    refine (CH w17).mono ?_
    rintro e wh ⟨rfl, hbh⟩
    replace hbh := below_on B0 hbh
    go_wp2_with fail
    go_ret
    exact ⟨rfl, hbh⟩
end Go.Proofs.Ytefpdcpcjfjblaa
