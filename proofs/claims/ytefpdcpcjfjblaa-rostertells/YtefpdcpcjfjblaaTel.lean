/- What RosterTells says. -/
import Derived.Test.YtefpdcpcjfjblaaHds
import Derived.Test.YtefpdcpcjfjblaaSml
namespace Go.Proofs.Ytefpdcpcjfjblaa
open Go.RowKit

set_option maxHeartbeats 4000000 in
set_option maxRecDepth 100000 in
theorem tells_any (a b : List Int) (va vb : Value) (p s : Int) (v : List Int) (t : Int) (sl : Value) (l : List O) (w : World) (ha : IHas w va a) (hb : IHas w vb b) (hv : v.length = 13) (ho : OHas w sl l) :
    Calls Try.prog 4 #[va, vb, TxV p s v t sl] w (Tells (.bool true) w) := by
  have hma := maxLen_lt ha.1
  have hmb := maxLen_lt hb.1
  have R1 := rw_new w 34 (txc p s v t sl).toArray
  have B0 : Below w.heap.size w (w.alloc (.cells (txc p s v t sl).toArray 34)) := bel_alloc (Below.refl _ _) _
  generalize hW : w.alloc (.cells (txc p s v t sl).toArray 34) = w0 at R1 B0
  have CH := fun (w1 : World) => heads_any w1
  have S1 := fun (w1 : World) (hb1 : Below w.heap.size w w1) => small_any p s v t sl l w1 hv (ho.later hb1)
  have A1 := fun (w1 : World) (hb1 : Below w.heap.size w w1) (h1 : IHas w1 va a) (h2 : IHas w1 vb b) (g1 : a.length ≤ 1000) (g2 : b.length ≤ 1000) => apply_any a b va vb p s v t sl l w1 h1 h2 hv (ho.later hb1) g1 g2
  have A2 := fun (w1 : World) (hb1 : Below w.heap.size w w1) (h1 : IHas w1 va a) (h2 : IHas w1 vb b) => refApply_any a b va vb p s v t sl l w1 h1 h2 hv (ho.later hb1)
  have K1 := fun (w1 : World) (h1 : IHas w1 va a) => rosCheck_any a va w1 h1
  have K2 := fun (w1 : World) (h1 : IHas w1 va a) => refRoster_any a va w1 h1
  have L1 := fun (w1 : World) (h1 : IHas w1 va a) (h2 : IHas w1 vb b) => live_any a b va vb w1 h1 h2
  have L2 := fun (w1 : World) (h1 : IHas w1 va a) (h2 : IHas w1 vb b) => refLive_any a b va vb w1 h1 h2
  have E1 := fun (w1 : World) (h1 : IHas w1 va a) (h2 : IHas w1 vb b) => epoch_any a b va vb w1 h1 h2
  have E2 := fun (w1 : World) (h1 : IHas w1 va a) (h2 : IHas w1 vb b) => refEpoch_any a b va vb w1 h1 h2
  obtain ⟨q, c, rfl⟩ := SHas.slice ha
  obtain ⟨q2, c2, rfl⟩ := SHas.slice hb
  replace ha := SHas.later ha B0
  replace hb := SHas.later hb B0
  generalize apJ a b p s v t l = A at A1 A2
  generalize apL a b p s v t l = B at A1 A2
  generalize ckI a = z at K1 K2
  generalize lvL a b = Lv at L1 L2
  generalize ep a b = ee at E1 E2
  clear ho
  go_enter Try.func4, Try.ntmps4
  go_upto_region 1 with (rw [hW])
  clear hW
  by_cases h1 : 40 < a.length
  · have g1 : (40 : Int) < (a.length : Int) := by omega
    clear S1 A1 A2 K1 K2 L1 L2 E1 E2 R1
    go_wp2_with fail
    refine (CH w0).mono ?_
    rintro e wh ⟨rfl, hbh⟩
    replace hbh := below_on B0 hbh
    go_wp2_with fail
    go_ret
    exact ⟨rfl, hbh⟩
  have g1 : ¬ (40 : Int) < (a.length : Int) := by omega
  by_cases h2 : 40 < b.length
  · have g2 : (40 : Int) < (b.length : Int) := by omega
    clear S1 A1 A2 K1 K2 L1 L2 E1 E2 R1
    go_wp2_with fail
    refine (CH w0).mono ?_
    rintro e wh ⟨rfl, hbh⟩
    replace hbh := below_on B0 hbh
    go_wp2_with fail
    go_ret
    exact ⟨rfl, hbh⟩
  have g2 : ¬ (40 : Int) < (b.length : Int) := by omega
  go_wp2_with (refine load_r 34 _ rfl rfl _ rfl R1 Try.underlying34 rfl (size_tx hv) ?_)
  refine (S1 w0 B0).mono ?_
  rintro e w1 ⟨b1, rfl, -, hbb⟩
  replace R1 := R1.later hbb
  replace ha := SHas.later ha hbb
  replace hb := SHas.later hb hbb
  replace B0 := below_on B0 hbb
  clear hbb S1
  cases b1
  · clear A1 A2 K1 K2 L1 L2 E1 E2 R1
    go_wp2_with fail
    refine (CH w1).mono ?_
    rintro e wh ⟨rfl, hbh⟩
    replace hbh := below_on B0 hbh
    go_wp2_with fail
    go_ret
    exact ⟨rfl, hbh⟩
  have D1 := A1 w1 B0 ha hb (by omega) (by omega)
  clear A1
  go_wp2_with (refine load_r 34 _ rfl rfl _ rfl R1 Try.underlying34 rfl (size_tx hv) ?_)
  refine D1.mono ?_
  rintro e w2 ⟨uA, uB, rfl, hA, hB, hbb⟩
  replace R1 := R1.later hbb
  replace ha := SHas.later ha hbb
  replace hb := SHas.later hb hbb
  replace B0 := below_on B0 hbb
  clear hbb D1
  have D1 := A2 w2 B0 ha hb
  clear A2
  obtain ⟨qA, cA, rfl⟩ := SHas.slice hA
  obtain ⟨qB, cB, rfl⟩ := SHas.slice hB
  go_wp2_with (refine load_r 34 _ rfl rfl _ rfl R1 Try.underlying34 rfl (size_tx hv) ?_)
  refine D1.mono ?_
  rintro e w3 ⟨uC, uD, rfl, hC, hD, hbb⟩
  replace ha := SHas.later ha hbb
  replace hb := SHas.later hb hbb
  replace hA := SHas.later hA hbb
  replace hB := SHas.later hB hbb
  replace B0 := below_on B0 hbb
  clear hbb D1 R1
  obtain ⟨qC, cC, rfl⟩ := SHas.slice hC
  obtain ⟨qD, cD, rfl⟩ := SHas.slice hD
  go_wp2_with fail
  refine (K1 w3 ha).mono ?_
  rintro e w4 ⟨rfl, hbb⟩
  replace ha := SHas.later ha hbb
  replace hb := SHas.later hb hbb
  replace hA := SHas.later hA hbb
  replace hB := SHas.later hB hbb
  replace hC := SHas.later hC hbb
  replace hD := SHas.later hD hbb
  replace B0 := below_on B0 hbb
  clear hbb K1
  go_wp2_with fail
  refine (K2 w4 ha).mono ?_
  rintro e w5 ⟨rfl, hbb⟩
  replace ha := SHas.later ha hbb
  replace hb := SHas.later hb hbb
  replace hA := SHas.later hA hbb
  replace hB := SHas.later hB hbb
  replace hC := SHas.later hC hbb
  replace hD := SHas.later hD hbb
  replace B0 := below_on B0 hbb
  clear hbb K2
  go_wp2_with fail
  refine (hd_ints w5 A _ _ hA hC).mono ?_
  rintro e w6 ⟨rfl, hbb⟩
  replace ha := SHas.later ha hbb
  replace hb := SHas.later hb hbb
  replace hB := SHas.later hB hbb
  replace hD := SHas.later hD hbb
  replace B0 := below_on B0 hbb
  clear hbb hA hC
  go_wp2_with fail
  refine (hd_ints w6 B _ _ hB hD).mono ?_
  rintro e w7 ⟨rfl, hbb⟩
  replace ha := SHas.later ha hbb
  replace hb := SHas.later hb hbb
  replace B0 := below_on B0 hbb
  clear hbb hB hD
  go_wp2_with fail
  refine (L1 w7 ha hb).mono ?_
  rintro e w8 ⟨uL, rfl, hL, hbb⟩
  replace ha := SHas.later ha hbb
  replace hb := SHas.later hb hbb
  replace B0 := below_on B0 hbb
  clear hbb L1
  obtain ⟨qL, cL, rfl⟩ := SHas.slice hL
  go_wp2_with fail
  refine (L2 w8 ha hb).mono ?_
  rintro e w9 ⟨uK, rfl, hK, hbb⟩
  replace ha := SHas.later ha hbb
  replace hb := SHas.later hb hbb
  replace hL := SHas.later hL hbb
  replace B0 := below_on B0 hbb
  clear hbb L2
  obtain ⟨qK, cK, rfl⟩ := SHas.slice hK
  go_wp2_with fail
  refine (hd_ints w9 Lv _ _ hL hK).mono ?_
  rintro e w10 ⟨rfl, hbb⟩
  replace ha := SHas.later ha hbb
  replace hb := SHas.later hb hbb
  replace B0 := below_on B0 hbb
  clear hbb hL hK
  go_wp2_with fail
  refine (E1 w10 ha hb).mono ?_
  rintro e w11 ⟨rfl, hbb⟩
  replace ha := SHas.later ha hbb
  replace hb := SHas.later hb hbb
  replace B0 := below_on B0 hbb
  clear hbb E1
  go_wp2_with fail
  refine (E2 w11 ha hb).mono ?_
  rintro e w12 ⟨rfl, hbb⟩
  replace B0 := below_on B0 hbb
  clear hbb E2
  go_wp2_with fail
  refine (CH w12).mono ?_
  rintro e wh ⟨rfl, hbh⟩
  replace hbh := below_on B0 hbh
  go_wp2_with fail
  go_ret
  exact ⟨rfl, hbh⟩
end Go.Proofs.Ytefpdcpcjfjblaa
