/- The walk of IdtreeTells. -/
import Derived.Test.YtdbkjafjanhhbaaRefApart
import Derived.Test.YtdbkjafjanhhbaaRefShare
import Derived.Test.YtdbkjafjanhhbaaRefSplit
import Derived.Test.YtdbkjafjanhhbaaRefOwns
namespace Go.Proofs.Ytdbkjafjanhhbaa
open Go.RowKit

set_option maxHeartbeats 16000000 in
set_option maxRecDepth 100000 in
theorem tells_any (ta tb : Tr) (m : Int) (na : Int) (pa : Option Addr) (la ca : Nat) (nb : Int) (pb : Option Addr) (lb cb : Nat) (w : World) (ha : Lies w ta (TV na pa la ca)) (hb : Lies w tb (TV nb pb lb cb)) :
    Calls Try.prog 3 #[TV na pa la ca, TV nb pb lb cb, .int .i64 m] w fun e w' => e = .returned (.bool true) ∧ Below w.heap.size w w' := by
  obtain ⟨h1, h2, hbel⟩ := two_box w na pa la ca nb pb lb cb _ rfl
  have rF1 := fun w1 (hb : Below w.heap.size w w1) => few_any ta na pa la ca w1 (ha.later hb)
  have rF2 := fun w1 (hb' : Below w.heap.size w w1) => few_any tb nb pb lb cb w1 (hb.later hb')
  have rN := fun w1 (h : Lies w1 ta (TV na pa la ca)) => norm_tr ta na pa la ca w1 h
  have rN2 := fun w1 (h : Lies w1 ta (TV na pa la ca)) => refNorm_tr ta na pa la ca w1 h
  have rP := fun w1 (h : Lies w1 ta (TV na pa la ca)) => split_tr ta na pa la ca w1 h
  have rP2 := fun w1 (h : Lies w1 ta (TV na pa la ca)) => refSplit_tr ta na pa la ca w1 h
  have rS := fun w1 (h : Lies w1 ta (TV na pa la ca)) (h' : Lies w1 tb (TV nb pb lb cb)) => sum_tr ta tb na pa la ca nb pb lb cb w1 h h'
  have rS2 := fun w1 (h : Lies w1 ta (TV na pa la ca)) (h' : Lies w1 tb (TV nb pb lb cb)) => refSum_tr ta tb na pa la ca nb pb lb cb w1 h h'
  have rK := fun w1 (h : Lies w1 ta (TV na pa la ca)) => check_tr ta na pa la ca w1 h
  have rK2 := fun w1 (h : Lies w1 ta (TV na pa la ca)) => refCheck_tr ta na pa la ca w1 h
  have rAp := fun w1 (h : Lies w1 ta (TV na pa la ca)) (h' : Lies w1 tb (TV nb pb lb cb)) => apart_tr ta tb na pa la ca nb pb lb cb w1 h h'
  have rAp2 := fun w1 (h : Lies w1 ta (TV na pa la ca)) (h' : Lies w1 tb (TV nb pb lb cb)) => refApart_tr ta tb na pa la ca nb pb lb cb w1 h h'
  have rO := fun w1 (h : Lies w1 ta (TV na pa la ca)) => owns_tr ta m na pa la ca w1 h
  have rO2 := fun w1 (h : Lies w1 ta (TV na pa la ca)) => refOwns_tr ta m na pa la ca w1 h
  have rH := fun w1 (h : Lies w1 ta (TV na pa la ca)) => share_tr ta na pa la ca w1 h
  have rH2 := fun w1 (h : Lies w1 ta (TV na pa la ca)) => refShare_tr ta na pa la ca w1 h
  generalize (if rough ta 16 then norm (idOf ta) else ID.leaf false) = xN at rN rN2
  generalize (if rough ta 16 then (0 : Int) else 3) = eN at rN rN2
  generalize splA ta = xA at rP rP2
  generalize splB ta = xB at rP rP2
  generalize splE ta = eP at rP rP2
  generalize sumX ta tb = xS at rS rS2
  generalize okT ta = kk at rK rK2
  generalize (sumE ta tb == 0) = ap at rAp rAp2
  generalize sumE ta tb = eS at rS rS2
  generalize ownsT ta m = ow at rO rO2
  generalize shareT ta = sh at rH rH2
  go_enter Try.func3, Try.ntmps3
  go_wp2_with (refine load_t _ rfl rfl _ _ rfl h1.tat ?_)
  refine (rF1 _ hbel).mono ?_
  rintro e w1 ⟨few1, rfl, hb1⟩
  replace h1 := h1.later hb1
  replace h2 := h2.later hb1
  replace hbel := below_on hbel hb1
  clear hb1
  clear rF1
  cases few1
  · clear rF2 rN rN2 rP rP2 rS rS2 rK rK2 rAp rAp2 rO rO2 rH rH2 h1 h2
    go_wp2_with fail
    refine (heads_any _).mono ?_
    rintro e w9 ⟨rfl, hb1⟩
    go_wp2
    go_ret
    exact ⟨rfl, below_on hbel hb1⟩
  · go_wp2_with (refine load_t _ rfl rfl _ _ rfl h2.tat ?_)
    refine (rF2 _ hbel).mono ?_
    rintro e w2 ⟨few2, rfl, hb1⟩
    replace h1 := h1.later hb1
    replace h2 := h2.later hb1
    replace hbel := below_on hbel hb1
    clear hb1
    cases few2
    · clear rF2 rN rN2 rP rP2 rS rS2 rK rK2 rAp rAp2 rO rO2 rH rH2 h1 h2
      go_wp2_with fail
      refine (heads_any _).mono ?_
      rintro e w9 ⟨rfl, hb1⟩
      go_wp2
      go_ret
      exact ⟨rfl, below_on hbel hb1⟩
    · clear rF2
      replace ha := ha.later hbel
      replace hb := hb.later hbel
      go_wp2_with (first | refine load_t _ rfl rfl _ _ rfl h1.tat ?_ | refine load_t _ rfl rfl _ _ rfl h2.tat ?_)
      refine (rN _ ha).mono ?_
      rintro e w3 ⟨nn, pn, ln, cn, rfl, Jn, hb1⟩
      replace h1 := h1.later hb1
      replace h2 := h2.later hb1
      replace ha := ha.later hb1
      replace hb := hb.later hb1
      replace hbel := below_on hbel hb1
      clear hb1
      have m0 := bx_new w3 0 none 0 0
      have bn := new_box w3 nn pn ln cn
      have hb1 := new_below w3 nn pn ln cn
      generalize hw : (w3.alloc (.cells #[.int .i64 0, .slice none 0 0] 24)).setRow w3.heap.size #[.int .i64 nn, .slice pn ln cn] = v3 at bn hb1
      replace h1 := h1.later hb1
      replace h2 := h2.later hb1
      replace ha := ha.later hb1
      replace hb := hb.later hb1
      replace Jn := Jn.later hb1
      replace hbel := below_on hbel hb1
      clear hb1
      go_wp2_with (first | rw [hw] | refine store_t rfl _ _ rfl _ nn pn ln cn rfl rfl m0 ?_ | refine load_t _ rfl rfl _ _ rfl h1.tat ?_ | refine load_t _ rfl rfl _ _ rfl h2.tat ?_)
      clear m0 hw
      generalize w3.heap.size = qn at bn ⊢
      clear rN
      refine (rN2 _ ha).mono ?_
      rintro e w4 ⟨nm, pm, lm, cm, rfl, Jm, hb1⟩
      replace h1 := h1.later hb1
      replace h2 := h2.later hb1
      replace ha := ha.later hb1
      replace hb := hb.later hb1
      replace Jn := Jn.later hb1
      replace bn := bn.later hb1
      replace hbel := below_on hbel hb1
      clear hb1
      have m0 := bx_new w4 0 none 0 0
      have bm := new_box w4 nm pm lm cm
      have hb1 := new_below w4 nm pm lm cm
      generalize hw : (w4.alloc (.cells #[.int .i64 0, .slice none 0 0] 24)).setRow w4.heap.size #[.int .i64 nm, .slice pm lm cm] = v4 at bm hb1
      replace h1 := h1.later hb1
      replace h2 := h2.later hb1
      replace ha := ha.later hb1
      replace hb := hb.later hb1
      replace Jn := Jn.later hb1
      replace bn := bn.later hb1
      replace Jm := Jm.later hb1
      replace hbel := below_on hbel hb1
      clear hb1
      go_wp2_with (first | rw [hw] | refine store_t rfl _ _ rfl _ nm pm lm cm rfl rfl m0 ?_ | refine load_t _ rfl rfl _ _ rfl h1.tat ?_ | refine load_t _ rfl rfl _ _ rfl h2.tat ?_)
      clear m0 hw
      generalize w4.heap.size = qm at bm ⊢
      clear rN2
      refine (rP _ ha).mono ?_
      rintro e w5 ⟨np, pp, lp, cp, nq, pq, lq, cq, rfl, Jp, Jq, hb1⟩
      replace h1 := h1.later hb1
      replace h2 := h2.later hb1
      replace ha := ha.later hb1
      replace hb := hb.later hb1
      replace Jn := Jn.later hb1
      replace bn := bn.later hb1
      replace Jm := Jm.later hb1
      replace bm := bm.later hb1
      replace hbel := below_on hbel hb1
      clear hb1
      have m0 := two_new0 w5
      have m1 := two_new1 w5 np pp lp cp
      obtain ⟨bp, bq, hb1⟩ := two_new w5 np pp lp cp nq pq lq cq _ rfl
      generalize hw : (((w5.alloc (.cells #[.int .i64 0, .slice none 0 0] 24)).alloc (.cells #[.int .i64 0, .slice none 0 0] 24)).setRow w5.heap.size #[.int .i64 np, .slice pp lp cp]).setRow (w5.heap.size + 1) #[.int .i64 nq, .slice pq lq cq] = v5 at bp bq hb1
      replace h1 := h1.later hb1
      replace h2 := h2.later hb1
      replace ha := ha.later hb1
      replace hb := hb.later hb1
      replace Jn := Jn.later hb1
      replace bn := bn.later hb1
      replace Jm := Jm.later hb1
      replace bm := bm.later hb1
      replace Jp := Jp.later hb1
      replace Jq := Jq.later hb1
      replace hbel := below_on hbel hb1
      clear hb1
      go_wp2_with (first | rw [hw] | refine store_t rfl _ _ rfl _ np pp lp cp rfl rfl m0 ?_ | refine store_t rfl _ _ rfl _ nq pq lq cq rfl rfl m1 ?_ | refine load_t _ rfl rfl _ _ rfl h1.tat ?_ | refine load_t _ rfl rfl _ _ rfl h2.tat ?_)
      clear m0 m1 hw
      generalize w5.heap.size = qp at bp bq ⊢
      clear rP
      refine (rP2 _ ha).mono ?_
      rintro e w6 ⟨nr, pr, lr, cr, ns, ps, ls, cs, rfl, Jr, Js, hb1⟩
      replace h1 := h1.later hb1
      replace h2 := h2.later hb1
      replace ha := ha.later hb1
      replace hb := hb.later hb1
      replace Jn := Jn.later hb1
      replace bn := bn.later hb1
      replace Jm := Jm.later hb1
      replace bm := bm.later hb1
      replace Jp := Jp.later hb1
      replace Jq := Jq.later hb1
      replace bp := bp.later hb1
      replace bq := bq.later hb1
      replace hbel := below_on hbel hb1
      clear hb1
      have m0 := two_new0 w6
      have m1 := two_new1 w6 nr pr lr cr
      obtain ⟨br, bs, hb1⟩ := two_new w6 nr pr lr cr ns ps ls cs _ rfl
      generalize hw : (((w6.alloc (.cells #[.int .i64 0, .slice none 0 0] 24)).alloc (.cells #[.int .i64 0, .slice none 0 0] 24)).setRow w6.heap.size #[.int .i64 nr, .slice pr lr cr]).setRow (w6.heap.size + 1) #[.int .i64 ns, .slice ps ls cs] = v6 at br bs hb1
      replace h1 := h1.later hb1
      replace h2 := h2.later hb1
      replace ha := ha.later hb1
      replace hb := hb.later hb1
      replace Jn := Jn.later hb1
      replace bn := bn.later hb1
      replace Jm := Jm.later hb1
      replace bm := bm.later hb1
      replace Jp := Jp.later hb1
      replace Jq := Jq.later hb1
      replace bp := bp.later hb1
      replace bq := bq.later hb1
      replace Jr := Jr.later hb1
      replace Js := Js.later hb1
      replace hbel := below_on hbel hb1
      clear hb1
      go_wp2_with (first | rw [hw] | refine store_t rfl _ _ rfl _ nr pr lr cr rfl rfl m0 ?_ | refine store_t rfl _ _ rfl _ ns ps ls cs rfl rfl m1 ?_ | refine load_t _ rfl rfl _ _ rfl h1.tat ?_ | refine load_t _ rfl rfl _ _ rfl h2.tat ?_)
      clear m0 m1 hw
      generalize w6.heap.size = qr at br bs ⊢
      clear rP2
      refine (rS _ ha hb).mono ?_
      rintro e w7 ⟨nt, pt, lt, ct, rfl, Jt, hb1⟩
      replace h1 := h1.later hb1
      replace h2 := h2.later hb1
      replace ha := ha.later hb1
      replace hb := hb.later hb1
      replace Jn := Jn.later hb1
      replace bn := bn.later hb1
      replace Jm := Jm.later hb1
      replace bm := bm.later hb1
      replace Jp := Jp.later hb1
      replace Jq := Jq.later hb1
      replace bp := bp.later hb1
      replace bq := bq.later hb1
      replace Jr := Jr.later hb1
      replace Js := Js.later hb1
      replace br := br.later hb1
      replace bs := bs.later hb1
      replace hbel := below_on hbel hb1
      clear hb1
      have m0 := bx_new w7 0 none 0 0
      have bt := new_box w7 nt pt lt ct
      have hb1 := new_below w7 nt pt lt ct
      generalize hw : (w7.alloc (.cells #[.int .i64 0, .slice none 0 0] 24)).setRow w7.heap.size #[.int .i64 nt, .slice pt lt ct] = v7 at bt hb1
      replace h1 := h1.later hb1
      replace h2 := h2.later hb1
      replace ha := ha.later hb1
      replace hb := hb.later hb1
      replace Jn := Jn.later hb1
      replace bn := bn.later hb1
      replace Jm := Jm.later hb1
      replace bm := bm.later hb1
      replace Jp := Jp.later hb1
      replace Jq := Jq.later hb1
      replace bp := bp.later hb1
      replace bq := bq.later hb1
      replace Jr := Jr.later hb1
      replace Js := Js.later hb1
      replace br := br.later hb1
      replace bs := bs.later hb1
      replace Jt := Jt.later hb1
      replace hbel := below_on hbel hb1
      clear hb1
      go_wp2_with (first | rw [hw] | refine store_t rfl _ _ rfl _ nt pt lt ct rfl rfl m0 ?_ | refine load_t _ rfl rfl _ _ rfl h1.tat ?_ | refine load_t _ rfl rfl _ _ rfl h2.tat ?_)
      clear m0 hw
      generalize w7.heap.size = qt at bt ⊢
      clear rS
      refine (rS2 _ ha hb).mono ?_
      rintro e w8 ⟨nu, pu, lu, cu, rfl, Ju, hb1⟩
      replace h1 := h1.later hb1
      replace h2 := h2.later hb1
      replace ha := ha.later hb1
      replace hb := hb.later hb1
      replace Jn := Jn.later hb1
      replace bn := bn.later hb1
      replace Jm := Jm.later hb1
      replace bm := bm.later hb1
      replace Jp := Jp.later hb1
      replace Jq := Jq.later hb1
      replace bp := bp.later hb1
      replace bq := bq.later hb1
      replace Jr := Jr.later hb1
      replace Js := Js.later hb1
      replace br := br.later hb1
      replace bs := bs.later hb1
      replace Jt := Jt.later hb1
      replace bt := bt.later hb1
      replace hbel := below_on hbel hb1
      clear hb1
      have m0 := bx_new w8 0 none 0 0
      have bu := new_box w8 nu pu lu cu
      have hb1 := new_below w8 nu pu lu cu
      generalize hw : (w8.alloc (.cells #[.int .i64 0, .slice none 0 0] 24)).setRow w8.heap.size #[.int .i64 nu, .slice pu lu cu] = v8 at bu hb1
      replace h1 := h1.later hb1
      replace h2 := h2.later hb1
      replace ha := ha.later hb1
      replace hb := hb.later hb1
      replace Jn := Jn.later hb1
      replace bn := bn.later hb1
      replace Jm := Jm.later hb1
      replace bm := bm.later hb1
      replace Jp := Jp.later hb1
      replace Jq := Jq.later hb1
      replace bp := bp.later hb1
      replace bq := bq.later hb1
      replace Jr := Jr.later hb1
      replace Js := Js.later hb1
      replace br := br.later hb1
      replace bs := bs.later hb1
      replace Jt := Jt.later hb1
      replace bt := bt.later hb1
      replace Ju := Ju.later hb1
      replace hbel := below_on hbel hb1
      clear hb1
      go_wp2_with (first | rw [hw] | refine store_t rfl _ _ rfl _ nu pu lu cu rfl rfl m0 ?_)
      clear m0 hw
      generalize w8.heap.size = qu at bu ⊢
      clear rS2
      have rSn := fun w1 (h : Is w1 xN (TV nn pn ln cn)) (h' : Is w1 xN (TV nm pm lm cm)) => same_any xN xN nn pn ln cn nm pm lm cm w1 h h'
      rw [show eqb xN xN = true from eqb_refl xN] at rSn
      have rSp := fun w1 (h : Is w1 xA (TV np pp lp cp)) (h' : Is w1 xA (TV nr pr lr cr)) => same_any xA xA np pp lp cp nr pr lr cr w1 h h'
      rw [show eqb xA xA = true from eqb_refl xA] at rSp
      have rSq := fun w1 (h : Is w1 xB (TV nq pq lq cq)) (h' : Is w1 xB (TV ns ps ls cs)) => same_any xB xB nq pq lq cq ns ps ls cs w1 h h'
      rw [show eqb xB xB = true from eqb_refl xB] at rSq
      have rSt := fun w1 (h : Is w1 xS (TV nt pt lt ct)) (h' : Is w1 xS (TV nu pu lu cu)) => same_any xS xS nt pt lt ct nu pu lu cu w1 h h'
      rw [show eqb xS xS = true from eqb_refl xS] at rSt
      have hs : Calm.Stays (fun w' => Tat w' w.heap.size 0 na pa la ca ∧ Tat w' (w.heap.size + 1) 0 nb pb lb cb ∧ Tat w' qn 0 nn pn ln cn ∧ Tat w' qm 0 nm pm lm cm ∧ Tat w' qp 0 np pp lp cp ∧ Tat w' (qp + 1) 0 nq pq lq cq ∧ Tat w' qr 0 nr pr lr cr ∧ Tat w' (qr + 1) 0 ns ps ls cs ∧ Tat w' qt 0 nt pt lt ct ∧ Tat w' qu 0 nu pu lu cu ∧ Lies w' ta (TV na pa la ca) ∧ Lies w' tb (TV nb pb lb cb) ∧ Is w' xN (TV nn pn ln cn) ∧ Is w' xN (TV nm pm lm cm) ∧ Is w' xA (TV np pp lp cp) ∧ Is w' xB (TV nq pq lq cq) ∧ Is w' xA (TV nr pr lr cr) ∧ Is w' xB (TV ns ps ls cs) ∧ Is w' xS (TV nt pt lt ct) ∧ Is w' xS (TV nu pu lu cu) ∧ Below w.heap.size w w') := fun wa wb h hb => ⟨h.1.later hb, h.2.1.later hb, h.2.2.1.later hb, h.2.2.2.1.later hb, h.2.2.2.2.1.later hb, h.2.2.2.2.2.1.later hb, h.2.2.2.2.2.2.1.later hb, h.2.2.2.2.2.2.2.1.later hb, h.2.2.2.2.2.2.2.2.1.later hb, h.2.2.2.2.2.2.2.2.2.1.later hb, h.2.2.2.2.2.2.2.2.2.2.1.later hb, h.2.2.2.2.2.2.2.2.2.2.2.1.later hb, h.2.2.2.2.2.2.2.2.2.2.2.2.1.later hb, h.2.2.2.2.2.2.2.2.2.2.2.2.2.1.later hb, h.2.2.2.2.2.2.2.2.2.2.2.2.2.2.1.later hb, h.2.2.2.2.2.2.2.2.2.2.2.2.2.2.2.1.later hb, h.2.2.2.2.2.2.2.2.2.2.2.2.2.2.2.2.1.later hb, h.2.2.2.2.2.2.2.2.2.2.2.2.2.2.2.2.2.1.later hb, h.2.2.2.2.2.2.2.2.2.2.2.2.2.2.2.2.2.2.1.later hb, h.2.2.2.2.2.2.2.2.2.2.2.2.2.2.2.2.2.2.2.1.later hb, below_on h.2.2.2.2.2.2.2.2.2.2.2.2.2.2.2.2.2.2.2.2 hb⟩
      refine Calm.region (by kernel_rfl) (by kernel_rfl) (fun w' => Tat w' w.heap.size 0 na pa la ca ∧ Tat w' (w.heap.size + 1) 0 nb pb lb cb ∧ Tat w' qn 0 nn pn ln cn ∧ Tat w' qm 0 nm pm lm cm ∧ Tat w' qp 0 np pp lp cp ∧ Tat w' (qp + 1) 0 nq pq lq cq ∧ Tat w' qr 0 nr pr lr cr ∧ Tat w' (qr + 1) 0 ns ps ls cs ∧ Tat w' qt 0 nt pt lt ct ∧ Tat w' qu 0 nu pu lu cu ∧ Lies w' ta (TV na pa la ca) ∧ Lies w' tb (TV nb pb lb cb) ∧ Is w' xN (TV nn pn ln cn) ∧ Is w' xN (TV nm pm lm cm) ∧ Is w' xA (TV np pp lp cp) ∧ Is w' xB (TV nq pq lq cq) ∧ Is w' xA (TV nr pr lr cr) ∧ Is w' xB (TV ns ps ls cs) ∧ Is w' xS (TV nt pt lt ct) ∧ Is w' xS (TV nu pu lu cu) ∧ Below w.heap.size w w') ⟨h1.tat, h2.tat, bn.tat, bm.tat, bp.tat, bq.tat, br.tat, bs.tat, bt.tat, bu.tat, ha.later (Below.refl _ _).drew, hb.later (Below.refl _ _).drew, Jn.later (Below.refl _ _).drew, Jm.later (Below.refl _ _).drew, Jp.later (Below.refl _ _).drew, Jq.later (Below.refl _ _).drew, Jr.later (Below.refl _ _).drew, Js.later (Below.refl _ _).drew, Jt.later (Below.refl _ _).drew, Ju.later (Below.refl _ _).drew, hbel.drew⟩ ?_
      clear h1 h2 ha hb hbel bn Jn bm Jm bp Jp bq Jq br Jr bs Js bt Jt bu Ju
      all_goals
        refine Calm.loadT (by rfl) _ rfl rfl (fun _ h => by go_split_ands; assumption) ?_
        simp only [Act.put, List.setIfInBounds_toArray, List.set_cons_zero, List.set_cons_succ]
      all_goals
        refine Calm.call1s (by rfl) rfl rfl (by kernel_rfl) hs (fun w1 h => rK w1 h.2.2.2.2.2.2.2.2.2.2.1) ?_
        simp only [Act.put, List.setIfInBounds_toArray, List.set_cons_zero, List.set_cons_succ]
      all_goals
        refine Calm.loadT (by rfl) _ rfl rfl (fun _ h => by go_split_ands; assumption) ?_
        simp only [Act.put, List.setIfInBounds_toArray, List.set_cons_zero, List.set_cons_succ]
      all_goals
        refine Calm.call1s (by rfl) rfl rfl (by kernel_rfl) hs (fun w1 h => rK2 w1 h.2.2.2.2.2.2.2.2.2.2.1) ?_
        simp only [Act.put, List.setIfInBounds_toArray, List.set_cons_zero, List.set_cons_succ]
      all_goals
        refine Calm.pure (v := ?_) (by rfl) ?_ ?_
        rotate_left
        focus (intro w hSw; go_simp <;> rfl)
        simp only [Act.put, List.setIfInBounds_toArray, List.set_cons_zero, List.set_cons_succ]
      all_goals
        refine Calm.pure (v := ?_) (by rfl) ?_ ?_
        rotate_left
        focus (intro w hSw; go_simp <;> rfl)
        simp only [Act.put, List.setIfInBounds_toArray, List.set_cons_zero, List.set_cons_succ]
      all_goals
        first
          | (refine Calm.skip ?_ ?_; focus rfl)
          | (refine Calm.loadT (by rfl) _ rfl rfl (fun _ h => by go_split_ands; assumption) ?_)
        simp only [Act.put, List.setIfInBounds_toArray, List.set_cons_zero, List.set_cons_succ]
      all_goals
        first
          | (refine Calm.skip ?_ ?_; focus rfl)
          | (refine Calm.loadT (by rfl) _ rfl rfl (fun _ h => by go_split_ands; assumption) ?_)
        simp only [Act.put, List.setIfInBounds_toArray, List.set_cons_zero, List.set_cons_succ]
      all_goals
        first
          | (refine Calm.skip ?_ ?_; focus rfl)
          | (refine Calm.call2s (by rfl) rfl rfl rfl (by kernel_rfl) hs (fun w1 h => rSn w1 h.2.2.2.2.2.2.2.2.2.2.2.2.1 h.2.2.2.2.2.2.2.2.2.2.2.2.2.1) ?_)
        simp only [Act.put, List.setIfInBounds_toArray, List.set_cons_zero, List.set_cons_succ]
      all_goals
        refine Calm.pure (v := ?_) (by rfl) ?_ ?_
        rotate_left
        focus (intro w hSw; go_simp <;> rfl)
        simp only [Act.put, List.setIfInBounds_toArray, List.set_cons_zero, List.set_cons_succ]
      all_goals
        refine Calm.pure (v := ?_) (by rfl) ?_ ?_
        rotate_left
        focus (intro w hSw; go_simp <;> rfl)
        simp only [Act.put, List.setIfInBounds_toArray, List.set_cons_zero, List.set_cons_succ]
      all_goals
        first
          | (refine Calm.skip ?_ ?_; focus rfl)
          | (refine Calm.pure (v := ?_) (by rfl) ?_ ?_
             rotate_left
             focus (intro w hSw; go_simp <;> rfl))
        simp only [Act.put, List.setIfInBounds_toArray, List.set_cons_zero, List.set_cons_succ]
      all_goals
        first
          | (refine Calm.skip ?_ ?_; focus rfl)
          | (refine Calm.pure (v := ?_) (by rfl) ?_ ?_
             rotate_left
             focus (intro w hSw; go_simp <;> rfl))
        simp only [Act.put, List.setIfInBounds_toArray, List.set_cons_zero, List.set_cons_succ]
      all_goals
        first
          | (refine Calm.skip ?_ ?_; focus rfl)
          | (refine Calm.pure (v := ?_) (by rfl) ?_ ?_
             rotate_left
             focus (intro w hSw; go_simp <;> rfl))
        simp only [Act.put, List.setIfInBounds_toArray, List.set_cons_zero, List.set_cons_succ]
      all_goals
        refine Calm.pure (v := ?_) (by rfl) ?_ ?_
        rotate_left
        focus (intro w hSw; go_simp <;> rfl)
        simp only [Act.put, List.setIfInBounds_toArray, List.set_cons_zero, List.set_cons_succ]
      all_goals
        refine Calm.pure (v := ?_) (by rfl) ?_ ?_
        rotate_left
        focus (intro w hSw; go_simp <;> rfl)
        simp only [Act.put, List.setIfInBounds_toArray, List.set_cons_zero, List.set_cons_succ]
      all_goals
        first
          | (refine Calm.skip ?_ ?_; focus rfl)
          | (refine Calm.loadT (by rfl) _ rfl rfl (fun _ h => by go_split_ands; assumption) ?_)
        simp only [Act.put, List.setIfInBounds_toArray, List.set_cons_zero, List.set_cons_succ]
      all_goals
        first
          | (refine Calm.skip ?_ ?_; focus rfl)
          | (refine Calm.loadT (by rfl) _ rfl rfl (fun _ h => by go_split_ands; assumption) ?_)
        simp only [Act.put, List.setIfInBounds_toArray, List.set_cons_zero, List.set_cons_succ]
      all_goals
        first
          | (refine Calm.skip ?_ ?_; focus rfl)
          | (refine Calm.call2s (by rfl) rfl rfl rfl (by kernel_rfl) hs (fun w1 h => rSp w1 h.2.2.2.2.2.2.2.2.2.2.2.2.2.2.1 h.2.2.2.2.2.2.2.2.2.2.2.2.2.2.2.2.1) ?_)
        simp only [Act.put, List.setIfInBounds_toArray, List.set_cons_zero, List.set_cons_succ]
      all_goals
        refine Calm.pure (v := ?_) (by rfl) ?_ ?_
        rotate_left
        focus (intro w hSw; go_simp <;> rfl)
        simp only [Act.put, List.setIfInBounds_toArray, List.set_cons_zero, List.set_cons_succ]
      all_goals
        refine Calm.pure (v := ?_) (by rfl) ?_ ?_
        rotate_left
        focus (intro w hSw; go_simp <;> rfl)
        simp only [Act.put, List.setIfInBounds_toArray, List.set_cons_zero, List.set_cons_succ]
      all_goals
        first
          | (refine Calm.skip ?_ ?_; focus rfl)
          | (refine Calm.loadT (by rfl) _ rfl rfl (fun _ h => by go_split_ands; assumption) ?_)
        simp only [Act.put, List.setIfInBounds_toArray, List.set_cons_zero, List.set_cons_succ]
      all_goals
        first
          | (refine Calm.skip ?_ ?_; focus rfl)
          | (refine Calm.loadT (by rfl) _ rfl rfl (fun _ h => by go_split_ands; assumption) ?_)
        simp only [Act.put, List.setIfInBounds_toArray, List.set_cons_zero, List.set_cons_succ]
      all_goals
        first
          | (refine Calm.skip ?_ ?_; focus rfl)
          | (refine Calm.call2s (by rfl) rfl rfl rfl (by kernel_rfl) hs (fun w1 h => rSq w1 h.2.2.2.2.2.2.2.2.2.2.2.2.2.2.2.1 h.2.2.2.2.2.2.2.2.2.2.2.2.2.2.2.2.2.1) ?_)
        simp only [Act.put, List.setIfInBounds_toArray, List.set_cons_zero, List.set_cons_succ]
      all_goals
        refine Calm.pure (v := ?_) (by rfl) ?_ ?_
        rotate_left
        focus (intro w hSw; go_simp <;> rfl)
        simp only [Act.put, List.setIfInBounds_toArray, List.set_cons_zero, List.set_cons_succ]
      all_goals
        refine Calm.pure (v := ?_) (by rfl) ?_ ?_
        rotate_left
        focus (intro w hSw; go_simp <;> rfl)
        simp only [Act.put, List.setIfInBounds_toArray, List.set_cons_zero, List.set_cons_succ]
      all_goals
        first
          | (refine Calm.skip ?_ ?_; focus rfl)
          | (refine Calm.pure (v := ?_) (by rfl) ?_ ?_
             rotate_left
             focus (intro w hSw; go_simp <;> rfl))
        simp only [Act.put, List.setIfInBounds_toArray, List.set_cons_zero, List.set_cons_succ]
      all_goals
        first
          | (refine Calm.skip ?_ ?_; focus rfl)
          | (refine Calm.pure (v := ?_) (by rfl) ?_ ?_
             rotate_left
             focus (intro w hSw; go_simp <;> rfl))
        simp only [Act.put, List.setIfInBounds_toArray, List.set_cons_zero, List.set_cons_succ]
      all_goals
        first
          | (refine Calm.skip ?_ ?_; focus rfl)
          | (refine Calm.pure (v := ?_) (by rfl) ?_ ?_
             rotate_left
             focus (intro w hSw; go_simp <;> rfl))
        simp only [Act.put, List.setIfInBounds_toArray, List.set_cons_zero, List.set_cons_succ]
      all_goals
        refine Calm.pure (v := ?_) (by rfl) ?_ ?_
        rotate_left
        focus (intro w hSw; go_simp <;> rfl)
        simp only [Act.put, List.setIfInBounds_toArray, List.set_cons_zero, List.set_cons_succ]
      all_goals
        refine Calm.pure (v := ?_) (by rfl) ?_ ?_
        rotate_left
        focus (intro w hSw; go_simp <;> rfl)
        simp only [Act.put, List.setIfInBounds_toArray, List.set_cons_zero, List.set_cons_succ]
      all_goals
        first
          | (refine Calm.skip ?_ ?_; focus rfl)
          | (refine Calm.loadT (by rfl) _ rfl rfl (fun _ h => by go_split_ands; assumption) ?_)
        simp only [Act.put, List.setIfInBounds_toArray, List.set_cons_zero, List.set_cons_succ]
      all_goals
        first
          | (refine Calm.skip ?_ ?_; focus rfl)
          | (refine Calm.loadT (by rfl) _ rfl rfl (fun _ h => by go_split_ands; assumption) ?_)
        simp only [Act.put, List.setIfInBounds_toArray, List.set_cons_zero, List.set_cons_succ]
      all_goals
        first
          | (refine Calm.skip ?_ ?_; focus rfl)
          | (refine Calm.call2s (by rfl) rfl rfl rfl (by kernel_rfl) hs (fun w1 h => rSt w1 h.2.2.2.2.2.2.2.2.2.2.2.2.2.2.2.2.2.2.1 h.2.2.2.2.2.2.2.2.2.2.2.2.2.2.2.2.2.2.2.1) ?_)
        simp only [Act.put, List.setIfInBounds_toArray, List.set_cons_zero, List.set_cons_succ]
      all_goals
        refine Calm.pure (v := ?_) (by rfl) ?_ ?_
        rotate_left
        focus (intro w hSw; go_simp <;> rfl)
        simp only [Act.put, List.setIfInBounds_toArray, List.set_cons_zero, List.set_cons_succ]
      all_goals
        refine Calm.pure (v := ?_) (by rfl) ?_ ?_
        rotate_left
        focus (intro w hSw; go_simp <;> rfl)
        simp only [Act.put, List.setIfInBounds_toArray, List.set_cons_zero, List.set_cons_succ]
      all_goals
        first
          | (refine Calm.skip ?_ ?_; focus rfl)
          | (refine Calm.pure (v := ?_) (by rfl) ?_ ?_
             rotate_left
             focus (intro w hSw; go_simp <;> rfl))
        simp only [Act.put, List.setIfInBounds_toArray, List.set_cons_zero, List.set_cons_succ]
      all_goals
        first
          | (refine Calm.skip ?_ ?_; focus rfl)
          | (refine Calm.pure (v := ?_) (by rfl) ?_ ?_
             rotate_left
             focus (intro w hSw; go_simp <;> rfl))
        simp only [Act.put, List.setIfInBounds_toArray, List.set_cons_zero, List.set_cons_succ]
      all_goals
        first
          | (refine Calm.skip ?_ ?_; focus rfl)
          | (refine Calm.pure (v := ?_) (by rfl) ?_ ?_
             rotate_left
             focus (intro w hSw; go_simp <;> rfl))
        simp only [Act.put, List.setIfInBounds_toArray, List.set_cons_zero, List.set_cons_succ]
      all_goals
        refine Calm.pure (v := ?_) (by rfl) ?_ ?_
        rotate_left
        focus (intro w hSw; go_simp <;> rfl)
        simp only [Act.put, List.setIfInBounds_toArray, List.set_cons_zero, List.set_cons_succ]
      all_goals
        refine Calm.pure (v := ?_) (by rfl) ?_ ?_
        rotate_left
        focus (intro w hSw; go_simp <;> rfl)
        simp only [Act.put, List.setIfInBounds_toArray, List.set_cons_zero, List.set_cons_succ]
      all_goals
        first
          | (refine Calm.skip ?_ ?_; focus rfl)
          | (refine Calm.loadT (by rfl) _ rfl rfl (fun _ h => by go_split_ands; assumption) ?_)
        simp only [Act.put, List.setIfInBounds_toArray, List.set_cons_zero, List.set_cons_succ]
      all_goals
        first
          | (refine Calm.skip ?_ ?_; focus rfl)
          | (refine Calm.loadT (by rfl) _ rfl rfl (fun _ h => by go_split_ands; assumption) ?_)
        simp only [Act.put, List.setIfInBounds_toArray, List.set_cons_zero, List.set_cons_succ]
      all_goals
        first
          | (refine Calm.skip ?_ ?_; focus rfl)
          | (refine Calm.call2s (by rfl) rfl rfl rfl (by kernel_rfl) hs (fun w1 h => rAp w1 h.2.2.2.2.2.2.2.2.2.2.1 h.2.2.2.2.2.2.2.2.2.2.2.1) ?_)
        simp only [Act.put, List.setIfInBounds_toArray, List.set_cons_zero, List.set_cons_succ]
      all_goals
        first
          | (refine Calm.skip ?_ ?_; focus rfl)
          | (refine Calm.loadT (by rfl) _ rfl rfl (fun _ h => by go_split_ands; assumption) ?_)
        simp only [Act.put, List.setIfInBounds_toArray, List.set_cons_zero, List.set_cons_succ]
      all_goals
        first
          | (refine Calm.skip ?_ ?_; focus rfl)
          | (refine Calm.loadT (by rfl) _ rfl rfl (fun _ h => by go_split_ands; assumption) ?_)
        simp only [Act.put, List.setIfInBounds_toArray, List.set_cons_zero, List.set_cons_succ]
      all_goals
        first
          | (refine Calm.skip ?_ ?_; focus rfl)
          | (refine Calm.call2s (by rfl) rfl rfl rfl (by kernel_rfl) hs (fun w1 h => rAp2 w1 h.2.2.2.2.2.2.2.2.2.2.1 h.2.2.2.2.2.2.2.2.2.2.2.1) ?_)
        simp only [Act.put, List.setIfInBounds_toArray, List.set_cons_zero, List.set_cons_succ]
      all_goals
        first
          | (refine Calm.skip ?_ ?_; focus rfl)
          | (refine Calm.pure (v := ?_) (by rfl) ?_ ?_
             rotate_left
             focus (intro w hSw; go_simp <;> rfl))
        simp only [Act.put, List.setIfInBounds_toArray, List.set_cons_zero, List.set_cons_succ]
      all_goals
        refine Calm.pure (v := ?_) (by rfl) ?_ ?_
        rotate_left
        focus (intro w hSw; go_simp <;> rfl)
        simp only [Act.put, List.setIfInBounds_toArray, List.set_cons_zero, List.set_cons_succ]
      all_goals
        refine Calm.pure (v := ?_) (by rfl) ?_ ?_
        rotate_left
        focus (intro w hSw; go_simp <;> rfl)
        simp only [Act.put, List.setIfInBounds_toArray, List.set_cons_zero, List.set_cons_succ]
      all_goals
        first
          | (refine Calm.skip ?_ ?_; focus rfl)
          | (refine Calm.loadT (by rfl) _ rfl rfl (fun _ h => by go_split_ands; assumption) ?_)
        simp only [Act.put, List.setIfInBounds_toArray, List.set_cons_zero, List.set_cons_succ]
      all_goals
        first
          | (refine Calm.skip ?_ ?_; focus rfl)
          | (refine Calm.pure (v := ?_) (by rfl) ?_ ?_
             rotate_left
             focus (intro w hSw; go_simp <;> rfl))
        simp only [Act.put, List.setIfInBounds_toArray, List.set_cons_zero, List.set_cons_succ]
      all_goals
        first
          | (refine Calm.skip ?_ ?_; focus rfl)
          | (refine Calm.call2s (by rfl) rfl rfl rfl (by kernel_rfl) hs (fun w1 h => rO w1 h.2.2.2.2.2.2.2.2.2.2.1) ?_)
        simp only [Act.put, List.setIfInBounds_toArray, List.set_cons_zero, List.set_cons_succ]
      all_goals
        first
          | (refine Calm.skip ?_ ?_; focus rfl)
          | (refine Calm.loadT (by rfl) _ rfl rfl (fun _ h => by go_split_ands; assumption) ?_)
        simp only [Act.put, List.setIfInBounds_toArray, List.set_cons_zero, List.set_cons_succ]
      all_goals
        first
          | (refine Calm.skip ?_ ?_; focus rfl)
          | (refine Calm.pure (v := ?_) (by rfl) ?_ ?_
             rotate_left
             focus (intro w hSw; go_simp <;> rfl))
        simp only [Act.put, List.setIfInBounds_toArray, List.set_cons_zero, List.set_cons_succ]
      all_goals
        first
          | (refine Calm.skip ?_ ?_; focus rfl)
          | (refine Calm.call2s (by rfl) rfl rfl rfl (by kernel_rfl) hs (fun w1 h => rO2 w1 h.2.2.2.2.2.2.2.2.2.2.1) ?_)
        simp only [Act.put, List.setIfInBounds_toArray, List.set_cons_zero, List.set_cons_succ]
      all_goals
        first
          | (refine Calm.skip ?_ ?_; focus rfl)
          | (refine Calm.pure (v := ?_) (by rfl) ?_ ?_
             rotate_left
             focus (intro w hSw; go_simp <;> rfl))
        simp only [Act.put, List.setIfInBounds_toArray, List.set_cons_zero, List.set_cons_succ]
      all_goals
        refine Calm.pure (v := ?_) (by rfl) ?_ ?_
        rotate_left
        focus (intro w hSw; go_simp <;> rfl)
        simp only [Act.put, List.setIfInBounds_toArray, List.set_cons_zero, List.set_cons_succ]
      all_goals
        refine Calm.pure (v := ?_) (by rfl) ?_ ?_
        rotate_left
        focus (intro w hSw; go_simp <;> rfl)
        simp only [Act.put, List.setIfInBounds_toArray, List.set_cons_zero, List.set_cons_succ]
      all_goals
        first
          | (refine Calm.skip ?_ ?_; focus rfl)
          | (refine Calm.loadT (by rfl) _ rfl rfl (fun _ h => by go_split_ands; assumption) ?_)
        simp only [Act.put, List.setIfInBounds_toArray, List.set_cons_zero, List.set_cons_succ]
      all_goals
        first
          | (refine Calm.skip ?_ ?_; focus rfl)
          | (refine Calm.call1s (by rfl) rfl rfl (by kernel_rfl) hs (fun w1 h => rH w1 h.2.2.2.2.2.2.2.2.2.2.1) ?_)
        simp only [Act.put, List.setIfInBounds_toArray, List.set_cons_zero, List.set_cons_succ]
      all_goals
        first
          | (refine Calm.skip ?_ ?_; focus rfl)
          | (refine Calm.loadT (by rfl) _ rfl rfl (fun _ h => by go_split_ands; assumption) ?_)
        simp only [Act.put, List.setIfInBounds_toArray, List.set_cons_zero, List.set_cons_succ]
      all_goals
        first
          | (refine Calm.skip ?_ ?_; focus rfl)
          | (refine Calm.call1s (by rfl) rfl rfl (by kernel_rfl) hs (fun w1 h => rH2 w1 h.2.2.2.2.2.2.2.2.2.2.1) ?_)
        simp only [Act.put, List.setIfInBounds_toArray, List.set_cons_zero, List.set_cons_succ]
      all_goals
        first
          | (refine Calm.skip ?_ ?_; focus rfl)
          | (refine Calm.pure (v := ?_) (by rfl) ?_ ?_
             rotate_left
             focus (intro w hSw; go_simp <;> rfl))
        simp only [Act.put, List.setIfInBounds_toArray, List.set_cons_zero, List.set_cons_succ]
      all_goals
        refine Calm.pure (v := ?_) (by rfl) ?_ ?_
        rotate_left
        focus (intro w hSw; go_simp <;> rfl)
        simp only [Act.put, List.setIfInBounds_toArray, List.set_cons_zero, List.set_cons_succ]
      all_goals
        refine Calm.pure (v := ?_) (by rfl) ?_ ?_
        rotate_left
        focus (intro w hSw; go_simp <;> rfl)
        simp only [Act.put, List.setIfInBounds_toArray, List.set_cons_zero, List.set_cons_succ]
      all_goals
        first
          | (refine Calm.skip ?_ ?_; focus rfl)
          | (refine Calm.call0 (by rfl) rfl (by kernel_rfl) hs heads_any ?_)
        simp only [Act.put, List.setIfInBounds_toArray, List.set_cons_zero, List.set_cons_succ]
      all_goals
        refine Calm.pure (v := ?_) (by rfl) ?_ ?_
        rotate_left
        focus (intro w hSw; go_simp <;> rfl)
        simp only [Act.put, List.setIfInBounds_toArray, List.set_cons_zero, List.set_cons_succ]
      all_goals
        refine Calm.pure (v := ?_) (by rfl) ?_ ?_
        rotate_left
        focus (intro w hSw; go_simp <;> rfl)
        simp only [Act.put, List.setIfInBounds_toArray, List.set_cons_zero, List.set_cons_succ]
      all_goals
        rintro w9 h
        have hbel9 := h.2.2.2.2.2.2.2.2.2.2.2.2.2.2.2.2.2.2.2.2
        clear h
        go_wp2
        go_ret
        exact ⟨rfl, hbel9⟩
end Go.Proofs.Ytdbkjafjanhhbaa
