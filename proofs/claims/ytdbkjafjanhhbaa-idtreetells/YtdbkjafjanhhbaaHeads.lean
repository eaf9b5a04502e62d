/- What must come at any rate (heads). -/
import Derived.Test.YtdbkjafjanhhbaaOwns
namespace Go.Proofs.Ytdbkjafjanhhbaa
open Go.RowKit

abbrev hA : ID := .node (.leaf true) (.leaf false)
abbrev hB : ID := .node (.leaf false) (.leaf true)
abbrev hP : ID := .node hA (.leaf false)
abbrev hQ : ID := .node hB (.leaf false)
theorem head_split1 (w : World) : Calls Try.prog 11 #[TV 1 none 0 0] w (GivesTE hA hB 0 w) := by
  have := split_any (.leaf true) 1 none 0 0 w (is_leaf w true none 0)
  rw [show splA (toTr (.leaf true)) = hA from eq_of_eqb (by decide +kernel), show splB (toTr (.leaf true)) = hB from eq_of_eqb (by decide +kernel), show splE (toTr (.leaf true)) = 0 by decide +kernel] at this
  exact this
theorem head_split0 (w : World) : Calls Try.prog 11 #[TV 0 none 0 0] w (GivesTE (.leaf false) (.leaf false) 7 w) := by
  have := split_any (.leaf false) 0 none 0 0 w (is_leaf w false none 0)
  rw [show splA (toTr (.leaf false)) = .leaf false from eq_of_eqb (by decide +kernel), show splB (toTr (.leaf false)) = .leaf false from eq_of_eqb (by decide +kernel), show splE (toTr (.leaf false)) = 7 by decide +kernel] at this
  exact this
theorem head_split2 (n : Int) (p : Option Addr) (l c : Nat) (w : World) (h : Is w hA (TV n p l c)) : Calls Try.prog 11 #[TV n p l c] w (GivesTE hP hQ 0 w) := by
  have := split_any hA n p l c w h
  rw [show splA (toTr hA) = hP from eq_of_eqb (by decide +kernel), show splB (toTr hA) = hQ from eq_of_eqb (by decide +kernel), show splE (toTr hA) = 0 by decide +kernel] at this
  exact this
theorem head_sum (n : Int) (p : Option Addr) (l c : Nat) (n' : Int) (p' : Option Addr) (l' c' : Nat) (w : World) (h : Is w hA (TV n p l c)) (h' : Is w hB (TV n' p' l' c')) : Calls Try.prog 13 #[TV n p l c, TV n' p' l' c'] w (GivesE (.leaf true) 0 w) := by
  have := sum_any hA hB n p l c n' p' l' c' w h h'
  rw [show sumX (toTr hA) (toTr hB) = .leaf true from eq_of_eqb (by decide +kernel), show sumE (toTr hA) (toTr hB) = 0 by decide +kernel] at this
  exact this
theorem head_joint (n : Int) (p : Option Addr) (l c : Nat) (w : World) (h : Is w hA (TV n p l c)) : Calls Try.prog 13 #[TV n p l c, TV 1 none 0 0] w (GivesE (.leaf false) 42 w) := by
  have := sum_any hA (.leaf true) n p l c 1 none 0 0 w h (is_leaf w true none 0)
  rw [show sumX (toTr hA) (toTr (.leaf true)) = .leaf false from eq_of_eqb (by decide +kernel), show sumE (toTr hA) (toTr (.leaf true)) = 42 by decide +kernel] at this
  exact this
theorem head_norm (q : Nat) (w : World) (h : Is w (.node (.leaf true) (.leaf true)) (TV 0 (some ⟨q, 0, none⟩) 2 2)) : Calls Try.prog 9 #[TV 0 (some ⟨q, 0, none⟩) 2 2] w (GivesE (.leaf true) 0 w) := by
  have := norm_any (.node (.leaf true) (.leaf true)) 0 (some ⟨q, 0, none⟩) 2 2 w h (by decide)
  rw [show norm (.node (.leaf true) (.leaf true)) = .leaf true from eq_of_eqb (by decide +kernel)] at this
  exact this
theorem head_same (n : Int) (p : Option Addr) (l c : Nat) (w : World) (h : Is w (.leaf true) (TV n p l c)) : Calls Try.prog 17 #[TV n p l c, TV 1 none 0 0] w fun e w' => e = .returned (.bool true) ∧ Below w.heap.size w w' := by
  have := same_any (.leaf true) (.leaf true) n p l c 1 none 0 0 w h (is_leaf w true none 0)
  rwa [show eqb (ID.leaf true) (ID.leaf true) = true from rfl] at this
theorem head_share (n : Int) (p : Option Addr) (l c : Nat) (w : World) (h : Is w hP (TV n p l c)) : Calls Try.prog 22 #[TV n p l c] w fun e w' => e = .returned (.int .i64 16384) ∧ Below w.heap.size w w' := by
  have := share_any hP n p l c w h
  rwa [show shareT (toTr hP) = 16384 by decide +kernel] at this
theorem head_apart (n : Int) (p : Option Addr) (l c : Nat) (n' : Int) (p' : Option Addr) (l' c' : Nat) (w : World) (h : Is w hP (TV n p l c)) (h' : Is w hQ (TV n' p' l' c')) : Calls Try.prog 18 #[TV n p l c, TV n' p' l' c'] w fun e w' => e = .returned (.bool true) ∧ Below w.heap.size w w' := by
  have := apart_any hP hQ n p l c n' p' l' c' w h h'
  rwa [show (sumE (toTr hP) (toTr hQ) == 0) = true by decide +kernel] at this
theorem head_not (n : Int) (p : Option Addr) (l c : Nat) (n' : Int) (p' : Option Addr) (l' c' : Nat) (w : World) (h : Is w hA (TV n p l c)) (h' : Is w hP (TV n' p' l' c')) : Calls Try.prog 18 #[TV n p l c, TV n' p' l' c'] w fun e w' => e = .returned (.bool false) ∧ Below w.heap.size w w' := by
  have := apart_any hA hP n p l c n' p' l' c' w h h'
  rwa [show (sumE (toTr hA) (toTr hP) == 0) = false by decide +kernel] at this
theorem head_owns (n : Int) (p : Option Addr) (l c : Nat) (w : World) (h : Is w hA (TV n p l c)) : Calls Try.prog 20 #[TV n p l c, .int .i64 0] w fun e w' => e = .returned (.bool true) ∧ Below w.heap.size w w' := by
  have := owns_any hA 0 n p l c w h
  rwa [show ownsT (toTr hA) 0 = true by decide +kernel] at this
theorem head_owns2 (n : Int) (p : Option Addr) (l c : Nat) (w : World) (h : Is w hA (TV n p l c)) : Calls Try.prog 20 #[TV n p l c, .int .i64 65535] w fun e w' => e = .returned (.bool false) ∧ Below w.heap.size w w' := by
  have := owns_any hA 65535 n p l c w h
  rwa [show ownsT (toTr hA) 65535 = false by decide +kernel] at this
theorem head_check (n : Int) (p : Option Addr) (l c : Nat) (w : World) (h : Is w hA (TV n p l c)) : Calls Try.prog 15 #[TV n p l c] w fun e w' => e = .returned (.bool true) ∧ Below w.heap.size w w' := by
  have := check_any hA n p l c w h
  rwa [show ok hA = true by decide +kernel] at this

set_option maxHeartbeats 8000000 in
set_option maxRecDepth 100000 in
theorem heads_any (w : World) : Calls Try.prog 8 #[] w fun e w' => e = .returned (.bool true) ∧ Below w.heap.size w w' := by
  have hbx := new_box w 1 none 0 0
  have hbel := new_below w 1 none 0 0
  generalize hw0 : (w.alloc (.cells #[.int .i64 0, .slice none 0 0] 24)).setRow w.heap.size #[.int .i64 1, .slice none 0 0] = w0 at hbx hbel
  go_enter Try.func8, Try.ntmps8
  go_wp2_with (first | rw [hw0] | refine store_t rfl _ _ rfl _ 1 none 0 0 rfl rfl (bx_new w 0 none 0 0) ?_ | refine load_t _ rfl rfl _ _ rfl hbx.tat ?_)
  clear hw0
  refine (head_split1 w0).mono ?_
  rintro e w1 ⟨na, pa, la, ca, nb, pb, lb, cb, rfl, ia, ib, hb1⟩
  replace hbx := hbx.later hb1
  replace hbel := below_on hbel hb1
  clear hb1
  have m0 := two_new0 w1
  have m1 := two_new1 w1 na pa la ca
  obtain ⟨ba, bb, hb1⟩ := two_new w1 na pa la ca nb pb lb cb _ rfl
  generalize hw : (((w1.alloc (.cells #[.int .i64 0, .slice none 0 0] 24)).alloc (.cells #[.int .i64 0, .slice none 0 0] 24)).setRow w1.heap.size #[.int .i64 na, .slice pa la ca]).setRow (w1.heap.size + 1) #[.int .i64 nb, .slice pb lb cb] = v1 at ba bb hb1
  replace hbx := hbx.later hb1
  replace ia := ia.later hb1
  replace ib := ib.later hb1
  replace hbel := below_on hbel hb1
  clear hb1
  go_wp2_with (first | rw [hw] | refine store_t rfl _ _ rfl _ na pa la ca rfl rfl m0 ?_ | refine store_t rfl _ _ rfl _ nb pb lb cb rfl rfl m1 ?_ | refine load_t _ rfl rfl _ _ rfl hbx.tat ?_ | refine load_t _ rfl rfl _ _ rfl ba.tat ?_ | refine load_t _ rfl rfl _ _ rfl bb.tat ?_)
  clear m0 m1 hw
  refine (head_sum _ _ _ _ _ _ _ _ _ ia ib).mono ?_
  rintro e w2 ⟨ns, ps, ls, cs, rfl, is, hb1⟩
  replace hbx := hbx.later hb1
  replace ia := ia.later hb1
  replace ib := ib.later hb1
  replace ba := ba.later hb1
  replace bb := bb.later hb1
  replace hbel := below_on hbel hb1
  clear hb1
  have m0 := bx_new w2 0 none 0 0
  have bs := new_box w2 ns ps ls cs
  have hb1 := new_below w2 ns ps ls cs
  generalize hw : (w2.alloc (.cells #[.int .i64 0, .slice none 0 0] 24)).setRow w2.heap.size #[.int .i64 ns, .slice ps ls cs] = v2 at bs hb1
  replace hbx := hbx.later hb1
  replace ia := ia.later hb1
  replace ib := ib.later hb1
  replace ba := ba.later hb1
  replace bb := bb.later hb1
  replace is := is.later hb1
  replace hbel := below_on hbel hb1
  clear hb1
  go_wp2_with (first | rw [hw] | refine store_t rfl _ _ rfl _ ns ps ls cs rfl rfl m0 ?_ | refine load_t _ rfl rfl _ _ rfl hbx.tat ?_ | refine load_t _ rfl rfl _ _ rfl ba.tat ?_ | refine load_t _ rfl rfl _ _ rfl bb.tat ?_ | refine load_t _ rfl rfl _ _ rfl bs.tat ?_)
  clear m0 hw
  refine (head_split0 _).mono ?_
  rintro e w3 ⟨nu, pu, lu, cu, nt, pt, lt, ct, rfl, iu, it, hb1⟩
  replace hbx := hbx.later hb1
  replace ia := ia.later hb1
  replace ib := ib.later hb1
  replace ba := ba.later hb1
  replace bb := bb.later hb1
  replace is := is.later hb1
  replace bs := bs.later hb1
  replace hbel := below_on hbel hb1
  clear hb1
  have m0 := two_new0 w3
  have m1 := two_new1 w3 nu pu lu cu
  obtain ⟨bu, bt, hb1⟩ := two_new w3 nu pu lu cu nt pt lt ct _ rfl
  generalize hw : (((w3.alloc (.cells #[.int .i64 0, .slice none 0 0] 24)).alloc (.cells #[.int .i64 0, .slice none 0 0] 24)).setRow w3.heap.size #[.int .i64 nu, .slice pu lu cu]).setRow (w3.heap.size + 1) #[.int .i64 nt, .slice pt lt ct] = v3 at bu bt hb1
  replace hbx := hbx.later hb1
  replace ia := ia.later hb1
  replace ib := ib.later hb1
  replace ba := ba.later hb1
  replace bb := bb.later hb1
  replace is := is.later hb1
  replace bs := bs.later hb1
  replace hbel := below_on hbel hb1
  clear hb1
  go_wp2_with (first | rw [hw] | refine store_t rfl _ _ rfl _ nu pu lu cu rfl rfl m0 ?_ | refine store_t rfl _ _ rfl _ nt pt lt ct rfl rfl m1 ?_ | refine load_t _ rfl rfl _ _ rfl hbx.tat ?_ | refine load_t _ rfl rfl _ _ rfl ba.tat ?_ | refine load_t _ rfl rfl _ _ rfl bb.tat ?_ | refine load_t _ rfl rfl _ _ rfl bs.tat ?_)
  clear m0 m1 hw
  clear iu it bu bt
  refine (head_joint _ _ _ _ _ ia).mono ?_
  rintro e w4 ⟨nj, pj, lj, cj, rfl, ij, hb1⟩
  replace hbx := hbx.later hb1
  replace ia := ia.later hb1
  replace ib := ib.later hb1
  replace ba := ba.later hb1
  replace bb := bb.later hb1
  replace is := is.later hb1
  replace bs := bs.later hb1
  replace hbel := below_on hbel hb1
  clear hb1
  have m0 := bx_new w4 0 none 0 0
  have bj := new_box w4 nj pj lj cj
  have hb1 := new_below w4 nj pj lj cj
  generalize hw : (w4.alloc (.cells #[.int .i64 0, .slice none 0 0] 24)).setRow w4.heap.size #[.int .i64 nj, .slice pj lj cj] = v4 at bj hb1
  replace hbx := hbx.later hb1
  replace ia := ia.later hb1
  replace ib := ib.later hb1
  replace ba := ba.later hb1
  replace bb := bb.later hb1
  replace is := is.later hb1
  replace bs := bs.later hb1
  replace hbel := below_on hbel hb1
  clear hb1
  go_wp2_with (first | rw [hw] | refine store_t rfl _ _ rfl _ nj pj lj cj rfl rfl m0 ?_ | refine load_t _ rfl rfl _ _ rfl hbx.tat ?_ | refine load_t _ rfl rfl _ _ rfl ba.tat ?_ | refine load_t _ rfl rfl _ _ rfl bb.tat ?_ | refine load_t _ rfl rfl _ _ rfl bs.tat ?_)
  clear m0 hw
  clear ij bj
  refine (head_split2 _ _ _ _ _ ia).mono ?_
  rintro e w5 ⟨np, pp, lp, cp, nq, pq, lq, cq, rfl, ip, iq, hb1⟩
  replace hbx := hbx.later hb1
  replace ia := ia.later hb1
  replace ib := ib.later hb1
  replace ba := ba.later hb1
  replace bb := bb.later hb1
  replace is := is.later hb1
  replace bs := bs.later hb1
  replace hbel := below_on hbel hb1
  clear hb1
  have m0 := two_new0 w5
  have m1 := two_new1 w5 np pp lp cp
  obtain ⟨bp, bq, hb1⟩ := two_new w5 np pp lp cp nq pq lq cq _ rfl
  generalize hw : (((w5.alloc (.cells #[.int .i64 0, .slice none 0 0] 24)).alloc (.cells #[.int .i64 0, .slice none 0 0] 24)).setRow w5.heap.size #[.int .i64 np, .slice pp lp cp]).setRow (w5.heap.size + 1) #[.int .i64 nq, .slice pq lq cq] = v5 at bp bq hb1
  replace hbx := hbx.later hb1
  replace ia := ia.later hb1
  replace ib := ib.later hb1
  replace ba := ba.later hb1
  replace bb := bb.later hb1
  replace is := is.later hb1
  replace bs := bs.later hb1
  replace ip := ip.later hb1
  replace iq := iq.later hb1
  replace hbel := below_on hbel hb1
  clear hb1
  obtain ⟨t1, t2, hb1⟩ := row_tats v5 1 none 0 0 1 none 0 0 _ rfl
  generalize hwr : v5.alloc (.cells #[.int .i64 1, .slice none 0 0, .int .i64 1, .slice none 0 0] 24) = vr at t1 t2 hb1
  go_wp2_with (first | rw [hw] | refine store_t rfl _ _ rfl _ np pp lp cp rfl rfl m0 ?_ | refine store_t rfl _ _ rfl _ nq pq lq cq rfl rfl m1 ?_ | rw [hwr] | refine load_t _ rfl rfl _ _ rfl hbx.tat ?_ | refine load_t _ rfl rfl _ _ rfl ba.tat ?_ | refine load_t _ rfl rfl _ _ rfl bb.tat ?_ | refine load_t _ rfl rfl _ _ rfl bs.tat ?_ | refine load_t _ rfl rfl _ _ rfl bp.tat ?_ | refine load_t _ rfl rfl _ _ rfl bq.tat ?_)
  clear m0 m1 hw
  clear hwr
  replace hbx := hbx.later hb1
  replace ia := ia.later hb1
  replace ib := ib.later hb1
  replace ba := ba.later hb1
  replace bb := bb.later hb1
  replace is := is.later hb1
  replace bs := bs.later hb1
  replace ip := ip.later hb1
  replace iq := iq.later hb1
  replace bp := bp.later hb1
  replace bq := bq.later hb1
  replace hbel := below_on hbel hb1
  clear hb1
  have inn : Is vr (.node (.leaf true) (.leaf true)) (TV 0 (some ⟨v5.heap.size, 0, none⟩) 2 2) := ⟨_, _, _, _, _, _, _, _, _, _, _, rfl, t1, t2, is_leaf _ true _ _, is_leaf _ true _ _⟩
  clear t1 t2
  refine (head_norm _ _ inn).mono ?_
  rintro e w6 ⟨nn, pn, ln, cn, rfl, inm, hb1⟩
  replace hbx := hbx.later hb1
  replace ia := ia.later hb1
  replace ib := ib.later hb1
  replace ba := ba.later hb1
  replace bb := bb.later hb1
  replace is := is.later hb1
  replace bs := bs.later hb1
  replace ip := ip.later hb1
  replace iq := iq.later hb1
  replace bp := bp.later hb1
  replace bq := bq.later hb1
  replace hbel := below_on hbel hb1
  clear hb1
  have m0 := bx_new w6 0 none 0 0
  have bn := new_box w6 nn pn ln cn
  have hb1 := new_below w6 nn pn ln cn
  generalize hw : (w6.alloc (.cells #[.int .i64 0, .slice none 0 0] 24)).setRow w6.heap.size #[.int .i64 nn, .slice pn ln cn] = v6 at bn hb1
  replace hbx := hbx.later hb1
  replace ia := ia.later hb1
  replace ib := ib.later hb1
  replace ba := ba.later hb1
  replace bb := bb.later hb1
  replace is := is.later hb1
  replace bs := bs.later hb1
  replace ip := ip.later hb1
  replace iq := iq.later hb1
  replace bp := bp.later hb1
  replace bq := bq.later hb1
  replace inm := inm.later hb1
  replace hbel := below_on hbel hb1
  clear hb1
  clear inn
  go_wp2_with (first | rw [hw] | refine store_t rfl _ _ rfl _ nn pn ln cn rfl rfl m0 ?_ | refine load_t _ rfl rfl _ _ rfl hbx.tat ?_ | refine load_t _ rfl rfl _ _ rfl ba.tat ?_ | refine load_t _ rfl rfl _ _ rfl bb.tat ?_ | refine load_t _ rfl rfl _ _ rfl bs.tat ?_ | refine load_t _ rfl rfl _ _ rfl bp.tat ?_ | refine load_t _ rfl rfl _ _ rfl bq.tat ?_ | refine load_t _ rfl rfl _ _ rfl bn.tat ?_)
  clear m0 hw
  refine (head_same _ _ _ _ _ is).mono ?_
  rintro e w7 ⟨rfl, hb1⟩
  replace hbx := hbx.later hb1
  replace ia := ia.later hb1
  replace ib := ib.later hb1
  replace ba := ba.later hb1
  replace bb := bb.later hb1
  replace is := is.later hb1
  replace bs := bs.later hb1
  replace ip := ip.later hb1
  replace iq := iq.later hb1
  replace bp := bp.later hb1
  replace bq := bq.later hb1
  replace inm := inm.later hb1
  replace bn := bn.later hb1
  replace hbel := below_on hbel hb1
  clear hb1
  go_wp2_with (first | refine load_t _ rfl rfl _ _ rfl hbx.tat ?_ | refine load_t _ rfl rfl _ _ rfl ba.tat ?_ | refine load_t _ rfl rfl _ _ rfl bb.tat ?_ | refine load_t _ rfl rfl _ _ rfl bs.tat ?_ | refine load_t _ rfl rfl _ _ rfl bp.tat ?_ | refine load_t _ rfl rfl _ _ rfl bq.tat ?_ | refine load_t _ rfl rfl _ _ rfl bn.tat ?_)
  refine (head_share _ _ _ _ _ ip).mono ?_
  rintro e w8 ⟨rfl, hb1⟩
  replace hbx := hbx.later hb1
  replace ia := ia.later hb1
  replace ib := ib.later hb1
  replace ba := ba.later hb1
  replace bb := bb.later hb1
  replace is := is.later hb1
  replace bs := bs.later hb1
  replace ip := ip.later hb1
  replace iq := iq.later hb1
  replace bp := bp.later hb1
  replace bq := bq.later hb1
  replace inm := inm.later hb1
  replace bn := bn.later hb1
  replace hbel := below_on hbel hb1
  clear hb1
  go_wp2_with (first | refine load_t _ rfl rfl _ _ rfl hbx.tat ?_ | refine load_t _ rfl rfl _ _ rfl ba.tat ?_ | refine load_t _ rfl rfl _ _ rfl bb.tat ?_ | refine load_t _ rfl rfl _ _ rfl bs.tat ?_ | refine load_t _ rfl rfl _ _ rfl bp.tat ?_ | refine load_t _ rfl rfl _ _ rfl bq.tat ?_ | refine load_t _ rfl rfl _ _ rfl bn.tat ?_)
  refine (head_apart _ _ _ _ _ _ _ _ _ ip iq).mono ?_
  rintro e w9 ⟨rfl, hb1⟩
  replace hbx := hbx.later hb1
  replace ia := ia.later hb1
  replace ib := ib.later hb1
  replace ba := ba.later hb1
  replace bb := bb.later hb1
  replace is := is.later hb1
  replace bs := bs.later hb1
  replace ip := ip.later hb1
  replace iq := iq.later hb1
  replace bp := bp.later hb1
  replace bq := bq.later hb1
  replace inm := inm.later hb1
  replace bn := bn.later hb1
  replace hbel := below_on hbel hb1
  clear hb1
  go_wp2_with (first | refine load_t _ rfl rfl _ _ rfl hbx.tat ?_ | refine load_t _ rfl rfl _ _ rfl ba.tat ?_ | refine load_t _ rfl rfl _ _ rfl bb.tat ?_ | refine load_t _ rfl rfl _ _ rfl bs.tat ?_ | refine load_t _ rfl rfl _ _ rfl bp.tat ?_ | refine load_t _ rfl rfl _ _ rfl bq.tat ?_ | refine load_t _ rfl rfl _ _ rfl bn.tat ?_)
  refine (head_not _ _ _ _ _ _ _ _ _ ia ip).mono ?_
  rintro e w10 ⟨rfl, hb1⟩
  replace hbx := hbx.later hb1
  replace ia := ia.later hb1
  replace ib := ib.later hb1
  replace ba := ba.later hb1
  replace bb := bb.later hb1
  replace is := is.later hb1
  replace bs := bs.later hb1
  replace ip := ip.later hb1
  replace iq := iq.later hb1
  replace bp := bp.later hb1
  replace bq := bq.later hb1
  replace inm := inm.later hb1
  replace bn := bn.later hb1
  replace hbel := below_on hbel hb1
  clear hb1
  go_wp2_with (first | refine load_t _ rfl rfl _ _ rfl hbx.tat ?_ | refine load_t _ rfl rfl _ _ rfl ba.tat ?_ | refine load_t _ rfl rfl _ _ rfl bb.tat ?_ | refine load_t _ rfl rfl _ _ rfl bs.tat ?_ | refine load_t _ rfl rfl _ _ rfl bp.tat ?_ | refine load_t _ rfl rfl _ _ rfl bq.tat ?_ | refine load_t _ rfl rfl _ _ rfl bn.tat ?_)
  refine (head_owns _ _ _ _ _ ia).mono ?_
  rintro e w11 ⟨rfl, hb1⟩
  replace hbx := hbx.later hb1
  replace ia := ia.later hb1
  replace ib := ib.later hb1
  replace ba := ba.later hb1
  replace bb := bb.later hb1
  replace is := is.later hb1
  replace bs := bs.later hb1
  replace ip := ip.later hb1
  replace iq := iq.later hb1
  replace bp := bp.later hb1
  replace bq := bq.later hb1
  replace inm := inm.later hb1
  replace bn := bn.later hb1
  replace hbel := below_on hbel hb1
  clear hb1
  go_wp2_with (first | refine load_t _ rfl rfl _ _ rfl hbx.tat ?_ | refine load_t _ rfl rfl _ _ rfl ba.tat ?_ | refine load_t _ rfl rfl _ _ rfl bb.tat ?_ | refine load_t _ rfl rfl _ _ rfl bs.tat ?_ | refine load_t _ rfl rfl _ _ rfl bp.tat ?_ | refine load_t _ rfl rfl _ _ rfl bq.tat ?_ | refine load_t _ rfl rfl _ _ rfl bn.tat ?_)
  refine (head_owns2 _ _ _ _ _ ia).mono ?_
  rintro e w12 ⟨rfl, hb1⟩
  replace hbx := hbx.later hb1
  replace ia := ia.later hb1
  replace ib := ib.later hb1
  replace ba := ba.later hb1
  replace bb := bb.later hb1
  replace is := is.later hb1
  replace bs := bs.later hb1
  replace ip := ip.later hb1
  replace iq := iq.later hb1
  replace bp := bp.later hb1
  replace bq := bq.later hb1
  replace inm := inm.later hb1
  replace bn := bn.later hb1
  replace hbel := below_on hbel hb1
  clear hb1
  go_wp2_with (first | refine load_t _ rfl rfl _ _ rfl hbx.tat ?_ | refine load_t _ rfl rfl _ _ rfl ba.tat ?_ | refine load_t _ rfl rfl _ _ rfl bb.tat ?_ | refine load_t _ rfl rfl _ _ rfl bs.tat ?_ | refine load_t _ rfl rfl _ _ rfl bp.tat ?_ | refine load_t _ rfl rfl _ _ rfl bq.tat ?_ | refine load_t _ rfl rfl _ _ rfl bn.tat ?_)
  refine (head_same _ _ _ _ _ inm).mono ?_
  rintro e w13 ⟨rfl, hb1⟩
  replace hbx := hbx.later hb1
  replace ia := ia.later hb1
  replace ib := ib.later hb1
  replace ba := ba.later hb1
  replace bb := bb.later hb1
  replace is := is.later hb1
  replace bs := bs.later hb1
  replace ip := ip.later hb1
  replace iq := iq.later hb1
  replace bp := bp.later hb1
  replace bq := bq.later hb1
  replace inm := inm.later hb1
  replace bn := bn.later hb1
  replace hbel := below_on hbel hb1
  clear hb1
  go_wp2_with (first | refine load_t _ rfl rfl _ _ rfl hbx.tat ?_ | refine load_t _ rfl rfl _ _ rfl ba.tat ?_ | refine load_t _ rfl rfl _ _ rfl bb.tat ?_ | refine load_t _ rfl rfl _ _ rfl bs.tat ?_ | refine load_t _ rfl rfl _ _ rfl bp.tat ?_ | refine load_t _ rfl rfl _ _ rfl bq.tat ?_ | refine load_t _ rfl rfl _ _ rfl bn.tat ?_)
  refine (head_check _ _ _ _ _ ia).mono ?_
  rintro e w14 ⟨rfl, hb1⟩
  replace hbx := hbx.later hb1
  replace ia := ia.later hb1
  replace ib := ib.later hb1
  replace ba := ba.later hb1
  replace bb := bb.later hb1
  replace is := is.later hb1
  replace bs := bs.later hb1
  replace ip := ip.later hb1
  replace iq := iq.later hb1
  replace bp := bp.later hb1
  replace bq := bq.later hb1
  replace inm := inm.later hb1
  replace bn := bn.later hb1
  replace hbel := below_on hbel hb1
  clear hb1
  go_wp2_with fail
  go_ret
  exact ⟨rfl, hbel⟩
end Go.Proofs.Ytdbkjafjanhhbaa
