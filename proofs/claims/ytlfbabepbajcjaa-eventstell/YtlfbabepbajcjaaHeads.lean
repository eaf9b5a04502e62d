/- What the functions of package events answer at trees that may be; what must come at any rate (heads). -/
import Derived.Test.YtlfbabepbajcjaaAt
import Derived.Test.YtlfbabepbajcjaaSame
namespace Go.Proofs.Ytlfbabepbajcjaa
open Go.RowKit

theorem lies_ok {w : World} {x : EV} {v : Value} (h : Is w x v) (hk : ok x = true) : Lies w (toTr x) v := lies_is x 16 1073741824 v (ok_parts hk).1 (by omega) h
theorem join_any (x y : EV) (n : Int) (p : Option Addr) (l c : Nat) (n' : Int) (p' : Option Addr) (l' c' : Nat) (w : World) (hx : Is w x (TV n p l c)) (hy : Is w y (TV n' p' l' c')) (kx : ok x = true) (ky : ok y = true) :
    Calls Try.prog 13 #[TV n p l c, TV n' p' l' c'] w (GivesE (join 16 x y) 0 w) := by
  have := join_tr (toTr x) (toTr y) n p l c n' p' l' c' w (lies_ok hx kx) (lies_ok hy ky)
  rw [jnX, jnE, okT_to, okT_to, evOf_to, evOf_to, kx, ky] at this
  exact this
theorem leq_any (x y : EV) (n : Int) (p : Option Addr) (l c : Nat) (n' : Int) (p' : Option Addr) (l' c' : Nat) (w : World) (hx : Is w x (TV n p l c)) (hy : Is w y (TV n' p' l' c')) (kx : ok x = true) (ky : ok y = true) :
    Calls Try.prog 16 #[TV n p l c, TV n' p' l' c'] w (Tells (.bool (leq 16 x y)) w) := by
  have := leq_tr (toTr x) (toTr y) n p l c n' p' l' c' w (lies_ok hx kx) (lies_ok hy ky)
  rw [lqT, okT_to, okT_to, evOf_to, evOf_to, kx, ky] at this
  exact this
/-- The count at a place, or 0. -/
def atX (x : EV) (m : Int) : Int := if 0 ≤ m ∧ m < 65536 then val 16 x m.toNat else 0
theorem at_any (x : EV) (m : Int) (n : Int) (p : Option Addr) (l c : Nat) (w : World) (hx : Is w x (TV n p l c)) (kx : ok x = true) : Calls Try.prog 18 #[TV n p l c, .int .i64 m] w (Tells (.int .i64 (atX x m)) w) := by
  have := at_tr (toTr x) m n p l c w (lies_ok hx kx)
  rw [atT, okT_to, evOf_to, kx] at this
  unfold atX
  simpa using this
theorem least_any (x : EV) (n : Int) (p : Option Addr) (l c : Nat) (w : World) (hx : Is w x (TV n p l c)) (kx : ok x = true) : Calls Try.prog 20 #[TV n p l c] w (Tells (.int .i64 (low x)) w) := by
  have := least_tr (toTr x) n p l c w (lies_ok hx kx)
  rw [loT, okT_to, evOf_to, kx] at this
  exact this
theorem greatest_any (x : EV) (n : Int) (p : Option Addr) (l c : Nat) (w : World) (hx : Is w x (TV n p l c)) (kx : ok x = true) : Calls Try.prog 22 #[TV n p l c] w (Tells (.int .i64 (high x)) w) := by
  have := greatest_tr (toTr x) n p l c w (lies_ok hx kx)
  rw [hiT, okT_to, evOf_to, kx] at this
  exact this

abbrev hA : EV := .node 1 (.leaf 0) (.leaf 2)
abbrev hB : EV := .node 0 (.leaf 0) (.leaf 2)
abbrev hO : EV := .leaf 1
abbrev hJ : EV := .node 1 (.leaf 0) (.leaf 1)
theorem okA : ok hA = true := by decide +kernel
theorem okB : ok hB = true := by decide +kernel
theorem okO : ok hO = true := by decide +kernel
theorem joinBO : join 16 hB hO = hJ := by
  show mk (join 15 (.leaf 0) (.leaf 1)) (join 15 (.leaf 2) (.leaf 1)) = _
  rw [join_leaf, join_leaf]
  exact eq_of_eqb (by decide +kernel)
theorem leqBA : leq 16 hB hA = true := by
  show (leq 15 (.leaf 0) (.leaf 1) && leq 15 (.leaf 2) (.leaf 3)) = _
  rw [leq_leaf, leq_leaf]
  decide
theorem leqAB : leq 16 hA hB = false := by
  show (leq 15 (.leaf 1) (.leaf 0) && leq 15 (.leaf 3) (.leaf 2)) = _
  rw [leq_leaf, leq_leaf]
  decide
theorem leqOB : leq 16 hO hB = false := by
  show (leq 15 (.leaf 1) (.leaf 0) && leq 15 (.leaf 1) (.leaf 2)) = _
  rw [leq_leaf, leq_leaf]
  decide
theorem atA0 : atX hA 0 = 1 := by
  show val 16 hA 0 = _
  show val 15 (if Nat.testBit 0 15 then .leaf 3 else .leaf 1) 0 = _
  rw [if_neg (by decide), val_leaf]
theorem atA1 : atX hA 65535 = 3 := by
  show val 16 hA 65535 = _
  show val 15 (if Nat.testBit 65535 15 then .leaf 3 else .leaf 1) 65535 = _
  rw [if_pos (by decide), val_leaf]
theorem head_join (n : Int) (p : Option Addr) (l c : Nat) (w : World) (h : Is w hB (TV n p l c)) : Calls Try.prog 13 #[TV n p l c, TV 1 none 0 0] w (GivesE hJ 0 w) := by
  have := join_any hB hO n p l c 1 none 0 0 w h (is_leaf w 1 none 0) okB okO
  rwa [joinBO] at this
theorem head_norm (n : Int) (p : Option Addr) (l c : Nat) (w : World) (h : Is w (.node 0 (.leaf 2) (.leaf 2)) (TV n p l c)) : Calls Try.prog 9 #[TV n p l c] w (GivesE (.leaf 2) 0 w) := by
  have := norm_any (.node 0 (.leaf 2) (.leaf 2)) n p l c w h (by decide +kernel)
  rwa [show norm (.node 0 (.leaf 2) (.leaf 2)) = .leaf 2 from eq_of_eqb (by decide +kernel)] at this
theorem head_bad (w : World) : Calls Try.prog 9 #[TV (-1) none 0 0] w (GivesE (.leaf 0) 3 w) := by
  have := norm_tr ⟨-1, 0, fun i => i.elim0⟩ (-1) none 0 0 w ⟨by decide, by decide, none, 0, rfl, fun h => by omega⟩
  exact this
theorem head_check (n : Int) (p : Option Addr) (l c : Nat) (w : World) (h : Is w hA (TV n p l c)) : Calls Try.prog 10 #[TV n p l c] w (Tells (.bool true) w) := by
  have := check_any hA n p l c w h (ok_parts okA).1
  rwa [(ok_parts okA).2] at this
theorem head_at0 (n : Int) (p : Option Addr) (l c : Nat) (w : World) (h : Is w hA (TV n p l c)) : Calls Try.prog 18 #[TV n p l c, .int .i64 0] w (Tells (.int .i64 1) w) := by
  have := at_any hA 0 n p l c w h okA
  rwa [atA0] at this
theorem head_at1 (n : Int) (p : Option Addr) (l c : Nat) (w : World) (h : Is w hA (TV n p l c)) : Calls Try.prog 18 #[TV n p l c, .int .i64 65535] w (Tells (.int .i64 3) w) := by
  have := at_any hA 65535 n p l c w h okA
  rwa [atA1] at this
theorem head_least (n : Int) (p : Option Addr) (l c : Nat) (w : World) (h : Is w hA (TV n p l c)) : Calls Try.prog 20 #[TV n p l c] w (Tells (.int .i64 1) w) := by
  have := least_any hA n p l c w h okA
  rwa [show low hA = 1 by decide +kernel] at this
theorem head_greatest (n : Int) (p : Option Addr) (l c : Nat) (w : World) (h : Is w hA (TV n p l c)) : Calls Try.prog 22 #[TV n p l c] w (Tells (.int .i64 3) w) := by
  have := greatest_any hA n p l c w h okA
  rwa [show high hA = 3 by decide +kernel] at this
theorem head_sameJ (n : Int) (p : Option Addr) (l c : Nat) (n' : Int) (p' : Option Addr) (l' c' : Nat) (w : World) (h : Is w hJ (TV n p l c)) (h' : Is w hJ (TV n' p' l' c')) : Calls Try.prog 11 #[TV n p l c, TV n' p' l' c'] w (Tells (.bool true) w) := by
  have := same_any hJ hJ n p l c n' p' l' c' w h h'
  rwa [eqb_refl] at this
theorem head_same2 (n : Int) (p : Option Addr) (l c : Nat) (w : World) (h : Is w (.leaf 2) (TV n p l c)) : Calls Try.prog 11 #[TV n p l c, TV 2 none 0 0] w (Tells (.bool true) w) := by
  have := same_any (.leaf 2) (.leaf 2) n p l c 2 none 0 0 w h (is_leaf w 2 none 0)
  rwa [eqb_refl] at this
theorem head_leqBA (n : Int) (p : Option Addr) (l c : Nat) (n' : Int) (p' : Option Addr) (l' c' : Nat) (w : World) (h : Is w hB (TV n p l c)) (h' : Is w hA (TV n' p' l' c')) : Calls Try.prog 16 #[TV n p l c, TV n' p' l' c'] w (Tells (.bool true) w) := by
  have := leq_any hB hA n p l c n' p' l' c' w h h' okB okA
  rwa [leqBA] at this
theorem head_leqAB (n : Int) (p : Option Addr) (l c : Nat) (n' : Int) (p' : Option Addr) (l' c' : Nat) (w : World) (h : Is w hA (TV n p l c)) (h' : Is w hB (TV n' p' l' c')) : Calls Try.prog 16 #[TV n p l c, TV n' p' l' c'] w (Tells (.bool false) w) := by
  have := leq_any hA hB n p l c n' p' l' c' w h h' okA okB
  rwa [leqAB] at this
theorem head_leqOB (n' : Int) (p' : Option Addr) (l' c' : Nat) (w : World) (h' : Is w hB (TV n' p' l' c')) : Calls Try.prog 16 #[TV 1 none 0 0, TV n' p' l' c'] w (Tells (.bool false) w) := by
  have := leq_any hO hB 1 none 0 0 n' p' l' c' w (is_leaf w 1 none 0) h' okO okB
  rwa [leqOB] at this

theorem made0 (w : World) (cs : Array Value) : Bx ((w.alloc (.cells cs 24)).alloc (.cells #[.int .i64 0, .slice none 0 0] 24)) (w.heap.size + 1) 0 none 0 0 := bx_next _ (by simp) 0 none 0 0
theorem made (w : World) (n x y : Int) : ∀ w0, w0 = ((w.alloc (.cells #[.int .i64 x, .slice none 0 0, .int .i64 y, .slice none 0 0] 24)).alloc (.cells #[.int .i64 0, .slice none 0 0] 24)).setRow (w.heap.size + 1) #[.int .i64 n, .slice (some ⟨w.heap.size, 0, none⟩) 2 2] →
    Bx w0 (w.heap.size + 1) n (some ⟨w.heap.size, 0, none⟩) 2 2 ∧ Is w0 (.node n (.leaf x) (.leaf y)) (TV n (some ⟨w.heap.size, 0, none⟩) 2 2) ∧ Below w.heap.size w w0 := by
  rintro w0 rfl
  obtain ⟨t1, t2, hb⟩ := row_tats w x none 0 0 y none 0 0 _ rfl
  have b0 := made0 w #[.int .i64 x, .slice none 0 0, .int .i64 y, .slice none 0 0]
  have hb2 : Below (w.alloc (.cells #[.int .i64 x, .slice none 0 0, .int .i64 y, .slice none 0 0] 24)).heap.size (w.alloc (.cells #[.int .i64 x, .slice none 0 0, .int .i64 y, .slice none 0 0] 24)) ((w.alloc (.cells #[.int .i64 x, .slice none 0 0, .int .i64 y, .slice none 0 0] 24)).alloc (.cells #[.int .i64 0, .slice none 0 0] 24)) := (Below.refl _ _).alloc (Nat.le_refl _) _
  exact ⟨b0.row _ _ _ _, ⟨_, _, _, _, _, _, _, _, _, _, _, rfl, (t1.later hb2).box_lo b0 (t2.later hb2) _, (t2.later hb2).box_hi b0 _, is_leaf _ _ _ _, is_leaf _ _ _ _⟩, below_setRow (below_on hb hb2) (by omega) _⟩

set_option maxHeartbeats 16000000 in
set_option maxRecDepth 100000 in
theorem heads_any (w : World) : Calls Try.prog 8 #[] w (Tells (.bool true) w) := by
  have zA := made0 w #[.int .i64 0, .slice none 0 0, .int .i64 2, .slice none 0 0]
  obtain ⟨bA, iA, hbel⟩ := made w 1 0 2 _ rfl
  generalize hwA : ((w.alloc (.cells #[.int .i64 0, .slice none 0 0, .int .i64 2, .slice none 0 0] 24)).alloc (.cells #[.int .i64 0, .slice none 0 0] 24)).setRow (w.heap.size + 1) #[.int .i64 1, .slice (some ⟨w.heap.size, 0, none⟩) 2 2] = wa at bA iA hbel
  have zB := made0 wa #[.int .i64 0, .slice none 0 0, .int .i64 2, .slice none 0 0]
  obtain ⟨bB, iB, hb1⟩ := made wa 0 0 2 _ rfl
  generalize hwB : ((wa.alloc (.cells #[.int .i64 0, .slice none 0 0, .int .i64 2, .slice none 0 0] 24)).alloc (.cells #[.int .i64 0, .slice none 0 0] 24)).setRow (wa.heap.size + 1) #[.int .i64 0, .slice (some ⟨wa.heap.size, 0, none⟩) 2 2] = wb at bB iB hb1
  replace bA := bA.later hb1
  replace iA := iA.later hb1
  replace hbel := below_on hbel hb1
  clear hb1
  have zC := bx_new wb 0 none 0 0
  have bC := new_box wb 1 none 0 0
  have hb1 := new_below wb 1 none 0 0
  generalize hwC : (wb.alloc (.cells #[.int .i64 0, .slice none 0 0] 24)).setRow wb.heap.size #[.int .i64 1, .slice none 0 0] = wc at bC hb1
  replace bA := bA.later hb1
  replace iA := iA.later hb1
  replace bB := bB.later hb1
  replace iB := iB.later hb1
  replace hbel := below_on hbel hb1
  clear hb1
  go_enter Try.func8, Try.ntmps8
  go_wp2_with (first | rw [hwA] | rw [hwB] | rw [hwC] | refine store_t rfl _ _ rfl _ 1 (some ⟨w.heap.size, 0, none⟩) 2 2 rfl rfl zA ?_ | refine store_t rfl _ _ rfl _ 0 (some ⟨wa.heap.size, 0, none⟩) 2 2 rfl rfl zB ?_ | refine store_t rfl _ _ rfl _ 1 none 0 0 rfl rfl zC ?_ | refine load_t _ rfl rfl _ _ rfl bA.tat ?_ | refine load_t _ rfl rfl _ _ rfl bB.tat ?_ | refine load_t _ rfl rfl _ _ rfl bC.tat ?_)
  clear hwA hwB hwC zA zB zC
  generalize w.heap.size + 1 = qA at bA ⊢
  generalize wa.heap.size + 1 = qB at bB ⊢
  generalize wb.heap.size = qC at bC ⊢
  refine (head_join _ _ _ _ _ iB).mono ?_
  rintro e w1 ⟨nJ, pJ, lJ, cJ, rfl, iJ, hb1⟩
  replace bA := bA.later hb1
  replace iA := iA.later hb1
  replace bB := bB.later hb1
  replace iB := iB.later hb1
  replace bC := bC.later hb1
  replace hbel := below_on hbel hb1
  clear hb1
  have m0 := bx_new w1 0 none 0 0
  have bJ := new_box w1 nJ pJ lJ cJ
  have hb1 := new_below w1 nJ pJ lJ cJ
  generalize hw : (w1.alloc (.cells #[.int .i64 0, .slice none 0 0] 24)).setRow w1.heap.size #[.int .i64 nJ, .slice pJ lJ cJ] = v1 at bJ hb1
  replace bA := bA.later hb1
  replace iA := iA.later hb1
  replace bB := bB.later hb1
  replace iB := iB.later hb1
  replace bC := bC.later hb1
  replace iJ := iJ.later hb1
  replace hbel := below_on hbel hb1
  clear hb1
  obtain ⟨t1, t2, hb2⟩ := row_tats v1 2 none 0 0 2 none 0 0 _ rfl
  generalize hwr : v1.alloc (.cells #[.int .i64 2, .slice none 0 0, .int .i64 2, .slice none 0 0] 24) = vr at t1 t2 hb2
  go_wp2_with (first | rw [hw] | refine store_t rfl _ _ rfl _ nJ pJ lJ cJ rfl rfl m0 ?_ | rw [hwr] | refine load_t _ rfl rfl _ _ rfl bA.tat ?_ | refine load_t _ rfl rfl _ _ rfl bB.tat ?_ | refine load_t _ rfl rfl _ _ rfl bC.tat ?_ | refine load_t _ rfl rfl _ _ rfl bJ.tat ?_)
  clear m0 hw hwr
  generalize w1.heap.size = qJ at bJ ⊢
  have hb1 := hb2
  clear hb2
  replace bA := bA.later hb1
  replace iA := iA.later hb1
  replace bB := bB.later hb1
  replace iB := iB.later hb1
  replace bC := bC.later hb1
  replace iJ := iJ.later hb1
  replace bJ := bJ.later hb1
  replace hbel := below_on hbel hb1
  clear hb1
  have inn : Is vr (.node 0 (.leaf 2) (.leaf 2)) (TV 0 (some ⟨v1.heap.size, 0, none⟩) 2 2) := ⟨_, _, _, _, _, _, _, _, _, _, _, rfl, t1, t2, is_leaf _ _ _ _, is_leaf _ _ _ _⟩
  clear t1 t2
  refine (head_norm _ _ _ _ _ inn).mono ?_
  rintro e w2 ⟨nN, pN, lN, cN, rfl, iN, hb1⟩
  replace bA := bA.later hb1
  replace iA := iA.later hb1
  replace bB := bB.later hb1
  replace iB := iB.later hb1
  replace bC := bC.later hb1
  replace iJ := iJ.later hb1
  replace bJ := bJ.later hb1
  replace hbel := below_on hbel hb1
  clear hb1
  have m0 := bx_new w2 0 none 0 0
  have bN := new_box w2 nN pN lN cN
  have hb1 := new_below w2 nN pN lN cN
  generalize hw : (w2.alloc (.cells #[.int .i64 0, .slice none 0 0] 24)).setRow w2.heap.size #[.int .i64 nN, .slice pN lN cN] = v2 at bN hb1
  replace bA := bA.later hb1
  replace iA := iA.later hb1
  replace bB := bB.later hb1
  replace iB := iB.later hb1
  replace bC := bC.later hb1
  replace iJ := iJ.later hb1
  replace bJ := bJ.later hb1
  replace iN := iN.later hb1
  replace hbel := below_on hbel hb1
  clear hb1
  clear inn
  go_wp2_with (first | rw [hw] | refine store_t rfl _ _ rfl _ nN pN lN cN rfl rfl m0 ?_ | refine load_t _ rfl rfl _ _ rfl bA.tat ?_ | refine load_t _ rfl rfl _ _ rfl bB.tat ?_ | refine load_t _ rfl rfl _ _ rfl bC.tat ?_ | refine load_t _ rfl rfl _ _ rfl bJ.tat ?_ | refine load_t _ rfl rfl _ _ rfl bN.tat ?_)
  clear m0 hw
  generalize w2.heap.size = qN at bN ⊢
  refine (head_bad _).mono ?_
  rintro e w3 ⟨nZ, pZ, lZ, cZ, rfl, iZ, hb1⟩
  replace bA := bA.later hb1
  replace iA := iA.later hb1
  replace bB := bB.later hb1
  replace iB := iB.later hb1
  replace bC := bC.later hb1
  replace iJ := iJ.later hb1
  replace bJ := bJ.later hb1
  replace iN := iN.later hb1
  replace bN := bN.later hb1
  replace hbel := below_on hbel hb1
  clear hb1
  have m0 := bx_new w3 0 none 0 0
  have bZ := new_box w3 nZ pZ lZ cZ
  have hb1 := new_below w3 nZ pZ lZ cZ
  generalize hw : (w3.alloc (.cells #[.int .i64 0, .slice none 0 0] 24)).setRow w3.heap.size #[.int .i64 nZ, .slice pZ lZ cZ] = v3 at bZ hb1
  replace bA := bA.later hb1
  replace iA := iA.later hb1
  replace bB := bB.later hb1
  replace iB := iB.later hb1
  replace bC := bC.later hb1
  replace iJ := iJ.later hb1
  replace bJ := bJ.later hb1
  replace iN := iN.later hb1
  replace bN := bN.later hb1
  replace iZ := iZ.later hb1
  replace hbel := below_on hbel hb1
  clear hb1
  have gA0 := bA.cell0
  have gA1 := bA.cell1
  go_wp2_with (first | rw [hw] | refine store_t rfl _ _ rfl _ nZ pZ lZ cZ rfl rfl m0 ?_ | refine load_t _ rfl rfl _ _ rfl bA.tat ?_ | refine load_t _ rfl rfl _ _ rfl bB.tat ?_ | refine load_t _ rfl rfl _ _ rfl bC.tat ?_ | refine load_t _ rfl rfl _ _ rfl bJ.tat ?_ | refine load_t _ rfl rfl _ _ rfl bN.tat ?_ | refine load_t _ rfl rfl _ _ rfl bZ.tat ?_)
  clear m0 hw
  clear bZ iZ gA0 gA1
  refine (head_check _ _ _ _ _ iA).mono ?_
  rintro e w4 ⟨rfl, hb1⟩
  replace bA := bA.later hb1
  replace iA := iA.later hb1
  replace bB := bB.later hb1
  replace iB := iB.later hb1
  replace bC := bC.later hb1
  replace iJ := iJ.later hb1
  replace bJ := bJ.later hb1
  replace iN := iN.later hb1
  replace bN := bN.later hb1
  replace hbel := below_on hbel hb1
  clear hb1
  have gA0 := bA.cell0
  have gA1 := bA.cell1
  have gB0 := bB.cell0
  have gB1 := bB.cell1
  have gC0 := bC.cell0
  have gC1 := bC.cell1
  have gJ0 := bJ.cell0
  have gJ1 := bJ.cell1
  have gN0 := bN.cell0
  have gN1 := bN.cell1
  go_wp2_with fail
  clear gA0 gA1 gB0 gB1 gC0 gC1 gJ0 gJ1 gN0 gN1
  refine (head_at0 _ _ _ _ _ iA).mono ?_
  rintro e w5 ⟨rfl, hb1⟩
  replace bA := bA.later hb1
  replace iA := iA.later hb1
  replace bB := bB.later hb1
  replace iB := iB.later hb1
  replace bC := bC.later hb1
  replace iJ := iJ.later hb1
  replace bJ := bJ.later hb1
  replace iN := iN.later hb1
  replace bN := bN.later hb1
  replace hbel := below_on hbel hb1
  clear hb1
  have gA0 := bA.cell0
  have gA1 := bA.cell1
  have gB0 := bB.cell0
  have gB1 := bB.cell1
  have gC0 := bC.cell0
  have gC1 := bC.cell1
  have gJ0 := bJ.cell0
  have gJ1 := bJ.cell1
  have gN0 := bN.cell0
  have gN1 := bN.cell1
  go_wp2_with fail
  clear gA0 gA1 gB0 gB1 gC0 gC1 gJ0 gJ1 gN0 gN1
  refine (head_at1 _ _ _ _ _ iA).mono ?_
  rintro e w6 ⟨rfl, hb1⟩
  replace bA := bA.later hb1
  replace iA := iA.later hb1
  replace bB := bB.later hb1
  replace iB := iB.later hb1
  replace bC := bC.later hb1
  replace iJ := iJ.later hb1
  replace bJ := bJ.later hb1
  replace iN := iN.later hb1
  replace bN := bN.later hb1
  replace hbel := below_on hbel hb1
  clear hb1
  have gA0 := bA.cell0
  have gA1 := bA.cell1
  have gB0 := bB.cell0
  have gB1 := bB.cell1
  have gC0 := bC.cell0
  have gC1 := bC.cell1
  have gJ0 := bJ.cell0
  have gJ1 := bJ.cell1
  have gN0 := bN.cell0
  have gN1 := bN.cell1
  go_wp2_with fail
  clear gA0 gA1 gB0 gB1 gC0 gC1 gJ0 gJ1 gN0 gN1
  refine (head_least _ _ _ _ _ iA).mono ?_
  rintro e w7 ⟨rfl, hb1⟩
  replace bA := bA.later hb1
  replace iA := iA.later hb1
  replace bB := bB.later hb1
  replace iB := iB.later hb1
  replace bC := bC.later hb1
  replace iJ := iJ.later hb1
  replace bJ := bJ.later hb1
  replace iN := iN.later hb1
  replace bN := bN.later hb1
  replace hbel := below_on hbel hb1
  clear hb1
  have gA0 := bA.cell0
  have gA1 := bA.cell1
  have gB0 := bB.cell0
  have gB1 := bB.cell1
  have gC0 := bC.cell0
  have gC1 := bC.cell1
  have gJ0 := bJ.cell0
  have gJ1 := bJ.cell1
  have gN0 := bN.cell0
  have gN1 := bN.cell1
  go_wp2_with fail
  clear gA0 gA1 gB0 gB1 gC0 gC1 gJ0 gJ1 gN0 gN1
  refine (head_greatest _ _ _ _ _ iA).mono ?_
  rintro e w8 ⟨rfl, hb1⟩
  replace bA := bA.later hb1
  replace iA := iA.later hb1
  replace bB := bB.later hb1
  replace iB := iB.later hb1
  replace bC := bC.later hb1
  replace iJ := iJ.later hb1
  replace bJ := bJ.later hb1
  replace iN := iN.later hb1
  replace bN := bN.later hb1
  replace hbel := below_on hbel hb1
  clear hb1
  have gA0 := bA.cell0
  have gA1 := bA.cell1
  have gB0 := bB.cell0
  have gB1 := bB.cell1
  have gC0 := bC.cell0
  have gC1 := bC.cell1
  have gJ0 := bJ.cell0
  have gJ1 := bJ.cell1
  have gN0 := bN.cell0
  have gN1 := bN.cell1
  obtain ⟨t1, t2, hb2⟩ := row_tats w8 0 none 0 0 1 none 0 0 _ rfl
  generalize hwr : w8.alloc (.cells #[.int .i64 0, .slice none 0 0, .int .i64 1, .slice none 0 0] 24) = vs at t1 t2 hb2
  go_wp2_with rw [hwr]
  clear hwr gA0 gA1 gB0 gB1 gC0 gC1 gJ0 gJ1 gN0 gN1
  have hb1 := hb2
  clear hb2
  replace bA := bA.later hb1
  replace iA := iA.later hb1
  replace bB := bB.later hb1
  replace iB := iB.later hb1
  replace bC := bC.later hb1
  replace iJ := iJ.later hb1
  replace bJ := bJ.later hb1
  replace iN := iN.later hb1
  replace bN := bN.later hb1
  replace hbel := below_on hbel hb1
  clear hb1
  have inn : Is vs hJ (TV 1 (some ⟨w8.heap.size, 0, none⟩) 2 2) := ⟨_, _, _, _, _, _, _, _, _, _, _, rfl, t1, t2, is_leaf _ _ _ _, is_leaf _ _ _ _⟩
  clear t1 t2
  refine (head_sameJ _ _ _ _ _ _ _ _ _ iJ inn).mono ?_
  rintro e w9 ⟨rfl, hb1⟩
  replace bA := bA.later hb1
  replace iA := iA.later hb1
  replace bB := bB.later hb1
  replace iB := iB.later hb1
  replace bC := bC.later hb1
  replace iJ := iJ.later hb1
  replace bJ := bJ.later hb1
  replace iN := iN.later hb1
  replace bN := bN.later hb1
  replace hbel := below_on hbel hb1
  clear hb1
  have gA0 := bA.cell0
  have gA1 := bA.cell1
  have gB0 := bB.cell0
  have gB1 := bB.cell1
  have gC0 := bC.cell0
  have gC1 := bC.cell1
  have gJ0 := bJ.cell0
  have gJ1 := bJ.cell1
  have gN0 := bN.cell0
  have gN1 := bN.cell1
  go_wp2_with fail
  clear gA0 gA1 gB0 gB1 gC0 gC1 gJ0 gJ1 gN0 gN1
  refine (head_same2 _ _ _ _ _ iN).mono ?_
  rintro e w10 ⟨rfl, hb1⟩
  replace bA := bA.later hb1
  replace iA := iA.later hb1
  replace bB := bB.later hb1
  replace iB := iB.later hb1
  replace bC := bC.later hb1
  replace iJ := iJ.later hb1
  replace bJ := bJ.later hb1
  replace iN := iN.later hb1
  replace bN := bN.later hb1
  replace hbel := below_on hbel hb1
  clear hb1
  have gA0 := bA.cell0
  have gA1 := bA.cell1
  have gB0 := bB.cell0
  have gB1 := bB.cell1
  have gC0 := bC.cell0
  have gC1 := bC.cell1
  have gJ0 := bJ.cell0
  have gJ1 := bJ.cell1
  have gN0 := bN.cell0
  have gN1 := bN.cell1
  go_wp2_with fail
  clear gA0 gA1 gB0 gB1 gC0 gC1 gJ0 gJ1 gN0 gN1
  refine (head_leqBA _ _ _ _ _ _ _ _ _ iB iA).mono ?_
  rintro e w11 ⟨rfl, hb1⟩
  replace bA := bA.later hb1
  replace iA := iA.later hb1
  replace bB := bB.later hb1
  replace iB := iB.later hb1
  replace bC := bC.later hb1
  replace iJ := iJ.later hb1
  replace bJ := bJ.later hb1
  replace iN := iN.later hb1
  replace bN := bN.later hb1
  replace hbel := below_on hbel hb1
  clear hb1
  have gA0 := bA.cell0
  have gA1 := bA.cell1
  have gB0 := bB.cell0
  have gB1 := bB.cell1
  have gC0 := bC.cell0
  have gC1 := bC.cell1
  have gJ0 := bJ.cell0
  have gJ1 := bJ.cell1
  have gN0 := bN.cell0
  have gN1 := bN.cell1
  go_wp2_with fail
  clear gA0 gA1 gB0 gB1 gC0 gC1 gJ0 gJ1 gN0 gN1
  refine (head_leqAB _ _ _ _ _ _ _ _ _ iA iB).mono ?_
  rintro e w12 ⟨rfl, hb1⟩
  replace bA := bA.later hb1
  replace iA := iA.later hb1
  replace bB := bB.later hb1
  replace iB := iB.later hb1
  replace bC := bC.later hb1
  replace iJ := iJ.later hb1
  replace bJ := bJ.later hb1
  replace iN := iN.later hb1
  replace bN := bN.later hb1
  replace hbel := below_on hbel hb1
  clear hb1
  have gA0 := bA.cell0
  have gA1 := bA.cell1
  have gB0 := bB.cell0
  have gB1 := bB.cell1
  have gC0 := bC.cell0
  have gC1 := bC.cell1
  have gJ0 := bJ.cell0
  have gJ1 := bJ.cell1
  have gN0 := bN.cell0
  have gN1 := bN.cell1
  go_wp2_with fail
  clear gA0 gA1 gB0 gB1 gC0 gC1 gJ0 gJ1 gN0 gN1
  refine (head_leqOB _ _ _ _ _ iB).mono ?_
  rintro e w13 ⟨rfl, hb1⟩
  replace bA := bA.later hb1
  replace iA := iA.later hb1
  replace bB := bB.later hb1
  replace iB := iB.later hb1
  replace bC := bC.later hb1
  replace iJ := iJ.later hb1
  replace bJ := bJ.later hb1
  replace iN := iN.later hb1
  replace bN := bN.later hb1
  replace hbel := below_on hbel hb1
  clear hb1
  have gA0 := bA.cell0
  have gA1 := bA.cell1
  have gB0 := bB.cell0
  have gB1 := bB.cell1
  have gC0 := bC.cell0
  have gC1 := bC.cell1
  have gJ0 := bJ.cell0
  have gJ1 := bJ.cell1
  have gN0 := bN.cell0
  have gN1 := bN.cell1
  go_wp2_with fail
  clear gA0 gA1 gB0 gB1 gC0 gC1 gJ0 gJ1 gN0 gN1
  go_ret
  exact ⟨rfl, hbel⟩
end Go.Proofs.Ytlfbabepbajcjaa
