import Derived.Test.YtmcajjdijjcpkaaP24
/- What must come at any rate: the statements' heads. -/
namespace Go.Proofs.Ytmcajjdijjcpkaa
open Go.RowKit
open Idn (ID)

theorem sLeq_is {i j : ID} {a b : EV} {n : Int} {p : Option Addr} {l c : Nat} {n' : Int} {p' : Option Addr} {l' c' : Nat} {m : Int} {q : Option Addr} {k d : Nat} {m' : Int} {q' : Option Addr} {k' d' : Nat} {w : World} (hi : Idn.Is w i (TV n p l c)) (ha : Is w a (TV n' p' l' c')) (hj : Idn.Is w j (TV m q k d)) (hb : Is w b (TV m' q' k' d')) (ki : Idn.ok i = true) (ka : ok a = true) (kj : Idn.ok j = true) (kb : ok b = true) :
    Calls Try.prog 13 #[SV n p l c n' p' l' c', SV m q k d m' q' k' d'] w (Tells (.bool (leq 16 a b)) w) := by
  have := sLeq_tr (Idn.toTr i) (toTr a) (Idn.toTr j) (toTr b) n p l c n' p' l' c' m q k d m' q' k' d' w (Idn.lies_is i _ hi) (lies_ok ha ka) (Idn.lies_is j _ hj) (lies_ok hb kb)
  rwa [Idn.okT_to, Idn.okT_to, okT_to, okT_to, ki, ka, kj, kb, lqT, okT_to, okT_to, ka, kb, evOf_to, evOf_to] at this
abbrev hS : ID := .leaf true
abbrev hA : ID := .node (.leaf true) (.leaf false)
abbrev hB : ID := .node (.leaf false) (.leaf true)
abbrev hC : EV := .node 0 (.leaf 1) (.leaf 0)
abbrev hD : EV := .node 0 (.leaf 0) (.leaf 1)
abbrev hO : EV := .leaf 1
theorem kS : Idn.ok hS = true := by decide +kernel
theorem kA : Idn.ok hA = true := by decide +kernel
theorem kB : Idn.ok hB = true := by decide +kernel
theorem kZ : Idn.ok zI = true := by decide +kernel
theorem kC : ok hC = true := by decide +kernel
theorem kD : ok hD = true := by decide +kernel
theorem kO : ok hO = true := by decide +kernel
theorem kE : ok zE = true := by decide +kernel
theorem fork_head : (fkA hS = hA ∧ fkB hS = hB) ∧ (fkX hS zE = zE ∧ fkE hS = 0) := by
  have e : fkE hS = 0 := by decide +kernel
  exact ⟨⟨rfl, rfl⟩, by unfold fkX; rw [if_pos e], e⟩
theorem event_headA : esI hA zE = hA ∧ esX hA zE = hC ∧ esE hA zE = 0 := ⟨rfl, rfl, rfl⟩
theorem event_headB : esI hB zE = hB ∧ esX hB zE = hD ∧ esE hB zE = 0 := ⟨rfl, rfl, rfl⟩
theorem event_headS : esI hS zE = hS ∧ esX hS zE = hO ∧ esE hS zE = 0 := ⟨rfl, rfl, rfl⟩
theorem event_headZ : esI zI zE = zI ∧ esX zI zE = zE ∧ esE zI zE = 7 := ⟨rfl, rfl, rfl⟩
theorem join_head : jI hA hB = hS ∧ jX hA hB hC hD = hO ∧ jE hA hB = 0 := by
  have e : jX hA hB hC hD = join 16 hC hD := by unfold jX; rw [if_pos (by decide +kernel)]
  have e0 : h0 hC = .leaf 1 := rfl
  have e1 : h1 hC = .leaf 0 := rfl
  have e2 : h0 hD = .leaf 0 := rfl
  have e3 : h1 hD = .leaf 1 := rfl
  refine ⟨rfl, ?_, rfl⟩
  rw [e, join, e0, e1, e2, e3, join_leaf, join_leaf]
  exact eq_of_eqb (by decide +kernel)
theorem joint_head : jI hA hA = zI ∧ jX hA hA hC hC = zE ∧ jE hA hA = 42 := ⟨rfl, rfl, rfl⟩
theorem leqCD : leq 16 hC hD = false := by
  have e0 : h0 hC = .leaf 1 := rfl
  have e1 : h1 hC = .leaf 0 := rfl
  have e2 : h0 hD = .leaf 0 := rfl
  have e3 : h1 hD = .leaf 1 := rfl
  have e4 : h0 hO = .leaf 1 := rfl
  have e5 : h1 hO = .leaf 1 := rfl
  rw [leq]
  simp only [e0, e1, e2, e3, leq_leaf]
  decide +kernel
theorem leqDC : leq 16 hD hC = false := by
  have e0 : h0 hC = .leaf 1 := rfl
  have e1 : h1 hC = .leaf 0 := rfl
  have e2 : h0 hD = .leaf 0 := rfl
  have e3 : h1 hD = .leaf 1 := rfl
  have e4 : h0 hO = .leaf 1 := rfl
  have e5 : h1 hO = .leaf 1 := rfl
  rw [leq]
  simp only [e0, e1, e2, e3, leq_leaf]
  decide +kernel
theorem leqCO : leq 16 hC hO = true := by
  have e0 : h0 hC = .leaf 1 := rfl
  have e1 : h1 hC = .leaf 0 := rfl
  have e2 : h0 hD = .leaf 0 := rfl
  have e3 : h1 hD = .leaf 1 := rfl
  have e4 : h0 hO = .leaf 1 := rfl
  have e5 : h1 hO = .leaf 1 := rfl
  rw [leq]
  simp only [e0, e1, e4, e5, leq_leaf]
  decide +kernel
theorem sz_leaf : sz (toTr zE) ≤ 120 := by decide +kernel
theorem hd_fork {n p l c n' p' l' c' w} (hi : Idn.Is w hS (TV n p l c)) (he : Is w zE (TV n' p' l' c')) : Calls Try.prog 15 #[SV n p l c n' p' l' c'] w (GivesSSE hA zE hB zE 0 w) := by
  have := fork_ok hS zE n p l c n' p' l' c' w hi he kS kE
  rwa [fork_head.1.1, fork_head.1.2, fork_head.2.1, fork_head.2.2] at this
theorem hd_eventA {n p l c n' p' l' c' w} (hi : Idn.Is w hA (TV n p l c)) (he : Is w zE (TV n' p' l' c')) : Calls Try.prog 18 #[SV n p l c n' p' l' c'] w (GivesSE hA hC 0 w) := event_ok hA zE n p l c n' p' l' c' w hi he kA kE
theorem hd_eventB {n p l c n' p' l' c' w} (hi : Idn.Is w hB (TV n p l c)) (he : Is w zE (TV n' p' l' c')) : Calls Try.prog 18 #[SV n p l c n' p' l' c'] w (GivesSE hB hD 0 w) := event_ok hB zE n p l c n' p' l' c' w hi he kB kE
theorem hd_eventS {n p l c n' p' l' c' w} (hi : Idn.Is w hS (TV n p l c)) (he : Is w zE (TV n' p' l' c')) : Calls Try.prog 18 #[SV n p l c n' p' l' c'] w (GivesSE hS hO 0 w) := event_ok hS zE n p l c n' p' l' c' w hi he kS kE
theorem hd_eventZ {n p l c n' p' l' c' w} (hi : Idn.Is w zI (TV n p l c)) (he : Is w zE (TV n' p' l' c')) : Calls Try.prog 18 #[SV n p l c n' p' l' c'] w (GivesSE zI zE 7 w) := event_ok zI zE n p l c n' p' l' c' w hi he kZ kE
theorem hd_join {n p l c n' p' l' c' m q k d m' q' k' d' w} (hi : Idn.Is w hA (TV n p l c)) (he : Is w hC (TV n' p' l' c')) (hi' : Idn.Is w hB (TV m q k d)) (he' : Is w hD (TV m' q' k' d')) : Calls Try.prog 11 #[SV n p l c n' p' l' c', SV m q k d m' q' k' d'] w (GivesSE hS hO 0 w) := by
  have := join_ok hA hB hC hD n p l c n' p' l' c' m q k d m' q' k' d' w hi he hi' he' kA kC kB kD
  rwa [join_head.1, join_head.2.1, join_head.2.2] at this
theorem hd_joint {n p l c n' p' l' c' w} (hi : Idn.Is w hA (TV n p l c)) (he : Is w hC (TV n' p' l' c')) : Calls Try.prog 11 #[SV n p l c n' p' l' c', SV n p l c n' p' l' c'] w (GivesSE zI zE 42 w) := by
  have := join_ok hA hA hC hC n p l c n' p' l' c' n p l c n' p' l' c' w hi he hi he kA kC kA kC
  rwa [joint_head.1, joint_head.2.1, joint_head.2.2] at this
theorem hd_peek {n p l c n' p' l' c' w} (he : Is w zE (TV n' p' l' c')) : Calls Try.prog 10 #[SV n p l c n' p' l' c'] w fun e w' => ∃ m q k d, e = .returned (SV 0 none 0 0 m q k d) ∧ Is w' zE (TV m q k d) ∧ Below w.heap.size w w' :=
  (peek_tr (toTr zE) n p l c n' p' l' c' w (lies_ok he kE) sz_leaf).mono fun _ _ ⟨m, q, k, d, e, h, hb⟩ => ⟨m, q, k, d, e, by
    have := (ok_of h (by rw [okT_to]; exact kE)).1
    rwa [evOf_to] at this, hb⟩
theorem hd_same {x : EV} {n p l c n' p' l' c' w} (h : Is w x (TV n p l c)) (h' : Is w x (TV n' p' l' c')) : Calls Try.prog 26 #[TV n p l c, TV n' p' l' c'] w (Tells (.bool true) w) := by
  have := same_any x x n p l c n' p' l' c' w h h'
  rwa [eqb_refl] at this
theorem hd_id {n p l c w} (h : Idn.Is w hS (TV n p l c)) : Is w hO (TV n p l c) := by
  obtain ⟨p', c', e⟩ := h
  exact ⟨p', c', e⟩
/-- A stamp is stored in a new box. -/
theorem s_new (w : World) (n : Int) (p : Option Addr) (l c : Nat) (n' : Int) (p' : Option Addr) (l' c' : Nat) : ∀ w0, w0 = (w.alloc (.cells #[.int .i64 0, .slice none 0 0, .int .i64 0, .slice none 0 0] 26)).setRow w.heap.size #[.int .i64 n, .slice p l c, .int .i64 n', .slice p' l' c'] → Sx w0 w.heap.size n p l c n' p' l' c' ∧ Below w.heap.size w w0 := by
  rintro _ rfl
  exact ⟨(rw_new w 26 _).row _, below_setRow ((Below.refl _ _).alloc (Nat.le_refl _) _) (Nat.le_refl _) _⟩
theorem s_two (w : World) (n : Int) (p : Option Addr) (l c : Nat) (n' : Int) (p' : Option Addr) (l' c' : Nat) (m : Int) (q : Option Addr) (k d : Nat) (m' : Int) (q' : Option Addr) (k' d' : Nat) : ∀ w0, w0 = (((w.alloc (.cells #[.int .i64 0, .slice none 0 0, .int .i64 0, .slice none 0 0] 26)).alloc (.cells #[.int .i64 0, .slice none 0 0, .int .i64 0, .slice none 0 0] 26)).setRow w.heap.size #[.int .i64 n, .slice p l c, .int .i64 n', .slice p' l' c']).setRow (w.heap.size + 1) #[.int .i64 m, .slice q k d, .int .i64 m', .slice q' k' d'] → Sx w0 w.heap.size n p l c n' p' l' c' ∧ Sx w0 (w.heap.size + 1) m q k d m' q' k' d' ∧ Below w.heap.size w w0 := by
  rintro _ rfl
  exact ⟨(((rw_new w 26 _).alloc _).row _).rowOther (by omega) _, ((rw_next _ (by simp) 26 _).rowOther (by omega) _).row _, below_setRow (below_setRow (((Below.refl _ _).alloc (Nat.le_refl _) _).alloc (by simp) _) (Nat.le_refl _) _) (by omega) _⟩
theorem s_two0 (w : World) : Sx ((w.alloc (.cells #[.int .i64 0, .slice none 0 0, .int .i64 0, .slice none 0 0] 26)).alloc (.cells #[.int .i64 0, .slice none 0 0, .int .i64 0, .slice none 0 0] 26)) w.heap.size 0 none 0 0 0 none 0 0 := (rw_new w 26 _).alloc _
theorem s_two1 (w : World) (cs : Array Value) : Sx (((w.alloc (.cells #[.int .i64 0, .slice none 0 0, .int .i64 0, .slice none 0 0] 26)).alloc (.cells #[.int .i64 0, .slice none 0 0, .int .i64 0, .slice none 0 0] 26)).setRow w.heap.size cs) (w.heap.size + 1) 0 none 0 0 0 none 0 0 := (rw_next _ (by simp) 26 _).rowOther (by omega) _

set_option maxHeartbeats 16000000 in
set_option maxRecDepth 100000 in
theorem heads_any (w : World) : Calls Try.prog 9 #[] w (Tells (.bool true) w) := by
  have hbel := Below.refl w.heap.size w
  go_enter Try.func9, Try.ntmps9
  go_wp2_with fail
  refine (seed_any _).mono ?_
  rintro e w1 ⟨rfl, hb1⟩
  replace hbel := below_on hbel hb1
  clear hb1
  obtain ⟨nS, pS, lS, cS, mS, qS, kS1, dS, hv, iS, jS⟩ : ∃ n p l c m q k d, SV 1 none 0 0 0 none 0 0 = SV n p l c m q k d ∧ Idn.Is w1 hS (TV n p l c) ∧ Is w1 zE (TV m q k d) := ⟨1, none, 0, 0, 0, none, 0, 0, rfl, Idn.is_leaf _ true _ _, is_leaf _ 0 _ _⟩
  rw [hv]
  clear hv
  have zS := rw_new w1 26 #[.int .i64 0, .slice none 0 0, .int .i64 0, .slice none 0 0]
  obtain ⟨bS, hb1⟩ := s_new w1 nS pS lS cS mS qS kS1 dS _ rfl
  generalize hwS : (w1.alloc (.cells #[.int .i64 0, .slice none 0 0, .int .i64 0, .slice none 0 0] 26)).setRow w1.heap.size #[.int .i64 nS, .slice pS lS cS, .int .i64 mS, .slice qS kS1 dS] = vS at bS hb1
  replace iS := iS.later hb1
  replace jS := jS.later hb1
  replace hbel := below_on hbel hb1
  clear hb1
  go_wp2_with (first | rw [hwS] | refine store_s rfl _ _ rfl _ nS pS lS cS mS qS kS1 dS rfl rfl zS ?_ | refine load_s _ rfl rfl _ rfl bS ?_ | refine load_t _ rfl rfl _ _ rfl (Sx.tat0 bS) ?_ | refine load_t _ rfl rfl _ _ rfl (Sx.tat1 bS) ?_)
  clear zS hwS
  generalize w1.heap.size = rS at bS ⊢
  refine (hd_fork iS jS).mono ?_
  rintro e w2 ⟨nA, pA, lA, cA, mA, qA, kA1, dA, nB, pB, lB, cB, mB, qB, kB1, dB, rfl, iA, jA, iB, jB, hb1⟩
  replace iS := iS.later hb1
  replace jS := jS.later hb1
  replace bS := Rw.later bS hb1
  replace hbel := below_on hbel hb1
  clear hb1
  have zA := s_two0 w2
  have zB := s_two1 w2 #[.int .i64 nA, .slice pA lA cA, .int .i64 mA, .slice qA kA1 dA]
  obtain ⟨bA, bB, hb1⟩ := s_two w2 nA pA lA cA mA qA kA1 dA nB pB lB cB mB qB kB1 dB _ rfl
  generalize hwA : (((w2.alloc (.cells #[.int .i64 0, .slice none 0 0, .int .i64 0, .slice none 0 0] 26)).alloc (.cells #[.int .i64 0, .slice none 0 0, .int .i64 0, .slice none 0 0] 26)).setRow w2.heap.size #[.int .i64 nA, .slice pA lA cA, .int .i64 mA, .slice qA kA1 dA]).setRow (w2.heap.size + 1) #[.int .i64 nB, .slice pB lB cB, .int .i64 mB, .slice qB kB1 dB] = vA at bA bB hb1
  replace iS := iS.later hb1
  replace jS := jS.later hb1
  replace iA := iA.later hb1
  replace jA := jA.later hb1
  replace iB := iB.later hb1
  replace jB := jB.later hb1
  replace bS := Rw.later bS hb1
  replace hbel := below_on hbel hb1
  clear hb1
  go_wp2_with (first | rw [hwA] | refine store_s rfl _ _ rfl _ nA pA lA cA mA qA kA1 dA rfl rfl zA ?_ | refine store_s rfl _ _ rfl _ nB pB lB cB mB qB kB1 dB rfl rfl zB ?_ | refine load_s _ rfl rfl _ rfl bS ?_ | refine load_s _ rfl rfl _ rfl bA ?_ | refine load_s _ rfl rfl _ rfl bB ?_ | refine load_t _ rfl rfl _ _ rfl (Sx.tat0 bS) ?_ | refine load_t _ rfl rfl _ _ rfl (Sx.tat0 bA) ?_ | refine load_t _ rfl rfl _ _ rfl (Sx.tat0 bB) ?_ | refine load_t _ rfl rfl _ _ rfl (Sx.tat1 bS) ?_ | refine load_t _ rfl rfl _ _ rfl (Sx.tat1 bA) ?_ | refine load_t _ rfl rfl _ _ rfl (Sx.tat1 bB) ?_)
  clear zA zB hwA
  generalize w2.heap.size = rA at bA bB ⊢
  refine (hd_eventA iA jA).mono ?_
  rintro e w3 ⟨nC, pC, lC, cC, mC, qC, kC1, dC, rfl, iC, jC, hb1⟩
  replace iS := iS.later hb1
  replace jS := jS.later hb1
  replace iA := iA.later hb1
  replace jA := jA.later hb1
  replace iB := iB.later hb1
  replace jB := jB.later hb1
  replace bS := Rw.later bS hb1
  replace bA := Rw.later bA hb1
  replace bB := Rw.later bB hb1
  replace hbel := below_on hbel hb1
  clear hb1
  have zC := rw_new w3 26 #[.int .i64 0, .slice none 0 0, .int .i64 0, .slice none 0 0]
  obtain ⟨bC, hb1⟩ := s_new w3 nC pC lC cC mC qC kC1 dC _ rfl
  generalize hwC : (w3.alloc (.cells #[.int .i64 0, .slice none 0 0, .int .i64 0, .slice none 0 0] 26)).setRow w3.heap.size #[.int .i64 nC, .slice pC lC cC, .int .i64 mC, .slice qC kC1 dC] = vC at bC hb1
  replace iS := iS.later hb1
  replace jS := jS.later hb1
  replace iA := iA.later hb1
  replace jA := jA.later hb1
  replace iB := iB.later hb1
  replace jB := jB.later hb1
  replace iC := iC.later hb1
  replace jC := jC.later hb1
  replace bS := Rw.later bS hb1
  replace bA := Rw.later bA hb1
  replace bB := Rw.later bB hb1
  replace hbel := below_on hbel hb1
  clear hb1
  go_wp2_with (first | rw [hwC] | refine store_s rfl _ _ rfl _ nC pC lC cC mC qC kC1 dC rfl rfl zC ?_ | refine load_s _ rfl rfl _ rfl bS ?_ | refine load_s _ rfl rfl _ rfl bA ?_ | refine load_s _ rfl rfl _ rfl bB ?_ | refine load_s _ rfl rfl _ rfl bC ?_ | refine load_t _ rfl rfl _ _ rfl (Sx.tat0 bS) ?_ | refine load_t _ rfl rfl _ _ rfl (Sx.tat0 bA) ?_ | refine load_t _ rfl rfl _ _ rfl (Sx.tat0 bB) ?_ | refine load_t _ rfl rfl _ _ rfl (Sx.tat0 bC) ?_ | refine load_t _ rfl rfl _ _ rfl (Sx.tat1 bS) ?_ | refine load_t _ rfl rfl _ _ rfl (Sx.tat1 bA) ?_ | refine load_t _ rfl rfl _ _ rfl (Sx.tat1 bB) ?_ | refine load_t _ rfl rfl _ _ rfl (Sx.tat1 bC) ?_)
  clear zC hwC
  generalize w3.heap.size = rC at bC ⊢
  refine (hd_eventB iB jB).mono ?_
  rintro e w4 ⟨nD, pD, lD, cD, mD, qD, kD1, dD, rfl, iD, jD, hb1⟩
  replace iS := iS.later hb1
  replace jS := jS.later hb1
  replace iA := iA.later hb1
  replace jA := jA.later hb1
  replace iB := iB.later hb1
  replace jB := jB.later hb1
  replace iC := iC.later hb1
  replace jC := jC.later hb1
  replace bS := Rw.later bS hb1
  replace bA := Rw.later bA hb1
  replace bB := Rw.later bB hb1
  replace bC := Rw.later bC hb1
  replace hbel := below_on hbel hb1
  clear hb1
  have zD := rw_new w4 26 #[.int .i64 0, .slice none 0 0, .int .i64 0, .slice none 0 0]
  obtain ⟨bD, hb1⟩ := s_new w4 nD pD lD cD mD qD kD1 dD _ rfl
  generalize hwD : (w4.alloc (.cells #[.int .i64 0, .slice none 0 0, .int .i64 0, .slice none 0 0] 26)).setRow w4.heap.size #[.int .i64 nD, .slice pD lD cD, .int .i64 mD, .slice qD kD1 dD] = vD at bD hb1
  replace iS := iS.later hb1
  replace jS := jS.later hb1
  replace iA := iA.later hb1
  replace jA := jA.later hb1
  replace iB := iB.later hb1
  replace jB := jB.later hb1
  replace iC := iC.later hb1
  replace jC := jC.later hb1
  replace iD := iD.later hb1
  replace jD := jD.later hb1
  replace bS := Rw.later bS hb1
  replace bA := Rw.later bA hb1
  replace bB := Rw.later bB hb1
  replace bC := Rw.later bC hb1
  replace hbel := below_on hbel hb1
  clear hb1
  go_wp2_with (first | rw [hwD] | refine store_s rfl _ _ rfl _ nD pD lD cD mD qD kD1 dD rfl rfl zD ?_ | refine load_s _ rfl rfl _ rfl bS ?_ | refine load_s _ rfl rfl _ rfl bA ?_ | refine load_s _ rfl rfl _ rfl bB ?_ | refine load_s _ rfl rfl _ rfl bC ?_ | refine load_s _ rfl rfl _ rfl bD ?_ | refine load_t _ rfl rfl _ _ rfl (Sx.tat0 bS) ?_ | refine load_t _ rfl rfl _ _ rfl (Sx.tat0 bA) ?_ | refine load_t _ rfl rfl _ _ rfl (Sx.tat0 bB) ?_ | refine load_t _ rfl rfl _ _ rfl (Sx.tat0 bC) ?_ | refine load_t _ rfl rfl _ _ rfl (Sx.tat0 bD) ?_ | refine load_t _ rfl rfl _ _ rfl (Sx.tat1 bS) ?_ | refine load_t _ rfl rfl _ _ rfl (Sx.tat1 bA) ?_ | refine load_t _ rfl rfl _ _ rfl (Sx.tat1 bB) ?_ | refine load_t _ rfl rfl _ _ rfl (Sx.tat1 bC) ?_ | refine load_t _ rfl rfl _ _ rfl (Sx.tat1 bD) ?_)
  clear zD hwD
  generalize w4.heap.size = rD at bD ⊢
  refine (hd_join iC jC iD jD).mono ?_
  rintro e w5 ⟨nJ, pJ, lJ, cJ, mJ, qJ, kJ1, dJ, rfl, iJ, jJ, hb1⟩
  replace iS := iS.later hb1
  replace jS := jS.later hb1
  replace iA := iA.later hb1
  replace jA := jA.later hb1
  replace iB := iB.later hb1
  replace jB := jB.later hb1
  replace iC := iC.later hb1
  replace jC := jC.later hb1
  replace iD := iD.later hb1
  replace jD := jD.later hb1
  replace bS := Rw.later bS hb1
  replace bA := Rw.later bA hb1
  replace bB := Rw.later bB hb1
  replace bC := Rw.later bC hb1
  replace bD := Rw.later bD hb1
  replace hbel := below_on hbel hb1
  clear hb1
  have zJ := rw_new w5 26 #[.int .i64 0, .slice none 0 0, .int .i64 0, .slice none 0 0]
  obtain ⟨bJ, hb1⟩ := s_new w5 nJ pJ lJ cJ mJ qJ kJ1 dJ _ rfl
  generalize hwJ : (w5.alloc (.cells #[.int .i64 0, .slice none 0 0, .int .i64 0, .slice none 0 0] 26)).setRow w5.heap.size #[.int .i64 nJ, .slice pJ lJ cJ, .int .i64 mJ, .slice qJ kJ1 dJ] = vJ at bJ hb1
  replace iS := iS.later hb1
  replace jS := jS.later hb1
  replace iA := iA.later hb1
  replace jA := jA.later hb1
  replace iB := iB.later hb1
  replace jB := jB.later hb1
  replace iC := iC.later hb1
  replace jC := jC.later hb1
  replace iD := iD.later hb1
  replace jD := jD.later hb1
  replace iJ := iJ.later hb1
  replace jJ := jJ.later hb1
  replace bS := Rw.later bS hb1
  replace bA := Rw.later bA hb1
  replace bB := Rw.later bB hb1
  replace bC := Rw.later bC hb1
  replace bD := Rw.later bD hb1
  replace hbel := below_on hbel hb1
  clear hb1
  go_wp2_with (first | rw [hwJ] | refine store_s rfl _ _ rfl _ nJ pJ lJ cJ mJ qJ kJ1 dJ rfl rfl zJ ?_ | refine load_s _ rfl rfl _ rfl bS ?_ | refine load_s _ rfl rfl _ rfl bA ?_ | refine load_s _ rfl rfl _ rfl bB ?_ | refine load_s _ rfl rfl _ rfl bC ?_ | refine load_s _ rfl rfl _ rfl bD ?_ | refine load_s _ rfl rfl _ rfl bJ ?_ | refine load_t _ rfl rfl _ _ rfl (Sx.tat0 bS) ?_ | refine load_t _ rfl rfl _ _ rfl (Sx.tat0 bA) ?_ | refine load_t _ rfl rfl _ _ rfl (Sx.tat0 bB) ?_ | refine load_t _ rfl rfl _ _ rfl (Sx.tat0 bC) ?_ | refine load_t _ rfl rfl _ _ rfl (Sx.tat0 bD) ?_ | refine load_t _ rfl rfl _ _ rfl (Sx.tat0 bJ) ?_ | refine load_t _ rfl rfl _ _ rfl (Sx.tat1 bS) ?_ | refine load_t _ rfl rfl _ _ rfl (Sx.tat1 bA) ?_ | refine load_t _ rfl rfl _ _ rfl (Sx.tat1 bB) ?_ | refine load_t _ rfl rfl _ _ rfl (Sx.tat1 bC) ?_ | refine load_t _ rfl rfl _ _ rfl (Sx.tat1 bD) ?_ | refine load_t _ rfl rfl _ _ rfl (Sx.tat1 bJ) ?_)
  clear zJ hwJ
  generalize w5.heap.size = rJ at bJ ⊢
  refine (hd_peek jS).mono ?_
  rintro e w6 ⟨mK, qK, kK1, dK, rfl, jK, hb1⟩
  replace iS := iS.later hb1
  replace jS := jS.later hb1
  replace iA := iA.later hb1
  replace jA := jA.later hb1
  replace iB := iB.later hb1
  replace jB := jB.later hb1
  replace iC := iC.later hb1
  replace jC := jC.later hb1
  replace iD := iD.later hb1
  replace jD := jD.later hb1
  replace iJ := iJ.later hb1
  replace jJ := jJ.later hb1
  replace bS := Rw.later bS hb1
  replace bA := Rw.later bA hb1
  replace bB := Rw.later bB hb1
  replace bC := Rw.later bC hb1
  replace bD := Rw.later bD hb1
  replace bJ := Rw.later bJ hb1
  replace hbel := below_on hbel hb1
  clear hb1
  go_wp2_with fail
  refine (hd_eventZ (zI_is _) jK).mono ?_
  rintro e w7 ⟨nK2, pK2, lK2, cK2, mK2, qK2, kK21, dK2, rfl, iK2, jK2, hb1⟩
  replace iS := iS.later hb1
  replace jS := jS.later hb1
  replace iA := iA.later hb1
  replace jA := jA.later hb1
  replace iB := iB.later hb1
  replace jB := jB.later hb1
  replace iC := iC.later hb1
  replace jC := jC.later hb1
  replace iD := iD.later hb1
  replace jD := jD.later hb1
  replace iJ := iJ.later hb1
  replace jJ := jJ.later hb1
  replace bS := Rw.later bS hb1
  replace bA := Rw.later bA hb1
  replace bB := Rw.later bB hb1
  replace bC := Rw.later bC hb1
  replace bD := Rw.later bD hb1
  replace bJ := Rw.later bJ hb1
  replace hbel := below_on hbel hb1
  clear hb1
  have zK2 := rw_new w7 26 #[.int .i64 0, .slice none 0 0, .int .i64 0, .slice none 0 0]
  obtain ⟨bK2, hb1⟩ := s_new w7 nK2 pK2 lK2 cK2 mK2 qK2 kK21 dK2 _ rfl
  generalize hwK2 : (w7.alloc (.cells #[.int .i64 0, .slice none 0 0, .int .i64 0, .slice none 0 0] 26)).setRow w7.heap.size #[.int .i64 nK2, .slice pK2 lK2 cK2, .int .i64 mK2, .slice qK2 kK21 dK2] = vK2 at bK2 hb1
  replace iS := iS.later hb1
  replace jS := jS.later hb1
  replace iA := iA.later hb1
  replace jA := jA.later hb1
  replace iB := iB.later hb1
  replace jB := jB.later hb1
  replace iC := iC.later hb1
  replace jC := jC.later hb1
  replace iD := iD.later hb1
  replace jD := jD.later hb1
  replace iJ := iJ.later hb1
  replace jJ := jJ.later hb1
  replace iK2 := iK2.later hb1
  replace jK2 := jK2.later hb1
  replace bS := Rw.later bS hb1
  replace bA := Rw.later bA hb1
  replace bB := Rw.later bB hb1
  replace bC := Rw.later bC hb1
  replace bD := Rw.later bD hb1
  replace bJ := Rw.later bJ hb1
  replace hbel := below_on hbel hb1
  clear hb1
  go_wp2_with (first | rw [hwK2] | refine store_s rfl _ _ rfl _ nK2 pK2 lK2 cK2 mK2 qK2 kK21 dK2 rfl rfl zK2 ?_ | refine load_s _ rfl rfl _ rfl bS ?_ | refine load_s _ rfl rfl _ rfl bA ?_ | refine load_s _ rfl rfl _ rfl bB ?_ | refine load_s _ rfl rfl _ rfl bC ?_ | refine load_s _ rfl rfl _ rfl bD ?_ | refine load_s _ rfl rfl _ rfl bJ ?_ | refine load_s _ rfl rfl _ rfl bK2 ?_ | refine load_t _ rfl rfl _ _ rfl (Sx.tat0 bS) ?_ | refine load_t _ rfl rfl _ _ rfl (Sx.tat0 bA) ?_ | refine load_t _ rfl rfl _ _ rfl (Sx.tat0 bB) ?_ | refine load_t _ rfl rfl _ _ rfl (Sx.tat0 bC) ?_ | refine load_t _ rfl rfl _ _ rfl (Sx.tat0 bD) ?_ | refine load_t _ rfl rfl _ _ rfl (Sx.tat0 bJ) ?_ | refine load_t _ rfl rfl _ _ rfl (Sx.tat0 bK2) ?_ | refine load_t _ rfl rfl _ _ rfl (Sx.tat1 bS) ?_ | refine load_t _ rfl rfl _ _ rfl (Sx.tat1 bA) ?_ | refine load_t _ rfl rfl _ _ rfl (Sx.tat1 bB) ?_ | refine load_t _ rfl rfl _ _ rfl (Sx.tat1 bC) ?_ | refine load_t _ rfl rfl _ _ rfl (Sx.tat1 bD) ?_ | refine load_t _ rfl rfl _ _ rfl (Sx.tat1 bJ) ?_ | refine load_t _ rfl rfl _ _ rfl (Sx.tat1 bK2) ?_)
  clear zK2 hwK2
  generalize w7.heap.size = rK2 at bK2 ⊢
  refine (hd_joint iC jC).mono ?_
  rintro e w8 ⟨nL, pL, lL, cL, mL, qL, kL1, dL, rfl, iL, jL, hb1⟩
  replace iS := iS.later hb1
  replace jS := jS.later hb1
  replace iA := iA.later hb1
  replace jA := jA.later hb1
  replace iB := iB.later hb1
  replace jB := jB.later hb1
  replace iC := iC.later hb1
  replace jC := jC.later hb1
  replace iD := iD.later hb1
  replace jD := jD.later hb1
  replace iJ := iJ.later hb1
  replace jJ := jJ.later hb1
  replace iK2 := iK2.later hb1
  replace jK2 := jK2.later hb1
  replace bS := Rw.later bS hb1
  replace bA := Rw.later bA hb1
  replace bB := Rw.later bB hb1
  replace bC := Rw.later bC hb1
  replace bD := Rw.later bD hb1
  replace bJ := Rw.later bJ hb1
  replace bK2 := Rw.later bK2 hb1
  replace hbel := below_on hbel hb1
  clear hb1
  have zL := rw_new w8 26 #[.int .i64 0, .slice none 0 0, .int .i64 0, .slice none 0 0]
  obtain ⟨bL, hb1⟩ := s_new w8 nL pL lL cL mL qL kL1 dL _ rfl
  generalize hwL : (w8.alloc (.cells #[.int .i64 0, .slice none 0 0, .int .i64 0, .slice none 0 0] 26)).setRow w8.heap.size #[.int .i64 nL, .slice pL lL cL, .int .i64 mL, .slice qL kL1 dL] = vL at bL hb1
  replace iS := iS.later hb1
  replace jS := jS.later hb1
  replace iA := iA.later hb1
  replace jA := jA.later hb1
  replace iB := iB.later hb1
  replace jB := jB.later hb1
  replace iC := iC.later hb1
  replace jC := jC.later hb1
  replace iD := iD.later hb1
  replace jD := jD.later hb1
  replace iJ := iJ.later hb1
  replace jJ := jJ.later hb1
  replace iK2 := iK2.later hb1
  replace jK2 := jK2.later hb1
  replace iL := iL.later hb1
  replace jL := jL.later hb1
  replace bS := Rw.later bS hb1
  replace bA := Rw.later bA hb1
  replace bB := Rw.later bB hb1
  replace bC := Rw.later bC hb1
  replace bD := Rw.later bD hb1
  replace bJ := Rw.later bJ hb1
  replace bK2 := Rw.later bK2 hb1
  replace hbel := below_on hbel hb1
  clear hb1
  go_wp2_with (first | rw [hwL] | refine store_s rfl _ _ rfl _ nL pL lL cL mL qL kL1 dL rfl rfl zL ?_ | refine load_s _ rfl rfl _ rfl bS ?_ | refine load_s _ rfl rfl _ rfl bA ?_ | refine load_s _ rfl rfl _ rfl bB ?_ | refine load_s _ rfl rfl _ rfl bC ?_ | refine load_s _ rfl rfl _ rfl bD ?_ | refine load_s _ rfl rfl _ rfl bJ ?_ | refine load_s _ rfl rfl _ rfl bK2 ?_ | refine load_s _ rfl rfl _ rfl bL ?_ | refine load_t _ rfl rfl _ _ rfl (Sx.tat0 bS) ?_ | refine load_t _ rfl rfl _ _ rfl (Sx.tat0 bA) ?_ | refine load_t _ rfl rfl _ _ rfl (Sx.tat0 bB) ?_ | refine load_t _ rfl rfl _ _ rfl (Sx.tat0 bC) ?_ | refine load_t _ rfl rfl _ _ rfl (Sx.tat0 bD) ?_ | refine load_t _ rfl rfl _ _ rfl (Sx.tat0 bJ) ?_ | refine load_t _ rfl rfl _ _ rfl (Sx.tat0 bK2) ?_ | refine load_t _ rfl rfl _ _ rfl (Sx.tat0 bL) ?_ | refine load_t _ rfl rfl _ _ rfl (Sx.tat1 bS) ?_ | refine load_t _ rfl rfl _ _ rfl (Sx.tat1 bA) ?_ | refine load_t _ rfl rfl _ _ rfl (Sx.tat1 bB) ?_ | refine load_t _ rfl rfl _ _ rfl (Sx.tat1 bC) ?_ | refine load_t _ rfl rfl _ _ rfl (Sx.tat1 bD) ?_ | refine load_t _ rfl rfl _ _ rfl (Sx.tat1 bJ) ?_ | refine load_t _ rfl rfl _ _ rfl (Sx.tat1 bK2) ?_ | refine load_t _ rfl rfl _ _ rfl (Sx.tat1 bL) ?_)
  clear zL hwL
  generalize w8.heap.size = rL at bL ⊢
  refine (hd_eventS iS jS).mono ?_
  rintro e w9 ⟨nO, pO, lO, cO, mO, qO, kO1, dO, rfl, iO, jO, hb1⟩
  replace iS := iS.later hb1
  replace jS := jS.later hb1
  replace iA := iA.later hb1
  replace jA := jA.later hb1
  replace iB := iB.later hb1
  replace jB := jB.later hb1
  replace iC := iC.later hb1
  replace jC := jC.later hb1
  replace iD := iD.later hb1
  replace jD := jD.later hb1
  replace iJ := iJ.later hb1
  replace jJ := jJ.later hb1
  replace iK2 := iK2.later hb1
  replace jK2 := jK2.later hb1
  replace iL := iL.later hb1
  replace jL := jL.later hb1
  replace bS := Rw.later bS hb1
  replace bA := Rw.later bA hb1
  replace bB := Rw.later bB hb1
  replace bC := Rw.later bC hb1
  replace bD := Rw.later bD hb1
  replace bJ := Rw.later bJ hb1
  replace bK2 := Rw.later bK2 hb1
  replace bL := Rw.later bL hb1
  replace hbel := below_on hbel hb1
  clear hb1
  have zO := rw_new w9 26 #[.int .i64 0, .slice none 0 0, .int .i64 0, .slice none 0 0]
  obtain ⟨bO, hb1⟩ := s_new w9 nO pO lO cO mO qO kO1 dO _ rfl
  generalize hwO : (w9.alloc (.cells #[.int .i64 0, .slice none 0 0, .int .i64 0, .slice none 0 0] 26)).setRow w9.heap.size #[.int .i64 nO, .slice pO lO cO, .int .i64 mO, .slice qO kO1 dO] = vO at bO hb1
  replace iS := iS.later hb1
  replace jS := jS.later hb1
  replace iA := iA.later hb1
  replace jA := jA.later hb1
  replace iB := iB.later hb1
  replace jB := jB.later hb1
  replace iC := iC.later hb1
  replace jC := jC.later hb1
  replace iD := iD.later hb1
  replace jD := jD.later hb1
  replace iJ := iJ.later hb1
  replace jJ := jJ.later hb1
  replace iK2 := iK2.later hb1
  replace jK2 := jK2.later hb1
  replace iL := iL.later hb1
  replace jL := jL.later hb1
  replace iO := iO.later hb1
  replace jO := jO.later hb1
  replace bS := Rw.later bS hb1
  replace bA := Rw.later bA hb1
  replace bB := Rw.later bB hb1
  replace bC := Rw.later bC hb1
  replace bD := Rw.later bD hb1
  replace bJ := Rw.later bJ hb1
  replace bK2 := Rw.later bK2 hb1
  replace bL := Rw.later bL hb1
  replace hbel := below_on hbel hb1
  clear hb1
  clear bS bA bB bK2 bL iS jS iA jA iB jB iK2 jK2 iL jL
  have gC0 := Rw.cell bC 0
  have gC1 := Rw.cell bC 1
  have gC2 := Rw.cell bC 2
  have gC3 := Rw.cell bC 3
  simp at gC0 gC1 gC2 gC3
  have gD0 := Rw.cell bD 0
  have gD1 := Rw.cell bD 1
  have gD2 := Rw.cell bD 2
  have gD3 := Rw.cell bD 3
  simp at gD0 gD1 gD2 gD3
  have gJ0 := Rw.cell bJ 0
  have gJ1 := Rw.cell bJ 1
  have gJ2 := Rw.cell bJ 2
  have gJ3 := Rw.cell bJ 3
  simp at gJ0 gJ1 gJ2 gJ3
  have gO0 := Rw.cell bO 0
  have gO1 := Rw.cell bO 1
  have gO2 := Rw.cell bO 2
  have gO3 := Rw.cell bO 3
  simp at gO0 gO1 gO2 gO3
  go_wp2_with (first | rw [hwO] | refine store_s rfl _ _ rfl _ nO pO lO cO mO qO kO1 dO rfl rfl zO ?_)
  clear gC0 gC1 gC2 gC3
  clear gD0 gD1 gD2 gD3
  clear gJ0 gJ1 gJ2 gJ3
  clear gO0 gO1 gO2 gO3
  clear zO hwO
  generalize w9.heap.size = rO at bO ⊢
  refine (hd_same jO (is_leaf _ 1 none 0)).mono ?_
  rintro e w10 ⟨rfl, hb1⟩
  replace iC := iC.later hb1
  replace jC := jC.later hb1
  replace iD := iD.later hb1
  replace jD := jD.later hb1
  replace iJ := iJ.later hb1
  replace jJ := jJ.later hb1
  replace iO := iO.later hb1
  replace jO := jO.later hb1
  replace bC := Rw.later bC hb1
  replace bD := Rw.later bD hb1
  replace bJ := Rw.later bJ hb1
  replace bO := Rw.later bO hb1
  replace hbel := below_on hbel hb1
  clear hb1
  obtain ⟨t1, t2, hb2⟩ := row_tats w10 1 none 0 0 0 none 0 0 _ rfl
  generalize hwr : w10.alloc (.cells #[.int .i64 1, .slice none 0 0, .int .i64 0, .slice none 0 0] 24) = vr at t1 t2 hb2
  have gC0 := Rw.cell bC 0
  have gC1 := Rw.cell bC 1
  have gC2 := Rw.cell bC 2
  have gC3 := Rw.cell bC 3
  simp at gC0 gC1 gC2 gC3
  have gD0 := Rw.cell bD 0
  have gD1 := Rw.cell bD 1
  have gD2 := Rw.cell bD 2
  have gD3 := Rw.cell bD 3
  simp at gD0 gD1 gD2 gD3
  have gJ0 := Rw.cell bJ 0
  have gJ1 := Rw.cell bJ 1
  have gJ2 := Rw.cell bJ 2
  have gJ3 := Rw.cell bJ 3
  simp at gJ0 gJ1 gJ2 gJ3
  have gO0 := Rw.cell bO 0
  have gO1 := Rw.cell bO 1
  have gO2 := Rw.cell bO 2
  have gO3 := Rw.cell bO 3
  simp at gO0 gO1 gO2 gO3
  go_wp2_with (first | rw [hwr])
  clear gC0 gC1 gC2 gC3
  clear gD0 gD1 gD2 gD3
  clear gJ0 gJ1 gJ2 gJ3
  clear gO0 gO1 gO2 gO3
  clear hwr
  replace iC := iC.later hb2
  replace jC := jC.later hb2
  replace iD := iD.later hb2
  replace jD := jD.later hb2
  replace iJ := iJ.later hb2
  replace jJ := jJ.later hb2
  replace iO := iO.later hb2
  replace jO := jO.later hb2
  replace bC := Rw.later bC hb2
  replace bD := Rw.later bD hb2
  replace bJ := Rw.later bJ hb2
  replace bO := Rw.later bO hb2
  replace hbel := below_on hbel hb2
  clear hb2
  have inn : Is vr hC (TV 0 (some ⟨w10.heap.size, 0, none⟩) 2 2) := ⟨_, _, _, _, _, _, _, _, _, _, _, rfl, t1, t2, is_leaf _ _ _ _, is_leaf _ _ _ _⟩
  clear t1 t2
  refine (hd_same jC inn).mono ?_
  rintro e w11 ⟨rfl, hb1⟩
  replace iC := iC.later hb1
  replace jC := jC.later hb1
  replace iD := iD.later hb1
  replace jD := jD.later hb1
  replace iJ := iJ.later hb1
  replace jJ := jJ.later hb1
  replace iO := iO.later hb1
  replace jO := jO.later hb1
  replace bC := Rw.later bC hb1
  replace bD := Rw.later bD hb1
  replace bJ := Rw.later bJ hb1
  replace bO := Rw.later bO hb1
  replace hbel := below_on hbel hb1
  clear hb1
  clear inn
  have gC0 := Rw.cell bC 0
  have gC1 := Rw.cell bC 1
  have gC2 := Rw.cell bC 2
  have gC3 := Rw.cell bC 3
  simp at gC0 gC1 gC2 gC3
  have gD0 := Rw.cell bD 0
  have gD1 := Rw.cell bD 1
  have gD2 := Rw.cell bD 2
  have gD3 := Rw.cell bD 3
  simp at gD0 gD1 gD2 gD3
  have gJ0 := Rw.cell bJ 0
  have gJ1 := Rw.cell bJ 1
  have gJ2 := Rw.cell bJ 2
  have gJ3 := Rw.cell bJ 3
  simp at gJ0 gJ1 gJ2 gJ3
  have gO0 := Rw.cell bO 0
  have gO1 := Rw.cell bO 1
  have gO2 := Rw.cell bO 2
  have gO3 := Rw.cell bO 3
  simp at gO0 gO1 gO2 gO3
  go_wp2_with fail
  clear gC0 gC1 gC2 gC3
  clear gD0 gD1 gD2 gD3
  clear gJ0 gJ1 gJ2 gJ3
  clear gO0 gO1 gO2 gO3
  refine (hd_same (hd_id iJ) (is_leaf _ 1 none 0)).mono ?_
  rintro e w12 ⟨rfl, hb1⟩
  replace iC := iC.later hb1
  replace jC := jC.later hb1
  replace iD := iD.later hb1
  replace jD := jD.later hb1
  replace iJ := iJ.later hb1
  replace jJ := jJ.later hb1
  replace iO := iO.later hb1
  replace jO := jO.later hb1
  replace bC := Rw.later bC hb1
  replace bD := Rw.later bD hb1
  replace bJ := Rw.later bJ hb1
  replace bO := Rw.later bO hb1
  replace hbel := below_on hbel hb1
  clear hb1
  have gC0 := Rw.cell bC 0
  have gC1 := Rw.cell bC 1
  have gC2 := Rw.cell bC 2
  have gC3 := Rw.cell bC 3
  simp at gC0 gC1 gC2 gC3
  have gD0 := Rw.cell bD 0
  have gD1 := Rw.cell bD 1
  have gD2 := Rw.cell bD 2
  have gD3 := Rw.cell bD 3
  simp at gD0 gD1 gD2 gD3
  have gJ0 := Rw.cell bJ 0
  have gJ1 := Rw.cell bJ 1
  have gJ2 := Rw.cell bJ 2
  have gJ3 := Rw.cell bJ 3
  simp at gJ0 gJ1 gJ2 gJ3
  have gO0 := Rw.cell bO 0
  have gO1 := Rw.cell bO 1
  have gO2 := Rw.cell bO 2
  have gO3 := Rw.cell bO 3
  simp at gO0 gO1 gO2 gO3
  go_wp2_with fail
  clear gC0 gC1 gC2 gC3
  clear gD0 gD1 gD2 gD3
  clear gJ0 gJ1 gJ2 gJ3
  clear gO0 gO1 gO2 gO3
  refine (hd_same jJ (is_leaf _ 1 none 0)).mono ?_
  rintro e w13 ⟨rfl, hb1⟩
  replace iC := iC.later hb1
  replace jC := jC.later hb1
  replace iD := iD.later hb1
  replace jD := jD.later hb1
  replace iJ := iJ.later hb1
  replace jJ := jJ.later hb1
  replace iO := iO.later hb1
  replace jO := jO.later hb1
  replace bC := Rw.later bC hb1
  replace bD := Rw.later bD hb1
  replace bJ := Rw.later bJ hb1
  replace bO := Rw.later bO hb1
  replace hbel := below_on hbel hb1
  clear hb1
  have qCD := fun w1 (a : Idn.Is w1 hA (TV nC pC lC cC)) (b : Is w1 hC (TV mC qC kC1 dC)) (c : Idn.Is w1 hB (TV nD pD lD cD)) (d : Is w1 hD (TV mD qD kD1 dD)) => sLeq_is a b c d kA kC kB kD
  have qDC := fun w1 (a : Idn.Is w1 hA (TV nC pC lC cC)) (b : Is w1 hC (TV mC qC kC1 dC)) (c : Idn.Is w1 hB (TV nD pD lD cD)) (d : Is w1 hD (TV mD qD kD1 dD)) => sLeq_is c d a b kB kD kA kC
  have qCO := fun w1 (a : Idn.Is w1 hA (TV nC pC lC cC)) (b : Is w1 hC (TV mC qC kC1 dC)) (c : Idn.Is w1 hS (TV nJ pJ lJ cJ)) (d : Is w1 hO (TV mJ qJ kJ1 dJ)) => sLeq_is a b c d kA kC kS kO
  rw [leqCD] at qCD
  rw [leqDC] at qDC
  rw [leqCO] at qCO
  have gC0 := Rw.cell bC 0
  have gC1 := Rw.cell bC 1
  have gC2 := Rw.cell bC 2
  have gC3 := Rw.cell bC 3
  simp at gC0 gC1 gC2 gC3
  have gD0 := Rw.cell bD 0
  have gD1 := Rw.cell bD 1
  have gD2 := Rw.cell bD 2
  have gD3 := Rw.cell bD 3
  simp at gD0 gD1 gD2 gD3
  have gJ0 := Rw.cell bJ 0
  have gJ1 := Rw.cell bJ 1
  have gJ2 := Rw.cell bJ 2
  have gJ3 := Rw.cell bJ 3
  simp at gJ0 gJ1 gJ2 gJ3
  have gO0 := Rw.cell bO 0
  have gO1 := Rw.cell bO 1
  have gO2 := Rw.cell bO 2
  have gO3 := Rw.cell bO 3
  simp at gO0 gO1 gO2 gO3
  go_wp2_with fail
  clear gC0 gC1 gC2 gC3
  clear gD0 gD1 gD2 gD3
  clear gJ0 gJ1 gJ2 gJ3
  clear gO0 gO1 gO2 gO3
  refine (qCD _ iC jC iD jD).mono ?_
  rintro e w14 ⟨rfl, hb1⟩
  replace iC := iC.later hb1
  replace jC := jC.later hb1
  replace iD := iD.later hb1
  replace jD := jD.later hb1
  replace iJ := iJ.later hb1
  replace jJ := jJ.later hb1
  replace iO := iO.later hb1
  replace jO := jO.later hb1
  replace bC := Rw.later bC hb1
  replace bD := Rw.later bD hb1
  replace bJ := Rw.later bJ hb1
  replace bO := Rw.later bO hb1
  replace hbel := below_on hbel hb1
  clear hb1
  have gC0 := Rw.cell bC 0
  have gC1 := Rw.cell bC 1
  have gC2 := Rw.cell bC 2
  have gC3 := Rw.cell bC 3
  simp at gC0 gC1 gC2 gC3
  have gD0 := Rw.cell bD 0
  have gD1 := Rw.cell bD 1
  have gD2 := Rw.cell bD 2
  have gD3 := Rw.cell bD 3
  simp at gD0 gD1 gD2 gD3
  have gJ0 := Rw.cell bJ 0
  have gJ1 := Rw.cell bJ 1
  have gJ2 := Rw.cell bJ 2
  have gJ3 := Rw.cell bJ 3
  simp at gJ0 gJ1 gJ2 gJ3
  have gO0 := Rw.cell bO 0
  have gO1 := Rw.cell bO 1
  have gO2 := Rw.cell bO 2
  have gO3 := Rw.cell bO 3
  simp at gO0 gO1 gO2 gO3
  go_wp2_with fail
  clear gC0 gC1 gC2 gC3
  clear gD0 gD1 gD2 gD3
  clear gJ0 gJ1 gJ2 gJ3
  clear gO0 gO1 gO2 gO3
  refine (qDC _ iC jC iD jD).mono ?_
  rintro e w15 ⟨rfl, hb1⟩
  replace iC := iC.later hb1
  replace jC := jC.later hb1
  replace iD := iD.later hb1
  replace jD := jD.later hb1
  replace iJ := iJ.later hb1
  replace jJ := jJ.later hb1
  replace iO := iO.later hb1
  replace jO := jO.later hb1
  replace bC := Rw.later bC hb1
  replace bD := Rw.later bD hb1
  replace bJ := Rw.later bJ hb1
  replace bO := Rw.later bO hb1
  replace hbel := below_on hbel hb1
  clear hb1
  have gC0 := Rw.cell bC 0
  have gC1 := Rw.cell bC 1
  have gC2 := Rw.cell bC 2
  have gC3 := Rw.cell bC 3
  simp at gC0 gC1 gC2 gC3
  have gD0 := Rw.cell bD 0
  have gD1 := Rw.cell bD 1
  have gD2 := Rw.cell bD 2
  have gD3 := Rw.cell bD 3
  simp at gD0 gD1 gD2 gD3
  have gJ0 := Rw.cell bJ 0
  have gJ1 := Rw.cell bJ 1
  have gJ2 := Rw.cell bJ 2
  have gJ3 := Rw.cell bJ 3
  simp at gJ0 gJ1 gJ2 gJ3
  have gO0 := Rw.cell bO 0
  have gO1 := Rw.cell bO 1
  have gO2 := Rw.cell bO 2
  have gO3 := Rw.cell bO 3
  simp at gO0 gO1 gO2 gO3
  go_wp2_with fail
  clear gC0 gC1 gC2 gC3
  clear gD0 gD1 gD2 gD3
  clear gJ0 gJ1 gJ2 gJ3
  clear gO0 gO1 gO2 gO3
  refine (qCO _ iC jC iJ jJ).mono ?_
  rintro e w16 ⟨rfl, hb1⟩
  replace iC := iC.later hb1
  replace jC := jC.later hb1
  replace iD := iD.later hb1
  replace jD := jD.later hb1
  replace iJ := iJ.later hb1
  replace jJ := jJ.later hb1
  replace iO := iO.later hb1
  replace jO := jO.later hb1
  replace bC := Rw.later bC hb1
  replace bD := Rw.later bD hb1
  replace bJ := Rw.later bJ hb1
  replace bO := Rw.later bO hb1
  replace hbel := below_on hbel hb1
  clear hb1
  have gC0 := Rw.cell bC 0
  have gC1 := Rw.cell bC 1
  have gC2 := Rw.cell bC 2
  have gC3 := Rw.cell bC 3
  simp at gC0 gC1 gC2 gC3
  have gD0 := Rw.cell bD 0
  have gD1 := Rw.cell bD 1
  have gD2 := Rw.cell bD 2
  have gD3 := Rw.cell bD 3
  simp at gD0 gD1 gD2 gD3
  have gJ0 := Rw.cell bJ 0
  have gJ1 := Rw.cell bJ 1
  have gJ2 := Rw.cell bJ 2
  have gJ3 := Rw.cell bJ 3
  simp at gJ0 gJ1 gJ2 gJ3
  have gO0 := Rw.cell bO 0
  have gO1 := Rw.cell bO 1
  have gO2 := Rw.cell bO 2
  have gO3 := Rw.cell bO 3
  simp at gO0 gO1 gO2 gO3
  go_wp2_with fail
  clear gC0 gC1 gC2 gC3
  clear gD0 gD1 gD2 gD3
  clear gJ0 gJ1 gJ2 gJ3
  clear gO0 gO1 gO2 gO3
  refine (sCheck_is iJ jJ kS kO).mono ?_
  rintro e w17 ⟨rfl, hb1⟩
  replace iC := iC.later hb1
  replace jC := jC.later hb1
  replace iD := iD.later hb1
  replace jD := jD.later hb1
  replace iJ := iJ.later hb1
  replace jJ := jJ.later hb1
  replace iO := iO.later hb1
  replace jO := jO.later hb1
  replace bC := Rw.later bC hb1
  replace bD := Rw.later bD hb1
  replace bJ := Rw.later bJ hb1
  replace bO := Rw.later bO hb1
  replace hbel := below_on hbel hb1
  clear hb1
  go_wp2
  go_ret
  exact ⟨rfl, hbel⟩
end Go.Proofs.Ytmcajjdijjcpkaa
/- What the laws of stamps lean on: Few and Check of the document's answer; stamps that may be; their first steps. -/
namespace Go.Proofs.Ytmcajjdijjcpkaa
open Go.RowKit
open Idn (ID)

theorem Calm.loadS {ops : Array Oper} {S : World → Prop} {K : Act → Prop} {o : Oper} {l : List Oper} {a : Act} {b : Nat} {n : Int} {p : Option Addr} {ln c : Nat} {n' : Int} {p' : Option Addr} {ln' c' : Nat} (hw : Region.wanted o (yielded ops a.tmps) = true) (x : Operand) (ho : o.op = .load 26 x)
    (hx : a.eval x = .pointer (some ⟨b, 0, none⟩)) (hS : ∀ w, S w → Sx w b n p ln c n' p' ln' c') (h : Calm.calmList Try.prog ops S K l (a.put o.dst (SV n p ln c n' p' ln' c'))) : Calm.calmList Try.prog ops S K (o :: l) a :=
  Calm.pure hw (fun w hw' => by unfold execOp; simp only [ho, hx, Sem.run_bind, (hS w hw').loadAt', Result.andThen_ok, Sem.run_pure]) h
set_option maxHeartbeats 1000000 in
set_option maxRecDepth 100000 in
theorem few_s (t u : Tr) (n : Int) (p : Option Addr) (l c : Nat) (n' : Int) (p' : Option Addr) (l' c' : Nat) (w : World) (ht : Lies w t (TV n p l c)) (hu : Lies w u (TV n' p' l' c')) :
    Calls Try.prog 7 #[SV n p l c n' p' l' c'] w fun e w' => ∃ b : Bool, e = .returned (.bool b) ∧ (b = true → sz t ≤ 120 ∧ sz u ≤ 120) ∧ Below w.heap.size w w' := by
  obtain ⟨h1, hbel⟩ := one_r w 26 #[.int .i64 n, .slice p l c, .int .i64 n', .slice p' l' c'] _ rfl
  have r0 := fun w1 (hb : Below w.heap.size w w1) => few_sz t n p l c w1 (ht.later hb)
  have r1 := fun w1 (hb : Below w.heap.size w w1) => few_sz u n' p' l' c' w1 (hu.later hb)
  clear ht hu
  go_enter Try.func7, Try.ntmps7
  go_wp2_with (refine load_t _ rfl rfl _ _ rfl (Sx.tat0 h1) ?_)
  refine (r0 _ hbel).mono ?_
  rintro e w1 ⟨b, rfl, hb0, hb1⟩
  replace h1 := h1.later hb1
  replace hbel := below_on hbel hb1
  have H0 : Hid (b = true → sz t ≤ 120) := hb0
  clear hb0 hb1 r0
  cases b
  · go_wp2
    go_ret
    exact ⟨false, rfl, fun h => (by cases h), hbel⟩
  · go_wp2_with (refine load_t _ rfl rfl _ _ rfl (Sx.tat1 h1) ?_)
    refine (r1 _ hbel).mono ?_
    rintro e w2 ⟨b1, rfl, hb0, hb2⟩
    have H1 : Hid (b1 = true → sz u ≤ 120) := hb0
    have hb3 := below_on hbel hb2
    clear hb0 hb2 hbel r1
    go_wp2
    go_ret
    exact ⟨b1, rfl, fun h => ⟨H0.out (by first | rfl | trivial), H1.out h⟩, hb3⟩
set_option maxHeartbeats 1000000 in
set_option maxRecDepth 100000 in
theorem check_s (t u : Tr) (n : Int) (p : Option Addr) (l c : Nat) (n' : Int) (p' : Option Addr) (l' c' : Nat) (w : World) (ht : Lies w t (TV n p l c)) (hu : Lies w u (TV n' p' l' c')) :
    Calls Try.prog 8 #[SV n p l c n' p' l' c'] w (Tells (.bool (Idn.okT t && okT u)) w) := by
  obtain ⟨h1, hbel⟩ := one_r w 26 #[.int .i64 n, .slice p l c, .int .i64 n', .slice p' l' c'] _ rfl
  have r0 := fun w1 (hb : Below w.heap.size w w1) => Idn.refCheck_tr t n p l c w1 (ht.later hb)
  have r1 := fun w1 (hb : Below w.heap.size w w1) => refCheck_tr u n' p' l' c' w1 (hu.later hb)
  generalize Idn.okT t = b at r0 ⊢
  generalize okT u = b1 at r1 ⊢
  clear ht hu
  go_enter Try.func8, Try.ntmps8
  go_wp2_with (refine load_t _ rfl rfl _ _ rfl (Sx.tat0 h1) ?_)
  refine (r0 _ hbel).mono ?_
  rintro e w1 ⟨rfl, hb1⟩
  replace h1 := h1.later hb1
  replace hbel := below_on hbel hb1
  cases b
  · go_wp2
    go_ret
    exact ⟨rfl, hbel⟩
  · go_wp2_with (refine load_t _ rfl rfl _ _ rfl (Sx.tat1 h1) ?_)
    refine (r1 _ hbel).mono ?_
    rintro e w2 ⟨rfl, hb2⟩
    go_wp2
    go_ret
    exact ⟨rfl, below_on hbel hb2⟩
theorem okI_of {w : World} {t : Tr} {v : Value} (h : Lies w t v) (hk : Idn.okT t = true) : Idn.Is w (Idn.idOf t) v ∧ Idn.ok (Idn.idOf t) = true := ⟨Idn.is_ok h hk, Idn.okT_ok h hk⟩
theorem peek_is {a : EV} {n : Int} {p : Option Addr} {l c : Nat} {n' : Int} {p' : Option Addr} {l' c' : Nat} {w : World} {u : Tr} (hu : Lies w u (TV n' p' l' c')) (hz : sz u ≤ 120) (hk : okT u = true) (ha : evOf u = a) : Calls Try.prog 10 #[SV n p l c n' p' l' c'] w (GivesS zI a w) :=
  (peek_tr u n p l c n' p' l' c' w hu hz).mono fun _ _ ⟨m, q, k, d, e, h, hb⟩ => ⟨0, none, 0, 0, m, q, k, d, e, zI_is _, by rw [← ha]; exact (ok_of h hk).1, hb⟩
theorem share_is {x : ID} {n : Int} {p : Option Addr} {l c : Nat} {w : World} (hx : Idn.Is w x (TV n p l c)) (kx : Idn.ok x = true) : Calls Try.prog 14 #[TV n p l c] w (Tells (.int .i64 (Idn.own x 65536 : Nat)) w) := by
  have := Idn.share_any x n p l c w hx
  rwa [Idn.shareT_ok kx] at this
end Go.Proofs.Ytmcajjdijjcpkaa
