import Derived.Test.YtmcajjdijjcpkaaP6
/- The functions Sum and Apart of package idtree. -/
namespace Go.Proofs.Ytmcajjdijjcpkaa.Idn
open Go.RowKit

/-- The Sum of two trees of whatever form. -/
def sumX (t u : Tr) : ID := if okT t && okT u then uT (unite (idOf t) (idOf u)) else .leaf false
def sumE (t u : Tr) : Int := if okT t && okT u then uE (unite (idOf t) (idOf u)) else 3

theorem is_ok {w : World} {t : Tr} {v : Value} (h : Lies w t v) (hk : okT t = true) : Is w (idOf t) v := by
  unfold okT at hk
  simp only [Bool.and_eq_true] at hk
  exact (is_of_lies t 16 v hk.1 h).1

set_option maxHeartbeats 2000000 in
set_option maxRecDepth 100000 in
theorem sum_tr (t u : Tr) (n : Int) (p : Option Addr) (l c : Nat) (n' : Int) (p' : Option Addr) (l' c' : Nat) (w : World) (ht : Lies w t (TV n p l c)) (hu : Lies w u (TV n' p' l' c')) :
    Calls Try.prog 33 #[TV n p l c, TV n' p' l' c'] w (GivesE (sumX t u) (sumE t u) w) := by
  obtain ⟨h1, h2, h3, hbel⟩ := three_box w n p l c n' p' l' c' 0 none 0 0 _ rfl
  have r0 := fun w1 (hb : Below w.heap.size w w1) => check_tr t n p l c w1 (ht.later hb)
  have r1 := fun w1 (hb : Below w.heap.size w w1) => check_tr u n' p' l' c' w1 (hu.later hb)
  have r2 := fun w1 (hb : Below w.heap.size w w1) (k0 : okT t = true) (k1 : okT u = true) => unite_any (idOf t) (idOf u) n p l c n' p' l' c' w1 ((is_ok ht k0).later hb) ((is_ok hu k1).later hb)
  obtain ⟨xz, ez, HX, HE⟩ : ∃ x e, Hid (sumX t u = x) ∧ Hid (sumE t u = e) := ⟨_, _, rfl, rfl⟩
  rw [HX.out, HE.out]
  unfold sumX at HX
  unfold sumE at HE
  clear ht hu
  generalize okT t = b at r0 r2 HX HE
  generalize okT u = b' at r1 r2 HX HE
  generalize unite (idOf t) (idOf u) = z at r2 HX HE
  go_enter Try.func33, Try.ntmps33
  go_wp2_with (refine load_t _ rfl rfl _ _ rfl h1.tat ?_)
  refine (r0 _ hbel).mono ?_
  rintro e w1 ⟨rfl, hb1⟩
  replace h1 := h1.later hb1
  replace h2 := h2.later hb1
  replace h3 := h3.later hb1
  replace hbel := below_on hbel hb1
  clear hb1 r0
  cases b
  · obtain rfl : xz = .leaf false := HX.out.symm
    obtain rfl : ez = 3 := HE.out.symm
    have R := below_setRow hbel (g := w.heap.size + 1 + 1) (by omega) #[.int .i64 0, .slice none 0 0]
    clear HX HE r1 r2 h1 h2 hbel
    go_wp2_with (refine store_t rfl _ _ rfl _ 0 none 0 0 rfl rfl h3 ?_)
    exact bodyPost_ret (results_te rfl rfl (h3.row _ _ _ _)) rfl ⟨_, _, _, _, rfl, is_leaf _ false _ _, R⟩
  · go_wp2_with (refine load_t _ rfl rfl _ _ rfl h2.tat ?_)
    refine (r1 _ hbel).mono ?_
    rintro e w2 ⟨rfl, hb1⟩
    replace h1 := h1.later hb1
    replace h2 := h2.later hb1
    replace h3 := h3.later hb1
    replace hbel := below_on hbel hb1
    clear hb1 r1
    cases b'
    · obtain rfl : xz = .leaf false := HX.out.symm
      obtain rfl : ez = 3 := HE.out.symm
      have R := below_setRow hbel (g := w.heap.size + 1 + 1) (by omega) #[.int .i64 0, .slice none 0 0]
      clear HX HE r2 h1 h2 hbel
      go_wp2_with (refine store_t rfl _ _ rfl _ 0 none 0 0 rfl rfl h3 ?_)
      exact bodyPost_ret (results_te rfl rfl (h3.row _ _ _ _)) rfl ⟨_, _, _, _, rfl, is_leaf _ false _ _, R⟩
    · have ex : uT z = xz := HX.out
      have ee : uE z = ez := HE.out
      rw [ex, ee] at r2
      clear HX HE ex ee
      go_wp2_with (first | refine load_t _ rfl rfl _ _ rfl h1.tat ?_ | refine load_t _ rfl rfl _ _ rfl h2.tat ?_)
      refine (r2 _ hbel trivial trivial).mono ?_
      rintro e w3 ⟨n2, p2, l2, c2, rfl, hi, hb1⟩
      replace h3 := h3.later hb1
      have R := below_setRow (below_on hbel hb1) (g := w.heap.size + 1 + 1) (by omega) #[.int .i64 n2, .slice p2 l2 c2]
      clear hbel hb1 h1 h2 r2
      go_wp2_with (refine store_t rfl _ _ rfl _ n2 p2 l2 c2 rfl rfl h3 ?_)
      exact bodyPost_ret (results_te rfl rfl (h3.row _ _ _ _)) rfl ⟨_, _, _, _, rfl, hi.box h3 _, R⟩

set_option maxHeartbeats 2000000 in
set_option maxRecDepth 100000 in
theorem apart_tr (t u : Tr) (n : Int) (p : Option Addr) (l c : Nat) (n' : Int) (p' : Option Addr) (l' c' : Nat) (w : World) (ht : Lies w t (TV n p l c)) (hu : Lies w u (TV n' p' l' c')) :
    Calls Try.prog 12 #[TV n p l c, TV n' p' l' c'] w fun e w' => e = .returned (.bool (sumE t u == 0)) ∧ Below w.heap.size w w' := by
  obtain ⟨h1, h2, hbel⟩ := two_box w n p l c n' p' l' c' _ rfl
  have r2 := sum_tr t u n p l c n' p' l' c' _ (ht.later hbel) (hu.later hbel)
  clear ht hu
  generalize sumX t u = x at r2
  generalize sumE t u = r at r2 ⊢
  go_enter Try.func12, Try.ntmps12
  go_wp2_with (first | refine load_t _ rfl rfl _ _ rfl h1.tat ?_ | refine load_t _ rfl rfl _ _ rfl h2.tat ?_)
  refine r2.mono ?_
  rintro e w3 ⟨n2, p2, l2, c2, rfl, hi, hb1⟩
  have R := below_on (below_on hbel hb1) (new_below w3 n2 p2 l2 c2)
  clear hbel hb1 h1 h2 r2
  go_wp2_with (refine store_t rfl _ _ rfl _ n2 p2 l2 c2 rfl rfl (bx_new w3 0 none 0 0) ?_)
  go_ret
  exact ⟨rfl, R⟩

theorem sum_any (x y : ID) (n : Int) (p : Option Addr) (l c : Nat) (n' : Int) (p' : Option Addr) (l' c' : Nat) (w : World) (hx : Is w x (TV n p l c)) (hy : Is w y (TV n' p' l' c')) :
    Calls Try.prog 33 #[TV n p l c, TV n' p' l' c'] w (GivesE (sumX (toTr x) (toTr y)) (sumE (toTr x) (toTr y)) w) := sum_tr _ _ _ _ _ _ _ _ _ _ w (lies_is x _ hx) (lies_is y _ hy)
theorem apart_any (x y : ID) (n : Int) (p : Option Addr) (l c : Nat) (n' : Int) (p' : Option Addr) (l' c' : Nat) (w : World) (hx : Is w x (TV n p l c)) (hy : Is w y (TV n' p' l' c')) :
    Calls Try.prog 12 #[TV n p l c, TV n' p' l' c'] w fun e w' => e = .returned (.bool (sumE (toTr x) (toTr y) == 0)) ∧ Below w.heap.size w w' := apart_tr _ _ _ _ _ _ _ _ _ _ w (lies_is x _ hx) (lies_is y _ hy)
end Go.Proofs.Ytmcajjdijjcpkaa.Idn
/- The functions halve and Split of package idtree. -/
namespace Go.Proofs.Ytmcajjdijjcpkaa.Idn
open Go.RowKit

/-- The two halves. -/
def halve : ID → ID × ID
  | ⟨.inl _⟩ => (mk (.leaf true) (.leaf false), mk (.leaf false) (.leaf true))
  | ⟨.inr (x, y)⟩ => if nil x then (mk (.leaf false) (halve y).1, mk (.leaf false) (halve y).2) else if nil y then (mk (halve x).1 (.leaf false), mk (halve x).2 (.leaf false)) else (mk (norm x) (.leaf false), mk (.leaf false) (norm y))

/-- The call answers two trees. -/
abbrev GivesT (x y : ID) (w : World) (e : Ending) (w' : World) : Prop := ∃ n p l c n' p' l' c', e = .returned (.tuple #[TV n p l c, TV n' p' l' c']) ∧ Is w' x (TV n p l c) ∧ Is w' y (TV n' p' l' c') ∧ Below w.heap.size w w'

theorem leaf_gives (b : Bool) (w : World) : Calls Try.prog 97 #[.int .i64 (bi b)] w (Gives (.leaf b) w) :=
  (leaf_any (bi b) w).mono fun _ _ ⟨he, hb⟩ => ⟨_, _, _, _, he, is_leaf _ b _ _, hb⟩

theorem two_new0 (w : World) : Bx ((w.alloc (.cells #[.int .i64 0, .slice none 0 0] 24)).alloc (.cells #[.int .i64 0, .slice none 0 0] 24)) w.heap.size 0 none 0 0 := (bx_new w 0 none 0 0).alloc _
theorem two_new1 (w : World) (n : Int) (p : Option Addr) (l c : Nat) : Bx (((w.alloc (.cells #[.int .i64 0, .slice none 0 0] 24)).alloc (.cells #[.int .i64 0, .slice none 0 0] 24)).setRow w.heap.size #[.int .i64 n, .slice p l c]) (w.heap.size + 1) 0 none 0 0 := (bx_next _ (by simp) 0 none 0 0).rowOther (by omega) _
theorem two_new (w : World) (n : Int) (p : Option Addr) (l c : Nat) (n' : Int) (p' : Option Addr) (l' c' : Nat) : ∀ w0, w0 = (((w.alloc (.cells #[.int .i64 0, .slice none 0 0] 24)).alloc (.cells #[.int .i64 0, .slice none 0 0] 24)).setRow w.heap.size #[.int .i64 n, .slice p l c]).setRow (w.heap.size + 1) #[.int .i64 n', .slice p' l' c'] →
    Bx w0 w.heap.size n p l c ∧ Bx w0 (w.heap.size + 1) n' p' l' c' ∧ Below w.heap.size w w0 := by
  rintro w0 rfl
  exact ⟨((two_new0 w).row n p l c).rowOther (by omega) _, (two_new1 w n p l c).row _ _ _ _, below_setRow (below_setRow (((Below.refl _ _).alloc (Nat.le_refl _) _).alloc (by simp) _) (Nat.le_refl _) _) (by omega) _⟩

set_option maxHeartbeats 2000000 in
set_option maxRecDepth 100000 in
theorem halve_leaf (b : Bool) (p : Option Addr) (c : Nat) (w : World) : Calls Try.prog 73 #[TV (bi b) p 0 c] w (GivesT (mk (.leaf true) (.leaf false)) (mk (.leaf false) (.leaf true)) w) := by
  obtain ⟨h1, h2, h3, hbel⟩ := three_box w (bi b) p 0 c 0 none 0 0 0 none 0 0 _ rfl
  have hL : ∀ w, Calls Try.prog 55 #[TV (bi b) p 0 c] w fun e w' => e = .returned (.bool true) ∧ Below w.heap.size w w' := isLeaf_any (bi b) p 0 c
  generalize bi b = m at h1 h2 h3 hbel hL ⊢
  go_enter Try.func73, Try.ntmps73
  go_wp2_with (refine load_t _ rfl rfl _ _ rfl h1.tat ?_)
  refine (hL _).mono ?_
  rintro e w1 ⟨rfl, hb1⟩
  replace h2 := h2.later hb1
  replace h3 := h3.later hb1
  replace hbel := below_on hbel hb1
  clear hb1 h1 hL
  go_wp2_with fail
  refine (leaf_gives true _).mono ?_
  rintro e w2 ⟨n2, p2, l2, c2, rfl, i2, hb1⟩
  replace h2 := h2.later hb1
  replace h3 := h3.later hb1
  replace hbel := below_on hbel hb1
  clear hb1
  go_wp2_with fail
  refine (leaf_gives false _).mono ?_
  rintro e w3 ⟨n3, p3, l3, c3, rfl, i3, hb1⟩
  replace h2 := h2.later hb1
  replace h3 := h3.later hb1
  replace i2 := i2.later hb1
  replace hbel := below_on hbel hb1
  clear hb1
  go_wp2_with fail
  refine (pair_any _ _ _ _ _ _ _ _ _ _ _ i2 i3).mono ?_
  rintro e w4 ⟨n4, p4, l4, c4, rfl, i4, hb1⟩
  replace h2 := h2.later hb1
  replace h3 := h3.later hb1
  replace hbel := below_on hbel hb1
  clear hb1 i2 i3
  go_wp2_with fail
  refine (leaf_gives false _).mono ?_
  rintro e w5 ⟨n5, p5, l5, c5, rfl, i5, hb1⟩
  replace h2 := h2.later hb1
  replace h3 := h3.later hb1
  replace i4 := i4.later hb1
  replace hbel := below_on hbel hb1
  clear hb1
  go_wp2_with fail
  refine (leaf_gives true _).mono ?_
  rintro e w6 ⟨n6, p6, l6, c6, rfl, i6, hb1⟩
  replace h2 := h2.later hb1
  replace h3 := h3.later hb1
  replace i4 := i4.later hb1
  replace i5 := i5.later hb1
  replace hbel := below_on hbel hb1
  clear hb1
  go_wp2_with fail
  refine (pair_any _ _ _ _ _ _ _ _ _ _ _ i5 i6).mono ?_
  rintro e w7 ⟨n7, p7, l7, c7, rfl, i7, hb1⟩
  replace h2 := h2.later hb1
  replace h3 := h3.later hb1
  replace i4 := i4.later hb1
  replace hbel := below_on hbel hb1
  clear hb1 i5 i6
  have R := below_setRow (below_setRow hbel (g := w.heap.size + 1) (by omega) #[.int .i64 n4, .slice p4 l4 c4]) (g := w.heap.size + 1 + 1) (by omega) #[.int .i64 n7, .slice p7 l7 c7]
  have h3' := h3.rowOther (q := w.heap.size + 1) (by omega) #[.int .i64 n4, .slice p4 l4 c4]
  go_wp2_with (first | refine store_t rfl _ _ rfl _ n4 p4 l4 c4 rfl rfl h2 ?_ | refine store_t rfl _ _ rfl _ n7 p7 l7 c7 rfl rfl h3' ?_)
  exact bodyPost_ret (results_tt rfl rfl ((h2.row n4 p4 l4 c4).rowOther (by omega) _) rfl (h3'.row n7 p7 l7 c7)) rfl ⟨_, _, _, _, _, _, _, _, rfl, (i4.box h2 _).box h3' _, (i7.box h2 _).box h3' _, R⟩

set_option maxHeartbeats 2000000 in
set_option maxRecDepth 100000 in
theorem halve_l (x a b : ID) (g o c : Nat) (n0 : Int) (p0 : Option Addr) (l0 c0 : Nat) (n1 : Int) (p1 : Option Addr) (l1 c1 : Nat) (w : World)
    (t0 : Tat w g o n0 p0 l0 c0) (t1 : Tat w g (o + 2) n1 p1 l1 c1) (hx : Is w x (TV n0 p0 l0 c0)) (h0 : nil x = true)
    (r1 : ∀ w1, Below w.heap.size w w1 → Calls Try.prog 73 #[TV n1 p1 l1 c1] w1 (GivesT a b w1)) :
    Calls Try.prog 73 #[TV 0 (some ⟨g, o, none⟩) 2 c] w (GivesT (mk (.leaf false) a) (mk (.leaf false) b) w) := by
  obtain ⟨h1, h2, h3, hbel⟩ := three_box w 0 (some ⟨g, o, none⟩) 2 c 0 none 0 0 0 none 0 0 _ rfl
  have hL : ∀ w, Calls Try.prog 55 #[TV 0 (some ⟨g, o, none⟩) 2 c] w fun e w' => e = .returned (.bool false) ∧ Below w.heap.size w w' := isLeaf_any 0 (some ⟨g, o, none⟩) 2 c
  have hN := isNothing_is hx
  rw [h0] at hN
  clear hx h0
  go_enter Try.func73, Try.ntmps73
  go_wp2_with (refine load_t _ rfl rfl _ _ rfl h1.tat ?_)
  refine (hL _).mono ?_
  rintro e w1 ⟨rfl, hb1⟩
  replace h1 := h1.later hb1
  replace h2 := h2.later hb1
  replace h3 := h3.later hb1
  replace hbel := below_on hbel hb1
  clear hb1 hL
  have g1 := h1.cell1
  have tt0 := t0.later hbel
  go_wp2_with (refine load_t _ rfl rfl _ _ rfl tt0 ?_)
  refine (hN _).mono ?_
  rintro e w2 ⟨rfl, hb1⟩
  replace h1 := h1.later hb1
  replace h2 := h2.later hb1
  replace h3 := h3.later hb1
  replace hbel := below_on hbel hb1
  clear hb1 hN tt0 g1
  have g1 := h1.cell1
  have tt1 := t1.later hbel
  go_wp2_with (refine load_t _ rfl rfl _ _ rfl tt1 ?_)
  refine (r1 _ hbel).mono ?_
  rintro e w3 ⟨na, pa, la, ca, nb, pb, lb, cb, rfl, ia, ib, hb1⟩
  replace h2 := h2.later hb1
  replace h3 := h3.later hb1
  replace hbel := below_on hbel hb1
  clear hb1 tt1 g1 h1
  have h3lt := h3.lt
  have m0 := two_new0 w3
  have m1 := two_new1 w3 na pa la ca
  go_wp2_with (first | refine store_t rfl _ _ rfl _ na pa la ca rfl rfl m0 ?_ | refine store_t rfl _ _ rfl _ nb pb lb cb rfl rfl m1 ?_)
  obtain ⟨k1, k2, hb1⟩ := two_new w3 na pa la ca nb pb lb cb _ rfl
  generalize (((w3.alloc (.cells #[.int .i64 0, .slice none 0 0] 24)).alloc (.cells #[.int .i64 0, .slice none 0 0] 24)).setRow w3.heap.size #[.int .i64 na, .slice pa la ca]).setRow (w3.heap.size + 1) #[.int .i64 nb, .slice pb lb cb] = w4 at k1 k2 hb1 ⊢
  replace h2 := h2.later hb1
  replace h3 := h3.later hb1
  replace ia := ia.later hb1
  replace ib := ib.later hb1
  replace hbel := below_on hbel hb1
  clear hb1 m0 m1
  generalize w3.heap.size = q at h3lt k1 k2 ⊢
  have hS : Calm.Stays (fun w' => Bx w' q na pa la ca ∧ Bx w' (q + 1) nb pb lb cb ∧ Is w' a (TV na pa la ca) ∧ Is w' b (TV nb pb lb cb) ∧ (∃ n p l c, Bx w' (w.heap.size + 1) n p l c) ∧ (∃ n p l c, Bx w' (w.heap.size + 1 + 1) n p l c) ∧ Below w.heap.size w w') := fun wa wb h hb => ⟨h.1.later hb, h.2.1.later hb, h.2.2.1.later hb, h.2.2.2.1.later hb, (by obtain ⟨n, p, l, c, h2⟩ := h.2.2.2.2.1; exact ⟨n, p, l, c, h2.later hb⟩), (by obtain ⟨n, p, l, c, h2⟩ := h.2.2.2.2.2.1; exact ⟨n, p, l, c, h2.later hb⟩), below_on h.2.2.2.2.2.2 hb⟩
  have hF : Facts.Stay [isF 0 (.leaf false), eqF 1 (TV na pa la ca), isF 2 (mk (.leaf false) a), isF 3 (.leaf false), eqF 4 (TV nb pb lb cb), isF 5 (mk (.leaf false) b), bxF 2 (w.heap.size + 1) (mk (.leaf false) a), bxF 5 (w.heap.size + 1 + 1) (mk (.leaf false) b)] := stay_of (by simp only [List.forall_mem_cons]; exact ⟨isF_stays _ _, eqF_stays _ _, isF_stays _ _, isF_stays _ _, eqF_stays _ _, isF_stays _ _, bxF_stays _ _ _, bxF_stays _ _ _, fun _ h => by cases h⟩)
  refine Facts.region (by kernel_rfl) (by kernel_rfl) (fun w' => Bx w' q na pa la ca ∧ Bx w' (q + 1) nb pb lb cb ∧ Is w' a (TV na pa la ca) ∧ Is w' b (TV nb pb lb cb) ∧ (∃ n p l c, Bx w' (w.heap.size + 1) n p l c) ∧ (∃ n p l c, Bx w' (w.heap.size + 1 + 1) n p l c) ∧ Below w.heap.size w w') (fun x => { tmps := #[TV 0 (some ⟨g, o, none⟩) 2 c, .pointer (some ⟨w.heap.size, 0, none⟩), .pointer (some ⟨w.heap.size + 1, 0, none⟩), .pointer (some ⟨w.heap.size + 1 + 1, 0, none⟩), .pointer (some ⟨q, 0, none⟩), .pointer (some ⟨q + 1, 0, none⟩), undef, undef, .bool false, TV 0 (some ⟨g, o, none⟩) 2 c, .bool false, undef, undef, undef, undef, undef, undef, .bool true, .pointer (some ⟨w.heap.size, 1, none⟩), .slice (some ⟨g, o, none⟩) 2 c, .pointer (some ⟨g, o, none⟩), TV n0 p0 l0 c0, .bool true, .tuple #[TV na pa la ca, TV nb pb lb cb], .pointer (some ⟨w.heap.size, 1, none⟩), .slice (some ⟨g, o, none⟩) 2 c, .pointer (some ⟨g, o + 2, none⟩), TV n1 p1 l1 c1, .tuple #[TV na pa la ca, TV nb pb lb cb], TV na pa la ca, TV nb pb lb cb, x 0, x 1, x 2, x 3, x 4, x 5, undef, undef, undef, undef, undef, undef, undef, undef, undef, undef, undef, undef, undef, undef, undef, undef, undef, undef, undef, undef, undef, undef, undef, undef, undef, undef, undef, undef, undef, undef, undef, undef, undef, undef], defers := [] }) [isF 0 (.leaf false), eqF 1 (TV na pa la ca), isF 2 (mk (.leaf false) a), isF 3 (.leaf false), eqF 4 (TV nb pb lb cb), isF 5 (mk (.leaf false) b), bxF 2 (w.heap.size + 1) (mk (.leaf false) a), bxF 5 (w.heap.size + 1 + 1) (mk (.leaf false) b)] _ rfl (by kernel_rfl) (fun _ => undef) rfl (⟨k1, k2, ia.later (Below.refl _ _).drew, ib.later (Below.refl _ _).drew, ⟨_, _, _, _, h2⟩, ⟨_, _, _, _, h3⟩, hbel.drew⟩) ⟨?_, ?_, ?_, ?_, ?_, ?_, ?_, ?_, trivial⟩ ?_
  · refine Facts.call1T hS hF (fun _ _ => rfl) rfl (by kernel_rfl) rfl (fun x wv hSw hd => ?_)
    exact leaf_gives false _
  · exact Facts.loadT hS hF (fun _ _ => rfl) _ rfl rfl (fun x wv hSw hd => by rfl) (fun wv hSw => hSw.1.tat)
  · refine Facts.call2T hS hF (fun _ _ => rfl) rfl (by kernel_rfl) rfl (fun x wv hSw hd => ?_)
    obtain ⟨n0i, p0i, l0i, c0i, d0, e0⟩ := isF_get (hd ⟨0, .data⟩ (by simp) rfl _ rfl)
    have d1 := eqF_get (hd ⟨1, .data⟩ (by simp) rfl _ rfl)
    have hc := pair_any _ _ _ _ _ _ _ _ _ _ _ e0 hSw.2.2.1
    rw [← d0, ← d1] at hc
    exact hc
  · refine Facts.call1T hS hF (fun _ _ => rfl) rfl (by kernel_rfl) rfl (fun x wv hSw hd => ?_)
    exact leaf_gives false _
  · exact Facts.loadT hS hF (fun _ _ => rfl) _ rfl rfl (fun x wv hSw hd => by rfl) (fun wv hSw => hSw.2.1.tat)
  · refine Facts.call2T hS hF (fun _ _ => rfl) rfl (by kernel_rfl) rfl (fun x wv hSw hd => ?_)
    obtain ⟨n3i, p3i, l3i, c3i, d3, e3⟩ := isF_get (hd ⟨3, .data⟩ (by simp) rfl _ rfl)
    have d4 := eqF_get (hd ⟨4, .data⟩ (by simp) rfl _ rfl)
    have hc := pair_any _ _ _ _ _ _ _ _ _ _ _ e3 hSw.2.2.2.1
    rw [← d3, ← d4] at hc
    exact hc
  · exact Facts.storeT (fun _ _ => rfl) _ _ rfl (by decide) rfl (fun _ => rfl) (fun _ => rfl) (fun x wv hSw hd => isF_get (hd ⟨2, .data⟩ (by simp) rfl _ rfl)) (fun wv hSw => ⟨hSw.2.2.2.2.1, fun n p l c => (by obtain ⟨s1, s2, s3, s4, ⟨_, _, _, _, s5⟩, ⟨_, _, _, _, s6⟩, s7⟩ := hSw; exact ⟨s1.rowOther (by omega) _, s2.rowOther (by omega) _, s3.box s5 _, s4.box s5 _, ⟨_, _, _, _, s5.row n p l c⟩, ⟨_, _, _, _, s6.rowOther (by omega) _⟩, below_setRow s7 (by omega) _⟩)⟩) (fun j f hj hfj => by
      match j with
      | 0 => obtain rfl := Option.some.inj hfj; exact isF_box _ _ _
      | 1 => obtain rfl := Option.some.inj hfj; exact eqF_box _ _ _
      | 2 => obtain rfl := Option.some.inj hfj; exact isF_box _ _ _
      | 3 => obtain rfl := Option.some.inj hfj; exact isF_box _ _ _
      | 4 => obtain rfl := Option.some.inj hfj; exact eqF_box _ _ _
      | 5 => obtain rfl := Option.some.inj hfj; exact isF_box _ _ _
      | 7 => obtain rfl := Option.some.inj hfj; exact bxF_box _ _ _ _ (by omega)
      | 6 => exact absurd rfl hj
      | j + 8 => simp at hfj)
  · exact Facts.storeT (fun _ _ => rfl) _ _ rfl (by decide) rfl (fun _ => rfl) (fun _ => rfl) (fun x wv hSw hd => isF_get (hd ⟨5, .data⟩ (by simp) rfl _ rfl)) (fun wv hSw => ⟨hSw.2.2.2.2.2.1, fun n p l c => (by obtain ⟨s1, s2, s3, s4, ⟨_, _, _, _, s5⟩, ⟨_, _, _, _, s6⟩, s7⟩ := hSw; exact ⟨s1.rowOther (by omega) _, s2.rowOther (by omega) _, s3.box s6 _, s4.box s6 _, ⟨_, _, _, _, s5.rowOther (by omega) _⟩, ⟨_, _, _, _, s6.row n p l c⟩, below_setRow s7 (by omega) _⟩)⟩) (fun j f hj hfj => by
      match j with
      | 0 => obtain rfl := Option.some.inj hfj; exact isF_box _ _ _
      | 1 => obtain rfl := Option.some.inj hfj; exact eqF_box _ _ _
      | 2 => obtain rfl := Option.some.inj hfj; exact isF_box _ _ _
      | 3 => obtain rfl := Option.some.inj hfj; exact isF_box _ _ _
      | 4 => obtain rfl := Option.some.inj hfj; exact eqF_box _ _ _
      | 5 => obtain rfl := Option.some.inj hfj; exact isF_box _ _ _
      | 6 => obtain rfl := Option.some.inj hfj; exact bxF_box _ _ _ _ (by omega)
      | 7 => exact absurd rfl hj
      | j + 8 => simp at hfj)
  rintro xa w5 ⟨_, _, _, _, _, _, hbel⟩ hf
  obtain ⟨n4, p4, l4, c4, _, hq, i4⟩ := bxF_get (hf 6 _ (by decide) rfl)
  obtain ⟨n7, p7, l7, c7, _, hq', i7⟩ := bxF_get (hf 7 _ (by decide) rfl)
  go_wp2
  exact bodyPost_ret (results_tt rfl rfl hq rfl hq') rfl ⟨_, _, _, _, _, _, _, _, rfl, i4, i7, hbel⟩

set_option maxHeartbeats 2000000 in
set_option maxRecDepth 100000 in
theorem halve_r (x y a b : ID) (g o c : Nat) (n0 : Int) (p0 : Option Addr) (l0 c0 : Nat) (n1 : Int) (p1 : Option Addr) (l1 c1 : Nat) (w : World)
    (t0 : Tat w g o n0 p0 l0 c0) (t1 : Tat w g (o + 2) n1 p1 l1 c1) (hx : Is w x (TV n0 p0 l0 c0)) (h0 : nil x = false) (hy : Is w y (TV n1 p1 l1 c1)) (h0' : nil y = true)
    (r1 : ∀ w1, Below w.heap.size w w1 → Calls Try.prog 73 #[TV n0 p0 l0 c0] w1 (GivesT a b w1)) :
    Calls Try.prog 73 #[TV 0 (some ⟨g, o, none⟩) 2 c] w (GivesT (mk a (.leaf false)) (mk b (.leaf false)) w) := by
  obtain ⟨h1, h2, h3, hbel⟩ := three_box w 0 (some ⟨g, o, none⟩) 2 c 0 none 0 0 0 none 0 0 _ rfl
  have hL : ∀ w, Calls Try.prog 55 #[TV 0 (some ⟨g, o, none⟩) 2 c] w fun e w' => e = .returned (.bool false) ∧ Below w.heap.size w w' := isLeaf_any 0 (some ⟨g, o, none⟩) 2 c
  have hN := isNothing_is hx
  rw [h0] at hN
  have hN' := isNothing_is hy
  rw [h0'] at hN'
  clear hx h0 hy h0'
  go_enter Try.func73, Try.ntmps73
  go_wp2_with (refine load_t _ rfl rfl _ _ rfl h1.tat ?_)
  refine (hL _).mono ?_
  rintro e w1 ⟨rfl, hb1⟩
  replace h1 := h1.later hb1
  replace h2 := h2.later hb1
  replace h3 := h3.later hb1
  replace hbel := below_on hbel hb1
  clear hb1 hL
  have g1 := h1.cell1
  have tt0 := t0.later hbel
  go_wp2_with (refine load_t _ rfl rfl _ _ rfl tt0 ?_)
  refine (hN _).mono ?_
  rintro e w2 ⟨rfl, hb1⟩
  replace h1 := h1.later hb1
  replace h2 := h2.later hb1
  replace h3 := h3.later hb1
  replace hbel := below_on hbel hb1
  clear hb1 hN tt0 g1
  have g1 := h1.cell1
  have tt1 := t1.later hbel
  go_wp2_with (refine load_t _ rfl rfl _ _ rfl tt1 ?_)
  refine (hN' _).mono ?_
  rintro e w20 ⟨rfl, hb1⟩
  replace h1 := h1.later hb1
  replace h2 := h2.later hb1
  replace h3 := h3.later hb1
  replace hbel := below_on hbel hb1
  clear hb1 hN' tt1 g1
  have g1 := h1.cell1
  have tt1 := t0.later hbel
  go_wp2_with (refine load_t _ rfl rfl _ _ rfl tt1 ?_)
  refine (r1 _ hbel).mono ?_
  rintro e w3 ⟨na, pa, la, ca, nb, pb, lb, cb, rfl, ia, ib, hb1⟩
  replace h2 := h2.later hb1
  replace h3 := h3.later hb1
  replace hbel := below_on hbel hb1
  clear hb1 tt1 g1 h1
  have h3lt := h3.lt
  have m0 := two_new0 w3
  have m1 := two_new1 w3 na pa la ca
  go_wp2_with (first | refine store_t rfl _ _ rfl _ na pa la ca rfl rfl m0 ?_ | refine store_t rfl _ _ rfl _ nb pb lb cb rfl rfl m1 ?_)
  obtain ⟨k1, k2, hb1⟩ := two_new w3 na pa la ca nb pb lb cb _ rfl
  generalize (((w3.alloc (.cells #[.int .i64 0, .slice none 0 0] 24)).alloc (.cells #[.int .i64 0, .slice none 0 0] 24)).setRow w3.heap.size #[.int .i64 na, .slice pa la ca]).setRow (w3.heap.size + 1) #[.int .i64 nb, .slice pb lb cb] = w4 at k1 k2 hb1 ⊢
  replace h2 := h2.later hb1
  replace h3 := h3.later hb1
  replace ia := ia.later hb1
  replace ib := ib.later hb1
  replace hbel := below_on hbel hb1
  clear hb1 m0 m1
  generalize w3.heap.size = q at h3lt k1 k2 ⊢
  have hS : Calm.Stays (fun w' => Bx w' q na pa la ca ∧ Bx w' (q + 1) nb pb lb cb ∧ Is w' a (TV na pa la ca) ∧ Is w' b (TV nb pb lb cb) ∧ (∃ n p l c, Bx w' (w.heap.size + 1) n p l c) ∧ (∃ n p l c, Bx w' (w.heap.size + 1 + 1) n p l c) ∧ Below w.heap.size w w') := fun wa wb h hb => ⟨h.1.later hb, h.2.1.later hb, h.2.2.1.later hb, h.2.2.2.1.later hb, (by obtain ⟨n, p, l, c, h2⟩ := h.2.2.2.2.1; exact ⟨n, p, l, c, h2.later hb⟩), (by obtain ⟨n, p, l, c, h2⟩ := h.2.2.2.2.2.1; exact ⟨n, p, l, c, h2.later hb⟩), below_on h.2.2.2.2.2.2 hb⟩
  have hF : Facts.Stay [eqF 0 (TV na pa la ca), isF 1 (.leaf false), isF 2 (mk a (.leaf false)), eqF 3 (TV nb pb lb cb), isF 4 (.leaf false), isF 5 (mk b (.leaf false)), bxF 2 (w.heap.size + 1) (mk a (.leaf false)), bxF 5 (w.heap.size + 1 + 1) (mk b (.leaf false))] := stay_of (by simp only [List.forall_mem_cons]; exact ⟨eqF_stays _ _, isF_stays _ _, isF_stays _ _, eqF_stays _ _, isF_stays _ _, isF_stays _ _, bxF_stays _ _ _, bxF_stays _ _ _, fun _ h => by cases h⟩)
  refine Facts.region (by kernel_rfl) (by kernel_rfl) (fun w' => Bx w' q na pa la ca ∧ Bx w' (q + 1) nb pb lb cb ∧ Is w' a (TV na pa la ca) ∧ Is w' b (TV nb pb lb cb) ∧ (∃ n p l c, Bx w' (w.heap.size + 1) n p l c) ∧ (∃ n p l c, Bx w' (w.heap.size + 1 + 1) n p l c) ∧ Below w.heap.size w w') (fun x => { tmps := #[TV 0 (some ⟨g, o, none⟩) 2 c, .pointer (some ⟨w.heap.size, 0, none⟩), .pointer (some ⟨w.heap.size + 1, 0, none⟩), .pointer (some ⟨w.heap.size + 1 + 1, 0, none⟩), undef, undef, .pointer (some ⟨q, 0, none⟩), .pointer (some ⟨q + 1, 0, none⟩), .bool false, TV 0 (some ⟨g, o, none⟩) 2 c, .bool false, undef, undef, undef, undef, undef, undef, .bool false, .pointer (some ⟨w.heap.size, 1, none⟩), .slice (some ⟨g, o, none⟩) 2 c, .pointer (some ⟨g, o, none⟩), TV n0 p0 l0 c0, .bool false, undef, undef, undef, undef, undef, undef, undef, undef, undef, undef, undef, undef, undef, undef, .bool true, .pointer (some ⟨w.heap.size, 1, none⟩), .slice (some ⟨g, o, none⟩) 2 c, .pointer (some ⟨g, o + 2, none⟩), TV n1 p1 l1 c1, .bool true, .tuple #[TV na pa la ca, TV nb pb lb cb], .pointer (some ⟨w.heap.size, 1, none⟩), .slice (some ⟨g, o, none⟩) 2 c, .pointer (some ⟨g, o, none⟩), TV n0 p0 l0 c0, .tuple #[TV na pa la ca, TV nb pb lb cb], TV na pa la ca, TV nb pb lb cb, x 0, x 1, x 2, x 3, x 4, x 5, undef, undef, undef, undef, undef, undef, undef, undef, undef, undef, undef, undef, undef, undef], defers := [] }) [eqF 0 (TV na pa la ca), isF 1 (.leaf false), isF 2 (mk a (.leaf false)), eqF 3 (TV nb pb lb cb), isF 4 (.leaf false), isF 5 (mk b (.leaf false)), bxF 2 (w.heap.size + 1) (mk a (.leaf false)), bxF 5 (w.heap.size + 1 + 1) (mk b (.leaf false))] _ rfl (by kernel_rfl) (fun _ => undef) rfl (⟨k1, k2, ia.later (Below.refl _ _).drew, ib.later (Below.refl _ _).drew, ⟨_, _, _, _, h2⟩, ⟨_, _, _, _, h3⟩, hbel.drew⟩) ⟨?_, ?_, ?_, ?_, ?_, ?_, ?_, ?_, trivial⟩ ?_
  · exact Facts.loadT hS hF (fun _ _ => rfl) _ rfl rfl (fun x wv hSw hd => by rfl) (fun wv hSw => hSw.1.tat)
  · refine Facts.call1T hS hF (fun _ _ => rfl) rfl (by kernel_rfl) rfl (fun x wv hSw hd => ?_)
    exact leaf_gives false _
  · refine Facts.call2T hS hF (fun _ _ => rfl) rfl (by kernel_rfl) rfl (fun x wv hSw hd => ?_)
    have d0 := eqF_get (hd ⟨0, .data⟩ (by simp) rfl _ rfl)
    obtain ⟨n1i, p1i, l1i, c1i, d1, e1⟩ := isF_get (hd ⟨1, .data⟩ (by simp) rfl _ rfl)
    have hc := pair_any _ _ _ _ _ _ _ _ _ _ _ hSw.2.2.1 e1
    rw [← d0, ← d1] at hc
    exact hc
  · exact Facts.loadT hS hF (fun _ _ => rfl) _ rfl rfl (fun x wv hSw hd => by rfl) (fun wv hSw => hSw.2.1.tat)
  · refine Facts.call1T hS hF (fun _ _ => rfl) rfl (by kernel_rfl) rfl (fun x wv hSw hd => ?_)
    exact leaf_gives false _
  · refine Facts.call2T hS hF (fun _ _ => rfl) rfl (by kernel_rfl) rfl (fun x wv hSw hd => ?_)
    have d3 := eqF_get (hd ⟨3, .data⟩ (by simp) rfl _ rfl)
    obtain ⟨n4i, p4i, l4i, c4i, d4, e4⟩ := isF_get (hd ⟨4, .data⟩ (by simp) rfl _ rfl)
    have hc := pair_any _ _ _ _ _ _ _ _ _ _ _ hSw.2.2.2.1 e4
    rw [← d3, ← d4] at hc
    exact hc
  · exact Facts.storeT (fun _ _ => rfl) _ _ rfl (by decide) rfl (fun _ => rfl) (fun _ => rfl) (fun x wv hSw hd => isF_get (hd ⟨2, .data⟩ (by simp) rfl _ rfl)) (fun wv hSw => ⟨hSw.2.2.2.2.1, fun n p l c => (by obtain ⟨s1, s2, s3, s4, ⟨_, _, _, _, s5⟩, ⟨_, _, _, _, s6⟩, s7⟩ := hSw; exact ⟨s1.rowOther (by omega) _, s2.rowOther (by omega) _, s3.box s5 _, s4.box s5 _, ⟨_, _, _, _, s5.row n p l c⟩, ⟨_, _, _, _, s6.rowOther (by omega) _⟩, below_setRow s7 (by omega) _⟩)⟩) (fun j f hj hfj => by
      match j with
      | 0 => obtain rfl := Option.some.inj hfj; exact eqF_box _ _ _
      | 1 => obtain rfl := Option.some.inj hfj; exact isF_box _ _ _
      | 2 => obtain rfl := Option.some.inj hfj; exact isF_box _ _ _
      | 3 => obtain rfl := Option.some.inj hfj; exact eqF_box _ _ _
      | 4 => obtain rfl := Option.some.inj hfj; exact isF_box _ _ _
      | 5 => obtain rfl := Option.some.inj hfj; exact isF_box _ _ _
      | 7 => obtain rfl := Option.some.inj hfj; exact bxF_box _ _ _ _ (by omega)
      | 6 => exact absurd rfl hj
      | j + 8 => simp at hfj)
  · exact Facts.storeT (fun _ _ => rfl) _ _ rfl (by decide) rfl (fun _ => rfl) (fun _ => rfl) (fun x wv hSw hd => isF_get (hd ⟨5, .data⟩ (by simp) rfl _ rfl)) (fun wv hSw => ⟨hSw.2.2.2.2.2.1, fun n p l c => (by obtain ⟨s1, s2, s3, s4, ⟨_, _, _, _, s5⟩, ⟨_, _, _, _, s6⟩, s7⟩ := hSw; exact ⟨s1.rowOther (by omega) _, s2.rowOther (by omega) _, s3.box s6 _, s4.box s6 _, ⟨_, _, _, _, s5.rowOther (by omega) _⟩, ⟨_, _, _, _, s6.row n p l c⟩, below_setRow s7 (by omega) _⟩)⟩) (fun j f hj hfj => by
      match j with
      | 0 => obtain rfl := Option.some.inj hfj; exact eqF_box _ _ _
      | 1 => obtain rfl := Option.some.inj hfj; exact isF_box _ _ _
      | 2 => obtain rfl := Option.some.inj hfj; exact isF_box _ _ _
      | 3 => obtain rfl := Option.some.inj hfj; exact eqF_box _ _ _
      | 4 => obtain rfl := Option.some.inj hfj; exact isF_box _ _ _
      | 5 => obtain rfl := Option.some.inj hfj; exact isF_box _ _ _
      | 6 => obtain rfl := Option.some.inj hfj; exact bxF_box _ _ _ _ (by omega)
      | 7 => exact absurd rfl hj
      | j + 8 => simp at hfj)
  rintro xa w5 ⟨_, _, _, _, _, _, hbel⟩ hf
  obtain ⟨n4, p4, l4, c4, _, hq, i4⟩ := bxF_get (hf 6 _ (by decide) rfl)
  obtain ⟨n7, p7, l7, c7, _, hq', i7⟩ := bxF_get (hf 7 _ (by decide) rfl)
  go_wp2
  exact bodyPost_ret (results_tt rfl rfl hq rfl hq') rfl ⟨_, _, _, _, _, _, _, _, rfl, i4, i7, hbel⟩

set_option maxHeartbeats 2000000 in
set_option maxRecDepth 100000 in
theorem halve_b (x y a b : ID) (g o c : Nat) (n0 : Int) (p0 : Option Addr) (l0 c0 : Nat) (n1 : Int) (p1 : Option Addr) (l1 c1 : Nat) (w : World)
    (t0 : Tat w g o n0 p0 l0 c0) (t1 : Tat w g (o + 2) n1 p1 l1 c1) (hx : Is w x (TV n0 p0 l0 c0)) (h0 : nil x = false) (hy : Is w y (TV n1 p1 l1 c1)) (h0' : nil y = false)
    (r0 : ∀ w1, Below w.heap.size w w1 → Calls Try.prog 89 #[TV n0 p0 l0 c0] w1 (Gives a w1)) (r1 : ∀ w1, Below w.heap.size w w1 → Calls Try.prog 89 #[TV n1 p1 l1 c1] w1 (Gives b w1)) :
    Calls Try.prog 73 #[TV 0 (some ⟨g, o, none⟩) 2 c] w (GivesT (mk a (.leaf false)) (mk (.leaf false) b) w) := by
  obtain ⟨h1, h2, h3, hbel⟩ := three_box w 0 (some ⟨g, o, none⟩) 2 c 0 none 0 0 0 none 0 0 _ rfl
  have hL : ∀ w, Calls Try.prog 55 #[TV 0 (some ⟨g, o, none⟩) 2 c] w fun e w' => e = .returned (.bool false) ∧ Below w.heap.size w w' := isLeaf_any 0 (some ⟨g, o, none⟩) 2 c
  have hN := isNothing_is hx
  rw [h0] at hN
  have hN' := isNothing_is hy
  rw [h0'] at hN'
  clear hx h0 hy h0'
  go_enter Try.func73, Try.ntmps73
  go_wp2_with (refine load_t _ rfl rfl _ _ rfl h1.tat ?_)
  refine (hL _).mono ?_
  rintro e w1 ⟨rfl, hb1⟩
  replace h1 := h1.later hb1
  replace h2 := h2.later hb1
  replace h3 := h3.later hb1
  replace hbel := below_on hbel hb1
  clear hb1 hL
  have g1 := h1.cell1
  have tt0 := t0.later hbel
  go_wp2_with (refine load_t _ rfl rfl _ _ rfl tt0 ?_)
  refine (hN _).mono ?_
  rintro e w2 ⟨rfl, hb1⟩
  replace h1 := h1.later hb1
  replace h2 := h2.later hb1
  replace h3 := h3.later hb1
  replace hbel := below_on hbel hb1
  clear hb1 hN tt0 g1
  have g1 := h1.cell1
  have tt1 := t1.later hbel
  go_wp2_with (refine load_t _ rfl rfl _ _ rfl tt1 ?_)
  refine (hN' _).mono ?_
  rintro e w20 ⟨rfl, hb1⟩
  replace h1 := h1.later hb1
  replace h2 := h2.later hb1
  replace h3 := h3.later hb1
  replace hbel := below_on hbel hb1
  clear hb1 hN' tt1 g1
  go_wp2_with fail
  have hS : Calm.Stays (fun w' => Bx w' (w.heap.size) 0 (some ⟨g, o, none⟩) 2 c ∧ (∃ n p l c, Bx w' (w.heap.size + 1) n p l c) ∧ (∃ n p l c, Bx w' (w.heap.size + 1 + 1) n p l c) ∧ Below w.heap.size w w') := fun wa wb h hb => ⟨h.1.later hb, (by obtain ⟨n, p, l, c, h2⟩ := h.2.1; exact ⟨n, p, l, c, h2.later hb⟩), (by obtain ⟨n, p, l, c, h2⟩ := h.2.2.1; exact ⟨n, p, l, c, h2.later hb⟩), below_on h.2.2.2 hb⟩
  have hF : Facts.Stay [eqF 0 (.pointer (some ⟨w.heap.size, 1, none⟩)), eqF 1 (.slice (some ⟨g, o, none⟩) 2 c), eqF 2 (.pointer (some ⟨g, o, none⟩)), eqF 3 (TV n0 p0 l0 c0), isF 4 a, isF 5 (.leaf false), isF 6 (mk a (.leaf false)), isF 7 (.leaf false), eqF 8 (.pointer (some ⟨w.heap.size, 1, none⟩)), eqF 9 (.slice (some ⟨g, o, none⟩) 2 c), eqF 10 (.pointer (some ⟨g, o + 2, none⟩)), eqF 11 (TV n1 p1 l1 c1), isF 12 b, isF 13 (mk (.leaf false) b), bxF 6 (w.heap.size + 1) (mk a (.leaf false)), bxF 13 (w.heap.size + 1 + 1) (mk (.leaf false) b)] := stay_of (by simp only [List.forall_mem_cons]; exact ⟨eqF_stays _ _, eqF_stays _ _, eqF_stays _ _, eqF_stays _ _, isF_stays _ _, isF_stays _ _, isF_stays _ _, isF_stays _ _, eqF_stays _ _, eqF_stays _ _, eqF_stays _ _, eqF_stays _ _, isF_stays _ _, isF_stays _ _, bxF_stays _ _ _, bxF_stays _ _ _, fun _ h => by cases h⟩)
  refine Facts.region (by kernel_rfl) (by kernel_rfl) (fun w' => Bx w' (w.heap.size) 0 (some ⟨g, o, none⟩) 2 c ∧ (∃ n p l c, Bx w' (w.heap.size + 1) n p l c) ∧ (∃ n p l c, Bx w' (w.heap.size + 1 + 1) n p l c) ∧ Below w.heap.size w w') (fun x => { tmps := #[TV 0 (some ⟨g, o, none⟩) 2 c, .pointer (some ⟨w.heap.size, 0, none⟩), .pointer (some ⟨w.heap.size + 1, 0, none⟩), .pointer (some ⟨w.heap.size + 1 + 1, 0, none⟩), undef, undef, undef, undef, .bool false, TV 0 (some ⟨g, o, none⟩) 2 c, .bool false, undef, undef, undef, undef, undef, undef, .bool false, .pointer (some ⟨w.heap.size, 1, none⟩), .slice (some ⟨g, o, none⟩) 2 c, .pointer (some ⟨g, o, none⟩), TV n0 p0 l0 c0, .bool false, undef, undef, undef, undef, undef, undef, undef, undef, undef, undef, undef, undef, undef, undef, .bool false, .pointer (some ⟨w.heap.size, 1, none⟩), .slice (some ⟨g, o, none⟩) 2 c, .pointer (some ⟨g, o + 2, none⟩), TV n1 p1 l1 c1, .bool false, undef, undef, undef, undef, undef, undef, undef, undef, undef, undef, undef, undef, undef, undef, x 0, x 1, x 2, x 3, x 4, x 5, x 6, x 7, x 8, x 9, x 10, x 11, x 12, x 13], defers := [] }) [eqF 0 (.pointer (some ⟨w.heap.size, 1, none⟩)), eqF 1 (.slice (some ⟨g, o, none⟩) 2 c), eqF 2 (.pointer (some ⟨g, o, none⟩)), eqF 3 (TV n0 p0 l0 c0), isF 4 a, isF 5 (.leaf false), isF 6 (mk a (.leaf false)), isF 7 (.leaf false), eqF 8 (.pointer (some ⟨w.heap.size, 1, none⟩)), eqF 9 (.slice (some ⟨g, o, none⟩) 2 c), eqF 10 (.pointer (some ⟨g, o + 2, none⟩)), eqF 11 (TV n1 p1 l1 c1), isF 12 b, isF 13 (mk (.leaf false) b), bxF 6 (w.heap.size + 1) (mk a (.leaf false)), bxF 13 (w.heap.size + 1 + 1) (mk (.leaf false) b)] _ rfl (by kernel_rfl) (fun _ => undef) rfl (⟨h1, ⟨_, _, _, _, h2⟩, ⟨_, _, _, _, h3⟩, hbel.drew⟩) ⟨?_, ?_, ?_, ?_, ?_, ?_, ?_, ?_, ?_, ?_, ?_, ?_, ?_, ?_, ?_, ?_, trivial⟩ ?_
  · exact Facts.pure hS hF (fun _ _ => rfl) rfl (fun x wv hSw hd => by
      go_simp)
  · exact Facts.pure hS hF (fun _ _ => rfl) rfl (fun x wv hSw hd => by
      have d0 := eqF_get (hd ⟨0, .data⟩ (by simp) rfl _ rfl)
      have g1 := hSw.1.cell1
      simp only [d0]
      go_simp)
  · exact Facts.pure hS hF (fun _ _ => rfl) rfl (fun x wv hSw hd => by
      have d1 := eqF_get (hd ⟨1, .data⟩ (by simp) rfl _ rfl)
      simp only [d1]
      go_simp)
  · exact Facts.loadT hS hF (fun _ _ => rfl) _ rfl rfl (fun x wv hSw hd => by have d2 := eqF_get (hd ⟨2, .data⟩ (by simp) rfl _ rfl); exact d2) (fun wv hSw => t0.later hSw.2.2.2)
  · refine Facts.call1T hS hF (fun _ _ => rfl) rfl (by kernel_rfl) rfl (fun x wv hSw hd => ?_)
    have d3 := eqF_get (hd ⟨3, .data⟩ (by simp) rfl _ rfl)
    have hc := r0 _ hSw.2.2.2
    rw [← d3] at hc
    exact hc
  · refine Facts.call1T hS hF (fun _ _ => rfl) rfl (by kernel_rfl) rfl (fun x wv hSw hd => ?_)
    exact leaf_gives false _
  · refine Facts.call2T hS hF (fun _ _ => rfl) rfl (by kernel_rfl) rfl (fun x wv hSw hd => ?_)
    obtain ⟨n4i, p4i, l4i, c4i, d4, e4⟩ := isF_get (hd ⟨4, .data⟩ (by simp) rfl _ rfl)
    obtain ⟨n5i, p5i, l5i, c5i, d5, e5⟩ := isF_get (hd ⟨5, .data⟩ (by simp) rfl _ rfl)
    have hc := pair_any _ _ _ _ _ _ _ _ _ _ _ e4 e5
    rw [← d4, ← d5] at hc
    exact hc
  · refine Facts.call1T hS hF (fun _ _ => rfl) rfl (by kernel_rfl) rfl (fun x wv hSw hd => ?_)
    exact leaf_gives false _
  · exact Facts.pure hS hF (fun _ _ => rfl) rfl (fun x wv hSw hd => by
      go_simp)
  · exact Facts.pure hS hF (fun _ _ => rfl) rfl (fun x wv hSw hd => by
      have d8 := eqF_get (hd ⟨8, .data⟩ (by simp) rfl _ rfl)
      have g1 := hSw.1.cell1
      simp only [d8]
      go_simp)
  · exact Facts.pure hS hF (fun _ _ => rfl) rfl (fun x wv hSw hd => by
      have d9 := eqF_get (hd ⟨9, .data⟩ (by simp) rfl _ rfl)
      simp only [d9]
      go_simp)
  · exact Facts.loadT hS hF (fun _ _ => rfl) _ rfl rfl (fun x wv hSw hd => by have d10 := eqF_get (hd ⟨10, .data⟩ (by simp) rfl _ rfl); exact d10) (fun wv hSw => t1.later hSw.2.2.2)
  · refine Facts.call1T hS hF (fun _ _ => rfl) rfl (by kernel_rfl) rfl (fun x wv hSw hd => ?_)
    have d11 := eqF_get (hd ⟨11, .data⟩ (by simp) rfl _ rfl)
    have hc := r1 _ hSw.2.2.2
    rw [← d11] at hc
    exact hc
  · refine Facts.call2T hS hF (fun _ _ => rfl) rfl (by kernel_rfl) rfl (fun x wv hSw hd => ?_)
    obtain ⟨n7i, p7i, l7i, c7i, d7, e7⟩ := isF_get (hd ⟨7, .data⟩ (by simp) rfl _ rfl)
    obtain ⟨n12i, p12i, l12i, c12i, d12, e12⟩ := isF_get (hd ⟨12, .data⟩ (by simp) rfl _ rfl)
    have hc := pair_any _ _ _ _ _ _ _ _ _ _ _ e7 e12
    rw [← d7, ← d12] at hc
    exact hc
  · exact Facts.storeT (fun _ _ => rfl) _ _ rfl (by decide) rfl (fun _ => rfl) (fun _ => rfl) (fun x wv hSw hd => isF_get (hd ⟨6, .data⟩ (by simp) rfl _ rfl)) (fun wv hSw => ⟨hSw.2.1, fun n p l c => (by obtain ⟨s1, ⟨_, _, _, _, s5⟩, ⟨_, _, _, _, s6⟩, s7⟩ := hSw; exact ⟨s1.rowOther (by omega) _, ⟨_, _, _, _, s5.row n p l c⟩, ⟨_, _, _, _, s6.rowOther (by omega) _⟩, below_setRow s7 (by omega) _⟩)⟩) (fun j f hj hfj => by
      match j with
      | 0 => obtain rfl := Option.some.inj hfj; exact eqF_box _ _ _
      | 1 => obtain rfl := Option.some.inj hfj; exact eqF_box _ _ _
      | 2 => obtain rfl := Option.some.inj hfj; exact eqF_box _ _ _
      | 3 => obtain rfl := Option.some.inj hfj; exact eqF_box _ _ _
      | 4 => obtain rfl := Option.some.inj hfj; exact isF_box _ _ _
      | 5 => obtain rfl := Option.some.inj hfj; exact isF_box _ _ _
      | 6 => obtain rfl := Option.some.inj hfj; exact isF_box _ _ _
      | 7 => obtain rfl := Option.some.inj hfj; exact isF_box _ _ _
      | 8 => obtain rfl := Option.some.inj hfj; exact eqF_box _ _ _
      | 9 => obtain rfl := Option.some.inj hfj; exact eqF_box _ _ _
      | 10 => obtain rfl := Option.some.inj hfj; exact eqF_box _ _ _
      | 11 => obtain rfl := Option.some.inj hfj; exact eqF_box _ _ _
      | 12 => obtain rfl := Option.some.inj hfj; exact isF_box _ _ _
      | 13 => obtain rfl := Option.some.inj hfj; exact isF_box _ _ _
      | 15 => obtain rfl := Option.some.inj hfj; exact bxF_box _ _ _ _ (by omega)
      | 14 => exact absurd rfl hj
      | j + 16 => simp at hfj)
  · exact Facts.storeT (fun _ _ => rfl) _ _ rfl (by decide) rfl (fun _ => rfl) (fun _ => rfl) (fun x wv hSw hd => isF_get (hd ⟨13, .data⟩ (by simp) rfl _ rfl)) (fun wv hSw => ⟨hSw.2.2.1, fun n p l c => (by obtain ⟨s1, ⟨_, _, _, _, s5⟩, ⟨_, _, _, _, s6⟩, s7⟩ := hSw; exact ⟨s1.rowOther (by omega) _, ⟨_, _, _, _, s5.rowOther (by omega) _⟩, ⟨_, _, _, _, s6.row n p l c⟩, below_setRow s7 (by omega) _⟩)⟩) (fun j f hj hfj => by
      match j with
      | 0 => obtain rfl := Option.some.inj hfj; exact eqF_box _ _ _
      | 1 => obtain rfl := Option.some.inj hfj; exact eqF_box _ _ _
      | 2 => obtain rfl := Option.some.inj hfj; exact eqF_box _ _ _
      | 3 => obtain rfl := Option.some.inj hfj; exact eqF_box _ _ _
      | 4 => obtain rfl := Option.some.inj hfj; exact isF_box _ _ _
      | 5 => obtain rfl := Option.some.inj hfj; exact isF_box _ _ _
      | 6 => obtain rfl := Option.some.inj hfj; exact isF_box _ _ _
      | 7 => obtain rfl := Option.some.inj hfj; exact isF_box _ _ _
      | 8 => obtain rfl := Option.some.inj hfj; exact eqF_box _ _ _
      | 9 => obtain rfl := Option.some.inj hfj; exact eqF_box _ _ _
      | 10 => obtain rfl := Option.some.inj hfj; exact eqF_box _ _ _
      | 11 => obtain rfl := Option.some.inj hfj; exact eqF_box _ _ _
      | 12 => obtain rfl := Option.some.inj hfj; exact isF_box _ _ _
      | 13 => obtain rfl := Option.some.inj hfj; exact isF_box _ _ _
      | 14 => obtain rfl := Option.some.inj hfj; exact bxF_box _ _ _ _ (by omega)
      | 15 => exact absurd rfl hj
      | j + 16 => simp at hfj)
  rintro xa w5 ⟨_, _, _, hbel⟩ hf
  obtain ⟨n4, p4, l4, c4, _, hq, i4⟩ := bxF_get (hf 14 _ (by decide) rfl)
  obtain ⟨n7, p7, l7, c7, _, hq', i7⟩ := bxF_get (hf 15 _ (by decide) rfl)
  go_wp2
  exact bodyPost_ret (results_tt rfl rfl hq rfl hq') rfl ⟨_, _, _, _, _, _, _, _, rfl, i4, i7, hbel⟩

theorem halve_any : ∀ (x : ID) (n : Int) (p : Option Addr) (l c : Nat) (w : World), Is w x (TV n p l c) → Calls Try.prog 73 #[TV n p l c] w (GivesT (halve x).1 (halve x).2 w)
  | ⟨.inl b⟩, n, p, l, c, w, ⟨_, _, e⟩ => by
    simp at e
    obtain ⟨rfl, rfl, rfl, rfl⟩ := e
    exact halve_leaf b p c w
  | ⟨.inr (x, y)⟩, n, p, l, c, w, ⟨g, o, c', n0, p0, l0, c0, n1, p1, l1, c1, e, t0, t1, hx, hy⟩ => by
    simp at e
    obtain ⟨rfl, rfl, rfl, rfl⟩ := e
    unfold halve
    cases h0 : nil x
    · cases h1 : nil y
      · simp only [Bool.false_eq_true, if_false]
        exact halve_b x y (norm x) (norm y) g o c n0 p0 l0 c0 n1 p1 l1 c1 w t0 t1 hx h0 hy h1 (fun w1 hb => shorten_any x _ _ _ _ w1 (hx.later hb)) (fun w1 hb => shorten_any y _ _ _ _ w1 (hy.later hb))
      · simp only [Bool.false_eq_true, if_false, if_true]
        exact halve_r x y _ _ g o c n0 p0 l0 c0 n1 p1 l1 c1 w t0 t1 hx h0 hy h1 (fun w1 hb => halve_any x _ _ _ _ w1 (hx.later hb))
    · simp only [if_true]
      exact halve_l x _ _ g o c n0 p0 l0 c0 n1 p1 l1 c1 w t0 t1 hx h0 (fun w1 hb => halve_any y _ _ _ _ w1 (hy.later hb))
end Go.Proofs.Ytmcajjdijjcpkaa.Idn
