/- The functions Sum and Apart of package idtree. -/
import Derived.Test.YtdbkjafjanhhbaaUnite
namespace Go.Proofs.Ytdbkjafjanhhbaa
open Go.RowKit

/-- The Sum of two trees of whatever form. -/
def sumX (t u : Tr) : ID := if okT t && okT u then uT (unite (idOf t) (idOf u)) else .leaf false
def sumE (t u : Tr) : Int := if okT t && okT u then uE (unite (idOf t) (idOf u)) else 3

theorem is_ok {w : World} {t : Tr} {v : Value} (h : Lies w t v) (hk : okT t = true) : Is w (idOf t) v := by
  unfold okT at hk
  simp only [Bool.and_eq_true] at hk
  exact (is_of_lies t 16 v hk.1 h).1

set_option maxHeartbeats 2000000 in
set_option maxRecDepth 100000 in
theorem sum_tr (t u : Tr) (n : Int) (p : Option Addr) (l c : Nat) (n' : Int) (p' : Option Addr) (l' c' : Nat) (w : World) (ht : Lies w t (TV n p l c)) (hu : Lies w u (TV n' p' l' c')) :
    Calls Try.prog 13 #[TV n p l c, TV n' p' l' c'] w (GivesE (sumX t u) (sumE t u) w) := by
  obtain ⟨h1, h2, h3, hbel⟩ := three_box w n p l c n' p' l' c' 0 none 0 0 _ rfl
  have r0 := fun w1 (hb : Below w.heap.size w w1) => check_tr t n p l c w1 (ht.later hb)
  have r1 := fun w1 (hb : Below w.heap.size w w1) => check_tr u n' p' l' c' w1 (hu.later hb)
  have r2 := fun w1 (hb : Below w.heap.size w w1) (k0 : okT t = true) (k1 : okT u = true) => unite_any (idOf t) (idOf u) n p l c n' p' l' c' w1 ((is_ok ht k0).later hb) ((is_ok hu k1).later hb)
  obtain ⟨xz, ez, HX, HE⟩ : ∃ x e, Hid (sumX t u = x) ∧ Hid (sumE t u = e) := ⟨_, _, rfl, rfl⟩
  rw [HX.out, HE.out]
  unfold sumX at HX
  unfold sumE at HE
  clear ht hu
  generalize okT t = b at r0 r2 HX HE
  generalize okT u = b' at r1 r2 HX HE
  generalize unite (idOf t) (idOf u) = z at r2 HX HE
  go_enter Try.func13, Try.ntmps13
  go_wp2_with (refine load_t _ rfl rfl _ _ rfl h1.tat ?_)
  refine (r0 _ hbel).mono ?_
  rintro e w1 ⟨rfl, hb1⟩
  replace h1 := h1.later hb1
  replace h2 := h2.later hb1
  replace h3 := h3.later hb1
  replace hbel := below_on hbel hb1
  clear hb1 r0
  cases b
  · obtain rfl : xz = .leaf false := HX.out.symm
    obtain rfl : ez = 3 := HE.out.symm
    have R := below_setRow hbel (g := w.heap.size + 1 + 1) (by omega) #[.int .i64 0, .slice none 0 0]
    clear HX HE r1 r2 h1 h2 hbel
    go_wp2_with (refine store_t rfl _ _ rfl _ 0 none 0 0 rfl rfl h3 ?_)
    exact bodyPost_ret (results_te rfl rfl (h3.row _ _ _ _)) rfl ⟨_, _, _, _, rfl, is_leaf _ false _ _, R⟩
  · go_wp2_with (refine load_t _ rfl rfl _ _ rfl h2.tat ?_)
    refine (r1 _ hbel).mono ?_
    rintro e w2 ⟨rfl, hb1⟩
    replace h1 := h1.later hb1
    replace h2 := h2.later hb1
    replace h3 := h3.later hb1
    replace hbel := below_on hbel hb1
    clear hb1 r1
    cases b'
    · obtain rfl : xz = .leaf false := HX.out.symm
      obtain rfl : ez = 3 := HE.out.symm
      have R := below_setRow hbel (g := w.heap.size + 1 + 1) (by omega) #[.int .i64 0, .slice none 0 0]
      clear HX HE r2 h1 h2 hbel
      go_wp2_with (refine store_t rfl _ _ rfl _ 0 none 0 0 rfl rfl h3 ?_)
      exact bodyPost_ret (results_te rfl rfl (h3.row _ _ _ _)) rfl ⟨_, _, _, _, rfl, is_leaf _ false _ _, R⟩
    · have ex : uT z = xz := HX.out
      have ee : uE z = ez := HE.out
      rw [ex, ee] at r2
      clear HX HE ex ee
      go_wp2_with (first | refine load_t _ rfl rfl _ _ rfl h1.tat ?_ | refine load_t _ rfl rfl _ _ rfl h2.tat ?_)
      refine (r2 _ hbel trivial trivial).mono ?_
      rintro e w3 ⟨n2, p2, l2, c2, rfl, hi, hb1⟩
      replace h3 := h3.later hb1
      have R := below_setRow (below_on hbel hb1) (g := w.heap.size + 1 + 1) (by omega) #[.int .i64 n2, .slice p2 l2 c2]
      clear hbel hb1 h1 h2 r2
      go_wp2_with (refine store_t rfl _ _ rfl _ n2 p2 l2 c2 rfl rfl h3 ?_)
      exact bodyPost_ret (results_te rfl rfl (h3.row _ _ _ _)) rfl ⟨_, _, _, _, rfl, hi.box h3 _, R⟩

set_option maxHeartbeats 2000000 in
set_option maxRecDepth 100000 in
theorem apart_tr (t u : Tr) (n : Int) (p : Option Addr) (l c : Nat) (n' : Int) (p' : Option Addr) (l' c' : Nat) (w : World) (ht : Lies w t (TV n p l c)) (hu : Lies w u (TV n' p' l' c')) :
    Calls Try.prog 18 #[TV n p l c, TV n' p' l' c'] w fun e w' => e = .returned (.bool (sumE t u == 0)) ∧ Below w.heap.size w w' := by
  obtain ⟨h1, h2, hbel⟩ := two_box w n p l c n' p' l' c' _ rfl
  have r2 := sum_tr t u n p l c n' p' l' c' _ (ht.later hbel) (hu.later hbel)
  clear ht hu
  generalize sumX t u = x at r2
  generalize sumE t u = r at r2 ⊢
  go_enter Try.func18, Try.ntmps18
  go_wp2_with (first | refine load_t _ rfl rfl _ _ rfl h1.tat ?_ | refine load_t _ rfl rfl _ _ rfl h2.tat ?_)
  refine r2.mono ?_
  rintro e w3 ⟨n2, p2, l2, c2, rfl, hi, hb1⟩
  have R := below_on (below_on hbel hb1) (new_below w3 n2 p2 l2 c2)
  clear hbel hb1 h1 h2 r2
  go_wp2_with (refine store_t rfl _ _ rfl _ n2 p2 l2 c2 rfl rfl (bx_new w3 0 none 0 0) ?_)
  go_ret
  exact ⟨rfl, R⟩

theorem sum_any (x y : ID) (n : Int) (p : Option Addr) (l c : Nat) (n' : Int) (p' : Option Addr) (l' c' : Nat) (w : World) (hx : Is w x (TV n p l c)) (hy : Is w y (TV n' p' l' c')) :
    Calls Try.prog 13 #[TV n p l c, TV n' p' l' c'] w (GivesE (sumX (toTr x) (toTr y)) (sumE (toTr x) (toTr y)) w) := sum_tr _ _ _ _ _ _ _ _ _ _ w (lies_is x _ hx) (lies_is y _ hy)
theorem apart_any (x y : ID) (n : Int) (p : Option Addr) (l c : Nat) (n' : Int) (p' : Option Addr) (l' c' : Nat) (w : World) (hx : Is w x (TV n p l c)) (hy : Is w y (TV n' p' l' c')) :
    Calls Try.prog 18 #[TV n p l c, TV n' p' l' c'] w fun e w' => e = .returned (.bool (sumE (toTr x) (toTr y) == 0)) ∧ Below w.heap.size w w' := apart_tr _ _ _ _ _ _ _ _ _ _ w (lies_is x _ hx) (lies_is y _ hy)
end Go.Proofs.Ytdbkjafjanhhbaa
