/- The functions Sum and Apart of the document's answer. -/
import Derived.Test.YtdbkjafjanhhbaaRefSum
import Derived.Test.YtdbkjafjanhhbaaSplits
namespace Go.Proofs.Ytdbkjafjanhhbaa
open Go.RowKit

theorem rsum_eq : ∀ x y : ID, short x = true → short y = true → rsum x y = unite x y
  | ⟨.inl false⟩, y, _, hy => by simp only [rsum, unite, norm_short y hy]
  | ⟨.inl true⟩, ⟨.inl false⟩, _, _ => rfl
  | ⟨.inl true⟩, ⟨.inl true⟩, _, _ => rfl
  | ⟨.inl true⟩, ⟨.inr (_, _)⟩, _, _ => rfl
  | ⟨.inr (x, y)⟩, ⟨.inl false⟩, hx, _ => by simp only [rsum, unite, norm_short _ hx]
  | ⟨.inr (_, _)⟩, ⟨.inl true⟩, _, _ => rfl
  | ⟨.inr (x, y)⟩, ⟨.inr (x', y')⟩, hx, hy => by
    obtain ⟨_, hx0, hx1⟩ := short_node.1 hx
    obtain ⟨_, hy0, hy1⟩ := short_node.1 hy
    simp only [rsum, unite, rsum_eq x x' hx0 hy0, rsum_eq y y' hx1 hy1]
    cases h0 : unite x x' with
    | none => rfl
    | some a =>
      cases h1 : unite y y' with
      | none => rfl
      | some b =>
        have sa := short_unite x x' a hx0 hy0 h0
        have sb := short_unite y y' b hx1 hy1 h1
        simp only [Option.bind_some, Option.map_some, norm, norm_short a sa, norm_short b sb]

set_option maxHeartbeats 2000000 in
set_option maxRecDepth 100000 in
theorem refSum_tr (t u : Tr) (n : Int) (p : Option Addr) (l c : Nat) (n' : Int) (p' : Option Addr) (l' c' : Nat) (w : World) (ht : Lies w t (TV n p l c)) (hu : Lies w u (TV n' p' l' c')) :
    Calls Try.prog 14 #[TV n p l c, TV n' p' l' c'] w (GivesE (sumX t u) (sumE t u) w) := by
  obtain ⟨h1, h2, h3, hbel⟩ := three_box w n p l c n' p' l' c' 0 none 0 0 _ rfl
  have r0 := fun w1 (hb : Below w.heap.size w w1) => refCheck_tr t n p l c w1 (ht.later hb)
  have r1 := fun w1 (hb : Below w.heap.size w w1) => refCheck_tr u n' p' l' c' w1 (hu.later hb)
  have r2 := fun w1 (hb : Below w.heap.size w w1) (k0 : okT t = true) (k1 : okT u = true) => rsum_any (idOf t) (idOf u) n p l c n' p' l' c' w1 ((is_ok ht k0).later hb) ((is_ok hu k1).later hb)
  have r2 : ∀ w1, Below w.heap.size w w1 → okT t = true → okT u = true → Calls Try.prog 35 #[TV n p l c, TV n' p' l' c'] w1 (GivesB (uT (unite (idOf t) (idOf u))) (unite (idOf t) (idOf u)).isSome w1) := fun w1 hb k0 k1 => by
    have := r2 w1 hb k0 k1
    rwa [rsum_eq _ _ (ok_parts (okT_ok ht k0)).2 (ok_parts (okT_ok hu k1)).2] at this
  obtain ⟨xz, ez, HX, HE⟩ : ∃ x e, Hid (sumX t u = x) ∧ Hid (sumE t u = e) := ⟨_, _, rfl, rfl⟩
  rw [HX.out, HE.out]
  unfold sumX at HX
  unfold sumE at HE
  clear ht hu
  generalize okT t = b at r0 r2 HX HE
  generalize okT u = b' at r1 r2 HX HE
  generalize unite (idOf t) (idOf u) = z at r2 HX HE
  have HN : Hid (b = true → b' = true → z = none → xz = .leaf false) := fun h1 h2 h3 => by rw [← HX.out, h1, h2, h3]; rfl
  go_enter Try.func14, Try.ntmps14
  go_wp2_with (refine load_t _ rfl rfl _ _ rfl h1.tat ?_)
  refine (r0 _ hbel).mono ?_
  rintro e w1 ⟨rfl, hb1⟩
  replace h1 := h1.later hb1
  replace h2 := h2.later hb1
  replace h3 := h3.later hb1
  replace hbel := below_on hbel hb1
  clear hb1 r0
  cases b
  · obtain rfl : xz = .leaf false := HX.out.symm
    obtain rfl : ez = 3 := HE.out.symm
    have R := below_setRow hbel (g := w.heap.size + 1 + 1) (by omega) #[.int .i64 0, .slice none 0 0]
    clear HX HE r1 r2 h1 h2 hbel
    go_wp2_with (refine store_t rfl _ _ rfl _ 0 none 0 0 rfl rfl h3 ?_)
    exact bodyPost_ret (results_te rfl rfl (h3.row _ _ _ _)) rfl ⟨_, _, _, _, rfl, is_leaf _ false _ _, R⟩
  · go_wp2_with (refine load_t _ rfl rfl _ _ rfl h2.tat ?_)
    refine (r1 _ hbel).mono ?_
    rintro e w2 ⟨rfl, hb1⟩
    replace h1 := h1.later hb1
    replace h2 := h2.later hb1
    replace h3 := h3.later hb1
    replace hbel := below_on hbel hb1
    clear hb1 r1
    cases b'
    · obtain rfl : xz = .leaf false := HX.out.symm
      obtain rfl : ez = 3 := HE.out.symm
      have R := below_setRow hbel (g := w.heap.size + 1 + 1) (by omega) #[.int .i64 0, .slice none 0 0]
      clear HX HE r2 h1 h2 hbel
      go_wp2_with (refine store_t rfl _ _ rfl _ 0 none 0 0 rfl rfl h3 ?_)
      exact bodyPost_ret (results_te rfl rfl (h3.row _ _ _ _)) rfl ⟨_, _, _, _, rfl, is_leaf _ false _ _, R⟩
    · have ex : uT z = xz := HX.out
      have ee : uE z = ez := HE.out
      rw [ex] at r2
      clear HX HE ex
      go_wp2_with (first | refine load_t _ rfl rfl _ _ rfl h1.tat ?_ | refine load_t _ rfl rfl _ _ rfl h2.tat ?_)
      refine (r2 _ hbel trivial trivial).mono ?_
      clear r2
      have HZ : Hid (uE z = ez) := ee
      clear ee
      cases z with
      | none =>
        obtain rfl : ez = 42 := HZ.out.symm
        clear HZ
        rintro e w3 ⟨n2, p2, l2, c2, rfl, hi, hb1⟩
        obtain rfl : xz = .leaf false := HN.out (by first | rfl | trivial) (by first | rfl | trivial) (by first | rfl | trivial)
        replace h3 := (h3.later hb1).later (new_below w3 n2 p2 l2 c2)
        have R := below_setRow (below_on (below_on hbel hb1) (new_below w3 n2 p2 l2 c2)) (g := w.heap.size + 1 + 1) (by omega) #[.int .i64 0, .slice none 0 0]
        clear hbel hb1 h1 h2 hi HN
        go_wp2_with (first | refine store_t rfl _ _ rfl _ n2 p2 l2 c2 rfl rfl (bx_new w3 0 none 0 0) ?_ | refine store_t rfl _ _ rfl _ 0 none 0 0 rfl rfl h3 ?_)
        exact bodyPost_ret (results_te rfl rfl (h3.row _ _ _ _)) rfl ⟨_, _, _, _, rfl, is_leaf _ false _ _, R⟩
      | some y =>
        obtain rfl : ez = 0 := HZ.out.symm
        clear HZ HN
        rintro e w3 ⟨n2, p2, l2, c2, rfl, hi, hb1⟩
        have b3 := new_box w3 n2 p2 l2 c2
        replace hi := hi.later (new_below w3 n2 p2 l2 c2)
        replace h3 := (h3.later hb1).later (new_below w3 n2 p2 l2 c2)
        have R := below_setRow (below_on (below_on hbel hb1) (new_below w3 n2 p2 l2 c2)) (g := w.heap.size + 1 + 1) (by omega) #[.int .i64 n2, .slice p2 l2 c2]
        clear hbel hb1 h1 h2
        go_wp2_with (first | refine store_t rfl _ _ rfl _ n2 p2 l2 c2 rfl rfl (bx_new w3 0 none 0 0) ?_ | refine store_t rfl _ _ rfl _ n2 p2 l2 c2 rfl rfl h3 ?_ | refine load_t _ rfl rfl _ _ rfl b3.tat ?_)
        exact bodyPost_ret (results_te rfl rfl (h3.row _ _ _ _)) rfl ⟨_, _, _, _, rfl, hi.box h3 _, R⟩

set_option maxHeartbeats 2000000 in
set_option maxRecDepth 100000 in
theorem refApart_tr (t u : Tr) (n : Int) (p : Option Addr) (l c : Nat) (n' : Int) (p' : Option Addr) (l' c' : Nat) (w : World) (ht : Lies w t (TV n p l c)) (hu : Lies w u (TV n' p' l' c')) :
    Calls Try.prog 19 #[TV n p l c, TV n' p' l' c'] w fun e w' => e = .returned (.bool (sumE t u == 0)) ∧ Below w.heap.size w w' := by
  obtain ⟨h1, h2, hbel⟩ := two_box w n p l c n' p' l' c' _ rfl
  have r2 := refSum_tr t u n p l c n' p' l' c' _ (ht.later hbel) (hu.later hbel)
  clear ht hu
  generalize sumX t u = x at r2
  generalize sumE t u = r at r2 ⊢
  go_enter Try.func19, Try.ntmps19
  go_wp2_with (first | refine load_t _ rfl rfl _ _ rfl h1.tat ?_ | refine load_t _ rfl rfl _ _ rfl h2.tat ?_)
  refine r2.mono ?_
  rintro e w3 ⟨n2, p2, l2, c2, rfl, hi, hb1⟩
  have R := below_on (below_on hbel hb1) (new_below w3 n2 p2 l2 c2)
  clear hbel hb1 h1 h2 r2
  go_wp2_with (refine store_t rfl _ _ rfl _ n2 p2 l2 c2 rfl rfl (bx_new w3 0 none 0 0) ?_)
  go_ret
  exact ⟨rfl, R⟩

end Go.Proofs.Ytdbkjafjanhhbaa
