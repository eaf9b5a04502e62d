import Derived.Test.YtmcajjdijjcpkaaP25
import Derived.Test.YtmcajjdijjcpkaaQStampTells2
import Derived.Test.YtmcajjdijjcpkaaQStampTells3
import Derived.Test.YtmcajjdijjcpkaaP23
/- Join, Leq, Peek, Seed and Same of the document's answer for stamps, and what does not Check. -/
namespace Go.Proofs.Ytmcajjdijjcpkaa
open Go.RowKit
open Idn (ID)

theorem rCheck_is {i : ID} {e : EV} {n : Int} {p : Option Addr} {l c : Nat} {n' : Int} {p' : Option Addr} {l' c' : Nat} {w : World} (hi : Idn.Is w i (TV n p l c)) (he : Is w e (TV n' p' l' c')) (ki : Idn.ok i = true) (ke : ok e = true) : Calls Try.prog 8 #[SV n p l c n' p' l' c'] w (Tells (.bool true) w) := by
  have := check_s (Idn.toTr i) (toTr e) n p l c n' p' l' c' w (Idn.lies_is i _ hi) (lies_ok he ke)
  rwa [Idn.okT_to, okT_to, ki, ke] at this
theorem rSum_any (x y : ID) (n : Int) (p : Option Addr) (l c : Nat) (n' : Int) (p' : Option Addr) (l' c' : Nat) (w : World) (hx : Idn.Is w x (TV n p l c)) (hy : Idn.Is w y (TV n' p' l' c')) :
    Calls Try.prog 40 #[TV n p l c, TV n' p' l' c'] w (Idn.GivesE (Idn.sumX (Idn.toTr x) (Idn.toTr y)) (Idn.sumE (Idn.toTr x) (Idn.toTr y)) w) := Idn.refSum_tr _ _ _ _ _ _ _ _ _ _ w (Idn.lies_is x _ hx) (Idn.lies_is y _ hy)
theorem rJoin_any (x y : EV) (n : Int) (p : Option Addr) (l c : Nat) (n' : Int) (p' : Option Addr) (l' c' : Nat) (w : World) (hx : Is w x (TV n p l c)) (hy : Is w y (TV n' p' l' c')) (kx : ok x = true) (ky : ok y = true) :
    Calls Try.prog 41 #[TV n p l c, TV n' p' l' c'] w (GivesE (join 16 x y) 0 w) := by
  have := refJoin_tr (toTr x) (toTr y) n p l c n' p' l' c' w (lies_ok hx kx) (lies_ok hy ky)
  rw [jnX, jnE, okT_to, okT_to, kx, ky, evOf_to, evOf_to] at this
  simpa using this
set_option maxHeartbeats 2000000 in
set_option maxRecDepth 100000 in
theorem rjoin_bad (t u t' u' : Tr) (n : Int) (p : Option Addr) (l c : Nat) (n' : Int) (p' : Option Addr) (l' c' : Nat) (m : Int) (q : Option Addr) (k d : Nat) (m' : Int) (q' : Option Addr) (k' d' : Nat) (w : World) (ht : Lies w t (TV n p l c)) (hu : Lies w u (TV n' p' l' c')) (ht' : Lies w t' (TV m q k d)) (hu' : Lies w u' (TV m' q' k' d'))
    (hb : ((Idn.okT t && okT u) && (Idn.okT t' && okT u')) = false) :
    Calls Try.prog 17 #[SV n p l c n' p' l' c', SV m q k d m' q' k' d'] w (GivesSE zI zE 3 w) := by
  obtain ⟨h1, h2, h3, hbel⟩ := three_r w 26 #[.int .i64 n, .slice p l c, .int .i64 n', .slice p' l' c'] 26 #[.int .i64 m, .slice q k d, .int .i64 m', .slice q' k' d'] 26 #[.int .i64 0, .slice none 0 0, .int .i64 0, .slice none 0 0] _ rfl
  have r0 := fun w1 (hb : Below w.heap.size w w1) => check_s t u n p l c n' p' l' c' w1 (ht.later hb) (hu.later hb)
  have r1 := fun w1 (hb : Below w.heap.size w w1) => check_s t' u' m q k d m' q' k' d' w1 (ht'.later hb) (hu'.later hb)
  have HB : Hid (((Idn.okT t && okT u) && (Idn.okT t' && okT u')) = false) := hb
  clear hb ht hu ht' hu'
  generalize (Idn.okT t && okT u) = b0 at r0 HB
  generalize (Idn.okT t' && okT u') = b1 at r1 HB
  go_enter Try.func17, Try.ntmps17
  go_wp2_with (refine load_s _ rfl rfl _ rfl h1 ?_)
  refine (r0 _ hbel).mono ?_
  rintro e w1 ⟨rfl, hb1⟩
  replace h2 := h2.later hb1
  replace h3 := h3.later hb1
  replace hbel := below_on hbel hb1
  clear hb1 r0 h1
  cases b0
  · have R := below_setRow hbel (g := w.heap.size + 1 + 1) (by omega) #[.int .i64 0, .slice none 0 0, .int .i64 0, .slice none 0 0]
    clear r1 HB h2 hbel
    go_wp2_with (refine store_s rfl _ _ rfl _ 0 none 0 0 0 none 0 0 rfl rfl h3 ?_)
    exact bodyPost_ret (results_se rfl rfl (h3.row _)) rfl ⟨_, _, _, _, _, _, _, _, rfl, zI_is _, zE_is _, R⟩
  · go_wp2_with (refine load_s _ rfl rfl _ rfl h2 ?_)
    refine (r1 _ hbel).mono ?_
    rintro e w2 ⟨rfl, hb1⟩
    replace h3 := h3.later hb1
    replace hbel := below_on hbel hb1
    obtain rfl : b1 = false := by simpa using HB.out
    have R := below_setRow hbel (g := w.heap.size + 1 + 1) (by omega) #[.int .i64 0, .slice none 0 0, .int .i64 0, .slice none 0 0]
    clear hb1 r1 HB h2 hbel
    go_wp2_with (refine store_s rfl _ _ rfl _ 0 none 0 0 0 none 0 0 rfl rfl h3 ?_)
    exact bodyPost_ret (results_se rfl rfl (h3.row _)) rfl ⟨_, _, _, _, _, _, _, _, rfl, zI_is _, zE_is _, R⟩
set_option maxHeartbeats 4000000 in
set_option maxRecDepth 100000 in
theorem rjoin_ok (x y : ID) (a b : EV) (n : Int) (p : Option Addr) (l c : Nat) (n' : Int) (p' : Option Addr) (l' c' : Nat) (m : Int) (q : Option Addr) (k d : Nat) (m' : Int) (q' : Option Addr) (k' d' : Nat) (w : World) (hx : Idn.Is w x (TV n p l c)) (ha : Is w a (TV n' p' l' c')) (hy : Idn.Is w y (TV m q k d)) (hb : Is w b (TV m' q' k' d'))
    (kx : Idn.ok x = true) (ka : ok a = true) (ky : Idn.ok y = true) (kb : ok b = true) :
    Calls Try.prog 17 #[SV n p l c n' p' l' c', SV m q k d m' q' k' d'] w (GivesSE (jI x y) (jX x y a b) (jE x y) w) := by
  obtain ⟨h1, h2, h3, hbel⟩ := three_r w 26 #[.int .i64 n, .slice p l c, .int .i64 n', .slice p' l' c'] 26 #[.int .i64 m, .slice q k d, .int .i64 m', .slice q' k' d'] 26 #[.int .i64 0, .slice none 0 0, .int .i64 0, .slice none 0 0] _ rfl
  have r0 := fun w1 (hb1 : Below w.heap.size w w1) => rCheck_is (hx.later hb1) (ha.later hb1) kx ka
  have r1 := fun w1 (hb1 : Below w.heap.size w w1) => rCheck_is (hy.later hb1) (hb.later hb1) ky kb
  have r2 := fun w1 (hb1 : Below w.heap.size w w1) => rSum_any x y n p l c m q k d w1 (hx.later hb1) (hy.later hb1)
  rw [Idn.sumX_ok kx ky, Idn.sumE_ok kx ky] at r2
  have r3 := fun w1 (hb1 : Below w.heap.size w w1) => rJoin_any a b n' p' l' c' m' q' k' d' w1 (ha.later hb1) (hb.later hb1) ka kb
  have HS : Hid (∀ z, Idn.unite x y = some z → Idn.short z = true) := show ∀ z, _ from fun z hz => Idn.short_unite x y z (Idn.ok_parts kx).2 (Idn.ok_parts ky).2 hz
  have HJ : Hid (short (join 16 a b) = true) := short_join 16 a b
  unfold jI jE jX
  clear hx ha hy hb kx ka ky kb
  generalize Idn.unite x y = U at r2 HS ⊢
  generalize join 16 a b = J at r3 HJ ⊢
  cases U
  case' none =>
    simp only [Idn.uT, Idn.uE, Option.getD_none, Option.isSome_none, Bool.false_eq_true, if_false] at r2 ⊢
    clear r3 HS HJ
  case' some z =>
    simp only [Idn.uT, Idn.uE, Option.getD_some, Option.isSome_some, if_true] at r2 ⊢
    have hsz : Idn.short z = true := HS.out z rfl
  all_goals
    go_enter Try.func17, Try.ntmps17
    go_wp2_with (refine load_s _ rfl rfl _ rfl h1 ?_)
    refine (r0 _ hbel).mono ?_
    rintro e w1 ⟨rfl, hb1⟩
    replace h1 := h1.later hb1
    replace h2 := h2.later hb1
    replace h3 := h3.later hb1
    replace hbel := below_on hbel hb1
    clear hb1 r0
    go_wp2_with (refine load_s _ rfl rfl _ rfl h2 ?_)
    refine (r1 _ hbel).mono ?_
    rintro e w2 ⟨rfl, hb1⟩
    replace h1 := h1.later hb1
    replace h2 := h2.later hb1
    replace h3 := h3.later hb1
    replace hbel := below_on hbel hb1
    clear hb1 r1
    go_wp2_with (first | refine load_t _ rfl rfl _ _ rfl (Sx.tat0 h1) ?_ | refine load_t _ rfl rfl _ _ rfl (Sx.tat0 h2) ?_)
    refine (r2 _ hbel).mono ?_
    rintro e w3 ⟨nz, pz, lz, cz, rfl, iz, hb1⟩
    replace h1 := h1.later hb1
    replace h2 := h2.later hb1
    replace h3 := h3.later hb1
    replace hbel := below_on hbel hb1
    clear hb1 r2
    have m0 := bx_new w3 0 none 0 0
    have bz := new_box w3 nz pz lz cz
    have hb1 := new_below w3 nz pz lz cz
    generalize hw : (w3.alloc (.cells #[.int .i64 0, .slice none 0 0] 24)).setRow w3.heap.size #[.int .i64 nz, .slice pz lz cz] = v at bz hb1
    replace h1 := h1.later hb1
    replace h2 := h2.later hb1
    replace h3 := h3.later hb1
    replace iz := iz.later hb1
    replace hbel := below_on hbel hb1
    clear hb1
  · go_wp2_with (first | rw [hw] | refine store_t rfl _ _ rfl _ nz pz lz cz rfl rfl m0 ?_ | refine load_t _ rfl rfl _ _ rfl (Sx.tat1 h1) ?_ | refine load_t _ rfl rfl _ _ rfl (Sx.tat1 h2) ?_)
    clear m0 hw
    refine (r3 _ hbel).mono ?_
    rintro e w4 ⟨nj, pj, lj, cj, rfl, ij, hb1⟩
    replace h3 := h3.later hb1
    replace bz := bz.later hb1
    replace iz := iz.later hb1
    replace hbel := below_on hbel hb1
    clear hb1 r3 h1 h2
    generalize w3.heap.size = g5 at bz ⊢
    have m0 := bx_new w4 0 none 0 0
    have bj := new_box w4 nj pj lj cj
    have hb1 := new_below w4 nj pj lj cj
    generalize hw : (w4.alloc (.cells #[.int .i64 0, .slice none 0 0] 24)).setRow w4.heap.size #[.int .i64 nj, .slice pj lj cj] = v4 at bj hb1
    replace h3 := h3.later hb1
    replace iz := iz.later hb1
    replace ij := ij.later hb1
    replace bz := bz.later hb1
    replace hbel := below_on hbel hb1
    clear hb1
    have R := below_setRow hbel (g := w.heap.size + 1 + 1) (by omega) #[.int .i64 nz, .slice pz lz cz, .int .i64 nj, .slice pj lj cj]
    go_wp2_with (first | rw [hw] | refine store_t rfl _ _ rfl _ nj pj lj cj rfl rfl m0 ?_ | refine load_t _ rfl rfl _ _ rfl bz.tat ?_ | refine load_t _ rfl rfl _ _ rfl bj.tat ?_ | refine store_s rfl _ _ rfl _ nz pz lz cz nj pj lj cj rfl rfl h3 ?_)
    exact bodyPost_ret (results_se rfl rfl (h3.row _)) rfl ⟨_, _, _, _, _, _, _, _, rfl, Idn.Is.zrow h3 hsz iz _, Is.zrow h3 HJ.out ij _, R⟩
  · have R := below_setRow hbel (g := w.heap.size + 1 + 1) (by omega) #[.int .i64 0, .slice none 0 0, .int .i64 0, .slice none 0 0]
    subst hw
    go_wp2_with (first | refine store_t rfl _ _ rfl _ nz pz lz cz rfl rfl m0 ?_ | refine store_s rfl _ _ rfl _ 0 none 0 0 0 none 0 0 rfl rfl h3 ?_)
    exact bodyPost_ret (results_se rfl rfl (h3.row _)) rfl ⟨_, _, _, _, _, _, _, _, rfl, zI_is _, zE_is _, R⟩
set_option maxHeartbeats 2000000 in
set_option maxRecDepth 100000 in
theorem revent_bad (t u : Tr) (n : Int) (p : Option Addr) (l c : Nat) (n' : Int) (p' : Option Addr) (l' c' : Nat) (w : World) (ht : Lies w t (TV n p l c)) (hu : Lies w u (TV n' p' l' c')) (hb : (Idn.okT t && okT u) = false) :
    Calls Try.prog 19 #[SV n p l c n' p' l' c'] w (GivesSE zI zE 3 w) := by
  obtain ⟨h1, h2, hbel⟩ := two_r w 26 #[.int .i64 n, .slice p l c, .int .i64 n', .slice p' l' c'] 26 #[.int .i64 0, .slice none 0 0, .int .i64 0, .slice none 0 0] _ rfl
  have r0 := fun w1 (hb : Below w.heap.size w w1) => check_s t u n p l c n' p' l' c' w1 (ht.later hb) (hu.later hb)
  rw [hb] at r0
  clear hb ht hu
  go_enter Try.func19, Try.ntmps19
  go_wp2_with (refine load_s _ rfl rfl _ rfl h1 ?_)
  refine (r0 _ hbel).mono ?_
  rintro e w1 ⟨rfl, hb1⟩
  replace h2 := h2.later hb1
  have R := below_setRow (below_on hbel hb1) (g := w.heap.size + 1) (by omega) #[.int .i64 0, .slice none 0 0, .int .i64 0, .slice none 0 0]
  clear hb1 r0 h1 hbel
  go_wp2_with (refine store_s rfl _ _ rfl _ 0 none 0 0 0 none 0 0 rfl rfl h2 ?_)
  exact bodyPost_ret (results_se rfl rfl (h2.row _)) rfl ⟨_, _, _, _, _, _, _, _, rfl, zI_is _, zE_is _, R⟩
set_option maxHeartbeats 2000000 in
set_option maxRecDepth 100000 in
theorem rfork_bad (t u : Tr) (n : Int) (p : Option Addr) (l c : Nat) (n' : Int) (p' : Option Addr) (l' c' : Nat) (w : World) (ht : Lies w t (TV n p l c)) (hu : Lies w u (TV n' p' l' c')) (hb : (Idn.okT t && okT u) = false) :
    Calls Try.prog 16 #[SV n p l c n' p' l' c'] w (GivesSSE zI zE zI zE 3 w) := by
  obtain ⟨h1, h2, h3, hbel⟩ := three_r w 26 #[.int .i64 n, .slice p l c, .int .i64 n', .slice p' l' c'] 26 #[.int .i64 0, .slice none 0 0, .int .i64 0, .slice none 0 0] 26 #[.int .i64 0, .slice none 0 0, .int .i64 0, .slice none 0 0] _ rfl
  have r0 := fun w1 (hb : Below w.heap.size w w1) => check_s t u n p l c n' p' l' c' w1 (ht.later hb) (hu.later hb)
  rw [hb] at r0
  clear hb ht hu
  go_enter Try.func16, Try.ntmps16
  go_wp2_with (refine load_s _ rfl rfl _ rfl h1 ?_)
  refine (r0 _ hbel).mono ?_
  rintro e w1 ⟨rfl, hb1⟩
  replace h2 := h2.later hb1
  replace h3 := h3.later hb1
  have R := below_setRow (below_setRow (below_on hbel hb1) (g := w.heap.size + 1) (by omega) #[.int .i64 0, .slice none 0 0, .int .i64 0, .slice none 0 0]) (g := w.heap.size + 1 + 1) (by omega) #[.int .i64 0, .slice none 0 0, .int .i64 0, .slice none 0 0]
  have h3' := h3.rowOther (q := w.heap.size + 1) (by omega) #[.int .i64 0, .slice none 0 0, .int .i64 0, .slice none 0 0]
  clear hb1 r0 h1 hbel
  go_wp2_with (first | refine store_s rfl _ _ rfl _ 0 none 0 0 0 none 0 0 rfl rfl h2 ?_ | refine store_s rfl _ _ rfl _ 0 none 0 0 0 none 0 0 rfl rfl h3' ?_)
  exact bodyPost_ret (results_sse rfl rfl ((h2.row _).rowOther (by omega) _) rfl (h3'.row _)) rfl ⟨_, _, _, _, _, _, _, _, _, _, _, _, _, _, _, _, rfl, zI_is _, zE_is _, zI_is _, zE_is _, R⟩
set_option maxHeartbeats 1000000 in
set_option maxRecDepth 100000 in
theorem rLeq_tr (t u t' u' : Tr) (n : Int) (p : Option Addr) (l c : Nat) (n' : Int) (p' : Option Addr) (l' c' : Nat) (m : Int) (q : Option Addr) (k d : Nat) (m' : Int) (q' : Option Addr) (k' d' : Nat) (w : World) (ht : Lies w t (TV n p l c)) (hu : Lies w u (TV n' p' l' c')) (ht' : Lies w t' (TV m q k d)) (hu' : Lies w u' (TV m' q' k' d')) :
    Calls Try.prog 23 #[SV n p l c n' p' l' c', SV m q k d m' q' k' d'] w (Tells (.bool ((Idn.okT t && okT u) && ((Idn.okT t' && okT u') && lqT u u'))) w) := by
  obtain ⟨h1, h2, hbel⟩ := two_r w 26 #[.int .i64 n, .slice p l c, .int .i64 n', .slice p' l' c'] 26 #[.int .i64 m, .slice q k d, .int .i64 m', .slice q' k' d'] _ rfl
  have r0 := fun w1 (hb : Below w.heap.size w w1) => check_s t u n p l c n' p' l' c' w1 (ht.later hb) (hu.later hb)
  have r1 := fun w1 (hb : Below w.heap.size w w1) => check_s t' u' m q k d m' q' k' d' w1 (ht'.later hb) (hu'.later hb)
  have r2 := fun w1 (hb : Below w.heap.size w w1) => refLeq_tr u u' n' p' l' c' m' q' k' d' w1 (hu.later hb) (hu'.later hb)
  generalize (Idn.okT t && okT u) = b at r0 ⊢
  generalize (Idn.okT t' && okT u') = b1 at r1 ⊢
  generalize lqT u u' = b2 at r2 ⊢
  clear ht hu ht' hu'
  go_enter Try.func23, Try.ntmps23
  go_wp2_with (refine load_s _ rfl rfl _ rfl h1 ?_)
  refine (r0 _ hbel).mono ?_
  rintro e w1 ⟨rfl, hb1⟩
  replace h1 := h1.later hb1
  replace h2 := h2.later hb1
  replace hbel := below_on hbel hb1
  clear hb1
  cases b
  · go_wp2
    go_ret
    exact ⟨rfl, hbel⟩
  · go_wp2_with (refine load_s _ rfl rfl _ rfl h2 ?_)
    refine (r1 _ hbel).mono ?_
    rintro e w2 ⟨rfl, hb1⟩
    replace h1 := h1.later hb1
    replace h2 := h2.later hb1
    replace hbel := below_on hbel hb1
    clear hb1
    cases b1
    · go_wp2
      go_ret
      exact ⟨rfl, hbel⟩
    · go_wp2_with (first | refine load_t _ rfl rfl _ _ rfl (Sx.tat1 h1) ?_ | refine load_t _ rfl rfl _ _ rfl (Sx.tat1 h2) ?_)
      refine (r2 _ hbel).mono ?_
      rintro e w3 ⟨rfl, hb1⟩
      go_wp2
      go_ret
      exact ⟨rfl, below_on hbel hb1⟩
set_option maxRecDepth 100000 in
theorem rSeed_any (w : World) : Calls Try.prog 25 #[] w (Tells (SV 1 none 0 0 0 none 0 0) w) := by
  obtain ⟨h1, hbel⟩ := one_r w 26 #[.int .i64 0, .slice none 0 0, .int .i64 0, .slice none 0 0] _ rfl
  go_enter Try.func25, Try.ntmps25
  go_wp2_with fail
  refine (refLeaf_any 1 _).mono ?_
  rintro e w1 ⟨rfl, hb1⟩
  replace h1 := h1.later hb1
  have R := below_setRow (below_on hbel hb1) (Nat.le_refl _) #[.int .i64 1, .slice none 0 0, .int .i64 0, .slice none 0 0]
  clear hb1 hbel
  go_wp2_with (refine store_s rfl _ _ rfl _ 1 none 0 0 0 none 0 0 rfl rfl h1 ?_)
  exact bodyPost_ret (results_s rfl rfl (h1.row _)) rfl ⟨rfl, R⟩
set_option maxHeartbeats 1000000 in
set_option maxRecDepth 100000 in
theorem rPeek_any (n : Int) (p : Option Addr) (l c : Nat) (n' : Int) (p' : Option Addr) (l' c' : Nat) (w : World) : Calls Try.prog 22 #[SV n p l c n' p' l' c'] w (Tells (SV 0 none 0 0 n' p' l' c') w) := by
  obtain ⟨h1, h2, hbel⟩ := two_r w 26 #[.int .i64 n, .slice p l c, .int .i64 n', .slice p' l' c'] 26 #[.int .i64 0, .slice none 0 0, .int .i64 0, .slice none 0 0] _ rfl
  have R := below_setRow hbel (g := w.heap.size + 1) (by omega) #[.int .i64 0, .slice none 0 0, .int .i64 n', .slice p' l' c']
  go_enter Try.func22, Try.ntmps22
  go_wp2_with (first | refine load_t _ rfl rfl _ _ rfl (Sx.tat1 h1) ?_ | refine store_s rfl _ _ rfl _ 0 none 0 0 n' p' l' c' rfl rfl h2 ?_)
  exact bodyPost_ret (results_s rfl rfl (h2.row _)) rfl ⟨rfl, R⟩
set_option maxHeartbeats 1000000 in
set_option maxRecDepth 100000 in
theorem rSame_any (b0 b1 : Bool) (n : Int) (p : Option Addr) (l c : Nat) (n' : Int) (p' : Option Addr) (l' c' : Nat) (m : Int) (q : Option Addr) (k d : Nat) (m' : Int) (q' : Option Addr) (k' d' : Nat) (w : World)
    (r0 : ∀ w1, Below w.heap.size w w1 → Calls Try.prog 26 #[TV n p l c, TV m q k d] w1 (Tells (.bool b0) w1)) (r1 : ∀ w1, Below w.heap.size w w1 → Calls Try.prog 26 #[TV n' p' l' c', TV m' q' k' d'] w1 (Tells (.bool b1) w1)) :
    Calls Try.prog 21 #[SV n p l c n' p' l' c', SV m q k d m' q' k' d'] w (Tells (.bool (b0 && b1)) w) := by
  obtain ⟨h1, h2, hbel⟩ := two_r w 26 #[.int .i64 n, .slice p l c, .int .i64 n', .slice p' l' c'] 26 #[.int .i64 m, .slice q k d, .int .i64 m', .slice q' k' d'] _ rfl
  go_enter Try.func21, Try.ntmps21
  go_wp2_with (first | refine load_t _ rfl rfl _ _ rfl (Sx.tat0 h1) ?_ | refine load_t _ rfl rfl _ _ rfl (Sx.tat0 h2) ?_)
  refine (r0 _ hbel).mono ?_
  rintro e w1 ⟨rfl, hb1⟩
  replace h1 := h1.later hb1
  replace h2 := h2.later hb1
  replace hbel := below_on hbel hb1
  clear hb1 r0
  cases b0
  · go_wp2
    go_ret
    exact ⟨rfl, hbel⟩
  · go_wp2_with (first | refine load_t _ rfl rfl _ _ rfl (Sx.tat1 h1) ?_ | refine load_t _ rfl rfl _ _ rfl (Sx.tat1 h2) ?_)
    refine (r1 _ hbel).mono ?_
    rintro e w2 ⟨rfl, hb1⟩
    go_wp2
    go_ret
    exact ⟨rfl, below_on hbel hb1⟩
/-- Two that are the same. -/
theorem rSame_is {i : ID} {a : EV} {n : Int} {p : Option Addr} {l c : Nat} {n' : Int} {p' : Option Addr} {l' c' : Nat} {m : Int} {q : Option Addr} {k d : Nat} {m' : Int} {q' : Option Addr} {k' d' : Nat} {w : World} (hi : Idn.Is w i (TV n p l c)) (ha : Is w a (TV n' p' l' c')) (hi' : Idn.Is w i (TV m q k d)) (ha' : Is w a (TV m' q' k' d')) :
    Calls Try.prog 21 #[SV n p l c n' p' l' c', SV m q k d m' q' k' d'] w (Tells (.bool true) w) := by
  have r0 := fun w1 (hb : Below w.heap.size w w1) => Idn.same_any i i n p l c m q k d w1 (hi.later hb) (hi'.later hb)
  have r1 := fun w1 (hb : Below w.heap.size w w1) => same_any a a n' p' l' c' m' q' k' d' w1 (ha.later hb) (ha'.later hb)
  rw [Idn.eqb_refl] at r0
  rw [eqb_refl] at r1
  exact rSame_any true true n p l c n' p' l' c' m q k d m' q' k' d' w r0 r1
/-! Trees of any form that are the same. -/
set_option maxHeartbeats 4000000 in
set_option maxRecDepth 100000 in
theorem same_tr : ∀ (t : Tr) (n : Int) (p : Option Addr) (l c : Nat) (n' : Int) (p' : Option Addr) (l' c' : Nat) (w : World), Lies w t (TV n p l c) → Lies w t (TV n' p' l' c') → Calls Try.prog 26 #[TV n p l c, TV n' p' l' c'] w (Tells (.bool true) w)
  | ⟨m, len, kids⟩, n, p, l, c, n', p', l', c', w, ⟨_, hl, p1, c1, e, hk⟩, ⟨_, _, p2, c2, e', hk'⟩ => by
    have RR : Hid (∀ (i : Nat) (hi : i < len) (n0 : Int) (p0 : Option Addr) (l0 c0 : Nat) (n1 : Int) (p1 : Option Addr) (l1 c1 : Nat) (w1 : World), Lies w1 (kids ⟨i, hi⟩) (TV n0 p0 l0 c0) → Lies w1 (kids ⟨i, hi⟩) (TV n1 p1 l1 c1) → Calls Try.prog 26 #[TV n0 p0 l0 c0, TV n1 p1 l1 c1] w1 (Tells (.bool true) w1)) := fun i hi n0 p0 l0 c0 n1 p1 l1 c1 w1 h h' => same_tr (kids ⟨i, hi⟩) n0 p0 l0 c0 n1 p1 l1 c1 w1 h h'
    simp at e e'
    obtain ⟨rfl, rfl, rfl, rfl⟩ := e
    obtain ⟨hn', rfl, hl', rfl⟩ := e'
    obtain rfl : n = n' := hn'.symm
    obtain rfl : l = l' := hl'.symm
    clear hn' hl'
    obtain ⟨h1, h2, hbel⟩ := two_box w n p l c n p' l c' _ rfl
    have HR : Hid (∀ i, i < l → ∃ g o g' o' n0 p0 l0 c0 n1 p1 l1 c1, p = some ⟨g, o, none⟩ ∧ p' = some ⟨g', o', none⟩ ∧ Tat w g (o + i * 2) n0 p0 l0 c0 ∧ Tat w g' (o' + i * 2) n1 p1 l1 c1 ∧ ∀ w1, Below w.heap.size w w1 → Calls Try.prog 26 #[TV n0 p0 l0 c0, TV n1 p1 l1 c1] w1 (Tells (.bool true) w1)) := show ∀ i, _ from fun i hi => by
      obtain ⟨g, o, hp, hks⟩ := hk (by omega)
      obtain ⟨g', o', hp', hks'⟩ := hk' (by omega)
      obtain ⟨n0, p0, l0, c0, t0, k0⟩ := hks i hi
      obtain ⟨n1, p1, l1, c1, t1, k1⟩ := hks' i hi
      exact ⟨g, o, g', o', n0, p0, l0, c0, n1, p1, l1, c1, hp, hp', t0, t1, fun w1 hb => RR.out i hi n0 p0 l0 c0 n1 p1 l1 c1 w1 (k0.later hb) (k1.later hb)⟩
    clear hk hk' RR
    have hml : l ≤ 9223372036854775807 := by unfold maxLen at hl; omega
    have g0 := h1.cell0
    have g1 := h1.cell1
    have g2 := h2.cell0
    have g3 := h2.cell1
    go_enter Try.func26, Try.ntmps26
    go_wp2
    go_loopw [5] (fun vi wr => ∃ k : Nat, vi = .int .i64 k ∧ k ≤ l ∧ Bx wr w.heap.size n p l c ∧ Bx wr (w.heap.size + 1) n p' l c' ∧ Below w.heap.size w wr) (fun vi _ => l - (intOf vi).toNat)
    case atStart => exact ⟨0, rfl, by omega, h1, h2, hbel⟩
    case round =>
      clear g0 g1 g2 g3 h1 h2 hbel
      obtain ⟨k, rfl, hk, h1, h2, hbel⟩ := hrel
      have g1 := h1.cell1
      have g3 := h2.cell1
      by_cases hlt : k < l
      · obtain ⟨g, o, g', o', n0, p0, l0, c0, n1, p1, l1, c1, rfl, rfl, ta, tb, rr⟩ := HR.out k hlt
        replace ta := ta.later hbel
        replace tb := tb.later hbel
        have hi1 : (k : Int) < (l : Int) := by omega
        clear HR
        have hs : Calm.Stays (fun w' => Tat w' g (o + k * 2) n0 p0 l0 c0 ∧ Tat w' g' (o' + k * 2) n1 p1 l1 c1 ∧ w'.cell? ⟨w.heap.size, 1, none⟩ = some (.slice (some ⟨g, o, none⟩) l c) ∧ w'.cell? ⟨w.heap.size + 1, 1, none⟩ = some (.slice (some ⟨g', o', none⟩) l c') ∧ Bx w' w.heap.size n (some ⟨g, o, none⟩) l c ∧ Bx w' (w.heap.size + 1) n (some ⟨g', o', none⟩) l c' ∧ Below w.heap.size w w') :=
          fun w1 w2 h hb => ⟨h.1.later hb, h.2.1.later hb, cell_later hb h.2.2.1, cell_later hb h.2.2.2.1, h.2.2.2.2.1.later hb, h.2.2.2.2.2.1.later hb, below_on h.2.2.2.2.2.2 hb⟩
        go_wp2
        refine Calm.region (by kernel_rfl) (by kernel_rfl) (fun w' => Tat w' g (o + k * 2) n0 p0 l0 c0 ∧ Tat w' g' (o' + k * 2) n1 p1 l1 c1 ∧ w'.cell? ⟨w.heap.size, 1, none⟩ = some (.slice (some ⟨g, o, none⟩) l c) ∧ w'.cell? ⟨w.heap.size + 1, 1, none⟩ = some (.slice (some ⟨g', o', none⟩) l c') ∧ Bx w' w.heap.size n (some ⟨g, o, none⟩) l c ∧ Bx w' (w.heap.size + 1) n (some ⟨g', o', none⟩) l c' ∧ Below w.heap.size w w') ⟨ta, tb, g1, g3, h1, h2, hbel.drew⟩ ?_
        all_goals
          refine Calm.pure (v := ?_) (by rfl) ?_ ?_
          rotate_left
          focus (intro w hSw; go_simp <;> rfl)
          simp only [Act.put, List.setIfInBounds_toArray, List.set_cons_zero, List.set_cons_succ]
        all_goals
          refine Calm.pure (v := ?_) (by rfl) ?_ ?_
          rotate_left
          focus (intro w hSw; go_simp <;> rfl)
          simp only [Act.put, List.setIfInBounds_toArray, List.set_cons_zero, List.set_cons_succ]
        all_goals
          refine Calm.pure (v := ?_) (by rfl) ?_ ?_
          rotate_left
          focus (intro w hSw; go_simp <;> rfl)
          simp only [Act.put, List.setIfInBounds_toArray, List.set_cons_zero, List.set_cons_succ]
        all_goals
          refine Calm.pure (v := ?_) (by rfl) ?_ ?_
          rotate_left
          focus (intro w hSw; go_simp <;> rfl)
          simp only [Act.put, List.setIfInBounds_toArray, List.set_cons_zero, List.set_cons_succ]
        all_goals
          refine Calm.loadT (by rfl) _ rfl rfl (fun _ h => by go_split_ands; assumption) ?_
          simp only [Act.put, List.setIfInBounds_toArray, List.set_cons_zero, List.set_cons_succ]
        all_goals
          refine Calm.pure (v := ?_) (by rfl) ?_ ?_
          rotate_left
          focus (intro w hSw; go_simp <;> rfl)
          simp only [Act.put, List.setIfInBounds_toArray, List.set_cons_zero, List.set_cons_succ]
        all_goals
          refine Calm.pure (v := ?_) (by rfl) ?_ ?_
          rotate_left
          focus (intro w hSw; go_simp <;> rfl)
          simp only [Act.put, List.setIfInBounds_toArray, List.set_cons_zero, List.set_cons_succ]
        all_goals
          refine Calm.pure (v := ?_) (by rfl) ?_ ?_
          rotate_left
          focus (intro w hSw; go_simp <;> rfl)
          simp only [Act.put, List.setIfInBounds_toArray, List.set_cons_zero, List.set_cons_succ]
        all_goals
          refine Calm.pure (v := ?_) (by rfl) ?_ ?_
          rotate_left
          focus (intro w hSw; go_simp <;> rfl)
          simp only [Act.put, List.setIfInBounds_toArray, List.set_cons_zero, List.set_cons_succ]
        all_goals
          refine Calm.loadT (by rfl) _ rfl rfl (fun _ h => by go_split_ands; assumption) ?_
          simp only [Act.put, List.setIfInBounds_toArray, List.set_cons_zero, List.set_cons_succ]
        all_goals
          refine Calm.call2s (by rfl) rfl rfl rfl (by kernel_rfl) hs (fun w1 h => rr w1 h.2.2.2.2.2.2) ?_
          simp only [Act.put, List.setIfInBounds_toArray, List.set_cons_zero, List.set_cons_succ]
        all_goals
          refine Calm.pure (v := ?_) (by rfl) ?_ ?_
          rotate_left
          focus (intro w hSw; go_simp <;> rfl)
          simp only [Act.put, List.setIfInBounds_toArray, List.set_cons_zero, List.set_cons_succ]
        rintro w9 ⟨_, _, _, _, h1, h2, hbel9⟩
        go_wp2
        go_roundw
        case rel => exact ⟨k + 1, by simp, by omega, h1, h2, hbel9⟩
        case measure => simp [intOf]; omega
      · have hk : k = l := by omega
        subst hk
        clear HR
        go_wp2
        go_ret
        exact ⟨rfl, hbel⟩
end Go.Proofs.Ytmcajjdijjcpkaa
/- The function Depth of the document's answer. -/
namespace Go.Proofs.Ytmcajjdijjcpkaa.Idn
open Go.RowKit

set_option maxHeartbeats 4000000 in
set_option maxRecDepth 100000 in
theorem refDepth_node (n : Int) (most d0 d1 : Nat) (g o c : Nat) (n0 : Int) (p0 : Option Addr) (l0 c0 : Nat) (n1 : Int) (p1 : Option Addr) (l1 c1 : Nat) (w : World) (t0 : Tat w g o n0 p0 l0 c0) (t1 : Tat w g (o + 2) n1 p1 l1 c1) (hm0 : 0 < most) (hm : most ≤ 100) (b0 : d0 ≤ 100) (b1 : d1 ≤ 100)
    (r0 : ∀ w1, Below w.heap.size w w1 → Calls Try.prog 49 #[TV n0 p0 l0 c0, .int .i64 (most - 1 : Nat)] w1 fun e w' => e = .returned (.int .i64 d0) ∧ Below w1.heap.size w1 w')
    (r1 : ∀ w1, Below w.heap.size w w1 → Calls Try.prog 49 #[TV n1 p1 l1 c1, .int .i64 (most - 1 : Nat)] w1 fun e w' => e = .returned (.int .i64 d1) ∧ Below w1.heap.size w1 w') :
    Calls Try.prog 49 #[TV n (some ⟨g, o, none⟩) 2 c, .int .i64 most] w fun e w' => e = .returned (.int .i64 (max (1 + d0) (1 + d1) : Nat)) ∧ Below w.heap.size w w' := by
  obtain ⟨h1, hbel⟩ := one_box w n (some ⟨g, o, none⟩) 2 c _ rfl
  have es : ((most - 1 : Nat) : Int) = (most : Int) - 1 := by omega
  rw [es] at r0 r1
  have hmi : (0 : Int) < (most : Int) := by omega
  clear es
  go_enter Try.func49, Try.ntmps49
  go_wp2
  go_loopw [5, 6] (fun vd vi wr => ∃ k d : Nat, vi = .int .i64 k ∧ vd = .int .i64 d ∧ k ≤ 2 ∧ Hid (d = if k = 0 then 0 else if k = 1 then 1 + d0 else max (1 + d0) (1 + d1)) ∧ d ≤ 101 ∧ Bx wr w.heap.size n (some ⟨g, o, none⟩) 2 c ∧ Below w.heap.size w wr) (fun _ vi _ => 2 - (intOf vi).toNat)
  case atStart => exact ⟨0, 0, rfl, rfl, by omega, rfl, by omega, h1, hbel⟩
  case round =>
    clear h1 hbel
    obtain ⟨k, d, rfl, rfl, hk, HD, hd, h1, hbel⟩ := hrel
    have g1 := h1.cell1
    by_cases hlt : k < 2
    · obtain ⟨n, p, l, cc, dk, ta, rr, hdk, HS⟩ : ∃ n p l cc dk, Tat w g (o + k * 2) n p l cc ∧ (∀ w1, Below w.heap.size w w1 → Calls Try.prog 49 #[TV n p l cc, .int .i64 ((most : Int) - 1)] w1 fun e w' => e = .returned (.int .i64 (dk : Nat)) ∧ Below w1.heap.size w1 w') ∧ dk ≤ 100 ∧ Hid ((k = 0 ∧ dk = d0) ∨ (k = 1 ∧ dk = d1)) := by
        match k, hlt with
        | 0, _ => exact ⟨n0, p0, l0, c0, d0, by simpa using t0, r0, b0, .inl ⟨rfl, rfl⟩⟩
        | 1, _ => exact ⟨n1, p1, l1, c1, d1, by simpa using t1, r1, b1, .inr ⟨rfl, rfl⟩⟩
      replace ta := ta.later hbel
      replace rr := rr _ hbel
      have hi1 : (k : Int) < 2 := by omega
      have HN : Hid (max d (1 + dk) = if k + 1 = 0 then 0 else if k + 1 = 1 then 1 + d0 else max (1 + d0) (1 + d1)) := by
        show _ = _
        rw [HD.out]
        rcases HS.out with ⟨rfl, rfl⟩ | ⟨rfl, rfl⟩
        · simp
        · simp
      have hn : max d (1 + dk) ≤ 101 := by omega
      clear t0 t1 r0 r1 HD HS b0 b1
      go_wp2_with (refine load_t _ rfl rfl _ _ rfl ta ?_)
      refine rr.mono ?_
      rintro e w2 ⟨rfl, hb1⟩
      replace h1 := h1.later hb1
      replace hbel := below_on hbel hb1
      clear hb1 rr ta g1
      by_cases hc : d ≤ 1 + dk
      · have em : max d (1 + dk) = 1 + dk := by omega
        rw [em] at HN
        have hci : (d : Int) ≤ 1 + (dk : Int) := by omega
        clear hc em hn
        go_wp2
        go_roundw
        case rel => exact ⟨k + 1, 1 + dk, by simp, (by simp; omega), by omega, HN, by omega, h1, hbel⟩
        case measure => simp [intOf]; omega
      · have em : max d (1 + dk) = d := by omega
        rw [em] at HN
        have hci : ¬ (d : Int) ≤ 1 + (dk : Int) := by omega
        clear hc em hn
        go_wp2
        go_roundw
        case rel => exact ⟨k + 1, d, by simp, (by simp; omega), by omega, HN, by omega, h1, hbel⟩
        case measure => simp [intOf]; omega
    · have hk : k = 2 := by omega
      subst hk
      have HF : Hid (d = max (1 + d0) (1 + d1)) := HD.out
      clear HD
      go_wp2
      go_ret
      exact ⟨by rw [HF.out]; rfl, hbel⟩

set_option maxHeartbeats 4000000 in
set_option maxRecDepth 100000 in
theorem refDepth_zero (n : Int) (p : Option Addr) (l c : Nat) (w : World) (most : Nat) (h : l = 0 ∨ most = 0) (hl : l ≤ 2) :
    Calls Try.prog 49 #[TV n p l c, .int .i64 most] w fun e w' => e = .returned (.int .i64 0) ∧ Below w.heap.size w w' := by
  obtain ⟨h1, hbel⟩ := one_box w n p l c _ rfl
  have HH : Hid (l = 0 ∨ most = 0) := h
  clear h
  go_enter Try.func49, Try.ntmps49
  go_wp2
  go_loopw [5, 6] (fun vd vi wr => vi = .int .i64 0 ∧ vd = .int .i64 0 ∧ Bx wr w.heap.size n p l c ∧ Below w.heap.size w wr) (fun _ _ _ => 0)
  case atStart => exact ⟨rfl, rfl, h1, hbel⟩
  case round =>
    clear h1 hbel
    obtain ⟨rfl, rfl, h1, hbel⟩ := hrel
    have g1 := h1.cell1
    by_cases h0 : l = 0
    · subst h0
      clear HH
      go_wp2
      go_ret
      exact ⟨rfl, hbel⟩
    · obtain rfl : most = 0 := by
        rcases HH.out with h | h
        · exact absurd h h0
        · exact h
      have hi : (0 : Int) < (l : Int) := by omega
      clear HH h0
      go_wp2
      go_ret
      exact ⟨rfl, hbel⟩

theorem refDepth_any : ∀ (x : ID) (most : Nat) (n : Int) (p : Option Addr) (l c : Nat) (w : World), Is w x (TV n p l c) → most ≤ 100 →
    Calls Try.prog 49 #[TV n p l c, .int .i64 most] w fun e w' => e = .returned (.int .i64 (min (depth x) most : Nat)) ∧ Below w.heap.size w w'
  | ⟨.inl b⟩, most, n, p, l, c, w, h, hm => by
    obtain ⟨_, rfl⟩ := is_parts h
    have := refDepth_zero n p 0 c w most (.inl rfl) (by omega)
    rw [show min (depth (.leaf b)) most = 0 by simp [depth]]
    exact this
  | ⟨.inr (x, y)⟩, most, n, p, l, c, w, ⟨g, o, c', n0, p0, l0, c0, n1, p1, l1, c1, e, t0, t1, hx, hy⟩, hm => by
    simp at e
    obtain ⟨rfl, rfl, rfl, rfl⟩ := e
    by_cases h0 : most = 0
    · subst h0
      have := refDepth_zero 0 (some ⟨g, o, none⟩) 2 c w 0 (.inr rfl) (by omega)
      rw [show min (depth (.node x y)) 0 = 0 by simp]
      exact this
    · have := refDepth_node 0 most (min (depth x) (most - 1)) (min (depth y) (most - 1)) g o c n0 p0 l0 c0 n1 p1 l1 c1 w t0 t1 (by omega) hm (by omega) (by omega)
        (fun w1 hb => refDepth_any x (most - 1) n0 p0 l0 c0 w1 (hx.later hb) (by omega)) (fun w1 hb => refDepth_any y (most - 1) n1 p1 l1 c1 w1 (hy.later hb) (by omega))
      rw [show min (depth (.node x y)) most = max (1 + min (depth x) (most - 1)) (1 + min (depth y) (most - 1)) by simp only [depth]; omega]
      exact this
end Go.Proofs.Ytmcajjdijjcpkaa.Idn
