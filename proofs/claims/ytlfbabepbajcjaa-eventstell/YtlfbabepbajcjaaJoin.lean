/- The functions Join and Leq of package events. -/
import Derived.Test.YtlfbabepbajcjaaCmp
namespace Go.Proofs.Ytlfbabepbajcjaa
open Go.RowKit

/-- What Join and Leq answer. -/
def jnX (ta tb : Tr) : EV := if okT ta && okT tb then join 16 (evOf ta) (evOf tb) else .leaf 0
def jnE (ta tb : Tr) : Int := if okT ta && okT tb then 0 else 3
def lqT (ta tb : Tr) : Bool := okT ta && (okT tb && leq 16 (evOf ta) (evOf tb))

set_option maxHeartbeats 4000000 in
set_option maxRecDepth 100000 in
theorem join_tr (ta tb : Tr) (na : Int) (pa : Option Addr) (la ca : Nat) (nb : Int) (pb : Option Addr) (lb cb : Nat) (w : World) (ha : Lies w ta (TV na pa la ca)) (hb : Lies w tb (TV nb pb lb cb)) :
    Calls Try.prog 13 #[TV na pa la ca, TV nb pb lb cb] w (GivesE (jnX ta tb) (jnE ta tb) w) := by
  obtain ⟨h1, h2, h3, hbel⟩ := three_box w na pa la ca nb pb lb cb 0 none 0 0 _ rfl
  have rA := fun w1 (hb1 : Below w.heap.size w w1) => check_tr ta na pa la ca w1 (ha.later hb1)
  have rB := fun w1 (hb1 : Below w.heap.size w w1) => check_tr tb nb pb lb cb w1 (hb.later hb1)
  have rJ := fun w1 (hb1 : Below w.heap.size w w1) (ka : okT ta = true) (kb : okT tb = true) => tog_any 16 (evOf ta) (evOf tb) 1073741824 na pa la ca nb pb lb cb w1 (ok_parts (ok_of ha ka).2).1 (ok_parts (ok_of hb kb).2).1 (by omega) ((ok_of ha ka).1.later hb1) ((ok_of hb kb).1.later hb1) 
  unfold jnX jnE
  generalize okT ta = ka at rA rJ ⊢
  generalize okT tb = kb at rB rJ ⊢
  obtain ⟨zx, HX⟩ : ∃ zx, Hid ((if (ka && kb) = true then join 16 (evOf ta) (evOf tb) else .leaf 0) = zx) := ⟨_, rfl⟩
  obtain ⟨ze, HE⟩ : ∃ ze : Int, Hid ((if (ka && kb) = true then 0 else 3) = ze) := ⟨_, rfl⟩
  rw [HX.out, HE.out]
  clear ha hb
  go_enter Try.func13, Try.ntmps13
  go_wp2_with (refine load_t _ rfl rfl _ _ rfl h1.tat ?_)
  refine (rA _ hbel).mono ?_
  rintro e w1 ⟨rfl, hb1⟩
  replace h1 := h1.later hb1
  replace h2 := h2.later hb1
  replace h3 := h3.later hb1
  replace hbel := below_on hbel hb1
  clear hb1 rA
  cases ka
  · have R := below_setRow hbel (g := w.heap.size + 1 + 1) (by omega) #[.int .i64 0, .slice none 0 0]
    obtain rfl : zx = .leaf 0 := by rw [← HX.out]; rfl
    obtain rfl : ze = 3 := by rw [← HE.out]; rfl
    clear HX HE rB rJ h1 h2 hbel
    go_wp2_with (refine store_t rfl _ _ rfl _ 0 none 0 0 rfl rfl h3 ?_)
    exact bodyPost_ret (results_te rfl rfl (h3.row _ _ _ _)) rfl ⟨_, _, _, _, rfl, is_leaf _ 0 _ _, R⟩
  · go_wp2_with (refine load_t _ rfl rfl _ _ rfl h2.tat ?_)
    refine (rB _ hbel).mono ?_
    rintro e w2 ⟨rfl, hb1⟩
    replace h1 := h1.later hb1
    replace h2 := h2.later hb1
    replace h3 := h3.later hb1
    replace hbel := below_on hbel hb1
    clear hb1 rB
    cases kb
    · have R := below_setRow hbel (g := w.heap.size + 1 + 1) (by omega) #[.int .i64 0, .slice none 0 0]
      obtain rfl : zx = .leaf 0 := by rw [← HX.out]; rfl
      obtain rfl : ze = 3 := by rw [← HE.out]; rfl
      clear HX HE rJ h1 h2 hbel
      go_wp2_with (refine store_t rfl _ _ rfl _ 0 none 0 0 rfl rfl h3 ?_)
      exact bodyPost_ret (results_te rfl rfl (h3.row _ _ _ _)) rfl ⟨_, _, _, _, rfl, is_leaf _ 0 _ _, R⟩
    · obtain rfl : zx = join 16 (evOf ta) (evOf tb) := by rw [← HX.out]; rfl
      obtain rfl : ze = 0 := by rw [← HE.out]; rfl
      clear HX HE
      go_wp2_with (first | refine load_t _ rfl rfl _ _ rfl h1.tat ?_ | refine load_t _ rfl rfl _ _ rfl h2.tat ?_)
      refine (rJ _ hbel trivial trivial).mono ?_
      rintro e w3 ⟨n', p', l', c', rfl, hi, hb1⟩
      replace h3 := h3.later hb1
      have R := below_setRow (below_on hbel hb1) (g := w.heap.size + 1 + 1) (by omega) #[.int .i64 n', .slice p' l' c']
      clear hbel hb1 h1 h2 rJ
      go_wp2_with (refine store_t rfl _ _ rfl _ n' p' l' c' rfl rfl h3 ?_)
      exact bodyPost_ret (results_te rfl rfl (h3.row _ _ _ _)) rfl ⟨_, _, _, _, rfl, hi.box h3 _, R⟩

set_option maxHeartbeats 4000000 in
set_option maxRecDepth 100000 in
theorem leq_tr (ta tb : Tr) (na : Int) (pa : Option Addr) (la ca : Nat) (nb : Int) (pb : Option Addr) (lb cb : Nat) (w : World) (ha : Lies w ta (TV na pa la ca)) (hb : Lies w tb (TV nb pb lb cb)) :
    Calls Try.prog 16 #[TV na pa la ca, TV nb pb lb cb] w (Tells (.bool (lqT ta tb)) w) := by
  obtain ⟨h1, h2, hbel⟩ := two_box w na pa la ca nb pb lb cb _ rfl
  have rA := fun w1 (hb1 : Below w.heap.size w w1) => check_tr ta na pa la ca w1 (ha.later hb1)
  have rB := fun w1 (hb1 : Below w.heap.size w w1) => check_tr tb nb pb lb cb w1 (hb.later hb1)
  have rJ := fun w1 (hb1 : Below w.heap.size w w1) (ka : okT ta = true) (kb : okT tb = true) => cmp_any 16 (evOf ta) (evOf tb) 1073741824 na pa la ca nb pb lb cb w1 (ok_parts (ok_of ha ka).2).1 (ok_parts (ok_of hb kb).2).1 (by omega) ((ok_of ha ka).1.later hb1) ((ok_of hb kb).1.later hb1)
  unfold lqT
  generalize okT ta = ka at rA rJ ⊢
  generalize okT tb = kb at rB rJ ⊢
  generalize leq 16 (evOf ta) (evOf tb) = r at rJ ⊢
  clear ha hb
  go_enter Try.func16, Try.ntmps16
  go_wp2_with (refine load_t _ rfl rfl _ _ rfl h1.tat ?_)
  refine (rA _ hbel).mono ?_
  rintro e w1 ⟨rfl, hb1⟩
  replace h1 := h1.later hb1
  replace h2 := h2.later hb1
  replace hbel := below_on hbel hb1
  clear hb1 rA
  cases ka
  · clear rB rJ h1 h2
    go_wp2
    go_ret
    exact ⟨rfl, hbel⟩
  · go_wp2_with (refine load_t _ rfl rfl _ _ rfl h2.tat ?_)
    refine (rB _ hbel).mono ?_
    rintro e w2 ⟨rfl, hb1⟩
    replace h1 := h1.later hb1
    replace h2 := h2.later hb1
    replace hbel := below_on hbel hb1
    clear hb1 rB
    cases kb
    · clear rJ h1 h2
      go_wp2
      go_ret
      exact ⟨rfl, hbel⟩
    · go_wp2_with (first | refine load_t _ rfl rfl _ _ rfl h1.tat ?_ | refine load_t _ rfl rfl _ _ rfl h2.tat ?_)
      refine (rJ _ hbel trivial trivial).mono ?_
      rintro e w3 ⟨rfl, hb1⟩
      replace hbel := below_on hbel hb1
      clear hb1 h1 h2 rJ
      go_wp2
      go_ret
      exact ⟨rfl, hbel⟩

end Go.Proofs.Ytlfbabepbajcjaa
