/- Binary trees: what is made of two (mk), made shorter (norm); the functions pair, isShort of package idtree. -/
import Derived.Test.YtdbkjafjanhhbaaAlike
namespace Go.Proofs.Ytdbkjafjanhhbaa
open Go.RowKit

def lf : ID → Bool
  | ⟨.inl _⟩ => true
  | ⟨.inr (_, _)⟩ => false
def num : ID → Int
  | ⟨.inl b⟩ => bi b
  | ⟨.inr (_, _)⟩ => 0
def len : ID → Nat
  | ⟨.inl _⟩ => 0
  | ⟨.inr (_, _)⟩ => 2
/-- Both leaves of one number. -/
def tw : ID → ID → Bool
  | ⟨.inl a⟩, ⟨.inl b⟩ => a == b
  | _, _ => false
/-- What is made of two. -/
def mk (x y : ID) : ID := if tw x y then x else .node x y

theorem is_tv {w : World} : ∀ {x : ID} {v : Value}, Is w x v → ∃ p c, v = TV (num x) p (len x) c
  | ⟨.inl _⟩, _, h => h
  | ⟨.inr (_, _)⟩, _, ⟨g, o, c, _, _, _, _, _, _, _, _, e, _⟩ => ⟨some ⟨g, o, none⟩, c, e⟩
theorem is_parts {w : World} {x : ID} {n : Int} {p : Option Addr} {l c : Nat} (h : Is w x (TV n p l c)) : n = num x ∧ l = len x := by
  obtain ⟨p', c', e⟩ := is_tv h
  simp at e
  exact ⟨e.1, e.2.2.1⟩
theorem len_lf (x : ID) : decide (len x = 0) = lf x := by rcases x with ⟨_ | ⟨_, _⟩⟩ <;> rfl
theorem bi_eq (a b : Bool) : (bi a == bi b) = (a == b) := by cases a <;> cases b <;> rfl
theorem bi_zero (a : Bool) : (bi a == 0) = !a := by cases a <;> rfl
theorem tw_eq (x y : ID) : (decide (len x = 0) && decide (len y = 0) && num x == num y) = tw x y := by
  rcases x with ⟨_ | ⟨_, _⟩⟩ <;> rcases y with ⟨_ | ⟨_, _⟩⟩ <;> simp [len, num, tw, bi_eq]
theorem is_leaf (w : World) (b : Bool) (p : Option Addr) (c : Nat) : Is w (.leaf b) (TV (bi b) p 0 c) := ⟨p, c, rfl⟩

/-- The call answers the tree x. -/
abbrev Gives (x : ID) (w : World) (e : Ending) (w' : World) : Prop := ∃ n p l c, e = .returned (TV n p l c) ∧ Is w' x (TV n p l c) ∧ Below w.heap.size w w'

theorem row_tats (w : World) (n : Int) (p : Option Addr) (l c : Nat) (n' : Int) (p' : Option Addr) (l' c' : Nat) : ∀ w0, w0 = w.alloc (.cells #[.int .i64 n, .slice p l c, .int .i64 n', .slice p' l' c'] 24) →
    Tat w0 w.heap.size 0 n p l c ∧ Tat w0 w.heap.size 2 n' p' l' c' ∧ Below w.heap.size w w0 := by
  rintro w0 rfl
  have h := heap_alloc_last w (.cells #[.int .i64 n, .slice p l c, .int .i64 n', .slice p' l' c'] 24)
  refine ⟨⟨?_, ?_⟩, ⟨?_, ?_⟩, (Below.refl _ _).alloc (Nat.le_refl _) _⟩
  all_goals rw [cell_of_row _ _ _ _ 24 (0, 0) h]; rfl

set_option maxHeartbeats 1000000 in
set_option maxRecDepth 100000 in
theorem pair_any (x y : ID) (n : Int) (p : Option Addr) (l c : Nat) (n' : Int) (p' : Option Addr) (l' c' : Nat) (w : World) (hx : Is w x (TV n p l c)) (hy : Is w y (TV n' p' l' c')) :
    Calls Try.prog 41 #[TV n p l c, TV n' p' l' c'] w (Gives (mk x y) w) := by
  obtain ⟨h1, h2, h3, hbel⟩ := three_box w n p l c n' p' l' c' 0 none 0 0 _ rfl
  have HX : Hid (n = num x ∧ l = len x) := is_parts hx
  have HY : Hid (n' = num y ∧ l' = len y) := is_parts hy
  have ht : (decide (l = 0) && decide (l' = 0) && n == n') = tw x y := by rw [HX.out.1, HX.out.2, HY.out.1, HY.out.2, tw_eq]
  obtain ⟨z, HZ⟩ : ∃ z, Hid (mk x y = z) := ⟨_, rfl⟩
  rw [HZ.out]
  generalize hw0 : ((w.alloc (.cells #[.int .i64 n, .slice p l c] 24)).alloc (.cells #[.int .i64 n', .slice p' l' c'] 24)).alloc (.cells #[.int .i64 0, .slice none 0 0] 24) = w0 at h1 h2 h3 hbel
  obtain ⟨t1, t2, hb1⟩ := row_tats w0 n p l c n' p' l' c' _ rfl
  have hC := alike_any w0.heap.size 0 2 n p l c n' p' l' c' _ t1 t2
  rw [ht] at hC
  clear ht
  obtain ⟨r, HT⟩ : ∃ r, Hid (tw x y = r) := ⟨_, rfl⟩
  rw [HT.out] at hC
  have HI : Hid (Is w x (TV n p l c) ∧ Is w y (TV n' p' l' c')) := ⟨hx, hy⟩
  clear hx hy
  go_enter Try.func41, Try.ntmps41
  go_wp2_with (first | rw [hw0] | refine load_t _ rfl rfl _ _ rfl h1.tat ?_ | refine load_t _ rfl rfl _ _ rfl h2.tat ?_)
  refine hC.mono ?_
  rintro e w1 ⟨rfl, hb2⟩
  have c1 := ((h1.later hb1).later hb2).cell0
  have h4 := (h3.later hb1).later hb2
  have hbel2 := below_on (below_on hbel hb1) hb2
  replace t1 := t1.later hb2
  replace t2 := t2.later hb2
  clear hC hbel hb1 hb2 h1 h2 h3
  cases r
  · have R := below_setRow hbel2 (g := w.heap.size + 1 + 1) (by omega) #[.int .i64 0, .slice (some ⟨w0.heap.size, 0, none⟩) 2 2]
    have hI : Is (w1.setRow (w.heap.size + 1 + 1) #[.int .i64 0, .slice (some ⟨w0.heap.size, 0, none⟩) 2 2]) z (TV 0 (some ⟨w0.heap.size, 0, none⟩) 2 2) := by
      rw [← HZ.out, mk, HT.out]
      exact ⟨w0.heap.size, 0, 2, n, p, l, c, n', p', l', c', rfl, t1.box_lo h4 t2 _, t2.box_hi h4 _, (HI.out.1.later hbel2).box h4 _, (HI.out.2.later hbel2).box h4 _⟩
    go_wp2_with (refine store_t rfl _ _ rfl _ 0 (some ⟨w0.heap.size, 0, none⟩) 2 2 rfl rfl h4 ?_)
    exact bodyPost_ret (results_t rfl rfl (h4.row _ _ _ _)) rfl ⟨_, _, _, _, rfl, hI, R⟩
  · go_wp2_with fail
    refine (leaf_any n _).mono ?_
    rintro e w2 ⟨rfl, hb3⟩
    replace h4 := h4.later hb3
    have R := below_setRow (below_on hbel2 hb3) (g := w.heap.size + 1 + 1) (by omega) #[.int .i64 n, .slice none 0 0]
    have hI : Is (w2.setRow (w.heap.size + 1 + 1) #[.int .i64 n, .slice none 0 0]) z (TV n none 0 0) := by
      rw [← HZ.out, mk, HT.out]
      have h5 := HT.out
      rcases x with ⟨b | ⟨_, _⟩⟩
      · rw [HX.out.1]; exact is_leaf _ _ _ _
      · simp [tw] at h5
    clear c1 hbel2 hb3
    go_wp2_with (refine store_t rfl _ _ rfl _ n none 0 0 rfl rfl h4 ?_)
    exact bodyPost_ret (results_t rfl rfl (h4.row _ _ _ _)) rfl ⟨_, _, _, _, rfl, hI, R⟩
end Go.Proofs.Ytdbkjafjanhhbaa
