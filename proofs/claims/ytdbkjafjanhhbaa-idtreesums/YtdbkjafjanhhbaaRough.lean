/- The functions isRough, isShort and Check of package idtree. -/
import Derived.Test.YtdbkjafjanhhbaaPair
namespace Go.Proofs.Ytdbkjafjanhhbaa
open Go.RowKit

set_option maxHeartbeats 1000000 in
set_option maxRecDepth 100000 in
theorem isRough_any : ∀ (t : Tr) (room : Nat) (n : Int) (p : Option Addr) (l c : Nat) (w : World), Lies w t (TV n p l c) → room ≤ 100 →
    Calls Try.prog 25 #[TV n p l c, .int .i64 room] w fun e w' => e = .returned (.bool (rough t room)) ∧ Below w.heap.size w w'
  | ⟨m, len, kids⟩, room, n, p, l, c, w, ⟨_, hl, p', c', e, hk⟩, hroom => by
    have RR : Hid (∀ (i : Nat) (hi : i < len) (n0 : Int) (p0 : Option Addr) (l0 c0 : Nat) (w1 : World), Lies w1 (kids ⟨i, hi⟩) (TV n0 p0 l0 c0) → Calls Try.prog 25 #[TV n0 p0 l0 c0, .int .i64 (room - 1 : Nat)] w1 fun e w' => e = .returned (.bool (rough (kids ⟨i, hi⟩) (room - 1))) ∧ Below w1.heap.size w1 w') := fun i hi n0 p0 l0 c0 w1 h => isRough_any (kids ⟨i, hi⟩) (room - 1) n0 p0 l0 c0 w1 h (by omega)
    simp at e
    obtain ⟨rfl, rfl, rfl, rfl⟩ := e
    obtain ⟨h1, hbel⟩ := one_box w n p l c _ rfl
    have g0 := h1.cell0
    have g1 := h1.cell1
    obtain ⟨z, HZ⟩ : ∃ z, Hid (rough ⟨n, l, kids⟩ room = z) := ⟨_, rfl⟩
    rw [HZ.out]
    have HK : Hid (0 < l → ∃ g o, p = some ⟨g, o, none⟩ ∧ ∀ i, (hi : i < l) → ∃ n0 p0 l0 c0, Tat w g (o + i * 2) n0 p0 l0 c0 ∧ Lies w (kids ⟨i, hi⟩) (TV n0 p0 l0 c0)) := hk
    clear hk
    unfold rough at HZ
    by_cases e0 : l = 0
    · subst e0
      have HZ' : Hid ((n == 0 || n == 1) = z) := by have := HZ.out; simp at this; exact this
      clear HZ
      by_cases en : n = 0
      · subst en
        go_enter Try.func25, Try.ntmps25
        go_wp2
        go_ret
        exact ⟨by rw [← HZ'.out]; rfl, hbel⟩
      · go_enter Try.func25, Try.ntmps25
        go_wp2
        go_ret
        exact ⟨by rw [← HZ'.out]; simp, hbel⟩
    · by_cases e2 : l = 2
      · subst e2
        obtain ⟨g, o, rfl, hks⟩ := HK.out (by decide)
        obtain ⟨n0, p0, l0, c0, t0, k0⟩ := hks 0 (by decide)
        obtain ⟨n1, p1, l1, c1, t1, k1⟩ := hks 1 (by decide)
        have HZ' : Hid ((n == 0 && decide (0 < room) && rough (kids ⟨0, by decide⟩) (room - 1) && rough (kids ⟨1, by decide⟩) (room - 1)) = z) := by have := HZ.out; rw [if_neg (by decide), dif_pos rfl] at this; exact this
        have r0 := fun w1 (hb : Below w.heap.size w w1) => RR.out 0 (by decide) n0 p0 l0 c0 w1 (k0.later hb)
        have r1 := fun w1 (hb : Below w.heap.size w w1) => RR.out 1 (by decide) n1 p1 l1 c1 w1 (k1.later hb)
        clear HZ HK hks k0 k1
        simp only [Nat.zero_mul, Nat.add_zero, Nat.one_mul] at t0 t1
        by_cases en : n = 0
        · subst en
          by_cases er : 0 < room
          · have ei : (0 : Int) < (room : Int) := by omega
            have es : ((room - 1 : Nat) : Int) = (room : Int) - 1 := by omega
            rw [es] at r0 r1
            have HZ'' : Hid ((rough (kids ⟨0, by decide⟩) (room - 1) && rough (kids ⟨1, by decide⟩) (room - 1)) = z) := by have := HZ'.out; rw [show decide (0 < room) = true by simpa using er] at this; exact this
            generalize rough (kids ⟨0, by decide⟩) (room - 1) = b0 at r0 HZ''
            generalize rough (kids ⟨1, by decide⟩) (room - 1) = b1 at r1 HZ''
            clear HZ' es
            have tt0 := t0.later hbel
            go_enter Try.func25, Try.ntmps25
            go_wp2_with (refine load_t _ rfl rfl _ _ rfl tt0 ?_)
            refine (r0 _ hbel).mono ?_
            rintro e w1 ⟨rfl, hb1⟩
            have hbel1 := below_on hbel hb1
            cases b0
            · clear t0 t1 tt0 r0 r1
              go_wp2
              go_ret
              exact ⟨by rw [← HZ''.out]; rfl, hbel1⟩
            · have g2 := cell_later hb1 g1
              have tt1 := t1.later hbel1
              clear t0 t1 tt0 r0 g0 g1
              go_wp2_with (refine load_t _ rfl rfl _ _ rfl tt1 ?_)
              refine (r1 _ hbel1).mono ?_
              rintro e w2 ⟨rfl, hb2⟩
              have hbel2 := below_on hbel1 hb2
              clear tt1 r1 g2
              go_wp2
              go_ret
              exact ⟨by rw [← HZ''.out]; rfl, hbel2⟩
          · have ei : ¬ (0 : Int) < (room : Int) := by omega
            have HZ'' : Hid (false = z) := by have := HZ'.out; simp [er] at this; rw [this]; rfl
            clear HZ' r0 r1 t0 t1 er
            go_enter Try.func25, Try.ntmps25
            go_wp2
            go_ret
            exact ⟨by rw [← HZ''.out]; rfl, hbel⟩
        · have HZ'' : Hid (false = z) := by have := HZ'.out; rw [show (n == 0) = false by simpa using en] at this; exact this
          clear HZ' r0 r1 t0 t1
          go_enter Try.func25, Try.ntmps25
          go_wp2
          go_ret
          exact ⟨by rw [← HZ''.out]; rfl, hbel⟩
      · have HZ'' : Hid (false = z) := by have := HZ.out; rw [if_neg e0, dif_neg e2] at this; exact this
        have f0 : ¬ (l : Int) = 0 := by omega
        have f2 : ¬ (l : Int) = 2 := by omega
        clear HZ HK e0 e2
        go_enter Try.func25, Try.ntmps25
        go_wp2
        go_ret
        exact ⟨by rw [← HZ''.out]; rfl, hbel⟩

theorem lies_is {w : World} : ∀ (x : ID) (v : Value), Is w x v → Lies w (toTr x) v
  | ⟨.inl b⟩, _, ⟨p, c, e⟩ => ⟨by cases b <;> decide, by decide, p, c, e, fun h => by omega⟩
  | ⟨.inr (x, y)⟩, _, ⟨g, o, c, n0, p0, l0, c0, n1, p1, l1, c1, e, h0, h1, hx, hy⟩ => by
    refine ⟨by decide, by decide, some ⟨g, o, none⟩, c, e, fun _ => ⟨g, o, rfl, fun i hi => ?_⟩⟩
    match i, hi with
    | 0, _ => exact ⟨n0, p0, l0, c0, by simpa using h0, by simpa using lies_is x _ hx⟩
    | 1, _ => exact ⟨n1, p1, l1, c1, by simpa using h1, by simpa using lies_is y _ hy⟩
theorem rough_to : ∀ (x : ID) (room : Nat), rough (toTr x) room = decide (depth x ≤ room)
  | ⟨.inl b⟩, room => by cases b <;> simp [toTr, rough, depth, bi]
  | ⟨.inr (x, y)⟩, room => by
    rw [toTr, rough, if_neg (by decide), dif_pos rfl, if_pos rfl, if_neg (by decide), rough_to x, rough_to y, depth]
    rw [Bool.eq_iff_iff]
    simp only [beq_self_eq_true, Bool.true_and, Bool.and_eq_true, decide_eq_true_eq]
    omega
theorem isRough_is (x : ID) (room : Nat) (n : Int) (p : Option Addr) (l c : Nat) (w : World) (h : Is w x (TV n p l c)) (hr : room ≤ 100) :
    Calls Try.prog 25 #[TV n p l c, .int .i64 room] w fun e w' => e = .returned (.bool (decide (depth x ≤ room))) ∧ Below w.heap.size w w' := by
  have := isRough_any (toTr x) room n p l c w (lies_is x _ h) hr
  rwa [rough_to] at this

/-- None in it has two leaves of one number as Kids. -/
def short : ID → Bool
  | ⟨.inl _⟩ => true
  | ⟨.inr (x, y)⟩ => !tw x y && short x && short y

set_option maxHeartbeats 1000000 in
set_option maxRecDepth 100000 in
theorem isShort_any : ∀ (x : ID) (n : Int) (p : Option Addr) (l c : Nat) (w : World), Is w x (TV n p l c) →
    Calls Try.prog 36 #[TV n p l c] w fun e w' => e = .returned (.bool (short x)) ∧ Below w.heap.size w w'
  | ⟨.inl b⟩, n, p, l, c, w, h => by
    obtain ⟨p', c', e⟩ := h
    simp at e
    obtain ⟨rfl, rfl, rfl, rfl⟩ := e
    obtain ⟨h1, hbel⟩ := one_box w (bi b) p 0 c _ rfl
    go_enter Try.func36, Try.ntmps36
    go_wp2_with (refine load_t _ rfl rfl _ _ rfl h1.tat ?_)
    refine (isLeaf_any _ p 0 c _).mono ?_
    rintro e w1 ⟨rfl, hb1⟩
    go_wp2
    go_ret
    exact ⟨rfl, below_on hbel hb1⟩
  | ⟨.inr (x, y)⟩, n, p, l, c, w, ⟨g, o, c', n0, p0, l0, c0, n1, p1, l1, c1, e, t0, t1, hx, hy⟩ => by
    simp at e
    obtain ⟨rfl, rfl, rfl, rfl⟩ := e
    obtain ⟨h1, hbel⟩ := one_box w 0 (some ⟨g, o, none⟩) 2 c _ rfl
    have r0 := fun w1 (hb : Below w.heap.size w w1) => isShort_any x n0 p0 l0 c0 w1 (hx.later hb)
    have r1 := fun w1 (hb : Below w.heap.size w w1) => isShort_any y n1 p1 l1 c1 w1 (hy.later hb)
    obtain ⟨e0, e1⟩ := is_parts hx
    obtain ⟨e2, e3⟩ := is_parts hy
    have hC := fun w1 (hb : Below w.heap.size w w1) => alike_any g o c n0 p0 l0 c0 n1 p1 l1 c1 w1 (t0.later hb) (t1.later hb)
    have et : (decide (l0 = 0) && decide (l1 = 0) && n0 == n1) = tw x y := by rw [e0, e1, e2, e3, tw_eq]
    rw [et] at hC
    clear e0 e1 e2 e3 et hx hy
    obtain ⟨z, HZ⟩ : ∃ z, Hid (short (.node x y) = z) := ⟨_, rfl⟩
    rw [HZ.out]
    unfold short at HZ
    generalize tw x y = b at hC HZ
    generalize short x = b0 at r0 HZ
    generalize short y = b1 at r1 HZ
    go_enter Try.func36, Try.ntmps36
    go_wp2_with (refine load_t _ rfl rfl _ _ rfl h1.tat ?_)
    refine (isLeaf_any 0 _ 2 c _).mono ?_
    rintro e w1 ⟨rfl, hb1⟩
    have g1 := (h1.later hb1).cell1
    replace hbel := below_on hbel hb1
    clear hb1 h1
    go_wp2_with fail
    refine (hC _ hbel).mono ?_
    rintro e w2 ⟨rfl, hb1⟩
    replace g1 := cell_later hb1 g1
    replace hbel := below_on hbel hb1
    clear hb1 hC
    cases b
    · have tt0 := t0.later hbel
      go_wp2_with (refine load_t _ rfl rfl _ _ rfl tt0 ?_)
      refine (r0 _ hbel).mono ?_
      rintro e w3 ⟨rfl, hb1⟩
      replace g1 := cell_later hb1 g1
      replace hbel := below_on hbel hb1
      clear hb1 r0 tt0
      cases b0
      · clear t0 t1 r1
        go_wp2
        go_ret
        exact ⟨by rw [← HZ.out]; rfl, hbel⟩
      · have tt1 := t1.later hbel
        clear t0 t1
        go_wp2_with (refine load_t _ rfl rfl _ _ rfl tt1 ?_)
        refine (r1 _ hbel).mono ?_
        rintro e w4 ⟨rfl, hb1⟩
        replace hbel := below_on hbel hb1
        clear hb1 r1 tt1
        go_wp2
        go_ret
        exact ⟨by rw [← HZ.out]; rfl, hbel⟩
    · clear t0 t1 r0 r1
      go_wp2
      go_ret
      exact ⟨by rw [← HZ.out]; rfl, hbel⟩

/-- It may be. -/
def ok (x : ID) : Bool := decide (depth x ≤ 16) && short x
def okT (t : Tr) : Bool := rough t 16 && short (idOf t)

set_option maxHeartbeats 1000000 in
set_option maxRecDepth 100000 in
theorem check_tr (t : Tr) (n : Int) (p : Option Addr) (l c : Nat) (w : World) (h : Lies w t (TV n p l c)) :
    Calls Try.prog 15 #[TV n p l c] w fun e w' => e = .returned (.bool (okT t)) ∧ Below w.heap.size w w' := by
  obtain ⟨h1, hbel⟩ := one_box w n p l c _ rfl
  have r0 := fun w1 (hb : Below w.heap.size w w1) => isRough_any t 16 n p l c w1 (h.later hb) (by omega)
  have r1 := fun w1 (hb : Below w.heap.size w w1) (hr : rough t 16 = true) => isShort_any (idOf t) n p l c w1 ((is_of_lies t 16 _ hr h).1.later hb)
  unfold okT
  generalize rough t 16 = b at r0 r1 ⊢
  generalize short (idOf t) = b1 at r1 ⊢
  clear h
  go_enter Try.func15, Try.ntmps15
  go_wp2_with (refine load_t _ rfl rfl _ _ rfl h1.tat ?_)
  refine (r0 _ hbel).mono ?_
  rintro e w1 ⟨rfl, hb1⟩
  replace h1 := h1.later hb1
  replace hbel := below_on hbel hb1
  cases b
  · go_wp2
    go_ret
    exact ⟨rfl, hbel⟩
  · go_wp2_with (refine load_t _ rfl rfl _ _ rfl h1.tat ?_)
    refine (r1 _ hbel trivial).mono ?_
    rintro e w2 ⟨rfl, hb2⟩
    go_wp2
    go_ret
    exact ⟨rfl, below_on hbel hb2⟩
theorem idOf_to : ∀ x : ID, idOf (toTr x) = x
  | ⟨.inl b⟩ => by cases b <;> rfl
  | ⟨.inr (x, y)⟩ => by rw [toTr, idOf, if_neg (by decide), dif_pos rfl, if_pos rfl, if_neg (by decide), idOf_to x, idOf_to y]
theorem okT_to (x : ID) : okT (toTr x) = ok x := by rw [okT, rough_to, idOf_to]; rfl
theorem check_any (x : ID) (n : Int) (p : Option Addr) (l c : Nat) (w : World) (h : Is w x (TV n p l c)) :
    Calls Try.prog 15 #[TV n p l c] w fun e w' => e = .returned (.bool (ok x)) ∧ Below w.heap.size w w' := by
  have := check_tr (toTr x) n p l c w (lies_is x _ h)
  rwa [okT_to] at this
end Go.Proofs.Ytdbkjafjanhhbaa
