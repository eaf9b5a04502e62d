/- The functions Leaf, Inner, IsLeaf and rough of the document's answer. -/
import Derived.Test.YtdbkjafjanhhbaaHeads
import Derived.Test.YtdbkjafjanhhbaaFactsH
namespace Go.Proofs.Ytdbkjafjanhhbaa
open Go.RowKit

set_option maxRecDepth 100000 in
theorem refLeaf_any (n : Int) (w : World) :
    Calls Try.prog 42 #[.int .i64 n] w fun e w' => e = .returned (TV n none 0 0) ∧ Below w.heap.size w w' := by
  obtain ⟨h1, hbel⟩ := one_box w 0 none 0 0 _ rfl
  go_enter Try.func42, Try.ntmps42
  go_wp2_with (refine store_t rfl _ _ rfl _ n none 0 0 rfl rfl h1 ?_)
  exact bodyPost_ret (results_t rfl rfl (h1.row n none 0 0)) rfl ⟨rfl, below_setRow hbel (Nat.le_refl _) _⟩
theorem refLeaf_gives (b : Bool) (w : World) : Calls Try.prog 42 #[.int .i64 (bi b)] w (Gives (.leaf b) w) :=
  (refLeaf_any (bi b) w).mono fun _ _ ⟨he, hb⟩ => ⟨_, _, _, _, he, is_leaf _ b _ _, hb⟩

set_option maxHeartbeats 1000000 in
set_option maxRecDepth 100000 in
theorem inner_any (x y : ID) (n : Int) (p : Option Addr) (l c : Nat) (n' : Int) (p' : Option Addr) (l' c' : Nat) (w : World) (hx : Is w x (TV n p l c)) (hy : Is w y (TV n' p' l' c')) :
    Calls Try.prog 43 #[.int .i64 0, TV n p l c, TV n' p' l' c'] w (Gives (.node x y) w) := by
  obtain ⟨h1, h2, h3, hbel⟩ := three_box w n p l c n' p' l' c' 0 none 0 0 _ rfl
  generalize hw0 : ((w.alloc (.cells #[.int .i64 n, .slice p l c] 24)).alloc (.cells #[.int .i64 n', .slice p' l' c'] 24)).alloc (.cells #[.int .i64 0, .slice none 0 0] 24) = w0 at h1 h2 h3 hbel
  obtain ⟨t1, t2, hb1⟩ := row_tats w0 n p l c n' p' l' c' _ rfl
  generalize hw1 : w0.alloc (.cells #[.int .i64 n, .slice p l c, .int .i64 n', .slice p' l' c'] 24) = w1 at t1 t2 hb1
  have h4 := h3.later hb1
  have hbel2 := below_on hbel hb1
  have HI : Hid (Is w x (TV n p l c) ∧ Is w y (TV n' p' l' c')) := ⟨hx, hy⟩
  have R := below_setRow hbel2 (g := w.heap.size + 1 + 1) (by omega) #[.int .i64 0, .slice (some ⟨w0.heap.size, 0, none⟩) 2 2]
  have hI : Is (w1.setRow (w.heap.size + 1 + 1) #[.int .i64 0, .slice (some ⟨w0.heap.size, 0, none⟩) 2 2]) (.node x y) (TV 0 (some ⟨w0.heap.size, 0, none⟩) 2 2) :=
    ⟨w0.heap.size, 0, 2, n, p, l, c, n', p', l', c', rfl, t1.box_lo h4 t2 _, t2.box_hi h4 _, (HI.out.1.later hbel2).box h4 _, (HI.out.2.later hbel2).box h4 _⟩
  clear hx hy hbel hb1 t1 t2 hbel2 HI
  go_enter Try.func43, Try.ntmps43
  go_wp2_with (first | rw [hw0] | rw [hw1] | refine load_t _ rfl rfl _ _ rfl h1.tat ?_ | refine load_t _ rfl rfl _ _ rfl h2.tat ?_ | refine store_t rfl _ _ rfl _ 0 (some ⟨w0.heap.size, 0, none⟩) 2 2 rfl rfl h4 ?_)
  exact bodyPost_ret (results_t rfl rfl (h4.row _ _ _ _)) rfl ⟨_, _, _, _, rfl, hI, R⟩

set_option maxRecDepth 100000 in
theorem refIsLeaf_any (n k : Int) (p : Option Addr) (l c : Nat) (w : World) :
    Calls Try.prog 31 #[TV n p l c, .int .i64 k] w fun e w' => e = .returned (.bool (decide (l = 0) && n == k)) ∧ Below w.heap.size w w' := by
  obtain ⟨h1, hbel⟩ := one_box w n p l c _ rfl
  have g0 := h1.cell0
  have g1 := h1.cell1
  by_cases e0 : l = 0
  · subst e0
    go_enter Try.func31, Try.ntmps31
    go_wp2
    go_ret
    exact ⟨by simp, hbel⟩
  · obtain ⟨z, HZ⟩ : ∃ z, Hid ((decide (l = 0) && n == k) = z) := ⟨_, rfl⟩
    rw [HZ.out]
    have HZ' : Hid (false = z) := by have := HZ.out; rw [show decide (l = 0) = false by simpa using e0] at this; exact this
    have f0 : ((l : Int) == 0) = false := by simpa using e0
    clear HZ e0
    go_enter Try.func31, Try.ntmps31
    go_wp2
    go_ret
    exact ⟨by rw [← HZ'.out]; rfl, hbel⟩
theorem refIsNil_is {x : ID} {n : Int} {p : Option Addr} {l c : Nat} {w0 : World} (h : Is w0 x (TV n p l c)) (w : World) : Calls Try.prog 31 #[TV n p l c, .int .i64 0] w fun e w' => e = .returned (.bool (nil x)) ∧ Below w.heap.size w w' := by
  have := refIsLeaf_any n 0 p l c w
  obtain ⟨rfl, rfl⟩ := is_parts h
  rwa [nil_eq] at this

set_option maxHeartbeats 1000000 in
set_option maxRecDepth 100000 in
theorem refRough_any : ∀ (t : Tr) (room : Nat) (n : Int) (p : Option Addr) (l c : Nat) (w : World), Lies w t (TV n p l c) → room ≤ 100 →
    Calls Try.prog 27 #[TV n p l c, .int .i64 room] w fun e w' => e = .returned (.bool (rough t room)) ∧ Below w.heap.size w w'
  | ⟨m, len, kids⟩, room, n, p, l, c, w, ⟨_, hl, p', c', e, hk⟩, hroom => by
    have RR : Hid (∀ (i : Nat) (hi : i < len) (n0 : Int) (p0 : Option Addr) (l0 c0 : Nat) (w1 : World), Lies w1 (kids ⟨i, hi⟩) (TV n0 p0 l0 c0) → Calls Try.prog 27 #[TV n0 p0 l0 c0, .int .i64 (room - 1 : Nat)] w1 fun e w' => e = .returned (.bool (rough (kids ⟨i, hi⟩) (room - 1))) ∧ Below w1.heap.size w1 w') := fun i hi n0 p0 l0 c0 w1 h => refRough_any (kids ⟨i, hi⟩) (room - 1) n0 p0 l0 c0 w1 h (by omega)
    simp at e
    obtain ⟨rfl, rfl, rfl, rfl⟩ := e
    obtain ⟨h1, hbel⟩ := one_box w n p l c _ rfl
    have g0 := h1.cell0
    have g1 := h1.cell1
    obtain ⟨z, HZ⟩ : ∃ z, Hid (rough ⟨n, l, kids⟩ room = z) := ⟨_, rfl⟩
    rw [HZ.out]
    have HK : Hid (0 < l → ∃ g o, p = some ⟨g, o, none⟩ ∧ ∀ i, (hi : i < l) → ∃ n0 p0 l0 c0, Tat w g (o + i * 2) n0 p0 l0 c0 ∧ Lies w (kids ⟨i, hi⟩) (TV n0 p0 l0 c0)) := hk
    clear hk
    unfold rough at HZ
    by_cases e0 : l = 0
    · subst e0
      have HZ' : Hid ((n == 0 || n == 1) = z) := by have := HZ.out; simp at this; exact this
      clear HZ
      by_cases en : n = 0
      · subst en
        go_enter Try.func27, Try.ntmps27
        go_wp2
        go_ret
        exact ⟨by rw [← HZ'.out]; rfl, hbel⟩
      · go_enter Try.func27, Try.ntmps27
        go_wp2
        go_ret
        exact ⟨by rw [← HZ'.out]; simp, hbel⟩
    · by_cases e2 : l = 2
      · subst e2
        obtain ⟨g, o, rfl, hks⟩ := HK.out (by decide)
        obtain ⟨n0, p0, l0, c0, t0, k0⟩ := hks 0 (by decide)
        obtain ⟨n1, p1, l1, c1, t1, k1⟩ := hks 1 (by decide)
        have HZ' : Hid ((n == 0 && decide (0 < room) && rough (kids ⟨0, by decide⟩) (room - 1) && rough (kids ⟨1, by decide⟩) (room - 1)) = z) := by have := HZ.out; rw [if_neg (by decide), dif_pos rfl] at this; exact this
        have r0 := fun w1 (hb : Below w.heap.size w w1) => RR.out 0 (by decide) n0 p0 l0 c0 w1 (k0.later hb)
        have r1 := fun w1 (hb : Below w.heap.size w w1) => RR.out 1 (by decide) n1 p1 l1 c1 w1 (k1.later hb)
        clear HZ HK hks k0 k1
        simp only [Nat.zero_mul, Nat.add_zero, Nat.one_mul] at t0 t1
        by_cases en : n = 0
        · subst en
          by_cases er : 0 < room
          · have ei : (0 : Int) < (room : Int) := by omega
            have es : ((room - 1 : Nat) : Int) = (room : Int) - 1 := by omega
            rw [es] at r0 r1
            have HZ'' : Hid ((rough (kids ⟨0, by decide⟩) (room - 1) && rough (kids ⟨1, by decide⟩) (room - 1)) = z) := by have := HZ'.out; rw [show decide (0 < room) = true by simpa using er] at this; exact this
            generalize rough (kids ⟨0, by decide⟩) (room - 1) = b0 at r0 HZ''
            generalize rough (kids ⟨1, by decide⟩) (room - 1) = b1 at r1 HZ''
            clear HZ' es
            have tt0 := t0.later hbel
            go_enter Try.func27, Try.ntmps27
            go_wp2_with (refine load_t _ rfl rfl _ _ rfl tt0 ?_)
            refine (r0 _ hbel).mono ?_
            rintro e w1 ⟨rfl, hb1⟩
            have hbel1 := below_on hbel hb1
            cases b0
            · clear t0 t1 tt0 r0 r1
              go_wp2
              go_ret
              exact ⟨by rw [← HZ''.out]; rfl, hbel1⟩
            · have g2 := cell_later hb1 g1
              have tt1 := t1.later hbel1
              clear t0 t1 tt0 r0 g0 g1
              go_wp2_with (refine load_t _ rfl rfl _ _ rfl tt1 ?_)
              refine (r1 _ hbel1).mono ?_
              rintro e w2 ⟨rfl, hb2⟩
              have hbel2 := below_on hbel1 hb2
              clear tt1 r1 g2
              go_wp2
              go_ret
              exact ⟨by rw [← HZ''.out]; rfl, hbel2⟩
          · have ei : ¬ (0 : Int) < (room : Int) := by omega
            have HZ'' : Hid (false = z) := by have := HZ'.out; simp [er] at this; rw [this]; rfl
            clear HZ' r0 r1 t0 t1 er
            go_enter Try.func27, Try.ntmps27
            go_wp2
            go_ret
            exact ⟨by rw [← HZ''.out]; rfl, hbel⟩
        · have HZ'' : Hid (false = z) := by have := HZ'.out; rw [show (n == 0) = false by simpa using en] at this; exact this
          clear HZ' r0 r1 t0 t1
          go_enter Try.func27, Try.ntmps27
          go_wp2
          go_ret
          exact ⟨by rw [← HZ''.out]; rfl, hbel⟩
      · have HZ'' : Hid (false = z) := by have := HZ.out; rw [if_neg e0, dif_neg e2] at this; exact this
        have f0 : ¬ (l : Int) = 0 := by omega
        have f2 : ¬ (l : Int) = 2 := by omega
        clear HZ HK e0 e2
        go_enter Try.func27, Try.ntmps27
        go_wp2
        go_ret
        exact ⟨by rw [← HZ''.out]; rfl, hbel⟩

end Go.Proofs.Ytdbkjafjanhhbaa
