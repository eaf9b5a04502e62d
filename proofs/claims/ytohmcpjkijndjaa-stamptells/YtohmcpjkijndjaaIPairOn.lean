import Derived.Test.YtohmcpjkijndjaaFactsGOn
/- Binary trees: what is made of two (mk), made shorter (norm); the functions pair, isShort of package idtree. -/
namespace Go.Proofs.Ytohmcpjkijndjaa.Idn
open Go.RowKit

def lf : ID → Bool
  | ⟨.inl _⟩ => true
  | ⟨.inr (_, _)⟩ => false
def num : ID → Int
  | ⟨.inl b⟩ => bi b
  | ⟨.inr (_, _)⟩ => 0
def len : ID → Nat
  | ⟨.inl _⟩ => 0
  | ⟨.inr (_, _)⟩ => 2
/-- Both leaves of one number. -/
def tw : ID → ID → Bool
  | ⟨.inl a⟩, ⟨.inl b⟩ => a == b
  | _, _ => false
/-- What is made of two. -/
def mk (x y : ID) : ID := if tw x y then x else .node x y

theorem is_tv {w : World} : ∀ {x : ID} {v : Value}, Is w x v → ∃ p c, v = TV (num x) p (len x) c
  | ⟨.inl _⟩, _, h => h
  | ⟨.inr (_, _)⟩, _, ⟨g, o, c, _, _, _, _, _, _, _, _, e, _⟩ => ⟨some ⟨g, o, none⟩, c, e⟩
theorem is_parts {w : World} {x : ID} {n : Int} {p : Option Addr} {l c : Nat} (h : Is w x (TV n p l c)) : n = num x ∧ l = len x := by
  obtain ⟨p', c', e⟩ := is_tv h
  simp at e
  exact ⟨e.1, e.2.2.1⟩
theorem len_lf (x : ID) : decide (len x = 0) = lf x := by rcases x with ⟨_ | ⟨_, _⟩⟩ <;> rfl
theorem bi_eq (a b : Bool) : (bi a == bi b) = (a == b) := by cases a <;> cases b <;> rfl
theorem bi_zero (a : Bool) : (bi a == 0) = !a := by cases a <;> rfl
theorem tw_eq (x y : ID) : (decide (len x = 0) && decide (len y = 0) && num x == num y) = tw x y := by
  rcases x with ⟨_ | ⟨_, _⟩⟩ <;> rcases y with ⟨_ | ⟨_, _⟩⟩ <;> simp [len, num, tw, bi_eq]
theorem is_leaf (w : World) (b : Bool) (p : Option Addr) (c : Nat) : Is w (.leaf b) (TV (bi b) p 0 c) := ⟨p, c, rfl⟩

/-- The call answers the tree x. -/
abbrev Gives (x : ID) (w : World) (e : Ending) (w' : World) : Prop := ∃ n p l c, e = .returned (TV n p l c) ∧ Is w' x (TV n p l c) ∧ Below w.heap.size w w'

theorem row_tats (w : World) (n : Int) (p : Option Addr) (l c : Nat) (n' : Int) (p' : Option Addr) (l' c' : Nat) : ∀ w0, w0 = w.alloc (.cells #[.int .i64 n, .slice p l c, .int .i64 n', .slice p' l' c'] 24) →
    Tat w0 w.heap.size 0 n p l c ∧ Tat w0 w.heap.size 2 n' p' l' c' ∧ Below w.heap.size w w0 := by
  rintro w0 rfl
  have h := heap_alloc_last w (.cells #[.int .i64 n, .slice p l c, .int .i64 n', .slice p' l' c'] 24)
  refine ⟨⟨?_, ?_⟩, ⟨?_, ?_⟩, (Below.refl _ _).alloc (Nat.le_refl _) _⟩
  all_goals rw [cell_of_row _ _ _ _ 24 (0, 0) h]; rfl

set_option maxHeartbeats 1000000 in
set_option maxRecDepth 100000 in
theorem pair_any (x y : ID) (n : Int) (p : Option Addr) (l c : Nat) (n' : Int) (p' : Option Addr) (l' c' : Nat) (w : World) (hx : Is w x (TV n p l c)) (hy : Is w y (TV n' p' l' c')) :
    Calls Try.prog 88 #[TV n p l c, TV n' p' l' c'] w (Gives (mk x y) w) := by
  obtain ⟨h1, h2, h3, hbel⟩ := three_box w n p l c n' p' l' c' 0 none 0 0 _ rfl
  have HX : Hid (n = num x ∧ l = len x) := is_parts hx
  have HY : Hid (n' = num y ∧ l' = len y) := is_parts hy
  have ht : (decide (l = 0) && decide (l' = 0) && n == n') = tw x y := by rw [HX.out.1, HX.out.2, HY.out.1, HY.out.2, tw_eq]
  obtain ⟨z, HZ⟩ : ∃ z, Hid (mk x y = z) := ⟨_, rfl⟩
  rw [HZ.out]
  generalize hw0 : ((w.alloc (.cells #[.int .i64 n, .slice p l c] 24)).alloc (.cells #[.int .i64 n', .slice p' l' c'] 24)).alloc (.cells #[.int .i64 0, .slice none 0 0] 24) = w0 at h1 h2 h3 hbel
  obtain ⟨t1, t2, hb1⟩ := row_tats w0 n p l c n' p' l' c' _ rfl
  have hC := alike_any w0.heap.size 0 2 n p l c n' p' l' c' _ t1 t2
  rw [ht] at hC
  clear ht
  obtain ⟨r, HT⟩ : ∃ r, Hid (tw x y = r) := ⟨_, rfl⟩
  rw [HT.out] at hC
  have HI : Hid (Is w x (TV n p l c) ∧ Is w y (TV n' p' l' c')) := ⟨hx, hy⟩
  clear hx hy
  go_enter Try.func88, Try.ntmps88
  go_wp2_with (first | rw [hw0] | refine load_t _ rfl rfl _ _ rfl h1.tat ?_ | refine load_t _ rfl rfl _ _ rfl h2.tat ?_)
  refine hC.mono ?_
  rintro e w1 ⟨rfl, hb2⟩
  have c1 := ((h1.later hb1).later hb2).cell0
  have h4 := (h3.later hb1).later hb2
  have hbel2 := below_on (below_on hbel hb1) hb2
  replace t1 := t1.later hb2
  replace t2 := t2.later hb2
  clear hC hbel hb1 hb2 h1 h2 h3
  cases r
  · have R := below_setRow hbel2 (g := w.heap.size + 1 + 1) (by omega) #[.int .i64 0, .slice (some ⟨w0.heap.size, 0, none⟩) 2 2]
    have hI : Is (w1.setRow (w.heap.size + 1 + 1) #[.int .i64 0, .slice (some ⟨w0.heap.size, 0, none⟩) 2 2]) z (TV 0 (some ⟨w0.heap.size, 0, none⟩) 2 2) := by
      rw [← HZ.out, mk, HT.out]
      exact ⟨w0.heap.size, 0, 2, n, p, l, c, n', p', l', c', rfl, t1.box_lo h4 t2 _, t2.box_hi h4 _, (HI.out.1.later hbel2).box h4 _, (HI.out.2.later hbel2).box h4 _⟩
    go_wp2_with (refine store_t rfl _ _ rfl _ 0 (some ⟨w0.heap.size, 0, none⟩) 2 2 rfl rfl h4 ?_)
    exact bodyPost_ret (results_t rfl rfl (h4.row _ _ _ _)) rfl ⟨_, _, _, _, rfl, hI, R⟩
  · go_wp2_with fail
    refine (leaf_any n _).mono ?_
    rintro e w2 ⟨rfl, hb3⟩
    replace h4 := h4.later hb3
    have R := below_setRow (below_on hbel2 hb3) (g := w.heap.size + 1 + 1) (by omega) #[.int .i64 n, .slice none 0 0]
    have hI : Is (w2.setRow (w.heap.size + 1 + 1) #[.int .i64 n, .slice none 0 0]) z (TV n none 0 0) := by
      rw [← HZ.out, mk, HT.out]
      have h5 := HT.out
      rcases x with ⟨b | ⟨_, _⟩⟩
      · rw [HX.out.1]; exact is_leaf _ _ _ _
      · simp [tw] at h5
    clear c1 hbel2 hb3
    go_wp2_with (refine store_t rfl _ _ rfl _ n none 0 0 rfl rfl h4 ?_)
    exact bodyPost_ret (results_t rfl rfl (h4.row _ _ _ _)) rfl ⟨_, _, _, _, rfl, hI, R⟩
end Go.Proofs.Ytohmcpjkijndjaa.Idn
/- The functions isRough, isShort and Check of package idtree. -/
namespace Go.Proofs.Ytohmcpjkijndjaa.Idn
open Go.RowKit

set_option maxHeartbeats 1000000 in
set_option maxRecDepth 100000 in
theorem isRough_any : ∀ (t : Tr) (room : Nat) (n : Int) (p : Option Addr) (l c : Nat) (w : World), Lies w t (TV n p l c) → room ≤ 100 →
    Calls Try.prog 70 #[TV n p l c, .int .i64 room] w fun e w' => e = .returned (.bool (rough t room)) ∧ Below w.heap.size w w'
  | ⟨m, len, kids⟩, room, n, p, l, c, w, ⟨_, hl, p', c', e, hk⟩, hroom => by
    have RR : Hid (∀ (i : Nat) (hi : i < len) (n0 : Int) (p0 : Option Addr) (l0 c0 : Nat) (w1 : World), Lies w1 (kids ⟨i, hi⟩) (TV n0 p0 l0 c0) → Calls Try.prog 70 #[TV n0 p0 l0 c0, .int .i64 (room - 1 : Nat)] w1 fun e w' => e = .returned (.bool (rough (kids ⟨i, hi⟩) (room - 1))) ∧ Below w1.heap.size w1 w') := fun i hi n0 p0 l0 c0 w1 h => isRough_any (kids ⟨i, hi⟩) (room - 1) n0 p0 l0 c0 w1 h (by omega)
    simp at e
    obtain ⟨rfl, rfl, rfl, rfl⟩ := e
    obtain ⟨h1, hbel⟩ := one_box w n p l c _ rfl
    have g0 := h1.cell0
    have g1 := h1.cell1
    obtain ⟨z, HZ⟩ : ∃ z, Hid (rough ⟨n, l, kids⟩ room = z) := ⟨_, rfl⟩
    rw [HZ.out]
    have HK : Hid (0 < l → ∃ g o, p = some ⟨g, o, none⟩ ∧ ∀ i, (hi : i < l) → ∃ n0 p0 l0 c0, Tat w g (o + i * 2) n0 p0 l0 c0 ∧ Lies w (kids ⟨i, hi⟩) (TV n0 p0 l0 c0)) := hk
    clear hk
    unfold rough at HZ
    by_cases e0 : l = 0
    · subst e0
      have HZ' : Hid ((n == 0 || n == 1) = z) := by have := HZ.out; simp at this; exact this
      clear HZ
      by_cases en : n = 0
      · subst en
        go_enter Try.func70, Try.ntmps70
        go_wp2
        go_ret
        exact ⟨by rw [← HZ'.out]; rfl, hbel⟩
      · go_enter Try.func70, Try.ntmps70
        go_wp2
        go_ret
        exact ⟨by rw [← HZ'.out]; simp, hbel⟩
    · by_cases e2 : l = 2
      · subst e2
        obtain ⟨g, o, rfl, hks⟩ := HK.out (by decide)
        obtain ⟨n0, p0, l0, c0, t0, k0⟩ := hks 0 (by decide)
        obtain ⟨n1, p1, l1, c1, t1, k1⟩ := hks 1 (by decide)
        have HZ' : Hid ((n == 0 && decide (0 < room) && rough (kids ⟨0, by decide⟩) (room - 1) && rough (kids ⟨1, by decide⟩) (room - 1)) = z) := by have := HZ.out; rw [if_neg (by decide), dif_pos rfl] at this; exact this
        have r0 := fun w1 (hb : Below w.heap.size w w1) => RR.out 0 (by decide) n0 p0 l0 c0 w1 (k0.later hb)
        have r1 := fun w1 (hb : Below w.heap.size w w1) => RR.out 1 (by decide) n1 p1 l1 c1 w1 (k1.later hb)
        clear HZ HK hks k0 k1
        simp only [Nat.zero_mul, Nat.add_zero, Nat.one_mul] at t0 t1
        by_cases en : n = 0
        · subst en
          by_cases er : 0 < room
          · have ei : (0 : Int) < (room : Int) := by omega
            have es : ((room - 1 : Nat) : Int) = (room : Int) - 1 := by omega
            rw [es] at r0 r1
            have HZ'' : Hid ((rough (kids ⟨0, by decide⟩) (room - 1) && rough (kids ⟨1, by decide⟩) (room - 1)) = z) := by have := HZ'.out; rw [show decide (0 < room) = true by simpa using er] at this; exact this
            generalize rough (kids ⟨0, by decide⟩) (room - 1) = b0 at r0 HZ''
            generalize rough (kids ⟨1, by decide⟩) (room - 1) = b1 at r1 HZ''
            clear HZ' es
            have tt0 := t0.later hbel
            go_enter Try.func70, Try.ntmps70
            go_wp2_with (refine load_t _ rfl rfl _ _ rfl tt0 ?_)
            refine (r0 _ hbel).mono ?_
            rintro e w1 ⟨rfl, hb1⟩
            have hbel1 := below_on hbel hb1
            cases b0
            · clear t0 t1 tt0 r0 r1
              go_wp2
              go_ret
              exact ⟨by rw [← HZ''.out]; rfl, hbel1⟩
            · have g2 := cell_later hb1 g1
              have tt1 := t1.later hbel1
              clear t0 t1 tt0 r0 g0 g1
              go_wp2_with (refine load_t _ rfl rfl _ _ rfl tt1 ?_)
              refine (r1 _ hbel1).mono ?_
              rintro e w2 ⟨rfl, hb2⟩
              have hbel2 := below_on hbel1 hb2
              clear tt1 r1 g2
              go_wp2
              go_ret
              exact ⟨by rw [← HZ''.out]; rfl, hbel2⟩
          · have ei : ¬ (0 : Int) < (room : Int) := by omega
            have HZ'' : Hid (false = z) := by have := HZ'.out; simp [er] at this; rw [this]; rfl
            clear HZ' r0 r1 t0 t1 er
            go_enter Try.func70, Try.ntmps70
            go_wp2
            go_ret
            exact ⟨by rw [← HZ''.out]; rfl, hbel⟩
        · have HZ'' : Hid (false = z) := by have := HZ'.out; rw [show (n == 0) = false by simpa using en] at this; exact this
          clear HZ' r0 r1 t0 t1
          go_enter Try.func70, Try.ntmps70
          go_wp2
          go_ret
          exact ⟨by rw [← HZ''.out]; rfl, hbel⟩
      · have HZ'' : Hid (false = z) := by have := HZ.out; rw [if_neg e0, dif_neg e2] at this; exact this
        have f0 : ¬ (l : Int) = 0 := by omega
        have f2 : ¬ (l : Int) = 2 := by omega
        clear HZ HK e0 e2
        go_enter Try.func70, Try.ntmps70
        go_wp2
        go_ret
        exact ⟨by rw [← HZ''.out]; rfl, hbel⟩

theorem lies_is {w : World} : ∀ (x : ID) (v : Value), Is w x v → Lies w (toTr x) v
  | ⟨.inl b⟩, _, ⟨p, c, e⟩ => ⟨by cases b <;> decide, by decide, p, c, e, fun h => by omega⟩
  | ⟨.inr (x, y)⟩, _, ⟨g, o, c, n0, p0, l0, c0, n1, p1, l1, c1, e, h0, h1, hx, hy⟩ => by
    refine ⟨by decide, by decide, some ⟨g, o, none⟩, c, e, fun _ => ⟨g, o, rfl, fun i hi => ?_⟩⟩
    match i, hi with
    | 0, _ => exact ⟨n0, p0, l0, c0, by simpa using h0, by simpa using lies_is x _ hx⟩
    | 1, _ => exact ⟨n1, p1, l1, c1, by simpa using h1, by simpa using lies_is y _ hy⟩
theorem rough_to : ∀ (x : ID) (room : Nat), rough (toTr x) room = decide (depth x ≤ room)
  | ⟨.inl b⟩, room => by cases b <;> simp [toTr, rough, depth, bi]
  | ⟨.inr (x, y)⟩, room => by
    rw [toTr, rough, if_neg (by decide), dif_pos rfl, if_pos rfl, if_neg (by decide), rough_to x, rough_to y, depth]
    rw [Bool.eq_iff_iff]
    simp only [beq_self_eq_true, Bool.true_and, Bool.and_eq_true, decide_eq_true_eq]
    omega
theorem isRough_is (x : ID) (room : Nat) (n : Int) (p : Option Addr) (l c : Nat) (w : World) (h : Is w x (TV n p l c)) (hr : room ≤ 100) :
    Calls Try.prog 70 #[TV n p l c, .int .i64 room] w fun e w' => e = .returned (.bool (decide (depth x ≤ room))) ∧ Below w.heap.size w w' := by
  have := isRough_any (toTr x) room n p l c w (lies_is x _ h) hr
  rwa [rough_to] at this

/-- None in it has two leaves of one number as Kids. -/
def short : ID → Bool
  | ⟨.inl _⟩ => true
  | ⟨.inr (x, y)⟩ => !tw x y && short x && short y

set_option maxHeartbeats 1000000 in
set_option maxRecDepth 100000 in
theorem isShort_any : ∀ (x : ID) (n : Int) (p : Option Addr) (l c : Nat) (w : World), Is w x (TV n p l c) →
    Calls Try.prog 71 #[TV n p l c] w fun e w' => e = .returned (.bool (short x)) ∧ Below w.heap.size w w'
  | ⟨.inl b⟩, n, p, l, c, w, h => by
    obtain ⟨p', c', e⟩ := h
    simp at e
    obtain ⟨rfl, rfl, rfl, rfl⟩ := e
    obtain ⟨h1, hbel⟩ := one_box w (bi b) p 0 c _ rfl
    go_enter Try.func71, Try.ntmps71
    go_wp2_with (refine load_t _ rfl rfl _ _ rfl h1.tat ?_)
    refine (isLeaf_any _ p 0 c _).mono ?_
    rintro e w1 ⟨rfl, hb1⟩
    go_wp2
    go_ret
    exact ⟨rfl, below_on hbel hb1⟩
  | ⟨.inr (x, y)⟩, n, p, l, c, w, ⟨g, o, c', n0, p0, l0, c0, n1, p1, l1, c1, e, t0, t1, hx, hy⟩ => by
    simp at e
    obtain ⟨rfl, rfl, rfl, rfl⟩ := e
    obtain ⟨h1, hbel⟩ := one_box w 0 (some ⟨g, o, none⟩) 2 c _ rfl
    have r0 := fun w1 (hb : Below w.heap.size w w1) => isShort_any x n0 p0 l0 c0 w1 (hx.later hb)
    have r1 := fun w1 (hb : Below w.heap.size w w1) => isShort_any y n1 p1 l1 c1 w1 (hy.later hb)
    obtain ⟨e0, e1⟩ := is_parts hx
    obtain ⟨e2, e3⟩ := is_parts hy
    have hC := fun w1 (hb : Below w.heap.size w w1) => alike_any g o c n0 p0 l0 c0 n1 p1 l1 c1 w1 (t0.later hb) (t1.later hb)
    have et : (decide (l0 = 0) && decide (l1 = 0) && n0 == n1) = tw x y := by rw [e0, e1, e2, e3, tw_eq]
    rw [et] at hC
    clear e0 e1 e2 e3 et hx hy
    obtain ⟨z, HZ⟩ : ∃ z, Hid (short (.node x y) = z) := ⟨_, rfl⟩
    rw [HZ.out]
    unfold short at HZ
    generalize tw x y = b at hC HZ
    generalize short x = b0 at r0 HZ
    generalize short y = b1 at r1 HZ
    go_enter Try.func71, Try.ntmps71
    go_wp2_with (refine load_t _ rfl rfl _ _ rfl h1.tat ?_)
    refine (isLeaf_any 0 _ 2 c _).mono ?_
    rintro e w1 ⟨rfl, hb1⟩
    have g1 := (h1.later hb1).cell1
    replace hbel := below_on hbel hb1
    clear hb1 h1
    go_wp2_with fail
    refine (hC _ hbel).mono ?_
    rintro e w2 ⟨rfl, hb1⟩
    replace g1 := cell_later hb1 g1
    replace hbel := below_on hbel hb1
    clear hb1 hC
    cases b
    · have tt0 := t0.later hbel
      go_wp2_with (refine load_t _ rfl rfl _ _ rfl tt0 ?_)
      refine (r0 _ hbel).mono ?_
      rintro e w3 ⟨rfl, hb1⟩
      replace g1 := cell_later hb1 g1
      replace hbel := below_on hbel hb1
      clear hb1 r0 tt0
      cases b0
      · clear t0 t1 r1
        go_wp2
        go_ret
        exact ⟨by rw [← HZ.out]; rfl, hbel⟩
      · have tt1 := t1.later hbel
        clear t0 t1
        go_wp2_with (refine load_t _ rfl rfl _ _ rfl tt1 ?_)
        refine (r1 _ hbel).mono ?_
        rintro e w4 ⟨rfl, hb1⟩
        replace hbel := below_on hbel hb1
        clear hb1 r1 tt1
        go_wp2
        go_ret
        exact ⟨by rw [← HZ.out]; rfl, hbel⟩
    · clear t0 t1 r0 r1
      go_wp2
      go_ret
      exact ⟨by rw [← HZ.out]; rfl, hbel⟩

/-- It may be. -/
def ok (x : ID) : Bool := decide (depth x ≤ 16) && short x
def okT (t : Tr) : Bool := rough t 16 && short (idOf t)

set_option maxHeartbeats 1000000 in
set_option maxRecDepth 100000 in
theorem check_tr (t : Tr) (n : Int) (p : Option Addr) (l c : Nat) (w : World) (h : Lies w t (TV n p l c)) :
    Calls Try.prog 37 #[TV n p l c] w fun e w' => e = .returned (.bool (okT t)) ∧ Below w.heap.size w w' := by
  obtain ⟨h1, hbel⟩ := one_box w n p l c _ rfl
  have r0 := fun w1 (hb : Below w.heap.size w w1) => isRough_any t 16 n p l c w1 (h.later hb) (by omega)
  have r1 := fun w1 (hb : Below w.heap.size w w1) (hr : rough t 16 = true) => isShort_any (idOf t) n p l c w1 ((is_of_lies t 16 _ hr h).1.later hb)
  unfold okT
  generalize rough t 16 = b at r0 r1 ⊢
  generalize short (idOf t) = b1 at r1 ⊢
  clear h
  go_enter Try.func37, Try.ntmps37
  go_wp2_with (refine load_t _ rfl rfl _ _ rfl h1.tat ?_)
  refine (r0 _ hbel).mono ?_
  rintro e w1 ⟨rfl, hb1⟩
  replace h1 := h1.later hb1
  replace hbel := below_on hbel hb1
  cases b
  · go_wp2
    go_ret
    exact ⟨rfl, hbel⟩
  · go_wp2_with (refine load_t _ rfl rfl _ _ rfl h1.tat ?_)
    refine (r1 _ hbel trivial).mono ?_
    rintro e w2 ⟨rfl, hb2⟩
    go_wp2
    go_ret
    exact ⟨rfl, below_on hbel hb2⟩
theorem idOf_to : ∀ x : ID, idOf (toTr x) = x
  | ⟨.inl b⟩ => by cases b <;> rfl
  | ⟨.inr (x, y)⟩ => by rw [toTr, idOf, if_neg (by decide), dif_pos rfl, if_pos rfl, if_neg (by decide), idOf_to x, idOf_to y]
theorem okT_to (x : ID) : okT (toTr x) = ok x := by rw [okT, rough_to, idOf_to]; rfl
theorem check_any (x : ID) (n : Int) (p : Option Addr) (l c : Nat) (w : World) (h : Is w x (TV n p l c)) :
    Calls Try.prog 37 #[TV n p l c] w fun e w' => e = .returned (.bool (ok x)) ∧ Below w.heap.size w w' := by
  have := check_tr (toTr x) n p l c w (lies_is x _ h)
  rwa [okT_to] at this
end Go.Proofs.Ytohmcpjkijndjaa.Idn
/- Stamps, stamps at work and growths by value and in boxes; trees that do not lie in a box that is written; trees that are all new. Nothing of one function. -/
namespace Go.Proofs.Ytohmcpjkijndjaa
open Go.ChangeShapes Go.WideShapes Go.ChangeAt Go.RowKit

/-- The block b is a row of these cells. -/
def Rw (w : World) (b : Nat) (t : TypeId) (cs : Array Value) : Prop := w.heap[b]? = some (.cells cs t)
section
variable {w w' : World} {b : Nat} {t : TypeId} {cs : Array Value}
theorem Rw.lt (h : Rw w b t cs) : b < w.heap.size := (Array.getElem?_eq_some_iff.1 h).1
theorem rw_new (w : World) (t : TypeId) (cs : Array Value) : Rw (w.alloc (.cells cs t)) w.heap.size t cs := heap_alloc_last w _
theorem rw_next (w : World) {b : Nat} (hb : b = w.heap.size) (t : TypeId) (cs : Array Value) : Rw (w.alloc (.cells cs t)) b t cs := by subst hb; exact rw_new w t cs
theorem Rw.later (h : Rw w b t cs) (hb : Below w.heap.size w w') : Rw w' b t cs := (hb.block b h.lt).trans h
theorem Rw.alloc (h : Rw w b t cs) (x : Obj) : Rw (w.alloc x) b t cs := (Below.heap_alloc w x b h.lt).trans h
theorem Rw.row (h : Rw w b t cs) (cs' : Array Value) : Rw (w.setRow b cs') b t cs' := setRow_heap w b _ _ t (0, 0) h
theorem Rw.rowOther (h : Rw w b t cs) {q : Nat} (hne : b ≠ q) (cs' : Array Value) : Rw (w.setRow q cs') b t cs := (setRow_other w q b cs' hne).trans h
theorem Rw.cell (h : Rw w b t cs) (i : Nat) : w.cell? ⟨b, i, none⟩ = cs[i]? := cell_of_row _ _ i _ t (0, 0) h
theorem Rw.load (h : Rw w b t cs) {d : TypeDesc} (hd : d.isRow = true) (hu : Try.prog.underlying t = some d) (hi : (Try.prog.info? t).map (·.size) = some cs.size) : (loadVar t ⟨b, 0, none⟩).run Try.prog w = .ok (.agg cs) w :=
  run_loadVar_row w b t t _ (0, 0) d h hu (by cases d <;> first | rfl | exact hd) hi
theorem Rw.loadAt (h : Rw w b t cs) {d : TypeDesc} (hd : d.isRow = true) (hu : Try.prog.underlying t = some d) (hi : (Try.prog.info? t).map (·.size) = some cs.size) : (Instr.loadAt t (.pointer (some ⟨b, 0, none⟩))).run Try.prog w = .ok (.agg cs) w := by
  simp only [Instr.loadAt, Instr.sureAddr, Sem.run_bind, Sem.run_pure, Result.andThen_ok, h.load hd hu hi]
theorem Rw.store (h : Rw w b t cs) (cs' : Array Value) (hi : (Try.prog.info? t).map (·.size) = some cs'.size) (ho : cs.size = cs'.size) (h1 : cs'.all (·.oneCell') = true) : (Instr.storeAt t (.pointer (some ⟨b, 0, none⟩)) (.agg cs')).run Try.prog w = .ok () (w.setRow b cs') := by
  simp only [Instr.storeAt, Instr.sureAddr, Sem.run_bind, Sem.run_pure, Result.andThen]
  exact run_storeVar_row w b t t _ _ h hi ho h1
end

/-- A stamp by value, a stamp at work, a growth. -/
abbrev SV (n : Int) (p : Option Addr) (l c : Nat) (n' : Int) (p' : Option Addr) (l' c' : Nat) : Value := .agg #[.int .i64 n, .slice p l c, .int .i64 n', .slice p' l' c']
abbrev CH : Value := .func (.func 77) #[] #[]
abbrev WV (n : Int) (p : Option Addr) (l c : Nat) (n' : Int) (p' : Option Addr) (l' c' : Nat) : Value := .agg #[.int .i64 n, .slice p l c, .int .i64 n', .slice p' l' c', CH]
abbrev GV (n : Int) (p : Option Addr) (l c : Nat) (k m : Int) : Value := .agg #[.int .i64 n, .slice p l c, .int .i64 k, .int .i64 m]
abbrev Sx (w : World) (b : Nat) (n : Int) (p : Option Addr) (l c : Nat) (n' : Int) (p' : Option Addr) (l' c' : Nat) : Prop := Rw w b 26 #[.int .i64 n, .slice p l c, .int .i64 n', .slice p' l' c']
abbrev Wx (w : World) (b : Nat) (n : Int) (p : Option Addr) (l c : Nat) (n' : Int) (p' : Option Addr) (l' c' : Nat) : Prop := Rw w b 61 #[.int .i64 n, .slice p l c, .int .i64 n', .slice p' l' c', CH]
abbrev Gx (w : World) (b : Nat) (n : Int) (p : Option Addr) (l c : Nat) (k m : Int) : Prop := Rw w b 78 #[.int .i64 n, .slice p l c, .int .i64 k, .int .i64 m]
theorem size26 : (Try.prog.info? 26).map (·.size) = some 4 := by kernel_rfl
theorem size61 : (Try.prog.info? 61).map (·.size) = some 5 := by kernel_rfl
theorem size78 : (Try.prog.info? 78).map (·.size) = some 4 := by kernel_rfl
section
variable {w w' : World} {b : Nat} {n : Int} {p : Option Addr} {l c : Nat} {n' : Int} {p' : Option Addr} {l' c' : Nat} {k m : Int}
theorem tat_of (h : w.cell? ⟨b, 0, none⟩ = some (.int .i64 n)) (h' : w.cell? ⟨b, 1, none⟩ = some (.slice p l c)) : Tat w b 0 n p l c := ⟨h, h'⟩
theorem Sx.tat0 (h : Sx w b n p l c n' p' l' c') : Tat w b 0 n p l c := ⟨h.cell 0, h.cell 1⟩
theorem Sx.tat1 (h : Sx w b n p l c n' p' l' c') : Tat w b 2 n' p' l' c' := ⟨h.cell 2, h.cell 3⟩
theorem Wx.tat0 (h : Wx w b n p l c n' p' l' c') : Tat w b 0 n p l c := ⟨h.cell 0, h.cell 1⟩
theorem Wx.tat1 (h : Wx w b n p l c n' p' l' c') : Tat w b 2 n' p' l' c' := ⟨h.cell 2, h.cell 3⟩
theorem Gx.tat0 (h : Gx w b n p l c k m) : Tat w b 0 n p l c := ⟨h.cell 0, h.cell 1⟩
theorem Sx.loadAt' (h : Sx w b n p l c n' p' l' c') : (Instr.loadAt 26 (.pointer (some ⟨b, 0, none⟩))).run Try.prog w = .ok (SV n p l c n' p' l' c') w := h.loadAt rfl Try.underlying26 size26
theorem Wx.loadAt' (h : Wx w b n p l c n' p' l' c') : (Instr.loadAt 61 (.pointer (some ⟨b, 0, none⟩))).run Try.prog w = .ok (WV n p l c n' p' l' c') w := h.loadAt rfl Try.underlying61 size61
theorem Gx.loadAt' (h : Gx w b n p l c k m) : (Instr.loadAt 78 (.pointer (some ⟨b, 0, none⟩))).run Try.prog w = .ok (GV n p l c k m) w := h.loadAt rfl Try.underlying78 size78
end
section
variable {ops : Array Oper} {rest : List Oper} {op : Oper} {a : Act} {w : World} {Q : Exit → Act → World → Prop}
theorem load_s (x : Operand) (ho : op.op = .load 26 x) (hw : Region.wanted op (yielded ops a.tmps) = true) (b : Nat) (hx : a.eval x = .pointer (some ⟨b, 0, none⟩)) {n : Int} {p : Option Addr} {l c : Nat} {n' : Int} {p' : Option Addr} {l' c' : Nat} (hc : Sx w b n p l c n' p' l' c')
    (h : wpList Try.prog ops Q rest (a.put op.dst (SV n p l c n' p' l' c')) w) : wpList Try.prog ops Q (op :: rest) a w :=
  BigFrame.wpList_want hw fun _ hK => by
    unfold Oper.wp execOp
    simp only [ho, hx, Sem.run_bind, hc.loadAt', Result.andThen_ok, Sem.run_pure]
    exact hK _ _ h
theorem load_w (x : Operand) (ho : op.op = .load 61 x) (hw : Region.wanted op (yielded ops a.tmps) = true) (b : Nat) (hx : a.eval x = .pointer (some ⟨b, 0, none⟩)) {n : Int} {p : Option Addr} {l c : Nat} {n' : Int} {p' : Option Addr} {l' c' : Nat} (hc : Wx w b n p l c n' p' l' c')
    (h : wpList Try.prog ops Q rest (a.put op.dst (WV n p l c n' p' l' c')) w) : wpList Try.prog ops Q (op :: rest) a w :=
  BigFrame.wpList_want hw fun _ hK => by
    unfold Oper.wp execOp
    simp only [ho, hx, Sem.run_bind, hc.loadAt', Result.andThen_ok, Sem.run_pure]
    exact hK _ _ h
theorem load_g (x : Operand) (ho : op.op = .load 78 x) (hw : Region.wanted op (yielded ops a.tmps) = true) (b : Nat) (hx : a.eval x = .pointer (some ⟨b, 0, none⟩)) {n : Int} {p : Option Addr} {l c : Nat} {k m : Int} (hc : Gx w b n p l c k m)
    (h : wpList Try.prog ops Q rest (a.put op.dst (GV n p l c k m)) w) : wpList Try.prog ops Q (op :: rest) a w :=
  BigFrame.wpList_want hw fun _ hK => by
    unfold Oper.wp execOp
    simp only [ho, hx, Sem.run_bind, hc.loadAt', Result.andThen_ok, Sem.run_pure]
    exact hK _ _ h
theorem store_r (hgd : op.guard = none) (t : TypeId) (x y : Operand) (ho : op.op = .store t x y) (b : Nat) (cs' : Array Value) (hx : a.eval x = .pointer (some ⟨b, 0, none⟩)) (hy : a.eval y = .agg cs') {cs : Array Value} (hc : Rw w b t cs) (hi : (Try.prog.info? t).map (·.size) = some cs'.size) (hs : cs.size = cs'.size) (h1 : cs'.all (·.oneCell') = true)
    (h : wpList Try.prog ops Q rest (a.put op.dst undef) (w.setRow b cs')) : wpList Try.prog ops Q (op :: rest) a w :=
  wpList_plain hgd fun _ hK => by
    unfold Oper.wp execOp
    simp only [ho, hx, hy, Sem.run_bind, hc.store cs' hi hs h1, Result.andThen_ok, Sem.run_pure]
    exact hK _ _ h
theorem store_s (hgd : op.guard = none) (x y : Operand) (ho : op.op = .store 26 x y) (b : Nat) (n : Int) (p : Option Addr) (l c : Nat) (n' : Int) (p' : Option Addr) (l' c' : Nat) (hx : a.eval x = .pointer (some ⟨b, 0, none⟩)) (hy : a.eval y = SV n p l c n' p' l' c') {n0 : Int} {p0 : Option Addr} {l0 c0 : Nat} {n1 : Int} {p1 : Option Addr} {l1 c1 : Nat} (hc : Sx w b n0 p0 l0 c0 n1 p1 l1 c1)
    (h : wpList Try.prog ops Q rest (a.put op.dst undef) (w.setRow b #[.int .i64 n, .slice p l c, .int .i64 n', .slice p' l' c'])) : wpList Try.prog ops Q (op :: rest) a w :=
  store_r hgd 26 x y ho b _ hx hy hc size26 rfl (by simp [Value.oneCell']) h
theorem store_w (hgd : op.guard = none) (x y : Operand) (ho : op.op = .store 61 x y) (b : Nat) (n : Int) (p : Option Addr) (l c : Nat) (n' : Int) (p' : Option Addr) (l' c' : Nat) (hx : a.eval x = .pointer (some ⟨b, 0, none⟩)) (hy : a.eval y = WV n p l c n' p' l' c') {cs : Array Value} (hc : Rw w b 61 cs) (hs : cs.size = 5)
    (h : wpList Try.prog ops Q rest (a.put op.dst undef) (w.setRow b #[.int .i64 n, .slice p l c, .int .i64 n', .slice p' l' c', CH])) : wpList Try.prog ops Q (op :: rest) a w :=
  store_r hgd 61 x y ho b _ hx hy hc size61 hs (by simp [Value.oneCell']) h
theorem store_g (hgd : op.guard = none) (x y : Operand) (ho : op.op = .store 78 x y) (b : Nat) (n : Int) (p : Option Addr) (l c : Nat) (k m : Int) (hx : a.eval x = .pointer (some ⟨b, 0, none⟩)) (hy : a.eval y = GV n p l c k m) {n0 : Int} {p0 : Option Addr} {l0 c0 : Nat} {k0 m0 : Int} (hc : Gx w b n0 p0 l0 c0 k0 m0)
    (h : wpList Try.prog ops Q rest (a.put op.dst undef) (w.setRow b #[.int .i64 n, .slice p l c, .int .i64 k, .int .i64 m])) : wpList Try.prog ops Q (op :: rest) a w :=
  store_r hgd 78 x y ho b _ hx hy hc size78 rfl (by simp [Value.oneCell']) h
end
/-- Results that lie in such boxes. -/
theorem results_r {fn : Func} {t : Tmp} {ty : TypeId} (h : fn.results = #[.cell t ty]) {tmps : Array Value} {w : World} {b : Nat} {cs : Array Value} {d : TypeDesc} (hp : tmps.getD t undef = .pointer (some ⟨b, 0, none⟩)) (hc : Rw w b ty cs)
    (hd : d.isRow = true) (hu : Try.prog.underlying ty = some d) (hi : (Try.prog.info? ty).map (·.size) = some cs.size) : (results fn tmps).run Try.prog w = .ok (.agg cs) w := by
  have h2 := hc.load hd hu hi
  unfold results
  rw [h]
  simp only [List.mapM_toArray, List.mapM_cons, List.mapM_nil, hp, asAddr]
  simp [h2]
theorem results_s {fn : Func} {t : Tmp} (h : fn.results = #[.cell t 26]) {tmps : Array Value} {w : World} {b : Nat} {n : Int} {p : Option Addr} {l c : Nat} {n' : Int} {p' : Option Addr} {l' c' : Nat} (hp : tmps.getD t undef = .pointer (some ⟨b, 0, none⟩)) (hc : Sx w b n p l c n' p' l' c') :
    (results fn tmps).run Try.prog w = .ok (SV n p l c n' p' l' c') w := results_r h hp hc rfl Try.underlying26 size26
theorem results_w {fn : Func} {t : Tmp} (h : fn.results = #[.cell t 61]) {tmps : Array Value} {w : World} {b : Nat} {n : Int} {p : Option Addr} {l c : Nat} {n' : Int} {p' : Option Addr} {l' c' : Nat} (hp : tmps.getD t undef = .pointer (some ⟨b, 0, none⟩)) (hc : Wx w b n p l c n' p' l' c') :
    (results fn tmps).run Try.prog w = .ok (WV n p l c n' p' l' c') w := results_r h hp hc rfl Try.underlying61 size61
theorem results_g {fn : Func} {t : Tmp} (h : fn.results = #[.cell t 78]) {tmps : Array Value} {w : World} {b : Nat} {n : Int} {p : Option Addr} {l c : Nat} {k m : Int} (hp : tmps.getD t undef = .pointer (some ⟨b, 0, none⟩)) (hc : Gx w b n p l c k m) :
    (results fn tmps).run Try.prog w = .ok (GV n p l c k m) w := results_r h hp hc rfl Try.underlying78 size78
theorem results_se {fn : Func} {t u : Tmp} (h : fn.results = #[.cell t 26, .tmp u]) {tmps : Array Value} {w : World} {b : Nat} {n : Int} {p : Option Addr} {l c : Nat} {n' : Int} {p' : Option Addr} {l' c' : Nat} (hp : tmps.getD t undef = .pointer (some ⟨b, 0, none⟩)) (hc : Sx w b n p l c n' p' l' c') :
    (results fn tmps).run Try.prog w = .ok (.tuple #[SV n p l c n' p' l' c', tmps.getD u undef]) w := by
  have h2 := hc.load rfl Try.underlying26 size26
  unfold results
  rw [h]
  simp only [List.mapM_toArray, List.mapM_cons, List.mapM_nil, hp, asAddr]
  simp [h2]
theorem results_sse {fn : Func} {t u x : Tmp} (h : fn.results = #[.cell t 26, .cell u 26, .tmp x]) {tmps : Array Value} {w : World} {b : Nat} {n : Int} {p : Option Addr} {l c : Nat} {n' : Int} {p' : Option Addr} {l' c' : Nat} (hp : tmps.getD t undef = .pointer (some ⟨b, 0, none⟩)) (hc : Sx w b n p l c n' p' l' c')
    {b2 : Nat} {m : Int} {q : Option Addr} {k d : Nat} {m' : Int} {q' : Option Addr} {k' d' : Nat} (hp' : tmps.getD u undef = .pointer (some ⟨b2, 0, none⟩)) (hc' : Sx w b2 m q k d m' q' k' d') :
    (results fn tmps).run Try.prog w = .ok (.tuple #[SV n p l c n' p' l' c', SV m q k d m' q' k' d', tmps.getD x undef]) w := by
  have h2 := hc.load rfl Try.underlying26 size26
  have h3 := hc'.load rfl Try.underlying26 size26
  unfold results
  rw [h]
  simp only [List.mapM_toArray, List.mapM_cons, List.mapM_nil, hp, hp', asAddr]
  simp [h2, h3]

/-! What does not lie in a box. -/
/-- Below N both worlds are the same, but for the blocks q and q'. -/
def Ag (N q q' : Nat) (w w2 : World) : Prop := ∀ b, b < N → b ≠ q → b ≠ q' → w2.heap[b]? = w.heap[b]?
abbrev Z4 : Array Value := #[.int .i64 0, .slice none 0 0, .int .i64 0, .slice none 0 0]
theorem tat_same {w w2 : World} {g o : Nat} {n : Int} {p : Option Addr} {l c : Nat} (h : Tat w g o n p l c) (e : w2.heap[g]? = w.heap[g]?) : Tat w2 g o n p l c := by
  constructor
  · rw [World.cell?_of_block (w := w) e]; exact h.1
  · rw [World.cell?_of_block (w := w) e]; exact h.2
/-- In a box of two empty trees no row of a node with two trees of unlike content lies. -/
theorem zero_row {w : World} {q : Nat} (hq : Rw w q 26 Z4) {o : Nat} {n0 : Int} {p0 : Option Addr} {l0 c0 : Nat} {n1 : Int} {p1 : Option Addr} {l1 c1 : Nat} (h0 : Tat w q o n0 p0 l0 c0) (h1 : Tat w q (o + 2) n1 p1 l1 c1) : (n0 = 0 ∧ l0 = 0) ∧ (n1 = 0 ∧ l1 = 0) := by
  have a1 := h0.1
  have a2 := h0.2
  have a3 := h1.1
  have a4 := h1.2
  rw [hq.cell] at a1 a2 a3 a4
  match o with
  | 0 => simp at a1 a2 a3 a4; omega
  | 1 => simp at a1
  | 2 => simp at a3
  | 3 => simp at a1
  | o + 4 => simp at a1
theorem leaf_is {w : World} {x : EV} {n : Int} {p : Option Addr} {c : Nat} (h : Is w x (TV n p 0 c)) : x = .leaf n := by
  rcases x with ⟨m, ⟨⟩ | ⟨_, _⟩⟩
  · obtain ⟨p, c, e⟩ := h
    simp at e
    rw [e.1]
  · obtain ⟨g, o, c, n0, p0, l0, c0, n1, p1, l1, c1, e, _⟩ := h
    simp at e
theorem Is.off {w w2 : World} {q q' : Nat} (hq : Rw w q 26 Z4) (hq' : Rw w q' 26 Z4) (hA : Ag w.heap.size q q' w w2) : ∀ {x : EV} {v : Value}, short x = true → Is w x v → Is w2 x v
  | ⟨_, .inl _⟩, _, _, h => h
  | ⟨_, .inr (x, y)⟩, _, hs, ⟨g, o, c, n0, p0, l0, c0, n1, p1, l1, c1, e, h0, h1, hx, hy⟩ => by
    obtain ⟨_, ht, s0, s1⟩ := short_kids hs
    have ne : ∀ r, Rw w r 26 Z4 → g ≠ r := by
      rintro r hr rfl
      obtain ⟨⟨rfl, rfl⟩, rfl, rfl⟩ := zero_row hr h0 h1
      rw [leaf_is hx, leaf_is hy] at ht
      simp [tw] at ht
    have eg := hA g h0.lt (ne q hq) (ne q' hq')
    exact ⟨g, o, c, n0, p0, l0, c0, n1, p1, l1, c1, e, tat_same h0 eg, tat_same h1 eg, hx.off hq hq' hA s0, hy.off hq hq' hA s1⟩
theorem ag_row (w : World) (q : Nat) (cs : Array Value) : Ag w.heap.size q q w (w.setRow q cs) := fun b _ h _ => setRow_other w q b cs h
theorem Is.zrow {w : World} {q : Nat} (hq : Rw w q 26 Z4) {x : EV} {v : Value} (hs : short x = true) (h : Is w x v) (cs : Array Value) : Is (w.setRow q cs) x v := h.off hq hq (ag_row w q cs) hs
/-- A box of a growth is no row of trees. -/
theorem Is.grow {w : World} {q : Nat} {n : Int} {p : Option Addr} {l c : Nat} {k m : Int} (hq : Gx w q n p l c k m) (cs : Array Value) : ∀ {x : EV} {v : Value}, Is w x v → Is (w.setRow q cs) x v
  | ⟨_, .inl _⟩, _, h => h
  | ⟨_, .inr (x, y)⟩, _, ⟨g, o, c, n0, p0, l0, c0, n1, p1, l1, c1, e, h0, h1, hx, hy⟩ => by
    have ne : g ≠ q := by
      rintro rfl
      have a1 := h0.2
      have a2 := h1.2
      have a3 := h1.1
      rw [hq.cell] at a1 a2 a3
      match o with
      | 0 => simp at a2
      | 1 => simp at a1
      | 2 => simp at a3
      | 3 => simp at a1
      | o + 4 => simp at a1
    have eg := setRow_other w q g cs ne
    exact ⟨g, o, c, n0, p0, l0, c0, n1, p1, l1, c1, e, tat_same h0 eg, tat_same h1 eg, hx.grow hq cs, hy.grow hq cs⟩

/-- What holds by the blocks from N on alone. -/
def Nw (N : Nat) (w : World) (P : World → Prop) : Prop := ∀ w2, (∀ b, N ≤ b → b < w.heap.size → w2.heap[b]? = w.heap[b]?) → P w2
theorem Nw.here {N : Nat} {w : World} {P : World → Prop} (h : Nw N w P) : P w := h w fun _ _ _ => rfl
theorem Nw.later {N : Nat} {w w' : World} {P : World → Prop} (h : Nw N w P) (hb : Below w.heap.size w w') : Nw N w' P := fun w2 h2 => h w2 fun b h0 h1 => (h2 b h0 (Nat.lt_of_lt_of_le h1 hb.size)).trans (hb.block b h1)
theorem Nw.row {N : Nat} {w : World} {P : World → Prop} (h : Nw N w P) {q : Nat} (hq : q < N) (cs : Array Value) : Nw N (w.setRow q cs) P := fun w2 h2 => h w2 fun b h0 h1 => (h2 b h0 (by simpa using h1)).trans (setRow_other w q b cs (by omega))
theorem Nw.mono {N M : Nat} {w : World} {P : World → Prop} (h : Nw N w P) (hM : M ≤ N) : Nw M w P := fun w2 h2 => h w2 fun b h0 h1 => h2 b (by omega) h1
theorem Nw.nwTo {N : Nat} {w : World} {P Q : World → Prop} (h : Nw N w P) (hi : ∀ w, P w → Q w) : Nw N w Q := fun w2 h2 => hi w2 (h w2 h2)
end Go.Proofs.Ytohmcpjkijndjaa
namespace Go.Proofs.Ytohmcpjkijndjaa.Idn
theorem leaf_is {w : World} {x : ID} {n : Int} {p : Option Addr} {c : Nat} (h : Is w x (TV n p 0 c)) : ∃ b, x = .leaf b ∧ n = bi b := by
  rcases x with ⟨b | ⟨_, _⟩⟩
  · obtain ⟨p, c, e⟩ := h
    simp at e
    exact ⟨b, rfl, e.1⟩
  · obtain ⟨g, o, c, n0, p0, l0, c0, n1, p1, l1, c1, e, _⟩ := h
    simp at e
theorem Is.off {w w2 : World} {q q' : Nat} (hq : Rw w q 26 Z4) (hq' : Rw w q' 26 Z4) (hA : Ag w.heap.size q q' w w2) : ∀ {x : ID} {v : Value}, short x = true → Is w x v → Is w2 x v
  | ⟨.inl _⟩, _, _, h => h
  | ⟨.inr (x, y)⟩, _, hs, ⟨g, o, c, n0, p0, l0, c0, n1, p1, l1, c1, e, h0, h1, hx, hy⟩ => by
    have hs' : tw x y = false ∧ short x = true ∧ short y = true := by simpa [short, and_assoc] using hs
    obtain ⟨ht, s0, s1⟩ := hs'
    have ne : ∀ r, Rw w r 26 Z4 → g ≠ r := by
      rintro r hr rfl
      obtain ⟨⟨rfl, rfl⟩, rfl, rfl⟩ := zero_row hr h0 h1
      obtain ⟨b, rfl, e0⟩ := leaf_is hx
      obtain ⟨b', rfl, e1⟩ := leaf_is hy
      cases b <;> cases b' <;> simp [bi, tw] at e0 e1 ht
    have eg := hA g h0.lt (ne q hq) (ne q' hq')
    exact ⟨g, o, c, n0, p0, l0, c0, n1, p1, l1, c1, e, tat_same h0 eg, tat_same h1 eg, hx.off hq hq' hA s0, hy.off hq hq' hA s1⟩
theorem Is.zrow {w : World} {q : Nat} (hq : Rw w q 26 Z4) {x : ID} {v : Value} (hs : short x = true) (h : Is w x v) (cs : Array Value) : Is (w.setRow q cs) x v := h.off hq hq (ag_row w q cs) hs
end Go.Proofs.Ytohmcpjkijndjaa.Idn
