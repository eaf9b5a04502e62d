import Derived.Test.YtmcajjdijjcpkaaP22
import Derived.Test.YtmcajjdijjcpkaaQStampTells4
import Derived.Test.YtmcajjdijjcpkaaP19
/- Functions top and node of the document's answer for stamps, and Depth of trees of counts. -/
namespace Go.Proofs.Ytmcajjdijjcpkaa
open Go.RowKit
open Idn (ID)

set_option maxHeartbeats 4000000 in
set_option maxRecDepth 100000 in
theorem top_node (X Y : Int) (n : Int) (g o c : Nat) (n0 : Int) (p0 : Option Addr) (l0 c0 : Nat) (n1 : Int) (p1 : Option Addr) (l1 c1 : Nat) (w : World) (t0 : Tat w g o n0 p0 l0 c0) (t1 : Tat w g (o + 2) n1 p1 l1 c1)
    (bx : 0 ≤ X ∧ X ≤ 2147483648) (by_ : 0 ≤ Y ∧ Y ≤ 2147483648) (bn : 0 ≤ n ∧ n ≤ 2147483648)
    (r0 : ∀ w1, Below w.heap.size w w1 → Calls Try.prog 48 #[TV n0 p0 l0 c0] w1 (Tells (.int .i64 X) w1)) (r1 : ∀ w1, Below w.heap.size w w1 → Calls Try.prog 48 #[TV n1 p1 l1 c1] w1 (Tells (.int .i64 Y) w1)) :
    Calls Try.prog 48 #[TV n (some ⟨g, o, none⟩) 2 c] w (Tells (.int .i64 (n + max X Y)) w) := by
  obtain ⟨h1, hbel⟩ := one_box w n (some ⟨g, o, none⟩) 2 c _ rfl
  have g1 := h1.cell1
  obtain ⟨z, HZ⟩ : ∃ z, Hid (n + max X Y = z) := ⟨_, rfl⟩
  rw [HZ.out]
  go_enter Try.func48, Try.ntmps48
  go_wp2_with fail
  have g0 := h1.cell0
  replace t0 := t0.later hbel
  replace t1 := t1.later hbel
  by_cases hlt : X < Y
  · obtain rfl : n + Y = z := by rw [← HZ.out]; omega
    have hw : IntKind.i64.wrap (n + Y) = n + Y := by rw [IntKind.wrap_i64]; omega
    clear HZ bx by_ bn h1
    have hs : Calm.Stays (fun w' => w'.cell? ⟨w.heap.size, 0, none⟩ = some (.int .i64 n) ∧ w'.cell? ⟨w.heap.size, 1, none⟩ = some (.slice (some ⟨g, o, none⟩) 2 c) ∧ Tat w' g o n0 p0 l0 c0 ∧ Tat w' g (o + 2) n1 p1 l1 c1 ∧ Below w.heap.size w w') := fun wa wb h hb => ⟨cell_later hb h.1, cell_later hb h.2.1, h.2.2.1.later hb, h.2.2.2.1.later hb, below_on h.2.2.2.2 hb⟩
    refine Calm.region (by kernel_rfl) (by kernel_rfl) (fun w' => w'.cell? ⟨w.heap.size, 0, none⟩ = some (.int .i64 n) ∧ w'.cell? ⟨w.heap.size, 1, none⟩ = some (.slice (some ⟨g, o, none⟩) 2 c) ∧ Tat w' g o n0 p0 l0 c0 ∧ Tat w' g (o + 2) n1 p1 l1 c1 ∧ Below w.heap.size w w') ⟨g0, g1, t0.later (Below.refl _ _).drew, t1.later (Below.refl _ _).drew, hbel.drew⟩ ?_
    clear hbel t0 t1 g0 g1
    all_goals
      refine Calm.pure (v := ?_) (by rfl) ?_ ?_
      rotate_left
      focus (intro w hSw; go_simp <;> rfl)
      simp only [Act.put, List.setIfInBounds_toArray, List.set_cons_zero, List.set_cons_succ]
    all_goals
      refine Calm.pure (v := ?_) (by rfl) ?_ ?_
      rotate_left
      focus (intro w hSw; go_simp <;> rfl)
      simp only [Act.put, List.setIfInBounds_toArray, List.set_cons_zero, List.set_cons_succ]
    all_goals
      refine Calm.pure (v := ?_) (by rfl) ?_ ?_
      rotate_left
      focus (intro w hSw; go_simp <;> rfl)
      simp only [Act.put, List.setIfInBounds_toArray, List.set_cons_zero, List.set_cons_succ]
    all_goals
      refine Calm.pure (v := ?_) (by rfl) ?_ ?_
      rotate_left
      focus (intro w hSw; go_simp <;> rfl)
      simp only [Act.put, List.setIfInBounds_toArray, List.set_cons_zero, List.set_cons_succ]
    all_goals
      refine Calm.pure (v := ?_) (by rfl) ?_ ?_
      rotate_left
      focus (intro w hSw; go_simp <;> rfl)
      simp only [Act.put, List.setIfInBounds_toArray, List.set_cons_zero, List.set_cons_succ]
    all_goals
      refine Calm.loadT (by rfl) _ rfl rfl (fun _ h => by go_split_ands; first | assumption | exact Sx.tat0 (by assumption) | exact Sx.tat1 (by assumption)) ?_
      simp only [Act.put, List.setIfInBounds_toArray, List.set_cons_zero, List.set_cons_succ]
    all_goals
      refine Calm.call1s (by rfl) rfl rfl (by kernel_rfl) hs (fun w1 h => r0 w1 h.2.2.2.2) ?_
      simp only [Act.put, List.setIfInBounds_toArray, List.set_cons_zero, List.set_cons_succ]
    all_goals
      refine Calm.pure (v := ?_) (by rfl) ?_ ?_
      rotate_left
      focus (intro w hSw; go_simp <;> rfl)
      simp only [Act.put, List.setIfInBounds_toArray, List.set_cons_zero, List.set_cons_succ]
    all_goals
      refine Calm.pure (v := ?_) (by rfl) ?_ ?_
      rotate_left
      focus (intro w hSw; go_simp <;> rfl)
      simp only [Act.put, List.setIfInBounds_toArray, List.set_cons_zero, List.set_cons_succ]
    all_goals
      refine Calm.pure (v := ?_) (by rfl) ?_ ?_
      rotate_left
      focus (intro w hSw; go_simp <;> rfl)
      simp only [Act.put, List.setIfInBounds_toArray, List.set_cons_zero, List.set_cons_succ]
    all_goals
      refine Calm.loadT (by rfl) _ rfl rfl (fun _ h => by go_split_ands; first | assumption | exact Sx.tat0 (by assumption) | exact Sx.tat1 (by assumption)) ?_
      simp only [Act.put, List.setIfInBounds_toArray, List.set_cons_zero, List.set_cons_succ]
    all_goals
      refine Calm.call1s (by rfl) rfl rfl (by kernel_rfl) hs (fun w1 h => r1 w1 h.2.2.2.2) ?_
      simp only [Act.put, List.setIfInBounds_toArray, List.set_cons_zero, List.set_cons_succ]
    all_goals
      refine Calm.pure (v := ?_) (by rfl) ?_ ?_
      rotate_left
      focus (intro w hSw; go_simp <;> rfl)
      simp only [Act.put, List.setIfInBounds_toArray, List.set_cons_zero, List.set_cons_succ]
    all_goals
      refine Calm.pure (v := ?_) (by rfl) ?_ ?_
      rotate_left
      focus (intro w hSw; go_simp <;> rfl)
      simp only [Act.put, List.setIfInBounds_toArray, List.set_cons_zero, List.set_cons_succ]
    all_goals
      refine Calm.pure (v := ?_) (by rfl) ?_ ?_
      rotate_left
      focus (intro w hSw; go_simp <;> rfl)
      simp only [Act.put, List.setIfInBounds_toArray, List.set_cons_zero, List.set_cons_succ]
    all_goals
      rintro w9 ⟨_, _, _, _, hbel9⟩
      go_wp2
      go_ret
      exact ⟨rfl, hbel9⟩
  · obtain rfl : n + X = z := by rw [← HZ.out]; omega
    have hw : IntKind.i64.wrap (n + X) = n + X := by rw [IntKind.wrap_i64]; omega
    clear HZ bx by_ bn h1
    have hs : Calm.Stays (fun w' => w'.cell? ⟨w.heap.size, 0, none⟩ = some (.int .i64 n) ∧ w'.cell? ⟨w.heap.size, 1, none⟩ = some (.slice (some ⟨g, o, none⟩) 2 c) ∧ Tat w' g o n0 p0 l0 c0 ∧ Tat w' g (o + 2) n1 p1 l1 c1 ∧ Below w.heap.size w w') := fun wa wb h hb => ⟨cell_later hb h.1, cell_later hb h.2.1, h.2.2.1.later hb, h.2.2.2.1.later hb, below_on h.2.2.2.2 hb⟩
    refine Calm.region (by kernel_rfl) (by kernel_rfl) (fun w' => w'.cell? ⟨w.heap.size, 0, none⟩ = some (.int .i64 n) ∧ w'.cell? ⟨w.heap.size, 1, none⟩ = some (.slice (some ⟨g, o, none⟩) 2 c) ∧ Tat w' g o n0 p0 l0 c0 ∧ Tat w' g (o + 2) n1 p1 l1 c1 ∧ Below w.heap.size w w') ⟨g0, g1, t0.later (Below.refl _ _).drew, t1.later (Below.refl _ _).drew, hbel.drew⟩ ?_
    clear hbel t0 t1 g0 g1
    all_goals
      refine Calm.pure (v := ?_) (by rfl) ?_ ?_
      rotate_left
      focus (intro w hSw; go_simp <;> rfl)
      simp only [Act.put, List.setIfInBounds_toArray, List.set_cons_zero, List.set_cons_succ]
    all_goals
      refine Calm.pure (v := ?_) (by rfl) ?_ ?_
      rotate_left
      focus (intro w hSw; go_simp <;> rfl)
      simp only [Act.put, List.setIfInBounds_toArray, List.set_cons_zero, List.set_cons_succ]
    all_goals
      refine Calm.pure (v := ?_) (by rfl) ?_ ?_
      rotate_left
      focus (intro w hSw; go_simp <;> rfl)
      simp only [Act.put, List.setIfInBounds_toArray, List.set_cons_zero, List.set_cons_succ]
    all_goals
      refine Calm.pure (v := ?_) (by rfl) ?_ ?_
      rotate_left
      focus (intro w hSw; go_simp <;> rfl)
      simp only [Act.put, List.setIfInBounds_toArray, List.set_cons_zero, List.set_cons_succ]
    all_goals
      refine Calm.pure (v := ?_) (by rfl) ?_ ?_
      rotate_left
      focus (intro w hSw; go_simp <;> rfl)
      simp only [Act.put, List.setIfInBounds_toArray, List.set_cons_zero, List.set_cons_succ]
    all_goals
      refine Calm.loadT (by rfl) _ rfl rfl (fun _ h => by go_split_ands; first | assumption | exact Sx.tat0 (by assumption) | exact Sx.tat1 (by assumption)) ?_
      simp only [Act.put, List.setIfInBounds_toArray, List.set_cons_zero, List.set_cons_succ]
    all_goals
      refine Calm.call1s (by rfl) rfl rfl (by kernel_rfl) hs (fun w1 h => r0 w1 h.2.2.2.2) ?_
      simp only [Act.put, List.setIfInBounds_toArray, List.set_cons_zero, List.set_cons_succ]
    all_goals
      refine Calm.pure (v := ?_) (by rfl) ?_ ?_
      rotate_left
      focus (intro w hSw; go_simp <;> rfl)
      simp only [Act.put, List.setIfInBounds_toArray, List.set_cons_zero, List.set_cons_succ]
    all_goals
      refine Calm.pure (v := ?_) (by rfl) ?_ ?_
      rotate_left
      focus (intro w hSw; go_simp <;> rfl)
      simp only [Act.put, List.setIfInBounds_toArray, List.set_cons_zero, List.set_cons_succ]
    all_goals
      refine Calm.pure (v := ?_) (by rfl) ?_ ?_
      rotate_left
      focus (intro w hSw; go_simp <;> rfl)
      simp only [Act.put, List.setIfInBounds_toArray, List.set_cons_zero, List.set_cons_succ]
    all_goals
      refine Calm.loadT (by rfl) _ rfl rfl (fun _ h => by go_split_ands; first | assumption | exact Sx.tat0 (by assumption) | exact Sx.tat1 (by assumption)) ?_
      simp only [Act.put, List.setIfInBounds_toArray, List.set_cons_zero, List.set_cons_succ]
    all_goals
      refine Calm.call1s (by rfl) rfl rfl (by kernel_rfl) hs (fun w1 h => r1 w1 h.2.2.2.2) ?_
      simp only [Act.put, List.setIfInBounds_toArray, List.set_cons_zero, List.set_cons_succ]
    all_goals
      refine Calm.pure (v := ?_) (by rfl) ?_ ?_
      rotate_left
      focus (intro w hSw; go_simp <;> rfl)
      simp only [Act.put, List.setIfInBounds_toArray, List.set_cons_zero, List.set_cons_succ]
    all_goals
      refine Calm.pure (v := ?_) (by rfl) ?_ ?_
      rotate_left
      focus (intro w hSw; go_simp <;> rfl)
      simp only [Act.put, List.setIfInBounds_toArray, List.set_cons_zero, List.set_cons_succ]
    all_goals
      refine Calm.pure (v := ?_) (by rfl) ?_ ?_
      rotate_left
      focus (intro w hSw; go_simp <;> rfl)
      simp only [Act.put, List.setIfInBounds_toArray, List.set_cons_zero, List.set_cons_succ]
    all_goals
      rintro w9 ⟨_, _, _, _, hbel9⟩
      go_wp2
      go_ret
      exact ⟨rfl, hbel9⟩

set_option maxRecDepth 100000 in
theorem top_leaf (n : Int) (p : Option Addr) (c : Nat) (w : World) : Calls Try.prog 48 #[TV n p 0 c] w (Tells (.int .i64 n) w) := by
  obtain ⟨h1, hbel⟩ := one_box w n p 0 c _ rfl
  have g0 := h1.cell0
  have g1 := h1.cell1
  go_enter Try.func48, Try.ntmps48
  go_wp2
  go_ret
  exact ⟨rfl, hbel⟩
theorem top_any : ∀ (x : EV) (room : Nat) (left : Int) (n : Int) (p : Option Addr) (l c : Nat) (w : World), Is w x (TV n p l c) → rg x room left = true → left ≤ 1073741825 → Calls Try.prog 48 #[TV n p l c] w (Tells (.int .i64 (high x)) w)
  | ⟨m, .inl _⟩, room, left, n, p, l, c, w, ⟨p', c', e⟩, hr, hl => by
    simp at e
    obtain ⟨rfl, rfl, rfl, rfl⟩ := e
    exact top_leaf n p c w
  | ⟨m, .inr (x, y)⟩, room, left, n, p, l, c, w, ⟨g, o, c', n0, p0, l0, c0, n1, p1, l1, c1, e, t0, t1, hx, hy⟩, hr, hl => by
    obtain ⟨h1, h2, h3, h4⟩ := rg_kids hr
    have R0 := fun w1 (hb : Below w.heap.size w w1) => top_any x (room - 1) (left - m) n0 p0 l0 c0 w1 (hx.later hb) h3 (by omega)
    have R1 := fun w1 (hb : Below w.heap.size w w1) => top_any y (room - 1) (left - m) n1 p1 l1 c1 w1 (hy.later hb) h4 (by omega)
    have b0 := rg_high h3
    have b1 := rg_high h4
    simp at e
    obtain ⟨rfl, rfl, rfl, rfl⟩ := e
    exact top_node (high x) (high y) n g o c n0 p0 l0 c0 n1 p1 l1 c1 w t0 t1 (by omega) (by omega) (by omega) R0 R1
theorem bx_num {w : World} {b : Nat} {n : Int} {p : Option Addr} {l c : Nat} (h : Bx w b n p l c) (m : Int) : Bx (w.setCell ⟨b, 0, none⟩ (.int .i64 m)) b m p l c := by
  have := rw_setCell (t := 24) h 0 (.int .i64 m)
  simp at this
  exact this
theorem Is.boxCell {w : World} {q : Nat} {n : Int} {p : Option Addr} {l c : Nat} (hq : Bx w q n p l c) (u : Value) : ∀ {x : EV} {v : Value}, Is w x v → Is (w.setCell ⟨q, 0, none⟩ u) x v
  | ⟨_, .inl _⟩, _, h => h
  | ⟨_, .inr (x, y)⟩, _, ⟨g, o, c, n0, p0, l0, c0, n1, p1, l1, c1, e, h0, h1, hx, hy⟩ => by
    have ne : g ≠ q := by
      rintro rfl
      have a3 := h1.1
      rw [Rw.cell (t := 24) hq] at a3
      match o with
      | 0 => simp at a3
      | o + 1 => simp at a3
    have eg := Below.heap_setCell w ⟨q, 0, none⟩ u g ne
    exact ⟨g, o, c, n0, p0, l0, c0, n1, p1, l1, c1, e, tat_same h0 eg, tat_same h1 eg, hx.boxCell hq u, hy.boxCell hq u⟩
theorem refNormE_any (x : EV) (n : Int) (p : Option Addr) (l c : Nat) (w : World) (h : Is w x (TV n p l c)) (hd : rg x 16 1073741824 = true) : Calls Try.prog 107 #[TV n p l c] w (GivesE (norm x) 0 w) := by
  have := refNorm_tr (toTr x) n p l c w (lies_is x 16 1073741824 _ hd (by omega) h)
  rw [nrmX, nrmE, rough_to, evOf_to] at this
  simpa [hd] using this
set_option maxHeartbeats 4000000 in
set_option maxRecDepth 100000 in
theorem rnode_any (k : Int) (x y : EV) (n : Int) (p : Option Addr) (l c : Nat) (n' : Int) (p' : Option Addr) (l' c' : Nat) (w : World) (hx : Is w x (TV n p l c)) (hy : Is w y (TV n' p' l' c')) (hr : rg (.node 0 x y) 16 1073741824 = true) (hk : 0 ≤ k ∧ k ≤ 1073741824) :
    Calls Try.prog 82 #[.int .i64 k, TV n p l c, TV n' p' l' c'] w (Gives (lift (norm (.node 0 x y)) k) w) := by
  obtain ⟨b1, b2, b3, hbel⟩ := three_box w n p l c n' p' l' c' 0 none 0 0 _ rfl
  have r0 := fun w1 (hb : Below w.heap.size w w1) => inner_any 0 x y n p l c n' p' l' c' w1 (hx.later hb) (hy.later hb)
  have r1 := fun w1 n p l c (h : Is w1 (.node 0 x y) (TV n p l c)) => refNormE_any (.node 0 x y) n p l c w1 h hr
  have HN : Hid (0 ≤ (norm (.node 0 x y)).n ∧ (norm (.node 0 x y)).n ≤ 1073741824) := rg_n (rg_norm hr)
  clear hx hy hr
  generalize norm (.node 0 x y) = Z at r1 HN ⊢
  go_enter Try.func82, Try.ntmps82
  go_wp2_with (first | refine load_t _ rfl rfl _ _ rfl b1.tat ?_ | refine load_t _ rfl rfl _ _ rfl b2.tat ?_)
  refine (r0 _ hbel).mono ?_
  rintro e w1 ⟨ni, pi, li, ci, rfl, ii, hb1⟩
  replace b3 := b3.later hb1
  replace hbel := below_on hbel hb1
  clear hb1 r0 b1 b2
  go_wp2_with fail
  refine (r1 _ _ _ _ _ ii).mono ?_
  rintro e w2 ⟨nz, pz, lz, cz, rfl, iz, hb1⟩
  replace b3 := b3.later hb1
  replace hbel := below_on hbel hb1
  clear hb1 r1 ii
  obtain ⟨e1, e2⟩ := is_parts iz
  have hz : 0 ≤ nz ∧ nz ≤ 1073741824 := by rw [e1]; exact HN.out
  clear e1 e2 HN
  have m0 := bx_new w2 0 none 0 0
  have bz := new_box w2 nz pz lz cz
  have hb1 := new_below w2 nz pz lz cz
  generalize hw : (w2.alloc (.cells #[.int .i64 0, .slice none 0 0] 24)).setRow w2.heap.size #[.int .i64 nz, .slice pz lz cz] = v at bz hb1
  have hlt := b3.lt
  replace b3 := b3.later hb1
  replace iz := iz.later hb1
  replace hbel := below_on hbel hb1
  clear hb1
  have g0 := bz.cell0
  have gf := rw_frozen (t := 24) bz 0
  have bz6 := bx_num bz (nz + k)
  have iz6 := iz.boxCell bz (.int .i64 (nz + k))
  have b36 : Bx (v.setCell ⟨w2.heap.size, 0, none⟩ (.int .i64 (nz + k))) (w.heap.size + 1 + 1) 0 none 0 0 := (Below.heap_setCell v ⟨w2.heap.size, 0, none⟩ (.int .i64 (nz + k)) (w.heap.size + 1 + 1) (show _ ≠ w2.heap.size by omega)).trans b3
  have hbel6 : Below w.heap.size w (v.setCell ⟨w2.heap.size, 0, none⟩ (.int .i64 (nz + k))) := hbel.setCell (by show w.heap.size ≤ w2.heap.size; omega) _
  generalize hw6 : v.setCell ⟨w2.heap.size, 0, none⟩ (.int .i64 (nz + k)) = v6 at bz6 iz6 b36 hbel6
  have R := below_setRow hbel6 (g := w.heap.size + 1 + 1) (by omega) #[.int .i64 (nz + k), .slice pz lz cz]
  have iz7 := (is_lift k iz6).box b36 #[.int .i64 (nz + k), .slice pz lz cz]
  clear hbel6 iz6 hbel iz b3 hlt
  go_wp2_with (first | rw [hw] | rw [hw6] | refine store_t rfl _ _ rfl _ nz pz lz cz rfl rfl m0 ?_ | refine load_t _ rfl rfl _ _ rfl bz6.tat ?_ | refine store_t rfl _ _ rfl _ (nz + k) pz lz cz rfl rfl b36 ?_)
  exact bodyPost_ret (results_t rfl rfl (b36.row _ _ _ _)) rfl ⟨_, _, _, _, rfl, iz7, R⟩
theorem norm_n (n : Int) (x y : EV) : lift (norm (.node 0 x y)) n = norm (.node n x y) := by
  rw [norm, norm, lift_lift]
  congr 1
  omega
theorem rdepth_any : ∀ (x : EV) (most : Nat) (n : Int) (p : Option Addr) (l c : Nat) (w : World), Is w x (TV n p l c) → most ≤ 100 → depth x ≤ most → Calls Try.prog 49 #[TV n p l c, .int .i64 most] w (Tells (.int .i64 (depth x : Nat)) w)
  | ⟨m, .inl _⟩, most, n, p, l, c, w, ⟨p', c', e⟩, hm, hd => by
    simp at e
    obtain ⟨rfl, rfl, rfl, rfl⟩ := e
    exact Idn.refDepth_zero n p 0 c w most (.inl rfl) (by omega)
  | ⟨m, .inr (x, y)⟩, most, n, p, l, c, w, ⟨g, o, c', n0, p0, l0, c0, n1, p1, l1, c1, e, t0, t1, hx, hy⟩, hm, hd => by
    simp only [depth] at hd
    have R0 := fun w1 (hb : Below w.heap.size w w1) => rdepth_any x (most - 1) n0 p0 l0 c0 w1 (hx.later hb) (by omega) (by omega)
    have R1 := fun w1 (hb : Below w.heap.size w w1) => rdepth_any y (most - 1) n1 p1 l1 c1 w1 (hy.later hb) (by omega) (by omega)
    simp at e
    obtain ⟨rfl, rfl, rfl, rfl⟩ := e
    have := Idn.refDepth_node n most (depth x) (depth y) g o c n0 p0 l0 c0 n1 p1 l1 c1 w t0 t1 (by omega) hm (by omega) (by omega) R0 R1
    rwa [show max (1 + depth x) (1 + depth y) = depth (.node n x y) by simp only [depth]; omega] at this
end Go.Proofs.Ytmcajjdijjcpkaa
