import Derived.Test.YtmcajjdijjcpkaaP15
/- The method grownIn of a stamp at work. -/
namespace Go.Proofs.Ytmcajjdijjcpkaa
open Go.RowKit
open Idn (ID)

/-- A tree is stored at a place of a row. -/
theorem store_at {ops : Array Oper} {rest : List Oper} {op : Oper} {a : Act} {w : World} {Q : Exit → Act → World → Prop} (hgd : op.guard = none) (x y : Operand) (ho : op.op = .store 24 x y) (b o : Nat) (n : Int) (p : Option Addr) (l c : Nat) (hx : a.eval x = .pointer (some ⟨b, o, none⟩)) (hy : a.eval y = TV n p l c) (ht : w.there b o 2)
    (h : wpList Try.prog ops Q rest (a.put op.dst undef) (w.setCells b o [.int .i64 n, .slice p l c])) : wpList Try.prog ops Q (op :: rest) a w :=
  wpList_store_mid hgd 24 x y ho b o #[.int .i64 n, .slice p l c] hx hy ht size24 (by simp [Value.oneCell']) h
theorem tat_put {w : World} {q o : Nat} (ht : w.there q o 2) (n : Int) (p : Option Addr) (l c : Nat) : Tat (w.setCells q o [.int .i64 n, .slice p l c]) q o n p l c := by
  have h := World.rangeAt_setCells_same w q o [.int .i64 n, .slice p l c] ht
  exact ⟨h 0 _ rfl, h 1 _ rfl⟩
theorem tat_apart {w : World} {b o' : Nat} {n' : Int} {p' : Option Addr} {l' c' : Nat} (h : Tat w b o' n' p' l' c') {q o : Nat} (hap : b ≠ q ∨ o' + 2 ≤ o ∨ o + 2 ≤ o') (n : Int) (p : Option Addr) (l c : Nat) : Tat (w.setCells q o [.int .i64 n, .slice p l c]) b o' n' p' l' c' := by
  have h := World.rangeAt_setCells_apart h.range q o [.int .i64 n, .slice p l c] (by simpa using hap)
  exact ⟨h 0 _ rfl, h 1 _ rfl⟩
theorem below_put {B : Nat} {a w : World} (h : Below B a w) {q o : Nat} (hq : B ≤ q) (n : Int) (p : Option Addr) (l c : Nat) : Below B a (w.setCells q o [.int .i64 n, .slice p l c]) := by
  unfold World.setCells World.setCells World.setCells
  exact (h.setCell hq _).setCell hq _
theorem there_row {w : World} {q : Nat} {cur : Array Value} (h : Rw w q 24 cur) (o : Nat) (ho : o + 2 ≤ cur.size) : w.there q o 2 := fun j hj => by
  constructor
  · rw [h.cell, Array.getElem?_eq_getElem (by omega)]
    rfl
  · unfold Rw at h
    simp [World.frozen?, h]
theorem tat_take {w : World} {q : Nat} {cur : Array Value} {n0 : Int} {p0 : Option Addr} {l0 c0 : Nat} {n1 : Int} {p1 : Option Addr} {l1 c1 : Nat} (h : Rw w q 24 cur) (ht : cur.toList.take 4 = [.int .i64 n0, .slice p0 l0 c0, .int .i64 n1, .slice p1 l1 c1]) : Tat w q 0 n0 p0 l0 c0 ∧ Tat w q 2 n1 p1 l1 c1 := by
  have e : ∀ j, j < 4 → cur[j]? = ([.int .i64 n0, .slice p0 l0 c0, .int .i64 n1, .slice p1 l1 c1] : List Value)[j]? := fun j hj => by
    rw [← ht, List.getElem?_take_of_lt hj, Array.getElem?_toList]
  refine ⟨⟨?_, ?_⟩, ?_, ?_⟩ <;> (rw [h.cell, e _ (by decide)]; rfl)

set_option maxHeartbeats 8000000 in
set_option maxRecDepth 100000 in
theorem grownIn0 (b : EV) (n : Int) (gk : Gw) (g o c g' o' c' : Nat) (m0 : Int) (q0 : Option Addr) (k0 j0 : Nat) (n0 : Int) (p0 : Option Addr) (l0 c0 : Nat) (n1 : Int) (p1 : Option Addr) (l1 c1 : Nat) (w : World)
    (u0 : Tat w g o m0 q0 k0 j0) (t0 : Tat w g' o' n0 p0 l0 c0) (t1 : Tat w g' (o' + 2) n1 p1 l1 c1) (hO : Is w b (TV n1 p1 l1 c1))
    (r0 : ∀ w1, Below w.heap.size w w1 → Calls Try.prog 81 #[WV m0 q0 k0 j0 n0 p0 l0 c0] w1 (GivesG gk w1)) (hn : 0 ≤ n ∧ n ≤ 1073741824) (hc : 0 ≤ gk.cost ∧ gk.cost ≤ 100000) (hm : 0 ≤ gk.count ∧ gk.count ≤ 1073741825) :
    Calls Try.prog 106 #[WV 0 (some ⟨g, o, none⟩) 2 c n (some ⟨g', o', none⟩) 2 c', .int .i64 0] w (GivesG (gA n b gk) w) := by
  obtain ⟨h1, h4, hbel⟩ := two_r w 60 #[.int .i64 0, .slice (some ⟨g, o, none⟩) 2 c, .int .i64 n, .slice (some ⟨g', o', none⟩) 2 c', CH] 78 #[.int .i64 0, .slice none 0 0, .int .i64 0, .int .i64 0] _ rfl
  have rh := fun w1 (hb : Below w.heap.size w w1) => half0 0 g o c n g' o' c' m0 q0 k0 j0 n0 p0 l0 c0 w1 (u0.later hb) (t0.later hb)
  have rc := fun w1 (hb : Below w.heap.size w w1) => clone2_any g' o' c' n0 p0 l0 c0 n1 p1 l1 c1 w1 (t0.later hb) (t1.later hb)
  obtain ⟨kc, HC⟩ : ∃ z, Hid (gk.cost = z) := ⟨_, rfl⟩
  obtain ⟨km, HM⟩ : ∃ z, Hid (gk.count = z) := ⟨_, rfl⟩
  obtain ⟨z, HZ⟩ : ∃ z, Hid ((gA n b gk : Gw) = z) := ⟨_, rfl⟩
  rw [HZ.out]
  have HO : Hid (Is w b (TV n1 p1 l1 c1)) := hO
  rw [HC.out] at hc
  rw [HM.out] at hm
  replace r0 : ∀ w1, Below w.heap.size w w1 → Calls Try.prog 81 #[WV m0 q0 k0 j0 n0 p0 l0 c0] w1 (fun e w' => ∃ n p l c, e = .returned (GV n p l c kc km) ∧ Is w' gk.ev (TV n p l c) ∧ Below w1.heap.size w1 w') := by
    rw [← HC.out, ← HM.out]
    exact r0
  clear u0 t0 t1 hO
  go_enter Try.func106, Try.ntmps106
  go_wp2_with (refine load_w _ rfl rfl _ rfl h1 ?_)
  refine (rh _ hbel).mono ?_
  rintro e1 w1 ⟨rfl, hb1⟩
  replace h1 := h1.later hb1
  replace h4 := h4.later hb1
  replace hbel := below_on hbel hb1
  clear hb1 rh
  go_wp2_with fail
  refine (r0 _ hbel).mono ?_
  rintro e1 w2 ⟨nk, pk, lk, ck, rfl, iK, hb1⟩
  replace h1 := h1.later hb1
  replace h4 := h4.later hb1
  replace hbel := below_on hbel hb1
  clear hb1 r0
  have m5 := rw_new w2 78 #[.int .i64 0, .slice none 0 0, .int .i64 0, .int .i64 0]
  have b5 := m5.row #[.int .i64 nk, .slice pk lk ck, .int .i64 kc, .int .i64 km]
  have hb1 : Below w2.heap.size w2 ((w2.alloc (.cells #[.int .i64 0, .slice none 0 0, .int .i64 0, .int .i64 0] 78)).setRow w2.heap.size #[.int .i64 nk, .slice pk lk ck, .int .i64 kc, .int .i64 km]) := below_setRow ((Below.refl _ _).alloc (Nat.le_refl _) _) (Nat.le_refl _) _
  generalize hw : (w2.alloc (.cells #[.int .i64 0, .slice none 0 0, .int .i64 0, .int .i64 0] 78)).setRow w2.heap.size #[.int .i64 nk, .slice pk lk ck, .int .i64 kc, .int .i64 km] = v at b5 hb1
  replace h1 := h1.later hb1
  replace h4 := h4.later hb1
  replace iK := iK.later hb1
  replace hbel := below_on hbel hb1
  clear hb1
  have hc3 := h1.cell 3
  simp at hc3
  go_wp2_with (first | rw [hw] | refine store_g rfl _ _ rfl _ nk pk lk ck kc km rfl rfl m5 ?_)
  clear m5 hw hc3
  have b5lt := b5.lt
  generalize w2.heap.size = q5 at b5 b5lt ⊢
  refine (rc _ hbel).mono ?_
  rintro e1 w3 ⟨q, cap, cur, rfl, hq, hrow, hcs, hcap, htk, hb1⟩
  obtain ⟨k1, k2⟩ := tat_take hrow htk
  have h4lt := h4.lt
  replace h1 := h1.later hb1
  replace h4 := h4.later hb1
  replace b5 := b5.later hb1
  have hbel3 := below_on hbel hb1
  have hbK := hb1
  clear rc htk
  have hcapI : ((0 : Nat) : Int) < ((2 : Nat) : Int) := by omega
  have ht := there_row hrow 0 (by omega)
  have v0 := tat_put (there_row hrow 0 (by omega)) nk pk lk ck
  have v1 := tat_apart k2 (q := q) (o := 0) (by omega) nk pk lk ck
  have h1' : Wx (w3.setCells q 0 [.int .i64 nk, .slice pk lk ck]) w.heap.size 0 (some ⟨g, o, none⟩) 2 c n (some ⟨g', o', none⟩) 2 c' := (below_put (Below.refl (w.heap.size + 1) w3) (q := q) (o := 0) (by omega) nk pk lk ck).block _ (by omega) |>.trans h1
  have h4' : Gx (w3.setCells q 0 [.int .i64 nk, .slice pk lk ck]) (w.heap.size + 1) 0 none 0 0 0 0 := (below_put (Below.refl (w.heap.size + 2) w3) (q := q) (o := 0) (by omega) nk pk lk ck).block _ (by omega) |>.trans h4
  have b5' : Gx (w3.setCells q 0 [.int .i64 nk, .slice pk lk ck]) q5 nk pk lk ck kc km := (below_put (Below.refl v.heap.size w3) (q := q) (o := 0) hq nk pk lk ck).block _ b5lt |>.trans b5
  replace hbel := below_put hbel3 (q := q) (o := 0) (by omega) nk pk lk ck
  replace iK := iK.later (below_put hbK hq (o := 0) nk pk lk ck)
  have iO := HO.out.later hbel
  generalize hw4 : w3.setCells q 0 [.int .i64 nk, .slice pk lk ck] = w4 at v0 v1 h1' h4' b5' hbel iK iO
  clear h1 h4 hbel3 hbK hb1 k1 k2 HO hrow
  have hd2 := h1'.cell 2
  have hd5 := b5'.cell 2
  have hd6 := b5'.cell 3
  simp at hd2 hd5 hd6
  have R := below_setRow hbel (g := w.heap.size + 1) (by omega) #[.int .i64 n, .slice (some ⟨q, 0, none⟩) 2 cap, .int .i64 (kc + 1), .int .i64 (km + n)]
  have eq4 := setRow_other w4 (w.heap.size + 1) q #[.int .i64 n, .slice (some ⟨q, 0, none⟩) 2 cap, .int .i64 (kc + 1), .int .i64 (km + n)] (by omega)
  replace v0 := tat_same v0 eq4
  replace v1 := tat_same v1 eq4
  replace iK := iK.grow h4' #[.int .i64 n, .slice (some ⟨q, 0, none⟩) 2 cap, .int .i64 (kc + 1), .int .i64 (km + n)]
  replace iO := iO.grow h4' #[.int .i64 n, .slice (some ⟨q, 0, none⟩) 2 cap, .int .i64 (kc + 1), .int .i64 (km + n)]
  have b1 : -9223372036854775808 ≤ km + n ∧ km + n ≤ 9223372036854775807 := by omega
  clear hbel eq4 hq hcs hcap
  go_wp2_with (first | rw [hw4] | refine load_t _ rfl rfl _ _ rfl (Gx.tat0 b5) ?_ | refine store_at rfl _ _ rfl _ _ nk pk lk ck rfl rfl ht ?_ | refine store_g rfl _ _ rfl _ n (some ⟨q, 0, none⟩) 2 cap (kc + 1) (km + n) rfl rfl h4' ?_)
  obtain rfl := HZ.out
  exact bodyPost_ret (results_g rfl rfl (h4'.row _)) rfl ⟨_, _, _, _, by rw [← HC.out, ← HM.out]; rfl, ⟨q, 0, cap, nk, pk, lk, ck, n1, p1, l1, c1, rfl, v0, v1, iK, iO⟩, R⟩

set_option maxHeartbeats 8000000 in
set_option maxRecDepth 100000 in
theorem grownIn1 (a : EV) (n : Int) (gk : Gw) (g o c g' o' c' : Nat) (m0 : Int) (q0 : Option Addr) (k0 j0 : Nat) (n0 : Int) (p0 : Option Addr) (l0 c0 : Nat) (n1 : Int) (p1 : Option Addr) (l1 c1 : Nat) (w : World)
    (u0 : Tat w g (o + 2) m0 q0 k0 j0) (t0 : Tat w g' o' n0 p0 l0 c0) (t1 : Tat w g' (o' + 2) n1 p1 l1 c1) (hO : Is w a (TV n0 p0 l0 c0))
    (r0 : ∀ w1, Below w.heap.size w w1 → Calls Try.prog 81 #[WV m0 q0 k0 j0 n1 p1 l1 c1] w1 (GivesG gk w1)) (hn : 0 ≤ n ∧ n ≤ 1073741824) (hc : 0 ≤ gk.cost ∧ gk.cost ≤ 100000) (hm : 0 ≤ gk.count ∧ gk.count ≤ 1073741825) :
    Calls Try.prog 106 #[WV 0 (some ⟨g, o, none⟩) 2 c n (some ⟨g', o', none⟩) 2 c', .int .i64 1] w (GivesG (gB n a gk) w) := by
  obtain ⟨h1, h4, hbel⟩ := two_r w 60 #[.int .i64 0, .slice (some ⟨g, o, none⟩) 2 c, .int .i64 n, .slice (some ⟨g', o', none⟩) 2 c', CH] 78 #[.int .i64 0, .slice none 0 0, .int .i64 0, .int .i64 0] _ rfl
  have rh := fun w1 (hb : Below w.heap.size w w1) => half1 0 g o c n g' o' c' m0 q0 k0 j0 n1 p1 l1 c1 w1 (u0.later hb) (t1.later hb)
  have rc := fun w1 (hb : Below w.heap.size w w1) => clone2_any g' o' c' n0 p0 l0 c0 n1 p1 l1 c1 w1 (t0.later hb) (t1.later hb)
  obtain ⟨kc, HC⟩ : ∃ z, Hid (gk.cost = z) := ⟨_, rfl⟩
  obtain ⟨km, HM⟩ : ∃ z, Hid (gk.count = z) := ⟨_, rfl⟩
  obtain ⟨z, HZ⟩ : ∃ z, Hid ((gB n a gk : Gw) = z) := ⟨_, rfl⟩
  rw [HZ.out]
  have HO : Hid (Is w a (TV n0 p0 l0 c0)) := hO
  rw [HC.out] at hc
  rw [HM.out] at hm
  replace r0 : ∀ w1, Below w.heap.size w w1 → Calls Try.prog 81 #[WV m0 q0 k0 j0 n1 p1 l1 c1] w1 (fun e w' => ∃ n p l c, e = .returned (GV n p l c kc km) ∧ Is w' gk.ev (TV n p l c) ∧ Below w1.heap.size w1 w') := by
    rw [← HC.out, ← HM.out]
    exact r0
  clear u0 t0 t1 hO
  go_enter Try.func106, Try.ntmps106
  go_wp2_with (refine load_w _ rfl rfl _ rfl h1 ?_)
  refine (rh _ hbel).mono ?_
  rintro e1 w1 ⟨rfl, hb1⟩
  replace h1 := h1.later hb1
  replace h4 := h4.later hb1
  replace hbel := below_on hbel hb1
  clear hb1 rh
  go_wp2_with fail
  refine (r0 _ hbel).mono ?_
  rintro e1 w2 ⟨nk, pk, lk, ck, rfl, iK, hb1⟩
  replace h1 := h1.later hb1
  replace h4 := h4.later hb1
  replace hbel := below_on hbel hb1
  clear hb1 r0
  have m5 := rw_new w2 78 #[.int .i64 0, .slice none 0 0, .int .i64 0, .int .i64 0]
  have b5 := m5.row #[.int .i64 nk, .slice pk lk ck, .int .i64 kc, .int .i64 km]
  have hb1 : Below w2.heap.size w2 ((w2.alloc (.cells #[.int .i64 0, .slice none 0 0, .int .i64 0, .int .i64 0] 78)).setRow w2.heap.size #[.int .i64 nk, .slice pk lk ck, .int .i64 kc, .int .i64 km]) := below_setRow ((Below.refl _ _).alloc (Nat.le_refl _) _) (Nat.le_refl _) _
  generalize hw : (w2.alloc (.cells #[.int .i64 0, .slice none 0 0, .int .i64 0, .int .i64 0] 78)).setRow w2.heap.size #[.int .i64 nk, .slice pk lk ck, .int .i64 kc, .int .i64 km] = v at b5 hb1
  replace h1 := h1.later hb1
  replace h4 := h4.later hb1
  replace iK := iK.later hb1
  replace hbel := below_on hbel hb1
  clear hb1
  have hc3 := h1.cell 3
  simp at hc3
  go_wp2_with (first | rw [hw] | refine store_g rfl _ _ rfl _ nk pk lk ck kc km rfl rfl m5 ?_)
  clear m5 hw hc3
  have b5lt := b5.lt
  generalize w2.heap.size = q5 at b5 b5lt ⊢
  refine (rc _ hbel).mono ?_
  rintro e1 w3 ⟨q, cap, cur, rfl, hq, hrow, hcs, hcap, htk, hb1⟩
  obtain ⟨k1, k2⟩ := tat_take hrow htk
  have h4lt := h4.lt
  replace h1 := h1.later hb1
  replace h4 := h4.later hb1
  replace b5 := b5.later hb1
  have hbel3 := below_on hbel hb1
  have hbK := hb1
  clear rc htk
  have hcapI : ((1 : Nat) : Int) < ((2 : Nat) : Int) := by omega
  have ht := there_row hrow 2 (by omega)
  have v0 := tat_put (there_row hrow 2 (by omega)) nk pk lk ck
  have v1 := tat_apart k1 (q := q) (o := 2) (by omega) nk pk lk ck
  have h1' : Wx (w3.setCells q 2 [.int .i64 nk, .slice pk lk ck]) w.heap.size 0 (some ⟨g, o, none⟩) 2 c n (some ⟨g', o', none⟩) 2 c' := (below_put (Below.refl (w.heap.size + 1) w3) (q := q) (o := 2) (by omega) nk pk lk ck).block _ (by omega) |>.trans h1
  have h4' : Gx (w3.setCells q 2 [.int .i64 nk, .slice pk lk ck]) (w.heap.size + 1) 0 none 0 0 0 0 := (below_put (Below.refl (w.heap.size + 2) w3) (q := q) (o := 2) (by omega) nk pk lk ck).block _ (by omega) |>.trans h4
  have b5' : Gx (w3.setCells q 2 [.int .i64 nk, .slice pk lk ck]) q5 nk pk lk ck kc km := (below_put (Below.refl v.heap.size w3) (q := q) (o := 2) hq nk pk lk ck).block _ b5lt |>.trans b5
  replace hbel := below_put hbel3 (q := q) (o := 2) (by omega) nk pk lk ck
  replace iK := iK.later (below_put hbK hq (o := 2) nk pk lk ck)
  have iO := HO.out.later hbel
  generalize hw4 : w3.setCells q 2 [.int .i64 nk, .slice pk lk ck] = w4 at v0 v1 h1' h4' b5' hbel iK iO
  clear h1 h4 hbel3 hbK hb1 k1 k2 HO hrow
  have hd2 := h1'.cell 2
  have hd5 := b5'.cell 2
  have hd6 := b5'.cell 3
  simp at hd2 hd5 hd6
  have R := below_setRow hbel (g := w.heap.size + 1) (by omega) #[.int .i64 n, .slice (some ⟨q, 0, none⟩) 2 cap, .int .i64 (kc + 1), .int .i64 (km + n)]
  have eq4 := setRow_other w4 (w.heap.size + 1) q #[.int .i64 n, .slice (some ⟨q, 0, none⟩) 2 cap, .int .i64 (kc + 1), .int .i64 (km + n)] (by omega)
  replace v0 := tat_same v0 eq4
  replace v1 := tat_same v1 eq4
  replace iK := iK.grow h4' #[.int .i64 n, .slice (some ⟨q, 0, none⟩) 2 cap, .int .i64 (kc + 1), .int .i64 (km + n)]
  replace iO := iO.grow h4' #[.int .i64 n, .slice (some ⟨q, 0, none⟩) 2 cap, .int .i64 (kc + 1), .int .i64 (km + n)]
  have b1 : -9223372036854775808 ≤ km + n ∧ km + n ≤ 9223372036854775807 := by omega
  clear hbel eq4 hq hcs hcap
  go_wp2_with (first | rw [hw4] | refine load_t _ rfl rfl _ _ rfl (Gx.tat0 b5) ?_ | refine store_at rfl _ _ rfl _ _ nk pk lk ck rfl rfl ht ?_ | refine store_g rfl _ _ rfl _ n (some ⟨q, 0, none⟩) 2 cap (kc + 1) (km + n) rfl rfl h4' ?_)
  obtain rfl := HZ.out
  exact bodyPost_ret (results_g rfl rfl (h4'.row _)) rfl ⟨_, _, _, _, by rw [← HC.out, ← HM.out]; rfl, ⟨q, 0, cap, n0, p0, l0, c0, nk, pk, lk, ck, rfl, v1, v0, iO, iK⟩, R⟩
end Go.Proofs.Ytmcajjdijjcpkaa
/- The method grown of a stamp at work. -/
namespace Go.Proofs.Ytmcajjdijjcpkaa
open Go.RowKit
open Idn (ID)

theorem rw_setCell {w : World} {b : Nat} {t : TypeId} {cs : Array Value} (h : Rw w b t cs) (o : Nat) (v : Value) : Rw (w.setCell ⟨b, o, none⟩ v) b t (cs.setIfInBounds o v) := by
  unfold Rw at *
  simp [World.setCell, Array.getElem?_modify, h]
theorem rw_frozen {w : World} {b : Nat} {t : TypeId} {cs : Array Value} (h : Rw w b t cs) (o : Nat) : w.frozen? ⟨b, o, none⟩ = false := by
  unfold Rw at h
  simp [World.frozen?, h]
theorem wx_event {w : World} {b : Nat} {n : Int} {p : Option Addr} {l c : Nat} {n' : Int} {p' : Option Addr} {l' c' : Nat} (h : Wx w b n p l c n' p' l' c') (m : Int) (q : Option Addr) (k d : Nat) : Wx (w.setCells b 2 [.int .i64 m, .slice q k d]) b n p l c m q k d := by
  have := rw_setCell (rw_setCell h 2 (.int .i64 m)) 3 (.slice q k d)
  simpa [World.setCells] using this
theorem gx_cost {w : World} {b : Nat} {n : Int} {p : Option Addr} {l c : Nat} {k m : Int} (h : Gx w b n p l c k m) (k' : Int) : Gx (w.setCell ⟨b, 2, none⟩ (.int .i64 k')) b n p l c k' m := by
  have := rw_setCell h 2 (.int .i64 k')
  simpa using this
theorem Is.growCell {w : World} {q : Nat} {n : Int} {p : Option Addr} {l c : Nat} {k m : Int} (hq : Gx w q n p l c k m) (o' : Nat) (u : Value) : ∀ {x : EV} {v : Value}, Is w x v → Is (w.setCell ⟨q, o', none⟩ u) x v
  | ⟨_, .inl _⟩, _, h => h
  | ⟨_, .inr (x, y)⟩, _, ⟨g, o, c, n0, p0, l0, c0, n1, p1, l1, c1, e, h0, h1, hx, hy⟩ => by
    have ne : g ≠ q := by
      rintro rfl
      have a1 := h0.2
      have a2 := h1.2
      have a3 := h1.1
      rw [hq.cell] at a1 a2 a3
      match o with
      | 0 => simp at a2
      | 1 => simp at a1
      | 2 => simp at a3
      | 3 => simp at a1
      | o + 4 => simp at a1
    have eg := Below.heap_setCell w ⟨q, o', none⟩ u g ne
    exact ⟨g, o, c, n0, p0, l0, c0, n1, p1, l1, c1, e, tat_same h0 eg, tat_same h1 eg, hx.growCell hq o' u, hy.growCell hq o' u⟩

set_option maxHeartbeats 4000000 in
set_option maxRecDepth 100000 in
theorem grown_all (i : ID) (ni : Int) (pi : Option Addr) (li ci : Nat) (ne : Int) (pe : Option Addr) (le ce : Nat) (w : World) (hi : Idn.Is w i (TV ni pi li ci)) (ha : all i = true) (hn : 0 ≤ ne ∧ ne ≤ 1073741824) :
    Calls Try.prog 81 #[WV ni pi li ci ne pe le ce] w (GivesG ⟨.leaf (ne + 1), 0, ne + 1⟩ w) := by
  obtain ⟨h1, h2, hbel⟩ := two_r w 60 #[.int .i64 ni, .slice pi li ci, .int .i64 ne, .slice pe le ce, CH] 78 #[.int .i64 0, .slice none 0 0, .int .i64 0, .int .i64 0] _ rfl
  have r0 := fun w1 => sIsAll_is hi w1
  rw [ha] at r0
  have hwr : IntKind.i64.wrap (ne + 1) = ne + 1 := by rw [IntKind.wrap_i64]; omega
  clear hi ha
  go_enter Try.func81, Try.ntmps81
  go_wp2_with (refine load_t _ rfl rfl _ _ rfl (Wx.tat0 h1) ?_)
  refine (r0 _).mono ?_
  rintro e1 w1 ⟨rfl, hb1⟩
  replace h1 := h1.later hb1
  replace h2 := h2.later hb1
  replace hbel := below_on hbel hb1
  clear hb1 r0
  go_wp2_with fail
  have hS : Calm.Stays (fun w' => Wx w' w.heap.size ni pi li ci ne pe le ce ∧ Gx w' (w.heap.size + 1) 0 none 0 0 0 0 ∧ Below w.heap.size w w') := fun wa wb h hb => ⟨h.1.later hb, h.2.1.later hb, below_on h.2.2 hb⟩
  have hF : Facts.Stay [eqF 0 (.pointer (some ⟨w.heap.size, 0, none⟩)), eqF 1 (.pointer (some ⟨w.heap.size, 2, none⟩)), eqF 2 (.pointer (some ⟨w.heap.size, 2, none⟩)), eqF 3 (.int .i64 ne), eqF 4 (.int .i64 (ne + 1)), eqF 5 (TV (ne + 1) none 0 0), eqF 6 (.pointer (some ⟨w.heap.size, 0, none⟩)), eqF 7 (.pointer (some ⟨w.heap.size, 2, none⟩)), eqF 8 (.pointer (some ⟨w.heap.size, 2, none⟩)), eqF 9 (.int .i64 ne), eqF 10 (.int .i64 (ne + 1)), eqF 11 (GV (ne + 1) none 0 0 0 (ne + 1))] := stay_of (by simp only [List.forall_mem_cons]; exact ⟨eqF_stays _ _, eqF_stays _ _, eqF_stays _ _, eqF_stays _ _, eqF_stays _ _, eqF_stays _ _, eqF_stays _ _, eqF_stays _ _, eqF_stays _ _, eqF_stays _ _, eqF_stays _ _, eqF_stays _ _, fun _ h => by cases h⟩)
  refine Facts.regionTail (by kernel_rfl) (by kernel_rfl) 12 (by decide) (by kernel_rfl) (fun w' => Wx w' w.heap.size ni pi li ci ne pe le ce ∧ Gx w' (w.heap.size + 1) 0 none 0 0 0 0 ∧ Below w.heap.size w w') (fun x => { tmps := #[WV ni pi li ci ne pe le ce, Value.pointer (some { block := w.heap.size, off := 0 }), Value.pointer (some { block := w.heap.size + 1, off := 0 }), undef, undef, undef, Value.bool true, Value.pointer (some { block := w.heap.size, off := 0 }), Value.pointer (some { block := w.heap.size, off := 0 }), TV ni pi li ci, Value.bool true, x 0, x 1, x 2, x 3, x 4, x 5, x 6, x 7, x 8, x 9, x 10, x 11, undef, undef, undef, undef, undef, undef, undef, undef, undef, undef, undef, undef, undef, undef, undef, undef, undef, undef, undef, undef, undef, undef, undef, undef, undef, undef, undef, undef, undef, undef, undef, undef, undef, undef, undef, undef, undef, undef, undef, undef, undef, undef, undef, undef, undef, undef, undef, undef, undef, undef, undef, undef], defers := [] }) [eqF 0 (.pointer (some ⟨w.heap.size, 0, none⟩)), eqF 1 (.pointer (some ⟨w.heap.size, 2, none⟩)), eqF 2 (.pointer (some ⟨w.heap.size, 2, none⟩)), eqF 3 (.int .i64 ne), eqF 4 (.int .i64 (ne + 1)), eqF 5 (TV (ne + 1) none 0 0), eqF 6 (.pointer (some ⟨w.heap.size, 0, none⟩)), eqF 7 (.pointer (some ⟨w.heap.size, 2, none⟩)), eqF 8 (.pointer (some ⟨w.heap.size, 2, none⟩)), eqF 9 (.int .i64 ne), eqF 10 (.int .i64 (ne + 1)), eqF 11 (GV (ne + 1) none 0 0 0 (ne + 1))] _ rfl rfl (by kernel_rfl) (fun _ => undef) rfl ⟨h1, h2, hbel.drew⟩ ⟨?_, ?_, ?_, ?_, ?_, ?_, ?_, ?_, ?_, ?_, ?_, ?_, ?_, trivial⟩ ?_
  · exact fun _ => Facts.pure hS hF (fun _ _ => rfl) rfl (fun x wv hSw hd => by
      go_simp)
  · exact fun _ => Facts.pure hS hF (fun _ _ => rfl) rfl (fun x wv hSw hd => by
      have d0 := eqF_get (hd ⟨0, .data⟩ (by simp) rfl _ rfl)
      simp only [d0]
      go_simp)
  · exact fun _ => Facts.pure hS hF (fun _ _ => rfl) rfl (fun x wv hSw hd => by
      have d1 := eqF_get (hd ⟨1, .data⟩ (by simp) rfl _ rfl)
      simp only [d1]
      go_simp)
  · exact fun _ => Facts.pure hS hF (fun _ _ => rfl) rfl (fun x wv hSw hd => by
      have d2 := eqF_get (hd ⟨2, .data⟩ (by simp) rfl _ rfl)
      have gc := Rw.cell hSw.1 2
      have gd : wv.cell? ⟨w.heap.size, 2, none⟩ = some (.int .i64 ne) := by simpa using gc
      simp only [d2]
      go_simp)
  · exact fun _ => Facts.pure hS hF (fun _ _ => rfl) rfl (fun x wv hSw hd => by
      have d3 := eqF_get (hd ⟨3, .data⟩ (by simp) rfl _ rfl)
      simp only [d3]
      go_simp <;> exact hwr)
  · refine fun _ => Facts.call1V hS hF (fun _ _ => rfl) rfl (by kernel_rfl) rfl (fun x wv hSw hd => ?_)
    have d4 := eqF_get (hd ⟨4, .data⟩ (by simp) rfl _ rfl)
    have hc := sLeaf_any (ne + 1) wv
    rw [← d4] at hc
    exact hc
  · exact fun _ => Facts.pure hS hF (fun _ _ => rfl) rfl (fun x wv hSw hd => by
      go_simp)
  · exact fun _ => Facts.pure hS hF (fun _ _ => rfl) rfl (fun x wv hSw hd => by
      have d6 := eqF_get (hd ⟨6, .data⟩ (by simp) rfl _ rfl)
      simp only [d6]
      go_simp)
  · exact fun _ => Facts.pure hS hF (fun _ _ => rfl) rfl (fun x wv hSw hd => by
      have d7 := eqF_get (hd ⟨7, .data⟩ (by simp) rfl _ rfl)
      simp only [d7]
      go_simp)
  · exact fun _ => Facts.pure hS hF (fun _ _ => rfl) rfl (fun x wv hSw hd => by
      have d8 := eqF_get (hd ⟨8, .data⟩ (by simp) rfl _ rfl)
      have gc := Rw.cell hSw.1 2
      have gd : wv.cell? ⟨w.heap.size, 2, none⟩ = some (.int .i64 ne) := by simpa using gc
      simp only [d8]
      go_simp)
  · exact fun _ => Facts.pure hS hF (fun _ _ => rfl) rfl (fun x wv hSw hd => by
      have d9 := eqF_get (hd ⟨9, .data⟩ (by simp) rfl _ rfl)
      simp only [d9]
      go_simp <;> exact hwr)
  · exact fun _ => Facts.pure hS hF (fun _ _ => rfl) rfl (fun x wv hSw hd => by
      have d5 := eqF_get (hd ⟨5, .data⟩ (by simp) rfl _ rfl)
      have d10 := eqF_get (hd ⟨10, .data⟩ (by simp) rfl _ rfl)
      simp only [d5, d10]
      go_simp)
  · exact fun h => absurd h (by decide)
  rintro x w9 ⟨h1, h2, hbel⟩ hf
  have e0 := eqF_get (hf 0 _ rfl)
  have e1 := eqF_get (hf 1 _ rfl)
  have e2 := eqF_get (hf 2 _ rfl)
  have e3 := eqF_get (hf 3 _ rfl)
  have e4 := eqF_get (hf 4 _ rfl)
  have e5 := eqF_get (hf 5 _ rfl)
  have e6 := eqF_get (hf 6 _ rfl)
  have e7 := eqF_get (hf 7 _ rfl)
  have e8 := eqF_get (hf 8 _ rfl)
  have e9 := eqF_get (hf 9 _ rfl)
  have e10 := eqF_get (hf 10 _ rfl)
  have e11 := eqF_get (hf 11 _ rfl)
  clear hF hS
  simp only [e0, e1, e2, e3, e4, e5, e6, e7, e8, e9, e10, e11]
  clear hf e0 e1 e2 e3 e4 e5 e6 e7 e8 e9 e10 e11 hwr
  refine wp_store_r 78 _ _ rfl (w.heap.size + 1) #[.int .i64 (ne + 1), .slice none 0 0, .int .i64 0, .int .i64 (ne + 1)] rfl rfl h2 size78 rfl (by simp [Value.oneCell']) ?_
  have R := below_setRow hbel (g := w.heap.size + 1) (by omega) #[.int .i64 (ne + 1), .slice none 0 0, .int .i64 0, .int .i64 (ne + 1)]
  refine Facts.tailWp_nil ?_
  go_wp2
  exact bodyPost_ret (results_g rfl rfl (h2.row _)) rfl ⟨_, _, _, _, rfl, is_leaf _ (ne + 1) _ _, R⟩

set_option maxHeartbeats 8000000 in
set_option maxRecDepth 100000 in
theorem grown_node (l r : ID) (n : Int) (gl gr : Gw) (Z : Gw) (g o c g' o' c' : Nat) (m0 : Int) (q0 : Option Addr) (k0 j0 : Nat) (m1 : Int) (q1 : Option Addr) (k1 j1 : Nat) (w : World)
    (u0 : Tat w g o m0 q0 k0 j0) (u1 : Tat w g (o + 2) m1 q1 k1 j1) (il : Idn.Is w l (TV m0 q0 k0 j0)) (ir : Idn.Is w r (TV m1 q1 k1 j1))
    (rA : Idn.nil l = false → ∀ w1, Below w.heap.size w w1 → Calls Try.prog 106 #[WV 0 (some ⟨g, o, none⟩) 2 c n (some ⟨g', o', none⟩) 2 c', .int .i64 0] w1 (GivesG gl w1)) (rB : Idn.nil r = false → ∀ w1, Below w.heap.size w w1 → Calls Try.prog 106 #[WV 0 (some ⟨g, o, none⟩) 2 c n (some ⟨g', o', none⟩) 2 c', .int .i64 1] w1 (GivesG gr w1))
    (ht : Idn.tw l r = false) (hZ : Z = if Idn.nil l then gr else if Idn.nil r then gl else if gl.cost < gr.cost then gl else gr) :
    Calls Try.prog 81 #[WV 0 (some ⟨g, o, none⟩) 2 c n (some ⟨g', o', none⟩) 2 c'] w (GivesG Z w) := by
  obtain ⟨h1, h2, hbel⟩ := two_r w 60 #[.int .i64 0, .slice (some ⟨g, o, none⟩) 2 c, .int .i64 n, .slice (some ⟨g', o', none⟩) 2 c', CH] 78 #[.int .i64 0, .slice none 0 0, .int .i64 0, .int .i64 0] _ rfl
  have s0 := fun w1 => sIsAll_any 0 (some ⟨g, o, none⟩) 2 c w1
  have s1 := fun w1 => sIsLeaf_any n (some ⟨g', o', none⟩) 2 c' w1
  simp only [Nat.reduceEqDiff, decide_false, Bool.false_and] at s0 s1
  have a0 := fun w1 => sIsNothing_is il w1
  have a1 := fun w1 => sIsNothing_is ir w1
  have HT : Hid (Idn.nil l = true → Idn.nil r = false) := show _ → _ from fun h => Idn.nil_other ht h
  have HZ : Hid (Z = if Idn.nil l then gr else if Idn.nil r then gl else if gl.cost < gr.cost then gl else gr) := hZ
  clear il ir ht hZ
  generalize Idn.nil l = bl at a0 HZ rA HT
  generalize Idn.nil r = br at a1 HZ rB HT
  go_enter Try.func81, Try.ntmps81
  go_wp2_with (refine load_t _ rfl rfl _ _ rfl (Wx.tat0 h1) ?_)
  refine (s0 _).mono ?_
  rintro e1 w1 ⟨rfl, hb1⟩
  replace h1 := h1.later hb1
  replace h2 := h2.later hb1
  replace hbel := below_on hbel hb1
  clear hb1
  clear s0
  go_wp2_with (refine load_t _ rfl rfl _ _ rfl (Wx.tat1 h1) ?_)
  refine (s1 _).mono ?_
  rintro e1 w2 ⟨rfl, hb1⟩
  replace h1 := h1.later hb1
  replace h2 := h2.later hb1
  replace hbel := below_on hbel hb1
  clear hb1
  clear s1
  have hc1 := h1.cell 1
  simp at hc1
  replace u0 := u0.later hbel
  go_wp2_with (refine load_t _ rfl rfl _ _ rfl u0 ?_)
  refine (a0 _).mono ?_
  rintro e1 w3 ⟨rfl, hb1⟩
  replace h1 := h1.later hb1
  replace h2 := h2.later hb1
  replace hbel := below_on hbel hb1
  clear hb1
  clear a0 u0 hc1
  cases bl
  case' true =>
    obtain rfl := HT.out rfl
    simp only [if_true] at HZ
    obtain rfl := HZ.out
    clear rA a1 HT HZ
    go_wp2_with (refine load_w _ rfl rfl _ rfl h1 ?_)
    refine (rB (by first | rfl | trivial) _ hbel).mono ?_
    rintro e1 w4 ⟨nk, pk, lk, ck, rfl, iK, hb1⟩
    replace h2 := h2.later hb1
    replace hbel := below_on hbel hb1
    clear hb1
    have R := below_setRow hbel (g := w.heap.size + 1) (by omega) #[.int .i64 nk, .slice pk lk ck, .int .i64 Z.cost, .int .i64 Z.count]
    go_wp2_with (refine store_g rfl _ _ rfl _ nk pk lk ck Z.cost Z.count rfl rfl h2 ?_)
    exact bodyPost_ret (results_g rfl rfl (h2.row _)) rfl ⟨_, _, _, _, rfl, iK.grow h2 _, R⟩
  case' false =>
    simp only [Bool.false_eq_true, if_false] at HZ
    have hc1 := h1.cell 1
    simp at hc1
    replace u1 := u1.later hbel
    go_wp2_with (refine load_t _ rfl rfl _ _ rfl u1 ?_)
    refine (a1 _).mono ?_
    rintro e1 w4 ⟨rfl, hb1⟩
    replace h1 := h1.later hb1
    replace h2 := h2.later hb1
    replace hbel := below_on hbel hb1
    clear hb1
    clear a1 u1 hc1 HT
    cases br
    case' true =>
      simp only [if_true] at HZ
      obtain rfl := HZ.out
      clear rB HZ
      go_wp2_with (refine load_w _ rfl rfl _ rfl h1 ?_)
      refine (rA (by first | rfl | trivial) _ hbel).mono ?_
      rintro e1 w5 ⟨nk, pk, lk, ck, rfl, iK, hb1⟩
      replace h2 := h2.later hb1
      replace hbel := below_on hbel hb1
      clear hb1
      have R := below_setRow hbel (g := w.heap.size + 1) (by omega) #[.int .i64 nk, .slice pk lk ck, .int .i64 Z.cost, .int .i64 Z.count]
      go_wp2_with (refine store_g rfl _ _ rfl _ nk pk lk ck Z.cost Z.count rfl rfl h2 ?_)
      exact bodyPost_ret (results_g rfl rfl (h2.row _)) rfl ⟨_, _, _, _, rfl, iK.grow h2 _, R⟩
    case' false =>
      simp only [Bool.false_eq_true, if_false] at HZ
      replace rA := rA (by first | rfl | trivial)
      replace rB := rB (by first | rfl | trivial)
      go_wp2_with fail
      have hS : Calm.Stays (fun w' => Wx w' w.heap.size 0 (some ⟨g, o, none⟩) 2 c n (some ⟨g', o', none⟩) 2 c' ∧ Gx w' (w.heap.size + 1) 0 none 0 0 0 0 ∧ Below w.heap.size w w') := fun wa wb h hb => ⟨h.1.later hb, h.2.1.later hb, below_on h.2.2 hb⟩
      have hF : Facts.Stay [eqF 0 (WV 0 (some ⟨g, o, none⟩) 2 c n (some ⟨g', o', none⟩) 2 c'), gwF 1 gl, eqF 2 (WV 0 (some ⟨g, o, none⟩) 2 c n (some ⟨g', o', none⟩) 2 c'), gwF 3 gr, alR 4 (w.heap.size + 2) 78 #[.int .i64 0, .slice none 0 0, .int .i64 0, .int .i64 0], alR 5 (w.heap.size + 2) 78 #[.int .i64 0, .slice none 0 0, .int .i64 0, .int .i64 0]] := stay_of (by simp only [List.forall_mem_cons]; exact ⟨eqF_stays _ _, gwF_stays _ _, eqF_stays _ _, gwF_stays _ _, alR_stays _ _ _ _, alR_stays _ _ _ _, fun _ h => by cases h⟩)
      refine Facts.regionTailR (by kernel_rfl) (by kernel_rfl) 6 (by decide) (by kernel_rfl) (fun w' => Wx w' w.heap.size 0 (some ⟨g, o, none⟩) 2 c n (some ⟨g', o', none⟩) 2 c' ∧ Gx w' (w.heap.size + 1) 0 none 0 0 0 0 ∧ Below w.heap.size w w') (fun x => { tmps := #[WV 0 (some { block := g, off := o }) 2 c n (some { block := g', off := o' }) 2 c', Value.pointer (some { block := w.heap.size, off := 0 }), Value.pointer (some { block := w.heap.size + 1, off := 0 }), undef, x 4, x 5, Value.bool false, Value.pointer (some { block := w.heap.size, off := 0 }), Value.pointer (some { block := w.heap.size, off := 0 }), TV 0 (some { block := g, off := o }) 2 c, Value.bool false, undef, undef, undef, undef, undef, undef, undef, undef, undef, undef, undef, undef, Value.bool false, Value.pointer (some { block := w.heap.size, off := 0 }), Value.pointer (some { block := w.heap.size, off := 2 }), TV n (some { block := g', off := o' }) 2 c', Value.bool false, undef, undef, undef, undef, undef, undef, undef, undef, undef, undef, undef, undef, undef, undef, undef, undef, Value.bool false, Value.pointer (some { block := w.heap.size, off := 0 }), Value.pointer (some { block := w.heap.size, off := 0 }), Value.pointer (some { block := w.heap.size, off := 1 }), Value.slice (some { block := g, off := o }) 2 c, Value.pointer (some { block := g, off := o }), TV m0 q0 k0 j0, Value.bool false, undef, undef, Value.bool false, Value.pointer (some { block := w.heap.size, off := 0 }), Value.pointer (some { block := w.heap.size, off := 0 }), Value.pointer (some { block := w.heap.size, off := 1 }), Value.slice (some { block := g, off := o }) 2 c, Value.pointer (some { block := g, off := o + 2 }), TV m1 q1 k1 j1, Value.bool false, undef, undef, x 0, x 1, x 2, x 3, undef, undef, undef, undef, undef, undef, undef], defers := [] }) [eqF 0 (WV 0 (some ⟨g, o, none⟩) 2 c n (some ⟨g', o', none⟩) 2 c'), gwF 1 gl, eqF 2 (WV 0 (some ⟨g, o, none⟩) 2 c n (some ⟨g', o', none⟩) 2 c'), gwF 3 gr, alR 4 (w.heap.size + 2) 78 #[.int .i64 0, .slice none 0 0, .int .i64 0, .int .i64 0], alR 5 (w.heap.size + 2) 78 #[.int .i64 0, .slice none 0 0, .int .i64 0, .int .i64 0]] (NotOne [4, 5]) (notOne_symm _) _ rfl rfl (by kernel_rfl) (fun _ => undef) rfl ⟨h1, h2, hbel.drew⟩ ⟨?_, ?_, ?_, ?_, ?_, ?_, ?_, ?_, trivial⟩ ?_
      · exact fun _ => Facts.StepR.of (fun _ _ _ h => absurd h (by decide)) (Facts.loadR61 hS hF (fun _ _ => rfl) _ rfl rfl (fun x wv hSw hd => by rfl) (fun wv hSw => hSw.1))
      · refine fun _ => Facts.StepR.of (fun _ _ _ h => absurd h (by decide)) (Facts.call2F hS hF (fun _ _ => rfl) rfl (by kernel_rfl) rfl (fun x wv hSw hd => ?_))
        have d0 := eqF_get (hd ⟨0, .data⟩ (by simp) rfl _ rfl)
        have hc := rA wv hSw.2.2
        rw [← d0] at hc
        exact hc.mono fun _ _ ⟨n, p, l, c, he, hi, hb⟩ => ⟨_, he, hb, gwF_put hi⟩
      · exact fun _ => Facts.StepR.of (fun _ _ _ h => absurd h (by decide)) (Facts.loadR61 hS hF (fun _ _ => rfl) _ rfl rfl (fun x wv hSw hd => by rfl) (fun wv hSw => hSw.1))
      · refine fun _ => Facts.StepR.of (fun _ _ _ h => absurd h (by decide)) (Facts.call2F hS hF (fun _ _ => rfl) rfl (by kernel_rfl) rfl (fun x wv hSw hd => ?_))
        have d2 := eqF_get (hd ⟨2, .data⟩ (by simp) rfl _ rfl)
        have hc := rB wv hSw.2.2
        rw [← d2] at hc
        exact hc.mono fun _ _ ⟨n, p, l, c, he, hi, hb⟩ => ⟨_, he, hb, gwF_put hi⟩
      · exact fun _ => Facts.allocR hS hF (fun _ _ => rfl) 78 rfl rfl (fun wv hSw => (by have := Rw.lt hSw.2.1; omega)) (alloc78 rfl) (fun j f hfj hj => by simp only [List.mem_cons, List.not_mem_nil, or_false] at hj; rcases hj with rfl | rfl <;> exact ⟨_, _, _, (Option.some.inj hfj).symm⟩)
      · exact fun _ => Facts.allocR hS hF (fun _ _ => rfl) 78 rfl rfl (fun wv hSw => (by have := Rw.lt hSw.2.1; omega)) (alloc78 rfl) (fun j f hfj hj => by simp only [List.mem_cons, List.not_mem_nil, or_false] at hj; rcases hj with rfl | rfl <;> exact ⟨_, _, _, (Option.some.inj hfj).symm⟩)
      · exact fun h => absurd h (by decide)
      · exact fun h => absurd h (by decide)
      rintro x w9 ⟨h1, h2, hbel⟩ hf hrel
      have e0 := eqF_get (hf 0 _ rfl)
      obtain ⟨nA, pA, lA, cA, e1, iA⟩ := gwF_get (hf 1 _ rfl)
      have e2 := eqF_get (hf 2 _ rfl)
      obtain ⟨nB, pB, lB, cB, e3, iB⟩ := gwF_get (hf 3 _ rfl)
      obtain ⟨q, e4, hq, bq⟩ := alR_get (hf 4 _ rfl)
      obtain ⟨q', e5, hq', bq'⟩ := alR_get (hf 5 _ rfl)
      have hne : q ≠ q' := by
        intro h
        have := hrel 4 5 (by omega) (by omega) (by omega) (by simp) (by simp)
        rw [e4, e5, h] at this
        exact this rfl
      clear hf hrel rA rB hF hS
      simp only [e0, e1, e2, e3, e4, e5]
      clear e0 e1 e2 e3 e4 e5
      refine wp_store_r 78 _ _ rfl q #[.int .i64 nA, .slice pA lA cA, .int .i64 gl.cost, .int .i64 gl.count] rfl rfl bq size78 rfl (by simp [Value.oneCell']) ?_
      have bA : Gx _ _ _ _ _ _ _ _ := Rw.row bq #[.int .i64 nA, .slice pA lA cA, .int .i64 gl.cost, .int .i64 gl.count]
      have bB := Rw.rowOther bq' (Ne.symm hne) #[.int .i64 nA, .slice pA lA cA, .int .i64 gl.cost, .int .i64 gl.count]
      replace iA := iA.grow bq #[.int .i64 nA, .slice pA lA cA, .int .i64 gl.cost, .int .i64 gl.count]
      replace iB := iB.grow bq #[.int .i64 nA, .slice pA lA cA, .int .i64 gl.cost, .int .i64 gl.count]
      replace h1 := Rw.rowOther h1 (q := q) (by omega) #[.int .i64 nA, .slice pA lA cA, .int .i64 gl.cost, .int .i64 gl.count]
      replace h2 := Rw.rowOther h2 (q := q) (by omega) #[.int .i64 nA, .slice pA lA cA, .int .i64 gl.cost, .int .i64 gl.count]
      replace hbel := below_setRow hbel (g := q) (by omega) #[.int .i64 nA, .slice pA lA cA, .int .i64 gl.cost, .int .i64 gl.count]
      generalize w9.setRow q #[.int .i64 nA, .slice pA lA cA, .int .i64 gl.cost, .int .i64 gl.count] = wa at *
      refine wp_store_r 78 _ _ rfl q' #[.int .i64 nB, .slice pB lB cB, .int .i64 gr.cost, .int .i64 gr.count] rfl rfl bB size78 rfl (by simp [Value.oneCell']) ?_
      replace iA := iA.grow bB #[.int .i64 nB, .slice pB lB cB, .int .i64 gr.cost, .int .i64 gr.count]
      replace iB := iB.grow bB #[.int .i64 nB, .slice pB lB cB, .int .i64 gr.cost, .int .i64 gr.count]
      replace bA := Rw.rowOther bA hne #[.int .i64 nB, .slice pB lB cB, .int .i64 gr.cost, .int .i64 gr.count]
      replace h1 := Rw.rowOther h1 (q := q') (by omega) #[.int .i64 nB, .slice pB lB cB, .int .i64 gr.cost, .int .i64 gr.count]
      replace h2 := Rw.rowOther h2 (q := q') (by omega) #[.int .i64 nB, .slice pB lB cB, .int .i64 gr.cost, .int .i64 gr.count]
      replace hbel := below_setRow hbel (g := q') (by omega) #[.int .i64 nB, .slice pB lB cB, .int .i64 gr.cost, .int .i64 gr.count]
      replace bB := Rw.row bB #[.int .i64 nB, .slice pB lB cB, .int .i64 gr.cost, .int .i64 gr.count]
      generalize wa.setRow q' #[.int .i64 nB, .slice pB lB cB, .int .i64 gr.cost, .int .i64 gr.count] = wb at *
      clear bq bq' x w9
      refine Facts.tailWp_nil ?_
      have hc4 := h1.cell 4
      simp at hc4
      go_wp2_with (first | refine load_g _ rfl rfl _ rfl bA ?_ | refine load_g _ rfl rfl _ rfl bB ?_)
      refine (cheaper_any nA pA lA cA gl.cost gl.count nB pB lB cB gr.cost gr.count _).mono ?_
      rintro e1 w10 ⟨rfl, hb1⟩
      replace h2 := h2.later hb1
      replace bA := Rw.later bA hb1
      replace bB := Rw.later bB hb1
      replace iA := iA.later hb1
      replace iB := iB.later hb1
      replace hbel := below_on hbel hb1
      clear hb1 h1 hc4
      by_cases hlt : gl.cost < gr.cost
      · obtain rfl : Z = gl := by rw [HZ.out, if_pos hlt]
        have hld : decide (Z.cost < gr.cost) = true := by simpa using hlt
        have R := below_setRow hbel (g := w.heap.size + 1) (by omega) #[.int .i64 nA, .slice pA lA cA, .int .i64 Z.cost, .int .i64 Z.count]
        rw [hld]
        clear HZ hlt hld
        go_wp2_with (first | refine load_g _ rfl rfl _ rfl bA ?_ | refine store_g rfl _ _ rfl _ nA pA lA cA Z.cost Z.count rfl rfl h2 ?_)
        exact bodyPost_ret (results_g rfl rfl (h2.row _)) rfl ⟨_, _, _, _, rfl, iA.grow h2 _, R⟩
      · obtain rfl : Z = gr := by rw [HZ.out, if_neg hlt]
        have hld : decide (gl.cost < Z.cost) = false := by simpa using hlt
        have R := below_setRow hbel (g := w.heap.size + 1) (by omega) #[.int .i64 nB, .slice pB lB cB, .int .i64 Z.cost, .int .i64 Z.count]
        rw [hld]
        clear HZ hlt hld
        go_wp2_with (first | refine load_g _ rfl rfl _ rfl bB ?_ | refine store_g rfl _ _ rfl _ nB pB lB cB Z.cost Z.count rfl rfl h2 ?_)
        exact bodyPost_ret (results_g rfl rfl (h2.row _)) rfl ⟨_, _, _, _, rfl, iB.grow h2 _, R⟩
end Go.Proofs.Ytmcajjdijjcpkaa
