import Derived.Test.YtohmcpjkijndjaaFactsROn
/- The method grownIn of a stamp at work. -/
namespace Go.Proofs.Ytohmcpjkijndjaa
open Go.RowKit
open Idn (ID)

/-- A tree is stored at a place of a row. -/
theorem store_at {ops : Array Oper} {rest : List Oper} {op : Oper} {a : Act} {w : World} {Q : Exit → Act → World → Prop} (hgd : op.guard = none) (x y : Operand) (ho : op.op = .store 24 x y) (b o : Nat) (n : Int) (p : Option Addr) (l c : Nat) (hx : a.eval x = .pointer (some ⟨b, o, none⟩)) (hy : a.eval y = TV n p l c) (ht : w.there b o 2)
    (h : wpList Try.prog ops Q rest (a.put op.dst undef) (w.setCells b o [.int .i64 n, .slice p l c])) : wpList Try.prog ops Q (op :: rest) a w :=
  wpList_store_mid hgd 24 x y ho b o #[.int .i64 n, .slice p l c] hx hy ht size24 (by simp [Value.oneCell']) h
theorem tat_put {w : World} {q o : Nat} (ht : w.there q o 2) (n : Int) (p : Option Addr) (l c : Nat) : Tat (w.setCells q o [.int .i64 n, .slice p l c]) q o n p l c := by
  have h := World.rangeAt_setCells_same w q o [.int .i64 n, .slice p l c] ht
  exact ⟨h 0 _ rfl, h 1 _ rfl⟩
theorem tat_apart {w : World} {b o' : Nat} {n' : Int} {p' : Option Addr} {l' c' : Nat} (h : Tat w b o' n' p' l' c') {q o : Nat} (hap : b ≠ q ∨ o' + 2 ≤ o ∨ o + 2 ≤ o') (n : Int) (p : Option Addr) (l c : Nat) : Tat (w.setCells q o [.int .i64 n, .slice p l c]) b o' n' p' l' c' := by
  have h := World.rangeAt_setCells_apart h.range q o [.int .i64 n, .slice p l c] (by simpa using hap)
  exact ⟨h 0 _ rfl, h 1 _ rfl⟩
theorem below_put {B : Nat} {a w : World} (h : Below B a w) {q o : Nat} (hq : B ≤ q) (n : Int) (p : Option Addr) (l c : Nat) : Below B a (w.setCells q o [.int .i64 n, .slice p l c]) := by
  unfold World.setCells World.setCells World.setCells
  exact (h.setCell hq _).setCell hq _
theorem there_row {w : World} {q : Nat} {cur : Array Value} (h : Rw w q 24 cur) (o : Nat) (ho : o + 2 ≤ cur.size) : w.there q o 2 := fun j hj => by
  constructor
  · rw [h.cell, Array.getElem?_eq_getElem (by omega)]
    rfl
  · unfold Rw at h
    simp [World.frozen?, h]
theorem tat_take {w : World} {q : Nat} {cur : Array Value} {n0 : Int} {p0 : Option Addr} {l0 c0 : Nat} {n1 : Int} {p1 : Option Addr} {l1 c1 : Nat} (h : Rw w q 24 cur) (ht : cur.toList.take 4 = [.int .i64 n0, .slice p0 l0 c0, .int .i64 n1, .slice p1 l1 c1]) : Tat w q 0 n0 p0 l0 c0 ∧ Tat w q 2 n1 p1 l1 c1 := by
  have e : ∀ j, j < 4 → cur[j]? = ([.int .i64 n0, .slice p0 l0 c0, .int .i64 n1, .slice p1 l1 c1] : List Value)[j]? := fun j hj => by
    rw [← ht, List.getElem?_take_of_lt hj, Array.getElem?_toList]
  refine ⟨⟨?_, ?_⟩, ?_, ?_⟩ <;> (rw [h.cell, e _ (by decide)]; rfl)

set_option maxHeartbeats 8000000 in
set_option maxRecDepth 100000 in
theorem grownIn0 (b : EV) (n : Int) (gk : Gw) (g o c g' o' c' : Nat) (m0 : Int) (q0 : Option Addr) (k0 j0 : Nat) (n0 : Int) (p0 : Option Addr) (l0 c0 : Nat) (n1 : Int) (p1 : Option Addr) (l1 c1 : Nat) (w : World)
    (u0 : Tat w g o m0 q0 k0 j0) (t0 : Tat w g' o' n0 p0 l0 c0) (t1 : Tat w g' (o' + 2) n1 p1 l1 c1) (hO : Is w b (TV n1 p1 l1 c1))
    (r0 : ∀ w1, Below w.heap.size w w1 → Calls Try.prog 80 #[WV m0 q0 k0 j0 n0 p0 l0 c0] w1 (GivesG gk w1)) (hn : 0 ≤ n ∧ n ≤ 1073741824) (hc : 0 ≤ gk.cost ∧ gk.cost ≤ 100000) (hm : 0 ≤ gk.count ∧ gk.count ≤ 1073741825) :
    Calls Try.prog 104 #[WV 0 (some ⟨g, o, none⟩) 2 c n (some ⟨g', o', none⟩) 2 c', .int .i64 0] w (GivesG (gA n b gk) w) := by
  obtain ⟨h1, h4, hbel⟩ := two_r w 61 #[.int .i64 0, .slice (some ⟨g, o, none⟩) 2 c, .int .i64 n, .slice (some ⟨g', o', none⟩) 2 c', CH] 78 #[.int .i64 0, .slice none 0 0, .int .i64 0, .int .i64 0] _ rfl
  have rh := fun w1 (hb : Below w.heap.size w w1) => half0 0 g o c n g' o' c' m0 q0 k0 j0 n0 p0 l0 c0 w1 (u0.later hb) (t0.later hb)
  have rc := fun w1 (hb : Below w.heap.size w w1) => clone2_any g' o' c' n0 p0 l0 c0 n1 p1 l1 c1 w1 (t0.later hb) (t1.later hb)
  obtain ⟨kc, HC⟩ : ∃ z, Hid (gk.cost = z) := ⟨_, rfl⟩
  obtain ⟨km, HM⟩ : ∃ z, Hid (gk.count = z) := ⟨_, rfl⟩
  obtain ⟨z, HZ⟩ : ∃ z, Hid ((gA n b gk : Gw) = z) := ⟨_, rfl⟩
  rw [HZ.out]
  have HO : Hid (Is w b (TV n1 p1 l1 c1)) := hO
  rw [HC.out] at hc
  rw [HM.out] at hm
  replace r0 : ∀ w1, Below w.heap.size w w1 → Calls Try.prog 80 #[WV m0 q0 k0 j0 n0 p0 l0 c0] w1 (fun e w' => ∃ n p l c, e = .returned (GV n p l c kc km) ∧ Is w' gk.ev (TV n p l c) ∧ Below w1.heap.size w1 w') := by
    rw [← HC.out, ← HM.out]
    exact r0
  clear u0 t0 t1 hO
  go_enter Try.func104, Try.ntmps104
  go_wp2_with (refine load_w _ rfl rfl _ rfl h1 ?_)
  refine (rh _ hbel).mono ?_
  rintro e1 w1 ⟨rfl, hb1⟩
  replace h1 := h1.later hb1
  replace h4 := h4.later hb1
  replace hbel := below_on hbel hb1
  clear hb1 rh
  go_wp2_with fail
  refine (r0 _ hbel).mono ?_
  rintro e1 w2 ⟨nk, pk, lk, ck, rfl, iK, hb1⟩
  replace h1 := h1.later hb1
  replace h4 := h4.later hb1
  replace hbel := below_on hbel hb1
  clear hb1 r0
  have m5 := rw_new w2 78 #[.int .i64 0, .slice none 0 0, .int .i64 0, .int .i64 0]
  have b5 := m5.row #[.int .i64 nk, .slice pk lk ck, .int .i64 kc, .int .i64 km]
  have hb1 : Below w2.heap.size w2 ((w2.alloc (.cells #[.int .i64 0, .slice none 0 0, .int .i64 0, .int .i64 0] 78)).setRow w2.heap.size #[.int .i64 nk, .slice pk lk ck, .int .i64 kc, .int .i64 km]) := below_setRow ((Below.refl _ _).alloc (Nat.le_refl _) _) (Nat.le_refl _) _
  generalize hw : (w2.alloc (.cells #[.int .i64 0, .slice none 0 0, .int .i64 0, .int .i64 0] 78)).setRow w2.heap.size #[.int .i64 nk, .slice pk lk ck, .int .i64 kc, .int .i64 km] = v at b5 hb1
  replace h1 := h1.later hb1
  replace h4 := h4.later hb1
  replace iK := iK.later hb1
  replace hbel := below_on hbel hb1
  clear hb1
  have hc3 := h1.cell 3
  simp at hc3
  go_wp2_with (first | rw [hw] | refine store_g rfl _ _ rfl _ nk pk lk ck kc km rfl rfl m5 ?_)
  clear m5 hw hc3
  have b5lt := b5.lt
  generalize w2.heap.size = q5 at b5 b5lt ⊢
  refine (rc _ hbel).mono ?_
  rintro e1 w3 ⟨q, cap, cur, rfl, hq, hrow, hcs, hcap, htk, hb1⟩
  obtain ⟨k1, k2⟩ := tat_take hrow htk
  have h4lt := h4.lt
  replace h1 := h1.later hb1
  replace h4 := h4.later hb1
  replace b5 := b5.later hb1
  have hbel3 := below_on hbel hb1
  have hbK := hb1
  clear rc htk
  have hcapI : ((0 : Nat) : Int) < ((2 : Nat) : Int) := by omega
  have ht := there_row hrow 0 (by omega)
  have v0 := tat_put (there_row hrow 0 (by omega)) nk pk lk ck
  have v1 := tat_apart k2 (q := q) (o := 0) (by omega) nk pk lk ck
  have h1' : Wx (w3.setCells q 0 [.int .i64 nk, .slice pk lk ck]) w.heap.size 0 (some ⟨g, o, none⟩) 2 c n (some ⟨g', o', none⟩) 2 c' := (below_put (Below.refl (w.heap.size + 1) w3) (q := q) (o := 0) (by omega) nk pk lk ck).block _ (by omega) |>.trans h1
  have h4' : Gx (w3.setCells q 0 [.int .i64 nk, .slice pk lk ck]) (w.heap.size + 1) 0 none 0 0 0 0 := (below_put (Below.refl (w.heap.size + 2) w3) (q := q) (o := 0) (by omega) nk pk lk ck).block _ (by omega) |>.trans h4
  have b5' : Gx (w3.setCells q 0 [.int .i64 nk, .slice pk lk ck]) q5 nk pk lk ck kc km := (below_put (Below.refl v.heap.size w3) (q := q) (o := 0) hq nk pk lk ck).block _ b5lt |>.trans b5
  replace hbel := below_put hbel3 (q := q) (o := 0) (by omega) nk pk lk ck
  replace iK := iK.later (below_put hbK hq (o := 0) nk pk lk ck)
  have iO := HO.out.later hbel
  generalize hw4 : w3.setCells q 0 [.int .i64 nk, .slice pk lk ck] = w4 at v0 v1 h1' h4' b5' hbel iK iO
  clear h1 h4 hbel3 hbK hb1 k1 k2 HO hrow
  have hd2 := h1'.cell 2
  have hd5 := b5'.cell 2
  have hd6 := b5'.cell 3
  simp at hd2 hd5 hd6
  have R := below_setRow hbel (g := w.heap.size + 1) (by omega) #[.int .i64 n, .slice (some ⟨q, 0, none⟩) 2 cap, .int .i64 (kc + 1), .int .i64 (km + n)]
  have eq4 := setRow_other w4 (w.heap.size + 1) q #[.int .i64 n, .slice (some ⟨q, 0, none⟩) 2 cap, .int .i64 (kc + 1), .int .i64 (km + n)] (by omega)
  replace v0 := tat_same v0 eq4
  replace v1 := tat_same v1 eq4
  replace iK := iK.grow h4' #[.int .i64 n, .slice (some ⟨q, 0, none⟩) 2 cap, .int .i64 (kc + 1), .int .i64 (km + n)]
  replace iO := iO.grow h4' #[.int .i64 n, .slice (some ⟨q, 0, none⟩) 2 cap, .int .i64 (kc + 1), .int .i64 (km + n)]
  have b1 : -9223372036854775808 ≤ km + n ∧ km + n ≤ 9223372036854775807 := by omega
  clear hbel eq4 hq hcs hcap
  go_wp2_with (first | rw [hw4] | refine load_t _ rfl rfl _ _ rfl (Gx.tat0 b5) ?_ | refine store_at rfl _ _ rfl _ _ nk pk lk ck rfl rfl ht ?_ | refine store_g rfl _ _ rfl _ n (some ⟨q, 0, none⟩) 2 cap (kc + 1) (km + n) rfl rfl h4' ?_)
  obtain rfl := HZ.out
  exact bodyPost_ret (results_g rfl rfl (h4'.row _)) rfl ⟨_, _, _, _, by rw [← HC.out, ← HM.out]; rfl, ⟨q, 0, cap, nk, pk, lk, ck, n1, p1, l1, c1, rfl, v0, v1, iK, iO⟩, R⟩

set_option maxHeartbeats 8000000 in
set_option maxRecDepth 100000 in
theorem grownIn1 (a : EV) (n : Int) (gk : Gw) (g o c g' o' c' : Nat) (m0 : Int) (q0 : Option Addr) (k0 j0 : Nat) (n0 : Int) (p0 : Option Addr) (l0 c0 : Nat) (n1 : Int) (p1 : Option Addr) (l1 c1 : Nat) (w : World)
    (u0 : Tat w g (o + 2) m0 q0 k0 j0) (t0 : Tat w g' o' n0 p0 l0 c0) (t1 : Tat w g' (o' + 2) n1 p1 l1 c1) (hO : Is w a (TV n0 p0 l0 c0))
    (r0 : ∀ w1, Below w.heap.size w w1 → Calls Try.prog 80 #[WV m0 q0 k0 j0 n1 p1 l1 c1] w1 (GivesG gk w1)) (hn : 0 ≤ n ∧ n ≤ 1073741824) (hc : 0 ≤ gk.cost ∧ gk.cost ≤ 100000) (hm : 0 ≤ gk.count ∧ gk.count ≤ 1073741825) :
    Calls Try.prog 104 #[WV 0 (some ⟨g, o, none⟩) 2 c n (some ⟨g', o', none⟩) 2 c', .int .i64 1] w (GivesG (gB n a gk) w) := by
  obtain ⟨h1, h4, hbel⟩ := two_r w 61 #[.int .i64 0, .slice (some ⟨g, o, none⟩) 2 c, .int .i64 n, .slice (some ⟨g', o', none⟩) 2 c', CH] 78 #[.int .i64 0, .slice none 0 0, .int .i64 0, .int .i64 0] _ rfl
  have rh := fun w1 (hb : Below w.heap.size w w1) => half1 0 g o c n g' o' c' m0 q0 k0 j0 n1 p1 l1 c1 w1 (u0.later hb) (t1.later hb)
  have rc := fun w1 (hb : Below w.heap.size w w1) => clone2_any g' o' c' n0 p0 l0 c0 n1 p1 l1 c1 w1 (t0.later hb) (t1.later hb)
  obtain ⟨kc, HC⟩ : ∃ z, Hid (gk.cost = z) := ⟨_, rfl⟩
  obtain ⟨km, HM⟩ : ∃ z, Hid (gk.count = z) := ⟨_, rfl⟩
  obtain ⟨z, HZ⟩ : ∃ z, Hid ((gB n a gk : Gw) = z) := ⟨_, rfl⟩
  rw [HZ.out]
  have HO : Hid (Is w a (TV n0 p0 l0 c0)) := hO
  rw [HC.out] at hc
  rw [HM.out] at hm
  replace r0 : ∀ w1, Below w.heap.size w w1 → Calls Try.prog 80 #[WV m0 q0 k0 j0 n1 p1 l1 c1] w1 (fun e w' => ∃ n p l c, e = .returned (GV n p l c kc km) ∧ Is w' gk.ev (TV n p l c) ∧ Below w1.heap.size w1 w') := by
    rw [← HC.out, ← HM.out]
    exact r0
  clear u0 t0 t1 hO
  go_enter Try.func104, Try.ntmps104
  go_wp2_with (refine load_w _ rfl rfl _ rfl h1 ?_)
  refine (rh _ hbel).mono ?_
  rintro e1 w1 ⟨rfl, hb1⟩
  replace h1 := h1.later hb1
  replace h4 := h4.later hb1
  replace hbel := below_on hbel hb1
  clear hb1 rh
  go_wp2_with fail
  refine (r0 _ hbel).mono ?_
  rintro e1 w2 ⟨nk, pk, lk, ck, rfl, iK, hb1⟩
  replace h1 := h1.later hb1
  replace h4 := h4.later hb1
  replace hbel := below_on hbel hb1
  clear hb1 r0
  have m5 := rw_new w2 78 #[.int .i64 0, .slice none 0 0, .int .i64 0, .int .i64 0]
  have b5 := m5.row #[.int .i64 nk, .slice pk lk ck, .int .i64 kc, .int .i64 km]
  have hb1 : Below w2.heap.size w2 ((w2.alloc (.cells #[.int .i64 0, .slice none 0 0, .int .i64 0, .int .i64 0] 78)).setRow w2.heap.size #[.int .i64 nk, .slice pk lk ck, .int .i64 kc, .int .i64 km]) := below_setRow ((Below.refl _ _).alloc (Nat.le_refl _) _) (Nat.le_refl _) _
  generalize hw : (w2.alloc (.cells #[.int .i64 0, .slice none 0 0, .int .i64 0, .int .i64 0] 78)).setRow w2.heap.size #[.int .i64 nk, .slice pk lk ck, .int .i64 kc, .int .i64 km] = v at b5 hb1
  replace h1 := h1.later hb1
  replace h4 := h4.later hb1
  replace iK := iK.later hb1
  replace hbel := below_on hbel hb1
  clear hb1
  have hc3 := h1.cell 3
  simp at hc3
  go_wp2_with (first | rw [hw] | refine store_g rfl _ _ rfl _ nk pk lk ck kc km rfl rfl m5 ?_)
  clear m5 hw hc3
  have b5lt := b5.lt
  generalize w2.heap.size = q5 at b5 b5lt ⊢
  refine (rc _ hbel).mono ?_
  rintro e1 w3 ⟨q, cap, cur, rfl, hq, hrow, hcs, hcap, htk, hb1⟩
  obtain ⟨k1, k2⟩ := tat_take hrow htk
  have h4lt := h4.lt
  replace h1 := h1.later hb1
  replace h4 := h4.later hb1
  replace b5 := b5.later hb1
  have hbel3 := below_on hbel hb1
  have hbK := hb1
  clear rc htk
  have hcapI : ((1 : Nat) : Int) < ((2 : Nat) : Int) := by omega
  have ht := there_row hrow 2 (by omega)
  have v0 := tat_put (there_row hrow 2 (by omega)) nk pk lk ck
  have v1 := tat_apart k1 (q := q) (o := 2) (by omega) nk pk lk ck
  have h1' : Wx (w3.setCells q 2 [.int .i64 nk, .slice pk lk ck]) w.heap.size 0 (some ⟨g, o, none⟩) 2 c n (some ⟨g', o', none⟩) 2 c' := (below_put (Below.refl (w.heap.size + 1) w3) (q := q) (o := 2) (by omega) nk pk lk ck).block _ (by omega) |>.trans h1
  have h4' : Gx (w3.setCells q 2 [.int .i64 nk, .slice pk lk ck]) (w.heap.size + 1) 0 none 0 0 0 0 := (below_put (Below.refl (w.heap.size + 2) w3) (q := q) (o := 2) (by omega) nk pk lk ck).block _ (by omega) |>.trans h4
  have b5' : Gx (w3.setCells q 2 [.int .i64 nk, .slice pk lk ck]) q5 nk pk lk ck kc km := (below_put (Below.refl v.heap.size w3) (q := q) (o := 2) hq nk pk lk ck).block _ b5lt |>.trans b5
  replace hbel := below_put hbel3 (q := q) (o := 2) (by omega) nk pk lk ck
  replace iK := iK.later (below_put hbK hq (o := 2) nk pk lk ck)
  have iO := HO.out.later hbel
  generalize hw4 : w3.setCells q 2 [.int .i64 nk, .slice pk lk ck] = w4 at v0 v1 h1' h4' b5' hbel iK iO
  clear h1 h4 hbel3 hbK hb1 k1 k2 HO hrow
  have hd2 := h1'.cell 2
  have hd5 := b5'.cell 2
  have hd6 := b5'.cell 3
  simp at hd2 hd5 hd6
  have R := below_setRow hbel (g := w.heap.size + 1) (by omega) #[.int .i64 n, .slice (some ⟨q, 0, none⟩) 2 cap, .int .i64 (kc + 1), .int .i64 (km + n)]
  have eq4 := setRow_other w4 (w.heap.size + 1) q #[.int .i64 n, .slice (some ⟨q, 0, none⟩) 2 cap, .int .i64 (kc + 1), .int .i64 (km + n)] (by omega)
  replace v0 := tat_same v0 eq4
  replace v1 := tat_same v1 eq4
  replace iK := iK.grow h4' #[.int .i64 n, .slice (some ⟨q, 0, none⟩) 2 cap, .int .i64 (kc + 1), .int .i64 (km + n)]
  replace iO := iO.grow h4' #[.int .i64 n, .slice (some ⟨q, 0, none⟩) 2 cap, .int .i64 (kc + 1), .int .i64 (km + n)]
  have b1 : -9223372036854775808 ≤ km + n ∧ km + n ≤ 9223372036854775807 := by omega
  clear hbel eq4 hq hcs hcap
  go_wp2_with (first | rw [hw4] | refine load_t _ rfl rfl _ _ rfl (Gx.tat0 b5) ?_ | refine store_at rfl _ _ rfl _ _ nk pk lk ck rfl rfl ht ?_ | refine store_g rfl _ _ rfl _ n (some ⟨q, 0, none⟩) 2 cap (kc + 1) (km + n) rfl rfl h4' ?_)
  obtain rfl := HZ.out
  exact bodyPost_ret (results_g rfl rfl (h4'.row _)) rfl ⟨_, _, _, _, by rw [← HC.out, ← HM.out]; rfl, ⟨q, 0, cap, n0, p0, l0, c0, nk, pk, lk, ck, rfl, v1, v0, iO, iK⟩, R⟩
end Go.Proofs.Ytohmcpjkijndjaa
/- The function clone of package stamp: a tree that is the same, all of it new. -/
namespace Go.Proofs.Ytohmcpjkijndjaa
open Go.RowKit
open Idn (ID)

/-- No node has many Kids. -/
def nar : Tr → Prop
  | ⟨_, len, kids⟩ => len ≤ 1000 ∧ ∀ i, nar (kids i)
/-- The call answers the tree t, all of it new. -/
abbrev GivesN (t : Tr) (w : World) (e : Ending) (w' : World) : Prop := ∃ n p l c, e = .returned (TV n p l c) ∧ Nw w.heap.size w' (fun w2 => Lies w2 t (TV n p l c)) ∧ Below w.heap.size w w'
theorem size_put (w : World) (q o : Nat) (u v : Value) : (w.setCells q o [u, v]).heap.size = w.heap.size := by
  unfold World.setCells World.setCells World.setCells
  simp [World.setCell]
theorem put_other {w : World} {b k : Nat} (h : k ≠ b) (o : Nat) (u v : Value) : (w.setCells b o [u, v]).heap[k]? = w.heap[k]? := by
  unfold World.setCells World.setCells World.setCells
  rw [Below.heap_setCell _ _ _ _ h, Below.heap_setCell _ _ _ _ h]
theorem Nw.put {M : Nat} {w : World} {P : World → Prop} (h : Nw M w P) {q : Nat} (hq : q < M) (o : Nat) (u v : Value) : Nw M (w.setCells q o [u, v]) P := fun w2 h2 => h w2 fun b h0 h1 => (h2 b h0 (by rw [size_put]; exact h1)).trans (put_other (by omega) o u v)
theorem rw_put {w : World} {b : Nat} {t : TypeId} {cs : Array Value} (h : Rw w b t cs) (o : Nat) (u v : Value) : ∃ cs', Rw (w.setCells b o [u, v]) b t cs' ∧ cs'.size = cs.size := by
  refine ⟨(cs.setIfInBounds o u).setIfInBounds (o + 1) v, ?_, by simp⟩
  unfold Rw at *
  unfold World.setCells World.setCells World.setCells
  simp [World.setCell, Array.getElem?_modify, h]
theorem lies_val {w : World} {t : Tr} {n : Int} {p : Option Addr} {l c : Nat} (h : Lies w t (TV n p l c)) : n = t.n ∧ l = t.len := by
  obtain ⟨m, len, kids⟩ := t
  obtain ⟨_, _, p', c', e, _⟩ := h
  simp at e
  exact ⟨e.1, e.2.2.1⟩

set_option maxHeartbeats 4000000 in
set_option maxRecDepth 100000 in
theorem copy_leaf (n : Int) (p : Option Addr) (c : Nat) (w : World) : Calls Try.prog 33 #[TV n p 0 c] w (Tells (TV n none 0 0) w) := by
  obtain ⟨h1, h2, hbel⟩ := two_box w n p 0 c 0 none 0 0 _ rfl
  have s0 := fun w1 => sIsLeaf_any n p 0 c w1
  simp only [decide_true] at s0
  go_enter Try.func33, Try.ntmps33
  go_wp2_with (refine load_t _ rfl rfl _ _ rfl h1.tat ?_)
  refine (s0 _).mono ?_
  rintro e w1 ⟨rfl, hb1⟩
  replace h1 := h1.later hb1
  replace h2 := h2.later hb1
  replace hbel := below_on hbel hb1
  clear hb1 s0
  have g0 := h1.cell0
  go_wp2_with fail
  refine (sLeaf_any n _).mono ?_
  rintro e w2 ⟨rfl, hb1⟩
  replace h2 := h2.later hb1
  replace hbel := below_on hbel hb1
  have R := below_setRow hbel (g := w.heap.size + 1) (by omega) #[.int .i64 n, .slice none 0 0]
  clear hb1 g0 h1 hbel
  go_wp2_with (refine store_t rfl _ _ rfl _ n none 0 0 rfl rfl h2 ?_)
  exact bodyPost_ret (results_t rfl rfl (h2.row _ _ _ _)) rfl ⟨rfl, R⟩
set_option maxHeartbeats 8000000 in
set_option maxRecDepth 100000 in
theorem copy_tr : ∀ (t : Tr) (n : Int) (p : Option Addr) (l c : Nat) (w : World), Lies w t (TV n p l c) → nar t → Calls Try.prog 33 #[TV n p l c] w (GivesN t w)
  | ⟨m, len, kids⟩, n, p, l, c, w, ⟨hnb, hl, p', c', e, hk⟩, hnar => by
    have RR : Hid (∀ (i : Nat) (hi : i < len) (n0 : Int) (p0 : Option Addr) (l0 c0 : Nat) (w1 : World), Lies w1 (kids ⟨i, hi⟩) (TV n0 p0 l0 c0) → Calls Try.prog 33 #[TV n0 p0 l0 c0] w1 (GivesN (kids ⟨i, hi⟩) w1)) := fun i hi n0 p0 l0 c0 w1 h => copy_tr (kids ⟨i, hi⟩) n0 p0 l0 c0 w1 h (hnar.2 ⟨i, hi⟩)
    simp at e
    obtain ⟨rfl, rfl, rfl, rfl⟩ := e
    have hlen : l ≤ 1000 := hnar.1
    by_cases h0 : l = 0
    · subst h0
      exact (copy_leaf n p c w).mono fun e w' ⟨he, hb⟩ => ⟨n, none, 0, 0, he, fun w2 _ => ⟨hnb, hl, none, 0, rfl, fun h => by omega⟩, hb⟩
    obtain ⟨g, o, rfl, hks⟩ := hk (by omega)
    have rr : ∀ i, (hi : i < l) → ∃ n0 p0 l0 c0, Tat w g (o + i * 2) n0 p0 l0 c0 ∧ ∀ w1, Below w.heap.size w w1 → Calls Try.prog 33 #[TV n0 p0 l0 c0] w1 (GivesN (kids ⟨i, hi⟩) w1) := by
      intro i hi
      obtain ⟨n0, p0, l0, c0, t0, k0⟩ := hks i hi
      exact ⟨n0, p0, l0, c0, t0, fun w1 hb => RR.out i hi n0 p0 l0 c0 w1 (k0.later hb)⟩
    have HR : Hid (∀ i, (hi : i < l) → ∃ n0 p0 l0 c0, Tat w g (o + i * 2) n0 p0 l0 c0 ∧ ∀ w1, Below w.heap.size w w1 → Calls Try.prog 33 #[TV n0 p0 l0 c0] w1 (GivesN (kids ⟨i, hi⟩) w1)) := rr
    clear rr RR hk hks
    have HL : Hid (l ≤ maxLen) := hl
    have HNB : Hid (-9223372036854775808 ≤ n ∧ n ≤ 9223372036854775807) := hnb
    have hl1 : ¬ (l = 0) := h0
    obtain ⟨i0, hi, hz0, hz1, hz2⟩ := info_parts info24
    have hby : i0.bytes * l ≤ 281474976710656 := by rw [hz2]; omega
    clear hnar hnb hl h0
    obtain ⟨h1, h2, hbel⟩ := two_box w n (some ⟨g, o, none⟩) l c 0 none 0 0 _ rfl
    have s0 := fun w1 => sIsLeaf_any n (some ⟨g, o, none⟩) l c w1
    simp only [hl1, decide_false] at s0
    go_enter Try.func33, Try.ntmps33
    go_wp2_with (refine load_t _ rfl rfl _ _ rfl h1.tat ?_)
    refine (s0 _).mono ?_
    rintro e w1 ⟨rfl, hb1⟩
    replace h1 := h1.later hb1
    replace h2 := h2.later hb1
    replace hbel := below_on hbel hb1
    clear hb1 s0
    have g1 := h1.cell1
    have hsz := h2.lt
    go_wp2_with (at_make; refine wpList_make_full _ rfl _ _ 22 rfl w1.heap.size 24 i0 (.agg #[.int .i64 0, .slice none 0 0]) 2 Try.underlying22 hi hz0 hz1 .i64 .i64 (l : Int) (l : Int) l rfl rfl rfl rfl hby HL.out (Nat.le_refl _) ?_)
    intro w2 hown hgrow
    replace hown := hown.2
    have hb1 : Below w1.heap.size w1 w2 := (Below.refl _ _).grown hgrow (Nat.le_refl _) (fun k hk => by cases hk)
    obtain ⟨cur, hrow, hcs⟩ : ∃ cur, Rw w2 w1.heap.size 24 cur ∧ cur.size = l * 2 := by
      rcases hown with ⟨h, _⟩ | ⟨q', cap', cur, hv, _, hrow, _, _, hs, _⟩
      · simp at h
      · simp at hv
        obtain ⟨rfl, rfl⟩ := hv
        exact ⟨cur, hrow, hs⟩
    replace h1 := h1.later hb1
    replace h2 := h2.later hb1
    replace hbel := below_on hbel hb1
    clear hb1 g1 hown hgrow hi hz0 hz1 hz2 hby
    have hq : w.heap.size + 2 ≤ w1.heap.size := by omega
    clear hsz
    generalize w1.heap.size = q at hrow hq ⊢
    have g1 := h1.cell1
    go_wp2_with fail
    go_loopw [18] (fun vi wr => ∃ k : Nat, vi = .int .i64 k ∧ k ≤ l ∧ Bx wr w.heap.size n (some ⟨g, o, none⟩) l c ∧ Bx wr (w.heap.size + 1) 0 none 0 0 ∧ (∃ cur, Rw wr q 24 cur ∧ cur.size = l * 2) ∧ Hid (∀ i, (hi : i < l) → i < k → ∃ n0 p0 l0 c0, Tat wr q (i * 2) n0 p0 l0 c0 ∧ Nw (q + 1) wr (fun w2 => Lies w2 (kids ⟨i, hi⟩) (TV n0 p0 l0 c0))) ∧ Below w.heap.size w wr) (fun vi _ => l - (intOf vi).toNat)
    case atStart => exact ⟨0, rfl, by omega, h1, h2, ⟨cur, hrow, hcs⟩, (show ∀ i, _ from fun i hi h => by omega), hbel⟩
    case round =>
      clear h1 h2 hbel hrow hcs g1
      obtain ⟨k, rfl, hk, h1, h2, ⟨cur, hrow, hcs⟩, HI, hbel⟩ := hrel
      by_cases hlt : k < l
      · obtain ⟨n0, p0, l0, c0, t0, hC⟩ := HR.out k hlt
        replace t0 := t0.later hbel
        have hi1 : (k : Int) < (l : Int) := by omega
        have m5 := bx_new wr 0 none 0 0
        have b5 := new_box wr n0 p0 l0 c0
        have hb1 := new_below wr n0 p0 l0 c0
        generalize hw : (wr.alloc (.cells #[.int .i64 0, .slice none 0 0] 24)).setRow wr.heap.size #[.int .i64 n0, .slice p0 l0 c0] = v at b5 hb1
        have hqlt := hrow.lt
        have hbq := hb1.size
        replace h1 := h1.later hb1
        replace h2 := h2.later hb1
        replace hrow := hrow.later hb1
        replace hbel := below_on hbel hb1
        have HI2 : Hid (∀ i, (hi : i < l) → i < k → ∃ n0 p0 l0 c0, Tat v q (i * 2) n0 p0 l0 c0 ∧ Nw (q + 1) v (fun w2 => Lies w2 (kids ⟨i, hi⟩) (TV n0 p0 l0 c0))) := show ∀ i, _ from fun i hi h => by
          obtain ⟨n0, p0, l0, c0, ht, hn⟩ := HI.out i hi h
          exact ⟨n0, p0, l0, c0, ht.later hb1, hn.later hb1⟩
        replace hC := hC v hbel
        clear hb1 HI HR
        go_wp2_with (first | rw [hw] | refine load_t _ rfl rfl _ _ rfl t0 ?_ | refine store_t rfl _ _ rfl _ n0 p0 l0 c0 rfl rfl m5 ?_ | refine load_t _ rfl rfl _ _ rfl b5.tat ?_)
        clear m5 hw t0
        refine hC.mono ?_
        rintro e w3 ⟨n1, p1, l1, c1, rfl, hN, hb1⟩
        replace h1 := h1.later hb1
        replace h2 := h2.later hb1
        replace hrow := hrow.later hb1
        replace hbel := below_on hbel hb1
        have HI3 : Hid (∀ i, (hi : i < l) → i < k → ∃ n0 p0 l0 c0, Tat w3 q (i * 2) n0 p0 l0 c0 ∧ Nw (q + 1) w3 (fun w2 => Lies w2 (kids ⟨i, hi⟩) (TV n0 p0 l0 c0))) := show ∀ i, _ from fun i hi h => by
          obtain ⟨n0, p0, l0, c0, ht, hn⟩ := HI2.out i hi h
          exact ⟨n0, p0, l0, c0, ht.later hb1, hn.later hb1⟩
        replace hN := hN.mono (M := q + 1) (by omega)
        clear hb1 HI2 hC b5
        have hth : w3.there q (k * 2) 2 := there_row hrow _ (by omega)
        have v0 := tat_put hth n1 p1 l1 c1
        obtain ⟨cur2, hrow2, hcs2⟩ := rw_put hrow (k * 2) (.int .i64 n1) (.slice p1 l1 c1)
        have HI4 : Hid (∀ i, (hi : i < l) → i < k + 1 → ∃ n0 p0 l0 c0, Tat (w3.setCells q (k * 2) [.int .i64 n1, .slice p1 l1 c1]) q (i * 2) n0 p0 l0 c0 ∧ Nw (q + 1) (w3.setCells q (k * 2) [.int .i64 n1, .slice p1 l1 c1]) (fun w2 => Lies w2 (kids ⟨i, hi⟩) (TV n0 p0 l0 c0))) := show ∀ i, _ from fun i hi h => by
          by_cases e : i = k
          · subst e
            exact ⟨n1, p1, l1, c1, v0, hN.put (by omega) _ _ _⟩
          · obtain ⟨n0, p0, l0, c0, ht, hn⟩ := HI3.out i hi (by omega)
            exact ⟨n0, p0, l0, c0, tat_apart ht (by omega) _ _ _ _, hn.put (by omega) _ _ _⟩
        have x1 : Bx (w3.setCells q (k * 2) [.int .i64 n1, .slice p1 l1 c1]) w.heap.size n (some ⟨g, o, none⟩) l c := (put_other (by omega) _ _ _).trans h1
        have x2 : Bx (w3.setCells q (k * 2) [.int .i64 n1, .slice p1 l1 c1]) (w.heap.size + 1) 0 none 0 0 := (put_other (by omega) _ _ _).trans h2
        have hbel2 := below_put hbel (q := q) (o := k * 2) (by omega) n1 p1 l1 c1
        generalize hw4 : w3.setCells q (k * 2) [.int .i64 n1, .slice p1 l1 c1] = w4 at v0 hrow2 HI4 x1 x2 hbel2
        clear HI3 hN v0 h1 h2 hrow hbel
        go_wp2_with (first | rw [hw4] | refine store_at rfl _ _ rfl _ _ n1 p1 l1 c1 rfl rfl hth ?_)
        go_roundw
        case rel => exact ⟨k + 1, by simp, by omega, x1, x2, ⟨cur2, hrow2, by omega⟩, HI4, hbel2⟩
        case measure => simp [intOf]; omega
      · have hk' : k = l := by omega
        subst hk'
        have g0 := h1.cell0
        have hql := hrow.lt
        have R := below_setRow hbel (g := w.heap.size + 1) (by omega) #[.int .i64 n, .slice (some ⟨q, 0, none⟩) k k]
        have HP : Hid (Nw w.heap.size (wr.setRow (w.heap.size + 1) #[.int .i64 n, .slice (some ⟨q, 0, none⟩) k k]) (fun w2 => Lies w2 ⟨n, k, kids⟩ (TV n (some ⟨q, 0, none⟩) k k))) := show Nw _ _ _ from fun w2 hw2 => by
          refine ⟨HNB.out, HL.out, some ⟨q, 0, none⟩, k, rfl, fun _ => ⟨q, 0, rfl, fun i hi => ?_⟩⟩
          obtain ⟨n0, p0, l0, c0, ht, hn⟩ := HI.out i hi hi
          have eq : w2.heap[q]? = wr.heap[q]? := (hw2 q (by omega) (by simpa using hql)).trans (setRow_other _ _ _ _ (by omega))
          refine ⟨n0, p0, l0, c0, ?_, hn w2 fun b h0 h1 => (hw2 b (by omega) (by simpa using h1)).trans (setRow_other _ _ _ _ (by omega))⟩
          rw [Nat.zero_add]
          exact tat_same ht eq
        clear HR HI hbel
        go_wp2_with (refine store_t rfl _ _ rfl _ n (some ⟨q, 0, none⟩) k k rfl rfl h2 ?_)
        exact bodyPost_ret (results_t rfl rfl (h2.row _ _ _ _)) rfl ⟨_, _, _, _, rfl, HP.out, R⟩
end Go.Proofs.Ytohmcpjkijndjaa
